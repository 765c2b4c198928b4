/- Rows of tokens of the call's own: appended to, read. -/
import Derived.Test.YtokkbipdkakenaaGreatDoorBW
import Derived.Test.YtokkbipdkakenaaGreatDoorKD
namespace Go.Proofs.YtokkbipdkakenaaGreatDoor
open Go.RowKit

/-- tokens as cells -/
def toksV : List Tok → List Value
  | [] => []
  | t :: l => .int .i64 t.k :: .string ⟨t.t.toArray⟩ :: .int .i64 t.x.1 :: .int .i64 t.x.2.1 :: .string ⟨t.x.2.2.toArray⟩ :: .int .i64 (t.a : Int) :: toksV l
theorem toksV_len (l : List Tok) : (toksV l).length = l.length * 6 := by
  induction l with
  | nil => rfl
  | cons x l ih => simp only [toksV, List.length_cons, ih]; omega
theorem toksV_app (a b : List Tok) : toksV (a ++ b) = toksV a ++ toksV b := by
  induction a with
  | nil => rfl
  | cons x a ih => simp only [List.cons_append, toksV, ih]
theorem toksV_one {l : List Tok} : ∀ u ∈ toksV l, u.oneCell' = true := by
  induction l with
  | nil => intro u hu; simp [toksV] at hu
  | cons x l ih =>
    intro u hu
    simp only [toksV, List.mem_cons] at hu
    rcases hu with rfl | rfl | rfl | rfl | rfl | rfl | hu
    all_goals first | rfl | exact ih u hu
theorem toksV_get {l : List Tok} {i : Nat} {t : Tok} (h : l[i]? = some t) : (toksV l)[i * 6]? = some (.int .i64 t.k) ∧ (toksV l)[i * 6 + 1]? = some (.string ⟨t.t.toArray⟩) ∧ (toksV l)[i * 6 + 2]? = some (.int .i64 t.x.1) ∧
    (toksV l)[i * 6 + 3]? = some (.int .i64 t.x.2.1) ∧ (toksV l)[i * 6 + 4]? = some (.string ⟨t.x.2.2.toArray⟩) ∧ (toksV l)[i * 6 + 5]? = some (.int .i64 (t.a : Int)) := by
  induction l generalizing i with
  | nil => simp at h
  | cons y l ih => cases i with
    | zero => simp at h; subst h; exact ⟨rfl, rfl, rfl, rfl, rfl, rfl⟩
    | succ i =>
      simp only [List.getElem?_cons_succ] at h
      have := ih h
      have e : (i + 1) * 6 = i * 6 + 1 + 1 + 1 + 1 + 1 + 1 := by omega
      rw [e]
      simp only [toksV, List.getElem?_cons_succ]
      exact this
/-- tokens that can be read at A, below block B -/
def RdT (w : World) (B : Nat) (A : Option Addr) (l : List Tok) : Prop := l ≠ [] → ∃ b o, A = some ⟨b, o, none⟩ ∧ b < B ∧ ∀ j u, (toksV l)[j]? = some u → w.cell? ⟨b, o + j, none⟩ = some u
theorem RdT.keep {w w' : World} {B : Nat} {A : Option Addr} {l : List Tok} (h : RdT w B A l) (hk : ∀ k, k < B → w'.heap[k]? = w.heap[k]?) : RdT w' B A l := fun hn => by
  obtain ⟨b, o, e, hb, hc⟩ := h hn
  exact ⟨b, o, e, hb, fun j u hj => (World.cell?_of_block (a := ⟨b, o + j, none⟩) (hk b hb)).trans (hc j u hj)⟩
theorem RdT.below {w w' : World} {B C : Nat} {A : Option Addr} {l : List Tok} (h : RdT w B A l) (hb : Below C w w') (hC : B ≤ C) : RdT w' B A l := h.keep fun k hk => hb.block k (by omega)
theorem RdT.more {w : World} {B C : Nat} {A : Option Addr} {l : List Tok} (h : RdT w B A l) (hC : B ≤ C) : RdT w C A l := fun hn => by
  obtain ⟨b, o, e, hb, hc⟩ := h hn
  exact ⟨b, o, e, by omega, hc⟩
theorem RdT.at_ {w : World} {B k : Nat} {A : Option Addr} {l : List Tok} {t : Tok} (h : RdT w B A l) (hx : l[k]? = some t) : ∃ b o, A = some ⟨b, o, none⟩ ∧ w.cell? ⟨b, o + k * 6, none⟩ = some (.int .i64 t.k) ∧ w.cell? ⟨b, o + k * 6 + 1, none⟩ = some (.string ⟨t.t.toArray⟩) ∧
    w.cell? ⟨b, o + k * 6 + 2, none⟩ = some (.int .i64 t.x.1) ∧ w.cell? ⟨b, o + k * 6 + 3, none⟩ = some (.int .i64 t.x.2.1) ∧ w.cell? ⟨b, o + k * 6 + 4, none⟩ = some (.string ⟨t.x.2.2.toArray⟩) ∧ w.cell? ⟨b, o + k * 6 + 5, none⟩ = some (.int .i64 (t.a : Int)) := by
  obtain ⟨b, o, e, _, hc⟩ := h (fun e => by subst e; simp at hx)
  obtain ⟨g0, g1, g2, g3, g4, g5⟩ := toksV_get hx
  have h0 := hc _ _ g0
  have h1 := hc _ _ g1
  have h2 := hc _ _ g2
  have h3 := hc _ _ g3
  have h4 := hc _ _ g4
  have h5 := hc _ _ g5
  simp only [← Nat.add_assoc] at h1 h2 h3 h4 h5
  exact ⟨b, o, e, h0, h1, h2, h3, h4, h5⟩
/-- a row of tokens of the call's own -/
def OwnT (w : World) (B : Nat) (v : Value) (l : List Tok) : Prop := w.ownsRow B 35 6 v l.length (toksV l) ∧ ∃ A cap, v = .slice A l.length cap ∧ l.length ≤ cap
theorem OwnT.of_row {w : World} {B n : Nat} {v : Value} {l : List Tok} (h : w.ownsRow B 35 6 v n (toksV l)) : OwnT w B v l := by
  have hn : n = l.length := by have := h.1; rw [toksV_len] at this; omega
  subst hn
  refine ⟨h, ?_⟩
  rcases h.2 with ⟨rfl, h0⟩ | ⟨g, cap, cur, rfl, _, _, hc, _⟩
  · exact ⟨none, 0, by rw [h0], by omega⟩
  · exact ⟨_, _, rfl, hc⟩
theorem OwnT.nil (w : World) (B : Nat) : OwnT w B (.slice none 0 0) [] := OwnT.of_row (n := 0) ⟨by simp [toksV], .inl ⟨rfl, rfl⟩⟩
theorem OwnT.below {w w' : World} {B : Nat} {v : Value} {l : List Tok} (h : OwnT w B v l) (hb : Below w.heap.size w w') : OwnT w' B v l := ⟨own_below h.1 hb, h.2⟩
theorem OwnT.ge {w : World} {B : Nat} {v : Value} {l : List Tok} (h : OwnT w B v l) : ∀ k, v.ownBlock = some k → B ≤ k := by
  rcases h.1.2 with ⟨rfl, _⟩ | ⟨g, c, cur, rfl, hg, _⟩
  · intro k e; cases e
  · intro k e
    have : g = k := by simpa [Value.ownBlock] using e
    omega
theorem OwnT.lt {w : World} {B : Nat} {v : Value} {l : List Tok} (h : OwnT w B v l) : ∀ k, v.ownBlock = some k → k < w.heap.size := by
  rcases h.1.2 with ⟨rfl, _⟩ | ⟨g, c, cur, rfl, _, hh, _⟩
  · intro k e; cases e
  · intro k e
    have : g = k := by simpa [Value.ownBlock] using e
    subst this
    exact (Array.getElem?_eq_some_iff.1 hh).1
theorem OwnT.rd {w : World} {B : Nat} {A : Option Addr} {n cap : Nat} {l : List Tok} (h : OwnT w B (.slice A n cap) l) : RdT w w.heap.size A l := fun hn => by
  rcases h.1.2 with ⟨_, h0⟩ | ⟨g, c, cur, e, _, hh, _, _, _, ht⟩
  · exact absurd (List.length_eq_zero_iff.1 h0) hn
  · injection e with e1
    subst e1
    refine ⟨g, 0, rfl, (Array.getElem?_eq_some_iff.1 hh).1, fun j u hj => ?_⟩
    have h2 := h.1.cells (g := g) rfl j u hj
    rw [add_plain] at h2
    rwa [Nat.zero_add]
theorem infoT : (Tryz.prog.info? 35).map (fun i => (i.zero, i.size, i.bytes)) = some (some (.agg #[.int .i64 0, .string ⟨#[]⟩, .int .i64 0, .int .i64 0, .string ⟨#[]⟩, .int .i64 0]), 6, 64) := by kernel_rfl
/-- append of one token that lies in a block -/
theorem run_appendT {w : World} (ty : TypeId) {B : Nat} {v : Value} {xs : List Tok} (hown : OwnT w B v xs) {G c : Nat} {t : Tok} {fr : Nat × Nat} (hG : w.heap[G]? = some (.cells (toksV [t]).toArray 35 fr)) (h63 : (xs.length + 1) * 64 ≤ 140737488355328) (hbase : B ≤ w.heap.size) :
    ∃ v' w', (Builtin.append_ #[28, 28] ty #[v, .slice (some ⟨G, 0, none⟩) 1 c]).run Tryz.prog w = .ok v' w' ∧ OwnT w' B v' (xs ++ [t]) ∧ Grew w v w' v' := by
  obtain ⟨i0, hi, hz, hs, hb⟩ := info_parts infoT
  have hcells : ∀ j u, (toksV [t])[j]? = some u → w.cell? ((⟨G, 0, none⟩ : Addr).add j) = some u := by
    intro j u hu
    rw [add_plain]
    simp only [World.cell?, hG]
    rw [← Array.getElem?_toList] 
    simpa using hu
  obtain ⟨v', w', hrun, h2, h3, _, h5⟩ := run_append_own_at (P := Tryz.prog) w B 28 ty 35 i0 _ 6 64 Tryz.underlying28 hi hz hs hb rfl (by omega) v xs.length (toksV xs) hown.1 ⟨G, 0, none⟩ 1 c (toksV [t]) (toksV_len [t]) hcells toksV_one (by unfold maxLen; omega) (by omega) hbase
  rw [← toksV_app] at h2
  exact ⟨v', w', hrun, OwnT.of_row h2, grew_of h3 h5⟩
end Go.Proofs.YtokkbipdkakenaaGreatDoor
