/- Package table: remove, Drop. -/
import Derived.Test.YtkohppalfcalbaaGreatPQ
import Derived.Test.YtkohppalfcalbaaGreatGSM
import Derived.Test.YtkohppalfcalbaaGreatJZ
import Derived.Test.YtkohppalfcalbaaGreatPV
import Derived.Test.YtkohppalfcalbaaGreatPM1
namespace Go.Proofs.YtkohppalfcalbaaGreat
section
open Go.RowKit

theorem JoT.then {w w1 w2 : World} {G G1 D : Nat → Prop} {q c k : Nat} {L : List Ent} {e : Ending} (hg : ∀ j, G1 j → G j ∨ w.heap.size ≤ j) (hO : Only G w w1) (h : JoT w1 G1 D q c L k e w2) : JoT w G D q c L k e w2 := by
  obtain ⟨he, G', P', ps', h1, h2, h3, h4, h5, h6⟩ := h
  have hs := hO.size
  refine ⟨he, G', P', ps', h1, h2, h3, h4, fun j hj => ?_, hO.trans h6 (fun j hj e => (hg j e).resolve_right (by omega))⟩
  rcases h5 j hj with e | e
  · exact hg j e
  · exact .inr (by omega)
/-- a page out of the row -/
theorem AtPg.out {w W w11 : World} {G3 G D : Nat → Prop} {q P c i j o cap pc : Nat} {A : Option Addr} {p : Pg} {ps : List Pg} (h : AtPg w W G3 G D q P c i j o cap A pc p ps) (he : p.es = []) (hf : ∀ k x, ps[k]? = some x → k ≠ i → x.es ≠ [] ∧ x.es.length ≤ 128)
    (ho : OwnC w11 P o cap 1 (ps.length - 1) (pagesV (ps.take i ++ ps.drop (i + 1)))) (hO : Only (· = P) W w11) : JoT w G D q c (flat ps) 0 (.returned (.tuple #[])) (w11.setCell ⟨q, 0, none⟩ (.slice (some ⟨P, o, none⟩) (ps.length - 1) cap)) := by
  have hlt := (List.getElem?_eq_some_iff.1 h.hp).1
  have hlen : (ps.take i ++ ps.drop (i + 1)).length = ps.length - 1 := by rw [List.length_append, List.length_take, List.length_drop]; omega
  have hmem : ∀ x ∈ ps.take i ++ ps.drop (i + 1), x ∈ ps := fun x hx => by
    rcases List.mem_append.1 hx with hx | hx
    · exact List.mem_of_mem_take hx
    · exact List.mem_of_mem_drop hx
  obtain ⟨G4, h5, h6, h7⟩ := h.t.setRow h.box (hO.more (fun k _ e => ⟨e, by rw [e]; exact h.pq⟩)) (P' := P) (v' := .slice (some ⟨P, o, none⟩) (ps.length - 1) cap) (.inr ⟨h.pq, o, cap, rfl, ho⟩) hlen.symm (.inl rfl) (fun x hx => .inl (hmem x hx)) (by
    have h8 := h.t.apart
    have e1 : ps.map Pg.g = (ps.take i).map Pg.g ++ (ps.drop i).map Pg.g := by rw [← List.map_append, List.take_append_drop]
    rw [e1] at h8
    rw [List.map_append]
    rw [List.nodup_append] at h8 ⊢
    have e2 : ps.drop (i + 1) = (ps.drop i).drop 1 := by rw [List.drop_drop]
    refine ⟨h8.1, ?_, fun a ha b hb2 => h8.2.2 a ha b ?_⟩
    · rw [e2, List.map_drop]
      exact h8.2.1.sublist (List.drop_sublist 1 _)
    · rw [e2, List.map_drop] at hb2
      exact List.mem_of_mem_drop hb2)
  have hfl : flat ps = flat (ps.take i ++ ps.drop (i + 1)) := by rw [flat_at h.hp, he, flat_app]; rfl
  refine ⟨rfl, G4, P, _, h5, hfl.symm, fun x hx => ?_, Nat.zero_le _, fun k hk => ?_, h.o_.trans h7 (fun k hk e => ?_)⟩
  · rcases List.mem_append.1 hx with hx | hx
    · obtain ⟨k, hk⟩ := List.mem_iff_getElem?.1 hx
      rw [List.getElem?_take] at hk
      split at hk
      · exact hf k x hk (by omega)
      · cases hk
    · obtain ⟨k, hk⟩ := List.mem_iff_getElem?.1 hx
      rw [List.getElem?_drop] at hk
      exact hf _ x hk (by omega)
  · rcases h6 k hk with e | rfl | ⟨x, hx, rfl⟩
    · exact h.g k e
    · exact h.g _ h.t.gP
    · exact h.g _ (h.t.page x (hmem x hx)).2.2
  · rcases e with rfl | rfl
    · exact (h.g _ h.t.gP).resolve_right (by omega)
    · exact (h.g _ h.t.gq).resolve_right (by omega)
end

section
open Go.RowKit

def dropK : List (List UInt8 × List UInt8) → List UInt8 → List (List UInt8 × List UInt8)
  | [], _ => []
  | x :: l, k => if cmpB x.1 k = 0 then l else x :: dropK l k
theorem kv_era {L : List Ent} {k : List UInt8} : ∀ {m : Nat} {e : Ent}, SplitB L k m → L[m]? = some e → cmpB e.k k = 0 → kv (L.eraseIdx m) = dropK (kv L) k := by
  induction L with
  | nil => intro m e _ h; simp at h
  | cons x L ih =>
    intro m e h he h0
    cases m with
    | zero =>
      simp at he
      subst he
      simp only [kv, List.eraseIdx_cons_zero, List.map_cons, dropK]
      rw [if_pos h0]
    | succ m =>
      have h1 := h.lo 0 x rfl (by omega)
      have h2 : SplitB L k m := ⟨by have := h.le; simp at this; omega, fun j e hj hlt => h.lo (j + 1) e (by simpa using hj) (by omega), fun j e hj hle => h.hi (j + 1) e (by simpa using hj) (by omega)⟩
      have h3 := ih h2 (by simpa using he) h0
      simp only [kv, List.eraseIdx_cons_succ, List.map_cons, dropK]
      rw [if_neg (by omega)]
      simp only [kv] at h3
      rw [h3]
/-- what Drop answers -/
def DropT (w : World) (G D : Nat → Prop) (q : Nat) (l : List (List UInt8 × List UInt8)) (key : List UInt8) (en : Ending) (w' : World) : Prop := ∃ (G' : Nat → Prop) (P' : Nat) (ps' : List Pg) (A : Option Addr) (n c : Nat), en = .returned (.tuple #[.slice A n c, .bool (getK l key).isSome]) ∧ Tbl w' G' D q P' ps' ∧ kv (flat ps') = dropK l key ∧ (∀ j, G' j → G j ∨ w.heap.size ≤ j) ∧ Only G w w' ∧ RdB w' w'.heap.size A ((getK l key).getD []) ∧ ((getK l key).getD []).length = n
theorem DropT.old {w w1 w' : World} {G D : Nat → Prop} {q P m c : Nat} {ps : List Pg} {key : List UInt8} {e : Ent} {en : Ending} (h : Tbl w G D q P ps) (hs : SplitB (flat ps) key m) (he : (flat ps)[m]? = some e) (h0 : cmpB e.k key = 0) (hg : getK (kv (flat ps)) key = some e.r) (heo : EntOk w D e) (hb : Below w.heap.size w w1) (hc : (flat ps).length = c + 1)
    (hj : JoT w1 G D q c ((flat ps).eraseIdx m) 0 en w') : DropT w G D q (kv (flat ps)) key (.returned (.tuple #[.slice e.rA e.r.length e.rc, .bool true])) w' := by
  obtain ⟨_, G', P', ps', h1, h2, h3, _, h5, h6⟩ := hj
  have hm := (List.getElem?_eq_some_iff.1 he).1
  have hlen : (flat ps').length = c := by rw [h2, List.length_eraseIdx_of_lt hm]; omega
  have hO := (Only.of_below (K := G) hb).trans h6 (fun _ _ e => e)
  refine ⟨G', P', ps', e.rA, _, e.rc, by rw [hg]; rfl, ⟨by rw [hlen]; exact h1, h3, ?_, by rw [hlen]; have := h.few; omega⟩, by rw [h2]; exact kv_era hs he h0, fun j hj => ?_, hO, ?_, by rw [hg]; rfl⟩
  · rw [h2]
    exact List.Pairwise.sublist (List.eraseIdx_sublist _ _) h.rise
  · rcases h5 j hj with e1 | e1
    · exact .inl e1
    · have := hb.size; exact .inr (by omega)
  · rw [hg]
    exact heo.row.only' hO (fun hn ad ha hgk => h.t.dis _ hgk (heo.rd hn ad ha))
end

section
open Go.RowKit

/-- the log q on the disk p, with records rs: its blocks are L's -/
def LgL (w : World) (ℓ : Nat → Nat) (L q p b s : Nat) (rs : List (List UInt8)) : Prop := ∃ g d pre, Wl w 0 q p g d b s pre rs ∧ ℓ q = L ∧ ℓ p = L ∧ ℓ g = L ∧ ℓ d = L
theorem LgL.only {K : Nat → Prop} {w w' : World} {ℓ : Nat → Nat} {L q p b s : Nat} {rs : List (List UInt8)} (h : LgL w ℓ L q p b s rs) (hO : Only K w w') (hK : ∀ k, ℓ k = L → ¬ K k) : LgL w' ℓ L q p b s rs := by
  obtain ⟨g, d, pre, h1, hq, hp, hg, hd⟩ := h
  exact ⟨g, d, pre, h1.only hO (hK q hq) (hK p hp) (hK g hg) (hK d hd), hq, hp, hg, hd⟩
theorem LgL.relabel {w : World} {ℓ ℓ' : Nat → Nat} {L q p b s : Nat} {rs : List (List UInt8)} (h : LgL w ℓ L q p b s rs) (he : ∀ k, k < w.heap.size → ℓ' k = ℓ k) : LgL w ℓ' L q p b s rs := by
  obtain ⟨g, d, pre, h1, hq, hp, hg, hd⟩ := h
  exact ⟨g, d, pre, h1, (he q h1.lt).trans hq, (he p h1.disk.lt).trans hp, (he g h1.disk.dlt).trans hg, (he d h1.dlt).trans hd⟩
theorem LgL.below {w w' : World} {ℓ : Nat → Nat} {L q p b s : Nat} {rs : List (List UInt8)} (h : LgL w ℓ L q p b s rs) (hb : Below w.heap.size w w') : LgL w' ℓ L q p b s rs := h.only (Only.of_below (K := fun _ => False) hb) (fun _ _ => id)
theorem LgL.lt {w : World} {ℓ : Nat → Nat} {L q p b s : Nat} {rs : List (List UInt8)} (h : LgL w ℓ L q p b s rs) : q < w.heap.size ∧ p < w.heap.size := by
  obtain ⟨g, d, pre, h1, _⟩ := h
  exact ⟨h1.lt, h1.disk.lt⟩
/-- what one record more leaves -/
def LaT (w : World) (ℓ : Nat → Nat) (L q p b s : Nat) (rs : List (List UInt8)) (r : List UInt8) (e : Ending) (w' : World) : Prop := e = .returned (.tuple #[.int .i64 ((b + (bytesOf rs).length : Nat) : Int), .int .i64 0]) ∧ Only (fun k => ℓ k = L) w w' ∧ ∀ ℓ', (∀ k, k < w.heap.size → ℓ' k = ℓ k) → (∀ k, w.heap.size ≤ k → ℓ' k = L) → LgL w' ℓ' L q p b s (rs ++ [r])
theorem lg_append {w : World} {ℓ : Nat → Nat} {L q p b s : Nat} {rs : List (List UInt8)} (h : LgL w ℓ L q p b s rs) (r : List UInt8) (A : Option Addr) (n cap : Nat) (hn : r.length = n) (h1 : 1 ≤ r.length ∧ r.length ≤ 4096) (hr : RdB w w.heap.size A r) (hroom : b + (bytesOf rs).length + (r.length + 5) ≤ 100000) :
    Calls Tryz.prog 94 #[.pointer (some ⟨q, 0, none⟩), .slice A n cap] w (LaT w ℓ L q p b s rs r) := by
  obtain ⟨g, d, pre, h2, hq, hp, hg, hd⟩ := h
  refine (wappend_yes h2 (Nat.zero_le _) r A n cap hn h1 hr hroom).mono ?_
  rintro e w' ⟨rfl, g', d', h3, hO, hg', hd'⟩
  refine ⟨rfl, hO.more (fun j _ e => by rcases e with rfl | rfl | rfl | rfl <;> assumption), fun ℓ' he hn' => ⟨g', d', [], h3, (he q h2.lt).trans hq, (he p h2.disk.lt).trans hp, ?_, ?_⟩⟩
  · rcases hg' with rfl | hg'
    · exact (he _ h2.disk.dlt).trans hg
    · exact hn' _ hg'
  · rcases hd' with rfl | hd'
    · exact (he _ h2.dlt).trans hd
    · exact hn' _ hd'
/-- what Sync leaves -/
def LsT (w : World) (ℓ : Nat → Nat) (L q p b s : Nat) (rs : List (List UInt8)) (e : Ending) (w' : World) : Prop := e = .returned (.int .i64 0) ∧ Only (fun k => ℓ k = L) w w' ∧ ∀ ℓ', (∀ k, k < w.heap.size → ℓ' k = ℓ k) → LgL w' ℓ' L q p b s rs
theorem lg_sync {w : World} {ℓ : Nat → Nat} {L q p b s : Nat} {rs : List (List UInt8)} (h : LgL w ℓ L q p b s rs) : Calls Tryz.prog 57 #[.pointer (some ⟨q, 0, none⟩)] w (LsT w ℓ L q p b (b + (bytesOf rs).length) rs) := by
  obtain ⟨g, d, pre, h2, hq, hp, hg, hd⟩ := h
  refine (wsync_any h2).mono ?_
  rintro e w' ⟨rfl, h3, hO⟩
  exact ⟨rfl, hO.more (fun j _ e => by rw [e]; exact hp), fun ℓ' he => ⟨g, d, pre, h3, (he q h2.lt).trans hq, (he p h2.disk.lt).trans hp, (he g h2.disk.dlt).trans hg, (he d h2.dlt).trans hd⟩⟩
/-- a table at block b with rows l: its blocks are L's -/
def TbL (w : World) (ℓ : Nat → Nat) (L b : Nat) (l : List (List UInt8 × List UInt8)) : Prop := ∃ G D P ps, Tbl w G D b P ps ∧ (∀ j, G j ∨ D j → ℓ j = L) ∧ kv (flat ps) = l
theorem TbL.only {K : Nat → Prop} {w w' : World} {ℓ : Nat → Nat} {L b : Nat} {l : List (List UInt8 × List UInt8)} (h : TbL w ℓ L b l) (hO : Only K w w') (hK : ∀ k, ℓ k = L → ¬ K k) : TbL w' ℓ L b l := by
  obtain ⟨G, D, P, ps, h1, h2, h3⟩ := h
  exact ⟨G, D, P, ps, h1.only hO (fun j hj => hK j (h2 j (.inl hj))) (fun j hj => hK j (h2 j (.inr hj))), h2, h3⟩
theorem TbL.relabel {w : World} {ℓ ℓ' : Nat → Nat} {L b : Nat} {l : List (List UInt8 × List UInt8)} (h : TbL w ℓ L b l) (he : ∀ k, k < w.heap.size → ℓ' k = ℓ k) : TbL w ℓ' L b l := by
  obtain ⟨G, D, P, ps, h1, h2, h3⟩ := h
  exact ⟨G, D, P, ps, h1, fun j hj => (he j (by rcases hj with hj | hj; exact h1.t.glt j hj; exact h1.t.dlt j hj)).trans (h2 j hj), h3⟩
theorem TbL.below {w w' : World} {ℓ : Nat → Nat} {L b : Nat} {l : List (List UInt8 × List UInt8)} (h : TbL w ℓ L b l) (hb : Below w.heap.size w w') : TbL w' ℓ L b l := h.only (Only.of_below (K := fun _ => False) hb) (fun _ _ => id)
theorem TbL.at_ {w : World} {ℓ : Nat → Nat} {L b : Nat} {l : List (List UInt8 × List UInt8)} (h : TbL w ℓ L b l) : ℓ b = L ∧ b < w.heap.size := by
  obtain ⟨G, D, P, ps, h1, h2, h3⟩ := h
  exact ⟨h2 b (.inl h1.t.gq), h1.t.lt⟩
theorem TbL.few {w : World} {ℓ : Nat → Nat} {L b : Nat} {l : List (List UInt8 × List UInt8)} (h : TbL w ℓ L b l) : l.length ≤ 900 := by
  obtain ⟨G, D, P, ps, h1, h2, h3⟩ := h
  rw [← h3]
  unfold kv
  rw [List.length_map]
  exact h1.few
end
end Go.Proofs.YtkohppalfcalbaaGreat
