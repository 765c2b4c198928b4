/- The document's log: its entries; Find. -/
import Derived.Test.YtgdofnbnahpedaaLP
namespace Go.Proofs.Ytgdofnbnahpedaa
open Go.RowKit

/-- an entry of the document's log -/
structure BEnt where
  no : Int
  A : Option Addr
  l : List UInt8
  cap : Nat
/-- entries as cells -/
def entsV : List BEnt → List Value
  | [] => []
  | x :: l => .int .i64 x.no :: .slice x.A x.l.length x.cap :: entsV l
theorem entsV_len (l : List BEnt) : (entsV l).length = l.length * 2 := by
  induction l with
  | nil => rfl
  | cons x l ih => simp only [entsV, List.length_cons, ih]; omega
theorem entsV_app (a b : List BEnt) : entsV (a ++ b) = entsV a ++ entsV b := by
  induction a with
  | nil => rfl
  | cons x a ih => simp only [List.cons_append, entsV, ih]
theorem entsV_get {l : List BEnt} {i : Nat} {x : BEnt} (h : l[i]? = some x) : (entsV l)[i * 2]? = some (.int .i64 x.no) ∧ (entsV l)[i * 2 + 1]? = some (.slice x.A x.l.length x.cap) := by
  induction l generalizing i with
  | nil => simp at h
  | cons y l ih => cases i with
    | zero => simp at h; subst h; exact ⟨rfl, rfl⟩
    | succ i =>
      simp only [List.getElem?_cons_succ] at h
      obtain ⟨a, b⟩ := ih h
      rw [show (i + 1) * 2 = i * 2 + 1 + 1 by omega]
      simp only [entsV, List.getElem?_cons_succ]
      exact ⟨a, b⟩
/-- the entries can be read -/
def RdE (w : World) (B : Nat) (A : Option Addr) (l : List BEnt) : Prop := l ≠ [] → ∃ b o, A = some ⟨b, o, none⟩ ∧ b < B ∧ ∀ j x, l[j]? = some x → w.cell? ⟨b, o + j * 2, none⟩ = some (.int .i64 x.no) ∧ w.cell? ⟨b, o + j * 2 + 1, none⟩ = some (.slice x.A x.l.length x.cap)
theorem RdC.ents {w : World} {B : Nat} {A : Option Addr} {l : List BEnt} (h : RdC w B A (entsV l)) : RdE w B A l := fun hn => by
  obtain ⟨b, o, e, hb, hc⟩ := h (by cases l with
    | nil => exact absurd rfl hn
    | cons x l => simp [entsV])
  refine ⟨b, o, e, hb, fun j x hj => ?_⟩
  obtain ⟨h1, h2⟩ := entsV_get hj
  exact ⟨hc _ _ h1, by rw [Nat.add_assoc]; exact hc _ _ h2⟩
theorem RdE.below {w w' : World} {B C : Nat} {A : Option Addr} {l : List BEnt} (h : RdE w B A l) (hb : Below C w w') (hC : B ≤ C) : RdE w' B A l := fun hn => by
  obtain ⟨b, o, e, hlt, hc⟩ := h hn
  exact ⟨b, o, e, hlt, fun j x hj => ⟨(World.cell?_of_block (hb.block b (by omega))).trans (hc j x hj).1, (World.cell?_of_block (hb.block b (by omega))).trans (hc j x hj).2⟩⟩
theorem RdE.more {w : World} {B C : Nat} {A : Option Addr} {l : List BEnt} (h : RdE w B A l) (hC : B ≤ C) : RdE w C A l := fun hn => by
  obtain ⟨b, o, e, hlt, hc⟩ := h hn
  exact ⟨b, o, e, by omega, hc⟩
theorem RdE.at_ {w : World} {B : Nat} {A : Option Addr} {l : List BEnt} (h : RdE w B A l) {j : Nat} {x : BEnt} (hj : l[j]? = some x) : ∃ b o, A = some ⟨b, o, none⟩ ∧ b < B ∧ w.cell? ⟨b, o + j * 2, none⟩ = some (.int .i64 x.no) ∧ w.cell? ⟨b, o + j * 2 + 1, none⟩ = some (.slice x.A x.l.length x.cap) := by
  obtain ⟨b, o, e, hlt, hc⟩ := h (by rintro rfl; simp at hj)
  exact ⟨b, o, e, hlt, hc j x hj⟩
/-- where the entry of a number stands, or -1 -/
def findE (es : List BEnt) (n : Int) : Int := if es.findIdx (fun x => decide (x.no = n)) < es.length then (es.findIdx (fun x => decide (x.no = n)) : Int) else -1
theorem findE_at {es : List BEnt} {n : Int} {i : Nat} {x : BEnt} (h : es[i]? = some x) (hx : x.no = n) (hlo : ∀ j y, j < i → es[j]? = some y → y.no ≠ n) : findE es n = (i : Int) := by
  obtain ⟨hi, he⟩ := List.getElem?_eq_some_iff.1 h
  have e : es.findIdx (fun x => decide (x.no = n)) = i := (List.findIdx_eq hi).2 ⟨by rw [he]; exact decide_eq_true hx, fun j hj => decide_eq_false (hlo j _ hj (List.getElem?_eq_getElem (by omega)))⟩
  unfold findE
  rw [e, if_pos hi]
theorem findE_no {es : List BEnt} {n : Int} (hlo : ∀ j y, j < es.length → es[j]? = some y → y.no ≠ n) : findE es n = -1 := by
  have e : es.findIdx (fun x => decide (x.no = n)) = es.length := List.findIdx_eq_length.2 fun x hx => by
    obtain ⟨j, hj, rfl⟩ := List.getElem_of_mem hx
    exact decide_eq_false (hlo j _ hj (List.getElem?_eq_getElem hj))
  unfold findE
  rw [e, if_neg (Nat.lt_irrefl _)]
/-- at the head of Find's loop -/
def RfL (w : World) (es : List BEnt) (n : Int) (v5 : Value) (wr : World) : Prop := ∃ i : Nat, v5 = .int .i64 (i : Int) ∧ i ≤ es.length ∧ (∀ j y, j < i → es[j]? = some y → y.no ≠ n) ∧ wr = w
set_option maxRecDepth 100000 in
set_option maxHeartbeats 4000000 in
theorem rfind_any {w : World} {q p cap : Nat} {A : Option Addr} {es : List BEnt} (h1 : w.heap[q]? = some (.cells #[.pointer (some ⟨p, 0, none⟩), .slice A es.length cap] 58 (0, 0))) (hr : RdE w w.heap.size A es) (hl : es.length ≤ 1000000) (n : Int) :
    Calls Try.prog 39 #[.pointer (some ⟨q, 0, none⟩), .int .i64 n] w (Looks (.int .i64 (findE es n)) w) := by
  obtain ⟨x0, x1⟩ := box2 h1
  have HR := Lib.hid hr
  have HST : Hid (RfL w es n (.int .i64 0) w) := Lib.hid ⟨0, rfl, Nat.zero_le _, fun j y hj => absurd hj (Nat.not_lt_zero _), rfl⟩
  have hli : (es.length : Int) ≤ 1000000 := by omega
  obtain ⟨r, hr'⟩ : ∃ r, Hid (r = findE es n) := ⟨_, Lib.hid rfl⟩
  rw [← hr'.out]
  clear h1 hr hl
  go_enter Try.func39, Try.ntmps39
  go_wp2_with fail
  go_loopw [5] (fun v5 wr => RfL w es n v5 wr) (fun v5 _ => es.length - (intOf v5).toNat)
  case atStart => exact HST.out
  case round =>
    obtain ⟨i, rfl, hi, hlo, rfl⟩ := hrel
    have HLO := Lib.hid hlo
    clear hlo
    have hii : (i : Int) ≤ 1000000 := by omega
    by_cases hlt : i < es.length
    · have hlti : (i : Int) < (es.length : Int) := by omega
      obtain ⟨x, hx⟩ : ∃ x, es[i]? = some x := ⟨_, List.getElem?_eq_getElem hlt⟩
      obtain ⟨b0, o0, hA, _, c0, c1⟩ := HR.out.at_ hx
      subst hA
      obtain ⟨m, hm⟩ : ∃ m, m = x.no := ⟨_, rfl⟩
      rw [← hm] at c0
      by_cases hxn : m = n
      · have HY : Hid (r = (i : Int)) := Lib.hid (hr'.out.trans (findE_at hx (hm.symm.trans hxn) HLO.out))
        clear hx hi c1
        subst hxn
        clear hm
        go_wp2_with fail
        go_ret
        exact ⟨by rw [HY.out]; rfl, rfl⟩
      · have HY : Hid (∀ v5, v5 = .int .i64 ((i + 1 : Nat) : Int) → RfL wr es n v5 wr) := Lib.hid fun v5 h5 => ⟨i + 1, h5, hlt, fun j y hj hy => by
          rcases Nat.lt_or_ge j i with h | h
          · exact HLO.out j y h hy
          · have : j = i := by omega
            subst this
            rw [hx] at hy
            injection hy with hy
            rw [← hy, ← hm]; exact hxn, rfl⟩
        clear hx hi c1 hm
        go_wp2_with fail
        go_roundw
        case rel => first | exact HY.out _ (by go_num) | ((repeat apply Exists.intro); exact ⟨HY.out _ (by go_num), rfl⟩)
        case measure => simp [intOf]; omega
    · have hie : i = es.length := by omega
      subst hie
      have hlti : ¬ (es.length : Int) < (es.length : Int) := by omega
      have HY : Hid (r = -1) := Lib.hid (hr'.out.trans (findE_no HLO.out))
      clear hi
      go_wp2_with fail
      go_ret
      exact ⟨by rw [HY.out]; rfl, rfl⟩
end Go.Proofs.Ytgdofnbnahpedaa
