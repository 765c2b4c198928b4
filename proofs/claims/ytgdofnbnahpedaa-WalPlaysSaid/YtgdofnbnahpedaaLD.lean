/- The entries that the document's Scan makes, one after another. -/
import Derived.Test.YtgdofnbnahpedaaLC
import Derived.Test.YtgdofnbnahpedaaLA
namespace Go.Proofs.Ytgdofnbnahpedaa
open Go.RowKit

/-- the entries that records are, the first of them at b -/
def entsOf (b : Int) : List (List UInt8) → List (Int × List UInt8)
  | [] => []
  | r :: rs => (b, r) :: entsOf (b + ((r.length + 5 : Nat) : Int)) rs
theorem entsOf_app (b : Int) (x y : List (List UInt8)) : entsOf b (x ++ y) = entsOf b x ++ entsOf (b + ((bytesOf x).length : Int)) y := by
  induction x generalizing b with
  | nil => simp [entsOf, bytesOf]
  | cons r x ih =>
    simp only [List.cons_append, entsOf, bytesOf_cons, List.length_append, frameL_len, ih]
    rw [show b + ((r.length + 5 : Nat) : Int) + ((bytesOf x).length : Int) = b + ((r.length + 5 + (bytesOf x).length : Nat) : Int) by omega]
theorem entsOf_len (b : Int) (rs : List (List UInt8)) : (entsOf b rs).length = rs.length := by
  induction rs generalizing b with
  | nil => rfl
  | cons r rs ih => simp only [entsOf, List.length_cons, ih]
theorem entsOf_take (b : Int) {rs : List (List UInt8)} {j : Nat} {r : List UInt8} (h : rs[j]? = some r) : entsOf b (rs.take (j + 1)) = entsOf b (rs.take j) ++ [(b + ((startOf 0 rs j : Nat) : Int), r)] := by
  have h1 := List.getElem?_eq_some_iff.1 h
  rw [List.take_succ_eq_append_getElem h1.1, h1.2, entsOf_app]
  unfold startOf
  rw [Nat.zero_add]
  rfl
/-- what an entry says -/
def BEnt.says (x : BEnt) : Int × List UInt8 := (x.no, x.l)
/-- entries that are read: their bytes lie behind w4's blocks, and not in block g -/
def EntsOk (w4 wr : World) (g : Nat) (es : List BEnt) : Prop := ∀ x ∈ es, RdB wr wr.heap.size x.A x.l ∧ (x.l ≠ [] → ∀ ad, x.A = some ad → w4.heap.size ≤ ad.block ∧ ad.block ≠ g)
/-- at the head of Scan's loop -/
def ScL (w4 : World) (q : Nat) (b : Int) (rs : List (List UInt8)) (v6 v7 : Value) (wr : World) : Prop := ∃ i gA es, v7 = .int .i64 ((startOf 0 rs i : Nat) : Int) ∧ i ≤ rs.length ∧ es.map BEnt.says = entsOf b (rs.take i) ∧ HeldC wr q gA 2 v6 i (entsV es) ∧ (gA = q ∨ w4.heap.size ≤ gA) ∧ EntsOk w4 wr gA es ∧ Below w4.heap.size w4 wr
theorem sc_next {w4 wr w5 w6 : World} {q gA g6 i n c : Nat} {b no : Int} {A : Option Addr} {o : Obj} {es : List BEnt} {rs : List (List UInt8)} {r : List UInt8} {v6 v7 : Value} (hq : q < w4.heap.size) (hi : rs[i]? = some r) (hno : no = b + ((startOf 0 rs i : Nat) : Int)) (hm : es.map BEnt.says = entsOf b (rs.take i)) (hr : EntsOk w4 wr gA es) (hg : gA = q ∨ w4.heap.size ≤ gA) (hgl : gA < wr.heap.size) (hb : Below w4.heap.size w4 wr) (ho : OwnB w5 wr.heap.size (.slice A n c) r) (hb5 : Below wr.heap.size wr w5) (h6 : HeldC w6 q g6 2 v6 (i + 1) (entsV es ++ [.int .i64 no, .slice A n c])) (hO : Only (fun k => k = gA ∧ k ≠ q) (w5.alloc o) w6) (hg6 : g6 = gA ∨ (w5.alloc o).heap.size ≤ g6) (h7 : v7 = .int .i64 ((startOf 0 rs i + (r.length + 5) : Nat) : Int)) : ScL w4 q b rs v6 v7 w6 := by
  have hn := ho.len
  subst hn
  have h2 := List.getElem?_eq_some_iff.1 hi
  have s1 := hb.size
  have s2 := hb5.size
  have s3 := alloc_size w5 o
  have s4 := hO.size
  refine ⟨i + 1, g6, es ++ [⟨no, A, r, c⟩], by rw [startOf_succ 0 rs hi]; exact h7, h2.1, ?_, ?_, by omega, fun x hx => ?_, ?_⟩
  · rw [List.map_append, hm, entsOf_take b hi, hno]
    rfl
  · rw [entsV_app]
    exact h6
  · have keep : ∀ (W : World) (ad : Addr) (l : List UInt8), RdB W W.heap.size (some ad) l → Below W.heap.size W w5 → ad.block < W.heap.size → ad.block ≠ gA → RdB w6 w6.heap.size (some ad) l := by
      intro W ad l h1 h3 h4 h5 hne
      obtain ⟨ad', e, hlt, hc⟩ := h1 hne
      injection e with e
      subst e
      have s5 := h3.size
      refine ⟨ad, rfl, by omega, fun j c hj => ?_⟩
      have hbk : w6.heap[ad.block]? = W.heap[ad.block]? := (hO.block ad.block (by omega) (fun e => h5 e.1)).trans (((alloc_below w5 o).block _ (by omega)).trans (h3.block _ hlt))
      exact (World.cell?_of_block (by rw [addr_add_block]; exact hbk)).trans (hc j c hj)
    rcases List.mem_append.1 hx with hx | hx
    · obtain ⟨h1, h3⟩ := hr x hx
      by_cases hne : x.l = []
      · exact ⟨by rw [hne]; exact RdB.nil _ _ _, fun h => absurd hne h⟩
      · obtain ⟨ad, hA, hlt, _⟩ := h1 hne
        rw [hA] at h1
        obtain ⟨h4, h5⟩ := h3 hne ad hA
        refine ⟨by rw [hA]; exact keep wr ad x.l h1 hb5 hlt h5, fun _ ad' e => ?_⟩
        rw [hA] at e
        injection e with e
        subst e
        exact ⟨h4, by omega⟩
    · rw [List.mem_singleton] at hx
      subst hx
      by_cases hne : r = []
      · exact ⟨by show RdB w6 w6.heap.size A r; rw [hne]; exact RdB.nil _ _ _, fun h => absurd hne h⟩
      · obtain ⟨ad, hA, hlt, _⟩ := ho.rd hne
        subst hA
        have hge : wr.heap.size ≤ ad.block := ho.ge ad.block rfl
        refine ⟨keep w5 ad r ho.rd (Below.refl _ _) hlt (by omega), fun _ ad' e => ?_⟩
        injection e with e
        subst e
        exact ⟨by omega, by omega⟩
  · refine (hb.trans (hb5.mono s1)).trans ((alloc_below w5 o).mono (by omega) |>.trans (hO.below (by omega) (fun j e => ?_)))
    rcases hg with h7 | h7
    · exact absurd (e.1.trans h7) e.2
    · omega
/-- what Scan answers -/
def ScT (w : World) (q : Nat) (b : Int) (rs : List (List UInt8)) (e : Ending) (w' : World) : Prop := ∃ A cap g es, e = .returned (.tuple #[.slice A rs.length cap, .int .i64 ((bytesOf rs).length : Int)]) ∧ es.map BEnt.says = entsOf b rs ∧ HeldC w' q g 2 (.slice A rs.length cap) rs.length (entsV es) ∧ (g = q ∨ w.heap.size ≤ g) ∧ EntsOk w w' g es ∧ Below w.heap.size w w'
theorem sc_end {w W W' : World} {q gA : Nat} {b : Int} {es : List BEnt} {rs : List (List UInt8)} {v6 : Value} (hm : es.map BEnt.says = entsOf b rs) (h6 : HeldC W q gA 2 v6 rs.length (entsV es)) (hg : gA = q ∨ w.heap.size ≤ gA) (hr : EntsOk w W gA es) (hb : Below w.heap.size w W) (hb' : Below W.heap.size W W') (k : Int) (hk : k = ((bytesOf rs).length : Int)) : ScT w q b rs (.returned (.tuple #[v6, .int .i64 k])) W' := by
  obtain ⟨A, cap, rfl, _, _⟩ := h6.slice
  subst hk
  refine ⟨A, cap, gA, es, rfl, hm, h6.only (Only.of_below (K := fun _ => False) hb') (fun _ => id), hg, fun x hx => ?_, hb.trans (hb'.mono hb.size)⟩
  obtain ⟨h1, h3⟩ := hr x hx
  exact ⟨(h1.below hb' (Nat.le_refl _)).more hb'.size, h3⟩
/-- what is behind the records is no frame -/
theorem no_frame {t r : List UInt8} (ht : firstL t = 0) (h1 : 1 ≤ r.length) (h2 : r.length ≤ 4096) (n : Nat) : frameL r ≠ t.take n := by
  intro e
  have h := firstL_frame h1 h2 (t.drop n)
  rw [e, List.take_append_drop, ht] at h
  omega
end Go.Proofs.Ytgdofnbnahpedaa
