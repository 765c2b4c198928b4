/- NumberLine: words. -/
import Derived.Test.YtdbbnpihmibalaaDoorNW
import Derived.Test.YtdbbnpihmibalaaDoorNT
import Derived.Test.YtdbbnpihmibalaaDoorNU
namespace Go.Proofs.YtdbbnpihmibalaaDoor
open Go.RowKit

/-- the three values behind i rounds -/
def Vs (i : Nat) (d0 d1 d2 : Bool) (n0 n1 n2 : Int) : Array Value := #[.int .i64 (if 0 < i then kd d0 else 0), .int .i64 (if 0 < i then n0 else 0), .string ⟨#[]⟩, .int .i64 (if 1 < i then kd d1 else 0), .int .i64 (if 1 < i then n1 else 0), .string ⟨#[]⟩, .int .i64 (if 2 < i then kd d2 else 0), .int .i64 (if 2 < i then n2 else 0), .string ⟨#[]⟩]
/-- the law's three blocks -/
structure LnS (w : World) (gn gd gv : Nat) (d0 d1 d2 : Bool) (n0 n1 n2 : Int) (C : Array Value) (wr : World) : Prop where
  n : wr.heap[gn]? = some (.cells #[.int .i64 n0, .int .i64 n1, .int .i64 n2] 45 (0, 0))
  d : wr.heap[gd]? = some (.cells #[.bool d0, .bool d1, .bool d2] 46 (0, 0))
  v : wr.heap[gv]? = some (.cells C 47 (0, 0))
  bel : Below w.heap.size w wr
  ne : gv ≠ gn ∧ gv ≠ gd
  ge : w.heap.size ≤ gv
section
variable {w wr wz : World} {gn gd gv : Nat} {d0 d1 d2 : Bool} {n0 n1 n2 : Int} {C : Array Value}
theorem LnS.next (h : LnS w gn gd gv d0 d1 d2 n0 n1 n2 C wr) (hb : Below wr.heap.size wr wz) : LnS w gn gd gv d0 d1 d2 n0 n1 n2 C wz :=
  ⟨(hb.block _ (Array.getElem?_eq_some_iff.1 h.n).1).trans h.n, (hb.block _ (Array.getElem?_eq_some_iff.1 h.d).1).trans h.d, (hb.block _ (Array.getElem?_eq_some_iff.1 h.v).1).trans h.v, h.bel.trans (hb.mono h.bel.size), h.ne, h.ge⟩
theorem LnS.cell (h : LnS w gn gd gv d0 d1 d2 n0 n1 n2 C wr) (j : Nat) (x : Value) (hx : C[j]? = some x) : wr.cell? ⟨gv, j, none⟩ = some x := by simp [World.cell?, h.v, hx]
theorem LnS.fz (h : LnS w gn gd gv d0 d1 d2 n0 n1 n2 C wr) (j : Nat) : wr.frozen? ⟨gv, j, none⟩ = false := by simp [World.frozen?, h.v]
theorem LnS.put (h : LnS w gn gd gv d0 d1 d2 n0 n1 n2 C wr) (o : Nat) (x y z : Value) : LnS w gn gd gv d0 d1 d2 n0 n1 n2 (((C.setIfInBounds o x).setIfInBounds (o + 1) y).setIfInBounds (o + 2) z) (((wr.setCell ⟨gv, o, none⟩ x).setCell ⟨gv, o + 1, none⟩ y).setCell ⟨gv, o + 2, none⟩ z) := by
  refine ⟨?_, ?_, ?_, ((h.bel.setCell (p := ⟨gv, o, none⟩) h.ge x).setCell (p := ⟨gv, o + 1, none⟩) h.ge y).setCell (p := ⟨gv, o + 2, none⟩) h.ge z, h.ne, h.ge⟩
  · have := h.ne.1
    simp [World.setCell, Array.getElem?_modify, this, h.n]
  · have := h.ne.2
    simp [World.setCell, Array.getElem?_modify, this, h.d]
  · simp [World.setCell, Array.getElem?_modify, h.v]
end
theorem line_facts {A B C x y z v : Int} (hx : x = cmpI A B) (hy : y = cmpI B C) (hz : z = cmpI A C) (hv : v = cmpI B A) : v = -x ∧ (x ≤ 0 → y ≤ 0 → z ≤ 0) ∧ (x = -1 ∨ x = 0 ∨ x = 1) ∧ (x < 0 ↔ A < B) := by
  unfold cmpI at hx hy hz hv
  subst hx hy hz hv
  refine ⟨?_, ?_, ?_, ?_⟩
  all_goals
    repeat' split
    all_goals omega
theorem scal_lt (d : Bool) (n m : Int) : scal (kd d) n < scal (kd d) m ↔ n < m := by
  cases d
  · show n * 10000 < m * 10000 ↔ n < m
    omega
  · exact Iff.rfl
/-- behind the tests of one line -/
def LnF (w : World) (d0 d1 d2 : Bool) (n0 n1 n2 k0 k1 k2 : Int) (v : Value) (wx : World) : Prop := v = .bool false ∧ LnS w w.heap.size (w.heap.size + 1) (w.heap.size + 1 + 1) d0 d1 d2 n0 n1 n2 #[.int .i64 k0, .int .i64 n0, .string ⟨#[]⟩, .int .i64 k1, .int .i64 n1, .string ⟨#[]⟩, .int .i64 k2, .int .i64 n2, .string ⟨#[]⟩] wx
theorem LnF.world {w wx : World} {d0 d1 d2 : Bool} {n0 n1 n2 k0 k1 k2 : Int} {v : Value} (h : LnF w d0 d1 d2 n0 n1 n2 k0 k1 k2 v wx) : ∃ W9, W9 = wx ∧ v = .bool false ∧ LnS w w.heap.size (w.heap.size + 1) (w.heap.size + 1 + 1) d0 d1 d2 n0 n1 n2 #[.int .i64 k0, .int .i64 n0, .string ⟨#[]⟩, .int .i64 k1, .int .i64 n1, .string ⟨#[]⟩, .int .i64 k2, .int .i64 n2, .string ⟨#[]⟩] W9 := ⟨wx, rfl, h⟩
/-- at the head of the loop of comparisons -/
def LnR (W : World) (v17 : Value) (wr : World) : Prop := ∃ i : Nat, v17 = .int .i64 (i : Int) ∧ i ≤ 6 ∧ Below W.heap.size W wr
theorem LnR.world {W wr : World} {v17 : Value} (h : LnR W v17 wr) : ∃ W9, W9 = wr ∧ LnR W v17 W9 := ⟨wr, rfl, h⟩
/-- behind a comparison -/
def LnD (W : World) (n : Int) (v18 v19 : Value) (wx : World) : Prop := ∃ g : Nat, v18 = .pointer (some ⟨g, 0, none⟩) ∧ v19 = .nilIface ∧ wx.heap[g]? = some (.cells #[.int .i64 1, .int .i64 n, .string ⟨#[]⟩] 25 (0, 0)) ∧ Below W.heap.size W wx
theorem LnD.world {W wx : World} {n : Int} {v18 v19 : Value} (h : LnD W n v18 v19 wx) : ∃ W9, W9 = wx ∧ LnD W n v18 v19 W9 := ⟨wx, rfl, h⟩
/-- at the head of the loop that fills the values -/
def LnL (w : World) (d0 d1 d2 : Bool) (n0 n1 n2 : Int) (v6 : Value) (wr : World) : Prop := ∃ i : Nat, v6 = .int .i64 (i : Int) ∧ i ≤ 3 ∧ LnS w w.heap.size (w.heap.size + 1) (w.heap.size + 1 + 1) d0 d1 d2 n0 n1 n2 (Vs i d0 d1 d2 n0 n1 n2) wr
theorem ln_start (w : World) (d0 d1 d2 : Bool) (n0 n1 n2 : Int) : LnL w d0 d1 d2 n0 n1 n2 (.int .i64 0) (((w.alloc (.cells #[.int .i64 n0, .int .i64 n1, .int .i64 n2] 45)).alloc (.cells #[.bool d0, .bool d1, .bool d2] 46)).alloc (.cells #[.int .i64 0, .int .i64 0, .string ⟨#[]⟩, .int .i64 0, .int .i64 0, .string ⟨#[]⟩, .int .i64 0, .int .i64 0, .string ⟨#[]⟩] 47)) := by
  refine ⟨0, rfl, by omega, ?_, ?_, ?_, (alloc2_below w _ _).trans ((alloc_below _ _).mono (by simp; omega)), by omega, by omega⟩
  · rw [heap_at, if_neg (by simp <;> omega), heap_at, if_neg (by simp)]
    exact heap_alloc_new w _
  · rw [heap_at, if_neg (by simp), heap_at, if_pos (by simp)]
  · rw [heap_at, if_pos (by simp)]
    rfl
end Go.Proofs.YtdbbnpihmibalaaDoor
