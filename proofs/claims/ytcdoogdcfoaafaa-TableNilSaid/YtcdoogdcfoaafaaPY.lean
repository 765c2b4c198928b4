/- TableNil: the law's own body answers true. -/
import Derived.Test.YtcdoogdcfoaafaaPX
namespace Go.Proofs.Ytcdoogdcfoaafaa
open Go.RowKit

theorem box3_ {w : World} {b : Nat} {x y z : Value} {t : TypeId} {fr : Nat × Nat} (h : w.heap[b]? = some (.cells #[x, y, z] t fr)) : w.cell? ⟨b, 0, none⟩ = some x ∧ w.cell? ⟨b, 1, none⟩ = some y ∧ w.cell? ⟨b, 2, none⟩ = some z := by
  simp [World.cell?, h]
set_option maxRecDepth 100000 in
set_option maxHeartbeats 2000000 in
theorem tableNil_law (k : Int) (A B F T : Option Addr) (an ac bn bc fn fc tn tc : Nat) (most : Int) (w : World) : Calls Try.prog 6 #[.agg #[.int .i64 k, .slice A an ac, .slice B bn bc], .agg #[.slice F fn fc, .slice T tn tc, .int .i64 most]] w (Ans (.bool true) w) := by
  have HBX : Hid (((w.alloc (.cells #[.int .i64 k, .slice A an ac, .slice B bn bc] 31)).alloc (.cells #[.slice F fn fc, .slice T tn tc, .int .i64 most] 25)).heap[w.heap.size + 1]? = some (.cells #[.slice F fn fc, .slice T tn tc, .int .i64 most] 25 (0, 0))) := Lib.hid (by
    have h := heap_alloc_new (w.alloc (.cells #[.int .i64 k, .slice A an ac, .slice B bn bc] 31)) (.cells #[.slice F fn fc, .slice T tn tc, .int .i64 most] 25)
    rw [show (w.alloc (.cells #[.int .i64 k, .slice A an ac, .slice B bn bc] 31)).heap.size = w.heap.size + 1 by simp] at h
    exact h)
  have HBA := Lib.hid (alloc2_below w (.cells #[.int .i64 k, .slice A an ac, .slice B bn bc] 31) (.cells #[.slice F fn fc, .slice T tn tc, .int .i64 most] 25))
  go_enter Try.func6, Try.ntmps6
  go_wp2_with (first
    | (go_at_call 12; refine (nilT_put _ _ _).mono ?_; rintro e w2 ⟨rfl, rfl⟩)
    | (go_at_call 14; refine (nilT_drop _ _).mono ?_; rintro e w2 ⟨rfl, rfl⟩)
    | (go_at_call 24; refine (nilT_get _ _).mono ?_; rintro e w2 ⟨rfl, rfl⟩)
    | (go_at_call 25; refine (nilT_last _ _).mono ?_; rintro e w2 ⟨rfl, hb⟩
       have HX1 := Lib.hid ((hb.block (w.heap.size + 1) (by simp)).trans HBX.out)
       have HW1 := Lib.hid (HBA.out.trans (hb.mono HBA.out.size))
       clear hb)
    | (go_at_call 9; refine (alive_table _).mono ?_; rintro e w3 ⟨rfl, hb0⟩
       have hb := (alloc_below w2 (.cells #[.slice none 0 0, .slice none 0 0] 46)).trans (hb0.mono (alloc_below w2 (.cells #[.slice none 0 0, .slice none 0 0] 46)).size)
       obtain ⟨y0, y1, y2⟩ := box3_ ((hb.block (w.heap.size + 1) (Array.getElem?_eq_some_iff.1 HX1.out).1).trans HX1.out)
       have HW2 := Lib.hid (HW1.out.trans (hb.mono HW1.out.size))
       clear hb hb0)
    | (go_at_call 17; refine (nilT_range _ _ _ _).mono ?_; rintro e w4 ⟨rfl, hb⟩
       have HY : Hid (Ans (.bool true) w (.returned (.bool true)) w4) := Lib.hid ⟨rfl, HW2.out.trans (hb.mono HW2.out.size)⟩
       clear hb)
    | (go_at_call 21; refine (nilT_len _).mono ?_; rintro e w5 ⟨rfl, rfl⟩)
    | (go_at_call 16; refine (nilT_copy _).mono ?_; rintro e w5 ⟨rfl, rfl⟩))
  go_ret
  exact HY.out
#print axioms tableNil_law
end Go.Proofs.Ytcdoogdcfoaafaa
