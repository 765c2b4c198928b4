/- ShardNil: the law. -/
import Derived.Test.YtkohppalfcalbaaGreatGTA1
namespace Go.Proofs.YtkohppalfcalbaaGreat
open Go.RowKit

set_option maxRecDepth 100000 in
set_option maxHeartbeats 8000000 in
theorem shardNil_law (k x n : Int) (s : ByteArray) (A B : Option Addr) (n1 c1 n2 c2 : Nat) (w : World) : Calls Tryz.prog 3 #[.agg #[.int .i64 k, .int .i64 x, .int .i64 n, .string s, .slice A n1 c1, .slice B n2 c2]] w (Ans (.bool true) w) := by
  obtain ⟨w1, hw1⟩ : ∃ w1, w1 = w.alloc (.cells #[.int .i64 k, .int .i64 x, .int .i64 n, .string s, .slice A n1 c1, .slice B n2 c2] 24) := ⟨_, rfl⟩
  have hb1 : Below w.heap.size w w1 := by rw [hw1]; exact alloc_below _ _
  have hx1 : w1.heap[w.heap.size]? = some (.cells #[.int .i64 k, .int .i64 x, .int .i64 n, .string s, .slice A n1 c1, .slice B n2 c2] 24 (0, 0)) := by rw [hw1]; exact heap_alloc_new _ _
  have HBX : Hid (∀ W, Below w1.heap.size w1 W → W.cell? ⟨w.heap.size, 0, none⟩ = some (.int .i64 k) ∧ W.cell? ⟨w.heap.size, 1, none⟩ = some (.int .i64 x) ∧ W.cell? ⟨w.heap.size, 2, none⟩ = some (.int .i64 n) ∧ W.cell? ⟨w.heap.size, 3, none⟩ = some (.string s) ∧ W.cell? ⟨w.heap.size, 4, none⟩ = some (.slice A n1 c1) ∧ W.cell? ⟨w.heap.size, 5, none⟩ = some (.slice B n2 c2)) := Lib.hid fun W hb => box6R ((hb.block _ (Array.getElem?_eq_some_iff.1 hx1).1).trans hx1)
  have HB := Lib.hid (Below.refl w1.heap.size w1)
  have HB0 := Lib.hid hb1
  obtain ⟨x0, x1, x2, x3, x4, x5⟩ := HBX.out _ HB.out
  have hnil : ∀ (w : World) (a : Option Addr), (binOp .eql 25 (.pointer a) (.pointer none)).run Tryz.prog w = .ok (.bool a.isNone) w := fun w a => by cases a <;> rfl
  have HW := Lib.hid hw1
  clear hw1 hb1 hx1
  go_enter Tryz.func3, Tryz.ntmps3
  go_upto_region 1 with fail
  rw [← HW.out]
  try dsimp only [List.append]
  go_wp2_with (first
    | (go_at_call 9; refine (sOpen_nil _).mono ?_; rintro e w2 ⟨rfl, hb⟩
       have HB := Lib.hid (HB.out.trans (hb.mono HB.out.size))
       obtain ⟨x0, x1, x2, x3, x4, x5⟩ := HBX.out _ HB.out
       clear hb)
    | (go_at_call 10; refine (sGet_nil _ _ _ _ _ _).mono ?_; rintro e w2 ⟨rfl, hb⟩
       have HB := Lib.hid (HB.out.trans (hb.mono HB.out.size))
       obtain ⟨x0, x1, x2, x3, x4, x5⟩ := HBX.out _ HB.out
       clear hb)
    | (go_at_call 11; refine (sRange_nil _ _ _ _ _ _ _ _ _).mono ?_; rintro e w2 ⟨rfl, hb⟩
       have HB := Lib.hid (HB.out.trans (hb.mono HB.out.size))
       obtain ⟨x0, x1, x2, x3, x4, x5⟩ := HBX.out _ HB.out
       clear hb)
    | (go_at_call 12; refine (sBegin_nil _ _).mono ?_; rintro e w2 ⟨rfl, hb⟩
       have HB := Lib.hid (HB.out.trans (hb.mono HB.out.size))
       obtain ⟨x0, x1, x2, x3, x4, x5⟩ := HBX.out _ HB.out
       clear hb)
    | (go_at_call 13; refine (sPut_nil _ _ _ _ _ _ _ _ _).mono ?_; rintro e w2 ⟨rfl, hb⟩
       have HB := Lib.hid (HB.out.trans (hb.mono HB.out.size))
       obtain ⟨x0, x1, x2, x3, x4, x5⟩ := HBX.out _ HB.out
       clear hb)
    | (go_at_call 14; refine (sDrop_nil _ _ _ _ _ _).mono ?_; rintro e w2 ⟨rfl, hb⟩
       have HB := Lib.hid (HB.out.trans (hb.mono HB.out.size))
       obtain ⟨x0, x1, x2, x3, x4, x5⟩ := HBX.out _ HB.out
       clear hb)
    | (go_at_call 15; refine (sBack_nil _ _ _).mono ?_; rintro e w2 ⟨rfl, hb⟩
       have HB := Lib.hid (HB.out.trans (hb.mono HB.out.size))
       obtain ⟨x0, x1, x2, x3, x4, x5⟩ := HBX.out _ HB.out
       clear hb)
    | (go_at_call 16; refine (sPrepare_nil _ _).mono ?_; rintro e w2 ⟨rfl, hb⟩
       have HB := Lib.hid (HB.out.trans (hb.mono HB.out.size))
       obtain ⟨x0, x1, x2, x3, x4, x5⟩ := HBX.out _ HB.out
       clear hb)
    | (go_at_call 17; refine (sCommit_nil _ _).mono ?_; rintro e w2 ⟨rfl, hb⟩
       have HB := Lib.hid (HB.out.trans (hb.mono HB.out.size))
       obtain ⟨x0, x1, x2, x3, x4, x5⟩ := HBX.out _ HB.out
       clear hb)
    | (go_at_call 18; refine (sAbort_nil _ _).mono ?_; rintro e w2 ⟨rfl, hb⟩
       have HB := Lib.hid (HB.out.trans (hb.mono HB.out.size))
       obtain ⟨x0, x1, x2, x3, x4, x5⟩ := HBX.out _ HB.out
       clear hb)
    | (go_at_call 19; refine (sImage_nil _).mono ?_; rintro e w2 ⟨rfl, hb⟩
       have HB := Lib.hid (HB.out.trans (hb.mono HB.out.size))
       obtain ⟨x0, x1, x2, x3, x4, x5⟩ := HBX.out _ HB.out
       clear hb)
    | (go_at_call 21; refine (sMark_nil _ _).mono ?_; rintro e w2 ⟨rfl, hb⟩
       have HB := Lib.hid (HB.out.trans (hb.mono HB.out.size))
       obtain ⟨x0, x1, x2, x3, x4, x5⟩ := HBX.out _ HB.out
       clear hb)
    | (go_at_call 22; refine (sDoubts_nil _).mono ?_; rintro e w2 ⟨rfl, hb⟩
       have HB := Lib.hid (HB.out.trans (hb.mono HB.out.size))
       obtain ⟨x0, x1, x2, x3, x4, x5⟩ := HBX.out _ HB.out
       clear hb)
    | (go_at_call 23; refine (sChanges_nil _ _).mono ?_; rintro e w2 ⟨rfl, hb⟩
       have HB := Lib.hid (HB.out.trans (hb.mono HB.out.size))
       obtain ⟨x0, x1, x2, x3, x4, x5⟩ := HBX.out _ HB.out
       clear hb)
    | (go_at_call 24; refine (sRows_nil _ _).mono ?_; rintro e w2 ⟨rfl, hb⟩
       have HB := Lib.hid (HB.out.trans (hb.mono HB.out.size))
       obtain ⟨x0, x1, x2, x3, x4, x5⟩ := HBX.out _ HB.out
       clear hb)
    | (go_at_call 20; refine (alive10_any _).mono ?_; rintro e w2 ⟨rfl, hb⟩
       have HB := Lib.hid (HB.out.trans (hb.mono HB.out.size))
       obtain ⟨x0, x1, x2, x3, x4, x5⟩ := HBX.out _ HB.out
       clear hb))
  go_ret
  exact ⟨rfl, HB0.out.trans (HB.out.mono HB0.out.size)⟩
end Go.Proofs.YtkohppalfcalbaaGreat
