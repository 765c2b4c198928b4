/- ParticipantNil: the law. -/
import Derived.Test.YtkohppalfcalbaaGreatGUJ
namespace Go.Proofs.YtkohppalfcalbaaGreat
open Go.RowKit

set_option maxRecDepth 100000 in
set_option maxHeartbeats 8000000 in
theorem participantNil_law (k f t x node tx : Int) (A : Option Addr) (n c : Nat) (w : World) : Calls Tryz.prog 7 #[.agg #[.int .i64 k, .int .i64 f, .int .i64 t, .int .i64 x, .slice A n c], .int .i64 node, .int .i64 tx] w (Ans (.bool true) w) := by
  obtain ⟨w1, hw1⟩ : ∃ w1, w1 = w.alloc (.cells #[.int .i64 k, .int .i64 f, .int .i64 t, .int .i64 x, .slice A n c] 56) := ⟨_, rfl⟩
  have hb1 : Below w.heap.size w w1 := by rw [hw1]; exact alloc_below _ _
  have hx1 : w1.heap[w.heap.size]? = some (.cells #[.int .i64 k, .int .i64 f, .int .i64 t, .int .i64 x, .slice A n c] 56 (0, 0)) := by rw [hw1]; exact heap_alloc_new _ _
  have HBX : Hid (∀ W, Below w1.heap.size w1 W → W.cell? ⟨w.heap.size, 0, none⟩ = some (.int .i64 k) ∧ W.cell? ⟨w.heap.size, 1, none⟩ = some (.int .i64 f) ∧ W.cell? ⟨w.heap.size, 2, none⟩ = some (.int .i64 t) ∧ W.cell? ⟨w.heap.size, 3, none⟩ = some (.int .i64 x) ∧ W.cell? ⟨w.heap.size, 4, none⟩ = some (.slice A n c)) := Lib.hid fun W hb => box5P ((hb.block _ (Array.getElem?_eq_some_iff.1 hx1).1).trans hx1)
  have HB := Lib.hid (Below.refl w1.heap.size w1)
  have HB0 := Lib.hid hb1
  obtain ⟨x0, x1, x2, x3, x4⟩ := HBX.out _ HB.out
  have hnil : ∀ (w : World) (a : Option Addr), (binOp .eql 50 (.pointer a) (.pointer none)).run Tryz.prog w = .ok (.bool a.isNone) w := fun w a => by cases a <;> rfl
  have HW := Lib.hid hw1
  clear hw1 hb1 hx1
  go_enter Tryz.func7, Tryz.ntmps7
  go_upto_region 1 with fail
  rw [← HW.out]
  try dsimp only [List.append]
  go_wp2_with (first
    | (go_at_call 27; refine (pNew_nil _ _).mono ?_; rintro e w2 ⟨rfl, hb⟩
       have HB := Lib.hid (HB.out.trans (hb.mono HB.out.size))
       obtain ⟨x0, x1, x2, x3, x4⟩ := HBX.out _ HB.out
       clear hb)
    | (go_at_call 26; refine (alive14_any _).mono ?_; rintro e w2 ⟨rfl, hb⟩
       have HB := Lib.hid (HB.out.trans (hb.mono HB.out.size))
       obtain ⟨x0, x1, x2, x3, x4⟩ := HBX.out _ HB.out
       clear hb)
    | (go_at_call 28; refine (pHear_nil _ _ _ _ _ _ _ _).mono ?_; rintro e w2 ⟨rfl, hb⟩
       have HB := Lib.hid (HB.out.trans (hb.mono HB.out.size))
       obtain ⟨x0, x1, x2, x3, x4⟩ := HBX.out _ HB.out
       clear hb)
    | (go_at_call 32; refine (pTick_nil _).mono ?_; rintro e w2 ⟨rfl, hb⟩
       have HB := Lib.hid (HB.out.trans (hb.mono HB.out.size))
       obtain ⟨x0, x1, x2, x3, x4⟩ := HBX.out _ HB.out
       clear hb)
    | (go_at_call 34; refine (pOut_nil _).mono ?_; rintro e w2 ⟨rfl, hb⟩
       have HB := Lib.hid (HB.out.trans (hb.mono HB.out.size))
       obtain ⟨x0, x1, x2, x3, x4⟩ := HBX.out _ HB.out
       clear hb)
    | (go_at_call 36; refine (pOver_nil _).mono ?_; rintro e w2 ⟨rfl, hb⟩
       have HB := Lib.hid (HB.out.trans (hb.mono HB.out.size))
       obtain ⟨x0, x1, x2, x3, x4⟩ := HBX.out _ HB.out
       clear hb)
    | (go_at_call 29; refine (pKnown_nil _ _).mono ?_; rintro e w2 ⟨rfl, hb⟩
       have HB := Lib.hid (HB.out.trans (hb.mono HB.out.size))
       obtain ⟨x0, x1, x2, x3, x4⟩ := HBX.out _ HB.out
       clear hb))
  go_ret
  exact ⟨rfl, HB0.out.trans (HB.out.mono HB0.out.size)⟩
end Go.Proofs.YtkohppalfcalbaaGreat
