/- Not of a truth. -/
import Derived.Test.YtneppncnccangaaGreatDoorO
namespace Go.Proofs.YtneppncnccangaaGreatDoor
open Go.RowKit
attribute [local go_sem ↓] eqV

structure NV (w0 W : World) (k n : Int) : Prop where
  a : W.heap[w0.heap.size]? = some (.cells #[.int .i64 k, .int .i64 n, .string ⟨#[]⟩] 24 (0, 0))
  r : W.heap[w0.heap.size + 1]? = some (.cells #[.int .i64 0, .int .i64 0, .string ⟨#[]⟩] 24 (0, 0))
  bel : Below w0.heap.size w0 W
theorem NV.next {w0 W V : World} {k n : Int} (h : NV w0 W k n) (hb : Below W.heap.size W V) : NV w0 V k n :=
  ⟨(hb.block _ (Array.getElem?_eq_some_iff.1 h.a).1).trans h.a, (hb.block _ (Array.getElem?_eq_some_iff.1 h.r).1).trans h.r, h.bel.trans (hb.mono h.bel.size)⟩
theorem NV.start (w : World) (k n : Int) : NV w ((w.alloc (.cells #[.int .i64 k, .int .i64 n, .string ⟨#[]⟩] 24)).alloc (.cells #[.int .i64 0, .int .i64 0, .string ⟨#[]⟩] 24)) k n := by
  refine ⟨?_, ?_, ?_⟩
  · rw [heap_at, if_neg (by simp), heap_at, if_pos rfl]
  · rw [heap_at, if_pos (by simp)]
  · exact alloc2_below w _ _
set_option maxRecDepth 100000 in
set_option maxHeartbeats 4000000 in
theorem not_none (w : World) : Calls Tryz.prog 8 #[.agg #[.int .i64 0, .int .i64 0, .string ⟨#[]⟩]] w fun e w' => e = .returned (.tuple #[.agg #[.int .i64 0, .int .i64 0, .string ⟨#[]⟩], .nilIface]) ∧ Below w.heap.size w w' := by
  have TA := Lib.hid (isTruth_tv none)
  have HA := Lib.hid (NV.start w 0 0)
  have e1 : eqB 0 0 ⟨#[]⟩ 0 0 ⟨#[]⟩ = true := by decide
  go_enter Tryz.func8, Tryz.ntmps8
  go_wp2_with (go_at_call 22; refine (TA.out _).mono ?_; rintro e w2 ⟨rfl, hb⟩
               have HA := Lib.hid (HA.out.next hb)
               obtain ⟨a0, a1, a2⟩ := box3 HA.out.a
               obtain ⟨r0, r1, r2⟩ := box3 HA.out.r
               have z0 := frozen3 HA.out.r 0
               have z1 := frozen3 HA.out.r 1
               have z2 := frozen3 HA.out.r 2
               have HB := Lib.hid HA.out.bel
               clear hb)
  exact bodyPost_ret (v := .tuple #[.agg #[.int .i64 0, .int .i64 0, .string ⟨#[]⟩], .nilIface]) (by simp [results, Tryz.results8, go_sem, r0, r1, r2]) rfl ⟨rfl, set3_below0 HB.out (by omega) _ _ _⟩
set_option maxRecDepth 100000 in
set_option maxHeartbeats 4000000 in
theorem not_no (w : World) : Calls Tryz.prog 8 #[.agg #[.int .i64 1, .int .i64 0, .string ⟨#[]⟩]] w fun e w' => e = .returned (.tuple #[.agg #[.int .i64 1, .int .i64 1, .string ⟨#[]⟩], .nilIface]) ∧ Below w.heap.size w w' := by
  have TA := Lib.hid (isTruth_tv (some false))
  have HA := Lib.hid (NV.start w 1 0)
  have e1 : eqB 1 0 ⟨#[]⟩ 0 0 ⟨#[]⟩ = false := by decide
  have e2 : eqB 1 0 ⟨#[]⟩ 1 0 ⟨#[]⟩ = true := by decide
  go_enter Tryz.func8, Tryz.ntmps8
  go_wp2_with (go_at_call 22; refine (TA.out _).mono ?_; rintro e w2 ⟨rfl, hb⟩
               have HA := Lib.hid (HA.out.next hb)
               obtain ⟨a0, a1, a2⟩ := box3 HA.out.a
               clear hb)
  go_region_law (first
    | (go_simp; go_at_call 21; first
        | ((with_reducible refine (truth_yes _).mono ?_); rintro e w4 ⟨rfl, hb⟩
           have HA := Lib.hid (HA.out.next hb)
           obtain ⟨a0, a1, a2⟩ := box3 HA.out.a
           obtain ⟨r0, r1, r2⟩ := box3 HA.out.r
           have z0 := frozen3 HA.out.r 0
           have z1 := frozen3 HA.out.r 1
           have z2 := frozen3 HA.out.r 2
           have HB := Lib.hid HA.out.bel
           clear hb)
        | ((with_reducible refine (truth_no _).mono ?_); rintro e w3 ⟨rfl, hb⟩
           have HA := Lib.hid (HA.out.next ((drew_below _).trans hb))
           obtain ⟨a0, a1, a2⟩ := box3 HA.out.a
           clear hb)))
  all_goals
    go_wp2_with fail
    exact bodyPost_ret (v := .tuple #[.agg #[.int .i64 1, .int .i64 1, .string ⟨#[]⟩], .nilIface]) (by simp [results, Tryz.results8, go_sem, r0, r1, r2]) rfl ⟨rfl, set3_below0 HB.out (by omega) _ _ _⟩
set_option maxRecDepth 100000 in
set_option maxHeartbeats 4000000 in
theorem not_yes (w : World) : Calls Tryz.prog 8 #[.agg #[.int .i64 1, .int .i64 1, .string ⟨#[]⟩]] w fun e w' => e = .returned (.tuple #[.agg #[.int .i64 1, .int .i64 0, .string ⟨#[]⟩], .nilIface]) ∧ Below w.heap.size w w' := by
  have TA := Lib.hid (isTruth_tv (some true))
  have HA := Lib.hid (NV.start w 1 1)
  have e1 : eqB 1 1 ⟨#[]⟩ 0 0 ⟨#[]⟩ = false := by decide
  have e2 : eqB 1 1 ⟨#[]⟩ 1 0 ⟨#[]⟩ = false := by decide
  go_enter Tryz.func8, Tryz.ntmps8
  go_wp2_with (go_at_call 22; refine (TA.out _).mono ?_; rintro e w2 ⟨rfl, hb⟩
               have HA := Lib.hid (HA.out.next hb)
               obtain ⟨a0, a1, a2⟩ := box3 HA.out.a
               clear hb)
  go_region_law (first
    | (go_simp; go_at_call 21; first
        | ((with_reducible refine (truth_no _).mono ?_); rintro e w4 ⟨rfl, hb⟩
           have HA := Lib.hid (HA.out.next hb)
           obtain ⟨a0, a1, a2⟩ := box3 HA.out.a
           obtain ⟨r0, r1, r2⟩ := box3 HA.out.r
           have z0 := frozen3 HA.out.r 0
           have z1 := frozen3 HA.out.r 1
           have z2 := frozen3 HA.out.r 2
           have HB := Lib.hid HA.out.bel
           clear hb)
        | ((with_reducible refine (truth_no _).mono ?_); rintro e w3 ⟨rfl, hb⟩
           have HA := Lib.hid (HA.out.next ((drew_below _).trans hb))
           obtain ⟨a0, a1, a2⟩ := box3 HA.out.a
           clear hb)))
  all_goals
    go_wp2_with fail
    exact bodyPost_ret (v := .tuple #[.agg #[.int .i64 1, .int .i64 0, .string ⟨#[]⟩], .nilIface]) (by simp [results, Tryz.results8, go_sem, r0, r1, r2]) rfl ⟨rfl, set3_below0 HB.out (by omega) _ _ _⟩
theorem not_any (t : T3) (w : World) : Calls Tryz.prog 8 #[.agg #[.int .i64 (tk t), .int .i64 (tn t), .string ⟨#[]⟩]] w fun e w' => e = .returned (.tuple #[.agg #[.int .i64 (tk (notT t)), .int .i64 (tn (notT t)), .string ⟨#[]⟩], .nilIface]) ∧ Below w.heap.size w w' := by
  cases t with
  | none => exact not_none w
  | some b =>
    cases b
    · exact not_no w
    · exact not_yes w
end Go.Proofs.YtneppncnccangaaGreatDoor
