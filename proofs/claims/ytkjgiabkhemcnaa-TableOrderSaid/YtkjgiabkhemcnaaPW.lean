/- Package table: the calls of no table. -/
import Derived.Test.YtkjgiabkhemcnaaPV
namespace Go.Proofs.Ytkjgiabkhemcnaa
open Go.RowKit

set_option maxRecDepth 100000 in
theorem nilT_put (k r : Value) (w : World) : Calls Try.prog 12 #[.pointer none, k, r] w (Looks (.tuple #[.slice none 0 0, .bool false]) w) := by
  go_enter Try.func12, Try.ntmps12
  go_wp2_with fail
  go_ret2
  exact ⟨rfl, rfl⟩
set_option maxRecDepth 100000 in
theorem nilT_drop (k : Value) (w : World) : Calls Try.prog 14 #[.pointer none, k] w (Looks (.tuple #[.slice none 0 0, .bool false]) w) := by
  go_enter Try.func14, Try.ntmps14
  go_wp2_with fail
  go_ret2
  exact ⟨rfl, rfl⟩
set_option maxRecDepth 100000 in
theorem nilT_get (k : Value) (w : World) : Calls Try.prog 24 #[.pointer none, k] w (Looks (.tuple #[.slice none 0 0, .bool false]) w) := by
  go_enter Try.func24, Try.ntmps24
  go_wp2_with fail
  go_ret2
  exact ⟨rfl, rfl⟩
set_option maxRecDepth 100000 in
theorem nilT_last (k : Value) (w : World) : Calls Try.prog 25 #[.pointer none, k] w (Ans (.tuple #[.agg #[.slice none 0 0, .slice none 0 0], .bool false]) w) := by
  have HB : Hid (Below w.heap.size w (w.alloc (.cells #[.slice none 0 0, .slice none 0 0] 46))) := Lib.hid (alloc_below w _)
  obtain ⟨y0, y1⟩ := box2 (heap_alloc_new w (.cells #[.slice none 0 0, .slice none 0 0] 46))
  go_enter Try.func25, Try.ntmps25
  go_wp2_with fail
  refine bodyPost_ret (v := .tuple #[.agg #[.slice none 0 0, .slice none 0 0], .bool false]) (by simp [results, Try.results25, go_sem, y0, y1]) rfl ?_
  exact ⟨rfl, HB.out⟩
set_option maxRecDepth 100000 in
theorem nilT_len (w : World) : Calls Try.prog 21 #[.pointer none] w (Looks (.int .i64 0) w) := by
  go_enter Try.func21, Try.ntmps21
  go_wp2_with fail
  go_ret
  exact ⟨rfl, rfl⟩
set_option maxRecDepth 100000 in
theorem nilT_copy (w : World) : Calls Try.prog 16 #[.pointer none] w (Looks (.pointer none) w) := by
  go_enter Try.func16, Try.ntmps16
  go_wp2_with fail
  go_ret
  exact ⟨rfl, rfl⟩
set_option maxRecDepth 100000 in
theorem nilT_range (F T : Value) (most : Int) (w : World) : Calls Try.prog 17 #[.pointer none, F, T, .int .i64 most] w (fun e w' => e = .returned (.slice none 0 0) ∧ Below w.heap.size w w') := by
  have HB : Hid (Below w.heap.size w (w.alloc (.cells #[.int .i64 most] 3))) := Lib.hid (alloc_below w _)
  refine (callsIn_wide (n := 3)).1 ?_
  refine callsIn_of_wp_marks Try.func17 rfl trivial ?_ rfl
  simp only [Try.ntmps17, List.size_toArray, List.length_cons, List.length_nil, Nat.reduceAdd, Nat.reduceSub, Array.replicate_succ, Array.replicate_zero, List.push_toArray, List.append_toArray, List.nil_append, List.cons_append]
  gi_wp2
  refine ⟨_, results_tmp rfl _ _ _, ?_⟩
  exact ⟨rfl, HB.out⟩
end Go.Proofs.Ytkjgiabkhemcnaa
