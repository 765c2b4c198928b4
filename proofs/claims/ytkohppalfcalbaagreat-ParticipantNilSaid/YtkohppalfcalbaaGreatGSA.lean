/- Packages shard and participant: the calls of no shard, no disk, no participant. -/
import Derived.Test.YtkohppalfcalbaaGreatDX
import Derived.Deep.QuietTactic
import Derived.BigQuiet
namespace Go.Proofs.YtkohppalfcalbaaGreat
open Go.RowKit

set_option maxRecDepth 100000 in
theorem pClosed_nil  (w : World) : Calls Tryz.prog 63 #[.pointer none] w (Looks (.bool true) w) := by
  have hnil0 : ∀ (w : World) (a : Option Addr), (binOp .eql 50 (.pointer a) (.pointer none)).run Tryz.prog w = .ok (.bool a.isNone) w := fun w a => by cases a <;> rfl
  have hnil1 : ∀ (w : World) (a : Option Addr), (binOp .eql 25 (.pointer a) (.pointer none)).run Tryz.prog w = .ok (.bool a.isNone) w := fun w a => by cases a <;> rfl
  go_enter Tryz.func63, Tryz.ntmps63
  go_wp2_with fail
  first | go_ret | go_ret2 | refine bodyPost_ret (v := .bool true) (by simp [results, Tryz.results63, go_sem]) rfl ?_
  exact ⟨rfl, rfl⟩

set_option maxRecDepth 100000 in
theorem pHear_nil (k f t x : Int) (A : Option Addr) (n c : Nat) (w : World) : Calls Tryz.prog 28 #[.pointer none, .agg #[.int .i64 k, .int .i64 f, .int .i64 t, .int .i64 x, .slice A n c]] w (Ans (.int .i64 1) w) := by
  go_enter Tryz.func28, Tryz.ntmps28
  go_wp2_with (first | (go_at_call 63; refine (pClosed_nil _).mono ?_; rintro e1 w1 ⟨rfl, rfl⟩) | fail)
  first | go_ret | go_ret2 | refine bodyPost_ret (v := .int .i64 1) (by simp [results, Tryz.results28, go_sem]) rfl ?_
  exact ⟨rfl, by first | exact Below.refl _ _ | exact alloc_below _ _ | exact HB1.out | exact (alloc_below _ _).trans (HB1.out.mono (alloc_below _ _).size)⟩

set_option maxRecDepth 100000 in
theorem pTick_nil  (w : World) : Calls Tryz.prog 32 #[.pointer none] w (Ans (.int .i64 1) w) := by
  go_enter Tryz.func32, Tryz.ntmps32
  go_wp2_with (first | (go_at_call 63; refine (pClosed_nil _).mono ?_; rintro e1 w1 ⟨rfl, rfl⟩) | fail)
  first | go_ret | go_ret2 | refine bodyPost_ret (v := .int .i64 1) (by simp [results, Tryz.results32, go_sem]) rfl ?_
  exact ⟨rfl, by first | exact Below.refl _ _ | exact alloc_below _ _ | exact HB1.out | exact (alloc_below _ _).trans (HB1.out.mono (alloc_below _ _).size)⟩

set_option maxRecDepth 100000 in
theorem pOut_nil  (w : World) : Calls Tryz.prog 34 #[.pointer none] w (Ans (.slice none 0 0) w) := by
  go_enter Tryz.func34, Tryz.ntmps34
  go_wp2_with (first | (go_at_call 63; refine (pClosed_nil _).mono ?_; rintro e1 w1 ⟨rfl, rfl⟩) | fail)
  first | go_ret | go_ret2 | refine bodyPost_ret (v := .slice none 0 0) (by simp [results, Tryz.results34, go_sem]) rfl ?_
  exact ⟨rfl, by first | exact Below.refl _ _ | exact alloc_below _ _ | exact HB1.out | exact (alloc_below _ _).trans (HB1.out.mono (alloc_below _ _).size)⟩

set_option maxRecDepth 100000 in
theorem pOver_nil  (w : World) : Calls Tryz.prog 36 #[.pointer none] w (Ans (.slice none 0 0) w) := by
  go_enter Tryz.func36, Tryz.ntmps36
  go_wp2_with (first | (go_at_call 63; refine (pClosed_nil _).mono ?_; rintro e1 w1 ⟨rfl, rfl⟩) | fail)
  first | go_ret | go_ret2 | refine bodyPost_ret (v := .slice none 0 0) (by simp [results, Tryz.results36, go_sem]) rfl ?_
  exact ⟨rfl, by first | exact Below.refl _ _ | exact alloc_below _ _ | exact HB1.out | exact (alloc_below _ _).trans (HB1.out.mono (alloc_below _ _).size)⟩

set_option maxRecDepth 100000 in
theorem pKnown_nil (x : Int) (w : World) : Calls Tryz.prog 29 #[.pointer none, .int .i64 x] w (Ans (.int .i64 0) w) := by
  go_enter Tryz.func29, Tryz.ntmps29
  go_wp2_with (first | (go_at_call 63; refine (pClosed_nil _).mono ?_; rintro e1 w1 ⟨rfl, rfl⟩) | fail)
  first | go_ret | go_ret2 | refine bodyPost_ret (v := .int .i64 0) (by simp [results, Tryz.results29, go_sem]) rfl ?_
  exact ⟨rfl, by first | exact Below.refl _ _ | exact alloc_below _ _ | exact HB1.out | exact (alloc_below _ _).trans (HB1.out.mono (alloc_below _ _).size)⟩

set_option maxRecDepth 100000 in
theorem pNew_nil (x : Int) (w : World) : Calls Tryz.prog 27 #[.pointer none, .int .i64 x] w (Ans (.tuple #[.pointer none, .int .i64 1]) w) := by
  have hnil0 : ∀ (w : World) (a : Option Addr), (binOp .eql 25 (.pointer a) (.pointer none)).run Tryz.prog w = .ok (.bool a.isNone) w := fun w a => by cases a <;> rfl
  go_enter Tryz.func27, Tryz.ntmps27
  go_wp2_with fail
  first | go_ret | go_ret2 | refine bodyPost_ret (v := .tuple #[.pointer none, .int .i64 1]) (by simp [results, Tryz.results27, go_sem]) rfl ?_
  exact ⟨rfl, by first | exact Below.refl _ _ | exact alloc_below _ _ | exact HB1.out | exact (alloc_below _ _).trans (HB1.out.mono (alloc_below _ _).size)⟩

end Go.Proofs.YtkohppalfcalbaaGreat
