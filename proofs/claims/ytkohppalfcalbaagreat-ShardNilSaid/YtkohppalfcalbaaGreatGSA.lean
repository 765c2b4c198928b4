/- Packages shard and participant: the calls of no shard, no disk, no participant. -/
import Derived.Test.YtkohppalfcalbaaGreatDX
import Derived.Deep.QuietTactic
import Derived.BigQuiet
namespace Go.Proofs.YtkohppalfcalbaaGreat
open Go.RowKit

set_option maxRecDepth 100000 in
theorem sClosed_nil  (w : World) : Calls Tryz.prog 46 #[.pointer none] w (Looks (.bool true) w) := by
  have hnil0 : ∀ (w : World) (a : Option Addr), (binOp .eql 25 (.pointer a) (.pointer none)).run Tryz.prog w = .ok (.bool a.isNone) w := fun w a => by cases a <;> rfl
  have hnil1 : ∀ (w : World) (a : Option Addr), (binOp .eql 71 (.pointer a) (.pointer none)).run Tryz.prog w = .ok (.bool a.isNone) w := fun w a => by cases a <;> rfl
  go_enter Tryz.func46, Tryz.ntmps46
  go_wp2_with fail
  first | go_ret | go_ret2 | refine bodyPost_ret (v := .bool true) (by simp [results, Tryz.results46, go_sem]) rfl ?_
  exact ⟨rfl, rfl⟩

set_option maxRecDepth 100000 in
theorem sFind_nil (x : Int) (w : World) : Calls Tryz.prog 40 #[.pointer none, .int .i64 x] w (Looks (.tuple #[.pointer none, .int .i64 1]) w) := by
  go_enter Tryz.func40, Tryz.ntmps40
  go_wp2_with (first | (go_at_call 46; refine (sClosed_nil _).mono ?_; rintro e1 w1 ⟨rfl, rfl⟩) | fail)
  first | go_ret | go_ret2 | refine bodyPost_ret (v := .tuple #[.pointer none, .int .i64 1]) (by simp [results, Tryz.results40, go_sem]) rfl ?_
  exact ⟨rfl, rfl⟩

set_option maxRecDepth 100000 in
theorem sActive_nil (x : Int) (w : World) : Calls Tryz.prog 49 #[.pointer none, .int .i64 x] w (Looks (.tuple #[.pointer none, .int .i64 1]) w) := by
  go_enter Tryz.func49, Tryz.ntmps49
  go_wp2_with (first | (go_at_call 40; refine (sFind_nil _ _).mono ?_; rintro e1 w1 ⟨rfl, rfl⟩) | fail)
  first | go_ret | go_ret2 | refine bodyPost_ret (v := .tuple #[.pointer none, .int .i64 1]) (by simp [results, Tryz.results49, go_sem]) rfl ?_
  exact ⟨rfl, rfl⟩

set_option maxRecDepth 100000 in
theorem sGet_nil (x : Int) (s : ByteArray) (A : Option Addr) (n c : Nat) (w : World) : Calls Tryz.prog 10 #[.pointer none, .int .i64 x, .string s, .slice A n c] w (Ans (.tuple #[.slice none 0 0, .int .i64 1]) w) := by
  go_enter Tryz.func10, Tryz.ntmps10
  go_wp2_with (first | (go_at_call 40; refine (sFind_nil _ _).mono ?_; rintro e1 w1 ⟨rfl, rfl⟩) | fail)
  first | go_ret | go_ret2 | refine bodyPost_ret (v := .tuple #[.slice none 0 0, .int .i64 1]) (by simp [results, Tryz.results10, go_sem]) rfl ?_
  exact ⟨rfl, by first | exact Below.refl _ _ | exact alloc_below _ _ | exact HB1.out | exact (alloc_below _ _).trans (HB1.out.mono (alloc_below _ _).size)⟩

set_option maxRecDepth 100000 in
theorem sRange_nil (x : Int) (s : ByteArray) (A B : Option Addr) (n c m d : Nat) (w : World) : Calls Tryz.prog 11 #[.pointer none, .int .i64 x, .string s, .slice A n c, .slice B m d] w (Ans (.tuple #[.slice none 0 0, .int .i64 1]) w) := by
  go_enter Tryz.func11, Tryz.ntmps11
  go_wp2_with (first | (go_at_call 40; refine (sFind_nil _ _).mono ?_; rintro e1 w1 ⟨rfl, rfl⟩) | fail)
  first | go_ret | go_ret2 | refine bodyPost_ret (v := .tuple #[.slice none 0 0, .int .i64 1]) (by simp [results, Tryz.results11, go_sem]) rfl ?_
  exact ⟨rfl, by first | exact Below.refl _ _ | exact alloc_below _ _ | exact HB1.out | exact (alloc_below _ _).trans (HB1.out.mono (alloc_below _ _).size)⟩

set_option maxRecDepth 100000 in
theorem sBegin_nil (x : Int) (w : World) : Calls Tryz.prog 12 #[.pointer none, .int .i64 x] w (Ans (.int .i64 1) w) := by
  go_enter Tryz.func12, Tryz.ntmps12
  go_wp2_with (first | (go_at_call 46; refine (sClosed_nil _).mono ?_; rintro e1 w1 ⟨rfl, rfl⟩) | fail)
  first | go_ret | go_ret2 | refine bodyPost_ret (v := .int .i64 1) (by simp [results, Tryz.results12, go_sem]) rfl ?_
  exact ⟨rfl, by first | exact Below.refl _ _ | exact alloc_below _ _ | exact HB1.out | exact (alloc_below _ _).trans (HB1.out.mono (alloc_below _ _).size)⟩

set_option maxRecDepth 100000 in
theorem sPut_nil (x : Int) (s : ByteArray) (A B : Option Addr) (n c m d : Nat) (w : World) : Calls Tryz.prog 13 #[.pointer none, .int .i64 x, .string s, .slice A n c, .slice B m d] w (Ans (.int .i64 1) w) := by
  go_enter Tryz.func13, Tryz.ntmps13
  go_wp2_with (first | (go_at_call 49; refine (sActive_nil _ _).mono ?_; rintro e1 w1 ⟨rfl, rfl⟩) | fail)
  first | go_ret | go_ret2 | refine bodyPost_ret (v := .int .i64 1) (by simp [results, Tryz.results13, go_sem]) rfl ?_
  exact ⟨rfl, by first | exact Below.refl _ _ | exact alloc_below _ _ | exact HB1.out | exact (alloc_below _ _).trans (HB1.out.mono (alloc_below _ _).size)⟩

set_option maxRecDepth 100000 in
theorem sDrop_nil (x : Int) (s : ByteArray) (A : Option Addr) (n c : Nat) (w : World) : Calls Tryz.prog 14 #[.pointer none, .int .i64 x, .string s, .slice A n c] w (Ans (.int .i64 1) w) := by
  go_enter Tryz.func14, Tryz.ntmps14
  go_wp2_with (first | (go_at_call 49; refine (sActive_nil _ _).mono ?_; rintro e1 w1 ⟨rfl, rfl⟩) | fail)
  first | go_ret | go_ret2 | refine bodyPost_ret (v := .int .i64 1) (by simp [results, Tryz.results14, go_sem]) rfl ?_
  exact ⟨rfl, by first | exact Below.refl _ _ | exact alloc_below _ _ | exact HB1.out | exact (alloc_below _ _).trans (HB1.out.mono (alloc_below _ _).size)⟩

set_option maxRecDepth 100000 in
theorem sBack_nil (x k : Int) (w : World) : Calls Tryz.prog 15 #[.pointer none, .int .i64 x, .int .i64 k] w (Ans (.int .i64 1) w) := by
  go_enter Tryz.func15, Tryz.ntmps15
  go_wp2_with (first | (go_at_call 49; refine (sActive_nil _ _).mono ?_; rintro e1 w1 ⟨rfl, rfl⟩) | fail)
  first | go_ret | go_ret2 | refine bodyPost_ret (v := .int .i64 1) (by simp [results, Tryz.results15, go_sem]) rfl ?_
  exact ⟨rfl, by first | exact Below.refl _ _ | exact alloc_below _ _ | exact HB1.out | exact (alloc_below _ _).trans (HB1.out.mono (alloc_below _ _).size)⟩

set_option maxRecDepth 100000 in
theorem sPrepare_nil (x : Int) (w : World) : Calls Tryz.prog 16 #[.pointer none, .int .i64 x] w (Ans (.int .i64 1) w) := by
  go_enter Tryz.func16, Tryz.ntmps16
  go_wp2_with (first | (go_at_call 49; refine (sActive_nil _ _).mono ?_; rintro e1 w1 ⟨rfl, rfl⟩) | fail)
  first | go_ret | go_ret2 | refine bodyPost_ret (v := .int .i64 1) (by simp [results, Tryz.results16, go_sem]) rfl ?_
  exact ⟨rfl, by first | exact Below.refl _ _ | exact alloc_below _ _ | exact HB1.out | exact (alloc_below _ _).trans (HB1.out.mono (alloc_below _ _).size)⟩

set_option maxRecDepth 100000 in
theorem sCommit_nil (x : Int) (w : World) : Calls Tryz.prog 17 #[.pointer none, .int .i64 x] w (Ans (.int .i64 1) w) := by
  go_enter Tryz.func17, Tryz.ntmps17
  go_wp2_with (first | (go_at_call 40; refine (sFind_nil _ _).mono ?_; rintro e1 w1 ⟨rfl, rfl⟩) | fail)
  first | go_ret | go_ret2 | refine bodyPost_ret (v := .int .i64 1) (by simp [results, Tryz.results17, go_sem]) rfl ?_
  exact ⟨rfl, by first | exact Below.refl _ _ | exact alloc_below _ _ | exact HB1.out | exact (alloc_below _ _).trans (HB1.out.mono (alloc_below _ _).size)⟩

set_option maxRecDepth 100000 in
theorem sAbort_nil (x : Int) (w : World) : Calls Tryz.prog 18 #[.pointer none, .int .i64 x] w (Ans (.int .i64 1) w) := by
  go_enter Tryz.func18, Tryz.ntmps18
  go_wp2_with (first | (go_at_call 40; refine (sFind_nil _ _).mono ?_; rintro e1 w1 ⟨rfl, rfl⟩) | fail)
  first | go_ret | go_ret2 | refine bodyPost_ret (v := .int .i64 1) (by simp [results, Tryz.results18, go_sem]) rfl ?_
  exact ⟨rfl, by first | exact Below.refl _ _ | exact alloc_below _ _ | exact HB1.out | exact (alloc_below _ _).trans (HB1.out.mono (alloc_below _ _).size)⟩

set_option maxRecDepth 100000 in
theorem sImage_nil  (w : World) : Calls Tryz.prog 19 #[.pointer none] w (Ans (.int .i64 1) w) := by
  go_enter Tryz.func19, Tryz.ntmps19
  go_wp2_with (first | (go_at_call 46; refine (sClosed_nil _).mono ?_; rintro e1 w1 ⟨rfl, rfl⟩) | fail)
  first | go_ret | go_ret2 | refine bodyPost_ret (v := .int .i64 1) (by simp [results, Tryz.results19, go_sem]) rfl ?_
  exact ⟨rfl, by first | exact Below.refl _ _ | exact alloc_below _ _ | exact HB1.out | exact (alloc_below _ _).trans (HB1.out.mono (alloc_below _ _).size)⟩

set_option maxRecDepth 100000 in
theorem sMark_nil (x : Int) (w : World) : Calls Tryz.prog 21 #[.pointer none, .int .i64 x] w (Ans (.int .i64 0) w) := by
  go_enter Tryz.func21, Tryz.ntmps21
  go_wp2_with (first | (go_at_call 40; refine (sFind_nil _ _).mono ?_; rintro e1 w1 ⟨rfl, rfl⟩) | fail)
  first | go_ret | go_ret2 | refine bodyPost_ret (v := .int .i64 0) (by simp [results, Tryz.results21, go_sem]) rfl ?_
  exact ⟨rfl, by first | exact Below.refl _ _ | exact alloc_below _ _ | exact HB1.out | exact (alloc_below _ _).trans (HB1.out.mono (alloc_below _ _).size)⟩

set_option maxRecDepth 100000 in
theorem sDoubts_nil  (w : World) : Calls Tryz.prog 22 #[.pointer none] w (Ans (.slice none 0 0) w) := by
  go_enter Tryz.func22, Tryz.ntmps22
  go_wp2_with (first | (go_at_call 46; refine (sClosed_nil _).mono ?_; rintro e1 w1 ⟨rfl, rfl⟩) | fail)
  first | go_ret | go_ret2 | refine bodyPost_ret (v := .slice none 0 0) (by simp [results, Tryz.results22, go_sem]) rfl ?_
  exact ⟨rfl, by first | exact Below.refl _ _ | exact alloc_below _ _ | exact HB1.out | exact (alloc_below _ _).trans (HB1.out.mono (alloc_below _ _).size)⟩

set_option maxRecDepth 100000 in
theorem sChanges_nil (x : Int) (w : World) : Calls Tryz.prog 23 #[.pointer none, .int .i64 x] w (Ans (.slice none 0 0) w) := by
  go_enter Tryz.func23, Tryz.ntmps23
  go_wp2_with (first | (go_at_call 40; refine (sFind_nil _ _).mono ?_; rintro e1 w1 ⟨rfl, rfl⟩) | fail)
  first | go_ret | go_ret2 | refine bodyPost_ret (v := .slice none 0 0) (by simp [results, Tryz.results23, go_sem]) rfl ?_
  exact ⟨rfl, by first | exact Below.refl _ _ | exact alloc_below _ _ | exact HB1.out | exact (alloc_below _ _).trans (HB1.out.mono (alloc_below _ _).size)⟩

set_option maxRecDepth 100000 in
theorem sRows_nil (s : ByteArray) (w : World) : Calls Tryz.prog 24 #[.pointer none, .string s] w (Ans (.slice none 0 0) w) := by
  go_enter Tryz.func24, Tryz.ntmps24
  go_wp2_with (first | (go_at_call 46; refine (sClosed_nil _).mono ?_; rintro e1 w1 ⟨rfl, rfl⟩) | fail)
  first | go_ret | go_ret2 | refine bodyPost_ret (v := .slice none 0 0) (by simp [results, Tryz.results24, go_sem]) rfl ?_
  exact ⟨rfl, by first | exact Below.refl _ _ | exact alloc_below _ _ | exact HB1.out | exact (alloc_below _ _).trans (HB1.out.mono (alloc_below _ _).size)⟩

set_option maxRecDepth 100000 in
theorem walOpen_none  (w : World) : Calls Tryz.prog 37 #[.pointer none] w (Looks (.tuple #[.pointer none, .int .i64 1]) w) := by
  have hnil0 : ∀ (w : World) (a : Option Addr), (binOp .eql 48 (.pointer a) (.pointer none)).run Tryz.prog w = .ok (.bool a.isNone) w := fun w a => by cases a <;> rfl
  go_enter Tryz.func37, Tryz.ntmps37
  go_wp2_with fail
  first | go_ret | go_ret2 | refine bodyPost_ret (v := .tuple #[.pointer none, .int .i64 1]) (by simp [results, Tryz.results37, go_sem]) rfl ?_
  exact ⟨rfl, rfl⟩

set_option maxRecDepth 100000 in
theorem sOpen_nil  (w : World) : Calls Tryz.prog 9 #[.pointer none] w (Ans (.tuple #[.pointer none, .int .i64 1]) w) := by
  go_enter Tryz.func9, Tryz.ntmps9
  go_wp2_with (first | (go_at_call 37; refine (walOpen_none _).mono ?_; rintro e1 w1 ⟨rfl, rfl⟩) | fail)
  first | go_ret | go_ret2 | refine bodyPost_ret (v := .tuple #[.pointer none, .int .i64 1]) (by simp [results, Tryz.results9, go_sem]) rfl ?_
  exact ⟨rfl, by first | exact Below.refl _ _ | exact alloc_below _ _ | exact HB1.out | exact (alloc_below _ _).trans (HB1.out.mono (alloc_below _ _).size)⟩

end Go.Proofs.YtkohppalfcalbaaGreat
