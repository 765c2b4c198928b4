/- Package participant: New; Hear of a Prepare. -/
import Derived.Test.YtkohppalfcalbaaGreatGUG
namespace Go.Proofs.YtkohppalfcalbaaGreat
open Go.RowKit Go.Maps

/-- a new participant -/
def newPt (W : World) (c : Nat) (node : Int) (v : Vw) : PtS := ⟨W.heap.size + 2, c, W.heap.size, W.heap.size + 1, W.heap.size + 2, W.heap.size + 2, node, 0, [], fun _ => [], [], [], [], .slice none 0 0, .slice none 0 0, v, fun _ => False⟩
theorem new_pt {w W : World} {c : Nat} {v : Vw} {F : Nat → Prop} (h : AtS w W c v F) (node : Int) : Pt w (((W.alloc (.map #[] 0)).alloc (.map #[] 0)).alloc (.cells #[.pointer (some ⟨c, 0, none⟩), .int .i64 node, .int .i64 0, .map (some W.heap.size), .map (some (W.heap.size + 1)), .slice none 0 0, .slice none 0 0] 118)) (newPt W c node v) := by
  obtain ⟨A, hA⟩ : ∃ A, A = W.alloc (.map #[] 0) := ⟨_, rfl⟩
  obtain ⟨B, hB⟩ : ∃ B, B = A.alloc (.map #[] 0) := ⟨_, rfl⟩
  obtain ⟨C, hC⟩ : ∃ C, C = B.alloc (.cells #[.pointer (some ⟨c, 0, none⟩), .int .i64 node, .int .i64 0, .map (some W.heap.size), .map (some (W.heap.size + 1)), .slice none 0 0, .slice none 0 0] 118) := ⟨_, rfl⟩
  have sA : A.heap.size = W.heap.size + 1 := by rw [hA]; simp
  have sB : B.heap.size = W.heap.size + 2 := by rw [hB]; simp [sA]
  have sC : C.heap.size = W.heap.size + 3 := by rw [hC]; simp [sB]
  have bA : Below W.heap.size W A := by rw [hA]; exact alloc_below _ _
  have bB : Below A.heap.size A B := by rw [hB]; exact alloc_below _ _
  have bC : Below B.heap.size B C := by rw [hC]; exact alloc_below _ _
  have hb : Below W.heap.size W C := (bA.trans (bB.mono bA.size)).trans (bC.mono (by omega))
  have m1 : MapM doubtW A W.heap.size [] := by rw [hA]; exact MapM.new _ _
  have m2 : MapM endW B (W.heap.size + 1) [] := by
    have := MapM.new endW A
    rw [← hB, sA] at this
    exact this
  have hx : C.heap[W.heap.size + 2]? = some (.cells #[.pointer (some ⟨c, 0, none⟩), .int .i64 node, .int .i64 0, .map (some W.heap.size), .map (some (W.heap.size + 1)), .slice none 0 0, .slice none 0 0] 118 (0, 0)) := by
    have := heap_alloc_new B (.cells #[.pointer (some ⟨c, 0, none⟩), .int .i64 node, .int .i64 0, .map (some W.heap.size), .map (some (W.heap.size + 1)), .slice none 0 0, .slice none 0 0] 118)
    rw [← hC, sB] at this
    exact this
  rw [← hA, ← hB, ← hC]
  refine ⟨(h.foreign hb).fewer fun k hk => .inr ?_, hx, (m1.below bB).below bC, m2.below bC, .inl ⟨rfl, rfl, rfl, rfl⟩, .inl ⟨rfl, rfl, rfl, rfl⟩, ?_, ?_, ?_, fun _ => rfl, fun k hk => hk.elim, fun e he => by cases he⟩
  · have hk2 : k = W.heap.size + 2 ∨ k = W.heap.size ∨ k = W.heap.size + 1 ∨ k = W.heap.size + 2 ∨ k = W.heap.size + 2 ∨ False := hk
    rcases hk2 with e | e | e | e | e | e
    all_goals first | exact e.elim | (constructor <;> omega)
  · show W.heap.size ≠ W.heap.size + 1
    omega
  · show W.heap.size + 2 ≠ W.heap.size ∧ W.heap.size + 2 ≠ W.heap.size + 1
    omega
  · show W.heap.size + 2 ≠ W.heap.size ∧ W.heap.size + 2 ≠ W.heap.size + 1
    omega
set_option maxRecDepth 100000 in
theorem newP_any {w W : World} {c : Nat} {v : Vw} {F : Nat → Prop} (h : AtS w W c v F) {node : Int} (h0 : 0 ≤ node) (h1 : node < 16) : Calls Tryz.prog 27 #[.pointer (some ⟨c, 0, none⟩), .int .i64 node] W (fun e W' => e = .returned (.tuple #[.pointer (some ⟨(newPt W c node v).pb, 0, none⟩), .int .i64 0]) ∧ Pt w W' (newPt W c node v)) := by
  have HP := Lib.hid (new_pt h node)
  have hs : ∀ (w : World) (a : Option Addr), (binOp .eql 25 (.pointer a) (.pointer none)).run Tryz.prog w = .ok (.bool a.isNone) w := fun w a => by cases a <;> rfl
  have h2 : ¬ node < 0 := by omega
  have h3 : ¬ 16 ≤ node := by omega
  have hmm := @run_makeMap Tryz.prog
  clear h
  go_enter Tryz.func27, Tryz.ntmps27
  go_wp2_with fail
  go_ret2
  exact ⟨rfl, HP.out⟩
end Go.Proofs.YtkohppalfcalbaaGreat
