/- Two boxes of values behind each other: the answer's and the one that is written. -/
import Derived.Test.YtbbhddpfclgohaaKD
namespace Go.Proofs.Ytbbhddpfclgohaa
open Go.RowKit

/-- two boxes behind each other -/
structure TB (w W : World) (x y : Val) : Prop where
  a : W.heap[w.heap.size]? = some (.cells #[.int .i64 x.k, .int .i64 x.n, .string x.s] 45 (0, 0))
  b : W.heap[w.heap.size + 1]? = some (.cells #[.int .i64 y.k, .int .i64 y.n, .string y.s] 45 (0, 0))
  bel : Below w.heap.size w W
theorem TB.new (w : World) (k n : Int) (s : ByteArray) (k' n' : Int) (s' : ByteArray) : TB w ((w.alloc (.cells #[.int .i64 k, .int .i64 n, .string s] 45)).alloc (.cells #[.int .i64 k', .int .i64 n', .string s'] 45)) ⟨k, n, s⟩ ⟨k', n', s'⟩ := by
  refine ⟨?_, ?_, alloc2_below _ _ _⟩
  · rw [Below.heap_alloc _ _ _ (by simp)]
    exact heap_alloc_new w _
  · have h := heap_alloc_new (w.alloc (.cells #[.int .i64 k, .int .i64 n, .string s] 45)) (.cells #[.int .i64 k', .int .i64 n', .string s'] 45)
    have e : (w.alloc (.cells #[.int .i64 k, .int .i64 n, .string s] 45)).heap.size = w.heap.size + 1 := by simp
    rw [e] at h
    exact h
theorem TB.cells {w W : World} {x : Val} {k n : Int} {s : ByteArray} (h : TB w W x ⟨k, n, s⟩) : W.cell? ⟨w.heap.size + 1, 0, none⟩ = some (.int .i64 k) ∧ W.cell? ⟨w.heap.size + 1, 1, none⟩ = some (.int .i64 n) ∧ W.cell? ⟨w.heap.size + 1, 2, none⟩ = some (.string s) := box3 h.b
theorem TB.res {w W : World} {y : Val} {k n : Int} {s : ByteArray} (h : TB w W ⟨k, n, s⟩ y) : W.cell? ⟨w.heap.size, 0, none⟩ = some (.int .i64 k) ∧ W.cell? ⟨w.heap.size, 1, none⟩ = some (.int .i64 n) ∧ W.cell? ⟨w.heap.size, 2, none⟩ = some (.string s) := box3 h.a
theorem TB.frozA {w W : World} {x y : Val} (h : TB w W x y) : W.frozen? ⟨w.heap.size, 0, none⟩ = false ∧ W.frozen? ⟨w.heap.size, 1, none⟩ = false ∧ W.frozen? ⟨w.heap.size, 2, none⟩ = false := by
  have h1 := h.a
  refine ⟨?_, ?_, ?_⟩ <;> simp [World.frozen?, h1]
theorem TB.frozB {w W : World} {x y : Val} (h : TB w W x y) : W.frozen? ⟨w.heap.size + 1, 0, none⟩ = false ∧ W.frozen? ⟨w.heap.size + 1, 1, none⟩ = false ∧ W.frozen? ⟨w.heap.size + 1, 2, none⟩ = false := by
  have h1 := h.b
  refine ⟨?_, ?_, ?_⟩ <;> simp [World.frozen?, h1]
theorem TB.keep {w W V : World} {x y : Val} (h : TB w W x y) (hb : Below W.heap.size W V) : TB w V x y :=
  ⟨(hb.block _ (Array.getElem?_eq_some_iff.1 h.a).1).trans h.a, (hb.block _ (Array.getElem?_eq_some_iff.1 h.b).1).trans h.b, h.bel.trans (hb.mono h.bel.size)⟩
theorem TB.b1 {w W : World} {x : Val} {k n : Int} {s : ByteArray} (h : TB w W x ⟨k, n, s⟩) (n' : Int) : TB w (W.setCell ⟨w.heap.size + 1, 1, none⟩ (.int .i64 n')) x ⟨k, n', s⟩ := by
  have h1 := h.a
  have h2 := h.b
  refine ⟨?_, ?_, h.bel.setCell (by simp) _⟩
  · simp [World.setCell, Array.getElem?_modify, h1]
  · simp [World.setCell, Array.getElem?_modify, h2]
theorem TB.b2 {w W : World} {x : Val} {k n : Int} {s : ByteArray} (h : TB w W x ⟨k, n, s⟩) (s' : ByteArray) : TB w (W.setCell ⟨w.heap.size + 1, 2, none⟩ (.string s')) x ⟨k, n, s'⟩ := by
  have h1 := h.a
  have h2 := h.b
  refine ⟨?_, ?_, h.bel.setCell (by simp) _⟩
  · simp [World.setCell, Array.getElem?_modify, h1]
  · simp [World.setCell, Array.getElem?_modify, h2]
theorem TB.put {w W : World} {x y : Val} (h : TB w W x y) (k n : Int) (s : ByteArray) : TB w (((W.setCell ⟨w.heap.size, 0, none⟩ (.int .i64 k)).setCell ⟨w.heap.size, 1, none⟩ (.int .i64 n)).setCell ⟨w.heap.size, 2, none⟩ (.string s)) ⟨k, n, s⟩ y := by
  have h1 := h.a
  have h2 := h.b
  refine ⟨?_, ?_, ((h.bel.setCell (Nat.le_refl _) _).setCell (Nat.le_refl _) _).setCell (Nat.le_refl _) _⟩
  · simp [World.setCell, Array.getElem?_modify, h1]
  · simp [World.setCell, Array.getElem?_modify, h2]
end Go.Proofs.Ytbbhddpfclgohaa
