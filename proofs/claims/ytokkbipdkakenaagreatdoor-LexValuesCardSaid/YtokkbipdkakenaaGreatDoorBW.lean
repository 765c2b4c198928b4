/- Words: boxes of six cells. -/
import Derived.Test.YtokkbipdkakenaaGreatDoorBB
namespace Go.Proofs.YtokkbipdkakenaaGreatDoor
open Go.RowKit

theorem heap_at (w : World) (o : Obj) (k : Nat) : (w.alloc o).heap[k]? = if k = w.heap.size then some o else w.heap[k]? := by
  show (w.heap.push o)[k]? = _
  rw [Array.getElem?_push]
theorem box3b {w : World} {b : Nat} {x y z : Value} {t : TypeId} {fr : Nat × Nat} (h : w.heap[b]? = some (.cells #[x, y, z] t fr)) : w.cell? ⟨b, 0, none⟩ = some x ∧ w.cell? ⟨b, 1, none⟩ = some y ∧ w.cell? ⟨b, 2, none⟩ = some z := by
  refine ⟨?_, ?_, ?_⟩ <;> simp [World.cell?, h]
theorem box6 {w : World} {b : Nat} {x y z u v a : Value} {t : TypeId} {fr : Nat × Nat} (h : w.heap[b]? = some (.cells #[x, y, z, u, v, a] t fr)) : w.cell? ⟨b, 0, none⟩ = some x ∧ w.cell? ⟨b, 1, none⟩ = some y ∧ w.cell? ⟨b, 2, none⟩ = some z ∧ w.cell? ⟨b, 3, none⟩ = some u ∧ w.cell? ⟨b, 4, none⟩ = some v ∧ w.cell? ⟨b, 5, none⟩ = some a := by
  refine ⟨?_, ?_, ?_, ?_, ?_, ?_⟩ <;> simp [World.cell?, h]
theorem frozen_b {w : World} {b : Nat} {cs : Array Value} {t : TypeId} (h : w.heap[b]? = some (.cells cs t (0, 0))) (j : Nat) : w.frozen? ⟨b, j, none⟩ = false := by
  simp [World.frozen?, h]
theorem set1_below {w w3 : World} {B b : Nat} (h : Below B w w3) (hb : B ≤ b) (j : Nat) (x : Value) : Below B w (w3.setCell ⟨b, j, none⟩ x) := by
  refine ⟨h.os, h.tape, h.output, ?_, fun k hk => ?_⟩
  · simp [World.setCell]; exact h.size
  · rw [← h.block k hk]
    simp only [World.setCell, Array.getElem?_modify]
    rw [if_neg (by omega)]
theorem set6_below {w w3 : World} {B b : Nat} (h : Below B w w3) (hb : B ≤ b) (x y z u v a : Value) : Below B w ((((((w3.setCell ⟨b, 0, none⟩ x).setCell ⟨b, 1, none⟩ y).setCell ⟨b, 2, none⟩ z).setCell ⟨b, 3, none⟩ u).setCell ⟨b, 4, none⟩ v).setCell ⟨b, 5, none⟩ a) :=
  set1_below (set1_below (set1_below (set1_below (set1_below (set1_below h hb 0 x) hb 1 y) hb 2 z) hb 3 u) hb 4 v) hb 5 a
theorem heap_set6 {W : World} {g : Nat} {a b c d e f x y z u v t : Value} {ty : TypeId} (h : W.heap[g]? = some (.cells #[a, b, c, d, e, f] ty (0, 0))) : ((((((W.setCell ⟨g, 0, none⟩ x).setCell ⟨g, 1, none⟩ y).setCell ⟨g, 2, none⟩ z).setCell ⟨g, 3, none⟩ u).setCell ⟨g, 4, none⟩ v).setCell ⟨g, 5, none⟩ t).heap[g]? = some (.cells #[x, y, z, u, v, t] ty (0, 0)) := by
  simp [World.setCell, Array.getElem?_modify, h]
/-- a box above w0, in W -/
structure BX (w0 : World) (g : Nat) (cs : Array Value) (T : TypeId) (W : World) : Prop where
  box : W.heap[g]? = some (.cells cs T (0, 0))
  bel : Below w0.heap.size w0 W
  ge : w0.heap.size ≤ g
theorem BX.next {w0 W V : World} {g : Nat} {cs : Array Value} {T : TypeId} (h : BX w0 g cs T W) (hb : Below W.heap.size W V) : BX w0 g cs T V :=
  ⟨(hb.block _ (Array.getElem?_eq_some_iff.1 h.box).1).trans h.box, h.bel.trans (hb.mono h.bel.size), h.ge⟩
theorem BX.next_d {w0 W V : World} {g : Nat} {cs : Array Value} {T : TypeId} (h : BX w0 g cs T W) (hb : Below W.drew.heap.size W.drew V) : BX w0 g cs T V :=
  h.next ((drew_below W).trans hb)
theorem BX.drew {w0 W : World} {g : Nat} {cs : Array Value} {T : TypeId} (h : BX w0 g cs T W) : BX w0 g cs T W.drew := h.next (drew_below W)
theorem BX.first (w : World) (cs : Array Value) (T : TypeId) : BX w w.heap.size cs T (w.alloc (.cells cs T)) :=
  ⟨heap_alloc_new _ _, alloc_below _ _, Nat.le_refl _⟩
theorem BX.two (w : World) (cs ds : Array Value) (T U : TypeId) : BX w w.heap.size cs T ((w.alloc (.cells cs T)).alloc (.cells ds U)) ∧ BX w (w.heap.size + 1) ds U ((w.alloc (.cells cs T)).alloc (.cells ds U)) := by
  refine ⟨(BX.first w cs T).next (alloc_below _ _), ?_, alloc2_below _ _ _, by omega⟩
  rw [heap_at, if_pos (by simp)]
end Go.Proofs.YtokkbipdkakenaaGreatDoor
