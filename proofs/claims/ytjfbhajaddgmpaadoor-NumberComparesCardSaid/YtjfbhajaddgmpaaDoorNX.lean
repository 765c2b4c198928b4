/- Words: faults in memory, values in their boxes, blocks that hold what they held. -/
import Derived.Test.YtjfbhajaddgmpaaDoorT
namespace Go.Proofs.YtjfbhajaddgmpaaDoor
open Go.RowKit

theorem frozen3 {w : World} {b : Nat} {cs : Array Value} {t : TypeId} (h : w.heap[b]? = some (.cells cs t (0, 0))) (j : Nat) : w.frozen? ⟨b, j, none⟩ = false := by
  simp [World.frozen?, h]
theorem heap_at (w : World) (o : Obj) (k : Nat) : (w.alloc o).heap[k]? = if k = w.heap.size then some o else w.heap[k]? := by
  show (w.heap.push o)[k]? = _
  rw [Array.getElem?_push]
theorem set3_below0 {w w3 : World} {B b : Nat} (h : Below B w w3) (hb : B ≤ b) (x y z : Value) : Below B w (((w3.setCell ⟨b, 0, none⟩ x).setCell ⟨b, 1, none⟩ y).setCell ⟨b, 2, none⟩ z) :=
  ((h.setCell (p := ⟨b, 0, none⟩) hb x).setCell (p := ⟨b, 1, none⟩) hb y).setCell (p := ⟨b, 2, none⟩) hb z
def newCells (code at_ : Int) : Array Value := #[.int .i64 code, .int .i64 at_, .nilIface, .int .i64 1]
/-- a fault in memory -/
def FaultAt (w : World) (code at_ : Int) (v : Value) : Prop := ∃ N, v = .iface 69 (.pointer (some ⟨N, 0, none⟩)) ∧ w.heap[N]? = some (.cells (newCells code at_) 74 (0, 0))
theorem new_any (code at_ : Int) (h : (code == 0) = false) (w : World) : Calls Tryd.prog 15 #[.int .i64 code, .int .i64 at_] w fun e w' => ∃ v, e = .returned v ∧ FaultAt w' code at_ v ∧ Below w.heap.size w w' ∧ ∃ N, v = .iface 69 (.pointer (some ⟨N, 0, none⟩)) := by
  go_enter Tryd.func15, Tryd.ntmps15
  go_wp2
  go_ret
  exact ⟨_, rfl, ⟨_, rfl, heap_alloc_new _ _⟩, alloc_below _ _, _, rfl⟩
theorem grownBy_setCell (w : World) (a : Addr) (u : Value) : w.grownBy (w.setCell a u) (some a.block) :=
  ⟨rfl, rfl, rfl, by simp [World.setCell], fun k _ hne => Below.heap_setCell _ _ _ _ (fun e => hne (by rw [e]))⟩
theorem FaultAt.set3 {w : World} {c a : Int} {v : Value} (h : FaultAt w c a v) {b : Nat} {x0 y0 z0 : Value} {t : TypeId} {fr : Nat × Nat} (hb : w.heap[b]? = some (.cells #[x0, y0, z0] t fr)) (x y z : Value) :
    FaultAt (((w.setCell ⟨b, 0, none⟩ x).setCell ⟨b, 1, none⟩ y).setCell ⟨b, 2, none⟩ z) c a v := by
  obtain ⟨N, rfl, hN⟩ := h
  have hne : N ≠ b := by
    intro e; subst e
    rw [hb] at hN
    simp [newCells] at hN
  have hlt := (Array.getElem?_eq_some_iff.1 hN).1
  have g1 := grownBy_setCell w ⟨b, 0, none⟩ x
  have g2 := grownBy_setCell (w.setCell ⟨b, 0, none⟩ x) ⟨b, 1, none⟩ y
  have g3 := grownBy_setCell ((w.setCell ⟨b, 0, none⟩ x).setCell ⟨b, 1, none⟩ y) ⟨b, 2, none⟩ z
  have hn : some N ≠ some b := fun e => hne (Option.some.inj e)
  have hn' : N ≠ b := hne
  refine ⟨N, rfl, ?_⟩
  rw [g3.block N (by have := g1.size; have := g2.size; omega) (by simpa using hn'), g2.block N (by have := g1.size; omega) (by simpa using hn'), g1.block N hlt (by simpa using hn')]
  exact hN
/-- blocks that hold what they are said to hold -/
def Held (W : World) (L : List (Nat × Obj)) : Prop := ∀ p ∈ L, W.heap[p.1]? = some p.2
theorem Held.next {W V : World} {L : List (Nat × Obj)} (h : Held W L) (hb : Below W.heap.size W V) : Held V L := fun p hp => (hb.block _ (Array.getElem?_eq_some_iff.1 (h p hp)).1).trans (h p hp)
theorem Held.alloc {W : World} {L : List (Nat × Obj)} (h : Held W L) (o : Obj) : Held (W.alloc o) ((W.heap.size, o) :: L) := by
  intro p hp
  rcases List.mem_cons.1 hp with rfl | hp
  · exact heap_alloc_new W o
  · exact (h.next (alloc_below W o)) p hp
theorem Held.nil (W : World) : Held W [] := fun _ h => absurd h (by simp)
theorem heap_setCell_at {w : World} {b : Nat} {cs : Array Value} {t : TypeId} {fr : Nat × Nat} (h : w.heap[b]? = some (.cells cs t fr)) (o : Nat) (u : Value) : (w.setCell ⟨b, o, none⟩ u).heap[b]? = some (.cells (cs.setIfInBounds o u) t fr) := by
  simp [World.setCell, Array.getElem?_modify, h]
/-- a store of three cells into a block -/
theorem Held.set3 {w : World} {L : List (Nat × Obj)} {b : Nat} {cs : Array Value} {t : TypeId} {fr : Nat × Nat} (h : Held w ((b, .cells cs t fr) :: L)) (hne : ∀ p ∈ L, p.1 ≠ b) (i j k : Nat) (x y z : Value) :
    Held (((w.setCell ⟨b, i, none⟩ x).setCell ⟨b, j, none⟩ y).setCell ⟨b, k, none⟩ z) ((b, .cells (((cs.setIfInBounds i x).setIfInBounds j y).setIfInBounds k z) t fr) :: L) := by
  intro p hp
  rcases List.mem_cons.1 hp with rfl | hp
  · exact heap_setCell_at (heap_setCell_at (heap_setCell_at (h (b, .cells cs t fr) (by simp)) i x) j y) k z
  · have hn : ¬ p.1 = b := hne p hp
    have e := h p (by simp [hp])
    simp only [World.setCell] at *
    rw [Array.getElem?_modify, if_neg (fun e => hn e.symm), Array.getElem?_modify, if_neg (fun e => hn e.symm), Array.getElem?_modify, if_neg (fun e => hn e.symm)]
    exact e
/-- two values in their boxes, and what start-up laid -/
structure PB (w0 W : World) (k n : Int) (s : ByteArray) (j m : Int) (t : ByteArray) : Prop where
  x : W.heap[w0.heap.size]? = some (.cells #[.int .i64 k, .int .i64 n, .string s] 25 (0, 0))
  y : W.heap[w0.heap.size + 1]? = some (.cells #[.int .i64 j, .int .i64 m, .string t] 25 (0, 0))
  bel : Below w0.heap.size w0 W
theorem PB.next {w0 W V : World} {k n : Int} {s : ByteArray} {j m : Int} {t : ByteArray} (h : PB w0 W k n s j m t) (hb : Below W.heap.size W V) : PB w0 V k n s j m t :=
  ⟨(hb.block _ (Array.getElem?_eq_some_iff.1 h.x).1).trans h.x, (hb.block _ (Array.getElem?_eq_some_iff.1 h.y).1).trans h.y, h.bel.trans (hb.mono h.bel.size)⟩
theorem PB.start (w : World) (k n : Int) (s : ByteArray) (j m : Int) (t : ByteArray) : PB w ((w.alloc (.cells #[.int .i64 k, .int .i64 n, .string s] 25)).alloc (.cells #[.int .i64 j, .int .i64 m, .string t] 25)) k n s j m t := by
  refine ⟨?_, ?_, alloc2_below w _ _⟩
  · rw [heap_at, if_neg (by simp), heap_at, if_pos rfl]
  · rw [heap_at, if_pos (by simp)]
theorem PB.drew {w0 W : World} {k n : Int} {s : ByteArray} {j m : Int} {t : ByteArray} (h : PB w0 W k n s j m t) : PB w0 W.drew k n s j m t := ⟨h.x, h.y, h.bel.drew⟩
theorem PB.six {w0 W : World} {k n : Int} {s : ByteArray} {j m : Int} {t : ByteArray} (h : PB w0 W k n s j m t) : W.cell? ⟨w0.heap.size, 0, none⟩ = some (.int .i64 k) ∧ W.cell? ⟨w0.heap.size, 1, none⟩ = some (.int .i64 n) ∧ W.cell? ⟨w0.heap.size, 2, none⟩ = some (.string s) ∧
    W.cell? ⟨w0.heap.size + 1, 0, none⟩ = some (.int .i64 j) ∧ W.cell? ⟨w0.heap.size + 1, 1, none⟩ = some (.int .i64 m) ∧ W.cell? ⟨w0.heap.size + 1, 2, none⟩ = some (.string t) := by
  obtain ⟨x0, x1, x2⟩ := box3 h.x
  obtain ⟨y0, y1, y2⟩ := box3 h.y
  exact ⟨x0, x1, x2, y0, y1, y2⟩
end Go.Proofs.YtjfbhajaddgmpaaDoor
