/- Words: bytes as they are written; what a call that turns the disk alone leaves, seen from below. -/
import Derived.Test.YtknolgcbaoppcaaDF
import Derived.Lib.SlBytesConst
namespace Go.Proofs.Ytknolgcbaoppcaa
open Go.RowKit

/-- bytes as they are written -/
theorem rd_lit (w : World) (l : List UInt8) (cs : Array Value) (fr : Nat × Nat) (hc : cs = (bytesV l).toArray) : RdB (w.alloc (.cells cs 5 fr)) (w.alloc (.cells cs 5 fr)).heap.size (some ⟨w.heap.size, 0, none⟩) l := fun _ => ⟨_, rfl, by simp, fun j d hj => by
  subst hc
  have hh : (w.alloc (.cells (bytesV l).toArray 5 fr)).heap[w.heap.size]? = _ := heap_alloc_new w _
  rw [add_plain, cell_of_row _ _ j _ _ fr hh]
  simp [bytesV, hj]⟩
/-- what a call that turns the disk alone leaves, seen from below -/
theorem Only.dk {w w' : World} {B p g : Nat} (hO : Only (fun k => k = p ∨ k = g) w w') (hB : B ≤ w.heap.size) (hp : B ≤ p) (hg : B ≤ g) : Below B w w' := hO.below hB (fun j h => by rcases h with rfl | rfl <;> omega)
theorem alloc_dk {w w1 w2 : World} {o : Obj} {B p g : Nat} (hb : Below B w w1) (hB : B ≤ w.heap.size) (hO : Only (fun k => k = p ∨ k = g) (w1.alloc o) w2) (hp : B ≤ p) (hg : B ≤ g) : Below B w w2 := by
  have h1 := hb.trans ((alloc_below w1 o).mono (Nat.le_trans hB hb.size))
  exact h1.trans (hO.dk (Nat.le_trans hB h1.size) hp hg)
end Go.Proofs.Ytknolgcbaoppcaa
