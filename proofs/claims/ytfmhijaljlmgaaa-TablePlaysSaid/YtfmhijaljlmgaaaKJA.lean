/- Rows of bytes of the call's own: the empty one, the last byte. -/
import Derived.Test.YtfmhijaljlmgaaaKW
namespace Go.Proofs.Ytfmhijaljlmgaaa
open Go.RowKit

theorem own_empty {w : World} {B : Nat} (h : B ≤ w.heap.size) (t : TypeId) : OwnB (w.alloc (.cells #[] 5)) B (.slice (some ⟨w.heap.size, 0, none⟩) 0 0) [] :=
  OwnB.of_row (n := 0) (l := []) (by have := t; exact own_lit (cs := #[]) (heap_alloc_new w _) h rfl (by omega))
theorem grew_below {w w1 w2 : World} {v v2 : Value} (hb : Below w.heap.size w w1) (hv : ∀ k, v.ownBlock = some k → w.heap.size ≤ k) (h : Grew w1 v w2 v2) : Below w.heap.size w w2 := hb.trans (h.toBelow hb.size hv)
/-- a row of one byte or more stands at a block's head -/
theorem OwnB.head {w : World} {B : Nat} {v : Value} {l : List UInt8} (h : OwnB w B v l) (hn : 0 < l.length) : ∃ g cap, v = .slice (some ⟨g, 0, none⟩) l.length cap ∧ B ≤ g := by
  rcases h.1.2 with ⟨_, h0⟩ | ⟨g, cap, cur, e, hg, _⟩
  · omega
  · exact ⟨g, cap, e, hg⟩
end Go.Proofs.Ytfmhijaljlmgaaa
