/- Words of the layers that append bytes: what such a call answers, lists of values, few and right ones. -/
import Derived.Test.YtfmhijaljlmgaaaKB
import Derived.Test.YtfmhijaljlmgaaaKD
namespace Go.Proofs.Ytfmhijaljlmgaaa
open Go.RowKit

/-- what a call that appends answers -/
def AppTo (B : Nat) (w : World) (v : Value) (l : List UInt8) (e : Ending) (w' : World) : Prop := ∃ v', e = .returned v' ∧ OwnB w' B v' l ∧ Grew w v w' v'
theorem AppTo.from {B : Nat} {w : World} {v : Value} {l : List UInt8} {w1 w2 : World} {v1 : Value} {e : Ending} (h1 : Grew w v w1 v1) (h : AppTo B w1 v1 l e w2) : AppTo B w v l e w2 := by
  obtain ⟨v', rfl, ho, hg⟩ := h
  exact ⟨v', rfl, ho, h1.trans hg⟩
theorem OwnB.lt {w : World} {B : Nat} {v : Value} {l : List UInt8} (h : OwnB w B v l) : ∀ k, v.ownBlock = some k → k < w.heap.size := by
  rcases h.1.2 with ⟨rfl, _⟩ | ⟨g, c, cur, rfl, _, hh, _⟩
  · intro k e; cases e
  · intro k e
    have : g = k := by simpa [Value.ownBlock] using e
    subst this
    exact (Array.getElem?_eq_some_iff.1 hh).1
theorem conv_own {w : World} {B : Nat} {v : Value} {l : List UInt8} (h : OwnB w B v l) : (convert 23 9 v).run Try.prog w = .ok (.string ⟨l.toArray⟩) w := conv_back h.1
end Go.Proofs.Ytfmhijaljlmgaaa
