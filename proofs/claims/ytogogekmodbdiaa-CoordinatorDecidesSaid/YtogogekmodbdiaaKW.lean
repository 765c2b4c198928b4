/- Words of the layers that append bytes: what such a call answers, lists of values, few and right ones. -/
import Derived.Test.YtogogekmodbdiaaKB
import Derived.Test.YtogogekmodbdiaaKD
namespace Go.Proofs.Ytogogekmodbdiaa
open Go.RowKit

/-- what a call that appends answers -/
def AppTo (B : Nat) (w : World) (v : Value) (l : List UInt8) (e : Ending) (w' : World) : Prop := ∃ v', e = .returned v' ∧ OwnB w' B v' l ∧ Grew w v w' v'
theorem AppTo.from {B : Nat} {w : World} {v : Value} {l : List UInt8} {w1 w2 : World} {v1 : Value} {e : Ending} (h1 : Grew w v w1 v1) (h : AppTo B w1 v1 l e w2) : AppTo B w v l e w2 := by
  obtain ⟨v', rfl, ho, hg⟩ := h
  exact ⟨v', rfl, ho, h1.trans hg⟩
theorem OwnB.lt {w : World} {B : Nat} {v : Value} {l : List UInt8} (h : OwnB w B v l) : ∀ k, v.ownBlock = some k → k < w.heap.size := by
  rcases h.1.2 with ⟨rfl, _⟩ | ⟨g, c, cur, rfl, _, hh, _⟩
  · intro k e; cases e
  · intro k e
    have : g = k := by simpa [Value.ownBlock] using e
    subst this
    exact (Array.getElem?_eq_some_iff.1 hh).1
theorem box_kept {w w5 : World} {B : Nat} {v v5 : Value} {l : List UInt8} {o p q : Obj} (h : OwnB w B v l) (hb : (w.alloc o).heap[w.heap.size]? = some q) (hg : Grew ((w.alloc o).alloc p) v w5 v5) : w5.heap[w.heap.size]? = some q := by
  refine (hg.by_.block w.heap.size (by simp; omega) (fun e => by have := h.lt _ e.symm; omega)).trans ?_
  rw [Below.heap_alloc _ _ _ (by simp)]
  exact hb
theorem right_at' (x : Val) (hl : x.s.size ≤ 9223372036854775807) (w : World) : Calls Try.prog 81 #[.agg #[.int .i64 x.k, .int .i64 x.n, .string x.s]] w (Ans (.bool (rightB x)) w) := right_any x hl w
/-- may a list be told? -/
def encOk (l : List Val) : Prop := l.length ≤ 16 ∧ ∀ x ∈ l, rightB x = true
/-- a list of values as the call takes them: numbers in their kinds, texts that are there -/
def AllOk (l : List Val) : Prop := ∀ x ∈ l, x.ok ∧ x.s.size ≤ 9223372036854775807
theorem conv_own {w : World} {B : Nat} {v : Value} {l : List UInt8} (h : OwnB w B v l) : (convert 56 9 v).run Try.prog w = .ok (.string ⟨l.toArray⟩) w := conv_back h.1
end Go.Proofs.Ytogogekmodbdiaa
