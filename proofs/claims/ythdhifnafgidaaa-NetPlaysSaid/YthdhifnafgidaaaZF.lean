/- Package letter: Same. -/
import Derived.Test.YthdhifnafgidaaaZB
namespace Go.Proofs.Ythdhifnafgidaaa
open Go.RowKit

def LooksNL (v : Value) (w : World) : Ending → World → Prop := fun e w' => e = .returned v ∧ ∃ n, w' = w.drewN n
/-- at the head of Equal's loop -/
def EqLp (w : World) (ns ms : List Int) (v13 : Value) (wr : World) : Prop := ∃ i k : Nat, v13 = .int .i64 (i : Int) ∧ i ≤ ns.length ∧ (∀ j, j < i → ns[j]? = ms[j]?) ∧ wr = w.drewN k
def sameL (a b : Ltr) : Bool := decide (a.k = b.k) && (decide (a.f = b.f) && (decide (a.t = b.t) && (decide (a.x = b.x) && decide (a.ns = b.ns))))
theorem sameL_eq (a b : Ltr) : sameL a b = true ↔ a = b := by
  unfold sameL
  simp only [Bool.and_eq_true, decide_eq_true_eq]
  exact ⟨fun ⟨h1, h2, h3, h4, h5⟩ => Ltr.ext' h1 h2 h3 h4 h5, fun h => by subst h; simp⟩
end Go.Proofs.Ythdhifnafgidaaa
