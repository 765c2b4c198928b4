/- Package number: Compare at numbers. -/
import Derived.Test.YtjfbhajaddgmpaaDoorNQ
namespace Go.Proofs.YtjfbhajaddgmpaaDoor
open Go.RowKit

theorem cmp_3 (a b : Int) : cmpI a b = -1 ∨ cmpI a b = 0 ∨ cmpI a b = 1 := by
  rcases Int.lt_trichotomy a b with h | h | h
  · exact .inl (cmpI_lt h)
  · exact .inr (.inl (cmpI_eq h))
  · exact .inr (.inr (cmpI_gt h))
theorem sign_3 (k n j m : Int) : signN k n j m = -1 ∨ signN k n j m = 0 ∨ signN k n j m = 1 := by
  unfold signN or2I
  split
  · exact cmp_3 _ _
  · exact cmp_3 _ _
end Go.Proofs.YtjfbhajaddgmpaaDoor
