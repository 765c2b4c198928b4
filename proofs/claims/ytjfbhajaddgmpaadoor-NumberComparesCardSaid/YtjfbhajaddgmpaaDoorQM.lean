/- Which value comes first: words. -/
import Derived.Test.YtjfbhajaddgmpaaDoorA
import Derived.Lib.Bytealg
namespace Go.Proofs.YtjfbhajaddgmpaaDoor
open Go.RowKit

def cmpI (a b : Int) : Int := if a < b then -1 else if b < a then 1 else 0
theorem cmpI_lt {a b : Int} (h : a < b) : cmpI a b = -1 := by unfold cmpI; rw [if_pos h]
theorem cmpI_gt {a b : Int} (h : b < a) : cmpI a b = 1 := by unfold cmpI; rw [if_neg (by omega), if_pos h]
theorem cmpI_eq {a b : Int} (h : a = b) : cmpI a b = 0 := by unfold cmpI; rw [if_neg (by omega), if_neg (by omega)]
def orI (a b c : Int) : Int := if a ≠ 0 then a else if b ≠ 0 then b else c
def ordI (x y : Val) : Int := orI (cmpI x.k y.k) (cmpI x.n y.n) (Lib.compareBytes x.s.data.toList y.s.data.toList)
end Go.Proofs.YtjfbhajaddgmpaaDoor
