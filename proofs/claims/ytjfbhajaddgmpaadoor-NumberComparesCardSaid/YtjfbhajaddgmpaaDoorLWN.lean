/- Words on what start-up laid. -/
import Derived.Test.YtjfbhajaddgmpaaDoorT
import Derived.ProofKit
import Derived.ChangeSame
import Derived.ChangeVars
import Derived.JoinedOf
import Derived.Carry
import Derived.LaidLaws
import Derived.LaidHandle
import Derived.Stop.Joined
import Derived.Lib.LaidU8
import Derived.Deep.DeepLaidRun
import Derived.Deep.OwnShut
import Derived.Lib.SmallJoins
import Derived.Shelf.Vars
import Derived.HandedShaped
namespace Go.Proofs.YtjfbhajaddgmpaaDoor
open Go.ChangeShapes Go.WideShapes Go.RowKit

theorem own_knob : ownKnob Tryd.prog.godebug = none := by kernel_rfl
theorem laid_out : laidOutB Tryd.prog = true := by kernel_rfl
end Go.Proofs.YtjfbhajaddgmpaaDoor
