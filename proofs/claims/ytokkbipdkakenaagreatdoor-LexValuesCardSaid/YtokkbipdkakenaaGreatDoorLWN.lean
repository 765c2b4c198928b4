/- Words on what start-up laid. -/
import Derived.Test.YtokkbipdkakenaaGreatDoorT
import Derived.ProofKit
import Derived.ChangeSame
import Derived.ChangeVars
import Derived.JoinedOf
import Derived.Carry
import Derived.LaidLaws
import Derived.LaidHandle
import Derived.Stop.Joined
import Derived.Lib.LaidU8
import Derived.Deep.DeepLaidRun
import Derived.Deep.OwnShut
import Derived.Lib.SmallJoins
import Derived.Shelf.Vars
import Derived.HandedShaped
namespace Go.Proofs.YtokkbipdkakenaaGreatDoor
open Go.ChangeShapes Go.WideShapes Go.RowKit

/-- the cells of a datum of integers -/
def cellsF : Nat → DataW Unit → List Value
  | _ + 1, .lit (.int k n) => [.int k n]
  | f + 1, .agg l => l.flatMap (cellsF f)
  | _, _ => []
theorem own_knob : ownKnob Tryz.prog.godebug = none := by kernel_rfl
theorem laid_out : laidOutB Tryz.prog = true := by kernel_rfl
theorem var_iface {W : World} {n : String} {g : Nat} {d : DataW Unit} {s : String} {x : DataW Unit} (hg : Tryz.prog.globalNamed n = some g) (ht : (Tryz.prog.globals[g]?).map (·.type) = some 30) (hd : d = .iface s x)
    (h : Go.Lib.VarReads Tryz.prog W n d) : ∃ tp p, W.var? Tryz.prog n = some #[.iface tp p] := by
  obtain ⟨g', t, cs, fuel, p, h1, h2, h3, h4⟩ := h
  obtain rfl := Option.some.inj (hg.symm.trans h1)
  obtain rfl := Option.some.inj (ht.symm.trans h2)
  subst hd
  obtain ⟨_, u, v, hcs, _, _⟩ := iface_of_trod Tryz.underlying30 h4
  refine ⟨u, v, ?_⟩
  rw [h3]
  exact congrArg some (Array.toList_inj.mp hcs)
end Go.Proofs.YtokkbipdkakenaaGreatDoor
