/- The package variables as start-up laid them: a world that holds them, and what the walks read of them. -/
import Derived.Test.YtokkbipdkakenaaDoorB
import Derived.Test.YtokkbipdkakenaaDoorLWN
import Derived.ProofKit
import Derived.ChangeSame
import Derived.ChangeVars
import Derived.JoinedOf
import Derived.Carry
import Derived.LaidLaws
import Derived.LaidMore
import Derived.Lay
import Derived.LaidHandle
import Derived.Stop.Joined
import Derived.Lib.LaidU8
import Derived.Deep.DeepLaidRun
import Derived.Shelf.Vars
import Derived.HandedShaped
namespace Go.Proofs.YtokkbipdkakenaaDoor
open Go.ChangeShapes Go.WideShapes Go.RowKit Go.Deep

def laidX : List (String × DataW Unit) := Rows.lexPlacesRow.laid
set_option maxRecDepth 100000 in
theorem laidX_met (os : Os) (args : Array Value) : laidMetH Tryd.prog laidX ((World.laidAll Tryd.prog os laidX).forCall (fun _ _ => 0) ⟨#[], args, []⟩).memory := by
  rw [MakeChecks.laidMetH_plain _ _ _ (by kernel_rfl)]
  exact laidMet_laidAll _ (by kernel_rfl) (by kernel_rfl)
theorem laidX_tab : ("internal/strconv.uint64pow10", Lib.tabData .u64 Lib.pow10Tab) ∈ laidX := by
  have : laidX[2]? = some ("internal/strconv.uint64pow10", Lib.tabData .u64 Lib.pow10Tab) := by kernel_rfl
  exact List.mem_of_getElem? this
theorem laidX_syn : ("strconv.ErrSyntax", Rows.laid_strconv_ErrSyntax) ∈ laidX := by
  have : laidX[5]? = some ("strconv.ErrSyntax", Rows.laid_strconv_ErrSyntax) := by kernel_rfl
  exact List.mem_of_getElem? this
theorem laidX_rng : ("strconv.ErrRange", Rows.laid_strconv_ErrRange) ∈ laidX := by
  have : laidX[4]? = some ("strconv.ErrRange", Rows.laid_strconv_ErrRange) := by kernel_rfl
  exact List.mem_of_getElem? this
theorem gTabT : (Tryd.prog.globals[6]?).map (·.type) = some 122 := by kernel_rfl
theorem gSynT : (Tryd.prog.globals[1]?).map (·.type) = some 24 := by kernel_rfl
theorem gRngT : (Tryd.prog.globals[2]?).map (·.type) = some 24 := by kernel_rfl
set_option maxRecDepth 100000 in
theorem env_of_laidX {W : World} (h : laidMetH Tryd.prog laidX W) (hs : W.ShapedOpen Tryd.prog) : Env W := by
  have h' : laidMet Tryd.prog laidX W := by rwa [MakeChecks.laidMetH_plain _ _ _ (by kernel_rfl)] at h
  refine ⟨?_, ?_, ?_, ?_⟩
  · obtain ⟨g', t, cs, fuel, p, h1, h2, h3, h4⟩ := Go.Lib.laidMet.reads h' laidX_tab
    obtain rfl := Option.some.inj (gTab.symm.trans h1)
    obtain rfl := Option.some.inj (gTabT.symm.trans h2)
    unfold Lib.TabIs
    rw [h3, ← Lib.cells_of_tab Tryd.underlying122 Tryd.underlying54 (by kernel_rfl) (by kernel_rfl) h4]
  · exact var_iface gSyn gSynT rfl (Go.Lib.laidMet.reads h' laidX_syn)
  · exact var_iface gRng gRngT rfl (Go.Lib.laidMet.reads h' laidX_rng)
  · exact Go.Proofs.cell_of_shapedOpen_int (zero := #[.int .i64 0]) (t := 3) hs (of_decide_eq_true (by kernel_rfl)) (by kernel_rfl) rfl (by kernel_rfl) (by kernel_rfl) Tryd.underlying3
end Go.Proofs.YtokkbipdkakenaaDoor
