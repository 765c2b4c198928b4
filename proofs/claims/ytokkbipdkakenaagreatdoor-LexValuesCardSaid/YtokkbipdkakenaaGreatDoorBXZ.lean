/- The package variables as start-up laid them, errors.errorType and unicode's case ranges among them. -/
import Derived.Test.YtokkbipdkakenaaGreatDoorFS
import Derived.Test.YtokkbipdkakenaaGreatDoorB
import Derived.Test.YtokkbipdkakenaaGreatDoorLWN
import Derived.ProofKit
import Derived.ChangeSame
import Derived.ChangeVars
import Derived.JoinedOf
import Derived.Carry
import Derived.LaidLaws
import Derived.LaidMore
import Derived.Lay
import Derived.LaidHandle
import Derived.Stop.Joined
import Derived.Lib.LaidU8
import Derived.Deep.DeepLaidRun
import Derived.Shelf.Vars
import Derived.HandedShaped
namespace Go.Proofs.YtokkbipdkakenaaGreatDoor
open Go.ChangeShapes Go.WideShapes Go.RowKit Go.Deep

def laidZ : List (String × DataW Unit) := Rows.lexValuesRow.laid
def laidN : List (String × DataW Unit) := laidZ.filter fun x => x.2.handleName?.isNone
theorem laidZ_h : (laidZ.filter fun x => x.2.handleName?.isSome) = [("errors.errorType", Rows.laid_errors_errorType)] := by kernel_rfl
noncomputable def startZ (os : Os) : World :=
  let w0 := World.holding Tryz.prog os ⟨#[], #[], []⟩
  { w0 with heap := w0.heap.modify 0 fun
    | .cells _ t frozen => .cells #[.iface 124 (.agg #[.pointer (some ⟨10, 30, none⟩)])] t frozen
    | o => o }
noncomputable def laidWorldZ (os : Os) : World := (startZ os).layVars Tryz.prog laidN
theorem laidWorldZ_os (os : Os) : (laidWorldZ os).os = os := World.layVars_os _ _ _
set_option maxRecDepth 100000 in
theorem laidZ_met (os : Os) (args : Array Value) : laidMetH Tryz.prog laidZ ((laidWorldZ os).forCall (fun _ _ => 0) ⟨#[], args, []⟩).memory := by
  refine laidMetH_of_parts ?_ (by kernel_rfl)
  have e1 : (laidN.filter fun x => (laidN.map (·.1)).contains x.1) = laidN := List.filter_eq_self.2 fun x hx => List.contains_iff_mem.2 (List.mem_map.2 ⟨x, hx, rfl⟩)
  have e2 : (laidN.filter fun x => !(laidN.map (·.1)).contains x.1) = [] := List.filter_eq_nil_iff.2 fun x hx => by rw [List.contains_iff_mem.2 (List.mem_map.2 ⟨x, hx, rfl⟩)]; simp
  have h : laidMet Tryz.prog laidN (laidWorldZ os) := laidMet_layVars (w0 := startZ os) (laidN.map (·.1)) [] (by rw [e1]; rfl) (by rw [e1]; kernel_rfl) (by rw [e1]; kernel_rfl) (by rw [e2]; exact LaidIn.none)
  exact h.of_heap (by simp [World.memory, World.forCall, Input.heap])
theorem laidZ_tab : ("internal/strconv.uint64pow10", Lib.tabData .u64 Lib.pow10Tab) ∈ laidZ.filter fun x => x.2.handleName?.isNone := by
  have : (laidZ.filter fun x => x.2.handleName?.isNone)[2]? = some ("internal/strconv.uint64pow10", Lib.tabData .u64 Lib.pow10Tab) := by kernel_rfl
  exact List.mem_of_getElem? this
theorem laidZ_syn : ("strconv.ErrSyntax", Rows.laid_strconv_ErrSyntax) ∈ laidZ.filter fun x => x.2.handleName?.isNone := by
  have : (laidZ.filter fun x => x.2.handleName?.isNone)[5]? = some ("strconv.ErrSyntax", Rows.laid_strconv_ErrSyntax) := by kernel_rfl
  exact List.mem_of_getElem? this
theorem laidZ_rng : ("strconv.ErrRange", Rows.laid_strconv_ErrRange) ∈ laidZ.filter fun x => x.2.handleName?.isNone := by
  have : (laidZ.filter fun x => x.2.handleName?.isNone)[4]? = some ("strconv.ErrRange", Rows.laid_strconv_ErrRange) := by kernel_rfl
  exact List.mem_of_getElem? this
theorem gTabT : (Tryz.prog.globals[1]?).map (·.type) = some 115 := by kernel_rfl
theorem gSynT : (Tryz.prog.globals[7]?).map (·.type) = some 30 := by kernel_rfl
theorem gRngT : (Tryz.prog.globals[8]?).map (·.type) = some 30 := by kernel_rfl
set_option maxRecDepth 100000 in
theorem env_of_laidZ {W : World} (h : laidMetH Tryz.prog laidZ W) (hs : W.ShapedOpen Tryz.prog) : Env W := by
  unfold laidMetH at h
  rw [laidZ_h] at h
  have h' : laidMet Tryz.prog (laidZ.filter fun x => x.2.handleName?.isNone) W := h.1
  refine ⟨?_, ?_, ?_, ?_⟩
  · obtain ⟨g', t, cs, fuel, p, h1, h2, h3, h4⟩ := Go.Lib.laidMet.reads h' laidZ_tab
    obtain rfl := Option.some.inj (gTab.symm.trans h1)
    obtain rfl := Option.some.inj (gTabT.symm.trans h2)
    unfold Lib.TabIs
    rw [h3, ← Lib.cells_of_tab Tryz.underlying115 Tryz.underlying38 (by kernel_rfl) (by kernel_rfl) h4]
  · exact var_iface gSyn gSynT rfl (Go.Lib.laidMet.reads h' laidZ_syn)
  · exact var_iface gRng gRngT rfl (Go.Lib.laidMet.reads h' laidZ_rng)
  · exact Go.Proofs.cell_of_shapedOpen_int (zero := #[.int .i64 0]) (t := 3) hs (of_decide_eq_true (by kernel_rfl)) (by kernel_rfl) rfl (by kernel_rfl) (by kernel_rfl) Tryz.underlying3
theorem et : Tryz.prog.globalNamed "errors.errorType" = some 0 := by kernel_rfl
theorem rt : (Tryz.prog.cutTypes.find? (·.1 == "internal/reflectlite.rtype")).map (·.2) = some 124 := by kernel_rfl
theorem one_row : ((List.range Tryz.prog.types.size).filter fun t => Tryz.prog.rowNamed t [101, 114, 114, 111, 114]) = [30] := by kernel_rfl
set_option maxRecDepth 100000 in
theorem handle_of_laidZ {W : World} (h : laidMetH Tryz.prog laidZ W) : Handle W := by
  unfold laidMetH at h
  rw [laidZ_h] at h
  have h2 : handlesMet Tryz.prog [("errors.errorType", Rows.laid_errors_errorType)] W := h.2
  obtain ⟨name, u, ty, e1, e2, e3, e4, e5⟩ := h2 _ (List.mem_singleton.2 rfl)
  have en : name = [101, 114, 114, 111, 114] := (Option.some.inj e1).symm
  subst en
  obtain rfl := Option.some.inj (rt.symm.trans e2)
  have hm : ty ∈ (List.range Tryz.prog.types.size).filter fun t => Tryz.prog.rowNamed t [101, 114, 114, 111, 114] := List.mem_filter.2 ⟨List.mem_range.2 e3, e4⟩
  rw [one_row] at hm
  obtain rfl := List.mem_singleton.1 hm
  have hh : typeHandle Tryz.prog 30 = .pointer (some ⟨10, 30, none⟩) := by kernel_rfl
  rw [hh] at e5
  simpa [Handle] using World.var?_cell et e5 0
end Go.Proofs.YtokkbipdkakenaaGreatDoor
