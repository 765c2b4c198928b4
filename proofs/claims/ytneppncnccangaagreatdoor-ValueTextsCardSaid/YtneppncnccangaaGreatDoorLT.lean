/- The package variables as start-up laid them, errors.errorType among them. -/
import Derived.Test.YtneppncnccangaaGreatDoorFS
import Derived.Test.YtneppncnccangaaGreatDoorB
import Derived.Test.YtneppncnccangaaGreatDoorLWN
import Derived.ProofKit
import Derived.ChangeSame
import Derived.ChangeVars
import Derived.JoinedOf
import Derived.Carry
import Derived.LaidLaws
import Derived.LaidHandle
import Derived.Stop.Joined
import Derived.Lib.LaidU8
import Derived.Deep.DeepLaidRun
import Derived.Shelf.Vars
import Derived.HandedShaped
namespace Go.Proofs.YtneppncnccangaaGreatDoor
open Go.ChangeShapes Go.WideShapes Go.RowKit Go.Deep

def laidT : List (String × DataW Unit) := Rows.valueTruthsRow.laid
theorem laidT_h : (laidT.filter fun x => x.2.handleName?.isSome) = [("errors.errorType", Rows.laid_errors_errorType)] := by kernel_rfl
noncomputable def laidWorldT (os : Os) : World :=
  let n := (World.settled Tryz.prog os).heap.size
  let w0 := World.holding Tryz.prog os ⟨#[.cells #[.string ⟨#[118, 97, 108, 117, 101, 32, 111, 117, 116, 32, 111, 102, 32, 114, 97, 110, 103, 101]⟩] 166, .cells #[.string ⟨#[105, 110, 118, 97, 108, 105, 100, 32, 115, 121, 110, 116, 97, 120]⟩] 166], #[], []⟩
  let put (h : Array Obj) (g : Nat) (cs : Array Value) : Array Obj := h.modify g fun
    | .cells _ t frozen => .cells cs t frozen
    | o => o
  { w0 with heap := put (put (put (put (put (put (put (put w0.heap 7 (cellsF 3 Rows.laid_math_bits_deBruijn32tab).toArray) 8 (cellsF 3 Rows.laid_math_bits_deBruijn64tab).toArray)
      1 (cellsF 3 Rows.laid_internal_strconv_uint64pow10).toArray) 4 (cellsF 3 Rows.laid_unicode_utf8_acceptRanges).toArray)
      3 (cellsF 3 Rows.laid_unicode_utf8_first).toArray) 6 #[.iface 164 (.pointer (some ⟨n, 0, none⟩))]) 5 #[.iface 164 (.pointer (some ⟨n + 1, 0, none⟩))]) 0 #[.iface 118 (.agg #[.pointer (some ⟨9, 27, none⟩)])] }
set_option maxRecDepth 100000 in
theorem laidWorldT_met (os : Os) (args : Array Value) : laidMetH Tryz.prog laidT ((laidWorldT os).forCall (fun _ _ => 0) ⟨#[], args, []⟩).memory :=
  laidMetH_of_parts (laidMet_of_run3 10 (by kernel_rfl) (by kernel_rfl) (by kernel_rfl)) (by kernel_rfl)
theorem laidT_tab : ("internal/strconv.uint64pow10", Lib.tabData .u64 Lib.pow10Tab) ∈ laidT.filter fun x => x.2.handleName?.isNone := by
  have : (laidT.filter fun x => x.2.handleName?.isNone)[2]? = some ("internal/strconv.uint64pow10", Lib.tabData .u64 Lib.pow10Tab) := by kernel_rfl
  exact List.mem_of_getElem? this
theorem laidT_syn : ("strconv.ErrSyntax", Rows.laid_strconv_ErrSyntax) ∈ laidT.filter fun x => x.2.handleName?.isNone := by
  have : (laidT.filter fun x => x.2.handleName?.isNone)[5]? = some ("strconv.ErrSyntax", Rows.laid_strconv_ErrSyntax) := by kernel_rfl
  exact List.mem_of_getElem? this
theorem laidT_rng : ("strconv.ErrRange", Rows.laid_strconv_ErrRange) ∈ laidT.filter fun x => x.2.handleName?.isNone := by
  have : (laidT.filter fun x => x.2.handleName?.isNone)[4]? = some ("strconv.ErrRange", Rows.laid_strconv_ErrRange) := by kernel_rfl
  exact List.mem_of_getElem? this
theorem gTabT : (Tryz.prog.globals[1]?).map (·.type) = some 139 := by kernel_rfl
theorem gSynT : (Tryz.prog.globals[5]?).map (·.type) = some 27 := by kernel_rfl
theorem gRngT : (Tryz.prog.globals[6]?).map (·.type) = some 27 := by kernel_rfl
set_option maxRecDepth 100000 in
theorem env_of_laidT {W : World} (h : laidMetH Tryz.prog laidT W) (hs : W.ShapedOpen Tryz.prog) : Env W := by
  unfold laidMetH at h
  rw [laidT_h] at h
  have h' : laidMet Tryz.prog (laidT.filter fun x => x.2.handleName?.isNone) W := h.1
  refine ⟨?_, ?_, ?_, ?_⟩
  · obtain ⟨g', t, cs, fuel, p, h1, h2, h3, h4⟩ := Go.Lib.laidMet.reads h' laidT_tab
    obtain rfl := Option.some.inj (gTab.symm.trans h1)
    obtain rfl := Option.some.inj (gTabT.symm.trans h2)
    unfold Lib.TabIs
    rw [h3, ← Lib.cells_of_tab Tryz.underlying139 Tryz.underlying55 (by kernel_rfl) (by kernel_rfl) h4]
  · exact var_iface gSyn gSynT rfl (Go.Lib.laidMet.reads h' laidT_syn)
  · exact var_iface gRng gRngT rfl (Go.Lib.laidMet.reads h' laidT_rng)
  · exact Go.Proofs.cell_of_shapedOpen_int (zero := #[.int .i64 0]) (t := 3) hs (of_decide_eq_true (by kernel_rfl)) (by kernel_rfl) rfl (by kernel_rfl) (by kernel_rfl) Tryz.underlying3
theorem et : Tryz.prog.globalNamed "errors.errorType" = some 0 := by kernel_rfl
theorem rt : (Tryz.prog.cutTypes.find? (·.1 == "internal/reflectlite.rtype")).map (·.2) = some 118 := by kernel_rfl
theorem one_row : ((List.range Tryz.prog.types.size).filter fun t => Tryz.prog.rowNamed t [101, 114, 114, 111, 114]) = [27] := by kernel_rfl
set_option maxRecDepth 100000 in
theorem handle_of_laidT {W : World} (h : laidMetH Tryz.prog laidT W) : Handle W := by
  unfold laidMetH at h
  rw [laidT_h] at h
  have h2 : handlesMet Tryz.prog [("errors.errorType", Rows.laid_errors_errorType)] W := h.2
  obtain ⟨name, u, ty, e1, e2, e3, e4, e5⟩ := h2 _ (List.mem_singleton.2 rfl)
  have en : name = [101, 114, 114, 111, 114] := (Option.some.inj e1).symm
  subst en
  obtain rfl := Option.some.inj (rt.symm.trans e2)
  have hm : ty ∈ (List.range Tryz.prog.types.size).filter fun t => Tryz.prog.rowNamed t [101, 114, 114, 111, 114] := List.mem_filter.2 ⟨List.mem_range.2 e3, e4⟩
  rw [one_row] at hm
  obtain rfl := List.mem_singleton.1 hm
  have hh : typeHandle Tryz.prog 27 = .pointer (some ⟨9, 27, none⟩) := by kernel_rfl
  rw [hh] at e5
  simpa [Handle] using World.var?_cell et e5 0
end Go.Proofs.YtneppncnccangaaGreatDoor
