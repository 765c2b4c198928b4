/- The package variables as start-up laid them: a world that holds them, and what the walks read of them. -/
import Derived.Test.YtaokblhflhlhiaaGreatDoorB
import Derived.ProofKit
import Derived.ChangeSame
import Derived.ChangeVars
import Derived.JoinedOf
import Derived.Carry
import Derived.LaidLaws
import Derived.LaidHandle
import Derived.Stop.Joined
import Derived.Lib.LaidU8
import Derived.Deep.DeepLaidRun
import Derived.Shelf.Vars
import Derived.HandedShaped
namespace Go.Proofs.YtaokblhflhlhiaaGreatDoor
open Go.ChangeShapes Go.WideShapes Go.RowKit Go.Deep

/-- the cells of a datum of integers -/
def cellsF : Nat → DataW Unit → List Value
  | _ + 1, .lit (.int k n) => [.int k n]
  | f + 1, .agg l => l.flatMap (cellsF f)
  | _, _ => []
def laidV : List (String × DataW Unit) := Rows.valueLineRow.laid
theorem laidV_none : (laidV.filter fun x => x.2.handleName?.isSome) = [] := by kernel_rfl
theorem own_knob : ownKnob Tryz.prog.godebug = none := by kernel_rfl
theorem laid_out : laidOutB Tryz.prog = true := by kernel_rfl
noncomputable def laidWorldV (os : Os) : World :=
  let n := (World.settled Tryz.prog os).heap.size
  let w0 := World.holding Tryz.prog os ⟨#[.cells #[.string ⟨#[118, 97, 108, 117, 101, 32, 111, 117, 116, 32, 111, 102, 32, 114, 97, 110, 103, 101]⟩] 173, .cells #[.string ⟨#[105, 110, 118, 97, 108, 105, 100, 32, 115, 121, 110, 116, 97, 120]⟩] 173], #[], []⟩
  let put (h : Array Obj) (g : Nat) (cs : Array Value) : Array Obj := h.modify g fun
    | .cells _ t frozen => .cells cs t frozen
    | o => o
  { w0 with heap := put (put (put (put (put (put (put w0.heap 7 (cellsF 3 Rows.laid_math_bits_deBruijn32tab).toArray) 8 (cellsF 3 Rows.laid_math_bits_deBruijn64tab).toArray)
      2 (cellsF 3 Rows.laid_internal_strconv_uint64pow10).toArray) 4 (cellsF 3 Rows.laid_unicode_utf8_acceptRanges).toArray)
      3 (cellsF 3 Rows.laid_unicode_utf8_first).toArray) 6 #[.iface 171 (.pointer (some ⟨n, 0, none⟩))]) 5 #[.iface 171 (.pointer (some ⟨n + 1, 0, none⟩))] }
set_option maxRecDepth 100000 in
theorem laidWorldV_met (os : Os) (args : Array Value) : laidMetH Tryz.prog laidV ((laidWorldV os).forCall (fun _ _ => 0) ⟨#[], args, []⟩).memory := by
  unfold laidMetH
  rw [laidV_none]
  exact laidMet_of_run3 10 (by kernel_rfl) (by kernel_rfl) (by kernel_rfl)
theorem laidV_tab : ("internal/strconv.uint64pow10", Lib.tabData .u64 Lib.pow10Tab) ∈ laidV := by
  have : laidV[2]? = some ("internal/strconv.uint64pow10", Lib.tabData .u64 Lib.pow10Tab) := by kernel_rfl
  exact List.mem_of_getElem? this
theorem laidV_syn : ("strconv.ErrSyntax", Rows.laid_strconv_ErrSyntax) ∈ laidV := by
  have : laidV[5]? = some ("strconv.ErrSyntax", Rows.laid_strconv_ErrSyntax) := by kernel_rfl
  exact List.mem_of_getElem? this
theorem laidV_rng : ("strconv.ErrRange", Rows.laid_strconv_ErrRange) ∈ laidV := by
  have : laidV[4]? = some ("strconv.ErrRange", Rows.laid_strconv_ErrRange) := by kernel_rfl
  exact List.mem_of_getElem? this
theorem gTabT : (Tryz.prog.globals[2]?).map (·.type) = some 146 := by kernel_rfl
theorem gSynT : (Tryz.prog.globals[5]?).map (·.type) = some 33 := by kernel_rfl
theorem gRngT : (Tryz.prog.globals[6]?).map (·.type) = some 33 := by kernel_rfl
theorem var_iface {W : World} {n : String} {g : Nat} {d : DataW Unit} {s : String} {x : DataW Unit} (hg : Tryz.prog.globalNamed n = some g) (ht : (Tryz.prog.globals[g]?).map (·.type) = some 33) (hd : d = .iface s x)
    (h : Go.Lib.VarReads Tryz.prog W n d) : ∃ tp p, W.var? Tryz.prog n = some #[.iface tp p] := by
  obtain ⟨g', t, cs, fuel, p, h1, h2, h3, h4⟩ := h
  obtain rfl := Option.some.inj (hg.symm.trans h1)
  obtain rfl := Option.some.inj (ht.symm.trans h2)
  subst hd
  obtain ⟨_, u, v, hcs, _, _⟩ := iface_of_trod Tryz.underlying33 h4
  refine ⟨u, v, ?_⟩
  rw [h3]
  exact congrArg some (Array.toList_inj.mp hcs)
set_option maxRecDepth 100000 in
theorem env_of_laid {W : World} (h : laidMetH Tryz.prog laidV W) (hs : W.ShapedOpen Tryz.prog) : Env W := by
  unfold laidMetH at h
  rw [laidV_none] at h
  have h' : laidMet Tryz.prog laidV W := h
  refine ⟨?_, ?_, ?_, ?_⟩
  · obtain ⟨g', t, cs, fuel, p, h1, h2, h3, h4⟩ := Go.Lib.laidMet.reads h' laidV_tab
    obtain rfl := Option.some.inj (gTab.symm.trans h1)
    obtain rfl := Option.some.inj (gTabT.symm.trans h2)
    unfold Lib.TabIs
    rw [h3, ← Lib.cells_of_tab Tryz.underlying146 Tryz.underlying65 (by kernel_rfl) (by kernel_rfl) h4]
  · exact var_iface gSyn gSynT rfl (Go.Lib.laidMet.reads h' laidV_syn)
  · exact var_iface gRng gRngT rfl (Go.Lib.laidMet.reads h' laidV_rng)
  · exact Go.Proofs.cell_of_shapedOpen_int (zero := #[.int .i64 0]) (t := 3) hs (of_decide_eq_true (by kernel_rfl)) (by kernel_rfl) rfl (by kernel_rfl) (by kernel_rfl) Tryz.underlying3
end Go.Proofs.YtaokblhflhlhiaaGreatDoor
