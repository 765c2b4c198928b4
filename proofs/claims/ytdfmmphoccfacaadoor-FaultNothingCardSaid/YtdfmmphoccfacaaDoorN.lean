/- FaultNothing, for every input: the call returns true, and each argument reads behind it as before; the listed package variable is tied to the program's text. -/
import Derived.Test.YtdfmmphoccfacaaDoorM
import Derived.Test.YtdfmmphoccfacaaDoorTie
import Derived.Test.YtdfmmphoccfacaaDoorCards
import Derived.SevenTiedAt
namespace Go.Proofs.YtdfmmphoccfacaaDoor
open Go

theorem faultNothing_card : Rows.FaultNothingCardSaid :=
  Claim7.holds_tied_plain_at .later [] [.handle] true (true, "77e6efbf6522632967c9ac9282c382f26a95893b0e110ea8564eb8f1b515f1ec") true
    faultNothing_holds (fun _ h => by cases h) (by kernel_rfl) (fun _ h => by cases h) faultNothing_row_tie rfl ⟨rfl, rfl⟩ (by kernel_rfl) rfl
    (fun f fn hf hfn => by
      obtain rfl : f = 6 := Option.some.inj ((show Tryd.prog.funcNamed "frankpledge/frankpledgelaw01.FaultNothing" = some 6 by kernel_rfl).symm.trans hf) |>.symm
      obtain rfl : fn = Tryd.f6 := (Option.some.inj (Tryd.func6.symm.trans hfn)).symm
      exact ⟨by kernel_rfl, fun j t ht => by
        rw [Tryd.params6] at ht
        have hm : t ∈ [22, 23, 3] := by simpa using Array.mem_of_getElem? ht
        have hall : ([22, 23, 3].all fun u => !Tryd.prog.wantsStandIn u) = true := by kernel_rfl
        exact (show Tryd.prog.wantsStandIn t = false by simpa using List.all_eq_true.1 hall t hm)⟩)
    (by kernel_rfl)
#print axioms faultNothing_card
end Go.Proofs.YtdfmmphoccfacaaDoor
