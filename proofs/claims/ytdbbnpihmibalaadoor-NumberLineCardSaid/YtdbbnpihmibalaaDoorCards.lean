/-
  DERIVED. GIVEN WITH THE SEED: THE CARDS: each row of YtdbbnpihmibalaaDoorRows.lean that lists a variable, with what it lists TIED to the program's text (the seventh form; the later family's looks); each row that meets fmt, with fmt's text TOLD by the authors' own Lean function (tested against real Go, not proved from fmt's source: count such statements apart). THE CARD IS WHAT COUNTS. Prove the row's statement (the work); the ties are given (YtdbbnpihmibalaaDoorTie.lean); close each card by the builder's one call (the guide's Derived/Test/ToyasCard.lean, 'card_holds'). Laid BY PROGRAM, IN A SANDBOX (cutbox-door.mjs). By AI agents, Wed Nov 11 2026. No macro, syntax, notation, axiom, sorry.
-/
import Derived.Test.YtdbbnpihmibalaaDoorRows
import GoSem.ClaimSeven
namespace Go.Proofs.YtdbbnpihmibalaaDoor
namespace Rows

/-- THE TIED CARD OF 'frankpledgelaw03.NumberCompares'. -/
def numberComparesCard : Claim7 := { stood := { row := numberComparesRow, standIns := [], harness := (true, "7f81a858d9e5edad8f06d3521a753e2e0faff5ea0cf95b5d5526abdfb1324454"), looks := true }, kinds := [], alts := [], laidByText := true, laidKinds := [.handle], laidTests := true, laidLooks := .later }
def NumberComparesCardSaid : Prop := Claim7.holds Tryd.pinned (.plain (OpenSpec.ofChange numberComparesSpec)) numberComparesCard

/-- THE TIED CARD OF 'frankpledgelaw03.NumberBack'. -/
def numberBackCard : Claim7 := { stood := { row := numberBackRow, standIns := [], harness := (true, "7f81a858d9e5edad8f06d3521a753e2e0faff5ea0cf95b5d5526abdfb1324454"), looks := true }, kinds := [], alts := [], laidByText := true, laidKinds := [.handle], laidTests := true, laidLooks := .later }
def NumberBackCardSaid : Prop := Claim7.holds Tryd.pinned (.plain (OpenSpec.ofChange numberBackSpec)) numberBackCard

/-- THE TIED CARD OF 'frankpledgelaw03.NumberLine'. -/
def numberLineCard : Claim7 := { stood := { row := numberLineRow, standIns := [], harness := (true, "7f81a858d9e5edad8f06d3521a753e2e0faff5ea0cf95b5d5526abdfb1324454"), looks := true }, kinds := [], alts := [], laidByText := true, laidKinds := [.handle], laidTests := true, laidLooks := .later }
def NumberLineCardSaid : Prop := Claim7.holds Tryd.pinned (.plain (OpenSpec.ofChange numberLineSpec)) numberLineCard

/-- THE TIED CARD OF 'frankpledgelaw03.NumberLaws'. -/
def numberLawsCard : Claim7 := { stood := { row := numberLawsRow, standIns := [], harness := (true, "7f81a858d9e5edad8f06d3521a753e2e0faff5ea0cf95b5d5526abdfb1324454"), looks := true }, kinds := [], alts := [], laidByText := true, laidKinds := [.handle], laidTests := true, laidLooks := .later }
def NumberLawsCardSaid : Prop := Claim7.holds Tryd.pinned (.plain (OpenSpec.ofChange numberLawsSpec)) numberLawsCard

/-- THE SECOND FORM's CARD OF 'frankpledgelaw03.NumberCompares'. -/
def numberComparesUptoCard : Claim7 := { stood := { row := numberComparesUptoRow, standIns := [], harness := (true, "7f81a858d9e5edad8f06d3521a753e2e0faff5ea0cf95b5d5526abdfb1324454"), looks := true }, kinds := [], alts := [], laidByText := true, laidKinds := [.handle], laidTests := true, laidLooks := .later }
def NumberComparesUptoCardSaid : Prop := Claim7.holds Tryd.pinned (.plain (OpenSpec.upto numberComparesSpec)) numberComparesUptoCard

/-- THE SECOND FORM's CARD OF 'frankpledgelaw03.NumberBack'. -/
def numberBackUptoCard : Claim7 := { stood := { row := numberBackUptoRow, standIns := [], harness := (true, "7f81a858d9e5edad8f06d3521a753e2e0faff5ea0cf95b5d5526abdfb1324454"), looks := true }, kinds := [], alts := [], laidByText := true, laidKinds := [.handle], laidTests := true, laidLooks := .later }
def NumberBackUptoCardSaid : Prop := Claim7.holds Tryd.pinned (.plain (OpenSpec.upto numberBackSpec)) numberBackUptoCard

/-- THE SECOND FORM's CARD OF 'frankpledgelaw03.NumberLine'. -/
def numberLineUptoCard : Claim7 := { stood := { row := numberLineUptoRow, standIns := [], harness := (true, "7f81a858d9e5edad8f06d3521a753e2e0faff5ea0cf95b5d5526abdfb1324454"), looks := true }, kinds := [], alts := [], laidByText := true, laidKinds := [.handle], laidTests := true, laidLooks := .later }
def NumberLineUptoCardSaid : Prop := Claim7.holds Tryd.pinned (.plain (OpenSpec.upto numberLineSpec)) numberLineUptoCard

/-- THE SECOND FORM's CARD OF 'frankpledgelaw03.NumberLaws'. -/
def numberLawsUptoCard : Claim7 := { stood := { row := numberLawsUptoRow, standIns := [], harness := (true, "7f81a858d9e5edad8f06d3521a753e2e0faff5ea0cf95b5d5526abdfb1324454"), looks := true }, kinds := [], alts := [], laidByText := true, laidKinds := [.handle], laidTests := true, laidLooks := .later }
def NumberLawsUptoCardSaid : Prop := Claim7.holds Tryd.pinned (.plain (OpenSpec.upto numberLawsSpec)) numberLawsUptoCard
end Rows
end Go.Proofs.YtdbbnpihmibalaaDoor
