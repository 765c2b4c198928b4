/-
  DERIVED. GIVEN WITH THE SEED: THE CARDS: each row of YtlegmecmoaibbaaDoorRows.lean that lists a variable, with what it lists TIED to the program's text (the seventh form; the later family's looks); each row that meets fmt, with fmt's text TOLD by the authors' own Lean function (tested against real Go, not proved from fmt's source: count such statements apart). THE CARD IS WHAT COUNTS. Prove the row's statement (the work); the ties are given (YtlegmecmoaibbaaDoorTie.lean); close each card by the builder's one call (the guide's Derived/Test/ToyasCard.lean, 'card_holds'). Laid BY PROGRAM, IN A SANDBOX (cutbox-door.mjs). By AI agents, Wed Nov 11 2026. No macro, syntax, notation, axiom, sorry.
-/
import Derived.Test.YtlegmecmoaibbaaDoorRows
import GoSem.ClaimSeven
namespace Go.Proofs.YtlegmecmoaibbaaDoor
namespace Rows

/-- THE TIED CARD OF 'frankpledgelaw02.ValueBack'. -/
def valueBackCard : Claim7 := { stood := { row := valueBackRow, standIns := [], harness := (true, "3289b5fce96a6ca6eae027ff1184d76543bb33b44421b405c62ac6c6540f264e"), looks := true }, kinds := [], alts := [], laidByText := true, laidKinds := [.data, .data, .data, .data, .sentinel, .sentinel, .pinned], laidTests := true, laidLooks := .later }
def ValueBackCardSaid : Prop := Claim7.holds Tryd.pinned (.plain (OpenSpec.ofChange valueBackSpec)) valueBackCard

/-- THE TIED CARD OF 'frankpledgelaw02.ValueNots'. -/
def valueNotsCard : Claim7 := { stood := { row := valueNotsRow, standIns := [], harness := (true, "3289b5fce96a6ca6eae027ff1184d76543bb33b44421b405c62ac6c6540f264e"), looks := true }, kinds := [], alts := [], laidByText := true, laidKinds := [.data, .data, .data, .data, .sentinel, .sentinel, .pinned], laidTests := true, laidLooks := .later }
def ValueNotsCardSaid : Prop := Claim7.holds Tryd.pinned (.plain (OpenSpec.ofChange valueNotsSpec)) valueNotsCard

/-- THE TIED CARD OF 'frankpledgelaw02.ValueKinds'. -/
def valueKindsCard : Claim7 := { stood := { row := valueKindsRow, standIns := [], harness := (true, "3289b5fce96a6ca6eae027ff1184d76543bb33b44421b405c62ac6c6540f264e"), looks := true }, kinds := [], alts := [], laidByText := true, laidKinds := [.data, .data, .data, .data, .sentinel, .sentinel, .pinned], laidTests := true, laidLooks := .later }
def ValueKindsCardSaid : Prop := Claim7.holds Tryd.pinned (.plain (OpenSpec.ofChange valueKindsSpec)) valueKindsCard

/-- THE TIED CARD OF 'frankpledgelaw03.NumberCompares'. -/
def numberComparesCard : Claim7 := { stood := { row := numberComparesRow, standIns := [], harness := (true, "3289b5fce96a6ca6eae027ff1184d76543bb33b44421b405c62ac6c6540f264e"), looks := true }, kinds := [], alts := [], laidByText := true, laidKinds := [.handle], laidTests := true, laidLooks := .later }
def NumberComparesCardSaid : Prop := Claim7.holds Tryd.pinned (.plain (OpenSpec.ofChange numberComparesSpec)) numberComparesCard

/-- THE TIED CARD OF 'frankpledgelaw03.NumberBack'. -/
def numberBackCard : Claim7 := { stood := { row := numberBackRow, standIns := [], harness := (true, "3289b5fce96a6ca6eae027ff1184d76543bb33b44421b405c62ac6c6540f264e"), looks := true }, kinds := [], alts := [], laidByText := true, laidKinds := [.handle], laidTests := true, laidLooks := .later }
def NumberBackCardSaid : Prop := Claim7.holds Tryd.pinned (.plain (OpenSpec.ofChange numberBackSpec)) numberBackCard

/-- THE TIED CARD OF 'frankpledgelaw03.NumberSmall'. -/
def numberSmallCard : Claim7 := { stood := { row := numberSmallRow, standIns := [], harness := (true, "3289b5fce96a6ca6eae027ff1184d76543bb33b44421b405c62ac6c6540f264e"), looks := true }, kinds := [], alts := [], laidByText := true, laidKinds := [.handle], laidTests := true, laidLooks := .later }
def NumberSmallCardSaid : Prop := Claim7.holds Tryd.pinned (.plain (OpenSpec.ofChange numberSmallSpec)) numberSmallCard

/-- THE TIED CARD OF 'frankpledgelaw03.NumberLine'. -/
def numberLineCard : Claim7 := { stood := { row := numberLineRow, standIns := [], harness := (true, "3289b5fce96a6ca6eae027ff1184d76543bb33b44421b405c62ac6c6540f264e"), looks := true }, kinds := [], alts := [], laidByText := true, laidKinds := [.handle], laidTests := true, laidLooks := .later }
def NumberLineCardSaid : Prop := Claim7.holds Tryd.pinned (.plain (OpenSpec.ofChange numberLineSpec)) numberLineCard

/-- THE TIED CARD OF 'frankpledgelaw03.NumberNull'. -/
def numberNullCard : Claim7 := { stood := { row := numberNullRow, standIns := [], harness := (true, "3289b5fce96a6ca6eae027ff1184d76543bb33b44421b405c62ac6c6540f264e"), looks := true }, kinds := [], alts := [], laidByText := true, laidKinds := [.handle], laidTests := true, laidLooks := .later }
def NumberNullCardSaid : Prop := Claim7.holds Tryd.pinned (.plain (OpenSpec.ofChange numberNullSpec)) numberNullCard

/-- THE TIED CARD OF 'frankpledgelaw03.NumberLaws'. -/
def numberLawsCard : Claim7 := { stood := { row := numberLawsRow, standIns := [], harness := (true, "3289b5fce96a6ca6eae027ff1184d76543bb33b44421b405c62ac6c6540f264e"), looks := true }, kinds := [], alts := [], laidByText := true, laidKinds := [.handle], laidTests := true, laidLooks := .later }
def NumberLawsCardSaid : Prop := Claim7.holds Tryd.pinned (.plain (OpenSpec.ofChange numberLawsSpec)) numberLawsCard

/-- THE SECOND FORM's CARD OF 'frankpledgelaw02.ValueBack'. -/
def valueBackUptoCard : Claim7 := { stood := { row := valueBackUptoRow, standIns := [], harness := (true, "3289b5fce96a6ca6eae027ff1184d76543bb33b44421b405c62ac6c6540f264e"), looks := true }, kinds := [], alts := [], laidByText := true, laidKinds := [.data, .data, .data, .data, .sentinel, .sentinel, .pinned], laidTests := true, laidLooks := .later }
def ValueBackUptoCardSaid : Prop := Claim7.holds Tryd.pinned (.plain (OpenSpec.upto valueBackSpec)) valueBackUptoCard

/-- THE SECOND FORM's CARD OF 'frankpledgelaw02.ValueNots'. -/
def valueNotsUptoCard : Claim7 := { stood := { row := valueNotsUptoRow, standIns := [], harness := (true, "3289b5fce96a6ca6eae027ff1184d76543bb33b44421b405c62ac6c6540f264e"), looks := true }, kinds := [], alts := [], laidByText := true, laidKinds := [.data, .data, .data, .data, .sentinel, .sentinel, .pinned], laidTests := true, laidLooks := .later }
def ValueNotsUptoCardSaid : Prop := Claim7.holds Tryd.pinned (.plain (OpenSpec.upto valueNotsSpec)) valueNotsUptoCard

/-- THE SECOND FORM's CARD OF 'frankpledgelaw02.ValueKinds'. -/
def valueKindsUptoCard : Claim7 := { stood := { row := valueKindsUptoRow, standIns := [], harness := (true, "3289b5fce96a6ca6eae027ff1184d76543bb33b44421b405c62ac6c6540f264e"), looks := true }, kinds := [], alts := [], laidByText := true, laidKinds := [.data, .data, .data, .data, .sentinel, .sentinel, .pinned], laidTests := true, laidLooks := .later }
def ValueKindsUptoCardSaid : Prop := Claim7.holds Tryd.pinned (.plain (OpenSpec.upto valueKindsSpec)) valueKindsUptoCard

/-- THE SECOND FORM's CARD OF 'frankpledgelaw03.NumberCompares'. -/
def numberComparesUptoCard : Claim7 := { stood := { row := numberComparesUptoRow, standIns := [], harness := (true, "3289b5fce96a6ca6eae027ff1184d76543bb33b44421b405c62ac6c6540f264e"), looks := true }, kinds := [], alts := [], laidByText := true, laidKinds := [.handle], laidTests := true, laidLooks := .later }
def NumberComparesUptoCardSaid : Prop := Claim7.holds Tryd.pinned (.plain (OpenSpec.upto numberComparesSpec)) numberComparesUptoCard

/-- THE SECOND FORM's CARD OF 'frankpledgelaw03.NumberBack'. -/
def numberBackUptoCard : Claim7 := { stood := { row := numberBackUptoRow, standIns := [], harness := (true, "3289b5fce96a6ca6eae027ff1184d76543bb33b44421b405c62ac6c6540f264e"), looks := true }, kinds := [], alts := [], laidByText := true, laidKinds := [.handle], laidTests := true, laidLooks := .later }
def NumberBackUptoCardSaid : Prop := Claim7.holds Tryd.pinned (.plain (OpenSpec.upto numberBackSpec)) numberBackUptoCard

/-- THE SECOND FORM's CARD OF 'frankpledgelaw03.NumberSmall'. -/
def numberSmallUptoCard : Claim7 := { stood := { row := numberSmallUptoRow, standIns := [], harness := (true, "3289b5fce96a6ca6eae027ff1184d76543bb33b44421b405c62ac6c6540f264e"), looks := true }, kinds := [], alts := [], laidByText := true, laidKinds := [.handle], laidTests := true, laidLooks := .later }
def NumberSmallUptoCardSaid : Prop := Claim7.holds Tryd.pinned (.plain (OpenSpec.upto numberSmallSpec)) numberSmallUptoCard

/-- THE SECOND FORM's CARD OF 'frankpledgelaw03.NumberLine'. -/
def numberLineUptoCard : Claim7 := { stood := { row := numberLineUptoRow, standIns := [], harness := (true, "3289b5fce96a6ca6eae027ff1184d76543bb33b44421b405c62ac6c6540f264e"), looks := true }, kinds := [], alts := [], laidByText := true, laidKinds := [.handle], laidTests := true, laidLooks := .later }
def NumberLineUptoCardSaid : Prop := Claim7.holds Tryd.pinned (.plain (OpenSpec.upto numberLineSpec)) numberLineUptoCard

/-- THE SECOND FORM's CARD OF 'frankpledgelaw03.NumberNull'. -/
def numberNullUptoCard : Claim7 := { stood := { row := numberNullUptoRow, standIns := [], harness := (true, "3289b5fce96a6ca6eae027ff1184d76543bb33b44421b405c62ac6c6540f264e"), looks := true }, kinds := [], alts := [], laidByText := true, laidKinds := [.handle], laidTests := true, laidLooks := .later }
def NumberNullUptoCardSaid : Prop := Claim7.holds Tryd.pinned (.plain (OpenSpec.upto numberNullSpec)) numberNullUptoCard

/-- THE SECOND FORM's CARD OF 'frankpledgelaw03.NumberLaws'. -/
def numberLawsUptoCard : Claim7 := { stood := { row := numberLawsUptoRow, standIns := [], harness := (true, "3289b5fce96a6ca6eae027ff1184d76543bb33b44421b405c62ac6c6540f264e"), looks := true }, kinds := [], alts := [], laidByText := true, laidKinds := [.handle], laidTests := true, laidLooks := .later }
def NumberLawsUptoCardSaid : Prop := Claim7.holds Tryd.pinned (.plain (OpenSpec.upto numberLawsSpec)) numberLawsUptoCard
end Rows
end Go.Proofs.YtlegmecmoaibbaaDoor
