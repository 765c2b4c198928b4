/-
  No cell of these rows narrows 'for every input' (looked for: loops, veiled, ifaces, maps, wideKeys, modest, calm, conditions, laid).
  DERIVED. THE GIVEN ROWS OF THIS SEAT. 6 by the template 'for every input the law returns true; each argument reads behind the call as it read before'; 0 by the template 'total and deterministic' (their statements: YtkohppalfcalbaaGreatTotals.lean).
  GIVEN WITH THE SEED: the statements are not yours to turn. If you find one false, say at which input.
  Laid BY PROGRAM, IN A SANDBOX (cutbox-rows.mjs): the forced cells as the released guide's own fill.sh prints them over the translation 226f9fc00806e972… (all of the seat's roots in one cut). By AI agents, Wed Nov 11 2026. No macro, syntax, notation, axiom, sorry.
-/
import Derived.Test.YtkohppalfcalbaaGreatChecked
import GoSem.Claim
import GoSem.ClaimJoined
import GoSem.ClaimMapViews
import Derived.JoinedTies
import Derived.KernelRfl
namespace Go.Proofs.YtkohppalfcalbaaGreat
/- THE CELL 'sum', in the pinned program and in every row, IS THE sha256 OF THE DUMP (.gsa) THAT YtkohppalfcalbaaGreatProg.lean LOADS. Nothing in Lean hashes anything: it is a label: what it is worth is what the hold of that sum in a sandbox is worth. -/
noncomputable def Tryz.pinned : Pinned := { name := "ytkohppalfcalbaagreat", sum := "226f9fc00806e972cb1d4f2ee01d13babe947206a56a85f48f3f452c9e5a8f48", checked := Tryz.checked }
namespace Rows
def none {H : Type} : Left H := { results := [], args := [] }

/-- 'frankpledgelaw10.ShardNil': WHATEVER THE INPUT: true; the input reads as it did. -/
def shardNilSpec : ChangeSpec := { name := "shardNil", fn := fun _ => fun
  | [d] => { results := [.lit (.bool true)], args := [d] }
  | _ => none }
def shardNilRow : OpenClaim := { program := "ytkohppalfcalbaagreat", sum := "226f9fc00806e972cb1d4f2ee01d13babe947206a56a85f48f3f452c9e5a8f48", func := "frankpledge/frankpledgelaw10.ShardNil", spec := "shardNil", inPlace := ["internal/bytealg.Compare", "slices.overlaps[frankpledge/table.Entry]", "slices.overlaps[frankpledge/table.page]"], unfollowed := true, recurses := true, plainKeys := false, apart := false }
def ShardNilSaid : Prop := shardNilRow.holds Tryz.pinned (OpenSpec.ofChange shardNilSpec)

/-- ITS FALSE NEIGHBOUR: 'it returns false'. Refute it at one input. -/
def shardNilWrong : ChangeSpec := { name := "shardNil", fn := fun _ => fun
  | [d] => { results := [.lit (.bool false)], args := [d] }
  | _ => none }
def ShardNilWrongFalsely : Prop := shardNilRow.holds Tryz.pinned (OpenSpec.ofChange shardNilWrong)

/-- 'frankpledgelaw14.ParticipantKeeps': WHATEVER THE INPUT: true; the input reads as it did. -/
def participantKeepsSpec : ChangeSpec := { name := "participantKeeps", fn := fun _ => fun
  | [d1, d2, d3] => { results := [.lit (.bool true)], args := [d1, d2, d3] }
  | _ => none }
def participantKeepsRow : OpenClaim := { program := "ytkohppalfcalbaagreat", sum := "226f9fc00806e972cb1d4f2ee01d13babe947206a56a85f48f3f452c9e5a8f48", func := "frankpledge/frankpledgelaw14.ParticipantKeeps", spec := "participantKeeps", inPlace := ["internal/bytealg.Compare", "slices.overlaps[frankpledge/table.Entry]", "slices.overlaps[frankpledge/table.page]"], unfollowed := true, recurses := true, plainKeys := false, apart := false }
def ParticipantKeepsSaid : Prop := participantKeepsRow.holds Tryz.pinned (OpenSpec.ofChange participantKeepsSpec)

/-- ITS FALSE NEIGHBOUR: 'it returns false'. Refute it at one input. -/
def participantKeepsWrong : ChangeSpec := { name := "participantKeeps", fn := fun _ => fun
  | [d1, d2, d3] => { results := [.lit (.bool false)], args := [d1, d2, d3] }
  | _ => none }
def ParticipantKeepsWrongFalsely : Prop := participantKeepsRow.holds Tryz.pinned (OpenSpec.ofChange participantKeepsWrong)

/-- 'frankpledgelaw14.ParticipantVotes': WHATEVER THE INPUT: true; the input reads as it did. -/
def participantVotesSpec : ChangeSpec := { name := "participantVotes", fn := fun _ => fun
  | [d1, d2, d3] => { results := [.lit (.bool true)], args := [d1, d2, d3] }
  | _ => none }
def participantVotesRow : OpenClaim := { program := "ytkohppalfcalbaagreat", sum := "226f9fc00806e972cb1d4f2ee01d13babe947206a56a85f48f3f452c9e5a8f48", func := "frankpledge/frankpledgelaw14.ParticipantVotes", spec := "participantVotes", inPlace := ["internal/bytealg.Compare", "slices.overlaps[frankpledge/table.Entry]", "slices.overlaps[frankpledge/table.page]"], unfollowed := true, recurses := true, plainKeys := false, apart := false }
def ParticipantVotesSaid : Prop := participantVotesRow.holds Tryz.pinned (OpenSpec.ofChange participantVotesSpec)

/-- ITS FALSE NEIGHBOUR: 'it returns false'. Refute it at one input. -/
def participantVotesWrong : ChangeSpec := { name := "participantVotes", fn := fun _ => fun
  | [d1, d2, d3] => { results := [.lit (.bool false)], args := [d1, d2, d3] }
  | _ => none }
def ParticipantVotesWrongFalsely : Prop := participantVotesRow.holds Tryz.pinned (OpenSpec.ofChange participantVotesWrong)

/-- 'frankpledgelaw14.ParticipantAsks': WHATEVER THE INPUT: true; the input reads as it did. -/
def participantAsksSpec : ChangeSpec := { name := "participantAsks", fn := fun _ => fun
  | [d1, d2, d3] => { results := [.lit (.bool true)], args := [d1, d2, d3] }
  | _ => none }
def participantAsksRow : OpenClaim := { program := "ytkohppalfcalbaagreat", sum := "226f9fc00806e972cb1d4f2ee01d13babe947206a56a85f48f3f452c9e5a8f48", func := "frankpledge/frankpledgelaw14.ParticipantAsks", spec := "participantAsks", inPlace := ["internal/bytealg.Compare", "slices.overlaps[frankpledge/table.Entry]", "slices.overlaps[frankpledge/table.page]"], unfollowed := true, recurses := true, plainKeys := false, apart := false }
def ParticipantAsksSaid : Prop := participantAsksRow.holds Tryz.pinned (OpenSpec.ofChange participantAsksSpec)

/-- ITS FALSE NEIGHBOUR: 'it returns false'. Refute it at one input. -/
def participantAsksWrong : ChangeSpec := { name := "participantAsks", fn := fun _ => fun
  | [d1, d2, d3] => { results := [.lit (.bool false)], args := [d1, d2, d3] }
  | _ => none }
def ParticipantAsksWrongFalsely : Prop := participantAsksRow.holds Tryz.pinned (OpenSpec.ofChange participantAsksWrong)

/-- 'frankpledgelaw14.ParticipantNil': WHATEVER THE INPUT: true; the input reads as it did. -/
def participantNilSpec : ChangeSpec := { name := "participantNil", fn := fun _ => fun
  | [d1, d2, d3] => { results := [.lit (.bool true)], args := [d1, d2, d3] }
  | _ => none }
def participantNilRow : OpenClaim := { program := "ytkohppalfcalbaagreat", sum := "226f9fc00806e972cb1d4f2ee01d13babe947206a56a85f48f3f452c9e5a8f48", func := "frankpledge/frankpledgelaw14.ParticipantNil", spec := "participantNil", inPlace := ["internal/bytealg.Compare", "slices.overlaps[frankpledge/table.Entry]", "slices.overlaps[frankpledge/table.page]"], unfollowed := true, recurses := true, plainKeys := false, apart := false }
def ParticipantNilSaid : Prop := participantNilRow.holds Tryz.pinned (OpenSpec.ofChange participantNilSpec)

/-- ITS FALSE NEIGHBOUR: 'it returns false'. Refute it at one input. -/
def participantNilWrong : ChangeSpec := { name := "participantNil", fn := fun _ => fun
  | [d1, d2, d3] => { results := [.lit (.bool false)], args := [d1, d2, d3] }
  | _ => none }
def ParticipantNilWrongFalsely : Prop := participantNilRow.holds Tryz.pinned (OpenSpec.ofChange participantNilWrong)

/-- 'frankpledgelaw14.ParticipantTold': WHATEVER THE INPUT: true; the input reads as it did. -/
def participantToldSpec : ChangeSpec := { name := "participantTold", fn := fun _ => fun
  | [d1, d2, d3] => { results := [.lit (.bool true)], args := [d1, d2, d3] }
  | _ => none }
def participantToldRow : OpenClaim := { program := "ytkohppalfcalbaagreat", sum := "226f9fc00806e972cb1d4f2ee01d13babe947206a56a85f48f3f452c9e5a8f48", func := "frankpledge/frankpledgelaw14.ParticipantTold", spec := "participantTold", inPlace := ["internal/bytealg.Compare", "slices.overlaps[frankpledge/table.Entry]", "slices.overlaps[frankpledge/table.page]"], unfollowed := true, recurses := true, plainKeys := false, apart := false }
def ParticipantToldSaid : Prop := participantToldRow.holds Tryz.pinned (OpenSpec.ofChange participantToldSpec)

/-- ITS FALSE NEIGHBOUR: 'it returns false'. Refute it at one input. -/
def participantToldWrong : ChangeSpec := { name := "participantTold", fn := fun _ => fun
  | [d1, d2, d3] => { results := [.lit (.bool false)], args := [d1, d2, d3] }
  | _ => none }
def ParticipantToldWrongFalsely : Prop := participantToldRow.holds Tryz.pinned (OpenSpec.ofChange participantToldWrong)

/- THE SECOND FORM. 'bulk': how many values and letters a reading holds, each counted each time it is reached (what is shared counts as often as it is met; a slice's spare places count too). A statement '..UptoSaid' is the law's where the arguments, and the package variables that the reading takes, are together of bulk at most 1048576: NARROWER than '..Said'. Prove '..Said' where nothing that the law and all that it calls make is longer than what came in: it says more and counts as full. Else prove '..UptoSaid'. A law counts once. -/
mutual
def uptoBulk {H : Type} : DataW H → Nat
  | .lit (.string bytes) => bytes.length + 1
  | .lit _ => 1
  | .nil => 1
  | .ptr d => uptoBulk d + 1
  | .slice elems spare => uptoBulkAll elems + uptoBulkAll spare + 1
  | .agg parts => uptoBulkAll parts + 1
  | .iface _ d => uptoBulk d + 1
  | .map entries => uptoBulkEntries entries + 1
  | .held _ => 1
def uptoBulkAll {H : Type} : List (DataW H) → Nat
  | [] => 0
  | d :: r => uptoBulk d + uptoBulkAll r
def uptoBulkEntries {H : Type} : List (Lit × DataW H) → Nat
  | [] => 0
  | x :: r => uptoBulkEntry x + uptoBulkEntries r
def uptoBulkEntry {H : Type} : Lit × DataW H → Nat
  | (.string bytes, d) => bytes.length + uptoBulk d + 1
  | (_, d) => uptoBulk d + 1
 end
def uptoSmall : (H : Type) → List (DataW H) → Bool := fun _ ds => decide (uptoBulkAll ds ≤ 1048576)
def OpenSpec.upto (s : _root_.Go.ChangeSpec) : _root_.Go.OpenSpec := { _root_.Go.OpenSpec.ofChange s with cond := some uptoSmall }

/-- 'frankpledgelaw10.ShardNil', WHERE WHAT IT READS IS OF BULK AT MOST 1048576: true; the input reads as it did. -/
def shardNilUptoRow : OpenClaim := { program := "ytkohppalfcalbaagreat", sum := "226f9fc00806e972cb1d4f2ee01d13babe947206a56a85f48f3f452c9e5a8f48", func := "frankpledge/frankpledgelaw10.ShardNil", spec := "shardNil", inPlace := ["internal/bytealg.Compare", "slices.overlaps[frankpledge/table.Entry]", "slices.overlaps[frankpledge/table.page]"], unfollowed := true, recurses := true, plainKeys := false, apart := false, narrowed := true }
def ShardNilUptoSaid : Prop := shardNilUptoRow.holds Tryz.pinned (OpenSpec.upto shardNilSpec)

/-- 'frankpledgelaw14.ParticipantKeeps', WHERE WHAT IT READS IS OF BULK AT MOST 1048576: true; the input reads as it did. -/
def participantKeepsUptoRow : OpenClaim := { program := "ytkohppalfcalbaagreat", sum := "226f9fc00806e972cb1d4f2ee01d13babe947206a56a85f48f3f452c9e5a8f48", func := "frankpledge/frankpledgelaw14.ParticipantKeeps", spec := "participantKeeps", inPlace := ["internal/bytealg.Compare", "slices.overlaps[frankpledge/table.Entry]", "slices.overlaps[frankpledge/table.page]"], unfollowed := true, recurses := true, plainKeys := false, apart := false, narrowed := true }
def ParticipantKeepsUptoSaid : Prop := participantKeepsUptoRow.holds Tryz.pinned (OpenSpec.upto participantKeepsSpec)

/-- 'frankpledgelaw14.ParticipantVotes', WHERE WHAT IT READS IS OF BULK AT MOST 1048576: true; the input reads as it did. -/
def participantVotesUptoRow : OpenClaim := { program := "ytkohppalfcalbaagreat", sum := "226f9fc00806e972cb1d4f2ee01d13babe947206a56a85f48f3f452c9e5a8f48", func := "frankpledge/frankpledgelaw14.ParticipantVotes", spec := "participantVotes", inPlace := ["internal/bytealg.Compare", "slices.overlaps[frankpledge/table.Entry]", "slices.overlaps[frankpledge/table.page]"], unfollowed := true, recurses := true, plainKeys := false, apart := false, narrowed := true }
def ParticipantVotesUptoSaid : Prop := participantVotesUptoRow.holds Tryz.pinned (OpenSpec.upto participantVotesSpec)

/-- 'frankpledgelaw14.ParticipantAsks', WHERE WHAT IT READS IS OF BULK AT MOST 1048576: true; the input reads as it did. -/
def participantAsksUptoRow : OpenClaim := { program := "ytkohppalfcalbaagreat", sum := "226f9fc00806e972cb1d4f2ee01d13babe947206a56a85f48f3f452c9e5a8f48", func := "frankpledge/frankpledgelaw14.ParticipantAsks", spec := "participantAsks", inPlace := ["internal/bytealg.Compare", "slices.overlaps[frankpledge/table.Entry]", "slices.overlaps[frankpledge/table.page]"], unfollowed := true, recurses := true, plainKeys := false, apart := false, narrowed := true }
def ParticipantAsksUptoSaid : Prop := participantAsksUptoRow.holds Tryz.pinned (OpenSpec.upto participantAsksSpec)

/-- 'frankpledgelaw14.ParticipantNil', WHERE WHAT IT READS IS OF BULK AT MOST 1048576: true; the input reads as it did. -/
def participantNilUptoRow : OpenClaim := { program := "ytkohppalfcalbaagreat", sum := "226f9fc00806e972cb1d4f2ee01d13babe947206a56a85f48f3f452c9e5a8f48", func := "frankpledge/frankpledgelaw14.ParticipantNil", spec := "participantNil", inPlace := ["internal/bytealg.Compare", "slices.overlaps[frankpledge/table.Entry]", "slices.overlaps[frankpledge/table.page]"], unfollowed := true, recurses := true, plainKeys := false, apart := false, narrowed := true }
def ParticipantNilUptoSaid : Prop := participantNilUptoRow.holds Tryz.pinned (OpenSpec.upto participantNilSpec)

/-- 'frankpledgelaw14.ParticipantTold', WHERE WHAT IT READS IS OF BULK AT MOST 1048576: true; the input reads as it did. -/
def participantToldUptoRow : OpenClaim := { program := "ytkohppalfcalbaagreat", sum := "226f9fc00806e972cb1d4f2ee01d13babe947206a56a85f48f3f452c9e5a8f48", func := "frankpledge/frankpledgelaw14.ParticipantTold", spec := "participantTold", inPlace := ["internal/bytealg.Compare", "slices.overlaps[frankpledge/table.Entry]", "slices.overlaps[frankpledge/table.page]"], unfollowed := true, recurses := true, plainKeys := false, apart := false, narrowed := true }
def ParticipantToldUptoSaid : Prop := participantToldUptoRow.holds Tryz.pinned (OpenSpec.upto participantToldSpec)

end Rows
end Go.Proofs.YtkohppalfcalbaaGreat
