/-
  No cell of these rows narrows 'for every input' (looked for: loops, veiled, ifaces, maps, wideKeys, modest, calm, conditions, laid).
  DERIVED. THE GIVEN ROWS OF THIS SEAT. 12 by the template 'for every input the law returns true; each argument reads behind the call as it read before'; 0 by the template 'total and deterministic' (their statements: YtldpdjnedoflcabTotals.lean).
  GIVEN WITH THE SEED: the statements are not yours to turn. If you find one false, say at which input.
  Laid BY PROGRAM, IN A SANDBOX (cutbox-rows.mjs): the forced cells as the released guide's own fill.sh prints them over the translation 5f2a6735265d719f… (all of the seat's roots in one cut). By AI agents, Wed Nov 11 2026. No macro, syntax, notation, axiom, sorry.
-/
import Derived.Test.YtldpdjnedoflcabChecked
import GoSem.Claim
import GoSem.ClaimJoined
import GoSem.ClaimMapViews
import Derived.JoinedTies
import Derived.KernelRfl
namespace Go.Proofs.Ytldpdjnedoflcab
/- THE CELL 'sum', in the pinned program and in every row, IS THE sha256 OF THE DUMP (.gsa) THAT YtldpdjnedoflcabProg.lean LOADS. Nothing in Lean hashes anything: it is a label: what it is worth is what the hold of that sum in a sandbox is worth. -/
noncomputable def Try.pinned : Pinned := { name := "ytldpdjnedoflcab", sum := "5f2a6735265d719f33caccdeba2906e2f215d5e3150829c54c01cf07041ef189", checked := Try.checked }
namespace Rows
def none {H : Type} : Left H := { results := [], args := [] }

/-- 'laws.FnExactLeastWinning': WHATEVER THE INPUT: true; the input reads as it did. -/
def fnExactLeastWinningSpec : ChangeSpec := { name := "fnExactLeastWinning", fn := fun _ => fun
  | [d] => { results := [.lit (.bool true)], args := [d] }
  | _ => none }
def fnExactLeastWinningRow : OpenClaim := { program := "ytldpdjnedoflcab", sum := "5f2a6735265d719f33caccdeba2906e2f215d5e3150829c54c01cf07041ef189", func := "loop.example/g01275/laws.FnExactLeastWinning", spec := "fnExactLeastWinning", unfollowed := true, recurses := true, apart := false }
def FnExactLeastWinningSaid : Prop := fnExactLeastWinningRow.holds Try.pinned (OpenSpec.ofChange fnExactLeastWinningSpec)

/-- ITS FALSE NEIGHBOUR: 'it returns false'. Refute it at one input. -/
def fnExactLeastWinningWrong : ChangeSpec := { name := "fnExactLeastWinning", fn := fun _ => fun
  | [d] => { results := [.lit (.bool false)], args := [d] }
  | _ => none }
def FnExactLeastWinningWrongFalsely : Prop := fnExactLeastWinningRow.holds Try.pinned (OpenSpec.ofChange fnExactLeastWinningWrong)

/-- 'laws.FnExactGreatestLosing': WHATEVER THE INPUT: true; the input reads as it did. -/
def fnExactGreatestLosingSpec : ChangeSpec := { name := "fnExactGreatestLosing", fn := fun _ => fun
  | [d] => { results := [.lit (.bool true)], args := [d] }
  | _ => none }
def fnExactGreatestLosingRow : OpenClaim := { program := "ytldpdjnedoflcab", sum := "5f2a6735265d719f33caccdeba2906e2f215d5e3150829c54c01cf07041ef189", func := "loop.example/g01275/laws.FnExactGreatestLosing", spec := "fnExactGreatestLosing", unfollowed := true, recurses := true, apart := false }
def FnExactGreatestLosingSaid : Prop := fnExactGreatestLosingRow.holds Try.pinned (OpenSpec.ofChange fnExactGreatestLosingSpec)

/-- ITS FALSE NEIGHBOUR: 'it returns false'. Refute it at one input. -/
def fnExactGreatestLosingWrong : ChangeSpec := { name := "fnExactGreatestLosing", fn := fun _ => fun
  | [d] => { results := [.lit (.bool false)], args := [d] }
  | _ => none }
def FnExactGreatestLosingWrongFalsely : Prop := fnExactGreatestLosingRow.holds Try.pinned (OpenSpec.ofChange fnExactGreatestLosingWrong)

/-- 'laws.FnExactLeastBlocking': WHATEVER THE INPUT: true; the input reads as it did. -/
def fnExactLeastBlockingSpec : ChangeSpec := { name := "fnExactLeastBlocking", fn := fun _ => fun
  | [d] => { results := [.lit (.bool true)], args := [d] }
  | _ => none }
def fnExactLeastBlockingRow : OpenClaim := { program := "ytldpdjnedoflcab", sum := "5f2a6735265d719f33caccdeba2906e2f215d5e3150829c54c01cf07041ef189", func := "loop.example/g01275/laws.FnExactLeastBlocking", spec := "fnExactLeastBlocking", unfollowed := true, recurses := true, apart := false }
def FnExactLeastBlockingSaid : Prop := fnExactLeastBlockingRow.holds Try.pinned (OpenSpec.ofChange fnExactLeastBlockingSpec)

/-- ITS FALSE NEIGHBOUR: 'it returns false'. Refute it at one input. -/
def fnExactLeastBlockingWrong : ChangeSpec := { name := "fnExactLeastBlocking", fn := fun _ => fun
  | [d] => { results := [.lit (.bool false)], args := [d] }
  | _ => none }
def FnExactLeastBlockingWrongFalsely : Prop := fnExactLeastBlockingRow.holds Try.pinned (OpenSpec.ofChange fnExactLeastBlockingWrong)

/-- 'laws.FnExactDummiesOf': WHATEVER THE INPUT: true; the input reads as it did. -/
def fnExactDummiesOfSpec : ChangeSpec := { name := "fnExactDummiesOf", fn := fun _ => fun
  | [d] => { results := [.lit (.bool true)], args := [d] }
  | _ => none }
def fnExactDummiesOfRow : OpenClaim := { program := "ytldpdjnedoflcab", sum := "5f2a6735265d719f33caccdeba2906e2f215d5e3150829c54c01cf07041ef189", func := "loop.example/g01275/laws.FnExactDummiesOf", spec := "fnExactDummiesOf", unfollowed := true, recurses := true, apart := false }
def FnExactDummiesOfSaid : Prop := fnExactDummiesOfRow.holds Try.pinned (OpenSpec.ofChange fnExactDummiesOfSpec)

/-- ITS FALSE NEIGHBOUR: 'it returns false'. Refute it at one input. -/
def fnExactDummiesOfWrong : ChangeSpec := { name := "fnExactDummiesOf", fn := fun _ => fun
  | [d] => { results := [.lit (.bool false)], args := [d] }
  | _ => none }
def FnExactDummiesOfWrongFalsely : Prop := fnExactDummiesOfRow.holds Try.pinned (OpenSpec.ofChange fnExactDummiesOfWrong)

/-- 'laws.FnExactRenameCommittee': WHATEVER THE INPUT: true; the input reads as it did. -/
def fnExactRenameCommitteeSpec : ChangeSpec := { name := "fnExactRenameCommittee", fn := fun _ => fun
  | [d1, d2] => { results := [.lit (.bool true)], args := [d1, d2] }
  | _ => none }
def fnExactRenameCommitteeRow : OpenClaim := { program := "ytldpdjnedoflcab", sum := "5f2a6735265d719f33caccdeba2906e2f215d5e3150829c54c01cf07041ef189", func := "loop.example/g01275/laws.FnExactRenameCommittee", spec := "fnExactRenameCommittee", apart := false }
def FnExactRenameCommitteeSaid : Prop := fnExactRenameCommitteeRow.holds Try.pinned (OpenSpec.ofChange fnExactRenameCommitteeSpec)

/-- ITS FALSE NEIGHBOUR: 'it returns false'. Refute it at one input. -/
def fnExactRenameCommitteeWrong : ChangeSpec := { name := "fnExactRenameCommittee", fn := fun _ => fun
  | [d1, d2] => { results := [.lit (.bool false)], args := [d1, d2] }
  | _ => none }
def FnExactRenameCommitteeWrongFalsely : Prop := fnExactRenameCommitteeRow.holds Try.pinned (OpenSpec.ofChange fnExactRenameCommitteeWrong)

/-- 'laws.FnExactDropMember': WHATEVER THE INPUT: true; the input reads as it did. -/
def fnExactDropMemberSpec : ChangeSpec := { name := "fnExactDropMember", fn := fun _ => fun
  | [d1, d2] => { results := [.lit (.bool true)], args := [d1, d2] }
  | _ => none }
def fnExactDropMemberRow : OpenClaim := { program := "ytldpdjnedoflcab", sum := "5f2a6735265d719f33caccdeba2906e2f215d5e3150829c54c01cf07041ef189", func := "loop.example/g01275/laws.FnExactDropMember", spec := "fnExactDropMember", apart := false }
def FnExactDropMemberSaid : Prop := fnExactDropMemberRow.holds Try.pinned (OpenSpec.ofChange fnExactDropMemberSpec)

/-- ITS FALSE NEIGHBOUR: 'it returns false'. Refute it at one input. -/
def fnExactDropMemberWrong : ChangeSpec := { name := "fnExactDropMember", fn := fun _ => fun
  | [d1, d2] => { results := [.lit (.bool false)], args := [d1, d2] }
  | _ => none }
def FnExactDropMemberWrongFalsely : Prop := fnExactDropMemberRow.holds Try.pinned (OpenSpec.ofChange fnExactDropMemberWrong)

/-- 'laws.FnExactAreSameVotes': WHATEVER THE INPUT: true; the input reads as it did. -/
def fnExactAreSameVotesSpec : ChangeSpec := { name := "fnExactAreSameVotes", fn := fun _ => fun
  | [d1, d2] => { results := [.lit (.bool true)], args := [d1, d2] }
  | _ => none }
def fnExactAreSameVotesRow : OpenClaim := { program := "ytldpdjnedoflcab", sum := "5f2a6735265d719f33caccdeba2906e2f215d5e3150829c54c01cf07041ef189", func := "loop.example/g01275/laws.FnExactAreSameVotes", spec := "fnExactAreSameVotes", unfollowed := true, recurses := true, apart := false }
def FnExactAreSameVotesSaid : Prop := fnExactAreSameVotesRow.holds Try.pinned (OpenSpec.ofChange fnExactAreSameVotesSpec)

/-- ITS FALSE NEIGHBOUR: 'it returns false'. Refute it at one input. -/
def fnExactAreSameVotesWrong : ChangeSpec := { name := "fnExactAreSameVotes", fn := fun _ => fun
  | [d1, d2] => { results := [.lit (.bool false)], args := [d1, d2] }
  | _ => none }
def FnExactAreSameVotesWrongFalsely : Prop := fnExactAreSameVotesRow.holds Try.pinned (OpenSpec.ofChange fnExactAreSameVotesWrong)

/-- 'laws.FnExactSwingSets': WHATEVER THE INPUT: true; the input reads as it did. -/
def fnExactSwingSetsSpec : ChangeSpec := { name := "fnExactSwingSets", fn := fun _ => fun
  | [d1, d2] => { results := [.lit (.bool true)], args := [d1, d2] }
  | _ => none }
def fnExactSwingSetsRow : OpenClaim := { program := "ytldpdjnedoflcab", sum := "5f2a6735265d719f33caccdeba2906e2f215d5e3150829c54c01cf07041ef189", func := "loop.example/g01275/laws.FnExactSwingSets", spec := "fnExactSwingSets", unfollowed := true, recurses := true, apart := false }
def FnExactSwingSetsSaid : Prop := fnExactSwingSetsRow.holds Try.pinned (OpenSpec.ofChange fnExactSwingSetsSpec)

/-- ITS FALSE NEIGHBOUR: 'it returns false'. Refute it at one input. -/
def fnExactSwingSetsWrong : ChangeSpec := { name := "fnExactSwingSets", fn := fun _ => fun
  | [d1, d2] => { results := [.lit (.bool false)], args := [d1, d2] }
  | _ => none }
def FnExactSwingSetsWrongFalsely : Prop := fnExactSwingSetsRow.holds Try.pinned (OpenSpec.ofChange fnExactSwingSetsWrong)

/-- 'laws.FnExactPivotOf': WHATEVER THE INPUT: true; the input reads as it did. -/
def fnExactPivotOfSpec : ChangeSpec := { name := "fnExactPivotOf", fn := fun _ => fun
  | [d1, d2] => { results := [.lit (.bool true)], args := [d1, d2] }
  | _ => none }
def fnExactPivotOfRow : OpenClaim := { program := "ytldpdjnedoflcab", sum := "5f2a6735265d719f33caccdeba2906e2f215d5e3150829c54c01cf07041ef189", func := "loop.example/g01275/laws.FnExactPivotOf", spec := "fnExactPivotOf", apart := false }
def FnExactPivotOfSaid : Prop := fnExactPivotOfRow.holds Try.pinned (OpenSpec.ofChange fnExactPivotOfSpec)

/-- ITS FALSE NEIGHBOUR: 'it returns false'. Refute it at one input. -/
def fnExactPivotOfWrong : ChangeSpec := { name := "fnExactPivotOf", fn := fun _ => fun
  | [d1, d2] => { results := [.lit (.bool false)], args := [d1, d2] }
  | _ => none }
def FnExactPivotOfWrongFalsely : Prop := fnExactPivotOfRow.holds Try.pinned (OpenSpec.ofChange fnExactPivotOfWrong)

/-- 'laws.FnExactLeastSetCounts': WHATEVER THE INPUT: true; the input reads as it did. -/
def fnExactLeastSetCountsSpec : ChangeSpec := { name := "fnExactLeastSetCounts", fn := fun _ => fun
  | [d] => { results := [.lit (.bool true)], args := [d] }
  | _ => none }
def fnExactLeastSetCountsRow : OpenClaim := { program := "ytldpdjnedoflcab", sum := "5f2a6735265d719f33caccdeba2906e2f215d5e3150829c54c01cf07041ef189", func := "loop.example/g01275/laws.FnExactLeastSetCounts", spec := "fnExactLeastSetCounts", unfollowed := true, recurses := true, apart := false }
def FnExactLeastSetCountsSaid : Prop := fnExactLeastSetCountsRow.holds Try.pinned (OpenSpec.ofChange fnExactLeastSetCountsSpec)

/-- ITS FALSE NEIGHBOUR: 'it returns false'. Refute it at one input. -/
def fnExactLeastSetCountsWrong : ChangeSpec := { name := "fnExactLeastSetCounts", fn := fun _ => fun
  | [d] => { results := [.lit (.bool false)], args := [d] }
  | _ => none }
def FnExactLeastSetCountsWrongFalsely : Prop := fnExactLeastSetCountsRow.holds Try.pinned (OpenSpec.ofChange fnExactLeastSetCountsWrong)

/-- 'laws.FnExactSizesOfLeast': WHATEVER THE INPUT: true; the input reads as it did. -/
def fnExactSizesOfLeastSpec : ChangeSpec := { name := "fnExactSizesOfLeast", fn := fun _ => fun
  | [d] => { results := [.lit (.bool true)], args := [d] }
  | _ => none }
def fnExactSizesOfLeastRow : OpenClaim := { program := "ytldpdjnedoflcab", sum := "5f2a6735265d719f33caccdeba2906e2f215d5e3150829c54c01cf07041ef189", func := "loop.example/g01275/laws.FnExactSizesOfLeast", spec := "fnExactSizesOfLeast", unfollowed := true, recurses := true, apart := false }
def FnExactSizesOfLeastSaid : Prop := fnExactSizesOfLeastRow.holds Try.pinned (OpenSpec.ofChange fnExactSizesOfLeastSpec)

/-- ITS FALSE NEIGHBOUR: 'it returns false'. Refute it at one input. -/
def fnExactSizesOfLeastWrong : ChangeSpec := { name := "fnExactSizesOfLeast", fn := fun _ => fun
  | [d] => { results := [.lit (.bool false)], args := [d] }
  | _ => none }
def FnExactSizesOfLeastWrongFalsely : Prop := fnExactSizesOfLeastRow.holds Try.pinned (OpenSpec.ofChange fnExactSizesOfLeastWrong)

/-- 'laws.FnExactLargestLoss': WHATEVER THE INPUT: true; the input reads as it did. -/
def fnExactLargestLossSpec : ChangeSpec := { name := "fnExactLargestLoss", fn := fun _ => fun
  | [d] => { results := [.lit (.bool true)], args := [d] }
  | _ => none }
def fnExactLargestLossRow : OpenClaim := { program := "ytldpdjnedoflcab", sum := "5f2a6735265d719f33caccdeba2906e2f215d5e3150829c54c01cf07041ef189", func := "loop.example/g01275/laws.FnExactLargestLoss", spec := "fnExactLargestLoss", unfollowed := true, recurses := true, apart := false }
def FnExactLargestLossSaid : Prop := fnExactLargestLossRow.holds Try.pinned (OpenSpec.ofChange fnExactLargestLossSpec)

/-- ITS FALSE NEIGHBOUR: 'it returns false'. Refute it at one input. -/
def fnExactLargestLossWrong : ChangeSpec := { name := "fnExactLargestLoss", fn := fun _ => fun
  | [d] => { results := [.lit (.bool false)], args := [d] }
  | _ => none }
def FnExactLargestLossWrongFalsely : Prop := fnExactLargestLossRow.holds Try.pinned (OpenSpec.ofChange fnExactLargestLossWrong)

/- THE SECOND FORM. 'bulk': how many values and letters a reading holds, each counted each time it is reached (what is shared counts as often as it is met; a slice's spare places count too). A statement '..UptoSaid' is the law's where the arguments, and the package variables that the reading takes, are together of bulk at most 1048576: NARROWER than '..Said'. Prove '..Said' where nothing that the law and all that it calls make is longer than what came in: it says more and counts as full. Else prove '..UptoSaid'. A law counts once. -/
mutual
def uptoBulk {H : Type} : DataW H → Nat
  | .lit (.string bytes) => bytes.length + 1
  | .lit _ => 1
  | .nil => 1
  | .ptr d => uptoBulk d + 1
  | .slice elems spare => uptoBulkAll elems + uptoBulkAll spare + 1
  | .agg parts => uptoBulkAll parts + 1
  | .iface _ d => uptoBulk d + 1
  | .map entries => uptoBulkEntries entries + 1
  | .held _ => 1
def uptoBulkAll {H : Type} : List (DataW H) → Nat
  | [] => 0
  | d :: r => uptoBulk d + uptoBulkAll r
def uptoBulkEntries {H : Type} : List (Lit × DataW H) → Nat
  | [] => 0
  | x :: r => uptoBulkEntry x + uptoBulkEntries r
def uptoBulkEntry {H : Type} : Lit × DataW H → Nat
  | (.string bytes, d) => bytes.length + uptoBulk d + 1
  | (_, d) => uptoBulk d + 1
 end
def uptoSmall : (H : Type) → List (DataW H) → Bool := fun _ ds => decide (uptoBulkAll ds ≤ 1048576)
def OpenSpec.upto (s : _root_.Go.ChangeSpec) : _root_.Go.OpenSpec := { _root_.Go.OpenSpec.ofChange s with cond := some uptoSmall }

/-- 'laws.FnExactLeastWinning', WHERE WHAT IT READS IS OF BULK AT MOST 1048576: true; the input reads as it did. -/
def fnExactLeastWinningUptoRow : OpenClaim := { program := "ytldpdjnedoflcab", sum := "5f2a6735265d719f33caccdeba2906e2f215d5e3150829c54c01cf07041ef189", func := "loop.example/g01275/laws.FnExactLeastWinning", spec := "fnExactLeastWinning", unfollowed := true, recurses := true, apart := false, narrowed := true }
def FnExactLeastWinningUptoSaid : Prop := fnExactLeastWinningUptoRow.holds Try.pinned (OpenSpec.upto fnExactLeastWinningSpec)

/-- 'laws.FnExactGreatestLosing', WHERE WHAT IT READS IS OF BULK AT MOST 1048576: true; the input reads as it did. -/
def fnExactGreatestLosingUptoRow : OpenClaim := { program := "ytldpdjnedoflcab", sum := "5f2a6735265d719f33caccdeba2906e2f215d5e3150829c54c01cf07041ef189", func := "loop.example/g01275/laws.FnExactGreatestLosing", spec := "fnExactGreatestLosing", unfollowed := true, recurses := true, apart := false, narrowed := true }
def FnExactGreatestLosingUptoSaid : Prop := fnExactGreatestLosingUptoRow.holds Try.pinned (OpenSpec.upto fnExactGreatestLosingSpec)

/-- 'laws.FnExactLeastBlocking', WHERE WHAT IT READS IS OF BULK AT MOST 1048576: true; the input reads as it did. -/
def fnExactLeastBlockingUptoRow : OpenClaim := { program := "ytldpdjnedoflcab", sum := "5f2a6735265d719f33caccdeba2906e2f215d5e3150829c54c01cf07041ef189", func := "loop.example/g01275/laws.FnExactLeastBlocking", spec := "fnExactLeastBlocking", unfollowed := true, recurses := true, apart := false, narrowed := true }
def FnExactLeastBlockingUptoSaid : Prop := fnExactLeastBlockingUptoRow.holds Try.pinned (OpenSpec.upto fnExactLeastBlockingSpec)

/-- 'laws.FnExactDummiesOf', WHERE WHAT IT READS IS OF BULK AT MOST 1048576: true; the input reads as it did. -/
def fnExactDummiesOfUptoRow : OpenClaim := { program := "ytldpdjnedoflcab", sum := "5f2a6735265d719f33caccdeba2906e2f215d5e3150829c54c01cf07041ef189", func := "loop.example/g01275/laws.FnExactDummiesOf", spec := "fnExactDummiesOf", unfollowed := true, recurses := true, apart := false, narrowed := true }
def FnExactDummiesOfUptoSaid : Prop := fnExactDummiesOfUptoRow.holds Try.pinned (OpenSpec.upto fnExactDummiesOfSpec)

/-- 'laws.FnExactRenameCommittee', WHERE WHAT IT READS IS OF BULK AT MOST 1048576: true; the input reads as it did. -/
def fnExactRenameCommitteeUptoRow : OpenClaim := { program := "ytldpdjnedoflcab", sum := "5f2a6735265d719f33caccdeba2906e2f215d5e3150829c54c01cf07041ef189", func := "loop.example/g01275/laws.FnExactRenameCommittee", spec := "fnExactRenameCommittee", apart := false, narrowed := true }
def FnExactRenameCommitteeUptoSaid : Prop := fnExactRenameCommitteeUptoRow.holds Try.pinned (OpenSpec.upto fnExactRenameCommitteeSpec)

/-- 'laws.FnExactDropMember', WHERE WHAT IT READS IS OF BULK AT MOST 1048576: true; the input reads as it did. -/
def fnExactDropMemberUptoRow : OpenClaim := { program := "ytldpdjnedoflcab", sum := "5f2a6735265d719f33caccdeba2906e2f215d5e3150829c54c01cf07041ef189", func := "loop.example/g01275/laws.FnExactDropMember", spec := "fnExactDropMember", apart := false, narrowed := true }
def FnExactDropMemberUptoSaid : Prop := fnExactDropMemberUptoRow.holds Try.pinned (OpenSpec.upto fnExactDropMemberSpec)

/-- 'laws.FnExactAreSameVotes', WHERE WHAT IT READS IS OF BULK AT MOST 1048576: true; the input reads as it did. -/
def fnExactAreSameVotesUptoRow : OpenClaim := { program := "ytldpdjnedoflcab", sum := "5f2a6735265d719f33caccdeba2906e2f215d5e3150829c54c01cf07041ef189", func := "loop.example/g01275/laws.FnExactAreSameVotes", spec := "fnExactAreSameVotes", unfollowed := true, recurses := true, apart := false, narrowed := true }
def FnExactAreSameVotesUptoSaid : Prop := fnExactAreSameVotesUptoRow.holds Try.pinned (OpenSpec.upto fnExactAreSameVotesSpec)

/-- 'laws.FnExactSwingSets', WHERE WHAT IT READS IS OF BULK AT MOST 1048576: true; the input reads as it did. -/
def fnExactSwingSetsUptoRow : OpenClaim := { program := "ytldpdjnedoflcab", sum := "5f2a6735265d719f33caccdeba2906e2f215d5e3150829c54c01cf07041ef189", func := "loop.example/g01275/laws.FnExactSwingSets", spec := "fnExactSwingSets", unfollowed := true, recurses := true, apart := false, narrowed := true }
def FnExactSwingSetsUptoSaid : Prop := fnExactSwingSetsUptoRow.holds Try.pinned (OpenSpec.upto fnExactSwingSetsSpec)

/-- 'laws.FnExactPivotOf', WHERE WHAT IT READS IS OF BULK AT MOST 1048576: true; the input reads as it did. -/
def fnExactPivotOfUptoRow : OpenClaim := { program := "ytldpdjnedoflcab", sum := "5f2a6735265d719f33caccdeba2906e2f215d5e3150829c54c01cf07041ef189", func := "loop.example/g01275/laws.FnExactPivotOf", spec := "fnExactPivotOf", apart := false, narrowed := true }
def FnExactPivotOfUptoSaid : Prop := fnExactPivotOfUptoRow.holds Try.pinned (OpenSpec.upto fnExactPivotOfSpec)

/-- 'laws.FnExactLeastSetCounts', WHERE WHAT IT READS IS OF BULK AT MOST 1048576: true; the input reads as it did. -/
def fnExactLeastSetCountsUptoRow : OpenClaim := { program := "ytldpdjnedoflcab", sum := "5f2a6735265d719f33caccdeba2906e2f215d5e3150829c54c01cf07041ef189", func := "loop.example/g01275/laws.FnExactLeastSetCounts", spec := "fnExactLeastSetCounts", unfollowed := true, recurses := true, apart := false, narrowed := true }
def FnExactLeastSetCountsUptoSaid : Prop := fnExactLeastSetCountsUptoRow.holds Try.pinned (OpenSpec.upto fnExactLeastSetCountsSpec)

/-- 'laws.FnExactSizesOfLeast', WHERE WHAT IT READS IS OF BULK AT MOST 1048576: true; the input reads as it did. -/
def fnExactSizesOfLeastUptoRow : OpenClaim := { program := "ytldpdjnedoflcab", sum := "5f2a6735265d719f33caccdeba2906e2f215d5e3150829c54c01cf07041ef189", func := "loop.example/g01275/laws.FnExactSizesOfLeast", spec := "fnExactSizesOfLeast", unfollowed := true, recurses := true, apart := false, narrowed := true }
def FnExactSizesOfLeastUptoSaid : Prop := fnExactSizesOfLeastUptoRow.holds Try.pinned (OpenSpec.upto fnExactSizesOfLeastSpec)

/-- 'laws.FnExactLargestLoss', WHERE WHAT IT READS IS OF BULK AT MOST 1048576: true; the input reads as it did. -/
def fnExactLargestLossUptoRow : OpenClaim := { program := "ytldpdjnedoflcab", sum := "5f2a6735265d719f33caccdeba2906e2f215d5e3150829c54c01cf07041ef189", func := "loop.example/g01275/laws.FnExactLargestLoss", spec := "fnExactLargestLoss", unfollowed := true, recurses := true, apart := false, narrowed := true }
def FnExactLargestLossUptoSaid : Prop := fnExactLargestLossUptoRow.holds Try.pinned (OpenSpec.upto fnExactLargestLossSpec)

end Rows
end Go.Proofs.Ytldpdjnedoflcab
