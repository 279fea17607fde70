/-
  No cell of these rows narrows 'for every input' (looked for: loops, veiled, ifaces, maps, wideKeys, modest, calm, conditions, laid).
  DERIVED. THE GIVEN ROWS OF THIS SEAT. 12 by the template 'for every input the law returns true; each argument reads behind the call as it read before'; 0 by the template 'total and deterministic' (their statements: YtldpdjnedoflcaaTotals.lean).
  GIVEN WITH THE SEED: the statements are not yours to turn. If you find one false, say at which input.
  Laid BY PROGRAM, IN A SANDBOX (cutbox-rows.mjs): the forced cells as the released guide's own fill.sh prints them over the translation dccde50265c0168f… (all of the seat's roots in one cut). By AI agents, Wed Nov 11 2026. No macro, syntax, notation, axiom, sorry.
-/
import Derived.Test.YtldpdjnedoflcaaChecked
import GoSem.Claim
import GoSem.ClaimJoined
import GoSem.ClaimMapViews
import Derived.JoinedTies
import Derived.KernelRfl
namespace Go.Proofs.Ytldpdjnedoflcaa
/- THE CELL 'sum', in the pinned program and in every row, IS THE sha256 OF THE DUMP (.gsa) THAT YtldpdjnedoflcaaProg.lean LOADS. Nothing in Lean hashes anything: it is a label: what it is worth is what the hold of that sum in a sandbox is worth. -/
noncomputable def Try.pinned : Pinned := { name := "ytldpdjnedoflcaa", sum := "dccde50265c0168fd5a20eefaae63c747b7d8ae0ec8067aa231cf16233e811af", checked := Try.checked }
namespace Rows
def none {H : Type} : Left H := { results := [], args := [] }

/-- 'laws.FnExactIsCommittee': WHATEVER THE INPUT: true; the input reads as it did. -/
def fnExactIsCommitteeSpec : ChangeSpec := { name := "fnExactIsCommittee", fn := fun _ => fun
  | [d] => { results := [.lit (.bool true)], args := [d] }
  | _ => none }
def fnExactIsCommitteeRow : OpenClaim := { program := "ytldpdjnedoflcaa", sum := "dccde50265c0168fd5a20eefaae63c747b7d8ae0ec8067aa231cf16233e811af", func := "loop.example/g01275/laws.FnExactIsCommittee", spec := "fnExactIsCommittee", apart := false }
def FnExactIsCommitteeSaid : Prop := fnExactIsCommitteeRow.holds Try.pinned (OpenSpec.ofChange fnExactIsCommitteeSpec)

/-- ITS FALSE NEIGHBOUR: 'it returns false'. Refute it at one input. -/
def fnExactIsCommitteeWrong : ChangeSpec := { name := "fnExactIsCommittee", fn := fun _ => fun
  | [d] => { results := [.lit (.bool false)], args := [d] }
  | _ => none }
def FnExactIsCommitteeWrongFalsely : Prop := fnExactIsCommitteeRow.holds Try.pinned (OpenSpec.ofChange fnExactIsCommitteeWrong)

/-- 'laws.FnExactTotalWeight': WHATEVER THE INPUT: true; the input reads as it did. -/
def fnExactTotalWeightSpec : ChangeSpec := { name := "fnExactTotalWeight", fn := fun _ => fun
  | [d] => { results := [.lit (.bool true)], args := [d] }
  | _ => none }
def fnExactTotalWeightRow : OpenClaim := { program := "ytldpdjnedoflcaa", sum := "dccde50265c0168fd5a20eefaae63c747b7d8ae0ec8067aa231cf16233e811af", func := "loop.example/g01275/laws.FnExactTotalWeight", spec := "fnExactTotalWeight", apart := false }
def FnExactTotalWeightSaid : Prop := fnExactTotalWeightRow.holds Try.pinned (OpenSpec.ofChange fnExactTotalWeightSpec)

/-- ITS FALSE NEIGHBOUR: 'it returns false'. Refute it at one input. -/
def fnExactTotalWeightWrong : ChangeSpec := { name := "fnExactTotalWeight", fn := fun _ => fun
  | [d] => { results := [.lit (.bool false)], args := [d] }
  | _ => none }
def FnExactTotalWeightWrongFalsely : Prop := fnExactTotalWeightRow.holds Try.pinned (OpenSpec.ofChange fnExactTotalWeightWrong)

/-- 'laws.FnExactWeightOfSet': WHATEVER THE INPUT: true; the input reads as it did. -/
def fnExactWeightOfSetSpec : ChangeSpec := { name := "fnExactWeightOfSet", fn := fun _ => fun
  | [d1, d2] => { results := [.lit (.bool true)], args := [d1, d2] }
  | _ => none }
def fnExactWeightOfSetRow : OpenClaim := { program := "ytldpdjnedoflcaa", sum := "dccde50265c0168fd5a20eefaae63c747b7d8ae0ec8067aa231cf16233e811af", func := "loop.example/g01275/laws.FnExactWeightOfSet", spec := "fnExactWeightOfSet", apart := false }
def FnExactWeightOfSetSaid : Prop := fnExactWeightOfSetRow.holds Try.pinned (OpenSpec.ofChange fnExactWeightOfSetSpec)

/-- ITS FALSE NEIGHBOUR: 'it returns false'. Refute it at one input. -/
def fnExactWeightOfSetWrong : ChangeSpec := { name := "fnExactWeightOfSet", fn := fun _ => fun
  | [d1, d2] => { results := [.lit (.bool false)], args := [d1, d2] }
  | _ => none }
def FnExactWeightOfSetWrongFalsely : Prop := fnExactWeightOfSetRow.holds Try.pinned (OpenSpec.ofChange fnExactWeightOfSetWrong)

/-- 'laws.FnExactIsWinning': WHATEVER THE INPUT: true; the input reads as it did. -/
def fnExactIsWinningSpec : ChangeSpec := { name := "fnExactIsWinning", fn := fun _ => fun
  | [d1, d2] => { results := [.lit (.bool true)], args := [d1, d2] }
  | _ => none }
def fnExactIsWinningRow : OpenClaim := { program := "ytldpdjnedoflcaa", sum := "dccde50265c0168fd5a20eefaae63c747b7d8ae0ec8067aa231cf16233e811af", func := "loop.example/g01275/laws.FnExactIsWinning", spec := "fnExactIsWinning", apart := false }
def FnExactIsWinningSaid : Prop := fnExactIsWinningRow.holds Try.pinned (OpenSpec.ofChange fnExactIsWinningSpec)

/-- ITS FALSE NEIGHBOUR: 'it returns false'. Refute it at one input. -/
def fnExactIsWinningWrong : ChangeSpec := { name := "fnExactIsWinning", fn := fun _ => fun
  | [d1, d2] => { results := [.lit (.bool false)], args := [d1, d2] }
  | _ => none }
def FnExactIsWinningWrongFalsely : Prop := fnExactIsWinningRow.holds Try.pinned (OpenSpec.ofChange fnExactIsWinningWrong)

/-- 'laws.FnExactIsBlocking': WHATEVER THE INPUT: true; the input reads as it did. -/
def fnExactIsBlockingSpec : ChangeSpec := { name := "fnExactIsBlocking", fn := fun _ => fun
  | [d1, d2] => { results := [.lit (.bool true)], args := [d1, d2] }
  | _ => none }
def fnExactIsBlockingRow : OpenClaim := { program := "ytldpdjnedoflcaa", sum := "dccde50265c0168fd5a20eefaae63c747b7d8ae0ec8067aa231cf16233e811af", func := "loop.example/g01275/laws.FnExactIsBlocking", spec := "fnExactIsBlocking", apart := false }
def FnExactIsBlockingSaid : Prop := fnExactIsBlockingRow.holds Try.pinned (OpenSpec.ofChange fnExactIsBlockingSpec)

/-- ITS FALSE NEIGHBOUR: 'it returns false'. Refute it at one input. -/
def fnExactIsBlockingWrong : ChangeSpec := { name := "fnExactIsBlocking", fn := fun _ => fun
  | [d1, d2] => { results := [.lit (.bool false)], args := [d1, d2] }
  | _ => none }
def FnExactIsBlockingWrongFalsely : Prop := fnExactIsBlockingRow.holds Try.pinned (OpenSpec.ofChange fnExactIsBlockingWrong)

/-- 'laws.FnExactCountWinning': WHATEVER THE INPUT: true; the input reads as it did. -/
def fnExactCountWinningSpec : ChangeSpec := { name := "fnExactCountWinning", fn := fun _ => fun
  | [d] => { results := [.lit (.bool true)], args := [d] }
  | _ => none }
def fnExactCountWinningRow : OpenClaim := { program := "ytldpdjnedoflcaa", sum := "dccde50265c0168fd5a20eefaae63c747b7d8ae0ec8067aa231cf16233e811af", func := "loop.example/g01275/laws.FnExactCountWinning", spec := "fnExactCountWinning", unfollowed := true, recurses := true, apart := false }
def FnExactCountWinningSaid : Prop := fnExactCountWinningRow.holds Try.pinned (OpenSpec.ofChange fnExactCountWinningSpec)

/-- ITS FALSE NEIGHBOUR: 'it returns false'. Refute it at one input. -/
def fnExactCountWinningWrong : ChangeSpec := { name := "fnExactCountWinning", fn := fun _ => fun
  | [d] => { results := [.lit (.bool false)], args := [d] }
  | _ => none }
def FnExactCountWinningWrongFalsely : Prop := fnExactCountWinningRow.holds Try.pinned (OpenSpec.ofChange fnExactCountWinningWrong)

/-- 'laws.FnExactCountWinningOf': WHATEVER THE INPUT: true; the input reads as it did. -/
def fnExactCountWinningOfSpec : ChangeSpec := { name := "fnExactCountWinningOf", fn := fun _ => fun
  | [d1, d2] => { results := [.lit (.bool true)], args := [d1, d2] }
  | _ => none }
def fnExactCountWinningOfRow : OpenClaim := { program := "ytldpdjnedoflcaa", sum := "dccde50265c0168fd5a20eefaae63c747b7d8ae0ec8067aa231cf16233e811af", func := "loop.example/g01275/laws.FnExactCountWinningOf", spec := "fnExactCountWinningOf", unfollowed := true, recurses := true, apart := false }
def FnExactCountWinningOfSaid : Prop := fnExactCountWinningOfRow.holds Try.pinned (OpenSpec.ofChange fnExactCountWinningOfSpec)

/-- ITS FALSE NEIGHBOUR: 'it returns false'. Refute it at one input. -/
def fnExactCountWinningOfWrong : ChangeSpec := { name := "fnExactCountWinningOf", fn := fun _ => fun
  | [d1, d2] => { results := [.lit (.bool false)], args := [d1, d2] }
  | _ => none }
def FnExactCountWinningOfWrongFalsely : Prop := fnExactCountWinningOfRow.holds Try.pinned (OpenSpec.ofChange fnExactCountWinningOfWrong)

/-- 'laws.FnExactDictatorOf': WHATEVER THE INPUT: true; the input reads as it did. -/
def fnExactDictatorOfSpec : ChangeSpec := { name := "fnExactDictatorOf", fn := fun _ => fun
  | [d] => { results := [.lit (.bool true)], args := [d] }
  | _ => none }
def fnExactDictatorOfRow : OpenClaim := { program := "ytldpdjnedoflcaa", sum := "dccde50265c0168fd5a20eefaae63c747b7d8ae0ec8067aa231cf16233e811af", func := "loop.example/g01275/laws.FnExactDictatorOf", spec := "fnExactDictatorOf", unfollowed := true, recurses := true, apart := false }
def FnExactDictatorOfSaid : Prop := fnExactDictatorOfRow.holds Try.pinned (OpenSpec.ofChange fnExactDictatorOfSpec)

/-- ITS FALSE NEIGHBOUR: 'it returns false'. Refute it at one input. -/
def fnExactDictatorOfWrong : ChangeSpec := { name := "fnExactDictatorOf", fn := fun _ => fun
  | [d] => { results := [.lit (.bool false)], args := [d] }
  | _ => none }
def FnExactDictatorOfWrongFalsely : Prop := fnExactDictatorOfRow.holds Try.pinned (OpenSpec.ofChange fnExactDictatorOfWrong)

/-- 'laws.FnExactVetoMembers': WHATEVER THE INPUT: true; the input reads as it did. -/
def fnExactVetoMembersSpec : ChangeSpec := { name := "fnExactVetoMembers", fn := fun _ => fun
  | [d] => { results := [.lit (.bool true)], args := [d] }
  | _ => none }
def fnExactVetoMembersRow : OpenClaim := { program := "ytldpdjnedoflcaa", sum := "dccde50265c0168fd5a20eefaae63c747b7d8ae0ec8067aa231cf16233e811af", func := "loop.example/g01275/laws.FnExactVetoMembers", spec := "fnExactVetoMembers", unfollowed := true, recurses := true, apart := false }
def FnExactVetoMembersSaid : Prop := fnExactVetoMembersRow.holds Try.pinned (OpenSpec.ofChange fnExactVetoMembersSpec)

/-- ITS FALSE NEIGHBOUR: 'it returns false'. Refute it at one input. -/
def fnExactVetoMembersWrong : ChangeSpec := { name := "fnExactVetoMembers", fn := fun _ => fun
  | [d] => { results := [.lit (.bool false)], args := [d] }
  | _ => none }
def FnExactVetoMembersWrongFalsely : Prop := fnExactVetoMembersRow.holds Try.pinned (OpenSpec.ofChange fnExactVetoMembersWrong)

/-- 'laws.FnExactIsProper': WHATEVER THE INPUT: true; the input reads as it did. -/
def fnExactIsProperSpec : ChangeSpec := { name := "fnExactIsProper", fn := fun _ => fun
  | [d] => { results := [.lit (.bool true)], args := [d] }
  | _ => none }
def fnExactIsProperRow : OpenClaim := { program := "ytldpdjnedoflcaa", sum := "dccde50265c0168fd5a20eefaae63c747b7d8ae0ec8067aa231cf16233e811af", func := "loop.example/g01275/laws.FnExactIsProper", spec := "fnExactIsProper", unfollowed := true, recurses := true, apart := false }
def FnExactIsProperSaid : Prop := fnExactIsProperRow.holds Try.pinned (OpenSpec.ofChange fnExactIsProperSpec)

/-- ITS FALSE NEIGHBOUR: 'it returns false'. Refute it at one input. -/
def fnExactIsProperWrong : ChangeSpec := { name := "fnExactIsProper", fn := fun _ => fun
  | [d] => { results := [.lit (.bool false)], args := [d] }
  | _ => none }
def FnExactIsProperWrongFalsely : Prop := fnExactIsProperRow.holds Try.pinned (OpenSpec.ofChange fnExactIsProperWrong)

/-- 'laws.FnExactIsStrong': WHATEVER THE INPUT: true; the input reads as it did. -/
def fnExactIsStrongSpec : ChangeSpec := { name := "fnExactIsStrong", fn := fun _ => fun
  | [d] => { results := [.lit (.bool true)], args := [d] }
  | _ => none }
def fnExactIsStrongRow : OpenClaim := { program := "ytldpdjnedoflcaa", sum := "dccde50265c0168fd5a20eefaae63c747b7d8ae0ec8067aa231cf16233e811af", func := "loop.example/g01275/laws.FnExactIsStrong", spec := "fnExactIsStrong", unfollowed := true, recurses := true, apart := false }
def FnExactIsStrongSaid : Prop := fnExactIsStrongRow.holds Try.pinned (OpenSpec.ofChange fnExactIsStrongSpec)

/-- ITS FALSE NEIGHBOUR: 'it returns false'. Refute it at one input. -/
def fnExactIsStrongWrong : ChangeSpec := { name := "fnExactIsStrong", fn := fun _ => fun
  | [d] => { results := [.lit (.bool false)], args := [d] }
  | _ => none }
def FnExactIsStrongWrongFalsely : Prop := fnExactIsStrongRow.holds Try.pinned (OpenSpec.ofChange fnExactIsStrongWrong)

/-- 'laws.FnExactDualCommittee': WHATEVER THE INPUT: true; the input reads as it did. -/
def fnExactDualCommitteeSpec : ChangeSpec := { name := "fnExactDualCommittee", fn := fun _ => fun
  | [d] => { results := [.lit (.bool true)], args := [d] }
  | _ => none }
def fnExactDualCommitteeRow : OpenClaim := { program := "ytldpdjnedoflcaa", sum := "dccde50265c0168fd5a20eefaae63c747b7d8ae0ec8067aa231cf16233e811af", func := "loop.example/g01275/laws.FnExactDualCommittee", spec := "fnExactDualCommittee", apart := false }
def FnExactDualCommitteeSaid : Prop := fnExactDualCommitteeRow.holds Try.pinned (OpenSpec.ofChange fnExactDualCommitteeSpec)

/-- ITS FALSE NEIGHBOUR: 'it returns false'. Refute it at one input. -/
def fnExactDualCommitteeWrong : ChangeSpec := { name := "fnExactDualCommittee", fn := fun _ => fun
  | [d] => { results := [.lit (.bool false)], args := [d] }
  | _ => none }
def FnExactDualCommitteeWrongFalsely : Prop := fnExactDualCommitteeRow.holds Try.pinned (OpenSpec.ofChange fnExactDualCommitteeWrong)

/- THE SECOND FORM. 'bulk': how many values and letters a reading holds, each counted each time it is reached (what is shared counts as often as it is met; a slice's spare places count too). A statement '..UptoSaid' is the law's where the arguments, and the package variables that the reading takes, are together of bulk at most 1048576: NARROWER than '..Said'. Prove '..Said' where nothing that the law and all that it calls make is longer than what came in: it says more and counts as full. Else prove '..UptoSaid'. A law counts once. -/
mutual
def uptoBulk {H : Type} : DataW H → Nat
  | .lit (.string bytes) => bytes.length + 1
  | .lit _ => 1
  | .nil => 1
  | .ptr d => uptoBulk d + 1
  | .slice elems spare => uptoBulkAll elems + uptoBulkAll spare + 1
  | .agg parts => uptoBulkAll parts + 1
  | .iface _ d => uptoBulk d + 1
  | .map entries => uptoBulkEntries entries + 1
  | .held _ => 1
def uptoBulkAll {H : Type} : List (DataW H) → Nat
  | [] => 0
  | d :: r => uptoBulk d + uptoBulkAll r
def uptoBulkEntries {H : Type} : List (Lit × DataW H) → Nat
  | [] => 0
  | x :: r => uptoBulkEntry x + uptoBulkEntries r
def uptoBulkEntry {H : Type} : Lit × DataW H → Nat
  | (.string bytes, d) => bytes.length + uptoBulk d + 1
  | (_, d) => uptoBulk d + 1
 end
def uptoSmall : (H : Type) → List (DataW H) → Bool := fun _ ds => decide (uptoBulkAll ds ≤ 1048576)
def OpenSpec.upto (s : _root_.Go.ChangeSpec) : _root_.Go.OpenSpec := { _root_.Go.OpenSpec.ofChange s with cond := some uptoSmall }

/-- 'laws.FnExactIsCommittee', WHERE WHAT IT READS IS OF BULK AT MOST 1048576: true; the input reads as it did. -/
def fnExactIsCommitteeUptoRow : OpenClaim := { program := "ytldpdjnedoflcaa", sum := "dccde50265c0168fd5a20eefaae63c747b7d8ae0ec8067aa231cf16233e811af", func := "loop.example/g01275/laws.FnExactIsCommittee", spec := "fnExactIsCommittee", apart := false, narrowed := true }
def FnExactIsCommitteeUptoSaid : Prop := fnExactIsCommitteeUptoRow.holds Try.pinned (OpenSpec.upto fnExactIsCommitteeSpec)

/-- 'laws.FnExactTotalWeight', WHERE WHAT IT READS IS OF BULK AT MOST 1048576: true; the input reads as it did. -/
def fnExactTotalWeightUptoRow : OpenClaim := { program := "ytldpdjnedoflcaa", sum := "dccde50265c0168fd5a20eefaae63c747b7d8ae0ec8067aa231cf16233e811af", func := "loop.example/g01275/laws.FnExactTotalWeight", spec := "fnExactTotalWeight", apart := false, narrowed := true }
def FnExactTotalWeightUptoSaid : Prop := fnExactTotalWeightUptoRow.holds Try.pinned (OpenSpec.upto fnExactTotalWeightSpec)

/-- 'laws.FnExactWeightOfSet', WHERE WHAT IT READS IS OF BULK AT MOST 1048576: true; the input reads as it did. -/
def fnExactWeightOfSetUptoRow : OpenClaim := { program := "ytldpdjnedoflcaa", sum := "dccde50265c0168fd5a20eefaae63c747b7d8ae0ec8067aa231cf16233e811af", func := "loop.example/g01275/laws.FnExactWeightOfSet", spec := "fnExactWeightOfSet", apart := false, narrowed := true }
def FnExactWeightOfSetUptoSaid : Prop := fnExactWeightOfSetUptoRow.holds Try.pinned (OpenSpec.upto fnExactWeightOfSetSpec)

/-- 'laws.FnExactIsWinning', WHERE WHAT IT READS IS OF BULK AT MOST 1048576: true; the input reads as it did. -/
def fnExactIsWinningUptoRow : OpenClaim := { program := "ytldpdjnedoflcaa", sum := "dccde50265c0168fd5a20eefaae63c747b7d8ae0ec8067aa231cf16233e811af", func := "loop.example/g01275/laws.FnExactIsWinning", spec := "fnExactIsWinning", apart := false, narrowed := true }
def FnExactIsWinningUptoSaid : Prop := fnExactIsWinningUptoRow.holds Try.pinned (OpenSpec.upto fnExactIsWinningSpec)

/-- 'laws.FnExactIsBlocking', WHERE WHAT IT READS IS OF BULK AT MOST 1048576: true; the input reads as it did. -/
def fnExactIsBlockingUptoRow : OpenClaim := { program := "ytldpdjnedoflcaa", sum := "dccde50265c0168fd5a20eefaae63c747b7d8ae0ec8067aa231cf16233e811af", func := "loop.example/g01275/laws.FnExactIsBlocking", spec := "fnExactIsBlocking", apart := false, narrowed := true }
def FnExactIsBlockingUptoSaid : Prop := fnExactIsBlockingUptoRow.holds Try.pinned (OpenSpec.upto fnExactIsBlockingSpec)

/-- 'laws.FnExactCountWinning', WHERE WHAT IT READS IS OF BULK AT MOST 1048576: true; the input reads as it did. -/
def fnExactCountWinningUptoRow : OpenClaim := { program := "ytldpdjnedoflcaa", sum := "dccde50265c0168fd5a20eefaae63c747b7d8ae0ec8067aa231cf16233e811af", func := "loop.example/g01275/laws.FnExactCountWinning", spec := "fnExactCountWinning", unfollowed := true, recurses := true, apart := false, narrowed := true }
def FnExactCountWinningUptoSaid : Prop := fnExactCountWinningUptoRow.holds Try.pinned (OpenSpec.upto fnExactCountWinningSpec)

/-- 'laws.FnExactCountWinningOf', WHERE WHAT IT READS IS OF BULK AT MOST 1048576: true; the input reads as it did. -/
def fnExactCountWinningOfUptoRow : OpenClaim := { program := "ytldpdjnedoflcaa", sum := "dccde50265c0168fd5a20eefaae63c747b7d8ae0ec8067aa231cf16233e811af", func := "loop.example/g01275/laws.FnExactCountWinningOf", spec := "fnExactCountWinningOf", unfollowed := true, recurses := true, apart := false, narrowed := true }
def FnExactCountWinningOfUptoSaid : Prop := fnExactCountWinningOfUptoRow.holds Try.pinned (OpenSpec.upto fnExactCountWinningOfSpec)

/-- 'laws.FnExactDictatorOf', WHERE WHAT IT READS IS OF BULK AT MOST 1048576: true; the input reads as it did. -/
def fnExactDictatorOfUptoRow : OpenClaim := { program := "ytldpdjnedoflcaa", sum := "dccde50265c0168fd5a20eefaae63c747b7d8ae0ec8067aa231cf16233e811af", func := "loop.example/g01275/laws.FnExactDictatorOf", spec := "fnExactDictatorOf", unfollowed := true, recurses := true, apart := false, narrowed := true }
def FnExactDictatorOfUptoSaid : Prop := fnExactDictatorOfUptoRow.holds Try.pinned (OpenSpec.upto fnExactDictatorOfSpec)

/-- 'laws.FnExactVetoMembers', WHERE WHAT IT READS IS OF BULK AT MOST 1048576: true; the input reads as it did. -/
def fnExactVetoMembersUptoRow : OpenClaim := { program := "ytldpdjnedoflcaa", sum := "dccde50265c0168fd5a20eefaae63c747b7d8ae0ec8067aa231cf16233e811af", func := "loop.example/g01275/laws.FnExactVetoMembers", spec := "fnExactVetoMembers", unfollowed := true, recurses := true, apart := false, narrowed := true }
def FnExactVetoMembersUptoSaid : Prop := fnExactVetoMembersUptoRow.holds Try.pinned (OpenSpec.upto fnExactVetoMembersSpec)

/-- 'laws.FnExactIsProper', WHERE WHAT IT READS IS OF BULK AT MOST 1048576: true; the input reads as it did. -/
def fnExactIsProperUptoRow : OpenClaim := { program := "ytldpdjnedoflcaa", sum := "dccde50265c0168fd5a20eefaae63c747b7d8ae0ec8067aa231cf16233e811af", func := "loop.example/g01275/laws.FnExactIsProper", spec := "fnExactIsProper", unfollowed := true, recurses := true, apart := false, narrowed := true }
def FnExactIsProperUptoSaid : Prop := fnExactIsProperUptoRow.holds Try.pinned (OpenSpec.upto fnExactIsProperSpec)

/-- 'laws.FnExactIsStrong', WHERE WHAT IT READS IS OF BULK AT MOST 1048576: true; the input reads as it did. -/
def fnExactIsStrongUptoRow : OpenClaim := { program := "ytldpdjnedoflcaa", sum := "dccde50265c0168fd5a20eefaae63c747b7d8ae0ec8067aa231cf16233e811af", func := "loop.example/g01275/laws.FnExactIsStrong", spec := "fnExactIsStrong", unfollowed := true, recurses := true, apart := false, narrowed := true }
def FnExactIsStrongUptoSaid : Prop := fnExactIsStrongUptoRow.holds Try.pinned (OpenSpec.upto fnExactIsStrongSpec)

/-- 'laws.FnExactDualCommittee', WHERE WHAT IT READS IS OF BULK AT MOST 1048576: true; the input reads as it did. -/
def fnExactDualCommitteeUptoRow : OpenClaim := { program := "ytldpdjnedoflcaa", sum := "dccde50265c0168fd5a20eefaae63c747b7d8ae0ec8067aa231cf16233e811af", func := "loop.example/g01275/laws.FnExactDualCommittee", spec := "fnExactDualCommittee", apart := false, narrowed := true }
def FnExactDualCommitteeUptoSaid : Prop := fnExactDualCommitteeUptoRow.holds Try.pinned (OpenSpec.upto fnExactDualCommitteeSpec)

end Rows
end Go.Proofs.Ytldpdjnedoflcaa
