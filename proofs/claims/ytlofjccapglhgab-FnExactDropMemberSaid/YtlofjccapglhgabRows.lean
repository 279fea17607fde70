/-
  No cell of these rows narrows 'for every input' (looked for: loops, veiled, ifaces, maps, wideKeys, modest, calm, conditions, laid).
  DERIVED. THE GIVEN ROWS OF THIS SEAT. 7 by the template 'for every input the law returns true; each argument reads behind the call as it read before'; 0 by the template 'total and deterministic' (their statements: YtlofjccapglhgabTotals.lean).
  GIVEN WITH THE SEED: the statements are not yours to turn. If you find one false, say at which input.
  Laid BY PROGRAM, IN A SANDBOX (cutbox-rows.mjs): the forced cells as the released guide's own fill.sh prints them over the translation 4acc51d07d8b0564… (all of the seat's roots in one cut). By AI agents, Wed Nov 11 2026. No macro, syntax, notation, axiom, sorry.
-/
import Derived.Test.YtlofjccapglhgabChecked
import GoSem.Claim
import GoSem.ClaimJoined
import GoSem.ClaimMapViews
import Derived.JoinedTies
import Derived.KernelRfl
namespace Go.Proofs.Ytlofjccapglhgab
/- THE CELL 'sum', in the pinned program and in every row, IS THE sha256 OF THE DUMP (.gsa) THAT YtlofjccapglhgabProg.lean LOADS. Nothing in Lean hashes anything: it is a label: what it is worth is what the hold of that sum in a sandbox is worth. -/
noncomputable def Try.pinned : Pinned := { name := "ytlofjccapglhgab", sum := "4acc51d07d8b056447e8e03fbbdb2547c256ea740effea5f9f1482a8522d5263", checked := Try.checked }
namespace Rows
def none {H : Type} : Left H := { results := [], args := [] }

/-- 'laws.FnExactDummyQuotas': WHATEVER THE INPUT: true; the input reads as it did. -/
def fnExactDummyQuotasSpec : ChangeSpec := { name := "fnExactDummyQuotas", fn := fun _ => fun
  | [d1, d2] => { results := [.lit (.bool true)], args := [d1, d2] }
  | _ => none }
def fnExactDummyQuotasRow : OpenClaim := { program := "ytlofjccapglhgab", sum := "4acc51d07d8b056447e8e03fbbdb2547c256ea740effea5f9f1482a8522d5263", func := "loop.example/g01275/laws.FnExactDummyQuotas", spec := "fnExactDummyQuotas", inPlace := ["(*sync.WaitGroup).Go", "(*sync.WaitGroup).Add", "internal/race.ReleaseMerge", "internal/race.Disable", "internal/race.Enable", "internal/synctest.IsInBubble", "internal/synctest.Associate[sync.WaitGroup]", "sync.fatal", "sync/atomic.OrUint64", "sync/atomic.AddUint64", "internal/race.Read", "sync/atomic.LoadUint64", "sync/atomic.StoreUint64", "internal/synctest.Disassociate[sync.WaitGroup]", "sync.runtime_Semrelease", "(*sync.WaitGroup).Go$1", "(*sync.WaitGroup).Go$1$1", "(*sync.WaitGroup).Done", "(*sync.WaitGroup).Wait", "internal/race.Acquire", "internal/synctest.IsAssociated[sync.WaitGroup]", "sync/atomic.CompareAndSwapUint64", "internal/race.Write", "sync.runtime_SemacquireWaitGroup"], unfollowed := true, recurses := true, leaving := true, apart := false }
def FnExactDummyQuotasSaid : Prop := fnExactDummyQuotasRow.holds Try.pinned (OpenSpec.ofChange fnExactDummyQuotasSpec)

/-- ITS FALSE NEIGHBOUR: 'it returns false'. Refute it at one input. -/
def fnExactDummyQuotasWrong : ChangeSpec := { name := "fnExactDummyQuotas", fn := fun _ => fun
  | [d1, d2] => { results := [.lit (.bool false)], args := [d1, d2] }
  | _ => none }
def FnExactDummyQuotasWrongFalsely : Prop := fnExactDummyQuotasRow.holds Try.pinned (OpenSpec.ofChange fnExactDummyQuotasWrong)

/-- 'laws.FnExactVetoQuotas': WHATEVER THE INPUT: true; the input reads as it did. -/
def fnExactVetoQuotasSpec : ChangeSpec := { name := "fnExactVetoQuotas", fn := fun _ => fun
  | [d1, d2] => { results := [.lit (.bool true)], args := [d1, d2] }
  | _ => none }
def fnExactVetoQuotasRow : OpenClaim := { program := "ytlofjccapglhgab", sum := "4acc51d07d8b056447e8e03fbbdb2547c256ea740effea5f9f1482a8522d5263", func := "loop.example/g01275/laws.FnExactVetoQuotas", spec := "fnExactVetoQuotas", inPlace := ["(*sync.WaitGroup).Go", "(*sync.WaitGroup).Add", "internal/race.ReleaseMerge", "internal/race.Disable", "internal/race.Enable", "internal/synctest.IsInBubble", "internal/synctest.Associate[sync.WaitGroup]", "sync.fatal", "sync/atomic.OrUint64", "sync/atomic.AddUint64", "internal/race.Read", "sync/atomic.LoadUint64", "sync/atomic.StoreUint64", "internal/synctest.Disassociate[sync.WaitGroup]", "sync.runtime_Semrelease", "(*sync.WaitGroup).Go$1", "(*sync.WaitGroup).Go$1$1", "(*sync.WaitGroup).Done", "(*sync.WaitGroup).Wait", "internal/race.Acquire", "internal/synctest.IsAssociated[sync.WaitGroup]", "sync/atomic.CompareAndSwapUint64", "internal/race.Write", "sync.runtime_SemacquireWaitGroup"], unfollowed := true, recurses := true, leaving := true, apart := false }
def FnExactVetoQuotasSaid : Prop := fnExactVetoQuotasRow.holds Try.pinned (OpenSpec.ofChange fnExactVetoQuotasSpec)

/-- ITS FALSE NEIGHBOUR: 'it returns false'. Refute it at one input. -/
def fnExactVetoQuotasWrong : ChangeSpec := { name := "fnExactVetoQuotas", fn := fun _ => fun
  | [d1, d2] => { results := [.lit (.bool false)], args := [d1, d2] }
  | _ => none }
def FnExactVetoQuotasWrongFalsely : Prop := fnExactVetoQuotasRow.holds Try.pinned (OpenSpec.ofChange fnExactVetoQuotasWrong)

/-- 'laws.FnExactFarthestOff': WHATEVER THE INPUT: true; the input reads as it did. -/
def fnExactFarthestOffSpec : ChangeSpec := { name := "fnExactFarthestOff", fn := fun _ => fun
  | [d] => { results := [.lit (.bool true)], args := [d] }
  | _ => none }
def fnExactFarthestOffRow : OpenClaim := { program := "ytlofjccapglhgab", sum := "4acc51d07d8b056447e8e03fbbdb2547c256ea740effea5f9f1482a8522d5263", func := "loop.example/g01275/laws.FnExactFarthestOff", spec := "fnExactFarthestOff", unfollowed := true, recurses := true, leaving := true, apart := false }
def FnExactFarthestOffSaid : Prop := fnExactFarthestOffRow.holds Try.pinned (OpenSpec.ofChange fnExactFarthestOffSpec)

/-- ITS FALSE NEIGHBOUR: 'it returns false'. Refute it at one input. -/
def fnExactFarthestOffWrong : ChangeSpec := { name := "fnExactFarthestOff", fn := fun _ => fun
  | [d] => { results := [.lit (.bool false)], args := [d] }
  | _ => none }
def FnExactFarthestOffWrongFalsely : Prop := fnExactFarthestOffRow.holds Try.pinned (OpenSpec.ofChange fnExactFarthestOffWrong)

/-- 'laws.FnExactRootCommittee': WHATEVER THE INPUT: true; the input reads as it did. -/
def fnExactRootCommitteeSpec : ChangeSpec := { name := "fnExactRootCommittee", fn := fun _ => fun
  | [d] => { results := [.lit (.bool true)], args := [d] }
  | _ => none }
def fnExactRootCommitteeRow : OpenClaim := { program := "ytlofjccapglhgab", sum := "4acc51d07d8b056447e8e03fbbdb2547c256ea740effea5f9f1482a8522d5263", func := "loop.example/g01275/laws.FnExactRootCommittee", spec := "fnExactRootCommittee", inPlace := ["math.sqrt"], apart := false }
def FnExactRootCommitteeSaid : Prop := fnExactRootCommitteeRow.holds Try.pinned (OpenSpec.ofChange fnExactRootCommitteeSpec)

/-- ITS FALSE NEIGHBOUR: 'it returns false'. Refute it at one input. -/
def fnExactRootCommitteeWrong : ChangeSpec := { name := "fnExactRootCommittee", fn := fun _ => fun
  | [d] => { results := [.lit (.bool false)], args := [d] }
  | _ => none }
def FnExactRootCommitteeWrongFalsely : Prop := fnExactRootCommitteeRow.holds Try.pinned (OpenSpec.ofChange fnExactRootCommitteeWrong)

/-- 'laws.FnExactRootQuota': WHATEVER THE INPUT: true; the input reads as it did. -/
def fnExactRootQuotaSpec : ChangeSpec := { name := "fnExactRootQuota", fn := fun _ => fun
  | [d] => { results := [.lit (.bool true)], args := [d] }
  | _ => none }
def fnExactRootQuotaRow : OpenClaim := { program := "ytlofjccapglhgab", sum := "4acc51d07d8b056447e8e03fbbdb2547c256ea740effea5f9f1482a8522d5263", func := "loop.example/g01275/laws.FnExactRootQuota", spec := "fnExactRootQuota", inPlace := ["math.sqrt"], apart := false }
def FnExactRootQuotaSaid : Prop := fnExactRootQuotaRow.holds Try.pinned (OpenSpec.ofChange fnExactRootQuotaSpec)

/-- ITS FALSE NEIGHBOUR: 'it returns false'. Refute it at one input. -/
def fnExactRootQuotaWrong : ChangeSpec := { name := "fnExactRootQuota", fn := fun _ => fun
  | [d] => { results := [.lit (.bool false)], args := [d] }
  | _ => none }
def FnExactRootQuotaWrongFalsely : Prop := fnExactRootQuotaRow.holds Try.pinned (OpenSpec.ofChange fnExactRootQuotaWrong)

/-- 'laws.FnExactDropMember': WHATEVER THE INPUT: true; the input reads as it did. -/
def fnExactDropMemberSpec : ChangeSpec := { name := "fnExactDropMember", fn := fun _ => fun
  | [d1, d2] => { results := [.lit (.bool true)], args := [d1, d2] }
  | _ => none }
def fnExactDropMemberRow : OpenClaim := { program := "ytlofjccapglhgab", sum := "4acc51d07d8b056447e8e03fbbdb2547c256ea740effea5f9f1482a8522d5263", func := "loop.example/g01275/laws.FnExactDropMember", spec := "fnExactDropMember", apart := false }
def FnExactDropMemberSaid : Prop := fnExactDropMemberRow.holds Try.pinned (OpenSpec.ofChange fnExactDropMemberSpec)

/-- ITS FALSE NEIGHBOUR: 'it returns false'. Refute it at one input. -/
def fnExactDropMemberWrong : ChangeSpec := { name := "fnExactDropMember", fn := fun _ => fun
  | [d1, d2] => { results := [.lit (.bool false)], args := [d1, d2] }
  | _ => none }
def FnExactDropMemberWrongFalsely : Prop := fnExactDropMemberRow.holds Try.pinned (OpenSpec.ofChange fnExactDropMemberWrong)

/-- 'laws.FnExactParseCommittee': WHATEVER THE INPUT: true; the input reads as it did. -/
def fnExactParseCommitteeSpec : ChangeSpec := { name := "fnExactParseCommittee", fn := fun _ => fun
  | [d] => { results := [.lit (.bool true)], args := [d] }
  | _ => none }
def fnExactParseCommitteeRow : OpenClaim := { program := "ytlofjccapglhgab", sum := "4acc51d07d8b056447e8e03fbbdb2547c256ea740effea5f9f1482a8522d5263", func := "loop.example/g01275/laws.FnExactParseCommittee", spec := "fnExactParseCommittee", recurses := true, apart := false }
def FnExactParseCommitteeSaid : Prop := fnExactParseCommitteeRow.holds Try.pinned (OpenSpec.ofChange fnExactParseCommitteeSpec)

/-- ITS FALSE NEIGHBOUR: 'it returns false'. Refute it at one input. -/
def fnExactParseCommitteeWrong : ChangeSpec := { name := "fnExactParseCommittee", fn := fun _ => fun
  | [d] => { results := [.lit (.bool false)], args := [d] }
  | _ => none }
def FnExactParseCommitteeWrongFalsely : Prop := fnExactParseCommitteeRow.holds Try.pinned (OpenSpec.ofChange fnExactParseCommitteeWrong)

/- THE SECOND FORM. 'bulk': how many values and letters a reading holds, each counted each time it is reached (what is shared counts as often as it is met; a slice's spare places count too). A statement '..UptoSaid' is the law's where the arguments, and the package variables that the reading takes, are together of bulk at most 1048576: NARROWER than '..Said'. Prove '..Said' where nothing that the law and all that it calls make is longer than what came in: it says more and counts as full. Else prove '..UptoSaid'. A law counts once. -/
mutual
def uptoBulk {H : Type} : DataW H → Nat
  | .lit (.string bytes) => bytes.length + 1
  | .lit _ => 1
  | .nil => 1
  | .ptr d => uptoBulk d + 1
  | .slice elems spare => uptoBulkAll elems + uptoBulkAll spare + 1
  | .agg parts => uptoBulkAll parts + 1
  | .iface _ d => uptoBulk d + 1
  | .map entries => uptoBulkEntries entries + 1
  | .held _ => 1
def uptoBulkAll {H : Type} : List (DataW H) → Nat
  | [] => 0
  | d :: r => uptoBulk d + uptoBulkAll r
def uptoBulkEntries {H : Type} : List (Lit × DataW H) → Nat
  | [] => 0
  | x :: r => uptoBulkEntry x + uptoBulkEntries r
def uptoBulkEntry {H : Type} : Lit × DataW H → Nat
  | (.string bytes, d) => bytes.length + uptoBulk d + 1
  | (_, d) => uptoBulk d + 1
 end
def uptoSmall : (H : Type) → List (DataW H) → Bool := fun _ ds => decide (uptoBulkAll ds ≤ 1048576)
def OpenSpec.upto (s : _root_.Go.ChangeSpec) : _root_.Go.OpenSpec := { _root_.Go.OpenSpec.ofChange s with cond := some uptoSmall }

/-- 'laws.FnExactDummyQuotas', WHERE WHAT IT READS IS OF BULK AT MOST 1048576: true; the input reads as it did. -/
def fnExactDummyQuotasUptoRow : OpenClaim := { program := "ytlofjccapglhgab", sum := "4acc51d07d8b056447e8e03fbbdb2547c256ea740effea5f9f1482a8522d5263", func := "loop.example/g01275/laws.FnExactDummyQuotas", spec := "fnExactDummyQuotas", inPlace := ["(*sync.WaitGroup).Go", "(*sync.WaitGroup).Add", "internal/race.ReleaseMerge", "internal/race.Disable", "internal/race.Enable", "internal/synctest.IsInBubble", "internal/synctest.Associate[sync.WaitGroup]", "sync.fatal", "sync/atomic.OrUint64", "sync/atomic.AddUint64", "internal/race.Read", "sync/atomic.LoadUint64", "sync/atomic.StoreUint64", "internal/synctest.Disassociate[sync.WaitGroup]", "sync.runtime_Semrelease", "(*sync.WaitGroup).Go$1", "(*sync.WaitGroup).Go$1$1", "(*sync.WaitGroup).Done", "(*sync.WaitGroup).Wait", "internal/race.Acquire", "internal/synctest.IsAssociated[sync.WaitGroup]", "sync/atomic.CompareAndSwapUint64", "internal/race.Write", "sync.runtime_SemacquireWaitGroup"], unfollowed := true, recurses := true, leaving := true, apart := false, narrowed := true }
def FnExactDummyQuotasUptoSaid : Prop := fnExactDummyQuotasUptoRow.holds Try.pinned (OpenSpec.upto fnExactDummyQuotasSpec)

/-- 'laws.FnExactVetoQuotas', WHERE WHAT IT READS IS OF BULK AT MOST 1048576: true; the input reads as it did. -/
def fnExactVetoQuotasUptoRow : OpenClaim := { program := "ytlofjccapglhgab", sum := "4acc51d07d8b056447e8e03fbbdb2547c256ea740effea5f9f1482a8522d5263", func := "loop.example/g01275/laws.FnExactVetoQuotas", spec := "fnExactVetoQuotas", inPlace := ["(*sync.WaitGroup).Go", "(*sync.WaitGroup).Add", "internal/race.ReleaseMerge", "internal/race.Disable", "internal/race.Enable", "internal/synctest.IsInBubble", "internal/synctest.Associate[sync.WaitGroup]", "sync.fatal", "sync/atomic.OrUint64", "sync/atomic.AddUint64", "internal/race.Read", "sync/atomic.LoadUint64", "sync/atomic.StoreUint64", "internal/synctest.Disassociate[sync.WaitGroup]", "sync.runtime_Semrelease", "(*sync.WaitGroup).Go$1", "(*sync.WaitGroup).Go$1$1", "(*sync.WaitGroup).Done", "(*sync.WaitGroup).Wait", "internal/race.Acquire", "internal/synctest.IsAssociated[sync.WaitGroup]", "sync/atomic.CompareAndSwapUint64", "internal/race.Write", "sync.runtime_SemacquireWaitGroup"], unfollowed := true, recurses := true, leaving := true, apart := false, narrowed := true }
def FnExactVetoQuotasUptoSaid : Prop := fnExactVetoQuotasUptoRow.holds Try.pinned (OpenSpec.upto fnExactVetoQuotasSpec)

/-- 'laws.FnExactFarthestOff', WHERE WHAT IT READS IS OF BULK AT MOST 1048576: true; the input reads as it did. -/
def fnExactFarthestOffUptoRow : OpenClaim := { program := "ytlofjccapglhgab", sum := "4acc51d07d8b056447e8e03fbbdb2547c256ea740effea5f9f1482a8522d5263", func := "loop.example/g01275/laws.FnExactFarthestOff", spec := "fnExactFarthestOff", unfollowed := true, recurses := true, leaving := true, apart := false, narrowed := true }
def FnExactFarthestOffUptoSaid : Prop := fnExactFarthestOffUptoRow.holds Try.pinned (OpenSpec.upto fnExactFarthestOffSpec)

/-- 'laws.FnExactRootCommittee', WHERE WHAT IT READS IS OF BULK AT MOST 1048576: true; the input reads as it did. -/
def fnExactRootCommitteeUptoRow : OpenClaim := { program := "ytlofjccapglhgab", sum := "4acc51d07d8b056447e8e03fbbdb2547c256ea740effea5f9f1482a8522d5263", func := "loop.example/g01275/laws.FnExactRootCommittee", spec := "fnExactRootCommittee", inPlace := ["math.sqrt"], apart := false, narrowed := true }
def FnExactRootCommitteeUptoSaid : Prop := fnExactRootCommitteeUptoRow.holds Try.pinned (OpenSpec.upto fnExactRootCommitteeSpec)

/-- 'laws.FnExactRootQuota', WHERE WHAT IT READS IS OF BULK AT MOST 1048576: true; the input reads as it did. -/
def fnExactRootQuotaUptoRow : OpenClaim := { program := "ytlofjccapglhgab", sum := "4acc51d07d8b056447e8e03fbbdb2547c256ea740effea5f9f1482a8522d5263", func := "loop.example/g01275/laws.FnExactRootQuota", spec := "fnExactRootQuota", inPlace := ["math.sqrt"], apart := false, narrowed := true }
def FnExactRootQuotaUptoSaid : Prop := fnExactRootQuotaUptoRow.holds Try.pinned (OpenSpec.upto fnExactRootQuotaSpec)

/-- 'laws.FnExactDropMember', WHERE WHAT IT READS IS OF BULK AT MOST 1048576: true; the input reads as it did. -/
def fnExactDropMemberUptoRow : OpenClaim := { program := "ytlofjccapglhgab", sum := "4acc51d07d8b056447e8e03fbbdb2547c256ea740effea5f9f1482a8522d5263", func := "loop.example/g01275/laws.FnExactDropMember", spec := "fnExactDropMember", apart := false, narrowed := true }
def FnExactDropMemberUptoSaid : Prop := fnExactDropMemberUptoRow.holds Try.pinned (OpenSpec.upto fnExactDropMemberSpec)

/-- 'laws.FnExactParseCommittee', WHERE WHAT IT READS IS OF BULK AT MOST 1048576: true; the input reads as it did. -/
def fnExactParseCommitteeUptoRow : OpenClaim := { program := "ytlofjccapglhgab", sum := "4acc51d07d8b056447e8e03fbbdb2547c256ea740effea5f9f1482a8522d5263", func := "loop.example/g01275/laws.FnExactParseCommittee", spec := "fnExactParseCommittee", recurses := true, apart := false, narrowed := true }
def FnExactParseCommitteeUptoSaid : Prop := fnExactParseCommitteeUptoRow.holds Try.pinned (OpenSpec.upto fnExactParseCommitteeSpec)

end Rows
end Go.Proofs.Ytlofjccapglhgab
