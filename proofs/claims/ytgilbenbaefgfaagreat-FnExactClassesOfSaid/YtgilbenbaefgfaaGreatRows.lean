/-
  No cell of these rows narrows 'for every input' (looked for: loops, veiled, ifaces, maps, wideKeys, modest, calm, conditions, laid).
  DERIVED. THE GIVEN ROWS OF THIS SEAT. 4 by the template 'for every input the law returns true; each argument reads behind the call as it read before'; 0 by the template 'total and deterministic' (their statements: YtgilbenbaefgfaaGreatTotals.lean).
  GIVEN WITH THE SEED: the statements are not yours to turn. If you find one false, say at which input.
  Laid BY PROGRAM, IN A SANDBOX (cutbox-rows.mjs): the forced cells as the released guide's own fill.sh prints them over the translation ac9849a06905834b… (all of the seat's roots in one cut). By AI agents, Wed Nov 11 2026. No macro, syntax, notation, axiom, sorry.
-/
import Derived.Test.YtgilbenbaefgfaaGreatChecked
import GoSem.Claim
import GoSem.ClaimJoined
import GoSem.ClaimMapViews
import Derived.JoinedTies
import Derived.KernelRfl
namespace Go.Proofs.YtgilbenbaefgfaaGreat
/- THE CELL 'sum', in the pinned program and in every row, IS THE sha256 OF THE DUMP (.gsa) THAT YtgilbenbaefgfaaGreatProg.lean LOADS. Nothing in Lean hashes anything: it is a label: what it is worth is what the hold of that sum in a sandbox is worth. -/
noncomputable def Tryz.pinned : Pinned := { name := "ytgilbenbaefgfaagreat", sum := "ac9849a06905834b6ca6317d01e8434537ad55810fa46eb72c8638a30fb7d8d0", checked := Tryz.checked }
namespace Rows
def none {H : Type} : Left H := { results := [], args := [] }

/-- 'laws.FnExactClassesOf': WHATEVER THE INPUT: true; the input reads as it did. -/
def fnExactClassesOfSpec : ChangeSpec := { name := "fnExactClassesOf", fn := fun _ => fun
  | [d] => { results := [.lit (.bool true)], args := [d] }
  | _ => none }
def fnExactClassesOfRow : OpenClaim := { program := "ytgilbenbaefgfaagreat", sum := "ac9849a06905834b6ca6317d01e8434537ad55810fa46eb72c8638a30fb7d8d0", func := "loop.example/g01275/laws.FnExactClassesOf", spec := "fnExactClassesOf", unfollowed := true, recurses := true, plainKeys := false, apart := false }
def FnExactClassesOfSaid : Prop := fnExactClassesOfRow.holds Tryz.pinned (OpenSpec.ofChange fnExactClassesOfSpec)

/-- ITS FALSE NEIGHBOUR: 'it returns false'. Refute it at one input. -/
def fnExactClassesOfWrong : ChangeSpec := { name := "fnExactClassesOf", fn := fun _ => fun
  | [d] => { results := [.lit (.bool false)], args := [d] }
  | _ => none }
def FnExactClassesOfWrongFalsely : Prop := fnExactClassesOfRow.holds Tryz.pinned (OpenSpec.ofChange fnExactClassesOfWrong)

/-- 'laws.FnExactOrderOfWorth': WHATEVER THE INPUT: true; the input reads as it did. -/
def fnExactOrderOfWorthSpec : ChangeSpec := { name := "fnExactOrderOfWorth", fn := fun _ => fun
  | [d] => { results := [.lit (.bool true)], args := [d] }
  | _ => none }
def fnExactOrderOfWorthRow : OpenClaim := { program := "ytgilbenbaefgfaagreat", sum := "ac9849a06905834b6ca6317d01e8434537ad55810fa46eb72c8638a30fb7d8d0", func := "loop.example/g01275/laws.FnExactOrderOfWorth", spec := "fnExactOrderOfWorth", unfollowed := true, recurses := true, plainKeys := false, apart := false }
def FnExactOrderOfWorthSaid : Prop := fnExactOrderOfWorthRow.holds Tryz.pinned (OpenSpec.ofChange fnExactOrderOfWorthSpec)

/-- ITS FALSE NEIGHBOUR: 'it returns false'. Refute it at one input. -/
def fnExactOrderOfWorthWrong : ChangeSpec := { name := "fnExactOrderOfWorth", fn := fun _ => fun
  | [d] => { results := [.lit (.bool false)], args := [d] }
  | _ => none }
def FnExactOrderOfWorthWrongFalsely : Prop := fnExactOrderOfWorthRow.holds Tryz.pinned (OpenSpec.ofChange fnExactOrderOfWorthWrong)

/-- 'laws.FnExactShiftLeast': WHATEVER THE INPUT: true; the input reads as it did. -/
def fnExactShiftLeastSpec : ChangeSpec := { name := "fnExactShiftLeast", fn := fun _ => fun
  | [d] => { results := [.lit (.bool true)], args := [d] }
  | _ => none }
def fnExactShiftLeastRow : OpenClaim := { program := "ytgilbenbaefgfaagreat", sum := "ac9849a06905834b6ca6317d01e8434537ad55810fa46eb72c8638a30fb7d8d0", func := "loop.example/g01275/laws.FnExactShiftLeast", spec := "fnExactShiftLeast", unfollowed := true, recurses := true, plainKeys := false, apart := false }
def FnExactShiftLeastSaid : Prop := fnExactShiftLeastRow.holds Tryz.pinned (OpenSpec.ofChange fnExactShiftLeastSpec)

/-- ITS FALSE NEIGHBOUR: 'it returns false'. Refute it at one input. -/
def fnExactShiftLeastWrong : ChangeSpec := { name := "fnExactShiftLeast", fn := fun _ => fun
  | [d] => { results := [.lit (.bool false)], args := [d] }
  | _ => none }
def FnExactShiftLeastWrongFalsely : Prop := fnExactShiftLeastRow.holds Tryz.pinned (OpenSpec.ofChange fnExactShiftLeastWrong)

/-- 'laws.FnExactShiftGreatest': WHATEVER THE INPUT: true; the input reads as it did. -/
def fnExactShiftGreatestSpec : ChangeSpec := { name := "fnExactShiftGreatest", fn := fun _ => fun
  | [d] => { results := [.lit (.bool true)], args := [d] }
  | _ => none }
def fnExactShiftGreatestRow : OpenClaim := { program := "ytgilbenbaefgfaagreat", sum := "ac9849a06905834b6ca6317d01e8434537ad55810fa46eb72c8638a30fb7d8d0", func := "loop.example/g01275/laws.FnExactShiftGreatest", spec := "fnExactShiftGreatest", unfollowed := true, recurses := true, plainKeys := false, apart := false }
def FnExactShiftGreatestSaid : Prop := fnExactShiftGreatestRow.holds Tryz.pinned (OpenSpec.ofChange fnExactShiftGreatestSpec)

/-- ITS FALSE NEIGHBOUR: 'it returns false'. Refute it at one input. -/
def fnExactShiftGreatestWrong : ChangeSpec := { name := "fnExactShiftGreatest", fn := fun _ => fun
  | [d] => { results := [.lit (.bool false)], args := [d] }
  | _ => none }
def FnExactShiftGreatestWrongFalsely : Prop := fnExactShiftGreatestRow.holds Tryz.pinned (OpenSpec.ofChange fnExactShiftGreatestWrong)

/- THE SECOND FORM. 'bulk': how many values and letters a reading holds, each counted each time it is reached (what is shared counts as often as it is met; a slice's spare places count too). A statement '..UptoSaid' is the law's where the arguments, and the package variables that the reading takes, are together of bulk at most 1048576: NARROWER than '..Said'. Prove '..Said' where nothing that the law and all that it calls make is longer than what came in: it says more and counts as full. Else prove '..UptoSaid'. A law counts once. -/
mutual
def uptoBulk {H : Type} : DataW H → Nat
  | .lit (.string bytes) => bytes.length + 1
  | .lit _ => 1
  | .nil => 1
  | .ptr d => uptoBulk d + 1
  | .slice elems spare => uptoBulkAll elems + uptoBulkAll spare + 1
  | .agg parts => uptoBulkAll parts + 1
  | .iface _ d => uptoBulk d + 1
  | .map entries => uptoBulkEntries entries + 1
  | .held _ => 1
def uptoBulkAll {H : Type} : List (DataW H) → Nat
  | [] => 0
  | d :: r => uptoBulk d + uptoBulkAll r
def uptoBulkEntries {H : Type} : List (Lit × DataW H) → Nat
  | [] => 0
  | x :: r => uptoBulkEntry x + uptoBulkEntries r
def uptoBulkEntry {H : Type} : Lit × DataW H → Nat
  | (.string bytes, d) => bytes.length + uptoBulk d + 1
  | (_, d) => uptoBulk d + 1
 end
def uptoSmall : (H : Type) → List (DataW H) → Bool := fun _ ds => decide (uptoBulkAll ds ≤ 1048576)
def OpenSpec.upto (s : _root_.Go.ChangeSpec) : _root_.Go.OpenSpec := { _root_.Go.OpenSpec.ofChange s with cond := some uptoSmall }

/-- 'laws.FnExactClassesOf', WHERE WHAT IT READS IS OF BULK AT MOST 1048576: true; the input reads as it did. -/
def fnExactClassesOfUptoRow : OpenClaim := { program := "ytgilbenbaefgfaagreat", sum := "ac9849a06905834b6ca6317d01e8434537ad55810fa46eb72c8638a30fb7d8d0", func := "loop.example/g01275/laws.FnExactClassesOf", spec := "fnExactClassesOf", unfollowed := true, recurses := true, plainKeys := false, apart := false, narrowed := true }
def FnExactClassesOfUptoSaid : Prop := fnExactClassesOfUptoRow.holds Tryz.pinned (OpenSpec.upto fnExactClassesOfSpec)

/-- 'laws.FnExactOrderOfWorth', WHERE WHAT IT READS IS OF BULK AT MOST 1048576: true; the input reads as it did. -/
def fnExactOrderOfWorthUptoRow : OpenClaim := { program := "ytgilbenbaefgfaagreat", sum := "ac9849a06905834b6ca6317d01e8434537ad55810fa46eb72c8638a30fb7d8d0", func := "loop.example/g01275/laws.FnExactOrderOfWorth", spec := "fnExactOrderOfWorth", unfollowed := true, recurses := true, plainKeys := false, apart := false, narrowed := true }
def FnExactOrderOfWorthUptoSaid : Prop := fnExactOrderOfWorthUptoRow.holds Tryz.pinned (OpenSpec.upto fnExactOrderOfWorthSpec)

/-- 'laws.FnExactShiftLeast', WHERE WHAT IT READS IS OF BULK AT MOST 1048576: true; the input reads as it did. -/
def fnExactShiftLeastUptoRow : OpenClaim := { program := "ytgilbenbaefgfaagreat", sum := "ac9849a06905834b6ca6317d01e8434537ad55810fa46eb72c8638a30fb7d8d0", func := "loop.example/g01275/laws.FnExactShiftLeast", spec := "fnExactShiftLeast", unfollowed := true, recurses := true, plainKeys := false, apart := false, narrowed := true }
def FnExactShiftLeastUptoSaid : Prop := fnExactShiftLeastUptoRow.holds Tryz.pinned (OpenSpec.upto fnExactShiftLeastSpec)

/-- 'laws.FnExactShiftGreatest', WHERE WHAT IT READS IS OF BULK AT MOST 1048576: true; the input reads as it did. -/
def fnExactShiftGreatestUptoRow : OpenClaim := { program := "ytgilbenbaefgfaagreat", sum := "ac9849a06905834b6ca6317d01e8434537ad55810fa46eb72c8638a30fb7d8d0", func := "loop.example/g01275/laws.FnExactShiftGreatest", spec := "fnExactShiftGreatest", unfollowed := true, recurses := true, plainKeys := false, apart := false, narrowed := true }
def FnExactShiftGreatestUptoSaid : Prop := fnExactShiftGreatestUptoRow.holds Tryz.pinned (OpenSpec.upto fnExactShiftGreatestSpec)

end Rows
end Go.Proofs.YtgilbenbaefgfaaGreat
