/-
  No cell of these rows narrows 'for every input' (looked for: loops, veiled, ifaces, maps, wideKeys, modest, calm, conditions, laid).
  DERIVED. THE GIVEN ROWS OF THIS SEAT. 12 by the template 'for every input the law returns true; each argument reads behind the call as it read before'; 0 by the template 'total and deterministic' (their statements: YtkckefjpkhjeaaaTotals.lean).
  GIVEN WITH THE SEED: the statements are not yours to turn. If you find one false, say at which input.
  Laid BY PROGRAM, IN A SANDBOX (cutbox-rows.mjs): the forced cells as the released guide's own fill.sh prints them over the translation 10508a53735e333a… (all of the seat's roots in one cut). By AI agents, Wed Nov 11 2026. No macro, syntax, notation, axiom, sorry.
-/
import Derived.Test.YtkckefjpkhjeaaaChecked
import GoSem.Claim
import GoSem.ClaimJoined
import GoSem.ClaimMapViews
import Derived.JoinedTies
import Derived.KernelRfl
namespace Go.Proofs.Ytkckefjpkhjeaaa
/- THE CELL 'sum', in the pinned program and in every row, IS THE sha256 OF THE DUMP (.gsa) THAT YtkckefjpkhjeaaaProg.lean LOADS. Nothing in Lean hashes anything: it is a label: what it is worth is what the hold of that sum in a sandbox is worth. -/
noncomputable def Try.pinned : Pinned := { name := "ytkckefjpkhjeaaa", sum := "10508a53735e333a7044caf165b430ef8c3bd62084dcb1b472c4b4cde08a7bf8", checked := Try.checked }
namespace Rows
def none {H : Type} : Left H := { results := [], args := [] }

/-- 'laws.FnExactAreChambers': WHATEVER THE INPUT: true; the input reads as it did. -/
def fnExactAreChambersSpec : ChangeSpec := { name := "fnExactAreChambers", fn := fun _ => fun
  | [d] => { results := [.lit (.bool true)], args := [d] }
  | _ => none }
def fnExactAreChambersRow : OpenClaim := { program := "ytkckefjpkhjeaaa", sum := "10508a53735e333a7044caf165b430ef8c3bd62084dcb1b472c4b4cde08a7bf8", func := "loop.example/g01275/laws.FnExactAreChambers", spec := "fnExactAreChambers", unfollowed := true, recurses := true, apart := false }
def FnExactAreChambersSaid : Prop := fnExactAreChambersRow.holds Try.pinned (OpenSpec.ofChange fnExactAreChambersSpec)

/-- ITS FALSE NEIGHBOUR: 'it returns false'. Refute it at one input. -/
def fnExactAreChambersWrong : ChangeSpec := { name := "fnExactAreChambers", fn := fun _ => fun
  | [d] => { results := [.lit (.bool false)], args := [d] }
  | _ => none }
def FnExactAreChambersWrongFalsely : Prop := fnExactAreChambersRow.holds Try.pinned (OpenSpec.ofChange fnExactAreChambersWrong)

/-- 'laws.FnExactWinsAll': WHATEVER THE INPUT: true; the input reads as it did. -/
def fnExactWinsAllSpec : ChangeSpec := { name := "fnExactWinsAll", fn := fun _ => fun
  | [d1, d2] => { results := [.lit (.bool true)], args := [d1, d2] }
  | _ => none }
def fnExactWinsAllRow : OpenClaim := { program := "ytkckefjpkhjeaaa", sum := "10508a53735e333a7044caf165b430ef8c3bd62084dcb1b472c4b4cde08a7bf8", func := "loop.example/g01275/laws.FnExactWinsAll", spec := "fnExactWinsAll", unfollowed := true, recurses := true, apart := false }
def FnExactWinsAllSaid : Prop := fnExactWinsAllRow.holds Try.pinned (OpenSpec.ofChange fnExactWinsAllSpec)

/-- ITS FALSE NEIGHBOUR: 'it returns false'. Refute it at one input. -/
def fnExactWinsAllWrong : ChangeSpec := { name := "fnExactWinsAll", fn := fun _ => fun
  | [d1, d2] => { results := [.lit (.bool false)], args := [d1, d2] }
  | _ => none }
def FnExactWinsAllWrongFalsely : Prop := fnExactWinsAllRow.holds Try.pinned (OpenSpec.ofChange fnExactWinsAllWrong)

/-- 'laws.FnExactWinsSome': WHATEVER THE INPUT: true; the input reads as it did. -/
def fnExactWinsSomeSpec : ChangeSpec := { name := "fnExactWinsSome", fn := fun _ => fun
  | [d1, d2] => { results := [.lit (.bool true)], args := [d1, d2] }
  | _ => none }
def fnExactWinsSomeRow : OpenClaim := { program := "ytkckefjpkhjeaaa", sum := "10508a53735e333a7044caf165b430ef8c3bd62084dcb1b472c4b4cde08a7bf8", func := "loop.example/g01275/laws.FnExactWinsSome", spec := "fnExactWinsSome", unfollowed := true, recurses := true, apart := false }
def FnExactWinsSomeSaid : Prop := fnExactWinsSomeRow.holds Try.pinned (OpenSpec.ofChange fnExactWinsSomeSpec)

/-- ITS FALSE NEIGHBOUR: 'it returns false'. Refute it at one input. -/
def fnExactWinsSomeWrong : ChangeSpec := { name := "fnExactWinsSome", fn := fun _ => fun
  | [d1, d2] => { results := [.lit (.bool false)], args := [d1, d2] }
  | _ => none }
def FnExactWinsSomeWrongFalsely : Prop := fnExactWinsSomeRow.holds Try.pinned (OpenSpec.ofChange fnExactWinsSomeWrong)

/-- 'laws.FnExactAllGame': WHATEVER THE INPUT: true; the input reads as it did. -/
def fnExactAllGameSpec : ChangeSpec := { name := "fnExactAllGame", fn := fun _ => fun
  | [d] => { results := [.lit (.bool true)], args := [d] }
  | _ => none }
def fnExactAllGameRow : OpenClaim := { program := "ytkckefjpkhjeaaa", sum := "10508a53735e333a7044caf165b430ef8c3bd62084dcb1b472c4b4cde08a7bf8", func := "loop.example/g01275/laws.FnExactAllGame", spec := "fnExactAllGame", unfollowed := true, recurses := true, apart := false }
def FnExactAllGameSaid : Prop := fnExactAllGameRow.holds Try.pinned (OpenSpec.ofChange fnExactAllGameSpec)

/-- ITS FALSE NEIGHBOUR: 'it returns false'. Refute it at one input. -/
def fnExactAllGameWrong : ChangeSpec := { name := "fnExactAllGame", fn := fun _ => fun
  | [d] => { results := [.lit (.bool false)], args := [d] }
  | _ => none }
def FnExactAllGameWrongFalsely : Prop := fnExactAllGameRow.holds Try.pinned (OpenSpec.ofChange fnExactAllGameWrong)

/-- 'laws.FnExactSomeGame': WHATEVER THE INPUT: true; the input reads as it did. -/
def fnExactSomeGameSpec : ChangeSpec := { name := "fnExactSomeGame", fn := fun _ => fun
  | [d] => { results := [.lit (.bool true)], args := [d] }
  | _ => none }
def fnExactSomeGameRow : OpenClaim := { program := "ytkckefjpkhjeaaa", sum := "10508a53735e333a7044caf165b430ef8c3bd62084dcb1b472c4b4cde08a7bf8", func := "loop.example/g01275/laws.FnExactSomeGame", spec := "fnExactSomeGame", unfollowed := true, recurses := true, apart := false }
def FnExactSomeGameSaid : Prop := fnExactSomeGameRow.holds Try.pinned (OpenSpec.ofChange fnExactSomeGameSpec)

/-- ITS FALSE NEIGHBOUR: 'it returns false'. Refute it at one input. -/
def fnExactSomeGameWrong : ChangeSpec := { name := "fnExactSomeGame", fn := fun _ => fun
  | [d] => { results := [.lit (.bool false)], args := [d] }
  | _ => none }
def FnExactSomeGameWrongFalsely : Prop := fnExactSomeGameRow.holds Try.pinned (OpenSpec.ofChange fnExactSomeGameWrong)

/-- 'laws.FnExactHeadsGame': WHATEVER THE INPUT: true; the input reads as it did. -/
def fnExactHeadsGameSpec : ChangeSpec := { name := "fnExactHeadsGame", fn := fun _ => fun
  | [d1, d2] => { results := [.lit (.bool true)], args := [d1, d2] }
  | _ => none }
def fnExactHeadsGameRow : OpenClaim := { program := "ytkckefjpkhjeaaa", sum := "10508a53735e333a7044caf165b430ef8c3bd62084dcb1b472c4b4cde08a7bf8", func := "loop.example/g01275/laws.FnExactHeadsGame", spec := "fnExactHeadsGame", unfollowed := true, recurses := true, apart := false }
def FnExactHeadsGameSaid : Prop := fnExactHeadsGameRow.holds Try.pinned (OpenSpec.ofChange fnExactHeadsGameSpec)

/-- ITS FALSE NEIGHBOUR: 'it returns false'. Refute it at one input. -/
def fnExactHeadsGameWrong : ChangeSpec := { name := "fnExactHeadsGame", fn := fun _ => fun
  | [d1, d2] => { results := [.lit (.bool false)], args := [d1, d2] }
  | _ => none }
def FnExactHeadsGameWrongFalsely : Prop := fnExactHeadsGameRow.holds Try.pinned (OpenSpec.ofChange fnExactHeadsGameWrong)

/-- 'laws.FnExactNeedlessChambers': WHATEVER THE INPUT: true; the input reads as it did. -/
def fnExactNeedlessChambersSpec : ChangeSpec := { name := "fnExactNeedlessChambers", fn := fun _ => fun
  | [d] => { results := [.lit (.bool true)], args := [d] }
  | _ => none }
def fnExactNeedlessChambersRow : OpenClaim := { program := "ytkckefjpkhjeaaa", sum := "10508a53735e333a7044caf165b430ef8c3bd62084dcb1b472c4b4cde08a7bf8", func := "loop.example/g01275/laws.FnExactNeedlessChambers", spec := "fnExactNeedlessChambers", unfollowed := true, recurses := true, apart := false }
def FnExactNeedlessChambersSaid : Prop := fnExactNeedlessChambersRow.holds Try.pinned (OpenSpec.ofChange fnExactNeedlessChambersSpec)

/-- ITS FALSE NEIGHBOUR: 'it returns false'. Refute it at one input. -/
def fnExactNeedlessChambersWrong : ChangeSpec := { name := "fnExactNeedlessChambers", fn := fun _ => fun
  | [d] => { results := [.lit (.bool false)], args := [d] }
  | _ => none }
def FnExactNeedlessChambersWrongFalsely : Prop := fnExactNeedlessChambersRow.holds Try.pinned (OpenSpec.ofChange fnExactNeedlessChambersWrong)

/-- 'laws.FnExactSwingsOfChambers': WHATEVER THE INPUT: true; the input reads as it did. -/
def fnExactSwingsOfChambersSpec : ChangeSpec := { name := "fnExactSwingsOfChambers", fn := fun _ => fun
  | [d] => { results := [.lit (.bool true)], args := [d] }
  | _ => none }
def fnExactSwingsOfChambersRow : OpenClaim := { program := "ytkckefjpkhjeaaa", sum := "10508a53735e333a7044caf165b430ef8c3bd62084dcb1b472c4b4cde08a7bf8", func := "loop.example/g01275/laws.FnExactSwingsOfChambers", spec := "fnExactSwingsOfChambers", unfollowed := true, recurses := true, apart := false }
def FnExactSwingsOfChambersSaid : Prop := fnExactSwingsOfChambersRow.holds Try.pinned (OpenSpec.ofChange fnExactSwingsOfChambersSpec)

/-- ITS FALSE NEIGHBOUR: 'it returns false'. Refute it at one input. -/
def fnExactSwingsOfChambersWrong : ChangeSpec := { name := "fnExactSwingsOfChambers", fn := fun _ => fun
  | [d] => { results := [.lit (.bool false)], args := [d] }
  | _ => none }
def FnExactSwingsOfChambersWrongFalsely : Prop := fnExactSwingsOfChambersRow.holds Try.pinned (OpenSpec.ofChange fnExactSwingsOfChambersWrong)

/-- 'laws.FnExactAreCouncil': WHATEVER THE INPUT: true; the input reads as it did. -/
def fnExactAreCouncilSpec : ChangeSpec := { name := "fnExactAreCouncil", fn := fun _ => fun
  | [d1, d2] => { results := [.lit (.bool true)], args := [d1, d2] }
  | _ => none }
def fnExactAreCouncilRow : OpenClaim := { program := "ytkckefjpkhjeaaa", sum := "10508a53735e333a7044caf165b430ef8c3bd62084dcb1b472c4b4cde08a7bf8", func := "loop.example/g01275/laws.FnExactAreCouncil", spec := "fnExactAreCouncil", unfollowed := true, recurses := true, apart := false }
def FnExactAreCouncilSaid : Prop := fnExactAreCouncilRow.holds Try.pinned (OpenSpec.ofChange fnExactAreCouncilSpec)

/-- ITS FALSE NEIGHBOUR: 'it returns false'. Refute it at one input. -/
def fnExactAreCouncilWrong : ChangeSpec := { name := "fnExactAreCouncil", fn := fun _ => fun
  | [d1, d2] => { results := [.lit (.bool false)], args := [d1, d2] }
  | _ => none }
def FnExactAreCouncilWrongFalsely : Prop := fnExactAreCouncilRow.holds Try.pinned (OpenSpec.ofChange fnExactAreCouncilWrong)

/-- 'laws.FnExactCouncilGame': WHATEVER THE INPUT: true; the input reads as it did. -/
def fnExactCouncilGameSpec : ChangeSpec := { name := "fnExactCouncilGame", fn := fun _ => fun
  | [d1, d2] => { results := [.lit (.bool true)], args := [d1, d2] }
  | _ => none }
def fnExactCouncilGameRow : OpenClaim := { program := "ytkckefjpkhjeaaa", sum := "10508a53735e333a7044caf165b430ef8c3bd62084dcb1b472c4b4cde08a7bf8", func := "loop.example/g01275/laws.FnExactCouncilGame", spec := "fnExactCouncilGame", unfollowed := true, recurses := true, apart := false }
def FnExactCouncilGameSaid : Prop := fnExactCouncilGameRow.holds Try.pinned (OpenSpec.ofChange fnExactCouncilGameSpec)

/-- ITS FALSE NEIGHBOUR: 'it returns false'. Refute it at one input. -/
def fnExactCouncilGameWrong : ChangeSpec := { name := "fnExactCouncilGame", fn := fun _ => fun
  | [d1, d2] => { results := [.lit (.bool false)], args := [d1, d2] }
  | _ => none }
def FnExactCouncilGameWrongFalsely : Prop := fnExactCouncilGameRow.holds Try.pinned (OpenSpec.ofChange fnExactCouncilGameWrong)

/-- 'laws.FnExactWinsCouncil': WHATEVER THE INPUT: true; the input reads as it did. -/
def fnExactWinsCouncilSpec : ChangeSpec := { name := "fnExactWinsCouncil", fn := fun _ => fun
  | [d1, d2, d3] => { results := [.lit (.bool true)], args := [d1, d2, d3] }
  | _ => none }
def fnExactWinsCouncilRow : OpenClaim := { program := "ytkckefjpkhjeaaa", sum := "10508a53735e333a7044caf165b430ef8c3bd62084dcb1b472c4b4cde08a7bf8", func := "loop.example/g01275/laws.FnExactWinsCouncil", spec := "fnExactWinsCouncil", unfollowed := true, recurses := true, apart := false }
def FnExactWinsCouncilSaid : Prop := fnExactWinsCouncilRow.holds Try.pinned (OpenSpec.ofChange fnExactWinsCouncilSpec)

/-- ITS FALSE NEIGHBOUR: 'it returns false'. Refute it at one input. -/
def fnExactWinsCouncilWrong : ChangeSpec := { name := "fnExactWinsCouncil", fn := fun _ => fun
  | [d1, d2, d3] => { results := [.lit (.bool false)], args := [d1, d2, d3] }
  | _ => none }
def FnExactWinsCouncilWrongFalsely : Prop := fnExactWinsCouncilRow.holds Try.pinned (OpenSpec.ofChange fnExactWinsCouncilWrong)

/-- 'laws.FnExactCouncilPowers': WHATEVER THE INPUT: true; the input reads as it did. -/
def fnExactCouncilPowersSpec : ChangeSpec := { name := "fnExactCouncilPowers", fn := fun _ => fun
  | [d1, d2] => { results := [.lit (.bool true)], args := [d1, d2] }
  | _ => none }
def fnExactCouncilPowersRow : OpenClaim := { program := "ytkckefjpkhjeaaa", sum := "10508a53735e333a7044caf165b430ef8c3bd62084dcb1b472c4b4cde08a7bf8", func := "loop.example/g01275/laws.FnExactCouncilPowers", spec := "fnExactCouncilPowers", unfollowed := true, recurses := true, apart := false }
def FnExactCouncilPowersSaid : Prop := fnExactCouncilPowersRow.holds Try.pinned (OpenSpec.ofChange fnExactCouncilPowersSpec)

/-- ITS FALSE NEIGHBOUR: 'it returns false'. Refute it at one input. -/
def fnExactCouncilPowersWrong : ChangeSpec := { name := "fnExactCouncilPowers", fn := fun _ => fun
  | [d1, d2] => { results := [.lit (.bool false)], args := [d1, d2] }
  | _ => none }
def FnExactCouncilPowersWrongFalsely : Prop := fnExactCouncilPowersRow.holds Try.pinned (OpenSpec.ofChange fnExactCouncilPowersWrong)

/- THE SECOND FORM. 'bulk': how many values and letters a reading holds, each counted each time it is reached (what is shared counts as often as it is met; a slice's spare places count too). A statement '..UptoSaid' is the law's where the arguments, and the package variables that the reading takes, are together of bulk at most 1048576: NARROWER than '..Said'. Prove '..Said' where nothing that the law and all that it calls make is longer than what came in: it says more and counts as full. Else prove '..UptoSaid'. A law counts once. -/
mutual
def uptoBulk {H : Type} : DataW H → Nat
  | .lit (.string bytes) => bytes.length + 1
  | .lit _ => 1
  | .nil => 1
  | .ptr d => uptoBulk d + 1
  | .slice elems spare => uptoBulkAll elems + uptoBulkAll spare + 1
  | .agg parts => uptoBulkAll parts + 1
  | .iface _ d => uptoBulk d + 1
  | .map entries => uptoBulkEntries entries + 1
  | .held _ => 1
def uptoBulkAll {H : Type} : List (DataW H) → Nat
  | [] => 0
  | d :: r => uptoBulk d + uptoBulkAll r
def uptoBulkEntries {H : Type} : List (Lit × DataW H) → Nat
  | [] => 0
  | x :: r => uptoBulkEntry x + uptoBulkEntries r
def uptoBulkEntry {H : Type} : Lit × DataW H → Nat
  | (.string bytes, d) => bytes.length + uptoBulk d + 1
  | (_, d) => uptoBulk d + 1
 end
def uptoSmall : (H : Type) → List (DataW H) → Bool := fun _ ds => decide (uptoBulkAll ds ≤ 1048576)
def OpenSpec.upto (s : _root_.Go.ChangeSpec) : _root_.Go.OpenSpec := { _root_.Go.OpenSpec.ofChange s with cond := some uptoSmall }

/-- 'laws.FnExactAreChambers', WHERE WHAT IT READS IS OF BULK AT MOST 1048576: true; the input reads as it did. -/
def fnExactAreChambersUptoRow : OpenClaim := { program := "ytkckefjpkhjeaaa", sum := "10508a53735e333a7044caf165b430ef8c3bd62084dcb1b472c4b4cde08a7bf8", func := "loop.example/g01275/laws.FnExactAreChambers", spec := "fnExactAreChambers", unfollowed := true, recurses := true, apart := false, narrowed := true }
def FnExactAreChambersUptoSaid : Prop := fnExactAreChambersUptoRow.holds Try.pinned (OpenSpec.upto fnExactAreChambersSpec)

/-- 'laws.FnExactWinsAll', WHERE WHAT IT READS IS OF BULK AT MOST 1048576: true; the input reads as it did. -/
def fnExactWinsAllUptoRow : OpenClaim := { program := "ytkckefjpkhjeaaa", sum := "10508a53735e333a7044caf165b430ef8c3bd62084dcb1b472c4b4cde08a7bf8", func := "loop.example/g01275/laws.FnExactWinsAll", spec := "fnExactWinsAll", unfollowed := true, recurses := true, apart := false, narrowed := true }
def FnExactWinsAllUptoSaid : Prop := fnExactWinsAllUptoRow.holds Try.pinned (OpenSpec.upto fnExactWinsAllSpec)

/-- 'laws.FnExactWinsSome', WHERE WHAT IT READS IS OF BULK AT MOST 1048576: true; the input reads as it did. -/
def fnExactWinsSomeUptoRow : OpenClaim := { program := "ytkckefjpkhjeaaa", sum := "10508a53735e333a7044caf165b430ef8c3bd62084dcb1b472c4b4cde08a7bf8", func := "loop.example/g01275/laws.FnExactWinsSome", spec := "fnExactWinsSome", unfollowed := true, recurses := true, apart := false, narrowed := true }
def FnExactWinsSomeUptoSaid : Prop := fnExactWinsSomeUptoRow.holds Try.pinned (OpenSpec.upto fnExactWinsSomeSpec)

/-- 'laws.FnExactAllGame', WHERE WHAT IT READS IS OF BULK AT MOST 1048576: true; the input reads as it did. -/
def fnExactAllGameUptoRow : OpenClaim := { program := "ytkckefjpkhjeaaa", sum := "10508a53735e333a7044caf165b430ef8c3bd62084dcb1b472c4b4cde08a7bf8", func := "loop.example/g01275/laws.FnExactAllGame", spec := "fnExactAllGame", unfollowed := true, recurses := true, apart := false, narrowed := true }
def FnExactAllGameUptoSaid : Prop := fnExactAllGameUptoRow.holds Try.pinned (OpenSpec.upto fnExactAllGameSpec)

/-- 'laws.FnExactSomeGame', WHERE WHAT IT READS IS OF BULK AT MOST 1048576: true; the input reads as it did. -/
def fnExactSomeGameUptoRow : OpenClaim := { program := "ytkckefjpkhjeaaa", sum := "10508a53735e333a7044caf165b430ef8c3bd62084dcb1b472c4b4cde08a7bf8", func := "loop.example/g01275/laws.FnExactSomeGame", spec := "fnExactSomeGame", unfollowed := true, recurses := true, apart := false, narrowed := true }
def FnExactSomeGameUptoSaid : Prop := fnExactSomeGameUptoRow.holds Try.pinned (OpenSpec.upto fnExactSomeGameSpec)

/-- 'laws.FnExactHeadsGame', WHERE WHAT IT READS IS OF BULK AT MOST 1048576: true; the input reads as it did. -/
def fnExactHeadsGameUptoRow : OpenClaim := { program := "ytkckefjpkhjeaaa", sum := "10508a53735e333a7044caf165b430ef8c3bd62084dcb1b472c4b4cde08a7bf8", func := "loop.example/g01275/laws.FnExactHeadsGame", spec := "fnExactHeadsGame", unfollowed := true, recurses := true, apart := false, narrowed := true }
def FnExactHeadsGameUptoSaid : Prop := fnExactHeadsGameUptoRow.holds Try.pinned (OpenSpec.upto fnExactHeadsGameSpec)

/-- 'laws.FnExactNeedlessChambers', WHERE WHAT IT READS IS OF BULK AT MOST 1048576: true; the input reads as it did. -/
def fnExactNeedlessChambersUptoRow : OpenClaim := { program := "ytkckefjpkhjeaaa", sum := "10508a53735e333a7044caf165b430ef8c3bd62084dcb1b472c4b4cde08a7bf8", func := "loop.example/g01275/laws.FnExactNeedlessChambers", spec := "fnExactNeedlessChambers", unfollowed := true, recurses := true, apart := false, narrowed := true }
def FnExactNeedlessChambersUptoSaid : Prop := fnExactNeedlessChambersUptoRow.holds Try.pinned (OpenSpec.upto fnExactNeedlessChambersSpec)

/-- 'laws.FnExactSwingsOfChambers', WHERE WHAT IT READS IS OF BULK AT MOST 1048576: true; the input reads as it did. -/
def fnExactSwingsOfChambersUptoRow : OpenClaim := { program := "ytkckefjpkhjeaaa", sum := "10508a53735e333a7044caf165b430ef8c3bd62084dcb1b472c4b4cde08a7bf8", func := "loop.example/g01275/laws.FnExactSwingsOfChambers", spec := "fnExactSwingsOfChambers", unfollowed := true, recurses := true, apart := false, narrowed := true }
def FnExactSwingsOfChambersUptoSaid : Prop := fnExactSwingsOfChambersUptoRow.holds Try.pinned (OpenSpec.upto fnExactSwingsOfChambersSpec)

/-- 'laws.FnExactAreCouncil', WHERE WHAT IT READS IS OF BULK AT MOST 1048576: true; the input reads as it did. -/
def fnExactAreCouncilUptoRow : OpenClaim := { program := "ytkckefjpkhjeaaa", sum := "10508a53735e333a7044caf165b430ef8c3bd62084dcb1b472c4b4cde08a7bf8", func := "loop.example/g01275/laws.FnExactAreCouncil", spec := "fnExactAreCouncil", unfollowed := true, recurses := true, apart := false, narrowed := true }
def FnExactAreCouncilUptoSaid : Prop := fnExactAreCouncilUptoRow.holds Try.pinned (OpenSpec.upto fnExactAreCouncilSpec)

/-- 'laws.FnExactCouncilGame', WHERE WHAT IT READS IS OF BULK AT MOST 1048576: true; the input reads as it did. -/
def fnExactCouncilGameUptoRow : OpenClaim := { program := "ytkckefjpkhjeaaa", sum := "10508a53735e333a7044caf165b430ef8c3bd62084dcb1b472c4b4cde08a7bf8", func := "loop.example/g01275/laws.FnExactCouncilGame", spec := "fnExactCouncilGame", unfollowed := true, recurses := true, apart := false, narrowed := true }
def FnExactCouncilGameUptoSaid : Prop := fnExactCouncilGameUptoRow.holds Try.pinned (OpenSpec.upto fnExactCouncilGameSpec)

/-- 'laws.FnExactWinsCouncil', WHERE WHAT IT READS IS OF BULK AT MOST 1048576: true; the input reads as it did. -/
def fnExactWinsCouncilUptoRow : OpenClaim := { program := "ytkckefjpkhjeaaa", sum := "10508a53735e333a7044caf165b430ef8c3bd62084dcb1b472c4b4cde08a7bf8", func := "loop.example/g01275/laws.FnExactWinsCouncil", spec := "fnExactWinsCouncil", unfollowed := true, recurses := true, apart := false, narrowed := true }
def FnExactWinsCouncilUptoSaid : Prop := fnExactWinsCouncilUptoRow.holds Try.pinned (OpenSpec.upto fnExactWinsCouncilSpec)

/-- 'laws.FnExactCouncilPowers', WHERE WHAT IT READS IS OF BULK AT MOST 1048576: true; the input reads as it did. -/
def fnExactCouncilPowersUptoRow : OpenClaim := { program := "ytkckefjpkhjeaaa", sum := "10508a53735e333a7044caf165b430ef8c3bd62084dcb1b472c4b4cde08a7bf8", func := "loop.example/g01275/laws.FnExactCouncilPowers", spec := "fnExactCouncilPowers", unfollowed := true, recurses := true, apart := false, narrowed := true }
def FnExactCouncilPowersUptoSaid : Prop := fnExactCouncilPowersUptoRow.holds Try.pinned (OpenSpec.upto fnExactCouncilPowersSpec)

end Rows
end Go.Proofs.Ytkckefjpkhjeaaa
