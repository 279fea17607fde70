/-
  No cell of these rows narrows 'for every input' (looked for: loops, veiled, ifaces, maps, wideKeys, modest, calm, conditions, laid).
  DERIVED. THE GIVEN ROWS OF THIS SEAT. 3 by the template 'for every input the law returns true; each argument reads behind the call as it read before'; 0 by the template 'total and deterministic' (their statements: YtibmaofcnibjnaaTotals.lean).
  GIVEN WITH THE SEED: the statements are not yours to turn. If you find one false, say at which input.
  Laid BY PROGRAM, IN A SANDBOX (cutbox-rows.mjs): the forced cells as the released guide's own fill.sh prints them over the translation 36bef2ff13e233c4… (all of the seat's roots in one cut). By AI agents, Wed Nov 11 2026. No macro, syntax, notation, axiom, sorry.
-/
import Derived.Test.YtibmaofcnibjnaaChecked
import GoSem.Claim
import GoSem.ClaimJoined
import GoSem.ClaimMapViews
import Derived.JoinedTies
import Derived.KernelRfl
namespace Go.Proofs.Ytibmaofcnibjnaa
/- THE CELL 'sum', in the pinned program and in every row, IS THE sha256 OF THE DUMP (.gsa) THAT YtibmaofcnibjnaaProg.lean LOADS. Nothing in Lean hashes anything: it is a label: what it is worth is what the hold of that sum in a sandbox is worth. -/
noncomputable def Try.pinned : Pinned := { name := "ytibmaofcnibjnaa", sum := "36bef2ff13e233c4d667d9e4e598aeae09d0f62ab65178153a129db40f5a10fb", checked := Try.checked }
namespace Rows
def none {H : Type} : Left H := { results := [], args := [] }

/-- 'laws.FnSetsWinOfAll': WHATEVER THE INPUT: true; the input reads as it did. -/
def fnSetsWinOfAllSpec : ChangeSpec := { name := "fnSetsWinOfAll", fn := fun _ => fun
  | [d1, d2, d3] => { results := [.lit (.bool true)], args := [d1, d2, d3] }
  | _ => none }
def fnSetsWinOfAllRow : OpenClaim := { program := "ytibmaofcnibjnaa", sum := "36bef2ff13e233c4d667d9e4e598aeae09d0f62ab65178153a129db40f5a10fb", func := "loop.example/g01275/laws.FnSetsWinOfAll", spec := "fnSetsWinOfAll", unfollowed := true, recurses := true, apart := false }
def FnSetsWinOfAllSaid : Prop := fnSetsWinOfAllRow.holds Try.pinned (OpenSpec.ofChange fnSetsWinOfAllSpec)

/-- ITS FALSE NEIGHBOUR: 'it returns false'. Refute it at one input. -/
def fnSetsWinOfAllWrong : ChangeSpec := { name := "fnSetsWinOfAll", fn := fun _ => fun
  | [d1, d2, d3] => { results := [.lit (.bool false)], args := [d1, d2, d3] }
  | _ => none }
def FnSetsWinOfAllWrongFalsely : Prop := fnSetsWinOfAllRow.holds Try.pinned (OpenSpec.ofChange fnSetsWinOfAllWrong)

/-- 'laws.FnSetsWin': WHATEVER THE INPUT: true; the input reads as it did. -/
def fnSetsWinSpec : ChangeSpec := { name := "fnSetsWin", fn := fun _ => fun
  | [d1, d2] => { results := [.lit (.bool true)], args := [d1, d2] }
  | _ => none }
def fnSetsWinRow : OpenClaim := { program := "ytibmaofcnibjnaa", sum := "36bef2ff13e233c4d667d9e4e598aeae09d0f62ab65178153a129db40f5a10fb", func := "loop.example/g01275/laws.FnSetsWin", spec := "fnSetsWin", unfollowed := true, recurses := true, apart := false }
def FnSetsWinSaid : Prop := fnSetsWinRow.holds Try.pinned (OpenSpec.ofChange fnSetsWinSpec)

/-- ITS FALSE NEIGHBOUR: 'it returns false'. Refute it at one input. -/
def fnSetsWinWrong : ChangeSpec := { name := "fnSetsWin", fn := fun _ => fun
  | [d1, d2] => { results := [.lit (.bool false)], args := [d1, d2] }
  | _ => none }
def FnSetsWinWrongFalsely : Prop := fnSetsWinRow.holds Try.pinned (OpenSpec.ofChange fnSetsWinWrong)

/-- 'laws.FnExactSamePower': WHATEVER THE INPUT: true; the input reads as it did. -/
def fnExactSamePowerSpec : ChangeSpec := { name := "fnExactSamePower", fn := fun _ => fun
  | [d] => { results := [.lit (.bool true)], args := [d] }
  | _ => none }
def fnExactSamePowerRow : OpenClaim := { program := "ytibmaofcnibjnaa", sum := "36bef2ff13e233c4d667d9e4e598aeae09d0f62ab65178153a129db40f5a10fb", func := "loop.example/g01275/laws.FnExactSamePower", spec := "fnExactSamePower", unfollowed := true, recurses := true, apart := false }
def FnExactSamePowerSaid : Prop := fnExactSamePowerRow.holds Try.pinned (OpenSpec.ofChange fnExactSamePowerSpec)

/-- ITS FALSE NEIGHBOUR: 'it returns false'. Refute it at one input. -/
def fnExactSamePowerWrong : ChangeSpec := { name := "fnExactSamePower", fn := fun _ => fun
  | [d] => { results := [.lit (.bool false)], args := [d] }
  | _ => none }
def FnExactSamePowerWrongFalsely : Prop := fnExactSamePowerRow.holds Try.pinned (OpenSpec.ofChange fnExactSamePowerWrong)

/- THE SECOND FORM. 'bulk': how many values and letters a reading holds, each counted each time it is reached (what is shared counts as often as it is met; a slice's spare places count too). A statement '..UptoSaid' is the law's where the arguments, and the package variables that the reading takes, are together of bulk at most 1048576: NARROWER than '..Said'. Prove '..Said' where nothing that the law and all that it calls make is longer than what came in: it says more and counts as full. Else prove '..UptoSaid'. A law counts once. -/
mutual
def uptoBulk {H : Type} : DataW H → Nat
  | .lit (.string bytes) => bytes.length + 1
  | .lit _ => 1
  | .nil => 1
  | .ptr d => uptoBulk d + 1
  | .slice elems spare => uptoBulkAll elems + uptoBulkAll spare + 1
  | .agg parts => uptoBulkAll parts + 1
  | .iface _ d => uptoBulk d + 1
  | .map entries => uptoBulkEntries entries + 1
  | .held _ => 1
def uptoBulkAll {H : Type} : List (DataW H) → Nat
  | [] => 0
  | d :: r => uptoBulk d + uptoBulkAll r
def uptoBulkEntries {H : Type} : List (Lit × DataW H) → Nat
  | [] => 0
  | x :: r => uptoBulkEntry x + uptoBulkEntries r
def uptoBulkEntry {H : Type} : Lit × DataW H → Nat
  | (.string bytes, d) => bytes.length + uptoBulk d + 1
  | (_, d) => uptoBulk d + 1
 end
def uptoSmall : (H : Type) → List (DataW H) → Bool := fun _ ds => decide (uptoBulkAll ds ≤ 1048576)
def OpenSpec.upto (s : _root_.Go.ChangeSpec) : _root_.Go.OpenSpec := { _root_.Go.OpenSpec.ofChange s with cond := some uptoSmall }

/-- 'laws.FnSetsWinOfAll', WHERE WHAT IT READS IS OF BULK AT MOST 1048576: true; the input reads as it did. -/
def fnSetsWinOfAllUptoRow : OpenClaim := { program := "ytibmaofcnibjnaa", sum := "36bef2ff13e233c4d667d9e4e598aeae09d0f62ab65178153a129db40f5a10fb", func := "loop.example/g01275/laws.FnSetsWinOfAll", spec := "fnSetsWinOfAll", unfollowed := true, recurses := true, apart := false, narrowed := true }
def FnSetsWinOfAllUptoSaid : Prop := fnSetsWinOfAllUptoRow.holds Try.pinned (OpenSpec.upto fnSetsWinOfAllSpec)

/-- 'laws.FnSetsWin', WHERE WHAT IT READS IS OF BULK AT MOST 1048576: true; the input reads as it did. -/
def fnSetsWinUptoRow : OpenClaim := { program := "ytibmaofcnibjnaa", sum := "36bef2ff13e233c4d667d9e4e598aeae09d0f62ab65178153a129db40f5a10fb", func := "loop.example/g01275/laws.FnSetsWin", spec := "fnSetsWin", unfollowed := true, recurses := true, apart := false, narrowed := true }
def FnSetsWinUptoSaid : Prop := fnSetsWinUptoRow.holds Try.pinned (OpenSpec.upto fnSetsWinSpec)

/-- 'laws.FnExactSamePower', WHERE WHAT IT READS IS OF BULK AT MOST 1048576: true; the input reads as it did. -/
def fnExactSamePowerUptoRow : OpenClaim := { program := "ytibmaofcnibjnaa", sum := "36bef2ff13e233c4d667d9e4e598aeae09d0f62ab65178153a129db40f5a10fb", func := "loop.example/g01275/laws.FnExactSamePower", spec := "fnExactSamePower", unfollowed := true, recurses := true, apart := false, narrowed := true }
def FnExactSamePowerUptoSaid : Prop := fnExactSamePowerUptoRow.holds Try.pinned (OpenSpec.upto fnExactSamePowerSpec)

end Rows
end Go.Proofs.Ytibmaofcnibjnaa
