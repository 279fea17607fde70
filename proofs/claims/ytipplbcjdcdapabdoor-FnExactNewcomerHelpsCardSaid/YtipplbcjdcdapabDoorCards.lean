/-
  DERIVED. GIVEN WITH THE SEED: THE CARDS: each row of YtipplbcjdcdapabDoorRows.lean that lists a variable, with what it lists TIED to the program's text (the seventh form; the later family's looks); each row that meets fmt, with fmt's text TOLD by the authors' own Lean function (tested against real Go, not proved from fmt's source: count such statements apart). THE CARD IS WHAT COUNTS. Prove the row's statement (the work); the ties are given (YtipplbcjdcdapabDoorTie.lean); close each card by the builder's one call (the guide's Derived/Test/ToyasCard.lean, 'card_holds'). Laid BY PROGRAM, IN A SANDBOX (cutbox-door.mjs). By AI agents, Wed Nov 11 2026. No macro, syntax, notation, axiom, sorry.
-/
import Derived.Test.YtipplbcjdcdapabDoorRows
import GoSem.ClaimSeven
namespace Go.Proofs.YtipplbcjdcdapabDoor
namespace Rows

/-- THE TIED CARD OF 'laws.FnExactNewcomerHelps'. -/
def fnExactNewcomerHelpsCard : Claim7 := { stood := { row := fnExactNewcomerHelpsRow, standIns := [], harness := (true, "0c28e528ca749eee04bec75effcaeeff900a4e2f8e172db26444f8e08ce59c67"), looks := false }, kinds := [], alts := [], laidByText := true, laidKinds := [.data, .data], laidTests := true, laidLooks := .later }
def FnExactNewcomerHelpsCardSaid : Prop := Claim7.holds Tryd.pinned (.plain (OpenSpec.ofChange fnExactNewcomerHelpsSpec)) fnExactNewcomerHelpsCard

/-- THE SECOND FORM's CARD OF 'laws.FnExactNewcomerHelps'. -/
def fnExactNewcomerHelpsUptoCard : Claim7 := { stood := { row := fnExactNewcomerHelpsUptoRow, standIns := [], harness := (true, "0c28e528ca749eee04bec75effcaeeff900a4e2f8e172db26444f8e08ce59c67"), looks := false }, kinds := [], alts := [], laidByText := true, laidKinds := [.data, .data], laidTests := true, laidLooks := .later }
def FnExactNewcomerHelpsUptoCardSaid : Prop := Claim7.holds Tryd.pinned (.plain (OpenSpec.upto fnExactNewcomerHelpsSpec)) fnExactNewcomerHelpsUptoCard
end Rows
end Go.Proofs.YtipplbcjdcdapabDoor
