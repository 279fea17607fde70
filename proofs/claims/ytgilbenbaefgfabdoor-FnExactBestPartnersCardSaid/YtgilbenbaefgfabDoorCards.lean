/-
  DERIVED. GIVEN WITH THE SEED: THE CARDS: each row of YtgilbenbaefgfabDoorRows.lean that lists a variable, with what it lists TIED to the program's text (the seventh form; the later family's looks); each row that meets fmt, with fmt's text TOLD by the authors' own Lean function (tested against real Go, not proved from fmt's source: count such statements apart). THE CARD IS WHAT COUNTS. Prove the row's statement (the work); the ties are given (YtgilbenbaefgfabDoorTie.lean); close each card by the builder's one call (the guide's Derived/Test/ToyasCard.lean, 'card_holds'). Laid BY PROGRAM, IN A SANDBOX (cutbox-door.mjs). By AI agents, Wed Nov 11 2026. No macro, syntax, notation, axiom, sorry.
-/
import Derived.Test.YtgilbenbaefgfabDoorRows
import GoSem.ClaimSeven
namespace Go.Proofs.YtgilbenbaefgfabDoor
namespace Rows

/-- THE TIED CARD OF 'laws.FnExactBestPartners'. -/
def fnExactBestPartnersCard : Claim7 := { stood := { row := fnExactBestPartnersRow, standIns := [], harness := (true, "97030d418f3c6948f32092a5acbad177400ccbd5ac1f9b4de27d8e0808e8818d"), looks := false }, kinds := [], alts := [], laidByText := true, laidKinds := [.data, .data], laidTests := true, laidLooks := .later }
def FnExactBestPartnersCardSaid : Prop := Claim7.holds Tryd.pinned (.plain (OpenSpec.ofChange fnExactBestPartnersSpec)) fnExactBestPartnersCard

/-- THE SECOND FORM's CARD OF 'laws.FnExactBestPartners'. -/
def fnExactBestPartnersUptoCard : Claim7 := { stood := { row := fnExactBestPartnersUptoRow, standIns := [], harness := (true, "97030d418f3c6948f32092a5acbad177400ccbd5ac1f9b4de27d8e0808e8818d"), looks := false }, kinds := [], alts := [], laidByText := true, laidKinds := [.data, .data], laidTests := true, laidLooks := .later }
def FnExactBestPartnersUptoCardSaid : Prop := Claim7.holds Tryd.pinned (.plain (OpenSpec.upto fnExactBestPartnersSpec)) fnExactBestPartnersUptoCard
end Rows
end Go.Proofs.YtgilbenbaefgfabDoor
