/-
  DERIVED. GIVEN WITH THE SEED: THE CARDS: each row of YtkckefjpkhjeaabDoorRows.lean that lists a variable, with what it lists TIED to the program's text (the seventh form; the later family's looks); each row that meets fmt, with fmt's text TOLD by the authors' own Lean function (tested against real Go, not proved from fmt's source: count such statements apart). THE CARD IS WHAT COUNTS. Prove the row's statement (the work); the ties are given (YtkckefjpkhjeaabDoorTie.lean); close each card by the builder's one call (the guide's Derived/Test/ToyasCard.lean, 'card_holds'). Laid BY PROGRAM, IN A SANDBOX (cutbox-door.mjs). By AI agents, Wed Nov 11 2026. No macro, syntax, notation, axiom, sorry.
-/
import Derived.Test.YtkckefjpkhjeaabDoorRows
import GoSem.ClaimSeven
namespace Go.Proofs.YtkckefjpkhjeaabDoor
namespace Rows

/-- THE TIED CARD OF 'laws.FnExactMergeMembers'. -/
def fnExactMergeMembersCard : Claim7 := { stood := { row := fnExactMergeMembersRow, standIns := [], harness := (true, "9748c1043360d913217aac68f49b78eb65e76466a0b4d41dc57f4e98dc493b6a"), looks := false }, kinds := [], alts := [], laidByText := true, laidKinds := [.data, .data], laidTests := true, laidLooks := .later }
def FnExactMergeMembersCardSaid : Prop := Claim7.holds Tryd.pinned (.plain (OpenSpec.ofChange fnExactMergeMembersSpec)) fnExactMergeMembersCard

/-- THE TIED CARD OF 'laws.FnExactUnionGain'. -/
def fnExactUnionGainCard : Claim7 := { stood := { row := fnExactUnionGainRow, standIns := [], harness := (true, "9748c1043360d913217aac68f49b78eb65e76466a0b4d41dc57f4e98dc493b6a"), looks := false }, kinds := [], alts := [], laidByText := true, laidKinds := [.data, .data], laidTests := true, laidLooks := .later }
def FnExactUnionGainCardSaid : Prop := Claim7.holds Tryd.pinned (.plain (OpenSpec.ofChange fnExactUnionGainSpec)) fnExactUnionGainCard

/-- THE TIED CARD OF 'laws.FnExactUnionGainByOrders'. -/
def fnExactUnionGainByOrdersCard : Claim7 := { stood := { row := fnExactUnionGainByOrdersRow, standIns := [], harness := (true, "9748c1043360d913217aac68f49b78eb65e76466a0b4d41dc57f4e98dc493b6a"), looks := false }, kinds := [], alts := [], laidByText := true, laidKinds := [.data, .data], laidTests := true, laidLooks := .later }
def FnExactUnionGainByOrdersCardSaid : Prop := Claim7.holds Tryd.pinned (.plain (OpenSpec.ofChange fnExactUnionGainByOrdersSpec)) fnExactUnionGainByOrdersCard

/-- THE TIED CARD OF 'laws.FnExactBestPartners'. -/
def fnExactBestPartnersCard : Claim7 := { stood := { row := fnExactBestPartnersRow, standIns := [], harness := (true, "9748c1043360d913217aac68f49b78eb65e76466a0b4d41dc57f4e98dc493b6a"), looks := false }, kinds := [], alts := [], laidByText := true, laidKinds := [.data, .data], laidTests := true, laidLooks := .later }
def FnExactBestPartnersCardSaid : Prop := Claim7.holds Tryd.pinned (.plain (OpenSpec.ofChange fnExactBestPartnersSpec)) fnExactBestPartnersCard

/-- THE SECOND FORM's CARD OF 'laws.FnExactMergeMembers'. -/
def fnExactMergeMembersUptoCard : Claim7 := { stood := { row := fnExactMergeMembersUptoRow, standIns := [], harness := (true, "9748c1043360d913217aac68f49b78eb65e76466a0b4d41dc57f4e98dc493b6a"), looks := false }, kinds := [], alts := [], laidByText := true, laidKinds := [.data, .data], laidTests := true, laidLooks := .later }
def FnExactMergeMembersUptoCardSaid : Prop := Claim7.holds Tryd.pinned (.plain (OpenSpec.upto fnExactMergeMembersSpec)) fnExactMergeMembersUptoCard

/-- THE SECOND FORM's CARD OF 'laws.FnExactUnionGain'. -/
def fnExactUnionGainUptoCard : Claim7 := { stood := { row := fnExactUnionGainUptoRow, standIns := [], harness := (true, "9748c1043360d913217aac68f49b78eb65e76466a0b4d41dc57f4e98dc493b6a"), looks := false }, kinds := [], alts := [], laidByText := true, laidKinds := [.data, .data], laidTests := true, laidLooks := .later }
def FnExactUnionGainUptoCardSaid : Prop := Claim7.holds Tryd.pinned (.plain (OpenSpec.upto fnExactUnionGainSpec)) fnExactUnionGainUptoCard

/-- THE SECOND FORM's CARD OF 'laws.FnExactUnionGainByOrders'. -/
def fnExactUnionGainByOrdersUptoCard : Claim7 := { stood := { row := fnExactUnionGainByOrdersUptoRow, standIns := [], harness := (true, "9748c1043360d913217aac68f49b78eb65e76466a0b4d41dc57f4e98dc493b6a"), looks := false }, kinds := [], alts := [], laidByText := true, laidKinds := [.data, .data], laidTests := true, laidLooks := .later }
def FnExactUnionGainByOrdersUptoCardSaid : Prop := Claim7.holds Tryd.pinned (.plain (OpenSpec.upto fnExactUnionGainByOrdersSpec)) fnExactUnionGainByOrdersUptoCard

/-- THE SECOND FORM's CARD OF 'laws.FnExactBestPartners'. -/
def fnExactBestPartnersUptoCard : Claim7 := { stood := { row := fnExactBestPartnersUptoRow, standIns := [], harness := (true, "9748c1043360d913217aac68f49b78eb65e76466a0b4d41dc57f4e98dc493b6a"), looks := false }, kinds := [], alts := [], laidByText := true, laidKinds := [.data, .data], laidTests := true, laidLooks := .later }
def FnExactBestPartnersUptoCardSaid : Prop := Claim7.holds Tryd.pinned (.plain (OpenSpec.upto fnExactBestPartnersSpec)) fnExactBestPartnersUptoCard
end Rows
end Go.Proofs.YtkckefjpkhjeaabDoor
