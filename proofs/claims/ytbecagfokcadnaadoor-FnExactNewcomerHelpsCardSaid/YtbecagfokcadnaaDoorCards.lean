/-
  DERIVED. GIVEN WITH THE SEED: THE CARDS: each row of YtbecagfokcadnaaDoorRows.lean that lists a variable, with what it lists TIED to the program's text (the seventh form; the later family's looks); each row that meets fmt, with fmt's text TOLD by the authors' own Lean function (tested against real Go, not proved from fmt's source: count such statements apart). THE CARD IS WHAT COUNTS. Prove the row's statement (the work); the ties are given (YtbecagfokcadnaaDoorTie.lean); close each card by the builder's one call (the guide's Derived/Test/ToyasCard.lean, 'card_holds'). Laid BY PROGRAM, IN A SANDBOX (cutbox-door.mjs). By AI agents, Wed Nov 11 2026. No macro, syntax, notation, axiom, sorry.
-/
import Derived.Test.YtbecagfokcadnaaDoorRows
import GoSem.ClaimSeven
namespace Go.Proofs.YtbecagfokcadnaaDoor
namespace Rows

/-- THE TIED CARD OF 'laws.FnExactMergeMembers'. -/
def fnExactMergeMembersCard : Claim7 := { stood := { row := fnExactMergeMembersRow, standIns := [], harness := (true, "08eea1af946700880031f48cb8c9e1f8fb90e96dfbfc1b44433e2971f9f22118"), looks := false }, kinds := [], alts := [], laidByText := true, laidKinds := [.data, .data], laidTests := true, laidLooks := .later }
def FnExactMergeMembersCardSaid : Prop := Claim7.holds Tryd.pinned (.plain (OpenSpec.ofChange fnExactMergeMembersSpec)) fnExactMergeMembersCard

/-- THE TIED CARD OF 'laws.FnExactUnionGain'. -/
def fnExactUnionGainCard : Claim7 := { stood := { row := fnExactUnionGainRow, standIns := [], harness := (true, "08eea1af946700880031f48cb8c9e1f8fb90e96dfbfc1b44433e2971f9f22118"), looks := false }, kinds := [], alts := [], laidByText := true, laidKinds := [.data, .data], laidTests := true, laidLooks := .later }
def FnExactUnionGainCardSaid : Prop := Claim7.holds Tryd.pinned (.plain (OpenSpec.ofChange fnExactUnionGainSpec)) fnExactUnionGainCard

/-- THE TIED CARD OF 'laws.FnExactUnionGainByOrders'. -/
def fnExactUnionGainByOrdersCard : Claim7 := { stood := { row := fnExactUnionGainByOrdersRow, standIns := [], harness := (true, "08eea1af946700880031f48cb8c9e1f8fb90e96dfbfc1b44433e2971f9f22118"), looks := false }, kinds := [], alts := [], laidByText := true, laidKinds := [.data, .data], laidTests := true, laidLooks := .later }
def FnExactUnionGainByOrdersCardSaid : Prop := Claim7.holds Tryd.pinned (.plain (OpenSpec.ofChange fnExactUnionGainByOrdersSpec)) fnExactUnionGainByOrdersCard

/-- THE TIED CARD OF 'laws.FnExactNewcomerHelps'. -/
def fnExactNewcomerHelpsCard : Claim7 := { stood := { row := fnExactNewcomerHelpsRow, standIns := [], harness := (true, "08eea1af946700880031f48cb8c9e1f8fb90e96dfbfc1b44433e2971f9f22118"), looks := false }, kinds := [], alts := [], laidByText := true, laidKinds := [.data, .data], laidTests := true, laidLooks := .later }
def FnExactNewcomerHelpsCardSaid : Prop := Claim7.holds Tryd.pinned (.plain (OpenSpec.ofChange fnExactNewcomerHelpsSpec)) fnExactNewcomerHelpsCard

/-- THE SECOND FORM's CARD OF 'laws.FnExactMergeMembers'. -/
def fnExactMergeMembersUptoCard : Claim7 := { stood := { row := fnExactMergeMembersUptoRow, standIns := [], harness := (true, "08eea1af946700880031f48cb8c9e1f8fb90e96dfbfc1b44433e2971f9f22118"), looks := false }, kinds := [], alts := [], laidByText := true, laidKinds := [.data, .data], laidTests := true, laidLooks := .later }
def FnExactMergeMembersUptoCardSaid : Prop := Claim7.holds Tryd.pinned (.plain (OpenSpec.upto fnExactMergeMembersSpec)) fnExactMergeMembersUptoCard

/-- THE SECOND FORM's CARD OF 'laws.FnExactUnionGain'. -/
def fnExactUnionGainUptoCard : Claim7 := { stood := { row := fnExactUnionGainUptoRow, standIns := [], harness := (true, "08eea1af946700880031f48cb8c9e1f8fb90e96dfbfc1b44433e2971f9f22118"), looks := false }, kinds := [], alts := [], laidByText := true, laidKinds := [.data, .data], laidTests := true, laidLooks := .later }
def FnExactUnionGainUptoCardSaid : Prop := Claim7.holds Tryd.pinned (.plain (OpenSpec.upto fnExactUnionGainSpec)) fnExactUnionGainUptoCard

/-- THE SECOND FORM's CARD OF 'laws.FnExactUnionGainByOrders'. -/
def fnExactUnionGainByOrdersUptoCard : Claim7 := { stood := { row := fnExactUnionGainByOrdersUptoRow, standIns := [], harness := (true, "08eea1af946700880031f48cb8c9e1f8fb90e96dfbfc1b44433e2971f9f22118"), looks := false }, kinds := [], alts := [], laidByText := true, laidKinds := [.data, .data], laidTests := true, laidLooks := .later }
def FnExactUnionGainByOrdersUptoCardSaid : Prop := Claim7.holds Tryd.pinned (.plain (OpenSpec.upto fnExactUnionGainByOrdersSpec)) fnExactUnionGainByOrdersUptoCard

/-- THE SECOND FORM's CARD OF 'laws.FnExactNewcomerHelps'. -/
def fnExactNewcomerHelpsUptoCard : Claim7 := { stood := { row := fnExactNewcomerHelpsUptoRow, standIns := [], harness := (true, "08eea1af946700880031f48cb8c9e1f8fb90e96dfbfc1b44433e2971f9f22118"), looks := false }, kinds := [], alts := [], laidByText := true, laidKinds := [.data, .data], laidTests := true, laidLooks := .later }
def FnExactNewcomerHelpsUptoCardSaid : Prop := Claim7.holds Tryd.pinned (.plain (OpenSpec.upto fnExactNewcomerHelpsSpec)) fnExactNewcomerHelpsUptoCard
end Rows
end Go.Proofs.YtbecagfokcadnaaDoor
