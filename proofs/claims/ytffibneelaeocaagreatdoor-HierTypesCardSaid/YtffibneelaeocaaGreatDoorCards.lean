/-
  DERIVED. GIVEN WITH THE SEED: THE CARDS: each row of YtffibneelaeocaaGreatDoorRows.lean that lists a variable, with what it lists TIED to the program's text (the seventh form; the later family's looks); each row that meets fmt, with fmt's text TOLD by the authors' own Lean function (tested against real Go, not proved from fmt's source: count such statements apart). THE CARD IS WHAT COUNTS. Prove the row's statement (the work); the ties are given (YtffibneelaeocaaGreatDoorTie.lean); close each card by the builder's one call (the guide's Derived/Test/ToyasCard.lean, 'card_holds'). Laid BY PROGRAM, IN A SANDBOX (cutbox-door.mjs). By AI agents, Wed Nov 11 2026. No macro, syntax, notation, axiom, sorry.
-/
import Derived.Test.YtffibneelaeocaaGreatDoorRows
import GoSem.ClaimSeven
namespace Go.Proofs.YtffibneelaeocaaGreatDoor
namespace Rows

/-- THE TIED CARD OF 'isagogelaw03.InterpMoved'. -/
def interpMovedCard : Claim7 := { stood := { row := interpMovedRow, standIns := [], harness := (true, "8d8883bed3757fb7a509db6860c39eddf7d803fe272cc6766ff2b4c406be4115"), looks := true }, kinds := [], alts := [], laidByText := true, laidKinds := [.data, .data], laidTests := true, laidLooks := .later }
def InterpMovedCardSaid : Prop := Claim7.holds Tryz.pinned (.plain (OpenSpec.ofChange interpMovedSpec)) interpMovedCard

/-- THE TIED CARD OF 'isagogelaw05.HierRoles'. -/
def hierRolesCard : Claim7 := { stood := { row := hierRolesRow, standIns := [], harness := (true, "8d8883bed3757fb7a509db6860c39eddf7d803fe272cc6766ff2b4c406be4115"), looks := true }, kinds := [], alts := [], laidByText := true, laidKinds := [.data, .data, .data, .data], laidTests := true, laidLooks := .later }
def HierRolesCardSaid : Prop := Claim7.holds Tryz.pinned (.plain (OpenSpec.ofChange hierRolesSpec)) hierRolesCard

/-- THE TIED CARD OF 'isagogelaw05.HierMarks'. -/
def hierMarksCard : Claim7 := { stood := { row := hierMarksRow, standIns := [], harness := (true, "8d8883bed3757fb7a509db6860c39eddf7d803fe272cc6766ff2b4c406be4115"), looks := true }, kinds := [], alts := [], laidByText := true, laidKinds := [.data, .data, .data, .data], laidTests := true, laidLooks := .later }
def HierMarksCardSaid : Prop := Claim7.holds Tryz.pinned (.plain (OpenSpec.ofChange hierMarksSpec)) hierMarksCard

/-- THE TIED CARD OF 'isagogelaw05.HierTrue'. -/
def hierTrueCard : Claim7 := { stood := { row := hierTrueRow, standIns := [], harness := (true, "8d8883bed3757fb7a509db6860c39eddf7d803fe272cc6766ff2b4c406be4115"), looks := true }, kinds := [], alts := [], laidByText := true, laidKinds := [.data, .data, .data, .data], laidTests := true, laidLooks := .later }
def HierTrueCardSaid : Prop := Claim7.holds Tryz.pinned (.plain (OpenSpec.ofChange hierTrueSpec)) hierTrueCard

/-- THE TIED CARD OF 'isagogelaw05.HierOrder'. -/
def hierOrderCard : Claim7 := { stood := { row := hierOrderRow, standIns := [], harness := (true, "8d8883bed3757fb7a509db6860c39eddf7d803fe272cc6766ff2b4c406be4115"), looks := true }, kinds := [], alts := [], laidByText := true, laidKinds := [.data, .data, .data, .data], laidTests := true, laidLooks := .later }
def HierOrderCardSaid : Prop := Claim7.holds Tryz.pinned (.plain (OpenSpec.ofChange hierOrderSpec)) hierOrderCard

/-- THE TIED CARD OF 'isagogelaw05.HierTypes'. -/
def hierTypesCard : Claim7 := { stood := { row := hierTypesRow, standIns := [], harness := (true, "8d8883bed3757fb7a509db6860c39eddf7d803fe272cc6766ff2b4c406be4115"), looks := true }, kinds := [], alts := [], laidByText := true, laidKinds := [.data, .data, .data, .data], laidTests := true, laidLooks := .later }
def HierTypesCardSaid : Prop := Claim7.holds Tryz.pinned (.plain (OpenSpec.ofChange hierTypesSpec)) hierTypesCard

/-- THE TIED CARD OF 'isagogelaw05.HierOwn'. -/
def hierOwnCard : Claim7 := { stood := { row := hierOwnRow, standIns := [], harness := (true, "8d8883bed3757fb7a509db6860c39eddf7d803fe272cc6766ff2b4c406be4115"), looks := true }, kinds := [], alts := [], laidByText := true, laidKinds := [.data, .data, .data, .data], laidTests := true, laidLooks := .later }
def HierOwnCardSaid : Prop := Claim7.holds Tryz.pinned (.plain (OpenSpec.ofChange hierOwnSpec)) hierOwnCard

/-- THE TIED CARD OF 'isagogelaw07.ProofChecks'. -/
def proofChecksCard : Claim7 := { stood := { row := proofChecksRow, standIns := [], harness := (true, "8d8883bed3757fb7a509db6860c39eddf7d803fe272cc6766ff2b4c406be4115"), looks := true }, kinds := [], alts := [], laidByText := true, laidKinds := [.data, .data, .data], laidTests := true, laidLooks := .later }
def ProofChecksCardSaid : Prop := Claim7.holds Tryz.pinned (.plain (OpenSpec.ofChange proofChecksSpec)) proofChecksCard

/-- THE TIED CARD OF 'isagogelaw07.ProofFaults'. -/
def proofFaultsCard : Claim7 := { stood := { row := proofFaultsRow, standIns := [], harness := (true, "8d8883bed3757fb7a509db6860c39eddf7d803fe272cc6766ff2b4c406be4115"), looks := true }, kinds := [], alts := [], laidByText := true, laidKinds := [.data, .data, .data], laidTests := true, laidLooks := .later }
def ProofFaultsCardSaid : Prop := Claim7.holds Tryz.pinned (.plain (OpenSpec.ofChange proofFaultsSpec)) proofFaultsCard

/-- THE TIED CARD OF 'isagogelaw07.ProofSound'. -/
def proofSoundCard : Claim7 := { stood := { row := proofSoundRow, standIns := [], harness := (true, "8d8883bed3757fb7a509db6860c39eddf7d803fe272cc6766ff2b4c406be4115"), looks := true }, kinds := [], alts := [], laidByText := true, laidKinds := [.data, .data, .data], laidTests := true, laidLooks := .later }
def ProofSoundCardSaid : Prop := Claim7.holds Tryz.pinned (.plain (OpenSpec.ofChange proofSoundSpec)) proofSoundCard

/-- THE TIED CARD OF 'isagogelaw07.ProofWeaker'. -/
def proofWeakerCard : Claim7 := { stood := { row := proofWeakerRow, standIns := [], harness := (true, "8d8883bed3757fb7a509db6860c39eddf7d803fe272cc6766ff2b4c406be4115"), looks := true }, kinds := [], alts := [], laidByText := true, laidKinds := [.data, .data, .data], laidTests := true, laidLooks := .later }
def ProofWeakerCardSaid : Prop := Claim7.holds Tryz.pinned (.plain (OpenSpec.ofChange proofWeakerSpec)) proofWeakerCard

/-- THE TIED CARD OF 'isagogelaw07.ProofOwn'. -/
def proofOwnCard : Claim7 := { stood := { row := proofOwnRow, standIns := [], harness := (true, "8d8883bed3757fb7a509db6860c39eddf7d803fe272cc6766ff2b4c406be4115"), looks := true }, kinds := [], alts := [], laidByText := true, laidKinds := [.data, .data, .data], laidTests := true, laidLooks := .later }
def ProofOwnCardSaid : Prop := Claim7.holds Tryz.pinned (.plain (OpenSpec.ofChange proofOwnSpec)) proofOwnCard

/-- THE SECOND FORM's CARD OF 'isagogelaw03.InterpMoved'. -/
def interpMovedUptoCard : Claim7 := { stood := { row := interpMovedUptoRow, standIns := [], harness := (true, "8d8883bed3757fb7a509db6860c39eddf7d803fe272cc6766ff2b4c406be4115"), looks := true }, kinds := [], alts := [], laidByText := true, laidKinds := [.data, .data], laidTests := true, laidLooks := .later }
def InterpMovedUptoCardSaid : Prop := Claim7.holds Tryz.pinned (.plain (OpenSpec.upto interpMovedSpec)) interpMovedUptoCard

/-- THE SECOND FORM's CARD OF 'isagogelaw05.HierRoles'. -/
def hierRolesUptoCard : Claim7 := { stood := { row := hierRolesUptoRow, standIns := [], harness := (true, "8d8883bed3757fb7a509db6860c39eddf7d803fe272cc6766ff2b4c406be4115"), looks := true }, kinds := [], alts := [], laidByText := true, laidKinds := [.data, .data, .data, .data], laidTests := true, laidLooks := .later }
def HierRolesUptoCardSaid : Prop := Claim7.holds Tryz.pinned (.plain (OpenSpec.upto hierRolesSpec)) hierRolesUptoCard

/-- THE SECOND FORM's CARD OF 'isagogelaw05.HierMarks'. -/
def hierMarksUptoCard : Claim7 := { stood := { row := hierMarksUptoRow, standIns := [], harness := (true, "8d8883bed3757fb7a509db6860c39eddf7d803fe272cc6766ff2b4c406be4115"), looks := true }, kinds := [], alts := [], laidByText := true, laidKinds := [.data, .data, .data, .data], laidTests := true, laidLooks := .later }
def HierMarksUptoCardSaid : Prop := Claim7.holds Tryz.pinned (.plain (OpenSpec.upto hierMarksSpec)) hierMarksUptoCard

/-- THE SECOND FORM's CARD OF 'isagogelaw05.HierTrue'. -/
def hierTrueUptoCard : Claim7 := { stood := { row := hierTrueUptoRow, standIns := [], harness := (true, "8d8883bed3757fb7a509db6860c39eddf7d803fe272cc6766ff2b4c406be4115"), looks := true }, kinds := [], alts := [], laidByText := true, laidKinds := [.data, .data, .data, .data], laidTests := true, laidLooks := .later }
def HierTrueUptoCardSaid : Prop := Claim7.holds Tryz.pinned (.plain (OpenSpec.upto hierTrueSpec)) hierTrueUptoCard

/-- THE SECOND FORM's CARD OF 'isagogelaw05.HierOrder'. -/
def hierOrderUptoCard : Claim7 := { stood := { row := hierOrderUptoRow, standIns := [], harness := (true, "8d8883bed3757fb7a509db6860c39eddf7d803fe272cc6766ff2b4c406be4115"), looks := true }, kinds := [], alts := [], laidByText := true, laidKinds := [.data, .data, .data, .data], laidTests := true, laidLooks := .later }
def HierOrderUptoCardSaid : Prop := Claim7.holds Tryz.pinned (.plain (OpenSpec.upto hierOrderSpec)) hierOrderUptoCard

/-- THE SECOND FORM's CARD OF 'isagogelaw05.HierTypes'. -/
def hierTypesUptoCard : Claim7 := { stood := { row := hierTypesUptoRow, standIns := [], harness := (true, "8d8883bed3757fb7a509db6860c39eddf7d803fe272cc6766ff2b4c406be4115"), looks := true }, kinds := [], alts := [], laidByText := true, laidKinds := [.data, .data, .data, .data], laidTests := true, laidLooks := .later }
def HierTypesUptoCardSaid : Prop := Claim7.holds Tryz.pinned (.plain (OpenSpec.upto hierTypesSpec)) hierTypesUptoCard

/-- THE SECOND FORM's CARD OF 'isagogelaw05.HierOwn'. -/
def hierOwnUptoCard : Claim7 := { stood := { row := hierOwnUptoRow, standIns := [], harness := (true, "8d8883bed3757fb7a509db6860c39eddf7d803fe272cc6766ff2b4c406be4115"), looks := true }, kinds := [], alts := [], laidByText := true, laidKinds := [.data, .data, .data, .data], laidTests := true, laidLooks := .later }
def HierOwnUptoCardSaid : Prop := Claim7.holds Tryz.pinned (.plain (OpenSpec.upto hierOwnSpec)) hierOwnUptoCard

/-- THE SECOND FORM's CARD OF 'isagogelaw07.ProofChecks'. -/
def proofChecksUptoCard : Claim7 := { stood := { row := proofChecksUptoRow, standIns := [], harness := (true, "8d8883bed3757fb7a509db6860c39eddf7d803fe272cc6766ff2b4c406be4115"), looks := true }, kinds := [], alts := [], laidByText := true, laidKinds := [.data, .data, .data], laidTests := true, laidLooks := .later }
def ProofChecksUptoCardSaid : Prop := Claim7.holds Tryz.pinned (.plain (OpenSpec.upto proofChecksSpec)) proofChecksUptoCard

/-- THE SECOND FORM's CARD OF 'isagogelaw07.ProofFaults'. -/
def proofFaultsUptoCard : Claim7 := { stood := { row := proofFaultsUptoRow, standIns := [], harness := (true, "8d8883bed3757fb7a509db6860c39eddf7d803fe272cc6766ff2b4c406be4115"), looks := true }, kinds := [], alts := [], laidByText := true, laidKinds := [.data, .data, .data], laidTests := true, laidLooks := .later }
def ProofFaultsUptoCardSaid : Prop := Claim7.holds Tryz.pinned (.plain (OpenSpec.upto proofFaultsSpec)) proofFaultsUptoCard

/-- THE SECOND FORM's CARD OF 'isagogelaw07.ProofSound'. -/
def proofSoundUptoCard : Claim7 := { stood := { row := proofSoundUptoRow, standIns := [], harness := (true, "8d8883bed3757fb7a509db6860c39eddf7d803fe272cc6766ff2b4c406be4115"), looks := true }, kinds := [], alts := [], laidByText := true, laidKinds := [.data, .data, .data], laidTests := true, laidLooks := .later }
def ProofSoundUptoCardSaid : Prop := Claim7.holds Tryz.pinned (.plain (OpenSpec.upto proofSoundSpec)) proofSoundUptoCard

/-- THE SECOND FORM's CARD OF 'isagogelaw07.ProofWeaker'. -/
def proofWeakerUptoCard : Claim7 := { stood := { row := proofWeakerUptoRow, standIns := [], harness := (true, "8d8883bed3757fb7a509db6860c39eddf7d803fe272cc6766ff2b4c406be4115"), looks := true }, kinds := [], alts := [], laidByText := true, laidKinds := [.data, .data, .data], laidTests := true, laidLooks := .later }
def ProofWeakerUptoCardSaid : Prop := Claim7.holds Tryz.pinned (.plain (OpenSpec.upto proofWeakerSpec)) proofWeakerUptoCard

/-- THE SECOND FORM's CARD OF 'isagogelaw07.ProofOwn'. -/
def proofOwnUptoCard : Claim7 := { stood := { row := proofOwnUptoRow, standIns := [], harness := (true, "8d8883bed3757fb7a509db6860c39eddf7d803fe272cc6766ff2b4c406be4115"), looks := true }, kinds := [], alts := [], laidByText := true, laidKinds := [.data, .data, .data], laidTests := true, laidLooks := .later }
def ProofOwnUptoCardSaid : Prop := Claim7.holds Tryz.pinned (.plain (OpenSpec.upto proofOwnSpec)) proofOwnUptoCard
end Rows
end Go.Proofs.YtffibneelaeocaaGreatDoor
