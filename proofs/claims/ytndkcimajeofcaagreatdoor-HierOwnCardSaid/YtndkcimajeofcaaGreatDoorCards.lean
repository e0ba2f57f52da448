/-
  DERIVED. GIVEN WITH THE SEED: THE CARDS: each row of YtndkcimajeofcaaGreatDoorRows.lean that lists a variable, with what it lists TIED to the program's text (the seventh form; the later family's looks); each row that meets fmt, with fmt's text TOLD by the authors' own Lean function (tested against real Go, not proved from fmt's source: count such statements apart). THE CARD IS WHAT COUNTS. Prove the row's statement (the work); the ties are given (YtndkcimajeofcaaGreatDoorTie.lean); close each card by the builder's one call (the guide's Derived/Test/ToyasCard.lean, 'card_holds'). Laid BY PROGRAM, IN A SANDBOX (cutbox-door.mjs). By AI agents, Wed Nov 11 2026. No macro, syntax, notation, axiom, sorry.
-/
import Derived.Test.YtndkcimajeofcaaGreatDoorRows
import GoSem.ClaimSeven
namespace Go.Proofs.YtndkcimajeofcaaGreatDoor
namespace Rows

/-- THE TIED CARD OF 'isagogelaw03.InterpMoved'. -/
def interpMovedCard : Claim7 := { stood := { row := interpMovedRow, standIns := [], harness := (true, "ca6f68c75bb7302c8ac2ca0367b7c0c998ca8294bf7b918652c2c4e477cd72cf"), looks := false }, kinds := [], alts := [], laidByText := true, laidKinds := [.data, .data], laidTests := true, laidLooks := .later }
def InterpMovedCardSaid : Prop := Claim7.holds Tryz.pinned (.plain (OpenSpec.ofChange interpMovedSpec)) interpMovedCard

/-- THE TIED CARD OF 'isagogelaw05.HierRoles'. -/
def hierRolesCard : Claim7 := { stood := { row := hierRolesRow, standIns := [], harness := (true, "ca6f68c75bb7302c8ac2ca0367b7c0c998ca8294bf7b918652c2c4e477cd72cf"), looks := false }, kinds := [], alts := [], laidByText := true, laidKinds := [.data, .data, .data, .data], laidTests := true, laidLooks := .later }
def HierRolesCardSaid : Prop := Claim7.holds Tryz.pinned (.plain (OpenSpec.ofChange hierRolesSpec)) hierRolesCard

/-- THE TIED CARD OF 'isagogelaw05.HierMarks'. -/
def hierMarksCard : Claim7 := { stood := { row := hierMarksRow, standIns := [], harness := (true, "ca6f68c75bb7302c8ac2ca0367b7c0c998ca8294bf7b918652c2c4e477cd72cf"), looks := false }, kinds := [], alts := [], laidByText := true, laidKinds := [.data, .data, .data, .data], laidTests := true, laidLooks := .later }
def HierMarksCardSaid : Prop := Claim7.holds Tryz.pinned (.plain (OpenSpec.ofChange hierMarksSpec)) hierMarksCard

/-- THE TIED CARD OF 'isagogelaw05.HierTrue'. -/
def hierTrueCard : Claim7 := { stood := { row := hierTrueRow, standIns := [], harness := (true, "ca6f68c75bb7302c8ac2ca0367b7c0c998ca8294bf7b918652c2c4e477cd72cf"), looks := false }, kinds := [], alts := [], laidByText := true, laidKinds := [.data, .data, .data, .data], laidTests := true, laidLooks := .later }
def HierTrueCardSaid : Prop := Claim7.holds Tryz.pinned (.plain (OpenSpec.ofChange hierTrueSpec)) hierTrueCard

/-- THE TIED CARD OF 'isagogelaw05.HierOrder'. -/
def hierOrderCard : Claim7 := { stood := { row := hierOrderRow, standIns := [], harness := (true, "ca6f68c75bb7302c8ac2ca0367b7c0c998ca8294bf7b918652c2c4e477cd72cf"), looks := false }, kinds := [], alts := [], laidByText := true, laidKinds := [.data, .data, .data, .data], laidTests := true, laidLooks := .later }
def HierOrderCardSaid : Prop := Claim7.holds Tryz.pinned (.plain (OpenSpec.ofChange hierOrderSpec)) hierOrderCard

/-- THE TIED CARD OF 'isagogelaw05.HierTypes'. -/
def hierTypesCard : Claim7 := { stood := { row := hierTypesRow, standIns := [], harness := (true, "ca6f68c75bb7302c8ac2ca0367b7c0c998ca8294bf7b918652c2c4e477cd72cf"), looks := false }, kinds := [], alts := [], laidByText := true, laidKinds := [.data, .data, .data, .data], laidTests := true, laidLooks := .later }
def HierTypesCardSaid : Prop := Claim7.holds Tryz.pinned (.plain (OpenSpec.ofChange hierTypesSpec)) hierTypesCard

/-- THE TIED CARD OF 'isagogelaw05.HierOwn'. -/
def hierOwnCard : Claim7 := { stood := { row := hierOwnRow, standIns := [], harness := (true, "ca6f68c75bb7302c8ac2ca0367b7c0c998ca8294bf7b918652c2c4e477cd72cf"), looks := false }, kinds := [], alts := [], laidByText := true, laidKinds := [.data, .data, .data, .data], laidTests := true, laidLooks := .later }
def HierOwnCardSaid : Prop := Claim7.holds Tryz.pinned (.plain (OpenSpec.ofChange hierOwnSpec)) hierOwnCard

/-- THE SECOND FORM's CARD OF 'isagogelaw03.InterpMoved'. -/
def interpMovedUptoCard : Claim7 := { stood := { row := interpMovedUptoRow, standIns := [], harness := (true, "ca6f68c75bb7302c8ac2ca0367b7c0c998ca8294bf7b918652c2c4e477cd72cf"), looks := false }, kinds := [], alts := [], laidByText := true, laidKinds := [.data, .data], laidTests := true, laidLooks := .later }
def InterpMovedUptoCardSaid : Prop := Claim7.holds Tryz.pinned (.plain (OpenSpec.upto interpMovedSpec)) interpMovedUptoCard

/-- THE SECOND FORM's CARD OF 'isagogelaw05.HierRoles'. -/
def hierRolesUptoCard : Claim7 := { stood := { row := hierRolesUptoRow, standIns := [], harness := (true, "ca6f68c75bb7302c8ac2ca0367b7c0c998ca8294bf7b918652c2c4e477cd72cf"), looks := false }, kinds := [], alts := [], laidByText := true, laidKinds := [.data, .data, .data, .data], laidTests := true, laidLooks := .later }
def HierRolesUptoCardSaid : Prop := Claim7.holds Tryz.pinned (.plain (OpenSpec.upto hierRolesSpec)) hierRolesUptoCard

/-- THE SECOND FORM's CARD OF 'isagogelaw05.HierMarks'. -/
def hierMarksUptoCard : Claim7 := { stood := { row := hierMarksUptoRow, standIns := [], harness := (true, "ca6f68c75bb7302c8ac2ca0367b7c0c998ca8294bf7b918652c2c4e477cd72cf"), looks := false }, kinds := [], alts := [], laidByText := true, laidKinds := [.data, .data, .data, .data], laidTests := true, laidLooks := .later }
def HierMarksUptoCardSaid : Prop := Claim7.holds Tryz.pinned (.plain (OpenSpec.upto hierMarksSpec)) hierMarksUptoCard

/-- THE SECOND FORM's CARD OF 'isagogelaw05.HierTrue'. -/
def hierTrueUptoCard : Claim7 := { stood := { row := hierTrueUptoRow, standIns := [], harness := (true, "ca6f68c75bb7302c8ac2ca0367b7c0c998ca8294bf7b918652c2c4e477cd72cf"), looks := false }, kinds := [], alts := [], laidByText := true, laidKinds := [.data, .data, .data, .data], laidTests := true, laidLooks := .later }
def HierTrueUptoCardSaid : Prop := Claim7.holds Tryz.pinned (.plain (OpenSpec.upto hierTrueSpec)) hierTrueUptoCard

/-- THE SECOND FORM's CARD OF 'isagogelaw05.HierOrder'. -/
def hierOrderUptoCard : Claim7 := { stood := { row := hierOrderUptoRow, standIns := [], harness := (true, "ca6f68c75bb7302c8ac2ca0367b7c0c998ca8294bf7b918652c2c4e477cd72cf"), looks := false }, kinds := [], alts := [], laidByText := true, laidKinds := [.data, .data, .data, .data], laidTests := true, laidLooks := .later }
def HierOrderUptoCardSaid : Prop := Claim7.holds Tryz.pinned (.plain (OpenSpec.upto hierOrderSpec)) hierOrderUptoCard

/-- THE SECOND FORM's CARD OF 'isagogelaw05.HierTypes'. -/
def hierTypesUptoCard : Claim7 := { stood := { row := hierTypesUptoRow, standIns := [], harness := (true, "ca6f68c75bb7302c8ac2ca0367b7c0c998ca8294bf7b918652c2c4e477cd72cf"), looks := false }, kinds := [], alts := [], laidByText := true, laidKinds := [.data, .data, .data, .data], laidTests := true, laidLooks := .later }
def HierTypesUptoCardSaid : Prop := Claim7.holds Tryz.pinned (.plain (OpenSpec.upto hierTypesSpec)) hierTypesUptoCard

/-- THE SECOND FORM's CARD OF 'isagogelaw05.HierOwn'. -/
def hierOwnUptoCard : Claim7 := { stood := { row := hierOwnUptoRow, standIns := [], harness := (true, "ca6f68c75bb7302c8ac2ca0367b7c0c998ca8294bf7b918652c2c4e477cd72cf"), looks := false }, kinds := [], alts := [], laidByText := true, laidKinds := [.data, .data, .data, .data], laidTests := true, laidLooks := .later }
def HierOwnUptoCardSaid : Prop := Claim7.holds Tryz.pinned (.plain (OpenSpec.upto hierOwnSpec)) hierOwnUptoCard
end Rows
end Go.Proofs.YtndkcimajeofcaaGreatDoor
