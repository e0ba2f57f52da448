/-
  DERIVED. GIVEN WITH THE SEED: THE CARDS: each row of YtdfghgcfihhmjaaDoorRows.lean that lists a variable, with what it lists TIED to the program's text (the seventh form; the later family's looks); each row that meets fmt, with fmt's text TOLD by the authors' own Lean function (tested against real Go, not proved from fmt's source: count such statements apart). THE CARD IS WHAT COUNTS. Prove the row's statement (the work); the ties are given (YtdfghgcfihhmjaaDoorTie.lean); close each card by the builder's one call (the guide's Derived/Test/ToyasCard.lean, 'card_holds'). Laid BY PROGRAM, IN A SANDBOX (cutbox-door.mjs). By AI agents, Wed Nov 11 2026. No macro, syntax, notation, axiom, sorry.
-/
import Derived.Test.YtdfghgcfihhmjaaDoorRows
import GoSem.ClaimSeven
namespace Go.Proofs.YtdfghgcfihhmjaaDoor
namespace Rows

/-- THE TIED CARD OF 'isagogelaw01.ConceptForms'. -/
def conceptFormsCard : Claim7 := { stood := { row := conceptFormsRow, standIns := [], harness := (true, "aea210a735f377864514c8a5438c2d9424f7228361643d6fe8343c916c736b76"), looks := false }, kinds := [], alts := [], laidByText := true, laidKinds := [.data, .data, .data], laidTests := true, laidLooks := .later }
def ConceptFormsCardSaid : Prop := Claim7.holds Tryd.pinned (.plain (OpenSpec.ofChange conceptFormsSpec)) conceptFormsCard

/-- THE TIED CARD OF 'isagogelaw01.ConceptNormal'. -/
def conceptNormalCard : Claim7 := { stood := { row := conceptNormalRow, standIns := [], harness := (true, "aea210a735f377864514c8a5438c2d9424f7228361643d6fe8343c916c736b76"), looks := false }, kinds := [], alts := [], laidByText := true, laidKinds := [.data, .data, .data], laidTests := true, laidLooks := .later }
def ConceptNormalCardSaid : Prop := Claim7.holds Tryd.pinned (.plain (OpenSpec.ofChange conceptNormalSpec)) conceptNormalCard

/-- THE TIED CARD OF 'isagogelaw01.ConceptParts'. -/
def conceptPartsCard : Claim7 := { stood := { row := conceptPartsRow, standIns := [], harness := (true, "aea210a735f377864514c8a5438c2d9424f7228361643d6fe8343c916c736b76"), looks := false }, kinds := [], alts := [], laidByText := true, laidKinds := [.data, .data, .data], laidTests := true, laidLooks := .later }
def ConceptPartsCardSaid : Prop := Claim7.holds Tryd.pinned (.plain (OpenSpec.ofChange conceptPartsSpec)) conceptPartsCard

/-- THE TIED CARD OF 'isagogelaw01.ConceptTexts'. -/
def conceptTextsCard : Claim7 := { stood := { row := conceptTextsRow, standIns := [], harness := (true, "aea210a735f377864514c8a5438c2d9424f7228361643d6fe8343c916c736b76"), looks := false }, kinds := [], alts := [], laidByText := true, laidKinds := [.data, .data, .data], laidTests := true, laidLooks := .later }
def ConceptTextsCardSaid : Prop := Claim7.holds Tryd.pinned (.plain (OpenSpec.ofChange conceptTextsSpec)) conceptTextsCard

/-- THE TIED CARD OF 'isagogelaw01.ConceptBack'. -/
def conceptBackCard : Claim7 := { stood := { row := conceptBackRow, standIns := [], harness := (true, "aea210a735f377864514c8a5438c2d9424f7228361643d6fe8343c916c736b76"), looks := false }, kinds := [], alts := [], laidByText := true, laidKinds := [.data, .data, .data], laidTests := true, laidLooks := .later }
def ConceptBackCardSaid : Prop := Claim7.holds Tryd.pinned (.plain (OpenSpec.ofChange conceptBackSpec)) conceptBackCard

/-- THE TIED CARD OF 'isagogelaw01.ConceptOwn'. -/
def conceptOwnCard : Claim7 := { stood := { row := conceptOwnRow, standIns := [], harness := (true, "aea210a735f377864514c8a5438c2d9424f7228361643d6fe8343c916c736b76"), looks := false }, kinds := [], alts := [], laidByText := true, laidKinds := [.data, .data, .data], laidTests := true, laidLooks := .later }
def ConceptOwnCardSaid : Prop := Claim7.holds Tryd.pinned (.plain (OpenSpec.ofChange conceptOwnSpec)) conceptOwnCard

/-- THE TIED CARD OF 'isagogelaw03.InterpForms'. -/
def interpFormsCard : Claim7 := { stood := { row := interpFormsRow, standIns := [], harness := (true, "aea210a735f377864514c8a5438c2d9424f7228361643d6fe8343c916c736b76"), looks := false }, kinds := [], alts := [], laidByText := true, laidKinds := [.data, .data], laidTests := true, laidLooks := .later }
def InterpFormsCardSaid : Prop := Claim7.holds Tryd.pinned (.plain (OpenSpec.ofChange interpFormsSpec)) interpFormsCard

/-- THE TIED CARD OF 'isagogelaw03.InterpElements'. -/
def interpElementsCard : Claim7 := { stood := { row := interpElementsRow, standIns := [], harness := (true, "aea210a735f377864514c8a5438c2d9424f7228361643d6fe8343c916c736b76"), looks := false }, kinds := [], alts := [], laidByText := true, laidKinds := [.data, .data], laidTests := true, laidLooks := .later }
def InterpElementsCardSaid : Prop := Claim7.holds Tryd.pinned (.plain (OpenSpec.ofChange interpElementsSpec)) interpElementsCard

/-- THE TIED CARD OF 'isagogelaw03.InterpBoolean'. -/
def interpBooleanCard : Claim7 := { stood := { row := interpBooleanRow, standIns := [], harness := (true, "aea210a735f377864514c8a5438c2d9424f7228361643d6fe8343c916c736b76"), looks := false }, kinds := [], alts := [], laidByText := true, laidKinds := [.data, .data, .data], laidTests := true, laidLooks := .later }
def InterpBooleanCardSaid : Prop := Claim7.holds Tryd.pinned (.plain (OpenSpec.ofChange interpBooleanSpec)) interpBooleanCard

/-- THE TIED CARD OF 'isagogelaw03.InterpOwn'. -/
def interpOwnCard : Claim7 := { stood := { row := interpOwnRow, standIns := [], harness := (true, "aea210a735f377864514c8a5438c2d9424f7228361643d6fe8343c916c736b76"), looks := false }, kinds := [], alts := [], laidByText := true, laidKinds := [.data, .data], laidTests := true, laidLooks := .later }
def InterpOwnCardSaid : Prop := Claim7.holds Tryd.pinned (.plain (OpenSpec.ofChange interpOwnSpec)) interpOwnCard

/-- THE SECOND FORM's CARD OF 'isagogelaw01.ConceptForms'. -/
def conceptFormsUptoCard : Claim7 := { stood := { row := conceptFormsUptoRow, standIns := [], harness := (true, "aea210a735f377864514c8a5438c2d9424f7228361643d6fe8343c916c736b76"), looks := false }, kinds := [], alts := [], laidByText := true, laidKinds := [.data, .data, .data], laidTests := true, laidLooks := .later }
def ConceptFormsUptoCardSaid : Prop := Claim7.holds Tryd.pinned (.plain (OpenSpec.upto conceptFormsSpec)) conceptFormsUptoCard

/-- THE SECOND FORM's CARD OF 'isagogelaw01.ConceptNormal'. -/
def conceptNormalUptoCard : Claim7 := { stood := { row := conceptNormalUptoRow, standIns := [], harness := (true, "aea210a735f377864514c8a5438c2d9424f7228361643d6fe8343c916c736b76"), looks := false }, kinds := [], alts := [], laidByText := true, laidKinds := [.data, .data, .data], laidTests := true, laidLooks := .later }
def ConceptNormalUptoCardSaid : Prop := Claim7.holds Tryd.pinned (.plain (OpenSpec.upto conceptNormalSpec)) conceptNormalUptoCard

/-- THE SECOND FORM's CARD OF 'isagogelaw01.ConceptParts'. -/
def conceptPartsUptoCard : Claim7 := { stood := { row := conceptPartsUptoRow, standIns := [], harness := (true, "aea210a735f377864514c8a5438c2d9424f7228361643d6fe8343c916c736b76"), looks := false }, kinds := [], alts := [], laidByText := true, laidKinds := [.data, .data, .data], laidTests := true, laidLooks := .later }
def ConceptPartsUptoCardSaid : Prop := Claim7.holds Tryd.pinned (.plain (OpenSpec.upto conceptPartsSpec)) conceptPartsUptoCard

/-- THE SECOND FORM's CARD OF 'isagogelaw01.ConceptTexts'. -/
def conceptTextsUptoCard : Claim7 := { stood := { row := conceptTextsUptoRow, standIns := [], harness := (true, "aea210a735f377864514c8a5438c2d9424f7228361643d6fe8343c916c736b76"), looks := false }, kinds := [], alts := [], laidByText := true, laidKinds := [.data, .data, .data], laidTests := true, laidLooks := .later }
def ConceptTextsUptoCardSaid : Prop := Claim7.holds Tryd.pinned (.plain (OpenSpec.upto conceptTextsSpec)) conceptTextsUptoCard

/-- THE SECOND FORM's CARD OF 'isagogelaw01.ConceptBack'. -/
def conceptBackUptoCard : Claim7 := { stood := { row := conceptBackUptoRow, standIns := [], harness := (true, "aea210a735f377864514c8a5438c2d9424f7228361643d6fe8343c916c736b76"), looks := false }, kinds := [], alts := [], laidByText := true, laidKinds := [.data, .data, .data], laidTests := true, laidLooks := .later }
def ConceptBackUptoCardSaid : Prop := Claim7.holds Tryd.pinned (.plain (OpenSpec.upto conceptBackSpec)) conceptBackUptoCard

/-- THE SECOND FORM's CARD OF 'isagogelaw01.ConceptOwn'. -/
def conceptOwnUptoCard : Claim7 := { stood := { row := conceptOwnUptoRow, standIns := [], harness := (true, "aea210a735f377864514c8a5438c2d9424f7228361643d6fe8343c916c736b76"), looks := false }, kinds := [], alts := [], laidByText := true, laidKinds := [.data, .data, .data], laidTests := true, laidLooks := .later }
def ConceptOwnUptoCardSaid : Prop := Claim7.holds Tryd.pinned (.plain (OpenSpec.upto conceptOwnSpec)) conceptOwnUptoCard

/-- THE SECOND FORM's CARD OF 'isagogelaw03.InterpForms'. -/
def interpFormsUptoCard : Claim7 := { stood := { row := interpFormsUptoRow, standIns := [], harness := (true, "aea210a735f377864514c8a5438c2d9424f7228361643d6fe8343c916c736b76"), looks := false }, kinds := [], alts := [], laidByText := true, laidKinds := [.data, .data], laidTests := true, laidLooks := .later }
def InterpFormsUptoCardSaid : Prop := Claim7.holds Tryd.pinned (.plain (OpenSpec.upto interpFormsSpec)) interpFormsUptoCard

/-- THE SECOND FORM's CARD OF 'isagogelaw03.InterpElements'. -/
def interpElementsUptoCard : Claim7 := { stood := { row := interpElementsUptoRow, standIns := [], harness := (true, "aea210a735f377864514c8a5438c2d9424f7228361643d6fe8343c916c736b76"), looks := false }, kinds := [], alts := [], laidByText := true, laidKinds := [.data, .data], laidTests := true, laidLooks := .later }
def InterpElementsUptoCardSaid : Prop := Claim7.holds Tryd.pinned (.plain (OpenSpec.upto interpElementsSpec)) interpElementsUptoCard

/-- THE SECOND FORM's CARD OF 'isagogelaw03.InterpBoolean'. -/
def interpBooleanUptoCard : Claim7 := { stood := { row := interpBooleanUptoRow, standIns := [], harness := (true, "aea210a735f377864514c8a5438c2d9424f7228361643d6fe8343c916c736b76"), looks := false }, kinds := [], alts := [], laidByText := true, laidKinds := [.data, .data, .data], laidTests := true, laidLooks := .later }
def InterpBooleanUptoCardSaid : Prop := Claim7.holds Tryd.pinned (.plain (OpenSpec.upto interpBooleanSpec)) interpBooleanUptoCard

/-- THE SECOND FORM's CARD OF 'isagogelaw03.InterpOwn'. -/
def interpOwnUptoCard : Claim7 := { stood := { row := interpOwnUptoRow, standIns := [], harness := (true, "aea210a735f377864514c8a5438c2d9424f7228361643d6fe8343c916c736b76"), looks := false }, kinds := [], alts := [], laidByText := true, laidKinds := [.data, .data], laidTests := true, laidLooks := .later }
def InterpOwnUptoCardSaid : Prop := Claim7.holds Tryd.pinned (.plain (OpenSpec.upto interpOwnSpec)) interpOwnUptoCard
end Rows
end Go.Proofs.YtdfghgcfihhmjaaDoor
