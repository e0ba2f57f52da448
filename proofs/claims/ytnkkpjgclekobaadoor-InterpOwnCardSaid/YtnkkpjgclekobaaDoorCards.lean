/-
  DERIVED. GIVEN WITH THE SEED: THE CARDS: each row of YtnkkpjgclekobaaDoorRows.lean that lists a variable, with what it lists TIED to the program's text (the seventh form; the later family's looks); each row that meets fmt, with fmt's text TOLD by the authors' own Lean function (tested against real Go, not proved from fmt's source: count such statements apart). THE CARD IS WHAT COUNTS. Prove the row's statement (the work); the ties are given (YtnkkpjgclekobaaDoorTie.lean); close each card by the builder's one call (the guide's Derived/Test/ToyasCard.lean, 'card_holds'). Laid BY PROGRAM, IN A SANDBOX (cutbox-door.mjs). By AI agents, Wed Nov 11 2026. No macro, syntax, notation, axiom, sorry.
-/
import Derived.Test.YtnkkpjgclekobaaDoorRows
import GoSem.ClaimSeven
namespace Go.Proofs.YtnkkpjgclekobaaDoor
namespace Rows

/-- THE TIED CARD OF 'isagogelaw01.ConceptOwn'. -/
def conceptOwnCard : Claim7 := { stood := { row := conceptOwnRow, standIns := [], harness := (true, "e860a34fdf60c537aae7256854d0f027c304e4e15d6c4c1c8c158c47ce432753"), looks := false }, kinds := [], alts := [], laidByText := true, laidKinds := [.data, .data, .data], laidTests := true, laidLooks := .later }
def ConceptOwnCardSaid : Prop := Claim7.holds Tryd.pinned (.plain (OpenSpec.ofChange conceptOwnSpec)) conceptOwnCard

/-- THE TIED CARD OF 'isagogelaw03.InterpOwn'. -/
def interpOwnCard : Claim7 := { stood := { row := interpOwnRow, standIns := [], harness := (true, "e860a34fdf60c537aae7256854d0f027c304e4e15d6c4c1c8c158c47ce432753"), looks := false }, kinds := [], alts := [], laidByText := true, laidKinds := [.data, .data], laidTests := true, laidLooks := .later }
def InterpOwnCardSaid : Prop := Claim7.holds Tryd.pinned (.plain (OpenSpec.ofChange interpOwnSpec)) interpOwnCard

/-- THE TIED CARD OF 'isagogelaw05.HierTypes'. -/
def hierTypesCard : Claim7 := { stood := { row := hierTypesRow, standIns := [], harness := (true, "e860a34fdf60c537aae7256854d0f027c304e4e15d6c4c1c8c158c47ce432753"), looks := false }, kinds := [], alts := [], laidByText := true, laidKinds := [.data, .data, .data, .data], laidTests := true, laidLooks := .later }
def HierTypesCardSaid : Prop := Claim7.holds Tryd.pinned (.plain (OpenSpec.ofChange hierTypesSpec)) hierTypesCard

/-- THE SECOND FORM's CARD OF 'isagogelaw01.ConceptOwn'. -/
def conceptOwnUptoCard : Claim7 := { stood := { row := conceptOwnUptoRow, standIns := [], harness := (true, "e860a34fdf60c537aae7256854d0f027c304e4e15d6c4c1c8c158c47ce432753"), looks := false }, kinds := [], alts := [], laidByText := true, laidKinds := [.data, .data, .data], laidTests := true, laidLooks := .later }
def ConceptOwnUptoCardSaid : Prop := Claim7.holds Tryd.pinned (.plain (OpenSpec.upto conceptOwnSpec)) conceptOwnUptoCard

/-- THE SECOND FORM's CARD OF 'isagogelaw03.InterpOwn'. -/
def interpOwnUptoCard : Claim7 := { stood := { row := interpOwnUptoRow, standIns := [], harness := (true, "e860a34fdf60c537aae7256854d0f027c304e4e15d6c4c1c8c158c47ce432753"), looks := false }, kinds := [], alts := [], laidByText := true, laidKinds := [.data, .data], laidTests := true, laidLooks := .later }
def InterpOwnUptoCardSaid : Prop := Claim7.holds Tryd.pinned (.plain (OpenSpec.upto interpOwnSpec)) interpOwnUptoCard

/-- THE SECOND FORM's CARD OF 'isagogelaw05.HierTypes'. -/
def hierTypesUptoCard : Claim7 := { stood := { row := hierTypesUptoRow, standIns := [], harness := (true, "e860a34fdf60c537aae7256854d0f027c304e4e15d6c4c1c8c158c47ce432753"), looks := false }, kinds := [], alts := [], laidByText := true, laidKinds := [.data, .data, .data, .data], laidTests := true, laidLooks := .later }
def HierTypesUptoCardSaid : Prop := Claim7.holds Tryd.pinned (.plain (OpenSpec.upto hierTypesSpec)) hierTypesUptoCard
end Rows
end Go.Proofs.YtnkkpjgclekobaaDoor
