/-
  WHAT IS PROVED: for all names and every concept of at most 3000 nodes, the law ConceptParts (promise P1.3) answers true and leaves its arguments as they were: Subs returns the concept's subconcepts, each once, in the order of the walk, and Uses its names in increasing order, or both return the error; larger concepts, and tables of names beyond the law's bounds, the law passes over.
  CONDITIONS: those of the given row and card, and no other: the three listed tables of package concept hold, when the call begins, what the program's text lays into them (the card ties them to the text); the call is followed until it returns.
-/
import Derived.Test.YtfecjdffnklkaaaDoorRow3
import Derived.Test.YtfecjdffnklkaaaDoorTie
import Derived.Test.YtfecjdffnklkaaaDoorCards
import Derived.SevenTiedAt
namespace Go.Proofs.YtfecjdffnklkaaaDoor

/-- THE TIED CARD OF ConceptParts HOLDS. -/
theorem conceptParts_card : Rows.ConceptPartsCardSaid :=
  Claim7.holds_tied_plain_at .later [] [.data, .data, .data] true (true, "36fe8a9c987fbef9330e1c2149dc3b3190940438822f7dce5ff244da6e515cb7") false
    conceptParts_holds (fun _ h => by cases h) (by kernel_rfl) (fun _ h => by cases h) conceptParts_row_tie rfl ⟨rfl, rfl⟩ (by kernel_rfl) rfl
    (fun f fn hf hfn => by
      obtain rfl : f = 5 := Option.some.inj ((show Tryd.prog.funcNamed "isagoge/isagogelaw01.ConceptParts" = some 5 by kernel_rfl).symm.trans hf) |>.symm
      obtain rfl : fn = Tryd.f5 := (Option.some.inj (Tryd.func5.symm.trans hfn)).symm
      exact ⟨by kernel_rfl, fun j t ht => by
        rw [Tryd.params5] at ht
        have h3 : t = 24 ∨ t = 27 := by
          rcases j with _ | _ | j
          · exact .inl (by simpa using ht.symm)
          · exact .inr (by simpa using ht.symm)
          · simp at ht
        rcases h3 with rfl | rfl
        · exact (show Tryd.prog.wantsStandIn 24 = false by kernel_rfl)
        · exact (show Tryd.prog.wantsStandIn 27 = false by kernel_rfl)⟩)
    (by kernel_rfl)
#print axioms conceptParts_card
end Go.Proofs.YtfecjdffnklkaaaDoor
