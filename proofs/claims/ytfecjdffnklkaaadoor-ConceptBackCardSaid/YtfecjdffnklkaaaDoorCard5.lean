/-
  WHAT IS PROVED: for all names and every concept, the law ConceptBack (promises P1.5 and P1.6) answers true and leaves its arguments as they were: parsing the string of a valid concept returns it; a normal form has negations of names alone and is its own normal form, and the negation of the negation is the normal form.
  CONDITIONS: those of the given row and card, and no other: the three listed tables of package concept hold, when the call begins, what the program's text lays into them (the card ties them to the text); the call is followed until it returns.
-/
import Derived.Test.YtfecjdffnklkaaaDoorRow5
import Derived.Test.YtfecjdffnklkaaaDoorTie
import Derived.Test.YtfecjdffnklkaaaDoorCards
import Derived.SevenTiedAt
namespace Go.Proofs.YtfecjdffnklkaaaDoor

/-- THE TIED CARD OF ConceptBack HOLDS. -/
theorem conceptBack_card : Rows.ConceptBackCardSaid :=
  Claim7.holds_tied_plain_at .later [] [.data, .data, .data] true (true, "36fe8a9c987fbef9330e1c2149dc3b3190940438822f7dce5ff244da6e515cb7") false
    conceptBack_holds (fun _ h => by cases h) (by kernel_rfl) (fun _ h => by cases h) conceptBack_row_tie rfl ⟨rfl, rfl⟩ (by kernel_rfl) rfl
    (fun f fn hf hfn => by
      obtain rfl : f = 7 := Option.some.inj ((show Tryd.prog.funcNamed "isagoge/isagogelaw01.ConceptBack" = some 7 by kernel_rfl).symm.trans hf) |>.symm
      obtain rfl : fn = Tryd.f7 := (Option.some.inj (Tryd.func7.symm.trans hfn)).symm
      exact ⟨by kernel_rfl, fun j t ht => by
        rw [Tryd.params7] at ht
        have h3 : t = 24 ∨ t = 27 := by
          rcases j with _ | _ | j
          · exact .inl (by simpa using ht.symm)
          · exact .inr (by simpa using ht.symm)
          · simp at ht
        rcases h3 with rfl | rfl
        · exact (show Tryd.prog.wantsStandIn 24 = false by kernel_rfl)
        · exact (show Tryd.prog.wantsStandIn 27 = false by kernel_rfl)⟩)
    (by kernel_rfl)
#print axioms conceptBack_card
end Go.Proofs.YtfecjdffnklkaaaDoor
