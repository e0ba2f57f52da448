/-
  WHAT IS PROVED: for all names, any concept, any string and both values of the flag, the law ConceptTexts (promise P1.4) answers true and leaves its arguments as they were: String and Parse answer what the reference defines, or its error.
  CONDITIONS: those of the given row and card, and no other: the three listed tables of package concept hold, when the call begins, what the program's text lays into them (the card ties them to the text); the call is followed until it returns.
-/
import Derived.Test.YtfecjdffnklkaaaDoorRow4
import Derived.Test.YtfecjdffnklkaaaDoorTie
import Derived.Test.YtfecjdffnklkaaaDoorCards
import Derived.SevenTiedAt
namespace Go.Proofs.YtfecjdffnklkaaaDoor

/-- THE TIED CARD OF ConceptTexts HOLDS. -/
theorem conceptTexts_card : Rows.ConceptTextsCardSaid :=
  Claim7.holds_tied_plain_at .later [] [.data, .data, .data] true (true, "36fe8a9c987fbef9330e1c2149dc3b3190940438822f7dce5ff244da6e515cb7") false
    conceptTexts_holds (fun _ h => by cases h) (by kernel_rfl) (fun _ h => by cases h) conceptTexts_row_tie rfl ⟨rfl, rfl⟩ (by kernel_rfl) rfl
    (fun f fn hf hfn => by
      obtain rfl : f = 6 := Option.some.inj ((show Tryd.prog.funcNamed "isagoge/isagogelaw01.ConceptTexts" = some 6 by kernel_rfl).symm.trans hf) |>.symm
      obtain rfl : fn = Tryd.f6 := (Option.some.inj (Tryd.func6.symm.trans hfn)).symm
      exact ⟨by kernel_rfl, fun j t ht => by
        rw [Tryd.params6] at ht
        have h3 : t = 24 ∨ t = 27 ∨ t = 9 ∨ t = 4 := by
          rcases j with _ | _ | _ | _ | j
          · exact .inl (by simpa using ht.symm)
          · exact .inr (.inl (by simpa using ht.symm))
          · exact .inr (.inr (.inl (by simpa using ht.symm)))
          · exact .inr (.inr (.inr (by simpa using ht.symm)))
          · simp at ht
        rcases h3 with rfl | rfl | rfl | rfl
        · exact (show Tryd.prog.wantsStandIn 24 = false by kernel_rfl)
        · exact (show Tryd.prog.wantsStandIn 27 = false by kernel_rfl)
        · exact (show Tryd.prog.wantsStandIn 9 = false by kernel_rfl)
        · exact (show Tryd.prog.wantsStandIn 4 = false by kernel_rfl)⟩)
    (by kernel_rfl)
#print axioms conceptTexts_card
end Go.Proofs.YtfecjdffnklkaaaDoor
