/-
  WHAT IS PROVED: HierTrue: for any knowledge base, concepts, type and concept, True reports whether the concept is true in the type, or the error.
  CONDITIONS: those of the given row and card, and no other: the listed tables hold, when the call begins, what the program's text lays into them (the card ties them to the text); the call is followed until it returns.
-/
import Derived.Test.YtndkcimajeofcaaGreatDoorZRowHTrl
import Derived.Test.YtndkcimajeofcaaGreatDoorTie
import Derived.Test.YtndkcimajeofcaaGreatDoorCards
import Derived.SevenTiedAt
namespace Go.Proofs.YtndkcimajeofcaaGreatDoor

/-- THE TIED CARD OF HierTrue HOLDS. -/
theorem hierTrue_card : Rows.HierTrueCardSaid :=
  Claim7.holds_tied_plain_at .later [] [.data, .data, .data, .data] true (true, Rows.hierTrueCard.stood.harness.2) Rows.hierTrueCard.stood.looks
    hierTrue_holds (fun _ h => by cases h) (by as_aux_lemma => kernel_rfl) (fun _ h => by cases h) hierTrue_row_tie rfl ⟨rfl, rfl⟩ (by as_aux_lemma => kernel_rfl) rfl
    (fun f fn hf hfn => by
      obtain rfl : f = 6 := Option.some.inj ((show Tryz.prog.funcNamed "isagoge/isagogelaw05.HierTrue" = some 6 by as_aux_lemma => kernel_rfl).symm.trans hf) |>.symm
      obtain rfl : fn = Tryz.f6 := (Option.some.inj (Tryz.func6.symm.trans hfn)).symm
      exact ⟨by as_aux_lemma => kernel_rfl, fun j t ht => by
        rw [Tryz.params6] at ht
        have h3 : t = 30 ∨ t = 31 ∨ t = 3 ∨ t = 33 := by
          rcases j with _ | _ | _ | _ | j
          · exact .inl (by simpa using ht.symm)
          · exact .inr (.inl (by simpa using ht.symm))
          · exact .inr (.inr (.inl (by simpa using ht.symm)))
          · exact .inr (.inr (.inr (by simpa using ht.symm)))
          · simp at ht
        rcases h3 with rfl | rfl | rfl | rfl
        · exact (show Tryz.prog.wantsStandIn 30 = false by as_aux_lemma => kernel_rfl)
        · exact (show Tryz.prog.wantsStandIn 31 = false by as_aux_lemma => kernel_rfl)
        · exact (show Tryz.prog.wantsStandIn 3 = false by as_aux_lemma => kernel_rfl)
        · exact (show Tryz.prog.wantsStandIn 33 = false by as_aux_lemma => kernel_rfl)⟩)
    (by as_aux_lemma => kernel_rfl)
#print axioms hierTrue_card
end Go.Proofs.YtndkcimajeofcaaGreatDoor
