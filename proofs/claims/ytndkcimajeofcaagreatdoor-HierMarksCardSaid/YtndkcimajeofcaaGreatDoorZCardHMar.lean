/-
  WHAT IS PROVED: HierMarks: for any knowledge base and concepts, Marks returns the marks in their order, or the error.
  CONDITIONS: those of the given row and card, and no other: the listed tables hold, when the call begins, what the program's text lays into them (the card ties them to the text); the call is followed until it returns.
-/
import Derived.Test.YtndkcimajeofcaaGreatDoorZRowHMar
import Derived.Test.YtndkcimajeofcaaGreatDoorTie
import Derived.Test.YtndkcimajeofcaaGreatDoorCards
import Derived.SevenTiedAt
namespace Go.Proofs.YtndkcimajeofcaaGreatDoor

/-- THE TIED CARD OF HierMarks HOLDS. -/
theorem hierMarks_card : Rows.HierMarksCardSaid :=
  Claim7.holds_tied_plain_at .later [] [.data, .data, .data, .data] true (true, Rows.hierMarksCard.stood.harness.2) Rows.hierMarksCard.stood.looks
    hierMarks_holds (fun _ h => by cases h) (by as_aux_lemma => kernel_rfl) (fun _ h => by cases h) hierMarks_row_tie rfl ⟨rfl, rfl⟩ (by as_aux_lemma => kernel_rfl) rfl
    (fun f fn hf hfn => by
      obtain rfl : f = 5 := Option.some.inj ((show Tryz.prog.funcNamed "isagoge/isagogelaw05.HierMarks" = some 5 by as_aux_lemma => kernel_rfl).symm.trans hf) |>.symm
      obtain rfl : fn = Tryz.f5 := (Option.some.inj (Tryz.func5.symm.trans hfn)).symm
      exact ⟨by as_aux_lemma => kernel_rfl, fun j t ht => by
        rw [Tryz.params5] at ht
        have h3 : t = 30 ∨ t = 31 := by
          rcases j with _ | _ | j
          · exact .inl (by simpa using ht.symm)
          · exact .inr (by simpa using ht.symm)
          · simp at ht
        rcases h3 with rfl | rfl
        · exact (show Tryz.prog.wantsStandIn 30 = false by as_aux_lemma => kernel_rfl)
        · exact (show Tryz.prog.wantsStandIn 31 = false by as_aux_lemma => kernel_rfl)⟩)
    (by as_aux_lemma => kernel_rfl)
#print axioms hierMarks_card
end Go.Proofs.YtndkcimajeofcaaGreatDoor
