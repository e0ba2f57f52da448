/-
  WHAT IS PROVED: HierOwn: no function modifies its arguments, and results are new memory.
  CONDITIONS: those of the given row and card, and no other: the listed tables hold, when the call begins, what the program's text lays into them (the card ties them to the text); the call is followed until it returns.
-/
import Derived.Test.YtndkcimajeofcaaGreatDoorZRowHOwn
import Derived.Test.YtndkcimajeofcaaGreatDoorTie
import Derived.Test.YtndkcimajeofcaaGreatDoorCards
import Derived.SevenTiedAt
namespace Go.Proofs.YtndkcimajeofcaaGreatDoor

/-- THE TIED CARD OF HierOwn HOLDS. -/
theorem hierOwn_card : Rows.HierOwnCardSaid :=
  Claim7.holds_tied_plain_at .later [] [.data, .data, .data, .data] true (true, Rows.hierOwnCard.stood.harness.2) Rows.hierOwnCard.stood.looks
    hierOwn_holds (fun _ h => by cases h) (by as_aux_lemma => kernel_rfl) (fun _ h => by cases h) hierOwn_row_tie rfl ⟨rfl, rfl⟩ (by as_aux_lemma => kernel_rfl) rfl
    (fun f fn hf hfn => by
      obtain rfl : f = 9 := Option.some.inj ((show Tryz.prog.funcNamed "isagoge/isagogelaw05.HierOwn" = some 9 by as_aux_lemma => kernel_rfl).symm.trans hf) |>.symm
      obtain rfl : fn = Tryz.f9 := (Option.some.inj (Tryz.func9.symm.trans hfn)).symm
      exact ⟨by as_aux_lemma => kernel_rfl, fun j t ht => by
        rw [Tryz.params9] at ht
        have h3 : t = 30 ∨ t = 31 ∨ t = 33 := by
          rcases j with _ | _ | _ | j
          · exact .inl (by simpa using ht.symm)
          · exact .inr (.inl (by simpa using ht.symm))
          · exact .inr (.inr (by simpa using ht.symm))
          · simp at ht
        rcases h3 with rfl | rfl | rfl
        · exact (show Tryz.prog.wantsStandIn 30 = false by as_aux_lemma => kernel_rfl)
        · exact (show Tryz.prog.wantsStandIn 31 = false by as_aux_lemma => kernel_rfl)
        · exact (show Tryz.prog.wantsStandIn 33 = false by as_aux_lemma => kernel_rfl)⟩)
    (by as_aux_lemma => kernel_rfl)
#print axioms hierOwn_card
end Go.Proofs.YtndkcimajeofcaaGreatDoor
