/-
  WHAT IS PROVED: for every knowledge base, every further concepts, every type and every concept, the law HierTypes (promise P5.4) answers true and leaves its arguments as they were: a concept is true in a type if and only if its normal form is, and if and only if the normal form of its negation is not.
  CONDITIONS: those of the given row and card, and no other: the listed tables hold, when the call begins, what the program's text lays into them (the card ties them to the text); the call is followed until it returns.
-/
import Derived.Test.YtffibneelaeocaaGreatDoorZRowHTyp
import Derived.Test.YtffibneelaeocaaGreatDoorTie
import Derived.Test.YtffibneelaeocaaGreatDoorCards
import Derived.SevenTiedAt
namespace Go.Proofs.YtffibneelaeocaaGreatDoor

/-- THE TIED CARD OF HierTypes HOLDS. -/
theorem hierTypes_card : Rows.HierTypesCardSaid :=
  Claim7.holds_tied_plain_at .later [] [.data, .data, .data, .data] true (true, Rows.hierTypesCard.stood.harness.2) true
    hierTypes_holds (fun _ h => by cases h) (by as_aux_lemma => kernel_rfl) (fun _ h => by cases h) hierTypes_row_tie rfl ⟨rfl, rfl⟩ (by as_aux_lemma => kernel_rfl) rfl
    (fun f fn hf hfn => by
      obtain rfl : f = 8 := Option.some.inj ((show Tryz.prog.funcNamed "isagoge/isagogelaw05.HierTypes" = some 8 by as_aux_lemma => kernel_rfl).symm.trans hf) |>.symm
      obtain rfl : fn = Tryz.f8 := (Option.some.inj (Tryz.func8.symm.trans hfn)).symm
      exact ⟨by as_aux_lemma => kernel_rfl, fun j t ht => by
        rw [Tryz.params8] at ht
        have h3 : t = 30 ∨ t = 31 ∨ t = 3 ∨ t = 33 := by
          rcases j with _ | _ | _ | _ | j
          · exact .inl (by simpa using ht.symm)
          · exact .inr (.inl (by simpa using ht.symm))
          · exact .inr (.inr (.inl (by simpa using ht.symm)))
          · exact .inr (.inr (.inr (by simpa using ht.symm)))
          · simp at ht
        rcases h3 with rfl | rfl | rfl | rfl
        · exact (show Tryz.prog.wantsStandIn 30 = false by as_aux_lemma => kernel_rfl)
        · exact (show Tryz.prog.wantsStandIn 31 = false by as_aux_lemma => kernel_rfl)
        · exact (show Tryz.prog.wantsStandIn 3 = false by as_aux_lemma => kernel_rfl)
        · exact (show Tryz.prog.wantsStandIn 33 = false by as_aux_lemma => kernel_rfl)⟩)
    (by as_aux_lemma => kernel_rfl)
#print axioms hierTypes_card
end Go.Proofs.YtffibneelaeocaaGreatDoor
