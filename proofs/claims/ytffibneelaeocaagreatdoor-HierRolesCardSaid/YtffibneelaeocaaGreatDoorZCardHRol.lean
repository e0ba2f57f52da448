/-
  WHAT IS PROVED: for every knowledge base and every two roles, the law HierRoles (promise P5.1) answers true and leaves its arguments as they were: Below reports whether one is below the other, and Above returns the roles above one, or the error.
  CONDITIONS: those of the given row and card, and no other: the listed tables hold, when the call begins, what the program's text lays into them (the card ties them to the text); the call is followed until it returns.
-/
import Derived.Test.YtffibneelaeocaaGreatDoorZRowHRol
import Derived.Test.YtffibneelaeocaaGreatDoorTie
import Derived.Test.YtffibneelaeocaaGreatDoorCards
import Derived.SevenTiedAt
namespace Go.Proofs.YtffibneelaeocaaGreatDoor

/-- THE TIED CARD OF HierRoles HOLDS. -/
theorem hierRoles_card : Rows.HierRolesCardSaid :=
  Claim7.holds_tied_plain_at .later [] [.data, .data, .data, .data] true (true, Rows.hierRolesCard.stood.harness.2) true
    hierRoles_holds (fun _ h => by cases h) (by as_aux_lemma => kernel_rfl) (fun _ h => by cases h) hierRoles_row_tie rfl ⟨rfl, rfl⟩ (by as_aux_lemma => kernel_rfl) rfl
    (fun f fn hf hfn => by
      obtain rfl : f = 4 := Option.some.inj ((show Tryz.prog.funcNamed "isagoge/isagogelaw05.HierRoles" = some 4 by as_aux_lemma => kernel_rfl).symm.trans hf) |>.symm
      obtain rfl : fn = Tryz.f4 := (Option.some.inj (Tryz.func4.symm.trans hfn)).symm
      exact ⟨by as_aux_lemma => kernel_rfl, fun j t ht => by
        rw [Tryz.params4] at ht
        have h3 : t = 30 ∨ t = 3 := by
          rcases j with _ | _ | _ | j
          · exact .inl (by simpa using ht.symm)
          · exact .inr (by simpa using ht.symm)
          · exact .inr (by simpa using ht.symm)
          · simp at ht
        rcases h3 with rfl | rfl
        · exact (show Tryz.prog.wantsStandIn 30 = false by as_aux_lemma => kernel_rfl)
        · exact (show Tryz.prog.wantsStandIn 3 = false by as_aux_lemma => kernel_rfl)⟩)
    (by as_aux_lemma => kernel_rfl)
#print axioms hierRoles_card
end Go.Proofs.YtffibneelaeocaaGreatDoor
