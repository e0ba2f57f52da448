/-
  WHAT IS PROVED: for every knowledge base, every interpretation and every number, the law InterpTrue (promise P3.3) answers true and leaves its arguments as they were: True, Models and Wrong tell which axioms are satisfied, or the error.
  CONDITIONS: those of the given row and card, and no other: the two listed tables hold, when the call begins, what the program's text lays into them (the card ties them to the text); the call is followed until it returns.
-/
import Derived.Test.YtnkkpjgclekobaaGreatDoorRowT
import Derived.Test.YtnkkpjgclekobaaGreatDoorTie
import Derived.Test.YtnkkpjgclekobaaGreatDoorCards
import Derived.SevenTiedAt
namespace Go.Proofs.YtnkkpjgclekobaaGreatDoor

/-- THE TIED CARD OF InterpTrue HOLDS. -/
theorem interpTrue_card : Rows.InterpTrueCardSaid :=
  Claim7.holds_tied_plain_at .later [] [.data, .data] true (true, _) false
    interpTrue_holds (fun _ h => by cases h) (by kernel_rfl) (fun _ h => by cases h) interpTrue_row_tie rfl ⟨rfl, rfl⟩ (by kernel_rfl) rfl
    (fun f fn hf hfn => by
      obtain rfl : f = 3 := Option.some.inj ((show Tryz.prog.funcNamed "isagoge/isagogelaw03.InterpTrue" = some 3 by kernel_rfl).symm.trans hf) |>.symm
      obtain rfl : fn = Tryz.f3 := (Option.some.inj (Tryz.func3.symm.trans hfn)).symm
      exact ⟨by kernel_rfl, fun j t ht => by
        rw [Tryz.params3] at ht
        have h3 : t = 30 ∨ t = 35 ∨ t = 3 := by
          rcases j with _ | _ | _ | j
          · exact .inl (by simpa using ht.symm)
          · exact .inr (.inl (by simpa using ht.symm))
          · exact .inr (.inr (by simpa using ht.symm))
          · simp at ht
        rcases h3 with rfl | rfl | rfl
        · exact (show Tryz.prog.wantsStandIn 30 = false by kernel_rfl)
        · exact (show Tryz.prog.wantsStandIn 35 = false by kernel_rfl)
        · exact (show Tryz.prog.wantsStandIn 3 = false by kernel_rfl)⟩)
    (by kernel_rfl)
#print axioms interpTrue_card
end Go.Proofs.YtnkkpjgclekobaaGreatDoor
