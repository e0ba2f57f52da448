/-
  WHAT IS PROVED: for every knowledge base, every concept, every interpretation and every number, the law InterpOwn (rule R4) answers true and leaves its arguments as they were: what interp's functions return is theirs alone, and they change nothing that they are given.
  CONDITIONS: those of the given row and card, and no other: the two listed tables hold, when the call begins, what the program's text lays into them (the card ties them to the text); the call is followed until it returns.
-/
import Derived.Test.YtnkkpjgclekobaaDoorWRow
import Derived.Test.YtnkkpjgclekobaaDoorTie
import Derived.Test.YtnkkpjgclekobaaDoorCards
import Derived.SevenTiedAt
namespace Go.Proofs.YtnkkpjgclekobaaDoor

/-- THE TIED CARD OF InterpOwn HOLDS. -/
theorem interpOwn_card : Rows.InterpOwnCardSaid :=
  Claim7.holds_tied_plain_at .later [] [.data, .data] true (true, _) false
    interpOwn_holds (fun _ h => by cases h) (by kernel_rfl) (fun _ h => by cases h) interpOwn_row_tie rfl ⟨rfl, rfl⟩ (by kernel_rfl) rfl
    (fun f fn hf hfn => by
      obtain rfl : f = 4 := Option.some.inj ((show Tryd.prog.funcNamed "isagoge/isagogelaw03.InterpOwn" = some 4 by kernel_rfl).symm.trans hf) |>.symm
      obtain rfl : fn = Tryd.f4 := (Option.some.inj (Tryd.func4.symm.trans hfn)).symm
      exact ⟨by kernel_rfl, fun j t ht => by
        rw [Tryd.params4] at ht
        have h3 : t = 54 ∨ t = 27 ∨ t = 58 ∨ t = 3 := by
          rcases j with _ | _ | _ | _ | j
          · exact .inl (by simpa using ht.symm)
          · exact .inr (.inl (by simpa using ht.symm))
          · exact .inr (.inr (.inl (by simpa using ht.symm)))
          · exact .inr (.inr (.inr (by simpa using ht.symm)))
          · simp at ht
        rcases h3 with rfl | rfl | rfl | rfl
        · exact (show Tryd.prog.wantsStandIn 54 = false by kernel_rfl)
        · exact (show Tryd.prog.wantsStandIn 27 = false by kernel_rfl)
        · exact (show Tryd.prog.wantsStandIn 58 = false by kernel_rfl)
        · exact (show Tryd.prog.wantsStandIn 3 = false by kernel_rfl)⟩)
    (by kernel_rfl)
#print axioms interpOwn_card
end Go.Proofs.YtnkkpjgclekobaaDoor
