/-
  WHAT IS PROVED: for all names, all concepts, every interpretation and every role, the law InterpBoolean (promises P3.4 and P1.6) answers true and leaves its arguments as they were: the elements of negations, conjunctions, disjunctions and quantified concepts come of the elements of their parts and of the role's pairs as the document says, and the negation normal forms have the same elements, and the other ones.
  CONDITIONS: those of the given row and card, and no other: the three listed tables hold, when the call begins, what the program's text lays into them (the card ties them to the text); the call is followed until it returns.
-/
import Derived.Test.YtneegmhcmegijaaDoorRow9
import Derived.Test.YtneegmhcmegijaaDoorTie
import Derived.Test.YtneegmhcmegijaaDoorCards
import Derived.SevenTiedAt
namespace Go.Proofs.YtneegmhcmegijaaDoor

/-- THE TIED CARD OF InterpBoolean HOLDS. -/
theorem interpBoolean_card : Rows.InterpBooleanCardSaid :=
  Claim7.holds_tied_plain_at .later [] [.data, .data, .data] true (true, _) false
    interpBoolean_holds (fun _ h => by cases h) (by kernel_rfl) (fun _ h => by cases h) interpBoolean_row_tie rfl ⟨rfl, rfl⟩ (by kernel_rfl) rfl
    (fun f fn hf hfn => by
      obtain rfl : f = 6 := Option.some.inj ((show Tryd.prog.funcNamed "isagoge/isagogelaw03.InterpBoolean" = some 6 by kernel_rfl).symm.trans hf) |>.symm
      obtain rfl : fn = Tryd.f6 := (Option.some.inj (Tryd.func6.symm.trans hfn)).symm
      exact ⟨by kernel_rfl, fun j t ht => by
        rw [Tryd.params6] at ht
        have h3 : t = 24 ∨ t = 27 ∨ t = 52 ∨ t = 3 := by
          rcases j with _ | _ | _ | _ | _ | j
          · exact .inl (by simpa using ht.symm)
          · exact .inr (.inl (by simpa using ht.symm))
          · exact .inr (.inl (by simpa using ht.symm))
          · exact .inr (.inr (.inl (by simpa using ht.symm)))
          · exact .inr (.inr (.inr (by simpa using ht.symm)))
          · simp at ht
        rcases h3 with rfl | rfl | rfl | rfl
        · exact (show Tryd.prog.wantsStandIn 24 = false by kernel_rfl)
        · exact (show Tryd.prog.wantsStandIn 27 = false by kernel_rfl)
        · exact (show Tryd.prog.wantsStandIn 52 = false by kernel_rfl)
        · exact (show Tryd.prog.wantsStandIn 3 = false by kernel_rfl)⟩)
    (by kernel_rfl)
#print axioms interpBoolean_card
end Go.Proofs.YtneegmhcmegijaaDoor
