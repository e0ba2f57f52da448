/-
  WHAT IS PROVED: for all names, all concepts and every interpretation, the law InterpElements (promise P3.2) answers true and leaves its arguments as they were: Elements returns the elements of a concept in increasing order, and Included reports whether all elements of one concept are elements of the other, or the error.
  CONDITIONS: those of the given row and card, and no other: the two listed tables hold, when the call begins, what the program's text lays into them (the card ties them to the text); the call is followed until it returns.
-/
import Derived.Test.YtneegmhcmegijaaDoorRow8
import Derived.Test.YtneegmhcmegijaaDoorTie
import Derived.Test.YtneegmhcmegijaaDoorCards
import Derived.SevenTiedAt
namespace Go.Proofs.YtneegmhcmegijaaDoor

/-- THE TIED CARD OF InterpElements HOLDS. -/
theorem interpElements_card : Rows.InterpElementsCardSaid :=
  Claim7.holds_tied_plain_at .later [] [.data, .data] true (true, _) false
    interpElements_holds (fun _ h => by cases h) (by kernel_rfl) (fun _ h => by cases h) interpElements_row_tie rfl ⟨rfl, rfl⟩ (by kernel_rfl) rfl
    (fun f fn hf hfn => by
      obtain rfl : f = 5 := Option.some.inj ((show Tryd.prog.funcNamed "isagoge/isagogelaw03.InterpElements" = some 5 by kernel_rfl).symm.trans hf) |>.symm
      obtain rfl : fn = Tryd.f5 := (Option.some.inj (Tryd.func5.symm.trans hfn)).symm
      exact ⟨by kernel_rfl, fun j t ht => by
        rw [Tryd.params5] at ht
        have h3 : t = 24 ∨ t = 27 ∨ t = 52 := by
          rcases j with _ | _ | _ | _ | j
          · exact .inl (by simpa using ht.symm)
          · exact .inr (.inl (by simpa using ht.symm))
          · exact .inr (.inl (by simpa using ht.symm))
          · exact .inr (.inr (by simpa using ht.symm))
          · simp at ht
        rcases h3 with rfl | rfl | rfl
        · exact (show Tryd.prog.wantsStandIn 24 = false by kernel_rfl)
        · exact (show Tryd.prog.wantsStandIn 27 = false by kernel_rfl)
        · exact (show Tryd.prog.wantsStandIn 52 = false by kernel_rfl)⟩)
    (by kernel_rfl)
#print axioms interpElements_card
end Go.Proofs.YtneegmhcmegijaaDoor
