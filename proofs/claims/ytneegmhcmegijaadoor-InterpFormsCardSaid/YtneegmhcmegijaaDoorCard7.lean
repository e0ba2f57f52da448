/-
  WHAT IS PROVED: for all names, every interpretation and every role, the law InterpForms (promises P3.1 and P3.2) answers true and leaves its arguments as they were: Check reports whether the interpretation is one of the names, and Pairs returns the pairs of the role, or the error.
  CONDITIONS: those of the given row and card, and no other: the two listed tables hold, when the call begins, what the program's text lays into them (the card ties them to the text); the call is followed until it returns.
-/
import Derived.Test.YtneegmhcmegijaaDoorRow7
import Derived.Test.YtneegmhcmegijaaDoorTie
import Derived.Test.YtneegmhcmegijaaDoorCards
import Derived.SevenTiedAt
namespace Go.Proofs.YtneegmhcmegijaaDoor

/-- THE TIED CARD OF InterpForms HOLDS. -/
theorem interpForms_card : Rows.InterpFormsCardSaid :=
  Claim7.holds_tied_plain_at .later [] [.data, .data] true (true, _) false
    interpForms_holds (fun _ h => by cases h) (by kernel_rfl) (fun _ h => by cases h) interpForms_row_tie rfl ⟨rfl, rfl⟩ (by kernel_rfl) rfl
    (fun f fn hf hfn => by
      obtain rfl : f = 4 := Option.some.inj ((show Tryd.prog.funcNamed "isagoge/isagogelaw03.InterpForms" = some 4 by kernel_rfl).symm.trans hf) |>.symm
      obtain rfl : fn = Tryd.f4 := (Option.some.inj (Tryd.func4.symm.trans hfn)).symm
      exact ⟨by kernel_rfl, fun j t ht => by
        rw [Tryd.params4] at ht
        have h3 : t = 24 ∨ t = 52 ∨ t = 3 := by
          rcases j with _ | _ | _ | j
          · exact .inl (by simpa using ht.symm)
          · exact .inr (.inl (by simpa using ht.symm))
          · exact .inr (.inr (by simpa using ht.symm))
          · simp at ht
        rcases h3 with rfl | rfl | rfl
        · exact (show Tryd.prog.wantsStandIn 24 = false by kernel_rfl)
        · exact (show Tryd.prog.wantsStandIn 52 = false by kernel_rfl)
        · exact (show Tryd.prog.wantsStandIn 3 = false by kernel_rfl)⟩)
    (by kernel_rfl)
#print axioms interpForms_card
end Go.Proofs.YtneegmhcmegijaaDoor
