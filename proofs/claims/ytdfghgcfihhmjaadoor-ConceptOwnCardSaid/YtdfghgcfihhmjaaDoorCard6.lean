/-
  WHAT IS PROVED: for all names and every concept of at most 3000 nodes, the law ConceptOwn (the document's rule R4) answers true and leaves its arguments as they were: Normal, Not, Subs, Uses, String and Parse change neither the names nor the concept, and what is written afterwards into their results (every node of the trees, every number of the lists) changes neither the arguments, nor their copies, nor what a second Parse of the same string returns; larger concepts, and tables of names beyond the law's bounds, the law passes over.
  CONDITIONS: those of the given row and card, and no other: the three listed tables of package concept hold, when the call begins, what the program's text lays into them (the card ties them to the text); the call is followed until it returns.
-/
import Derived.Test.YtdfghgcfihhmjaaDoorRow6
import Derived.Test.YtdfghgcfihhmjaaDoorTie
import Derived.Test.YtdfghgcfihhmjaaDoorCards
import Derived.SevenTiedAt
namespace Go.Proofs.YtdfghgcfihhmjaaDoor

/-- THE TIED CARD OF ConceptOwn HOLDS. -/
theorem conceptOwn_card : Rows.ConceptOwnCardSaid :=
  Claim7.holds_tied_plain_at .later [] [.data, .data, .data] true _ false
    conceptOwn_holds (fun _ h => by cases h) (by kernel_rfl) (fun _ h => by cases h) conceptOwn_row_tie rfl ⟨rfl, rfl⟩ (by kernel_rfl) rfl
    (fun f fn hf hfn => by
      obtain rfl : f = 8 := Option.some.inj ((show Tryd.prog.funcNamed "isagoge/isagogelaw01.ConceptOwn" = some 8 by kernel_rfl).symm.trans hf) |>.symm
      obtain rfl : fn = Tryd.f8 := (Option.some.inj (Tryd.func8.symm.trans hfn)).symm
      exact ⟨by kernel_rfl, fun j t ht => by
        rw [Tryd.params8] at ht
        have h3 : t = 24 ∨ t = 27 := by
          rcases j with _ | _ | j
          · exact .inl (by simpa using ht.symm)
          · exact .inr (by simpa using ht.symm)
          · simp at ht
        rcases h3 with rfl | rfl
        · exact (show Tryd.prog.wantsStandIn 24 = false by kernel_rfl)
        · exact (show Tryd.prog.wantsStandIn 27 = false by kernel_rfl)⟩)
    (by kernel_rfl)
#print axioms conceptOwn_card
end Go.Proofs.YtdfghgcfihhmjaaDoor
