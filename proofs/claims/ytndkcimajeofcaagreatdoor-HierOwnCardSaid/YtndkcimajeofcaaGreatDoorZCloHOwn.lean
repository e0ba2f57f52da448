import Derived.Test.YtndkcimajeofcaaGreatDoorGd6d81c1fed
namespace Go.Proofs.YtndkcimajeofcaaGreatDoor

set_option maxHeartbeats 4000000 in
/-- The row's closed cells are what the program forces. -/
theorem hierOwn_closed : joinedFacts Tryz.pinned.checked.prog 9 Tryz.f9 Rows.hierOwnSpec Rows.hierOwnRow = true := by
  unfold joinedFacts
  simp only [Bool.and_eq_true]
  repeat' apply And.intro
  all_goals (as_aux_lemma => kernel_rfl)
end Go.Proofs.YtndkcimajeofcaaGreatDoor
