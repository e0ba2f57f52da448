import Derived.Test.YtndkcimajeofcaaGreatDoorGeb374ef387
namespace Go.Proofs.YtndkcimajeofcaaGreatDoor

set_option maxHeartbeats 4000000 in
/-- The row's closed cells are what the program forces. -/
theorem hierTrue_closed : joinedFacts Tryz.pinned.checked.prog 6 Tryz.f6 Rows.hierTrueSpec Rows.hierTrueRow = true := by
  unfold joinedFacts
  simp only [Bool.and_eq_true]
  repeat' apply And.intro
  all_goals (as_aux_lemma => kernel_rfl)
end Go.Proofs.YtndkcimajeofcaaGreatDoor
