import Derived.Test.YtndkcimajeofcaaGreatDoorG2d600767d4
namespace Go.Proofs.YtndkcimajeofcaaGreatDoor

set_option maxHeartbeats 4000000 in
/-- The row's closed cells are what the program forces. -/
theorem hierMarks_closed : joinedFacts Tryz.pinned.checked.prog 5 Tryz.f5 Rows.hierMarksSpec Rows.hierMarksRow = true := by
  unfold joinedFacts
  simp only [Bool.and_eq_true]
  repeat' apply And.intro
  all_goals (as_aux_lemma => kernel_rfl)
end Go.Proofs.YtndkcimajeofcaaGreatDoor
