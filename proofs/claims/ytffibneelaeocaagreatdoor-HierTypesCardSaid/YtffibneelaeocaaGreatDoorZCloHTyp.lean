import Derived.Test.YtffibneelaeocaaGreatDoorG32849eac90
namespace Go.Proofs.YtffibneelaeocaaGreatDoor

set_option maxHeartbeats 4000000 in
/-- The row's closed cells are what the program forces. -/
theorem hierTypes_closed : joinedFacts Tryz.pinned.checked.prog 8 Tryz.f8 Rows.hierTypesSpec Rows.hierTypesRow = true := by
  unfold joinedFacts
  simp only [Bool.and_eq_true]
  repeat' apply And.intro
  all_goals (as_aux_lemma => kernel_rfl)
end Go.Proofs.YtffibneelaeocaaGreatDoor
