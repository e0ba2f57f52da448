import Derived.Test.YtndkcimajeofcaaGreatDoorG3a3fc64e1c
import Derived.StillTailTactics
import Derived.Deep.QuietTactic
namespace Go.Proofs.YtndkcimajeofcaaGreatDoor
open Go.RowKit

set_option maxRecDepth 100000 in
set_option maxHeartbeats 1000000 in
/-- Role: whether a number is a role. -/
theorem rRole_any (n : NM) (r : Int) (w : World) (hn : n.R.l.length ≤ 1000) : Calls Tryz.prog 25 #[n.val, .int .i64 r] w fun e w' => e = .returned (.bool (decide (0 ≤ r) && decide (r < 2 * (n.R.l.length : Int)))) ∧ Below w.heap.size w w' := by
  obtain ⟨W1, hW1, hB1, hs1, hk1⟩ := newBlk w _ rfl #[.slice n.C.A n.C.l.length n.C.c, .slice n.R.A n.R.l.length n.R.c, .slice n.I.A n.I.l.length n.I.c] 24
  have a0 := cell_of_blk hk1 0
  have a1 := cell_of_blk hk1 1
  have a2 := cell_of_blk hk1 2
  simp only [List.getElem?_toArray, List.getElem?_cons_zero, List.getElem?_cons_succ] at a0 a1 a2
  have hw1 : wrap64 (2 * (n.R.l.length : Int)) = 2 * (n.R.l.length : Int) := by unfold wrap64; omega
  have hw2 : IntKind.i64.wrap (2 * (n.R.l.length : Int)) = 2 * (n.R.l.length : Int) := by rw [IntKind.wrap_i64]; omega
  simp only [NM.val]
  have HB := Lib.hid hB1
  clear hB1 hk1
  rcases q1 : decide (0 ≤ r)
  · go_enter Tryz.func25, Tryz.ntmps25
    go_wp2
    go_ret
    exact ⟨rfl, HB.out⟩
  · go_enter Tryz.func25, Tryz.ntmps25
    go_wp2
    go_ret
    exact ⟨by simp, HB.out⟩
end Go.Proofs.YtndkcimajeofcaaGreatDoor

namespace Go.Proofs.YtndkcimajeofcaaGreatDoor
open Go.RowKit

end Go.Proofs.YtndkcimajeofcaaGreatDoor

namespace Go.Proofs.YtndkcimajeofcaaGreatDoor
open Go.RowKit

end Go.Proofs.YtndkcimajeofcaaGreatDoor

namespace Go.Proofs.YtndkcimajeofcaaGreatDoor
open Go.RowKit

end Go.Proofs.YtndkcimajeofcaaGreatDoor
