import Derived.Test.YtndkcimajeofcaaGreatDoorG506e8cf509
import Derived.Test.YtndkcimajeofcaaGreatDoorGe3d385300f
import Derived.Laws.BitsAllLaws
import Derived.Deep.DrawnRows
namespace Go.Proofs.YtndkcimajeofcaaGreatDoor
open Go.RowKit
attribute [local go_sem ↓] Go.wp_at_zero Go.wp_at_succ

theorem xor_one (r : Nat) : r ^^^ 1 = inv r := by
  have h1 : (r ^^^ 1) / 2 = r / 2 := by rw [Nat.xor_div_two]; simp
  have h2 : ((r ^^^ 1) % 2 = 1) ↔ ¬ ((r % 2 = 1) ↔ (1 % 2 = 1)) := Nat.xor_mod_two_eq_one
  unfold inv
  split <;> omega
theorem i64_xor_one (r : Nat) (hr : r < 4611686018427387904) : bits .xor .i64 (r : Int) 1 = ((inv r : Nat) : Int) := by
  have hi : inv r ≤ r + 1 := by unfold inv; split <;> omega
  have h1 : (BitVec.ofInt 64 (r : Int) ^^^ BitVec.ofInt 64 (1 : Int)).toNat = inv r := by
    rw [BitVec.toNat_xor, ofInt_u64 r (by omega), show (BitVec.ofInt 64 (1 : Int)).toNat = 1 from rfl, xor_one]
  show IntKind.i64.wrap ((BitVec.ofInt 64 (r : Int) ^^^ BitVec.ofInt 64 (1 : Int)).toNat : Int) = _
  rw [h1, IntKind.wrap_i64]
  omega

set_option maxRecDepth 100000 in
set_option maxHeartbeats 1000000 in
theorem inverse_any (r : Nat) (hr : r < 4611686018427387904) (w : World) : Calls Tryz.prog 103 #[.int .i64 (r : Nat)] w fun e w' => e = .returned (.int .i64 (inv r : Nat)) ∧ w' = w := by
  have hx := i64_xor_one r hr
  go_enter Tryz.func103, Tryz.ntmps103
  go_wp2
  go_ret
  exact ⟨rfl, rfl⟩
/-- Whether a number is a role of b. -/
def roleB (b : BN) (r : Int) : Bool := decide (0 ≤ r) && decide (r < 2 * (b.N.R.l.length : Int))
set_option maxRecDepth 100000 in
set_option maxHeartbeats 1000000 in
theorem isRole_any (b : BN) (r : Int) (w : World) (hn : b.N.R.l.length ≤ 1000) : Calls Tryz.prog 62 #[b.val, .int .i64 r] w fun e w' => e = .returned (.bool (roleB b r)) ∧ Below w.heap.size w w' := by
  obtain ⟨W1, hW1, hB1, hs1, hk1⟩ := newBlk w _ rfl b.cells 30
  obtain ⟨a0, a1, a2, a3, a4, a5, a6⟩ := bbox_of hk1
  have hw1 : wrap64 (2 * (b.N.R.l.length : Int)) = 2 * (b.N.R.l.length : Int) := by unfold wrap64; omega
  have hw2 : IntKind.i64.wrap (2 * (b.N.R.l.length : Int)) = 2 * (b.N.R.l.length : Int) := by rw [IntKind.wrap_i64]; omega
  simp only [BN.val, BN.cells] at hW1 ⊢
  have HB := Lib.hid hB1
  unfold roleB
  clear hB1 hk1
  rcases q1 : decide (0 ≤ r)
  · go_enter Tryz.func62, Tryz.ntmps62
    go_wp2
    go_ret
    exact ⟨rfl, HB.out⟩
  · go_enter Tryz.func62, Tryz.ntmps62
    go_wp2
    go_ret
    exact ⟨by simp, HB.out⟩
end Go.Proofs.YtndkcimajeofcaaGreatDoor
