import Derived.Test.YtndkcimajeofcaaGreatDoorGa3885cf9c4
import Derived.Test.YtndkcimajeofcaaGreatDoorG21599ba408
namespace Go.Proofs.YtndkcimajeofcaaGreatDoor
open Go.RowKit

set_option maxRecDepth 100000 in
theorem two_boxesD (n : NM) (T : MT) (w : World) : ∃ W1 W2, w.alloc (.cells #[.slice n.C.A n.C.l.length n.C.c, .slice n.R.A n.R.l.length n.R.c, .slice n.I.A n.I.l.length n.I.c] 24) = W1 ∧ W1.heap.size = w.heap.size + 1 ∧ W1.alloc (.cells #[.int .i64 T.op, .int .i64 T.n, .slice T.A T.args.length T.c] 33) = W2 ∧ W2.heap.size = w.heap.size + 1 + 1 ∧ Below w.heap.size w W2 ∧
    (∀ w', Below W2.heap.size W2 w' → (w'.cell? ⟨w.heap.size, 0, none⟩ = some (.slice n.C.A n.C.l.length n.C.c) ∧ w'.cell? ⟨w.heap.size, 1, none⟩ = some (.slice n.R.A n.R.l.length n.R.c) ∧ w'.cell? ⟨w.heap.size, 2, none⟩ = some (.slice n.I.A n.I.l.length n.I.c)) ∧
      (w'.cell? ⟨w.heap.size + 1, 0, none⟩ = some (.int .i64 T.op) ∧ w'.cell? ⟨w.heap.size + 1, 1, none⟩ = some (.int .i64 T.n) ∧ w'.cell? ⟨w.heap.size + 1, 2, none⟩ = some (.slice T.A T.args.length T.c))) := by
  obtain ⟨W1, hW1, hB1, hs1, hblk1⟩ := newBlk w _ rfl #[.slice n.C.A n.C.l.length n.C.c, .slice n.R.A n.R.l.length n.R.c, .slice n.I.A n.I.l.length n.I.c] 24
  obtain ⟨W2, hW2, hB2, hs2, hblk2⟩ := newBlk W1 _ hs1 #[.int .i64 T.op, .int .i64 T.n, .slice T.A T.args.length T.c] 33
  have hB : Below w.heap.size w W2 := hB1.trans (hB2.mono (by omega))
  have hblk12 := (hB2.block w.heap.size (by omega)).trans hblk1
  exact ⟨W1, W2, hW1, hs1, hW2, hs2, hB, fun w' hb => ⟨box_cells hblk12 hb, box_cells hblk2 hb⟩⟩

set_option maxRecDepth 100000 in
set_option maxHeartbeats 1000000 in
theorem IsD_any (n : NM) (T : MT) (w : World) (hn : n.In w.heap.size w) (hT : T.In w.heap.size w) (hsz : T.tr.size ≤ 1000000) (hC : n.C.l.length ≤ 1000) (hR : n.R.l.length ≤ 1000) :
    Calls Tryz.prog 52 #[n.val, T.val] w fun e w' => e = .returned (.bool (validT n.C.l.length n.R.l.length T.tr)) ∧ Below w.heap.size w w' := by
  obtain ⟨W1, W2, hW1, hs1, hW2, hs2, hB, hcell⟩ := two_boxesD n T w
  have hsm := fun w1 (hb : Below W2.heap.size W2 w1) => Small_any T w1 ((hT.later hB).later hb) hsz
  have hsh := fun w1 (hb : Below W2.heap.size W2 w1) => shaped_any n hC hR T w1 ((hn.later hB).later hb) ((hT.later hB).later hb)
  obtain ⟨⟨a0, a1, a2⟩, b0, b1, b2⟩ := hcell W2 (Below.refl _ _)
  obtain ⟨⟨a0', a1', a2'⟩, b0', b1', b2'⟩ := hcell W2.drew (Below.refl _ _).drew
  have HV := Lib.hid (validT_split n.C.l.length n.R.l.length T.tr)
  simp only [NM.val, MT.val] at hsm hsh ⊢
  cases h : smallB T.tr
  · rw [h] at hsm HV
    go_enter Tryz.func52, Tryz.ntmps52
    go_wp2_with (first | (go_at_call 70; refine (hsm W2 (Below.refl _ _)).mono ?_; rintro e w1 ⟨rfl, hb1⟩))
    go_ret
    exact ⟨ret_bool (by rw [HV.out]; rfl), hB.trans (hb1.mono (by omega))⟩
  · rw [h] at hsm HV
    go_enter Tryz.func52, Tryz.ntmps52
    go_wp2_with (first | (go_at_call 70; refine (hsm W2 (Below.refl _ _)).mono ?_; rintro e w1 ⟨rfl, hb1⟩; obtain ⟨⟨c0, c1, c2⟩, d0, d1, d2⟩ := hcell w1 hb1) | (go_at_call 90; refine (hsh w1 hb1).mono ?_; rintro e w2 ⟨rfl, hb2⟩))
    go_ret
    exact ⟨ret_bool (by rw [HV.out, Bool.true_and]), hB.trans ((hb1.trans (hb2.mono hb1.size)).mono (by omega))⟩
end Go.Proofs.YtndkcimajeofcaaGreatDoor
