import Derived.Test.YtneegmhcmegijaaDoorRIs
import Derived.Test.YtneegmhcmegijaaDoorRef3
namespace Go.Proofs.YtneegmhcmegijaaDoor
open Go.RowKit

theorem nm_blks (n : NM) (i : IN) (w : World) : ∃ W1 W2, w.alloc (.cells #[.slice n.C.A n.C.l.length n.C.c, .slice n.R.A n.R.l.length n.R.c, .slice n.I.A n.I.l.length n.I.c] 24) = W1 ∧ W1.heap.size = w.heap.size + 1 ∧ W1.alloc (.cells #[.int .i64 i.size, .slice i.CA i.C.length i.cc, .slice i.RA i.R.length i.rc, .slice i.I.A i.I.l.length i.I.c] 52) = W2 ∧ W2.heap.size = w.heap.size + 1 + 1 ∧ Below w.heap.size w W2 ∧
    (∀ w', Below W2.heap.size W2 w' → (w'.cell? ⟨w.heap.size, 0, none⟩ = some (.slice n.C.A n.C.l.length n.C.c) ∧ w'.cell? ⟨w.heap.size, 1, none⟩ = some (.slice n.R.A n.R.l.length n.R.c) ∧ w'.cell? ⟨w.heap.size, 2, none⟩ = some (.slice n.I.A n.I.l.length n.I.c)) ∧ w'.cell? ⟨w.heap.size + 1, 0, none⟩ = some (.int .i64 i.size) ∧ w'.cell? ⟨w.heap.size + 1, 1, none⟩ = some (.slice i.CA i.C.length i.cc) ∧ w'.cell? ⟨w.heap.size + 1, 2, none⟩ = some (.slice i.RA i.R.length i.rc) ∧ w'.cell? ⟨w.heap.size + 1, 3, none⟩ = some (.slice i.I.A i.I.l.length i.I.c)) := by
  obtain ⟨W1, hW1, hB1, hs1, hk1⟩ := newBlk w _ rfl #[.slice n.C.A n.C.l.length n.C.c, .slice n.R.A n.R.l.length n.R.c, .slice n.I.A n.I.l.length n.I.c] 24
  obtain ⟨W2, hW2, hB2, hs2, hk2⟩ := newBlk W1 _ hs1 #[.int .i64 i.size, .slice i.CA i.C.length i.cc, .slice i.RA i.R.length i.rc, .slice i.I.A i.I.l.length i.I.c] 52
  have hk12 := (hB2.block w.heap.size (by omega)).trans hk1
  exact ⟨W1, W2, hW1, hs1, hW2, hs2, hB1.trans (hB2.mono (by omega)), fun w' hb => ⟨⟨cell_of_blk (blk_lat hk12 hb) 0, cell_of_blk (blk_lat hk12 hb) 1, cell_of_blk (blk_lat hk12 hb) 2⟩, cell_of_blk (blk_lat hk2 hb) 0, cell_of_blk (blk_lat hk2 hb) 1, cell_of_blk (blk_lat hk2 hb) 2, cell_of_blk (blk_lat hk2 hb) 3⟩⟩

set_option maxRecDepth 100000 in
set_option maxHeartbeats 4000000 in
theorem few0_any (n : NM) (i : IN) (w : World) (hn : n.In w.heap.size w) (hi : i.In w.heap.size w) : Calls Tryd.prog 22 #[n.val, i.val, .slice none 0 0] w fun e w' => (∃ b, e = .returned (.bool b) ∧ (b = true → fewB n = true)) ∧ Below w.heap.size w w' := by
  obtain ⟨W1, W2, hW1, hs1, hW2, hs2, hB, hcell⟩ := nm_blks n i w
  have hfe := FewNames_any n W2 (hn.later hB)
  have hfi := fun w1 (hb : Below W2.heap.size W2 w1) => rFew_any i 40 1000 w1 ((hi.later hB).later hb)
  obtain ⟨⟨a0, a1, a2⟩, b0, b1, b2, b3⟩ := hcell W2 (Below.refl _ _)
  have HB := Lib.hid hB
  have HCE := Lib.hid hcell
  have HFI := Lib.hid hfi
  simp only [NM.val, IN.val] at hfe HFI ⊢
  clear hB hn hi hcell hfi
  rcases hf : fewB n
  · rw [hf] at hfe
    go_enter Tryd.func22, Tryd.ntmps22
    go_wp2_with fail
    go_loopw [11] (fun i' wr => i' = .int .i64 0 ∧ wr = W2) (fun i' _ => 0)
    case atStart => exact ⟨rfl, rfl⟩
    case round =>
      obtain ⟨rfl, rfl⟩ := hrel
      go_wp2_with (go_at_call 8; refine hfe.mono ?_; rintro e w3 ⟨rfl, hb3⟩)
      go_ret
      exact ⟨⟨false, rfl, fun h => by cases h⟩, HB.out.trans (hb3.mono (by omega))⟩
  · rw [hf] at hfe
    go_enter Tryd.func22, Tryd.ntmps22
    go_wp2_with fail
    go_loopw [11] (fun i' wr => i' = .int .i64 0 ∧ wr = W2) (fun i' _ => 0)
    case atStart => exact ⟨rfl, rfl⟩
    case round =>
      obtain ⟨rfl, rfl⟩ := hrel
      go_wp2_with (first | (go_at_call 8; refine hfe.mono ?_; clear hfe; rintro e w3 ⟨rfl, hb3⟩; obtain ⟨-, c0, c1, c2, c3⟩ := HCE.out w3 hb3) | (go_at_call 62; refine (HFI.out w3 hb3).mono ?_; rintro e w4 ⟨⟨b, rfl⟩, hb4⟩))
      go_ret
      exact ⟨⟨_, rfl, fun _ => by first | rfl | trivial⟩, HB.out.trans ((hb3.trans (hb4.mono hb3.size)).mono (by omega))⟩

set_option maxRecDepth 100000 in
set_option maxHeartbeats 4000000 in
theorem fault0_any (n : NM) (i : IN) (w : World) (hn : n.In w.heap.size w) (hi : i.In w.heap.size w) (h100 : n.C.l.length ≤ 1000 ∧ n.R.l.length ≤ 1000 ∧ n.I.l.length ≤ 1000) : Calls Tryd.prog 25 #[n.val, i.val, .slice none 0 0] w fun e w' => e = .returned (.int .i64 (icheckF n i)) ∧ Below w.heap.size w w' := by
  obtain ⟨W1, W2, hW1, hs1, hW2, hs2, hB, hcell⟩ := nm_blks n i w
  have hna := rNames_any n W2 (hn.later hB) h100
  have his := fun w1 (hb : Below W2.heap.size W2 w1) => rIs_any n i w1 ((hi.later hB).later hb)
  obtain ⟨⟨a0, a1, a2⟩, b0, b1, b2, b3⟩ := hcell W2 (Below.refl _ _)
  have HB := Lib.hid hB
  have HCE := Lib.hid hcell
  unfold icheckF
  rcases hok : n.ok
  · rw [hok] at hna
    simp only [NM.val, IN.val] at hna ⊢
    clear his hok hB hn hi hcell
    go_enter Tryd.func25, Tryd.ntmps25
    go_wp2_with (go_at_call 65; refine hna.mono ?_; clear hna; rintro e w3 ⟨rfl, hb3⟩)
    go_ret
    exact ⟨rfl, HB.out.trans (hb3.mono (by omega))⟩
  · rw [hok] at hna
    rcases hs : (shapeB n i && listsB i)
    all_goals
      have HIS := Lib.hid his
      rw [hs] at HIS
      simp only [NM.val, IN.val] at hna HIS ⊢
      clear his hok hs hB hn hi hcell
      go_enter Tryd.func25, Tryd.ntmps25
      go_wp2_with (go_at_call 65; refine hna.mono ?_; clear hna; rintro e w3 ⟨rfl, hb3⟩; obtain ⟨⟨c0, c1, c2⟩, d0, d1, d2, d3⟩ := HCE.out w3 hb3)
      go_loopw [14] (fun i' wr => i' = .int .i64 0 ∧ wr = w3) (fun i' _ => 0)
      case atStart => exact ⟨rfl, rfl⟩
      case round =>
        obtain ⟨rfl, rfl⟩ := hrel
        go_wp2_with (go_at_call 67; refine (HIS.out _ hb3).mono ?_; rintro e w4 ⟨rfl, hb4⟩)
        go_ret
        exact ⟨rfl, HB.out.trans ((hb3.trans (hb4.mono hb3.size)).mono (by omega))⟩
end Go.Proofs.YtneegmhcmegijaaDoor
