import Derived.Test.YtnkkpjgclekobaaDoorRIs
import Derived.Test.YtnkkpjgclekobaaDoorRef3
import Derived.Test.YtnkkpjgclekobaaDoorRef5
namespace Go.Proofs.YtnkkpjgclekobaaDoor
open Go.RowKit

theorem nm_blks (n : NM) (i : IN) (w : World) : ∃ W1 W2, w.alloc (.cells #[.slice n.C.A n.C.l.length n.C.c, .slice n.R.A n.R.l.length n.R.c, .slice n.I.A n.I.l.length n.I.c] 24) = W1 ∧ W1.heap.size = w.heap.size + 1 ∧ W1.alloc (.cells #[.int .i64 i.size, .slice i.CA i.C.length i.cc, .slice i.RA i.R.length i.rc, .slice i.I.A i.I.l.length i.I.c] 58) = W2 ∧ W2.heap.size = w.heap.size + 1 + 1 ∧ Below w.heap.size w W2 ∧
    (∀ w', Below W2.heap.size W2 w' → (w'.cell? ⟨w.heap.size, 0, none⟩ = some (.slice n.C.A n.C.l.length n.C.c) ∧ w'.cell? ⟨w.heap.size, 1, none⟩ = some (.slice n.R.A n.R.l.length n.R.c) ∧ w'.cell? ⟨w.heap.size, 2, none⟩ = some (.slice n.I.A n.I.l.length n.I.c)) ∧ w'.cell? ⟨w.heap.size + 1, 0, none⟩ = some (.int .i64 i.size) ∧ w'.cell? ⟨w.heap.size + 1, 1, none⟩ = some (.slice i.CA i.C.length i.cc) ∧ w'.cell? ⟨w.heap.size + 1, 2, none⟩ = some (.slice i.RA i.R.length i.rc) ∧ w'.cell? ⟨w.heap.size + 1, 3, none⟩ = some (.slice i.I.A i.I.l.length i.I.c)) := by
  obtain ⟨W1, hW1, hB1, hs1, hk1⟩ := newBlk w _ rfl #[.slice n.C.A n.C.l.length n.C.c, .slice n.R.A n.R.l.length n.R.c, .slice n.I.A n.I.l.length n.I.c] 24
  obtain ⟨W2, hW2, hB2, hs2, hk2⟩ := newBlk W1 _ hs1 #[.int .i64 i.size, .slice i.CA i.C.length i.cc, .slice i.RA i.R.length i.rc, .slice i.I.A i.I.l.length i.I.c] 58
  have hk12 := (hB2.block w.heap.size (by omega)).trans hk1
  exact ⟨W1, W2, hW1, hs1, hW2, hs2, hB1.trans (hB2.mono (by omega)), fun w' hb => ⟨⟨cell_of_blk (blk_lat hk12 hb) 0, cell_of_blk (blk_lat hk12 hb) 1, cell_of_blk (blk_lat hk12 hb) 2⟩, cell_of_blk (blk_lat hk2 hb) 0, cell_of_blk (blk_lat hk2 hb) 1, cell_of_blk (blk_lat hk2 hb) 2, cell_of_blk (blk_lat hk2 hb) 3⟩⟩

set_option maxRecDepth 100000 in
set_option maxHeartbeats 4000000 in
theorem few0_any (n : NM) (i : IN) (w : World) (hn : n.In w.heap.size w) (hi : i.In w.heap.size w) : Calls Tryd.prog 21 #[n.val, i.val, .slice none 0 0] w fun e w' => (∃ b, e = .returned (.bool b) ∧ (b = true → fewB n = true)) ∧ Below w.heap.size w w' := by
  obtain ⟨W1, W2, hW1, hs1, hW2, hs2, hB, hcell⟩ := nm_blks n i w
  have hfe := FewNames_any n W2 (hn.later hB)
  have hfi := fun w1 (hb : Below W2.heap.size W2 w1) => rFew_any i 40 1000 w1 ((hi.later hB).later hb)
  obtain ⟨⟨a0, a1, a2⟩, b0, b1, b2, b3⟩ := hcell W2 (Below.refl _ _)
  have HB := Lib.hid hB
  have HCE := Lib.hid hcell
  have HFI := Lib.hid hfi
  simp only [NM.val, IN.val] at hfe HFI ⊢
  clear hB hn hi hcell hfi
  rcases hf : fewB n
  · rw [hf] at hfe
    go_enter Tryd.func21, Tryd.ntmps21
    go_wp2_with fail
    go_loopw [11] (fun i' wr => i' = .int .i64 0 ∧ wr = W2) (fun i' _ => 0)
    case atStart => exact ⟨rfl, rfl⟩
    case round =>
      obtain ⟨rfl, rfl⟩ := hrel
      go_wp2_with (go_at_call 6; refine hfe.mono ?_; rintro e w3 ⟨rfl, hb3⟩)
      go_ret
      exact ⟨⟨false, rfl, fun h => by cases h⟩, HB.out.trans (hb3.mono (by omega))⟩
  · rw [hf] at hfe
    go_enter Tryd.func21, Tryd.ntmps21
    go_wp2_with fail
    go_loopw [11] (fun i' wr => i' = .int .i64 0 ∧ wr = W2) (fun i' _ => 0)
    case atStart => exact ⟨rfl, rfl⟩
    case round =>
      obtain ⟨rfl, rfl⟩ := hrel
      go_wp2_with (first | (go_at_call 6; refine hfe.mono ?_; clear hfe; rintro e w3 ⟨rfl, hb3⟩; obtain ⟨-, c0, c1, c2, c3⟩ := HCE.out w3 hb3) | (go_at_call 52; refine (HFI.out w3 hb3).mono ?_; rintro e w4 ⟨⟨b, rfl⟩, hb4⟩))
      go_ret
      exact ⟨⟨_, rfl, fun _ => by first | rfl | trivial⟩, HB.out.trans ((hb3.trans (hb4.mono hb3.size)).mono (by omega))⟩

end Go.Proofs.YtnkkpjgclekobaaDoor

namespace Go.Proofs.YtnkkpjgclekobaaDoor
open Go.RowKit

/-- A call's two boxes: the names and the concept. -/
theorem two_boxes (n : NM) (T : MT) (w : World) : ∃ W1 W2, w.alloc (.cells #[.slice n.C.A n.C.l.length n.C.c, .slice n.R.A n.R.l.length n.R.c, .slice n.I.A n.I.l.length n.I.c] 24) = W1 ∧ W1.heap.size = w.heap.size + 1 ∧ W1.alloc (.cells #[.int .i64 T.op, .int .i64 T.n, .slice T.A T.args.length T.c] 27) = W2 ∧ W2.heap.size = w.heap.size + 1 + 1 ∧ Below w.heap.size w W2 ∧
    (∀ w', Below W2.heap.size W2 w' → (w'.cell? ⟨w.heap.size, 0, none⟩ = some (.slice n.C.A n.C.l.length n.C.c) ∧ w'.cell? ⟨w.heap.size, 1, none⟩ = some (.slice n.R.A n.R.l.length n.R.c) ∧ w'.cell? ⟨w.heap.size, 2, none⟩ = some (.slice n.I.A n.I.l.length n.I.c)) ∧
      (w'.cell? ⟨w.heap.size + 1, 0, none⟩ = some (.int .i64 T.op) ∧ w'.cell? ⟨w.heap.size + 1, 1, none⟩ = some (.int .i64 T.n) ∧ w'.cell? ⟨w.heap.size + 1, 2, none⟩ = some (.slice T.A T.args.length T.c))) := by
  obtain ⟨W1, hW1, hB1, hs1, hblk1⟩ := newBlk w _ rfl #[.slice n.C.A n.C.l.length n.C.c, .slice n.R.A n.R.l.length n.R.c, .slice n.I.A n.I.l.length n.I.c] 24
  obtain ⟨W2, hW2, hB2, hs2, hblk2⟩ := newBlk W1 _ hs1 #[.int .i64 T.op, .int .i64 T.n, .slice T.A T.args.length T.c] 27
  have hB : Below w.heap.size w W2 := hB1.trans (hB2.mono (by omega))
  have hblk12 := (hB2.block w.heap.size (by omega)).trans hblk1
  exact ⟨W1, W2, hW1, hs1, hW2, hs2, hB, fun w' hb => ⟨box_cells hblk12 hb, box_cells hblk2 hb⟩⟩

/-- A row of concepts that a call hands on. -/
structure CRow (w : World) (A : Option Addr) (l : List MT) : Prop where
  row : RowAt w w.heap.size 3 A l.length (l.flatMap MT.cs)
  each : ∀ k (hk : k < l.length), (l[k]).In w.heap.size w
  few : l.length ≤ 9223372036854775807

def fewsB (l : List MT) : Bool := l.all fun T => decide (T.tr.size ≤ 400)
theorem fewsB_no {l : List MT} {k : Nat} (hk : k < l.length) (h : ¬ l[k].tr.size ≤ 400) : fewsB l = false := by
  rw [fewsB, List.all_eq_false]
  exact ⟨_, List.getElem_mem hk, by simpa using h⟩

set_option maxRecDepth 100000 in
set_option maxHeartbeats 8000000 in
theorem fewL_any (n : NM) (i : IN) (l : List MT) (A : Option Addr) (c : Nat) (w : World) (hn : n.In w.heap.size w) (hi : i.In w.heap.size w) (hl : CRow w A l) : Calls Tryd.prog 21 #[n.val, i.val, .slice A l.length c] w fun e w' => (∃ b, e = .returned (.bool b) ∧ (b = true → fewB n = true ∧ ∀ k (hk : k < l.length), l[k].tr.size ≤ 400)) ∧ Below w.heap.size w w' := by
  obtain ⟨W1, W2, hW1, hs1, hW2, hs2, hB, hcell⟩ := nm_blks n i w
  have hfe := fun w1 (hb : Below W2.heap.size W2 w1) => FewNames_any n w1 ((hn.later hB).later hb)
  have hfi := fun w1 (hb : Below W2.heap.size W2 w1) => rFew_any i 40 1000 w1 ((hi.later hB).later hb)
  have hfits := fun k (hk : k < l.length) w1 (hb : Below W2.heap.size W2 w1) => Fits_any l[k] 400 w1 (((hl.each k hk).later hB).later hb) (by omega) (by omega)
  have hel := fun k (hk : k < l.length) w1 (hb : Below W2.heap.size W2 w1) => elem3 (k := k) hl.row (hB.trans (hb.mono (by omega))) hk
  have hlen := hl.few
  have HB := Lib.hid hB
  have HCE := Lib.hid hcell
  have HFE := Lib.hid hfe
  have HFI := Lib.hid hfi
  have HFT := Lib.hid hfits
  have HEL := Lib.hid hel
  simp only [NM.val, IN.val, MT.val] at HFE HFI HFT ⊢
  clear hB hn hi hl hcell hfe hfi hfits hel
  go_enter Tryd.func21, Tryd.ntmps21
  go_wp2_with fail
  go_loopw [11] (fun i' wr => ∃ k : Nat, k ≤ l.length ∧ i' = .int .i64 (k : Nat) ∧ (∀ j (hj : j < l.length), j < k → l[j].tr.size ≤ 400) ∧ Below W2.heap.size W2 wr) (fun i' _ => l.length - (intOf i').toNat)
  case atStart => exact ⟨0, Nat.zero_le _, rfl, fun j _ h => absurd h (Nat.not_lt_zero _), Below.refl _ _⟩
  case round =>
    obtain ⟨k, hk, rfl, hall, hbw⟩ := hrel
    have HA := Lib.hid hall
    clear hall
    by_cases hlt : k < l.length
    · obtain ⟨g, off, rfl, hg, g0, g1, g2⟩ := HEL.out k hlt wr hbw
      have h0K : (0 : Int) ≤ k := by omega
      have hlK : (k : Int) < l.length := by omega
      obtain ⟨W7, hW7, hB7, hs7, hk7⟩ := newBlk wr _ rfl #[.int .i64 l[k].op, .int .i64 l[k].n, .slice l[k].A l[k].args.length l[k].c] 27
      obtain ⟨p0, p1, p2⟩ := box_cells hk7 (Below.refl _ W7)
      have hb7 : Below W2.heap.size W2 W7 := hbw.trans (hB7.mono hbw.size)
      have hft := HFT.out k hlt W7 hb7
      rw [fits_size] at hft
      have HZ := Lib.hid (show l[k].tr.size ≤ 400 ∨ ¬ l[k].tr.size ≤ 400 from Decidable.em _)
      have HX := Lib.hid (show ∀ h : k < l.length, l[k] = l[k] from fun _ => rfl)
      by_cases hz : l[k].tr.size ≤ 400
      · rw [decide_eq_true (by omega)] at hft
        have HA2 := Lib.hid (show ∀ j (hj : j < l.length), j < k + 1 → l[j].tr.size ≤ 400 from fun j hj hjk => by
          by_cases e : j = k
          · subst e; exact hz
          · exact HA.out j hj (by omega))
        clear hz HZ HX
        generalize l[k] = T at g0 g1 g2 hW7 p0 p1 p2 hft
        go_wp2_with (go_at_call 7; refine hft.mono ?_; rintro e w8 ⟨rfl, hb8⟩)
        go_roundw
        case rel => exact ⟨k + 1, by omega, by go_num, HA2.out, hb7.trans (hb8.mono hb7.size)⟩
        case measure => simp [intOf]; omega
      · rw [decide_eq_false (by omega)] at hft
        clear hz HZ HX
        generalize l[k] = T at g0 g1 g2 hW7 p0 p1 p2 hft
        go_wp2_with (go_at_call 7; refine hft.mono ?_; rintro e w8 ⟨rfl, hb8⟩)
        go_ret
        exact ⟨⟨false, rfl, fun h => by cases h⟩, HB.out.trans ((hb7.trans (hb8.mono hb7.size)).mono (by omega))⟩
    · have HA2 := Lib.hid (show ∀ k (hk : k < l.length), l[k].tr.size ≤ 400 from fun j hj => HA.out j hj (by omega))
      have hfe := HFE.out wr hbw
      obtain ⟨⟨a0, a1, a2⟩, b0, b1, b2, b3⟩ := HCE.out wr hbw
      rcases hf : fewB n
      · rw [hf] at hfe
        go_wp2_with (go_at_call 6; refine hfe.mono ?_; rintro e w3 ⟨rfl, hb3⟩)
        go_ret
        exact ⟨⟨false, rfl, fun h => by cases h⟩, HB.out.trans ((hbw.trans (hb3.mono hbw.size)).mono (by omega))⟩
      · rw [hf] at hfe
        go_wp2_with (first | (go_at_call 6; refine hfe.mono ?_; clear hfe; rintro e w3 ⟨rfl, hb3'⟩; have hb3 := hbw.trans (hb3'.mono hbw.size); obtain ⟨-, c0, c1, c2, c3⟩ := HCE.out w3 hb3) | (go_at_call 52; refine (HFI.out w3 hb3).mono ?_; rintro e w4 ⟨⟨b, rfl⟩, hb4⟩))
        go_ret
        exact ⟨⟨_, rfl, fun _ => ⟨by first | rfl | trivial, HA2.out⟩⟩, HB.out.trans ((hb3.trans (hb4.mono hb3.size)).mono (by omega))⟩

/-- The law's fault: the first of the errors. -/
def faultF (n : NM) (i : IN) (l : List MT) : Int := if n.ok then (if (l.all fun T => validT n.C.l.length n.R.l.length T.tr) then (if shapeB n i && listsB i then 0 else 30) else 10) else 20
theorem validL_no {l : List MT} {C R k : Nat} (hk : k < l.length) (h : validT C R l[k].tr = false) : (l.all fun T => validT C R T.tr) = false := by
  rw [List.all_eq_false]
  exact ⟨_, List.getElem_mem hk, by simp [h]⟩
theorem validL_yes {l : List MT} {C R : Nat} (h : ∀ k (hk : k < l.length), validT C R l[k].tr = true) : (l.all fun T => validT C R T.tr) = true := by
  rw [List.all_eq_true]
  intro T hT
  obtain ⟨k, hk, rfl⟩ := List.getElem_of_mem hT
  exact h k hk

end Go.Proofs.YtnkkpjgclekobaaDoor
