import Derived.Test.YtffibneelaeocaaGreatDoorG1ea5cfd325
import Derived.Deep.QuietTactic
namespace Go.Proofs.YtffibneelaeocaaGreatDoor
open Go.RowKit

/-- The cells of a row of integers of one's own. -/
theorem row_cells {W : World} {base : Nat} {v : Value} {xs : List Int} (h : W.ownsRow base 3 1 v xs.length (intCells xs)) : ∃ A c, v = .slice A xs.length c ∧ xs.length ≤ 9223372036854775807 ∧ (xs.length ≠ 0 → ∃ g, A = some ⟨g, 0, none⟩ ∧ base ≤ g ∧ g < W.heap.size ∧ ∀ k (hk : k < xs.length), W.cell? ⟨g, k, none⟩ = some (.int .i64 xs[k])) := by
  rcases h.2 with ⟨rfl, h0⟩ | ⟨g, cap, cur, rfl, hge, hheap, hlen, hcap, hsize, htake⟩
  · exact ⟨none, 0, by rw [h0], by omega, fun hn => absurd h0 hn⟩
  · unfold maxLen at hcap
    refine ⟨some ⟨g, 0, none⟩, cap, rfl, by omega, fun _ => ⟨g, rfl, hge, (Array.getElem?_eq_some_iff.1 hheap).1, fun k hk => ?_⟩⟩
    have h1 : cur[k]? = (intCells xs)[k]? := by
      rw [← htake, List.getElem?_take, if_pos (by omega), Array.getElem?_toList]
    simp only [World.cell?, hheap]
    rw [h1, intCells, List.getElem?_map, List.getElem?_eq_getElem hk]
    rfl

set_option maxRecDepth 100000 in
set_option maxHeartbeats 2000000 in
theorem SameInts_any {b1 b2 : Nat} (v1 v2 : Value) (xs : List Int) (w : World) (h1 : w.ownsRow b1 3 1 v1 xs.length (intCells xs)) (h2 : w.ownsRow b2 3 1 v2 xs.length (intCells xs)) :
    Calls Tryz.prog 22 #[v1, v2] w fun e w' => e = .returned (.bool true) ∧ Below w.heap.size w w' := by
  obtain ⟨A1, c1, rfl, hl1, hc1⟩ := row_cells h1
  obtain ⟨A2, c2, rfl, hl2, hc2⟩ := row_cells h2
  have hne : ((xs.length : Int) != (xs.length : Int)) = false := by simp
  go_enter Tryz.func22, Tryz.ntmps22
  go_wp2_with fail
  go_loopw [13] (fun i wr => ∃ k : Nat, k ≤ xs.length ∧ i = .int .i64 k ∧ Below w.heap.size w wr) (fun i _ => xs.length - (intOf i).toNat)
  case atStart => exact ⟨0, Nat.zero_le _, rfl, Below.refl _ w⟩
  case round =>
    obtain ⟨k, hk, rfl, hbw⟩ := hrel
    by_cases hlt : k < xs.length
    · obtain ⟨g1, rfl, -, hg1, d1⟩ := hc1 (by omega)
      obtain ⟨g2, rfl, -, hg2, d2⟩ := hc2 (by omega)
      have e1 := (hbw.drew.cell (p := ⟨g1, k, none⟩) hg1).trans (d1 k hlt)
      have e2 := (hbw.drew.cell (p := ⟨g2, k, none⟩) hg2).trans (d2 k hlt)
      clear d1 d2 hc1 hc2
      generalize xs[k] = z at e1 e2
      have hzz : (z != z) = false := by simp
      have h0I : (0 : Int) ≤ k := by omega
      have hlI : (k : Int) < xs.length := by omega
      go_wp2_with fail
      go_region_held (fun w' => w'.cell? ⟨g1, k, none⟩ = some (.int .i64 z) ∧ w'.cell? ⟨g2, k, none⟩ = some (.int .i64 z)) (exact ⟨e1, e2⟩) (fail)
      go_wp2
      go_roundw
      case rel => exact ⟨k + 1, by omega, by go_num, hbw.drew⟩
      case measure => simp [intOf]; omega
    · go_wp2
      go_ret
      exact ⟨rfl, hbw⟩
end Go.Proofs.YtffibneelaeocaaGreatDoor
