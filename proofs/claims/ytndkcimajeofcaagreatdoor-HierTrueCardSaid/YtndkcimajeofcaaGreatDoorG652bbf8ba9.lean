import Derived.Test.YtndkcimajeofcaaGreatDoorG239ec7f19c
import Derived.Deep.QuietTactic
namespace Go.Proofs.YtndkcimajeofcaaGreatDoor
open Go.RowKit

/-- The cells of a row of integers of one's own. -/
theorem row_cells {W : World} {base : Nat} {v : Value} {xs : List Int} (h : W.ownsRow base 3 1 v xs.length (intCells xs)) : ∃ A c, v = .slice A xs.length c ∧ xs.length ≤ 9223372036854775807 ∧ (xs.length ≠ 0 → ∃ g, A = some ⟨g, 0, none⟩ ∧ base ≤ g ∧ g < W.heap.size ∧ ∀ k (hk : k < xs.length), W.cell? ⟨g, k, none⟩ = some (.int .i64 xs[k])) := by
  rcases h.2 with ⟨rfl, h0⟩ | ⟨g, cap, cur, rfl, hge, hheap, hlen, hcap, hsize, htake⟩
  · exact ⟨none, 0, by rw [h0], by omega, fun hn => absurd h0 hn⟩
  · unfold maxLen at hcap
    refine ⟨some ⟨g, 0, none⟩, cap, rfl, by omega, fun _ => ⟨g, rfl, hge, (Array.getElem?_eq_some_iff.1 hheap).1, fun k hk => ?_⟩⟩
    have h1 : cur[k]? = (intCells xs)[k]? := by
      rw [← htake, List.getElem?_take, if_pos (by omega), Array.getElem?_toList]
    simp only [World.cell?, hheap]
    rw [h1, intCells, List.getElem?_map, List.getElem?_eq_getElem hk]
    rfl

end Go.Proofs.YtndkcimajeofcaaGreatDoor
