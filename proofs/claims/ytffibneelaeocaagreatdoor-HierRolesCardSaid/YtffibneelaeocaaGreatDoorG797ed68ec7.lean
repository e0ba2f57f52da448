import Derived.Test.YtffibneelaeocaaGreatDoorGd82b781d75
import Derived.StillTailTactics
import Derived.Deep.QuietTactic
namespace Go.Proofs.YtffibneelaeocaaGreatDoor
open Go.RowKit

/-- A []bool of the call's own. -/
def bcs (p : Nat → Bool) (n : Nat) : List Value := (List.range n).map fun x => Value.bool (p x)
theorem bcs_len (p : Nat → Bool) (n : Nat) : (bcs p n).length = n := by simp [bcs]
theorem bcs_at (p : Nat → Bool) {n x : Nat} (hx : x < n) : (bcs p n)[x]? = some (.bool (p x)) := by
  rw [bcs, List.getElem?_map, List.getElem?_range hx]; rfl
theorem bcs_ext {p q : Nat → Bool} {n : Nat} (h : ∀ x, x < n → p x = q x) : bcs p n = bcs q n := by
  unfold bcs
  exact List.map_congr_left fun x hx => by rw [h x (List.mem_range.1 hx)]
def updB (p : Nat → Bool) (x : Nat) (v : Bool) : Nat → Bool := fun y => if y = x then v else p y
theorem bcs_upd (p : Nat → Bool) {n : Nat} (x : Nat) (v : Bool) : (bcs p n).toArray.setIfInBounds x (.bool v) = (bcs (updB p x v) n).toArray := by
  apply Array.ext_getElem?
  intro j
  simp only [Array.getElem?_setIfInBounds, List.getElem?_toArray, List.size_toArray, bcs_len]
  by_cases hj : j < n
  · rw [bcs_at _ hj, bcs_at _ hj]
    by_cases e : x = j
    · subst e
      rw [if_pos rfl, if_pos hj, updB, if_pos rfl]
    · rw [if_neg e, updB, if_neg (fun h => e h.symm)]
  · have h1 : ∀ q, (bcs q n)[j]? = none := fun q => List.getElem?_eq_none (by rw [bcs_len]; omega)
    rw [h1, h1]
    split
    · rw [if_neg (by omega)]
    · rfl
theorem bool_info : (Tryz.prog.info? 4).map (fun i => (i.zero, i.size, i.bytes)) = some (some (.bool false), 1, 1) := by kernel_rfl
theorem make_bools (n : Nat) (hn : n ≤ 256) (w : World) : (Instr.makeSlice 49 (.int .i64 (n : Int)) (.int .i64 (n : Int))).run Tryz.prog w = .ok (.slice (some ⟨w.heap.size, 0, none⟩) n n) (w.alloc (.cells (bcs (fun _ => false) n).toArray 4)) := by
  obtain ⟨i0, hi, hz0, hz1, hz2⟩ := info_parts bool_info
  have := run_make (P := Tryz.prog) w 49 4 i0 _ Tryz.underlying49 hi hz0 .i64 .i64 n n (by omega) (by omega) (by rw [hz2]; omega) (by omega)
  rw [this, hz1]
  simp only [Int.toNat_natCast, Nat.mul_one]
  have hmc : madeCells (Value.bool false).cells n = (bcs (fun _ => false) n).toArray := by
    apply Array.ext_getElem?
    intro j
    by_cases hj : j < n
    · simp only [List.getElem?_toArray]
      rw [bcs_at _ hj, Array.getElem?_eq_getElem (by rw [size_madeCells]; exact hj)]
      simp [madeCells, Nat.mod_one, Value.cells]
    · rw [Array.getElem?_eq_none (show _ ≤ j by rw [size_madeCells]; omega), Array.getElem?_eq_none (show _ ≤ j by simp only [List.size_toArray, bcs_len]; omega)]
  rw [hmc]
def BRow (w : World) (g n : Nat) (p : Nat → Bool) : Prop := w.heap[g]? = some (.cells (bcs p n).toArray 4)
theorem BRow.cell {w : World} {g n : Nat} {p : Nat → Bool} (h : BRow w g n p) {x : Nat} (hx : x < n) : w.cell? ⟨g, x, none⟩ = some (.bool (p x)) := by
  rw [cell_of_blk h, List.getElem?_toArray, bcs_at _ hx]
theorem BRow.set {w : World} {g n : Nat} {p : Nat → Bool} (h : BRow w g n p) (x : Nat) (v : Bool) : BRow (w.setCell ⟨g, x, none⟩ (.bool v)) g n (updB p x v) := by
  have := blk_set h x (.bool v)
  rw [bcs_upd] at this
  exact this
theorem BRow.ext {w : World} {g n : Nat} {p q : Nat → Bool} (h : BRow w g n p) (he : ∀ x, x < n → p x = q x) : BRow w g n q := by
  unfold BRow at *
  rw [h, bcs_ext he]
theorem BRow.lt {w : World} {g n : Nat} {p : Nat → Bool} (h : BRow w g n p) : g < w.heap.size := (Array.getElem?_eq_some_iff.1 h).1
/-- A set that the reference hands back: the elements below m. -/
def RetB (m : Nat) (p : Nat → Bool) (w : World) (e : Ending) (w' : World) : Prop := ∃ g, e = .returned (.slice (some ⟨g, 0, none⟩) m m) ∧ w.heap.size ≤ g ∧ BRow w' g m p ∧ Below w.heap.size w w'
theorem RetB.ext {m : Nat} {p q : Nat → Bool} {w w' : World} {e : Ending} (h : RetB m p w e w') (he : ∀ x, x < m → p x = q x) : RetB m q w e w' := by
  obtain ⟨g, h1, h2, h3, h4⟩ := h
  exact ⟨g, h1, h2, h3.ext he, h4⟩
end Go.Proofs.YtffibneelaeocaaGreatDoor
