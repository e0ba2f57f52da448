import Derived.Test.YtnkkpjgclekobaaDoorIEl
import Derived.Test.YtnkkpjgclekobaaDoorRPairs
import Derived.StillTailTactics
import Derived.Deep.QuietTactic
namespace Go.Proofs.YtnkkpjgclekobaaDoor
open Go.RowKit

/-- A []bool of the call's own. -/
def bcs (p : Nat → Bool) (n : Nat) : List Value := (List.range n).map fun x => Value.bool (p x)
theorem bcs_len (p : Nat → Bool) (n : Nat) : (bcs p n).length = n := by simp [bcs]
theorem bcs_at (p : Nat → Bool) {n x : Nat} (hx : x < n) : (bcs p n)[x]? = some (.bool (p x)) := by
  rw [bcs, List.getElem?_map, List.getElem?_range hx]; rfl
theorem bcs_ext {p q : Nat → Bool} {n : Nat} (h : ∀ x, x < n → p x = q x) : bcs p n = bcs q n := by
  unfold bcs
  exact List.map_congr_left fun x hx => by rw [h x (List.mem_range.1 hx)]
def updB (p : Nat → Bool) (x : Nat) (v : Bool) : Nat → Bool := fun y => if y = x then v else p y
theorem bcs_upd (p : Nat → Bool) {n : Nat} (x : Nat) (v : Bool) : (bcs p n).toArray.setIfInBounds x (.bool v) = (bcs (updB p x v) n).toArray := by
  apply Array.ext_getElem?
  intro j
  simp only [Array.getElem?_setIfInBounds, List.getElem?_toArray, List.size_toArray, bcs_len]
  by_cases hj : j < n
  · rw [bcs_at _ hj, bcs_at _ hj]
    by_cases e : x = j
    · subst e
      rw [if_pos rfl, if_pos hj, updB, if_pos rfl]
    · rw [if_neg e, updB, if_neg (fun h => e h.symm)]
  · have h1 : ∀ q, (bcs q n)[j]? = none := fun q => List.getElem?_eq_none (by rw [bcs_len]; omega)
    rw [h1, h1]
    split
    · rw [if_neg (by omega)]
    · rfl
theorem bool_info : (Tryd.prog.info? 4).map (fun i => (i.zero, i.size, i.bytes)) = some (some (.bool false), 1, 1) := by kernel_rfl
theorem make_bools (n : Nat) (hn : n ≤ 256) (w : World) : (Instr.makeSlice 122 (.int .i64 (n : Int)) (.int .i64 (n : Int))).run Tryd.prog w = .ok (.slice (some ⟨w.heap.size, 0, none⟩) n n) (w.alloc (.cells (bcs (fun _ => false) n).toArray 4)) := by
  obtain ⟨i0, hi, hz0, hz1, hz2⟩ := info_parts bool_info
  have := run_make (P := Tryd.prog) w 122 4 i0 _ Tryd.underlying122 hi hz0 .i64 .i64 n n (by omega) (by omega) (by rw [hz2]; omega) (by omega)
  rw [this, hz1]
  simp only [Int.toNat_natCast, Nat.mul_one]
  have hmc : madeCells (Value.bool false).cells n = (bcs (fun _ => false) n).toArray := by
    apply Array.ext_getElem?
    intro j
    by_cases hj : j < n
    · simp only [List.getElem?_toArray]
      rw [bcs_at _ hj, Array.getElem?_eq_getElem (by rw [size_madeCells]; exact hj)]
      simp [madeCells, Nat.mod_one, Value.cells]
    · rw [Array.getElem?_eq_none (show _ ≤ j by rw [size_madeCells]; omega), Array.getElem?_eq_none (show _ ≤ j by simp only [List.size_toArray, bcs_len]; omega)]
  rw [hmc]
def BRow (w : World) (g n : Nat) (p : Nat → Bool) : Prop := w.heap[g]? = some (.cells (bcs p n).toArray 4)
theorem BRow.cell {w : World} {g n : Nat} {p : Nat → Bool} (h : BRow w g n p) {x : Nat} (hx : x < n) : w.cell? ⟨g, x, none⟩ = some (.bool (p x)) := by
  rw [cell_of_blk h, List.getElem?_toArray, bcs_at _ hx]
theorem BRow.set {w : World} {g n : Nat} {p : Nat → Bool} (h : BRow w g n p) (x : Nat) (v : Bool) : BRow (w.setCell ⟨g, x, none⟩ (.bool v)) g n (updB p x v) := by
  have := blk_set h x (.bool v)
  rw [bcs_upd] at this
  exact this
theorem BRow.ext {w : World} {g n : Nat} {p q : Nat → Bool} (h : BRow w g n p) (he : ∀ x, x < n → p x = q x) : BRow w g n q := by
  unfold BRow at *
  rw [h, bcs_ext he]
theorem BRow.lt {w : World} {g n : Nat} {p : Nat → Bool} (h : BRow w g n p) : g < w.heap.size := (Array.getElem?_eq_some_iff.1 h).1
/-- A set that the reference hands back: the elements below m. -/
def RetB (m : Nat) (p : Nat → Bool) (w : World) (e : Ending) (w' : World) : Prop := ∃ g, e = .returned (.slice (some ⟨g, 0, none⟩) m m) ∧ w.heap.size ≤ g ∧ BRow w' g m p ∧ Below w.heap.size w w'
theorem RetB.ext {m : Nat} {p q : Nat → Bool} {w w' : World} {e : Ending} (h : RetB m p w e w') (he : ∀ x, x < m → p x = q x) : RetB m q w e w' := by
  obtain ⟨g, h1, h2, h3, h4⟩ := h
  exact ⟨g, h1, h2, h3.ext he, h4⟩
end Go.Proofs.YtnkkpjgclekobaaDoor

namespace Go.Proofs.YtnkkpjgclekobaaDoor
open Go.RowKit
theorem BRow.later {w w' : World} {g n : Nat} {p : Nat → Bool} (h : BRow w g n p) (hb : Below w.heap.size w w') : BRow w' g n p := blk_lat h hb
theorem BRow.grown {w w' : World} {g n : Nat} {p : Nat → Bool} {row : Option Nat} (h : BRow w g n p) (hg : w.grownBy w' row) (hne : some g ≠ row) : BRow w' g n p := (hg.block g h.lt hne).trans h
theorem updB_step (V : Nat → Bool) (k x : Nat) : updB (fun x => decide (x < k) && V x) k (V k) x = (decide (x < k + 1) && V x) := by
  unfold updB
  by_cases e : x = k
  · subst e; simp
  · rw [if_neg e]; show (decide (x < k) && V x) = _; congr 1; rw [decide_eq_decide]; omega

end Go.Proofs.YtnkkpjgclekobaaDoor

namespace Go.Proofs.YtnkkpjgclekobaaDoor
open Go.RowKit

def someJ0 (l : List (Int × Int)) (q : Nat → Bool) (j x : Nat) : Bool := (l.take j).any fun z => (z.1 == (x : Int)) && q (z.2).toNat
def allJ0 (l : List (Int × Int)) (q : Nat → Bool) (j x : Nat) : Bool := !((l.take j).any fun z => (z.1 == (x : Int)) && !q (z.2).toNat)
theorem someJ0_next {l : List (Int × Int)} {q : Nat → Bool} {j ex ey : Nat} (hj : j < l.length) (h1 : (fun z : Int × Int => z.1) l[j] = (ex : Nat)) (h2 : (fun z : Int × Int => z.2) l[j] = (ey : Nat)) (x : Nat) : someJ0 l q (j + 1) x = (someJ0 l q j x || ((x == ex) && q ey)) := by
  have h1' : (fun z : Int × Int => z.1) l[j] = (ex : Nat) := h1
  unfold someJ0
  rw [List.take_succ_eq_append_getElem hj, List.any_append]
  congr 1
  simp only [List.any_cons, List.any_nil, Bool.or_false]
  dsimp only at h1 h2
  rw [h1, h2, Int.toNat_natCast]
  congr 1
  rw [Bool.eq_iff_iff]; simp; omega
theorem allJ0_next {l : List (Int × Int)} {q : Nat → Bool} {j ex ey : Nat} (hj : j < l.length) (h1 : (fun z : Int × Int => z.1) l[j] = (ex : Nat)) (h2 : (fun z : Int × Int => z.2) l[j] = (ey : Nat)) (x : Nat) : allJ0 l q (j + 1) x = (allJ0 l q j x && !((x == ex) && !q ey)) := by
  have : allJ0 l q (j + 1) x = !(someJ0 l (fun y => !q y) (j + 1) x) := rfl
  rw [this, someJ0_next hj h1 h2, Bool.not_or]
  rfl
theorem someJ0_all {m : Nat} {s : PL} (hok : okP m s = true) (h256 : m ≤ 256) (q : Nat → Bool) (x : Nat) : someJ0 s.l q s.l.length x = meetB (fun y : Nat => s.l.contains ((x : Int), (y : Int))) q := by
  obtain ⟨hf, -⟩ := okP_facts hok
  unfold someJ0 meetB
  rw [List.take_of_length_le (Nat.le_refl _), Bool.eq_iff_iff, List.any_eq_true, List.any_eq_true]
  constructor
  · rintro ⟨⟨a, b⟩, hz, h⟩
    have hh := hf _ hz
    simp only [Bool.and_eq_true, beq_iff_eq] at h
    dsimp only at hh h
    refine ⟨(b).toNat, List.mem_range.2 (by omega), ?_⟩
    rw [Bool.and_eq_true, List.contains_iff_mem]
    refine ⟨?_, h.2⟩
    rw [← h.1, show (((b).toNat : Nat) : Int) = b by omega]
    exact hz
  · rintro ⟨y, -, h⟩
    rw [Bool.and_eq_true, List.contains_iff_mem] at h
    exact ⟨_, h.1, by simp [h.2]⟩
theorem allJ0_all {m : Nat} {s : PL} (hok : okP m s = true) (h256 : m ≤ 256) (q : Nat → Bool) (x : Nat) : allJ0 s.l q s.l.length x = subB (fun y : Nat => s.l.contains ((x : Int), (y : Int))) q := by
  have : allJ0 s.l q s.l.length x = !(someJ0 s.l (fun y => !q y) s.l.length x) := rfl
  rw [this, someJ0_all hok h256]
  unfold meetB subB
  rw [Bool.eq_iff_iff, Bool.not_eq_true', List.any_eq_false, List.all_eq_true]
  constructor
  · intro h y hy
    have := h y hy
    cases h1 : s.l.contains ((x : Int), (y : Int)) <;> cases h2 : q y <;> simp_all
  · intro h y hy
    have := h y hy
    cases h1 : s.l.contains ((x : Int), (y : Int)) <;> cases h2 : q y <;> simp_all

def someJ1 (l : List (Int × Int)) (q : Nat → Bool) (j x : Nat) : Bool := (l.take j).any fun z => (z.2 == (x : Int)) && q (z.1).toNat
def allJ1 (l : List (Int × Int)) (q : Nat → Bool) (j x : Nat) : Bool := !((l.take j).any fun z => (z.2 == (x : Int)) && !q (z.1).toNat)
theorem someJ1_next {l : List (Int × Int)} {q : Nat → Bool} {j ex ey : Nat} (hj : j < l.length) (h1 : (fun z : Int × Int => z.2) l[j] = (ex : Nat)) (h2 : (fun z : Int × Int => z.1) l[j] = (ey : Nat)) (x : Nat) : someJ1 l q (j + 1) x = (someJ1 l q j x || ((x == ex) && q ey)) := by
  have h1' : (fun z : Int × Int => z.2) l[j] = (ex : Nat) := h1
  unfold someJ1
  rw [List.take_succ_eq_append_getElem hj, List.any_append]
  congr 1
  simp only [List.any_cons, List.any_nil, Bool.or_false]
  dsimp only at h1 h2
  rw [h1, h2, Int.toNat_natCast]
  congr 1
  rw [Bool.eq_iff_iff]; simp; omega
theorem allJ1_next {l : List (Int × Int)} {q : Nat → Bool} {j ex ey : Nat} (hj : j < l.length) (h1 : (fun z : Int × Int => z.2) l[j] = (ex : Nat)) (h2 : (fun z : Int × Int => z.1) l[j] = (ey : Nat)) (x : Nat) : allJ1 l q (j + 1) x = (allJ1 l q j x && !((x == ex) && !q ey)) := by
  have : allJ1 l q (j + 1) x = !(someJ1 l (fun y => !q y) (j + 1) x) := rfl
  rw [this, someJ1_next hj h1 h2, Bool.not_or]
  rfl
theorem someJ1_all {m : Nat} {s : PL} (hok : okP m s = true) (h256 : m ≤ 256) (q : Nat → Bool) (x : Nat) : someJ1 s.l q s.l.length x = meetB (fun y : Nat => s.l.contains ((y : Int), (x : Int))) q := by
  obtain ⟨hf, -⟩ := okP_facts hok
  unfold someJ1 meetB
  rw [List.take_of_length_le (Nat.le_refl _), Bool.eq_iff_iff, List.any_eq_true, List.any_eq_true]
  constructor
  · rintro ⟨⟨a, b⟩, hz, h⟩
    have hh := hf _ hz
    simp only [Bool.and_eq_true, beq_iff_eq] at h
    dsimp only at hh h
    refine ⟨(a).toNat, List.mem_range.2 (by omega), ?_⟩
    rw [Bool.and_eq_true, List.contains_iff_mem]
    refine ⟨?_, h.2⟩
    rw [← h.1, show (((a).toNat : Nat) : Int) = a by omega]
    exact hz
  · rintro ⟨y, -, h⟩
    rw [Bool.and_eq_true, List.contains_iff_mem] at h
    exact ⟨_, h.1, by simp [h.2]⟩
theorem allJ1_all {m : Nat} {s : PL} (hok : okP m s = true) (h256 : m ≤ 256) (q : Nat → Bool) (x : Nat) : allJ1 s.l q s.l.length x = subB (fun y : Nat => s.l.contains ((y : Int), (x : Int))) q := by
  have : allJ1 s.l q s.l.length x = !(someJ1 s.l (fun y => !q y) s.l.length x) := rfl
  rw [this, someJ1_all hok h256]
  unfold meetB subB
  rw [Bool.eq_iff_iff, Bool.not_eq_true', List.any_eq_false, List.all_eq_true]
  constructor
  · intro h y hy
    have := h y hy
    cases h1 : s.l.contains ((y : Int), (x : Int)) <;> cases h2 : q y <;> simp_all
  · intro h y hy
    have := h y hy
    cases h1 : s.l.contains ((y : Int), (x : Int)) <;> cases h2 : q y <;> simp_all

end Go.Proofs.YtnkkpjgclekobaaDoor
