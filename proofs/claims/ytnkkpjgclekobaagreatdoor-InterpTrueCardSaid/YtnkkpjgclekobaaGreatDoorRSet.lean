import Derived.Test.YtnkkpjgclekobaaGreatDoorIEl
import Derived.Test.YtnkkpjgclekobaaGreatDoorRPairs
import Derived.StillTailTactics
import Derived.Deep.QuietTactic
namespace Go.Proofs.YtnkkpjgclekobaaGreatDoor
open Go.RowKit

/-- A []bool of the call's own. -/
def bcs (p : Nat → Bool) (n : Nat) : List Value := (List.range n).map fun x => Value.bool (p x)
theorem bcs_len (p : Nat → Bool) (n : Nat) : (bcs p n).length = n := by simp [bcs]
theorem bcs_at (p : Nat → Bool) {n x : Nat} (hx : x < n) : (bcs p n)[x]? = some (.bool (p x)) := by
  rw [bcs, List.getElem?_map, List.getElem?_range hx]; rfl
theorem bcs_ext {p q : Nat → Bool} {n : Nat} (h : ∀ x, x < n → p x = q x) : bcs p n = bcs q n := by
  unfold bcs
  exact List.map_congr_left fun x hx => by rw [h x (List.mem_range.1 hx)]
def updB (p : Nat → Bool) (x : Nat) (v : Bool) : Nat → Bool := fun y => if y = x then v else p y
theorem bcs_upd (p : Nat → Bool) {n : Nat} (x : Nat) (v : Bool) : (bcs p n).toArray.setIfInBounds x (.bool v) = (bcs (updB p x v) n).toArray := by
  apply Array.ext_getElem?
  intro j
  simp only [Array.getElem?_setIfInBounds, List.getElem?_toArray, List.size_toArray, bcs_len]
  by_cases hj : j < n
  · rw [bcs_at _ hj, bcs_at _ hj]
    by_cases e : x = j
    · subst e
      rw [if_pos rfl, if_pos hj, updB, if_pos rfl]
    · rw [if_neg e, updB, if_neg (fun h => e h.symm)]
  · have h1 : ∀ q, (bcs q n)[j]? = none := fun q => List.getElem?_eq_none (by rw [bcs_len]; omega)
    rw [h1, h1]
    split
    · rw [if_neg (by omega)]
    · rfl
theorem bool_info : (Tryz.prog.info? 4).map (fun i => (i.zero, i.size, i.bytes)) = some (some (.bool false), 1, 1) := by kernel_rfl
theorem make_bools (n : Nat) (hn : n ≤ 256) (w : World) : (Instr.makeSlice 57 (.int .i64 (n : Int)) (.int .i64 (n : Int))).run Tryz.prog w = .ok (.slice (some ⟨w.heap.size, 0, none⟩) n n) (w.alloc (.cells (bcs (fun _ => false) n).toArray 4)) := by
  obtain ⟨i0, hi, hz0, hz1, hz2⟩ := info_parts bool_info
  have := run_make (P := Tryz.prog) w 57 4 i0 _ Tryz.underlying57 hi hz0 .i64 .i64 n n (by omega) (by omega) (by rw [hz2]; omega) (by omega)
  rw [this, hz1]
  simp only [Int.toNat_natCast, Nat.mul_one]
  have hmc : madeCells (Value.bool false).cells n = (bcs (fun _ => false) n).toArray := by
    apply Array.ext_getElem?
    intro j
    by_cases hj : j < n
    · simp only [List.getElem?_toArray]
      rw [bcs_at _ hj, Array.getElem?_eq_getElem (by rw [size_madeCells]; exact hj)]
      simp [madeCells, Nat.mod_one, Value.cells]
    · rw [Array.getElem?_eq_none (show _ ≤ j by rw [size_madeCells]; omega), Array.getElem?_eq_none (show _ ≤ j by simp only [List.size_toArray, bcs_len]; omega)]
  rw [hmc]
def BRow (w : World) (g n : Nat) (p : Nat → Bool) : Prop := w.heap[g]? = some (.cells (bcs p n).toArray 4)
theorem BRow.cell {w : World} {g n : Nat} {p : Nat → Bool} (h : BRow w g n p) {x : Nat} (hx : x < n) : w.cell? ⟨g, x, none⟩ = some (.bool (p x)) := by
  rw [cell_of_blk h, List.getElem?_toArray, bcs_at _ hx]
theorem BRow.set {w : World} {g n : Nat} {p : Nat → Bool} (h : BRow w g n p) (x : Nat) (v : Bool) : BRow (w.setCell ⟨g, x, none⟩ (.bool v)) g n (updB p x v) := by
  have := blk_set h x (.bool v)
  rw [bcs_upd] at this
  exact this
theorem BRow.ext {w : World} {g n : Nat} {p q : Nat → Bool} (h : BRow w g n p) (he : ∀ x, x < n → p x = q x) : BRow w g n q := by
  unfold BRow at *
  rw [h, bcs_ext he]
theorem BRow.lt {w : World} {g n : Nat} {p : Nat → Bool} (h : BRow w g n p) : g < w.heap.size := (Array.getElem?_eq_some_iff.1 h).1
/-- A set that the reference hands back: the elements below m. -/
def RetB (m : Nat) (p : Nat → Bool) (w : World) (e : Ending) (w' : World) : Prop := ∃ g, e = .returned (.slice (some ⟨g, 0, none⟩) m m) ∧ w.heap.size ≤ g ∧ BRow w' g m p ∧ Below w.heap.size w w'
theorem RetB.ext {m : Nat} {p q : Nat → Bool} {w w' : World} {e : Ending} (h : RetB m p w e w') (he : ∀ x, x < m → p x = q x) : RetB m q w e w' := by
  obtain ⟨g, h1, h2, h3, h4⟩ := h
  exact ⟨g, h1, h2, h3.ext he, h4⟩
theorem quantR_any (op : Int) (w : World) : Calls Tryz.prog 81 #[.int .i64 op] w fun e w' => e = .returned (.bool (op == 6 || op == 7)) ∧ w' = w := by
  rcases h : (op == 6)
  · go_enter Tryz.func81, Tryz.ntmps81
    go_wp2
    go_ret
    exact ⟨rfl, rfl⟩
  · go_enter Tryz.func81, Tryz.ntmps81
    go_wp2
    go_ret
    exact ⟨rfl, rfl⟩

set_option maxRecDepth 100000 in
set_option maxHeartbeats 8000000 in
theorem rSet_top (i : IN) (m : Nat) (hm : i.size = m) (h256 : m ≤ 256) (nn : Int) (A : Option Addr) (c : Nat) (w : World) (hi : i.In w.heap.size w) (hr : RowAt w w.heap.size 3 A 0 (([] : List MT).flatMap MT.cs)) :
    Calls Tryz.prog 99 #[.agg #[.int .i64 1, .int .i64 nn, .slice A 0 c], i.val] w (RetB m (fun x => decide (x < m)) w) := by
  obtain ⟨W1, hW1, hB1, hs1, hk1⟩ := newBlk w _ rfl #[.int .i64 1, .int .i64 nn, .slice A 0 c] 54
  obtain ⟨W2, hW2, hB2, hs2, hk2⟩ := newBlk W1 _ hs1 #[.int .i64 i.size, .slice i.CA i.C.length i.cc, .slice i.RA i.R.length i.rc, .slice i.I.A i.I.l.length i.I.c] 35
  obtain ⟨W3, hW3, hB3, hs3, hk3⟩ := newBlk W2 _ hs2 (bcs (fun _ => false) m).toArray 4
  have hB : Below w.heap.size w W3 := (hB1.trans (hB2.mono (by omega))).trans (hB3.mono (by omega))
  have hk13 := (hB3.block w.heap.size (by omega)).trans ((hB2.block w.heap.size (by omega)).trans hk1)
  have hk23 := (hB3.block (w.heap.size + 1) (by omega)).trans hk2
  have hbxs : ∀ w' : World, w'.heap[w.heap.size]? = W3.heap[w.heap.size]? → w'.heap[w.heap.size + 1]? = W3.heap[w.heap.size + 1]? → (w'.cell? ⟨w.heap.size, 0, none⟩ = some (.int .i64 1) ∧ w'.cell? ⟨w.heap.size, 1, none⟩ = some (.int .i64 nn) ∧ w'.cell? ⟨w.heap.size, 2, none⟩ = some (.slice A 0 c)) ∧ w'.cell? ⟨w.heap.size + 1, 0, none⟩ = some (.int .i64 (m : Int)) ∧ w'.cell? ⟨w.heap.size + 1, 1, none⟩ = some (.slice i.CA i.C.length i.cc) ∧ w'.cell? ⟨w.heap.size + 1, 2, none⟩ = some (.slice i.RA i.R.length i.rc) ∧ w'.cell? ⟨w.heap.size + 1, 3, none⟩ = some (.slice i.I.A i.I.l.length i.I.c) := fun w' h1 h2 => by
    have e1 := h1.trans hk13
    have e2 := h2.trans hk23
    rw [← hm]
    exact ⟨⟨cell_of_blk e1 0, cell_of_blk e1 1, cell_of_blk e1 2⟩, cell_of_blk e2 0, cell_of_blk e2 1, cell_of_blk e2 2, cell_of_blk e2 3⟩
  have hmk := make_bools m h256 W2
  have hbelow : ∀ w' : World, Below W3.heap.size W3 w' → _ := fun w' hb => hbxs w' (hb.block _ (by omega)) (hb.block _ (by omega))
  have hgrown : ∀ w5 w' : World, Below W3.heap.size W3 w5 → w5.grownBy w' (some (w.heap.size + 1 + 1)) → _ := fun w5 w' hb hg => hbxs w' ((hg.block _ (by have := hb.size; omega) (by simp; omega)).trans (hb.block _ (by omega))) ((hg.block _ (by have := hb.size; omega) (by simp)).trans (hb.block _ (by omega)))
  have hb3 := hbxs W2 (hB3.block _ (by omega)).symm (hB3.block _ (by omega)).symm
  obtain ⟨⟨a0, a1, a2⟩, b0, b1, b2, b3⟩ := hb3
  obtain ⟨⟨c0, c1, c2⟩, d0, d1, d2, d3⟩ := hbxs W3 rfl rfl
  rw [hs2, hW3] at hmk
  have HB := Lib.hid hB
  have HBL := Lib.hid hbelow
  have HGR := Lib.hid hgrown
  have HI := Lib.hid hi
  have HM := Lib.hid hm
  simp only [IN.val]
  clear hB hm hbxs hbelow hgrown hi hk13 hk23 hk1 hk2
  go_enter Tryz.func99, Tryz.ntmps99
  go_wp2_with fail
  clear a0 a1 a2 b0 b1 b2 b3 c0 c1 c2 d0 d1 d2 d3
  go_loopw [58] (fun i' wr => ∃ k : Nat, k ≤ m ∧ i' = .int .i64 (k : Nat) ∧ BRow wr (w.heap.size + 1 + 1) m (fun x => decide (x < k)) ∧ W3.grownBy wr (some (w.heap.size + 1 + 1))) (fun i' _ => m - (intOf i').toNat)
  case atStart => exact ⟨0, Nat.zero_le _, rfl, BRow.ext hk3 (fun x _ => by simp), World.grownBy.refl W3 _⟩
  case round =>
    obtain ⟨k, hk, rfl, hbr, hg⟩ := hrel
    obtain ⟨⟨a0, a1, a2⟩, b0, b1, b2, b3⟩ := HGR.out W3 wr (Below.refl _ _) hg
    have h0I : (0 : Int) ≤ k := by omega
    by_cases hlt : k < m
    · have hlI : (k : Int) < m := by omega
      have hce := hbr.cell hlt
      have hfz := frozen_of_blk hbr k
      go_wp2_with fail
      go_roundw
      case rel => exact ⟨k + 1, by omega, by go_num, (hbr.set k true).ext (fun x hx => by unfold updB; by_cases e : x = k; (subst e; simp); (rw [if_neg e, decide_eq_decide]; omega)), grown_trans hg (grown_set wr _ _ _)⟩
      case measure => simp [intOf]; omega
    · have hke : k = m := by omega
      subst hke
      have hq := quantR_any 1 wr
      go_wp2_with (go_at_call 81; refine hq.mono ?_; rintro e w9 ⟨rfl, rfl⟩)
      go_ret
      exact ⟨w.heap.size + 1 + 1, rfl, by omega, hbr, HB.out.grown hg (by omega) (fun k' e => by cases e; omega)⟩

set_option maxRecDepth 100000 in
set_option maxHeartbeats 8000000 in
theorem rSet_bot (i : IN) (m : Nat) (hm : i.size = m) (h256 : m ≤ 256) (nn : Int) (A : Option Addr) (c : Nat) (w : World) (hi : i.In w.heap.size w) (hr : RowAt w w.heap.size 3 A 0 (([] : List MT).flatMap MT.cs)) :
    Calls Tryz.prog 99 #[.agg #[.int .i64 2, .int .i64 nn, .slice A 0 c], i.val] w (RetB m (fun _ => false) w) := by
  obtain ⟨W1, hW1, hB1, hs1, hk1⟩ := newBlk w _ rfl #[.int .i64 2, .int .i64 nn, .slice A 0 c] 54
  obtain ⟨W2, hW2, hB2, hs2, hk2⟩ := newBlk W1 _ hs1 #[.int .i64 i.size, .slice i.CA i.C.length i.cc, .slice i.RA i.R.length i.rc, .slice i.I.A i.I.l.length i.I.c] 35
  obtain ⟨W3, hW3, hB3, hs3, hk3⟩ := newBlk W2 _ hs2 (bcs (fun _ => false) m).toArray 4
  have hB : Below w.heap.size w W3 := (hB1.trans (hB2.mono (by omega))).trans (hB3.mono (by omega))
  have hk13 := (hB3.block w.heap.size (by omega)).trans ((hB2.block w.heap.size (by omega)).trans hk1)
  have hk23 := (hB3.block (w.heap.size + 1) (by omega)).trans hk2
  have hbxs : ∀ w' : World, w'.heap[w.heap.size]? = W3.heap[w.heap.size]? → w'.heap[w.heap.size + 1]? = W3.heap[w.heap.size + 1]? → (w'.cell? ⟨w.heap.size, 0, none⟩ = some (.int .i64 2) ∧ w'.cell? ⟨w.heap.size, 1, none⟩ = some (.int .i64 nn) ∧ w'.cell? ⟨w.heap.size, 2, none⟩ = some (.slice A 0 c)) ∧ w'.cell? ⟨w.heap.size + 1, 0, none⟩ = some (.int .i64 (m : Int)) ∧ w'.cell? ⟨w.heap.size + 1, 1, none⟩ = some (.slice i.CA i.C.length i.cc) ∧ w'.cell? ⟨w.heap.size + 1, 2, none⟩ = some (.slice i.RA i.R.length i.rc) ∧ w'.cell? ⟨w.heap.size + 1, 3, none⟩ = some (.slice i.I.A i.I.l.length i.I.c) := fun w' h1 h2 => by
    have e1 := h1.trans hk13
    have e2 := h2.trans hk23
    rw [← hm]
    exact ⟨⟨cell_of_blk e1 0, cell_of_blk e1 1, cell_of_blk e1 2⟩, cell_of_blk e2 0, cell_of_blk e2 1, cell_of_blk e2 2, cell_of_blk e2 3⟩
  have hmk := make_bools m h256 W2
  have hbelow : ∀ w' : World, Below W3.heap.size W3 w' → _ := fun w' hb => hbxs w' (hb.block _ (by omega)) (hb.block _ (by omega))
  have hgrown : ∀ w5 w' : World, Below W3.heap.size W3 w5 → w5.grownBy w' (some (w.heap.size + 1 + 1)) → _ := fun w5 w' hb hg => hbxs w' ((hg.block _ (by have := hb.size; omega) (by simp; omega)).trans (hb.block _ (by omega))) ((hg.block _ (by have := hb.size; omega) (by simp)).trans (hb.block _ (by omega)))
  have hb3 := hbxs W2 (hB3.block _ (by omega)).symm (hB3.block _ (by omega)).symm
  obtain ⟨⟨a0, a1, a2⟩, b0, b1, b2, b3⟩ := hb3
  obtain ⟨⟨c0, c1, c2⟩, d0, d1, d2, d3⟩ := hbxs W3 rfl rfl
  rw [hs2, hW3] at hmk
  have HB := Lib.hid hB
  have HBL := Lib.hid hbelow
  have HGR := Lib.hid hgrown
  have HI := Lib.hid hi
  have HM := Lib.hid hm
  simp only [IN.val]
  clear hB hm hbxs hbelow hgrown hi hk13 hk23 hk1 hk2
  go_enter Tryz.func99, Tryz.ntmps99
  go_wp2_with fail
  clear a0 a1 a2 b0 b1 b2 b3 c0 c1 c2 d0 d1 d2 d3
  go_loopw [58] (fun i' wr => ∃ k : Nat, k ≤ m ∧ i' = .int .i64 (k : Nat) ∧ BRow wr (w.heap.size + 1 + 1) m (fun _ => false) ∧ W3.grownBy wr (some (w.heap.size + 1 + 1))) (fun i' _ => m - (intOf i').toNat)
  case atStart => exact ⟨0, Nat.zero_le _, rfl, BRow.ext hk3 (fun x _ => by simp), World.grownBy.refl W3 _⟩
  case round =>
    obtain ⟨k, hk, rfl, hbr, hg⟩ := hrel
    obtain ⟨⟨a0, a1, a2⟩, b0, b1, b2, b3⟩ := HGR.out W3 wr (Below.refl _ _) hg
    have h0I : (0 : Int) ≤ k := by omega
    by_cases hlt : k < m
    · have hlI : (k : Int) < m := by omega
      have hce := hbr.cell hlt
      have hfz := frozen_of_blk hbr k
      go_wp2_with fail
      go_roundw
      case rel => exact ⟨k + 1, by omega, by go_num, hbr, hg⟩
      case measure => simp [intOf]; omega
    · have hke : k = m := by omega
      subst hke
      have hq := quantR_any 2 wr
      go_wp2_with (go_at_call 81; refine hq.mono ?_; rintro e w9 ⟨rfl, rfl⟩)
      go_ret
      exact ⟨w.heap.size + 1 + 1, rfl, by omega, hbr, HB.out.grown hg (by omega) (fun k' e => by cases e; omega)⟩

set_option maxRecDepth 100000 in
set_option maxHeartbeats 8000000 in
theorem rSet_name (i : IN) (m : Nat) (hm : i.size = m) (h256 : m ≤ 256) (nn : Int) (A : Option Addr) (c : Nat) (k : Nat) (hk : k < i.C.length) (hnn : nn = k) (hok : okI m i.C[k] = true) (w : World) (hi : i.In w.heap.size w) (hr : RowAt w w.heap.size 3 A 0 (([] : List MT).flatMap MT.cs)) :
    Calls Tryz.prog 99 #[.agg #[.int .i64 0, .int .i64 nn, .slice A 0 c], i.val] w (RetB m (namesF i k) w) := by
  obtain ⟨W1, hW1, hB1, hs1, hk1⟩ := newBlk w _ rfl #[.int .i64 0, .int .i64 nn, .slice A 0 c] 54
  obtain ⟨W2, hW2, hB2, hs2, hk2⟩ := newBlk W1 _ hs1 #[.int .i64 i.size, .slice i.CA i.C.length i.cc, .slice i.RA i.R.length i.rc, .slice i.I.A i.I.l.length i.I.c] 35
  obtain ⟨W3, hW3, hB3, hs3, hk3⟩ := newBlk W2 _ hs2 (bcs (fun _ => false) m).toArray 4
  have hB : Below w.heap.size w W3 := (hB1.trans (hB2.mono (by omega))).trans (hB3.mono (by omega))
  have hk13 := (hB3.block w.heap.size (by omega)).trans ((hB2.block w.heap.size (by omega)).trans hk1)
  have hk23 := (hB3.block (w.heap.size + 1) (by omega)).trans hk2
  have hbxs : ∀ w' : World, w'.heap[w.heap.size]? = W3.heap[w.heap.size]? → w'.heap[w.heap.size + 1]? = W3.heap[w.heap.size + 1]? → (w'.cell? ⟨w.heap.size, 0, none⟩ = some (.int .i64 0) ∧ w'.cell? ⟨w.heap.size, 1, none⟩ = some (.int .i64 nn) ∧ w'.cell? ⟨w.heap.size, 2, none⟩ = some (.slice A 0 c)) ∧ w'.cell? ⟨w.heap.size + 1, 0, none⟩ = some (.int .i64 (m : Int)) ∧ w'.cell? ⟨w.heap.size + 1, 1, none⟩ = some (.slice i.CA i.C.length i.cc) ∧ w'.cell? ⟨w.heap.size + 1, 2, none⟩ = some (.slice i.RA i.R.length i.rc) ∧ w'.cell? ⟨w.heap.size + 1, 3, none⟩ = some (.slice i.I.A i.I.l.length i.I.c) := fun w' h1 h2 => by
    have e1 := h1.trans hk13
    have e2 := h2.trans hk23
    rw [← hm]
    exact ⟨⟨cell_of_blk e1 0, cell_of_blk e1 1, cell_of_blk e1 2⟩, cell_of_blk e2 0, cell_of_blk e2 1, cell_of_blk e2 2, cell_of_blk e2 3⟩
  have hmk := make_bools m h256 W2
  have hbelow : ∀ w' : World, Below W3.heap.size W3 w' → _ := fun w' hb => hbxs w' (hb.block _ (by omega)) (hb.block _ (by omega))
  have hgrown : ∀ w5 w' : World, Below W3.heap.size W3 w5 → w5.grownBy w' (some (w.heap.size + 1 + 1)) → _ := fun w5 w' hb hg => hbxs w' ((hg.block _ (by have := hb.size; omega) (by simp; omega)).trans (hb.block _ (by omega))) ((hg.block _ (by have := hb.size; omega) (by simp)).trans (hb.block _ (by omega)))
  have hb3 := hbxs W2 (hB3.block _ (by omega)).symm (hB3.block _ (by omega)).symm
  obtain ⟨⟨a0, a1, a2⟩, b0, b1, b2, b3⟩ := hb3
  obtain ⟨⟨c0, c1, c2⟩, d0, d1, d2, d3⟩ := hbxs W3 rfl rfl
  rw [hs2, hW3] at hmk
  have HB := Lib.hid hB
  have HBL := Lib.hid hbelow
  have HGR := Lib.hid hgrown
  have HI := Lib.hid hi
  have HM := Lib.hid hm
  simp only [IN.val]
  clear hB hm hbxs hbelow hgrown hi hk13 hk23 hk1 hk2
  subst hnn
  have hi3 := HI.out.later HB.out
  obtain ⟨g, off, hCA, hg, d1'⟩ := RowAt.vals hi3.c3 (by omega)
  have e1 := d1' k hk
  simp only [IL.val] at e1
  have hin : (i.C[k]).In W3.heap.size W3 := hi3.c4 _ (List.getElem_mem hk)
  have HNF := Lib.hid (show namesF i k = fun x : Nat => (i.C[k].l).contains (x : Int) by funext x; rw [namesF, List.getElem?_eq_getElem hk])
  have HF := Lib.hid (okI_facts hok).1
  have h0K : (0 : Int) ≤ k := by omega
  have hlK : (k : Int) < i.C.length := by omega
  have hsl : (i.C[k]).l.length ≤ 9223372036854775807 := Nat.le_trans hin.1 hin.2.1
  rw [hCA] at d1 b1 HBL HGR hW2 ⊢
  clear d1' hi3 hok
  generalize i.C[k] = s at e1 hin HNF HF hsl
  have HIN := Lib.hid hin
  clear hin
  go_enter Tryz.func99, Tryz.ntmps99
  go_wp2_with fail
  clear a0 a1 a2 b0 b1 b2 b3 c0 c1 c2 d0 d1 d2 d3 e1
  go_loopw [48] (fun i' wr => ∃ j : Nat, j ≤ s.l.length ∧ i' = .int .i64 (j : Nat) ∧ BRow wr (w.heap.size + 1 + 1) m (fun x : Nat => (s.l.take j).contains (x : Int)) ∧ W3.grownBy wr (some (w.heap.size + 1 + 1))) (fun i' _ => s.l.length - (intOf i').toNat)
  case atStart => exact ⟨0, Nat.zero_le _, rfl, BRow.ext hk3 (fun x _ => rfl), World.grownBy.refl W3 _⟩
  case round =>
    obtain ⟨j, hj, rfl, hbr, hg2⟩ := hrel
    have hbw : Below (w.heap.size + 1 + 1) W3 wr := (Below.refl _ _).grown hg2 (by omega) (fun k' e => by cases e; omega)
    by_cases hltj : j < s.l.length
    · obtain ⟨g2, off2, hSA, hgg2, d2⟩ := IL.In.cells (HIN.out) (by omega)
      have e2 : wr.cell? ⟨g2, off2 + j, none⟩ = some (.int .i64 s.l[j]) := by
        have hne : g2 ≠ w.heap.size + 1 + 1 := fun e => by
          have := d2 j hltj
          rw [e, cell_of_blk hk3, List.getElem?_toArray] at this
          rcases h : (bcs (fun _ => false) m)[off2 + j]? with _ | u
          · rw [h] at this; cases this
          · rw [h] at this
            have hu := List.mem_of_getElem? h
            simp only [bcs, List.mem_map] at hu
            obtain ⟨_, _, hu⟩ := hu
            rw [← hu] at this; cases this
        have hb := hg2.block g2 hgg2 (by simpa using hne)
        exact (show wr.cell? ⟨g2, off2 + j, none⟩ = W3.cell? ⟨g2, off2 + j, none⟩ by simp only [World.cell?, hb]).trans (d2 j hltj)
      obtain ⟨e, he, hen⟩ : ∃ e : Nat, s.l[j] = (e : Int) ∧ e < m := by
        have := HF.out _ (List.getElem_mem hltj)
        exact ⟨s.l[j].toNat, by omega, by omega⟩
      have HTK := Lib.hid (show ∀ x, x < m → updB (fun x : Nat => (s.l.take j).contains (x : Int)) e true x = (s.l.take (j + 1)).contains (x : Int) from fun x _ => by
        rw [List.take_succ_eq_append_getElem hltj, he]
        unfold updB
        by_cases hx : x = e
        · subst hx; simp
        · rw [if_neg hx, Bool.eq_iff_iff]
          simp only [List.contains_iff_mem, List.mem_append, List.mem_singleton]
          exact ⟨Or.inl, fun h => h.elim id fun h => absurd (by omega) hx⟩)
      rw [he] at e2
      rw [hSA]
      have h0J : (0 : Int) ≤ j := by omega
      have hlJ : (j : Int) < s.l.length := by omega
      have h0E : (0 : Int) ≤ e := by omega
      have hlE : (e : Int) < m := by omega
      have hce := hbr.cell hen
      have hfz := frozen_of_blk hbr e
      clear d2 he
      go_wp2_with fail
      go_roundw
      case rel => exact ⟨j + 1, by omega, by go_num, (hbr.set e true).ext HTK.out, grown_trans hg2 (grown_set wr _ _ _)⟩
      case measure => simp [intOf]; omega
    · have hbr' : BRow wr (w.heap.size + 1 + 1) m (namesF i k) := by rw [HNF.out]; rwa [List.take_of_length_le (by omega)] at hbr
      have HBR := Lib.hid hbr'
      have hgo := hg2
      clear hbr hbr'
      go_wp2_with fail
      rename World => wo
      go_loopw [58] (fun i' wr => ∃ x : Nat, x ≤ m ∧ i' = .int .i64 (x : Nat) ∧ wr = wo) (fun i' _ => m - (intOf i').toNat)
      case atStart => exact ⟨0, Nat.zero_le _, rfl, rfl⟩
      case round =>
        obtain ⟨x, hx, rfl, rfl⟩ := hrel
        obtain ⟨⟨a0, a1, a2⟩, b0, b1, b2, b3⟩ := HGR.out W3 wr (Below.refl _ _) hgo
        by_cases hlt : x < m
        · have h0X : (0 : Int) ≤ x := by omega
          have hlX : (x : Int) < m := by omega
          go_wp2_with fail
          go_roundw
          case rel => exact ⟨x + 1, by omega, by go_num, by first | rfl | trivial⟩
          case measure => simp [intOf]; omega
        · have hq := quantR_any 0 wr
          go_wp2_with (go_at_call 81; refine hq.mono ?_; rintro e w9 ⟨rfl, rfl⟩)
          go_ret
          exact ⟨w.heap.size + 1 + 1, rfl, by omega, HBR.out, HB.out.grown hgo (by omega) (fun k' e => by cases e; omega)⟩
end Go.Proofs.YtnkkpjgclekobaaGreatDoor

namespace Go.Proofs.YtnkkpjgclekobaaGreatDoor
open Go.RowKit
theorem BRow.later {w w' : World} {g n : Nat} {p : Nat → Bool} (h : BRow w g n p) (hb : Below w.heap.size w w') : BRow w' g n p := blk_lat h hb
theorem BRow.grown {w w' : World} {g n : Nat} {p : Nat → Bool} {row : Option Nat} (h : BRow w g n p) (hg : w.grownBy w' row) (hne : some g ≠ row) : BRow w' g n p := (hg.block g h.lt hne).trans h
theorem updB_step (V : Nat → Bool) (k x : Nat) : updB (fun x => decide (x < k) && V x) k (V k) x = (decide (x < k + 1) && V x) := by
  unfold updB
  by_cases e : x = k
  · subst e; simp
  · rw [if_neg e]; show (decide (x < k) && V x) = _; congr 1; rw [decide_eq_decide]; omega

set_option maxRecDepth 100000 in
set_option maxHeartbeats 8000000 in
theorem rSet_not (i : IN) (m : Nat) (hm : i.size = m) (h256 : m ≤ 256) (nn : Int) (A : Option Addr) (c : Nat) (T0 : MT) (q0 : Nat → Bool) (w : World) (hi : i.In w.heap.size w) (hr : RowAt w w.heap.size 3 A 1 (([T0] : List MT).flatMap MT.cs))
    (hE0 : ∀ w', Below w.heap.size w w' → Calls Tryz.prog 99 #[T0.val, i.val] w' (RetB m q0 w')) :
    Calls Tryz.prog 99 #[.agg #[.int .i64 3, .int .i64 nn, .slice A 1 c], i.val] w (RetB m (fun x => !q0 x) w) := by
  obtain ⟨W1, hW1, hB1, hs1, hk1⟩ := newBlk w _ rfl #[.int .i64 3, .int .i64 nn, .slice A 1 c] 54
  obtain ⟨W2, hW2, hB2, hs2, hk2⟩ := newBlk W1 _ hs1 #[.int .i64 i.size, .slice i.CA i.C.length i.cc, .slice i.RA i.R.length i.rc, .slice i.I.A i.I.l.length i.I.c] 35
  obtain ⟨W3, hW3, hB3, hs3, hk3⟩ := newBlk W2 _ hs2 (bcs (fun _ => false) m).toArray 4
  have hB : Below w.heap.size w W3 := (hB1.trans (hB2.mono (by omega))).trans (hB3.mono (by omega))
  have hk13 := (hB3.block w.heap.size (by omega)).trans ((hB2.block w.heap.size (by omega)).trans hk1)
  have hk23 := (hB3.block (w.heap.size + 1) (by omega)).trans hk2
  have hbxs : ∀ w' : World, w'.heap[w.heap.size]? = W3.heap[w.heap.size]? → w'.heap[w.heap.size + 1]? = W3.heap[w.heap.size + 1]? → (w'.cell? ⟨w.heap.size, 0, none⟩ = some (.int .i64 3) ∧ w'.cell? ⟨w.heap.size, 1, none⟩ = some (.int .i64 nn) ∧ w'.cell? ⟨w.heap.size, 2, none⟩ = some (.slice A 1 c)) ∧ w'.cell? ⟨w.heap.size + 1, 0, none⟩ = some (.int .i64 (m : Int)) ∧ w'.cell? ⟨w.heap.size + 1, 1, none⟩ = some (.slice i.CA i.C.length i.cc) ∧ w'.cell? ⟨w.heap.size + 1, 2, none⟩ = some (.slice i.RA i.R.length i.rc) ∧ w'.cell? ⟨w.heap.size + 1, 3, none⟩ = some (.slice i.I.A i.I.l.length i.I.c) := fun w' h1 h2 => by
    have e1 := h1.trans hk13
    have e2 := h2.trans hk23
    rw [← hm]
    exact ⟨⟨cell_of_blk e1 0, cell_of_blk e1 1, cell_of_blk e1 2⟩, cell_of_blk e2 0, cell_of_blk e2 1, cell_of_blk e2 2, cell_of_blk e2 3⟩
  have hmk := make_bools m h256 W2
  have hbelow : ∀ w' : World, Below W3.heap.size W3 w' → _ := fun w' hb => hbxs w' (hb.block _ (by omega)) (hb.block _ (by omega))
  have hgrown : ∀ w5 w' : World, Below W3.heap.size W3 w5 → w5.grownBy w' (some (w.heap.size + 1 + 1)) → _ := fun w5 w' hb hg => hbxs w' ((hg.block _ (by have := hb.size; omega) (by simp; omega)).trans (hb.block _ (by omega))) ((hg.block _ (by have := hb.size; omega) (by simp)).trans (hb.block _ (by omega)))
  have hb3 := hbxs W2 (hB3.block _ (by omega)).symm (hB3.block _ (by omega)).symm
  obtain ⟨⟨a0, a1, a2⟩, b0, b1, b2, b3⟩ := hb3
  obtain ⟨⟨c0, c1, c2⟩, d0, d1, d2, d3⟩ := hbxs W3 rfl rfl
  rw [hs2, hW3] at hmk
  have HB := Lib.hid hB
  have HBL := Lib.hid hbelow
  have HGR := Lib.hid hgrown
  have HI := Lib.hid hi
  have HM := Lib.hid hm
  have HE0 := Lib.hid hE0
  simp only [MT.val, IN.val] at HE0
  simp only [IN.val]
  clear hB hm hbxs hbelow hgrown hi hk13 hk23 hk1 hk2 hE0
  obtain ⟨ab, aoff, rfl, hab, g00, g01, g02⟩ := elem3 (k := 0) hr HB.out (by simp)
  simp only [Nat.zero_mul, Nat.add_zero, List.getElem_cons_zero] at g00 g01 g02
  have hd3 : Below W3.heap.size W3 W3.drew := (Below.refl _ W3).drew
  have u00 : W3.drew.cell? ⟨ab, aoff, none⟩ = _ := g00
  have u01 : W3.drew.cell? ⟨ab, aoff + 1, none⟩ = _ := g01
  have u02 : W3.drew.cell? ⟨ab, aoff + 2, none⟩ = _ := g02
  have v2 : W3.drew.cell? ⟨w.heap.size, 2, none⟩ = _ := c2
  have v3 : W3.drew.cell? ⟨w.heap.size + 1, 0, none⟩ = _ := d0
  have v4 : W3.drew.cell? ⟨w.heap.size + 1, 1, none⟩ = _ := d1
  have v5 : W3.drew.cell? ⟨w.heap.size + 1, 2, none⟩ = _ := d2
  have v6 : W3.drew.cell? ⟨w.heap.size + 1, 3, none⟩ = _ := d3
  have hc0 := HE0.out W3.drew (HB.out.drew)
  rw [HM.out] at hc0
  have HMI := Lib.hid HM.out
  go_enter Tryz.func99, Tryz.ntmps99
  rw [HM.out] at hW2 ⊢
  go_wp2_with fail
  go_still_tail 5, (by kernel_rfl)
  go_wp2_with (go_at_call 99; refine hc0.mono ?_; clear hc0; rintro e w4 ⟨ga, rfl, hga, hbra, hb4'⟩; have hb4 : Below W3.heap.size W3 w4 := hd3.trans hb4'; obtain ⟨⟨x0, x1, x2⟩, x3, x4, x5, x6⟩ := HBL.out w4 hb4)
  have hbr0 : BRow w4 (w.heap.size + 1 + 1) m (fun _ => false) := BRow.later hk3 hb4
  have hbA : BRow w4 ga m q0 := hbra
  have hgA : ga ≠ w.heap.size + 1 + 1 := by have h2 : W3.heap.size ≤ ga := hga; omega
  have hB5 : Below w.heap.size w w4 := HB.out.trans (hb4.mono (by omega))
  have hs5 : w.heap.size + 1 + 1 < w4.heap.size := by have := hb4.size; omega
  go_loopw [58] (fun i' wr => ∃ k : Nat, k ≤ m ∧ i' = .int .i64 (k : Nat) ∧ BRow wr (w.heap.size + 1 + 1) m (fun x => decide (x < k) && (fun x => !q0 x) x) ∧ w4.grownBy wr (some (w.heap.size + 1 + 1))) (fun i' _ => m - (intOf i').toNat)
  case atStart => exact ⟨0, Nat.zero_le _, rfl, hbr0.ext (fun x _ => by simp), World.grownBy.refl _ _⟩
  case round =>
    obtain ⟨k, hk, rfl, hbr, hg⟩ := hrel
    obtain ⟨⟨a0, a1, a2⟩, b0, b1, b2, b3⟩ := HGR.out w4 wr hb4 hg
    have h0I : (0 : Int) ≤ k := by omega
    by_cases hlt : k < m
    · have hlI : (k : Int) < m := by omega
      have hce := hbr.cell hlt
      have hfz := frozen_of_blk hbr k
      have hca := (hbA.grown hg (by simpa using hgA)).cell hlt
      have HST := Lib.hid (show ∀ v, v = (fun x => !q0 x) k → ∀ x, x < m → updB (fun x => decide (x < k) && (fun x => !q0 x) x) k v x = (decide (x < k + 1) && (fun x => !q0 x) x) from fun v hv x _ => by rw [hv]; exact updB_step (fun x => !q0 x) k x)
      go_wp2_with fail
      go_roundw
      case rel => exact ⟨k + 1, by omega, by go_num, (hbr.set k (!q0 k)).ext (HST.out _ rfl), grown_trans hg (grown_set wr _ _ _)⟩
      case measure => simp [intOf]; omega
    · have hke : k = m := by omega
      subst hke
      have hq := quantR_any 3 wr
      have HBR := Lib.hid (hbr.ext (q := fun x => !q0 x) (fun x hx => by simp [hx]))
      go_wp2_with (go_at_call 81; refine hq.mono ?_; rintro e w9 ⟨rfl, rfl⟩)
      go_ret
      exact ⟨w.heap.size + 1 + 1, rfl, by omega, HBR.out, hB5.grown hg (by omega) (fun k' e => by cases e; omega)⟩

set_option maxRecDepth 100000 in
set_option maxHeartbeats 8000000 in
theorem rSet_and (i : IN) (m : Nat) (hm : i.size = m) (h256 : m ≤ 256) (nn : Int) (A : Option Addr) (c : Nat) (T0 T1 : MT) (q0 q1 : Nat → Bool) (w : World) (hi : i.In w.heap.size w) (hr : RowAt w w.heap.size 3 A 2 (([T0, T1] : List MT).flatMap MT.cs))
    (hE0 : ∀ w', Below w.heap.size w w' → Calls Tryz.prog 99 #[T0.val, i.val] w' (RetB m q0 w'))
    (hE1 : ∀ w', Below w.heap.size w w' → Calls Tryz.prog 99 #[T1.val, i.val] w' (RetB m q1 w')) :
    Calls Tryz.prog 99 #[.agg #[.int .i64 4, .int .i64 nn, .slice A 2 c], i.val] w (RetB m (fun x => q0 x && q1 x) w) := by
  obtain ⟨W1, hW1, hB1, hs1, hk1⟩ := newBlk w _ rfl #[.int .i64 4, .int .i64 nn, .slice A 2 c] 54
  obtain ⟨W2, hW2, hB2, hs2, hk2⟩ := newBlk W1 _ hs1 #[.int .i64 i.size, .slice i.CA i.C.length i.cc, .slice i.RA i.R.length i.rc, .slice i.I.A i.I.l.length i.I.c] 35
  obtain ⟨W3, hW3, hB3, hs3, hk3⟩ := newBlk W2 _ hs2 (bcs (fun _ => false) m).toArray 4
  have hB : Below w.heap.size w W3 := (hB1.trans (hB2.mono (by omega))).trans (hB3.mono (by omega))
  have hk13 := (hB3.block w.heap.size (by omega)).trans ((hB2.block w.heap.size (by omega)).trans hk1)
  have hk23 := (hB3.block (w.heap.size + 1) (by omega)).trans hk2
  have hbxs : ∀ w' : World, w'.heap[w.heap.size]? = W3.heap[w.heap.size]? → w'.heap[w.heap.size + 1]? = W3.heap[w.heap.size + 1]? → (w'.cell? ⟨w.heap.size, 0, none⟩ = some (.int .i64 4) ∧ w'.cell? ⟨w.heap.size, 1, none⟩ = some (.int .i64 nn) ∧ w'.cell? ⟨w.heap.size, 2, none⟩ = some (.slice A 2 c)) ∧ w'.cell? ⟨w.heap.size + 1, 0, none⟩ = some (.int .i64 (m : Int)) ∧ w'.cell? ⟨w.heap.size + 1, 1, none⟩ = some (.slice i.CA i.C.length i.cc) ∧ w'.cell? ⟨w.heap.size + 1, 2, none⟩ = some (.slice i.RA i.R.length i.rc) ∧ w'.cell? ⟨w.heap.size + 1, 3, none⟩ = some (.slice i.I.A i.I.l.length i.I.c) := fun w' h1 h2 => by
    have e1 := h1.trans hk13
    have e2 := h2.trans hk23
    rw [← hm]
    exact ⟨⟨cell_of_blk e1 0, cell_of_blk e1 1, cell_of_blk e1 2⟩, cell_of_blk e2 0, cell_of_blk e2 1, cell_of_blk e2 2, cell_of_blk e2 3⟩
  have hmk := make_bools m h256 W2
  have hbelow : ∀ w' : World, Below W3.heap.size W3 w' → _ := fun w' hb => hbxs w' (hb.block _ (by omega)) (hb.block _ (by omega))
  have hgrown : ∀ w5 w' : World, Below W3.heap.size W3 w5 → w5.grownBy w' (some (w.heap.size + 1 + 1)) → _ := fun w5 w' hb hg => hbxs w' ((hg.block _ (by have := hb.size; omega) (by simp; omega)).trans (hb.block _ (by omega))) ((hg.block _ (by have := hb.size; omega) (by simp)).trans (hb.block _ (by omega)))
  have hb3 := hbxs W2 (hB3.block _ (by omega)).symm (hB3.block _ (by omega)).symm
  obtain ⟨⟨a0, a1, a2⟩, b0, b1, b2, b3⟩ := hb3
  obtain ⟨⟨c0, c1, c2⟩, d0, d1, d2, d3⟩ := hbxs W3 rfl rfl
  rw [hs2, hW3] at hmk
  have HB := Lib.hid hB
  have HBL := Lib.hid hbelow
  have HGR := Lib.hid hgrown
  have HI := Lib.hid hi
  have HM := Lib.hid hm
  have HE0 := Lib.hid hE0
  have HE1 := Lib.hid hE1
  simp only [MT.val, IN.val] at HE0 HE1
  simp only [IN.val]
  clear hB hm hbxs hbelow hgrown hi hk13 hk23 hk1 hk2 hE0 hE1
  obtain ⟨ab, aoff, rfl, hab, g00, g01, g02⟩ := elem3 (k := 0) hr HB.out (by simp)
  simp only [Nat.zero_mul, Nat.add_zero, List.getElem_cons_zero] at g00 g01 g02
  obtain ⟨ab', aoff', he, -, g10, g11, g12⟩ := elem3 (k := 1) hr HB.out (by simp)
  cases he
  simp only [Nat.one_mul, List.getElem_cons_succ, List.getElem_cons_zero] at g10 g11 g12
  have hd3 : Below W3.heap.size W3 W3.drew := (Below.refl _ W3).drew
  have u00 : W3.drew.cell? ⟨ab, aoff, none⟩ = _ := g00
  have u01 : W3.drew.cell? ⟨ab, aoff + 1, none⟩ = _ := g01
  have u02 : W3.drew.cell? ⟨ab, aoff + 2, none⟩ = _ := g02
  have v2 : W3.drew.cell? ⟨w.heap.size, 2, none⟩ = _ := c2
  have v3 : W3.drew.cell? ⟨w.heap.size + 1, 0, none⟩ = _ := d0
  have v4 : W3.drew.cell? ⟨w.heap.size + 1, 1, none⟩ = _ := d1
  have v5 : W3.drew.cell? ⟨w.heap.size + 1, 2, none⟩ = _ := d2
  have v6 : W3.drew.cell? ⟨w.heap.size + 1, 3, none⟩ = _ := d3
  have hc0 := HE0.out W3.drew (HB.out.drew)
  have HG1 := Lib.hid (And.intro g10 (And.intro g11 g12))
  clear g10 g11 g12
  rw [HM.out] at hc0
  have HMI := Lib.hid HM.out
  go_enter Tryz.func99, Tryz.ntmps99
  rw [HM.out] at hW2 ⊢
  go_wp2_with fail
  go_still_tail 5, (by kernel_rfl)
  go_wp2_with (go_at_call 99; refine hc0.mono ?_; clear hc0; rintro e w4 ⟨ga, rfl, hga, hbra, hb4'⟩; have hb4 : Below W3.heap.size W3 w4 := hd3.trans hb4'; obtain ⟨⟨x0, x1, x2⟩, x3, x4, x5, x6⟩ := HBL.out w4 hb4)
  have hb4d : Below W3.heap.size W3 w4.drew := hb4.drew
  have t00 : w4.drew.cell? ⟨ab, aoff + 3, none⟩ = _ := (hb4.cell (p := ⟨ab, aoff + 3, none⟩) (show ab < W3.heap.size by omega)).trans HG1.out.1
  have t01 : w4.drew.cell? ⟨ab, aoff + 3 + 1, none⟩ = _ := (hb4.cell (p := ⟨ab, aoff + 3 + 1, none⟩) (show ab < W3.heap.size by omega)).trans HG1.out.2.1
  have t02 : w4.drew.cell? ⟨ab, aoff + 3 + 2, none⟩ = _ := (hb4.cell (p := ⟨ab, aoff + 3 + 2, none⟩) (show ab < W3.heap.size by omega)).trans HG1.out.2.2
  have z2 : w4.drew.cell? ⟨w.heap.size, 2, none⟩ = _ := x2
  have z3 : w4.drew.cell? ⟨w.heap.size + 1, 0, none⟩ = _ := x3
  have z4 : w4.drew.cell? ⟨w.heap.size + 1, 1, none⟩ = _ := x4
  have z5 : w4.drew.cell? ⟨w.heap.size + 1, 2, none⟩ = _ := x5
  have z6 : w4.drew.cell? ⟨w.heap.size + 1, 3, none⟩ = _ := x6
  have hc1 := HE1.out w4.drew (HB.out.trans (hb4d.mono (by omega)))
  rw [HMI.out] at hc1
  go_still_tail 5, (by kernel_rfl)
  go_wp2_with (go_at_call 99; refine hc1.mono ?_; clear hc1; rintro e w5 ⟨gb, rfl, hgb, hbrb, hb5'⟩; have hb45 : Below w4.heap.size w4 w5 := ((Below.refl w4.heap.size w4).drew).trans hb5'; have hb5 : Below W3.heap.size W3 w5 := hb4.trans (hb45.mono hb4.size); obtain ⟨⟨y0, y1, y2⟩, y3, y4, y5, y6⟩ := HBL.out w5 hb5)
  have hbr0 : BRow w5 (w.heap.size + 1 + 1) m (fun _ => false) := BRow.later hk3 hb5
  have hbA : BRow w5 ga m q0 := hbra.later hb45
  have hbB : BRow w5 gb m q1 := hbrb
  have hgB : gb ≠ w.heap.size + 1 + 1 := by have := hb4.size; have h2 : w4.heap.size ≤ gb := hgb; omega
  have hgA : ga ≠ w.heap.size + 1 + 1 := by have h2 : W3.heap.size ≤ ga := hga; omega
  have hB5 : Below w.heap.size w w5 := HB.out.trans (hb5.mono (by omega))
  have hs5 : w.heap.size + 1 + 1 < w5.heap.size := by have := hb5.size; omega
  go_loopw [58] (fun i' wr => ∃ k : Nat, k ≤ m ∧ i' = .int .i64 (k : Nat) ∧ BRow wr (w.heap.size + 1 + 1) m (fun x => decide (x < k) && (fun x => q0 x && q1 x) x) ∧ w5.grownBy wr (some (w.heap.size + 1 + 1))) (fun i' _ => m - (intOf i').toNat)
  case atStart => exact ⟨0, Nat.zero_le _, rfl, hbr0.ext (fun x _ => by simp), World.grownBy.refl _ _⟩
  case round =>
    obtain ⟨k, hk, rfl, hbr, hg⟩ := hrel
    obtain ⟨⟨a0, a1, a2⟩, b0, b1, b2, b3⟩ := HGR.out w5 wr hb5 hg
    have h0I : (0 : Int) ≤ k := by omega
    by_cases hlt : k < m
    · have hlI : (k : Int) < m := by omega
      have hce := hbr.cell hlt
      have hfz := frozen_of_blk hbr k
      have hca := (hbA.grown hg (by simpa using hgA)).cell hlt
      have hcb := (hbB.grown hg (by simpa using hgB)).cell hlt
      have HST := Lib.hid (show ∀ v, v = (fun x => q0 x && q1 x) k → ∀ x, x < m → updB (fun x => decide (x < k) && (fun x => q0 x && q1 x) x) k v x = (decide (x < k + 1) && (fun x => q0 x && q1 x) x) from fun v hv x _ => by rw [hv]; exact updB_step (fun x => q0 x && q1 x) k x)
      rcases ht : q0 k
      · rw [ht] at hca
        have HT := Lib.hid ht
        clear ht
        go_wp2_with fail
        go_roundw
        case rel => exact ⟨k + 1, by omega, by go_num, (hbr.set k (false)).ext (HST.out _ (by simp [HT.out])), grown_trans hg (grown_set wr _ _ _)⟩
        case measure => simp [intOf]; omega
      · rw [ht] at hca
        have HT := Lib.hid ht
        clear ht
        go_wp2_with fail
        go_roundw
        case rel => exact ⟨k + 1, by omega, by go_num, (hbr.set k (q1 k)).ext (HST.out _ (by simp [HT.out])), grown_trans hg (grown_set wr _ _ _)⟩
        case measure => simp [intOf]; omega
    · have hke : k = m := by omega
      subst hke
      have hq := quantR_any 4 wr
      have HBR := Lib.hid (hbr.ext (q := fun x => q0 x && q1 x) (fun x hx => by simp [hx]))
      go_wp2_with (go_at_call 81; refine hq.mono ?_; rintro e w9 ⟨rfl, rfl⟩)
      go_ret
      exact ⟨w.heap.size + 1 + 1, rfl, by omega, HBR.out, hB5.grown hg (by omega) (fun k' e => by cases e; omega)⟩

set_option maxRecDepth 100000 in
set_option maxHeartbeats 8000000 in
theorem rSet_or (i : IN) (m : Nat) (hm : i.size = m) (h256 : m ≤ 256) (nn : Int) (A : Option Addr) (c : Nat) (T0 T1 : MT) (q0 q1 : Nat → Bool) (w : World) (hi : i.In w.heap.size w) (hr : RowAt w w.heap.size 3 A 2 (([T0, T1] : List MT).flatMap MT.cs))
    (hE0 : ∀ w', Below w.heap.size w w' → Calls Tryz.prog 99 #[T0.val, i.val] w' (RetB m q0 w'))
    (hE1 : ∀ w', Below w.heap.size w w' → Calls Tryz.prog 99 #[T1.val, i.val] w' (RetB m q1 w')) :
    Calls Tryz.prog 99 #[.agg #[.int .i64 5, .int .i64 nn, .slice A 2 c], i.val] w (RetB m (fun x => q0 x || q1 x) w) := by
  obtain ⟨W1, hW1, hB1, hs1, hk1⟩ := newBlk w _ rfl #[.int .i64 5, .int .i64 nn, .slice A 2 c] 54
  obtain ⟨W2, hW2, hB2, hs2, hk2⟩ := newBlk W1 _ hs1 #[.int .i64 i.size, .slice i.CA i.C.length i.cc, .slice i.RA i.R.length i.rc, .slice i.I.A i.I.l.length i.I.c] 35
  obtain ⟨W3, hW3, hB3, hs3, hk3⟩ := newBlk W2 _ hs2 (bcs (fun _ => false) m).toArray 4
  have hB : Below w.heap.size w W3 := (hB1.trans (hB2.mono (by omega))).trans (hB3.mono (by omega))
  have hk13 := (hB3.block w.heap.size (by omega)).trans ((hB2.block w.heap.size (by omega)).trans hk1)
  have hk23 := (hB3.block (w.heap.size + 1) (by omega)).trans hk2
  have hbxs : ∀ w' : World, w'.heap[w.heap.size]? = W3.heap[w.heap.size]? → w'.heap[w.heap.size + 1]? = W3.heap[w.heap.size + 1]? → (w'.cell? ⟨w.heap.size, 0, none⟩ = some (.int .i64 5) ∧ w'.cell? ⟨w.heap.size, 1, none⟩ = some (.int .i64 nn) ∧ w'.cell? ⟨w.heap.size, 2, none⟩ = some (.slice A 2 c)) ∧ w'.cell? ⟨w.heap.size + 1, 0, none⟩ = some (.int .i64 (m : Int)) ∧ w'.cell? ⟨w.heap.size + 1, 1, none⟩ = some (.slice i.CA i.C.length i.cc) ∧ w'.cell? ⟨w.heap.size + 1, 2, none⟩ = some (.slice i.RA i.R.length i.rc) ∧ w'.cell? ⟨w.heap.size + 1, 3, none⟩ = some (.slice i.I.A i.I.l.length i.I.c) := fun w' h1 h2 => by
    have e1 := h1.trans hk13
    have e2 := h2.trans hk23
    rw [← hm]
    exact ⟨⟨cell_of_blk e1 0, cell_of_blk e1 1, cell_of_blk e1 2⟩, cell_of_blk e2 0, cell_of_blk e2 1, cell_of_blk e2 2, cell_of_blk e2 3⟩
  have hmk := make_bools m h256 W2
  have hbelow : ∀ w' : World, Below W3.heap.size W3 w' → _ := fun w' hb => hbxs w' (hb.block _ (by omega)) (hb.block _ (by omega))
  have hgrown : ∀ w5 w' : World, Below W3.heap.size W3 w5 → w5.grownBy w' (some (w.heap.size + 1 + 1)) → _ := fun w5 w' hb hg => hbxs w' ((hg.block _ (by have := hb.size; omega) (by simp; omega)).trans (hb.block _ (by omega))) ((hg.block _ (by have := hb.size; omega) (by simp)).trans (hb.block _ (by omega)))
  have hb3 := hbxs W2 (hB3.block _ (by omega)).symm (hB3.block _ (by omega)).symm
  obtain ⟨⟨a0, a1, a2⟩, b0, b1, b2, b3⟩ := hb3
  obtain ⟨⟨c0, c1, c2⟩, d0, d1, d2, d3⟩ := hbxs W3 rfl rfl
  rw [hs2, hW3] at hmk
  have HB := Lib.hid hB
  have HBL := Lib.hid hbelow
  have HGR := Lib.hid hgrown
  have HI := Lib.hid hi
  have HM := Lib.hid hm
  have HE0 := Lib.hid hE0
  have HE1 := Lib.hid hE1
  simp only [MT.val, IN.val] at HE0 HE1
  simp only [IN.val]
  clear hB hm hbxs hbelow hgrown hi hk13 hk23 hk1 hk2 hE0 hE1
  obtain ⟨ab, aoff, rfl, hab, g00, g01, g02⟩ := elem3 (k := 0) hr HB.out (by simp)
  simp only [Nat.zero_mul, Nat.add_zero, List.getElem_cons_zero] at g00 g01 g02
  obtain ⟨ab', aoff', he, -, g10, g11, g12⟩ := elem3 (k := 1) hr HB.out (by simp)
  cases he
  simp only [Nat.one_mul, List.getElem_cons_succ, List.getElem_cons_zero] at g10 g11 g12
  have hd3 : Below W3.heap.size W3 W3.drew := (Below.refl _ W3).drew
  have u00 : W3.drew.cell? ⟨ab, aoff, none⟩ = _ := g00
  have u01 : W3.drew.cell? ⟨ab, aoff + 1, none⟩ = _ := g01
  have u02 : W3.drew.cell? ⟨ab, aoff + 2, none⟩ = _ := g02
  have v2 : W3.drew.cell? ⟨w.heap.size, 2, none⟩ = _ := c2
  have v3 : W3.drew.cell? ⟨w.heap.size + 1, 0, none⟩ = _ := d0
  have v4 : W3.drew.cell? ⟨w.heap.size + 1, 1, none⟩ = _ := d1
  have v5 : W3.drew.cell? ⟨w.heap.size + 1, 2, none⟩ = _ := d2
  have v6 : W3.drew.cell? ⟨w.heap.size + 1, 3, none⟩ = _ := d3
  have hc0 := HE0.out W3.drew (HB.out.drew)
  have HG1 := Lib.hid (And.intro g10 (And.intro g11 g12))
  clear g10 g11 g12
  rw [HM.out] at hc0
  have HMI := Lib.hid HM.out
  go_enter Tryz.func99, Tryz.ntmps99
  rw [HM.out] at hW2 ⊢
  go_wp2_with fail
  go_still_tail 5, (by kernel_rfl)
  go_wp2_with (go_at_call 99; refine hc0.mono ?_; clear hc0; rintro e w4 ⟨ga, rfl, hga, hbra, hb4'⟩; have hb4 : Below W3.heap.size W3 w4 := hd3.trans hb4'; obtain ⟨⟨x0, x1, x2⟩, x3, x4, x5, x6⟩ := HBL.out w4 hb4)
  have hb4d : Below W3.heap.size W3 w4.drew := hb4.drew
  have t00 : w4.drew.cell? ⟨ab, aoff + 3, none⟩ = _ := (hb4.cell (p := ⟨ab, aoff + 3, none⟩) (show ab < W3.heap.size by omega)).trans HG1.out.1
  have t01 : w4.drew.cell? ⟨ab, aoff + 3 + 1, none⟩ = _ := (hb4.cell (p := ⟨ab, aoff + 3 + 1, none⟩) (show ab < W3.heap.size by omega)).trans HG1.out.2.1
  have t02 : w4.drew.cell? ⟨ab, aoff + 3 + 2, none⟩ = _ := (hb4.cell (p := ⟨ab, aoff + 3 + 2, none⟩) (show ab < W3.heap.size by omega)).trans HG1.out.2.2
  have z2 : w4.drew.cell? ⟨w.heap.size, 2, none⟩ = _ := x2
  have z3 : w4.drew.cell? ⟨w.heap.size + 1, 0, none⟩ = _ := x3
  have z4 : w4.drew.cell? ⟨w.heap.size + 1, 1, none⟩ = _ := x4
  have z5 : w4.drew.cell? ⟨w.heap.size + 1, 2, none⟩ = _ := x5
  have z6 : w4.drew.cell? ⟨w.heap.size + 1, 3, none⟩ = _ := x6
  have hc1 := HE1.out w4.drew (HB.out.trans (hb4d.mono (by omega)))
  rw [HMI.out] at hc1
  go_still_tail 5, (by kernel_rfl)
  go_wp2_with (go_at_call 99; refine hc1.mono ?_; clear hc1; rintro e w5 ⟨gb, rfl, hgb, hbrb, hb5'⟩; have hb45 : Below w4.heap.size w4 w5 := ((Below.refl w4.heap.size w4).drew).trans hb5'; have hb5 : Below W3.heap.size W3 w5 := hb4.trans (hb45.mono hb4.size); obtain ⟨⟨y0, y1, y2⟩, y3, y4, y5, y6⟩ := HBL.out w5 hb5)
  have hbr0 : BRow w5 (w.heap.size + 1 + 1) m (fun _ => false) := BRow.later hk3 hb5
  have hbA : BRow w5 ga m q0 := hbra.later hb45
  have hbB : BRow w5 gb m q1 := hbrb
  have hgB : gb ≠ w.heap.size + 1 + 1 := by have := hb4.size; have h2 : w4.heap.size ≤ gb := hgb; omega
  have hgA : ga ≠ w.heap.size + 1 + 1 := by have h2 : W3.heap.size ≤ ga := hga; omega
  have hB5 : Below w.heap.size w w5 := HB.out.trans (hb5.mono (by omega))
  have hs5 : w.heap.size + 1 + 1 < w5.heap.size := by have := hb5.size; omega
  go_loopw [58] (fun i' wr => ∃ k : Nat, k ≤ m ∧ i' = .int .i64 (k : Nat) ∧ BRow wr (w.heap.size + 1 + 1) m (fun x => decide (x < k) && (fun x => q0 x || q1 x) x) ∧ w5.grownBy wr (some (w.heap.size + 1 + 1))) (fun i' _ => m - (intOf i').toNat)
  case atStart => exact ⟨0, Nat.zero_le _, rfl, hbr0.ext (fun x _ => by simp), World.grownBy.refl _ _⟩
  case round =>
    obtain ⟨k, hk, rfl, hbr, hg⟩ := hrel
    obtain ⟨⟨a0, a1, a2⟩, b0, b1, b2, b3⟩ := HGR.out w5 wr hb5 hg
    have h0I : (0 : Int) ≤ k := by omega
    by_cases hlt : k < m
    · have hlI : (k : Int) < m := by omega
      have hce := hbr.cell hlt
      have hfz := frozen_of_blk hbr k
      have hca := (hbA.grown hg (by simpa using hgA)).cell hlt
      have hcb := (hbB.grown hg (by simpa using hgB)).cell hlt
      have HST := Lib.hid (show ∀ v, v = (fun x => q0 x || q1 x) k → ∀ x, x < m → updB (fun x => decide (x < k) && (fun x => q0 x || q1 x) x) k v x = (decide (x < k + 1) && (fun x => q0 x || q1 x) x) from fun v hv x _ => by rw [hv]; exact updB_step (fun x => q0 x || q1 x) k x)
      rcases ht : q0 k
      · rw [ht] at hca
        have HT := Lib.hid ht
        clear ht
        go_wp2_with fail
        go_roundw
        case rel => exact ⟨k + 1, by omega, by go_num, (hbr.set k (q1 k)).ext (HST.out _ (by simp [HT.out])), grown_trans hg (grown_set wr _ _ _)⟩
        case measure => simp [intOf]; omega
      · rw [ht] at hca
        have HT := Lib.hid ht
        clear ht
        go_wp2_with fail
        go_roundw
        case rel => exact ⟨k + 1, by omega, by go_num, (hbr.set k (true)).ext (HST.out _ (by simp [HT.out])), grown_trans hg (grown_set wr _ _ _)⟩
        case measure => simp [intOf]; omega
    · have hke : k = m := by omega
      subst hke
      have hq := quantR_any 5 wr
      have HBR := Lib.hid (hbr.ext (q := fun x => q0 x || q1 x) (fun x hx => by simp [hx]))
      go_wp2_with (go_at_call 81; refine hq.mono ?_; rintro e w9 ⟨rfl, rfl⟩)
      go_ret
      exact ⟨w.heap.size + 1 + 1, rfl, by omega, HBR.out, hB5.grown hg (by omega) (fun k' e => by cases e; omega)⟩
end Go.Proofs.YtnkkpjgclekobaaGreatDoor

namespace Go.Proofs.YtnkkpjgclekobaaGreatDoor
open Go.RowKit

def someJ0 (l : List (Int × Int)) (q : Nat → Bool) (j x : Nat) : Bool := (l.take j).any fun z => (z.1 == (x : Int)) && q (z.2).toNat
def allJ0 (l : List (Int × Int)) (q : Nat → Bool) (j x : Nat) : Bool := !((l.take j).any fun z => (z.1 == (x : Int)) && !q (z.2).toNat)
theorem someJ0_next {l : List (Int × Int)} {q : Nat → Bool} {j ex ey : Nat} (hj : j < l.length) (h1 : (fun z : Int × Int => z.1) l[j] = (ex : Nat)) (h2 : (fun z : Int × Int => z.2) l[j] = (ey : Nat)) (x : Nat) : someJ0 l q (j + 1) x = (someJ0 l q j x || ((x == ex) && q ey)) := by
  have h1' : (fun z : Int × Int => z.1) l[j] = (ex : Nat) := h1
  unfold someJ0
  rw [List.take_succ_eq_append_getElem hj, List.any_append]
  congr 1
  simp only [List.any_cons, List.any_nil, Bool.or_false]
  dsimp only at h1 h2
  rw [h1, h2, Int.toNat_natCast]
  congr 1
  rw [Bool.eq_iff_iff]; simp; omega
theorem allJ0_next {l : List (Int × Int)} {q : Nat → Bool} {j ex ey : Nat} (hj : j < l.length) (h1 : (fun z : Int × Int => z.1) l[j] = (ex : Nat)) (h2 : (fun z : Int × Int => z.2) l[j] = (ey : Nat)) (x : Nat) : allJ0 l q (j + 1) x = (allJ0 l q j x && !((x == ex) && !q ey)) := by
  have : allJ0 l q (j + 1) x = !(someJ0 l (fun y => !q y) (j + 1) x) := rfl
  rw [this, someJ0_next hj h1 h2, Bool.not_or]
  rfl
theorem someJ0_all {m : Nat} {s : PL} (hok : okP m s = true) (h256 : m ≤ 256) (q : Nat → Bool) (x : Nat) : someJ0 s.l q s.l.length x = meetB (fun y : Nat => s.l.contains ((x : Int), (y : Int))) q := by
  obtain ⟨hf, -⟩ := okP_facts hok
  unfold someJ0 meetB
  rw [List.take_of_length_le (Nat.le_refl _), Bool.eq_iff_iff, List.any_eq_true, List.any_eq_true]
  constructor
  · rintro ⟨⟨a, b⟩, hz, h⟩
    have hh := hf _ hz
    simp only [Bool.and_eq_true, beq_iff_eq] at h
    dsimp only at hh h
    refine ⟨(b).toNat, List.mem_range.2 (by omega), ?_⟩
    rw [Bool.and_eq_true, List.contains_iff_mem]
    refine ⟨?_, h.2⟩
    rw [← h.1, show (((b).toNat : Nat) : Int) = b by omega]
    exact hz
  · rintro ⟨y, -, h⟩
    rw [Bool.and_eq_true, List.contains_iff_mem] at h
    exact ⟨_, h.1, by simp [h.2]⟩
theorem allJ0_all {m : Nat} {s : PL} (hok : okP m s = true) (h256 : m ≤ 256) (q : Nat → Bool) (x : Nat) : allJ0 s.l q s.l.length x = subB (fun y : Nat => s.l.contains ((x : Int), (y : Int))) q := by
  have : allJ0 s.l q s.l.length x = !(someJ0 s.l (fun y => !q y) s.l.length x) := rfl
  rw [this, someJ0_all hok h256]
  unfold meetB subB
  rw [Bool.eq_iff_iff, Bool.not_eq_true', List.any_eq_false, List.all_eq_true]
  constructor
  · intro h y hy
    have := h y hy
    cases h1 : s.l.contains ((x : Int), (y : Int)) <;> cases h2 : q y <;> simp_all
  · intro h y hy
    have := h y hy
    cases h1 : s.l.contains ((x : Int), (y : Int)) <;> cases h2 : q y <;> simp_all

def someJ1 (l : List (Int × Int)) (q : Nat → Bool) (j x : Nat) : Bool := (l.take j).any fun z => (z.2 == (x : Int)) && q (z.1).toNat
def allJ1 (l : List (Int × Int)) (q : Nat → Bool) (j x : Nat) : Bool := !((l.take j).any fun z => (z.2 == (x : Int)) && !q (z.1).toNat)
theorem someJ1_next {l : List (Int × Int)} {q : Nat → Bool} {j ex ey : Nat} (hj : j < l.length) (h1 : (fun z : Int × Int => z.2) l[j] = (ex : Nat)) (h2 : (fun z : Int × Int => z.1) l[j] = (ey : Nat)) (x : Nat) : someJ1 l q (j + 1) x = (someJ1 l q j x || ((x == ex) && q ey)) := by
  have h1' : (fun z : Int × Int => z.2) l[j] = (ex : Nat) := h1
  unfold someJ1
  rw [List.take_succ_eq_append_getElem hj, List.any_append]
  congr 1
  simp only [List.any_cons, List.any_nil, Bool.or_false]
  dsimp only at h1 h2
  rw [h1, h2, Int.toNat_natCast]
  congr 1
  rw [Bool.eq_iff_iff]; simp; omega
theorem allJ1_next {l : List (Int × Int)} {q : Nat → Bool} {j ex ey : Nat} (hj : j < l.length) (h1 : (fun z : Int × Int => z.2) l[j] = (ex : Nat)) (h2 : (fun z : Int × Int => z.1) l[j] = (ey : Nat)) (x : Nat) : allJ1 l q (j + 1) x = (allJ1 l q j x && !((x == ex) && !q ey)) := by
  have : allJ1 l q (j + 1) x = !(someJ1 l (fun y => !q y) (j + 1) x) := rfl
  rw [this, someJ1_next hj h1 h2, Bool.not_or]
  rfl
theorem someJ1_all {m : Nat} {s : PL} (hok : okP m s = true) (h256 : m ≤ 256) (q : Nat → Bool) (x : Nat) : someJ1 s.l q s.l.length x = meetB (fun y : Nat => s.l.contains ((y : Int), (x : Int))) q := by
  obtain ⟨hf, -⟩ := okP_facts hok
  unfold someJ1 meetB
  rw [List.take_of_length_le (Nat.le_refl _), Bool.eq_iff_iff, List.any_eq_true, List.any_eq_true]
  constructor
  · rintro ⟨⟨a, b⟩, hz, h⟩
    have hh := hf _ hz
    simp only [Bool.and_eq_true, beq_iff_eq] at h
    dsimp only at hh h
    refine ⟨(a).toNat, List.mem_range.2 (by omega), ?_⟩
    rw [Bool.and_eq_true, List.contains_iff_mem]
    refine ⟨?_, h.2⟩
    rw [← h.1, show (((a).toNat : Nat) : Int) = a by omega]
    exact hz
  · rintro ⟨y, -, h⟩
    rw [Bool.and_eq_true, List.contains_iff_mem] at h
    exact ⟨_, h.1, by simp [h.2]⟩
theorem allJ1_all {m : Nat} {s : PL} (hok : okP m s = true) (h256 : m ≤ 256) (q : Nat → Bool) (x : Nat) : allJ1 s.l q s.l.length x = subB (fun y : Nat => s.l.contains ((y : Int), (x : Int))) q := by
  have : allJ1 s.l q s.l.length x = !(someJ1 s.l (fun y => !q y) s.l.length x) := rfl
  rw [this, someJ1_all hok h256]
  unfold meetB subB
  rw [Bool.eq_iff_iff, Bool.not_eq_true', List.any_eq_false, List.all_eq_true]
  constructor
  · intro h y hy
    have := h y hy
    cases h1 : s.l.contains ((y : Int), (x : Int)) <;> cases h2 : q y <;> simp_all
  · intro h y hy
    have := h y hy
    cases h1 : s.l.contains ((y : Int), (x : Int)) <;> cases h2 : q y <;> simp_all

set_option maxRecDepth 100000 in
set_option maxHeartbeats 8000000 in
theorem rSet_some0 (i : IN) (m : Nat) (hm : i.size = m) (h256 : m ≤ 256) (nn : Int) (A : Option Addr) (c : Nat) (T0 : MT) (q0 : Nat → Bool) (r k : Nat) (hk : k < i.R.length) (hrk : r = 2 * k + 0) (hnn : nn = r) (hok : okP m i.R[k] = true) (w : World) (hi : i.In w.heap.size w) (hr : RowAt w w.heap.size 3 A 1 (([T0] : List MT).flatMap MT.cs))
    (hE0 : ∀ w', Below w.heap.size w w' → Calls Tryz.prog 99 #[T0.val, i.val] w' (RetB m q0 w')) :
    Calls Tryz.prog 99 #[.agg #[.int .i64 6, .int .i64 nn, .slice A 1 c], i.val] w (RetB m (fun x => meetB (fun y : Nat => (i.R[k].l).contains ((x : Int), (y : Int))) q0) w) := by
  obtain ⟨W1, hW1, hB1, hs1, hk1⟩ := newBlk w _ rfl #[.int .i64 6, .int .i64 nn, .slice A 1 c] 54
  obtain ⟨W2, hW2, hB2, hs2, hk2⟩ := newBlk W1 _ hs1 #[.int .i64 i.size, .slice i.CA i.C.length i.cc, .slice i.RA i.R.length i.rc, .slice i.I.A i.I.l.length i.I.c] 35
  obtain ⟨W3, hW3, hB3, hs3, hk3⟩ := newBlk W2 _ hs2 (bcs (fun _ => false) m).toArray 4
  have hB : Below w.heap.size w W3 := (hB1.trans (hB2.mono (by omega))).trans (hB3.mono (by omega))
  have hk13 := (hB3.block w.heap.size (by omega)).trans ((hB2.block w.heap.size (by omega)).trans hk1)
  have hk23 := (hB3.block (w.heap.size + 1) (by omega)).trans hk2
  have hbxs : ∀ w' : World, w'.heap[w.heap.size]? = W3.heap[w.heap.size]? → w'.heap[w.heap.size + 1]? = W3.heap[w.heap.size + 1]? → (w'.cell? ⟨w.heap.size, 0, none⟩ = some (.int .i64 6) ∧ w'.cell? ⟨w.heap.size, 1, none⟩ = some (.int .i64 nn) ∧ w'.cell? ⟨w.heap.size, 2, none⟩ = some (.slice A 1 c)) ∧ w'.cell? ⟨w.heap.size + 1, 0, none⟩ = some (.int .i64 (m : Int)) ∧ w'.cell? ⟨w.heap.size + 1, 1, none⟩ = some (.slice i.CA i.C.length i.cc) ∧ w'.cell? ⟨w.heap.size + 1, 2, none⟩ = some (.slice i.RA i.R.length i.rc) ∧ w'.cell? ⟨w.heap.size + 1, 3, none⟩ = some (.slice i.I.A i.I.l.length i.I.c) := fun w' h1 h2 => by
    have e1 := h1.trans hk13
    have e2 := h2.trans hk23
    rw [← hm]
    exact ⟨⟨cell_of_blk e1 0, cell_of_blk e1 1, cell_of_blk e1 2⟩, cell_of_blk e2 0, cell_of_blk e2 1, cell_of_blk e2 2, cell_of_blk e2 3⟩
  have hmk := make_bools m h256 W2
  have hbelow : ∀ w' : World, Below W3.heap.size W3 w' → _ := fun w' hb => hbxs w' (hb.block _ (by omega)) (hb.block _ (by omega))
  have hgrown : ∀ w5 w' : World, Below W3.heap.size W3 w5 → w5.grownBy w' (some (w.heap.size + 1 + 1)) → _ := fun w5 w' hb hg => hbxs w' ((hg.block _ (by have := hb.size; omega) (by simp; omega)).trans (hb.block _ (by omega))) ((hg.block _ (by have := hb.size; omega) (by simp)).trans (hb.block _ (by omega)))
  have hb3 := hbxs W2 (hB3.block _ (by omega)).symm (hB3.block _ (by omega)).symm
  obtain ⟨⟨a0, a1, a2⟩, b0, b1, b2, b3⟩ := hb3
  obtain ⟨⟨c0, c1, c2⟩, d0, d1, d2, d3⟩ := hbxs W3 rfl rfl
  rw [hs2, hW3] at hmk
  have HB := Lib.hid hB
  have HBX := Lib.hid hbxs
  have HBL := Lib.hid hbelow
  have HGR := Lib.hid hgrown
  have HI := Lib.hid hi
  have HM := Lib.hid hm
  have HE0 := Lib.hid hE0
  simp only [MT.val, IN.val] at HE0
  simp only [IN.val]
  clear hB hm hbxs hbelow hgrown hi hk13 hk23 hk1 hk2 hE0
  subst hnn
  have hi3 := HI.out
  obtain ⟨gR, offR, hRA, hgR, d1'⟩ := RowAt.vals hi3.r3 (by omega)
  have e1 := d1' k hk
  simp only [PL.val] at e1
  have hin : (i.R[k]).In w.heap.size w := hi3.r4 _ (List.getElem_mem hk)
  have HF := Lib.hid (okP_facts hok).1
  have hmod : (r : Int) % 2 = 0 := by omega
  have hmodN : r % 2 = 0 := by omega
  have hdiv : (r : Int) / 2 = (k : Int) := by omega
  clear hrk
  have h0K : (0 : Int) ≤ k := by omega
  have hlK : (k : Int) < i.R.length := by omega
  have hwr : wrap64 (k : Int) = (k : Int) := by
    have := HI.out.r1; have := HI.out.r2
    unfold wrap64; omega
  have hsl : (i.R[k]).l.length ≤ 9223372036854775807 := Nat.le_trans hin.1 hin.2.1
  rw [hRA] at d2 b2 HBL HGR HBX hW2 HE0 ⊢
  clear d1' hi3
  have HAL := Lib.hid (fun q => someJ0_all hok h256 q)
  clear hok
  generalize i.R[k] = s at e1 hin HF HAL hsl ⊢
  have HIN := Lib.hid hin
  have HER := Lib.hid e1
  clear hin e1
  obtain ⟨ab, aoff, rfl, hab, g00, g01, g02⟩ := elem3 (k := 0) hr HB.out (by simp)
  simp only [Nat.zero_mul, Nat.add_zero, List.getElem_cons_zero] at g00 g01 g02
  have hd3 : Below W3.heap.size W3 W3.drew := (Below.refl _ W3).drew
  have u00 : W3.drew.cell? ⟨ab, aoff, none⟩ = _ := g00
  have u01 : W3.drew.cell? ⟨ab, aoff + 1, none⟩ = _ := g01
  have u02 : W3.drew.cell? ⟨ab, aoff + 2, none⟩ = _ := g02
  have v2 : W3.drew.cell? ⟨w.heap.size, 2, none⟩ = _ := c2
  have v3 : W3.drew.cell? ⟨w.heap.size + 1, 0, none⟩ = _ := d0
  have v4 : W3.drew.cell? ⟨w.heap.size + 1, 1, none⟩ = _ := d1
  have v5 : W3.drew.cell? ⟨w.heap.size + 1, 2, none⟩ = _ := d2
  have v6 : W3.drew.cell? ⟨w.heap.size + 1, 3, none⟩ = _ := d3
  have hc0 := HE0.out W3.drew (HB.out.drew)
  rw [HM.out] at hc0
  have HMI := Lib.hid HM.out
  go_enter Tryz.func99, Tryz.ntmps99
  rw [HM.out] at hW2 ⊢
  go_wp2_with fail
  go_still_tail 5, (by kernel_rfl)
  go_wp2_with (go_at_call 99; refine hc0.mono ?_; clear hc0; rintro e w4 ⟨ga, rfl, hga, hbra, hb4'⟩; have hb4 : Below W3.heap.size W3 w4 := hd3.trans hb4'; obtain ⟨⟨x0, x1, x2⟩, x3, x4, x5, x6⟩ := HBL.out w4 hb4)
  have hbr0 : BRow w4 (w.heap.size + 1 + 1) m (fun _ => false) := BRow.later hk3 hb4
  have hgA : ga ≠ w.heap.size + 1 + 1 := by have h2 : W3.heap.size ≤ ga := hga; omega
  have hs4 : w.heap.size + 1 + 1 < w4.heap.size := by have := hb4.size; omega
  have hB4 : Below w.heap.size w w4 := HB.out.trans (hb4.mono (by omega))
  go_loopw [58] (fun i' wr => ∃ x : Nat, x ≤ m ∧ i' = .int .i64 (x : Nat) ∧ BRow wr (w.heap.size + 1 + 1) m (fun _ => false) ∧ w4.grownBy wr (some (w.heap.size + 1 + 1))) (fun i' _ => m - (intOf i').toNat)
  case atStart => exact ⟨0, Nat.zero_le _, rfl, hbr0, World.grownBy.refl _ _⟩
  case round =>
    obtain ⟨x, hx, rfl, hbr, hg⟩ := hrel
    obtain ⟨⟨a0, a1, a2⟩, b0, b1, b2, b3⟩ := HGR.out w4 wr hb4 hg
    have h0I : (0 : Int) ≤ x := by omega
    by_cases hlt : x < m
    · have hlI : (x : Int) < m := by omega
      have hce := hbr.cell hlt
      have hfz := frozen_of_blk hbr x
      go_wp2_with fail
      go_roundw
      case rel => exact ⟨x + 1, by omega, by go_num, hbr, hg⟩
      case measure => simp [intOf]; omega
    · have hke : x = m := by omega
      subst hke
      have hbrO : BRow wr (w.heap.size + 1 + 1) x (someJ0 s.l q0 0) := hbr.ext (fun y hy => by simp [someJ0])
      have hbrA : BRow wr ga x q0 := hbra.grown hg (by simpa using hgA)
      have hbO : Below (w.heap.size + 1 + 1) w4 wr := (Below.refl _ _).grown hg (by omega) (fun k' e => by cases e; omega)
      have hsO := hg.size
      have hbwO : Below w.heap.size w wr := hB4.trans (hbO.mono (by omega))
      have eRO : wr.cell? ⟨gR, offR + k, none⟩ = some (.slice s.A s.l.length s.c) := (hbwO.cell (p := ⟨gR, offR + k, none⟩) hgR).trans HER.out
      have hq := quantR_any 6 wr
      have HBRO := Lib.hid hbrO
      have HBRA := Lib.hid hbrA
      have HBO := Lib.hid hbO
      clear hbr hg hbrO hbrA hbO
      go_wp2_with (go_at_call 81; refine hq.mono ?_; rintro e w9 ⟨rfl, rfl⟩)
      clear a0 a1 a2 b0 b1 b2 b3 eRO
      go_loopw [121] (fun i' wr => ∃ j : Nat, j ≤ s.l.length ∧ i' = .int .i64 (j : Nat) ∧ BRow wr (w.heap.size + 1 + 1) x (someJ0 s.l q0 j) ∧ BRow wr ga x q0 ∧ Below (w.heap.size + 1 + 1) w4 wr) (fun i' _ => s.l.length - (intOf i').toNat)
      case atStart => exact ⟨0, Nat.zero_le _, rfl, HBRO.out, HBRA.out, HBO.out⟩
      case round =>
        obtain ⟨j, hj, rfl, hbr, hba, hbw⟩ := hrel
        obtain ⟨⟨a0, a1, a2⟩, b0, b1, b2, b3⟩ := HBX.out wr ((hbw.block _ (by omega)).trans (hb4.block _ (by omega))) ((hbw.block _ (by omega)).trans (hb4.block _ (by omega)))
        by_cases hltj : j < s.l.length
        · obtain ⟨g2, off2, hSA, hg2, d2'⟩ := PL.In.cells HIN.out (by omega)
          obtain ⟨y0, y1⟩ := d2' j hltj
          have hbw' : Below w.heap.size w wr := hB4.trans (hbw.mono (by omega))
          have x0' := (hbw'.cell (p := ⟨g2, off2 + j * 2, none⟩) hg2).trans y0
          have x1' := (hbw'.cell (p := ⟨g2, off2 + j * 2 + 1, none⟩) hg2).trans y1
          obtain ⟨za, zb, hz1, hz2, hza, hzb⟩ : ∃ za zb : Nat, s.l[j].1 = (za : Int) ∧ s.l[j].2 = (zb : Int) ∧ za < x ∧ zb < x := by
            have := HF.out _ (List.getElem_mem hltj)
            exact ⟨s.l[j].1.toNat, s.l[j].2.toNat, by omega, by omega, by omega, by omega⟩
          have HN := Lib.hid (fun y => someJ0_next (q := q0) hltj hz1 hz2 y)
          rw [hz1] at x0'
          rw [hz2] at x1'
          clear y0 y1 d2' hz1 hz2
          obtain ⟨W7, hW7, hB7, hs7, hk7⟩ := newBlk wr _ rfl #[.int .i64 (za : Nat), .int .i64 (zb : Nat)] 93
          have p0 := cell_of_blk hk7 0
          have p1 := cell_of_blk hk7 1
          simp only [List.getElem?_toArray, List.getElem?_cons_zero, List.getElem?_cons_succ] at p0 p1
          have hbr7 : BRow W7 (w.heap.size + 1 + 1) x (someJ0 s.l q0 j) := hbr.later hB7
          have hba7 : BRow W7 ga x q0 := hba.later hB7
          have hb7 : Below (w.heap.size + 1 + 1) w4 W7 := hbw.trans (hB7.mono (by have := hbr.lt; omega))
          obtain ⟨⟨t0, t1, t2⟩, t3, t4, t5, t6⟩ := HBX.out W7 ((hb7.block _ (by omega)).trans (hb4.block _ (by omega))) ((hb7.block _ (by omega)).trans (hb4.block _ (by omega)))
          have hca := hba7.cell hzb
          have hce := hbr7.cell hza
          have hfz := frozen_of_blk hbr7 za
          have h0J : (0 : Int) ≤ j := by omega
          have hlJ : (j : Int) < s.l.length := by omega
          have h0A : (0 : Int) ≤ za := by omega
          have h0B : (0 : Int) ≤ zb := by omega
          have hlA : (za : Int) < x := by omega
          have hlB : (zb : Int) < x := by omega
          have HR7 := Lib.hid hbr7
          have HA7 := Lib.hid hba7
          have HB7 := Lib.hid hb7
          rw [hSA]
          rcases hq0 : q0 zb
          · rw [hq0] at hca
            have HQ := Lib.hid hq0
            clear hq0
            go_wp2_with fail
            go_quiet (fail)
            go_wp2_with fail
            go_quiet (fail)
            go_wp2_with fail
            go_roundw
            case rel => exact ⟨j + 1, by omega, by go_num, HR7.out.ext (fun y _ => by rw [HN.out y, HQ.out]; simp), HA7.out, below_drewN HB7.out _⟩
            case measure => simp [intOf]; omega
          · rw [hq0] at hca
            have HQ := Lib.hid hq0
            clear hq0
            go_wp2_with fail
            go_quiet (fail)
            go_wp2_with fail
            go_quiet (fail)
            go_wp2_with fail
            go_roundw
            case rel => exact ⟨j + 1, by omega, by go_num, (BRow.set (w := (W7.drewN _)) HR7.out za true).ext (fun y _ => by rw [HN.out y, HQ.out]; unfold updB; by_cases e : y = za <;> simp [e]), BRow.grown (w := (W7.drewN _)) HA7.out (row := some (w.heap.size + 1 + 1)) (grown_set _ _ _ _) (by simpa using hgA), (below_drewN HB7.out _).grown (row := some (w.heap.size + 1 + 1)) (grown_set _ _ _ _) (by have := HB7.out.size; show _ ≤ W7.heap.size; omega) (fun k' e => by cases e; omega)⟩
            case measure => simp [intOf]; omega
        · have hje : j = s.l.length := by omega
          subst hje
          go_wp2_with fail
          go_ret
          exact ⟨w.heap.size + 1 + 1, rfl, by omega, hbr.ext (fun y _ => HAL.out q0 y), hB4.trans (hbw.mono (by omega))⟩


set_option maxRecDepth 100000 in
set_option maxHeartbeats 8000000 in
theorem rSet_some1 (i : IN) (m : Nat) (hm : i.size = m) (h256 : m ≤ 256) (nn : Int) (A : Option Addr) (c : Nat) (T0 : MT) (q0 : Nat → Bool) (r k : Nat) (hk : k < i.R.length) (hrk : r = 2 * k + 1) (hnn : nn = r) (hok : okP m i.R[k] = true) (w : World) (hi : i.In w.heap.size w) (hr : RowAt w w.heap.size 3 A 1 (([T0] : List MT).flatMap MT.cs))
    (hE0 : ∀ w', Below w.heap.size w w' → Calls Tryz.prog 99 #[T0.val, i.val] w' (RetB m q0 w')) :
    Calls Tryz.prog 99 #[.agg #[.int .i64 6, .int .i64 nn, .slice A 1 c], i.val] w (RetB m (fun x => meetB (fun y : Nat => (i.R[k].l).contains ((y : Int), (x : Int))) q0) w) := by
  obtain ⟨W1, hW1, hB1, hs1, hk1⟩ := newBlk w _ rfl #[.int .i64 6, .int .i64 nn, .slice A 1 c] 54
  obtain ⟨W2, hW2, hB2, hs2, hk2⟩ := newBlk W1 _ hs1 #[.int .i64 i.size, .slice i.CA i.C.length i.cc, .slice i.RA i.R.length i.rc, .slice i.I.A i.I.l.length i.I.c] 35
  obtain ⟨W3, hW3, hB3, hs3, hk3⟩ := newBlk W2 _ hs2 (bcs (fun _ => false) m).toArray 4
  have hB : Below w.heap.size w W3 := (hB1.trans (hB2.mono (by omega))).trans (hB3.mono (by omega))
  have hk13 := (hB3.block w.heap.size (by omega)).trans ((hB2.block w.heap.size (by omega)).trans hk1)
  have hk23 := (hB3.block (w.heap.size + 1) (by omega)).trans hk2
  have hbxs : ∀ w' : World, w'.heap[w.heap.size]? = W3.heap[w.heap.size]? → w'.heap[w.heap.size + 1]? = W3.heap[w.heap.size + 1]? → (w'.cell? ⟨w.heap.size, 0, none⟩ = some (.int .i64 6) ∧ w'.cell? ⟨w.heap.size, 1, none⟩ = some (.int .i64 nn) ∧ w'.cell? ⟨w.heap.size, 2, none⟩ = some (.slice A 1 c)) ∧ w'.cell? ⟨w.heap.size + 1, 0, none⟩ = some (.int .i64 (m : Int)) ∧ w'.cell? ⟨w.heap.size + 1, 1, none⟩ = some (.slice i.CA i.C.length i.cc) ∧ w'.cell? ⟨w.heap.size + 1, 2, none⟩ = some (.slice i.RA i.R.length i.rc) ∧ w'.cell? ⟨w.heap.size + 1, 3, none⟩ = some (.slice i.I.A i.I.l.length i.I.c) := fun w' h1 h2 => by
    have e1 := h1.trans hk13
    have e2 := h2.trans hk23
    rw [← hm]
    exact ⟨⟨cell_of_blk e1 0, cell_of_blk e1 1, cell_of_blk e1 2⟩, cell_of_blk e2 0, cell_of_blk e2 1, cell_of_blk e2 2, cell_of_blk e2 3⟩
  have hmk := make_bools m h256 W2
  have hbelow : ∀ w' : World, Below W3.heap.size W3 w' → _ := fun w' hb => hbxs w' (hb.block _ (by omega)) (hb.block _ (by omega))
  have hgrown : ∀ w5 w' : World, Below W3.heap.size W3 w5 → w5.grownBy w' (some (w.heap.size + 1 + 1)) → _ := fun w5 w' hb hg => hbxs w' ((hg.block _ (by have := hb.size; omega) (by simp; omega)).trans (hb.block _ (by omega))) ((hg.block _ (by have := hb.size; omega) (by simp)).trans (hb.block _ (by omega)))
  have hb3 := hbxs W2 (hB3.block _ (by omega)).symm (hB3.block _ (by omega)).symm
  obtain ⟨⟨a0, a1, a2⟩, b0, b1, b2, b3⟩ := hb3
  obtain ⟨⟨c0, c1, c2⟩, d0, d1, d2, d3⟩ := hbxs W3 rfl rfl
  rw [hs2, hW3] at hmk
  have HB := Lib.hid hB
  have HBX := Lib.hid hbxs
  have HBL := Lib.hid hbelow
  have HGR := Lib.hid hgrown
  have HI := Lib.hid hi
  have HM := Lib.hid hm
  have HE0 := Lib.hid hE0
  simp only [MT.val, IN.val] at HE0
  simp only [IN.val]
  clear hB hm hbxs hbelow hgrown hi hk13 hk23 hk1 hk2 hE0
  subst hnn
  have hi3 := HI.out
  obtain ⟨gR, offR, hRA, hgR, d1'⟩ := RowAt.vals hi3.r3 (by omega)
  have e1 := d1' k hk
  simp only [PL.val] at e1
  have hin : (i.R[k]).In w.heap.size w := hi3.r4 _ (List.getElem_mem hk)
  have HF := Lib.hid (okP_facts hok).1
  have hmod : (r : Int) % 2 = 1 := by omega
  have hmodN : r % 2 = 1 := by omega
  have hdiv : (r : Int) / 2 = (k : Int) := by omega
  clear hrk
  have h0K : (0 : Int) ≤ k := by omega
  have hlK : (k : Int) < i.R.length := by omega
  have hwr : wrap64 (k : Int) = (k : Int) := by
    have := HI.out.r1; have := HI.out.r2
    unfold wrap64; omega
  have hsl : (i.R[k]).l.length ≤ 9223372036854775807 := Nat.le_trans hin.1 hin.2.1
  rw [hRA] at d2 b2 HBL HGR HBX hW2 HE0 ⊢
  clear d1' hi3
  have HAL := Lib.hid (fun q => someJ1_all hok h256 q)
  clear hok
  generalize i.R[k] = s at e1 hin HF HAL hsl ⊢
  have HIN := Lib.hid hin
  have HER := Lib.hid e1
  clear hin e1
  obtain ⟨ab, aoff, rfl, hab, g00, g01, g02⟩ := elem3 (k := 0) hr HB.out (by simp)
  simp only [Nat.zero_mul, Nat.add_zero, List.getElem_cons_zero] at g00 g01 g02
  have hd3 : Below W3.heap.size W3 W3.drew := (Below.refl _ W3).drew
  have u00 : W3.drew.cell? ⟨ab, aoff, none⟩ = _ := g00
  have u01 : W3.drew.cell? ⟨ab, aoff + 1, none⟩ = _ := g01
  have u02 : W3.drew.cell? ⟨ab, aoff + 2, none⟩ = _ := g02
  have v2 : W3.drew.cell? ⟨w.heap.size, 2, none⟩ = _ := c2
  have v3 : W3.drew.cell? ⟨w.heap.size + 1, 0, none⟩ = _ := d0
  have v4 : W3.drew.cell? ⟨w.heap.size + 1, 1, none⟩ = _ := d1
  have v5 : W3.drew.cell? ⟨w.heap.size + 1, 2, none⟩ = _ := d2
  have v6 : W3.drew.cell? ⟨w.heap.size + 1, 3, none⟩ = _ := d3
  have hc0 := HE0.out W3.drew (HB.out.drew)
  rw [HM.out] at hc0
  have HMI := Lib.hid HM.out
  go_enter Tryz.func99, Tryz.ntmps99
  rw [HM.out] at hW2 ⊢
  go_wp2_with fail
  go_still_tail 5, (by kernel_rfl)
  go_wp2_with (go_at_call 99; refine hc0.mono ?_; clear hc0; rintro e w4 ⟨ga, rfl, hga, hbra, hb4'⟩; have hb4 : Below W3.heap.size W3 w4 := hd3.trans hb4'; obtain ⟨⟨x0, x1, x2⟩, x3, x4, x5, x6⟩ := HBL.out w4 hb4)
  have hbr0 : BRow w4 (w.heap.size + 1 + 1) m (fun _ => false) := BRow.later hk3 hb4
  have hgA : ga ≠ w.heap.size + 1 + 1 := by have h2 : W3.heap.size ≤ ga := hga; omega
  have hs4 : w.heap.size + 1 + 1 < w4.heap.size := by have := hb4.size; omega
  have hB4 : Below w.heap.size w w4 := HB.out.trans (hb4.mono (by omega))
  go_loopw [58] (fun i' wr => ∃ x : Nat, x ≤ m ∧ i' = .int .i64 (x : Nat) ∧ BRow wr (w.heap.size + 1 + 1) m (fun _ => false) ∧ w4.grownBy wr (some (w.heap.size + 1 + 1))) (fun i' _ => m - (intOf i').toNat)
  case atStart => exact ⟨0, Nat.zero_le _, rfl, hbr0, World.grownBy.refl _ _⟩
  case round =>
    obtain ⟨x, hx, rfl, hbr, hg⟩ := hrel
    obtain ⟨⟨a0, a1, a2⟩, b0, b1, b2, b3⟩ := HGR.out w4 wr hb4 hg
    have h0I : (0 : Int) ≤ x := by omega
    by_cases hlt : x < m
    · have hlI : (x : Int) < m := by omega
      have hce := hbr.cell hlt
      have hfz := frozen_of_blk hbr x
      go_wp2_with fail
      go_roundw
      case rel => exact ⟨x + 1, by omega, by go_num, hbr, hg⟩
      case measure => simp [intOf]; omega
    · have hke : x = m := by omega
      subst hke
      have hbrO : BRow wr (w.heap.size + 1 + 1) x (someJ1 s.l q0 0) := hbr.ext (fun y hy => by simp [someJ1])
      have hbrA : BRow wr ga x q0 := hbra.grown hg (by simpa using hgA)
      have hbO : Below (w.heap.size + 1 + 1) w4 wr := (Below.refl _ _).grown hg (by omega) (fun k' e => by cases e; omega)
      have hsO := hg.size
      have hbwO : Below w.heap.size w wr := hB4.trans (hbO.mono (by omega))
      have eRO : wr.cell? ⟨gR, offR + k, none⟩ = some (.slice s.A s.l.length s.c) := (hbwO.cell (p := ⟨gR, offR + k, none⟩) hgR).trans HER.out
      have hq := quantR_any 6 wr
      have HBRO := Lib.hid hbrO
      have HBRA := Lib.hid hbrA
      have HBO := Lib.hid hbO
      clear hbr hg hbrO hbrA hbO
      go_wp2_with (go_at_call 81; refine hq.mono ?_; rintro e w9 ⟨rfl, rfl⟩)
      clear a0 a1 a2 b0 b1 b2 b3 eRO
      go_loopw [121] (fun i' wr => ∃ j : Nat, j ≤ s.l.length ∧ i' = .int .i64 (j : Nat) ∧ BRow wr (w.heap.size + 1 + 1) x (someJ1 s.l q0 j) ∧ BRow wr ga x q0 ∧ Below (w.heap.size + 1 + 1) w4 wr) (fun i' _ => s.l.length - (intOf i').toNat)
      case atStart => exact ⟨0, Nat.zero_le _, rfl, HBRO.out, HBRA.out, HBO.out⟩
      case round =>
        obtain ⟨j, hj, rfl, hbr, hba, hbw⟩ := hrel
        obtain ⟨⟨a0, a1, a2⟩, b0, b1, b2, b3⟩ := HBX.out wr ((hbw.block _ (by omega)).trans (hb4.block _ (by omega))) ((hbw.block _ (by omega)).trans (hb4.block _ (by omega)))
        by_cases hltj : j < s.l.length
        · obtain ⟨g2, off2, hSA, hg2, d2'⟩ := PL.In.cells HIN.out (by omega)
          obtain ⟨y0, y1⟩ := d2' j hltj
          have hbw' : Below w.heap.size w wr := hB4.trans (hbw.mono (by omega))
          have x0' := (hbw'.cell (p := ⟨g2, off2 + j * 2, none⟩) hg2).trans y0
          have x1' := (hbw'.cell (p := ⟨g2, off2 + j * 2 + 1, none⟩) hg2).trans y1
          obtain ⟨za, zb, hz1, hz2, hza, hzb⟩ : ∃ za zb : Nat, s.l[j].1 = (za : Int) ∧ s.l[j].2 = (zb : Int) ∧ za < x ∧ zb < x := by
            have := HF.out _ (List.getElem_mem hltj)
            exact ⟨s.l[j].1.toNat, s.l[j].2.toNat, by omega, by omega, by omega, by omega⟩
          have HN := Lib.hid (fun y => someJ1_next (q := q0) hltj hz2 hz1 y)
          rw [hz1] at x0'
          rw [hz2] at x1'
          clear y0 y1 d2' hz1 hz2
          obtain ⟨W7, hW7, hB7, hs7, hk7⟩ := newBlk wr _ rfl #[.int .i64 (za : Nat), .int .i64 (zb : Nat)] 93
          have p0 := cell_of_blk hk7 0
          have p1 := cell_of_blk hk7 1
          simp only [List.getElem?_toArray, List.getElem?_cons_zero, List.getElem?_cons_succ] at p0 p1
          have hbr7 : BRow W7 (w.heap.size + 1 + 1) x (someJ1 s.l q0 j) := hbr.later hB7
          have hba7 : BRow W7 ga x q0 := hba.later hB7
          have hb7 : Below (w.heap.size + 1 + 1) w4 W7 := hbw.trans (hB7.mono (by have := hbr.lt; omega))
          obtain ⟨⟨t0, t1, t2⟩, t3, t4, t5, t6⟩ := HBX.out W7 ((hb7.block _ (by omega)).trans (hb4.block _ (by omega))) ((hb7.block _ (by omega)).trans (hb4.block _ (by omega)))
          have hca := hba7.cell hza
          have hce := hbr7.cell hzb
          have hfz := frozen_of_blk hbr7 zb
          have h0J : (0 : Int) ≤ j := by omega
          have hlJ : (j : Int) < s.l.length := by omega
          have h0A : (0 : Int) ≤ za := by omega
          have h0B : (0 : Int) ≤ zb := by omega
          have hlA : (za : Int) < x := by omega
          have hlB : (zb : Int) < x := by omega
          have HR7 := Lib.hid hbr7
          have HA7 := Lib.hid hba7
          have HB7 := Lib.hid hb7
          rw [hSA]
          rcases hq0 : q0 za
          · rw [hq0] at hca
            have HQ := Lib.hid hq0
            clear hq0
            go_wp2_with fail
            go_quiet (fail)
            go_wp2_with fail
            go_quiet (fail)
            go_wp2_with fail
            go_roundw
            case rel => exact ⟨j + 1, by omega, by go_num, HR7.out.ext (fun y _ => by rw [HN.out y, HQ.out]; simp), HA7.out, below_drewN HB7.out _⟩
            case measure => simp [intOf]; omega
          · rw [hq0] at hca
            have HQ := Lib.hid hq0
            clear hq0
            go_wp2_with fail
            go_quiet (fail)
            go_wp2_with fail
            go_quiet (fail)
            go_wp2_with fail
            go_roundw
            case rel => exact ⟨j + 1, by omega, by go_num, (BRow.set (w := (W7.drewN _)) HR7.out zb true).ext (fun y _ => by rw [HN.out y, HQ.out]; unfold updB; by_cases e : y = zb <;> simp [e]), BRow.grown (w := (W7.drewN _)) HA7.out (row := some (w.heap.size + 1 + 1)) (grown_set _ _ _ _) (by simpa using hgA), (below_drewN HB7.out _).grown (row := some (w.heap.size + 1 + 1)) (grown_set _ _ _ _) (by have := HB7.out.size; show _ ≤ W7.heap.size; omega) (fun k' e => by cases e; omega)⟩
            case measure => simp [intOf]; omega
        · have hje : j = s.l.length := by omega
          subst hje
          go_wp2_with fail
          go_ret
          exact ⟨w.heap.size + 1 + 1, rfl, by omega, hbr.ext (fun y _ => HAL.out q0 y), hB4.trans (hbw.mono (by omega))⟩


set_option maxRecDepth 100000 in
set_option maxHeartbeats 8000000 in
theorem rSet_all0 (i : IN) (m : Nat) (hm : i.size = m) (h256 : m ≤ 256) (nn : Int) (A : Option Addr) (c : Nat) (T0 : MT) (q0 : Nat → Bool) (r k : Nat) (hk : k < i.R.length) (hrk : r = 2 * k + 0) (hnn : nn = r) (hok : okP m i.R[k] = true) (w : World) (hi : i.In w.heap.size w) (hr : RowAt w w.heap.size 3 A 1 (([T0] : List MT).flatMap MT.cs))
    (hE0 : ∀ w', Below w.heap.size w w' → Calls Tryz.prog 99 #[T0.val, i.val] w' (RetB m q0 w')) :
    Calls Tryz.prog 99 #[.agg #[.int .i64 7, .int .i64 nn, .slice A 1 c], i.val] w (RetB m (fun x => subB (fun y : Nat => (i.R[k].l).contains ((x : Int), (y : Int))) q0) w) := by
  obtain ⟨W1, hW1, hB1, hs1, hk1⟩ := newBlk w _ rfl #[.int .i64 7, .int .i64 nn, .slice A 1 c] 54
  obtain ⟨W2, hW2, hB2, hs2, hk2⟩ := newBlk W1 _ hs1 #[.int .i64 i.size, .slice i.CA i.C.length i.cc, .slice i.RA i.R.length i.rc, .slice i.I.A i.I.l.length i.I.c] 35
  obtain ⟨W3, hW3, hB3, hs3, hk3⟩ := newBlk W2 _ hs2 (bcs (fun _ => false) m).toArray 4
  have hB : Below w.heap.size w W3 := (hB1.trans (hB2.mono (by omega))).trans (hB3.mono (by omega))
  have hk13 := (hB3.block w.heap.size (by omega)).trans ((hB2.block w.heap.size (by omega)).trans hk1)
  have hk23 := (hB3.block (w.heap.size + 1) (by omega)).trans hk2
  have hbxs : ∀ w' : World, w'.heap[w.heap.size]? = W3.heap[w.heap.size]? → w'.heap[w.heap.size + 1]? = W3.heap[w.heap.size + 1]? → (w'.cell? ⟨w.heap.size, 0, none⟩ = some (.int .i64 7) ∧ w'.cell? ⟨w.heap.size, 1, none⟩ = some (.int .i64 nn) ∧ w'.cell? ⟨w.heap.size, 2, none⟩ = some (.slice A 1 c)) ∧ w'.cell? ⟨w.heap.size + 1, 0, none⟩ = some (.int .i64 (m : Int)) ∧ w'.cell? ⟨w.heap.size + 1, 1, none⟩ = some (.slice i.CA i.C.length i.cc) ∧ w'.cell? ⟨w.heap.size + 1, 2, none⟩ = some (.slice i.RA i.R.length i.rc) ∧ w'.cell? ⟨w.heap.size + 1, 3, none⟩ = some (.slice i.I.A i.I.l.length i.I.c) := fun w' h1 h2 => by
    have e1 := h1.trans hk13
    have e2 := h2.trans hk23
    rw [← hm]
    exact ⟨⟨cell_of_blk e1 0, cell_of_blk e1 1, cell_of_blk e1 2⟩, cell_of_blk e2 0, cell_of_blk e2 1, cell_of_blk e2 2, cell_of_blk e2 3⟩
  have hmk := make_bools m h256 W2
  have hbelow : ∀ w' : World, Below W3.heap.size W3 w' → _ := fun w' hb => hbxs w' (hb.block _ (by omega)) (hb.block _ (by omega))
  have hgrown : ∀ w5 w' : World, Below W3.heap.size W3 w5 → w5.grownBy w' (some (w.heap.size + 1 + 1)) → _ := fun w5 w' hb hg => hbxs w' ((hg.block _ (by have := hb.size; omega) (by simp; omega)).trans (hb.block _ (by omega))) ((hg.block _ (by have := hb.size; omega) (by simp)).trans (hb.block _ (by omega)))
  have hb3 := hbxs W2 (hB3.block _ (by omega)).symm (hB3.block _ (by omega)).symm
  obtain ⟨⟨a0, a1, a2⟩, b0, b1, b2, b3⟩ := hb3
  obtain ⟨⟨c0, c1, c2⟩, d0, d1, d2, d3⟩ := hbxs W3 rfl rfl
  rw [hs2, hW3] at hmk
  have HB := Lib.hid hB
  have HBX := Lib.hid hbxs
  have HBL := Lib.hid hbelow
  have HGR := Lib.hid hgrown
  have HI := Lib.hid hi
  have HM := Lib.hid hm
  have HE0 := Lib.hid hE0
  simp only [MT.val, IN.val] at HE0
  simp only [IN.val]
  clear hB hm hbxs hbelow hgrown hi hk13 hk23 hk1 hk2 hE0
  subst hnn
  have hi3 := HI.out
  obtain ⟨gR, offR, hRA, hgR, d1'⟩ := RowAt.vals hi3.r3 (by omega)
  have e1 := d1' k hk
  simp only [PL.val] at e1
  have hin : (i.R[k]).In w.heap.size w := hi3.r4 _ (List.getElem_mem hk)
  have HF := Lib.hid (okP_facts hok).1
  have hmod : (r : Int) % 2 = 0 := by omega
  have hmodN : r % 2 = 0 := by omega
  have hdiv : (r : Int) / 2 = (k : Int) := by omega
  clear hrk
  have h0K : (0 : Int) ≤ k := by omega
  have hlK : (k : Int) < i.R.length := by omega
  have hwr : wrap64 (k : Int) = (k : Int) := by
    have := HI.out.r1; have := HI.out.r2
    unfold wrap64; omega
  have hsl : (i.R[k]).l.length ≤ 9223372036854775807 := Nat.le_trans hin.1 hin.2.1
  rw [hRA] at d2 b2 HBL HGR HBX hW2 HE0 ⊢
  clear d1' hi3
  have HAL := Lib.hid (fun q => allJ0_all hok h256 q)
  clear hok
  generalize i.R[k] = s at e1 hin HF HAL hsl ⊢
  have HIN := Lib.hid hin
  have HER := Lib.hid e1
  clear hin e1
  obtain ⟨ab, aoff, rfl, hab, g00, g01, g02⟩ := elem3 (k := 0) hr HB.out (by simp)
  simp only [Nat.zero_mul, Nat.add_zero, List.getElem_cons_zero] at g00 g01 g02
  have hd3 : Below W3.heap.size W3 W3.drew := (Below.refl _ W3).drew
  have u00 : W3.drew.cell? ⟨ab, aoff, none⟩ = _ := g00
  have u01 : W3.drew.cell? ⟨ab, aoff + 1, none⟩ = _ := g01
  have u02 : W3.drew.cell? ⟨ab, aoff + 2, none⟩ = _ := g02
  have v2 : W3.drew.cell? ⟨w.heap.size, 2, none⟩ = _ := c2
  have v3 : W3.drew.cell? ⟨w.heap.size + 1, 0, none⟩ = _ := d0
  have v4 : W3.drew.cell? ⟨w.heap.size + 1, 1, none⟩ = _ := d1
  have v5 : W3.drew.cell? ⟨w.heap.size + 1, 2, none⟩ = _ := d2
  have v6 : W3.drew.cell? ⟨w.heap.size + 1, 3, none⟩ = _ := d3
  have hc0 := HE0.out W3.drew (HB.out.drew)
  rw [HM.out] at hc0
  have HMI := Lib.hid HM.out
  go_enter Tryz.func99, Tryz.ntmps99
  rw [HM.out] at hW2 ⊢
  go_wp2_with fail
  go_still_tail 5, (by kernel_rfl)
  go_wp2_with (go_at_call 99; refine hc0.mono ?_; clear hc0; rintro e w4 ⟨ga, rfl, hga, hbra, hb4'⟩; have hb4 : Below W3.heap.size W3 w4 := hd3.trans hb4'; obtain ⟨⟨x0, x1, x2⟩, x3, x4, x5, x6⟩ := HBL.out w4 hb4)
  have hbr0 : BRow w4 (w.heap.size + 1 + 1) m (fun _ => false) := BRow.later hk3 hb4
  have hgA : ga ≠ w.heap.size + 1 + 1 := by have h2 : W3.heap.size ≤ ga := hga; omega
  have hs4 : w.heap.size + 1 + 1 < w4.heap.size := by have := hb4.size; omega
  have hB4 : Below w.heap.size w w4 := HB.out.trans (hb4.mono (by omega))
  go_loopw [58] (fun i' wr => ∃ x : Nat, x ≤ m ∧ i' = .int .i64 (x : Nat) ∧ BRow wr (w.heap.size + 1 + 1) m (fun y => decide (y < x)) ∧ w4.grownBy wr (some (w.heap.size + 1 + 1))) (fun i' _ => m - (intOf i').toNat)
  case atStart => exact ⟨0, Nat.zero_le _, rfl, hbr0.ext (fun x _ => by simp), World.grownBy.refl _ _⟩
  case round =>
    obtain ⟨x, hx, rfl, hbr, hg⟩ := hrel
    obtain ⟨⟨a0, a1, a2⟩, b0, b1, b2, b3⟩ := HGR.out w4 wr hb4 hg
    have h0I : (0 : Int) ≤ x := by omega
    by_cases hlt : x < m
    · have hlI : (x : Int) < m := by omega
      have hce := hbr.cell hlt
      have hfz := frozen_of_blk hbr x
      go_wp2_with fail
      go_roundw
      case rel => exact ⟨x + 1, by omega, by go_num, (hbr.set x true).ext (fun y hy => by unfold updB; by_cases e : y = x; (subst e; simp); (rw [if_neg e, decide_eq_decide]; omega)), grown_trans hg (grown_set wr _ _ _)⟩
      case measure => simp [intOf]; omega
    · have hke : x = m := by omega
      subst hke
      have hbrO : BRow wr (w.heap.size + 1 + 1) x (allJ0 s.l q0 0) := hbr.ext (fun y hy => by simp [allJ0, hy])
      have hbrA : BRow wr ga x q0 := hbra.grown hg (by simpa using hgA)
      have hbO : Below (w.heap.size + 1 + 1) w4 wr := (Below.refl _ _).grown hg (by omega) (fun k' e => by cases e; omega)
      have hsO := hg.size
      have hbwO : Below w.heap.size w wr := hB4.trans (hbO.mono (by omega))
      have eRO : wr.cell? ⟨gR, offR + k, none⟩ = some (.slice s.A s.l.length s.c) := (hbwO.cell (p := ⟨gR, offR + k, none⟩) hgR).trans HER.out
      have hq := quantR_any 7 wr
      have HBRO := Lib.hid hbrO
      have HBRA := Lib.hid hbrA
      have HBO := Lib.hid hbO
      clear hbr hg hbrO hbrA hbO
      go_wp2_with (go_at_call 81; refine hq.mono ?_; rintro e w9 ⟨rfl, rfl⟩)
      clear a0 a1 a2 b0 b1 b2 b3 eRO
      go_loopw [121] (fun i' wr => ∃ j : Nat, j ≤ s.l.length ∧ i' = .int .i64 (j : Nat) ∧ BRow wr (w.heap.size + 1 + 1) x (allJ0 s.l q0 j) ∧ BRow wr ga x q0 ∧ Below (w.heap.size + 1 + 1) w4 wr) (fun i' _ => s.l.length - (intOf i').toNat)
      case atStart => exact ⟨0, Nat.zero_le _, rfl, HBRO.out, HBRA.out, HBO.out⟩
      case round =>
        obtain ⟨j, hj, rfl, hbr, hba, hbw⟩ := hrel
        obtain ⟨⟨a0, a1, a2⟩, b0, b1, b2, b3⟩ := HBX.out wr ((hbw.block _ (by omega)).trans (hb4.block _ (by omega))) ((hbw.block _ (by omega)).trans (hb4.block _ (by omega)))
        by_cases hltj : j < s.l.length
        · obtain ⟨g2, off2, hSA, hg2, d2'⟩ := PL.In.cells HIN.out (by omega)
          obtain ⟨y0, y1⟩ := d2' j hltj
          have hbw' : Below w.heap.size w wr := hB4.trans (hbw.mono (by omega))
          have x0' := (hbw'.cell (p := ⟨g2, off2 + j * 2, none⟩) hg2).trans y0
          have x1' := (hbw'.cell (p := ⟨g2, off2 + j * 2 + 1, none⟩) hg2).trans y1
          obtain ⟨za, zb, hz1, hz2, hza, hzb⟩ : ∃ za zb : Nat, s.l[j].1 = (za : Int) ∧ s.l[j].2 = (zb : Int) ∧ za < x ∧ zb < x := by
            have := HF.out _ (List.getElem_mem hltj)
            exact ⟨s.l[j].1.toNat, s.l[j].2.toNat, by omega, by omega, by omega, by omega⟩
          have HN := Lib.hid (fun y => allJ0_next (q := q0) hltj hz1 hz2 y)
          rw [hz1] at x0'
          rw [hz2] at x1'
          clear y0 y1 d2' hz1 hz2
          obtain ⟨W7, hW7, hB7, hs7, hk7⟩ := newBlk wr _ rfl #[.int .i64 (za : Nat), .int .i64 (zb : Nat)] 93
          have p0 := cell_of_blk hk7 0
          have p1 := cell_of_blk hk7 1
          simp only [List.getElem?_toArray, List.getElem?_cons_zero, List.getElem?_cons_succ] at p0 p1
          have hbr7 : BRow W7 (w.heap.size + 1 + 1) x (allJ0 s.l q0 j) := hbr.later hB7
          have hba7 : BRow W7 ga x q0 := hba.later hB7
          have hb7 : Below (w.heap.size + 1 + 1) w4 W7 := hbw.trans (hB7.mono (by have := hbr.lt; omega))
          obtain ⟨⟨t0, t1, t2⟩, t3, t4, t5, t6⟩ := HBX.out W7 ((hb7.block _ (by omega)).trans (hb4.block _ (by omega))) ((hb7.block _ (by omega)).trans (hb4.block _ (by omega)))
          have hca := hba7.cell hzb
          have hce := hbr7.cell hza
          have hfz := frozen_of_blk hbr7 za
          have h0J : (0 : Int) ≤ j := by omega
          have hlJ : (j : Int) < s.l.length := by omega
          have h0A : (0 : Int) ≤ za := by omega
          have h0B : (0 : Int) ≤ zb := by omega
          have hlA : (za : Int) < x := by omega
          have hlB : (zb : Int) < x := by omega
          have HR7 := Lib.hid hbr7
          have HA7 := Lib.hid hba7
          have HB7 := Lib.hid hb7
          rw [hSA]
          rcases hq0 : q0 zb
          · rw [hq0] at hca
            have HQ := Lib.hid hq0
            clear hq0
            go_wp2_with fail
            go_quiet (fail)
            go_wp2_with fail
            go_quiet (fail)
            go_wp2_with fail
            go_roundw
            case rel => exact ⟨j + 1, by omega, by go_num, (BRow.set (w := (W7.drewN _)) HR7.out za false).ext (fun y _ => by rw [HN.out y, HQ.out]; unfold updB; by_cases e : y = za <;> simp [e]), BRow.grown (w := (W7.drewN _)) HA7.out (row := some (w.heap.size + 1 + 1)) (grown_set _ _ _ _) (by simpa using hgA), (below_drewN HB7.out _).grown (row := some (w.heap.size + 1 + 1)) (grown_set _ _ _ _) (by have := HB7.out.size; show _ ≤ W7.heap.size; omega) (fun k' e => by cases e; omega)⟩
            case measure => simp [intOf]; omega
          · rw [hq0] at hca
            have HQ := Lib.hid hq0
            clear hq0
            go_wp2_with fail
            go_quiet (fail)
            go_wp2_with fail
            go_quiet (fail)
            go_wp2_with fail
            go_roundw
            case rel => exact ⟨j + 1, by omega, by go_num, HR7.out.ext (fun y _ => by rw [HN.out y, HQ.out]; simp), HA7.out, below_drewN HB7.out _⟩
            case measure => simp [intOf]; omega
        · have hje : j = s.l.length := by omega
          subst hje
          go_wp2_with fail
          go_ret
          exact ⟨w.heap.size + 1 + 1, rfl, by omega, hbr.ext (fun y _ => HAL.out q0 y), hB4.trans (hbw.mono (by omega))⟩


set_option maxRecDepth 100000 in
set_option maxHeartbeats 8000000 in
theorem rSet_all1 (i : IN) (m : Nat) (hm : i.size = m) (h256 : m ≤ 256) (nn : Int) (A : Option Addr) (c : Nat) (T0 : MT) (q0 : Nat → Bool) (r k : Nat) (hk : k < i.R.length) (hrk : r = 2 * k + 1) (hnn : nn = r) (hok : okP m i.R[k] = true) (w : World) (hi : i.In w.heap.size w) (hr : RowAt w w.heap.size 3 A 1 (([T0] : List MT).flatMap MT.cs))
    (hE0 : ∀ w', Below w.heap.size w w' → Calls Tryz.prog 99 #[T0.val, i.val] w' (RetB m q0 w')) :
    Calls Tryz.prog 99 #[.agg #[.int .i64 7, .int .i64 nn, .slice A 1 c], i.val] w (RetB m (fun x => subB (fun y : Nat => (i.R[k].l).contains ((y : Int), (x : Int))) q0) w) := by
  obtain ⟨W1, hW1, hB1, hs1, hk1⟩ := newBlk w _ rfl #[.int .i64 7, .int .i64 nn, .slice A 1 c] 54
  obtain ⟨W2, hW2, hB2, hs2, hk2⟩ := newBlk W1 _ hs1 #[.int .i64 i.size, .slice i.CA i.C.length i.cc, .slice i.RA i.R.length i.rc, .slice i.I.A i.I.l.length i.I.c] 35
  obtain ⟨W3, hW3, hB3, hs3, hk3⟩ := newBlk W2 _ hs2 (bcs (fun _ => false) m).toArray 4
  have hB : Below w.heap.size w W3 := (hB1.trans (hB2.mono (by omega))).trans (hB3.mono (by omega))
  have hk13 := (hB3.block w.heap.size (by omega)).trans ((hB2.block w.heap.size (by omega)).trans hk1)
  have hk23 := (hB3.block (w.heap.size + 1) (by omega)).trans hk2
  have hbxs : ∀ w' : World, w'.heap[w.heap.size]? = W3.heap[w.heap.size]? → w'.heap[w.heap.size + 1]? = W3.heap[w.heap.size + 1]? → (w'.cell? ⟨w.heap.size, 0, none⟩ = some (.int .i64 7) ∧ w'.cell? ⟨w.heap.size, 1, none⟩ = some (.int .i64 nn) ∧ w'.cell? ⟨w.heap.size, 2, none⟩ = some (.slice A 1 c)) ∧ w'.cell? ⟨w.heap.size + 1, 0, none⟩ = some (.int .i64 (m : Int)) ∧ w'.cell? ⟨w.heap.size + 1, 1, none⟩ = some (.slice i.CA i.C.length i.cc) ∧ w'.cell? ⟨w.heap.size + 1, 2, none⟩ = some (.slice i.RA i.R.length i.rc) ∧ w'.cell? ⟨w.heap.size + 1, 3, none⟩ = some (.slice i.I.A i.I.l.length i.I.c) := fun w' h1 h2 => by
    have e1 := h1.trans hk13
    have e2 := h2.trans hk23
    rw [← hm]
    exact ⟨⟨cell_of_blk e1 0, cell_of_blk e1 1, cell_of_blk e1 2⟩, cell_of_blk e2 0, cell_of_blk e2 1, cell_of_blk e2 2, cell_of_blk e2 3⟩
  have hmk := make_bools m h256 W2
  have hbelow : ∀ w' : World, Below W3.heap.size W3 w' → _ := fun w' hb => hbxs w' (hb.block _ (by omega)) (hb.block _ (by omega))
  have hgrown : ∀ w5 w' : World, Below W3.heap.size W3 w5 → w5.grownBy w' (some (w.heap.size + 1 + 1)) → _ := fun w5 w' hb hg => hbxs w' ((hg.block _ (by have := hb.size; omega) (by simp; omega)).trans (hb.block _ (by omega))) ((hg.block _ (by have := hb.size; omega) (by simp)).trans (hb.block _ (by omega)))
  have hb3 := hbxs W2 (hB3.block _ (by omega)).symm (hB3.block _ (by omega)).symm
  obtain ⟨⟨a0, a1, a2⟩, b0, b1, b2, b3⟩ := hb3
  obtain ⟨⟨c0, c1, c2⟩, d0, d1, d2, d3⟩ := hbxs W3 rfl rfl
  rw [hs2, hW3] at hmk
  have HB := Lib.hid hB
  have HBX := Lib.hid hbxs
  have HBL := Lib.hid hbelow
  have HGR := Lib.hid hgrown
  have HI := Lib.hid hi
  have HM := Lib.hid hm
  have HE0 := Lib.hid hE0
  simp only [MT.val, IN.val] at HE0
  simp only [IN.val]
  clear hB hm hbxs hbelow hgrown hi hk13 hk23 hk1 hk2 hE0
  subst hnn
  have hi3 := HI.out
  obtain ⟨gR, offR, hRA, hgR, d1'⟩ := RowAt.vals hi3.r3 (by omega)
  have e1 := d1' k hk
  simp only [PL.val] at e1
  have hin : (i.R[k]).In w.heap.size w := hi3.r4 _ (List.getElem_mem hk)
  have HF := Lib.hid (okP_facts hok).1
  have hmod : (r : Int) % 2 = 1 := by omega
  have hmodN : r % 2 = 1 := by omega
  have hdiv : (r : Int) / 2 = (k : Int) := by omega
  clear hrk
  have h0K : (0 : Int) ≤ k := by omega
  have hlK : (k : Int) < i.R.length := by omega
  have hwr : wrap64 (k : Int) = (k : Int) := by
    have := HI.out.r1; have := HI.out.r2
    unfold wrap64; omega
  have hsl : (i.R[k]).l.length ≤ 9223372036854775807 := Nat.le_trans hin.1 hin.2.1
  rw [hRA] at d2 b2 HBL HGR HBX hW2 HE0 ⊢
  clear d1' hi3
  have HAL := Lib.hid (fun q => allJ1_all hok h256 q)
  clear hok
  generalize i.R[k] = s at e1 hin HF HAL hsl ⊢
  have HIN := Lib.hid hin
  have HER := Lib.hid e1
  clear hin e1
  obtain ⟨ab, aoff, rfl, hab, g00, g01, g02⟩ := elem3 (k := 0) hr HB.out (by simp)
  simp only [Nat.zero_mul, Nat.add_zero, List.getElem_cons_zero] at g00 g01 g02
  have hd3 : Below W3.heap.size W3 W3.drew := (Below.refl _ W3).drew
  have u00 : W3.drew.cell? ⟨ab, aoff, none⟩ = _ := g00
  have u01 : W3.drew.cell? ⟨ab, aoff + 1, none⟩ = _ := g01
  have u02 : W3.drew.cell? ⟨ab, aoff + 2, none⟩ = _ := g02
  have v2 : W3.drew.cell? ⟨w.heap.size, 2, none⟩ = _ := c2
  have v3 : W3.drew.cell? ⟨w.heap.size + 1, 0, none⟩ = _ := d0
  have v4 : W3.drew.cell? ⟨w.heap.size + 1, 1, none⟩ = _ := d1
  have v5 : W3.drew.cell? ⟨w.heap.size + 1, 2, none⟩ = _ := d2
  have v6 : W3.drew.cell? ⟨w.heap.size + 1, 3, none⟩ = _ := d3
  have hc0 := HE0.out W3.drew (HB.out.drew)
  rw [HM.out] at hc0
  have HMI := Lib.hid HM.out
  go_enter Tryz.func99, Tryz.ntmps99
  rw [HM.out] at hW2 ⊢
  go_wp2_with fail
  go_still_tail 5, (by kernel_rfl)
  go_wp2_with (go_at_call 99; refine hc0.mono ?_; clear hc0; rintro e w4 ⟨ga, rfl, hga, hbra, hb4'⟩; have hb4 : Below W3.heap.size W3 w4 := hd3.trans hb4'; obtain ⟨⟨x0, x1, x2⟩, x3, x4, x5, x6⟩ := HBL.out w4 hb4)
  have hbr0 : BRow w4 (w.heap.size + 1 + 1) m (fun _ => false) := BRow.later hk3 hb4
  have hgA : ga ≠ w.heap.size + 1 + 1 := by have h2 : W3.heap.size ≤ ga := hga; omega
  have hs4 : w.heap.size + 1 + 1 < w4.heap.size := by have := hb4.size; omega
  have hB4 : Below w.heap.size w w4 := HB.out.trans (hb4.mono (by omega))
  go_loopw [58] (fun i' wr => ∃ x : Nat, x ≤ m ∧ i' = .int .i64 (x : Nat) ∧ BRow wr (w.heap.size + 1 + 1) m (fun y => decide (y < x)) ∧ w4.grownBy wr (some (w.heap.size + 1 + 1))) (fun i' _ => m - (intOf i').toNat)
  case atStart => exact ⟨0, Nat.zero_le _, rfl, hbr0.ext (fun x _ => by simp), World.grownBy.refl _ _⟩
  case round =>
    obtain ⟨x, hx, rfl, hbr, hg⟩ := hrel
    obtain ⟨⟨a0, a1, a2⟩, b0, b1, b2, b3⟩ := HGR.out w4 wr hb4 hg
    have h0I : (0 : Int) ≤ x := by omega
    by_cases hlt : x < m
    · have hlI : (x : Int) < m := by omega
      have hce := hbr.cell hlt
      have hfz := frozen_of_blk hbr x
      go_wp2_with fail
      go_roundw
      case rel => exact ⟨x + 1, by omega, by go_num, (hbr.set x true).ext (fun y hy => by unfold updB; by_cases e : y = x; (subst e; simp); (rw [if_neg e, decide_eq_decide]; omega)), grown_trans hg (grown_set wr _ _ _)⟩
      case measure => simp [intOf]; omega
    · have hke : x = m := by omega
      subst hke
      have hbrO : BRow wr (w.heap.size + 1 + 1) x (allJ1 s.l q0 0) := hbr.ext (fun y hy => by simp [allJ1, hy])
      have hbrA : BRow wr ga x q0 := hbra.grown hg (by simpa using hgA)
      have hbO : Below (w.heap.size + 1 + 1) w4 wr := (Below.refl _ _).grown hg (by omega) (fun k' e => by cases e; omega)
      have hsO := hg.size
      have hbwO : Below w.heap.size w wr := hB4.trans (hbO.mono (by omega))
      have eRO : wr.cell? ⟨gR, offR + k, none⟩ = some (.slice s.A s.l.length s.c) := (hbwO.cell (p := ⟨gR, offR + k, none⟩) hgR).trans HER.out
      have hq := quantR_any 7 wr
      have HBRO := Lib.hid hbrO
      have HBRA := Lib.hid hbrA
      have HBO := Lib.hid hbO
      clear hbr hg hbrO hbrA hbO
      go_wp2_with (go_at_call 81; refine hq.mono ?_; rintro e w9 ⟨rfl, rfl⟩)
      clear a0 a1 a2 b0 b1 b2 b3 eRO
      go_loopw [121] (fun i' wr => ∃ j : Nat, j ≤ s.l.length ∧ i' = .int .i64 (j : Nat) ∧ BRow wr (w.heap.size + 1 + 1) x (allJ1 s.l q0 j) ∧ BRow wr ga x q0 ∧ Below (w.heap.size + 1 + 1) w4 wr) (fun i' _ => s.l.length - (intOf i').toNat)
      case atStart => exact ⟨0, Nat.zero_le _, rfl, HBRO.out, HBRA.out, HBO.out⟩
      case round =>
        obtain ⟨j, hj, rfl, hbr, hba, hbw⟩ := hrel
        obtain ⟨⟨a0, a1, a2⟩, b0, b1, b2, b3⟩ := HBX.out wr ((hbw.block _ (by omega)).trans (hb4.block _ (by omega))) ((hbw.block _ (by omega)).trans (hb4.block _ (by omega)))
        by_cases hltj : j < s.l.length
        · obtain ⟨g2, off2, hSA, hg2, d2'⟩ := PL.In.cells HIN.out (by omega)
          obtain ⟨y0, y1⟩ := d2' j hltj
          have hbw' : Below w.heap.size w wr := hB4.trans (hbw.mono (by omega))
          have x0' := (hbw'.cell (p := ⟨g2, off2 + j * 2, none⟩) hg2).trans y0
          have x1' := (hbw'.cell (p := ⟨g2, off2 + j * 2 + 1, none⟩) hg2).trans y1
          obtain ⟨za, zb, hz1, hz2, hza, hzb⟩ : ∃ za zb : Nat, s.l[j].1 = (za : Int) ∧ s.l[j].2 = (zb : Int) ∧ za < x ∧ zb < x := by
            have := HF.out _ (List.getElem_mem hltj)
            exact ⟨s.l[j].1.toNat, s.l[j].2.toNat, by omega, by omega, by omega, by omega⟩
          have HN := Lib.hid (fun y => allJ1_next (q := q0) hltj hz2 hz1 y)
          rw [hz1] at x0'
          rw [hz2] at x1'
          clear y0 y1 d2' hz1 hz2
          obtain ⟨W7, hW7, hB7, hs7, hk7⟩ := newBlk wr _ rfl #[.int .i64 (za : Nat), .int .i64 (zb : Nat)] 93
          have p0 := cell_of_blk hk7 0
          have p1 := cell_of_blk hk7 1
          simp only [List.getElem?_toArray, List.getElem?_cons_zero, List.getElem?_cons_succ] at p0 p1
          have hbr7 : BRow W7 (w.heap.size + 1 + 1) x (allJ1 s.l q0 j) := hbr.later hB7
          have hba7 : BRow W7 ga x q0 := hba.later hB7
          have hb7 : Below (w.heap.size + 1 + 1) w4 W7 := hbw.trans (hB7.mono (by have := hbr.lt; omega))
          obtain ⟨⟨t0, t1, t2⟩, t3, t4, t5, t6⟩ := HBX.out W7 ((hb7.block _ (by omega)).trans (hb4.block _ (by omega))) ((hb7.block _ (by omega)).trans (hb4.block _ (by omega)))
          have hca := hba7.cell hza
          have hce := hbr7.cell hzb
          have hfz := frozen_of_blk hbr7 zb
          have h0J : (0 : Int) ≤ j := by omega
          have hlJ : (j : Int) < s.l.length := by omega
          have h0A : (0 : Int) ≤ za := by omega
          have h0B : (0 : Int) ≤ zb := by omega
          have hlA : (za : Int) < x := by omega
          have hlB : (zb : Int) < x := by omega
          have HR7 := Lib.hid hbr7
          have HA7 := Lib.hid hba7
          have HB7 := Lib.hid hb7
          rw [hSA]
          rcases hq0 : q0 za
          · rw [hq0] at hca
            have HQ := Lib.hid hq0
            clear hq0
            go_wp2_with fail
            go_quiet (fail)
            go_wp2_with fail
            go_quiet (fail)
            go_wp2_with fail
            go_roundw
            case rel => exact ⟨j + 1, by omega, by go_num, (BRow.set (w := (W7.drewN _)) HR7.out zb false).ext (fun y _ => by rw [HN.out y, HQ.out]; unfold updB; by_cases e : y = zb <;> simp [e]), BRow.grown (w := (W7.drewN _)) HA7.out (row := some (w.heap.size + 1 + 1)) (grown_set _ _ _ _) (by simpa using hgA), (below_drewN HB7.out _).grown (row := some (w.heap.size + 1 + 1)) (grown_set _ _ _ _) (by have := HB7.out.size; show _ ≤ W7.heap.size; omega) (fun k' e => by cases e; omega)⟩
            case measure => simp [intOf]; omega
          · rw [hq0] at hca
            have HQ := Lib.hid hq0
            clear hq0
            go_wp2_with fail
            go_quiet (fail)
            go_wp2_with fail
            go_quiet (fail)
            go_wp2_with fail
            go_roundw
            case rel => exact ⟨j + 1, by omega, by go_num, HR7.out.ext (fun y _ => by rw [HN.out y, HQ.out]; simp), HA7.out, below_drewN HB7.out _⟩
            case measure => simp [intOf]; omega
        · have hje : j = s.l.length := by omega
          subst hje
          go_wp2_with fail
          go_ret
          exact ⟨w.heap.size + 1 + 1, rfl, by omega, hbr.ext (fun y _ => HAL.out q0 y), hB4.trans (hbw.mono (by omega))⟩
end Go.Proofs.YtnkkpjgclekobaaGreatDoor
