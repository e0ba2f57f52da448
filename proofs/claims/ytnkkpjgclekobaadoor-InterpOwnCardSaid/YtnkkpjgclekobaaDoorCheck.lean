import Derived.Test.YtnkkpjgclekobaaDoorNames2
import Derived.Deep.QuietTactic
import Derived.BigQuiet
namespace Go.Proofs.YtnkkpjgclekobaaDoor
open Go.RowKit Go.Shelf

def choicesF (nC nR : Nat) (op : Int) : Int := if op = 0 then nC else if op = 6 ∨ op = 7 then 2 * nR else 1

set_option maxRecDepth 100000 in
set_option maxHeartbeats 1000000 in
theorem choices_any (n : NM) (op : Int) (w : World) (_h1 : n.C.l.length ≤ 1000) (h2 : n.R.l.length ≤ 1000) :
    Calls Tryd.prog 118 #[n.val, .int .i64 op] w fun e w' => e = .returned (.int .i64 (choicesF n.C.l.length n.R.l.length op)) ∧ Below w.heap.size w w' := by
  simp only [NM.val]
  rcases k0 : (op == 0)
  · rcases k6 : (op == 6)
    · rcases k7 : (op == 7)
      · have hF : choicesF n.C.l.length n.R.l.length op = 1 := by
          simp only [beq_eq_false_iff_ne] at k0 k6 k7
          simp [choicesF, k0, k6, k7]
        rw [hF]
        go_enter Tryd.func118, Tryd.ntmps118
        go_wp2
        go_ret
        exact ⟨rfl, (Below.refl _ _).alloc (Nat.le_refl _) _⟩
      · have hF : choicesF n.C.l.length n.R.l.length op = 2 * n.R.l.length := by
          simp only [beq_eq_false_iff_ne, beq_iff_eq] at k0 k6 k7
          simp [choicesF, k7]
        rw [hF]
        go_enter Tryd.func118, Tryd.ntmps118
        go_wp2
        go_ret
        exact ⟨rfl, (Below.refl _ _).alloc (Nat.le_refl _) _⟩
    · have hF : choicesF n.C.l.length n.R.l.length op = 2 * n.R.l.length := by
        simp only [beq_eq_false_iff_ne, beq_iff_eq] at k0 k6
        simp [choicesF, k6]
      rw [hF]
      go_enter Tryd.func118, Tryd.ntmps118
      go_wp2
      go_ret
      exact ⟨rfl, (Below.refl _ _).alloc (Nat.le_refl _) _⟩
  · have hF : choicesF n.C.l.length n.R.l.length op = n.C.l.length := by
      simp only [beq_iff_eq] at k0
      simp [choicesF, k0]
    rw [hF]
    go_enter Tryd.func118, Tryd.ntmps118
    go_wp2
    go_ret
    exact ⟨rfl, (Below.refl _ _).alloc (Nat.le_refl _) _⟩

def arityF (op : Int) : Int := if op = 3 ∨ op = 6 ∨ op = 7 then 1 else if op = 4 ∨ op = 5 then 2 else 0
def dualF (op : Int) : Int := if op = 1 then 2 else if op = 2 then 1 else if op = 4 then 5 else if op = 5 then 4 else if op = 6 then 7 else if op = 7 then 6 else 0
def wordF (op : Int) : List UInt8 := if op = 1 then [116, 111, 112] else if op = 2 then [98, 111, 116] else if op = 3 then [110, 111, 116] else if op = 4 then [97, 110, 100] else if op = 5 then [111, 114] else if op = 6 then [115, 111, 109, 101] else if op = 7 then [97, 108, 108] else []

/-- THE TABLE arity LIES AS THE TEXT LAYS IT. -/
structure GA (w : World) : Prop where
  size : 1 < w.heap.size
  ar : ∀ op, 0 ≤ op → op < 8 → w.cell? ⟨1, op.toNat, none⟩ = some (.int .i64 (arityF op))
theorem GA.later {w w' : World} (h : GA w) (hb : Below w.heap.size w w') : GA w' :=
  ⟨Nat.lt_of_lt_of_le h.size hb.size, fun op h0 h8 => (hb.cell (p := ⟨1, op.toNat, none⟩) h.size).trans (h.ar op h0 h8)⟩
/-- THE THREE TABLES OF PACKAGE concept LIE AS THE TEXT LAYS THEM. -/
structure G (w : World) : Prop where
  size : 3 ≤ w.heap.size
  ar : ∀ op, 0 ≤ op → op < 8 → w.cell? ⟨1, op.toNat, none⟩ = some (.int .i64 (arityF op))
  du : ∀ op, 0 ≤ op → op < 8 → w.cell? ⟨0, op.toNat, none⟩ = some (.int .i64 (dualF op))
  wd : ∀ op, 0 ≤ op → op < 8 → w.cell? ⟨2, op.toNat, none⟩ = some (.string ⟨(wordF op).toArray⟩)
theorem G.later {w w' : World} (h : G w) (hb : Below w.heap.size w w') : G w' := by
  have hs := h.size
  exact ⟨Nat.le_trans hs hb.size, fun op h0 h8 => (hb.cell (p := ⟨1, op.toNat, none⟩) (Nat.lt_of_lt_of_le (show 1 < 3 by decide) hs)).trans (h.ar op h0 h8), fun op h0 h8 => (hb.cell (p := ⟨0, op.toNat, none⟩) (Nat.lt_of_lt_of_le (show 0 < 3 by decide) hs)).trans (h.du op h0 h8), fun op h0 h8 => (hb.cell (p := ⟨2, op.toNat, none⟩) (Nat.lt_of_lt_of_le (show 2 < 3 by decide) hs)).trans (h.wd op h0 h8)⟩

theorem G.ga {w : World} (h : G w) : GA w := ⟨Nat.lt_of_lt_of_le (show 1 < 3 by decide) h.size, h.ar⟩
def wfB (nC nR : Nat) (op n : Int) (len : Nat) : Bool :=
  decide (0 ≤ op) && (decide (op < 8) && (((len : Int) == arityF op) && (decide (0 ≤ n) && decide (n < choicesF nC nR op))))

set_option maxRecDepth 100000 in
set_option maxHeartbeats 2000000 in
theorem wellFormed_any (n : NM) (T : MT) (w : World) (hG : GA w) (h1 : n.C.l.length ≤ 1000) (h2 : n.R.l.length ≤ 1000) :
    Calls Tryd.prog 72 #[n.val, T.val] w fun e w' => e = .returned (.bool (wfB n.C.l.length n.R.l.length T.op T.n T.args.length)) ∧ Below w.heap.size w w' := by
  obtain ⟨W1, hW1, hB1, hs1, hblk1⟩ := newBlk w _ rfl #[.slice n.C.A n.C.l.length n.C.c, .slice n.R.A n.R.l.length n.R.c, .slice n.I.A n.I.l.length n.I.c] 24
  obtain ⟨W2, hW2, hB2, hs2, hblk2⟩ := newBlk W1 _ hs1 #[.int .i64 T.op, .int .i64 T.n, .slice T.A T.args.length T.c] 27
  have hB : Below w.heap.size w W2 := hB1.trans (hB2.mono (by omega))
  have hG2 := hG.later hB
  have hblk12 := (hB2.block w.heap.size (by omega)).trans hblk1
  have a0 := cell_of_blk hblk12 0
  have a1 := cell_of_blk hblk12 1
  have a2 := cell_of_blk hblk12 2
  have b0 := cell_of_blk hblk2 0
  have b1 := cell_of_blk hblk2 1
  have b2 := cell_of_blk hblk2 2
  simp only [List.getElem?_toArray, List.getElem?_cons_zero, List.getElem?_cons_succ] at a0 a1 a2 b0 b1 b2
  clear hblk12 hblk1 hblk2 hB1 hB2
  have HF := Lib.hid (show wfB n.C.l.length n.R.l.length T.op T.n T.args.length = _ from rfl)
  simp only [NM.val, MT.val]
  have HB := Lib.hid hB
  clear hB
  by_cases k1 : T.op < 0
  · go_enter Tryd.func72, Tryd.ntmps72
    go_wp2_with fail
    go_quiet (fail)
    go_wp2
    go_ret
    exact ⟨ret_bool (by rw [wfB, decide_eq_false (by omega), Bool.false_and]), below_drewN HB.out _⟩
  · by_cases k2 : 8 ≤ T.op
    · have hd1 : decide (T.op < 0) = false := decide_eq_false k1
      go_enter Tryd.func72, Tryd.ntmps72
      go_wp2_with fail
      go_quiet (fail)
      go_wp2
      go_ret
      exact ⟨ret_bool (by rw [wfB, decide_eq_false (show ¬ T.op < 8 by omega), Bool.false_and, Bool.and_false]), below_drewN HB.out _⟩
    · have hd1 : decide (T.op < 0) = false := decide_eq_false k1
      have hd2 : decide (8 ≤ T.op) = false := decide_eq_false k2
      have h0 : 0 ≤ T.op := by omega
      have h8 : T.op < 8 := by omega
      have hga := hG2.ar T.op h0 h8
      rcases ka : ((T.args.length : Int) == arityF T.op)
      · have kb : ((T.args.length : Int) != arityF T.op) = true := by rw [bne, ka]; rfl
        have KA := Lib.hid ka
        go_enter Tryd.func72, Tryd.ntmps72
        go_wp2_with fail
        go_quiet (fail)
        go_wp2
        go_ret
        exact ⟨ret_bool (by rw [wfB, KA.out, Bool.false_and, Bool.and_false, Bool.and_false]), below_drewN HB.out _⟩
      · have kb : ((T.args.length : Int) != arityF T.op) = false := by rw [bne, ka]; rfl
        have KA := Lib.hid ka
        by_cases k3 : 0 ≤ T.n
        · have hd3 : decide (0 ≤ T.n) = true := decide_eq_true k3
          go_enter Tryd.func72, Tryd.ntmps72
          go_wp2_with fail
          go_quiet (fail)
          go_wp2_with fail
          go_region_with (go_at_call 118; refine (choices_any n T.op _ h1 h2).mono ?_; rintro e w' ⟨rfl, hb⟩; have b3 : w'.cell? ⟨w.heap.size + 1, 1, none⟩ = some (.int .i64 T.n) := (hb.cell (p := ⟨w.heap.size + 1, 1, none⟩) (by show w.heap.size + 1 < W2.heap.size; omega)).trans b1)
          all_goals
            go_wp2
            go_ret
            exact ⟨ret_bool (by rw [wfB, decide_eq_true h0, decide_eq_true h8, KA.out, hd3]; simp), (below_drewN HB.out _).drew.trans (hb.mono (show w.heap.size ≤ W2.heap.size by omega))⟩
        · have hd3 : decide (0 ≤ T.n) = false := decide_eq_false k3
          go_enter Tryd.func72, Tryd.ntmps72
          go_wp2_with fail
          go_quiet (fail)
          go_wp2_with fail
          go_quiet (fail)
          go_wp2
          go_ret
          exact ⟨ret_bool (by rw [wfB, hd3, Bool.false_and, Bool.and_false, Bool.and_false, Bool.and_false]), below_drewN (below_drewN HB.out _) _⟩
end Go.Proofs.YtnkkpjgclekobaaDoor
