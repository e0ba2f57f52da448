import Derived.Test.YtndkcimajeofcaaGreatDoorG3b2f17e259
import Derived.Test.YtndkcimajeofcaaGreatDoorG15dedf7e27
namespace Go.Proofs.YtndkcimajeofcaaGreatDoor
open Go.RowKit

/-- The numbers of p from e on, below 256, in order. -/
def els (p : Nat → Bool) : Nat → Nat → List Nat
  | 0, _ => []
  | f + 1, e => if p e then e :: els p f (e + 1) else els p f (e + 1)
def elsF (p : Nat → Bool) (e : Nat) : List Nat := els p (256 - e) e
theorem elsF_end (p : Nat → Bool) : elsF p 256 = [] := rfl
theorem elsF_in {p : Nat → Bool} {e : Nat} (h : e < 256) (hp : p e = true) : elsF p e = e :: elsF p (e + 1) := by
  rw [elsF, show 256 - e = (256 - (e + 1)) + 1 by omega, els, if_pos hp, elsF]
theorem elsF_out {p : Nat → Bool} {e : Nat} (h : e < 256) (hp : p e = false) : elsF p e = elsF p (e + 1) := by
  rw [elsF, show 256 - e = (256 - (e + 1)) + 1 by omega, els, hp, if_neg (by decide), elsF]
theorem elsF_skip {p : Nat → Bool} : ∀ (d e : Nat), e + d ≤ 256 → (∀ i, e ≤ i → i < e + d → p i = false) → elsF p e = elsF p (e + d)
  | 0, _, _, _ => rfl
  | d + 1, e, h, hp => by
    rw [elsF_out (by omega) (hp e (Nat.le_refl _) (by omega)), elsF_skip d (e + 1) (by omega) (fun i h1 h2 => hp i (by omega) (by omega)), show e + 1 + d = e + (d + 1) by omega]

/-- The words of a set, as a block holds them. -/
def wdp (p : Nat → Bool) (k : Nat) : Nat := bw (fun j => p (64 * k + j)) 64
def cutW (p : Nat → Bool) (k c : Nat) : Nat := bw (fun j => p (64 * k + j) && decide (c ≤ j)) 64
theorem cutW_zero (p : Nat → Bool) (k : Nat) : cutW p k 0 = wdp p k := bw_ext fun i _ => by simp
/-- One step of the inner loop: the least number that is left. -/
theorem cutW_step {p : Nat → Bool} {k c x : Nat} (hx : cutW p k c = x) (h0 : x ≠ 0) (hk : k < 4) (hc : c ≤ 64) : ∃ j y, j < 64 ∧ p (64 * k + j) = true ∧ (p (64 * k + j) && decide (c ≤ j)) = true ∧ (∀ i, i < j → (p (64 * k + i) && decide (c ≤ i)) = false) ∧ elsF p (64 * k + c) = (64 * k + j) :: elsF p (64 * k + (j + 1)) ∧
    x &&& (x - 1) = y ∧ y < x ∧ cutW p k (j + 1) = y := by
  subst hx
  obtain ⟨j, hj, h1, h2⟩ := bw_least h0
  have h1' := h1
  simp only [Bool.and_eq_true, decide_eq_true_eq] at h1
  have hd := bw_drop hj h1' h2
  have he : bw (fun i => (p (64 * k + i) && decide (c ≤ i)) && i != j) 64 = cutW p k (j + 1) := bw_ext fun i hi => by
    by_cases hij : i < j
    · have := h2 i hij
      rw [this, Bool.false_and]
      have : decide (j + 1 ≤ i) = false := by simp; omega
      rw [this, Bool.and_false]
    · by_cases e : i = j
      · subst e
        simp
      · have a1 : decide (c ≤ i) = true := by simp; omega
        have a2 : decide (j + 1 ≤ i) = true := by simp; omega
        have a3 : (i != j) = true := by simpa using e
        rw [a1, a2, a3, Bool.and_true]
  refine ⟨j, _, hj, h1.1, h1', h2, ?_, rfl, ?_, ?_⟩
  · rw [elsF_skip (j - c) (64 * k + c) (by omega) (fun i a b => by
      have := h2 (i - 64 * k) (by omega)
      rw [show 64 * k + (i - 64 * k) = i by omega] at this
      have hc : decide (c ≤ i - 64 * k) = true := by simp; omega
      rw [hc, Bool.and_true] at this
      exact this), show 64 * k + c + (j - c) = 64 * k + j by omega, elsF_in (by omega) h1.1, Nat.add_assoc]
  · have := Nat.and_le_right (n := cutW p k c) (m := cutW p k c - 1)
    have : 0 < cutW p k c := Nat.pos_of_ne_zero h0
    omega
  · rw [← he, ← hd]; rfl
theorem cutW_end {p : Nat → Bool} {k c : Nat} (h0 : cutW p k c = 0) (hk : k < 4) (hc : c ≤ 64) : elsF p (64 * k + c) = elsF p (64 * (k + 1)) := by
  have hz := bw_zero.1 h0
  rw [elsF_skip (64 - c) (64 * k + c) (by omega) (fun i a b => by
    have := hz (i - 64 * k) (by omega)
    rw [show 64 * k + (i - 64 * k) = i by omega] at this
    have hc : decide (c ≤ i - 64 * k) = true := by simp; omega
    rw [hc, Bool.and_true] at this
    exact this), show 64 * k + c + (64 - c) = 64 * (k + 1) by omega]
theorem cutW_lt (p : Nat → Bool) (k c : Nat) : cutW p k c < 18446744073709551616 := bw_lt64 _

set_option maxRecDepth 100000 in
theorem idxSet (a b c d : Nat) (w : World) : (Instr.index 145 (.agg #[.int .u64 (a : Nat), .int .u64 (b : Nat), .int .u64 (c : Nat), .int .u64 (d : Nat)]) (.int .i64 0)).run Tryz.prog w = .ok (.int .u64 (a : Nat)) w ∧
    (Instr.index 145 (.agg #[.int .u64 (a : Nat), .int .u64 (b : Nat), .int .u64 (c : Nat), .int .u64 (d : Nat)]) (.int .i64 1)).run Tryz.prog w = .ok (.int .u64 (b : Nat)) w ∧
    (Instr.index 145 (.agg #[.int .u64 (a : Nat), .int .u64 (b : Nat), .int .u64 (c : Nat), .int .u64 (d : Nat)]) (.int .i64 2)).run Tryz.prog w = .ok (.int .u64 (c : Nat)) w ∧
    (Instr.index 145 (.agg #[.int .u64 (a : Nat), .int .u64 (b : Nat), .int .u64 (c : Nat), .int .u64 (d : Nat)]) (.int .i64 3)).run Tryz.prog w = .ok (.int .u64 (d : Nat)) w := by
  have u3 := Tryz.underlying124
  have a3 := Tryz.isAgg124
  have z3 := Tryz.sizeOf124
  refine ⟨?_, ?_, ?_, ?_⟩ <;>
  · rw [Instr.index]
    simp only [Sem.run_bind, run_underlying Tryz.underlying145, Result.andThen_ok, asIntOf, Sem.run_pure]
    go_simp

end Go.Proofs.YtndkcimajeofcaaGreatDoor

namespace Go.Proofs.YtndkcimajeofcaaGreatDoor
open Go.RowKit

theorem blk_lat {b : Nat} {w w' : World} {o : Obj} (h : w.heap[b]? = some o) (hb : Below w.heap.size w w') : w'.heap[b]? = some o := (hb.block b (Array.getElem?_eq_some_iff.1 h).1).trans h
/-- THE SET p AS IT LIES: four words. -/
structure SW (p : Nat → Bool) (a b c d : Nat) : Prop where
  a : wdp p 0 = a
  b : wdp p 1 = b
  c : wdp p 2 = c
  d : wdp p 3 = d
theorem sv_wd (p : Nat → Bool) : sv p = wv (wdp p 0) (wdp p 1) (wdp p 2) (wdp p 3) := by
  have h : wdp p 0 = bw p 64 := bw_ext fun i _ => by rw [Nat.mul_zero, Nat.zero_add]
  rw [h]; rfl
theorem SW.sv {p : Nat → Bool} {a b c d : Nat} (h : SW p a b c d) : sv p = wv a b c d := by
  rw [sv_wd, h.a, h.b, h.c, h.d]
theorem sw_of (p : Nat → Bool) : ∃ a b c d, SW p a b c d := ⟨_, _, _, _, rfl, rfl, rfl, rfl⟩
theorem SW.ext {p q : Nat → Bool} {a b c d : Nat} (h : SW p a b c d) (he : ∀ i, i < 256 → p i = q i) : SW q a b c d :=
  ⟨(bw_ext fun i hi => (he _ (by omega)).symm).trans h.a, (bw_ext fun i hi => (he _ (by omega)).symm).trans h.b, (bw_ext fun i hi => (he _ (by omega)).symm).trans h.c, (bw_ext fun i hi => (he _ (by omega)).symm).trans h.d⟩
theorem sw_none : SW (fun _ => false) 0 0 0 0 := ⟨bw_none _, bw_none _, bw_none _, bw_none _⟩
/-- A set that a call hands back. -/
def RetS3 (p : Nat → Bool) (w : World) (x : Ending) (w' : World) : Prop := ∃ a b c d, x = .returned (.agg #[.int .u64 (a : Nat), .int .u64 (b : Nat), .int .u64 (c : Nat), .int .u64 (d : Nat)]) ∧ SW p a b c d ∧ Below w.heap.size w w'
theorem RetS3.of {p : Nat → Bool} {w w' : World} {x : Ending} (h : x = .returned (sv p) ∧ Below w.heap.size w w') : RetS3 p w x w' := by
  obtain ⟨a, b, c, d, hs⟩ := sw_of p
  exact ⟨a, b, c, d, by rw [h.1, hs.sv]; rfl, hs, h.2⟩
theorem bWith_sw {p : Nat → Bool} {a b c d : Nat} (h : SW p a b c d) (e : Nat) (he : e < 256) (w : World) : Calls Tryz.prog 130 #[.agg #[.int .u64 (a : Nat), .int .u64 (b : Nat), .int .u64 (c : Nat), .int .u64 (d : Nat)], .int .i64 (e : Nat)] w (RetS3 (fun i => p i || i == e) w) := by
  have := bWith_any p e he w
  rw [h.sv] at this
  exact this.mono fun _ _ h => RetS3.of h
theorem bAnd_sw {p q : Nat → Bool} {a b c d e f g k : Nat} (h : SW p a b c d) (h' : SW q e f g k) (w : World) : Calls Tryz.prog 171 #[.agg #[.int .u64 (a : Nat), .int .u64 (b : Nat), .int .u64 (c : Nat), .int .u64 (d : Nat)], .agg #[.int .u64 (e : Nat), .int .u64 (f : Nat), .int .u64 (g : Nat), .int .u64 (k : Nat)]] w (RetS3 (fun i => p i && q i) w) := by
  have := bAnd_any p q w
  rw [h.sv, h'.sv] at this
  exact this.mono fun _ _ h => RetS3.of h
theorem bOr_sw {p q : Nat → Bool} {a b c d e f g k : Nat} (h : SW p a b c d) (h' : SW q e f g k) (w : World) : Calls Tryz.prog 172 #[.agg #[.int .u64 (a : Nat), .int .u64 (b : Nat), .int .u64 (c : Nat), .int .u64 (d : Nat)], .agg #[.int .u64 (e : Nat), .int .u64 (f : Nat), .int .u64 (g : Nat), .int .u64 (k : Nat)]] w (RetS3 (fun i => p i || q i) w) := by
  have := bOr_any p q w
  rw [h.sv, h'.sv] at this
  exact this.mono fun _ _ h => RetS3.of h
theorem bMinus_sw {p q : Nat → Bool} {a b c d e f g k : Nat} (h : SW p a b c d) (h' : SW q e f g k) (w : World) : Calls Tryz.prog 170 #[.agg #[.int .u64 (a : Nat), .int .u64 (b : Nat), .int .u64 (c : Nat), .int .u64 (d : Nat)], .agg #[.int .u64 (e : Nat), .int .u64 (f : Nat), .int .u64 (g : Nat), .int .u64 (k : Nat)]] w (RetS3 (fun i => p i && !q i) w) := by
  have := bMinus_any p q w
  rw [h.sv, h'.sv] at this
  exact this.mono fun _ _ h => RetS3.of h
theorem bHas_sw {p : Nat → Bool} {a b c d : Nat} (h : SW p a b c d) (e : Nat) (he : e < 256) (w : World) : Calls Tryz.prog 97 #[.agg #[.int .u64 (a : Nat), .int .u64 (b : Nat), .int .u64 (c : Nat), .int .u64 (d : Nat)], .int .i64 (e : Nat)] w fun x w' => x = .returned (.bool (p e)) ∧ Below w.heap.size w w' := by
  have := bHas_any p e he w
  rw [h.sv] at this
  exact this
set_option maxHeartbeats 1000000 in
/-- The iterator of a set: the closure and its box. -/
theorem bAll_any (a b c d : Nat) (w : World) :
    Calls Tryz.prog 94 #[.agg #[.int .u64 (a : Nat), .int .u64 (b : Nat), .int .u64 (c : Nat), .int .u64 (d : Nat)]] w fun e w' => e = .returned (.func (.func 139) #[] #[.pointer (some ⟨w.heap.size, 0, none⟩)]) ∧ w' = w.alloc (.cells #[.int .u64 (a : Nat), .int .u64 (b : Nat), .int .u64 (c : Nat), .int .u64 (d : Nat)] 145) := by
  go_enter Tryz.func94, Tryz.ntmps94
  go_wp2
  go_ret
  exact ⟨rfl, rfl⟩
set_option maxRecDepth 100000 in
set_option maxHeartbeats 2000000 in
theorem bBelow_any (n : Nat) (hn : n ≤ 256) (w : World) : Calls Tryz.prog 129 #[.int .i64 (n : Nat)] w (RetS3 (fun i => decide (i < n)) w) := by
  obtain ⟨W1, hW1, hB1, hs1, hk1⟩ := newBlk w _ rfl #[.int .u64 0, .int .u64 0, .int .u64 0, .int .u64 0] 145
  obtain ⟨W2, hW2, hB2, hs2, hk2⟩ := newBlk W1 _ hs1 #[.int .u64 0, .int .u64 0, .int .u64 0, .int .u64 0] 145
  have hB : Below w.heap.size w W2 := hB1.trans (hB2.mono (by omega))
  have hk12 := (hB2.block w.heap.size (by omega)).trans hk1
  have HB := Lib.hid hB
  have h00 : SW (fun i => decide (i < 0)) 0 0 0 0 := sw_none.ext fun i _ => by simp
  clear hB hB1 hB2 hk1
  go_enter Tryz.func129, Tryz.ntmps129
  go_wp2_with fail
  go_loopw [6] (fun i wr => ∃ (k : Nat) (a b c d : Nat), k ≤ n ∧ i = .int .i64 k ∧ SW (fun i => decide (i < k)) a b c d ∧ wr.heap[w.heap.size + 1]? = some (.cells #[.int .u64 (a : Nat), .int .u64 (b : Nat), .int .u64 (c : Nat), .int .u64 (d : Nat)] 145) ∧ wr.heap[w.heap.size]? = some (.cells #[.int .u64 0, .int .u64 0, .int .u64 0, .int .u64 0] 145) ∧ Below w.heap.size w wr) (fun i _ => n - (intOf i).toNat)
  case atStart => exact ⟨0, 0, 0, 0, 0, Nat.zero_le _, rfl, h00, hk2, hk12, HB.out⟩
  case round =>
    obtain ⟨k, a, b, c, d, hk, rfl, hsw, hkS, hkR, hbw⟩ := hrel
    have s0 := cell_of_blk hkS 0
    have s1 := cell_of_blk hkS 1
    have s2 := cell_of_blk hkS 2
    have s3 := cell_of_blk hkS 3
    simp only [List.getElem?_toArray, List.getElem?_cons_zero, List.getElem?_cons_succ] at s0 s1 s2 s3
    by_cases hlt : k < n
    · have hlI : (k : Int) < n := by omega
      have hwi := bWith_sw hsw k (by omega) wr
      have HSW := Lib.hid hsw
      clear hsw
      go_wp2_with (go_at_call 130; refine hwi.mono ?_; clear hwi; rintro x w3 ⟨a', b', c', d', rfl, hsw', hb3⟩; have hk3 := blk_lat hkS hb3; have hkR3 := blk_lat hkR hb3; have t0 := cell_of_blk hk3 0; have t1 := cell_of_blk hk3 1; have t2 := cell_of_blk hk3 2; have t3 := cell_of_blk hk3 3; have f0 := frozen_of_blk hk3 0; have f1 := frozen_of_blk hk3 1; have f2 := frozen_of_blk hk3 2; have f3 := frozen_of_blk hk3 3; simp only [List.getElem?_toArray, List.getElem?_cons_zero, List.getElem?_cons_succ] at t0 t1 t2 t3)
      have HS' := Lib.hid hsw'
      obtain ⟨q1, q2⟩ := store4 hk3 (.int .u64 (a' : Nat)) (.int .u64 (b' : Nat)) (.int .u64 (c' : Nat)) (.int .u64 (d' : Nat))
      go_roundw
      case rel => exact ⟨k + 1, a', b', c', d', by omega, by go_num, HS'.out.ext (fun i _ => by rw [Bool.eq_iff_iff]; simp; omega), q1, blk_off hkR3 q2 (by omega), (hbw.trans (hb3.mono hbw.size)).trans (below_grown q2 (by omega) (by have := hbw.size; have := hb3.size; omega))⟩
      case measure => simp [intOf]; omega
    · have hkn : k = n := by omega
      subst hkn
      have r0 := cell_of_blk hkR 0
      have r1 := cell_of_blk hkR 1
      have r2 := cell_of_blk hkR 2
      have r3 := cell_of_blk hkR 3
      have f0 := frozen_of_blk hkR 0
      have f1 := frozen_of_blk hkR 1
      have f2 := frozen_of_blk hkR 2
      have f3 := frozen_of_blk hkR 3
      simp only [List.getElem?_toArray, List.getElem?_cons_zero, List.getElem?_cons_succ] at r0 r1 r2 r3
      obtain ⟨q1, q2⟩ := store4 hkR (.int .u64 (a : Nat)) (.int .u64 (b : Nat)) (.int .u64 (c : Nat)) (.int .u64 (d : Nat))
      have hb4 := hbw.trans (below_grown q2 (Nat.le_refl _) hbw.size)
      go_wp2
      generalize ((((wr.setCell ⟨w.heap.size, 0, none⟩ (.int .u64 (a : Nat))).setCell ⟨w.heap.size, 1, none⟩ (.int .u64 (b : Nat))).setCell ⟨w.heap.size, 2, none⟩ (.int .u64 (c : Nat))).setCell ⟨w.heap.size, 3, none⟩ (.int .u64 (d : Nat))) = w5 at q1 hb4 ⊢
      have t0 := cell_of_blk q1 0
      have t1 := cell_of_blk q1 1
      have t2 := cell_of_blk q1 2
      have t3 := cell_of_blk q1 3
      simp only [List.getElem?_toArray, List.getElem?_cons_zero, List.getElem?_cons_succ] at t0 t1 t2 t3
      refine bodyPost_ret (v := _) (by simp [results, Tryz.f129, go_sem, t0, t1, t2, t3]) rfl ⟨a, b, c, d, rfl, hsw, hb4⟩
end Go.Proofs.YtndkcimajeofcaaGreatDoor

namespace Go.Proofs.YtndkcimajeofcaaGreatDoor
open Go.RowKit

/-- A []int that came in. -/
structure IL where
  A : Option Addr
  c : Nat
  l : List Int
def icell (x : Int) : Value := .int .i64 x
def IL.val (s : IL) : Value := .slice s.A s.l.length s.c
def IL.In (B : Nat) (w : World) (s : IL) : Prop := s.l.length ≤ s.c ∧ s.c ≤ 9223372036854775807 ∧ RowAt w B 1 s.A s.l.length (s.l.map icell)
/-- A [][2]int that came in. -/
structure PL where
  A : Option Addr
  c : Nat
  l : List (Int × Int)
def pcells (p : Int × Int) : List Value := [.int .i64 p.1, .int .i64 p.2]
def PL.val (s : PL) : Value := .slice s.A s.l.length s.c
def PL.In (B : Nat) (w : World) (s : PL) : Prop := s.l.length ≤ s.c ∧ s.c ≤ 9223372036854775807 ∧ RowAt w B 2 s.A s.l.length (s.l.flatMap pcells)
/-- api.Interp, as it lies. -/
structure IN where
  size : Int
  CA : Option Addr
  cc : Nat
  C : List IL
  RA : Option Addr
  rc : Nat
  R : List PL
  I : IL
def IN.cells (i : IN) : Array Value := #[.int .i64 i.size, .slice i.CA i.C.length i.cc, .slice i.RA i.R.length i.rc, .slice i.I.A i.I.l.length i.I.c]
def IN.val (i : IN) : Value := .agg #[.int .i64 i.size, .slice i.CA i.C.length i.cc, .slice i.RA i.R.length i.rc, .slice i.I.A i.I.l.length i.I.c]
structure IN.In (B : Nat) (w : World) (i : IN) : Prop where
  c1 : i.C.length ≤ i.cc
  c2 : i.cc ≤ 9223372036854775807
  c3 : RowAt w B 1 i.CA i.C.length (i.C.map IL.val)
  c4 : ∀ s ∈ i.C, s.In B w
  r1 : i.R.length ≤ i.rc
  r2 : i.rc ≤ 9223372036854775807
  r3 : RowAt w B 1 i.RA i.R.length (i.R.map PL.val)
  r4 : ∀ s ∈ i.R, s.In B w
  i1 : i.I.In B w
theorem IL.In.below {B B' : Nat} {w w' : World} {s : IL} (h : s.In B w) (hB : B ≤ B') (hb : Below B w w') : s.In B' w' := ⟨h.1, h.2.1, h.2.2.below hB hb⟩
theorem PL.In.below {B B' : Nat} {w w' : World} {s : PL} (h : s.In B w) (hB : B ≤ B') (hb : Below B w w') : s.In B' w' := ⟨h.1, h.2.1, h.2.2.below hB hb⟩
theorem IN.In.below {B B' : Nat} {w w' : World} {i : IN} (h : i.In B w) (hB : B ≤ B') (hb : Below B w w') : i.In B' w' :=
  ⟨h.c1, h.c2, h.c3.below hB hb, fun s hs => (h.c4 s hs).below hB hb, h.r1, h.r2, h.r3.below hB hb, fun s hs => (h.r4 s hs).below hB hb, h.i1.below hB hb⟩
theorem IN.In.later {w w' : World} {i : IN} (h : i.In w.heap.size w) (hb : Below w.heap.size w w') : i.In w'.heap.size w' := h.below hb.size hb

theorem IL.In.cells {B : Nat} {w : World} {s : IL} (h : s.In B w) (hne : s.l.length ≠ 0) : ∃ b off, s.A = some ⟨b, off, none⟩ ∧ b < B ∧ ∀ j (hj : j < s.l.length), w.cell? ⟨b, off + j, none⟩ = some (.int .i64 s.l[j]) := by
  obtain ⟨b, off, hA, hb, hc⟩ := h.2.2.2 hne
  refine ⟨b, off, hA, hb, fun j hj => ?_⟩
  rw [hc j (by omega), List.getElem?_map, List.getElem?_eq_getElem hj]; rfl
theorem pcells_at : ∀ (l : List (Int × Int)) (k : Nat) (hk : k < l.length), (l.flatMap pcells)[2 * k]? = some (.int .i64 l[k].1) ∧ (l.flatMap pcells)[2 * k + 1]? = some (.int .i64 l[k].2)
  | [], k, hk => absurd hk (Nat.not_lt_zero _)
  | t :: ts, k, hk => by
    cases k with
    | zero => exact ⟨rfl, rfl⟩
    | succ k => exact pcells_at ts k (by simpa using hk)
theorem PL.In.cells {B : Nat} {w : World} {s : PL} (h : s.In B w) (hne : s.l.length ≠ 0) : ∃ b off, s.A = some ⟨b, off, none⟩ ∧ b < B ∧ ∀ j (hj : j < s.l.length), w.cell? ⟨b, off + j * 2, none⟩ = some (.int .i64 s.l[j].1) ∧ w.cell? ⟨b, off + j * 2 + 1, none⟩ = some (.int .i64 s.l[j].2) := by
  obtain ⟨b, off, hA, hb, hc⟩ := h.2.2.2 hne
  refine ⟨b, off, hA, hb, fun j hj => ?_⟩
  obtain ⟨e0, e1⟩ := pcells_at s.l j hj
  refine ⟨?_, ?_⟩
  · rw [hc _ (by omega), Nat.mul_comm j 2]; exact e0
  · rw [Nat.add_assoc, hc _ (by omega), Nat.mul_comm j 2]; exact e1
def foreignB (n x : Int) : Bool := decide (x < 0) || decide (n ≤ x)
end Go.Proofs.YtndkcimajeofcaaGreatDoor

namespace Go.Proofs.YtndkcimajeofcaaGreatDoor
namespace TS
open Go.RowKit
/-! The contracts of SW, once more for sets of marks.Type. -/

set_option maxRecDepth 100000 in
set_option maxHeartbeats 1000000 in
theorem bWith_raw (a b c d q r : Nat) (ha : a < 18446744073709551616) (hb : b < 18446744073709551616) (hc : c < 18446744073709551616) (hd : d < 18446744073709551616) (hq : q < 4) (hr : r < 64) (w : World) :
    Calls Tryz.prog 156 #[wv a b c d, .int .i64 ((64 * q + r : Nat) : Int)] w fun x w' => x = .returned (withW q r a b c d) ∧ Below w.heap.size w w' := by
  have h1 : (((64 * q + r : Nat) : Int)).tdiv 64 = q := by rw [Int.tdiv_eq_ediv_of_nonneg (by omega)]; omega
  have h2 : (((64 * q + r : Nat) : Int)).tmod 64 = r := by rw [Int.tmod_eq_emod_of_nonneg (by omega)]; omega
  have hpow : 2 ^ r < 18446744073709551616 := Nat.pow_lt_pow_right (by omega) hr
  have h3 : IntKind.u64.wrap ((2 : Int) ^ r) = (2 : Int) ^ r := by rw [pow_cast, wrapU hpow]
  obtain ⟨W1, hW1, hB1, hs1, hk1⟩ := newBlk w _ rfl #[.int .u64 a, .int .u64 b, .int .u64 c, .int .u64 d] 126
  obtain ⟨W2, hW2, hB2, hs2, hk2⟩ := newBlk W1 _ hs1 #[.int .u64 0, .int .u64 0, .int .u64 0, .int .u64 0] 126
  have hB : Below w.heap.size w W2 := hB1.trans (hB2.mono (by omega))
  have hk12 := (hB2.block w.heap.size (by omega)).trans hk1
  have a0 := cell_of_blk hk12 0
  have b0 := cell_of_blk hk2 0
  have f0 := frozen_of_blk hk12 0
  have g0 := frozen_of_blk hk2 0
  have a1 := cell_of_blk hk12 1
  have b1 := cell_of_blk hk2 1
  have f1 := frozen_of_blk hk12 1
  have g1 := frozen_of_blk hk2 1
  have a2 := cell_of_blk hk12 2
  have b2 := cell_of_blk hk2 2
  have f2 := frozen_of_blk hk12 2
  have g2 := frozen_of_blk hk2 2
  have a3 := cell_of_blk hk12 3
  have b3 := cell_of_blk hk2 3
  have f3 := frozen_of_blk hk12 3
  have g3 := frozen_of_blk hk2 3
  simp only [List.getElem?_toArray, List.getElem?_cons_zero, List.getElem?_cons_succ] at a0 a1 a2 a3 b0 b1 b2 b3
  have h0I : (0 : Int) ≤ r := by omega
  have hrI : (r : Int) < 64 := by omega
  have hrn : ¬ ((r : Int) < 0) := by omega
  have hmin : min r 64 = r := by omega
  have HB := Lib.hid hB
  clear hB hB1 hB2 hk1 hk12
  generalize hz : ((64 * q + r : Nat) : Int) = z at h1 h2 ⊢
  clear hz
  unfold wv withW wv
  rcases (show q = 0 ∨ q = 1 ∨ q = 2 ∨ q = 3 by omega) with rfl | rfl | rfl | rfl <;> simp only [Nat.reduceEqDiff, if_true, if_false, Nat.one_ne_zero, Nat.zero_ne_one]
  · have hbits : bits .or .u64 (a : Int) ((2 : Int) ^ r) = ((a ||| 2 ^ r : Nat) : Int) := by rw [pow_cast, u64_or_nat _ _ ha hpow]
    generalize (a ||| 2 ^ r : Nat) = y at hbits ⊢
    go_enter Tryz.func156, Tryz.ntmps156
    go_wp2_with fail
    go_region
    go_wp2
    have hq1 := blk_off hk2 (grown_set W2 w.heap.size 0 (.int .u64 (y : Nat))) (by omega)
    obtain ⟨q1, q2⟩ := store4 hq1 (.int .u64 (y : Nat)) (.int .u64 (b : Nat)) (.int .u64 (c : Nat)) (.int .u64 (d : Nat))
    have hb4 := ((HB.out.setCell (p := ⟨w.heap.size, 0, none⟩) (Nat.le_refl _) (.int .u64 (y : Nat))).trans (below_grown q2 (by omega) (HB.out.setCell (p := ⟨w.heap.size, 0, none⟩) (Nat.le_refl _) _).size)).drew
    clear hq1 q2
    generalize (((((W2.setCell ⟨w.heap.size, 0, none⟩ (.int .u64 (y : Nat))).setCell ⟨w.heap.size + 1, 0, none⟩ (.int .u64 (y : Nat))).setCell ⟨w.heap.size + 1, 1, none⟩ (.int .u64 (b : Nat))).setCell ⟨w.heap.size + 1, 2, none⟩ (.int .u64 (c : Nat))).setCell ⟨w.heap.size + 1, 3, none⟩ (.int .u64 (d : Nat))) = w4 at q1 hb4 ⊢
    have q1 : w4.drew.heap[w.heap.size + 1]? = _ := q1
    generalize w4.drew = w5 at q1 hb4 ⊢
    have t0 := cell_of_blk q1 0
    have t1 := cell_of_blk q1 1
    have t2 := cell_of_blk q1 2
    have t3 := cell_of_blk q1 3
    simp only [List.getElem?_toArray, List.getElem?_cons_zero, List.getElem?_cons_succ] at t0 t1 t2 t3
    refine bodyPost_ret (v := _) (by simp [results, Tryz.f156, go_sem, t0, t1, t2, t3]) rfl ⟨rfl, hb4⟩
  · have hbits : bits .or .u64 (b : Int) ((2 : Int) ^ r) = ((b ||| 2 ^ r : Nat) : Int) := by rw [pow_cast, u64_or_nat _ _ hb hpow]
    generalize (b ||| 2 ^ r : Nat) = y at hbits ⊢
    go_enter Tryz.func156, Tryz.ntmps156
    go_wp2_with fail
    go_region
    go_wp2
    have hq1 := blk_off hk2 (grown_set W2 w.heap.size 1 (.int .u64 (y : Nat))) (by omega)
    obtain ⟨q1, q2⟩ := store4 hq1 (.int .u64 (a : Nat)) (.int .u64 (y : Nat)) (.int .u64 (c : Nat)) (.int .u64 (d : Nat))
    have hb4 := ((HB.out.setCell (p := ⟨w.heap.size, 1, none⟩) (Nat.le_refl _) (.int .u64 (y : Nat))).trans (below_grown q2 (by omega) (HB.out.setCell (p := ⟨w.heap.size, 1, none⟩) (Nat.le_refl _) _).size)).drew
    clear hq1 q2
    generalize (((((W2.setCell ⟨w.heap.size, 1, none⟩ (.int .u64 (y : Nat))).setCell ⟨w.heap.size + 1, 0, none⟩ (.int .u64 (a : Nat))).setCell ⟨w.heap.size + 1, 1, none⟩ (.int .u64 (y : Nat))).setCell ⟨w.heap.size + 1, 2, none⟩ (.int .u64 (c : Nat))).setCell ⟨w.heap.size + 1, 3, none⟩ (.int .u64 (d : Nat))) = w4 at q1 hb4 ⊢
    have q1 : w4.drew.heap[w.heap.size + 1]? = _ := q1
    generalize w4.drew = w5 at q1 hb4 ⊢
    have t0 := cell_of_blk q1 0
    have t1 := cell_of_blk q1 1
    have t2 := cell_of_blk q1 2
    have t3 := cell_of_blk q1 3
    simp only [List.getElem?_toArray, List.getElem?_cons_zero, List.getElem?_cons_succ] at t0 t1 t2 t3
    refine bodyPost_ret (v := _) (by simp [results, Tryz.f156, go_sem, t0, t1, t2, t3]) rfl ⟨rfl, hb4⟩
  · have hbits : bits .or .u64 (c : Int) ((2 : Int) ^ r) = ((c ||| 2 ^ r : Nat) : Int) := by rw [pow_cast, u64_or_nat _ _ hc hpow]
    generalize (c ||| 2 ^ r : Nat) = y at hbits ⊢
    go_enter Tryz.func156, Tryz.ntmps156
    go_wp2_with fail
    go_region
    go_wp2
    have hq1 := blk_off hk2 (grown_set W2 w.heap.size 2 (.int .u64 (y : Nat))) (by omega)
    obtain ⟨q1, q2⟩ := store4 hq1 (.int .u64 (a : Nat)) (.int .u64 (b : Nat)) (.int .u64 (y : Nat)) (.int .u64 (d : Nat))
    have hb4 := ((HB.out.setCell (p := ⟨w.heap.size, 2, none⟩) (Nat.le_refl _) (.int .u64 (y : Nat))).trans (below_grown q2 (by omega) (HB.out.setCell (p := ⟨w.heap.size, 2, none⟩) (Nat.le_refl _) _).size)).drew
    clear hq1 q2
    generalize (((((W2.setCell ⟨w.heap.size, 2, none⟩ (.int .u64 (y : Nat))).setCell ⟨w.heap.size + 1, 0, none⟩ (.int .u64 (a : Nat))).setCell ⟨w.heap.size + 1, 1, none⟩ (.int .u64 (b : Nat))).setCell ⟨w.heap.size + 1, 2, none⟩ (.int .u64 (y : Nat))).setCell ⟨w.heap.size + 1, 3, none⟩ (.int .u64 (d : Nat))) = w4 at q1 hb4 ⊢
    have q1 : w4.drew.heap[w.heap.size + 1]? = _ := q1
    generalize w4.drew = w5 at q1 hb4 ⊢
    have t0 := cell_of_blk q1 0
    have t1 := cell_of_blk q1 1
    have t2 := cell_of_blk q1 2
    have t3 := cell_of_blk q1 3
    simp only [List.getElem?_toArray, List.getElem?_cons_zero, List.getElem?_cons_succ] at t0 t1 t2 t3
    refine bodyPost_ret (v := _) (by simp [results, Tryz.f156, go_sem, t0, t1, t2, t3]) rfl ⟨rfl, hb4⟩
  · have hbits : bits .or .u64 (d : Int) ((2 : Int) ^ r) = ((d ||| 2 ^ r : Nat) : Int) := by rw [pow_cast, u64_or_nat _ _ hd hpow]
    generalize (d ||| 2 ^ r : Nat) = y at hbits ⊢
    go_enter Tryz.func156, Tryz.ntmps156
    go_wp2_with fail
    go_region
    go_wp2
    have hq1 := blk_off hk2 (grown_set W2 w.heap.size 3 (.int .u64 (y : Nat))) (by omega)
    obtain ⟨q1, q2⟩ := store4 hq1 (.int .u64 (a : Nat)) (.int .u64 (b : Nat)) (.int .u64 (c : Nat)) (.int .u64 (y : Nat))
    have hb4 := ((HB.out.setCell (p := ⟨w.heap.size, 3, none⟩) (Nat.le_refl _) (.int .u64 (y : Nat))).trans (below_grown q2 (by omega) (HB.out.setCell (p := ⟨w.heap.size, 3, none⟩) (Nat.le_refl _) _).size)).drew
    clear hq1 q2
    generalize (((((W2.setCell ⟨w.heap.size, 3, none⟩ (.int .u64 (y : Nat))).setCell ⟨w.heap.size + 1, 0, none⟩ (.int .u64 (a : Nat))).setCell ⟨w.heap.size + 1, 1, none⟩ (.int .u64 (b : Nat))).setCell ⟨w.heap.size + 1, 2, none⟩ (.int .u64 (c : Nat))).setCell ⟨w.heap.size + 1, 3, none⟩ (.int .u64 (y : Nat))) = w4 at q1 hb4 ⊢
    have q1 : w4.drew.heap[w.heap.size + 1]? = _ := q1
    generalize w4.drew = w5 at q1 hb4 ⊢
    have t0 := cell_of_blk q1 0
    have t1 := cell_of_blk q1 1
    have t2 := cell_of_blk q1 2
    have t3 := cell_of_blk q1 3
    simp only [List.getElem?_toArray, List.getElem?_cons_zero, List.getElem?_cons_succ] at t0 t1 t2 t3
    refine bodyPost_ret (v := _) (by simp [results, Tryz.f156, go_sem, t0, t1, t2, t3]) rfl ⟨rfl, hb4⟩

theorem bWith_any (p : Nat → Bool) (e : Nat) (he : e < 256) (w : World) : Calls Tryz.prog 156 #[sv p, .int .i64 (e : Nat)] w fun x w' => x = .returned (sv fun i => p i || i == e) ∧ Below w.heap.size w w' := by
  obtain ⟨q, r, hq, hr, rfl⟩ : ∃ q r, q < 4 ∧ r < 64 ∧ e = 64 * q + r := ⟨e / 64, e % 64, by omega, by omega, by omega⟩
  refine (bWith_raw _ _ _ _ q r (bw_lt64 _) (bw_lt64 _) (bw_lt64 _) (bw_lt64 _) hq hr w).mono ?_
  rintro x w' ⟨rfl, hb⟩
  refine ⟨?_, hb⟩
  have h0 := withWord p 0 q r hr
  have h1 := withWord p 1 q r hr
  have h2 := withWord p 2 q r hr
  have h3 := withWord p 3 q r hr
  simp only [Nat.mul_zero, Nat.zero_add, Nat.mul_one, show 64 * 2 = 128 from rfl, show 64 * 3 = 192 from rfl] at h0 h1 h2 h3
  unfold withW sv
  rw [h0, h1, h2, h3]

set_option maxRecDepth 100000 in
set_option maxHeartbeats 2000000 in
theorem bAnd_raw (a b c d e f g h : Nat) (ha : a < 18446744073709551616) (hb : b < 18446744073709551616) (hc : c < 18446744073709551616) (hd : d < 18446744073709551616) (he : e < 18446744073709551616) (hf : f < 18446744073709551616) (hg : g < 18446744073709551616) (hh : h < 18446744073709551616) (w : World) :
    Calls Tryz.prog 119 #[wv a b c d, wv e f g h] w fun x w' => x = .returned (wv (a &&& e) (b &&& f) (c &&& g) (d &&& h)) ∧ Below w.heap.size w w' := by
  have q0 : bits .and .u64 (a : Int) (e : Int) = ((a &&& e : Nat) : Int) := u64_and_nat _ _ ha he
  have q1 : bits .and .u64 (b : Int) (f : Int) = ((b &&& f : Nat) : Int) := u64_and_nat _ _ hb hf
  have q2 : bits .and .u64 (c : Int) (g : Int) = ((c &&& g : Nat) : Int) := u64_and_nat _ _ hc hg
  have q3 : bits .and .u64 (d : Int) (h : Int) = ((d &&& h : Nat) : Int) := u64_and_nat _ _ hd hh
  generalize (a &&& e : Nat) = x0 at q0 ⊢
  generalize (b &&& f : Nat) = x1 at q1 ⊢
  generalize (c &&& g : Nat) = x2 at q2 ⊢
  generalize (d &&& h : Nat) = x3 at q3 ⊢
  obtain ⟨W1, hW1, hB1, hs1, hk1⟩ := newBlk w _ rfl #[.int .u64 (a : Nat), .int .u64 (b : Nat), .int .u64 (c : Nat), .int .u64 (d : Nat)] 126
  obtain ⟨W2, hW2, hB2, hs2, hk2⟩ := newBlk W1 _ hs1 #[.int .u64 (e : Nat), .int .u64 (f : Nat), .int .u64 (g : Nat), .int .u64 (h : Nat)] 126
  obtain ⟨W3, hW3, hB3, hs3, hk3⟩ := newBlk W2 _ hs2 #[.int .u64 0, .int .u64 0, .int .u64 0, .int .u64 0] 126
  have hB : Below w.heap.size w W3 := (hB1.trans (hB2.mono (by omega))).trans (hB3.mono (by omega))
  have hk13 := (hB3.block w.heap.size (by omega)).trans ((hB2.block w.heap.size (by omega)).trans hk1)
  have hk23 := (hB3.block (w.heap.size + 1) (by omega)).trans hk2
  have HB := Lib.hid hB
  unfold wv
  clear hB hB1 hB2 hB3 hk1 hk2
  go_enter Tryz.func119, Tryz.ntmps119
  go_wp2_with fail
  go_loopw [6] (fun i wr => wr.heap[w.heap.size + 1]? = some (.cells #[.int .u64 (e : Nat), .int .u64 (f : Nat), .int .u64 (g : Nat), .int .u64 (h : Nat)] 126) ∧ (∃ v, wr.heap[w.heap.size + 1 + 1]? = some (.cells v 126) ∧ v.size = 4) ∧ Below w.heap.size w wr ∧ ((i = .int .i64 0 ∧ wr.heap[w.heap.size]? = some (.cells #[.int .u64 (a : Nat), .int .u64 (b : Nat), .int .u64 (c : Nat), .int .u64 (d : Nat)] 126)) ∨ (i = .int .i64 1 ∧ wr.heap[w.heap.size]? = some (.cells #[.int .u64 (x0 : Nat), .int .u64 (b : Nat), .int .u64 (c : Nat), .int .u64 (d : Nat)] 126)) ∨ (i = .int .i64 2 ∧ wr.heap[w.heap.size]? = some (.cells #[.int .u64 (x0 : Nat), .int .u64 (x1 : Nat), .int .u64 (c : Nat), .int .u64 (d : Nat)] 126)) ∨ (i = .int .i64 3 ∧ wr.heap[w.heap.size]? = some (.cells #[.int .u64 (x0 : Nat), .int .u64 (x1 : Nat), .int .u64 (x2 : Nat), .int .u64 (d : Nat)] 126)) ∨ (i = .int .i64 4 ∧ wr.heap[w.heap.size]? = some (.cells #[.int .u64 (x0 : Nat), .int .u64 (x1 : Nat), .int .u64 (x2 : Nat), .int .u64 (x3 : Nat)] 126)))) (fun i _ => 4 - (intOf i).toNat)
  case atStart => exact ⟨hk23, ⟨_, hk3, rfl⟩, HB.out, .inl ⟨rfl, hk13⟩⟩
  case round =>
    obtain ⟨hkB, ⟨vr, hkR, hvr⟩, hbw, hinv⟩ := hrel
    have e0 := cell_of_blk hkB 0
    have e1 := cell_of_blk hkB 1
    have e2 := cell_of_blk hkB 2
    have e3 := cell_of_blk hkB 3
    simp only [List.getElem?_toArray, List.getElem?_cons_zero, List.getElem?_cons_succ] at e0 e1 e2 e3
    rcases hinv with ⟨rfl, hkA⟩ | ⟨rfl, hkA⟩ | ⟨rfl, hkA⟩ | ⟨rfl, hkA⟩ | ⟨rfl, hkA⟩
    · have c0 := cell_of_blk hkA 0
      have c1 := cell_of_blk hkA 1
      have c2 := cell_of_blk hkA 2
      have c3 := cell_of_blk hkA 3
      have f0 := frozen_of_blk hkA 0
      simp only [List.getElem?_toArray, List.getElem?_cons_zero, List.getElem?_cons_succ] at c0 c1 c2 c3
      go_wp2_with fail
      go_region
      go_wp2
      go_roundw
      case rel =>
        have z1 := blk_off hkB (grown_set wr w.heap.size 0 (.int .u64 (x0 : Nat))) (by omega)
        have z2 := blk_off hkR (grown_set wr w.heap.size 0 (.int .u64 (x0 : Nat))) (by omega)
        exact ⟨z1, ⟨vr, z2, hvr⟩, (hbw.setCell (p := ⟨w.heap.size, 0, none⟩) (Nat.le_refl _) (.int .u64 (x0 : Nat))).drew, .inr (.inl ⟨rfl, blk_set hkA 0 (.int .u64 (x0 : Nat))⟩)⟩
      case measure => simp [intOf]
    · have c0 := cell_of_blk hkA 0
      have c1 := cell_of_blk hkA 1
      have c2 := cell_of_blk hkA 2
      have c3 := cell_of_blk hkA 3
      have f0 := frozen_of_blk hkA 1
      simp only [List.getElem?_toArray, List.getElem?_cons_zero, List.getElem?_cons_succ] at c0 c1 c2 c3
      go_wp2_with fail
      go_region
      go_wp2
      go_roundw
      case rel =>
        have z1 := blk_off hkB (grown_set wr w.heap.size 1 (.int .u64 (x1 : Nat))) (by omega)
        have z2 := blk_off hkR (grown_set wr w.heap.size 1 (.int .u64 (x1 : Nat))) (by omega)
        exact ⟨z1, ⟨vr, z2, hvr⟩, (hbw.setCell (p := ⟨w.heap.size, 1, none⟩) (Nat.le_refl _) (.int .u64 (x1 : Nat))).drew, .inr (.inr (.inl ⟨rfl, blk_set hkA 1 (.int .u64 (x1 : Nat))⟩))⟩
      case measure => simp [intOf]
    · have c0 := cell_of_blk hkA 0
      have c1 := cell_of_blk hkA 1
      have c2 := cell_of_blk hkA 2
      have c3 := cell_of_blk hkA 3
      have f0 := frozen_of_blk hkA 2
      simp only [List.getElem?_toArray, List.getElem?_cons_zero, List.getElem?_cons_succ] at c0 c1 c2 c3
      go_wp2_with fail
      go_region
      go_wp2
      go_roundw
      case rel =>
        have z1 := blk_off hkB (grown_set wr w.heap.size 2 (.int .u64 (x2 : Nat))) (by omega)
        have z2 := blk_off hkR (grown_set wr w.heap.size 2 (.int .u64 (x2 : Nat))) (by omega)
        exact ⟨z1, ⟨vr, z2, hvr⟩, (hbw.setCell (p := ⟨w.heap.size, 2, none⟩) (Nat.le_refl _) (.int .u64 (x2 : Nat))).drew, .inr (.inr (.inr (.inl ⟨rfl, blk_set hkA 2 (.int .u64 (x2 : Nat))⟩)))⟩
      case measure => simp [intOf]
    · have c0 := cell_of_blk hkA 0
      have c1 := cell_of_blk hkA 1
      have c2 := cell_of_blk hkA 2
      have c3 := cell_of_blk hkA 3
      have f0 := frozen_of_blk hkA 3
      simp only [List.getElem?_toArray, List.getElem?_cons_zero, List.getElem?_cons_succ] at c0 c1 c2 c3
      go_wp2_with fail
      go_region
      go_wp2
      go_roundw
      case rel =>
        have z1 := blk_off hkB (grown_set wr w.heap.size 3 (.int .u64 (x3 : Nat))) (by omega)
        have z2 := blk_off hkR (grown_set wr w.heap.size 3 (.int .u64 (x3 : Nat))) (by omega)
        exact ⟨z1, ⟨vr, z2, hvr⟩, (hbw.setCell (p := ⟨w.heap.size, 3, none⟩) (Nat.le_refl _) (.int .u64 (x3 : Nat))).drew, .inr (.inr (.inr (.inr (⟨rfl, blk_set hkA 3 (.int .u64 (x3 : Nat))⟩))))⟩
      case measure => simp [intOf]
    · have c0 := cell_of_blk hkA 0
      have c1 := cell_of_blk hkA 1
      have c2 := cell_of_blk hkA 2
      have c3 := cell_of_blk hkA 3
      have f0 := frozen_of_blk hkR 0
      have f1 := frozen_of_blk hkR 1
      have f2 := frozen_of_blk hkR 2
      have f3 := frozen_of_blk hkR 3
      obtain ⟨rl⟩ := vr
      match rl, hvr with
      | [y0, y1, y2, y3], _ =>
        have d0 := cell_of_blk hkR 0
        have d1 := cell_of_blk hkR 1
        have d2 := cell_of_blk hkR 2
        have d3 := cell_of_blk hkR 3
        simp only [List.getElem?_toArray, List.getElem?_cons_zero, List.getElem?_cons_succ] at c0 c1 c2 c3 d0 d1 d2 d3
        obtain ⟨q1', q2'⟩ := store4 hkR (.int .u64 (x0 : Nat)) (.int .u64 (x1 : Nat)) (.int .u64 (x2 : Nat)) (.int .u64 (x3 : Nat))
        have hb4 := hbw.trans (below_grown q2' (by omega) hbw.size)
        go_wp2
        generalize ((((wr.setCell ⟨w.heap.size + 1 + 1, 0, none⟩ (.int .u64 (x0 : Nat))).setCell ⟨w.heap.size + 1 + 1, 1, none⟩ (.int .u64 (x1 : Nat))).setCell ⟨w.heap.size + 1 + 1, 2, none⟩ (.int .u64 (x2 : Nat))).setCell ⟨w.heap.size + 1 + 1, 3, none⟩ (.int .u64 (x3 : Nat))) = w5 at q1' hb4 ⊢
        have t0 := cell_of_blk q1' 0
        have t1 := cell_of_blk q1' 1
        have t2 := cell_of_blk q1' 2
        have t3 := cell_of_blk q1' 3
        simp only [List.getElem?_toArray, List.getElem?_cons_zero, List.getElem?_cons_succ] at t0 t1 t2 t3
        refine bodyPost_ret (v := _) (by simp [results, Tryz.f119, go_sem, t0, t1, t2, t3]) rfl ⟨rfl, hb4⟩

set_option maxRecDepth 100000 in
set_option maxHeartbeats 2000000 in
theorem bOr_raw (a b c d e f g h : Nat) (ha : a < 18446744073709551616) (hb : b < 18446744073709551616) (hc : c < 18446744073709551616) (hd : d < 18446744073709551616) (he : e < 18446744073709551616) (hf : f < 18446744073709551616) (hg : g < 18446744073709551616) (hh : h < 18446744073709551616) (w : World) :
    Calls Tryz.prog 120 #[wv a b c d, wv e f g h] w fun x w' => x = .returned (wv (a ||| e) (b ||| f) (c ||| g) (d ||| h)) ∧ Below w.heap.size w w' := by
  have q0 : bits .or .u64 (a : Int) (e : Int) = ((a ||| e : Nat) : Int) := u64_or_nat _ _ ha he
  have q1 : bits .or .u64 (b : Int) (f : Int) = ((b ||| f : Nat) : Int) := u64_or_nat _ _ hb hf
  have q2 : bits .or .u64 (c : Int) (g : Int) = ((c ||| g : Nat) : Int) := u64_or_nat _ _ hc hg
  have q3 : bits .or .u64 (d : Int) (h : Int) = ((d ||| h : Nat) : Int) := u64_or_nat _ _ hd hh
  generalize (a ||| e : Nat) = x0 at q0 ⊢
  generalize (b ||| f : Nat) = x1 at q1 ⊢
  generalize (c ||| g : Nat) = x2 at q2 ⊢
  generalize (d ||| h : Nat) = x3 at q3 ⊢
  obtain ⟨W1, hW1, hB1, hs1, hk1⟩ := newBlk w _ rfl #[.int .u64 (a : Nat), .int .u64 (b : Nat), .int .u64 (c : Nat), .int .u64 (d : Nat)] 126
  obtain ⟨W2, hW2, hB2, hs2, hk2⟩ := newBlk W1 _ hs1 #[.int .u64 (e : Nat), .int .u64 (f : Nat), .int .u64 (g : Nat), .int .u64 (h : Nat)] 126
  obtain ⟨W3, hW3, hB3, hs3, hk3⟩ := newBlk W2 _ hs2 #[.int .u64 0, .int .u64 0, .int .u64 0, .int .u64 0] 126
  have hB : Below w.heap.size w W3 := (hB1.trans (hB2.mono (by omega))).trans (hB3.mono (by omega))
  have hk13 := (hB3.block w.heap.size (by omega)).trans ((hB2.block w.heap.size (by omega)).trans hk1)
  have hk23 := (hB3.block (w.heap.size + 1) (by omega)).trans hk2
  have HB := Lib.hid hB
  unfold wv
  clear hB hB1 hB2 hB3 hk1 hk2
  go_enter Tryz.func120, Tryz.ntmps120
  go_wp2_with fail
  go_loopw [6] (fun i wr => wr.heap[w.heap.size + 1]? = some (.cells #[.int .u64 (e : Nat), .int .u64 (f : Nat), .int .u64 (g : Nat), .int .u64 (h : Nat)] 126) ∧ (∃ v, wr.heap[w.heap.size + 1 + 1]? = some (.cells v 126) ∧ v.size = 4) ∧ Below w.heap.size w wr ∧ ((i = .int .i64 0 ∧ wr.heap[w.heap.size]? = some (.cells #[.int .u64 (a : Nat), .int .u64 (b : Nat), .int .u64 (c : Nat), .int .u64 (d : Nat)] 126)) ∨ (i = .int .i64 1 ∧ wr.heap[w.heap.size]? = some (.cells #[.int .u64 (x0 : Nat), .int .u64 (b : Nat), .int .u64 (c : Nat), .int .u64 (d : Nat)] 126)) ∨ (i = .int .i64 2 ∧ wr.heap[w.heap.size]? = some (.cells #[.int .u64 (x0 : Nat), .int .u64 (x1 : Nat), .int .u64 (c : Nat), .int .u64 (d : Nat)] 126)) ∨ (i = .int .i64 3 ∧ wr.heap[w.heap.size]? = some (.cells #[.int .u64 (x0 : Nat), .int .u64 (x1 : Nat), .int .u64 (x2 : Nat), .int .u64 (d : Nat)] 126)) ∨ (i = .int .i64 4 ∧ wr.heap[w.heap.size]? = some (.cells #[.int .u64 (x0 : Nat), .int .u64 (x1 : Nat), .int .u64 (x2 : Nat), .int .u64 (x3 : Nat)] 126)))) (fun i _ => 4 - (intOf i).toNat)
  case atStart => exact ⟨hk23, ⟨_, hk3, rfl⟩, HB.out, .inl ⟨rfl, hk13⟩⟩
  case round =>
    obtain ⟨hkB, ⟨vr, hkR, hvr⟩, hbw, hinv⟩ := hrel
    have e0 := cell_of_blk hkB 0
    have e1 := cell_of_blk hkB 1
    have e2 := cell_of_blk hkB 2
    have e3 := cell_of_blk hkB 3
    simp only [List.getElem?_toArray, List.getElem?_cons_zero, List.getElem?_cons_succ] at e0 e1 e2 e3
    rcases hinv with ⟨rfl, hkA⟩ | ⟨rfl, hkA⟩ | ⟨rfl, hkA⟩ | ⟨rfl, hkA⟩ | ⟨rfl, hkA⟩
    · have c0 := cell_of_blk hkA 0
      have c1 := cell_of_blk hkA 1
      have c2 := cell_of_blk hkA 2
      have c3 := cell_of_blk hkA 3
      have f0 := frozen_of_blk hkA 0
      simp only [List.getElem?_toArray, List.getElem?_cons_zero, List.getElem?_cons_succ] at c0 c1 c2 c3
      go_wp2_with fail
      go_region
      go_wp2
      go_roundw
      case rel =>
        have z1 := blk_off hkB (grown_set wr w.heap.size 0 (.int .u64 (x0 : Nat))) (by omega)
        have z2 := blk_off hkR (grown_set wr w.heap.size 0 (.int .u64 (x0 : Nat))) (by omega)
        exact ⟨z1, ⟨vr, z2, hvr⟩, (hbw.setCell (p := ⟨w.heap.size, 0, none⟩) (Nat.le_refl _) (.int .u64 (x0 : Nat))).drew, .inr (.inl ⟨rfl, blk_set hkA 0 (.int .u64 (x0 : Nat))⟩)⟩
      case measure => simp [intOf]
    · have c0 := cell_of_blk hkA 0
      have c1 := cell_of_blk hkA 1
      have c2 := cell_of_blk hkA 2
      have c3 := cell_of_blk hkA 3
      have f0 := frozen_of_blk hkA 1
      simp only [List.getElem?_toArray, List.getElem?_cons_zero, List.getElem?_cons_succ] at c0 c1 c2 c3
      go_wp2_with fail
      go_region
      go_wp2
      go_roundw
      case rel =>
        have z1 := blk_off hkB (grown_set wr w.heap.size 1 (.int .u64 (x1 : Nat))) (by omega)
        have z2 := blk_off hkR (grown_set wr w.heap.size 1 (.int .u64 (x1 : Nat))) (by omega)
        exact ⟨z1, ⟨vr, z2, hvr⟩, (hbw.setCell (p := ⟨w.heap.size, 1, none⟩) (Nat.le_refl _) (.int .u64 (x1 : Nat))).drew, .inr (.inr (.inl ⟨rfl, blk_set hkA 1 (.int .u64 (x1 : Nat))⟩))⟩
      case measure => simp [intOf]
    · have c0 := cell_of_blk hkA 0
      have c1 := cell_of_blk hkA 1
      have c2 := cell_of_blk hkA 2
      have c3 := cell_of_blk hkA 3
      have f0 := frozen_of_blk hkA 2
      simp only [List.getElem?_toArray, List.getElem?_cons_zero, List.getElem?_cons_succ] at c0 c1 c2 c3
      go_wp2_with fail
      go_region
      go_wp2
      go_roundw
      case rel =>
        have z1 := blk_off hkB (grown_set wr w.heap.size 2 (.int .u64 (x2 : Nat))) (by omega)
        have z2 := blk_off hkR (grown_set wr w.heap.size 2 (.int .u64 (x2 : Nat))) (by omega)
        exact ⟨z1, ⟨vr, z2, hvr⟩, (hbw.setCell (p := ⟨w.heap.size, 2, none⟩) (Nat.le_refl _) (.int .u64 (x2 : Nat))).drew, .inr (.inr (.inr (.inl ⟨rfl, blk_set hkA 2 (.int .u64 (x2 : Nat))⟩)))⟩
      case measure => simp [intOf]
    · have c0 := cell_of_blk hkA 0
      have c1 := cell_of_blk hkA 1
      have c2 := cell_of_blk hkA 2
      have c3 := cell_of_blk hkA 3
      have f0 := frozen_of_blk hkA 3
      simp only [List.getElem?_toArray, List.getElem?_cons_zero, List.getElem?_cons_succ] at c0 c1 c2 c3
      go_wp2_with fail
      go_region
      go_wp2
      go_roundw
      case rel =>
        have z1 := blk_off hkB (grown_set wr w.heap.size 3 (.int .u64 (x3 : Nat))) (by omega)
        have z2 := blk_off hkR (grown_set wr w.heap.size 3 (.int .u64 (x3 : Nat))) (by omega)
        exact ⟨z1, ⟨vr, z2, hvr⟩, (hbw.setCell (p := ⟨w.heap.size, 3, none⟩) (Nat.le_refl _) (.int .u64 (x3 : Nat))).drew, .inr (.inr (.inr (.inr (⟨rfl, blk_set hkA 3 (.int .u64 (x3 : Nat))⟩))))⟩
      case measure => simp [intOf]
    · have c0 := cell_of_blk hkA 0
      have c1 := cell_of_blk hkA 1
      have c2 := cell_of_blk hkA 2
      have c3 := cell_of_blk hkA 3
      have f0 := frozen_of_blk hkR 0
      have f1 := frozen_of_blk hkR 1
      have f2 := frozen_of_blk hkR 2
      have f3 := frozen_of_blk hkR 3
      obtain ⟨rl⟩ := vr
      match rl, hvr with
      | [y0, y1, y2, y3], _ =>
        have d0 := cell_of_blk hkR 0
        have d1 := cell_of_blk hkR 1
        have d2 := cell_of_blk hkR 2
        have d3 := cell_of_blk hkR 3
        simp only [List.getElem?_toArray, List.getElem?_cons_zero, List.getElem?_cons_succ] at c0 c1 c2 c3 d0 d1 d2 d3
        obtain ⟨q1', q2'⟩ := store4 hkR (.int .u64 (x0 : Nat)) (.int .u64 (x1 : Nat)) (.int .u64 (x2 : Nat)) (.int .u64 (x3 : Nat))
        have hb4 := hbw.trans (below_grown q2' (by omega) hbw.size)
        go_wp2
        generalize ((((wr.setCell ⟨w.heap.size + 1 + 1, 0, none⟩ (.int .u64 (x0 : Nat))).setCell ⟨w.heap.size + 1 + 1, 1, none⟩ (.int .u64 (x1 : Nat))).setCell ⟨w.heap.size + 1 + 1, 2, none⟩ (.int .u64 (x2 : Nat))).setCell ⟨w.heap.size + 1 + 1, 3, none⟩ (.int .u64 (x3 : Nat))) = w5 at q1' hb4 ⊢
        have t0 := cell_of_blk q1' 0
        have t1 := cell_of_blk q1' 1
        have t2 := cell_of_blk q1' 2
        have t3 := cell_of_blk q1' 3
        simp only [List.getElem?_toArray, List.getElem?_cons_zero, List.getElem?_cons_succ] at t0 t1 t2 t3
        refine bodyPost_ret (v := _) (by simp [results, Tryz.f120, go_sem, t0, t1, t2, t3]) rfl ⟨rfl, hb4⟩

set_option maxRecDepth 100000 in
set_option maxHeartbeats 2000000 in
theorem bMinus_raw (a b c d e f g h : Nat) (ha : a < 18446744073709551616) (hb : b < 18446744073709551616) (hc : c < 18446744073709551616) (hd : d < 18446744073709551616) (he : e < 18446744073709551616) (hf : f < 18446744073709551616) (hg : g < 18446744073709551616) (hh : h < 18446744073709551616) (w : World) :
    Calls Tryz.prog 118 #[wv a b c d, wv e f g h] w fun x w' => x = .returned (wv (a &&& (18446744073709551615 - e)) (b &&& (18446744073709551615 - f)) (c &&& (18446744073709551615 - g)) (d &&& (18446744073709551615 - h))) ∧ Below w.heap.size w w' := by
  have q0 : bits .andNot .u64 (a : Int) (e : Int) = ((a &&& (18446744073709551615 - e) : Nat) : Int) := u64_andNot_nat _ _ ha he
  have q1 : bits .andNot .u64 (b : Int) (f : Int) = ((b &&& (18446744073709551615 - f) : Nat) : Int) := u64_andNot_nat _ _ hb hf
  have q2 : bits .andNot .u64 (c : Int) (g : Int) = ((c &&& (18446744073709551615 - g) : Nat) : Int) := u64_andNot_nat _ _ hc hg
  have q3 : bits .andNot .u64 (d : Int) (h : Int) = ((d &&& (18446744073709551615 - h) : Nat) : Int) := u64_andNot_nat _ _ hd hh
  generalize (a &&& (18446744073709551615 - e) : Nat) = x0 at q0 ⊢
  generalize (b &&& (18446744073709551615 - f) : Nat) = x1 at q1 ⊢
  generalize (c &&& (18446744073709551615 - g) : Nat) = x2 at q2 ⊢
  generalize (d &&& (18446744073709551615 - h) : Nat) = x3 at q3 ⊢
  obtain ⟨W1, hW1, hB1, hs1, hk1⟩ := newBlk w _ rfl #[.int .u64 (a : Nat), .int .u64 (b : Nat), .int .u64 (c : Nat), .int .u64 (d : Nat)] 126
  obtain ⟨W2, hW2, hB2, hs2, hk2⟩ := newBlk W1 _ hs1 #[.int .u64 (e : Nat), .int .u64 (f : Nat), .int .u64 (g : Nat), .int .u64 (h : Nat)] 126
  obtain ⟨W3, hW3, hB3, hs3, hk3⟩ := newBlk W2 _ hs2 #[.int .u64 0, .int .u64 0, .int .u64 0, .int .u64 0] 126
  have hB : Below w.heap.size w W3 := (hB1.trans (hB2.mono (by omega))).trans (hB3.mono (by omega))
  have hk13 := (hB3.block w.heap.size (by omega)).trans ((hB2.block w.heap.size (by omega)).trans hk1)
  have hk23 := (hB3.block (w.heap.size + 1) (by omega)).trans hk2
  have HB := Lib.hid hB
  unfold wv
  clear hB hB1 hB2 hB3 hk1 hk2
  go_enter Tryz.func118, Tryz.ntmps118
  go_wp2_with fail
  go_loopw [6] (fun i wr => wr.heap[w.heap.size + 1]? = some (.cells #[.int .u64 (e : Nat), .int .u64 (f : Nat), .int .u64 (g : Nat), .int .u64 (h : Nat)] 126) ∧ (∃ v, wr.heap[w.heap.size + 1 + 1]? = some (.cells v 126) ∧ v.size = 4) ∧ Below w.heap.size w wr ∧ ((i = .int .i64 0 ∧ wr.heap[w.heap.size]? = some (.cells #[.int .u64 (a : Nat), .int .u64 (b : Nat), .int .u64 (c : Nat), .int .u64 (d : Nat)] 126)) ∨ (i = .int .i64 1 ∧ wr.heap[w.heap.size]? = some (.cells #[.int .u64 (x0 : Nat), .int .u64 (b : Nat), .int .u64 (c : Nat), .int .u64 (d : Nat)] 126)) ∨ (i = .int .i64 2 ∧ wr.heap[w.heap.size]? = some (.cells #[.int .u64 (x0 : Nat), .int .u64 (x1 : Nat), .int .u64 (c : Nat), .int .u64 (d : Nat)] 126)) ∨ (i = .int .i64 3 ∧ wr.heap[w.heap.size]? = some (.cells #[.int .u64 (x0 : Nat), .int .u64 (x1 : Nat), .int .u64 (x2 : Nat), .int .u64 (d : Nat)] 126)) ∨ (i = .int .i64 4 ∧ wr.heap[w.heap.size]? = some (.cells #[.int .u64 (x0 : Nat), .int .u64 (x1 : Nat), .int .u64 (x2 : Nat), .int .u64 (x3 : Nat)] 126)))) (fun i _ => 4 - (intOf i).toNat)
  case atStart => exact ⟨hk23, ⟨_, hk3, rfl⟩, HB.out, .inl ⟨rfl, hk13⟩⟩
  case round =>
    obtain ⟨hkB, ⟨vr, hkR, hvr⟩, hbw, hinv⟩ := hrel
    have e0 := cell_of_blk hkB 0
    have e1 := cell_of_blk hkB 1
    have e2 := cell_of_blk hkB 2
    have e3 := cell_of_blk hkB 3
    simp only [List.getElem?_toArray, List.getElem?_cons_zero, List.getElem?_cons_succ] at e0 e1 e2 e3
    rcases hinv with ⟨rfl, hkA⟩ | ⟨rfl, hkA⟩ | ⟨rfl, hkA⟩ | ⟨rfl, hkA⟩ | ⟨rfl, hkA⟩
    · have c0 := cell_of_blk hkA 0
      have c1 := cell_of_blk hkA 1
      have c2 := cell_of_blk hkA 2
      have c3 := cell_of_blk hkA 3
      have f0 := frozen_of_blk hkA 0
      simp only [List.getElem?_toArray, List.getElem?_cons_zero, List.getElem?_cons_succ] at c0 c1 c2 c3
      go_wp2_with fail
      go_region
      go_wp2
      go_roundw
      case rel =>
        have z1 := blk_off hkB (grown_set wr w.heap.size 0 (.int .u64 (x0 : Nat))) (by omega)
        have z2 := blk_off hkR (grown_set wr w.heap.size 0 (.int .u64 (x0 : Nat))) (by omega)
        exact ⟨z1, ⟨vr, z2, hvr⟩, (hbw.setCell (p := ⟨w.heap.size, 0, none⟩) (Nat.le_refl _) (.int .u64 (x0 : Nat))).drew, .inr (.inl ⟨rfl, blk_set hkA 0 (.int .u64 (x0 : Nat))⟩)⟩
      case measure => simp [intOf]
    · have c0 := cell_of_blk hkA 0
      have c1 := cell_of_blk hkA 1
      have c2 := cell_of_blk hkA 2
      have c3 := cell_of_blk hkA 3
      have f0 := frozen_of_blk hkA 1
      simp only [List.getElem?_toArray, List.getElem?_cons_zero, List.getElem?_cons_succ] at c0 c1 c2 c3
      go_wp2_with fail
      go_region
      go_wp2
      go_roundw
      case rel =>
        have z1 := blk_off hkB (grown_set wr w.heap.size 1 (.int .u64 (x1 : Nat))) (by omega)
        have z2 := blk_off hkR (grown_set wr w.heap.size 1 (.int .u64 (x1 : Nat))) (by omega)
        exact ⟨z1, ⟨vr, z2, hvr⟩, (hbw.setCell (p := ⟨w.heap.size, 1, none⟩) (Nat.le_refl _) (.int .u64 (x1 : Nat))).drew, .inr (.inr (.inl ⟨rfl, blk_set hkA 1 (.int .u64 (x1 : Nat))⟩))⟩
      case measure => simp [intOf]
    · have c0 := cell_of_blk hkA 0
      have c1 := cell_of_blk hkA 1
      have c2 := cell_of_blk hkA 2
      have c3 := cell_of_blk hkA 3
      have f0 := frozen_of_blk hkA 2
      simp only [List.getElem?_toArray, List.getElem?_cons_zero, List.getElem?_cons_succ] at c0 c1 c2 c3
      go_wp2_with fail
      go_region
      go_wp2
      go_roundw
      case rel =>
        have z1 := blk_off hkB (grown_set wr w.heap.size 2 (.int .u64 (x2 : Nat))) (by omega)
        have z2 := blk_off hkR (grown_set wr w.heap.size 2 (.int .u64 (x2 : Nat))) (by omega)
        exact ⟨z1, ⟨vr, z2, hvr⟩, (hbw.setCell (p := ⟨w.heap.size, 2, none⟩) (Nat.le_refl _) (.int .u64 (x2 : Nat))).drew, .inr (.inr (.inr (.inl ⟨rfl, blk_set hkA 2 (.int .u64 (x2 : Nat))⟩)))⟩
      case measure => simp [intOf]
    · have c0 := cell_of_blk hkA 0
      have c1 := cell_of_blk hkA 1
      have c2 := cell_of_blk hkA 2
      have c3 := cell_of_blk hkA 3
      have f0 := frozen_of_blk hkA 3
      simp only [List.getElem?_toArray, List.getElem?_cons_zero, List.getElem?_cons_succ] at c0 c1 c2 c3
      go_wp2_with fail
      go_region
      go_wp2
      go_roundw
      case rel =>
        have z1 := blk_off hkB (grown_set wr w.heap.size 3 (.int .u64 (x3 : Nat))) (by omega)
        have z2 := blk_off hkR (grown_set wr w.heap.size 3 (.int .u64 (x3 : Nat))) (by omega)
        exact ⟨z1, ⟨vr, z2, hvr⟩, (hbw.setCell (p := ⟨w.heap.size, 3, none⟩) (Nat.le_refl _) (.int .u64 (x3 : Nat))).drew, .inr (.inr (.inr (.inr (⟨rfl, blk_set hkA 3 (.int .u64 (x3 : Nat))⟩))))⟩
      case measure => simp [intOf]
    · have c0 := cell_of_blk hkA 0
      have c1 := cell_of_blk hkA 1
      have c2 := cell_of_blk hkA 2
      have c3 := cell_of_blk hkA 3
      have f0 := frozen_of_blk hkR 0
      have f1 := frozen_of_blk hkR 1
      have f2 := frozen_of_blk hkR 2
      have f3 := frozen_of_blk hkR 3
      obtain ⟨rl⟩ := vr
      match rl, hvr with
      | [y0, y1, y2, y3], _ =>
        have d0 := cell_of_blk hkR 0
        have d1 := cell_of_blk hkR 1
        have d2 := cell_of_blk hkR 2
        have d3 := cell_of_blk hkR 3
        simp only [List.getElem?_toArray, List.getElem?_cons_zero, List.getElem?_cons_succ] at c0 c1 c2 c3 d0 d1 d2 d3
        obtain ⟨q1', q2'⟩ := store4 hkR (.int .u64 (x0 : Nat)) (.int .u64 (x1 : Nat)) (.int .u64 (x2 : Nat)) (.int .u64 (x3 : Nat))
        have hb4 := hbw.trans (below_grown q2' (by omega) hbw.size)
        go_wp2
        generalize ((((wr.setCell ⟨w.heap.size + 1 + 1, 0, none⟩ (.int .u64 (x0 : Nat))).setCell ⟨w.heap.size + 1 + 1, 1, none⟩ (.int .u64 (x1 : Nat))).setCell ⟨w.heap.size + 1 + 1, 2, none⟩ (.int .u64 (x2 : Nat))).setCell ⟨w.heap.size + 1 + 1, 3, none⟩ (.int .u64 (x3 : Nat))) = w5 at q1' hb4 ⊢
        have t0 := cell_of_blk q1' 0
        have t1 := cell_of_blk q1' 1
        have t2 := cell_of_blk q1' 2
        have t3 := cell_of_blk q1' 3
        simp only [List.getElem?_toArray, List.getElem?_cons_zero, List.getElem?_cons_succ] at t0 t1 t2 t3
        refine bodyPost_ret (v := _) (by simp [results, Tryz.f118, go_sem, t0, t1, t2, t3]) rfl ⟨rfl, hb4⟩
theorem bAnd_any (p q : Nat → Bool) (w : World) : Calls Tryz.prog 119 #[sv p, sv q] w fun x w' => x = .returned (sv fun i => p i && q i) ∧ Below w.heap.size w w' := by
  refine (bAnd_raw _ _ _ _ _ _ _ _ (bw_lt64 _) (bw_lt64 _) (bw_lt64 _) (bw_lt64 _) (bw_lt64 _) (bw_lt64 _) (bw_lt64 _) (bw_lt64 _) w).mono ?_
  rintro x w' ⟨rfl, hb⟩
  exact ⟨by unfold sv; rw [bw_and, bw_and, bw_and, bw_and], hb⟩
theorem bOr_any (p q : Nat → Bool) (w : World) : Calls Tryz.prog 120 #[sv p, sv q] w fun x w' => x = .returned (sv fun i => p i || q i) ∧ Below w.heap.size w w' := by
  refine (bOr_raw _ _ _ _ _ _ _ _ (bw_lt64 _) (bw_lt64 _) (bw_lt64 _) (bw_lt64 _) (bw_lt64 _) (bw_lt64 _) (bw_lt64 _) (bw_lt64 _) w).mono ?_
  rintro x w' ⟨rfl, hb⟩
  exact ⟨by unfold sv; rw [bw_or, bw_or, bw_or, bw_or], hb⟩
theorem bMinus_any (p q : Nat → Bool) (w : World) : Calls Tryz.prog 118 #[sv p, sv q] w fun x w' => x = .returned (sv fun i => p i && !q i) ∧ Below w.heap.size w w' := by
  refine (bMinus_raw _ _ _ _ _ _ _ _ (bw_lt64 _) (bw_lt64 _) (bw_lt64 _) (bw_lt64 _) (bw_lt64 _) (bw_lt64 _) (bw_lt64 _) (bw_lt64 _) w).mono ?_
  rintro x w' ⟨rfl, hb⟩
  exact ⟨by unfold sv; rw [bw_minus, bw_minus, bw_minus, bw_minus], hb⟩
set_option maxRecDepth 100000 in
set_option maxHeartbeats 1000000 in
theorem bHas_raw (a b c d q r : Nat) (ha : a < 18446744073709551616) (hb : b < 18446744073709551616) (hc : c < 18446744073709551616) (hd : d < 18446744073709551616) (hq : q < 4) (hr : r < 64) (w : World) :
    Calls Tryz.prog 75 #[wv a b c d, .int .i64 ((64 * q + r : Nat) : Int)] w fun x w' => x = .returned (.bool (if q = 0 then a.testBit r else if q = 1 then b.testBit r else if q = 2 then c.testBit r else d.testBit r)) ∧ Below w.heap.size w w' := by
  have h1 : (((64 * q + r : Nat) : Int)).tdiv 64 = q := by rw [Int.tdiv_eq_ediv_of_nonneg (by omega)]; omega
  have h2 : (((64 * q + r : Nat) : Int)).tmod 64 = r := by rw [Int.tmod_eq_emod_of_nonneg (by omega)]; omega
  have han : ∀ x : Nat, x < 18446744073709551616 → bits .and .u64 ((x : Int) / (2 : Int) ^ r) 1 = ((x / 2 ^ r % 2 : Nat) : Int) := fun x hx => by
    rw [pow_cast, show (x : Int) / ((2 ^ r : Nat) : Int) = ((x / 2 ^ r : Nat) : Int) from rfl]
    have := u64_and_nat (x / 2 ^ r) 1 (Nat.lt_of_le_of_lt (Nat.div_le_self _ _) hx) (by omega)
    rw [nat_mask1] at this
    exact this
  have htb : ∀ x : Nat, (((x / 2 ^ r % 2 : Nat) : Int) == 1) = x.testBit r := fun x => by
    rw [Nat.testBit_eq_decide_div_mod_eq, Bool.eq_iff_iff]
    simp only [beq_iff_eq, decide_eq_true_eq]
    omega
  obtain ⟨W1, hW1, hB1, hs1, hk1⟩ := newBlk w _ rfl #[.int .u64 a, .int .u64 b, .int .u64 c, .int .u64 d] 126
  have a0 := cell_of_blk hk1 0
  have a1 := cell_of_blk hk1 1
  have a2 := cell_of_blk hk1 2
  have a3 := cell_of_blk hk1 3
  simp only [List.getElem?_toArray, List.getElem?_cons_zero, List.getElem?_cons_succ] at a0 a1 a2 a3
  have h0I : (0 : Int) ≤ r := by omega
  have hrI : (r : Int) < 64 := by omega
  have hrn : ¬ ((r : Int) < 0) := by omega
  have hmin : min r 64 = r := by omega
  have HB := Lib.hid hB1
  generalize hz : ((64 * q + r : Nat) : Int) = z at h1 h2 ⊢
  clear hz hB1 hk1
  unfold wv
  rcases (show q = 0 ∨ q = 1 ∨ q = 2 ∨ q = 3 by omega) with rfl | rfl | rfl | rfl <;> simp only [Nat.reduceEqDiff, if_true, if_false, Nat.one_ne_zero]
  · have e2 := han a ha
    have e3 := htb a
    rw [← e3]
    clear e3
    generalize (a / 2 ^ r % 2 : Nat) = y at e2 ⊢
    clear han htb
    go_enter Tryz.func75, Tryz.ntmps75
    go_wp2_with fail
    go_ret
    exact ⟨rfl, HB.out⟩
  · have e2 := han b hb
    have e3 := htb b
    rw [← e3]
    clear e3
    generalize (b / 2 ^ r % 2 : Nat) = y at e2 ⊢
    clear han htb
    go_enter Tryz.func75, Tryz.ntmps75
    go_wp2_with fail
    go_ret
    exact ⟨rfl, HB.out⟩
  · have e2 := han c hc
    have e3 := htb c
    rw [← e3]
    clear e3
    generalize (c / 2 ^ r % 2 : Nat) = y at e2 ⊢
    clear han htb
    go_enter Tryz.func75, Tryz.ntmps75
    go_wp2_with fail
    go_ret
    exact ⟨rfl, HB.out⟩
  · have e2 := han d hd
    have e3 := htb d
    rw [← e3]
    clear e3
    generalize (d / 2 ^ r % 2 : Nat) = y at e2 ⊢
    clear han htb
    go_enter Tryz.func75, Tryz.ntmps75
    go_wp2_with fail
    go_ret
    exact ⟨rfl, HB.out⟩
theorem bHas_any (p : Nat → Bool) (e : Nat) (he : e < 256) (w : World) : Calls Tryz.prog 75 #[sv p, .int .i64 (e : Nat)] w fun x w' => x = .returned (.bool (p e)) ∧ Below w.heap.size w w' := by
  obtain ⟨q, r, hq, hr, rfl⟩ : ∃ q r, q < 4 ∧ r < 64 ∧ e = 64 * q + r := ⟨e / 64, e % 64, by omega, by omega, by omega⟩
  refine (bHas_raw _ _ _ _ q r (bw_lt64 _) (bw_lt64 _) (bw_lt64 _) (bw_lt64 _) hq hr w).mono ?_
  rintro x w' ⟨rfl, hb⟩
  refine ⟨?_, hb⟩
  rw [bw_bit, bw_bit, bw_bit, bw_bit]
  rcases (show q = 0 ∨ q = 1 ∨ q = 2 ∨ q = 3 by omega) with rfl | rfl | rfl | rfl <;> simp [hr]
set_option maxRecDepth 100000 in
theorem idxSet (a b c d : Nat) (w : World) : (Instr.index 126 (.agg #[.int .u64 (a : Nat), .int .u64 (b : Nat), .int .u64 (c : Nat), .int .u64 (d : Nat)]) (.int .i64 0)).run Tryz.prog w = .ok (.int .u64 (a : Nat)) w ∧
    (Instr.index 126 (.agg #[.int .u64 (a : Nat), .int .u64 (b : Nat), .int .u64 (c : Nat), .int .u64 (d : Nat)]) (.int .i64 1)).run Tryz.prog w = .ok (.int .u64 (b : Nat)) w ∧
    (Instr.index 126 (.agg #[.int .u64 (a : Nat), .int .u64 (b : Nat), .int .u64 (c : Nat), .int .u64 (d : Nat)]) (.int .i64 2)).run Tryz.prog w = .ok (.int .u64 (c : Nat)) w ∧
    (Instr.index 126 (.agg #[.int .u64 (a : Nat), .int .u64 (b : Nat), .int .u64 (c : Nat), .int .u64 (d : Nat)]) (.int .i64 3)).run Tryz.prog w = .ok (.int .u64 (d : Nat)) w := by
  have u3 := Tryz.underlying124
  have a3 := Tryz.isAgg124
  have z3 := Tryz.sizeOf124
  refine ⟨?_, ?_, ?_, ?_⟩ <;>
  · rw [Instr.index]
    simp only [Sem.run_bind, run_underlying Tryz.underlying126, Result.andThen_ok, asIntOf, Sem.run_pure]
    go_simp

set_option maxRecDepth 100000 in
set_option maxHeartbeats 4000000 in
theorem all1_stopsE (encs : Nat → Array Value) (Kp : World → World → Prop) (hKG : ∀ W W', Kp W W' → GT W → GT W') (n Bt : Nat) (p : Nat → Bool) (henc : ∀ e, e < 256 → p e = true → encs e = #[.int .i64 (e : Nat)]) (w : World) (hG : GT w)
    (hBt : w.heap[Bt]? = some (.cells #[.int .u64 (wdp p 0 : Nat), .int .u64 (wdp p 1 : Nat), .int .u64 (wdp p 2 : Nat), .int .u64 (wdp p 3 : Nat)] 126)) :
    SeqStopsK Fence.wide n Tryz.prog 191 #[.pointer (some ⟨Bt, 0, none⟩)] encs Kp (fun ys => ys = elsF p 0) (fun pre => pre <+: elsF p 0) (elsF p 0).length w := by
  intro l J Jx W hW hJ hJx hY h0
  have hblt : Bt < w.heap.size := (Array.getElem?_eq_some_iff.1 hBt).1
  have hB := (hW.block Bt hblt).trans hBt
  have hGW := hG.later hW
  have q0 := cutW_zero p 0
  have q1 := cutW_zero p 1
  have q2 := cutW_zero p 2
  have q3 := cutW_zero p 3
  obtain ⟨a, ha⟩ : ∃ a, wdp p 0 = a := ⟨_, rfl⟩
  obtain ⟨b, hb⟩ : ∃ a, wdp p 1 = a := ⟨_, rfl⟩
  obtain ⟨c, hc⟩ : ∃ a, wdp p 2 = a := ⟨_, rfl⟩
  obtain ⟨d, hd⟩ : ∃ a, wdp p 3 = a := ⟨_, rfl⟩
  rw [ha, hb, hc, hd] at hB
  rw [ha] at q0
  rw [hb] at q1
  rw [hc] at q2
  rw [hd] at q3
  have c0 := cell_of_blk hB 0
  have c1 := cell_of_blk hB 1
  have c2 := cell_of_blk hB 2
  have c3 := cell_of_blk hB 3
  simp only [List.getElem?_toArray, List.getElem?_cons_zero, List.getElem?_cons_succ] at c0 c1 c2 c3
  have hdd : ∀ k : Nat, (Fence.wide.depth.isSome = true → 1 ≤ k) := fun k h => by cases h
  have Q0 := Lib.hid q0
  have Q1 := Lib.hid q1
  have Q2 := Lib.hid q2
  have Q3 := Lib.hid q3
  have HY := Lib.hid hY
  clear q0 q1 q2 q3 ha hb hc hd hB hBt hY
  have i0 := fun w => (idxSet a b c d w).1
  have i1 := fun w => (idxSet a b c d w).2.1
  have i2 := fun w => (idxSet a b c d w).2.2.1
  have i3 := fun w => (idxSet a b c d w).2.2.2
  refine callsIn_of_wp Tryz.func191 rfl trivial ?_ rfl
  simp only [Tryz.ntmps191, List.size_toArray, List.length_cons, List.length_nil, Nat.reduceAdd, Nat.reduceSub, Array.replicate_succ, Array.replicate_zero, List.push_toArray, List.append_toArray, List.nil_append, List.cons_append]
  gi_wp2_with fail
  gi_loopw [6] (fun i wr => ∃ (k : Nat) (pre : List Nat), ((k = 0 ∧ i = .int .i64 0) ∨ (k = 1 ∧ i = .int .i64 1) ∨ (k = 2 ∧ i = .int .i64 2) ∨ (k = 3 ∧ i = .int .i64 3) ∨ (k = 4 ∧ i = .int .i64 4)) ∧ pre ++ elsF p (64 * k) = elsF p 0 ∧ J pre wr ∧ GT wr) (fun i _ => 4 - (intOf i).toNat)
  case atStart => exact ⟨0, [], .inl ⟨rfl, rfl⟩, rfl, h0, hGW⟩
  case round =>
    obtain ⟨k, pre, hk, hpre, hJ1, hG1⟩ := hrel
    have HP := Lib.hid hpre
    have HJ1 := Lib.hid hJ1
    have HG1 := Lib.hid hG1
    clear hpre hJ1 hG1
    rcases hk with ⟨rfl, rfl⟩ | ⟨rfl, rfl⟩ | ⟨rfl, rfl⟩ | ⟨rfl, rfl⟩ | ⟨rfl, rfl⟩
    · gi_wp2_with fail
      gi_loopw [4] (fun x wr => ∃ (ct : Nat) (xv : Nat) (pre : List Nat), ct ≤ 64 ∧ x = .int .u64 (xv : Nat) ∧ cutW p 0 ct = xv ∧ pre ++ elsF p (64 * 0 + ct) = elsF p 0 ∧ J pre wr ∧ GT wr) (fun x _ => (intOf x).toNat)
      case atStart => exact ⟨0, a, pre, by omega, rfl, Q0.out, HP.out, HJ1.out, HG1.out⟩
      case round =>
        obtain ⟨ct, xv, pre2, hct, rfl, hcut, hpre2, hJ2, hG2⟩ := hrel
        have HP2 := Lib.hid hpre2
        have HJ2 := Lib.hid hJ2
        have HG2 := Lib.hid hG2
        have hxlt : xv < 18446744073709551616 := by rw [← hcut]; exact cutW_lt _ _ _
        have HC := Lib.hid hcut
        clear hpre2 hJ2 hG2 hcut
        rcases hx0 : ((xv : Int) != 0)
        · have hz : xv = 0 := by simpa using hx0
          have hend := cutW_end (HC.out.trans hz) (by omega) hct
          have HE := Lib.hid hend
          clear hend
          gi_wp2_with fail
          go_roundw
          case rel => exact ⟨1, pre2, .inr (.inl ⟨rfl, rfl⟩), by rw [← HE.out]; exact HP2.out, HJ2.out, HG2.out⟩
          case measure => simp [intOf]
        · have hnz : xv ≠ 0 := by simpa using hx0
          obtain ⟨j, y, hj, hpj, hpj', hl, hel, hand, hylt, hcy⟩ := cutW_step HC.out hnz (by omega) hct
          have htz := inW (tz64_any (fun j => p (64 * 0 + j) && decide (ct ≤ j)) j hj hpj' hl wr HG2.out) (n - 1)
          rw [show bw (fun j => p (64 * 0 + j) && decide (ct ≤ j)) 64 = xv from HC.out] at htz
          have hlen : pre2.length < (elsF p 0).length := by
            have := congrArg List.length HP2.out
            rw [List.length_append, hel, List.length_cons] at this
            omega
          have hy := HY.out pre2 (64 * 0 + j) wr HJ2.out hlen
          rw [henc _ (by omega) hpj] at hy
          obtain ⟨fn, tmps, assign, body, hy, hR⟩ := YieldAt.anyDepth rfl (n - 1) hy
          rw [show ((64 * 0 + j : Nat) : Int) = (j : Int) by omega] at hy
          have hsub : IntKind.u64.wrap ((xv : Int) - 1) = ((xv - 1 : Nat) : Int) := by rw [IntKind.wrap_u64]; omega
          have hand2 : bits .and .u64 (xv : Int) ((xv - 1 : Nat) : Int) = (y : Int) := by rw [u64_and_nat _ _ hxlt (by omega), hand]
          obtain ⟨x1, hx1⟩ : ∃ x1, xv - 1 = x1 := ⟨_, rfl⟩
          rw [hx1] at hsub hand2
          have HEL := Lib.hid hel
          have HCY := Lib.hid hcy
          have hj0 : (0 : Int) ≤ j := by omega
          have hj64 : (j : Int) < 64 := by omega
          clear hpj hpj' hl hel hand hcy hx1 hlen
          gi_wp2_with (first
            | (refine ⟨trivial, hdd _, ?_⟩; refine htz.mono ?_; clear htz; rintro e w' ⟨rfl, rfl⟩)
            | (refine ⟨hdd _, ?_⟩; refine hR.mono ?_; clear hR; rintro e W2 (⟨rfl, hJ3, hk3⟩ | ⟨rfl, hx3⟩)))
          · go_roundw
            case rel => exact ⟨j + 1, y, pre2 ++ [64 * 0 + j], by omega, by go_num, HCY.out, by rw [List.append_assoc, List.singleton_append, ← HEL.out]; exact HP2.out, hJ3, hKG _ _ hk3 HG2.out⟩
            case measure => simp [intOf]; omega
          · (try simp only [Exit.inBlock, Exit.then])
            refine bodyPost_ret (results_none rfl _ _ _) rfl ?_
            exact ⟨⟨_, rfl⟩, .inr ⟨pre2 ++ [64 * 0 + j], ⟨elsF p (64 * 0 + (j + 1)), by rw [List.append_assoc, List.singleton_append, ← HEL.out]; exact HP2.out⟩, hx3⟩⟩
    · gi_wp2_with fail
      gi_loopw [4] (fun x wr => ∃ (ct : Nat) (xv : Nat) (pre : List Nat), ct ≤ 64 ∧ x = .int .u64 (xv : Nat) ∧ cutW p 1 ct = xv ∧ pre ++ elsF p (64 * 1 + ct) = elsF p 0 ∧ J pre wr ∧ GT wr) (fun x _ => (intOf x).toNat)
      case atStart => exact ⟨0, b, pre, by omega, rfl, Q1.out, HP.out, HJ1.out, HG1.out⟩
      case round =>
        obtain ⟨ct, xv, pre2, hct, rfl, hcut, hpre2, hJ2, hG2⟩ := hrel
        have HP2 := Lib.hid hpre2
        have HJ2 := Lib.hid hJ2
        have HG2 := Lib.hid hG2
        have hxlt : xv < 18446744073709551616 := by rw [← hcut]; exact cutW_lt _ _ _
        have HC := Lib.hid hcut
        clear hpre2 hJ2 hG2 hcut
        rcases hx0 : ((xv : Int) != 0)
        · have hz : xv = 0 := by simpa using hx0
          have hend := cutW_end (HC.out.trans hz) (by omega) hct
          have HE := Lib.hid hend
          clear hend
          gi_wp2_with fail
          go_roundw
          case rel => exact ⟨2, pre2, .inr (.inr (.inl ⟨rfl, rfl⟩)), by rw [← HE.out]; exact HP2.out, HJ2.out, HG2.out⟩
          case measure => simp [intOf]
        · have hnz : xv ≠ 0 := by simpa using hx0
          obtain ⟨j, y, hj, hpj, hpj', hl, hel, hand, hylt, hcy⟩ := cutW_step HC.out hnz (by omega) hct
          have htz := inW (tz64_any (fun j => p (64 * 1 + j) && decide (ct ≤ j)) j hj hpj' hl wr HG2.out) (n - 1)
          rw [show bw (fun j => p (64 * 1 + j) && decide (ct ≤ j)) 64 = xv from HC.out] at htz
          have hlen : pre2.length < (elsF p 0).length := by
            have := congrArg List.length HP2.out
            rw [List.length_append, hel, List.length_cons] at this
            omega
          have hy := HY.out pre2 (64 * 1 + j) wr HJ2.out hlen
          rw [henc _ (by omega) hpj] at hy
          obtain ⟨fn, tmps, assign, body, hy, hR⟩ := YieldAt.anyDepth rfl (n - 1) hy
          rw [show ((64 * 1 + j : Nat) : Int) = 64 + (j : Int) by omega] at hy
          have hsub : IntKind.u64.wrap ((xv : Int) - 1) = ((xv - 1 : Nat) : Int) := by rw [IntKind.wrap_u64]; omega
          have hand2 : bits .and .u64 (xv : Int) ((xv - 1 : Nat) : Int) = (y : Int) := by rw [u64_and_nat _ _ hxlt (by omega), hand]
          obtain ⟨x1, hx1⟩ : ∃ x1, xv - 1 = x1 := ⟨_, rfl⟩
          rw [hx1] at hsub hand2
          have HEL := Lib.hid hel
          have HCY := Lib.hid hcy
          have hj0 : (0 : Int) ≤ j := by omega
          have hj64 : (j : Int) < 64 := by omega
          clear hpj hpj' hl hel hand hcy hx1 hlen
          gi_wp2_with (first
            | (refine ⟨trivial, hdd _, ?_⟩; refine htz.mono ?_; clear htz; rintro e w' ⟨rfl, rfl⟩)
            | (refine ⟨hdd _, ?_⟩; refine hR.mono ?_; clear hR; rintro e W2 (⟨rfl, hJ3, hk3⟩ | ⟨rfl, hx3⟩)))
          · go_roundw
            case rel => exact ⟨j + 1, y, pre2 ++ [64 * 1 + j], by omega, by go_num, HCY.out, by rw [List.append_assoc, List.singleton_append, ← HEL.out]; exact HP2.out, hJ3, hKG _ _ hk3 HG2.out⟩
            case measure => simp [intOf]; omega
          · (try simp only [Exit.inBlock, Exit.then])
            refine bodyPost_ret (results_none rfl _ _ _) rfl ?_
            exact ⟨⟨_, rfl⟩, .inr ⟨pre2 ++ [64 * 1 + j], ⟨elsF p (64 * 1 + (j + 1)), by rw [List.append_assoc, List.singleton_append, ← HEL.out]; exact HP2.out⟩, hx3⟩⟩
    · gi_wp2_with fail
      gi_loopw [4] (fun x wr => ∃ (ct : Nat) (xv : Nat) (pre : List Nat), ct ≤ 64 ∧ x = .int .u64 (xv : Nat) ∧ cutW p 2 ct = xv ∧ pre ++ elsF p (64 * 2 + ct) = elsF p 0 ∧ J pre wr ∧ GT wr) (fun x _ => (intOf x).toNat)
      case atStart => exact ⟨0, c, pre, by omega, rfl, Q2.out, HP.out, HJ1.out, HG1.out⟩
      case round =>
        obtain ⟨ct, xv, pre2, hct, rfl, hcut, hpre2, hJ2, hG2⟩ := hrel
        have HP2 := Lib.hid hpre2
        have HJ2 := Lib.hid hJ2
        have HG2 := Lib.hid hG2
        have hxlt : xv < 18446744073709551616 := by rw [← hcut]; exact cutW_lt _ _ _
        have HC := Lib.hid hcut
        clear hpre2 hJ2 hG2 hcut
        rcases hx0 : ((xv : Int) != 0)
        · have hz : xv = 0 := by simpa using hx0
          have hend := cutW_end (HC.out.trans hz) (by omega) hct
          have HE := Lib.hid hend
          clear hend
          gi_wp2_with fail
          go_roundw
          case rel => exact ⟨3, pre2, .inr (.inr (.inr (.inl ⟨rfl, rfl⟩))), by rw [← HE.out]; exact HP2.out, HJ2.out, HG2.out⟩
          case measure => simp [intOf]
        · have hnz : xv ≠ 0 := by simpa using hx0
          obtain ⟨j, y, hj, hpj, hpj', hl, hel, hand, hylt, hcy⟩ := cutW_step HC.out hnz (by omega) hct
          have htz := inW (tz64_any (fun j => p (64 * 2 + j) && decide (ct ≤ j)) j hj hpj' hl wr HG2.out) (n - 1)
          rw [show bw (fun j => p (64 * 2 + j) && decide (ct ≤ j)) 64 = xv from HC.out] at htz
          have hlen : pre2.length < (elsF p 0).length := by
            have := congrArg List.length HP2.out
            rw [List.length_append, hel, List.length_cons] at this
            omega
          have hy := HY.out pre2 (64 * 2 + j) wr HJ2.out hlen
          rw [henc _ (by omega) hpj] at hy
          obtain ⟨fn, tmps, assign, body, hy, hR⟩ := YieldAt.anyDepth rfl (n - 1) hy
          rw [show ((64 * 2 + j : Nat) : Int) = 128 + (j : Int) by omega] at hy
          have hsub : IntKind.u64.wrap ((xv : Int) - 1) = ((xv - 1 : Nat) : Int) := by rw [IntKind.wrap_u64]; omega
          have hand2 : bits .and .u64 (xv : Int) ((xv - 1 : Nat) : Int) = (y : Int) := by rw [u64_and_nat _ _ hxlt (by omega), hand]
          obtain ⟨x1, hx1⟩ : ∃ x1, xv - 1 = x1 := ⟨_, rfl⟩
          rw [hx1] at hsub hand2
          have HEL := Lib.hid hel
          have HCY := Lib.hid hcy
          have hj0 : (0 : Int) ≤ j := by omega
          have hj64 : (j : Int) < 64 := by omega
          clear hpj hpj' hl hel hand hcy hx1 hlen
          gi_wp2_with (first
            | (refine ⟨trivial, hdd _, ?_⟩; refine htz.mono ?_; clear htz; rintro e w' ⟨rfl, rfl⟩)
            | (refine ⟨hdd _, ?_⟩; refine hR.mono ?_; clear hR; rintro e W2 (⟨rfl, hJ3, hk3⟩ | ⟨rfl, hx3⟩)))
          · go_roundw
            case rel => exact ⟨j + 1, y, pre2 ++ [64 * 2 + j], by omega, by go_num, HCY.out, by rw [List.append_assoc, List.singleton_append, ← HEL.out]; exact HP2.out, hJ3, hKG _ _ hk3 HG2.out⟩
            case measure => simp [intOf]; omega
          · (try simp only [Exit.inBlock, Exit.then])
            refine bodyPost_ret (results_none rfl _ _ _) rfl ?_
            exact ⟨⟨_, rfl⟩, .inr ⟨pre2 ++ [64 * 2 + j], ⟨elsF p (64 * 2 + (j + 1)), by rw [List.append_assoc, List.singleton_append, ← HEL.out]; exact HP2.out⟩, hx3⟩⟩
    · gi_wp2_with fail
      gi_loopw [4] (fun x wr => ∃ (ct : Nat) (xv : Nat) (pre : List Nat), ct ≤ 64 ∧ x = .int .u64 (xv : Nat) ∧ cutW p 3 ct = xv ∧ pre ++ elsF p (64 * 3 + ct) = elsF p 0 ∧ J pre wr ∧ GT wr) (fun x _ => (intOf x).toNat)
      case atStart => exact ⟨0, d, pre, by omega, rfl, Q3.out, HP.out, HJ1.out, HG1.out⟩
      case round =>
        obtain ⟨ct, xv, pre2, hct, rfl, hcut, hpre2, hJ2, hG2⟩ := hrel
        have HP2 := Lib.hid hpre2
        have HJ2 := Lib.hid hJ2
        have HG2 := Lib.hid hG2
        have hxlt : xv < 18446744073709551616 := by rw [← hcut]; exact cutW_lt _ _ _
        have HC := Lib.hid hcut
        clear hpre2 hJ2 hG2 hcut
        rcases hx0 : ((xv : Int) != 0)
        · have hz : xv = 0 := by simpa using hx0
          have hend := cutW_end (HC.out.trans hz) (by omega) hct
          have HE := Lib.hid hend
          clear hend
          gi_wp2_with fail
          go_roundw
          case rel => exact ⟨4, pre2, .inr (.inr (.inr (.inr (⟨rfl, rfl⟩)))), by rw [← HE.out]; exact HP2.out, HJ2.out, HG2.out⟩
          case measure => simp [intOf]
        · have hnz : xv ≠ 0 := by simpa using hx0
          obtain ⟨j, y, hj, hpj, hpj', hl, hel, hand, hylt, hcy⟩ := cutW_step HC.out hnz (by omega) hct
          have htz := inW (tz64_any (fun j => p (64 * 3 + j) && decide (ct ≤ j)) j hj hpj' hl wr HG2.out) (n - 1)
          rw [show bw (fun j => p (64 * 3 + j) && decide (ct ≤ j)) 64 = xv from HC.out] at htz
          have hlen : pre2.length < (elsF p 0).length := by
            have := congrArg List.length HP2.out
            rw [List.length_append, hel, List.length_cons] at this
            omega
          have hy := HY.out pre2 (64 * 3 + j) wr HJ2.out hlen
          rw [henc _ (by omega) hpj] at hy
          obtain ⟨fn, tmps, assign, body, hy, hR⟩ := YieldAt.anyDepth rfl (n - 1) hy
          rw [show ((64 * 3 + j : Nat) : Int) = 192 + (j : Int) by omega] at hy
          have hsub : IntKind.u64.wrap ((xv : Int) - 1) = ((xv - 1 : Nat) : Int) := by rw [IntKind.wrap_u64]; omega
          have hand2 : bits .and .u64 (xv : Int) ((xv - 1 : Nat) : Int) = (y : Int) := by rw [u64_and_nat _ _ hxlt (by omega), hand]
          obtain ⟨x1, hx1⟩ : ∃ x1, xv - 1 = x1 := ⟨_, rfl⟩
          rw [hx1] at hsub hand2
          have HEL := Lib.hid hel
          have HCY := Lib.hid hcy
          have hj0 : (0 : Int) ≤ j := by omega
          have hj64 : (j : Int) < 64 := by omega
          clear hpj hpj' hl hel hand hcy hx1 hlen
          gi_wp2_with (first
            | (refine ⟨trivial, hdd _, ?_⟩; refine htz.mono ?_; clear htz; rintro e w' ⟨rfl, rfl⟩)
            | (refine ⟨hdd _, ?_⟩; refine hR.mono ?_; clear hR; rintro e W2 (⟨rfl, hJ3, hk3⟩ | ⟨rfl, hx3⟩)))
          · go_roundw
            case rel => exact ⟨j + 1, y, pre2 ++ [64 * 3 + j], by omega, by go_num, HCY.out, by rw [List.append_assoc, List.singleton_append, ← HEL.out]; exact HP2.out, hJ3, hKG _ _ hk3 HG2.out⟩
            case measure => simp [intOf]; omega
          · (try simp only [Exit.inBlock, Exit.then])
            refine bodyPost_ret (results_none rfl _ _ _) rfl ?_
            exact ⟨⟨_, rfl⟩, .inr ⟨pre2 ++ [64 * 3 + j], ⟨elsF p (64 * 3 + (j + 1)), by rw [List.append_assoc, List.singleton_append, ← HEL.out]; exact HP2.out⟩, hx3⟩⟩
    · gi_wp2_with fail
      go_end0
      refine ⟨⟨_, rfl⟩, .inl ⟨pre, ?_, HJ1.out⟩⟩
      have := HP.out
      rw [show 64 * 4 = 256 from rfl, elsF_end, List.append_nil] at this
      exact this
theorem bWith_sw {p : Nat → Bool} {a b c d : Nat} (h : SW p a b c d) (e : Nat) (he : e < 256) (w : World) : Calls Tryz.prog 156 #[.agg #[.int .u64 (a : Nat), .int .u64 (b : Nat), .int .u64 (c : Nat), .int .u64 (d : Nat)], .int .i64 (e : Nat)] w (RetS3 (fun i => p i || i == e) w) := by
  have := bWith_any p e he w
  rw [h.sv] at this
  exact this.mono fun _ _ h => RetS3.of h
theorem bAnd_sw {p q : Nat → Bool} {a b c d e f g k : Nat} (h : SW p a b c d) (h' : SW q e f g k) (w : World) : Calls Tryz.prog 119 #[.agg #[.int .u64 (a : Nat), .int .u64 (b : Nat), .int .u64 (c : Nat), .int .u64 (d : Nat)], .agg #[.int .u64 (e : Nat), .int .u64 (f : Nat), .int .u64 (g : Nat), .int .u64 (k : Nat)]] w (RetS3 (fun i => p i && q i) w) := by
  have := bAnd_any p q w
  rw [h.sv, h'.sv] at this
  exact this.mono fun _ _ h => RetS3.of h
theorem bOr_sw {p q : Nat → Bool} {a b c d e f g k : Nat} (h : SW p a b c d) (h' : SW q e f g k) (w : World) : Calls Tryz.prog 120 #[.agg #[.int .u64 (a : Nat), .int .u64 (b : Nat), .int .u64 (c : Nat), .int .u64 (d : Nat)], .agg #[.int .u64 (e : Nat), .int .u64 (f : Nat), .int .u64 (g : Nat), .int .u64 (k : Nat)]] w (RetS3 (fun i => p i || q i) w) := by
  have := bOr_any p q w
  rw [h.sv, h'.sv] at this
  exact this.mono fun _ _ h => RetS3.of h
theorem bMinus_sw {p q : Nat → Bool} {a b c d e f g k : Nat} (h : SW p a b c d) (h' : SW q e f g k) (w : World) : Calls Tryz.prog 118 #[.agg #[.int .u64 (a : Nat), .int .u64 (b : Nat), .int .u64 (c : Nat), .int .u64 (d : Nat)], .agg #[.int .u64 (e : Nat), .int .u64 (f : Nat), .int .u64 (g : Nat), .int .u64 (k : Nat)]] w (RetS3 (fun i => p i && !q i) w) := by
  have := bMinus_any p q w
  rw [h.sv, h'.sv] at this
  exact this.mono fun _ _ h => RetS3.of h
theorem bHas_sw {p : Nat → Bool} {a b c d : Nat} (h : SW p a b c d) (e : Nat) (he : e < 256) (w : World) : Calls Tryz.prog 75 #[.agg #[.int .u64 (a : Nat), .int .u64 (b : Nat), .int .u64 (c : Nat), .int .u64 (d : Nat)], .int .i64 (e : Nat)] w fun x w' => x = .returned (.bool (p e)) ∧ Below w.heap.size w w' := by
  have := bHas_any p e he w
  rw [h.sv] at this
  exact this
set_option maxHeartbeats 1000000 in
/-- The iterator of a set: the closure and its box. -/
theorem bAll_any (a b c d : Nat) (w : World) :
    Calls Tryz.prog 155 #[.agg #[.int .u64 (a : Nat), .int .u64 (b : Nat), .int .u64 (c : Nat), .int .u64 (d : Nat)]] w fun e w' => e = .returned (.func (.func 191) #[] #[.pointer (some ⟨w.heap.size, 0, none⟩)]) ∧ w' = w.alloc (.cells #[.int .u64 (a : Nat), .int .u64 (b : Nat), .int .u64 (c : Nat), .int .u64 (d : Nat)] 126) := by
  go_enter Tryz.func155, Tryz.ntmps155
  go_wp2
  go_ret
  exact ⟨rfl, rfl⟩
theorem all1_swE (encs : Nat → Array Value) (Kp : World → World → Prop) (hKG : ∀ W W', Kp W W' → GT W → GT W') (n Bt : Nat) {p : Nat → Bool} {a b c d : Nat} (henc : ∀ e, e < 256 → p e = true → encs e = #[.int .i64 (e : Nat)]) (hs : SW p a b c d) (w : World) (hG : GT w)
    (hBt : w.heap[Bt]? = some (.cells #[.int .u64 (a : Nat), .int .u64 (b : Nat), .int .u64 (c : Nat), .int .u64 (d : Nat)] 126)) :
    SeqStopsK Fence.wide n Tryz.prog 191 #[.pointer (some ⟨Bt, 0, none⟩)] encs Kp (fun ys => ys = elsF p 0) (fun pre => pre <+: elsF p 0) (elsF p 0).length w :=
  all1_stopsE encs Kp hKG n Bt p henc w hG (by rw [hs.a, hs.b, hs.c, hs.d]; exact hBt)

set_option maxRecDepth 100000 in
set_option maxHeartbeats 2000000 in
theorem bBelow_any (n : Nat) (hn : n ≤ 256) (w : World) : Calls Tryz.prog 154 #[.int .i64 (n : Nat)] w (RetS3 (fun i => decide (i < n)) w) := by
  obtain ⟨W1, hW1, hB1, hs1, hk1⟩ := newBlk w _ rfl #[.int .u64 0, .int .u64 0, .int .u64 0, .int .u64 0] 126
  obtain ⟨W2, hW2, hB2, hs2, hk2⟩ := newBlk W1 _ hs1 #[.int .u64 0, .int .u64 0, .int .u64 0, .int .u64 0] 126
  have hB : Below w.heap.size w W2 := hB1.trans (hB2.mono (by omega))
  have hk12 := (hB2.block w.heap.size (by omega)).trans hk1
  have HB := Lib.hid hB
  have h00 : SW (fun i => decide (i < 0)) 0 0 0 0 := sw_none.ext fun i _ => by simp
  clear hB hB1 hB2 hk1
  go_enter Tryz.func154, Tryz.ntmps154
  go_wp2_with fail
  go_loopw [6] (fun i wr => ∃ (k : Nat) (a b c d : Nat), k ≤ n ∧ i = .int .i64 k ∧ SW (fun i => decide (i < k)) a b c d ∧ wr.heap[w.heap.size + 1]? = some (.cells #[.int .u64 (a : Nat), .int .u64 (b : Nat), .int .u64 (c : Nat), .int .u64 (d : Nat)] 126) ∧ wr.heap[w.heap.size]? = some (.cells #[.int .u64 0, .int .u64 0, .int .u64 0, .int .u64 0] 126) ∧ Below w.heap.size w wr) (fun i _ => n - (intOf i).toNat)
  case atStart => exact ⟨0, 0, 0, 0, 0, Nat.zero_le _, rfl, h00, hk2, hk12, HB.out⟩
  case round =>
    obtain ⟨k, a, b, c, d, hk, rfl, hsw, hkS, hkR, hbw⟩ := hrel
    have s0 := cell_of_blk hkS 0
    have s1 := cell_of_blk hkS 1
    have s2 := cell_of_blk hkS 2
    have s3 := cell_of_blk hkS 3
    simp only [List.getElem?_toArray, List.getElem?_cons_zero, List.getElem?_cons_succ] at s0 s1 s2 s3
    by_cases hlt : k < n
    · have hlI : (k : Int) < n := by omega
      have hwi := bWith_sw hsw k (by omega) wr
      have HSW := Lib.hid hsw
      clear hsw
      go_wp2_with (go_at_call 156; refine hwi.mono ?_; clear hwi; rintro x w3 ⟨a', b', c', d', rfl, hsw', hb3⟩; have hk3 := blk_lat hkS hb3; have hkR3 := blk_lat hkR hb3; have t0 := cell_of_blk hk3 0; have t1 := cell_of_blk hk3 1; have t2 := cell_of_blk hk3 2; have t3 := cell_of_blk hk3 3; have f0 := frozen_of_blk hk3 0; have f1 := frozen_of_blk hk3 1; have f2 := frozen_of_blk hk3 2; have f3 := frozen_of_blk hk3 3; simp only [List.getElem?_toArray, List.getElem?_cons_zero, List.getElem?_cons_succ] at t0 t1 t2 t3)
      have HS' := Lib.hid hsw'
      obtain ⟨q1, q2⟩ := store4 hk3 (.int .u64 (a' : Nat)) (.int .u64 (b' : Nat)) (.int .u64 (c' : Nat)) (.int .u64 (d' : Nat))
      go_roundw
      case rel => exact ⟨k + 1, a', b', c', d', by omega, by go_num, HS'.out.ext (fun i _ => by rw [Bool.eq_iff_iff]; simp; omega), q1, blk_off hkR3 q2 (by omega), (hbw.trans (hb3.mono hbw.size)).trans (below_grown q2 (by omega) (by have := hbw.size; have := hb3.size; omega))⟩
      case measure => simp [intOf]; omega
    · have hkn : k = n := by omega
      subst hkn
      have r0 := cell_of_blk hkR 0
      have r1 := cell_of_blk hkR 1
      have r2 := cell_of_blk hkR 2
      have r3 := cell_of_blk hkR 3
      have f0 := frozen_of_blk hkR 0
      have f1 := frozen_of_blk hkR 1
      have f2 := frozen_of_blk hkR 2
      have f3 := frozen_of_blk hkR 3
      simp only [List.getElem?_toArray, List.getElem?_cons_zero, List.getElem?_cons_succ] at r0 r1 r2 r3
      obtain ⟨q1, q2⟩ := store4 hkR (.int .u64 (a : Nat)) (.int .u64 (b : Nat)) (.int .u64 (c : Nat)) (.int .u64 (d : Nat))
      have hb4 := hbw.trans (below_grown q2 (Nat.le_refl _) hbw.size)
      go_wp2
      generalize ((((wr.setCell ⟨w.heap.size, 0, none⟩ (.int .u64 (a : Nat))).setCell ⟨w.heap.size, 1, none⟩ (.int .u64 (b : Nat))).setCell ⟨w.heap.size, 2, none⟩ (.int .u64 (c : Nat))).setCell ⟨w.heap.size, 3, none⟩ (.int .u64 (d : Nat))) = w5 at q1 hb4 ⊢
      have t0 := cell_of_blk q1 0
      have t1 := cell_of_blk q1 1
      have t2 := cell_of_blk q1 2
      have t3 := cell_of_blk q1 3
      simp only [List.getElem?_toArray, List.getElem?_cons_zero, List.getElem?_cons_succ] at t0 t1 t2 t3
      refine bodyPost_ret (v := _) (by simp [results, Tryz.f154, go_sem, t0, t1, t2, t3]) rfl ⟨a, b, c, d, rfl, hsw, hb4⟩
end TS
end Go.Proofs.YtndkcimajeofcaaGreatDoor

namespace Go.Proofs.YtndkcimajeofcaaGreatDoor
namespace IS
open Go.RowKit
/-! The contracts of SW, once more for sets of int. -/

set_option maxRecDepth 100000 in
set_option maxHeartbeats 1000000 in
theorem bWith_raw (a b c d q r : Nat) (ha : a < 18446744073709551616) (hb : b < 18446744073709551616) (hc : c < 18446744073709551616) (hd : d < 18446744073709551616) (hq : q < 4) (hr : r < 64) (w : World) :
    Calls Tryz.prog 151 #[wv a b c d, .int .i64 ((64 * q + r : Nat) : Int)] w fun x w' => x = .returned (withW q r a b c d) ∧ Below w.heap.size w w' := by
  have h1 : (((64 * q + r : Nat) : Int)).tdiv 64 = q := by rw [Int.tdiv_eq_ediv_of_nonneg (by omega)]; omega
  have h2 : (((64 * q + r : Nat) : Int)).tmod 64 = r := by rw [Int.tmod_eq_emod_of_nonneg (by omega)]; omega
  have hpow : 2 ^ r < 18446744073709551616 := Nat.pow_lt_pow_right (by omega) hr
  have h3 : IntKind.u64.wrap ((2 : Int) ^ r) = (2 : Int) ^ r := by rw [pow_cast, wrapU hpow]
  obtain ⟨W1, hW1, hB1, hs1, hk1⟩ := newBlk w _ rfl #[.int .u64 a, .int .u64 b, .int .u64 c, .int .u64 d] 168
  obtain ⟨W2, hW2, hB2, hs2, hk2⟩ := newBlk W1 _ hs1 #[.int .u64 0, .int .u64 0, .int .u64 0, .int .u64 0] 168
  have hB : Below w.heap.size w W2 := hB1.trans (hB2.mono (by omega))
  have hk12 := (hB2.block w.heap.size (by omega)).trans hk1
  have a0 := cell_of_blk hk12 0
  have b0 := cell_of_blk hk2 0
  have f0 := frozen_of_blk hk12 0
  have g0 := frozen_of_blk hk2 0
  have a1 := cell_of_blk hk12 1
  have b1 := cell_of_blk hk2 1
  have f1 := frozen_of_blk hk12 1
  have g1 := frozen_of_blk hk2 1
  have a2 := cell_of_blk hk12 2
  have b2 := cell_of_blk hk2 2
  have f2 := frozen_of_blk hk12 2
  have g2 := frozen_of_blk hk2 2
  have a3 := cell_of_blk hk12 3
  have b3 := cell_of_blk hk2 3
  have f3 := frozen_of_blk hk12 3
  have g3 := frozen_of_blk hk2 3
  simp only [List.getElem?_toArray, List.getElem?_cons_zero, List.getElem?_cons_succ] at a0 a1 a2 a3 b0 b1 b2 b3
  have h0I : (0 : Int) ≤ r := by omega
  have hrI : (r : Int) < 64 := by omega
  have hrn : ¬ ((r : Int) < 0) := by omega
  have hmin : min r 64 = r := by omega
  have HB := Lib.hid hB
  clear hB hB1 hB2 hk1 hk12
  generalize hz : ((64 * q + r : Nat) : Int) = z at h1 h2 ⊢
  clear hz
  unfold wv withW wv
  rcases (show q = 0 ∨ q = 1 ∨ q = 2 ∨ q = 3 by omega) with rfl | rfl | rfl | rfl <;> simp only [Nat.reduceEqDiff, if_true, if_false, Nat.one_ne_zero, Nat.zero_ne_one]
  · have hbits : bits .or .u64 (a : Int) ((2 : Int) ^ r) = ((a ||| 2 ^ r : Nat) : Int) := by rw [pow_cast, u64_or_nat _ _ ha hpow]
    generalize (a ||| 2 ^ r : Nat) = y at hbits ⊢
    go_enter Tryz.func151, Tryz.ntmps151
    go_wp2_with fail
    go_region
    go_wp2
    have hq1 := blk_off hk2 (grown_set W2 w.heap.size 0 (.int .u64 (y : Nat))) (by omega)
    obtain ⟨q1, q2⟩ := store4 hq1 (.int .u64 (y : Nat)) (.int .u64 (b : Nat)) (.int .u64 (c : Nat)) (.int .u64 (d : Nat))
    have hb4 := ((HB.out.setCell (p := ⟨w.heap.size, 0, none⟩) (Nat.le_refl _) (.int .u64 (y : Nat))).trans (below_grown q2 (by omega) (HB.out.setCell (p := ⟨w.heap.size, 0, none⟩) (Nat.le_refl _) _).size)).drew
    clear hq1 q2
    generalize (((((W2.setCell ⟨w.heap.size, 0, none⟩ (.int .u64 (y : Nat))).setCell ⟨w.heap.size + 1, 0, none⟩ (.int .u64 (y : Nat))).setCell ⟨w.heap.size + 1, 1, none⟩ (.int .u64 (b : Nat))).setCell ⟨w.heap.size + 1, 2, none⟩ (.int .u64 (c : Nat))).setCell ⟨w.heap.size + 1, 3, none⟩ (.int .u64 (d : Nat))) = w4 at q1 hb4 ⊢
    have q1 : w4.drew.heap[w.heap.size + 1]? = _ := q1
    generalize w4.drew = w5 at q1 hb4 ⊢
    have t0 := cell_of_blk q1 0
    have t1 := cell_of_blk q1 1
    have t2 := cell_of_blk q1 2
    have t3 := cell_of_blk q1 3
    simp only [List.getElem?_toArray, List.getElem?_cons_zero, List.getElem?_cons_succ] at t0 t1 t2 t3
    refine bodyPost_ret (v := _) (by simp [results, Tryz.f151, go_sem, t0, t1, t2, t3]) rfl ⟨rfl, hb4⟩
  · have hbits : bits .or .u64 (b : Int) ((2 : Int) ^ r) = ((b ||| 2 ^ r : Nat) : Int) := by rw [pow_cast, u64_or_nat _ _ hb hpow]
    generalize (b ||| 2 ^ r : Nat) = y at hbits ⊢
    go_enter Tryz.func151, Tryz.ntmps151
    go_wp2_with fail
    go_region
    go_wp2
    have hq1 := blk_off hk2 (grown_set W2 w.heap.size 1 (.int .u64 (y : Nat))) (by omega)
    obtain ⟨q1, q2⟩ := store4 hq1 (.int .u64 (a : Nat)) (.int .u64 (y : Nat)) (.int .u64 (c : Nat)) (.int .u64 (d : Nat))
    have hb4 := ((HB.out.setCell (p := ⟨w.heap.size, 1, none⟩) (Nat.le_refl _) (.int .u64 (y : Nat))).trans (below_grown q2 (by omega) (HB.out.setCell (p := ⟨w.heap.size, 1, none⟩) (Nat.le_refl _) _).size)).drew
    clear hq1 q2
    generalize (((((W2.setCell ⟨w.heap.size, 1, none⟩ (.int .u64 (y : Nat))).setCell ⟨w.heap.size + 1, 0, none⟩ (.int .u64 (a : Nat))).setCell ⟨w.heap.size + 1, 1, none⟩ (.int .u64 (y : Nat))).setCell ⟨w.heap.size + 1, 2, none⟩ (.int .u64 (c : Nat))).setCell ⟨w.heap.size + 1, 3, none⟩ (.int .u64 (d : Nat))) = w4 at q1 hb4 ⊢
    have q1 : w4.drew.heap[w.heap.size + 1]? = _ := q1
    generalize w4.drew = w5 at q1 hb4 ⊢
    have t0 := cell_of_blk q1 0
    have t1 := cell_of_blk q1 1
    have t2 := cell_of_blk q1 2
    have t3 := cell_of_blk q1 3
    simp only [List.getElem?_toArray, List.getElem?_cons_zero, List.getElem?_cons_succ] at t0 t1 t2 t3
    refine bodyPost_ret (v := _) (by simp [results, Tryz.f151, go_sem, t0, t1, t2, t3]) rfl ⟨rfl, hb4⟩
  · have hbits : bits .or .u64 (c : Int) ((2 : Int) ^ r) = ((c ||| 2 ^ r : Nat) : Int) := by rw [pow_cast, u64_or_nat _ _ hc hpow]
    generalize (c ||| 2 ^ r : Nat) = y at hbits ⊢
    go_enter Tryz.func151, Tryz.ntmps151
    go_wp2_with fail
    go_region
    go_wp2
    have hq1 := blk_off hk2 (grown_set W2 w.heap.size 2 (.int .u64 (y : Nat))) (by omega)
    obtain ⟨q1, q2⟩ := store4 hq1 (.int .u64 (a : Nat)) (.int .u64 (b : Nat)) (.int .u64 (y : Nat)) (.int .u64 (d : Nat))
    have hb4 := ((HB.out.setCell (p := ⟨w.heap.size, 2, none⟩) (Nat.le_refl _) (.int .u64 (y : Nat))).trans (below_grown q2 (by omega) (HB.out.setCell (p := ⟨w.heap.size, 2, none⟩) (Nat.le_refl _) _).size)).drew
    clear hq1 q2
    generalize (((((W2.setCell ⟨w.heap.size, 2, none⟩ (.int .u64 (y : Nat))).setCell ⟨w.heap.size + 1, 0, none⟩ (.int .u64 (a : Nat))).setCell ⟨w.heap.size + 1, 1, none⟩ (.int .u64 (b : Nat))).setCell ⟨w.heap.size + 1, 2, none⟩ (.int .u64 (y : Nat))).setCell ⟨w.heap.size + 1, 3, none⟩ (.int .u64 (d : Nat))) = w4 at q1 hb4 ⊢
    have q1 : w4.drew.heap[w.heap.size + 1]? = _ := q1
    generalize w4.drew = w5 at q1 hb4 ⊢
    have t0 := cell_of_blk q1 0
    have t1 := cell_of_blk q1 1
    have t2 := cell_of_blk q1 2
    have t3 := cell_of_blk q1 3
    simp only [List.getElem?_toArray, List.getElem?_cons_zero, List.getElem?_cons_succ] at t0 t1 t2 t3
    refine bodyPost_ret (v := _) (by simp [results, Tryz.f151, go_sem, t0, t1, t2, t3]) rfl ⟨rfl, hb4⟩
  · have hbits : bits .or .u64 (d : Int) ((2 : Int) ^ r) = ((d ||| 2 ^ r : Nat) : Int) := by rw [pow_cast, u64_or_nat _ _ hd hpow]
    generalize (d ||| 2 ^ r : Nat) = y at hbits ⊢
    go_enter Tryz.func151, Tryz.ntmps151
    go_wp2_with fail
    go_region
    go_wp2
    have hq1 := blk_off hk2 (grown_set W2 w.heap.size 3 (.int .u64 (y : Nat))) (by omega)
    obtain ⟨q1, q2⟩ := store4 hq1 (.int .u64 (a : Nat)) (.int .u64 (b : Nat)) (.int .u64 (c : Nat)) (.int .u64 (y : Nat))
    have hb4 := ((HB.out.setCell (p := ⟨w.heap.size, 3, none⟩) (Nat.le_refl _) (.int .u64 (y : Nat))).trans (below_grown q2 (by omega) (HB.out.setCell (p := ⟨w.heap.size, 3, none⟩) (Nat.le_refl _) _).size)).drew
    clear hq1 q2
    generalize (((((W2.setCell ⟨w.heap.size, 3, none⟩ (.int .u64 (y : Nat))).setCell ⟨w.heap.size + 1, 0, none⟩ (.int .u64 (a : Nat))).setCell ⟨w.heap.size + 1, 1, none⟩ (.int .u64 (b : Nat))).setCell ⟨w.heap.size + 1, 2, none⟩ (.int .u64 (c : Nat))).setCell ⟨w.heap.size + 1, 3, none⟩ (.int .u64 (y : Nat))) = w4 at q1 hb4 ⊢
    have q1 : w4.drew.heap[w.heap.size + 1]? = _ := q1
    generalize w4.drew = w5 at q1 hb4 ⊢
    have t0 := cell_of_blk q1 0
    have t1 := cell_of_blk q1 1
    have t2 := cell_of_blk q1 2
    have t3 := cell_of_blk q1 3
    simp only [List.getElem?_toArray, List.getElem?_cons_zero, List.getElem?_cons_succ] at t0 t1 t2 t3
    refine bodyPost_ret (v := _) (by simp [results, Tryz.f151, go_sem, t0, t1, t2, t3]) rfl ⟨rfl, hb4⟩

theorem bWith_any (p : Nat → Bool) (e : Nat) (he : e < 256) (w : World) : Calls Tryz.prog 151 #[sv p, .int .i64 (e : Nat)] w fun x w' => x = .returned (sv fun i => p i || i == e) ∧ Below w.heap.size w w' := by
  obtain ⟨q, r, hq, hr, rfl⟩ : ∃ q r, q < 4 ∧ r < 64 ∧ e = 64 * q + r := ⟨e / 64, e % 64, by omega, by omega, by omega⟩
  refine (bWith_raw _ _ _ _ q r (bw_lt64 _) (bw_lt64 _) (bw_lt64 _) (bw_lt64 _) hq hr w).mono ?_
  rintro x w' ⟨rfl, hb⟩
  refine ⟨?_, hb⟩
  have h0 := withWord p 0 q r hr
  have h1 := withWord p 1 q r hr
  have h2 := withWord p 2 q r hr
  have h3 := withWord p 3 q r hr
  simp only [Nat.mul_zero, Nat.zero_add, Nat.mul_one, show 64 * 2 = 128 from rfl, show 64 * 3 = 192 from rfl] at h0 h1 h2 h3
  unfold withW sv
  rw [h0, h1, h2, h3]

set_option maxRecDepth 100000 in
theorem idxSet (a b c d : Nat) (w : World) : (Instr.index 168 (.agg #[.int .u64 (a : Nat), .int .u64 (b : Nat), .int .u64 (c : Nat), .int .u64 (d : Nat)]) (.int .i64 0)).run Tryz.prog w = .ok (.int .u64 (a : Nat)) w ∧
    (Instr.index 168 (.agg #[.int .u64 (a : Nat), .int .u64 (b : Nat), .int .u64 (c : Nat), .int .u64 (d : Nat)]) (.int .i64 1)).run Tryz.prog w = .ok (.int .u64 (b : Nat)) w ∧
    (Instr.index 168 (.agg #[.int .u64 (a : Nat), .int .u64 (b : Nat), .int .u64 (c : Nat), .int .u64 (d : Nat)]) (.int .i64 2)).run Tryz.prog w = .ok (.int .u64 (c : Nat)) w ∧
    (Instr.index 168 (.agg #[.int .u64 (a : Nat), .int .u64 (b : Nat), .int .u64 (c : Nat), .int .u64 (d : Nat)]) (.int .i64 3)).run Tryz.prog w = .ok (.int .u64 (d : Nat)) w := by
  have u3 := Tryz.underlying124
  have a3 := Tryz.isAgg124
  have z3 := Tryz.sizeOf124
  refine ⟨?_, ?_, ?_, ?_⟩ <;>
  · rw [Instr.index]
    simp only [Sem.run_bind, run_underlying Tryz.underlying168, Result.andThen_ok, asIntOf, Sem.run_pure]
    go_simp

set_option maxRecDepth 100000 in
set_option maxHeartbeats 4000000 in
theorem all1_stopsE (encs : Nat → Array Value) (Kp : World → World → Prop) (hKG : ∀ W W', Kp W W' → GT W → GT W') (n Bt : Nat) (p : Nat → Bool) (henc : ∀ e, e < 256 → p e = true → encs e = #[.int .i64 (e : Nat)]) (w : World) (hG : GT w)
    (hBt : w.heap[Bt]? = some (.cells #[.int .u64 (wdp p 0 : Nat), .int .u64 (wdp p 1 : Nat), .int .u64 (wdp p 2 : Nat), .int .u64 (wdp p 3 : Nat)] 168)) :
    SeqStopsK Fence.wide n Tryz.prog 152 #[.pointer (some ⟨Bt, 0, none⟩)] encs Kp (fun ys => ys = elsF p 0) (fun pre => pre <+: elsF p 0) (elsF p 0).length w := by
  intro l J Jx W hW hJ hJx hY h0
  have hblt : Bt < w.heap.size := (Array.getElem?_eq_some_iff.1 hBt).1
  have hB := (hW.block Bt hblt).trans hBt
  have hGW := hG.later hW
  have q0 := cutW_zero p 0
  have q1 := cutW_zero p 1
  have q2 := cutW_zero p 2
  have q3 := cutW_zero p 3
  obtain ⟨a, ha⟩ : ∃ a, wdp p 0 = a := ⟨_, rfl⟩
  obtain ⟨b, hb⟩ : ∃ a, wdp p 1 = a := ⟨_, rfl⟩
  obtain ⟨c, hc⟩ : ∃ a, wdp p 2 = a := ⟨_, rfl⟩
  obtain ⟨d, hd⟩ : ∃ a, wdp p 3 = a := ⟨_, rfl⟩
  rw [ha, hb, hc, hd] at hB
  rw [ha] at q0
  rw [hb] at q1
  rw [hc] at q2
  rw [hd] at q3
  have c0 := cell_of_blk hB 0
  have c1 := cell_of_blk hB 1
  have c2 := cell_of_blk hB 2
  have c3 := cell_of_blk hB 3
  simp only [List.getElem?_toArray, List.getElem?_cons_zero, List.getElem?_cons_succ] at c0 c1 c2 c3
  have hdd : ∀ k : Nat, (Fence.wide.depth.isSome = true → 1 ≤ k) := fun k h => by cases h
  have Q0 := Lib.hid q0
  have Q1 := Lib.hid q1
  have Q2 := Lib.hid q2
  have Q3 := Lib.hid q3
  have HY := Lib.hid hY
  clear q0 q1 q2 q3 ha hb hc hd hB hBt hY
  have i0 := fun w => (idxSet a b c d w).1
  have i1 := fun w => (idxSet a b c d w).2.1
  have i2 := fun w => (idxSet a b c d w).2.2.1
  have i3 := fun w => (idxSet a b c d w).2.2.2
  refine callsIn_of_wp Tryz.func152 rfl trivial ?_ rfl
  simp only [Tryz.ntmps152, List.size_toArray, List.length_cons, List.length_nil, Nat.reduceAdd, Nat.reduceSub, Array.replicate_succ, Array.replicate_zero, List.push_toArray, List.append_toArray, List.nil_append, List.cons_append]
  gi_wp2_with fail
  gi_loopw [6] (fun i wr => ∃ (k : Nat) (pre : List Nat), ((k = 0 ∧ i = .int .i64 0) ∨ (k = 1 ∧ i = .int .i64 1) ∨ (k = 2 ∧ i = .int .i64 2) ∨ (k = 3 ∧ i = .int .i64 3) ∨ (k = 4 ∧ i = .int .i64 4)) ∧ pre ++ elsF p (64 * k) = elsF p 0 ∧ J pre wr ∧ GT wr) (fun i _ => 4 - (intOf i).toNat)
  case atStart => exact ⟨0, [], .inl ⟨rfl, rfl⟩, rfl, h0, hGW⟩
  case round =>
    obtain ⟨k, pre, hk, hpre, hJ1, hG1⟩ := hrel
    have HP := Lib.hid hpre
    have HJ1 := Lib.hid hJ1
    have HG1 := Lib.hid hG1
    clear hpre hJ1 hG1
    rcases hk with ⟨rfl, rfl⟩ | ⟨rfl, rfl⟩ | ⟨rfl, rfl⟩ | ⟨rfl, rfl⟩ | ⟨rfl, rfl⟩
    · gi_wp2_with fail
      gi_loopw [4] (fun x wr => ∃ (ct : Nat) (xv : Nat) (pre : List Nat), ct ≤ 64 ∧ x = .int .u64 (xv : Nat) ∧ cutW p 0 ct = xv ∧ pre ++ elsF p (64 * 0 + ct) = elsF p 0 ∧ J pre wr ∧ GT wr) (fun x _ => (intOf x).toNat)
      case atStart => exact ⟨0, a, pre, by omega, rfl, Q0.out, HP.out, HJ1.out, HG1.out⟩
      case round =>
        obtain ⟨ct, xv, pre2, hct, rfl, hcut, hpre2, hJ2, hG2⟩ := hrel
        have HP2 := Lib.hid hpre2
        have HJ2 := Lib.hid hJ2
        have HG2 := Lib.hid hG2
        have hxlt : xv < 18446744073709551616 := by rw [← hcut]; exact cutW_lt _ _ _
        have HC := Lib.hid hcut
        clear hpre2 hJ2 hG2 hcut
        rcases hx0 : ((xv : Int) != 0)
        · have hz : xv = 0 := by simpa using hx0
          have hend := cutW_end (HC.out.trans hz) (by omega) hct
          have HE := Lib.hid hend
          clear hend
          gi_wp2_with fail
          go_roundw
          case rel => exact ⟨1, pre2, .inr (.inl ⟨rfl, rfl⟩), by rw [← HE.out]; exact HP2.out, HJ2.out, HG2.out⟩
          case measure => simp [intOf]
        · have hnz : xv ≠ 0 := by simpa using hx0
          obtain ⟨j, y, hj, hpj, hpj', hl, hel, hand, hylt, hcy⟩ := cutW_step HC.out hnz (by omega) hct
          have htz := inW (tz64_any (fun j => p (64 * 0 + j) && decide (ct ≤ j)) j hj hpj' hl wr HG2.out) (n - 1)
          rw [show bw (fun j => p (64 * 0 + j) && decide (ct ≤ j)) 64 = xv from HC.out] at htz
          have hlen : pre2.length < (elsF p 0).length := by
            have := congrArg List.length HP2.out
            rw [List.length_append, hel, List.length_cons] at this
            omega
          have hy := HY.out pre2 (64 * 0 + j) wr HJ2.out hlen
          rw [henc _ (by omega) hpj] at hy
          obtain ⟨fn, tmps, assign, body, hy, hR⟩ := YieldAt.anyDepth rfl (n - 1) hy
          rw [show ((64 * 0 + j : Nat) : Int) = (j : Int) by omega] at hy
          have hsub : IntKind.u64.wrap ((xv : Int) - 1) = ((xv - 1 : Nat) : Int) := by rw [IntKind.wrap_u64]; omega
          have hand2 : bits .and .u64 (xv : Int) ((xv - 1 : Nat) : Int) = (y : Int) := by rw [u64_and_nat _ _ hxlt (by omega), hand]
          obtain ⟨x1, hx1⟩ : ∃ x1, xv - 1 = x1 := ⟨_, rfl⟩
          rw [hx1] at hsub hand2
          have HEL := Lib.hid hel
          have HCY := Lib.hid hcy
          have hj0 : (0 : Int) ≤ j := by omega
          have hj64 : (j : Int) < 64 := by omega
          clear hpj hpj' hl hel hand hcy hx1 hlen
          gi_wp2_with (first
            | (refine ⟨trivial, hdd _, ?_⟩; refine htz.mono ?_; clear htz; rintro e w' ⟨rfl, rfl⟩)
            | (refine ⟨hdd _, ?_⟩; refine hR.mono ?_; clear hR; rintro e W2 (⟨rfl, hJ3, hk3⟩ | ⟨rfl, hx3⟩)))
          · go_roundw
            case rel => exact ⟨j + 1, y, pre2 ++ [64 * 0 + j], by omega, by go_num, HCY.out, by rw [List.append_assoc, List.singleton_append, ← HEL.out]; exact HP2.out, hJ3, hKG _ _ hk3 HG2.out⟩
            case measure => simp [intOf]; omega
          · (try simp only [Exit.inBlock, Exit.then])
            refine bodyPost_ret (results_none rfl _ _ _) rfl ?_
            exact ⟨⟨_, rfl⟩, .inr ⟨pre2 ++ [64 * 0 + j], ⟨elsF p (64 * 0 + (j + 1)), by rw [List.append_assoc, List.singleton_append, ← HEL.out]; exact HP2.out⟩, hx3⟩⟩
    · gi_wp2_with fail
      gi_loopw [4] (fun x wr => ∃ (ct : Nat) (xv : Nat) (pre : List Nat), ct ≤ 64 ∧ x = .int .u64 (xv : Nat) ∧ cutW p 1 ct = xv ∧ pre ++ elsF p (64 * 1 + ct) = elsF p 0 ∧ J pre wr ∧ GT wr) (fun x _ => (intOf x).toNat)
      case atStart => exact ⟨0, b, pre, by omega, rfl, Q1.out, HP.out, HJ1.out, HG1.out⟩
      case round =>
        obtain ⟨ct, xv, pre2, hct, rfl, hcut, hpre2, hJ2, hG2⟩ := hrel
        have HP2 := Lib.hid hpre2
        have HJ2 := Lib.hid hJ2
        have HG2 := Lib.hid hG2
        have hxlt : xv < 18446744073709551616 := by rw [← hcut]; exact cutW_lt _ _ _
        have HC := Lib.hid hcut
        clear hpre2 hJ2 hG2 hcut
        rcases hx0 : ((xv : Int) != 0)
        · have hz : xv = 0 := by simpa using hx0
          have hend := cutW_end (HC.out.trans hz) (by omega) hct
          have HE := Lib.hid hend
          clear hend
          gi_wp2_with fail
          go_roundw
          case rel => exact ⟨2, pre2, .inr (.inr (.inl ⟨rfl, rfl⟩)), by rw [← HE.out]; exact HP2.out, HJ2.out, HG2.out⟩
          case measure => simp [intOf]
        · have hnz : xv ≠ 0 := by simpa using hx0
          obtain ⟨j, y, hj, hpj, hpj', hl, hel, hand, hylt, hcy⟩ := cutW_step HC.out hnz (by omega) hct
          have htz := inW (tz64_any (fun j => p (64 * 1 + j) && decide (ct ≤ j)) j hj hpj' hl wr HG2.out) (n - 1)
          rw [show bw (fun j => p (64 * 1 + j) && decide (ct ≤ j)) 64 = xv from HC.out] at htz
          have hlen : pre2.length < (elsF p 0).length := by
            have := congrArg List.length HP2.out
            rw [List.length_append, hel, List.length_cons] at this
            omega
          have hy := HY.out pre2 (64 * 1 + j) wr HJ2.out hlen
          rw [henc _ (by omega) hpj] at hy
          obtain ⟨fn, tmps, assign, body, hy, hR⟩ := YieldAt.anyDepth rfl (n - 1) hy
          rw [show ((64 * 1 + j : Nat) : Int) = 64 + (j : Int) by omega] at hy
          have hsub : IntKind.u64.wrap ((xv : Int) - 1) = ((xv - 1 : Nat) : Int) := by rw [IntKind.wrap_u64]; omega
          have hand2 : bits .and .u64 (xv : Int) ((xv - 1 : Nat) : Int) = (y : Int) := by rw [u64_and_nat _ _ hxlt (by omega), hand]
          obtain ⟨x1, hx1⟩ : ∃ x1, xv - 1 = x1 := ⟨_, rfl⟩
          rw [hx1] at hsub hand2
          have HEL := Lib.hid hel
          have HCY := Lib.hid hcy
          have hj0 : (0 : Int) ≤ j := by omega
          have hj64 : (j : Int) < 64 := by omega
          clear hpj hpj' hl hel hand hcy hx1 hlen
          gi_wp2_with (first
            | (refine ⟨trivial, hdd _, ?_⟩; refine htz.mono ?_; clear htz; rintro e w' ⟨rfl, rfl⟩)
            | (refine ⟨hdd _, ?_⟩; refine hR.mono ?_; clear hR; rintro e W2 (⟨rfl, hJ3, hk3⟩ | ⟨rfl, hx3⟩)))
          · go_roundw
            case rel => exact ⟨j + 1, y, pre2 ++ [64 * 1 + j], by omega, by go_num, HCY.out, by rw [List.append_assoc, List.singleton_append, ← HEL.out]; exact HP2.out, hJ3, hKG _ _ hk3 HG2.out⟩
            case measure => simp [intOf]; omega
          · (try simp only [Exit.inBlock, Exit.then])
            refine bodyPost_ret (results_none rfl _ _ _) rfl ?_
            exact ⟨⟨_, rfl⟩, .inr ⟨pre2 ++ [64 * 1 + j], ⟨elsF p (64 * 1 + (j + 1)), by rw [List.append_assoc, List.singleton_append, ← HEL.out]; exact HP2.out⟩, hx3⟩⟩
    · gi_wp2_with fail
      gi_loopw [4] (fun x wr => ∃ (ct : Nat) (xv : Nat) (pre : List Nat), ct ≤ 64 ∧ x = .int .u64 (xv : Nat) ∧ cutW p 2 ct = xv ∧ pre ++ elsF p (64 * 2 + ct) = elsF p 0 ∧ J pre wr ∧ GT wr) (fun x _ => (intOf x).toNat)
      case atStart => exact ⟨0, c, pre, by omega, rfl, Q2.out, HP.out, HJ1.out, HG1.out⟩
      case round =>
        obtain ⟨ct, xv, pre2, hct, rfl, hcut, hpre2, hJ2, hG2⟩ := hrel
        have HP2 := Lib.hid hpre2
        have HJ2 := Lib.hid hJ2
        have HG2 := Lib.hid hG2
        have hxlt : xv < 18446744073709551616 := by rw [← hcut]; exact cutW_lt _ _ _
        have HC := Lib.hid hcut
        clear hpre2 hJ2 hG2 hcut
        rcases hx0 : ((xv : Int) != 0)
        · have hz : xv = 0 := by simpa using hx0
          have hend := cutW_end (HC.out.trans hz) (by omega) hct
          have HE := Lib.hid hend
          clear hend
          gi_wp2_with fail
          go_roundw
          case rel => exact ⟨3, pre2, .inr (.inr (.inr (.inl ⟨rfl, rfl⟩))), by rw [← HE.out]; exact HP2.out, HJ2.out, HG2.out⟩
          case measure => simp [intOf]
        · have hnz : xv ≠ 0 := by simpa using hx0
          obtain ⟨j, y, hj, hpj, hpj', hl, hel, hand, hylt, hcy⟩ := cutW_step HC.out hnz (by omega) hct
          have htz := inW (tz64_any (fun j => p (64 * 2 + j) && decide (ct ≤ j)) j hj hpj' hl wr HG2.out) (n - 1)
          rw [show bw (fun j => p (64 * 2 + j) && decide (ct ≤ j)) 64 = xv from HC.out] at htz
          have hlen : pre2.length < (elsF p 0).length := by
            have := congrArg List.length HP2.out
            rw [List.length_append, hel, List.length_cons] at this
            omega
          have hy := HY.out pre2 (64 * 2 + j) wr HJ2.out hlen
          rw [henc _ (by omega) hpj] at hy
          obtain ⟨fn, tmps, assign, body, hy, hR⟩ := YieldAt.anyDepth rfl (n - 1) hy
          rw [show ((64 * 2 + j : Nat) : Int) = 128 + (j : Int) by omega] at hy
          have hsub : IntKind.u64.wrap ((xv : Int) - 1) = ((xv - 1 : Nat) : Int) := by rw [IntKind.wrap_u64]; omega
          have hand2 : bits .and .u64 (xv : Int) ((xv - 1 : Nat) : Int) = (y : Int) := by rw [u64_and_nat _ _ hxlt (by omega), hand]
          obtain ⟨x1, hx1⟩ : ∃ x1, xv - 1 = x1 := ⟨_, rfl⟩
          rw [hx1] at hsub hand2
          have HEL := Lib.hid hel
          have HCY := Lib.hid hcy
          have hj0 : (0 : Int) ≤ j := by omega
          have hj64 : (j : Int) < 64 := by omega
          clear hpj hpj' hl hel hand hcy hx1 hlen
          gi_wp2_with (first
            | (refine ⟨trivial, hdd _, ?_⟩; refine htz.mono ?_; clear htz; rintro e w' ⟨rfl, rfl⟩)
            | (refine ⟨hdd _, ?_⟩; refine hR.mono ?_; clear hR; rintro e W2 (⟨rfl, hJ3, hk3⟩ | ⟨rfl, hx3⟩)))
          · go_roundw
            case rel => exact ⟨j + 1, y, pre2 ++ [64 * 2 + j], by omega, by go_num, HCY.out, by rw [List.append_assoc, List.singleton_append, ← HEL.out]; exact HP2.out, hJ3, hKG _ _ hk3 HG2.out⟩
            case measure => simp [intOf]; omega
          · (try simp only [Exit.inBlock, Exit.then])
            refine bodyPost_ret (results_none rfl _ _ _) rfl ?_
            exact ⟨⟨_, rfl⟩, .inr ⟨pre2 ++ [64 * 2 + j], ⟨elsF p (64 * 2 + (j + 1)), by rw [List.append_assoc, List.singleton_append, ← HEL.out]; exact HP2.out⟩, hx3⟩⟩
    · gi_wp2_with fail
      gi_loopw [4] (fun x wr => ∃ (ct : Nat) (xv : Nat) (pre : List Nat), ct ≤ 64 ∧ x = .int .u64 (xv : Nat) ∧ cutW p 3 ct = xv ∧ pre ++ elsF p (64 * 3 + ct) = elsF p 0 ∧ J pre wr ∧ GT wr) (fun x _ => (intOf x).toNat)
      case atStart => exact ⟨0, d, pre, by omega, rfl, Q3.out, HP.out, HJ1.out, HG1.out⟩
      case round =>
        obtain ⟨ct, xv, pre2, hct, rfl, hcut, hpre2, hJ2, hG2⟩ := hrel
        have HP2 := Lib.hid hpre2
        have HJ2 := Lib.hid hJ2
        have HG2 := Lib.hid hG2
        have hxlt : xv < 18446744073709551616 := by rw [← hcut]; exact cutW_lt _ _ _
        have HC := Lib.hid hcut
        clear hpre2 hJ2 hG2 hcut
        rcases hx0 : ((xv : Int) != 0)
        · have hz : xv = 0 := by simpa using hx0
          have hend := cutW_end (HC.out.trans hz) (by omega) hct
          have HE := Lib.hid hend
          clear hend
          gi_wp2_with fail
          go_roundw
          case rel => exact ⟨4, pre2, .inr (.inr (.inr (.inr (⟨rfl, rfl⟩)))), by rw [← HE.out]; exact HP2.out, HJ2.out, HG2.out⟩
          case measure => simp [intOf]
        · have hnz : xv ≠ 0 := by simpa using hx0
          obtain ⟨j, y, hj, hpj, hpj', hl, hel, hand, hylt, hcy⟩ := cutW_step HC.out hnz (by omega) hct
          have htz := inW (tz64_any (fun j => p (64 * 3 + j) && decide (ct ≤ j)) j hj hpj' hl wr HG2.out) (n - 1)
          rw [show bw (fun j => p (64 * 3 + j) && decide (ct ≤ j)) 64 = xv from HC.out] at htz
          have hlen : pre2.length < (elsF p 0).length := by
            have := congrArg List.length HP2.out
            rw [List.length_append, hel, List.length_cons] at this
            omega
          have hy := HY.out pre2 (64 * 3 + j) wr HJ2.out hlen
          rw [henc _ (by omega) hpj] at hy
          obtain ⟨fn, tmps, assign, body, hy, hR⟩ := YieldAt.anyDepth rfl (n - 1) hy
          rw [show ((64 * 3 + j : Nat) : Int) = 192 + (j : Int) by omega] at hy
          have hsub : IntKind.u64.wrap ((xv : Int) - 1) = ((xv - 1 : Nat) : Int) := by rw [IntKind.wrap_u64]; omega
          have hand2 : bits .and .u64 (xv : Int) ((xv - 1 : Nat) : Int) = (y : Int) := by rw [u64_and_nat _ _ hxlt (by omega), hand]
          obtain ⟨x1, hx1⟩ : ∃ x1, xv - 1 = x1 := ⟨_, rfl⟩
          rw [hx1] at hsub hand2
          have HEL := Lib.hid hel
          have HCY := Lib.hid hcy
          have hj0 : (0 : Int) ≤ j := by omega
          have hj64 : (j : Int) < 64 := by omega
          clear hpj hpj' hl hel hand hcy hx1 hlen
          gi_wp2_with (first
            | (refine ⟨trivial, hdd _, ?_⟩; refine htz.mono ?_; clear htz; rintro e w' ⟨rfl, rfl⟩)
            | (refine ⟨hdd _, ?_⟩; refine hR.mono ?_; clear hR; rintro e W2 (⟨rfl, hJ3, hk3⟩ | ⟨rfl, hx3⟩)))
          · go_roundw
            case rel => exact ⟨j + 1, y, pre2 ++ [64 * 3 + j], by omega, by go_num, HCY.out, by rw [List.append_assoc, List.singleton_append, ← HEL.out]; exact HP2.out, hJ3, hKG _ _ hk3 HG2.out⟩
            case measure => simp [intOf]; omega
          · (try simp only [Exit.inBlock, Exit.then])
            refine bodyPost_ret (results_none rfl _ _ _) rfl ?_
            exact ⟨⟨_, rfl⟩, .inr ⟨pre2 ++ [64 * 3 + j], ⟨elsF p (64 * 3 + (j + 1)), by rw [List.append_assoc, List.singleton_append, ← HEL.out]; exact HP2.out⟩, hx3⟩⟩
    · gi_wp2_with fail
      go_end0
      refine ⟨⟨_, rfl⟩, .inl ⟨pre, ?_, HJ1.out⟩⟩
      have := HP.out
      rw [show 64 * 4 = 256 from rfl, elsF_end, List.append_nil] at this
      exact this
theorem bWith_sw {p : Nat → Bool} {a b c d : Nat} (h : SW p a b c d) (e : Nat) (he : e < 256) (w : World) : Calls Tryz.prog 151 #[.agg #[.int .u64 (a : Nat), .int .u64 (b : Nat), .int .u64 (c : Nat), .int .u64 (d : Nat)], .int .i64 (e : Nat)] w (RetS3 (fun i => p i || i == e) w) := by
  have := bWith_any p e he w
  rw [h.sv] at this
  exact this.mono fun _ _ h => RetS3.of h
set_option maxHeartbeats 1000000 in
/-- The iterator of a set: the closure and its box. -/
theorem bAll_any (a b c d : Nat) (w : World) :
    Calls Tryz.prog 108 #[.agg #[.int .u64 (a : Nat), .int .u64 (b : Nat), .int .u64 (c : Nat), .int .u64 (d : Nat)]] w fun e w' => e = .returned (.func (.func 152) #[] #[.pointer (some ⟨w.heap.size, 0, none⟩)]) ∧ w' = w.alloc (.cells #[.int .u64 (a : Nat), .int .u64 (b : Nat), .int .u64 (c : Nat), .int .u64 (d : Nat)] 168) := by
  go_enter Tryz.func108, Tryz.ntmps108
  go_wp2
  go_ret
  exact ⟨rfl, rfl⟩
theorem all1_swE (encs : Nat → Array Value) (Kp : World → World → Prop) (hKG : ∀ W W', Kp W W' → GT W → GT W') (n Bt : Nat) {p : Nat → Bool} {a b c d : Nat} (henc : ∀ e, e < 256 → p e = true → encs e = #[.int .i64 (e : Nat)]) (hs : SW p a b c d) (w : World) (hG : GT w)
    (hBt : w.heap[Bt]? = some (.cells #[.int .u64 (a : Nat), .int .u64 (b : Nat), .int .u64 (c : Nat), .int .u64 (d : Nat)] 168)) :
    SeqStopsK Fence.wide n Tryz.prog 152 #[.pointer (some ⟨Bt, 0, none⟩)] encs Kp (fun ys => ys = elsF p 0) (fun pre => pre <+: elsF p 0) (elsF p 0).length w :=
  all1_stopsE encs Kp hKG n Bt p henc w hG (by rw [hs.a, hs.b, hs.c, hs.d]; exact hBt)

end IS
end Go.Proofs.YtndkcimajeofcaaGreatDoor
