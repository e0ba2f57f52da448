import Derived.Test.YtndkcimajeofcaaGreatDoorG3a662f577c
import Derived.Deep.RegionHeld3
import Derived.Laws.StructEq
import Derived.Laws.Small
import Derived.Shelf.Strings.Builder1
namespace Go.Proofs.YtndkcimajeofcaaGreatDoor
open Go.RowKit

/-- A set as four words. -/
def wv (a b c d : Nat) : Value := .agg #[.int .u64 a, .int .u64 b, .int .u64 c, .int .u64 d]
/-- The set of the numbers below 256 of which p is true, as a value. -/
def sv (p : Nat → Bool) : Value := wv (bw p 64) (bw (fun j => p (64 + j)) 64) (bw (fun j => p (128 + j)) 64) (bw (fun j => p (192 + j)) 64)
/-- Four cells stored into a block. -/
theorem store4 {W : World} {b : Nat} {x0 y0 z0 u0 : Value} {t : TypeId} (h : W.heap[b]? = some (.cells #[x0, y0, z0, u0] t)) (x y z u : Value) :
    ((((W.setCell ⟨b, 0, none⟩ x).setCell ⟨b, 1, none⟩ y).setCell ⟨b, 2, none⟩ z).setCell ⟨b, 3, none⟩ u).heap[b]? = some (.cells #[x, y, z, u] t) ∧
    W.grownBy ((((W.setCell ⟨b, 0, none⟩ x).setCell ⟨b, 1, none⟩ y).setCell ⟨b, 2, none⟩ z).setCell ⟨b, 3, none⟩ u) (some b) :=
  ⟨blk_set (blk_set (blk_set (blk_set h 0 x) 1 y) 2 z) 3 u, grown_trans (grown_trans (grown_trans (grown_set W b 0 x) (grown_set _ b 1 y)) (grown_set _ b 2 z)) (grown_set _ b 3 u)⟩
theorem blk_off {b pb : Nat} {w w' : World} {o : Obj} (h : w.heap[b]? = some o) (hg : w.grownBy w' (some pb)) (hne : b ≠ pb) : w'.heap[b]? = some o :=
  (hg.block b (Array.getElem?_eq_some_iff.1 h).1 (fun e => hne (Option.some.inj e))).trans h
theorem pow_cast (r : Nat) : ((2 : Int) ^ r) = ((2 ^ r : Nat) : Int) := (Int.natCast_pow 2 r).symm
theorem wrapU {x : Nat} (h : x < 18446744073709551616) : IntKind.u64.wrap (x : Int) = (x : Int) := by
  rw [IntKind.wrap_u64]; omega

/-- The words of s.With(64 q + r). -/
def withW (q r : Nat) (a b c d : Nat) : Value := wv (if q = 0 then a ||| 2 ^ r else a) (if q = 1 then b ||| 2 ^ r else b) (if q = 2 then c ||| 2 ^ r else c) (if q = 3 then d ||| 2 ^ r else d)
set_option maxRecDepth 100000 in
set_option maxHeartbeats 1000000 in
theorem bWith_raw (a b c d q r : Nat) (ha : a < 18446744073709551616) (hb : b < 18446744073709551616) (hc : c < 18446744073709551616) (hd : d < 18446744073709551616) (hq : q < 4) (hr : r < 64) (w : World) :
    Calls Tryz.prog 130 #[wv a b c d, .int .i64 ((64 * q + r : Nat) : Int)] w fun x w' => x = .returned (withW q r a b c d) ∧ Below w.heap.size w w' := by
  have h1 : (((64 * q + r : Nat) : Int)).tdiv 64 = q := by rw [Int.tdiv_eq_ediv_of_nonneg (by omega)]; omega
  have h2 : (((64 * q + r : Nat) : Int)).tmod 64 = r := by rw [Int.tmod_eq_emod_of_nonneg (by omega)]; omega
  have hpow : 2 ^ r < 18446744073709551616 := Nat.pow_lt_pow_right (by omega) hr
  have h3 : IntKind.u64.wrap ((2 : Int) ^ r) = (2 : Int) ^ r := by rw [pow_cast, wrapU hpow]
  obtain ⟨W1, hW1, hB1, hs1, hk1⟩ := newBlk w _ rfl #[.int .u64 a, .int .u64 b, .int .u64 c, .int .u64 d] 145
  obtain ⟨W2, hW2, hB2, hs2, hk2⟩ := newBlk W1 _ hs1 #[.int .u64 0, .int .u64 0, .int .u64 0, .int .u64 0] 145
  have hB : Below w.heap.size w W2 := hB1.trans (hB2.mono (by omega))
  have hk12 := (hB2.block w.heap.size (by omega)).trans hk1
  have a0 := cell_of_blk hk12 0
  have b0 := cell_of_blk hk2 0
  have f0 := frozen_of_blk hk12 0
  have g0 := frozen_of_blk hk2 0
  have a1 := cell_of_blk hk12 1
  have b1 := cell_of_blk hk2 1
  have f1 := frozen_of_blk hk12 1
  have g1 := frozen_of_blk hk2 1
  have a2 := cell_of_blk hk12 2
  have b2 := cell_of_blk hk2 2
  have f2 := frozen_of_blk hk12 2
  have g2 := frozen_of_blk hk2 2
  have a3 := cell_of_blk hk12 3
  have b3 := cell_of_blk hk2 3
  have f3 := frozen_of_blk hk12 3
  have g3 := frozen_of_blk hk2 3
  simp only [List.getElem?_toArray, List.getElem?_cons_zero, List.getElem?_cons_succ] at a0 a1 a2 a3 b0 b1 b2 b3
  have h0I : (0 : Int) ≤ r := by omega
  have hrI : (r : Int) < 64 := by omega
  have hrn : ¬ ((r : Int) < 0) := by omega
  have hmin : min r 64 = r := by omega
  have HB := Lib.hid hB
  clear hB hB1 hB2 hk1 hk12
  generalize hz : ((64 * q + r : Nat) : Int) = z at h1 h2 ⊢
  clear hz
  unfold wv withW wv
  rcases (show q = 0 ∨ q = 1 ∨ q = 2 ∨ q = 3 by omega) with rfl | rfl | rfl | rfl <;> simp only [Nat.reduceEqDiff, if_true, if_false, Nat.one_ne_zero, Nat.zero_ne_one]
  · have hbits : bits .or .u64 (a : Int) ((2 : Int) ^ r) = ((a ||| 2 ^ r : Nat) : Int) := by rw [pow_cast, u64_or_nat _ _ ha hpow]
    generalize (a ||| 2 ^ r : Nat) = y at hbits ⊢
    go_enter Tryz.func130, Tryz.ntmps130
    go_wp2_with fail
    go_region
    go_wp2
    have hq1 := blk_off hk2 (grown_set W2 w.heap.size 0 (.int .u64 (y : Nat))) (by omega)
    obtain ⟨q1, q2⟩ := store4 hq1 (.int .u64 (y : Nat)) (.int .u64 (b : Nat)) (.int .u64 (c : Nat)) (.int .u64 (d : Nat))
    have hb4 := ((HB.out.setCell (p := ⟨w.heap.size, 0, none⟩) (Nat.le_refl _) (.int .u64 (y : Nat))).trans (below_grown q2 (by omega) (HB.out.setCell (p := ⟨w.heap.size, 0, none⟩) (Nat.le_refl _) _).size)).drew
    clear hq1 q2
    generalize (((((W2.setCell ⟨w.heap.size, 0, none⟩ (.int .u64 (y : Nat))).setCell ⟨w.heap.size + 1, 0, none⟩ (.int .u64 (y : Nat))).setCell ⟨w.heap.size + 1, 1, none⟩ (.int .u64 (b : Nat))).setCell ⟨w.heap.size + 1, 2, none⟩ (.int .u64 (c : Nat))).setCell ⟨w.heap.size + 1, 3, none⟩ (.int .u64 (d : Nat))) = w4 at q1 hb4 ⊢
    have q1 : w4.drew.heap[w.heap.size + 1]? = _ := q1
    generalize w4.drew = w5 at q1 hb4 ⊢
    have t0 := cell_of_blk q1 0
    have t1 := cell_of_blk q1 1
    have t2 := cell_of_blk q1 2
    have t3 := cell_of_blk q1 3
    simp only [List.getElem?_toArray, List.getElem?_cons_zero, List.getElem?_cons_succ] at t0 t1 t2 t3
    refine bodyPost_ret (v := _) (by simp [results, Tryz.f130, go_sem, t0, t1, t2, t3]) rfl ⟨rfl, hb4⟩
  · have hbits : bits .or .u64 (b : Int) ((2 : Int) ^ r) = ((b ||| 2 ^ r : Nat) : Int) := by rw [pow_cast, u64_or_nat _ _ hb hpow]
    generalize (b ||| 2 ^ r : Nat) = y at hbits ⊢
    go_enter Tryz.func130, Tryz.ntmps130
    go_wp2_with fail
    go_region
    go_wp2
    have hq1 := blk_off hk2 (grown_set W2 w.heap.size 1 (.int .u64 (y : Nat))) (by omega)
    obtain ⟨q1, q2⟩ := store4 hq1 (.int .u64 (a : Nat)) (.int .u64 (y : Nat)) (.int .u64 (c : Nat)) (.int .u64 (d : Nat))
    have hb4 := ((HB.out.setCell (p := ⟨w.heap.size, 1, none⟩) (Nat.le_refl _) (.int .u64 (y : Nat))).trans (below_grown q2 (by omega) (HB.out.setCell (p := ⟨w.heap.size, 1, none⟩) (Nat.le_refl _) _).size)).drew
    clear hq1 q2
    generalize (((((W2.setCell ⟨w.heap.size, 1, none⟩ (.int .u64 (y : Nat))).setCell ⟨w.heap.size + 1, 0, none⟩ (.int .u64 (a : Nat))).setCell ⟨w.heap.size + 1, 1, none⟩ (.int .u64 (y : Nat))).setCell ⟨w.heap.size + 1, 2, none⟩ (.int .u64 (c : Nat))).setCell ⟨w.heap.size + 1, 3, none⟩ (.int .u64 (d : Nat))) = w4 at q1 hb4 ⊢
    have q1 : w4.drew.heap[w.heap.size + 1]? = _ := q1
    generalize w4.drew = w5 at q1 hb4 ⊢
    have t0 := cell_of_blk q1 0
    have t1 := cell_of_blk q1 1
    have t2 := cell_of_blk q1 2
    have t3 := cell_of_blk q1 3
    simp only [List.getElem?_toArray, List.getElem?_cons_zero, List.getElem?_cons_succ] at t0 t1 t2 t3
    refine bodyPost_ret (v := _) (by simp [results, Tryz.f130, go_sem, t0, t1, t2, t3]) rfl ⟨rfl, hb4⟩
  · have hbits : bits .or .u64 (c : Int) ((2 : Int) ^ r) = ((c ||| 2 ^ r : Nat) : Int) := by rw [pow_cast, u64_or_nat _ _ hc hpow]
    generalize (c ||| 2 ^ r : Nat) = y at hbits ⊢
    go_enter Tryz.func130, Tryz.ntmps130
    go_wp2_with fail
    go_region
    go_wp2
    have hq1 := blk_off hk2 (grown_set W2 w.heap.size 2 (.int .u64 (y : Nat))) (by omega)
    obtain ⟨q1, q2⟩ := store4 hq1 (.int .u64 (a : Nat)) (.int .u64 (b : Nat)) (.int .u64 (y : Nat)) (.int .u64 (d : Nat))
    have hb4 := ((HB.out.setCell (p := ⟨w.heap.size, 2, none⟩) (Nat.le_refl _) (.int .u64 (y : Nat))).trans (below_grown q2 (by omega) (HB.out.setCell (p := ⟨w.heap.size, 2, none⟩) (Nat.le_refl _) _).size)).drew
    clear hq1 q2
    generalize (((((W2.setCell ⟨w.heap.size, 2, none⟩ (.int .u64 (y : Nat))).setCell ⟨w.heap.size + 1, 0, none⟩ (.int .u64 (a : Nat))).setCell ⟨w.heap.size + 1, 1, none⟩ (.int .u64 (b : Nat))).setCell ⟨w.heap.size + 1, 2, none⟩ (.int .u64 (y : Nat))).setCell ⟨w.heap.size + 1, 3, none⟩ (.int .u64 (d : Nat))) = w4 at q1 hb4 ⊢
    have q1 : w4.drew.heap[w.heap.size + 1]? = _ := q1
    generalize w4.drew = w5 at q1 hb4 ⊢
    have t0 := cell_of_blk q1 0
    have t1 := cell_of_blk q1 1
    have t2 := cell_of_blk q1 2
    have t3 := cell_of_blk q1 3
    simp only [List.getElem?_toArray, List.getElem?_cons_zero, List.getElem?_cons_succ] at t0 t1 t2 t3
    refine bodyPost_ret (v := _) (by simp [results, Tryz.f130, go_sem, t0, t1, t2, t3]) rfl ⟨rfl, hb4⟩
  · have hbits : bits .or .u64 (d : Int) ((2 : Int) ^ r) = ((d ||| 2 ^ r : Nat) : Int) := by rw [pow_cast, u64_or_nat _ _ hd hpow]
    generalize (d ||| 2 ^ r : Nat) = y at hbits ⊢
    go_enter Tryz.func130, Tryz.ntmps130
    go_wp2_with fail
    go_region
    go_wp2
    have hq1 := blk_off hk2 (grown_set W2 w.heap.size 3 (.int .u64 (y : Nat))) (by omega)
    obtain ⟨q1, q2⟩ := store4 hq1 (.int .u64 (a : Nat)) (.int .u64 (b : Nat)) (.int .u64 (c : Nat)) (.int .u64 (y : Nat))
    have hb4 := ((HB.out.setCell (p := ⟨w.heap.size, 3, none⟩) (Nat.le_refl _) (.int .u64 (y : Nat))).trans (below_grown q2 (by omega) (HB.out.setCell (p := ⟨w.heap.size, 3, none⟩) (Nat.le_refl _) _).size)).drew
    clear hq1 q2
    generalize (((((W2.setCell ⟨w.heap.size, 3, none⟩ (.int .u64 (y : Nat))).setCell ⟨w.heap.size + 1, 0, none⟩ (.int .u64 (a : Nat))).setCell ⟨w.heap.size + 1, 1, none⟩ (.int .u64 (b : Nat))).setCell ⟨w.heap.size + 1, 2, none⟩ (.int .u64 (c : Nat))).setCell ⟨w.heap.size + 1, 3, none⟩ (.int .u64 (y : Nat))) = w4 at q1 hb4 ⊢
    have q1 : w4.drew.heap[w.heap.size + 1]? = _ := q1
    generalize w4.drew = w5 at q1 hb4 ⊢
    have t0 := cell_of_blk q1 0
    have t1 := cell_of_blk q1 1
    have t2 := cell_of_blk q1 2
    have t3 := cell_of_blk q1 3
    simp only [List.getElem?_toArray, List.getElem?_cons_zero, List.getElem?_cons_succ] at t0 t1 t2 t3
    refine bodyPost_ret (v := _) (by simp [results, Tryz.f130, go_sem, t0, t1, t2, t3]) rfl ⟨rfl, hb4⟩

theorem withWord (g : Nat → Bool) (k q r : Nat) (hr : r < 64) : (if q = k then bw (fun j => g (64 * k + j)) 64 ||| 2 ^ r else bw (fun j => g (64 * k + j)) 64) = bw (fun j => g (64 * k + j) || 64 * k + j == 64 * q + r) 64 := by
  split
  · rename_i h
    subst h
    rw [← bw_one hr, bw_or]
    refine bw_ext fun i hi => ?_
    have : (i == r) = (64 * q + i == 64 * q + r) := by rw [Bool.eq_iff_iff]; simp
    rw [this]
  · rename_i h
    refine bw_ext fun i hi => ?_
    have : (64 * k + i == 64 * q + r) = false := by simp; omega
    rw [this, Bool.or_false]
theorem bWith_any (p : Nat → Bool) (e : Nat) (he : e < 256) (w : World) : Calls Tryz.prog 130 #[sv p, .int .i64 (e : Nat)] w fun x w' => x = .returned (sv fun i => p i || i == e) ∧ Below w.heap.size w w' := by
  obtain ⟨q, r, hq, hr, rfl⟩ : ∃ q r, q < 4 ∧ r < 64 ∧ e = 64 * q + r := ⟨e / 64, e % 64, by omega, by omega, by omega⟩
  refine (bWith_raw _ _ _ _ q r (bw_lt64 _) (bw_lt64 _) (bw_lt64 _) (bw_lt64 _) hq hr w).mono ?_
  rintro x w' ⟨rfl, hb⟩
  refine ⟨?_, hb⟩
  have h0 := withWord p 0 q r hr
  have h1 := withWord p 1 q r hr
  have h2 := withWord p 2 q r hr
  have h3 := withWord p 3 q r hr
  simp only [Nat.mul_zero, Nat.zero_add, Nat.mul_one, show 64 * 2 = 128 from rfl, show 64 * 3 = 192 from rfl] at h0 h1 h2 h3
  unfold withW sv
  rw [h0, h1, h2, h3]

set_option maxRecDepth 100000 in
set_option maxHeartbeats 2000000 in
theorem bAnd_raw (a b c d e f g h : Nat) (ha : a < 18446744073709551616) (hb : b < 18446744073709551616) (hc : c < 18446744073709551616) (hd : d < 18446744073709551616) (he : e < 18446744073709551616) (hf : f < 18446744073709551616) (hg : g < 18446744073709551616) (hh : h < 18446744073709551616) (w : World) :
    Calls Tryz.prog 171 #[wv a b c d, wv e f g h] w fun x w' => x = .returned (wv (a &&& e) (b &&& f) (c &&& g) (d &&& h)) ∧ Below w.heap.size w w' := by
  have q0 : bits .and .u64 (a : Int) (e : Int) = ((a &&& e : Nat) : Int) := u64_and_nat _ _ ha he
  have q1 : bits .and .u64 (b : Int) (f : Int) = ((b &&& f : Nat) : Int) := u64_and_nat _ _ hb hf
  have q2 : bits .and .u64 (c : Int) (g : Int) = ((c &&& g : Nat) : Int) := u64_and_nat _ _ hc hg
  have q3 : bits .and .u64 (d : Int) (h : Int) = ((d &&& h : Nat) : Int) := u64_and_nat _ _ hd hh
  generalize (a &&& e : Nat) = x0 at q0 ⊢
  generalize (b &&& f : Nat) = x1 at q1 ⊢
  generalize (c &&& g : Nat) = x2 at q2 ⊢
  generalize (d &&& h : Nat) = x3 at q3 ⊢
  obtain ⟨W1, hW1, hB1, hs1, hk1⟩ := newBlk w _ rfl #[.int .u64 (a : Nat), .int .u64 (b : Nat), .int .u64 (c : Nat), .int .u64 (d : Nat)] 145
  obtain ⟨W2, hW2, hB2, hs2, hk2⟩ := newBlk W1 _ hs1 #[.int .u64 (e : Nat), .int .u64 (f : Nat), .int .u64 (g : Nat), .int .u64 (h : Nat)] 145
  obtain ⟨W3, hW3, hB3, hs3, hk3⟩ := newBlk W2 _ hs2 #[.int .u64 0, .int .u64 0, .int .u64 0, .int .u64 0] 145
  have hB : Below w.heap.size w W3 := (hB1.trans (hB2.mono (by omega))).trans (hB3.mono (by omega))
  have hk13 := (hB3.block w.heap.size (by omega)).trans ((hB2.block w.heap.size (by omega)).trans hk1)
  have hk23 := (hB3.block (w.heap.size + 1) (by omega)).trans hk2
  have HB := Lib.hid hB
  unfold wv
  clear hB hB1 hB2 hB3 hk1 hk2
  go_enter Tryz.func171, Tryz.ntmps171
  go_wp2_with fail
  go_loopw [6] (fun i wr => wr.heap[w.heap.size + 1]? = some (.cells #[.int .u64 (e : Nat), .int .u64 (f : Nat), .int .u64 (g : Nat), .int .u64 (h : Nat)] 145) ∧ (∃ v, wr.heap[w.heap.size + 1 + 1]? = some (.cells v 145) ∧ v.size = 4) ∧ Below w.heap.size w wr ∧ ((i = .int .i64 0 ∧ wr.heap[w.heap.size]? = some (.cells #[.int .u64 (a : Nat), .int .u64 (b : Nat), .int .u64 (c : Nat), .int .u64 (d : Nat)] 145)) ∨ (i = .int .i64 1 ∧ wr.heap[w.heap.size]? = some (.cells #[.int .u64 (x0 : Nat), .int .u64 (b : Nat), .int .u64 (c : Nat), .int .u64 (d : Nat)] 145)) ∨ (i = .int .i64 2 ∧ wr.heap[w.heap.size]? = some (.cells #[.int .u64 (x0 : Nat), .int .u64 (x1 : Nat), .int .u64 (c : Nat), .int .u64 (d : Nat)] 145)) ∨ (i = .int .i64 3 ∧ wr.heap[w.heap.size]? = some (.cells #[.int .u64 (x0 : Nat), .int .u64 (x1 : Nat), .int .u64 (x2 : Nat), .int .u64 (d : Nat)] 145)) ∨ (i = .int .i64 4 ∧ wr.heap[w.heap.size]? = some (.cells #[.int .u64 (x0 : Nat), .int .u64 (x1 : Nat), .int .u64 (x2 : Nat), .int .u64 (x3 : Nat)] 145)))) (fun i _ => 4 - (intOf i).toNat)
  case atStart => exact ⟨hk23, ⟨_, hk3, rfl⟩, HB.out, .inl ⟨rfl, hk13⟩⟩
  case round =>
    obtain ⟨hkB, ⟨vr, hkR, hvr⟩, hbw, hinv⟩ := hrel
    have e0 := cell_of_blk hkB 0
    have e1 := cell_of_blk hkB 1
    have e2 := cell_of_blk hkB 2
    have e3 := cell_of_blk hkB 3
    simp only [List.getElem?_toArray, List.getElem?_cons_zero, List.getElem?_cons_succ] at e0 e1 e2 e3
    rcases hinv with ⟨rfl, hkA⟩ | ⟨rfl, hkA⟩ | ⟨rfl, hkA⟩ | ⟨rfl, hkA⟩ | ⟨rfl, hkA⟩
    · have c0 := cell_of_blk hkA 0
      have c1 := cell_of_blk hkA 1
      have c2 := cell_of_blk hkA 2
      have c3 := cell_of_blk hkA 3
      have f0 := frozen_of_blk hkA 0
      simp only [List.getElem?_toArray, List.getElem?_cons_zero, List.getElem?_cons_succ] at c0 c1 c2 c3
      go_wp2_with fail
      go_region
      go_wp2
      go_roundw
      case rel =>
        have z1 := blk_off hkB (grown_set wr w.heap.size 0 (.int .u64 (x0 : Nat))) (by omega)
        have z2 := blk_off hkR (grown_set wr w.heap.size 0 (.int .u64 (x0 : Nat))) (by omega)
        exact ⟨z1, ⟨vr, z2, hvr⟩, (hbw.setCell (p := ⟨w.heap.size, 0, none⟩) (Nat.le_refl _) (.int .u64 (x0 : Nat))).drew, .inr (.inl ⟨rfl, blk_set hkA 0 (.int .u64 (x0 : Nat))⟩)⟩
      case measure => simp [intOf]
    · have c0 := cell_of_blk hkA 0
      have c1 := cell_of_blk hkA 1
      have c2 := cell_of_blk hkA 2
      have c3 := cell_of_blk hkA 3
      have f0 := frozen_of_blk hkA 1
      simp only [List.getElem?_toArray, List.getElem?_cons_zero, List.getElem?_cons_succ] at c0 c1 c2 c3
      go_wp2_with fail
      go_region
      go_wp2
      go_roundw
      case rel =>
        have z1 := blk_off hkB (grown_set wr w.heap.size 1 (.int .u64 (x1 : Nat))) (by omega)
        have z2 := blk_off hkR (grown_set wr w.heap.size 1 (.int .u64 (x1 : Nat))) (by omega)
        exact ⟨z1, ⟨vr, z2, hvr⟩, (hbw.setCell (p := ⟨w.heap.size, 1, none⟩) (Nat.le_refl _) (.int .u64 (x1 : Nat))).drew, .inr (.inr (.inl ⟨rfl, blk_set hkA 1 (.int .u64 (x1 : Nat))⟩))⟩
      case measure => simp [intOf]
    · have c0 := cell_of_blk hkA 0
      have c1 := cell_of_blk hkA 1
      have c2 := cell_of_blk hkA 2
      have c3 := cell_of_blk hkA 3
      have f0 := frozen_of_blk hkA 2
      simp only [List.getElem?_toArray, List.getElem?_cons_zero, List.getElem?_cons_succ] at c0 c1 c2 c3
      go_wp2_with fail
      go_region
      go_wp2
      go_roundw
      case rel =>
        have z1 := blk_off hkB (grown_set wr w.heap.size 2 (.int .u64 (x2 : Nat))) (by omega)
        have z2 := blk_off hkR (grown_set wr w.heap.size 2 (.int .u64 (x2 : Nat))) (by omega)
        exact ⟨z1, ⟨vr, z2, hvr⟩, (hbw.setCell (p := ⟨w.heap.size, 2, none⟩) (Nat.le_refl _) (.int .u64 (x2 : Nat))).drew, .inr (.inr (.inr (.inl ⟨rfl, blk_set hkA 2 (.int .u64 (x2 : Nat))⟩)))⟩
      case measure => simp [intOf]
    · have c0 := cell_of_blk hkA 0
      have c1 := cell_of_blk hkA 1
      have c2 := cell_of_blk hkA 2
      have c3 := cell_of_blk hkA 3
      have f0 := frozen_of_blk hkA 3
      simp only [List.getElem?_toArray, List.getElem?_cons_zero, List.getElem?_cons_succ] at c0 c1 c2 c3
      go_wp2_with fail
      go_region
      go_wp2
      go_roundw
      case rel =>
        have z1 := blk_off hkB (grown_set wr w.heap.size 3 (.int .u64 (x3 : Nat))) (by omega)
        have z2 := blk_off hkR (grown_set wr w.heap.size 3 (.int .u64 (x3 : Nat))) (by omega)
        exact ⟨z1, ⟨vr, z2, hvr⟩, (hbw.setCell (p := ⟨w.heap.size, 3, none⟩) (Nat.le_refl _) (.int .u64 (x3 : Nat))).drew, .inr (.inr (.inr (.inr (⟨rfl, blk_set hkA 3 (.int .u64 (x3 : Nat))⟩))))⟩
      case measure => simp [intOf]
    · have c0 := cell_of_blk hkA 0
      have c1 := cell_of_blk hkA 1
      have c2 := cell_of_blk hkA 2
      have c3 := cell_of_blk hkA 3
      have f0 := frozen_of_blk hkR 0
      have f1 := frozen_of_blk hkR 1
      have f2 := frozen_of_blk hkR 2
      have f3 := frozen_of_blk hkR 3
      obtain ⟨rl⟩ := vr
      match rl, hvr with
      | [y0, y1, y2, y3], _ =>
        have d0 := cell_of_blk hkR 0
        have d1 := cell_of_blk hkR 1
        have d2 := cell_of_blk hkR 2
        have d3 := cell_of_blk hkR 3
        simp only [List.getElem?_toArray, List.getElem?_cons_zero, List.getElem?_cons_succ] at c0 c1 c2 c3 d0 d1 d2 d3
        obtain ⟨q1', q2'⟩ := store4 hkR (.int .u64 (x0 : Nat)) (.int .u64 (x1 : Nat)) (.int .u64 (x2 : Nat)) (.int .u64 (x3 : Nat))
        have hb4 := hbw.trans (below_grown q2' (by omega) hbw.size)
        go_wp2
        generalize ((((wr.setCell ⟨w.heap.size + 1 + 1, 0, none⟩ (.int .u64 (x0 : Nat))).setCell ⟨w.heap.size + 1 + 1, 1, none⟩ (.int .u64 (x1 : Nat))).setCell ⟨w.heap.size + 1 + 1, 2, none⟩ (.int .u64 (x2 : Nat))).setCell ⟨w.heap.size + 1 + 1, 3, none⟩ (.int .u64 (x3 : Nat))) = w5 at q1' hb4 ⊢
        have t0 := cell_of_blk q1' 0
        have t1 := cell_of_blk q1' 1
        have t2 := cell_of_blk q1' 2
        have t3 := cell_of_blk q1' 3
        simp only [List.getElem?_toArray, List.getElem?_cons_zero, List.getElem?_cons_succ] at t0 t1 t2 t3
        refine bodyPost_ret (v := _) (by simp [results, Tryz.f171, go_sem, t0, t1, t2, t3]) rfl ⟨rfl, hb4⟩

set_option maxRecDepth 100000 in
set_option maxHeartbeats 2000000 in
theorem bOr_raw (a b c d e f g h : Nat) (ha : a < 18446744073709551616) (hb : b < 18446744073709551616) (hc : c < 18446744073709551616) (hd : d < 18446744073709551616) (he : e < 18446744073709551616) (hf : f < 18446744073709551616) (hg : g < 18446744073709551616) (hh : h < 18446744073709551616) (w : World) :
    Calls Tryz.prog 172 #[wv a b c d, wv e f g h] w fun x w' => x = .returned (wv (a ||| e) (b ||| f) (c ||| g) (d ||| h)) ∧ Below w.heap.size w w' := by
  have q0 : bits .or .u64 (a : Int) (e : Int) = ((a ||| e : Nat) : Int) := u64_or_nat _ _ ha he
  have q1 : bits .or .u64 (b : Int) (f : Int) = ((b ||| f : Nat) : Int) := u64_or_nat _ _ hb hf
  have q2 : bits .or .u64 (c : Int) (g : Int) = ((c ||| g : Nat) : Int) := u64_or_nat _ _ hc hg
  have q3 : bits .or .u64 (d : Int) (h : Int) = ((d ||| h : Nat) : Int) := u64_or_nat _ _ hd hh
  generalize (a ||| e : Nat) = x0 at q0 ⊢
  generalize (b ||| f : Nat) = x1 at q1 ⊢
  generalize (c ||| g : Nat) = x2 at q2 ⊢
  generalize (d ||| h : Nat) = x3 at q3 ⊢
  obtain ⟨W1, hW1, hB1, hs1, hk1⟩ := newBlk w _ rfl #[.int .u64 (a : Nat), .int .u64 (b : Nat), .int .u64 (c : Nat), .int .u64 (d : Nat)] 145
  obtain ⟨W2, hW2, hB2, hs2, hk2⟩ := newBlk W1 _ hs1 #[.int .u64 (e : Nat), .int .u64 (f : Nat), .int .u64 (g : Nat), .int .u64 (h : Nat)] 145
  obtain ⟨W3, hW3, hB3, hs3, hk3⟩ := newBlk W2 _ hs2 #[.int .u64 0, .int .u64 0, .int .u64 0, .int .u64 0] 145
  have hB : Below w.heap.size w W3 := (hB1.trans (hB2.mono (by omega))).trans (hB3.mono (by omega))
  have hk13 := (hB3.block w.heap.size (by omega)).trans ((hB2.block w.heap.size (by omega)).trans hk1)
  have hk23 := (hB3.block (w.heap.size + 1) (by omega)).trans hk2
  have HB := Lib.hid hB
  unfold wv
  clear hB hB1 hB2 hB3 hk1 hk2
  go_enter Tryz.func172, Tryz.ntmps172
  go_wp2_with fail
  go_loopw [6] (fun i wr => wr.heap[w.heap.size + 1]? = some (.cells #[.int .u64 (e : Nat), .int .u64 (f : Nat), .int .u64 (g : Nat), .int .u64 (h : Nat)] 145) ∧ (∃ v, wr.heap[w.heap.size + 1 + 1]? = some (.cells v 145) ∧ v.size = 4) ∧ Below w.heap.size w wr ∧ ((i = .int .i64 0 ∧ wr.heap[w.heap.size]? = some (.cells #[.int .u64 (a : Nat), .int .u64 (b : Nat), .int .u64 (c : Nat), .int .u64 (d : Nat)] 145)) ∨ (i = .int .i64 1 ∧ wr.heap[w.heap.size]? = some (.cells #[.int .u64 (x0 : Nat), .int .u64 (b : Nat), .int .u64 (c : Nat), .int .u64 (d : Nat)] 145)) ∨ (i = .int .i64 2 ∧ wr.heap[w.heap.size]? = some (.cells #[.int .u64 (x0 : Nat), .int .u64 (x1 : Nat), .int .u64 (c : Nat), .int .u64 (d : Nat)] 145)) ∨ (i = .int .i64 3 ∧ wr.heap[w.heap.size]? = some (.cells #[.int .u64 (x0 : Nat), .int .u64 (x1 : Nat), .int .u64 (x2 : Nat), .int .u64 (d : Nat)] 145)) ∨ (i = .int .i64 4 ∧ wr.heap[w.heap.size]? = some (.cells #[.int .u64 (x0 : Nat), .int .u64 (x1 : Nat), .int .u64 (x2 : Nat), .int .u64 (x3 : Nat)] 145)))) (fun i _ => 4 - (intOf i).toNat)
  case atStart => exact ⟨hk23, ⟨_, hk3, rfl⟩, HB.out, .inl ⟨rfl, hk13⟩⟩
  case round =>
    obtain ⟨hkB, ⟨vr, hkR, hvr⟩, hbw, hinv⟩ := hrel
    have e0 := cell_of_blk hkB 0
    have e1 := cell_of_blk hkB 1
    have e2 := cell_of_blk hkB 2
    have e3 := cell_of_blk hkB 3
    simp only [List.getElem?_toArray, List.getElem?_cons_zero, List.getElem?_cons_succ] at e0 e1 e2 e3
    rcases hinv with ⟨rfl, hkA⟩ | ⟨rfl, hkA⟩ | ⟨rfl, hkA⟩ | ⟨rfl, hkA⟩ | ⟨rfl, hkA⟩
    · have c0 := cell_of_blk hkA 0
      have c1 := cell_of_blk hkA 1
      have c2 := cell_of_blk hkA 2
      have c3 := cell_of_blk hkA 3
      have f0 := frozen_of_blk hkA 0
      simp only [List.getElem?_toArray, List.getElem?_cons_zero, List.getElem?_cons_succ] at c0 c1 c2 c3
      go_wp2_with fail
      go_region
      go_wp2
      go_roundw
      case rel =>
        have z1 := blk_off hkB (grown_set wr w.heap.size 0 (.int .u64 (x0 : Nat))) (by omega)
        have z2 := blk_off hkR (grown_set wr w.heap.size 0 (.int .u64 (x0 : Nat))) (by omega)
        exact ⟨z1, ⟨vr, z2, hvr⟩, (hbw.setCell (p := ⟨w.heap.size, 0, none⟩) (Nat.le_refl _) (.int .u64 (x0 : Nat))).drew, .inr (.inl ⟨rfl, blk_set hkA 0 (.int .u64 (x0 : Nat))⟩)⟩
      case measure => simp [intOf]
    · have c0 := cell_of_blk hkA 0
      have c1 := cell_of_blk hkA 1
      have c2 := cell_of_blk hkA 2
      have c3 := cell_of_blk hkA 3
      have f0 := frozen_of_blk hkA 1
      simp only [List.getElem?_toArray, List.getElem?_cons_zero, List.getElem?_cons_succ] at c0 c1 c2 c3
      go_wp2_with fail
      go_region
      go_wp2
      go_roundw
      case rel =>
        have z1 := blk_off hkB (grown_set wr w.heap.size 1 (.int .u64 (x1 : Nat))) (by omega)
        have z2 := blk_off hkR (grown_set wr w.heap.size 1 (.int .u64 (x1 : Nat))) (by omega)
        exact ⟨z1, ⟨vr, z2, hvr⟩, (hbw.setCell (p := ⟨w.heap.size, 1, none⟩) (Nat.le_refl _) (.int .u64 (x1 : Nat))).drew, .inr (.inr (.inl ⟨rfl, blk_set hkA 1 (.int .u64 (x1 : Nat))⟩))⟩
      case measure => simp [intOf]
    · have c0 := cell_of_blk hkA 0
      have c1 := cell_of_blk hkA 1
      have c2 := cell_of_blk hkA 2
      have c3 := cell_of_blk hkA 3
      have f0 := frozen_of_blk hkA 2
      simp only [List.getElem?_toArray, List.getElem?_cons_zero, List.getElem?_cons_succ] at c0 c1 c2 c3
      go_wp2_with fail
      go_region
      go_wp2
      go_roundw
      case rel =>
        have z1 := blk_off hkB (grown_set wr w.heap.size 2 (.int .u64 (x2 : Nat))) (by omega)
        have z2 := blk_off hkR (grown_set wr w.heap.size 2 (.int .u64 (x2 : Nat))) (by omega)
        exact ⟨z1, ⟨vr, z2, hvr⟩, (hbw.setCell (p := ⟨w.heap.size, 2, none⟩) (Nat.le_refl _) (.int .u64 (x2 : Nat))).drew, .inr (.inr (.inr (.inl ⟨rfl, blk_set hkA 2 (.int .u64 (x2 : Nat))⟩)))⟩
      case measure => simp [intOf]
    · have c0 := cell_of_blk hkA 0
      have c1 := cell_of_blk hkA 1
      have c2 := cell_of_blk hkA 2
      have c3 := cell_of_blk hkA 3
      have f0 := frozen_of_blk hkA 3
      simp only [List.getElem?_toArray, List.getElem?_cons_zero, List.getElem?_cons_succ] at c0 c1 c2 c3
      go_wp2_with fail
      go_region
      go_wp2
      go_roundw
      case rel =>
        have z1 := blk_off hkB (grown_set wr w.heap.size 3 (.int .u64 (x3 : Nat))) (by omega)
        have z2 := blk_off hkR (grown_set wr w.heap.size 3 (.int .u64 (x3 : Nat))) (by omega)
        exact ⟨z1, ⟨vr, z2, hvr⟩, (hbw.setCell (p := ⟨w.heap.size, 3, none⟩) (Nat.le_refl _) (.int .u64 (x3 : Nat))).drew, .inr (.inr (.inr (.inr (⟨rfl, blk_set hkA 3 (.int .u64 (x3 : Nat))⟩))))⟩
      case measure => simp [intOf]
    · have c0 := cell_of_blk hkA 0
      have c1 := cell_of_blk hkA 1
      have c2 := cell_of_blk hkA 2
      have c3 := cell_of_blk hkA 3
      have f0 := frozen_of_blk hkR 0
      have f1 := frozen_of_blk hkR 1
      have f2 := frozen_of_blk hkR 2
      have f3 := frozen_of_blk hkR 3
      obtain ⟨rl⟩ := vr
      match rl, hvr with
      | [y0, y1, y2, y3], _ =>
        have d0 := cell_of_blk hkR 0
        have d1 := cell_of_blk hkR 1
        have d2 := cell_of_blk hkR 2
        have d3 := cell_of_blk hkR 3
        simp only [List.getElem?_toArray, List.getElem?_cons_zero, List.getElem?_cons_succ] at c0 c1 c2 c3 d0 d1 d2 d3
        obtain ⟨q1', q2'⟩ := store4 hkR (.int .u64 (x0 : Nat)) (.int .u64 (x1 : Nat)) (.int .u64 (x2 : Nat)) (.int .u64 (x3 : Nat))
        have hb4 := hbw.trans (below_grown q2' (by omega) hbw.size)
        go_wp2
        generalize ((((wr.setCell ⟨w.heap.size + 1 + 1, 0, none⟩ (.int .u64 (x0 : Nat))).setCell ⟨w.heap.size + 1 + 1, 1, none⟩ (.int .u64 (x1 : Nat))).setCell ⟨w.heap.size + 1 + 1, 2, none⟩ (.int .u64 (x2 : Nat))).setCell ⟨w.heap.size + 1 + 1, 3, none⟩ (.int .u64 (x3 : Nat))) = w5 at q1' hb4 ⊢
        have t0 := cell_of_blk q1' 0
        have t1 := cell_of_blk q1' 1
        have t2 := cell_of_blk q1' 2
        have t3 := cell_of_blk q1' 3
        simp only [List.getElem?_toArray, List.getElem?_cons_zero, List.getElem?_cons_succ] at t0 t1 t2 t3
        refine bodyPost_ret (v := _) (by simp [results, Tryz.f172, go_sem, t0, t1, t2, t3]) rfl ⟨rfl, hb4⟩

set_option maxRecDepth 100000 in
set_option maxHeartbeats 2000000 in
theorem bMinus_raw (a b c d e f g h : Nat) (ha : a < 18446744073709551616) (hb : b < 18446744073709551616) (hc : c < 18446744073709551616) (hd : d < 18446744073709551616) (he : e < 18446744073709551616) (hf : f < 18446744073709551616) (hg : g < 18446744073709551616) (hh : h < 18446744073709551616) (w : World) :
    Calls Tryz.prog 170 #[wv a b c d, wv e f g h] w fun x w' => x = .returned (wv (a &&& (18446744073709551615 - e)) (b &&& (18446744073709551615 - f)) (c &&& (18446744073709551615 - g)) (d &&& (18446744073709551615 - h))) ∧ Below w.heap.size w w' := by
  have q0 : bits .andNot .u64 (a : Int) (e : Int) = ((a &&& (18446744073709551615 - e) : Nat) : Int) := u64_andNot_nat _ _ ha he
  have q1 : bits .andNot .u64 (b : Int) (f : Int) = ((b &&& (18446744073709551615 - f) : Nat) : Int) := u64_andNot_nat _ _ hb hf
  have q2 : bits .andNot .u64 (c : Int) (g : Int) = ((c &&& (18446744073709551615 - g) : Nat) : Int) := u64_andNot_nat _ _ hc hg
  have q3 : bits .andNot .u64 (d : Int) (h : Int) = ((d &&& (18446744073709551615 - h) : Nat) : Int) := u64_andNot_nat _ _ hd hh
  generalize (a &&& (18446744073709551615 - e) : Nat) = x0 at q0 ⊢
  generalize (b &&& (18446744073709551615 - f) : Nat) = x1 at q1 ⊢
  generalize (c &&& (18446744073709551615 - g) : Nat) = x2 at q2 ⊢
  generalize (d &&& (18446744073709551615 - h) : Nat) = x3 at q3 ⊢
  obtain ⟨W1, hW1, hB1, hs1, hk1⟩ := newBlk w _ rfl #[.int .u64 (a : Nat), .int .u64 (b : Nat), .int .u64 (c : Nat), .int .u64 (d : Nat)] 145
  obtain ⟨W2, hW2, hB2, hs2, hk2⟩ := newBlk W1 _ hs1 #[.int .u64 (e : Nat), .int .u64 (f : Nat), .int .u64 (g : Nat), .int .u64 (h : Nat)] 145
  obtain ⟨W3, hW3, hB3, hs3, hk3⟩ := newBlk W2 _ hs2 #[.int .u64 0, .int .u64 0, .int .u64 0, .int .u64 0] 145
  have hB : Below w.heap.size w W3 := (hB1.trans (hB2.mono (by omega))).trans (hB3.mono (by omega))
  have hk13 := (hB3.block w.heap.size (by omega)).trans ((hB2.block w.heap.size (by omega)).trans hk1)
  have hk23 := (hB3.block (w.heap.size + 1) (by omega)).trans hk2
  have HB := Lib.hid hB
  unfold wv
  clear hB hB1 hB2 hB3 hk1 hk2
  go_enter Tryz.func170, Tryz.ntmps170
  go_wp2_with fail
  go_loopw [6] (fun i wr => wr.heap[w.heap.size + 1]? = some (.cells #[.int .u64 (e : Nat), .int .u64 (f : Nat), .int .u64 (g : Nat), .int .u64 (h : Nat)] 145) ∧ (∃ v, wr.heap[w.heap.size + 1 + 1]? = some (.cells v 145) ∧ v.size = 4) ∧ Below w.heap.size w wr ∧ ((i = .int .i64 0 ∧ wr.heap[w.heap.size]? = some (.cells #[.int .u64 (a : Nat), .int .u64 (b : Nat), .int .u64 (c : Nat), .int .u64 (d : Nat)] 145)) ∨ (i = .int .i64 1 ∧ wr.heap[w.heap.size]? = some (.cells #[.int .u64 (x0 : Nat), .int .u64 (b : Nat), .int .u64 (c : Nat), .int .u64 (d : Nat)] 145)) ∨ (i = .int .i64 2 ∧ wr.heap[w.heap.size]? = some (.cells #[.int .u64 (x0 : Nat), .int .u64 (x1 : Nat), .int .u64 (c : Nat), .int .u64 (d : Nat)] 145)) ∨ (i = .int .i64 3 ∧ wr.heap[w.heap.size]? = some (.cells #[.int .u64 (x0 : Nat), .int .u64 (x1 : Nat), .int .u64 (x2 : Nat), .int .u64 (d : Nat)] 145)) ∨ (i = .int .i64 4 ∧ wr.heap[w.heap.size]? = some (.cells #[.int .u64 (x0 : Nat), .int .u64 (x1 : Nat), .int .u64 (x2 : Nat), .int .u64 (x3 : Nat)] 145)))) (fun i _ => 4 - (intOf i).toNat)
  case atStart => exact ⟨hk23, ⟨_, hk3, rfl⟩, HB.out, .inl ⟨rfl, hk13⟩⟩
  case round =>
    obtain ⟨hkB, ⟨vr, hkR, hvr⟩, hbw, hinv⟩ := hrel
    have e0 := cell_of_blk hkB 0
    have e1 := cell_of_blk hkB 1
    have e2 := cell_of_blk hkB 2
    have e3 := cell_of_blk hkB 3
    simp only [List.getElem?_toArray, List.getElem?_cons_zero, List.getElem?_cons_succ] at e0 e1 e2 e3
    rcases hinv with ⟨rfl, hkA⟩ | ⟨rfl, hkA⟩ | ⟨rfl, hkA⟩ | ⟨rfl, hkA⟩ | ⟨rfl, hkA⟩
    · have c0 := cell_of_blk hkA 0
      have c1 := cell_of_blk hkA 1
      have c2 := cell_of_blk hkA 2
      have c3 := cell_of_blk hkA 3
      have f0 := frozen_of_blk hkA 0
      simp only [List.getElem?_toArray, List.getElem?_cons_zero, List.getElem?_cons_succ] at c0 c1 c2 c3
      go_wp2_with fail
      go_region
      go_wp2
      go_roundw
      case rel =>
        have z1 := blk_off hkB (grown_set wr w.heap.size 0 (.int .u64 (x0 : Nat))) (by omega)
        have z2 := blk_off hkR (grown_set wr w.heap.size 0 (.int .u64 (x0 : Nat))) (by omega)
        exact ⟨z1, ⟨vr, z2, hvr⟩, (hbw.setCell (p := ⟨w.heap.size, 0, none⟩) (Nat.le_refl _) (.int .u64 (x0 : Nat))).drew, .inr (.inl ⟨rfl, blk_set hkA 0 (.int .u64 (x0 : Nat))⟩)⟩
      case measure => simp [intOf]
    · have c0 := cell_of_blk hkA 0
      have c1 := cell_of_blk hkA 1
      have c2 := cell_of_blk hkA 2
      have c3 := cell_of_blk hkA 3
      have f0 := frozen_of_blk hkA 1
      simp only [List.getElem?_toArray, List.getElem?_cons_zero, List.getElem?_cons_succ] at c0 c1 c2 c3
      go_wp2_with fail
      go_region
      go_wp2
      go_roundw
      case rel =>
        have z1 := blk_off hkB (grown_set wr w.heap.size 1 (.int .u64 (x1 : Nat))) (by omega)
        have z2 := blk_off hkR (grown_set wr w.heap.size 1 (.int .u64 (x1 : Nat))) (by omega)
        exact ⟨z1, ⟨vr, z2, hvr⟩, (hbw.setCell (p := ⟨w.heap.size, 1, none⟩) (Nat.le_refl _) (.int .u64 (x1 : Nat))).drew, .inr (.inr (.inl ⟨rfl, blk_set hkA 1 (.int .u64 (x1 : Nat))⟩))⟩
      case measure => simp [intOf]
    · have c0 := cell_of_blk hkA 0
      have c1 := cell_of_blk hkA 1
      have c2 := cell_of_blk hkA 2
      have c3 := cell_of_blk hkA 3
      have f0 := frozen_of_blk hkA 2
      simp only [List.getElem?_toArray, List.getElem?_cons_zero, List.getElem?_cons_succ] at c0 c1 c2 c3
      go_wp2_with fail
      go_region
      go_wp2
      go_roundw
      case rel =>
        have z1 := blk_off hkB (grown_set wr w.heap.size 2 (.int .u64 (x2 : Nat))) (by omega)
        have z2 := blk_off hkR (grown_set wr w.heap.size 2 (.int .u64 (x2 : Nat))) (by omega)
        exact ⟨z1, ⟨vr, z2, hvr⟩, (hbw.setCell (p := ⟨w.heap.size, 2, none⟩) (Nat.le_refl _) (.int .u64 (x2 : Nat))).drew, .inr (.inr (.inr (.inl ⟨rfl, blk_set hkA 2 (.int .u64 (x2 : Nat))⟩)))⟩
      case measure => simp [intOf]
    · have c0 := cell_of_blk hkA 0
      have c1 := cell_of_blk hkA 1
      have c2 := cell_of_blk hkA 2
      have c3 := cell_of_blk hkA 3
      have f0 := frozen_of_blk hkA 3
      simp only [List.getElem?_toArray, List.getElem?_cons_zero, List.getElem?_cons_succ] at c0 c1 c2 c3
      go_wp2_with fail
      go_region
      go_wp2
      go_roundw
      case rel =>
        have z1 := blk_off hkB (grown_set wr w.heap.size 3 (.int .u64 (x3 : Nat))) (by omega)
        have z2 := blk_off hkR (grown_set wr w.heap.size 3 (.int .u64 (x3 : Nat))) (by omega)
        exact ⟨z1, ⟨vr, z2, hvr⟩, (hbw.setCell (p := ⟨w.heap.size, 3, none⟩) (Nat.le_refl _) (.int .u64 (x3 : Nat))).drew, .inr (.inr (.inr (.inr (⟨rfl, blk_set hkA 3 (.int .u64 (x3 : Nat))⟩))))⟩
      case measure => simp [intOf]
    · have c0 := cell_of_blk hkA 0
      have c1 := cell_of_blk hkA 1
      have c2 := cell_of_blk hkA 2
      have c3 := cell_of_blk hkA 3
      have f0 := frozen_of_blk hkR 0
      have f1 := frozen_of_blk hkR 1
      have f2 := frozen_of_blk hkR 2
      have f3 := frozen_of_blk hkR 3
      obtain ⟨rl⟩ := vr
      match rl, hvr with
      | [y0, y1, y2, y3], _ =>
        have d0 := cell_of_blk hkR 0
        have d1 := cell_of_blk hkR 1
        have d2 := cell_of_blk hkR 2
        have d3 := cell_of_blk hkR 3
        simp only [List.getElem?_toArray, List.getElem?_cons_zero, List.getElem?_cons_succ] at c0 c1 c2 c3 d0 d1 d2 d3
        obtain ⟨q1', q2'⟩ := store4 hkR (.int .u64 (x0 : Nat)) (.int .u64 (x1 : Nat)) (.int .u64 (x2 : Nat)) (.int .u64 (x3 : Nat))
        have hb4 := hbw.trans (below_grown q2' (by omega) hbw.size)
        go_wp2
        generalize ((((wr.setCell ⟨w.heap.size + 1 + 1, 0, none⟩ (.int .u64 (x0 : Nat))).setCell ⟨w.heap.size + 1 + 1, 1, none⟩ (.int .u64 (x1 : Nat))).setCell ⟨w.heap.size + 1 + 1, 2, none⟩ (.int .u64 (x2 : Nat))).setCell ⟨w.heap.size + 1 + 1, 3, none⟩ (.int .u64 (x3 : Nat))) = w5 at q1' hb4 ⊢
        have t0 := cell_of_blk q1' 0
        have t1 := cell_of_blk q1' 1
        have t2 := cell_of_blk q1' 2
        have t3 := cell_of_blk q1' 3
        simp only [List.getElem?_toArray, List.getElem?_cons_zero, List.getElem?_cons_succ] at t0 t1 t2 t3
        refine bodyPost_ret (v := _) (by simp [results, Tryz.f170, go_sem, t0, t1, t2, t3]) rfl ⟨rfl, hb4⟩
theorem bAnd_any (p q : Nat → Bool) (w : World) : Calls Tryz.prog 171 #[sv p, sv q] w fun x w' => x = .returned (sv fun i => p i && q i) ∧ Below w.heap.size w w' := by
  refine (bAnd_raw _ _ _ _ _ _ _ _ (bw_lt64 _) (bw_lt64 _) (bw_lt64 _) (bw_lt64 _) (bw_lt64 _) (bw_lt64 _) (bw_lt64 _) (bw_lt64 _) w).mono ?_
  rintro x w' ⟨rfl, hb⟩
  exact ⟨by unfold sv; rw [bw_and, bw_and, bw_and, bw_and], hb⟩
theorem bOr_any (p q : Nat → Bool) (w : World) : Calls Tryz.prog 172 #[sv p, sv q] w fun x w' => x = .returned (sv fun i => p i || q i) ∧ Below w.heap.size w w' := by
  refine (bOr_raw _ _ _ _ _ _ _ _ (bw_lt64 _) (bw_lt64 _) (bw_lt64 _) (bw_lt64 _) (bw_lt64 _) (bw_lt64 _) (bw_lt64 _) (bw_lt64 _) w).mono ?_
  rintro x w' ⟨rfl, hb⟩
  exact ⟨by unfold sv; rw [bw_or, bw_or, bw_or, bw_or], hb⟩
theorem bMinus_any (p q : Nat → Bool) (w : World) : Calls Tryz.prog 170 #[sv p, sv q] w fun x w' => x = .returned (sv fun i => p i && !q i) ∧ Below w.heap.size w w' := by
  refine (bMinus_raw _ _ _ _ _ _ _ _ (bw_lt64 _) (bw_lt64 _) (bw_lt64 _) (bw_lt64 _) (bw_lt64 _) (bw_lt64 _) (bw_lt64 _) (bw_lt64 _) w).mono ?_
  rintro x w' ⟨rfl, hb⟩
  exact ⟨by unfold sv; rw [bw_minus, bw_minus, bw_minus, bw_minus], hb⟩
end Go.Proofs.YtndkcimajeofcaaGreatDoor

namespace Go.Proofs.YtndkcimajeofcaaGreatDoor
open Go.RowKit

set_option maxRecDepth 100000 in
set_option maxHeartbeats 1000000 in
theorem bHas_raw (a b c d q r : Nat) (ha : a < 18446744073709551616) (hb : b < 18446744073709551616) (hc : c < 18446744073709551616) (hd : d < 18446744073709551616) (hq : q < 4) (hr : r < 64) (w : World) :
    Calls Tryz.prog 97 #[wv a b c d, .int .i64 ((64 * q + r : Nat) : Int)] w fun x w' => x = .returned (.bool (if q = 0 then a.testBit r else if q = 1 then b.testBit r else if q = 2 then c.testBit r else d.testBit r)) ∧ Below w.heap.size w w' := by
  have h1 : (((64 * q + r : Nat) : Int)).tdiv 64 = q := by rw [Int.tdiv_eq_ediv_of_nonneg (by omega)]; omega
  have h2 : (((64 * q + r : Nat) : Int)).tmod 64 = r := by rw [Int.tmod_eq_emod_of_nonneg (by omega)]; omega
  have han : ∀ x : Nat, x < 18446744073709551616 → bits .and .u64 ((x : Int) / (2 : Int) ^ r) 1 = ((x / 2 ^ r % 2 : Nat) : Int) := fun x hx => by
    rw [pow_cast, show (x : Int) / ((2 ^ r : Nat) : Int) = ((x / 2 ^ r : Nat) : Int) from rfl]
    have := u64_and_nat (x / 2 ^ r) 1 (Nat.lt_of_le_of_lt (Nat.div_le_self _ _) hx) (by omega)
    rw [nat_mask1] at this
    exact this
  have htb : ∀ x : Nat, (((x / 2 ^ r % 2 : Nat) : Int) == 1) = x.testBit r := fun x => by
    rw [Nat.testBit_eq_decide_div_mod_eq, Bool.eq_iff_iff]
    simp only [beq_iff_eq, decide_eq_true_eq]
    omega
  obtain ⟨W1, hW1, hB1, hs1, hk1⟩ := newBlk w _ rfl #[.int .u64 a, .int .u64 b, .int .u64 c, .int .u64 d] 145
  have a0 := cell_of_blk hk1 0
  have a1 := cell_of_blk hk1 1
  have a2 := cell_of_blk hk1 2
  have a3 := cell_of_blk hk1 3
  simp only [List.getElem?_toArray, List.getElem?_cons_zero, List.getElem?_cons_succ] at a0 a1 a2 a3
  have h0I : (0 : Int) ≤ r := by omega
  have hrI : (r : Int) < 64 := by omega
  have hrn : ¬ ((r : Int) < 0) := by omega
  have hmin : min r 64 = r := by omega
  have HB := Lib.hid hB1
  generalize hz : ((64 * q + r : Nat) : Int) = z at h1 h2 ⊢
  clear hz hB1 hk1
  unfold wv
  rcases (show q = 0 ∨ q = 1 ∨ q = 2 ∨ q = 3 by omega) with rfl | rfl | rfl | rfl <;> simp only [Nat.reduceEqDiff, if_true, if_false, Nat.one_ne_zero]
  · have e2 := han a ha
    have e3 := htb a
    rw [← e3]
    clear e3
    generalize (a / 2 ^ r % 2 : Nat) = y at e2 ⊢
    clear han htb
    go_enter Tryz.func97, Tryz.ntmps97
    go_wp2_with fail
    go_ret
    exact ⟨rfl, HB.out⟩
  · have e2 := han b hb
    have e3 := htb b
    rw [← e3]
    clear e3
    generalize (b / 2 ^ r % 2 : Nat) = y at e2 ⊢
    clear han htb
    go_enter Tryz.func97, Tryz.ntmps97
    go_wp2_with fail
    go_ret
    exact ⟨rfl, HB.out⟩
  · have e2 := han c hc
    have e3 := htb c
    rw [← e3]
    clear e3
    generalize (c / 2 ^ r % 2 : Nat) = y at e2 ⊢
    clear han htb
    go_enter Tryz.func97, Tryz.ntmps97
    go_wp2_with fail
    go_ret
    exact ⟨rfl, HB.out⟩
  · have e2 := han d hd
    have e3 := htb d
    rw [← e3]
    clear e3
    generalize (d / 2 ^ r % 2 : Nat) = y at e2 ⊢
    clear han htb
    go_enter Tryz.func97, Tryz.ntmps97
    go_wp2_with fail
    go_ret
    exact ⟨rfl, HB.out⟩
theorem bHas_any (p : Nat → Bool) (e : Nat) (he : e < 256) (w : World) : Calls Tryz.prog 97 #[sv p, .int .i64 (e : Nat)] w fun x w' => x = .returned (.bool (p e)) ∧ Below w.heap.size w w' := by
  obtain ⟨q, r, hq, hr, rfl⟩ : ∃ q r, q < 4 ∧ r < 64 ∧ e = 64 * q + r := ⟨e / 64, e % 64, by omega, by omega, by omega⟩
  refine (bHas_raw _ _ _ _ q r (bw_lt64 _) (bw_lt64 _) (bw_lt64 _) (bw_lt64 _) hq hr w).mono ?_
  rintro x w' ⟨rfl, hb⟩
  refine ⟨?_, hb⟩
  rw [bw_bit, bw_bit, bw_bit, bw_bit]
  rcases (show q = 0 ∨ q = 1 ∨ q = 2 ∨ q = 3 by omega) with rfl | rfl | rfl | rfl <;> simp [hr]
end Go.Proofs.YtndkcimajeofcaaGreatDoor

namespace Go.Proofs.YtndkcimajeofcaaGreatDoor
open Go.RowKit

def tzT : List Nat := [0, 1, 56, 2, 57, 49, 28, 3, 61, 58, 42, 50, 38, 29, 17, 4, 62, 47, 59, 36, 45, 43, 51, 22, 53, 39, 33, 30, 24, 18, 12, 5, 63, 55, 48, 27, 60, 41, 37, 16, 46, 35, 44, 21, 52, 32, 23, 11, 54, 26, 40, 15, 34, 20, 31, 10, 25, 14, 19, 9, 13, 8, 7, 6]
/-- THE TWO TABLES THAT LAYER 3 READS LIE AS THE TEXT LAYS THEM. -/
structure GT (w : World) : Prop where
  ga : GA w
  size : 2 < w.heap.size
  tz : ∀ k, k < 64 → w.cell? ⟨2, k, none⟩ = some (.int .u8 ((tzT.getD k 0 : Nat) : Int))
theorem GT.later {w w' : World} (h : GT w) (hb : Below w.heap.size w w') : GT w' :=
  ⟨h.ga.later hb, Nat.lt_of_lt_of_le h.size hb.size, fun k hk => (hb.cell (p := ⟨2, k, none⟩) h.size).trans (h.tz k hk)⟩
def tzI (j : Nat) : Nat := (2 ^ j * 285870213051353865 % 18446744073709551616) / 288230376151711744
theorem tzT_all : ((List.range 64).all fun j => Nat.beq (tzT.getD (tzI j) 0) j && Nat.blt (tzI j) 64) = true := by kernel_rfl
theorem tzT_at (j : Nat) (h : j < 64) : tzT.getD ((2 ^ j * 285870213051353865 % 18446744073709551616) / 288230376151711744) 0 = j ∧ (2 ^ j * 285870213051353865 % 18446744073709551616) / 288230376151711744 < 64 := by
  have := List.all_eq_true.1 tzT_all j (List.mem_range.2 h)
  rw [Bool.and_eq_true] at this
  exact ⟨Nat.eq_of_beq_eq_true this.1, Nat.le_of_ble_eq_true this.2⟩

set_option maxRecDepth 100000 in
set_option maxHeartbeats 1000000 in
theorem tz64_raw (x y P M I j : Nat) (hj : j < 64) (hx0 : ((x : Int) == 0) = false) (hneg : IntKind.u64.wrap (-(x : Int)) = (y : Int)) (hand : bits .and .u64 (x : Int) (y : Int) = (P : Int)) (hmul : IntKind.u64.wrap ((P : Int) * 285870213051353865) = (M : Int))
    (hsh2 : (M : Int) / 288230376151711744 = (I : Int)) (hI0 : (0 : Int) ≤ I) (hI1 : (I : Int) < 64) (w : World) (hcell : w.cell? ⟨2, I, none⟩ = some (.int .u8 (j : Nat))) :
    Calls Tryz.prog 140 #[.int .u64 x] w fun e w' => e = .returned (.int .i64 (j : Nat)) ∧ w' = w := by
  go_enter Tryz.func140, Tryz.ntmps140
  go_wp2
  go_ret
  exact ⟨rfl, rfl⟩
set_option maxRecDepth 100000 in
set_option maxHeartbeats 1000000 in
theorem tz64_any (p : Nat → Bool) (j : Nat) (hj : j < 64) (hp : p j = true) (hl : ∀ i, i < j → p i = false) (w : World) (hG : GT w) : Calls Tryz.prog 140 #[.int .u64 (bw p 64 : Nat)] w fun e w' => e = .returned (.int .i64 (j : Nat)) ∧ w' = w := by
  have hlt := bw_lt64 p
  have hlow := bw_lowest hj hp hl
  have hne : bw p 64 ≠ 0 := fun e => by
    have := bw_zero.1 e j hj
    rw [hp] at this; cases this
  generalize bw p 64 = x at hlt hlow hne ⊢
  obtain ⟨ht, hi⟩ := tzT_at j hj
  have hpow : 2 ^ j < 18446744073709551616 := Nat.pow_lt_pow_right (by omega) hj
  generalize hP : 2 ^ j = P at hlow ht hi hpow
  have hneg : IntKind.u64.wrap (-(x : Int)) = ((18446744073709551616 - x : Nat) : Int) := by rw [IntKind.wrap_u64]; omega
  have hand : bits .and .u64 (x : Int) ((18446744073709551616 - x : Nat) : Int) = (P : Int) := by rw [u64_and_nat _ _ hlt (by omega), hlow]
  have hmul : IntKind.u64.wrap ((P : Int) * 285870213051353865) = ((P * 285870213051353865 % 18446744073709551616 : Nat) : Int) := by rw [IntKind.wrap_u64]; omega
  generalize hM : P * 285870213051353865 % 18446744073709551616 = M at hmul ht hi
  have hsh : (M : Int).fdiv 288230376151711744 = ((M / 288230376151711744 : Nat) : Int) := by rw [Int.fdiv_eq_ediv_of_nonneg _ (by omega)]; omega
  have hsh2 : (M : Int) / 288230376151711744 = ((M / 288230376151711744 : Nat) : Int) := by omega
  have hcell := hG.tz _ hi
  rw [ht] at hcell
  generalize hI : M / 288230376151711744 = I at hsh hsh2 hi hcell
  generalize 18446744073709551616 - x = y at hneg hand
  have hx0 : ((x : Int) == 0) = false := by simpa using hne
  exact tz64_raw x y P M I j hj hx0 hneg hand hmul hsh2 (by omega) (by omega) w hcell
end Go.Proofs.YtndkcimajeofcaaGreatDoor

namespace Go.Proofs.YtndkcimajeofcaaGreatDoor
open Go.RowKit

/-- The call hands back a new tree that is f. -/
def RetTree (w : World) (f : Tr) (e : Ending) (w' : World) : Prop :=
  ∃ T' : MT, e = .returned (.agg #[.int .i64 T'.op, .int .i64 T'.n, .slice T'.A T'.args.length T'.c]) ∧ T'.tr = f ∧ New w.heap.size w' T' ∧ Below w.heap.size w w'

theorem add_zero' {b off : Nat} {w : World} {v : Value} (h : w.cell? ⟨b, off + 0 * 3, none⟩ = some v) : w.cell? ⟨b, off, none⟩ = some v := by simpa using h

set_option maxRecDepth 100000 in
set_option maxHeartbeats 4000000 in
theorem pushed_any (T : MT) : ∀ (neg : Bool) (w : World), T.WF → G w → T.In w.heap.size w →
    Calls Tryz.prog 121 #[T.val, .bool neg] w (RetTree w (nnf T.tr neg)) := by
  induction T using MT.induct with
  | h op nn A c args ih =>
    intro neg w hwf hG hin
    rw [MT.WF] at hwf
    obtain ⟨w0, w8, war, wfs⟩ := hwf
    have hTin := hin
    rw [MT.In] at hin
    obtain ⟨hlc, hc, hr, hrow⟩ := hin
    have hlen : args.length ≤ 2 := by
      have : arityF op ≤ 2 := by unfold arityF; split <;> (try split) <;> omega
      omega
    obtain ⟨W1, hW1, hB1, hs1, hblk1⟩ := newBlk w _ rfl #[.int .i64 op, .int .i64 nn, .slice A args.length c] 33
    obtain ⟨W2, hW2, hB2, hs2, hblk2⟩ := newBlk W1 _ hs1 #[.int .i64 0, .int .i64 0, .slice none 0 0] 33
    have hB : Below w.heap.size w W2 := hB1.trans (hB2.mono (by omega))
    have hblk12 := (hB2.block w.heap.size (by omega)).trans hblk1
    have a0 := cell_of_blk hblk12 0
    have a1 := cell_of_blk hblk12 1
    have a2 := cell_of_blk hblk12 2
    simp only [List.getElem?_toArray, List.getElem?_cons_zero, List.getElem?_cons_succ] at a0 a1 a2
    have hG2 := hG.later hB
    simp only [MT.val, MT.op, MT.n, MT.A, MT.args, MT.c]
    rcases k3 : (op == 3)
    · have hop3 : op ≠ 3 := by simpa using k3
      cases neg
      · have hF : nnf (MT.mk op nn A c args).tr false = .mk op nn (args.map fun t => nnf t.tr false) := by
          rw [MT.tr_mk, nnf, if_neg hop3, if_neg (by simp), nnfs_map, List.map_map]; rfl
        have HF := Lib.hid hF
        have HB := Lib.hid hB
        have hargs : args.length ≤ 9223372036854775807 := by omega
        clear hF hop3 war hB hblk1 hB1 hB2
        go_enter Tryz.func121, Tryz.ntmps121
        go_wp2_with fail
        obtain ⟨W3, hW3, hB3, hs3, hblk3⟩ := newBlk W2 _ hs2 #[.int .i64 op, .int .i64 nn, .slice none 0 0] 33
        have hblk23 := (hB3.block (w.heap.size + 1) (by omega)).trans hblk2
        have HB3 := Lib.hid (HB.out.trans (hB3.mono (by omega)))
        have hG3 := hG2.later (hB3.mono (by omega))
        obtain ⟨D, hD⟩ : ∃ D, w.heap.size + 1 + 1 = D := ⟨_, rfl⟩
        rw [hW3]
        simp only [hD] at hs3 hblk3 ⊢
        have hs3' : D + 1 ≤ W3.heap.size := by omega
        have HD := Lib.hid hD
        have HS3 := Lib.hid hs3
        clear hW1 hW2 hW3 hs1 hs2 hs3 hblk12 hblk2 a0 a1 a2 hB3 hD
        go_loopw [41] (fun i wr => ∃ (k : Nat) (v : Value) (Ts : List MT), k ≤ args.length ∧ i = .int .i64 k ∧ Ts.length = k ∧ Ts.map MT.tr = (args.take k).map (fun t => nnf t.tr false) ∧ wr.heap[D]? = some (.cells #[.int .i64 op, .int .i64 nn, v] 33) ∧ wr.heap[w.heap.size + 1]? = some (.cells #[.int .i64 0, .int .i64 0, .slice none 0 0] 33) ∧ Coll (D + 1) (D + 1) wr v Ts ∧ Below w.heap.size w wr ∧ W3.heap.size ≤ wr.heap.size) (fun i _ => args.length - (intOf i).toNat)
        case atStart => exact ⟨0, _, [], Nat.zero_le _, rfl, rfl, rfl, hblk3, hblk23, Coll.nil _ _ _, HB3.out, Nat.le_refl _⟩
        case round =>
          obtain ⟨k, v, Ts, hk, rfl, hTl, hTm, hbD, hbR, hco, hbw, hsw⟩ := hrel
          by_cases hlt : k < args.length
          · obtain ⟨ab, aoff, rfl, -, g0, g1, g2⟩ := elem3 hr hbw hlt
            obtain ⟨W5, hW5, hB5, hs5, hblk5⟩ := newBlk wr _ rfl #[.int .i64 args[k].op, .int .i64 args[k].n, .slice args[k].A args[k].args.length args[k].c] 33
            have hB05 : Below w.heap.size w W5 := hbw.trans (hB5.mono hbw.size)
            have hih := ih k hlt false W5.drew (wfs.at_ k hlt) (hG.later hB05.drew) ((hrow.at_ k hlt).later hB05.drew)
            simp only [MT.val] at hih
            have hDlt : D < wr.heap.size := (Array.getElem?_eq_some_iff.1 hbD).1
            have hbD5 := (hB5.block D hDlt).trans hbD
            have e0 := cell_of_blk hblk5 0
            have e1 := cell_of_blk hblk5 1
            have e2 := cell_of_blk hblk5 2
            have d2 := cell_of_blk hbD5 2
            simp only [List.getElem?_toArray, List.getElem?_cons_zero, List.getElem?_cons_succ] at e0 e1 e2 d2
            have HTm := Lib.hid hTm
            have HTl := Lib.hid hTl
            have HCo := Lib.hid hco
            have HBw := Lib.hid hbw
            have HBD := Lib.hid hbD
            have HBR := Lib.hid hbR
            clear hTm hTl hco hbw hbD hbR
            obtain ⟨i0, hi, hz0, hz1, hz2⟩ := info_parts con_info
            go_wp2_with fail
            have nD : D < W5.heap.size := by omega
            go_region_law (first
                | (refine step_append_lies _ (by rfl) _ _ _ (by rfl) (D + 1) 33 i0 _ 3 40 Tryz.underlying31 hi hz0 hz1 hz2 rfl (by omega) v Ts.length (Ts.flatMap MT.cs) (by rfl) hco2.own ⟨w'.heap.size, 0, none⟩ 1 1 T'.cs (by rfl) (by rfl) (World.news_of_block (cs := #[.int .i64 T'.op, .int .i64 T'.n, .slice T'.A T'.args.length T'.c]) (t := 33) (fr := (0, 0)) (heap_alloc_new w' _)) (by simp [MT.cs, Value.oneCell']) (by omega) (by rw [HTl.out]; unfold maxLen; omega) (by rw [HTl.out]; omega) (by simp; omega) (w'.heap.size + 1) (by simp) ?_; intro g cap w6 hown6 hg6 hat6 hlt6; have hbD6 := (hg6.block D (by simp; omega) (fun e => by have := (own_lt HCo.out.own e.symm).1; omega)).trans ((Below.heap_alloc w' _ D (by omega)).trans hbDw); have m2 := cell_of_blk hbD6 2; have m3 := frozen_of_blk hbD6 2; simp only [List.getElem?_toArray, List.getElem?_cons_zero, List.getElem?_cons_succ] at m2)
                | (go_simp; go_at_call 121; refine hih.mono ?_; rintro e w' ⟨T', rfl, htr, hnew, hbl⟩; have hbDw := (hbl.block D (show D < W5.heap.size by omega)).trans hbD5; have q2 := cell_of_blk hbDw 2; simp only [List.getElem?_toArray, List.getElem?_cons_zero, List.getElem?_cons_succ] at q2; have hco' := HCo.out.later (hB5.drew.trans (hbl.mono (show wr.heap.size ≤ W5.heap.size by omega))); have hco2 := hco'.later ((Below.refl _ w').alloc (Nat.le_refl _) (.cells #[.int .i64 T'.op, .int .i64 T'.n, .slice T'.A T'.args.length T'.c] 33)); have HTR := Lib.hid htr; clear htr; have hDw : D + 1 ≤ w'.heap.size := (by have := hbl.size; have h5 : W5.drew.heap.size = W5.heap.size := rfl; omega); have hDw' : D < w'.heap.size := hDw))
            all_goals
              go_wp2
              obtain ⟨z1, z2, z3⟩ := coll_step HCo.out hB5 ((Below.refl _ W5).drew.trans hbl) hnew hown6 hg6 hat6 HBD.out
              go_roundw
              case rel => exact ⟨k + 1, _, Ts ++ [T'], by omega, by go_num, by rw [List.length_append, HTl.out]; rfl, by rw [List.map_append, HTm.out, List.take_succ_eq_append_getElem hlt, List.map_append, List.map_singleton, HTR.out]; rfl, z1, (z3.block _ (by have := HD.out; omega)).trans HBR.out, z2, HBw.out.trans (z3.mono (by have := HD.out; omega)), Nat.le_trans hsw z3.size⟩
              case measure => simp [intOf]; omega
          · have d0 := cell_of_blk hbD 0
            have d1 := cell_of_blk hbD 1
            have d2 := cell_of_blk hbD 2
            have r0 := cell_of_blk hbR 0
            have r1 := cell_of_blk hbR 1
            have r2 := cell_of_blk hbR 2
            have f0 := frozen_of_blk hbR 0
            have f1 := frozen_of_blk hbR 1
            have f2 := frozen_of_blk hbR 2
            simp only [List.getElem?_toArray, List.getElem?_cons_zero, List.getElem?_cons_succ] at d0 d1 d2 r0 r1 r2
            obtain ⟨vA, vc, hve, hvn⟩ := in_of_row (lo := D + 1) (op := op) (n := nn) hco.own (Nat.le_refl _) (fun t ht => (hco.trees t ht).1)
            subst hve
            have HTm := Lib.hid hTm
            have HBw := Lib.hid hbw
            clear hTm hTl hbw
            go_wp2
            obtain ⟨s1, s2⟩ := store3 hbR (.int .i64 op) (.int .i64 nn) (.slice vA Ts.length vc)
            generalize ((wr.setCell ⟨w.heap.size + 1, 0, none⟩ (.int .i64 op)).setCell ⟨w.heap.size + 1, 1, none⟩ (.int .i64 nn)).setCell ⟨w.heap.size + 1, 2, none⟩ (.slice vA Ts.length vc) = w5 at s1 s2 ⊢
            have t0 := cell_of_blk s1 0
            have t1 := cell_of_blk s1 1
            have t2 := cell_of_blk s1 2
            simp only [List.getElem?_toArray, List.getElem?_cons_zero, List.getElem?_cons_succ] at t0 t1 t2
            refine bodyPost_ret (v := .agg #[.int .i64 op, .int .i64 nn, .slice vA Ts.length vc]) (by simp [results, Tryz.f121, go_sem, t0, t1, t2]) rfl ⟨.mk op nn vA vc Ts, rfl, ?_, ?_, ?_⟩
            · rw [HF.out, MT.tr_mk, HTm.out, List.take_of_length_le (by omega)]
            · exact ((hvn.grown s2 (MT.All.imp (fun b hb e => by have : b = w.heap.size + 1 := Option.some.inj e; have := hb.1; have := HD.out; omega) _ hvn.2))).lo (by have := HD.out; omega)
            · exact HBw.out.trans (below_grown s2 (by omega) HBw.out.size)
      · rcases k0 : (op == 0)
        · have hop0 : op ≠ 0 := by simpa using k0
          have hF : nnf (MT.mk op nn A c args).tr true = .mk (dualF op) nn (args.map fun t => nnf t.tr true) := by
            rw [MT.tr_mk, nnf, if_neg hop3, if_neg (by simpa using hop0), nnfs_map, List.map_map]; rfl
          have HF := Lib.hid hF
          have HB := Lib.hid hB
          have hargs : args.length ≤ 9223372036854775807 := by omega
          have hdu := hG2.du op w0 w8
          have hdz : 1 < w.heap.size + 1 + 1 := by have := hG.size; omega
          clear hF hop3 war hB hblk1 hB1 hB2 hop0
          go_enter Tryz.func121, Tryz.ntmps121
          go_wp2_with fail
          obtain ⟨W3, hW3, hB3, hs3, hblk3⟩ := newBlk W2 _ hs2 #[.int .i64 (dualF op), .int .i64 nn, .slice none 0 0] 33
          have hblk23 := (hB3.block (w.heap.size + 1) (by omega)).trans hblk2
          have HB3 := Lib.hid (HB.out.trans (hB3.mono (by omega)))
          have hG3 := hG2.later (hB3.mono (by omega))
          obtain ⟨D, hD⟩ : ∃ D, w.heap.size + 1 + 1 = D := ⟨_, rfl⟩
          rw [hW3]
          simp only [hD] at hs3 hblk3 ⊢
          have hs3' : D + 1 ≤ W3.heap.size := by omega
          have HD := Lib.hid hD
          have HS3 := Lib.hid hs3
          clear hW1 hW2 hW3 hs1 hs2 hs3 hblk12 hblk2 a0 a1 a2 hB3 hD
          go_loopw [41] (fun i wr => ∃ (k : Nat) (v : Value) (Ts : List MT), k ≤ args.length ∧ i = .int .i64 k ∧ Ts.length = k ∧ Ts.map MT.tr = (args.take k).map (fun t => nnf t.tr true) ∧ wr.heap[D]? = some (.cells #[.int .i64 (dualF op), .int .i64 nn, v] 33) ∧ wr.heap[w.heap.size + 1]? = some (.cells #[.int .i64 0, .int .i64 0, .slice none 0 0] 33) ∧ Coll (D + 1) (D + 1) wr v Ts ∧ Below w.heap.size w wr ∧ W3.heap.size ≤ wr.heap.size) (fun i _ => args.length - (intOf i).toNat)
          case atStart => exact ⟨0, _, [], Nat.zero_le _, rfl, rfl, rfl, hblk3, hblk23, Coll.nil _ _ _, HB3.out, Nat.le_refl _⟩
          case round =>
            obtain ⟨k, v, Ts, hk, rfl, hTl, hTm, hbD, hbR, hco, hbw, hsw⟩ := hrel
            by_cases hlt : k < args.length
            · obtain ⟨ab, aoff, rfl, -, g0, g1, g2⟩ := elem3 hr hbw hlt
              obtain ⟨W5, hW5, hB5, hs5, hblk5⟩ := newBlk wr _ rfl #[.int .i64 args[k].op, .int .i64 args[k].n, .slice args[k].A args[k].args.length args[k].c] 33
              have hB05 : Below w.heap.size w W5 := hbw.trans (hB5.mono hbw.size)
              have hih := ih k hlt true W5.drew (wfs.at_ k hlt) (hG.later hB05.drew) ((hrow.at_ k hlt).later hB05.drew)
              simp only [MT.val] at hih
              have hDlt : D < wr.heap.size := (Array.getElem?_eq_some_iff.1 hbD).1
              have hbD5 := (hB5.block D hDlt).trans hbD
              have e0 := cell_of_blk hblk5 0
              have e1 := cell_of_blk hblk5 1
              have e2 := cell_of_blk hblk5 2
              have d2 := cell_of_blk hbD5 2
              simp only [List.getElem?_toArray, List.getElem?_cons_zero, List.getElem?_cons_succ] at e0 e1 e2 d2
              have HTm := Lib.hid hTm
              have HTl := Lib.hid hTl
              have HCo := Lib.hid hco
              have HBw := Lib.hid hbw
              have HBD := Lib.hid hbD
              have HBR := Lib.hid hbR
              clear hTm hTl hco hbw hbD hbR
              obtain ⟨i0, hi, hz0, hz1, hz2⟩ := info_parts con_info
              go_wp2_with fail
              have nD : D < W5.heap.size := by omega
              go_region_law (first
                  | (refine step_append_lies _ (by rfl) _ _ _ (by rfl) (D + 1) 33 i0 _ 3 40 Tryz.underlying31 hi hz0 hz1 hz2 rfl (by omega) v Ts.length (Ts.flatMap MT.cs) (by rfl) hco2.own ⟨w'.heap.size, 0, none⟩ 1 1 T'.cs (by rfl) (by rfl) (World.news_of_block (cs := #[.int .i64 T'.op, .int .i64 T'.n, .slice T'.A T'.args.length T'.c]) (t := 33) (fr := (0, 0)) (heap_alloc_new w' _)) (by simp [MT.cs, Value.oneCell']) (by omega) (by rw [HTl.out]; unfold maxLen; omega) (by rw [HTl.out]; omega) (by simp; omega) (w'.heap.size + 1) (by simp) ?_; intro g cap w6 hown6 hg6 hat6 hlt6; have hbD6 := (hg6.block D (by simp; omega) (fun e => by have := (own_lt HCo.out.own e.symm).1; omega)).trans ((Below.heap_alloc w' _ D (by omega)).trans hbDw); have m2 := cell_of_blk hbD6 2; have m3 := frozen_of_blk hbD6 2; simp only [List.getElem?_toArray, List.getElem?_cons_zero, List.getElem?_cons_succ] at m2)
                  | (go_simp; go_at_call 121; refine hih.mono ?_; rintro e w' ⟨T', rfl, htr, hnew, hbl⟩; have hbDw := (hbl.block D (show D < W5.heap.size by omega)).trans hbD5; have q2 := cell_of_blk hbDw 2; simp only [List.getElem?_toArray, List.getElem?_cons_zero, List.getElem?_cons_succ] at q2; have hco' := HCo.out.later (hB5.drew.trans (hbl.mono (show wr.heap.size ≤ W5.heap.size by omega))); have hco2 := hco'.later ((Below.refl _ w').alloc (Nat.le_refl _) (.cells #[.int .i64 T'.op, .int .i64 T'.n, .slice T'.A T'.args.length T'.c] 33)); have HTR := Lib.hid htr; clear htr; have hDw : D + 1 ≤ w'.heap.size := (by have := hbl.size; have h5 : W5.drew.heap.size = W5.heap.size := rfl; omega); have hDw' : D < w'.heap.size := hDw))
              all_goals
                go_wp2
                obtain ⟨z1, z2, z3⟩ := coll_step HCo.out hB5 ((Below.refl _ W5).drew.trans hbl) hnew hown6 hg6 hat6 HBD.out
                go_roundw
                case rel => exact ⟨k + 1, _, Ts ++ [T'], by omega, by go_num, by rw [List.length_append, HTl.out]; rfl, by rw [List.map_append, HTm.out, List.take_succ_eq_append_getElem hlt, List.map_append, List.map_singleton, HTR.out]; rfl, z1, (z3.block _ (by have := HD.out; omega)).trans HBR.out, z2, HBw.out.trans (z3.mono (by have := HD.out; omega)), Nat.le_trans hsw z3.size⟩
                case measure => simp [intOf]; omega
            · have d0 := cell_of_blk hbD 0
              have d1 := cell_of_blk hbD 1
              have d2 := cell_of_blk hbD 2
              have r0 := cell_of_blk hbR 0
              have r1 := cell_of_blk hbR 1
              have r2 := cell_of_blk hbR 2
              have f0 := frozen_of_blk hbR 0
              have f1 := frozen_of_blk hbR 1
              have f2 := frozen_of_blk hbR 2
              simp only [List.getElem?_toArray, List.getElem?_cons_zero, List.getElem?_cons_succ] at d0 d1 d2 r0 r1 r2
              obtain ⟨vA, vc, hve, hvn⟩ := in_of_row (lo := D + 1) (op := dualF op) (n := nn) hco.own (Nat.le_refl _) (fun t ht => (hco.trees t ht).1)
              subst hve
              have HTm := Lib.hid hTm
              have HBw := Lib.hid hbw
              clear hTm hTl hbw
              go_wp2
              obtain ⟨s1, s2⟩ := store3 hbR (.int .i64 (dualF op)) (.int .i64 nn) (.slice vA Ts.length vc)
              generalize ((wr.setCell ⟨w.heap.size + 1, 0, none⟩ (.int .i64 (dualF op))).setCell ⟨w.heap.size + 1, 1, none⟩ (.int .i64 nn)).setCell ⟨w.heap.size + 1, 2, none⟩ (.slice vA Ts.length vc) = w5 at s1 s2 ⊢
              have t0 := cell_of_blk s1 0
              have t1 := cell_of_blk s1 1
              have t2 := cell_of_blk s1 2
              simp only [List.getElem?_toArray, List.getElem?_cons_zero, List.getElem?_cons_succ] at t0 t1 t2
              refine bodyPost_ret (v := .agg #[.int .i64 (dualF op), .int .i64 nn, .slice vA Ts.length vc]) (by simp [results, Tryz.f121, go_sem, t0, t1, t2]) rfl ⟨.mk (dualF op) nn vA vc Ts, rfl, ?_, ?_, ?_⟩
              · rw [HF.out, MT.tr_mk, HTm.out, List.take_of_length_le (by omega)]
              · exact ((hvn.grown s2 (MT.All.imp (fun b hb e => by have : b = w.heap.size + 1 := Option.some.inj e; have := hb.1; have := HD.out; omega) _ hvn.2))).lo (by have := HD.out; omega)
              · exact HBw.out.trans (below_grown s2 (by omega) HBw.out.size)
        · have hop0 : op = 0 := by simpa using k0
          have hF : nnf (MT.mk op nn A c args).tr true = .mk 3 0 [.mk op nn []] := by
            rw [MT.tr_mk, nnf, if_neg hop3, if_pos ⟨rfl, hop0⟩, hop0]
          have HF := Lib.hid hF
          have HB := Lib.hid hB
          have r0 := cell_of_blk hblk2 0
          have r1 := cell_of_blk hblk2 1
          have r2 := cell_of_blk hblk2 2
          have f0 := frozen_of_blk hblk2 0
          have f1 := frozen_of_blk hblk2 1
          have f2 := frozen_of_blk hblk2 2
          simp only [List.getElem?_toArray, List.getElem?_cons_zero, List.getElem?_cons_succ] at r0 r1 r2
          clear hF hop0 hop3 war hB
          go_enter Tryz.func121, Tryz.ntmps121
          go_wp2
          obtain ⟨s1, s2⟩ := store3 hblk2 (.int .i64 3) (.int .i64 0) (.slice (some ⟨w.heap.size + 1 + 1 + 1, 0, none⟩) 1 1)
          have hss : (((W2.setCell ⟨w.heap.size + 1, 0, none⟩ (.int .i64 3)).setCell ⟨w.heap.size + 1, 1, none⟩ (.int .i64 0)).setCell ⟨w.heap.size + 1, 2, none⟩ (.slice (some ⟨w.heap.size + 1 + 1 + 1, 0, none⟩) 1 1)).heap.size = w.heap.size + 1 + 1 := by simp [World.setCell, hs2]
          generalize ((W2.setCell ⟨w.heap.size + 1, 0, none⟩ (.int .i64 3)).setCell ⟨w.heap.size + 1, 1, none⟩ (.int .i64 0)).setCell ⟨w.heap.size + 1, 2, none⟩ (.slice (some ⟨w.heap.size + 1 + 1 + 1, 0, none⟩) 1 1) = Ws at s1 s2 hss ⊢
          obtain ⟨W3, hW3, hB3, hs3, hblk3⟩ := newBlk Ws _ hss #[.int .i64 op, .int .i64 nn, .slice none 0 0] 33
          obtain ⟨W4, hW4, hB4, hs4, hblk4⟩ := newBlk W3 _ hs3 #[.int .i64 op, .int .i64 nn, .slice none 0 0] 33
          rw [hW3, hW4]
          have hR4 := (hB4.block (w.heap.size + 1) (by omega)).trans ((hB3.block (w.heap.size + 1) (by omega)).trans s1)
          have t0 := cell_of_blk hR4 0
          have t1 := cell_of_blk hR4 1
          have t2 := cell_of_blk hR4 2
          simp only [List.getElem?_toArray, List.getElem?_cons_zero, List.getElem?_cons_succ] at t0 t1 t2
          have hnew : New (w.heap.size + 1 + 1) W4 (.mk 3 0 (some ⟨w.heap.size + 1 + 1 + 1, 0, none⟩) 1 [.mk op nn none 0 []]) := by
            refine ⟨?_, ?_⟩
            · rw [MT.In]
              refine ⟨by simp, by simp, ⟨by simp [MT.cs], fun _ => ⟨_, 0, rfl, by omega, fun j hj => ?_⟩⟩, ?_⟩
              · rw [cell_of_blk hblk4]
                simp only [List.length_cons, List.length_nil] at hj
                match j, hj with
                | 0, _ => rfl
                | 1, _ => rfl
                | 2, _ => rfl
              · rw [MT.InAll, MT.InAll, MT.In]
                exact ⟨⟨by simp, by simp, RowAt.nil _ _ _ _, by rw [MT.InAll]; trivial⟩, trivial⟩
            · rw [Mine, MT.All, MT.Alls, MT.Alls, MT.All]
              exact ⟨fun _ => ⟨_, _, rfl, by omega, _, hblk4⟩, ⟨fun h => absurd rfl h, by rw [MT.Alls]; trivial⟩, trivial⟩
          refine bodyPost_ret (v := .agg #[.int .i64 3, .int .i64 0, .slice (some ⟨w.heap.size + 1 + 1 + 1, 0, none⟩) 1 1]) (by simp [results, Tryz.f121, go_sem, t0, t1, t2]) rfl ⟨.mk 3 0 (some ⟨w.heap.size + 1 + 1 + 1, 0, none⟩) 1 [.mk op nn none 0 []], rfl, ?_, ?_, ?_⟩
          · rw [HF.out]; rfl
          · exact hnew.lo (by omega)
          · exact (HB.out.trans (below_grown s2 (by omega) (by omega))).trans ((hB3.mono (by omega)).trans (hB4.mono (by omega)))
    · have hop : op = 3 := by simpa using k3
      have h1 : args.length = 1 := by
        rw [hop] at war
        have : arityF 3 = 1 := by decide
        omega
      have hpos : 0 < args.length := by omega
      obtain ⟨b, off, rfl, hlt, g0, g1, g2⟩ := elem3 hr hB hpos
      have g0' := add_zero' g0
      simp only [Nat.zero_mul, Nat.add_zero] at g1 g2
      have hih := ih 0 hpos (!neg) W2 (wfs.at_ 0 hpos) hG2 ((hrow.at_ 0 hpos).later hB)
      simp only [MT.val] at hih
      have hF : nnf (MT.mk op nn (some ⟨b, off, none⟩) c args).tr neg = nnf (args[0]'hpos).tr (!neg) := by
        rw [MT.tr_mk, nnf, if_pos hop]
        cases args with
        | nil => exact absurd hpos (Nat.lt_irrefl _)
        | cons a r => rw [List.map_cons, nnfHead]; rfl
      rw [hF]
      have HB := Lib.hid hB
      clear hF hop h1 war hB hblk1 hblk12 hB1 hB2 g0
      have b0 := cell_of_blk hblk2 0
      have b1 := cell_of_blk hblk2 1
      have b2 := cell_of_blk hblk2 2
      go_enter Tryz.func121, Tryz.ntmps121
      go_wp2_with (go_at_call 121; refine hih.mono ?_; rintro e w' ⟨T', rfl, htr, hnew, hbl⟩; have HTR := Lib.hid htr; clear htr; have hbk := (hbl.block (w.heap.size + 1) (by omega)).trans hblk2; have r0 := cell_of_blk hbk 0; have r1 := cell_of_blk hbk 1; have r2 := cell_of_blk hbk 2; have f0 := frozen_of_blk hbk 0; have f1 := frozen_of_blk hbk 1; have f2 := frozen_of_blk hbk 2; simp only [List.getElem?_toArray, List.getElem?_cons_zero, List.getElem?_cons_succ] at r0 r1 r2)
      obtain ⟨s1, s2⟩ := store3 hbk (.int .i64 T'.op) (.int .i64 T'.n) (.slice T'.A T'.args.length T'.c)
      generalize ((w'.setCell ⟨w.heap.size + 1, 0, none⟩ (.int .i64 T'.op)).setCell ⟨w.heap.size + 1, 1, none⟩ (.int .i64 T'.n)).setCell ⟨w.heap.size + 1, 2, none⟩ (.slice T'.A T'.args.length T'.c) = w5 at s1 s2 ⊢
      have t0 := cell_of_blk s1 0
      have t1 := cell_of_blk s1 1
      have t2 := cell_of_blk s1 2
      simp only [List.getElem?_toArray, List.getElem?_cons_zero, List.getElem?_cons_succ] at t0 t1 t2
      refine bodyPost_ret (v := .agg #[.int .i64 T'.op, .int .i64 T'.n, .slice T'.A T'.args.length T'.c]) (by simp [results, Tryz.f121, go_sem, t0, t1, t2]) rfl ⟨T', rfl, HTR.out, ?_, ?_⟩
      · exact (hnew.lo (by omega)).grown s2 (MT.All.imp (fun b hb e => by have : b = w.heap.size + 1 := Option.some.inj e; have := hb.1; omega) T' hnew.2)
      · exact (HB.out.trans (hbl.mono (by omega))).trans (below_grown s2 (by omega) (by have := hbl.size; omega))
end Go.Proofs.YtndkcimajeofcaaGreatDoor

namespace Go.Proofs.YtndkcimajeofcaaGreatDoor
open Go.RowKit Go.Shelf

mutual
def Tr.size : Tr → Nat
  | .mk _ _ args => Tr.sizes args + 1
def Tr.sizes : List Tr → Nat
  | [] => 0
  | t :: ts => Tr.size t + Tr.sizes ts
end
mutual
def Tr.depth : Tr → Nat
  | .mk _ _ args => Tr.depths args + 1
def Tr.depths : List Tr → Nat
  | [] => 0
  | t :: ts => max (Tr.depth t) (Tr.depths ts)
end

theorem MT.pre_length : ∀ (T : MT) (lev : Nat), (T.pre lev).length = T.tr.size :=
  fun T => MT.rec (motive_1 := fun T => ∀ lev, (T.pre lev).length = T.tr.size) (motive_2 := fun l => ∀ lev, (MT.preAll lev l).length = Tr.sizes (MT.trs l))
    (fun op n A c args ih lev => by rw [MT.pre, List.length_cons, ih, MT.tr, Tr.size])
    (fun lev => by rw [MT.preAll, MT.trs, Tr.sizes]; rfl)
    (fun t ts h1 h2 lev => by rw [MT.preAll, List.length_append, h1, h2, MT.trs, Tr.sizes]) T

theorem nnf_size (t : Tr) : ∀ neg, (nnf t neg).size ≤ 2 * t.size :=
  Tr.rec (motive_1 := fun t => ∀ neg, (nnf t neg).size ≤ 2 * t.size) (motive_2 := fun l => ∀ neg, Tr.sizes (nnfs l neg) ≤ 2 * Tr.sizes l ∧ (nnfHead l neg).size ≤ 2 * Tr.sizes l + 1)
    (fun op n args ih neg => by
      rw [nnf, Tr.size]
      split
      · have := (ih (!neg)).2; omega
      · split
        · simp only [Tr.size, Tr.sizes]; omega
        · rw [Tr.size]; have := (ih neg).1; omega)
    (fun neg => by simp [nnfs, nnfHead, Tr.sizes, Tr.size])
    (fun t ts h1 h2 neg => by
      rw [nnfs, nnfHead, Tr.sizes, Tr.sizes]
      have a := h1 neg
      have b := (h2 neg).1
      omega) t

def smallB (t : Tr) : Bool := decide (t.size ≤ 400) && decide (t.depth ≤ 20)

def zeroTr : Tr := .mk 0 0 []
def zeroMT : MT := .mk 0 0 none 0 []
theorem new_zero (lo : Nat) (w : World) : New lo w zeroMT := by
  refine ⟨?_, ?_⟩
  · rw [zeroMT, MT.In]; exact ⟨Nat.le_refl _, by simp, RowAt.nil _ _ _ _, by rw [MT.InAll]; trivial⟩
  · rw [zeroMT, Mine, MT.All]; exact ⟨fun h => absurd rfl h, by rw [MT.Alls]; trivial⟩

end Go.Proofs.YtndkcimajeofcaaGreatDoor

namespace Go.Proofs.YtndkcimajeofcaaGreatDoor
open Go.RowKit

mutual
def Tr.okT (C R : Nat) (lev : Nat) : Tr → Bool
  | .mk op n args => decide (lev ≤ 20) && wfB C R op n args.length && Tr.okTs C R (lev + 1) args
def Tr.okTs (C R : Nat) (lev : Nat) : List Tr → Bool
  | [] => true
  | t :: ts => Tr.okT C R lev t && Tr.okTs C R lev ts
end

def validT (C R : Nat) (t : Tr) : Bool := decide (t.size ≤ 400) && t.okT C R 1

theorem MT.trs_length (l : List MT) : (MT.trs l).length = l.length := by rw [MT.trs_map, List.length_map]

theorem okT_pre (n : NM) : ∀ (T : MT) (lev : Nat), (T.pre lev).all (okNode n) = T.tr.okT n.C.l.length n.R.l.length lev :=
  fun T => MT.rec (motive_1 := fun T => ∀ lev, (T.pre lev).all (okNode n) = T.tr.okT n.C.l.length n.R.l.length lev) (motive_2 := fun l => ∀ lev, (MT.preAll lev l).all (okNode n) = Tr.okTs n.C.l.length n.R.l.length lev (MT.trs l))
    (fun op nn A c args ih lev => by
      rw [MT.pre, List.all_cons, ih, MT.tr, Tr.okT, MT.trs_length]; rfl)
    (fun lev => by rw [MT.preAll, MT.trs, Tr.okTs]; rfl)
    (fun t ts h1 h2 lev => by rw [MT.preAll, List.all_append, h1, h2, MT.trs, Tr.okTs]) T

theorem validB_eq (n : NM) (T : MT) : validB n T = validT n.C.l.length n.R.l.length T.tr := by
  rw [validB, okT_pre, MT.pre_length, validT]

/-- Check's code, of the tree as it is meant. -/
def checkT (n : NM) (t : Tr) : Int := if n.ok then codeIf (validT n.C.l.length n.R.l.length t) 10 else 20

theorem checkF_eq (n : NM) (T : MT) : checkF n T = checkT n T.tr := by rw [checkF, checkT, validB_eq]

theorem row_of_blk {B b : Nat} {w : World} {l : List ByteArray} (hk : w.heap[b]? = some (.cells (l.map Value.string).toArray 9)) (hb : b < B) (hl : ∀ x ∈ l, x.size ≤ maxLen) (hz : l.length ≤ 9223372036854775807) : (SL.mk (some ⟨b, 0, none⟩) l.length l).In B w := by
  refine ⟨Nat.le_refl _, hz, fun h => (by cases h), ⟨by simp, fun _ => ⟨b, 0, rfl, hb, fun j hj => ?_⟩⟩, hl⟩
  rw [cell_of_blk hk, Nat.zero_add, List.getElem?_toArray]

theorem Nil.In (A : Option Addr) (B : Nat) (w : World) : (SL.mk A 0 []).In B w := ⟨Nat.le_refl _, by simp, fun _ => rfl, RowAt.nil _ _ _ _, by simp⟩

theorem blk_below {b : Nat} {w w' : World} {o : Obj} (h : w.heap[b]? = some o) (hb : Below w.heap.size w w') : w'.heap[b]? = some o :=
  (hb.block b (Array.getElem?_eq_some_iff.1 h).1).trans h

def leafMT (op n : Int) : MT := .mk op n none 0 []

theorem leaf_new (op n : Int) (lo : Nat) (w : World) : New lo w (leafMT op n) := by
  refine ⟨?_, ?_⟩
  · rw [leafMT, MT.In]; exact ⟨Nat.le_refl _, by simp, RowAt.nil _ _ _ _, by rw [MT.InAll]; trivial⟩
  · rw [leafMT, Mine, MT.All]; exact ⟨fun h => absurd rfl h, by rw [MT.Alls]; trivial⟩

theorem data_size (s : ByteArray) : s.data.toList.length = s.size := by rw [Array.length_toList]; rfl
end Go.Proofs.YtndkcimajeofcaaGreatDoor

namespace Go.Proofs.YtndkcimajeofcaaGreatDoor
open Go.RowKit

theorem getD_of {l : List ByteArray} {k : Nat} (h : k < l.length) : l.getD k ByteArray.empty = l[k] := by
  rw [List.getD_eq_getElem?_getD, List.getElem?_eq_getElem h]; rfl
end Go.Proofs.YtndkcimajeofcaaGreatDoor

namespace Go.Proofs.YtndkcimajeofcaaGreatDoor
open Go.RowKit

def fewL (l : List ByteArray) : Bool := decide (l.length ≤ 100) && l.all fun x => decide (x.size ≤ 100)
def fewB (n : NM) : Bool := fewL n.C.l && (fewL n.R.l && fewL n.I.l)
def NM.at_ (n : NM) (k : Nat) : SL := if k = 0 then n.C else if k = 1 then n.R else n.I
theorem NM.at_in {n : NM} {B : Nat} {w : World} (h : n.In B w) (k : Nat) : (n.at_ k).In B w := by
  unfold NM.at_
  split
  · exact h.1
  · split
    · exact h.2.1
    · exact h.2.2
theorem few_at {n : NM} {k : Nat} (hk : k < 3) (h : fewL (n.at_ k).l = false) : fewB n = false := by
  unfold NM.at_ at h
  unfold fewB
  rcases (show k = 0 ∨ k = 1 ∨ k = 2 by omega) with rfl | rfl | rfl
  · rw [if_pos rfl] at h; rw [h, Bool.false_and]
  · rw [if_neg (by omega), if_pos rfl] at h; rw [h, Bool.false_and, Bool.and_false]
  · rw [if_neg (by omega), if_neg (by omega)] at h; rw [h, Bool.and_false, Bool.and_false]
theorem few_all {n : NM} (h : ∀ k, k < 3 → fewL (n.at_ k).l = true) : fewB n = true := by
  have h0 := h 0 (by omega)
  have h1 := h 1 (by omega)
  have h2 := h 2 (by omega)
  simp only [NM.at_, if_pos, Nat.one_ne_zero, if_false, show ¬ (2 : Nat) = 0 by omega, show ¬ (2 : Nat) = 1 by omega] at h0 h1 h2
  rw [fewB, h0, h1, h2]; rfl

set_option maxRecDepth 100000 in
set_option maxHeartbeats 2000000 in
theorem FewNames_any (n : NM) (w : World) (hn : n.In w.heap.size w) : Calls Tryz.prog 46 #[n.val] w fun e w' => e = .returned (.bool (fewB n)) ∧ Below w.heap.size w w' := by
  obtain ⟨W1, hW1, hB1, hs1, hblk1⟩ := newBlk w _ rfl #[.slice n.C.A n.C.l.length n.C.c, .slice n.R.A n.R.l.length n.R.c, .slice n.I.A n.I.l.length n.I.c] 24
  have a0 := cell_of_blk hblk1 0
  have a1 := cell_of_blk hblk1 1
  have a2 := cell_of_blk hblk1 2
  simp only [List.getElem?_toArray, List.getElem?_cons_zero, List.getElem?_cons_succ] at a0 a1 a2
  obtain ⟨W2, hW2, hB2, hs2, hblk2⟩ := newBlk W1 _ hs1 #[.slice n.C.A n.C.l.length n.C.c, .slice n.R.A n.R.l.length n.R.c, .slice n.I.A n.I.l.length n.I.c] 22
  have hB : Below w.heap.size w W2 := hB1.trans (hB2.mono (by omega))
  have hin2 : ∀ k, (n.at_ k).In w.heap.size W2 := fun k => (NM.at_in hn k).below (Nat.le_refl _) hB
  have hce : ∀ k, k < 3 → W2.cell? ⟨w.heap.size + 1, k, none⟩ = some (.slice (n.at_ k).A (n.at_ k).l.length (n.at_ k).c) := fun k hk => by
    rw [cell_of_blk hblk2 k]
    rcases (show k = 0 ∨ k = 1 ∨ k = 2 by omega) with rfl | rfl | rfl <;> rfl
  have HB := Lib.hid hB
  clear hB hB1 hB2 hblk1 hblk2 hn
  simp only [NM.val]
  go_enter Tryz.func46, Tryz.ntmps46
  go_wp2_with fail
  go_loop [15] (fun i => ∃ k : Nat, k ≤ 3 ∧ i = .int .i64 k ∧ ∀ j, j < k → fewL (n.at_ j).l = true) (fun i => 3 - (intOf i).toNat)
  case atStart => exact ⟨0, Nat.zero_le _, rfl, fun j h => absurd h (by omega)⟩
  case round =>
    obtain ⟨k, hk, rfl, hall⟩ := hrel
    have HA := Lib.hid hall
    clear hall
    by_cases hlt : k < 3
    · have hck := hce k hlt
      have hsl := hin2 k
      have HF : fewL (n.at_ k).l = false → Hid (fewB n = false) := fun h => Lib.hid (few_at hlt h)
      have HT : fewL (n.at_ k).l = true → Hid (∀ j, j < k + 1 → fewL (n.at_ j).l = true) := fun h => Lib.hid (fun j hj => by
        by_cases e : j = k
        · subst e; exact h
        · exact HA.out j (by omega))
      clear HA hce hin2
      generalize n.at_ k = sl at hck hsl HF HT
      have hcs := fun (h : sl.l.length ≠ 0) => hsl.cells h
      have hszs := hsl.2.2.2.2
      obtain ⟨A, c, l⟩ := sl
      have hlc : l.length ≤ c := hsl.1
      have hcm : c ≤ 9223372036854775807 := hsl.2.1
      simp only at hck hcs HF HT hszs
      clear hsl
      by_cases hL : l.length ≤ 100
      · go_wp2_with fail
        go_loop [24] (fun i => ∃ m : Nat, m ≤ l.length ∧ i = .int .i64 m ∧ ∀ j, j < m → (l.getD j ByteArray.empty).size ≤ 100) (fun i => l.length - (intOf i).toNat)
        case atStart => exact ⟨0, Nat.zero_le _, rfl, fun j h => absurd h (by omega)⟩
        case round =>
          obtain ⟨m, hm, rfl, hall⟩ := hrel
          have HA := Lib.hid hall
          clear hall
          by_cases hmt : m < l.length
          · obtain ⟨b, off, hA, hb, hc⟩ := hcs (by omega)
            subst hA
            have hcm' := hc m hmt
            clear hc hcs
            have hmc : m < c := by omega
            have hgd := getD_of hmt
            by_cases hz : (l.getD m ByteArray.empty).size ≤ 100
            · have HZ := Lib.hid hz
              rw [hgd] at hcm' hz
              clear hgd
              go_wp2
              go_round
              case rel => exact ⟨m + 1, by omega, by go_num, fun j hj => by
                by_cases e : j = m
                · subst e; exact HZ.out
                · exact HA.out j (by omega)⟩
              case measure => simp [intOf]; omega
            · have hf := HF (by
                rw [fewL, Bool.and_eq_false_iff]
                right
                rw [List.all_eq_false]
                exact ⟨l[m], List.getElem_mem _, by rw [← hgd]; simpa using hz⟩)
              have hzs := hszs l[m] (List.getElem_mem _)
              unfold maxLen at hzs
              rw [hgd] at hcm' hz
              clear hgd HF HT
              go_wp2
              go_ret
              exact ⟨ret_bool hf.out.symm, HB.out⟩
          · have ht := HT (by
              rw [fewL, Bool.and_eq_true]
              refine ⟨decide_eq_true hL, ?_⟩
              rw [List.all_eq_true]
              intro x hx
              obtain ⟨j, hj, rfl⟩ := List.getElem_of_mem hx
              have := HA.out j (by omega)
              rw [getD_of hj] at this
              exact decide_eq_true this)
            clear HF HT
            go_wp2
            go_round
            case rel => exact ⟨k + 1, by omega, by go_num, ht.out⟩
            case measure => simp [intOf]; omega
      · have hf := HF (by rw [fewL, decide_eq_false hL, Bool.false_and])
        clear HF HT
        go_wp2
        go_ret
        exact ⟨ret_bool hf.out.symm, HB.out⟩
    · have hf := Lib.hid (few_all (n := n) (fun j hj => HA.out j (by omega)))
      go_wp2
      go_ret
      exact ⟨ret_bool hf.out.symm, HB.out⟩
end Go.Proofs.YtndkcimajeofcaaGreatDoor

namespace Go.Proofs.YtndkcimajeofcaaGreatDoor
open Go.RowKit

end Go.Proofs.YtndkcimajeofcaaGreatDoor

namespace Go.Proofs.YtndkcimajeofcaaGreatDoor
open Go.RowKit

theorem ret_two {a b c d : Int} (h : a = b) (k : c = d) : Ending.returned (.tuple #[.int .i64 a, .int .i64 c]) = .returned (.tuple #[.int .i64 b, .int .i64 d]) := by rw [h, k]
theorem sizes_take (args : List MT) (k : Nat) (hk : k < args.length) : Tr.sizes ((args.take (k + 1)).map MT.tr) = Tr.sizes ((args.take k).map MT.tr) + args[k].tr.size ∧ Tr.depths ((args.take (k + 1)).map MT.tr) = max (Tr.depths ((args.take k).map MT.tr)) args[k].tr.depth := by
  have sa : ∀ l (t : Tr), Tr.sizes (l ++ [t]) = Tr.sizes l + t.size ∧ Tr.depths (l ++ [t]) = max (Tr.depths l) t.depth := by
    intro l t
    induction l with
    | nil => simp [Tr.sizes, Tr.depths]
    | cons x l ih => simp only [List.cons_append, Tr.sizes, Tr.depths, ih.1, ih.2]; omega
  rw [List.take_succ_eq_append_getElem hk, List.map_append, List.map_singleton]
  exact sa _ _
theorem size_at (args : List MT) (k : Nat) (_hk : k ≤ args.length) : Tr.sizes ((args.take k).map MT.tr) ≤ Tr.sizes (args.map MT.tr) ∧ Tr.depths ((args.take k).map MT.tr) ≤ Tr.sizes (args.map MT.tr) := by
  have dl : ∀ t : Tr, t.depth ≤ t.size := fun t => Tr.rec (motive_1 := fun t => t.depth ≤ t.size) (motive_2 := fun l => Tr.depths l ≤ Tr.sizes l)
    (fun op n args ih => by rw [Tr.depth, Tr.size]; omega) (by simp [Tr.depths, Tr.sizes]) (fun t ts h1 h2 => by rw [Tr.depths, Tr.sizes]; omega) t
  have : ∀ l : List MT, ∀ k, Tr.sizes ((l.take k).map MT.tr) ≤ Tr.sizes (l.map MT.tr) ∧ Tr.depths ((l.take k).map MT.tr) ≤ Tr.sizes (l.map MT.tr) := by
    intro l
    induction l with
    | nil => intro k; simp [Tr.sizes, Tr.depths]
    | cons x l ih =>
      intro k
      cases k with
      | zero => simp [Tr.sizes, Tr.depths]
      | succ k =>
        have := ih k
        have := dl x.tr
        simp only [List.take_succ_cons, List.map_cons, Tr.sizes, Tr.depths]; omega
  exact this args k
theorem size_arg (args : List MT) (k : Nat) (hk : k < args.length) : args[k].tr.size ≤ Tr.sizes (args.map MT.tr) := by
  have h1 := (sizes_take args k hk).1
  have h2 := (size_at args (k + 1) (by omega)).1
  omega

set_option maxRecDepth 100000 in
set_option maxHeartbeats 1000000 in
theorem rSize_any (T : MT) : ∀ (w : World), MT.In w.heap.size w T → T.tr.size ≤ 1000000 →
    Calls Tryz.prog 49 #[T.val] w fun e w' => e = .returned (.tuple #[.int .i64 T.tr.size, .int .i64 T.tr.depth]) ∧ Below w.heap.size w w' := by
  induction T using MT.induct with
  | h op nn A c args ih =>
    intro w hin hsize
    rw [MT.In] at hin
    obtain ⟨hlc, hc, hr, hrow⟩ := hin
    have hsz : args.length ≤ 9223372036854775807 := by omega
    rw [MT.tr_mk, Tr.size] at hsize
    have HF : Hid ((MT.mk op nn A c args).tr.size = Tr.sizes (args.map MT.tr) + 1 ∧ (MT.mk op nn A c args).tr.depth = Tr.depths (args.map MT.tr) + 1) := Lib.hid (by rw [MT.tr_mk, Tr.size, Tr.depth]; exact ⟨rfl, rfl⟩)
    simp only [MT.val, MT.op, MT.n, MT.A, MT.c, MT.args]
    obtain ⟨W1, hW1, hB1, hs1, -, -, hc1, -⟩ := box3 w (Value.int IntKind.i64 op) (Value.int IntKind.i64 nn) (Value.slice A args.length c) 33
    go_enter Tryz.func49, Tryz.ntmps49
    go_wp2_with fail
    have hbd := fun k hk => size_at args k hk
    go_loopw [2, 3, 11] (fun a b i wr => ∃ k : Nat, k ≤ args.length ∧ i = .int .i64 k ∧ a = .int .i64 (1 + Tr.sizes ((args.take k).map MT.tr) : Nat) ∧ b = .int .i64 (Tr.depths ((args.take k).map MT.tr) : Nat) ∧ Below w.heap.size w wr) (fun _ _ i _ => args.length - (intOf i).toNat)
    case atStart => exact ⟨0, Nat.zero_le _, rfl, rfl, rfl, hB1⟩
    case round =>
      obtain ⟨k, hk, rfl, rfl, rfl, hbw⟩ := hrel
      by_cases hlt : k < args.length
      · obtain ⟨ab, aoff, rfl, -, g0, g1, g2⟩ := elem3 hr hbw hlt
        obtain ⟨W5, hW5, hB5, hs5, hblk5⟩ := newBlk wr _ rfl #[.int .i64 args[k].op, .int .i64 args[k].n, .slice args[k].A args[k].args.length args[k].c] 33
        have hb5 : Below w.heap.size w W5 := hbw.trans (hB5.mono hbw.size)
        have hih := ih k hlt W5 ((hrow.at_ k hlt).later hb5) (by have := size_arg args k hlt; omega)
        have e0 := cell_of_blk hblk5 0
        have e1 := cell_of_blk hblk5 1
        have e2 := cell_of_blk hblk5 2
        simp only [List.getElem?_toArray, List.getElem?_cons_zero, List.getElem?_cons_succ] at e0 e1 e2
        obtain ⟨t1, t2⟩ := sizes_take args k hlt
        have h1 := hbd k hk
        have h2 := hbd (k + 1) hlt
        have H1 := Lib.hid t1
        have H2 := Lib.hid t2
        rw [t1, t2] at h2
        clear t1 t2 ih hrow hbd hc1
        generalize Tr.sizes ((args.take k).map MT.tr) = S at *
        generalize Tr.depths ((args.take k).map MT.tr) = D at *
        generalize Tr.sizes (args.map MT.tr) = ST at *
        simp only [MT.val] at hih
        go_wp2_with (go_at_call 49; refine hih.mono ?_; clear hih; rintro e w' ⟨rfl, hb2⟩)
        go_roundw
        case rel => exact ⟨k + 1, by omega, by go_num, by rw [H1.out]; congr 1; omega, by rw [H2.out]; congr 1; omega, hb5.trans (hb2.mono hb5.size)⟩
        case measure => simp [intOf]; omega
      · have h1 := hbd k hk
        have hk' : k = args.length := by omega
        subst hk'
        rw [List.take_length] at *
        go_wp2
        go_ret2
        rw [HF.out.1, HF.out.2]
        exact ⟨ret_two (by omega) (by omega), hbw⟩

theorem left_size (t : Tr) : ∀ m : Int, leftF t m = max (m - t.size) 0 :=
  Tr.rec (motive_1 := fun t => ∀ m : Int, leftF t m = max (m - t.size) 0) (motive_2 := fun l => ∀ m : Int, leftL l m = if 0 < m then max (m - Tr.sizes l) 0 else m)
    (fun op n args ih m => by rw [leftF, ih, Tr.size]; split <;> omega)
    (fun m => by rw [leftL, Tr.sizes]; split <;> omega)
    (fun t ts h1 h2 m => by
      rw [leftL, Tr.sizes]
      split
      · rw [h2, h1]; split <;> omega
      · rfl) t
theorem fits_size (t : Tr) (m : Int) : fitsB t m = decide ((t.size : Int) ≤ m) := by
  rw [fitsB, left_size, decide_eq_decide]; omega

/-- A struct of three in its box: its cells in every later world. -/
theorem box_cells {w w' : World} {b : Nat} {x y z : Value} {t : TypeId} (h : w.heap[b]? = some (.cells #[x, y, z] t)) (hb : Below w.heap.size w w') : w'.cell? ⟨b, 0, none⟩ = some x ∧ w'.cell? ⟨b, 1, none⟩ = some y ∧ w'.cell? ⟨b, 2, none⟩ = some z := by
  have k := blk_below h hb
  exact ⟨cell_of_blk k 0, cell_of_blk k 1, cell_of_blk k 2⟩

end Go.Proofs.YtndkcimajeofcaaGreatDoor

namespace Go.Proofs.YtndkcimajeofcaaGreatDoor
open Go.RowKit

mutual
def Tr.wfT (C R : Nat) : Tr → Bool
  | .mk op n args => wfB C R op n args.length && Tr.wfTs C R args
def Tr.wfTs (C R : Nat) : List Tr → Bool
  | [] => true
  | t :: ts => Tr.wfT C R t && Tr.wfTs C R ts
end
theorem okT_split (C R : Nat) (t : Tr) : ∀ lev, Tr.okT C R lev t = (t.wfT C R && decide (t.depth + lev ≤ 21)) :=
  Tr.rec (motive_1 := fun t => ∀ lev, Tr.okT C R lev t = (t.wfT C R && decide (t.depth + lev ≤ 21))) (motive_2 := fun l => ∀ lev, lev ≤ 21 → Tr.okTs C R lev l = (Tr.wfTs C R l && decide (Tr.depths l + lev ≤ 21)))
    (fun op n args ih lev => by
      rw [Tr.okT, Tr.wfT, Tr.depth]
      by_cases h : lev ≤ 20
      · rw [ih _ (by omega), decide_eq_true h, Bool.true_and, Bool.and_assoc]
        congr 2
        rw [decide_eq_decide]; omega
      · rw [decide_eq_false h, decide_eq_false (by omega), Bool.and_false, Bool.false_and, Bool.false_and])
    (fun lev h => by rw [Tr.okTs, Tr.wfTs, Tr.depths, decide_eq_true (by omega)]; rfl)
    (fun t ts h1 h2 lev h => by
      rw [Tr.okTs, Tr.wfTs, Tr.depths, h1, h2 _ h]
      by_cases a : t.depth + lev ≤ 21 <;> by_cases b : Tr.depths ts + lev ≤ 21
      · rw [decide_eq_true a, decide_eq_true b, decide_eq_true (by omega)]; simp
      · rw [decide_eq_true a, decide_eq_false b, decide_eq_false (by omega)]; simp
      · rw [decide_eq_false a, decide_eq_true b, decide_eq_false (by omega)]; simp
      · rw [decide_eq_false a, decide_eq_false b, decide_eq_false (by omega)]; simp) t
theorem validT_split (C R : Nat) (t : Tr) : validT C R t = (smallB t && t.wfT C R) := by
  rw [validT, okT_split, smallB, Bool.and_assoc, Bool.and_comm (t.wfT C R)]
  congr 2
  rw [decide_eq_decide]; omega

end Go.Proofs.YtndkcimajeofcaaGreatDoor

namespace Go.Proofs.YtndkcimajeofcaaGreatDoor
open Go.RowKit

/-- WHAT A WRITE INTO THE BUILDER b KEEPS: every block of cells but b and the rows of bytes. -/
structure BK (b : Nat) (w w' : World) : Prop where
  size : w.heap.size ≤ w'.heap.size
  keep : ∀ (k : Nat) (cs : Array Value) (t : TypeId) (fr : Nat × Nat), w.heap[k]? = some (.cells cs t fr) → t ≠ 5 → k ≠ b → w'.heap[k]? = some (.cells cs t fr)
theorem BK.refl (b : Nat) (w : World) : BK b w w := ⟨Nat.le_refl _, fun _ _ _ _ h _ _ => h⟩
theorem BK.trans {b : Nat} {x y z : World} (h : BK b x y) (k : BK b y z) : BK b x z := ⟨Nat.le_trans h.size k.size, fun i cs t fr hi ht hb => k.keep i cs t fr (h.keep i cs t fr hi ht hb) ht hb⟩
theorem BK.of_below {b : Nat} {w w' : World} (h : Below w.heap.size w w') : BK b w w' := ⟨h.size, fun k _ _ _ hk _ _ => (h.block k (Array.getElem?_eq_some_iff.1 hk).1).trans hk⟩
theorem BK.set (w : World) (b i : Nat) (v : Value) : BK b w (w.setCell ⟨b, i, none⟩ v) := ⟨(KeepsWalks.setCell w ⟨b, i, none⟩ v).size, fun k _ _ _ hk _ hb => (Below.heap_setCell _ _ _ k hb).trans hk⟩
theorem BK.grown {b : Nat} {w w' : World} {base n : Nat} {v : Value} {xs : List Value} (hown : w.ownsRow base 5 1 v n xs) (hg : w.grownBy w' v.ownBlock) : BK b w w' := by
  refine ⟨hg.size, fun k cs t fr hk ht _ => (hg.block k (Array.getElem?_eq_some_iff.1 hk).1 fun e => ?_).trans hk⟩
  rcases hown.2 with ⟨rfl, _⟩ | ⟨g, cap, cur, rfl, _, hheap, _⟩
  · cases e
  · have : k = g := Option.some.inj e
    subst this
    rw [hk] at hheap
    cases hheap
    exact ht rfl

theorem builder_size : (Tryz.prog.info? 232).map (·.size) = some 2 := by kernel_rfl
theorem byte_info : (Tryz.prog.info? 5).map (fun i => (i.zero, i.size, i.bytes)) = some (some (.int .u8 0), 1, 1) := by kernel_rfl

set_option maxRecDepth 100000 in
set_option maxHeartbeats 1000000 in
theorem copyCheck_any (B b : Nat) (bs : List Value) (w : World) (h : Lib.IsBuilder 232 5 B b bs w) :
    Calls Tryz.prog 208 #[.pointer (some ⟨b, 0, none⟩)] w fun e w' => e = .returned (.tuple #[]) ∧ Lib.BuilderAt 232 5 B b (.pointer (some ⟨b, 0, none⟩)) bs w' ∧ Below B w w' ∧ BK b w w' := by
  obtain ⟨j, hj, hjs⟩ := Option.map_eq_some_iff.1 builder_size
  rcases h with h | h
  · have c0 := h.cell0
    have f0 := h.frozen0
    go_enter Tryz.func208, Tryz.ntmps208
    go_wp2
    rw [Lib.run_to_unsafe w ⟨b, 0, none⟩ Tryz.underlying229 Tryz.underlying253 hj (by rw [hjs]; decide) h.shape (Nat.zero_lt_succ 1)]
    simp only [Result.andThen]
    rw [Oper.upon_value]
    go_wp2
    rw [run_callFunc_extern Tryz.func209 (by kernel_rfl) (by kernel_rfl) (by kernel_rfl) (e := Extern.AbiNoEscape.same) (by kernel_rfl)]
    rw [Lib.run_noEscape]
    simp only [Result.andThen]
    rw [Oper.upon_value]
    go_wp2
    rw [Lib.run_from_unsafe w ⟨b, 0, none⟩ Tryz.underlying253 Tryz.underlying229 hj h.shape (by kernel_rfl)]
    simp only [Result.andThen]
    rw [Oper.upon_value]
    go_wp2
    go_end0
    exact ⟨rfl, h.used _, (Below.refl B w).setCell (p := ⟨b, 0, none⟩) h.1 _, BK.set _ _ _ _⟩
  · have c0 := h.cell0
    go_enter Tryz.func208, Tryz.ntmps208
    go_wp2
    rw [Lib.run_neq_ptr_same w _ Tryz.underlying229 hj]
    go_wp2
    go_end0
    exact ⟨rfl, h, Below.refl B _, BK.refl _ _⟩

theorem own_form {w : World} {base : Nat} {e : TypeId} {size n : Nat} {v : Value} {xs : List Value} (h : w.ownsRow base e size v n xs) : ∃ A m c, v = .slice A m c := by
  rcases h.2 with ⟨hv, _⟩ | ⟨g, cap, cur, hv, _⟩
  · exact ⟨_, _, _, hv⟩
  · exact ⟨_, _, _, hv⟩

set_option maxRecDepth 100000 in
set_option maxHeartbeats 2000000 in
theorem WriteString_any (B b : Nat) (bs : List Value) (s : ByteArray) (w : World) (h : Lib.IsBuilder 232 5 B b bs w) (hlen : bs.length + s.size ≤ 1000000000) (hBw : B ≤ w.heap.size) :
    Calls Tryz.prog 203 #[.pointer (some ⟨b, 0, none⟩), .string s] w fun e w' => (∃ v, e = .returned v) ∧ Lib.IsBuilder 232 5 B b (bs ++ Lib.strCells s) w' ∧ Below B w w' ∧ BK b w w' := by
  obtain ⟨i0, hi, hz0, hz1, hz2⟩ := info_parts byte_info
  go_enter Tryz.func203, Tryz.ntmps203
  go_wp2_with (first | (go_at_call 208; refine (copyCheck_any B b bs _ h).mono ?_; rintro e w1 ⟨rfl, h1, hb1, hbk1⟩; have hb1s := hb1.size; have k0 := h1.cell0; obtain ⟨hB, v, hbk, hown, hne⟩ := h1; have k1 := cell_of_blk hbk 1; simp only [List.getElem?_toArray, List.getElem?_cons_zero, List.getElem?_cons_succ] at k1) | (at_builtin; refine Lib.wpList_append_own_string _ rfl _ _ 230 9 rfl B 5 i0 Tryz.underlying230 Tryz.underlying9 hi hz0 hz1 hz2 _ _ _ rfl hown s rfl (by unfold maxLen; omega) (by omega) (by omega) ?_; intro v' w2 hown' hgrow _; have hlt : b < w1.heap.size := (Array.getElem?_eq_some_iff.1 hbk).1; have hbk2 := (hgrow.block b hlt (fun e => hne e.symm)).trans hbk; have d0 := cell_of_blk hbk2 0; have d1 := cell_of_blk hbk2 1; have f1 := frozen_of_blk hbk2 1; simp only [List.getElem?_toArray, List.getElem?_cons_zero, List.getElem?_cons_succ] at d0 d1; obtain ⟨A, m, c, rfl⟩ := own_form hown'))
  go_ret2
  refine ⟨⟨_, rfl⟩, .inr (Lib.BuilderAt.put (T := 232) (e := 5) hB hbk2 (bs' := bs ++ Lib.strCells s) (by simpa [Lib.strCells_length] using hown') (by decide)), ?_, (hbk1.trans (BK.grown hown hgrow)).trans (BK.set _ _ _ _)⟩
  exact (hb1.grown hgrow (by omega) (fun k hk => (own_lt hown hk).1)).setCell (p := ⟨b, 1, none⟩) hB _
end Go.Proofs.YtndkcimajeofcaaGreatDoor
