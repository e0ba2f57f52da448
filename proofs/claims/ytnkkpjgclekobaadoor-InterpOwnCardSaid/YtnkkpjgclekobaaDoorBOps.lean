import Derived.Test.YtnkkpjgclekobaaDoorBits
import Derived.Deep.RegionHeld3
import Derived.Laws.StructEq
import Derived.Laws.Small
import Derived.Test.YtnkkpjgclekobaaDoorCheck2
namespace Go.Proofs.YtnkkpjgclekobaaDoor
open Go.RowKit

/-- A set as four words. -/
def wv (a b c d : Nat) : Value := .agg #[.int .u64 a, .int .u64 b, .int .u64 c, .int .u64 d]
/-- The set of the numbers below 256 of which p is true, as a value. -/
def sv (p : Nat → Bool) : Value := wv (bw p 64) (bw (fun j => p (64 + j)) 64) (bw (fun j => p (128 + j)) 64) (bw (fun j => p (192 + j)) 64)
theorem sv_ext {p q : Nat → Bool} (h : ∀ i, i < 256 → p i = q i) : sv p = sv q := by
  unfold sv
  rw [bw_ext (p := p) (q := q) fun i hi => h i (by omega), bw_ext (p := fun j => p (64 + j)) (q := fun j => q (64 + j)) fun i hi => h _ (by omega), bw_ext (p := fun j => p (128 + j)) (q := fun j => q (128 + j)) fun i hi => h _ (by omega), bw_ext (p := fun j => p (192 + j)) (q := fun j => q (192 + j)) fun i hi => h _ (by omega)]

/-- Four cells stored into a block. -/
theorem store4 {W : World} {b : Nat} {x0 y0 z0 u0 : Value} {t : TypeId} (h : W.heap[b]? = some (.cells #[x0, y0, z0, u0] t)) (x y z u : Value) :
    ((((W.setCell ⟨b, 0, none⟩ x).setCell ⟨b, 1, none⟩ y).setCell ⟨b, 2, none⟩ z).setCell ⟨b, 3, none⟩ u).heap[b]? = some (.cells #[x, y, z, u] t) ∧
    W.grownBy ((((W.setCell ⟨b, 0, none⟩ x).setCell ⟨b, 1, none⟩ y).setCell ⟨b, 2, none⟩ z).setCell ⟨b, 3, none⟩ u) (some b) :=
  ⟨blk_set (blk_set (blk_set (blk_set h 0 x) 1 y) 2 z) 3 u, grown_trans (grown_trans (grown_trans (grown_set W b 0 x) (grown_set _ b 1 y)) (grown_set _ b 2 z)) (grown_set _ b 3 u)⟩
theorem blk_off {b pb : Nat} {w w' : World} {o : Obj} (h : w.heap[b]? = some o) (hg : w.grownBy w' (some pb)) (hne : b ≠ pb) : w'.heap[b]? = some o :=
  (hg.block b (Array.getElem?_eq_some_iff.1 h).1 (fun e => hne (Option.some.inj e))).trans h
theorem pow_cast (r : Nat) : ((2 : Int) ^ r) = ((2 ^ r : Nat) : Int) := (Int.natCast_pow 2 r).symm
theorem wrapU {x : Nat} (h : x < 18446744073709551616) : IntKind.u64.wrap (x : Int) = (x : Int) := by
  rw [IntKind.wrap_u64]; omega

/-- The words of s.With(64 q + r). -/
def withW (q r : Nat) (a b c d : Nat) : Value := wv (if q = 0 then a ||| 2 ^ r else a) (if q = 1 then b ||| 2 ^ r else b) (if q = 2 then c ||| 2 ^ r else c) (if q = 3 then d ||| 2 ^ r else d)
set_option maxRecDepth 100000 in
set_option maxHeartbeats 1000000 in
theorem bWith_raw (a b c d q r : Nat) (ha : a < 18446744073709551616) (hb : b < 18446744073709551616) (hc : c < 18446744073709551616) (hd : d < 18446744073709551616) (hq : q < 4) (hr : r < 64) (w : World) :
    Calls Tryd.prog 90 #[wv a b c d, .int .i64 ((64 * q + r : Nat) : Int)] w fun x w' => x = .returned (withW q r a b c d) ∧ Below w.heap.size w w' := by
  have h1 : (((64 * q + r : Nat) : Int)).tdiv 64 = q := by rw [Int.tdiv_eq_ediv_of_nonneg (by omega)]; omega
  have h2 : (((64 * q + r : Nat) : Int)).tmod 64 = r := by rw [Int.tmod_eq_emod_of_nonneg (by omega)]; omega
  have hpow : 2 ^ r < 18446744073709551616 := Nat.pow_lt_pow_right (by omega) hr
  have h3 : IntKind.u64.wrap ((2 : Int) ^ r) = (2 : Int) ^ r := by rw [pow_cast, wrapU hpow]
  obtain ⟨W1, hW1, hB1, hs1, hk1⟩ := newBlk w _ rfl #[.int .u64 a, .int .u64 b, .int .u64 c, .int .u64 d] 111
  obtain ⟨W2, hW2, hB2, hs2, hk2⟩ := newBlk W1 _ hs1 #[.int .u64 0, .int .u64 0, .int .u64 0, .int .u64 0] 111
  have hB : Below w.heap.size w W2 := hB1.trans (hB2.mono (by omega))
  have hk12 := (hB2.block w.heap.size (by omega)).trans hk1
  have a0 := cell_of_blk hk12 0
  have b0 := cell_of_blk hk2 0
  have f0 := frozen_of_blk hk12 0
  have g0 := frozen_of_blk hk2 0
  have a1 := cell_of_blk hk12 1
  have b1 := cell_of_blk hk2 1
  have f1 := frozen_of_blk hk12 1
  have g1 := frozen_of_blk hk2 1
  have a2 := cell_of_blk hk12 2
  have b2 := cell_of_blk hk2 2
  have f2 := frozen_of_blk hk12 2
  have g2 := frozen_of_blk hk2 2
  have a3 := cell_of_blk hk12 3
  have b3 := cell_of_blk hk2 3
  have f3 := frozen_of_blk hk12 3
  have g3 := frozen_of_blk hk2 3
  simp only [List.getElem?_toArray, List.getElem?_cons_zero, List.getElem?_cons_succ] at a0 a1 a2 a3 b0 b1 b2 b3
  have h0I : (0 : Int) ≤ r := by omega
  have hrI : (r : Int) < 64 := by omega
  have hrn : ¬ ((r : Int) < 0) := by omega
  have hmin : min r 64 = r := by omega
  have HB := Lib.hid hB
  clear hB hB1 hB2 hk1 hk12
  generalize hz : ((64 * q + r : Nat) : Int) = z at h1 h2 ⊢
  clear hz
  unfold wv withW wv
  rcases (show q = 0 ∨ q = 1 ∨ q = 2 ∨ q = 3 by omega) with rfl | rfl | rfl | rfl <;> simp only [Nat.reduceEqDiff, if_true, if_false, Nat.one_ne_zero, Nat.zero_ne_one]
  · have hbits : bits .or .u64 (a : Int) ((2 : Int) ^ r) = ((a ||| 2 ^ r : Nat) : Int) := by rw [pow_cast, u64_or_nat _ _ ha hpow]
    generalize (a ||| 2 ^ r : Nat) = y at hbits ⊢
    go_enter Tryd.func90, Tryd.ntmps90
    go_wp2_with fail
    go_region
    go_wp2
    have hq1 := blk_off hk2 (grown_set W2 w.heap.size 0 (.int .u64 (y : Nat))) (by omega)
    obtain ⟨q1, q2⟩ := store4 hq1 (.int .u64 (y : Nat)) (.int .u64 (b : Nat)) (.int .u64 (c : Nat)) (.int .u64 (d : Nat))
    have hb4 := ((HB.out.setCell (p := ⟨w.heap.size, 0, none⟩) (Nat.le_refl _) (.int .u64 (y : Nat))).trans (below_grown q2 (by omega) (HB.out.setCell (p := ⟨w.heap.size, 0, none⟩) (Nat.le_refl _) _).size)).drew
    clear hq1 q2
    generalize (((((W2.setCell ⟨w.heap.size, 0, none⟩ (.int .u64 (y : Nat))).setCell ⟨w.heap.size + 1, 0, none⟩ (.int .u64 (y : Nat))).setCell ⟨w.heap.size + 1, 1, none⟩ (.int .u64 (b : Nat))).setCell ⟨w.heap.size + 1, 2, none⟩ (.int .u64 (c : Nat))).setCell ⟨w.heap.size + 1, 3, none⟩ (.int .u64 (d : Nat))) = w4 at q1 hb4 ⊢
    have q1 : w4.drew.heap[w.heap.size + 1]? = _ := q1
    generalize w4.drew = w5 at q1 hb4 ⊢
    have t0 := cell_of_blk q1 0
    have t1 := cell_of_blk q1 1
    have t2 := cell_of_blk q1 2
    have t3 := cell_of_blk q1 3
    simp only [List.getElem?_toArray, List.getElem?_cons_zero, List.getElem?_cons_succ] at t0 t1 t2 t3
    refine bodyPost_ret (v := _) (by simp [results, Tryd.f90, go_sem, t0, t1, t2, t3]) rfl ⟨rfl, hb4⟩
  · have hbits : bits .or .u64 (b : Int) ((2 : Int) ^ r) = ((b ||| 2 ^ r : Nat) : Int) := by rw [pow_cast, u64_or_nat _ _ hb hpow]
    generalize (b ||| 2 ^ r : Nat) = y at hbits ⊢
    go_enter Tryd.func90, Tryd.ntmps90
    go_wp2_with fail
    go_region
    go_wp2
    have hq1 := blk_off hk2 (grown_set W2 w.heap.size 1 (.int .u64 (y : Nat))) (by omega)
    obtain ⟨q1, q2⟩ := store4 hq1 (.int .u64 (a : Nat)) (.int .u64 (y : Nat)) (.int .u64 (c : Nat)) (.int .u64 (d : Nat))
    have hb4 := ((HB.out.setCell (p := ⟨w.heap.size, 1, none⟩) (Nat.le_refl _) (.int .u64 (y : Nat))).trans (below_grown q2 (by omega) (HB.out.setCell (p := ⟨w.heap.size, 1, none⟩) (Nat.le_refl _) _).size)).drew
    clear hq1 q2
    generalize (((((W2.setCell ⟨w.heap.size, 1, none⟩ (.int .u64 (y : Nat))).setCell ⟨w.heap.size + 1, 0, none⟩ (.int .u64 (a : Nat))).setCell ⟨w.heap.size + 1, 1, none⟩ (.int .u64 (y : Nat))).setCell ⟨w.heap.size + 1, 2, none⟩ (.int .u64 (c : Nat))).setCell ⟨w.heap.size + 1, 3, none⟩ (.int .u64 (d : Nat))) = w4 at q1 hb4 ⊢
    have q1 : w4.drew.heap[w.heap.size + 1]? = _ := q1
    generalize w4.drew = w5 at q1 hb4 ⊢
    have t0 := cell_of_blk q1 0
    have t1 := cell_of_blk q1 1
    have t2 := cell_of_blk q1 2
    have t3 := cell_of_blk q1 3
    simp only [List.getElem?_toArray, List.getElem?_cons_zero, List.getElem?_cons_succ] at t0 t1 t2 t3
    refine bodyPost_ret (v := _) (by simp [results, Tryd.f90, go_sem, t0, t1, t2, t3]) rfl ⟨rfl, hb4⟩
  · have hbits : bits .or .u64 (c : Int) ((2 : Int) ^ r) = ((c ||| 2 ^ r : Nat) : Int) := by rw [pow_cast, u64_or_nat _ _ hc hpow]
    generalize (c ||| 2 ^ r : Nat) = y at hbits ⊢
    go_enter Tryd.func90, Tryd.ntmps90
    go_wp2_with fail
    go_region
    go_wp2
    have hq1 := blk_off hk2 (grown_set W2 w.heap.size 2 (.int .u64 (y : Nat))) (by omega)
    obtain ⟨q1, q2⟩ := store4 hq1 (.int .u64 (a : Nat)) (.int .u64 (b : Nat)) (.int .u64 (y : Nat)) (.int .u64 (d : Nat))
    have hb4 := ((HB.out.setCell (p := ⟨w.heap.size, 2, none⟩) (Nat.le_refl _) (.int .u64 (y : Nat))).trans (below_grown q2 (by omega) (HB.out.setCell (p := ⟨w.heap.size, 2, none⟩) (Nat.le_refl _) _).size)).drew
    clear hq1 q2
    generalize (((((W2.setCell ⟨w.heap.size, 2, none⟩ (.int .u64 (y : Nat))).setCell ⟨w.heap.size + 1, 0, none⟩ (.int .u64 (a : Nat))).setCell ⟨w.heap.size + 1, 1, none⟩ (.int .u64 (b : Nat))).setCell ⟨w.heap.size + 1, 2, none⟩ (.int .u64 (y : Nat))).setCell ⟨w.heap.size + 1, 3, none⟩ (.int .u64 (d : Nat))) = w4 at q1 hb4 ⊢
    have q1 : w4.drew.heap[w.heap.size + 1]? = _ := q1
    generalize w4.drew = w5 at q1 hb4 ⊢
    have t0 := cell_of_blk q1 0
    have t1 := cell_of_blk q1 1
    have t2 := cell_of_blk q1 2
    have t3 := cell_of_blk q1 3
    simp only [List.getElem?_toArray, List.getElem?_cons_zero, List.getElem?_cons_succ] at t0 t1 t2 t3
    refine bodyPost_ret (v := _) (by simp [results, Tryd.f90, go_sem, t0, t1, t2, t3]) rfl ⟨rfl, hb4⟩
  · have hbits : bits .or .u64 (d : Int) ((2 : Int) ^ r) = ((d ||| 2 ^ r : Nat) : Int) := by rw [pow_cast, u64_or_nat _ _ hd hpow]
    generalize (d ||| 2 ^ r : Nat) = y at hbits ⊢
    go_enter Tryd.func90, Tryd.ntmps90
    go_wp2_with fail
    go_region
    go_wp2
    have hq1 := blk_off hk2 (grown_set W2 w.heap.size 3 (.int .u64 (y : Nat))) (by omega)
    obtain ⟨q1, q2⟩ := store4 hq1 (.int .u64 (a : Nat)) (.int .u64 (b : Nat)) (.int .u64 (c : Nat)) (.int .u64 (y : Nat))
    have hb4 := ((HB.out.setCell (p := ⟨w.heap.size, 3, none⟩) (Nat.le_refl _) (.int .u64 (y : Nat))).trans (below_grown q2 (by omega) (HB.out.setCell (p := ⟨w.heap.size, 3, none⟩) (Nat.le_refl _) _).size)).drew
    clear hq1 q2
    generalize (((((W2.setCell ⟨w.heap.size, 3, none⟩ (.int .u64 (y : Nat))).setCell ⟨w.heap.size + 1, 0, none⟩ (.int .u64 (a : Nat))).setCell ⟨w.heap.size + 1, 1, none⟩ (.int .u64 (b : Nat))).setCell ⟨w.heap.size + 1, 2, none⟩ (.int .u64 (c : Nat))).setCell ⟨w.heap.size + 1, 3, none⟩ (.int .u64 (y : Nat))) = w4 at q1 hb4 ⊢
    have q1 : w4.drew.heap[w.heap.size + 1]? = _ := q1
    generalize w4.drew = w5 at q1 hb4 ⊢
    have t0 := cell_of_blk q1 0
    have t1 := cell_of_blk q1 1
    have t2 := cell_of_blk q1 2
    have t3 := cell_of_blk q1 3
    simp only [List.getElem?_toArray, List.getElem?_cons_zero, List.getElem?_cons_succ] at t0 t1 t2 t3
    refine bodyPost_ret (v := _) (by simp [results, Tryd.f90, go_sem, t0, t1, t2, t3]) rfl ⟨rfl, hb4⟩

theorem withWord (g : Nat → Bool) (k q r : Nat) (hr : r < 64) : (if q = k then bw (fun j => g (64 * k + j)) 64 ||| 2 ^ r else bw (fun j => g (64 * k + j)) 64) = bw (fun j => g (64 * k + j) || 64 * k + j == 64 * q + r) 64 := by
  split
  · rename_i h
    subst h
    rw [← bw_one hr, bw_or]
    refine bw_ext fun i hi => ?_
    have : (i == r) = (64 * q + i == 64 * q + r) := by rw [Bool.eq_iff_iff]; simp
    rw [this]
  · rename_i h
    refine bw_ext fun i hi => ?_
    have : (64 * k + i == 64 * q + r) = false := by simp; omega
    rw [this, Bool.or_false]
theorem bWith_any (p : Nat → Bool) (e : Nat) (he : e < 256) (w : World) : Calls Tryd.prog 90 #[sv p, .int .i64 (e : Nat)] w fun x w' => x = .returned (sv fun i => p i || i == e) ∧ Below w.heap.size w w' := by
  obtain ⟨q, r, hq, hr, rfl⟩ : ∃ q r, q < 4 ∧ r < 64 ∧ e = 64 * q + r := ⟨e / 64, e % 64, by omega, by omega, by omega⟩
  refine (bWith_raw _ _ _ _ q r (bw_lt64 _) (bw_lt64 _) (bw_lt64 _) (bw_lt64 _) hq hr w).mono ?_
  rintro x w' ⟨rfl, hb⟩
  refine ⟨?_, hb⟩
  have h0 := withWord p 0 q r hr
  have h1 := withWord p 1 q r hr
  have h2 := withWord p 2 q r hr
  have h3 := withWord p 3 q r hr
  simp only [Nat.mul_zero, Nat.zero_add, Nat.mul_one, show 64 * 2 = 128 from rfl, show 64 * 3 = 192 from rfl] at h0 h1 h2 h3
  unfold withW sv
  rw [h0, h1, h2, h3]

set_option maxRecDepth 100000 in
set_option maxHeartbeats 2000000 in
theorem bAnd_raw (a b c d e f g h : Nat) (ha : a < 18446744073709551616) (hb : b < 18446744073709551616) (hc : c < 18446744073709551616) (hd : d < 18446744073709551616) (he : e < 18446744073709551616) (hf : f < 18446744073709551616) (hg : g < 18446744073709551616) (hh : h < 18446744073709551616) (w : World) :
    Calls Tryd.prog 140 #[wv a b c d, wv e f g h] w fun x w' => x = .returned (wv (a &&& e) (b &&& f) (c &&& g) (d &&& h)) ∧ Below w.heap.size w w' := by
  have q0 : bits .and .u64 (a : Int) (e : Int) = ((a &&& e : Nat) : Int) := u64_and_nat _ _ ha he
  have q1 : bits .and .u64 (b : Int) (f : Int) = ((b &&& f : Nat) : Int) := u64_and_nat _ _ hb hf
  have q2 : bits .and .u64 (c : Int) (g : Int) = ((c &&& g : Nat) : Int) := u64_and_nat _ _ hc hg
  have q3 : bits .and .u64 (d : Int) (h : Int) = ((d &&& h : Nat) : Int) := u64_and_nat _ _ hd hh
  generalize (a &&& e : Nat) = x0 at q0 ⊢
  generalize (b &&& f : Nat) = x1 at q1 ⊢
  generalize (c &&& g : Nat) = x2 at q2 ⊢
  generalize (d &&& h : Nat) = x3 at q3 ⊢
  obtain ⟨W1, hW1, hB1, hs1, hk1⟩ := newBlk w _ rfl #[.int .u64 (a : Nat), .int .u64 (b : Nat), .int .u64 (c : Nat), .int .u64 (d : Nat)] 111
  obtain ⟨W2, hW2, hB2, hs2, hk2⟩ := newBlk W1 _ hs1 #[.int .u64 (e : Nat), .int .u64 (f : Nat), .int .u64 (g : Nat), .int .u64 (h : Nat)] 111
  obtain ⟨W3, hW3, hB3, hs3, hk3⟩ := newBlk W2 _ hs2 #[.int .u64 0, .int .u64 0, .int .u64 0, .int .u64 0] 111
  have hB : Below w.heap.size w W3 := (hB1.trans (hB2.mono (by omega))).trans (hB3.mono (by omega))
  have hk13 := (hB3.block w.heap.size (by omega)).trans ((hB2.block w.heap.size (by omega)).trans hk1)
  have hk23 := (hB3.block (w.heap.size + 1) (by omega)).trans hk2
  have HB := Lib.hid hB
  unfold wv
  clear hB hB1 hB2 hB3 hk1 hk2
  go_enter Tryd.func140, Tryd.ntmps140
  go_wp2_with fail
  go_loopw [6] (fun i wr => wr.heap[w.heap.size + 1]? = some (.cells #[.int .u64 (e : Nat), .int .u64 (f : Nat), .int .u64 (g : Nat), .int .u64 (h : Nat)] 111) ∧ (∃ v, wr.heap[w.heap.size + 1 + 1]? = some (.cells v 111) ∧ v.size = 4) ∧ Below w.heap.size w wr ∧ ((i = .int .i64 0 ∧ wr.heap[w.heap.size]? = some (.cells #[.int .u64 (a : Nat), .int .u64 (b : Nat), .int .u64 (c : Nat), .int .u64 (d : Nat)] 111)) ∨ (i = .int .i64 1 ∧ wr.heap[w.heap.size]? = some (.cells #[.int .u64 (x0 : Nat), .int .u64 (b : Nat), .int .u64 (c : Nat), .int .u64 (d : Nat)] 111)) ∨ (i = .int .i64 2 ∧ wr.heap[w.heap.size]? = some (.cells #[.int .u64 (x0 : Nat), .int .u64 (x1 : Nat), .int .u64 (c : Nat), .int .u64 (d : Nat)] 111)) ∨ (i = .int .i64 3 ∧ wr.heap[w.heap.size]? = some (.cells #[.int .u64 (x0 : Nat), .int .u64 (x1 : Nat), .int .u64 (x2 : Nat), .int .u64 (d : Nat)] 111)) ∨ (i = .int .i64 4 ∧ wr.heap[w.heap.size]? = some (.cells #[.int .u64 (x0 : Nat), .int .u64 (x1 : Nat), .int .u64 (x2 : Nat), .int .u64 (x3 : Nat)] 111)))) (fun i _ => 4 - (intOf i).toNat)
  case atStart => exact ⟨hk23, ⟨_, hk3, rfl⟩, HB.out, .inl ⟨rfl, hk13⟩⟩
  case round =>
    obtain ⟨hkB, ⟨vr, hkR, hvr⟩, hbw, hinv⟩ := hrel
    have e0 := cell_of_blk hkB 0
    have e1 := cell_of_blk hkB 1
    have e2 := cell_of_blk hkB 2
    have e3 := cell_of_blk hkB 3
    simp only [List.getElem?_toArray, List.getElem?_cons_zero, List.getElem?_cons_succ] at e0 e1 e2 e3
    rcases hinv with ⟨rfl, hkA⟩ | ⟨rfl, hkA⟩ | ⟨rfl, hkA⟩ | ⟨rfl, hkA⟩ | ⟨rfl, hkA⟩
    · have c0 := cell_of_blk hkA 0
      have c1 := cell_of_blk hkA 1
      have c2 := cell_of_blk hkA 2
      have c3 := cell_of_blk hkA 3
      have f0 := frozen_of_blk hkA 0
      simp only [List.getElem?_toArray, List.getElem?_cons_zero, List.getElem?_cons_succ] at c0 c1 c2 c3
      go_wp2_with fail
      go_region
      go_wp2
      go_roundw
      case rel =>
        have z1 := blk_off hkB (grown_set wr w.heap.size 0 (.int .u64 (x0 : Nat))) (by omega)
        have z2 := blk_off hkR (grown_set wr w.heap.size 0 (.int .u64 (x0 : Nat))) (by omega)
        exact ⟨z1, ⟨vr, z2, hvr⟩, (hbw.setCell (p := ⟨w.heap.size, 0, none⟩) (Nat.le_refl _) (.int .u64 (x0 : Nat))).drew, .inr (.inl ⟨rfl, blk_set hkA 0 (.int .u64 (x0 : Nat))⟩)⟩
      case measure => simp [intOf]
    · have c0 := cell_of_blk hkA 0
      have c1 := cell_of_blk hkA 1
      have c2 := cell_of_blk hkA 2
      have c3 := cell_of_blk hkA 3
      have f0 := frozen_of_blk hkA 1
      simp only [List.getElem?_toArray, List.getElem?_cons_zero, List.getElem?_cons_succ] at c0 c1 c2 c3
      go_wp2_with fail
      go_region
      go_wp2
      go_roundw
      case rel =>
        have z1 := blk_off hkB (grown_set wr w.heap.size 1 (.int .u64 (x1 : Nat))) (by omega)
        have z2 := blk_off hkR (grown_set wr w.heap.size 1 (.int .u64 (x1 : Nat))) (by omega)
        exact ⟨z1, ⟨vr, z2, hvr⟩, (hbw.setCell (p := ⟨w.heap.size, 1, none⟩) (Nat.le_refl _) (.int .u64 (x1 : Nat))).drew, .inr (.inr (.inl ⟨rfl, blk_set hkA 1 (.int .u64 (x1 : Nat))⟩))⟩
      case measure => simp [intOf]
    · have c0 := cell_of_blk hkA 0
      have c1 := cell_of_blk hkA 1
      have c2 := cell_of_blk hkA 2
      have c3 := cell_of_blk hkA 3
      have f0 := frozen_of_blk hkA 2
      simp only [List.getElem?_toArray, List.getElem?_cons_zero, List.getElem?_cons_succ] at c0 c1 c2 c3
      go_wp2_with fail
      go_region
      go_wp2
      go_roundw
      case rel =>
        have z1 := blk_off hkB (grown_set wr w.heap.size 2 (.int .u64 (x2 : Nat))) (by omega)
        have z2 := blk_off hkR (grown_set wr w.heap.size 2 (.int .u64 (x2 : Nat))) (by omega)
        exact ⟨z1, ⟨vr, z2, hvr⟩, (hbw.setCell (p := ⟨w.heap.size, 2, none⟩) (Nat.le_refl _) (.int .u64 (x2 : Nat))).drew, .inr (.inr (.inr (.inl ⟨rfl, blk_set hkA 2 (.int .u64 (x2 : Nat))⟩)))⟩
      case measure => simp [intOf]
    · have c0 := cell_of_blk hkA 0
      have c1 := cell_of_blk hkA 1
      have c2 := cell_of_blk hkA 2
      have c3 := cell_of_blk hkA 3
      have f0 := frozen_of_blk hkA 3
      simp only [List.getElem?_toArray, List.getElem?_cons_zero, List.getElem?_cons_succ] at c0 c1 c2 c3
      go_wp2_with fail
      go_region
      go_wp2
      go_roundw
      case rel =>
        have z1 := blk_off hkB (grown_set wr w.heap.size 3 (.int .u64 (x3 : Nat))) (by omega)
        have z2 := blk_off hkR (grown_set wr w.heap.size 3 (.int .u64 (x3 : Nat))) (by omega)
        exact ⟨z1, ⟨vr, z2, hvr⟩, (hbw.setCell (p := ⟨w.heap.size, 3, none⟩) (Nat.le_refl _) (.int .u64 (x3 : Nat))).drew, .inr (.inr (.inr (.inr (⟨rfl, blk_set hkA 3 (.int .u64 (x3 : Nat))⟩))))⟩
      case measure => simp [intOf]
    · have c0 := cell_of_blk hkA 0
      have c1 := cell_of_blk hkA 1
      have c2 := cell_of_blk hkA 2
      have c3 := cell_of_blk hkA 3
      have f0 := frozen_of_blk hkR 0
      have f1 := frozen_of_blk hkR 1
      have f2 := frozen_of_blk hkR 2
      have f3 := frozen_of_blk hkR 3
      obtain ⟨rl⟩ := vr
      match rl, hvr with
      | [y0, y1, y2, y3], _ =>
        have d0 := cell_of_blk hkR 0
        have d1 := cell_of_blk hkR 1
        have d2 := cell_of_blk hkR 2
        have d3 := cell_of_blk hkR 3
        simp only [List.getElem?_toArray, List.getElem?_cons_zero, List.getElem?_cons_succ] at c0 c1 c2 c3 d0 d1 d2 d3
        obtain ⟨q1', q2'⟩ := store4 hkR (.int .u64 (x0 : Nat)) (.int .u64 (x1 : Nat)) (.int .u64 (x2 : Nat)) (.int .u64 (x3 : Nat))
        have hb4 := hbw.trans (below_grown q2' (by omega) hbw.size)
        go_wp2
        generalize ((((wr.setCell ⟨w.heap.size + 1 + 1, 0, none⟩ (.int .u64 (x0 : Nat))).setCell ⟨w.heap.size + 1 + 1, 1, none⟩ (.int .u64 (x1 : Nat))).setCell ⟨w.heap.size + 1 + 1, 2, none⟩ (.int .u64 (x2 : Nat))).setCell ⟨w.heap.size + 1 + 1, 3, none⟩ (.int .u64 (x3 : Nat))) = w5 at q1' hb4 ⊢
        have t0 := cell_of_blk q1' 0
        have t1 := cell_of_blk q1' 1
        have t2 := cell_of_blk q1' 2
        have t3 := cell_of_blk q1' 3
        simp only [List.getElem?_toArray, List.getElem?_cons_zero, List.getElem?_cons_succ] at t0 t1 t2 t3
        refine bodyPost_ret (v := _) (by simp [results, Tryd.f140, go_sem, t0, t1, t2, t3]) rfl ⟨rfl, hb4⟩

set_option maxRecDepth 100000 in
set_option maxHeartbeats 2000000 in
theorem bOr_raw (a b c d e f g h : Nat) (ha : a < 18446744073709551616) (hb : b < 18446744073709551616) (hc : c < 18446744073709551616) (hd : d < 18446744073709551616) (he : e < 18446744073709551616) (hf : f < 18446744073709551616) (hg : g < 18446744073709551616) (hh : h < 18446744073709551616) (w : World) :
    Calls Tryd.prog 141 #[wv a b c d, wv e f g h] w fun x w' => x = .returned (wv (a ||| e) (b ||| f) (c ||| g) (d ||| h)) ∧ Below w.heap.size w w' := by
  have q0 : bits .or .u64 (a : Int) (e : Int) = ((a ||| e : Nat) : Int) := u64_or_nat _ _ ha he
  have q1 : bits .or .u64 (b : Int) (f : Int) = ((b ||| f : Nat) : Int) := u64_or_nat _ _ hb hf
  have q2 : bits .or .u64 (c : Int) (g : Int) = ((c ||| g : Nat) : Int) := u64_or_nat _ _ hc hg
  have q3 : bits .or .u64 (d : Int) (h : Int) = ((d ||| h : Nat) : Int) := u64_or_nat _ _ hd hh
  generalize (a ||| e : Nat) = x0 at q0 ⊢
  generalize (b ||| f : Nat) = x1 at q1 ⊢
  generalize (c ||| g : Nat) = x2 at q2 ⊢
  generalize (d ||| h : Nat) = x3 at q3 ⊢
  obtain ⟨W1, hW1, hB1, hs1, hk1⟩ := newBlk w _ rfl #[.int .u64 (a : Nat), .int .u64 (b : Nat), .int .u64 (c : Nat), .int .u64 (d : Nat)] 111
  obtain ⟨W2, hW2, hB2, hs2, hk2⟩ := newBlk W1 _ hs1 #[.int .u64 (e : Nat), .int .u64 (f : Nat), .int .u64 (g : Nat), .int .u64 (h : Nat)] 111
  obtain ⟨W3, hW3, hB3, hs3, hk3⟩ := newBlk W2 _ hs2 #[.int .u64 0, .int .u64 0, .int .u64 0, .int .u64 0] 111
  have hB : Below w.heap.size w W3 := (hB1.trans (hB2.mono (by omega))).trans (hB3.mono (by omega))
  have hk13 := (hB3.block w.heap.size (by omega)).trans ((hB2.block w.heap.size (by omega)).trans hk1)
  have hk23 := (hB3.block (w.heap.size + 1) (by omega)).trans hk2
  have HB := Lib.hid hB
  unfold wv
  clear hB hB1 hB2 hB3 hk1 hk2
  go_enter Tryd.func141, Tryd.ntmps141
  go_wp2_with fail
  go_loopw [6] (fun i wr => wr.heap[w.heap.size + 1]? = some (.cells #[.int .u64 (e : Nat), .int .u64 (f : Nat), .int .u64 (g : Nat), .int .u64 (h : Nat)] 111) ∧ (∃ v, wr.heap[w.heap.size + 1 + 1]? = some (.cells v 111) ∧ v.size = 4) ∧ Below w.heap.size w wr ∧ ((i = .int .i64 0 ∧ wr.heap[w.heap.size]? = some (.cells #[.int .u64 (a : Nat), .int .u64 (b : Nat), .int .u64 (c : Nat), .int .u64 (d : Nat)] 111)) ∨ (i = .int .i64 1 ∧ wr.heap[w.heap.size]? = some (.cells #[.int .u64 (x0 : Nat), .int .u64 (b : Nat), .int .u64 (c : Nat), .int .u64 (d : Nat)] 111)) ∨ (i = .int .i64 2 ∧ wr.heap[w.heap.size]? = some (.cells #[.int .u64 (x0 : Nat), .int .u64 (x1 : Nat), .int .u64 (c : Nat), .int .u64 (d : Nat)] 111)) ∨ (i = .int .i64 3 ∧ wr.heap[w.heap.size]? = some (.cells #[.int .u64 (x0 : Nat), .int .u64 (x1 : Nat), .int .u64 (x2 : Nat), .int .u64 (d : Nat)] 111)) ∨ (i = .int .i64 4 ∧ wr.heap[w.heap.size]? = some (.cells #[.int .u64 (x0 : Nat), .int .u64 (x1 : Nat), .int .u64 (x2 : Nat), .int .u64 (x3 : Nat)] 111)))) (fun i _ => 4 - (intOf i).toNat)
  case atStart => exact ⟨hk23, ⟨_, hk3, rfl⟩, HB.out, .inl ⟨rfl, hk13⟩⟩
  case round =>
    obtain ⟨hkB, ⟨vr, hkR, hvr⟩, hbw, hinv⟩ := hrel
    have e0 := cell_of_blk hkB 0
    have e1 := cell_of_blk hkB 1
    have e2 := cell_of_blk hkB 2
    have e3 := cell_of_blk hkB 3
    simp only [List.getElem?_toArray, List.getElem?_cons_zero, List.getElem?_cons_succ] at e0 e1 e2 e3
    rcases hinv with ⟨rfl, hkA⟩ | ⟨rfl, hkA⟩ | ⟨rfl, hkA⟩ | ⟨rfl, hkA⟩ | ⟨rfl, hkA⟩
    · have c0 := cell_of_blk hkA 0
      have c1 := cell_of_blk hkA 1
      have c2 := cell_of_blk hkA 2
      have c3 := cell_of_blk hkA 3
      have f0 := frozen_of_blk hkA 0
      simp only [List.getElem?_toArray, List.getElem?_cons_zero, List.getElem?_cons_succ] at c0 c1 c2 c3
      go_wp2_with fail
      go_region
      go_wp2
      go_roundw
      case rel =>
        have z1 := blk_off hkB (grown_set wr w.heap.size 0 (.int .u64 (x0 : Nat))) (by omega)
        have z2 := blk_off hkR (grown_set wr w.heap.size 0 (.int .u64 (x0 : Nat))) (by omega)
        exact ⟨z1, ⟨vr, z2, hvr⟩, (hbw.setCell (p := ⟨w.heap.size, 0, none⟩) (Nat.le_refl _) (.int .u64 (x0 : Nat))).drew, .inr (.inl ⟨rfl, blk_set hkA 0 (.int .u64 (x0 : Nat))⟩)⟩
      case measure => simp [intOf]
    · have c0 := cell_of_blk hkA 0
      have c1 := cell_of_blk hkA 1
      have c2 := cell_of_blk hkA 2
      have c3 := cell_of_blk hkA 3
      have f0 := frozen_of_blk hkA 1
      simp only [List.getElem?_toArray, List.getElem?_cons_zero, List.getElem?_cons_succ] at c0 c1 c2 c3
      go_wp2_with fail
      go_region
      go_wp2
      go_roundw
      case rel =>
        have z1 := blk_off hkB (grown_set wr w.heap.size 1 (.int .u64 (x1 : Nat))) (by omega)
        have z2 := blk_off hkR (grown_set wr w.heap.size 1 (.int .u64 (x1 : Nat))) (by omega)
        exact ⟨z1, ⟨vr, z2, hvr⟩, (hbw.setCell (p := ⟨w.heap.size, 1, none⟩) (Nat.le_refl _) (.int .u64 (x1 : Nat))).drew, .inr (.inr (.inl ⟨rfl, blk_set hkA 1 (.int .u64 (x1 : Nat))⟩))⟩
      case measure => simp [intOf]
    · have c0 := cell_of_blk hkA 0
      have c1 := cell_of_blk hkA 1
      have c2 := cell_of_blk hkA 2
      have c3 := cell_of_blk hkA 3
      have f0 := frozen_of_blk hkA 2
      simp only [List.getElem?_toArray, List.getElem?_cons_zero, List.getElem?_cons_succ] at c0 c1 c2 c3
      go_wp2_with fail
      go_region
      go_wp2
      go_roundw
      case rel =>
        have z1 := blk_off hkB (grown_set wr w.heap.size 2 (.int .u64 (x2 : Nat))) (by omega)
        have z2 := blk_off hkR (grown_set wr w.heap.size 2 (.int .u64 (x2 : Nat))) (by omega)
        exact ⟨z1, ⟨vr, z2, hvr⟩, (hbw.setCell (p := ⟨w.heap.size, 2, none⟩) (Nat.le_refl _) (.int .u64 (x2 : Nat))).drew, .inr (.inr (.inr (.inl ⟨rfl, blk_set hkA 2 (.int .u64 (x2 : Nat))⟩)))⟩
      case measure => simp [intOf]
    · have c0 := cell_of_blk hkA 0
      have c1 := cell_of_blk hkA 1
      have c2 := cell_of_blk hkA 2
      have c3 := cell_of_blk hkA 3
      have f0 := frozen_of_blk hkA 3
      simp only [List.getElem?_toArray, List.getElem?_cons_zero, List.getElem?_cons_succ] at c0 c1 c2 c3
      go_wp2_with fail
      go_region
      go_wp2
      go_roundw
      case rel =>
        have z1 := blk_off hkB (grown_set wr w.heap.size 3 (.int .u64 (x3 : Nat))) (by omega)
        have z2 := blk_off hkR (grown_set wr w.heap.size 3 (.int .u64 (x3 : Nat))) (by omega)
        exact ⟨z1, ⟨vr, z2, hvr⟩, (hbw.setCell (p := ⟨w.heap.size, 3, none⟩) (Nat.le_refl _) (.int .u64 (x3 : Nat))).drew, .inr (.inr (.inr (.inr (⟨rfl, blk_set hkA 3 (.int .u64 (x3 : Nat))⟩))))⟩
      case measure => simp [intOf]
    · have c0 := cell_of_blk hkA 0
      have c1 := cell_of_blk hkA 1
      have c2 := cell_of_blk hkA 2
      have c3 := cell_of_blk hkA 3
      have f0 := frozen_of_blk hkR 0
      have f1 := frozen_of_blk hkR 1
      have f2 := frozen_of_blk hkR 2
      have f3 := frozen_of_blk hkR 3
      obtain ⟨rl⟩ := vr
      match rl, hvr with
      | [y0, y1, y2, y3], _ =>
        have d0 := cell_of_blk hkR 0
        have d1 := cell_of_blk hkR 1
        have d2 := cell_of_blk hkR 2
        have d3 := cell_of_blk hkR 3
        simp only [List.getElem?_toArray, List.getElem?_cons_zero, List.getElem?_cons_succ] at c0 c1 c2 c3 d0 d1 d2 d3
        obtain ⟨q1', q2'⟩ := store4 hkR (.int .u64 (x0 : Nat)) (.int .u64 (x1 : Nat)) (.int .u64 (x2 : Nat)) (.int .u64 (x3 : Nat))
        have hb4 := hbw.trans (below_grown q2' (by omega) hbw.size)
        go_wp2
        generalize ((((wr.setCell ⟨w.heap.size + 1 + 1, 0, none⟩ (.int .u64 (x0 : Nat))).setCell ⟨w.heap.size + 1 + 1, 1, none⟩ (.int .u64 (x1 : Nat))).setCell ⟨w.heap.size + 1 + 1, 2, none⟩ (.int .u64 (x2 : Nat))).setCell ⟨w.heap.size + 1 + 1, 3, none⟩ (.int .u64 (x3 : Nat))) = w5 at q1' hb4 ⊢
        have t0 := cell_of_blk q1' 0
        have t1 := cell_of_blk q1' 1
        have t2 := cell_of_blk q1' 2
        have t3 := cell_of_blk q1' 3
        simp only [List.getElem?_toArray, List.getElem?_cons_zero, List.getElem?_cons_succ] at t0 t1 t2 t3
        refine bodyPost_ret (v := _) (by simp [results, Tryd.f141, go_sem, t0, t1, t2, t3]) rfl ⟨rfl, hb4⟩

set_option maxRecDepth 100000 in
set_option maxHeartbeats 2000000 in
theorem bMinus_raw (a b c d e f g h : Nat) (ha : a < 18446744073709551616) (hb : b < 18446744073709551616) (hc : c < 18446744073709551616) (hd : d < 18446744073709551616) (he : e < 18446744073709551616) (hf : f < 18446744073709551616) (hg : g < 18446744073709551616) (hh : h < 18446744073709551616) (w : World) :
    Calls Tryd.prog 139 #[wv a b c d, wv e f g h] w fun x w' => x = .returned (wv (a &&& (18446744073709551615 - e)) (b &&& (18446744073709551615 - f)) (c &&& (18446744073709551615 - g)) (d &&& (18446744073709551615 - h))) ∧ Below w.heap.size w w' := by
  have q0 : bits .andNot .u64 (a : Int) (e : Int) = ((a &&& (18446744073709551615 - e) : Nat) : Int) := u64_andNot_nat _ _ ha he
  have q1 : bits .andNot .u64 (b : Int) (f : Int) = ((b &&& (18446744073709551615 - f) : Nat) : Int) := u64_andNot_nat _ _ hb hf
  have q2 : bits .andNot .u64 (c : Int) (g : Int) = ((c &&& (18446744073709551615 - g) : Nat) : Int) := u64_andNot_nat _ _ hc hg
  have q3 : bits .andNot .u64 (d : Int) (h : Int) = ((d &&& (18446744073709551615 - h) : Nat) : Int) := u64_andNot_nat _ _ hd hh
  generalize (a &&& (18446744073709551615 - e) : Nat) = x0 at q0 ⊢
  generalize (b &&& (18446744073709551615 - f) : Nat) = x1 at q1 ⊢
  generalize (c &&& (18446744073709551615 - g) : Nat) = x2 at q2 ⊢
  generalize (d &&& (18446744073709551615 - h) : Nat) = x3 at q3 ⊢
  obtain ⟨W1, hW1, hB1, hs1, hk1⟩ := newBlk w _ rfl #[.int .u64 (a : Nat), .int .u64 (b : Nat), .int .u64 (c : Nat), .int .u64 (d : Nat)] 111
  obtain ⟨W2, hW2, hB2, hs2, hk2⟩ := newBlk W1 _ hs1 #[.int .u64 (e : Nat), .int .u64 (f : Nat), .int .u64 (g : Nat), .int .u64 (h : Nat)] 111
  obtain ⟨W3, hW3, hB3, hs3, hk3⟩ := newBlk W2 _ hs2 #[.int .u64 0, .int .u64 0, .int .u64 0, .int .u64 0] 111
  have hB : Below w.heap.size w W3 := (hB1.trans (hB2.mono (by omega))).trans (hB3.mono (by omega))
  have hk13 := (hB3.block w.heap.size (by omega)).trans ((hB2.block w.heap.size (by omega)).trans hk1)
  have hk23 := (hB3.block (w.heap.size + 1) (by omega)).trans hk2
  have HB := Lib.hid hB
  unfold wv
  clear hB hB1 hB2 hB3 hk1 hk2
  go_enter Tryd.func139, Tryd.ntmps139
  go_wp2_with fail
  go_loopw [6] (fun i wr => wr.heap[w.heap.size + 1]? = some (.cells #[.int .u64 (e : Nat), .int .u64 (f : Nat), .int .u64 (g : Nat), .int .u64 (h : Nat)] 111) ∧ (∃ v, wr.heap[w.heap.size + 1 + 1]? = some (.cells v 111) ∧ v.size = 4) ∧ Below w.heap.size w wr ∧ ((i = .int .i64 0 ∧ wr.heap[w.heap.size]? = some (.cells #[.int .u64 (a : Nat), .int .u64 (b : Nat), .int .u64 (c : Nat), .int .u64 (d : Nat)] 111)) ∨ (i = .int .i64 1 ∧ wr.heap[w.heap.size]? = some (.cells #[.int .u64 (x0 : Nat), .int .u64 (b : Nat), .int .u64 (c : Nat), .int .u64 (d : Nat)] 111)) ∨ (i = .int .i64 2 ∧ wr.heap[w.heap.size]? = some (.cells #[.int .u64 (x0 : Nat), .int .u64 (x1 : Nat), .int .u64 (c : Nat), .int .u64 (d : Nat)] 111)) ∨ (i = .int .i64 3 ∧ wr.heap[w.heap.size]? = some (.cells #[.int .u64 (x0 : Nat), .int .u64 (x1 : Nat), .int .u64 (x2 : Nat), .int .u64 (d : Nat)] 111)) ∨ (i = .int .i64 4 ∧ wr.heap[w.heap.size]? = some (.cells #[.int .u64 (x0 : Nat), .int .u64 (x1 : Nat), .int .u64 (x2 : Nat), .int .u64 (x3 : Nat)] 111)))) (fun i _ => 4 - (intOf i).toNat)
  case atStart => exact ⟨hk23, ⟨_, hk3, rfl⟩, HB.out, .inl ⟨rfl, hk13⟩⟩
  case round =>
    obtain ⟨hkB, ⟨vr, hkR, hvr⟩, hbw, hinv⟩ := hrel
    have e0 := cell_of_blk hkB 0
    have e1 := cell_of_blk hkB 1
    have e2 := cell_of_blk hkB 2
    have e3 := cell_of_blk hkB 3
    simp only [List.getElem?_toArray, List.getElem?_cons_zero, List.getElem?_cons_succ] at e0 e1 e2 e3
    rcases hinv with ⟨rfl, hkA⟩ | ⟨rfl, hkA⟩ | ⟨rfl, hkA⟩ | ⟨rfl, hkA⟩ | ⟨rfl, hkA⟩
    · have c0 := cell_of_blk hkA 0
      have c1 := cell_of_blk hkA 1
      have c2 := cell_of_blk hkA 2
      have c3 := cell_of_blk hkA 3
      have f0 := frozen_of_blk hkA 0
      simp only [List.getElem?_toArray, List.getElem?_cons_zero, List.getElem?_cons_succ] at c0 c1 c2 c3
      go_wp2_with fail
      go_region
      go_wp2
      go_roundw
      case rel =>
        have z1 := blk_off hkB (grown_set wr w.heap.size 0 (.int .u64 (x0 : Nat))) (by omega)
        have z2 := blk_off hkR (grown_set wr w.heap.size 0 (.int .u64 (x0 : Nat))) (by omega)
        exact ⟨z1, ⟨vr, z2, hvr⟩, (hbw.setCell (p := ⟨w.heap.size, 0, none⟩) (Nat.le_refl _) (.int .u64 (x0 : Nat))).drew, .inr (.inl ⟨rfl, blk_set hkA 0 (.int .u64 (x0 : Nat))⟩)⟩
      case measure => simp [intOf]
    · have c0 := cell_of_blk hkA 0
      have c1 := cell_of_blk hkA 1
      have c2 := cell_of_blk hkA 2
      have c3 := cell_of_blk hkA 3
      have f0 := frozen_of_blk hkA 1
      simp only [List.getElem?_toArray, List.getElem?_cons_zero, List.getElem?_cons_succ] at c0 c1 c2 c3
      go_wp2_with fail
      go_region
      go_wp2
      go_roundw
      case rel =>
        have z1 := blk_off hkB (grown_set wr w.heap.size 1 (.int .u64 (x1 : Nat))) (by omega)
        have z2 := blk_off hkR (grown_set wr w.heap.size 1 (.int .u64 (x1 : Nat))) (by omega)
        exact ⟨z1, ⟨vr, z2, hvr⟩, (hbw.setCell (p := ⟨w.heap.size, 1, none⟩) (Nat.le_refl _) (.int .u64 (x1 : Nat))).drew, .inr (.inr (.inl ⟨rfl, blk_set hkA 1 (.int .u64 (x1 : Nat))⟩))⟩
      case measure => simp [intOf]
    · have c0 := cell_of_blk hkA 0
      have c1 := cell_of_blk hkA 1
      have c2 := cell_of_blk hkA 2
      have c3 := cell_of_blk hkA 3
      have f0 := frozen_of_blk hkA 2
      simp only [List.getElem?_toArray, List.getElem?_cons_zero, List.getElem?_cons_succ] at c0 c1 c2 c3
      go_wp2_with fail
      go_region
      go_wp2
      go_roundw
      case rel =>
        have z1 := blk_off hkB (grown_set wr w.heap.size 2 (.int .u64 (x2 : Nat))) (by omega)
        have z2 := blk_off hkR (grown_set wr w.heap.size 2 (.int .u64 (x2 : Nat))) (by omega)
        exact ⟨z1, ⟨vr, z2, hvr⟩, (hbw.setCell (p := ⟨w.heap.size, 2, none⟩) (Nat.le_refl _) (.int .u64 (x2 : Nat))).drew, .inr (.inr (.inr (.inl ⟨rfl, blk_set hkA 2 (.int .u64 (x2 : Nat))⟩)))⟩
      case measure => simp [intOf]
    · have c0 := cell_of_blk hkA 0
      have c1 := cell_of_blk hkA 1
      have c2 := cell_of_blk hkA 2
      have c3 := cell_of_blk hkA 3
      have f0 := frozen_of_blk hkA 3
      simp only [List.getElem?_toArray, List.getElem?_cons_zero, List.getElem?_cons_succ] at c0 c1 c2 c3
      go_wp2_with fail
      go_region
      go_wp2
      go_roundw
      case rel =>
        have z1 := blk_off hkB (grown_set wr w.heap.size 3 (.int .u64 (x3 : Nat))) (by omega)
        have z2 := blk_off hkR (grown_set wr w.heap.size 3 (.int .u64 (x3 : Nat))) (by omega)
        exact ⟨z1, ⟨vr, z2, hvr⟩, (hbw.setCell (p := ⟨w.heap.size, 3, none⟩) (Nat.le_refl _) (.int .u64 (x3 : Nat))).drew, .inr (.inr (.inr (.inr (⟨rfl, blk_set hkA 3 (.int .u64 (x3 : Nat))⟩))))⟩
      case measure => simp [intOf]
    · have c0 := cell_of_blk hkA 0
      have c1 := cell_of_blk hkA 1
      have c2 := cell_of_blk hkA 2
      have c3 := cell_of_blk hkA 3
      have f0 := frozen_of_blk hkR 0
      have f1 := frozen_of_blk hkR 1
      have f2 := frozen_of_blk hkR 2
      have f3 := frozen_of_blk hkR 3
      obtain ⟨rl⟩ := vr
      match rl, hvr with
      | [y0, y1, y2, y3], _ =>
        have d0 := cell_of_blk hkR 0
        have d1 := cell_of_blk hkR 1
        have d2 := cell_of_blk hkR 2
        have d3 := cell_of_blk hkR 3
        simp only [List.getElem?_toArray, List.getElem?_cons_zero, List.getElem?_cons_succ] at c0 c1 c2 c3 d0 d1 d2 d3
        obtain ⟨q1', q2'⟩ := store4 hkR (.int .u64 (x0 : Nat)) (.int .u64 (x1 : Nat)) (.int .u64 (x2 : Nat)) (.int .u64 (x3 : Nat))
        have hb4 := hbw.trans (below_grown q2' (by omega) hbw.size)
        go_wp2
        generalize ((((wr.setCell ⟨w.heap.size + 1 + 1, 0, none⟩ (.int .u64 (x0 : Nat))).setCell ⟨w.heap.size + 1 + 1, 1, none⟩ (.int .u64 (x1 : Nat))).setCell ⟨w.heap.size + 1 + 1, 2, none⟩ (.int .u64 (x2 : Nat))).setCell ⟨w.heap.size + 1 + 1, 3, none⟩ (.int .u64 (x3 : Nat))) = w5 at q1' hb4 ⊢
        have t0 := cell_of_blk q1' 0
        have t1 := cell_of_blk q1' 1
        have t2 := cell_of_blk q1' 2
        have t3 := cell_of_blk q1' 3
        simp only [List.getElem?_toArray, List.getElem?_cons_zero, List.getElem?_cons_succ] at t0 t1 t2 t3
        refine bodyPost_ret (v := _) (by simp [results, Tryd.f139, go_sem, t0, t1, t2, t3]) rfl ⟨rfl, hb4⟩
theorem bAnd_any (p q : Nat → Bool) (w : World) : Calls Tryd.prog 140 #[sv p, sv q] w fun x w' => x = .returned (sv fun i => p i && q i) ∧ Below w.heap.size w w' := by
  refine (bAnd_raw _ _ _ _ _ _ _ _ (bw_lt64 _) (bw_lt64 _) (bw_lt64 _) (bw_lt64 _) (bw_lt64 _) (bw_lt64 _) (bw_lt64 _) (bw_lt64 _) w).mono ?_
  rintro x w' ⟨rfl, hb⟩
  exact ⟨by unfold sv; rw [bw_and, bw_and, bw_and, bw_and], hb⟩
theorem bOr_any (p q : Nat → Bool) (w : World) : Calls Tryd.prog 141 #[sv p, sv q] w fun x w' => x = .returned (sv fun i => p i || q i) ∧ Below w.heap.size w w' := by
  refine (bOr_raw _ _ _ _ _ _ _ _ (bw_lt64 _) (bw_lt64 _) (bw_lt64 _) (bw_lt64 _) (bw_lt64 _) (bw_lt64 _) (bw_lt64 _) (bw_lt64 _) w).mono ?_
  rintro x w' ⟨rfl, hb⟩
  exact ⟨by unfold sv; rw [bw_or, bw_or, bw_or, bw_or], hb⟩
theorem bMinus_any (p q : Nat → Bool) (w : World) : Calls Tryd.prog 139 #[sv p, sv q] w fun x w' => x = .returned (sv fun i => p i && !q i) ∧ Below w.heap.size w w' := by
  refine (bMinus_raw _ _ _ _ _ _ _ _ (bw_lt64 _) (bw_lt64 _) (bw_lt64 _) (bw_lt64 _) (bw_lt64 _) (bw_lt64 _) (bw_lt64 _) (bw_lt64 _) w).mono ?_
  rintro x w' ⟨rfl, hb⟩
  exact ⟨by unfold sv; rw [bw_minus, bw_minus, bw_minus, bw_minus], hb⟩
end Go.Proofs.YtnkkpjgclekobaaDoor

namespace Go.Proofs.YtnkkpjgclekobaaDoor
open Go.RowKit

theorem sv_zero {p : Nat → Bool} : (bw p 64 = 0 ∧ bw (fun j => p (64 + j)) 64 = 0 ∧ bw (fun j => p (128 + j)) 64 = 0 ∧ bw (fun j => p (192 + j)) 64 = 0) ↔ ∀ i, i < 256 → p i = false := by
  rw [bw_zero, bw_zero, bw_zero, bw_zero]
  constructor
  · rintro ⟨h0, h1, h2, h3⟩ i hi
    rcases (show i < 64 ∨ (64 ≤ i ∧ i < 128) ∨ (128 ≤ i ∧ i < 192) ∨ 192 ≤ i by omega) with h | h | h | h
    · exact h0 i h
    · have := h1 (i - 64) (by omega); rwa [show 64 + (i - 64) = i by omega] at this
    · have := h2 (i - 128) (by omega); rwa [show 128 + (i - 128) = i by omega] at this
    · have := h3 (i - 192) (by omega); rwa [show 192 + (i - 192) = i by omega] at this
  · intro h
    exact ⟨fun i hi => h i (by omega), fun i hi => h _ (by omega), fun i hi => h _ (by omega), fun i hi => h _ (by omega)⟩
set_option maxRecDepth 100000 in
theorem eqSet (a b c d : Nat) (w : World) : (Op.equalIn 10000 111 (.agg #[.int .u64 (a : Nat), .int .u64 (b : Nat), .int .u64 (c : Nat), .int .u64 (d : Nat)]) (.agg #[.int .u64 0, .int .u64 0, .int .u64 0, .int .u64 0])).run Tryd.prog w = .ok (decide (a = 0) && (decide (b = 0) && (decide (c = 0) && decide (d = 0)))) w := by
  have u3 := Tryd.underlying109
  have a3 := Tryd.isAgg109
  have z3 := Tryd.sizeOf109
  rw [show (10000 : Nat) = 9999 + 1 from rfl, Op.equalIn]
  simp only [Sem.run_bind, run_underlying Tryd.underlying111, Result.andThen_ok]
  simp only [Std.Legacy.Range.forIn_eq_forIn_range', Std.Legacy.Range.size, Nat.sub_zero, Nat.add_sub_cancel, Nat.div_one, List.range'_succ, List.range'_zero, List.forIn_cons, List.forIn_nil]
  go_simp
  by_cases h1 : a = 0 <;> by_cases h2 : b = 0 <;> by_cases h3 : c = 0 <;> by_cases h4 : d = 0 <;> simp [h1, h2, h3, h4]
/-- Whether all numbers below 256 of p are q's; whether one is. -/
def subB (p q : Nat → Bool) : Bool := (List.range 256).all fun i => !p i || q i
def meetB (p q : Nat → Bool) : Bool := (List.range 256).any fun i => p i && q i

set_option maxRecDepth 100000 in
set_option maxHeartbeats 2000000 in
theorem bWithin_any (p q : Nat → Bool) (w : World) : Calls Tryd.prog 104 #[sv p, sv q] w fun x w' => x = .returned (.bool (subB p q)) ∧ Below w.heap.size w w' := by
  have hm := fun w1 => bMinus_any p q w1
  have hz : subB p q = (decide (bw (fun i => p i && !q i) 64 = 0) && (decide (bw (fun j => p (64 + j) && !q (64 + j)) 64 = 0) && (decide (bw (fun j => p (128 + j) && !q (128 + j)) 64 = 0) && decide (bw (fun j => p (192 + j) && !q (192 + j)) 64 = 0)))) := by
    have h := sv_zero (p := fun i => p i && !q i)
    rw [Bool.eq_iff_iff]
    simp only [Bool.and_eq_true, decide_eq_true_eq, h, subB, List.all_eq_true, List.mem_range, Bool.or_eq_true, Bool.not_eq_true']
    constructor
    · intro k i hi; rcases k i hi with e | e <;> simp [e]
    · intro k i hi
      have := k i hi
      cases hp : p i
      · exact .inl rfl
      · rw [hp] at this; simp at this; exact .inr this
  unfold sv wv at hm ⊢
  rw [hz]
  clear hz
  generalize bw (fun i => p i && !q i) 64 = x0 at hm ⊢
  generalize bw (fun j => p (64 + j) && !q (64 + j)) 64 = x1 at hm ⊢
  generalize bw (fun j => p (128 + j) && !q (128 + j)) 64 = x2 at hm ⊢
  generalize bw (fun j => p (192 + j) && !q (192 + j)) 64 = x3 at hm ⊢
  generalize bw p 64 = a at hm ⊢
  generalize bw (fun j => p (64 + j)) 64 = b at hm ⊢
  generalize bw (fun j => p (128 + j)) 64 = c at hm ⊢
  generalize bw (fun j => p (192 + j)) 64 = d at hm ⊢
  generalize bw q 64 = e at hm ⊢
  generalize bw (fun j => q (64 + j)) 64 = f at hm ⊢
  generalize bw (fun j => q (128 + j)) 64 = g at hm ⊢
  generalize bw (fun j => q (192 + j)) 64 = h at hm ⊢
  obtain ⟨W1, hW1, hB1, hs1, hk1⟩ := newBlk w _ rfl #[.int .u64 (a : Nat), .int .u64 (b : Nat), .int .u64 (c : Nat), .int .u64 (d : Nat)] 111
  obtain ⟨W2, hW2, hB2, hs2, hk2⟩ := newBlk W1 _ hs1 #[.int .u64 (e : Nat), .int .u64 (f : Nat), .int .u64 (g : Nat), .int .u64 (h : Nat)] 111
  have hB : Below w.heap.size w W2 := hB1.trans (hB2.mono (by omega))
  have hk12 := (hB2.block w.heap.size (by omega)).trans hk1
  have a0 := cell_of_blk hk12 0
  have a1 := cell_of_blk hk12 1
  have a2 := cell_of_blk hk12 2
  have a3 := cell_of_blk hk12 3
  have b0 := cell_of_blk hk2 0
  have b1 := cell_of_blk hk2 1
  have b2 := cell_of_blk hk2 2
  have b3 := cell_of_blk hk2 3
  simp only [List.getElem?_toArray, List.getElem?_cons_zero, List.getElem?_cons_succ] at a0 a1 a2 a3 b0 b1 b2 b3
  have HB := Lib.hid hB
  have hq := fun w => eqSet x0 x1 x2 x3 w
  clear hB hB1 hB2 hk1 hk12 hk2
  go_enter Tryd.func104, Tryd.ntmps104
  go_wp2_with (go_at_call 139; refine (hm W2).mono ?_; rintro x w3 ⟨rfl, hb3⟩)
  go_ret
  exact ⟨rfl, HB.out.trans (hb3.mono (by omega))⟩

set_option maxRecDepth 100000 in
set_option maxHeartbeats 2000000 in
theorem bMeets_any (p q : Nat → Bool) (w : World) : Calls Tryd.prog 143 #[sv p, sv q] w fun x w' => x = .returned (.bool (meetB p q)) ∧ Below w.heap.size w w' := by
  have hm := fun w1 => bAnd_any p q w1
  have hz : meetB p q = !(decide (bw (fun i => p i && q i) 64 = 0) && (decide (bw (fun j => p (64 + j) && q (64 + j)) 64 = 0) && (decide (bw (fun j => p (128 + j) && q (128 + j)) 64 = 0) && decide (bw (fun j => p (192 + j) && q (192 + j)) 64 = 0)))) := by
    have h := sv_zero (p := fun i => p i && q i)
    rw [Bool.eq_iff_iff, Bool.not_eq_true', ← Bool.not_eq_true]
    simp only [Bool.and_eq_true, decide_eq_true_eq, h, meetB, List.any_eq_true, List.mem_range]
    constructor
    · rintro ⟨i, hi, h1, h2⟩ k
      have := k i hi
      simp [h1, h2] at this
    · intro k
      refine Classical.byContradiction fun hn => k fun i hi => ?_
      cases hp : p i
      · rfl
      · cases hq : q i
        · rfl
        · exact absurd ⟨i, hi, hp, hq⟩ hn
  unfold sv wv at hm ⊢
  rw [hz]
  clear hz
  generalize bw (fun i => p i && q i) 64 = x0 at hm ⊢
  generalize bw (fun j => p (64 + j) && q (64 + j)) 64 = x1 at hm ⊢
  generalize bw (fun j => p (128 + j) && q (128 + j)) 64 = x2 at hm ⊢
  generalize bw (fun j => p (192 + j) && q (192 + j)) 64 = x3 at hm ⊢
  generalize bw p 64 = a at hm ⊢
  generalize bw (fun j => p (64 + j)) 64 = b at hm ⊢
  generalize bw (fun j => p (128 + j)) 64 = c at hm ⊢
  generalize bw (fun j => p (192 + j)) 64 = d at hm ⊢
  generalize bw q 64 = e at hm ⊢
  generalize bw (fun j => q (64 + j)) 64 = f at hm ⊢
  generalize bw (fun j => q (128 + j)) 64 = g at hm ⊢
  generalize bw (fun j => q (192 + j)) 64 = h at hm ⊢
  obtain ⟨W1, hW1, hB1, hs1, hk1⟩ := newBlk w _ rfl #[.int .u64 (a : Nat), .int .u64 (b : Nat), .int .u64 (c : Nat), .int .u64 (d : Nat)] 111
  obtain ⟨W2, hW2, hB2, hs2, hk2⟩ := newBlk W1 _ hs1 #[.int .u64 (e : Nat), .int .u64 (f : Nat), .int .u64 (g : Nat), .int .u64 (h : Nat)] 111
  have hB : Below w.heap.size w W2 := hB1.trans (hB2.mono (by omega))
  have hk12 := (hB2.block w.heap.size (by omega)).trans hk1
  have a0 := cell_of_blk hk12 0
  have a1 := cell_of_blk hk12 1
  have a2 := cell_of_blk hk12 2
  have a3 := cell_of_blk hk12 3
  have b0 := cell_of_blk hk2 0
  have b1 := cell_of_blk hk2 1
  have b2 := cell_of_blk hk2 2
  have b3 := cell_of_blk hk2 3
  simp only [List.getElem?_toArray, List.getElem?_cons_zero, List.getElem?_cons_succ] at a0 a1 a2 a3 b0 b1 b2 b3
  have HB := Lib.hid hB
  have hq := fun w => eqSet x0 x1 x2 x3 w
  clear hB hB1 hB2 hk1 hk12 hk2
  go_enter Tryd.func143, Tryd.ntmps143
  go_wp2_with (go_at_call 140; refine (hm W2).mono ?_; rintro x w3 ⟨rfl, hb3⟩)
  go_ret
  exact ⟨by simp, HB.out.trans (hb3.mono (by omega))⟩

set_option maxRecDepth 100000 in
set_option maxHeartbeats 1000000 in
theorem bHas_raw (a b c d q r : Nat) (ha : a < 18446744073709551616) (hb : b < 18446744073709551616) (hc : c < 18446744073709551616) (hd : d < 18446744073709551616) (hq : q < 4) (hr : r < 64) (w : World) :
    Calls Tryd.prog 103 #[wv a b c d, .int .i64 ((64 * q + r : Nat) : Int)] w fun x w' => x = .returned (.bool (if q = 0 then a.testBit r else if q = 1 then b.testBit r else if q = 2 then c.testBit r else d.testBit r)) ∧ Below w.heap.size w w' := by
  have h1 : (((64 * q + r : Nat) : Int)).tdiv 64 = q := by rw [Int.tdiv_eq_ediv_of_nonneg (by omega)]; omega
  have h2 : (((64 * q + r : Nat) : Int)).tmod 64 = r := by rw [Int.tmod_eq_emod_of_nonneg (by omega)]; omega
  have han : ∀ x : Nat, x < 18446744073709551616 → bits .and .u64 ((x : Int) / (2 : Int) ^ r) 1 = ((x / 2 ^ r % 2 : Nat) : Int) := fun x hx => by
    rw [pow_cast, show (x : Int) / ((2 ^ r : Nat) : Int) = ((x / 2 ^ r : Nat) : Int) from rfl]
    have := u64_and_nat (x / 2 ^ r) 1 (Nat.lt_of_le_of_lt (Nat.div_le_self _ _) hx) (by omega)
    rw [nat_mask1] at this
    exact this
  have htb : ∀ x : Nat, (((x / 2 ^ r % 2 : Nat) : Int) == 1) = x.testBit r := fun x => by
    rw [Nat.testBit_eq_decide_div_mod_eq, Bool.eq_iff_iff]
    simp only [beq_iff_eq, decide_eq_true_eq]
    omega
  obtain ⟨W1, hW1, hB1, hs1, hk1⟩ := newBlk w _ rfl #[.int .u64 a, .int .u64 b, .int .u64 c, .int .u64 d] 111
  have a0 := cell_of_blk hk1 0
  have a1 := cell_of_blk hk1 1
  have a2 := cell_of_blk hk1 2
  have a3 := cell_of_blk hk1 3
  simp only [List.getElem?_toArray, List.getElem?_cons_zero, List.getElem?_cons_succ] at a0 a1 a2 a3
  have h0I : (0 : Int) ≤ r := by omega
  have hrI : (r : Int) < 64 := by omega
  have hrn : ¬ ((r : Int) < 0) := by omega
  have hmin : min r 64 = r := by omega
  have HB := Lib.hid hB1
  generalize hz : ((64 * q + r : Nat) : Int) = z at h1 h2 ⊢
  clear hz hB1 hk1
  unfold wv
  rcases (show q = 0 ∨ q = 1 ∨ q = 2 ∨ q = 3 by omega) with rfl | rfl | rfl | rfl <;> simp only [Nat.reduceEqDiff, if_true, if_false, Nat.one_ne_zero]
  · have e2 := han a ha
    have e3 := htb a
    rw [← e3]
    clear e3
    generalize (a / 2 ^ r % 2 : Nat) = y at e2 ⊢
    clear han htb
    go_enter Tryd.func103, Tryd.ntmps103
    go_wp2_with fail
    go_ret
    exact ⟨rfl, HB.out⟩
  · have e2 := han b hb
    have e3 := htb b
    rw [← e3]
    clear e3
    generalize (b / 2 ^ r % 2 : Nat) = y at e2 ⊢
    clear han htb
    go_enter Tryd.func103, Tryd.ntmps103
    go_wp2_with fail
    go_ret
    exact ⟨rfl, HB.out⟩
  · have e2 := han c hc
    have e3 := htb c
    rw [← e3]
    clear e3
    generalize (c / 2 ^ r % 2 : Nat) = y at e2 ⊢
    clear han htb
    go_enter Tryd.func103, Tryd.ntmps103
    go_wp2_with fail
    go_ret
    exact ⟨rfl, HB.out⟩
  · have e2 := han d hd
    have e3 := htb d
    rw [← e3]
    clear e3
    generalize (d / 2 ^ r % 2 : Nat) = y at e2 ⊢
    clear han htb
    go_enter Tryd.func103, Tryd.ntmps103
    go_wp2_with fail
    go_ret
    exact ⟨rfl, HB.out⟩
theorem bHas_any (p : Nat → Bool) (e : Nat) (he : e < 256) (w : World) : Calls Tryd.prog 103 #[sv p, .int .i64 (e : Nat)] w fun x w' => x = .returned (.bool (p e)) ∧ Below w.heap.size w w' := by
  obtain ⟨q, r, hq, hr, rfl⟩ : ∃ q r, q < 4 ∧ r < 64 ∧ e = 64 * q + r := ⟨e / 64, e % 64, by omega, by omega, by omega⟩
  refine (bHas_raw _ _ _ _ q r (bw_lt64 _) (bw_lt64 _) (bw_lt64 _) (bw_lt64 _) hq hr w).mono ?_
  rintro x w' ⟨rfl, hb⟩
  refine ⟨?_, hb⟩
  rw [bw_bit, bw_bit, bw_bit, bw_bit]
  rcases (show q = 0 ∨ q = 1 ∨ q = 2 ∨ q = 3 by omega) with rfl | rfl | rfl | rfl <;> simp [hr]
end Go.Proofs.YtnkkpjgclekobaaDoor

namespace Go.Proofs.YtnkkpjgclekobaaDoor
open Go.RowKit

def tzT : List Nat := [0, 1, 56, 2, 57, 49, 28, 3, 61, 58, 42, 50, 38, 29, 17, 4, 62, 47, 59, 36, 45, 43, 51, 22, 53, 39, 33, 30, 24, 18, 12, 5, 63, 55, 48, 27, 60, 41, 37, 16, 46, 35, 44, 21, 52, 32, 23, 11, 54, 26, 40, 15, 34, 20, 31, 10, 25, 14, 19, 9, 13, 8, 7, 6]
/-- THE TWO TABLES THAT LAYER 3 READS LIE AS THE TEXT LAYS THEM. -/
structure GT (w : World) : Prop where
  ga : GA w
  size : 3 < w.heap.size
  tz : ∀ k, k < 64 → w.cell? ⟨3, k, none⟩ = some (.int .u8 ((tzT.getD k 0 : Nat) : Int))
theorem GT.later {w w' : World} (h : GT w) (hb : Below w.heap.size w w') : GT w' :=
  ⟨h.ga.later hb, Nat.lt_of_lt_of_le h.size hb.size, fun k hk => (hb.cell (p := ⟨3, k, none⟩) h.size).trans (h.tz k hk)⟩
def tzI (j : Nat) : Nat := (2 ^ j * 285870213051353865 % 18446744073709551616) / 288230376151711744
theorem tzT_all : ((List.range 64).all fun j => Nat.beq (tzT.getD (tzI j) 0) j && Nat.blt (tzI j) 64) = true := by kernel_rfl
theorem tzT_at (j : Nat) (h : j < 64) : tzT.getD ((2 ^ j * 285870213051353865 % 18446744073709551616) / 288230376151711744) 0 = j ∧ (2 ^ j * 285870213051353865 % 18446744073709551616) / 288230376151711744 < 64 := by
  have := List.all_eq_true.1 tzT_all j (List.mem_range.2 h)
  rw [Bool.and_eq_true] at this
  exact ⟨Nat.eq_of_beq_eq_true this.1, Nat.le_of_ble_eq_true this.2⟩

set_option maxRecDepth 100000 in
set_option maxHeartbeats 1000000 in
theorem tz64_raw (x y P M I j : Nat) (hj : j < 64) (hx0 : ((x : Int) == 0) = false) (hneg : IntKind.u64.wrap (-(x : Int)) = (y : Int)) (hand : bits .and .u64 (x : Int) (y : Int) = (P : Int)) (hmul : IntKind.u64.wrap ((P : Int) * 285870213051353865) = (M : Int))
    (hsh2 : (M : Int) / 288230376151711744 = (I : Int)) (hI0 : (0 : Int) ≤ I) (hI1 : (I : Int) < 64) (w : World) (hcell : w.cell? ⟨3, I, none⟩ = some (.int .u8 (j : Nat))) :
    Calls Tryd.prog 100 #[.int .u64 x] w fun e w' => e = .returned (.int .i64 (j : Nat)) ∧ w' = w := by
  go_enter Tryd.func100, Tryd.ntmps100
  go_wp2
  go_ret
  exact ⟨rfl, rfl⟩
set_option maxRecDepth 100000 in
set_option maxHeartbeats 1000000 in
theorem tz64_any (p : Nat → Bool) (j : Nat) (hj : j < 64) (hp : p j = true) (hl : ∀ i, i < j → p i = false) (w : World) (hG : GT w) : Calls Tryd.prog 100 #[.int .u64 (bw p 64 : Nat)] w fun e w' => e = .returned (.int .i64 (j : Nat)) ∧ w' = w := by
  have hlt := bw_lt64 p
  have hlow := bw_lowest hj hp hl
  have hne : bw p 64 ≠ 0 := fun e => by
    have := bw_zero.1 e j hj
    rw [hp] at this; cases this
  generalize bw p 64 = x at hlt hlow hne ⊢
  obtain ⟨ht, hi⟩ := tzT_at j hj
  have hpow : 2 ^ j < 18446744073709551616 := Nat.pow_lt_pow_right (by omega) hj
  generalize hP : 2 ^ j = P at hlow ht hi hpow
  have hneg : IntKind.u64.wrap (-(x : Int)) = ((18446744073709551616 - x : Nat) : Int) := by rw [IntKind.wrap_u64]; omega
  have hand : bits .and .u64 (x : Int) ((18446744073709551616 - x : Nat) : Int) = (P : Int) := by rw [u64_and_nat _ _ hlt (by omega), hlow]
  have hmul : IntKind.u64.wrap ((P : Int) * 285870213051353865) = ((P * 285870213051353865 % 18446744073709551616 : Nat) : Int) := by rw [IntKind.wrap_u64]; omega
  generalize hM : P * 285870213051353865 % 18446744073709551616 = M at hmul ht hi
  have hsh : (M : Int).fdiv 288230376151711744 = ((M / 288230376151711744 : Nat) : Int) := by rw [Int.fdiv_eq_ediv_of_nonneg _ (by omega)]; omega
  have hsh2 : (M : Int) / 288230376151711744 = ((M / 288230376151711744 : Nat) : Int) := by omega
  have hcell := hG.tz _ hi
  rw [ht] at hcell
  generalize hI : M / 288230376151711744 = I at hsh hsh2 hi hcell
  generalize 18446744073709551616 - x = y at hneg hand
  have hx0 : ((x : Int) == 0) = false := by simpa using hne
  exact tz64_raw x y P M I j hj hx0 hneg hand hmul hsh2 (by omega) (by omega) w hcell
end Go.Proofs.YtnkkpjgclekobaaDoor
