import Derived.Test.YtnkkpjgclekobaaDoorBOps
import Derived.Test.YtnkkpjgclekobaaDoorIter2
namespace Go.Proofs.YtnkkpjgclekobaaDoor
open Go.RowKit

/-- The numbers of p from e on, below 256, in order. -/
def els (p : Nat → Bool) : Nat → Nat → List Nat
  | 0, _ => []
  | f + 1, e => if p e then e :: els p f (e + 1) else els p f (e + 1)
def elsF (p : Nat → Bool) (e : Nat) : List Nat := els p (256 - e) e
theorem elsF_end (p : Nat → Bool) : elsF p 256 = [] := rfl
theorem elsF_in {p : Nat → Bool} {e : Nat} (h : e < 256) (hp : p e = true) : elsF p e = e :: elsF p (e + 1) := by
  rw [elsF, show 256 - e = (256 - (e + 1)) + 1 by omega, els, if_pos hp, elsF]
theorem elsF_out {p : Nat → Bool} {e : Nat} (h : e < 256) (hp : p e = false) : elsF p e = elsF p (e + 1) := by
  rw [elsF, show 256 - e = (256 - (e + 1)) + 1 by omega, els, hp, if_neg (by decide), elsF]
theorem elsF_skip {p : Nat → Bool} : ∀ (d e : Nat), e + d ≤ 256 → (∀ i, e ≤ i → i < e + d → p i = false) → elsF p e = elsF p (e + d)
  | 0, _, _, _ => rfl
  | d + 1, e, h, hp => by
    rw [elsF_out (by omega) (hp e (Nat.le_refl _) (by omega)), elsF_skip d (e + 1) (by omega) (fun i h1 h2 => hp i (by omega) (by omega)), show e + 1 + d = e + (d + 1) by omega]

/-- The words of a set, as a block holds them. -/
def wdp (p : Nat → Bool) (k : Nat) : Nat := bw (fun j => p (64 * k + j)) 64
def cutW (p : Nat → Bool) (k c : Nat) : Nat := bw (fun j => p (64 * k + j) && decide (c ≤ j)) 64
theorem cutW_zero (p : Nat → Bool) (k : Nat) : cutW p k 0 = wdp p k := bw_ext fun i _ => by simp
/-- One step of the inner loop: the least number that is left. -/
theorem cutW_step {p : Nat → Bool} {k c x : Nat} (hx : cutW p k c = x) (h0 : x ≠ 0) (hk : k < 4) (hc : c ≤ 64) : ∃ j y, j < 64 ∧ p (64 * k + j) = true ∧ (p (64 * k + j) && decide (c ≤ j)) = true ∧ (∀ i, i < j → (p (64 * k + i) && decide (c ≤ i)) = false) ∧ elsF p (64 * k + c) = (64 * k + j) :: elsF p (64 * k + (j + 1)) ∧
    x &&& (x - 1) = y ∧ y < x ∧ cutW p k (j + 1) = y := by
  subst hx
  obtain ⟨j, hj, h1, h2⟩ := bw_least h0
  have h1' := h1
  simp only [Bool.and_eq_true, decide_eq_true_eq] at h1
  have hd := bw_drop hj h1' h2
  have he : bw (fun i => (p (64 * k + i) && decide (c ≤ i)) && i != j) 64 = cutW p k (j + 1) := bw_ext fun i hi => by
    by_cases hij : i < j
    · have := h2 i hij
      rw [this, Bool.false_and]
      have : decide (j + 1 ≤ i) = false := by simp; omega
      rw [this, Bool.and_false]
    · by_cases e : i = j
      · subst e
        simp
      · have a1 : decide (c ≤ i) = true := by simp; omega
        have a2 : decide (j + 1 ≤ i) = true := by simp; omega
        have a3 : (i != j) = true := by simpa using e
        rw [a1, a2, a3, Bool.and_true]
  refine ⟨j, _, hj, h1.1, h1', h2, ?_, rfl, ?_, ?_⟩
  · rw [elsF_skip (j - c) (64 * k + c) (by omega) (fun i a b => by
      have := h2 (i - 64 * k) (by omega)
      rw [show 64 * k + (i - 64 * k) = i by omega] at this
      have hc : decide (c ≤ i - 64 * k) = true := by simp; omega
      rw [hc, Bool.and_true] at this
      exact this), show 64 * k + c + (j - c) = 64 * k + j by omega, elsF_in (by omega) h1.1, Nat.add_assoc]
  · have := Nat.and_le_right (n := cutW p k c) (m := cutW p k c - 1)
    have : 0 < cutW p k c := Nat.pos_of_ne_zero h0
    omega
  · rw [← he, ← hd]; rfl
theorem cutW_end {p : Nat → Bool} {k c : Nat} (h0 : cutW p k c = 0) (hk : k < 4) (hc : c ≤ 64) : elsF p (64 * k + c) = elsF p (64 * (k + 1)) := by
  have hz := bw_zero.1 h0
  rw [elsF_skip (64 - c) (64 * k + c) (by omega) (fun i a b => by
    have := hz (i - 64 * k) (by omega)
    rw [show 64 * k + (i - 64 * k) = i by omega] at this
    have hc : decide (c ≤ i - 64 * k) = true := by simp; omega
    rw [hc, Bool.and_true] at this
    exact this), show 64 * k + c + (64 - c) = 64 * (k + 1) by omega]
theorem cutW_lt (p : Nat → Bool) (k c : Nat) : cutW p k c < 18446744073709551616 := bw_lt64 _

set_option maxRecDepth 100000 in
theorem idxSet (a b c d : Nat) (w : World) : (Instr.index 111 (.agg #[.int .u64 (a : Nat), .int .u64 (b : Nat), .int .u64 (c : Nat), .int .u64 (d : Nat)]) (.int .i64 0)).run Tryd.prog w = .ok (.int .u64 (a : Nat)) w ∧
    (Instr.index 111 (.agg #[.int .u64 (a : Nat), .int .u64 (b : Nat), .int .u64 (c : Nat), .int .u64 (d : Nat)]) (.int .i64 1)).run Tryd.prog w = .ok (.int .u64 (b : Nat)) w ∧
    (Instr.index 111 (.agg #[.int .u64 (a : Nat), .int .u64 (b : Nat), .int .u64 (c : Nat), .int .u64 (d : Nat)]) (.int .i64 2)).run Tryd.prog w = .ok (.int .u64 (c : Nat)) w ∧
    (Instr.index 111 (.agg #[.int .u64 (a : Nat), .int .u64 (b : Nat), .int .u64 (c : Nat), .int .u64 (d : Nat)]) (.int .i64 3)).run Tryd.prog w = .ok (.int .u64 (d : Nat)) w := by
  have u3 := Tryd.underlying109
  have a3 := Tryd.isAgg109
  have z3 := Tryd.sizeOf109
  refine ⟨?_, ?_, ?_, ?_⟩ <;>
  · rw [Instr.index]
    simp only [Sem.run_bind, run_underlying Tryd.underlying111, Result.andThen_ok, asIntOf, Sem.run_pure]
    go_simp

set_option maxRecDepth 100000 in
set_option maxHeartbeats 4000000 in
theorem all1_stops (Kp : World → World → Prop) (hKG : ∀ W W', Kp W W' → GT W → GT W') (n Bt : Nat) (p : Nat → Bool) (w : World) (hG : GT w)
    (hBt : w.heap[Bt]? = some (.cells #[.int .u64 (wdp p 0 : Nat), .int .u64 (wdp p 1 : Nat), .int .u64 (wdp p 2 : Nat), .int .u64 (wdp p 3 : Nat)] 111)) :
    SeqStopsK Fence.wide n Tryd.prog 99 #[.pointer (some ⟨Bt, 0, none⟩)] (fun e : Nat => #[.int .i64 (e : Nat)]) Kp (fun ys => ys = elsF p 0) (fun pre => pre <+: elsF p 0) (elsF p 0).length w := by
  intro l J Jx W hW hJ hJx hY h0
  have hblt : Bt < w.heap.size := (Array.getElem?_eq_some_iff.1 hBt).1
  have hB := (hW.block Bt hblt).trans hBt
  have hGW := hG.later hW
  have q0 := cutW_zero p 0
  have q1 := cutW_zero p 1
  have q2 := cutW_zero p 2
  have q3 := cutW_zero p 3
  obtain ⟨a, ha⟩ : ∃ a, wdp p 0 = a := ⟨_, rfl⟩
  obtain ⟨b, hb⟩ : ∃ a, wdp p 1 = a := ⟨_, rfl⟩
  obtain ⟨c, hc⟩ : ∃ a, wdp p 2 = a := ⟨_, rfl⟩
  obtain ⟨d, hd⟩ : ∃ a, wdp p 3 = a := ⟨_, rfl⟩
  rw [ha, hb, hc, hd] at hB
  rw [ha] at q0
  rw [hb] at q1
  rw [hc] at q2
  rw [hd] at q3
  have c0 := cell_of_blk hB 0
  have c1 := cell_of_blk hB 1
  have c2 := cell_of_blk hB 2
  have c3 := cell_of_blk hB 3
  simp only [List.getElem?_toArray, List.getElem?_cons_zero, List.getElem?_cons_succ] at c0 c1 c2 c3
  have hdd : ∀ k : Nat, (Fence.wide.depth.isSome = true → 1 ≤ k) := fun k h => by cases h
  have Q0 := Lib.hid q0
  have Q1 := Lib.hid q1
  have Q2 := Lib.hid q2
  have Q3 := Lib.hid q3
  have HY := Lib.hid hY
  clear q0 q1 q2 q3 ha hb hc hd hB hBt hY
  have i0 := fun w => (idxSet a b c d w).1
  have i1 := fun w => (idxSet a b c d w).2.1
  have i2 := fun w => (idxSet a b c d w).2.2.1
  have i3 := fun w => (idxSet a b c d w).2.2.2
  refine callsIn_of_wp Tryd.func99 rfl trivial ?_ rfl
  simp only [Tryd.ntmps99, List.size_toArray, List.length_cons, List.length_nil, Nat.reduceAdd, Nat.reduceSub, Array.replicate_succ, Array.replicate_zero, List.push_toArray, List.append_toArray, List.nil_append, List.cons_append]
  gi_wp2_with fail
  gi_loopw [6] (fun i wr => ∃ (k : Nat) (pre : List Nat), ((k = 0 ∧ i = .int .i64 0) ∨ (k = 1 ∧ i = .int .i64 1) ∨ (k = 2 ∧ i = .int .i64 2) ∨ (k = 3 ∧ i = .int .i64 3) ∨ (k = 4 ∧ i = .int .i64 4)) ∧ pre ++ elsF p (64 * k) = elsF p 0 ∧ J pre wr ∧ GT wr) (fun i _ => 4 - (intOf i).toNat)
  case atStart => exact ⟨0, [], .inl ⟨rfl, rfl⟩, rfl, h0, hGW⟩
  case round =>
    obtain ⟨k, pre, hk, hpre, hJ1, hG1⟩ := hrel
    have HP := Lib.hid hpre
    have HJ1 := Lib.hid hJ1
    have HG1 := Lib.hid hG1
    clear hpre hJ1 hG1
    rcases hk with ⟨rfl, rfl⟩ | ⟨rfl, rfl⟩ | ⟨rfl, rfl⟩ | ⟨rfl, rfl⟩ | ⟨rfl, rfl⟩
    · gi_wp2_with fail
      gi_loopw [4] (fun x wr => ∃ (ct : Nat) (xv : Nat) (pre : List Nat), ct ≤ 64 ∧ x = .int .u64 (xv : Nat) ∧ cutW p 0 ct = xv ∧ pre ++ elsF p (64 * 0 + ct) = elsF p 0 ∧ J pre wr ∧ GT wr) (fun x _ => (intOf x).toNat)
      case atStart => exact ⟨0, a, pre, by omega, rfl, Q0.out, HP.out, HJ1.out, HG1.out⟩
      case round =>
        obtain ⟨ct, xv, pre2, hct, rfl, hcut, hpre2, hJ2, hG2⟩ := hrel
        have HP2 := Lib.hid hpre2
        have HJ2 := Lib.hid hJ2
        have HG2 := Lib.hid hG2
        have hxlt : xv < 18446744073709551616 := by rw [← hcut]; exact cutW_lt _ _ _
        have HC := Lib.hid hcut
        clear hpre2 hJ2 hG2 hcut
        rcases hx0 : ((xv : Int) != 0)
        · have hz : xv = 0 := by simpa using hx0
          have hend := cutW_end (HC.out.trans hz) (by omega) hct
          have HE := Lib.hid hend
          clear hend
          gi_wp2_with fail
          go_roundw
          case rel => exact ⟨1, pre2, .inr (.inl ⟨rfl, rfl⟩), by rw [← HE.out]; exact HP2.out, HJ2.out, HG2.out⟩
          case measure => simp [intOf]
        · have hnz : xv ≠ 0 := by simpa using hx0
          obtain ⟨j, y, hj, hpj, hpj', hl, hel, hand, hylt, hcy⟩ := cutW_step HC.out hnz (by omega) hct
          have htz := inW (tz64_any (fun j => p (64 * 0 + j) && decide (ct ≤ j)) j hj hpj' hl wr HG2.out) (n - 1)
          rw [show bw (fun j => p (64 * 0 + j) && decide (ct ≤ j)) 64 = xv from HC.out] at htz
          have hlen : pre2.length < (elsF p 0).length := by
            have := congrArg List.length HP2.out
            rw [List.length_append, hel, List.length_cons] at this
            omega
          have hy := HY.out pre2 (64 * 0 + j) wr HJ2.out hlen
          obtain ⟨fn, tmps, assign, body, hy, hR⟩ := YieldAt.anyDepth rfl (n - 1) hy
          rw [show ((64 * 0 + j : Nat) : Int) = (j : Int) by omega] at hy
          have hsub : IntKind.u64.wrap ((xv : Int) - 1) = ((xv - 1 : Nat) : Int) := by rw [IntKind.wrap_u64]; omega
          have hand2 : bits .and .u64 (xv : Int) ((xv - 1 : Nat) : Int) = (y : Int) := by rw [u64_and_nat _ _ hxlt (by omega), hand]
          obtain ⟨x1, hx1⟩ : ∃ x1, xv - 1 = x1 := ⟨_, rfl⟩
          rw [hx1] at hsub hand2
          have HEL := Lib.hid hel
          have HCY := Lib.hid hcy
          have hj0 : (0 : Int) ≤ j := by omega
          have hj64 : (j : Int) < 64 := by omega
          clear hpj hpj' hl hel hand hcy hx1 hlen
          gi_wp2_with (first
            | (refine ⟨trivial, hdd _, ?_⟩; refine htz.mono ?_; clear htz; rintro e w' ⟨rfl, rfl⟩)
            | (refine ⟨hdd _, ?_⟩; refine hR.mono ?_; clear hR; rintro e W2 (⟨rfl, hJ3, hk3⟩ | ⟨rfl, hx3⟩)))
          · go_roundw
            case rel => exact ⟨j + 1, y, pre2 ++ [64 * 0 + j], by omega, by go_num, HCY.out, by rw [List.append_assoc, List.singleton_append, ← HEL.out]; exact HP2.out, hJ3, hKG _ _ hk3 HG2.out⟩
            case measure => simp [intOf]; omega
          · (try simp only [Exit.inBlock, Exit.then])
            refine bodyPost_ret (results_none rfl _ _ _) rfl ?_
            exact ⟨⟨_, rfl⟩, .inr ⟨pre2 ++ [64 * 0 + j], ⟨elsF p (64 * 0 + (j + 1)), by rw [List.append_assoc, List.singleton_append, ← HEL.out]; exact HP2.out⟩, hx3⟩⟩
    · gi_wp2_with fail
      gi_loopw [4] (fun x wr => ∃ (ct : Nat) (xv : Nat) (pre : List Nat), ct ≤ 64 ∧ x = .int .u64 (xv : Nat) ∧ cutW p 1 ct = xv ∧ pre ++ elsF p (64 * 1 + ct) = elsF p 0 ∧ J pre wr ∧ GT wr) (fun x _ => (intOf x).toNat)
      case atStart => exact ⟨0, b, pre, by omega, rfl, Q1.out, HP.out, HJ1.out, HG1.out⟩
      case round =>
        obtain ⟨ct, xv, pre2, hct, rfl, hcut, hpre2, hJ2, hG2⟩ := hrel
        have HP2 := Lib.hid hpre2
        have HJ2 := Lib.hid hJ2
        have HG2 := Lib.hid hG2
        have hxlt : xv < 18446744073709551616 := by rw [← hcut]; exact cutW_lt _ _ _
        have HC := Lib.hid hcut
        clear hpre2 hJ2 hG2 hcut
        rcases hx0 : ((xv : Int) != 0)
        · have hz : xv = 0 := by simpa using hx0
          have hend := cutW_end (HC.out.trans hz) (by omega) hct
          have HE := Lib.hid hend
          clear hend
          gi_wp2_with fail
          go_roundw
          case rel => exact ⟨2, pre2, .inr (.inr (.inl ⟨rfl, rfl⟩)), by rw [← HE.out]; exact HP2.out, HJ2.out, HG2.out⟩
          case measure => simp [intOf]
        · have hnz : xv ≠ 0 := by simpa using hx0
          obtain ⟨j, y, hj, hpj, hpj', hl, hel, hand, hylt, hcy⟩ := cutW_step HC.out hnz (by omega) hct
          have htz := inW (tz64_any (fun j => p (64 * 1 + j) && decide (ct ≤ j)) j hj hpj' hl wr HG2.out) (n - 1)
          rw [show bw (fun j => p (64 * 1 + j) && decide (ct ≤ j)) 64 = xv from HC.out] at htz
          have hlen : pre2.length < (elsF p 0).length := by
            have := congrArg List.length HP2.out
            rw [List.length_append, hel, List.length_cons] at this
            omega
          have hy := HY.out pre2 (64 * 1 + j) wr HJ2.out hlen
          obtain ⟨fn, tmps, assign, body, hy, hR⟩ := YieldAt.anyDepth rfl (n - 1) hy
          rw [show ((64 * 1 + j : Nat) : Int) = 64 + (j : Int) by omega] at hy
          have hsub : IntKind.u64.wrap ((xv : Int) - 1) = ((xv - 1 : Nat) : Int) := by rw [IntKind.wrap_u64]; omega
          have hand2 : bits .and .u64 (xv : Int) ((xv - 1 : Nat) : Int) = (y : Int) := by rw [u64_and_nat _ _ hxlt (by omega), hand]
          obtain ⟨x1, hx1⟩ : ∃ x1, xv - 1 = x1 := ⟨_, rfl⟩
          rw [hx1] at hsub hand2
          have HEL := Lib.hid hel
          have HCY := Lib.hid hcy
          have hj0 : (0 : Int) ≤ j := by omega
          have hj64 : (j : Int) < 64 := by omega
          clear hpj hpj' hl hel hand hcy hx1 hlen
          gi_wp2_with (first
            | (refine ⟨trivial, hdd _, ?_⟩; refine htz.mono ?_; clear htz; rintro e w' ⟨rfl, rfl⟩)
            | (refine ⟨hdd _, ?_⟩; refine hR.mono ?_; clear hR; rintro e W2 (⟨rfl, hJ3, hk3⟩ | ⟨rfl, hx3⟩)))
          · go_roundw
            case rel => exact ⟨j + 1, y, pre2 ++ [64 * 1 + j], by omega, by go_num, HCY.out, by rw [List.append_assoc, List.singleton_append, ← HEL.out]; exact HP2.out, hJ3, hKG _ _ hk3 HG2.out⟩
            case measure => simp [intOf]; omega
          · (try simp only [Exit.inBlock, Exit.then])
            refine bodyPost_ret (results_none rfl _ _ _) rfl ?_
            exact ⟨⟨_, rfl⟩, .inr ⟨pre2 ++ [64 * 1 + j], ⟨elsF p (64 * 1 + (j + 1)), by rw [List.append_assoc, List.singleton_append, ← HEL.out]; exact HP2.out⟩, hx3⟩⟩
    · gi_wp2_with fail
      gi_loopw [4] (fun x wr => ∃ (ct : Nat) (xv : Nat) (pre : List Nat), ct ≤ 64 ∧ x = .int .u64 (xv : Nat) ∧ cutW p 2 ct = xv ∧ pre ++ elsF p (64 * 2 + ct) = elsF p 0 ∧ J pre wr ∧ GT wr) (fun x _ => (intOf x).toNat)
      case atStart => exact ⟨0, c, pre, by omega, rfl, Q2.out, HP.out, HJ1.out, HG1.out⟩
      case round =>
        obtain ⟨ct, xv, pre2, hct, rfl, hcut, hpre2, hJ2, hG2⟩ := hrel
        have HP2 := Lib.hid hpre2
        have HJ2 := Lib.hid hJ2
        have HG2 := Lib.hid hG2
        have hxlt : xv < 18446744073709551616 := by rw [← hcut]; exact cutW_lt _ _ _
        have HC := Lib.hid hcut
        clear hpre2 hJ2 hG2 hcut
        rcases hx0 : ((xv : Int) != 0)
        · have hz : xv = 0 := by simpa using hx0
          have hend := cutW_end (HC.out.trans hz) (by omega) hct
          have HE := Lib.hid hend
          clear hend
          gi_wp2_with fail
          go_roundw
          case rel => exact ⟨3, pre2, .inr (.inr (.inr (.inl ⟨rfl, rfl⟩))), by rw [← HE.out]; exact HP2.out, HJ2.out, HG2.out⟩
          case measure => simp [intOf]
        · have hnz : xv ≠ 0 := by simpa using hx0
          obtain ⟨j, y, hj, hpj, hpj', hl, hel, hand, hylt, hcy⟩ := cutW_step HC.out hnz (by omega) hct
          have htz := inW (tz64_any (fun j => p (64 * 2 + j) && decide (ct ≤ j)) j hj hpj' hl wr HG2.out) (n - 1)
          rw [show bw (fun j => p (64 * 2 + j) && decide (ct ≤ j)) 64 = xv from HC.out] at htz
          have hlen : pre2.length < (elsF p 0).length := by
            have := congrArg List.length HP2.out
            rw [List.length_append, hel, List.length_cons] at this
            omega
          have hy := HY.out pre2 (64 * 2 + j) wr HJ2.out hlen
          obtain ⟨fn, tmps, assign, body, hy, hR⟩ := YieldAt.anyDepth rfl (n - 1) hy
          rw [show ((64 * 2 + j : Nat) : Int) = 128 + (j : Int) by omega] at hy
          have hsub : IntKind.u64.wrap ((xv : Int) - 1) = ((xv - 1 : Nat) : Int) := by rw [IntKind.wrap_u64]; omega
          have hand2 : bits .and .u64 (xv : Int) ((xv - 1 : Nat) : Int) = (y : Int) := by rw [u64_and_nat _ _ hxlt (by omega), hand]
          obtain ⟨x1, hx1⟩ : ∃ x1, xv - 1 = x1 := ⟨_, rfl⟩
          rw [hx1] at hsub hand2
          have HEL := Lib.hid hel
          have HCY := Lib.hid hcy
          have hj0 : (0 : Int) ≤ j := by omega
          have hj64 : (j : Int) < 64 := by omega
          clear hpj hpj' hl hel hand hcy hx1 hlen
          gi_wp2_with (first
            | (refine ⟨trivial, hdd _, ?_⟩; refine htz.mono ?_; clear htz; rintro e w' ⟨rfl, rfl⟩)
            | (refine ⟨hdd _, ?_⟩; refine hR.mono ?_; clear hR; rintro e W2 (⟨rfl, hJ3, hk3⟩ | ⟨rfl, hx3⟩)))
          · go_roundw
            case rel => exact ⟨j + 1, y, pre2 ++ [64 * 2 + j], by omega, by go_num, HCY.out, by rw [List.append_assoc, List.singleton_append, ← HEL.out]; exact HP2.out, hJ3, hKG _ _ hk3 HG2.out⟩
            case measure => simp [intOf]; omega
          · (try simp only [Exit.inBlock, Exit.then])
            refine bodyPost_ret (results_none rfl _ _ _) rfl ?_
            exact ⟨⟨_, rfl⟩, .inr ⟨pre2 ++ [64 * 2 + j], ⟨elsF p (64 * 2 + (j + 1)), by rw [List.append_assoc, List.singleton_append, ← HEL.out]; exact HP2.out⟩, hx3⟩⟩
    · gi_wp2_with fail
      gi_loopw [4] (fun x wr => ∃ (ct : Nat) (xv : Nat) (pre : List Nat), ct ≤ 64 ∧ x = .int .u64 (xv : Nat) ∧ cutW p 3 ct = xv ∧ pre ++ elsF p (64 * 3 + ct) = elsF p 0 ∧ J pre wr ∧ GT wr) (fun x _ => (intOf x).toNat)
      case atStart => exact ⟨0, d, pre, by omega, rfl, Q3.out, HP.out, HJ1.out, HG1.out⟩
      case round =>
        obtain ⟨ct, xv, pre2, hct, rfl, hcut, hpre2, hJ2, hG2⟩ := hrel
        have HP2 := Lib.hid hpre2
        have HJ2 := Lib.hid hJ2
        have HG2 := Lib.hid hG2
        have hxlt : xv < 18446744073709551616 := by rw [← hcut]; exact cutW_lt _ _ _
        have HC := Lib.hid hcut
        clear hpre2 hJ2 hG2 hcut
        rcases hx0 : ((xv : Int) != 0)
        · have hz : xv = 0 := by simpa using hx0
          have hend := cutW_end (HC.out.trans hz) (by omega) hct
          have HE := Lib.hid hend
          clear hend
          gi_wp2_with fail
          go_roundw
          case rel => exact ⟨4, pre2, .inr (.inr (.inr (.inr (⟨rfl, rfl⟩)))), by rw [← HE.out]; exact HP2.out, HJ2.out, HG2.out⟩
          case measure => simp [intOf]
        · have hnz : xv ≠ 0 := by simpa using hx0
          obtain ⟨j, y, hj, hpj, hpj', hl, hel, hand, hylt, hcy⟩ := cutW_step HC.out hnz (by omega) hct
          have htz := inW (tz64_any (fun j => p (64 * 3 + j) && decide (ct ≤ j)) j hj hpj' hl wr HG2.out) (n - 1)
          rw [show bw (fun j => p (64 * 3 + j) && decide (ct ≤ j)) 64 = xv from HC.out] at htz
          have hlen : pre2.length < (elsF p 0).length := by
            have := congrArg List.length HP2.out
            rw [List.length_append, hel, List.length_cons] at this
            omega
          have hy := HY.out pre2 (64 * 3 + j) wr HJ2.out hlen
          obtain ⟨fn, tmps, assign, body, hy, hR⟩ := YieldAt.anyDepth rfl (n - 1) hy
          rw [show ((64 * 3 + j : Nat) : Int) = 192 + (j : Int) by omega] at hy
          have hsub : IntKind.u64.wrap ((xv : Int) - 1) = ((xv - 1 : Nat) : Int) := by rw [IntKind.wrap_u64]; omega
          have hand2 : bits .and .u64 (xv : Int) ((xv - 1 : Nat) : Int) = (y : Int) := by rw [u64_and_nat _ _ hxlt (by omega), hand]
          obtain ⟨x1, hx1⟩ : ∃ x1, xv - 1 = x1 := ⟨_, rfl⟩
          rw [hx1] at hsub hand2
          have HEL := Lib.hid hel
          have HCY := Lib.hid hcy
          have hj0 : (0 : Int) ≤ j := by omega
          have hj64 : (j : Int) < 64 := by omega
          clear hpj hpj' hl hel hand hcy hx1 hlen
          gi_wp2_with (first
            | (refine ⟨trivial, hdd _, ?_⟩; refine htz.mono ?_; clear htz; rintro e w' ⟨rfl, rfl⟩)
            | (refine ⟨hdd _, ?_⟩; refine hR.mono ?_; clear hR; rintro e W2 (⟨rfl, hJ3, hk3⟩ | ⟨rfl, hx3⟩)))
          · go_roundw
            case rel => exact ⟨j + 1, y, pre2 ++ [64 * 3 + j], by omega, by go_num, HCY.out, by rw [List.append_assoc, List.singleton_append, ← HEL.out]; exact HP2.out, hJ3, hKG _ _ hk3 HG2.out⟩
            case measure => simp [intOf]; omega
          · (try simp only [Exit.inBlock, Exit.then])
            refine bodyPost_ret (results_none rfl _ _ _) rfl ?_
            exact ⟨⟨_, rfl⟩, .inr ⟨pre2 ++ [64 * 3 + j], ⟨elsF p (64 * 3 + (j + 1)), by rw [List.append_assoc, List.singleton_append, ← HEL.out]; exact HP2.out⟩, hx3⟩⟩
    · gi_wp2_with fail
      go_end0
      refine ⟨⟨_, rfl⟩, .inl ⟨pre, ?_, HJ1.out⟩⟩
      have := HP.out
      rw [show 64 * 4 = 256 from rfl, elsF_end, List.append_nil] at this
      exact this
end Go.Proofs.YtnkkpjgclekobaaDoor
