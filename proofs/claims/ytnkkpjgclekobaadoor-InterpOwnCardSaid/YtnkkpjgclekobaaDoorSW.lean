import Derived.Test.YtnkkpjgclekobaaDoorBAll
namespace Go.Proofs.YtnkkpjgclekobaaDoor
open Go.RowKit

theorem blk_lat {b : Nat} {w w' : World} {o : Obj} (h : w.heap[b]? = some o) (hb : Below w.heap.size w w') : w'.heap[b]? = some o := (hb.block b (Array.getElem?_eq_some_iff.1 h).1).trans h
/-- THE SET p AS IT LIES: four words. -/
structure SW (p : Nat → Bool) (a b c d : Nat) : Prop where
  a : wdp p 0 = a
  b : wdp p 1 = b
  c : wdp p 2 = c
  d : wdp p 3 = d
theorem sv_wd (p : Nat → Bool) : sv p = wv (wdp p 0) (wdp p 1) (wdp p 2) (wdp p 3) := by
  have h : wdp p 0 = bw p 64 := bw_ext fun i _ => by rw [Nat.mul_zero, Nat.zero_add]
  rw [h]; rfl
theorem SW.sv {p : Nat → Bool} {a b c d : Nat} (h : SW p a b c d) : sv p = wv a b c d := by
  rw [sv_wd, h.a, h.b, h.c, h.d]
theorem sw_of (p : Nat → Bool) : ∃ a b c d, SW p a b c d := ⟨_, _, _, _, rfl, rfl, rfl, rfl⟩
theorem SW.ext {p q : Nat → Bool} {a b c d : Nat} (h : SW p a b c d) (he : ∀ i, i < 256 → p i = q i) : SW q a b c d :=
  ⟨(bw_ext fun i hi => (he _ (by omega)).symm).trans h.a, (bw_ext fun i hi => (he _ (by omega)).symm).trans h.b, (bw_ext fun i hi => (he _ (by omega)).symm).trans h.c, (bw_ext fun i hi => (he _ (by omega)).symm).trans h.d⟩
theorem sw_none : SW (fun _ => false) 0 0 0 0 := ⟨bw_none _, bw_none _, bw_none _, bw_none _⟩
/-- A set that a call hands back. -/
def RetS3 (p : Nat → Bool) (w : World) (x : Ending) (w' : World) : Prop := ∃ a b c d, x = .returned (.agg #[.int .u64 (a : Nat), .int .u64 (b : Nat), .int .u64 (c : Nat), .int .u64 (d : Nat)]) ∧ SW p a b c d ∧ Below w.heap.size w w'
theorem RetS3.of {p : Nat → Bool} {w w' : World} {x : Ending} (h : x = .returned (sv p) ∧ Below w.heap.size w w') : RetS3 p w x w' := by
  obtain ⟨a, b, c, d, hs⟩ := sw_of p
  exact ⟨a, b, c, d, by rw [h.1, hs.sv]; rfl, hs, h.2⟩
theorem bWith_sw {p : Nat → Bool} {a b c d : Nat} (h : SW p a b c d) (e : Nat) (he : e < 256) (w : World) : Calls Tryd.prog 90 #[.agg #[.int .u64 (a : Nat), .int .u64 (b : Nat), .int .u64 (c : Nat), .int .u64 (d : Nat)], .int .i64 (e : Nat)] w (RetS3 (fun i => p i || i == e) w) := by
  have := bWith_any p e he w
  rw [h.sv] at this
  exact this.mono fun _ _ h => RetS3.of h
theorem bAnd_sw {p q : Nat → Bool} {a b c d e f g k : Nat} (h : SW p a b c d) (h' : SW q e f g k) (w : World) : Calls Tryd.prog 140 #[.agg #[.int .u64 (a : Nat), .int .u64 (b : Nat), .int .u64 (c : Nat), .int .u64 (d : Nat)], .agg #[.int .u64 (e : Nat), .int .u64 (f : Nat), .int .u64 (g : Nat), .int .u64 (k : Nat)]] w (RetS3 (fun i => p i && q i) w) := by
  have := bAnd_any p q w
  rw [h.sv, h'.sv] at this
  exact this.mono fun _ _ h => RetS3.of h
theorem bOr_sw {p q : Nat → Bool} {a b c d e f g k : Nat} (h : SW p a b c d) (h' : SW q e f g k) (w : World) : Calls Tryd.prog 141 #[.agg #[.int .u64 (a : Nat), .int .u64 (b : Nat), .int .u64 (c : Nat), .int .u64 (d : Nat)], .agg #[.int .u64 (e : Nat), .int .u64 (f : Nat), .int .u64 (g : Nat), .int .u64 (k : Nat)]] w (RetS3 (fun i => p i || q i) w) := by
  have := bOr_any p q w
  rw [h.sv, h'.sv] at this
  exact this.mono fun _ _ h => RetS3.of h
theorem bMinus_sw {p q : Nat → Bool} {a b c d e f g k : Nat} (h : SW p a b c d) (h' : SW q e f g k) (w : World) : Calls Tryd.prog 139 #[.agg #[.int .u64 (a : Nat), .int .u64 (b : Nat), .int .u64 (c : Nat), .int .u64 (d : Nat)], .agg #[.int .u64 (e : Nat), .int .u64 (f : Nat), .int .u64 (g : Nat), .int .u64 (k : Nat)]] w (RetS3 (fun i => p i && !q i) w) := by
  have := bMinus_any p q w
  rw [h.sv, h'.sv] at this
  exact this.mono fun _ _ h => RetS3.of h
theorem bWithin_sw {p q : Nat → Bool} {a b c d e f g k : Nat} (h : SW p a b c d) (h' : SW q e f g k) (w : World) : Calls Tryd.prog 104 #[.agg #[.int .u64 (a : Nat), .int .u64 (b : Nat), .int .u64 (c : Nat), .int .u64 (d : Nat)], .agg #[.int .u64 (e : Nat), .int .u64 (f : Nat), .int .u64 (g : Nat), .int .u64 (k : Nat)]] w fun x w' => x = .returned (.bool (subB p q)) ∧ Below w.heap.size w w' := by
  have := bWithin_any p q w
  rw [h.sv, h'.sv] at this
  exact this
theorem bMeets_sw {p q : Nat → Bool} {a b c d e f g k : Nat} (h : SW p a b c d) (h' : SW q e f g k) (w : World) : Calls Tryd.prog 143 #[.agg #[.int .u64 (a : Nat), .int .u64 (b : Nat), .int .u64 (c : Nat), .int .u64 (d : Nat)], .agg #[.int .u64 (e : Nat), .int .u64 (f : Nat), .int .u64 (g : Nat), .int .u64 (k : Nat)]] w fun x w' => x = .returned (.bool (meetB p q)) ∧ Below w.heap.size w w' := by
  have := bMeets_any p q w
  rw [h.sv, h'.sv] at this
  exact this
theorem bHas_sw {p : Nat → Bool} {a b c d : Nat} (h : SW p a b c d) (e : Nat) (he : e < 256) (w : World) : Calls Tryd.prog 103 #[.agg #[.int .u64 (a : Nat), .int .u64 (b : Nat), .int .u64 (c : Nat), .int .u64 (d : Nat)], .int .i64 (e : Nat)] w fun x w' => x = .returned (.bool (p e)) ∧ Below w.heap.size w w' := by
  have := bHas_any p e he w
  rw [h.sv] at this
  exact this
set_option maxHeartbeats 1000000 in
/-- The iterator of a set: the closure and its box. -/
theorem bAll_any (a b c d : Nat) (w : World) :
    Calls Tryd.prog 60 #[.agg #[.int .u64 (a : Nat), .int .u64 (b : Nat), .int .u64 (c : Nat), .int .u64 (d : Nat)]] w fun e w' => e = .returned (.func (.func 99) #[] #[.pointer (some ⟨w.heap.size, 0, none⟩)]) ∧ w' = w.alloc (.cells #[.int .u64 (a : Nat), .int .u64 (b : Nat), .int .u64 (c : Nat), .int .u64 (d : Nat)] 111) := by
  go_enter Tryd.func60, Tryd.ntmps60
  go_wp2
  go_ret
  exact ⟨rfl, rfl⟩
theorem all1_sw (Kp : World → World → Prop) (hKG : ∀ W W', Kp W W' → GT W → GT W') (n Bt : Nat) {p : Nat → Bool} {a b c d : Nat} (hs : SW p a b c d) (w : World) (hG : GT w)
    (hBt : w.heap[Bt]? = some (.cells #[.int .u64 (a : Nat), .int .u64 (b : Nat), .int .u64 (c : Nat), .int .u64 (d : Nat)] 111)) :
    SeqStopsK Fence.wide n Tryd.prog 99 #[.pointer (some ⟨Bt, 0, none⟩)] (fun e : Nat => #[.int .i64 (e : Nat)]) Kp (fun ys => ys = elsF p 0) (fun pre => pre <+: elsF p 0) (elsF p 0).length w :=
  all1_stops Kp hKG n Bt p w hG (by rw [hs.a, hs.b, hs.c, hs.d]; exact hBt)

set_option maxRecDepth 100000 in
set_option maxHeartbeats 2000000 in
theorem bBelow_any (n : Nat) (hn : n ≤ 256) (w : World) : Calls Tryd.prog 89 #[.int .i64 (n : Nat)] w (RetS3 (fun i => decide (i < n)) w) := by
  obtain ⟨W1, hW1, hB1, hs1, hk1⟩ := newBlk w _ rfl #[.int .u64 0, .int .u64 0, .int .u64 0, .int .u64 0] 111
  obtain ⟨W2, hW2, hB2, hs2, hk2⟩ := newBlk W1 _ hs1 #[.int .u64 0, .int .u64 0, .int .u64 0, .int .u64 0] 111
  have hB : Below w.heap.size w W2 := hB1.trans (hB2.mono (by omega))
  have hk12 := (hB2.block w.heap.size (by omega)).trans hk1
  have HB := Lib.hid hB
  have h00 : SW (fun i => decide (i < 0)) 0 0 0 0 := sw_none.ext fun i _ => by simp
  clear hB hB1 hB2 hk1
  go_enter Tryd.func89, Tryd.ntmps89
  go_wp2_with fail
  go_loopw [6] (fun i wr => ∃ (k : Nat) (a b c d : Nat), k ≤ n ∧ i = .int .i64 k ∧ SW (fun i => decide (i < k)) a b c d ∧ wr.heap[w.heap.size + 1]? = some (.cells #[.int .u64 (a : Nat), .int .u64 (b : Nat), .int .u64 (c : Nat), .int .u64 (d : Nat)] 111) ∧ wr.heap[w.heap.size]? = some (.cells #[.int .u64 0, .int .u64 0, .int .u64 0, .int .u64 0] 111) ∧ Below w.heap.size w wr) (fun i _ => n - (intOf i).toNat)
  case atStart => exact ⟨0, 0, 0, 0, 0, Nat.zero_le _, rfl, h00, hk2, hk12, HB.out⟩
  case round =>
    obtain ⟨k, a, b, c, d, hk, rfl, hsw, hkS, hkR, hbw⟩ := hrel
    have s0 := cell_of_blk hkS 0
    have s1 := cell_of_blk hkS 1
    have s2 := cell_of_blk hkS 2
    have s3 := cell_of_blk hkS 3
    simp only [List.getElem?_toArray, List.getElem?_cons_zero, List.getElem?_cons_succ] at s0 s1 s2 s3
    by_cases hlt : k < n
    · have hlI : (k : Int) < n := by omega
      have hwi := bWith_sw hsw k (by omega) wr
      have HSW := Lib.hid hsw
      clear hsw
      go_wp2_with (go_at_call 90; refine hwi.mono ?_; clear hwi; rintro x w3 ⟨a', b', c', d', rfl, hsw', hb3⟩; have hk3 := blk_lat hkS hb3; have hkR3 := blk_lat hkR hb3; have t0 := cell_of_blk hk3 0; have t1 := cell_of_blk hk3 1; have t2 := cell_of_blk hk3 2; have t3 := cell_of_blk hk3 3; have f0 := frozen_of_blk hk3 0; have f1 := frozen_of_blk hk3 1; have f2 := frozen_of_blk hk3 2; have f3 := frozen_of_blk hk3 3; simp only [List.getElem?_toArray, List.getElem?_cons_zero, List.getElem?_cons_succ] at t0 t1 t2 t3)
      have HS' := Lib.hid hsw'
      obtain ⟨q1, q2⟩ := store4 hk3 (.int .u64 (a' : Nat)) (.int .u64 (b' : Nat)) (.int .u64 (c' : Nat)) (.int .u64 (d' : Nat))
      go_roundw
      case rel => exact ⟨k + 1, a', b', c', d', by omega, by go_num, HS'.out.ext (fun i _ => by rw [Bool.eq_iff_iff]; simp; omega), q1, blk_off hkR3 q2 (by omega), (hbw.trans (hb3.mono hbw.size)).trans (below_grown q2 (by omega) (by have := hbw.size; have := hb3.size; omega))⟩
      case measure => simp [intOf]; omega
    · have hkn : k = n := by omega
      subst hkn
      have r0 := cell_of_blk hkR 0
      have r1 := cell_of_blk hkR 1
      have r2 := cell_of_blk hkR 2
      have r3 := cell_of_blk hkR 3
      have f0 := frozen_of_blk hkR 0
      have f1 := frozen_of_blk hkR 1
      have f2 := frozen_of_blk hkR 2
      have f3 := frozen_of_blk hkR 3
      simp only [List.getElem?_toArray, List.getElem?_cons_zero, List.getElem?_cons_succ] at r0 r1 r2 r3
      obtain ⟨q1, q2⟩ := store4 hkR (.int .u64 (a : Nat)) (.int .u64 (b : Nat)) (.int .u64 (c : Nat)) (.int .u64 (d : Nat))
      have hb4 := hbw.trans (below_grown q2 (Nat.le_refl _) hbw.size)
      go_wp2
      generalize ((((wr.setCell ⟨w.heap.size, 0, none⟩ (.int .u64 (a : Nat))).setCell ⟨w.heap.size, 1, none⟩ (.int .u64 (b : Nat))).setCell ⟨w.heap.size, 2, none⟩ (.int .u64 (c : Nat))).setCell ⟨w.heap.size, 3, none⟩ (.int .u64 (d : Nat))) = w5 at q1 hb4 ⊢
      have t0 := cell_of_blk q1 0
      have t1 := cell_of_blk q1 1
      have t2 := cell_of_blk q1 2
      have t3 := cell_of_blk q1 3
      simp only [List.getElem?_toArray, List.getElem?_cons_zero, List.getElem?_cons_succ] at t0 t1 t2 t3
      refine bodyPost_ret (v := _) (by simp [results, Tryd.f89, go_sem, t0, t1, t2, t3]) rfl ⟨a, b, c, d, rfl, hsw, hb4⟩
end Go.Proofs.YtnkkpjgclekobaaDoor
