import Derived.Test.YtndkcimajeofcaaGreatDoorG1760211f68
import Derived.Test.YtndkcimajeofcaaGreatDoorG7773ef2041
import Derived.Test.YtndkcimajeofcaaGreatDoorG1167b22d78
import Derived.Test.YtndkcimajeofcaaGreatDoorG7d24e8a370
import Derived.Test.YtndkcimajeofcaaGreatDoorG50c1245660
namespace Go.Proofs.YtndkcimajeofcaaGreatDoor
open Go.RowKit
attribute [local go_sem ↓] Go.wp_at_zero Go.wp_at_succ

theorem mcheck_cons (b : BN) (T : MT) (l : List MT) : mcheckC b (T :: l) = orF (mcheckC b l) (checkF b.N T) := by
  unfold mcheckC
  cases hk : kcheckB b with
  | false => rfl
  | true =>
    obtain ⟨hok, -⟩ := kchk_ok hk
    rw [if_pos rfl, if_pos rfl, List.all_cons, checkF_two hok T]
    have : okC b T = (checkF b.N T == 0) := rfl
    rw [this]
    cases checkF b.N T == 0 <;> cases l.all (okC b) <;> rfl
theorem shl_small : ∀ n : Nat, n ≤ 8 → wrap64 ((2 : Int) ^ n) = ((2 ^ n : Nat) : Int)
  | 0, _ => by decide +kernel
  | 1, _ => by decide +kernel
  | 2, _ => by decide +kernel
  | 3, _ => by decide +kernel
  | 4, _ => by decide +kernel
  | 5, _ => by decide +kernel
  | 6, _ => by decide +kernel
  | 7, _ => by decide +kernel
  | 8, _ => by decide +kernel
  | n + 9, h => by omega
/-- What True asks of the marks, as the reference has it. -/
theorem ht_ref {b : BN} {l : List MT} {k : Int} {T : MT} (h : mcheckC b (T :: l) = 0) :
    htE b l k T = (if (marksF b l).length ≤ 8 then (if decide (0 ≤ k) && (decide (k < ((2 ^ (marksF b l).length : Nat) : Int)) && coverR (marksF b l) (nnf T.tr false)) then 0 else 1) else 3) ∧
    (htE b l k T = 0 → htV b l k T = trueR (marksF b l) k.toNat (nnf T.tr false)) ∧ (htE b l k T ≠ 0 → htV b l k T = false) ∧ mcheckC b l = 0 ∧ T.tr.wfT b.N.C.l.length b.N.R.l.length = true := by
  have h1 : mcheckC b l = 0 := by
    rw [mcheck_cons] at h
    unfold orF at h
    split at h
    · assumption
    · exact h
  have h2 : checkF b.N T = 0 := by
    rw [mcheck_cons, h1] at h
    exact h
  obtain ⟨w1, w2, w3⟩ := check_wf (show (checkT b.N T.tr == 0) = true by rw [← checkF_eq, h2]; rfl)
  have hL : ∀ t ∈ marksF b l, t.wfT b.N.C.l.length b.N.R.l.length = true := fun t ht => (marksF_ok h1 t ht).1
  have hwn := nnf_wf _ _ _ w3 false
  have hfx := nnf_fixed _ _ _ w3 false
  have hc : coverR (marksF b l) (nnf T.tr false) = covT b.N.C.l b.N.R.l ((marksF b l).map (Tr.str b.N.C.l b.N.R.l)) T.tr := by
    rw [coverR_eq w1 hL _ hwn hfx, cov_nnf b.N _ _ w3]
  have he : htE b l k T = (if (marksF b l).length ≤ 8 then (if decide (0 ≤ k) && (decide (k < ((2 ^ (marksF b l).length : Nat) : Int)) && coverR (marksF b l) (nnf T.tr false)) then 0 else 1) else 3) := by
    rw [htE, h1, h2, hc]; rfl
  refine ⟨he, fun h0 => ?_, fun h0 => by rw [htV, if_neg h0], h1, w3⟩
  have hk : 0 ≤ k ∧ k < ((2 ^ (marksF b l).length : Nat) : Int) := by
    rw [he] at h0
    split at h0
    · split at h0
      · rename_i hh
        simp only [Bool.and_eq_true, decide_eq_true_eq] at hh
        exact ⟨hh.1, hh.2.1⟩
      · cases h0
    · cases h0
  have hy : k.toNat < 2 ^ (marksF b l).length := by omega
  rw [htV, if_pos h0, trueR_eq w1 hy hL _ hwn hfx, tru_nnf b.N _ _ _ hy _ w3, Bool.xor_false]

set_option maxRecDepth 100000 in
set_option maxHeartbeats 16000000 in
theorem HierTrue_any (b : BN) (mo : ML) (k : Int) (T : MT) (w : World) (hG : G w) (hGT : GT w) (hb : b.In w.heap.size w) (hmo : mo.In w.heap.size w) (hml : mo.l.length * 40 ≤ 140737488351232) (hT : T.In w.heap.size w) :
    Calls Tryz.prog 6 #[b.val, .slice mo.A mo.l.length mo.c, .int .i64 k, T.val] w fun e w' => e = .returned (.bool true) ∧ Below w.heap.size w w' := by
  obtain ⟨W1, hW1, hB1, hs1, hk1⟩ := newBlk w _ rfl #[.slice b.N.C.A b.N.C.l.length b.N.C.c, .slice b.N.R.A b.N.R.l.length b.N.R.c, .slice b.N.I.A b.N.I.l.length b.N.I.c, .slice b.IA b.I.length b.ic, .slice b.R.A b.R.l.length b.R.c, .slice b.FA b.F.length b.fc, .slice b.L.A b.L.l.length b.L.c] 30
  obtain ⟨W2, hW2, hB2, hs2, hk2⟩ := newBlk W1 _ hs1 #[.int .i64 T.op, .int .i64 T.n, .slice T.A T.args.length T.c] 33
  have hB : Below w.heap.size w W2 := hB1.trans (hB2.mono (by omega))
  have hkk1 := (hB2.block w.heap.size (by omega)).trans hk1
  have hS : ∀ w', Below W2.heap.size W2 w' → BBox w' w.heap.size b ∧ (w'.cell? ⟨w.heap.size + 1, 0, none⟩ = some (.int .i64 T.op) ∧ w'.cell? ⟨w.heap.size + 1, 1, none⟩ = some (.int .i64 T.n) ∧ w'.cell? ⟨w.heap.size + 1, 2, none⟩ = some (.slice T.A T.args.length T.c)) := fun w' h => ⟨bbox_of (b := b) (blk_lat hkk1 h), (res3 (blk_lat hk2 h)).1⟩
  have hb2 := hb.later hB
  have hT2 := hT.later hB
  have hm2 := hmo.later hB
  have hG2 := hG.later hB
  have hGT2 := hGT.later hB
  have haw := fun w' (h : Below W2.heap.size W2 w') => awake5_any w' (hG2.later h) (hGT2.later h)
  have hfw := fun (m : ML) w' (h : Below W2.heap.size W2 w') (hm : m.In w'.heap.size w') => few5_any b m w' (hb2.later h) hm
  have hrow : ∀ w', Below W2.heap.size W2 w' → RowAt w' w'.heap.size 3 mo.A mo.l.length (mo.l.flatMap MT.cs) := fun w' h => (hm2.later h).2.2.2.1
  have hls : ∀ w', Below W2.heap.size W2 w' → T.In w'.heap.size w' ∧ ∀ x ∈ mo.l, x.In w'.heap.size w' := fun w' h => ⟨hT2.later h, (hm2.later h).2.2.2.2⟩
  have hnil := hm2.2.2.1
  have hd : Below W2.heap.size W2 W2.drew := (Below.refl _ _).drew
  obtain ⟨i0, hi0, hz0, hz1, hz2⟩ := info_parts con_info
  have HB := Lib.hid hB
  have HS := Lib.hid hS
  have HAW := Lib.hid haw
  have HFW := Lib.hid hfw
  have HRW := Lib.hid hrow
  have HLS := Lib.hid hls
  have HD := Lib.hid (And.intro hb2 (And.intro hT2 (And.intro hm2 (And.intro hG2 hGT2))))
  obtain ⟨⟨c0, c1, c2, c3, c4, c5, c6⟩, c7, c8, c9⟩ := hS W2 (Below.refl _ _)
  simp only [BN.val, MT.val] at HFW ⊢
  have HS2 := Lib.hid hs2
  clear hs2 hB1 hB2 hk1 hk2 hkk1 hB hS haw hfw hrow hls hb2 hT2 hm2 hG2 hGT2 hb hmo hT hG hGT
  go_enter Tryz.func6, Tryz.ntmps6
  go_wp2_with fail
  clear c0 c1 c2 c3 c4 c5 c6 c7 c8 c9
  go_region_held_law (fun w' => (w'.cell? ⟨w.heap.size, 0, none⟩ = some (.slice b.N.C.A b.N.C.l.length b.N.C.c) ∧ w'.cell? ⟨w.heap.size, 1, none⟩ = some (.slice b.N.R.A b.N.R.l.length b.N.R.c) ∧ w'.cell? ⟨w.heap.size, 2, none⟩ = some (.slice b.N.I.A b.N.I.l.length b.N.I.c) ∧ w'.cell? ⟨w.heap.size, 3, none⟩ = some (.slice b.IA b.I.length b.ic) ∧ w'.cell? ⟨w.heap.size, 4, none⟩ = some (.slice b.R.A b.R.l.length b.R.c) ∧ w'.cell? ⟨w.heap.size, 5, none⟩ = some (.slice b.FA b.F.length b.fc) ∧ w'.cell? ⟨w.heap.size, 6, none⟩ = some (.slice b.L.A b.L.l.length b.L.c)) ∧ (w'.cell? ⟨w.heap.size + 1, 0, none⟩ = some (.int .i64 T.op) ∧ w'.cell? ⟨w.heap.size + 1, 1, none⟩ = some (.int .i64 T.n) ∧ w'.cell? ⟨w.heap.size + 1, 2, none⟩ = some (.slice T.A T.args.length T.c)))
    (first | exact HS.out _ hd | exact HS.out _ (hd.alloc hd.size _) | exact HS.out _ hb4 | exact HS.out _ hb5)
    (first
      | (go_at_call 20; refine (HFW.out ⟨A4, k4, T :: mo.l⟩ w4 hb4 HM4.out).mono ?_; rintro e w5 ⟨⟨x, rfl, hx⟩, hb5'⟩; have hb5 : Below W2.heap.size W2 w5 := hb4.trans (hb5'.mono hb4.size))
      | (refine step_append_row _ (by rfl) _ _ _ (by rfl) W2.heap.size 33 i0 _ 3 40 Tryz.underlying31 hi0 hz0 hz1 hz2 rfl (by omega) (.slice (some ⟨W2.heap.size, 0, none⟩) 1 1) 1 (MT.cs T) (by rfl) (own_one (heap_alloc_new W2.drew _) (Nat.le_refl _)) _ mo.A mo.l.length mo.c _ (by rfl) hnil (HRW.out _ (hd.alloc hd.size _)) (cs_one _) (by unfold maxLen; omega) (by omega) (by simp) ?_; intro v4 w4 hown4 hg4 hat4; have hb4 : Below W2.heap.size W2 w4 := (hd.alloc hd.size _).grown hg4 (by simp) (fun k e => by cases e; exact Nat.le_refl _); obtain ⟨A4, k4, hv4, hm4⟩ := ml_cons_owns hown4 (HLS.out w4 hb4).1 (HLS.out w4 hb4).2; subst hv4; have HM4 := Lib.hid hm4; clear hm4 hown4 hat4))
  cases x
  · go_wp2_with (go_at_call 21; refine (HAW.out w5 hb5).mono ?_; rintro e w6 ⟨rfl, hb6⟩)
    go_ret
    exact ⟨rfl, HB.out.trans ((hb5.trans (hb6.mono hb5.size)).mono HB.out.size)⟩
  obtain ⟨q1, q2, q3, q4, q5, q6, q7, q8⟩ := hx rfl
  have hl := few_lens5 q1
  obtain ⟨d1, d2, d3, d4, d5⟩ := HD.out
  have hlm : mo.l.length ≤ 5 := by simp only [List.length_cons] at q7; omega
  have hTs : T.tr.size ≤ 500 := q8 T (by simp)
  have hin : ∀ w', Below W2.heap.size W2 w' → HIn b mo w' := fun w' h => ⟨d4.later h, d5.later h, d1.later h, d3.later h, by omega, by omega, by omega, by omega, by omega, fun x hx => Nat.le_trans (q6 x hx) (by decide), fun x hx => Nat.le_trans (q8 x (by simp [hx])) (by decide), by omega⟩
  have ht := fun w' (h : Below W2.heap.size W2 w') => hTrue_any b mo k T w' (hin w' h) (d2.later h) (by omega)
  have hfa := fun (m : ML) (hml : m.l = T :: mo.l) w' (h : Below W2.heap.size W2 w') (hm : m.In w'.heap.size w') => rFault5_any b m w' (d1.later h) hm (by omega) (by omega) (by omega) (by omega) ⟨by omega, by omega, by omega⟩ (fun x hx => Nat.le_trans (q6 x hx) (by decide)) (fun x hx => Nat.le_trans (q8 x (hml ▸ hx)) (by decide)) (by rw [hml, List.length_cons]; omega)
  have HSZ := Lib.hid (And.intro q6 q8)
  have HLN := Lib.hid (And.intro q2 q4)
  obtain ⟨m, hm⟩ : ∃ m, mcheckC b (T :: mo.l) = m := ⟨_, rfl⟩
  obtain ⟨xe, hxe⟩ : ∃ x, htE b mo.l k T = x := ⟨_, rfl⟩
  obtain ⟨xv, hxv⟩ : ∃ x, htV b mo.l k T = x := ⟨_, rfl⟩
  unfold RetHT at ht
  simp only [hxe, hxv] at ht
  have hfa' : ∀ (A : Option Addr) (c : Nat) w', Below W2.heap.size W2 w' → (ML.mk A c (T :: mo.l)).In w'.heap.size w' → Calls Tryz.prog 24 #[.agg #[.slice b.N.C.A b.N.C.l.length b.N.C.c, .slice b.N.R.A b.N.R.l.length b.N.R.c, .slice b.N.I.A b.N.I.l.length b.N.I.c, .slice b.IA b.I.length b.ic, .slice b.R.A b.R.l.length b.R.c, .slice b.FA b.F.length b.fc, .slice b.L.A b.L.l.length b.L.c], .slice A (T :: mo.l).length c] w' fun e w'' => e = .returned (.int .i64 m) ∧ Below w'.heap.size w' w'' := fun A c w' h hm' => by
    have h' := hfa ⟨A, c, T :: mo.l⟩ rfl w' h hm'
    rw [hm] at h'
    exact h'
  have HTT := Lib.hid ht
  have HFA := Lib.hid hfa'
  simp only [BN.val, MT.val] at HTT
  clear hx q1 q2 q3 q4 q5 q6 q7 q8 hin ht hfa hfa' hg4 hd hb5'
  obtain ⟨⟨c0, c1, c2, c3, c4, c5, c6⟩, c7, c8, c9⟩ := HS.out w5 hb5
  go_wp2_with (go_at_call 30; refine (HTT.out w5 hb5).mono ?_; rintro e w6 ⟨rfl, hb6'⟩; have hb6 : Below W2.heap.size W2 w6 := hb5.trans (hb6'.mono hb5.size))
  clear c0 c1 c2 c3 c4 c5 c6 c7 c8 c9
  have hd : Below W2.heap.size W2 w6.drew := hb6.drew
  clear hb6'
  go_region_held_law (fun w' => (w'.cell? ⟨w.heap.size, 0, none⟩ = some (.slice b.N.C.A b.N.C.l.length b.N.C.c) ∧ w'.cell? ⟨w.heap.size, 1, none⟩ = some (.slice b.N.R.A b.N.R.l.length b.N.R.c) ∧ w'.cell? ⟨w.heap.size, 2, none⟩ = some (.slice b.N.I.A b.N.I.l.length b.N.I.c) ∧ w'.cell? ⟨w.heap.size, 3, none⟩ = some (.slice b.IA b.I.length b.ic) ∧ w'.cell? ⟨w.heap.size, 4, none⟩ = some (.slice b.R.A b.R.l.length b.R.c) ∧ w'.cell? ⟨w.heap.size, 5, none⟩ = some (.slice b.FA b.F.length b.fc) ∧ w'.cell? ⟨w.heap.size, 6, none⟩ = some (.slice b.L.A b.L.l.length b.L.c)) ∧ (w'.cell? ⟨w.heap.size + 1, 0, none⟩ = some (.int .i64 T.op) ∧ w'.cell? ⟨w.heap.size + 1, 1, none⟩ = some (.int .i64 T.n) ∧ w'.cell? ⟨w.heap.size + 1, 2, none⟩ = some (.slice T.A T.args.length T.c)))
    (first | exact HS.out _ hd | exact HS.out _ (hd.alloc hd.size _) | exact HS.out _ hb8 | exact HS.out _ hb7)
    (first
      | (go_at_call 24; refine (HFA.out A7 k7 w7 hb7 HM7.out).mono ?_; rintro e w8 ⟨rfl, hb8'⟩; have hb8 : Below W2.heap.size W2 w8 := hb7.trans (hb8'.mono hb7.size))
      | (refine step_append_row _ (by rfl) _ _ _ (by rfl) W2.heap.size 33 i0 _ 3 40 Tryz.underlying31 hi0 hz0 hz1 hz2 rfl (by omega) (.slice (some ⟨w6.heap.size, 0, none⟩) 1 1) 1 (MT.cs T) (by rfl) (own_one (heap_alloc_new w6.drew _) hb6.size) _ mo.A mo.l.length mo.c _ (by rfl) hnil (HRW.out _ (hd.alloc hd.size _)) (cs_one _) (by unfold maxLen; omega) (by omega) (by have := (hd.alloc hd.size (.cells (MT.cs T).toArray 33)).size; simpa using Nat.le_trans hb6.size (Nat.le_succ _)) ?_; intro v7 w7 hown7 hg7 hat7; have hb7 : Below W2.heap.size W2 w7 := (hd.alloc hd.size _).grown hg7 (by simpa using Nat.le_trans hb6.size (Nat.le_succ _)) (fun k e => by cases e; exact hb6.size); obtain ⟨A7, k7, hv7, hm7⟩ := ml_cons_owns hown7 (HLS.out w7 hb7).1 (HLS.out w7 hb7).2; subst hv7; have HM7 := Lib.hid hm7; clear hm7 hown7 hat7))
  clear hg7 hb8' hb7 hd HM7
  obtain ⟨⟨c0, c1, c2, c3, c4, c5, c6⟩, c7, c8, c9⟩ := HS.out w8 hb8
  by_cases h0 : m = 0
  · subst h0
    obtain ⟨r1, r2, r5, r3, r4⟩ := ht_ref (k := k) hm
    rw [hxe] at r1 r2 r5
    rw [hxv] at r2 r5
    obtain ⟨n, hn⟩ : ∃ n, (marksF b mo.l).length = n := ⟨_, rfl⟩
    obtain ⟨k1, k2⟩ := mcheck_ok r3
    obtain ⟨-, k3, -⟩ := kchk_ok k1
    have hms : ∀ w', Below W2.heap.size W2 w' → Calls Tryz.prog 31 #[b.val, .slice mo.A mo.l.length mo.c] w' fun e w'' => ∃ A c Ls, e = .returned (.slice A n c) ∧ n ≤ c ∧ c ≤ 9223372036854775807 ∧ MkIn w'.heap.size (.slice A n c) Ls w'' ∧ Ls.map MT.tr = marksF b mo.l ∧ Below w'.heap.size w' w'' := fun w' h => by
      refine (rMarks_any b.N.C.l.length b.N.R.l.length b mo w' (d4.later h) (d1.later h) (d3.later h) HLN.out.1 HLN.out.2 (by omega) (fun X hX => by rcases List.mem_append.1 hX with x | x; exact (k3 X x).1; exact (k2 X x).1) (fun X hX => by rcases List.mem_append.1 hX with x | x; exact HSZ.out.1 X x; exact HSZ.out.2 X (by simp [x]))).mono fun e w'' hh => ?_
      obtain ⟨v, Ls, he, hc, htr, hb⟩ := hh
      rw [marksR_eq r3] at htr
      have hlen : Ls.length = n := by rw [← hn, ← htr, List.length_map]
      obtain ⟨A, c, hv, h1, h2, -⟩ := row_of_owns hc.own
      have hmk := hc.mkIn
      rw [hv, hlen] at hmk
      rw [hlen] at h1 hv
      exact ⟨A, c, Ls, by rw [he, hv], h1, h2, hmk, htr, hb⟩
    have hfo : ∀ w', Below W2.heap.size W2 w' → Calls Tryz.prog 32 #[T.val, .bool false] w' (RetTree w' (nnf T.tr false)) := fun w' h => Form_any T false w' (WF_of_wfT T r4) (d4.later h) (d2.later h)
    have hwn := nnf_wf _ _ _ r4 false
    have hco : ∀ (v : Value) (base : Nat) (Ls : List MT) (N : MT) w', Ls.map MT.tr = marksF b mo.l → MkIn base v Ls w' → Below W2.heap.size W2 w' → N.tr = nnf T.tr false → N.In w'.heap.size w' → Calls Tryz.prog 33 #[v, N.val] w' fun e w'' => e = .returned (.bool (coverR (marksF b mo.l) (nnf T.tr false))) ∧ Below w'.heap.size w' w'' := fun v base Ls N w' e1 hmk h e2 hN => by
      have h' := rCovered_any base v Ls N w' hmk (d4.later h) hN (WF_of_wfT N (e2 ▸ hwn))
      rw [e1, e2] at h'
      exact h'
    have hcc : (marksF b mo.l).length ≤ 8 → ∀ (y : Nat), y < 256 → coverR (marksF b mo.l) (nnf T.tr false) = true → ∀ (v : Value) (base : Nat) (Ls : List MT) (N : MT) w', Ls.map MT.tr = marksF b mo.l → MkIn base v Ls w' → Below W2.heap.size W2 w' → N.tr = nnf T.tr false → N.In w'.heap.size w' → Calls Tryz.prog 34 #[v, .int .i64 (y : Nat), N.val] w' fun e w'' => e = .returned (.bool (trueR (marksF b mo.l) y (nnf T.tr false))) ∧ Below w'.heap.size w' w'' := fun h8 y hy hcv v base Ls N w' e1 hmk h e2 hN => by
      have hlen : Ls.length ≤ 8 := by rw [← e1, List.length_map] at h8; exact h8
      have h' := rTrue5_any base v Ls y hy hlen N (WF_of_wfT N (e2 ▸ hwn)) w' hmk (d4.later h) hN (WF_of_wfT N (e2 ▸ hwn)) (by rw [e1, e2]; exact hcv)
      rw [e1, e2] at h'
      exact h'
    obtain ⟨cv, hcv⟩ : ∃ x, coverR (marksF b mo.l) (nnf T.tr false) = x := ⟨_, rfl⟩
    rw [hn] at r1 hcc
    rw [hcv] at r1 hco
    have HMS := Lib.hid hms
    have HFO := Lib.hid hfo
    have HCO := Lib.hid hco
    have HCC := Lib.hid hcc
    have HR2 := Lib.hid r2
    have HR5 := Lib.hid r5
    have HCV := Lib.hid hcv
    simp only [BN.val, MT.val] at HMS HFO HCO HCC
    clear hms hfo hco hcc r2 r5 r3 r4 k1 k2 k3 hn hm hxe hxv hwn d1 d2 d3 d4 d5 hcv
    have hn0 : (0 : Int) ≤ n := by omega
    by_cases h8 : n ≤ 8
    · have hg8 : decide (8 < (n : Int)) = false := by simp; omega
      have hnn : decide ((n : Int) < 0) = false := by simp
      rw [if_pos h8] at r1
      have HSL := Lib.hid (shl_small n h8)
      by_cases hk0 : 0 ≤ k
      · obtain ⟨y, rfl⟩ := Int.eq_ofNat_of_zero_le hk0
        have hkd : decide ((y : Int) < 0) = false := by simp
        by_cases hk1 : (y : Int) < ((2 ^ n : Nat) : Int)
        · have hkn : decide (wrap64 ((2 : Int) ^ n) ≤ (y : Int)) = false := by rw [HSL.out]; simp only [decide_eq_false_iff_not]; omega
          cases cv
          · have e1 : xe = 1 := by rw [r1]; simp
            subst e1
            have e2 := HR5.out (by decide)
            subst e2
            clear r1
            go_wp2_with (first
              | (go_at_call 21; refine (HAW.out w12 hb12).mono ?_; rintro e wz ⟨rfl, hbz⟩)
              | (go_at_call 33; refine (HCO.out (.slice A9 n k9) w8.heap.size Ls N W11 HMK.out.1 HMK11.out hb11 HN.out.1 HN.out.2).mono ?_; rintro e w12 ⟨rfl, hb12'⟩; have hb12 := hb11.trans (hb12'.mono hb11.size); clear x0 x1 x2; obtain ⟨⟨x0, x1, x2⟩, -⟩ := res3 (blk_lat0 HK11.out hb12'))
              | (go_at_call 32; refine (HFO.out w9 hb9).mono ?_; rintro e w10 ⟨N, rfl, hNt, hNn, hb10'⟩; have hb10 := hb9.trans (hb10'.mono hb9.size); obtain ⟨W11, hW11, hB11, hs11, hk11⟩ := newBlk w10 _ rfl #[.int .i64 N.op, .int .i64 N.n, .slice N.A N.args.length N.c] 33; have hb11 := hb10.trans (hB11.mono hb10.size); have HN := Lib.hid (And.intro hNt (hNn.1.later hB11)); have HMK11 := Lib.hid (HMK.out.2.later (hb10'.trans (hB11.mono hb10'.size))); have HK11 := Lib.hid hk11; clear hNt hNn hk11; clear c0 c1 c2 c3 c4 c5 c6 c7 c8 c9; obtain ⟨⟨x0, x1, x2⟩, -⟩ := res3 HK11.out)
              | (go_at_call 31; refine (HMS.out w8 hb8).mono ?_; rintro e w9 ⟨A9, k9, Ls, rfl, hle9, hm9, hmk9, htr9, hb9'⟩; have hb9 := hb8.trans (hb9'.mono hb8.size); have HMK := Lib.hid (And.intro htr9 hmk9); clear htr9 hmk9; clear c0 c1 c2 c3 c4 c5 c6 c7 c8 c9; obtain ⟨⟨c0, c1, c2, c3, c4, c5, c6⟩, c7, c8, c9⟩ := HS.out w9 hb9))
            go_ret
            exact ⟨rfl, HB.out.trans ((hb12.trans (hbz.mono hb12.size)).mono HB.out.size)⟩
          · have e1 : xe = 0 := by rw [r1, if_pos]; simp only [Bool.and_eq_true, decide_eq_true_eq]; exact ⟨hk0, hk1, trivial⟩
            subst e1
            have e2 := HR2.out rfl
            have hy : y < 256 := by
              have h2 : (2 : Nat) ^ n ≤ 2 ^ 8 := Nat.pow_le_pow_right (by decide) h8
              omega
            rw [Int.toNat_natCast] at e2
            have hcy := HCC.out h8 y hy HCV.out
            rw [← e2] at hcy
            have HCY := Lib.hid hcy
            have hvv : (xv == xv) = true := by simp
            clear r1 e2 hcy
            go_wp2_with (first
              | (go_at_call 21; refine (HAW.out w13 hb13).mono ?_; rintro e wz ⟨rfl, hbz⟩)
              | (go_at_call 34; refine (HCY.out (.slice A9 n k9) w8.heap.size Ls N w12 HMK.out.1 (HMK11.out.later hb12') hb12 HN.out.1 (HN.out.2.later hb12')).mono ?_; rintro e w13 ⟨rfl, hb13'⟩; have hb13 := hb12.trans (hb13'.mono hb12.size))
              | (go_at_call 33; refine (HCO.out (.slice A9 n k9) w8.heap.size Ls N W11 HMK.out.1 HMK11.out hb11 HN.out.1 HN.out.2).mono ?_; rintro e w12 ⟨rfl, hb12'⟩; have hb12 := hb11.trans (hb12'.mono hb11.size); clear x0 x1 x2; obtain ⟨⟨x0, x1, x2⟩, -⟩ := res3 (blk_lat0 HK11.out hb12'))
              | (go_at_call 32; refine (HFO.out w9 hb9).mono ?_; rintro e w10 ⟨N, rfl, hNt, hNn, hb10'⟩; have hb10 := hb9.trans (hb10'.mono hb9.size); obtain ⟨W11, hW11, hB11, hs11, hk11⟩ := newBlk w10 _ rfl #[.int .i64 N.op, .int .i64 N.n, .slice N.A N.args.length N.c] 33; have hb11 := hb10.trans (hB11.mono hb10.size); have HN := Lib.hid (And.intro hNt (hNn.1.later hB11)); have HMK11 := Lib.hid (HMK.out.2.later (hb10'.trans (hB11.mono hb10'.size))); have HK11 := Lib.hid hk11; clear hNt hNn hk11; clear c0 c1 c2 c3 c4 c5 c6 c7 c8 c9; obtain ⟨⟨x0, x1, x2⟩, -⟩ := res3 HK11.out)
              | (go_at_call 31; refine (HMS.out w8 hb8).mono ?_; rintro e w9 ⟨A9, k9, Ls, rfl, hle9, hm9, hmk9, htr9, hb9'⟩; have hb9 := hb8.trans (hb9'.mono hb8.size); have HMK := Lib.hid (And.intro htr9 hmk9); clear htr9 hmk9; clear c0 c1 c2 c3 c4 c5 c6 c7 c8 c9; obtain ⟨⟨c0, c1, c2, c3, c4, c5, c6⟩, c7, c8, c9⟩ := HS.out w9 hb9))
            go_ret
            exact ⟨rfl, HB.out.trans ((hb13.trans (hbz.mono hb13.size)).mono HB.out.size)⟩
        · have hkn : decide (wrap64 ((2 : Int) ^ n) ≤ (y : Int)) = true := by rw [HSL.out]; simp only [decide_eq_true_eq]; omega
          have e1 : xe = 1 := by rw [r1, if_neg]; simp only [Bool.and_eq_true, decide_eq_true_eq]; intro h; exact hk1 h.2.1
          subst e1
          have e2 := HR5.out (by decide)
          subst e2
          clear r1
          go_wp2_with (first
            | (go_at_call 21; refine (HAW.out W11 hb11).mono ?_; rintro e wz ⟨rfl, hbz⟩)
            | (go_at_call 32; refine (HFO.out w9 hb9).mono ?_; rintro e w10 ⟨N, rfl, hNt, hNn, hb10'⟩; have hb10 := hb9.trans (hb10'.mono hb9.size); obtain ⟨W11, hW11, hB11, hs11, hk11⟩ := newBlk w10 _ rfl #[.int .i64 N.op, .int .i64 N.n, .slice N.A N.args.length N.c] 33; have hb11 := hb10.trans (hB11.mono hb10.size); have HN := Lib.hid (And.intro hNt (hNn.1.later hB11)); have HMK11 := Lib.hid (HMK.out.2.later (hb10'.trans (hB11.mono hb10'.size))); have HK11 := Lib.hid hk11; clear hNt hNn hk11; clear c0 c1 c2 c3 c4 c5 c6 c7 c8 c9; obtain ⟨⟨x0, x1, x2⟩, -⟩ := res3 HK11.out)
            | (go_at_call 31; refine (HMS.out w8 hb8).mono ?_; rintro e w9 ⟨A9, k9, Ls, rfl, hle9, hm9, hmk9, htr9, hb9'⟩; have hb9 := hb8.trans (hb9'.mono hb8.size); have HMK := Lib.hid (And.intro htr9 hmk9); clear htr9 hmk9; clear c0 c1 c2 c3 c4 c5 c6 c7 c8 c9; obtain ⟨⟨c0, c1, c2, c3, c4, c5, c6⟩, c7, c8, c9⟩ := HS.out w9 hb9))
          go_ret
          exact ⟨rfl, HB.out.trans ((hb11.trans (hbz.mono hb11.size)).mono HB.out.size)⟩
      · have hkd : decide (k < 0) = true := by simp; omega
        have e1 : xe = 1 := by rw [r1, if_neg]; simp only [Bool.and_eq_true, decide_eq_true_eq]; intro h; exact hk0 h.1
        subst e1
        have e2 := HR5.out (by decide)
        subst e2
        clear r1
        go_wp2_with (first
          | (go_at_call 21; refine (HAW.out W11 hb11).mono ?_; rintro e wz ⟨rfl, hbz⟩)
          | (go_at_call 32; refine (HFO.out w9 hb9).mono ?_; rintro e w10 ⟨N, rfl, hNt, hNn, hb10'⟩; have hb10 := hb9.trans (hb10'.mono hb9.size); obtain ⟨W11, hW11, hB11, hs11, hk11⟩ := newBlk w10 _ rfl #[.int .i64 N.op, .int .i64 N.n, .slice N.A N.args.length N.c] 33; have hb11 := hb10.trans (hB11.mono hb10.size); have HN := Lib.hid (And.intro hNt (hNn.1.later hB11)); have HMK11 := Lib.hid (HMK.out.2.later (hb10'.trans (hB11.mono hb10'.size))); have HK11 := Lib.hid hk11; clear hNt hNn hk11; clear c0 c1 c2 c3 c4 c5 c6 c7 c8 c9; obtain ⟨⟨x0, x1, x2⟩, -⟩ := res3 HK11.out)
          | (go_at_call 31; refine (HMS.out w8 hb8).mono ?_; rintro e w9 ⟨A9, k9, Ls, rfl, hle9, hm9, hmk9, htr9, hb9'⟩; have hb9 := hb8.trans (hb9'.mono hb8.size); have HMK := Lib.hid (And.intro htr9 hmk9); clear htr9 hmk9; clear c0 c1 c2 c3 c4 c5 c6 c7 c8 c9; obtain ⟨⟨c0, c1, c2, c3, c4, c5, c6⟩, c7, c8, c9⟩ := HS.out w9 hb9))
        go_ret
        exact ⟨rfl, HB.out.trans ((hb11.trans (hbz.mono hb11.size)).mono HB.out.size)⟩
    · have hg8 : decide (8 < (n : Int)) = true := by simp; omega
      rw [if_neg h8] at r1
      subst r1
      have e2 := HR5.out (by decide)
      subst e2
      go_wp2_with (first
        | (go_at_call 21; refine (HAW.out W11 hb11).mono ?_; rintro e wz ⟨rfl, hbz⟩)
        | (go_at_call 32; refine (HFO.out w9 hb9).mono ?_; rintro e w10 ⟨N, rfl, hNt, hNn, hb10'⟩; have hb10 := hb9.trans (hb10'.mono hb9.size); obtain ⟨W11, hW11, hB11, hs11, hk11⟩ := newBlk w10 _ rfl #[.int .i64 N.op, .int .i64 N.n, .slice N.A N.args.length N.c] 33; have hb11 := hb10.trans (hB11.mono hb10.size); have HN := Lib.hid (And.intro hNt (hNn.1.later hB11)); have HMK11 := Lib.hid (HMK.out.2.later (hb10'.trans (hB11.mono hb10'.size))); have HK11 := Lib.hid hk11; clear hNt hNn hk11; clear c0 c1 c2 c3 c4 c5 c6 c7 c8 c9; obtain ⟨⟨x0, x1, x2⟩, -⟩ := res3 HK11.out)
        | (go_at_call 31; refine (HMS.out w8 hb8).mono ?_; rintro e w9 ⟨A9, k9, Ls, rfl, hle9, hm9, hmk9, htr9, hb9'⟩; have hb9 := hb8.trans (hb9'.mono hb8.size); have HMK := Lib.hid (And.intro htr9 hmk9); clear htr9 hmk9; clear c0 c1 c2 c3 c4 c5 c6 c7 c8 c9; obtain ⟨⟨c0, c1, c2, c3, c4, c5, c6⟩, c7, c8, c9⟩ := HS.out w9 hb9))
      go_ret
      exact ⟨rfl, HB.out.trans ((hb11.trans (hbz.mono hb11.size)).mono HB.out.size)⟩
  · have hb0 : (m == 0) = false := by simpa using h0
    have r1 : xe = m ∧ xv = false := by
      have h1 : htE b mo.l k T = m := by
        rw [mcheck_cons] at hm
        rw [htE, if_neg (by rw [hm]; exact h0), hm]
      refine ⟨hxe.symm.trans h1, ?_⟩
      rw [← hxv, htV, if_neg (by rw [h1]; exact h0)]
    obtain ⟨rfl, rfl⟩ := r1
    have hee : (xe == xe) = true := by simp
    clear hm hxe hxv d1 d2 d3 d4 d5 h0
    go_wp2_with (go_at_call 21; refine (HAW.out w8 hb8).mono ?_; rintro e w9 ⟨rfl, hb9⟩)
    go_ret
    exact ⟨rfl, HB.out.trans ((hb8.trans (hb9.mono hb8.size)).mono HB.out.size)⟩
end Go.Proofs.YtndkcimajeofcaaGreatDoor
