import Derived.Test.YtneegmhcmegijaaDoorFl0
import Derived.Test.YtneegmhcmegijaaDoorRSet4
import Derived.Test.YtneegmhcmegijaaDoorIncl
namespace Go.Proofs.YtneegmhcmegijaaDoor
open Go.RowKit

theorem crow_new {w : World} {cs : Array Value} {t : TypeId} (l : List MT) (hin : ∀ k (hk : k < l.length), (l[k]).In w.heap.size w) (hc : cs = (l.flatMap MT.cs).toArray) (hl : (l.flatMap MT.cs).length = l.length * 3) (hf : l.length ≤ 2) : CRow (w.alloc (.cells cs t)) (some ⟨w.heap.size, 0, none⟩) l := by
  have hk := heap_alloc_new w (.cells cs t)
  have hsz : (w.alloc (.cells cs t)).heap.size = w.heap.size + 1 := by simp
  refine ⟨⟨hl, fun _ => ⟨w.heap.size, 0, rfl, by omega, fun j hj => ?_⟩⟩, fun k hk' => ?_, by omega⟩
  · rw [cell_of_blk hk, Nat.zero_add, hc, List.getElem?_toArray]
  · exact (hin k hk').later ((Below.refl _ w).alloc (Nat.le_refl _) _)

theorem fault1_eq (n : NM) (i : IN) (T : MT) : faultF n i [T] = orF (checkF n T) (icheckF n i) := by
  simp only [faultF, checkF, icheckF, validB_eq, orF, codeIf, List.all_cons, List.all_nil, Bool.and_true]
  cases n.ok <;> cases validT n.C.l.length n.R.l.length T.tr <;> simp
theorem fault2_eq (n : NM) (i : IN) (T D : MT) : faultF n i [T, D] = orF (checkF n T) (orF (checkF n D) (icheckF n i)) := by
  simp only [faultF, checkF, icheckF, validB_eq, orF, codeIf, List.all_cons, List.all_nil, Bool.and_true]
  cases n.ok <;> cases validT n.C.l.length n.R.l.length T.tr <;> cases validT n.C.l.length n.R.l.length D.tr <;> simp
theorem orF_zero {x y : Int} : orF x y = 0 ↔ x = 0 ∧ y = 0 := by
  unfold orF
  by_cases h : x = 0 <;> simp [h]
theorem wf_of_check {n : NM} {T : MT} {C R : Nat} (h : checkF n T = 0) (hC : C = n.C.l.length) (hR : R = n.R.l.length) : T.tr.wfT C R = true := by
  have h1 := (checkF_zero (n := n) (T := T) (by simp [h])).2
  rw [validB_eq, validT_split, Bool.and_eq_true] at h1
  rw [hC, hR]; exact h1.2
theorem same_nilI (w : World) : Calls Tryd.prog 34 #[.slice none 0 0, .slice none 0 0] w fun e w' => e = .returned (.bool true) ∧ Below w.heap.size w w' := SameIntsL_any ⟨none, 0, []⟩ ⟨none, 0, []⟩ w ⟨Nat.le_refl _, Nat.zero_le _, RowAt.nil _ _ _ _⟩ ⟨Nat.le_refl _, Nat.zero_le _, RowAt.nil _ _ _ _⟩ rfl

set_option maxRecDepth 100000 in
set_option maxHeartbeats 16000000 in
theorem InterpElements_any (n : NM) (T D : MT) (i : IN) (w : World) (hG : GT w) (hn : n.In w.heap.size w) (hT : T.In w.heap.size w) (hD : D.In w.heap.size w) (hi : i.In w.heap.size w) :
    Calls Tryd.prog 5 #[n.val, T.val, D.val, i.val] w fun e w' => e = .returned (.bool true) ∧ Below w.heap.size w w' := by
  obtain ⟨W1, hW1, hB1, hs1, hk1⟩ := newBlk w _ rfl #[.slice n.C.A n.C.l.length n.C.c, .slice n.R.A n.R.l.length n.R.c, .slice n.I.A n.I.l.length n.I.c] 24
  obtain ⟨W2, hW2, hB2, hs2, hk2⟩ := newBlk W1 _ hs1 #[.int .i64 T.op, .int .i64 T.n, .slice T.A T.args.length T.c] 27
  obtain ⟨W3, hW3, hB3, hs3, hk3⟩ := newBlk W2 _ hs2 #[.int .i64 D.op, .int .i64 D.n, .slice D.A D.args.length D.c] 27
  obtain ⟨W4, hW4, hB4, hs4, hk4⟩ := newBlk W3 _ hs3 #[.int .i64 i.size, .slice i.CA i.C.length i.cc, .slice i.RA i.R.length i.rc, .slice i.I.A i.I.l.length i.I.c] 52
  have hB : Below w.heap.size w W4 := (((hB1.trans (hB2.mono (by omega))).trans (hB3.mono (by omega))).trans (hB4.mono (by omega)))
  have hkk1 := ((hB4.block (w.heap.size) (by omega)).trans ((hB3.block (w.heap.size) (by omega)).trans ((hB2.block (w.heap.size) (by omega)).trans hk1)))
  have hkk2 := ((hB4.block (w.heap.size + 1) (by omega)).trans ((hB3.block (w.heap.size + 1) (by omega)).trans hk2))
  have hkk3 := ((hB4.block (w.heap.size + 1 + 1) (by omega)).trans hk3)
  have hS : ∀ w', Below W4.heap.size W4 w' → ((w'.cell? ⟨w.heap.size, 0, none⟩ = some (.slice n.C.A n.C.l.length n.C.c) ∧ w'.cell? ⟨w.heap.size, 1, none⟩ = some (.slice n.R.A n.R.l.length n.R.c) ∧ w'.cell? ⟨w.heap.size, 2, none⟩ = some (.slice n.I.A n.I.l.length n.I.c)) ∧ (w'.cell? ⟨w.heap.size + 1, 0, none⟩ = some (.int .i64 T.op) ∧ w'.cell? ⟨w.heap.size + 1, 1, none⟩ = some (.int .i64 T.n) ∧ w'.cell? ⟨w.heap.size + 1, 2, none⟩ = some (.slice T.A T.args.length T.c)) ∧ (w'.cell? ⟨w.heap.size + 1 + 1, 0, none⟩ = some (.int .i64 D.op) ∧ w'.cell? ⟨w.heap.size + 1 + 1, 1, none⟩ = some (.int .i64 D.n) ∧ w'.cell? ⟨w.heap.size + 1 + 1, 2, none⟩ = some (.slice D.A D.args.length D.c)) ∧ (w'.cell? ⟨w.heap.size + 1 + 1 + 1, 0, none⟩ = some (.int .i64 i.size) ∧ w'.cell? ⟨w.heap.size + 1 + 1 + 1, 1, none⟩ = some (.slice i.CA i.C.length i.cc) ∧ w'.cell? ⟨w.heap.size + 1 + 1 + 1, 2, none⟩ = some (.slice i.RA i.R.length i.rc) ∧ w'.cell? ⟨w.heap.size + 1 + 1 + 1, 3, none⟩ = some (.slice i.I.A i.I.l.length i.I.c))) := fun w' hb => ⟨⟨cell_of_blk (blk_lat hkk1 hb) 0, cell_of_blk (blk_lat hkk1 hb) 1, cell_of_blk (blk_lat hkk1 hb) 2⟩, ⟨cell_of_blk (blk_lat hkk2 hb) 0, cell_of_blk (blk_lat hkk2 hb) 1, cell_of_blk (blk_lat hkk2 hb) 2⟩, ⟨cell_of_blk (blk_lat hkk3 hb) 0, cell_of_blk (blk_lat hkk3 hb) 1, cell_of_blk (blk_lat hkk3 hb) 2⟩, ⟨cell_of_blk (blk_lat hk4 hb) 0, cell_of_blk (blk_lat hk4 hb) 1, cell_of_blk (blk_lat hk4 hb) 2, cell_of_blk (blk_lat hk4 hb) 3⟩⟩
  have hd : Below W4.heap.size W4 W4.drew := (Below.refl _ W4).drew
  have hin2 : ∀ w' (hb : Below W4.heap.size W4 w') k (hk : k < [T, D].length), ([T, D][k]).In w'.heap.size w' := fun w' hb k hk => by
    match k, hk with
    | 0, _ => exact (hT.later hB).later hb
    | 1, _ => exact (hD.later hB).later hb
  have hin1 : ∀ w' (hb : Below W4.heap.size W4 w') k (hk : k < [T].length), ([T][k]).In w'.heap.size w' := fun w' hb k hk => by
    match k, hk with
    | 0, _ => exact (hT.later hB).later hb
  have hal : ∀ (w' : World) o, Below w'.heap.size w' (w'.alloc o) := fun w' o => (Below.refl _ w').alloc (Nat.le_refl _) o
  have hfw := fewL_any n i [T, D] (some ⟨W4.heap.size, 0, none⟩) 2 (W4.alloc (.cells #[.int .i64 T.op, .int .i64 T.n, .slice T.A T.args.length T.c, .int .i64 D.op, .int .i64 D.n, .slice D.A D.args.length D.c] 27)) ((hn.later hB).later (hal _ _)) ((hi.later hB).later (hal _ _)) (crow_new [T, D] (hin2 W4 (Below.refl _ _)) rfl rfl (Nat.le_refl _))
  have hf1 := fun w' (hb : Below W4.heap.size W4 w') h100 (hz : T.tr.size ≤ 400) => (faultL_any n i [T] (some ⟨w'.heap.size, 0, none⟩) 1 (w'.alloc (.cells #[.int .i64 T.op, .int .i64 T.n, .slice T.A T.args.length T.c] 27)) (((hn.later hB).later hb).later (hal _ _)) (((hi.later hB).later hb).later (hal _ _)) (crow_new [T] (hin1 w' hb) rfl rfl (by simp)) h100 (fun k hk => by
    match k, hk with
    | 0, _ => exact hz)).mono (R' := fun e w'' => e = .returned (.int .i64 (orF (checkF n T) (icheckF n i))) ∧ Below w'.heap.size w' w'') fun e w'' h => ⟨by rw [h.1, fault1_eq], (hal w' _).trans (h.2.mono (by simp))⟩
  have hf2 := fun w' (hb : Below W4.heap.size W4 w') h100 (hz : T.tr.size ≤ 400) (hz2 : D.tr.size ≤ 400) => (faultL_any n i [T, D] (some ⟨w'.heap.size, 0, none⟩) 2 (w'.alloc (.cells #[.int .i64 T.op, .int .i64 T.n, .slice T.A T.args.length T.c, .int .i64 D.op, .int .i64 D.n, .slice D.A D.args.length D.c] 27)) (((hn.later hB).later hb).later (hal _ _)) (((hi.later hB).later hb).later (hal _ _)) (crow_new [T, D] (hin2 w' hb) rfl rfl (by simp)) h100 (fun k hk => by
    match k, hk with
    | 0, _ => exact hz
    | 1, _ => exact hz2)).mono (R' := fun e w'' => e = .returned (.int .i64 (orF (checkF n T) (orF (checkF n D) (icheckF n i)))) ∧ Below w'.heap.size w' w'') fun e w'' h => ⟨by rw [h.1, fault2_eq], (hal w' _).trans (h.2.mono (by simp))⟩
  have haw := fun w1 (hb : Below W4.heap.size W4 w1) => awake3_any w1 ((hG.later hB).later hb)
  obtain ⟨⟨a0, a1, a2⟩, ⟨a3, a4, a5⟩, ⟨a6, a7, a8⟩, a9, aa, ab, ac⟩ := hS W4 (Below.refl _ _)
  have HB := Lib.hid hB
  have HG := Lib.hid (hG.later hB)
  have HN := Lib.hid (hn.later hB)
  have HT := Lib.hid (hT.later hB)
  have HD := Lib.hid (hD.later hB)
  have HI := Lib.hid (hi.later hB)
  have HS := Lib.hid hS
  have HAW := Lib.hid haw
  have HF1 := Lib.hid hf1
  have HF2 := Lib.hid hf2
  have HAL := Lib.hid hal
  simp only [NM.val, IN.val, MT.val, List.length_cons, List.length_nil, Nat.zero_add, Nat.reduceAdd] at hfw HF1 HF2 ⊢
  rw [hs4] at hfw
  clear hB hG hn hi hT hD hS haw hf1 hf2 hin1 hin2 hal hB1 hB2 hB3 hB4 hk1 hk2 hk3 hk4 hkk1 hkk2 hkk3
  go_enter Tryd.func5, Tryd.ntmps5
  go_wp2_with (go_at_call 22; refine hfw.mono ?_; clear hfw; rintro e w3 ⟨⟨b, rfl, hbf⟩, hb3'⟩; have hb3 : Below W4.heap.size W4 w3 := (HAL.out W4 _).trans (hb3'.mono (by simp)); obtain ⟨⟨c0, c1, c2⟩, ⟨c3, c4, c5⟩, ⟨c6, c7, c8⟩, c9, ca, cb, cc⟩ := HS.out w3 hb3; cases b)
  · go_wp2_with (go_at_call 23; refine (HAW.out w3 hb3).mono ?_; rintro e w4 ⟨rfl, hb4⟩)
    go_ret
    exact ⟨rfl, HB.out.trans ((hb3.trans (hb4.mono hb3.size)).mono (by omega))⟩
  · have hbf' : fewB n = true ∧ ∀ k (hk : k < [T, D].length), [T, D][k].tr.size ≤ 400 := by first | exact hbf rfl | exact hbf trivial
    have hl := few_lens3 hbf'.1
    have hzT : T.tr.size ≤ 400 := hbf'.2 0 (by simp)
    have hzD : D.tr.size ≤ 400 := hbf'.2 1 (by simp)
    have h100 : n.C.l.length ≤ 1000 ∧ n.R.l.length ≤ 1000 ∧ n.I.l.length ≤ 1000 := ⟨by omega, by omega, by omega⟩
    have HF1' := Lib.hid fun w' hb => HF1.out w' hb h100 hzT
    have HF2' := Lib.hid fun w' hb => HF2.out w' hb h100 hzT hzD
    clear HF1 HF2
    have hpT : (T.pre 1).length ≤ 1000000 := by rw [MT.pre_length]; omega
    have hpD : (D.pre 1).length ≤ 1000000 := by rw [MT.pre_length]; omega
    have hn3 := HN.out.later hb3
    have hi3 := HI.out.later hb3
    have hT3 := HT.out.later hb3
    have hD3 := HD.out.later hb3
    have hG3 := HG.out.later hb3
    by_cases hx : orF (checkF n T) (icheckF n i) = 0
    · obtain ⟨hcT, hci⟩ := orF_zero.1 hx
      obtain ⟨hok, z1, z256, zc, zr, zi, hls⟩ := icheck_zero hci
      obtain ⟨m, hm⟩ : ∃ m : Nat, i.size = m := ⟨i.size.toNat, by omega⟩
      have hwT : T.tr.wfT i.C.length i.R.length = true := wf_of_check hcT zc zr
      have hel := iElements_ok n T i m w3 hG3 hn3 hT3 hi3 hm hpT hcT hci hwT (by omega) (by omega) hls (by omega) (by omega) (by omega)
      rw [selR_els (by omega) (semT_lt i m hm hls T hwT)] at hel
      have hre := fun w' (hb : Below W4.heap.size W4 w') => rElements_any i m hm (by omega) hls T w' (HI.out.later hb) (HT.out.later hb) hwT
      obtain ⟨L, hL⟩ : ∃ L, selR (semT i m T.tr) m = L := ⟨_, rfl⟩
      rw [hL] at hel hre
      have HRE := Lib.hid hre
      have HEL := Lib.hid hel
      by_cases hz : orF (checkF n T) (orF (checkF n D) (icheckF n i)) = 0
      · obtain ⟨-, hz'⟩ := orF_zero.1 hz
        obtain ⟨hcD, -⟩ := orF_zero.1 hz'
        have hwD : D.tr.wfT i.C.length i.R.length = true := wf_of_check hcD zc zr
        have hic := fun w' (hb : Below W4.heap.size W4 w') => iIncluded_ok n T D i m w' (HG.out.later hb) (HN.out.later hb) (HT.out.later hb) (HD.out.later hb) (HI.out.later hb) hm hpT hpD hcT hcD hci hwT hwD (by omega) (by omega) hls (by omega) (by omega) (by omega)
        have hri := fun w' (hb : Below W4.heap.size W4 w') => rIncluded_any i m hm (by omega) hls T D w' (HI.out.later hb) (HT.out.later hb) (HD.out.later hb) hwT hwD
        obtain ⟨t, ht⟩ : ∃ t, subB (semT i m T.tr) (semT i m D.tr) = t := ⟨_, rfl⟩
        rw [ht] at hic hri
        rw [hx] at HF1'
        rw [hz] at HF2'
        have HIC := Lib.hid hic
        have HRI := Lib.hid hri
        simp only [NM.val, IN.val, MT.val] at HEL HRE HIC HRI
        clear hel hre hic hri hx hz hz' hcT hcD hci hok z1 z256 zc zr zi hls hm hwT hwD hL ht hn3 hi3 hT3 hD3 hG3 hpT hpD hzT hzD hbf hbf' hl h100 hb3'
        go_wp2_with (first
          | (go_at_call 23; refine (HAW.out w12 hb12).mono ?_; rintro e w13 ⟨rfl, hb13'⟩; have hb13 : Below W4.heap.size W4 w13 := hb12.trans (hb13'.mono hb12.size); have hb4_13 : Below w4.heap.size w4 w13 := hb4_12.trans (hb13'.mono hb4_12.size); have hb7_13 : Below w7.heap.size w7 w13 := hb7_12.trans (hb13'.mono hb7_12.size))
          | (go_at_call 25; refine (HF2'.out w11 hb11).mono ?_; rintro e w12 ⟨rfl, hb12'⟩; have hb12 : Below W4.heap.size W4 w12 := hb11.trans (hb12'.mono hb11.size); have hb4_12 : Below w4.heap.size w4 w12 := hb4_11.trans (hb12'.mono hb4_11.size); have hb7_12 : Below w7.heap.size w7 w12 := hb7_11.trans (hb12'.mono hb7_11.size))
          | (go_at_call 34; refine (SameIntsL_any ⟨A4, k4, L⟩ s7 w10 (HI4.out.below hb4_10.size hb4_10) (HI7.out.below hb7_10.size hb7_10) HS7.out.symm).mono ?_; rintro e w11 ⟨rfl, hb11'⟩; have hb11 : Below W4.heap.size W4 w11 := hb10.trans (hb11'.mono hb10.size); have hb4_11 : Below w4.heap.size w4 w11 := hb4_10.trans (hb11'.mono hb4_10.size); have hb7_11 : Below w7.heap.size w7 w11 := hb7_10.trans (hb11'.mono hb7_10.size); obtain ⟨⟨k0, k1, k2⟩, ⟨k3, k4, k5⟩, ⟨k6, k7, k8⟩, k9, ka, kb, kc⟩ := HS.out w11 hb11)
          | (go_at_call 25; refine (HF1'.out w9 hb9).mono ?_; rintro e w10 ⟨rfl, hb10'⟩; have hb10 : Below W4.heap.size W4 w10 := hb9.trans (hb10'.mono hb9.size); have hb4_10 : Below w4.heap.size w4 w10 := hb4_9.trans (hb10'.mono hb4_9.size); have hb7_10 : Below w7.heap.size w7 w10 := hb7_9.trans (hb10'.mono hb7_9.size))
          | (go_at_call 33; refine (HRI.out w8 hb8).mono ?_; rintro e w9 ⟨rfl, hb9'⟩; have hb9 : Below W4.heap.size W4 w9 := hb8.trans (hb9'.mono hb8.size); have hb4_9 : Below w4.heap.size w4 w9 := hb4_8.trans (hb9'.mono hb4_8.size); have hb7_9 : Below w7.heap.size w7 w9 := hb7_8.trans (hb9'.mono hb7_8.size); obtain ⟨⟨j0, j1, j2⟩, ⟨j3, j4, j5⟩, ⟨j6, j7, j8⟩, j9, ja, jb, jc⟩ := HS.out w9 hb9)
          | (go_at_call 25; refine (HF2'.out w7 hb7).mono ?_; rintro e w8 ⟨rfl, hb8'⟩; have hb8 : Below W4.heap.size W4 w8 := hb7.trans (hb8'.mono hb7.size); have hb4_8 : Below w4.heap.size w4 w8 := hb4_7.trans (hb8'.mono hb4_7.size); have hb7_8 : Below w7.heap.size w7 w8 := hb7_7.trans (hb8'.mono hb7_7.size); obtain ⟨⟨h0, h1, h2⟩, ⟨h3, h4, h5⟩, ⟨h6, h7, h8⟩, h9, ha, hb, hc⟩ := HS.out w8 hb8)
          | (go_at_call 32; refine (HRE.out w6 hb6).mono ?_; rintro e w7 ⟨s7, rfl, hs7, hin7, hb7'⟩; have hb7 : Below W4.heap.size W4 w7 := hb6.trans (hb7'.mono hb6.size); have hb4_7 : Below w4.heap.size w4 w7 := hb4_6.trans (hb7'.mono hb4_6.size); obtain ⟨⟨g0, g1, g2⟩, ⟨g3, g4, g5⟩, ⟨g6, g7, g8⟩, g9, ga, gb, gc⟩ := HS.out w7 hb7; have HS7 := Lib.hid hs7; have HI7 := Lib.hid hin7; clear hs7 hin7; have hb7_7 := Below.refl w7.heap.size w7)
          | (go_at_call 25; refine (HF1'.out w5 hb5).mono ?_; rintro e w6 ⟨rfl, hb6'⟩; have hb6 : Below W4.heap.size W4 w6 := hb5.trans (hb6'.mono hb5.size); have hb4_6 : Below w4.heap.size w4 w6 := hb4_5.trans (hb6'.mono hb4_5.size); obtain ⟨⟨f0, f1, f2⟩, ⟨f3, f4, f5⟩, ⟨f6, f7, f8⟩, f9, fa, fb, fc⟩ := HS.out w6 hb6)
          | (go_at_call 31; refine (HIC.out w4 hb4).mono ?_; rintro e w5 ⟨rfl, hb5'⟩; have hb5 : Below W4.heap.size W4 w5 := hb4.trans (hb5'.mono hb4.size); have hb4_5 : Below w4.heap.size w4 w5 := hb4_4.trans (hb5'.mono hb4_4.size); obtain ⟨⟨e0, e1, e2⟩, ⟨e3, e4, e5⟩, ⟨e6, e7, e8⟩, e9, ea, eb, ec⟩ := HS.out w5 hb5)
          | (go_at_call 30; refine (HEL.out).mono ?_; rintro e w4 ⟨vp, rfl, hop, hb4'⟩; have hb4 : Below W4.heap.size W4 w4 := hb3.trans (hb4'.mono hb3.size); obtain ⟨⟨d0, d1, d2⟩, ⟨d3, d4, d5⟩, ⟨d6, d7, d8⟩, d9, da, db, dc⟩ := HS.out w4 hb4; obtain ⟨A4, k4, hv4, hin4⟩ := il_of_owns hop; subst hv4; have HI4 := Lib.hid hin4; clear hin4 hop; have hb4_4 := Below.refl w4.heap.size w4))
        go_ret
        exact ⟨rfl, HB.out.trans (hb13.mono (by omega))⟩
      · have hic := fun w' (hb : Below W4.heap.size W4 w') => iIncluded_ck n T D i w' (HG.out.later hb) (HN.out.later hb) (HT.out.later hb) (HD.out.later hb) (HI.out.later hb) hpT hpD hz
        rw [hx] at HF1'
        obtain ⟨z, hze⟩ : ∃ z, orF (checkF n T) (orF (checkF n D) (icheckF n i)) = z := ⟨_, rfl⟩
        rw [hze] at hic HF2' hz
        have q0 : (z == 0) = false := by simpa using hz
        have HIC := Lib.hid hic
        simp only [NM.val, IN.val, MT.val] at HEL HRE HIC
        clear hel hre hic hx hz hze hcT hci hok z1 z256 zc zr zi hls hm hwT hL hn3 hi3 hT3 hD3 hG3 hpT hpD hzT hzD hbf hbf' hl h100 hb3'
        go_wp2_with (first
          | (go_at_call 23; refine (HAW.out w12 hb12).mono ?_; rintro e w13 ⟨rfl, hb13'⟩; have hb13 : Below W4.heap.size W4 w13 := hb12.trans (hb13'.mono hb12.size); have hb4_13 : Below w4.heap.size w4 w13 := hb4_12.trans (hb13'.mono hb4_12.size); have hb7_13 : Below w7.heap.size w7 w13 := hb7_12.trans (hb13'.mono hb7_12.size))
          | (go_at_call 25; refine (HF2'.out w11 hb11).mono ?_; rintro e w12 ⟨rfl, hb12'⟩; have hb12 : Below W4.heap.size W4 w12 := hb11.trans (hb12'.mono hb11.size); have hb4_12 : Below w4.heap.size w4 w12 := hb4_11.trans (hb12'.mono hb4_11.size); have hb7_12 : Below w7.heap.size w7 w12 := hb7_11.trans (hb12'.mono hb7_11.size))
          | (go_at_call 34; refine (SameIntsL_any ⟨A4, k4, L⟩ s7 w10 (HI4.out.below hb4_10.size hb4_10) (HI7.out.below hb7_10.size hb7_10) HS7.out.symm).mono ?_; rintro e w11 ⟨rfl, hb11'⟩; have hb11 : Below W4.heap.size W4 w11 := hb10.trans (hb11'.mono hb10.size); have hb4_11 : Below w4.heap.size w4 w11 := hb4_10.trans (hb11'.mono hb4_10.size); have hb7_11 : Below w7.heap.size w7 w11 := hb7_10.trans (hb11'.mono hb7_10.size); obtain ⟨⟨k0, k1, k2⟩, ⟨k3, k4, k5⟩, ⟨k6, k7, k8⟩, k9, ka, kb, kc⟩ := HS.out w11 hb11)
          | (go_at_call 25; refine (HF1'.out w8 hb8).mono ?_; rintro e w10 ⟨rfl, hb10'⟩; have hb10 : Below W4.heap.size W4 w10 := hb8.trans (hb10'.mono hb8.size); have hb4_10 : Below w4.heap.size w4 w10 := hb4_8.trans (hb10'.mono hb4_8.size); have hb7_10 : Below w7.heap.size w7 w10 := hb7_8.trans (hb10'.mono hb7_8.size))
          | (go_at_call 25; refine (HF2'.out w7 hb7).mono ?_; rintro e w8 ⟨rfl, hb8'⟩; have hb8 : Below W4.heap.size W4 w8 := hb7.trans (hb8'.mono hb7.size); have hb4_8 : Below w4.heap.size w4 w8 := hb4_7.trans (hb8'.mono hb4_7.size); have hb7_8 : Below w7.heap.size w7 w8 := hb7_7.trans (hb8'.mono hb7_7.size); obtain ⟨⟨h0, h1, h2⟩, ⟨h3, h4, h5⟩, ⟨h6, h7, h8⟩, h9, ha, hb, hc⟩ := HS.out w8 hb8)
          | (go_at_call 32; refine (HRE.out w6 hb6).mono ?_; rintro e w7 ⟨s7, rfl, hs7, hin7, hb7'⟩; have hb7 : Below W4.heap.size W4 w7 := hb6.trans (hb7'.mono hb6.size); have hb4_7 : Below w4.heap.size w4 w7 := hb4_6.trans (hb7'.mono hb4_6.size); obtain ⟨⟨g0, g1, g2⟩, ⟨g3, g4, g5⟩, ⟨g6, g7, g8⟩, g9, ga, gb, gc⟩ := HS.out w7 hb7; have HS7 := Lib.hid hs7; have HI7 := Lib.hid hin7; clear hs7 hin7; have hb7_7 := Below.refl w7.heap.size w7)
          | (go_at_call 25; refine (HF1'.out w5 hb5).mono ?_; rintro e w6 ⟨rfl, hb6'⟩; have hb6 : Below W4.heap.size W4 w6 := hb5.trans (hb6'.mono hb5.size); have hb4_6 : Below w4.heap.size w4 w6 := hb4_5.trans (hb6'.mono hb4_5.size); obtain ⟨⟨f0, f1, f2⟩, ⟨f3, f4, f5⟩, ⟨f6, f7, f8⟩, f9, fa, fb, fc⟩ := HS.out w6 hb6)
          | (go_at_call 31; refine (HIC.out w4 hb4).mono ?_; rintro e w5 ⟨rfl, hb5'⟩; have hb5 : Below W4.heap.size W4 w5 := hb4.trans (hb5'.mono hb4.size); have hb4_5 : Below w4.heap.size w4 w5 := hb4_4.trans (hb5'.mono hb4_4.size); obtain ⟨⟨e0, e1, e2⟩, ⟨e3, e4, e5⟩, ⟨e6, e7, e8⟩, e9, ea, eb, ec⟩ := HS.out w5 hb5)
          | (go_at_call 30; refine (HEL.out).mono ?_; rintro e w4 ⟨vp, rfl, hop, hb4'⟩; have hb4 : Below W4.heap.size W4 w4 := hb3.trans (hb4'.mono hb3.size); obtain ⟨⟨d0, d1, d2⟩, ⟨d3, d4, d5⟩, ⟨d6, d7, d8⟩, d9, da, db, dc⟩ := HS.out w4 hb4; obtain ⟨A4, k4, hv4, hin4⟩ := il_of_owns hop; subst hv4; have HI4 := Lib.hid hin4; clear hin4 hop; have hb4_4 := Below.refl w4.heap.size w4))
        go_ret
        exact ⟨rfl, HB.out.trans (hb13.mono (by omega))⟩
    · have hz : orF (checkF n T) (orF (checkF n D) (icheckF n i)) ≠ 0 := fun h => hx (orF_zero.2 ⟨(orF_zero.1 h).1, (orF_zero.1 (orF_zero.1 h).2).2⟩)
      have hel := iElements_ck n T i w3 hG3 hn3 hT3 hi3 hpT hx
      have hic := fun w' (hb : Below W4.heap.size W4 w') => iIncluded_ck n T D i w' (HG.out.later hb) (HN.out.later hb) (HT.out.later hb) (HD.out.later hb) (HI.out.later hb) hpT hpD hz
      obtain ⟨x, hxe⟩ : ∃ x, orF (checkF n T) (icheckF n i) = x := ⟨_, rfl⟩
      rw [hxe] at hel HF1' hx
      obtain ⟨z, hze⟩ : ∃ z, orF (checkF n T) (orF (checkF n D) (icheckF n i)) = z := ⟨_, rfl⟩
      rw [hze] at hic HF2' hz
      have q0 : (z == 0) = false := by simpa using hz
      have q1 : (x == 0) = false := by simpa using hx
      have HEL := Lib.hid hel
      have HIC := Lib.hid hic
      simp only [NM.val, IN.val, MT.val] at HEL HIC
      clear hel hic hx hz hxe hze hn3 hi3 hT3 hD3 hG3 hpT hpD hzT hzD hbf hbf' hl h100 hb3'
      go_wp2_with (first
        | (go_at_call 23; refine (HAW.out w12 hb12).mono ?_; rintro e w13 ⟨rfl, hb13'⟩; have hb13 : Below W4.heap.size W4 w13 := hb12.trans (hb13'.mono hb12.size))
        | (go_at_call 25; refine (HF2'.out w11 hb11).mono ?_; rintro e w12 ⟨rfl, hb12'⟩; have hb12 : Below W4.heap.size W4 w12 := hb11.trans (hb12'.mono hb11.size))
        | (go_at_call 34; refine (same_nilI w10).mono ?_; rintro e w11 ⟨rfl, hb11'⟩; have hb11 : Below W4.heap.size W4 w11 := hb10.trans (hb11'.mono hb10.size); obtain ⟨⟨k0, k1, k2⟩, ⟨k3, k4, k5⟩, ⟨k6, k7, k8⟩, k9, ka, kb, kc⟩ := HS.out w11 hb11)
        | (go_at_call 25; refine (HF1'.out w8 hb8).mono ?_; rintro e w10 ⟨rfl, hb10'⟩; have hb10 : Below W4.heap.size W4 w10 := hb8.trans (hb10'.mono hb8.size))
        | (go_at_call 25; refine (HF2'.out w6 hb6).mono ?_; rintro e w8 ⟨rfl, hb8'⟩; have hb8 : Below W4.heap.size W4 w8 := hb6.trans (hb8'.mono hb6.size); obtain ⟨⟨h0, h1, h2⟩, ⟨h3, h4, h5⟩, ⟨h6, h7, h8⟩, h9, ha, hb, hc⟩ := HS.out w8 hb8)
        | (go_at_call 25; refine (HF1'.out w5 hb5).mono ?_; rintro e w6 ⟨rfl, hb6'⟩; have hb6 : Below W4.heap.size W4 w6 := hb5.trans (hb6'.mono hb5.size); obtain ⟨⟨f0, f1, f2⟩, ⟨f3, f4, f5⟩, ⟨f6, f7, f8⟩, f9, fa, fb, fc⟩ := HS.out w6 hb6)
        | (go_at_call 31; refine (HIC.out w4 hb4).mono ?_; rintro e w5 ⟨rfl, hb5'⟩; have hb5 : Below W4.heap.size W4 w5 := hb4.trans (hb5'.mono hb4.size); obtain ⟨⟨e0, e1, e2⟩, ⟨e3, e4, e5⟩, ⟨e6, e7, e8⟩, e9, ea, eb, ec⟩ := HS.out w5 hb5)
        | (go_at_call 30; refine (HEL.out).mono ?_; rintro e w4 ⟨rfl, hb4'⟩; have hb4 : Below W4.heap.size W4 w4 := hb3.trans (hb4'.mono hb3.size); obtain ⟨⟨d0, d1, d2⟩, ⟨d3, d4, d5⟩, ⟨d6, d7, d8⟩, d9, da, db, dc⟩ := HS.out w4 hb4))
      go_ret
      exact ⟨rfl, HB.out.trans (hb13.mono (by omega))⟩
end Go.Proofs.YtneegmhcmegijaaDoor
