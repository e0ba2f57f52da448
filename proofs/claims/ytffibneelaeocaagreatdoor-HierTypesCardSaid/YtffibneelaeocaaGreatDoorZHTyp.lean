import Derived.Test.YtffibneelaeocaaGreatDoorG1d4c3006f2
import Derived.Test.YtffibneelaeocaaGreatDoorG48b66c57ad
import Derived.Test.YtffibneelaeocaaGreatDoorG0b8ab37bc9
import Derived.Test.YtffibneelaeocaaGreatDoorG1e9d51794b
namespace Go.Proofs.YtffibneelaeocaaGreatDoor
open Go.RowKit
attribute [local go_sem ↓] Go.wp_at_zero Go.wp_at_succ

set_option maxRecDepth 100000 in
set_option maxHeartbeats 16000000 in
theorem HierTypes_any (b : BN) (mo : ML) (k : Int) (T : MT) (w : World) (hG : G w) (hGT : GT w) (hb : b.In w.heap.size w) (hmo : mo.In w.heap.size w) (hml : mo.l.length * 40 ≤ 140737488351232) (hT : T.In w.heap.size w) :
    Calls Tryz.prog 8 #[b.val, .slice mo.A mo.l.length mo.c, .int .i64 k, T.val] w fun e w' => e = .returned (.bool true) ∧ Below w.heap.size w w' := by
  obtain ⟨W1, hW1, hB1, hs1, hk1⟩ := newBlk w _ rfl #[.slice b.N.C.A b.N.C.l.length b.N.C.c, .slice b.N.R.A b.N.R.l.length b.N.R.c, .slice b.N.I.A b.N.I.l.length b.N.I.c, .slice b.IA b.I.length b.ic, .slice b.R.A b.R.l.length b.R.c, .slice b.FA b.F.length b.fc, .slice b.L.A b.L.l.length b.L.c] 30
  obtain ⟨W2, hW2, hB2, hs2, hk2⟩ := newBlk W1 _ hs1 #[.int .i64 T.op, .int .i64 T.n, .slice T.A T.args.length T.c] 33
  have hB : Below w.heap.size w W2 := hB1.trans (hB2.mono (by omega))
  have hkk1 := (hB2.block w.heap.size (by omega)).trans hk1
  have hS : ∀ w', Below W2.heap.size W2 w' → BBox w' w.heap.size b ∧ (w'.cell? ⟨w.heap.size + 1, 0, none⟩ = some (.int .i64 T.op) ∧ w'.cell? ⟨w.heap.size + 1, 1, none⟩ = some (.int .i64 T.n) ∧ w'.cell? ⟨w.heap.size + 1, 2, none⟩ = some (.slice T.A T.args.length T.c)) := fun w' h => ⟨bbox_of (b := b) (blk_lat hkk1 h), (res3 (blk_lat hk2 h)).1⟩
  have hb2 := hb.later hB
  have hT2 := hT.later hB
  have hm2 := hmo.later hB
  have hG2 := hG.later hB
  have hGT2 := hGT.later hB
  have haw := fun w' (h : Below W2.heap.size W2 w') => awake5_any w' (hG2.later h) (hGT2.later h)
  have hfw := fun (m : ML) w' (h : Below W2.heap.size W2 w') (hm : m.In w'.heap.size w') => few5_any b m w' (hb2.later h) hm
  have hrow : ∀ w', Below W2.heap.size W2 w' → RowAt w' w'.heap.size 3 mo.A mo.l.length (mo.l.flatMap MT.cs) := fun w' h => (hm2.later h).2.2.2.1
  have hls : ∀ w', Below W2.heap.size W2 w' → T.In w'.heap.size w' ∧ ∀ x ∈ mo.l, x.In w'.heap.size w' := fun w' h => ⟨hT2.later h, (hm2.later h).2.2.2.2⟩
  have hnil := hm2.2.2.1
  have hd : Below W2.heap.size W2 W2.drew := (Below.refl _ _).drew
  obtain ⟨i0, hi0, hz0, hz1, hz2⟩ := info_parts con_info
  have HB := Lib.hid hB
  have HS := Lib.hid hS
  have HAW := Lib.hid haw
  have HFW := Lib.hid hfw
  have HRW := Lib.hid hrow
  have HLS := Lib.hid hls
  have HD := Lib.hid (And.intro hb2 (And.intro hT2 (And.intro hm2 (And.intro hG2 hGT2))))
  obtain ⟨⟨c0, c1, c2, c3, c4, c5, c6⟩, c7, c8, c9⟩ := hS W2 (Below.refl _ _)
  simp only [BN.val, MT.val] at HFW ⊢
  have HS2 := Lib.hid hs2
  clear hs2 hB1 hB2 hk1 hk2 hkk1 hB hS haw hfw hrow hls hb2 hT2 hm2 hG2 hGT2 hb hmo hT hG hGT
  go_enter Tryz.func8, Tryz.ntmps8
  go_wp2_with fail
  clear c0 c1 c2 c3 c4 c5 c6 c7 c8 c9
  go_region_held_law (fun w' => (w'.cell? ⟨w.heap.size, 0, none⟩ = some (.slice b.N.C.A b.N.C.l.length b.N.C.c) ∧ w'.cell? ⟨w.heap.size, 1, none⟩ = some (.slice b.N.R.A b.N.R.l.length b.N.R.c) ∧ w'.cell? ⟨w.heap.size, 2, none⟩ = some (.slice b.N.I.A b.N.I.l.length b.N.I.c) ∧ w'.cell? ⟨w.heap.size, 3, none⟩ = some (.slice b.IA b.I.length b.ic) ∧ w'.cell? ⟨w.heap.size, 4, none⟩ = some (.slice b.R.A b.R.l.length b.R.c) ∧ w'.cell? ⟨w.heap.size, 5, none⟩ = some (.slice b.FA b.F.length b.fc) ∧ w'.cell? ⟨w.heap.size, 6, none⟩ = some (.slice b.L.A b.L.l.length b.L.c)) ∧ (w'.cell? ⟨w.heap.size + 1, 0, none⟩ = some (.int .i64 T.op) ∧ w'.cell? ⟨w.heap.size + 1, 1, none⟩ = some (.int .i64 T.n) ∧ w'.cell? ⟨w.heap.size + 1, 2, none⟩ = some (.slice T.A T.args.length T.c)))
    (first | exact HS.out _ hd | exact HS.out _ (hd.alloc hd.size _) | exact HS.out _ hb4 | exact HS.out _ hb5)
    (first
      | (go_at_call 25; refine (HFW.out ⟨A4, k4, T :: mo.l⟩ w4 hb4 HM4.out).mono ?_; rintro e w5 ⟨⟨x, rfl, hx⟩, hb5'⟩; have hb5 : Below W2.heap.size W2 w5 := hb4.trans (hb5'.mono hb4.size))
      | (refine step_append_row _ (by rfl) _ _ _ (by rfl) W2.heap.size 33 i0 _ 3 40 Tryz.underlying31 hi0 hz0 hz1 hz2 rfl (by omega) (.slice (some ⟨W2.heap.size, 0, none⟩) 1 1) 1 (MT.cs T) (by rfl) (own_one (heap_alloc_new W2.drew _) (Nat.le_refl _)) _ mo.A mo.l.length mo.c _ (by rfl) hnil (HRW.out _ (hd.alloc hd.size _)) (cs_one _) (by unfold maxLen; omega) (by omega) (by simp) ?_; intro v4 w4 hown4 hg4 hat4; have hb4 : Below W2.heap.size W2 w4 := (hd.alloc hd.size _).grown hg4 (by simp) (fun k e => by cases e; exact Nat.le_refl _); obtain ⟨A4, k4, hv4, hm4⟩ := ml_cons_owns hown4 (HLS.out w4 hb4).1 (HLS.out w4 hb4).2; subst hv4; have HM4 := Lib.hid hm4; clear hm4 hown4 hat4))
  cases x
  · go_wp2_with (go_at_call 26; refine (HAW.out w5 hb5).mono ?_; rintro e w6 ⟨rfl, hb6⟩)
    go_ret
    exact ⟨rfl, HB.out.trans ((hb5.trans (hb6.mono hb5.size)).mono HB.out.size)⟩
  obtain ⟨q1, q2, q3, q4, q5, q6, q7, q8⟩ := hx rfl
  have hl := few_lens5 q1
  obtain ⟨d1, d2, d3, d4, d5⟩ := HD.out
  have hlm : mo.l.length ≤ 5 := by simp only [List.length_cons] at q7; omega
  have hTs : T.tr.size ≤ 500 := q8 T (by simp)
  have hin : ∀ w', Below W2.heap.size W2 w' → HIn b mo w' := fun w' h => ⟨d4.later h, d5.later h, d1.later h, d3.later h, by omega, by omega, by omega, by omega, by omega, fun x hx => Nat.le_trans (q6 x hx) (by decide), fun x hx => Nat.le_trans (q8 x (by simp [hx])) (by decide), by omega⟩
  have ht := fun (P : MT) w' (h : Below W2.heap.size W2 w') (hP : P.In w'.heap.size w') (hs : P.tr.size ≤ 1000000) => hTrue_any b mo k P w' (hin w' h) hP hs
  have hno := fun w' (h : Below W2.heap.size W2 w') => Normal_any b.N T w' (d4.later h) (d1.later h).n (d2.later h) (by omega)
  have hnt := fun w' (h : Below W2.heap.size W2 w') => Not_any b.N T w' (d4.later h) (d1.later h).n (d2.later h) (by omega)
  have hnz := fun a => nnf_size T.tr a
  have HTT := Lib.hid (fun w' (h : Below W2.heap.size W2 w') => ht T w' h (d2.later h) (by omega))
  have HT := Lib.hid ht
  have HNO := Lib.hid hno
  have HNT := Lib.hid hnt
  have HNZ := Lib.hid hnz
  simp only [BN.val, NM.val, MT.val] at HTT HT HNO HNT
  clear hx q1 q2 q3 q4 q5 q6 q7 q8 hl d1 d2 d3 d4 d5 hin ht hno hnt hnz hnil hml hg4 hd hb5' hi0 hz0 hz1 hz2
  obtain ⟨⟨c0, c1, c2, c3, c4, c5, c6⟩, c7, c8, c9⟩ := HS.out w5 hb5
  by_cases h0 : htE b mo.l k T = 0
  · obtain ⟨xv, hxv⟩ : ∃ x, htV b mo.l k T = x := ⟨_, rfl⟩
    have hT0 : ∀ w', Below W2.heap.size W2 w' → Calls Tryz.prog 35 #[.agg #[.slice b.N.C.A b.N.C.l.length b.N.C.c, .slice b.N.R.A b.N.R.l.length b.N.R.c, .slice b.N.I.A b.N.I.l.length b.N.I.c, .slice b.IA b.I.length b.ic, .slice b.R.A b.R.l.length b.R.c, .slice b.FA b.F.length b.fc, .slice b.L.A b.L.l.length b.L.c], .slice mo.A mo.l.length mo.c, .int .i64 k, .agg #[.int .i64 T.op, .int .i64 T.n, .slice T.A T.args.length T.c]] w' fun e w'' => e = .returned (.tuple #[.bool xv, .int .i64 0]) ∧ Below w'.heap.size w' w'' := fun w' h => by
      have t := HTT.out w' h
      unfold RetHT at t
      rw [h0, hxv] at t
      exact t
    have hTP : ∀ (P : MT) (a : Bool) w', Below W2.heap.size W2 w' → P.In w'.heap.size w' → P.tr = nnf T.tr a → smallB (nnf T.tr a) = true → Calls Tryz.prog 35 #[.agg #[.slice b.N.C.A b.N.C.l.length b.N.C.c, .slice b.N.R.A b.N.R.l.length b.N.R.c, .slice b.N.I.A b.N.I.l.length b.N.I.c, .slice b.IA b.I.length b.ic, .slice b.R.A b.R.l.length b.R.c, .slice b.FA b.F.length b.fc, .slice b.L.A b.L.l.length b.L.c], .slice mo.A mo.l.length mo.c, .int .i64 k, .agg #[.int .i64 P.op, .int .i64 P.n, .slice P.A P.args.length P.c]] w' fun e w'' => e = .returned (.tuple #[.bool (xv ^^ a), .int .i64 0]) ∧ Below w'.heap.size w' w'' := fun P a w' h hP hPt hs => by
      have hz := HNZ.out a
      have t := HT.out P w' h hP (by rw [hPt]; omega)
      obtain ⟨r1, r2⟩ := ht_nnf h0 hPt hs
      unfold RetHT at t
      rw [r1, r2, hxv] at t
      exact t
    have N1 := ht_norm false h0
    have N2 := ht_norm true h0
    have HT0 := Lib.hid hT0
    have HTP := Lib.hid hTP
    clear hT0 hTP h0 hxv HTT HT
    rcases N1 with ⟨s1, n1, n2⟩ | ⟨n1, n2⟩ <;> rcases N2 with ⟨s2, m1, m2⟩ | ⟨m1, m2⟩ <;> rw [n1, n2] at HNO <;> rw [m1, m2] at HNT <;> clear n1 n2 m1 m2
    · cases xv
      all_goals go_wp2_with (first
        | (go_at_call 26; refine (HAW.out w10 hb10).mono ?_; rintro e w11 ⟨rfl, hb11'⟩)
        | (have _k := tokP; go_at_call 35; refine (HTP.out R true w9 hb9 (HRI.out.later hb9') HRT.out s2).mono ?_; rintro e w10 ⟨rfl, hb10'⟩; have hb10 := hb9.trans (hb10'.mono hb9.size))
        | (go_at_call 35; refine (HTP.out P false Wr hbr (HPI.out.later hpr) HPT.out s1).mono ?_; rintro e w9 ⟨rfl, hb9'⟩; have hb9 := hbr.trans (hb9'.mono hbr.size); clear c0 c1 c2 c3 c4 c5 c6 c7 c8 c9 y0 y1 y2; obtain ⟨⟨c0, c1, c2, c3, c4, c5, c6⟩, c7, c8, c9⟩ := HS.out w9 hb9; obtain ⟨y0, y1, y2⟩ := (res3 (blk_lat0 HKR.out hb9')).1; have tokP := True.intro)
        | (go_at_call 46; refine (HNT.out Wp hbp).mono ?_; rintro e w8 ⟨R, rfl, hRt, hRn, hb8'⟩; have hb8 := hbp.trans (hb8'.mono hbp.size); obtain ⟨Wr, hWr, hBr, hsr, hkr⟩ := newBlk w8 _ rfl #[.int .i64 R.op, .int .i64 R.n, .slice R.A R.args.length R.c] 33; have hbr := hb8.trans (hBr.mono hb8.size); have hpr := hb8'.trans (hBr.mono hb8'.size); have hRi := hRn.1.later hBr; have HRT := Lib.hid hRt; have HRI := Lib.hid hRi; have HKR := Lib.hid hkr; clear hRn hRi hRt hkr c0 c1 c2 c3 c4 c5 c6 c7 c8 c9; obtain ⟨⟨c0, c1, c2, c3, c4, c5, c6⟩, c7, c8, c9⟩ := HS.out Wr hbr; obtain ⟨x0, x1, x2⟩ := (res3 (blk_lat0 HKP.out hpr)).1; obtain ⟨y0, y1, y2⟩ := (res3 HKR.out).1)
        | (go_at_call 45; refine (HNO.out w6 hb6).mono ?_; rintro e w7 ⟨P, rfl, hPt, hPn, hb7'⟩; have hb7 := hb6.trans (hb7'.mono hb6.size); obtain ⟨Wp, hWp, hBp, hsp, hkp⟩ := newBlk w7 _ rfl #[.int .i64 P.op, .int .i64 P.n, .slice P.A P.args.length P.c] 33; have hbp := hb7.trans (hBp.mono hb7.size); have hPi := hPn.1.later hBp; have HPT := Lib.hid hPt; have HPI := Lib.hid hPi; have HKP := Lib.hid hkp; clear hPn hPi hPt hkp c0 c1 c2 c3 c4 c5 c6 c7 c8 c9; obtain ⟨⟨c0, c1, c2, c3, c4, c5, c6⟩, c7, c8, c9⟩ := HS.out Wp hbp)
        | (go_at_call 35; refine (HT0.out w5 hb5).mono ?_; rintro e w6 ⟨rfl, hb6'⟩; have hb6 : Below W2.heap.size W2 w6 := hb5.trans (hb6'.mono hb5.size); clear c0 c1 c2 c3 c4 c5 c6 c7 c8 c9; obtain ⟨⟨c0, c1, c2, c3, c4, c5, c6⟩, c7, c8, c9⟩ := HS.out w6 hb6))
      all_goals go_ret
      all_goals exact ⟨rfl, HB.out.trans ((hb10.trans (hb11'.mono hb10.size)).mono HB.out.size)⟩
    · cases xv
      all_goals go_wp2_with (first
        | (go_at_call 26; refine (HAW.out w9 hb9).mono ?_; rintro e w11 ⟨rfl, hb11'⟩)
        | (go_at_call 35; refine (HTP.out P false Wr hbr (HPI.out.later hpr) HPT.out s1).mono ?_; rintro e w9 ⟨rfl, hb9'⟩; have hb9 := hbr.trans (hb9'.mono hbr.size); clear c0 c1 c2 c3 c4 c5 c6 c7 c8 c9 y0 y1 y2; obtain ⟨⟨c0, c1, c2, c3, c4, c5, c6⟩, c7, c8, c9⟩ := HS.out w9 hb9; obtain ⟨y0, y1, y2⟩ := (res3 (blk_lat0 HKR.out hb9')).1; have tokP := True.intro)
        | (go_at_call 46; refine (HNT.out Wp hbp).mono ?_; rintro e w8 ⟨R, rfl, hRt, hRn, hb8'⟩; have hb8 := hbp.trans (hb8'.mono hbp.size); obtain ⟨Wr, hWr, hBr, hsr, hkr⟩ := newBlk w8 _ rfl #[.int .i64 R.op, .int .i64 R.n, .slice R.A R.args.length R.c] 33; have hbr := hb8.trans (hBr.mono hb8.size); have hpr := hb8'.trans (hBr.mono hb8'.size); have hRi := hRn.1.later hBr; have HRT := Lib.hid hRt; have HRI := Lib.hid hRi; have HKR := Lib.hid hkr; clear hRn hRi hRt hkr c0 c1 c2 c3 c4 c5 c6 c7 c8 c9; obtain ⟨⟨c0, c1, c2, c3, c4, c5, c6⟩, c7, c8, c9⟩ := HS.out Wr hbr; obtain ⟨x0, x1, x2⟩ := (res3 (blk_lat0 HKP.out hpr)).1; obtain ⟨y0, y1, y2⟩ := (res3 HKR.out).1)
        | (go_at_call 45; refine (HNO.out w6 hb6).mono ?_; rintro e w7 ⟨P, rfl, hPt, hPn, hb7'⟩; have hb7 := hb6.trans (hb7'.mono hb6.size); obtain ⟨Wp, hWp, hBp, hsp, hkp⟩ := newBlk w7 _ rfl #[.int .i64 P.op, .int .i64 P.n, .slice P.A P.args.length P.c] 33; have hbp := hb7.trans (hBp.mono hb7.size); have hPi := hPn.1.later hBp; have HPT := Lib.hid hPt; have HPI := Lib.hid hPi; have HKP := Lib.hid hkp; clear hPn hPi hPt hkp c0 c1 c2 c3 c4 c5 c6 c7 c8 c9; obtain ⟨⟨c0, c1, c2, c3, c4, c5, c6⟩, c7, c8, c9⟩ := HS.out Wp hbp)
        | (go_at_call 35; refine (HT0.out w5 hb5).mono ?_; rintro e w6 ⟨rfl, hb6'⟩; have hb6 : Below W2.heap.size W2 w6 := hb5.trans (hb6'.mono hb5.size); clear c0 c1 c2 c3 c4 c5 c6 c7 c8 c9; obtain ⟨⟨c0, c1, c2, c3, c4, c5, c6⟩, c7, c8, c9⟩ := HS.out w6 hb6))
      all_goals go_ret
      all_goals exact ⟨rfl, HB.out.trans ((hb9.trans (hb11'.mono hb9.size)).mono HB.out.size)⟩
    · cases xv
      all_goals go_wp2_with (first
        | (go_at_call 26; refine (HAW.out w10 hb10).mono ?_; rintro e w11 ⟨rfl, hb11'⟩)
        | (have _k := x0; go_at_call 35; refine (HTP.out R true Wr hbr (HRI.out.later (Below.refl _ _)) HRT.out s2).mono ?_; rintro e w10 ⟨rfl, hb10'⟩; have hb10 := hbr.trans (hb10'.mono hbr.size))
        | (go_at_call 46; refine (HNT.out Wp hbp).mono ?_; rintro e w8 ⟨R, rfl, hRt, hRn, hb8'⟩; have hb8 := hbp.trans (hb8'.mono hbp.size); obtain ⟨Wr, hWr, hBr, hsr, hkr⟩ := newBlk w8 _ rfl #[.int .i64 R.op, .int .i64 R.n, .slice R.A R.args.length R.c] 33; have hbr := hb8.trans (hBr.mono hb8.size); have hpr := hb8'.trans (hBr.mono hb8'.size); have hRi := hRn.1.later hBr; have HRT := Lib.hid hRt; have HRI := Lib.hid hRi; have HKR := Lib.hid hkr; clear hRn hRi hRt hkr c0 c1 c2 c3 c4 c5 c6 c7 c8 c9; obtain ⟨⟨c0, c1, c2, c3, c4, c5, c6⟩, c7, c8, c9⟩ := HS.out Wr hbr; obtain ⟨x0, x1, x2⟩ := (res3 (blk_lat0 HKP.out hpr)).1; obtain ⟨y0, y1, y2⟩ := (res3 HKR.out).1)
        | (go_at_call 45; refine (HNO.out w6 hb6).mono ?_; rintro e w7 ⟨P, rfl, hPt, hPn, hb7'⟩; have hb7 := hb6.trans (hb7'.mono hb6.size); obtain ⟨Wp, hWp, hBp, hsp, hkp⟩ := newBlk w7 _ rfl #[.int .i64 P.op, .int .i64 P.n, .slice P.A P.args.length P.c] 33; have hbp := hb7.trans (hBp.mono hb7.size); have hPi := hPn.1.later hBp; have HPT := Lib.hid hPt; have HPI := Lib.hid hPi; have HKP := Lib.hid hkp; clear hPn hPi hPt hkp c0 c1 c2 c3 c4 c5 c6 c7 c8 c9; obtain ⟨⟨c0, c1, c2, c3, c4, c5, c6⟩, c7, c8, c9⟩ := HS.out Wp hbp)
        | (go_at_call 35; refine (HT0.out w5 hb5).mono ?_; rintro e w6 ⟨rfl, hb6'⟩; have hb6 : Below W2.heap.size W2 w6 := hb5.trans (hb6'.mono hb5.size); clear c0 c1 c2 c3 c4 c5 c6 c7 c8 c9; obtain ⟨⟨c0, c1, c2, c3, c4, c5, c6⟩, c7, c8, c9⟩ := HS.out w6 hb6))
      all_goals go_ret
      all_goals exact ⟨rfl, HB.out.trans ((hb10.trans (hb11'.mono hb10.size)).mono HB.out.size)⟩
    · cases xv
      all_goals go_wp2_with (first
        | (go_at_call 26; refine (HAW.out Wr hbr).mono ?_; rintro e w11 ⟨rfl, hb11'⟩)
        | (go_at_call 46; refine (HNT.out Wp hbp).mono ?_; rintro e w8 ⟨R, rfl, hRt, hRn, hb8'⟩; have hb8 := hbp.trans (hb8'.mono hbp.size); obtain ⟨Wr, hWr, hBr, hsr, hkr⟩ := newBlk w8 _ rfl #[.int .i64 R.op, .int .i64 R.n, .slice R.A R.args.length R.c] 33; have hbr := hb8.trans (hBr.mono hb8.size); have hpr := hb8'.trans (hBr.mono hb8'.size); have hRi := hRn.1.later hBr; have HRT := Lib.hid hRt; have HRI := Lib.hid hRi; have HKR := Lib.hid hkr; clear hRn hRi hRt hkr c0 c1 c2 c3 c4 c5 c6 c7 c8 c9; obtain ⟨⟨c0, c1, c2, c3, c4, c5, c6⟩, c7, c8, c9⟩ := HS.out Wr hbr; obtain ⟨x0, x1, x2⟩ := (res3 (blk_lat0 HKP.out hpr)).1; obtain ⟨y0, y1, y2⟩ := (res3 HKR.out).1)
        | (go_at_call 45; refine (HNO.out w6 hb6).mono ?_; rintro e w7 ⟨P, rfl, hPt, hPn, hb7'⟩; have hb7 := hb6.trans (hb7'.mono hb6.size); obtain ⟨Wp, hWp, hBp, hsp, hkp⟩ := newBlk w7 _ rfl #[.int .i64 P.op, .int .i64 P.n, .slice P.A P.args.length P.c] 33; have hbp := hb7.trans (hBp.mono hb7.size); have hPi := hPn.1.later hBp; have HPT := Lib.hid hPt; have HPI := Lib.hid hPi; have HKP := Lib.hid hkp; clear hPn hPi hPt hkp c0 c1 c2 c3 c4 c5 c6 c7 c8 c9; obtain ⟨⟨c0, c1, c2, c3, c4, c5, c6⟩, c7, c8, c9⟩ := HS.out Wp hbp)
        | (go_at_call 35; refine (HT0.out w5 hb5).mono ?_; rintro e w6 ⟨rfl, hb6'⟩; have hb6 : Below W2.heap.size W2 w6 := hb5.trans (hb6'.mono hb5.size); clear c0 c1 c2 c3 c4 c5 c6 c7 c8 c9; obtain ⟨⟨c0, c1, c2, c3, c4, c5, c6⟩, c7, c8, c9⟩ := HS.out w6 hb6))
      all_goals go_ret
      all_goals exact ⟨rfl, HB.out.trans ((hbr.trans (hb11'.mono hbr.size)).mono HB.out.size)⟩
  · have hT0 : ∀ w', Below W2.heap.size W2 w' → _ := fun w' h => HTT.out w' h
    obtain ⟨xe, hxe⟩ : ∃ x, htE b mo.l k T = x := ⟨_, rfl⟩
    obtain ⟨xv, hxv⟩ : ∃ x, htV b mo.l k T = x := ⟨_, rfl⟩
    unfold RetHT at hT0
    rw [hxe, hxv] at hT0
    rw [hxe] at h0
    have HT0 := Lib.hid hT0
    have q1 : (xe != 0) = true := by simpa using h0
    clear hT0 h0 hxe hxv HTT HT HNO HNT
    go_wp2_with (first
        | (go_at_call 26; refine (HAW.out w6 hb6).mono ?_; rintro e w11 ⟨rfl, hb11'⟩)
        | (go_at_call 35; refine (HT0.out w5 hb5).mono ?_; rintro e w6 ⟨rfl, hb6'⟩; have hb6 : Below W2.heap.size W2 w6 := hb5.trans (hb6'.mono hb5.size)))
    go_ret
    exact ⟨rfl, HB.out.trans ((hb6.trans (hb11'.mono hb6.size)).mono HB.out.size)⟩
end Go.Proofs.YtffibneelaeocaaGreatDoor
