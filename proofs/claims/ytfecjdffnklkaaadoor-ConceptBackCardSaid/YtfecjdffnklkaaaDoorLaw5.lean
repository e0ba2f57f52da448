import Derived.Test.YtfecjdffnklkaaaDoorPlain
namespace Go.Proofs.YtfecjdffnklkaaaDoor
open Go.RowKit

theorem thn {w a b : World} (h : Below w.heap.size w a) (k : Below a.heap.size a b) : Below w.heap.size w b := h.trans (k.mono h.size)

set_option maxRecDepth 100000 in
set_option maxHeartbeats 4000000 in
theorem ConceptBack_any (n : NM) (T : MT) (w : World) (hG : G w) (hn : n.In w.heap.size w) (hT : T.In w.heap.size w) :
    Calls Tryd.prog 7 #[n.val, T.val] w fun e w' => e = .returned (.bool true) ∧ Below w.heap.size w w' := by
  obtain ⟨W1, W2, hW1, hs1, hW2, hs2, hB, hcell⟩ := two_boxes n T w
  have hn2 := hn.later hB
  have hT2 := hT.later hB
  have hG2 := hG.later hB
  have hfe := FewNames_any n W2 hn2
  have hfi := fun w1 (hb : Below W2.heap.size W2 w1) => Fits_any T 3000 w1 (hT2.later hb) (by omega) (by omega)
  have haw := fun w1 (hb : Below W2.heap.size W2 w1) => awake_any w1 (hG2.later hb)
  obtain ⟨⟨a0, a1, a2⟩, b0, b1, b2⟩ := hcell W2 (Below.refl _ _)
  simp only [fits_size] at hfi
  simp only [NM.val, MT.val] at hfe hfi ⊢
  rcases hf : fewB n
  · rw [hf] at hfe
    clear hf
    go_enter Tryd.func7, Tryd.ntmps7
    go_wp2_with (first | (go_at_call 9; refine hfe.mono ?_; rintro e w1 ⟨rfl, hb01⟩) | (go_at_call 11; refine (haw _ hb01).mono ?_; rintro e w99 ⟨rfl, hb99⟩))
    go_ret
    exact ⟨rfl, hB.trans ((thn hb01 hb99).mono (by omega))⟩
  · have hl := few_lens hf
    rw [hf] at hfe
    by_cases hsz : (T.tr.size : Int) ≤ 3000
    · rw [decide_eq_true hsz] at hfi
      have hfa := fun w1 (hb : Below W2.heap.size W2 w1) => fault_any n T w1 (hn2.later hb) (hT2.later hb) (by omega) ⟨by omega, by omega, by omega⟩
      simp only [NM.val, MT.val] at hfa
      rcases hck : (checkT n T.tr == 0)
      · have hck' : (checkT n T.tr != 0) = true := by rw [bne, hck]; rfl
        clear hck
        go_enter Tryd.func7, Tryd.ntmps7
        go_wp2_with (first | (go_at_call 9; refine hfe.mono ?_; rintro e w1 ⟨rfl, hb01⟩; obtain ⟨⟨c0, c1, c2⟩, d0, d1, d2⟩ := hcell w1 hb01) | (go_at_call 10; refine (hfi _ hb01).mono ?_; rintro e w2 ⟨rfl, hb2⟩; have hb02 := thn hb01 hb2; obtain ⟨⟨c0, c1, c2⟩, d0, d1, d2⟩ := hcell w2 hb02) | (go_at_call 17; refine (hfa _ hb02).mono ?_; rintro e w3 ⟨rfl, hb3⟩; have hb03 := thn hb02 hb3; obtain ⟨⟨c0, c1, c2⟩, d0, d1, d2⟩ := hcell w3 hb03) | (go_at_call 11; refine (haw _ hb03).mono ?_; rintro e w99 ⟨rfl, hb99⟩))
        go_ret
        exact ⟨rfl, hB.trans ((thn hb03 hb99).mono (by omega))⟩
      · have hc0 : checkT n T.tr = 0 := by simpa using hck
        rw [hc0] at hfa
        obtain ⟨hok, hsm, hwf⟩ := check_wf hck
        have hsz400 : T.tr.size ≤ 400 := by
          simp only [smallB, Bool.and_eq_true, decide_eq_true_eq] at hsm; exact hsm.1
        obtain ⟨p1, p2⟩ := parse_str hck
        have hcF : checkF n T = 0 := by rw [checkF_eq]; exact hc0
        have hstr : strR n T = T.tr.str n.C.l n.R.l := by rw [strR, hcF]; rfl
        have hlen : (T.tr.str n.C.l n.R.l).length ≤ 30000 := by
          obtain ⟨m1, m2, -⟩ := ok_names hok
          have := str_length (m := 12) m1 m2 T.tr
          omega
        have hst : ∀ w1, Below W2.heap.size W2 w1 → Calls Tryd.prog 29 #[n.val, T.val] w1 fun e w' => e = .returned (.tuple #[.string (strOf (T.tr.str n.C.l n.R.l)), .int .i64 0]) ∧ Below w1.heap.size w1 w' := fun w1 hb => by
          have := cString_any n T w1 (hG2.later hb) (hn2.later hb) (hT2.later hb) (by omega)
          rw [hstr, hcF] at this
          exact this
        have hpa : ∀ w1, Below W2.heap.size W2 w1 → Calls Tryd.prog 31 #[n.val, .string (strOf (T.tr.str n.C.l n.R.l))] w1 (RetTreeE w1 T.tr 0) := fun w1 hb => by
          have := cParse_any n (strOf (T.tr.str n.C.l n.R.l)) w1 (hG2.later hb) (hn2.later hb) (by rw [← data_size, strOf_data]; unfold maxLen; omega)
          rw [strOf_data, p1, p2] at this
          exact this
        generalize strOf (T.tr.str n.C.l n.R.l) = s0 at hst hpa
        have hsa : ∀ (U V : MT) (w1 : World), U.In w1.heap.size w1 → V.In w1.heap.size w1 → U.tr = V.tr → Calls Tryd.prog 19 #[U.val, V.val] w1 fun e w' => e = .returned (.bool true) ∧ Below w1.heap.size w1 w' := fun U V w1 hU hV he => by
          have := rSame_any U V w1 hU hV
          rw [he, beq_self] at this
          exact this
        have hpl : ∀ (U : MT) (a : Bool) (w1 : World), U.In w1.heap.size w1 → U.tr = nnf T.tr a → Calls Tryd.prog 33 #[U.val] w1 fun e w' => e = .returned (.bool true) ∧ Below w1.heap.size w1 w' := fun U a w1 hU he => plain_true U w1 hU (by rw [he]; exact nnf_plain _ _ _ hwf a)
        have hnor : ∀ (U : MT) (w1 : World), Below W2.heap.size W2 w1 → U.In w1.heap.size w1 → U.tr.size ≤ 1000000 → Calls Tryd.prog 21 #[n.val, U.val] w1 (RetTreeE w1 (normTr n U false) (normE n U false)) := fun U w1 hb hU hs => Normal_any n U w1 (hG2.later hb) (hn2.later hb) hU hs
        have hnot : ∀ (U : MT) (w1 : World), Below W2.heap.size W2 w1 → U.In w1.heap.size w1 → U.tr.size ≤ 1000000 → Calls Tryd.prog 22 #[n.val, U.val] w1 (RetTreeE w1 (normTr n U true) (normE n U true)) := fun U w1 hb hU hs => Not_any n U w1 (hG2.later hb) (hn2.later hb) hU hs
        have hsize := fun a => nnf_size T.tr a
        rcases hsf : smallB (nnf T.tr false)
        · have hn0 : ∀ w1, Below W2.heap.size W2 w1 → Calls Tryd.prog 21 #[n.val, T.val] w1 (RetTreeE w1 zeroTr 2) := fun w1 hb => by
            have := hnor T w1 hb (hT2.later hb) (by omega)
            rw [(norm_none hck hsf).1, (norm_none hck hsf).2] at this
            exact this
          clear hnor hnot hpl hsize p1 p2 hstr hlen hcF hwf hsm hok hck hc0
          simp only [NM.val, MT.val] at hst hpa hsa hn0
          go_enter Tryd.func7, Tryd.ntmps7
          go_wp2_with (first | (go_at_call 9; refine hfe.mono ?_; rintro e w1 ⟨rfl, hb01⟩; obtain ⟨⟨c0, c1, c2⟩, d0, d1, d2⟩ := hcell w1 hb01) | (go_at_call 10; refine (hfi _ hb01).mono ?_; rintro e w2 ⟨rfl, hb2⟩; have hb02 := thn hb01 hb2; obtain ⟨⟨c0, c1, c2⟩, d0, d1, d2⟩ := hcell w2 hb02) | (go_at_call 17; refine (hfa _ hb02).mono ?_; rintro e w3 ⟨rfl, hb3⟩; have hb03 := thn hb02 hb3; obtain ⟨⟨c0, c1, c2⟩, d0, d1, d2⟩ := hcell w3 hb03) | (go_at_call 29; refine (hst _ hb03).mono ?_; rintro e w4 ⟨rfl, hb4⟩; have hb04 := thn hb03 hb4; obtain ⟨⟨c0, c1, c2⟩, d0, d1, d2⟩ := hcell w4 hb04) | (go_at_call 31; refine (hpa _ hb04).mono ?_; rintro e w5 ⟨D, rfl, htD, hnD, hb5⟩; have hb05 := thn hb04 hb5; obtain ⟨W6, hW6, hB6, hs6, hk6⟩ := (newBlk w5 _ rfl #[.int .i64 D.op, .int .i64 D.n, .slice D.A D.args.length D.c] 27); have hb06 := thn hb05 hB6; obtain ⟨⟨c0, c1, c2⟩, d0, d1, d2⟩ := hcell W6 hb06; obtain ⟨x0, x1, x2⟩ := box_cells hk6 (Below.refl _ W6)) | (go_at_call 19; first | (refine (hsa T D W6 (hT2.later hb06) (hnD.1.later hB6) htD.symm).mono ?_; rintro e w7 ⟨rfl, hb7⟩; have hb07 := thn hb06 hb7; obtain ⟨⟨c0, c1, c2⟩, d0, d1, d2⟩ := hcell w7 hb07)) | (go_at_call 21; first | (refine (hn0 w7 hb07).mono ?_; rintro e w8 ⟨X, rfl, htX, hnX, hb8⟩; have hb08 := thn hb07 hb8; obtain ⟨W9, hW9, hB9, hs9, hk9⟩ := (newBlk w8 _ rfl #[.int .i64 X.op, .int .i64 X.n, .slice X.A X.args.length X.c] 27); have hb09 := thn hb08 hB9; obtain ⟨⟨c0, c1, c2⟩, d0, d1, d2⟩ := hcell W9 hb09; obtain ⟨x0, x1, x2⟩ := box_cells hk9 (Below.refl _ W9))) | (go_at_call 11; refine (haw _ hb09).mono ?_; rintro e w99 ⟨rfl, hb99⟩))
          go_ret
          exact ⟨rfl, hB.trans ((thn hb09 hb99).mono (by omega))⟩
        · have hn0 : ∀ w1, Below W2.heap.size W2 w1 → Calls Tryd.prog 21 #[n.val, T.val] w1 (RetTreeE w1 (nnf T.tr false) 0) := fun w1 hb => by
            have := hnor T w1 hb (hT2.later hb) (by omega)
            rw [(norm_some hck hsf).1, (norm_some hck hsf).2] at this
            exact this
          have hn1 : ∀ (X : MT) w1, Below W2.heap.size W2 w1 → X.In w1.heap.size w1 → X.tr = nnf T.tr false → Calls Tryd.prog 21 #[n.val, X.val] w1 (RetTreeE w1 (nnf T.tr false) 0) := fun X w1 hb hX he => by
            have := hnor X w1 hb hX (by rw [he]; have := hsize false; omega)
            obtain ⟨r1, r2⟩ := norm_back (b := false) hck he hsf hsf
            rw [r1, r2] at this
            exact this
          rcases hst2 : smallB (nnf T.tr true)
          · have hm0 : ∀ w1, Below W2.heap.size W2 w1 → Calls Tryd.prog 22 #[n.val, T.val] w1 (RetTreeE w1 zeroTr 2) := fun w1 hb => by
              have := hnot T w1 hb (hT2.later hb) (by omega)
              rw [(norm_none hck hst2).1, (norm_none hck hst2).2] at this
              exact this
            clear hnor hnot hsize p1 p2 hstr hlen hcF hwf hsm hok hck hc0
            simp only [NM.val, MT.val] at hst hpa hsa hn0 hn1 hm0 hpl
            go_enter Tryd.func7, Tryd.ntmps7
            go_wp2_with (first | (go_at_call 9; refine hfe.mono ?_; rintro e w1 ⟨rfl, hb01⟩; obtain ⟨⟨c0, c1, c2⟩, d0, d1, d2⟩ := hcell w1 hb01) | (go_at_call 10; refine (hfi _ hb01).mono ?_; rintro e w2 ⟨rfl, hb2⟩; have hb02 := thn hb01 hb2; obtain ⟨⟨c0, c1, c2⟩, d0, d1, d2⟩ := hcell w2 hb02) | (go_at_call 17; refine (hfa _ hb02).mono ?_; rintro e w3 ⟨rfl, hb3⟩; have hb03 := thn hb02 hb3; obtain ⟨⟨c0, c1, c2⟩, d0, d1, d2⟩ := hcell w3 hb03) | (go_at_call 29; refine (hst _ hb03).mono ?_; rintro e w4 ⟨rfl, hb4⟩; have hb04 := thn hb03 hb4; obtain ⟨⟨c0, c1, c2⟩, d0, d1, d2⟩ := hcell w4 hb04) | (go_at_call 31; refine (hpa _ hb04).mono ?_; rintro e w5 ⟨D, rfl, htD, hnD, hb5⟩; have hb05 := thn hb04 hb5; obtain ⟨W6, hW6, hB6, hs6, hk6⟩ := (newBlk w5 _ rfl #[.int .i64 D.op, .int .i64 D.n, .slice D.A D.args.length D.c] 27); have hb06 := thn hb05 hB6; obtain ⟨⟨c0, c1, c2⟩, d0, d1, d2⟩ := hcell W6 hb06; obtain ⟨x0, x1, x2⟩ := box_cells hk6 (Below.refl _ W6)) | (go_at_call 19; first | (refine (hsa X Y W11 hX11 (hnY.1.later hB11) (htX.trans htY.symm)).mono ?_; rintro e w12 ⟨rfl, hb12⟩; have hb012 := thn hb011 hb12; have h912 := thn h911 hb12; obtain ⟨x0, x1, x2⟩ := box_cells hk9 h912; have hX12 := hX11.later hb12) | (refine (hsa T D W6 (hT2.later hb06) (hnD.1.later hB6) htD.symm).mono ?_; rintro e w7 ⟨rfl, hb7⟩; have hb07 := thn hb06 hb7; obtain ⟨⟨c0, c1, c2⟩, d0, d1, d2⟩ := hcell w7 hb07)) | (go_at_call 21; first | (refine (hn1 X W9 hb09 (hnX.1.later hB9) htX).mono ?_; rintro e w10 ⟨Y, rfl, htY, hnY, hb10⟩; have hb010 := thn hb09 hb10; obtain ⟨W11, hW11, hB11, hs11, hk11⟩ := (newBlk w10 _ rfl #[.int .i64 Y.op, .int .i64 Y.n, .slice Y.A Y.args.length Y.c] 27); have hb011 := thn hb010 hB11; obtain ⟨⟨c0, c1, c2⟩, d0, d1, d2⟩ := hcell W11 hb011; have h911 := thn hb10 hB11; obtain ⟨x0, x1, x2⟩ := box_cells hk9 h911; obtain ⟨y0, y1, y2⟩ := box_cells hk11 (Below.refl _ W11); have hX11 := (hnX.1.later hB9).later h911) | (refine (hn0 w7 hb07).mono ?_; rintro e w8 ⟨X, rfl, htX, hnX, hb8⟩; have hb08 := thn hb07 hb8; obtain ⟨W9, hW9, hB9, hs9, hk9⟩ := (newBlk w8 _ rfl #[.int .i64 X.op, .int .i64 X.n, .slice X.A X.args.length X.c] 27); have hb09 := thn hb08 hB9; obtain ⟨⟨c0, c1, c2⟩, d0, d1, d2⟩ := hcell W9 hb09; obtain ⟨x0, x1, x2⟩ := box_cells hk9 (Below.refl _ W9))) | (go_at_call 33; first | (refine (hpl X false w12 hX12 htX).mono ?_; rintro e w13 ⟨rfl, hb13⟩; have hb013 := thn hb012 hb13; obtain ⟨⟨c0, c1, c2⟩, d0, d1, d2⟩ := hcell w13 hb013)) | (go_at_call 22; first | (refine (hm0 w13 hb013).mono ?_; rintro e w14 ⟨Z, rfl, htZ, hnZ, hb14⟩; have hb014 := thn hb013 hb14; obtain ⟨W15, hW15, hB15, hs15, hk15⟩ := (newBlk w14 _ rfl #[.int .i64 Z.op, .int .i64 Z.n, .slice Z.A Z.args.length Z.c] 27); have hb015 := thn hb014 hB15; obtain ⟨⟨c0, c1, c2⟩, d0, d1, d2⟩ := hcell W15 hb015; obtain ⟨z0, z1, z2⟩ := box_cells hk15 (Below.refl _ W15))) | (go_at_call 11; refine (haw _ hb015).mono ?_; rintro e w99 ⟨rfl, hb99⟩))
            go_ret
            exact ⟨rfl, hB.trans ((thn hb015 hb99).mono (by omega))⟩
          · have hm0 : ∀ w1, Below W2.heap.size W2 w1 → Calls Tryd.prog 22 #[n.val, T.val] w1 (RetTreeE w1 (nnf T.tr true) 0) := fun w1 hb => by
              have := hnot T w1 hb (hT2.later hb) (by omega)
              rw [(norm_some hck hst2).1, (norm_some hck hst2).2] at this
              exact this
            have hm1 : ∀ (Z : MT) w1, Below W2.heap.size W2 w1 → Z.In w1.heap.size w1 → Z.tr = nnf T.tr true → Calls Tryd.prog 22 #[n.val, Z.val] w1 (RetTreeE w1 (nnf T.tr false) 0) := fun Z w1 hb hZ he => by
              have := hnot Z w1 hb hZ (by rw [he]; have := hsize true; omega)
              obtain ⟨r1, r2⟩ := norm_back (b := true) hck he hst2 hsf
              rw [r1, r2] at this
              exact this
            clear hnor hnot hsize p1 p2 hstr hlen hcF hwf hsm hok hck hc0
            simp only [NM.val, MT.val] at hst hpa hsa hn0 hn1 hm0 hm1 hpl
            go_enter Tryd.func7, Tryd.ntmps7
            go_wp2_with (first | (go_at_call 9; refine hfe.mono ?_; rintro e w1 ⟨rfl, hb01⟩; obtain ⟨⟨c0, c1, c2⟩, d0, d1, d2⟩ := hcell w1 hb01) | (go_at_call 10; refine (hfi _ hb01).mono ?_; rintro e w2 ⟨rfl, hb2⟩; have hb02 := thn hb01 hb2; obtain ⟨⟨c0, c1, c2⟩, d0, d1, d2⟩ := hcell w2 hb02) | (go_at_call 17; refine (hfa _ hb02).mono ?_; rintro e w3 ⟨rfl, hb3⟩; have hb03 := thn hb02 hb3; obtain ⟨⟨c0, c1, c2⟩, d0, d1, d2⟩ := hcell w3 hb03) | (go_at_call 29; refine (hst _ hb03).mono ?_; rintro e w4 ⟨rfl, hb4⟩; have hb04 := thn hb03 hb4; obtain ⟨⟨c0, c1, c2⟩, d0, d1, d2⟩ := hcell w4 hb04) | (go_at_call 31; refine (hpa _ hb04).mono ?_; rintro e w5 ⟨D, rfl, htD, hnD, hb5⟩; have hb05 := thn hb04 hb5; obtain ⟨W6, hW6, hB6, hs6, hk6⟩ := (newBlk w5 _ rfl #[.int .i64 D.op, .int .i64 D.n, .slice D.A D.args.length D.c] 27); have hb06 := thn hb05 hB6; obtain ⟨⟨c0, c1, c2⟩, d0, d1, d2⟩ := hcell W6 hb06; obtain ⟨x0, x1, x2⟩ := box_cells hk6 (Below.refl _ W6)) | (go_at_call 19; first | (refine (hsa X V _ hX17 hV17 (htX.trans htV.symm)).mono ?_; rintro e w18 ⟨rfl, hb18⟩; have hb018 := thn hb017 hb18; obtain ⟨z0, z1, z2⟩ := box_cells hz17 hb18; have hZ18 := (((hnZ.later hB15).later hb16).pb s2 (by omega)).1.later hb18) | (refine (hsa X Y W11 hX11 (hnY.1.later hB11) (htX.trans htY.symm)).mono ?_; rintro e w12 ⟨rfl, hb12⟩; have hb012 := thn hb011 hb12; have h912 := thn h911 hb12; obtain ⟨x0, x1, x2⟩ := box_cells hk9 h912; have hX12 := hX11.later hb12) | (refine (hsa T D W6 (hT2.later hb06) (hnD.1.later hB6) htD.symm).mono ?_; rintro e w7 ⟨rfl, hb7⟩; have hb07 := thn hb06 hb7; obtain ⟨⟨c0, c1, c2⟩, d0, d1, d2⟩ := hcell w7 hb07)) | (go_at_call 21; first | (refine (hn1 X W9 hb09 (hnX.1.later hB9) htX).mono ?_; rintro e w10 ⟨Y, rfl, htY, hnY, hb10⟩; have hb010 := thn hb09 hb10; obtain ⟨W11, hW11, hB11, hs11, hk11⟩ := (newBlk w10 _ rfl #[.int .i64 Y.op, .int .i64 Y.n, .slice Y.A Y.args.length Y.c] 27); have hb011 := thn hb010 hB11; obtain ⟨⟨c0, c1, c2⟩, d0, d1, d2⟩ := hcell W11 hb011; have h911 := thn hb10 hB11; obtain ⟨x0, x1, x2⟩ := box_cells hk9 h911; obtain ⟨y0, y1, y2⟩ := box_cells hk11 (Below.refl _ W11); have hX11 := (hnX.1.later hB9).later h911) | (refine (hn0 w7 hb07).mono ?_; rintro e w8 ⟨X, rfl, htX, hnX, hb8⟩; have hb08 := thn hb07 hb8; obtain ⟨W9, hW9, hB9, hs9, hk9⟩ := (newBlk w8 _ rfl #[.int .i64 X.op, .int .i64 X.n, .slice X.A X.args.length X.c] 27); have hb09 := thn hb08 hB9; obtain ⟨⟨c0, c1, c2⟩, d0, d1, d2⟩ := hcell W9 hb09; obtain ⟨x0, x1, x2⟩ := box_cells hk9 (Below.refl _ W9))) | (go_at_call 33; first | (refine (hpl Z true w18 hZ18 htZ).mono ?_; rintro e w19 ⟨rfl, hb19⟩; have hb019 := thn hb018 hb19) | (refine (hpl X false w12 hX12 htX).mono ?_; rintro e w13 ⟨rfl, hb13⟩; have hb013 := thn hb012 hb13; obtain ⟨⟨c0, c1, c2⟩, d0, d1, d2⟩ := hcell w13 hb013)) | (go_at_call 22; first | (refine (hm1 Z W15 hb015 (hnZ.1.later hB15) htZ).mono ?_; rintro e w16 ⟨V, rfl, htV, hnV, hb16⟩; have hb016 := thn hb015 hb16; have h1116 := thn (thn (thn (thn hb12 hb13) hb14) hB15) hb16; have h916 := thn h911 h1116; have h816 := thn hB9 h916; have hx16 := blk_below hk9 h916; obtain ⟨x0, x1, x2⟩ := box_cells hx16 (Below.refl _ w16); have hy16 := blk_below hk11 h1116; obtain ⟨y0, y1, y2⟩ := box_cells hy16 (Below.refl _ w16); have k0 := frozen_of_blk hy16 0; have k1 := frozen_of_blk hy16 1; have k2 := frozen_of_blk hy16 2; have hz16 := blk_below hk15 hb16; have u1 := hb10.size; have u2 := (thn hb12 hb13).size; have u4 := hb14.size; have u5 := hb16.size; have u6 := hb010.size; have hne : ¬ w8.heap.size = w10.heap.size := (by omega); have hne' : ¬ w10.heap.size = w8.heap.size := (by omega); obtain ⟨s1, s2⟩ := store3 hy16 (.int .i64 V.op) (.int .i64 V.n) (.slice V.A V.args.length V.c); have hX17 := ((hnX.1.below h816).below (below_grown s2 (by omega) (by omega))).more (Nat.le_trans h816.size s2.size); have hV17 := (hnV.pb s2 (by omega)).1; have hb017 := hb016.trans (below_grown s2 (by omega) hb016.size); have hz17 := blk_pb hz16 s2 (by omega)) | (refine (hm0 w13 hb013).mono ?_; rintro e w14 ⟨Z, rfl, htZ, hnZ, hb14⟩; have hb014 := thn hb013 hb14; obtain ⟨W15, hW15, hB15, hs15, hk15⟩ := (newBlk w14 _ rfl #[.int .i64 Z.op, .int .i64 Z.n, .slice Z.A Z.args.length Z.c] 27); have hb015 := thn hb014 hB15; obtain ⟨⟨c0, c1, c2⟩, d0, d1, d2⟩ := hcell W15 hb015; obtain ⟨z0, z1, z2⟩ := box_cells hk15 (Below.refl _ W15))) | (go_at_call 11; refine (haw _ hb019).mono ?_; rintro e w99 ⟨rfl, hb99⟩))
            go_ret
            exact ⟨rfl, hB.trans ((thn hb019 hb99).mono (by omega))⟩
    · rw [decide_eq_false hsz] at hfi
      go_enter Tryd.func7, Tryd.ntmps7
      go_wp2_with (first | (go_at_call 9; refine hfe.mono ?_; rintro e w1 ⟨rfl, hb01⟩; obtain ⟨⟨c0, c1, c2⟩, d0, d1, d2⟩ := hcell w1 hb01) | (go_at_call 10; refine (hfi _ hb01).mono ?_; rintro e w2 ⟨rfl, hb2⟩; have hb02 := thn hb01 hb2) | (go_at_call 11; refine (haw _ hb02).mono ?_; rintro e w99 ⟨rfl, hb99⟩))
      go_ret
      exact ⟨rfl, hB.trans ((thn hb02 hb99).mono (by omega))⟩
end Go.Proofs.YtfecjdffnklkaaaDoor
