import Derived.Test.YtndkcimajeofcaaGreatDoorG1760211f68
import Derived.Test.YtndkcimajeofcaaGreatDoorG7139538e76
namespace Go.Proofs.YtndkcimajeofcaaGreatDoor
open Go.RowKit
attribute [local go_sem ↓] Go.wp_at_zero Go.wp_at_succ

theorem shr_bit0 (x k : Nat) (hx : x < 256) : (bits BinOp.and IntKind.i64 ((x : Int) / 2 ^ k) 1 == 0) = !(x.testBit k) := by
  have h1 : ((x : Int) / 2 ^ k) = ((x / 2 ^ k : Nat) : Int) := by rw [Int.natCast_ediv, Int.natCast_pow]; rfl
  have h0 := Nat.div_le_self x (2 ^ k)
  rw [h1, Nat.testBit_eq_decide_div_mod_eq]
  generalize x / 2 ^ k = q at h0 ⊢
  have h2 := bits_mask IntKind.i64 62 (by decide) (fun n h0 h1 => by rw [IntKind.wrap_i64]; omega) 1 (by decide) (q : Int) (by omega) (by omega)
  have h3 : bits BinOp.and IntKind.i64 (q : Int) 1 = (q : Int) % 2 := h2
  rw [h3, Bool.eq_iff_iff]
  simp
  omega
theorem placeI_T5 {L : List Tr} {t : Tr} (h : (L.any fun d => d.beq t) = true) : placeI L t = (placeT L t : Nat) ∧ placeT L t < L.length := by
  unfold placeI placeT
  cases hf : L.findIdx? (fun d => d.beq t) with
  | some k =>
    refine ⟨rfl, ?_⟩
    have := List.findIdx?_eq_some_iff_getElem.1 hf
    exact this.1
  | none =>
    rw [List.findIdx?_eq_none_iff] at hf
    obtain ⟨d, hd, he⟩ := List.any_eq_true.1 h
    rw [hf d hd] at he
    cases he
/-- What is claimed of the reference's True at one tree. -/
def TrOK (base : Nat) (v : Value) (Ls : List MT) (y : Nat) (X : MT) : Prop := ∀ w, MkIn base v Ls w → G w → X.In w.heap.size w → X.WF → coverR (Ls.map MT.tr) X.tr = true → Calls Tryz.prog 34 #[v, .int .i64 (y : Nat), X.val] w fun e w' => e = .returned (.bool (trueR (Ls.map MT.tr) y X.tr)) ∧ Below w.heap.size w w'
theorem elem_two {w : World} {B : Nat} {A : Option Addr} {t0 t1 : MT} (hr : RowAt w B 3 A 2 ([t0, t1].flatMap MT.cs)) : ∃ g off, A = some ⟨g, off, none⟩ ∧ ∀ w', Below B w w' → (w'.cell? ⟨g, off, none⟩ = some (.int .i64 t0.op) ∧ w'.cell? ⟨g, off + 1, none⟩ = some (.int .i64 t0.n) ∧ w'.cell? ⟨g, off + 2, none⟩ = some (.slice t0.A t0.args.length t0.c)) ∧ (w'.cell? ⟨g, off + 1 * 3, none⟩ = some (.int .i64 t1.op) ∧ w'.cell? ⟨g, off + 1 * 3 + 1, none⟩ = some (.int .i64 t1.n) ∧ w'.cell? ⟨g, off + 1 * 3 + 2, none⟩ = some (.slice t1.A t1.args.length t1.c)) ∧ (w'.cell? ⟨g, off + 3, none⟩ = some (.int .i64 t1.op) ∧ w'.cell? ⟨g, off + 3 + 1, none⟩ = some (.int .i64 t1.n) ∧ w'.cell? ⟨g, off + 3 + 2, none⟩ = some (.slice t1.A t1.args.length t1.c)) := by
  obtain ⟨g, off, hA, hg, hc⟩ := hr.2 (by decide)
  refine ⟨g, off, hA, fun w' hb => ?_⟩
  have h := fun j hj => (hb.cell (p := ⟨g, off + j, none⟩) hg).trans (hc j hj)
  refine ⟨⟨?_, ?_, ?_⟩, ⟨?_, ?_, ?_⟩, ?_, ?_, ?_⟩
  · exact (h 0 (by omega)).trans rfl
  · exact (h 1 (by omega)).trans rfl
  · exact (h 2 (by omega)).trans rfl
  · exact (h 3 (by omega)).trans rfl
  · exact (h 4 (by omega)).trans rfl
  · exact (h 5 (by omega)).trans rfl
  · exact (h 3 (by omega)).trans rfl
  · exact (h 4 (by omega)).trans rfl
  · exact (h 5 (by omega)).trans rfl

set_option maxRecDepth 100000 in
set_option maxHeartbeats 16000000 in
theorem true_name (base : Nat) (v : Value) (Ls : List MT) (y : Nat) (hy : y < 256) (hl : Ls.length ≤ 8) (op nn : Int) (A : Option Addr) (c : Nat) (args : List MT) (hq : op = 0 ∨ op = 6) : TrOK base v Ls y (.mk op nn A c args) := by
  intro w hM hG hX hWF hcv
  obtain ⟨W1, hW1, hB1, hs1, hk1⟩ := newBlk w _ rfl #[.int .i64 op, .int .i64 nn, .slice A args.length c] 33
  obtain ⟨⟨c0, c1, c2⟩, -⟩ := res3 hk1
  have hM1 := hM.later hB1
  have hX1 := hX.later hB1
  have hpl := PlaceI_any (base := base) v Ls (.mk op nn A c args) W1 hM1.1 hM1.2 hX1
  have HBL := Lib.hid hB1
  rw [MT.tr_mk] at hpl hcv ⊢
  have han : ((Ls.map MT.tr).any fun d => d.beq (.mk op nn (args.map MT.tr))) = true := by
    rcases hq with rfl | rfl
    · rw [coverR, if_pos rfl] at hcv; exact hcv
    · rw [coverR, if_neg (by decide), if_pos (.inl rfl), Bool.and_eq_true, markR, if_pos rfl] at hcv; exact hcv.1
  obtain ⟨hp, hpl2⟩ := placeI_T5 han
  rw [hp] at hpl
  have htr : trueR (Ls.map MT.tr) y (.mk op nn (args.map MT.tr)) = y.testBit (placeT (Ls.map MT.tr) (.mk op nn (args.map MT.tr))) := by rw [trueR, if_pos hq]
  rw [htr]
  rw [List.length_map] at hpl2
  generalize placeT (Ls.map MT.tr) (.mk op nn (args.map MT.tr)) = k at hpl hpl2 ⊢
  have hsh := shr_bit y k hy
  have h0k : (0 : Int) ≤ k := by omega
  have hkn : decide ((k : Int) < 0) = false := by simp
  rcases hbit : y.testBit k
  all_goals rw [hbit] at hsh
  all_goals simp only [MT.val, MT.op, MT.n, MT.A, MT.c, MT.args] at hpl ⊢
  all_goals clear hM hG hX hWF hcv hB1 hk1 hM1 hX1 han hp htr hbit
  all_goals rcases hq with rfl | rfl
  all_goals go_enter Tryz.func34, Tryz.ntmps34
  all_goals go_wp2_with (go_at_call 80; refine hpl.mono ?_; clear hpl; rintro e w6 ⟨rfl, hb6⟩)
  all_goals go_ret
  all_goals exact ⟨rfl, HBL.out.trans (hb6.mono HBL.out.size)⟩

set_option maxRecDepth 100000 in
set_option maxHeartbeats 16000000 in
theorem true_all (base : Nat) (v : Value) (Ls : List MT) (y : Nat) (hy : y < 256) (hl : Ls.length ≤ 8) (nn : Int) (A : Option Addr) (c : Nat) (args : List MT) : TrOK base v Ls y (.mk 7 nn A c args) := by
  intro w hM hG hX hWF hcv
  have har : (args.length : Int) = arityF 7 := by rw [MT.WF] at hWF; exact hWF.2.2.1
  have h1 : args.length = 1 := by rw [arityF, if_pos (by omega)] at har; omega
  obtain ⟨W1, hW1, hB1, hs1, hk1⟩ := newBlk w _ rfl #[.int .i64 7, .int .i64 nn, .slice A args.length c] 33
  have hcells : ∀ w', Below W1.heap.size W1 w' → w'.cell? ⟨w.heap.size, 0, none⟩ = some (.int .i64 7) ∧ w'.cell? ⟨w.heap.size, 1, none⟩ = some (.int .i64 nn) ∧ w'.cell? ⟨w.heap.size, 2, none⟩ = some (.slice A args.length c) := fun w' h => (res3 (blk_lat0 hk1 h)).1
  obtain ⟨c0, c1, c2⟩ := hcells W1 (Below.refl _ _)
  have hM1 := hM.later hB1
  have hX1 := hX.later hB1
  have hmk := rMark5_any (.mk 7 nn A c args) W1 (hG.later hB1) hX1 hWF (.inr rfl) h1
  have HBL := Lib.hid hB1
  rw [MT.tr_mk] at hcv ⊢
  have han : ((Ls.map MT.tr).any fun d => d.beq (markR (.mk 7 nn (args.map MT.tr)))) = true := by
    rw [coverR, if_neg (by decide), if_pos (.inr rfl), Bool.and_eq_true] at hcv; exact hcv.1
  obtain ⟨hp, hpl2⟩ := placeI_T5 han
  have htr : trueR (Ls.map MT.tr) y (.mk 7 nn (args.map MT.tr)) = !(y.testBit (placeT (Ls.map MT.tr) (markR (.mk 7 nn (args.map MT.tr))))) := by rw [trueR, if_neg (by decide), if_pos rfl]
  rw [htr]
  rw [List.length_map] at hpl2
  obtain ⟨k, hk⟩ : ∃ k, placeT (Ls.map MT.tr) (markR (.mk 7 nn (args.map MT.tr))) = k := ⟨_, rfl⟩
  rw [hk] at hp hpl2 ⊢
  have hpg : ∀ M w4, Below W1.heap.size W1 w4 → M.tr = markR (Tr.mk 7 nn (args.map MT.tr)) → (M = MT.mk 7 nn A c args ∨ New W1.heap.size w4 M) → Calls Tryz.prog 80 #[v, .agg #[.int .i64 M.op, .int .i64 M.n, .slice M.A M.args.length M.c]] w4 fun e w' => e = .returned (.int .i64 (k : Nat)) ∧ Below w4.heap.size w4 w' := fun M w4 hb4 hMt hMi => by
    have hin : M.In w4.heap.size w4 := by
      rcases hMi with rfl | hMi
      · exact hX1.later hb4
      · exact hMi.1
    have hpl := PlaceI_any (base := base) v Ls M w4 (hM1.later hb4).1 (hM1.later hb4).2 hin
    rw [hMt, hp] at hpl
    exact hpl
  have HPG := Lib.hid hpg
  have hsh := shr_bit0 y k hy
  have h0k : (0 : Int) ≤ k := by omega
  have hkn : decide ((k : Int) < 0) = false := by simp
  simp only [MT.val, MT.op, MT.n, MT.A, MT.c, MT.args] at hmk ⊢
  have HMK := Lib.hid hmk
  clear hM hG hX hWF hcv hB1 hk1 hM1 hX1 han hp htr hpg hmk hk hcells har h1
  rcases hbit : y.testBit k
  all_goals rw [hbit] at hsh
  all_goals clear hbit
  all_goals go_enter Tryz.func34, Tryz.ntmps34
  all_goals go_wp2_with (first
    | (go_at_call 80; refine (HPG.out M w4 hb4 HMt.out HMi.out).mono ?_; rintro e w6 ⟨rfl, hb6⟩; have hb6' := hb4.trans (hb6.mono hb4.size))
    | (go_at_call 82; refine HMK.out.mono ?_; rintro e w4 ⟨M, rfl, hMt', hM', hb4⟩; rw [MT.tr_mk] at hMt'; have HMt := Lib.hid hMt'; have HMi := Lib.hid hM'; clear hMt' hM'))
  all_goals go_ret
  all_goals exact ⟨rfl, HBL.out.trans (hb6'.mono HBL.out.size)⟩

set_option maxRecDepth 100000 in
set_option maxHeartbeats 16000000 in
theorem true_const (base : Nat) (v : Value) (Ls : List MT) (y : Nat) (op nn : Int) (A : Option Addr) (c : Nat) (args : List MT) (hq : op = 1 ∨ op = 2) : TrOK base v Ls y (.mk op nn A c args) := by
  intro w hM hG hX hWF hcv
  obtain ⟨W1, hW1, hB1, hs1, hk1⟩ := newBlk w _ rfl #[.int .i64 op, .int .i64 nn, .slice A args.length c] 33
  obtain ⟨⟨c0, c1, c2⟩, -⟩ := res3 hk1
  have HBL := Lib.hid hB1
  rw [MT.tr_mk]
  have htr : trueR (Ls.map MT.tr) y (.mk op nn (args.map MT.tr)) = (op == 1) := by rcases hq with rfl | rfl <;> (rw [trueR]; rfl)
  rw [htr]
  simp only [MT.val, MT.op, MT.n, MT.A, MT.c, MT.args]
  clear hM hG hX hWF hcv hB1 hk1 htr
  rcases hq with rfl | rfl
  all_goals go_enter Tryz.func34, Tryz.ntmps34
  all_goals go_wp2_with fail
  all_goals go_ret
  all_goals exact ⟨rfl, HBL.out⟩

set_option maxRecDepth 100000 in
set_option maxHeartbeats 16000000 in
theorem true_not (base : Nat) (v : Value) (Ls : List MT) (y : Nat) (nn : Int) (A : Option Addr) (c : Nat) (X : MT) (ih : TrOK base v Ls y X) : TrOK base v Ls y (.mk 3 nn A c [X]) := by
  intro w hM hG hX hWF hcv
  obtain ⟨W1, hW1, hB1, hs1, hk1⟩ := newBlk w _ rfl #[.int .i64 3, .int .i64 nn, .slice A 1 c] 33
  obtain ⟨⟨c0, c1, c2⟩, -⟩ := res3 hk1
  have HBL := Lib.hid hB1
  have hX1 := hX.later hB1
  rw [MT.In] at hX1
  obtain ⟨-, -, hrow, hins⟩ := hX1
  rw [MT.InAll] at hins
  rw [MT.WF, MT.WFs] at hWF
  rw [MT.tr_mk] at hcv ⊢
  have hcv1 : coverR (Ls.map MT.tr) X.tr = true := by
    rw [coverR, if_neg (by decide), if_neg (by decide), Bool.true_and, coverRs_all] at hcv
    simpa using hcv
  have hih := ih W1 (hM.later hB1) (hG.later hB1) hins.1 hWF.2.2.2.1 hcv1
  obtain ⟨g, off, hA, -, e0, e1, e2⟩ := elem3 (args := [X]) (k := 0) hrow (Below.refl _ _) (by simp)
  have htr : trueR (Ls.map MT.tr) y (.mk 3 nn ([X].map MT.tr)) = !(trueR (Ls.map MT.tr) y X.tr) := by rw [trueR]; simp [trueRs]
  rw [htr]
  simp only [Nat.zero_mul, Nat.add_zero, List.getElem_cons_zero] at e0 e1 e2
  simp only [MT.val, MT.op, MT.n, MT.A, MT.c, MT.args, List.length_cons, List.length_nil] at hih ⊢
  subst hA
  clear hM hG hX hWF hcv hB1 hk1 htr hrow hins ih hcv1
  rcases hq : trueR (Ls.map MT.tr) y X.tr
  all_goals rw [hq] at hih
  all_goals clear hq
  all_goals go_enter Tryz.func34, Tryz.ntmps34
  all_goals go_wp2_with (go_at_call 34; refine hih.mono ?_; clear hih; rintro e w6 ⟨rfl, hb6⟩)
  all_goals go_ret
  all_goals exact ⟨rfl, HBL.out.trans (hb6.mono HBL.out.size)⟩

set_option maxRecDepth 100000 in
set_option maxHeartbeats 16000000 in
theorem true_two (base : Nat) (v : Value) (Ls : List MT) (y : Nat) (op nn : Int) (A : Option Addr) (c : Nat) (X Y : MT) (hop : op = 4 ∨ op = 5) (ih1 : TrOK base v Ls y X) (ih2 : TrOK base v Ls y Y) : TrOK base v Ls y (.mk op nn A c [X, Y]) := by
  intro w hM hG hX hWF hcv
  obtain ⟨W1, hW1, hB1, hs1, hk1⟩ := newBlk w _ rfl #[.int .i64 op, .int .i64 nn, .slice A 2 c] 33
  have HBL := Lib.hid hB1
  have hX1 := hX.later hB1
  rw [MT.In] at hX1
  obtain ⟨-, -, hrow, hins⟩ := hX1
  rw [MT.InAll, MT.InAll] at hins
  rw [MT.WF, MT.WFs, MT.WFs] at hWF
  rw [MT.tr_mk] at hcv ⊢
  have hcv1 : coverR (Ls.map MT.tr) X.tr = true ∧ coverR (Ls.map MT.tr) Y.tr = true := by
    rw [coverR, if_neg (by omega), if_neg (by omega), Bool.true_and, coverRs_all] at hcv
    simpa using hcv
  obtain ⟨g, off, hA, hE⟩ := elem_two (t0 := X) (t1 := Y) hrow
  subst hA
  have hcells : ∀ w', Below W1.heap.size W1 w' → (w'.cell? ⟨w.heap.size, 0, none⟩ = some (.int .i64 op) ∧ w'.cell? ⟨w.heap.size, 1, none⟩ = some (.int .i64 nn) ∧ w'.cell? ⟨w.heap.size, 2, none⟩ = some (.slice (some ⟨g, off, none⟩) 2 c)) := fun w' h => (res3 (blk_lat0 hk1 h)).1
  have h1 := ih1 W1 (hM.later hB1) (hG.later hB1) hins.1 hWF.2.2.2.1 hcv1.1
  have h2 := fun w' (h : Below W1.heap.size W1 w') => ih2 w' ((hM.later hB1).later h) ((hG.later hB1).later h) (hins.2.1.later h) hWF.2.2.2.2.1 hcv1.2
  obtain ⟨c0, c1, c2⟩ := hcells W1 (Below.refl _ _)
  obtain ⟨⟨e0, e1, e2⟩, ⟨e3, e4, e5⟩, e6, e7, e8⟩ := hE W1 (Below.refl _ _)
  have HC := Lib.hid hcells
  have HE := Lib.hid hE
  have htr : trueR (Ls.map MT.tr) y (.mk op nn ([X, Y].map MT.tr)) = if op = 4 then (trueR (Ls.map MT.tr) y X.tr && trueR (Ls.map MT.tr) y Y.tr) else (trueR (Ls.map MT.tr) y X.tr || trueR (Ls.map MT.tr) y Y.tr) := by
    rcases hop with rfl | rfl <;> (rw [trueR]; simp [trueRs])
  rw [htr]
  simp only [MT.val, MT.op, MT.n, MT.A, MT.c, MT.args, List.length_cons, List.length_nil] at h1 h2 ⊢
  generalize trueR (Ls.map MT.tr) y X.tr = b1 at h1 ⊢
  generalize trueR (Ls.map MT.tr) y Y.tr = b2 at h2 ⊢
  have H2 := Lib.hid h2
  clear hM hG hX hWF hcv hB1 hk1 htr hrow hins ih1 ih2 hcv1 hcells hE h2
  rcases hop with rfl | rfl <;> cases b1
  all_goals go_enter Tryz.func34, Tryz.ntmps34
  all_goals go_wp2_with (first
    | (go_at_call 34; refine (H2.out w6 hb6).mono ?_; rintro e w7 ⟨rfl, hb7⟩; have hb7' := hb6.trans (hb7.mono hb6.size))
    | (go_at_call 34; refine h1.mono ?_; clear h1; rintro e w6 ⟨rfl, hb6⟩; clear c0 c1 c2 e0 e1 e2 e3 e4 e5 e6 e7 e8; obtain ⟨c0, c1, c2⟩ := HC.out w6 hb6; obtain ⟨⟨e0, e1, e2⟩, ⟨e3, e4, e5⟩, e6, e7, e8⟩ := HE.out w6 hb6))
  all_goals go_ret
  all_goals first | exact ⟨rfl, HBL.out.trans (hb7'.mono HBL.out.size)⟩ | exact ⟨rfl, HBL.out.trans (hb6.mono HBL.out.size)⟩ | exact ⟨by simp, HBL.out.trans (hb7'.mono HBL.out.size)⟩ | exact ⟨by simp, HBL.out.trans (hb6.mono HBL.out.size)⟩
/-- The reference's True. -/
theorem rTrue5_any (base : Nat) (v : Value) (Ls : List MT) (y : Nat) (hy : y < 256) (hl : Ls.length ≤ 8) (X : MT) : X.WF → TrOK base v Ls y X := by
  induction X using MT.induct with
  | h op nn A c args ih =>
    intro hWF
    have hWF' := hWF
    rw [MT.WF] at hWF'
    obtain ⟨p0, p8, har, hws⟩ := hWF'
    rcases (show (op = 0 ∨ op = 6) ∨ op = 7 ∨ (op = 1 ∨ op = 2) ∨ op = 3 ∨ (op = 4 ∨ op = 5) by omega) with h | rfl | h | rfl | h
    · exact true_name base v Ls y hy hl op nn A c args h
    · exact true_all base v Ls y hy hl nn A c args
    · exact true_const base v Ls y op nn A c args h
    · obtain ⟨X, rfl⟩ := List.length_eq_one_iff.1 (show args.length = 1 by simp [arityF] at har; omega)
      rw [MT.WFs] at hws
      exact true_not base v Ls y nn A c X (ih 0 (by simp) hws.1)
    · obtain ⟨X, Y, rfl⟩ : ∃ X Y, args = [X, Y] := by
        have h2 : args.length = 2 := by rcases h with rfl | rfl <;> (simp [arityF] at har; omega)
        match args, h2 with | [X, Y], _ => exact ⟨X, Y, rfl⟩
      rw [MT.WFs, MT.WFs] at hws
      exact true_two base v Ls y op nn A c X Y h (ih 0 (by simp) hws.1) (ih 1 (by simp) hws.2.1)
end Go.Proofs.YtndkcimajeofcaaGreatDoor
