import Derived.Test.YtdfghgcfihhmjaaDoorForm
namespace Go.Proofs.YtdfghgcfihhmjaaDoor
open Go.RowKit

theorem normTr_eq (n : NM) (T : MT) (no : Bool) : normTr n T no = (if checkT n T.tr == 0 then (if smallB (nnf T.tr no) then nnf T.tr no else zeroTr) else zeroTr) := by rw [normTr, checkF_eq]
theorem normE_eq (n : NM) (T : MT) (no : Bool) : normE n T no = (if checkT n T.tr == 0 then (if smallB (nnf T.tr no) then 0 else 2) else checkT n T.tr) := by rw [normE, checkF_eq]

set_option maxRecDepth 100000 in
set_option maxHeartbeats 2000000 in
theorem formed_any (n : NM) (T X : MT) (no : Bool) (w : World) (hG : G w) (hn : n.In w.heap.size w) (hT : T.In w.heap.size w) (hX : X.In w.heap.size w) (hsz : T.tr.size ≤ 400000) (h100 : n.C.l.length ≤ 1000 ∧ n.R.l.length ≤ 1000 ∧ n.I.l.length ≤ 1000) (hXT : X.tr = normTr n T no) :
    Calls Tryd.prog 27 #[n.val, T.val, .bool no, X.val, .int .i64 (normE n T no)] w fun e w' => e = .returned (.bool true) ∧ Below w.heap.size w w' := by
  rw [normTr_eq] at hXT
  rw [normE_eq]
  obtain ⟨W1, W2, hW1, hs1, hW2, hs2, hB2, hcell2⟩ := two_boxes n T w
  obtain ⟨W3, hW3, hB3, hs3, hblk3⟩ := newBlk W2 _ hs2 #[.int .i64 X.op, .int .i64 X.n, .slice X.A X.args.length X.c] 27
  have hB : Below w.heap.size w W3 := hB2.trans (hB3.mono (by omega))
  have hcell : ∀ w', Below W3.heap.size W3 w' → (w'.cell? ⟨w.heap.size, 0, none⟩ = some (.slice n.C.A n.C.l.length n.C.c) ∧ w'.cell? ⟨w.heap.size, 1, none⟩ = some (.slice n.R.A n.R.l.length n.R.c) ∧ w'.cell? ⟨w.heap.size, 2, none⟩ = some (.slice n.I.A n.I.l.length n.I.c)) ∧
      (w'.cell? ⟨w.heap.size + 1, 0, none⟩ = some (.int .i64 T.op) ∧ w'.cell? ⟨w.heap.size + 1, 1, none⟩ = some (.int .i64 T.n) ∧ w'.cell? ⟨w.heap.size + 1, 2, none⟩ = some (.slice T.A T.args.length T.c)) ∧
      w'.cell? ⟨w.heap.size + 1 + 1, 0, none⟩ = some (.int .i64 X.op) ∧ w'.cell? ⟨w.heap.size + 1 + 1, 1, none⟩ = some (.int .i64 X.n) ∧ w'.cell? ⟨w.heap.size + 1 + 1, 2, none⟩ = some (.slice X.A X.args.length X.c) := fun w' hb => by
    obtain ⟨q1, q2⟩ := hcell2 w' ((hB3.mono (by omega)).trans (hb.mono (by omega)))
    exact ⟨q1, q2, box_cells hblk3 hb⟩
  have hfa := fun w1 (hb : Below W3.heap.size W3 w1) => fault_any n T w1 ((hn.later hB).later hb) ((hT.later hB).later hb) (by omega) h100
  have hsa : ∀ (F : MT) (w1 : World), Below W3.heap.size W3 w1 → F.In w1.heap.size w1 → X.tr = F.tr → Calls Tryd.prog 23 #[X.val, F.val] w1 fun e w' => e = .returned (.bool true) ∧ Below w1.heap.size w1 w' := fun F w1 hb hF he => by
    have := rSame_any X F w1 ((hX.later hB).later hb) hF
    rw [he, beq_self] at this
    exact this
  have hzi : ∀ w1 : World, zeroMT.In w1.heap.size w1 := fun w1 => (new_zero 0 w1).1
  obtain ⟨⟨a0, a1, a2⟩, ⟨b0, b1, b2⟩, o0, o1, o2⟩ := hcell W3 (Below.refl _ _)
  clear hcell2 hblk3 hB2 hB3
  simp only [NM.val, MT.val] at hfa hsa ⊢
  have hsz0 := hsa zeroMT
  simp only [zeroMT, MT.op, MT.n, MT.A, MT.args, MT.c, List.length_nil] at hsz0 hzi
  rcases hz : (checkT n T.tr == 0)
  · rw [hz] at hXT
    simp only [Bool.false_eq_true, if_false] at hXT ⊢
    have hX0 : X.tr = zeroTr := hXT
    clear hXT hsa
    go_enter Tryd.func27, Tryd.ntmps27
    go_wp2_with (first | (go_at_call 21; refine (hfa W3 (Below.refl _ _)).mono ?_; rintro e w1 ⟨rfl, hb1⟩; have hblk4 := World.alloc_heap_new' w1 (.cells #[.int .i64 0, .int .i64 0, .slice none 0 0] 27); have hb4 : Below W3.heap.size W3 (w1.alloc (.cells #[.int .i64 0, .int .i64 0, .slice none 0 0] 27)) := hb1.alloc hb1.size _; obtain ⟨⟨c0, c1, c2⟩, ⟨d0, d1, d2⟩, x0, x1, x2⟩ := hcell _ hb4; have z4 : (w1.alloc (.cells #[.int .i64 0, .int .i64 0, .slice none 0 0] 27)).heap.size = w1.heap.size + 1 := (by simp)) | (go_at_call 23; refine (hsz0 _ hb4 (hzi _) hX0).mono ?_; rintro e w2 ⟨rfl, hb2⟩))
    go_ret
    exact ⟨rfl, hB.trans ((hb4.trans (hb2.mono hb4.size)).mono (by omega))⟩
  · have hc0 : checkT n T.tr = 0 := by simpa using hz
    have hval : n.ok = true ∧ validB n T = true := checkF_zero (by rw [checkF_eq]; exact hz)
    have hwf := wf_of_valid hval.2
    have hfo := fun w1 (hb : Below W3.heap.size W3 w1) => Form_any T no w1 hwf ((hG.later hB).later hb) ((hT.later hB).later hb)
    simp only [MT.val] at hfo
    rw [hz] at hXT
    rw [hc0] at hfa
    have hns := nnf_size T.tr no
    have hsm : ∀ (F : MT) (w1 : World), F.In w1.heap.size w1 → F.tr = nnf T.tr no → Calls Tryd.prog 78 #[.agg #[.int .i64 F.op, .int .i64 F.n, .slice F.A F.args.length F.c]] w1 fun e w' => e = .returned (.bool (smallB (nnf T.tr no))) ∧ Below w1.heap.size w1 w' := fun F w1 hF he => by
      rw [← he]
      exact Small_any F w1 hF (by rw [he]; omega)
    simp only [if_true] at hXT ⊢
    rcases hs : smallB (nnf T.tr no)
    · rw [hs] at hXT hsm
      simp only [Bool.false_eq_true, if_false] at hXT ⊢
      have hX0 : X.tr = zeroTr := hXT
      clear hXT hsa hz hs
      go_enter Tryd.func27, Tryd.ntmps27
      go_wp2_with (first | (go_at_call 21; refine (hfa W3 (Below.refl _ _)).mono ?_; rintro e w1 ⟨rfl, hb1⟩; have hblk4 := World.alloc_heap_new' w1 (.cells #[.int .i64 0, .int .i64 0, .slice none 0 0] 27); have hb4 : Below W3.heap.size W3 (w1.alloc (.cells #[.int .i64 0, .int .i64 0, .slice none 0 0] 27)) := hb1.alloc hb1.size _; obtain ⟨⟨c0, c1, c2⟩, ⟨d0, d1, d2⟩, x0, x1, x2⟩ := hcell _ hb4; have z4 : (w1.alloc (.cells #[.int .i64 0, .int .i64 0, .slice none 0 0] 27)).heap.size = w1.heap.size + 1 := (by simp)) | (go_at_call 77; refine (hfo _ hb4).mono ?_; rintro e w5 ⟨F, rfl, hft, hnF, hb5⟩; have hb35 := hb4.trans (hb5.mono hb4.size); have z1 := hb1.size; have z5 := hb5.size; have hv5 := blk_below hblk4 hb5; obtain ⟨u0, u1, u2⟩ := box_cells hv5 (Below.refl _ w5); have k0 := frozen_of_blk hv5 0; have k1 := frozen_of_blk hv5 1; have k2 := frozen_of_blk hv5 2; obtain ⟨s1, s2⟩ := store3 hv5 (.int .i64 F.op) (.int .i64 F.n) (.slice F.A F.args.length F.c); have hF6 := (hnF.pb s2 (by omega)).1; have hb36 := hb35.trans (below_grown s2 (by omega) hb35.size)) | (go_at_call 78; refine (hsm F _ hF6 hft).mono ?_; rintro e w7 ⟨rfl, hb7⟩; have hb37 := hb36.trans (hb7.mono hb36.size); obtain ⟨-, -, y0, y1, y2⟩ := hcell w7 hb37; have hv7 := blk_below s1 hb7; obtain ⟨p0, p1, p2⟩ := box_cells hv7 (Below.refl _ w7); have m0 := frozen_of_blk hv7 0; have m1 := frozen_of_blk hv7 1; have m2 := frozen_of_blk hv7 2) | (go_at_call 23; obtain ⟨s3, s4⟩ := store3 hv7 (.int .i64 0) (.int .i64 0) (.slice none 0 0); have z7 := hb7.size; have hb38 := hb37.trans (below_grown s4 (by have := hb1.size; omega) hb37.size); refine (hsz0 _ hb38 (hzi _) hX0).mono ?_; rintro e w8 ⟨rfl, hb8⟩))
      go_ret
      exact ⟨rfl, hB.trans ((hb38.trans (hb8.mono hb38.size)).mono (by omega))⟩
    · rw [hs] at hXT hsm
      simp only [if_true] at hXT ⊢
      clear hz hs hsz0
      go_enter Tryd.func27, Tryd.ntmps27
      go_wp2_with (first | (go_at_call 21; refine (hfa W3 (Below.refl _ _)).mono ?_; rintro e w1 ⟨rfl, hb1⟩; have hblk4 := World.alloc_heap_new' w1 (.cells #[.int .i64 0, .int .i64 0, .slice none 0 0] 27); have hb4 : Below W3.heap.size W3 (w1.alloc (.cells #[.int .i64 0, .int .i64 0, .slice none 0 0] 27)) := hb1.alloc hb1.size _; obtain ⟨⟨c0, c1, c2⟩, ⟨d0, d1, d2⟩, x0, x1, x2⟩ := hcell _ hb4; have z4 : (w1.alloc (.cells #[.int .i64 0, .int .i64 0, .slice none 0 0] 27)).heap.size = w1.heap.size + 1 := (by simp)) | (go_at_call 77; refine (hfo _ hb4).mono ?_; rintro e w5 ⟨F, rfl, hft, hnF, hb5⟩; have hb35 := hb4.trans (hb5.mono hb4.size); have z1 := hb1.size; have z5 := hb5.size; have hv5 := blk_below hblk4 hb5; obtain ⟨u0, u1, u2⟩ := box_cells hv5 (Below.refl _ w5); have k0 := frozen_of_blk hv5 0; have k1 := frozen_of_blk hv5 1; have k2 := frozen_of_blk hv5 2; obtain ⟨s1, s2⟩ := store3 hv5 (.int .i64 F.op) (.int .i64 F.n) (.slice F.A F.args.length F.c); have hF6 := (hnF.pb s2 (by omega)).1; have hb36 := hb35.trans (below_grown s2 (by omega) hb35.size)) | (go_at_call 78; refine (hsm F _ hF6 hft).mono ?_; rintro e w7 ⟨rfl, hb7⟩; have hb37 := hb36.trans (hb7.mono hb36.size); obtain ⟨-, -, y0, y1, y2⟩ := hcell w7 hb37; have hv7 := blk_below s1 hb7; obtain ⟨p0, p1, p2⟩ := box_cells hv7 (Below.refl _ w7); have m0 := frozen_of_blk hv7 0; have m1 := frozen_of_blk hv7 1; have m2 := frozen_of_blk hv7 2) | (go_at_call 23; refine (hsa F w7 hb37 (hF6.later hb7) (hXT.trans hft.symm)).mono ?_; rintro e w8 ⟨rfl, hb8⟩))
      go_ret
      exact ⟨rfl, hB.trans ((hb37.trans (hb8.mono hb37.size)).mono (by omega))⟩

set_option maxRecDepth 100000 in
set_option maxHeartbeats 2000000 in
theorem ConceptNormal_any (n : NM) (T : MT) (w : World) (hG : G w) (hn : n.In w.heap.size w) (hT : T.In w.heap.size w) :
    Calls Tryd.prog 4 #[n.val, T.val] w fun e w' => e = .returned (.bool true) ∧ Below w.heap.size w w' := by
  obtain ⟨W1, W2, hW1, hs1, hW2, hs2, hB, hcell⟩ := two_boxes n T w
  have hfe := FewNames_any n W2 (hn.later hB)
  have hfi := fun w1 (hb : Below W2.heap.size W2 w1) => Fits_any T 3000 w1 ((hT.later hB).later hb) (by omega) (by omega)
  have haw := fun w1 (hb : Below W2.heap.size W2 w1) => awake_any w1 ((hG.later hB).later hb)
  obtain ⟨⟨a0, a1, a2⟩, b0, b1, b2⟩ := hcell W2 (Below.refl _ _)
  simp only [fits_size] at hfi
  simp only [NM.val, MT.val] at hfe hfi ⊢
  rcases hf : fewB n
  · rw [hf] at hfe
    clear hf
    go_enter Tryd.func4, Tryd.ntmps4
    go_wp2_with (first | (go_at_call 13; refine hfe.mono ?_; rintro e w1 ⟨rfl, hb1⟩) | (go_at_call 15; refine (haw _ hb1).mono ?_; rintro e w2 ⟨rfl, hb2⟩))
    go_ret
    exact ⟨rfl, hB.trans ((hb1.trans (hb2.mono hb1.size)).mono (by omega))⟩
  · have hl := few_lens hf
    rw [hf] at hfe
    by_cases hsz : (T.tr.size : Int) ≤ 3000
    · rw [decide_eq_true hsz] at hfi
      have hnor := fun w1 (hb : Below W2.heap.size W2 w1) => Normal_any n T w1 ((hG.later hB).later hb) ((hn.later hB).later hb) ((hT.later hB).later hb) (by omega)
      have hnot := fun w1 (hb : Below W2.heap.size W2 w1) => Not_any n T w1 ((hG.later hB).later hb) ((hn.later hB).later hb) ((hT.later hB).later hb) (by omega)
      have hfo := fun (X : MT) (no : Bool) w1 (hb : Below W2.heap.size W2 w1) (hX : X.In w1.heap.size w1) (he : X.tr = normTr n T no) => formed_any n T X no w1 ((hG.later hB).later hb) ((hn.later hB).later hb) ((hT.later hB).later hb) hX (by omega) ⟨by omega, by omega, by omega⟩ he
      simp only [NM.val, MT.val] at hnor hnot hfo
      go_enter Tryd.func4, Tryd.ntmps4
      go_wp2_with (first | (go_at_call 13; refine hfe.mono ?_; rintro e w1 ⟨rfl, hb1⟩; obtain ⟨⟨c0, c1, c2⟩, d0, d1, d2⟩ := hcell w1 hb1) | (go_at_call 14; refine (hfi _ hb1).mono ?_; rintro e w2 ⟨rfl, hb2⟩; have hb02 := hb1.trans (hb2.mono hb1.size); obtain ⟨⟨c0, c1, c2⟩, d0, d1, d2⟩ := hcell w2 hb02) | (go_at_call 25; refine (hnor _ hb02).mono ?_; rintro e w3 ⟨T3, rfl, ht3, hn3, hb3⟩; have hb03 := hb02.trans (hb3.mono hb02.size); obtain ⟨W4, hW4, hB4, hs4, hblk4⟩ := (newBlk w3 _ rfl #[.int .i64 T3.op, .int .i64 T3.n, .slice T3.A T3.args.length T3.c] 27); have hb04 := hb03.trans (hB4.mono hb03.size); obtain ⟨⟨c0, c1, c2⟩, d0, d1, d2⟩ := hcell W4 hb04) | (go_at_call 26; refine (hnot _ hb04).mono ?_; rintro e w5 ⟨T5, rfl, ht5, hn5, hb5⟩; have hb05 := hb04.trans (hb5.mono hb04.size); obtain ⟨W6, hW6, hB6, hs6, hblk6⟩ := (newBlk w5 _ rfl #[.int .i64 T5.op, .int .i64 T5.n, .slice T5.A T5.args.length T5.c] 27); have hb06 := hb05.trans (hB6.mono hb05.size); obtain ⟨⟨c0, c1, c2⟩, d0, d1, d2⟩ := hcell W6 hb06; obtain ⟨x0, x1, x2⟩ := box_cells hblk4 (hb5.trans (hB6.mono hb5.size)); obtain ⟨y0, y1, y2⟩ := box_cells hblk6 (Below.refl _ W6)) | (go_at_call 27; first | (refine (hfo T5 true w7 hb07 (((hn5.1.later hB6).later hb7)) ht5).mono ?_; rintro e w8 ⟨rfl, hb8⟩; have hb08 := hb07.trans (hb8.mono hb07.size)) | (refine (hfo T3 false W6 hb06 (((hn3.1.later hB4).later hb5).later hB6) ht3).mono ?_; rintro e w7 ⟨rfl, hb7⟩; have hb07 := hb06.trans (hb7.mono hb06.size); obtain ⟨⟨c0, c1, c2⟩, d0, d1, d2⟩ := hcell w7 hb07; obtain ⟨y0, y1, y2⟩ := box_cells hblk6 hb7)) | (go_at_call 15; refine (haw _ hb08).mono ?_; rintro e w9 ⟨rfl, hb9⟩))
      go_ret
      exact ⟨rfl, hB.trans ((hb08.trans (hb9.mono hb08.size)).mono (by omega))⟩
    · rw [decide_eq_false hsz] at hfi
      go_enter Tryd.func4, Tryd.ntmps4
      go_wp2_with (first | (go_at_call 13; refine hfe.mono ?_; rintro e w1 ⟨rfl, hb1⟩; obtain ⟨⟨c0, c1, c2⟩, d0, d1, d2⟩ := hcell w1 hb1) | (go_at_call 14; refine (hfi _ hb1).mono ?_; rintro e w2 ⟨rfl, hb2⟩; have hb02 := hb1.trans (hb2.mono hb1.size)) | (go_at_call 15; refine (haw _ hb02).mono ?_; rintro e w3 ⟨rfl, hb3⟩))
      go_ret
      exact ⟨rfl, hB.trans ((hb02.trans (hb3.mono hb02.size)).mono (by omega))⟩
end Go.Proofs.YtdfghgcfihhmjaaDoor
