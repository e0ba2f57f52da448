import Derived.Test.YtfecjdffnklkaaaDoorCopy
namespace Go.Proofs.YtfecjdffnklkaaaDoor
open Go.RowKit

set_option maxRecDepth 100000 in
set_option maxHeartbeats 4000000 in
theorem ConceptForms_any (n : NM) (T U : MT) (w : World) (hG : G w) (hn : n.In w.heap.size w) (hT : T.In w.heap.size w) (hU : U.In w.heap.size w) :
    Calls Tryd.prog 3 #[n.val, T.val, U.val] w fun e w' => e = .returned (.bool true) ∧ Below w.heap.size w w' := by
  obtain ⟨W1, W2, hW1, hs1, hW2, hs2, hB2, hcell2⟩ := two_boxes n T w
  obtain ⟨W3, hW3, hB3, hs3, hblk3⟩ := newBlk W2 _ hs2 #[.int .i64 U.op, .int .i64 U.n, .slice U.A U.args.length U.c] 27
  have hB : Below w.heap.size w W3 := hB2.trans (hB3.mono (by omega))
  have hcell : ∀ w', Below W3.heap.size W3 w' → (w'.cell? ⟨w.heap.size, 0, none⟩ = some (.slice n.C.A n.C.l.length n.C.c) ∧ w'.cell? ⟨w.heap.size, 1, none⟩ = some (.slice n.R.A n.R.l.length n.R.c) ∧ w'.cell? ⟨w.heap.size, 2, none⟩ = some (.slice n.I.A n.I.l.length n.I.c)) ∧
      (w'.cell? ⟨w.heap.size + 1, 0, none⟩ = some (.int .i64 T.op) ∧ w'.cell? ⟨w.heap.size + 1, 1, none⟩ = some (.int .i64 T.n) ∧ w'.cell? ⟨w.heap.size + 1, 2, none⟩ = some (.slice T.A T.args.length T.c)) ∧
      w'.cell? ⟨w.heap.size + 1 + 1, 0, none⟩ = some (.int .i64 U.op) ∧ w'.cell? ⟨w.heap.size + 1 + 1, 1, none⟩ = some (.int .i64 U.n) ∧ w'.cell? ⟨w.heap.size + 1 + 1, 2, none⟩ = some (.slice U.A U.args.length U.c) := fun w' hb => by
    obtain ⟨q1, q2⟩ := hcell2 w' ((hB3.mono (by omega)).trans (hb.mono (by omega)))
    exact ⟨q1, q2, box_cells hblk3 hb⟩
  have hn3 := hn.later hB
  have hT3 := hT.later hB
  have hU3 := hU.later hB
  have hG3 := hG.later hB
  have hfe := FewNames_any n W3 hn3
  have hfi := fun w1 (hb : Below W3.heap.size W3 w1) => Fits_any T 3000 w1 (hT3.later hb) (by omega) (by omega)
  have hfu := fun w1 (hb : Below W3.heap.size W3 w1) => Fits_any U 3000 w1 (hU3.later hb) (by omega) (by omega)
  have haw := fun w1 (hb : Below W3.heap.size W3 w1) => awake_any w1 (hG3.later hb)
  obtain ⟨⟨a0, a1, a2⟩, ⟨b0, b1, b2⟩, o0, o1, o2⟩ := hcell W3 (Below.refl _ _)
  simp only [fits_size] at hfi hfu
  simp only [NM.val, MT.val] at hfe hfi hfu ⊢
  clear hcell2 hblk3 hB2 hB3
  rcases hf : fewB n
  · rw [hf] at hfe
    clear hf
    go_enter Tryd.func3, Tryd.ntmps3
    go_wp2_with (first | (go_at_call 9; refine hfe.mono ?_; rintro e w1 ⟨rfl, hb1⟩) | (go_at_call 11; refine (haw _ hb1).mono ?_; rintro e w2 ⟨rfl, hb2⟩))
    go_ret
    exact ⟨rfl, hB.trans ((thn hb1 hb2).mono (by omega))⟩
  · have hl := few_lens hf
    rw [hf] at hfe
    by_cases hsz : (T.tr.size : Int) ≤ 3000
    · rw [decide_eq_true hsz] at hfi
      by_cases hsu : (U.tr.size : Int) ≤ 3000
      · rw [decide_eq_true hsu] at hfu
        have hnm := fun w1 (hb : Below W3.heap.size W3 w1) => cNames_any n w1 (hn3.later hb)
        have hrn := fun w1 (hb : Below W3.heap.size W3 w1) => rNames_any n w1 (hn3.later hb) ⟨by omega, by omega, by omega⟩
        have hsi : ∀ w1, Below W3.heap.size W3 w1 → Calls Tryd.prog 13 #[T.val] w1 fun e w' => e = .returned (.tuple #[.int .i64 T.tr.size, .int .i64 T.tr.depth]) ∧ Below w1.heap.size w1 w' := fun w1 hb => by
          have := cSize_any T w1 (hT3.later hb) (by rw [MT.pre_length]; omega)
          rw [MT.pre_length, maxLev_pre] at this
          exact this
        have hrs := fun w1 (hb : Below W3.heap.size W3 w1) => rSize_any T w1 (hT3.later hb) (by omega)
        have hck : ∀ w1, Below W3.heap.size W3 w1 → Calls Tryd.prog 16 #[n.val, T.val] w1 fun e w' => e = .returned (.int .i64 (checkT n T.tr)) ∧ Below w1.heap.size w1 w' := fun w1 hb => by
          have := cCheck_any n T w1 (hG3.later hb) (hn3.later hb) (hT3.later hb) (by rw [MT.pre_length]; omega)
          rw [checkF_eq] at this
          exact this
        have hfa := fun w1 (hb : Below W3.heap.size W3 w1) => fault_any n T w1 (hn3.later hb) (hT3.later hb) (by omega) ⟨by omega, by omega, by omega⟩
        have hcs := fun w1 (hb : Below W3.heap.size W3 w1) => cSame_any T U w1 (hT3.later hb) (hU3.later hb)
        have hrq := fun w1 (hb : Below W3.heap.size W3 w1) => rSame_any T U w1 (hT3.later hb) (hU3.later hb)
        have hco := fun w1 (hb : Below W3.heap.size W3 w1) => rCopy_any T w1 (hT3.later hb) (by omega)
        have hc2 : ∀ (K : MT) w1, Below W3.heap.size W3 w1 → K.In w1.heap.size w1 → K.tr = T.tr → Calls Tryd.prog 18 #[T.val, K.val] w1 fun e w' => e = .returned (.bool true) ∧ Below w1.heap.size w1 w' := fun K w1 hb hK he => by
          have := cSame_any T K w1 (hT3.later hb) hK
          rw [he, beq_self] at this
          exact this
        simp only [NM.val, MT.val] at hnm hrn hsi hrs hck hfa hcs hrq hco hc2
        generalize T.tr.beq U.tr = q at hcs hrq
        generalize checkT n T.tr = cz at hck hfa
        have HSZ := Lib.hid (And.intro hsz hsu)
        have HL := Lib.hid hl
        clear hsz hsu hl
        generalize T.tr.size = tz at hsi hrs
        generalize T.tr.depth = td at hsi hrs
        rcases hok : n.ok
        all_goals
          rw [hok] at hnm hrn
          simp only [codeIf, if_true, Bool.false_eq_true, if_false] at hnm
          clear hok
          go_enter Tryd.func3, Tryd.ntmps3
          go_wp2_with (first | (go_at_call 9; refine hfe.mono ?_; rintro e w1 ⟨rfl, hb01⟩; obtain ⟨⟨c0, c1, c2⟩, ⟨d0, d1, d2⟩, x0, x1, x2⟩ := hcell w1 hb01) | (go_at_call 10; first | (refine (hfu _ hb02).mono ?_; rintro e w3 ⟨rfl, hb3⟩; have hb03 := thn hb02 hb3; obtain ⟨⟨c0, c1, c2⟩, ⟨d0, d1, d2⟩, x0, x1, x2⟩ := hcell w3 hb03) | (refine (hfi _ hb01).mono ?_; rintro e w2 ⟨rfl, hb2⟩; have hb02 := thn hb01 hb2; obtain ⟨⟨c0, c1, c2⟩, ⟨d0, d1, d2⟩, x0, x1, x2⟩ := hcell w2 hb02)) | (go_at_call 12; refine (hrn _ hb03).mono ?_; rintro e w4 ⟨rfl, hb4⟩; have hb04 := thn hb03 hb4; obtain ⟨⟨c0, c1, c2⟩, ⟨d0, d1, d2⟩, x0, x1, x2⟩ := hcell w4 hb04) | (go_at_call 13; refine (hsi _ hb04).mono ?_; rintro e w5 ⟨rfl, hb5⟩; have hb05 := thn hb04 hb5; obtain ⟨⟨c0, c1, c2⟩, ⟨d0, d1, d2⟩, x0, x1, x2⟩ := hcell w5 hb05) | (go_at_call 14; refine (hrs _ hb05).mono ?_; rintro e w6 ⟨rfl, hb6⟩; have hb06 := thn hb05 hb6; obtain ⟨⟨c0, c1, c2⟩, ⟨d0, d1, d2⟩, x0, x1, x2⟩ := hcell w6 hb06))
          have hd6 := hb06.drew
          go_region_held (fun w' => (w'.cell? ⟨w.heap.size, 0, none⟩ = some (.slice n.C.A n.C.l.length n.C.c) ∧ w'.cell? ⟨w.heap.size, 1, none⟩ = some (.slice n.R.A n.R.l.length n.R.c) ∧ w'.cell? ⟨w.heap.size, 2, none⟩ = some (.slice n.I.A n.I.l.length n.I.c)) ∧
              (w'.cell? ⟨w.heap.size + 1, 0, none⟩ = some (.int .i64 T.op) ∧ w'.cell? ⟨w.heap.size + 1, 1, none⟩ = some (.int .i64 T.n) ∧ w'.cell? ⟨w.heap.size + 1, 2, none⟩ = some (.slice T.A T.args.length T.c)) ∧
              w'.cell? ⟨w.heap.size + 1 + 1, 0, none⟩ = some (.int .i64 U.op) ∧ w'.cell? ⟨w.heap.size + 1 + 1, 1, none⟩ = some (.int .i64 U.n) ∧ w'.cell? ⟨w.heap.size + 1 + 1, 2, none⟩ = some (.slice U.A U.args.length U.c))
            (first | exact hcell _ hd6 | exact hcell _ hb07 | exact hcell _ hb08 | exact hcell _ hb09 | exact hcell _ hb010 | exact hcell _ hb011 | exact hcell _ hb012 | exact hcell _ hb013 | exact hcell _ hb014)
            (first | (go_at_call 15; refine (hnm _ hd6).mono ?_; rintro e w7 ⟨rfl, hb7⟩; have hb07 := thn hd6 hb7) | (go_at_call 16; refine (hck _ hb07).mono ?_; rintro e w8 ⟨rfl, hb8⟩; have hb08 := thn hb07 hb8) | (go_at_call 17; refine (hfa _ hb08).mono ?_; rintro e w9 ⟨rfl, hb9⟩; have hb09 := thn hb08 hb9) | (go_at_call 18; first | (refine (hc2 K _ hb012 hnK.1 htK).mono ?_; rintro e w13 ⟨rfl, hb13⟩; have hb013 := thn hb012 hb13) | (refine (hcs _ hb09).mono ?_; rintro e w10 ⟨rfl, hb10⟩; have hb010 := thn hb09 hb10)) | (go_at_call 19; refine (hrq _ hb010).mono ?_; rintro e w11 ⟨rfl, hb11⟩; have hb011 := thn hb010 hb11) | (go_at_call 20; refine (hco _ hb011).mono ?_; rintro e w12 ⟨K, rfl, htK, hnK, hb12⟩; have hb012 := thn hb011 hb12) | (go_at_call 11; refine (haw _ hb013).mono ?_; rintro e w14 ⟨rfl, hb14⟩; have hb014 := thn hb013 hb14))
          go_wp2
          go_ret
          exact ⟨rfl, hB.trans (hb014.mono (by omega))⟩
      · rw [decide_eq_false hsu] at hfu
        go_enter Tryd.func3, Tryd.ntmps3
        go_wp2_with (first | (go_at_call 9; refine hfe.mono ?_; rintro e w1 ⟨rfl, hb01⟩; obtain ⟨⟨c0, c1, c2⟩, ⟨d0, d1, d2⟩, x0, x1, x2⟩ := hcell w1 hb01) | (go_at_call 10; first | (refine (hfu _ hb02).mono ?_; rintro e w3 ⟨rfl, hb3⟩; have hb03 := thn hb02 hb3) | (refine (hfi _ hb01).mono ?_; rintro e w2 ⟨rfl, hb2⟩; have hb02 := thn hb01 hb2; obtain ⟨⟨c0, c1, c2⟩, ⟨d0, d1, d2⟩, x0, x1, x2⟩ := hcell w2 hb02)) | (go_at_call 11; refine (haw _ hb03).mono ?_; rintro e w4 ⟨rfl, hb4⟩))
        go_ret
        exact ⟨rfl, hB.trans ((thn hb03 hb4).mono (by omega))⟩
    · rw [decide_eq_false hsz] at hfi
      go_enter Tryd.func3, Tryd.ntmps3
      go_wp2_with (first | (go_at_call 9; refine hfe.mono ?_; rintro e w1 ⟨rfl, hb01⟩; obtain ⟨⟨c0, c1, c2⟩, ⟨d0, d1, d2⟩, x0, x1, x2⟩ := hcell w1 hb01) | (go_at_call 10; refine (hfi _ hb01).mono ?_; rintro e w2 ⟨rfl, hb2⟩; have hb02 := thn hb01 hb2) | (go_at_call 11; refine (haw _ hb02).mono ?_; rintro e w3 ⟨rfl, hb3⟩))
      go_ret
      exact ⟨rfl, hB.trans ((thn hb02 hb3).mono (by omega))⟩
end Go.Proofs.YtfecjdffnklkaaaDoor
