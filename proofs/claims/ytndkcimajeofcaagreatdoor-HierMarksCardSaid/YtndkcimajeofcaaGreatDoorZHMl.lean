import Derived.Test.YtndkcimajeofcaaGreatDoorG1760211f68
import Derived.Test.YtndkcimajeofcaaGreatDoorG86c0903887
import Derived.Test.YtndkcimajeofcaaGreatDoorG3c13bb69c2
namespace Go.Proofs.YtndkcimajeofcaaGreatDoor
open Go.RowKit
attribute [local go_sem ↓] Go.wp_at_zero Go.wp_at_succ

set_option maxRecDepth 100000 in
set_option maxHeartbeats 16000000 in
theorem HierMarks_any (b : BN) (mo : ML) (w : World) (hG : G w) (hGT : GT w) (hb : b.In w.heap.size w) (hmo : mo.In w.heap.size w) (_hml : mo.l.length * 40 ≤ 140737488351232) :
    Calls Tryz.prog 5 #[b.val, .slice mo.A mo.l.length mo.c] w fun e w' => e = .returned (.bool true) ∧ Below w.heap.size w w' := by
  obtain ⟨W1, hW1, hB1, hs1, hk1⟩ := newBlk w _ rfl #[.slice b.N.C.A b.N.C.l.length b.N.C.c, .slice b.N.R.A b.N.R.l.length b.N.R.c, .slice b.N.I.A b.N.I.l.length b.N.I.c, .slice b.IA b.I.length b.ic, .slice b.R.A b.R.l.length b.R.c, .slice b.FA b.F.length b.fc, .slice b.L.A b.L.l.length b.L.c] 30
  have hbb := fun w' (h : Below W1.heap.size W1 w') => bbox_of (b := b) (blk_lat hk1 h)
  have hb1 := hb.later hB1
  have hm1 := hmo.later hB1
  have hG1 := hG.later hB1
  have hGT1 := hGT.later hB1
  have haw := fun w' (h : Below W1.heap.size W1 w') => awake5_any w' (hG1.later h) (hGT1.later h)
  have hfw := few5_any b mo W1 hb1 hm1
  obtain ⟨c0, c1, c2, c3, c4, c5, c6⟩ := hbb W1 (Below.refl _ _)
  have HB := Lib.hid hB1
  have HBB := Lib.hid hbb
  have HAW := Lib.hid haw
  have HD := Lib.hid (And.intro hb1 (And.intro hm1 (And.intro hG1 hGT1)))
  simp only [BN.val] at hfw ⊢
  clear hbb hB1 hk1 haw hb1 hm1 hG1 hGT1 hb hmo hG hGT
  go_enter Tryz.func5, Tryz.ntmps5
  go_wp2_with (go_at_call 20; refine hfw.mono ?_; clear hfw; rintro e w2 ⟨⟨x, rfl, hx⟩, hb2⟩; clear c0 c1 c2 c3 c4 c5 c6; obtain ⟨c0, c1, c2, c3, c4, c5, c6⟩ := HBB.out w2 hb2; cases x)
  · go_wp2_with (go_at_call 21; refine (HAW.out w2 hb2).mono ?_; rintro e w3 ⟨rfl, hb3⟩)
    go_ret
    exact ⟨rfl, HB.out.trans ((hb2.trans (hb3.mono hb2.size)).mono HB.out.size)⟩
  obtain ⟨q1, q2, q3, q4, q5, q6, q7, q8⟩ := hx (by first | rfl | trivial)
  have hl := few_lens5 q1
  obtain ⟨d1, d2, d3, d4⟩ := HD.out
  have hin : ∀ w', Below W1.heap.size W1 w' → HIn b mo w' := fun w' h => ⟨d3.later h, d4.later h, d1.later h, d2.later h, by omega, by omega, by omega, by omega, by omega, fun x hx => Nat.le_trans (q6 x hx) (by decide), fun x hx => Nat.le_trans (q8 x hx) (by decide), by omega⟩
  have hms := fun w' (h : Below W1.heap.size W1 w') => hMarks_any b mo w' (hin w' h)
  have hmd := fun w' (h : Below W1.heap.size W1 w') => marked5_any b mo w' (d3.later h) (d1.later h) (d2.later h) q2 q3 q4 q5 ⟨by omega, by omega, by omega⟩ q7 (fun T hT => by rcases List.mem_append.1 hT with y | y; exact q6 T y; exact q8 T y)
  obtain ⟨ec, hec⟩ : ∃ ec, hmC b mo.l = ec := ⟨_, rfl⟩
  by_cases h0 : ec = 0
  · subst h0
    have hms0 : ∀ w', Below W1.heap.size W1 w' → Calls Tryz.prog 27 #[b.val, .slice mo.A mo.l.length mo.c] w' fun e w'' => ∃ v lo Ts, e = .returned (.tuple #[v, .int .i64 0]) ∧ Coll lo lo w'' v Ts ∧ Ts.map MT.tr = marksF b mo.l ∧ Below w'.heap.size w' w'' := fun w' h => (hms w' h).mono fun e w'' hh => by
      obtain ⟨hb'', (⟨-, v, lo, Ts, he, hc, ht⟩ | ⟨hz, -⟩)⟩ := hh
      · exact ⟨v, lo, Ts, he, hc, ht, hb''⟩
      · exact absurd hec hz
    have hmd0 : ∀ w', Below W1.heap.size W1 w' → Calls Tryz.prog 28 #[b.val, .slice mo.A mo.l.length mo.c] w' fun e w'' => ∃ v lo Ts, e = .returned (.tuple #[v, .int .i64 0]) ∧ Coll lo lo w'' v Ts ∧ Ts.map MT.tr = marksF b mo.l ∧ Below w'.heap.size w' w'' := fun w' h => (hmd w' h).mono fun e w'' hh => by
      obtain ⟨hb'', (⟨-, v, Ts, he, hc, ht⟩ | ⟨hz, -⟩)⟩ := hh
      · exact ⟨v, _, Ts, he, hc, ht, hb''⟩
      · exact absurd hec hz
    have HMS := Lib.hid hms0
    have HMD := Lib.hid hmd0
    simp only [BN.val] at HMS HMD
    clear hx q1 q2 q3 q4 q5 q6 q7 q8 hl d1 d2 d3 d4 hin hms hmd hms0 hmd0 hec
    go_wp2_with (first
      | (go_at_call 28; refine (HMD.out w3 hb3).mono ?_; rintro e w4 ⟨v2, lo2, T2, rfl, hk2, ht2, hb4'⟩; obtain ⟨A2, k2, hv2, hle2, hm2, hr2⟩ := row_of_owns hk2.own; subst hv2; have hb4 := hb3.trans (hb4'.mono hb3.size); have hlen : T1.length = T2.length := (by have h := congrArg List.length (HT1.out.trans ht2.symm); simpa using h); have hne : ((T1.length : Int) != (T2.length : Int)) = false := (by rw [hlen]; simp); have HLE := Lib.hid hlen; have HK2 := Lib.hid hk2; have HT2 := Lib.hid ht2; have HR2 := Lib.hid hr2; have HB4 := Lib.hid hb4'; clear hlen hk2 ht2 hr2 hb4')
      | (go_at_call 27; refine (HMS.out w2 hb2).mono ?_; rintro e w3 ⟨v1, lo1, T1, rfl, hk1, ht1, hb3'⟩; obtain ⟨A1, k1, hv1, hle1, hm1, hr1⟩ := row_of_owns hk1.own; subst hv1; have hb3 := hb2.trans (hb3'.mono hb2.size); have HK1 := Lib.hid hk1; have HT1 := Lib.hid ht1; have HR1 := Lib.hid hr1; clear hk1 ht1 hr1; clear c0 c1 c2 c3 c4 c5 c6; obtain ⟨c0, c1, c2, c3, c4, c5, c6⟩ := HBB.out w3 hb3))
    clear c0 c1 c2 c3 c4 c5 c6
    go_loopw [39] (fun i wr => ∃ k : Nat, k ≤ T1.length ∧ i = .int .i64 (k : Nat) ∧ Below w4.heap.size w4 wr) (fun i _ => T1.length - (intOf i).toNat)
    case atStart => exact ⟨0, Nat.zero_le _, rfl, Below.refl _ _⟩
    case round =>
      rename World => wr
      obtain ⟨k, hk, rfl, hbr⟩ := hrel
      by_cases hlt : k < T1.length
      · have hlt2 : k < T2.length := by rw [← HLE.out]; exact hlt
        have hb3r := HB4.out.trans (hbr.mono HB4.out.size)
        obtain ⟨lb, loff, hA1, -, g0, g1, g2⟩ := elem3 HR1.out hb3r hlt
        obtain ⟨mb, moff, hA2, -, k0, k1', k2'⟩ := elem3 HR2.out hbr hlt2
        have h0K : (0 : Int) ≤ k := by omega
        have hlK : (k : Int) < T1.length := by omega
        have hlK2 : (k : Int) < T2.length := by omega
        have htr : T1[k].tr = T2[k].tr := by
          have h := HT1.out.trans HT2.out.symm
          have h1 := congrArg (fun l => l[k]?) h
          simpa [List.getElem?_map, List.getElem?_eq_getElem hlt, List.getElem?_eq_getElem hlt2] using h1
        have hsa : Calls Tryz.prog 29 #[T1[k].val, T2[k].val] wr.drew fun e w' => e = .returned (.bool true) ∧ Below wr.drew.heap.size wr.drew w' := by
          have h1 : (T1[k]).In wr.heap.size wr := ((HK1.out.trees _ (List.getElem_mem hlt)).1.1).later hb3r
          have h2 : (T2[k]).In wr.heap.size wr := ((HK2.out.trees _ (List.getElem_mem hlt2)).1.1).later hbr
          have h := rSame_any T1[k] T2[k] wr.drew (h1.later (Below.refl _ wr).drew) (h2.later (Below.refl _ wr).drew)
          rw [htr, beq_self] at h
          exact h
        have HBR := Lib.hid hbr
        simp only [MT.val] at hsa
        rw [hA1, hA2]
        clear htr hb3r hbr hA1 hA2
        go_wp2_with fail
        go_still_tail 8, (by kernel_rfl)
        change wpList _ _ _ _ _ wr.drew
        go_wp2_with (go_at_call 29; refine hsa.mono ?_; clear hsa; rintro e w' ⟨rfl, hb2⟩)
        go_roundw
        case rel => exact ⟨k + 1, by omega, by go_num, HBR.out.drew.trans (hb2.mono HBR.out.drew.size)⟩
        case measure => simp [intOf]; omega
      · have hb4r := hb4.trans (hbr.mono hb4.size)
        clear hbr
        go_wp2_with (go_at_call 21; refine (HAW.out wr hb4r).mono ?_; rintro e w9 ⟨rfl, hb9⟩)
        go_ret
        exact ⟨rfl, HB.out.trans ((hb4r.trans (hb9.mono hb4r.size)).mono HB.out.size)⟩
  · have hms0 : ∀ w', Below W1.heap.size W1 w' → Calls Tryz.prog 27 #[b.val, .slice mo.A mo.l.length mo.c] w' fun e w'' => e = .returned (.tuple #[.slice none 0 0, .int .i64 ec]) ∧ Below w'.heap.size w' w'' := fun w' h => (hms w' h).mono fun e w'' hh => by
      obtain ⟨hb'', (⟨hz, -⟩ | ⟨-, he⟩)⟩ := hh
      · exact absurd (hec.symm.trans hz) h0
      · rw [hec] at he; exact ⟨he, hb''⟩
    have hmd0 : ∀ w', Below W1.heap.size W1 w' → Calls Tryz.prog 28 #[b.val, .slice mo.A mo.l.length mo.c] w' fun e w'' => e = .returned (.tuple #[.slice none 0 0, .int .i64 ec]) ∧ Below w'.heap.size w' w'' := fun w' h => (hmd w' h).mono fun e w'' hh => by
      obtain ⟨hb'', (⟨hz, -⟩ | ⟨-, he⟩)⟩ := hh
      · exact absurd (hec.symm.trans hz) h0
      · rw [hec] at he; exact ⟨he, hb''⟩
    have HMS := Lib.hid hms0
    have HMD := Lib.hid hmd0
    have hee : (ec != ec) = false := by simp
    simp only [BN.val] at HMS HMD
    clear hx q1 q2 q3 q4 q5 q6 q7 q8 hl d1 d2 d3 d4 hin hms hmd hms0 hmd0 hec h0
    go_wp2_with (first
      | (go_at_call 28; refine (HMD.out w3 hb3).mono ?_; rintro e w4 ⟨rfl, hb4'⟩; have hb4 := hb3.trans (hb4'.mono hb3.size))
      | (go_at_call 27; refine (HMS.out w2 hb2).mono ?_; rintro e w3 ⟨rfl, hb3'⟩; have hb3 := hb2.trans (hb3'.mono hb2.size); clear c0 c1 c2 c3 c4 c5 c6; obtain ⟨c0, c1, c2, c3, c4, c5, c6⟩ := HBB.out w3 hb3))
    clear c0 c1 c2 c3 c4 c5 c6
    go_loopw [39] (fun i wr => i = .int .i64 0 ∧ Below w4.heap.size w4 wr) (fun _ _ => 0)
    case atStart => exact ⟨rfl, Below.refl _ _⟩
    case round =>
      rename World => wr
      obtain ⟨rfl, hbr⟩ := hrel
      have hb4r := hb4.trans (hbr.mono hb4.size)
      clear hbr
      go_wp2_with (go_at_call 21; refine (HAW.out wr hb4r).mono ?_; rintro e w9 ⟨rfl, hb9⟩)
      go_ret
      exact ⟨rfl, HB.out.trans ((hb4r.trans (hb9.mono hb4r.size)).mono HB.out.size)⟩
end Go.Proofs.YtndkcimajeofcaaGreatDoor
