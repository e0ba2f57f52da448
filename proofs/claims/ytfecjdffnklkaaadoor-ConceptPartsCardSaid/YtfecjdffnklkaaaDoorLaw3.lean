import Derived.Test.YtfecjdffnklkaaaDoorCSubs
import Derived.Test.YtfecjdffnklkaaaDoorRUs
import Derived.Test.YtfecjdffnklkaaaDoorInts
import Derived.Test.YtfecjdffnklkaaaDoorPlain
namespace Go.Proofs.YtfecjdffnklkaaaDoor
open Go.RowKit

set_option maxRecDepth 100000 in
set_option maxHeartbeats 4000000 in
theorem ConceptParts_any (n : NM) (T : MT) (w : World) (hG : G w) (hn : n.In w.heap.size w) (hT : T.In w.heap.size w) :
    Calls Tryd.prog 5 #[n.val, T.val] w fun e w' => e = .returned (.bool true) ∧ Below w.heap.size w w' := by
  obtain ⟨W1, W2, hW1, hs1, hW2, hs2, hB, hcell⟩ := two_boxes n T w
  have hn2 := hn.later hB
  have hT2 := hT.later hB
  have hG2 := hG.later hB
  have hfe := FewNames_any n W2 hn2
  have hfi := fun w1 (hb : Below W2.heap.size W2 w1) => Fits_any T 3000 w1 (hT2.later hb) (by omega) (by omega)
  have haw := fun w1 (hb : Below W2.heap.size W2 w1) => awake_any w1 (hG2.later hb)
  obtain ⟨⟨a0, a1, a2⟩, b0, b1, b2⟩ := hcell W2 (Below.refl _ _)
  simp only [fits_size] at hfi
  simp only [NM.val, MT.val] at hfe hfi ⊢
  rcases hf : fewB n
  · rw [hf] at hfe
    clear hf
    go_enter Tryd.func5, Tryd.ntmps5
    go_wp2_with (first | (go_at_call 9; refine hfe.mono ?_; rintro e w1 ⟨rfl, hb01⟩) | (go_at_call 11; refine (haw _ hb01).mono ?_; rintro e w99 ⟨rfl, hb99⟩))
    go_ret
    exact ⟨rfl, hB.trans ((thn hb01 hb99).mono (by omega))⟩
  · have hl := few_lens hf
    rw [hf] at hfe
    by_cases hsz : (T.tr.size : Int) ≤ 3000
    · rw [decide_eq_true hsz] at hfi
      have hfa := fun w1 (hb : Below W2.heap.size W2 w1) => fault_any n T w1 (hn2.later hb) (hT2.later hb) (by omega) ⟨by omega, by omega, by omega⟩
      have hpl : (T.pre 1).length ≤ 1000000 := by rw [MT.pre_length]; omega
      by_cases hck : checkF n T = 0
      · have hsu := fun w1 (hb : Below W2.heap.size W2 w1) => cSubs_ok n T w1 (hG2.later hb) (hn2.later hb) (hT2.later hb) hpl hck
        have hus := fun w1 (hb : Below W2.heap.size W2 w1) => cUses_ok n T w1 (hG2.later hb) (hn2.later hb) (hT2.later hb) hpl hck
        have hck2 : checkT n T.tr = 0 := by rw [← checkF_eq]; exact hck
        rw [hck2] at hfa
        have hrs := fun w1 (hb : Below W2.heap.size W2 w1) => rSubs_any w1.heap.size T 1 (.slice none 0 0) [] w1 (hT2.later hb) (Nat.le_refl _) ⟨rfl, .inl ⟨rfl, rfl⟩⟩ (by simp) (by simpa using hpl)
        have hru := fun w1 (hb : Below W2.heap.size W2 w1) => rUses_any w1.heap.size T 1 (.slice none 0 0) (.slice none 0 0) [] [] w1 (hT2.later hb) (Nat.le_refl _) ⟨⟨rfl, .inl ⟨rfl, rfl⟩⟩, ⟨rfl, .inl ⟨rfl, rfl⟩⟩, .inl rfl⟩ (by simpa using hpl) (by simpa using hpl)
        obtain ⟨Ms, hMs⟩ : ∃ Ms, foldS (T.pre 1) [] = Ms := ⟨_, rfl⟩
        have hmt : Ms.map MT.tr = foldP (T.pre 1) := by rw [← hMs]; exact foldS_foldP _
        obtain ⟨xa, hxa⟩ : ∃ xa, ascL (usesC (T.pre 1)) = xa := ⟨_, rfl⟩
        obtain ⟨xb, hxb⟩ : ∃ xb, ascL (usesR (T.pre 1)) = xb := ⟨_, rfl⟩
        rw [hMs] at hrs
        simp only [NM.val, MT.val] at hfa hsu hus hrs hru
        clear hck hck2 hMs
        have HMT := Lib.hid hmt
        have HXA := Lib.hid hxa
        have HXB := Lib.hid hxb
        clear hmt hxa hxb
        go_enter Tryd.func5, Tryd.ntmps5
        go_wp2_with (first | (go_at_call 9; refine hfe.mono ?_; rintro e w1 ⟨rfl, hb01⟩; obtain ⟨⟨c0, c1, c2⟩, d0, d1, d2⟩ := hcell w1 hb01) | (go_at_call 10; refine (hfi _ hb01).mono ?_; rintro e w2 ⟨rfl, hb2⟩; have hb02 := thn hb01 hb2; obtain ⟨⟨c0, c1, c2⟩, d0, d1, d2⟩ := hcell w2 hb02) | (go_at_call 24; refine (hsu _ hb02).mono ?_; rintro e w3 ⟨lv, Ls, lo, rfl, hlo, hcoll, hmap, hb3⟩; have HMAP := Lib.hid hmap; clear hmap; obtain ⟨lA, lc, rfl, hll, -, hlr⟩ := TRow.cells hcoll.own; have HCO := Lib.hid hcoll; have HLR := Lib.hid hlr; clear hcoll hlr; have hb03 := thn hb02 hb3; obtain ⟨⟨c0, c1, c2⟩, d0, d1, d2⟩ := hcell w3 hb03) | (go_at_call 25; refine (hus _ hb03).mono ?_; rintro e w4 ⟨av, bv, rfl, hav, hbv, -, hb4⟩; rw [HXA.out] at hav; rw [HXB.out] at hbv; have hb04 := thn hb03 hb4; obtain ⟨⟨c0, c1, c2⟩, d0, d1, d2⟩ := hcell w4 hb04) | (go_at_call 17; refine (hfa _ hb04).mono ?_; rintro e w5 ⟨rfl, hb5⟩; have hb05 := thn hb04 hb5; obtain ⟨⟨c0, c1, c2⟩, d0, d1, d2⟩ := hcell w5 hb05) | (go_at_call 26; refine (hrs _ hb05).mono ?_; rintro e w6 ⟨mv, rfl, hmrow, hmin, hb6⟩; obtain ⟨mA, mc, rfl, hml, -, hmr⟩ := TRow.cells hmrow; have HMI := Lib.hid hmin; have HMR := Lib.hid hmr; clear hmin hmr; have hlen : Ls.length = Ms.length := (by have h := congrArg List.length (HMAP.out.trans HMT.out.symm); simpa using h); have hne : ((Ls.length : Int) != (Ms.length : Int)) = false := (by rw [hlen]; simp); have HLE := Lib.hid hlen; clear hlen; have hb06 := thn hb05 hb6; obtain ⟨⟨c0, c1, c2⟩, d0, d1, d2⟩ := hcell w6 hb06) | (go_at_call 27; refine (hru _ hb06).mono ?_; rintro e w7 ⟨xv, yv, rfl, ⟨hxv, hyv, -⟩, hb7⟩; rw [← asc_fold, HXA.out] at hxv; rw [← asc_fold, HXB.out] at hyv; have hb07 := thn hb06 hb7) | (go_at_call 28; first | (refine (SameInts_any bv yv xb w8 (owns_below (owns_below (owns_below (owns_below (owns_below hbv hb5) hb6) hb7) hb8) (Below.refl _ _)) (owns_below hyv hb8)).mono ?_; rintro e w9 ⟨rfl, hb9⟩; have hb09 := thn hb08 hb9) | (refine (SameInts_any av xv xa w7 (owns_below (owns_below (owns_below hav hb5) hb6) hb7) hxv).mono ?_; rintro e w8 ⟨rfl, hb8⟩; have hb08 := thn hb07 hb8)))
        have hb69 : Below w6.heap.size w6 w9 := thn (thn hb7 hb8) hb9
        have hb39 : Below w3.heap.size w3 w9 := thn (thn (thn hb4 hb5) hb6) hb69
        go_loopw [92] (fun i wr => ∃ k : Nat, k ≤ Ls.length ∧ i = .int .i64 k ∧ Below w9.heap.size w9 wr) (fun i _ => Ls.length - (intOf i).toNat)
        case atStart => exact ⟨0, Nat.zero_le _, rfl, Below.refl _ _⟩
        case round =>
          obtain ⟨k, hk, rfl, hbr⟩ := hrel
          by_cases hlt : k < Ls.length
          · have hlt2 : k < Ms.length := by rw [← HLE.out]; exact hlt
            obtain ⟨lb, loff, rfl, -, g0, g1, g2⟩ := elem3 HLR.out (thn hb39 hbr) hlt
            obtain ⟨mb, moff, rfl, -, k0, k1, k2⟩ := elem3 HMR.out (thn hb69 hbr) hlt2
            have hb0r := thn hb09 hbr
            have htr : Ls[k].tr = Ms[k].tr := by
              have h := HMAP.out.trans HMT.out.symm
              have h1 := congrArg (fun l => l[k]?) h
              simpa [List.getElem?_map, List.getElem?_eq_getElem hlt, List.getElem?_eq_getElem hlt2] using h1
            have hsa : Calls Tryd.prog 19 #[Ls[k].val, Ms[k].val] wr.drew fun e w' => e = .returned (.bool true) ∧ Below wr.drew.heap.size wr.drew w' := by
              have h1 : (Ls[k]).In wr.heap.size wr := ((HCO.out.trees _ (List.getElem_mem hlt)).1.1).later (thn hb39 hbr)
              have h2 : (Ms[k]).In wr.heap.size wr := ((HMI.out _ (List.getElem_mem hlt2)).more hb6.size).later (thn hb69 hbr)
              have h := rSame_any Ls[k] Ms[k] wr.drew (h1.later (Below.refl _ wr).drew) (h2.later (Below.refl _ wr).drew)
              rw [htr, beq_self] at h
              exact h
            simp only [MT.val] at hsa
            go_wp2_with fail
            go_still_tail 8, (by kernel_rfl)
            change wpList _ _ _ _ _ wr.drew
            go_wp2_with (go_at_call 19; refine hsa.mono ?_; clear hsa; rintro e w' ⟨rfl, hb2⟩)
            go_roundw
            case rel => exact ⟨k + 1, by omega, by go_num, hbr.drew.trans (hb2.mono hbr.drew.size)⟩
            case measure => simp [intOf]; omega
          · go_wp2_with (go_at_call 11; refine (haw _ (thn hb09 hbr)).mono ?_; rintro e w99 ⟨rfl, hb99⟩)
            go_ret
            exact ⟨rfl, hB.trans ((thn (thn hb09 hbr) hb99).mono (by omega))⟩
      · have hsu := fun w1 (hb : Below W2.heap.size W2 w1) => cSubs_bad n T w1 (hG2.later hb) (hn2.later hb) (hT2.later hb) hpl hck
        have hus := fun w1 (hb : Below W2.heap.size W2 w1) => cUses_bad n T w1 (hG2.later hb) (hn2.later hb) (hT2.later hb) hpl hck
        have hck1 : (checkF n T != 0) = true := by simpa using hck
        have hck0 : (checkF n T != checkF n T) = false := by simp
        rw [← checkF_eq] at hfa
        generalize checkF n T = ck at hsu hus hfa hck1 hck0
        simp only [NM.val, MT.val] at hfa hsu hus
        clear hck
        go_enter Tryd.func5, Tryd.ntmps5
        go_wp2_with (first | (go_at_call 9; refine hfe.mono ?_; rintro e w1 ⟨rfl, hb01⟩; obtain ⟨⟨c0, c1, c2⟩, d0, d1, d2⟩ := hcell w1 hb01) | (go_at_call 10; refine (hfi _ hb01).mono ?_; rintro e w2 ⟨rfl, hb2⟩; have hb02 := thn hb01 hb2; obtain ⟨⟨c0, c1, c2⟩, d0, d1, d2⟩ := hcell w2 hb02) | (go_at_call 24; refine (hsu _ hb02).mono ?_; rintro e w3 ⟨rfl, hb3⟩; have hb03 := thn hb02 hb3; obtain ⟨⟨c0, c1, c2⟩, d0, d1, d2⟩ := hcell w3 hb03) | (go_at_call 25; refine (hus _ hb03).mono ?_; rintro e w4 ⟨rfl, hb4⟩; have hb04 := thn hb03 hb4; obtain ⟨⟨c0, c1, c2⟩, d0, d1, d2⟩ := hcell w4 hb04) | (go_at_call 17; refine (hfa _ hb04).mono ?_; rintro e w5 ⟨rfl, hb5⟩; have hb05 := thn hb04 hb5; obtain ⟨⟨c0, c1, c2⟩, d0, d1, d2⟩ := hcell w5 hb05) | (go_at_call 11; refine (haw _ hb05).mono ?_; rintro e w99 ⟨rfl, hb99⟩))
        go_ret
        exact ⟨rfl, hB.trans ((thn hb05 hb99).mono (by omega))⟩
    · rw [decide_eq_false hsz] at hfi
      go_enter Tryd.func5, Tryd.ntmps5
      go_wp2_with (first | (go_at_call 9; refine hfe.mono ?_; rintro e w1 ⟨rfl, hb01⟩; obtain ⟨⟨c0, c1, c2⟩, d0, d1, d2⟩ := hcell w1 hb01) | (go_at_call 10; refine (hfi _ hb01).mono ?_; rintro e w2 ⟨rfl, hb2⟩; have hb02 := thn hb01 hb2) | (go_at_call 11; refine (haw _ hb02).mono ?_; rintro e w3 ⟨rfl, hb3⟩))
      go_ret
      exact ⟨rfl, hB.trans ((thn hb02 hb3).mono (by omega))⟩
end Go.Proofs.YtfecjdffnklkaaaDoor
