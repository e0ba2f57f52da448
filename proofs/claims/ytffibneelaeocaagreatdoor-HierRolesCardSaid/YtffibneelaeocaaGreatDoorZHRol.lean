import Derived.Test.YtffibneelaeocaaGreatDoorGde6adcc449
import Derived.Test.YtffibneelaeocaaGreatDoorG1d4c3006f2
import Derived.Test.YtffibneelaeocaaGreatDoorG48b66c57ad
import Derived.Test.YtffibneelaeocaaGreatDoorGfdb559d2b4
import Derived.Test.YtffibneelaeocaaGreatDoorG71bcea63b6
import Derived.Test.YtffibneelaeocaaGreatDoorG13762c9901
import Derived.Test.YtffibneelaeocaaGreatDoorG60eef7956c
namespace Go.Proofs.YtffibneelaeocaaGreatDoor
open Go.RowKit
attribute [local go_sem ↓] Go.wp_at_zero Go.wp_at_succ

theorem int_info5 : (Tryz.prog.info? 3).map (fun i => (i.zero, i.size, i.bytes)) = some (some (.int .i64 0), 1, 8) := by kernel_rfl
theorem up_has {E : Nat → Nat → Bool} {n r s : Nat} (hs : s < n) : (((upL E n r).map fun (x : Nat) => (x : Int)).contains (s : Int)) = fw E n r s := by
  rw [Bool.eq_iff_iff, List.contains_iff_mem, List.mem_map]
  constructor
  · rintro ⟨y, hy, e⟩
    obtain ⟨-, h⟩ := mem_upL.1 hy
    rw [← (show y = s by omega)]; exact h
  · intro h
    exact ⟨s, mem_upL.2 ⟨hs, h⟩, rfl⟩
/-- The first numbers of which p is true. -/
def upK (p : Nat → Bool) (k : Nat) : List Nat := (List.range k).filter p
theorem upK_next (p : Nat → Bool) (k : Nat) : upK p (k + 1) = upK p k ++ if p k then [k] else [] := by
  unfold upK
  rw [List.range_succ, List.filter_append]
  cases h : p k <;> simp [h]
theorem upK_len (p : Nat → Bool) (k : Nat) : (upK p k).length ≤ k := by
  have := List.length_filter_le p (List.range k)
  rw [List.length_range] at this
  exact this
theorem mcheck_nil (b : BN) : mcheckC b [] = if kcheckB b then 0 else 20 := by rw [mcheckC]; cases kcheckB b <;> rfl

set_option maxRecDepth 100000 in
set_option maxHeartbeats 16000000 in
theorem HierRoles_any (b : BN) (r s : Int) (w : World) (hG : G w) (hGT : GT w) (hb : b.In w.heap.size w) :
    Calls Tryz.prog 4 #[b.val, .int .i64 r, .int .i64 s] w fun e w' => e = .returned (.bool true) ∧ Below w.heap.size w w' := by
  obtain ⟨W1, hW1, hB1, hs1, hk1⟩ := newBlk w _ rfl #[.slice b.N.C.A b.N.C.l.length b.N.C.c, .slice b.N.R.A b.N.R.l.length b.N.R.c, .slice b.N.I.A b.N.I.l.length b.N.I.c, .slice b.IA b.I.length b.ic, .slice b.R.A b.R.l.length b.R.c, .slice b.FA b.F.length b.fc, .slice b.L.A b.L.l.length b.L.c] 30
  have hbb := fun w' (h : Below W1.heap.size W1 w') => bbox_of (b := b) (blk_lat hk1 h)
  have hb1 := hb.later hB1
  have hG1 := hG.later hB1
  have hGT1 := hGT.later hB1
  have hmn : ∀ w' : World, (ML.mk none 0 []).In w'.heap.size w' := fun w' => ⟨Nat.le_refl _, by simp, fun _ => rfl, RowAt.nil _ _ _ _, by simp⟩
  have haw := fun w' (h : Below W1.heap.size W1 w') => awake5_any w' (hG1.later h) (hGT1.later h)
  have hfw := few5_any b ⟨none, 0, []⟩ W1 hb1 (hmn W1)
  obtain ⟨c0, c1, c2, c3, c4, c5, c6⟩ := hbb W1 (Below.refl _ _)
  have HB := Lib.hid hB1
  have HBB := Lib.hid hbb
  have HAW := Lib.hid haw
  have HD := Lib.hid (And.intro hb1 (And.intro hG1 hGT1))
  have HMN := Lib.hid hmn
  simp only [BN.val, List.length_nil] at hfw ⊢
  clear hbb hB1 hk1 haw hb1 hG1 hGT1 hb hG hGT hmn
  go_enter Tryz.func4, Tryz.ntmps4
  go_wp2_with (go_at_call 25; refine hfw.mono ?_; clear hfw; rintro e w2 ⟨⟨x, rfl, hx⟩, hb2⟩; clear c0 c1 c2 c3 c4 c5 c6; obtain ⟨c0, c1, c2, c3, c4, c5, c6⟩ := HBB.out w2 hb2; cases x)
  · go_wp2_with (go_at_call 26; refine (HAW.out w2 hb2).mono ?_; rintro e w3 ⟨rfl, hb3⟩)
    go_ret
    exact ⟨rfl, HB.out.trans ((hb2.trans (hb3.mono hb2.size)).mono HB.out.size)⟩
  obtain ⟨q1, q2, q3, q4, q5, q6, -, -⟩ := hx (by first | rfl | trivial)
  have hl := few_lens5 q1
  obtain ⟨d1, d2, d3⟩ := HD.out
  have hin : ∀ w', Below W1.heap.size W1 w' → HIn b ⟨none, 0, []⟩ w' := fun w' h => ⟨d2.later h, d3.later h, d1.later h, HMN.out w', by omega, by omega, by omega, by omega, by omega, fun x hx => Nat.le_trans (q6 x hx) (by decide), by simp, by simp⟩
  have hbe := fun w' (h : Below W1.heap.size W1 w') => hBelow_any b ⟨none, 0, []⟩ r s w' (hin w' h)
  have hao := fun w' (h : Below W1.heap.size W1 w') => hAbove_any b ⟨none, 0, []⟩ r w' (hin w' h)
  have hfa := fun w' (h : Below W1.heap.size W1 w') => rFault5_any b ⟨none, 0, []⟩ w' (d1.later h) (HMN.out w') (by omega) (by omega) (by omega) (by omega) ⟨by omega, by omega, by omega⟩ (fun x hx => Nat.le_trans (q6 x hx) (by decide)) (by simp) (by simp)
  have hro := fun x w' => rRole_any b.N x w' (by omega)
  have hrB : ∀ x, (decide (0 ≤ x) && decide (x < 2 * (b.N.R.l.length : Int))) = roleB b x := fun x => rfl
  simp only [hrB] at hro
  simp only [mcheck_nil] at hfa
  have HBE := Lib.hid hbe
  have HAO := Lib.hid hao
  have HFA := Lib.hid hfa
  have HRO := Lib.hid hro
  simp only [BN.val, NM.val, List.length_nil] at HBE HAO HFA HRO
  clear hx q1 q2 q3 q4 q5 q6 hl d2 d3 hin hbe hao hfa hro hrB
  rcases hkc : kcheckB b
  · have e1 : hbE b r s = 20 := by rw [hbE, hkc]; rfl
    have e2 : hbV b r s = false := by rw [hbV, e1]; rfl
    have e3 : haE b r = 20 := by rw [haE, hkc]; rfl
    simp only [hkc] at HFA
    simp only [e1, e2] at HBE
    have HE3 := Lib.hid e3
    clear e1 e2 e3 hkc d1
    go_wp2_with (first
      | (go_at_call 28; refine (HAO.out w3 hb3).mono ?_; rintro e w4 ⟨hb4', (⟨hz, -⟩ | ⟨-, rfl⟩)⟩; (exact absurd hz (by rw [HE3.out]; decide)); rw [HE3.out]; have hb4 := hb3.trans (hb4'.mono hb3.size); clear c0 c1 c2 c3 c4 c5 c6)
      | (go_at_call 27; refine (HBE.out w2 hb2).mono ?_; rintro e w3 ⟨rfl, hb3'⟩; have hb3 := hb2.trans (hb3'.mono hb2.size); clear c0 c1 c2 c3 c4 c5 c6; obtain ⟨c0, c1, c2, c3, c4, c5, c6⟩ := HBB.out w3 hb3))
    have hb4d : Below W1.heap.size W1 w4.drew := hb4.drew
    go_region_held (fun w' => (w'.cell? ⟨w.heap.size, 0, none⟩ = some (.slice b.N.C.A b.N.C.l.length b.N.C.c) ∧ w'.cell? ⟨w.heap.size, 1, none⟩ = some (.slice b.N.R.A b.N.R.l.length b.N.R.c) ∧ w'.cell? ⟨w.heap.size, 2, none⟩ = some (.slice b.N.I.A b.N.I.l.length b.N.I.c) ∧ w'.cell? ⟨w.heap.size, 3, none⟩ = some (.slice b.IA b.I.length b.ic) ∧ w'.cell? ⟨w.heap.size, 4, none⟩ = some (.slice b.R.A b.R.l.length b.R.c) ∧ w'.cell? ⟨w.heap.size, 5, none⟩ = some (.slice b.FA b.F.length b.fc) ∧ w'.cell? ⟨w.heap.size, 6, none⟩ = some (.slice b.L.A b.L.l.length b.L.c)))
      (first | exact HBB.out _ hb4d | exact HBB.out _ hb5 | exact HBB.out _ hb6)
      (first
        | (have _k := tokF; go_at_call 29; refine (HFA.out w5 hb5).mono ?_; rintro e w6 ⟨rfl, hb6'⟩; have hb6 := hb5.trans (hb6'.mono hb5.size))
        | (go_at_call 29; refine (HFA.out w4.drew hb4d).mono ?_; rintro e w5 ⟨rfl, hb5'⟩; have hb5 := hb4d.trans (hb5'.mono hb4d.size); have tokF := True.intro))
    obtain ⟨c0, c1, c2, c3, c4, c5, c6⟩ := HBB.out w6 hb6
    go_wp2_with (first
      | (go_at_call 26; refine (HAW.out w8 hb8).mono ?_; rintro e w9 ⟨rfl, hb9⟩)
      | (go_at_call 22; refine (SameInts_any (b1 := 0) (b2 := 0) (.slice none 0 0) (.slice none 0 0) [] w6 ⟨rfl, .inl ⟨rfl, rfl⟩⟩ ⟨rfl, .inl ⟨rfl, rfl⟩⟩).mono ?_; rintro e w8 ⟨rfl, hb8'⟩; have hb8 := hb6.trans (hb8'.mono hb6.size)))
    go_ret
    exact ⟨rfl, HB.out.trans ((hb8.trans (hb9.mono hb8.size)).mono HB.out.size)⟩
  · obtain ⟨hok, -, -, -, hR60⟩ := kchk_ok hkc
    have hnr := (ok_bounds hok).2.1
    simp only [hkc, if_true] at HFA
    rcases qr : roleB b r
    · have e1 : hbE b r s = 1 := by rw [hbE, hkc, qr]; rfl
      have e2 : hbV b r s = false := by rw [hbV, e1]; rfl
      have e3 : haE b r = 1 := by rw [haE, hkc, qr]; rfl
      have hr1 := HRO.out r
      rw [qr] at hr1
      simp only [e1, e2] at HBE
      have HE3 := Lib.hid e3
      have HR1 := Lib.hid hr1
      clear e1 e2 e3 hkc d1 hr1 qr hok hR60
      go_wp2_with (first
        | (go_at_call 28; refine (HAO.out w3 hb3).mono ?_; rintro e w4 ⟨hb4', (⟨hz, -⟩ | ⟨-, rfl⟩)⟩; (exact absurd hz (by rw [HE3.out]; decide)); rw [HE3.out]; have hb4 := hb3.trans (hb4'.mono hb3.size); clear c0 c1 c2 c3 c4 c5 c6)
        | (go_at_call 27; refine (HBE.out w2 hb2).mono ?_; rintro e w3 ⟨rfl, hb3'⟩; have hb3 := hb2.trans (hb3'.mono hb2.size); clear c0 c1 c2 c3 c4 c5 c6; obtain ⟨c0, c1, c2, c3, c4, c5, c6⟩ := HBB.out w3 hb3))
      have hb4d : Below W1.heap.size W1 w4.drew := hb4.drew
      go_region_held (fun w' => (w'.cell? ⟨w.heap.size, 0, none⟩ = some (.slice b.N.C.A b.N.C.l.length b.N.C.c) ∧ w'.cell? ⟨w.heap.size, 1, none⟩ = some (.slice b.N.R.A b.N.R.l.length b.N.R.c) ∧ w'.cell? ⟨w.heap.size, 2, none⟩ = some (.slice b.N.I.A b.N.I.l.length b.N.I.c) ∧ w'.cell? ⟨w.heap.size, 3, none⟩ = some (.slice b.IA b.I.length b.ic) ∧ w'.cell? ⟨w.heap.size, 4, none⟩ = some (.slice b.R.A b.R.l.length b.R.c) ∧ w'.cell? ⟨w.heap.size, 5, none⟩ = some (.slice b.FA b.F.length b.fc) ∧ w'.cell? ⟨w.heap.size, 6, none⟩ = some (.slice b.L.A b.L.l.length b.L.c)))
        (first | exact HBB.out _ hb4d | exact HBB.out _ hb5 | exact HBB.out _ hb6)
        (first
          | (have _k := tokF; go_at_call 29; refine (HFA.out w5 hb5).mono ?_; rintro e w6 ⟨rfl, hb6'⟩; have hb6 := hb5.trans (hb6'.mono hb5.size))
          | (go_at_call 29; refine (HFA.out w4.drew hb4d).mono ?_; rintro e w5 ⟨rfl, hb5'⟩; have hb5 := hb4d.trans (hb5'.mono hb4d.size); have tokF := True.intro))
      obtain ⟨c0, c1, c2, c3, c4, c5, c6⟩ := HBB.out w6 hb6
      go_wp2_with (first
        | (go_at_call 26; refine (HAW.out w10 hb10).mono ?_; rintro e w11 ⟨rfl, hb11⟩)
        | (go_at_call 22; refine (SameInts_any (b1 := 0) (b2 := 0) (.slice none 0 0) (.slice none 0 0) [] w8 ⟨rfl, .inl ⟨rfl, rfl⟩⟩ ⟨rfl, .inl ⟨rfl, rfl⟩⟩).mono ?_; rintro e w10 ⟨rfl, hb10'⟩; have hb10 := hb8.trans (hb10'.mono hb8.size))
        | (have _k := tokR; go_at_call 30; refine (HR1.out w7).mono ?_; rintro e w8 ⟨rfl, hb8'⟩; have hb8 := hb7.trans (hb8'.mono hb7.size); clear c0 c1 c2 c3 c4 c5 c6)
        | (go_at_call 30; refine (HR1.out w6).mono ?_; rintro e w7 ⟨rfl, hb7'⟩; have hb7 := hb6.trans (hb7'.mono hb6.size); clear c0 c1 c2 c3 c4 c5 c6; obtain ⟨c0, c1, c2, c3, c4, c5, c6⟩ := HBB.out w7 hb7; have tokR := True.intro))
      go_ret
      exact ⟨rfl, HB.out.trans ((hb10.trans (hb11.mono hb10.size)).mono HB.out.size)⟩
    · have hrb := qr
      simp only [roleB, Bool.and_eq_true, decide_eq_true_eq] at hrb
      obtain ⟨j, rfl⟩ := Int.eq_ofNat_of_zero_le hrb.1
      obtain ⟨n, hn⟩ : ∃ n, 2 * b.N.R.l.length = n := ⟨_, rfl⟩
      have hn2 : 2 * (b.N.R.l.length : Int) = (n : Int) := by omega
      have hn12 : n ≤ 12 := by omega
      have hjn : j < n := by omega
      have h0j : (0 : Int) ≤ j := by omega
      have hlj : (j : Int) < n := by omega
      have hri := roles_in hkc
      rw [hn] at hri
      have hor := fun w' (h : Below W1.heap.size W1 w') => rOrder_any b n w' (d1.later h) hn2 hn12 hR60 hri
      have hup : upB b j = upK (fw (edge b.R.l) n j) n := by rw [upB, hn, upL, upK]; rfl
      have e3 : haE b j = 0 := by rw [haE, hkc, qr]; rfl
      have hr1 := HRO.out j
      rw [qr] at hr1
      obtain ⟨i0, hi0, hz0, hz1, hz2⟩ := info_parts int_info5
      have HE3 := Lib.hid e3
      have HR1 := Lib.hid hr1
      have HUP := Lib.hid hup
      have HOR := Lib.hid hor
      simp only [BN.val] at HOR
      rcases qs : roleB b s
      · have e1 : hbE b j s = 1 := by rw [hbE, hkc, qr, qs]; rfl
        have e2 : hbV b j s = false := by rw [hbV, e1]; rfl
        have hr2 := HRO.out s
        rw [qs] at hr2
        simp only [e1, e2] at HBE
        have HR2 := Lib.hid hr2
        clear e1 e2 e3 hkc d1 hr1 hr2 qr qs hok hR60 hup hor hri hrb
        go_wp2_with (first
          | (go_at_call 28; refine (HAO.out w3 hb3).mono ?_; rintro e w4 ⟨hb4', (⟨-, v4, rfl, ho4⟩ | ⟨hne, -⟩)⟩; (rotate_left; exact absurd HE3.out hne); have hb4 := hb3.trans (hb4'.mono hb3.size); have hop4 := owns_lower ho4 (Nat.le_refl _); clear c0 c1 c2 c3 c4 c5 c6)
          | (go_at_call 27; refine (HBE.out w2 hb2).mono ?_; rintro e w3 ⟨rfl, hb3'⟩; have hb3 := hb2.trans (hb3'.mono hb2.size); clear c0 c1 c2 c3 c4 c5 c6; obtain ⟨c0, c1, c2, c3, c4, c5, c6⟩ := HBB.out w3 hb3))
        have hb4d : Below W1.heap.size W1 w4.drew := hb4.drew
        go_region_held (fun w' => (w'.cell? ⟨w.heap.size, 0, none⟩ = some (.slice b.N.C.A b.N.C.l.length b.N.C.c) ∧ w'.cell? ⟨w.heap.size, 1, none⟩ = some (.slice b.N.R.A b.N.R.l.length b.N.R.c) ∧ w'.cell? ⟨w.heap.size, 2, none⟩ = some (.slice b.N.I.A b.N.I.l.length b.N.I.c) ∧ w'.cell? ⟨w.heap.size, 3, none⟩ = some (.slice b.IA b.I.length b.ic) ∧ w'.cell? ⟨w.heap.size, 4, none⟩ = some (.slice b.R.A b.R.l.length b.R.c) ∧ w'.cell? ⟨w.heap.size, 5, none⟩ = some (.slice b.FA b.F.length b.fc) ∧ w'.cell? ⟨w.heap.size, 6, none⟩ = some (.slice b.L.A b.L.l.length b.L.c)))
          (first | exact HBB.out _ hb4d | exact HBB.out _ hb5 | exact HBB.out _ hb6)
          (first
            | (have _k := tokF; go_at_call 29; refine (HFA.out w5 hb5).mono ?_; rintro e w6 ⟨rfl, hb6'⟩; have hb6 := hb5.trans (hb6'.mono hb5.size))
            | (go_at_call 29; refine (HFA.out w4.drew hb4d).mono ?_; rintro e w5 ⟨rfl, hb5'⟩; have hb5 := hb4d.trans (hb5'.mono hb4d.size); have tokF := True.intro))
        obtain ⟨c0, c1, c2, c3, c4, c5, c6⟩ := HBB.out w6 hb6
        have h4_6 : Below w4.heap.size w4 w6 := ((Below.refl _ _).drew.trans hb5').trans (hb6'.mono (by have := hb5'.size; exact this))
        go_wp2_with (first
          | (have _k := tokT; go_at_call 31; refine (HOR.out w10 hb10).mono ?_; rintro e w11 ⟨O, rfl, hmat, hb11'⟩; have hb11 := hb10.trans (hb11'.mono hb10.size); have h4_11 := h4_10.trans (hb11'.mono h4_10.size); have m0 := hmat.row hjn; clear c0 c1 c2 c3 c4 c5 c6)
          | (have _k := tokS; go_at_call 30; refine (HR1.out w8).mono ?_; rintro e w10 ⟨rfl, hb10'⟩; have hb10 := hb8.trans (hb10'.mono hb8.size); have h4_10 := h4_8.trans (hb10'.mono h4_8.size); clear c0 c1 c2 c3 c4 c5 c6; obtain ⟨c0, c1, c2, c3, c4, c5, c6⟩ := HBB.out w10 hb10; have tokT := True.intro)
          | (have _k := tokR; go_at_call 30; refine (HR2.out w7).mono ?_; rintro e w8 ⟨rfl, hb8'⟩; have hb8 := hb7.trans (hb8'.mono hb7.size); have h4_8 := h4_7.trans (hb8'.mono h4_7.size); clear c0 c1 c2 c3 c4 c5 c6; obtain ⟨c0, c1, c2, c3, c4, c5, c6⟩ := HBB.out w8 hb8; have tokS := True.intro)
          | (go_at_call 30; refine (HR1.out w6).mono ?_; rintro e w7 ⟨rfl, hb7'⟩; have hb7 := hb6.trans (hb7'.mono hb6.size); have h4_7 := h4_6.trans (hb7'.mono h4_6.size); clear c0 c1 c2 c3 c4 c5 c6; obtain ⟨c0, c1, c2, c3, c4, c5, c6⟩ := HBB.out w7 hb7; have tokR := True.intro))
        generalize fw (edge b.R.l) n = F at hmat HUP
        have HM := Lib.hid hmat
        have HOP := Lib.hid hop4
        have H11 := Lib.hid (And.intro hb11 h4_11)
        clear hmat m0 hb11' hop4 hb11 h4_11
        go_loopw [13, 73] (fun v i' wr => ∃ k : Nat, k ≤ n ∧ i' = .int .i64 (k : Nat) ∧ wr.ownsRow w11.heap.size 3 1 v (upK (F j) k).length (ncells (upK (F j) k)) ∧ Below w11.heap.size w11 wr) (fun _ i' _ => n - (intOf i').toNat)
        case atStart => exact ⟨0, Nat.zero_le _, rfl, ⟨rfl, .inl ⟨rfl, rfl⟩⟩, Below.refl _ _⟩
        case round =>
          rename World => wr
          obtain ⟨k, hk, rfl, hrow, hbw⟩ := hrel
          have h0k : (0 : Int) ≤ k := by omega
          by_cases hlk : k < n
          · have hlK : (k : Int) < n := by omega
            have hce := ((HM.out.below hbw (by have := HM.out.lt (r := n - 1) (by omega); omega)).rows j hjn).cell hlk
            have hlen := upK_len (F j) k
            have HQ0 := upK_next (F j) k
            obtain ⟨Q, hQ⟩ : ∃ Q, upK (F j) k = Q := ⟨_, rfl⟩
            rw [hQ] at hrow hlen HQ0
            have HQ := Lib.hid HQ0
            have HRW := Lib.hid hrow
            have hsw := hbw.size
            have HBW := Lib.hid hbw
            clear hQ hrow hbw HQ0
            rcases q : F j k
            · rw [q] at HQ hce
              clear q
              go_wp2_with fail
              go_roundw
              case rel => exact ⟨k + 1, by omega, by go_num, by have h := HQ.out; simp only [Bool.false_eq_true, if_false, List.append_nil] at h; rw [h]; exact HRW.out, HBW.out⟩
              case measure => simp [intOf]; omega
            · rw [q] at HQ hce
              clear q
              go_wp2_with (at_builtin; refine wpList_append_lies _ rfl _ _ 36 rfl w11.heap.size 3 i0 _ 1 8 Tryz.underlying36 hi0 hz0 hz1 hz2 rfl (by omega) _ Q.length (ncells Q) rfl (owns_below HRW.out ((Below.refl _ wr).alloc (Nat.le_refl _) (.cells #[.int .i64 (k : Nat)] 3))) ⟨wr.heap.size, 0, none⟩ 1 1 [.int .i64 (k : Nat)] rfl rfl (World.news_of_block (cs := #[.int .i64 (k : Nat)]) (t := 3) (fr := (0, 0)) (heap_alloc_new wr (.cells #[.int .i64 (k : Nat)] 3))) (by simp [Value.oneCell']) (by omega) (by unfold maxLen; omega) (by omega) (by simp; omega) (wr.heap.size + 1) (by simp) ?_; intro g12 cap w12 hown12 hg12 hat12 hlt12)
              have hb12 : Below w11.heap.size w11 w12 := (HBW.out.alloc (by omega) _).grown hg12 (by simp; omega) (fun k e => (own_lt HRW.out e).1)
              refine ⟨⟨k + 1, by omega, by go_num, ?_, hb12⟩, by simp [intOf]; omega⟩
              have h := HQ.out
              simp only [if_true] at h
              rw [h, List.length_append, ncells, List.map_append]
              exact hown12
          · have hke : k = n := by omega
            subst hke
            have hv4 := owns_below HOP.out (H11.out.2.trans (hbw.mono H11.out.2.size))
            rw [HUP.out, ncells_int] at hv4
            rw [ncells_int] at hrow
            have hsi := SameInts_any v4 _ _ wr (by rw [List.length_map]; exact hv4) (by rw [List.length_map]; exact hrow)
            have HSI := Lib.hid hsi
            have HBW := Lib.hid (H11.out.1.trans (hbw.mono H11.out.1.size))
            clear hsi hv4 hrow hbw
            go_wp2_with (first
              | (go_at_call 26; refine (HAW.out w13 hb13).mono ?_; rintro e w14 ⟨rfl, hb14⟩)
              | (go_at_call 22; refine HSI.out.mono ?_; rintro e w13 ⟨rfl, hb13'⟩; have hb13 := HBW.out.trans (hb13'.mono HBW.out.size)))
            go_ret
            exact ⟨rfl, HB.out.trans ((hb13.trans (hb14.mono hb13.size)).mono HB.out.size)⟩
      · have hsb := qs
        simp only [roleB, Bool.and_eq_true, decide_eq_true_eq] at hsb
        obtain ⟨t, rfl⟩ := Int.eq_ofNat_of_zero_le hsb.1
        have htn : t < n := by omega
        have h0t : (0 : Int) ≤ t := by omega
        have hlt : (t : Int) < n := by omega
        have e1 : hbE b j t = 0 := by rw [hbE, hkc, qr, qs]; rfl
        have e2 : hbV b j t = fw (edge b.R.l) n j t := by rw [hbV, if_pos e1, HUP.out]; exact up_has htn
        obtain ⟨bv, hbv⟩ : ∃ x, fw (edge b.R.l) n j t = x := ⟨_, rfl⟩
        rw [hbv] at e2
        have hr2 := HRO.out t
        rw [qs] at hr2
        simp only [e1, e2] at HBE
        have HR2 := Lib.hid hr2
        have HBV := Lib.hid hbv
        clear e1 e2 e3 hkc d1 hr1 hr2 qr qs hok hR60 hup hor hri hrb hsb hbv
        go_wp2_with (first
          | (go_at_call 28; refine (HAO.out w3 hb3).mono ?_; rintro e w4 ⟨hb4', (⟨-, v4, rfl, ho4⟩ | ⟨hne, -⟩)⟩; (rotate_left; exact absurd HE3.out hne); have hb4 := hb3.trans (hb4'.mono hb3.size); have hop4 := owns_lower ho4 (Nat.le_refl _); clear c0 c1 c2 c3 c4 c5 c6)
          | (go_at_call 27; refine (HBE.out w2 hb2).mono ?_; rintro e w3 ⟨rfl, hb3'⟩; have hb3 := hb2.trans (hb3'.mono hb2.size); clear c0 c1 c2 c3 c4 c5 c6; obtain ⟨c0, c1, c2, c3, c4, c5, c6⟩ := HBB.out w3 hb3))
        have hb4d : Below W1.heap.size W1 w4.drew := hb4.drew
        go_region_held (fun w' => (w'.cell? ⟨w.heap.size, 0, none⟩ = some (.slice b.N.C.A b.N.C.l.length b.N.C.c) ∧ w'.cell? ⟨w.heap.size, 1, none⟩ = some (.slice b.N.R.A b.N.R.l.length b.N.R.c) ∧ w'.cell? ⟨w.heap.size, 2, none⟩ = some (.slice b.N.I.A b.N.I.l.length b.N.I.c) ∧ w'.cell? ⟨w.heap.size, 3, none⟩ = some (.slice b.IA b.I.length b.ic) ∧ w'.cell? ⟨w.heap.size, 4, none⟩ = some (.slice b.R.A b.R.l.length b.R.c) ∧ w'.cell? ⟨w.heap.size, 5, none⟩ = some (.slice b.FA b.F.length b.fc) ∧ w'.cell? ⟨w.heap.size, 6, none⟩ = some (.slice b.L.A b.L.l.length b.L.c)))
          (first | exact HBB.out _ hb4d | exact HBB.out _ hb5 | exact HBB.out _ hb6)
          (first
            | (have _k := tokF; go_at_call 29; refine (HFA.out w5 hb5).mono ?_; rintro e w6 ⟨rfl, hb6'⟩; have hb6 := hb5.trans (hb6'.mono hb5.size))
            | (go_at_call 29; refine (HFA.out w4.drew hb4d).mono ?_; rintro e w5 ⟨rfl, hb5'⟩; have hb5 := hb4d.trans (hb5'.mono hb4d.size); have tokF := True.intro))
        obtain ⟨c0, c1, c2, c3, c4, c5, c6⟩ := HBB.out w6 hb6
        have h4_6 : Below w4.heap.size w4 w6 := ((Below.refl _ _).drew.trans hb5').trans (hb6'.mono (by have := hb5'.size; exact this))
        go_wp2_with (first
          | (have _k := tokT; go_at_call 31; refine (HOR.out w10 hb10).mono ?_; rintro e w11 ⟨O, rfl, hmat, hb11'⟩; have hb11 := hb10.trans (hb11'.mono hb10.size); have h4_11 := h4_10.trans (hb11'.mono h4_10.size); have m0 := hmat.row hjn; clear c0 c1 c2 c3 c4 c5 c6)
          | (have _k := tokS; go_at_call 30; refine (HR1.out w9).mono ?_; rintro e w10 ⟨rfl, hb10'⟩; have hb10 := hb9.trans (hb10'.mono hb9.size); have h4_10 := h4_9.trans (hb10'.mono h4_9.size); clear c0 c1 c2 c3 c4 c5 c6; obtain ⟨c0, c1, c2, c3, c4, c5, c6⟩ := HBB.out w10 hb10; have tokT := True.intro)
          | (have _k := tokQ; go_at_call 31; refine (HOR.out w8 hb8).mono ?_; rintro e w9 ⟨O1, rfl, hmat1, hb9'⟩; have hb9 := hb8.trans (hb9'.mono hb8.size); have h4_9 := h4_8.trans (hb9'.mono h4_8.size); have m0 := hmat1.row hjn; have m1 := (hmat1.rows j hjn).cell htn; rw [HBV.out] at m1; clear c0 c1 c2 c3 c4 c5 c6; obtain ⟨c0, c1, c2, c3, c4, c5, c6⟩ := HBB.out w9 hb9; have tokS := True.intro)
          | (have _k := tokR; go_at_call 30; refine (HR2.out w7).mono ?_; rintro e w8 ⟨rfl, hb8'⟩; have hb8 := hb7.trans (hb8'.mono hb7.size); have h4_8 := h4_7.trans (hb8'.mono h4_7.size); clear c0 c1 c2 c3 c4 c5 c6; obtain ⟨c0, c1, c2, c3, c4, c5, c6⟩ := HBB.out w8 hb8; have tokQ := True.intro)
          | (go_at_call 30; refine (HR1.out w6).mono ?_; rintro e w7 ⟨rfl, hb7'⟩; have hb7 := hb6.trans (hb7'.mono hb6.size); have h4_7 := h4_6.trans (hb7'.mono h4_6.size); clear c0 c1 c2 c3 c4 c5 c6; obtain ⟨c0, c1, c2, c3, c4, c5, c6⟩ := HBB.out w7 hb7; have tokR := True.intro))
        generalize fw (edge b.R.l) n = F at hmat HUP
        have HM := Lib.hid hmat
        have HOP := Lib.hid hop4
        have H11 := Lib.hid (And.intro hb11 h4_11)
        clear hmat m0 hb11' hop4 hb11 h4_11
        go_loopw [13, 73] (fun v i' wr => ∃ k : Nat, k ≤ n ∧ i' = .int .i64 (k : Nat) ∧ wr.ownsRow w11.heap.size 3 1 v (upK (F j) k).length (ncells (upK (F j) k)) ∧ Below w11.heap.size w11 wr) (fun _ i' _ => n - (intOf i').toNat)
        case atStart => exact ⟨0, Nat.zero_le _, rfl, ⟨rfl, .inl ⟨rfl, rfl⟩⟩, Below.refl _ _⟩
        case round =>
          rename World => wr
          obtain ⟨k, hk, rfl, hrow, hbw⟩ := hrel
          have h0k : (0 : Int) ≤ k := by omega
          by_cases hlk : k < n
          · have hlK : (k : Int) < n := by omega
            have hce := ((HM.out.below hbw (by have := HM.out.lt (r := n - 1) (by omega); omega)).rows j hjn).cell hlk
            have hlen := upK_len (F j) k
            have HQ0 := upK_next (F j) k
            obtain ⟨Q, hQ⟩ : ∃ Q, upK (F j) k = Q := ⟨_, rfl⟩
            rw [hQ] at hrow hlen HQ0
            have HQ := Lib.hid HQ0
            have HRW := Lib.hid hrow
            have hsw := hbw.size
            have HBW := Lib.hid hbw
            clear hQ hrow hbw HQ0
            rcases q : F j k
            · rw [q] at HQ hce
              clear q
              go_wp2_with fail
              go_roundw
              case rel => exact ⟨k + 1, by omega, by go_num, by have h := HQ.out; simp only [Bool.false_eq_true, if_false, List.append_nil] at h; rw [h]; exact HRW.out, HBW.out⟩
              case measure => simp [intOf]; omega
            · rw [q] at HQ hce
              clear q
              go_wp2_with (at_builtin; refine wpList_append_lies _ rfl _ _ 36 rfl w11.heap.size 3 i0 _ 1 8 Tryz.underlying36 hi0 hz0 hz1 hz2 rfl (by omega) _ Q.length (ncells Q) rfl (owns_below HRW.out ((Below.refl _ wr).alloc (Nat.le_refl _) (.cells #[.int .i64 (k : Nat)] 3))) ⟨wr.heap.size, 0, none⟩ 1 1 [.int .i64 (k : Nat)] rfl rfl (World.news_of_block (cs := #[.int .i64 (k : Nat)]) (t := 3) (fr := (0, 0)) (heap_alloc_new wr (.cells #[.int .i64 (k : Nat)] 3))) (by simp [Value.oneCell']) (by omega) (by unfold maxLen; omega) (by omega) (by simp; omega) (wr.heap.size + 1) (by simp) ?_; intro g12 cap w12 hown12 hg12 hat12 hlt12)
              have hb12 : Below w11.heap.size w11 w12 := (HBW.out.alloc (by omega) _).grown hg12 (by simp; omega) (fun k e => (own_lt HRW.out e).1)
              refine ⟨⟨k + 1, by omega, by go_num, ?_, hb12⟩, by simp [intOf]; omega⟩
              have h := HQ.out
              simp only [if_true] at h
              rw [h, List.length_append, ncells, List.map_append]
              exact hown12
          · have hke : k = n := by omega
            subst hke
            have hv4 := owns_below HOP.out (H11.out.2.trans (hbw.mono H11.out.2.size))
            rw [HUP.out, ncells_int] at hv4
            rw [ncells_int] at hrow
            have hsi := SameInts_any v4 _ _ wr (by rw [List.length_map]; exact hv4) (by rw [List.length_map]; exact hrow)
            have HSI := Lib.hid hsi
            have HBW := Lib.hid (H11.out.1.trans (hbw.mono H11.out.1.size))
            clear hsi hv4 hrow hbw
            go_wp2_with (first
              | (go_at_call 26; refine (HAW.out w13 hb13).mono ?_; rintro e w14 ⟨rfl, hb14⟩)
              | (go_at_call 22; refine HSI.out.mono ?_; rintro e w13 ⟨rfl, hb13'⟩; have hb13 := HBW.out.trans (hb13'.mono HBW.out.size)))
            go_ret
            exact ⟨rfl, HB.out.trans ((hb13.trans (hb14.mono hb13.size)).mono HB.out.size)⟩
end Go.Proofs.YtffibneelaeocaaGreatDoor
