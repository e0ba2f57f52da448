import Derived.Test.YtneegmhcmegijaaDoorSameL
import Derived.Test.YtneegmhcmegijaaDoorFl0
namespace Go.Proofs.YtneegmhcmegijaaDoor
open Go.RowKit

theorem few_lens3 {n : NM} (h : fewB n = true) : n.C.l.length ≤ 100 ∧ n.R.l.length ≤ 100 ∧ n.I.l.length ≤ 100 := by
  simp only [fewB, fewL, Bool.and_eq_true, decide_eq_true_eq] at h
  exact ⟨h.1.1, h.2.1.1, h.2.2.1⟩
theorem same_nil (w : World) : Calls Tryd.prog 29 #[.slice none 0 0, .slice none 0 0] w fun e w' => e = .returned (.bool true) ∧ Below w.heap.size w w' := SamePairs_any ⟨none, 0, []⟩ ⟨none, 0, []⟩ w ⟨Nat.le_refl _, Nat.zero_le _, RowAt.nil _ _ _ _⟩ ⟨Nat.le_refl _, Nat.zero_le _, RowAt.nil _ _ _ _⟩ rfl
theorem icheck_zero {n : NM} {i : IN} (h : icheckF n i = 0) : n.ok = true ∧ 1 ≤ i.size ∧ i.size ≤ 256 ∧ i.C.length = n.C.l.length ∧ i.R.length = n.R.l.length ∧ i.I.l.length = n.I.l.length ∧ listsB i = true := by
  unfold icheckF at h
  cases hok : n.ok
  · rw [hok] at h; simp at h
  · rw [hok] at h
    cases hs : (shapeB n i && listsB i)
    · rw [hs] at h; simp at h
    · rw [Bool.and_eq_true] at hs
      have h1 := hs.1
      simp only [shapeB, Bool.and_eq_true, decide_eq_true_eq, beq_iff_eq] at h1
      exact ⟨rfl, h1.1, h1.2.1, by omega, by omega, by omega, hs.2⟩
theorem ends_even {i : IN} {m k r : Nat} (hm : i.size = m) (h256 : m ≤ 256) (hk : r = 2 * k) (hkl : k < i.R.length) (hl : listsB i = true) : progP m (endsF i r) = i.R[k].l := by
  have hok : okP m i.R[k] = true := by
    rw [listsB, Bool.and_eq_true, Bool.and_eq_true, List.all_eq_true, List.all_eq_true] at hl
    rw [← hm]; exact hl.2.1 _ (List.getElem_mem hkl)
  have he : endsF i r = fun x y : Nat => (i.R[k].l).contains ((x : Int), (y : Int)) := by
    funext x y
    rw [endsF, hk, show 2 * k / 2 = k by omega, List.getElem?_eq_getElem hkl]; simp
  rw [he]; exact progP_fwd hok h256
theorem ends_odd {i : IN} {m k r : Nat} (hm : i.size = m) (h256 : m ≤ 256) (hk : r = 2 * k + 1) (hkl : k < i.R.length) (hl : listsB i = true) : okP m i.R[k] = true ∧ progP m (endsF i r) = refP m i.R[k].l := by
  have hok : okP m i.R[k] = true := by
    rw [listsB, Bool.and_eq_true, Bool.and_eq_true, List.all_eq_true, List.all_eq_true] at hl
    rw [← hm]; exact hl.2.1 _ (List.getElem_mem hkl)
  have he : endsF i r = fun x y : Nat => (i.R[k].l).contains ((y : Int), (x : Int)) := by
    funext x y
    rw [endsF, hk, show (2 * k + 1) / 2 = k by omega, List.getElem?_eq_getElem hkl]; simp
  rw [he]; exact ⟨hok, progP_back hok h256⟩

set_option maxRecDepth 100000 in
set_option maxHeartbeats 8000000 in
theorem InterpForms_any (n : NM) (i : IN) (r : Int) (w : World) (hG : GT w) (hn : n.In w.heap.size w) (hi : i.In w.heap.size w) (h63 : r ≤ 9223372036854775807) :
    Calls Tryd.prog 4 #[n.val, i.val, .int .i64 r] w fun e w' => e = .returned (.bool true) ∧ Below w.heap.size w w' := by
  obtain ⟨W1, W2, hW1, hs1, hW2, hs2, hB, hcell⟩ := nm_blks n i w
  have hfe := few0_any n i W2 (hn.later hB) (hi.later hB)
  have haw := fun w1 (hb : Below W2.heap.size W2 w1) => awake3_any w1 ((hG.later hB).later hb)
  have hic := fun w1 (hb : Below W2.heap.size W2 w1) => iCheck_any n i w1 ((hn.later hB).later hb) ((hi.later hB).later hb)
  have hfa := fun w1 (hb : Below W2.heap.size W2 w1) (h100 : n.C.l.length ≤ 1000 ∧ n.R.l.length ≤ 1000 ∧ n.I.l.length ≤ 1000) => fault0_any n i w1 ((hn.later hB).later hb) ((hi.later hB).later hb) h100
  obtain ⟨⟨a0, a1, a2⟩, b0, b1, b2, b3⟩ := hcell W2 (Below.refl _ _)
  have HB := Lib.hid hB
  have HG := Lib.hid (hG.later hB)
  have HN := Lib.hid (hn.later hB)
  have HI := Lib.hid (hi.later hB)
  have HCE := Lib.hid hcell
  have HAW := Lib.hid haw
  have HIC := Lib.hid hic
  have HFA := Lib.hid hfa
  have HRO := Lib.hid (fun w1 => rRole_any n r w1)
  simp only [NM.val, IN.val] at hfe HIC HFA HRO ⊢
  clear hB hG hn hi hcell haw hic hfa
  go_enter Tryd.func4, Tryd.ntmps4
  go_wp2_with (go_at_call 22; refine hfe.mono ?_; clear hfe; rintro e w3 ⟨⟨b, rfl, hbf⟩, hb3⟩; obtain ⟨⟨c0, c1, c2⟩, d0, d1, d2, d3⟩ := HCE.out w3 hb3; cases b)
  · go_wp2_with (go_at_call 23; refine (HAW.out w3 hb3).mono ?_; rintro e w4 ⟨rfl, hb4⟩)
    go_ret
    exact ⟨rfl, HB.out.trans ((hb3.trans (hb4.mono hb3.size)).mono (by omega))⟩
  · have hl := few_lens3 (by first | exact hbf rfl | exact hbf trivial)
    have h100 : n.C.l.length ≤ 1000 ∧ n.R.l.length ≤ 1000 ∧ n.I.l.length ≤ 1000 := ⟨by omega, by omega, by omega⟩
    have hn3 := HN.out.later hb3
    have hi3 := HI.out.later hb3
    have hG3 := HG.out.later hb3
    by_cases hck : icheckF n i = 0
    · obtain ⟨hok, z1, z256, zc, zr, zi, hls⟩ := icheck_zero hck
      by_cases hr0 : 0 ≤ r ∧ r < 2 * (i.R.length : Int)
      · obtain ⟨m, hm⟩ : ∃ m : Nat, i.size = m := ⟨i.size.toNat, by omega⟩
        obtain ⟨rn, rfl⟩ : ∃ rn : Nat, r = rn := ⟨r.toNat, by omega⟩
        have hpa := iPairs_ok n i m rn w3 hG3 hn3 hi3 hm hck (by omega) (by omega) hls (by omega) (by omega) (by omega) (by omega)
        have hro : (decide ((0 : Int) ≤ rn) && decide ((rn : Int) < 2 * (n.R.l.length : Int))) = true := by rw [← zr, Bool.and_eq_true]; exact ⟨decide_eq_true hr0.1, decide_eq_true hr0.2⟩
        obtain ⟨L, hL⟩ : ∃ L, progP m (endsF i rn) = L := ⟨_, rfl⟩
        have hrp : ∀ w', Below W2.heap.size W2 w' → Calls Tryd.prog 28 #[i.val, .int .i64 (rn : Nat)] w' (RetPL L w') := fun w' hb => by
          rcases Nat.mod_two_eq_zero_or_one rn with h | h
          · have := rPairs_even i rn (rn / 2) (by omega) (by omega) w' (HI.out.later hb)
            rw [← hL, ends_even (k := rn / 2) hm (by omega) (by omega) (by omega) hls]
            exact this
          · obtain ⟨h1, h2⟩ := ends_odd (i := i) (m := m) (k := rn / 2) (r := rn) hm (by omega) (by omega) (by omega) hls
            have := rPairs_odd i m rn (rn / 2) (by omega) (by omega) hm (by omega) h1 w' (HI.out.later hb)
            rw [← hL, h2]
            exact this
        rw [hL] at hpa
        rw [hck] at HIC HFA
        rw [hro] at HRO
        have HRP := Lib.hid hrp
        have HPA := Lib.hid hpa
        simp only [NM.val, IN.val] at HPA HRP
        have HL := Lib.hid hl
        clear hpa hrp hck hok z1 z256 zc zr zi hls hr0 hL hn3 hi3 hG3 hl hro hm hbf
        go_wp2_with (first
          | (go_at_call 23; refine (HAW.out w9 hb9).mono ?_; rintro e w10 ⟨rfl, hb10'⟩)
          | (go_at_call 29; refine (SamePairs_any ⟨A4, k4, L⟩ s8 w8 (hin4.below (Nat.le_trans hb48.size (Nat.le_refl _)) hb48) hin8 HS8.out.symm).mono ?_; rintro e w9 ⟨rfl, hb9'⟩; have hb9 := hb8.trans (hb9'.mono hb8.size))
          | (go_at_call 28; refine (HRP.out w7 hb7).mono ?_; rintro e w8 ⟨s8, rfl, hs8, hin8, hb8'⟩; have HS8 := Lib.hid hs8; clear hs8; have hb8 := hb7.trans (hb8'.mono hb7.size); have hb48 := hb47.trans (hb8'.mono hb47.size))
          | (go_at_call 27; refine (HRO.out w6 (by have := HL.out; omega)).mono ?_; rintro e w7 ⟨rfl, hb7'⟩; have hb7 := hb6.trans (hb7'.mono hb6.size); have hb47 := hb46.trans (hb7'.mono hb46.size); obtain ⟨⟨t0, t1, t2⟩, t3, t4, t5, t6⟩ := HCE.out w7 hb7)
          | (go_at_call 26; refine (HIC.out w5 hb5).mono ?_; rintro e w6 ⟨rfl, hb6'⟩; have hb6 := hb5.trans (hb6'.mono hb5.size); have hb46 := hb45.trans (hb6'.mono hb45.size); obtain ⟨⟨u0, u1, u2⟩, u3, u4, u5, u6⟩ := HCE.out w6 hb6)
          | (go_at_call 25; refine (HFA.out w4 hb4 h100).mono ?_; rintro e w5 ⟨rfl, hb45⟩; have hb5 := hb4.trans (hb45.mono hb4.size); obtain ⟨⟨v0, v1, v2⟩, v3, v4, v5, v6⟩ := HCE.out w5 hb5)
          | (go_at_call 24; refine HPA.out.mono ?_; rintro e w4 ⟨vp, rfl, hop, hb4'⟩; obtain ⟨A4, k4, hv4, hin4⟩ := pl_of_owns hop; subst hv4; have hb4 := hb3.trans (hb4'.mono hb3.size); obtain ⟨⟨x0, x1, x2⟩, x3, x4, x5, x6⟩ := HCE.out w4 hb4))
        go_ret
        exact ⟨rfl, HB.out.trans ((hb9.trans (hb10'.mono hb9.size)).mono (by omega))⟩
      · have hpa : Calls Tryd.prog 24 #[n.val, i.val, .int .i64 r] w3 (RetNo 1 w3) := by
          by_cases h0 : r < 0
          · exact iPairs_lo n i r w3 hn3 hi3 hck h0
          · obtain ⟨rn, rfl⟩ : ∃ rn : Nat, r = rn := ⟨r.toNat, by omega⟩
            exact iPairs_hi n i rn w3 hn3 hi3 hck (by omega) (by omega)
        have hro : (decide (0 ≤ r) && decide (r < 2 * (n.R.l.length : Int))) = false := by
          rw [← zr, ← Bool.not_eq_true, Bool.and_eq_true, decide_eq_true_eq, decide_eq_true_eq]; exact hr0
        rw [hck] at HIC HFA
        rw [hro] at HRO
        have HPA := Lib.hid hpa
        simp only [NM.val, IN.val] at HPA
        have HL := Lib.hid hl
        clear hpa hck hok z1 z256 zc zr zi hls hr0 hn3 hi3 hG3 hl hro hbf
        go_wp2_with (first
          | (go_at_call 23; refine (HAW.out w9 hb9).mono ?_; rintro e w10 ⟨rfl, hb10'⟩)
          | (go_at_call 29; refine (same_nil w7).mono ?_; rintro e w9 ⟨rfl, hb9'⟩; have hb9 := hb7.trans (hb9'.mono hb7.size))
          | (go_at_call 27; refine (HRO.out w6 (by have := HL.out; omega)).mono ?_; rintro e w7 ⟨rfl, hb7'⟩; have hb7 := hb6.trans (hb7'.mono hb6.size); obtain ⟨⟨t0, t1, t2⟩, t3, t4, t5, t6⟩ := HCE.out w7 hb7)
          | (go_at_call 26; refine (HIC.out w5 hb5).mono ?_; rintro e w6 ⟨rfl, hb6'⟩; have hb6 := hb5.trans (hb6'.mono hb5.size); obtain ⟨⟨u0, u1, u2⟩, u3, u4, u5, u6⟩ := HCE.out w6 hb6)
          | (go_at_call 25; refine (HFA.out w4 hb4 h100).mono ?_; rintro e w5 ⟨rfl, hb45⟩; have hb5 := hb4.trans (hb45.mono hb4.size); obtain ⟨⟨v0, v1, v2⟩, v3, v4, v5, v6⟩ := HCE.out w5 hb5)
          | (go_at_call 24; refine HPA.out.mono ?_; rintro e w4 ⟨rfl, hb4'⟩; have hb4 := hb3.trans (hb4'.mono hb3.size); obtain ⟨⟨x0, x1, x2⟩, x3, x4, x5, x6⟩ := HCE.out w4 hb4))
        go_ret
        exact ⟨rfl, HB.out.trans ((hb9.trans (hb10'.mono hb9.size)).mono (by omega))⟩
    · have hpa := iPairs_ck n i r w3 hn3 hi3 hck
      obtain ⟨ck, hce⟩ : ∃ ck, icheckF n i = ck := ⟨_, rfl⟩
      rw [hce] at hpa hck HIC HFA
      have q0 : (ck == 0) = false := by simpa using hck
      have HPA := Lib.hid hpa
      simp only [NM.val, IN.val] at HPA
      clear hpa hn3 hi3 hG3 hl hbf hck hce
      go_wp2_with (first
        | (go_at_call 23; refine (HAW.out w9 hb9).mono ?_; rintro e w10 ⟨rfl, hb10'⟩)
        | (go_at_call 29; refine (same_nil w6).mono ?_; rintro e w9 ⟨rfl, hb9'⟩; have hb9 := hb6.trans (hb9'.mono hb6.size))
        | (go_at_call 26; refine (HIC.out w5 hb5).mono ?_; rintro e w6 ⟨rfl, hb6'⟩; have hb6 := hb5.trans (hb6'.mono hb5.size); obtain ⟨⟨u0, u1, u2⟩, u3, u4, u5, u6⟩ := HCE.out w6 hb6)
        | (go_at_call 25; refine (HFA.out w4 hb4 h100).mono ?_; rintro e w5 ⟨rfl, hb45⟩; have hb5 := hb4.trans (hb45.mono hb4.size); obtain ⟨⟨v0, v1, v2⟩, v3, v4, v5, v6⟩ := HCE.out w5 hb5)
        | (go_at_call 24; refine HPA.out.mono ?_; rintro e w4 ⟨rfl, hb4'⟩; have hb4 := hb3.trans (hb4'.mono hb3.size); obtain ⟨⟨x0, x1, x2⟩, x3, x4, x5, x6⟩ := HCE.out w4 hb4))
      go_ret
      exact ⟨rfl, HB.out.trans ((hb9.trans (hb10'.mono hb9.size)).mono (by omega))⟩
end Go.Proofs.YtneegmhcmegijaaDoor
