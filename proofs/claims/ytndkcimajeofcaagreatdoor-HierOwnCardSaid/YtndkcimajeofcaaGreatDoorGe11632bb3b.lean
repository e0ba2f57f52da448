import Derived.Test.YtndkcimajeofcaaGreatDoorGc786c0f06f
namespace Go.Proofs.YtndkcimajeofcaaGreatDoor
open Go.RowKit
attribute [local go_sem ↓] Go.wp_at_zero Go.wp_at_succ

/-- What hier.Above says. -/
def haE (b : BN) (r : Int) : Int := if kcheckB b then (if roleB b r then 0 else 1) else 20
def RetHA (b : BN) (r : Int) (w : World) (e : Ending) (w' : World) : Prop :=
  Below w.heap.size w w' ∧ ((haE b r = 0 ∧ ∃ v, e = .returned (.tuple #[v, .int .i64 0]) ∧ w'.ownsRow w.heap.size 3 1 v (upB b r).length (ncells (upB b r))) ∨ (haE b r ≠ 0 ∧ e = .returned (.tuple #[.slice none 0 0, .int .i64 (haE b r)])))

set_option maxRecDepth 100000 in
set_option maxHeartbeats 4000000 in
theorem hAbove_any (b : BN) (mo : ML) (r : Int) (w : World) (h : HIn b mo w) : Calls Tryz.prog 23 #[b.val, .int .i64 r] w (RetHA b r w) := by
  obtain ⟨W1, hW1, hB1, hs1, hk1⟩ := newBlk w _ rfl #[.slice b.N.C.A b.N.C.l.length b.N.C.c, .slice b.N.R.A b.N.R.l.length b.N.R.c, .slice b.N.I.A b.N.I.l.length b.N.I.c, .slice b.IA b.I.length b.ic, .slice b.R.A b.R.l.length b.R.c, .slice b.FA b.F.length b.fc, .slice b.L.A b.L.l.length b.L.c] 30
  have hbb := fun w' (h : Below W1.heap.size W1 w') => bbox_of (b := b) (blk_lat hk1 h)
  obtain ⟨c0, c1, c2, c3, c4, c5, c6⟩ := hbb W1 (Below.refl _ _)
  have h1 := h.later hB1
  have hkc := kCheck_any b W1 h1.gt.ga h1.bi h1.hI h1.hR h1.hF h1.hL h1.hN h1.sz
  have hro := fun (r : Int) w' => isRole_any b r w' h.hN
  have HBB := Lib.hid hbb
  have HB := Lib.hid hB1
  have H1 := Lib.hid h1
  have HRO := Lib.hid hro
  obtain ⟨kc, hkce⟩ : ∃ x, kcheckB b = x := ⟨_, rfl⟩
  rw [hkce] at hkc
  have HKC := Lib.hid hkce
  simp only [BN.val] at hkc HRO ⊢
  clear hbb hB1 hk1 h h1 hro hkce
  cases kc
  · have he : haE b r = 20 := by rw [haE, HKC.out]; rfl
    have HR := Lib.hid he
    clear he
    go_enter Tryz.func23, Tryz.ntmps23
    go_wp2_with (go_at_call 61; refine hkc.mono ?_; clear hkc; rintro e w2 ⟨rfl, hb2⟩; simp only [codeIf])
    go_ret2
    exact ⟨HB.out.trans (hb2.mono HB.out.size), .inr ⟨by rw [HR.out]; decide, by rw [HR.out]; rfl⟩⟩
  · obtain ⟨hok, -, -, -, hR60⟩ := kchk_ok HKC.out
    have hnr := (ok_bounds hok).2.1
    have hr1 := fun w' => HRO.out r w'
    rcases qr : roleB b r
    · have he : haE b r = 1 := by rw [haE, HKC.out, qr]; rfl
      have HR := Lib.hid he
      rw [qr] at hr1
      clear he
      go_enter Tryz.func23, Tryz.ntmps23
      go_wp2_with (first
        | (go_at_call 62; refine (hr1 _).mono ?_; rintro e w3 ⟨rfl, hb3⟩)
        | (go_at_call 61; refine hkc.mono ?_; clear hkc; rintro e w2 ⟨rfl, hb2⟩; simp only [codeIf]; clear c0 c1 c2 c3 c4 c5 c6; obtain ⟨c0, c1, c2, c3, c4, c5, c6⟩ := HBB.out w2 hb2))
      go_ret2
      exact ⟨HB.out.trans ((hb2.trans (hb3.mono hb2.size)).mono HB.out.size), .inr ⟨by rw [HR.out]; decide, by rw [HR.out]; rfl⟩⟩
    · have he : haE b r = 0 := by rw [haE, HKC.out, qr]; rfl
      have HR := Lib.hid he
      have hrb := qr
      rw [qr] at hr1
      simp only [roleB, Bool.and_eq_true, decide_eq_true_eq] at hrb
      obtain ⟨j, rfl⟩ := Int.eq_ofNat_of_zero_le hrb.1
      have hab := fun w' (hb : Below W1.heap.size W1 w') => above_any b j (2 * b.N.R.l.length) w' ((H1.out.later hb).bi) (by omega) (by omega) (roles_in HKC.out) (edges_in HKC.out) (by omega)
      have HAB := Lib.hid hab
      simp only [BN.val] at HAB
      clear he hrb hab qr
      go_enter Tryz.func23, Tryz.ntmps23
      go_wp2_with (first
        | (go_at_call 64; refine (HAB.out w3 hb13).mono ?_; rintro e w5 ⟨v5, rfl, ho5, hb5⟩)
        | (go_at_call 62; refine (hr1 w2).mono ?_; rintro e w3 ⟨rfl, hb3⟩; have hb13 := hb2.trans (hb3.mono hb2.size); clear c0 c1 c2 c3 c4 c5 c6; obtain ⟨c0, c1, c2, c3, c4, c5, c6⟩ := HBB.out w3 hb13)
        | (go_at_call 61; refine hkc.mono ?_; clear hkc; rintro e w2 ⟨rfl, hb2⟩; simp only [codeIf]; clear c0 c1 c2 c3 c4 c5 c6; obtain ⟨c0, c1, c2, c3, c4, c5, c6⟩ := HBB.out w2 hb2))
      go_ret2
      have hz := HB.out.size
      exact ⟨HB.out.trans ((hb13.trans (hb5.mono hb13.size)).mono hz), .inl ⟨HR.out, v5, rfl, owns_lower ho5 (by have := hb13.size; omega)⟩⟩
end Go.Proofs.YtndkcimajeofcaaGreatDoor
