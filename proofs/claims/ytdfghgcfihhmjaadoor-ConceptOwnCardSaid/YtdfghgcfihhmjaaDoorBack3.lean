import Derived.Test.YtdfghgcfihhmjaaDoorBack2
import Derived.Test.YtdfghgcfihhmjaaDoorLaw1
namespace Go.Proofs.YtdfghgcfihhmjaaDoor
open Go.RowKit

/-- A normal form is well formed. -/
theorem nnf_wf (C R : Nat) (t : Tr) : t.wfT C R = true → ∀ a, (nnf t a).wfT C R = true :=
  Tr.rec (motive_1 := fun t => t.wfT C R = true → ∀ a, (nnf t a).wfT C R = true) (motive_2 := fun l => Tr.wfTs C R l = true → (∀ a, Tr.wfTs C R (nnfs l a) = true ∧ (nnfs l a).length = l.length) ∧ ∀ x, l = [x] → ∀ a, (nnf x a).wfT C R = true)
    (fun op n args ih h a => by
      rw [Tr.wfT, Bool.and_eq_true] at h
      obtain ⟨hw, hs⟩ := h
      have hw0 := hw
      simp only [wfB, Bool.and_eq_true, decide_eq_true_eq, beq_iff_eq] at hw
      obtain ⟨h0, h8, hl, hn0, hn1⟩ := hw
      obtain ⟨i1, i2⟩ := ih hs
      rcases (show op = 0 ∨ op = 3 ∨ (op = 1 ∨ op = 2 ∨ op = 4 ∨ op = 5 ∨ op = 6 ∨ op = 7) by omega) with rfl | rfl | hop
      · have : args = [] := by simpa [arityF] using hl
        subst this
        cases a
        · simpa [nnf, nnfs, Tr.wfT, Tr.wfTs] using hw0
        · simpa [nnf, nnfs, Tr.wfT, Tr.wfTs, wfB, arityF, choicesF] using hw0
      · obtain ⟨x, rfl⟩ := List.length_eq_one_iff.1 (show args.length = 1 by simp [arityF] at hl; omega)
        simp only [nnf, nnfHead, if_true]
        exact i2 x rfl _
      · obtain ⟨j1, j2⟩ := i1 a
        rcases hop with rfl | rfl | rfl | rfl | rfl | rfl <;> cases a <;> simp_all [nnf, dualF, Tr.wfT, wfB, arityF, choicesF])
    (fun _ => ⟨fun a => by simp [nnfs, Tr.wfTs], fun x h => by cases h⟩)
    (fun t ts h1 h2 h => by
      rw [Tr.wfTs, Bool.and_eq_true] at h
      refine ⟨fun a => ?_, fun x hx => ?_⟩
      · obtain ⟨k1, k2⟩ := (h2 h.2).1 a
        rw [nnfs, Tr.wfTs, h1 h.1, k1, List.length_cons, List.length_cons, k2]
        exact ⟨rfl, rfl⟩
      · cases hx
        exact h1 h.1) t

theorem check_wf {n : NM} {t : Tr} (h : (checkT n t == 0) = true) : n.ok = true ∧ smallB t = true ∧ t.wfT n.C.l.length n.R.l.length = true := by
  have hc : checkT n t = 0 := by simpa using h
  rcases hok : n.ok
  · rw [checkT, hok] at hc; cases hc
  · rcases hv : validT n.C.l.length n.R.l.length t
    · rw [checkT, hok, hv] at hc; cases hc
    · rw [validT_split, Bool.and_eq_true] at hv
      exact ⟨rfl, hv.1, hv.2⟩
theorem check_of {n : NM} {t : Tr} (h1 : n.ok = true) (h2 : smallB t = true) (h3 : t.wfT n.C.l.length n.R.l.length = true) : (checkT n t == 0) = true := by
  rw [checkT, h1, validT_split, h2, h3]; rfl
/-- The normal form of a normal form. -/
theorem norm_back {n : NM} {t : Tr} {X : MT} {a b : Bool} (h : (checkT n t == 0) = true) (hX : X.tr = nnf t a) (hs : smallB (nnf t a) = true) (hs' : smallB (nnf t (a ^^ b)) = true) :
    normTr n X b = nnf t (a ^^ b) ∧ normE n X b = 0 := by
  obtain ⟨h1, -, h3⟩ := check_wf h
  have hc : (checkT n X.tr == 0) = true := by rw [hX]; exact check_of h1 hs (nnf_wf _ _ t h3 a)
  rw [normTr_eq, normE_eq, hc, if_pos rfl, if_pos rfl, hX, nnf_nnf _ _ t h3, hs', if_pos rfl, if_pos rfl]
  exact ⟨rfl, rfl⟩
theorem norm_some {n : NM} {T : MT} {a : Bool} (h : (checkT n T.tr == 0) = true) (hs : smallB (nnf T.tr a) = true) : normTr n T a = nnf T.tr a ∧ normE n T a = 0 := by
  rw [normTr_eq, normE_eq, h, if_pos rfl, if_pos rfl, hs]; exact ⟨rfl, rfl⟩
theorem norm_none {n : NM} {T : MT} {a : Bool} (h : (checkT n T.tr == 0) = true) (hs : smallB (nnf T.tr a) = false) : normTr n T a = zeroTr ∧ normE n T a = 2 := by
  rw [normTr_eq, normE_eq, h, if_pos rfl, if_pos rfl, hs]; exact ⟨rfl, rfl⟩
end Go.Proofs.YtdfghgcfihhmjaaDoor
