import Derived.Test.YtffibneelaeocaaGreatDoorG1d4c3006f2
import Derived.Test.YtffibneelaeocaaGreatDoorG0b8ab37bc9
namespace Go.Proofs.YtffibneelaeocaaGreatDoor
open Go.RowKit

/-- The mark of a quantified node and of its normal form, negated or not, is the same. -/
theorem mark_nnf {C R : Nat} {n : Int} {x : Tr} (hx : x.wfT C R = true) (op : Int) (h : op = 6 ∨ op = 7) (a : Bool) : markT (nnf (.mk op n [x]) a) = markT (.mk op n [x]) := by
  rcases h with rfl | rfl <;> cases a <;> simp [nnf, nnfs, dualF, markT, nnfHead, nnf_nnf C R x hx]
theorem cov_nnf (n : NM) (S : List (List UInt8)) (t : Tr) : t.wfT n.C.l.length n.R.l.length = true → ∀ a, covT n.C.l n.R.l S (nnf t a) = covT n.C.l n.R.l S t :=
  Tr.rec (motive_1 := fun t => t.wfT n.C.l.length n.R.l.length = true → ∀ a, covT n.C.l n.R.l S (nnf t a) = covT n.C.l n.R.l S t) (motive_2 := fun l => Tr.wfTs n.C.l.length n.R.l.length l = true → (∀ a, covL n.C.l n.R.l S (nnfs l a) = covL n.C.l n.R.l S l) ∧ ∀ x, l = [x] → ∀ a, covT n.C.l n.R.l S (nnf x a) = covT n.C.l n.R.l S x)
    (fun op nn args ih h a => by
      rw [Tr.wfT, Bool.and_eq_true] at h
      obtain ⟨hw, hs⟩ := h
      simp only [wfB, Bool.and_eq_true, decide_eq_true_eq, beq_iff_eq] at hw
      obtain ⟨h0, h8, hl, hn0, hn1⟩ := hw
      obtain ⟨i1, i2⟩ := ih hs
      rcases (show op = 0 ∨ op = 3 ∨ (op = 1 ∨ op = 2 ∨ op = 4 ∨ op = 5) ∨ (op = 6 ∨ op = 7) by omega) with rfl | rfl | hop | hop
      · have : args = [] := by simpa [arityF] using hl
        subst this
        cases a
        · rfl
        · simp [nnf, covT, covL, covN, markT]
      · obtain ⟨x, rfl⟩ := List.length_eq_one_iff.1 (show args.length = 1 by simp [arityF] at hl; omega)
        simp only [nnf, nnfHead, if_true]
        rw [i2 x rfl]
        simp [covT, covL, covN, markT]
      · have j1 := i1 a
        rcases hop with rfl | rfl | rfl | rfl <;> cases a <;> simp_all [nnf, dualF, covT, covN, markT]
      · obtain ⟨x, rfl⟩ := List.length_eq_one_iff.1 (show args.length = 1 by rw [arityF, if_pos (by omega)] at hl; omega)
        have hx := wfTs_mem hs x (by simp)
        have hm := mark_nnf (n := nn) hx op hop a
        have j1 := i1 a
        have hc : ∀ t : Tr, covN n.C.l n.R.l S t = match markT t with | some m => (look S (m.str n.C.l n.R.l)).isSome | none => true := fun _ => rfl
        have e1 : covN n.C.l n.R.l S (nnf (.mk op nn [x]) a) = covN n.C.l n.R.l S (.mk op nn [x]) := by rw [hc, hc, hm]
        have e2 : ∃ op', nnf (.mk op nn [x]) a = .mk op' nn (nnfs [x] a) := by rcases hop with rfl | rfl <;> cases a <;> exact ⟨_, rfl⟩
        obtain ⟨op', e2⟩ := e2
        rw [e2] at e1 ⊢
        rw [covT, covT, e1, j1])
    (fun _ => ⟨fun _ => rfl, fun x h => by cases h⟩)
    (fun t ts h1 h2 h => by
      rw [Tr.wfTs, Bool.and_eq_true] at h
      refine ⟨fun a => ?_, fun x hx => ?_⟩
      · rw [nnfs, covL, covL, h1 h.1, (h2 h.2).1]
      · cases hx
        exact h1 h.1) t
/-- A concept's normal form is true in the same types, that of its negation in the others. -/
theorem tru_nnf (n : NM) (S : List (List UInt8)) (m : Nat) (y : Nat) (hy : y < 2 ^ m) (t : Tr) : t.wfT n.C.l.length n.R.l.length = true → ∀ a, truT n.C.l n.R.l S m (nnf t a) y = (truT n.C.l n.R.l S m t y ^^ a) :=
  Tr.rec (motive_1 := fun t => t.wfT n.C.l.length n.R.l.length = true → ∀ a, truT n.C.l n.R.l S m (nnf t a) y = (truT n.C.l n.R.l S m t y ^^ a)) (motive_2 := fun l => Tr.wfTs n.C.l.length n.R.l.length l = true → ∀ x ∈ l, ∀ a, truT n.C.l n.R.l S m (nnf x a) y = (truT n.C.l n.R.l S m x y ^^ a))
    (fun op nn args ih h a => by
      rw [Tr.wfT, Bool.and_eq_true] at h
      obtain ⟨hw, hs⟩ := h
      simp only [wfB, Bool.and_eq_true, decide_eq_true_eq, beq_iff_eq] at hw
      obtain ⟨h0, h8, hl, hn0, hn1⟩ := hw
      have i2 := ih hs
      rcases (show op = 0 ∨ op = 3 ∨ (op = 1 ∨ op = 2) ∨ (op = 4 ∨ op = 5) ∨ (op = 6 ∨ op = 7) by omega) with rfl | rfl | hop | hop | hop
      · have : args = [] := by simpa [arityF] using hl
        subst this
        cases a
        · simp [nnf, nnfs]
        · simp [nnf, truT, truL, truN, hy]
      · obtain ⟨x, rfl⟩ := List.length_eq_one_iff.1 (show args.length = 1 by simp [arityF] at hl; omega)
        simp only [nnf, nnfHead, if_true]
        rw [i2 x (by simp)]
        cases a <;> simp [truT, truL, truN, hy]
      · have : args = [] := by rcases hop with rfl | rfl <;> simpa [arityF] using hl
        subst this
        rcases hop with rfl | rfl <;> cases a <;> simp [nnf, nnfs, dualF, truT, truN, hy]
      · have h2 : args.length = 2 := by rcases hop with rfl | rfl <;> (simp [arityF] at hl; omega)
        obtain ⟨u, v, rfl⟩ : ∃ u v, args = [u, v] := by match args, h2 with | [u, v], _ => exact ⟨u, v, rfl⟩
        have e1 := i2 u (by simp) a
        have e2 := i2 v (by simp) a
        rcases hop with rfl | rfl <;> cases a <;> simp [nnf, nnfs, dualF, truT, truL, truN, e1, e2]
      · obtain ⟨x, rfl⟩ := List.length_eq_one_iff.1 (show args.length = 1 by rw [arityF, if_pos (by omega)] at hl; omega)
        have hx := wfTs_mem hs x (by simp)
        have hm := mark_nnf (n := nn) hx op hop a
        have hc : ∀ t : Tr, markS n.C.l n.R.l t = match markT t with | some m => m.str n.C.l n.R.l | none => [] := fun _ => rfl
        have e1 : markS n.C.l n.R.l (nnf (.mk op nn [x]) a) = markS n.C.l n.R.l (.mk op nn [x]) := by rw [hc, hc, hm]
        rcases hop with rfl | rfl <;> cases a <;> simp [nnf, dualF] at e1 ⊢ <;> rw [truT, truT, e1] <;> simp [truN, hy])
    (fun _ x hx => by cases hx)
    (fun t ts h1 h2 h x hx => by
      rw [Tr.wfTs, Bool.and_eq_true] at h
      rcases List.mem_cons.1 hx with rfl | hx
      · exact h1 h.1
      · exact h2 h.2 x hx) t
end Go.Proofs.YtffibneelaeocaaGreatDoor
