import Derived.Test.YtdfghgcfihhmjaaDoorRef5
namespace Go.Proofs.YtdfghgcfihhmjaaDoor
open Go.RowKit

/-- A normal form's normal form, and the normal form of its negation. -/
theorem nnf_nnf (C R : Nat) (t : Tr) : t.wfT C R = true → ∀ a b, nnf (nnf t a) b = nnf t (a ^^ b) :=
  Tr.rec (motive_1 := fun t => t.wfT C R = true → ∀ a b, nnf (nnf t a) b = nnf t (a ^^ b)) (motive_2 := fun l => Tr.wfTs C R l = true → (∀ a b, nnfs (nnfs l a) b = nnfs l (a ^^ b)) ∧ ∀ x, l = [x] → ∀ a b, nnf (nnf x a) b = nnf x (a ^^ b))
    (fun op n args ih h a b => by
      rw [Tr.wfT, Bool.and_eq_true] at h
      obtain ⟨hw, hs⟩ := h
      simp only [wfB, Bool.and_eq_true, decide_eq_true_eq, beq_iff_eq] at hw
      obtain ⟨h0, h8, hl, -, -⟩ := hw
      obtain ⟨i1, i2⟩ := ih hs
      rcases (show op = 0 ∨ op = 3 ∨ (op = 1 ∨ op = 2 ∨ op = 4 ∨ op = 5 ∨ op = 6 ∨ op = 7) by omega) with rfl | rfl | hop
      · have : args = [] := by simpa [arityF] using hl
        subst this
        cases a <;> cases b <;> simp [nnf, nnfs, nnfHead]
      · obtain ⟨x, rfl⟩ := List.length_eq_one_iff.1 (show args.length = 1 by simp [arityF] at hl; omega)
        have := i2 x rfl
        simp only [nnf, nnfHead, if_true]
        rw [this]
        cases a <;> cases b <;> rfl
      · rcases hop with rfl | rfl | rfl | rfl | rfl | rfl <;> cases a <;> cases b <;> simp [nnf, dualF, i1])
    (fun _ => ⟨fun a b => by simp [nnfs], fun x h => by cases h⟩)
    (fun t ts h1 h2 h => by
      rw [Tr.wfTs, Bool.and_eq_true] at h
      refine ⟨fun a b => by rw [nnfs, nnfs, nnfs, h1 h.1, (h2 h.2).1], fun x hx => ?_⟩
      cases hx
      exact h1 h.1) t

def Tr.op : Tr → Int | .mk op _ _ => op
def oneName : List Tr → Bool
  | [x] => x.op == 0
  | _ => false
mutual
/-- Negation stands directly above names alone. -/
def Tr.plain : Tr → Bool
  | .mk op _ args => (op != 3 || oneName args) && Tr.plains args
def Tr.plains : List Tr → Bool
  | [] => true
  | t :: ts => Tr.plain t && Tr.plains ts
end
theorem nnf_plain (C R : Nat) (t : Tr) : t.wfT C R = true → ∀ a, (nnf t a).plain = true :=
  Tr.rec (motive_1 := fun t => t.wfT C R = true → ∀ a, (nnf t a).plain = true) (motive_2 := fun l => Tr.wfTs C R l = true → (∀ a, Tr.plains (nnfs l a) = true) ∧ ∀ x, l = [x] → ∀ a, (nnf x a).plain = true)
    (fun op n args ih h a => by
      rw [Tr.wfT, Bool.and_eq_true] at h
      obtain ⟨hw, hs⟩ := h
      simp only [wfB, Bool.and_eq_true, decide_eq_true_eq, beq_iff_eq] at hw
      obtain ⟨h0, h8, hl, -, -⟩ := hw
      obtain ⟨i1, i2⟩ := ih hs
      rcases (show op = 0 ∨ op = 3 ∨ (op = 1 ∨ op = 2 ∨ op = 4 ∨ op = 5 ∨ op = 6 ∨ op = 7) by omega) with rfl | rfl | hop
      · have : args = [] := by simpa [arityF] using hl
        subst this
        cases a <;> simp [nnf, nnfs, Tr.plain, Tr.plains, Tr.op, oneName]
      · obtain ⟨x, rfl⟩ := List.length_eq_one_iff.1 (show args.length = 1 by simp [arityF] at hl; omega)
        simp only [nnf, nnfHead, if_true]
        exact i2 x rfl _
      · rcases hop with rfl | rfl | rfl | rfl | rfl | rfl <;> cases a <;> simp [nnf, dualF, Tr.plain, i1])
    (fun _ => ⟨fun a => by simp [nnfs, Tr.plains], fun x h => by cases h⟩)
    (fun t ts h1 h2 h => by
      rw [Tr.wfTs, Bool.and_eq_true] at h
      refine ⟨fun a => by rw [nnfs, Tr.plains, h1 h.1, (h2 h.2).1]; rfl, fun x hx => ?_⟩
      cases hx
      exact h1 h.1) t
end Go.Proofs.YtdfghgcfihhmjaaDoor
