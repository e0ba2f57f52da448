import Derived.Test.YtndkcimajeofcaaGreatDoorGa3885cf9c4
namespace Go.Proofs.YtndkcimajeofcaaGreatDoor
open Go.RowKit

/-- A normal form's normal form, and the normal form of its negation. -/
theorem nnf_nnf (C R : Nat) (t : Tr) : t.wfT C R = true → ∀ a b, nnf (nnf t a) b = nnf t (a ^^ b) :=
  Tr.rec (motive_1 := fun t => t.wfT C R = true → ∀ a b, nnf (nnf t a) b = nnf t (a ^^ b)) (motive_2 := fun l => Tr.wfTs C R l = true → (∀ a b, nnfs (nnfs l a) b = nnfs l (a ^^ b)) ∧ ∀ x, l = [x] → ∀ a b, nnf (nnf x a) b = nnf x (a ^^ b))
    (fun op n args ih h a b => by
      rw [Tr.wfT, Bool.and_eq_true] at h
      obtain ⟨hw, hs⟩ := h
      simp only [wfB, Bool.and_eq_true, decide_eq_true_eq, beq_iff_eq] at hw
      obtain ⟨h0, h8, hl, -, -⟩ := hw
      obtain ⟨i1, i2⟩ := ih hs
      rcases (show op = 0 ∨ op = 3 ∨ (op = 1 ∨ op = 2 ∨ op = 4 ∨ op = 5 ∨ op = 6 ∨ op = 7) by omega) with rfl | rfl | hop
      · have : args = [] := by simpa [arityF] using hl
        subst this
        cases a <;> cases b <;> simp [nnf, nnfs, nnfHead]
      · obtain ⟨x, rfl⟩ := List.length_eq_one_iff.1 (show args.length = 1 by simp [arityF] at hl; omega)
        have := i2 x rfl
        simp only [nnf, nnfHead, if_true]
        rw [this]
        cases a <;> cases b <;> rfl
      · rcases hop with rfl | rfl | rfl | rfl | rfl | rfl <;> cases a <;> cases b <;> simp [nnf, dualF, i1])
    (fun _ => ⟨fun a b => by simp [nnfs], fun x h => by cases h⟩)
    (fun t ts h1 h2 h => by
      rw [Tr.wfTs, Bool.and_eq_true] at h
      refine ⟨fun a b => by rw [nnfs, nnfs, nnfs, h1 h.1, (h2 h.2).1], fun x hx => ?_⟩
      cases hx
      exact h1 h.1) t

def Tr.op : Tr → Int | .mk op _ _ => op
def oneName : List Tr → Bool
  | [x] => x.op == 0
  | _ => false
mutual
/-- Negation stands directly above names alone. -/
def Tr.plain : Tr → Bool
  | .mk op _ args => (op != 3 || oneName args) && Tr.plains args
def Tr.plains : List Tr → Bool
  | [] => true
  | t :: ts => Tr.plain t && Tr.plains ts
end
end Go.Proofs.YtndkcimajeofcaaGreatDoor

namespace Go.Proofs.YtndkcimajeofcaaGreatDoor
open Go.RowKit

theorem node_new {lo : Nat} {w : World} {op n : Int} {Ts : List MT} (hlo : lo ≤ w.heap.size) (_h0 : Ts ≠ []) (hT : ∀ t ∈ Ts, New lo w t) (hn : Ts.length ≤ 9223372036854775807) :
    New lo (w.alloc (.cells (Ts.flatMap MT.cs).toArray 33)) (.mk op n (some ⟨w.heap.size, 0, none⟩) Ts.length Ts) := by
  have hk : (w.alloc (.cells (Ts.flatMap MT.cs).toArray 33)).heap[w.heap.size]? = some (.cells (Ts.flatMap MT.cs).toArray 33) := World.alloc_heap_new' w _
  have hb : Below w.heap.size w (w.alloc (.cells (Ts.flatMap MT.cs).toArray 33)) := (Below.refl _ _).alloc (Nat.le_refl _) _
  have hT' : ∀ t ∈ Ts, New lo (w.alloc (.cells (Ts.flatMap MT.cs).toArray 33)) t := fun t ht => (hT t ht).later hb
  have hl : ∀ l : List MT, (l.flatMap MT.cs).length = l.length * 3 := fun l => by
    induction l with
    | nil => rfl
    | cons t l ih => rw [List.flatMap_cons, List.length_append, ih, List.length_cons]; simp only [MT.cs, List.length_cons, List.length_nil]; omega
  refine ⟨?_, ?_⟩
  · rw [MT.In]
    refine ⟨Nat.le_refl _, hn, ⟨hl Ts, fun _ => ⟨w.heap.size, 0, rfl, by simp, fun j hj => ?_⟩⟩, MT.InAll.of fun t ht => (hT' t ht).1⟩
    rw [cell_of_blk hk, Nat.zero_add, List.getElem?_toArray]
  · rw [Mine, MT.All]
    exact ⟨fun _ => ⟨w.heap.size, 0, rfl, hlo, _, hk⟩, MT.Alls.of fun t ht => (hT' t ht).2⟩
end Go.Proofs.YtndkcimajeofcaaGreatDoor
