import Derived.Test.YtndkcimajeofcaaGreatDoorGe5df947017
import Derived.Maps.OwnIn
namespace Go.Proofs.YtndkcimajeofcaaGreatDoor
open Go.RowKit Go.Shelf

attribute [local go_sem] Oper.semAt_some

/-- The block in which the row of box b lies. -/
def rowAt (W : World) (b : Nat) : Option Nat := (W.cell? ⟨b, 0, none⟩).bind Value.ownBlock
def RowsOK (bs : List Nat) (W : World) : Prop := ∀ b ∈ bs, ∀ g, rowAt W b = some g → g < W.heap.size
theorem rowAt_block {W W' : World} {b : Nat} (h : W'.heap[b]? = W.heap[b]?) : rowAt W' b = rowAt W b := by unfold rowAt World.cell?; rw [h]
theorem RowsOK.later {bs : List Nat} {W W' : World} (h : RowsOK bs W) (hlt : ∀ b ∈ bs, b < W.heap.size) (hb : Below W.heap.size W W') : RowsOK bs W' := fun b hm g hg => by
  rw [rowAt_block (hb.block b (hlt b hm))] at hg
  exact Nat.lt_of_lt_of_le (h b hm g hg) hb.size

/-- WHAT A ROUND KEEPS THAT COLLECTS INTO ROWS: whatever lies below n₀; every block of cells from n₁ on but those rows' own; a row's block is the old one or a new one. -/
structure KR (n₀ n₁ : Nat) (bs : List Nat) (W W' : World) : Prop where
  below : Below n₀ W W'
  keep : ∀ k o, n₁ ≤ k → W.heap[k]? = some o → o.isCells = true → (∀ b ∈ bs, rowAt W b ≠ some k) → W'.heap[k]? = some o
  rows : ∀ b ∈ bs, rowAt W' b = rowAt W b ∨ ∃ g, rowAt W' b = some g ∧ W.heap.size ≤ g ∧ g < W'.heap.size

section
variable {n₀ n₁ : Nat} {bs : List Nat} {A B C W W' W2 : World}
theorem KR.refl (n₀ n₁ : Nat) (bs : List Nat) (W : World) : KR n₀ n₁ bs W W := ⟨Below.refl _ _, fun _ _ _ h _ _ => h, fun _ _ => .inl rfl⟩
theorem KR.trans (h : KR n₀ n₁ bs A B) (k : KR n₀ n₁ bs B C) : KR n₀ n₁ bs A C := by
  have s1 := h.below.size
  have s2 := k.below.size
  refine ⟨h.below.trans k.below, fun i o hi ho hc hr => ?_, fun b hb => ?_⟩
  · have hlt : i < A.heap.size := (Array.getElem?_eq_some_iff.1 ho).1
    refine k.keep i o hi (h.keep i o hi ho hc hr) hc fun b hb e => ?_
    rcases h.rows b hb with h1 | ⟨g, h1, h2, -⟩
    · exact hr b hb (h1.symm.trans e)
    · rw [h1] at e; cases e; omega
  · rcases k.rows b hb with k1 | ⟨g, k1, k2, k3⟩
    · rcases h.rows b hb with h1 | ⟨g, h1, h2, h3⟩
      · exact .inl (k1.trans h1)
      · exact .inr ⟨g, k1.trans h1, h2, by omega⟩
    · exact .inr ⟨g, k1, by omega, k3⟩
theorem KR.ok (h : KR n₀ n₁ bs W W') (ho : RowsOK bs W) : RowsOK bs W' := fun b hb g hg => by
  have := h.below.size
  rcases h.rows b hb with h1 | ⟨g', h1, -, h3⟩
  · have := ho b hb g (h1.symm.trans hg); omega
  · rw [h1] at hg; cases hg; exact h3
theorem KR.of_below (hbs : ∀ b ∈ bs, b < n₁) (hn1 : n₁ ≤ W.heap.size) (hn0 : n₀ ≤ W.heap.size) (h : Below W.heap.size W W') : KR n₀ n₁ bs W W' :=
  ⟨h.mono hn0, fun k _ _ ho _ _ => (h.block k (Array.getElem?_eq_some_iff.1 ho).1).trans ho, fun b hb => .inl (rowAt_block (h.block b (Nat.lt_of_lt_of_le (hbs b hb) hn1)))⟩
theorem KR.alloc (hbs : ∀ b ∈ bs, b < n₁) (hn1 : n₁ ≤ W.heap.size) (hn0 : n₀ ≤ W.heap.size) (o : Obj) : KR n₀ n₁ bs W (W.alloc o) :=
  KR.of_below hbs hn1 hn0 ((Below.refl _ _).alloc (Nat.le_refl _) _)
/-- A block that is new is no row's. -/
theorem KR.fresh (hbs : ∀ b ∈ bs, b < n₁) (hn1 : n₁ ≤ W.heap.size) (ho : RowsOK bs W) {o o' : Obj} (h : KR n₀ n₁ bs (W.alloc o) W2) (hk : (W.alloc o).heap[W.heap.size]? = some o') (hc : o'.isCells = true) : W2.heap[W.heap.size]? = some o' :=
  h.keep _ _ hn1 hk hc fun b hb e => by
    rw [rowAt_block (((Below.refl W.heap.size W).alloc (Nat.le_refl _) o).block b (Nat.lt_of_lt_of_le (hbs b hb) hn1))] at e
    have := ho b hb _ e
    omega
theorem KR.b {w : World} (hbs : ∀ b ∈ bs, b < n₁) (hn1 : n₁ ≤ w.heap.size) (hn : n₀ ≤ w.heap.size) (W : World) (l : Nat) (o o' : Obj) (hl : w.heap.size ≤ l) (h : W.heap[l]? = some o) (hc : o.isCells = false) (hw : o.isWalk = false) : KR n₀ n₁ bs W (W.putObj l o') :=
  ⟨belowK_b hn W l o o' hl h hc hw, fun k o'' _ ho hc' _ => by
    by_cases e : k = l
    · subst e; rw [h] at ho; cases ho; rw [hc] at hc'; cases hc'
    · exact (World.putObj_heap_other e).trans ho, fun b hb => .inl (rowAt_block (World.putObj_heap_other (by have := hbs b hb; omega)))⟩
end

end Go.Proofs.YtndkcimajeofcaaGreatDoor
