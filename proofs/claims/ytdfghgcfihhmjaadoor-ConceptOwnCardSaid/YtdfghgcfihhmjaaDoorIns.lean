import Derived.Test.YtdfghgcfihhmjaaDoorAsc
namespace Go.Proofs.YtdfghgcfihhmjaaDoor
open Go.RowKit

/-- The reference's Insert. -/
def insL : List Int → Int → List Int
  | [], n => [n]
  | x :: r, n => if x = n then x :: r else if n < x then n :: x :: r else x :: insL r n

theorem strict_eq : ∀ {l m : List Int}, l.Pairwise (· < ·) → m.Pairwise (· < ·) → (∀ x, x ∈ l ↔ x ∈ m) → l = m
  | [], [], _, _, _ => rfl
  | [], b :: m, _, _, h => by have := (h b).2 (by simp); simp at this
  | a :: l, [], _, _, h => by have := (h a).1 (by simp); simp at this
  | a :: l, b :: m, hl, hm, h => by
    rw [List.pairwise_cons] at hl hm
    have hab : a = b := by
      rcases List.mem_cons.1 ((h a).1 (by simp)) with e | e
      · exact e
      · rcases List.mem_cons.1 ((h b).2 (by simp)) with e' | e'
        · exact e'.symm
        · have h1 := hm.1 a e
          have h2 := hl.1 b e'
          omega
    subst hab
    rw [strict_eq hl.2 hm.2 (fun x => ?_)]
    constructor
    · intro hx
      rcases List.mem_cons.1 ((h x).1 (List.mem_cons_of_mem _ hx)) with e | e
      · have := hl.1 x hx; omega
      · exact e
    · intro hx
      rcases List.mem_cons.1 ((h x).2 (List.mem_cons_of_mem _ hx)) with e | e
      · have := hm.1 x hx; omega
      · exact e

theorem insL_mem : ∀ (l : List Int) (n x : Int), x ∈ insL l n ↔ x ∈ l ∨ x = n
  | [], n, x => by simp [insL]
  | y :: r, n, x => by
    rw [insL]
    split
    · rename_i h; subst h; simp only [List.mem_cons]; constructor
      · intro h; exact .inl h
      · intro h; rcases h with h | h
        · exact h
        · exact .inl h
    split
    · simp only [List.mem_cons]; constructor
      · intro h; rcases h with h | h | h
        · exact .inr h
        · exact .inl (.inl h)
        · exact .inl (.inr h)
      · intro h; rcases h with (h | h) | h
        · exact .inr (.inl h)
        · exact .inr (.inr h)
        · exact .inl h
    · rw [List.mem_cons, insL_mem r n x, List.mem_cons]
      constructor
      · intro h; rcases h with h | h | h
        · exact .inl (.inl h)
        · exact .inl (.inr h)
        · exact .inr h
      · intro h; rcases h with (h | h) | h
        · exact .inl h
        · exact .inr (.inl h)
        · exact .inr (.inr h)
theorem insL_strict : ∀ (l : List Int) (n : Int), l.Pairwise (· < ·) → (insL l n).Pairwise (· < ·)
  | [], n, _ => by simp [insL]
  | y :: r, n, h => by
    rw [insL]
    split
    · exact h
    split
    · rename_i h1 h2
      rw [List.pairwise_cons]
      refine ⟨fun x hx => ?_, h⟩
      rcases List.mem_cons.1 hx with e | e
      · omega
      · have := (List.pairwise_cons.1 h).1 x e; omega
    · rename_i h1 h2
      rw [List.pairwise_cons] at h ⊢
      refine ⟨fun x hx => ?_, insL_strict r n h.2⟩
      rcases (insL_mem r n x).1 hx with e | e
      · exact h.1 x e
      · omega
theorem insL_len : ∀ (l : List Int) (n : Int), (insL l n).length ≤ l.length + 1
  | [], n => by simp [insL]
  | y :: r, n => by
    rw [insL]
    have := insL_len r n
    split
    · simp
    split
    · simp
    · simp only [List.length_cons]; omega
theorem fold_mem : ∀ (xs l : List Int) (x : Int), x ∈ xs.foldl insL l ↔ x ∈ l ∨ x ∈ xs
  | [], l, x => by simp
  | y :: ys, l, x => by
    rw [List.foldl_cons, fold_mem ys, insL_mem, List.mem_cons]
    constructor
    · intro h; rcases h with (h | h) | h
      · exact .inl h
      · exact .inr (.inl h)
      · exact .inr (.inr h)
    · intro h; rcases h with h | h | h
      · exact .inl (.inl h)
      · exact .inl (.inr h)
      · exact .inr h
theorem fold_strict : ∀ (xs l : List Int), l.Pairwise (· < ·) → (xs.foldl insL l).Pairwise (· < ·)
  | [], l, h => h
  | y :: ys, l, h => fold_strict ys _ (insL_strict l y h)
theorem fold_len : ∀ (xs l : List Int), (xs.foldl insL l).length ≤ l.length + xs.length
  | [], l => by simp
  | y :: ys, l => by
    have := fold_len ys (insL l y)
    have := insL_len l y
    rw [List.foldl_cons, List.length_cons]; omega

theorem upto_ok (d : Array Int) (hs : ∀ i j, i ≤ j → j < d.size → d[i]! ≤ d[j]!) : ∀ m, m ≤ d.size → (Lib.compactUpTo d m).Pairwise (· < ·) ∧ ∀ x, x ∈ Lib.compactUpTo d m ↔ ∃ j, j < m ∧ d[j]! = x
  | 0, _ => by
    have : Lib.compactUpTo d 0 = [] := rfl
    rw [this]
    exact ⟨List.Pairwise.nil, fun x => by simp⟩
  | m + 1, hm => by
    obtain ⟨i1, i2⟩ := upto_ok d hs m (by omega)
    rw [Lib.compactUpTo_succ]
    by_cases hk : Lib.keeps d m = true
    · rw [if_pos hk]
      refine ⟨?_, fun x => ?_⟩
      · rw [List.pairwise_append]
        refine ⟨i1, by simp, fun x hx y hy => ?_⟩
        rw [List.mem_singleton.1 hy]
        obtain ⟨j, hj, rfl⟩ := (i2 x).1 hx
        simp only [Lib.keeps, decide_eq_true_eq] at hk
        have h1 := hs j (m - 1) (by omega) (by omega)
        have h2 := hs (m - 1) m (by omega) (by omega)
        rcases hk with h | h
        · omega
        · omega
      · rw [List.mem_append, i2, List.mem_singleton]
        constructor
        · rintro (⟨j, hj, rfl⟩ | rfl)
          · exact ⟨j, by omega, rfl⟩
          · exact ⟨m, by omega, rfl⟩
        · rintro ⟨j, hj, rfl⟩
          by_cases e : j = m
          · subst e; exact .inr rfl
          · exact .inl ⟨j, by omega, rfl⟩
    · rw [if_neg hk, List.append_nil]
      refine ⟨i1, fun x => ?_⟩
      rw [i2]
      simp only [Lib.keeps, decide_eq_true_eq, not_or, ne_eq, Classical.not_not] at hk
      constructor
      · rintro ⟨j, hj, rfl⟩; exact ⟨j, by omega, rfl⟩
      · rintro ⟨j, hj, rfl⟩
        by_cases e : j = m
        · subst e; exact ⟨j - 1, by omega, hk.2.symm⟩
        · exact ⟨j, by omega, rfl⟩

/-- SORTED AND WITHOUT DOUBLES is what one insertion after the other gives. -/
theorem asc_fold (xs : List Int) : ascL xs = xs.foldl insL [] := by
  have hsort : (xs.mergeSort fun x y => decide (x ≤ y)).Pairwise (fun a b => a ≤ b) := by
    have := List.pairwise_mergeSort (le := fun x y : Int => decide (x ≤ y)) (fun a b c h1 h2 => by simp only [decide_eq_true_eq] at *; omega) (fun a b => by simp only [Bool.or_eq_true, decide_eq_true_eq]; omega) xs
    exact this.imp (fun h => by simpa using h)
  have hs : ∀ i j, i ≤ j → j < (xs.mergeSort fun x y => decide (x ≤ y)).toArray.size → (xs.mergeSort fun x y => decide (x ≤ y)).toArray[i]! ≤ (xs.mergeSort fun x y => decide (x ≤ y)).toArray[j]! := fun i j hij hj => by
    have hj' : j < (xs.mergeSort fun x y => decide (x ≤ y)).length := by simpa using hj
    rw [getElem!_pos _ i (by simp; simp at hj'; omega), getElem!_pos _ j (by simpa using hj)]
    simp only [List.getElem_toArray]
    by_cases e : i = j
    · subst e; exact Int.le_refl _
    · exact List.pairwise_iff_getElem.1 hsort i j (by omega) hj' (by omega)
  obtain ⟨h1, h2⟩ := upto_ok _ hs _ (by simp : (xs.mergeSort fun x y => decide (x ≤ y)).length ≤ _)
  refine strict_eq h1 (fold_strict xs [] List.Pairwise.nil) fun x => ?_
  rw [fold_mem]
  refine (h2 x).trans ?_
  have hm := List.Perm.mem_iff (a := x) (List.mergeSort_perm xs fun x y => decide (x ≤ y))
  constructor
  · rintro ⟨j, hj, rfl⟩
    refine .inr (hm.1 ?_)
    rw [getElem!_pos _ j (by simpa using hj)]
    simp only [List.getElem_toArray]
    exact List.getElem_mem _
  · rintro (h | h)
    · simp at h
    · obtain ⟨j, hj, e⟩ := List.getElem_of_mem (hm.2 h)
      refine ⟨j, hj, ?_⟩
      rw [getElem!_pos _ j (by simpa using hj)]
      simpa using e
end Go.Proofs.YtdfghgcfihhmjaaDoor
