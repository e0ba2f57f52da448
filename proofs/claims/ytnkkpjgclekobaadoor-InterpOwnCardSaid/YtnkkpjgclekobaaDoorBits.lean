import Derived.Test.YtnkkpjgclekobaaDoorColl
import Derived.Laws.BitsAllLaws
namespace Go.Proofs.YtnkkpjgclekobaaDoor
open Go.RowKit

/-- The number whose bits below n are p's. -/
def bw (p : Nat → Bool) : Nat → Nat
  | 0 => 0
  | n + 1 => 2 ^ n * (p n).toNat + bw p n
theorem bw_lt (p : Nat → Bool) : ∀ n, bw p n < 2 ^ n
  | 0 => by simp [bw]
  | n + 1 => by
    have := bw_lt p n
    rw [bw, Nat.pow_succ]
    cases p n <;> simp <;> omega
theorem bw_lt64 (p : Nat → Bool) : bw p 64 < 18446744073709551616 := bw_lt p 64
theorem bw_bit (p : Nat → Bool) : ∀ n i, (bw p n).testBit i = (decide (i < n) && p i)
  | 0, i => by simp [bw]
  | n + 1, i => by
    rw [bw, Nat.testBit_two_pow_mul_add _ (bw_lt p n), bw_bit p n i]
    by_cases h : i < n
    · simp [h, show i < n + 1 by omega]
    · rw [if_neg h]
      by_cases h2 : i = n
      · subst h2
        cases p i <;> simp
      · have h3 : 0 < i - n := by omega
        have h4 : ¬ i < n + 1 := by omega
        simp only [h4, decide_false, Bool.false_and]
        exact Nat.testBit_lt_two_pow (Nat.lt_of_lt_of_le (show (p n).toNat < 2 by cases p n <;> decide) (by
          calc 2 = 2 ^ 1 := rfl
            _ ≤ 2 ^ (i - n) := Nat.pow_le_pow_right (by omega) h3))
theorem bw_ext {p q : Nat → Bool} {n : Nat} (h : ∀ i, i < n → p i = q i) : bw p n = bw q n := by
  apply Nat.eq_of_testBit_eq
  intro i
  rw [bw_bit, bw_bit]
  by_cases hi : i < n
  · simp [hi, h i hi]
  · simp [hi]
theorem bw_inj {p q : Nat → Bool} {n : Nat} (h : bw p n = bw q n) (i : Nat) (hi : i < n) : p i = q i := by
  have := congrArg (fun x => x.testBit i) h
  simpa [bw_bit, hi] using this
theorem bw_or (p q : Nat → Bool) (n : Nat) : bw p n ||| bw q n = bw (fun i => p i || q i) n := by
  apply Nat.eq_of_testBit_eq
  intro i
  rw [Nat.testBit_or, bw_bit, bw_bit, bw_bit]
  cases decide (i < n) <;> simp
theorem bw_and (p q : Nat → Bool) (n : Nat) : bw p n &&& bw q n = bw (fun i => p i && q i) n := by
  apply Nat.eq_of_testBit_eq
  intro i
  rw [Nat.testBit_and, bw_bit, bw_bit, bw_bit]
  cases decide (i < n) <;> simp
theorem bw_minus (p q : Nat → Bool) : bw p 64 &&& (18446744073709551615 - bw q 64) = bw (fun i => p i && !q i) 64 := by
  apply Nat.eq_of_testBit_eq
  intro i
  rw [Nat.testBit_and, show 18446744073709551615 - bw q 64 = 2 ^ 64 - (bw q 64 + 1) by omega, Nat.testBit_two_pow_sub_succ (bw_lt q 64), bw_bit, bw_bit, bw_bit]
  cases decide (i < 64) <;> simp
theorem bw_one {r n : Nat} (hr : r < n) : bw (fun i => i == r) n = 2 ^ r := by
  apply Nat.eq_of_testBit_eq
  intro i
  rw [bw_bit, Nat.testBit_two_pow]
  by_cases h : i = r
  · subst h; simp [hr]
  · simp [h, Ne.symm h]
theorem bw_none (n : Nat) : bw (fun _ => false) n = 0 := by
  apply Nat.eq_of_testBit_eq
  intro i
  rw [bw_bit]; simp
theorem bw_zero {p : Nat → Bool} {n : Nat} : bw p n = 0 ↔ ∀ i, i < n → p i = false := by
  constructor
  · intro h i hi
    exact bw_inj (h.trans (bw_none n).symm) i hi
  · intro h
    rw [bw_ext h, bw_none]
theorem bw_shift (p : Nat → Bool) {r n : Nat} (hr : r < n) : bw p n / 2 ^ r % 2 = (p r).toNat := by
  have h := bw_bit p n r
  rw [Nat.testBit_eq_decide_div_mod_eq] at h
  cases hp : p r
  · rw [hp] at h
    simp at h
    simp only [Bool.toNat_false]
    omega
  · rw [hp] at h
    simp [hr] at h
    simp only [Bool.toNat_true]
    omega

/-- The least number of a set that is not empty. -/
theorem bw_least {p : Nat → Bool} {n : Nat} (h : bw p n ≠ 0) : ∃ j, j < n ∧ p j = true ∧ ∀ i, i < j → p i = false := by
  induction n with
  | zero => exact absurd rfl h
  | succ n ih =>
    by_cases h0 : bw p n = 0
    · have hz := bw_zero.1 h0
      refine ⟨n, by omega, ?_, hz⟩
      cases hp : p n
      · rw [bw, hp, h0] at h; simp at h
      · rfl
    · obtain ⟨j, hj, h1, h2⟩ := ih h0
      exact ⟨j, by omega, h1, h2⟩
theorem bw_low {p : Nat → Bool} {n j : Nat} (hj : j < n) (hp : p j = true) (hl : ∀ i, i < j → p i = false) (i : Nat) : (bw p n - 1).testBit i = if i < j then true else decide (i < n) && (p i && i != j) := by
  have hx : ∃ m, bw p n = 2 ^ j * (2 * m + 1) := by
    refine ⟨bw p n / 2 ^ j / 2, ?_⟩
    have h1 : bw p n % 2 ^ j = 0 := by
      apply Nat.eq_of_testBit_eq
      intro i
      rw [Nat.testBit_mod_two_pow, bw_bit]
      by_cases hi : i < j
      · simp [hl i hi]
      · simp [hi]
    have h2 : bw p n / 2 ^ j % 2 = 1 := by rw [bw_shift p hj, hp]; rfl
    have h3 := Nat.div_add_mod (bw p n) (2 ^ j)
    have h4 := Nat.div_add_mod (bw p n / 2 ^ j) 2
    rw [h1] at h3
    rw [h2] at h4
    rw [h4]; omega
  obtain ⟨m, hm⟩ := hx
  have h1 : bw p n - 1 = 2 ^ j * (2 * m) + (2 ^ j - 1) := by
    rw [hm, Nat.mul_add, Nat.mul_one]
    have := Nat.two_pow_pos j
    omega
  have h2 : 2 ^ j - 1 < 2 ^ j := by have := Nat.two_pow_pos j; omega
  rw [h1, Nat.testBit_two_pow_mul_add _ h2]
  have h3 := bw_bit p n i
  rw [hm, show 2 ^ j * (2 * m + 1) = 2 ^ j * (2 * m + 1) + 0 from rfl, Nat.testBit_two_pow_mul_add _ (Nat.two_pow_pos j)] at h3
  by_cases hi : i < j
  · rw [if_pos hi, if_pos hi, Nat.testBit_two_pow_sub_one]; simp [hi]
  · rw [if_neg hi, if_neg hi]
    rw [if_neg hi] at h3
    by_cases he : i = j
    · subst he
      simp [Nat.testBit_zero]
    · obtain ⟨k, hk⟩ : ∃ k, i - j = k + 1 := ⟨i - j - 1, by omega⟩
      rw [hk] at h3 ⊢
      rw [Nat.testBit_succ, show (2 * m + 1) / 2 = m by omega] at h3
      rw [Nat.testBit_succ, show 2 * m / 2 = m by omega, h3]
      have : (i != j) = true := by simpa using he
      rw [this, Bool.and_true]
theorem bw_drop {p : Nat → Bool} {n j : Nat} (hj : j < n) (hp : p j = true) (hl : ∀ i, i < j → p i = false) : bw p n &&& (bw p n - 1) = bw (fun i => p i && i != j) n := by
  apply Nat.eq_of_testBit_eq
  intro i
  rw [Nat.testBit_and, bw_bit, bw_bit, bw_low hj hp hl]
  by_cases hi : i < j
  · simp [hi, hl i hi]
  · rw [if_neg hi]
    cases decide (i < n) <;> cases p i <;> simp
theorem bw_lowest {p : Nat → Bool} {j : Nat} (hj : j < 64) (hp : p j = true) (hl : ∀ i, i < j → p i = false) : bw p 64 &&& (18446744073709551616 - bw p 64) = 2 ^ j := by
  have h0 : 0 < bw p 64 := by
    rcases Nat.eq_zero_or_pos (bw p 64) with h | h
    · have := bw_zero.1 h j hj
      rw [hp] at this; cases this
    · exact h
  have hlt := bw_lt p 64
  rw [show 18446744073709551616 - bw p 64 = 2 ^ 64 - ((bw p 64 - 1) + 1) by omega]
  apply Nat.eq_of_testBit_eq
  intro i
  rw [Nat.testBit_and, Nat.testBit_two_pow_sub_succ (by omega), bw_bit, bw_low hj hp hl, Nat.testBit_two_pow]
  by_cases hi : i < j
  · simp [hi, hl i hi]; omega
  · rw [if_neg hi]
    by_cases he : i = j
    · subst he; simp [hj, hp]
    · have h1 : (i != j) = true := by simpa using he
      have h2 : decide (j = i) = false := by simp; omega
      rw [h1, h2]
      cases decide (i < 64) <;> cases p i <;> simp
end Go.Proofs.YtnkkpjgclekobaaDoor
