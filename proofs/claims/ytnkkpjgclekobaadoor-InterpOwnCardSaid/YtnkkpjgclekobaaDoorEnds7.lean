import Derived.Test.YtnkkpjgclekobaaDoorRPairs
import Derived.Test.YtnkkpjgclekobaaDoorFl0
namespace Go.Proofs.YtnkkpjgclekobaaDoor
open Go.RowKit

theorem few_lens3 {n : NM} (h : fewB n = true) : n.C.l.length ≤ 100 ∧ n.R.l.length ≤ 100 ∧ n.I.l.length ≤ 100 := by
  simp only [fewB, fewL, Bool.and_eq_true, decide_eq_true_eq] at h
  exact ⟨h.1.1, h.2.1.1, h.2.2.1⟩
theorem same_nil (w : World) : Calls Tryd.prog 55 #[.slice none 0 0, .slice none 0 0] w fun e w' => e = .returned (.bool true) ∧ Below w.heap.size w w' := SamePairs_any ⟨none, 0, []⟩ ⟨none, 0, []⟩ w ⟨Nat.le_refl _, Nat.zero_le _, RowAt.nil _ _ _ _⟩ ⟨Nat.le_refl _, Nat.zero_le _, RowAt.nil _ _ _ _⟩ rfl
theorem icheck_zero {n : NM} {i : IN} (h : icheckF n i = 0) : n.ok = true ∧ 1 ≤ i.size ∧ i.size ≤ 256 ∧ i.C.length = n.C.l.length ∧ i.R.length = n.R.l.length ∧ i.I.l.length = n.I.l.length ∧ listsB i = true := by
  unfold icheckF at h
  cases hok : n.ok
  · rw [hok] at h; simp at h
  · rw [hok] at h
    cases hs : (shapeB n i && listsB i)
    · rw [hs] at h; simp at h
    · rw [Bool.and_eq_true] at hs
      have h1 := hs.1
      simp only [shapeB, Bool.and_eq_true, decide_eq_true_eq, beq_iff_eq] at h1
      exact ⟨rfl, h1.1, h1.2.1, by omega, by omega, by omega, hs.2⟩
theorem ends_even {i : IN} {m k r : Nat} (hm : i.size = m) (h256 : m ≤ 256) (hk : r = 2 * k) (hkl : k < i.R.length) (hl : listsB i = true) : progP m (endsF i r) = i.R[k].l := by
  have hok : okP m i.R[k] = true := by
    rw [listsB, Bool.and_eq_true, Bool.and_eq_true, List.all_eq_true, List.all_eq_true] at hl
    rw [← hm]; exact hl.2.1 _ (List.getElem_mem hkl)
  have he : endsF i r = fun x y : Nat => (i.R[k].l).contains ((x : Int), (y : Int)) := by
    funext x y
    rw [endsF, hk, show 2 * k / 2 = k by omega, List.getElem?_eq_getElem hkl]; simp
  rw [he]; exact progP_fwd hok h256
theorem ends_odd {i : IN} {m k r : Nat} (hm : i.size = m) (h256 : m ≤ 256) (hk : r = 2 * k + 1) (hkl : k < i.R.length) (hl : listsB i = true) : okP m i.R[k] = true ∧ progP m (endsF i r) = refP m i.R[k].l := by
  have hok : okP m i.R[k] = true := by
    rw [listsB, Bool.and_eq_true, Bool.and_eq_true, List.all_eq_true, List.all_eq_true] at hl
    rw [← hm]; exact hl.2.1 _ (List.getElem_mem hkl)
  have he : endsF i r = fun x y : Nat => (i.R[k].l).contains ((y : Int), (x : Int)) := by
    funext x y
    rw [endsF, hk, show (2 * k + 1) / 2 = k by omega, List.getElem?_eq_getElem hkl]; simp
  rw [he]; exact ⟨hok, progP_back hok h256⟩

end Go.Proofs.YtnkkpjgclekobaaDoor
