import Derived.Test.YtffibneelaeocaaGreatDoorG1d4c3006f2
import Derived.Test.YtffibneelaeocaaGreatDoorG7677bf5825
import Derived.Test.YtffibneelaeocaaGreatDoorG7044570281
namespace Go.Proofs.YtffibneelaeocaaGreatDoor
open Go.RowKit

theorem htE_zero {b : BN} {l : List MT} {k : Int} {T : MT} (h : htE b l k T = 0) : mcheckC b l = 0 ∧ checkF b.N T = 0 ∧ (marksF b l).length ≤ 8 ∧ 0 ≤ k ∧ k < ((2 ^ (marksF b l).length : Nat) : Int) ∧ covT b.N.C.l b.N.R.l ((marksF b l).map (Tr.str b.N.C.l b.N.R.l)) T.tr = true := by
  rw [htE] at h
  split at h
  · rename_i h0
    rw [orF] at h0
    split at h0
    · rename_i h1
      split at h
      · rename_i h2
        split at h
        · rename_i h3
          simp only [Bool.and_eq_true, decide_eq_true_eq] at h3
          exact ⟨h1, h0, h2, h3.1, h3.2.1, h3.2.2⟩
        · cases h
      · cases h
    · exact absurd h0 (by assumption)
  · rename_i h0
    exact absurd h h0
/-- What True says of a normal form. -/
theorem ht_nnf {b : BN} {l : List MT} {k : Int} {T P : MT} {a : Bool} (h : htE b l k T = 0) (hP : P.tr = nnf T.tr a) (hs : smallB (nnf T.tr a) = true) : htE b l k P = 0 ∧ htV b l k P = (htV b l k T ^^ a) := by
  obtain ⟨h1, h2, h3, h4, h5, h6⟩ := htE_zero h
  have hck : (checkT b.N T.tr == 0) = true := by rw [← checkF_eq, h2]; rfl
  obtain ⟨w1, w2, w3⟩ := check_wf hck
  have hcP : checkF b.N P = 0 := by
    have : (checkT b.N P.tr == 0) = true := by rw [hP]; exact check_of w1 hs (nnf_wf _ _ _ w3 a)
    rw [checkF_eq]; simpa using this
  have hE : htE b l k P = 0 := by
    rw [htE, h1, hcP]
    simp only [orF, if_true]
    rw [if_pos h3, hP, cov_nnf _ _ _ w3, h6, decide_eq_true h4, decide_eq_true h5]
    rfl
  refine ⟨hE, ?_⟩
  rw [htV, htV, if_pos hE, if_pos h, hP, tru_nnf b.N _ _ _ (by omega) _ w3]
/-- Normal and Not of a concept of which True says something: a normal form, or too large. -/
theorem ht_norm {b : BN} {l : List MT} {k : Int} {T : MT} (a : Bool) (h : htE b l k T = 0) : (smallB (nnf T.tr a) = true ∧ normTr b.N T a = nnf T.tr a ∧ normE b.N T a = 0) ∨ (normTr b.N T a = zeroTr ∧ normE b.N T a = 2) := by
  obtain ⟨-, h2, -⟩ := htE_zero h
  have hck : (checkT b.N T.tr == 0) = true := by rw [← checkF_eq, h2]; rfl
  rcases hs : smallB (nnf T.tr a)
  · exact .inr (norm_none hck hs)
  · exact .inl ⟨rfl, norm_some hck hs⟩
end Go.Proofs.YtffibneelaeocaaGreatDoor
