import Derived.Test.YtnkkpjgclekobaaDoorRef2
namespace Go.Proofs.YtnkkpjgclekobaaDoor
open Go.RowKit

def NM.tot (n : NM) : List ByteArray := n.C.l ++ n.R.l ++ n.I.l
def NM.offs (n : NM) (k : Nat) : Nat := if k = 0 then 0 else if k = 1 then n.C.l.length else if k = 2 then n.C.l.length + n.R.l.length else n.tot.length
theorem offs_step (n : NM) (k : Nat) (hk : k < 3) : n.offs k + (n.at_ k).l.length = n.offs (k + 1) := by
  rcases (show k = 0 ∨ k = 1 ∨ k = 2 by omega) with rfl | rfl | rfl
  · simp [NM.offs, NM.at_]
  · simp [NM.offs, NM.at_]
  · simp [NM.offs, NM.at_, NM.tot]; omega
theorem offs_le (n : NM) (k : Nat) (hk : k ≤ 3) : n.offs k ≤ n.tot.length := by
  rcases (show k = 0 ∨ k = 1 ∨ k = 2 ∨ k = 3 by omega) with rfl | rfl | rfl | rfl
  all_goals simp [NM.offs, NM.tot]
  all_goals omega
theorem tot_get (n : NM) (k m : Nat) (hk : k < 3) (hm : m < (n.at_ k).l.length) (h : n.offs k + m < n.tot.length) : n.tot[n.offs k + m] = (n.at_ k).l[m] := by
  rcases (show k = 0 ∨ k = 1 ∨ k = 2 by omega) with rfl | rfl | rfl
  · simp only [NM.at_, if_true] at hm ⊢
    simp only [NM.offs, NM.tot, if_true, Nat.zero_add, List.append_assoc]
    rw [List.getElem_append_left hm]
  · simp only [NM.at_, Nat.one_ne_zero, if_false, if_true] at hm ⊢
    simp only [NM.offs, NM.tot, Nat.one_ne_zero, if_false, if_true, List.append_assoc]
    rw [List.getElem_append_right (by omega), List.getElem_append_left (by omega)]
    simp
  · simp only [NM.at_, show ¬ (2 : Nat) = 0 by omega, show ¬ (2 : Nat) = 1 by omega, if_false] at hm ⊢
    simp only [NM.offs, NM.tot, show ¬ (2 : Nat) = 0 by omega, show ¬ (2 : Nat) = 1 by omega, if_false, if_true, List.append_assoc]
    rw [List.getElem_append_right (by omega), List.getElem_append_right (by omega)]
    congr 1; omega

end Go.Proofs.YtnkkpjgclekobaaDoor
