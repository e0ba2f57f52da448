import Derived.Test.YtnkkpjgclekobaaDoorRef4
namespace Go.Proofs.YtnkkpjgclekobaaDoor
open Go.RowKit

mutual
def Tr.wfT (C R : Nat) : Tr → Bool
  | .mk op n args => wfB C R op n args.length && Tr.wfTs C R args
def Tr.wfTs (C R : Nat) : List Tr → Bool
  | [] => true
  | t :: ts => Tr.wfT C R t && Tr.wfTs C R ts
end
theorem okT_split (C R : Nat) (t : Tr) : ∀ lev, Tr.okT C R lev t = (t.wfT C R && decide (t.depth + lev ≤ 21)) :=
  Tr.rec (motive_1 := fun t => ∀ lev, Tr.okT C R lev t = (t.wfT C R && decide (t.depth + lev ≤ 21))) (motive_2 := fun l => ∀ lev, lev ≤ 21 → Tr.okTs C R lev l = (Tr.wfTs C R l && decide (Tr.depths l + lev ≤ 21)))
    (fun op n args ih lev => by
      rw [Tr.okT, Tr.wfT, Tr.depth]
      by_cases h : lev ≤ 20
      · rw [ih _ (by omega), decide_eq_true h, Bool.true_and, Bool.and_assoc]
        congr 2
        rw [decide_eq_decide]; omega
      · rw [decide_eq_false h, decide_eq_false (by omega), Bool.and_false, Bool.false_and, Bool.false_and])
    (fun lev h => by rw [Tr.okTs, Tr.wfTs, Tr.depths, decide_eq_true (by omega)]; rfl)
    (fun t ts h1 h2 lev h => by
      rw [Tr.okTs, Tr.wfTs, Tr.depths, h1, h2 _ h]
      by_cases a : t.depth + lev ≤ 21 <;> by_cases b : Tr.depths ts + lev ≤ 21
      · rw [decide_eq_true a, decide_eq_true b, decide_eq_true (by omega)]; simp
      · rw [decide_eq_true a, decide_eq_false b, decide_eq_false (by omega)]; simp
      · rw [decide_eq_false a, decide_eq_true b, decide_eq_false (by omega)]; simp
      · rw [decide_eq_false a, decide_eq_false b, decide_eq_false (by omega)]; simp) t
theorem validT_split (C R : Nat) (t : Tr) : validT C R t = (smallB t && t.wfT C R) := by
  rw [validT, okT_split, smallB, Bool.and_assoc, Bool.and_comm (t.wfT C R)]
  congr 2
  rw [decide_eq_decide]; omega

/-- The node's own test, as the reference makes it. -/
theorem wfB_eq (C R : Nat) (op n : Int) (len : Nat) : wfB C R op n len = (rArity op == (len : Int) && decide (0 ≤ n) && (if op = 0 then decide (n < C) else if op = 6 ∨ op = 7 then decide (n < 2 * (R : Int)) else n == 0)) := by
  unfold wfB rArity arityF choicesF
  by_cases h0 : 0 ≤ op ∧ op < 8
  · rcases (show op = 0 ∨ op = 1 ∨ op = 2 ∨ op = 3 ∨ op = 4 ∨ op = 5 ∨ op = 6 ∨ op = 7 by omega) with rfl | rfl | rfl | rfl | rfl | rfl | rfl | rfl
    all_goals
      refine Bool.eq_iff_iff.2 ?_
      simp
      try omega
  · have : (decide (0 ≤ op) && (decide (op < 8) && ((len : Int) == (if op = 3 ∨ op = 6 ∨ op = 7 then (1 : Int) else if op = 4 ∨ op = 5 then 2 else 0) && (decide (0 ≤ n) && decide (n < if op = 0 then (C : Int) else if op = 6 ∨ op = 7 then 2 * (R : Int) else 1))))) = false := by
      by_cases a : 0 ≤ op
      · rw [decide_eq_false (show ¬ op < 8 by omega)]; simp
      · rw [decide_eq_false a]; simp
    rw [this, if_neg (by omega), if_neg (by omega), if_neg (by omega)]
    have : ((-1 : Int) == (len : Int)) = false := by
      rw [beq_eq_false_iff_ne]; omega
    rw [this]; simp

theorem wfTs_take {C R : Nat} (args : List MT) (k : Nat) (hk : k < args.length) (h : Tr.wfTs C R ((args.take k).map MT.tr) = true) : Tr.wfTs C R ((args.take (k + 1)).map MT.tr) = args[k].tr.wfT C R ∧ (args[k].tr.wfT C R = false → Tr.wfTs C R (args.map MT.tr) = false) := by
  have sa : ∀ l (t : Tr), Tr.wfTs C R (l ++ [t]) = (Tr.wfTs C R l && t.wfT C R) := by
    intro l t
    induction l with
    | nil => simp [Tr.wfTs]
    | cons x l ih => simp only [List.cons_append, Tr.wfTs, ih, Bool.and_assoc]
  have sb : ∀ l m, Tr.wfTs C R (l ++ m) = (Tr.wfTs C R l && Tr.wfTs C R m) := by
    intro l m
    induction l with
    | nil => simp [Tr.wfTs]
    | cons x l ih => simp only [List.cons_append, Tr.wfTs, ih, Bool.and_assoc]
  have e : (args.take (k + 1)).map MT.tr = (args.take k).map MT.tr ++ [args[k].tr] := by rw [List.take_succ_eq_append_getElem hk, List.map_append, List.map_singleton]
  refine ⟨by rw [e, sa, h, Bool.true_and], fun hf => ?_⟩
  have e2 : args.map MT.tr = (args.take k).map MT.tr ++ [args[k].tr] ++ (args.drop (k + 1)).map MT.tr := by
    rw [← e, ← List.map_append, List.take_append_drop]
  rw [e2, sb, sa, hf, Bool.and_false, Bool.false_and]

end Go.Proofs.YtnkkpjgclekobaaDoor
