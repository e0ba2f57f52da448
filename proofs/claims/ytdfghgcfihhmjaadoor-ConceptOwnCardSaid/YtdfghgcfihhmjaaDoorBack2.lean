import Derived.Test.YtdfghgcfihhmjaaDoorBack
namespace Go.Proofs.YtdfghgcfihhmjaaDoor
open Go.RowKit

theorem strOf_data (l : List UInt8) : (strOf l).data.toList = l := by simp [strOf]
theorem strOf_name (L : List ByteArray) (k : Nat) : strOf (nameAt L k) = L.getD k ByteArray.empty := bytes_ext (by rw [strOf_data]; rfl)
/-- Every name of a list is one, and is found where it stands. -/
def Finds (L : List ByteArray) : Prop := ∀ k, k < L.length → nameL (nameAt L k) = true ∧ Lib.idxOfS L (strOf (nameAt L k)) = k
theorem Finds.words {L : List ByteArray} (h : Finds L) : Words L := fun k hk => (h k hk).1
theorem findN_at {L : List ByteArray} (h : Finds L) {k : Nat} (hk : k < L.length) : findN L (strOf (nameAt L k)) = some (k : Int) := by
  obtain ⟨h1, h2⟩ := h k hk
  rw [findN, strOf_data, h1, if_pos rfl, h2]

theorem name_ne {l m : List UInt8} (h : nameL l = true) (hm : nameL m = false) : (l == m) = false := by
  rw [beq_eq_false_iff_ne]; intro e; subst e; rw [h] at hm; cases hm

theorem tok_head {C R : List ByteArray} (hC : Finds C) (t : Tr) (h : t.wfT C.length R.length = true) : ∃ x r, t.toks C R = x :: r ∧ (x == [45]) = false := by
  obtain ⟨op, n, args⟩ := t
  rw [Tr.wfT, Bool.and_eq_true] at h
  obtain ⟨hw, hs⟩ := h
  simp only [wfB, Bool.and_eq_true, decide_eq_true_eq, beq_iff_eq] at hw
  obtain ⟨h0, h8, hl, hn0, hn1⟩ := hw
  rw [Tr.toks]
  rcases (show op = 0 ∨ (op = 1 ∨ op = 2) ∨ op = 3 ∨ (op = 4 ∨ op = 5) ∨ (op = 6 ∨ op = 7) by omega) with rfl | hop | rfl | hop | hop
  · have hn : n.toNat < C.length := by
      simp only [choicesF, if_true] at hn1; omega
    exact ⟨_, _, by rw [tn0], name_ne (hC _ hn).1 (by decide)⟩
  · exact ⟨_, _, by rw [tn12 _ _ _ _ hop], by rcases hop with rfl | rfl <;> decide⟩
  · exact ⟨_, _, by rw [tn3], by decide⟩
  · exact ⟨_, _, by rw [tn45 _ _ _ _ hop], by decide⟩
  · exact ⟨_, _, by rw [tn67 _ _ _ _ hop], by rcases hop with rfl | rfl <;> decide⟩
theorem tok_minus {C R : List ByteArray} (hC : Finds C) (t : Tr) (h : t.wfT C.length R.length = true) (rest : List ByteArray) : minusB ((t.toks C R).map strOf ++ rest) = false := by
  obtain ⟨x, r, hx, h45⟩ := tok_head (R := R) hC t h
  rw [hx, List.map_cons, List.cons_append, minusB, strOf_data]
  exact h45

/-- The tokens of a concept's string are read back. -/
theorem parse_toks {C R : List ByteArray} (hC : Finds C) (hR : Finds R) (t : Tr) : t.wfT C.length R.length = true → ∀ (f : Nat) (rest : List ByteArray), (t.toks C R).length ≤ f → parseN C R f ((t.toks C R).map strOf ++ rest) = some (t, rest) :=
  Tr.rec (motive_1 := fun t => t.wfT C.length R.length = true → ∀ (f : Nat) (rest : List ByteArray), (t.toks C R).length ≤ f → parseN C R f ((t.toks C R).map strOf ++ rest) = some (t, rest))
    (motive_2 := fun l => Tr.wfTs C.length R.length l = true → ∀ x ∈ l, x.wfT C.length R.length = true ∧ ∀ (f : Nat) (rest : List ByteArray), (x.toks C R).length ≤ f → parseN C R f ((x.toks C R).map strOf ++ rest) = some (x, rest))
    (fun op n args ih h f rest hf => by
      rw [Tr.wfT, Bool.and_eq_true] at h
      obtain ⟨hw, hs⟩ := h
      simp only [wfB, Bool.and_eq_true, decide_eq_true_eq, beq_iff_eq] at hw
      obtain ⟨h0, h8, hl, hn0, hn1⟩ := hw
      have ih := ih hs
      rw [Tr.toks] at hf ⊢
      rcases (show op = 0 ∨ (op = 1 ∨ op = 2) ∨ op = 3 ∨ (op = 4 ∨ op = 5) ∨ (op = 6 ∨ op = 7) by omega) with rfl | hop | rfl | hop | hop
      · have hn : n.toNat < C.length := by
          simp only [choicesF, if_true] at hn1; omega
        have ha : args = [] := by simpa [arityF] using hl
        subst ha
        rw [tn0] at hf ⊢
        obtain ⟨f, rfl⟩ : ∃ g, f = g + 1 := ⟨f - 1, by simp only [List.length_cons, List.length_nil] at hf; omega⟩
        have h1 := (hC _ hn).1
        rw [List.map_cons, List.map_nil, List.singleton_append, parseN, strOf_data, name_ne h1 (by decide), name_ne h1 (by decide), name_ne h1 (by decide), name_ne h1 (by decide), name_ne h1 (by decide), name_ne h1 (by decide), findN_at hC hn]
        simp only [Bool.false_eq_true, if_false]
        rw [Int.toNat_of_nonneg hn0]
      · have hn : n = 0 := by rw [choicesF, if_neg (by omega), if_neg (by omega)] at hn1; omega
        have ha : args = [] := by rw [arityF, if_neg (by omega), if_neg (by omega)] at hl; exact List.eq_nil_of_length_eq_zero (by omega)
        subst hn ha
        rw [tn12 _ _ _ _ hop] at hf ⊢
        obtain ⟨f, rfl⟩ : ∃ g, f = g + 1 := ⟨f - 1, by simp only [List.length_cons, List.length_nil] at hf; omega⟩
        rw [List.map_cons, List.map_nil, List.singleton_append, parseN, strOf_data]
        rcases hop with rfl | rfl <;> rfl
      · obtain ⟨x, rfl⟩ := List.length_eq_one_iff.1 (show args.length = 1 by simp [arityF] at hl; omega)
        have hn : n = 0 := by rw [choicesF, if_neg (by omega), if_neg (by omega)] at hn1; omega
        subst hn
        rw [tn3] at hf ⊢
        simp only [Tr.tokss, List.getD_cons_zero, List.length_cons] at hf ⊢
        obtain ⟨f, rfl⟩ : ∃ g, f = g + 1 := ⟨f - 1, by omega⟩
        have := (ih x (by simp)).2 f rest (by omega)
        rw [List.map_cons, List.cons_append, parseN, strOf_data, if_neg (by decide), if_neg (by decide), if_pos (by decide), this]
        rfl
      · obtain ⟨x, y, rfl⟩ : ∃ x y, args = [x, y] := by
          rw [arityF, if_neg (by omega), if_pos (by omega)] at hl
          match args, hl with
          | [a, b], _ => exact ⟨a, b, rfl⟩
        have hn : n = 0 := by rw [choicesF, if_neg (by omega), if_neg (by omega)] at hn1; omega
        subst hn
        rw [tn45 _ _ _ _ hop] at hf ⊢
        simp only [Tr.tokss, List.getD_cons_zero, List.getD_cons_succ, List.length_cons, List.length_append, List.length_nil] at hf ⊢
        obtain ⟨f, rfl⟩ : ∃ g, f = g + 1 := ⟨f - 1, by omega⟩
        have hx := (ih x (by simp)).2 f (strOf (wordF op) :: ((y.toks C R).map strOf ++ strOf [41] :: rest)) (by omega)
        have hy := (ih y (by simp)).2 f (strOf [41] :: rest) (by omega)
        have hc : connF (strOf (wordF op)) = some op := by rw [connF, strOf_data]; rcases hop with rfl | rfl <;> rfl
        have hA : (([40] :: (x.toks C R ++ wordF op :: (y.toks C R ++ [[41]])) : List (List UInt8)).map strOf ++ rest) = strOf [40] :: ((x.toks C R).map strOf ++ strOf (wordF op) :: ((y.toks C R).map strOf ++ strOf [41] :: rest)) := by simp
        rw [hA, parseN, strOf_data, if_neg (by decide), if_neg (by decide), if_neg (by decide), if_neg (by decide), if_neg (by decide), if_pos (by decide), pairN, hx]
        simp only [hc, hy, strOf_data]
        rfl
      · obtain ⟨x, rfl⟩ := List.length_eq_one_iff.1 (show args.length = 1 by rw [arityF, if_pos (by omega)] at hl; omega)
        have hr : (n / 2).toNat < R.length := by
          rw [choicesF, if_neg (by omega), if_pos (by omega)] at hn1; omega
        rw [tn67 _ _ _ _ hop] at hf ⊢
        simp only [Tr.tokss, List.getD_cons_zero, List.length_cons, List.length_append] at hf ⊢
        obtain ⟨f, rfl⟩ : ∃ g, f = g + 1 := ⟨f - 1, by omega⟩
        obtain ⟨hwx, hx⟩ := ih x (by simp)
        have hx := hx f rest (by omega)
        have hm := tok_minus (R := R) hC x hwx rest
        have hq : ∀ op', quantN (parseN C R f) R op' (((roleT R n ++ x.toks C R).map strOf) ++ rest) = some (.mk op' n [x], rest) := by
          intro op'
          rw [roleT]
          by_cases ho : n % 2 = 1
          · rw [if_pos ho]
            simp only [List.cons_append, List.nil_append, List.map_cons, quantN, findN_at hR hr]
            rw [show minusB (strOf [45] :: ((x.toks C R).map strOf ++ rest)) = true from by rw [minusB, strOf_data]; rfl]
            simp only [if_true, List.tail_cons, hx, Option.map_some]
            rw [show (2 * (((n / 2).toNat : Nat) : Int) + 1) = n by omega]
          · rw [if_neg ho]
            simp only [List.cons_append, List.nil_append, List.map_cons, quantN, findN_at hR hr, hm]
            simp only [Bool.false_eq_true, if_false, hx, Option.map_some]
            rw [show (2 * (((n / 2).toNat : Nat) : Int) + 0) = n by omega]
        rw [List.map_cons, List.cons_append, parseN, strOf_data]
        rcases hop with rfl | rfl
        · rw [if_neg (by decide), if_neg (by decide), if_neg (by decide), if_pos (by decide)]; exact hq 6
        · rw [if_neg (by decide), if_neg (by decide), if_neg (by decide), if_neg (by decide), if_pos (by decide)]; exact hq 7)
    (fun _ x hx => by cases hx)
    (fun t ts h1 h2 h x hx => by
      rw [Tr.wfTs, Bool.and_eq_true] at h
      rcases List.mem_cons.1 hx with rfl | hx
      · exact ⟨h.1, h1 h.1⟩
      · exact h2 h.2 x hx) t

theorem okL_finds : ∀ (l seen : List ByteArray), okL seen l = true → ∀ k (hk : k < l.length), nameB l[k] = true ∧ (∀ x ∈ seen, x ≠ l[k]) ∧ ∀ j (hj : j < k), l[j] ≠ l[k]
  | x :: r, seen, h, k, hk => by
    rw [okL, Bool.and_eq_true, Bool.and_eq_true] at h
    obtain ⟨⟨h1, h2⟩, h3⟩ := h
    have hx : x ∉ seen := fun hm => by rw [(Lib.containsS_iff seen x).2 hm] at h2; cases h2
    cases k with
    | zero => exact ⟨h1, fun y hy e => hx (by simp only [List.getElem_cons_zero] at e; exact e ▸ hy), fun j hj => absurd hj (by omega)⟩
    | succ k =>
      obtain ⟨i1, i2, i3⟩ := okL_finds r _ h3 k (by simpa using hk)
      refine ⟨i1, fun y hy => i2 y (by simp [hy]), fun j hj => ?_⟩
      cases j with
      | zero => exact i2 x (by simp)
      | succ j => exact i3 j (by omega)
theorem finds_of (A L Z : List ByteArray) (h : okL [] (A ++ L ++ Z) = true) : Finds L := by
  intro k hk
  have hg : nameAt L k = (L[k]).data.toList := by rw [nameAt, List.getD_eq_getElem?_getD, List.getElem?_eq_getElem hk]; rfl
  have at_ : ∀ j (hj : j < L.length), (A ++ L ++ Z)[A.length + j]'(by simp; omega) = L[j] := fun j hj => by
    rw [List.getElem_append_left (by simp; omega), List.getElem_append_right (by omega)]
    simp
  obtain ⟨i1, -, i3⟩ := okL_finds _ _ h (A.length + k) (by simp; omega)
  rw [at_ k hk] at i1
  simp only [nameB, Bool.and_eq_true, decide_eq_true_eq] at i1
  refine ⟨by rw [hg, nameL, i1.1.2, Bool.true_and]; exact i1.2, ?_⟩
  have := Lib.idxOfS_hit L L.length k (strOf (nameAt L k)) hk (Nat.le_refl _) (strOf_name L k).symm (fun j hj e => by
    rw [strOf_name] at e
    simp only [List.getD_eq_getElem?_getD, List.getElem?_eq_getElem hk, List.getElem?_eq_getElem (show j < L.length by omega), Option.getD_some] at e
    have := i3 (A.length + j) (by omega)
    rw [at_ j (by omega), at_ k hk] at this
    exact this e)
  rwa [List.take_length] at this
theorem finds_ok {n : NM} (h : n.ok = true) : Finds n.C.l ∧ Finds n.R.l ∧ Finds n.I.l := by
  simp only [NM.ok, namesB, Bool.and_eq_true] at h
  have h := h.2.2.2
  exact ⟨finds_of [] n.C.l (n.R.l ++ n.I.l) (by simpa using h), finds_of n.C.l n.R.l n.I.l h, finds_of (n.C.l ++ n.R.l) n.I.l [] (by simpa using h)⟩

theorem wfT_of_valid {C R : Nat} {t : Tr} (h : validT C R t = true) : t.wfT C R = true := by
  rw [validT_split, Bool.and_eq_true] at h
  exact h.2

/-- PARSING THE STRING OF A CONCEPT RETURNS IT. -/
theorem parse_str {n : NM} {t : Tr} (h : (checkT n t == 0) = true) : parseTr n (t.str n.C.l n.R.l) = t ∧ parseE n (t.str n.C.l n.R.l) = 0 := by
  have hc : checkT n t = 0 := by simpa using h
  rcases hok : n.ok
  · rw [checkT, hok] at hc; cases hc
  · rcases hv : validT n.C.l.length n.R.l.length t
    · rw [checkT, hok, hv] at hc; cases hc
    · have hwf := wfT_of_valid hv
      obtain ⟨fC, fR, -⟩ := finds_ok hok
      obtain ⟨m1, m2, -⟩ := ok_names hok
      have hlen := str_length (m := 12) m1 m2 t
      have hsz : t.size ≤ 400 := by
        rw [validT, Bool.and_eq_true, decide_eq_true_eq] at hv; exact hv.1
      have ht := toksF_str fC.words fR.words t hwf
      have hp := parse_toks fC fR t hwf (t.toks n.C.l n.R.l).length [] (Nat.le_refl _)
      rw [List.append_nil] at hp
      have hr : readF n.C.l n.R.l (t.str n.C.l n.R.l) = some t := by
        unfold readF
        rw [show ([40, 41, 45] : List UInt8) = cM from rfl, ht]
        simp only [hp, if_true]
      obtain ⟨i1, i2⟩ := parse_some hok (show (t.str n.C.l n.R.l).length ≤ 30000 by omega) hr
      rw [h, if_pos rfl] at i1
      exact ⟨i1, by rw [i2, hc]⟩
end Go.Proofs.YtdfghgcfihhmjaaDoor
