import Derived.Test.YtdfghgcfihhmjaaDoorPure
namespace Go.Proofs.YtdfghgcfihhmjaaDoor
open Go.RowKit

/-! What the tokens of a string that String has written are. -/
def cM : List UInt8 := [40, 41, 45]
/-- A byte that ends a word. -/
def endB : List UInt8 → Bool
  | [] => true
  | c :: _ => !inB c
theorem sep_word {c : UInt8} (h : inB c = true) : sepB cM c = false := by
  rw [Bool.eq_false_iff]; intro hs
  simp only [sepB, cM, List.contains_cons, List.contains_nil, Bool.or_false, Bool.or_eq_true, beq_iff_eq] at hs
  rcases hs with rfl | rfl | rfl | rfl <;> exact absurd h (by decide)
theorem span_word : ∀ (r q : List UInt8), r.all inB = true → endB q = true → (r ++ q).takeWhile inB = r ∧ (r ++ q).dropWhile inB = q
  | [], [], _, _ => ⟨rfl, rfl⟩
  | [], c :: q, _, h => by
    have : inB c = false := by simpa [endB] using h
    simp [this]
  | c :: r, q, h, hq => by
    rw [List.all_cons, Bool.and_eq_true] at h
    obtain ⟨i1, i2⟩ := span_word r q h.2 hq
    rw [List.cons_append, List.takeWhile_cons, List.dropWhile_cons, h.1]
    exact ⟨by simp [i1], by simpa using i2⟩
theorem toks_wd {wd q : List UInt8} (h : wordL wd = true) (hq : endB q = true) : toksF cM (wd ++ q) = (toksF cM q).map (wd :: ·) := by
  cases wd with
  | nil => cases h
  | cons c r =>
    simp only [wordL, Bool.and_eq_true, List.all_cons] at h
    obtain ⟨hl, hi, hr⟩ := h
    obtain ⟨i1, i2⟩ := span_word r q hr hq
    rw [List.cons_append, toksF_cons, sep_word hi, if_neg (by simp), if_pos hl, i1, i2]
theorem toks_blank (q : List UInt8) : toksF cM (32 :: q) = toksF cM q := by
  rw [toksF_cons, if_pos (by decide)]
  simp
theorem toks_mark {c : UInt8} (h : c = 40 ∨ c = 41 ∨ c = 45) (q : List UInt8) : toksF cM (c :: q) = (toksF cM q).map ([c] :: ·) := by
  rcases h with rfl | rfl | rfl
  all_goals rw [toksF_cons, if_pos (by decide)]; rfl

def roleT (R : List ByteArray) (r : Int) : List (List UInt8) := nameAt R (r / 2).toNat :: if r % 2 = 1 then [[45]] else []
def tokNode (C R : List ByteArray) (op n : Int) (l : List (List (List UInt8))) : List (List UInt8) :=
  if op = 0 then [nameAt C n.toNat]
  else if op = 1 ∨ op = 2 then [wordF op]
  else if op = 3 then [110, 111, 116] :: l.getD 0 []
  else if op = 4 ∨ op = 5 then [40] :: (l.getD 0 [] ++ wordF op :: (l.getD 1 [] ++ [[41]]))
  else wordF op :: (roleT R n ++ l.getD 0 [])
mutual
/-- The tokens of a concept's string. -/
def Tr.toks (C R : List ByteArray) : Tr → List (List UInt8)
  | .mk op n args => tokNode C R op n (Tr.tokss C R args)
def Tr.tokss (C R : List ByteArray) : List Tr → List (List (List UInt8))
  | [] => []
  | t :: ts => Tr.toks C R t :: Tr.tokss C R ts
end

section
variable (C R : List ByteArray) {op : Int} (n : Int) (l : List (List UInt8)) (m : List (List (List UInt8)))
theorem sn12 (h : op = 1 ∨ op = 2) : strNode C R op n l = wordF op := by rw [strNode, if_neg (by omega), if_pos h]
theorem sn3 : strNode C R 3 n l = [110, 111, 116, 32] ++ l.getD 0 [] := by rw [strNode, if_neg (by decide), if_neg (by decide), if_pos rfl]
theorem sn45 (h : op = 4 ∨ op = 5) : strNode C R op n l = [40] ++ l.getD 0 [] ++ ([32] ++ wordF op ++ [32]) ++ l.getD 1 [] ++ [41] := by rw [strNode, if_neg (by omega), if_neg (by omega), if_neg (by omega), if_pos h]
theorem sn67 (h : op = 6 ∨ op = 7) : strNode C R op n l = wordF op ++ [32] ++ roleF R n ++ [32] ++ l.getD 0 [] := by rw [strNode, if_neg (by omega), if_neg (by omega), if_neg (by omega), if_neg (by omega)]
theorem tn0 : tokNode C R 0 n m = [nameAt C n.toNat] := by rw [tokNode, if_pos rfl]
theorem tn12 (h : op = 1 ∨ op = 2) : tokNode C R op n m = [wordF op] := by rw [tokNode, if_neg (by omega), if_pos h]
theorem tn3 : tokNode C R 3 n m = [110, 111, 116] :: m.getD 0 [] := by rw [tokNode, if_neg (by decide), if_neg (by decide), if_pos rfl]
theorem tn45 (h : op = 4 ∨ op = 5) : tokNode C R op n m = [40] :: (m.getD 0 [] ++ wordF op :: (m.getD 1 [] ++ [[41]])) := by rw [tokNode, if_neg (by omega), if_neg (by omega), if_neg (by omega), if_pos h]
theorem tn67 (h : op = 6 ∨ op = 7) : tokNode C R op n m = wordF op :: (roleT R n ++ m.getD 0 []) := by rw [tokNode, if_neg (by omega), if_neg (by omega), if_neg (by omega), if_neg (by omega)]
end

theorem toks_role {R : List ByteArray} {r : Int} (h : wordL (nameAt R (r / 2).toNat) = true) (q : List UInt8) (hq : endB q = true) : toksF cM (roleF R r ++ q) = (toksF cM q).map (roleT R r ++ ·) := by
  rw [roleF, roleT]
  split
  · rw [List.append_assoc, toks_wd h (by rfl), List.singleton_append, toks_mark (.inr (.inr rfl)), Option.map_map]
    rfl
  · rw [List.append_nil, toks_wd h hq]
    rfl

/-- Every name that is written is a word, and no reserved one. -/
def Words (L : List ByteArray) : Prop := ∀ k, k < L.length → nameL (nameAt L k) = true

theorem name_word {l : List UInt8} (h : nameL l = true) : wordL l = true := by
  rw [nameL, Bool.and_eq_true] at h; exact h.1

theorem str_toks {C R : List ByteArray} (hC : Words C) (hR : Words R) (t : Tr) : t.wfT C.length R.length = true → ∀ q, endB q = true → toksF cM (t.str C R ++ q) = (toksF cM q).map (t.toks C R ++ ·) :=
  Tr.rec (motive_1 := fun t => t.wfT C.length R.length = true → ∀ q, endB q = true → toksF cM (t.str C R ++ q) = (toksF cM q).map (t.toks C R ++ ·))
    (motive_2 := fun l => Tr.wfTs C.length R.length l = true → (∀ x, l = [x] → ∀ q, endB q = true → toksF cM (x.str C R ++ q) = (toksF cM q).map (x.toks C R ++ ·)) ∧ (∀ x y, l = [x, y] → (∀ q, endB q = true → toksF cM (x.str C R ++ q) = (toksF cM q).map (x.toks C R ++ ·)) ∧ ∀ q, endB q = true → toksF cM (y.str C R ++ q) = (toksF cM q).map (y.toks C R ++ ·)) ∧ ∀ x r, l = x :: r → ∀ q, endB q = true → toksF cM (x.str C R ++ q) = (toksF cM q).map (x.toks C R ++ ·))
    (fun op n args ih h q hq => by
      rw [Tr.wfT, Bool.and_eq_true] at h
      obtain ⟨hw, hs⟩ := h
      simp only [wfB, Bool.and_eq_true, decide_eq_true_eq, beq_iff_eq] at hw
      obtain ⟨h0, h8, hl, hn0, hn1⟩ := hw
      obtain ⟨i1, i2, -⟩ := ih hs
      rw [Tr.str, Tr.toks]
      rcases (show op = 0 ∨ (op = 1 ∨ op = 2) ∨ op = 3 ∨ (op = 4 ∨ op = 5) ∨ (op = 6 ∨ op = 7) by omega) with rfl | hop | rfl | hop | hop
      · have hn : n.toNat < C.length := by
          simp only [choicesF, if_true] at hn1; omega
        simp only [strNode, tokNode, if_true]
        exact toks_wd (name_word (hC _ hn)) hq
      · have hwd : wordL (wordF op) = true := by rcases hop with rfl | rfl <;> decide
        rw [sn12 _ _ _ _ hop, tn12 _ _ _ _ hop]
        exact toks_wd hwd hq
      · obtain ⟨x, rfl⟩ := List.length_eq_one_iff.1 (show args.length = 1 by simp [arityF] at hl; omega)
        have := i1 x rfl q hq
        simp only [sn3, tn3, Tr.strs, Tr.tokss, List.getD_cons_zero]
        rw [show ([110, 111, 116, 32] ++ x.str C R ++ q : List UInt8) = [110, 111, 116] ++ 32 :: (x.str C R ++ q) by simp, toks_wd (by decide) (by rfl), toks_blank, this, Option.map_map]
        rfl
      · obtain ⟨x, y, rfl⟩ : ∃ x y, args = [x, y] := by
          rw [arityF, if_neg (by omega), if_pos (by omega)] at hl
          match args, hl with
          | [a, b], _ => exact ⟨a, b, rfl⟩
        obtain ⟨j1, j2⟩ := i2 x y rfl
        have hwd : wordL (wordF op) = true := by rcases hop with rfl | rfl <;> decide
        simp only [sn45 _ _ _ _ hop, tn45 _ _ _ _ hop, Tr.strs, Tr.tokss, List.getD_cons_zero, List.getD_cons_succ]
        rw [show ([40] ++ x.str C R ++ ([32] ++ wordF op ++ [32]) ++ y.str C R ++ [41] ++ q : List UInt8) = 40 :: (x.str C R ++ 32 :: (wordF op ++ 32 :: (y.str C R ++ 41 :: q))) by simp]
        rw [toks_mark (.inl rfl), j1 _ (by rfl), toks_blank, toks_wd hwd (by rfl), toks_blank, j2 _ (by rfl), toks_mark (.inr (.inl rfl))]
        simp only [Option.map_map]
        congr 1
        funext l
        simp
      · obtain ⟨x, rfl⟩ := List.length_eq_one_iff.1 (show args.length = 1 by rw [arityF, if_pos (by omega)] at hl; omega)
        have hj := i1 x rfl q hq
        have hwd : wordL (wordF op) = true := by rcases hop with rfl | rfl <;> decide
        have hr : (n / 2).toNat < R.length := by
          rw [choicesF, if_neg (by omega), if_pos (by omega)] at hn1; omega
        simp only [sn67 _ _ _ _ hop, tn67 _ _ _ _ hop, Tr.strs, Tr.tokss, List.getD_cons_zero]
        rw [show (wordF op ++ [32] ++ roleF R n ++ [32] ++ x.str C R ++ q : List UInt8) = wordF op ++ 32 :: (roleF R n ++ 32 :: (x.str C R ++ q)) by simp]
        rw [toks_wd hwd (by rfl), toks_blank, toks_role (name_word (hR _ hr)) _ (by rfl), toks_blank, hj]
        simp only [Option.map_map]
        congr 1
        funext l
        simp)
    (fun _ => ⟨fun x h => (by cases h), fun x y h => (by cases h), fun x r h => (by cases h)⟩)
    (fun t ts h1 h2 h => by
      rw [Tr.wfTs, Bool.and_eq_true] at h
      refine ⟨fun x hx => ?_, fun x y hx => ?_, fun x r hx => ?_⟩
      · cases hx; exact h1 h.1
      · cases hx; exact ⟨h1 h.1, (h2 h.2).2.2 _ _ rfl⟩
      · cases hx; exact h1 h.1) t
theorem toksF_str {C R : List ByteArray} (hC : Words C) (hR : Words R) (t : Tr) (h : t.wfT C.length R.length = true) : toksF cM (t.str C R) = some (t.toks C R) := by
  have := str_toks hC hR t h [] rfl
  rw [List.append_nil, toksF_nil] at this
  simpa using this
end Go.Proofs.YtdfghgcfihhmjaaDoor
