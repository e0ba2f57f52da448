import Derived.Test.YtndkcimajeofcaaGreatDoorG8e4b9ee58e
import Derived.Test.YtndkcimajeofcaaGreatDoorGf12c0a9800
import Derived.Test.YtndkcimajeofcaaGreatDoorG71e4b1a3b7
import Derived.Lib.Bytealg
import Derived.WalkLawsBesides
import Derived.Recover
import Derived.Laws.Pointers
namespace Go.Proofs.YtndkcimajeofcaaGreatDoor
open Go.RowKit

/-- A byte that is a token by itself, or a blank. -/
def sepB (M : List UInt8) (c : UInt8) : Bool := c == 32 || M.contains c

end Go.Proofs.YtndkcimajeofcaaGreatDoor

namespace Go.Proofs.YtndkcimajeofcaaGreatDoor
open Go.RowKit

def inB (c : UInt8) : Bool := isIn c.toNat
def toksN (M : List UInt8) : Nat → List UInt8 → Option (List (List UInt8))
  | 0, _ => some []
  | _ + 1, [] => some []
  | f + 1, c :: r => if sepB M c then (toksN M f r).map (fun l => if c = 32 then l else [c] :: l) else if isLet c.toNat then (toksN M f (r.dropWhile inB)).map (fun l => (c :: r.takeWhile inB) :: l) else none
theorem dropWhile_len (p : UInt8 → Bool) (l : List UInt8) : (l.dropWhile p).length ≤ l.length := (List.dropWhile_sublist p).length_le
theorem toksN_more (M : List UInt8) : ∀ (f : Nat) (l : List UInt8), l.length ≤ f → toksN M f l = toksN M l.length l
  | 0, l, h => by rw [List.eq_nil_of_length_eq_zero (Nat.le_zero.1 h)]; rfl
  | f + 1, [], _ => rfl
  | f + 1, c :: r, h => by
    have h' : r.length ≤ f := by simpa using h
    have hd := dropWhile_len inB r
    rw [List.length_cons, toksN, toksN, toksN_more M f r h', toksN_more M f _ (by omega), toksN_more M r.length (r.dropWhile inB) hd]
def toksF (M l : List UInt8) : Option (List (List UInt8)) := toksN M l.length l
theorem toksF_nil (M : List UInt8) : toksF M [] = some [] := rfl
theorem toksF_cons (M : List UInt8) (c : UInt8) (r : List UInt8) : toksF M (c :: r) = if sepB M c then (toksF M r).map (fun l => if c = 32 then l else [c] :: l) else if isLet c.toNat then (toksF M (r.dropWhile inB)).map (fun l => (c :: r.takeWhile inB) :: l) else none := by
  rw [toksF, List.length_cons, toksN, toksN_more M r.length _ (dropWhile_len inB r)]; rfl

end Go.Proofs.YtndkcimajeofcaaGreatDoor

namespace Go.Proofs.YtndkcimajeofcaaGreatDoor
open Go.RowKit

section
variable {n : NM} {B pb : Nat} {ts : List ByteArray} {w w' : World}
end

theorem Tail.In {c b off B : Nat} {t : ByteArray} {r : List ByteArray} {w : World} (h : (SL.mk (some ⟨b, off, none⟩) c (t :: r)).In B w) : (SL.mk (some ⟨b, off + 1, none⟩) (c - 1) r).In B w := by
  obtain ⟨h1, h2, h3, h4, h5⟩ := h
  simp only [List.length_cons] at h1 h2 h4 h5
  refine ⟨by simp only; omega, by simp only; omega, by simp, ⟨by simp, fun hn => ?_⟩, fun x hx => h5 x (List.mem_cons_of_mem _ hx)⟩
  obtain ⟨b', off', hA', hb, hc⟩ := h4.2 (by omega)
  cases hA'
  refine ⟨b, off + 1, rfl, hb, fun j hj => ?_⟩
  simp only at hj
  have := hc (j + 1) (by omega)
  rw [show off + 1 + j = off + (j + 1) by omega, this]
  simp
def findN (L : List ByteArray) (t : ByteArray) : Option Int := if nameL t.data.toList then some (Lib.idxOfS L t) else none
def connF (t : ByteArray) : Option Int := if t.data.toList = [97, 110, 100] then some 4 else if t.data.toList = [111, 114] then some 5 else none
theorem bytes_ext {a b : ByteArray} (h : a.data.toList = b.data.toList) : a = b := by
  cases a; cases b
  simp only [Array.toList_inj] at h
  rw [h]
def minusB : List ByteArray → Bool
  | x :: _ => x.data.toList == [45]
  | [] => false
def PF := List ByteArray → Option (Tr × List ByteArray)
def quantN (p : PF) (R : List ByteArray) (op : Int) : PF
  | [] => none
  | t :: r => match findN R t with
    | none => none
    | some i => (p (if minusB r then r.tail else r)).map fun x => (.mk op (2 * i + if minusB r then 1 else 0) [x.1], x.2)
def pairN (p : PF) (r : List ByteArray) : Option (Tr × List ByteArray) :=
  match p r with
  | none => none
  | some (_, []) => none
  | some (a, o :: r2) => match connF o with
    | none => none
    | some op => match p r2 with
      | none => none
      | some (_, []) => none
      | some (b, x :: r4) => if x.data.toList == [41] then some (.mk op 0 [a, b], r4) else none

end Go.Proofs.YtndkcimajeofcaaGreatDoor

namespace Go.Proofs.YtndkcimajeofcaaGreatDoor
open Go.RowKit

theorem New.pb {lo pb : Nat} {w w' : World} {T : MT} (h : New lo w T) (hg : w.grownBy w' (some pb)) (hl : pb < lo) : New lo w' T :=
  h.grown hg (MT.All.imp (fun b hb e => by have := Option.some.inj e; have := hb.1; omega) _ h.2)
/-- The parser: what a token list means. -/
def parseN (C R : List ByteArray) : Nat → PF
  | 0, _ => none
  | _ + 1, [] => none
  | f + 1, t :: r =>
    if t.data.toList == [116, 111, 112] then some (.mk 1 0 [], r)
    else if t.data.toList == [98, 111, 116] then some (.mk 2 0 [], r)
    else if t.data.toList == [110, 111, 116] then (parseN C R f r).map fun x => (.mk 3 0 [x.1], x.2)
    else if t.data.toList == [115, 111, 109, 101] then quantN (parseN C R f) R 6 r
    else if t.data.toList == [97, 108, 108] then quantN (parseN C R f) R 7 r
    else if t.data.toList == [40] then pairN (parseN C R f) r
    else match findN C t with
      | none => none
      | some i => some (.mk 0 i [], r)

end Go.Proofs.YtndkcimajeofcaaGreatDoor

namespace Go.Proofs.YtndkcimajeofcaaGreatDoor
open Go.RowKit

end Go.Proofs.YtndkcimajeofcaaGreatDoor

namespace Go.Proofs.YtndkcimajeofcaaGreatDoor
open Go.RowKit

end Go.Proofs.YtndkcimajeofcaaGreatDoor

namespace Go.Proofs.YtndkcimajeofcaaGreatDoor
open Go.RowKit

/-! What the tokens of a string that String has written are. -/
def cM : List UInt8 := [40, 41, 45]
/-- A byte that ends a word. -/
def endB : List UInt8 → Bool
  | [] => true
  | c :: _ => !inB c
theorem sep_word {c : UInt8} (h : inB c = true) : sepB cM c = false := by
  rw [Bool.eq_false_iff]; intro hs
  simp only [sepB, cM, List.contains_cons, List.contains_nil, Bool.or_false, Bool.or_eq_true, beq_iff_eq] at hs
  rcases hs with rfl | rfl | rfl | rfl <;> exact absurd h (by decide)
theorem span_word : ∀ (r q : List UInt8), r.all inB = true → endB q = true → (r ++ q).takeWhile inB = r ∧ (r ++ q).dropWhile inB = q
  | [], [], _, _ => ⟨rfl, rfl⟩
  | [], c :: q, _, h => by
    have : inB c = false := by simpa [endB] using h
    simp [this]
  | c :: r, q, h, hq => by
    rw [List.all_cons, Bool.and_eq_true] at h
    obtain ⟨i1, i2⟩ := span_word r q h.2 hq
    rw [List.cons_append, List.takeWhile_cons, List.dropWhile_cons, h.1]
    exact ⟨by simp [i1], by simpa using i2⟩
theorem toks_wd {wd q : List UInt8} (h : wordL wd = true) (hq : endB q = true) : toksF cM (wd ++ q) = (toksF cM q).map (wd :: ·) := by
  cases wd with
  | nil => cases h
  | cons c r =>
    simp only [wordL, Bool.and_eq_true, List.all_cons] at h
    obtain ⟨hl, hi, hr⟩ := h
    obtain ⟨i1, i2⟩ := span_word r q hr hq
    rw [List.cons_append, toksF_cons, sep_word hi, if_neg (by simp), if_pos hl, i1, i2]
theorem toks_blank (q : List UInt8) : toksF cM (32 :: q) = toksF cM q := by
  rw [toksF_cons, if_pos (by decide)]
  simp
theorem toks_mark {c : UInt8} (h : c = 40 ∨ c = 41 ∨ c = 45) (q : List UInt8) : toksF cM (c :: q) = (toksF cM q).map ([c] :: ·) := by
  rcases h with rfl | rfl | rfl
  all_goals rw [toksF_cons, if_pos (by decide)]; rfl

def roleT (R : List ByteArray) (r : Int) : List (List UInt8) := nameAt R (r / 2).toNat :: if r % 2 = 1 then [[45]] else []
def tokNode (C R : List ByteArray) (op n : Int) (l : List (List (List UInt8))) : List (List UInt8) :=
  if op = 0 then [nameAt C n.toNat]
  else if op = 1 ∨ op = 2 then [wordF op]
  else if op = 3 then [110, 111, 116] :: l.getD 0 []
  else if op = 4 ∨ op = 5 then [40] :: (l.getD 0 [] ++ wordF op :: (l.getD 1 [] ++ [[41]]))
  else wordF op :: (roleT R n ++ l.getD 0 [])
mutual
/-- The tokens of a concept's string. -/
def Tr.toks (C R : List ByteArray) : Tr → List (List UInt8)
  | .mk op n args => tokNode C R op n (Tr.tokss C R args)
def Tr.tokss (C R : List ByteArray) : List Tr → List (List (List UInt8))
  | [] => []
  | t :: ts => Tr.toks C R t :: Tr.tokss C R ts
end

section
variable (C R : List ByteArray) {op : Int} (n : Int) (l : List (List UInt8)) (m : List (List (List UInt8)))
theorem sn12 (h : op = 1 ∨ op = 2) : strNode C R op n l = wordF op := by rw [strNode, if_neg (by omega), if_pos h]
theorem sn3 : strNode C R 3 n l = [110, 111, 116, 32] ++ l.getD 0 [] := by rw [strNode, if_neg (by decide), if_neg (by decide), if_pos rfl]
theorem sn45 (h : op = 4 ∨ op = 5) : strNode C R op n l = [40] ++ l.getD 0 [] ++ ([32] ++ wordF op ++ [32]) ++ l.getD 1 [] ++ [41] := by rw [strNode, if_neg (by omega), if_neg (by omega), if_neg (by omega), if_pos h]
theorem sn67 (h : op = 6 ∨ op = 7) : strNode C R op n l = wordF op ++ [32] ++ roleF R n ++ [32] ++ l.getD 0 [] := by rw [strNode, if_neg (by omega), if_neg (by omega), if_neg (by omega), if_neg (by omega)]
theorem tn0 : tokNode C R 0 n m = [nameAt C n.toNat] := by rw [tokNode, if_pos rfl]
theorem tn12 (h : op = 1 ∨ op = 2) : tokNode C R op n m = [wordF op] := by rw [tokNode, if_neg (by omega), if_pos h]
theorem tn3 : tokNode C R 3 n m = [110, 111, 116] :: m.getD 0 [] := by rw [tokNode, if_neg (by decide), if_neg (by decide), if_pos rfl]
theorem tn45 (h : op = 4 ∨ op = 5) : tokNode C R op n m = [40] :: (m.getD 0 [] ++ wordF op :: (m.getD 1 [] ++ [[41]])) := by rw [tokNode, if_neg (by omega), if_neg (by omega), if_neg (by omega), if_pos h]
theorem tn67 (h : op = 6 ∨ op = 7) : tokNode C R op n m = wordF op :: (roleT R n ++ m.getD 0 []) := by rw [tokNode, if_neg (by omega), if_neg (by omega), if_neg (by omega), if_neg (by omega)]
end

theorem toks_role {R : List ByteArray} {r : Int} (h : wordL (nameAt R (r / 2).toNat) = true) (q : List UInt8) (hq : endB q = true) : toksF cM (roleF R r ++ q) = (toksF cM q).map (roleT R r ++ ·) := by
  rw [roleF, roleT]
  split
  · rw [List.append_assoc, toks_wd h (by rfl), List.singleton_append, toks_mark (.inr (.inr rfl)), Option.map_map]
    rfl
  · rw [List.append_nil, toks_wd h hq]
    rfl

/-- Every name that is written is a word, and no reserved one. -/
def Words (L : List ByteArray) : Prop := ∀ k, k < L.length → nameL (nameAt L k) = true

theorem name_word {l : List UInt8} (h : nameL l = true) : wordL l = true := by
  rw [nameL, Bool.and_eq_true] at h; exact h.1

theorem str_toks {C R : List ByteArray} (hC : Words C) (hR : Words R) (t : Tr) : t.wfT C.length R.length = true → ∀ q, endB q = true → toksF cM (t.str C R ++ q) = (toksF cM q).map (t.toks C R ++ ·) :=
  Tr.rec (motive_1 := fun t => t.wfT C.length R.length = true → ∀ q, endB q = true → toksF cM (t.str C R ++ q) = (toksF cM q).map (t.toks C R ++ ·))
    (motive_2 := fun l => Tr.wfTs C.length R.length l = true → (∀ x, l = [x] → ∀ q, endB q = true → toksF cM (x.str C R ++ q) = (toksF cM q).map (x.toks C R ++ ·)) ∧ (∀ x y, l = [x, y] → (∀ q, endB q = true → toksF cM (x.str C R ++ q) = (toksF cM q).map (x.toks C R ++ ·)) ∧ ∀ q, endB q = true → toksF cM (y.str C R ++ q) = (toksF cM q).map (y.toks C R ++ ·)) ∧ ∀ x r, l = x :: r → ∀ q, endB q = true → toksF cM (x.str C R ++ q) = (toksF cM q).map (x.toks C R ++ ·))
    (fun op n args ih h q hq => by
      rw [Tr.wfT, Bool.and_eq_true] at h
      obtain ⟨hw, hs⟩ := h
      simp only [wfB, Bool.and_eq_true, decide_eq_true_eq, beq_iff_eq] at hw
      obtain ⟨h0, h8, hl, hn0, hn1⟩ := hw
      obtain ⟨i1, i2, -⟩ := ih hs
      rw [Tr.str, Tr.toks]
      rcases (show op = 0 ∨ (op = 1 ∨ op = 2) ∨ op = 3 ∨ (op = 4 ∨ op = 5) ∨ (op = 6 ∨ op = 7) by omega) with rfl | hop | rfl | hop | hop
      · have hn : n.toNat < C.length := by
          simp only [choicesF, if_true] at hn1; omega
        simp only [strNode, tokNode, if_true]
        exact toks_wd (name_word (hC _ hn)) hq
      · have hwd : wordL (wordF op) = true := by rcases hop with rfl | rfl <;> decide
        rw [sn12 _ _ _ _ hop, tn12 _ _ _ _ hop]
        exact toks_wd hwd hq
      · obtain ⟨x, rfl⟩ := List.length_eq_one_iff.1 (show args.length = 1 by simp [arityF] at hl; omega)
        have := i1 x rfl q hq
        simp only [sn3, tn3, Tr.strs, Tr.tokss, List.getD_cons_zero]
        rw [show ([110, 111, 116, 32] ++ x.str C R ++ q : List UInt8) = [110, 111, 116] ++ 32 :: (x.str C R ++ q) by simp, toks_wd (by decide) (by rfl), toks_blank, this, Option.map_map]
        rfl
      · obtain ⟨x, y, rfl⟩ : ∃ x y, args = [x, y] := by
          rw [arityF, if_neg (by omega), if_pos (by omega)] at hl
          match args, hl with
          | [a, b], _ => exact ⟨a, b, rfl⟩
        obtain ⟨j1, j2⟩ := i2 x y rfl
        have hwd : wordL (wordF op) = true := by rcases hop with rfl | rfl <;> decide
        simp only [sn45 _ _ _ _ hop, tn45 _ _ _ _ hop, Tr.strs, Tr.tokss, List.getD_cons_zero, List.getD_cons_succ]
        rw [show ([40] ++ x.str C R ++ ([32] ++ wordF op ++ [32]) ++ y.str C R ++ [41] ++ q : List UInt8) = 40 :: (x.str C R ++ 32 :: (wordF op ++ 32 :: (y.str C R ++ 41 :: q))) by simp]
        rw [toks_mark (.inl rfl), j1 _ (by rfl), toks_blank, toks_wd hwd (by rfl), toks_blank, j2 _ (by rfl), toks_mark (.inr (.inl rfl))]
        simp only [Option.map_map]
        congr 1
        funext l
        simp
      · obtain ⟨x, rfl⟩ := List.length_eq_one_iff.1 (show args.length = 1 by rw [arityF, if_pos (by omega)] at hl; omega)
        have hj := i1 x rfl q hq
        have hwd : wordL (wordF op) = true := by rcases hop with rfl | rfl <;> decide
        have hr : (n / 2).toNat < R.length := by
          rw [choicesF, if_neg (by omega), if_pos (by omega)] at hn1; omega
        simp only [sn67 _ _ _ _ hop, tn67 _ _ _ _ hop, Tr.strs, Tr.tokss, List.getD_cons_zero]
        rw [show (wordF op ++ [32] ++ roleF R n ++ [32] ++ x.str C R ++ q : List UInt8) = wordF op ++ 32 :: (roleF R n ++ 32 :: (x.str C R ++ q)) by simp]
        rw [toks_wd hwd (by rfl), toks_blank, toks_role (name_word (hR _ hr)) _ (by rfl), toks_blank, hj]
        simp only [Option.map_map]
        congr 1
        funext l
        simp)
    (fun _ => ⟨fun x h => (by cases h), fun x y h => (by cases h), fun x r h => (by cases h)⟩)
    (fun t ts h1 h2 h => by
      rw [Tr.wfTs, Bool.and_eq_true] at h
      refine ⟨fun x hx => ?_, fun x y hx => ?_, fun x r hx => ?_⟩
      · cases hx; exact h1 h.1
      · cases hx; exact ⟨h1 h.1, (h2 h.2).2.2 _ _ rfl⟩
      · cases hx; exact h1 h.1) t
theorem toksF_str {C R : List ByteArray} (hC : Words C) (hR : Words R) (t : Tr) (h : t.wfT C.length R.length = true) : toksF cM (t.str C R) = some (t.toks C R) := by
  have := str_toks hC hR t h [] rfl
  rw [List.append_nil, toksF_nil] at this
  simpa using this
end Go.Proofs.YtndkcimajeofcaaGreatDoor

namespace Go.Proofs.YtndkcimajeofcaaGreatDoor
open Go.RowKit

theorem strOf_data (l : List UInt8) : (strOf l).data.toList = l := by simp [strOf]
theorem strOf_name (L : List ByteArray) (k : Nat) : strOf (nameAt L k) = L.getD k ByteArray.empty := bytes_ext (by rw [strOf_data]; rfl)
/-- Every name of a list is one, and is found where it stands. -/
def Finds (L : List ByteArray) : Prop := ∀ k, k < L.length → nameL (nameAt L k) = true ∧ Lib.idxOfS L (strOf (nameAt L k)) = k
theorem Finds.words {L : List ByteArray} (h : Finds L) : Words L := fun k hk => (h k hk).1
theorem findN_at {L : List ByteArray} (h : Finds L) {k : Nat} (hk : k < L.length) : findN L (strOf (nameAt L k)) = some (k : Int) := by
  obtain ⟨h1, h2⟩ := h k hk
  rw [findN, strOf_data, h1, if_pos rfl, h2]

theorem name_ne {l m : List UInt8} (h : nameL l = true) (hm : nameL m = false) : (l == m) = false := by
  rw [beq_eq_false_iff_ne]; intro e; subst e; rw [h] at hm; cases hm

theorem tok_head {C R : List ByteArray} (hC : Finds C) (t : Tr) (h : t.wfT C.length R.length = true) : ∃ x r, t.toks C R = x :: r ∧ (x == [45]) = false := by
  obtain ⟨op, n, args⟩ := t
  rw [Tr.wfT, Bool.and_eq_true] at h
  obtain ⟨hw, hs⟩ := h
  simp only [wfB, Bool.and_eq_true, decide_eq_true_eq, beq_iff_eq] at hw
  obtain ⟨h0, h8, hl, hn0, hn1⟩ := hw
  rw [Tr.toks]
  rcases (show op = 0 ∨ (op = 1 ∨ op = 2) ∨ op = 3 ∨ (op = 4 ∨ op = 5) ∨ (op = 6 ∨ op = 7) by omega) with rfl | hop | rfl | hop | hop
  · have hn : n.toNat < C.length := by
      simp only [choicesF, if_true] at hn1; omega
    exact ⟨_, _, by rw [tn0], name_ne (hC _ hn).1 (by decide)⟩
  · exact ⟨_, _, by rw [tn12 _ _ _ _ hop], by rcases hop with rfl | rfl <;> decide⟩
  · exact ⟨_, _, by rw [tn3], by decide⟩
  · exact ⟨_, _, by rw [tn45 _ _ _ _ hop], by decide⟩
  · exact ⟨_, _, by rw [tn67 _ _ _ _ hop], by rcases hop with rfl | rfl <;> decide⟩
theorem tok_minus {C R : List ByteArray} (hC : Finds C) (t : Tr) (h : t.wfT C.length R.length = true) (rest : List ByteArray) : minusB ((t.toks C R).map strOf ++ rest) = false := by
  obtain ⟨x, r, hx, h45⟩ := tok_head (R := R) hC t h
  rw [hx, List.map_cons, List.cons_append, minusB, strOf_data]
  exact h45

/-- The tokens of a concept's string are read back. -/
theorem parse_toks {C R : List ByteArray} (hC : Finds C) (hR : Finds R) (t : Tr) : t.wfT C.length R.length = true → ∀ (f : Nat) (rest : List ByteArray), (t.toks C R).length ≤ f → parseN C R f ((t.toks C R).map strOf ++ rest) = some (t, rest) :=
  Tr.rec (motive_1 := fun t => t.wfT C.length R.length = true → ∀ (f : Nat) (rest : List ByteArray), (t.toks C R).length ≤ f → parseN C R f ((t.toks C R).map strOf ++ rest) = some (t, rest))
    (motive_2 := fun l => Tr.wfTs C.length R.length l = true → ∀ x ∈ l, x.wfT C.length R.length = true ∧ ∀ (f : Nat) (rest : List ByteArray), (x.toks C R).length ≤ f → parseN C R f ((x.toks C R).map strOf ++ rest) = some (x, rest))
    (fun op n args ih h f rest hf => by
      rw [Tr.wfT, Bool.and_eq_true] at h
      obtain ⟨hw, hs⟩ := h
      simp only [wfB, Bool.and_eq_true, decide_eq_true_eq, beq_iff_eq] at hw
      obtain ⟨h0, h8, hl, hn0, hn1⟩ := hw
      have ih := ih hs
      rw [Tr.toks] at hf ⊢
      rcases (show op = 0 ∨ (op = 1 ∨ op = 2) ∨ op = 3 ∨ (op = 4 ∨ op = 5) ∨ (op = 6 ∨ op = 7) by omega) with rfl | hop | rfl | hop | hop
      · have hn : n.toNat < C.length := by
          simp only [choicesF, if_true] at hn1; omega
        have ha : args = [] := by simpa [arityF] using hl
        subst ha
        rw [tn0] at hf ⊢
        obtain ⟨f, rfl⟩ : ∃ g, f = g + 1 := ⟨f - 1, by simp only [List.length_cons, List.length_nil] at hf; omega⟩
        have h1 := (hC _ hn).1
        rw [List.map_cons, List.map_nil, List.singleton_append, parseN, strOf_data, name_ne h1 (by decide), name_ne h1 (by decide), name_ne h1 (by decide), name_ne h1 (by decide), name_ne h1 (by decide), name_ne h1 (by decide), findN_at hC hn]
        simp only [Bool.false_eq_true, if_false]
        rw [Int.toNat_of_nonneg hn0]
      · have hn : n = 0 := by rw [choicesF, if_neg (by omega), if_neg (by omega)] at hn1; omega
        have ha : args = [] := by rw [arityF, if_neg (by omega), if_neg (by omega)] at hl; exact List.eq_nil_of_length_eq_zero (by omega)
        subst hn ha
        rw [tn12 _ _ _ _ hop] at hf ⊢
        obtain ⟨f, rfl⟩ : ∃ g, f = g + 1 := ⟨f - 1, by simp only [List.length_cons, List.length_nil] at hf; omega⟩
        rw [List.map_cons, List.map_nil, List.singleton_append, parseN, strOf_data]
        rcases hop with rfl | rfl <;> rfl
      · obtain ⟨x, rfl⟩ := List.length_eq_one_iff.1 (show args.length = 1 by simp [arityF] at hl; omega)
        have hn : n = 0 := by rw [choicesF, if_neg (by omega), if_neg (by omega)] at hn1; omega
        subst hn
        rw [tn3] at hf ⊢
        simp only [Tr.tokss, List.getD_cons_zero, List.length_cons] at hf ⊢
        obtain ⟨f, rfl⟩ : ∃ g, f = g + 1 := ⟨f - 1, by omega⟩
        have := (ih x (by simp)).2 f rest (by omega)
        rw [List.map_cons, List.cons_append, parseN, strOf_data, if_neg (by decide), if_neg (by decide), if_pos (by decide), this]
        rfl
      · obtain ⟨x, y, rfl⟩ : ∃ x y, args = [x, y] := by
          rw [arityF, if_neg (by omega), if_pos (by omega)] at hl
          match args, hl with
          | [a, b], _ => exact ⟨a, b, rfl⟩
        have hn : n = 0 := by rw [choicesF, if_neg (by omega), if_neg (by omega)] at hn1; omega
        subst hn
        rw [tn45 _ _ _ _ hop] at hf ⊢
        simp only [Tr.tokss, List.getD_cons_zero, List.getD_cons_succ, List.length_cons, List.length_append, List.length_nil] at hf ⊢
        obtain ⟨f, rfl⟩ : ∃ g, f = g + 1 := ⟨f - 1, by omega⟩
        have hx := (ih x (by simp)).2 f (strOf (wordF op) :: ((y.toks C R).map strOf ++ strOf [41] :: rest)) (by omega)
        have hy := (ih y (by simp)).2 f (strOf [41] :: rest) (by omega)
        have hc : connF (strOf (wordF op)) = some op := by rw [connF, strOf_data]; rcases hop with rfl | rfl <;> rfl
        have hA : (([40] :: (x.toks C R ++ wordF op :: (y.toks C R ++ [[41]])) : List (List UInt8)).map strOf ++ rest) = strOf [40] :: ((x.toks C R).map strOf ++ strOf (wordF op) :: ((y.toks C R).map strOf ++ strOf [41] :: rest)) := by simp
        rw [hA, parseN, strOf_data, if_neg (by decide), if_neg (by decide), if_neg (by decide), if_neg (by decide), if_neg (by decide), if_pos (by decide), pairN, hx]
        simp only [hc, hy, strOf_data]
        rfl
      · obtain ⟨x, rfl⟩ := List.length_eq_one_iff.1 (show args.length = 1 by rw [arityF, if_pos (by omega)] at hl; omega)
        have hr : (n / 2).toNat < R.length := by
          rw [choicesF, if_neg (by omega), if_pos (by omega)] at hn1; omega
        rw [tn67 _ _ _ _ hop] at hf ⊢
        simp only [Tr.tokss, List.getD_cons_zero, List.length_cons, List.length_append] at hf ⊢
        obtain ⟨f, rfl⟩ : ∃ g, f = g + 1 := ⟨f - 1, by omega⟩
        obtain ⟨hwx, hx⟩ := ih x (by simp)
        have hx := hx f rest (by omega)
        have hm := tok_minus (R := R) hC x hwx rest
        have hq : ∀ op', quantN (parseN C R f) R op' (((roleT R n ++ x.toks C R).map strOf) ++ rest) = some (.mk op' n [x], rest) := by
          intro op'
          rw [roleT]
          by_cases ho : n % 2 = 1
          · rw [if_pos ho]
            simp only [List.cons_append, List.nil_append, List.map_cons, quantN, findN_at hR hr]
            rw [show minusB (strOf [45] :: ((x.toks C R).map strOf ++ rest)) = true from by rw [minusB, strOf_data]; rfl]
            simp only [if_true, List.tail_cons, hx, Option.map_some]
            rw [show (2 * (((n / 2).toNat : Nat) : Int) + 1) = n by omega]
          · rw [if_neg ho]
            simp only [List.cons_append, List.nil_append, List.map_cons, quantN, findN_at hR hr, hm]
            simp only [Bool.false_eq_true, if_false, hx, Option.map_some]
            rw [show (2 * (((n / 2).toNat : Nat) : Int) + 0) = n by omega]
        rw [List.map_cons, List.cons_append, parseN, strOf_data]
        rcases hop with rfl | rfl
        · rw [if_neg (by decide), if_neg (by decide), if_neg (by decide), if_pos (by decide)]; exact hq 6
        · rw [if_neg (by decide), if_neg (by decide), if_neg (by decide), if_neg (by decide), if_pos (by decide)]; exact hq 7)
    (fun _ x hx => by cases hx)
    (fun t ts h1 h2 h x hx => by
      rw [Tr.wfTs, Bool.and_eq_true] at h
      rcases List.mem_cons.1 hx with rfl | hx
      · exact ⟨h.1, h1 h.1⟩
      · exact h2 h.2 x hx) t

theorem okL_finds : ∀ (l seen : List ByteArray), okL seen l = true → ∀ k (hk : k < l.length), nameB l[k] = true ∧ (∀ x ∈ seen, x ≠ l[k]) ∧ ∀ j (hj : j < k), l[j] ≠ l[k]
  | x :: r, seen, h, k, hk => by
    rw [okL, Bool.and_eq_true, Bool.and_eq_true] at h
    obtain ⟨⟨h1, h2⟩, h3⟩ := h
    have hx : x ∉ seen := fun hm => by rw [(Lib.containsS_iff seen x).2 hm] at h2; cases h2
    cases k with
    | zero => exact ⟨h1, fun y hy e => hx (by simp only [List.getElem_cons_zero] at e; exact e ▸ hy), fun j hj => absurd hj (by omega)⟩
    | succ k =>
      obtain ⟨i1, i2, i3⟩ := okL_finds r _ h3 k (by simpa using hk)
      refine ⟨i1, fun y hy => i2 y (by simp [hy]), fun j hj => ?_⟩
      cases j with
      | zero => exact i2 x (by simp)
      | succ j => exact i3 j (by omega)
theorem finds_of (A L Z : List ByteArray) (h : okL [] (A ++ L ++ Z) = true) : Finds L := by
  intro k hk
  have hg : nameAt L k = (L[k]).data.toList := by rw [nameAt, List.getD_eq_getElem?_getD, List.getElem?_eq_getElem hk]; rfl
  have at_ : ∀ j (hj : j < L.length), (A ++ L ++ Z)[A.length + j]'(by simp; omega) = L[j] := fun j hj => by
    rw [List.getElem_append_left (by simp; omega), List.getElem_append_right (by omega)]
    simp
  obtain ⟨i1, -, i3⟩ := okL_finds _ _ h (A.length + k) (by simp; omega)
  rw [at_ k hk] at i1
  simp only [nameB, Bool.and_eq_true, decide_eq_true_eq] at i1
  refine ⟨by rw [hg, nameL, i1.1.2, Bool.true_and]; exact i1.2, ?_⟩
  have := Lib.idxOfS_hit L L.length k (strOf (nameAt L k)) hk (Nat.le_refl _) (strOf_name L k).symm (fun j hj e => by
    rw [strOf_name] at e
    simp only [List.getD_eq_getElem?_getD, List.getElem?_eq_getElem hk, List.getElem?_eq_getElem (show j < L.length by omega), Option.getD_some] at e
    have := i3 (A.length + j) (by omega)
    rw [at_ j (by omega), at_ k hk] at this
    exact this e)
  rwa [List.take_length] at this
theorem finds_ok {n : NM} (h : n.ok = true) : Finds n.C.l ∧ Finds n.R.l ∧ Finds n.I.l := by
  simp only [NM.ok, namesB, Bool.and_eq_true] at h
  have h := h.2.2.2
  exact ⟨finds_of [] n.C.l (n.R.l ++ n.I.l) (by simpa using h), finds_of n.C.l n.R.l n.I.l h, finds_of (n.C.l ++ n.R.l) n.I.l [] (by simpa using h)⟩

end Go.Proofs.YtndkcimajeofcaaGreatDoor

namespace Go.Proofs.YtndkcimajeofcaaGreatDoor
open Go.RowKit

/-- A normal form is well formed. -/
theorem nnf_wf (C R : Nat) (t : Tr) : t.wfT C R = true → ∀ a, (nnf t a).wfT C R = true :=
  Tr.rec (motive_1 := fun t => t.wfT C R = true → ∀ a, (nnf t a).wfT C R = true) (motive_2 := fun l => Tr.wfTs C R l = true → (∀ a, Tr.wfTs C R (nnfs l a) = true ∧ (nnfs l a).length = l.length) ∧ ∀ x, l = [x] → ∀ a, (nnf x a).wfT C R = true)
    (fun op n args ih h a => by
      rw [Tr.wfT, Bool.and_eq_true] at h
      obtain ⟨hw, hs⟩ := h
      have hw0 := hw
      simp only [wfB, Bool.and_eq_true, decide_eq_true_eq, beq_iff_eq] at hw
      obtain ⟨h0, h8, hl, hn0, hn1⟩ := hw
      obtain ⟨i1, i2⟩ := ih hs
      rcases (show op = 0 ∨ op = 3 ∨ (op = 1 ∨ op = 2 ∨ op = 4 ∨ op = 5 ∨ op = 6 ∨ op = 7) by omega) with rfl | rfl | hop
      · have : args = [] := by simpa [arityF] using hl
        subst this
        cases a
        · simpa [nnf, nnfs, Tr.wfT, Tr.wfTs] using hw0
        · simpa [nnf, nnfs, Tr.wfT, Tr.wfTs, wfB, arityF, choicesF] using hw0
      · obtain ⟨x, rfl⟩ := List.length_eq_one_iff.1 (show args.length = 1 by simp [arityF] at hl; omega)
        simp only [nnf, nnfHead, if_true]
        exact i2 x rfl _
      · obtain ⟨j1, j2⟩ := i1 a
        rcases hop with rfl | rfl | rfl | rfl | rfl | rfl <;> cases a <;> simp_all [nnf, dualF, Tr.wfT, wfB, arityF, choicesF])
    (fun _ => ⟨fun a => by simp [nnfs, Tr.wfTs], fun x h => by cases h⟩)
    (fun t ts h1 h2 h => by
      rw [Tr.wfTs, Bool.and_eq_true] at h
      refine ⟨fun a => ?_, fun x hx => ?_⟩
      · obtain ⟨k1, k2⟩ := (h2 h.2).1 a
        rw [nnfs, Tr.wfTs, h1 h.1, k1, List.length_cons, List.length_cons, k2]
        exact ⟨rfl, rfl⟩
      · cases hx
        exact h1 h.1) t

theorem check_wf {n : NM} {t : Tr} (h : (checkT n t == 0) = true) : n.ok = true ∧ smallB t = true ∧ t.wfT n.C.l.length n.R.l.length = true := by
  have hc : checkT n t = 0 := by simpa using h
  rcases hok : n.ok
  · rw [checkT, hok] at hc; cases hc
  · rcases hv : validT n.C.l.length n.R.l.length t
    · rw [checkT, hok, hv] at hc; cases hc
    · rw [validT_split, Bool.and_eq_true] at hv
      exact ⟨rfl, hv.1, hv.2⟩
end Go.Proofs.YtndkcimajeofcaaGreatDoor
