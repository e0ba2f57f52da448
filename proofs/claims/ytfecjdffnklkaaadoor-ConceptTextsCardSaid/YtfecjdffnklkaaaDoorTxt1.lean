import Derived.Test.YtfecjdffnklkaaaDoorRd2
namespace Go.Proofs.YtfecjdffnklkaaaDoor
open Go.RowKit

mutual
/-- Some node bears a negative number: a name of it is not among the names. -/
def Tr.neg : Tr → Bool
  | .mk _ n args => decide (n < 0) || Tr.negs args
def Tr.negs : List Tr → Bool
  | [] => false
  | t :: ts => Tr.neg t || Tr.negs ts
end
/-- The parser's answer and the reader's agree. -/
def Agr (w0 : Bool) (o : Option (Tr × List ByteArray)) (x : Tr × RS) : Prop :=
  match o with
  | none => x.2.bad = true
  | some (t, r) => x.2.bad = false ∧ x.2.ts = r ∧ x.2.wrong = (w0 || t.neg) ∧ (t.neg = false → x.1 = t)

theorem takeS_bad {s : RS} (t : List UInt8) (h : s.bad = true) : (takeS s t).bad = true := by
  unfold takeS; split
  · exact h
  · rfl
theorem wordS_bad {s : RS} (h : s.bad = true) : (wordS s).2.bad = true := by
  obtain ⟨ts, b, w⟩ := s
  cases ts with
  | nil => rfl
  | cons x r => simp only [wordS]; split
                · exact h
                · rfl
theorem idxS_bad {L : List ByteArray} {s : RS} (h : s.bad = true) : (idxS L s).2.bad = true := by
  unfold idxS; split <;> exact wordS_bad h
theorem roleS_bad {R : List ByteArray} {s : RS} (h : s.bad = true) : (roleS R s).2.bad = true := by
  unfold roleS; split
  · exact takeS_bad _ (idxS_bad h)
  · exact idxS_bad h
theorem rdC_bad {C R : List ByteArray} {f : Nat} {s : RS} (h : s.bad = true) : (rdC C R f s).2.bad = true := by
  cases f with
  | zero => rfl
  | succ f => rw [rdC, h]; rfl

theorem take_hit {x : ByteArray} {r : List ByteArray} {b w : Bool} {t : List UInt8} (h : x.data.toList = t) : takeS ⟨x :: r, b, w⟩ t = ⟨r, b, w⟩ := by
  have hs : seesB (x :: r) t = true := by simpa [seesB] using h
  unfold takeS; rw [if_pos hs]; rfl
theorem take_miss {x : ByteArray} {r : List ByteArray} {b w : Bool} {t : List UInt8} (h : ¬ x.data.toList = t) : (takeS ⟨x :: r, b, w⟩ t).bad = true := by
  have hs : seesB (x :: r) t = false := by simpa [seesB] using h
  unfold takeS; rw [if_neg (by simp [hs])]
theorem sees_eq (x : ByteArray) (r : List ByteArray) (t : List UInt8) : seesB (x :: r) t = (x.data.toList == t) := rfl

/-- A name read: as find finds it. -/
theorem idx_some {L : List ByteArray} {x : ByteArray} {r : List ByteArray} {b w : Bool} {i : Int} (h : findN L x = some i) :
    (idxS L ⟨x :: r, b, w⟩).2 = ⟨r, b, w || decide (i < 0)⟩ ∧ (decide (i < 0) = false → (idxS L ⟨x :: r, b, w⟩).1 = i) := by
  unfold findN at h
  split at h
  · rename_i hn
    cases h
    have hw : wordS ⟨x :: r, b, w⟩ = (x, ⟨r, b, w⟩) := by simp only [wordS]; rw [if_pos hn]
    unfold idxS
    rw [hw]
    by_cases h0 : Lib.idxOfS L x < 0
    · simp [h0]
    · simp [h0]
  · cases h
theorem idx_none {L : List ByteArray} {x : ByteArray} {r : List ByteArray} {b w : Bool} (h : findN L x = none) : (idxS L ⟨x :: r, b, w⟩).2.bad = true := by
  unfold findN at h
  split at h
  · cases h
  · rename_i hn
    have hw : (wordS ⟨x :: r, b, w⟩).2.bad = true := by simp only [wordS]; rw [if_neg hn]
    unfold idxS
    split <;> exact hw

theorem role_some {R : List ByteArray} {x : ByteArray} {r : List ByteArray} {b w : Bool} {i : Int} (h : findN R x = some i) :
    (roleS R ⟨x :: r, b, w⟩).2 = ⟨if minusB r then r.tail else r, b, w || decide (i < 0)⟩ ∧ (decide (i < 0) = false → (roleS R ⟨x :: r, b, w⟩).1 = 2 * i + if minusB r then 1 else 0) := by
  obtain ⟨h1, h2⟩ := idx_some (r := r) (b := b) (w := w) h
  have hs : seesB (idxS R ⟨x :: r, b, w⟩).2.ts [45] = minusB r := by
    rw [h1]
    cases r <;> rfl
  unfold roleS
  rw [hs]
  cases hm : minusB r
  · refine ⟨h1, fun hi => ?_⟩
    simp only [Bool.false_eq_true, if_false]
    rw [h2 hi]; omega
  · cases r with
    | nil => cases hm
    | cons y r' =>
      have hy : y.data.toList = [45] := by simpa [minusB] using hm
      refine ⟨?_, fun hi => ?_⟩
      · simp only [if_true]
        rw [h1, take_hit hy]; rfl
      · simp only [if_true]
        rw [h2 hi]
theorem role_none {R : List ByteArray} {x : ByteArray} {r : List ByteArray} {b w : Bool} (h : findN R x = none) : (roleS R ⟨x :: r, b, w⟩).2.bad = true := by
  unfold roleS; split
  · exact takeS_bad _ (idx_none h)
  · exact idx_none h

theorem neg1 (op n : Int) (t : Tr) : (Tr.mk op n [t]).neg = (decide (n < 0) || t.neg) := by rw [Tr.neg, Tr.negs, Tr.negs, Bool.or_false]
theorem neg2 (op n : Int) (t u : Tr) : (Tr.mk op n [t, u]).neg = (decide (n < 0) || (t.neg || u.neg)) := by rw [Tr.neg, Tr.negs, Tr.negs, Tr.negs, Bool.or_false]
theorem neg0 (op n : Int) : (Tr.mk op n []).neg = decide (n < 0) := by rw [Tr.neg, Tr.negs, Bool.or_false]

theorem quant_agrees (C R : List ByteArray) (f : Nat) (ih : ∀ ts w0, Agr w0 (parseN C R f ts) (rdC C R f ⟨ts, false, w0⟩)) (op : Int) (r : List ByteArray) (w0 : Bool) :
    Agr w0 (quantN (parseN C R f) R op r) (.mk op (roleS R ⟨r, false, w0⟩).1 [(rdC C R f (roleS R ⟨r, false, w0⟩).2).1], (rdC C R f (roleS R ⟨r, false, w0⟩).2).2) := by
  cases r with
  | nil =>
    show (rdC C R f (roleS R ⟨[], false, w0⟩).2).2.bad = true
    refine rdC_bad ?_
    have hw : ∀ w, (idxS R ⟨[], false, w⟩).2.bad = true := fun w => by unfold idxS; split <;> rfl
    unfold roleS; split
    · exact takeS_bad _ (hw _)
    · exact hw _
  | cons x r =>
    rw [quantN]
    rcases hf : findN R x with _ | i
    · show (rdC C R f (roleS R ⟨x :: r, false, w0⟩).2).2.bad = true
      exact rdC_bad (role_none hf)
    · obtain ⟨h1, h2⟩ := role_some (r := r) (b := false) (w := w0) hf
      rw [h1]
      have hi := ih (if minusB r then r.tail else r) (w0 || decide (i < 0))
      simp only
      rcases hp : parseN C R f (if minusB r then r.tail else r) with _ | ⟨t, q⟩
      · rw [hp] at hi
        exact hi
      · rw [hp] at hi
        obtain ⟨i1, i2, i3, i4⟩ := hi
        have hng : decide (2 * i + (if minusB r then 1 else 0) < 0) = decide (i < 0) := by
          rw [decide_eq_decide]
          split <;> omega
        refine ⟨i1, i2, ?_, fun hn => ?_⟩
        · rw [i3, neg1, hng, Bool.or_assoc]
        · rw [neg1, hng, Bool.or_eq_false_iff] at hn
          rw [h2 hn.1, i4 hn.2]

theorem pair_agrees (C R : List ByteArray) (f : Nat) (ih : ∀ ts w0, Agr w0 (parseN C R f ts) (rdC C R f ⟨ts, false, w0⟩)) (r : List ByteArray) (w0 : Bool) :
    Agr w0 (pairN (parseN C R f) r) (if seesB (rdC C R f ⟨r, false, w0⟩).2.ts [111, 114] then
        (.mk 5 0 [(rdC C R f ⟨r, false, w0⟩).1, (rdC C R f (takeS (rdC C R f ⟨r, false, w0⟩).2 [111, 114])).1], takeS (rdC C R f (takeS (rdC C R f ⟨r, false, w0⟩).2 [111, 114])).2 [41])
      else
        (.mk 4 0 [(rdC C R f ⟨r, false, w0⟩).1, (rdC C R f (takeS (rdC C R f ⟨r, false, w0⟩).2 [97, 110, 100])).1], takeS (rdC C R f (takeS (rdC C R f ⟨r, false, w0⟩).2 [97, 110, 100])).2 [41])) := by
  have h0 := ih r w0
  have hbadend : ∀ (X : Tr × RS) (a1 a2 : Tr), X.2.bad = true → Agr w0 none (if seesB X.2.ts [111, 114] then (.mk 5 0 [a1, (rdC C R f (takeS X.2 [111, 114])).1], takeS (rdC C R f (takeS X.2 [111, 114])).2 [41]) else (.mk 4 0 [a2, (rdC C R f (takeS X.2 [97, 110, 100])).1], takeS (rdC C R f (takeS X.2 [97, 110, 100])).2 [41])) := fun X a1 a2 hb => by
    split
    · exact takeS_bad _ (rdC_bad (takeS_bad _ hb))
    · exact takeS_bad _ (rdC_bad (takeS_bad _ hb))
  generalize rdC C R f ⟨r, false, w0⟩ = X at h0
  unfold pairN
  rcases hp : parseN C R f r with _ | ⟨a, q⟩
  · rw [hp] at h0
    exact hbadend X _ _ h0
  · rw [hp] at h0
    obtain ⟨x1, ⟨xt, xb, xw⟩⟩ := X
    obtain ⟨i1, i2, i3, i4⟩ := h0
    simp only at i1 i2 i3 i4
    subst i1 i2
    cases xt with
    | nil =>
      have hs : seesB ([] : List ByteArray) [111, 114] = false := rfl
      simp only [hs, Bool.false_eq_true, if_false]
      exact takeS_bad _ (rdC_bad rfl)
    | cons o r2 =>
      simp only
      by_cases hor : o.data.toList = [111, 114]
      · have hs : seesB (o :: r2) [111, 114] = true := by simpa [seesB] using hor
        have hand : ¬ o.data.toList = [97, 110, 100] := by rw [hor]; decide
        have hc : connF o = some 5 := by rw [connF, if_neg hand, if_pos hor]
        rw [hc]
        simp only [hs, if_true]
        rw [take_hit hor]
        have h2 := ih r2 xw
        generalize rdC C R f ⟨r2, false, xw⟩ = Y at h2
        rcases hp2 : parseN C R f r2 with _ | ⟨b, q3⟩
        · rw [hp2] at h2
          exact takeS_bad _ h2
        · rw [hp2] at h2
          obtain ⟨y1, ⟨yt, yb, yw⟩⟩ := Y
          obtain ⟨j1, j2, j3, j4⟩ := h2
          simp only at j1 j2 j3 j4
          subst j1 j2
          cases yt with
          | nil => exact rfl
          | cons z r4 =>
            simp only
            by_cases hz : z.data.toList = [41]
            · rw [if_pos (by simpa using hz), take_hit hz]
              refine ⟨rfl, rfl, ?_, fun hn => ?_⟩
              · simp only
                rw [j3, i3, neg2]; simp [Bool.or_assoc]
              · rw [neg2] at hn
                simp only [Bool.or_eq_false_iff] at hn
                simp only
                rw [i4 hn.2.1, j4 hn.2.2]
            · rw [if_neg (by simpa using hz)]
              exact take_miss hz
      · have hs : seesB (o :: r2) [111, 114] = false := by simpa [seesB] using hor
        simp only [hs, Bool.false_eq_true, if_false]
        by_cases hand : o.data.toList = [97, 110, 100]
        · have hc : connF o = some 4 := by rw [connF, if_pos hand]
          rw [hc]
          simp only
          rw [take_hit hand]
          have h2 := ih r2 xw
          generalize rdC C R f ⟨r2, false, xw⟩ = Y at h2
          rcases hp2 : parseN C R f r2 with _ | ⟨b, q3⟩
          · rw [hp2] at h2
            exact takeS_bad _ h2
          · rw [hp2] at h2
            obtain ⟨y1, ⟨yt, yb, yw⟩⟩ := Y
            obtain ⟨j1, j2, j3, j4⟩ := h2
            simp only at j1 j2 j3 j4
            subst j1 j2
            cases yt with
            | nil => exact rfl
            | cons z r4 =>
              simp only
              by_cases hz : z.data.toList = [41]
              · rw [if_pos (by simpa using hz), take_hit hz]
                refine ⟨rfl, rfl, ?_, fun hn => ?_⟩
                · simp only
                  rw [j3, i3, neg2]; simp [Bool.or_assoc]
                · rw [neg2] at hn
                  simp only [Bool.or_eq_false_iff] at hn
                  simp only
                  rw [i4 hn.2.1, j4 hn.2.2]
              · rw [if_neg (by simpa using hz)]
                exact take_miss hz
        · have hc : connF o = none := by rw [connF, if_neg hand, if_neg hor]
          rw [hc]
          exact takeS_bad _ (rdC_bad (take_miss hand))

theorem rd_agrees (C R : List ByteArray) : ∀ (f : Nat) (ts : List ByteArray) (w0 : Bool), Agr w0 (parseN C R f ts) (rdC C R f ⟨ts, false, w0⟩)
  | 0, ts, w0 => by cases ts <;> exact rfl
  | f + 1, [], w0 => by
    show (rdC C R (f + 1) ⟨[], false, w0⟩).2.bad = true
    rw [rdC]; rfl
  | f + 1, t :: r, w0 => by
    have ih := rd_agrees C R f
    rw [parseN, rdC]
    rw [if_neg (show ¬ ((RS.mk (t :: r) false w0).bad || (RS.mk (t :: r) false w0).ts.isEmpty) = true by simp)]
    by_cases c0 : (t.data.toList == [116, 111, 112]) = true
    · rw [if_pos c0, if_pos (show seesB (RS.mk (t :: r) false w0).ts [116, 111, 112] = true from c0)]
      rw [take_hit (by simpa using c0)]
      exact ⟨rfl, rfl, by rw [neg0]; simp, fun _ => rfl⟩
    rw [if_neg c0, if_neg (show ¬ seesB (RS.mk (t :: r) false w0).ts [116, 111, 112] = true from c0)]
    by_cases c1 : (t.data.toList == [98, 111, 116]) = true
    · rw [if_pos c1, if_pos (show seesB (RS.mk (t :: r) false w0).ts [98, 111, 116] = true from c1)]
      rw [take_hit (by simpa using c1)]
      exact ⟨rfl, rfl, by rw [neg0]; simp, fun _ => rfl⟩
    rw [if_neg c1, if_neg (show ¬ seesB (RS.mk (t :: r) false w0).ts [98, 111, 116] = true from c1)]
    by_cases c2 : (t.data.toList == [110, 111, 116]) = true
    · rw [if_pos c2, if_pos (show seesB (RS.mk (t :: r) false w0).ts [110, 111, 116] = true from c2)]
      rw [take_hit (by simpa using c2)]
      have h2 := ih r w0
      rcases hp : parseN C R f r with _ | ⟨b, q⟩
      · rw [hp] at h2
        exact h2
      · rw [hp] at h2
        obtain ⟨i1, i2, i3, i4⟩ := h2
        refine ⟨i1, i2, ?_, fun hn => ?_⟩
        · rw [i3, neg1]; simp
        · rw [neg1] at hn
          simp only [Bool.or_eq_false_iff] at hn
          rw [i4 hn.2]
    rw [if_neg c2, if_neg (show ¬ seesB (RS.mk (t :: r) false w0).ts [110, 111, 116] = true from c2)]
    by_cases c3 : (t.data.toList == [115, 111, 109, 101]) = true
    · rw [if_pos c3, if_pos (show seesB (RS.mk (t :: r) false w0).ts [115, 111, 109, 101] = true from c3)]
      rw [take_hit (by simpa using c3)]
      exact quant_agrees C R f ih 6 r w0
    rw [if_neg c3, if_neg (show ¬ seesB (RS.mk (t :: r) false w0).ts [115, 111, 109, 101] = true from c3)]
    by_cases c4 : (t.data.toList == [97, 108, 108]) = true
    · rw [if_pos c4, if_pos (show seesB (RS.mk (t :: r) false w0).ts [97, 108, 108] = true from c4)]
      rw [take_hit (by simpa using c4)]
      exact quant_agrees C R f ih 7 r w0
    rw [if_neg c4, if_neg (show ¬ seesB (RS.mk (t :: r) false w0).ts [97, 108, 108] = true from c4)]
    by_cases c5 : (t.data.toList == [40]) = true
    · rw [if_pos c5, if_pos (show seesB (RS.mk (t :: r) false w0).ts [40] = true from c5)]
      rw [take_hit (by simpa using c5)]
      exact pair_agrees C R f ih r w0
    rw [if_neg c5, if_neg (show ¬ seesB (RS.mk (t :: r) false w0).ts [40] = true from c5)]
    rcases hf : findN C t with _ | i
    · exact idx_none hf
    · obtain ⟨h1, h2⟩ := idx_some (r := r) (b := false) (w := w0) hf
      rw [h1]
      refine ⟨rfl, rfl, by rw [neg0], fun hn => ?_⟩
      rw [neg0] at hn
      rw [h2 hn]

theorem neg_invalid {C R : Nat} (t : Tr) : ∀ lev, t.neg = true → t.okT C R lev = false :=
  Tr.rec (motive_1 := fun t => ∀ lev, t.neg = true → t.okT C R lev = false) (motive_2 := fun l => ∀ lev, Tr.negs l = true → Tr.okTs C R lev l = false)
    (fun op n args ih lev h => by
      rw [Tr.neg, Bool.or_eq_true] at h
      rw [Tr.okT]
      rcases h with h | h
      · have : wfB C R op n args.length = false := by
          rw [wfB, show decide (0 ≤ n) = false by simp only [decide_eq_true_eq] at h; simp; omega]
          simp
        rw [this]; simp
      · rw [ih _ h]; simp)
    (fun lev h => by rw [Tr.negs] at h; cases h)
    (fun t ts h1 h2 lev h => by
      rw [Tr.negs, Bool.or_eq_true] at h
      rw [Tr.okTs]
      rcases h with h | h
      · rw [h1 _ h]; simp
      · rw [h2 _ h]; simp) t
theorem neg_check {n : NM} {t : Tr} (hok : n.ok = true) (h : t.neg = true) : checkT n t = 10 := by
  rw [checkT, hok, validT, neg_invalid t 1 h]; simp [codeIf]

/-- The reference's parse, by its reader. -/
def rdAll (C R : List ByteArray) (ts : List ByteArray) : Tr × RS := rdC C R ts.length ⟨ts, false, false⟩
def rdTr (n : NM) (ts : List ByteArray) : Tr := if (rdAll n.C.l n.R.l ts).2.bad || !(rdAll n.C.l n.R.l ts).2.ts.isEmpty then zeroTr else if (rdAll n.C.l n.R.l ts).2.wrong || !validT n.C.l.length n.R.l.length (rdAll n.C.l n.R.l ts).1 then zeroTr else (rdAll n.C.l n.R.l ts).1
def rdE (n : NM) (ts : List ByteArray) : Int := if (rdAll n.C.l n.R.l ts).2.bad || !(rdAll n.C.l n.R.l ts).2.ts.isEmpty then 11 else if (rdAll n.C.l n.R.l ts).2.wrong || !validT n.C.l.length n.R.l.length (rdAll n.C.l n.R.l ts).1 then 10 else 0
theorem rd_parse {n : NM} {l : List UInt8} {ts : List (List UInt8)} (hok : n.ok = true) (hl : l.length ≤ 30000) (ht : toksF [40, 41, 45] l = some ts) : parseTr n l = rdTr n (ts.map strOf) ∧ parseE n l = rdE n (ts.map strOf) := by
  have ha := rd_agrees n.C.l n.R.l (ts.map strOf).length (ts.map strOf) false
  have hr : readF n.C.l n.R.l l = match parseN n.C.l n.R.l ts.length (ts.map strOf) with
    | none => none
    | some (t, r) => if r = [] then some t else none := by rw [readF, ht]; rfl
  unfold rdTr rdE rdAll
  rw [List.length_map] at ha ⊢
  generalize rdC n.C.l n.R.l ts.length ⟨ts.map strOf, false, false⟩ = X at ha
  rcases hp : parseN n.C.l n.R.l ts.length (ts.map strOf) with _ | ⟨t, r⟩
  · rw [hp] at ha hr
    obtain ⟨h1, h2⟩ := parse_none hok hl hr
    have hb : X.2.bad = true := ha
    rw [h1, h2, hb]
    exact ⟨rfl, rfl⟩
  · rw [hp] at ha hr
    obtain ⟨i1, i2, i3, i4⟩ := ha
    simp only at hr
    rw [i1, i2, i3]
    by_cases he : r = []
    · rw [if_pos he] at hr
      obtain ⟨h1, h2⟩ := parse_some hok hl hr
      rw [h1, h2]
      subst he
      rcases hn : t.neg
      · rw [i4 hn]
        simp only [Bool.false_or, List.isEmpty_nil, Bool.not_true, Bool.false_eq_true, if_false]
        rw [checkT, hok]
        cases validT n.C.l.length n.R.l.length t <;> simp [codeIf]
      · rw [neg_check hok hn]
        simp
    · rw [if_neg he] at hr
      obtain ⟨h1, h2⟩ := parse_none hok hl hr
      have hre : r.isEmpty = false := by cases r with | nil => exact absurd rfl he | cons _ _ => rfl
      rw [h1, h2, hre]
      exact ⟨rfl, rfl⟩
end Go.Proofs.YtfecjdffnklkaaaDoor
