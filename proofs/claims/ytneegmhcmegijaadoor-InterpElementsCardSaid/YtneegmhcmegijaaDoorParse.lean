import Derived.Test.YtneegmhcmegijaaDoorRead
namespace Go.Proofs.YtneegmhcmegijaaDoor
open Go.RowKit

mutual
def Tr.okT (C R : Nat) (lev : Nat) : Tr → Bool
  | .mk op n args => decide (lev ≤ 20) && wfB C R op n args.length && Tr.okTs C R (lev + 1) args
def Tr.okTs (C R : Nat) (lev : Nat) : List Tr → Bool
  | [] => true
  | t :: ts => Tr.okT C R lev t && Tr.okTs C R lev ts
end
def validT (C R : Nat) (t : Tr) : Bool := decide (t.size ≤ 400) && t.okT C R 1
theorem MT.trs_length (l : List MT) : (MT.trs l).length = l.length := by rw [MT.trs_map, List.length_map]
theorem okT_pre (n : NM) : ∀ (T : MT) (lev : Nat), (T.pre lev).all (okNode n) = T.tr.okT n.C.l.length n.R.l.length lev :=
  fun T => MT.rec (motive_1 := fun T => ∀ lev, (T.pre lev).all (okNode n) = T.tr.okT n.C.l.length n.R.l.length lev) (motive_2 := fun l => ∀ lev, (MT.preAll lev l).all (okNode n) = Tr.okTs n.C.l.length n.R.l.length lev (MT.trs l))
    (fun op nn A c args ih lev => by
      rw [MT.pre, List.all_cons, ih, MT.tr, Tr.okT, MT.trs_length]; rfl)
    (fun lev => by rw [MT.preAll, MT.trs, Tr.okTs]; rfl)
    (fun t ts h1 h2 lev => by rw [MT.preAll, List.all_append, h1, h2, MT.trs, Tr.okTs]) T
theorem validB_eq (n : NM) (T : MT) : validB n T = validT n.C.l.length n.R.l.length T.tr := by
  rw [validB, okT_pre, MT.pre_length, validT]
/-- Check's code, of the tree as it is meant. -/
def checkT (n : NM) (t : Tr) : Int := if n.ok then codeIf (validT n.C.l.length n.R.l.length t) 10 else 20
theorem checkF_eq (n : NM) (T : MT) : checkF n T = checkT n T.tr := by rw [checkF, checkT, validB_eq]

/-- What Parse hands back. -/
def parseTr (n : NM) (l : List UInt8) : Tr := if n.ok && decide (l.length ≤ 30000) then (match readF n.C.l n.R.l l with | none => zeroTr | some t => if checkT n t == 0 then t else zeroTr) else zeroTr
def parseE (n : NM) (l : List UInt8) : Int := if n.ok then (if l.length ≤ 30000 then (match readF n.C.l n.R.l l with | none => 11 | some t => checkT n t) else 2) else 20
theorem parse_bad {n : NM} {l : List UInt8} (h : n.ok = false) : parseTr n l = zeroTr ∧ parseE n l = 20 := by
  unfold parseTr parseE; rw [h]; exact ⟨rfl, rfl⟩
theorem parse_long {n : NM} {l : List UInt8} (h : n.ok = true) (hl : ¬ l.length ≤ 30000) : parseTr n l = zeroTr ∧ parseE n l = 2 := by
  unfold parseTr parseE; rw [h, decide_eq_false hl, if_neg hl]; exact ⟨rfl, rfl⟩
theorem parse_none {n : NM} {l : List UInt8} (h : n.ok = true) (hl : l.length ≤ 30000) (hr : readF n.C.l n.R.l l = none) : parseTr n l = zeroTr ∧ parseE n l = 11 := by
  unfold parseTr parseE; rw [h, decide_eq_true hl, if_pos hl, hr]; exact ⟨rfl, rfl⟩
theorem parse_some {n : NM} {l : List UInt8} {t : Tr} (h : n.ok = true) (hl : l.length ≤ 30000) (hr : readF n.C.l n.R.l l = some t) : parseTr n l = (if checkT n t == 0 then t else zeroTr) ∧ parseE n l = checkT n t := by
  unfold parseTr parseE; rw [h, decide_eq_true hl, if_pos hl, hr]; exact ⟨rfl, rfl⟩

theorem toksN_len (M : List UInt8) : ∀ (f : Nat) (l : List UInt8) (ts : List (List UInt8)), toksN M f l = some ts → ts.length ≤ l.length
  | 0, l, ts, h => by cases h; exact Nat.zero_le _
  | f + 1, [], ts, h => by cases h; exact Nat.le_refl _
  | f + 1, c :: r, ts, h => by
    rw [toksN] at h
    split at h
    · obtain ⟨x, hx, rfl⟩ := Option.map_eq_some_iff.1 h
      have := toksN_len M f r x hx
      split <;> simp only [List.length_cons] <;> omega
    · split at h
      · obtain ⟨x, hx, rfl⟩ := Option.map_eq_some_iff.1 h
        have := toksN_len M f _ x hx
        have := dropWhile_len inB r
        simp only [List.length_cons]; omega
      · cases h
theorem parseN_size (C R : List ByteArray) : ∀ (f : Nat) (ts : List ByteArray) (x : Tr × List ByteArray), parseN C R f ts = some x → x.1.size + x.2.length ≤ ts.length
  | 0, ts, x, h => by cases ts <;> simp [parseN] at h
  | f + 1, [], x, h => by simp [parseN] at h
  | f + 1, t :: r, x, h => by
    have ih := parseN_size C R f
    have hq : ∀ op, quantN (parseN C R f) R op r = some x → x.1.size + x.2.length ≤ (t :: r).length := by
      intro op h
      cases r with
      | nil => simp [quantN] at h
      | cons t' r' =>
        rw [quantN] at h
        split at h
        · cases h
        · obtain ⟨y, hy, rfl⟩ := Option.map_eq_some_iff.1 h
          have := ih _ _ hy
          have := minus_len r'
          simp only [List.length_cons, Tr.size, Tr.sizes]; omega
    rw [parseN] at h
    split at h
    · cases h; simp [Tr.size, Tr.sizes]; omega
    split at h
    · cases h; simp [Tr.size, Tr.sizes]; omega
    split at h
    · obtain ⟨y, hy, rfl⟩ := Option.map_eq_some_iff.1 h
      have := ih _ _ hy
      simp only [List.length_cons, Tr.size, Tr.sizes]; omega
    split at h
    · exact hq _ h
    split at h
    · exact hq _ h
    split at h
    · rw [pairN] at h
      split at h
      · cases h
      · cases h
      · rename_i a o r2 h1
        have l1 := ih _ _ h1
        split at h
        · cases h
        · split at h
          · cases h
          · cases h
          · rename_i b x' r4 h2
            have l2 := ih _ _ h2
            split at h
            · cases h
              simp only [List.length_cons, Tr.size, Tr.sizes] at *; omega
            · cases h
    · split at h
      · cases h
      · cases h; simp [Tr.size, Tr.sizes]; omega
theorem readF_size {C R : List ByteArray} {l : List UInt8} {t : Tr} (h : readF C R l = some t) (hl : l.length ≤ 30000) : t.size ≤ 1000000 := by
  unfold readF at h
  split at h
  · cases h
  · rename_i ts hts
    have h1 := toksN_len _ _ _ _ hts
    split at h
    · cases h
    · rename_i t' r hp
      have h2 := parseN_size _ _ _ _ _ hp
      rw [List.length_map] at h2
      split at h
      · cases h; simp only at h2; omega
      · cases h

theorem ret_end {w wk : World} {T : MT} {x y z : Value} (e : Int) (hb : Below w.heap.size w wk) (hbR : wk.heap[w.heap.size + 1]? = some (.cells #[x, y, z] 27)) (hT : New (w.heap.size + 2) wk T) :
    ∀ w6, w6 = ((wk.setCell ⟨w.heap.size + 1, 0, none⟩ (.int .i64 T.op)).setCell ⟨w.heap.size + 1, 1, none⟩ (.int .i64 T.n)).setCell ⟨w.heap.size + 1, 2, none⟩ (.slice T.A T.args.length T.c) →
      (w6.cell? ⟨w.heap.size + 1, 0, none⟩ = some (.int .i64 T.op) ∧ w6.cell? ⟨w.heap.size + 1, 1, none⟩ = some (.int .i64 T.n) ∧ w6.cell? ⟨w.heap.size + 1, 2, none⟩ = some (.slice T.A T.args.length T.c)) ∧
      RetTreeE w T.tr e (.returned (.tuple #[.agg #[.int .i64 T.op, .int .i64 T.n, .slice T.A T.args.length T.c], .int .i64 e])) w6 := by
  rintro w6 rfl
  obtain ⟨s1, s2⟩ := store3 hbR (.int .i64 T.op) (.int .i64 T.n) (.slice T.A T.args.length T.c)
  exact ⟨⟨cell_of_blk s1 0, cell_of_blk s1 1, cell_of_blk s1 2⟩, T, rfl, rfl, (hT.pb s2 (by omega)).lo (by omega), hb.trans (below_grown s2 (by omega) hb.size)⟩

set_option maxRecDepth 100000 in
set_option maxHeartbeats 4000000 in
theorem cParse_any (n : NM) (s : ByteArray) (w : World) (hG : G w) (hn : n.In w.heap.size w) (hs : s.size ≤ maxLen) :
    Calls Tryd.prog 19 #[n.val, .string s] w (RetTreeE w (parseTr n s.data.toList) (parseE n s.data.toList)) := by
  unfold maxLen at hs
  have hz := data_size s
  obtain ⟨W1, hW1, hB1, hs1, hblk1⟩ := newBlk w _ rfl #[.slice n.C.A n.C.l.length n.C.c, .slice n.R.A n.R.l.length n.R.c, .slice n.I.A n.I.l.length n.I.c] 24
  obtain ⟨W2, hW2, hB2, hs2, hblk2⟩ := newBlk W1 _ hs1 #[.int .i64 0, .int .i64 0, .slice none 0 0] 27
  have hB : Below w.heap.size w W2 := hB1.trans (hB2.mono (by omega))
  have hblk12 := (hB2.block w.heap.size (by omega)).trans hblk1
  have a0 := cell_of_blk hblk12 0
  have a1 := cell_of_blk hblk12 1
  have a2 := cell_of_blk hblk12 2
  simp only [List.getElem?_toArray, List.getElem?_cons_zero, List.getElem?_cons_succ] at a0 a1 a2
  have hnm := cNames_any n W2 (hn.later hB)
  have hrd : s.size ≤ 1000000 → n.R.l.length ≤ 1000 → ∀ w4, Below w.heap.size w w4 → Calls Tryd.prog 60 #[n.val, .string s] w4 (RetTreeE w4 (orZero (readF n.C.l n.R.l s.data.toList)) (orText (readF n.C.l n.R.l s.data.toList))) := fun h1 h2 w4 hb4 => read_any n s w4 (hn.later hb4) h1 h2
  have hcells : ∀ w4, Below W2.heap.size W2 w4 → (w4.cell? ⟨w.heap.size, 0, none⟩ = some (.slice n.C.A n.C.l.length n.C.c) ∧ w4.cell? ⟨w.heap.size, 1, none⟩ = some (.slice n.R.A n.R.l.length n.R.c) ∧ w4.cell? ⟨w.heap.size, 2, none⟩ = some (.slice n.I.A n.I.l.length n.I.c)) ∧
      (w4.cell? ⟨w.heap.size + 1, 0, none⟩ = some (.int .i64 0) ∧ w4.cell? ⟨w.heap.size + 1, 1, none⟩ = some (.int .i64 0) ∧ w4.cell? ⟨w.heap.size + 1, 2, none⟩ = some (.slice none 0 0)) ∧
      (w4.frozen? ⟨w.heap.size + 1, 0, none⟩ = false ∧ w4.frozen? ⟨w.heap.size + 1, 1, none⟩ = false ∧ w4.frozen? ⟨w.heap.size + 1, 2, none⟩ = false) ∧ w4.heap[w.heap.size + 1]? = some (.cells #[.int .i64 0, .int .i64 0, .slice none 0 0] 27) := by
    intro w4 hb4
    have k1 := blk_below hblk12 hb4
    have k2 := blk_below hblk2 hb4
    exact ⟨⟨cell_of_blk k1 0, cell_of_blk k1 1, cell_of_blk k1 2⟩, ⟨cell_of_blk k2 0, cell_of_blk k2 1, cell_of_blk k2 2⟩, ⟨frozen_of_blk k2 0, frozen_of_blk k2 1, frozen_of_blk k2 2⟩, k2⟩
  have hck : ∀ (T' : MT) (w6 : World), Below w.heap.size w w6 → T'.In w6.heap.size w6 → T'.tr.size ≤ 1000000 → Calls Tryd.prog 50 #[n.val, T'.val] w6 fun e w' => e = .returned (.int .i64 (checkT n T'.tr)) ∧ Below w6.heap.size w6 w' := fun T' w6 hb6 hT hsz => by
    rw [← checkF_eq]
    exact cCheck_any n T' w6 (hG.later hb6) (hn.later hb6) hT (by rw [MT.pre_length]; exact hsz)
  simp only [NM.val, MT.val] at hnm hrd hck ⊢
  rcases hok : n.ok
  · rw [hok] at hnm
    have hT1 := Lib.hid (parse_bad (l := s.data.toList) hok).1
    have hE1 := Lib.hid (parse_bad (l := s.data.toList) hok).2
    clear hok hrd hck
    simp only [codeIf, Bool.false_eq_true, if_false] at hnm
    go_enter Tryd.func19, Tryd.ntmps19
    go_wp2_with (go_at_call 59; refine hnm.mono ?_; rintro e w4 ⟨rfl, hb4⟩; obtain ⟨⟨n0, n1, n2⟩, ⟨r0, r1, r2⟩, ⟨f0, f1, f2⟩, k4⟩ := hcells w4 hb4)
    have hfin := ret_end (T := zeroMT) 20 (hB.trans (hb4.mono (by omega))) k4 (new_zero _ _)
    simp only [zeroMT, MT.op, MT.n, MT.A, MT.args, MT.c, List.length_nil] at hfin
    obtain ⟨s0, s1⟩ := hfin _ rfl
    generalize ((w4.setCell ⟨w.heap.size + 1, 0, none⟩ (.int .i64 0)).setCell ⟨w.heap.size + 1, 1, none⟩ (.int .i64 0)).setCell ⟨w.heap.size + 1, 2, none⟩ (.slice none 0 0) = w9 at s0 s1 ⊢
    obtain ⟨t0, t1, t2⟩ := s0
    refine bodyPost_ret (v := .tuple #[.agg #[.int .i64 0, .int .i64 0, .slice none 0 0], .int .i64 20]) (by simp [results, Tryd.f19, go_sem, t0, t1, t2]) rfl ?_
    have hX := Lib.hid s1
    rw [hT1.out, hE1.out]
    exact hX.out
  · rw [hok] at hnm
    simp only [codeIf, if_true] at hnm
    by_cases hlen : s.size ≤ 30000
    · have hrd' := hrd (by omega) (by have := (ok_bounds hok).2.1; omega)
      have hlen' : s.data.toList.length ≤ 30000 := by omega
      clear hrd
      rcases hr : readF n.C.l n.R.l s.data.toList with _ | t
      · have HTr2 := Lib.hid (parse_none hok hlen' hr).1
        have HE2 := Lib.hid (parse_none hok hlen' hr).2
        rw [hr] at hrd'
        simp only [orZero, orText] at hrd'
        clear hr hck
        go_enter Tryd.func19, Tryd.ntmps19
        go_wp2_with (first | (go_at_call 59; refine hnm.mono ?_; rintro e w4 ⟨rfl, hb4⟩; obtain ⟨⟨n0, n1, n2⟩, ⟨r0, r1, r2⟩, ⟨f0, f1, f2⟩, k4⟩ := hcells w4 hb4) | (go_at_call 60; refine (hrd' _ (hB.trans (hb4.mono (by omega)))).mono ?_; rintro e w5 ⟨T', rfl, htr, hnew, hb5⟩; have z4 := hb4.size; obtain ⟨W6, hW6, hB6, hs6, hblk6⟩ := newBlk w5 _ rfl #[.int .i64 T'.op, .int .i64 T'.n, .slice T'.A T'.args.length T'.c] 27; have hb6 : Below W2.heap.size W2 W6 := (hb4.trans (hb5.mono (by omega))).trans (hB6.mono (by have := hb5.size; omega)); obtain ⟨⟨m0, m1, m2⟩, ⟨q0, q1, q2⟩, ⟨g0, g1, g2⟩, k6⟩ := hcells W6 hb6))
        have hfin := ret_end (T := zeroMT) 11 (hB.trans (hb6.mono (by omega))) k6 (new_zero _ _)
        simp only [zeroMT, MT.op, MT.n, MT.A, MT.args, MT.c, List.length_nil] at hfin
        obtain ⟨s0, s1⟩ := hfin _ rfl
        generalize ((W6.setCell ⟨w.heap.size + 1, 0, none⟩ (.int .i64 0)).setCell ⟨w.heap.size + 1, 1, none⟩ (.int .i64 0)).setCell ⟨w.heap.size + 1, 2, none⟩ (.slice none 0 0) = w9 at s0 s1 ⊢
        obtain ⟨t0, t1, t2⟩ := s0
        refine bodyPost_ret (v := .tuple #[.agg #[.int .i64 0, .int .i64 0, .slice none 0 0], .int .i64 11]) (by simp [results, Tryd.f19, go_sem, t0, t1, t2]) rfl ?_
        have hX := Lib.hid s1
        rw [HTr2.out, HE2.out]
        exact hX.out
      · have HTr2 := Lib.hid (parse_some hok hlen' hr).1
        have HE2 := Lib.hid (parse_some hok hlen' hr).2
        rw [hr] at hrd'
        simp only [orZero, orText] at hrd'
        have hsz : t.size ≤ 1000000 := readF_size hr (by omega)
        clear hr
        have hck2 : ∀ (T' : MT) (w4 w5 W6 : World), Below W2.heap.size W2 w4 → Below w4.heap.size w4 w5 → Below w5.heap.size w5 W6 → New w4.heap.size w5 T' → T'.tr = t → Calls Tryd.prog 50 #[.agg #[.slice n.C.A n.C.l.length n.C.c, .slice n.R.A n.R.l.length n.R.c, .slice n.I.A n.I.l.length n.I.c], .agg #[.int .i64 T'.op, .int .i64 T'.n, .slice T'.A T'.args.length T'.c]] W6 fun e w' => e = .returned (.int .i64 (checkT n t)) ∧ Below W6.heap.size W6 w' := by
          intro T' w4 w5 W6 h4 h5 h6 hnew htr
          have z4 := h4.size
          have z5 := h5.size
          rw [← htr]
          exact hck T' W6 ((hB.trans (h4.mono (by omega))).trans ((h5.mono (by omega)).trans (h6.mono (by omega)))) (hnew.1.later h6) (by rw [htr]; exact hsz)
        clear hck
        rcases hcz : (checkT n t == 0)
        · have hcz2 : (checkT n t != 0) = true := by rw [bne, hcz]; rfl
          rw [hcz, if_neg (by decide)] at HTr2
          clear hcz
          go_enter Tryd.func19, Tryd.ntmps19
          go_wp2_with (first | (go_at_call 59; refine hnm.mono ?_; rintro e w4 ⟨rfl, hb4⟩; obtain ⟨⟨n0, n1, n2⟩, ⟨r0, r1, r2⟩, ⟨f0, f1, f2⟩, k4⟩ := hcells w4 hb4) | (go_at_call 60; refine (hrd' _ (hB.trans (hb4.mono (by omega)))).mono ?_; rintro e w5 ⟨T', rfl, htr, hnew, hb5⟩; have z4 := hb4.size; obtain ⟨W6, hW6, hB6, hs6, hblk6⟩ := newBlk w5 _ rfl #[.int .i64 T'.op, .int .i64 T'.n, .slice T'.A T'.args.length T'.c] 27; have hb6 : Below W2.heap.size W2 W6 := (hb4.trans (hb5.mono (by omega))).trans (hB6.mono (by have := hb5.size; omega)); obtain ⟨⟨m0, m1, m2⟩, ⟨q0, q1, q2⟩, ⟨g0, g1, g2⟩, k6⟩ := hcells W6 hb6; have c0 := cell_of_blk hblk6 0; have c1 := cell_of_blk hblk6 1; have c2 := cell_of_blk hblk6 2; simp only [List.getElem?_toArray, List.getElem?_cons_zero, List.getElem?_cons_succ] at c0 c1 c2) | (go_at_call 50; refine (hck2 T' w4 w5 W6 hb4 hb5 hB6 hnew htr).mono ?_; rintro e w7 ⟨rfl, hb7'⟩; have hb7 : Below W2.heap.size W2 w7 := hb6.trans (hb7'.mono hb6.size); obtain ⟨⟨n0', n1', n2'⟩, ⟨r0', r1', r2'⟩, ⟨f0', f1', f2'⟩, k7⟩ := hcells w7 hb7; have j7 := blk_below hblk6 hb7'; have d0 := cell_of_blk j7 0; have d1 := cell_of_blk j7 1; have d2 := cell_of_blk j7 2; simp only [List.getElem?_toArray, List.getElem?_cons_zero, List.getElem?_cons_succ] at d0 d1 d2))
          have hfin := ret_end (T := zeroMT) (checkT n t) (hB.trans (hb7.mono (by omega))) k7 (new_zero _ _)
          simp only [zeroMT, MT.op, MT.n, MT.A, MT.args, MT.c, List.length_nil] at hfin
          obtain ⟨s0, s1⟩ := hfin _ rfl
          generalize ((w7.setCell ⟨w.heap.size + 1, 0, none⟩ (.int .i64 0)).setCell ⟨w.heap.size + 1, 1, none⟩ (.int .i64 0)).setCell ⟨w.heap.size + 1, 2, none⟩ (.slice none 0 0) = w9 at s0 s1 ⊢
          obtain ⟨t0, t1, t2⟩ := s0
          refine bodyPost_ret (v := .tuple #[.agg #[.int .i64 0, .int .i64 0, .slice none 0 0], .int .i64 (checkT n t)]) (by simp [results, Tryd.f19, go_sem, t0, t1, t2]) rfl ?_
          have hX := Lib.hid s1
          rw [HTr2.out, HE2.out]
          exact hX.out
        · have hcz0 : checkT n t = 0 := by simpa using hcz
          rw [hcz, if_pos rfl] at HTr2
          rw [hcz0] at hck2 HE2
          clear hcz hcz0
          go_enter Tryd.func19, Tryd.ntmps19
          go_wp2_with (first | (go_at_call 59; refine hnm.mono ?_; rintro e w4 ⟨rfl, hb4⟩; obtain ⟨⟨n0, n1, n2⟩, ⟨r0, r1, r2⟩, ⟨f0, f1, f2⟩, k4⟩ := hcells w4 hb4) | (go_at_call 60; refine (hrd' _ (hB.trans (hb4.mono (by omega)))).mono ?_; rintro e w5 ⟨T', rfl, htr, hnew, hb5⟩; have z4 := hb4.size; obtain ⟨W6, hW6, hB6, hs6, hblk6⟩ := newBlk w5 _ rfl #[.int .i64 T'.op, .int .i64 T'.n, .slice T'.A T'.args.length T'.c] 27; have hb6 : Below W2.heap.size W2 W6 := (hb4.trans (hb5.mono (by omega))).trans (hB6.mono (by have := hb5.size; omega)); obtain ⟨⟨m0, m1, m2⟩, ⟨q0, q1, q2⟩, ⟨g0, g1, g2⟩, k6⟩ := hcells W6 hb6; have c0 := cell_of_blk hblk6 0; have c1 := cell_of_blk hblk6 1; have c2 := cell_of_blk hblk6 2; simp only [List.getElem?_toArray, List.getElem?_cons_zero, List.getElem?_cons_succ] at c0 c1 c2) | (go_at_call 50; refine (hck2 T' w4 w5 W6 hb4 hb5 hB6 hnew htr).mono ?_; rintro e w7 ⟨rfl, hb7'⟩; have hb7 : Below W2.heap.size W2 w7 := hb6.trans (hb7'.mono hb6.size); obtain ⟨⟨n0', n1', n2'⟩, ⟨r0', r1', r2'⟩, ⟨f0', f1', f2'⟩, k7⟩ := hcells w7 hb7; have j7 := blk_below hblk6 hb7'; have d0 := cell_of_blk j7 0; have d1 := cell_of_blk j7 1; have d2 := cell_of_blk j7 2; simp only [List.getElem?_toArray, List.getElem?_cons_zero, List.getElem?_cons_succ] at d0 d1 d2))
          have hnew7 : New (w.heap.size + 2) w7 T' := ((hnew.later hB6).later hb7').lo (by omega)
          obtain ⟨s0, s1⟩ := ret_end 0 (hB.trans (hb7.mono (by omega))) k7 hnew7 _ rfl
          generalize ((w7.setCell ⟨w.heap.size + 1, 0, none⟩ (.int .i64 T'.op)).setCell ⟨w.heap.size + 1, 1, none⟩ (.int .i64 T'.n)).setCell ⟨w.heap.size + 1, 2, none⟩ (.slice T'.A T'.args.length T'.c) = w9 at s0 s1 ⊢
          obtain ⟨t0, t1, t2⟩ := s0
          refine bodyPost_ret (v := .tuple #[.agg #[.int .i64 T'.op, .int .i64 T'.n, .slice T'.A T'.args.length T'.c], .int .i64 0]) (by simp [results, Tryd.f19, go_sem, t0, t1, t2]) rfl ?_
          have hX := Lib.hid s1
          rw [HTr2.out, HE2.out, ← htr]
          exact hX.out
    · have hlen' : ¬ s.data.toList.length ≤ 30000 := by omega
      have hT1 := Lib.hid (parse_long hok hlen').1
      have hE1 := Lib.hid (parse_long hok hlen').2
      clear hok hrd hck hlen'
      go_enter Tryd.func19, Tryd.ntmps19
      go_wp2_with (go_at_call 59; refine hnm.mono ?_; rintro e w4 ⟨rfl, hb4⟩; obtain ⟨⟨n0, n1, n2⟩, ⟨r0, r1, r2⟩, ⟨f0, f1, f2⟩, k4⟩ := hcells w4 hb4)
      have hfin := ret_end (T := zeroMT) 2 (hB.trans (hb4.mono (by omega))) k4 (new_zero _ _)
      simp only [zeroMT, MT.op, MT.n, MT.A, MT.args, MT.c, List.length_nil] at hfin
      obtain ⟨s0, s1⟩ := hfin _ rfl
      generalize ((w4.setCell ⟨w.heap.size + 1, 0, none⟩ (.int .i64 0)).setCell ⟨w.heap.size + 1, 1, none⟩ (.int .i64 0)).setCell ⟨w.heap.size + 1, 2, none⟩ (.slice none 0 0) = w9 at s0 s1 ⊢
      obtain ⟨t0, t1, t2⟩ := s0
      refine bodyPost_ret (v := .tuple #[.agg #[.int .i64 0, .int .i64 0, .slice none 0 0], .int .i64 2]) (by simp [results, Tryd.f19, go_sem, t0, t1, t2]) rfl ?_
      have hX := Lib.hid s1
      rw [hT1.out, hE1.out]
      exact hX.out
end Go.Proofs.YtneegmhcmegijaaDoor
