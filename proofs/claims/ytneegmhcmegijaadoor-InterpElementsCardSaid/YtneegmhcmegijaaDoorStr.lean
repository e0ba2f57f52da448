import Derived.Test.YtneegmhcmegijaaDoorWrite
namespace Go.Proofs.YtneegmhcmegijaaDoor
open Go.RowKit

theorem write_any (n : NM) (B b : Nat) (hB3 : 3 ≤ B) (h2 : n.R.l.length ≤ 1000) (h3 : ∀ x ∈ n.R.l, x.size ≤ 1000) : ∀ T : MT, MT.VT n.C.l.length n.R.l.length T → WriteAt n B b T := by
  intro T
  induction T using MT.induct with
  | h op nn A c args ih =>
    intro hv
    rw [MT.VT] at hv
    obtain ⟨hw, hs⟩ := hv
    simp only [wfB, Bool.and_eq_true, decide_eq_true_eq, beq_iff_eq] at hw
    obtain ⟨h0, h8, hl, hn0, hn1⟩ := hw
    rcases (show op = 0 ∨ (op = 1 ∨ op = 2) ∨ op = 3 ∨ (op = 4 ∨ op = 5) ∨ (op = 6 ∨ op = 7) by omega) with rfl | h | rfl | h | h
    · exact write0 n B b nn A c args hn0 (by simpa [choicesF] using hn1)
    · exact write12 n B b op nn h A c args
    · rw [arityF, if_pos (by omega)] at hl
      obtain ⟨T0, rfl⟩ := List.length_eq_one_iff.1 (show args.length = 1 by omega)
      exact write3 n B b hB3 nn A c T0 (ih 0 Nat.zero_lt_one (hs.at_ 0 Nat.zero_lt_one))
    · rw [arityF, if_neg (by omega), if_pos (by omega)] at hl
      obtain ⟨T0, T1, rfl⟩ : ∃ T0 T1, args = [T0, T1] := by
        match args, hl with
        | [a, b], _ => exact ⟨a, b, rfl⟩
      exact write45 n B b hB3 op nn h A c T0 T1 (ih 0 (show 0 < 2 by omega) (hs.at_ 0 (show 0 < 2 by omega))) (ih 1 (show 1 < 2 by omega) (hs.at_ 1 (show 1 < 2 by omega)))
    · rw [arityF, if_pos (by omega)] at hl
      obtain ⟨T0, rfl⟩ := List.length_eq_one_iff.1 (show args.length = 1 by omega)
      rw [choicesF, if_neg (by omega), if_pos (by omega)] at hn1
      exact write67 n B b hB3 op nn h A c T0 (ih 0 Nat.zero_lt_one (hs.at_ 0 Nat.zero_lt_one)) hn0 hn1 h2 h3

theorem MT.VT.of_all {C R : Nat} {q : Nat × MT → Bool} (hq : ∀ l T, q (l, T) = true → wfB C R T.op T.n T.args.length = true) :
    ∀ (T : MT) (lev : Nat), (T.pre lev).all q = true → MT.VT C R T :=
  fun T => MT.rec (motive_1 := fun T => ∀ lev, (T.pre lev).all q = true → MT.VT C R T) (motive_2 := fun l => ∀ lev, (MT.preAll lev l).all q = true → MT.VTs C R l)
    (fun op n A c args ih lev h => by
      rw [MT.pre, List.all_cons, Bool.and_eq_true] at h
      rw [MT.VT]
      exact ⟨hq _ _ h.1, ih _ h.2⟩)
    (fun _ _ => by rw [MT.VTs]; trivial)
    (fun t ts h1 h2 lev h => by
      rw [MT.preAll, List.all_append, Bool.and_eq_true] at h
      rw [MT.VTs]
      exact ⟨h1 _ h.1, h2 _ h.2⟩) T
theorem vt_of_valid {n : NM} {T : MT} (h : validB n T = true) : MT.VT n.C.l.length n.R.l.length T := by
  simp only [validB, Bool.and_eq_true] at h
  refine MT.VT.of_all (q := okNode n) (fun l T h => ?_) T 1 h.2
  simp only [okNode, Bool.and_eq_true] at h
  exact h.2

theorem okL_mem : ∀ (seen l : List ByteArray), okL seen l = true → ∀ x ∈ l, nameB x = true
  | seen, x :: r, h, y, hy => by
    rw [okL, Bool.and_eq_true, Bool.and_eq_true] at h
    rcases List.mem_cons.1 hy with rfl | hy
    · exact h.1.1
    · exact okL_mem _ r h.2 y hy
theorem ok_names {n : NM} (h : n.ok = true) : (∀ x ∈ n.C.l, x.size ≤ 12) ∧ (∀ x ∈ n.R.l, x.size ≤ 12) ∧ (∀ x ∈ n.I.l, x.size ≤ 12) := by
  simp only [NM.ok, namesB, Bool.and_eq_true, decide_eq_true_eq] at h
  have hm := okL_mem _ _ h.2.2.2
  have hs : ∀ x, nameB x = true → x.size ≤ 12 := fun x hx => by
    simp only [nameB, Bool.and_eq_true, decide_eq_true_eq] at hx
    exact hx.1.1
  exact ⟨fun x hx => hs x (hm x (by simp [hx])), fun x hx => hs x (hm x (by simp [hx])), fun x hx => hs x (hm x (by simp [hx]))⟩

theorem nameAt_len {l : List ByteArray} {m : Nat} (h : ∀ x ∈ l, x.size ≤ m) (k : Nat) : (nameAt l k).length ≤ m := by
  rw [nameAt, data_size, List.getD_eq_getElem?_getD]
  rcases Nat.lt_or_ge k l.length with hk | hk
  · rw [List.getElem?_eq_getElem hk]; exact h _ (List.getElem_mem _)
  · rw [List.getElem?_eq_none hk]; exact Nat.zero_le _
theorem wordF_len (op : Int) : (wordF op).length ≤ 4 := by
  unfold wordF
  repeat' split
  all_goals simp
theorem str_length {C R : List ByteArray} {m : Nat} (hC : ∀ x ∈ C, x.size ≤ m) (hR : ∀ x ∈ R, x.size ≤ m) (t : Tr) : (t.str C R).length ≤ (m + 10) * t.size :=
  Tr.rec (motive_1 := fun t => (t.str C R).length ≤ (m + 10) * t.size) (motive_2 := fun l => ((Tr.strs C R l).getD 0 []).length + ((Tr.strs C R l).getD 1 []).length ≤ (m + 10) * Tr.sizes l ∧ ((Tr.strs C R l).getD 0 []).length ≤ (m + 10) * Tr.sizes l)
    (fun op n args ih => by
      rw [Tr.str, Tr.size, Nat.mul_add, Nat.mul_one, strNode]
      have h1 := nameAt_len hC n.toNat
      have h2 := nameAt_len hR (n / 2).toNat
      have h3 := wordF_len op
      have h4 : (roleF R n).length ≤ m + 1 := by
        rw [roleF, List.length_append]
        split <;> simp only [List.length_cons, List.length_nil] <;> omega
      obtain ⟨i1, i2⟩ := ih
      repeat' split
      all_goals (try simp only [List.length_append, List.length_cons, List.length_nil]); omega)
    (by simp [Tr.strs])
    (fun t ts h1 h2 => by
      rw [Tr.strs, Tr.sizes, Nat.mul_add]
      simp only [List.getD_cons_zero, List.getD_cons_succ]
      omega) t

/-- What String hands back. -/
def strR (n : NM) (T : MT) : List UInt8 := if checkF n T == 0 then T.tr.str n.C.l n.R.l else []

theorem builder_new {w : World} {B b : Nat} (hB : B ≤ b) (hk : w.heap[b]? = some (.cells #[.pointer none, .slice none 0 0] 106)) : Lib.IsBuilder 106 5 B b [] w :=
  .inl ⟨hB, .slice none 0 0, hk, ⟨rfl, .inl ⟨rfl, rfl⟩⟩, by simp [Value.ownBlock]⟩

set_option maxRecDepth 100000 in
set_option maxHeartbeats 4000000 in
theorem cString_any (n : NM) (T : MT) (w : World) (hG : G w) (hn : n.In w.heap.size w) (hT : T.In w.heap.size w) (hsz : T.tr.size ≤ 1000000) :
    Calls Tryd.prog 18 #[n.val, T.val] w fun e w' => e = .returned (.tuple #[.string ⟨(strR n T).toArray⟩, .int .i64 (checkF n T)]) ∧ Below w.heap.size w w' := by
  have hs3 := hG.size
  obtain ⟨W1, hW1, hB1, hs1, hblk1⟩ := newBlk w _ rfl #[.slice n.C.A n.C.l.length n.C.c, .slice n.R.A n.R.l.length n.R.c, .slice n.I.A n.I.l.length n.I.c] 24
  obtain ⟨W2, hW2, hB2, hs2, hblk2⟩ := newBlk W1 _ hs1 #[.int .i64 T.op, .int .i64 T.n, .slice T.A T.args.length T.c] 27
  have hB : Below w.heap.size w W2 := hB1.trans (hB2.mono (by omega))
  have hblk12 := (hB2.block w.heap.size (by omega)).trans hblk1
  have a0 := cell_of_blk hblk12 0
  have a1 := cell_of_blk hblk12 1
  have a2 := cell_of_blk hblk12 2
  have b0 := cell_of_blk hblk2 0
  have b1 := cell_of_blk hblk2 1
  have b2 := cell_of_blk hblk2 2
  simp only [List.getElem?_toArray, List.getElem?_cons_zero, List.getElem?_cons_succ] at a0 a1 a2 b0 b1 b2
  have hck := cCheck_any n T W2 (hG.later hB) (hn.later hB) (hT.later hB) (by rw [MT.pre_length]; exact hsz)
  simp only [NM.val, MT.val] at hck ⊢
  rcases hc : (checkF n T == 0)
  · have HF := Lib.hid (show strR n T = [] by rw [strR, hc]; rfl)
    have hz2 : (checkF n T != 0) = true := by rw [bne, hc]; rfl
    have HB := Lib.hid hB
    clear hc hB hB1 hB2 hblk1 hblk2 hblk12
    go_enter Tryd.func18, Tryd.ntmps18
    go_wp2_with (go_at_call 50; refine hck.mono ?_; rintro e w4 ⟨rfl, hb4⟩)
    go_ret2
    exact ⟨by rw [HF.out]; rfl, HB.out.trans (hb4.mono (by omega))⟩
  · obtain ⟨hok, hva⟩ := checkF_zero hc
    have hc0 : checkF n T = 0 := by simpa using hc
    rw [hc0] at hck ⊢
    have HF := Lib.hid (show strR n T = T.tr.str n.C.l n.R.l by rw [strR, hc]; rfl)
    clear hc hc0
    have hlen : (T.tr.str n.C.l n.R.l).length ≤ 1000000000 := by
      obtain ⟨m1, m2, -⟩ := ok_names hok
      have := str_length (m := 12) m1 m2 T.tr
      omega
    have hwr := fun b => write_any n w.heap.size b hs3 (by have := (ok_bounds hok).2.1; omega) (fun x hx => Nat.le_trans ((ok_names hok).2.1 x hx) (by decide)) T (vt_of_valid hva)
    have hstep : ∀ (w4 w5 : World) (b : Nat), Below W2.heap.size W2 w4 → w4.heap.size = b → Below b w4 w5 → w5.heap[b]? = some (.cells #[.pointer none, .slice none 0 0] 106) →
        Calls Tryd.prog 57 #[.pointer (some ⟨b, 0, none⟩), n.val, T.val] w5 fun e w' => (∃ v, e = .returned v) ∧ Lib.IsBuilder 106 5 w.heap.size b (byteCells (T.tr.str n.C.l n.R.l)) w' ∧ Below w.heap.size w w' := by
      intro w4 w5 b h4 hs h5 hk
      have z4 := h4.size
      have hb5 : Below w.heap.size w w5 := (hB.trans (h4.mono (by omega))).trans (h5.mono (by omega))
      refine (hwr b [] w5 (hG.later hb5) (hn.below (Nat.le_refl _) hb5) (hT.below hb5) (builder_new (by omega) hk) (by simpa using hlen) hb5.size).mono ?_
      rintro e w' ⟨he, h1, h2, h3⟩
      exact ⟨he, h1, hb5.trans h2⟩
    simp only [NM.val, MT.val] at hstep
    have hf0 : ∀ w4, Below W2.heap.size W2 w4 → (∃ W5, w4.alloc (.cells #[.pointer none, .slice none 0 0] 106) = W5 ∧ Below w4.heap.size w4 W5 ∧ W5.heap.size = w4.heap.size + 1 ∧ W5.heap[w4.heap.size]? = some (.cells #[.pointer none, .slice none 0 0] 106)) := fun w4 _ => newBlk w4 _ rfl _ _
    clear hB1 hB2 hblk1 hwr
    go_enter Tryd.func18, Tryd.ntmps18
    go_wp2_with (first | (go_at_call 50; refine hck.mono ?_; rintro e w4 ⟨rfl, hb4⟩; obtain ⟨W5, hW5, hB5, hs5, hblk5⟩ := hf0 w4 hb4; have hb25 := hb4.trans (hB5.mono hb4.size); have j1 := (hb25.block w.heap.size (by omega)).trans hblk12; have j2 := (hb25.block (w.heap.size + 1) (by omega)).trans hblk2; have a0 := cell_of_blk j1 0; have a1 := cell_of_blk j1 1; have a2 := cell_of_blk j1 2; have b0 := cell_of_blk j2 0; have b1 := cell_of_blk j2 1; have b2 := cell_of_blk j2 2; simp only [List.getElem?_toArray, List.getElem?_cons_zero, List.getElem?_cons_succ] at a0 a1 a2 b0 b1 b2) | (go_at_call 57; refine (hstep w4 W5 _ hb4 rfl hB5 hblk5).mono ?_; rintro e w6 ⟨⟨v6, rfl⟩, hib, hb6⟩) | (go_at_call 58; refine (Tryd.Builder_String_any w.heap.size _ (T.tr.str n.C.l n.R.l) _ hib hb6.size).mono ?_; rintro e w7 ⟨rfl, hb7⟩))
    go_ret2
    exact ⟨by rw [HF.out]; rfl, hb6.trans hb7⟩
end Go.Proofs.YtneegmhcmegijaaDoor
