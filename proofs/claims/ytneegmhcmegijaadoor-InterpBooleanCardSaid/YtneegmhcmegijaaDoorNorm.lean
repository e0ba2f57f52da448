import Derived.Test.YtneegmhcmegijaaDoorPushed
namespace Go.Proofs.YtneegmhcmegijaaDoor
open Go.RowKit Go.Shelf

mutual
def Tr.size : Tr → Nat
  | .mk _ _ args => Tr.sizes args + 1
def Tr.sizes : List Tr → Nat
  | [] => 0
  | t :: ts => Tr.size t + Tr.sizes ts
end
mutual
def Tr.depth : Tr → Nat
  | .mk _ _ args => Tr.depths args + 1
def Tr.depths : List Tr → Nat
  | [] => 0
  | t :: ts => max (Tr.depth t) (Tr.depths ts)
end

theorem MT.pre_length : ∀ (T : MT) (lev : Nat), (T.pre lev).length = T.tr.size :=
  fun T => MT.rec (motive_1 := fun T => ∀ lev, (T.pre lev).length = T.tr.size) (motive_2 := fun l => ∀ lev, (MT.preAll lev l).length = Tr.sizes (MT.trs l))
    (fun op n A c args ih lev => by rw [MT.pre, List.length_cons, ih, MT.tr, Tr.size])
    (fun lev => by rw [MT.preAll, MT.trs, Tr.sizes]; rfl)
    (fun t ts h1 h2 lev => by rw [MT.preAll, List.length_append, h1, h2, MT.trs, Tr.sizes]) T

theorem MT.pre_depth : ∀ (T : MT) (lev d : Nat), (T.pre lev).foldl (fun d x => max d x.1) d = max d (lev + T.tr.depth - 1) :=
  fun T => MT.rec (motive_1 := fun T => ∀ lev d, (T.pre lev).foldl (fun d x => max d x.1) d = max d (lev + T.tr.depth - 1)) (motive_2 := fun l => ∀ lev d, lev ≤ d + 1 → (MT.preAll lev l).foldl (fun d x => max d x.1) d = max d (lev + Tr.depths (MT.trs l) - 1))
    (fun op n A c args ih lev d => by
      rw [MT.pre, List.foldl_cons, ih _ _ (by simp only []; omega), MT.tr, Tr.depth]
      simp only []
      omega)
    (fun lev d h => by rw [MT.preAll, MT.trs, Tr.depths]; simp only [List.foldl_nil]; omega)
    (fun t ts h1 h2 lev d h => by
      rw [MT.preAll, List.foldl_append, h1, h2 _ _ (by omega), MT.trs, Tr.depths]
      have : 1 ≤ t.tr.depth := by cases t with | mk op n A c args => rw [MT.tr, Tr.depth]; omega
      omega) T
theorem maxLev_pre (T : MT) : maxLev (T.pre 1) = T.tr.depth := by
  rw [maxLev, MT.pre_depth]; omega

theorem nnf_size (t : Tr) : ∀ neg, (nnf t neg).size ≤ 2 * t.size :=
  Tr.rec (motive_1 := fun t => ∀ neg, (nnf t neg).size ≤ 2 * t.size) (motive_2 := fun l => ∀ neg, Tr.sizes (nnfs l neg) ≤ 2 * Tr.sizes l ∧ (nnfHead l neg).size ≤ 2 * Tr.sizes l + 1)
    (fun op n args ih neg => by
      rw [nnf, Tr.size]
      split
      · have := (ih (!neg)).2; omega
      · split
        · simp only [Tr.size, Tr.sizes]; omega
        · rw [Tr.size]; have := (ih neg).1; omega)
    (fun neg => by simp [nnfs, nnfHead, Tr.sizes, Tr.size])
    (fun t ts h1 h2 neg => by
      rw [nnfs, nnfHead, Tr.sizes, Tr.sizes]
      have a := h1 neg
      have b := (h2 neg).1
      omega) t

def smallB (t : Tr) : Bool := decide (t.size ≤ 400) && decide (t.depth ≤ 20)

/-- The call hands back a new tree that is f, and a code. -/
def RetTreeE (w : World) (f : Tr) (c : Int) (e : Ending) (w' : World) : Prop :=
  ∃ T' : MT, e = .returned (.tuple #[.agg #[.int .i64 T'.op, .int .i64 T'.n, .slice T'.A T'.args.length T'.c], .int .i64 c]) ∧ T'.tr = f ∧ New w.heap.size w' T' ∧ Below w.heap.size w w'
def zeroTr : Tr := .mk 0 0 []
def zeroMT : MT := .mk 0 0 none 0 []
theorem new_zero (lo : Nat) (w : World) : New lo w zeroMT := by
  refine ⟨?_, ?_⟩
  · rw [zeroMT, MT.In]; exact ⟨Nat.le_refl _, by simp, RowAt.nil _ _ _ _, by rw [MT.InAll]; trivial⟩
  · rw [zeroMT, Mine, MT.All]; exact ⟨fun h => absurd rfl h, by rw [MT.Alls]; trivial⟩

/-- What Normal and Not hand back. -/
def normTr (n : NM) (T : MT) (neg : Bool) : Tr := if checkF n T == 0 then (if smallB (nnf T.tr neg) then nnf T.tr neg else zeroTr) else zeroTr
def normE (n : NM) (T : MT) (neg : Bool) : Int := if checkF n T == 0 then (if smallB (nnf T.tr neg) then 0 else 2) else checkF n T

theorem checkF_zero {n : NM} {T : MT} (h : (checkF n T == 0) = true) : n.ok = true ∧ validB n T = true := by
  have h' : checkF n T = 0 := by simpa using h
  unfold checkF at h'
  cases hok : n.ok
  · rw [hok] at h'; simp at h'
  · rw [hok] at h'
    cases hv : validB n T
    · rw [hv] at h'; simp [codeIf] at h'
    · exact ⟨rfl, rfl⟩
theorem valid_size {n : NM} {T : MT} (h : validB n T = true) : T.tr.size ≤ 400 := by
  simp only [validB, Bool.and_eq_true, decide_eq_true_eq] at h
  rw [← MT.pre_length T 1]; exact h.1

set_option maxRecDepth 100000 in
set_option maxHeartbeats 2000000 in
theorem normalOf_any (n : NM) (T : MT) (neg : Bool) (w : World) (hG : G w) (hn : n.In w.heap.size w) (hT : T.In w.heap.size w) (hsz : T.tr.size ≤ 1000000) :
    Calls Tryd.prog 49 #[n.val, T.val, .bool neg] w (RetTreeE w (normTr n T neg) (normE n T neg)) := by
  obtain ⟨W1, hW1, hB1, hs1, hblk1⟩ := newBlk w _ rfl #[.slice n.C.A n.C.l.length n.C.c, .slice n.R.A n.R.l.length n.R.c, .slice n.I.A n.I.l.length n.I.c] 24
  obtain ⟨W2, hW2, hB2, hs2, hblk2⟩ := newBlk W1 _ hs1 #[.int .i64 T.op, .int .i64 T.n, .slice T.A T.args.length T.c] 27
  obtain ⟨W3, hW3, hB3, hs3, hblk3⟩ := newBlk W2 _ hs2 #[.int .i64 0, .int .i64 0, .slice none 0 0] 27
  have hB : Below w.heap.size w W3 := (hB1.trans (hB2.mono (by omega))).trans (hB3.mono (by omega))
  have hblk13 := (hB3.block w.heap.size (by omega)).trans ((hB2.block w.heap.size (by omega)).trans hblk1)
  have hblk23 := (hB3.block (w.heap.size + 1) (by omega)).trans hblk2
  have a0 := cell_of_blk hblk13 0
  have a1 := cell_of_blk hblk13 1
  have a2 := cell_of_blk hblk13 2
  have b0 := cell_of_blk hblk23 0
  have b1 := cell_of_blk hblk23 1
  have b2 := cell_of_blk hblk23 2
  simp only [List.getElem?_toArray, List.getElem?_cons_zero, List.getElem?_cons_succ] at a0 a1 a2 b0 b1 b2
  have hck := cCheck_any n T W3 (hG.later hB) (hn.later hB) (hT.later hB) (by rw [MT.pre_length]; exact hsz)
  simp only [NM.val, MT.val] at hck ⊢
  rcases hz : (checkF n T == 0)
  · have HT := Lib.hid (show normTr n T neg = zeroTr by rw [normTr, hz]; rfl)
    have HE := Lib.hid (show normE n T neg = checkF n T by rw [normE, hz]; rfl)
    have hz2 : (checkF n T != 0) = true := by rw [bne, hz]; rfl
    have HB := Lib.hid hB
    clear hz hB hB1 hB2 hB3 hblk1 hblk2 hblk13 hblk23
    go_enter Tryd.func49, Tryd.ntmps49
    go_wp2_with (go_at_call 50; refine hck.mono ?_; rintro e w4 ⟨rfl, hb4⟩; have hbk := (hb4.block (w.heap.size + 1 + 1) (by omega)).trans hblk3; have r0 := cell_of_blk hbk 0; have r1 := cell_of_blk hbk 1; have r2 := cell_of_blk hbk 2; have f0 := frozen_of_blk hbk 0; have f1 := frozen_of_blk hbk 1; have f2 := frozen_of_blk hbk 2; simp only [List.getElem?_toArray, List.getElem?_cons_zero, List.getElem?_cons_succ] at r0 r1 r2)
    obtain ⟨s1, s2⟩ := store3 hbk (.int .i64 0) (.int .i64 0) (.slice none 0 0)
    generalize ((w4.setCell ⟨w.heap.size + 1 + 1, 0, none⟩ (.int .i64 0)).setCell ⟨w.heap.size + 1 + 1, 1, none⟩ (.int .i64 0)).setCell ⟨w.heap.size + 1 + 1, 2, none⟩ (.slice none 0 0) = w5 at s1 s2 ⊢
    have t0 := cell_of_blk s1 0
    have t1 := cell_of_blk s1 1
    have t2 := cell_of_blk s1 2
    simp only [List.getElem?_toArray, List.getElem?_cons_zero, List.getElem?_cons_succ] at t0 t1 t2
    refine bodyPost_ret (v := .tuple #[.agg #[.int .i64 0, .int .i64 0, .slice none 0 0], .int .i64 (checkF n T)]) (by simp [results, Tryd.f49, go_sem, t0, t1, t2]) rfl ⟨zeroMT, ?_, ?_, new_zero _ _, ?_⟩
    · rw [HE.out]; rfl
    · rw [HT.out]; rfl
    · exact (HB.out.trans (hb4.mono (by omega))).trans (below_grown s2 (by omega) (by have := hb4.size; omega))
  · obtain ⟨hok, hv⟩ := checkF_zero hz
    have hwf := wf_of_valid hv
    have hs400 := valid_size hv
    have hns := nnf_size T.tr neg
    have hz0 : checkF n T = 0 := by simpa using hz
    rw [hz0] at hck
    have HB := Lib.hid hB
    have HZ := Lib.hid hz
    have HG := Lib.hid hG
    have HTi := Lib.hid hT
    clear hz hz0 hok hv hB hB1 hB2 hB3 hblk1 hblk2 hblk13 hn hG hT
    have hin4 : ∀ w4, Below W3.heap.size W3 w4 → Calls Tryd.prog 78 #[T.val, .bool neg] w4 (RetTree w4 (nnf T.tr neg)) := fun w4 hb4 =>
      pushed_any T neg w4 hwf (HG.out.later (HB.out.trans (hb4.mono (by omega)))) (HTi.out.later (HB.out.trans (hb4.mono (by omega))))
    simp only [MT.val] at hin4
    have HI := Lib.hid hin4
    clear hin4 hwf
    by_cases q1 : (400 : Int) < ((nnf T.tr neg).size : Int)
    · have hsm : smallB (nnf T.tr neg) = false := by rw [smallB, decide_eq_false (by omega), Bool.false_and]
      have HT := Lib.hid (show normTr n T neg = zeroTr by rw [normTr, HZ.out, hsm]; rfl)
      have HE := Lib.hid (show normE n T neg = 2 by rw [normE, HZ.out, hsm]; rfl)
      clear hsm
      go_enter Tryd.func49, Tryd.ntmps49
      go_wp2_with (first
        | (go_at_call 50; refine hck.mono ?_; rintro e w4 ⟨rfl, hb4⟩; have hb4s := hb4.size; have hbk4 := (hb4.block (w.heap.size + 1) (by omega)).trans hblk23; have r0 := cell_of_blk hbk4 0; have r1 := cell_of_blk hbk4 1; have r2 := cell_of_blk hbk4 2; simp only [List.getElem?_toArray, List.getElem?_cons_zero, List.getElem?_cons_succ] at r0 r1 r2)
        | (go_at_call 78; refine (HI.out w4 hb4).mono ?_; rintro e w5 ⟨T', rfl, htr, hnew, hb5⟩; have hb5s := hb5.size; have HTr := Lib.hid htr; clear htr; obtain ⟨W6, hW6, hB6, hs6, hblk6⟩ := newBlk w5 _ rfl #[.int .i64 T'.op, .int .i64 T'.n, .slice T'.A T'.args.length T'.c] 27; have k0 := cell_of_blk hblk6 0; have k1 := cell_of_blk hblk6 1; have k2 := cell_of_blk hblk6 2; simp only [List.getElem?_toArray, List.getElem?_cons_zero, List.getElem?_cons_succ] at k0 k1 k2; have hsz6 := cSize_any T' W6 (hnew.1.later hB6) (by rw [MT.pre_length, HTr.out]; omega); rw [MT.pre_length, maxLev_pre, HTr.out] at hsz6; simp only [MT.val] at hsz6)
        | (go_at_call 79; refine hsz6.mono ?_; rintro e w7 ⟨rfl, hb7⟩; have hbk7 := (hb7.block (w.heap.size + 1 + 1) (by omega)).trans ((hB6.block (w.heap.size + 1 + 1) (by omega)).trans ((hb5.block (w.heap.size + 1 + 1) (by omega)).trans ((hb4.block (w.heap.size + 1 + 1) (by omega)).trans hblk3))); have u0 := cell_of_blk hbk7 0; have u1 := cell_of_blk hbk7 1; have u2 := cell_of_blk hbk7 2; have v0 := frozen_of_blk hbk7 0; have v1 := frozen_of_blk hbk7 1; have v2 := frozen_of_blk hbk7 2; have hbk8 := (hb7.block w5.heap.size (by omega)).trans hblk6; have x0 := cell_of_blk hbk8 0; have x1 := cell_of_blk hbk8 1; have x2 := cell_of_blk hbk8 2; simp only [List.getElem?_toArray, List.getElem?_cons_zero, List.getElem?_cons_succ] at u0 u1 u2 x0 x1 x2))
      obtain ⟨s1, s2⟩ := store3 hbk7 (.int .i64 0) (.int .i64 0) (.slice none 0 0)
      generalize ((w7.setCell ⟨w.heap.size + 1 + 1, 0, none⟩ (.int .i64 0)).setCell ⟨w.heap.size + 1 + 1, 1, none⟩ (.int .i64 0)).setCell ⟨w.heap.size + 1 + 1, 2, none⟩ (.slice none 0 0) = w8 at s1 s2 ⊢
      have t0 := cell_of_blk s1 0
      have t1 := cell_of_blk s1 1
      have t2 := cell_of_blk s1 2
      simp only [List.getElem?_toArray, List.getElem?_cons_zero, List.getElem?_cons_succ] at t0 t1 t2
      refine bodyPost_ret (v := .tuple #[.agg #[.int .i64 0, .int .i64 0, .slice none 0 0], .int .i64 2]) (by simp [results, Tryd.f49, go_sem, t0, t1, t2]) rfl ⟨zeroMT, ?_, ?_, new_zero _ _, ?_⟩
      · rw [HE.out]; rfl
      · rw [HT.out]; rfl
      · exact ((((HB.out.trans (hb4.mono (by omega))).trans (hb5.mono (by omega))).trans (hB6.mono (by omega))).trans (hb7.mono (by omega))).trans (below_grown s2 (by omega) (by have := hb7.size; omega))
    · by_cases q2 : (20 : Int) < ((nnf T.tr neg).depth : Int)
      · have hsm : smallB (nnf T.tr neg) = false := by rw [smallB, decide_eq_false (show ¬ (nnf T.tr neg).depth ≤ 20 by omega), Bool.and_false]
        have HT := Lib.hid (show normTr n T neg = zeroTr by rw [normTr, HZ.out, hsm]; rfl)
        have HE := Lib.hid (show normE n T neg = 2 by rw [normE, HZ.out, hsm]; rfl)
        clear hsm
        go_enter Tryd.func49, Tryd.ntmps49
        go_wp2_with (first
          | (go_at_call 50; refine hck.mono ?_; rintro e w4 ⟨rfl, hb4⟩; have hb4s := hb4.size; have hbk4 := (hb4.block (w.heap.size + 1) (by omega)).trans hblk23; have r0 := cell_of_blk hbk4 0; have r1 := cell_of_blk hbk4 1; have r2 := cell_of_blk hbk4 2; simp only [List.getElem?_toArray, List.getElem?_cons_zero, List.getElem?_cons_succ] at r0 r1 r2)
          | (go_at_call 78; refine (HI.out w4 hb4).mono ?_; rintro e w5 ⟨T', rfl, htr, hnew, hb5⟩; have hb5s := hb5.size; have HTr := Lib.hid htr; clear htr; obtain ⟨W6, hW6, hB6, hs6, hblk6⟩ := newBlk w5 _ rfl #[.int .i64 T'.op, .int .i64 T'.n, .slice T'.A T'.args.length T'.c] 27; have k0 := cell_of_blk hblk6 0; have k1 := cell_of_blk hblk6 1; have k2 := cell_of_blk hblk6 2; simp only [List.getElem?_toArray, List.getElem?_cons_zero, List.getElem?_cons_succ] at k0 k1 k2; have hsz6 := cSize_any T' W6 (hnew.1.later hB6) (by rw [MT.pre_length, HTr.out]; omega); rw [MT.pre_length, maxLev_pre, HTr.out] at hsz6; simp only [MT.val] at hsz6)
          | (go_at_call 79; refine hsz6.mono ?_; rintro e w7 ⟨rfl, hb7⟩; have hbk7 := (hb7.block (w.heap.size + 1 + 1) (by omega)).trans ((hB6.block (w.heap.size + 1 + 1) (by omega)).trans ((hb5.block (w.heap.size + 1 + 1) (by omega)).trans ((hb4.block (w.heap.size + 1 + 1) (by omega)).trans hblk3))); have u0 := cell_of_blk hbk7 0; have u1 := cell_of_blk hbk7 1; have u2 := cell_of_blk hbk7 2; have v0 := frozen_of_blk hbk7 0; have v1 := frozen_of_blk hbk7 1; have v2 := frozen_of_blk hbk7 2; have hbk8 := (hb7.block w5.heap.size (by omega)).trans hblk6; have x0 := cell_of_blk hbk8 0; have x1 := cell_of_blk hbk8 1; have x2 := cell_of_blk hbk8 2; simp only [List.getElem?_toArray, List.getElem?_cons_zero, List.getElem?_cons_succ] at u0 u1 u2 x0 x1 x2))
        obtain ⟨s1, s2⟩ := store3 hbk7 (.int .i64 0) (.int .i64 0) (.slice none 0 0)
        generalize ((w7.setCell ⟨w.heap.size + 1 + 1, 0, none⟩ (.int .i64 0)).setCell ⟨w.heap.size + 1 + 1, 1, none⟩ (.int .i64 0)).setCell ⟨w.heap.size + 1 + 1, 2, none⟩ (.slice none 0 0) = w8 at s1 s2 ⊢
        have t0 := cell_of_blk s1 0
        have t1 := cell_of_blk s1 1
        have t2 := cell_of_blk s1 2
        simp only [List.getElem?_toArray, List.getElem?_cons_zero, List.getElem?_cons_succ] at t0 t1 t2
        refine bodyPost_ret (v := .tuple #[.agg #[.int .i64 0, .int .i64 0, .slice none 0 0], .int .i64 2]) (by simp [results, Tryd.f49, go_sem, t0, t1, t2]) rfl ⟨zeroMT, ?_, ?_, new_zero _ _, ?_⟩
        · rw [HE.out]; rfl
        · rw [HT.out]; rfl
        · exact ((((HB.out.trans (hb4.mono (by omega))).trans (hb5.mono (by omega))).trans (hB6.mono (by omega))).trans (hb7.mono (by omega))).trans (below_grown s2 (by omega) (by have := hb7.size; omega))
      · have hsm : smallB (nnf T.tr neg) = true := by rw [smallB, decide_eq_true (by omega), decide_eq_true (by omega)]; rfl
        have HT := Lib.hid (show normTr n T neg = nnf T.tr neg by rw [normTr, HZ.out, hsm]; rfl)
        have HE := Lib.hid (show normE n T neg = 0 by rw [normE, HZ.out, hsm]; rfl)
        clear hsm
        go_enter Tryd.func49, Tryd.ntmps49
        go_wp2_with (first
          | (go_at_call 50; refine hck.mono ?_; rintro e w4 ⟨rfl, hb4⟩; have hb4s := hb4.size; have hbk4 := (hb4.block (w.heap.size + 1) (by omega)).trans hblk23; have r0 := cell_of_blk hbk4 0; have r1 := cell_of_blk hbk4 1; have r2 := cell_of_blk hbk4 2; simp only [List.getElem?_toArray, List.getElem?_cons_zero, List.getElem?_cons_succ] at r0 r1 r2)
          | (go_at_call 78; refine (HI.out w4 hb4).mono ?_; rintro e w5 ⟨T', rfl, htr, hnew, hb5⟩; have hb5s := hb5.size; have HTr := Lib.hid htr; clear htr; obtain ⟨W6, hW6, hB6, hs6, hblk6⟩ := newBlk w5 _ rfl #[.int .i64 T'.op, .int .i64 T'.n, .slice T'.A T'.args.length T'.c] 27; have k0 := cell_of_blk hblk6 0; have k1 := cell_of_blk hblk6 1; have k2 := cell_of_blk hblk6 2; simp only [List.getElem?_toArray, List.getElem?_cons_zero, List.getElem?_cons_succ] at k0 k1 k2; have hsz6 := cSize_any T' W6 (hnew.1.later hB6) (by rw [MT.pre_length, HTr.out]; omega); rw [MT.pre_length, maxLev_pre, HTr.out] at hsz6; simp only [MT.val] at hsz6)
          | (go_at_call 79; refine hsz6.mono ?_; rintro e w7 ⟨rfl, hb7⟩; have hbk7 := (hb7.block (w.heap.size + 1 + 1) (by omega)).trans ((hB6.block (w.heap.size + 1 + 1) (by omega)).trans ((hb5.block (w.heap.size + 1 + 1) (by omega)).trans ((hb4.block (w.heap.size + 1 + 1) (by omega)).trans hblk3))); have u0 := cell_of_blk hbk7 0; have u1 := cell_of_blk hbk7 1; have u2 := cell_of_blk hbk7 2; have v0 := frozen_of_blk hbk7 0; have v1 := frozen_of_blk hbk7 1; have v2 := frozen_of_blk hbk7 2; have hbk8 := (hb7.block w5.heap.size (by omega)).trans hblk6; have x0 := cell_of_blk hbk8 0; have x1 := cell_of_blk hbk8 1; have x2 := cell_of_blk hbk8 2; simp only [List.getElem?_toArray, List.getElem?_cons_zero, List.getElem?_cons_succ] at u0 u1 u2 x0 x1 x2))
        obtain ⟨s1, s2⟩ := store3 hbk7 (.int .i64 T'.op) (.int .i64 T'.n) (.slice T'.A T'.args.length T'.c)
        generalize ((w7.setCell ⟨w.heap.size + 1 + 1, 0, none⟩ (.int .i64 T'.op)).setCell ⟨w.heap.size + 1 + 1, 1, none⟩ (.int .i64 T'.n)).setCell ⟨w.heap.size + 1 + 1, 2, none⟩ (.slice T'.A T'.args.length T'.c) = w8 at s1 s2 ⊢
        have t0 := cell_of_blk s1 0
        have t1 := cell_of_blk s1 1
        have t2 := cell_of_blk s1 2
        simp only [List.getElem?_toArray, List.getElem?_cons_zero, List.getElem?_cons_succ] at t0 t1 t2
        have hB47 : Below w5.heap.size w5 w7 := hB6.trans (hb7.mono (by omega))
        have hnew8 : New w4.heap.size w8 T' := (hnew.later hB47).grown s2 (MT.All.imp (fun b hb e => by have : b = w.heap.size + 1 + 1 := Option.some.inj e; have := hb.1; omega) _ hnew.2)
        refine bodyPost_ret (v := .tuple #[.agg #[.int .i64 T'.op, .int .i64 T'.n, .slice T'.A T'.args.length T'.c], .int .i64 0]) (by simp [results, Tryd.f49, go_sem, t0, t1, t2]) rfl ⟨T', ?_, ?_, hnew8.lo (by omega), ?_⟩
        · rw [HE.out]
        · rw [HT.out, HTr.out]
        · exact ((((HB.out.trans (hb4.mono (by omega))).trans (hb5.mono (by omega))).trans (hB6.mono (by omega))).trans (hb7.mono (by omega))).trans (below_grown s2 (by omega) (by have := hb7.size; omega))

set_option maxRecDepth 100000 in
set_option maxHeartbeats 2000000 in
theorem Normal_any (n : NM) (T : MT) (w : World) (hG : G w) (hn : n.In w.heap.size w) (hT : T.In w.heap.size w) (hsz : T.tr.size ≤ 1000000) :
    Calls Tryd.prog 13 #[n.val, T.val] w (RetTreeE w (normTr n T false) (normE n T false)) := by
  obtain ⟨W1, hW1, hB1, hs1, hblk1⟩ := newBlk w _ rfl #[.slice n.C.A n.C.l.length n.C.c, .slice n.R.A n.R.l.length n.R.c, .slice n.I.A n.I.l.length n.I.c] 24
  obtain ⟨W2, hW2, hB2, hs2, hblk2⟩ := newBlk W1 _ hs1 #[.int .i64 T.op, .int .i64 T.n, .slice T.A T.args.length T.c] 27
  obtain ⟨W3, hW3, hB3, hs3, hblk3⟩ := newBlk W2 _ hs2 #[.int .i64 0, .int .i64 0, .slice none 0 0] 27
  have hB : Below w.heap.size w W3 := (hB1.trans (hB2.mono (by omega))).trans (hB3.mono (by omega))
  have hblk13 := (hB3.block w.heap.size (by omega)).trans ((hB2.block w.heap.size (by omega)).trans hblk1)
  have hblk23 := (hB3.block (w.heap.size + 1) (by omega)).trans hblk2
  have a0 := cell_of_blk hblk13 0
  have a1 := cell_of_blk hblk13 1
  have a2 := cell_of_blk hblk13 2
  have b0 := cell_of_blk hblk23 0
  have b1 := cell_of_blk hblk23 1
  have b2 := cell_of_blk hblk23 2
  simp only [List.getElem?_toArray, List.getElem?_cons_zero, List.getElem?_cons_succ] at a0 a1 a2 b0 b1 b2
  have hno := normalOf_any n T false W3 (hG.later hB) (hn.later hB) (hT.later hB) hsz
  simp only [NM.val, MT.val] at hno ⊢
  have HB := Lib.hid hB
  clear hB hB1 hB2 hB3 hblk1 hblk2 hblk13 hblk23
  go_enter Tryd.func13, Tryd.ntmps13
  go_wp2_with (go_at_call 49; refine hno.mono ?_; rintro e w7 ⟨T', rfl, htr, hnew, hb7⟩; have HTr := Lib.hid htr; clear htr; have hbk7 := (hb7.block (w.heap.size + 1 + 1) (by omega)).trans hblk3; have u0 := cell_of_blk hbk7 0; have u1 := cell_of_blk hbk7 1; have u2 := cell_of_blk hbk7 2; have v0 := frozen_of_blk hbk7 0; have v1 := frozen_of_blk hbk7 1; have v2 := frozen_of_blk hbk7 2; simp only [List.getElem?_toArray, List.getElem?_cons_zero, List.getElem?_cons_succ] at u0 u1 u2)
  obtain ⟨s1, s2⟩ := store3 hbk7 (.int .i64 T'.op) (.int .i64 T'.n) (.slice T'.A T'.args.length T'.c)
  generalize ((w7.setCell ⟨w.heap.size + 1 + 1, 0, none⟩ (.int .i64 T'.op)).setCell ⟨w.heap.size + 1 + 1, 1, none⟩ (.int .i64 T'.n)).setCell ⟨w.heap.size + 1 + 1, 2, none⟩ (.slice T'.A T'.args.length T'.c) = w8 at s1 s2 ⊢
  have t0 := cell_of_blk s1 0
  have t1 := cell_of_blk s1 1
  have t2 := cell_of_blk s1 2
  simp only [List.getElem?_toArray, List.getElem?_cons_zero, List.getElem?_cons_succ] at t0 t1 t2
  refine bodyPost_ret (v := .tuple #[.agg #[.int .i64 T'.op, .int .i64 T'.n, .slice T'.A T'.args.length T'.c], .int .i64 (normE n T false)]) (by simp [results, Tryd.f13, go_sem, t0, t1, t2]) rfl ⟨T', rfl, HTr.out, ?_, ?_⟩
  · exact (hnew.grown s2 (MT.All.imp (fun b hb e => by have : b = w.heap.size + 1 + 1 := Option.some.inj e; have := hb.1; omega) _ hnew.2)).lo (by omega)
  · exact (HB.out.trans (hb7.mono (by omega))).trans (below_grown s2 (by omega) (by have := hb7.size; omega))

set_option maxRecDepth 100000 in
set_option maxHeartbeats 2000000 in
theorem Not_any (n : NM) (T : MT) (w : World) (hG : G w) (hn : n.In w.heap.size w) (hT : T.In w.heap.size w) (hsz : T.tr.size ≤ 1000000) :
    Calls Tryd.prog 15 #[n.val, T.val] w (RetTreeE w (normTr n T true) (normE n T true)) := by
  obtain ⟨W1, hW1, hB1, hs1, hblk1⟩ := newBlk w _ rfl #[.slice n.C.A n.C.l.length n.C.c, .slice n.R.A n.R.l.length n.R.c, .slice n.I.A n.I.l.length n.I.c] 24
  obtain ⟨W2, hW2, hB2, hs2, hblk2⟩ := newBlk W1 _ hs1 #[.int .i64 T.op, .int .i64 T.n, .slice T.A T.args.length T.c] 27
  obtain ⟨W3, hW3, hB3, hs3, hblk3⟩ := newBlk W2 _ hs2 #[.int .i64 0, .int .i64 0, .slice none 0 0] 27
  have hB : Below w.heap.size w W3 := (hB1.trans (hB2.mono (by omega))).trans (hB3.mono (by omega))
  have hblk13 := (hB3.block w.heap.size (by omega)).trans ((hB2.block w.heap.size (by omega)).trans hblk1)
  have hblk23 := (hB3.block (w.heap.size + 1) (by omega)).trans hblk2
  have a0 := cell_of_blk hblk13 0
  have a1 := cell_of_blk hblk13 1
  have a2 := cell_of_blk hblk13 2
  have b0 := cell_of_blk hblk23 0
  have b1 := cell_of_blk hblk23 1
  have b2 := cell_of_blk hblk23 2
  simp only [List.getElem?_toArray, List.getElem?_cons_zero, List.getElem?_cons_succ] at a0 a1 a2 b0 b1 b2
  have hno := normalOf_any n T true W3 (hG.later hB) (hn.later hB) (hT.later hB) hsz
  simp only [NM.val, MT.val] at hno ⊢
  have HB := Lib.hid hB
  clear hB hB1 hB2 hB3 hblk1 hblk2 hblk13 hblk23
  go_enter Tryd.func15, Tryd.ntmps15
  go_wp2_with (go_at_call 49; refine hno.mono ?_; rintro e w7 ⟨T', rfl, htr, hnew, hb7⟩; have HTr := Lib.hid htr; clear htr; have hbk7 := (hb7.block (w.heap.size + 1 + 1) (by omega)).trans hblk3; have u0 := cell_of_blk hbk7 0; have u1 := cell_of_blk hbk7 1; have u2 := cell_of_blk hbk7 2; have v0 := frozen_of_blk hbk7 0; have v1 := frozen_of_blk hbk7 1; have v2 := frozen_of_blk hbk7 2; simp only [List.getElem?_toArray, List.getElem?_cons_zero, List.getElem?_cons_succ] at u0 u1 u2)
  obtain ⟨s1, s2⟩ := store3 hbk7 (.int .i64 T'.op) (.int .i64 T'.n) (.slice T'.A T'.args.length T'.c)
  generalize ((w7.setCell ⟨w.heap.size + 1 + 1, 0, none⟩ (.int .i64 T'.op)).setCell ⟨w.heap.size + 1 + 1, 1, none⟩ (.int .i64 T'.n)).setCell ⟨w.heap.size + 1 + 1, 2, none⟩ (.slice T'.A T'.args.length T'.c) = w8 at s1 s2 ⊢
  have t0 := cell_of_blk s1 0
  have t1 := cell_of_blk s1 1
  have t2 := cell_of_blk s1 2
  simp only [List.getElem?_toArray, List.getElem?_cons_zero, List.getElem?_cons_succ] at t0 t1 t2
  refine bodyPost_ret (v := .tuple #[.agg #[.int .i64 T'.op, .int .i64 T'.n, .slice T'.A T'.args.length T'.c], .int .i64 (normE n T true)]) (by simp [results, Tryd.f15, go_sem, t0, t1, t2]) rfl ⟨T', rfl, HTr.out, ?_, ?_⟩
  · exact (hnew.grown s2 (MT.All.imp (fun b hb e => by have : b = w.heap.size + 1 + 1 := Option.some.inj e; have := hb.1; omega) _ hnew.2)).lo (by omega)
  · exact (HB.out.trans (hb7.mono (by omega))).trans (below_grown s2 (by omega) (by have := hb7.size; omega))
end Go.Proofs.YtneegmhcmegijaaDoor
