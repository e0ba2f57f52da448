import Derived.Test.YtffibneelaeocaaGreatDoorG34603e4d16
namespace Go.Proofs.YtffibneelaeocaaGreatDoor
open Go.RowKit

/-- A normal form's normal form, and the normal form of its negation. -/
theorem nnf_nnf (C R : Nat) (t : Tr) : t.wfT C R = true → ∀ a b, nnf (nnf t a) b = nnf t (a ^^ b) :=
  Tr.rec (motive_1 := fun t => t.wfT C R = true → ∀ a b, nnf (nnf t a) b = nnf t (a ^^ b)) (motive_2 := fun l => Tr.wfTs C R l = true → (∀ a b, nnfs (nnfs l a) b = nnfs l (a ^^ b)) ∧ ∀ x, l = [x] → ∀ a b, nnf (nnf x a) b = nnf x (a ^^ b))
    (fun op n args ih h a b => by
      rw [Tr.wfT, Bool.and_eq_true] at h
      obtain ⟨hw, hs⟩ := h
      simp only [wfB, Bool.and_eq_true, decide_eq_true_eq, beq_iff_eq] at hw
      obtain ⟨h0, h8, hl, -, -⟩ := hw
      obtain ⟨i1, i2⟩ := ih hs
      rcases (show op = 0 ∨ op = 3 ∨ (op = 1 ∨ op = 2 ∨ op = 4 ∨ op = 5 ∨ op = 6 ∨ op = 7) by omega) with rfl | rfl | hop
      · have : args = [] := by simpa [arityF] using hl
        subst this
        cases a <;> cases b <;> simp [nnf, nnfs, nnfHead]
      · obtain ⟨x, rfl⟩ := List.length_eq_one_iff.1 (show args.length = 1 by simp [arityF] at hl; omega)
        have := i2 x rfl
        simp only [nnf, nnfHead, if_true]
        rw [this]
        cases a <;> cases b <;> rfl
      · rcases hop with rfl | rfl | rfl | rfl | rfl | rfl <;> cases a <;> cases b <;> simp [nnf, dualF, i1])
    (fun _ => ⟨fun a b => by simp [nnfs], fun x h => by cases h⟩)
    (fun t ts h1 h2 h => by
      rw [Tr.wfTs, Bool.and_eq_true] at h
      refine ⟨fun a b => by rw [nnfs, nnfs, nnfs, h1 h.1, (h2 h.2).1], fun x hx => ?_⟩
      cases hx
      exact h1 h.1) t

def Tr.op : Tr → Int | .mk op _ _ => op
def oneName : List Tr → Bool
  | [x] => x.op == 0
  | _ => false
mutual
/-- Negation stands directly above names alone. -/
def Tr.plain : Tr → Bool
  | .mk op _ args => (op != 3 || oneName args) && Tr.plains args
def Tr.plains : List Tr → Bool
  | [] => true
  | t :: ts => Tr.plain t && Tr.plains ts
end
theorem nnf_plain (C R : Nat) (t : Tr) : t.wfT C R = true → ∀ a, (nnf t a).plain = true :=
  Tr.rec (motive_1 := fun t => t.wfT C R = true → ∀ a, (nnf t a).plain = true) (motive_2 := fun l => Tr.wfTs C R l = true → (∀ a, Tr.plains (nnfs l a) = true) ∧ ∀ x, l = [x] → ∀ a, (nnf x a).plain = true)
    (fun op n args ih h a => by
      rw [Tr.wfT, Bool.and_eq_true] at h
      obtain ⟨hw, hs⟩ := h
      simp only [wfB, Bool.and_eq_true, decide_eq_true_eq, beq_iff_eq] at hw
      obtain ⟨h0, h8, hl, -, -⟩ := hw
      obtain ⟨i1, i2⟩ := ih hs
      rcases (show op = 0 ∨ op = 3 ∨ (op = 1 ∨ op = 2 ∨ op = 4 ∨ op = 5 ∨ op = 6 ∨ op = 7) by omega) with rfl | rfl | hop
      · have : args = [] := by simpa [arityF] using hl
        subst this
        cases a <;> simp [nnf, nnfs, Tr.plain, Tr.plains, Tr.op, oneName]
      · obtain ⟨x, rfl⟩ := List.length_eq_one_iff.1 (show args.length = 1 by simp [arityF] at hl; omega)
        simp only [nnf, nnfHead, if_true]
        exact i2 x rfl _
      · rcases hop with rfl | rfl | rfl | rfl | rfl | rfl <;> cases a <;> simp [nnf, dualF, Tr.plain, i1])
    (fun _ => ⟨fun a => by simp [nnfs, Tr.plains], fun x h => by cases h⟩)
    (fun t ts h1 h2 h => by
      rw [Tr.wfTs, Bool.and_eq_true] at h
      refine ⟨fun a => by rw [nnfs, Tr.plains, h1 h.1, (h2 h.2).1]; rfl, fun x hx => ?_⟩
      cases hx
      exact h1 h.1) t
end Go.Proofs.YtffibneelaeocaaGreatDoor

namespace Go.Proofs.YtffibneelaeocaaGreatDoor
open Go.RowKit

theorem node_new {lo : Nat} {w : World} {op n : Int} {Ts : List MT} (hlo : lo ≤ w.heap.size) (_h0 : Ts ≠ []) (hT : ∀ t ∈ Ts, New lo w t) (hn : Ts.length ≤ 9223372036854775807) :
    New lo (w.alloc (.cells (Ts.flatMap MT.cs).toArray 33)) (.mk op n (some ⟨w.heap.size, 0, none⟩) Ts.length Ts) := by
  have hk : (w.alloc (.cells (Ts.flatMap MT.cs).toArray 33)).heap[w.heap.size]? = some (.cells (Ts.flatMap MT.cs).toArray 33) := World.alloc_heap_new' w _
  have hb : Below w.heap.size w (w.alloc (.cells (Ts.flatMap MT.cs).toArray 33)) := (Below.refl _ _).alloc (Nat.le_refl _) _
  have hT' : ∀ t ∈ Ts, New lo (w.alloc (.cells (Ts.flatMap MT.cs).toArray 33)) t := fun t ht => (hT t ht).later hb
  have hl : ∀ l : List MT, (l.flatMap MT.cs).length = l.length * 3 := fun l => by
    induction l with
    | nil => rfl
    | cons t l ih => rw [List.flatMap_cons, List.length_append, ih, List.length_cons]; simp only [MT.cs, List.length_cons, List.length_nil]; omega
  refine ⟨?_, ?_⟩
  · rw [MT.In]
    refine ⟨Nat.le_refl _, hn, ⟨hl Ts, fun _ => ⟨w.heap.size, 0, rfl, by simp, fun j hj => ?_⟩⟩, MT.InAll.of fun t ht => (hT' t ht).1⟩
    rw [cell_of_blk hk, Nat.zero_add, List.getElem?_toArray]
  · rw [Mine, MT.All]
    exact ⟨fun _ => ⟨w.heap.size, 0, rfl, hlo, _, hk⟩, MT.Alls.of fun t ht => (hT' t ht).2⟩
end Go.Proofs.YtffibneelaeocaaGreatDoor

namespace Go.Proofs.YtffibneelaeocaaGreatDoor
open Go.RowKit Go.Shelf

set_option maxRecDepth 100000 in
set_option maxHeartbeats 2000000 in
theorem normalOf_any (n : NM) (T : MT) (neg : Bool) (w : World) (hG : G w) (hn : n.In w.heap.size w) (hT : T.In w.heap.size w) (hsz : T.tr.size ≤ 1000000) :
    Calls Tryz.prog 109 #[n.val, T.val, .bool neg] w (RetTreeE w (normTr n T neg) (normE n T neg)) := by
  obtain ⟨W1, hW1, hB1, hs1, hblk1⟩ := newBlk w _ rfl #[.slice n.C.A n.C.l.length n.C.c, .slice n.R.A n.R.l.length n.R.c, .slice n.I.A n.I.l.length n.I.c] 24
  obtain ⟨W2, hW2, hB2, hs2, hblk2⟩ := newBlk W1 _ hs1 #[.int .i64 T.op, .int .i64 T.n, .slice T.A T.args.length T.c] 33
  obtain ⟨W3, hW3, hB3, hs3, hblk3⟩ := newBlk W2 _ hs2 #[.int .i64 0, .int .i64 0, .slice none 0 0] 33
  have hB : Below w.heap.size w W3 := (hB1.trans (hB2.mono (by omega))).trans (hB3.mono (by omega))
  have hblk13 := (hB3.block w.heap.size (by omega)).trans ((hB2.block w.heap.size (by omega)).trans hblk1)
  have hblk23 := (hB3.block (w.heap.size + 1) (by omega)).trans hblk2
  have a0 := cell_of_blk hblk13 0
  have a1 := cell_of_blk hblk13 1
  have a2 := cell_of_blk hblk13 2
  have b0 := cell_of_blk hblk23 0
  have b1 := cell_of_blk hblk23 1
  have b2 := cell_of_blk hblk23 2
  simp only [List.getElem?_toArray, List.getElem?_cons_zero, List.getElem?_cons_succ] at a0 a1 a2 b0 b1 b2
  have hck := cCheck_any n T W3 (hG.later hB) (hn.later hB) (hT.later hB) (by rw [MT.pre_length]; exact hsz)
  simp only [NM.val, MT.val] at hck ⊢
  rcases hz : (checkF n T == 0)
  · have HT := Lib.hid (show normTr n T neg = zeroTr by rw [normTr, hz]; rfl)
    have HE := Lib.hid (show normE n T neg = checkF n T by rw [normE, hz]; rfl)
    have hz2 : (checkF n T != 0) = true := by rw [bne, hz]; rfl
    have HB := Lib.hid hB
    clear hz hB hB1 hB2 hB3 hblk1 hblk2 hblk13 hblk23
    go_enter Tryz.func109, Tryz.ntmps109
    go_wp2_with (go_at_call 94; refine hck.mono ?_; rintro e w4 ⟨rfl, hb4⟩; have hbk := (hb4.block (w.heap.size + 1 + 1) (by omega)).trans hblk3; have r0 := cell_of_blk hbk 0; have r1 := cell_of_blk hbk 1; have r2 := cell_of_blk hbk 2; have f0 := frozen_of_blk hbk 0; have f1 := frozen_of_blk hbk 1; have f2 := frozen_of_blk hbk 2; simp only [List.getElem?_toArray, List.getElem?_cons_zero, List.getElem?_cons_succ] at r0 r1 r2)
    obtain ⟨s1, s2⟩ := store3 hbk (.int .i64 0) (.int .i64 0) (.slice none 0 0)
    generalize ((w4.setCell ⟨w.heap.size + 1 + 1, 0, none⟩ (.int .i64 0)).setCell ⟨w.heap.size + 1 + 1, 1, none⟩ (.int .i64 0)).setCell ⟨w.heap.size + 1 + 1, 2, none⟩ (.slice none 0 0) = w5 at s1 s2 ⊢
    have t0 := cell_of_blk s1 0
    have t1 := cell_of_blk s1 1
    have t2 := cell_of_blk s1 2
    simp only [List.getElem?_toArray, List.getElem?_cons_zero, List.getElem?_cons_succ] at t0 t1 t2
    refine bodyPost_ret (v := .tuple #[.agg #[.int .i64 0, .int .i64 0, .slice none 0 0], .int .i64 (checkF n T)]) (by simp [results, Tryz.f109, go_sem, t0, t1, t2]) rfl ⟨zeroMT, ?_, ?_, new_zero _ _, ?_⟩
    · rw [HE.out]; rfl
    · rw [HT.out]; rfl
    · exact (HB.out.trans (hb4.mono (by omega))).trans (below_grown s2 (by omega) (by have := hb4.size; omega))
  · obtain ⟨hok, hv⟩ := checkF_zero hz
    have hwf := wf_of_valid hv
    have hs400 := valid_size hv
    have hns := nnf_size T.tr neg
    have hz0 : checkF n T = 0 := by simpa using hz
    rw [hz0] at hck
    have HB := Lib.hid hB
    have HZ := Lib.hid hz
    have HG := Lib.hid hG
    have HTi := Lib.hid hT
    clear hz hz0 hok hv hB hB1 hB2 hB3 hblk1 hblk2 hblk13 hn hG hT
    have hin4 : ∀ w4, Below W3.heap.size W3 w4 → Calls Tryz.prog 163 #[T.val, .bool neg] w4 (RetTree w4 (nnf T.tr neg)) := fun w4 hb4 =>
      pushed_any T neg w4 hwf (HG.out.later (HB.out.trans (hb4.mono (by omega)))) (HTi.out.later (HB.out.trans (hb4.mono (by omega))))
    simp only [MT.val] at hin4
    have HI := Lib.hid hin4
    clear hin4 hwf
    by_cases q1 : (400 : Int) < ((nnf T.tr neg).size : Int)
    · have hsm : smallB (nnf T.tr neg) = false := by rw [smallB, decide_eq_false (by omega), Bool.false_and]
      have HT := Lib.hid (show normTr n T neg = zeroTr by rw [normTr, HZ.out, hsm]; rfl)
      have HE := Lib.hid (show normE n T neg = 2 by rw [normE, HZ.out, hsm]; rfl)
      clear hsm
      go_enter Tryz.func109, Tryz.ntmps109
      go_wp2_with (first
        | (go_at_call 94; refine hck.mono ?_; rintro e w4 ⟨rfl, hb4⟩; have hb4s := hb4.size; have hbk4 := (hb4.block (w.heap.size + 1) (by omega)).trans hblk23; have r0 := cell_of_blk hbk4 0; have r1 := cell_of_blk hbk4 1; have r2 := cell_of_blk hbk4 2; simp only [List.getElem?_toArray, List.getElem?_cons_zero, List.getElem?_cons_succ] at r0 r1 r2)
        | (go_at_call 163; refine (HI.out w4 hb4).mono ?_; rintro e w5 ⟨T', rfl, htr, hnew, hb5⟩; have hb5s := hb5.size; have HTr := Lib.hid htr; clear htr; obtain ⟨W6, hW6, hB6, hs6, hblk6⟩ := newBlk w5 _ rfl #[.int .i64 T'.op, .int .i64 T'.n, .slice T'.A T'.args.length T'.c] 33; have k0 := cell_of_blk hblk6 0; have k1 := cell_of_blk hblk6 1; have k2 := cell_of_blk hblk6 2; simp only [List.getElem?_toArray, List.getElem?_cons_zero, List.getElem?_cons_succ] at k0 k1 k2; have hsz6 := cSize_any T' W6 (hnew.1.later hB6) (by rw [MT.pre_length, HTr.out]; omega); rw [MT.pre_length, maxLev_pre, HTr.out] at hsz6; simp only [MT.val] at hsz6)
        | (go_at_call 164; refine hsz6.mono ?_; rintro e w7 ⟨rfl, hb7⟩; have hbk7 := (hb7.block (w.heap.size + 1 + 1) (by omega)).trans ((hB6.block (w.heap.size + 1 + 1) (by omega)).trans ((hb5.block (w.heap.size + 1 + 1) (by omega)).trans ((hb4.block (w.heap.size + 1 + 1) (by omega)).trans hblk3))); have u0 := cell_of_blk hbk7 0; have u1 := cell_of_blk hbk7 1; have u2 := cell_of_blk hbk7 2; have v0 := frozen_of_blk hbk7 0; have v1 := frozen_of_blk hbk7 1; have v2 := frozen_of_blk hbk7 2; have hbk8 := (hb7.block w5.heap.size (by omega)).trans hblk6; have x0 := cell_of_blk hbk8 0; have x1 := cell_of_blk hbk8 1; have x2 := cell_of_blk hbk8 2; simp only [List.getElem?_toArray, List.getElem?_cons_zero, List.getElem?_cons_succ] at u0 u1 u2 x0 x1 x2))
      obtain ⟨s1, s2⟩ := store3 hbk7 (.int .i64 0) (.int .i64 0) (.slice none 0 0)
      generalize ((w7.setCell ⟨w.heap.size + 1 + 1, 0, none⟩ (.int .i64 0)).setCell ⟨w.heap.size + 1 + 1, 1, none⟩ (.int .i64 0)).setCell ⟨w.heap.size + 1 + 1, 2, none⟩ (.slice none 0 0) = w8 at s1 s2 ⊢
      have t0 := cell_of_blk s1 0
      have t1 := cell_of_blk s1 1
      have t2 := cell_of_blk s1 2
      simp only [List.getElem?_toArray, List.getElem?_cons_zero, List.getElem?_cons_succ] at t0 t1 t2
      refine bodyPost_ret (v := .tuple #[.agg #[.int .i64 0, .int .i64 0, .slice none 0 0], .int .i64 2]) (by simp [results, Tryz.f109, go_sem, t0, t1, t2]) rfl ⟨zeroMT, ?_, ?_, new_zero _ _, ?_⟩
      · rw [HE.out]; rfl
      · rw [HT.out]; rfl
      · exact ((((HB.out.trans (hb4.mono (by omega))).trans (hb5.mono (by omega))).trans (hB6.mono (by omega))).trans (hb7.mono (by omega))).trans (below_grown s2 (by omega) (by have := hb7.size; omega))
    · by_cases q2 : (20 : Int) < ((nnf T.tr neg).depth : Int)
      · have hsm : smallB (nnf T.tr neg) = false := by rw [smallB, decide_eq_false (show ¬ (nnf T.tr neg).depth ≤ 20 by omega), Bool.and_false]
        have HT := Lib.hid (show normTr n T neg = zeroTr by rw [normTr, HZ.out, hsm]; rfl)
        have HE := Lib.hid (show normE n T neg = 2 by rw [normE, HZ.out, hsm]; rfl)
        clear hsm
        go_enter Tryz.func109, Tryz.ntmps109
        go_wp2_with (first
          | (go_at_call 94; refine hck.mono ?_; rintro e w4 ⟨rfl, hb4⟩; have hb4s := hb4.size; have hbk4 := (hb4.block (w.heap.size + 1) (by omega)).trans hblk23; have r0 := cell_of_blk hbk4 0; have r1 := cell_of_blk hbk4 1; have r2 := cell_of_blk hbk4 2; simp only [List.getElem?_toArray, List.getElem?_cons_zero, List.getElem?_cons_succ] at r0 r1 r2)
          | (go_at_call 163; refine (HI.out w4 hb4).mono ?_; rintro e w5 ⟨T', rfl, htr, hnew, hb5⟩; have hb5s := hb5.size; have HTr := Lib.hid htr; clear htr; obtain ⟨W6, hW6, hB6, hs6, hblk6⟩ := newBlk w5 _ rfl #[.int .i64 T'.op, .int .i64 T'.n, .slice T'.A T'.args.length T'.c] 33; have k0 := cell_of_blk hblk6 0; have k1 := cell_of_blk hblk6 1; have k2 := cell_of_blk hblk6 2; simp only [List.getElem?_toArray, List.getElem?_cons_zero, List.getElem?_cons_succ] at k0 k1 k2; have hsz6 := cSize_any T' W6 (hnew.1.later hB6) (by rw [MT.pre_length, HTr.out]; omega); rw [MT.pre_length, maxLev_pre, HTr.out] at hsz6; simp only [MT.val] at hsz6)
          | (go_at_call 164; refine hsz6.mono ?_; rintro e w7 ⟨rfl, hb7⟩; have hbk7 := (hb7.block (w.heap.size + 1 + 1) (by omega)).trans ((hB6.block (w.heap.size + 1 + 1) (by omega)).trans ((hb5.block (w.heap.size + 1 + 1) (by omega)).trans ((hb4.block (w.heap.size + 1 + 1) (by omega)).trans hblk3))); have u0 := cell_of_blk hbk7 0; have u1 := cell_of_blk hbk7 1; have u2 := cell_of_blk hbk7 2; have v0 := frozen_of_blk hbk7 0; have v1 := frozen_of_blk hbk7 1; have v2 := frozen_of_blk hbk7 2; have hbk8 := (hb7.block w5.heap.size (by omega)).trans hblk6; have x0 := cell_of_blk hbk8 0; have x1 := cell_of_blk hbk8 1; have x2 := cell_of_blk hbk8 2; simp only [List.getElem?_toArray, List.getElem?_cons_zero, List.getElem?_cons_succ] at u0 u1 u2 x0 x1 x2))
        obtain ⟨s1, s2⟩ := store3 hbk7 (.int .i64 0) (.int .i64 0) (.slice none 0 0)
        generalize ((w7.setCell ⟨w.heap.size + 1 + 1, 0, none⟩ (.int .i64 0)).setCell ⟨w.heap.size + 1 + 1, 1, none⟩ (.int .i64 0)).setCell ⟨w.heap.size + 1 + 1, 2, none⟩ (.slice none 0 0) = w8 at s1 s2 ⊢
        have t0 := cell_of_blk s1 0
        have t1 := cell_of_blk s1 1
        have t2 := cell_of_blk s1 2
        simp only [List.getElem?_toArray, List.getElem?_cons_zero, List.getElem?_cons_succ] at t0 t1 t2
        refine bodyPost_ret (v := .tuple #[.agg #[.int .i64 0, .int .i64 0, .slice none 0 0], .int .i64 2]) (by simp [results, Tryz.f109, go_sem, t0, t1, t2]) rfl ⟨zeroMT, ?_, ?_, new_zero _ _, ?_⟩
        · rw [HE.out]; rfl
        · rw [HT.out]; rfl
        · exact ((((HB.out.trans (hb4.mono (by omega))).trans (hb5.mono (by omega))).trans (hB6.mono (by omega))).trans (hb7.mono (by omega))).trans (below_grown s2 (by omega) (by have := hb7.size; omega))
      · have hsm : smallB (nnf T.tr neg) = true := by rw [smallB, decide_eq_true (by omega), decide_eq_true (by omega)]; rfl
        have HT := Lib.hid (show normTr n T neg = nnf T.tr neg by rw [normTr, HZ.out, hsm]; rfl)
        have HE := Lib.hid (show normE n T neg = 0 by rw [normE, HZ.out, hsm]; rfl)
        clear hsm
        go_enter Tryz.func109, Tryz.ntmps109
        go_wp2_with (first
          | (go_at_call 94; refine hck.mono ?_; rintro e w4 ⟨rfl, hb4⟩; have hb4s := hb4.size; have hbk4 := (hb4.block (w.heap.size + 1) (by omega)).trans hblk23; have r0 := cell_of_blk hbk4 0; have r1 := cell_of_blk hbk4 1; have r2 := cell_of_blk hbk4 2; simp only [List.getElem?_toArray, List.getElem?_cons_zero, List.getElem?_cons_succ] at r0 r1 r2)
          | (go_at_call 163; refine (HI.out w4 hb4).mono ?_; rintro e w5 ⟨T', rfl, htr, hnew, hb5⟩; have hb5s := hb5.size; have HTr := Lib.hid htr; clear htr; obtain ⟨W6, hW6, hB6, hs6, hblk6⟩ := newBlk w5 _ rfl #[.int .i64 T'.op, .int .i64 T'.n, .slice T'.A T'.args.length T'.c] 33; have k0 := cell_of_blk hblk6 0; have k1 := cell_of_blk hblk6 1; have k2 := cell_of_blk hblk6 2; simp only [List.getElem?_toArray, List.getElem?_cons_zero, List.getElem?_cons_succ] at k0 k1 k2; have hsz6 := cSize_any T' W6 (hnew.1.later hB6) (by rw [MT.pre_length, HTr.out]; omega); rw [MT.pre_length, maxLev_pre, HTr.out] at hsz6; simp only [MT.val] at hsz6)
          | (go_at_call 164; refine hsz6.mono ?_; rintro e w7 ⟨rfl, hb7⟩; have hbk7 := (hb7.block (w.heap.size + 1 + 1) (by omega)).trans ((hB6.block (w.heap.size + 1 + 1) (by omega)).trans ((hb5.block (w.heap.size + 1 + 1) (by omega)).trans ((hb4.block (w.heap.size + 1 + 1) (by omega)).trans hblk3))); have u0 := cell_of_blk hbk7 0; have u1 := cell_of_blk hbk7 1; have u2 := cell_of_blk hbk7 2; have v0 := frozen_of_blk hbk7 0; have v1 := frozen_of_blk hbk7 1; have v2 := frozen_of_blk hbk7 2; have hbk8 := (hb7.block w5.heap.size (by omega)).trans hblk6; have x0 := cell_of_blk hbk8 0; have x1 := cell_of_blk hbk8 1; have x2 := cell_of_blk hbk8 2; simp only [List.getElem?_toArray, List.getElem?_cons_zero, List.getElem?_cons_succ] at u0 u1 u2 x0 x1 x2))
        obtain ⟨s1, s2⟩ := store3 hbk7 (.int .i64 T'.op) (.int .i64 T'.n) (.slice T'.A T'.args.length T'.c)
        generalize ((w7.setCell ⟨w.heap.size + 1 + 1, 0, none⟩ (.int .i64 T'.op)).setCell ⟨w.heap.size + 1 + 1, 1, none⟩ (.int .i64 T'.n)).setCell ⟨w.heap.size + 1 + 1, 2, none⟩ (.slice T'.A T'.args.length T'.c) = w8 at s1 s2 ⊢
        have t0 := cell_of_blk s1 0
        have t1 := cell_of_blk s1 1
        have t2 := cell_of_blk s1 2
        simp only [List.getElem?_toArray, List.getElem?_cons_zero, List.getElem?_cons_succ] at t0 t1 t2
        have hB47 : Below w5.heap.size w5 w7 := hB6.trans (hb7.mono (by omega))
        have hnew8 : New w4.heap.size w8 T' := (hnew.later hB47).grown s2 (MT.All.imp (fun b hb e => by have : b = w.heap.size + 1 + 1 := Option.some.inj e; have := hb.1; omega) _ hnew.2)
        refine bodyPost_ret (v := .tuple #[.agg #[.int .i64 T'.op, .int .i64 T'.n, .slice T'.A T'.args.length T'.c], .int .i64 0]) (by simp [results, Tryz.f109, go_sem, t0, t1, t2]) rfl ⟨T', ?_, ?_, hnew8.lo (by omega), ?_⟩
        · rw [HE.out]
        · rw [HT.out, HTr.out]
        · exact ((((HB.out.trans (hb4.mono (by omega))).trans (hb5.mono (by omega))).trans (hB6.mono (by omega))).trans (hb7.mono (by omega))).trans (below_grown s2 (by omega) (by have := hb7.size; omega))

set_option maxRecDepth 100000 in
set_option maxHeartbeats 2000000 in
theorem Normal_any (n : NM) (T : MT) (w : World) (hG : G w) (hn : n.In w.heap.size w) (hT : T.In w.heap.size w) (hsz : T.tr.size ≤ 1000000) :
    Calls Tryz.prog 45 #[n.val, T.val] w (RetTreeE w (normTr n T false) (normE n T false)) := by
  obtain ⟨W1, hW1, hB1, hs1, hblk1⟩ := newBlk w _ rfl #[.slice n.C.A n.C.l.length n.C.c, .slice n.R.A n.R.l.length n.R.c, .slice n.I.A n.I.l.length n.I.c] 24
  obtain ⟨W2, hW2, hB2, hs2, hblk2⟩ := newBlk W1 _ hs1 #[.int .i64 T.op, .int .i64 T.n, .slice T.A T.args.length T.c] 33
  obtain ⟨W3, hW3, hB3, hs3, hblk3⟩ := newBlk W2 _ hs2 #[.int .i64 0, .int .i64 0, .slice none 0 0] 33
  have hB : Below w.heap.size w W3 := (hB1.trans (hB2.mono (by omega))).trans (hB3.mono (by omega))
  have hblk13 := (hB3.block w.heap.size (by omega)).trans ((hB2.block w.heap.size (by omega)).trans hblk1)
  have hblk23 := (hB3.block (w.heap.size + 1) (by omega)).trans hblk2
  have a0 := cell_of_blk hblk13 0
  have a1 := cell_of_blk hblk13 1
  have a2 := cell_of_blk hblk13 2
  have b0 := cell_of_blk hblk23 0
  have b1 := cell_of_blk hblk23 1
  have b2 := cell_of_blk hblk23 2
  simp only [List.getElem?_toArray, List.getElem?_cons_zero, List.getElem?_cons_succ] at a0 a1 a2 b0 b1 b2
  have hno := normalOf_any n T false W3 (hG.later hB) (hn.later hB) (hT.later hB) hsz
  simp only [NM.val, MT.val] at hno ⊢
  have HB := Lib.hid hB
  clear hB hB1 hB2 hB3 hblk1 hblk2 hblk13 hblk23
  go_enter Tryz.func45, Tryz.ntmps45
  go_wp2_with (go_at_call 109; refine hno.mono ?_; rintro e w7 ⟨T', rfl, htr, hnew, hb7⟩; have HTr := Lib.hid htr; clear htr; have hbk7 := (hb7.block (w.heap.size + 1 + 1) (by omega)).trans hblk3; have u0 := cell_of_blk hbk7 0; have u1 := cell_of_blk hbk7 1; have u2 := cell_of_blk hbk7 2; have v0 := frozen_of_blk hbk7 0; have v1 := frozen_of_blk hbk7 1; have v2 := frozen_of_blk hbk7 2; simp only [List.getElem?_toArray, List.getElem?_cons_zero, List.getElem?_cons_succ] at u0 u1 u2)
  obtain ⟨s1, s2⟩ := store3 hbk7 (.int .i64 T'.op) (.int .i64 T'.n) (.slice T'.A T'.args.length T'.c)
  generalize ((w7.setCell ⟨w.heap.size + 1 + 1, 0, none⟩ (.int .i64 T'.op)).setCell ⟨w.heap.size + 1 + 1, 1, none⟩ (.int .i64 T'.n)).setCell ⟨w.heap.size + 1 + 1, 2, none⟩ (.slice T'.A T'.args.length T'.c) = w8 at s1 s2 ⊢
  have t0 := cell_of_blk s1 0
  have t1 := cell_of_blk s1 1
  have t2 := cell_of_blk s1 2
  simp only [List.getElem?_toArray, List.getElem?_cons_zero, List.getElem?_cons_succ] at t0 t1 t2
  refine bodyPost_ret (v := .tuple #[.agg #[.int .i64 T'.op, .int .i64 T'.n, .slice T'.A T'.args.length T'.c], .int .i64 (normE n T false)]) (by simp [results, Tryz.f45, go_sem, t0, t1, t2]) rfl ⟨T', rfl, HTr.out, ?_, ?_⟩
  · exact (hnew.grown s2 (MT.All.imp (fun b hb e => by have : b = w.heap.size + 1 + 1 := Option.some.inj e; have := hb.1; omega) _ hnew.2)).lo (by omega)
  · exact (HB.out.trans (hb7.mono (by omega))).trans (below_grown s2 (by omega) (by have := hb7.size; omega))

set_option maxRecDepth 100000 in
set_option maxHeartbeats 2000000 in
theorem Not_any (n : NM) (T : MT) (w : World) (hG : G w) (hn : n.In w.heap.size w) (hT : T.In w.heap.size w) (hsz : T.tr.size ≤ 1000000) :
    Calls Tryz.prog 46 #[n.val, T.val] w (RetTreeE w (normTr n T true) (normE n T true)) := by
  obtain ⟨W1, hW1, hB1, hs1, hblk1⟩ := newBlk w _ rfl #[.slice n.C.A n.C.l.length n.C.c, .slice n.R.A n.R.l.length n.R.c, .slice n.I.A n.I.l.length n.I.c] 24
  obtain ⟨W2, hW2, hB2, hs2, hblk2⟩ := newBlk W1 _ hs1 #[.int .i64 T.op, .int .i64 T.n, .slice T.A T.args.length T.c] 33
  obtain ⟨W3, hW3, hB3, hs3, hblk3⟩ := newBlk W2 _ hs2 #[.int .i64 0, .int .i64 0, .slice none 0 0] 33
  have hB : Below w.heap.size w W3 := (hB1.trans (hB2.mono (by omega))).trans (hB3.mono (by omega))
  have hblk13 := (hB3.block w.heap.size (by omega)).trans ((hB2.block w.heap.size (by omega)).trans hblk1)
  have hblk23 := (hB3.block (w.heap.size + 1) (by omega)).trans hblk2
  have a0 := cell_of_blk hblk13 0
  have a1 := cell_of_blk hblk13 1
  have a2 := cell_of_blk hblk13 2
  have b0 := cell_of_blk hblk23 0
  have b1 := cell_of_blk hblk23 1
  have b2 := cell_of_blk hblk23 2
  simp only [List.getElem?_toArray, List.getElem?_cons_zero, List.getElem?_cons_succ] at a0 a1 a2 b0 b1 b2
  have hno := normalOf_any n T true W3 (hG.later hB) (hn.later hB) (hT.later hB) hsz
  simp only [NM.val, MT.val] at hno ⊢
  have HB := Lib.hid hB
  clear hB hB1 hB2 hB3 hblk1 hblk2 hblk13 hblk23
  go_enter Tryz.func46, Tryz.ntmps46
  go_wp2_with (go_at_call 109; refine hno.mono ?_; rintro e w7 ⟨T', rfl, htr, hnew, hb7⟩; have HTr := Lib.hid htr; clear htr; have hbk7 := (hb7.block (w.heap.size + 1 + 1) (by omega)).trans hblk3; have u0 := cell_of_blk hbk7 0; have u1 := cell_of_blk hbk7 1; have u2 := cell_of_blk hbk7 2; have v0 := frozen_of_blk hbk7 0; have v1 := frozen_of_blk hbk7 1; have v2 := frozen_of_blk hbk7 2; simp only [List.getElem?_toArray, List.getElem?_cons_zero, List.getElem?_cons_succ] at u0 u1 u2)
  obtain ⟨s1, s2⟩ := store3 hbk7 (.int .i64 T'.op) (.int .i64 T'.n) (.slice T'.A T'.args.length T'.c)
  generalize ((w7.setCell ⟨w.heap.size + 1 + 1, 0, none⟩ (.int .i64 T'.op)).setCell ⟨w.heap.size + 1 + 1, 1, none⟩ (.int .i64 T'.n)).setCell ⟨w.heap.size + 1 + 1, 2, none⟩ (.slice T'.A T'.args.length T'.c) = w8 at s1 s2 ⊢
  have t0 := cell_of_blk s1 0
  have t1 := cell_of_blk s1 1
  have t2 := cell_of_blk s1 2
  simp only [List.getElem?_toArray, List.getElem?_cons_zero, List.getElem?_cons_succ] at t0 t1 t2
  refine bodyPost_ret (v := .tuple #[.agg #[.int .i64 T'.op, .int .i64 T'.n, .slice T'.A T'.args.length T'.c], .int .i64 (normE n T true)]) (by simp [results, Tryz.f46, go_sem, t0, t1, t2]) rfl ⟨T', rfl, HTr.out, ?_, ?_⟩
  · exact (hnew.grown s2 (MT.All.imp (fun b hb e => by have : b = w.heap.size + 1 + 1 := Option.some.inj e; have := hb.1; omega) _ hnew.2)).lo (by omega)
  · exact (HB.out.trans (hb7.mono (by omega))).trans (below_grown s2 (by omega) (by have := hb7.size; omega))
end Go.Proofs.YtffibneelaeocaaGreatDoor
