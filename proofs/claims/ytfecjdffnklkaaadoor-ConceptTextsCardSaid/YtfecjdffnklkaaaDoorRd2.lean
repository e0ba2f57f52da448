import Derived.Test.YtfecjdffnklkaaaDoorForm
import Derived.Test.YtfecjdffnklkaaaDoorRd1
namespace Go.Proofs.YtfecjdffnklkaaaDoor
open Go.RowKit

/-- The reference's reader at a concept. -/
def rdC (C R : List ByteArray) : Nat → RS → Tr × RS
  | 0, s => (zeroTr, { s with bad := true })
  | f + 1, s =>
    if s.bad || s.ts.isEmpty then (zeroTr, { s with bad := true })
    else if seesB s.ts [116, 111, 112] then (.mk 1 0 [], takeS s [116, 111, 112])
    else if seesB s.ts [98, 111, 116] then (.mk 2 0 [], takeS s [98, 111, 116])
    else if seesB s.ts [110, 111, 116] then (.mk 3 0 [(rdC C R f (takeS s [110, 111, 116])).1], (rdC C R f (takeS s [110, 111, 116])).2)
    else if seesB s.ts [115, 111, 109, 101] then (.mk 6 (roleS R (takeS s [115, 111, 109, 101])).1 [(rdC C R f (roleS R (takeS s [115, 111, 109, 101])).2).1], (rdC C R f (roleS R (takeS s [115, 111, 109, 101])).2).2)
    else if seesB s.ts [97, 108, 108] then (.mk 7 (roleS R (takeS s [97, 108, 108])).1 [(rdC C R f (roleS R (takeS s [97, 108, 108])).2).1], (rdC C R f (roleS R (takeS s [97, 108, 108])).2).2)
    else if seesB s.ts [40] then
      if seesB (rdC C R f (takeS s [40])).2.ts [111, 114] then
        (.mk 5 0 [(rdC C R f (takeS s [40])).1, (rdC C R f (takeS (rdC C R f (takeS s [40])).2 [111, 114])).1], takeS (rdC C R f (takeS (rdC C R f (takeS s [40])).2 [111, 114])).2 [41])
      else
        (.mk 4 0 [(rdC C R f (takeS s [40])).1, (rdC C R f (takeS (rdC C R f (takeS s [40])).2 [97, 110, 100])).1], takeS (rdC C R f (takeS (rdC C R f (takeS s [40])).2 [97, 110, 100])).2 [41])
    else (.mk 0 (idxS C s).1 [], (idxS C s).2)

theorem takeS_len (s : RS) (t : List UInt8) : (takeS s t).ts.length ≤ s.ts.length := by
  unfold takeS
  split
  · simp only [List.length_tail]; omega
  · exact Nat.le_refl _
theorem takeS_sees {s : RS} {t : List UInt8} (h : seesB s.ts t = true) : (takeS s t).ts.length + 1 = s.ts.length := by
  unfold takeS
  rw [if_pos h]
  cases hs : s.ts with
  | nil => rw [hs] at h; cases h
  | cons x r => simp
theorem wordS_len (s : RS) : (wordS s).2.ts.length ≤ s.ts.length := by
  obtain ⟨ts, b, w⟩ := s
  cases ts with
  | nil => exact Nat.le_refl _
  | cons x r =>
    simp only [wordS]
    split <;> simp
theorem idxS_len (L : List ByteArray) (s : RS) : (idxS L s).2.ts.length ≤ s.ts.length := by
  unfold idxS
  split <;> exact wordS_len s
theorem roleS_len (R : List ByteArray) (s : RS) : (roleS R s).2.ts.length ≤ s.ts.length := by
  unfold roleS
  split
  · exact Nat.le_trans (takeS_len _ _) (idxS_len R s)
  · exact idxS_len R s
theorem rdC_len (C R : List ByteArray) : ∀ (f : Nat) (s : RS), (rdC C R f s).2.ts.length ≤ s.ts.length
  | 0, s => by simp [rdC]
  | f + 1, s => by
    have ih := rdC_len C R f
    rw [rdC]
    split
    · exact Nat.le_refl _
    split
    · exact takeS_len _ _
    split
    · exact takeS_len _ _
    split
    · exact Nat.le_trans (ih _) (takeS_len _ _)
    split
    · exact Nat.le_trans (ih _) (Nat.le_trans (roleS_len _ _) (takeS_len _ _))
    split
    · exact Nat.le_trans (ih _) (Nat.le_trans (roleS_len _ _) (takeS_len _ _))
    split
    · split
      · exact Nat.le_trans (takeS_len _ _) (Nat.le_trans (ih _) (Nat.le_trans (takeS_len _ _) (Nat.le_trans (ih _) (takeS_len _ _))))
      · exact Nat.le_trans (takeS_len _ _) (Nat.le_trans (ih _) (Nat.le_trans (takeS_len _ _) (Nat.le_trans (ih _) (takeS_len _ _))))
    · exact idxS_len _ _

theorem RA.gone {n : NM} {B rb : Nat} {s : RS} {w w' : World} (h : RA n B rb s w') (hb : Below w'.heap.size w' w) : RA n B rb s w := h.later hb

def RdP (n : NM) (B rb : Nat) (x : Tr × RS) (w : World) (e : Ending) (w' : World) : Prop :=
  w.grownBy w' (some rb) ∧ (∃ T' : MT, e = .returned (.agg #[.int .i64 T'.op, .int .i64 T'.n, .slice T'.A T'.args.length T'.c]) ∧ T'.tr = x.1 ∧ New w.heap.size w' T') ∧ RA n B rb x.2 w'
def RCAt (n : NM) (B rb : Nat) (x : Tr × RS) (s : RS) : Prop :=
  ∀ w, RA n B rb s w → Calls Tryd.prog 63 #[.pointer (some ⟨rb, 0, none⟩)] w (RdP n B rb x w)

/-- The end: the tree goes out through the result's variable. -/
theorem ret_rd {n : NM} {B rb : Nat} {s : RS} {w w3 : World} {T : MT} {x y z : Value} (hlt : rb < w.heap.size) (hg : w.grownBy w3 (some rb)) (hp : RA n B rb s w3)
    (hbR : w3.heap[w.heap.size]? = some (.cells #[x, y, z] 27)) (hT : New (w.heap.size + 1) w3 T) :
    (w3.cell? ⟨w.heap.size, 0, none⟩ = some x ∧ w3.cell? ⟨w.heap.size, 1, none⟩ = some y ∧ w3.cell? ⟨w.heap.size, 2, none⟩ = some z) ∧ (w3.frozen? ⟨w.heap.size, 0, none⟩ = false ∧ w3.frozen? ⟨w.heap.size, 1, none⟩ = false ∧ w3.frozen? ⟨w.heap.size, 2, none⟩ = false) ∧
      ∀ w6, w6 = ((w3.setCell ⟨w.heap.size, 0, none⟩ (.int .i64 T.op)).setCell ⟨w.heap.size, 1, none⟩ (.int .i64 T.n)).setCell ⟨w.heap.size, 2, none⟩ (.slice T.A T.args.length T.c) →
        (w6.cell? ⟨w.heap.size, 0, none⟩ = some (.int .i64 T.op) ∧ w6.cell? ⟨w.heap.size, 1, none⟩ = some (.int .i64 T.n) ∧ w6.cell? ⟨w.heap.size, 2, none⟩ = some (.slice T.A T.args.length T.c)) ∧
        RdP n B rb (T.tr, s) w (.returned (.agg #[.int .i64 T.op, .int .i64 T.n, .slice T.A T.args.length T.c])) w6 := by
  refine ⟨⟨cell_of_blk hbR 0, cell_of_blk hbR 1, cell_of_blk hbR 2⟩, ⟨frozen_of_blk hbR 0, frozen_of_blk hbR 1, frozen_of_blk hbR 2⟩, ?_⟩
  rintro w6 rfl
  obtain ⟨s1, s2⟩ := store3 hbR (.int .i64 T.op) (.int .i64 T.n) (.slice T.A T.args.length T.c)
  have hB := hp.1
  refine ⟨⟨cell_of_blk s1 0, cell_of_blk s1 1, cell_of_blk s1 2⟩, grown_own hg s2 (Nat.le_refl _), ⟨T, rfl, rfl, ?_⟩, hp.off s2 (by omega) (by omega)⟩
  exact ((hT.grown s2 (MT.All.imp (fun b hb e => by have := Option.some.inj e; have := hb.1; omega) _ hT.2))).lo (by omega)
theorem node1 {lo : Nat} {w : World} {op n : Int} {T : MT} (hlo : lo ≤ w.heap.size) (hT : New lo w T) :
    New lo (w.alloc (.cells #[.int .i64 T.op, .int .i64 T.n, .slice T.A T.args.length T.c] 27)) (.mk op n (some ⟨w.heap.size, 0, none⟩) 1 [T]) :=
  node_new (Ts := [T]) hlo (by simp) (fun t ht => by rw [List.mem_singleton.1 ht]; exact hT) (by simp)
theorem node2 {lo : Nat} {w : World} {op n : Int} {T U : MT} (hlo : lo ≤ w.heap.size) (hT : New lo w T) (hU : New lo w U) :
    New lo (w.alloc (.cells #[.int .i64 T.op, .int .i64 T.n, .slice T.A T.args.length T.c, .int .i64 U.op, .int .i64 U.n, .slice U.A U.args.length U.c] 27)) (.mk op n (some ⟨w.heap.size, 0, none⟩) 2 [T, U]) :=
  node_new (Ts := [T, U]) hlo (by simp) (fun t ht => by simp only [List.mem_cons, List.not_mem_nil, or_false] at ht; rcases ht with rfl | rfl; exact hT; exact hU) (by simp)

set_option maxRecDepth 100000 in
set_option maxHeartbeats 4000000 in
theorem rconcept_step (n : NM) (B rb : Nat) (hC : n.C.l.length ≤ 1000) (hR : n.R.l.length ≤ 1000) (f : Nat) (s : RS) (ih : ∀ s' : RS, s'.ts.length < s.ts.length → RCAt n B rb (rdC n.C.l n.R.l f s') s') : RCAt n B rb (rdC n.C.l n.R.l (f + 1) s) s := by
  intro w h
  obtain ⟨W1, hW1, hB1, hs1, hblk1⟩ := newBlk w _ rfl #[.int .i64 0, .int .i64 0, .slice none 0 0] 27
  have h1 := h.later hB1
  have hg1 : w.grownBy W1 (some rb) := grown_below hB1
  have hlt := h.lt
  obtain ⟨A, c, d0, d1, d3, d4, d5, f3, f4, f5, hin⟩ := h1.cells
  have HF0 : Hid (rdC n.C.l n.R.l (f + 1) s = _) := Lib.hid (by rw [rdC])
  have hzb : ∀ (w2 : World), w2 = W1.setCell ⟨rb, 4, none⟩ (.bool true) → rdC n.C.l n.R.l (f + 1) s = (zeroTr, { s with bad := true }) → ((w2.cell? ⟨w.heap.size, 0, none⟩ = some (.int .i64 0) ∧ w2.cell? ⟨w.heap.size, 1, none⟩ = some (.int .i64 0) ∧ w2.cell? ⟨w.heap.size, 2, none⟩ = some (.slice none 0 0)) ∧ (w2.frozen? ⟨w.heap.size, 0, none⟩ = false ∧ w2.frozen? ⟨w.heap.size, 1, none⟩ = false ∧ w2.frozen? ⟨w.heap.size, 2, none⟩ = false)) ∧
      ∀ w6, w6 = ((w2.setCell ⟨w.heap.size, 0, none⟩ (.int .i64 0)).setCell ⟨w.heap.size, 1, none⟩ (.int .i64 0)).setCell ⟨w.heap.size, 2, none⟩ (.slice none 0 0) →
        (w6.cell? ⟨w.heap.size, 0, none⟩ = some (.int .i64 0) ∧ w6.cell? ⟨w.heap.size, 1, none⟩ = some (.int .i64 0) ∧ w6.cell? ⟨w.heap.size, 2, none⟩ = some (.slice none 0 0)) ∧ RdP n B rb (rdC n.C.l n.R.l (f + 1) s) w (.returned (.agg #[.int .i64 0, .int .i64 0, .slice none 0 0])) w6 := by
    rintro w2 rfl he
    obtain ⟨q0, q1, q2⟩ := ret_rd (T := leafMT 0 0) hlt (grown_trans hg1 (grown_set _ _ _ _)) h1.setBad (blk_pb hblk1 (grown_set W1 rb 4 (.bool true)) (by omega)) (leaf_new _ _ _ _)
    refine ⟨⟨q0, q1⟩, fun w6 e => ?_⟩
    have := q2 w6 e
    rw [he]
    exact this

  rcases hbad : s.bad
  case true =>
    rw [hbad] at d4
    obtain ⟨⟨⟨r0, r1, r2⟩, g0, g1, g2⟩, hfin⟩ := hzb _ rfl (by rw [HF0.out, hbad]; simp)
    clear HF0 ih hzb
    go_enter Tryd.func63, Tryd.ntmps63
    go_wp2_with fail
    obtain ⟨s0, s1⟩ := hfin _ rfl
    generalize (((W1.setCell ⟨rb, 4, none⟩ (.bool true)).setCell ⟨w.heap.size, 0, none⟩ (.int .i64 0)).setCell ⟨w.heap.size, 1, none⟩ (.int .i64 0)).setCell ⟨w.heap.size, 2, none⟩ (.slice none 0 0) = w9 at s0 s1 ⊢
    obtain ⟨t0, t1, t2⟩ := s0
    refine bodyPost_ret (v := .agg #[.int .i64 0, .int .i64 0, .slice none 0 0]) (by simp [results, Tryd.f63, go_sem, t0, t1, t2]) rfl ?_
    exact s1
  case false =>
    rw [hbad] at d4
    by_cases hemp : s.ts = []
    · rw [hemp] at d3
      simp only [List.length_nil] at d3
      obtain ⟨⟨⟨r0, r1, r2⟩, g0, g1, g2⟩, hfin⟩ := hzb _ rfl (by rw [HF0.out, hbad, hemp]; simp)
      clear HF0 ih hzb
      go_enter Tryd.func63, Tryd.ntmps63
      go_wp2_with fail
      obtain ⟨s0, s1⟩ := hfin _ rfl
      generalize (((W1.setCell ⟨rb, 4, none⟩ (.bool true)).setCell ⟨w.heap.size, 0, none⟩ (.int .i64 0)).setCell ⟨w.heap.size, 1, none⟩ (.int .i64 0)).setCell ⟨w.heap.size, 2, none⟩ (.slice none 0 0) = w9 at s0 s1 ⊢
      obtain ⟨t0, t1, t2⟩ := s0
      refine bodyPost_ret (v := .agg #[.int .i64 0, .int .i64 0, .slice none 0 0]) (by simp [results, Tryd.f63, go_sem, t0, t1, t2]) rfl ?_
      exact s1
    clear hzb
    have hlen : s.ts.length ≠ 0 := fun e => hemp (List.eq_nil_of_length_eq_zero e)
    have hempB : s.ts.isEmpty = false := by cases hs : s.ts with | nil => exact absurd hs hemp | cons x r => rfl
    have hlp : ((s.ts.length : Int) == 0) = false := by simpa using hlen
    rw [hbad, hempB] at HF0
    simp only [Bool.or_self, Bool.false_eq_true, if_false] at HF0
    have hOf := fun (op nn : Int) (A : Option Addr) (len c : Nat) w1 => Of_any op nn A len c w1
    have hta := fun (s1 : RS) (t : ByteArray) w1 (hr : RA n B rb s1 w1) => Take_any n B rb s1 t w1 hr
    have hs_top := Sees_any n B rb s ⟨#[116, 111, 112]⟩ W1 h1
    have e_top : (⟨#[116, 111, 112]⟩ : ByteArray).data.toList = [116, 111, 112] := rfl
    rw [e_top] at hs_top
    have hs_bot := Sees_any n B rb s ⟨#[98, 111, 116]⟩ W1 h1
    have e_bot : (⟨#[98, 111, 116]⟩ : ByteArray).data.toList = [98, 111, 116] := rfl
    rw [e_bot] at hs_bot
    have hs_not := Sees_any n B rb s ⟨#[110, 111, 116]⟩ W1 h1
    have e_not : (⟨#[110, 111, 116]⟩ : ByteArray).data.toList = [110, 111, 116] := rfl
    rw [e_not] at hs_not
    have hs_some := Sees_any n B rb s ⟨#[115, 111, 109, 101]⟩ W1 h1
    have e_some : (⟨#[115, 111, 109, 101]⟩ : ByteArray).data.toList = [115, 111, 109, 101] := rfl
    rw [e_some] at hs_some
    have hs_all := Sees_any n B rb s ⟨#[97, 108, 108]⟩ W1 h1
    have e_all : (⟨#[97, 108, 108]⟩ : ByteArray).data.toList = [97, 108, 108] := rfl
    rw [e_all] at hs_all
    have hs_par := Sees_any n B rb s ⟨#[40]⟩ W1 h1
    have e_par : (⟨#[40]⟩ : ByteArray).data.toList = [40] := rfl
    rw [e_par] at hs_par
    rcases c_top : seesB s.ts [116, 111, 112]
    case true =>
      rw [c_top] at hs_top
      have hln := takeS_sees c_top
      have HF := Lib.hid (show rdC n.C.l n.R.l (f + 1) s = (.mk 1 0 [], takeS s [116, 111, 112]) by rw [HF0.out, c_top]; simp)
      have ht := hta s ⟨#[116, 111, 112]⟩ W1 h1
      rw [e_top] at ht
      clear HF0 ih
      go_enter Tryd.func63, Tryd.ntmps63
      go_wp2_with (first | (go_at_call 88; first | (refine hs_top.mono ?_; clear hs_top; rintro e w2 ⟨rfl, rfl⟩)) | (go_at_call 89; refine ht.mono ?_; rintro e w3 ⟨⟨v3, rfl⟩, hg3, hr3⟩) | (go_at_call 75; refine (hOf 1 0 none 0 0 w3).mono ?_; rintro e w4 ⟨rfl, hb4⟩; have hr4 := hr3.later hb4; have hg14 := grown_trans hg1 (grown_trans hg3 (grown_below hb4)); have z3 := hg3.size; have hbR4 := blk_below (blk_pb hblk1 hg3 (by omega)) hb4; obtain ⟨⟨r0, r1, r2⟩, ⟨g0, g1, g2⟩, hfin⟩ := ret_rd (T := leafMT 1 0) hlt hg14 hr4 hbR4 (leaf_new _ _ _ _); simp only [leafMT, MT.op, MT.n, MT.A, MT.args, MT.c, List.length_nil] at hfin))
      obtain ⟨s0, s1⟩ := hfin _ rfl
      generalize ((w4.setCell ⟨w.heap.size, 0, none⟩ (.int .i64 1)).setCell ⟨w.heap.size, 1, none⟩ (.int .i64 0)).setCell ⟨w.heap.size, 2, none⟩ (.slice none 0 0) = w9 at s0 s1 ⊢
      obtain ⟨t0, t1, t2⟩ := s0
      refine bodyPost_ret (v := .agg #[.int .i64 1, .int .i64 0, .slice none 0 0]) (by simp [results, Tryd.f63, go_sem, t0, t1, t2]) rfl ?_
      rw [HF.out]
      exact s1
    rw [c_top] at hs_top
    rcases c_bot : seesB s.ts [98, 111, 116]
    case true =>
      rw [c_bot] at hs_bot
      have hln := takeS_sees c_bot
      have HF := Lib.hid (show rdC n.C.l n.R.l (f + 1) s = (.mk 2 0 [], takeS s [98, 111, 116]) by rw [HF0.out, c_top, c_bot]; simp)
      have ht := hta s ⟨#[98, 111, 116]⟩ W1 h1
      rw [e_bot] at ht
      clear HF0 ih
      go_enter Tryd.func63, Tryd.ntmps63
      go_wp2_with (first | (go_at_call 88; first | (refine hs_top.mono ?_; clear hs_top; rintro e w2 ⟨rfl, rfl⟩) | (refine hs_bot.mono ?_; clear hs_bot; rintro e w2 ⟨rfl, rfl⟩)) | (go_at_call 89; refine ht.mono ?_; rintro e w3 ⟨⟨v3, rfl⟩, hg3, hr3⟩) | (go_at_call 75; refine (hOf 2 0 none 0 0 w3).mono ?_; rintro e w4 ⟨rfl, hb4⟩; have hr4 := hr3.later hb4; have hg14 := grown_trans hg1 (grown_trans hg3 (grown_below hb4)); have z3 := hg3.size; have hbR4 := blk_below (blk_pb hblk1 hg3 (by omega)) hb4; obtain ⟨⟨r0, r1, r2⟩, ⟨g0, g1, g2⟩, hfin⟩ := ret_rd (T := leafMT 2 0) hlt hg14 hr4 hbR4 (leaf_new _ _ _ _); simp only [leafMT, MT.op, MT.n, MT.A, MT.args, MT.c, List.length_nil] at hfin))
      obtain ⟨s0, s1⟩ := hfin _ rfl
      generalize ((w4.setCell ⟨w.heap.size, 0, none⟩ (.int .i64 2)).setCell ⟨w.heap.size, 1, none⟩ (.int .i64 0)).setCell ⟨w.heap.size, 2, none⟩ (.slice none 0 0) = w9 at s0 s1 ⊢
      obtain ⟨t0, t1, t2⟩ := s0
      refine bodyPost_ret (v := .agg #[.int .i64 2, .int .i64 0, .slice none 0 0]) (by simp [results, Tryd.f63, go_sem, t0, t1, t2]) rfl ?_
      rw [HF.out]
      exact s1
    rw [c_bot] at hs_bot
    rcases c_not : seesB s.ts [110, 111, 116]
    case true =>
      rw [c_not] at hs_not
      have hln := takeS_sees c_not
      have HF := Lib.hid (show rdC n.C.l n.R.l (f + 1) s = (.mk 3 0 [(rdC n.C.l n.R.l f (takeS s [110, 111, 116])).1], (rdC n.C.l n.R.l f (takeS s [110, 111, 116])).2) by rw [HF0.out, c_top, c_bot, c_not]; simp)
      have ht := hta s ⟨#[110, 111, 116]⟩ W1 h1
      rw [e_not] at ht
      have hc := ih (takeS s [110, 111, 116]) (by omega)
      unfold RCAt at hc
      generalize rdC n.C.l n.R.l f (takeS s [110, 111, 116]) = X at HF hc
      clear HF0 ih
      go_enter Tryd.func63, Tryd.ntmps63
      go_wp2_with (first | (go_at_call 88; first | (refine hs_top.mono ?_; clear hs_top; rintro e w2 ⟨rfl, rfl⟩) | (refine hs_bot.mono ?_; clear hs_bot; rintro e w2 ⟨rfl, rfl⟩) | (refine hs_not.mono ?_; clear hs_not; rintro e w2 ⟨rfl, rfl⟩)) | (go_at_call 89; refine ht.mono ?_; rintro e w3 ⟨⟨v3, rfl⟩, hg3, hr3⟩; have z3 := hg3.size) | (go_at_call 63; refine (hc _ hr3).mono ?_; rintro e w4 ⟨hg4, ⟨T', rfl, htr, hnew⟩, hr4⟩; have z4 := hg4.size; obtain ⟨W5, hW5, hB5, hs5, -⟩ := newBlk w4 _ rfl #[.int .i64 T'.op, .int .i64 T'.n, .slice T'.A T'.args.length T'.c] 27; have hnode := node1 (op := 3) (n := 0) (lo := w.heap.size + 1) (by omega) (hnew.lo (by omega)); rw [hW5] at hnode) | (go_at_call 75; refine (hOf 3 0 (some ⟨w4.heap.size, 0, none⟩) 1 1 W5).mono ?_; rintro e w6 ⟨rfl, hb6⟩; have hb46 := hB5.trans (hb6.mono (by omega)); have hr6 := hr4.later hb46; have hg16 := grown_trans hg1 (grown_trans hg3 (grown_trans hg4 (grown_below hb46))); have hbR6 := blk_below (blk_pb (blk_pb hblk1 hg3 (by omega)) hg4 (by omega)) hb46; obtain ⟨⟨r0, r1, r2⟩, ⟨g0, g1, g2⟩, hfin⟩ := ret_rd hlt hg16 hr6 hbR6 (hnode.later hb6); simp only [MT.op, MT.n, MT.A, MT.args, MT.c, List.length_singleton, MT.tr_mk, List.map_cons, List.map_nil] at hfin))
      obtain ⟨s0, s1⟩ := hfin _ rfl
      generalize ((w6.setCell ⟨w.heap.size, 0, none⟩ (.int .i64 3)).setCell ⟨w.heap.size, 1, none⟩ (.int .i64 0)).setCell ⟨w.heap.size, 2, none⟩ (.slice (some ⟨w4.heap.size, 0, none⟩) 1 1) = w9 at s0 s1 ⊢
      obtain ⟨t0, t1, t2⟩ := s0
      refine bodyPost_ret (v := .agg #[.int .i64 3, .int .i64 0, .slice (some ⟨w4.heap.size, 0, none⟩) 1 1]) (by simp [results, Tryd.f63, go_sem, t0, t1, t2]) rfl ?_
      rw [HF.out, ← htr]
      exact s1
    rw [c_not] at hs_not
    rcases c_some : seesB s.ts [115, 111, 109, 101]
    case true =>
      rw [c_some] at hs_some
      have hln := takeS_sees c_some
      have HF := Lib.hid (show rdC n.C.l n.R.l (f + 1) s = (.mk 6 (roleS n.R.l (takeS s [115, 111, 109, 101])).1 [(rdC n.C.l n.R.l f (roleS n.R.l (takeS s [115, 111, 109, 101])).2).1], (rdC n.C.l n.R.l f (roleS n.R.l (takeS s [115, 111, 109, 101])).2).2) by rw [HF0.out, c_top, c_bot, c_not, c_some]; simp)
      have ht := hta s ⟨#[115, 111, 109, 101]⟩ W1 h1
      rw [e_some] at ht
      have hq := fun w1 (hr : RA n B rb (takeS s [115, 111, 109, 101]) w1) => RRole_any n B rb (takeS s [115, 111, 109, 101]) w1 hr hR
      have hc := ih (roleS n.R.l (takeS s [115, 111, 109, 101])).2 (by have := roleS_len n.R.l (takeS s [115, 111, 109, 101]); omega)
      unfold RCAt at hc
      generalize roleS n.R.l (takeS s [115, 111, 109, 101]) = Q at HF hc hq
      obtain ⟨rn, s2⟩ := Q
      simp only at HF hc hq
      generalize rdC n.C.l n.R.l f s2 = X at HF hc
      clear HF0 ih
      go_enter Tryd.func63, Tryd.ntmps63
      go_wp2_with (first | (go_at_call 88; first | (refine hs_top.mono ?_; clear hs_top; rintro e w2 ⟨rfl, rfl⟩) | (refine hs_bot.mono ?_; clear hs_bot; rintro e w2 ⟨rfl, rfl⟩) | (refine hs_not.mono ?_; clear hs_not; rintro e w2 ⟨rfl, rfl⟩) | (refine hs_some.mono ?_; clear hs_some; rintro e w2 ⟨rfl, rfl⟩)) | (go_at_call 89; refine ht.mono ?_; rintro e w3 ⟨⟨v3, rfl⟩, hg3, hr3⟩; have z3 := hg3.size) | (go_at_call 90; refine (hq _ hr3).mono ?_; rintro e w7 ⟨rfl, hg7, hr7⟩; have z7 := hg7.size) | (go_at_call 63; refine (hc _ hr7).mono ?_; rintro e w4 ⟨hg4, ⟨T', rfl, htr, hnew⟩, hr4⟩; have z4 := hg4.size; obtain ⟨W5, hW5, hB5, hs5, -⟩ := newBlk w4 _ rfl #[.int .i64 T'.op, .int .i64 T'.n, .slice T'.A T'.args.length T'.c] 27; have hnode := node1 (op := 6) (n := rn) (lo := w.heap.size + 1) (by omega) (hnew.lo (by omega)); rw [hW5] at hnode) | (go_at_call 75; refine (hOf 6 rn (some ⟨w4.heap.size, 0, none⟩) 1 1 W5).mono ?_; rintro e w6 ⟨rfl, hb6⟩; have hb46 := hB5.trans (hb6.mono (by omega)); have hr6 := hr4.later hb46; have hg16 := grown_trans hg1 (grown_trans hg3 (grown_trans hg7 (grown_trans hg4 (grown_below hb46)))); have hbR6 := blk_below (blk_pb (blk_pb (blk_pb hblk1 hg3 (by omega)) hg7 (by omega)) hg4 (by omega)) hb46; obtain ⟨⟨r0, r1, r2⟩, ⟨g0, g1, g2⟩, hfin⟩ := ret_rd hlt hg16 hr6 hbR6 (hnode.later hb6); simp only [MT.op, MT.n, MT.A, MT.args, MT.c, List.length_singleton, MT.tr_mk, List.map_cons, List.map_nil] at hfin))
      obtain ⟨s0, s1⟩ := hfin _ rfl
      generalize ((w6.setCell ⟨w.heap.size, 0, none⟩ (.int .i64 6)).setCell ⟨w.heap.size, 1, none⟩ (.int .i64 rn)).setCell ⟨w.heap.size, 2, none⟩ (.slice (some ⟨w4.heap.size, 0, none⟩) 1 1) = w9 at s0 s1 ⊢
      obtain ⟨t0, t1, t2⟩ := s0
      refine bodyPost_ret (v := .agg #[.int .i64 6, .int .i64 rn, .slice (some ⟨w4.heap.size, 0, none⟩) 1 1]) (by simp [results, Tryd.f63, go_sem, t0, t1, t2]) rfl ?_
      rw [HF.out, ← htr]
      exact s1
    rw [c_some] at hs_some
    rcases c_all : seesB s.ts [97, 108, 108]
    case true =>
      rw [c_all] at hs_all
      have hln := takeS_sees c_all
      have HF := Lib.hid (show rdC n.C.l n.R.l (f + 1) s = (.mk 7 (roleS n.R.l (takeS s [97, 108, 108])).1 [(rdC n.C.l n.R.l f (roleS n.R.l (takeS s [97, 108, 108])).2).1], (rdC n.C.l n.R.l f (roleS n.R.l (takeS s [97, 108, 108])).2).2) by rw [HF0.out, c_top, c_bot, c_not, c_some, c_all]; simp)
      have ht := hta s ⟨#[97, 108, 108]⟩ W1 h1
      rw [e_all] at ht
      have hq := fun w1 (hr : RA n B rb (takeS s [97, 108, 108]) w1) => RRole_any n B rb (takeS s [97, 108, 108]) w1 hr hR
      have hc := ih (roleS n.R.l (takeS s [97, 108, 108])).2 (by have := roleS_len n.R.l (takeS s [97, 108, 108]); omega)
      unfold RCAt at hc
      generalize roleS n.R.l (takeS s [97, 108, 108]) = Q at HF hc hq
      obtain ⟨rn, s2⟩ := Q
      simp only at HF hc hq
      generalize rdC n.C.l n.R.l f s2 = X at HF hc
      clear HF0 ih
      go_enter Tryd.func63, Tryd.ntmps63
      go_wp2_with (first | (go_at_call 88; first | (refine hs_top.mono ?_; clear hs_top; rintro e w2 ⟨rfl, rfl⟩) | (refine hs_bot.mono ?_; clear hs_bot; rintro e w2 ⟨rfl, rfl⟩) | (refine hs_not.mono ?_; clear hs_not; rintro e w2 ⟨rfl, rfl⟩) | (refine hs_some.mono ?_; clear hs_some; rintro e w2 ⟨rfl, rfl⟩) | (refine hs_all.mono ?_; clear hs_all; rintro e w2 ⟨rfl, rfl⟩)) | (go_at_call 89; refine ht.mono ?_; rintro e w3 ⟨⟨v3, rfl⟩, hg3, hr3⟩; have z3 := hg3.size) | (go_at_call 90; refine (hq _ hr3).mono ?_; rintro e w7 ⟨rfl, hg7, hr7⟩; have z7 := hg7.size) | (go_at_call 63; refine (hc _ hr7).mono ?_; rintro e w4 ⟨hg4, ⟨T', rfl, htr, hnew⟩, hr4⟩; have z4 := hg4.size; obtain ⟨W5, hW5, hB5, hs5, -⟩ := newBlk w4 _ rfl #[.int .i64 T'.op, .int .i64 T'.n, .slice T'.A T'.args.length T'.c] 27; have hnode := node1 (op := 7) (n := rn) (lo := w.heap.size + 1) (by omega) (hnew.lo (by omega)); rw [hW5] at hnode) | (go_at_call 75; refine (hOf 7 rn (some ⟨w4.heap.size, 0, none⟩) 1 1 W5).mono ?_; rintro e w6 ⟨rfl, hb6⟩; have hb46 := hB5.trans (hb6.mono (by omega)); have hr6 := hr4.later hb46; have hg16 := grown_trans hg1 (grown_trans hg3 (grown_trans hg7 (grown_trans hg4 (grown_below hb46)))); have hbR6 := blk_below (blk_pb (blk_pb (blk_pb hblk1 hg3 (by omega)) hg7 (by omega)) hg4 (by omega)) hb46; obtain ⟨⟨r0, r1, r2⟩, ⟨g0, g1, g2⟩, hfin⟩ := ret_rd hlt hg16 hr6 hbR6 (hnode.later hb6); simp only [MT.op, MT.n, MT.A, MT.args, MT.c, List.length_singleton, MT.tr_mk, List.map_cons, List.map_nil] at hfin))
      obtain ⟨s0, s1⟩ := hfin _ rfl
      generalize ((w6.setCell ⟨w.heap.size, 0, none⟩ (.int .i64 7)).setCell ⟨w.heap.size, 1, none⟩ (.int .i64 rn)).setCell ⟨w.heap.size, 2, none⟩ (.slice (some ⟨w4.heap.size, 0, none⟩) 1 1) = w9 at s0 s1 ⊢
      obtain ⟨t0, t1, t2⟩ := s0
      refine bodyPost_ret (v := .agg #[.int .i64 7, .int .i64 rn, .slice (some ⟨w4.heap.size, 0, none⟩) 1 1]) (by simp [results, Tryd.f63, go_sem, t0, t1, t2]) rfl ?_
      rw [HF.out, ← htr]
      exact s1
    rw [c_all] at hs_all
    rcases c_par : seesB s.ts [40]
    case true =>
      rw [c_par] at hs_par
      have hln := takeS_sees c_par
      have ht := hta s ⟨#[40]⟩ W1 h1
      rw [e_par] at ht
      have hc := ih (takeS s [40]) (by omega)
      have hl2 := rdC_len n.C.l n.R.l f (takeS s [40])
      unfold RCAt at hc
      have HF1 := Lib.hid (show rdC n.C.l n.R.l (f + 1) s = if seesB (rdC n.C.l n.R.l f (takeS s [40])).2.ts [111, 114] then
        (.mk 5 0 [(rdC n.C.l n.R.l f (takeS s [40])).1, (rdC n.C.l n.R.l f (takeS (rdC n.C.l n.R.l f (takeS s [40])).2 [111, 114])).1], takeS (rdC n.C.l n.R.l f (takeS (rdC n.C.l n.R.l f (takeS s [40])).2 [111, 114])).2 [41])
      else
        (.mk 4 0 [(rdC n.C.l n.R.l f (takeS s [40])).1, (rdC n.C.l n.R.l f (takeS (rdC n.C.l n.R.l f (takeS s [40])).2 [97, 110, 100])).1], takeS (rdC n.C.l n.R.l f (takeS (rdC n.C.l n.R.l f (takeS s [40])).2 [97, 110, 100])).2 [41]) by rw [HF0.out, c_top, c_bot, c_not, c_some, c_all, c_par]; simp)
      generalize rdC n.C.l n.R.l f (takeS s [40]) = X at HF1 hc hl2
      obtain ⟨a, s2⟩ := X
      simp only at HF1 hl2
      have hor := fun w1 (hr : RA n B rb s2 w1) => Sees_any n B rb s2 ⟨#[111, 114]⟩ w1 hr
      have e_or : (⟨#[111, 114]⟩ : ByteArray).data.toList = [111, 114] := rfl
      rw [e_or] at hor
      rcases c_or : seesB s2.ts [111, 114]
      · rw [c_or] at hor HF1
        simp only [Bool.false_eq_true, if_false, if_true] at HF1
        have hta2 := fun w1 (hr : RA n B rb s2 w1) => Take_any n B rb s2 ⟨#[97, 110, 100]⟩ w1 hr
        have e_cn : (⟨#[97, 110, 100]⟩ : ByteArray).data.toList = [97, 110, 100] := rfl
        rw [e_cn] at hta2
        have hc2 := ih (takeS s2 [97, 110, 100]) (by have := takeS_len s2 [97, 110, 100]; omega)
        unfold RCAt at hc2
        generalize rdC n.C.l n.R.l f (takeS s2 [97, 110, 100]) = Y at HF1 hc2
        obtain ⟨b, s3⟩ := Y
        have HF := Lib.hid HF1.out
        simp only at HF
        have hta3 := fun w1 (hr : RA n B rb s3 w1) => Take_any n B rb s3 ⟨#[41]⟩ w1 hr
        have e_cl : (⟨#[41]⟩ : ByteArray).data.toList = [41] := rfl
        rw [e_cl] at hta3
        clear HF0 HF1 ih
        go_enter Tryd.func63, Tryd.ntmps63
        go_wp2_with (first | (go_at_call 88; first | (refine hs_top.mono ?_; clear hs_top; rintro e w2 ⟨rfl, rfl⟩) | (refine hs_bot.mono ?_; clear hs_bot; rintro e w2 ⟨rfl, rfl⟩) | (refine hs_not.mono ?_; clear hs_not; rintro e w2 ⟨rfl, rfl⟩) | (refine hs_some.mono ?_; clear hs_some; rintro e w2 ⟨rfl, rfl⟩) | (refine hs_all.mono ?_; clear hs_all; rintro e w2 ⟨rfl, rfl⟩) | (refine hs_par.mono ?_; clear hs_par; rintro e w2 ⟨rfl, rfl⟩) | (refine (hor _ hr5).mono ?_; rintro e w2 ⟨rfl, rfl⟩)) | (go_at_call 89; first | (refine (hta3 _ hr9).mono ?_; rintro e w10 ⟨⟨v10, rfl⟩, hg10, hr10⟩; have z10 := hg10.size; have hL10 := blk_pb hL9 hg10 (by omega); have hR10 := blk_pb hR9 hg10 (by omega); have l0 := cell_of_blk hL10 0; have l1 := cell_of_blk hL10 1; have l2 := cell_of_blk hL10 2; have q0 := cell_of_blk hR10 0; have q1 := cell_of_blk hR10 1; have q2 := cell_of_blk hR10 2; simp only [List.getElem?_toArray, List.getElem?_cons_zero, List.getElem?_cons_succ] at l0 l1 l2 q0 q1 q2; have hN0 := (hnew4.pb hg10 (by omega)).lo (show w.heap.size + 1 ≤ _ by omega); have hN1 := (hnew9.pb hg10 (by omega)).lo (show w.heap.size + 1 ≤ _ by omega); obtain ⟨W11, hW11, hB11, hs11, -⟩ := newBlk w10 _ rfl #[.int .i64 T0.op, .int .i64 T0.n, .slice T0.A T0.args.length T0.c, .int .i64 T1.op, .int .i64 T1.n, .slice T1.A T1.args.length T1.c] 27; have hnode := node2 (op := 4) (n := 0) (by omega) hN0 hN1; rw [hW11] at hnode) | (refine (hta2 _ hr5).mono ?_; rintro e w6 ⟨⟨v6, rfl⟩, hg6, hr6⟩; have z6 := hg6.size; have hL6 := blk_pb hL5 hg6 (by omega); have hnew6 := hnew5.pb hg6 (by omega)) | (refine ht.mono ?_; rintro e w3 ⟨⟨v3, rfl⟩, hg3, hr3⟩; have z3 := hg3.size)) | (go_at_call 63; first | (refine (hc2 _ hr6).mono ?_; rintro e w8 ⟨hg8, ⟨T1, rfl, htr1, hnew8⟩, hr8⟩; have z8 := hg8.size; have hL8 := blk_pb hL6 hg8 (by omega); obtain ⟨W9, hW9, hB9, hs9, hR9⟩ := newBlk w8 _ rfl #[.int .i64 T1.op, .int .i64 T1.n, .slice T1.A T1.args.length T1.c] 27; have hr9 := hr8.later hB9; have hL9 := blk_below hL8 hB9; have hnew9 := hnew8.later hB9; have hnew4 := (hnew6.pb hg8 (by omega)).later hB9) | (refine (hc _ hr3).mono ?_; rintro e w4 ⟨hg4, ⟨T0, rfl, htr0, hnew0⟩, hr4⟩; have z4 := hg4.size; obtain ⟨W5, hW5, hB5, hs5, hL5⟩ := newBlk w4 _ rfl #[.int .i64 T0.op, .int .i64 T0.n, .slice T0.A T0.args.length T0.c] 27; have hr5 := hr4.later hB5; have hnew5 := hnew0.later hB5)) | (go_at_call 75; refine (hOf 4 0 (some ⟨w10.heap.size, 0, none⟩) 2 2 W11).mono ?_; rintro e w12 ⟨rfl, hb12⟩; have hb1012 := hB11.trans (hb12.mono (by omega)); have hr12 := hr10.later hb1012; have hg112 := grown_trans hg1 (grown_trans hg3 (grown_trans hg4 (grown_trans (grown_below hB5) (grown_trans hg6 (grown_trans hg8 (grown_trans (grown_below hB9) (grown_trans hg10 (grown_below hb1012)))))))); have hbR12 := blk_below (blk_pb (blk_below (blk_pb (blk_pb (blk_below (blk_pb (blk_pb hblk1 hg3 (by omega)) hg4 (by omega)) hB5) hg6 (by omega)) hg8 (by omega)) hB9) hg10 (by omega)) hb1012; obtain ⟨⟨r0, r1, r2⟩, ⟨g0, g1, g2⟩, hfin⟩ := ret_rd hlt hg112 hr12 hbR12 (hnode.later hb12); simp only [MT.op, MT.n, MT.A, MT.args, MT.c, List.length_cons, List.length_nil, Nat.reduceAdd, MT.tr_mk, List.map_cons, List.map_nil] at hfin))
        obtain ⟨s0, s1⟩ := hfin _ rfl
        generalize ((w12.setCell ⟨w.heap.size, 0, none⟩ (.int .i64 4)).setCell ⟨w.heap.size, 1, none⟩ (.int .i64 0)).setCell ⟨w.heap.size, 2, none⟩ (.slice (some ⟨w10.heap.size, 0, none⟩) 2 2) = w9 at s0 s1 ⊢
        obtain ⟨t0, t1, t2⟩ := s0
        refine bodyPost_ret (v := .agg #[.int .i64 4, .int .i64 0, .slice (some ⟨w10.heap.size, 0, none⟩) 2 2]) (by simp [results, Tryd.f63, go_sem, t0, t1, t2]) rfl ?_
        rw [HF.out]

        rw [← htr0, ← htr1]
        exact s1
      · rw [c_or] at hor HF1
        simp only [Bool.false_eq_true, if_false, if_true] at HF1
        have hta2 := fun w1 (hr : RA n B rb s2 w1) => Take_any n B rb s2 ⟨#[111, 114]⟩ w1 hr
        have e_cn : (⟨#[111, 114]⟩ : ByteArray).data.toList = [111, 114] := rfl
        rw [e_cn] at hta2
        have hc2 := ih (takeS s2 [111, 114]) (by have := takeS_len s2 [111, 114]; omega)
        unfold RCAt at hc2
        generalize rdC n.C.l n.R.l f (takeS s2 [111, 114]) = Y at HF1 hc2
        obtain ⟨b, s3⟩ := Y
        have HF := Lib.hid HF1.out
        simp only at HF
        have hta3 := fun w1 (hr : RA n B rb s3 w1) => Take_any n B rb s3 ⟨#[41]⟩ w1 hr
        have e_cl : (⟨#[41]⟩ : ByteArray).data.toList = [41] := rfl
        rw [e_cl] at hta3
        clear HF0 HF1 ih
        go_enter Tryd.func63, Tryd.ntmps63
        go_wp2_with (first | (go_at_call 88; first | (refine hs_top.mono ?_; clear hs_top; rintro e w2 ⟨rfl, rfl⟩) | (refine hs_bot.mono ?_; clear hs_bot; rintro e w2 ⟨rfl, rfl⟩) | (refine hs_not.mono ?_; clear hs_not; rintro e w2 ⟨rfl, rfl⟩) | (refine hs_some.mono ?_; clear hs_some; rintro e w2 ⟨rfl, rfl⟩) | (refine hs_all.mono ?_; clear hs_all; rintro e w2 ⟨rfl, rfl⟩) | (refine hs_par.mono ?_; clear hs_par; rintro e w2 ⟨rfl, rfl⟩) | (refine (hor _ hr5).mono ?_; rintro e w2 ⟨rfl, rfl⟩)) | (go_at_call 89; first | (refine (hta3 _ hr9).mono ?_; rintro e w10 ⟨⟨v10, rfl⟩, hg10, hr10⟩; have z10 := hg10.size; have hL10 := blk_pb hL9 hg10 (by omega); have hR10 := blk_pb hR9 hg10 (by omega); have l0 := cell_of_blk hL10 0; have l1 := cell_of_blk hL10 1; have l2 := cell_of_blk hL10 2; have q0 := cell_of_blk hR10 0; have q1 := cell_of_blk hR10 1; have q2 := cell_of_blk hR10 2; simp only [List.getElem?_toArray, List.getElem?_cons_zero, List.getElem?_cons_succ] at l0 l1 l2 q0 q1 q2; have hN0 := (hnew4.pb hg10 (by omega)).lo (show w.heap.size + 1 ≤ _ by omega); have hN1 := (hnew9.pb hg10 (by omega)).lo (show w.heap.size + 1 ≤ _ by omega); obtain ⟨W11, hW11, hB11, hs11, -⟩ := newBlk w10 _ rfl #[.int .i64 T0.op, .int .i64 T0.n, .slice T0.A T0.args.length T0.c, .int .i64 T1.op, .int .i64 T1.n, .slice T1.A T1.args.length T1.c] 27; have hnode := node2 (op := 5) (n := 0) (by omega) hN0 hN1; rw [hW11] at hnode) | (refine (hta2 _ hr5).mono ?_; rintro e w6 ⟨⟨v6, rfl⟩, hg6, hr6⟩; have z6 := hg6.size; have hL6 := blk_pb hL5 hg6 (by omega); have hnew6 := hnew5.pb hg6 (by omega)) | (refine ht.mono ?_; rintro e w3 ⟨⟨v3, rfl⟩, hg3, hr3⟩; have z3 := hg3.size)) | (go_at_call 63; first | (refine (hc2 _ hr6).mono ?_; rintro e w8 ⟨hg8, ⟨T1, rfl, htr1, hnew8⟩, hr8⟩; have z8 := hg8.size; have hL8 := blk_pb hL6 hg8 (by omega); obtain ⟨W9, hW9, hB9, hs9, hR9⟩ := newBlk w8 _ rfl #[.int .i64 T1.op, .int .i64 T1.n, .slice T1.A T1.args.length T1.c] 27; have hr9 := hr8.later hB9; have hL9 := blk_below hL8 hB9; have hnew9 := hnew8.later hB9; have hnew4 := (hnew6.pb hg8 (by omega)).later hB9) | (refine (hc _ hr3).mono ?_; rintro e w4 ⟨hg4, ⟨T0, rfl, htr0, hnew0⟩, hr4⟩; have z4 := hg4.size; obtain ⟨W5, hW5, hB5, hs5, hL5⟩ := newBlk w4 _ rfl #[.int .i64 T0.op, .int .i64 T0.n, .slice T0.A T0.args.length T0.c] 27; have hr5 := hr4.later hB5; have hnew5 := hnew0.later hB5)) | (go_at_call 75; refine (hOf 5 0 (some ⟨w10.heap.size, 0, none⟩) 2 2 W11).mono ?_; rintro e w12 ⟨rfl, hb12⟩; have hb1012 := hB11.trans (hb12.mono (by omega)); have hr12 := hr10.later hb1012; have hg112 := grown_trans hg1 (grown_trans hg3 (grown_trans hg4 (grown_trans (grown_below hB5) (grown_trans hg6 (grown_trans hg8 (grown_trans (grown_below hB9) (grown_trans hg10 (grown_below hb1012)))))))); have hbR12 := blk_below (blk_pb (blk_below (blk_pb (blk_pb (blk_below (blk_pb (blk_pb hblk1 hg3 (by omega)) hg4 (by omega)) hB5) hg6 (by omega)) hg8 (by omega)) hB9) hg10 (by omega)) hb1012; obtain ⟨⟨r0, r1, r2⟩, ⟨g0, g1, g2⟩, hfin⟩ := ret_rd hlt hg112 hr12 hbR12 (hnode.later hb12); simp only [MT.op, MT.n, MT.A, MT.args, MT.c, List.length_cons, List.length_nil, Nat.reduceAdd, MT.tr_mk, List.map_cons, List.map_nil] at hfin))
        obtain ⟨s0, s1⟩ := hfin _ rfl
        generalize ((w12.setCell ⟨w.heap.size, 0, none⟩ (.int .i64 5)).setCell ⟨w.heap.size, 1, none⟩ (.int .i64 0)).setCell ⟨w.heap.size, 2, none⟩ (.slice (some ⟨w10.heap.size, 0, none⟩) 2 2) = w9 at s0 s1 ⊢
        obtain ⟨t0, t1, t2⟩ := s0
        refine bodyPost_ret (v := .agg #[.int .i64 5, .int .i64 0, .slice (some ⟨w10.heap.size, 0, none⟩) 2 2]) (by simp [results, Tryd.f63, go_sem, t0, t1, t2]) rfl ?_
        rw [HF.out]

        rw [← htr0, ← htr1]
        exact s1
    rw [c_par] at hs_par
    have HF := Lib.hid (show rdC n.C.l n.R.l (f + 1) s = (.mk 0 (idxS n.C.l s).1 [], (idxS n.C.l s).2) by rw [HF0.out, c_top, c_bot, c_not, c_some, c_all, c_par]; simp)
    have hix := RIndex_any n B rb s n.C W1 h1 h1.2.1.1
    generalize (idxS n.C.l s).1 = i at HF hix
    generalize (idxS n.C.l s).2 = s2 at HF hix
    clear HF0 ih
    go_enter Tryd.func63, Tryd.ntmps63
    go_wp2_with (first | (go_at_call 88; first | (refine hs_top.mono ?_; clear hs_top; rintro e w2 ⟨rfl, rfl⟩) | (refine hs_bot.mono ?_; clear hs_bot; rintro e w2 ⟨rfl, rfl⟩) | (refine hs_not.mono ?_; clear hs_not; rintro e w2 ⟨rfl, rfl⟩) | (refine hs_some.mono ?_; clear hs_some; rintro e w2 ⟨rfl, rfl⟩) | (refine hs_all.mono ?_; clear hs_all; rintro e w2 ⟨rfl, rfl⟩) | (refine hs_par.mono ?_; clear hs_par; rintro e w2 ⟨rfl, rfl⟩)) | (go_at_call 91; refine hix.mono ?_; rintro e w3 ⟨rfl, hg3, hr3⟩; have z3 := hg3.size) | (go_at_call 75; refine (hOf 0 i none 0 0 w3).mono ?_; rintro e w4 ⟨rfl, hb4⟩; have hr4 := hr3.later hb4; have hg14 := grown_trans hg1 (grown_trans hg3 (grown_below hb4)); have hbR4 := blk_below (blk_pb hblk1 hg3 (by omega)) hb4; obtain ⟨⟨r0, r1, r2⟩, ⟨g0, g1, g2⟩, hfin⟩ := ret_rd (T := leafMT 0 i) hlt hg14 hr4 hbR4 (leaf_new _ _ _ _); simp only [leafMT, MT.op, MT.n, MT.A, MT.args, MT.c, List.length_nil] at hfin))
    obtain ⟨s0, s1⟩ := hfin _ rfl
    generalize ((w4.setCell ⟨w.heap.size, 0, none⟩ (.int .i64 0)).setCell ⟨w.heap.size, 1, none⟩ (.int .i64 i)).setCell ⟨w.heap.size, 2, none⟩ (.slice none 0 0) = w9 at s0 s1 ⊢
    obtain ⟨t0, t1, t2⟩ := s0
    refine bodyPost_ret (v := .agg #[.int .i64 0, .int .i64 i, .slice none 0 0]) (by simp [results, Tryd.f63, go_sem, t0, t1, t2]) rfl ?_
    rw [HF.out]
    exact s1

theorem RConcept_any (n : NM) (B rb : Nat) (hC : n.C.l.length ≤ 1000) (hR : n.R.l.length ≤ 1000) : ∀ (f : Nat) (s : RS), s.ts.length ≤ f → RCAt n B rb (rdC n.C.l n.R.l f s) s
  | 0, s, hl => by
    have hts : s.ts = [] := List.eq_nil_of_length_eq_zero (by omega)
    have h := rconcept_step n B rb hC hR 0 s (fun s' hs' => by rw [hts] at hs'; simp at hs')
    have he : rdC n.C.l n.R.l (0 + 1) s = rdC n.C.l n.R.l 0 s := by rw [rdC, rdC, hts]; simp
    rw [he] at h
    exact h
  | f + 1, s, hl => rconcept_step n B rb hC hR f s (fun s' hs' => RConcept_any n B rb hC hR f s' (by omega))
end Go.Proofs.YtfecjdffnklkaaaDoor