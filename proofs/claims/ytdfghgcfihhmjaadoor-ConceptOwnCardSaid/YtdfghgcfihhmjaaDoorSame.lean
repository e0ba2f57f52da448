import Derived.Test.YtdfghgcfihhmjaaDoorRef6
namespace Go.Proofs.YtdfghgcfihhmjaaDoor
open Go.RowKit

set_option maxRecDepth 100000 in
set_option maxHeartbeats 2000000 in
theorem EqualFunc_any (A A' : Option Addr) (c c' : Nat) (args args' : List MT) (w : World) (hsz : args.length ≤ 9223372036854775807) (hsz' : args'.length ≤ 9223372036854775807)
    (hr : RowAt w w.heap.size 3 A args.length (args.flatMap MT.cs)) (hrow : MT.InAll w.heap.size w args) (hr' : RowAt w w.heap.size 3 A' args'.length (args'.flatMap MT.cs)) (hrow' : MT.InAll w.heap.size w args')
    (ih : ∀ (k : Nat) (hk : k < args.length) (U : MT) (w1 : World), MT.In w1.heap.size w1 args[k] → MT.In w1.heap.size w1 U → Calls Tryd.prog 22 #[args[k].val, U.val] w1 fun e w' => e = .returned (.bool (args[k].tr.beq U.tr)) ∧ Below w1.heap.size w1 w') :
    Calls Tryd.prog 75 #[.slice A args.length c, .slice A' args'.length c', .func (.func 22) #[] #[]] w fun e w' => e = .returned (.bool (decide (args.length = args'.length) && Tr.beqs (args.map MT.tr) (args'.map MT.tr))) ∧ Below w.heap.size w w' := by
  by_cases h3 : args.length = args'.length
  · have h3' : ((args.length : Int) != (args'.length : Int)) = false := by rw [h3]; simp
    rw [decide_eq_true h3]
    simp only [Bool.true_and]
    have HL := Lib.hid h3
    clear h3
    go_enter Tryd.func75, Tryd.ntmps75
    go_wp2_with fail
    go_loopw [17] (fun i wr => ∃ k : Nat, k ≤ args.length ∧ i = .int .i64 k ∧ Tr.beqs ((args.map MT.tr).take k) ((args'.map MT.tr).take k) = true ∧ Below w.heap.size w wr) (fun i _ => args.length - (intOf i).toNat)
    case atStart => exact ⟨0, Nat.zero_le _, rfl, rfl, Below.refl _ w⟩
    case round =>
      obtain ⟨k, hk, rfl, hbe, hbw⟩ := hrel
      by_cases hlt : k < args.length
      · have hlt' : k < args'.length := by have := HL.out; omega
        obtain ⟨ab, aoff, rfl, -, g0, g1, g2⟩ := elem3 hr hbw hlt
        obtain ⟨W5, hW5, hB5, hs5, hblk5⟩ := newBlk wr _ rfl #[.int .i64 args[k].op, .int .i64 args[k].n, .slice args[k].A args[k].args.length args[k].c] 27
        have hb5 : Below w.heap.size w W5 := hbw.trans (hB5.mono hbw.size)
        obtain ⟨ab', aoff', rfl, -, g0', g1', g2'⟩ := elem3 hr' hb5 hlt'
        obtain ⟨W6, hW6, hB6, hs6, hblk6⟩ := newBlk W5 _ hs5 #[.int .i64 args'[k].op, .int .i64 args'[k].n, .slice args'[k].A args'[k].args.length args'[k].c] 27
        have hb6 : Below w.heap.size w W6 := hb5.trans (hB6.mono (by have := hb5.size; omega))
        obtain ⟨e0, e1, e2⟩ := box_cells hblk5 (hB6.mono (by omega))
        obtain ⟨q0, q1, q2⟩ := box_cells hblk6 (Below.refl _ W6)
        have hih := ih k hlt args'[k] W6 ((hrow.at_ k hlt).later hb6) ((hrow'.at_ k hlt').later hb6)
        have HT := beqs_take (args.map MT.tr) (args'.map MT.tr) k (by simpa using hlt) (by simpa using hlt') hbe
        simp only [List.getElem_map] at HT
        simp only [MT.val] at hih
        cases hwk : args[k].tr.beq args'[k].tr
        · have HN := Lib.hid (HT.2 hwk)
          rw [hwk] at hih
          clear HT hwk ih hrow hrow' hbe
          go_wp2_with (go_at_call 22; refine hih.mono ?_; clear hih; rintro e w' ⟨rfl, hb2⟩)
          go_ret
          exact ⟨ret_bool (by rw [HN.out]), hb6.trans (hb2.mono hb6.size)⟩
        · have HN := Lib.hid (HT.1.trans hwk)
          rw [hwk] at hih
          clear HT hwk ih hrow hrow' hbe
          go_wp2_with (go_at_call 22; refine hih.mono ?_; clear hih; rintro e w' ⟨rfl, hb2⟩)
          go_roundw
          case rel => exact ⟨k + 1, by omega, by go_num, HN.out, hb6.trans (hb2.mono hb6.size)⟩
          case measure => simp [intOf]; omega
      · have hk' : k = args.length := by omega
        have HN := Lib.hid (show Tr.beqs (args.map MT.tr) (args'.map MT.tr) = true by
          have h := hbe
          rw [List.take_of_length_le (by simp; omega), List.take_of_length_le (by have := HL.out; simp; omega)] at h
          exact h)
        clear hbe hk' ih hrow hrow'
        go_wp2
        go_ret
        exact ⟨ret_bool (by rw [HN.out]), hbw⟩
  · have h3' : ((args.length : Int) != (args'.length : Int)) = true := by
      rw [bne_iff_ne]; omega
    rw [decide_eq_false h3]
    go_enter Tryd.func75, Tryd.ntmps75
    go_wp2_with fail
    go_ret
    exact ⟨rfl, Below.refl _ _⟩

set_option maxRecDepth 100000 in
set_option maxHeartbeats 2000000 in
theorem cSame_any (T : MT) : ∀ (U : MT) (w : World), MT.In w.heap.size w T → MT.In w.heap.size w U →
    Calls Tryd.prog 22 #[T.val, U.val] w fun e w' => e = .returned (.bool (T.tr.beq U.tr)) ∧ Below w.heap.size w w' := by
  induction T using MT.induct with
  | h op nn A c args ih =>
    intro U w hin hU
    obtain ⟨op', nn', A', c', args'⟩ := U
    rw [MT.In] at hin hU
    obtain ⟨hlc, hc, hr, hrow⟩ := hin
    obtain ⟨hlc', hc', hr', hrow'⟩ := hU
    obtain ⟨W1, hW1, hB1, hs1, hblk1⟩ := newBlk w _ rfl #[.int .i64 op, .int .i64 nn, .slice A args.length c] 27
    obtain ⟨W2, hW2, hB2, hs2, hblk2⟩ := newBlk W1 _ hs1 #[.int .i64 op', .int .i64 nn', .slice A' args'.length c'] 27
    have hB : Below w.heap.size w W2 := hB1.trans (hB2.mono (by omega))
    have hblk12 := (hB2.block w.heap.size (by omega)).trans hblk1
    obtain ⟨a0, a1, a2⟩ := box_cells hblk12 (Below.refl _ W2)
    obtain ⟨b0, b1, b2⟩ := box_cells hblk2 (Below.refl _ W2)
    have HF := Lib.hid (show (MT.mk op nn A c args).tr.beq (MT.mk op' nn' A' c' args').tr = (op == op' && nn == nn' && (decide (args.length = args'.length) && Tr.beqs (args.map MT.tr) (args'.map MT.tr))) by rw [MT.tr_mk, MT.tr_mk, Tr.beq, List.length_map, List.length_map])
    have HBB := Lib.hid hB
    have hEq := EqualFunc_any A A' c c' args args' W2 (by omega) (by omega) (hr.below hB.size hB) (MT.InAll.of fun t ht => (hrow.mem ht).later hB) (hr'.below hB.size hB) (MT.InAll.of fun t ht => (hrow'.mem ht).later hB) ih
    simp only [MT.val, MT.op, MT.n, MT.A, MT.c, MT.args]
    rcases h1 : (op == op')
    · rw [h1] at HF
      clear hEq
      go_enter Tryd.func22, Tryd.ntmps22
      go_wp2_with fail
      go_ret
      exact ⟨ret_bool (by rw [HF.out]; rfl), HBB.out⟩
    · rw [h1] at HF
      rcases h2 : (nn == nn')
      · rw [h2] at HF
        clear hEq
        go_enter Tryd.func22, Tryd.ntmps22
        go_wp2_with fail
        go_ret
        exact ⟨ret_bool (by rw [HF.out]; rfl), HBB.out⟩
      · rw [h2] at HF
        generalize (decide (args.length = args'.length) && Tr.beqs (args.map MT.tr) (args'.map MT.tr)) = q at hEq HF
        go_enter Tryd.func22, Tryd.ntmps22
        go_wp2_with (go_at_call 75; refine hEq.mono ?_; rintro e w' ⟨rfl, hb2⟩)
        go_ret
        exact ⟨ret_bool (by rw [HF.out]; simp), HBB.out.trans (hb2.mono HBB.out.size)⟩
end Go.Proofs.YtdfghgcfihhmjaaDoor
