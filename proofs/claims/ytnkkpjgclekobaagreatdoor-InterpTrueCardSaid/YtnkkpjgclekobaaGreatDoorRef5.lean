import Derived.Test.YtnkkpjgclekobaaGreatDoorRef4
namespace Go.Proofs.YtnkkpjgclekobaaGreatDoor
open Go.RowKit

mutual
def Tr.wfT (C R : Nat) : Tr → Bool
  | .mk op n args => wfB C R op n args.length && Tr.wfTs C R args
def Tr.wfTs (C R : Nat) : List Tr → Bool
  | [] => true
  | t :: ts => Tr.wfT C R t && Tr.wfTs C R ts
end
theorem okT_split (C R : Nat) (t : Tr) : ∀ lev, Tr.okT C R lev t = (t.wfT C R && decide (t.depth + lev ≤ 21)) :=
  Tr.rec (motive_1 := fun t => ∀ lev, Tr.okT C R lev t = (t.wfT C R && decide (t.depth + lev ≤ 21))) (motive_2 := fun l => ∀ lev, lev ≤ 21 → Tr.okTs C R lev l = (Tr.wfTs C R l && decide (Tr.depths l + lev ≤ 21)))
    (fun op n args ih lev => by
      rw [Tr.okT, Tr.wfT, Tr.depth]
      by_cases h : lev ≤ 20
      · rw [ih _ (by omega), decide_eq_true h, Bool.true_and, Bool.and_assoc]
        congr 2
        rw [decide_eq_decide]; omega
      · rw [decide_eq_false h, decide_eq_false (by omega), Bool.and_false, Bool.false_and, Bool.false_and])
    (fun lev h => by rw [Tr.okTs, Tr.wfTs, Tr.depths, decide_eq_true (by omega)]; rfl)
    (fun t ts h1 h2 lev h => by
      rw [Tr.okTs, Tr.wfTs, Tr.depths, h1, h2 _ h]
      by_cases a : t.depth + lev ≤ 21 <;> by_cases b : Tr.depths ts + lev ≤ 21
      · rw [decide_eq_true a, decide_eq_true b, decide_eq_true (by omega)]; simp
      · rw [decide_eq_true a, decide_eq_false b, decide_eq_false (by omega)]; simp
      · rw [decide_eq_false a, decide_eq_true b, decide_eq_false (by omega)]; simp
      · rw [decide_eq_false a, decide_eq_false b, decide_eq_false (by omega)]; simp) t
theorem validT_split (C R : Nat) (t : Tr) : validT C R t = (smallB t && t.wfT C R) := by
  rw [validT, okT_split, smallB, Bool.and_assoc, Bool.and_comm (t.wfT C R)]
  congr 2
  rw [decide_eq_decide]; omega

/-- The node's own test, as the reference makes it. -/
theorem wfB_eq (C R : Nat) (op n : Int) (len : Nat) : wfB C R op n len = (rArity op == (len : Int) && decide (0 ≤ n) && (if op = 0 then decide (n < C) else if op = 6 ∨ op = 7 then decide (n < 2 * (R : Int)) else n == 0)) := by
  unfold wfB rArity arityF choicesF
  by_cases h0 : 0 ≤ op ∧ op < 8
  · rcases (show op = 0 ∨ op = 1 ∨ op = 2 ∨ op = 3 ∨ op = 4 ∨ op = 5 ∨ op = 6 ∨ op = 7 by omega) with rfl | rfl | rfl | rfl | rfl | rfl | rfl | rfl
    all_goals
      refine Bool.eq_iff_iff.2 ?_
      simp
      try omega
  · have : (decide (0 ≤ op) && (decide (op < 8) && ((len : Int) == (if op = 3 ∨ op = 6 ∨ op = 7 then (1 : Int) else if op = 4 ∨ op = 5 then 2 else 0) && (decide (0 ≤ n) && decide (n < if op = 0 then (C : Int) else if op = 6 ∨ op = 7 then 2 * (R : Int) else 1))))) = false := by
      by_cases a : 0 ≤ op
      · rw [decide_eq_false (show ¬ op < 8 by omega)]; simp
      · rw [decide_eq_false a]; simp
    rw [this, if_neg (by omega), if_neg (by omega), if_neg (by omega)]
    have : ((-1 : Int) == (len : Int)) = false := by
      rw [beq_eq_false_iff_ne]; omega
    rw [this]; simp

theorem wfTs_take {C R : Nat} (args : List MT) (k : Nat) (hk : k < args.length) (h : Tr.wfTs C R ((args.take k).map MT.tr) = true) : Tr.wfTs C R ((args.take (k + 1)).map MT.tr) = args[k].tr.wfT C R ∧ (args[k].tr.wfT C R = false → Tr.wfTs C R (args.map MT.tr) = false) := by
  have sa : ∀ l (t : Tr), Tr.wfTs C R (l ++ [t]) = (Tr.wfTs C R l && t.wfT C R) := by
    intro l t
    induction l with
    | nil => simp [Tr.wfTs]
    | cons x l ih => simp only [List.cons_append, Tr.wfTs, ih, Bool.and_assoc]
  have sb : ∀ l m, Tr.wfTs C R (l ++ m) = (Tr.wfTs C R l && Tr.wfTs C R m) := by
    intro l m
    induction l with
    | nil => simp [Tr.wfTs]
    | cons x l ih => simp only [List.cons_append, Tr.wfTs, ih, Bool.and_assoc]
  have e : (args.take (k + 1)).map MT.tr = (args.take k).map MT.tr ++ [args[k].tr] := by rw [List.take_succ_eq_append_getElem hk, List.map_append, List.map_singleton]
  refine ⟨by rw [e, sa, h, Bool.true_and], fun hf => ?_⟩
  have e2 : args.map MT.tr = (args.take k).map MT.tr ++ [args[k].tr] ++ (args.drop (k + 1)).map MT.tr := by
    rw [← e, ← List.map_append, List.take_append_drop]
  rw [e2, sb, sa, hf, Bool.and_false, Bool.false_and]

set_option maxRecDepth 100000 in
set_option maxHeartbeats 2000000 in
theorem shaped_any (n : NM) (hC : n.C.l.length ≤ 1000) (hR : n.R.l.length ≤ 1000) (T : MT) : ∀ (w : World), n.In w.heap.size w → MT.In w.heap.size w T →
    Calls Tryz.prog 95 #[n.val, T.val] w fun e w' => e = .returned (.bool (T.tr.wfT n.C.l.length n.R.l.length)) ∧ Below w.heap.size w w' := by
  induction T using MT.induct with
  | h op nn A c args ih =>
    intro w hn hin
    rw [MT.In] at hin
    obtain ⟨hlc, hc, hr, hrow⟩ := hin
    have hsz : args.length ≤ 9223372036854775807 := by omega
    obtain ⟨W1, hW1, hB1, hs1, hblk1⟩ := newBlk w _ rfl #[.slice n.C.A n.C.l.length n.C.c, .slice n.R.A n.R.l.length n.R.c, .slice n.I.A n.I.l.length n.I.c] 24
    obtain ⟨W2, hW2, hB2, hs2, hblk2⟩ := newBlk W1 _ hs1 #[.int .i64 op, .int .i64 nn, .slice A args.length c] 54
    have hB : Below w.heap.size w W2 := hB1.trans (hB2.mono (by omega))
    have hblk12 := (hB2.block w.heap.size (by omega)).trans hblk1
    obtain ⟨a0, a1, a2⟩ := box_cells hblk12 (Below.refl _ W2)
    obtain ⟨b0, b1, b2⟩ := box_cells hblk2 (Below.refl _ W2)
    have HF := Lib.hid (show (MT.mk op nn A c args).tr.wfT n.C.l.length n.R.l.length = (wfB n.C.l.length n.R.l.length op nn args.length && Tr.wfTs n.C.l.length n.R.l.length (args.map MT.tr)) by rw [MT.tr_mk, Tr.wfT, List.length_map])
    have HW := Lib.hid (wfB_eq n.C.l.length n.R.l.length op nn args.length)
    simp only [NM.val, MT.val, MT.op, MT.n, MT.A, MT.c, MT.args]
    have hwq : ∀ q, W2.drewN q = W2.drewN q := fun _ => rfl
    rcases ha : (rArity op == (args.length : Int))
    · have ha' : (rArity op != (args.length : Int)) = true := by rw [bne, ha]; rfl
      have HR := Lib.hid (show (MT.mk op nn A c args).tr.wfT n.C.l.length n.R.l.length = false by rw [HF.out, HW.out, ha]; rfl)
      have HBB := Lib.hid hB
      clear ha HF HW hB
      go_enter Tryz.func95, Tryz.ntmps95
      go_wp2_with fail
      go_quiet (first | (go_at_call 137; exact Calls.quiet_of_same ((Arity_any op _).mono fun e w' h => ⟨h.1, h.2.symm⟩)))
      go_wp2
      go_ret
      exact ⟨ret_bool HR.out.symm, below_drewN HBB.out _⟩
    · have ha' : (rArity op != (args.length : Int)) = false := by rw [bne, ha]; rfl
      by_cases h0 : nn < 0
      · have HR := Lib.hid (show (MT.mk op nn A c args).tr.wfT n.C.l.length n.R.l.length = false by rw [HF.out, HW.out, decide_eq_false (show ¬ 0 ≤ nn by omega)]; simp)
        have HBB := Lib.hid hB
        clear ha HF HW hB
        go_enter Tryz.func95, Tryz.ntmps95
        go_wp2_with fail
        go_quiet (first | (go_at_call 137; exact Calls.quiet_of_same ((Arity_any op _).mono fun e w' h => ⟨h.1, h.2.symm⟩)))
        go_wp2
        go_ret
        exact ⟨ret_bool HR.out.symm, below_drewN HBB.out _⟩
      · have HBB := Lib.hid hB
        have HF2 := Lib.hid (show (MT.mk op nn A c args).tr.wfT n.C.l.length n.R.l.length = ((if op = 0 then decide (nn < n.C.l.length) else if op = 6 ∨ op = 7 then decide (nn < 2 * (n.R.l.length : Int)) else nn == 0) && Tr.wfTs n.C.l.length n.R.l.length (args.map MT.tr)) by rw [HF.out, HW.out, ha, decide_eq_true (show 0 ≤ nn by omega)]; simp)
        have ha0 : op = 0 → args = [] := fun h => by
          subst h
          have : rArity 0 = (args.length : Int) := by simpa using ha
          exact List.eq_nil_of_length_eq_zero (by simp [rArity] at this; omega)
        clear ha HF HW hB hwq
        have h0' : decide (nn < 0) = false := decide_eq_false h0
        rcases hz : (op == 0)
        · have hz' : ¬ op = 0 := by simpa using hz
          rcases hq : (op == 6 || op == 7)
          · have hq' : ¬ (op = 6 ∨ op = 7) := by
              intro h
              have : (op == 6 || op == 7) = true := by simpa using h
              rw [hq] at this; cases this
            have HF3 := Lib.hid (show (MT.mk op nn A c args).tr.wfT n.C.l.length n.R.l.length = (nn == 0 && Tr.wfTs n.C.l.length n.R.l.length (args.map MT.tr)) by rw [HF2.out, if_neg hz', if_neg hq'])
            clear HF2 hz' hq' ha0
            rcases hn0 : (nn == 0)
            · have hn0' : (nn != 0) = true := by rw [bne, hn0]; rfl
              rw [hn0] at HF3
              clear hn0
              go_enter Tryz.func95, Tryz.ntmps95
              go_wp2_with fail
              go_quiet (first | (go_at_call 137; exact Calls.quiet_of_same ((Arity_any op _).mono fun e w' h => ⟨h.1, h.2.symm⟩)))
              go_wp2_with (first | (go_at_call 81; refine (Quantified_any op _).mono ?_; rintro e w' ⟨rfl, rfl⟩))
              go_ret
              exact ⟨ret_bool (by rw [HF3.out]; rfl), below_drewN HBB.out _⟩
            · have hn0' : (nn != 0) = false := by rw [bne, hn0]; rfl
              rw [hn0, Bool.true_and] at HF3
              clear hn0
              go_enter Tryz.func95, Tryz.ntmps95
              go_wp2_with fail
              go_quiet (first | (go_at_call 137; exact Calls.quiet_of_same ((Arity_any op _).mono fun e w' h => ⟨h.1, h.2.symm⟩)))
              go_wp2_with (first | (go_at_call 81; refine (Quantified_any op _).mono ?_; rintro e w' ⟨rfl, rfl⟩))
              go_loopw [47] (fun i wr => ∃ k : Nat, k ≤ args.length ∧ i = .int .i64 k ∧ Tr.wfTs n.C.l.length n.R.l.length ((args.take k).map MT.tr) = true ∧ Below W2.heap.size W2 wr) (fun i _ => args.length - (intOf i).toNat)
              case atStart => exact ⟨0, Nat.zero_le _, rfl, rfl, below_drewN (Below.refl _ W2) _⟩
              case round =>
                obtain ⟨k, hk, rfl, hwf, hbw⟩ := hrel
                have hb0 : Below w.heap.size w wr := HBB.out.trans (hbw.mono HBB.out.size)
                obtain ⟨m0, m1, m2⟩ := box_cells hblk12 hbw
                obtain ⟨q0, q1, q2⟩ := box_cells hblk2 hbw
                by_cases hlt : k < args.length
                · obtain ⟨ab, aoff, rfl, -, g0, g1, g2⟩ := elem3 hr hb0 hlt
                  obtain ⟨W5, hW5, hB5, hs5, hblk5⟩ := newBlk wr _ rfl #[.int .i64 args[k].op, .int .i64 args[k].n, .slice args[k].A args[k].args.length args[k].c] 54
                  have hb5 : Below w.heap.size w W5 := hb0.trans (hB5.mono hb0.size)
                  have hb25 : Below W2.heap.size W2 W5 := hbw.trans (hB5.mono hbw.size)
                  obtain ⟨o0, o1, o2⟩ := box_cells hblk12 hb25
                  obtain ⟨e0, e1, e2⟩ := box_cells hblk5 (Below.refl _ W5)
                  have hih := ih k hlt W5 (hn.later hb5) ((hrow.at_ k hlt).later hb5)
                  have HT := wfTs_take args k hlt hwf
                  simp only [NM.val, MT.val] at hih
                  cases hwk : args[k].tr.wfT n.C.l.length n.R.l.length
                  · have HN := Lib.hid (HT.2 hwk)
                    rw [hwk] at hih
                    clear HT hwk ih hrow
                    go_wp2_with (go_at_call 95; refine hih.mono ?_; clear hih; rintro e w' ⟨rfl, hb2⟩)
                    go_ret
                    exact ⟨ret_bool (by rw [HF3.out, HN.out]), hb5.trans (hb2.mono hb5.size)⟩
                  · have HN := Lib.hid (HT.1.trans hwk)
                    rw [hwk] at hih
                    clear HT hwk ih hrow
                    go_wp2_with (go_at_call 95; refine hih.mono ?_; clear hih; rintro e w' ⟨rfl, hb2⟩)
                    go_roundw
                    case rel => exact ⟨k + 1, by omega, by go_num, HN.out, hb25.trans (hb2.mono hb25.size)⟩
                    case measure => simp [intOf]; omega
                · have hk' : k = args.length := by omega
                  subst hk'
                  have HN := Lib.hid hwf
                  clear hwf
                  go_wp2
                  go_ret
                  exact ⟨ret_bool (by rw [HF3.out, ← List.take_length (l := args), HN.out]), hb0⟩
          · have hq' : op = 6 ∨ op = 7 := by simpa using hq
            have HF3 := Lib.hid (show (MT.mk op nn A c args).tr.wfT n.C.l.length n.R.l.length = (decide (nn < 2 * (n.R.l.length : Int)) && Tr.wfTs n.C.l.length n.R.l.length (args.map MT.tr)) by rw [HF2.out, if_neg hz', if_pos hq'])
            clear HF2 hz' hq' ha0
            by_cases hn0 : nn < 2 * (n.R.l.length : Int)
            · have hn1 : decide (2 * (n.R.l.length : Int) ≤ nn) = false := decide_eq_false (by omega)
              rw [decide_eq_true hn0, Bool.true_and] at HF3
              go_enter Tryz.func95, Tryz.ntmps95
              go_wp2_with fail
              go_quiet (first | (go_at_call 137; exact Calls.quiet_of_same ((Arity_any op _).mono fun e w' h => ⟨h.1, h.2.symm⟩)))
              go_wp2_with (first | (go_at_call 81; refine (Quantified_any op _).mono ?_; rintro e w' ⟨rfl, rfl⟩))
              go_loopw [47] (fun i wr => ∃ k : Nat, k ≤ args.length ∧ i = .int .i64 k ∧ Tr.wfTs n.C.l.length n.R.l.length ((args.take k).map MT.tr) = true ∧ Below W2.heap.size W2 wr) (fun i _ => args.length - (intOf i).toNat)
              case atStart => exact ⟨0, Nat.zero_le _, rfl, rfl, below_drewN (Below.refl _ W2) _⟩
              case round =>
                obtain ⟨k, hk, rfl, hwf, hbw⟩ := hrel
                have hb0 : Below w.heap.size w wr := HBB.out.trans (hbw.mono HBB.out.size)
                obtain ⟨m0, m1, m2⟩ := box_cells hblk12 hbw
                obtain ⟨q0, q1, q2⟩ := box_cells hblk2 hbw
                by_cases hlt : k < args.length
                · obtain ⟨ab, aoff, rfl, -, g0, g1, g2⟩ := elem3 hr hb0 hlt
                  obtain ⟨W5, hW5, hB5, hs5, hblk5⟩ := newBlk wr _ rfl #[.int .i64 args[k].op, .int .i64 args[k].n, .slice args[k].A args[k].args.length args[k].c] 54
                  have hb5 : Below w.heap.size w W5 := hb0.trans (hB5.mono hb0.size)
                  have hb25 : Below W2.heap.size W2 W5 := hbw.trans (hB5.mono hbw.size)
                  obtain ⟨o0, o1, o2⟩ := box_cells hblk12 hb25
                  obtain ⟨e0, e1, e2⟩ := box_cells hblk5 (Below.refl _ W5)
                  have hih := ih k hlt W5 (hn.later hb5) ((hrow.at_ k hlt).later hb5)
                  have HT := wfTs_take args k hlt hwf
                  simp only [NM.val, MT.val] at hih
                  cases hwk : args[k].tr.wfT n.C.l.length n.R.l.length
                  · have HN := Lib.hid (HT.2 hwk)
                    rw [hwk] at hih
                    clear HT hwk ih hrow
                    go_wp2_with (go_at_call 95; refine hih.mono ?_; clear hih; rintro e w' ⟨rfl, hb2⟩)
                    go_ret
                    exact ⟨ret_bool (by rw [HF3.out, HN.out]), hb5.trans (hb2.mono hb5.size)⟩
                  · have HN := Lib.hid (HT.1.trans hwk)
                    rw [hwk] at hih
                    clear HT hwk ih hrow
                    go_wp2_with (go_at_call 95; refine hih.mono ?_; clear hih; rintro e w' ⟨rfl, hb2⟩)
                    go_roundw
                    case rel => exact ⟨k + 1, by omega, by go_num, HN.out, hb25.trans (hb2.mono hb25.size)⟩
                    case measure => simp [intOf]; omega
                · have hk' : k = args.length := by omega
                  subst hk'
                  have HN := Lib.hid hwf
                  clear hwf
                  go_wp2
                  go_ret
                  exact ⟨ret_bool (by rw [HF3.out, ← List.take_length (l := args), HN.out]), hb0⟩
            · have hn1 : decide (2 * (n.R.l.length : Int) ≤ nn) = true := decide_eq_true (by omega)
              rw [decide_eq_false hn0, Bool.false_and] at HF3
              go_enter Tryz.func95, Tryz.ntmps95
              go_wp2_with fail
              go_quiet (first | (go_at_call 137; exact Calls.quiet_of_same ((Arity_any op _).mono fun e w' h => ⟨h.1, h.2.symm⟩)))
              go_wp2_with (first | (go_at_call 81; refine (Quantified_any op _).mono ?_; rintro e w' ⟨rfl, rfl⟩))
              go_ret
              exact ⟨ret_bool HF3.out.symm, below_drewN HBB.out _⟩
        · have hop : op = 0 := by simpa using hz
          have hargs := ha0 hop
          have HF3 := Lib.hid (show (MT.mk op nn A c args).tr.wfT n.C.l.length n.R.l.length = decide (nn < n.C.l.length) by rw [HF2.out, if_pos hop, hargs]; simp [Tr.wfTs])
          clear HF2 ih hrow hop hargs ha0
          go_enter Tryz.func95, Tryz.ntmps95
          go_wp2_with fail
          go_quiet (first | (go_at_call 137; exact Calls.quiet_of_same ((Arity_any op _).mono fun e w' h => ⟨h.1, h.2.symm⟩)))
          go_wp2
          go_ret
          exact ⟨ret_bool HF3.out.symm, below_drewN HBB.out _⟩
end Go.Proofs.YtnkkpjgclekobaaGreatDoor
