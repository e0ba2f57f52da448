import Derived.Test.YtndkcimajeofcaaGreatDoorG71e4b1a3b7
import Derived.Test.YtndkcimajeofcaaGreatDoorG239ec7f19c
import Derived.Test.YtndkcimajeofcaaGreatDoorG48e66c7ae0
namespace Go.Proofs.YtndkcimajeofcaaGreatDoor
open Go.RowKit

/-- Two rows of integers, apart. -/
def TwoR (base : Nat) (W : World) (v1 v2 : Value) (xs ys : List Int) : Prop :=
  W.ownsRow base 3 1 v1 xs.length (intCells xs) ∧ W.ownsRow base 3 1 v2 ys.length (intCells ys) ∧ (v1.ownBlock = none ∨ v1.ownBlock ≠ v2.ownBlock)
theorem TwoR.swap {base : Nat} {W : World} {v1 v2 : Value} {xs ys : List Int} (h : TwoR base W v1 v2 xs ys) : TwoR base W v2 v1 ys xs :=
  ⟨h.2.1, h.1, by
    rcases h.2.2 with h | h
    · by_cases e : v2.ownBlock = none
      · exact .inl e
      · exact .inr (fun e' => e (e'.trans h))
    · exact .inr (fun e => h e.symm)⟩
theorem TwoR.later {base : Nat} {W W' : World} {v1 v2 : Value} {xs ys : List Int} (h : TwoR base W v1 v2 xs ys) (hb : Below W.heap.size W W') : TwoR base W' v1 v2 xs ys :=
  ⟨owns_below h.1 hb, owns_below h.2.1 hb, h.2.2⟩
theorem TwoR.ins {base : Nat} {W W' : World} {v1 v2 v' : Value} {xs ys l : List Int} (h : TwoR base W v1 v2 xs ys) (hb : base ≤ W.heap.size) (h1 : W'.ownsRow base 3 1 v' l.length (intCells l)) (hg : W.grownBy W' v1.ownBlock) (hat : v'.ownBlock = v1.ownBlock ∨ ∃ g, v'.ownBlock = some g ∧ W.heap.size ≤ g ∧ g < W'.heap.size) :
    TwoR base W' v' v2 l ys ∧ Below base W W' := by
  refine ⟨⟨h1, owns_grown h.2.1 hg ?_, ?_⟩, (Below.refl _ _).grown hg hb (fun k e => (own_lt h.1 e).1)⟩
  · rcases h.2.2 with e | e
    · by_cases e2 : v2.ownBlock = none
      · exact .inr e2
      · exact .inl (fun e' => e2 (e'.trans e))
    · exact .inl (fun e' => e e'.symm)
  · rcases hat with e | ⟨g, e, hge, -⟩
    · rw [e]; exact h.2.2
    · refine .inr fun e' => ?_
      rw [e] at e'
      have := (own_lt h.2.1 e'.symm).2
      omega

def RetU (base : Nat) (xs ys : List Int) (w : World) (e : Ending) (w' : World) : Prop :=
  ∃ v1 v2, e = .returned (.tuple #[v1, v2]) ∧ TwoR base w' v1 v2 xs ys ∧ Below base w w'

theorem usesC_cons (x : Nat × MT) (l : List (Nat × MT)) : usesC (x :: l) = (if x.2.op == 0 then [x.2.n] else []) ++ usesC l := by
  unfold usesC; rw [List.filter_cons]; cases h : (x.2.op == 0) <;> simp
theorem usesR_cons (x : Nat × MT) (l : List (Nat × MT)) : usesR (x :: l) = (if x.2.op == 6 || x.2.op == 7 then [half x.2.n] else []) ++ usesR l := by
  unfold usesR; rw [List.filter_cons]; cases h : (x.2.op == 6 || x.2.op == 7) <;> simp
theorem usesC_app (l m : List (Nat × MT)) : usesC (l ++ m) = usesC l ++ usesC m := by unfold usesC; rw [List.filter_append, List.map_append]
theorem usesR_app (l m : List (Nat × MT)) : usesR (l ++ m) = usesR l ++ usesR m := by unfold usesR; rw [List.filter_append, List.map_append]

set_option maxRecDepth 100000 in
set_option maxHeartbeats 8000000 in
theorem rUses_any (base : Nat) (T : MT) : ∀ (lev : Nat) (v1 v2 : Value) (xs ys : List Int) (w : World), T.In base w → base ≤ w.heap.size → TwoR base w v1 v2 xs ys → xs.length + (T.pre lev).length ≤ 1000000 → ys.length + (T.pre lev).length ≤ 1000000 →
    Calls Tryz.prog 76 #[T.val, v1, v2] w (RetU base ((usesC (T.pre lev)).foldl insL xs) ((usesR (T.pre lev)).foldl insL ys) w) := by
  induction T using MT.induct with
  | h op nn A c args ih =>
    intro lev v1 v2 xs ys w hin hbw htw hlx hly
    rw [MT.pre] at hlx hly
    simp only [List.length_cons] at hlx hly
    rw [MT.In] at hin
    obtain ⟨hlc, hc, hr, hrow⟩ := hin
    have hsz : args.length ≤ 9223372036854775807 := by omega
    obtain ⟨W1, hW1, hB1, hs1, hblk1⟩ := newBlk w _ rfl #[.int .i64 op, .int .i64 nn, .slice A args.length c] 33
    have htw1 := htw.later hB1
    have hbB1 : Below base w W1 := hB1.mono hbw
    obtain ⟨a0, a1, a2⟩ := box_cells hblk1 (Below.refl _ W1)
    have HC : Hid (usesC ((MT.mk op nn A c args).pre lev) = (if op == 0 then [nn] else []) ++ usesC (MT.preAll (lev + 1) args)) := Lib.hid (by rw [MT.pre, usesC_cons]; rfl)
    have HR : Hid (usesR ((MT.mk op nn A c args).pre lev) = (if op == 6 || op == 7 then [half nn] else []) ++ usesR (MT.preAll (lev + 1) args)) := Lib.hid (by rw [MT.pre, usesR_cons]; rfl)
    have hq := fun w1 => Quantified_any op w1
    have hdisj : ∀ (W : World) (v : Value) (n : Nat) (l : List Value), W.ownsRow base 3 1 v n l → W.heap[w.heap.size]? = some (.cells #[.int .i64 op, .int .i64 nn, .slice A args.length c] 33) → some w.heap.size ≠ v.ownBlock := fun W v n l h hd e => by
      rcases h.2 with ⟨rfl, _⟩ | ⟨g, cap, cur, rfl, _, hgb, _⟩
      · cases e
      · have e' : w.heap.size = g := by simpa [Value.ownBlock] using e
        rw [← e', hd] at hgb
        cases hgb
    simp only [MT.val, MT.op, MT.n, MT.A, MT.c, MT.args]
    rcases k0 : (op == 0)
    · rcases kq : (op == 6 || op == 7)
      · rw [k0] at HC
        rw [kq] at HR hq
        simp only [Bool.false_eq_true, if_false, List.nil_append] at HC HR
        clear kq
        go_enter Tryz.func76, Tryz.ntmps76
        go_wp2_with (go_at_call 81; refine (hq _).mono ?_; rintro e w' ⟨rfl, rfl⟩)
        go_loopw [1, 2, 28] (fun u1 u2 i wr => ∃ (k : Nat), k ≤ args.length ∧ i = .int .i64 k ∧ TwoR base wr u1 u2 ((usesC (MT.preAll (lev + 1) (args.take k))).foldl insL xs) ((usesR (MT.preAll (lev + 1) (args.take k))).foldl insL ys) ∧ Below base w wr) (fun _ _ i _ => args.length - (intOf i).toNat)
        case atStart => exact ⟨0, Nat.zero_le _, rfl, htw1, hbB1⟩
        case round =>
          obtain ⟨k, hk, rfl, htk, hbk⟩ := hrel
          have hszk := hbk.size
          by_cases hlt : k < args.length
          · obtain ⟨ab, aoff, rfl, -, g0, g1, g2⟩ := elem3 hr hbk hlt
            obtain ⟨W3, hW3, hB3, hs3, hblk3⟩ := newBlk wr _ rfl #[.int .i64 args[k].op, .int .i64 args[k].n, .slice args[k].A args[k].args.length args[k].c] 33
            obtain ⟨b0, b1, b2⟩ := box_cells hblk3 (Below.refl _ W3)
            have hsp := congrArg List.length (MT.preAll_split (lev + 1) args k hlt)
            simp only [List.length_append] at hsp
            have l1 := fold_len (usesC (MT.preAll (lev + 1) (args.take k))) xs
            have l2 := fold_len (usesR (MT.preAll (lev + 1) (args.take k))) ys
            have l3 := usesC_len (MT.preAll (lev + 1) (args.take k))
            have l4 := usesR_len (MT.preAll (lev + 1) (args.take k))
            have HX := Lib.hid (show (usesC (MT.preAll (lev + 1) (args.take (k + 1)))).foldl insL xs = (usesC (MT.pre (lev + 1) args[k])).foldl insL ((usesC (MT.preAll (lev + 1) (args.take k))).foldl insL xs) by rw [MT.preAll_take _ _ _ hlt, usesC_app, List.foldl_append])
            have HY := Lib.hid (show (usesR (MT.preAll (lev + 1) (args.take (k + 1)))).foldl insL ys = (usesR (MT.pre (lev + 1) args[k])).foldl insL ((usesR (MT.preAll (lev + 1) (args.take k))).foldl insL ys) by rw [MT.preAll_take _ _ _ hlt, usesR_app, List.foldl_append])
            generalize (usesC (MT.preAll (lev + 1) (args.take k))).foldl insL xs = xk at htk l1 HX
            generalize (usesR (MT.preAll (lev + 1) (args.take k))).foldl insL ys = yk at htk l2 HY
            have hih := ih k hlt (lev + 1) u1 u2 xk yk W3 ((hrow.at_ k hlt).below (hbk.trans (hB3.mono (by omega)))) (by omega) (htk.later hB3) (by omega) (by omega)
            simp only [MT.val] at hih
            have HBK := Lib.hid (hbk.trans (hB3.mono (by omega)))
            clear l1 l2 l3 l4 hsp htk hbk
            go_wp2_with (go_at_call 76; refine hih.mono ?_; clear hih; rintro e w4 ⟨v1', v2', rfl, htw4, hb4⟩)
            go_roundw
            case rel => exact ⟨k + 1, by omega, by go_num, by rw [HX.out, HY.out]; exact htw4, HBK.out.trans hb4⟩
            case measure => simp [intOf]; omega
          · have HE1 : Hid (args.take k = args) := Lib.hid (List.take_of_length_le (by omega))
            rw [HE1.out] at htk
            go_wp2
            go_ret2
            exact ⟨_, _, rfl, by rw [HC.out, HR.out]; exact htk, hbk⟩
      · rw [k0] at HC
        rw [kq] at HR hq
        simp only [Bool.false_eq_true, if_false, if_true, List.nil_append, List.singleton_append] at HC HR
        clear kq
        have hin2 := Insert_any v2 ys (half nn) W1 htw1.2.1 (by omega) (by omega)
        have hil := insL_len ys (half nn)
        go_enter Tryz.func76, Tryz.ntmps76
        go_wp2_with (first | (go_at_call 81; refine (hq _).mono ?_; rintro e w' ⟨rfl, rfl⟩) | (go_at_call 58; refine hin2.mono ?_; rintro e w2 ⟨v', rfl, ho2, hg2, hat2⟩; obtain ⟨tw2, tb2⟩ := htw1.swap.ins (by omega) ho2 hg2 hat2; have hblk2 := (hg2.block w.heap.size (by omega) (hdisj _ _ _ _ htw1.2.1 hblk1)).trans hblk1; obtain ⟨d0, d1, d2⟩ := box_cells hblk2 (Below.refl _ w2)))
        go_loopw [1, 2, 28] (fun u1 u2 i wr => ∃ (k : Nat), k ≤ args.length ∧ i = .int .i64 k ∧ TwoR base wr u1 u2 ((usesC (MT.preAll (lev + 1) (args.take k))).foldl insL xs) ((usesR (MT.preAll (lev + 1) (args.take k))).foldl insL (insL ys (half nn))) ∧ Below base w wr) (fun _ _ i _ => args.length - (intOf i).toNat)
        case atStart => exact ⟨0, Nat.zero_le _, rfl, tw2.swap, hbB1.trans tb2⟩
        case round =>
          obtain ⟨k, hk, rfl, htk, hbk⟩ := hrel
          have hszk := hbk.size
          by_cases hlt : k < args.length
          · obtain ⟨ab, aoff, rfl, -, g0, g1, g2⟩ := elem3 hr hbk hlt
            obtain ⟨W3, hW3, hB3, hs3, hblk3⟩ := newBlk wr _ rfl #[.int .i64 args[k].op, .int .i64 args[k].n, .slice args[k].A args[k].args.length args[k].c] 33
            obtain ⟨b0, b1, b2⟩ := box_cells hblk3 (Below.refl _ W3)
            have hsp := congrArg List.length (MT.preAll_split (lev + 1) args k hlt)
            simp only [List.length_append] at hsp
            have l1 := fold_len (usesC (MT.preAll (lev + 1) (args.take k))) xs
            have l2 := fold_len (usesR (MT.preAll (lev + 1) (args.take k))) (insL ys (half nn))
            have l3 := usesC_len (MT.preAll (lev + 1) (args.take k))
            have l4 := usesR_len (MT.preAll (lev + 1) (args.take k))
            have HX := Lib.hid (show (usesC (MT.preAll (lev + 1) (args.take (k + 1)))).foldl insL xs = (usesC (MT.pre (lev + 1) args[k])).foldl insL ((usesC (MT.preAll (lev + 1) (args.take k))).foldl insL xs) by rw [MT.preAll_take _ _ _ hlt, usesC_app, List.foldl_append])
            have HY := Lib.hid (show (usesR (MT.preAll (lev + 1) (args.take (k + 1)))).foldl insL (insL ys (half nn)) = (usesR (MT.pre (lev + 1) args[k])).foldl insL ((usesR (MT.preAll (lev + 1) (args.take k))).foldl insL (insL ys (half nn))) by rw [MT.preAll_take _ _ _ hlt, usesR_app, List.foldl_append])
            generalize (usesC (MT.preAll (lev + 1) (args.take k))).foldl insL xs = xk at htk l1 HX
            generalize (usesR (MT.preAll (lev + 1) (args.take k))).foldl insL (insL ys (half nn)) = yk at htk l2 HY
            have hih := ih k hlt (lev + 1) u1 u2 xk yk W3 ((hrow.at_ k hlt).below (hbk.trans (hB3.mono (by omega)))) (by omega) (htk.later hB3) (by omega) (by omega)
            simp only [MT.val] at hih
            have HBK := Lib.hid (hbk.trans (hB3.mono (by omega)))
            clear l1 l2 l3 l4 hsp htk hbk
            go_wp2_with (go_at_call 76; refine hih.mono ?_; clear hih; rintro e w4 ⟨v1', v2', rfl, htw4, hb4⟩)
            go_roundw
            case rel => exact ⟨k + 1, by omega, by go_num, by rw [HX.out, HY.out]; exact htw4, HBK.out.trans hb4⟩
            case measure => simp [intOf]; omega
          · have HE1 : Hid (args.take k = args) := Lib.hid (List.take_of_length_le (by omega))
            rw [HE1.out] at htk
            go_wp2
            go_ret2
            exact ⟨_, _, rfl, by rw [HC.out, HR.out]; exact htk, hbk⟩
    · have kq : (op == 6 || op == 7) = false := by rw [beq_iff_eq.1 k0]; rfl
      rw [k0] at HC
      rw [kq] at HR hq
      simp only [Bool.false_eq_true, if_false, if_true, List.nil_append, List.singleton_append] at HC HR
      clear kq
      have hin1 := Insert_any v1 xs nn W1 htw1.1 (by omega) (by omega)
      have hil := insL_len xs nn
      go_enter Tryz.func76, Tryz.ntmps76
      go_wp2_with (first | (go_at_call 81; refine (hq _).mono ?_; rintro e w' ⟨rfl, rfl⟩) | (go_at_call 58; refine hin1.mono ?_; rintro e w2 ⟨v', rfl, ho2, hg2, hat2⟩; obtain ⟨tw2, tb2⟩ := htw1.ins (by omega) ho2 hg2 hat2; have hblk2 := (hg2.block w.heap.size (by omega) (hdisj _ _ _ _ htw1.1 hblk1)).trans hblk1; obtain ⟨d0, d1, d2⟩ := box_cells hblk2 (Below.refl _ w2)))
      go_loopw [1, 2, 28] (fun u1 u2 i wr => ∃ (k : Nat), k ≤ args.length ∧ i = .int .i64 k ∧ TwoR base wr u1 u2 ((usesC (MT.preAll (lev + 1) (args.take k))).foldl insL (insL xs nn)) ((usesR (MT.preAll (lev + 1) (args.take k))).foldl insL ys) ∧ Below base w wr) (fun _ _ i _ => args.length - (intOf i).toNat)
      case atStart => exact ⟨0, Nat.zero_le _, rfl, tw2, hbB1.trans tb2⟩
      case round =>
        obtain ⟨k, hk, rfl, htk, hbk⟩ := hrel
        have hszk := hbk.size
        by_cases hlt : k < args.length
        · obtain ⟨ab, aoff, rfl, -, g0, g1, g2⟩ := elem3 hr hbk hlt
          obtain ⟨W3, hW3, hB3, hs3, hblk3⟩ := newBlk wr _ rfl #[.int .i64 args[k].op, .int .i64 args[k].n, .slice args[k].A args[k].args.length args[k].c] 33
          obtain ⟨b0, b1, b2⟩ := box_cells hblk3 (Below.refl _ W3)
          have hsp := congrArg List.length (MT.preAll_split (lev + 1) args k hlt)
          simp only [List.length_append] at hsp
          have l1 := fold_len (usesC (MT.preAll (lev + 1) (args.take k))) (insL xs nn)
          have l2 := fold_len (usesR (MT.preAll (lev + 1) (args.take k))) ys
          have l3 := usesC_len (MT.preAll (lev + 1) (args.take k))
          have l4 := usesR_len (MT.preAll (lev + 1) (args.take k))
          have HX := Lib.hid (show (usesC (MT.preAll (lev + 1) (args.take (k + 1)))).foldl insL (insL xs nn) = (usesC (MT.pre (lev + 1) args[k])).foldl insL ((usesC (MT.preAll (lev + 1) (args.take k))).foldl insL (insL xs nn)) by rw [MT.preAll_take _ _ _ hlt, usesC_app, List.foldl_append])
          have HY := Lib.hid (show (usesR (MT.preAll (lev + 1) (args.take (k + 1)))).foldl insL ys = (usesR (MT.pre (lev + 1) args[k])).foldl insL ((usesR (MT.preAll (lev + 1) (args.take k))).foldl insL ys) by rw [MT.preAll_take _ _ _ hlt, usesR_app, List.foldl_append])
          generalize (usesC (MT.preAll (lev + 1) (args.take k))).foldl insL (insL xs nn) = xk at htk l1 HX
          generalize (usesR (MT.preAll (lev + 1) (args.take k))).foldl insL ys = yk at htk l2 HY
          have hih := ih k hlt (lev + 1) u1 u2 xk yk W3 ((hrow.at_ k hlt).below (hbk.trans (hB3.mono (by omega)))) (by omega) (htk.later hB3) (by omega) (by omega)
          simp only [MT.val] at hih
          have HBK := Lib.hid (hbk.trans (hB3.mono (by omega)))
          clear l1 l2 l3 l4 hsp htk hbk
          go_wp2_with (go_at_call 76; refine hih.mono ?_; clear hih; rintro e w4 ⟨v1', v2', rfl, htw4, hb4⟩)
          go_roundw
          case rel => exact ⟨k + 1, by omega, by go_num, by rw [HX.out, HY.out]; exact htw4, HBK.out.trans hb4⟩
          case measure => simp [intOf]; omega
        · have HE1 : Hid (args.take k = args) := Lib.hid (List.take_of_length_le (by omega))
          rw [HE1.out] at htk
          go_wp2
          go_ret2
          exact ⟨_, _, rfl, by rw [HC.out, HR.out]; exact htk, hbk⟩
end Go.Proofs.YtndkcimajeofcaaGreatDoor
