import Derived.Test.YtnkkpjgclekobaaDoorRef5
import Derived.StillTailTactics
import Derived.Deep.QuietTactic
import Derived.Deep.RegionHeld3
namespace Go.Proofs.YtnkkpjgclekobaaDoor
open Go.RowKit

mutual
/-- Two trees are one. -/
def Tr.beq : Tr → Tr → Bool
  | .mk op n args, .mk op' n' args' => op == op' && n == n' && (decide (args.length = args'.length) && Tr.beqs args args')
def Tr.beqs : List Tr → List Tr → Bool
  | t :: ts, u :: us => Tr.beq t u && Tr.beqs ts us
  | [], _ => true
  | _ :: _, [] => true
end
theorem beqs_take : ∀ (l m : List Tr) (k : Nat) (hk : k < l.length) (hk' : k < m.length), Tr.beqs (l.take k) (m.take k) = true → Tr.beqs (l.take (k + 1)) (m.take (k + 1)) = l[k].beq m[k] ∧ (l[k].beq m[k] = false → Tr.beqs l m = false)
  | a :: l, b :: m, 0, _, _, _ => by
    refine ⟨by simp [Tr.beqs], fun h => ?_⟩
    simp only [List.getElem_cons_zero] at h
    rw [Tr.beqs, h, Bool.false_and]
  | a :: l, b :: m, k + 1, hk, hk', h => by
    simp only [List.take_succ_cons, Tr.beqs, Bool.and_eq_true] at h ⊢
    obtain ⟨i1, i2⟩ := beqs_take l m k (by simpa using hk) (by simpa using hk') h.2
    simp only [List.getElem_cons_succ]
    exact ⟨by rw [i1, h.1, Bool.true_and], fun hf => by rw [i2 hf, Bool.and_false]⟩
theorem beq_self (t : Tr) : t.beq t = true :=
  Tr.rec (motive_1 := fun t => t.beq t = true) (motive_2 := fun l => Tr.beqs l l = true)
    (fun op n args ih => by rw [Tr.beq, ih]; simp) (by rw [Tr.beqs]) (fun t ts h1 h2 => by rw [Tr.beqs, h1, h2]; rfl) t

set_option maxRecDepth 100000 in
set_option maxHeartbeats 2000000 in
theorem rSame_any (T : MT) : ∀ (U : MT) (w : World), MT.In w.heap.size w T → MT.In w.heap.size w U →
    Calls Tryd.prog 19 #[T.val, U.val] w fun e w' => e = .returned (.bool (T.tr.beq U.tr)) ∧ Below w.heap.size w w' := by
  induction T using MT.induct with
  | h op nn A c args ih =>
    intro U w hin hU
    obtain ⟨op', nn', A', c', args'⟩ := U
    have hU0 := hU
    rw [MT.In] at hin hU
    obtain ⟨hlc, hc, hr, hrow⟩ := hin
    obtain ⟨hlc', hc', hr', hrow'⟩ := hU
    have hsz : args.length ≤ 9223372036854775807 := by omega
    have hsz' : args'.length ≤ 9223372036854775807 := by omega
    obtain ⟨W1, hW1, hB1, hs1, hblk1⟩ := newBlk w _ rfl #[.int .i64 op, .int .i64 nn, .slice A args.length c] 27
    obtain ⟨W2, hW2, hB2, hs2, hblk2⟩ := newBlk W1 _ hs1 #[.int .i64 op', .int .i64 nn', .slice A' args'.length c'] 27
    have hB : Below w.heap.size w W2 := hB1.trans (hB2.mono (by omega))
    have hblk12 := (hB2.block w.heap.size (by omega)).trans hblk1
    obtain ⟨a0, a1, a2⟩ := box_cells hblk12 (Below.refl _ W2)
    obtain ⟨b0, b1, b2⟩ := box_cells hblk2 (Below.refl _ W2)
    have HF := Lib.hid (show (MT.mk op nn A c args).tr.beq (MT.mk op' nn' A' c' args').tr = (op == op' && nn == nn' && (decide (args.length = args'.length) && Tr.beqs (args.map MT.tr) (args'.map MT.tr))) by rw [MT.tr_mk, MT.tr_mk, Tr.beq, List.length_map, List.length_map])
    have HBB := Lib.hid hB
    simp only [MT.val, MT.op, MT.n, MT.A, MT.c, MT.args]
    rcases h1 : (op == op')
    · have h1' : (op != op') = true := by rw [bne, h1]; rfl
      rw [h1] at HF
      go_enter Tryd.func19, Tryd.ntmps19
      go_wp2_with fail
      go_ret
      exact ⟨ret_bool (by rw [HF.out]; rfl), HBB.out⟩
    · have h1' : (op != op') = false := by rw [bne, h1]; rfl
      rw [h1] at HF
      rcases h2 : (nn == nn')
      · have h2' : (nn != nn') = true := by rw [bne, h2]; rfl
        rw [h2] at HF
        go_enter Tryd.func19, Tryd.ntmps19
        go_wp2_with fail
        go_ret
        exact ⟨ret_bool (by rw [HF.out]; rfl), HBB.out⟩
      · have h2' : (nn != nn') = false := by rw [bne, h2]; rfl
        rw [h2] at HF
        by_cases h3 : args.length = args'.length
        · have h3' : ((args.length : Int) != (args'.length : Int)) = false := by rw [h3]; simp
          rw [decide_eq_true h3] at HF
          simp only [Bool.true_and] at HF
          have HL := Lib.hid h3
          clear h3
          go_enter Tryd.func19, Tryd.ntmps19
          go_wp2_with fail
          go_loopw [30] (fun i wr => ∃ k : Nat, k ≤ args.length ∧ i = .int .i64 k ∧ Tr.beqs ((args.map MT.tr).take k) ((args'.map MT.tr).take k) = true ∧ Below W2.heap.size W2 wr) (fun i _ => args.length - (intOf i).toNat)
          case atStart => exact ⟨0, Nat.zero_le _, rfl, rfl, Below.refl _ W2⟩
          case round =>
            obtain ⟨k, hk, rfl, hbe, hbw⟩ := hrel
            have hb0 : Below w.heap.size w wr := HBB.out.trans (hbw.mono HBB.out.size)
            obtain ⟨m0, m1, m2⟩ := box_cells hblk12 hbw
            obtain ⟨q0, q1, q2⟩ := box_cells hblk2 hbw
            by_cases hlt : k < args.length
            · have hlt' : k < args'.length := by have := HL.out; omega
              obtain ⟨ab, aoff, rfl, -, g0, g1, g2⟩ := elem3 hr hb0 hlt
              obtain ⟨ab', aoff', rfl, -, g0', g1', g2'⟩ := elem3 hr' hb0 hlt'
              have hih := ih k hlt args'[k] wr.drew ((hrow.at_ k hlt).later hb0.drew) ((hrow'.at_ k hlt').later hb0.drew)
              have HT := beqs_take (args.map MT.tr) (args'.map MT.tr) k (by simpa using hlt) (by simpa using hlt') hbe
              simp only [List.getElem_map] at HT
              simp only [MT.val] at hih
              cases hwk : args[k].tr.beq args'[k].tr
              · have HN := Lib.hid (HT.2 hwk)
                rw [hwk] at hih
                clear HT hwk ih hrow hrow' hbe
                go_wp2_with fail
                go_still_tail 10, (by kernel_rfl)
                change wpList _ _ _ _ _ wr.drew
                go_wp2_with (go_at_call 19; refine hih.mono ?_; clear hih; rintro e w' ⟨rfl, hb2⟩)
                go_ret
                exact ⟨ret_bool (by rw [HF.out, HN.out]), hb0.drew.trans (hb2.mono hb0.drew.size)⟩
              · have HN := Lib.hid (HT.1.trans hwk)
                rw [hwk] at hih
                clear HT hwk ih hrow hrow' hbe
                go_wp2_with fail
                go_still_tail 10, (by kernel_rfl)
                change wpList _ _ _ _ _ wr.drew
                go_wp2_with (go_at_call 19; refine hih.mono ?_; clear hih; rintro e w' ⟨rfl, hb2⟩)
                go_roundw
                case rel => exact ⟨k + 1, by omega, by go_num, HN.out, hbw.drew.trans (hb2.mono hbw.drew.size)⟩
                case measure => simp [intOf]; omega
            · have hk' : k = args.length := by omega
              have HN := Lib.hid (show Tr.beqs (args.map MT.tr) (args'.map MT.tr) = true by
                have h := hbe
                rw [List.take_of_length_le (by simp; omega), List.take_of_length_le (by have := HL.out; simp; omega)] at h
                exact h)
              clear hbe hk' ih hrow hrow'
              go_wp2
              go_ret
              exact ⟨ret_bool (by rw [HF.out, HN.out]), hb0⟩
        · have h3' : ((args.length : Int) != (args'.length : Int)) = true := by
            rw [bne_iff_ne]; omega
          rw [decide_eq_false h3] at HF
          go_enter Tryd.func19, Tryd.ntmps19
          go_wp2_with fail
          go_ret
          exact ⟨ret_bool (by rw [HF.out]; simp), HBB.out⟩
end Go.Proofs.YtnkkpjgclekobaaDoor
