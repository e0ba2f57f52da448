import Derived.Test.YtndkcimajeofcaaGreatDoorG8e4b9ee58e
import Derived.Test.YtndkcimajeofcaaGreatDoorGf12c0a9800
import Derived.Deep.RegionHeld3
namespace Go.Proofs.YtndkcimajeofcaaGreatDoor
open Go.RowKit

set_option maxRecDepth 100000 in
set_option maxHeartbeats 1000000 in
theorem dual_any (op : Int) (h : op = 1 ∨ op = 2 ∨ op = 4 ∨ op = 5 ∨ op = 6 ∨ op = 7) (w : World) : Calls Tryz.prog 79 #[.int .i64 op] w fun e w' => e = .returned (.int .i64 (dualF op)) ∧ w = w' := by
  rcases h with rfl | rfl | rfl | rfl | rfl | rfl
  all_goals
    go_enter Tryz.func79, Tryz.ntmps79
    go_wp2
    go_ret
    exact ⟨rfl, rfl⟩

end Go.Proofs.YtndkcimajeofcaaGreatDoor

namespace Go.Proofs.YtndkcimajeofcaaGreatDoor
open Go.RowKit

set_option maxRecDepth 100000 in
set_option maxHeartbeats 1000000 in
theorem Of_any (op nn : Int) (A : Option Addr) (len c : Nat) (w : World) : Calls Tryz.prog 54 #[.int .i64 op, .int .i64 nn, .slice A len c] w fun e w' => e = .returned (.agg #[.int .i64 op, .int .i64 nn, .slice A len c]) ∧ Below w.heap.size w w' := by
  go_enter Tryz.func54, Tryz.ntmps54
  go_wp2_with fail
  obtain ⟨W1, hW1, hB1, hs1, hblk1⟩ := newBlk w _ rfl #[.int .i64 op, .int .i64 nn, .slice A len c] 33
  obtain ⟨t0, t1, t2⟩ := box_cells hblk1 (Below.refl _ W1)
  rw [hW1]
  exact bodyPost_ret (v := .agg #[.int .i64 op, .int .i64 nn, .slice A len c]) (by simp [results, Tryz.f54, go_sem, t0, t1, t2]) rfl ⟨rfl, hB1⟩

set_option maxRecDepth 100000 in
set_option maxHeartbeats 4000000 in
theorem Form_any (T : MT) : ∀ (neg : Bool) (w : World), T.WF → G w → T.In w.heap.size w →
    Calls Tryz.prog 32 #[T.val, .bool neg] w (RetTree w (nnf T.tr neg)) := by
  induction T using MT.induct with
  | h op nn A c args ih =>
    intro neg w hwf hG hin
    rw [MT.WF] at hwf
    obtain ⟨w0, w8, war, wfs⟩ := hwf
    have hTin := hin
    rw [MT.In] at hin
    obtain ⟨hlc, hc, hr, hrow⟩ := hin
    have hlen : args.length ≤ 2 := by
      have : arityF op ≤ 2 := by unfold arityF; split <;> (try split) <;> omega
      omega
    obtain ⟨W1, hW1, hB1, hs1, hblk1⟩ := newBlk w _ rfl #[.int .i64 op, .int .i64 nn, .slice A args.length c] 33
    obtain ⟨W2, hW2, hB2, hs2, hblk2⟩ := newBlk W1 _ hs1 #[.int .i64 0, .int .i64 0, .slice none 0 0] 33
    have hB : Below w.heap.size w W2 := hB1.trans (hB2.mono (by omega))
    have hblk12 := (hB2.block w.heap.size (by omega)).trans hblk1
    have a0 := cell_of_blk hblk12 0
    have a1 := cell_of_blk hblk12 1
    have a2 := cell_of_blk hblk12 2
    simp only [List.getElem?_toArray, List.getElem?_cons_zero, List.getElem?_cons_succ] at a0 a1 a2
    have hG2 := hG.later hB
    simp only [MT.val, MT.op, MT.n, MT.A, MT.args, MT.c]
    rcases k3 : (op == 3)
    · have hop3 : op ≠ 3 := by simpa using k3
      cases neg
      · have hF : nnf (MT.mk op nn A c args).tr false = .mk op nn (args.map fun t => nnf t.tr false) := by
          rw [MT.tr_mk, nnf, if_neg hop3, if_neg (by simp), nnfs_map, List.map_map]; rfl
        have HF := Lib.hid hF
        have HB := Lib.hid hB
        have hargs : args.length ≤ 9223372036854775807 := by omega
        clear hF hop3 war hB hblk1 hB1 hB2
        rcases k0 : (op == 0)
        all_goals
          go_enter Tryz.func32, Tryz.ntmps32
          go_wp2_with fail
          obtain ⟨W3, hW3, hB3, hs3, hblk3⟩ := newBlk W2 _ hs2 #[.int .i64 op, .int .i64 nn, .slice none 0 0] 33
          have hblk23 := (hB3.block (w.heap.size + 1) (by omega)).trans hblk2
          have HB3 := Lib.hid (HB.out.trans (hB3.mono (by omega)))
          have hG3 := hG2.later (hB3.mono (by omega))
          obtain ⟨D, hD⟩ : ∃ D, w.heap.size + 1 + 1 = D := ⟨_, rfl⟩
          rw [hW3]
          simp only [hD] at hs3 hblk3 ⊢
          have hs3' : D + 1 ≤ W3.heap.size := by omega
          have HD := Lib.hid hD
          have HS3 := Lib.hid hs3
          clear hW1 hW2 hW3 hs1 hs2 hs3 hblk12 hblk2 a0 a1 a2 hB3 hD
          go_loopw [43] (fun i wr => ∃ (k : Nat) (v : Value) (Ts : List MT), k ≤ args.length ∧ i = .int .i64 k ∧ Ts.length = k ∧ Ts.map MT.tr = (args.take k).map (fun t => nnf t.tr false) ∧ wr.heap[D]? = some (.cells #[.int .i64 op, .int .i64 nn, v] 33) ∧ wr.heap[w.heap.size + 1]? = some (.cells #[.int .i64 0, .int .i64 0, .slice none 0 0] 33) ∧ Coll (D + 1) (D + 1) wr v Ts ∧ Below w.heap.size w wr ∧ W3.heap.size ≤ wr.heap.size) (fun i _ => args.length - (intOf i).toNat)
          case atStart => exact ⟨0, _, [], Nat.zero_le _, rfl, rfl, rfl, hblk3, hblk23, Coll.nil _ _ _, HB3.out, Nat.le_refl _⟩
          case round =>
            obtain ⟨k, v, Ts, hk, rfl, hTl, hTm, hbD, hbR, hco, hbw, hsw⟩ := hrel
            by_cases hlt : k < args.length
            · obtain ⟨ab, aoff, rfl, -, g0, g1, g2⟩ := elem3 hr hbw hlt
              obtain ⟨W5, hW5, hB5, hs5, hblk5⟩ := newBlk wr _ rfl #[.int .i64 args[k].op, .int .i64 args[k].n, .slice args[k].A args[k].args.length args[k].c] 33
              have hB05 : Below w.heap.size w W5 := hbw.trans (hB5.mono hbw.size)
              have hih := ih k hlt false W5.drew (wfs.at_ k hlt) (hG.later hB05.drew) ((hrow.at_ k hlt).later hB05.drew)
              simp only [MT.val] at hih
              have hDlt : D < wr.heap.size := (Array.getElem?_eq_some_iff.1 hbD).1
              have hbD5 := (hB5.block D hDlt).trans hbD
              have e0 := cell_of_blk hblk5 0
              have e1 := cell_of_blk hblk5 1
              have e2 := cell_of_blk hblk5 2
              have d2 := cell_of_blk hbD5 2
              simp only [List.getElem?_toArray, List.getElem?_cons_zero, List.getElem?_cons_succ] at e0 e1 e2 d2
              have HTm := Lib.hid hTm
              have HTl := Lib.hid hTl
              have HCo := Lib.hid hco
              have HBw := Lib.hid hbw
              have HBD := Lib.hid hbD
              have HBR := Lib.hid hbR
              clear hTm hTl hco hbw hbD hbR
              obtain ⟨i0, hi, hz0, hz1, hz2⟩ := info_parts con_info
              go_wp2_with fail
              have nD : D < W5.heap.size := by omega
              go_region_law (first
                  | (refine step_append_lies _ (by rfl) _ _ _ (by rfl) (D + 1) 33 i0 _ 3 40 Tryz.underlying31 hi hz0 hz1 hz2 rfl (by omega) v Ts.length (Ts.flatMap MT.cs) (by rfl) hco2.own ⟨w'.heap.size, 0, none⟩ 1 1 T'.cs (by rfl) (by rfl) (World.news_of_block (cs := #[.int .i64 T'.op, .int .i64 T'.n, .slice T'.A T'.args.length T'.c]) (t := 33) (fr := (0, 0)) (heap_alloc_new w' _)) (by simp [MT.cs, Value.oneCell']) (by omega) (by rw [HTl.out]; unfold maxLen; omega) (by rw [HTl.out]; omega) (by simp; omega) (w'.heap.size + 1) (by simp) ?_; intro g cap w6 hown6 hg6 hat6 hlt6; have hbD6 := (hg6.block D (by simp; omega) (fun e => by have := (own_lt HCo.out.own e.symm).1; omega)).trans ((Below.heap_alloc w' _ D (by omega)).trans hbDw); have m2 := cell_of_blk hbD6 2; have m3 := frozen_of_blk hbD6 2; simp only [List.getElem?_toArray, List.getElem?_cons_zero, List.getElem?_cons_succ] at m2)
                  | (go_simp; go_at_call 32; refine hih.mono ?_; rintro e w' ⟨T', rfl, htr, hnew, hbl⟩; have hbDw := (hbl.block D (show D < W5.heap.size by omega)).trans hbD5; have q2 := cell_of_blk hbDw 2; simp only [List.getElem?_toArray, List.getElem?_cons_zero, List.getElem?_cons_succ] at q2; have hco' := HCo.out.later (hB5.drew.trans (hbl.mono (show wr.heap.size ≤ W5.heap.size by omega))); have hco2 := hco'.later ((Below.refl _ w').alloc (Nat.le_refl _) (.cells #[.int .i64 T'.op, .int .i64 T'.n, .slice T'.A T'.args.length T'.c] 33)); have HTR := Lib.hid htr; clear htr; have hDw : D + 1 ≤ w'.heap.size := (by have := hbl.size; have h5 : W5.drew.heap.size = W5.heap.size := rfl; omega); have hDw' : D < w'.heap.size := hDw))
              all_goals
                go_wp2
                obtain ⟨z1, z2, z3⟩ := coll_step HCo.out hB5 ((Below.refl _ W5).drew.trans hbl) hnew hown6 hg6 hat6 HBD.out
                go_roundw
                case rel => exact ⟨k + 1, _, Ts ++ [T'], by omega, by go_num, by rw [List.length_append, HTl.out]; rfl, by rw [List.map_append, HTm.out, List.take_succ_eq_append_getElem hlt, List.map_append, List.map_singleton, HTR.out]; rfl, z1, (z3.block _ (by have := HD.out; omega)).trans HBR.out, z2, HBw.out.trans (z3.mono (by have := HD.out; omega)), Nat.le_trans hsw z3.size⟩
                case measure => simp [intOf]; omega
            · have d0 := cell_of_blk hbD 0
              have d1 := cell_of_blk hbD 1
              have d2 := cell_of_blk hbD 2
              have r0 := cell_of_blk hbR 0
              have r1 := cell_of_blk hbR 1
              have r2 := cell_of_blk hbR 2
              have f0 := frozen_of_blk hbR 0
              have f1 := frozen_of_blk hbR 1
              have f2 := frozen_of_blk hbR 2
              simp only [List.getElem?_toArray, List.getElem?_cons_zero, List.getElem?_cons_succ] at d0 d1 d2 r0 r1 r2
              obtain ⟨vA, vc, hve, hvn⟩ := in_of_row (lo := D + 1) (op := op) (n := nn) hco.own (Nat.le_refl _) (fun t ht => (hco.trees t ht).1)
              subst hve
              have HTm := Lib.hid hTm
              have HBw := Lib.hid hbw
              clear hTm hTl hbw
              go_wp2
              obtain ⟨s1, s2⟩ := store3 hbR (.int .i64 op) (.int .i64 nn) (.slice vA Ts.length vc)
              generalize ((wr.setCell ⟨w.heap.size + 1, 0, none⟩ (.int .i64 op)).setCell ⟨w.heap.size + 1, 1, none⟩ (.int .i64 nn)).setCell ⟨w.heap.size + 1, 2, none⟩ (.slice vA Ts.length vc) = w5 at s1 s2 ⊢
              have t0 := cell_of_blk s1 0
              have t1 := cell_of_blk s1 1
              have t2 := cell_of_blk s1 2
              simp only [List.getElem?_toArray, List.getElem?_cons_zero, List.getElem?_cons_succ] at t0 t1 t2
              refine bodyPost_ret (v := .agg #[.int .i64 op, .int .i64 nn, .slice vA Ts.length vc]) (by simp [results, Tryz.f32, go_sem, t0, t1, t2]) rfl ⟨.mk op nn vA vc Ts, rfl, ?_, ?_, ?_⟩
              · rw [HF.out, MT.tr_mk, HTm.out, List.take_of_length_le (by omega)]
              · exact ((hvn.grown s2 (MT.All.imp (fun b hb e => by have : b = w.heap.size + 1 := Option.some.inj e; have := hb.1; have := HD.out; omega) _ hvn.2))).lo (by have := HD.out; omega)
              · exact HBw.out.trans (below_grown s2 (by omega) HBw.out.size)
      · rcases k0 : (op == 0)
        · have hop0 : op ≠ 0 := by simpa using k0
          have hF : nnf (MT.mk op nn A c args).tr true = .mk (dualF op) nn (args.map fun t => nnf t.tr true) := by
            rw [MT.tr_mk, nnf, if_neg hop3, if_neg (by simpa using hop0), nnfs_map, List.map_map]; rfl
          have HF := Lib.hid hF
          have HB := Lib.hid hB
          have hargs : args.length ≤ 9223372036854775807 := by omega
          have hdl := fun w' => dual_any op (by omega) w'
          clear hF hop3 war hB hblk1 hB1 hB2 hop0
          go_enter Tryz.func32, Tryz.ntmps32
          go_wp2_with (go_at_call 79; refine (hdl _).mono ?_; rintro e w' ⟨rfl, rfl⟩)
          obtain ⟨W3, hW3, hB3, hs3, hblk3⟩ := newBlk W2 _ hs2 #[.int .i64 (dualF op), .int .i64 nn, .slice none 0 0] 33
          have hblk23 := (hB3.block (w.heap.size + 1) (by omega)).trans hblk2
          have HB3 := Lib.hid (HB.out.trans (hB3.mono (by omega)))
          have hG3 := hG2.later (hB3.mono (by omega))
          obtain ⟨D, hD⟩ : ∃ D, w.heap.size + 1 + 1 = D := ⟨_, rfl⟩
          rw [hW3]
          simp only [hD] at hs3 hblk3 ⊢
          have hs3' : D + 1 ≤ W3.heap.size := by omega
          have HD := Lib.hid hD
          have HS3 := Lib.hid hs3
          clear hW1 hW2 hW3 hs1 hs2 hs3 hblk12 hblk2 a0 a1 a2 hB3 hD
          go_loopw [43] (fun i wr => ∃ (k : Nat) (v : Value) (Ts : List MT), k ≤ args.length ∧ i = .int .i64 k ∧ Ts.length = k ∧ Ts.map MT.tr = (args.take k).map (fun t => nnf t.tr true) ∧ wr.heap[D]? = some (.cells #[.int .i64 (dualF op), .int .i64 nn, v] 33) ∧ wr.heap[w.heap.size + 1]? = some (.cells #[.int .i64 0, .int .i64 0, .slice none 0 0] 33) ∧ Coll (D + 1) (D + 1) wr v Ts ∧ Below w.heap.size w wr ∧ W3.heap.size ≤ wr.heap.size) (fun i _ => args.length - (intOf i).toNat)
          case atStart => exact ⟨0, _, [], Nat.zero_le _, rfl, rfl, rfl, hblk3, hblk23, Coll.nil _ _ _, HB3.out, Nat.le_refl _⟩
          case round =>
            obtain ⟨k, v, Ts, hk, rfl, hTl, hTm, hbD, hbR, hco, hbw, hsw⟩ := hrel
            by_cases hlt : k < args.length
            · obtain ⟨ab, aoff, rfl, -, g0, g1, g2⟩ := elem3 hr hbw hlt
              obtain ⟨W5, hW5, hB5, hs5, hblk5⟩ := newBlk wr _ rfl #[.int .i64 args[k].op, .int .i64 args[k].n, .slice args[k].A args[k].args.length args[k].c] 33
              have hB05 : Below w.heap.size w W5 := hbw.trans (hB5.mono hbw.size)
              have hih := ih k hlt true W5.drew (wfs.at_ k hlt) (hG.later hB05.drew) ((hrow.at_ k hlt).later hB05.drew)
              simp only [MT.val] at hih
              have hDlt : D < wr.heap.size := (Array.getElem?_eq_some_iff.1 hbD).1
              have hbD5 := (hB5.block D hDlt).trans hbD
              have e0 := cell_of_blk hblk5 0
              have e1 := cell_of_blk hblk5 1
              have e2 := cell_of_blk hblk5 2
              have d2 := cell_of_blk hbD5 2
              simp only [List.getElem?_toArray, List.getElem?_cons_zero, List.getElem?_cons_succ] at e0 e1 e2 d2
              have HTm := Lib.hid hTm
              have HTl := Lib.hid hTl
              have HCo := Lib.hid hco
              have HBw := Lib.hid hbw
              have HBD := Lib.hid hbD
              have HBR := Lib.hid hbR
              clear hTm hTl hco hbw hbD hbR
              obtain ⟨i0, hi, hz0, hz1, hz2⟩ := info_parts con_info
              go_wp2_with fail
              have nD : D < W5.heap.size := by omega
              go_region_law (first
                  | (refine step_append_lies _ (by rfl) _ _ _ (by rfl) (D + 1) 33 i0 _ 3 40 Tryz.underlying31 hi hz0 hz1 hz2 rfl (by omega) v Ts.length (Ts.flatMap MT.cs) (by rfl) hco2.own ⟨w'.heap.size, 0, none⟩ 1 1 T'.cs (by rfl) (by rfl) (World.news_of_block (cs := #[.int .i64 T'.op, .int .i64 T'.n, .slice T'.A T'.args.length T'.c]) (t := 33) (fr := (0, 0)) (heap_alloc_new w' _)) (by simp [MT.cs, Value.oneCell']) (by omega) (by rw [HTl.out]; unfold maxLen; omega) (by rw [HTl.out]; omega) (by simp; omega) (w'.heap.size + 1) (by simp) ?_; intro g cap w6 hown6 hg6 hat6 hlt6; have hbD6 := (hg6.block D (by simp; omega) (fun e => by have := (own_lt HCo.out.own e.symm).1; omega)).trans ((Below.heap_alloc w' _ D (by omega)).trans hbDw); have m2 := cell_of_blk hbD6 2; have m3 := frozen_of_blk hbD6 2; simp only [List.getElem?_toArray, List.getElem?_cons_zero, List.getElem?_cons_succ] at m2)
                  | (go_simp; go_at_call 32; refine hih.mono ?_; rintro e w' ⟨T', rfl, htr, hnew, hbl⟩; have hbDw := (hbl.block D (show D < W5.heap.size by omega)).trans hbD5; have q2 := cell_of_blk hbDw 2; simp only [List.getElem?_toArray, List.getElem?_cons_zero, List.getElem?_cons_succ] at q2; have hco' := HCo.out.later (hB5.drew.trans (hbl.mono (show wr.heap.size ≤ W5.heap.size by omega))); have hco2 := hco'.later ((Below.refl _ w').alloc (Nat.le_refl _) (.cells #[.int .i64 T'.op, .int .i64 T'.n, .slice T'.A T'.args.length T'.c] 33)); have HTR := Lib.hid htr; clear htr; have hDw : D + 1 ≤ w'.heap.size := (by have := hbl.size; have h5 : W5.drew.heap.size = W5.heap.size := rfl; omega); have hDw' : D < w'.heap.size := hDw))
              all_goals
                go_wp2
                obtain ⟨z1, z2, z3⟩ := coll_step HCo.out hB5 ((Below.refl _ W5).drew.trans hbl) hnew hown6 hg6 hat6 HBD.out
                go_roundw
                case rel => exact ⟨k + 1, _, Ts ++ [T'], by omega, by go_num, by rw [List.length_append, HTl.out]; rfl, by rw [List.map_append, HTm.out, List.take_succ_eq_append_getElem hlt, List.map_append, List.map_singleton, HTR.out]; rfl, z1, (z3.block _ (by have := HD.out; omega)).trans HBR.out, z2, HBw.out.trans (z3.mono (by have := HD.out; omega)), Nat.le_trans hsw z3.size⟩
                case measure => simp [intOf]; omega
            · have d0 := cell_of_blk hbD 0
              have d1 := cell_of_blk hbD 1
              have d2 := cell_of_blk hbD 2
              have r0 := cell_of_blk hbR 0
              have r1 := cell_of_blk hbR 1
              have r2 := cell_of_blk hbR 2
              have f0 := frozen_of_blk hbR 0
              have f1 := frozen_of_blk hbR 1
              have f2 := frozen_of_blk hbR 2
              simp only [List.getElem?_toArray, List.getElem?_cons_zero, List.getElem?_cons_succ] at d0 d1 d2 r0 r1 r2
              obtain ⟨vA, vc, hve, hvn⟩ := in_of_row (lo := D + 1) (op := dualF op) (n := nn) hco.own (Nat.le_refl _) (fun t ht => (hco.trees t ht).1)
              subst hve
              have HTm := Lib.hid hTm
              have HBw := Lib.hid hbw
              clear hTm hTl hbw
              go_wp2
              obtain ⟨s1, s2⟩ := store3 hbR (.int .i64 (dualF op)) (.int .i64 nn) (.slice vA Ts.length vc)
              generalize ((wr.setCell ⟨w.heap.size + 1, 0, none⟩ (.int .i64 (dualF op))).setCell ⟨w.heap.size + 1, 1, none⟩ (.int .i64 nn)).setCell ⟨w.heap.size + 1, 2, none⟩ (.slice vA Ts.length vc) = w5 at s1 s2 ⊢
              have t0 := cell_of_blk s1 0
              have t1 := cell_of_blk s1 1
              have t2 := cell_of_blk s1 2
              simp only [List.getElem?_toArray, List.getElem?_cons_zero, List.getElem?_cons_succ] at t0 t1 t2
              refine bodyPost_ret (v := .agg #[.int .i64 (dualF op), .int .i64 nn, .slice vA Ts.length vc]) (by simp [results, Tryz.f32, go_sem, t0, t1, t2]) rfl ⟨.mk (dualF op) nn vA vc Ts, rfl, ?_, ?_, ?_⟩
              · rw [HF.out, MT.tr_mk, HTm.out, List.take_of_length_le (by omega)]
              · exact ((hvn.grown s2 (MT.All.imp (fun b hb e => by have : b = w.heap.size + 1 := Option.some.inj e; have := hb.1; have := HD.out; omega) _ hvn.2))).lo (by have := HD.out; omega)
              · exact HBw.out.trans (below_grown s2 (by omega) HBw.out.size)
        · have hop0 : op = 0 := by simpa using k0
          have hF : nnf (MT.mk op nn A c args).tr true = .mk 3 0 [.mk op nn []] := by
            rw [MT.tr_mk, nnf, if_neg hop3, if_pos ⟨rfl, hop0⟩, hop0]
          have HF := Lib.hid hF
          have HB := Lib.hid hB
          have r0 := cell_of_blk hblk2 0
          have r1 := cell_of_blk hblk2 1
          have r2 := cell_of_blk hblk2 2
          have f0 := frozen_of_blk hblk2 0
          have f1 := frozen_of_blk hblk2 1
          have f2 := frozen_of_blk hblk2 2
          simp only [List.getElem?_toArray, List.getElem?_cons_zero, List.getElem?_cons_succ] at r0 r1 r2
          clear hF hop0 hop3 war hB
          go_enter Tryz.func32, Tryz.ntmps32
          go_wp2_with (go_at_call 54; first | (refine (Of_any 3 0 (some ⟨w1.heap.size, 0, none⟩) 1 1 W4).mono ?_; rintro e w5 ⟨rfl, hb5⟩; have hk5 := blk_below (blk_below hk1 hB4) hb5; obtain ⟨r0, r1, r2⟩ := box_cells hk5 (Below.refl _ w5); have f0 := frozen_of_blk hk5 0; have f1 := frozen_of_blk hk5 1; have f2 := frozen_of_blk hk5 2) | (refine (Of_any 0 nn none 0 0 W2).mono ?_; rintro e w1 ⟨rfl, hb1⟩; have hk1 := blk_below hblk2 hb1; have z1 := hb1.size; have hnode := node_new (lo := w.heap.size + 1 + 1) (w := w1) (op := 3) (n := 0) (Ts := [leafMT 0 nn]) (by omega) (by simp) (fun t ht => by rw [List.mem_singleton.1 ht]; exact leaf_new _ _ _ _) (by simp); obtain ⟨W4, hW4, hB4, hs4, hblk4⟩ := newBlk w1 _ rfl #[.int .i64 0, .int .i64 nn, .slice none 0 0] 33))
          obtain ⟨s1, s2⟩ := store3 hk5 (.int .i64 3) (.int .i64 0) (.slice (some ⟨w1.heap.size, 0, none⟩) 1 1)
          generalize ((w5.setCell ⟨w.heap.size + 1, 0, none⟩ (.int .i64 3)).setCell ⟨w.heap.size + 1, 1, none⟩ (.int .i64 0)).setCell ⟨w.heap.size + 1, 2, none⟩ (.slice (some ⟨w1.heap.size, 0, none⟩) 1 1) = w6 at s1 s2 ⊢
          obtain ⟨t0, t1, t2⟩ := box_cells s1 (Below.refl _ w6)
          have hn4 : New (w.heap.size + 1 + 1) W4 (.mk 3 0 (some ⟨w1.heap.size, 0, none⟩) 1 [leafMT 0 nn]) := by
            rw [← hW4]; exact hnode
          have hn6 := (hn4.later hb5).grown s2 (MT.All.imp (fun b hb e => by have := Option.some.inj e; have := hb.1; omega) _ (hn4.later hb5).2)
          have z4 := hb5.size
          refine bodyPost_ret (v := .agg #[.int .i64 3, .int .i64 0, .slice (some ⟨w1.heap.size, 0, none⟩) 1 1]) (by simp [results, Tryz.f32, go_sem, t0, t1, t2]) rfl ⟨.mk 3 0 (some ⟨w1.heap.size, 0, none⟩) 1 [leafMT 0 nn], rfl, ?_, ?_, ?_⟩
          · rw [HF.out, show op = 0 by simpa using k0]; rfl
          · exact hn6.lo (by omega)
          · have hb01 : Below w.heap.size w w5 := ((HB.out.trans (hb1.mono (by omega))).trans (hB4.mono (by omega))).trans (hb5.mono (by omega))
            exact hb01.trans (below_grown s2 (by omega) hb01.size)
    · have hop : op = 3 := by simpa using k3
      have h1 : args.length = 1 := by
        rw [hop] at war
        have : arityF 3 = 1 := by decide
        omega
      have hpos : 0 < args.length := by omega
      obtain ⟨b, off, rfl, hlt, g0, g1, g2⟩ := elem3 hr hB hpos
      have g0' := add_zero' g0
      simp only [Nat.zero_mul, Nat.add_zero] at g1 g2
      have hih := ih 0 hpos (!neg) W2 (wfs.at_ 0 hpos) hG2 ((hrow.at_ 0 hpos).later hB)
      simp only [MT.val] at hih
      have hF : nnf (MT.mk op nn (some ⟨b, off, none⟩) c args).tr neg = nnf (args[0]'hpos).tr (!neg) := by
        rw [MT.tr_mk, nnf, if_pos hop]
        cases args with
        | nil => exact absurd hpos (Nat.lt_irrefl _)
        | cons a r => rw [List.map_cons, nnfHead]; rfl
      rw [hF]
      have HB := Lib.hid hB
      clear hF hop h1 war hB hblk1 hblk12 hB1 hB2 g0
      have b0 := cell_of_blk hblk2 0
      have b1 := cell_of_blk hblk2 1
      have b2 := cell_of_blk hblk2 2
      go_enter Tryz.func32, Tryz.ntmps32
      go_wp2_with (go_at_call 32; refine hih.mono ?_; rintro e w' ⟨T', rfl, htr, hnew, hbl⟩; have HTR := Lib.hid htr; clear htr; have hbk := (hbl.block (w.heap.size + 1) (by omega)).trans hblk2; have r0 := cell_of_blk hbk 0; have r1 := cell_of_blk hbk 1; have r2 := cell_of_blk hbk 2; have f0 := frozen_of_blk hbk 0; have f1 := frozen_of_blk hbk 1; have f2 := frozen_of_blk hbk 2; simp only [List.getElem?_toArray, List.getElem?_cons_zero, List.getElem?_cons_succ] at r0 r1 r2)
      obtain ⟨s1, s2⟩ := store3 hbk (.int .i64 T'.op) (.int .i64 T'.n) (.slice T'.A T'.args.length T'.c)
      generalize ((w'.setCell ⟨w.heap.size + 1, 0, none⟩ (.int .i64 T'.op)).setCell ⟨w.heap.size + 1, 1, none⟩ (.int .i64 T'.n)).setCell ⟨w.heap.size + 1, 2, none⟩ (.slice T'.A T'.args.length T'.c) = w5 at s1 s2 ⊢
      have t0 := cell_of_blk s1 0
      have t1 := cell_of_blk s1 1
      have t2 := cell_of_blk s1 2
      simp only [List.getElem?_toArray, List.getElem?_cons_zero, List.getElem?_cons_succ] at t0 t1 t2
      refine bodyPost_ret (v := .agg #[.int .i64 T'.op, .int .i64 T'.n, .slice T'.A T'.args.length T'.c]) (by simp [results, Tryz.f32, go_sem, t0, t1, t2]) rfl ⟨T', rfl, HTR.out, ?_, ?_⟩
      · exact (hnew.lo (by omega)).grown s2 (MT.All.imp (fun b hb e => by have : b = w.heap.size + 1 := Option.some.inj e; have := hb.1; omega) T' hnew.2)
      · exact (HB.out.trans (hbl.mono (by omega))).trans (below_grown s2 (by omega) (by have := hbl.size; omega))
end Go.Proofs.YtndkcimajeofcaaGreatDoor

namespace Go.Proofs.YtndkcimajeofcaaGreatDoor
open Go.RowKit

end Go.Proofs.YtndkcimajeofcaaGreatDoor
