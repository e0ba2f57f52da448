import Derived.Test.YtdfghgcfihhmjaaDoorRUs
namespace Go.Proofs.YtdfghgcfihhmjaaDoor
open Go.RowKit

/-- A row of one's own that holds these trees. -/
def TRow (base : Nat) (W : World) (v : Value) (Ls : List MT) : Prop := W.ownsRow base 27 3 v Ls.length (Ls.flatMap MT.cs)
theorem TRow.cells {base : Nat} {W : World} {v : Value} {Ls : List MT} (h : TRow base W v Ls) : ∃ A c, v = .slice A Ls.length c ∧ Ls.length ≤ 9223372036854775807 ∧ (Ls.length ≠ 0 → ∃ g, A = some ⟨g, 0, none⟩ ∧ base ≤ g ∧ g < W.heap.size) ∧ RowAt W W.heap.size 3 A Ls.length (Ls.flatMap MT.cs) := by
  have hx := h.1
  rcases h.2 with ⟨rfl, h0⟩ | ⟨g, cap, cur, rfl, hge, hheap, hlen, hcap, hsize, htake⟩
  · exact ⟨none, 0, by rw [h0], by omega, fun hn => absurd h0 hn, hx, fun hn => absurd h0 hn⟩
  · unfold maxLen at hcap
    refine ⟨some ⟨g, 0, none⟩, cap, rfl, by omega, fun _ => ⟨g, rfl, hge, (Array.getElem?_eq_some_iff.1 hheap).1⟩, hx, fun _ => ⟨g, 0, rfl, (Array.getElem?_eq_some_iff.1 hheap).1, fun j hj => ?_⟩⟩
    rw [cell_of_blk hheap, Nat.zero_add, ← htake, List.getElem?_take, if_pos hj, Array.getElem?_toList]

def anyT (Ls : List MT) (t : Tr) : Bool := Ls.any fun d => t.beq d.tr

set_option maxRecDepth 100000 in
set_option maxHeartbeats 4000000 in
theorem Place_any {base : Nat} (v : Value) (Ls : List MT) (T : MT) (w : World) (h : TRow base w v Ls) (hL : ∀ t ∈ Ls, t.In w.heap.size w) (hT : T.In w.heap.size w) :
    Calls Tryd.prog 83 #[v, T.val] w fun e w' => (∃ i : Int, e = .returned (.int .i64 i) ∧ decide (i < 0) = !(anyT Ls T.tr)) ∧ Below w.heap.size w w' := by
  obtain ⟨A, c, rfl, hlen, hg, hr⟩ := h.cells
  obtain ⟨W1, hW1, hB1, hs1, hblk1⟩ := newBlk w _ rfl #[.int .i64 T.op, .int .i64 T.n, .slice T.A T.args.length T.c] 27
  simp only [MT.val]
  go_enter Tryd.func83, Tryd.ntmps83
  go_wp2_with fail
  go_loopw [9] (fun i wr => ∃ k : Nat, k ≤ Ls.length ∧ i = .int .i64 k ∧ (∀ j (hj : j < Ls.length), j < k → T.tr.beq Ls[j].tr = false) ∧ Below w.heap.size w wr ∧ Below W1.heap.size W1 wr) (fun i _ => Ls.length - (intOf i).toNat)
  case atStart => exact ⟨0, Nat.zero_le _, rfl, fun j _ h => absurd h (by omega), hB1, Below.refl _ _⟩
  case round =>
    obtain ⟨k, hk, rfl, hall, hbw, hb1⟩ := hrel
    have HA := Lib.hid hall
    clear hall
    by_cases hlt : k < Ls.length
    · obtain ⟨ab, aoff, rfl, -, g0, g1, g2⟩ := elem3 hr hbw hlt
      obtain ⟨W3, hW3, hB3, hs3, hblk3⟩ := newBlk wr _ rfl #[.int .i64 Ls[k].op, .int .i64 Ls[k].n, .slice Ls[k].A Ls[k].args.length Ls[k].c] 27
      obtain ⟨b0, b1, b2⟩ := box_cells hblk3 (Below.refl _ W3)
      have hb13 : Below W1.heap.size W1 W3 := hb1.trans (hB3.mono hb1.size)
      have hbw3 : Below w.heap.size w W3 := hbw.trans (hB3.mono hbw.size)
      obtain ⟨a0, a1, a2⟩ := box_cells hblk1 hb13
      have hsm := rSame_any T Ls[k] W3 (hT.later hbw3) ((hL _ (List.getElem_mem hlt)).later hbw3)
      simp only [MT.val] at hsm
      rcases hq : T.tr.beq Ls[k].tr
      · rw [hq] at hsm
        have HN := Lib.hid (show ∀ j (hj : j < Ls.length), j < k + 1 → T.tr.beq Ls[j].tr = false from fun j hj hjk => by
          by_cases e : j = k
          · subst e; exact hq
          · exact HA.out j hj (by omega))
        clear hq
        go_wp2_with (go_at_call 23; refine hsm.mono ?_; rintro e w4 ⟨rfl, hb4⟩)
        go_roundw
        case rel => exact ⟨k + 1, by omega, by go_num, HN.out, hbw3.trans (hb4.mono hbw3.size), hb13.trans (hb4.mono hb13.size)⟩
        case measure => simp [intOf]; omega
      · rw [hq] at hsm
        have HF := Lib.hid (show anyT Ls T.tr = true by rw [anyT, List.any_eq_true]; exact ⟨Ls[k], List.getElem_mem hlt, hq⟩)
        clear hq
        go_wp2_with (go_at_call 23; refine hsm.mono ?_; rintro e w4 ⟨rfl, hb4⟩)
        go_ret
        exact ⟨⟨_, rfl, by rw [HF.out]; simp⟩, hbw3.trans (hb4.mono hbw3.size)⟩
    · have HF := Lib.hid (show anyT Ls T.tr = false by
        rw [anyT, List.any_eq_false]
        intro x hx
        obtain ⟨j, hj, rfl⟩ := List.getElem_of_mem hx
        rw [HA.out j hj (by omega)]; simp)
      go_wp2
      go_ret
      exact ⟨⟨_, rfl, by rw [HF.out]; rfl⟩, hbw⟩

/-- One node more, if it is a new one. -/
def stepS (out : List MT) (t : MT) : List MT := if anyT out t.tr then out else out ++ [t]
def foldS (l : List (Nat × MT)) (out : List MT) : List MT := l.foldl (fun o x => stepS o x.2) out
theorem foldS_app (l m : List (Nat × MT)) (o : List MT) : foldS (l ++ m) o = foldS m (foldS l o) := List.foldl_append
theorem stepS_len (o : List MT) (t : MT) : (stepS o t).length ≤ o.length + 1 := by unfold stepS; split <;> simp
theorem foldS_len : ∀ (l : List (Nat × MT)) (o : List MT), (foldS l o).length ≤ o.length + l.length
  | [], o => by simp [foldS]
  | x :: l, o => by
    have := foldS_len l (stepS o x.2)
    have := stepS_len o x.2
    show (foldS l (stepS o x.2)).length ≤ _
    rw [List.length_cons]; omega

set_option maxRecDepth 100000 in
set_option maxHeartbeats 4000000 in
theorem rSubs_any (base : Nat) (T : MT) : ∀ (lev : Nat) (v : Value) (Ls : List MT) (w : World), T.In base w → base ≤ w.heap.size → TRow base w v Ls → (∀ t ∈ Ls, t.In base w) → Ls.length + (T.pre lev).length ≤ 1000000 →
    Calls Tryd.prog 30 #[T.val, v] w fun e w' => ∃ v', e = .returned v' ∧ TRow base w' v' (foldS (T.pre lev) Ls) ∧ (∀ t ∈ foldS (T.pre lev) Ls, t.In base w') ∧ Below base w w' := by
  induction T using MT.induct with
  | h op nn A c args ih =>
    intro lev v Ls w hin hbw hrowL hLs hlen
    obtain ⟨i0, hi, hz0, hz1, hz2⟩ := info_parts con_info
    have hinT := hin
    rw [MT.pre] at hlen
    simp only [List.length_cons] at hlen
    rw [MT.In] at hin
    obtain ⟨hlc, hc, hr, hrow⟩ := hin
    have hsz : args.length ≤ 9223372036854775807 := by omega
    obtain ⟨W1, hW1, hB1, hs1, hblk1⟩ := newBlk w _ rfl #[.int .i64 op, .int .i64 nn, .slice A args.length c] 27
    have hbB1 : Below base w W1 := hB1.mono hbw
    obtain ⟨a0, a1, a2⟩ := box_cells hblk1 (Below.refl _ W1)
    have hrow1 : TRow base W1 v Ls := owns_below hrowL hB1
    have hpl := Place_any v Ls (.mk op nn A c args) W1 hrow1 (fun t ht => ((hLs t ht).below hbB1).more (by omega)) ((hinT.below hbB1).more (by omega))
    have HF : Hid (foldS ((MT.mk op nn A c args).pre lev) Ls = foldS (MT.preAll (lev + 1) args) (stepS Ls (.mk op nn A c args))) := Lib.hid (by rw [MT.pre]; rfl)
    have HS : Hid (stepS Ls (.mk op nn A c args) = if anyT Ls (MT.mk op nn A c args).tr then Ls else Ls ++ [.mk op nn A c args]) := Lib.hid rfl
    have hsl := stepS_len Ls (.mk op nn A c args)
    simp only [MT.val, MT.op, MT.n, MT.A, MT.c, MT.args] at hpl ⊢
    have HLS := Lib.hid hLs
    have HIN := Lib.hid hinT
    clear hLs hinT
    rcases hq : anyT Ls (MT.mk op nn A c args).tr
    · rw [hq] at hpl HS
      simp only [Bool.false_eq_true, if_false, Bool.not_false] at hpl HS
      rw [HS.out] at HF hsl
      obtain ⟨L1, HL1⟩ : ∃ L1, Hid (Ls ++ [.mk op nn A c args] = L1) := ⟨_, Lib.hid rfl⟩
      rw [HL1.out] at HF hsl
      clear hq HS
      go_enter Tryd.func30, Tryd.ntmps30
      go_wp2_with (first | (go_at_call 83; refine hpl.mono ?_; rintro e w2 ⟨⟨i, rfl, hdi⟩, hb2⟩; have hi0 : i < 0 := of_decide_eq_true hdi; obtain ⟨d0, d1, d2⟩ := box_cells hblk1 hb2; have hrow2 : TRow base w2 v Ls := owns_below hrow1 hb2; have hbw2 : Below base w w2 := hbB1.trans (hb2.mono (by omega)); have z2 := hb2.size) | (at_builtin; refine wpList_append_own_at _ rfl _ _ 25 rfl base 27 i0 _ 3 40 Tryd.underlying25 hi hz0 hz1 hz2 rfl (by omega) v Ls.length (Ls.flatMap MT.cs) rfl (owns_below hrow2 ((Below.refl _ w2).alloc (Nat.le_refl _) _)) ⟨w2.heap.size, 0, none⟩ 1 1 [.int .i64 op, .int .i64 nn, .slice A args.length c] rfl rfl (World.news_of_block (cs := #[.int .i64 op, .int .i64 nn, .slice A args.length c]) (t := 27) (fr := (0, 0)) (heap_alloc_new w2 _)) (by simp [Value.oneCell']) (by unfold maxLen; omega) (by omega) (by simp; omega) ?_; intro v2 w3 hown3 hg3 _ hat3; have hv3 : TRow base w3 v2 L1 := (by rw [← HL1.out, TRow, List.length_append, List.flatMap_append]; exact hown3); have hbw3 : Below base w w3 := ((hbw2.alloc (by omega) _).grown hg3 (by simp; omega) (fun k e => (own_lt hrow2 e).1)); have hblk3 := (hg3.block w.heap.size (by simp; omega) (fun e => by have := (own_lt hrowL e.symm).2; omega)).trans (blk_below (blk_below hblk1 hb2) ((Below.refl _ w2).alloc (Nat.le_refl _) _)); obtain ⟨f0, f1, f2⟩ := box_cells hblk3 (Below.refl _ w3)))
      have HI1 : Hid (∀ t ∈ L1, t.In base w3) := Lib.hid (show ∀ t ∈ L1, t.In base w3 from fun t ht => by
        rw [← HL1.out] at ht
        rcases List.mem_append.1 ht with ht | ht
        · exact (HLS.out t ht).below hbw3
        · rw [List.mem_singleton.1 ht]; exact HIN.out.below hbw3)
      go_loopw [1, 18] (fun u1 i wr => ∃ (k : Nat), k ≤ args.length ∧ i = .int .i64 k ∧ TRow base wr u1 (foldS (MT.preAll (lev + 1) (args.take k)) L1) ∧ (∀ t ∈ foldS (MT.preAll (lev + 1) (args.take k)) L1, t.In base wr) ∧ Below base w wr) (fun _ i _ => args.length - (intOf i).toNat)
      case atStart => exact ⟨0, Nat.zero_le _, rfl, hv3, HI1.out, hbw3⟩
      case round =>
        obtain ⟨k, hk, rfl, htk, hik, hbk⟩ := hrel
        have hszk := hbk.size
        by_cases hlt : k < args.length
        · obtain ⟨ab, aoff, rfl, -, g0, g1, g2⟩ := elem3 hr hbk hlt
          obtain ⟨W3, hW3, hB3, hs3, hblk3⟩ := newBlk wr _ rfl #[.int .i64 args[k].op, .int .i64 args[k].n, .slice args[k].A args[k].args.length args[k].c] 27
          obtain ⟨b0, b1, b2⟩ := box_cells hblk3 (Below.refl _ W3)
          have hsp := congrArg List.length (MT.preAll_split (lev + 1) args k hlt)
          simp only [List.length_append] at hsp
          have l1 := foldS_len (MT.preAll (lev + 1) (args.take k)) L1
          have HX := Lib.hid (show foldS (MT.preAll (lev + 1) (args.take (k + 1))) L1 = foldS (MT.pre (lev + 1) args[k]) (foldS (MT.preAll (lev + 1) (args.take k)) L1) by rw [MT.preAll_take _ _ _ hlt, foldS_app])
          generalize foldS (MT.preAll (lev + 1) (args.take k)) L1 = xk at htk hik l1 HX
          have hbk3 : Below base w W3 := hbk.trans (hB3.mono (by omega))
          have hih := ih k hlt (lev + 1) u1 xk W3 ((hrow.at_ k hlt).below hbk3) (by omega) (owns_below htk hB3) (fun t ht => (hik t ht).below (hB3.mono (by omega))) (by omega)
          simp only [MT.val] at hih
          have HBK := Lib.hid hbk3
          clear l1 hsp htk hbk hbk3 hik
          go_wp2_with (go_at_call 30; refine hih.mono ?_; clear hih; rintro e w4 ⟨v1', rfl, htw4, hit4, hb4⟩; have HI4 := Lib.hid hit4; clear hit4)
          go_roundw
          case rel => exact ⟨k + 1, by omega, by go_num, by rw [HX.out]; exact htw4, by rw [HX.out]; exact HI4.out, HBK.out.trans hb4⟩
          case measure => simp [intOf]; omega
        · have HE1 : Hid (args.take k = args) := Lib.hid (List.take_of_length_le (by omega))
          rw [HE1.out] at htk hik
          have HIK := Lib.hid hik
          clear hik
          go_wp2
          go_ret
          exact ⟨_, rfl, by rw [HF.out]; exact htk, by rw [HF.out]; exact HIK.out, hbk⟩
    · rw [hq] at hpl HS
      simp only [if_true, Bool.not_true] at hpl HS
      rw [HS.out] at HF hsl
      clear hq HS
      go_enter Tryd.func30, Tryd.ntmps30
      go_wp2_with (first | (go_at_call 83; refine hpl.mono ?_; rintro e w2 ⟨⟨i, rfl, hdi⟩, hb2⟩; have hi0 : ¬ i < 0 := of_decide_eq_false hdi; obtain ⟨d0, d1, d2⟩ := box_cells hblk1 hb2; have hrow2 : TRow base w2 v Ls := owns_below hrow1 hb2; have hbw2 : Below base w w2 := hbB1.trans (hb2.mono (by omega)); have z2 := hb2.size))
      have HI1 : Hid (∀ t ∈ Ls, t.In base w2) := Lib.hid (fun t ht => (HLS.out t ht).below hbw2)
      go_loopw [1, 18] (fun u1 i wr => ∃ (k : Nat), k ≤ args.length ∧ i = .int .i64 k ∧ TRow base wr u1 (foldS (MT.preAll (lev + 1) (args.take k)) Ls) ∧ (∀ t ∈ foldS (MT.preAll (lev + 1) (args.take k)) Ls, t.In base wr) ∧ Below base w wr) (fun _ i _ => args.length - (intOf i).toNat)
      case atStart => exact ⟨0, Nat.zero_le _, rfl, hrow2, HI1.out, hbw2⟩
      case round =>
        obtain ⟨k, hk, rfl, htk, hik, hbk⟩ := hrel
        have hszk := hbk.size
        by_cases hlt : k < args.length
        · obtain ⟨ab, aoff, rfl, -, g0, g1, g2⟩ := elem3 hr hbk hlt
          obtain ⟨W3, hW3, hB3, hs3, hblk3⟩ := newBlk wr _ rfl #[.int .i64 args[k].op, .int .i64 args[k].n, .slice args[k].A args[k].args.length args[k].c] 27
          obtain ⟨b0, b1, b2⟩ := box_cells hblk3 (Below.refl _ W3)
          have hsp := congrArg List.length (MT.preAll_split (lev + 1) args k hlt)
          simp only [List.length_append] at hsp
          have l1 := foldS_len (MT.preAll (lev + 1) (args.take k)) Ls
          have HX := Lib.hid (show foldS (MT.preAll (lev + 1) (args.take (k + 1))) Ls = foldS (MT.pre (lev + 1) args[k]) (foldS (MT.preAll (lev + 1) (args.take k)) Ls) by rw [MT.preAll_take _ _ _ hlt, foldS_app])
          generalize foldS (MT.preAll (lev + 1) (args.take k)) Ls = xk at htk hik l1 HX
          have hbk3 : Below base w W3 := hbk.trans (hB3.mono (by omega))
          have hih := ih k hlt (lev + 1) u1 xk W3 ((hrow.at_ k hlt).below hbk3) (by omega) (owns_below htk hB3) (fun t ht => (hik t ht).below (hB3.mono (by omega))) (by omega)
          simp only [MT.val] at hih
          have HBK := Lib.hid hbk3
          clear l1 hsp htk hbk hbk3 hik
          go_wp2_with (go_at_call 30; refine hih.mono ?_; clear hih; rintro e w4 ⟨v1', rfl, htw4, hit4, hb4⟩; have HI4 := Lib.hid hit4; clear hit4)
          go_roundw
          case rel => exact ⟨k + 1, by omega, by go_num, by rw [HX.out]; exact htw4, by rw [HX.out]; exact HI4.out, HBK.out.trans hb4⟩
          case measure => simp [intOf]; omega
        · have HE1 : Hid (args.take k = args) := Lib.hid (List.take_of_length_le (by omega))
          rw [HE1.out] at htk hik
          have HIK := Lib.hid hik
          clear hik
          go_wp2
          go_ret
          exact ⟨_, rfl, by rw [HF.out]; exact htk, by rw [HF.out]; exact HIK.out, hbk⟩
end Go.Proofs.YtdfghgcfihhmjaaDoor
