import Derived.Test.YtneegmhcmegijaaDoorLaw8
import Derived.Test.YtneegmhcmegijaaDoorNorm
import Derived.Lib.SliceRun
namespace Go.Proofs.YtneegmhcmegijaaDoor
open Go.RowKit

/-- A pair of a role has elements of the interpretation. -/
theorem ends_lt {i : IN} {m : Nat} (hm : i.size = m) (hl : listsB i = true) {r x y : Nat} (h : endsF i r x y = true) : x < m ∧ y < m := by
  unfold endsF at h
  by_cases hk : r / 2 < i.R.length
  · rw [List.getElem?_eq_getElem hk] at h
    have hf := (okP_facts (lists_okP hm hl hk)).1
    dsimp only at h
    by_cases h2 : r % 2 = 0
    · rw [if_pos h2] at h
      have := hf _ (List.contains_iff_mem.1 h)
      dsimp only at this
      omega
    · rw [if_neg h2] at h
      have := hf _ (List.contains_iff_mem.1 h)
      dsimp only at this
      omega
  · rw [List.getElem?_eq_none (by omega)] at h; cases h
theorem not_meet {F q q' : Nat → Bool} (h : ∀ y, F y = true → q' y = !q y) : subB F q' = !meetB F q := by
  unfold subB meetB
  rw [Bool.eq_iff_iff, Bool.not_eq_true', List.any_eq_false, List.all_eq_true]
  constructor
  · intro k y hy
    have := k y hy
    cases h1 : F y
    · simp
    · rw [h y h1] at this
      cases h2 : q y <;> simp_all
  · intro k y hy
    have := k y hy
    cases h1 : F y
    · simp
    · rw [h y h1]
      cases h2 : q y <;> simp_all
theorem not_sub {F q q' : Nat → Bool} (h : ∀ y, F y = true → q' y = !q y) : meetB F q' = !subB F q := by
  have h' : ∀ y, F y = true → q y = !q' y := fun y hy => by rw [h y hy, Bool.not_not]
  rw [not_meet h', Bool.not_not]
theorem meet_ext {F q q' : Nat → Bool} (h : ∀ y, F y = true → q' y = q y) : meetB F q' = meetB F q := by
  unfold meetB
  rw [Bool.eq_iff_iff, List.any_eq_true, List.any_eq_true]
  constructor <;> (rintro ⟨y, hy, k⟩; rw [Bool.and_eq_true] at k; refine ⟨y, hy, ?_⟩; have := h y k.1; simp_all)
theorem sub_ext {F q q' : Nat → Bool} (h : ∀ y, F y = true → q' y = q y) : subB F q' = subB F q := by
  have e1 : subB F q' = !meetB F (fun y => !q' y) := not_meet (fun y _ => by simp)
  have e2 : subB F q = !meetB F (fun y => !q y) := not_meet (fun y _ => by simp)
  rw [e1, e2, meet_ext (q := fun y => !q y) (q' := fun y => !q' y) fun y hy => by rw [h y hy]]

/-- P1.6 and P3.4: the negation normal forms have the same elements, and the other ones. -/
theorem nnf_sem (i : IN) (m : Nat) (hm : i.size = m) (hl : listsB i = true) (t : Tr) : t.wfT i.C.length i.R.length = true → ∀ neg x, x < m → semT i m (nnf t neg) x = (semT i m t x ^^ neg) :=
  Tr.rec (motive_1 := fun t => t.wfT i.C.length i.R.length = true → ∀ neg x, x < m → semT i m (nnf t neg) x = (semT i m t x ^^ neg))
    (motive_2 := fun l => Tr.wfTs i.C.length i.R.length l = true → ∀ j (hj : j < l.length), ∀ neg x, x < m → semT i m (nnf l[j] neg) x = (semT i m l[j] x ^^ neg))
    (fun op nn args ih hwf neg x hx => by
      rw [Tr.wfT, Bool.and_eq_true] at hwf
      obtain ⟨hnode, hargs⟩ := hwf
      simp only [wfB, Bool.and_eq_true, decide_eq_true_eq, beq_iff_eq] at hnode
      obtain ⟨h0, h8, hlen, hn0, hn1⟩ := hnode
      have ih' := ih hargs
      have hop : op = 0 ∨ op = 1 ∨ op = 2 ∨ op = 3 ∨ op = 4 ∨ op = 5 ∨ op = 6 ∨ op = 7 := by omega
      rcases hop with rfl | rfl | rfl | rfl | rfl | rfl | rfl | rfl
      · have ha : args = [] := by simpa [arityF] using hlen
        subst ha
        cases neg <;> simp [nnf, nnfs, semT, semL, comb, hx]
      · have ha : args = [] := by simpa [arityF] using hlen
        subst ha
        cases neg <;> simp [nnf, nnfs, semT, comb, dualF, hx]
      · have ha : args = [] := by simpa [arityF] using hlen
        subst ha
        cases neg <;> simp [nnf, nnfs, semT, comb, dualF, hx]
      · obtain ⟨a, rfl⟩ := List.length_eq_one_iff.1 (show args.length = 1 by simp [arityF] at hlen; omega)
        have := ih' 0 (by simp) (!neg) x hx
        simp only [List.getElem_cons_zero] at this
        have e : nnf (.mk 3 nn [a]) neg = nnf a (!neg) := by rw [nnf, if_pos rfl, nnfHead]
        rw [e, this]
        simp [semT, semL, comb, hx]
      · obtain ⟨a, b, rfl⟩ := two_of_len (show args.length = 2 by simp [arityF] at hlen; omega)
        have h1 := ih' 0 (by simp) neg x hx
        have h2 := ih' 1 (by simp) neg x hx
        simp only [List.getElem_cons_zero, List.getElem_cons_succ] at h1 h2
        cases neg <;> simp [nnf, nnfs, semT, semL, comb, dualF, h1, h2]
      · obtain ⟨a, b, rfl⟩ := two_of_len (show args.length = 2 by simp [arityF] at hlen; omega)
        have h1 := ih' 0 (by simp) neg x hx
        have h2 := ih' 1 (by simp) neg x hx
        simp only [List.getElem_cons_zero, List.getElem_cons_succ] at h1 h2
        cases neg <;> simp [nnf, nnfs, semT, semL, comb, dualF, h1, h2]
      · obtain ⟨a, rfl⟩ := List.length_eq_one_iff.1 (show args.length = 1 by simp [arityF] at hlen; omega)
        have h1 := fun y (hy : endsF i nn.toNat x y = true) => ih' 0 (by simp) neg y (ends_lt hm hl hy).2
        simp only [List.getElem_cons_zero] at h1
        cases neg
        · have := meet_ext (F := endsF i nn.toNat x) (q := semT i m a) (q' := semT i m (nnf a false)) fun y hy => by rw [h1 y hy]; simp
          simp [nnf, nnfs, semT, semL, comb, this]
        · have := not_meet (F := endsF i nn.toNat x) (q := semT i m a) (q' := semT i m (nnf a true)) fun y hy => by rw [h1 y hy]; simp
          simp [nnf, nnfs, semT, semL, comb, dualF, hx, this]
      · obtain ⟨a, rfl⟩ := List.length_eq_one_iff.1 (show args.length = 1 by simp [arityF] at hlen; omega)
        have h1 := fun y (hy : endsF i nn.toNat x y = true) => ih' 0 (by simp) neg y (ends_lt hm hl hy).2
        simp only [List.getElem_cons_zero] at h1
        cases neg
        · have := sub_ext (F := endsF i nn.toNat x) (q := semT i m a) (q' := semT i m (nnf a false)) fun y hy => by rw [h1 y hy]; simp
          simp [nnf, nnfs, semT, semL, comb, this]
        · have := not_sub (F := endsF i nn.toNat x) (q := semT i m a) (q' := semT i m (nnf a true)) fun y hy => by rw [h1 y hy]; simp
          simp [nnf, nnfs, semT, semL, comb, dualF, hx, this])
    (fun _ j hj => absurd hj (Nat.not_lt_zero _))
    (fun t ts h1 h2 hwf j hj neg x hx => by
      rw [Tr.wfTs, Bool.and_eq_true] at hwf
      cases j with
      | zero => exact h1 hwf.1 neg x hx
      | succ j => exact h2 hwf.2 j (by simpa using hj) neg x hx) t

/-- What the law asks of the pairs: one of them, each of them. -/
theorem pairs_some {m : Nat} {F : Nat → Nat → Bool} {q : Nat → Bool} {x : Nat} (hx : x < m) : ((progP m F).any fun z => (z.1 == (x : Int)) && q z.2.toNat) = meetB (F x) q := by
  unfold meetB
  rw [Bool.eq_iff_iff, List.any_eq_true, List.any_eq_true]
  constructor
  · rintro ⟨z, hz, h⟩
    obtain ⟨a, b, ha, hb, hf, rfl⟩ := mem_progP.1 hz
    simp only [Bool.and_eq_true, beq_iff_eq, Int.toNat_natCast] at h
    have : a = x := by omega
    subst this
    exact ⟨b, List.mem_range.2 hb, by simp [hf, h.2]⟩
  · rintro ⟨y, hy, h⟩
    rw [Bool.and_eq_true] at h
    exact ⟨((x : Int), (y : Int)), mem_progP.2 ⟨x, y, hx, List.mem_range.1 hy, h.1, rfl⟩, by simp [h.2]⟩
theorem pairs_all {m : Nat} {F : Nat → Nat → Bool} {q : Nat → Bool} {x : Nat} (hx : x < m) : (!((progP m F).any fun z => (z.1 == (x : Int)) && !q z.2.toNat)) = subB (F x) q := by
  rw [pairs_some (q := fun y => !q y) hx]
  exact (not_meet (F := F x) (q := fun y => !q y) (q' := q) fun y _ => by simp).symm

/-- A node with one concept below it, or two. -/
theorem size_one (op n : Int) (t : Tr) : (Tr.mk op n [t]).size = t.size + 1 := by simp [Tr.size, Tr.sizes]
theorem size_two (op n : Int) (t u : Tr) : (Tr.mk op n [t, u]).size = t.size + u.size + 1 := by simp [Tr.size, Tr.sizes]
theorem depth_one (op n : Int) (t : Tr) : (Tr.mk op n [t]).depth = t.depth + 1 := by simp [Tr.depth, Tr.depths]
theorem depth_two (op n : Int) (t u : Tr) : (Tr.mk op n [t, u]).depth = max t.depth u.depth + 1 := by simp [Tr.depth, Tr.depths]
theorem small_iff {t : Tr} : smallB t = true ↔ t.size ≤ 400 ∧ t.depth ≤ 20 := by simp [smallB]
theorem valid_one {C R : Nat} {op n : Int} {t : Tr} (hv : validT C R t = true) (hs : t.size ≤ 150) (hd : t.depth < 20) (hop : (op = 3 ∧ n = 0) ∨ ((op = 6 ∨ op = 7) ∧ 0 ≤ n ∧ n < 2 * (R : Int))) : validT C R (.mk op n [t]) = true := by
  rw [validT_split, Bool.and_eq_true] at hv ⊢
  refine ⟨small_iff.2 ⟨by rw [size_one]; omega, by rw [depth_one]; omega⟩, ?_⟩
  rw [Tr.wfT, Tr.wfTs, Tr.wfTs, hv.2]
  rcases hop with ⟨rfl, rfl⟩ | ⟨rfl | rfl, h1, h2⟩
  · rfl
  · simp [wfB, arityF, choicesF, h1, h2]
  · simp [wfB, arityF, choicesF, h1, h2]
theorem valid_two {C R : Nat} {op : Int} {t u : Tr} (hv : validT C R t = true) (hw : validT C R u = true) (hs : t.size ≤ 150) (hs' : u.size ≤ 150) (hd : t.depth < 20) (hd' : u.depth < 20) (hop : op = 4 ∨ op = 5) : validT C R (.mk op 0 [t, u]) = true := by
  rw [validT_split, Bool.and_eq_true] at hv hw ⊢
  refine ⟨small_iff.2 ⟨by rw [size_two]; omega, by rw [depth_two]; omega⟩, ?_⟩
  rw [Tr.wfT, Tr.wfTs, Tr.wfTs, Tr.wfTs, hv.2, hw.2]
  rcases hop with rfl | rfl <;> rfl
end Go.Proofs.YtneegmhcmegijaaDoor

namespace Go.Proofs.YtneegmhcmegijaaDoor
open Go.RowKit

/-- THE TABLES arity AND duals LIE AS THE TEXT LAYS THEM. -/
structure GD (w : World) : Prop where
  ga : GA w
  size : 1 < w.heap.size
  du : ∀ op, 0 ≤ op → op < 8 → w.cell? ⟨1, op.toNat, none⟩ = some (.int .i64 (dualF op))
theorem GD.later {w w' : World} (h : GD w) (hb : Below w.heap.size w w') : GD w' :=
  ⟨h.ga.later hb, Nat.lt_of_lt_of_le h.size hb.size, fun op h0 h8 => (hb.cell (p := ⟨1, op.toNat, none⟩) h.size).trans (h.du op h0 h8)⟩

set_option maxRecDepth 100000 in
set_option maxHeartbeats 4000000 in
theorem pushedD_any (T : MT) : ∀ (neg : Bool) (w : World), T.WF → GD w → T.In w.heap.size w →
    Calls Tryd.prog 78 #[T.val, .bool neg] w (RetTree w (nnf T.tr neg)) := by
  induction T using MT.induct with
  | h op nn A c args ih =>
    intro neg w hwf hG hin
    rw [MT.WF] at hwf
    obtain ⟨w0, w8, war, wfs⟩ := hwf
    have hTin := hin
    rw [MT.In] at hin
    obtain ⟨hlc, hc, hr, hrow⟩ := hin
    have hlen : args.length ≤ 2 := by
      have : arityF op ≤ 2 := by unfold arityF; split <;> (try split) <;> omega
      omega
    obtain ⟨W1, hW1, hB1, hs1, hblk1⟩ := newBlk w _ rfl #[.int .i64 op, .int .i64 nn, .slice A args.length c] 27
    obtain ⟨W2, hW2, hB2, hs2, hblk2⟩ := newBlk W1 _ hs1 #[.int .i64 0, .int .i64 0, .slice none 0 0] 27
    have hB : Below w.heap.size w W2 := hB1.trans (hB2.mono (by omega))
    have hblk12 := (hB2.block w.heap.size (by omega)).trans hblk1
    have a0 := cell_of_blk hblk12 0
    have a1 := cell_of_blk hblk12 1
    have a2 := cell_of_blk hblk12 2
    simp only [List.getElem?_toArray, List.getElem?_cons_zero, List.getElem?_cons_succ] at a0 a1 a2
    have hG2 := hG.later hB
    simp only [MT.val, MT.op, MT.n, MT.A, MT.args, MT.c]
    rcases k3 : (op == 3)
    · have hop3 : op ≠ 3 := by simpa using k3
      cases neg
      · have hF : nnf (MT.mk op nn A c args).tr false = .mk op nn (args.map fun t => nnf t.tr false) := by
          rw [MT.tr_mk, nnf, if_neg hop3, if_neg (by simp), nnfs_map, List.map_map]; rfl
        have HF := Lib.hid hF
        have HB := Lib.hid hB
        have hargs : args.length ≤ 9223372036854775807 := by omega
        clear hF hop3 war hB hblk1 hB1 hB2
        go_enter Tryd.func78, Tryd.ntmps78
        go_wp2_with fail
        obtain ⟨W3, hW3, hB3, hs3, hblk3⟩ := newBlk W2 _ hs2 #[.int .i64 op, .int .i64 nn, .slice none 0 0] 27
        have hblk23 := (hB3.block (w.heap.size + 1) (by omega)).trans hblk2
        have HB3 := Lib.hid (HB.out.trans (hB3.mono (by omega)))
        have hG3 := hG2.later (hB3.mono (by omega))
        obtain ⟨D, hD⟩ : ∃ D, w.heap.size + 1 + 1 = D := ⟨_, rfl⟩
        rw [hW3]
        simp only [hD] at hs3 hblk3 ⊢
        have hs3' : D + 1 ≤ W3.heap.size := by omega
        have HD := Lib.hid hD
        have HS3 := Lib.hid hs3
        clear hW1 hW2 hW3 hs1 hs2 hs3 hblk12 hblk2 a0 a1 a2 hB3 hD
        go_loopw [41] (fun i wr => ∃ (k : Nat) (v : Value) (Ts : List MT), k ≤ args.length ∧ i = .int .i64 k ∧ Ts.length = k ∧ Ts.map MT.tr = (args.take k).map (fun t => nnf t.tr false) ∧ wr.heap[D]? = some (.cells #[.int .i64 op, .int .i64 nn, v] 27) ∧ wr.heap[w.heap.size + 1]? = some (.cells #[.int .i64 0, .int .i64 0, .slice none 0 0] 27) ∧ Coll (D + 1) (D + 1) wr v Ts ∧ Below w.heap.size w wr ∧ W3.heap.size ≤ wr.heap.size) (fun i _ => args.length - (intOf i).toNat)
        case atStart => exact ⟨0, _, [], Nat.zero_le _, rfl, rfl, rfl, hblk3, hblk23, Coll.nil _ _ _, HB3.out, Nat.le_refl _⟩
        case round =>
          obtain ⟨k, v, Ts, hk, rfl, hTl, hTm, hbD, hbR, hco, hbw, hsw⟩ := hrel
          by_cases hlt : k < args.length
          · obtain ⟨ab, aoff, rfl, -, g0, g1, g2⟩ := elem3 hr hbw hlt
            obtain ⟨W5, hW5, hB5, hs5, hblk5⟩ := newBlk wr _ rfl #[.int .i64 args[k].op, .int .i64 args[k].n, .slice args[k].A args[k].args.length args[k].c] 27
            have hB05 : Below w.heap.size w W5 := hbw.trans (hB5.mono hbw.size)
            have hih := ih k hlt false W5.drew (wfs.at_ k hlt) (hG.later hB05.drew) ((hrow.at_ k hlt).later hB05.drew)
            simp only [MT.val] at hih
            have hDlt : D < wr.heap.size := (Array.getElem?_eq_some_iff.1 hbD).1
            have hbD5 := (hB5.block D hDlt).trans hbD
            have e0 := cell_of_blk hblk5 0
            have e1 := cell_of_blk hblk5 1
            have e2 := cell_of_blk hblk5 2
            have d2 := cell_of_blk hbD5 2
            simp only [List.getElem?_toArray, List.getElem?_cons_zero, List.getElem?_cons_succ] at e0 e1 e2 d2
            have HTm := Lib.hid hTm
            have HTl := Lib.hid hTl
            have HCo := Lib.hid hco
            have HBw := Lib.hid hbw
            have HBD := Lib.hid hbD
            have HBR := Lib.hid hbR
            clear hTm hTl hco hbw hbD hbR
            obtain ⟨i0, hi, hz0, hz1, hz2⟩ := info_parts con_info
            go_wp2_with fail
            have nD : D < W5.heap.size := by omega
            go_region_law (first
                | (refine step_append_lies _ (by rfl) _ _ _ (by rfl) (D + 1) 27 i0 _ 3 40 Tryd.underlying25 hi hz0 hz1 hz2 rfl (by omega) v Ts.length (Ts.flatMap MT.cs) (by rfl) hco2.own ⟨w'.heap.size, 0, none⟩ 1 1 T'.cs (by rfl) (by rfl) (World.news_of_block (cs := #[.int .i64 T'.op, .int .i64 T'.n, .slice T'.A T'.args.length T'.c]) (t := 27) (fr := (0, 0)) (heap_alloc_new w' _)) (by simp [MT.cs, Value.oneCell']) (by omega) (by rw [HTl.out]; unfold maxLen; omega) (by rw [HTl.out]; omega) (by simp; omega) (w'.heap.size + 1) (by simp) ?_; intro g cap w6 hown6 hg6 hat6 hlt6; have hbD6 := (hg6.block D (by simp; omega) (fun e => by have := (own_lt HCo.out.own e.symm).1; omega)).trans ((Below.heap_alloc w' _ D (by omega)).trans hbDw); have m2 := cell_of_blk hbD6 2; have m3 := frozen_of_blk hbD6 2; simp only [List.getElem?_toArray, List.getElem?_cons_zero, List.getElem?_cons_succ] at m2)
                | (go_simp; go_at_call 78; refine hih.mono ?_; rintro e w' ⟨T', rfl, htr, hnew, hbl⟩; have hbDw := (hbl.block D (show D < W5.heap.size by omega)).trans hbD5; have q2 := cell_of_blk hbDw 2; simp only [List.getElem?_toArray, List.getElem?_cons_zero, List.getElem?_cons_succ] at q2; have hco' := HCo.out.later (hB5.drew.trans (hbl.mono (show wr.heap.size ≤ W5.heap.size by omega))); have hco2 := hco'.later ((Below.refl _ w').alloc (Nat.le_refl _) (.cells #[.int .i64 T'.op, .int .i64 T'.n, .slice T'.A T'.args.length T'.c] 27)); have HTR := Lib.hid htr; clear htr; have hDw : D + 1 ≤ w'.heap.size := (by have := hbl.size; have h5 : W5.drew.heap.size = W5.heap.size := rfl; omega); have hDw' : D < w'.heap.size := hDw))
            all_goals
              go_wp2
              obtain ⟨z1, z2, z3⟩ := coll_step HCo.out hB5 ((Below.refl _ W5).drew.trans hbl) hnew hown6 hg6 hat6 HBD.out
              go_roundw
              case rel => exact ⟨k + 1, _, Ts ++ [T'], by omega, by go_num, by rw [List.length_append, HTl.out]; rfl, by rw [List.map_append, HTm.out, List.take_succ_eq_append_getElem hlt, List.map_append, List.map_singleton, HTR.out]; rfl, z1, (z3.block _ (by have := HD.out; omega)).trans HBR.out, z2, HBw.out.trans (z3.mono (by have := HD.out; omega)), Nat.le_trans hsw z3.size⟩
              case measure => simp [intOf]; omega
          · have d0 := cell_of_blk hbD 0
            have d1 := cell_of_blk hbD 1
            have d2 := cell_of_blk hbD 2
            have r0 := cell_of_blk hbR 0
            have r1 := cell_of_blk hbR 1
            have r2 := cell_of_blk hbR 2
            have f0 := frozen_of_blk hbR 0
            have f1 := frozen_of_blk hbR 1
            have f2 := frozen_of_blk hbR 2
            simp only [List.getElem?_toArray, List.getElem?_cons_zero, List.getElem?_cons_succ] at d0 d1 d2 r0 r1 r2
            obtain ⟨vA, vc, hve, hvn⟩ := in_of_row (lo := D + 1) (op := op) (n := nn) hco.own (Nat.le_refl _) (fun t ht => (hco.trees t ht).1)
            subst hve
            have HTm := Lib.hid hTm
            have HBw := Lib.hid hbw
            clear hTm hTl hbw
            go_wp2
            obtain ⟨s1, s2⟩ := store3 hbR (.int .i64 op) (.int .i64 nn) (.slice vA Ts.length vc)
            generalize ((wr.setCell ⟨w.heap.size + 1, 0, none⟩ (.int .i64 op)).setCell ⟨w.heap.size + 1, 1, none⟩ (.int .i64 nn)).setCell ⟨w.heap.size + 1, 2, none⟩ (.slice vA Ts.length vc) = w5 at s1 s2 ⊢
            have t0 := cell_of_blk s1 0
            have t1 := cell_of_blk s1 1
            have t2 := cell_of_blk s1 2
            simp only [List.getElem?_toArray, List.getElem?_cons_zero, List.getElem?_cons_succ] at t0 t1 t2
            refine bodyPost_ret (v := .agg #[.int .i64 op, .int .i64 nn, .slice vA Ts.length vc]) (by simp [results, Tryd.f78, go_sem, t0, t1, t2]) rfl ⟨.mk op nn vA vc Ts, rfl, ?_, ?_, ?_⟩
            · rw [HF.out, MT.tr_mk, HTm.out, List.take_of_length_le (by omega)]
            · exact ((hvn.grown s2 (MT.All.imp (fun b hb e => by have : b = w.heap.size + 1 := Option.some.inj e; have := hb.1; have := HD.out; omega) _ hvn.2))).lo (by have := HD.out; omega)
            · exact HBw.out.trans (below_grown s2 (by omega) HBw.out.size)
      · rcases k0 : (op == 0)
        · have hop0 : op ≠ 0 := by simpa using k0
          have hF : nnf (MT.mk op nn A c args).tr true = .mk (dualF op) nn (args.map fun t => nnf t.tr true) := by
            rw [MT.tr_mk, nnf, if_neg hop3, if_neg (by simpa using hop0), nnfs_map, List.map_map]; rfl
          have HF := Lib.hid hF
          have HB := Lib.hid hB
          have hargs : args.length ≤ 9223372036854775807 := by omega
          have hdu := hG2.du op w0 w8
          have hdz : 1 < w.heap.size + 1 + 1 := by have := hG.size; omega
          clear hF hop3 war hB hblk1 hB1 hB2 hop0
          go_enter Tryd.func78, Tryd.ntmps78
          go_wp2_with fail
          obtain ⟨W3, hW3, hB3, hs3, hblk3⟩ := newBlk W2 _ hs2 #[.int .i64 (dualF op), .int .i64 nn, .slice none 0 0] 27
          have hblk23 := (hB3.block (w.heap.size + 1) (by omega)).trans hblk2
          have HB3 := Lib.hid (HB.out.trans (hB3.mono (by omega)))
          have hG3 := hG2.later (hB3.mono (by omega))
          obtain ⟨D, hD⟩ : ∃ D, w.heap.size + 1 + 1 = D := ⟨_, rfl⟩
          rw [hW3]
          simp only [hD] at hs3 hblk3 ⊢
          have hs3' : D + 1 ≤ W3.heap.size := by omega
          have HD := Lib.hid hD
          have HS3 := Lib.hid hs3
          clear hW1 hW2 hW3 hs1 hs2 hs3 hblk12 hblk2 a0 a1 a2 hB3 hD
          go_loopw [41] (fun i wr => ∃ (k : Nat) (v : Value) (Ts : List MT), k ≤ args.length ∧ i = .int .i64 k ∧ Ts.length = k ∧ Ts.map MT.tr = (args.take k).map (fun t => nnf t.tr true) ∧ wr.heap[D]? = some (.cells #[.int .i64 (dualF op), .int .i64 nn, v] 27) ∧ wr.heap[w.heap.size + 1]? = some (.cells #[.int .i64 0, .int .i64 0, .slice none 0 0] 27) ∧ Coll (D + 1) (D + 1) wr v Ts ∧ Below w.heap.size w wr ∧ W3.heap.size ≤ wr.heap.size) (fun i _ => args.length - (intOf i).toNat)
          case atStart => exact ⟨0, _, [], Nat.zero_le _, rfl, rfl, rfl, hblk3, hblk23, Coll.nil _ _ _, HB3.out, Nat.le_refl _⟩
          case round =>
            obtain ⟨k, v, Ts, hk, rfl, hTl, hTm, hbD, hbR, hco, hbw, hsw⟩ := hrel
            by_cases hlt : k < args.length
            · obtain ⟨ab, aoff, rfl, -, g0, g1, g2⟩ := elem3 hr hbw hlt
              obtain ⟨W5, hW5, hB5, hs5, hblk5⟩ := newBlk wr _ rfl #[.int .i64 args[k].op, .int .i64 args[k].n, .slice args[k].A args[k].args.length args[k].c] 27
              have hB05 : Below w.heap.size w W5 := hbw.trans (hB5.mono hbw.size)
              have hih := ih k hlt true W5.drew (wfs.at_ k hlt) (hG.later hB05.drew) ((hrow.at_ k hlt).later hB05.drew)
              simp only [MT.val] at hih
              have hDlt : D < wr.heap.size := (Array.getElem?_eq_some_iff.1 hbD).1
              have hbD5 := (hB5.block D hDlt).trans hbD
              have e0 := cell_of_blk hblk5 0
              have e1 := cell_of_blk hblk5 1
              have e2 := cell_of_blk hblk5 2
              have d2 := cell_of_blk hbD5 2
              simp only [List.getElem?_toArray, List.getElem?_cons_zero, List.getElem?_cons_succ] at e0 e1 e2 d2
              have HTm := Lib.hid hTm
              have HTl := Lib.hid hTl
              have HCo := Lib.hid hco
              have HBw := Lib.hid hbw
              have HBD := Lib.hid hbD
              have HBR := Lib.hid hbR
              clear hTm hTl hco hbw hbD hbR
              obtain ⟨i0, hi, hz0, hz1, hz2⟩ := info_parts con_info
              go_wp2_with fail
              have nD : D < W5.heap.size := by omega
              go_region_law (first
                  | (refine step_append_lies _ (by rfl) _ _ _ (by rfl) (D + 1) 27 i0 _ 3 40 Tryd.underlying25 hi hz0 hz1 hz2 rfl (by omega) v Ts.length (Ts.flatMap MT.cs) (by rfl) hco2.own ⟨w'.heap.size, 0, none⟩ 1 1 T'.cs (by rfl) (by rfl) (World.news_of_block (cs := #[.int .i64 T'.op, .int .i64 T'.n, .slice T'.A T'.args.length T'.c]) (t := 27) (fr := (0, 0)) (heap_alloc_new w' _)) (by simp [MT.cs, Value.oneCell']) (by omega) (by rw [HTl.out]; unfold maxLen; omega) (by rw [HTl.out]; omega) (by simp; omega) (w'.heap.size + 1) (by simp) ?_; intro g cap w6 hown6 hg6 hat6 hlt6; have hbD6 := (hg6.block D (by simp; omega) (fun e => by have := (own_lt HCo.out.own e.symm).1; omega)).trans ((Below.heap_alloc w' _ D (by omega)).trans hbDw); have m2 := cell_of_blk hbD6 2; have m3 := frozen_of_blk hbD6 2; simp only [List.getElem?_toArray, List.getElem?_cons_zero, List.getElem?_cons_succ] at m2)
                  | (go_simp; go_at_call 78; refine hih.mono ?_; rintro e w' ⟨T', rfl, htr, hnew, hbl⟩; have hbDw := (hbl.block D (show D < W5.heap.size by omega)).trans hbD5; have q2 := cell_of_blk hbDw 2; simp only [List.getElem?_toArray, List.getElem?_cons_zero, List.getElem?_cons_succ] at q2; have hco' := HCo.out.later (hB5.drew.trans (hbl.mono (show wr.heap.size ≤ W5.heap.size by omega))); have hco2 := hco'.later ((Below.refl _ w').alloc (Nat.le_refl _) (.cells #[.int .i64 T'.op, .int .i64 T'.n, .slice T'.A T'.args.length T'.c] 27)); have HTR := Lib.hid htr; clear htr; have hDw : D + 1 ≤ w'.heap.size := (by have := hbl.size; have h5 : W5.drew.heap.size = W5.heap.size := rfl; omega); have hDw' : D < w'.heap.size := hDw))
              all_goals
                go_wp2
                obtain ⟨z1, z2, z3⟩ := coll_step HCo.out hB5 ((Below.refl _ W5).drew.trans hbl) hnew hown6 hg6 hat6 HBD.out
                go_roundw
                case rel => exact ⟨k + 1, _, Ts ++ [T'], by omega, by go_num, by rw [List.length_append, HTl.out]; rfl, by rw [List.map_append, HTm.out, List.take_succ_eq_append_getElem hlt, List.map_append, List.map_singleton, HTR.out]; rfl, z1, (z3.block _ (by have := HD.out; omega)).trans HBR.out, z2, HBw.out.trans (z3.mono (by have := HD.out; omega)), Nat.le_trans hsw z3.size⟩
                case measure => simp [intOf]; omega
            · have d0 := cell_of_blk hbD 0
              have d1 := cell_of_blk hbD 1
              have d2 := cell_of_blk hbD 2
              have r0 := cell_of_blk hbR 0
              have r1 := cell_of_blk hbR 1
              have r2 := cell_of_blk hbR 2
              have f0 := frozen_of_blk hbR 0
              have f1 := frozen_of_blk hbR 1
              have f2 := frozen_of_blk hbR 2
              simp only [List.getElem?_toArray, List.getElem?_cons_zero, List.getElem?_cons_succ] at d0 d1 d2 r0 r1 r2
              obtain ⟨vA, vc, hve, hvn⟩ := in_of_row (lo := D + 1) (op := dualF op) (n := nn) hco.own (Nat.le_refl _) (fun t ht => (hco.trees t ht).1)
              subst hve
              have HTm := Lib.hid hTm
              have HBw := Lib.hid hbw
              clear hTm hTl hbw
              go_wp2
              obtain ⟨s1, s2⟩ := store3 hbR (.int .i64 (dualF op)) (.int .i64 nn) (.slice vA Ts.length vc)
              generalize ((wr.setCell ⟨w.heap.size + 1, 0, none⟩ (.int .i64 (dualF op))).setCell ⟨w.heap.size + 1, 1, none⟩ (.int .i64 nn)).setCell ⟨w.heap.size + 1, 2, none⟩ (.slice vA Ts.length vc) = w5 at s1 s2 ⊢
              have t0 := cell_of_blk s1 0
              have t1 := cell_of_blk s1 1
              have t2 := cell_of_blk s1 2
              simp only [List.getElem?_toArray, List.getElem?_cons_zero, List.getElem?_cons_succ] at t0 t1 t2
              refine bodyPost_ret (v := .agg #[.int .i64 (dualF op), .int .i64 nn, .slice vA Ts.length vc]) (by simp [results, Tryd.f78, go_sem, t0, t1, t2]) rfl ⟨.mk (dualF op) nn vA vc Ts, rfl, ?_, ?_, ?_⟩
              · rw [HF.out, MT.tr_mk, HTm.out, List.take_of_length_le (by omega)]
              · exact ((hvn.grown s2 (MT.All.imp (fun b hb e => by have : b = w.heap.size + 1 := Option.some.inj e; have := hb.1; have := HD.out; omega) _ hvn.2))).lo (by have := HD.out; omega)
              · exact HBw.out.trans (below_grown s2 (by omega) HBw.out.size)
        · have hop0 : op = 0 := by simpa using k0
          have hF : nnf (MT.mk op nn A c args).tr true = .mk 3 0 [.mk op nn []] := by
            rw [MT.tr_mk, nnf, if_neg hop3, if_pos ⟨rfl, hop0⟩, hop0]
          have HF := Lib.hid hF
          have HB := Lib.hid hB
          have r0 := cell_of_blk hblk2 0
          have r1 := cell_of_blk hblk2 1
          have r2 := cell_of_blk hblk2 2
          have f0 := frozen_of_blk hblk2 0
          have f1 := frozen_of_blk hblk2 1
          have f2 := frozen_of_blk hblk2 2
          simp only [List.getElem?_toArray, List.getElem?_cons_zero, List.getElem?_cons_succ] at r0 r1 r2
          clear hF hop0 hop3 war hB
          go_enter Tryd.func78, Tryd.ntmps78
          go_wp2
          obtain ⟨s1, s2⟩ := store3 hblk2 (.int .i64 3) (.int .i64 0) (.slice (some ⟨w.heap.size + 1 + 1 + 1, 0, none⟩) 1 1)
          have hss : (((W2.setCell ⟨w.heap.size + 1, 0, none⟩ (.int .i64 3)).setCell ⟨w.heap.size + 1, 1, none⟩ (.int .i64 0)).setCell ⟨w.heap.size + 1, 2, none⟩ (.slice (some ⟨w.heap.size + 1 + 1 + 1, 0, none⟩) 1 1)).heap.size = w.heap.size + 1 + 1 := by simp [World.setCell, hs2]
          generalize ((W2.setCell ⟨w.heap.size + 1, 0, none⟩ (.int .i64 3)).setCell ⟨w.heap.size + 1, 1, none⟩ (.int .i64 0)).setCell ⟨w.heap.size + 1, 2, none⟩ (.slice (some ⟨w.heap.size + 1 + 1 + 1, 0, none⟩) 1 1) = Ws at s1 s2 hss ⊢
          obtain ⟨W3, hW3, hB3, hs3, hblk3⟩ := newBlk Ws _ hss #[.int .i64 op, .int .i64 nn, .slice none 0 0] 27
          obtain ⟨W4, hW4, hB4, hs4, hblk4⟩ := newBlk W3 _ hs3 #[.int .i64 op, .int .i64 nn, .slice none 0 0] 27
          rw [hW3, hW4]
          have hR4 := (hB4.block (w.heap.size + 1) (by omega)).trans ((hB3.block (w.heap.size + 1) (by omega)).trans s1)
          have t0 := cell_of_blk hR4 0
          have t1 := cell_of_blk hR4 1
          have t2 := cell_of_blk hR4 2
          simp only [List.getElem?_toArray, List.getElem?_cons_zero, List.getElem?_cons_succ] at t0 t1 t2
          have hnew : New (w.heap.size + 1 + 1) W4 (.mk 3 0 (some ⟨w.heap.size + 1 + 1 + 1, 0, none⟩) 1 [.mk op nn none 0 []]) := by
            refine ⟨?_, ?_⟩
            · rw [MT.In]
              refine ⟨by simp, by simp, ⟨by simp [MT.cs], fun _ => ⟨_, 0, rfl, by omega, fun j hj => ?_⟩⟩, ?_⟩
              · rw [cell_of_blk hblk4]
                simp only [List.length_cons, List.length_nil] at hj
                match j, hj with
                | 0, _ => rfl
                | 1, _ => rfl
                | 2, _ => rfl
              · rw [MT.InAll, MT.InAll, MT.In]
                exact ⟨⟨by simp, by simp, RowAt.nil _ _ _ _, by rw [MT.InAll]; trivial⟩, trivial⟩
            · rw [Mine, MT.All, MT.Alls, MT.Alls, MT.All]
              exact ⟨fun _ => ⟨_, _, rfl, by omega, _, hblk4⟩, ⟨fun h => absurd rfl h, by rw [MT.Alls]; trivial⟩, trivial⟩
          refine bodyPost_ret (v := .agg #[.int .i64 3, .int .i64 0, .slice (some ⟨w.heap.size + 1 + 1 + 1, 0, none⟩) 1 1]) (by simp [results, Tryd.f78, go_sem, t0, t1, t2]) rfl ⟨.mk 3 0 (some ⟨w.heap.size + 1 + 1 + 1, 0, none⟩) 1 [.mk op nn none 0 []], rfl, ?_, ?_, ?_⟩
          · rw [HF.out]; rfl
          · exact hnew.lo (by omega)
          · exact (HB.out.trans (below_grown s2 (by omega) (by omega))).trans ((hB3.mono (by omega)).trans (hB4.mono (by omega)))
    · have hop : op = 3 := by simpa using k3
      have h1 : args.length = 1 := by
        rw [hop] at war
        have : arityF 3 = 1 := by decide
        omega
      have hpos : 0 < args.length := by omega
      obtain ⟨b, off, rfl, hlt, g0, g1, g2⟩ := elem3 hr hB hpos
      have g0' := add_zero' g0
      simp only [Nat.zero_mul, Nat.add_zero] at g1 g2
      have hih := ih 0 hpos (!neg) W2 (wfs.at_ 0 hpos) hG2 ((hrow.at_ 0 hpos).later hB)
      simp only [MT.val] at hih
      have hF : nnf (MT.mk op nn (some ⟨b, off, none⟩) c args).tr neg = nnf (args[0]'hpos).tr (!neg) := by
        rw [MT.tr_mk, nnf, if_pos hop]
        cases args with
        | nil => exact absurd hpos (Nat.lt_irrefl _)
        | cons a r => rw [List.map_cons, nnfHead]; rfl
      rw [hF]
      have HB := Lib.hid hB
      clear hF hop h1 war hB hblk1 hblk12 hB1 hB2 g0
      have b0 := cell_of_blk hblk2 0
      have b1 := cell_of_blk hblk2 1
      have b2 := cell_of_blk hblk2 2
      go_enter Tryd.func78, Tryd.ntmps78
      go_wp2_with (go_at_call 78; refine hih.mono ?_; rintro e w' ⟨T', rfl, htr, hnew, hbl⟩; have HTR := Lib.hid htr; clear htr; have hbk := (hbl.block (w.heap.size + 1) (by omega)).trans hblk2; have r0 := cell_of_blk hbk 0; have r1 := cell_of_blk hbk 1; have r2 := cell_of_blk hbk 2; have f0 := frozen_of_blk hbk 0; have f1 := frozen_of_blk hbk 1; have f2 := frozen_of_blk hbk 2; simp only [List.getElem?_toArray, List.getElem?_cons_zero, List.getElem?_cons_succ] at r0 r1 r2)
      obtain ⟨s1, s2⟩ := store3 hbk (.int .i64 T'.op) (.int .i64 T'.n) (.slice T'.A T'.args.length T'.c)
      generalize ((w'.setCell ⟨w.heap.size + 1, 0, none⟩ (.int .i64 T'.op)).setCell ⟨w.heap.size + 1, 1, none⟩ (.int .i64 T'.n)).setCell ⟨w.heap.size + 1, 2, none⟩ (.slice T'.A T'.args.length T'.c) = w5 at s1 s2 ⊢
      have t0 := cell_of_blk s1 0
      have t1 := cell_of_blk s1 1
      have t2 := cell_of_blk s1 2
      simp only [List.getElem?_toArray, List.getElem?_cons_zero, List.getElem?_cons_succ] at t0 t1 t2
      refine bodyPost_ret (v := .agg #[.int .i64 T'.op, .int .i64 T'.n, .slice T'.A T'.args.length T'.c]) (by simp [results, Tryd.f78, go_sem, t0, t1, t2]) rfl ⟨T', rfl, HTR.out, ?_, ?_⟩
      · exact (hnew.lo (by omega)).grown s2 (MT.All.imp (fun b hb e => by have : b = w.heap.size + 1 := Option.some.inj e; have := hb.1; omega) T' hnew.2)
      · exact (HB.out.trans (hbl.mono (by omega))).trans (below_grown s2 (by omega) (by have := hbl.size; omega))

set_option maxRecDepth 100000 in
set_option maxHeartbeats 2000000 in
theorem normalOfD_any (n : NM) (T : MT) (neg : Bool) (w : World) (hG : GD w) (hn : n.In w.heap.size w) (hT : T.In w.heap.size w) (hsz : T.tr.size ≤ 1000000) :
    Calls Tryd.prog 49 #[n.val, T.val, .bool neg] w (RetTreeE w (normTr n T neg) (normE n T neg)) := by
  obtain ⟨W1, hW1, hB1, hs1, hblk1⟩ := newBlk w _ rfl #[.slice n.C.A n.C.l.length n.C.c, .slice n.R.A n.R.l.length n.R.c, .slice n.I.A n.I.l.length n.I.c] 24
  obtain ⟨W2, hW2, hB2, hs2, hblk2⟩ := newBlk W1 _ hs1 #[.int .i64 T.op, .int .i64 T.n, .slice T.A T.args.length T.c] 27
  obtain ⟨W3, hW3, hB3, hs3, hblk3⟩ := newBlk W2 _ hs2 #[.int .i64 0, .int .i64 0, .slice none 0 0] 27
  have hB : Below w.heap.size w W3 := (hB1.trans (hB2.mono (by omega))).trans (hB3.mono (by omega))
  have hblk13 := (hB3.block w.heap.size (by omega)).trans ((hB2.block w.heap.size (by omega)).trans hblk1)
  have hblk23 := (hB3.block (w.heap.size + 1) (by omega)).trans hblk2
  have a0 := cell_of_blk hblk13 0
  have a1 := cell_of_blk hblk13 1
  have a2 := cell_of_blk hblk13 2
  have b0 := cell_of_blk hblk23 0
  have b1 := cell_of_blk hblk23 1
  have b2 := cell_of_blk hblk23 2
  simp only [List.getElem?_toArray, List.getElem?_cons_zero, List.getElem?_cons_succ] at a0 a1 a2 b0 b1 b2
  have hck := cCheckA_any n T W3 (hG.later hB).ga (hn.later hB) (hT.later hB) (by rw [MT.pre_length]; exact hsz)
  simp only [NM.val, MT.val] at hck ⊢
  rcases hz : (checkF n T == 0)
  · have HT := Lib.hid (show normTr n T neg = zeroTr by rw [normTr, hz]; rfl)
    have HE := Lib.hid (show normE n T neg = checkF n T by rw [normE, hz]; rfl)
    have hz2 : (checkF n T != 0) = true := by rw [bne, hz]; rfl
    have HB := Lib.hid hB
    clear hz hB hB1 hB2 hB3 hblk1 hblk2 hblk13 hblk23
    go_enter Tryd.func49, Tryd.ntmps49
    go_wp2_with (go_at_call 50; refine hck.mono ?_; rintro e w4 ⟨rfl, hb4⟩; have hbk := (hb4.block (w.heap.size + 1 + 1) (by omega)).trans hblk3; have r0 := cell_of_blk hbk 0; have r1 := cell_of_blk hbk 1; have r2 := cell_of_blk hbk 2; have f0 := frozen_of_blk hbk 0; have f1 := frozen_of_blk hbk 1; have f2 := frozen_of_blk hbk 2; simp only [List.getElem?_toArray, List.getElem?_cons_zero, List.getElem?_cons_succ] at r0 r1 r2)
    obtain ⟨s1, s2⟩ := store3 hbk (.int .i64 0) (.int .i64 0) (.slice none 0 0)
    generalize ((w4.setCell ⟨w.heap.size + 1 + 1, 0, none⟩ (.int .i64 0)).setCell ⟨w.heap.size + 1 + 1, 1, none⟩ (.int .i64 0)).setCell ⟨w.heap.size + 1 + 1, 2, none⟩ (.slice none 0 0) = w5 at s1 s2 ⊢
    have t0 := cell_of_blk s1 0
    have t1 := cell_of_blk s1 1
    have t2 := cell_of_blk s1 2
    simp only [List.getElem?_toArray, List.getElem?_cons_zero, List.getElem?_cons_succ] at t0 t1 t2
    refine bodyPost_ret (v := .tuple #[.agg #[.int .i64 0, .int .i64 0, .slice none 0 0], .int .i64 (checkF n T)]) (by simp [results, Tryd.f49, go_sem, t0, t1, t2]) rfl ⟨zeroMT, ?_, ?_, new_zero _ _, ?_⟩
    · rw [HE.out]; rfl
    · rw [HT.out]; rfl
    · exact (HB.out.trans (hb4.mono (by omega))).trans (below_grown s2 (by omega) (by have := hb4.size; omega))
  · obtain ⟨hok, hv⟩ := checkF_zero hz
    have hwf := wf_of_valid hv
    have hs400 := valid_size hv
    have hns := nnf_size T.tr neg
    have hz0 : checkF n T = 0 := by simpa using hz
    rw [hz0] at hck
    have HB := Lib.hid hB
    have HZ := Lib.hid hz
    have HG := Lib.hid hG
    have HTi := Lib.hid hT
    clear hz hz0 hok hv hB hB1 hB2 hB3 hblk1 hblk2 hblk13 hn hG hT
    have hin4 : ∀ w4, Below W3.heap.size W3 w4 → Calls Tryd.prog 78 #[T.val, .bool neg] w4 (RetTree w4 (nnf T.tr neg)) := fun w4 hb4 =>
      pushedD_any T neg w4 hwf (HG.out.later (HB.out.trans (hb4.mono (by omega)))) (HTi.out.later (HB.out.trans (hb4.mono (by omega))))
    simp only [MT.val] at hin4
    have HI := Lib.hid hin4
    clear hin4 hwf
    by_cases q1 : (400 : Int) < ((nnf T.tr neg).size : Int)
    · have hsm : smallB (nnf T.tr neg) = false := by rw [smallB, decide_eq_false (by omega), Bool.false_and]
      have HT := Lib.hid (show normTr n T neg = zeroTr by rw [normTr, HZ.out, hsm]; rfl)
      have HE := Lib.hid (show normE n T neg = 2 by rw [normE, HZ.out, hsm]; rfl)
      clear hsm
      go_enter Tryd.func49, Tryd.ntmps49
      go_wp2_with (first
        | (go_at_call 50; refine hck.mono ?_; rintro e w4 ⟨rfl, hb4⟩; have hb4s := hb4.size; have hbk4 := (hb4.block (w.heap.size + 1) (by omega)).trans hblk23; have r0 := cell_of_blk hbk4 0; have r1 := cell_of_blk hbk4 1; have r2 := cell_of_blk hbk4 2; simp only [List.getElem?_toArray, List.getElem?_cons_zero, List.getElem?_cons_succ] at r0 r1 r2)
        | (go_at_call 78; refine (HI.out w4 hb4).mono ?_; rintro e w5 ⟨T', rfl, htr, hnew, hb5⟩; have hb5s := hb5.size; have HTr := Lib.hid htr; clear htr; obtain ⟨W6, hW6, hB6, hs6, hblk6⟩ := newBlk w5 _ rfl #[.int .i64 T'.op, .int .i64 T'.n, .slice T'.A T'.args.length T'.c] 27; have k0 := cell_of_blk hblk6 0; have k1 := cell_of_blk hblk6 1; have k2 := cell_of_blk hblk6 2; simp only [List.getElem?_toArray, List.getElem?_cons_zero, List.getElem?_cons_succ] at k0 k1 k2; have hsz6 := cSize_any T' W6 (hnew.1.later hB6) (by rw [MT.pre_length, HTr.out]; omega); rw [MT.pre_length, maxLev_pre, HTr.out] at hsz6; simp only [MT.val] at hsz6)
        | (go_at_call 79; refine hsz6.mono ?_; rintro e w7 ⟨rfl, hb7⟩; have hbk7 := (hb7.block (w.heap.size + 1 + 1) (by omega)).trans ((hB6.block (w.heap.size + 1 + 1) (by omega)).trans ((hb5.block (w.heap.size + 1 + 1) (by omega)).trans ((hb4.block (w.heap.size + 1 + 1) (by omega)).trans hblk3))); have u0 := cell_of_blk hbk7 0; have u1 := cell_of_blk hbk7 1; have u2 := cell_of_blk hbk7 2; have v0 := frozen_of_blk hbk7 0; have v1 := frozen_of_blk hbk7 1; have v2 := frozen_of_blk hbk7 2; have hbk8 := (hb7.block w5.heap.size (by omega)).trans hblk6; have x0 := cell_of_blk hbk8 0; have x1 := cell_of_blk hbk8 1; have x2 := cell_of_blk hbk8 2; simp only [List.getElem?_toArray, List.getElem?_cons_zero, List.getElem?_cons_succ] at u0 u1 u2 x0 x1 x2))
      obtain ⟨s1, s2⟩ := store3 hbk7 (.int .i64 0) (.int .i64 0) (.slice none 0 0)
      generalize ((w7.setCell ⟨w.heap.size + 1 + 1, 0, none⟩ (.int .i64 0)).setCell ⟨w.heap.size + 1 + 1, 1, none⟩ (.int .i64 0)).setCell ⟨w.heap.size + 1 + 1, 2, none⟩ (.slice none 0 0) = w8 at s1 s2 ⊢
      have t0 := cell_of_blk s1 0
      have t1 := cell_of_blk s1 1
      have t2 := cell_of_blk s1 2
      simp only [List.getElem?_toArray, List.getElem?_cons_zero, List.getElem?_cons_succ] at t0 t1 t2
      refine bodyPost_ret (v := .tuple #[.agg #[.int .i64 0, .int .i64 0, .slice none 0 0], .int .i64 2]) (by simp [results, Tryd.f49, go_sem, t0, t1, t2]) rfl ⟨zeroMT, ?_, ?_, new_zero _ _, ?_⟩
      · rw [HE.out]; rfl
      · rw [HT.out]; rfl
      · exact ((((HB.out.trans (hb4.mono (by omega))).trans (hb5.mono (by omega))).trans (hB6.mono (by omega))).trans (hb7.mono (by omega))).trans (below_grown s2 (by omega) (by have := hb7.size; omega))
    · by_cases q2 : (20 : Int) < ((nnf T.tr neg).depth : Int)
      · have hsm : smallB (nnf T.tr neg) = false := by rw [smallB, decide_eq_false (show ¬ (nnf T.tr neg).depth ≤ 20 by omega), Bool.and_false]
        have HT := Lib.hid (show normTr n T neg = zeroTr by rw [normTr, HZ.out, hsm]; rfl)
        have HE := Lib.hid (show normE n T neg = 2 by rw [normE, HZ.out, hsm]; rfl)
        clear hsm
        go_enter Tryd.func49, Tryd.ntmps49
        go_wp2_with (first
          | (go_at_call 50; refine hck.mono ?_; rintro e w4 ⟨rfl, hb4⟩; have hb4s := hb4.size; have hbk4 := (hb4.block (w.heap.size + 1) (by omega)).trans hblk23; have r0 := cell_of_blk hbk4 0; have r1 := cell_of_blk hbk4 1; have r2 := cell_of_blk hbk4 2; simp only [List.getElem?_toArray, List.getElem?_cons_zero, List.getElem?_cons_succ] at r0 r1 r2)
          | (go_at_call 78; refine (HI.out w4 hb4).mono ?_; rintro e w5 ⟨T', rfl, htr, hnew, hb5⟩; have hb5s := hb5.size; have HTr := Lib.hid htr; clear htr; obtain ⟨W6, hW6, hB6, hs6, hblk6⟩ := newBlk w5 _ rfl #[.int .i64 T'.op, .int .i64 T'.n, .slice T'.A T'.args.length T'.c] 27; have k0 := cell_of_blk hblk6 0; have k1 := cell_of_blk hblk6 1; have k2 := cell_of_blk hblk6 2; simp only [List.getElem?_toArray, List.getElem?_cons_zero, List.getElem?_cons_succ] at k0 k1 k2; have hsz6 := cSize_any T' W6 (hnew.1.later hB6) (by rw [MT.pre_length, HTr.out]; omega); rw [MT.pre_length, maxLev_pre, HTr.out] at hsz6; simp only [MT.val] at hsz6)
          | (go_at_call 79; refine hsz6.mono ?_; rintro e w7 ⟨rfl, hb7⟩; have hbk7 := (hb7.block (w.heap.size + 1 + 1) (by omega)).trans ((hB6.block (w.heap.size + 1 + 1) (by omega)).trans ((hb5.block (w.heap.size + 1 + 1) (by omega)).trans ((hb4.block (w.heap.size + 1 + 1) (by omega)).trans hblk3))); have u0 := cell_of_blk hbk7 0; have u1 := cell_of_blk hbk7 1; have u2 := cell_of_blk hbk7 2; have v0 := frozen_of_blk hbk7 0; have v1 := frozen_of_blk hbk7 1; have v2 := frozen_of_blk hbk7 2; have hbk8 := (hb7.block w5.heap.size (by omega)).trans hblk6; have x0 := cell_of_blk hbk8 0; have x1 := cell_of_blk hbk8 1; have x2 := cell_of_blk hbk8 2; simp only [List.getElem?_toArray, List.getElem?_cons_zero, List.getElem?_cons_succ] at u0 u1 u2 x0 x1 x2))
        obtain ⟨s1, s2⟩ := store3 hbk7 (.int .i64 0) (.int .i64 0) (.slice none 0 0)
        generalize ((w7.setCell ⟨w.heap.size + 1 + 1, 0, none⟩ (.int .i64 0)).setCell ⟨w.heap.size + 1 + 1, 1, none⟩ (.int .i64 0)).setCell ⟨w.heap.size + 1 + 1, 2, none⟩ (.slice none 0 0) = w8 at s1 s2 ⊢
        have t0 := cell_of_blk s1 0
        have t1 := cell_of_blk s1 1
        have t2 := cell_of_blk s1 2
        simp only [List.getElem?_toArray, List.getElem?_cons_zero, List.getElem?_cons_succ] at t0 t1 t2
        refine bodyPost_ret (v := .tuple #[.agg #[.int .i64 0, .int .i64 0, .slice none 0 0], .int .i64 2]) (by simp [results, Tryd.f49, go_sem, t0, t1, t2]) rfl ⟨zeroMT, ?_, ?_, new_zero _ _, ?_⟩
        · rw [HE.out]; rfl
        · rw [HT.out]; rfl
        · exact ((((HB.out.trans (hb4.mono (by omega))).trans (hb5.mono (by omega))).trans (hB6.mono (by omega))).trans (hb7.mono (by omega))).trans (below_grown s2 (by omega) (by have := hb7.size; omega))
      · have hsm : smallB (nnf T.tr neg) = true := by rw [smallB, decide_eq_true (by omega), decide_eq_true (by omega)]; rfl
        have HT := Lib.hid (show normTr n T neg = nnf T.tr neg by rw [normTr, HZ.out, hsm]; rfl)
        have HE := Lib.hid (show normE n T neg = 0 by rw [normE, HZ.out, hsm]; rfl)
        clear hsm
        go_enter Tryd.func49, Tryd.ntmps49
        go_wp2_with (first
          | (go_at_call 50; refine hck.mono ?_; rintro e w4 ⟨rfl, hb4⟩; have hb4s := hb4.size; have hbk4 := (hb4.block (w.heap.size + 1) (by omega)).trans hblk23; have r0 := cell_of_blk hbk4 0; have r1 := cell_of_blk hbk4 1; have r2 := cell_of_blk hbk4 2; simp only [List.getElem?_toArray, List.getElem?_cons_zero, List.getElem?_cons_succ] at r0 r1 r2)
          | (go_at_call 78; refine (HI.out w4 hb4).mono ?_; rintro e w5 ⟨T', rfl, htr, hnew, hb5⟩; have hb5s := hb5.size; have HTr := Lib.hid htr; clear htr; obtain ⟨W6, hW6, hB6, hs6, hblk6⟩ := newBlk w5 _ rfl #[.int .i64 T'.op, .int .i64 T'.n, .slice T'.A T'.args.length T'.c] 27; have k0 := cell_of_blk hblk6 0; have k1 := cell_of_blk hblk6 1; have k2 := cell_of_blk hblk6 2; simp only [List.getElem?_toArray, List.getElem?_cons_zero, List.getElem?_cons_succ] at k0 k1 k2; have hsz6 := cSize_any T' W6 (hnew.1.later hB6) (by rw [MT.pre_length, HTr.out]; omega); rw [MT.pre_length, maxLev_pre, HTr.out] at hsz6; simp only [MT.val] at hsz6)
          | (go_at_call 79; refine hsz6.mono ?_; rintro e w7 ⟨rfl, hb7⟩; have hbk7 := (hb7.block (w.heap.size + 1 + 1) (by omega)).trans ((hB6.block (w.heap.size + 1 + 1) (by omega)).trans ((hb5.block (w.heap.size + 1 + 1) (by omega)).trans ((hb4.block (w.heap.size + 1 + 1) (by omega)).trans hblk3))); have u0 := cell_of_blk hbk7 0; have u1 := cell_of_blk hbk7 1; have u2 := cell_of_blk hbk7 2; have v0 := frozen_of_blk hbk7 0; have v1 := frozen_of_blk hbk7 1; have v2 := frozen_of_blk hbk7 2; have hbk8 := (hb7.block w5.heap.size (by omega)).trans hblk6; have x0 := cell_of_blk hbk8 0; have x1 := cell_of_blk hbk8 1; have x2 := cell_of_blk hbk8 2; simp only [List.getElem?_toArray, List.getElem?_cons_zero, List.getElem?_cons_succ] at u0 u1 u2 x0 x1 x2))
        obtain ⟨s1, s2⟩ := store3 hbk7 (.int .i64 T'.op) (.int .i64 T'.n) (.slice T'.A T'.args.length T'.c)
        generalize ((w7.setCell ⟨w.heap.size + 1 + 1, 0, none⟩ (.int .i64 T'.op)).setCell ⟨w.heap.size + 1 + 1, 1, none⟩ (.int .i64 T'.n)).setCell ⟨w.heap.size + 1 + 1, 2, none⟩ (.slice T'.A T'.args.length T'.c) = w8 at s1 s2 ⊢
        have t0 := cell_of_blk s1 0
        have t1 := cell_of_blk s1 1
        have t2 := cell_of_blk s1 2
        simp only [List.getElem?_toArray, List.getElem?_cons_zero, List.getElem?_cons_succ] at t0 t1 t2
        have hB47 : Below w5.heap.size w5 w7 := hB6.trans (hb7.mono (by omega))
        have hnew8 : New w4.heap.size w8 T' := (hnew.later hB47).grown s2 (MT.All.imp (fun b hb e => by have : b = w.heap.size + 1 + 1 := Option.some.inj e; have := hb.1; omega) _ hnew.2)
        refine bodyPost_ret (v := .tuple #[.agg #[.int .i64 T'.op, .int .i64 T'.n, .slice T'.A T'.args.length T'.c], .int .i64 0]) (by simp [results, Tryd.f49, go_sem, t0, t1, t2]) rfl ⟨T', ?_, ?_, hnew8.lo (by omega), ?_⟩
        · rw [HE.out]
        · rw [HT.out, HTr.out]
        · exact ((((HB.out.trans (hb4.mono (by omega))).trans (hb5.mono (by omega))).trans (hB6.mono (by omega))).trans (hb7.mono (by omega))).trans (below_grown s2 (by omega) (by have := hb7.size; omega))

set_option maxRecDepth 100000 in
set_option maxHeartbeats 2000000 in
theorem NormalD_any (n : NM) (T : MT) (w : World) (hG : GD w) (hn : n.In w.heap.size w) (hT : T.In w.heap.size w) (hsz : T.tr.size ≤ 1000000) :
    Calls Tryd.prog 13 #[n.val, T.val] w (RetTreeE w (normTr n T false) (normE n T false)) := by
  obtain ⟨W1, hW1, hB1, hs1, hblk1⟩ := newBlk w _ rfl #[.slice n.C.A n.C.l.length n.C.c, .slice n.R.A n.R.l.length n.R.c, .slice n.I.A n.I.l.length n.I.c] 24
  obtain ⟨W2, hW2, hB2, hs2, hblk2⟩ := newBlk W1 _ hs1 #[.int .i64 T.op, .int .i64 T.n, .slice T.A T.args.length T.c] 27
  obtain ⟨W3, hW3, hB3, hs3, hblk3⟩ := newBlk W2 _ hs2 #[.int .i64 0, .int .i64 0, .slice none 0 0] 27
  have hB : Below w.heap.size w W3 := (hB1.trans (hB2.mono (by omega))).trans (hB3.mono (by omega))
  have hblk13 := (hB3.block w.heap.size (by omega)).trans ((hB2.block w.heap.size (by omega)).trans hblk1)
  have hblk23 := (hB3.block (w.heap.size + 1) (by omega)).trans hblk2
  have a0 := cell_of_blk hblk13 0
  have a1 := cell_of_blk hblk13 1
  have a2 := cell_of_blk hblk13 2
  have b0 := cell_of_blk hblk23 0
  have b1 := cell_of_blk hblk23 1
  have b2 := cell_of_blk hblk23 2
  simp only [List.getElem?_toArray, List.getElem?_cons_zero, List.getElem?_cons_succ] at a0 a1 a2 b0 b1 b2
  have hno := normalOfD_any n T false W3 (hG.later hB) (hn.later hB) (hT.later hB) hsz
  simp only [NM.val, MT.val] at hno ⊢
  have HB := Lib.hid hB
  clear hB hB1 hB2 hB3 hblk1 hblk2 hblk13 hblk23
  go_enter Tryd.func13, Tryd.ntmps13
  go_wp2_with (go_at_call 49; refine hno.mono ?_; rintro e w7 ⟨T', rfl, htr, hnew, hb7⟩; have HTr := Lib.hid htr; clear htr; have hbk7 := (hb7.block (w.heap.size + 1 + 1) (by omega)).trans hblk3; have u0 := cell_of_blk hbk7 0; have u1 := cell_of_blk hbk7 1; have u2 := cell_of_blk hbk7 2; have v0 := frozen_of_blk hbk7 0; have v1 := frozen_of_blk hbk7 1; have v2 := frozen_of_blk hbk7 2; simp only [List.getElem?_toArray, List.getElem?_cons_zero, List.getElem?_cons_succ] at u0 u1 u2)
  obtain ⟨s1, s2⟩ := store3 hbk7 (.int .i64 T'.op) (.int .i64 T'.n) (.slice T'.A T'.args.length T'.c)
  generalize ((w7.setCell ⟨w.heap.size + 1 + 1, 0, none⟩ (.int .i64 T'.op)).setCell ⟨w.heap.size + 1 + 1, 1, none⟩ (.int .i64 T'.n)).setCell ⟨w.heap.size + 1 + 1, 2, none⟩ (.slice T'.A T'.args.length T'.c) = w8 at s1 s2 ⊢
  have t0 := cell_of_blk s1 0
  have t1 := cell_of_blk s1 1
  have t2 := cell_of_blk s1 2
  simp only [List.getElem?_toArray, List.getElem?_cons_zero, List.getElem?_cons_succ] at t0 t1 t2
  refine bodyPost_ret (v := .tuple #[.agg #[.int .i64 T'.op, .int .i64 T'.n, .slice T'.A T'.args.length T'.c], .int .i64 (normE n T false)]) (by simp [results, Tryd.f13, go_sem, t0, t1, t2]) rfl ⟨T', rfl, HTr.out, ?_, ?_⟩
  · exact (hnew.grown s2 (MT.All.imp (fun b hb e => by have : b = w.heap.size + 1 + 1 := Option.some.inj e; have := hb.1; omega) _ hnew.2)).lo (by omega)
  · exact (HB.out.trans (hb7.mono (by omega))).trans (below_grown s2 (by omega) (by have := hb7.size; omega))

set_option maxRecDepth 100000 in
set_option maxHeartbeats 2000000 in
theorem NotD_any (n : NM) (T : MT) (w : World) (hG : GD w) (hn : n.In w.heap.size w) (hT : T.In w.heap.size w) (hsz : T.tr.size ≤ 1000000) :
    Calls Tryd.prog 15 #[n.val, T.val] w (RetTreeE w (normTr n T true) (normE n T true)) := by
  obtain ⟨W1, hW1, hB1, hs1, hblk1⟩ := newBlk w _ rfl #[.slice n.C.A n.C.l.length n.C.c, .slice n.R.A n.R.l.length n.R.c, .slice n.I.A n.I.l.length n.I.c] 24
  obtain ⟨W2, hW2, hB2, hs2, hblk2⟩ := newBlk W1 _ hs1 #[.int .i64 T.op, .int .i64 T.n, .slice T.A T.args.length T.c] 27
  obtain ⟨W3, hW3, hB3, hs3, hblk3⟩ := newBlk W2 _ hs2 #[.int .i64 0, .int .i64 0, .slice none 0 0] 27
  have hB : Below w.heap.size w W3 := (hB1.trans (hB2.mono (by omega))).trans (hB3.mono (by omega))
  have hblk13 := (hB3.block w.heap.size (by omega)).trans ((hB2.block w.heap.size (by omega)).trans hblk1)
  have hblk23 := (hB3.block (w.heap.size + 1) (by omega)).trans hblk2
  have a0 := cell_of_blk hblk13 0
  have a1 := cell_of_blk hblk13 1
  have a2 := cell_of_blk hblk13 2
  have b0 := cell_of_blk hblk23 0
  have b1 := cell_of_blk hblk23 1
  have b2 := cell_of_blk hblk23 2
  simp only [List.getElem?_toArray, List.getElem?_cons_zero, List.getElem?_cons_succ] at a0 a1 a2 b0 b1 b2
  have hno := normalOfD_any n T true W3 (hG.later hB) (hn.later hB) (hT.later hB) hsz
  simp only [NM.val, MT.val] at hno ⊢
  have HB := Lib.hid hB
  clear hB hB1 hB2 hB3 hblk1 hblk2 hblk13 hblk23
  go_enter Tryd.func15, Tryd.ntmps15
  go_wp2_with (go_at_call 49; refine hno.mono ?_; rintro e w7 ⟨T', rfl, htr, hnew, hb7⟩; have HTr := Lib.hid htr; clear htr; have hbk7 := (hb7.block (w.heap.size + 1 + 1) (by omega)).trans hblk3; have u0 := cell_of_blk hbk7 0; have u1 := cell_of_blk hbk7 1; have u2 := cell_of_blk hbk7 2; have v0 := frozen_of_blk hbk7 0; have v1 := frozen_of_blk hbk7 1; have v2 := frozen_of_blk hbk7 2; simp only [List.getElem?_toArray, List.getElem?_cons_zero, List.getElem?_cons_succ] at u0 u1 u2)
  obtain ⟨s1, s2⟩ := store3 hbk7 (.int .i64 T'.op) (.int .i64 T'.n) (.slice T'.A T'.args.length T'.c)
  generalize ((w7.setCell ⟨w.heap.size + 1 + 1, 0, none⟩ (.int .i64 T'.op)).setCell ⟨w.heap.size + 1 + 1, 1, none⟩ (.int .i64 T'.n)).setCell ⟨w.heap.size + 1 + 1, 2, none⟩ (.slice T'.A T'.args.length T'.c) = w8 at s1 s2 ⊢
  have t0 := cell_of_blk s1 0
  have t1 := cell_of_blk s1 1
  have t2 := cell_of_blk s1 2
  simp only [List.getElem?_toArray, List.getElem?_cons_zero, List.getElem?_cons_succ] at t0 t1 t2
  refine bodyPost_ret (v := .tuple #[.agg #[.int .i64 T'.op, .int .i64 T'.n, .slice T'.A T'.args.length T'.c], .int .i64 (normE n T true)]) (by simp [results, Tryd.f15, go_sem, t0, t1, t2]) rfl ⟨T', rfl, HTr.out, ?_, ?_⟩
  · exact (hnew.grown s2 (MT.All.imp (fun b hb e => by have : b = w.heap.size + 1 + 1 := Option.some.inj e; have := hb.1; omega) _ hnew.2)).lo (by omega)
  · exact (HB.out.trans (hb7.mono (by omega))).trans (below_grown s2 (by omega) (by have := hb7.size; omega))

end Go.Proofs.YtneegmhcmegijaaDoor

namespace Go.Proofs.YtneegmhcmegijaaDoor
open Go.RowKit

theorem mem_selR (p : Nat → Bool) (m x : Nat) : (selR p m).contains (x : Int) = (decide (x < m) && p x) := by
  rw [Bool.eq_iff_iff, List.contains_iff_mem, Bool.and_eq_true, decide_eq_true_eq]
  unfold selR
  rw [List.mem_map]
  constructor
  · rintro ⟨y, hy, e⟩
    have : y = x := by omega
    subst this
    rw [List.mem_filter, List.mem_range] at hy
    exact hy
  · intro h
    exact ⟨x, List.mem_filter.2 ⟨List.mem_range.2 h.1, h.2⟩, rfl⟩
theorem selR_facts (p : Nat → Bool) (m : Nat) : ∀ z ∈ selR p m, ∃ x : Nat, z = (x : Int) ∧ x < m := fun z hz => by
  unfold selR at hz
  obtain ⟨y, hy, e⟩ := List.mem_map.1 hz
  rw [List.mem_filter, List.mem_range] at hy
  exact ⟨y, e.symm, hy.1⟩
theorem selR_ok (p : Nat → Bool) (m : Nat) : okN m (selR p m) = true := by
  refine okN_yes (fun j hj => ?_) fun j hj => ?_
  · obtain ⟨x, hx, hm⟩ := selR_facts p m _ (List.getElem_mem hj)
    rw [hx, foreignB, Bool.or_eq_false_iff]
    exact ⟨decide_eq_false (by omega), decide_eq_false (by omega)⟩
  · have hp : (selR p m).Pairwise (· < ·) := by
      unfold selR
      rw [List.pairwise_map]
      exact (List.pairwise_lt_range.filter _).imp fun h => by omega
    rw [ltI]
    exact decide_eq_true (List.pairwise_iff_getElem.1 hp j (j + 1) (by omega) hj (by omega))

set_option maxRecDepth 100000 in
set_option maxHeartbeats 8000000 in
/-- The elements of a concept by the program, as a set. -/
theorem setL_any (n : NM) (T : MT) (i : IN) (m : Nat) (w : World) (hG : GT w) (hn : n.In w.heap.size w) (hT : T.In w.heap.size w) (hi : i.In w.heap.size w) (hm : i.size = m) (hsz : (T.pre 1).length ≤ 1000000) (hck : checkF n T = 0) (hci : icheckF n i = 0) (hwf : T.tr.wfT i.C.length i.R.length = true) (h1 : 1 ≤ m) (h256 : m ≤ 256) (hl : listsB i = true) (hC : i.C.length ≤ 1000) (hR : i.R.length ≤ 1000) (hI : i.I.l.length ≤ 1000) :
    Calls Tryd.prog 36 #[n.val, T.val, i.val] w (RetB m (semT i m T.tr) w) := by
  obtain ⟨W1, hW1, hB1, hs1, hk1⟩ := newBlk w _ rfl #[.slice n.C.A n.C.l.length n.C.c, .slice n.R.A n.R.l.length n.R.c, .slice n.I.A n.I.l.length n.I.c] 24
  obtain ⟨W2, hW2, hB2, hs2, hk2⟩ := newBlk W1 _ hs1 #[.int .i64 T.op, .int .i64 T.n, .slice T.A T.args.length T.c] 27
  obtain ⟨W3, hW3, hB3, hs3, hk3⟩ := newBlk W2 _ hs2 #[.int .i64 i.size, .slice i.CA i.C.length i.cc, .slice i.RA i.R.length i.rc, .slice i.I.A i.I.l.length i.I.c] 52
  obtain ⟨W4, hW4, hB4, hs4, hk4⟩ := newBlk W3 _ hs3 (bcs (fun _ => false) m).toArray 4
  have hB : Below w.heap.size w W4 := (((hB1.trans (hB2.mono (by omega))).trans (hB3.mono (by omega))).trans (hB4.mono (by omega)))
  have hkk1 := ((hB4.block (w.heap.size) (by omega)).trans ((hB3.block (w.heap.size) (by omega)).trans ((hB2.block (w.heap.size) (by omega)).trans hk1)))
  have hkk2 := ((hB4.block (w.heap.size + 1) (by omega)).trans ((hB3.block (w.heap.size + 1) (by omega)).trans hk2))
  have hkk3 := ((hB4.block (w.heap.size + 1 + 1) (by omega)).trans hk3)
  have hS : ∀ w', Below W4.heap.size W4 w' → ((w'.cell? ⟨w.heap.size, 0, none⟩ = some (.slice n.C.A n.C.l.length n.C.c) ∧ w'.cell? ⟨w.heap.size, 1, none⟩ = some (.slice n.R.A n.R.l.length n.R.c) ∧ w'.cell? ⟨w.heap.size, 2, none⟩ = some (.slice n.I.A n.I.l.length n.I.c)) ∧ (w'.cell? ⟨w.heap.size + 1, 0, none⟩ = some (.int .i64 T.op) ∧ w'.cell? ⟨w.heap.size + 1, 1, none⟩ = some (.int .i64 T.n) ∧ w'.cell? ⟨w.heap.size + 1, 2, none⟩ = some (.slice T.A T.args.length T.c)) ∧ (w'.cell? ⟨w.heap.size + 1 + 1, 0, none⟩ = some (.int .i64 (m : Int)) ∧ w'.cell? ⟨w.heap.size + 1 + 1, 1, none⟩ = some (.slice i.CA i.C.length i.cc) ∧ w'.cell? ⟨w.heap.size + 1 + 1, 2, none⟩ = some (.slice i.RA i.R.length i.rc) ∧ w'.cell? ⟨w.heap.size + 1 + 1, 3, none⟩ = some (.slice i.I.A i.I.l.length i.I.c))) := fun w' hb => by
    rw [← hm]
    exact ⟨⟨cell_of_blk (blk_lat hkk1 hb) 0, cell_of_blk (blk_lat hkk1 hb) 1, cell_of_blk (blk_lat hkk1 hb) 2⟩, ⟨cell_of_blk (blk_lat hkk2 hb) 0, cell_of_blk (blk_lat hkk2 hb) 1, cell_of_blk (blk_lat hkk2 hb) 2⟩, ⟨cell_of_blk (blk_lat hkk3 hb) 0, cell_of_blk (blk_lat hkk3 hb) 1, cell_of_blk (blk_lat hkk3 hb) 2, cell_of_blk (blk_lat hkk3 hb) 3⟩⟩
  have b0 : W3.cell? ⟨w.heap.size + 1 + 1, 0, none⟩ = some (.int .i64 (m : Int)) := by rw [← hm]; exact cell_of_blk hk3 0
  have hmk := make_bools m h256 W3
  rw [hs3, hW4] at hmk
  have hel := iElements_ok n T i m W4 (hG.later hB) (hn.later hB) (hT.later hB) (hi.later hB) hm hsz hck hci hwf h1 h256 hl hC hR hI
  rw [selR_els h256 (semT_lt i m hm hl T hwf)] at hel
  obtain ⟨p, hp⟩ : ∃ p, semT i m T.tr = p := ⟨_, rfl⟩
  rw [hp] at hel ⊢
  have hok := selR_ok p m
  have hfa := selR_facts p m
  have hme := mem_selR p m
  obtain ⟨L, hL⟩ : ∃ L, selR p m = L := ⟨_, rfl⟩
  rw [hL] at hel hok hfa hme
  have HOK := Lib.hid hok
  have HFA := Lib.hid hfa
  have HME := Lib.hid hme
  have HEL := Lib.hid hel
  have HB := Lib.hid hB
  have HS := Lib.hid hS
  have HK4 := Lib.hid hk4
  obtain ⟨⟨a0, a1, a2⟩, ⟨a3, a4, a5⟩, a6, a7, a8, a9⟩ := hS W4 (Below.refl _ _)
  simp only [NM.val, IN.val, MT.val] at HEL ⊢
  rw [hm] at HEL hW3 ⊢
  clear hB hm hn hT hi hG hck hci hwf hl hp hL hok hfa hme hel hS hB1 hB2 hB3 hB4 hk1 hk2 hk3 hkk1 hkk2 hkk3 hk4
  go_enter Tryd.func36, Tryd.ntmps36
  go_wp2_with (first
    | (go_at_call 75; refine (Rising_any ⟨A5, k5, L⟩ m w5 HI5.out).mono ?_; rintro e w6 ⟨rfl, hw6⟩; subst hw6; have hok6 := HOK.out)
    | (go_at_call 30; refine (HEL.out).mono ?_; rintro e w5 ⟨vp, rfl, hop, hb5⟩; obtain ⟨⟨b0', b1, b2⟩, ⟨b3, b4, b5⟩, b6, b7, b8, b9⟩ := HS.out w5 hb5; obtain ⟨A5, k5, hv5, hin5⟩ := il_of_owns hop; subst hv5; have HI5 := Lib.hid hin5; clear hin5 hop))
  have hbr0 : BRow w6 (w.heap.size + 1 + 1 + 1) m (fun _ => false) := blk_lat HK4.out hb5
  have HB6 := Lib.hid (HB.out.trans (hb5.mono (by omega)))
  have hlow : w.heap.size + 1 + 1 + 1 < w6.heap.size := hbr0.lt
  have hsl : L.length ≤ 9223372036854775807 := Nat.le_trans HI5.out.1 HI5.out.2.1
  clear a0 a1 a2 a3 a4 a5 a6 a7 a8 a9 b0 b0' b1 b2 b3 b4 b5 b6 b7 b8 b9 hok6
  go_loopw [33] (fun i' wr => ∃ j : Nat, j ≤ L.length ∧ i' = .int .i64 (j : Nat) ∧ BRow wr (w.heap.size + 1 + 1 + 1) m (fun x : Nat => (L.take j).contains (x : Int)) ∧ w6.grownBy wr (some (w.heap.size + 1 + 1 + 1))) (fun i' _ => L.length - (intOf i').toNat)
  case atStart => exact ⟨0, Nat.zero_le _, rfl, BRow.ext hbr0 (fun x _ => rfl), World.grownBy.refl w6 _⟩
  case round =>
    obtain ⟨j, hj, rfl, hbr, hg2⟩ := hrel
    by_cases hltj : j < L.length
    · obtain ⟨g2, off2, hSA, hgg2, d2⟩ := IL.In.cells (HI5.out) (by dsimp only; omega)
      dsimp only at hSA d2
      have e2 : wr.cell? ⟨g2, off2 + j, none⟩ = some (.int .i64 L[j]) := by
        have hne : g2 ≠ w.heap.size + 1 + 1 + 1 := fun e => by
          have := d2 j hltj
          rw [e, cell_of_blk hbr0, List.getElem?_toArray] at this
          rcases h : (bcs (fun _ => false) m)[off2 + j]? with _ | u
          · rw [h] at this; cases this
          · rw [h] at this
            have hu := List.mem_of_getElem? h
            simp only [bcs, List.mem_map] at hu
            obtain ⟨_, _, hu⟩ := hu
            rw [← hu] at this; cases this
        have hb := hg2.block g2 hgg2 (by simpa using hne)
        exact (show wr.cell? ⟨g2, off2 + j, none⟩ = w6.cell? ⟨g2, off2 + j, none⟩ by simp only [World.cell?, hb]).trans (d2 j hltj)
      obtain ⟨e, he, hen⟩ := HFA.out _ (List.getElem_mem hltj)
      have HTK := Lib.hid (show ∀ x, x < m → updB (fun x : Nat => (L.take j).contains (x : Int)) e true x = (L.take (j + 1)).contains (x : Int) from fun x _ => by
        rw [List.take_succ_eq_append_getElem hltj, he]
        unfold updB
        by_cases hx : x = e
        · subst hx; simp
        · rw [if_neg hx, Bool.eq_iff_iff]
          simp only [List.contains_iff_mem, List.mem_append, List.mem_singleton]
          exact ⟨Or.inl, fun h => h.elim id fun h => absurd (by omega) hx⟩)
      rw [he] at e2
      rw [hSA]
      have h0J : (0 : Int) ≤ j := by omega
      have hlJ : (j : Int) < L.length := by omega
      have h0E : (0 : Int) ≤ e := by omega
      have hlE : (e : Int) < m := by omega
      have hce := hbr.cell hen
      have hfz := frozen_of_blk hbr e
      clear d2 he
      go_wp2_with fail
      go_roundw
      case rel => exact ⟨j + 1, by omega, by go_num, (hbr.set e true).ext HTK.out, grown_trans hg2 (grown_set wr _ _ _)⟩
      case measure => simp [intOf]; omega
    · have hbr' : BRow wr (w.heap.size + 1 + 1 + 1) m p := by
        refine hbr.ext fun x hx => ?_
        rw [List.take_of_length_le (by omega), HME.out, decide_eq_true hx, Bool.true_and]
      have HBR := Lib.hid hbr'
      have HGO := Lib.hid hg2
      clear hbr hbr' hg2
      go_wp2_with fail
      go_ret
      exact ⟨w.heap.size + 1 + 1 + 1, rfl, by omega, HBR.out, HB6.out.grown HGO.out (by omega) (fun k' e => by cases e; omega)⟩
end Go.Proofs.YtneegmhcmegijaaDoor

namespace Go.Proofs.YtneegmhcmegijaaDoor
open Go.RowKit

set_option maxRecDepth 100000 in
set_option maxHeartbeats 1000000 in
theorem deepL_any (T : MT) (w : World) (hT : T.In w.heap.size w) (hsz : T.tr.size ≤ 1000000) :
    Calls Tryd.prog 35 #[T.val] w fun e w' => e = .returned (.bool (decide (20 ≤ (T.tr.depth : Int)))) ∧ Below w.heap.size w w' := by
  obtain ⟨W1, hW1, hB1, hs1, hk1⟩ := newBlk w _ rfl #[.int .i64 T.op, .int .i64 T.n, .slice T.A T.args.length T.c] 27
  have hs := rSize_any T W1 (hT.later hB1) hsz
  have hd := depth_size T.tr
  obtain ⟨c0, c1, c2⟩ := box_cells hk1 (Below.refl _ W1)
  simp only [MT.val] at hs ⊢
  have HB := Lib.hid hB1
  clear hB1 hk1 hT
  go_enter Tryd.func35, Tryd.ntmps35
  go_wp2_with (go_at_call 74; refine hs.mono ?_; rintro e w2 ⟨rfl, hb2⟩)
  go_ret
  exact ⟨rfl, HB.out.trans (hb2.mono (by omega))⟩
end Go.Proofs.YtneegmhcmegijaaDoor

namespace Go.Proofs.YtneegmhcmegijaaDoor
open Go.RowKit

/-- A normal form is well formed. -/
theorem nnfD_wf (C R : Nat) (t : Tr) : t.wfT C R = true → ∀ a, (nnf t a).wfT C R = true :=
  Tr.rec (motive_1 := fun t => t.wfT C R = true → ∀ a, (nnf t a).wfT C R = true) (motive_2 := fun l => Tr.wfTs C R l = true → (∀ a, Tr.wfTs C R (nnfs l a) = true ∧ (nnfs l a).length = l.length) ∧ ∀ x, l = [x] → ∀ a, (nnf x a).wfT C R = true)
    (fun op n args ih h a => by
      rw [Tr.wfT, Bool.and_eq_true] at h
      obtain ⟨hw, hs⟩ := h
      have hw0 := hw
      simp only [wfB, Bool.and_eq_true, decide_eq_true_eq, beq_iff_eq] at hw
      obtain ⟨h0, h8, hl, hn0, hn1⟩ := hw
      obtain ⟨i1, i2⟩ := ih hs
      rcases (show op = 0 ∨ op = 3 ∨ (op = 1 ∨ op = 2 ∨ op = 4 ∨ op = 5 ∨ op = 6 ∨ op = 7) by omega) with rfl | rfl | hop
      · have : args = [] := by simpa [arityF] using hl
        subst this
        cases a
        · simpa [nnf, nnfs, Tr.wfT, Tr.wfTs] using hw0
        · simpa [nnf, nnfs, Tr.wfT, Tr.wfTs, wfB, arityF, choicesF] using hw0
      · obtain ⟨x, rfl⟩ := List.length_eq_one_iff.1 (show args.length = 1 by simp [arityF] at hl; omega)
        simp only [nnf, nnfHead, if_true]
        exact i2 x rfl _
      · obtain ⟨j1, j2⟩ := i1 a
        rcases hop with rfl | rfl | rfl | rfl | rfl | rfl <;> cases a <;> simp_all [nnf, dualF, Tr.wfT, wfB, arityF, choicesF])
    (fun _ => ⟨fun a => by simp [nnfs, Tr.wfTs], fun x h => by cases h⟩)
    (fun t ts h1 h2 h => by
      rw [Tr.wfTs, Bool.and_eq_true] at h
      refine ⟨fun a => ?_, fun x hx => ?_⟩
      · obtain ⟨k1, k2⟩ := (h2 h.2).1 a
        rw [nnfs, Tr.wfTs, h1 h.1, k1, List.length_cons, List.length_cons, k2]
        exact ⟨rfl, rfl⟩
      · cases hx
        exact h1 h.1) t

/-- A concept whose tree is valid passes the program's check. -/
theorem check_of_tr {n : NM} {T : MT} (hok : n.ok = true) (hs : smallB T.tr = true) (hw : T.tr.wfT n.C.l.length n.R.l.length = true) : checkF n T = 0 := by
  rw [checkF_eq, checkT, hok, if_pos rfl, validT_split, hs, hw]; rfl

/-- Everything that the law asks of names and interpretation. -/
structure Val (n : NM) (i : IN) (m : Nat) : Prop where
  ok : n.ok = true
  ci : icheckF n i = 0
  sz : i.size = m
  h1 : 1 ≤ m
  h256 : m ≤ 256
  l : listsB i = true
  zc : i.C.length = n.C.l.length
  zr : i.R.length = n.R.l.length
  C : i.C.length ≤ 1000
  R : i.R.length ≤ 1000
  I : i.I.l.length ≤ 1000
theorem set_of_tr {n : NM} {i : IN} {m : Nat} (v : Val n i m) (T : MT) (w : World) (hG : GT w) (hn : n.In w.heap.size w) (hT : T.In w.heap.size w) (hi : i.In w.heap.size w) (hs : smallB T.tr = true) (hw : T.tr.wfT i.C.length i.R.length = true) :
    Calls Tryd.prog 36 #[n.val, T.val, i.val] w (RetB m (semT i m T.tr) w) :=
  setL_any n T i m w hG hn hT hi v.sz (by rw [MT.pre_length]; have := (small_iff.1 hs).1; omega) (check_of_tr v.ok hs (by rw [← v.zc, ← v.zr]; exact hw)) v.ci hw v.h1 v.h256 v.l v.C v.R v.I
/-- The set of a normal form. -/
theorem set_nnf {n : NM} {i : IN} {m : Nat} (v : Val n i m) (t : Tr) (neg : Bool) (T : MT) (w : World) (hG : GT w) (hn : n.In w.heap.size w) (hT : T.In w.heap.size w) (hi : i.In w.heap.size w) (ht : T.tr = nnf t neg) (hs : smallB (nnf t neg) = true) (hw : t.wfT i.C.length i.R.length = true) :
    Calls Tryd.prog 36 #[n.val, T.val, i.val] w (RetB m (fun x => semT i m t x ^^ neg) w) := by
  have := set_of_tr v T w hG hn hT hi (by rw [ht]; exact hs) (by rw [ht]; exact nnfD_wf _ _ t hw neg)
  exact this.mono fun e w' h => h.ext fun x hx => by rw [ht]; exact nnf_sem i m v.sz v.l t hw neg x hx

/-- A slice that was made is not nil. -/
theorem bools_nil (w : World) (g n c : Nat) : (binOp .eql 72 (.slice (some ⟨g, 0, none⟩) n c) (.slice none 0 0)).run Tryd.prog w = .ok (.bool false) w :=
  Lib.run_eql_slice_nil w _ _ _ _ _ _ _ Tryd.underlying72

set_option maxRecDepth 100000 in
set_option maxHeartbeats 8000000 in
theorem normalL_any (n : NM) (T : MT) (i : IN) (m g : Nat) (w : World) (v : Val n i m) (hG : GT w) (hD : GD w) (hn : n.In w.heap.size w) (hT : T.In w.heap.size w) (hi : i.In w.heap.size w) (hs : smallB T.tr = true) (hw : T.tr.wfT i.C.length i.R.length = true) (hg : BRow w g m (semT i m T.tr)) :
    Calls Tryd.prog 38 #[n.val, T.val, i.val, .slice (some ⟨g, 0, none⟩) m m] w fun e w' => e = .returned (.bool true) ∧ Below w.heap.size w w' := by
  obtain ⟨W1, hW1, hB1, hs1, hk1⟩ := newBlk w _ rfl #[.slice n.C.A n.C.l.length n.C.c, .slice n.R.A n.R.l.length n.R.c, .slice n.I.A n.I.l.length n.I.c] 24
  obtain ⟨W2, hW2, hB2, hs2, hk2⟩ := newBlk W1 _ hs1 #[.int .i64 T.op, .int .i64 T.n, .slice T.A T.args.length T.c] 27
  obtain ⟨W3, hW3, hB3, hs3, hk3⟩ := newBlk W2 _ hs2 #[.int .i64 i.size, .slice i.CA i.C.length i.cc, .slice i.RA i.R.length i.rc, .slice i.I.A i.I.l.length i.I.c] 52
  have hB : Below w.heap.size w W3 := (hB1.trans (hB2.mono (by omega))).trans (hB3.mono (by omega))
  have hkk1 := (hB3.block w.heap.size (by omega)).trans ((hB2.block w.heap.size (by omega)).trans hk1)
  have hkk2 := (hB3.block (w.heap.size + 1) (by omega)).trans hk2
  have hS : ∀ w', Below W3.heap.size W3 w' → ((w'.cell? ⟨w.heap.size, 0, none⟩ = some (.slice n.C.A n.C.l.length n.C.c) ∧ w'.cell? ⟨w.heap.size, 1, none⟩ = some (.slice n.R.A n.R.l.length n.R.c) ∧ w'.cell? ⟨w.heap.size, 2, none⟩ = some (.slice n.I.A n.I.l.length n.I.c)) ∧ (w'.cell? ⟨w.heap.size + 1, 0, none⟩ = some (.int .i64 T.op) ∧ w'.cell? ⟨w.heap.size + 1, 1, none⟩ = some (.int .i64 T.n) ∧ w'.cell? ⟨w.heap.size + 1, 2, none⟩ = some (.slice T.A T.args.length T.c)) ∧ (w'.cell? ⟨w.heap.size + 1 + 1, 0, none⟩ = some (.int .i64 i.size) ∧ w'.cell? ⟨w.heap.size + 1 + 1, 1, none⟩ = some (.slice i.CA i.C.length i.cc) ∧ w'.cell? ⟨w.heap.size + 1 + 1, 2, none⟩ = some (.slice i.RA i.R.length i.rc) ∧ w'.cell? ⟨w.heap.size + 1 + 1, 3, none⟩ = some (.slice i.I.A i.I.l.length i.I.c))) := fun w' hb =>
    ⟨⟨cell_of_blk (blk_lat hkk1 hb) 0, cell_of_blk (blk_lat hkk1 hb) 1, cell_of_blk (blk_lat hkk1 hb) 2⟩, ⟨cell_of_blk (blk_lat hkk2 hb) 0, cell_of_blk (blk_lat hkk2 hb) 1, cell_of_blk (blk_lat hkk2 hb) 2⟩, ⟨cell_of_blk (blk_lat hk3 hb) 0, cell_of_blk (blk_lat hk3 hb) 1, cell_of_blk (blk_lat hk3 hb) 2, cell_of_blk (blk_lat hk3 hb) 3⟩⟩
  have hck : checkF n T = 0 := check_of_tr v.ok hs (by rw [← v.zc, ← v.zr]; exact hw)
  have hsz : T.tr.size ≤ 1000000 := by have := (small_iff.1 hs).1; omega
  have hno := fun w' (hb : Below W3.heap.size W3 w') => NormalD_any n T w' ((hD.later hB).later hb) ((hn.later hB).later hb) ((hT.later hB).later hb) hsz
  have hnt := fun w' (hb : Below W3.heap.size W3 w') => NotD_any n T w' ((hD.later hB).later hb) ((hn.later hB).later hb) ((hT.later hB).later hb) hsz
  have hse := fun neg T' w' (hb : Below W3.heap.size W3 w') hT' ht hsm => set_nnf v T.tr neg T' w' ((hG.later hB).later hb) ((hn.later hB).later hb) hT' ((hi.later hB).later hb) ht hsm hw
  have e1 : ∀ neg, normTr n T neg = if smallB (nnf T.tr neg) then nnf T.tr neg else zeroTr := fun neg => by rw [normTr, hck]; rfl
  have e2 : ∀ neg, normE n T neg = if smallB (nnf T.tr neg) then 0 else 2 := fun neg => by rw [normE, hck]; rfl
  rw [e1, e2] at hno hnt
  have hg3 : BRow W3 g m (semT i m T.tr) := hg.later hB
  obtain ⟨p, hp⟩ : ∃ p, semT i m T.tr = p := ⟨_, rfl⟩
  rw [hp] at hse hg3
  obtain ⟨X, hX⟩ : ∃ X, nnf T.tr false = X := ⟨_, rfl⟩
  obtain ⟨Y, hY⟩ : ∃ Y, nnf T.tr true = Y := ⟨_, rfl⟩
  have hsx := hse false
  have hsy := hse true
  rw [hX] at hno hsx
  rw [hY] at hnt hsy
  have HB := Lib.hid hB
  have HS := Lib.hid hS
  have HNO := Lib.hid hno
  have HNT := Lib.hid hnt
  have HSX := Lib.hid hsx
  have HSY := Lib.hid hsy
  have HG3 := Lib.hid hg3
  obtain ⟨⟨a0, a1, a2⟩, ⟨a3, a4, a5⟩, a6, a7, a8, a9⟩ := hS W3 (Below.refl _ _)
  have h256 := v.h256
  simp only [NM.val, IN.val, MT.val] at HNO HNT HSX HSY ⊢
  clear hB hn hT hi hG hD hs hw hg hck hsz hno hnt hse e1 e2 hg3 hp hX hY hsx hsy hS hB1 hB2 hB3 hk1 hk2 hk3 hkk1 hkk2 v
  rcases q1 : smallB X
  · rw [q1] at HNO
    rcases q2 : smallB Y
    all_goals
      rw [q2] at HNT
      simp only [Bool.false_eq_true, if_false, if_true] at HNO HNT
      go_enter Tryd.func38, Tryd.ntmps38
      go_wp2_with (first
        | (go_at_call 15; refine (HNT.out W5 hb5).mono ?_; rintro e w6 ⟨T6, rfl, -, -, hb6'⟩; have hb6 : Below W3.heap.size W3 w6 := hb5.trans (hb6'.mono hb5.size))
        | (go_at_call 13; refine (HNO.out W3 (Below.refl _ _)).mono ?_; rintro e w4 ⟨T4, rfl, -, -, hb4⟩; obtain ⟨W5, hW5, hB5, hs5, hk5⟩ := newBlk w4 _ rfl #[.int .i64 T4.op, .int .i64 T4.n, .slice T4.A T4.args.length T4.c] 27; have hb5 : Below W3.heap.size W3 W5 := hb4.trans (hB5.mono hb4.size); obtain ⟨⟨c0, c1, c2⟩, ⟨c3, c4, c5⟩, c6, c7, c8, c9⟩ := HS.out W5 hb5))
      go_ret
      exact ⟨rfl, HB.out.trans ((hb6.alloc hb6.size _).mono (by omega))⟩
  · rw [q1] at HNO
    rcases q2 : smallB Y
    · rw [q2] at HNT
      simp only [Bool.false_eq_true, if_false, if_true] at HNO HNT
      go_enter Tryd.func38, Tryd.ntmps38
      go_wp2_with (first
        | (go_at_call 15; refine (HNT.out W5 hb5).mono ?_; rintro e w6 ⟨T6, rfl, -, -, hb6'⟩; have hb6 : Below W3.heap.size W3 w6 := hb5.trans (hb6'.mono hb5.size))
        | (go_at_call 13; refine (HNO.out W3 (Below.refl _ _)).mono ?_; rintro e w4 ⟨T4, rfl, -, -, hb4⟩; obtain ⟨W5, hW5, hB5, hs5, hk5⟩ := newBlk w4 _ rfl #[.int .i64 T4.op, .int .i64 T4.n, .slice T4.A T4.args.length T4.c] 27; have hb5 : Below W3.heap.size W3 W5 := hb4.trans (hB5.mono hb4.size); obtain ⟨⟨c0, c1, c2⟩, ⟨c3, c4, c5⟩, c6, c7, c8, c9⟩ := HS.out W5 hb5))
      go_ret
      exact ⟨rfl, HB.out.trans ((hb6.alloc hb6.size _).mono (by omega))⟩
    · rw [q2] at HNT
      simp only [if_true] at HNO HNT
      go_enter Tryd.func38, Tryd.ntmps38
      go_wp2_with (first
        | (go_at_call 15; refine (HNT.out W5 hb5).mono ?_; rintro e w6 ⟨T6, rfl, ht6, hnew6, hb6'⟩; have HT6 := Lib.hid ht6; have HNW6 := Lib.hid hnew6; clear ht6 hnew6; have hb6 : Below W3.heap.size W3 w6 := hb5.trans (hb6'.mono hb5.size); obtain ⟨W7, hW7, hB7, hs7, hk7⟩ := newBlk w6 _ rfl #[.int .i64 T6.op, .int .i64 T6.n, .slice T6.A T6.args.length T6.c] 27; have hb7 : Below W3.heap.size W3 W7 := hb6.trans (hB7.mono hb6.size); have hb57 : Below W5.heap.size W5 W7 := hb6'.trans (hB7.mono hb6'.size); obtain ⟨⟨d0, d1, d2⟩, ⟨d3, d4, d5⟩, d6, d7, d8, d9⟩ := HS.out W7 hb7)
        | (go_at_call 13; refine (HNO.out W3 (Below.refl _ _)).mono ?_; rintro e w4 ⟨T4, rfl, ht4, hnew4, hb4⟩; have HT4 := Lib.hid ht4; have HNW4 := Lib.hid hnew4; clear ht4 hnew4; obtain ⟨W5, hW5, hB5, hs5, hk5⟩ := newBlk w4 _ rfl #[.int .i64 T4.op, .int .i64 T4.n, .slice T4.A T4.args.length T4.c] 27; have hb5 : Below W3.heap.size W3 W5 := hb4.trans (hB5.mono hb4.size); obtain ⟨⟨c0, c1, c2⟩, ⟨c3, c4, c5⟩, c6, c7, c8, c9⟩ := HS.out W5 hb5))
      have hS7 : ∀ w', Below W7.heap.size W7 w' → (((w'.cell? ⟨w.heap.size, 0, none⟩ = some (.slice n.C.A n.C.l.length n.C.c) ∧ w'.cell? ⟨w.heap.size, 1, none⟩ = some (.slice n.R.A n.R.l.length n.R.c) ∧ w'.cell? ⟨w.heap.size, 2, none⟩ = some (.slice n.I.A n.I.l.length n.I.c)) ∧ (w'.cell? ⟨w.heap.size + 1, 0, none⟩ = some (.int .i64 T.op) ∧ w'.cell? ⟨w.heap.size + 1, 1, none⟩ = some (.int .i64 T.n) ∧ w'.cell? ⟨w.heap.size + 1, 2, none⟩ = some (.slice T.A T.args.length T.c)) ∧ (w'.cell? ⟨w.heap.size + 1 + 1, 0, none⟩ = some (.int .i64 i.size) ∧ w'.cell? ⟨w.heap.size + 1 + 1, 1, none⟩ = some (.slice i.CA i.C.length i.cc) ∧ w'.cell? ⟨w.heap.size + 1 + 1, 2, none⟩ = some (.slice i.RA i.R.length i.rc) ∧ w'.cell? ⟨w.heap.size + 1 + 1, 3, none⟩ = some (.slice i.I.A i.I.l.length i.I.c))) ∧ (w'.cell? ⟨w4.heap.size, 0, none⟩ = some (.int .i64 T4.op) ∧ w'.cell? ⟨w4.heap.size, 1, none⟩ = some (.int .i64 T4.n) ∧ w'.cell? ⟨w4.heap.size, 2, none⟩ = some (.slice T4.A T4.args.length T4.c)) ∧ (w'.cell? ⟨w6.heap.size, 0, none⟩ = some (.int .i64 T6.op) ∧ w'.cell? ⟨w6.heap.size, 1, none⟩ = some (.int .i64 T6.n) ∧ w'.cell? ⟨w6.heap.size, 2, none⟩ = some (.slice T6.A T6.args.length T6.c))) := fun w' hb => ⟨HS.out w' (hb7.trans (hb.mono hb7.size)), box_cells (blk_lat hk5 hb57) hb, box_cells hk7 hb⟩
      have HS7 := Lib.hid hS7
      have HI4 := Lib.hid (HNW4.out.1.later (hB5.trans (hb57.mono (by omega))))
      have HI6 := Lib.hid (HNW6.out.1.later hB7)
      have hd : Below W7.heap.size W7 W7.drew := (Below.refl _ W7).drew
      have hb73 := fun w' (hb : Below W7.heap.size W7 w') => hb7.trans (hb.mono hb7.size)
      have HB73 := Lib.hid hb73
      have HG7 := Lib.hid (HG3.out.later hb7)
      have HBW := Lib.hid (HB.out.trans (hb7.mono (by omega)))
      have HQ1 := Lib.hid q1
      have HQ2 := Lib.hid q2
      clear hS7 hb73 hk5 hk7 q1 q2 hB5 hB7 hW5 hW7 hb4 hb5 hb6 hb6' hb57 c0 c1 c2 c3 c4 c5 c6 c7 c8 c9 d0 d1 d2 d3 d4 d5 d6 d7 d8 d9
      go_region_held (fun w' => (((w'.cell? ⟨w.heap.size, 0, none⟩ = some (.slice n.C.A n.C.l.length n.C.c) ∧ w'.cell? ⟨w.heap.size, 1, none⟩ = some (.slice n.R.A n.R.l.length n.R.c) ∧ w'.cell? ⟨w.heap.size, 2, none⟩ = some (.slice n.I.A n.I.l.length n.I.c)) ∧ (w'.cell? ⟨w.heap.size + 1, 0, none⟩ = some (.int .i64 T.op) ∧ w'.cell? ⟨w.heap.size + 1, 1, none⟩ = some (.int .i64 T.n) ∧ w'.cell? ⟨w.heap.size + 1, 2, none⟩ = some (.slice T.A T.args.length T.c)) ∧ (w'.cell? ⟨w.heap.size + 1 + 1, 0, none⟩ = some (.int .i64 i.size) ∧ w'.cell? ⟨w.heap.size + 1 + 1, 1, none⟩ = some (.slice i.CA i.C.length i.cc) ∧ w'.cell? ⟨w.heap.size + 1 + 1, 2, none⟩ = some (.slice i.RA i.R.length i.rc) ∧ w'.cell? ⟨w.heap.size + 1 + 1, 3, none⟩ = some (.slice i.I.A i.I.l.length i.I.c))) ∧ (w'.cell? ⟨w4.heap.size, 0, none⟩ = some (.int .i64 T4.op) ∧ w'.cell? ⟨w4.heap.size, 1, none⟩ = some (.int .i64 T4.n) ∧ w'.cell? ⟨w4.heap.size, 2, none⟩ = some (.slice T4.A T4.args.length T4.c)) ∧ (w'.cell? ⟨w6.heap.size, 0, none⟩ = some (.int .i64 T6.op) ∧ w'.cell? ⟨w6.heap.size, 1, none⟩ = some (.int .i64 T6.n) ∧ w'.cell? ⟨w6.heap.size, 2, none⟩ = some (.slice T6.A T6.args.length T6.c))))
        (first | exact HS7.out _ hd | exact HS7.out _ hb8 | exact HS7.out _ hb9)
        (first
          | (go_at_call 36; refine (HSY.out T6 w8 (HB73.out _ hb8) (HI6.out.later hb8) HT6.out HQ2.out).mono ?_; rintro e w9 ⟨g9, rfl, hg9, hbr9, hb9'⟩; have hb9 : Below W7.heap.size W7 w9 := hb8.trans (hb9'.mono hb8.size))
          | (go_at_call 36; refine (HSX.out T4 W7.drew (HB73.out _ hd) (HI4.out.later hd) HT4.out HQ1.out).mono ?_; rintro e w8 ⟨g8, rfl, hg8, hbr8, hb8'⟩; have hb8 : Below W7.heap.size W7 w8 := hd.trans hb8'))
      have r8 : BRow w9 g8 m p := (hbr8.later hb9').ext fun x _ => by simp
      have r9 : BRow w9 g9 m (fun x => !p x) := hbr9.ext fun x _ => by simp
      have rg : BRow w9 g m p := HG7.out.later hb9
      have HR8 := Lib.hid r8
      have HR9 := Lib.hid r9
      have HRG := Lib.hid rg
      have HB9 := Lib.hid (HBW.out.trans (hb9.mono (by have := HBW.out.size; omega)))
      clear r8 r9 rg hbr8 hbr9 hg8 hg9 hb8 hb8' hb9 hb9'
      have hen := bools_nil
      go_wp2_with fail
      clear hen
      go_loopw [64] (fun i' wr => ∃ j : Nat, j ≤ m ∧ i' = .int .i64 (j : Nat) ∧ Below w9.heap.size w9 wr) (fun i' _ => m - (intOf i').toNat)
      case atStart => exact ⟨0, Nat.zero_le _, rfl, Below.refl _ _⟩
      case round =>
        rename World => wr
        obtain ⟨j, hj, rfl, hbw⟩ := hrel
        by_cases hlt : j < m
        · have c1 := (HR8.out.later hbw).cell hlt
          have c2 := (HR9.out.later hbw).cell hlt
          have c3 := (HRG.out.later hbw).cell hlt

          have h0J : (0 : Int) ≤ j := by omega
          have hlJ : (j : Int) < m := by omega
          rcases qp : p j
          all_goals
            rw [qp] at c1 c2 c3
            clear qp
            simp only [Bool.not_false, Bool.not_true] at c2
            have HBW2 := Lib.hid hbw
            clear hbw
            go_wp2_with fail
            go_quiet (fail)
            go_wp2_with fail
            go_roundw
            case rel => exact ⟨j + 1, by omega, by go_num, below_drewN HBW2.out _⟩
            case measure => simp [intOf]; omega
        · have HBW2 := Lib.hid hbw
          clear hbw
          go_wp2_with fail
          go_ret
          exact ⟨rfl, HB9.out.trans (HBW2.out.mono HB9.out.size)⟩
end Go.Proofs.YtneegmhcmegijaaDoor
