import Derived.Test.YtnkkpjgclekobaaDoorCheck
namespace Go.Proofs.YtnkkpjgclekobaaDoor
open Go.RowKit Go.Shelf

attribute [local go_sem] Oper.semAt_some

theorem inW {P : Program} {f : FuncId} {args : Array Value} {w : World} {R : Ending → World → Prop} (h : Calls P f args w R) (n : Nat) : CallsIn Fence.wide n P f args w R := callsIn_wide.2 h
theorem blk_own {α : Type} (b : Nat) (cs : Array Value) (t : TypeId) : Own (fun (_ : List α) W => W.heap[b]? = some (.cells cs t)) := fun _ W W' row hs hg hr => by
  refine (hg.block b (Array.getElem?_eq_some_iff.1 hs).1 fun e => ?_).trans hs
  obtain ⟨o, ho, hc⟩ := hr b e.symm
  rw [hs] at ho; cases ho; cases hc
theorem keepsFrom_below {B n : Nat} {W W' : World} (h : Below n W W') (hn : W.heap.size ≤ n) : KeepsFrom B W W' :=
  ⟨h.size, fun k _ _ hk _ => (h.block k (Nat.lt_of_lt_of_le (Array.getElem?_eq_some_iff.1 hk).1 hn)).trans hk⟩

def okNode (n : NM) (x : Nat × MT) : Bool := decide (x.1 ≤ 20) && wfB n.C.l.length n.R.l.length x.2.op x.2.n x.2.args.length
def validB (n : NM) (T : MT) : Bool := decide ((T.pre 1).length ≤ 400) && (T.pre 1).all (okNode n)
def checkF (n : NM) (T : MT) : Int := if n.ok then codeIf (validB n T) 10 else 20

theorem ok_bounds {n : NM} (h : n.ok = true) : n.C.l.length ≤ 16 ∧ n.R.l.length ≤ 6 ∧ n.I.l.length ≤ 10 := by
  simp only [NM.ok, namesB, Bool.and_eq_true, decide_eq_true_eq] at h
  exact ⟨h.1, h.2.1, h.2.2.1⟩

set_option maxRecDepth 100000 in
set_option maxHeartbeats 4000000 in
theorem cCheckA_any (n : NM) (T : MT) (w : World) (hG : GA w) (hn : n.In w.heap.size w) (hT : T.In w.heap.size w) (hsz : (T.pre 1).length ≤ 1000000) :
    Calls Tryd.prog 39 #[n.val, T.val] w fun e w' => e = .returned (.int .i64 (checkF n T)) ∧ Below w.heap.size w w' := by
  refine (callsIn_wide (n := 5)).1 ?_
  have hdd : ∀ k : Nat, (Fence.wide.depth.isSome = true → 1 ≤ k) := fun k h => by cases h
  obtain ⟨W1, hW1, hB1, hs1, hblk1⟩ := newBlk w _ rfl #[.slice n.C.A n.C.l.length n.C.c, .slice n.R.A n.R.l.length n.R.c, .slice n.I.A n.I.l.length n.I.c] 24
  obtain ⟨W2, hW2, hB2, hs2, hblk2⟩ := newBlk W1 _ hs1 #[.int .i64 T.op, .int .i64 T.n, .slice T.A T.args.length T.c] 27
  obtain ⟨W3, hW3, hB3, hs3, b3⟩ := newBox W2 _ hs2 (.int .i64 0) 33
  have hB : Below w.heap.size w W3 := (hB1.trans (hB2.mono (by omega))).trans (hB3.mono (by omega))
  have hblk13 := (hB3.block w.heap.size (by omega)).trans ((hB2.block w.heap.size (by omega)).trans hblk1)
  have hblk23 := (hB3.block (w.heap.size + 1) (by omega)).trans hblk2
  have hn3 := hn.later hB
  have hT3 := hT.later hB
  have hG3 := hG.later hB
  have a0 := cell_of_blk hblk13 0
  have a1 := cell_of_blk hblk13 1
  have a2 := cell_of_blk hblk13 2
  simp only [List.getElem?_toArray, List.getElem?_cons_zero, List.getElem?_cons_succ] at a0 a1 a2
  have hcn := inW (cNames_any n W3 hn3) 4
  have HB := Lib.hid hB
  clear hB1 hB2 hB3 hblk1 hblk2 hB
  simp only [NM.val, MT.val] at hcn ⊢
  cases hok : n.ok
  · have HR := Lib.hid (show checkF n T = 20 by rw [checkF, hok]; rfl)
    rw [hok, show codeIf false 20 = 20 from rfl] at hcn
    have HCN := Lib.hid hcn
    clear hok hcn
    refine callsIn_of_wp_marks Tryd.func39 rfl trivial ?_ rfl
    simp only [Tryd.ntmps39, List.size_toArray, List.length_cons, List.length_nil, Nat.reduceAdd, Nat.reduceSub, Array.replicate_succ, Array.replicate_zero, List.push_toArray, List.append_toArray, List.nil_append, List.cons_append]
    gi_wp2_with (refine ⟨trivial, ?_⟩; refine HCN.out.mono ?_; rintro e w4 ⟨rfl, hb4⟩; have b4 := (boxed_below b3 hb4 (by omega)).cell; have f4 := (boxed_below b3 hb4 (by omega)).frozen)
    have hbx := boxed_below b3 hb4 (by omega)
    have c9 : (w4.setCell ⟨w.heap.size + 1 + 1, 0, none⟩ (.int .i64 20)).cell? ⟨w.heap.size + 1 + 1, 0, none⟩ = some (.int .i64 20) := (Boxed.set _ hbx).cell
    refine ⟨.int .i64 20, ?_, by rw [HR.out], (HB.out.trans (hb4.mono (by omega))).setCell (p := ⟨w.heap.size + 1 + 1, 0, none⟩) (by show _ ≤ w.heap.size + 1 + 1; omega) _⟩
    simp [results, Tryd.f39, go_sem, c9]
  · have HR := Lib.hid (show checkF n T = codeIf (validB n T) 10 by rw [checkF, hok]; rfl)
    have hbd := ok_bounds hok
    rw [hok, show codeIf true 20 = 0 from rfl] at hcn
    have HCN := Lib.hid hcn
    clear hok hcn
    refine callsIn_of_wp_marks Tryd.func39 rfl trivial ?_ rfl
    simp only [Tryd.ntmps39, List.size_toArray, List.length_cons, List.length_nil, Nat.reduceAdd, Nat.reduceSub, Array.replicate_succ, Array.replicate_zero, List.push_toArray, List.append_toArray, List.nil_append, List.cons_append]
    gi_wp2_with (first
      | (refine ⟨trivial, ?_⟩; refine HCN.out.mono ?_; rintro e w4 ⟨rfl, hb4⟩; have hsz4 := hb4.size; have hsz5 : w.heap.size + 1 < w4.heap.size := (by omega); have hblk24 := (hb4.block (w.heap.size + 1) (by omega)).trans hblk23; have c0 := cell_of_blk hblk24 0; have c1 := cell_of_blk hblk24 1; have c2 := cell_of_blk hblk24 2; simp only [List.getElem?_toArray, List.getElem?_cons_zero, List.getElem?_cons_succ] at c0 c1 c2)
      | (refine ⟨trivial, ?_⟩; refine (inW (walk_any T _) _).mono ?_; rintro e w' ⟨rfl, rfl⟩))
    obtain ⟨m, hm⟩ : ∃ m, w4.heap.size = m := ⟨_, rfl⟩
    rw [hm] at hsz4 hsz5 ⊢
    obtain ⟨W5, hW5, hB5, hs5, b5⟩ := newBox w4 _ hm (.int .i64 0) 3
    obtain ⟨W6, hW6, hB6, hs6, hblk6⟩ := newBlk W5 _ hs5 #[.int .i64 T.op, .int .i64 T.n, .slice T.A T.args.length T.c] 27
    rw [hW5, hW6]
    have hB46 : Below m w4 W6 := hB5.trans (hB6.mono (by omega))
    have hB3 : Below w.heap.size w W6 := HB.out.trans ((hb4.mono (by omega)).trans (hB46.mono (by omega)))
    have e3 := boxed_below (boxed_below b3 hb4 (by omega)) hB46 (by omega)
    have e5 := boxed_below b5 hB6 (by omega)
    have eN := (hB46.block w.heap.size (by omega)).trans ((hb4.block w.heap.size (by omega)).trans hblk13)
    clear hW1 hW2 hW3 hW5 hW6 c0 c1 c2 a0 a1 a2
    refine wpIn_rangeFunc_ownH rfl (by omega) (gf := 73) (lb := #[.pointer (some ⟨m + 1, 0, none⟩)]) rfl trivial (enters_of Tryd.func73 (by kernel_rfl) rfl)
      (walk1_stops 4 w.heap.size W6.heap.size (m + 1) w W6 T hT hB3 (by omega) (Nat.le_refl _) (by omega) hblk6) Kp.trans (Kp.b (by omega)) (Below.refl _ _) (fun _ => rfl)
      (fun pre W => ((Boxed W m 3 (.int .i64 pre.length) ∧ Boxed W (w.heap.size + 1 + 1) 33 (.int .i64 0)) ∧ W.heap[w.heap.size]? = some (.cells #[.slice n.C.A n.C.l.length n.C.c, .slice n.R.A n.R.l.length n.R.c, .slice n.I.A n.I.l.length n.I.c] 24)) ∧ (Below w.heap.size w W ∧ (pre.length ≤ 400 ∧ ∀ x ∈ pre, okNode n x.1 = true)))
      (fun c pre W => (Boxed W (w.heap.size + 1 + 1) 33 (.int .i64 10)) ∧ (Below w.heap.size w W ∧ (c = .ret ∧ (400 < pre.length ∨ ∃ x ∈ pre, okNode n x.1 = false))))
      (OwnFrom.and (OwnFrom.and (OwnFrom.and (Own.from (boxed_own _ _ _) _) (Own.from (boxed_own _ _ _) _)) (Own.from (blk_own _ _ _) _)) (OwnFrom.and (ownFrom_below (Nat.le_refl _) (by omega)) (ownFrom_pure _ _)))
      (fun c => OwnFrom.and (Own.from (boxed_own _ _ _) _) (OwnFrom.and (ownFrom_below (Nat.le_refl _) (by omega)) (ownFrom_pure _ _)))
      ⟨⟨⟨e5, e3⟩, eN⟩, hB3, by simp, by simp⟩
      (fun x a' W => ∃ Bx, m < Bx ∧ W.heap[Bx]? = some (.cells #[.int .i64 x.1.2.op, .int .i64 x.1.2.n, .slice x.1.2.A x.1.2.args.length x.1.2.c] 27) ∧ a' = { tmps := #[.agg #[.slice n.C.A n.C.l.length n.C.c, .slice n.R.A n.R.l.length n.R.c, .slice n.I.A n.I.l.length n.I.c], .agg #[.int .i64 T.op, .int .i64 T.n, .slice T.A T.args.length T.c], .pointer (some ⟨w.heap.size, 0, none⟩), .pointer (some ⟨w.heap.size + 1, 0, none⟩), .pointer (some ⟨w.heap.size + 1 + 1, 0, none⟩), .int .i64 0, .pointer (some ⟨m, 0, none⟩), .int .i64 x.1.1, .pointer (some ⟨Bx, 0, none⟩), .agg #[.slice n.C.A n.C.l.length n.C.c, .slice n.R.A n.R.l.length n.R.c, .slice n.I.A n.I.l.length n.I.c], .int .i64 0, .int .i64 0, .bool false, undef, .agg #[.int .i64 T.op, .int .i64 T.n, .slice T.A T.args.length T.c], .func (.func 73) #[] #[.pointer (some ⟨m + 1, 0, none⟩)], .int .i64 x.1.1, .agg #[.int .i64 x.1.2.op, .int .i64 x.1.2.n, .slice x.1.2.A x.1.2.args.length x.1.2.c], undef, undef, undef, undef, undef, undef, undef, undef, undef, undef, undef, undef, undef, undef], defers := [] })
      (fun x a' _ X Y row hs hg hr => by obtain ⟨Bx, h1, h2, h3⟩ := hs; exact ⟨Bx, h1, blk_own (α := Unit) Bx _ _ [] X Y row h2 hg (fun r e => (hr r e).2), h3⟩)
      ?assign ?body ?done ?stop
    case assign =>
      rintro l pre x W K ⟨⟨⟨i1, i2⟩, i3⟩, i4, i5⟩ hK
      simp only [MT.val]
      gi_wp2
      exact hK _ _ ((KeepsOthers.alloc _ _).from _) ((Kp.refl _ _ _).alloc i4.size _) ⟨⟨⟨i1.alloc _, i2.alloc _⟩, (Below.heap_alloc _ _ _ (Array.getElem?_eq_some_iff.1 i3).1).trans i3⟩, i4.alloc i4.size _, i5⟩ ⟨W.heap.size, i1.lt, World.alloc_heap_new' _ _, rfl⟩
    case body =>
      rintro l pre x a' W hl ⟨r, hr⟩ ⟨⟨⟨i1, i2⟩, i3⟩, i4, i5⟩ ⟨Bx, hBx, hbx, rfl⟩ hlt
      have n0 := i1.cell
      have n1 := i1.frozen
      have hlen : pre.length ≤ 400 := i5.1
      obtain ⟨W7, hW7⟩ : ∃ W7, W.setCell ⟨m, 0, none⟩ (.int .i64 (pre.length + 1)) = W7 := ⟨_, rfl⟩
      have j1 : Boxed W7 m 3 (.int .i64 (pre.length + 1)) := by rw [← hW7]; exact Boxed.set _ i1
      have j2 : Boxed W7 (w.heap.size + 1 + 1) 33 (.int .i64 0) := by rw [← hW7]; exact boxed_other i2 (by show w.heap.size + 1 + 1 ≠ m; omega) _
      have jN : W7.heap[w.heap.size]? = some (.cells #[.slice n.C.A n.C.l.length n.C.c, .slice n.R.A n.R.l.length n.R.c, .slice n.I.A n.I.l.length n.I.c] 24) := by rw [← hW7]; exact (Below.heap_setCell _ _ _ _ (by show w.heap.size ≠ m; omega)).trans i3
      have jX : W7.heap[Bx]? = some (.cells #[.int .i64 x.1.2.op, .int .i64 x.1.2.n, .slice x.1.2.A x.1.2.args.length x.1.2.c] 27) := by rw [← hW7]; exact (Below.heap_setCell _ _ _ _ (by show Bx ≠ m; omega)).trans hbx
      have jK : Kp w.heap.size W6.heap.size W W7 := by rw [← hW7]; exact (Kp.refl _ _ _).setBox (by show m < _; omega) (by show _ ≤ m; omega) _
      have jO : KeepsOthers W W7 := by rw [← hW7]; exact KeepsOthers.setCell _ _ _
      have jB : Below w.heap.size w W7 := i4.trans jK.below
      have x0 := cell_of_blk jX 0
      have x1 := cell_of_blk jX 1
      have x2 := cell_of_blk jX 2
      have a0 := cell_of_blk jN 0
      have a1 := cell_of_blk jN 1
      have a2 := cell_of_blk jN 2
      simp only [List.getElem?_toArray, List.getElem?_cons_zero, List.getElem?_cons_succ] at x0 x1 x2 a0 a1 a2
      have j10 := j1.cell
      have j20 := j2.cell
      have j21 := j2.frozen
      have hxb : Bx < W7.heap.size := (Array.getElem?_eq_some_iff.1 jX).1
      by_cases q1 : 400 < (pre.length : Int) + 1
      · gi_wp2
        refine ⟨trivial, ?_⟩
        gi_wp2
        exact ⟨(jO.trans (KeepsOthers.setCell _ _ _)).from _, Boxed.set _ j2, jB.setCell (p := ⟨w.heap.size + 1 + 1, 0, none⟩) (by show _ ≤ w.heap.size + 1 + 1; omega) _, rfl, .inl (by simp; omega)⟩
      · by_cases q2 : 20 < (x.1.1 : Int)
        · gi_wp2
          refine ⟨trivial, ?_⟩
          gi_wp2
          exact ⟨(jO.trans (KeepsOthers.setCell _ _ _)).from _, Boxed.set _ j2, jB.setCell (p := ⟨w.heap.size + 1 + 1, 0, none⟩) (by show _ ≤ w.heap.size + 1 + 1; omega) _, rfl, .inr ⟨x, by simp, by rw [okNode, decide_eq_false (by omega), Bool.false_and]⟩⟩
        · have hwf := wellFormed_any n x.1.2 W7 (hG.later jB) (by omega) (by omega)
          simp only [NM.val, MT.val] at hwf
          have HG0 := Lib.hid hG
          clear hG hG3 hn3 hT3 hn hT
          cases hv : wfB n.C.l.length n.R.l.length x.1.2.op x.1.2.n x.1.2.args.length
          · rw [hv] at hwf
            have HV := Lib.hid hv
            clear hv
            gi_wp2_with (refine ⟨trivial, ?_⟩; refine (CallsIn.inRound l (inW hwf _)).mono ?_; rintro e w8 ⟨rfl, hb8⟩; have k2 := boxed_below j2 hb8 j2.lt; have k20 := k2.cell; have k21 := k2.frozen)
            exact ⟨((jO.from _).trans (keepsFrom_below hb8 (Nat.le_refl _))).trans ((KeepsOthers.setCell _ _ _).from _), Boxed.set _ k2, (jB.trans (hb8.mono jB.size)).setCell (p := ⟨w.heap.size + 1 + 1, 0, none⟩) (by show _ ≤ w.heap.size + 1 + 1; omega) _, rfl, .inr ⟨x, by simp, by rw [okNode, HV.out, Bool.and_false]⟩⟩
          · rw [hv] at hwf
            have HV := Lib.hid hv
            clear hv
            gi_wp2_with (refine ⟨trivial, ?_⟩; refine (CallsIn.inRound l (inW hwf _)).mono ?_; rintro e w8 ⟨rfl, hb8⟩; have k2 := boxed_below j2 hb8 j2.lt)
            refine ⟨(jO.from _).trans (keepsFrom_below hb8 (Nat.le_refl _)), jK.trans (Kp.of_below hb8 jB.size), ⟨⟨?_, k2⟩, (hb8.block _ (by omega)).trans jN⟩, jB.trans (hb8.mono jB.size), by simp; omega, ?_⟩
            · rw [List.length_append]; exact boxed_below j1 hb8 j1.lt
            · intro y hy
              rcases List.mem_append.1 hy with h | h
              · exact i5.2 y h
              · rw [List.mem_singleton.1 h, okNode, HV.out, decide_eq_true (by omega)]; rfl
    case done =>
      rintro D ys W hD hys ⟨⟨⟨i1, i2⟩, i3⟩, i4, i5⟩ hK
      have hv : validB n T = true := by
        rw [validB, ← hys, List.all_map, List.length_map, decide_eq_true i5.1, Bool.true_and, List.all_eq_true]
        exact i5.2
      have i20 := i2.cell
      have i21 := i2.frozen
      have HV := Lib.hid hv
      clear hv
      gi_wp2
      have hK' := (KeepsOthers.setCell W ⟨w.heap.size + 1 + 1, 0, none⟩ (.int .i64 0)).same D _ hK rfl
      refine ⟨by simp, .inl ⟨_, _, rfl, run_takeDeferred hK', ?_⟩⟩
      have c5 := cell_kept (Boxed.set (.int .i64 0) i2).cell (grownBy_putObj' _ D (.deferred none)) (fun r e => by cases e; exact ⟨_, hK', rfl⟩)
      refine ⟨.int .i64 0, ?_, by rw [HR.out, HV.out]; rfl, (i4.setCell (p := ⟨w.heap.size + 1 + 1, 0, none⟩) (by show _ ≤ w.heap.size + 1 + 1; omega) _).trans (belowK_b (w := w) (Nat.le_refl _) _ D _ _ (by omega) hK' rfl rfl)⟩
      simp [results, Tryd.f39, go_sem, c5]
    case stop =>
      rintro D c pre W hD hpre ⟨j1, j2, rfl, j3⟩ hK
      have hv : validB n T = false := by
        rw [Bool.eq_false_iff]
        intro hv
        simp only [validB, Bool.and_eq_true, decide_eq_true_eq, List.all_eq_true] at hv
        rcases j3 with h | ⟨x, hx, hxo⟩
        · have h1 := hpre.length_le
          rw [List.length_map] at h1
          omega
        · have h1 := hv.2 x.1 (hpre.subset (List.mem_map_of_mem hx))
          rw [hxo] at h1
          cases h1
      have HV := Lib.hid hv
      clear hv
      gi_wp2
      refine ⟨by simp, .inl ⟨_, _, rfl, run_takeDeferred hK, ?_⟩⟩
      have c5 := cell_kept j1.cell (grownBy_putObj' _ D (.deferred none)) (fun r e => by cases e; exact ⟨_, hK, rfl⟩)
      refine ⟨.int .i64 10, ?_, by rw [HR.out, HV.out]; rfl, j2.trans (belowK_b (w := w) (Nat.le_refl _) W D _ _ (by omega) hK rfl rfl)⟩
      simp [results, Tryd.f39, go_sem, c5]
theorem cCheck_any (n : NM) (T : MT) (w : World) (hG : G w) (hn : n.In w.heap.size w) (hT : T.In w.heap.size w) (hsz : (T.pre 1).length ≤ 1000000) :
    Calls Tryd.prog 39 #[n.val, T.val] w fun e w' => e = .returned (.int .i64 (checkF n T)) ∧ Below w.heap.size w w' := cCheckA_any n T w hG.ga hn hT hsz
end Go.Proofs.YtnkkpjgclekobaaDoor
