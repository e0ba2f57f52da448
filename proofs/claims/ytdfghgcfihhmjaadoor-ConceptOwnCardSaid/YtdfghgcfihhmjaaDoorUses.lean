import Derived.Test.YtdfghgcfihhmjaaDoorAsc
import Derived.Stop.RegionWithIn
import Derived.Deep.RegionHeld3
namespace Go.Proofs.YtdfghgcfihhmjaaDoor
open Go.RowKit Go.Shelf

attribute [local go_sem] Oper.semAt_some


/-- TWO BOXES, EACH WITH A ROW OF INTEGERS OF ITS OWN, from block lo on. -/
def Two (lo b1 b2 : Nat) (W : World) (v1 v2 : Value) (xs ys : List Int) : Prop :=
  Boxed W b1 45 v1 ∧ Boxed W b2 45 v2 ∧ W.ownsRow lo 3 1 v1 xs.length (intCells xs) ∧ W.ownsRow lo 3 1 v2 ys.length (intCells ys) ∧ (v1.ownBlock = none ∨ v1.ownBlock ≠ v2.ownBlock)
theorem owns_kept {W W' : World} {row : Option Nat} {base size n : Nat} {e : TypeId} {v : Value} {xs : List Value} (h : W.ownsRow base e size v n xs) (hg : W.grownBy W' row) (hr : ∀ r, row = some r → ∃ o : Obj, W.heap[r]? = some o ∧ o.isCells = false) : W'.ownsRow base e size v n xs := by
  refine h.kept hg ?_
  rcases h.2 with ⟨rfl, _⟩ | ⟨g, cap, cur, rfl, _, hgb, _⟩
  · exact .inl rfl
  · refine .inr fun e' => ?_
    obtain ⟨o, ho, hc⟩ := hr g (by simpa [Value.ownBlock] using e'.symm)
    rw [hgb] at ho; cases ho; cases hc
theorem box_kept {W W' : World} {row : Option Nat} {b : Nat} {t : TypeId} {v : Value} (h : Boxed W b t v) (hg : W.grownBy W' row) (hr : ∀ r, row = some r → ∃ o : Obj, W.heap[r]? = some o ∧ o.isCells = false) : Boxed W' b t v :=
  h.kept hg (fun e => by obtain ⟨o, ho, hc⟩ := hr b e.symm; rw [show W.heap[b]? = _ from h] at ho; cases ho; cases hc)
theorem two_own {β : Type} (lo b1 b2 : Nat) (f g : β → List Int) : Own (fun s W => ∃ v1 v2, Two lo b1 b2 W v1 v2 (f s) (g s)) := by
  rintro s X Y row ⟨v1, v2, h1, h2, h3, h4, h5⟩ hg hr
  exact ⟨v1, v2, box_kept h1 hg hr, box_kept h2 hg hr, owns_kept h3 hg hr, owns_kept h4 hg hr, h5⟩
theorem Two.swap {lo b1 b2 : Nat} {W : World} {v1 v2 : Value} {xs ys : List Int} (h : Two lo b1 b2 W v1 v2 xs ys) : Two lo b2 b1 W v2 v1 ys xs :=
  ⟨h.2.1, h.1, h.2.2.2.1, h.2.2.1, by
    rcases h.2.2.2.2 with h | h
    · by_cases e : v2.ownBlock = none
      · exact .inl e
      · exact .inr (fun e' => e (e'.trans h))
    · exact .inr (fun e => h e.symm)⟩
theorem Two.later {lo b1 b2 : Nat} {W W' : World} {v1 v2 : Value} {xs ys : List Int} (h : Two lo b1 b2 W v1 v2 xs ys) (hb : Below W.heap.size W W') : Two lo b1 b2 W' v1 v2 xs ys :=
  ⟨boxed_below h.1 hb h.1.lt, boxed_below h.2.1 hb h.2.1.lt, owns_below h.2.2.1 hb, owns_below h.2.2.2.1 hb, h.2.2.2.2⟩

/-- ONE MORE INTO THE FIRST ROW: behind the append's words. -/
theorem Two.app {b1 b2 n₀ n₁ : Nat} {W w1 : World} {v1 v2 v' : Value} {xs ys : List Int} {x : Int} {tmp : Obj} (h : Two n₀ b1 b2 W v1 v2 xs ys) (hne : b1 ≠ b2) (hb1 : n₀ ≤ b1) (hl1 : b1 < n₁) (hl2 : b2 < n₁) (hn0 : n₀ ≤ W.heap.size) (hn1 : n₁ ≤ W.heap.size)
    (hown : w1.ownsRow n₀ 3 1 v' (xs.length + 1) (intCells xs ++ [.int .i64 x])) (hgrow : (W.alloc tmp).grownBy w1 v1.ownBlock) (hat : v'.ownBlock = v1.ownBlock ∨ v'.ownBlock = some (W.alloc tmp).heap.size) :
    Boxed w1 b1 45 v1 ∧ Two n₀ b1 b2 (w1.setCell ⟨b1, 0, none⟩ v') v' v2 (xs ++ [x]) ys ∧ KeepsOthers W (w1.setCell ⟨b1, 0, none⟩ v') ∧ KR n₀ n₁ [b1, b2] W (w1.setCell ⟨b1, 0, none⟩ v') ∧ KR n₀ n₁ [b2, b1] W (w1.setCell ⟨b1, 0, none⟩ v') := by
  obtain ⟨h1, h2, h3, h4, h5⟩ := h
  have hin : (45 : Nat) ≠ 3 := by decide
  obtain ⟨a1, a2, a3, a4, a5⟩ := h1.appended (tmp := tmp) hin h3 hn0 hb1 hown hgrow
  have n12 := h2.not_row hin h3
  have n11 := h1.not_row hin h3
  have n21 := h1.not_row hin h4
  have sA : (W.alloc tmp).heap.size = W.heap.size + 1 := by simp
  have ha : Below W.heap.size W (W.alloc tmp) := (Below.refl _ _).alloc (Nat.le_refl _) _
  have hlow : ∀ g, v1.ownBlock = some g → n₀ ≤ g ∧ b1 ≠ g ∧ b2 ≠ g := fun g hg => ⟨(own_lt h3 hg).1, fun e => n11 (by rw [hg, e]), fun e => n12 (by rw [hg, e])⟩
  have hb2 : Boxed (w1.setCell ⟨b1, 0, none⟩ v') b2 45 v2 := boxed_other ((boxed_below h2 ha h2.lt).kept hgrow n12) (by show b2 ≠ b1; exact fun e => hne e.symm) _
  have h4' : (w1.setCell ⟨b1, 0, none⟩ v').ownsRow n₀ 3 1 v2 ys.length (intCells ys) := by
    refine owns_grown (owns_grown (owns_below h4 ha) hgrow ?_) (grownBy_setCell' w1 b1 v') (.inl (fun e => n21 e.symm))
    rcases h5 with h5 | h5
    · by_cases e : v2.ownBlock = none
      · exact .inr e
      · exact .inl (fun e' => e (e'.trans h5))
    · exact .inl (fun e => h5 e.symm)
  refine ⟨a1, ⟨a2, hb2, by rw [List.length_append, intCells, List.map_append]; exact a3, h4', ?_⟩, a4, ?_, ?_⟩
  · rcases hat with h | h
    · rw [h]; exact h5
    · refine .inr fun e => ?_
      rw [h] at e
      have := (own_lt h4 e.symm).2
      omega
  · exact KR.app (t := 45) (fun b hb => by simp only [List.mem_cons, List.not_mem_nil, or_false] at hb; rcases hb with rfl | rfl <;> assumption) hn1 hn0 (by simp) hb1 h1 (fun g hg => ⟨(hlow g hg).1, fun b' hb => by simp only [List.mem_cons, List.not_mem_nil, or_false] at hb; rcases hb with rfl | rfl; exact (hlow g hg).2.1; exact (hlow g hg).2.2⟩) hgrow hat (fun g hg => (own_lt hown hg).2)
  · exact KR.app (t := 45) (fun b hb => by simp only [List.mem_cons, List.not_mem_nil, or_false] at hb; rcases hb with rfl | rfl <;> assumption) hn1 hn0 (by simp) hb1 h1 (fun g hg => ⟨(hlow g hg).1, fun b' hb => by simp only [List.mem_cons, List.not_mem_nil, or_false] at hb; rcases hb with rfl | rfl; exact (hlow g hg).2.2; exact (hlow g hg).2.1⟩) hgrow hat (fun g hg => (own_lt hown hg).2)

/-- What the walk gathers. -/
def usesC (l : List (Nat × MT)) : List Int := (l.filter fun x => x.2.op == 0).map fun x => x.2.n
/-- Go's own half. -/
def half (n : Int) : Int := wrap64 (n.tdiv 2)
def usesR (l : List (Nat × MT)) : List Int := (l.filter fun x => x.2.op == 6 || x.2.op == 7).map fun x => half x.2.n
theorem usesC_snoc (l : List (Nat × MT)) (x : Nat × MT) : usesC (l ++ [x]) = usesC l ++ if x.2.op == 0 then [x.2.n] else [] := by
  unfold usesC; rw [List.filter_append, List.map_append]; cases h : (x.2.op == 0) <;> simp [h]
theorem usesR_snoc (l : List (Nat × MT)) (x : Nat × MT) : usesR (l ++ [x]) = usesR l ++ if x.2.op == 6 || x.2.op == 7 then [half x.2.n] else [] := by
  unfold usesR; rw [List.filter_append, List.map_append]; cases h : (x.2.op == 6 || x.2.op == 7) <;> simp [h]
theorem usesC_len (l : List (Nat × MT)) : (usesC l).length ≤ l.length := by unfold usesC; rw [List.length_map]; exact List.length_filter_le _ _
theorem usesR_len (l : List (Nat × MT)) : (usesR l).length ≤ l.length := by unfold usesR; rw [List.length_map]; exact List.length_filter_le _ _

/-- What Uses hands back of a valid concept. -/
def RetUses (w : World) (T : MT) (e : Ending) (w' : World) : Prop :=
  ∃ v1 v2, e = .returned (.tuple #[v1, v2, .int .i64 0]) ∧ w'.ownsRow w.heap.size 3 1 v1 (ascL (usesC (T.pre 1))).length (intCells (ascL (usesC (T.pre 1)))) ∧ w'.ownsRow w.heap.size 3 1 v2 (ascL (usesR (T.pre 1))).length (intCells (ascL (usesR (T.pre 1)))) ∧ (v1.ownBlock = none ∨ v1.ownBlock ≠ v2.ownBlock) ∧ Below w.heap.size w w'

set_option maxRecDepth 100000 in
set_option maxHeartbeats 4000000 in
theorem cUses_ok (n : NM) (T : MT) (w : World) (hG : G w) (hn : n.In w.heap.size w) (hT : T.In w.heap.size w) (hsz : (T.pre 1).length ≤ 1000000) (hck : checkF n T = 0) :
    Calls Tryd.prog 29 #[n.val, T.val] w (RetUses w T) := by
  refine (callsIn_wide (n := 5)).1 ?_
  have hdd : ∀ k : Nat, (Fence.wide.depth.isSome = true → 1 ≤ k) := fun k h => by cases h
  obtain ⟨W1, hW1, hB1, hs1, hblk1⟩ := newBlk w _ rfl #[.slice n.C.A n.C.l.length n.C.c, .slice n.R.A n.R.l.length n.R.c, .slice n.I.A n.I.l.length n.I.c] 24
  obtain ⟨W2, hW2, hB2, hs2, hblk2⟩ := newBlk W1 _ hs1 #[.int .i64 T.op, .int .i64 T.n, .slice T.A T.args.length T.c] 27
  obtain ⟨W3, hW3, hB3, hs3, b3⟩ := newBox W2 _ hs2 (.slice none 0 0) 45
  obtain ⟨W4, hW4, hB4, hs4, b4⟩ := newBox W3 _ hs3 (.slice none 0 0) 45
  have hB : Below w.heap.size w W4 := ((hB1.trans (hB2.mono (by omega))).trans (hB3.mono (by omega))).trans (hB4.mono (by omega))
  have hblk14 := (hB4.block w.heap.size (by omega)).trans ((hB3.block w.heap.size (by omega)).trans ((hB2.block w.heap.size (by omega)).trans hblk1))
  have hblk24 := (hB4.block (w.heap.size + 1) (by omega)).trans ((hB3.block (w.heap.size + 1) (by omega)).trans hblk2)
  have b34 := boxed_below b3 hB4 (by omega)
  have a0 := cell_of_blk hblk14 0
  have a1 := cell_of_blk hblk14 1
  have a2 := cell_of_blk hblk14 2
  have c0 := cell_of_blk hblk24 0
  have c1 := cell_of_blk hblk24 1
  have c2 := cell_of_blk hblk24 2
  simp only [List.getElem?_toArray, List.getElem?_cons_zero, List.getElem?_cons_succ] at a0 a1 a2 c0 c1 c2
  have hcc := inW (cCheck_any n T W4 (hG.later hB) (hn.later hB) (hT.later hB) hsz) 4
  rw [hck] at hcc
  have HCC := Lib.hid hcc
  have HB := Lib.hid hB
  clear hB hcc
  simp only [NM.val, MT.val] at HCC ⊢
  refine callsIn_of_wp_marks Tryd.func29 rfl trivial ?_ rfl
  simp only [Tryd.ntmps29, List.size_toArray, List.length_cons, List.length_nil, Nat.reduceAdd, Nat.reduceSub, Array.replicate_succ, Array.replicate_zero, List.push_toArray, List.append_toArray, List.nil_append, List.cons_append]
  gi_wp2_with (first
      | (refine ⟨trivial, ?_⟩; refine HCC.out.mono ?_; rintro e w5 ⟨rfl, hb5⟩; have hsz5 := hb5.size; have hsz6 : w.heap.size + 3 < w5.heap.size := (by omega); have hblk25 := (hb5.block (w.heap.size + 1) (by omega)).trans hblk24; have d0 := cell_of_blk hblk25 0; have d1 := cell_of_blk hblk25 1; have d2 := cell_of_blk hblk25 2; simp only [List.getElem?_toArray, List.getElem?_cons_zero, List.getElem?_cons_succ] at d0 d1 d2)
      | (refine ⟨trivial, ?_⟩; refine (inW (walk_any T _) _).mono ?_; rintro e w' ⟨rfl, rfl⟩))
  obtain ⟨m, hm⟩ : ∃ m, w5.heap.size = m := ⟨_, rfl⟩
  rw [hm] at hsz5 hsz6 ⊢
  obtain ⟨W6, hW6, hB6, hs6, hblk6⟩ := newBlk w5 _ hm #[.int .i64 T.op, .int .i64 T.n, .slice T.A T.args.length T.c] 27
  rw [hW6]
  obtain ⟨i0, hi, hz0, hz1, hz2⟩ := info_parts int_info
  have hB46 : Below W4.heap.size W4 W6 := hb5.trans (hB6.mono (by omega))
  have hB06 : Below w.heap.size w W6 := HB.out.trans (hB46.mono (by omega))
  have e3 := boxed_below b34 hB46 (by omega)
  have e4 := boxed_below b4 hB46 (by omega)
  have h00 : W6.ownsRow w.heap.size 3 1 (.slice none 0 0) 0 (intCells []) := ⟨rfl, .inl ⟨rfl, rfl⟩⟩
  have hT0 : Two w.heap.size (w.heap.size + 1 + 1) (w.heap.size + 1 + 1 + 1) W6 (.slice none 0 0) (.slice none 0 0) [] [] := ⟨e3, e4, h00, h00, .inl rfl⟩
  have hbs : ∀ b ∈ [w.heap.size + 1 + 1, w.heap.size + 1 + 1 + 1], b < W6.heap.size := fun b hb => by simp only [List.mem_cons, List.not_mem_nil, or_false] at hb; rcases hb with rfl | rfl <;> omega
  have hrok : RowsOK [w.heap.size + 1 + 1, w.heap.size + 1 + 1 + 1] W6 := fun b hb g hg => by
    simp only [List.mem_cons, List.not_mem_nil, or_false] at hb
    rcases hb with rfl | rfl
    · rw [rowAt, e3.cell] at hg; cases hg
    · rw [rowAt, e4.cell] at hg; cases hg
  clear hW1 hW2 hW3 hW4 hW6 c0 c1 c2 a0 a1 a2 d0 d1 d2 hblk1 hblk2 b3 hB1 hB2 hB3 hB4
  refine wpIn_rangeFunc_ownH rfl (by omega) (gf := 108) (lb := #[.pointer (some ⟨m, 0, none⟩)]) rfl trivial (enters_of Tryd.func108 (by kernel_rfl) rfl)
    (walk1_stopsR [w.heap.size + 1 + 1, w.heap.size + 1 + 1 + 1] 4 w.heap.size W6.heap.size m hbs w W6 T hT hB06 (by omega) (Nat.le_refl _) (by omega) hrok hblk6) KR.trans (KR.b hbs (Nat.le_refl _) (by omega)) (Below.refl _ _) (fun _ => rfl)
    (fun pre W => (∃ v1 v2, Two w.heap.size (w.heap.size + 1 + 1) (w.heap.size + 1 + 1 + 1) W v1 v2 (usesC (pre.map (·.1))) (usesR (pre.map (·.1)))) ∧ (Below w.heap.size w W ∧ W6.heap.size ≤ W.heap.size))
    (fun _ _ _ => False)
    (OwnFrom.and (Own.from (two_own _ _ _ _ _) _) (OwnFrom.and (ownFrom_below (Nat.le_refl _) (by omega)) (fun _ _ _ _ hs hg _ => Nat.le_trans hs hg.size)))
    (fun _ _ _ _ _ hs _ _ => hs)
    ⟨⟨_, _, hT0⟩, hB06, Nat.le_refl _⟩
    (fun x a' W => ∃ Bx, w.heap.size + 1 + 1 + 1 < Bx ∧ W.heap[Bx]? = some (.cells #[.int .i64 x.1.2.op, .int .i64 x.1.2.n, .slice x.1.2.A x.1.2.args.length x.1.2.c] 27) ∧ a' = { tmps := #[.agg #[.slice n.C.A n.C.l.length n.C.c, .slice n.R.A n.R.l.length n.R.c, .slice n.I.A n.I.l.length n.I.c], .agg #[.int .i64 T.op, .int .i64 T.n, .slice T.A T.args.length T.c], .pointer (some ⟨w.heap.size, 0, none⟩), .pointer (some ⟨w.heap.size + 1, 0, none⟩), .pointer (some ⟨w.heap.size + 1 + 1, 0, none⟩), .pointer (some ⟨w.heap.size + 1 + 1 + 1, 0, none⟩), .int .i64 0, .int .i64 0, undef, .pointer (some ⟨Bx, 0, none⟩), .agg #[.slice n.C.A n.C.l.length n.C.c, .slice n.R.A n.R.l.length n.R.c, .slice n.I.A n.I.l.length n.I.c], .agg #[.int .i64 T.op, .int .i64 T.n, .slice T.A T.args.length T.c], .int .i64 0, .int .i64 0, .bool false, undef, .agg #[.int .i64 T.op, .int .i64 T.n, .slice T.A T.args.length T.c], .func (.func 108) #[] #[.pointer (some ⟨m, 0, none⟩)], .int .i64 x.1.1, .agg #[.int .i64 x.1.2.op, .int .i64 x.1.2.n, .slice x.1.2.A x.1.2.args.length x.1.2.c], undef, undef, undef, undef, undef, undef, undef, undef, undef, undef, undef, undef, undef, undef, undef, undef, undef, undef, undef, undef, undef, undef], defers := [] })
    (fun x a' _ X Y row hs hg hr => by obtain ⟨Bx, h1, h2, h3⟩ := hs; exact ⟨Bx, h1, blk_own (α := Unit) Bx _ _ [] X Y row h2 hg (fun r e => (hr r e).2), h3⟩)
    ?assign ?body ?done ?stop
  case assign =>
    rintro l pre x W K ⟨⟨v1, v2, i1⟩, i2, i3⟩ hK
    have hlt4 := i1.2.1.lt
    simp only [MT.val]
    gi_wp2
    exact hK _ _ ((KeepsOthers.alloc _ _).from _) (KR.alloc hbs i3 i2.size _) ⟨⟨v1, v2, i1.later ((Below.refl _ _).alloc (Nat.le_refl _) _)⟩, i2.alloc i2.size _, by simp; omega⟩ ⟨W.heap.size, hlt4, World.alloc_heap_new' _ _, rfl⟩
  case body =>
    rintro l pre x a' W hl ⟨r, hr⟩ ⟨⟨v1, v2, i1⟩, i2, i3⟩ ⟨Bx, hBx, hbx, rfl⟩ hlt
    have x0 := cell_of_blk hbx 0
    have x1 := cell_of_blk hbx 1
    simp only [List.getElem?_toArray, List.getElem?_cons_zero, List.getElem?_cons_succ] at x0 x1
    have n0 := i1.1.cell
    have n1 := i1.1.frozen
    have q0 := i1.2.1.cell
    have q1 := i1.2.1.frozen
    have HC := Lib.hid (show usesC ((pre ++ [x]).map (·.1)) = usesC (pre.map (·.1)) ++ if x.1.2.op == 0 then [x.1.2.n] else [] by rw [List.map_append]; exact usesC_snoc _ _)
    have HR := Lib.hid (show usesR ((pre ++ [x]).map (·.1)) = usesR (pre.map (·.1)) ++ if x.1.2.op == 6 || x.1.2.op == 7 then [half x.1.2.n] else [] by rw [List.map_append]; exact usesR_snoc _ _)
    have hlc := usesC_len (pre.map (·.1))
    have hlr := usesR_len (pre.map (·.1))
    rw [List.length_map] at hlc hlr
    generalize usesC (pre.map (·.1)) = xs at i1 HC hlc
    generalize usesR (pre.map (·.1)) = ys at i1 HR hlr
    have hw0 := i2.size
    have hxb : Bx < W.heap.size := (Array.getElem?_eq_some_iff.1 hbx).1
    rcases k0 : (x.1.2.op == 0)
    · rcases k6 : (x.1.2.op == 6)
      · rcases k7 : (x.1.2.op == 7)
        · have HC2 := Lib.hid (HC.out.trans (show _ = xs by simp [k0]))
          have HR2 := Lib.hid (HR.out.trans (show _ = ys by simp [k6, k7]))
          gi_wp2
          exact ⟨(KeepsOthers.refl _).from _, KR.refl _ _ _ _, ⟨v1, v2, by rw [HC2.out, HR2.out]; exact i1⟩, i2, i3⟩
        · have HC2 := Lib.hid (HC.out.trans (show _ = xs by simp [k0]))
          have HR2 := Lib.hid (HR.out.trans (show _ = ys ++ [half x.1.2.n] by simp [k6, k7]))
          gi_wp2_with (gi_at_builtin; refine wpListIn_append_own_at _ rfl _ _ 45 rfl w.heap.size 3 i0 _ 1 8 Tryd.underlying45 hi hz0 hz1 hz2 rfl (by omega) v2 ys.length (intCells ys) rfl (owns_below i1.2.2.2.1 ((Below.refl _ W).alloc (Nat.le_refl _) _)) ⟨W.heap.size, 0, none⟩ 1 1 [.int .i64 (wrap64 (x.1.2.n.tdiv 2))] rfl rfl (World.news_of_block (cs := #[.int .i64 (wrap64 (x.1.2.n.tdiv 2))]) (t := 3) (fr := (0, 0)) (heap_alloc_new W _)) (by simp [Value.oneCell']) (by unfold maxLen; omega) (by omega) (by simp; omega) ?_; intro v' w1' hown' hgrow hnil hat; obtain ⟨g, cap, rfl⟩ := ownsRow_succ hown'; obtain ⟨z1, z2, z3, z4, z5⟩ := Two.app (n₁ := W6.heap.size) i1.swap (by omega) (by omega) (by omega) (by omega) (by omega) (by omega) hown' hgrow hat; have z10 := z1.cell; have z11 := z1.frozen)
          exact ⟨z3.from _, z5, ⟨_, _, by rw [HC2.out, HR2.out]; exact z2.swap⟩, i2.trans z5.below, Nat.le_trans i3 z5.below.size⟩
      · have HC2 := Lib.hid (HC.out.trans (show _ = xs by simp [k0]))
        have HR2 := Lib.hid (HR.out.trans (show _ = ys ++ [half x.1.2.n] by simp [k6]))
        gi_wp2_with (gi_at_builtin; refine wpListIn_append_own_at _ rfl _ _ 45 rfl w.heap.size 3 i0 _ 1 8 Tryd.underlying45 hi hz0 hz1 hz2 rfl (by omega) v2 ys.length (intCells ys) rfl (owns_below i1.2.2.2.1 ((Below.refl _ W).alloc (Nat.le_refl _) _)) ⟨W.heap.size, 0, none⟩ 1 1 [.int .i64 (wrap64 (x.1.2.n.tdiv 2))] rfl rfl (World.news_of_block (cs := #[.int .i64 (wrap64 (x.1.2.n.tdiv 2))]) (t := 3) (fr := (0, 0)) (heap_alloc_new W _)) (by simp [Value.oneCell']) (by unfold maxLen; omega) (by omega) (by simp; omega) ?_; intro v' w1' hown' hgrow hnil hat; obtain ⟨g, cap, rfl⟩ := ownsRow_succ hown'; obtain ⟨z1, z2, z3, z4, z5⟩ := Two.app (n₁ := W6.heap.size) i1.swap (by omega) (by omega) (by omega) (by omega) (by omega) (by omega) hown' hgrow hat; have z10 := z1.cell; have z11 := z1.frozen)
        exact ⟨z3.from _, z5, ⟨_, _, by rw [HC2.out, HR2.out]; exact z2.swap⟩, i2.trans z5.below, Nat.le_trans i3 z5.below.size⟩
    · have h6 : (x.1.2.op == 6) = false := by rw [beq_iff_eq] at k0; rw [k0]; rfl
      have h7 : (x.1.2.op == 7) = false := by rw [beq_iff_eq.1 k0]; rfl
      have HC2 := Lib.hid (HC.out.trans (show _ = xs ++ [x.1.2.n] by simp [k0]))
      have HR2 := Lib.hid (HR.out.trans (show _ = ys by simp [h6, h7]))
      clear h6 h7
      gi_wp2_with (gi_at_builtin; refine wpListIn_append_own_at _ rfl _ _ 45 rfl w.heap.size 3 i0 _ 1 8 Tryd.underlying45 hi hz0 hz1 hz2 rfl (by omega) v1 xs.length (intCells xs) rfl (owns_below i1.2.2.1 ((Below.refl _ W).alloc (Nat.le_refl _) _)) ⟨W.heap.size, 0, none⟩ 1 1 [.int .i64 x.1.2.n] rfl rfl (World.news_of_block (cs := #[.int .i64 x.1.2.n]) (t := 3) (fr := (0, 0)) (heap_alloc_new W _)) (by simp [Value.oneCell']) (by unfold maxLen; omega) (by omega) (by simp; omega) ?_; intro v' w1' hown' hgrow hnil hat; obtain ⟨g, cap, rfl⟩ := ownsRow_succ hown'; obtain ⟨z1, z2, z3, z4, z5⟩ := Two.app (n₁ := W6.heap.size) i1 (by omega) (by omega) (by omega) (by omega) (by omega) (by omega) hown' hgrow hat; have z10 := z1.cell; have z11 := z1.frozen)
      exact ⟨z3.from _, z4, ⟨_, _, by rw [HC2.out, HR2.out]; exact z2⟩, i2.trans z4.below, Nat.le_trans i3 z4.below.size⟩
  case done =>
    rintro D ys0 W hD hys ⟨⟨v1, v2, i1⟩, i2, i3⟩ hK
    rw [hys] at i1
    have hlc := usesC_len (T.pre 1)
    have hlr := usesR_len (T.pre 1)
    obtain ⟨xs, HX⟩ : ∃ xs, Hid (usesC (T.pre 1) = xs) := ⟨_, Lib.hid rfl⟩
    obtain ⟨ys, HY⟩ : ∃ ys, Hid (usesR (T.pre 1) = ys) := ⟨_, Lib.hid rfl⟩
    rw [HX.out] at i1 hlc
    rw [HY.out] at i1 hlr
    have hin : (45 : Nat) ≠ 3 := by decide
    have t1 := i1.later (Below.refl W.heap.size W).drew
    have hKd : W.drew.heap[D]? = some (.deferred (some [])) := hK
    have hA1 := asc_any v1 xs W.drew t1.2.2.1 (by omega)
    have hA2 := fun w1 (h : w1.ownsRow w.heap.size 3 1 v2 ys.length (intCells ys)) => asc_any v2 ys w1 h (by omega)
    have n0 := t1.1.cell
    have q0 := t1.2.1.cell
    have hDne : ∀ (W1 : World) (v : Value) (n : Nat) (l : List Value), W1.ownsRow w.heap.size 3 1 v n l → W1.heap[D]? = some (.deferred (some [])) → some D ≠ v.ownBlock := fun W1 v n l h hd e => by
      rcases h.2 with ⟨rfl, _⟩ | ⟨g, cap, cur, rfl, _, hgb, _⟩
      · cases e
      · cases e; rw [hd] at hgb; cases hgb
    have hD3 : w.heap.size + 1 + 1 + 1 < D := by omega
    have hw0 := i2.size
    gi_wp2_with fail
    refine Code.wpIn_mono NoPanic.imp ?_
    gi_region_with (first
      | (refine ⟨trivial, ?_⟩; refine (inW (hA2 _ r12) _).mono ?_; rintro e w2 ⟨v2', rfl, ho2, hr2, hg2⟩; have b21 := b11.kept hg2 (b11.not_row hin r12); have b22 := b12.kept hg2 (b12.not_row hin r12); have k2 := (hg2.block D (Array.getElem?_eq_some_iff.1 k1).1 (hDne _ _ _ _ r12 k1)).trans k1; have r21 := owns_grown hr1 hg2 (by rw [ho1]; rcases t1.2.2.2.2 with h | h; exact .inr h; exact .inl h); have p10 := b21.cell; have p11 := b21.frozen; have bl2 := (bl1.grown hg2 bl1.size (fun k e => (own_lt r12 e).1)); obtain ⟨A2, m2, c2, rfl⟩ := own_form hr2; have b21' := boxed_other b22 (p := ⟨w.heap.size + 1 + 1, 0, none⟩) (by show w.heap.size + 1 + 1 + 1 ≠ w.heap.size + 1 + 1; omega) (.slice A1 m1 c1); have p20 := b21'.cell; have p21 := b21'.frozen)
      | (refine ⟨trivial, ?_⟩; refine (inW hA1 _).mono ?_; rintro e w1 ⟨v1', rfl, ho1, hr1, hg1⟩; have b11 := t1.1.kept hg1 (t1.1.not_row hin t1.2.2.1); have b12 := t1.2.1.kept hg1 (t1.2.1.not_row hin t1.2.2.1); have k1 := (hg1.block D (Array.getElem?_eq_some_iff.1 hKd).1 (hDne _ _ _ _ t1.2.2.1 hKd)).trans hKd; have r12 := owns_grown t1.2.2.2.1 hg1 (by rcases t1.2.2.2.2 with h | h; (by_cases e : v2.ownBlock = none; exact .inr e; exact .inl (fun e' => e (e'.trans h))); exact .inl (fun e => h e.symm)); have m10 := b11.cell; have m20 := b12.cell; have bl1 := (i2.drew.grown hg1 i2.size (fun k e => (own_lt t1.2.2.1 e).1)); obtain ⟨A1, m1, c1, rfl⟩ := own_form hr1))
    all_goals
      refine NoPanic.normal ?_
      gi_wp2_with fail
      have nr1 : some (w.heap.size + 1 + 1) ≠ (Value.slice A1 m1 c1).ownBlock := b21.not_row hin r21
      have nr2 : some (w.heap.size + 1 + 1 + 1) ≠ (Value.slice A1 m1 c1).ownBlock := b22.not_row hin r21
      have ns1 : some (w.heap.size + 1 + 1) ≠ (Value.slice A2 m2 c2).ownBlock := b21.not_row hin hr2
      have ns2 : some (w.heap.size + 1 + 1 + 1) ≠ (Value.slice A2 m2 c2).ownBlock := b22.not_row hin hr2
      have hd12 : (Value.slice A1 m1 c1).ownBlock = none ∨ (Value.slice A1 m1 c1).ownBlock ≠ (Value.slice A2 m2 c2).ownBlock := by rw [ho1, ho2]; exact t1.2.2.2.2
      have e1 := boxed_other (Boxed.set (.slice A1 m1 c1) b21) (p := ⟨w.heap.size + 1 + 1 + 1, 0, none⟩) (by show w.heap.size + 1 + 1 ≠ w.heap.size + 1 + 1 + 1; omega) (.slice A2 m2 c2)
      have e2 := Boxed.set (.slice A2 m2 c2) b21'
      have q1 := owns_grown (owns_grown r21 (grownBy_setCell' w2 (w.heap.size + 1 + 1) (.slice A1 m1 c1)) (.inl (fun e => nr1 e.symm))) (grownBy_setCell' _ (w.heap.size + 1 + 1 + 1) (.slice A2 m2 c2)) (.inl (fun e => nr2 e.symm))
      have q2 := owns_grown (owns_grown hr2 (grownBy_setCell' w2 (w.heap.size + 1 + 1) (.slice A1 m1 c1)) (.inl (fun e => ns1 e.symm))) (grownBy_setCell' _ (w.heap.size + 1 + 1 + 1) (.slice A2 m2 c2)) (.inl (fun e => ns2 e.symm))
      have hK' := ((KeepsOthers.setCell w2 ⟨w.heap.size + 1 + 1, 0, none⟩ (.slice A1 m1 c1)).trans (KeepsOthers.setCell _ ⟨w.heap.size + 1 + 1 + 1, 0, none⟩ (.slice A2 m2 c2))).same D _ k2 rfl
      have hb' := (bl2.setCell (p := ⟨w.heap.size + 1 + 1, 0, none⟩) (by show _ ≤ w.heap.size + 1 + 1; omega) (.slice A1 m1 c1)).setCell (p := ⟨w.heap.size + 1 + 1 + 1, 0, none⟩) (by show _ ≤ w.heap.size + 1 + 1 + 1; omega) (.slice A2 m2 c2)
      generalize (w2.setCell ⟨w.heap.size + 1 + 1, 0, none⟩ (.slice A1 m1 c1)).setCell ⟨w.heap.size + 1 + 1 + 1, 0, none⟩ (.slice A2 m2 c2) = W5 at e1 e2 q1 q2 hK' hb' ⊢
      have c5 := cell_kept e1.cell (grownBy_putObj' _ D (.deferred none)) (fun r e => by cases e; exact ⟨_, hK', rfl⟩)
      have c6 := cell_kept e2.cell (grownBy_putObj' _ D (.deferred none)) (fun r e => by cases e; exact ⟨_, hK', rfl⟩)
      refine ⟨by simp, .inl ⟨_, _, rfl, run_takeDeferred hK', ?_⟩⟩
      refine ⟨.tuple #[.slice A1 m1 c1, .slice A2 m2 c2, .int .i64 0], ?_, _, _, rfl, by rw [HX.out]; exact ownsRow_putObj q1 _ hK' rfl, by rw [HY.out]; exact ownsRow_putObj q2 _ hK' rfl, hd12, hb'.trans (belowK_b (w := w) (Nat.le_refl _) _ D _ _ (by omega) hK' rfl rfl)⟩
      simp [results, Tryd.f29, go_sem, c5, c6]
  case stop =>
    rintro D c pre W _ _ h _
    exact h.elim

set_option maxRecDepth 100000 in
set_option maxHeartbeats 4000000 in
theorem cUses_bad (n : NM) (T : MT) (w : World) (hG : G w) (hn : n.In w.heap.size w) (hT : T.In w.heap.size w) (hsz : (T.pre 1).length ≤ 1000000) (hck : checkF n T ≠ 0) :
    Calls Tryd.prog 29 #[n.val, T.val] w fun e w' => e = .returned (.tuple #[.slice none 0 0, .slice none 0 0, .int .i64 (checkF n T)]) ∧ Below w.heap.size w w' := by
  refine (callsIn_wide (n := 5)).1 ?_
  obtain ⟨W1, hW1, hB1, hs1, hblk1⟩ := newBlk w _ rfl #[.slice n.C.A n.C.l.length n.C.c, .slice n.R.A n.R.l.length n.R.c, .slice n.I.A n.I.l.length n.I.c] 24
  obtain ⟨W2, hW2, hB2, hs2, hblk2⟩ := newBlk W1 _ hs1 #[.int .i64 T.op, .int .i64 T.n, .slice T.A T.args.length T.c] 27
  obtain ⟨W3, hW3, hB3, hs3, b3⟩ := newBox W2 _ hs2 (.slice none 0 0) 45
  obtain ⟨W4, hW4, hB4, hs4, b4⟩ := newBox W3 _ hs3 (.slice none 0 0) 45
  have hB : Below w.heap.size w W4 := ((hB1.trans (hB2.mono (by omega))).trans (hB3.mono (by omega))).trans (hB4.mono (by omega))
  have hblk14 := (hB4.block w.heap.size (by omega)).trans ((hB3.block w.heap.size (by omega)).trans ((hB2.block w.heap.size (by omega)).trans hblk1))
  have hblk24 := (hB4.block (w.heap.size + 1) (by omega)).trans ((hB3.block (w.heap.size + 1) (by omega)).trans hblk2)
  have b34 := boxed_below b3 hB4 (by omega)
  have a0 := cell_of_blk hblk14 0
  have a1 := cell_of_blk hblk14 1
  have a2 := cell_of_blk hblk14 2
  have c0 := cell_of_blk hblk24 0
  have c1 := cell_of_blk hblk24 1
  have c2 := cell_of_blk hblk24 2
  simp only [List.getElem?_toArray, List.getElem?_cons_zero, List.getElem?_cons_succ] at a0 a1 a2 c0 c1 c2
  have hcc := inW (cCheck_any n T W4 (hG.later hB) (hn.later hB) (hT.later hB) hsz) 4
  have hneB : (checkF n T != 0) = true := by simpa using hck
  generalize checkF n T = ck at hcc hneB ⊢
  have HCC := Lib.hid hcc
  have HB := Lib.hid hB
  clear hB hcc hck
  simp only [NM.val, MT.val] at HCC ⊢
  refine callsIn_of_wp_marks Tryd.func29 rfl trivial ?_ rfl
  simp only [Tryd.ntmps29, List.size_toArray, List.length_cons, List.length_nil, Nat.reduceAdd, Nat.reduceSub, Array.replicate_succ, Array.replicate_zero, List.push_toArray, List.append_toArray, List.nil_append, List.cons_append]
  gi_wp2_with (refine ⟨trivial, ?_⟩; refine HCC.out.mono ?_; rintro e w5 ⟨rfl, hb5⟩; have x3 := boxed_below b34 hb5 (by omega); have x4 := boxed_below b4 hb5 (by omega); have y0 := x3.cell; have y1 := x3.frozen; have x4' := boxed_other x4 (p := ⟨w.heap.size + 1 + 1, 0, none⟩) (by show w.heap.size + 1 + 1 + 1 ≠ w.heap.size + 1 + 1; omega) (.slice none 0 0); have y2 := x4'.cell; have y3 := x4'.frozen)
  have e1 := boxed_other (Boxed.set (.slice none 0 0) x3) (p := ⟨w.heap.size + 1 + 1 + 1, 0, none⟩) (by show w.heap.size + 1 + 1 ≠ w.heap.size + 1 + 1 + 1; omega) (.slice none 0 0)
  have e2 := Boxed.set (.slice none 0 0) x4'
  have hb' := ((HB.out.trans (hb5.mono (by omega))).setCell (p := ⟨w.heap.size + 1 + 1, 0, none⟩) (by show _ ≤ w.heap.size + 1 + 1; omega) (.slice none 0 0)).setCell (p := ⟨w.heap.size + 1 + 1 + 1, 0, none⟩) (by show _ ≤ w.heap.size + 1 + 1 + 1; omega) (.slice none 0 0)
  generalize (w5.setCell ⟨w.heap.size + 1 + 1, 0, none⟩ (.slice none 0 0)).setCell ⟨w.heap.size + 1 + 1 + 1, 0, none⟩ (.slice none 0 0) = W5 at e1 e2 hb' ⊢
  have c5 := e1.cell
  have c6 := e2.cell
  refine ⟨.tuple #[.slice none 0 0, .slice none 0 0, .int .i64 ck], ?_, rfl, hb'⟩
  simp [results, Tryd.f29, go_sem, c5, c6]
end Go.Proofs.YtdfghgcfihhmjaaDoor
