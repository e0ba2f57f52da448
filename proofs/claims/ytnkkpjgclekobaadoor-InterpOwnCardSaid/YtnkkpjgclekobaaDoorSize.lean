import Derived.Test.YtnkkpjgclekobaaDoorIter
namespace Go.Proofs.YtnkkpjgclekobaaDoor
open Go.RowKit Go.Shelf

attribute [local go_sem] Oper.semAt_some

def maxLev (l : List (Nat × MT)) : Nat := l.foldl (fun d x => max d x.1) 0
theorem maxLev_snoc (l : List (Nat × MT)) (x : Nat × MT) : maxLev (l ++ [x]) = max (maxLev l) x.1 := by simp [maxLev]

theorem newBox (w : World) (n : Nat) (hn : w.heap.size = n) (v : Value) (t : TypeId) : ∃ W1, w.alloc (.cells #[v] t) = W1 ∧ Below n w W1 ∧ W1.heap.size = n + 1 ∧ Boxed W1 n t v := by
  subst hn
  exact ⟨_, rfl, (Below.refl _ _).alloc (Nat.le_refl _) _, by simp, Boxed.new w t v⟩
theorem newBlk (w : World) (n : Nat) (hn : w.heap.size = n) (cs : Array Value) (t : TypeId) : ∃ W1, w.alloc (.cells cs t) = W1 ∧ Below n w W1 ∧ W1.heap.size = n + 1 ∧ W1.heap[n]? = some (.cells cs t) := by
  subst hn
  exact ⟨_, rfl, (Below.refl _ _).alloc (Nat.le_refl _) _, by simp, World.alloc_heap_new' w _⟩
theorem boxed_below {B : Nat} {W W' : World} {b : Nat} {t : TypeId} {v : Value} (h : Boxed W b t v) (hb : Below B W W') (hlt : b < B) : Boxed W' b t v := (hb.block b hlt).trans h
theorem boxed_other {W : World} {b : Nat} {t : TypeId} {v : Value} (h : Boxed W b t v) {p : Addr} (hp : b ≠ p.block) (u : Value) : Boxed (W.setCell p u) b t v := (Below.heap_setCell W p u b hp).trans h
theorem natCast_max (a b : Nat) : ((max a b : Nat) : Int) = max (a : Int) (b : Int) := by omega

set_option maxRecDepth 100000 in
set_option maxHeartbeats 2000000 in
theorem cSize_any (T : MT) (w : World) (hT : T.In w.heap.size w) (hsz : (T.pre 1).length ≤ 1000000) :
    Calls Tryd.prog 71 #[T.val] w fun e w' => e = .returned (.tuple #[.int .i64 (T.pre 1).length, .int .i64 (maxLev (T.pre 1))]) ∧ Below w.heap.size w w' := by
  refine (callsIn_wide (n := 3)).1 ?_
  obtain ⟨W1, hW1, hB1, hs1, hblk⟩ := newBlk w _ rfl #[Value.int .i64 T.op, Value.int .i64 T.n, Value.slice T.A T.args.length T.c] 27
  obtain ⟨W2, hW2, hB2, hs2, b2⟩ := newBox W1 _ hs1 (Value.int .i64 0) 3
  obtain ⟨W3, hW3, hB3, hs3, b3⟩ := newBox W2 _ hs2 (Value.int .i64 0) 3
  obtain ⟨W4, hW4, hB4, hs4, hblk4⟩ := newBlk W3 _ hs3 #[Value.int .i64 T.op, Value.int .i64 T.n, Value.slice T.A T.args.length T.c] 27
  have hB04 : Below w.heap.size w W4 := ((hB1.trans (hB2.mono (by omega))).trans (hB3.mono (by omega))).trans (hB4.mono (by omega))
  have b24 : Boxed W4 (w.heap.size + 1) 3 (.int .i64 0) := boxed_below (boxed_below b2 hB3 (by omega)) hB4 (by omega)
  have b34 : Boxed W4 (w.heap.size + 1 + 1) 3 (.int .i64 0) := boxed_below b3 hB4 (by omega)
  have hblk3 := (hB3.block w.heap.size (by omega)).trans ((hB2.block w.heap.size (by omega)).trans hblk)
  have c0 := cell_of_blk hblk3 0
  have c1 := cell_of_blk hblk3 1
  have c2 := cell_of_blk hblk3 2
  simp only [List.getElem?_toArray, List.getElem?_cons_zero, List.getElem?_cons_succ] at c0 c1 c2
  simp only [MT.val]
  refine callsIn_of_wp_marks Tryd.func71 rfl trivial ?_ rfl
  simp only [Tryd.ntmps71, List.size_toArray, List.length_cons, List.length_nil, Nat.reduceAdd, Nat.reduceSub, Array.replicate_succ, Array.replicate_zero, List.push_toArray, List.append_toArray, List.nil_append, List.cons_append]
  gi_wp2_with (refine ⟨trivial, ?_⟩; gi_at_call 40; refine (callsIn_wide.2 (walk_any T _)).mono ?_; rintro e w' ⟨rfl, rfl⟩)
  refine wpIn_rangeFunc_ownF rfl (by omega) (gf := 73) (lb := #[.pointer (some ⟨w.heap.size + 1 + 1 + 1, 0, none⟩)]) rfl trivial (enters_of Tryd.func73 (by kernel_rfl) rfl)
    (walk1_stops 2 w.heap.size W4.heap.size (w.heap.size + 1 + 1 + 1) w W4 T hT hB04 (by omega) (Nat.le_refl _) (by omega) hblk4) Kp.trans (Kp.b (by omega)) (Below.refl _ _) (fun _ => rfl)
    (fun pre W => (Boxed W (w.heap.size + 1) 3 (.int .i64 pre.length) ∧ Boxed W (w.heap.size + 1 + 1) 3 (.int .i64 (maxLev (pre.map (·.1))))) ∧ Below w.heap.size w W)
    (fun _ _ _ => False)
    (OwnFrom.and (OwnFrom.and (Own.from (boxed_own _ _ _) _) (Own.from (boxed_own _ _ _) _)) (ownFrom_below (Nat.le_refl _) (by omega)))
    (fun _ _ _ _ _ hs _ _ => hs)
    ⟨⟨b24, b34⟩, hB04⟩
    (fun x => { tmps := #[.agg #[Value.int .i64 T.op, Value.int .i64 T.n, Value.slice T.A T.args.length T.c], .pointer (some ⟨w.heap.size, 0, none⟩), .pointer (some ⟨w.heap.size + 1, 0, none⟩), .pointer (some ⟨w.heap.size + 1 + 1, 0, none⟩), .int .i64 x.1.1, .agg #[Value.int .i64 T.op, Value.int .i64 T.n, Value.slice T.A T.args.length T.c], .func (.func 73) #[] #[.pointer (some ⟨w.heap.size + 1 + 1 + 1, 0, none⟩)], .int .i64 x.1.1, x.1.2.val, undef, undef, undef, undef, undef, undef, undef], defers := [] }) ?assign ?body ?done ?stop
  case assign =>
    intro l x W K hK
    gi_wp2
    exact hK
  case body =>
    rintro l pre x W ⟨⟨hn, hd⟩, hB⟩ hlt
    have hsW := hB.size
    have n0 := hn.cell
    have n1 := hn.frozen
    have hd1 := boxed_other hd (p := ⟨w.heap.size + 1, 0, none⟩) (by show w.heap.size + 1 + 1 ≠ w.heap.size + 1; omega) (.int .i64 (pre.length + 1 : Nat))
    rw [Int.natCast_add, Int.natCast_one] at hd1
    have d0 := hd1.cell
    have d1 := hd1.frozen
    have hlen : pre.length ≤ 1000000 := by omega
    clear hlt
    have e1 : maxLev ((pre ++ [x]).map (·.1)) = max (maxLev (pre.map (·.1))) x.1.1 := by rw [List.map_append]; exact maxLev_snoc _ _
    have E1 := Lib.hid e1
    have e2 : (pre ++ [x]).length = pre.length + 1 := by simp
    have E2 := Lib.hid e2
    clear e1 e2
    by_cases hm : (x.1.1 : Int) ≤ (maxLev (pre.map (·.1)) : Int)
    · gi_wp2
      refine ⟨(KeepsOthers.setCell _ _ _).trans (KeepsOthers.setCell _ _ _), ((Kp.refl _ _ _).setBox (by show w.heap.size + 1 < _; omega) (by show _ ≤ w.heap.size + 1; omega) _).setBox (by show w.heap.size + 1 + 1 < _; omega) (by show _ ≤ w.heap.size + 1 + 1; omega) _, ⟨?_, ?_⟩, (hB.setCell (p := ⟨w.heap.size + 1, 0, none⟩) (by show _ ≤ w.heap.size + 1; omega) _).setCell (p := ⟨w.heap.size + 1 + 1, 0, none⟩) (by show _ ≤ w.heap.size + 1 + 1; omega) _⟩
      · rw [E2.out, Int.natCast_add, Int.natCast_one]
        exact boxed_other (Boxed.set _ hn) (by show w.heap.size + 1 ≠ w.heap.size + 1 + 1; omega) _
      · rw [E1.out, Nat.max_eq_left (by omega)]
        exact Boxed.set _ hd1
    · gi_wp2
      refine ⟨(KeepsOthers.setCell _ _ _).trans (KeepsOthers.setCell _ _ _), ((Kp.refl _ _ _).setBox (by show w.heap.size + 1 < _; omega) (by show _ ≤ w.heap.size + 1; omega) _).setBox (by show w.heap.size + 1 + 1 < _; omega) (by show _ ≤ w.heap.size + 1 + 1; omega) _, ⟨?_, ?_⟩, (hB.setCell (p := ⟨w.heap.size + 1, 0, none⟩) (by show _ ≤ w.heap.size + 1; omega) _).setCell (p := ⟨w.heap.size + 1 + 1, 0, none⟩) (by show _ ≤ w.heap.size + 1 + 1; omega) _⟩
      · rw [E2.out, Int.natCast_add, Int.natCast_one]
        exact boxed_other (Boxed.set _ hn) (by show w.heap.size + 1 ≠ w.heap.size + 1 + 1; omega) _
      · rw [E1.out, Nat.max_eq_right (by omega)]
        exact Boxed.set _ hd1
  case done =>
    rintro D ys W hD hys ⟨⟨hn, hd⟩, hB⟩ hK
    have hsW := hB.size
    rw [hys] at hd
    have e3 : ys.length = (T.pre 1).length := by rw [← hys]; simp
    rw [e3] at hn
    clear e3 hys
    have n0 := hn.cell
    have n1 := hn.frozen
    have d0 := hd.cell
    have d1 := hd.frozen
    gi_wp2
    gi_region
    gi_wp2
    have hb' := (hB.setCell (p := ⟨w.heap.size + 1, 0, none⟩) (by show _ ≤ w.heap.size + 1; omega) (.int .i64 ↑(T.pre 1).length)).setCell (p := ⟨w.heap.size + 1 + 1, 0, none⟩) (by show _ ≤ w.heap.size + 1 + 1; omega) (.int .i64 ↑(maxLev (T.pre 1)))
    have hn' := boxed_other (Boxed.set (.int .i64 ↑(T.pre 1).length) hn) (p := ⟨w.heap.size + 1 + 1, 0, none⟩) (by show w.heap.size + 1 ≠ w.heap.size + 1 + 1; omega) (.int .i64 ↑(maxLev (T.pre 1)))
    have hd' := Boxed.set (.int .i64 ↑(maxLev (T.pre 1))) (boxed_other hd (p := ⟨w.heap.size + 1, 0, none⟩) (by show w.heap.size + 1 + 1 ≠ w.heap.size + 1; omega) (.int .i64 ↑(T.pre 1).length))
    have hK' := ((KeepsOthers.setCell W ⟨w.heap.size + 1, 0, none⟩ (.int .i64 ↑(T.pre 1).length)).trans (KeepsOthers.setCell _ ⟨w.heap.size + 1 + 1, 0, none⟩ (.int .i64 ↑(maxLev (T.pre 1))))).same D _ hK rfl
    generalize (W.setCell ⟨w.heap.size + 1, 0, none⟩ (.int .i64 ↑(T.pre 1).length)).setCell ⟨w.heap.size + 1 + 1, 0, none⟩ (.int .i64 ↑(maxLev (T.pre 1))) = W5 at hb' hn' hd' hK' ⊢
    have c5 := cell_kept hn'.cell (grownBy_putObj' _ D (.deferred none)) (fun r e => by cases e; exact ⟨_, hK', rfl⟩)
    have c6 := cell_kept hd'.cell (grownBy_putObj' _ D (.deferred none)) (fun r e => by cases e; exact ⟨_, hK', rfl⟩)
    refine ⟨by simp, .inl ⟨_, _, rfl, run_takeDeferred (w := W5.drew) hK', ?_⟩⟩
    refine ⟨.tuple #[.int .i64 (T.pre 1).length, .int .i64 (maxLev (T.pre 1))], ?_, rfl, hb'.drew.trans (belowK_b (w := w) (Nat.le_refl _) _ D _ _ (by omega) hK' rfl rfl)⟩
    have c7 : (W5.drew.putObj D (.deferred none)).cell? ⟨w.heap.size + 1, 0, none⟩ = some (.int .i64 ↑(T.pre 1).length) := c5
    have c8 : (W5.drew.putObj D (.deferred none)).cell? ⟨w.heap.size + 1 + 1, 0, none⟩ = some (.int .i64 ↑(maxLev (T.pre 1))) := c6
    simp [results, Tryd.f71, go_sem, c7, c8]
  case stop =>
    rintro D c pre W _ _ h _
    exact h.elim
end Go.Proofs.YtnkkpjgclekobaaDoor
