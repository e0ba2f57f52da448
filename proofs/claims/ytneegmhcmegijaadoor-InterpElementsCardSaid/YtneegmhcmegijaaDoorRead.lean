import Derived.Test.YtneegmhcmegijaaDoorPar2
import Derived.Recover
import Derived.Laws.Pointers
namespace Go.Proofs.YtneegmhcmegijaaDoor
open Go.RowKit

set_option maxRecDepth 100000 in
set_option maxHeartbeats 2000000 in
theorem catch_boom (cb eb : Nat) (x y z v : Value) (w : World) (hc : w.heap[cb]? = some (.cells #[x, y, z] 27)) (he : w.heap[eb]? = some (.cells #[v] 33)) (hne : cb ≠ eb) :
    CallsD Tryd.prog 92 #[.pointer (some ⟨cb, 0, none⟩), .pointer (some ⟨eb, 0, none⟩)] (.panicking boom) w fun e u' w' =>
      e = .returned (.tuple #[]) ∧ u' = .panicking [{ v := .iface 33 (.int .i64 11), recovered := true }] ∧ w'.heap[cb]? = some (.cells #[.int .i64 0, .int .i64 0, .slice none 0 0] 27) ∧ w'.heap[eb]? = some (.cells #[.int .i64 11] 33) ∧
        ∀ B, B ≤ cb → B ≤ eb → B ≤ w.heap.size → Below B w w' := by
  have c0 := cell_of_blk hc 0
  have c1 := cell_of_blk hc 1
  have c2 := cell_of_blk hc 2
  have d0 := cell_of_blk he 0
  have f0 := frozen_of_blk hc 0
  have f1 := frozen_of_blk hc 1
  have f2 := frozen_of_blk hc 2
  have g0 := frozen_of_blk he 0
  simp only [List.getElem?_toArray, List.getElem?_cons_zero, List.getElem?_cons_succ] at c0 c1 c2 d0
  refine callsD_of_wpS Tryd.func92 rfl fun c₀ cs hu => ?_
  apply wpS_seq
  apply wpS_region
  simp [wpOpsS, go_sem, recoverD, hu, boom, Tryd.ntmps92, Exit.thenS]
  refine wpS_cond (t := true) (by simp [Act.eval, Array.replicate]) ?_
  simp only [if_true]
  refine wpS_of_wp ?_
  simp only [Array.replicate_succ, Array.replicate_zero, List.push_toArray, List.append_toArray, List.nil_append, List.cons_append, List.setIfInBounds_toArray, List.set_cons_zero, List.set_cons_succ]
  go_wp2_with fail
  obtain ⟨s1, s2⟩ := store3 hc (.int .i64 0) (.int .i64 0) (.slice none 0 0)
  generalize ((w.setCell ⟨cb, 0, none⟩ (.int .i64 0)).setCell ⟨cb, 1, none⟩ (.int .i64 0)).setCell ⟨cb, 2, none⟩ (.slice none 0 0) = w5 at s1 s2 ⊢
  have he5 := (s2.block eb (Array.getElem?_eq_some_iff.1 he).1 (fun e => hne (Option.some.inj e).symm)).trans he
  have q1 := blk_set he5 0 (.int .i64 11)
  have q2 : (w5.setCell ⟨eb, 0, none⟩ (.int .i64 11)).heap[cb]? = some (.cells #[.int .i64 0, .int .i64 0, .slice none 0 0] 27) := (Below.heap_setCell _ _ _ cb hne).trans s1
  have q3 : ∀ B, B ≤ cb → B ≤ eb → B ≤ w.heap.size → Below B w (w5.setCell ⟨eb, 0, none⟩ (.int .i64 11)) := fun B b1 b2 b3 => (below_grown s2 b1 b3).trans (below_grown (grown_set _ _ _ _) b2 (Nat.le_trans b3 s2.size))
  generalize w5.setCell ⟨eb, 0, none⟩ (.int .i64 11) = w6 at q1 q2 q3 ⊢
  simp only [bodyPostS, results, Tryd.results92]
  simp [go_sem]
  exact ⟨q2, q1, q3⟩

set_option maxRecDepth 100000 in
set_option maxHeartbeats 2000000 in
theorem catch_idle (cb eb : Nat) (w : World) :
    CallsD Tryd.prog 92 #[.pointer (some ⟨cb, 0, none⟩), .pointer (some ⟨eb, 0, none⟩)] .returning w fun e u' w' => e = .returned (.tuple #[]) ∧ u' = .returning ∧ w' = w := by
  refine callsD_of_wpS Tryd.func92 rfl fun c₀ cs hu => ?_
  apply wpS_seq
  apply wpS_region
  simp [wpOpsS, go_sem, recoverD, hu, Tryd.ntmps92, Exit.thenS]
  refine wpS_cond (t := false) (by simp [Act.eval, Array.replicate]) ?_
  simp only [Bool.false_eq_true, if_false]
  refine wpS_of_wp (wp_skip ?_)
  cases c₀
  simp_all [bodyPostS, results, Tryd.results92]

/-- What read hands back: the tree and the code. -/
def readF (C R : List ByteArray) (l : List UInt8) : Option Tr :=
  match toksF [40, 41, 45] l with
  | none => none
  | some ts => match parseN C R ts.length (ts.map strOf) with
    | none => none
    | some (t, r) => if r = [] then some t else none
def orZero : Option Tr → Tr
  | none => zeroTr
  | some t => t
def orText : Option Tr → Int
  | none => 11
  | some _ => 0

set_option maxRecDepth 100000 in
set_option maxHeartbeats 4000000 in
theorem read_any (n : NM) (s : ByteArray) (w : World) (hn : n.In w.heap.size w) (hs : s.size ≤ 1000000) (hR : n.R.l.length ≤ 1000) :
    Calls Tryd.prog 60 #[n.val, .string s] w (RetTreeE w (orZero (readF n.C.l n.R.l s.data.toList)) (orText (readF n.C.l n.R.l s.data.toList))) := by
  have hmf : ∀ (fn : Fn) (first cap : Array Value) (w : World), (Instr.makeFunc fn first cap).run Tryd.prog w = .ok (.func fn first cap) w := fun _ _ _ _ => rfl
  obtain ⟨W1, hW1, hB1, hs1, hblk1⟩ := newBlk w _ rfl #[.slice n.C.A n.C.l.length n.C.c, .slice n.R.A n.R.l.length n.R.c, .slice n.I.A n.I.l.length n.I.c] 24
  obtain ⟨W2, hW2, hB2, hs2, hblk2⟩ := newBlk W1 _ hs1 #[.int .i64 0, .int .i64 0, .slice none 0 0] 27
  obtain ⟨W3, hW3, hB3, hs3, hblk3⟩ := newBlk W2 _ hs2 #[.int .i64 0] 33
  have hB : Below w.heap.size w W3 := (hB1.trans (hB2.mono (by omega))).trans (hB3.mono (by omega))
  have hn3 := (hB3.block w.heap.size (by omega)).trans ((hB2.block w.heap.size (by omega)).trans hblk1)
  have hc3 := (hB3.block (w.heap.size + 1) (by omega)).trans hblk2
  have a0 := cell_of_blk hn3 0
  have a1 := cell_of_blk hn3 1
  have a2 := cell_of_blk hn3 2
  simp only [List.getElem?_toArray, List.getElem?_cons_zero, List.getElem?_cons_succ] at a0 a1 a2
  clear hB1 hB2 hB3 hblk1 hblk2
  have ht := fun w4 => tokens_any s ⟨#[40, 41, 45]⟩ w4 hs
  have HF : Hid (readF n.C.l n.R.l s.data.toList = match toksF [40, 41, 45] s.data.toList with
    | none => none
    | some ts => match parseN n.C.l n.R.l ts.length (ts.map strOf) with
      | none => none
      | some (t, r) => if r = [] then some t else none) := Lib.hid rfl
  simp only [NM.val]
  unfold RetToks at ht
  rcases htk : toksF [40, 41, 45] s.data.toList with _ | l
  · rw [htk] at ht HF
    clear htk
    have hcat := fun w4 (hb4 : Below W3.heap.size W3 w4) => catch_boom (w.heap.size + 1) (w.heap.size + 1 + 1) _ _ _ _ w4 ((hb4.block (w.heap.size + 1) (by omega)).trans hc3) ((hb4.block (w.heap.size + 1 + 1) (by omega)).trans hblk3) (by omega)
    go_enter_defers Tryd.func60, Tryd.ntmps60
    go_wp2_with (go_at_call 93; refine (ht W3).mono ?_; rintro e w4 ⟨rfl, hb4⟩)
    refine leaves_cons (f := 92) (args := #[.pointer (some ⟨w.heap.size + 1, 0, none⟩), .pointer (some ⟨w.heap.size + 1 + 1, 0, none⟩)]) (by simp) (by simp [go_sem]) ?_
    refine (hcat w4 hb4).mono ?_
    rintro e u' w5 ⟨rfl, rfl, q1, q2, q3⟩
    have t0 := cell_of_blk q1 0
    have t1 := cell_of_blk q1 1
    have t2 := cell_of_blk q1 2
    have u0 := cell_of_blk q2 0
    simp only [List.getElem?_toArray, List.getElem?_cons_zero, List.getElem?_cons_succ] at t0 t1 t2 u0
    show Leaves _ _ _ _ [] .returning _
    refine ⟨.tuple #[.agg #[.int .i64 0, .int .i64 0, .slice none 0 0], .int .i64 11], by simp [results, Tryd.f60, go_sem, t0, t1, t2, u0], ?_⟩
    rw [HF.out]
    exact ⟨zeroMT, rfl, rfl, new_zero _ _, (hB.trans (hb4.mono (by omega))).trans (q3 _ (by omega) (by omega) (by have := hb4.size; omega))⟩
  · rw [htk] at ht HF
    clear htk
    go_enter_defers Tryd.func60, Tryd.ntmps60
    go_wp2_with (first | (go_at_call 93; refine (ht W3).mono ?_; rintro e w4 ⟨⟨sl, rfl, hsl, hin4⟩, hb4⟩; have n4 := (hb4.block w.heap.size (by omega)).trans hn3; have m0 := cell_of_blk n4 0; have m1 := cell_of_blk n4 1; have m2 := cell_of_blk n4 2; simp only [List.getElem?_toArray, List.getElem?_cons_zero, List.getElem?_cons_succ] at m0 m1 m2; obtain ⟨W5, hW5, hB5, hs5, hblk5⟩ := newBlk w4 _ rfl #[.slice n.C.A n.C.l.length n.C.c, .slice n.R.A n.R.l.length n.R.c, .slice n.I.A n.I.l.length n.I.c, .slice sl.A sl.l.length sl.c] 165; have n5 := blk_below n4 hB5; have l0 := cell_of_blk n5 0; have l1 := cell_of_blk n5 1; have l2 := cell_of_blk n5 2; simp only [List.getElem?_toArray, List.getElem?_cons_zero, List.getElem?_cons_succ] at l0 l1 l2) | fail)
    have hls : l.map strOf = sl.l := by
      rw [← hsl, List.map_map]
      have : ∀ x : ByteArray, (strOf ∘ fun x => x.data.toList) x = x := fun x => bytes_ext (by simp [strOf])
      rw [show (strOf ∘ fun x => x.data.toList) = id from funext this, List.map_id]
    have hll : l.length = sl.l.length := by rw [← hsl, List.length_map]
    simp only [hls, hll] at HF
    have z4 := hb4.size
    have hb5 : Below w.heap.size w W5 := (hB.trans (hb4.mono (by omega))).trans (hB5.mono (by omega))
    have hpa : PA n w4.heap.size w4.heap.size sl.l W5 := ⟨Nat.le_refl _, (hn.below (by omega) (hB.trans (hb4.mono (by omega)))).below (Nat.le_refl _) hB5, sl.A, sl.c, hblk5, hin4.below (Nat.le_refl _) hB5⟩
    have hc5 := blk_below ((hb4.block (w.heap.size + 1) (by omega)).trans hc3) hB5
    have he5 := blk_below ((hb4.block (w.heap.size + 1 + 1) (by omega)).trans hblk3) hB5
    have hcon := concept_any n w4.heap.size w4.heap.size hR sl.l.length sl.l (Nat.le_refl _) W5 hpa
    clear a0 a1 a2 m0 m1 m2 l0 l1 l2 n4 n5 hn3 hblk3 hin4 hls hll hsl hn
    rcases hpx : parseN n.C.l n.R.l sl.l.length sl.l with _ | ⟨t, r⟩
    · rw [hpx] at hcon HF
      have HF2 : Hid (readF n.C.l n.R.l s.data.toList = none) := Lib.hid HF.out
      clear hpx HF
      go_wp2_with (go_at_call 94; refine hcon.mono ?_; rintro e w6 ⟨hg6, rfl⟩)
      have hb6 : Below w.heap.size w w6 := hb5.trans (below_grown hg6 (by omega) hb5.size)
      refine leaves_cons (f := 92) (args := #[.pointer (some ⟨w.heap.size + 1, 0, none⟩), .pointer (some ⟨w.heap.size + 1 + 1, 0, none⟩)]) (by simp) (by simp [go_sem]) ?_
      refine (catch_boom (w.heap.size + 1) (w.heap.size + 1 + 1) _ _ _ _ _ (blk_pb hc5 hg6 (by omega)) (blk_pb he5 hg6 (by omega)) (by omega)).mono ?_
      rintro e u' w9 ⟨rfl, rfl, q1, q2, q3⟩
      have t0 := cell_of_blk q1 0
      have t1 := cell_of_blk q1 1
      have t2 := cell_of_blk q1 2
      have u0 := cell_of_blk q2 0
      simp only [List.getElem?_toArray, List.getElem?_cons_zero, List.getElem?_cons_succ] at t0 t1 t2 u0
      show Leaves _ _ _ _ [] .returning _
      refine ⟨.tuple #[.agg #[.int .i64 0, .int .i64 0, .slice none 0 0], .int .i64 11], by simp [results, Tryd.f60, go_sem, t0, t1, t2, u0], ?_⟩
      rw [HF2.out]
      exact ⟨zeroMT, rfl, rfl, new_zero _ _, hb6.trans (q3 _ (by omega) (by omega) (hb6).size)⟩
    · rw [hpx] at hcon HF
      simp only at HF
      clear hpx
      have hw6 : ∀ (T' : MT) (w6 : World), W5.grownBy w6 (some w4.heap.size) → PA n w4.heap.size w4.heap.size r w6 → New W5.heap.size w6 T' → ∃ A c, w6.cell? ⟨w4.heap.size, 3, none⟩ = some (.slice A r.length c) := by
        rintro T' w6 hg6 ⟨_, _, A, c, hk, _⟩ hnew
        exact ⟨A, c, cell_of_blk hk 3⟩
      cases r with
      | cons y r' =>
        have HF2 : Hid (readF n.C.l n.R.l s.data.toList = none) := Lib.hid (by rw [HF.out, if_neg (by simp)])
        clear HF
        go_wp2_with (go_at_call 94; refine hcon.mono ?_; rintro e w6 ⟨hg6, ⟨T', rfl, htr, hnew⟩, hp6⟩; obtain ⟨A, c, d3⟩ := hw6 T' w6 hg6 hp6 hnew; have z6 := hg6.size; have c6 := blk_pb hc5 hg6 (by omega); have e6 := blk_pb he5 hg6 (by omega); have r0 := cell_of_blk c6 0; have r1 := cell_of_blk c6 1; have r2 := cell_of_blk c6 2; have f0 := frozen_of_blk c6 0; have f1 := frozen_of_blk c6 1; have f2 := frozen_of_blk c6 2; have hne6 : ¬ w4.heap.size = w.heap.size + 1 := (by omega); simp only [List.getElem?_toArray, List.getElem?_cons_zero, List.getElem?_cons_succ, List.length_cons] at r0 r1 r2 d3)
        have hb6 : Below w.heap.size w w6 := hb5.trans (below_grown hg6 (by omega) hb5.size)
        obtain ⟨s1, s2⟩ := store3 c6 (.int .i64 T'.op) (.int .i64 T'.n) (.slice T'.A T'.args.length T'.c)
        generalize ((w6.setCell ⟨w.heap.size + 1, 0, none⟩ (.int .i64 T'.op)).setCell ⟨w.heap.size + 1, 1, none⟩ (.int .i64 T'.n)).setCell ⟨w.heap.size + 1, 2, none⟩ (.slice T'.A T'.args.length T'.c) = w7 at s1 s2 ⊢
        have e7 := blk_pb e6 s2 (by omega)
        have hb7 := hb6.trans (below_grown s2 (by omega) hb6.size)
        refine leaves_cons (f := 92) (args := #[.pointer (some ⟨w.heap.size + 1, 0, none⟩), .pointer (some ⟨w.heap.size + 1 + 1, 0, none⟩)]) (by simp) (by simp [go_sem]) ?_
        refine (catch_boom (w.heap.size + 1) (w.heap.size + 1 + 1) _ _ _ _ _ s1 e7 (by omega)).mono ?_
        rintro e u' w9 ⟨rfl, rfl, q1, q2, q3⟩
        have t0 := cell_of_blk q1 0
        have t1 := cell_of_blk q1 1
        have t2 := cell_of_blk q1 2
        have u0 := cell_of_blk q2 0
        simp only [List.getElem?_toArray, List.getElem?_cons_zero, List.getElem?_cons_succ] at t0 t1 t2 u0
        show Leaves _ _ _ _ [] .returning _
        refine ⟨.tuple #[.agg #[.int .i64 0, .int .i64 0, .slice none 0 0], .int .i64 11], by simp [results, Tryd.f60, go_sem, t0, t1, t2, u0], ?_⟩
        rw [HF2.out]
        exact ⟨zeroMT, rfl, rfl, new_zero _ _, hb7.trans (q3 _ (by omega) (by omega) (hb7).size)⟩
      | nil =>
        have HF2 : Hid (readF n.C.l n.R.l s.data.toList = some t) := Lib.hid (by rw [HF.out, if_pos rfl])
        clear HF
        go_wp2_with (go_at_call 94; refine hcon.mono ?_; rintro e w6 ⟨hg6, ⟨T', rfl, htr, hnew⟩, hp6⟩; obtain ⟨A, c, d3⟩ := hw6 T' w6 hg6 hp6 hnew; simp only [List.length_nil] at d3; have z6 := hg6.size; have c6 := blk_pb hc5 hg6 (by omega); have e6 := blk_pb he5 hg6 (by omega); have r0 := cell_of_blk c6 0; have r1 := cell_of_blk c6 1; have r2 := cell_of_blk c6 2; have f0 := frozen_of_blk c6 0; have f1 := frozen_of_blk c6 1; have f2 := frozen_of_blk c6 2; have hne6 : ¬ w4.heap.size = w.heap.size + 1 := (by omega); simp only [List.getElem?_toArray, List.getElem?_cons_zero, List.getElem?_cons_succ] at r0 r1 r2; have g0 := cell_of_blk e6 0; have g1 := frozen_of_blk e6 0; simp only [List.getElem?_toArray, List.getElem?_cons_zero] at g0; have hne7 : ¬ w.heap.size + 1 = w.heap.size + 1 + 1 := (by omega))
        have hb6 : Below w.heap.size w w6 := hb5.trans (below_grown hg6 (by omega) hb5.size)
        obtain ⟨s1, s2⟩ := store3 c6 (.int .i64 T'.op) (.int .i64 T'.n) (.slice T'.A T'.args.length T'.c)
        generalize ((w6.setCell ⟨w.heap.size + 1, 0, none⟩ (.int .i64 T'.op)).setCell ⟨w.heap.size + 1, 1, none⟩ (.int .i64 T'.n)).setCell ⟨w.heap.size + 1, 2, none⟩ (.slice T'.A T'.args.length T'.c) = w7 at s1 s2 ⊢
        have e7 := blk_pb e6 s2 (by omega)
        have hb7 := hb6.trans (below_grown s2 (by omega) hb6.size)
        obtain ⟨s3, s4⟩ := store3 s1 (.int .i64 T'.op) (.int .i64 T'.n) (.slice T'.A T'.args.length T'.c)
        generalize ((w7.setCell ⟨w.heap.size + 1, 0, none⟩ (.int .i64 T'.op)).setCell ⟨w.heap.size + 1, 1, none⟩ (.int .i64 T'.n)).setCell ⟨w.heap.size + 1, 2, none⟩ (.slice T'.A T'.args.length T'.c) = w8 at s3 s4 ⊢
        have e8 := blk_pb e7 s4 (by omega)
        have hb8 := hb7.trans (below_grown s4 (by omega) hb7.size)
        have q1 := blk_set e8 0 (.int .i64 0)
        have s5 := grown_set w8 (w.heap.size + 1 + 1) 0 (.int .i64 0)
        have q2 := blk_pb s3 s5 (by omega)
        have hnew9 : New w.heap.size (w8.setCell ⟨w.heap.size + 1 + 1, 0, none⟩ (.int .i64 0)) T' := (((hnew.pb s2 (by have := hB5.size; omega)).pb s4 (by have := hB5.size; omega)).pb s5 (by have := hB5.size; omega)).lo (by have := hB5.size; omega)
        have hb9 := hb8.trans (below_grown s5 (by omega) hb8.size)
        generalize w8.setCell ⟨w.heap.size + 1 + 1, 0, none⟩ (.int .i64 0) = w9 at q1 q2 s5 hnew9 hb9 ⊢
        have t0 := cell_of_blk q2 0
        have t1 := cell_of_blk q2 1
        have t2 := cell_of_blk q2 2
        have u0 := cell_of_blk q1 0
        simp only [List.getElem?_toArray, List.getElem?_cons_zero, List.getElem?_cons_succ] at t0 t1 t2
        replace u0 : w9.cell? ⟨w.heap.size + 1 + 1, 0, none⟩ = some (.int .i64 0) := u0
        refine leaves_cons (f := 92) (args := #[.pointer (some ⟨w.heap.size + 1, 0, none⟩), .pointer (some ⟨w.heap.size + 1 + 1, 0, none⟩)]) (by simp) (by simp [go_sem]) ?_
        refine (catch_idle (w.heap.size + 1) (w.heap.size + 1 + 1) w9).mono ?_
        rintro e u' w10 ⟨rfl, rfl, rfl⟩
        show Leaves _ _ _ _ [] .returning _
        refine ⟨.tuple #[.agg #[.int .i64 T'.op, .int .i64 T'.n, .slice T'.A T'.args.length T'.c], .int .i64 0], by simp [results, Tryd.f60, go_sem, t0, t1, t2, u0], ?_⟩
        rw [HF2.out]
        exact ⟨T', rfl, htr, hnew9, hb9⟩
end Go.Proofs.YtneegmhcmegijaaDoor
