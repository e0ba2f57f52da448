import Derived.Test.YtneegmhcmegijaaDoorPar
namespace Go.Proofs.YtneegmhcmegijaaDoor
open Go.RowKit

theorem New.pb {lo pb : Nat} {w w' : World} {T : MT} (h : New lo w T) (hg : w.grownBy w' (some pb)) (hl : pb < lo) : New lo w' T :=
  h.grown hg (MT.All.imp (fun b hb e => by have := Option.some.inj e; have := hb.1; omega) _ h.2)
theorem blk_pb {b pb : Nat} {w w' : World} {o : Obj} (h : w.heap[b]? = some o) (hg : w.grownBy w' (some pb)) (hne : b ≠ pb) : w'.heap[b]? = some o :=
  (hg.block b (Array.getElem?_eq_some_iff.1 h).1 (fun e => hne (Option.some.inj e))).trans h
theorem blk_below {b : Nat} {w w' : World} {o : Obj} (h : w.heap[b]? = some o) (hb : Below w.heap.size w w') : w'.heap[b]? = some o :=
  (hb.block b (Array.getElem?_eq_some_iff.1 h).1).trans h

set_option maxRecDepth 100000 in
set_option maxHeartbeats 2000000 in
theorem pair_any (n : NM) (B pb : Nat) (p : PF) (ts : List ByteArray) (ih0 : ConAt n B pb p ts) (ih1 : ∀ a o r2, p ts = some (a, o :: r2) → ConAt n B pb p r2) (w : World) (h : PA n B pb ts w) :
    Calls Tryd.prog 135 #[.pointer (some ⟨pb, 0, none⟩)] w (ParP n B pb (pairN p ts) w) := by
  obtain ⟨W1, hW1, hB1, hs1, hblk1⟩ := newBlk w _ rfl #[.int .i64 0, .int .i64 0, .slice none 0 0] 27
  have h1 := h.later hB1
  have hg1 : w.grownBy W1 (some pb) := grown_below hB1
  have hlt := h.lt
  have hc0 : Calls Tryd.prog 94 #[.pointer (some ⟨pb, 0, none⟩)] W1 (ParP n B pb (p ts) W1) := ih0 W1 h1
  have HF : Hid (pairN p ts = match p ts with
    | none => none
    | some (_, []) => none
    | some (a, o :: r2) => match connF o with
      | none => none
      | some op => match p r2 with
        | none => none
        | some (_, []) => none
        | some (b, x :: r4) => if x.data.toList == [41] then some (.mk op 0 [a, b], r4) else none) := Lib.hid (by unfold pairN; rfl)
  rcases hp0 : p ts with _ | ⟨a, r1⟩
  · rw [hp0] at hc0 HF
    clear hp0 ih0 ih1
    go_enter Tryd.func135, Tryd.ntmps135
    go_wp2_with (go_at_call 94; refine hc0.mono ?_; rintro e w2 ⟨hg2, rfl⟩)
    exact ⟨rfl, grown_trans hg1 hg2, by rw [HF.out]⟩
  · have ih1' := ih1 a
    rw [hp0] at hc0 HF ih1'
    clear hp0 ih0 ih1
    cases r1 with
    | nil =>
      go_enter Tryd.func135, Tryd.ntmps135
      go_wp2_with (first | (go_at_call 94; first | (refine hc0.mono ?_; rintro e w2 ⟨hg2, ⟨T0, rfl, ht0, hn0⟩, hp2⟩; have z2 := hg2.size; obtain ⟨W3, hW3, hB3, hs3, hL3⟩ := newBlk w2 _ rfl #[.int .i64 T0.op, .int .i64 T0.n, .slice T0.A T0.args.length T0.c] 27; have hp3 := hp2.later hB3; have hg3 := grown_trans hg2 (grown_below hB3))) | (go_at_call 169; refine (conn_any n B pb _ _ hp3).mono ?_; rintro e w4 ⟨hg4, rfl⟩))
      exact ⟨rfl, grown_trans hg1 (grown_trans hg3 hg4), by rw [HF.out]⟩
    | cons o r2 =>
      have hc1 : ∀ w4, PA n B pb r2 w4 → Calls Tryd.prog 94 #[.pointer (some ⟨pb, 0, none⟩)] w4 (ParP n B pb (p r2) w4) := ih1' o r2 rfl
      have hcn : ∀ w3, PA n B pb (o :: r2) w3 → Calls Tryd.prog 169 #[.pointer (some ⟨pb, 0, none⟩)] w3 fun e w' => w3.grownBy w' (some pb) ∧ match connF o with
        | none => e = .panicked boom
        | some i => e = .returned (.int .i64 i) ∧ PA n B pb r2 w' := fun w3 hp => conn_any n B pb (o :: r2) w3 hp
      clear ih1'
      simp only at HF
      rcases hco : connF o with _ | op
      · rw [hco] at hcn
        rw [hco] at HF
        clear hco
        go_enter Tryd.func135, Tryd.ntmps135
        go_wp2_with (first | (go_at_call 94; first | (refine hc0.mono ?_; rintro e w2 ⟨hg2, ⟨T0, rfl, ht0, hn0⟩, hp2⟩; have z2 := hg2.size; obtain ⟨W3, hW3, hB3, hs3, hL3⟩ := newBlk w2 _ rfl #[.int .i64 T0.op, .int .i64 T0.n, .slice T0.A T0.args.length T0.c] 27; have hp3 := hp2.later hB3; have hg3 := grown_trans hg2 (grown_below hB3))) | (go_at_call 169; refine (hcn _ hp3).mono ?_; rintro e w4 ⟨hg4, rfl⟩))
        exact ⟨rfl, grown_trans hg1 (grown_trans hg3 hg4), by rw [HF.out]⟩
      · rw [hco] at hcn
        rw [hco] at HF
        clear hco
        rcases hp1 : p r2 with _ | ⟨b, r3⟩
        · rw [hp1] at hc1 HF
          clear hp1
          go_enter Tryd.func135, Tryd.ntmps135
          go_wp2_with (first | (go_at_call 94; first | (refine hc0.mono ?_; rintro e w2 ⟨hg2, ⟨T0, rfl, ht0, hn0⟩, hp2⟩; have z2 := hg2.size; obtain ⟨W3, hW3, hB3, hs3, hL3⟩ := newBlk w2 _ rfl #[.int .i64 T0.op, .int .i64 T0.n, .slice T0.A T0.args.length T0.c] 27; have hp3 := hp2.later hB3; have hg3 := grown_trans hg2 (grown_below hB3)) | (refine (hc1 _ hp4).mono ?_; rintro e w5 ⟨hg5, rfl⟩)) | (go_at_call 169; refine (hcn _ hp3).mono ?_; rintro e w4 ⟨hg4, rfl, hp4⟩; have z4 := hg4.size; have hg14 := grown_trans hg3 hg4; have hL4 := blk_pb hL3 hg4 (by omega)))
          exact ⟨rfl, grown_trans hg1 (grown_trans hg14 hg5), by rw [HF.out]⟩
        · rw [hp1] at hc1 HF
          clear hp1
          cases r3 with
          | nil =>
            go_enter Tryd.func135, Tryd.ntmps135
            go_wp2_with (first | (go_at_call 94; first | (refine hc0.mono ?_; rintro e w2 ⟨hg2, ⟨T0, rfl, ht0, hn0⟩, hp2⟩; have z2 := hg2.size; obtain ⟨W3, hW3, hB3, hs3, hL3⟩ := newBlk w2 _ rfl #[.int .i64 T0.op, .int .i64 T0.n, .slice T0.A T0.args.length T0.c] 27; have hp3 := hp2.later hB3; have hg3 := grown_trans hg2 (grown_below hB3)) | (refine (hc1 _ hp4).mono ?_; rintro e w5 ⟨hg5, ⟨T1, rfl, ht1, hn1⟩, hp5⟩; have z5 := hg5.size; obtain ⟨W6, hW6, hB6, hs6, hR6⟩ := newBlk w5 _ rfl #[.int .i64 T1.op, .int .i64 T1.n, .slice T1.A T1.args.length T1.c] 27; have hp6 := hp5.later hB6; have hg16 := grown_trans hg14 (grown_trans hg5 (grown_below hB6)); have hL6 := blk_below (blk_pb hL4 hg5 (by omega)) hB6)) | (go_at_call 169; refine (hcn _ hp3).mono ?_; rintro e w4 ⟨hg4, rfl, hp4⟩; have z4 := hg4.size; have hg14 := grown_trans hg3 hg4; have hL4 := blk_pb hL3 hg4 (by omega)) | (go_at_call 133; refine (next_any n B pb _ _ hp6).mono ?_; rintro e w7 ⟨hg7, rfl⟩))
            exact ⟨rfl, grown_trans hg1 (grown_trans hg16 hg7), by rw [HF.out]⟩
          | cons x r4 =>
            rcases hx : (x.data.toList == [41])
            · have HF2 := Lib.hid (show pairN p ts = none by rw [HF.out]; simp only [hx]; rfl)
              have hx' : (x.toList == [41]) = false := by rw [ByteArray.toList_eq]; exact hx
              clear hx
              go_enter Tryd.func135, Tryd.ntmps135
              go_wp2_with (first | (go_at_call 94; first | (refine hc0.mono ?_; rintro e w2 ⟨hg2, ⟨T0, rfl, ht0, hn0⟩, hp2⟩; have z2 := hg2.size; obtain ⟨W3, hW3, hB3, hs3, hL3⟩ := newBlk w2 _ rfl #[.int .i64 T0.op, .int .i64 T0.n, .slice T0.A T0.args.length T0.c] 27; have hp3 := hp2.later hB3; have hg3 := grown_trans hg2 (grown_below hB3)) | (refine (hc1 _ hp4).mono ?_; rintro e w5 ⟨hg5, ⟨T1, rfl, ht1, hn1⟩, hp5⟩; have z5 := hg5.size; obtain ⟨W6, hW6, hB6, hs6, hR6⟩ := newBlk w5 _ rfl #[.int .i64 T1.op, .int .i64 T1.n, .slice T1.A T1.args.length T1.c] 27; have hp6 := hp5.later hB6; have hg16 := grown_trans hg14 (grown_trans hg5 (grown_below hB6)); have hL6 := blk_below (blk_pb hL4 hg5 (by omega)) hB6)) | (go_at_call 169; refine (hcn _ hp3).mono ?_; rintro e w4 ⟨hg4, rfl, hp4⟩; have z4 := hg4.size; have hg14 := grown_trans hg3 hg4; have hL4 := blk_pb hL3 hg4 (by omega)) | (go_at_call 133; refine (next_any n B pb _ _ hp6).mono ?_; rintro e w7 ⟨hg7, rfl, hp7⟩; have z7 := hg7.size; have hg17 := grown_trans hg16 hg7))
              exact ⟨rfl, grown_trans hg1 hg17, by rw [HF2.out]; rfl⟩
            · have HF2 := Lib.hid (show pairN p ts = some (.mk op 0 [a, b], r4) by rw [HF.out]; simp only [hx]; rfl)
              have hx' : x = ⟨#[41]⟩ := bytes_ext (by simpa using hx)
              subst hx'
              clear hx HF
              go_enter Tryd.func135, Tryd.ntmps135
              go_wp2_with (first | (go_at_call 94; first | (refine hc0.mono ?_; rintro e w2 ⟨hg2, ⟨T0, rfl, ht0, hn0⟩, hp2⟩; have z2 := hg2.size; obtain ⟨W3, hW3, hB3, hs3, hL3⟩ := newBlk w2 _ rfl #[.int .i64 T0.op, .int .i64 T0.n, .slice T0.A T0.args.length T0.c] 27; have hp3 := hp2.later hB3; have hg3 := grown_trans hg2 (grown_below hB3)) | (refine (hc1 _ hp4).mono ?_; rintro e w5 ⟨hg5, ⟨T1, rfl, ht1, hn1⟩, hp5⟩; have z5 := hg5.size; obtain ⟨W6, hW6, hB6, hs6, hR6⟩ := newBlk w5 _ rfl #[.int .i64 T1.op, .int .i64 T1.n, .slice T1.A T1.args.length T1.c] 27; have hp6 := hp5.later hB6; have hg16 := grown_trans hg14 (grown_trans hg5 (grown_below hB6)); have hL6 := blk_below (blk_pb hL4 hg5 (by omega)) hB6)) | (go_at_call 169; refine (hcn _ hp3).mono ?_; rintro e w4 ⟨hg4, rfl, hp4⟩; have z4 := hg4.size; have hg14 := grown_trans hg3 hg4; have hL4 := blk_pb hL3 hg4 (by omega)) | (go_at_call 133; refine (next_any n B pb _ _ hp6).mono ?_; rintro e w7 ⟨hg7, rfl, hp7⟩; have z7 := hg7.size; have hg17 := grown_trans hg16 hg7; have hL7 := blk_pb hL6 hg7 (by omega); have hR7 := blk_pb hR6 hg7 (by omega); have l0 := cell_of_blk hL7 0; have l1 := cell_of_blk hL7 1; have l2 := cell_of_blk hL7 2; have q0 := cell_of_blk hR7 0; have q1 := cell_of_blk hR7 1; have q2 := cell_of_blk hR7 2; simp only [List.getElem?_toArray, List.getElem?_cons_zero, List.getElem?_cons_succ] at l0 l1 l2 q0 q1 q2; have hbR := blk_pb hblk1 hg17 (by omega); have hN0 := ((((hn0.later hB3).pb hg4 (by omega)).pb hg5 (by omega)).later hB6).pb hg7 (by omega); have hN1 := ((hn1.later hB6).pb hg7 (by omega)); obtain ⟨W8, hW8, ⟨r0, r1, r2⟩, ⟨f0, f1, f2⟩, hfin⟩ := ret_node (op := op) (nn := 0) (Ts := [T0, T1]) hlt (grown_trans hg1 hg17) hp7 hbR (by simp) (fun t ht => by simp only [List.mem_cons, List.not_mem_nil, or_false] at ht; rcases ht with rfl | rfl; exact hN0.lo (by omega); exact hN1.lo (by omega)) (by simp); simp only [List.length_cons, List.length_nil, Nat.reduceAdd, List.flatMap_cons, List.flatMap_nil, MT.cs, List.cons_append, List.nil_append] at hW8 hfin))
              obtain ⟨s0, s1⟩ := hfin _ rfl
              generalize ((W8.setCell ⟨w.heap.size, 0, none⟩ (.int .i64 op)).setCell ⟨w.heap.size, 1, none⟩ (.int .i64 0)).setCell ⟨w.heap.size, 2, none⟩ (.slice (some ⟨w7.heap.size, 0, none⟩) 2 2) = w9 at s0 s1 ⊢
              obtain ⟨t0, t1, t2⟩ := s0
              refine bodyPost_ret (v := .agg #[.int .i64 op, .int .i64 0, .slice (some ⟨w7.heap.size, 0, none⟩) 2 2]) (by simp [results, Tryd.f135, go_sem, t0, t1, t2]) rfl ?_
              rw [HF2.out]
              simp only [List.map_cons, List.map_nil, ht0, ht1] at s1
              exact s1

theorem beq_t {a b : List UInt8} (h : a = b) : (a == b) = true := by simpa using h
theorem beq_f {a b : List UInt8} (h : ¬ a = b) : (a == b) = false := by simpa using h
/-- The parser: what a token list means. -/
def parseN (C R : List ByteArray) : Nat → PF
  | 0, _ => none
  | _ + 1, [] => none
  | f + 1, t :: r =>
    if t.data.toList == [116, 111, 112] then some (.mk 1 0 [], r)
    else if t.data.toList == [98, 111, 116] then some (.mk 2 0 [], r)
    else if t.data.toList == [110, 111, 116] then (parseN C R f r).map fun x => (.mk 3 0 [x.1], x.2)
    else if t.data.toList == [115, 111, 109, 101] then quantN (parseN C R f) R 6 r
    else if t.data.toList == [97, 108, 108] then quantN (parseN C R f) R 7 r
    else if t.data.toList == [40] then pairN (parseN C R f) r
    else match findN C t with
      | none => none
      | some i => some (.mk 0 i [], r)

theorem minus_len (r : List ByteArray) : (if minusB r then r.tail else r).length ≤ r.length := by
  split
  · rw [List.length_tail]; omega
  · exact Nat.le_refl _
theorem parseN_len (C R : List ByteArray) : ∀ (f : Nat) (ts : List ByteArray) (x : Tr × List ByteArray), parseN C R f ts = some x → x.2.length < ts.length
  | 0, ts, x, h => by cases ts <;> simp [parseN] at h
  | f + 1, [], x, h => by simp [parseN] at h
  | f + 1, t :: r, x, h => by
    have ih := parseN_len C R f
    have hq : ∀ op, quantN (parseN C R f) R op r = some x → x.2.length < (t :: r).length := by
      intro op h
      cases r with
      | nil => simp [quantN] at h
      | cons t' r' =>
        rw [quantN] at h
        split at h
        · cases h
        · obtain ⟨y, hy, rfl⟩ := Option.map_eq_some_iff.1 h
          have := ih _ _ hy
          have := minus_len r'
          simp only [List.length_cons]; omega
    rw [parseN] at h
    split at h
    · cases h; simp
    split at h
    · cases h; simp
    split at h
    · obtain ⟨y, hy, rfl⟩ := Option.map_eq_some_iff.1 h
      have := ih _ _ hy
      simp only [List.length_cons]; omega
    split at h
    · exact hq _ h
    split at h
    · exact hq _ h
    split at h
    · rw [pairN] at h
      split at h
      · cases h
      · cases h
      · rename_i a o r2 h1
        have l1 := ih _ _ h1
        split at h
        · cases h
        · split at h
          · cases h
          · cases h
          · rename_i b x' r4 h2
            have l2 := ih _ _ h2
            split at h
            · cases h
              simp only [List.length_cons] at *; omega
            · cases h
    · split at h
      · cases h
      · cases h; simp

/-- The end of a function that hands a tree through its result's variable. -/
theorem ret_pass {n : NM} {B pb : Nat} {rest : List ByteArray} {w w3 : World} {T : MT} {x y z : Value} (hlt : pb < w.heap.size) (hg : w.grownBy w3 (some pb)) (hp : PA n B pb rest w3)
    (hbR : w3.heap[w.heap.size]? = some (.cells #[x, y, z] 27)) (hT : New (w.heap.size + 1) w3 T) :
    (w3.cell? ⟨w.heap.size, 0, none⟩ = some x ∧ w3.cell? ⟨w.heap.size, 1, none⟩ = some y ∧ w3.cell? ⟨w.heap.size, 2, none⟩ = some z) ∧ (w3.frozen? ⟨w.heap.size, 0, none⟩ = false ∧ w3.frozen? ⟨w.heap.size, 1, none⟩ = false ∧ w3.frozen? ⟨w.heap.size, 2, none⟩ = false) ∧
      ∀ w6, w6 = ((w3.setCell ⟨w.heap.size, 0, none⟩ (.int .i64 T.op)).setCell ⟨w.heap.size, 1, none⟩ (.int .i64 T.n)).setCell ⟨w.heap.size, 2, none⟩ (.slice T.A T.args.length T.c) →
        (w6.cell? ⟨w.heap.size, 0, none⟩ = some (.int .i64 T.op) ∧ w6.cell? ⟨w.heap.size, 1, none⟩ = some (.int .i64 T.n) ∧ w6.cell? ⟨w.heap.size, 2, none⟩ = some (.slice T.A T.args.length T.c)) ∧
        ParP n B pb (some (T.tr, rest)) w (.returned (.agg #[.int .i64 T.op, .int .i64 T.n, .slice T.A T.args.length T.c])) w6 := by
  refine ⟨⟨cell_of_blk hbR 0, cell_of_blk hbR 1, cell_of_blk hbR 2⟩, ⟨frozen_of_blk hbR 0, frozen_of_blk hbR 1, frozen_of_blk hbR 2⟩, ?_⟩
  rintro w6 rfl
  obtain ⟨s1, s2⟩ := store3 hbR (.int .i64 T.op) (.int .i64 T.n) (.slice T.A T.args.length T.c)
  have hB := hp.1
  refine ⟨⟨cell_of_blk s1 0, cell_of_blk s1 1, cell_of_blk s1 2⟩, grown_own hg s2 (Nat.le_refl _), ⟨T, rfl, rfl, ?_⟩, hp.off s2 (by omega) (by omega)⟩
  exact ((hT.grown s2 (MT.All.imp (fun b hb e => by have := Option.some.inj e; have := hb.1; omega) _ hT.2))).lo (by omega)
def leafMT (op n : Int) : MT := .mk op n none 0 []
theorem leaf_new (op n : Int) (lo : Nat) (w : World) : New lo w (leafMT op n) := by
  refine ⟨?_, ?_⟩
  · rw [leafMT, MT.In]; exact ⟨Nat.le_refl _, by simp, RowAt.nil _ _ _ _, by rw [MT.InAll]; trivial⟩
  · rw [leafMT, Mine, MT.All]; exact ⟨fun h => absurd rfl h, by rw [MT.Alls]; trivial⟩

set_option maxRecDepth 100000 in
set_option maxHeartbeats 4000000 in
theorem concept_step (n : NM) (B pb : Nat) (hR : n.R.l.length ≤ 1000) (f : Nat) (ih : ∀ ts : List ByteArray, ts.length ≤ f → ConAt n B pb (parseN n.C.l n.R.l f) ts) (ts : List ByteArray) (hl : ts.length ≤ f + 1) : ConAt n B pb (parseN n.C.l n.R.l (f + 1)) ts := by
  intro w h
  obtain ⟨W1, hW1, hB1, hs1, hblk1⟩ := newBlk w _ rfl #[.int .i64 0, .int .i64 0, .slice none 0 0] 27
  have h1 := h.later hB1
  have hg1 : w.grownBy W1 (some pb) := grown_below hB1
  have hlt := h.lt
  have hn := next_any n B pb ts W1 h1
  cases ts with
  | nil =>
    go_enter Tryd.func94, Tryd.ntmps94
    go_wp2_with (go_at_call 133; refine hn.mono ?_; rintro e w2 ⟨hg2, rfl⟩)
    exact ⟨rfl, grown_trans hg1 hg2, rfl⟩
  | cons t r =>
    have hr : r.length ≤ f := by simpa using hl
    have HF0 : Hid (parseN n.C.l n.R.l (f + 1) (t :: r) = _) := Lib.hid (by rw [parseN])
    have hc : ∀ w1, PA n B pb r w1 → Calls Tryd.prog 94 #[.pointer (some ⟨pb, 0, none⟩)] w1 (ParP n B pb (parseN n.C.l n.R.l f r) w1) := ih r hr
    have hq : ∀ op w1, PA n B pb r w1 → Calls Tryd.prog 134 #[.pointer (some ⟨pb, 0, none⟩), .int .i64 op] w1 (ParP n B pb (quantN (parseN n.C.l n.R.l f) n.R.l op r) w1) := fun op w1 hp =>
      quant_any n B pb op _ r hR (fun t' r' e => ih _ (by have := minus_len r'; subst e; simp only [List.length_cons] at hr; omega)) w1 hp
    have hpr : ∀ w1, PA n B pb r w1 → Calls Tryd.prog 135 #[.pointer (some ⟨pb, 0, none⟩)] w1 (ParP n B pb (pairN (parseN n.C.l n.R.l f) r) w1) := fun w1 hp =>
      pair_any n B pb _ r (ih r hr) (fun a o r2 e => ih r2 (by have := parseN_len _ _ _ _ _ e; simp only [List.length_cons] at this; omega)) w1 hp
    have hf : ∀ w1, PA n B pb r w1 → Calls Tryd.prog 136 #[.slice n.C.A n.C.l.length n.C.c, .string t] w1 (FindP n.C.l t w1) := fun w1 hp => find_any n.C B t w1 hp.2.1.1 (h.toks t (by simp))
    clear ih
    by_cases c0 : t.data.toList = [116, 111, 112]
    · have ht : t = ⟨#[116, 111, 112]⟩ := bytes_ext c0
      subst ht
      have HF := Lib.hid (show parseN n.C.l n.R.l (f + 1) (_ :: r) = some (.mk 1 0 [], r) by rw [HF0.out, beq_t c0]; simp)
      clear HF0 c0
      go_enter Tryd.func94, Tryd.ntmps94
      go_wp2_with (go_at_call 133; refine hn.mono ?_; rintro e w2 ⟨hg2, rfl, hp2⟩; have hg12 := grown_trans hg1 hg2; have z2 := hg2.size; have hbR2 := blk_pb hblk1 hg2 (by omega); obtain ⟨⟨r0, r1, r2⟩, ⟨f0, f1, f2⟩, hfin⟩ := ret_pass (T := leafMT 1 0) hlt hg12 hp2 hbR2 (leaf_new _ _ _ _); simp only [leafMT, MT.op, MT.n, MT.A, MT.args, MT.c, List.length_nil] at hfin)
      obtain ⟨s0, s1⟩ := hfin _ rfl
      generalize ((w2.setCell ⟨w.heap.size, 0, none⟩ (.int .i64 1)).setCell ⟨w.heap.size, 1, none⟩ (.int .i64 0)).setCell ⟨w.heap.size, 2, none⟩ (.slice none 0 0) = w9 at s0 s1 ⊢
      obtain ⟨t0, t1, t2⟩ := s0
      refine bodyPost_ret (v := .agg #[.int .i64 1, .int .i64 0, .slice none 0 0]) (by simp [results, Tryd.f94, go_sem, t0, t1, t2]) rfl ?_
      rw [HF.out]
      exact s1
    by_cases c1 : t.data.toList = [98, 111, 116]
    · have ht : t = ⟨#[98, 111, 116]⟩ := bytes_ext c1
      subst ht
      have HF := Lib.hid (show parseN n.C.l n.R.l (f + 1) (_ :: r) = some (.mk 2 0 [], r) by rw [HF0.out, beq_f c0, beq_t c1]; simp)
      clear HF0 c0 c1
      go_enter Tryd.func94, Tryd.ntmps94
      go_wp2_with (go_at_call 133; refine hn.mono ?_; rintro e w2 ⟨hg2, rfl, hp2⟩; have hg12 := grown_trans hg1 hg2; have z2 := hg2.size; have hbR2 := blk_pb hblk1 hg2 (by omega); obtain ⟨⟨r0, r1, r2⟩, ⟨f0, f1, f2⟩, hfin⟩ := ret_pass (T := leafMT 2 0) hlt hg12 hp2 hbR2 (leaf_new _ _ _ _); simp only [leafMT, MT.op, MT.n, MT.A, MT.args, MT.c, List.length_nil] at hfin)
      obtain ⟨s0, s1⟩ := hfin _ rfl
      generalize ((w2.setCell ⟨w.heap.size, 0, none⟩ (.int .i64 2)).setCell ⟨w.heap.size, 1, none⟩ (.int .i64 0)).setCell ⟨w.heap.size, 2, none⟩ (.slice none 0 0) = w9 at s0 s1 ⊢
      obtain ⟨t0, t1, t2⟩ := s0
      refine bodyPost_ret (v := .agg #[.int .i64 2, .int .i64 0, .slice none 0 0]) (by simp [results, Tryd.f94, go_sem, t0, t1, t2]) rfl ?_
      rw [HF.out]
      exact s1
    by_cases c2 : t.data.toList = [110, 111, 116]
    · have ht : t = ⟨#[110, 111, 116]⟩ := bytes_ext c2
      subst ht
      have HF := Lib.hid (show parseN n.C.l n.R.l (f + 1) (_ :: r) = (parseN n.C.l n.R.l f r).map fun x => (.mk 3 0 [x.1], x.2) by rw [HF0.out, beq_f c0, beq_f c1, beq_t c2]; simp)
      clear HF0 c0 c1 c2
      rcases hpx : parseN n.C.l n.R.l f r with _ | x
      · rw [hpx] at HF hc
        go_enter Tryd.func94, Tryd.ntmps94
        go_wp2_with (first | (go_at_call 133; refine hn.mono ?_; rintro e w2 ⟨hg2, rfl, hp2⟩; have hg12 := grown_trans hg1 hg2; have z2 := hg2.size; have hbR2 := blk_pb hblk1 hg2 (by omega)) | (go_at_call 94; refine (hc _ hp2).mono ?_; rintro e w3 ⟨hg3, rfl⟩))
        exact ⟨rfl, grown_trans hg12 hg3, by rw [HF.out]; rfl⟩
      · rw [hpx] at HF hc
        clear hpx
        go_enter Tryd.func94, Tryd.ntmps94
        go_wp2_with (first | (go_at_call 133; refine hn.mono ?_; rintro e w2 ⟨hg2, rfl, hp2⟩; have hg12 := grown_trans hg1 hg2; have z2 := hg2.size; have hbR2 := blk_pb hblk1 hg2 (by omega)) | (go_at_call 94; refine (hc _ hp2).mono ?_; rintro e w3 ⟨hg3, ⟨T', rfl, htr, hnew⟩, hp3⟩; have z3 := hg3.size; have hbR3 := blk_pb hbR2 hg3 (by omega); obtain ⟨W5, hW5, ⟨r0, r1, r2⟩, ⟨f0, f1, f2⟩, hfin⟩ := ret_node (op := 3) (nn := 0) (Ts := [T']) hlt (grown_trans hg12 hg3) hp3 hbR3 (by simp) (fun t ht => by rw [List.mem_singleton.1 ht]; exact hnew.lo (by omega)) (by simp); simp only [List.length_singleton, List.flatMap_singleton, MT.cs] at hW5 hfin))
        obtain ⟨s0, s1⟩ := hfin _ rfl
        generalize ((W5.setCell ⟨w.heap.size, 0, none⟩ (.int .i64 3)).setCell ⟨w.heap.size, 1, none⟩ (.int .i64 0)).setCell ⟨w.heap.size, 2, none⟩ (.slice (some ⟨w3.heap.size, 0, none⟩) 1 1) = w9 at s0 s1 ⊢
        obtain ⟨t0, t1, t2⟩ := s0
        refine bodyPost_ret (v := .agg #[.int .i64 3, .int .i64 0, .slice (some ⟨w3.heap.size, 0, none⟩) 1 1]) (by simp [results, Tryd.f94, go_sem, t0, t1, t2]) rfl ?_
        rw [HF.out]
        simp only [Option.map_some, ← htr]
        exact s1
    by_cases c3 : t.data.toList = [115, 111, 109, 101]
    · have ht : t = ⟨#[115, 111, 109, 101]⟩ := bytes_ext c3
      subst ht
      replace hq := hq 6
      have HF := Lib.hid (show parseN n.C.l n.R.l (f + 1) (_ :: r) = quantN (parseN n.C.l n.R.l f) n.R.l 6 r by rw [HF0.out, beq_f c0, beq_f c1, beq_f c2, beq_t c3]; simp)
      clear HF0 c0 c1 c2 c3
      rcases hpx : quantN (parseN n.C.l n.R.l f) n.R.l 6 r with _ | x
      · rw [hpx] at HF hq
        go_enter Tryd.func94, Tryd.ntmps94
        go_wp2_with (first | (go_at_call 133; refine hn.mono ?_; rintro e w2 ⟨hg2, rfl, hp2⟩; have hg12 := grown_trans hg1 hg2; have z2 := hg2.size; have hbR2 := blk_pb hblk1 hg2 (by omega)) | (go_at_call 134; refine (hq _ hp2).mono ?_; rintro e w3 ⟨hg3, rfl⟩))
        exact ⟨rfl, grown_trans hg12 hg3, by rw [HF.out]⟩
      · rw [hpx] at HF hq
        clear hpx
        go_enter Tryd.func94, Tryd.ntmps94
        go_wp2_with (first | (go_at_call 133; refine hn.mono ?_; rintro e w2 ⟨hg2, rfl, hp2⟩; have hg12 := grown_trans hg1 hg2; have z2 := hg2.size; have hbR2 := blk_pb hblk1 hg2 (by omega)) | (go_at_call 134; refine (hq _ hp2).mono ?_; rintro e w3 ⟨hg3, ⟨T', rfl, htr, hnew⟩, hp3⟩; have z3 := hg3.size; have hbR3 := blk_pb hbR2 hg3 (by omega); obtain ⟨⟨r0, r1, r2⟩, ⟨f0, f1, f2⟩, hfin⟩ := ret_pass (T := T') hlt (grown_trans hg12 hg3) hp3 hbR3 (hnew.lo (by omega))))
        obtain ⟨s0, s1⟩ := hfin _ rfl
        generalize ((w3.setCell ⟨w.heap.size, 0, none⟩ (.int .i64 T'.op)).setCell ⟨w.heap.size, 1, none⟩ (.int .i64 T'.n)).setCell ⟨w.heap.size, 2, none⟩ (.slice T'.A T'.args.length T'.c) = w9 at s0 s1 ⊢
        obtain ⟨t0, t1, t2⟩ := s0
        refine bodyPost_ret (v := .agg #[.int .i64 T'.op, .int .i64 T'.n, .slice T'.A T'.args.length T'.c]) (by simp [results, Tryd.f94, go_sem, t0, t1, t2]) rfl ?_
        rw [HF.out]
        rw [htr] at s1
        exact s1
    by_cases c4 : t.data.toList = [97, 108, 108]
    · have ht : t = ⟨#[97, 108, 108]⟩ := bytes_ext c4
      subst ht
      replace hq := hq 7
      have HF := Lib.hid (show parseN n.C.l n.R.l (f + 1) (_ :: r) = quantN (parseN n.C.l n.R.l f) n.R.l 7 r by rw [HF0.out, beq_f c0, beq_f c1, beq_f c2, beq_f c3, beq_t c4]; simp)
      clear HF0 c0 c1 c2 c3 c4
      rcases hpx : quantN (parseN n.C.l n.R.l f) n.R.l 7 r with _ | x
      · rw [hpx] at HF hq
        go_enter Tryd.func94, Tryd.ntmps94
        go_wp2_with (first | (go_at_call 133; refine hn.mono ?_; rintro e w2 ⟨hg2, rfl, hp2⟩; have hg12 := grown_trans hg1 hg2; have z2 := hg2.size; have hbR2 := blk_pb hblk1 hg2 (by omega)) | (go_at_call 134; refine (hq _ hp2).mono ?_; rintro e w3 ⟨hg3, rfl⟩))
        exact ⟨rfl, grown_trans hg12 hg3, by rw [HF.out]⟩
      · rw [hpx] at HF hq
        clear hpx
        go_enter Tryd.func94, Tryd.ntmps94
        go_wp2_with (first | (go_at_call 133; refine hn.mono ?_; rintro e w2 ⟨hg2, rfl, hp2⟩; have hg12 := grown_trans hg1 hg2; have z2 := hg2.size; have hbR2 := blk_pb hblk1 hg2 (by omega)) | (go_at_call 134; refine (hq _ hp2).mono ?_; rintro e w3 ⟨hg3, ⟨T', rfl, htr, hnew⟩, hp3⟩; have z3 := hg3.size; have hbR3 := blk_pb hbR2 hg3 (by omega); obtain ⟨⟨r0, r1, r2⟩, ⟨f0, f1, f2⟩, hfin⟩ := ret_pass (T := T') hlt (grown_trans hg12 hg3) hp3 hbR3 (hnew.lo (by omega))))
        obtain ⟨s0, s1⟩ := hfin _ rfl
        generalize ((w3.setCell ⟨w.heap.size, 0, none⟩ (.int .i64 T'.op)).setCell ⟨w.heap.size, 1, none⟩ (.int .i64 T'.n)).setCell ⟨w.heap.size, 2, none⟩ (.slice T'.A T'.args.length T'.c) = w9 at s0 s1 ⊢
        obtain ⟨t0, t1, t2⟩ := s0
        refine bodyPost_ret (v := .agg #[.int .i64 T'.op, .int .i64 T'.n, .slice T'.A T'.args.length T'.c]) (by simp [results, Tryd.f94, go_sem, t0, t1, t2]) rfl ?_
        rw [HF.out]
        rw [htr] at s1
        exact s1
    by_cases c5 : t.data.toList = [40]
    · have ht : t = ⟨#[40]⟩ := bytes_ext c5
      subst ht
      have HF := Lib.hid (show parseN n.C.l n.R.l (f + 1) (_ :: r) = pairN (parseN n.C.l n.R.l f) r by rw [HF0.out, beq_f c0, beq_f c1, beq_f c2, beq_f c3, beq_f c4, beq_t c5]; simp)
      clear HF0 c0 c1 c2 c3 c4 c5
      rcases hpx : pairN (parseN n.C.l n.R.l f) r with _ | x
      · rw [hpx] at HF hpr
        go_enter Tryd.func94, Tryd.ntmps94
        go_wp2_with (first | (go_at_call 133; refine hn.mono ?_; rintro e w2 ⟨hg2, rfl, hp2⟩; have hg12 := grown_trans hg1 hg2; have z2 := hg2.size; have hbR2 := blk_pb hblk1 hg2 (by omega)) | (go_at_call 135; refine (hpr _ hp2).mono ?_; rintro e w3 ⟨hg3, rfl⟩))
        exact ⟨rfl, grown_trans hg12 hg3, by rw [HF.out]⟩
      · rw [hpx] at HF hpr
        clear hpx
        go_enter Tryd.func94, Tryd.ntmps94
        go_wp2_with (first | (go_at_call 133; refine hn.mono ?_; rintro e w2 ⟨hg2, rfl, hp2⟩; have hg12 := grown_trans hg1 hg2; have z2 := hg2.size; have hbR2 := blk_pb hblk1 hg2 (by omega)) | (go_at_call 135; refine (hpr _ hp2).mono ?_; rintro e w3 ⟨hg3, ⟨T', rfl, htr, hnew⟩, hp3⟩; have z3 := hg3.size; have hbR3 := blk_pb hbR2 hg3 (by omega); obtain ⟨⟨r0, r1, r2⟩, ⟨f0, f1, f2⟩, hfin⟩ := ret_pass (T := T') hlt (grown_trans hg12 hg3) hp3 hbR3 (hnew.lo (by omega))))
        obtain ⟨s0, s1⟩ := hfin _ rfl
        generalize ((w3.setCell ⟨w.heap.size, 0, none⟩ (.int .i64 T'.op)).setCell ⟨w.heap.size, 1, none⟩ (.int .i64 T'.n)).setCell ⟨w.heap.size, 2, none⟩ (.slice T'.A T'.args.length T'.c) = w9 at s0 s1 ⊢
        obtain ⟨t0, t1, t2⟩ := s0
        refine bodyPost_ret (v := .agg #[.int .i64 T'.op, .int .i64 T'.n, .slice T'.A T'.args.length T'.c]) (by simp [results, Tryd.f94, go_sem, t0, t1, t2]) rfl ?_
        rw [HF.out]
        rw [htr] at s1
        exact s1
    have b0 := ne_test c0
    have b1 := ne_test c1
    have b2 := ne_test c2
    have b3 := ne_test c3
    have b4 := ne_test c4
    have b5 := ne_test c5
    have HF1 := Lib.hid (show parseN n.C.l n.R.l (f + 1) (t :: r) = match findN n.C.l t with | none => none | some i => some (.mk 0 i [], r) by rw [HF0.out, beq_f c0, beq_f c1, beq_f c2, beq_f c3, beq_f c4, beq_f c5]; simp)
    clear HF0 c0 c1 c2 c3 c4 c5
    have hcell : ∀ w1, PA n B pb r w1 → w1.cell? ⟨pb, 0, none⟩ = some (.slice n.C.A n.C.l.length n.C.c) := by
      rintro w1 ⟨_, hn1, A, c, hk, hin⟩
      exact cell_of_blk hk 0
    unfold FindP at hf
    rcases hfi : findN n.C.l t with _ | i
    · rw [hfi] at hf HF1
      go_enter Tryd.func94, Tryd.ntmps94
      go_wp2_with (first | (go_at_call 133; refine hn.mono ?_; rintro e w2 ⟨hg2, rfl, hp2⟩; have hg12 := grown_trans hg1 hg2; have z2 := hg2.size; have hbR2 := blk_pb hblk1 hg2 (by omega); have d0 := hcell _ hp2) | (go_at_call 136; refine (hf _ hp2).mono ?_; rintro e w3 ⟨rfl, rfl⟩))
      exact ⟨rfl, hg12, by rw [HF1.out]⟩
    · rw [hfi] at hf HF1
      clear hfi
      have HF := HF1
      go_enter Tryd.func94, Tryd.ntmps94
      go_wp2_with (first | (go_at_call 133; refine hn.mono ?_; rintro e w2 ⟨hg2, rfl, hp2⟩; have hg12 := grown_trans hg1 hg2; have z2 := hg2.size; have hbR2 := blk_pb hblk1 hg2 (by omega); have d0 := hcell _ hp2; obtain ⟨⟨r0, r1, r2⟩, ⟨f0, f1, f2⟩, hfin⟩ := ret_pass (T := leafMT 0 i) hlt hg12 hp2 hbR2 (leaf_new _ _ _ _); simp only [leafMT, MT.op, MT.n, MT.A, MT.args, MT.c, List.length_nil] at hfin) | (go_at_call 136; refine (hf _ hp2).mono ?_; rintro e w3 ⟨rfl, rfl⟩))
      obtain ⟨s0, s1⟩ := hfin _ rfl
      generalize ((w2.setCell ⟨w.heap.size, 0, none⟩ (.int .i64 0)).setCell ⟨w.heap.size, 1, none⟩ (.int .i64 i)).setCell ⟨w.heap.size, 2, none⟩ (.slice none 0 0) = w9 at s0 s1 ⊢
      obtain ⟨t0, t1, t2⟩ := s0
      refine bodyPost_ret (v := .agg #[.int .i64 0, .int .i64 i, .slice none 0 0]) (by simp [results, Tryd.f94, go_sem, t0, t1, t2]) rfl ?_
      rw [HF.out]
      exact s1

theorem concept_any (n : NM) (B pb : Nat) (hR : n.R.l.length ≤ 1000) : ∀ (f : Nat) (ts : List ByteArray), ts.length ≤ f → ConAt n B pb (parseN n.C.l n.R.l f) ts
  | 0, ts, hl => by
    have : ts = [] := List.eq_nil_of_length_eq_zero (by omega)
    subst this
    intro w h
    obtain ⟨W1, hW1, hB1, hs1, hblk1⟩ := newBlk w _ rfl #[.int .i64 0, .int .i64 0, .slice none 0 0] 27
    have hn := next_any n B pb [] W1 (h.later hB1)
    have hg1 : w.grownBy W1 (some pb) := grown_below hB1
    go_enter Tryd.func94, Tryd.ntmps94
    go_wp2_with (go_at_call 133; refine hn.mono ?_; rintro e w2 ⟨hg2, rfl⟩)
    exact ⟨rfl, grown_trans hg1 hg2, rfl⟩
  | f + 1, ts, hl => concept_step n B pb hR f (concept_any n B pb hR f) ts hl
end Go.Proofs.YtneegmhcmegijaaDoor
