import Derived.Test.YtfecjdffnklkaaaDoorTxt1
import Derived.Test.YtfecjdffnklkaaaDoorRTok
import Derived.Test.YtfecjdffnklkaaaDoorRStr
namespace Go.Proofs.YtfecjdffnklkaaaDoor
open Go.RowKit

theorem RetTreeE.zero {w w' : World} {c : Int} (hb : Below w.heap.size w w') : RetTreeE w zeroTr c (.returned (.tuple #[.agg #[.int .i64 0, .int .i64 0, .slice none 0 0], .int .i64 c])) w' :=
  ⟨zeroMT, rfl, by rw [zeroMT, MT.tr_mk]; rfl, new_zero _ _, hb⟩

/-- The end of Parse: a tree through the result's variable, and a code. -/
theorem ret_parse {w w3 : World} {T : MT} {D : Nat} {x y z : Value} (hD : w.heap.size ≤ D) (hb : Below w.heap.size w w3) (hbR : w3.heap[D]? = some (.cells #[x, y, z] 27)) (hT : New (D + 1) w3 T) :
    (w3.cell? ⟨D, 0, none⟩ = some x ∧ w3.cell? ⟨D, 1, none⟩ = some y ∧ w3.cell? ⟨D, 2, none⟩ = some z) ∧ (w3.frozen? ⟨D, 0, none⟩ = false ∧ w3.frozen? ⟨D, 1, none⟩ = false ∧ w3.frozen? ⟨D, 2, none⟩ = false) ∧
      ∀ (c : Int) w6, w6 = ((w3.setCell ⟨D, 0, none⟩ (.int .i64 T.op)).setCell ⟨D, 1, none⟩ (.int .i64 T.n)).setCell ⟨D, 2, none⟩ (.slice T.A T.args.length T.c) →
        (w6.cell? ⟨D, 0, none⟩ = some (.int .i64 T.op) ∧ w6.cell? ⟨D, 1, none⟩ = some (.int .i64 T.n) ∧ w6.cell? ⟨D, 2, none⟩ = some (.slice T.A T.args.length T.c)) ∧
        RetTreeE w T.tr c (.returned (.tuple #[.agg #[.int .i64 T.op, .int .i64 T.n, .slice T.A T.args.length T.c], .int .i64 c])) w6 := by
  refine ⟨⟨cell_of_blk hbR 0, cell_of_blk hbR 1, cell_of_blk hbR 2⟩, ⟨frozen_of_blk hbR 0, frozen_of_blk hbR 1, frozen_of_blk hbR 2⟩, ?_⟩
  rintro c w6 rfl
  obtain ⟨s1, s2⟩ := store3 hbR (.int .i64 T.op) (.int .i64 T.n) (.slice T.A T.args.length T.c)
  refine ⟨⟨cell_of_blk s1 0, cell_of_blk s1 1, cell_of_blk s1 2⟩, ⟨T, rfl, rfl, ?_, hb.trans (below_grown s2 hD hb.size)⟩⟩
  exact ((hT.grown s2 (MT.All.imp (fun b hb e => by have := Option.some.inj e; have := hb.1; omega) _ hT.2))).lo (by omega)

theorem ret_parse0 {w w3 : World} {D : Nat} {x y z : Value} (hD : w.heap.size ≤ D) (hb : Below w.heap.size w w3) (hbR : w3.heap[D]? = some (.cells #[x, y, z] 27)) :
    (w3.cell? ⟨D, 0, none⟩ = some x ∧ w3.cell? ⟨D, 1, none⟩ = some y ∧ w3.cell? ⟨D, 2, none⟩ = some z) ∧ (w3.frozen? ⟨D, 0, none⟩ = false ∧ w3.frozen? ⟨D, 1, none⟩ = false ∧ w3.frozen? ⟨D, 2, none⟩ = false) ∧
      ∀ (c : Int) w6, w6 = ((w3.setCell ⟨D, 0, none⟩ (.int .i64 0)).setCell ⟨D, 1, none⟩ (.int .i64 0)).setCell ⟨D, 2, none⟩ (.slice none 0 0) →
        (w6.cell? ⟨D, 0, none⟩ = some (.int .i64 0) ∧ w6.cell? ⟨D, 1, none⟩ = some (.int .i64 0) ∧ w6.cell? ⟨D, 2, none⟩ = some (.slice none 0 0)) ∧
        RetTreeE w zeroTr c (.returned (.tuple #[.agg #[.int .i64 0, .int .i64 0, .slice none 0 0], .int .i64 c])) w6 := by
  have h := ret_parse (T := zeroMT) hD hb hbR (new_zero _ _)
  have e : zeroMT.tr = zeroTr := by rw [zeroMT, MT.tr_mk]; rfl
  rw [e] at h
  exact h

theorem toks_back {l : List ByteArray} {ts : List (List UInt8)} (h : l.map (·.data.toList) = ts) : l = ts.map strOf := by
  rw [← h, List.map_map]
  have : (strOf ∘ fun x : ByteArray => x.data.toList) = id := by funext x; exact bytes_ext rfl
  rw [this, List.map_id]

set_option maxRecDepth 100000 in
set_option maxHeartbeats 4000000 in
theorem rParse_any (n : NM) (s : ByteArray) (w : World) (hn : n.In w.heap.size w) (hs : s.size ≤ maxLen) (hok : n.ok = true) :
    Calls Tryd.prog 32 #[n.val, .string s] w (RetTreeE w (parseTr n s.data.toList) (parseE n s.data.toList)) := by
  unfold maxLen at hs
  have hz := data_size s
  obtain ⟨W1, hW1, hB1, hs1, hblk1⟩ := newBlk w _ rfl #[.slice n.C.A n.C.l.length n.C.c, .slice n.R.A n.R.l.length n.R.c, .slice n.I.A n.I.l.length n.I.c] 24
  obtain ⟨W2, hW2, hB2, hs2, hblk2⟩ := newBlk W1 _ hs1 #[.int .i64 0, .int .i64 0, .slice none 0 0] 27
  have hB : Below w.heap.size w W2 := hB1.trans (hB2.mono (by omega))
  have hblk12 := (hB2.block w.heap.size (by omega)).trans hblk1
  obtain ⟨r0, r1, r2⟩ := box_cells hblk2 (Below.refl _ W2)
  have f0 := frozen_of_blk hblk2 0
  have f1 := frozen_of_blk hblk2 1
  have f2 := frozen_of_blk hblk2 2
  simp only [NM.val]
  by_cases hlen : s.size ≤ 30000
  · have hl' : s.data.toList.length ≤ 30000 := by omega
    have hnb := ok_bounds hok
    have hto : Calls Tryd.prog 62 #[.string s, .string ⟨#[]⟩] W2 (RetToks [40, 41, 45] s W2) := rTokens_any s ⟨#[]⟩ W2 (by omega) (by decide) (fun c hc => by simp at hc; rcases hc with rfl | rfl | rfl <;> rfl)
    rcases htk : toksF [40, 41, 45] s.data.toList with _ | ts
    · obtain ⟨h1, h2⟩ := parse_none hok hl' (show readF n.C.l n.R.l s.data.toList = none by rw [readF, htk])
      rw [h1, h2]
      unfold RetToks at hto
      rw [htk] at hto
      clear h1 h2 htk
      go_enter Tryd.func32, Tryd.ntmps32
      go_wp2_with (go_at_call 62; refine hto.mono ?_; rintro e w3 ⟨rfl, hb3⟩; have hb13 := blk_below hblk12 hb3; obtain ⟨m0, m1, m2⟩ := box_cells hb13 (Below.refl _ w3); obtain ⟨W4, hW4, hB4, hs4, hL4⟩ := newBlk w3 _ rfl #[.slice n.C.A n.C.l.length n.C.c, .slice n.R.A n.R.l.length n.R.c, .slice n.I.A n.I.l.length n.I.c, .slice none 0 0, .bool false, .bool false] 91; have z3 := hb3.size; have hB5 : Below W4.heap.size W4 (W4.alloc (.cells #[.int .i64 0, .int .i64 0, .slice none 0 0] 27)) := (Below.refl _ _).alloc (Nat.le_refl _) _; have hb35 := hb3.trans ((hB4.mono z3).trans (hB5.mono (by omega))); have hR5 := blk_below hblk2 hb35; have hq := (hB.trans (hb35.mono hB.size)); obtain ⟨⟨x0, x1, x2⟩, ⟨y0, y1, y2⟩, hfin⟩ := ret_parse0 (by omega) hq hR5)
      obtain ⟨⟨t0, t1, t2⟩, t3⟩ := hfin 11 _ rfl
      generalize (((W4.alloc (.cells #[.int .i64 0, .int .i64 0, .slice none 0 0] 27)).setCell ⟨w.heap.size + 1, 0, none⟩ (.int .i64 0)).setCell ⟨w.heap.size + 1, 1, none⟩ (.int .i64 0)).setCell ⟨w.heap.size + 1, 2, none⟩ (.slice none 0 0) = w9 at t0 t1 t2 t3 ⊢
      refine bodyPost_ret (v := .tuple #[.agg #[.int .i64 0, .int .i64 0, .slice none 0 0], .int .i64 11]) (by simp [results, Tryd.f32, go_sem, t0, t1, t2]) rfl ?_
      exact t3
    · unfold RetToks at hto
      rw [htk] at hto
      simp only at hto
      have hrd := rd_agrees n.C.l n.R.l (ts.map strOf).length (ts.map strOf) false
      have hcc := fun rb w1 => RConcept_any n rb rb (by omega) (by omega) (ts.map strOf).length ⟨ts.map strOf, false, false⟩ (Nat.le_refl _) w1
      have htl := toksN_len _ _ _ _ htk
      have hreF : readF n.C.l n.R.l s.data.toList = match parseN n.C.l n.R.l (ts.map strOf).length (ts.map strOf) with
        | none => none
        | some (t, r) => if r = [] then some t else none := by rw [readF, htk, List.length_map]; rfl
      generalize rdC n.C.l n.R.l (ts.map strOf).length ⟨ts.map strOf, false, false⟩ = X at hrd hcc
      obtain ⟨xtr, ⟨xt, xb, xw⟩⟩ := X
      rcases hp : parseN n.C.l n.R.l (ts.map strOf).length (ts.map strOf) with _ | ⟨t, r⟩
      · rw [hp] at hrd hreF
        obtain rfl : xb = true := hrd
        obtain ⟨h1, h2⟩ := parse_none hok hl' hreF
        rw [h1, h2]
        clear h1 h2 htk hp hreF
        go_enter Tryd.func32, Tryd.ntmps32
        go_wp2_with (first | (go_at_call 62; refine hto.mono ?_; rintro e w3 ⟨⟨sl, rfl, hsl, hin3⟩, hb3⟩; have hb13 := blk_below hblk12 hb3; obtain ⟨m0, m1, m2⟩ := box_cells hb13 (Below.refl _ w3); obtain ⟨W4, hW4, hB4, hs4, hL4⟩ := newBlk w3 _ rfl #[.slice n.C.A n.C.l.length n.C.c, .slice n.R.A n.R.l.length n.R.c, .slice n.I.A n.I.l.length n.I.c, .slice sl.A sl.l.length sl.c, .bool false, .bool false] 91; have z3 := hb3.size; have hsl' := Lib.hid (toks_back hsl); clear hsl; have hr4 : RA n w3.heap.size w3.heap.size ⟨ts.map strOf, false, false⟩ W4 := ⟨Nat.le_refl _, ((hn.later hB).later hb3).below (Nat.le_refl _) hB4, sl.A, sl.c, by rw [hL4, ← hsl'.out], by rw [← hsl'.out]; exact hin3.below (Nat.le_refl _) hB4⟩; have hB5 : Below W4.heap.size W4 (W4.alloc (.cells #[.int .i64 0, .int .i64 0, .slice none 0 0] 27)) := (Below.refl _ _).alloc (Nat.le_refl _) _; have hL5 : (W4.alloc (.cells #[.int .i64 0, .int .i64 0, .slice none 0 0] 27)).heap[w3.heap.size + 1]? = some (.cells #[.int .i64 0, .int .i64 0, .slice none 0 0] 27) := (by rw [← hs4]; exact World.alloc_heap_new' _ _); have hr5 := hr4.later hB5; have hb35 := hb3.trans ((hB4.mono z3).trans (hB5.mono (by omega))); have z5 : (W4.alloc (.cells #[.int .i64 0, .int .i64 0, .slice none 0 0] 27)).heap.size = w3.heap.size + 1 + 1 := (by simp; omega)) | (go_at_call 63; refine (hcc _ _ hr5).mono ?_; rintro e w6 ⟨hg6, ⟨T', rfl, htr, hnew⟩, hr6⟩; have z6 := hg6.size; have hv6 := blk_pb hL5 hg6 (by omega); obtain ⟨u0, u1, u2⟩ := box_cells hv6 (Below.refl _ w6); have k0 := frozen_of_blk hv6 0; have k1 := frozen_of_blk hv6 1; have k2 := frozen_of_blk hv6 2; obtain ⟨s1, s2⟩ := store3 hv6 (.int .i64 T'.op) (.int .i64 T'.n) (.slice T'.A T'.args.length T'.c); have hr7 := hr6.off s2 (by omega) (by omega); have hn7 := (hnew.pb s2 (by omega)); have hbw7 : Below w3.heap.size w3 _ := hB4.trans (((hB5.mono (by omega)).trans (below_grown hg6 (Nat.le_refl _) (by omega))).trans (below_grown s2 (by omega) (by omega))); have hb37 := hb3.trans (hbw7.mono z3); have hR7 := blk_below hblk2 hb37; have hM7 := blk_below hblk12 hb37; obtain ⟨o0, o1, o2⟩ := box_cells hM7 (Below.refl _ _); obtain ⟨p0, p1, p2⟩ := box_cells s1 (Below.refl _ _); have hq := (hB.trans (hb37.mono hB.size)); obtain ⟨A7, c7, -, -, e3, e4, e5, -, -, -, -⟩ := hr7.cells; obtain ⟨⟨x0, x1, x2⟩, ⟨y0, y1, y2⟩, hfin⟩ := ret_parse0 (by omega) hq hR7))
        obtain ⟨⟨t0, t1, t2⟩, t3⟩ := hfin 11 _ rfl
        generalize (((((w6.setCell ⟨w3.heap.size + 1, 0, none⟩ (.int .i64 T'.op)).setCell ⟨w3.heap.size + 1, 1, none⟩ (.int .i64 T'.n)).setCell ⟨w3.heap.size + 1, 2, none⟩ (.slice T'.A T'.args.length T'.c)).setCell ⟨w.heap.size + 1, 0, none⟩ (.int .i64 0)).setCell ⟨w.heap.size + 1, 1, none⟩ (.int .i64 0)).setCell ⟨w.heap.size + 1, 2, none⟩ (.slice none 0 0) = w9 at t0 t1 t2 t3 ⊢
        refine bodyPost_ret (v := .tuple #[.agg #[.int .i64 0, .int .i64 0, .slice none 0 0], .int .i64 11]) (by simp [results, Tryd.f32, go_sem, t0, t1, t2]) rfl ?_
        exact t3
      · rw [hp] at hrd hreF
        obtain ⟨i1, i2, i3, i4⟩ := hrd
        simp only at i1 i2 i3 i4 hreF
        subst i1 i2
        by_cases hxt : xt = []
        · subst hxt
          rw [if_pos rfl] at hreF
          obtain ⟨h1, h2⟩ := parse_some hok hl' hreF
          rw [h1, h2]
          have hsz := parseN_size _ _ _ _ _ hp
          simp only [List.length_nil, List.length_map] at hsz
          rcases hng : t.neg
          · rw [hng, Bool.false_or] at i3
            subst i3
            have hx := i4 hng
            subst hx
            have hck : checkT n xtr = if validT n.C.l.length n.R.l.length xtr then 0 else 10 := by rw [checkT, hok]; cases validT n.C.l.length n.R.l.length xtr <;> rfl
            have his := fun (T' : MT) w1 (hn1 : n.In w1.heap.size w1) (hT1 : T'.In w1.heap.size w1) (he : T'.tr = xtr) => Is_any n T' w1 hn1 hT1 (by rw [he]; omega) (by omega) (by omega)
            simp only [NM.val, MT.val] at his
            rcases hv : validT n.C.l.length n.R.l.length xtr
            · rw [hck, hv]
              simp only [Bool.false_eq_true, if_false]
              have hvz : (10 == (0 : Int)) = false := rfl
              simp only [hvz, Bool.false_eq_true, if_false]
              clear h1 h2 htk hp hreF hck i4
              go_enter Tryd.func32, Tryd.ntmps32
              go_wp2_with (first | (go_at_call 62; refine hto.mono ?_; rintro e w3 ⟨⟨sl, rfl, hsl, hin3⟩, hb3⟩; have hb13 := blk_below hblk12 hb3; obtain ⟨m0, m1, m2⟩ := box_cells hb13 (Below.refl _ w3); obtain ⟨W4, hW4, hB4, hs4, hL4⟩ := newBlk w3 _ rfl #[.slice n.C.A n.C.l.length n.C.c, .slice n.R.A n.R.l.length n.R.c, .slice n.I.A n.I.l.length n.I.c, .slice sl.A sl.l.length sl.c, .bool false, .bool false] 91; have z3 := hb3.size; have hsl' := Lib.hid (toks_back hsl); clear hsl; have hr4 : RA n w3.heap.size w3.heap.size ⟨ts.map strOf, false, false⟩ W4 := ⟨Nat.le_refl _, ((hn.later hB).later hb3).below (Nat.le_refl _) hB4, sl.A, sl.c, by rw [hL4, ← hsl'.out], by rw [← hsl'.out]; exact hin3.below (Nat.le_refl _) hB4⟩; have hB5 : Below W4.heap.size W4 (W4.alloc (.cells #[.int .i64 0, .int .i64 0, .slice none 0 0] 27)) := (Below.refl _ _).alloc (Nat.le_refl _) _; have hL5 : (W4.alloc (.cells #[.int .i64 0, .int .i64 0, .slice none 0 0] 27)).heap[w3.heap.size + 1]? = some (.cells #[.int .i64 0, .int .i64 0, .slice none 0 0] 27) := (by rw [← hs4]; exact World.alloc_heap_new' _ _); have hr5 := hr4.later hB5; have hb35 := hb3.trans ((hB4.mono z3).trans (hB5.mono (by omega))); have z5 : (W4.alloc (.cells #[.int .i64 0, .int .i64 0, .slice none 0 0] 27)).heap.size = w3.heap.size + 1 + 1 := (by simp; omega)) | (go_at_call 63; refine (hcc _ _ hr5).mono ?_; rintro e w6 ⟨hg6, ⟨T', rfl, htr, hnew⟩, hr6⟩; have z6 := hg6.size; have hv6 := blk_pb hL5 hg6 (by omega); obtain ⟨u0, u1, u2⟩ := box_cells hv6 (Below.refl _ w6); have k0 := frozen_of_blk hv6 0; have k1 := frozen_of_blk hv6 1; have k2 := frozen_of_blk hv6 2; obtain ⟨s1, s2⟩ := store3 hv6 (.int .i64 T'.op) (.int .i64 T'.n) (.slice T'.A T'.args.length T'.c); have hr7 := hr6.off s2 (by omega) (by omega); have hn7 := (hnew.pb s2 (by omega)); have hbw7 : Below w3.heap.size w3 _ := hB4.trans (((hB5.mono (by omega)).trans (below_grown hg6 (Nat.le_refl _) (by omega))).trans (below_grown s2 (by omega) (by omega))); have hb37 := hb3.trans (hbw7.mono z3); have hR7 := blk_below hblk2 hb37; have hM7 := blk_below hblk12 hb37; obtain ⟨o0, o1, o2⟩ := box_cells hM7 (Below.refl _ _); obtain ⟨p0, p1, p2⟩ := box_cells s1 (Below.refl _ _); have hq := (hB.trans (hb37.mono hB.size)); obtain ⟨A7, c7, -, -, e3, e4, e5, -, -, -, -⟩ := hr7.cells; simp only [List.length_nil] at e3) | (go_at_call 46; have hi8 := his T' (((w6.setCell ⟨w3.heap.size + 1, 0, none⟩ (.int .i64 T'.op)).setCell ⟨w3.heap.size + 1, 1, none⟩ (.int .i64 T'.n)).setCell ⟨w3.heap.size + 1, 2, none⟩ (.slice T'.A T'.args.length T'.c)) ((hn.later hq)) hn7.1 htr; rw [htr, hv] at hi8; refine hi8.mono ?_; rintro e w8 ⟨rfl, hb8⟩; have hR8 := blk_below hR7 hb8; have hq8 := hq.trans (hb8.mono hq.size); obtain ⟨⟨x0, x1, x2⟩, ⟨y0, y1, y2⟩, hfin⟩ := ret_parse0 (by omega) hq8 hR8))
              obtain ⟨⟨t0, t1, t2⟩, t3⟩ := hfin 10 _ rfl
              generalize ((w8.setCell ⟨w.heap.size + 1, 0, none⟩ (.int .i64 0)).setCell ⟨w.heap.size + 1, 1, none⟩ (.int .i64 0)).setCell ⟨w.heap.size + 1, 2, none⟩ (.slice none 0 0) = w9 at t0 t1 t2 t3 ⊢
              refine bodyPost_ret (v := .tuple #[.agg #[.int .i64 0, .int .i64 0, .slice none 0 0], .int .i64 10]) (by simp [results, Tryd.f32, go_sem, t0, t1, t2]) rfl ?_
              exact t3
            · rw [hck, hv]
              simp only [if_true, beq_self_eq_true]
              clear h1 h2 htk hp hreF hck i4
              go_enter Tryd.func32, Tryd.ntmps32
              go_wp2_with (first | (go_at_call 62; refine hto.mono ?_; rintro e w3 ⟨⟨sl, rfl, hsl, hin3⟩, hb3⟩; have hb13 := blk_below hblk12 hb3; obtain ⟨m0, m1, m2⟩ := box_cells hb13 (Below.refl _ w3); obtain ⟨W4, hW4, hB4, hs4, hL4⟩ := newBlk w3 _ rfl #[.slice n.C.A n.C.l.length n.C.c, .slice n.R.A n.R.l.length n.R.c, .slice n.I.A n.I.l.length n.I.c, .slice sl.A sl.l.length sl.c, .bool false, .bool false] 91; have z3 := hb3.size; have hsl' := Lib.hid (toks_back hsl); clear hsl; have hr4 : RA n w3.heap.size w3.heap.size ⟨ts.map strOf, false, false⟩ W4 := ⟨Nat.le_refl _, ((hn.later hB).later hb3).below (Nat.le_refl _) hB4, sl.A, sl.c, by rw [hL4, ← hsl'.out], by rw [← hsl'.out]; exact hin3.below (Nat.le_refl _) hB4⟩; have hB5 : Below W4.heap.size W4 (W4.alloc (.cells #[.int .i64 0, .int .i64 0, .slice none 0 0] 27)) := (Below.refl _ _).alloc (Nat.le_refl _) _; have hL5 : (W4.alloc (.cells #[.int .i64 0, .int .i64 0, .slice none 0 0] 27)).heap[w3.heap.size + 1]? = some (.cells #[.int .i64 0, .int .i64 0, .slice none 0 0] 27) := (by rw [← hs4]; exact World.alloc_heap_new' _ _); have hr5 := hr4.later hB5; have hb35 := hb3.trans ((hB4.mono z3).trans (hB5.mono (by omega))); have z5 : (W4.alloc (.cells #[.int .i64 0, .int .i64 0, .slice none 0 0] 27)).heap.size = w3.heap.size + 1 + 1 := (by simp; omega)) | (go_at_call 63; refine (hcc _ _ hr5).mono ?_; rintro e w6 ⟨hg6, ⟨T', rfl, htr, hnew⟩, hr6⟩; have z6 := hg6.size; have hv6 := blk_pb hL5 hg6 (by omega); obtain ⟨u0, u1, u2⟩ := box_cells hv6 (Below.refl _ w6); have k0 := frozen_of_blk hv6 0; have k1 := frozen_of_blk hv6 1; have k2 := frozen_of_blk hv6 2; obtain ⟨s1, s2⟩ := store3 hv6 (.int .i64 T'.op) (.int .i64 T'.n) (.slice T'.A T'.args.length T'.c); have hr7 := hr6.off s2 (by omega) (by omega); have hn7 := (hnew.pb s2 (by omega)); have hbw7 : Below w3.heap.size w3 _ := hB4.trans (((hB5.mono (by omega)).trans (below_grown hg6 (Nat.le_refl _) (by omega))).trans (below_grown s2 (by omega) (by omega))); have hb37 := hb3.trans (hbw7.mono z3); have hR7 := blk_below hblk2 hb37; have hM7 := blk_below hblk12 hb37; obtain ⟨o0, o1, o2⟩ := box_cells hM7 (Below.refl _ _); obtain ⟨p0, p1, p2⟩ := box_cells s1 (Below.refl _ _); have hq := (hB.trans (hb37.mono hB.size)); obtain ⟨A7, c7, -, -, e3, e4, e5, -, -, -, -⟩ := hr7.cells; simp only [List.length_nil] at e3) | (go_at_call 46; have hi8 := his T' (((w6.setCell ⟨w3.heap.size + 1, 0, none⟩ (.int .i64 T'.op)).setCell ⟨w3.heap.size + 1, 1, none⟩ (.int .i64 T'.n)).setCell ⟨w3.heap.size + 1, 2, none⟩ (.slice T'.A T'.args.length T'.c)) ((hn.later hq)) hn7.1 htr; rw [htr, hv] at hi8; refine hi8.mono ?_; rintro e w8 ⟨rfl, hb8⟩; have hR8 := blk_below hR7 hb8; have hq8 := hq.trans (hb8.mono hq.size); have hv8 := blk_below s1 hb8; obtain ⟨v0, v1, v2⟩ := box_cells hv8 (Below.refl _ w8); obtain ⟨⟨x0, x1, x2⟩, ⟨y0, y1, y2⟩, hfin⟩ := ret_parse (T := T') (by omega) hq8 hR8 ((hn7.later hb8).lo (by omega))))
              obtain ⟨⟨t0, t1, t2⟩, t3⟩ := hfin 0 _ rfl
              generalize ((w8.setCell ⟨w.heap.size + 1, 0, none⟩ (.int .i64 T'.op)).setCell ⟨w.heap.size + 1, 1, none⟩ (.int .i64 T'.n)).setCell ⟨w.heap.size + 1, 2, none⟩ (.slice T'.A T'.args.length T'.c) = w9 at t0 t1 t2 t3 ⊢
              refine bodyPost_ret (v := .tuple #[.agg #[.int .i64 T'.op, .int .i64 T'.n, .slice T'.A T'.args.length T'.c], .int .i64 0]) (by simp [results, Tryd.f32, go_sem, t0, t1, t2]) rfl ?_
              rw [← htr]
              exact t3
          · rw [hng, Bool.false_or] at i3
            subst i3
            rw [neg_check hok hng]
            have hvz : (10 == (0 : Int)) = false := rfl
            simp only [hvz, Bool.false_eq_true, if_false]
            clear h1 h2 htk hp hreF i4
            go_enter Tryd.func32, Tryd.ntmps32
            go_wp2_with (first | (go_at_call 62; refine hto.mono ?_; rintro e w3 ⟨⟨sl, rfl, hsl, hin3⟩, hb3⟩; have hb13 := blk_below hblk12 hb3; obtain ⟨m0, m1, m2⟩ := box_cells hb13 (Below.refl _ w3); obtain ⟨W4, hW4, hB4, hs4, hL4⟩ := newBlk w3 _ rfl #[.slice n.C.A n.C.l.length n.C.c, .slice n.R.A n.R.l.length n.R.c, .slice n.I.A n.I.l.length n.I.c, .slice sl.A sl.l.length sl.c, .bool false, .bool false] 91; have z3 := hb3.size; have hsl' := Lib.hid (toks_back hsl); clear hsl; have hr4 : RA n w3.heap.size w3.heap.size ⟨ts.map strOf, false, false⟩ W4 := ⟨Nat.le_refl _, ((hn.later hB).later hb3).below (Nat.le_refl _) hB4, sl.A, sl.c, by rw [hL4, ← hsl'.out], by rw [← hsl'.out]; exact hin3.below (Nat.le_refl _) hB4⟩; have hB5 : Below W4.heap.size W4 (W4.alloc (.cells #[.int .i64 0, .int .i64 0, .slice none 0 0] 27)) := (Below.refl _ _).alloc (Nat.le_refl _) _; have hL5 : (W4.alloc (.cells #[.int .i64 0, .int .i64 0, .slice none 0 0] 27)).heap[w3.heap.size + 1]? = some (.cells #[.int .i64 0, .int .i64 0, .slice none 0 0] 27) := (by rw [← hs4]; exact World.alloc_heap_new' _ _); have hr5 := hr4.later hB5; have hb35 := hb3.trans ((hB4.mono z3).trans (hB5.mono (by omega))); have z5 : (W4.alloc (.cells #[.int .i64 0, .int .i64 0, .slice none 0 0] 27)).heap.size = w3.heap.size + 1 + 1 := (by simp; omega)) | (go_at_call 63; refine (hcc _ _ hr5).mono ?_; rintro e w6 ⟨hg6, ⟨T', rfl, htr, hnew⟩, hr6⟩; have z6 := hg6.size; have hv6 := blk_pb hL5 hg6 (by omega); obtain ⟨u0, u1, u2⟩ := box_cells hv6 (Below.refl _ w6); have k0 := frozen_of_blk hv6 0; have k1 := frozen_of_blk hv6 1; have k2 := frozen_of_blk hv6 2; obtain ⟨s1, s2⟩ := store3 hv6 (.int .i64 T'.op) (.int .i64 T'.n) (.slice T'.A T'.args.length T'.c); have hr7 := hr6.off s2 (by omega) (by omega); have hn7 := (hnew.pb s2 (by omega)); have hbw7 : Below w3.heap.size w3 _ := hB4.trans (((hB5.mono (by omega)).trans (below_grown hg6 (Nat.le_refl _) (by omega))).trans (below_grown s2 (by omega) (by omega))); have hb37 := hb3.trans (hbw7.mono z3); have hR7 := blk_below hblk2 hb37; have hM7 := blk_below hblk12 hb37; obtain ⟨o0, o1, o2⟩ := box_cells hM7 (Below.refl _ _); obtain ⟨p0, p1, p2⟩ := box_cells s1 (Below.refl _ _); have hq := (hB.trans (hb37.mono hB.size)); obtain ⟨A7, c7, -, -, e3, e4, e5, -, -, -, -⟩ := hr7.cells; simp only [List.length_nil] at e3; obtain ⟨⟨x0, x1, x2⟩, ⟨y0, y1, y2⟩, hfin⟩ := ret_parse0 (by omega) hq hR7))
            obtain ⟨⟨t0, t1, t2⟩, t3⟩ := hfin 10 _ rfl
            generalize (((((w6.setCell ⟨w3.heap.size + 1, 0, none⟩ (.int .i64 T'.op)).setCell ⟨w3.heap.size + 1, 1, none⟩ (.int .i64 T'.n)).setCell ⟨w3.heap.size + 1, 2, none⟩ (.slice T'.A T'.args.length T'.c)).setCell ⟨w.heap.size + 1, 0, none⟩ (.int .i64 0)).setCell ⟨w.heap.size + 1, 1, none⟩ (.int .i64 0)).setCell ⟨w.heap.size + 1, 2, none⟩ (.slice none 0 0) = w9 at t0 t1 t2 t3 ⊢
            refine bodyPost_ret (v := .tuple #[.agg #[.int .i64 0, .int .i64 0, .slice none 0 0], .int .i64 10]) (by simp [results, Tryd.f32, go_sem, t0, t1, t2]) rfl ?_
            exact t3
        · rw [if_neg hxt] at hreF
          obtain ⟨h1, h2⟩ := parse_none hok hl' hreF
          rw [h1, h2]
          have hxl : xt.length ≠ 0 := fun e => hxt (List.eq_nil_of_length_eq_zero e)
          have hxg : ((xt.length : Int) > 0) := by omega
          clear h1 h2 htk hp hreF i4
          go_enter Tryd.func32, Tryd.ntmps32
          go_wp2_with (first | (go_at_call 62; refine hto.mono ?_; rintro e w3 ⟨⟨sl, rfl, hsl, hin3⟩, hb3⟩; have hb13 := blk_below hblk12 hb3; obtain ⟨m0, m1, m2⟩ := box_cells hb13 (Below.refl _ w3); obtain ⟨W4, hW4, hB4, hs4, hL4⟩ := newBlk w3 _ rfl #[.slice n.C.A n.C.l.length n.C.c, .slice n.R.A n.R.l.length n.R.c, .slice n.I.A n.I.l.length n.I.c, .slice sl.A sl.l.length sl.c, .bool false, .bool false] 91; have z3 := hb3.size; have hsl' := Lib.hid (toks_back hsl); clear hsl; have hr4 : RA n w3.heap.size w3.heap.size ⟨ts.map strOf, false, false⟩ W4 := ⟨Nat.le_refl _, ((hn.later hB).later hb3).below (Nat.le_refl _) hB4, sl.A, sl.c, by rw [hL4, ← hsl'.out], by rw [← hsl'.out]; exact hin3.below (Nat.le_refl _) hB4⟩; have hB5 : Below W4.heap.size W4 (W4.alloc (.cells #[.int .i64 0, .int .i64 0, .slice none 0 0] 27)) := (Below.refl _ _).alloc (Nat.le_refl _) _; have hL5 : (W4.alloc (.cells #[.int .i64 0, .int .i64 0, .slice none 0 0] 27)).heap[w3.heap.size + 1]? = some (.cells #[.int .i64 0, .int .i64 0, .slice none 0 0] 27) := (by rw [← hs4]; exact World.alloc_heap_new' _ _); have hr5 := hr4.later hB5; have hb35 := hb3.trans ((hB4.mono z3).trans (hB5.mono (by omega))); have z5 : (W4.alloc (.cells #[.int .i64 0, .int .i64 0, .slice none 0 0] 27)).heap.size = w3.heap.size + 1 + 1 := (by simp; omega)) | (go_at_call 63; refine (hcc _ _ hr5).mono ?_; rintro e w6 ⟨hg6, ⟨T', rfl, htr, hnew⟩, hr6⟩; have z6 := hg6.size; have hv6 := blk_pb hL5 hg6 (by omega); obtain ⟨u0, u1, u2⟩ := box_cells hv6 (Below.refl _ w6); have k0 := frozen_of_blk hv6 0; have k1 := frozen_of_blk hv6 1; have k2 := frozen_of_blk hv6 2; obtain ⟨s1, s2⟩ := store3 hv6 (.int .i64 T'.op) (.int .i64 T'.n) (.slice T'.A T'.args.length T'.c); have hr7 := hr6.off s2 (by omega) (by omega); have hn7 := (hnew.pb s2 (by omega)); have hbw7 : Below w3.heap.size w3 _ := hB4.trans (((hB5.mono (by omega)).trans (below_grown hg6 (Nat.le_refl _) (by omega))).trans (below_grown s2 (by omega) (by omega))); have hb37 := hb3.trans (hbw7.mono z3); have hR7 := blk_below hblk2 hb37; have hM7 := blk_below hblk12 hb37; obtain ⟨o0, o1, o2⟩ := box_cells hM7 (Below.refl _ _); obtain ⟨p0, p1, p2⟩ := box_cells s1 (Below.refl _ _); have hq := (hB.trans (hb37.mono hB.size)); obtain ⟨A7, c7, -, -, e3, e4, e5, -, -, -, -⟩ := hr7.cells; obtain ⟨⟨x0, x1, x2⟩, ⟨y0, y1, y2⟩, hfin⟩ := ret_parse0 (by omega) hq hR7))
          obtain ⟨⟨t0, t1, t2⟩, t3⟩ := hfin 11 _ rfl
          generalize (((((w6.setCell ⟨w3.heap.size + 1, 0, none⟩ (.int .i64 T'.op)).setCell ⟨w3.heap.size + 1, 1, none⟩ (.int .i64 T'.n)).setCell ⟨w3.heap.size + 1, 2, none⟩ (.slice T'.A T'.args.length T'.c)).setCell ⟨w.heap.size + 1, 0, none⟩ (.int .i64 0)).setCell ⟨w.heap.size + 1, 1, none⟩ (.int .i64 0)).setCell ⟨w.heap.size + 1, 2, none⟩ (.slice none 0 0) = w9 at t0 t1 t2 t3 ⊢
          refine bodyPost_ret (v := .tuple #[.agg #[.int .i64 0, .int .i64 0, .slice none 0 0], .int .i64 11]) (by simp [results, Tryd.f32, go_sem, t0, t1, t2]) rfl ?_
          exact t3
  · obtain ⟨h1, h2⟩ := parse_long hok (show ¬ s.data.toList.length ≤ 30000 by omega)
    rw [h1, h2]
    obtain ⟨-, -, hfin⟩ := ret_parse0 (show w.heap.size ≤ w.heap.size + 1 by omega) hB hblk2
    go_enter Tryd.func32, Tryd.ntmps32
    go_wp2_with fail
    obtain ⟨⟨t0, t1, t2⟩, t3⟩ := hfin 2 _ rfl
    generalize ((W2.setCell ⟨w.heap.size + 1, 0, none⟩ (.int .i64 0)).setCell ⟨w.heap.size + 1, 1, none⟩ (.int .i64 0)).setCell ⟨w.heap.size + 1, 2, none⟩ (.slice none 0 0) = w9 at t0 t1 t2 t3 ⊢
    refine bodyPost_ret (v := .tuple #[.agg #[.int .i64 0, .int .i64 0, .slice none 0 0], .int .i64 2]) (by simp [results, Tryd.f32, go_sem, t0, t1, t2]) rfl ?_
    exact t3
end Go.Proofs.YtfecjdffnklkaaaDoor
