import Derived.Test.YtneegmhcmegijaaDoorBool1
import Derived.BigQuiet
import Derived.Deep.DrawnRows
namespace Go.Proofs.YtneegmhcmegijaaDoor
open Go.RowKit
attribute [local go_sem ↓] Go.wp_at_zero Go.wp_at_succ

theorem tree_two {w : World} {g : Nat} {T D : MT} (op n : Int) (hk : w.heap[g]? = some (.cells #[.int .i64 T.op, .int .i64 T.n, .slice T.A T.args.length T.c, .int .i64 D.op, .int .i64 D.n, .slice D.A D.args.length D.c] 27)) (hT : T.In w.heap.size w) (hD : D.In w.heap.size w) : (MT.mk op n (some ⟨g, 0, none⟩) 2 [T, D]).In w.heap.size w := by
  rw [MT.In]
  refine ⟨by simp, by omega, ⟨by simp [MT.cs], fun _ => ⟨g, 0, rfl, (Array.getElem?_eq_some_iff.1 hk).1, fun j hj => ?_⟩⟩, by rw [MT.InAll, MT.InAll]; exact ⟨hT, hD, trivial⟩⟩
  rw [cell_of_blk hk, Nat.zero_add]
  have : ([T, D].flatMap MT.cs) = [.int .i64 T.op, .int .i64 T.n, .slice T.A T.args.length T.c, .int .i64 D.op, .int .i64 D.n, .slice D.A D.args.length D.c] := by simp [MT.cs]
  rw [this, List.getElem?_toArray]
theorem two_tr (op n : Int) (A : Option Addr) (T D : MT) : (MT.mk op n A 2 [T, D]).tr = .mk op n [T.tr, D.tr] := by rw [MT.tr, MT.trs, MT.trs, MT.trs]
theorem small_of_valid {C R : Nat} {t : Tr} (h : validT C R t = true) : smallB t = true ∧ t.wfT C R = true := by
  rw [validT_split, Bool.and_eq_true] at h; exact h
theorem set_one {n : NM} {i : IN} {m : Nat} (v : Val n i m) (T : MT) (op nn : Int) (g : Nat) (w : World) (hG : GT w) (hn : n.In w.heap.size w) (hT : T.In w.heap.size w) (hi : i.In w.heap.size w) (hk : w.heap[g]? = some (.cells #[.int .i64 T.op, .int .i64 T.n, .slice T.A T.args.length T.c] 27)) (hv : validT i.C.length i.R.length (.mk op nn [T.tr]) = true) :
    Calls Tryd.prog 36 #[n.val, .agg #[.int .i64 op, .int .i64 nn, .slice (some ⟨g, 0, none⟩) 1 1], i.val] w (RetB m (semT i m (.mk op nn [T.tr])) w) := by
  have := set_of_tr v (.mk op nn (some ⟨g, 0, none⟩) 1 [T]) w hG hn (tree_one op nn hk hT) hi (by rw [one_tr]; exact (small_of_valid hv).1) (by rw [one_tr]; exact (small_of_valid hv).2)
  rw [one_tr] at this
  exact this
theorem set_two {n : NM} {i : IN} {m : Nat} (v : Val n i m) (T D : MT) (op nn : Int) (g : Nat) (w : World) (hG : GT w) (hn : n.In w.heap.size w) (hT : T.In w.heap.size w) (hD : D.In w.heap.size w) (hi : i.In w.heap.size w) (hk : w.heap[g]? = some (.cells #[.int .i64 T.op, .int .i64 T.n, .slice T.A T.args.length T.c, .int .i64 D.op, .int .i64 D.n, .slice D.A D.args.length D.c] 27)) (hv : validT i.C.length i.R.length (.mk op nn [T.tr, D.tr]) = true) :
    Calls Tryd.prog 36 #[n.val, .agg #[.int .i64 op, .int .i64 nn, .slice (some ⟨g, 0, none⟩) 2 2], i.val] w (RetB m (semT i m (.mk op nn [T.tr, D.tr])) w) := by
  have := set_of_tr v (.mk op nn (some ⟨g, 0, none⟩) 2 [T, D]) w hG hn (tree_two op nn hk hT hD) hi (by rw [two_tr]; exact (small_of_valid hv).1) (by rw [two_tr]; exact (small_of_valid hv).2)
  rw [two_tr] at this
  exact this

set_option maxRecDepth 100000 in
set_option maxHeartbeats 16000000 in
theorem InterpBoolean_any (n : NM) (T D : MT) (i : IN) (r : Int) (w : World) (hG : GT w) (hGD : GD w) (hn : n.In w.heap.size w) (hT : T.In w.heap.size w) (hD : D.In w.heap.size w) (hi : i.In w.heap.size w) :
    Calls Tryd.prog 6 #[n.val, T.val, D.val, i.val, .int .i64 r] w fun e w' => e = .returned (.bool true) ∧ Below w.heap.size w w' := by
  obtain ⟨W1, hW1, hB1, hs1, hk1⟩ := newBlk w _ rfl #[.slice n.C.A n.C.l.length n.C.c, .slice n.R.A n.R.l.length n.R.c, .slice n.I.A n.I.l.length n.I.c] 24
  obtain ⟨W2, hW2, hB2, hs2, hk2⟩ := newBlk W1 _ hs1 #[.int .i64 T.op, .int .i64 T.n, .slice T.A T.args.length T.c] 27
  obtain ⟨W3, hW3, hB3, hs3, hk3⟩ := newBlk W2 _ hs2 #[.int .i64 D.op, .int .i64 D.n, .slice D.A D.args.length D.c] 27
  obtain ⟨W4, hW4, hB4, hs4, hk4⟩ := newBlk W3 _ hs3 #[.int .i64 i.size, .slice i.CA i.C.length i.cc, .slice i.RA i.R.length i.rc, .slice i.I.A i.I.l.length i.I.c] 52
  have hB : Below w.heap.size w W4 := (((hB1.trans (hB2.mono (by omega))).trans (hB3.mono (by omega))).trans (hB4.mono (by omega)))
  have hkk1 := ((hB4.block (w.heap.size) (by omega)).trans ((hB3.block (w.heap.size) (by omega)).trans ((hB2.block (w.heap.size) (by omega)).trans hk1)))
  have hkk2 := ((hB4.block (w.heap.size + 1) (by omega)).trans ((hB3.block (w.heap.size + 1) (by omega)).trans hk2))
  have hkk3 := ((hB4.block (w.heap.size + 1 + 1) (by omega)).trans hk3)
  have hS : ∀ w', Below W4.heap.size W4 w' → ((w'.cell? ⟨w.heap.size, 0, none⟩ = some (.slice n.C.A n.C.l.length n.C.c) ∧ w'.cell? ⟨w.heap.size, 1, none⟩ = some (.slice n.R.A n.R.l.length n.R.c) ∧ w'.cell? ⟨w.heap.size, 2, none⟩ = some (.slice n.I.A n.I.l.length n.I.c)) ∧ (w'.cell? ⟨w.heap.size + 1, 0, none⟩ = some (.int .i64 T.op) ∧ w'.cell? ⟨w.heap.size + 1, 1, none⟩ = some (.int .i64 T.n) ∧ w'.cell? ⟨w.heap.size + 1, 2, none⟩ = some (.slice T.A T.args.length T.c)) ∧ (w'.cell? ⟨w.heap.size + 1 + 1, 0, none⟩ = some (.int .i64 D.op) ∧ w'.cell? ⟨w.heap.size + 1 + 1, 1, none⟩ = some (.int .i64 D.n) ∧ w'.cell? ⟨w.heap.size + 1 + 1, 2, none⟩ = some (.slice D.A D.args.length D.c)) ∧ (w'.cell? ⟨w.heap.size + 1 + 1 + 1, 0, none⟩ = some (.int .i64 i.size) ∧ w'.cell? ⟨w.heap.size + 1 + 1 + 1, 1, none⟩ = some (.slice i.CA i.C.length i.cc) ∧ w'.cell? ⟨w.heap.size + 1 + 1 + 1, 2, none⟩ = some (.slice i.RA i.R.length i.rc) ∧ w'.cell? ⟨w.heap.size + 1 + 1 + 1, 3, none⟩ = some (.slice i.I.A i.I.l.length i.I.c))) := fun w' hb => ⟨⟨cell_of_blk (blk_lat hkk1 hb) 0, cell_of_blk (blk_lat hkk1 hb) 1, cell_of_blk (blk_lat hkk1 hb) 2⟩, ⟨cell_of_blk (blk_lat hkk2 hb) 0, cell_of_blk (blk_lat hkk2 hb) 1, cell_of_blk (blk_lat hkk2 hb) 2⟩, ⟨cell_of_blk (blk_lat hkk3 hb) 0, cell_of_blk (blk_lat hkk3 hb) 1, cell_of_blk (blk_lat hkk3 hb) 2⟩, ⟨cell_of_blk (blk_lat hk4 hb) 0, cell_of_blk (blk_lat hk4 hb) 1, cell_of_blk (blk_lat hk4 hb) 2, cell_of_blk (blk_lat hk4 hb) 3⟩⟩
  have hin2 : ∀ w' (hb : Below W4.heap.size W4 w') k (hk : k < [T, D].length), ([T, D][k]).In w'.heap.size w' := fun w' hb k hk => by
    match k, hk with
    | 0, _ => exact (hT.later hB).later hb
    | 1, _ => exact (hD.later hB).later hb
  have hal : ∀ (w' : World) o, Below w'.heap.size w' (w'.alloc o) := fun w' o => (Below.refl _ w').alloc (Nat.le_refl _) o
  have hfw := fewL_any n i [T, D] (some ⟨W4.heap.size, 0, none⟩) 2 (W4.alloc (.cells #[.int .i64 T.op, .int .i64 T.n, .slice T.A T.args.length T.c, .int .i64 D.op, .int .i64 D.n, .slice D.A D.args.length D.c] 27)) ((hn.later hB).later (hal _ _)) ((hi.later hB).later (hal _ _)) (crow_new [T, D] (hin2 W4 (Below.refl _ _)) rfl rfl (Nat.le_refl _))
  have hf2 := fun w' (hb : Below W4.heap.size W4 w') h100 (hz : T.tr.size ≤ 400) (hz2 : D.tr.size ≤ 400) => (faultL_any n i [T, D] (some ⟨w'.heap.size, 0, none⟩) 2 (w'.alloc (.cells #[.int .i64 T.op, .int .i64 T.n, .slice T.A T.args.length T.c, .int .i64 D.op, .int .i64 D.n, .slice D.A D.args.length D.c] 27)) (((hn.later hB).later hb).later (hal _ _)) (((hi.later hB).later hb).later (hal _ _)) (crow_new [T, D] (hin2 w' hb) rfl rfl (by simp)) h100 (fun k hk => by
    match k, hk with
    | 0, _ => exact hz
    | 1, _ => exact hz2)).mono (R' := fun e w'' => e = .returned (.int .i64 (orF (checkF n T) (orF (checkF n D) (icheckF n i)))) ∧ Below w'.heap.size w' w'') fun e w'' h => ⟨by rw [h.1, fault2_eq], (hal w' _).trans (h.2.mono (by simp))⟩
  have haw := fun w1 (hb : Below W4.heap.size W4 w1) => awake3_any w1 ((hG.later hB).later hb)
  have hfT := fun w1 (hb : Below W4.heap.size W4 w1) => Fits_any T 150 w1 ((hT.later hB).later hb) (by omega) (by omega)
  have hfD := fun w1 (hb : Below W4.heap.size W4 w1) => Fits_any D 150 w1 ((hD.later hB).later hb) (by omega) (by omega)
  have hdT := fun w1 (hb : Below W4.heap.size W4 w1) => deepL_any T w1 ((hT.later hB).later hb)
  have hdD := fun w1 (hb : Below W4.heap.size W4 w1) => deepL_any D w1 ((hD.later hB).later hb)
  rw [fits_size] at hfT hfD
  obtain ⟨⟨a0, a1, a2⟩, ⟨a3, a4, a5⟩, ⟨a6, a7, a8⟩, a9, aa, ab, ac⟩ := hS W4 (Below.refl _ _)
  have HB := Lib.hid hB
  have HG := Lib.hid (hG.later hB)
  have HGD := Lib.hid (hGD.later hB)
  have HN := Lib.hid (hn.later hB)
  have HT := Lib.hid (hT.later hB)
  have HD := Lib.hid (hD.later hB)
  have HI := Lib.hid (hi.later hB)
  have HS := Lib.hid hS
  have HAW := Lib.hid haw
  have HF2 := Lib.hid hf2
  have HFT := Lib.hid hfT
  have HFD := Lib.hid hfD
  have HDT := Lib.hid hdT
  have HDD := Lib.hid hdD
  have HAL := Lib.hid hal
  have HRO := Lib.hid (fun w1 => rRole_any n r w1)
  simp only [NM.val, IN.val, MT.val, List.length_cons, List.length_nil, Nat.zero_add, Nat.reduceAdd] at hfw HF2 HFT HFD HDT HDD HRO ⊢
  rw [hs4] at hfw
  clear hB hG hGD hn hi hT hD hS haw hf2 hin2 hal hfT hfD hdT hdD hB1 hB2 hB3 hB4 hk1 hk2 hk3 hk4 hkk1 hkk2 hkk3
  go_enter Tryd.func6, Tryd.ntmps6
  go_wp2_with (go_at_call 22; refine hfw.mono ?_; clear hfw; rintro e w3 ⟨⟨b, rfl, hbf⟩, hb3'⟩; have hb3 : Below W4.heap.size W4 w3 := (HAL.out W4 _).trans (hb3'.mono (by simp)); obtain ⟨⟨c0, c1, c2⟩, ⟨c3, c4, c5⟩, ⟨c6, c7, c8⟩, c9, ca, cb, cc⟩ := HS.out w3 hb3; cases b)
  · go_wp2_with (go_at_call 23; refine (HAW.out w3 hb3).mono ?_; rintro e w4 ⟨rfl, hb4⟩)
    go_ret
    exact ⟨rfl, HB.out.trans ((hb3.trans (hb4.mono hb3.size)).mono (by omega))⟩
  · have hbf' : fewB n = true ∧ ∀ k (hk : k < [T, D].length), [T, D][k].tr.size ≤ 400 := by first | exact hbf rfl | exact hbf trivial
    have hl := few_lens3 hbf'.1
    have hzT : T.tr.size ≤ 400 := hbf'.2 0 (by simp)
    have hzD : D.tr.size ≤ 400 := hbf'.2 1 (by simp)
    have h100 : n.C.l.length ≤ 1000 ∧ n.R.l.length ≤ 1000 ∧ n.I.l.length ≤ 1000 := ⟨by omega, by omega, by omega⟩
    have HF2' := Lib.hid fun w' hb => HF2.out w' hb h100 hzT hzD
    have HRO' := Lib.hid fun w' => HRO.out w' h100.2.1
    have HDT' := Lib.hid fun w' hb => HDT.out w' hb (by omega)
    have HDD' := Lib.hid fun w' hb => HDD.out w' hb (by omega)
    clear HF2 HRO HDT HDD hb3' hbf
    obtain ⟨z, hze⟩ : ∃ z, orF (checkF n T) (orF (checkF n D) (icheckF n i)) = z := ⟨_, rfl⟩
    obtain ⟨ro, hro⟩ : ∃ b, (decide (0 ≤ r) && decide (r < 2 * (n.R.l.length : Int))) = b := ⟨_, rfl⟩
    obtain ⟨f1, hf1⟩ : ∃ b, decide ((T.tr.size : Int) ≤ 150) = b := ⟨_, rfl⟩
    obtain ⟨f2, hf2⟩ : ∃ b, decide ((D.tr.size : Int) ≤ 150) = b := ⟨_, rfl⟩
    obtain ⟨d1, hd1⟩ : ∃ b, decide (20 ≤ (T.tr.depth : Int)) = b := ⟨_, rfl⟩
    obtain ⟨d2, hd2⟩ : ∃ b, decide (20 ≤ (D.tr.depth : Int)) = b := ⟨_, rfl⟩
    rw [hze] at HF2'
    rw [hro] at HRO'
    rw [hf1] at HFT
    rw [hf2] at HFD
    rw [hd1] at HDT'
    rw [hd2] at HDD'
    have HZ := Lib.hid hze
    have HR1 := Lib.hid hro
    have HX1 := Lib.hid hf1
    have HX2 := Lib.hid hf2
    have HX3 := Lib.hid hd1
    have HX4 := Lib.hid hd2
    have HL := Lib.hid hl
    have HZT := Lib.hid hzT
    have HZD := Lib.hid hzD
    clear hze hro hf1 hf2 hd1 hd2 hl hzT hzD h100 hbf'
    by_cases hz : z = 0
    rotate_left
    · have q0 : (z != 0) = true := by simpa using hz
      clear hz
      go_wp2_with (first
        | (go_at_call 23; refine (HAW.out w4 hb4).mono ?_; rintro e wz ⟨rfl, hbz⟩)
        | (go_at_call 25; refine (HF2'.out w3 hb3).mono ?_; rintro e w4 ⟨rfl, hb4'⟩; have hb4 : Below W4.heap.size W4 w4 := hb3.trans (hb4'.mono hb3.size); obtain ⟨⟨d0, d1, d2⟩, ⟨d3, d4, d5⟩, ⟨d6, d7, d8⟩, d9, da, db, dc⟩ := HS.out w4 hb4))
      go_ret
      exact ⟨rfl, HB.out.trans ((hb4.trans (hbz.mono hb4.size)).mono (by omega))⟩
    subst hz
    cases ro
    · go_wp2_with (first
        | (go_at_call 23; refine (HAW.out w5 hb5).mono ?_; rintro e wz ⟨rfl, hbz⟩)
        | (go_at_call 27; refine (HRO'.out w4).mono ?_; rintro e w5 ⟨rfl, hb5'⟩; have hb5 : Below W4.heap.size W4 w5 := hb4.trans (hb5'.mono hb4.size); obtain ⟨⟨e0, e1, e2⟩, ⟨e3, e4, e5⟩, ⟨e6, e7, e8⟩, e9, ea, eb, ec⟩ := HS.out w5 hb5)
        | (go_at_call 25; refine (HF2'.out w3 hb3).mono ?_; rintro e w4 ⟨rfl, hb4'⟩; have hb4 : Below W4.heap.size W4 w4 := hb3.trans (hb4'.mono hb3.size); obtain ⟨⟨d0, d1, d2⟩, ⟨d3, d4, d5⟩, ⟨d6, d7, d8⟩, d9, da, db, dc⟩ := HS.out w4 hb4))
      go_ret
      exact ⟨rfl, HB.out.trans ((hb5.trans (hbz.mono hb5.size)).mono (by omega))⟩
    cases f1
    · go_wp2_with (first
        | (go_at_call 23; refine (HAW.out w6 hb6).mono ?_; rintro e wz ⟨rfl, hbz⟩)
        | (go_at_call 9; refine (HFT.out w5 hb5).mono ?_; rintro e w6 ⟨rfl, hb6'⟩; have hb6 : Below W4.heap.size W4 w6 := hb5.trans (hb6'.mono hb5.size); obtain ⟨⟨f0, f1, f2⟩, ⟨f3, f4, f5⟩, ⟨f6, f7, f8⟩, f9, fa, fb, fc⟩ := HS.out w6 hb6)
        | (go_at_call 27; refine (HRO'.out w4).mono ?_; rintro e w5 ⟨rfl, hb5'⟩; have hb5 : Below W4.heap.size W4 w5 := hb4.trans (hb5'.mono hb4.size); obtain ⟨⟨e0, e1, e2⟩, ⟨e3, e4, e5⟩, ⟨e6, e7, e8⟩, e9, ea, eb, ec⟩ := HS.out w5 hb5)
        | (go_at_call 25; refine (HF2'.out w3 hb3).mono ?_; rintro e w4 ⟨rfl, hb4'⟩; have hb4 : Below W4.heap.size W4 w4 := hb3.trans (hb4'.mono hb3.size); obtain ⟨⟨d0, d1, d2⟩, ⟨d3, d4, d5⟩, ⟨d6, d7, d8⟩, d9, da, db, dc⟩ := HS.out w4 hb4))
      go_ret
      exact ⟨rfl, HB.out.trans ((hb6.trans (hbz.mono hb6.size)).mono (by omega))⟩
    cases f2
    · go_wp2_with (first
        | (go_at_call 23; refine (HAW.out w7 hb7).mono ?_; rintro e wz ⟨rfl, hbz⟩)
        | (go_at_call 9; refine (HFD.out w6 hb6).mono ?_; rintro e w7 ⟨rfl, hb7'⟩; have hb7 : Below W4.heap.size W4 w7 := hb6.trans (hb7'.mono hb6.size); obtain ⟨⟨g0, g1, g2⟩, ⟨g3, g4, g5⟩, ⟨g6, g7, g8⟩, g9, ga, gb, gc⟩ := HS.out w7 hb7)
        | (go_at_call 9; refine (HFT.out w5 hb5).mono ?_; rintro e w6 ⟨rfl, hb6'⟩; have hb6 : Below W4.heap.size W4 w6 := hb5.trans (hb6'.mono hb5.size); obtain ⟨⟨f0, f1, f2⟩, ⟨f3, f4, f5⟩, ⟨f6, f7, f8⟩, f9, fa, fb, fc⟩ := HS.out w6 hb6)
        | (go_at_call 27; refine (HRO'.out w4).mono ?_; rintro e w5 ⟨rfl, hb5'⟩; have hb5 : Below W4.heap.size W4 w5 := hb4.trans (hb5'.mono hb4.size); obtain ⟨⟨e0, e1, e2⟩, ⟨e3, e4, e5⟩, ⟨e6, e7, e8⟩, e9, ea, eb, ec⟩ := HS.out w5 hb5)
        | (go_at_call 25; refine (HF2'.out w3 hb3).mono ?_; rintro e w4 ⟨rfl, hb4'⟩; have hb4 : Below W4.heap.size W4 w4 := hb3.trans (hb4'.mono hb3.size); obtain ⟨⟨d0, d1, d2⟩, ⟨d3, d4, d5⟩, ⟨d6, d7, d8⟩, d9, da, db, dc⟩ := HS.out w4 hb4))
      go_ret
      exact ⟨rfl, HB.out.trans ((hb7.trans (hbz.mono hb7.size)).mono (by omega))⟩
    cases d1
    rotate_left
    · go_wp2_with (first
        | (go_at_call 23; refine (HAW.out w8 hb8).mono ?_; rintro e wz ⟨rfl, hbz⟩)
        | (go_at_call 35; refine (HDT'.out w7 hb7).mono ?_; rintro e w8 ⟨rfl, hb8'⟩; have hb8 : Below W4.heap.size W4 w8 := hb7.trans (hb8'.mono hb7.size); obtain ⟨⟨h0, h1, h2⟩, ⟨h3, h4, h5⟩, ⟨h6, h7, h8⟩, h9, ha, hb, hc⟩ := HS.out w8 hb8)
        | (go_at_call 9; refine (HFD.out w6 hb6).mono ?_; rintro e w7 ⟨rfl, hb7'⟩; have hb7 : Below W4.heap.size W4 w7 := hb6.trans (hb7'.mono hb6.size); obtain ⟨⟨g0, g1, g2⟩, ⟨g3, g4, g5⟩, ⟨g6, g7, g8⟩, g9, ga, gb, gc⟩ := HS.out w7 hb7)
        | (go_at_call 9; refine (HFT.out w5 hb5).mono ?_; rintro e w6 ⟨rfl, hb6'⟩; have hb6 : Below W4.heap.size W4 w6 := hb5.trans (hb6'.mono hb5.size); obtain ⟨⟨f0, f1, f2⟩, ⟨f3, f4, f5⟩, ⟨f6, f7, f8⟩, f9, fa, fb, fc⟩ := HS.out w6 hb6)
        | (go_at_call 27; refine (HRO'.out w4).mono ?_; rintro e w5 ⟨rfl, hb5'⟩; have hb5 : Below W4.heap.size W4 w5 := hb4.trans (hb5'.mono hb4.size); obtain ⟨⟨e0, e1, e2⟩, ⟨e3, e4, e5⟩, ⟨e6, e7, e8⟩, e9, ea, eb, ec⟩ := HS.out w5 hb5)
        | (go_at_call 25; refine (HF2'.out w3 hb3).mono ?_; rintro e w4 ⟨rfl, hb4'⟩; have hb4 : Below W4.heap.size W4 w4 := hb3.trans (hb4'.mono hb3.size); obtain ⟨⟨d0, d1, d2⟩, ⟨d3, d4, d5⟩, ⟨d6, d7, d8⟩, d9, da, db, dc⟩ := HS.out w4 hb4))
      go_ret
      exact ⟨rfl, HB.out.trans ((hb8.trans (hbz.mono hb8.size)).mono (by omega))⟩
    cases d2
    rotate_left
    · go_wp2_with (first
        | (go_at_call 23; refine (HAW.out w9 hb9).mono ?_; rintro e wz ⟨rfl, hbz⟩)
        | (go_at_call 35; refine (HDD'.out w8 hb8).mono ?_; rintro e w9 ⟨rfl, hb9'⟩; have hb9 : Below W4.heap.size W4 w9 := hb8.trans (hb9'.mono hb8.size); obtain ⟨⟨j0, j1, j2⟩, ⟨j3, j4, j5⟩, ⟨j6, j7, j8⟩, j9, ja, jb, jc⟩ := HS.out w9 hb9)
        | (go_at_call 35; refine (HDT'.out w7 hb7).mono ?_; rintro e w8 ⟨rfl, hb8'⟩; have hb8 : Below W4.heap.size W4 w8 := hb7.trans (hb8'.mono hb7.size); obtain ⟨⟨h0, h1, h2⟩, ⟨h3, h4, h5⟩, ⟨h6, h7, h8⟩, h9, ha, hb, hc⟩ := HS.out w8 hb8)
        | (go_at_call 9; refine (HFD.out w6 hb6).mono ?_; rintro e w7 ⟨rfl, hb7'⟩; have hb7 : Below W4.heap.size W4 w7 := hb6.trans (hb7'.mono hb6.size); obtain ⟨⟨g0, g1, g2⟩, ⟨g3, g4, g5⟩, ⟨g6, g7, g8⟩, g9, ga, gb, gc⟩ := HS.out w7 hb7)
        | (go_at_call 9; refine (HFT.out w5 hb5).mono ?_; rintro e w6 ⟨rfl, hb6'⟩; have hb6 : Below W4.heap.size W4 w6 := hb5.trans (hb6'.mono hb5.size); obtain ⟨⟨f0, f1, f2⟩, ⟨f3, f4, f5⟩, ⟨f6, f7, f8⟩, f9, fa, fb, fc⟩ := HS.out w6 hb6)
        | (go_at_call 27; refine (HRO'.out w4).mono ?_; rintro e w5 ⟨rfl, hb5'⟩; have hb5 : Below W4.heap.size W4 w5 := hb4.trans (hb5'.mono hb4.size); obtain ⟨⟨e0, e1, e2⟩, ⟨e3, e4, e5⟩, ⟨e6, e7, e8⟩, e9, ea, eb, ec⟩ := HS.out w5 hb5)
        | (go_at_call 25; refine (HF2'.out w3 hb3).mono ?_; rintro e w4 ⟨rfl, hb4'⟩; have hb4 : Below W4.heap.size W4 w4 := hb3.trans (hb4'.mono hb3.size); obtain ⟨⟨d0, d1, d2⟩, ⟨d3, d4, d5⟩, ⟨d6, d7, d8⟩, d9, da, db, dc⟩ := HS.out w4 hb4))
      go_ret
      exact ⟨rfl, HB.out.trans ((hb9.trans (hbz.mono hb9.size)).mono (by omega))⟩
    go_wp2_with (first
      | (go_at_call 35; refine (HDD'.out w8 hb8).mono ?_; rintro e w9 ⟨rfl, hb9'⟩; have hb9 : Below W4.heap.size W4 w9 := hb8.trans (hb9'.mono hb8.size); obtain ⟨⟨j0, j1, j2⟩, ⟨j3, j4, j5⟩, ⟨j6, j7, j8⟩, j9, ja, jb, jc⟩ := HS.out w9 hb9)
      | (go_at_call 35; refine (HDT'.out w7 hb7).mono ?_; rintro e w8 ⟨rfl, hb8'⟩; have hb8 : Below W4.heap.size W4 w8 := hb7.trans (hb8'.mono hb7.size); obtain ⟨⟨h0, h1, h2⟩, ⟨h3, h4, h5⟩, ⟨h6, h7, h8⟩, h9, ha, hb, hc⟩ := HS.out w8 hb8)
      | (go_at_call 9; refine (HFD.out w6 hb6).mono ?_; rintro e w7 ⟨rfl, hb7'⟩; have hb7 : Below W4.heap.size W4 w7 := hb6.trans (hb7'.mono hb6.size); obtain ⟨⟨g0, g1, g2⟩, ⟨g3, g4, g5⟩, ⟨g6, g7, g8⟩, g9, ga, gb, gc⟩ := HS.out w7 hb7)
      | (go_at_call 9; refine (HFT.out w5 hb5).mono ?_; rintro e w6 ⟨rfl, hb6'⟩; have hb6 : Below W4.heap.size W4 w6 := hb5.trans (hb6'.mono hb5.size); obtain ⟨⟨f0, f1, f2⟩, ⟨f3, f4, f5⟩, ⟨f6, f7, f8⟩, f9, fa, fb, fc⟩ := HS.out w6 hb6)
      | (go_at_call 27; refine (HRO'.out w4).mono ?_; rintro e w5 ⟨rfl, hb5'⟩; have hb5 : Below W4.heap.size W4 w5 := hb4.trans (hb5'.mono hb4.size); obtain ⟨⟨e0, e1, e2⟩, ⟨e3, e4, e5⟩, ⟨e6, e7, e8⟩, e9, ea, eb, ec⟩ := HS.out w5 hb5)
      | (go_at_call 25; refine (HF2'.out w3 hb3).mono ?_; rintro e w4 ⟨rfl, hb4'⟩; have hb4 : Below W4.heap.size W4 w4 := hb3.trans (hb4'.mono hb3.size); obtain ⟨⟨d0, d1, d2⟩, ⟨d3, d4, d5⟩, ⟨d6, d7, d8⟩, d9, da, db, dc⟩ := HS.out w4 hb4))
    obtain ⟨hcT, hz'⟩ := orF_zero.1 HZ.out
    obtain ⟨hcD, hci⟩ := orF_zero.1 hz'
    obtain ⟨hok, z1, z256, zc, zr, zi, hls⟩ := icheck_zero hci
    obtain ⟨m, hm⟩ : ∃ m : Nat, i.size = m := ⟨i.size.toNat, by omega⟩
    have hR := HR1.out
    rw [Bool.and_eq_true, decide_eq_true_eq, decide_eq_true_eq] at hR
    obtain ⟨rn, rfl⟩ : ∃ rn : Nat, r = rn := ⟨r.toNat, by omega⟩
    have hl := HL.out
    have v : Val n i m := ⟨hok, hci, hm, by omega, by omega, hls, zc, zr, by omega, by omega, by omega⟩
    have hvT : validT i.C.length i.R.length T.tr = true := by rw [zc, zr, ← validB_eq]; exact (checkF_zero (by rw [hcT]; rfl)).2
    have hvD : validT i.C.length i.R.length D.tr = true := by rw [zc, zr, ← validB_eq]; exact (checkF_zero (by rw [hcD]; rfl)).2
    have hx1 : T.tr.size ≤ 150 := by have := of_decide_eq_true HX1.out; omega
    have hx2 : D.tr.size ≤ 150 := by have := of_decide_eq_true HX2.out; omega
    have hx3 : T.tr.depth < 20 := by have := of_decide_eq_false HX3.out; omega
    have hx4 : D.tr.depth < 20 := by have := of_decide_eq_false HX4.out; omega
    have hv3 : validT i.C.length i.R.length (.mk 3 0 [T.tr]) = true := valid_one hvT hx1 hx3 (.inl ⟨rfl, rfl⟩)
    have hv6 : validT i.C.length i.R.length (.mk 6 (rn : Nat) [T.tr]) = true := valid_one hvT hx1 hx3 (.inr ⟨.inl rfl, by omega, by omega⟩)
    have hv7 : validT i.C.length i.R.length (.mk 7 (rn : Nat) [T.tr]) = true := valid_one hvT hx1 hx3 (.inr ⟨.inr rfl, by omega, by omega⟩)
    have hv4 : validT i.C.length i.R.length (.mk 4 0 [T.tr, D.tr]) = true := valid_two hvT hvD hx1 hx2 hx3 hx4 (.inl rfl)
    have hv5 : validT i.C.length i.R.length (.mk 5 0 [T.tr, D.tr]) = true := valid_two hvT hvD hx1 hx2 hx3 hx4 (.inr rfl)
    have hsc := fun w' (hb : Below W4.heap.size W4 w') => set_of_tr v T w' (HG.out.later hb) (HN.out.later hb) (HT.out.later hb) (HI.out.later hb) (small_of_valid hvT).1 (small_of_valid hvT).2
    have hsd := fun w' (hb : Below W4.heap.size W4 w') => set_of_tr v D w' (HG.out.later hb) (HN.out.later hb) (HD.out.later hb) (HI.out.later hb) (small_of_valid hvD).1 (small_of_valid hvD).2
    have ho3 := fun g w' (hb : Below W4.heap.size W4 w') hk => (set_one v T 3 0 g w' (HG.out.later hb) (HN.out.later hb) (HT.out.later hb) (HI.out.later hb) hk hv3).mono (R' := RetB m (fun x => !semT i m T.tr x) w') fun e w'' h => h.ext fun x hx => by simp [semT, semL, comb, hx]
    have ho4 := fun g w' (hb : Below W4.heap.size W4 w') hk => (set_two v T D 4 0 g w' (HG.out.later hb) (HN.out.later hb) (HT.out.later hb) (HD.out.later hb) (HI.out.later hb) hk hv4).mono (R' := RetB m (fun x => semT i m T.tr x && semT i m D.tr x) w') fun e w'' h => h.ext fun x hx => by simp [semT, semL, comb]
    have ho5 := fun g w' (hb : Below W4.heap.size W4 w') hk => (set_two v T D 5 0 g w' (HG.out.later hb) (HN.out.later hb) (HT.out.later hb) (HD.out.later hb) (HI.out.later hb) hk hv5).mono (R' := RetB m (fun x => semT i m T.tr x || semT i m D.tr x) w') fun e w'' h => h.ext fun x hx => by simp [semT, semL, comb]
    have ho6 := fun g w' (hb : Below W4.heap.size W4 w') hk => (set_one v T 6 (rn : Nat) g w' (HG.out.later hb) (HN.out.later hb) (HT.out.later hb) (HI.out.later hb) hk hv6).mono (R' := RetB m (fun x => meetB (endsF i rn x) (semT i m T.tr)) w') fun e w'' h => h.ext fun x hx => by simp [semT, semL, comb, hx]
    have ho7 := fun g w' (hb : Below W4.heap.size W4 w') hk => (set_one v T 7 (rn : Nat) g w' (HG.out.later hb) (HN.out.later hb) (HT.out.later hb) (HI.out.later hb) hk hv7).mono (R' := RetB m (fun x => subB (endsF i rn x) (semT i m T.tr)) w') fun e w'' h => h.ext fun x hx => by simp [semT, semL, comb, hx]
    have hpa := fun w' (hb : Below W4.heap.size W4 w') => iPairs_ok n i m rn w' (HG.out.later hb) (HN.out.later hb) (HI.out.later hb) hm hci (by omega) (by omega) hls (by omega) (by omega) (by omega) (by omega)
    have hnm := fun g w' (hb : Below W4.heap.size W4 w') hg => normalL_any n T i m g w' v (HG.out.later hb) (HGD.out.later hb) (HN.out.later hb) (HT.out.later hb) (HI.out.later hb) (small_of_valid hvT).1 (small_of_valid hvT).2 hg
    have hps := fun (q : Nat → Bool) x (hx : x < m) => pairs_some (m := m) (F := endsF i rn) (q := q) (x := x) hx
    have hpl := fun (q : Nat → Bool) x (hx : x < m) => pairs_all (m := m) (F := endsF i rn) (q := q) (x := x) hx
    have hpm : ∀ z ∈ progP m (endsF i rn), ∃ ex ey : Nat, z.1 = (ex : Nat) ∧ z.2 = (ey : Nat) ∧ ex < m ∧ ey < m := fun z hz => by
      obtain ⟨a, b, ha, hb, hf, rfl⟩ := mem_progP.1 hz
      exact ⟨a, b, rfl, rfl, ha, (ends_lt hm hls hf).2⟩
    have hm256 : m ≤ 256 := by omega
    obtain ⟨p, hp⟩ : ∃ p, semT i m T.tr = p := ⟨_, rfl⟩
    obtain ⟨q, hq⟩ : ∃ q, semT i m D.tr = q := ⟨_, rfl⟩
    obtain ⟨F, hF⟩ : ∃ F, endsF i rn = F := ⟨_, rfl⟩
    obtain ⟨L, hLe⟩ : ∃ L, progP m F = L := ⟨_, rfl⟩
    simp only [hp, hq, hF] at hsc hsd ho3 ho4 ho5 ho6 ho7 hpa hnm hps hpl hpm
    simp only [hLe] at hpa hps hpl hpm
    have HSC := Lib.hid hsc
    have HSD := Lib.hid hsd
    have HO3 := Lib.hid ho3
    have HO4 := Lib.hid ho4
    have HO5 := Lib.hid ho5
    have HO6 := Lib.hid ho6
    have HO7 := Lib.hid ho7
    have HPA := Lib.hid hpa
    have HNM := Lib.hid hnm
    have HPS := Lib.hid hps
    have HPL := Lib.hid hpl
    have HPM := Lib.hid hpm
    have HM := Lib.hid hm
    simp only [NM.val, IN.val, MT.val] at HSC HSD HO3 HO4 HO5 HO6 HO7 HPA HNM
    clear hsc hsd ho3 ho4 ho5 ho6 ho7 hpa hnm hps hpl hpm hm hp hq hF hLe hv3 hv4 hv5 hv6 hv7 hvT hvD hx1 hx2 hx3 hx4 v hR hl hok z1 z256 zc zr zi hls hci hcD hcT hz' HZ HR1 HX1 HX2 HX3 HX4 HL HZT HZD HF2' HRO' HFT HFD HDT' HDD'
    have hd9 : Below W4.heap.size W4 w9.drew := hb9.drew
    have hb9s := hb9.size
    clear a0 a1 a2 a3 a4 a5 a6 a7 a8 a9 aa ab ac
    clear c0 c1 c2 c3 c4 c5 c6 c7 c8 c9 ca cb cc
    clear d0 d1 d2 d3 d4 d5 d6 d7 d8 d9 da db dc
    clear e0 e1 e2 e3 e4 e5 e6 e7 e8 e9 ea eb ec
    clear f0 f1 f2 f3 f4 f5 f6 f7 f8 f9 fa fb fc
    clear g0 g1 g2 g3 g4 g5 g6 g7 g8 g9 ga gb gc
    clear h0 h1 h2 h3 h4 h5 h6 h7 h8 h9 ha hb hc
    clear j0 j1 j2 j3 j4 j5 j6 j7 j8 j9 ja jb jc
    clear hb3 hb4 hb4' hb5 hb5' hb6 hb6' hb7 hb7' hb8 hb8' hb9'
    go_region_held (fun w' => ((w'.cell? ⟨w.heap.size, 0, none⟩ = some (.slice n.C.A n.C.l.length n.C.c) ∧ w'.cell? ⟨w.heap.size, 1, none⟩ = some (.slice n.R.A n.R.l.length n.R.c) ∧ w'.cell? ⟨w.heap.size, 2, none⟩ = some (.slice n.I.A n.I.l.length n.I.c)) ∧ (w'.cell? ⟨w.heap.size + 1, 0, none⟩ = some (.int .i64 T.op) ∧ w'.cell? ⟨w.heap.size + 1, 1, none⟩ = some (.int .i64 T.n) ∧ w'.cell? ⟨w.heap.size + 1, 2, none⟩ = some (.slice T.A T.args.length T.c)) ∧ (w'.cell? ⟨w.heap.size + 1 + 1, 0, none⟩ = some (.int .i64 D.op) ∧ w'.cell? ⟨w.heap.size + 1 + 1, 1, none⟩ = some (.int .i64 D.n) ∧ w'.cell? ⟨w.heap.size + 1 + 1, 2, none⟩ = some (.slice D.A D.args.length D.c)) ∧ (w'.cell? ⟨w.heap.size + 1 + 1 + 1, 0, none⟩ = some (.int .i64 i.size) ∧ w'.cell? ⟨w.heap.size + 1 + 1 + 1, 1, none⟩ = some (.slice i.CA i.C.length i.cc) ∧ w'.cell? ⟨w.heap.size + 1 + 1 + 1, 2, none⟩ = some (.slice i.RA i.R.length i.rc) ∧ w'.cell? ⟨w.heap.size + 1 + 1 + 1, 3, none⟩ = some (.slice i.I.A i.I.l.length i.I.c))))
      (first | exact HS.out _ hd9 | exact HS.out _ hb10 | exact HS.out _ hb11)
      (first
        | (go_at_call 36; refine (HSD.out w10 hb10).mono ?_; rintro e w11 ⟨g11, rfl, hg11, hbr11, hb11'⟩; have hb11 : Below W4.heap.size W4 w11 := hb10.trans (hb11'.mono hb10.size))
        | (go_at_call 36; refine (HSC.out w9.drew hd9).mono ?_; rintro e w10 ⟨g10, rfl, hg10, hbr10, hb10'⟩; have hb10 : Below W4.heap.size W4 w10 := hd9.trans (hb10'.mono hb9s)))
    have BR10 := Lib.hid (hbr10.later hb11')
    have BR11 := Lib.hid hbr11
    have HBT := Lib.hid (show ∀ w', Below w11.heap.size w11 w' → Below W4.heap.size W4 w' from fun w' h => hb11.trans (h.mono hb11.size))
    have HS11 := Lib.hid (show ∀ w', Below w11.heap.size w11 w' → ((w'.cell? ⟨w.heap.size, 0, none⟩ = some (.slice n.C.A n.C.l.length n.C.c) ∧ w'.cell? ⟨w.heap.size, 1, none⟩ = some (.slice n.R.A n.R.l.length n.R.c) ∧ w'.cell? ⟨w.heap.size, 2, none⟩ = some (.slice n.I.A n.I.l.length n.I.c)) ∧ (w'.cell? ⟨w.heap.size + 1, 0, none⟩ = some (.int .i64 T.op) ∧ w'.cell? ⟨w.heap.size + 1, 1, none⟩ = some (.int .i64 T.n) ∧ w'.cell? ⟨w.heap.size + 1, 2, none⟩ = some (.slice T.A T.args.length T.c)) ∧ (w'.cell? ⟨w.heap.size + 1 + 1, 0, none⟩ = some (.int .i64 D.op) ∧ w'.cell? ⟨w.heap.size + 1 + 1, 1, none⟩ = some (.int .i64 D.n) ∧ w'.cell? ⟨w.heap.size + 1 + 1, 2, none⟩ = some (.slice D.A D.args.length D.c)) ∧ (w'.cell? ⟨w.heap.size + 1 + 1 + 1, 0, none⟩ = some (.int .i64 i.size) ∧ w'.cell? ⟨w.heap.size + 1 + 1 + 1, 1, none⟩ = some (.slice i.CA i.C.length i.cc) ∧ w'.cell? ⟨w.heap.size + 1 + 1 + 1, 2, none⟩ = some (.slice i.RA i.R.length i.rc) ∧ w'.cell? ⟨w.heap.size + 1 + 1 + 1, 3, none⟩ = some (.slice i.I.A i.I.l.length i.I.c))) from fun w' h => HS.out w' (hb11.trans (h.mono hb11.size)))
    have h11 : Below w11.heap.size w11 w11 := Below.refl _ _
    obtain ⟨⟨a0, a1, a2⟩, ⟨a3, a4, a5⟩, ⟨a6, a7, a8⟩, a9, aa, ab, ac⟩ := HS11.out w11 h11
    clear hbr10 hbr11 hb10 hb10' hb11' hb9s hd9 hg10 hg11
    have hen := bools_nil
    go_wp2_with (go_at_call 24; refine (HPA.out w11 (HBT.out _ h11)).mono ?_; rintro e w12 ⟨vp, rfl, hop, h12⟩; obtain ⟨A12, k12, hv12, hin12⟩ := pl_of_owns hop; subst hv12; have HIN12 := Lib.hid hin12; clear hop hin12; obtain ⟨⟨c0, c1, c2⟩, ⟨c3, c4, c5⟩, ⟨c6, c7, c8⟩, c9, ca, cb, cc⟩ := HS11.out w12 h12)
    have BR10' := Lib.hid (BR10.out.later h12)
    clear BR10
    have BR10 := Lib.hid BR10'.out
    have BR11' := Lib.hid (BR11.out.later h12)
    clear BR11
    have BR11 := Lib.hid BR11'.out
    clear BR10' BR11'
    have HIN := Lib.hid HIN12.out
    clear HIN12
    have hs12 := h12.size
    have hd12 : Below w11.heap.size w11 w12.drew := h12.drew
    have ha12 : Below w11.heap.size w11 (w12.alloc (.cells #[.int .i64 T.op, .int .i64 T.n, .slice T.A T.args.length T.c] 27)).drew := (h12.alloc h12.size _).drew
    go_wp2_with fail
    clear c0 c1 c2 c3 c4 c5 c6 c7 c8 c9 ca cb cc
    go_region_held3 (fun w' => ((w'.cell? ⟨w.heap.size, 0, none⟩ = some (.slice n.C.A n.C.l.length n.C.c) ∧ w'.cell? ⟨w.heap.size, 1, none⟩ = some (.slice n.R.A n.R.l.length n.R.c) ∧ w'.cell? ⟨w.heap.size, 2, none⟩ = some (.slice n.I.A n.I.l.length n.I.c)) ∧ (w'.cell? ⟨w.heap.size + 1, 0, none⟩ = some (.int .i64 T.op) ∧ w'.cell? ⟨w.heap.size + 1, 1, none⟩ = some (.int .i64 T.n) ∧ w'.cell? ⟨w.heap.size + 1, 2, none⟩ = some (.slice T.A T.args.length T.c)) ∧ (w'.cell? ⟨w.heap.size + 1 + 1, 0, none⟩ = some (.int .i64 D.op) ∧ w'.cell? ⟨w.heap.size + 1 + 1, 1, none⟩ = some (.int .i64 D.n) ∧ w'.cell? ⟨w.heap.size + 1 + 1, 2, none⟩ = some (.slice D.A D.args.length D.c)) ∧ (w'.cell? ⟨w.heap.size + 1 + 1 + 1, 0, none⟩ = some (.int .i64 i.size) ∧ w'.cell? ⟨w.heap.size + 1 + 1 + 1, 1, none⟩ = some (.slice i.CA i.C.length i.cc) ∧ w'.cell? ⟨w.heap.size + 1 + 1 + 1, 2, none⟩ = some (.slice i.RA i.R.length i.rc) ∧ w'.cell? ⟨w.heap.size + 1 + 1 + 1, 3, none⟩ = some (.slice i.I.A i.I.l.length i.I.c))))
      (first | exact HS11.out _ hd12 | exact HS11.out _ ha12 | exact HS11.out _ hc13 | exact HS11.out _ hc14)
      (first
        | (go_at_call 36; refine (HO3.out w12.heap.size w13 (HBT.out _ hc13) hk13).mono ?_; rintro e w14 ⟨g14, rfl, hg14, hbr14, hx14'⟩; have hx14 : Below w12.heap.size w12 w14 := hx13.trans (hx14'.mono hx13.size); have hc14 : Below w11.heap.size w11 w14 := hc13.trans (hx14'.mono hc13.size))
        | (go_at_call 37; refine (Of_any' 3 0 _ 1 1 _).mono ?_; rintro e w13 ⟨rfl, hx13'⟩; have hx13 : Below w12.heap.size w12 w13 := (((Below.refl w12.heap.size w12).alloc (Nat.le_refl _) (.cells #[.int .i64 T.op, .int .i64 T.n, .slice T.A T.args.length T.c] 27)).drew).trans (hx13'.mono (by simp)); have hk13 : w13.heap[w12.heap.size]? = some (.cells #[.int .i64 T.op, .int .i64 T.n, .slice T.A T.args.length T.c] 27) := blk_lat (w := (w12.alloc (.cells #[.int .i64 T.op, .int .i64 T.n, .slice T.A T.args.length T.c] 27)).drew) (World.alloc_heap_new' w12 (.cells #[.int .i64 T.op, .int .i64 T.n, .slice T.A T.args.length T.c] 27)) hx13'; have hc13 : Below w11.heap.size w11 w13 := h12.trans (hx13.mono h12.size)))
    have h14 : Below w11.heap.size w11 w14 := hc14
    have BR10' := Lib.hid (BR10.out.later hx14)
    clear BR10
    have BR10 := Lib.hid BR10'.out
    clear BR10'
    have BR11' := Lib.hid (BR11.out.later hx14)
    clear BR11
    have BR11 := Lib.hid BR11'.out
    clear BR11'
    have HIN' := Lib.hid (HIN.out.below hx14.size hx14)
    clear HIN
    have HIN := Lib.hid HIN'.out
    clear HIN'
    have BR14 := Lib.hid hbr14
    clear hbr14 hg14 hx14 hx14' hx13 hx13' hk13 hc13 hc14 hd12 ha12 hs12
    have hs14 := h14.size
    have hd14 : Below w11.heap.size w11 w14.drew := h14.drew
    have ha14 : Below w11.heap.size w11 (w14.alloc (.cells #[.int .i64 T.op, .int .i64 T.n, .slice T.A T.args.length T.c, .int .i64 D.op, .int .i64 D.n, .slice D.A D.args.length D.c] 27)).drew := (h14.alloc h14.size _).drew
    obtain ⟨⟨c0, c1, c2⟩, ⟨c3, c4, c5⟩, ⟨c6, c7, c8⟩, c9, ca, cb, cc⟩ := HS11.out w14 h14
    go_wp2_with fail
    clear c0 c1 c2 c3 c4 c5 c6 c7 c8 c9 ca cb cc
    go_region_held3 (fun w' => ((w'.cell? ⟨w.heap.size, 0, none⟩ = some (.slice n.C.A n.C.l.length n.C.c) ∧ w'.cell? ⟨w.heap.size, 1, none⟩ = some (.slice n.R.A n.R.l.length n.R.c) ∧ w'.cell? ⟨w.heap.size, 2, none⟩ = some (.slice n.I.A n.I.l.length n.I.c)) ∧ (w'.cell? ⟨w.heap.size + 1, 0, none⟩ = some (.int .i64 T.op) ∧ w'.cell? ⟨w.heap.size + 1, 1, none⟩ = some (.int .i64 T.n) ∧ w'.cell? ⟨w.heap.size + 1, 2, none⟩ = some (.slice T.A T.args.length T.c)) ∧ (w'.cell? ⟨w.heap.size + 1 + 1, 0, none⟩ = some (.int .i64 D.op) ∧ w'.cell? ⟨w.heap.size + 1 + 1, 1, none⟩ = some (.int .i64 D.n) ∧ w'.cell? ⟨w.heap.size + 1 + 1, 2, none⟩ = some (.slice D.A D.args.length D.c)) ∧ (w'.cell? ⟨w.heap.size + 1 + 1 + 1, 0, none⟩ = some (.int .i64 i.size) ∧ w'.cell? ⟨w.heap.size + 1 + 1 + 1, 1, none⟩ = some (.slice i.CA i.C.length i.cc) ∧ w'.cell? ⟨w.heap.size + 1 + 1 + 1, 2, none⟩ = some (.slice i.RA i.R.length i.rc) ∧ w'.cell? ⟨w.heap.size + 1 + 1 + 1, 3, none⟩ = some (.slice i.I.A i.I.l.length i.I.c))))
      (first | exact HS11.out _ hd14 | exact HS11.out _ ha14 | exact HS11.out _ hc15 | exact HS11.out _ hc16)
      (first
        | (go_at_call 36; refine (HO4.out w14.heap.size w15 (HBT.out _ hc15) hk15).mono ?_; rintro e w16 ⟨g16, rfl, hg16, hbr16, hx16'⟩; have hx16 : Below w14.heap.size w14 w16 := hx15.trans (hx16'.mono hx15.size); have hc16 : Below w11.heap.size w11 w16 := hc15.trans (hx16'.mono hc15.size))
        | (go_at_call 37; refine (Of_any' 4 0 _ 2 2 _).mono ?_; rintro e w15 ⟨rfl, hx15'⟩; have hx15 : Below w14.heap.size w14 w15 := (((Below.refl w14.heap.size w14).alloc (Nat.le_refl _) (.cells #[.int .i64 T.op, .int .i64 T.n, .slice T.A T.args.length T.c, .int .i64 D.op, .int .i64 D.n, .slice D.A D.args.length D.c] 27)).drew).trans (hx15'.mono (by simp)); have hk15 : w15.heap[w14.heap.size]? = some (.cells #[.int .i64 T.op, .int .i64 T.n, .slice T.A T.args.length T.c, .int .i64 D.op, .int .i64 D.n, .slice D.A D.args.length D.c] 27) := blk_lat (w := (w14.alloc (.cells #[.int .i64 T.op, .int .i64 T.n, .slice T.A T.args.length T.c, .int .i64 D.op, .int .i64 D.n, .slice D.A D.args.length D.c] 27)).drew) (World.alloc_heap_new' w14 (.cells #[.int .i64 T.op, .int .i64 T.n, .slice T.A T.args.length T.c, .int .i64 D.op, .int .i64 D.n, .slice D.A D.args.length D.c] 27)) hx15'; have hc15 : Below w11.heap.size w11 w15 := h14.trans (hx15.mono h14.size)))
    have h16 : Below w11.heap.size w11 w16 := hc16
    have BR10' := Lib.hid (BR10.out.later hx16)
    clear BR10
    have BR10 := Lib.hid BR10'.out
    clear BR10'
    have BR11' := Lib.hid (BR11.out.later hx16)
    clear BR11
    have BR11 := Lib.hid BR11'.out
    clear BR11'
    have BR14' := Lib.hid (BR14.out.later hx16)
    clear BR14
    have BR14 := Lib.hid BR14'.out
    clear BR14'
    have HIN' := Lib.hid (HIN.out.below hx16.size hx16)
    clear HIN
    have HIN := Lib.hid HIN'.out
    clear HIN'
    have BR16 := Lib.hid hbr16
    clear hbr16 hg16 hx16 hx16' hx15 hx15' hk15 hc15 hc16 hd14 ha14 hs14
    have hs16 := h16.size
    have hd16 : Below w11.heap.size w11 w16.drew := h16.drew
    have ha16 : Below w11.heap.size w11 (w16.alloc (.cells #[.int .i64 T.op, .int .i64 T.n, .slice T.A T.args.length T.c, .int .i64 D.op, .int .i64 D.n, .slice D.A D.args.length D.c] 27)).drew := (h16.alloc h16.size _).drew
    obtain ⟨⟨c0, c1, c2⟩, ⟨c3, c4, c5⟩, ⟨c6, c7, c8⟩, c9, ca, cb, cc⟩ := HS11.out w16 h16
    go_wp2_with fail
    clear c0 c1 c2 c3 c4 c5 c6 c7 c8 c9 ca cb cc
    go_region_held3 (fun w' => ((w'.cell? ⟨w.heap.size, 0, none⟩ = some (.slice n.C.A n.C.l.length n.C.c) ∧ w'.cell? ⟨w.heap.size, 1, none⟩ = some (.slice n.R.A n.R.l.length n.R.c) ∧ w'.cell? ⟨w.heap.size, 2, none⟩ = some (.slice n.I.A n.I.l.length n.I.c)) ∧ (w'.cell? ⟨w.heap.size + 1, 0, none⟩ = some (.int .i64 T.op) ∧ w'.cell? ⟨w.heap.size + 1, 1, none⟩ = some (.int .i64 T.n) ∧ w'.cell? ⟨w.heap.size + 1, 2, none⟩ = some (.slice T.A T.args.length T.c)) ∧ (w'.cell? ⟨w.heap.size + 1 + 1, 0, none⟩ = some (.int .i64 D.op) ∧ w'.cell? ⟨w.heap.size + 1 + 1, 1, none⟩ = some (.int .i64 D.n) ∧ w'.cell? ⟨w.heap.size + 1 + 1, 2, none⟩ = some (.slice D.A D.args.length D.c)) ∧ (w'.cell? ⟨w.heap.size + 1 + 1 + 1, 0, none⟩ = some (.int .i64 i.size) ∧ w'.cell? ⟨w.heap.size + 1 + 1 + 1, 1, none⟩ = some (.slice i.CA i.C.length i.cc) ∧ w'.cell? ⟨w.heap.size + 1 + 1 + 1, 2, none⟩ = some (.slice i.RA i.R.length i.rc) ∧ w'.cell? ⟨w.heap.size + 1 + 1 + 1, 3, none⟩ = some (.slice i.I.A i.I.l.length i.I.c))))
      (first | exact HS11.out _ hd16 | exact HS11.out _ ha16 | exact HS11.out _ hc17 | exact HS11.out _ hc18)
      (first
        | (go_at_call 36; refine (HO5.out w16.heap.size w17 (HBT.out _ hc17) hk17).mono ?_; rintro e w18 ⟨g18, rfl, hg18, hbr18, hx18'⟩; have hx18 : Below w16.heap.size w16 w18 := hx17.trans (hx18'.mono hx17.size); have hc18 : Below w11.heap.size w11 w18 := hc17.trans (hx18'.mono hc17.size))
        | (go_at_call 37; refine (Of_any' 5 0 _ 2 2 _).mono ?_; rintro e w17 ⟨rfl, hx17'⟩; have hx17 : Below w16.heap.size w16 w17 := (((Below.refl w16.heap.size w16).alloc (Nat.le_refl _) (.cells #[.int .i64 T.op, .int .i64 T.n, .slice T.A T.args.length T.c, .int .i64 D.op, .int .i64 D.n, .slice D.A D.args.length D.c] 27)).drew).trans (hx17'.mono (by simp)); have hk17 : w17.heap[w16.heap.size]? = some (.cells #[.int .i64 T.op, .int .i64 T.n, .slice T.A T.args.length T.c, .int .i64 D.op, .int .i64 D.n, .slice D.A D.args.length D.c] 27) := blk_lat (w := (w16.alloc (.cells #[.int .i64 T.op, .int .i64 T.n, .slice T.A T.args.length T.c, .int .i64 D.op, .int .i64 D.n, .slice D.A D.args.length D.c] 27)).drew) (World.alloc_heap_new' w16 (.cells #[.int .i64 T.op, .int .i64 T.n, .slice T.A T.args.length T.c, .int .i64 D.op, .int .i64 D.n, .slice D.A D.args.length D.c] 27)) hx17'; have hc17 : Below w11.heap.size w11 w17 := h16.trans (hx17.mono h16.size)))
    have h18 : Below w11.heap.size w11 w18 := hc18
    have BR10' := Lib.hid (BR10.out.later hx18)
    clear BR10
    have BR10 := Lib.hid BR10'.out
    clear BR10'
    have BR11' := Lib.hid (BR11.out.later hx18)
    clear BR11
    have BR11 := Lib.hid BR11'.out
    clear BR11'
    have BR14' := Lib.hid (BR14.out.later hx18)
    clear BR14
    have BR14 := Lib.hid BR14'.out
    clear BR14'
    have BR16' := Lib.hid (BR16.out.later hx18)
    clear BR16
    have BR16 := Lib.hid BR16'.out
    clear BR16'
    have HIN' := Lib.hid (HIN.out.below hx18.size hx18)
    clear HIN
    have HIN := Lib.hid HIN'.out
    clear HIN'
    have BR18 := Lib.hid hbr18
    clear hbr18 hg18 hx18 hx18' hx17 hx17' hk17 hc17 hc18 hd16 ha16 hs16
    have hs18 := h18.size
    have hd18 : Below w11.heap.size w11 w18.drew := h18.drew
    have ha18 : Below w11.heap.size w11 (w18.alloc (.cells #[.int .i64 T.op, .int .i64 T.n, .slice T.A T.args.length T.c] 27)).drew := (h18.alloc h18.size _).drew
    obtain ⟨⟨c0, c1, c2⟩, ⟨c3, c4, c5⟩, ⟨c6, c7, c8⟩, c9, ca, cb, cc⟩ := HS11.out w18 h18
    go_wp2_with fail
    clear c0 c1 c2 c3 c4 c5 c6 c7 c8 c9 ca cb cc
    go_region_held3 (fun w' => ((w'.cell? ⟨w.heap.size, 0, none⟩ = some (.slice n.C.A n.C.l.length n.C.c) ∧ w'.cell? ⟨w.heap.size, 1, none⟩ = some (.slice n.R.A n.R.l.length n.R.c) ∧ w'.cell? ⟨w.heap.size, 2, none⟩ = some (.slice n.I.A n.I.l.length n.I.c)) ∧ (w'.cell? ⟨w.heap.size + 1, 0, none⟩ = some (.int .i64 T.op) ∧ w'.cell? ⟨w.heap.size + 1, 1, none⟩ = some (.int .i64 T.n) ∧ w'.cell? ⟨w.heap.size + 1, 2, none⟩ = some (.slice T.A T.args.length T.c)) ∧ (w'.cell? ⟨w.heap.size + 1 + 1, 0, none⟩ = some (.int .i64 D.op) ∧ w'.cell? ⟨w.heap.size + 1 + 1, 1, none⟩ = some (.int .i64 D.n) ∧ w'.cell? ⟨w.heap.size + 1 + 1, 2, none⟩ = some (.slice D.A D.args.length D.c)) ∧ (w'.cell? ⟨w.heap.size + 1 + 1 + 1, 0, none⟩ = some (.int .i64 i.size) ∧ w'.cell? ⟨w.heap.size + 1 + 1 + 1, 1, none⟩ = some (.slice i.CA i.C.length i.cc) ∧ w'.cell? ⟨w.heap.size + 1 + 1 + 1, 2, none⟩ = some (.slice i.RA i.R.length i.rc) ∧ w'.cell? ⟨w.heap.size + 1 + 1 + 1, 3, none⟩ = some (.slice i.I.A i.I.l.length i.I.c))))
      (first | exact HS11.out _ hd18 | exact HS11.out _ ha18 | exact HS11.out _ hc19 | exact HS11.out _ hc20)
      (first
        | (go_at_call 36; refine (HO6.out w18.heap.size w19 (HBT.out _ hc19) hk19).mono ?_; rintro e w20 ⟨g20, rfl, hg20, hbr20, hx20'⟩; have hx20 : Below w18.heap.size w18 w20 := hx19.trans (hx20'.mono hx19.size); have hc20 : Below w11.heap.size w11 w20 := hc19.trans (hx20'.mono hc19.size))
        | (go_at_call 37; refine (Of_any' 6 (rn : Nat) _ 1 1 _).mono ?_; rintro e w19 ⟨rfl, hx19'⟩; have hx19 : Below w18.heap.size w18 w19 := (((Below.refl w18.heap.size w18).alloc (Nat.le_refl _) (.cells #[.int .i64 T.op, .int .i64 T.n, .slice T.A T.args.length T.c] 27)).drew).trans (hx19'.mono (by simp)); have hk19 : w19.heap[w18.heap.size]? = some (.cells #[.int .i64 T.op, .int .i64 T.n, .slice T.A T.args.length T.c] 27) := blk_lat (w := (w18.alloc (.cells #[.int .i64 T.op, .int .i64 T.n, .slice T.A T.args.length T.c] 27)).drew) (World.alloc_heap_new' w18 (.cells #[.int .i64 T.op, .int .i64 T.n, .slice T.A T.args.length T.c] 27)) hx19'; have hc19 : Below w11.heap.size w11 w19 := h18.trans (hx19.mono h18.size)))
    have h20 : Below w11.heap.size w11 w20 := hc20
    have BR10' := Lib.hid (BR10.out.later hx20)
    clear BR10
    have BR10 := Lib.hid BR10'.out
    clear BR10'
    have BR11' := Lib.hid (BR11.out.later hx20)
    clear BR11
    have BR11 := Lib.hid BR11'.out
    clear BR11'
    have BR14' := Lib.hid (BR14.out.later hx20)
    clear BR14
    have BR14 := Lib.hid BR14'.out
    clear BR14'
    have BR16' := Lib.hid (BR16.out.later hx20)
    clear BR16
    have BR16 := Lib.hid BR16'.out
    clear BR16'
    have BR18' := Lib.hid (BR18.out.later hx20)
    clear BR18
    have BR18 := Lib.hid BR18'.out
    clear BR18'
    have HIN' := Lib.hid (HIN.out.below hx20.size hx20)
    clear HIN
    have HIN := Lib.hid HIN'.out
    clear HIN'
    have BR20 := Lib.hid hbr20
    clear hbr20 hg20 hx20 hx20' hx19 hx19' hk19 hc19 hc20 hd18 ha18 hs18
    have hs20 := h20.size
    have hd20 : Below w11.heap.size w11 w20.drew := h20.drew
    have ha20 : Below w11.heap.size w11 (w20.alloc (.cells #[.int .i64 T.op, .int .i64 T.n, .slice T.A T.args.length T.c] 27)).drew := (h20.alloc h20.size _).drew
    obtain ⟨⟨c0, c1, c2⟩, ⟨c3, c4, c5⟩, ⟨c6, c7, c8⟩, c9, ca, cb, cc⟩ := HS11.out w20 h20
    go_wp2_with fail
    clear c0 c1 c2 c3 c4 c5 c6 c7 c8 c9 ca cb cc
    go_region_held3 (fun w' => ((w'.cell? ⟨w.heap.size, 0, none⟩ = some (.slice n.C.A n.C.l.length n.C.c) ∧ w'.cell? ⟨w.heap.size, 1, none⟩ = some (.slice n.R.A n.R.l.length n.R.c) ∧ w'.cell? ⟨w.heap.size, 2, none⟩ = some (.slice n.I.A n.I.l.length n.I.c)) ∧ (w'.cell? ⟨w.heap.size + 1, 0, none⟩ = some (.int .i64 T.op) ∧ w'.cell? ⟨w.heap.size + 1, 1, none⟩ = some (.int .i64 T.n) ∧ w'.cell? ⟨w.heap.size + 1, 2, none⟩ = some (.slice T.A T.args.length T.c)) ∧ (w'.cell? ⟨w.heap.size + 1 + 1, 0, none⟩ = some (.int .i64 D.op) ∧ w'.cell? ⟨w.heap.size + 1 + 1, 1, none⟩ = some (.int .i64 D.n) ∧ w'.cell? ⟨w.heap.size + 1 + 1, 2, none⟩ = some (.slice D.A D.args.length D.c)) ∧ (w'.cell? ⟨w.heap.size + 1 + 1 + 1, 0, none⟩ = some (.int .i64 i.size) ∧ w'.cell? ⟨w.heap.size + 1 + 1 + 1, 1, none⟩ = some (.slice i.CA i.C.length i.cc) ∧ w'.cell? ⟨w.heap.size + 1 + 1 + 1, 2, none⟩ = some (.slice i.RA i.R.length i.rc) ∧ w'.cell? ⟨w.heap.size + 1 + 1 + 1, 3, none⟩ = some (.slice i.I.A i.I.l.length i.I.c))))
      (first | exact HS11.out _ hd20 | exact HS11.out _ ha20 | exact HS11.out _ hc21 | exact HS11.out _ hc22)
      (first
        | (go_at_call 36; refine (HO7.out w20.heap.size w21 (HBT.out _ hc21) hk21).mono ?_; rintro e w22 ⟨g22, rfl, hg22, hbr22, hx22'⟩; have hx22 : Below w20.heap.size w20 w22 := hx21.trans (hx22'.mono hx21.size); have hc22 : Below w11.heap.size w11 w22 := hc21.trans (hx22'.mono hc21.size))
        | (go_at_call 37; refine (Of_any' 7 (rn : Nat) _ 1 1 _).mono ?_; rintro e w21 ⟨rfl, hx21'⟩; have hx21 : Below w20.heap.size w20 w21 := (((Below.refl w20.heap.size w20).alloc (Nat.le_refl _) (.cells #[.int .i64 T.op, .int .i64 T.n, .slice T.A T.args.length T.c] 27)).drew).trans (hx21'.mono (by simp)); have hk21 : w21.heap[w20.heap.size]? = some (.cells #[.int .i64 T.op, .int .i64 T.n, .slice T.A T.args.length T.c] 27) := blk_lat (w := (w20.alloc (.cells #[.int .i64 T.op, .int .i64 T.n, .slice T.A T.args.length T.c] 27)).drew) (World.alloc_heap_new' w20 (.cells #[.int .i64 T.op, .int .i64 T.n, .slice T.A T.args.length T.c] 27)) hx21'; have hc21 : Below w11.heap.size w11 w21 := h20.trans (hx21.mono h20.size)))
    have h22 : Below w11.heap.size w11 w22 := hc22
    have BR10' := Lib.hid (BR10.out.later hx22)
    clear BR10
    have BR10 := Lib.hid BR10'.out
    clear BR10'
    have BR11' := Lib.hid (BR11.out.later hx22)
    clear BR11
    have BR11 := Lib.hid BR11'.out
    clear BR11'
    have BR14' := Lib.hid (BR14.out.later hx22)
    clear BR14
    have BR14 := Lib.hid BR14'.out
    clear BR14'
    have BR16' := Lib.hid (BR16.out.later hx22)
    clear BR16
    have BR16 := Lib.hid BR16'.out
    clear BR16'
    have BR18' := Lib.hid (BR18.out.later hx22)
    clear BR18
    have BR18 := Lib.hid BR18'.out
    clear BR18'
    have BR20' := Lib.hid (BR20.out.later hx22)
    clear BR20
    have BR20 := Lib.hid BR20'.out
    clear BR20'
    have HIN' := Lib.hid (HIN.out.below hx22.size hx22)
    clear HIN
    have HIN := Lib.hid HIN'.out
    clear HIN'
    have BR22 := Lib.hid hbr22
    clear hbr22 hg22 hx22 hx22' hx21 hx21' hk21 hc21 hc22 hd20 ha20 hs20
    obtain ⟨⟨c0, c1, c2⟩, ⟨c3, c4, c5⟩, ⟨c6, c7, c8⟩, c9, ca, cb, cc⟩ := HS11.out w22 h22
    clear c0 c1 c2 c3 c4 c5 c6 c7 c8 ca cb cc
    have hLl : L.length ≤ 9223372036854775807 := Nat.le_trans HIN.out.1 HIN.out.2.1
    go_wp2_with fail
    clear hen c9
    have HC22 := Lib.hid h22
    clear h22 h11 h12 h14 h16 h18 h20
    go_loopw [145] (fun i' wr => ∃ x : Nat, x ≤ m ∧ i' = .int .i64 (x : Nat) ∧ Below w22.heap.size w22 wr) (fun i' _ => m - (intOf i').toNat)
    case atStart => exact ⟨0, Nat.zero_le _, rfl, Below.refl _ _⟩
    case round =>
      rename World => wr
      obtain ⟨x, hx, rfl, hbw⟩ := hrel
      by_cases hlt : x < m
      · have h0X : (0 : Int) ≤ x := by omega
        have hlX : (x : Int) < m := by omega
        have hlS : (x : Int) < i.size := by rw [HM.out]; omega
        have RBR10 := Lib.hid (BR10.out.later hbw)
        have RBR11 := Lib.hid (BR11.out.later hbw)
        have RBR14 := Lib.hid (BR14.out.later hbw)
        have RBR16 := Lib.hid (BR16.out.later hbw)
        have RBR18 := Lib.hid (BR18.out.later hbw)
        have RBR20 := Lib.hid (BR20.out.later hbw)
        have RBR22 := Lib.hid (BR22.out.later hbw)
        have HINr := Lib.hid (HIN.out.below hbw.size hbw)
        have HBr := Lib.hid hbw
        clear hbw
        go_wp2_with fail
        obtain ⟨wo, rfl⟩ : ∃ wo : World, wo = wr := ⟨_, rfl⟩
        go_loopw [21, 22, 150] (fun o e j' wr => ∃ j : Nat, j ≤ L.length ∧ o = .bool (someJ0 L p j x) ∧ e = .bool (allJ0 L p j x) ∧ j' = .int .i64 (j : Nat) ∧ Below wo.heap.size wo wr) (fun _ _ j' _ => L.length - (intOf j').toNat)
        case atStart => exact ⟨0, Nat.zero_le _, rfl, rfl, rfl, Below.refl _ _⟩
        case round =>
          rename World => wi
          obtain ⟨j, hj, rfl, rfl, rfl, hbi⟩ := hrel
          by_cases hltj : j < L.length
          · obtain ⟨b2, off2, hSA, hgg2, d2⟩ := PL.In.cells (HINr.out.below hbi.size hbi) (by dsimp only; omega)
            dsimp only at hSA d2
            obtain ⟨d2a, d2b⟩ := d2 j hltj
            obtain ⟨ex, ey, he1, he2, hexm, heym⟩ := HPM.out _ (List.getElem_mem hltj)
            have HN1 := Lib.hid (someJ0_next (q := p) hltj he1 he2 x)
            have HN2 := Lib.hid (allJ0_next (q := p) hltj he1 he2 x)
            rw [he1] at d2a
            rw [he2] at d2b
            obtain ⟨so, hso⟩ : ∃ b, someJ0 L p j x = b := ⟨_, rfl⟩
            obtain ⟨se, hse⟩ : ∃ b, allJ0 L p j x = b := ⟨_, rfl⟩
            rw [hso] at HN1 ⊢
            rw [hse] at HN2 ⊢
            obtain ⟨Wp, hWp, hBp, hsp, hkp⟩ := newBlk wi _ rfl #[.int .i64 (ex : Nat), .int .i64 (ey : Nat)] 75
            have hbp : Below wo.heap.size wo Wp := hbi.trans (hBp.mono hbi.size)
            have p0 := cell_of_blk hkp 0
            have p1 := cell_of_blk hkp 1
            simp only [List.getElem?_toArray, List.getElem?_cons_zero, List.getElem?_cons_succ] at p0 p1
            have ca := (RBR10.out.later hbp).cell heym
            have HBP := Lib.hid hbp
            have h0J : (0 : Int) ≤ j := by omega
            have hlJ : (j : Int) < L.length := by omega
            have h0E : (0 : Int) ≤ ey := by omega
            have hlE : (ey : Int) < m := by omega
            rw [hSA]
            clear d2 he1 he2 hso hse hbp hbi hBp hkp hSA
            by_cases hxe : ex = x
            · have q0 : ((ex : Int) == (x : Int)) = true := by simp [hxe]
              have HXE := Lib.hid hxe
              clear hxe
              rcases so <;> rcases se
              all_goals
                go_wp2_with fail
                go_quiet (fail)
                go_wp2_with fail
                go_roundw
                case rel => exact ⟨j + 1, by omega, by rw [HN1.out]; simp [HXE.out], by rw [HN2.out]; simp [HXE.out], by go_num, below_drewN HBP.out _⟩
                case measure => simp [intOf]; omega
            · have q0 : ((ex : Int) == (x : Int)) = false := by simp; omega
              have HXE := Lib.hid hxe
              clear hxe
              go_wp2_with fail
              go_roundw
              case rel => exact ⟨j + 1, by omega, by rw [HN1.out]; simp [Ne.symm HXE.out], by rw [HN2.out]; simp [Ne.symm HXE.out], by go_num, HBP.out⟩
              case measure => simp [intOf]; omega
          · have hjl : j = L.length := by omega
            have hm1 : someJ0 L p j x = meetB (F x) p := by rw [hjl, ← HPS.out p x hlt, someJ0, List.take_length]
            have hm2 : allJ0 L p j x = subB (F x) p := by rw [hjl, ← HPL.out p x hlt, allJ0, List.take_length]
            rw [hm1, hm2]
            have ca := (RBR10.out.later hbi).cell hlt
            have cb := (RBR11.out.later hbi).cell hlt
            have c14 := (RBR14.out.later hbi).cell hlt
            have c16 := (RBR16.out.later hbi).cell hlt
            have c18 := (RBR18.out.later hbi).cell hlt
            have c20 := (RBR20.out.later hbi).cell hlt
            have c22 := (RBR22.out.later hbi).cell hlt
            generalize meetB (F x) p = o1 at c20 ⊢
            generalize subB (F x) p = o2 at c22 ⊢
            have HBI := Lib.hid hbi
            clear hbi hm1 hm2 hjl
            generalize q x = qx at cb c16 c18
            rcases hpx : p x
            all_goals
              rw [hpx] at ca c14 c16 c18
              clear hpx
              simp only [Bool.not_false, Bool.not_true, Bool.false_and, Bool.true_and, Bool.false_or, Bool.true_or] at c14 c16 c18
              go_wp2_with fail
              go_quiet (fail)
              go_wp2_with fail
              go_roundw
              case rel => exact ⟨x + 1, by omega, by go_num, below_drewN (HBr.out.trans (HBI.out.mono HBr.out.size)) _⟩
              case measure => simp [intOf]; omega
      · have hlS : i.size ≤ (x : Int) := by rw [HM.out]; omega
        have hcr : Below w11.heap.size w11 wr := HC22.out.trans (hbw.mono HC22.out.size)
        obtain ⟨⟨c0, c1, c2⟩, ⟨c3, c4, c5⟩, ⟨c6, c7, c8⟩, c9, ca, cb, cc⟩ := HS11.out wr hcr
        have hbr4 := HBT.out wr hcr
        have hnm := HNM.out g10 wr hbr4 (BR10.out.later hbw)
        have HBW := Lib.hid hbw
        have HNMr := Lib.hid hnm
        clear hbw hnm
        go_wp2_with (first
          | (go_at_call 23; refine (HAW.out w23 hb23).mono ?_; rintro e w24 ⟨rfl, hb24'⟩)
          | (go_at_call 38; refine HNMr.out.mono ?_; rintro e w23 ⟨rfl, hb23'⟩; have hb23 : Below W4.heap.size W4 w23 := hbr4.trans (hb23'.mono hbr4.size)))
        go_ret
        exact ⟨rfl, HB.out.trans ((hb23.trans (hb24'.mono hb23.size)).mono (by omega))⟩
end Go.Proofs.YtneegmhcmegijaaDoor
