import Derived.Test.YtndkcimajeofcaaGreatDoorG3b2f17e259
import Derived.Deep.RegionHeld3
import Derived.Deep.DrawnRows
namespace Go.Proofs.YtndkcimajeofcaaGreatDoor
open Go.RowKit
attribute [local go_sem ↓] Go.wp_at_zero Go.wp_at_succ

/-- The mark at a node. -/
def markT : Tr → Option Tr
  | .mk op n args => if op = 0 then some (.mk 0 n []) else if op = 6 ∨ op = 7 then some (.mk 6 n [nnfHead args (decide (op = 7))]) else none
/-- A node with one part of one's own. -/
theorem new_one {lo g : Nat} {w : World} {T : MT} (op n : Int) (hT : New lo w T) (hk : w.heap[g]? = some (.cells #[.int .i64 T.op, .int .i64 T.n, .slice T.A T.args.length T.c] 33)) (hg : lo ≤ g) : New lo w (.mk op n (some ⟨g, 0, none⟩) 1 [T]) := by
  refine ⟨?_, ?_⟩
  · rw [MT.In]
    refine ⟨by simp, by omega, ⟨by simp [MT.cs], fun _ => ⟨g, 0, rfl, (Array.getElem?_eq_some_iff.1 hk).1, fun j hj => ?_⟩⟩, by rw [MT.InAll]; exact ⟨hT.1, by rw [MT.InAll]; trivial⟩⟩
    rw [cell_of_blk hk, Nat.zero_add]
    have : ([T].flatMap MT.cs) = [.int .i64 T.op, .int .i64 T.n, .slice T.A T.args.length T.c] := by simp [MT.cs]
    rw [this, List.getElem?_toArray]
  · rw [Mine, MT.All]
    exact ⟨fun _ => ⟨g, 0, rfl, hg, _, hk⟩, by rw [MT.Alls]; exact ⟨hT.2, by rw [MT.Alls]; trivial⟩⟩
theorem tr_one (op n : Int) (A : Option Addr) (T : MT) : (MT.mk op n A 1 [T]).tr = .mk op n [T.tr] := by rw [MT.tr, MT.trs, MT.trs]
theorem tr_leaf (op n : Int) (A : Option Addr) (c : Nat) : (MT.mk op n A c []).tr = .mk op n [] := by rw [MT.tr, MT.trs]
/-- What markAt hands back. -/
def RetMark (o : Option Tr) (w : World) (e : Ending) (w' : World) : Prop :=
  ∃ T' : MT, e = .returned (.tuple #[.agg #[.int .i64 T'.op, .int .i64 T'.n, .slice T'.A T'.args.length T'.c], .bool o.isSome]) ∧ T'.tr = o.getD zeroTr ∧ New w.heap.size w' T' ∧ Below w.heap.size w w'

theorem blk_lat0 {b : Nat} {w w' : World} {o : Obj} (h : w.heap[b]? = some o) (hb : Below w.heap.size w w') : w'.heap[b]? = some o := (hb.block b (Array.getElem?_eq_some_iff.1 h).1).trans h
theorem res3 {w : World} {b : Nat} {x0 x1 x2 : Value} {t : TypeId} (h : w.heap[b]? = some (.cells #[x0, x1, x2] t)) : (w.cell? ⟨b, 0, none⟩ = some x0 ∧ w.cell? ⟨b, 1, none⟩ = some x1 ∧ w.cell? ⟨b, 2, none⟩ = some x2) ∧ w.frozen? ⟨b, 0, none⟩ = false ∧ w.frozen? ⟨b, 1, none⟩ = false ∧ w.frozen? ⟨b, 2, none⟩ = false :=
  ⟨⟨cell_of_blk h 0, cell_of_blk h 1, cell_of_blk h 2⟩, frozen_of_blk h 0, frozen_of_blk h 1, frozen_of_blk h 2⟩

set_option maxRecDepth 100000 in
set_option maxHeartbeats 4000000 in
theorem markAt_any (T : MT) (w : World) (hG : G w) (hT : T.In w.heap.size w) (hwf : T.WF) : Calls Tryz.prog 111 #[T.val] w (RetMark (markT T.tr) w) := by
  obtain ⟨op, nn, A, c, args⟩ := T
  rw [MT.WF] at hwf
  obtain ⟨w0, w8, war, wfs⟩ := hwf
  rw [MT.In] at hT
  obtain ⟨hlc, hc, hr, hrow⟩ := hT
  obtain ⟨W1, hW1, hB1, hs1, hk1⟩ := newBlk w _ rfl #[.int .i64 op, .int .i64 nn, .slice A args.length c] 33
  obtain ⟨W2, hW2, hB2, hs2, hk2⟩ := newBlk W1 _ hs1 #[.int .i64 0, .int .i64 0, .slice none 0 0] 33
  have hB : Below w.heap.size w W2 := hB1.trans (hB2.mono (by omega))
  have hk12 := (hB2.block w.heap.size (by omega)).trans hk1
  obtain ⟨⟨c0, c1, c2⟩, -⟩ := res3 hk12
  obtain ⟨⟨r0, r1, r2⟩, f0, f1, f2⟩ := res3 hk2
  have hM : markT (MT.mk op nn A c args).tr = if op = 0 then some (.mk 0 nn []) else if op = 6 ∨ op = 7 then some (.mk 6 nn [nnfHead (args.map MT.tr) (decide (op = 7))]) else none := by rw [MT.tr_mk, markT]
  simp only [MT.val, MT.op, MT.n, MT.A, MT.args, MT.c]
  have HB := Lib.hid hB
  clear hB1 hB2 hk1
  rcases q0 : (op == 0)
  · have hop0 : op ≠ 0 := by simpa using q0
    rw [if_neg hop0] at hM
    by_cases h67 : op = 6 ∨ op = 7
    · rw [if_pos h67] at hM
      have hlen : args.length = 1 := by
        have : arityF op = 1 := by unfold arityF; rw [if_pos (by omega)]
        omega
      obtain ⟨T0, rfl⟩ := List.length_eq_one_iff.1 hlen
      rw [show [T0].length = 1 from rfl] at hW1 c2
      have hM2 : markT (MT.mk op nn A c [T0]).tr = some (.mk 6 nn [nnf T0.tr (decide (op = 7))]) := hM
      obtain ⟨ab, aoff, rfl, hab, g0, g1, g2⟩ := elem3 hr HB.out (show 0 < [T0].length by simp)
      simp only [Nat.zero_mul, Nat.add_zero, List.getElem_cons_zero] at g0 g1 g2
      have hS : ∀ w', Below W2.heap.size W2 w' → (w'.cell? ⟨w.heap.size, 0, none⟩ = some (.int .i64 op) ∧ w'.cell? ⟨w.heap.size, 1, none⟩ = some (.int .i64 nn) ∧ w'.cell? ⟨w.heap.size, 2, none⟩ = some (.slice (some ⟨ab, aoff, none⟩) 1 c)) ∧ (w'.cell? ⟨ab, aoff, none⟩ = some (.int .i64 T0.op) ∧ w'.cell? ⟨ab, aoff + 1, none⟩ = some (.int .i64 T0.n) ∧ w'.cell? ⟨ab, aoff + 2, none⟩ = some (.slice T0.A T0.args.length T0.c)) := fun w' hb => by
        have hs := HB.out.size
        exact ⟨⟨(hb.cell (p := ⟨w.heap.size, 0, none⟩) (by simp; omega)).trans c0, (hb.cell (p := ⟨w.heap.size, 1, none⟩) (by simp; omega)).trans c1, (hb.cell (p := ⟨w.heap.size, 2, none⟩) (by simp; omega)).trans c2⟩, (hb.cell (p := ⟨ab, aoff, none⟩) (by simp; omega)).trans g0, (hb.cell (p := ⟨ab, aoff + 1, none⟩) (by simp; omega)).trans g1, (hb.cell (p := ⟨ab, aoff + 2, none⟩) (by simp; omega)).trans g2⟩
      have HS := Lib.hid hS
      have hd : Below W2.heap.size W2 W2.drew := (Below.refl _ W2).drew
      have hG2 := hG.later HB.out.drew
      have hT0 : T0.In W2.drew.heap.size W2.drew := (MT.InAll.at_ hrow 0 (by simp)).later HB.out.drew
      have hw0 : T0.WF := MT.WFs.at_ wfs 0 (by simp)
      have HK2 := Lib.hid hk2
      have fin : ∀ (Ti : MT) (W4 W5 : World), Below W2.heap.size W2 W4 → New W2.heap.size W4 Ti → Ti.tr = nnf T0.tr (decide (op = 7)) → W4.alloc (.cells #[.int .i64 Ti.op, .int .i64 Ti.n, .slice Ti.A Ti.args.length Ti.c] 33) = W5 →
          (W5.cell? ⟨w.heap.size + 1, 0, none⟩ = some (.int .i64 0) ∧ W5.cell? ⟨w.heap.size + 1, 1, none⟩ = some (.int .i64 0) ∧ W5.cell? ⟨w.heap.size + 1, 2, none⟩ = some (.slice none 0 0)) ∧ (W5.frozen? ⟨w.heap.size + 1, 0, none⟩ = false ∧ W5.frozen? ⟨w.heap.size + 1, 1, none⟩ = false ∧ W5.frozen? ⟨w.heap.size + 1, 2, none⟩ = false) ∧
          ∃ w6, (((W5.setCell ⟨w.heap.size + 1, 0, none⟩ (.int .i64 6)).setCell ⟨w.heap.size + 1, 1, none⟩ (.int .i64 nn)).setCell ⟨w.heap.size + 1, 2, none⟩ (.slice (some ⟨W4.heap.size, 0, none⟩) 1 1)) = w6 ∧ (w6.cell? ⟨w.heap.size + 1, 0, none⟩ = some (.int .i64 6) ∧ w6.cell? ⟨w.heap.size + 1, 1, none⟩ = some (.int .i64 nn) ∧ w6.cell? ⟨w.heap.size + 1, 2, none⟩ = some (.slice (some ⟨W4.heap.size, 0, none⟩) 1 1)) ∧
            RetMark (some (.mk 6 nn [nnf T0.tr (decide (op = 7))])) w (.returned (.tuple #[.agg #[.int .i64 6, .int .i64 nn, .slice (some ⟨W4.heap.size, 0, none⟩) 1 1], .bool true])) w6 := by
        intro Ti W4 W5 hb4 hnew htr hW5
        have s3 := hb4.size
        have hB5 : Below W4.heap.size W4 W5 := by rw [← hW5]; exact (Below.refl _ _).alloc (Nat.le_refl _) _
        have hk5 : W5.heap[W4.heap.size]? = some (.cells #[.int .i64 Ti.op, .int .i64 Ti.n, .slice Ti.A Ti.args.length Ti.c] 33) := by rw [← hW5]; exact World.alloc_heap_new' W4 _
        have hB25 : Below W2.heap.size W2 W5 := hb4.trans (hB5.mono s3)
        have hkR : W5.heap[w.heap.size + 1]? = some (.cells #[.int .i64 0, .int .i64 0, .slice none 0 0] 33) := (hB25.block _ (by omega)).trans HK2.out
        have hn5 : New W2.heap.size W5 (.mk 6 nn (some ⟨W4.heap.size, 0, none⟩) 1 [Ti]) := new_one 6 nn (hnew.later hB5) hk5 s3
        obtain ⟨q1, q2⟩ := store3 hkR (.int .i64 6) (.int .i64 nn) (.slice (some ⟨W4.heap.size, 0, none⟩) 1 1)
        obtain ⟨t0, -⟩ := res3 q1
        obtain ⟨u0, u1⟩ := res3 hkR
        refine ⟨u0, u1, _, rfl, t0, .mk 6 nn (some ⟨W4.heap.size, 0, none⟩) 1 [Ti], rfl, by rw [tr_one, htr]; rfl, ?_, ?_⟩
        · have := hn5.grown q2 (MT.All.imp (fun b hb e => by have : b = w.heap.size + 1 := Option.some.inj e; have := hb.1; omega) _ hn5.2)
          exact this.lo (by omega)
        · exact (HB.out.trans (hB25.mono (by omega))).trans (below_grown q2 (by omega) (by have := HB.out.size; have := hB25.size; omega))
      have HFIN := Lib.hid fin
      rw [hM2]
      rcases q6 : (op == 6)
      · have h7 : op = 7 := by
          rcases h67 with h | h
          · exact absurd h (by simpa using q6)
          · exact h
        subst h7
        have hpu := fun w' (hb : Below W2.heap.size W2 w') => pushed_any T0 true w' hw0 ((hG.later HB.out).later hb) ((((MT.InAll.at_ hrow 0 (by simp)).later HB.out)).later hb)
        simp only [MT.val] at hpu
        have HPU := Lib.hid hpu
        have hz := newBlk W2.drew _ rfl #[.int .i64 0, .int .i64 0, .slice none 0 0] 33
        have hda : Below W2.heap.size W2 (W2.drew.alloc (.cells #[.int .i64 0, .int .i64 0, .slice none 0 0] 33)) := hd.alloc (Nat.le_refl _) _
        clear hpu hS hM hM2 hr hrow hG hk12 hk2 hG2 hT0 hw0 wfs war fin q0 hop0 w0 w8 q6 h67 hz
        go_enter Tryz.func111, Tryz.ntmps111
        go_wp2_with fail
        clear c0 c1 c2 g0 g1 g2 r0 r1 r2 f0 f1 f2
        go_region_held3 (fun w' => (w'.cell? ⟨w.heap.size, 0, none⟩ = some (.int .i64 7) ∧ w'.cell? ⟨w.heap.size, 1, none⟩ = some (.int .i64 nn) ∧ w'.cell? ⟨w.heap.size, 2, none⟩ = some (.slice (some ⟨ab, aoff, none⟩) 1 c)) ∧ (w'.cell? ⟨ab, aoff, none⟩ = some (.int .i64 T0.op) ∧ w'.cell? ⟨ab, aoff + 1, none⟩ = some (.int .i64 T0.n) ∧ w'.cell? ⟨ab, aoff + 2, none⟩ = some (.slice T0.A T0.args.length T0.c)))
          (first | exact HS.out _ hd | exact HS.out _ hda | exact HS.out _ hb3 | exact HS.out _ hb4 | exact HS.out _ hb5)
          (first | (go_at_call 121; first | (refine (HPU.out W2.drew hd).mono ?_; rintro e w3 ⟨Ti, rfl, htr, hnew, hb3'⟩; have HTr := Lib.hid htr; clear htr; have hb3 : Below W2.heap.size W2 w3 := hd.trans hb3'; obtain ⟨W4, hW4, hB4, hs4, hkB⟩ := newBlk w3 _ rfl #[.int .i64 0, .int .i64 0, .slice none 0 0] 33; have hb4 := hb3.trans (hB4.mono hb3.size); obtain ⟨⟨d0, d1, d2⟩, e0, e1, e2⟩ := res3 hkB; obtain ⟨x1, x2⟩ := (store3 hkB (.int .i64 Ti.op) (.int .i64 Ti.n) (.slice Ti.A Ti.args.length Ti.c)); have hb5 := hb4.trans (below_grown x2 hb3.size hb4.size)) | (refine (HPU.out _ hda).mono ?_; rintro e w3 ⟨Ti, rfl, htr, hnew, hb3'⟩; have HTr := Lib.hid htr; clear htr; have hb3 : Below W2.heap.size W2 w3 := hda.trans (hb3'.mono hda.size); have hkB : w3.heap[w.heap.size + 1 + 1]? = some (.cells #[.int .i64 0, .int .i64 0, .slice none 0 0] 33) := (by rw [← hs2]; exact blk_lat0 (World.alloc_heap_new' W2.drew _) hb3'); obtain ⟨⟨d0, d1, d2⟩, e0, e1, e2⟩ := res3 hkB; obtain ⟨x1, x2⟩ := (store3 hkB (.int .i64 Ti.op) (.int .i64 Ti.n) (.slice Ti.A Ti.args.length Ti.c)); have hb5 := hb3.trans (below_grown x2 (Nat.le_of_eq hs2) hb3.size))))
        · have hn6 := ((hnew.later hB4).grown x2 (MT.All.imp (fun b hb e => by have : b = w3.heap.size := Option.some.inj e; omega) Ti (MT.In.all Ti hnew.1)))
          generalize ((W4.setCell ⟨w3.heap.size, 0, none⟩ (.int .i64 Ti.op)).setCell ⟨w3.heap.size, 1, none⟩ (.int .i64 Ti.n)).setCell ⟨w3.heap.size, 2, none⟩ (.slice Ti.A Ti.args.length Ti.c) = W6 at x1 x2 hb5 hn6 ⊢
          obtain ⟨⟨p0, p1, p2⟩, -⟩ := res3 x1
          obtain ⟨⟨c0, c1, c2⟩, -⟩ := HS.out W6 hb5
          obtain ⟨W7, hW7, hB7, hs7, hk7⟩ := newBlk W6 _ rfl #[.int .i64 Ti.op, .int .i64 Ti.n, .slice Ti.A Ti.args.length Ti.c] 33
          obtain ⟨⟨u0, u1, u2⟩, ⟨v0, v1, v2⟩, w8, hw8, ⟨t0, t1, t2⟩, hret⟩ := HFIN.out Ti W6 W7 hb5 (hn6.lo (by show W2.heap.size ≤ _; exact Nat.le_refl _)) HTr.out hW7
          have HRET := Lib.hid hret
          clear hret x1 x2 d0 d1 d2 e0 e1 e2 hs4
          go_wp2
          try rw [hw8]
          exact bodyPost_ret (v := _) (by simp [results, Tryz.f111, go_sem, t0, t1, t2]) rfl HRET.out
        · have hn6 := (hnew.grown x2 (MT.All.imp (fun b hb e => by have : b = w.heap.size + 1 + 1 := Option.some.inj e; have := hb.1; have h9 : (W2.drew.alloc (.cells #[.int .i64 0, .int .i64 0, .slice none 0 0] 33)).heap.size = W2.heap.size + 1 := (by simp); omega) Ti hnew.2))
          generalize ((w3.setCell ⟨w.heap.size + 1 + 1, 0, none⟩ (.int .i64 Ti.op)).setCell ⟨w.heap.size + 1 + 1, 1, none⟩ (.int .i64 Ti.n)).setCell ⟨w.heap.size + 1 + 1, 2, none⟩ (.slice Ti.A Ti.args.length Ti.c) = W6 at x1 x2 hb5 hn6 ⊢
          obtain ⟨⟨p0, p1, p2⟩, -⟩ := res3 x1
          obtain ⟨⟨c0, c1, c2⟩, -⟩ := HS.out W6 hb5
          obtain ⟨W7, hW7, hB7, hs7, hk7⟩ := newBlk W6 _ rfl #[.int .i64 Ti.op, .int .i64 Ti.n, .slice Ti.A Ti.args.length Ti.c] 33
          obtain ⟨⟨u0, u1, u2⟩, ⟨v0, v1, v2⟩, w8, hw8, ⟨t0, t1, t2⟩, hret⟩ := HFIN.out Ti W6 W7 hb5 (hn6.lo hda.size) HTr.out hW7
          have HRET := Lib.hid hret
          clear hret x1 x2 d0 d1 d2 e0 e1 e2
          go_wp2
          try rw [hw8]
          exact bodyPost_ret (v := _) (by simp [results, Tryz.f111, go_sem, t0, t1, t2]) rfl HRET.out
      · have h6 : op = 6 := by simpa using q6
        subst h6
        have hpu := fun w' (hb : Below W2.heap.size W2 w') => pushed_any T0 false w' hw0 ((hG.later HB.out).later hb) ((((MT.InAll.at_ hrow 0 (by simp)).later HB.out)).later hb)
        simp only [MT.val] at hpu
        have HPU := Lib.hid hpu
        have hz := newBlk W2.drew _ rfl #[.int .i64 0, .int .i64 0, .slice none 0 0] 33
        have hda : Below W2.heap.size W2 (W2.drew.alloc (.cells #[.int .i64 0, .int .i64 0, .slice none 0 0] 33)) := hd.alloc (Nat.le_refl _) _
        clear hpu hS hM hM2 hr hrow hG hk12 hk2 hG2 hT0 hw0 wfs war fin q0 hop0 w0 w8 q6 h67 hz
        go_enter Tryz.func111, Tryz.ntmps111
        go_wp2_with fail
        clear c0 c1 c2 g0 g1 g2 r0 r1 r2 f0 f1 f2
        go_region_held3 (fun w' => (w'.cell? ⟨w.heap.size, 0, none⟩ = some (.int .i64 6) ∧ w'.cell? ⟨w.heap.size, 1, none⟩ = some (.int .i64 nn) ∧ w'.cell? ⟨w.heap.size, 2, none⟩ = some (.slice (some ⟨ab, aoff, none⟩) 1 c)) ∧ (w'.cell? ⟨ab, aoff, none⟩ = some (.int .i64 T0.op) ∧ w'.cell? ⟨ab, aoff + 1, none⟩ = some (.int .i64 T0.n) ∧ w'.cell? ⟨ab, aoff + 2, none⟩ = some (.slice T0.A T0.args.length T0.c)))
          (first | exact HS.out _ hd | exact HS.out _ hda | exact HS.out _ hb3 | exact HS.out _ hb4 | exact HS.out _ hb5)
          (first | (go_at_call 121; first | (refine (HPU.out W2.drew hd).mono ?_; rintro e w3 ⟨Ti, rfl, htr, hnew, hb3'⟩; have HTr := Lib.hid htr; clear htr; have hb3 : Below W2.heap.size W2 w3 := hd.trans hb3'; obtain ⟨W4, hW4, hB4, hs4, hkB⟩ := newBlk w3 _ rfl #[.int .i64 0, .int .i64 0, .slice none 0 0] 33; have hb4 := hb3.trans (hB4.mono hb3.size); obtain ⟨⟨d0, d1, d2⟩, e0, e1, e2⟩ := res3 hkB; obtain ⟨x1, x2⟩ := (store3 hkB (.int .i64 Ti.op) (.int .i64 Ti.n) (.slice Ti.A Ti.args.length Ti.c)); have hb5 := hb4.trans (below_grown x2 hb3.size hb4.size)) | (refine (HPU.out _ hda).mono ?_; rintro e w3 ⟨Ti, rfl, htr, hnew, hb3'⟩; have HTr := Lib.hid htr; clear htr; have hb3 : Below W2.heap.size W2 w3 := hda.trans (hb3'.mono hda.size); have hkB : w3.heap[w.heap.size + 1 + 1]? = some (.cells #[.int .i64 0, .int .i64 0, .slice none 0 0] 33) := (by rw [← hs2]; exact blk_lat0 (World.alloc_heap_new' W2.drew _) hb3'); obtain ⟨⟨d0, d1, d2⟩, e0, e1, e2⟩ := res3 hkB; obtain ⟨x1, x2⟩ := (store3 hkB (.int .i64 Ti.op) (.int .i64 Ti.n) (.slice Ti.A Ti.args.length Ti.c)); have hb5 := hb3.trans (below_grown x2 (Nat.le_of_eq hs2) hb3.size))))
        · have hn6 := ((hnew.later hB4).grown x2 (MT.All.imp (fun b hb e => by have : b = w3.heap.size := Option.some.inj e; omega) Ti (MT.In.all Ti hnew.1)))
          generalize ((W4.setCell ⟨w3.heap.size, 0, none⟩ (.int .i64 Ti.op)).setCell ⟨w3.heap.size, 1, none⟩ (.int .i64 Ti.n)).setCell ⟨w3.heap.size, 2, none⟩ (.slice Ti.A Ti.args.length Ti.c) = W6 at x1 x2 hb5 hn6 ⊢
          obtain ⟨⟨p0, p1, p2⟩, -⟩ := res3 x1
          obtain ⟨⟨c0, c1, c2⟩, -⟩ := HS.out W6 hb5
          obtain ⟨W7, hW7, hB7, hs7, hk7⟩ := newBlk W6 _ rfl #[.int .i64 Ti.op, .int .i64 Ti.n, .slice Ti.A Ti.args.length Ti.c] 33
          obtain ⟨⟨u0, u1, u2⟩, ⟨v0, v1, v2⟩, w8, hw8, ⟨t0, t1, t2⟩, hret⟩ := HFIN.out Ti W6 W7 hb5 (hn6.lo (by show W2.heap.size ≤ _; exact Nat.le_refl _)) HTr.out hW7
          have HRET := Lib.hid hret
          clear hret x1 x2 d0 d1 d2 e0 e1 e2 hs4
          go_wp2
          try rw [hw8]
          exact bodyPost_ret (v := _) (by simp [results, Tryz.f111, go_sem, t0, t1, t2]) rfl HRET.out
        · have hn6 := (hnew.grown x2 (MT.All.imp (fun b hb e => by have : b = w.heap.size + 1 + 1 := Option.some.inj e; have := hb.1; have h9 : (W2.drew.alloc (.cells #[.int .i64 0, .int .i64 0, .slice none 0 0] 33)).heap.size = W2.heap.size + 1 := (by simp); omega) Ti hnew.2))
          generalize ((w3.setCell ⟨w.heap.size + 1 + 1, 0, none⟩ (.int .i64 Ti.op)).setCell ⟨w.heap.size + 1 + 1, 1, none⟩ (.int .i64 Ti.n)).setCell ⟨w.heap.size + 1 + 1, 2, none⟩ (.slice Ti.A Ti.args.length Ti.c) = W6 at x1 x2 hb5 hn6 ⊢
          obtain ⟨⟨p0, p1, p2⟩, -⟩ := res3 x1
          obtain ⟨⟨c0, c1, c2⟩, -⟩ := HS.out W6 hb5
          obtain ⟨W7, hW7, hB7, hs7, hk7⟩ := newBlk W6 _ rfl #[.int .i64 Ti.op, .int .i64 Ti.n, .slice Ti.A Ti.args.length Ti.c] 33
          obtain ⟨⟨u0, u1, u2⟩, ⟨v0, v1, v2⟩, w8, hw8, ⟨t0, t1, t2⟩, hret⟩ := HFIN.out Ti W6 W7 hb5 (hn6.lo hda.size) HTr.out hW7
          have HRET := Lib.hid hret
          clear hret x1 x2 d0 d1 d2 e0 e1 e2
          go_wp2
          try rw [hw8]
          exact bodyPost_ret (v := _) (by simp [results, Tryz.f111, go_sem, t0, t1, t2]) rfl HRET.out
    · have hM3 : markT (MT.mk op nn A c args).tr = none := by rw [hM, if_neg h67]
      have q6 : (op == 6) = false := by simp; omega
      have q7 : (op == 7) = false := by simp; omega
      obtain ⟨x1, x2⟩ := store3 hk2 (.int .i64 0) (.int .i64 0) (.slice none 0 0)
      obtain ⟨⟨t0, t1, t2⟩, -⟩ := res3 x1
      rw [hM3]
      have HX := Lib.hid (HB.out.trans (below_grown x2 (by omega) HB.out.size))
      clear x1 x2 hM hM3 hr hrow
      go_enter Tryz.func111, Tryz.ntmps111
      go_wp2
      exact bodyPost_ret (v := .tuple #[.agg #[.int .i64 0, .int .i64 0, .slice none 0 0], .bool false]) (by simp [results, Tryz.f111, go_sem, t0, t1, t2]) rfl ⟨zeroMT, rfl, rfl, new_zero _ _, HX.out⟩
  · have h0 : op = 0 := by simpa using q0
    subst h0
    rw [if_pos rfl] at hM
    rw [hM]
    obtain ⟨x1, x2⟩ := store3 hk2 (.int .i64 0) (.int .i64 nn) (.slice none 0 0)
    obtain ⟨⟨t0, t1, t2⟩, -⟩ := res3 x1
    have HX := Lib.hid (HB.out.trans (below_grown x2 (by omega) HB.out.size))
    clear x1 x2 hM hr hrow
    go_enter Tryz.func111, Tryz.ntmps111
    go_wp2
    exact bodyPost_ret (v := .tuple #[.agg #[.int .i64 0, .int .i64 nn, .slice none 0 0], .bool true]) (by simp [results, Tryz.f111, go_sem, t0, t1, t2]) rfl ⟨leafMT 0 nn, rfl, by rw [leafMT, tr_leaf]; rfl, leaf_new _ _ _ _, HX.out⟩
end Go.Proofs.YtndkcimajeofcaaGreatDoor

namespace Go.Proofs.YtndkcimajeofcaaGreatDoor
open Go.RowKit
attribute [local go_sem ↓] Go.wp_at_zero Go.wp_at_succ

mutual
/-- The nodes of a tree, in preorder. -/
def MT.nodes : MT → List MT
  | .mk op n A c args => .mk op n A c args :: MT.nodesL args
def MT.nodesL : List MT → List MT
  | [] => []
  | t :: ts => MT.nodes t ++ MT.nodesL ts
end
theorem MT.nodesL_take : ∀ (args : List MT) (k : Nat) (hk : k < args.length), MT.nodesL (args.take (k + 1)) = MT.nodesL (args.take k) ++ MT.nodes args[k]
  | [], k, hk => absurd hk (Nat.not_lt_zero _)
  | t :: ts, k, hk => by
    cases k with
    | zero => simp [MT.nodesL]
    | succ k => simp only [List.take_succ_cons, MT.nodesL, List.getElem_cons_succ, List.append_assoc]; rw [MT.nodesL_take ts k (by simpa using hk)]
theorem MT.nodesL_split : ∀ (args : List MT) (k : Nat) (hk : k < args.length), MT.nodesL args = MT.nodesL (args.take k) ++ (MT.nodes args[k] ++ MT.nodesL (args.drop (k + 1)))
  | [], k, hk => absurd hk (Nat.not_lt_zero _)
  | t :: ts, k, hk => by
    cases k with
    | zero => simp [MT.nodesL]
    | succ k => simp only [List.take_succ_cons, MT.nodesL, List.getElem_cons_succ, List.append_assoc, List.drop_succ_cons]; rw [MT.nodesL_split ts k (by simpa using hk)]
/-- WHAT A WALK OVER A TREE ASKS OF WHAT IS DONE AT ITS NODES: J holds ahead of a node, K is what a step keeps. -/
structure VisJ (n₀ : Nat) (J : List MT → World → Prop) (K : World → World → Prop) : Prop where
  refl : ∀ W, K W W
  trans : ∀ {A B C}, K A B → K B C → K A C
  below : ∀ {W W'}, K W W' → Below n₀ W W'
  box : ∀ pre W cs t, n₀ ≤ W.heap.size → J pre W → J pre (W.alloc (.cells cs t)) ∧ K W (W.alloc (.cells cs t))
  keep : ∀ pre W cs t W2, n₀ ≤ W.heap.size → J pre W → K (W.alloc (.cells cs t)) W2 → W2.heap[W.heap.size]? = some (.cells cs t)
/-- What a walk hands back: true, and all nodes are done; or false, and the last one that was done said so. -/
def RetVis (J Jx : List MT → World → Prop) (K : World → World → Prop) (pre l : List MT) (W : World) (e : Ending) (W' : World) : Prop :=
  (e = .returned (.bool true) ∧ J (pre ++ l) W' ∧ K W W') ∨ (e = .returned (.bool false) ∧ ∃ q, q <+: l ∧ Jx (pre ++ q) W' ∧ K W W')
/-- What is done at a node. -/
def DoAt (n₀ : Nat) (w0 : World) (cf : FuncId) (cap : Value) (J Jx : List MT → World → Prop) (K : World → World → Prop) (P : MT → Prop) : Prop :=
  ∀ pre x W, J pre W → P x → x.In n₀ w0 → Below n₀ w0 W → n₀ ≤ W.heap.size → Calls Tryz.prog cf #[x.val, cap] W fun e W' => (e = .returned (.bool true) ∧ J (pre ++ [x]) W' ∧ K W W') ∨ (e = .returned (.bool false) ∧ Jx (pre ++ [x]) W' ∧ K W W')

mutual
/-- P holds at every node. -/
def MT.Each (P : MT → Prop) : MT → Prop
  | .mk op n A c args => P (.mk op n A c args) ∧ MT.Eachs P args
def MT.Eachs (P : MT → Prop) : List MT → Prop
  | [] => True
  | t :: ts => MT.Each P t ∧ MT.Eachs P ts
end
theorem MT.Eachs.at_ {P : MT → Prop} : ∀ {ts : List MT}, MT.Eachs P ts → ∀ (k : Nat) (hk : k < ts.length), MT.Each P ts[k]
  | t :: ts, h, k, hk => by
    rw [MT.Eachs] at h
    cases k with
    | zero => exact h.1
    | succ k => exact MT.Eachs.at_ h.2 k (by simpa using hk)

set_option maxRecDepth 100000 in
set_option maxHeartbeats 4000000 in
theorem mvisit_any {n₀ : Nat} {w0 : World} {cf : FuncId} {cap : Value} {J Jx : List MT → World → Prop} {K : World → World → Prop} {P : MT → Prop} (hV : VisJ n₀ J K) (hcf : ∀ args w, (callFunc cf args).run Tryz.prog w = .ok (.enter cf args) w) (hdo : DoAt n₀ w0 cf cap J Jx K P) (T : MT) :
    ∀ (pre : List MT) (W : World), T.In n₀ w0 → T.Each P → Below n₀ w0 W → n₀ ≤ W.heap.size → J pre W →
      Calls Tryz.prog 112 #[T.val, .func (.func cf) #[] #[cap]] W (RetVis J Jx K pre T.nodes W) := by
  induction T using MT.induct with
  | h op nn A c args ih =>
    intro pre W hin hE hW hn0 hJ
    have hTin := hin
    rw [MT.In] at hin
    obtain ⟨hlc, hc, hr, hrow⟩ := hin
    rw [MT.Each] at hE
    obtain ⟨hP, hEs⟩ := hE
    have hsz : args.length ≤ 9223372036854775807 := by omega
    obtain ⟨W1, hW1, hB1, hs1, c0, c1, c2, hblk⟩ := box3 W (Value.int IntKind.i64 op) (Value.int IntKind.i64 nn) (Value.slice A args.length c) 33
    have hb := hV.box pre W #[Value.int IntKind.i64 op, Value.int IntKind.i64 nn, Value.slice A args.length c] 33 hn0 hJ
    rw [hW1] at hb
    obtain ⟨hJ1, hK1⟩ := hb
    have hy := hdo pre (.mk op nn A c args) W1 hJ1 hP hTin (hW.trans (hV.below hK1)) (by omega)
    have hkp := hV.keep pre W #[Value.int IntKind.i64 op, Value.int IntKind.i64 nn, Value.slice A args.length c] 33
    rw [hW1] at hkp
    have HKP := Lib.hid (fun W2 hk => cell_of_blk (hkp W2 hn0 hJ hk) 2)
    have HIH := Lib.hid ih
    have HR := Lib.hid hr
    have HRW := Lib.hid hrow
    have HES := Lib.hid hEs
    have HW := Lib.hid hW
    have HK1 := Lib.hid hK1
    have hs1' : n₀ ≤ W1.heap.size := by omega
    simp only [MT.val, MT.op, MT.n, MT.A, MT.c, MT.args] at hy ⊢
    clear hkp ih hr hrow hEs hW hTin hJ hJ1 hK1 hP hblk hB1
    have HF : Hid (MT.nodes (MT.mk op nn A c args) = MT.mk op nn A c args :: MT.nodesL args) := Lib.hid (by rw [MT.nodes])
    go_enter Tryz.func112, Tryz.ntmps112
    go_wp2_with (refine hy.mono ?_; clear hy; rintro e W2 (⟨rfl, hJ2, hk2⟩ | ⟨rfl, hx2, hk2⟩); have hcw := HKP.out W2 hk2; simp only [List.getElem?_toArray, List.getElem?_cons_zero, List.getElem?_cons_succ] at hcw)
    · have HJ2 := Lib.hid hJ2
      have HK2 := Lib.hid (hV.trans HK1.out hk2)
      clear hJ2 hk2 c0 c1 c2 hW1 HKP
      go_wp2_with fail
      clear hcw
      go_loopw [14] (fun i wr => ∃ (k : Nat), k ≤ args.length ∧ i = .int .i64 k ∧ J (pre ++ (MT.mk op nn A c args :: MT.nodesL (args.take k))) wr ∧ K W wr ∧ n₀ ≤ wr.heap.size) (fun i _ => args.length - (intOf i).toNat)
      case atStart => exact ⟨0, Nat.zero_le _, rfl, by simpa [MT.nodesL] using HJ2.out, HK2.out, by have := (hV.below HK2.out).size; omega⟩
      case round =>
        rename World => wr
        obtain ⟨k, hk, rfl, hJk, hkk, hsz2⟩ := hrel
        have HJ := Lib.hid hJk
        have HK := Lib.hid hkk
        clear hJk hkk
        by_cases hlt : k < args.length
        · obtain ⟨ab, aoff, rfl, -, g0, g1, g2⟩ := elem3 HR.out (HW.out.trans (hV.below HK.out)) hlt
          obtain ⟨W3, hW3, hB3, hs3, b0, b1, b2, -⟩ := box3 wr (Value.int IntKind.i64 args[k].op) (Value.int IntKind.i64 args[k].n) (Value.slice args[k].A args[k].args.length args[k].c) 33
          have hb3 := hV.box _ wr #[Value.int IntKind.i64 args[k].op, Value.int IntKind.i64 args[k].n, Value.slice args[k].A args[k].args.length args[k].c] 33 hsz2 HJ.out
          rw [hW3] at hb3
          have hcall := HIH.out k hlt _ W3 (HRW.out.at_ k hlt) (HES.out.at_ k hlt) ((HW.out.trans (hV.below HK.out)).trans (hV.below hb3.2)) (by omega) hb3.1
          simp only [MT.val] at hcall
          have HKW := Lib.hid (hV.trans HK.out hb3.2)
          have h0I : (0 : Int) ≤ k := by omega
          have hlI : (k : Int) < args.length := by omega
          have HTK := Lib.hid (MT.nodesL_take args k hlt)
          have HSP := Lib.hid (MT.nodesL_split args k hlt)
          clear hb3
          go_wp2_with (go_at_call 112; refine hcall.mono ?_; clear hcall; rintro e W4 (⟨rfl, hJ4, hk4⟩ | ⟨rfl, q, hq, hx4, hk4⟩))
          · go_roundw
            case rel => exact ⟨k + 1, by omega, by go_num, by rw [HTK.out]; simpa using hJ4, hV.trans HKW.out hk4, by have := (hV.below hk4).size; omega⟩
            case measure => simp [intOf]; omega
          · go_ret
            refine .inr ⟨rfl, MT.mk op nn (some ⟨ab, aoff, none⟩) c args :: (MT.nodesL (args.take k) ++ q), ?_, by simpa using hx4, hV.trans HKW.out hk4⟩
            rw [HF.out, HSP.out]
            obtain ⟨r, hr⟩ := hq
            exact ⟨r ++ MT.nodesL (args.drop (k + 1)), by rw [← hr]; simp⟩
        · have HT := Lib.hid (show args.take k = args from List.take_of_length_le (by omega))
          go_wp2_with fail
          go_ret
          exact .inl ⟨rfl, by rw [HF.out]; have := HJ.out; rw [HT.out] at this; exact this, HK.out⟩
    · go_wp2_with fail
      go_ret
      exact .inr ⟨rfl, [MT.mk op nn A c args], by rw [HF.out]; exact ⟨MT.nodesL args, rfl⟩, hx2, hV.trans HK1.out hk2⟩
end Go.Proofs.YtndkcimajeofcaaGreatDoor
