import Derived.Test.YtndkcimajeofcaaGreatDoorG506e8cf509
import Derived.Test.YtndkcimajeofcaaGreatDoorG347ab55b0a
import Derived.Test.YtndkcimajeofcaaGreatDoorG04cc6b632c
import Derived.Deep.DrawnRows
import Derived.Deep.RegionHeld3
import Derived.Deep.RegionHeldLaw
namespace Go.Proofs.YtndkcimajeofcaaGreatDoor
open Go.RowKit
attribute [local go_sem ↓] Go.wp_at_zero Go.wp_at_succ

theorem owns_same {w w2 : World} {lo n sz : Nat} {e : TypeId} {v : Value} {xs : List Value} (h : w.ownsRow lo e sz v n xs) (hs : ∀ b, lo ≤ b → b < w.heap.size → w2.heap[b]? = w.heap[b]?) : w2.ownsRow lo e sz v n xs := by
  refine ⟨h.1, ?_⟩
  rcases h.2 with h0 | ⟨g, cap, cur, hv, hge, hheap, hrest⟩
  · exact .inl h0
  · exact .inr ⟨g, cap, cur, hv, hge, (hs g hge (Array.getElem?_eq_some_iff.1 hheap).1).trans hheap, hrest⟩
theorem held_names {lo B : Nat} {w w0 : World} {m n : NM} (h : OwnNM lo w m n) (hn : n.In B w0) : Held lo w.heap.size w (fun w' => m.In w'.heap.size w') :=
  ⟨Nat.le_refl _, fun _ _ h2 => OwnNM.In (base := lo) ⟨⟨owns_same h.1.1 h2, h.1.2⟩, ⟨owns_same h.2.1.1 h2, h.2.1.2⟩, ⟨owns_same h.2.2.1 h2, h.2.2.2⟩⟩ hn⟩
structure BN.NilOk (b : BN) : Prop where
  r : b.R.A = none → b.R.c = 0
  l : b.L.A = none → b.L.c = 0
theorem tcell_one (l : List (Int × Int × Int)) : ∀ u ∈ l.flatMap tcells, u.oneCell' = true := fun u hu => by
  obtain ⟨x, _, hu⟩ := List.mem_flatMap.1 hu
  simp only [tcells, List.mem_cons, List.not_mem_nil, or_false] at hu
  rcases hu with rfl | rfl | rfl <;> rfl
theorem ri_info : (Tryz.prog.info? 94).map (fun i => (i.zero, i.size, i.bytes)) = some (some (.agg #[.int .i64 0, .int .i64 0]), 2, 16) := by kernel_rfl
theorem lk_info : (Tryz.prog.info? 98).map (fun i => (i.zero, i.size, i.bytes)) = some (some (.agg #[.int .i64 0, .int .i64 0, .int .i64 0]), 3, 24) := by kernel_rfl
theorem incl_infoC : (Tryz.prog.info? 111).map (fun i => (i.zero, i.size, i.bytes)) = some (some (.agg #[.int .i64 0, .int .i64 0, .slice none 0 0, .int .i64 0, .int .i64 0, .slice none 0 0]), 6, 80) := by kernel_rfl
theorem fact_infoC : (Tryz.prog.info? 96).map (fun i => (i.zero, i.size, i.bytes)) = some (some (.agg #[.int .i64 0, .int .i64 0, .int .i64 0, .slice none 0 0]), 4, 48) := by kernel_rfl
def inclI (p : MT × MT) (w : World) : Prop := p.1.In w.heap.size w ∧ p.2.In w.heap.size w
def factI (p : Int × MT) (w : World) : Prop := p.2.In w.heap.size w
/-- What CopyNames hands back, for a region of more steps. -/
def RetNames (B : Nat) (W : World) (n : NM) (w : World) (e : Ending) (w' : World) : Prop := ∃ m : NM, e = .returned m.val ∧ (m.C.l = n.C.l ∧ m.R.l = n.R.l ∧ m.I.l = n.I.l) ∧ Held w.heap.size w'.heap.size w' (fun w2 => m.In w2.heap.size w2) ∧ Below B W w' ∧ Below w.heap.size w w'
def RetCopyB (b : BN) (w : World) (e : Ending) (w' : World) : Prop := ∃ m : BN, e = .returned m.val ∧ EqB m b ∧ Held w.heap.size w'.heap.size w' (fun w2 => m.In w2.heap.size w2) ∧ Below w.heap.size w w'
/-- A struct of seven stored into a block. -/
theorem store7 {W : World} {b : Nat} {c0 c1 c2 c3 c4 c5 c6 : Value} {t : TypeId} (h : W.heap[b]? = some (.cells #[c0, c1, c2, c3, c4, c5, c6] t)) (x0 x1 x2 x3 x4 x5 x6 : Value) :
    (((((((W.setCell ⟨b, 0, none⟩ x0).setCell ⟨b, 1, none⟩ x1).setCell ⟨b, 2, none⟩ x2).setCell ⟨b, 3, none⟩ x3).setCell ⟨b, 4, none⟩ x4).setCell ⟨b, 5, none⟩ x5).setCell ⟨b, 6, none⟩ x6).heap[b]? = some (.cells #[x0, x1, x2, x3, x4, x5, x6] t) ∧
    W.grownBy (((((((W.setCell ⟨b, 0, none⟩ x0).setCell ⟨b, 1, none⟩ x1).setCell ⟨b, 2, none⟩ x2).setCell ⟨b, 3, none⟩ x3).setCell ⟨b, 4, none⟩ x4).setCell ⟨b, 5, none⟩ x5).setCell ⟨b, 6, none⟩ x6) (some b) := by
  have e0 := blk_set h 0 x0
  simp only [List.setIfInBounds_toArray, List.set_cons_zero] at e0
  have e1 := blk_set e0 1 x1
  simp only [List.setIfInBounds_toArray, List.set_cons_zero, List.set_cons_succ] at e1
  have e2 := blk_set e1 2 x2
  simp only [List.setIfInBounds_toArray, List.set_cons_zero, List.set_cons_succ] at e2
  have e3 := blk_set e2 3 x3
  simp only [List.setIfInBounds_toArray, List.set_cons_zero, List.set_cons_succ] at e3
  have e4 := blk_set e3 4 x4
  simp only [List.setIfInBounds_toArray, List.set_cons_zero, List.set_cons_succ] at e4
  have e5 := blk_set e4 5 x5
  simp only [List.setIfInBounds_toArray, List.set_cons_zero, List.set_cons_succ] at e5
  have e6 := blk_set e5 6 x6
  simp only [List.setIfInBounds_toArray, List.set_cons_zero, List.set_cons_succ] at e6
  exact ⟨e6, grown_trans (grown_trans (grown_trans (grown_trans (grown_trans (grown_trans (grown_set W b 0 x0) (grown_set _ b 1 x1)) (grown_set _ b 2 x2)) (grown_set _ b 3 x3)) (grown_set _ b 4 x4)) (grown_set _ b 5 x5)) (grown_set _ b 6 x6)⟩
theorem grown_row {w w' : World} {g : Nat} {o : Obj} (hg : w.grownBy w' (Value.ownBlock (.slice none 0 0))) (h : w.heap[g]? = some o) : w'.heap[g]? = some o :=
  (hg.block g (Array.getElem?_eq_some_iff.1 h).1 (by simp [Value.ownBlock])).trans h

set_option maxRecDepth 100000 in
set_option maxHeartbeats 16000000 in
theorem bCopy_any (b : BN) (w : World) (hb : b.In w.heap.size w) (hn : b.NilOk) (hI : b.I.length ≤ 1000) (hR : b.R.l.length ≤ 1000) (hF : b.F.length ≤ 1000) (hL : b.L.l.length ≤ 1000) (hN : b.N.C.l.length ≤ 1000 ∧ b.N.R.l.length ≤ 1000 ∧ b.N.I.l.length ≤ 1000) (hsz : ∀ T ∈ b.cons, T.tr.size ≤ 1000000) :
    Calls Tryz.prog 42 #[b.val] w (RetCopyB b w) := by
  obtain ⟨W1, hW1, hB1, hs1, hk1⟩ := newBlk w _ rfl #[.slice b.N.C.A b.N.C.l.length b.N.C.c, .slice b.N.R.A b.N.R.l.length b.N.R.c, .slice b.N.I.A b.N.I.l.length b.N.I.c, .slice b.IA b.I.length b.ic, .slice b.R.A b.R.l.length b.R.c, .slice b.FA b.F.length b.fc, .slice b.L.A b.L.l.length b.L.c] 30
  obtain ⟨W2, hW2, hB2, hs2, hk2⟩ := newBlk W1 _ hs1 #[.slice none 0 0, .slice none 0 0, .slice none 0 0, .slice none 0 0, .slice none 0 0, .slice none 0 0, .slice none 0 0] 30
  have hB : Below w.heap.size w W2 := hB1.trans (hB2.mono (by omega))
  have hkk1 := (hB2.block w.heap.size (by omega)).trans hk1
  have hS : ∀ w', Below W2.heap.size W2 w' → BBox w' w.heap.size b := fun w' h => bbox_of (b := b) (blk_lat hkk1 h)
  have HIL := Lib.hid (show ∀ w', Below W2.heap.size W2 w' → b.In w'.heap.size w' from fun w' h => (hb.later hB).later h)
  have HRR := Lib.hid (show ∀ w', Below W2.heap.size W2 w' → RowAt w' w'.heap.size 2 b.R.A b.R.l.length (b.R.l.flatMap pcells) from fun w' h => ((hb.later hB).later h).r.2.2)
  have HRL := Lib.hid (show ∀ w', Below W2.heap.size W2 w' → RowAt w' w'.heap.size 3 b.L.A b.L.l.length (b.L.l.flatMap tcells) from fun w' h => ((hb.later hB).later h).l3)
  have hcn : ∀ w', Below W2.heap.size W2 w' → Calls Tryz.prog 85 #[b.N.val] w' (RetNames W2.heap.size W2 b.N w') := fun w' h => (CopyNames_any b.N w' ((hb.n.later hB).later h) hN).mono fun e w'' hx => by
    obtain ⟨m, h1, h2, h3⟩ := hx
    exact ⟨m, h1, ⟨h2.1.2, h2.2.1.2, h2.2.2.2⟩, held_names h2 ((hb.n.later hB).later h), h.trans (h3.mono h.size), h3⟩
  have hd : Below W2.heap.size W2 W2.drew := (Below.refl _ _).drew
  have hnR := hn.r
  have hnL := hn.l
  obtain ⟨i4, h4a, h4b, h4c, h4d⟩ := info_parts ri_info
  obtain ⟨i5, h5a, h5b, h5c, h5d⟩ := info_parts lk_info
  have HB := Lib.hid hB
  have HS := Lib.hid hS
  have HK2 := Lib.hid hk2
  have HCN := Lib.hid hcn
  have HS2 := Lib.hid hs2
  have HSZ := Lib.hid hsz
  simp only [NM.val] at HCN
  simp only [BN.val]
  clear hb hn hB hB1 hB2 hk1 hk2 hkk1 hS hcn hs2 hsz hN
  go_enter Tryz.func42, Tryz.ntmps42
  go_wp2_with fail
  rename_i K0 aK0
  have rest : ∀ (D : Nat) (w9 : World) (m : NM) (A4 : Option Addr) (k4 : Nat) (A5 : Option Addr) (k5 : Nat), w9.heap[D]? = some (.cells #[.slice m.C.A m.C.l.length m.C.c, .slice m.R.A m.R.l.length m.R.c, .slice m.I.A m.I.l.length m.I.c, .slice none 0 0, .slice A4 b.R.l.length k4, .slice none 0 0, .slice A5 b.L.l.length k5] 30) → W2.heap.size ≤ D → (m.C.l = b.N.C.l ∧ m.R.l = b.N.R.l ∧ m.I.l = b.N.I.l) →
      (∃ lo hi, W2.heap.size ≤ lo ∧ (D < lo ∨ hi ≤ D) ∧ Held lo hi w9 (fun w2 => m.In w2.heap.size w2)) → (∃ lo hi, W2.heap.size ≤ lo ∧ (D < lo ∨ hi ≤ D) ∧ Held lo hi w9 (fun w' => RowAt w' w'.heap.size 2 A4 b.R.l.length (b.R.l.flatMap pcells))) → (∃ lo hi, W2.heap.size ≤ lo ∧ (D < lo ∨ hi ≤ D) ∧ Held lo hi w9 (fun w' => RowAt w' w'.heap.size 3 A5 b.L.l.length (b.L.l.flatMap tcells))) →
      (b.R.l.length ≤ k4 ∧ k4 ≤ 9223372036854775807 ∧ b.L.l.length ≤ k5 ∧ k5 ≤ 9223372036854775807) → Below W2.heap.size W2 w9 → K0 { tmps := #[.agg #[.slice b.N.C.A b.N.C.l.length b.N.C.c, .slice b.N.R.A b.N.R.l.length b.N.R.c, .slice b.N.I.A b.N.I.l.length b.N.I.c, .slice b.IA b.I.length b.ic, .slice b.R.A b.R.l.length b.R.c, .slice b.FA b.F.length b.fc, .slice b.L.A b.L.l.length b.L.c], .pointer (some ⟨w.heap.size, 0, none⟩), .pointer (some ⟨w.heap.size + 1, 0, none⟩), .pointer (some ⟨D, 0, none⟩), undef, undef, undef, undef, .pointer (some ⟨w.heap.size, 0, none⟩), .agg #[.slice b.N.C.A b.N.C.l.length b.N.C.c, .slice b.N.R.A b.N.R.l.length b.N.R.c, .slice b.N.I.A b.N.I.l.length b.N.I.c], .agg #[.slice m.C.A m.C.l.length m.C.c, .slice m.R.A m.R.l.length m.R.c, .slice m.I.A m.I.l.length m.I.c], .pointer (some ⟨w.heap.size, 4, none⟩), .slice b.R.A b.R.l.length b.R.c, .slice A4 b.R.l.length k4, .pointer (some ⟨w.heap.size, 6, none⟩), .slice b.L.A b.L.l.length b.L.c, .slice A5 b.L.l.length k5, .agg #[.slice m.C.A m.C.l.length m.C.c, .slice m.R.A m.R.l.length m.R.c, .slice m.I.A m.I.l.length m.I.c, .slice none 0 0, .slice A4 b.R.l.length k4, .slice none 0 0, .slice A5 b.L.l.length k5], undef, undef, undef, undef, undef, undef, undef, undef, undef, undef, undef, undef, undef, undef, undef, undef, undef, undef, undef, undef, undef, undef, undef, undef, undef, undef, undef, undef, undef, undef, undef, undef, undef, undef, undef, undef, undef, undef, undef, undef], defers := [] } w9 := by
    intro D w9 m A4 k4 A5 k5 hkD hDl hme hhN hhR hhL hkk hb9
    refine aK0 _ _ ?_
    clear aK0
    have hDlt : D < w9.heap.size := (Array.getElem?_eq_some_iff.1 hkD).1
    have hs2 := HS2.out
    have HR9 := Lib.hid (show w9.heap[w.heap.size + 1]? = some (.cells #[.slice none 0 0, .slice none 0 0, .slice none 0 0, .slice none 0 0, .slice none 0 0, .slice none 0 0, .slice none 0 0] 30) from (hb9.block _ (by omega)).trans HK2.out)
    obtain ⟨c0, c1, c2, c3, c4, c5, c6⟩ := HS.out w9 hb9
    obtain ⟨i6, hi6, h6a, h6b, h6c⟩ := info_parts incl_infoC
    obtain ⟨i7, hi7, h7a, h7b, h7c⟩ := info_parts fact_infoC
    have HD := Lib.hid (And.intro hDlt (And.intro hDl hs2))
    have HB9 := Lib.hid hb9
    have HH := Lib.hid (And.intro hhN (And.intro hhR hhL))
    have HKD := Lib.hid hkD
    have HM := Lib.hid (And.intro hme hkk)
    clear hs2 hb9 hhN hhR hhL hDlt hDl hkD hd hkk hme
    go_wp2_with fail
    clear c0 c1 c2 c3 c4 c5 c6
    go_loopw [21] (fun i' wr => ∃ (k : Nat) (v1 : Value) (Ps : List (MT × MT)), k ≤ b.I.length ∧ i' = .int .i64 (k : Nat) ∧ Ps.length = k ∧ Ps.map (fun p => (p.1.tr, p.2.tr)) = (b.I.take k).map (fun p => (p.1.tr, p.2.tr)) ∧ wr.heap[D]? = some (.cells #[.slice m.C.A m.C.l.length m.C.c, .slice m.R.A m.R.l.length m.R.c, .slice m.I.A m.I.l.length m.I.c, v1, .slice A4 b.R.l.length k4, .slice none 0 0, .slice A5 b.L.l.length k5] 30) ∧ CollH ucells 6 111 inclI D w9.heap.size wr v1 Ps ∧ (∀ b, b < w9.heap.size → b ≠ D → wr.heap[b]? = w9.heap[b]?) ∧ w9.heap.size ≤ wr.heap.size ∧ Below W2.heap.size W2 wr) (fun i' _ => b.I.length - (intOf i').toNat)
    case atStart => exact ⟨0, _, [], Nat.zero_le _, rfl, rfl, rfl, HKD.out, CollH.nil, fun _ _ _ => rfl, Nat.le_refl _, HB9.out⟩
    case round =>
      rename World => wr
      obtain ⟨k, v1, Ps, hk, rfl, hTl, hTm, hbD, hco, hsame, hsz9, hbw⟩ := hrel
      by_cases hlt : k < b.I.length
      · obtain ⟨g, off, hA, hg, e0, e1, e2, e3, e4, e5⟩ := (HIL.out wr hbw).incl hlt
        have h0K : (0 : Int) ≤ k := by omega
        have hlK : (k : Int) < b.I.length := by omega
        have m1 : b.I[k].1 ∈ b.cons := by rw [BN.cons]; exact List.mem_append_left _ (List.mem_flatMap.2 ⟨_, List.getElem_mem hlt, by simp⟩)
        have m2 : b.I[k].2 ∈ b.cons := by rw [BN.cons]; exact List.mem_append_left _ (List.mem_flatMap.2 ⟨_, List.getElem_mem hlt, by simp⟩)
        have hc1 := fun w' (h : Below W2.heap.size W2 w') => rCopy_any b.I[k].1 w' ((HIL.out w' h).i4 _ (List.getElem_mem hlt)).1 (HSZ.out _ m1)
        have hc2 := fun w' (h : Below W2.heap.size W2 w') => rCopy_any b.I[k].2 w' ((HIL.out w' h).i4 _ (List.getElem_mem hlt)).2 (HSZ.out _ m2)
        have hTK := Lib.hid (show (b.I.take (k + 1)).map (fun p => (p.1.tr, p.2.tr)) = (b.I.take k).map (fun p => (p.1.tr, p.2.tr)) ++ [(b.I[k].1.tr, b.I[k].2.tr)] by rw [List.take_succ_eq_append_getElem hlt, List.map_append]; rfl)
        obtain ⟨Wa, hWa, hBa, hsa, hka⟩ := newBlk wr _ rfl #[.int .i64 b.I[k].1.op, .int .i64 b.I[k].1.n, .slice b.I[k].1.A b.I[k].1.args.length b.I[k].1.c, .int .i64 b.I[k].2.op, .int .i64 b.I[k].2.n, .slice b.I[k].2.A b.I[k].2.args.length b.I[k].2.c] 111
        have HTm := Lib.hid hTm
        have HTl := Lib.hid hTl
        have hTl3 : Ps.length ≤ 1000 := by omega
        have HCO := Lib.hid hco
        have HBW := Lib.hid hbw
        have HBD := Lib.hid hbD
        have HSM := Lib.hid hsame
        have HKA := Lib.hid hka
        have HBA := Lib.hid hBa
        have HSA := Lib.hid hsa
        have hDw : D < wr.heap.size := (Array.getElem?_eq_some_iff.1 hbD).1
        have HSZ9 := Lib.hid hsz9
        have hC1 := Lib.hid hc1
        have hC2 := Lib.hid hc2
        simp only [MT.val] at hC1 hC2
        rw [hA]
        clear hTl hTm hbD hco hsame hbw hA hka hBa hsa hc1 hc2 m1 m2 hsz9
        generalize b.I[k].1 = T at e0 e1 e2 hWa HKA hC1 hTK
        generalize b.I[k].2 = U at e3 e4 e5 hWa HKA hC2 hTK
        have hd : Below W2.heap.size W2 Wa.drew := (HBW.out.trans (HBA.out.mono HBW.out.size)).drew
        have hX : ∀ w' : World, w'.heap[wr.heap.size]? = some (.cells #[.int .i64 T.op, .int .i64 T.n, .slice T.A T.args.length T.c, .int .i64 U.op, .int .i64 U.n, .slice U.A U.args.length U.c] 111) → (w'.cell? ⟨wr.heap.size, 0, none⟩ = some (.int .i64 T.op) ∧ w'.cell? ⟨wr.heap.size, 1, none⟩ = some (.int .i64 T.n) ∧ w'.cell? ⟨wr.heap.size, 2, none⟩ = some (.slice T.A T.args.length T.c) ∧ w'.cell? ⟨wr.heap.size, 3, none⟩ = some (.int .i64 U.op) ∧ w'.cell? ⟨wr.heap.size, 4, none⟩ = some (.int .i64 U.n) ∧ w'.cell? ⟨wr.heap.size, 5, none⟩ = some (.slice U.A U.args.length U.c)) := fun w' h => ⟨cell_of_blk h 0, cell_of_blk h 1, cell_of_blk h 2, cell_of_blk h 3, cell_of_blk h 4, cell_of_blk h 5⟩
        have hxk : Wa.drew.heap[wr.heap.size]? = some (.cells #[.int .i64 T.op, .int .i64 T.n, .slice T.A T.args.length T.c, .int .i64 U.op, .int .i64 U.n, .slice U.A U.args.length U.c] 111) := HKA.out
        have hDk : Wa.drew.heap[D]? = some (.cells #[.slice m.C.A m.C.l.length m.C.c, .slice m.R.A m.R.l.length m.R.c, .slice m.I.A m.I.l.length m.I.c, v1, .slice A4 b.R.l.length k4, .slice none 0 0, .slice A5 b.L.l.length k5] 30) := (HBA.out.block D hDw).trans HBD.out
        have hcc := HCO.out.later HBA.out.drew
        have hwd : Wa.drew.heap.size = Wa.heap.size := rfl
        have hba6 : Below wr.heap.size wr Wa.drew := HBA.out.drew
        have hle0 := hba6.size
        have hnb : ∀ g, v1.ownBlock = some g → w9.heap.size ≤ g ∧ g < wr.heap.size := fun g e => own_lt HCO.out.own e
        go_wp2_with fail
        refine wp_region_held_drew (S := fun w' => w'.cell? ⟨wr.heap.size, 0, none⟩ = some (.int .i64 T.op) ∧ w'.cell? ⟨wr.heap.size, 1, none⟩ = some (.int .i64 T.n) ∧ w'.cell? ⟨wr.heap.size, 2, none⟩ = some (.slice T.A T.args.length T.c) ∧ w'.cell? ⟨wr.heap.size, 3, none⟩ = some (.int .i64 U.op) ∧ w'.cell? ⟨wr.heap.size, 4, none⟩ = some (.int .i64 U.n) ∧ w'.cell? ⟨wr.heap.size, 5, none⟩ = some (.slice U.A U.args.length U.c)) (by kernel_rfl) (hX _ hxk) (fun hHeld => ?_)
        refine wpAnyH_take (i := 0) (oi := { dst := some 25, op := Op.fieldAddr 30 (Operand.tmp 3) 1, type := 0, pos := "ref.go:111", after := #[], guard := none }) (v := .pointer (some ⟨D, 3, none⟩)) rfl (by kernel_rfl) (by kernel_rfl) (by kernel_rfl) (fun _ _ _ h => h) (Or.inl ⟨by rfl, by (intro w hSw; (try dsimp only at hSw); go_simp)⟩) (by assumption) ?_
        try simp only [Act.put, List.setIfInBounds_toArray, List.set_cons_zero, List.set_cons_succ]
        refine wpAnyH_take (i := 2) (oi := { dst := some 27, op := Op.fieldAddr 111 (Operand.tmp 5) 0, type := 0, pos := "ref.go:111", after := #[], guard := none }) (v := .pointer (some ⟨wr.heap.size, 0, none⟩)) rfl (by kernel_rfl) (by kernel_rfl) (by kernel_rfl) (fun _ _ _ h => h) (Or.inl ⟨by rfl, by (intro w hSw; (try dsimp only at hSw); go_simp)⟩) (by assumption) ?_
        try simp only [Act.put, List.setIfInBounds_toArray, List.set_cons_zero, List.set_cons_succ]
        refine wpAnyH_take (i := 3) (oi := { dst := some 28, op := Op.load 33 (Operand.tmp 27), type := 33, pos := "ref.go:111", after := #[{ on := 2, ground := Ground.data }], guard := none }) (v := .agg #[.int .i64 T.op, .int .i64 T.n, .slice T.A T.args.length T.c]) rfl (by kernel_rfl) (by kernel_rfl) (by kernel_rfl) (fun _ _ _ h => h) (Or.inl ⟨by rfl, by (intro w hSw; (try dsimp only at hSw); go_simp)⟩) (by assumption) ?_
        try simp only [Act.put, List.setIfInBounds_toArray, List.set_cons_zero, List.set_cons_succ]
        refine wpAnyH_take (i := 5) (oi := { dst := some 30, op := Op.fieldAddr 111 (Operand.tmp 5) 1, type := 0, pos := "ref.go:111", after := #[], guard := none }) (v := .pointer (some ⟨wr.heap.size, 3, none⟩)) rfl (by kernel_rfl) (by kernel_rfl) (by kernel_rfl) (fun _ _ _ h => h) (Or.inl ⟨by rfl, by (intro w hSw; (try dsimp only at hSw); go_simp)⟩) (by assumption) ?_
        try simp only [Act.put, List.setIfInBounds_toArray, List.set_cons_zero, List.set_cons_succ]
        refine wpAnyH_take (i := 6) (oi := { dst := some 31, op := Op.load 33 (Operand.tmp 30), type := 33, pos := "ref.go:111", after := #[{ on := 5, ground := Ground.data }], guard := none }) (v := .agg #[.int .i64 U.op, .int .i64 U.n, .slice U.A U.args.length U.c]) rfl (by kernel_rfl) (by kernel_rfl) (by kernel_rfl) (fun _ _ _ h => h) (Or.inl ⟨by rfl, by (intro w hSw; (try dsimp only at hSw); go_simp)⟩) (by assumption) ?_
        try simp only [Act.put, List.setIfInBounds_toArray, List.set_cons_zero, List.set_cons_succ]
        refine wpAnyH_ready (rs := [1, 4]) (by kernel_rfl) (by simp) (AllReadyH.cons (o := { dst := some 26, op := Op.load 25 (Operand.tmp 25), type := 25, pos := "ref.go:111", after := #[{ on := 0, ground := Ground.data }], guard := none }) rfl (fun K hK => ?_) (AllReadyH.cons (o := { dst := some 29, op := Op.call { callee := Callee.value (Operand.func 43), args := #[Operand.tmp 28], argTypes := #[33] }, type := 33, pos := "ref.go:111", after := #[{ on := 3, ground := Ground.data }], guard := none }) rfl (fun K hK => ?_) AllReadyH.nil))
        · have q1 := cell_of_blk hDk 3
          simp only [List.getElem?_toArray, List.getElem?_cons_zero, List.getElem?_cons_succ] at q1
          go_simp
          refine hK.out _ _ (hX _ hxk) (fun hHeld => ?_)
          clear hK K
          try simp only [Act.put, List.setIfInBounds_toArray, List.set_cons_zero, List.set_cons_succ]
          refine wpAnyH_ready (rs := [4]) (by kernel_rfl) (by simp) (AllReadyH.cons (o := { dst := some 29, op := Op.call { callee := Callee.value (Operand.func 43), args := #[Operand.tmp 28], argTypes := #[33] }, type := 33, pos := "ref.go:111", after := #[{ on := 3, ground := Ground.data }], guard := none }) rfl (fun K hK => ?_) AllReadyH.nil)
          go_simp
          go_at_call 43
          refine (hC1.out _ hd).mono ?_
          rintro e w5 ⟨T', rfl, hTt, hnT, hx5⟩
          have HTt := Lib.hid hTt
          clear hTt
          have hd5 : Below W2.heap.size W2 w5 := hd.trans (hx5.mono hd.size)
          have hba6 : Below wr.heap.size wr w5 := hba6.trans (hx5.mono hba6.size)
          have hs5 := hx5.size
          have hle5 := hba6.size
          have hhT := held_tree hnT
          have hxk := (hx5.block wr.heap.size (Array.getElem?_eq_some_iff.1 hxk).1).trans hxk
          have hDk := (hx5.block D (Array.getElem?_eq_some_iff.1 hDk).1).trans hDk
          have hcc := hcc.later hx5
          refine hK.out _ _ (hX _ hxk) (fun hHeld => ?_)
          clear hK K
          try simp only [Act.put, List.setIfInBounds_toArray, List.set_cons_zero, List.set_cons_succ]
          refine wpAnyH_ready (rs := [7]) (by kernel_rfl) (by simp) (AllReadyH.cons (o := { dst := some 32, op := Op.call { callee := Callee.value (Operand.func 43), args := #[Operand.tmp 31], argTypes := #[33] }, type := 33, pos := "ref.go:111", after := #[{ on := 6, ground := Ground.data }, { on := 4, ground := Ground.chain }], guard := none }) rfl (fun K hK => ?_) AllReadyH.nil)
          go_simp
          go_at_call 43
          refine (hC2.out _ hd5).mono ?_
          rintro e w6 ⟨U', rfl, hUt, hnU, hx6⟩
          have HUt := Lib.hid hUt
          clear hUt
          have hd6 : Below W2.heap.size W2 w6 := hd5.trans (hx6.mono hd5.size)
          have hba6 : Below wr.heap.size wr w6 := hba6.trans (hx6.mono hba6.size)
          have hs6 := hx6.size
          have hhU := held_tree hnU
          have hhT := hhT.later hx6
          have hxk := (hx6.block wr.heap.size (Array.getElem?_eq_some_iff.1 hxk).1).trans hxk
          have hDk := (hx6.block D (Array.getElem?_eq_some_iff.1 hDk).1).trans hDk
          have hcc := hcc.later hx6
          refine hK.out _ _ (hX _ hxk) (fun hHeld => ?_)
          clear hK K
          try simp only [Act.put, List.setIfInBounds_toArray, List.set_cons_zero, List.set_cons_succ]
          refine wpAnyH_take (i := 8) (oi := { dst := some 33, op := Op.build 111 #[(0, Operand.tmp 29), (1, Operand.tmp 32)], type := 111, pos := "ref.go:111", after := #[{ on := 4, ground := Ground.data }, { on := 7, ground := Ground.data }], guard := none }) (v := .agg #[.int .i64 T'.op, .int .i64 T'.n, .slice T'.A T'.args.length T'.c, .int .i64 U'.op, .int .i64 U'.n, .slice U'.A U'.args.length U'.c]) rfl (by kernel_rfl) (by kernel_rfl) (by kernel_rfl) (fun _ _ _ h => h) (Or.inl ⟨by rfl, by (intro w hSw; (try dsimp only at hSw); go_simp)⟩) (by assumption) ?_
          try simp only [Act.put, List.setIfInBounds_toArray, List.set_cons_zero, List.set_cons_succ]
          refine wpAnyH_ready (rs := [9]) (by kernel_rfl) (by simp) (AllReadyH.cons (o := { dst := some 34, op := Op.buildSlice 25 1 #[(0, Operand.tmp 33)], type := 25, pos := "ref.go:111", after := #[{ on := 8, ground := Ground.data }], guard := none }) rfl (fun K hK => ?_) AllReadyH.nil)
          go_simp
          have hxa : Below w6.heap.size w6 (w6.alloc (.cells #[.int .i64 T'.op, .int .i64 T'.n, .slice T'.A T'.args.length T'.c, .int .i64 U'.op, .int .i64 U'.n, .slice U'.A U'.args.length U'.c] 111)) := (Below.refl _ _).alloc (Nat.le_refl _) _
          have hxk := (hxa.block wr.heap.size (Array.getElem?_eq_some_iff.1 hxk).1).trans hxk
          have hDk := (hxa.block D (Array.getElem?_eq_some_iff.1 hDk).1).trans hDk
          have hcc := hcc.later hxa
          refine hK.out _ _ (hX _ hxk) (fun hHeld => ?_)
          clear hK K
          try simp only [Act.put, List.setIfInBounds_toArray, List.set_cons_zero, List.set_cons_succ]
          refine wpAnyH_ready (rs := [10]) (by kernel_rfl) (by simp) (AllReadyH.cons (o := { dst := some 35, op := Op.call { callee := Callee.builtin Builtin.append, args := #[Operand.tmp 26, Operand.tmp 34], argTypes := #[25, 25] }, type := 25, pos := "ref.go:111", after := #[{ on := 1, ground := Ground.data }, { on := 9, ground := Ground.data }, { on := 7, ground := Ground.chain }], guard := none }) rfl (fun K hK => ?_) AllReadyH.nil)
          refine step_append_lies _ (by rfl) _ _ _ (by rfl) w9.heap.size 111 i6 _ 6 80 Tryz.underlying25 hi6 h6a h6b h6c rfl (by omega) v1 Ps.length (Ps.flatMap ucells) (by rfl) hcc.own ⟨w6.heap.size, 0, none⟩ 1 1 (ucells (T', U')) (by rfl) (by rfl) (World.news_of_block (cs := #[.int .i64 T'.op, .int .i64 T'.n, .slice T'.A T'.args.length T'.c, .int .i64 U'.op, .int .i64 U'.n, .slice U'.A U'.args.length U'.c]) (t := 111) (fr := (0, 0)) (heap_alloc_new w6 _)) (by simp [ucells, Value.oneCell']) (by omega) (by unfold maxLen; omega) (by omega) (by have := HSZ9.out; have := hba6.size; simp; omega) (w6.heap.size + 1) (by simp) ?_
          intro g7 cap7 w7 hown7 hg7 hat7 hlt7
          have hs6a : (w6.alloc (.cells #[.int .i64 T'.op, .int .i64 T'.n, .slice T'.A T'.args.length T'.c, .int .i64 U'.op, .int .i64 U'.n, .slice U'.A U'.args.length U'.c] 111)).heap.size = w6.heap.size + 1 := by simp
          have hxk7 := (hg7.block wr.heap.size (Array.getElem?_eq_some_iff.1 hxk).1 (fun e => by have := (hnb _ e.symm).2; omega)).trans hxk
          have hDk7 := (hg7.block D (Array.getElem?_eq_some_iff.1 hDk).1 (fun e => by have := (hnb _ e.symm).1; have := HD.out.1; omega)).trans hDk
          refine hK.out _ _ (hX _ hxk7) (fun hHeld => ?_)
          clear hK K
          try simp only [Act.put, List.setIfInBounds_toArray, List.set_cons_zero, List.set_cons_succ]
          refine wpAnyH_take (i := 11) (oi := { dst := some 36, op := Op.fieldAddr 30 (Operand.tmp 3) 1, type := 0, pos := "ref.go:111", after := #[{ on := 0, ground := Ground.phase }, { on := 1, ground := Ground.phase }, { on := 2, ground := Ground.phase }, { on := 3, ground := Ground.phase }, { on := 4, ground := Ground.phase }, { on := 5, ground := Ground.phase }, { on := 6, ground := Ground.phase }, { on := 7, ground := Ground.phase }, { on := 8, ground := Ground.phase }, { on := 9, ground := Ground.phase }, { on := 10, ground := Ground.phase }], guard := none }) (v := .pointer (some ⟨D, 3, none⟩)) rfl (by kernel_rfl) (by kernel_rfl) (by kernel_rfl) (fun _ _ _ h => h) (Or.inl ⟨by rfl, by (intro w hSw; (try dsimp only at hSw); go_simp)⟩) (by assumption) ?_
          try simp only [Act.put, List.setIfInBounds_toArray, List.set_cons_zero, List.set_cons_succ]
          refine wpAnyH_ready (rs := [12]) (by kernel_rfl) (by simp) (AllReadyH.cons (o := { dst := none, op := Op.store 25 (Operand.tmp 36) (Operand.tmp 35), type := 0, pos := "ref.go:111", after := #[{ on := 11, ground := Ground.data }, { on := 10, ground := Ground.data }, { on := 10, ground := Ground.chain }, { on := 0, ground := Ground.phase }, { on := 1, ground := Ground.phase }, { on := 2, ground := Ground.phase }, { on := 3, ground := Ground.phase }, { on := 4, ground := Ground.phase }, { on := 5, ground := Ground.phase }, { on := 6, ground := Ground.phase }, { on := 7, ground := Ground.phase }, { on := 8, ground := Ground.phase }, { on := 9, ground := Ground.phase }, { on := 10, ground := Ground.phase }], guard := none }) rfl (fun K hK => ?_) AllReadyH.nil)
          have m1 := cell_of_blk hDk7 3
          have m3 := frozen_of_blk hDk7 3
          simp only [List.getElem?_toArray, List.getElem?_cons_zero, List.getElem?_cons_succ] at m1
          go_simp
          have hxk8 := (Below.heap_setCell w7 ⟨D, 3, none⟩ (.slice (some ⟨g7, 0, none⟩) (Ps.length + 1) cap7) wr.heap.size (by show wr.heap.size ≠ D; omega)).trans hxk7
          refine hK.out _ _ (hX _ hxk8) (fun hHeld => ?_)
          clear hK K
          try simp only [Act.put, List.setIfInBounds_toArray, List.set_cons_zero, List.set_cons_succ]
          refine wpAnyH_done (by kernel_rfl) ?_ _
          go_wp2
          have hx : Held wr.heap.size w6.heap.size w6 (inclI (T', U')) := (hhT.wide (by omega) (by omega) (Nat.le_refl _)).and (hhU.wide (by omega) (Nat.le_refl _) (Nat.le_refl _))
          obtain ⟨z1, z2, z3, z4, z5⟩ := kl_step (j := 3) HCO.out HBD.out HD.out.1 HSZ9.out hba6 hx hown7 hg7 hat7
          go_roundw
          case rel => exact ⟨k + 1, _, Ps ++ [(T', U')], by omega, by go_num, by rw [List.length_append, HTl.out]; rfl, by rw [List.map_append, HTm.out, hTK.out, ← HTt.out, ← HUt.out]; rfl, z1, z2, fun b h1 h2 => (z3 b h1 h2).trans (HSM.out b h1 h2), z4, HBW.out.trans (z5.mono HD.out.2.1)⟩
          case measure => simp [intOf]; omega
        · go_simp
          go_at_call 43
          refine (hC1.out _ hd).mono ?_
          rintro e w5 ⟨T', rfl, hTt, hnT, hx5⟩
          have HTt := Lib.hid hTt
          clear hTt
          have hd5 : Below W2.heap.size W2 w5 := hd.trans (hx5.mono hd.size)
          have hba6 : Below wr.heap.size wr w5 := hba6.trans (hx5.mono hba6.size)
          have hs5 := hx5.size
          have hle5 := hba6.size
          have hhT := held_tree hnT
          have hxk := (hx5.block wr.heap.size (Array.getElem?_eq_some_iff.1 hxk).1).trans hxk
          have hDk := (hx5.block D (Array.getElem?_eq_some_iff.1 hDk).1).trans hDk
          have hcc := hcc.later hx5
          refine hK.out _ _ (hX _ hxk) (fun hHeld => ?_)
          clear hK K
          try simp only [Act.put, List.setIfInBounds_toArray, List.set_cons_zero, List.set_cons_succ]
          refine wpAnyH_ready (rs := [1, 7]) (by kernel_rfl) (by simp) (AllReadyH.cons (o := { dst := some 26, op := Op.load 25 (Operand.tmp 25), type := 25, pos := "ref.go:111", after := #[{ on := 0, ground := Ground.data }], guard := none }) rfl (fun K hK => ?_) (AllReadyH.cons (o := { dst := some 32, op := Op.call { callee := Callee.value (Operand.func 43), args := #[Operand.tmp 31], argTypes := #[33] }, type := 33, pos := "ref.go:111", after := #[{ on := 6, ground := Ground.data }, { on := 4, ground := Ground.chain }], guard := none }) rfl (fun K hK => ?_) AllReadyH.nil))
          · have q1 := cell_of_blk hDk 3
            simp only [List.getElem?_toArray, List.getElem?_cons_zero, List.getElem?_cons_succ] at q1
            go_simp
            refine hK.out _ _ (hX _ hxk) (fun hHeld => ?_)
            clear hK K
            try simp only [Act.put, List.setIfInBounds_toArray, List.set_cons_zero, List.set_cons_succ]
            refine wpAnyH_ready (rs := [7]) (by kernel_rfl) (by simp) (AllReadyH.cons (o := { dst := some 32, op := Op.call { callee := Callee.value (Operand.func 43), args := #[Operand.tmp 31], argTypes := #[33] }, type := 33, pos := "ref.go:111", after := #[{ on := 6, ground := Ground.data }, { on := 4, ground := Ground.chain }], guard := none }) rfl (fun K hK => ?_) AllReadyH.nil)
            go_simp
            go_at_call 43
            refine (hC2.out _ hd5).mono ?_
            rintro e w6 ⟨U', rfl, hUt, hnU, hx6⟩
            have HUt := Lib.hid hUt
            clear hUt
            have hd6 : Below W2.heap.size W2 w6 := hd5.trans (hx6.mono hd5.size)
            have hba6 : Below wr.heap.size wr w6 := hba6.trans (hx6.mono hba6.size)
            have hs6 := hx6.size
            have hhU := held_tree hnU
            have hhT := hhT.later hx6
            have hxk := (hx6.block wr.heap.size (Array.getElem?_eq_some_iff.1 hxk).1).trans hxk
            have hDk := (hx6.block D (Array.getElem?_eq_some_iff.1 hDk).1).trans hDk
            have hcc := hcc.later hx6
            refine hK.out _ _ (hX _ hxk) (fun hHeld => ?_)
            clear hK K
            try simp only [Act.put, List.setIfInBounds_toArray, List.set_cons_zero, List.set_cons_succ]
            refine wpAnyH_take (i := 8) (oi := { dst := some 33, op := Op.build 111 #[(0, Operand.tmp 29), (1, Operand.tmp 32)], type := 111, pos := "ref.go:111", after := #[{ on := 4, ground := Ground.data }, { on := 7, ground := Ground.data }], guard := none }) (v := .agg #[.int .i64 T'.op, .int .i64 T'.n, .slice T'.A T'.args.length T'.c, .int .i64 U'.op, .int .i64 U'.n, .slice U'.A U'.args.length U'.c]) rfl (by kernel_rfl) (by kernel_rfl) (by kernel_rfl) (fun _ _ _ h => h) (Or.inl ⟨by rfl, by (intro w hSw; (try dsimp only at hSw); go_simp)⟩) (by assumption) ?_
            try simp only [Act.put, List.setIfInBounds_toArray, List.set_cons_zero, List.set_cons_succ]
            refine wpAnyH_ready (rs := [9]) (by kernel_rfl) (by simp) (AllReadyH.cons (o := { dst := some 34, op := Op.buildSlice 25 1 #[(0, Operand.tmp 33)], type := 25, pos := "ref.go:111", after := #[{ on := 8, ground := Ground.data }], guard := none }) rfl (fun K hK => ?_) AllReadyH.nil)
            go_simp
            have hxa : Below w6.heap.size w6 (w6.alloc (.cells #[.int .i64 T'.op, .int .i64 T'.n, .slice T'.A T'.args.length T'.c, .int .i64 U'.op, .int .i64 U'.n, .slice U'.A U'.args.length U'.c] 111)) := (Below.refl _ _).alloc (Nat.le_refl _) _
            have hxk := (hxa.block wr.heap.size (Array.getElem?_eq_some_iff.1 hxk).1).trans hxk
            have hDk := (hxa.block D (Array.getElem?_eq_some_iff.1 hDk).1).trans hDk
            have hcc := hcc.later hxa
            refine hK.out _ _ (hX _ hxk) (fun hHeld => ?_)
            clear hK K
            try simp only [Act.put, List.setIfInBounds_toArray, List.set_cons_zero, List.set_cons_succ]
            refine wpAnyH_ready (rs := [10]) (by kernel_rfl) (by simp) (AllReadyH.cons (o := { dst := some 35, op := Op.call { callee := Callee.builtin Builtin.append, args := #[Operand.tmp 26, Operand.tmp 34], argTypes := #[25, 25] }, type := 25, pos := "ref.go:111", after := #[{ on := 1, ground := Ground.data }, { on := 9, ground := Ground.data }, { on := 7, ground := Ground.chain }], guard := none }) rfl (fun K hK => ?_) AllReadyH.nil)
            refine step_append_lies _ (by rfl) _ _ _ (by rfl) w9.heap.size 111 i6 _ 6 80 Tryz.underlying25 hi6 h6a h6b h6c rfl (by omega) v1 Ps.length (Ps.flatMap ucells) (by rfl) hcc.own ⟨w6.heap.size, 0, none⟩ 1 1 (ucells (T', U')) (by rfl) (by rfl) (World.news_of_block (cs := #[.int .i64 T'.op, .int .i64 T'.n, .slice T'.A T'.args.length T'.c, .int .i64 U'.op, .int .i64 U'.n, .slice U'.A U'.args.length U'.c]) (t := 111) (fr := (0, 0)) (heap_alloc_new w6 _)) (by simp [ucells, Value.oneCell']) (by omega) (by unfold maxLen; omega) (by omega) (by have := HSZ9.out; have := hba6.size; simp; omega) (w6.heap.size + 1) (by simp) ?_
            intro g7 cap7 w7 hown7 hg7 hat7 hlt7
            have hs6a : (w6.alloc (.cells #[.int .i64 T'.op, .int .i64 T'.n, .slice T'.A T'.args.length T'.c, .int .i64 U'.op, .int .i64 U'.n, .slice U'.A U'.args.length U'.c] 111)).heap.size = w6.heap.size + 1 := by simp
            have hxk7 := (hg7.block wr.heap.size (Array.getElem?_eq_some_iff.1 hxk).1 (fun e => by have := (hnb _ e.symm).2; omega)).trans hxk
            have hDk7 := (hg7.block D (Array.getElem?_eq_some_iff.1 hDk).1 (fun e => by have := (hnb _ e.symm).1; have := HD.out.1; omega)).trans hDk
            refine hK.out _ _ (hX _ hxk7) (fun hHeld => ?_)
            clear hK K
            try simp only [Act.put, List.setIfInBounds_toArray, List.set_cons_zero, List.set_cons_succ]
            refine wpAnyH_take (i := 11) (oi := { dst := some 36, op := Op.fieldAddr 30 (Operand.tmp 3) 1, type := 0, pos := "ref.go:111", after := #[{ on := 0, ground := Ground.phase }, { on := 1, ground := Ground.phase }, { on := 2, ground := Ground.phase }, { on := 3, ground := Ground.phase }, { on := 4, ground := Ground.phase }, { on := 5, ground := Ground.phase }, { on := 6, ground := Ground.phase }, { on := 7, ground := Ground.phase }, { on := 8, ground := Ground.phase }, { on := 9, ground := Ground.phase }, { on := 10, ground := Ground.phase }], guard := none }) (v := .pointer (some ⟨D, 3, none⟩)) rfl (by kernel_rfl) (by kernel_rfl) (by kernel_rfl) (fun _ _ _ h => h) (Or.inl ⟨by rfl, by (intro w hSw; (try dsimp only at hSw); go_simp)⟩) (by assumption) ?_
            try simp only [Act.put, List.setIfInBounds_toArray, List.set_cons_zero, List.set_cons_succ]
            refine wpAnyH_ready (rs := [12]) (by kernel_rfl) (by simp) (AllReadyH.cons (o := { dst := none, op := Op.store 25 (Operand.tmp 36) (Operand.tmp 35), type := 0, pos := "ref.go:111", after := #[{ on := 11, ground := Ground.data }, { on := 10, ground := Ground.data }, { on := 10, ground := Ground.chain }, { on := 0, ground := Ground.phase }, { on := 1, ground := Ground.phase }, { on := 2, ground := Ground.phase }, { on := 3, ground := Ground.phase }, { on := 4, ground := Ground.phase }, { on := 5, ground := Ground.phase }, { on := 6, ground := Ground.phase }, { on := 7, ground := Ground.phase }, { on := 8, ground := Ground.phase }, { on := 9, ground := Ground.phase }, { on := 10, ground := Ground.phase }], guard := none }) rfl (fun K hK => ?_) AllReadyH.nil)
            have m1 := cell_of_blk hDk7 3
            have m3 := frozen_of_blk hDk7 3
            simp only [List.getElem?_toArray, List.getElem?_cons_zero, List.getElem?_cons_succ] at m1
            go_simp
            have hxk8 := (Below.heap_setCell w7 ⟨D, 3, none⟩ (.slice (some ⟨g7, 0, none⟩) (Ps.length + 1) cap7) wr.heap.size (by show wr.heap.size ≠ D; omega)).trans hxk7
            refine hK.out _ _ (hX _ hxk8) (fun hHeld => ?_)
            clear hK K
            try simp only [Act.put, List.setIfInBounds_toArray, List.set_cons_zero, List.set_cons_succ]
            refine wpAnyH_done (by kernel_rfl) ?_ _
            go_wp2
            have hx : Held wr.heap.size w6.heap.size w6 (inclI (T', U')) := (hhT.wide (by omega) (by omega) (Nat.le_refl _)).and (hhU.wide (by omega) (Nat.le_refl _) (Nat.le_refl _))
            obtain ⟨z1, z2, z3, z4, z5⟩ := kl_step (j := 3) HCO.out HBD.out HD.out.1 HSZ9.out hba6 hx hown7 hg7 hat7
            go_roundw
            case rel => exact ⟨k + 1, _, Ps ++ [(T', U')], by omega, by go_num, by rw [List.length_append, HTl.out]; rfl, by rw [List.map_append, HTm.out, hTK.out, ← HTt.out, ← HUt.out]; rfl, z1, z2, fun b h1 h2 => (z3 b h1 h2).trans (HSM.out b h1 h2), z4, HBW.out.trans (z5.mono HD.out.2.1)⟩
            case measure => simp [intOf]; omega
          · go_simp
            go_at_call 43
            refine (hC2.out _ hd5).mono ?_
            rintro e w6 ⟨U', rfl, hUt, hnU, hx6⟩
            have HUt := Lib.hid hUt
            clear hUt
            have hd6 : Below W2.heap.size W2 w6 := hd5.trans (hx6.mono hd5.size)
            have hba6 : Below wr.heap.size wr w6 := hba6.trans (hx6.mono hba6.size)
            have hs6 := hx6.size
            have hhU := held_tree hnU
            have hhT := hhT.later hx6
            have hxk := (hx6.block wr.heap.size (Array.getElem?_eq_some_iff.1 hxk).1).trans hxk
            have hDk := (hx6.block D (Array.getElem?_eq_some_iff.1 hDk).1).trans hDk
            have hcc := hcc.later hx6
            refine hK.out _ _ (hX _ hxk) (fun hHeld => ?_)
            clear hK K
            try simp only [Act.put, List.setIfInBounds_toArray, List.set_cons_zero, List.set_cons_succ]
            refine wpAnyH_take (i := 8) (oi := { dst := some 33, op := Op.build 111 #[(0, Operand.tmp 29), (1, Operand.tmp 32)], type := 111, pos := "ref.go:111", after := #[{ on := 4, ground := Ground.data }, { on := 7, ground := Ground.data }], guard := none }) (v := .agg #[.int .i64 T'.op, .int .i64 T'.n, .slice T'.A T'.args.length T'.c, .int .i64 U'.op, .int .i64 U'.n, .slice U'.A U'.args.length U'.c]) rfl (by kernel_rfl) (by kernel_rfl) (by kernel_rfl) (fun _ _ _ h => h) (Or.inl ⟨by rfl, by (intro w hSw; (try dsimp only at hSw); go_simp)⟩) (by assumption) ?_
            try simp only [Act.put, List.setIfInBounds_toArray, List.set_cons_zero, List.set_cons_succ]
            refine wpAnyH_ready (rs := [1, 9]) (by kernel_rfl) (by simp) (AllReadyH.cons (o := { dst := some 26, op := Op.load 25 (Operand.tmp 25), type := 25, pos := "ref.go:111", after := #[{ on := 0, ground := Ground.data }], guard := none }) rfl (fun K hK => ?_) (AllReadyH.cons (o := { dst := some 34, op := Op.buildSlice 25 1 #[(0, Operand.tmp 33)], type := 25, pos := "ref.go:111", after := #[{ on := 8, ground := Ground.data }], guard := none }) rfl (fun K hK => ?_) AllReadyH.nil))
            · have q1 := cell_of_blk hDk 3
              simp only [List.getElem?_toArray, List.getElem?_cons_zero, List.getElem?_cons_succ] at q1
              go_simp
              refine hK.out _ _ (hX _ hxk) (fun hHeld => ?_)
              clear hK K
              try simp only [Act.put, List.setIfInBounds_toArray, List.set_cons_zero, List.set_cons_succ]
              refine wpAnyH_ready (rs := [9]) (by kernel_rfl) (by simp) (AllReadyH.cons (o := { dst := some 34, op := Op.buildSlice 25 1 #[(0, Operand.tmp 33)], type := 25, pos := "ref.go:111", after := #[{ on := 8, ground := Ground.data }], guard := none }) rfl (fun K hK => ?_) AllReadyH.nil)
              go_simp
              have hxa : Below w6.heap.size w6 (w6.alloc (.cells #[.int .i64 T'.op, .int .i64 T'.n, .slice T'.A T'.args.length T'.c, .int .i64 U'.op, .int .i64 U'.n, .slice U'.A U'.args.length U'.c] 111)) := (Below.refl _ _).alloc (Nat.le_refl _) _
              have hxk := (hxa.block wr.heap.size (Array.getElem?_eq_some_iff.1 hxk).1).trans hxk
              have hDk := (hxa.block D (Array.getElem?_eq_some_iff.1 hDk).1).trans hDk
              have hcc := hcc.later hxa
              refine hK.out _ _ (hX _ hxk) (fun hHeld => ?_)
              clear hK K
              try simp only [Act.put, List.setIfInBounds_toArray, List.set_cons_zero, List.set_cons_succ]
              refine wpAnyH_ready (rs := [10]) (by kernel_rfl) (by simp) (AllReadyH.cons (o := { dst := some 35, op := Op.call { callee := Callee.builtin Builtin.append, args := #[Operand.tmp 26, Operand.tmp 34], argTypes := #[25, 25] }, type := 25, pos := "ref.go:111", after := #[{ on := 1, ground := Ground.data }, { on := 9, ground := Ground.data }, { on := 7, ground := Ground.chain }], guard := none }) rfl (fun K hK => ?_) AllReadyH.nil)
              refine step_append_lies _ (by rfl) _ _ _ (by rfl) w9.heap.size 111 i6 _ 6 80 Tryz.underlying25 hi6 h6a h6b h6c rfl (by omega) v1 Ps.length (Ps.flatMap ucells) (by rfl) hcc.own ⟨w6.heap.size, 0, none⟩ 1 1 (ucells (T', U')) (by rfl) (by rfl) (World.news_of_block (cs := #[.int .i64 T'.op, .int .i64 T'.n, .slice T'.A T'.args.length T'.c, .int .i64 U'.op, .int .i64 U'.n, .slice U'.A U'.args.length U'.c]) (t := 111) (fr := (0, 0)) (heap_alloc_new w6 _)) (by simp [ucells, Value.oneCell']) (by omega) (by unfold maxLen; omega) (by omega) (by have := HSZ9.out; have := hba6.size; simp; omega) (w6.heap.size + 1) (by simp) ?_
              intro g7 cap7 w7 hown7 hg7 hat7 hlt7
              have hs6a : (w6.alloc (.cells #[.int .i64 T'.op, .int .i64 T'.n, .slice T'.A T'.args.length T'.c, .int .i64 U'.op, .int .i64 U'.n, .slice U'.A U'.args.length U'.c] 111)).heap.size = w6.heap.size + 1 := by simp
              have hxk7 := (hg7.block wr.heap.size (Array.getElem?_eq_some_iff.1 hxk).1 (fun e => by have := (hnb _ e.symm).2; omega)).trans hxk
              have hDk7 := (hg7.block D (Array.getElem?_eq_some_iff.1 hDk).1 (fun e => by have := (hnb _ e.symm).1; have := HD.out.1; omega)).trans hDk
              refine hK.out _ _ (hX _ hxk7) (fun hHeld => ?_)
              clear hK K
              try simp only [Act.put, List.setIfInBounds_toArray, List.set_cons_zero, List.set_cons_succ]
              refine wpAnyH_take (i := 11) (oi := { dst := some 36, op := Op.fieldAddr 30 (Operand.tmp 3) 1, type := 0, pos := "ref.go:111", after := #[{ on := 0, ground := Ground.phase }, { on := 1, ground := Ground.phase }, { on := 2, ground := Ground.phase }, { on := 3, ground := Ground.phase }, { on := 4, ground := Ground.phase }, { on := 5, ground := Ground.phase }, { on := 6, ground := Ground.phase }, { on := 7, ground := Ground.phase }, { on := 8, ground := Ground.phase }, { on := 9, ground := Ground.phase }, { on := 10, ground := Ground.phase }], guard := none }) (v := .pointer (some ⟨D, 3, none⟩)) rfl (by kernel_rfl) (by kernel_rfl) (by kernel_rfl) (fun _ _ _ h => h) (Or.inl ⟨by rfl, by (intro w hSw; (try dsimp only at hSw); go_simp)⟩) (by assumption) ?_
              try simp only [Act.put, List.setIfInBounds_toArray, List.set_cons_zero, List.set_cons_succ]
              refine wpAnyH_ready (rs := [12]) (by kernel_rfl) (by simp) (AllReadyH.cons (o := { dst := none, op := Op.store 25 (Operand.tmp 36) (Operand.tmp 35), type := 0, pos := "ref.go:111", after := #[{ on := 11, ground := Ground.data }, { on := 10, ground := Ground.data }, { on := 10, ground := Ground.chain }, { on := 0, ground := Ground.phase }, { on := 1, ground := Ground.phase }, { on := 2, ground := Ground.phase }, { on := 3, ground := Ground.phase }, { on := 4, ground := Ground.phase }, { on := 5, ground := Ground.phase }, { on := 6, ground := Ground.phase }, { on := 7, ground := Ground.phase }, { on := 8, ground := Ground.phase }, { on := 9, ground := Ground.phase }, { on := 10, ground := Ground.phase }], guard := none }) rfl (fun K hK => ?_) AllReadyH.nil)
              have m1 := cell_of_blk hDk7 3
              have m3 := frozen_of_blk hDk7 3
              simp only [List.getElem?_toArray, List.getElem?_cons_zero, List.getElem?_cons_succ] at m1
              go_simp
              have hxk8 := (Below.heap_setCell w7 ⟨D, 3, none⟩ (.slice (some ⟨g7, 0, none⟩) (Ps.length + 1) cap7) wr.heap.size (by show wr.heap.size ≠ D; omega)).trans hxk7
              refine hK.out _ _ (hX _ hxk8) (fun hHeld => ?_)
              clear hK K
              try simp only [Act.put, List.setIfInBounds_toArray, List.set_cons_zero, List.set_cons_succ]
              refine wpAnyH_done (by kernel_rfl) ?_ _
              go_wp2
              have hx : Held wr.heap.size w6.heap.size w6 (inclI (T', U')) := (hhT.wide (by omega) (by omega) (Nat.le_refl _)).and (hhU.wide (by omega) (Nat.le_refl _) (Nat.le_refl _))
              obtain ⟨z1, z2, z3, z4, z5⟩ := kl_step (j := 3) HCO.out HBD.out HD.out.1 HSZ9.out hba6 hx hown7 hg7 hat7
              go_roundw
              case rel => exact ⟨k + 1, _, Ps ++ [(T', U')], by omega, by go_num, by rw [List.length_append, HTl.out]; rfl, by rw [List.map_append, HTm.out, hTK.out, ← HTt.out, ← HUt.out]; rfl, z1, z2, fun b h1 h2 => (z3 b h1 h2).trans (HSM.out b h1 h2), z4, HBW.out.trans (z5.mono HD.out.2.1)⟩
              case measure => simp [intOf]; omega
            · go_simp
              have hxa : Below w6.heap.size w6 (w6.alloc (.cells #[.int .i64 T'.op, .int .i64 T'.n, .slice T'.A T'.args.length T'.c, .int .i64 U'.op, .int .i64 U'.n, .slice U'.A U'.args.length U'.c] 111)) := (Below.refl _ _).alloc (Nat.le_refl _) _
              have hxk := (hxa.block wr.heap.size (Array.getElem?_eq_some_iff.1 hxk).1).trans hxk
              have hDk := (hxa.block D (Array.getElem?_eq_some_iff.1 hDk).1).trans hDk
              have hcc := hcc.later hxa
              refine hK.out _ _ (hX _ hxk) (fun hHeld => ?_)
              clear hK K
              try simp only [Act.put, List.setIfInBounds_toArray, List.set_cons_zero, List.set_cons_succ]
              refine wpAnyH_ready (rs := [1]) (by kernel_rfl) (by simp) (AllReadyH.cons (o := { dst := some 26, op := Op.load 25 (Operand.tmp 25), type := 25, pos := "ref.go:111", after := #[{ on := 0, ground := Ground.data }], guard := none }) rfl (fun K hK => ?_) AllReadyH.nil)
              have q1 := cell_of_blk hDk 3
              simp only [List.getElem?_toArray, List.getElem?_cons_zero, List.getElem?_cons_succ] at q1
              go_simp
              refine hK.out _ _ (hX _ hxk) (fun hHeld => ?_)
              clear hK K
              try simp only [Act.put, List.setIfInBounds_toArray, List.set_cons_zero, List.set_cons_succ]
              refine wpAnyH_ready (rs := [10]) (by kernel_rfl) (by simp) (AllReadyH.cons (o := { dst := some 35, op := Op.call { callee := Callee.builtin Builtin.append, args := #[Operand.tmp 26, Operand.tmp 34], argTypes := #[25, 25] }, type := 25, pos := "ref.go:111", after := #[{ on := 1, ground := Ground.data }, { on := 9, ground := Ground.data }, { on := 7, ground := Ground.chain }], guard := none }) rfl (fun K hK => ?_) AllReadyH.nil)
              refine step_append_lies _ (by rfl) _ _ _ (by rfl) w9.heap.size 111 i6 _ 6 80 Tryz.underlying25 hi6 h6a h6b h6c rfl (by omega) v1 Ps.length (Ps.flatMap ucells) (by rfl) hcc.own ⟨w6.heap.size, 0, none⟩ 1 1 (ucells (T', U')) (by rfl) (by rfl) (World.news_of_block (cs := #[.int .i64 T'.op, .int .i64 T'.n, .slice T'.A T'.args.length T'.c, .int .i64 U'.op, .int .i64 U'.n, .slice U'.A U'.args.length U'.c]) (t := 111) (fr := (0, 0)) (heap_alloc_new w6 _)) (by simp [ucells, Value.oneCell']) (by omega) (by unfold maxLen; omega) (by omega) (by have := HSZ9.out; have := hba6.size; simp; omega) (w6.heap.size + 1) (by simp) ?_
              intro g7 cap7 w7 hown7 hg7 hat7 hlt7
              have hs6a : (w6.alloc (.cells #[.int .i64 T'.op, .int .i64 T'.n, .slice T'.A T'.args.length T'.c, .int .i64 U'.op, .int .i64 U'.n, .slice U'.A U'.args.length U'.c] 111)).heap.size = w6.heap.size + 1 := by simp
              have hxk7 := (hg7.block wr.heap.size (Array.getElem?_eq_some_iff.1 hxk).1 (fun e => by have := (hnb _ e.symm).2; omega)).trans hxk
              have hDk7 := (hg7.block D (Array.getElem?_eq_some_iff.1 hDk).1 (fun e => by have := (hnb _ e.symm).1; have := HD.out.1; omega)).trans hDk
              refine hK.out _ _ (hX _ hxk7) (fun hHeld => ?_)
              clear hK K
              try simp only [Act.put, List.setIfInBounds_toArray, List.set_cons_zero, List.set_cons_succ]
              refine wpAnyH_take (i := 11) (oi := { dst := some 36, op := Op.fieldAddr 30 (Operand.tmp 3) 1, type := 0, pos := "ref.go:111", after := #[{ on := 0, ground := Ground.phase }, { on := 1, ground := Ground.phase }, { on := 2, ground := Ground.phase }, { on := 3, ground := Ground.phase }, { on := 4, ground := Ground.phase }, { on := 5, ground := Ground.phase }, { on := 6, ground := Ground.phase }, { on := 7, ground := Ground.phase }, { on := 8, ground := Ground.phase }, { on := 9, ground := Ground.phase }, { on := 10, ground := Ground.phase }], guard := none }) (v := .pointer (some ⟨D, 3, none⟩)) rfl (by kernel_rfl) (by kernel_rfl) (by kernel_rfl) (fun _ _ _ h => h) (Or.inl ⟨by rfl, by (intro w hSw; (try dsimp only at hSw); go_simp)⟩) (by assumption) ?_
              try simp only [Act.put, List.setIfInBounds_toArray, List.set_cons_zero, List.set_cons_succ]
              refine wpAnyH_ready (rs := [12]) (by kernel_rfl) (by simp) (AllReadyH.cons (o := { dst := none, op := Op.store 25 (Operand.tmp 36) (Operand.tmp 35), type := 0, pos := "ref.go:111", after := #[{ on := 11, ground := Ground.data }, { on := 10, ground := Ground.data }, { on := 10, ground := Ground.chain }, { on := 0, ground := Ground.phase }, { on := 1, ground := Ground.phase }, { on := 2, ground := Ground.phase }, { on := 3, ground := Ground.phase }, { on := 4, ground := Ground.phase }, { on := 5, ground := Ground.phase }, { on := 6, ground := Ground.phase }, { on := 7, ground := Ground.phase }, { on := 8, ground := Ground.phase }, { on := 9, ground := Ground.phase }, { on := 10, ground := Ground.phase }], guard := none }) rfl (fun K hK => ?_) AllReadyH.nil)
              have m1 := cell_of_blk hDk7 3
              have m3 := frozen_of_blk hDk7 3
              simp only [List.getElem?_toArray, List.getElem?_cons_zero, List.getElem?_cons_succ] at m1
              go_simp
              have hxk8 := (Below.heap_setCell w7 ⟨D, 3, none⟩ (.slice (some ⟨g7, 0, none⟩) (Ps.length + 1) cap7) wr.heap.size (by show wr.heap.size ≠ D; omega)).trans hxk7
              refine hK.out _ _ (hX _ hxk8) (fun hHeld => ?_)
              clear hK K
              try simp only [Act.put, List.setIfInBounds_toArray, List.set_cons_zero, List.set_cons_succ]
              refine wpAnyH_done (by kernel_rfl) ?_ _
              go_wp2
              have hx : Held wr.heap.size w6.heap.size w6 (inclI (T', U')) := (hhT.wide (by omega) (by omega) (Nat.le_refl _)).and (hhU.wide (by omega) (Nat.le_refl _) (Nat.le_refl _))
              obtain ⟨z1, z2, z3, z4, z5⟩ := kl_step (j := 3) HCO.out HBD.out HD.out.1 HSZ9.out hba6 hx hown7 hg7 hat7
              go_roundw
              case rel => exact ⟨k + 1, _, Ps ++ [(T', U')], by omega, by go_num, by rw [List.length_append, HTl.out]; rfl, by rw [List.map_append, HTm.out, hTK.out, ← HTt.out, ← HUt.out]; rfl, z1, z2, fun b h1 h2 => (z3 b h1 h2).trans (HSM.out b h1 h2), z4, HBW.out.trans (z5.mono HD.out.2.1)⟩
              case measure => simp [intOf]; omega
      · have hke : k = b.I.length := by omega
        subst hke
        obtain ⟨A6, k6, hv6, hl6, hc6, hh6⟩ := hco.all
        subst hv6
        rw [List.take_length] at hTm
        obtain ⟨c0, c1, c2, c3, c4, c5, c6⟩ := HS.out wr hbw
        have HH6 := Lib.hid (And.intro hl6 (And.intro hc6 hh6))
        have HTM6 := Lib.hid (And.intro hTl hTm)
        have HBW6 := Lib.hid hbw
        have HBD6 := Lib.hid hbD
        have HSM6 := Lib.hid hsame
        have HSZ6 := Lib.hid hsz9
        have HD6 := Lib.hid (show D < wr.heap.size ∧ W2.heap.size ≤ D from ⟨Nat.lt_of_lt_of_le HD.out.1 hsz9, HD.out.2.1⟩)
        clear hco hTm hTl hbw hbD hsame hsz9 hl6 hc6 hh6
        go_wp2_with fail
        clear c0 c1 c2 c3 c4 c5 c6
        obtain ⟨wm, hwm⟩ : ∃ wm, wr = wm := ⟨_, rfl⟩
        rw [hwm] at HH6 HBW6 HBD6 HSM6 HSZ6 HD6 ⊢
        clear hwm
        go_loopw [41] (fun i' wr => ∃ (k : Nat) (v1 : Value) (Qs : List (Int × MT)), k ≤ b.F.length ∧ i' = .int .i64 (k : Nat) ∧ Qs.length = k ∧ Qs.map (fun p => (p.1, p.2.tr)) = (b.F.take k).map (fun p => (p.1, p.2.tr)) ∧ wr.heap[D]? = some (.cells #[.slice m.C.A m.C.l.length m.C.c, .slice m.R.A m.R.l.length m.R.c, .slice m.I.A m.I.l.length m.I.c, .slice A6 Ps.length k6, .slice A4 b.R.l.length k4, v1, .slice A5 b.L.l.length k5] 30) ∧ CollH fcells 4 96 factI D wm.heap.size wr v1 Qs ∧ (∀ b, b < wm.heap.size → b ≠ D → wr.heap[b]? = wm.heap[b]?) ∧ wm.heap.size ≤ wr.heap.size ∧ Below W2.heap.size W2 wr) (fun i' _ => b.F.length - (intOf i').toNat)
        case atStart => exact ⟨0, _, [], Nat.zero_le _, rfl, rfl, rfl, HBD6.out, CollH.nil, fun _ _ _ => rfl, Nat.le_refl _, HBW6.out⟩
        case round =>
          rename World => wr
          obtain ⟨k, v1, Qs, hk, rfl, hTl, hTm, hbD, hco, hsame, hsz9, hbw⟩ := hrel
          by_cases hlt : k < b.F.length
          · obtain ⟨g, off, hA, hg, e0, e1, e2, e3⟩ := (HIL.out wr hbw).fact hlt
            have h0K : (0 : Int) ≤ k := by omega
            have hlK : (k : Int) < b.F.length := by omega
            have m1 : b.F[k].2 ∈ b.cons := by rw [BN.cons]; exact List.mem_append_right _ (List.mem_map.2 ⟨_, List.getElem_mem hlt, rfl⟩)
            have hc1 := fun w' (h : Below W2.heap.size W2 w') => rCopy_any b.F[k].2 w' ((HIL.out w' h).f4 _ (List.getElem_mem hlt)) (HSZ.out _ m1)
            have hTK := Lib.hid (show (b.F.take (k + 1)).map (fun p => (p.1, p.2.tr)) = (b.F.take k).map (fun p => (p.1, p.2.tr)) ++ [(b.F[k].1, b.F[k].2.tr)] by rw [List.take_succ_eq_append_getElem hlt, List.map_append]; rfl)
            obtain ⟨Wa, hWa, hBa, hsa, hka⟩ := newBlk wr _ rfl #[.int .i64 b.F[k].1, .int .i64 b.F[k].2.op, .int .i64 b.F[k].2.n, .slice b.F[k].2.A b.F[k].2.args.length b.F[k].2.c] 96
            have HTm := Lib.hid hTm
            have HTl := Lib.hid hTl
            have hTl3 : Qs.length ≤ 1000 := by omega
            have HCO := Lib.hid hco
            have HBW := Lib.hid hbw
            have HBD := Lib.hid hbD
            have HSM := Lib.hid hsame
            have HKA := Lib.hid hka
            have HBA := Lib.hid hBa
            have HSA := Lib.hid hsa
            have hDw : D < wr.heap.size := (Array.getElem?_eq_some_iff.1 hbD).1
            have HSZ9 := Lib.hid hsz9
            have hC1 := Lib.hid hc1
            simp only [MT.val] at hC1
            rw [hA]
            clear hTl hTm hbD hco hsame hbw hA hka hBa hsa hc1 m1 hsz9
            generalize b.F[k].1 = z at e0 hWa HKA hTK
            generalize b.F[k].2 = T at e1 e2 e3 hWa HKA hC1 hTK
            have hd : Below W2.heap.size W2 Wa.drew := (HBW.out.trans (HBA.out.mono HBW.out.size)).drew
            have hX : ∀ w' : World, w'.heap[wr.heap.size]? = some (.cells #[.int .i64 z, .int .i64 T.op, .int .i64 T.n, .slice T.A T.args.length T.c] 96) → (w'.cell? ⟨wr.heap.size, 0, none⟩ = some (.int .i64 z) ∧ w'.cell? ⟨wr.heap.size, 1, none⟩ = some (.int .i64 T.op) ∧ w'.cell? ⟨wr.heap.size, 2, none⟩ = some (.int .i64 T.n) ∧ w'.cell? ⟨wr.heap.size, 3, none⟩ = some (.slice T.A T.args.length T.c)) := fun w' h => ⟨cell_of_blk h 0, cell_of_blk h 1, cell_of_blk h 2, cell_of_blk h 3⟩
            have hxk : Wa.drew.heap[wr.heap.size]? = some (.cells #[.int .i64 z, .int .i64 T.op, .int .i64 T.n, .slice T.A T.args.length T.c] 96) := HKA.out
            have hDk : Wa.drew.heap[D]? = some (.cells #[.slice m.C.A m.C.l.length m.C.c, .slice m.R.A m.R.l.length m.R.c, .slice m.I.A m.I.l.length m.I.c, .slice A6 Ps.length k6, .slice A4 b.R.l.length k4, v1, .slice A5 b.L.l.length k5] 30) := (HBA.out.block D hDw).trans HBD.out
            have hcc := HCO.out.later HBA.out.drew
            have hwd : Wa.drew.heap.size = Wa.heap.size := rfl
            have hba6 : Below wr.heap.size wr Wa.drew := HBA.out.drew
            have hle0 := hba6.size
            have hnb : ∀ g, v1.ownBlock = some g → wm.heap.size ≤ g ∧ g < wr.heap.size := fun g e => own_lt HCO.out.own e
            go_wp2_with fail
            refine wp_region_held_drew (S := fun w' => w'.cell? ⟨wr.heap.size, 0, none⟩ = some (.int .i64 z) ∧ w'.cell? ⟨wr.heap.size, 1, none⟩ = some (.int .i64 T.op) ∧ w'.cell? ⟨wr.heap.size, 2, none⟩ = some (.int .i64 T.n) ∧ w'.cell? ⟨wr.heap.size, 3, none⟩ = some (.slice T.A T.args.length T.c)) (by kernel_rfl) (hX _ hxk) (fun hHeld => ?_)
            refine wpAnyH_take (i := 0) (oi := { dst := some 45, op := Op.fieldAddr 30 (Operand.tmp 3) 3, type := 0, pos := "ref.go:114", after := #[], guard := none }) (v := .pointer (some ⟨D, 5, none⟩)) rfl (by kernel_rfl) (by kernel_rfl) (by kernel_rfl) (fun _ _ _ h => h) (Or.inl ⟨by rfl, by (intro w hSw; (try dsimp only at hSw); go_simp)⟩) (by assumption) ?_
            try simp only [Act.put, List.setIfInBounds_toArray, List.set_cons_zero, List.set_cons_succ]
            refine wpAnyH_take (i := 2) (oi := { dst := some 47, op := Op.fieldAddr 96 (Operand.tmp 7) 0, type := 0, pos := "ref.go:114", after := #[], guard := none }) (v := .pointer (some ⟨wr.heap.size, 0, none⟩)) rfl (by kernel_rfl) (by kernel_rfl) (by kernel_rfl) (fun _ _ _ h => h) (Or.inl ⟨by rfl, by (intro w hSw; (try dsimp only at hSw); go_simp)⟩) (by assumption) ?_
            try simp only [Act.put, List.setIfInBounds_toArray, List.set_cons_zero, List.set_cons_succ]
            refine wpAnyH_take (i := 3) (oi := { dst := some 48, op := Op.load 3 (Operand.tmp 47), type := 3, pos := "ref.go:114", after := #[{ on := 2, ground := Ground.data }], guard := none }) (v := .int .i64 z) rfl (by kernel_rfl) (by kernel_rfl) (by kernel_rfl) (fun _ _ _ h => h) (Or.inl ⟨by rfl, by (intro w hSw; (try dsimp only at hSw); go_simp)⟩) (by assumption) ?_
            try simp only [Act.put, List.setIfInBounds_toArray, List.set_cons_zero, List.set_cons_succ]
            refine wpAnyH_take (i := 4) (oi := { dst := some 49, op := Op.fieldAddr 96 (Operand.tmp 7) 1, type := 0, pos := "ref.go:114", after := #[], guard := none }) (v := .pointer (some ⟨wr.heap.size, 1, none⟩)) rfl (by kernel_rfl) (by kernel_rfl) (by kernel_rfl) (fun _ _ _ h => h) (Or.inl ⟨by rfl, by (intro w hSw; (try dsimp only at hSw); go_simp)⟩) (by assumption) ?_
            try simp only [Act.put, List.setIfInBounds_toArray, List.set_cons_zero, List.set_cons_succ]
            refine wpAnyH_take (i := 5) (oi := { dst := some 50, op := Op.load 33 (Operand.tmp 49), type := 33, pos := "ref.go:114", after := #[{ on := 4, ground := Ground.data }], guard := none }) (v := .agg #[.int .i64 T.op, .int .i64 T.n, .slice T.A T.args.length T.c]) rfl (by kernel_rfl) (by kernel_rfl) (by kernel_rfl) (fun _ _ _ h => h) (Or.inl ⟨by rfl, by (intro w hSw; (try dsimp only at hSw); go_simp)⟩) (by assumption) ?_
            try simp only [Act.put, List.setIfInBounds_toArray, List.set_cons_zero, List.set_cons_succ]
            refine wpAnyH_ready (rs := [1, 6]) (by kernel_rfl) (by simp) (AllReadyH.cons (o := { dst := some 46, op := Op.load 27 (Operand.tmp 45), type := 27, pos := "ref.go:114", after := #[{ on := 0, ground := Ground.data }], guard := none }) rfl (fun K hK => ?_) (AllReadyH.cons (o := { dst := some 51, op := Op.call { callee := Callee.value (Operand.func 43), args := #[Operand.tmp 50], argTypes := #[33] }, type := 33, pos := "ref.go:114", after := #[{ on := 5, ground := Ground.data }], guard := none }) rfl (fun K hK => ?_) AllReadyH.nil))
            · have q1 := cell_of_blk hDk 5
              simp only [List.getElem?_toArray, List.getElem?_cons_zero, List.getElem?_cons_succ] at q1
              go_simp
              refine hK.out _ _ (hX _ hxk) (fun hHeld => ?_)
              clear hK K
              try simp only [Act.put, List.setIfInBounds_toArray, List.set_cons_zero, List.set_cons_succ]
              refine wpAnyH_ready (rs := [6]) (by kernel_rfl) (by simp) (AllReadyH.cons (o := { dst := some 51, op := Op.call { callee := Callee.value (Operand.func 43), args := #[Operand.tmp 50], argTypes := #[33] }, type := 33, pos := "ref.go:114", after := #[{ on := 5, ground := Ground.data }], guard := none }) rfl (fun K hK => ?_) AllReadyH.nil)
              go_simp
              go_at_call 43
              refine (hC1.out _ hd).mono ?_
              rintro e w6 ⟨T', rfl, hTt, hnT, hx6⟩
              have HTt := Lib.hid hTt
              clear hTt
              have hd6 : Below W2.heap.size W2 w6 := hd.trans (hx6.mono hd.size)
              have hba6 : Below wr.heap.size wr w6 := hba6.trans (hx6.mono hba6.size)
              have hs6 := hx6.size
              have hle6 := hba6.size
              have hhT := held_tree hnT
              have hxk := (hx6.block wr.heap.size (Array.getElem?_eq_some_iff.1 hxk).1).trans hxk
              have hDk := (hx6.block D (Array.getElem?_eq_some_iff.1 hDk).1).trans hDk
              have hcc := hcc.later hx6
              refine hK.out _ _ (hX _ hxk) (fun hHeld => ?_)
              clear hK K
              try simp only [Act.put, List.setIfInBounds_toArray, List.set_cons_zero, List.set_cons_succ]
              refine wpAnyH_take (i := 7) (oi := { dst := some 52, op := Op.build 96 #[(0, Operand.tmp 48), (1, Operand.tmp 51)], type := 96, pos := "ref.go:114", after := #[{ on := 3, ground := Ground.data }, { on := 6, ground := Ground.data }], guard := none }) (v := .agg #[.int .i64 z, .int .i64 T'.op, .int .i64 T'.n, .slice T'.A T'.args.length T'.c]) rfl (by kernel_rfl) (by kernel_rfl) (by kernel_rfl) (fun _ _ _ h => h) (Or.inl ⟨by rfl, by (intro w hSw; (try dsimp only at hSw); go_simp)⟩) (by assumption) ?_
              try simp only [Act.put, List.setIfInBounds_toArray, List.set_cons_zero, List.set_cons_succ]
              refine wpAnyH_ready (rs := [8]) (by kernel_rfl) (by simp) (AllReadyH.cons (o := { dst := some 53, op := Op.buildSlice 27 1 #[(0, Operand.tmp 52)], type := 27, pos := "ref.go:114", after := #[{ on := 7, ground := Ground.data }], guard := none }) rfl (fun K hK => ?_) AllReadyH.nil)
              go_simp
              have hxa : Below w6.heap.size w6 (w6.alloc (.cells #[.int .i64 z, .int .i64 T'.op, .int .i64 T'.n, .slice T'.A T'.args.length T'.c] 96)) := (Below.refl _ _).alloc (Nat.le_refl _) _
              have hxk := (hxa.block wr.heap.size (Array.getElem?_eq_some_iff.1 hxk).1).trans hxk
              have hDk := (hxa.block D (Array.getElem?_eq_some_iff.1 hDk).1).trans hDk
              have hcc := hcc.later hxa
              refine hK.out _ _ (hX _ hxk) (fun hHeld => ?_)
              clear hK K
              try simp only [Act.put, List.setIfInBounds_toArray, List.set_cons_zero, List.set_cons_succ]
              refine wpAnyH_ready (rs := [9]) (by kernel_rfl) (by simp) (AllReadyH.cons (o := { dst := some 54, op := Op.call { callee := Callee.builtin Builtin.append, args := #[Operand.tmp 46, Operand.tmp 53], argTypes := #[27, 27] }, type := 27, pos := "ref.go:114", after := #[{ on := 1, ground := Ground.data }, { on := 8, ground := Ground.data }, { on := 6, ground := Ground.chain }], guard := none }) rfl (fun K hK => ?_) AllReadyH.nil)
              refine step_append_lies _ (by rfl) _ _ _ (by rfl) wm.heap.size 96 i7 _ 4 48 Tryz.underlying27 hi7 h7a h7b h7c rfl (by omega) v1 Qs.length (Qs.flatMap fcells) (by rfl) hcc.own ⟨w6.heap.size, 0, none⟩ 1 1 (fcells (z, T')) (by rfl) (by rfl) (World.news_of_block (cs := #[.int .i64 z, .int .i64 T'.op, .int .i64 T'.n, .slice T'.A T'.args.length T'.c]) (t := 96) (fr := (0, 0)) (heap_alloc_new w6 _)) (by simp [fcells, Value.oneCell']) (by omega) (by unfold maxLen; omega) (by omega) (by have := HSZ9.out; have := hba6.size; simp; omega) (w6.heap.size + 1) (by simp) ?_
              intro g7 cap7 w7 hown7 hg7 hat7 hlt7
              have hs6a : (w6.alloc (.cells #[.int .i64 z, .int .i64 T'.op, .int .i64 T'.n, .slice T'.A T'.args.length T'.c] 96)).heap.size = w6.heap.size + 1 := by simp
              have hxk7 := (hg7.block wr.heap.size (Array.getElem?_eq_some_iff.1 hxk).1 (fun e => by have := (hnb _ e.symm).2; omega)).trans hxk
              have hDk7 := (hg7.block D (Array.getElem?_eq_some_iff.1 hDk).1 (fun e => by have := (hnb _ e.symm).1; have := HD6.out.1; omega)).trans hDk
              refine hK.out _ _ (hX _ hxk7) (fun hHeld => ?_)
              clear hK K
              try simp only [Act.put, List.setIfInBounds_toArray, List.set_cons_zero, List.set_cons_succ]
              refine wpAnyH_take (i := 10) (oi := { dst := some 55, op := Op.fieldAddr 30 (Operand.tmp 3) 3, type := 0, pos := "ref.go:114", after := #[{ on := 0, ground := Ground.phase }, { on := 1, ground := Ground.phase }, { on := 2, ground := Ground.phase }, { on := 3, ground := Ground.phase }, { on := 4, ground := Ground.phase }, { on := 5, ground := Ground.phase }, { on := 6, ground := Ground.phase }, { on := 7, ground := Ground.phase }, { on := 8, ground := Ground.phase }, { on := 9, ground := Ground.phase }], guard := none }) (v := .pointer (some ⟨D, 5, none⟩)) rfl (by kernel_rfl) (by kernel_rfl) (by kernel_rfl) (fun _ _ _ h => h) (Or.inl ⟨by rfl, by (intro w hSw; (try dsimp only at hSw); go_simp)⟩) (by assumption) ?_
              try simp only [Act.put, List.setIfInBounds_toArray, List.set_cons_zero, List.set_cons_succ]
              refine wpAnyH_ready (rs := [11]) (by kernel_rfl) (by simp) (AllReadyH.cons (o := { dst := none, op := Op.store 27 (Operand.tmp 55) (Operand.tmp 54), type := 0, pos := "ref.go:114", after := #[{ on := 10, ground := Ground.data }, { on := 9, ground := Ground.data }, { on := 9, ground := Ground.chain }, { on := 0, ground := Ground.phase }, { on := 1, ground := Ground.phase }, { on := 2, ground := Ground.phase }, { on := 3, ground := Ground.phase }, { on := 4, ground := Ground.phase }, { on := 5, ground := Ground.phase }, { on := 6, ground := Ground.phase }, { on := 7, ground := Ground.phase }, { on := 8, ground := Ground.phase }, { on := 9, ground := Ground.phase }], guard := none }) rfl (fun K hK => ?_) AllReadyH.nil)
              have m1 := cell_of_blk hDk7 5
              have m3 := frozen_of_blk hDk7 5
              simp only [List.getElem?_toArray, List.getElem?_cons_zero, List.getElem?_cons_succ] at m1
              go_simp
              have hxk8 := (Below.heap_setCell w7 ⟨D, 5, none⟩ (.slice (some ⟨g7, 0, none⟩) (Qs.length + 1) cap7) wr.heap.size (by show wr.heap.size ≠ D; omega)).trans hxk7
              refine hK.out _ _ (hX _ hxk8) (fun hHeld => ?_)
              clear hK K
              try simp only [Act.put, List.setIfInBounds_toArray, List.set_cons_zero, List.set_cons_succ]
              refine wpAnyH_done (by kernel_rfl) ?_ _
              go_wp2
              have hx : Held wr.heap.size w6.heap.size w6 (factI (z, T')) := hhT.wide (by omega) (Nat.le_refl _) (Nat.le_refl _)
              obtain ⟨z1, z2, z3, z4, z5⟩ := kl_step (j := 5) HCO.out HBD.out HD6.out.1 HSZ9.out hba6 hx hown7 hg7 hat7
              go_roundw
              case rel => exact ⟨k + 1, _, Qs ++ [(z, T')], by omega, by go_num, by rw [List.length_append, HTl.out]; rfl, by rw [List.map_append, HTm.out, hTK.out, ← HTt.out]; rfl, z1, z2, fun b h1 h2 => (z3 b h1 h2).trans (HSM.out b h1 h2), z4, HBW.out.trans (z5.mono HD6.out.2)⟩
              case measure => simp [intOf]; omega
            · go_simp
              go_at_call 43
              refine (hC1.out _ hd).mono ?_
              rintro e w6 ⟨T', rfl, hTt, hnT, hx6⟩
              have HTt := Lib.hid hTt
              clear hTt
              have hd6 : Below W2.heap.size W2 w6 := hd.trans (hx6.mono hd.size)
              have hba6 : Below wr.heap.size wr w6 := hba6.trans (hx6.mono hba6.size)
              have hs6 := hx6.size
              have hle6 := hba6.size
              have hhT := held_tree hnT
              have hxk := (hx6.block wr.heap.size (Array.getElem?_eq_some_iff.1 hxk).1).trans hxk
              have hDk := (hx6.block D (Array.getElem?_eq_some_iff.1 hDk).1).trans hDk
              have hcc := hcc.later hx6
              refine hK.out _ _ (hX _ hxk) (fun hHeld => ?_)
              clear hK K
              try simp only [Act.put, List.setIfInBounds_toArray, List.set_cons_zero, List.set_cons_succ]
              refine wpAnyH_take (i := 7) (oi := { dst := some 52, op := Op.build 96 #[(0, Operand.tmp 48), (1, Operand.tmp 51)], type := 96, pos := "ref.go:114", after := #[{ on := 3, ground := Ground.data }, { on := 6, ground := Ground.data }], guard := none }) (v := .agg #[.int .i64 z, .int .i64 T'.op, .int .i64 T'.n, .slice T'.A T'.args.length T'.c]) rfl (by kernel_rfl) (by kernel_rfl) (by kernel_rfl) (fun _ _ _ h => h) (Or.inl ⟨by rfl, by (intro w hSw; (try dsimp only at hSw); go_simp)⟩) (by assumption) ?_
              try simp only [Act.put, List.setIfInBounds_toArray, List.set_cons_zero, List.set_cons_succ]
              refine wpAnyH_ready (rs := [1, 8]) (by kernel_rfl) (by simp) (AllReadyH.cons (o := { dst := some 46, op := Op.load 27 (Operand.tmp 45), type := 27, pos := "ref.go:114", after := #[{ on := 0, ground := Ground.data }], guard := none }) rfl (fun K hK => ?_) (AllReadyH.cons (o := { dst := some 53, op := Op.buildSlice 27 1 #[(0, Operand.tmp 52)], type := 27, pos := "ref.go:114", after := #[{ on := 7, ground := Ground.data }], guard := none }) rfl (fun K hK => ?_) AllReadyH.nil))
              · have q1 := cell_of_blk hDk 5
                simp only [List.getElem?_toArray, List.getElem?_cons_zero, List.getElem?_cons_succ] at q1
                go_simp
                refine hK.out _ _ (hX _ hxk) (fun hHeld => ?_)
                clear hK K
                try simp only [Act.put, List.setIfInBounds_toArray, List.set_cons_zero, List.set_cons_succ]
                refine wpAnyH_ready (rs := [8]) (by kernel_rfl) (by simp) (AllReadyH.cons (o := { dst := some 53, op := Op.buildSlice 27 1 #[(0, Operand.tmp 52)], type := 27, pos := "ref.go:114", after := #[{ on := 7, ground := Ground.data }], guard := none }) rfl (fun K hK => ?_) AllReadyH.nil)
                go_simp
                have hxa : Below w6.heap.size w6 (w6.alloc (.cells #[.int .i64 z, .int .i64 T'.op, .int .i64 T'.n, .slice T'.A T'.args.length T'.c] 96)) := (Below.refl _ _).alloc (Nat.le_refl _) _
                have hxk := (hxa.block wr.heap.size (Array.getElem?_eq_some_iff.1 hxk).1).trans hxk
                have hDk := (hxa.block D (Array.getElem?_eq_some_iff.1 hDk).1).trans hDk
                have hcc := hcc.later hxa
                refine hK.out _ _ (hX _ hxk) (fun hHeld => ?_)
                clear hK K
                try simp only [Act.put, List.setIfInBounds_toArray, List.set_cons_zero, List.set_cons_succ]
                refine wpAnyH_ready (rs := [9]) (by kernel_rfl) (by simp) (AllReadyH.cons (o := { dst := some 54, op := Op.call { callee := Callee.builtin Builtin.append, args := #[Operand.tmp 46, Operand.tmp 53], argTypes := #[27, 27] }, type := 27, pos := "ref.go:114", after := #[{ on := 1, ground := Ground.data }, { on := 8, ground := Ground.data }, { on := 6, ground := Ground.chain }], guard := none }) rfl (fun K hK => ?_) AllReadyH.nil)
                refine step_append_lies _ (by rfl) _ _ _ (by rfl) wm.heap.size 96 i7 _ 4 48 Tryz.underlying27 hi7 h7a h7b h7c rfl (by omega) v1 Qs.length (Qs.flatMap fcells) (by rfl) hcc.own ⟨w6.heap.size, 0, none⟩ 1 1 (fcells (z, T')) (by rfl) (by rfl) (World.news_of_block (cs := #[.int .i64 z, .int .i64 T'.op, .int .i64 T'.n, .slice T'.A T'.args.length T'.c]) (t := 96) (fr := (0, 0)) (heap_alloc_new w6 _)) (by simp [fcells, Value.oneCell']) (by omega) (by unfold maxLen; omega) (by omega) (by have := HSZ9.out; have := hba6.size; simp; omega) (w6.heap.size + 1) (by simp) ?_
                intro g7 cap7 w7 hown7 hg7 hat7 hlt7
                have hs6a : (w6.alloc (.cells #[.int .i64 z, .int .i64 T'.op, .int .i64 T'.n, .slice T'.A T'.args.length T'.c] 96)).heap.size = w6.heap.size + 1 := by simp
                have hxk7 := (hg7.block wr.heap.size (Array.getElem?_eq_some_iff.1 hxk).1 (fun e => by have := (hnb _ e.symm).2; omega)).trans hxk
                have hDk7 := (hg7.block D (Array.getElem?_eq_some_iff.1 hDk).1 (fun e => by have := (hnb _ e.symm).1; have := HD6.out.1; omega)).trans hDk
                refine hK.out _ _ (hX _ hxk7) (fun hHeld => ?_)
                clear hK K
                try simp only [Act.put, List.setIfInBounds_toArray, List.set_cons_zero, List.set_cons_succ]
                refine wpAnyH_take (i := 10) (oi := { dst := some 55, op := Op.fieldAddr 30 (Operand.tmp 3) 3, type := 0, pos := "ref.go:114", after := #[{ on := 0, ground := Ground.phase }, { on := 1, ground := Ground.phase }, { on := 2, ground := Ground.phase }, { on := 3, ground := Ground.phase }, { on := 4, ground := Ground.phase }, { on := 5, ground := Ground.phase }, { on := 6, ground := Ground.phase }, { on := 7, ground := Ground.phase }, { on := 8, ground := Ground.phase }, { on := 9, ground := Ground.phase }], guard := none }) (v := .pointer (some ⟨D, 5, none⟩)) rfl (by kernel_rfl) (by kernel_rfl) (by kernel_rfl) (fun _ _ _ h => h) (Or.inl ⟨by rfl, by (intro w hSw; (try dsimp only at hSw); go_simp)⟩) (by assumption) ?_
                try simp only [Act.put, List.setIfInBounds_toArray, List.set_cons_zero, List.set_cons_succ]
                refine wpAnyH_ready (rs := [11]) (by kernel_rfl) (by simp) (AllReadyH.cons (o := { dst := none, op := Op.store 27 (Operand.tmp 55) (Operand.tmp 54), type := 0, pos := "ref.go:114", after := #[{ on := 10, ground := Ground.data }, { on := 9, ground := Ground.data }, { on := 9, ground := Ground.chain }, { on := 0, ground := Ground.phase }, { on := 1, ground := Ground.phase }, { on := 2, ground := Ground.phase }, { on := 3, ground := Ground.phase }, { on := 4, ground := Ground.phase }, { on := 5, ground := Ground.phase }, { on := 6, ground := Ground.phase }, { on := 7, ground := Ground.phase }, { on := 8, ground := Ground.phase }, { on := 9, ground := Ground.phase }], guard := none }) rfl (fun K hK => ?_) AllReadyH.nil)
                have m1 := cell_of_blk hDk7 5
                have m3 := frozen_of_blk hDk7 5
                simp only [List.getElem?_toArray, List.getElem?_cons_zero, List.getElem?_cons_succ] at m1
                go_simp
                have hxk8 := (Below.heap_setCell w7 ⟨D, 5, none⟩ (.slice (some ⟨g7, 0, none⟩) (Qs.length + 1) cap7) wr.heap.size (by show wr.heap.size ≠ D; omega)).trans hxk7
                refine hK.out _ _ (hX _ hxk8) (fun hHeld => ?_)
                clear hK K
                try simp only [Act.put, List.setIfInBounds_toArray, List.set_cons_zero, List.set_cons_succ]
                refine wpAnyH_done (by kernel_rfl) ?_ _
                go_wp2
                have hx : Held wr.heap.size w6.heap.size w6 (factI (z, T')) := hhT.wide (by omega) (Nat.le_refl _) (Nat.le_refl _)
                obtain ⟨z1, z2, z3, z4, z5⟩ := kl_step (j := 5) HCO.out HBD.out HD6.out.1 HSZ9.out hba6 hx hown7 hg7 hat7
                go_roundw
                case rel => exact ⟨k + 1, _, Qs ++ [(z, T')], by omega, by go_num, by rw [List.length_append, HTl.out]; rfl, by rw [List.map_append, HTm.out, hTK.out, ← HTt.out]; rfl, z1, z2, fun b h1 h2 => (z3 b h1 h2).trans (HSM.out b h1 h2), z4, HBW.out.trans (z5.mono HD6.out.2)⟩
                case measure => simp [intOf]; omega
              · go_simp
                have hxa : Below w6.heap.size w6 (w6.alloc (.cells #[.int .i64 z, .int .i64 T'.op, .int .i64 T'.n, .slice T'.A T'.args.length T'.c] 96)) := (Below.refl _ _).alloc (Nat.le_refl _) _
                have hxk := (hxa.block wr.heap.size (Array.getElem?_eq_some_iff.1 hxk).1).trans hxk
                have hDk := (hxa.block D (Array.getElem?_eq_some_iff.1 hDk).1).trans hDk
                have hcc := hcc.later hxa
                refine hK.out _ _ (hX _ hxk) (fun hHeld => ?_)
                clear hK K
                try simp only [Act.put, List.setIfInBounds_toArray, List.set_cons_zero, List.set_cons_succ]
                refine wpAnyH_ready (rs := [1]) (by kernel_rfl) (by simp) (AllReadyH.cons (o := { dst := some 46, op := Op.load 27 (Operand.tmp 45), type := 27, pos := "ref.go:114", after := #[{ on := 0, ground := Ground.data }], guard := none }) rfl (fun K hK => ?_) AllReadyH.nil)
                have q1 := cell_of_blk hDk 5
                simp only [List.getElem?_toArray, List.getElem?_cons_zero, List.getElem?_cons_succ] at q1
                go_simp
                refine hK.out _ _ (hX _ hxk) (fun hHeld => ?_)
                clear hK K
                try simp only [Act.put, List.setIfInBounds_toArray, List.set_cons_zero, List.set_cons_succ]
                refine wpAnyH_ready (rs := [9]) (by kernel_rfl) (by simp) (AllReadyH.cons (o := { dst := some 54, op := Op.call { callee := Callee.builtin Builtin.append, args := #[Operand.tmp 46, Operand.tmp 53], argTypes := #[27, 27] }, type := 27, pos := "ref.go:114", after := #[{ on := 1, ground := Ground.data }, { on := 8, ground := Ground.data }, { on := 6, ground := Ground.chain }], guard := none }) rfl (fun K hK => ?_) AllReadyH.nil)
                refine step_append_lies _ (by rfl) _ _ _ (by rfl) wm.heap.size 96 i7 _ 4 48 Tryz.underlying27 hi7 h7a h7b h7c rfl (by omega) v1 Qs.length (Qs.flatMap fcells) (by rfl) hcc.own ⟨w6.heap.size, 0, none⟩ 1 1 (fcells (z, T')) (by rfl) (by rfl) (World.news_of_block (cs := #[.int .i64 z, .int .i64 T'.op, .int .i64 T'.n, .slice T'.A T'.args.length T'.c]) (t := 96) (fr := (0, 0)) (heap_alloc_new w6 _)) (by simp [fcells, Value.oneCell']) (by omega) (by unfold maxLen; omega) (by omega) (by have := HSZ9.out; have := hba6.size; simp; omega) (w6.heap.size + 1) (by simp) ?_
                intro g7 cap7 w7 hown7 hg7 hat7 hlt7
                have hs6a : (w6.alloc (.cells #[.int .i64 z, .int .i64 T'.op, .int .i64 T'.n, .slice T'.A T'.args.length T'.c] 96)).heap.size = w6.heap.size + 1 := by simp
                have hxk7 := (hg7.block wr.heap.size (Array.getElem?_eq_some_iff.1 hxk).1 (fun e => by have := (hnb _ e.symm).2; omega)).trans hxk
                have hDk7 := (hg7.block D (Array.getElem?_eq_some_iff.1 hDk).1 (fun e => by have := (hnb _ e.symm).1; have := HD6.out.1; omega)).trans hDk
                refine hK.out _ _ (hX _ hxk7) (fun hHeld => ?_)
                clear hK K
                try simp only [Act.put, List.setIfInBounds_toArray, List.set_cons_zero, List.set_cons_succ]
                refine wpAnyH_take (i := 10) (oi := { dst := some 55, op := Op.fieldAddr 30 (Operand.tmp 3) 3, type := 0, pos := "ref.go:114", after := #[{ on := 0, ground := Ground.phase }, { on := 1, ground := Ground.phase }, { on := 2, ground := Ground.phase }, { on := 3, ground := Ground.phase }, { on := 4, ground := Ground.phase }, { on := 5, ground := Ground.phase }, { on := 6, ground := Ground.phase }, { on := 7, ground := Ground.phase }, { on := 8, ground := Ground.phase }, { on := 9, ground := Ground.phase }], guard := none }) (v := .pointer (some ⟨D, 5, none⟩)) rfl (by kernel_rfl) (by kernel_rfl) (by kernel_rfl) (fun _ _ _ h => h) (Or.inl ⟨by rfl, by (intro w hSw; (try dsimp only at hSw); go_simp)⟩) (by assumption) ?_
                try simp only [Act.put, List.setIfInBounds_toArray, List.set_cons_zero, List.set_cons_succ]
                refine wpAnyH_ready (rs := [11]) (by kernel_rfl) (by simp) (AllReadyH.cons (o := { dst := none, op := Op.store 27 (Operand.tmp 55) (Operand.tmp 54), type := 0, pos := "ref.go:114", after := #[{ on := 10, ground := Ground.data }, { on := 9, ground := Ground.data }, { on := 9, ground := Ground.chain }, { on := 0, ground := Ground.phase }, { on := 1, ground := Ground.phase }, { on := 2, ground := Ground.phase }, { on := 3, ground := Ground.phase }, { on := 4, ground := Ground.phase }, { on := 5, ground := Ground.phase }, { on := 6, ground := Ground.phase }, { on := 7, ground := Ground.phase }, { on := 8, ground := Ground.phase }, { on := 9, ground := Ground.phase }], guard := none }) rfl (fun K hK => ?_) AllReadyH.nil)
                have m1 := cell_of_blk hDk7 5
                have m3 := frozen_of_blk hDk7 5
                simp only [List.getElem?_toArray, List.getElem?_cons_zero, List.getElem?_cons_succ] at m1
                go_simp
                have hxk8 := (Below.heap_setCell w7 ⟨D, 5, none⟩ (.slice (some ⟨g7, 0, none⟩) (Qs.length + 1) cap7) wr.heap.size (by show wr.heap.size ≠ D; omega)).trans hxk7
                refine hK.out _ _ (hX _ hxk8) (fun hHeld => ?_)
                clear hK K
                try simp only [Act.put, List.setIfInBounds_toArray, List.set_cons_zero, List.set_cons_succ]
                refine wpAnyH_done (by kernel_rfl) ?_ _
                go_wp2
                have hx : Held wr.heap.size w6.heap.size w6 (factI (z, T')) := hhT.wide (by omega) (Nat.le_refl _) (Nat.le_refl _)
                obtain ⟨z1, z2, z3, z4, z5⟩ := kl_step (j := 5) HCO.out HBD.out HD6.out.1 HSZ9.out hba6 hx hown7 hg7 hat7
                go_roundw
                case rel => exact ⟨k + 1, _, Qs ++ [(z, T')], by omega, by go_num, by rw [List.length_append, HTl.out]; rfl, by rw [List.map_append, HTm.out, hTK.out, ← HTt.out]; rfl, z1, z2, fun b h1 h2 => (z3 b h1 h2).trans (HSM.out b h1 h2), z4, HBW.out.trans (z5.mono HD6.out.2)⟩
                case measure => simp [intOf]; omega
          · have hke : k = b.F.length := by omega
            subst hke
            obtain ⟨A7, k7, hv7, hl7, hc7, hh7⟩ := hco.all
            subst hv7
            rw [List.take_length] at hTm
            obtain ⟨⟨loN, hiN, n1, n2, n3⟩, ⟨loR, hiR, p1, p2, p3⟩, ⟨loL, hiL, l1, l2, l3⟩⟩ := HH.out
            obtain ⟨hl6, hc6, hh6⟩ := HH6.out
            obtain ⟨⟨e1, e2, e3⟩, k1, k2, k3, k4'⟩ := HM.out
            obtain ⟨hDlt, hDlo, hs2⟩ := HD.out
            have hs6 := HSZ6.out
            have hRw : wr.heap[w.heap.size + 1]? = some (.cells #[.slice none 0 0, .slice none 0 0, .slice none 0 0, .slice none 0 0, .slice none 0 0, .slice none 0 0, .slice none 0 0] 30) := (hsame _ (by omega) (by omega)).trans ((HSM6.out _ (by omega) (by omega)).trans HR9.out)
            have HF : ∃ j : BN, j = ⟨m, A6, k6, Ps, ⟨A4, k4, b.R.l⟩, A7, k7, Qs, ⟨A5, k5, b.L.l⟩⟩ ∧ EqB j b ∧ Held W2.heap.size wr.heap.size wr (fun w2 => j.In w2.heap.size w2) := by
              refine ⟨_, rfl, ⟨e1, e2, e3, HTM6.out.1, fun k h h' => ?_, rfl, hTl, fun k h h' => ?_, rfl⟩, ?_⟩
              · have := congrArg (fun l => l[k]?) HTM6.out.2
                simp only [List.getElem?_map, List.getElem?_eq_getElem h, List.getElem?_eq_getElem h', Option.map_some] at this
                have := Option.some.inj this
                simp only [Prod.mk.injEq] at this
                rw [this.1, this.2]
                exact ⟨beq_self _, beq_self _⟩
              · have := congrArg (fun l => l[k]?) hTm
                simp only [List.getElem?_map, List.getElem?_eq_getElem h, List.getElem?_eq_getElem h', Option.map_some] at this
                have := Option.some.inj this
                simp only [Prod.mk.injEq] at this
                rw [this.2]
                exact ⟨this.1, beq_self _⟩
              · have mv : ∀ {lo hi : Nat} {P : World → Prop}, W2.heap.size ≤ lo → (D < lo ∨ hi ≤ D) → Held lo hi w9 P → Held W2.heap.size wr.heap.size wr P := fun h1 h2 h3 =>
                  (h3.same (Nat.le_trans h3.1 (Nat.le_trans hs6 hsz9)) fun b h4 h5 => (hsame b (by have := h3.1; omega) (by omega)).trans (HSM6.out b (by have := h3.1; omega) (by omega))).wide h1 (Nat.le_trans h3.1 (Nat.le_trans hs6 hsz9)) (Nat.le_refl _)
                have g1 := mv n1 n2 n3
                have g2 := mv p1 p2 p3
                have g3 := mv l1 l2 l3
                have g4 := (hh6.same hsz9 fun b h1 h2 => hsame b h2 (by omega)).wide (lo' := W2.heap.size) (hi' := wr.heap.size) (by omega) hsz9 (Nat.le_refl _)
                have g5 := hh7.wide (lo' := W2.heap.size) (hi' := wr.heap.size) (by omega) (Nat.le_refl _) (Nat.le_refl _)
                refine ((((g1.and g2).and g3).and g4).and g5).imp fun w' h => ?_
                obtain ⟨⟨⟨⟨q1, q2⟩, q3⟩, q4, q5⟩, q6, q7⟩ := h
                exact ⟨q1, hl6, hc6, q4, q5, ⟨k1, k2, q2⟩, hl7, hc7, q6, q7, k3, k4', q3⟩
            obtain ⟨j, hj, hje, hjh⟩ := HF
            have d0 := cell_of_blk hbD 0
            have d1 := cell_of_blk hbD 1
            have d2 := cell_of_blk hbD 2
            have d3 := cell_of_blk hbD 3
            have d4 := cell_of_blk hbD 4
            have d5 := cell_of_blk hbD 5
            have d6 := cell_of_blk hbD 6
            have r0 := cell_of_blk hRw 0
            have r1 := cell_of_blk hRw 1
            have r2 := cell_of_blk hRw 2
            have r3 := cell_of_blk hRw 3
            have r4 := cell_of_blk hRw 4
            have r5 := cell_of_blk hRw 5
            have r6 := cell_of_blk hRw 6
            have f0 := frozen_of_blk hRw 0
            have f1 := frozen_of_blk hRw 1
            have f2 := frozen_of_blk hRw 2
            have f3 := frozen_of_blk hRw 3
            have f4 := frozen_of_blk hRw 4
            have f5 := frozen_of_blk hRw 5
            have f6 := frozen_of_blk hRw 6
            simp only [List.getElem?_toArray, List.getElem?_cons_zero, List.getElem?_cons_succ] at d0 d1 d2 d3 d4 d5 d6 r0 r1 r2 r3 r4 r5 r6
            have HJ := Lib.hid (And.intro hj (And.intro hje hjh))
            have HBW7 := Lib.hid hbw
            have HRW := Lib.hid hRw
            have HLT := Lib.hid hs2
            clear hco hsame hh7 hh6 hj hje hjh hbw hTm hTl hbD hRw n1 n2 n3 p1 p2 p3 l1 l2 l3 hl6 hc6 hl7 hc7 e1 e2 e3 k1 k2 k3 k4' hDlt hDlo hs2 hs6
            go_wp2
            obtain ⟨s1, s2⟩ := store7 HRW.out (.slice m.C.A m.C.l.length m.C.c) (.slice m.R.A m.R.l.length m.R.c) (.slice m.I.A m.I.l.length m.I.c) (.slice A6 Ps.length k6) (.slice A4 b.R.l.length k4) (.slice A7 Qs.length k7) (.slice A5 b.L.l.length k5)
            generalize (((((((wr.setCell ⟨w.heap.size + 1, 0, none⟩ (.slice m.C.A m.C.l.length m.C.c)).setCell ⟨w.heap.size + 1, 1, none⟩ (.slice m.R.A m.R.l.length m.R.c)).setCell ⟨w.heap.size + 1, 2, none⟩ (.slice m.I.A m.I.l.length m.I.c)).setCell ⟨w.heap.size + 1, 3, none⟩ (.slice A6 Ps.length k6)).setCell ⟨w.heap.size + 1, 4, none⟩ (.slice A4 b.R.l.length k4)).setCell ⟨w.heap.size + 1, 5, none⟩ (.slice A7 Qs.length k7)).setCell ⟨w.heap.size + 1, 6, none⟩ (.slice A5 b.L.l.length k5)) = wf at s1 s2 ⊢
            have t0 := cell_of_blk s1 0
            have t1 := cell_of_blk s1 1
            have t2 := cell_of_blk s1 2
            have t3 := cell_of_blk s1 3
            have t4 := cell_of_blk s1 4
            have t5 := cell_of_blk s1 5
            have t6 := cell_of_blk s1 6
            simp only [List.getElem?_toArray, List.getElem?_cons_zero, List.getElem?_cons_succ] at t0 t1 t2 t3 t4 t5 t6
            obtain ⟨hj, hje, hjh⟩ := HJ.out
            have hlt := HLT.out
            have hb0 := HB.out.trans (HBW7.out.mono HB.out.size)
            refine bodyPost_ret (v := .agg #[.slice m.C.A m.C.l.length m.C.c, .slice m.R.A m.R.l.length m.R.c, .slice m.I.A m.I.l.length m.I.c, .slice A6 Ps.length k6, .slice A4 b.R.l.length k4, .slice A7 Qs.length k7, .slice A5 b.L.l.length k5]) (by simp [results, Tryz.f42, go_sem, t0, t1, t2, t3, t4, t5, t6]) rfl ⟨j, by rw [hj]; rfl, hje, ?_, ?_⟩
            · exact (hjh.grown s2 (fun g e => by cases e; exact .inl (by omega))).wide (by omega) s2.size (Nat.le_refl _)
            · exact hb0.trans (below_grown s2 (by omega) hb0.size)
  refine wp_region_held_drew (S := fun w' => w'.cell? ⟨w.heap.size, 0, none⟩ = some (.slice b.N.C.A b.N.C.l.length b.N.C.c) ∧ w'.cell? ⟨w.heap.size, 1, none⟩ = some (.slice b.N.R.A b.N.R.l.length b.N.R.c) ∧ w'.cell? ⟨w.heap.size, 2, none⟩ = some (.slice b.N.I.A b.N.I.l.length b.N.I.c) ∧ w'.cell? ⟨w.heap.size, 3, none⟩ = some (.slice b.IA b.I.length b.ic) ∧ w'.cell? ⟨w.heap.size, 4, none⟩ = some (.slice b.R.A b.R.l.length b.R.c) ∧ w'.cell? ⟨w.heap.size, 5, none⟩ = some (.slice b.FA b.F.length b.fc) ∧ w'.cell? ⟨w.heap.size, 6, none⟩ = some (.slice b.L.A b.L.l.length b.L.c)) (by kernel_rfl) (HS.out _ hd) (fun hHeld => ?_)
  refine wpAnyH_take (i := 0) (oi := { dst := some 8, op := Op.fieldAddr 30 (Operand.tmp 1) 0, type := 0, pos := "ref.go:109", after := #[], guard := none }) (v := .pointer (some ⟨w.heap.size, 0, none⟩)) rfl (by kernel_rfl) (by kernel_rfl) (by kernel_rfl) (fun _ _ _ h => h) (Or.inl ⟨by rfl, by (intro w hSw; (try dsimp only at hSw); go_simp)⟩) (by assumption) ?_
  try simp only [Act.put, List.setIfInBounds_toArray, List.set_cons_zero, List.set_cons_succ]
  refine wpAnyH_take (i := 1) (oi := { dst := some 9, op := Op.load 24 (Operand.tmp 8), type := 24, pos := "ref.go:109", after := #[{ on := 0, ground := Ground.data }], guard := none }) (v := .agg #[.slice b.N.C.A b.N.C.l.length b.N.C.c, .slice b.N.R.A b.N.R.l.length b.N.R.c, .slice b.N.I.A b.N.I.l.length b.N.I.c]) rfl (by kernel_rfl) (by kernel_rfl) (by kernel_rfl) (fun _ _ _ h => h) (Or.inl ⟨by rfl, by (intro w hSw; (try dsimp only at hSw); go_simp)⟩) (by assumption) ?_
  try simp only [Act.put, List.setIfInBounds_toArray, List.set_cons_zero, List.set_cons_succ]
  refine wpAnyH_take (i := 3) (oi := { dst := some 11, op := Op.fieldAddr 30 (Operand.tmp 1) 2, type := 0, pos := "ref.go:109", after := #[], guard := none }) (v := .pointer (some ⟨w.heap.size, 4, none⟩)) rfl (by kernel_rfl) (by kernel_rfl) (by kernel_rfl) (fun _ _ _ h => h) (Or.inl ⟨by rfl, by (intro w hSw; (try dsimp only at hSw); go_simp)⟩) (by assumption) ?_
  try simp only [Act.put, List.setIfInBounds_toArray, List.set_cons_zero, List.set_cons_succ]
  refine wpAnyH_take (i := 4) (oi := { dst := some 12, op := Op.load 26 (Operand.tmp 11), type := 26, pos := "ref.go:109", after := #[{ on := 3, ground := Ground.data }], guard := none }) (v := .slice b.R.A b.R.l.length b.R.c) rfl (by kernel_rfl) (by kernel_rfl) (by kernel_rfl) (fun _ _ _ h => h) (Or.inl ⟨by rfl, by (intro w hSw; (try dsimp only at hSw); go_simp)⟩) (by assumption) ?_
  try simp only [Act.put, List.setIfInBounds_toArray, List.set_cons_zero, List.set_cons_succ]
  refine wpAnyH_take (i := 6) (oi := { dst := some 14, op := Op.fieldAddr 30 (Operand.tmp 1) 4, type := 0, pos := "ref.go:109", after := #[], guard := none }) (v := .pointer (some ⟨w.heap.size, 6, none⟩)) rfl (by kernel_rfl) (by kernel_rfl) (by kernel_rfl) (fun _ _ _ h => h) (Or.inl ⟨by rfl, by (intro w hSw; (try dsimp only at hSw); go_simp)⟩) (by assumption) ?_
  try simp only [Act.put, List.setIfInBounds_toArray, List.set_cons_zero, List.set_cons_succ]
  refine wpAnyH_take (i := 7) (oi := { dst := some 15, op := Op.load 28 (Operand.tmp 14), type := 28, pos := "ref.go:109", after := #[{ on := 6, ground := Ground.data }], guard := none }) (v := .slice b.L.A b.L.l.length b.L.c) rfl (by kernel_rfl) (by kernel_rfl) (by kernel_rfl) (fun _ _ _ h => h) (Or.inl ⟨by rfl, by (intro w hSw; (try dsimp only at hSw); go_simp)⟩) (by assumption) ?_
  try simp only [Act.put, List.setIfInBounds_toArray, List.set_cons_zero, List.set_cons_succ]
  refine wpAnyH_ready (rs := [2, 10]) (by kernel_rfl) (by simp) (AllReadyH.cons (o := { dst := some 10, op := Op.call { callee := Callee.value (Operand.func 85), args := #[Operand.tmp 9], argTypes := #[24] }, type := 24, pos := "ref.go:109", after := #[{ on := 1, ground := Ground.data }], guard := none }) rfl (fun K hK => ?_) (AllReadyH.cons (o := { dst := some 3, op := Op.alloc 30, type := 0, pos := "ref.go:109", after := #[], guard := none }) rfl (fun K hK => ?_) AllReadyH.nil))
  · go_simp
    go_at_call 85
    refine (HCN.out _ (hd)).mono ?_
    rintro e w3 ⟨m, rfl, hme, hhN, hb3, hx3⟩
    have HME := Lib.hid hme
    clear hme
    have hsN := hx3.size
    simp only [NM.val]
    refine hK.out _ _ (HS.out _ hb3) (fun hHeld => ?_)
    clear hK K
    try simp only [Act.put, List.setIfInBounds_toArray, List.set_cons_zero, List.set_cons_succ]
    refine wpAnyH_ready (rs := [5, 10]) (by kernel_rfl) (by simp) (AllReadyH.cons (o := { dst := some 13, op := Op.call { callee := Callee.builtin Builtin.append, args := #[Operand.const (Value.slice none 0 0), Operand.tmp 12], argTypes := #[26, 26] }, type := 26, pos := "ref.go:109", after := #[{ on := 4, ground := Ground.data }, { on := 2, ground := Ground.chain }], guard := none }) rfl (fun K hK => ?_) (AllReadyH.cons (o := { dst := some 3, op := Op.alloc 30, type := 0, pos := "ref.go:109", after := #[], guard := none }) rfl (fun K hK => ?_) AllReadyH.nil))
    · refine step_append_row _ (by rfl) _ _ _ (by rfl) _ 94 i4 _ 2 16 Tryz.underlying26 h4a h4b h4c h4d rfl (by omega) (.slice none 0 0) 0 [] (by rfl) ⟨rfl, .inl ⟨rfl, rfl⟩⟩ _ b.R.A b.R.l.length b.R.c (b.R.l.flatMap pcells) (by rfl) hnR (HRR.out _ (hb3)) (pcell_one _) (by unfold maxLen; omega) (by omega) (Nat.le_refl _) ?_
      intro v4 w4 hown4 hg4 hat4
      rw [Nat.zero_add, List.nil_append] at hown4
      obtain ⟨A4, k4, hv4, hl4, hc4, hhR⟩ := held_row hown4
      subst hv4
      have hsR := hg4.size
      have hb4 : Below W2.heap.size W2 w4 := below_row (v' := .slice none 0 0) (hb3) (Nat.le_refl _) hg4 rfl
      have hhN := hhN.grown (hg4) (fun g e => by cases e)
      clear hown4 hat4
      refine hK.out _ _ (HS.out _ hb4) (fun hHeld => ?_)
      clear hK K
      try simp only [Act.put, List.setIfInBounds_toArray, List.set_cons_zero, List.set_cons_succ]
      refine wpAnyH_ready (rs := [8, 10]) (by kernel_rfl) (by simp) (AllReadyH.cons (o := { dst := some 16, op := Op.call { callee := Callee.builtin Builtin.append, args := #[Operand.const (Value.slice none 0 0), Operand.tmp 15], argTypes := #[28, 28] }, type := 28, pos := "ref.go:109", after := #[{ on := 7, ground := Ground.data }, { on := 5, ground := Ground.chain }], guard := none }) rfl (fun K hK => ?_) (AllReadyH.cons (o := { dst := some 3, op := Op.alloc 30, type := 0, pos := "ref.go:109", after := #[], guard := none }) rfl (fun K hK => ?_) AllReadyH.nil))
      · refine step_append_row _ (by rfl) _ _ _ (by rfl) _ 98 i5 _ 3 24 Tryz.underlying28 h5a h5b h5c h5d rfl (by omega) (.slice none 0 0) 0 [] (by rfl) ⟨rfl, .inl ⟨rfl, rfl⟩⟩ _ b.L.A b.L.l.length b.L.c (b.L.l.flatMap tcells) (by rfl) hnL (HRL.out _ (hb4)) (tcell_one _) (by unfold maxLen; omega) (by omega) (Nat.le_refl _) ?_
        intro v5 w5 hown5 hg5 hat5
        rw [Nat.zero_add, List.nil_append] at hown5
        obtain ⟨A5, k5, hv5, hl5, hc5, hhL⟩ := held_row hown5
        subst hv5
        have hsL := hg5.size
        have hb5 : Below W2.heap.size W2 w5 := below_row (v' := .slice none 0 0) (hb4) (Nat.le_refl _) hg5 rfl
        have hhN := hhN.grown (hg5) (fun g e => by cases e)
        have hhR := hhR.grown (hg5) (fun g e => by cases e)
        clear hown5 hat5
        refine hK.out _ _ (HS.out _ hb5) (fun hHeld => ?_)
        clear hK K
        try simp only [Act.put, List.setIfInBounds_toArray, List.set_cons_zero, List.set_cons_succ]
        refine wpAnyH_take (i := 9) (oi := { dst := some 17, op := Op.build 30 #[(0, Operand.tmp 10), (2, Operand.tmp 13), (4, Operand.tmp 16)], type := 30, pos := "ref.go:109", after := #[{ on := 2, ground := Ground.data }, { on := 5, ground := Ground.data }, { on := 8, ground := Ground.data }], guard := none }) (v := .agg #[.slice m.C.A m.C.l.length m.C.c, .slice m.R.A m.R.l.length m.R.c, .slice m.I.A m.I.l.length m.I.c, .slice none 0 0, .slice A4 b.R.l.length k4, .slice none 0 0, .slice A5 b.L.l.length k5]) rfl (by kernel_rfl) (by kernel_rfl) (by kernel_rfl) (fun _ _ _ h => h) (Or.inl ⟨by rfl, by (intro w hSw; (try dsimp only at hSw); go_simp)⟩) (by assumption) ?_
        try simp only [Act.put, List.setIfInBounds_toArray, List.set_cons_zero, List.set_cons_succ]
        refine wpAnyH_ready (rs := [10]) (by kernel_rfl) (by simp) (AllReadyH.cons (o := { dst := some 3, op := Op.alloc 30, type := 0, pos := "ref.go:109", after := #[], guard := none }) rfl (fun K hK => ?_) AllReadyH.nil)
        go_simp
        obtain ⟨wz, hwz⟩ : ∃ wz, (w5).alloc (.cells #[.slice none 0 0, .slice none 0 0, .slice none 0 0, .slice none 0 0, .slice none 0 0, .slice none 0 0, .slice none 0 0] 30) = wz := ⟨_, rfl⟩
        have hxz : Below (w5).heap.size (w5) wz := by rw [← hwz]; exact (Below.refl _ _).alloc (Nat.le_refl _) _
        have hkz : wz.heap[(w5).heap.size]? = some (.cells #[.slice none 0 0, .slice none 0 0, .slice none 0 0, .slice none 0 0, .slice none 0 0, .slice none 0 0, .slice none 0 0] 30) := by rw [← hwz]; exact heap_alloc_new _ _
        have hzs : wz.heap.size = (w5).heap.size + 1 := by rw [← hwz]; simp
        have hbz : Below W2.heap.size W2 wz := (hb5).trans (hxz.mono (hb5).size)
        obtain ⟨D, hD⟩ : ∃ D, (w5).heap.size = D := ⟨_, rfl⟩
        have hDl : W2.heap.size ≤ D := by rw [← hD]; exact (hb5).size
        have hhN := hhN.later hxz
        have hhR := hhR.later hxz
        have hhL := hhL.later hxz
        first | rw [hwz] | skip
        rw [hD] at hkz hzs
        simp only [hD]
        refine hK.out _ _ (HS.out _ hbz) (fun hHeld => ?_)
        clear hK K
        try simp only [Act.put, List.setIfInBounds_toArray, List.set_cons_zero, List.set_cons_succ]
        refine wpAnyH_ready (rs := [11]) (by kernel_rfl) (by simp) (AllReadyH.cons (o := { dst := none, op := Op.store 30 (Operand.tmp 3) (Operand.tmp 17), type := 0, pos := "ref.go:109", after := #[{ on := 10, ground := Ground.data }, { on := 9, ground := Ground.data }, { on := 8, ground := Ground.chain }, { on := 0, ground := Ground.phase }, { on := 1, ground := Ground.phase }, { on := 2, ground := Ground.phase }, { on := 3, ground := Ground.phase }, { on := 4, ground := Ground.phase }, { on := 5, ground := Ground.phase }, { on := 6, ground := Ground.phase }, { on := 7, ground := Ground.phase }, { on := 8, ground := Ground.phase }, { on := 9, ground := Ground.phase }, { on := 10, ground := Ground.phase }], guard := none }) rfl (fun K hK => ?_) AllReadyH.nil)
        have r0 := cell_of_blk hkz 0
        have t0 := frozen_of_blk hkz 0
        have r1 := cell_of_blk hkz 1
        have t1 := frozen_of_blk hkz 1
        have r2 := cell_of_blk hkz 2
        have t2 := frozen_of_blk hkz 2
        have r3 := cell_of_blk hkz 3
        have t3 := frozen_of_blk hkz 3
        have r4 := cell_of_blk hkz 4
        have t4 := frozen_of_blk hkz 4
        have r5 := cell_of_blk hkz 5
        have t5 := frozen_of_blk hkz 5
        have r6 := cell_of_blk hkz 6
        have t6 := frozen_of_blk hkz 6
        simp only [List.getElem?_toArray, List.getElem?_cons_zero, List.getElem?_cons_succ] at r0 r1 r2 r3 r4 r5 r6
        go_simp
        obtain ⟨s1, s2⟩ := store7 hkz (.slice m.C.A m.C.l.length m.C.c) (.slice m.R.A m.R.l.length m.R.c) (.slice m.I.A m.I.l.length m.I.c) (.slice none 0 0) (.slice A4 b.R.l.length k4) (.slice none 0 0) (.slice A5 b.L.l.length k5)
        have hb9 := (hbz).grown s2 (hbz).size (fun k e => by cases e; exact hDl)
        have hhN := hhN.grown s2 (fun g e => by cases e; have := hhN.1; omega)
        have hhR := hhR.grown s2 (fun g e => by cases e; have := hhR.1; omega)
        have hhL := hhL.grown s2 (fun g e => by cases e; have := hhL.1; omega)
        refine hK.out _ _ (HS.out _ hb9) (fun hHeld => ?_)
        clear hK K
        try simp only [Act.put, List.setIfInBounds_toArray, List.set_cons_zero, List.set_cons_succ]
        refine wpAnyH_done (by kernel_rfl) ?_ _
        have hdw : W2.drew.heap.size = W2.heap.size := rfl
        exact rest D _ m A4 k4 A5 k5 s1 hDl HME.out ⟨_, _, by omega, by omega, hhN⟩ ⟨_, _, by omega, by omega, hhR⟩ ⟨_, _, by omega, by omega, hhL⟩ ⟨hl4, hc4, hl5, hc5⟩ hb9
      · go_simp
        obtain ⟨wz, hwz⟩ : ∃ wz, (w4).alloc (.cells #[.slice none 0 0, .slice none 0 0, .slice none 0 0, .slice none 0 0, .slice none 0 0, .slice none 0 0, .slice none 0 0] 30) = wz := ⟨_, rfl⟩
        have hxz : Below (w4).heap.size (w4) wz := by rw [← hwz]; exact (Below.refl _ _).alloc (Nat.le_refl _) _
        have hkz : wz.heap[(w4).heap.size]? = some (.cells #[.slice none 0 0, .slice none 0 0, .slice none 0 0, .slice none 0 0, .slice none 0 0, .slice none 0 0, .slice none 0 0] 30) := by rw [← hwz]; exact heap_alloc_new _ _
        have hzs : wz.heap.size = (w4).heap.size + 1 := by rw [← hwz]; simp
        have hbz : Below W2.heap.size W2 wz := (hb4).trans (hxz.mono (hb4).size)
        obtain ⟨D, hD⟩ : ∃ D, (w4).heap.size = D := ⟨_, rfl⟩
        have hDl : W2.heap.size ≤ D := by rw [← hD]; exact (hb4).size
        have hhN := hhN.later hxz
        have hhR := hhR.later hxz
        first | rw [hwz] | skip
        rw [hD] at hkz hzs
        simp only [hD]
        refine hK.out _ _ (HS.out _ hbz) (fun hHeld => ?_)
        clear hK K
        try simp only [Act.put, List.setIfInBounds_toArray, List.set_cons_zero, List.set_cons_succ]
        refine wpAnyH_ready (rs := [8]) (by kernel_rfl) (by simp) (AllReadyH.cons (o := { dst := some 16, op := Op.call { callee := Callee.builtin Builtin.append, args := #[Operand.const (Value.slice none 0 0), Operand.tmp 15], argTypes := #[28, 28] }, type := 28, pos := "ref.go:109", after := #[{ on := 7, ground := Ground.data }, { on := 5, ground := Ground.chain }], guard := none }) rfl (fun K hK => ?_) AllReadyH.nil)
        refine step_append_row _ (by rfl) _ _ _ (by rfl) _ 98 i5 _ 3 24 Tryz.underlying28 h5a h5b h5c h5d rfl (by omega) (.slice none 0 0) 0 [] (by rfl) ⟨rfl, .inl ⟨rfl, rfl⟩⟩ _ b.L.A b.L.l.length b.L.c (b.L.l.flatMap tcells) (by rfl) hnL (HRL.out _ (hbz)) (tcell_one _) (by unfold maxLen; omega) (by omega) (Nat.le_refl _) ?_
        intro v5 w5 hown5 hg5 hat5
        rw [Nat.zero_add, List.nil_append] at hown5
        obtain ⟨A5, k5, hv5, hl5, hc5, hhL⟩ := held_row hown5
        subst hv5
        have hsL := hg5.size
        have hb5 : Below W2.heap.size W2 w5 := below_row (v' := .slice none 0 0) (hbz) (Nat.le_refl _) hg5 rfl
        have hhN := hhN.grown (hg5) (fun g e => by cases e)
        have hhR := hhR.grown (hg5) (fun g e => by cases e)
        have hkz := grown_row (hg5) hkz
        clear hown5 hat5
        refine hK.out _ _ (HS.out _ hb5) (fun hHeld => ?_)
        clear hK K
        try simp only [Act.put, List.setIfInBounds_toArray, List.set_cons_zero, List.set_cons_succ]
        refine wpAnyH_take (i := 9) (oi := { dst := some 17, op := Op.build 30 #[(0, Operand.tmp 10), (2, Operand.tmp 13), (4, Operand.tmp 16)], type := 30, pos := "ref.go:109", after := #[{ on := 2, ground := Ground.data }, { on := 5, ground := Ground.data }, { on := 8, ground := Ground.data }], guard := none }) (v := .agg #[.slice m.C.A m.C.l.length m.C.c, .slice m.R.A m.R.l.length m.R.c, .slice m.I.A m.I.l.length m.I.c, .slice none 0 0, .slice A4 b.R.l.length k4, .slice none 0 0, .slice A5 b.L.l.length k5]) rfl (by kernel_rfl) (by kernel_rfl) (by kernel_rfl) (fun _ _ _ h => h) (Or.inl ⟨by rfl, by (intro w hSw; (try dsimp only at hSw); go_simp)⟩) (by assumption) ?_
        try simp only [Act.put, List.setIfInBounds_toArray, List.set_cons_zero, List.set_cons_succ]
        refine wpAnyH_ready (rs := [11]) (by kernel_rfl) (by simp) (AllReadyH.cons (o := { dst := none, op := Op.store 30 (Operand.tmp 3) (Operand.tmp 17), type := 0, pos := "ref.go:109", after := #[{ on := 10, ground := Ground.data }, { on := 9, ground := Ground.data }, { on := 8, ground := Ground.chain }, { on := 0, ground := Ground.phase }, { on := 1, ground := Ground.phase }, { on := 2, ground := Ground.phase }, { on := 3, ground := Ground.phase }, { on := 4, ground := Ground.phase }, { on := 5, ground := Ground.phase }, { on := 6, ground := Ground.phase }, { on := 7, ground := Ground.phase }, { on := 8, ground := Ground.phase }, { on := 9, ground := Ground.phase }, { on := 10, ground := Ground.phase }], guard := none }) rfl (fun K hK => ?_) AllReadyH.nil)
        have r0 := cell_of_blk hkz 0
        have t0 := frozen_of_blk hkz 0
        have r1 := cell_of_blk hkz 1
        have t1 := frozen_of_blk hkz 1
        have r2 := cell_of_blk hkz 2
        have t2 := frozen_of_blk hkz 2
        have r3 := cell_of_blk hkz 3
        have t3 := frozen_of_blk hkz 3
        have r4 := cell_of_blk hkz 4
        have t4 := frozen_of_blk hkz 4
        have r5 := cell_of_blk hkz 5
        have t5 := frozen_of_blk hkz 5
        have r6 := cell_of_blk hkz 6
        have t6 := frozen_of_blk hkz 6
        simp only [List.getElem?_toArray, List.getElem?_cons_zero, List.getElem?_cons_succ] at r0 r1 r2 r3 r4 r5 r6
        go_simp
        obtain ⟨s1, s2⟩ := store7 hkz (.slice m.C.A m.C.l.length m.C.c) (.slice m.R.A m.R.l.length m.R.c) (.slice m.I.A m.I.l.length m.I.c) (.slice none 0 0) (.slice A4 b.R.l.length k4) (.slice none 0 0) (.slice A5 b.L.l.length k5)
        have hb9 := (hb5).grown s2 (hb5).size (fun k e => by cases e; exact hDl)
        have hhN := hhN.grown s2 (fun g e => by cases e; have := hhN.1; omega)
        have hhR := hhR.grown s2 (fun g e => by cases e; have := hhR.1; omega)
        have hhL := hhL.grown s2 (fun g e => by cases e; have := hhL.1; omega)
        refine hK.out _ _ (HS.out _ hb9) (fun hHeld => ?_)
        clear hK K
        try simp only [Act.put, List.setIfInBounds_toArray, List.set_cons_zero, List.set_cons_succ]
        refine wpAnyH_done (by kernel_rfl) ?_ _
        have hdw : W2.drew.heap.size = W2.heap.size := rfl
        exact rest D _ m A4 k4 A5 k5 s1 hDl HME.out ⟨_, _, by omega, by omega, hhN⟩ ⟨_, _, by omega, by omega, hhR⟩ ⟨_, _, by omega, by omega, hhL⟩ ⟨hl4, hc4, hl5, hc5⟩ hb9
    · go_simp
      obtain ⟨wz, hwz⟩ : ∃ wz, (w3).alloc (.cells #[.slice none 0 0, .slice none 0 0, .slice none 0 0, .slice none 0 0, .slice none 0 0, .slice none 0 0, .slice none 0 0] 30) = wz := ⟨_, rfl⟩
      have hxz : Below (w3).heap.size (w3) wz := by rw [← hwz]; exact (Below.refl _ _).alloc (Nat.le_refl _) _
      have hkz : wz.heap[(w3).heap.size]? = some (.cells #[.slice none 0 0, .slice none 0 0, .slice none 0 0, .slice none 0 0, .slice none 0 0, .slice none 0 0, .slice none 0 0] 30) := by rw [← hwz]; exact heap_alloc_new _ _
      have hzs : wz.heap.size = (w3).heap.size + 1 := by rw [← hwz]; simp
      have hbz : Below W2.heap.size W2 wz := (hb3).trans (hxz.mono (hb3).size)
      obtain ⟨D, hD⟩ : ∃ D, (w3).heap.size = D := ⟨_, rfl⟩
      have hDl : W2.heap.size ≤ D := by rw [← hD]; exact (hb3).size
      have hhN := hhN.later hxz
      first | rw [hwz] | skip
      rw [hD] at hkz hzs
      simp only [hD]
      refine hK.out _ _ (HS.out _ hbz) (fun hHeld => ?_)
      clear hK K
      try simp only [Act.put, List.setIfInBounds_toArray, List.set_cons_zero, List.set_cons_succ]
      refine wpAnyH_ready (rs := [5]) (by kernel_rfl) (by simp) (AllReadyH.cons (o := { dst := some 13, op := Op.call { callee := Callee.builtin Builtin.append, args := #[Operand.const (Value.slice none 0 0), Operand.tmp 12], argTypes := #[26, 26] }, type := 26, pos := "ref.go:109", after := #[{ on := 4, ground := Ground.data }, { on := 2, ground := Ground.chain }], guard := none }) rfl (fun K hK => ?_) AllReadyH.nil)
      refine step_append_row _ (by rfl) _ _ _ (by rfl) _ 94 i4 _ 2 16 Tryz.underlying26 h4a h4b h4c h4d rfl (by omega) (.slice none 0 0) 0 [] (by rfl) ⟨rfl, .inl ⟨rfl, rfl⟩⟩ _ b.R.A b.R.l.length b.R.c (b.R.l.flatMap pcells) (by rfl) hnR (HRR.out _ (hbz)) (pcell_one _) (by unfold maxLen; omega) (by omega) (Nat.le_refl _) ?_
      intro v4 w4 hown4 hg4 hat4
      rw [Nat.zero_add, List.nil_append] at hown4
      obtain ⟨A4, k4, hv4, hl4, hc4, hhR⟩ := held_row hown4
      subst hv4
      have hsR := hg4.size
      have hb4 : Below W2.heap.size W2 w4 := below_row (v' := .slice none 0 0) (hbz) (Nat.le_refl _) hg4 rfl
      have hhN := hhN.grown (hg4) (fun g e => by cases e)
      have hkz := grown_row (hg4) hkz
      clear hown4 hat4
      refine hK.out _ _ (HS.out _ hb4) (fun hHeld => ?_)
      clear hK K
      try simp only [Act.put, List.setIfInBounds_toArray, List.set_cons_zero, List.set_cons_succ]
      refine wpAnyH_ready (rs := [8]) (by kernel_rfl) (by simp) (AllReadyH.cons (o := { dst := some 16, op := Op.call { callee := Callee.builtin Builtin.append, args := #[Operand.const (Value.slice none 0 0), Operand.tmp 15], argTypes := #[28, 28] }, type := 28, pos := "ref.go:109", after := #[{ on := 7, ground := Ground.data }, { on := 5, ground := Ground.chain }], guard := none }) rfl (fun K hK => ?_) AllReadyH.nil)
      refine step_append_row _ (by rfl) _ _ _ (by rfl) _ 98 i5 _ 3 24 Tryz.underlying28 h5a h5b h5c h5d rfl (by omega) (.slice none 0 0) 0 [] (by rfl) ⟨rfl, .inl ⟨rfl, rfl⟩⟩ _ b.L.A b.L.l.length b.L.c (b.L.l.flatMap tcells) (by rfl) hnL (HRL.out _ (hb4)) (tcell_one _) (by unfold maxLen; omega) (by omega) (Nat.le_refl _) ?_
      intro v5 w5 hown5 hg5 hat5
      rw [Nat.zero_add, List.nil_append] at hown5
      obtain ⟨A5, k5, hv5, hl5, hc5, hhL⟩ := held_row hown5
      subst hv5
      have hsL := hg5.size
      have hb5 : Below W2.heap.size W2 w5 := below_row (v' := .slice none 0 0) (hb4) (Nat.le_refl _) hg5 rfl
      have hhN := hhN.grown (hg5) (fun g e => by cases e)
      have hhR := hhR.grown (hg5) (fun g e => by cases e)
      have hkz := grown_row (hg5) hkz
      clear hown5 hat5
      refine hK.out _ _ (HS.out _ hb5) (fun hHeld => ?_)
      clear hK K
      try simp only [Act.put, List.setIfInBounds_toArray, List.set_cons_zero, List.set_cons_succ]
      refine wpAnyH_take (i := 9) (oi := { dst := some 17, op := Op.build 30 #[(0, Operand.tmp 10), (2, Operand.tmp 13), (4, Operand.tmp 16)], type := 30, pos := "ref.go:109", after := #[{ on := 2, ground := Ground.data }, { on := 5, ground := Ground.data }, { on := 8, ground := Ground.data }], guard := none }) (v := .agg #[.slice m.C.A m.C.l.length m.C.c, .slice m.R.A m.R.l.length m.R.c, .slice m.I.A m.I.l.length m.I.c, .slice none 0 0, .slice A4 b.R.l.length k4, .slice none 0 0, .slice A5 b.L.l.length k5]) rfl (by kernel_rfl) (by kernel_rfl) (by kernel_rfl) (fun _ _ _ h => h) (Or.inl ⟨by rfl, by (intro w hSw; (try dsimp only at hSw); go_simp)⟩) (by assumption) ?_
      try simp only [Act.put, List.setIfInBounds_toArray, List.set_cons_zero, List.set_cons_succ]
      refine wpAnyH_ready (rs := [11]) (by kernel_rfl) (by simp) (AllReadyH.cons (o := { dst := none, op := Op.store 30 (Operand.tmp 3) (Operand.tmp 17), type := 0, pos := "ref.go:109", after := #[{ on := 10, ground := Ground.data }, { on := 9, ground := Ground.data }, { on := 8, ground := Ground.chain }, { on := 0, ground := Ground.phase }, { on := 1, ground := Ground.phase }, { on := 2, ground := Ground.phase }, { on := 3, ground := Ground.phase }, { on := 4, ground := Ground.phase }, { on := 5, ground := Ground.phase }, { on := 6, ground := Ground.phase }, { on := 7, ground := Ground.phase }, { on := 8, ground := Ground.phase }, { on := 9, ground := Ground.phase }, { on := 10, ground := Ground.phase }], guard := none }) rfl (fun K hK => ?_) AllReadyH.nil)
      have r0 := cell_of_blk hkz 0
      have t0 := frozen_of_blk hkz 0
      have r1 := cell_of_blk hkz 1
      have t1 := frozen_of_blk hkz 1
      have r2 := cell_of_blk hkz 2
      have t2 := frozen_of_blk hkz 2
      have r3 := cell_of_blk hkz 3
      have t3 := frozen_of_blk hkz 3
      have r4 := cell_of_blk hkz 4
      have t4 := frozen_of_blk hkz 4
      have r5 := cell_of_blk hkz 5
      have t5 := frozen_of_blk hkz 5
      have r6 := cell_of_blk hkz 6
      have t6 := frozen_of_blk hkz 6
      simp only [List.getElem?_toArray, List.getElem?_cons_zero, List.getElem?_cons_succ] at r0 r1 r2 r3 r4 r5 r6
      go_simp
      obtain ⟨s1, s2⟩ := store7 hkz (.slice m.C.A m.C.l.length m.C.c) (.slice m.R.A m.R.l.length m.R.c) (.slice m.I.A m.I.l.length m.I.c) (.slice none 0 0) (.slice A4 b.R.l.length k4) (.slice none 0 0) (.slice A5 b.L.l.length k5)
      have hb9 := (hb5).grown s2 (hb5).size (fun k e => by cases e; exact hDl)
      have hhN := hhN.grown s2 (fun g e => by cases e; have := hhN.1; omega)
      have hhR := hhR.grown s2 (fun g e => by cases e; have := hhR.1; omega)
      have hhL := hhL.grown s2 (fun g e => by cases e; have := hhL.1; omega)
      refine hK.out _ _ (HS.out _ hb9) (fun hHeld => ?_)
      clear hK K
      try simp only [Act.put, List.setIfInBounds_toArray, List.set_cons_zero, List.set_cons_succ]
      refine wpAnyH_done (by kernel_rfl) ?_ _
      have hdw : W2.drew.heap.size = W2.heap.size := rfl
      exact rest D _ m A4 k4 A5 k5 s1 hDl HME.out ⟨_, _, by omega, by omega, hhN⟩ ⟨_, _, by omega, by omega, hhR⟩ ⟨_, _, by omega, by omega, hhL⟩ ⟨hl4, hc4, hl5, hc5⟩ hb9
  · go_simp
    obtain ⟨wz, hwz⟩ : ∃ wz, (W2.alloc (.cells #[.slice none 0 0, .slice none 0 0, .slice none 0 0, .slice none 0 0, .slice none 0 0, .slice none 0 0, .slice none 0 0] 30)).drew = wz := ⟨_, rfl⟩
    have hbz : Below W2.heap.size W2 wz := by rw [← hwz]; exact ((Below.refl _ _).alloc (Nat.le_refl _) _).drew
    have hkz : wz.heap[W2.heap.size]? = some (.cells #[.slice none 0 0, .slice none 0 0, .slice none 0 0, .slice none 0 0, .slice none 0 0, .slice none 0 0, .slice none 0 0] 30) := by rw [← hwz]; exact heap_alloc_new W2 _
    have hzs : wz.heap.size = W2.heap.size + 1 := by rw [← hwz]; show (W2.alloc _).heap.size = _; simp
    obtain ⟨D, hD⟩ : ∃ D, W2.heap.size = D := ⟨_, rfl⟩
    have hDl : W2.heap.size ≤ D := by rw [← hD]; exact Nat.le_refl _
    first | rw [hwz] | skip
    rw [hD] at hkz hzs
    simp only [hD]
    refine hK.out _ _ (HS.out _ hbz) (fun hHeld => ?_)
    clear hK K
    try simp only [Act.put, List.setIfInBounds_toArray, List.set_cons_zero, List.set_cons_succ]
    refine wpAnyH_ready (rs := [2]) (by kernel_rfl) (by simp) (AllReadyH.cons (o := { dst := some 10, op := Op.call { callee := Callee.value (Operand.func 85), args := #[Operand.tmp 9], argTypes := #[24] }, type := 24, pos := "ref.go:109", after := #[{ on := 1, ground := Ground.data }], guard := none }) rfl (fun K hK => ?_) AllReadyH.nil)
    go_simp
    go_at_call 85
    refine (HCN.out _ (hbz)).mono ?_
    rintro e w3 ⟨m, rfl, hme, hhN, hb3, hx3⟩
    have HME := Lib.hid hme
    clear hme
    have hsN := hx3.size
    simp only [NM.val]
    have hkz := (hx3).block D (Array.getElem?_eq_some_iff.1 hkz).1 |>.trans hkz
    refine hK.out _ _ (HS.out _ hb3) (fun hHeld => ?_)
    clear hK K
    try simp only [Act.put, List.setIfInBounds_toArray, List.set_cons_zero, List.set_cons_succ]
    refine wpAnyH_ready (rs := [5]) (by kernel_rfl) (by simp) (AllReadyH.cons (o := { dst := some 13, op := Op.call { callee := Callee.builtin Builtin.append, args := #[Operand.const (Value.slice none 0 0), Operand.tmp 12], argTypes := #[26, 26] }, type := 26, pos := "ref.go:109", after := #[{ on := 4, ground := Ground.data }, { on := 2, ground := Ground.chain }], guard := none }) rfl (fun K hK => ?_) AllReadyH.nil)
    refine step_append_row _ (by rfl) _ _ _ (by rfl) _ 94 i4 _ 2 16 Tryz.underlying26 h4a h4b h4c h4d rfl (by omega) (.slice none 0 0) 0 [] (by rfl) ⟨rfl, .inl ⟨rfl, rfl⟩⟩ _ b.R.A b.R.l.length b.R.c (b.R.l.flatMap pcells) (by rfl) hnR (HRR.out _ (hb3)) (pcell_one _) (by unfold maxLen; omega) (by omega) (Nat.le_refl _) ?_
    intro v4 w4 hown4 hg4 hat4
    rw [Nat.zero_add, List.nil_append] at hown4
    obtain ⟨A4, k4, hv4, hl4, hc4, hhR⟩ := held_row hown4
    subst hv4
    have hsR := hg4.size
    have hb4 : Below W2.heap.size W2 w4 := below_row (v' := .slice none 0 0) (hb3) (Nat.le_refl _) hg4 rfl
    have hhN := hhN.grown (hg4) (fun g e => by cases e)
    have hkz := grown_row (hg4) hkz
    clear hown4 hat4
    refine hK.out _ _ (HS.out _ hb4) (fun hHeld => ?_)
    clear hK K
    try simp only [Act.put, List.setIfInBounds_toArray, List.set_cons_zero, List.set_cons_succ]
    refine wpAnyH_ready (rs := [8]) (by kernel_rfl) (by simp) (AllReadyH.cons (o := { dst := some 16, op := Op.call { callee := Callee.builtin Builtin.append, args := #[Operand.const (Value.slice none 0 0), Operand.tmp 15], argTypes := #[28, 28] }, type := 28, pos := "ref.go:109", after := #[{ on := 7, ground := Ground.data }, { on := 5, ground := Ground.chain }], guard := none }) rfl (fun K hK => ?_) AllReadyH.nil)
    refine step_append_row _ (by rfl) _ _ _ (by rfl) _ 98 i5 _ 3 24 Tryz.underlying28 h5a h5b h5c h5d rfl (by omega) (.slice none 0 0) 0 [] (by rfl) ⟨rfl, .inl ⟨rfl, rfl⟩⟩ _ b.L.A b.L.l.length b.L.c (b.L.l.flatMap tcells) (by rfl) hnL (HRL.out _ (hb4)) (tcell_one _) (by unfold maxLen; omega) (by omega) (Nat.le_refl _) ?_
    intro v5 w5 hown5 hg5 hat5
    rw [Nat.zero_add, List.nil_append] at hown5
    obtain ⟨A5, k5, hv5, hl5, hc5, hhL⟩ := held_row hown5
    subst hv5
    have hsL := hg5.size
    have hb5 : Below W2.heap.size W2 w5 := below_row (v' := .slice none 0 0) (hb4) (Nat.le_refl _) hg5 rfl
    have hhN := hhN.grown (hg5) (fun g e => by cases e)
    have hhR := hhR.grown (hg5) (fun g e => by cases e)
    have hkz := grown_row (hg5) hkz
    clear hown5 hat5
    refine hK.out _ _ (HS.out _ hb5) (fun hHeld => ?_)
    clear hK K
    try simp only [Act.put, List.setIfInBounds_toArray, List.set_cons_zero, List.set_cons_succ]
    refine wpAnyH_take (i := 9) (oi := { dst := some 17, op := Op.build 30 #[(0, Operand.tmp 10), (2, Operand.tmp 13), (4, Operand.tmp 16)], type := 30, pos := "ref.go:109", after := #[{ on := 2, ground := Ground.data }, { on := 5, ground := Ground.data }, { on := 8, ground := Ground.data }], guard := none }) (v := .agg #[.slice m.C.A m.C.l.length m.C.c, .slice m.R.A m.R.l.length m.R.c, .slice m.I.A m.I.l.length m.I.c, .slice none 0 0, .slice A4 b.R.l.length k4, .slice none 0 0, .slice A5 b.L.l.length k5]) rfl (by kernel_rfl) (by kernel_rfl) (by kernel_rfl) (fun _ _ _ h => h) (Or.inl ⟨by rfl, by (intro w hSw; (try dsimp only at hSw); go_simp)⟩) (by assumption) ?_
    try simp only [Act.put, List.setIfInBounds_toArray, List.set_cons_zero, List.set_cons_succ]
    refine wpAnyH_ready (rs := [11]) (by kernel_rfl) (by simp) (AllReadyH.cons (o := { dst := none, op := Op.store 30 (Operand.tmp 3) (Operand.tmp 17), type := 0, pos := "ref.go:109", after := #[{ on := 10, ground := Ground.data }, { on := 9, ground := Ground.data }, { on := 8, ground := Ground.chain }, { on := 0, ground := Ground.phase }, { on := 1, ground := Ground.phase }, { on := 2, ground := Ground.phase }, { on := 3, ground := Ground.phase }, { on := 4, ground := Ground.phase }, { on := 5, ground := Ground.phase }, { on := 6, ground := Ground.phase }, { on := 7, ground := Ground.phase }, { on := 8, ground := Ground.phase }, { on := 9, ground := Ground.phase }, { on := 10, ground := Ground.phase }], guard := none }) rfl (fun K hK => ?_) AllReadyH.nil)
    have r0 := cell_of_blk hkz 0
    have t0 := frozen_of_blk hkz 0
    have r1 := cell_of_blk hkz 1
    have t1 := frozen_of_blk hkz 1
    have r2 := cell_of_blk hkz 2
    have t2 := frozen_of_blk hkz 2
    have r3 := cell_of_blk hkz 3
    have t3 := frozen_of_blk hkz 3
    have r4 := cell_of_blk hkz 4
    have t4 := frozen_of_blk hkz 4
    have r5 := cell_of_blk hkz 5
    have t5 := frozen_of_blk hkz 5
    have r6 := cell_of_blk hkz 6
    have t6 := frozen_of_blk hkz 6
    simp only [List.getElem?_toArray, List.getElem?_cons_zero, List.getElem?_cons_succ] at r0 r1 r2 r3 r4 r5 r6
    go_simp
    obtain ⟨s1, s2⟩ := store7 hkz (.slice m.C.A m.C.l.length m.C.c) (.slice m.R.A m.R.l.length m.R.c) (.slice m.I.A m.I.l.length m.I.c) (.slice none 0 0) (.slice A4 b.R.l.length k4) (.slice none 0 0) (.slice A5 b.L.l.length k5)
    have hb9 := (hb5).grown s2 (hb5).size (fun k e => by cases e; exact hDl)
    have hhN := hhN.grown s2 (fun g e => by cases e; have := hhN.1; omega)
    have hhR := hhR.grown s2 (fun g e => by cases e; have := hhR.1; omega)
    have hhL := hhL.grown s2 (fun g e => by cases e; have := hhL.1; omega)
    refine hK.out _ _ (HS.out _ hb9) (fun hHeld => ?_)
    clear hK K
    try simp only [Act.put, List.setIfInBounds_toArray, List.set_cons_zero, List.set_cons_succ]
    refine wpAnyH_done (by kernel_rfl) ?_ _
    have hdw : W2.drew.heap.size = W2.heap.size := rfl
    exact rest D _ m A4 k4 A5 k5 s1 hDl HME.out ⟨_, _, by omega, by omega, hhN⟩ ⟨_, _, by omega, by omega, hhR⟩ ⟨_, _, by omega, by omega, hhL⟩ ⟨hl4, hc4, hl5, hc5⟩ hb9
end Go.Proofs.YtndkcimajeofcaaGreatDoor

namespace Go.Proofs.YtndkcimajeofcaaGreatDoor
open Go.RowKit
attribute [local go_sem ↓] Go.wp_at_zero Go.wp_at_succ

/-- The region in which HierOwn keeps copies of its arguments. -/
def ops5 : Array Oper := #[{ dst := some 27, op := Go.Op.load 30 (Go.Operand.tmp 3), type := 30, pos := "law.go:217", after := #[], guard := none },
  { dst := some 28, op := Go.Op.call { callee := Go.Callee.value (Go.Operand.func 42), args := #[Go.Operand.tmp 27], argTypes := #[30] }, type := 30, pos := "law.go:217", after := #[{ on := 0, ground := Go.Ground.data }], guard := none },
  { dst := some 29, op := Go.Op.load 33 (Go.Operand.tmp 5), type := 33, pos := "law.go:217", after := #[], guard := none },
  { dst := some 30, op := Go.Op.call { callee := Go.Callee.value (Go.Operand.func 43), args := #[Go.Operand.tmp 29], argTypes := #[33] }, type := 33, pos := "law.go:217", after := #[{ on := 2, ground := Go.Ground.data }, { on := 1, ground := Go.Ground.chain }], guard := none },
  { dst := some 7, op := Go.Op.alloc 30, type := 0, pos := "law.go:217", after := #[], guard := none },
  { dst := some 8, op := Go.Op.alloc 33, type := 0, pos := "law.go:217", after := #[], guard := none },
  { dst := none, op := Go.Op.store 30 (Go.Operand.tmp 7) (Go.Operand.tmp 28), type := 0, pos := "law.go:217", after := #[{ on := 4, ground := Go.Ground.data }, { on := 1, ground := Go.Ground.data }, { on := 3, ground := Go.Ground.chain }, { on := 0, ground := Go.Ground.phase }, { on := 1, ground := Go.Ground.phase }, { on := 2, ground := Go.Ground.textOnly Go.Departure.lateStores }, { on := 3, ground := Go.Ground.textOnly Go.Departure.lateStoresUnsure }, { on := 4, ground := Go.Ground.phase }, { on := 5, ground := Go.Ground.phase }], guard := none },
  { dst := none, op := Go.Op.store 33 (Go.Operand.tmp 8) (Go.Operand.tmp 30), type := 0, pos := "law.go:217", after := #[{ on := 5, ground := Go.Ground.data }, { on := 3, ground := Go.Ground.data }, { on := 6, ground := Go.Ground.chain }, { on := 0, ground := Go.Ground.phase }, { on := 1, ground := Go.Ground.phase }, { on := 2, ground := Go.Ground.phase }, { on := 3, ground := Go.Ground.phase }, { on := 4, ground := Go.Ground.phase }, { on := 5, ground := Go.Ground.phase }, { on := 6, ground := Go.Ground.phase }], guard := none }]
theorem ready5 : ∀ s1 s2 s4 s5 : Bool, Region.ready .any ops5 #[true, s1, true, s2, s4, s5, false, false] =
    (if s1 then [] else [1]) ++ (if !s2 && s1 then [3] else []) ++ (if s4 then [] else [4]) ++ (if s5 then [] else [5]) ++ (if s1 && s2 && s4 && s5 then [6] else []) := by
  intro s1 s2 s4 s5
  cases s1 <;> cases s2 <;> cases s4 <;> cases s5 <;> kernel_rfl
/-- The boxes that have been made are off a stretch of blocks. -/
def Offs5 (s4 s5 : Bool) (t7 t8 : Value) (lo hi : Nat) : Prop := ∀ D, (s4 = true ∧ t7 = .pointer (some ⟨D, 0, none⟩) ∨ s5 = true ∧ t8 = .pointer (some ⟨D, 0, none⟩)) → D < lo ∨ hi ≤ D
structure SO5 (b : BN) (c : MT) (W W' : World) (s1 s2 s4 s5 : Bool) (t28 t30 t7 t8 : Value) : Prop where
  bel : Below W.heap.size W W'
  k1 : s1 = true → ∃ (m : BN) (lo hi : Nat), t28 = m.val ∧ EqB m b ∧ W.heap.size ≤ lo ∧ Held lo hi W' (fun w2 => m.In w2.heap.size w2) ∧ Offs5 s4 s5 t7 t8 lo hi
  k2 : s2 = true → ∃ (m : MT) (lo hi : Nat), t30 = m.val ∧ m.tr = c.tr ∧ W.heap.size ≤ lo ∧ Held lo hi W' (fun w2 => m.In w2.heap.size w2) ∧ Offs5 s4 s5 t7 t8 lo hi
  k4 : s4 = true → ∃ D, t7 = .pointer (some ⟨D, 0, none⟩) ∧ W.heap.size ≤ D ∧ W'.heap[D]? = some (.cells #[.slice none 0 0, .slice none 0 0, .slice none 0 0, .slice none 0 0, .slice none 0 0, .slice none 0 0, .slice none 0 0] 30)
  k5 : s5 = true → ∃ D, t8 = .pointer (some ⟨D, 0, none⟩) ∧ W.heap.size ≤ D ∧ W'.heap[D]? = some (.cells #[.int .i64 0, .int .i64 0, .slice none 0 0] 33)
theorem SO5.lt {b : BN} {c : MT} {W W' : World} {s1 s2 s4 s5 : Bool} {t28 t30 t7 t8 : Value} (h : SO5 b c W W' s1 s2 s4 s5 t28 t30 t7 t8) (hi : Nat) : Offs5 s4 s5 t7 t8 W'.heap.size hi := fun D e => by
  rcases e with ⟨e1, e2⟩ | ⟨e1, e2⟩
  · obtain ⟨D', q1, -, q2⟩ := h.k4 e1; rw [q1] at e2; cases e2; exact .inl (Array.getElem?_eq_some_iff.1 q2).1
  · obtain ⟨D', q1, -, q2⟩ := h.k5 e1; rw [q1] at e2; cases e2; exact .inl (Array.getElem?_eq_some_iff.1 q2).1
/-- What the region leaves. -/
def EndOwn5 (b : BN) (c : MT) (W W2 : World) (t7 t8 : Value) : Prop := ∃ (m : BN) (M : MT) (D1 D2 : Nat), t7 = .pointer (some ⟨D1, 0, none⟩) ∧ t8 = .pointer (some ⟨D2, 0, none⟩) ∧ Below W.heap.size W W2 ∧ EqB m b ∧ M.tr = c.tr ∧
  m.In W2.heap.size W2 ∧ M.In W2.heap.size W2 ∧ W2.heap[D1]? = some (.cells m.cells 30) ∧ W2.heap[D2]? = some (.cells #[.int .i64 M.op, .int .i64 M.n, .slice M.A M.args.length M.c] 33)

set_option maxRecDepth 100000 in
set_option maxHeartbeats 8000000 in
theorem own5A (b : BN) (c : MT) (W : World) (Q : Exit → Act → World → Prop) (S : World → Prop) (hS : ∀ w', Below W.heap.size W w' → S w')
    (hcb : ∀ w', Below W.heap.size W w' → Calls Tryz.prog 42 #[b.val] w' (RetCopyB b w')) (hcc : ∀ w', Below W.heap.size W w' → Calls Tryz.prog 43 #[c.val] w' (RetTree w' c.tr))
    (x0 x1 x2 x3 x4 x5 x6 x9 x10 x11 x12 x13 x14 x15 x16 x17 x18 x19 x20 x21 x22 x23 x24 x25 x26 x31 x32 x33 x34 x35 x36 x37 x38 x39 x40 x41 x42 x43 x44 x45 x46 x47 x48 x49 x50 x51 x52 x53 x54 x55 x56 x57 x58 x59 x60 x61 x62 x63 x64 x65 x66 x67 x68 x69 x70 x71 x72 x73 x74 x75 x76 x77 x78 x79 x80 x81 x82 x83 x84 x85 x86 x87 x88 x89 x90 x91 x92 x93 x94 x95 x96 x97 x98 x99 x100 x101 x102 x103 x104 x105 : Value)
    (hend : ∀ (t28 t30 t7 t8 : Value) (W' : World), SO5 b c W W' true true true true t28 t30 t7 t8 → wpAnyH Tryz.prog .any ops5 Q S 2 #[true, true, true, true, true, true, false, false] { tmps := #[x0, x1, x2, x3, x4, x5, x6, t7, t8, x9, x10, x11, x12, x13, x14, x15, x16, x17, x18, x19, x20, x21, x22, x23, x24, x25, x26, b.val, t28, c.val, t30, x31, x32, x33, x34, x35, x36, x37, x38, x39, x40, x41, x42, x43, x44, x45, x46, x47, x48, x49, x50, x51, x52, x53, x54, x55, x56, x57, x58, x59, x60, x61, x62, x63, x64, x65, x66, x67, x68, x69, x70, x71, x72, x73, x74, x75, x76, x77, x78, x79, x80, x81, x82, x83, x84, x85, x86, x87, x88, x89, x90, x91, x92, x93, x94, x95, x96, x97, x98, x99, x100, x101, x102, x103, x104, x105], defers := [] } W') :
    ∀ (k : Nat) (s1 s2 s4 s5 : Bool), (s2 = true → s1 = true) → (!s1).toNat + (!s2).toNat + (!s4).toNat + (!s5).toNat = k →
    ∀ (t28 t30 t7 t8 : Value) (W' : World), SO5 b c W W' s1 s2 s4 s5 t28 t30 t7 t8 →
      wpAnyH Tryz.prog .any ops5 Q S (k + 2) #[true, s1, true, s2, s4, s5, false, false] { tmps := #[x0, x1, x2, x3, x4, x5, x6, t7, t8, x9, x10, x11, x12, x13, x14, x15, x16, x17, x18, x19, x20, x21, x22, x23, x24, x25, x26, b.val, t28, c.val, t30, x31, x32, x33, x34, x35, x36, x37, x38, x39, x40, x41, x42, x43, x44, x45, x46, x47, x48, x49, x50, x51, x52, x53, x54, x55, x56, x57, x58, x59, x60, x61, x62, x63, x64, x65, x66, x67, x68, x69, x70, x71, x72, x73, x74, x75, x76, x77, x78, x79, x80, x81, x82, x83, x84, x85, x86, x87, x88, x89, x90, x91, x92, x93, x94, x95, x96, x97, x98, x99, x100, x101, x102, x103, x104, x105], defers := [] } W' := by
  intro k
  induction k with
  | zero =>
    intro s1 s2 s4 s5 h1 hk
    cases s1 <;> cases s2 <;> cases s4 <;> cases s5 <;> simp at hk
    intros
    apply hend
    assumption
  | succ k ih =>
    intro s1 s2 s4 s5 h1 hk t28 t30 t7 t8 W' hS'
    have hbel := hS'.bel
    refine ⟨fun hnil => ?_, fun n hn => ?_⟩
    · rw [ready5] at hnil
      cases s1 <;> cases s2 <;> cases s4 <;> cases s5 <;> simp at hnil hk
    · have hc : (n = 1 ∧ s1 = false) ∨ (n = 3 ∧ s2 = false ∧ s1 = true) ∨ (n = 4 ∧ s4 = false) ∨ (n = 5 ∧ s5 = false) := by
        rw [ready5] at hn
        cases s1 <;> cases s2 <;> cases s4 <;> cases s5 <;> simp at hn hk h1 ⊢ <;> omega
      clear hn
      have keep : ∀ (s4' s5' : Bool) (t7' t8' : Value) (W2 : World), Below W'.heap.size W' W2 → (∀ lo hi, hi ≤ W'.heap.size → Offs5 s4 s5 t7 t8 lo hi → Offs5 s4' s5' t7' t8' lo hi) →
          (s1 = true → ∃ (m : BN) (lo hi : Nat), t28 = m.val ∧ EqB m b ∧ W.heap.size ≤ lo ∧ Held lo hi W2 (fun w2 => m.In w2.heap.size w2) ∧ Offs5 s4' s5' t7' t8' lo hi) ∧
          (s2 = true → ∃ (m : MT) (lo hi : Nat), t30 = m.val ∧ m.tr = c.tr ∧ W.heap.size ≤ lo ∧ Held lo hi W2 (fun w2 => m.In w2.heap.size w2) ∧ Offs5 s4' s5' t7' t8' lo hi) := fun s4' s5' t7' t8' W2 hb ho => by
        refine ⟨fun h => ?_, fun h => ?_⟩
        · obtain ⟨m, lo, hi, q1, q2, q3, q4, q5⟩ := hS'.k1 h; exact ⟨m, lo, hi, q1, q2, q3, q4.later hb, ho _ _ q4.1 q5⟩
        · obtain ⟨m, lo, hi, q1, q2, q3, q4, q5⟩ := hS'.k2 h; exact ⟨m, lo, hi, q1, q2, q3, q4.later hb, ho _ _ q4.1 q5⟩
      have boxes : ∀ W2, Below W'.heap.size W' W2 → (s4 = true → ∃ D, t7 = .pointer (some ⟨D, 0, none⟩) ∧ W.heap.size ≤ D ∧ W2.heap[D]? = some (.cells #[.slice none 0 0, .slice none 0 0, .slice none 0 0, .slice none 0 0, .slice none 0 0, .slice none 0 0, .slice none 0 0] 30)) ∧ (s5 = true → ∃ D, t8 = .pointer (some ⟨D, 0, none⟩) ∧ W.heap.size ≤ D ∧ W2.heap[D]? = some (.cells #[.int .i64 0, .int .i64 0, .slice none 0 0] 33)) := fun W2 hb => by
        refine ⟨fun h => ?_, fun h => ?_⟩
        · obtain ⟨D, q1, q2, q3⟩ := hS'.k4 h; exact ⟨D, q1, q2, (hb.block D (Array.getElem?_eq_some_iff.1 q3).1).trans q3⟩
        · obtain ⟨D, q1, q2, q3⟩ := hS'.k5 h; exact ⟨D, q1, q2, (hb.block D (Array.getElem?_eq_some_iff.1 q3).1).trans q3⟩
      have same : ∀ lo hi, hi ≤ W'.heap.size → Offs5 s4 s5 t7 t8 lo hi → Offs5 s4 s5 t7 t8 lo hi := fun _ _ _ h => h
      rcases hc with ⟨rfl, rfl⟩ | ⟨rfl, rfl, rfl⟩ | ⟨rfl, rfl⟩ | ⟨rfl, rfl⟩
      · refine wpOp_step (o := { dst := some 28, op := Go.Op.call { callee := Go.Callee.value (Go.Operand.func 42), args := #[Go.Operand.tmp 27], argTypes := #[30] }, type := 30, pos := "law.go:217", after := #[{ on := 0, ground := Go.Ground.data }], guard := none }) (by kernel_rfl) fun K hK => ?_
        have hcl := hcb W' hbel
        simp only [BN.val] at hcl ⊢
        go_simp
        go_at_call 42
        refine hcl.mono ?_
        rintro e w' ⟨m, rfl, hme, hmh, hbl⟩
        obtain ⟨p1, p2⟩ := keep s4 s5 t7 t8 w' hbl same
        obtain ⟨p4, p5⟩ := boxes w' hbl
        have hb2 := hbel.trans (hbl.mono hbel.size)
        refine hK _ _ ⟨hS _ hb2, ih true s2 s4 s5 (fun _ => rfl) (by simp at hk ⊢; omega) _ _ _ _ _ ⟨hb2, fun _ => ⟨m, _, _, rfl, hme, hbel.size, hmh, hS'.lt _⟩, p2, p4, p5⟩⟩
      · refine wpOp_step (o := { dst := some 30, op := Go.Op.call { callee := Go.Callee.value (Go.Operand.func 43), args := #[Go.Operand.tmp 29], argTypes := #[33] }, type := 33, pos := "law.go:217", after := #[{ on := 2, ground := Go.Ground.data }, { on := 1, ground := Go.Ground.chain }], guard := none }) (by kernel_rfl) fun K hK => ?_
        have hcl := hcc W' hbel
        simp only [MT.val] at hcl ⊢
        go_simp
        go_at_call 43
        refine hcl.mono ?_
        rintro e w' ⟨m, rfl, hme, hnw, hbl⟩
        obtain ⟨p1, p2⟩ := keep s4 s5 t7 t8 w' hbl same
        obtain ⟨p4, p5⟩ := boxes w' hbl
        have hb2 := hbel.trans (hbl.mono hbel.size)
        have hmh := held_tree hnw
        refine hK _ _ ⟨hS _ hb2, ih true true s4 s5 (fun _ => rfl) (by simp at hk ⊢; omega) _ _ _ _ _ ⟨hb2, p1, fun _ => ⟨m, _, _, rfl, hme, hbel.size, hmh, hS'.lt _⟩, p4, p5⟩⟩
      · refine wpOp_step (o := { dst := some 7, op := Go.Op.alloc 30, type := 0, pos := "law.go:217", after := #[], guard := none }) (by kernel_rfl) fun K hK => ?_
        go_simp
        have hbl := (Below.refl W'.heap.size W').alloc (Nat.le_refl _) (.cells #[.slice none 0 0, .slice none 0 0, .slice none 0 0, .slice none 0 0, .slice none 0 0, .slice none 0 0, .slice none 0 0] 30)
        have hb2 := hbel.trans (hbl.mono hbel.size)
        obtain ⟨p1, p2⟩ := keep true s5 (.pointer (some ⟨W'.heap.size, 0, none⟩)) t8 _ hbl (fun lo hi hh ho D e => by
          rcases e with ⟨e1, e2⟩ | ⟨e1, e2⟩
          · have e3 : W'.heap.size = D := (by injection e2 with e2; injection e2 with e2; injection e2); exact .inr (by omega)
          · exact ho D (.inr ⟨e1, e2⟩))
        obtain ⟨p4, p5⟩ := boxes _ hbl
        refine hK _ _ ⟨hS _ hb2, ih s1 s2 true s5 (h1) (by simp at hk ⊢; omega) _ _ _ _ _ ⟨hb2, p1, p2, fun _ => ⟨_, rfl, hbel.size, heap_alloc_new _ _⟩, p5⟩⟩
      · refine wpOp_step (o := { dst := some 8, op := Go.Op.alloc 33, type := 0, pos := "law.go:217", after := #[], guard := none }) (by kernel_rfl) fun K hK => ?_
        go_simp
        have hbl := (Below.refl W'.heap.size W').alloc (Nat.le_refl _) (.cells #[.int .i64 0, .int .i64 0, .slice none 0 0] 33)
        have hb2 := hbel.trans (hbl.mono hbel.size)
        obtain ⟨p1, p2⟩ := keep s4 true t7 (.pointer (some ⟨W'.heap.size, 0, none⟩)) _ hbl (fun lo hi hh ho D e => by
          rcases e with ⟨e1, e2⟩ | ⟨e1, e2⟩
          · exact ho D (.inl ⟨e1, e2⟩)
          · have e3 : W'.heap.size = D := (by injection e2 with e2; injection e2 with e2; injection e2); exact .inr (by omega))
        obtain ⟨p4, p5⟩ := boxes _ hbl
        refine hK _ _ ⟨hS _ hb2, ih s1 s2 s4 true (h1) (by simp at hk ⊢; omega) _ _ _ _ _ ⟨hb2, p1, p2, p4, fun _ => ⟨_, rfl, hbel.size, heap_alloc_new _ _⟩⟩⟩

set_option maxRecDepth 100000 in
set_option maxHeartbeats 8000000 in
theorem own5B (b : BN) (c : MT) (W : World) (Q : Exit → Act → World → Prop) (S : World → Prop) (hS : ∀ w', Below W.heap.size W w' → S w')
    (x0 x1 x2 x3 x4 x5 x6 x9 x10 x11 x12 x13 x14 x15 x16 x17 x18 x19 x20 x21 x22 x23 x24 x25 x26 x31 x32 x33 x34 x35 x36 x37 x38 x39 x40 x41 x42 x43 x44 x45 x46 x47 x48 x49 x50 x51 x52 x53 x54 x55 x56 x57 x58 x59 x60 x61 x62 x63 x64 x65 x66 x67 x68 x69 x70 x71 x72 x73 x74 x75 x76 x77 x78 x79 x80 x81 x82 x83 x84 x85 x86 x87 x88 x89 x90 x91 x92 x93 x94 x95 x96 x97 x98 x99 x100 x101 x102 x103 x104 x105 : Value)
    (hend : ∀ (t28 t30 t7 t8 : Value) (w9 : World), EndOwn5 b c W w9 t7 t8 → Q .normal { tmps := #[x0, x1, x2, x3, x4, x5, x6, t7, t8, x9, x10, x11, x12, x13, x14, x15, x16, x17, x18, x19, x20, x21, x22, x23, x24, x25, x26, b.val, t28, c.val, t30, x31, x32, x33, x34, x35, x36, x37, x38, x39, x40, x41, x42, x43, x44, x45, x46, x47, x48, x49, x50, x51, x52, x53, x54, x55, x56, x57, x58, x59, x60, x61, x62, x63, x64, x65, x66, x67, x68, x69, x70, x71, x72, x73, x74, x75, x76, x77, x78, x79, x80, x81, x82, x83, x84, x85, x86, x87, x88, x89, x90, x91, x92, x93, x94, x95, x96, x97, x98, x99, x100, x101, x102, x103, x104, x105], defers := [] } w9) :
    ∀ (t28 t30 t7 t8 : Value) (W' : World), SO5 b c W W' true true true true t28 t30 t7 t8 → wpAnyH Tryz.prog .any ops5 Q S 2 #[true, true, true, true, true, true, false, false] { tmps := #[x0, x1, x2, x3, x4, x5, x6, t7, t8, x9, x10, x11, x12, x13, x14, x15, x16, x17, x18, x19, x20, x21, x22, x23, x24, x25, x26, b.val, t28, c.val, t30, x31, x32, x33, x34, x35, x36, x37, x38, x39, x40, x41, x42, x43, x44, x45, x46, x47, x48, x49, x50, x51, x52, x53, x54, x55, x56, x57, x58, x59, x60, x61, x62, x63, x64, x65, x66, x67, x68, x69, x70, x71, x72, x73, x74, x75, x76, x77, x78, x79, x80, x81, x82, x83, x84, x85, x86, x87, x88, x89, x90, x91, x92, x93, x94, x95, x96, x97, x98, x99, x100, x101, x102, x103, x104, x105], defers := [] } W' := by
  intro t28 t30 t7 t8 W' hS'
  obtain ⟨m, l1, h1, rfl, hme, hl1, hm, o1⟩ := hS'.k1 rfl
  obtain ⟨M, l2, h2, rfl, hMe, hl2, hM, o2⟩ := hS'.k2 rfl
  obtain ⟨D1, rfl, hD1, hk1⟩ := hS'.k4 rfl
  obtain ⟨D2, rfl, hD2, hk2⟩ := hS'.k5 rfl
  have hbel := hS'.bel
  have n12 : D1 ≠ D2 := fun e => by subst e; rw [hk1] at hk2; exact absurd (by injection hk2 with h; injection h) (show (30 : Nat) ≠ 33 by decide)
  obtain ⟨p1, g1⟩ := store7 hk1 (.slice m.N.C.A m.N.C.l.length m.N.C.c) (.slice m.N.R.A m.N.R.l.length m.N.R.c) (.slice m.N.I.A m.N.I.l.length m.N.I.c) (.slice m.IA m.I.length m.ic) (.slice m.R.A m.R.l.length m.R.c) (.slice m.FA m.F.length m.fc) (.slice m.L.A m.L.l.length m.L.c)
  have z2 := (g1.block D2 (Array.getElem?_eq_some_iff.1 hk2).1 (fun e => n12 (Option.some.inj e).symm)).trans hk2
  obtain ⟨p2, g2⟩ := store3 z2 (.int .i64 M.op) (.int .i64 M.n) (.slice M.A M.args.length M.c)
  have y1 := (g2.block D1 (Array.getElem?_eq_some_iff.1 p1).1 (fun e => n12 (Option.some.inj e))).trans p1
  have b1 := hbel.grown g1 hbel.size (fun k e => by cases e; exact hD1)
  have b2 := b1.grown g2 b1.size (fun k e => by cases e; exact hD2)
  have hm := (hm.grown g1 (fun g e => by cases e; exact o1 D1 (.inl ⟨rfl, rfl⟩))).grown g2 (fun g e => by cases e; exact o1 D2 (.inr ⟨rfl, rfl⟩))
  have hM := (hM.grown g1 (fun g e => by cases e; exact o2 D1 (.inl ⟨rfl, rfl⟩))).grown g2 (fun g e => by cases e; exact o2 D2 (.inr ⟨rfl, rfl⟩))
  have HE := Lib.hid (show EndOwn5 b c W _ _ _ from ⟨m, M, D1, D2, rfl, rfl, b2, hme, hMe, hm.now, hM.now, y1, p2⟩)
  have a0 := cell_of_blk hk1 0
  have af0 := frozen_of_blk hk1 0
  have a1 := cell_of_blk hk1 1
  have af1 := frozen_of_blk hk1 1
  have a2 := cell_of_blk hk1 2
  have af2 := frozen_of_blk hk1 2
  have a3 := cell_of_blk hk1 3
  have af3 := frozen_of_blk hk1 3
  have a4 := cell_of_blk hk1 4
  have af4 := frozen_of_blk hk1 4
  have a5 := cell_of_blk hk1 5
  have af5 := frozen_of_blk hk1 5
  have a6 := cell_of_blk hk1 6
  have af6 := frozen_of_blk hk1 6
  simp only [List.getElem?_toArray, List.getElem?_cons_zero, List.getElem?_cons_succ] at a0 a1 a2 a3 a4 a5 a6
  have c0 := cell_of_blk z2 0
  have cf0 := frozen_of_blk z2 0
  have c1 := cell_of_blk z2 1
  have cf1 := frozen_of_blk z2 1
  have c2 := cell_of_blk z2 2
  have cf2 := frozen_of_blk z2 2
  simp only [List.getElem?_toArray, List.getElem?_cons_zero, List.getElem?_cons_succ] at c0 c1 c2
  have B1 := Lib.hid b1
  have B2 := Lib.hid b2
  clear hS' hme hMe hm hM o1 o2 hbel n12 p1 g1 z2 p2 g2 y1 b1 b2 hk1 hk2
  simp only [BN.val, MT.val]
  refine wpAnyH_ready (rs := [6]) (by kernel_rfl) (by simp) (AllReadyH.cons (o := { dst := none, op := Go.Op.store 30 (Go.Operand.tmp 7) (Go.Operand.tmp 28), type := 0, pos := "law.go:217", after := #[{ on := 4, ground := Go.Ground.data }, { on := 1, ground := Go.Ground.data }, { on := 3, ground := Go.Ground.chain }, { on := 0, ground := Go.Ground.phase }, { on := 1, ground := Go.Ground.phase }, { on := 2, ground := Go.Ground.textOnly Go.Departure.lateStores }, { on := 3, ground := Go.Ground.textOnly Go.Departure.lateStoresUnsure }, { on := 4, ground := Go.Ground.phase }, { on := 5, ground := Go.Ground.phase }], guard := none }) (by kernel_rfl) (fun K hK => ?_) AllReadyH.nil)
  go_simp
  refine hK.out _ _ (hS _ B1.out) (fun _ => ?_)
  clear hK K
  try simp only [List.setIfInBounds_toArray, List.set_cons_zero, List.set_cons_succ]
  refine wpAnyH_ready (rs := [7]) (by kernel_rfl) (by simp) (AllReadyH.cons (o := { dst := none, op := Go.Op.store 33 (Go.Operand.tmp 8) (Go.Operand.tmp 30), type := 0, pos := "law.go:217", after := #[{ on := 5, ground := Go.Ground.data }, { on := 3, ground := Go.Ground.data }, { on := 6, ground := Go.Ground.chain }, { on := 0, ground := Go.Ground.phase }, { on := 1, ground := Go.Ground.phase }, { on := 2, ground := Go.Ground.phase }, { on := 3, ground := Go.Ground.phase }, { on := 4, ground := Go.Ground.phase }, { on := 5, ground := Go.Ground.phase }, { on := 6, ground := Go.Ground.phase }], guard := none }) (by kernel_rfl) (fun K hK => ?_) AllReadyH.nil)
  go_simp
  refine hK.out _ _ (hS _ B2.out) (fun _ => ?_)
  clear hK K
  try simp only [List.setIfInBounds_toArray, List.set_cons_zero, List.set_cons_succ]
  refine wpAnyH_done (by kernel_rfl) ?_ _
  exact hend _ _ _ _ _ HE.out
end Go.Proofs.YtndkcimajeofcaaGreatDoor

namespace Go.Proofs.YtndkcimajeofcaaGreatDoor
open Go.RowKit

set_option maxRecDepth 100000 in
set_option maxHeartbeats 1000000 in
theorem rOf5_any (op nn : Int) (A : Option Addr) (len c : Nat) (w : World) : Calls Tryz.prog 54 #[.int .i64 op, .int .i64 nn, .slice A len c] w fun e w' => e = .returned (.agg #[.int .i64 op, .int .i64 nn, .slice A len c]) ∧ Below w.heap.size w w' := by
  go_enter Tryz.func54, Tryz.ntmps54
  go_wp2_with fail
  obtain ⟨W1, hW1, hB1, hs1, hblk1⟩ := newBlk w _ rfl #[.int .i64 op, .int .i64 nn, .slice A len c] 33
  have t0 := cell_of_blk hblk1 0
  have t1 := cell_of_blk hblk1 1
  have t2 := cell_of_blk hblk1 2
  simp only [List.getElem?_toArray, List.getElem?_cons_zero, List.getElem?_cons_succ] at t0 t1 t2
  rw [hW1]
  exact bodyPost_ret (v := .agg #[.int .i64 op, .int .i64 nn, .slice A len c]) (by simp [results, Tryz.f54, go_sem, t0, t1, t2]) rfl ⟨rfl, hB1⟩
end Go.Proofs.YtndkcimajeofcaaGreatDoor
