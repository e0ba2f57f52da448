import Derived.Test.YtnkkpjgclekobaaGreatDoorBIs
import Derived.Test.YtnkkpjgclekobaaGreatDoorIncR
import Derived.Test.YtnkkpjgclekobaaGreatDoorSameL
namespace Go.Proofs.YtnkkpjgclekobaaGreatDoor
open Go.RowKit
attribute [local go_sem ↓] Go.wp_at_zero Go.wp_at_succ

set_option maxRecDepth 100000 in
set_option maxHeartbeats 8000000 in
theorem rTrue_I (b : BN) (i : IN) (m : Nat) (w : World) (f : Few3 b i) (hm : i.size = m) (hk : kcheckB b = true) (hci : icheckF b.N i = 0) (hb : b.In w.heap.size w) (hi : i.In w.heap.size w) (k : Nat) (hlt : k < b.I.length) :
    Calls Tryz.prog 61 #[b.val, i.val, .int .i64 (k : Nat)] w fun e w' => e = .returned (.bool (verI i m b.I[k])) ∧ Below w.heap.size w w' := by
  obtain ⟨hok, z1, z256, zc, zr, zi, hls⟩ := icheck_zero hci
  obtain ⟨-, k60, knum, kcon⟩ := kcheck_facts hk
  obtain ⟨W1, hW1, hB1, hs1, hk1⟩ := newBlk w _ rfl #[.slice b.N.C.A b.N.C.l.length b.N.C.c, .slice b.N.R.A b.N.R.l.length b.N.R.c, .slice b.N.I.A b.N.I.l.length b.N.I.c, .slice b.IA b.I.length b.ic, .slice b.R.A b.R.l.length b.R.c, .slice b.FA b.F.length b.fc, .slice b.L.A b.L.l.length b.L.c] 30
  obtain ⟨W2, hW2, hB2, hs2, hk2⟩ := newBlk W1 _ hs1 #[.int .i64 i.size, .slice i.CA i.C.length i.cc, .slice i.RA i.R.length i.rc, .slice i.I.A i.I.l.length i.I.c] 35
  have hB : Below w.heap.size w W2 := hB1.trans (hB2.mono (by omega))
  have hkk1 := (hB2.block w.heap.size (by omega)).trans hk1
  have hS : ∀ w', Below W2.heap.size W2 w' → BBox w' w.heap.size b ∧ (w'.cell? ⟨w.heap.size + 1, 0, none⟩ = some (.int .i64 i.size) ∧ w'.cell? ⟨w.heap.size + 1, 1, none⟩ = some (.slice i.CA i.C.length i.cc) ∧ w'.cell? ⟨w.heap.size + 1, 2, none⟩ = some (.slice i.RA i.R.length i.rc) ∧ w'.cell? ⟨w.heap.size + 1, 3, none⟩ = some (.slice i.I.A i.I.l.length i.I.c)) := fun w' h => ⟨bbox_of (b := b) (blk_lat hkk1 h), cell_of_blk (blk_lat hk2 h) 0, cell_of_blk (blk_lat hk2 h) 1, cell_of_blk (blk_lat hk2 h) 2, cell_of_blk (blk_lat hk2 h) 3⟩
  have HS0 := Lib.hid hS
  obtain ⟨g, off, hA, hg, e0, e1, e2, e3, e4, e5⟩ := (hb.later hB).incl hlt
  have m1 : b.I[k].1 ∈ b.cons := by rw [BN.cons]; exact List.mem_append_left _ (List.mem_flatMap.2 ⟨_, List.getElem_mem hlt, by simp⟩)
  have m2 : b.I[k].2 ∈ b.cons := by rw [BN.cons]; exact List.mem_append_left _ (List.mem_flatMap.2 ⟨_, List.getElem_mem hlt, by simp⟩)
  have hwf : ∀ T ∈ b.cons, T.tr.wfT i.C.length i.R.length = true := fun T hT => wf_of_check0 (kcon T hT) zc zr
  have hin := fun w' (h : Below W2.heap.size W2 w') => rIncluded_any i m hm (by omega) hls b.I[k].1 b.I[k].2 w' ((hi.later hB).later h) (((hb.later hB).later h).i4 _ (List.getElem_mem hlt)).1 (((hb.later hB).later h).i4 _ (List.getElem_mem hlt)).2 (hwf _ m1) (hwf _ m2)
  have hcs : ∀ w', Below W2.heap.size W2 w' → w'.cell? ⟨w.heap.size, 3, none⟩ = some (.slice (some ⟨g, off, none⟩) b.I.length b.ic) ∧ (w'.cell? ⟨g, off + k * 6, none⟩ = some (.int .i64 b.I[k].1.op) ∧ w'.cell? ⟨g, off + k * 6 + 1, none⟩ = some (.int .i64 b.I[k].1.n) ∧ w'.cell? ⟨g, off + k * 6 + 2, none⟩ = some (.slice b.I[k].1.A b.I[k].1.args.length b.I[k].1.c) ∧ w'.cell? ⟨g, off + k * 6 + 3, none⟩ = some (.int .i64 b.I[k].2.op) ∧ w'.cell? ⟨g, off + k * 6 + 4, none⟩ = some (.int .i64 b.I[k].2.n) ∧ w'.cell? ⟨g, off + k * 6 + 5, none⟩ = some (.slice b.I[k].2.A b.I[k].2.args.length b.I[k].2.c)) ∧ (w'.cell? ⟨w.heap.size + 1, 0, none⟩ = some (.int .i64 i.size) ∧ w'.cell? ⟨w.heap.size + 1, 1, none⟩ = some (.slice i.CA i.C.length i.cc) ∧ w'.cell? ⟨w.heap.size + 1, 2, none⟩ = some (.slice i.RA i.R.length i.rc) ∧ w'.cell? ⟨w.heap.size + 1, 3, none⟩ = some (.slice i.I.A i.I.l.length i.I.c)) := fun w' h => by
    have hx := hS w' h
    refine ⟨?_, ⟨(h.cell (p := ⟨g, off + k * 6, none⟩) hg).trans e0, (h.cell (p := ⟨g, off + k * 6 + 1, none⟩) hg).trans e1, (h.cell (p := ⟨g, off + k * 6 + 2, none⟩) hg).trans e2, (h.cell (p := ⟨g, off + k * 6 + 3, none⟩) hg).trans e3, (h.cell (p := ⟨g, off + k * 6 + 4, none⟩) hg).trans e4, (h.cell (p := ⟨g, off + k * 6 + 5, none⟩) hg).trans e5⟩, hx.2⟩
    rw [← hA]; exact hx.1.2.2.2.1
  obtain ⟨c3, ⟨d0, d1, d2, d3, d4, d5⟩, c7, c8, c9, c10⟩ := hcs W2 (Below.refl _ _)
  have hd : Below W2.heap.size W2 W2.drew := (Below.refl _ _).drew
  have h0K : (0 : Int) ≤ k := by omega
  have hlK : (k : Int) < b.I.length := by omega
  have HB := Lib.hid hB
  have HCS := Lib.hid hcs
  rw [verI]
  obtain ⟨t, ht⟩ : ∃ t, subB (semT i m b.I[k].1.tr) (semT i m b.I[k].2.tr) = t := ⟨_, rfl⟩
  rw [ht] at hin ⊢
  have HIN := Lib.hid hin
  simp only [MT.val, IN.val, BN.val] at HIN ⊢
  rw [hA] at hW1 ⊢
  clear ht hm hk hci hb hi hok z1 z256 zc zr zi hls k60 knum kcon hB hB1 hB2 hk1 hk2 hkk1 hS HS0 hA hg e0 e1 e2 e3 e4 e5 m1 m2 hwf hin hcs f hs2
  generalize b.I[k].1 = T at d0 d1 d2 HCS HIN
  generalize b.I[k].2 = D at d3 d4 d5 HCS HIN
  go_enter Tryz.func61, Tryz.ntmps61
  go_wp2_with fail
  go_region_held3 (fun w' => w'.cell? ⟨w.heap.size, 3, none⟩ = some (.slice (some ⟨g, off, none⟩) b.I.length b.ic) ∧ (w'.cell? ⟨g, off + k * 6, none⟩ = some (.int .i64 T.op) ∧ w'.cell? ⟨g, off + k * 6 + 1, none⟩ = some (.int .i64 T.n) ∧ w'.cell? ⟨g, off + k * 6 + 2, none⟩ = some (.slice T.A T.args.length T.c) ∧ w'.cell? ⟨g, off + k * 6 + 3, none⟩ = some (.int .i64 D.op) ∧ w'.cell? ⟨g, off + k * 6 + 4, none⟩ = some (.int .i64 D.n) ∧ w'.cell? ⟨g, off + k * 6 + 5, none⟩ = some (.slice D.A D.args.length D.c)) ∧ (w'.cell? ⟨w.heap.size + 1, 0, none⟩ = some (.int .i64 i.size) ∧ w'.cell? ⟨w.heap.size + 1, 1, none⟩ = some (.slice i.CA i.C.length i.cc) ∧ w'.cell? ⟨w.heap.size + 1, 2, none⟩ = some (.slice i.RA i.R.length i.rc) ∧ w'.cell? ⟨w.heap.size + 1, 3, none⟩ = some (.slice i.I.A i.I.l.length i.I.c)))
    (first | exact HCS.out _ hd | exact HCS.out _ hb4)
    (first | (go_at_call 96; refine (HIN.out W2.drew hd).mono ?_; rintro e w4 ⟨rfl, hb4'⟩; have hb4 : Below W2.heap.size W2 w4 := hd.trans hb4'))
  go_wp2_with fail
  go_ret
  exact ⟨rfl, HB.out.trans (hb4.mono HB.out.size)⟩

end Go.Proofs.YtnkkpjgclekobaaGreatDoor
