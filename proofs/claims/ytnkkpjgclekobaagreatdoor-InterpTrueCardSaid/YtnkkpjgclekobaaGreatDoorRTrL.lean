import Derived.Test.YtnkkpjgclekobaaGreatDoorBIs
import Derived.Test.YtnkkpjgclekobaaGreatDoorIncR
import Derived.Test.YtnkkpjgclekobaaGreatDoorSameL
namespace Go.Proofs.YtnkkpjgclekobaaGreatDoor
open Go.RowKit
attribute [local go_sem ↓] Go.wp_at_zero Go.wp_at_succ

set_option maxRecDepth 100000 in
set_option maxHeartbeats 8000000 in
theorem rTrue_L (b : BN) (i : IN) (m : Nat) (w : World) (f : Few3 b i) (hm : i.size = m) (hk : kcheckB b = true) (hci : icheckF b.N i = 0) (hb : b.In w.heap.size w) (hi : i.In w.heap.size w) (k : Nat) (hlt : k < b.L.l.length) (a : Int) (ha : a = (b.I.length : Int) + b.R.l.length + b.F.length + k) :
    Calls Tryz.prog 61 #[b.val, i.val, .int .i64 a] w fun e w' => e = .returned (.bool (verL i b.L.l[k])) ∧ Below w.heap.size w w' := by
  obtain ⟨hok, z1, z256, zc, zr, zi, hls⟩ := icheck_zero hci
  obtain ⟨-, k60, knum, kcon⟩ := kcheck_facts hk
  obtain ⟨W1, hW1, hB1, hs1, hk1⟩ := newBlk w _ rfl #[.slice b.N.C.A b.N.C.l.length b.N.C.c, .slice b.N.R.A b.N.R.l.length b.N.R.c, .slice b.N.I.A b.N.I.l.length b.N.I.c, .slice b.IA b.I.length b.ic, .slice b.R.A b.R.l.length b.R.c, .slice b.FA b.F.length b.fc, .slice b.L.A b.L.l.length b.L.c] 30
  obtain ⟨W2, hW2, hB2, hs2, hk2⟩ := newBlk W1 _ hs1 #[.int .i64 i.size, .slice i.CA i.C.length i.cc, .slice i.RA i.R.length i.rc, .slice i.I.A i.I.l.length i.I.c] 35
  have hB : Below w.heap.size w W2 := hB1.trans (hB2.mono (by omega))
  have hkk1 := (hB2.block w.heap.size (by omega)).trans hk1
  have hS : ∀ w', Below W2.heap.size W2 w' → BBox w' w.heap.size b ∧ (w'.cell? ⟨w.heap.size + 1, 0, none⟩ = some (.int .i64 i.size) ∧ w'.cell? ⟨w.heap.size + 1, 1, none⟩ = some (.slice i.CA i.C.length i.cc) ∧ w'.cell? ⟨w.heap.size + 1, 2, none⟩ = some (.slice i.RA i.R.length i.rc) ∧ w'.cell? ⟨w.heap.size + 1, 3, none⟩ = some (.slice i.I.A i.I.l.length i.I.c)) := fun w' h => ⟨bbox_of (b := b) (blk_lat hkk1 h), cell_of_blk (blk_lat hk2 h) 0, cell_of_blk (blk_lat hk2 h) 1, cell_of_blk (blk_lat hk2 h) 2, cell_of_blk (blk_lat hk2 h) 3⟩
  have HS0 := Lib.hid hS
  have hsz : (b.I.length : Int) ≤ 1000 := by have := f.I; omega
  have q1 : decide (a < (b.I.length : Int)) = false := decide_eq_false (by omega)
  obtain ⟨a1, ha1⟩ : ∃ a1, a - (b.I.length : Int) = a1 := ⟨_, rfl⟩
  have w1 : wrap64 (a - (b.I.length : Int)) = a1 := by unfold wrap64; omega
  have w1' : IntKind.i64.wrap (a - (b.I.length : Int)) = a1 := by rw [IntKind.wrap_i64]; omega
  have hsz2 : (b.R.l.length : Int) ≤ 1000 := by have := f.R; omega
  have q2 : decide (a1 < (b.R.l.length : Int)) = false := decide_eq_false (by omega)
  obtain ⟨a2, ha2⟩ : ∃ a2, a1 - (b.R.l.length : Int) = a2 := ⟨_, rfl⟩
  have w2 : wrap64 (a1 - (b.R.l.length : Int)) = a2 := by unfold wrap64; omega
  have w2' : IntKind.i64.wrap (a1 - (b.R.l.length : Int)) = a2 := by rw [IntKind.wrap_i64]; omega
  have hix : ∀ k (hk : k < i.I.l.length), ∃ x : Nat, i.I.l[k] = (x : Int) ∧ x < m := fun k hk => by
    have hl2 := hls
    rw [listsB, Bool.and_eq_true, Bool.and_eq_true, Bool.not_eq_true', List.any_eq_false] at hl2
    have := hl2.2.2 _ (List.getElem_mem hk)
    simp [foreignB] at this
    exact ⟨i.I.l[k].toNat, by omega, by omega⟩
  have hsz3 : (b.F.length : Int) ≤ 1000 := by have := f.F; omega
  have q3 : decide (a2 < (b.F.length : Int)) = false := decide_eq_false (by omega)
  have w3 : wrap64 (a2 - (b.F.length : Int)) = (k : Nat) := by unfold wrap64; omega
  have w3' : IntKind.i64.wrap (a2 - (b.F.length : Int)) = (k : Nat) := by rw [IntKind.wrap_i64]; omega
  obtain ⟨g, off, hA, hg, e0, e1, e2⟩ := (hb.later hB).link hlt
  have hnu := knum
  rw [numsB, Bool.and_eq_true, Bool.and_eq_true, List.all_eq_true, List.all_eq_true, List.all_eq_true] at hnu
  have hfk := hnu.2.2 _ (List.getElem_mem hlt)
  simp only [linkOk, foreignB, Bool.and_eq_true, Bool.not_eq_true', Bool.or_eq_false_iff, decide_eq_false_iff_not] at hfk
  obtain ⟨ro, hro⟩ : ∃ kd : Nat, b.L.l[k].1 = kd := ⟨b.L.l[k].1.toNat, by omega⟩
  obtain ⟨kf, hkf⟩ : ∃ kd : Nat, b.L.l[k].2.1 = kd := ⟨b.L.l[k].2.1.toNat, by omega⟩
  obtain ⟨kt, hkt⟩ : ∃ kd : Nat, b.L.l[k].2.2 = kd := ⟨b.L.l[k].2.2.toNat, by omega⟩
  have hkfl : kf < i.I.l.length := by omega
  have hktl : kt < i.I.l.length := by omega
  have hrol : ro < i.R.length := by omega
  obtain ⟨xf, hxf, hxfm⟩ := hix kf hkfl
  obtain ⟨xt, hxt, hxtm⟩ := hix kt hktl
  obtain ⟨gi, oi, hIA, hgi, di⟩ := IL.In.cells (hi.later hB).i1 (by omega)
  have dxf := di kf hkfl
  have dxt := di kt hktl
  rw [hxf] at dxf
  rw [hxt] at dxt
  obtain ⟨gr, og, hRA, hgr, dr⟩ := RowAt.vals (hi.later hB).r3 (by omega)
  have dro := dr ro hrol
  simp only [PL.val] at dro
  rw [hro] at e0
  rw [hkf] at e1
  rw [hkt] at e2
  obtain ⟨W3, hW3, hB3, hs3, hk3⟩ := newBlk W2 _ hs2 #[.int .i64 (ro : Nat), .int .i64 (kf : Nat), .int .i64 (kt : Nat)] 108
  have hli := fun w' (h : Below W3.heap.size W3 w') => linked_any i.R[ro] ((xf : Int), (xt : Int)) w' ((((hi.later hB).later (hB3.mono (by omega))).later h).r4 _ (List.getElem_mem hrol))
  have hver : verL i b.L.l[k] = (i.R[ro].l).contains ((xf : Int), (xt : Int)) := by
    have h1 := congrFun (endsF_even (i := i) (k := ro) (r := 2 * ro) (by omega) hrol xf) xt
    rw [verL, hro, hkf, hkt, indF, indF, Int.toNat_natCast, Int.toNat_natCast, Int.toNat_natCast, List.getD_eq_getElem?_getD, List.getElem?_eq_getElem hkfl, Option.getD_some, hxf, List.getD_eq_getElem?_getD, List.getElem?_eq_getElem hktl, Option.getD_some, hxt]
    exact h1
  rw [hver]
  have hcs : ∀ w', Below W3.heap.size W3 w' → (w'.cell? ⟨w.heap.size + 1 + 1, 0, none⟩ = some (.int .i64 (ro : Nat)) ∧ w'.cell? ⟨w.heap.size + 1 + 1, 1, none⟩ = some (.int .i64 (kf : Nat)) ∧ w'.cell? ⟨w.heap.size + 1 + 1, 2, none⟩ = some (.int .i64 (kt : Nat))) ∧ w'.cell? ⟨gi, oi + kf, none⟩ = some (.int .i64 (xf : Nat)) ∧ w'.cell? ⟨gi, oi + kt, none⟩ = some (.int .i64 (xt : Nat)) ∧ w'.cell? ⟨gr, og + ro, none⟩ = some (.slice i.R[ro].A i.R[ro].l.length i.R[ro].c) ∧ (w'.cell? ⟨w.heap.size + 1, 0, none⟩ = some (.int .i64 i.size) ∧ w'.cell? ⟨w.heap.size + 1, 1, none⟩ = some (.slice i.CA i.C.length i.cc) ∧ w'.cell? ⟨w.heap.size + 1, 2, none⟩ = some (.slice (some ⟨gr, og, none⟩) i.R.length i.rc) ∧ w'.cell? ⟨w.heap.size + 1, 3, none⟩ = some (.slice (some ⟨gi, oi, none⟩) i.I.l.length i.I.c)) := fun w' h => by
    have h' : Below W2.heap.size W2 w' := (hB3.mono (by omega)).trans (h.mono (by omega))
    have hx := (hS w' h').2
    rw [← hIA, ← hRA]
    exact ⟨⟨cell_of_blk (blk_lat hk3 h) 0, cell_of_blk (blk_lat hk3 h) 1, cell_of_blk (blk_lat hk3 h) 2⟩, ((h'.cell (p := ⟨gi, oi + kf, none⟩) hgi).trans dxf), ((h'.cell (p := ⟨gi, oi + kt, none⟩) hgi).trans dxt), ((h'.cell (p := ⟨gr, og + ro, none⟩) hgr).trans dro), hx⟩
  obtain ⟨c0, c1, c2, c3, c4, c5, c6⟩ := (hS W2 (Below.refl _ _)).1
  obtain ⟨⟨d0, d1, d2⟩, d3, d4, d5, c7, c8, c9, c10⟩ := hcs W3 (Below.refl _ _)
  have hd : Below W3.heap.size W3 W3.drew := (Below.refl _ _).drew
  have h0K : (0 : Int) ≤ k := by omega
  have hlK : (k : Int) < b.L.l.length := by omega
  have h0F : (0 : Int) ≤ kf := by omega
  have hlF : (kf : Int) < i.I.l.length := by omega
  have h0T : (0 : Int) ≤ kt := by omega
  have hlT : (kt : Int) < i.I.l.length := by omega
  have h0R : (0 : Int) ≤ ro := by omega
  have hlR : (ro : Int) < i.R.length := by omega
  have HB := Lib.hid (hB.trans (hB3.mono (by omega)))
  have HCS := Lib.hid hcs
  obtain ⟨t, ht⟩ : ∃ t, (i.R[ro].l).contains ((xf : Int), (xt : Int)) = t := ⟨_, rfl⟩
  rw [ht] at hli ⊢
  have HLI := Lib.hid hli
  simp only [IN.val, BN.val] at ⊢
  rw [hA] at hW1 c6 ⊢
  rw [hIA, hRA] at hW2 ⊢
  clear hm hk hci hb hi hok z1 z256 zc zr zi hls k60 knum kcon hB hB1 hB2 hB3 hk1 hk2 hk3 hkk1 hS HS0 hA hg hcs f hver hnu hfk hro hkf hkt hxf hxt hIA hgi di dxf dxt hRA hgr dr dro hli ht ha ha1 ha2 hsz hsz2 hsz3 hix
  generalize i.R[ro] = s at d5 HCS HLI
  go_enter Tryz.func61, Tryz.ntmps61
  go_wp2_with fail
  go_region_held3 (fun w' => (w'.cell? ⟨w.heap.size + 1 + 1, 0, none⟩ = some (.int .i64 (ro : Nat)) ∧ w'.cell? ⟨w.heap.size + 1 + 1, 1, none⟩ = some (.int .i64 (kf : Nat)) ∧ w'.cell? ⟨w.heap.size + 1 + 1, 2, none⟩ = some (.int .i64 (kt : Nat))) ∧ w'.cell? ⟨gi, oi + kf, none⟩ = some (.int .i64 (xf : Nat)) ∧ w'.cell? ⟨gi, oi + kt, none⟩ = some (.int .i64 (xt : Nat)) ∧ w'.cell? ⟨gr, og + ro, none⟩ = some (.slice s.A s.l.length s.c) ∧ (w'.cell? ⟨w.heap.size + 1, 0, none⟩ = some (.int .i64 i.size) ∧ w'.cell? ⟨w.heap.size + 1, 1, none⟩ = some (.slice i.CA i.C.length i.cc) ∧ w'.cell? ⟨w.heap.size + 1, 2, none⟩ = some (.slice (some ⟨gr, og, none⟩) i.R.length i.rc) ∧ w'.cell? ⟨w.heap.size + 1, 3, none⟩ = some (.slice (some ⟨gi, oi, none⟩) i.I.l.length i.I.c)))
    (first | exact HCS.out _ hd | exact HCS.out _ hb4)
    (first | (go_at_call 98; refine (HLI.out W3.drew hd).mono ?_; rintro e w4 ⟨rfl, hb4'⟩; have hb4 : Below W3.heap.size W3 w4 := hd.trans hb4'))
  go_wp2_with fail
  go_ret
  exact ⟨rfl, HB.out.trans (hb4.mono HB.out.size)⟩

end Go.Proofs.YtnkkpjgclekobaaGreatDoor
