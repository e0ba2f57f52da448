import Derived.Test.YtnkkpjgclekobaaGreatDoorBIs
import Derived.Test.YtnkkpjgclekobaaGreatDoorIncR
import Derived.Test.YtnkkpjgclekobaaGreatDoorSameL
namespace Go.Proofs.YtnkkpjgclekobaaGreatDoor
open Go.RowKit
attribute [local go_sem ↓] Go.wp_at_zero Go.wp_at_succ

set_option maxRecDepth 100000 in
set_option maxHeartbeats 8000000 in
theorem rTrue_R (b : BN) (i : IN) (m : Nat) (w : World) (f : Few3 b i) (hm : i.size = m) (hk : kcheckB b = true) (hci : icheckF b.N i = 0) (hb : b.In w.heap.size w) (hi : i.In w.heap.size w) (k : Nat) (hlt : k < b.R.l.length) (a : Int) (ha : a = (b.I.length : Int) + k) :
    Calls Tryz.prog 61 #[b.val, i.val, .int .i64 a] w fun e w' => e = .returned (.bool (verR i m b.R.l[k])) ∧ Below w.heap.size w w' := by
  obtain ⟨hok, z1, z256, zc, zr, zi, hls⟩ := icheck_zero hci
  obtain ⟨-, k60, knum, kcon⟩ := kcheck_facts hk
  obtain ⟨W1, hW1, hB1, hs1, hk1⟩ := newBlk w _ rfl #[.slice b.N.C.A b.N.C.l.length b.N.C.c, .slice b.N.R.A b.N.R.l.length b.N.R.c, .slice b.N.I.A b.N.I.l.length b.N.I.c, .slice b.IA b.I.length b.ic, .slice b.R.A b.R.l.length b.R.c, .slice b.FA b.F.length b.fc, .slice b.L.A b.L.l.length b.L.c] 30
  obtain ⟨W2, hW2, hB2, hs2, hk2⟩ := newBlk W1 _ hs1 #[.int .i64 i.size, .slice i.CA i.C.length i.cc, .slice i.RA i.R.length i.rc, .slice i.I.A i.I.l.length i.I.c] 35
  have hB : Below w.heap.size w W2 := hB1.trans (hB2.mono (by omega))
  have hkk1 := (hB2.block w.heap.size (by omega)).trans hk1
  have hS : ∀ w', Below W2.heap.size W2 w' → BBox w' w.heap.size b ∧ (w'.cell? ⟨w.heap.size + 1, 0, none⟩ = some (.int .i64 i.size) ∧ w'.cell? ⟨w.heap.size + 1, 1, none⟩ = some (.slice i.CA i.C.length i.cc) ∧ w'.cell? ⟨w.heap.size + 1, 2, none⟩ = some (.slice i.RA i.R.length i.rc) ∧ w'.cell? ⟨w.heap.size + 1, 3, none⟩ = some (.slice i.I.A i.I.l.length i.I.c)) := fun w' h => ⟨bbox_of (b := b) (blk_lat hkk1 h), cell_of_blk (blk_lat hk2 h) 0, cell_of_blk (blk_lat hk2 h) 1, cell_of_blk (blk_lat hk2 h) 2, cell_of_blk (blk_lat hk2 h) 3⟩
  have HS0 := Lib.hid hS
  have hsz : (b.I.length : Int) ≤ 1000 := by have := f.I; omega
  have q1 : decide (a < (b.I.length : Int)) = false := decide_eq_false (by omega)
  obtain ⟨a1, ha1⟩ : ∃ a1, a - (b.I.length : Int) = a1 := ⟨_, rfl⟩
  have w1 : wrap64 (a - (b.I.length : Int)) = a1 := by unfold wrap64; omega
  have w1' : IntKind.i64.wrap (a - (b.I.length : Int)) = a1 := by rw [IntKind.wrap_i64]; omega
  have hak : a1 = (k : Nat) := by omega
  subst hak
  obtain ⟨g, off, hA, hg, e0, e1⟩ := (hb.later hB).role hlt
  have hnu := knum
  rw [numsB, Bool.and_eq_true, List.all_eq_true] at hnu
  have hrk := hnu.1 _ (List.getElem_mem hlt)
  simp only [roleOk, foreignB, Bool.not_eq_true', Bool.or_eq_false_iff, decide_eq_false_iff_not] at hrk
  obtain ⟨r1, hr1⟩ : ∃ r1 : Nat, b.R.l[k].1 = r1 := ⟨b.R.l[k].1.toNat, by omega⟩
  obtain ⟨r2, hr2⟩ : ∃ r2 : Nat, b.R.l[k].2 = r2 := ⟨b.R.l[k].2.toNat, by omega⟩
  have hp1 := fun w' (h : Below W2.heap.size W2 w') => rPairs_any i m r1 hm (by omega) hls (by omega) w' ((hi.later hB).later h)
  have hp2 := fun w' (h : Below W2.heap.size W2 w') => rPairs_any i m r2 hm (by omega) hls (by omega) w' ((hi.later hB).later h)
  have hver : verR i m b.R.l[k] = (progP m (endsF i r1)).all fun p => (progP m (endsF i r2)).contains p := by
    rw [incl_list, verR, hr1, hr2]; rfl
  rw [hver]
  rw [hr1] at e0
  rw [hr2] at e1
  have hcs : ∀ w', Below W2.heap.size W2 w' → w'.cell? ⟨w.heap.size, 4, none⟩ = some (.slice (some ⟨g, off, none⟩) b.R.l.length b.R.c) ∧ (w'.cell? ⟨g, off + k * 2, none⟩ = some (.int .i64 (r1 : Nat)) ∧ w'.cell? ⟨g, off + k * 2 + 1, none⟩ = some (.int .i64 (r2 : Nat))) ∧ (w'.cell? ⟨w.heap.size + 1, 0, none⟩ = some (.int .i64 i.size) ∧ w'.cell? ⟨w.heap.size + 1, 1, none⟩ = some (.slice i.CA i.C.length i.cc) ∧ w'.cell? ⟨w.heap.size + 1, 2, none⟩ = some (.slice i.RA i.R.length i.rc) ∧ w'.cell? ⟨w.heap.size + 1, 3, none⟩ = some (.slice i.I.A i.I.l.length i.I.c)) := fun w' h => by
    have hx := hS w' h
    refine ⟨?_, ⟨(h.cell (p := ⟨g, off + k * 2, none⟩) hg).trans e0, (h.cell (p := ⟨g, off + k * 2 + 1, none⟩) hg).trans e1⟩, hx.2⟩
    rw [← hA]; exact hx.1.2.2.2.2.1
  obtain ⟨c4, ⟨d0, d1⟩, c7, c8, c9, c10⟩ := hcs W2 (Below.refl _ _)
  obtain ⟨c0, c1, c2, c3, -⟩ := (hS W2 (Below.refl _ _)).1
  have hd : Below W2.heap.size W2 W2.drew := (Below.refl _ _).drew
  have h0K : (0 : Int) ≤ k := by omega
  have hlK : (k : Int) < b.R.l.length := by omega
  have HB := Lib.hid hB
  have HCS := Lib.hid hcs
  obtain ⟨L1, hL1⟩ : ∃ L, progP m (endsF i r1) = L := ⟨_, rfl⟩
  obtain ⟨L2, hL2⟩ : ∃ L, progP m (endsF i r2) = L := ⟨_, rfl⟩
  rw [hL1] at hp1 ⊢
  rw [hL2] at hp2 ⊢
  have HP1 := Lib.hid hp1
  have HP2 := Lib.hid hp2
  simp only [IN.val, BN.val] at HP1 HP2 ⊢
  rw [hA] at hW1 ⊢
  clear hm hk hci hb hi hok z1 z256 zc zr zi hls k60 knum kcon hB hB1 hB2 hk1 hk2 hkk1 hS HS0 hA hg e0 e1 hcs f hs2 hp1 hp2 hver hnu hrk hr1 hr2 hL1 hL2 ha ha1 hsz
  go_enter Tryz.func61, Tryz.ntmps61
  go_wp2_with fail
  go_region_held3 (fun w' => w'.cell? ⟨w.heap.size, 4, none⟩ = some (.slice (some ⟨g, off, none⟩) b.R.l.length b.R.c) ∧ (w'.cell? ⟨g, off + k * 2, none⟩ = some (.int .i64 (r1 : Nat)) ∧ w'.cell? ⟨g, off + k * 2 + 1, none⟩ = some (.int .i64 (r2 : Nat))) ∧ (w'.cell? ⟨w.heap.size + 1, 0, none⟩ = some (.int .i64 i.size) ∧ w'.cell? ⟨w.heap.size + 1, 1, none⟩ = some (.slice i.CA i.C.length i.cc) ∧ w'.cell? ⟨w.heap.size + 1, 2, none⟩ = some (.slice i.RA i.R.length i.rc) ∧ w'.cell? ⟨w.heap.size + 1, 3, none⟩ = some (.slice i.I.A i.I.l.length i.I.c)))
    (first | exact HCS.out _ hd | exact HCS.out _ hb4)
    (first | (go_at_call 97; refine (HP2.out W2.drew hd).mono ?_; rintro e w4 ⟨s2, rfl, hs2', hin2, hb4'⟩; have HS2 := Lib.hid hs2'; clear hs2'; have hb4 : Below W2.heap.size W2 w4 := hd.trans hb4'))
  have hd4 : Below W2.heap.size W2 w4.drew := hb4.drew
  go_wp2_with fail
  go_region_held3 (fun w' => w'.cell? ⟨w.heap.size, 4, none⟩ = some (.slice (some ⟨g, off, none⟩) b.R.l.length b.R.c) ∧ (w'.cell? ⟨g, off + k * 2, none⟩ = some (.int .i64 (r1 : Nat)) ∧ w'.cell? ⟨g, off + k * 2 + 1, none⟩ = some (.int .i64 (r2 : Nat))) ∧ (w'.cell? ⟨w.heap.size + 1, 0, none⟩ = some (.int .i64 i.size) ∧ w'.cell? ⟨w.heap.size + 1, 1, none⟩ = some (.slice i.CA i.C.length i.cc) ∧ w'.cell? ⟨w.heap.size + 1, 2, none⟩ = some (.slice i.RA i.R.length i.rc) ∧ w'.cell? ⟨w.heap.size + 1, 3, none⟩ = some (.slice i.I.A i.I.l.length i.I.c)))
    (first | exact HCS.out _ hd4 | exact HCS.out _ hb5)
    (first | (go_at_call 97; refine (HP1.out w4.drew hd4).mono ?_; rintro e w5 ⟨s1, rfl, hs1', hin1, hb5'⟩; have HS1 := Lib.hid hs1'; clear hs1'; have hb5 : Below W2.heap.size W2 w5 := hd4.trans (hb5'.mono hd4.size); have hb45 : Below w4.heap.size w4 w5 := (Below.refl w4.heap.size w4).drew.trans hb5'))
  have HI2 := Lib.hid (hin2.below hb45.size hb45)
  have HI1 := Lib.hid hin1
  have hll : s1.l.length ≤ 9223372036854775807 := Nat.le_trans hin1.1 hin1.2.1
  have HB5 := Lib.hid hb5
  clear hin2 hin1 c0 c1 c2 c3 c4 c7 c8 c9 c10 d0 d1 hb4 hb4' hb5' hd hd4 hb45
  go_wp2_with fail
  go_loopw [58] (fun i' wr => ∃ j : Nat, j ≤ s1.l.length ∧ i' = .int .i64 (j : Nat) ∧ (∀ x (hx : x < s1.l.length), x < j → L2.contains s1.l[x] = true) ∧ Below w5.heap.size w5 wr) (fun i' _ => s1.l.length - (intOf i').toNat)
  case atStart => exact ⟨0, Nat.zero_le _, rfl, fun x _ h => absurd h (by omega), Below.refl _ _⟩
  case round =>
    rename World => wr
    obtain ⟨j, hj, rfl, hall, hbw⟩ := hrel
    have HA := Lib.hid hall
    clear hall
    by_cases hltj : j < s1.l.length
    · obtain ⟨g1, o1, hA1, hg1, dd⟩ := PL.In.cells HI1.out (by omega)
      obtain ⟨x0, x1⟩ := dd j hltj
      have y0 := (hbw.cell (p := ⟨g1, o1 + j * 2, none⟩) hg1).trans x0
      have y1 := (hbw.cell (p := ⟨g1, o1 + j * 2 + 1, none⟩) hg1).trans x1
      have h0J : (0 : Int) ≤ j := by omega
      have hlJ : (j : Int) < s1.l.length := by omega
      obtain ⟨Wa, hWa, hBa, hsa, hka⟩ := newBlk wr _ rfl #[.int .i64 s1.l[j].1, .int .i64 s1.l[j].2] 93
      have hwa : Below w5.heap.size w5 Wa := hbw.trans (hBa.mono hbw.size)
      have hli := linked_any s2 s1.l[j] Wa (HI2.out.below hwa.size hwa)
      obtain ⟨t, ht⟩ : ∃ t, s2.l.contains s1.l[j] = t := ⟨_, rfl⟩
      rw [ht] at hli
      have HT := Lib.hid (show L2.contains s1.l[j] = t by rw [← HS2.out]; exact ht)
      have HLI := Lib.hid hli
      have u0 := cell_of_blk hka 0
      have u1 := cell_of_blk hka 1
      simp only [List.getElem?_toArray, List.getElem?_cons_zero, List.getElem?_cons_succ] at u0 u1
      have HWA := Lib.hid hwa
      have HSA := Lib.hid hsa
      rw [hA1]
      clear dd x0 x1 hbw hBa hka hsa hwa hA1 ht hli
      generalize hz : s1.l[j] = z at y0 y1 u0 u1 hWa HLI
      have HZ := Lib.hid hz
      clear hz
      cases t
      · go_wp2_with (go_at_call 98; refine HLI.out.mono ?_; rintro e w6 ⟨rfl, hb6⟩)
        go_ret
        exact ⟨by rw [← HS1.out, all_no hltj HT.out]; rfl, HB.out.trans ((HB5.out.trans ((HWA.out.trans (hb6.mono HWA.out.size)).mono HB5.out.size)).mono HB.out.size)⟩
      · go_wp2_with (go_at_call 98; refine HLI.out.mono ?_; rintro e w6 ⟨rfl, hb6⟩)
        go_roundw
        case rel => exact ⟨j + 1, by omega, by go_num, fun x hx hxj => by
          by_cases e : x = j
          · subst e; exact HT.out
          · exact HA.out x hx (by omega), HWA.out.trans (hb6.mono HWA.out.size)⟩
        case measure => simp [intOf]; omega
    · have HY := Lib.hid (all_yes (f := fun p => L2.contains p) (l := s1.l) fun x hx => HA.out x hx (by omega))
      have HBW := Lib.hid hbw
      clear hbw
      go_wp2_with fail
      go_ret
      exact ⟨by rw [← HS1.out, HY.out]; rfl, HB.out.trans ((HB5.out.trans (HBW.out.mono HB5.out.size)).mono HB.out.size)⟩

end Go.Proofs.YtnkkpjgclekobaaGreatDoor
