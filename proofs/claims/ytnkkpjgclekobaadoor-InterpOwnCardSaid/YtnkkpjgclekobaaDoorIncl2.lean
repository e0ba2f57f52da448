import Derived.Test.YtnkkpjgclekobaaDoorIncl
namespace Go.Proofs.YtnkkpjgclekobaaDoor
open Go.RowKit

set_option maxRecDepth 100000 in
set_option maxHeartbeats 8000000 in
/-- Included, where a check fails. -/
theorem iIncluded_ck (n : NM) (T D : MT) (i : IN) (w : World) (hG : GT w) (hn : n.In w.heap.size w) (hT : T.In w.heap.size w) (hD : D.In w.heap.size w) (hi : i.In w.heap.size w) (hsz : (T.pre 1).length ≤ 1000000) (hsd : (D.pre 1).length ≤ 1000000) (hck : orF (checkF n T) (orF (checkF n D) (icheckF n i)) ≠ 0) :
    Calls Tryd.prog 30 #[n.val, T.val, D.val, i.val] w fun e w' => e = .returned (.tuple #[.bool false, .int .i64 (orF (checkF n T) (orF (checkF n D) (icheckF n i)))]) ∧ Below w.heap.size w w' := by
  obtain ⟨W1, hW1, hB1, hs1, hk1⟩ := newBlk w _ rfl #[.slice n.C.A n.C.l.length n.C.c, .slice n.R.A n.R.l.length n.R.c, .slice n.I.A n.I.l.length n.I.c] 24
  obtain ⟨W2, hW2, hB2, hs2, hk2⟩ := newBlk W1 _ hs1 #[.int .i64 T.op, .int .i64 T.n, .slice T.A T.args.length T.c] 27
  obtain ⟨W3, hW3, hB3, hs3, hk3⟩ := newBlk W2 _ hs2 #[.int .i64 D.op, .int .i64 D.n, .slice D.A D.args.length D.c] 27
  obtain ⟨W4, hW4, hB4, hs4, hk4⟩ := newBlk W3 _ hs3 #[.int .i64 i.size, .slice i.CA i.C.length i.cc, .slice i.RA i.R.length i.rc, .slice i.I.A i.I.l.length i.I.c] 58
  have hB : Below w.heap.size w W4 := (((hB1.trans (hB2.mono (by omega))).trans (hB3.mono (by omega))).trans (hB4.mono (by omega)))
  have hkk1 := ((hB4.block (w.heap.size) (by omega)).trans ((hB3.block (w.heap.size) (by omega)).trans ((hB2.block (w.heap.size) (by omega)).trans hk1)))
  have hkk2 := ((hB4.block (w.heap.size + 1) (by omega)).trans ((hB3.block (w.heap.size + 1) (by omega)).trans hk2))
  have hkk3 := ((hB4.block (w.heap.size + 1 + 1) (by omega)).trans hk3)
  have hS : ∀ w', Below W4.heap.size W4 w' → ((w'.cell? ⟨w.heap.size, 0, none⟩ = some (.slice n.C.A n.C.l.length n.C.c) ∧ w'.cell? ⟨w.heap.size, 1, none⟩ = some (.slice n.R.A n.R.l.length n.R.c) ∧ w'.cell? ⟨w.heap.size, 2, none⟩ = some (.slice n.I.A n.I.l.length n.I.c)) ∧ (w'.cell? ⟨w.heap.size + 1, 0, none⟩ = some (.int .i64 T.op) ∧ w'.cell? ⟨w.heap.size + 1, 1, none⟩ = some (.int .i64 T.n) ∧ w'.cell? ⟨w.heap.size + 1, 2, none⟩ = some (.slice T.A T.args.length T.c)) ∧ (w'.cell? ⟨w.heap.size + 1 + 1, 0, none⟩ = some (.int .i64 D.op) ∧ w'.cell? ⟨w.heap.size + 1 + 1, 1, none⟩ = some (.int .i64 D.n) ∧ w'.cell? ⟨w.heap.size + 1 + 1, 2, none⟩ = some (.slice D.A D.args.length D.c)) ∧ (w'.cell? ⟨w.heap.size + 1 + 1 + 1, 0, none⟩ = some (.int .i64 i.size) ∧ w'.cell? ⟨w.heap.size + 1 + 1 + 1, 1, none⟩ = some (.slice i.CA i.C.length i.cc) ∧ w'.cell? ⟨w.heap.size + 1 + 1 + 1, 2, none⟩ = some (.slice i.RA i.R.length i.rc) ∧ w'.cell? ⟨w.heap.size + 1 + 1 + 1, 3, none⟩ = some (.slice i.I.A i.I.l.length i.I.c))) := fun w' hb => ⟨⟨cell_of_blk (blk_lat hkk1 hb) 0, cell_of_blk (blk_lat hkk1 hb) 1, cell_of_blk (blk_lat hkk1 hb) 2⟩, ⟨cell_of_blk (blk_lat hkk2 hb) 0, cell_of_blk (blk_lat hkk2 hb) 1, cell_of_blk (blk_lat hkk2 hb) 2⟩, ⟨cell_of_blk (blk_lat hkk3 hb) 0, cell_of_blk (blk_lat hkk3 hb) 1, cell_of_blk (blk_lat hkk3 hb) 2⟩, ⟨cell_of_blk (blk_lat hk4 hb) 0, cell_of_blk (blk_lat hk4 hb) 1, cell_of_blk (blk_lat hk4 hb) 2, cell_of_blk (blk_lat hk4 hb) 3⟩⟩
  have hd : Below W4.heap.size W4 W4.drew := (Below.refl _ W4).drew
  have hGd := hG.later (hB.drew)
  have hchk := cCheckA_any n T W4.drew hGd.ga (hn.later hB.drew) (hT.later hB.drew) hsz
  have hchd := fun w' (hb : Below W4.heap.size W4 w') => cCheckA_any n D w' ((hG.later hB).later hb).ga ((hn.later hB).later hb) ((hD.later hB).later hb) hsd
  have hchi := fun w' (hb : Below W4.heap.size W4 w') => iCheck_any n i w' ((hn.later hB).later hb) ((hi.later hB).later hb)
  obtain ⟨x, hx⟩ : ∃ x, checkF n T = x := ⟨_, rfl⟩
  obtain ⟨y, hy⟩ : ∃ y, checkF n D = y := ⟨_, rfl⟩
  obtain ⟨v, hv⟩ : ∃ v, icheckF n i = v := ⟨_, rfl⟩
  rw [hx] at hchk hck ⊢
  rw [hy] at hchd hck ⊢
  rw [hv] at hchi hck ⊢
  have horr := fun g => orErr3_any g x y v
  obtain ⟨z, hz⟩ : ∃ z, orF x (orF y v) = z := ⟨_, rfl⟩
  rw [hz] at horr hck ⊢
  have hne : (z != 0) = true := by simpa using hck
  have HB := Lib.hid hB
  have HS := Lib.hid hS
  have HCC := Lib.hid hchk
  have HCD := Lib.hid hchd
  have HCI := Lib.hid hchi
  have HOR := Lib.hid horr
  simp only [NM.val, IN.val, MT.val] at HCC HCD HCI ⊢
  clear hB hn hi hT hD hchk hchd hchi hx hy hv hz hck horr hGd hS hB1 hB2 hB3 hB4 hk1 hk2 hk3 hk4 hkk1 hkk2 hkk3
  go_enter Tryd.func30, Tryd.ntmps30
  go_wp2_with fail
  go_region_held (fun w' => (w'.cell? ⟨w.heap.size, 0, none⟩ = some (.slice n.C.A n.C.l.length n.C.c) ∧ w'.cell? ⟨w.heap.size, 1, none⟩ = some (.slice n.R.A n.R.l.length n.R.c) ∧ w'.cell? ⟨w.heap.size, 2, none⟩ = some (.slice n.I.A n.I.l.length n.I.c)) ∧ (w'.cell? ⟨w.heap.size + 1, 0, none⟩ = some (.int .i64 T.op) ∧ w'.cell? ⟨w.heap.size + 1, 1, none⟩ = some (.int .i64 T.n) ∧ w'.cell? ⟨w.heap.size + 1, 2, none⟩ = some (.slice T.A T.args.length T.c)) ∧ (w'.cell? ⟨w.heap.size + 1 + 1, 0, none⟩ = some (.int .i64 D.op) ∧ w'.cell? ⟨w.heap.size + 1 + 1, 1, none⟩ = some (.int .i64 D.n) ∧ w'.cell? ⟨w.heap.size + 1 + 1, 2, none⟩ = some (.slice D.A D.args.length D.c)) ∧ (w'.cell? ⟨w.heap.size + 1 + 1 + 1, 0, none⟩ = some (.int .i64 i.size) ∧ w'.cell? ⟨w.heap.size + 1 + 1 + 1, 1, none⟩ = some (.slice i.CA i.C.length i.cc) ∧ w'.cell? ⟨w.heap.size + 1 + 1 + 1, 2, none⟩ = some (.slice i.RA i.R.length i.rc) ∧ w'.cell? ⟨w.heap.size + 1 + 1 + 1, 3, none⟩ = some (.slice i.I.A i.I.l.length i.I.c)))
    (first | exact HS.out _ hd | exact HS.out _ hb5 | exact HS.out _ hb6 | exact HS.out _ hb7 | exact HS.out _ hb7a)
    (first
      | (go_at_call 56; refine (HOR.out w7.heap.size _ e0 e1 e2).mono ?_; rintro e w8 ⟨rfl, rfl⟩)
      | (go_at_call 57; refine (HCI.out w6 hb6).mono ?_; rintro e w7 ⟨rfl, hb7'⟩; have hb7 : Below W4.heap.size W4 w7 := hb6.trans (hb7'.mono hb6.size); have hb7a : Below W4.heap.size W4 (w7.alloc (.cells #[.int .i64 x, .int .i64 y, .int .i64 v] 33)) := hb7.alloc hb7.size _; have e0 := cell_of_blk (World.alloc_heap_new' w7 (.cells #[.int .i64 x, .int .i64 y, .int .i64 v] 33)) 0; have e1 := cell_of_blk (World.alloc_heap_new' w7 (.cells #[.int .i64 x, .int .i64 y, .int .i64 v] 33)) 1; have e2 := cell_of_blk (World.alloc_heap_new' w7 (.cells #[.int .i64 x, .int .i64 y, .int .i64 v] 33)) 2)
      | (go_at_call 39; refine (HCD.out w5 hb5).mono ?_; rintro e w6 ⟨rfl, hb6'⟩; have hb6 : Below W4.heap.size W4 w6 := hb5.trans (hb6'.mono hb5.size))
      | (go_at_call 39; refine HCC.out.mono ?_; rintro e w5 ⟨rfl, hb5'⟩; have hb5 : Below W4.heap.size W4 w5 := hd.trans hb5'))
  go_wp2_with fail
  exact bodyPost_ret (v := _) (by simp [results, Tryd.f30, go_sem]) rfl ⟨rfl, HB.out.trans (hb7a.mono (by omega))⟩

set_option maxRecDepth 100000 in
set_option maxHeartbeats 8000000 in
theorem iIncluded_ok (n : NM) (T D : MT) (i : IN) (m : Nat) (w : World) (hG : GT w) (hn : n.In w.heap.size w) (hT : T.In w.heap.size w) (hD : D.In w.heap.size w) (hi : i.In w.heap.size w) (hm : i.size = m) (hsz : (T.pre 1).length ≤ 1000000) (hsd : (D.pre 1).length ≤ 1000000) (hck : checkF n T = 0) (hcd : checkF n D = 0) (hci : icheckF n i = 0) (hwf : T.tr.wfT i.C.length i.R.length = true) (hwd : D.tr.wfT i.C.length i.R.length = true) (h1 : 1 ≤ m) (h256 : m ≤ 256) (hl : listsB i = true) (hC : i.C.length ≤ 1000) (hR : i.R.length ≤ 1000) (hI : i.I.l.length ≤ 1000) :
    Calls Tryd.prog 30 #[n.val, T.val, D.val, i.val] w fun e w' => e = .returned (.tuple #[.bool (subB (semT i m T.tr) (semT i m D.tr)), .int .i64 0]) ∧ Below w.heap.size w w' := by
  obtain ⟨W1, hW1, hB1, hs1, hk1⟩ := newBlk w _ rfl #[.slice n.C.A n.C.l.length n.C.c, .slice n.R.A n.R.l.length n.R.c, .slice n.I.A n.I.l.length n.I.c] 24
  obtain ⟨W2, hW2, hB2, hs2, hk2⟩ := newBlk W1 _ hs1 #[.int .i64 T.op, .int .i64 T.n, .slice T.A T.args.length T.c] 27
  obtain ⟨W3, hW3, hB3, hs3, hk3⟩ := newBlk W2 _ hs2 #[.int .i64 D.op, .int .i64 D.n, .slice D.A D.args.length D.c] 27
  obtain ⟨W4, hW4, hB4, hs4, hk4⟩ := newBlk W3 _ hs3 #[.int .i64 i.size, .slice i.CA i.C.length i.cc, .slice i.RA i.R.length i.rc, .slice i.I.A i.I.l.length i.I.c] 58
  have hB : Below w.heap.size w W4 := (((hB1.trans (hB2.mono (by omega))).trans (hB3.mono (by omega))).trans (hB4.mono (by omega)))
  have hkk1 := ((hB4.block (w.heap.size) (by omega)).trans ((hB3.block (w.heap.size) (by omega)).trans ((hB2.block (w.heap.size) (by omega)).trans hk1)))
  have hkk2 := ((hB4.block (w.heap.size + 1) (by omega)).trans ((hB3.block (w.heap.size + 1) (by omega)).trans hk2))
  have hkk3 := ((hB4.block (w.heap.size + 1 + 1) (by omega)).trans hk3)
  have hS : ∀ w', Below W4.heap.size W4 w' → ((w'.cell? ⟨w.heap.size, 0, none⟩ = some (.slice n.C.A n.C.l.length n.C.c) ∧ w'.cell? ⟨w.heap.size, 1, none⟩ = some (.slice n.R.A n.R.l.length n.R.c) ∧ w'.cell? ⟨w.heap.size, 2, none⟩ = some (.slice n.I.A n.I.l.length n.I.c)) ∧ (w'.cell? ⟨w.heap.size + 1, 0, none⟩ = some (.int .i64 T.op) ∧ w'.cell? ⟨w.heap.size + 1, 1, none⟩ = some (.int .i64 T.n) ∧ w'.cell? ⟨w.heap.size + 1, 2, none⟩ = some (.slice T.A T.args.length T.c)) ∧ (w'.cell? ⟨w.heap.size + 1 + 1, 0, none⟩ = some (.int .i64 D.op) ∧ w'.cell? ⟨w.heap.size + 1 + 1, 1, none⟩ = some (.int .i64 D.n) ∧ w'.cell? ⟨w.heap.size + 1 + 1, 2, none⟩ = some (.slice D.A D.args.length D.c)) ∧ (w'.cell? ⟨w.heap.size + 1 + 1 + 1, 0, none⟩ = some (.int .i64 i.size) ∧ w'.cell? ⟨w.heap.size + 1 + 1 + 1, 1, none⟩ = some (.slice i.CA i.C.length i.cc) ∧ w'.cell? ⟨w.heap.size + 1 + 1 + 1, 2, none⟩ = some (.slice i.RA i.R.length i.rc) ∧ w'.cell? ⟨w.heap.size + 1 + 1 + 1, 3, none⟩ = some (.slice i.I.A i.I.l.length i.I.c))) := fun w' hb => ⟨⟨cell_of_blk (blk_lat hkk1 hb) 0, cell_of_blk (blk_lat hkk1 hb) 1, cell_of_blk (blk_lat hkk1 hb) 2⟩, ⟨cell_of_blk (blk_lat hkk2 hb) 0, cell_of_blk (blk_lat hkk2 hb) 1, cell_of_blk (blk_lat hkk2 hb) 2⟩, ⟨cell_of_blk (blk_lat hkk3 hb) 0, cell_of_blk (blk_lat hkk3 hb) 1, cell_of_blk (blk_lat hkk3 hb) 2⟩, ⟨cell_of_blk (blk_lat hk4 hb) 0, cell_of_blk (blk_lat hk4 hb) 1, cell_of_blk (blk_lat hk4 hb) 2, cell_of_blk (blk_lat hk4 hb) 3⟩⟩
  have hd : Below W4.heap.size W4 W4.drew := (Below.refl _ W4).drew
  have hGd := hG.later (hB.drew)
  have hchk := cCheckA_any n T W4.drew hGd.ga (hn.later hB.drew) (hT.later hB.drew) hsz
  have hchd := fun w' (hb : Below W4.heap.size W4 w') => cCheckA_any n D w' ((hG.later hB).later hb).ga ((hn.later hB).later hb) ((hD.later hB).later hb) hsd
  have hchi := fun w' (hb : Below W4.heap.size W4 w') => iCheck_any n i w' ((hn.later hB).later hb) ((hi.later hB).later hb)
  rw [hck] at hchk
  rw [hcd] at hchd
  rw [hci] at hchi
  have hwo := fun w' (hb : Below W4.heap.size W4 w') => worldOf_any i m hm h1 h256 hl hC hR hI w' ((hi.later hB).later hb)
  have hin := fun b w' (hb : Below W4.heap.size W4 w') (hw : WL w' b i m) => includes_any i m b h256 T D w' hw ((hT.later hB).later hb) ((hD.later hB).later hb) hwf hwd
  obtain ⟨t, ht⟩ : ∃ t, subB (semT i m T.tr) (semT i m D.tr) = t := ⟨_, rfl⟩
  rw [ht] at hin ⊢
  have HB := Lib.hid hB
  have HS := Lib.hid hS
  have HCC := Lib.hid hchk
  have HCD := Lib.hid hchd
  have HCI := Lib.hid hchi
  have HWO := Lib.hid hwo
  have HIN := Lib.hid hin
  simp only [NM.val, IN.val, MT.val] at HCC HCD HCI HWO HIN ⊢
  clear hB hn hi hT hD hm hchk hchd hchi hwo hin hck hcd hci hwf hwd ht hGd hS hB1 hB2 hB3 hB4 hk1 hk2 hk3 hk4 hkk1 hkk2 hkk3
  go_enter Tryd.func30, Tryd.ntmps30
  go_wp2_with fail
  go_region_held (fun w' => (w'.cell? ⟨w.heap.size, 0, none⟩ = some (.slice n.C.A n.C.l.length n.C.c) ∧ w'.cell? ⟨w.heap.size, 1, none⟩ = some (.slice n.R.A n.R.l.length n.R.c) ∧ w'.cell? ⟨w.heap.size, 2, none⟩ = some (.slice n.I.A n.I.l.length n.I.c)) ∧ (w'.cell? ⟨w.heap.size + 1, 0, none⟩ = some (.int .i64 T.op) ∧ w'.cell? ⟨w.heap.size + 1, 1, none⟩ = some (.int .i64 T.n) ∧ w'.cell? ⟨w.heap.size + 1, 2, none⟩ = some (.slice T.A T.args.length T.c)) ∧ (w'.cell? ⟨w.heap.size + 1 + 1, 0, none⟩ = some (.int .i64 D.op) ∧ w'.cell? ⟨w.heap.size + 1 + 1, 1, none⟩ = some (.int .i64 D.n) ∧ w'.cell? ⟨w.heap.size + 1 + 1, 2, none⟩ = some (.slice D.A D.args.length D.c)) ∧ (w'.cell? ⟨w.heap.size + 1 + 1 + 1, 0, none⟩ = some (.int .i64 i.size) ∧ w'.cell? ⟨w.heap.size + 1 + 1 + 1, 1, none⟩ = some (.slice i.CA i.C.length i.cc) ∧ w'.cell? ⟨w.heap.size + 1 + 1 + 1, 2, none⟩ = some (.slice i.RA i.R.length i.rc) ∧ w'.cell? ⟨w.heap.size + 1 + 1 + 1, 3, none⟩ = some (.slice i.I.A i.I.l.length i.I.c)))
    (first | exact HS.out _ hd | exact HS.out _ hb5 | exact HS.out _ hb6 | exact HS.out _ hb7 | exact HS.out _ hb7a)
    (first
      | (go_at_call 56; refine (orErr3_any w7.heap.size 0 0 0 _ e0 e1 e2).mono ?_; rintro e w8 ⟨rfl, rfl⟩)
      | (go_at_call 57; refine (HCI.out w6 hb6).mono ?_; rintro e w7 ⟨rfl, hb7'⟩; have hb7 : Below W4.heap.size W4 w7 := hb6.trans (hb7'.mono hb6.size); have hb7a : Below W4.heap.size W4 (w7.alloc (.cells #[.int .i64 0, .int .i64 0, .int .i64 0] 33)) := hb7.alloc hb7.size _; have e0 := cell_of_blk (World.alloc_heap_new' w7 (.cells #[.int .i64 0, .int .i64 0, .int .i64 0] 33)) 0; have e1 := cell_of_blk (World.alloc_heap_new' w7 (.cells #[.int .i64 0, .int .i64 0, .int .i64 0] 33)) 1; have e2 := cell_of_blk (World.alloc_heap_new' w7 (.cells #[.int .i64 0, .int .i64 0, .int .i64 0] 33)) 2)
      | (go_at_call 39; refine (HCD.out w5 hb5).mono ?_; rintro e w6 ⟨rfl, hb6'⟩; have hb6 : Below W4.heap.size W4 w6 := hb5.trans (hb6'.mono hb5.size))
      | (go_at_call 39; refine HCC.out.mono ?_; rintro e w5 ⟨rfl, hb5'⟩; have hb5 : Below W4.heap.size W4 w5 := hd.trans hb5'))
  obtain ⟨L, hLe⟩ : ∃ L, w7.alloc (.cells #[.int .i64 0, .int .i64 0, .int .i64 0] 33) = L := ⟨_, rfl⟩
  rw [hLe] at hb7a ⊢
  have hLd : Below W4.heap.size W4 L.drew := hb7a.drew
  clear e0 e1 e2 hLe hb7 hb7' hb6' hb5' hb5 hb6
  go_wp2_with fail
  go_region_held (fun w' => (w'.cell? ⟨w.heap.size, 0, none⟩ = some (.slice n.C.A n.C.l.length n.C.c) ∧ w'.cell? ⟨w.heap.size, 1, none⟩ = some (.slice n.R.A n.R.l.length n.R.c) ∧ w'.cell? ⟨w.heap.size, 2, none⟩ = some (.slice n.I.A n.I.l.length n.I.c)) ∧ (w'.cell? ⟨w.heap.size + 1, 0, none⟩ = some (.int .i64 T.op) ∧ w'.cell? ⟨w.heap.size + 1, 1, none⟩ = some (.int .i64 T.n) ∧ w'.cell? ⟨w.heap.size + 1, 2, none⟩ = some (.slice T.A T.args.length T.c)) ∧ (w'.cell? ⟨w.heap.size + 1 + 1, 0, none⟩ = some (.int .i64 D.op) ∧ w'.cell? ⟨w.heap.size + 1 + 1, 1, none⟩ = some (.int .i64 D.n) ∧ w'.cell? ⟨w.heap.size + 1 + 1, 2, none⟩ = some (.slice D.A D.args.length D.c)) ∧ (w'.cell? ⟨w.heap.size + 1 + 1 + 1, 0, none⟩ = some (.int .i64 i.size) ∧ w'.cell? ⟨w.heap.size + 1 + 1 + 1, 1, none⟩ = some (.slice i.CA i.C.length i.cc) ∧ w'.cell? ⟨w.heap.size + 1 + 1 + 1, 2, none⟩ = some (.slice i.RA i.R.length i.rc) ∧ w'.cell? ⟨w.heap.size + 1 + 1 + 1, 3, none⟩ = some (.slice i.I.A i.I.l.length i.I.c)))
    (first | exact HS.out _ hLd | exact HS.out _ hb8 | exact HS.out _ hb9)
    (first
      | (go_at_call 62; refine (HIN.out b w8 hb8 hwl).mono ?_; rintro e w9 ⟨rfl, hb9'⟩; have hb9 : Below W4.heap.size W4 w9 := hb8.trans (hb9'.mono hb8.size))
      | (go_at_call 58; refine (HWO.out L.drew hLd).mono ?_; rintro e w8 ⟨b, rfl, hwl, hb8'⟩; have hb8 : Below W4.heap.size W4 w8 := hLd.trans (hb8'.mono hb7a.size)))
  go_wp2_with fail
  exact bodyPost_ret (v := _) (by simp [results, Tryd.f30, go_sem]) rfl ⟨rfl, HB.out.trans (hb9.mono (by omega))⟩
end Go.Proofs.YtnkkpjgclekobaaDoor
