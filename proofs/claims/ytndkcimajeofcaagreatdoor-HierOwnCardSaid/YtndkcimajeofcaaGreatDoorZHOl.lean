import Derived.Test.YtndkcimajeofcaaGreatDoorG506e8cf509
import Derived.Test.YtndkcimajeofcaaGreatDoorG40bf3344fb
import Derived.Test.YtndkcimajeofcaaGreatDoorG04cc6b632c
import Derived.Test.YtndkcimajeofcaaGreatDoorG6d0a07a3aa
import Derived.Test.YtndkcimajeofcaaGreatDoorGc786c0f06f
import Derived.Test.YtndkcimajeofcaaGreatDoorGe11632bb3b
import Derived.Test.YtndkcimajeofcaaGreatDoorGa7f904e96b
namespace Go.Proofs.YtndkcimajeofcaaGreatDoor
open Go.RowKit
attribute [local go_sem ↓] Go.wp_at_zero Go.wp_at_succ

/-- One more kept copy. -/
theorem kept_add {lo : Nat} {wr Wa w5 W6 w7 : World} {v v7 : Value} {Ks : List MT} {N : MT} {g : Nat} (hc : Coll lo lo wr v Ks) (hlo : lo ≤ wr.heap.size) (hBa : Below wr.heap.size wr Wa) (h5 : Below Wa.heap.size Wa w5) (hN : New Wa.heap.size w5 N) (h6 : Below w5.heap.size w5 W6)
    (hown : w7.ownsRow lo 33 3 v7 (Ks.length + 1) (Ks.flatMap MT.cs ++ N.cs)) (hg : W6.grownBy w7 v.ownBlock) (hv : v7.ownBlock = some g) (hat : v.ownBlock = some g ∨ g = W6.heap.size) :
    Coll lo lo w7 v7 (Ks ++ [N]) ∧ Below lo wr w7 := by
  have h56 : Below wr.heap.size wr W6 := hBa.trans ((h5.trans (h6.mono h5.size)).mono hBa.size)
  have hN6 := hN.later h6
  refine ⟨(hc.later h56).add (hN6.lo (Nat.le_trans hlo hBa.size)) (hc.off hN6 hBa.size) hown hg ?_, (h56.mono hlo).grown hg (Nat.le_trans hlo h56.size) (fun k e => (own_lt hc.own e).1)⟩
  rcases hat with e | e
  · exact .inl (hv.trans e.symm)
  · exact .inr ⟨g, hv, by omega⟩
/-- hier.Above: a row of its own, whatever it says. -/
def RetAn (w : World) (e : Ending) (w' : World) : Prop := ∃ v n xs z, e = .returned (.tuple #[v, .int .i64 z]) ∧ w'.ownsRow w.heap.size 3 1 v n xs ∧ Below w.heap.size w w'
theorem hAbove_new (b : BN) (mo : ML) (r : Int) (w : World) (h : HIn b mo w) : Calls Tryz.prog 23 #[b.val, .int .i64 r] w (RetAn w) :=
  (hAbove_any b mo r w h).mono fun e w' hh => by
    obtain ⟨hb, (⟨-, v, he, ho⟩ | ⟨-, he⟩)⟩ := hh
    · exact ⟨v, _, _, _, he, ho, hb⟩
    · exact ⟨_, 0, [], _, he, ⟨rfl, .inl ⟨rfl, rfl⟩⟩, hb⟩
/-- A row of ints whose cells may be written. -/
def IntRow (w : World) (base n : Nat) (v : Value) : Prop := ∃ A c, v = .slice A n c ∧ n ≤ 9223372036854775807 ∧ (n ≠ 0 → ∃ g cur, A = some ⟨g, 0, none⟩ ∧ base ≤ g ∧ n ≤ cur.size ∧ w.heap[g]? = some (.cells cur 3) ∧ ∀ j, j < n → ∃ x, cur[j]? = some x)
theorem intRow_of {w : World} {base n : Nat} {v : Value} {xs : List Value} (h : w.ownsRow base 3 1 v n xs) : IntRow w base n v := by
  rcases h.2 with ⟨rfl, rfl⟩ | ⟨g, cap, cur, rfl, hge, hheap, hlen, hcap, hsize, -⟩
  · exact ⟨none, 0, rfl, by omega, fun h => absurd rfl h⟩
  · unfold maxLen at hcap
    refine ⟨_, cap, rfl, by omega, fun _ => ⟨g, cur, rfl, hge, by omega, hheap, fun j hj => ⟨cur[j]'(by omega), Array.getElem?_eq_getElem (by omega)⟩⟩⟩
theorem IntRow.set {w : World} {base n : Nat} {A : Option Addr} {c : Nat} (h : IntRow w base n (.slice A n c)) {k : Nat} (hk : k < n) : ∃ g x, A = some ⟨g, 0, none⟩ ∧ w.cell? ⟨g, k, none⟩ = some x ∧ w.frozen? ⟨g, k, none⟩ = false ∧ ∀ off y, off = k → IntRow (w.setCell ⟨g, off, none⟩ y) base n (.slice A n c) ∧ Below base w (w.setCell ⟨g, off, none⟩ y) := by
  obtain ⟨A', c', hv, hn, hr⟩ := h
  cases hv
  obtain ⟨g, cur, hA, hge, hsz, hh, hx⟩ := hr (by omega)
  obtain ⟨x, hx'⟩ := hx k hk
  exact ⟨g, x, hA, by rw [cell_of_blk hh]; exact hx', frozen_of_blk hh k, fun off y ho => ⟨by subst ho; exact ⟨A, c, rfl, hn, fun _ => ⟨g, _, hA, hge, by rw [Array.size_setIfInBounds]; exact hsz, blk_set hh off y, fun j hj => ⟨_, Array.getElem?_eq_getElem (by rw [Array.size_setIfInBounds]; omega)⟩⟩⟩, (Below.refl _ _).setCell (p := ⟨g, off, none⟩) hge _⟩⟩

set_option maxRecDepth 100000 in
set_option maxHeartbeats 16000000 in
theorem HierOwn_any (b : BN) (mo : ML) (T : MT) (w : World) (hG : G w) (hGT : GT w) (hb : b.In w.heap.size w) (hmo : mo.In w.heap.size w) (hml : mo.l.length * 40 ≤ 140737488351232) (hT : T.In w.heap.size w) (hbn : b.NilOk) :
    Calls Tryz.prog 9 #[b.val, .slice mo.A mo.l.length mo.c, T.val] w fun e w' => e = .returned (.bool true) ∧ Below w.heap.size w w' := by
  obtain ⟨W1, hW1, hB1, hs1, hk1⟩ := newBlk w _ rfl #[.slice b.N.C.A b.N.C.l.length b.N.C.c, .slice b.N.R.A b.N.R.l.length b.N.R.c, .slice b.N.I.A b.N.I.l.length b.N.I.c, .slice b.IA b.I.length b.ic, .slice b.R.A b.R.l.length b.R.c, .slice b.FA b.F.length b.fc, .slice b.L.A b.L.l.length b.L.c] 30
  obtain ⟨W2, hW2, hB2, hs2, hk2⟩ := newBlk W1 _ hs1 #[.int .i64 T.op, .int .i64 T.n, .slice T.A T.args.length T.c] 33
  have hB : Below w.heap.size w W2 := hB1.trans (hB2.mono (by omega))
  have hkk1 := (hB2.block w.heap.size (by omega)).trans hk1
  have hS : ∀ w', Below W2.heap.size W2 w' → BBox w' w.heap.size b ∧ (w'.cell? ⟨w.heap.size + 1, 0, none⟩ = some (.int .i64 T.op) ∧ w'.cell? ⟨w.heap.size + 1, 1, none⟩ = some (.int .i64 T.n) ∧ w'.cell? ⟨w.heap.size + 1, 2, none⟩ = some (.slice T.A T.args.length T.c)) := fun w' h => ⟨bbox_of (b := b) (blk_lat hkk1 h), (res3 (blk_lat hk2 h)).1⟩
  have hb2 := hb.later hB
  have hT2 := hT.later hB
  have hm2 := hmo.later hB
  have hG2 := hG.later hB
  have hGT2 := hGT.later hB
  have haw := fun w' (h : Below W2.heap.size W2 w') => awake5_any w' (hG2.later h) (hGT2.later h)
  have hfw := fun (m : ML) w' (h : Below W2.heap.size W2 w') (hm : m.In w'.heap.size w') => few5_any b m w' (hb2.later h) hm
  have hrow : ∀ w', Below W2.heap.size W2 w' → RowAt w' w'.heap.size 3 mo.A mo.l.length (mo.l.flatMap MT.cs) := fun w' h => (hm2.later h).2.2.2.1
  have hls : ∀ w', Below W2.heap.size W2 w' → T.In w'.heap.size w' ∧ ∀ x ∈ mo.l, x.In w'.heap.size w' := fun w' h => ⟨hT2.later h, (hm2.later h).2.2.2.2⟩
  have hnil := hm2.2.2.1
  have hd : Below W2.heap.size W2 W2.drew := (Below.refl _ _).drew
  obtain ⟨i0, hi0, hz0, hz1, hz2⟩ := info_parts con_info
  have HB := Lib.hid hB
  have HS := Lib.hid hS
  have HAW := Lib.hid haw
  have HFW := Lib.hid hfw
  have HRW := Lib.hid hrow
  have HLS := Lib.hid hls
  have HD := Lib.hid (And.intro hb2 (And.intro hT2 (And.intro hm2 (And.intro hG2 hGT2))))
  obtain ⟨⟨c0, c1, c2, c3, c4, c5, c6⟩, c7, c8, c9⟩ := hS W2 (Below.refl _ _)
  simp only [BN.val, MT.val] at HFW ⊢
  have HS2 := Lib.hid hs2
  clear hs2 hB1 hB2 hk1 hk2 hkk1 hB hS haw hfw hrow hls hb2 hT2 hm2 hG2 hGT2 hb hmo hT hG hGT
  go_enter Tryz.func9, Tryz.ntmps9
  go_wp2_with fail
  clear c0 c1 c2 c3 c4 c5 c6 c7 c8 c9
  go_region_held_law (fun w' => (w'.cell? ⟨w.heap.size, 0, none⟩ = some (.slice b.N.C.A b.N.C.l.length b.N.C.c) ∧ w'.cell? ⟨w.heap.size, 1, none⟩ = some (.slice b.N.R.A b.N.R.l.length b.N.R.c) ∧ w'.cell? ⟨w.heap.size, 2, none⟩ = some (.slice b.N.I.A b.N.I.l.length b.N.I.c) ∧ w'.cell? ⟨w.heap.size, 3, none⟩ = some (.slice b.IA b.I.length b.ic) ∧ w'.cell? ⟨w.heap.size, 4, none⟩ = some (.slice b.R.A b.R.l.length b.R.c) ∧ w'.cell? ⟨w.heap.size, 5, none⟩ = some (.slice b.FA b.F.length b.fc) ∧ w'.cell? ⟨w.heap.size, 6, none⟩ = some (.slice b.L.A b.L.l.length b.L.c)) ∧ (w'.cell? ⟨w.heap.size + 1, 0, none⟩ = some (.int .i64 T.op) ∧ w'.cell? ⟨w.heap.size + 1, 1, none⟩ = some (.int .i64 T.n) ∧ w'.cell? ⟨w.heap.size + 1, 2, none⟩ = some (.slice T.A T.args.length T.c)))
    (first | exact HS.out _ hd | exact HS.out _ (hd.alloc hd.size _) | exact HS.out _ hb4 | exact HS.out _ hb5)
    (first
      | (go_at_call 20; refine (HFW.out ⟨A4, k4, T :: mo.l⟩ w4 hb4 HM4.out).mono ?_; rintro e w5 ⟨⟨x, rfl, hx⟩, hb5'⟩; have hb5 : Below W2.heap.size W2 w5 := hb4.trans (hb5'.mono hb4.size))
      | (refine step_append_row _ (by rfl) _ _ _ (by rfl) W2.heap.size 33 i0 _ 3 40 Tryz.underlying31 hi0 hz0 hz1 hz2 rfl (by omega) (.slice (some ⟨W2.heap.size, 0, none⟩) 1 1) 1 (MT.cs T) (by rfl) (own_one (heap_alloc_new W2.drew _) (Nat.le_refl _)) _ mo.A mo.l.length mo.c _ (by rfl) hnil (HRW.out _ (hd.alloc hd.size _)) (cs_one _) (by unfold maxLen; omega) (by omega) (by simp) ?_; intro v4 w4 hown4 hg4 hat4; have hb4 : Below W2.heap.size W2 w4 := (hd.alloc hd.size _).grown hg4 (by simp) (fun k e => by cases e; exact Nat.le_refl _); obtain ⟨A4, k4, hv4, hm4⟩ := ml_cons_owns hown4 (HLS.out w4 hb4).1 (HLS.out w4 hb4).2; subst hv4; have HM4 := Lib.hid hm4; clear hm4 hown4 hat4))
  cases x
  · go_wp2_with (go_at_call 21; refine (HAW.out w5 hb5).mono ?_; rintro e w6 ⟨rfl, hb6⟩)
    go_ret
    exact ⟨rfl, HB.out.trans ((hb5.trans (hb6.mono hb5.size)).mono HB.out.size)⟩
  obtain ⟨q1, q2, q3, q4, q5, q6, q7, q8⟩ := hx rfl
  have hl := few_lens5 q1
  obtain ⟨d1, d2, d3, d4, d5⟩ := HD.out
  have hlm : mo.l.length ≤ 5 := by simp only [List.length_cons] at q7; omega
  have hTs : T.tr.size ≤ 500 := q8 T (by simp)
  have hin : ∀ w', Below W2.heap.size W2 w' → HIn b mo w' := fun w' h => ⟨d4.later h, d5.later h, d1.later h, d3.later h, by omega, by omega, by omega, by omega, by omega, fun x hx => Nat.le_trans (q6 x hx) (by decide), fun x hx => Nat.le_trans (q8 x (by simp [hx])) (by decide), by omega⟩
  have hcb := fun w' (h : Below W2.heap.size W2 w') => bCopy_any b w' (d1.later h) hbn (by omega) (by omega) (by omega) (by omega) ⟨by omega, by omega, by omega⟩ (fun x hx => Nat.le_trans (q6 x hx) (by decide))
  have hcc := fun w' (h : Below W2.heap.size W2 w') => rCopy_any T w' (d2.later h) (by omega)
  have hck := fun (X : MT) (hX : X ∈ mo.l) w' (h : Below W2.heap.size W2 w') (hi : X.In w'.heap.size w') => rCopy_any X w' hi (Nat.le_trans (q8 X (by simp [hX])) (by decide))
  have hmk := fun w' (h : Below W2.heap.size W2 w') => hMarks_new b mo w' (hin w' h)
  have hab := fun w' (h : Below W2.heap.size W2 w') => hAbove_new b mo 0 w' (hin w' h)
  have htr := fun w' (h : Below W2.heap.size W2 w') => hTrue_any b mo 0 T w' (hin w' h) (d2.later h) (by omega)
  have hbe := fun w' (h : Below W2.heap.size W2 w') => hBelow_any b mo 0 1 w' (hin w' h)
  have HBI := Lib.hid (fun w' (h : Below W2.heap.size W2 w') => d1.later h)
  have HTI := Lib.hid (fun w' (h : Below W2.heap.size W2 w') => d2.later h)
  have HCB := Lib.hid hcb
  have HCC := Lib.hid hcc
  have HCK := Lib.hid hck
  have HMK := Lib.hid hmk
  have HAB := Lib.hid hab
  have HTT := Lib.hid htr
  have HBE := Lib.hid hbe
  have HB5 := Lib.hid hb5
  unfold RetHT at HTT
  simp only [BN.val, MT.val] at HMK HAB HTT HBE
  obtain ⟨i1, hi1, hy0, hy1, hy2⟩ := info_parts con_info
  clear hx q1 q2 q3 q4 q5 q6 q7 q8 hin hcb hcc hck hmk hab htr hbe d1 d2 d3 d4 d5 hg4 hd hb5' hl hbn
  obtain ⟨⟨c0, c1, c2, c3, c4, c5, c6⟩, c7, c8, c9⟩ := HS.out w5 hb5
  go_wp2_with fail
  rename_i K0 aK0
  have hd5 : Below W2.heap.size W2 w5.drew := HB5.out.drew
  have hSd : ∀ w', Below w5.drew.heap.size w5.drew w' → (w'.cell? ⟨w.heap.size, 0, none⟩ = some (.slice b.N.C.A b.N.C.l.length b.N.C.c) ∧ w'.cell? ⟨w.heap.size, 1, none⟩ = some (.slice b.N.R.A b.N.R.l.length b.N.R.c) ∧ w'.cell? ⟨w.heap.size, 2, none⟩ = some (.slice b.N.I.A b.N.I.l.length b.N.I.c) ∧ w'.cell? ⟨w.heap.size, 3, none⟩ = some (.slice b.IA b.I.length b.ic) ∧ w'.cell? ⟨w.heap.size, 4, none⟩ = some (.slice b.R.A b.R.l.length b.R.c) ∧ w'.cell? ⟨w.heap.size, 5, none⟩ = some (.slice b.FA b.F.length b.fc) ∧ w'.cell? ⟨w.heap.size, 6, none⟩ = some (.slice b.L.A b.L.l.length b.L.c)) ∧ (w'.cell? ⟨w.heap.size + 1, 0, none⟩ = some (.int .i64 T.op) ∧ w'.cell? ⟨w.heap.size + 1, 1, none⟩ = some (.int .i64 T.n) ∧ w'.cell? ⟨w.heap.size + 1, 2, none⟩ = some (.slice T.A T.args.length T.c)) := fun w' h => HS.out w' (hd5.trans (h.mono hd5.size))
  have hcbd := fun w' (h : Below w5.drew.heap.size w5.drew w') => HCB.out w' (hd5.trans (h.mono hd5.size))
  have hccd := fun w' (h : Below w5.drew.heap.size w5.drew w') => HCC.out w' (hd5.trans (h.mono hd5.size))
  have hso : SO5 b T w5.drew w5.drew false false false false undef undef undef undef := ⟨Below.refl _ _, fun h => (by cases h), fun h => (by cases h), fun h => (by cases h), fun h => (by cases h)⟩
  refine wp_region_held_drew (S := fun w' => (w'.cell? ⟨w.heap.size, 0, none⟩ = some (.slice b.N.C.A b.N.C.l.length b.N.C.c) ∧ w'.cell? ⟨w.heap.size, 1, none⟩ = some (.slice b.N.R.A b.N.R.l.length b.N.R.c) ∧ w'.cell? ⟨w.heap.size, 2, none⟩ = some (.slice b.N.I.A b.N.I.l.length b.N.I.c) ∧ w'.cell? ⟨w.heap.size, 3, none⟩ = some (.slice b.IA b.I.length b.ic) ∧ w'.cell? ⟨w.heap.size, 4, none⟩ = some (.slice b.R.A b.R.l.length b.R.c) ∧ w'.cell? ⟨w.heap.size, 5, none⟩ = some (.slice b.FA b.F.length b.fc) ∧ w'.cell? ⟨w.heap.size, 6, none⟩ = some (.slice b.L.A b.L.l.length b.L.c)) ∧ (w'.cell? ⟨w.heap.size + 1, 0, none⟩ = some (.int .i64 T.op) ∧ w'.cell? ⟨w.heap.size + 1, 1, none⟩ = some (.int .i64 T.n) ∧ w'.cell? ⟨w.heap.size + 1, 2, none⟩ = some (.slice T.A T.args.length T.c))) (by kernel_rfl) (HS.out _ hd5) (fun hHeld => ?_)
  refine wpAnyH_take (i := 0) (oi := { dst := some 27, op := Go.Op.load 30 (Go.Operand.tmp 3), type := 30, pos := "law.go:217", after := #[], guard := none }) (v := .agg #[.slice b.N.C.A b.N.C.l.length b.N.C.c, .slice b.N.R.A b.N.R.l.length b.N.R.c, .slice b.N.I.A b.N.I.l.length b.N.I.c, .slice b.IA b.I.length b.ic, .slice b.R.A b.R.l.length b.R.c, .slice b.FA b.F.length b.fc, .slice b.L.A b.L.l.length b.L.c]) rfl (by kernel_rfl) (by kernel_rfl) (by kernel_rfl) (fun _ _ _ h => h) (Or.inl ⟨by rfl, by (intro w hSw; (try dsimp only at hSw); go_simp)⟩) (by assumption) ?_
  try simp only [Act.put, List.setIfInBounds_toArray, List.set_cons_zero, List.set_cons_succ]
  refine wpAnyH_take (i := 2) (oi := { dst := some 29, op := Go.Op.load 33 (Go.Operand.tmp 5), type := 33, pos := "law.go:217", after := #[], guard := none }) (v := .agg #[.int .i64 T.op, .int .i64 T.n, .slice T.A T.args.length T.c]) rfl (by kernel_rfl) (by kernel_rfl) (by kernel_rfl) (fun _ _ _ h => h) (Or.inl ⟨by rfl, by (intro w hSw; (try dsimp only at hSw); go_simp)⟩) (by assumption) ?_
  try simp only [Act.put, List.setIfInBounds_toArray, List.set_cons_zero, List.set_cons_succ]
  refine own5A b T w5.drew _ _ hSd hcbd hccd _ _ _ _ _ _ _ _ _ _ _ _ _ _ _ _ _ _ _ _ _ _ _ _ _ _ _ _ _ _ _ _ _ _ _ _ _ _ _ _ _ _ _ _ _ _ _ _ _ _ _ _ _ _ _ _ _ _ _ _ _ _ _ _ _ _ _ _ _ _ _ _ _ _ _ _ _ _ _ _ _ _ _ _ _ _ _ _ _ _ _ _ _ _ _ _ _ _ _ _ (own5B b T w5.drew _ _ hSd _ _ _ _ _ _ _ _ _ _ _ _ _ _ _ _ _ _ _ _ _ _ _ _ _ _ _ _ _ _ _ _ _ _ _ _ _ _ _ _ _ _ _ _ _ _ _ _ _ _ _ _ _ _ _ _ _ _ _ _ _ _ _ _ _ _ _ _ _ _ _ _ _ _ _ _ _ _ _ _ _ _ _ _ _ _ _ _ _ _ _ _ _ _ _ _ _ _ _ _ (fun t28 t30 t7 t8 w9 he => ?_)) 4 false false false false (by simp) rfl _ _ _ _ _ hso
  refine aK0 _ _ ?_
  clear aK0 hso hSd hcbd hccd hHeld HCB HCC
  obtain ⟨m, M, D1, D2, rfl, rfl, hb9', hme, hMe, hm9, hM9, hk1, hk2⟩ := he
  have hb9 : Below W2.heap.size W2 w9 := hd5.trans (hb9'.mono hd5.size)
  have hK : ∀ w', Below w9.heap.size w9 w' → (w'.cell? ⟨D1, 0, none⟩ = some (.slice m.N.C.A m.N.C.l.length m.N.C.c) ∧ w'.cell? ⟨D1, 1, none⟩ = some (.slice m.N.R.A m.N.R.l.length m.N.R.c) ∧ w'.cell? ⟨D1, 2, none⟩ = some (.slice m.N.I.A m.N.I.l.length m.N.I.c) ∧ w'.cell? ⟨D1, 3, none⟩ = some (.slice m.IA m.I.length m.ic) ∧ w'.cell? ⟨D1, 4, none⟩ = some (.slice m.R.A m.R.l.length m.R.c) ∧ w'.cell? ⟨D1, 5, none⟩ = some (.slice m.FA m.F.length m.fc) ∧ w'.cell? ⟨D1, 6, none⟩ = some (.slice m.L.A m.L.l.length m.L.c)) ∧ (w'.cell? ⟨D2, 0, none⟩ = some (.int .i64 M.op) ∧ w'.cell? ⟨D2, 1, none⟩ = some (.int .i64 M.n) ∧ w'.cell? ⟨D2, 2, none⟩ = some (.slice M.A M.args.length M.c)) := fun w' h => by
    have x1 := (h.block D1 (Array.getElem?_eq_some_iff.1 hk1).1).trans hk1
    have x2 := (h.block D2 (Array.getElem?_eq_some_iff.1 hk2).1).trans hk2
    exact ⟨bbox_of (b := m) x1, cell_of_blk x2 0, cell_of_blk x2 1, cell_of_blk x2 2⟩
  have HK := Lib.hid hK
  have HME := Lib.hid (And.intro hme (And.intro hMe (And.intro hm9 hM9)))
  clear hK hme hMe hm9 hM9 hk1 hk2 hb9' hd5
  go_wp2_with fail
  go_loopw [9, 33] (fun kv i' wr => ∃ (k : Nat) (Ks : List MT), k ≤ mo.l.length ∧ i' = .int .i64 (k : Nat) ∧ Coll w9.heap.size w9.heap.size wr kv Ks ∧ Ks.map MT.tr = (mo.l.take k).map MT.tr ∧ Below w9.heap.size w9 wr) (fun _ i' _ => mo.l.length - (intOf i').toNat)
  case atStart => exact ⟨0, [], Nat.zero_le _, rfl, Coll.nil _ _ _, rfl, Below.refl _ _⟩
  case round =>
    rename World => wr
    obtain ⟨k, Ks, hk, rfl, hco, htr, hbr⟩ := hrel
    have hlen : Ks.length = k := by have := congrArg List.length htr; simpa [Nat.min_eq_left hk] using this
    have hwr := hbr.size
    have hbr2 := hb9.trans (hbr.mono hb9.size)
    by_cases hlt : k < mo.l.length
    · obtain ⟨g, off, hA, -, e0, e1, e2⟩ := elem3 (HRW.out wr hbr2) (Below.refl _ _) hlt
      have h0K : (0 : Int) ≤ k := by omega
      have hlK : (k : Int) < mo.l.length := by omega
      obtain ⟨Wa, hWa, hBa, hsa, hka⟩ := newBlk wr _ rfl #[.int .i64 mo.l[k].op, .int .i64 mo.l[k].n, .slice mo.l[k].A mo.l[k].args.length mo.l[k].c] 33
      obtain ⟨⟨x0, x1, x2⟩, -⟩ := res3 hka
      have hba2 := hbr2.trans (hBa.mono hbr2.size)
      have hcp := HCK.out mo.l[k] (List.getElem_mem hlt) Wa hba2 ((HLS.out Wa hba2).2 _ (List.getElem_mem hlt))
      have HQ := Lib.hid (show (mo.l.take (k + 1)).map MT.tr = (mo.l.take k).map MT.tr ++ [mo.l[k].tr] by rw [List.take_succ_eq_append_getElem hlt, List.map_append]; rfl)
      have HC := Lib.hid hco
      have HTR := Lib.hid htr
      have HBR := Lib.hid hbr
      have HBA := Lib.hid hBa
      have hbra : Below wr.heap.size wr Wa := hBa
      simp only [MT.val] at hcp
      rw [hA]
      clear hco htr hbr hbr2 hba2 hka hsa hA
      go_wp2_with (first
        | (at_builtin; refine wpList_append_lies _ rfl _ _ 31 rfl w9.heap.size 33 i1 _ 3 40 Tryz.underlying31 hi1 hy0 hy1 hy2 rfl (by omega) _ Ks.length (Ks.flatMap MT.cs) rfl ((HC.out.later hb11).own) ⟨w10.heap.size, 0, none⟩ 1 1 N.cs rfl rfl (World.news_of_block (fr := (0, 0)) HK11.out) (by simp [MT.cs, Value.oneCell']) (by omega) (by unfold maxLen; omega) (by omega) (by have := hb11.size; omega) W11.heap.size rfl ?_; intro g7 cap w7 hown7 hg7 hat7 hlt7; have HA := Lib.hid (kept_add HC.out hwr HBA.out hb10 HN.out.2 HB11.out hown7 hg7 rfl hat7))
        | (go_at_call 43; refine hcp.mono ?_; clear hcp; rintro e w10 ⟨N, rfl, hNt, hNn, hb10⟩; have HN := Lib.hid (And.intro hNt hNn); clear hNt hNn; obtain ⟨W11, hW11, hB11, hs11, hk11⟩ := newBlk w10 _ rfl #[.int .i64 N.op, .int .i64 N.n, .slice N.A N.args.length N.c] 33; have hb11 : Below wr.heap.size wr W11 := hbra.trans ((hb10.trans (hB11.mono hb10.size)).mono hbra.size); have HK11 := Lib.hid hk11; have HB11 := Lib.hid hB11; clear hk11))
      go_roundw
      case rel => exact ⟨k + 1, Ks ++ [N], by omega, by go_num, by have h := HA.out.1; rw [hlen] at h; exact h, by rw [List.map_append, HTR.out, HQ.out, List.map_cons, List.map_nil, HN.out.1], HBR.out.trans HA.out.2⟩
      case measure => simp [intOf]; omega
    · have hke : k = mo.l.length := by omega
      rw [List.take_of_length_le (by omega)] at htr
      have hKl : Ks.length = mo.l.length := by omega
      obtain ⟨Ak, ck, hvk, hle, hcm, hrk⟩ := row_of_owns hco.own
      subst hvk
      rw [hKl] at hrk hle ⊢
      have HKC := Lib.hid hco
      have HKT := Lib.hid htr
      have HKR := Lib.hid hrk
      have HBR := Lib.hid hbr
      obtain ⟨⟨c0, c1, c2, c3, c4, c5, c6⟩, c7, c8, c9⟩ := HS.out wr hbr2
      clear hco htr hrk hbr hke hlen
      go_wp2_with (go_at_call 27; refine (HMK.out wr hbr2).mono ?_; rintro e w11 ⟨vm, lo, Ts, z, rfl, hlo, hc11, hb11⟩; obtain ⟨Am, cm, hvm, hm1, hm2, -⟩ := row_of_owns hc11.own; subst hvm)
      have HC11 := Lib.hid hc11
      clear c0 c1 c2 c3 c4 c5 c6 c7 c8 c9
      clear hc11
      go_loopw [51] (fun i' wt => ∃ k : Nat, k ≤ Ts.length ∧ i' = .int .i64 (k : Nat) ∧ Chg lo w11 wt) (fun i' _ => Ts.length - (intOf i').toNat)
      case atStart => exact ⟨0, Nat.zero_le _, rfl, Chg.refl _ _⟩
      case round =>
        rename World => wt
        obtain ⟨k, hk, rfl, hch⟩ := hrel
        by_cases hlt : k < Ts.length
        · obtain ⟨g, cap, hv, hcc⟩ := change_at HC11.out hch hlt
          cases hv
          have h0K : (0 : Int) ≤ k := by omega
          have hlK : (k : Int) < Ts.length := by omega
          have HCH := Lib.hid hch
          clear hch
          go_wp2_with (go_at_call 44; refine (hcc _ (by omega)).mono ?_; clear hcc; rintro e w12 ⟨rfl, hch2⟩)
          go_roundw
          case rel => exact ⟨k + 1, by omega, by go_num, HCH.out.trans hch2⟩
          case measure => simp [intOf]; omega
        · have hbt : Below wr.heap.size wr wt := hb11.trans (hch.below.mono hlo)
          have hbt2 := hbr2.trans (hbt.mono hbr2.size)
          obtain ⟨⟨c0, c1, c2, c3, c4, c5, c6⟩, c7, c8, c9⟩ := HS.out wt hbt2
          clear hch
          go_wp2_with (go_at_call 23; refine (HAB.out wt hbt2).mono ?_; rintro e w13 ⟨va, n, xs, z2, rfl, hoa, hb13⟩; obtain ⟨Aa, ca, rfl, hna, hia⟩ := intRow_of hoa; have HI := Lib.hid (show IntRow w13 wt.heap.size n (.slice Aa n ca) from ⟨Aa, ca, rfl, hna, hia⟩); clear hoa hia)
          clear c0 c1 c2 c3 c4 c5 c6 c7 c8 c9
          go_loopw [66] (fun i' wx => ∃ k : Nat, k ≤ n ∧ i' = .int .i64 (k : Nat) ∧ IntRow wx wt.heap.size n (.slice Aa n ca) ∧ Below wt.heap.size w13 wx) (fun i' _ => n - (intOf i').toNat)
          case atStart => exact ⟨0, Nat.zero_le _, rfl, HI.out, Below.refl _ _⟩
          case round =>
            rename World => wx
            obtain ⟨k, hk, rfl, hir, hbx⟩ := hrel
            by_cases hlt : k < n
            · obtain ⟨g, x, hA, e0, f0, hst⟩ := hir.set hlt
              have h0K : (0 : Int) ≤ k := by omega
              have hlK : (k : Int) < n := by omega
              have e0' : wx.cell? ⟨g, 0 + k, none⟩ = some x := by rw [Nat.zero_add]; exact e0
              have f0' : wx.frozen? ⟨g, 0 + k, none⟩ = false := by rw [Nat.zero_add]; exact f0
              have HST := Lib.hid hst
              have HBX := Lib.hid hbx
              subst hA
              clear hir hst hbx
              go_wp2_with fail
              go_roundw
              case rel => exact ⟨k + 1, by omega, by go_num, (HST.out _ _ (by omega)).1, HBX.out.trans (HST.out _ _ (by omega)).2⟩
              case measure => simp [intOf]; omega
            · have hbx1 : Below wr.heap.size wr wx := hbt.trans ((hb13.trans hbx).mono hbt.size)
              have hbx2 := hbr2.trans (hbx1.mono hbr2.size)
              obtain ⟨⟨c0, c1, c2, c3, c4, c5, c6⟩, c7, c8, c9⟩ := HS.out wx hbx2
              clear hir hbx
              go_wp2_with (first
                | (go_at_call 22; refine (HBE.out w14 hb14).mono ?_; rintro e w15 ⟨rfl, hb15'⟩; have hb15 := hb14.trans (hb15'.mono hb14.size))
                | (go_at_call 30; refine (HTT.out wx hbx2).mono ?_; rintro e w14 ⟨rfl, hb14'⟩; have hb14 := hbx2.trans (hb14'.mono hbx2.size); clear c0 c1 c2 c3 c4 c5 c6 c7 c8 c9; obtain ⟨⟨c0, c1, c2, c3, c4, c5, c6⟩, c7, c8, c9⟩ := HS.out w14 hb14))
              have hb15r : Below wr.heap.size wr w15 := hbx1.trans ((hb14'.trans (hb15'.mono hb14'.size)).mono hbx1.size)
              clear c0 c1 c2 c3 c4 c5 c6 c7 c8 c9
              go_loopw [81] (fun i' wy => ∃ k : Nat, k ≤ mo.l.length ∧ i' = .int .i64 (k : Nat) ∧ Below w15.heap.size w15 wy) (fun i' _ => mo.l.length - (intOf i').toNat)
              case atStart => exact ⟨0, Nat.zero_le _, rfl, Below.refl _ _⟩
              case round =>
                rename World => wy
                obtain ⟨k, hk, rfl, hby⟩ := hrel
                have hby1 : Below wr.heap.size wr wy := hb15r.trans (hby.mono hb15r.size)
                have hby2 := hbr2.trans (hby1.mono hbr2.size)
                by_cases hlt : k < mo.l.length
                · have hlt2 : k < Ks.length := by omega
                  have hrk' : RowAt wr wr.heap.size 3 Ak Ks.length (Ks.flatMap MT.cs) := by rw [hKl]; exact HKR.out
                  obtain ⟨lb, loff, hA1, -, g0, g1, g2⟩ := elem3 hrk' hby1 hlt2
                  obtain ⟨mb, moff, hA2, -, k0, k1', k2'⟩ := elem3 (HRW.out wy hby2) (Below.refl _ _) hlt
                  have h0K : (0 : Int) ≤ k := by omega
                  have hlK : (k : Int) < mo.l.length := by omega
                  have htr : Ks[k].tr = mo.l[k].tr := by
                    have h1 := congrArg (fun l => l[k]?) HKT.out
                    simpa [List.getElem?_map, List.getElem?_eq_getElem hlt, List.getElem?_eq_getElem hlt2] using h1
                  have hsa : Calls Tryz.prog 29 #[Ks[k].val, mo.l[k].val] wy.drew fun e w' => e = .returned (.bool true) ∧ Below wy.drew.heap.size wy.drew w' := by
                    have h1 : (Ks[k]).In wy.heap.size wy := ((HKC.out.trees _ (List.getElem_mem hlt2)).1.1).later hby1
                    have h2 : (mo.l[k]).In wy.heap.size wy := (HLS.out wy hby2).2 _ (List.getElem_mem hlt)
                    have h := rSame_any Ks[k] mo.l[k] wy.drew (h1.later (Below.refl _ wy).drew) (h2.later (Below.refl _ wy).drew)
                    rw [htr, beq_self] at h
                    exact h
                  have HBY := Lib.hid hby
                  simp only [MT.val] at hsa
                  rw [hA1, hA2]
                  clear htr hby hby1 hby2 hA1 hA2 hrk'
                  go_wp2_with fail
                  go_still_tail 8, (by kernel_rfl)
                  change wpList _ _ _ _ _ wy.drew
                  go_wp2_with (go_at_call 29; refine hsa.mono ?_; clear hsa; rintro e w' ⟨rfl, hb2⟩)
                  go_roundw
                  case rel => exact ⟨k + 1, by omega, by go_num, HBY.out.drew.trans (hb2.mono HBY.out.drew.size)⟩
                  case measure => simp [intOf]; omega
                · have hb9y : Below w9.heap.size w9 wy := HBR.out.trans (hby1.mono HBR.out.size)
                  obtain ⟨hme, hMe, hm9, hM9⟩ := HME.out
                  have hsb := bSame_any m b wy (hm9.later hb9y) (HBI.out wy hby2) hme
                  have hsc := fun w' (h : Below wy.heap.size wy w') => rSame_any M T w' ((hM9.later hb9y).later h) (HTI.out w' (hby2.trans (h.mono hby2.size)))
                  simp only [hMe, beq_self] at hsc
                  have HSC := Lib.hid hsc
                  have HKY := Lib.hid (fun w' (h : Below wy.heap.size wy w') => HK.out w' (hb9y.trans (h.mono hb9y.size)))
                  simp only [BN.val, MT.val] at hsb HSC
                  obtain ⟨⟨c0, c1, c2, c3, c4, c5, c6⟩, c7, c8, c9⟩ := HS.out wy hby2
                  obtain ⟨⟨k0, k1, k2, k3, k4, k5, k6⟩, k7, k8, k9⟩ := HK.out wy hb9y
                  clear hme hMe hm9 hM9 hsc hby
                  go_wp2_with (first
                    | (go_at_call 21; refine (HAW.out w17 hb17).mono ?_; rintro e wz ⟨rfl, hbz⟩)
                    | (go_at_call 29; refine (HSC.out w16 hb16).mono ?_; rintro e w17 ⟨rfl, hb17'⟩; have hb17 := hby2.trans ((hb16.trans (hb17'.mono hb16.size)).mono hby2.size))
                    | (go_at_call 45; refine hsb.mono ?_; clear hsb; rintro e w16 ⟨rfl, hb16⟩; clear c0 c1 c2 c3 c4 c5 c6 c7 c8 c9; clear k0 k1 k2 k3 k4 k5 k6 k7 k8 k9; obtain ⟨⟨c0, c1, c2, c3, c4, c5, c6⟩, c7, c8, c9⟩ := HS.out w16 (hby2.trans (hb16.mono hby2.size)); obtain ⟨⟨k0, k1, k2, k3, k4, k5, k6⟩, k7, k8, k9⟩ := HKY.out w16 hb16))
                  go_ret
                  exact ⟨rfl, HB.out.trans ((hb17.trans (hbz.mono hb17.size)).mono HB.out.size)⟩
end Go.Proofs.YtndkcimajeofcaaGreatDoor
