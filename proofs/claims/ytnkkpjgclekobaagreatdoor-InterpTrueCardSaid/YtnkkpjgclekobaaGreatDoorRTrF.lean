import Derived.Test.YtnkkpjgclekobaaGreatDoorBIs
import Derived.Test.YtnkkpjgclekobaaGreatDoorIncR
import Derived.Test.YtnkkpjgclekobaaGreatDoorSameL
namespace Go.Proofs.YtnkkpjgclekobaaGreatDoor
open Go.RowKit
attribute [local go_sem ↓] Go.wp_at_zero Go.wp_at_succ

set_option maxRecDepth 100000 in
set_option maxHeartbeats 8000000 in
theorem rTrue_F (b : BN) (i : IN) (m : Nat) (w : World) (f : Few3 b i) (hm : i.size = m) (hk : kcheckB b = true) (hci : icheckF b.N i = 0) (hb : b.In w.heap.size w) (hi : i.In w.heap.size w) (k : Nat) (hlt : k < b.F.length) (a : Int) (ha : a = (b.I.length : Int) + b.R.l.length + k) :
    Calls Tryz.prog 61 #[b.val, i.val, .int .i64 a] w fun e w' => e = .returned (.bool (verF i m b.F[k])) ∧ Below w.heap.size w w' := by
  obtain ⟨hok, z1, z256, zc, zr, zi, hls⟩ := icheck_zero hci
  obtain ⟨-, k60, knum, kcon⟩ := kcheck_facts hk
  obtain ⟨W1, hW1, hB1, hs1, hk1⟩ := newBlk w _ rfl #[.slice b.N.C.A b.N.C.l.length b.N.C.c, .slice b.N.R.A b.N.R.l.length b.N.R.c, .slice b.N.I.A b.N.I.l.length b.N.I.c, .slice b.IA b.I.length b.ic, .slice b.R.A b.R.l.length b.R.c, .slice b.FA b.F.length b.fc, .slice b.L.A b.L.l.length b.L.c] 30
  obtain ⟨W2, hW2, hB2, hs2, hk2⟩ := newBlk W1 _ hs1 #[.int .i64 i.size, .slice i.CA i.C.length i.cc, .slice i.RA i.R.length i.rc, .slice i.I.A i.I.l.length i.I.c] 35
  have hB : Below w.heap.size w W2 := hB1.trans (hB2.mono (by omega))
  have hkk1 := (hB2.block w.heap.size (by omega)).trans hk1
  have hS : ∀ w', Below W2.heap.size W2 w' → BBox w' w.heap.size b ∧ (w'.cell? ⟨w.heap.size + 1, 0, none⟩ = some (.int .i64 i.size) ∧ w'.cell? ⟨w.heap.size + 1, 1, none⟩ = some (.slice i.CA i.C.length i.cc) ∧ w'.cell? ⟨w.heap.size + 1, 2, none⟩ = some (.slice i.RA i.R.length i.rc) ∧ w'.cell? ⟨w.heap.size + 1, 3, none⟩ = some (.slice i.I.A i.I.l.length i.I.c)) := fun w' h => ⟨bbox_of (b := b) (blk_lat hkk1 h), cell_of_blk (blk_lat hk2 h) 0, cell_of_blk (blk_lat hk2 h) 1, cell_of_blk (blk_lat hk2 h) 2, cell_of_blk (blk_lat hk2 h) 3⟩
  have HS0 := Lib.hid hS
  have hsz : (b.I.length : Int) ≤ 1000 := by have := f.I; omega
  have q1 : decide (a < (b.I.length : Int)) = false := decide_eq_false (by omega)
  obtain ⟨a1, ha1⟩ : ∃ a1, a - (b.I.length : Int) = a1 := ⟨_, rfl⟩
  have w1 : wrap64 (a - (b.I.length : Int)) = a1 := by unfold wrap64; omega
  have w1' : IntKind.i64.wrap (a - (b.I.length : Int)) = a1 := by rw [IntKind.wrap_i64]; omega
  have hsz2 : (b.R.l.length : Int) ≤ 1000 := by have := f.R; omega
  have q2 : decide (a1 < (b.R.l.length : Int)) = false := decide_eq_false (by omega)
  obtain ⟨a2, ha2⟩ : ∃ a2, a1 - (b.R.l.length : Int) = a2 := ⟨_, rfl⟩
  have w2 : wrap64 (a1 - (b.R.l.length : Int)) = a2 := by unfold wrap64; omega
  have w2' : IntKind.i64.wrap (a1 - (b.R.l.length : Int)) = a2 := by rw [IntKind.wrap_i64]; omega
  have hix : ∀ k (hk : k < i.I.l.length), ∃ x : Nat, i.I.l[k] = (x : Int) ∧ x < m := fun k hk => by
    have hl2 := hls
    rw [listsB, Bool.and_eq_true, Bool.and_eq_true, Bool.not_eq_true', List.any_eq_false] at hl2
    have := hl2.2.2 _ (List.getElem_mem hk)
    simp [foreignB] at this
    exact ⟨i.I.l[k].toNat, by omega, by omega⟩
  have hak : a2 = (k : Nat) := by omega
  subst hak
  obtain ⟨g, off, hA, hg, e0, e1, e2, e3⟩ := (hb.later hB).fact hlt
  have hnu := knum
  rw [numsB, Bool.and_eq_true, Bool.and_eq_true, List.all_eq_true, List.all_eq_true, List.all_eq_true] at hnu
  have hfk := hnu.2.1 _ (List.getElem_mem hlt)
  simp only [factOk, foreignB, Bool.not_eq_true', Bool.or_eq_false_iff, decide_eq_false_iff_not] at hfk
  obtain ⟨kd, hkd⟩ : ∃ kd : Nat, b.F[k].1 = kd := ⟨b.F[k].1.toNat, by omega⟩
  have hkdl : kd < i.I.l.length := by omega
  obtain ⟨x, hx, hxm⟩ := hix kd hkdl
  obtain ⟨gi, oi, hIA, hgi, di⟩ := IL.In.cells (hi.later hB).i1 (by omega)
  have dx := di kd hkdl
  rw [hx] at dx
  rw [hkd] at e0
  obtain ⟨W3, hW3, hB3, hs3, hk3⟩ := newBlk W2 _ hs2 #[.int .i64 (kd : Nat), .int .i64 b.F[k].2.op, .int .i64 b.F[k].2.n, .slice b.F[k].2.A b.F[k].2.args.length b.F[k].2.c] 106
  have hmc : b.F[k].2 ∈ b.cons := by rw [BN.cons]; exact List.mem_append_right _ (List.mem_map.2 ⟨_, List.getElem_mem hlt, rfl⟩)
  have hwf : b.F[k].2.tr.wfT i.C.length i.R.length = true := wf_of_check0 (kcon _ hmc) zc zr
  have hse := fun w' (h : Below W3.heap.size W3 w') => rSet_any i m hm (by omega) hls b.F[k].2 w' (((hi.later hB).later (hB3.mono (by omega))).later h) ((((hb.later hB).later (hB3.mono (by omega))).later h).f4 _ (List.getElem_mem hlt)) hwf
  have hver : verF i m b.F[k] = semT i m b.F[k].2.tr x := by rw [verF, hkd, indF, Int.toNat_natCast, List.getD_eq_getElem?_getD, List.getElem?_eq_getElem hkdl, Option.getD_some, hx]; rfl
  rw [hver]
  have hcs : ∀ w', Below W3.heap.size W3 w' → (w'.cell? ⟨w.heap.size + 1 + 1, 0, none⟩ = some (.int .i64 (kd : Nat)) ∧ w'.cell? ⟨w.heap.size + 1 + 1, 1, none⟩ = some (.int .i64 b.F[k].2.op) ∧ w'.cell? ⟨w.heap.size + 1 + 1, 2, none⟩ = some (.int .i64 b.F[k].2.n) ∧ w'.cell? ⟨w.heap.size + 1 + 1, 3, none⟩ = some (.slice b.F[k].2.A b.F[k].2.args.length b.F[k].2.c)) ∧ w'.cell? ⟨gi, oi + kd, none⟩ = some (.int .i64 (x : Nat)) ∧ (w'.cell? ⟨w.heap.size + 1, 0, none⟩ = some (.int .i64 i.size) ∧ w'.cell? ⟨w.heap.size + 1, 1, none⟩ = some (.slice i.CA i.C.length i.cc) ∧ w'.cell? ⟨w.heap.size + 1, 2, none⟩ = some (.slice i.RA i.R.length i.rc) ∧ w'.cell? ⟨w.heap.size + 1, 3, none⟩ = some (.slice (some ⟨gi, oi, none⟩) i.I.l.length i.I.c)) := fun w' h => by
    have h' : Below W2.heap.size W2 w' := (hB3.mono (by omega)).trans (h.mono (by omega))
    have hx := (hS w' h').2
    rw [← hIA]
    exact ⟨⟨cell_of_blk (blk_lat hk3 h) 0, cell_of_blk (blk_lat hk3 h) 1, cell_of_blk (blk_lat hk3 h) 2, cell_of_blk (blk_lat hk3 h) 3⟩, (h'.cell (p := ⟨gi, oi + kd, none⟩) hgi).trans dx, hx⟩
  obtain ⟨c0, c1, c2, c3, c4, c5, c6⟩ := (hS W2 (Below.refl _ _)).1
  obtain ⟨⟨d0, d1, d2, d3⟩, d4, c7, c8, c9, c10⟩ := hcs W3 (Below.refl _ _)
  have hd : Below W3.heap.size W3 W3.drew := (Below.refl _ _).drew
  have h0K : (0 : Int) ≤ k := by omega
  have hlK : (k : Int) < b.F.length := by omega
  have h0X : (0 : Int) ≤ kd := by omega
  have hlX : (kd : Int) < i.I.l.length := by omega
  have h0Y : (0 : Int) ≤ x := by omega
  have hlY : (x : Int) < m := by omega
  have HB := Lib.hid (hB.trans (hB3.mono (by omega)))
  have HCS := Lib.hid hcs
  have HSE := Lib.hid hse
  simp only [IN.val, MT.val, hIA] at HSE
  simp only [IN.val, BN.val, MT.val]
  rw [hA] at hW1 c5 ⊢
  rw [hIA] at hW2 ⊢
  clear hm hk hci hb hi hok z1 z256 zc zr zi hls k60 knum kcon hB hB1 hB2 hB3 hk1 hk2 hk3 hkk1 hS HS0 hA hg hcs f hver hnu hfk hkd hx hIA hgi di dx hmc hwf hse ha ha1 ha2 hsz hsz2 hix
  generalize b.F[k].2 = T at e1 e2 e3 d1 d2 d3 hW3 HCS HSE ⊢
  go_enter Tryz.func61, Tryz.ntmps61
  go_wp2_with fail
  refine wp_region_held_drew (S := fun w' => (w'.cell? ⟨w.heap.size + 1 + 1, 0, none⟩ = some (.int .i64 (kd : Nat)) ∧ w'.cell? ⟨w.heap.size + 1 + 1, 1, none⟩ = some (.int .i64 T.op) ∧ w'.cell? ⟨w.heap.size + 1 + 1, 2, none⟩ = some (.int .i64 T.n) ∧ w'.cell? ⟨w.heap.size + 1 + 1, 3, none⟩ = some (.slice T.A T.args.length T.c)) ∧ w'.cell? ⟨gi, oi + kd, none⟩ = some (.int .i64 (x : Nat)) ∧ (w'.cell? ⟨w.heap.size + 1, 0, none⟩ = some (.int .i64 i.size) ∧ w'.cell? ⟨w.heap.size + 1, 1, none⟩ = some (.slice i.CA i.C.length i.cc) ∧ w'.cell? ⟨w.heap.size + 1, 2, none⟩ = some (.slice i.RA i.R.length i.rc) ∧ w'.cell? ⟨w.heap.size + 1, 3, none⟩ = some (.slice (some ⟨gi, oi, none⟩) i.I.l.length i.I.c))) (by kernel_rfl) (HCS.out _ hd) (fun hHeld => ?_)
  refine wpAnyH_take (i := 0) (oi := { dst := some 82, op := Op.fieldAddr 106 (Operand.tmp 10) 1, type := 0, pos := "ref.go:160", after := #[], guard := none }) (v := .pointer (some ⟨w.heap.size + 1 + 1, 1, none⟩)) rfl (by kernel_rfl) (by kernel_rfl) (by kernel_rfl) (fun _ _ _ h => h) (Or.inl ⟨by rfl, by (intro w hSw; (try dsimp only at hSw); go_simp)⟩) (by assumption) ?_
  try simp only [Act.put, List.setIfInBounds_toArray, List.set_cons_zero, List.set_cons_succ]
  refine wpAnyH_take (i := 1) (oi := { dst := some 83, op := Op.load 54 (Operand.tmp 82), type := 54, pos := "ref.go:160", after := #[{ on := 0, ground := Ground.data }], guard := none }) (v := .agg #[.int .i64 T.op, .int .i64 T.n, .slice T.A T.args.length T.c]) rfl (by kernel_rfl) (by kernel_rfl) (by kernel_rfl) (fun _ _ _ h => h) (Or.inl ⟨by rfl, by (intro w hSw; (try dsimp only at hSw); go_simp)⟩) (by assumption) ?_
  try simp only [Act.put, List.setIfInBounds_toArray, List.set_cons_zero, List.set_cons_succ]
  refine wpAnyH_take (i := 2) (oi := { dst := some 84, op := Op.load 35 (Operand.tmp 4), type := 35, pos := "ref.go:160", after := #[], guard := none }) (v := .agg #[.int .i64 i.size, .slice i.CA i.C.length i.cc, .slice i.RA i.R.length i.rc, .slice (some ⟨gi, oi, none⟩) i.I.l.length i.I.c]) rfl (by kernel_rfl) (by kernel_rfl) (by kernel_rfl) (fun _ _ _ h => h) (Or.inl ⟨by rfl, by (intro w hSw; (try dsimp only at hSw); go_simp)⟩) (by assumption) ?_
  try simp only [Act.put, List.setIfInBounds_toArray, List.set_cons_zero, List.set_cons_succ]
  refine wpAnyH_take (i := 4) (oi := { dst := some 86, op := Op.fieldAddr 35 (Operand.tmp 4) 3, type := 0, pos := "ref.go:160", after := #[], guard := none }) (v := .pointer (some ⟨w.heap.size + 1, 3, none⟩)) rfl (by kernel_rfl) (by kernel_rfl) (by kernel_rfl) (fun _ _ _ h => h) (Or.inl ⟨by rfl, by (intro w hSw; (try dsimp only at hSw); go_simp)⟩) (by assumption) ?_
  try simp only [Act.put, List.setIfInBounds_toArray, List.set_cons_zero, List.set_cons_succ]
  refine wpAnyH_take (i := 5) (oi := { dst := some 87, op := Op.load 33 (Operand.tmp 86), type := 33, pos := "ref.go:160", after := #[{ on := 4, ground := Ground.data }], guard := none }) (v := .slice (some ⟨gi, oi, none⟩) i.I.l.length i.I.c) rfl (by kernel_rfl) (by kernel_rfl) (by kernel_rfl) (fun _ _ _ h => h) (Or.inl ⟨by rfl, by (intro w hSw; (try dsimp only at hSw); go_simp)⟩) (by assumption) ?_
  try simp only [Act.put, List.setIfInBounds_toArray, List.set_cons_zero, List.set_cons_succ]
  refine wpAnyH_take (i := 6) (oi := { dst := some 88, op := Op.fieldAddr 106 (Operand.tmp 10) 0, type := 0, pos := "ref.go:160", after := #[], guard := none }) (v := .pointer (some ⟨w.heap.size + 1 + 1, 0, none⟩)) rfl (by kernel_rfl) (by kernel_rfl) (by kernel_rfl) (fun _ _ _ h => h) (Or.inl ⟨by rfl, by (intro w hSw; (try dsimp only at hSw); go_simp)⟩) (by assumption) ?_
  try simp only [Act.put, List.setIfInBounds_toArray, List.set_cons_zero, List.set_cons_succ]
  refine wpAnyH_take (i := 7) (oi := { dst := some 89, op := Op.load 3 (Operand.tmp 88), type := 3, pos := "ref.go:160", after := #[{ on := 6, ground := Ground.data }], guard := none }) (v := .int .i64 (kd : Nat)) rfl (by kernel_rfl) (by kernel_rfl) (by kernel_rfl) (fun _ _ _ h => h) (Or.inl ⟨by rfl, by (intro w hSw; (try dsimp only at hSw); go_simp)⟩) (by assumption) ?_
  try simp only [Act.put, List.setIfInBounds_toArray, List.set_cons_zero, List.set_cons_succ]
  refine wpAnyH_take (i := 8) (oi := { dst := some 90, op := Op.indexAddr 33 (Operand.tmp 87) (Operand.tmp 89), type := 0, pos := "ref.go:160", after := #[{ on := 5, ground := Ground.data }, { on := 7, ground := Ground.data }], guard := none }) (v := .pointer (some ⟨gi, oi + kd, none⟩)) rfl (by kernel_rfl) (by kernel_rfl) (by kernel_rfl) (fun _ _ _ h => h) (Or.inl ⟨by rfl, by (intro w hSw; (try dsimp only at hSw); go_simp)⟩) (by assumption) ?_
  try simp only [Act.put, List.setIfInBounds_toArray, List.set_cons_zero, List.set_cons_succ]
  refine wpAnyH_take (i := 9) (oi := { dst := some 91, op := Op.load 3 (Operand.tmp 90), type := 3, pos := "ref.go:160", after := #[{ on := 8, ground := Ground.data }], guard := none }) (v := .int .i64 (x : Nat)) rfl (by kernel_rfl) (by kernel_rfl) (by kernel_rfl) (fun _ _ _ h => h) (Or.inl ⟨by rfl, by (intro w hSw; (try dsimp only at hSw); go_simp)⟩) (by assumption) ?_
  try simp only [Act.put, List.setIfInBounds_toArray, List.set_cons_zero, List.set_cons_succ]
  refine wpAnyH_ready (rs := [3]) (by kernel_rfl) (by simp) (AllReadyH.cons (o := { dst := some 85, op := Op.call { callee := Callee.value (Operand.func 99), args := #[Operand.tmp 83, Operand.tmp 84], argTypes := #[54, 35] }, type := 57, pos := "ref.go:160", after := #[{ on := 1, ground := Ground.data }, { on := 2, ground := Ground.data }], guard := none }) rfl (fun K hK => ?_) AllReadyH.nil)
  go_simp
  go_at_call 99
  refine (HSE.out W3.drew hd).mono ?_
  rintro e w4 ⟨gs, rfl, hgs, hbr, hb4'⟩
  have hb4 : Below W3.heap.size W3 w4 := hd.trans hb4'
  have hce := hbr.cell hxm
  refine hK.out _ _ (HCS.out _ hb4) (fun hHeld4 => ?_)
  clear hK K
  try simp only [Act.put, List.setIfInBounds_toArray, List.set_cons_zero, List.set_cons_succ]
  refine wpAnyH_ready (rs := [10]) (by kernel_rfl) (by simp) (AllReadyH.cons (o := { dst := some 92, op := Op.indexAddr 57 (Operand.tmp 85) (Operand.tmp 91), type := 0, pos := "ref.go:160", after := #[{ on := 3, ground := Ground.data }, { on := 9, ground := Ground.data }], guard := none }) rfl (fun K hK => ?_) AllReadyH.nil)
  go_simp
  refine hK.out _ _ (HCS.out _ hb4) (fun _ => ?_)
  clear hK K
  try simp only [Act.put, List.setIfInBounds_toArray, List.set_cons_zero, List.set_cons_succ]
  refine wpAnyH_ready (rs := [11]) (by kernel_rfl) (by simp) (AllReadyH.cons (o := { dst := some 93, op := Op.load 4 (Operand.tmp 92), type := 4, pos := "ref.go:160", after := #[{ on := 10, ground := Ground.data }], guard := none }) rfl (fun K hK => ?_) AllReadyH.nil)
  go_simp
  refine hK.out _ _ (HCS.out _ hb4) (fun _ => ?_)
  clear hK K
  try simp only [Act.put, List.setIfInBounds_toArray, List.set_cons_zero, List.set_cons_succ]
  refine wpAnyH_ready (rs := [12]) (by kernel_rfl) (by simp) (AllReadyH.cons (o := { dst := some 6, op := Op.assign (Operand.tmp 93), type := 4, pos := "ref.go:160", after := #[{ on := 11, ground := Ground.data }, { on := 3, ground := Ground.chain }, { on := 0, ground := Ground.phase }, { on := 1, ground := Ground.phase }, { on := 2, ground := Ground.phase }, { on := 3, ground := Ground.phase }, { on := 4, ground := Ground.phase }, { on := 5, ground := Ground.phase }, { on := 6, ground := Ground.phase }, { on := 7, ground := Ground.phase }, { on := 8, ground := Ground.phase }, { on := 9, ground := Ground.phase }, { on := 10, ground := Ground.phase }, { on := 11, ground := Ground.phase }], guard := none }) rfl (fun K hK => ?_) AllReadyH.nil)
  go_simp
  refine hK.out _ _ (HCS.out _ hb4) (fun _ => ?_)
  clear hK K
  refine wpAnyH_done (by kernel_rfl) ?_ _
  go_wp2_with fail
  go_ret
  exact ⟨rfl, HB.out.trans (hb4.mono HB.out.size)⟩

end Go.Proofs.YtnkkpjgclekobaaGreatDoor
