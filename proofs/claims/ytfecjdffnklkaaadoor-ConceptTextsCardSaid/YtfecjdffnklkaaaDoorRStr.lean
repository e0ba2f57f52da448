import Derived.Test.YtfecjdffnklkaaaDoorRef6
namespace Go.Proofs.YtfecjdffnklkaaaDoor
open Go.RowKit

set_option maxRecDepth 100000 in
set_option maxHeartbeats 1000000 in
theorem rRole_any (n : NM) (r : Int) (w : World) (hn : n.In w.heap.size w) (h0 : 0 ≤ r) (h1 : r < 2 * (n.R.l.length : Int)) (h2 : n.R.l.length ≤ 1000) (h3 : ∀ x ∈ n.R.l, x.size ≤ 1000) :
    Calls Tryd.prog 60 #[n.val, .int .i64 r] w fun e w' => (∃ s : ByteArray, e = .returned (.string s) ∧ s.data.toList = roleF n.R.l r) ∧ Below w.heap.size w w' := by
  have hk : (r / 2).toNat < n.R.l.length := by omega
  obtain ⟨rb, roff, hA, hlt, hc⟩ := hn.2.1.cells (by omega)
  have hck := hc (r / 2).toNat hk
  obtain ⟨NC, ⟨RA, Rc, Rl⟩, NI⟩ := n
  simp only at hA h1 h2 hk hck h3
  subst hA
  have hmem : Rl.getD (r / 2).toNat ByteArray.empty ∈ Rl := by
    rw [List.getD_eq_getElem?_getD, List.getElem?_eq_getElem hk]; exact List.getElem_mem _
  have hss := h3 _ hmem
  have HN : Hid (nameAt Rl (r / 2).toNat = (Rl.getD (r / 2).toNat ByteArray.empty).data.toList) := Lib.hid rfl
  generalize Rl.getD (r / 2).toNat ByteArray.empty = sr at hck hss HN
  clear hmem hc h3
  have hd0 : 0 ≤ r / 2 := by omega
  have hd1 : r / 2 < (Rl.length : Int) := by omega
  have hrb := hlt
  simp only [NM.val]
  rcases ho : (r % 2 == 1)
  · go_enter Tryd.func60, Tryd.ntmps60
    go_wp2
    go_ret
    have hne : ¬ r % 2 = 1 := by simpa using ho
    exact ⟨⟨sr, rfl, by rw [roleF, if_neg hne, HN.out, List.append_nil]⟩, (Below.refl _ _).alloc (Nat.le_refl _) _⟩
  · have hsx : sr.size ≤ 9223372036854775806 := by omega
    go_enter Tryd.func60, Tryd.ntmps60
    go_wp2
    go_ret
    have he : r % 2 = 1 := by simpa using ho
    exact ⟨⟨_, rfl, by rw [roleF, if_pos he, HN.out, ByteArray.data_append, Array.toList_append]⟩, (Below.refl _ _).alloc (Nat.le_refl _) _⟩

/-- What the reference's String does at a tree. -/
def RSt (n : NM) (T : MT) : Prop :=
  ∀ w : World, n.In w.heap.size w → T.In w.heap.size w → (T.tr.str n.C.l n.R.l).length ≤ 1000000000 →
    Calls Tryd.prog 30 #[n.val, T.val] w fun e w' => (∃ s : ByteArray, e = .returned (.string s) ∧ s.data.toList = T.tr.str n.C.l n.R.l) ∧ Below w.heap.size w w'

set_option maxRecDepth 100000 in
set_option maxHeartbeats 2000000 in
theorem rstr0 (n : NM) (nn : Int) (A : Option Addr) (c : Nat) (args : List MT) (h0 : 0 ≤ nn) (h1 : nn < n.C.l.length) : RSt n (.mk 0 nn A c args) := by
  intro w hn hT _
  have hk : nn.toNat < n.C.l.length := by omega
  obtain ⟨rb, roff, hA, hlt, hc⟩ := hn.1.cells (by omega)
  have hc0 := hc nn.toNat hk
  have hS : (MT.mk 0 nn A c args).tr.str n.C.l n.R.l = (n.C.l.getD nn.toNat ByteArray.empty).data.toList := by
    rw [MT.tr_mk, Tr.str, strNode, if_pos rfl]; rfl
  rw [hS]
  clear hS hc
  obtain ⟨⟨CA, Cc, Cl⟩, NR, NI⟩ := n
  simp only at hA h1 hk hc0 ⊢
  subst hA
  generalize Cl.getD nn.toNat ByteArray.empty = sr at hc0 ⊢
  simp only [NM.val, MT.val, MT.op, MT.n, MT.A, MT.args, MT.c]
  obtain ⟨W1, hW1, hB1, hs1, hblk1⟩ := newBlk w _ rfl #[.slice (some ⟨rb, roff, none⟩) Cl.length Cc, .slice NR.A NR.l.length NR.c, .slice NI.A NI.l.length NI.c] 24
  obtain ⟨W2, hW2, hB2, hs2, hblk2⟩ := newBlk W1 _ hs1 #[.int .i64 0, .int .i64 nn, .slice A args.length c] 27
  have hB : Below w.heap.size w W2 := hB1.trans (hB2.mono (by omega))
  have hblk12 := (hB2.block w.heap.size (by omega)).trans hblk1
  have a0 := cell_of_blk hblk12 0
  have b0 := cell_of_blk hblk2 0
  have b1 := cell_of_blk hblk2 1
  simp only [List.getElem?_toArray, List.getElem?_cons_zero, List.getElem?_cons_succ] at a0 b0 b1
  have hck := (hB.cell (p := ⟨rb, roff + nn.toNat, none⟩) (show rb < w.heap.size by omega)).trans hc0
  go_enter Tryd.func30, Tryd.ntmps30
  go_wp2_with fail
  go_ret
  exact ⟨⟨sr, rfl, rfl⟩, hB⟩

set_option maxRecDepth 100000 in
set_option maxHeartbeats 2000000 in
theorem rstr12 (n : NM) (op nn : Int) (hop : op = 1 ∨ op = 2) (A : Option Addr) (c : Nat) (args : List MT) : RSt n (.mk op nn A c args) := by
  intro w hn hT _
  have hS : (MT.mk op nn A c args).tr.str n.C.l n.R.l = wordF op := by
    rw [MT.tr_mk, Tr.str, strNode, if_neg (by omega), if_pos hop]
  rw [hS]
  clear hS
  simp only [NM.val, MT.val, MT.op, MT.n, MT.A, MT.args, MT.c]
  obtain ⟨W1, hW1, hB1, hs1, hblk1⟩ := newBlk w _ rfl #[.slice n.C.A n.C.l.length n.C.c, .slice n.R.A n.R.l.length n.R.c, .slice n.I.A n.I.l.length n.I.c] 24
  obtain ⟨W2, hW2, hB2, hs2, hblk2⟩ := newBlk W1 _ hs1 #[.int .i64 op, .int .i64 nn, .slice A args.length c] 27
  have hB : Below w.heap.size w W2 := hB1.trans (hB2.mono (by omega))
  have b0 := cell_of_blk hblk2 0
  simp only [List.getElem?_toArray, List.getElem?_cons_zero, List.getElem?_cons_succ] at b0
  rcases hop with rfl | rfl
  all_goals
    go_enter Tryd.func30, Tryd.ntmps30
    go_wp2_with fail
    go_ret
    exact ⟨⟨_, rfl, rfl⟩, hB⟩

set_option maxRecDepth 100000 in
set_option maxHeartbeats 4000000 in
theorem rstr3 (n : NM) (nn : Int) (A : Option Addr) (c : Nat) (T0 : MT) (ih : RSt n T0) : RSt n (.mk 3 nn A c [T0]) := by
  intro w hn hT hlen
  have hS : (MT.mk 3 nn A c [T0]).tr.str n.C.l n.R.l = [110, 111, 116, 32] ++ T0.tr.str n.C.l n.R.l := by
    rw [MT.tr_mk, Tr.str, strNode, if_neg (by omega), if_neg (by omega), if_pos rfl]; rfl
  rw [hS] at hlen ⊢
  clear hS
  simp only [List.length_append, List.length_cons, List.length_nil] at hlen
  rw [MT.In] at hT
  obtain ⟨hlc, hc, hr, hrow⟩ := hT
  have hT0 := hrow.at_ 0 Nat.zero_lt_one
  obtain ⟨ab, aoff, rfl, -⟩ := hr.2 (by simp)
  obtain ⟨W1, W2, hW1, hs1, hW2, hs2, hB, hcell⟩ := two_boxes n (.mk 3 nn (some ⟨ab, aoff, none⟩) c [T0]) w
  have hBd := hB.drew
  have hd := hcell _ (Below.refl _ W2).drew
  have hb0 := (hcell W2 (Below.refl _ W2)).2.1
  obtain ⟨ab', aoff', hA', halt, g0, g1, g2⟩ := elem3 (k := 0) hr hBd Nat.zero_lt_one
  cases hA'
  replace g0 := add_zero' g0
  have hih := ih W2.drew (hn.later hBd) (hT0.later hBd) (by omega)
  simp only [Nat.zero_mul, Nat.add_zero, List.getElem_cons_zero] at g0 g1 g2
  simp only [NM.val, MT.val, MT.op, MT.n, MT.A, MT.args, MT.c, List.length_singleton] at hih hW2 hd hb0 ⊢
  obtain ⟨⟨n0, n1, n2⟩, e0, e1, e2⟩ := hd
  clear hcell
  go_enter Tryd.func30, Tryd.ntmps30
  go_wp2_with fail
  go_still_tail 5, (by kernel_rfl)
  change wpList _ _ _ _ _ W2.drew
  go_wp2_with (go_at_call 30; refine hih.mono ?_; rintro e w3 ⟨⟨s, rfl, hs⟩, hb3⟩; have hsz : s.size ≤ 1000000000 := (by rw [← data_size, hs]; omega))
  go_ret
  exact ⟨⟨_, rfl, by rw [bytes_app, hs]; rfl⟩, hBd.trans (hb3.mono hBd.size)⟩
set_option maxRecDepth 100000 in
set_option maxHeartbeats 4000000 in
theorem rstr45 (n : NM) (op nn : Int) (hop : op = 4 ∨ op = 5) (A : Option Addr) (c : Nat) (T0 T1 : MT) (ih0 : RSt n T0) (ih1 : RSt n T1) : RSt n (.mk op nn A c [T0, T1]) := by
  intro w hn hT hlen
  have hS : (MT.mk op nn A c [T0, T1]).tr.str n.C.l n.R.l = [40] ++ T0.tr.str n.C.l n.R.l ++ ([32] ++ wordF op ++ [32]) ++ T1.tr.str n.C.l n.R.l ++ [41] := by
    rw [MT.tr_mk, Tr.str, strNode, if_neg (by omega), if_neg (by omega), if_neg (by omega), if_pos hop]; rfl
  rw [hS] at hlen ⊢
  clear hS
  simp only [List.length_append, List.length_cons, List.length_nil] at hlen
  rw [MT.In] at hT
  obtain ⟨hlc, hc, hr, hrow⟩ := hT
  have hT0 := hrow.at_ 0 (show 0 < 2 by omega)
  have hT1 := hrow.at_ 1 (show 1 < 2 by omega)
  obtain ⟨ab, aoff, rfl, -⟩ := hr.2 (by simp)
  obtain ⟨W1, W2, hW1, hs1, hW2, hs2, hB, hcell⟩ := two_boxes n (.mk op nn (some ⟨ab, aoff, none⟩) c [T0, T1]) w
  have hb0 := (hcell W2 (Below.refl _ W2)).2.1
  have hS2 : ∀ w', Below W2.heap.size W2 w' → (w'.cell? ⟨w.heap.size, 0, none⟩ = some (.slice n.C.A n.C.l.length n.C.c) ∧ w'.cell? ⟨w.heap.size, 1, none⟩ = some (.slice n.R.A n.R.l.length n.R.c) ∧ w'.cell? ⟨w.heap.size, 2, none⟩ = some (.slice n.I.A n.I.l.length n.I.c)) ∧ w'.cell? ⟨w.heap.size + 1, 2, none⟩ = some (.slice (some ⟨ab, aoff, none⟩) 2 c) ∧
      (w'.cell? ⟨ab, aoff, none⟩ = some (.int .i64 T0.op) ∧ w'.cell? ⟨ab, aoff + 1, none⟩ = some (.int .i64 T0.n) ∧ w'.cell? ⟨ab, aoff + 2, none⟩ = some (.slice T0.A T0.args.length T0.c)) ∧
      w'.cell? ⟨ab, aoff + 3, none⟩ = some (.int .i64 T1.op) ∧ w'.cell? ⟨ab, aoff + 3 + 1, none⟩ = some (.int .i64 T1.n) ∧ w'.cell? ⟨ab, aoff + 3 + 2, none⟩ = some (.slice T1.A T1.args.length T1.c) := fun w' hb => by
    have hBw : Below w.heap.size w w' := hB.trans (hb.mono hB.size)
    obtain ⟨q1, -, -, q2⟩ := hcell w' hb
    obtain ⟨a1, o1, h1, -, g0, g1, g2⟩ := elem3 (k := 0) hr hBw (show 0 < 2 by omega)
    cases h1
    obtain ⟨a2, o2, h2, -, k0, k1, k2⟩ := elem3 (k := 1) hr hBw (show 1 < 2 by omega)
    cases h2
    replace g0 := add_zero' g0
    simp only [Nat.zero_mul, Nat.one_mul, Nat.add_zero, List.getElem_cons_zero, List.getElem_cons_succ] at g0 g1 g2 k0 k1 k2
    exact ⟨q1, q2, ⟨g0, g1, g2⟩, k0, k1, k2⟩
  have hih0 := fun w1 (hb : Below W2.heap.size W2 w1) => ih0 w1 (hn.later (hB.trans (hb.mono hB.size))) (hT0.later (hB.trans (hb.mono hB.size))) (by omega)
  have hih1 := fun w1 (hb : Below W2.heap.size W2 w1) => ih1 w1 (hn.later (hB.trans (hb.mono hB.size))) (hT1.later (hB.trans (hb.mono hB.size))) (by omega)
  have hd := (Below.refl W2.heap.size W2).drew
  clear hcell
  simp only [NM.val, MT.val, MT.op, MT.n, MT.A, MT.args, MT.c, List.length_cons, List.length_nil, Nat.reduceAdd] at hih0 hih1 hW2 hb0 ⊢
  rcases hop with rfl | rfl
  all_goals
    go_enter Tryd.func30, Tryd.ntmps30
    go_wp2_with fail
    go_region_held (fun w' => (w'.cell? ⟨w.heap.size, 0, none⟩ = some (.slice n.C.A n.C.l.length n.C.c) ∧ w'.cell? ⟨w.heap.size, 1, none⟩ = some (.slice n.R.A n.R.l.length n.R.c) ∧ w'.cell? ⟨w.heap.size, 2, none⟩ = some (.slice n.I.A n.I.l.length n.I.c)) ∧ w'.cell? ⟨w.heap.size + 1, 2, none⟩ = some (.slice (some ⟨ab, aoff, none⟩) 2 c) ∧
      (w'.cell? ⟨ab, aoff, none⟩ = some (.int .i64 T0.op) ∧ w'.cell? ⟨ab, aoff + 1, none⟩ = some (.int .i64 T0.n) ∧ w'.cell? ⟨ab, aoff + 2, none⟩ = some (.slice T0.A T0.args.length T0.c)) ∧
      w'.cell? ⟨ab, aoff + 3, none⟩ = some (.int .i64 T1.op) ∧ w'.cell? ⟨ab, aoff + 3 + 1, none⟩ = some (.int .i64 T1.n) ∧ w'.cell? ⟨ab, aoff + 3 + 2, none⟩ = some (.slice T1.A T1.args.length T1.c))
      (first | exact hS2 _ hd | exact hS2 _ hb3 | exact hS2 _ hb5)
      (first | (go_at_call 30; first | (refine (hih1 _ hb3).mono ?_; rintro e w5 ⟨⟨s5, rfl, hs5⟩, hb5'⟩; have hb5 := thn hb3 hb5'; have hsz5 : s5.size ≤ 1000000000 := (by rw [← data_size, hs5]; omega)) | (refine (hih0 _ hd).mono ?_; rintro e w3 ⟨⟨s3, rfl, hs3⟩, hb3'⟩; have hb3 := thn hd hb3'; have hsz3 : s3.size ≤ 1000000000 := (by rw [← data_size, hs3]; omega))))
    all_goals
      go_wp2
      go_ret
      exact ⟨⟨_, rfl, by simp only [bytes_app, hs3, hs5]; rfl⟩, hB.trans (hb5.mono hB.size)⟩

set_option maxRecDepth 100000 in
set_option maxHeartbeats 4000000 in
theorem rstr67 (n : NM) (op nn : Int) (hop : op = 6 ∨ op = 7) (A : Option Addr) (c : Nat) (T0 : MT) (ih0 : RSt n T0) (h0 : 0 ≤ nn) (h1 : nn < 2 * (n.R.l.length : Int)) (h2 : n.R.l.length ≤ 1000) (h3 : ∀ x ∈ n.R.l, x.size ≤ 1000) : RSt n (.mk op nn A c [T0]) := by
  intro w hn hT hlen
  have hS : (MT.mk op nn A c [T0]).tr.str n.C.l n.R.l = wordF op ++ [32] ++ roleF n.R.l nn ++ [32] ++ T0.tr.str n.C.l n.R.l := by
    rw [MT.tr_mk, Tr.str, strNode, if_neg (by omega), if_neg (by omega), if_neg (by omega), if_neg (by omega)]; rfl
  rw [hS] at hlen ⊢
  clear hS
  simp only [List.length_append, List.length_cons, List.length_nil] at hlen
  rw [MT.In] at hT
  obtain ⟨hlc, hc, hr, hrow⟩ := hT
  have hT0 := hrow.at_ 0 Nat.zero_lt_one
  obtain ⟨ab, aoff, rfl, -⟩ := hr.2 (by simp)
  obtain ⟨W1, W2, hW1, hs1, hW2, hs2, hB, hcell⟩ := two_boxes n (.mk op nn (some ⟨ab, aoff, none⟩) c [T0]) w
  have hb0 := (hcell W2 (Below.refl _ W2)).2.1
  have hS2 : ∀ w', Below W2.heap.size W2 w' → (w'.cell? ⟨w.heap.size, 0, none⟩ = some (.slice n.C.A n.C.l.length n.C.c) ∧ w'.cell? ⟨w.heap.size, 1, none⟩ = some (.slice n.R.A n.R.l.length n.R.c) ∧ w'.cell? ⟨w.heap.size, 2, none⟩ = some (.slice n.I.A n.I.l.length n.I.c)) ∧ w'.cell? ⟨w.heap.size + 1, 1, none⟩ = some (.int .i64 nn) ∧ w'.cell? ⟨w.heap.size + 1, 2, none⟩ = some (.slice (some ⟨ab, aoff, none⟩) 1 c) ∧
      w'.cell? ⟨ab, aoff, none⟩ = some (.int .i64 T0.op) ∧ w'.cell? ⟨ab, aoff + 1, none⟩ = some (.int .i64 T0.n) ∧ w'.cell? ⟨ab, aoff + 2, none⟩ = some (.slice T0.A T0.args.length T0.c) := fun w' hb => by
    have hBw : Below w.heap.size w w' := hB.trans (hb.mono hB.size)
    obtain ⟨q1, -, q3, q2⟩ := hcell w' hb
    obtain ⟨a1, o1, h1, -, g0, g1, g2⟩ := elem3 (k := 0) hr hBw (show 0 < 1 by omega)
    cases h1
    replace g0 := add_zero' g0
    simp only [Nat.zero_mul, Nat.add_zero, List.getElem_cons_zero] at g0 g1 g2
    exact ⟨q1, q3, q2, g0, g1, g2⟩
  have hih0 := fun w1 (hb : Below W2.heap.size W2 w1) => ih0 w1 (hn.later (hB.trans (hb.mono hB.size))) (hT0.later (hB.trans (hb.mono hB.size))) (by omega)
  have hrole := fun w1 (hb : Below W2.heap.size W2 w1) => rRole_any n nn w1 (hn.later (hB.trans (hb.mono hB.size))) h0 h1 h2 h3
  have hd := (Below.refl W2.heap.size W2).drew
  clear hcell
  simp only [NM.val, MT.val, MT.op, MT.n, MT.A, MT.args, MT.c, List.length_cons, List.length_nil, Nat.reduceAdd] at hih0 hrole hW2 hb0 ⊢
  rcases hop with rfl | rfl
  all_goals
    go_enter Tryd.func30, Tryd.ntmps30
    go_wp2_with fail
    go_region_held (fun w' => (w'.cell? ⟨w.heap.size, 0, none⟩ = some (.slice n.C.A n.C.l.length n.C.c) ∧ w'.cell? ⟨w.heap.size, 1, none⟩ = some (.slice n.R.A n.R.l.length n.R.c) ∧ w'.cell? ⟨w.heap.size, 2, none⟩ = some (.slice n.I.A n.I.l.length n.I.c)) ∧ w'.cell? ⟨w.heap.size + 1, 1, none⟩ = some (.int .i64 nn) ∧ w'.cell? ⟨w.heap.size + 1, 2, none⟩ = some (.slice (some ⟨ab, aoff, none⟩) 1 c) ∧
      w'.cell? ⟨ab, aoff, none⟩ = some (.int .i64 T0.op) ∧ w'.cell? ⟨ab, aoff + 1, none⟩ = some (.int .i64 T0.n) ∧ w'.cell? ⟨ab, aoff + 2, none⟩ = some (.slice T0.A T0.args.length T0.c))
      (first | exact hS2 _ hd | exact hS2 _ hb3 | exact hS2 _ hb5)
      (first | (go_at_call 30; refine (hih0 _ hb3).mono ?_; rintro e w5 ⟨⟨s5, rfl, hs5⟩, hb5'⟩; have hb5 := thn hb3 hb5'; have hsz5 : s5.size ≤ 1000000000 := (by rw [← data_size, hs5]; omega)) | (go_at_call 60; refine (hrole _ hd).mono ?_; rintro e w3 ⟨⟨s3, rfl, hs3⟩, hb3'⟩; have hb3 := thn hd hb3'; have hsz3 : s3.size ≤ 1000000000 := (by rw [← data_size, hs3]; omega)))
    all_goals
      go_wp2
      go_ret
      exact ⟨⟨_, rfl, by simp only [bytes_app, hs3, hs5]; rfl⟩, hB.trans (hb5.mono hB.size)⟩

theorem rString_any (n : NM) (h2 : n.R.l.length ≤ 1000) (h3 : ∀ x ∈ n.R.l, x.size ≤ 1000) : ∀ T : MT, MT.VT n.C.l.length n.R.l.length T → RSt n T := by
  intro T
  induction T using MT.induct with
  | h op nn A c args ih =>
    intro hv
    rw [MT.VT] at hv
    obtain ⟨hw, hs⟩ := hv
    simp only [wfB, Bool.and_eq_true, decide_eq_true_eq, beq_iff_eq] at hw
    obtain ⟨h0, h8, hl, hn0, hn1⟩ := hw
    rcases (show op = 0 ∨ (op = 1 ∨ op = 2) ∨ op = 3 ∨ (op = 4 ∨ op = 5) ∨ (op = 6 ∨ op = 7) by omega) with rfl | h | rfl | h | h
    · exact rstr0 n nn A c args hn0 (by simpa [choicesF] using hn1)
    · exact rstr12 n op nn h A c args
    · rw [arityF, if_pos (by omega)] at hl
      obtain ⟨T0, rfl⟩ := List.length_eq_one_iff.1 (show args.length = 1 by omega)
      exact rstr3 n nn A c T0 (ih 0 Nat.zero_lt_one (hs.at_ 0 Nat.zero_lt_one))
    · rw [arityF, if_neg (by omega), if_pos (by omega)] at hl
      obtain ⟨T0, T1, rfl⟩ : ∃ T0 T1, args = [T0, T1] := by
        match args, hl with
        | [a, b], _ => exact ⟨a, b, rfl⟩
      exact rstr45 n op nn h A c T0 T1 (ih 0 (show 0 < 2 by omega) (hs.at_ 0 (show 0 < 2 by omega))) (ih 1 (show 1 < 2 by omega) (hs.at_ 1 (show 1 < 2 by omega)))
    · rw [arityF, if_pos (by omega)] at hl
      obtain ⟨T0, rfl⟩ := List.length_eq_one_iff.1 (show args.length = 1 by omega)
      rw [choicesF, if_neg (by omega), if_pos (by omega)] at hn1
      exact rstr67 n op nn h A c T0 (ih 0 Nat.zero_lt_one (hs.at_ 0 Nat.zero_lt_one)) hn0 hn1 h2 h3
end Go.Proofs.YtfecjdffnklkaaaDoor
