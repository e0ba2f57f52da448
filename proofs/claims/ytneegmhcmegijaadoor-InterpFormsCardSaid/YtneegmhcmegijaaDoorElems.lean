import Derived.Test.YtneegmhcmegijaaDoorWorld
import Derived.Test.YtneegmhcmegijaaDoorRef5
import Derived.StillTailTactics
import Derived.Deep.RegionHeldLaw
import Derived.Deep.RegionHeld3
namespace Go.Proofs.YtneegmhcmegijaaDoor
open Go.RowKit

/-- What belongs to a concept, by what belongs to its parts. -/
def comb (i : IN) (m : Nat) (op n : Int) (l : List (Nat → Bool)) : Nat → Bool :=
  if op = 0 then namesF i n.toNat
  else if op = 1 then fun x => decide (x < m)
  else if op = 2 then fun _ => false
  else if op = 3 then fun x => decide (x < m) && !(l.headD fun _ => false) x
  else if op = 4 then fun x => (l.headD fun _ => false) x && ((l.drop 1).headD fun _ => false) x
  else if op = 5 then fun x => (l.headD fun _ => false) x || ((l.drop 1).headD fun _ => false) x
  else if op = 6 then fun x => decide (x < m) && meetB (endsF i n.toNat x) (l.headD fun _ => false)
  else fun x => decide (x < m) && subB (endsF i n.toNat x) (l.headD fun _ => false)
mutual
/-- THE ELEMENTS OF A CONCEPT. -/
def semT (i : IN) (m : Nat) : Tr → Nat → Bool
  | .mk op n args => comb i m op n (semL i m args)
def semL (i : IN) (m : Nat) : List Tr → List (Nat → Bool)
  | [] => []
  | t :: ts => semT i m t :: semL i m ts
end

/-- What a method reads of the world. -/
theorem WL.all {w : World} {b n : Nat} {i : IN} (h : WL w b i n) : ∃ (s0 s1 s2 s3 : Nat), SW (fun x => decide (x < n)) s0 s1 s2 s3 ∧ b < w.heap.size ∧ w.cell? ⟨b, 0, none⟩ = some (.int .u64 (s0 : Nat)) ∧ w.cell? ⟨b, 1, none⟩ = some (.int .u64 (s1 : Nat)) ∧ w.cell? ⟨b, 2, none⟩ = some (.int .u64 (s2 : Nat)) ∧ w.cell? ⟨b, 3, none⟩ = some (.int .u64 (s3 : Nat)) := by
  obtain ⟨s0, s1, s2, s3, v, v2, v3, eg, lo, h1, h2, -⟩ := h
  exact ⟨s0, s1, s2, s3, h2, (Array.getElem?_eq_some_iff.1 h1).1, cell_of_blk h1 0, cell_of_blk h1 1, cell_of_blk h1 2, cell_of_blk h1 3⟩
theorem WL.name {w : World} {b n : Nat} {i : IN} (h : WL w b i n) {k : Nat} (hk : k < i.C.length) : ∃ (g cap a b' c d : Nat), SW (namesF i k) a b' c d ∧ b < w.heap.size ∧ g < w.heap.size ∧ w.cell? ⟨b, 4, none⟩ = some (.slice (some ⟨g, 0, none⟩) i.C.length cap) ∧ w.cell? ⟨g, k * 4, none⟩ = some (.int .u64 (a : Nat)) ∧ w.cell? ⟨g, k * 4 + 1, none⟩ = some (.int .u64 (b' : Nat)) ∧ w.cell? ⟨g, k * 4 + 2, none⟩ = some (.int .u64 (c : Nat)) ∧ w.cell? ⟨g, k * 4 + 3, none⟩ = some (.int .u64 (d : Nat)) := by
  obtain ⟨s0, s1, s2, s3, v, v2, v3, eg, lo, h1, h2, h3, -⟩ := h
  rcases h3.2 with ⟨-, h0⟩ | ⟨g, cap, cur, rfl, hge, hheap, hrest⟩
  · omega
  · obtain ⟨a, b', c, d, hs⟩ := sw_of (namesF i k)
    have hc : ∀ j, j < 4 → w.cell? ⟨g, k * 4 + j, none⟩ = ([.int .u64 (a : Nat), .int .u64 (b' : Nat), .int .u64 (c : Nat), .int .u64 (d : Nat)] : List Value)[j]? := fun j hj => by
      have e := setCells_at (namesF i) hj hk
      rw [hs.cs] at e
      obtain ⟨u, hu⟩ : ∃ u, ([.int .u64 (a : Nat), .int .u64 (b' : Nat), .int .u64 (c : Nat), .int .u64 (d : Nat)] : List Value)[j]? = some u := ⟨_, List.getElem?_eq_getElem (by simpa using hj)⟩
      have hx := h3.cells (g := g) rfl (k * 4 + j) u (e.trans hu)
      rw [hu]
      rw [show (⟨g, 0, none⟩ : Addr).add (k * 4 + j) = ⟨g, k * 4 + j, none⟩ by unfold Addr.add; split <;> simp_all] at hx
      exact hx
    exact ⟨g, cap, a, b', c, d, hs, (Array.getElem?_eq_some_iff.1 h1).1, (Array.getElem?_eq_some_iff.1 hheap).1, cell_of_blk h1 4, hc 0 (by omega), hc 1 (by omega), hc 2 (by omega), hc 3 (by omega)⟩

/-- The two blocks of a method's call: the concept's box and the result's. -/
theorem meth_blks (T : MT) (w : World) : ∃ W1 W2, w.alloc (.cells #[.int .i64 T.op, .int .i64 T.n, .slice T.A T.args.length T.c] 27) = W1 ∧ W1.heap.size = w.heap.size + 1 ∧ W1.alloc (.cells #[.int .u64 0, .int .u64 0, .int .u64 0, .int .u64 0] 115) = W2 ∧ W2.heap.size = w.heap.size + 1 + 1 ∧ Below w.heap.size w W2 ∧
    (∀ w', Below W2.heap.size W2 w' → w'.cell? ⟨w.heap.size, 0, none⟩ = some (.int .i64 T.op) ∧ w'.cell? ⟨w.heap.size, 1, none⟩ = some (.int .i64 T.n) ∧ w'.cell? ⟨w.heap.size, 2, none⟩ = some (.slice T.A T.args.length T.c)) ∧
    (∀ w', Below W2.heap.size W2 w' → w'.heap[w.heap.size + 1]? = some (.cells #[.int .u64 0, .int .u64 0, .int .u64 0, .int .u64 0] 115)) := by
  obtain ⟨W1, hW1, hB1, hs1, hk1⟩ := newBlk w _ rfl #[.int .i64 T.op, .int .i64 T.n, .slice T.A T.args.length T.c] 27
  obtain ⟨W2, hW2, hB2, hs2, hk2⟩ := newBlk W1 _ hs1 #[.int .u64 0, .int .u64 0, .int .u64 0, .int .u64 0] 115
  have hk12 := (hB2.block w.heap.size (by omega)).trans hk1
  exact ⟨W1, W2, hW1, hs1, hW2, hs2, hB1.trans (hB2.mono (by omega)), fun w' hb => ⟨cell_of_blk (blk_lat hk12 hb) 0, cell_of_blk (blk_lat hk12 hb) 1, cell_of_blk (blk_lat hk12 hb) 2⟩, fun w' hb => blk_lat hk2 hb⟩
/-- The result's block at the store. -/
theorem blk4 {w : World} {b : Nat} {x0 x1 x2 x3 : Value} {t : TypeId} (h : w.heap[b]? = some (.cells #[x0, x1, x2, x3] t)) : (w.cell? ⟨b, 0, none⟩ = some x0 ∧ w.cell? ⟨b, 1, none⟩ = some x1 ∧ w.cell? ⟨b, 2, none⟩ = some x2 ∧ w.cell? ⟨b, 3, none⟩ = some x3) ∧ w.frozen? ⟨b, 0, none⟩ = false ∧ w.frozen? ⟨b, 1, none⟩ = false ∧ w.frozen? ⟨b, 2, none⟩ = false ∧ w.frozen? ⟨b, 3, none⟩ = false :=
  ⟨⟨cell_of_blk h 0, cell_of_blk h 1, cell_of_blk h 2, cell_of_blk h 3⟩, frozen_of_blk h 0, frozen_of_blk h 1, frozen_of_blk h 2, frozen_of_blk h 3⟩

theorem blk_drew {w : World} {b : Nat} {o : Obj} (h : w.heap[b]? = some o) : w.drew.heap[b]? = some o := h

set_option maxRecDepth 100000 in
set_option maxHeartbeats 2000000 in
theorem everything_any (i : IN) (m b : Nat) (T : MT) (w : World) (hw : WL w b i m) : Calls Tryd.prog 113 #[.pointer (some ⟨b, 0, none⟩), T.val] w (RetS3 (fun x => decide (x < m)) w) := by
  obtain ⟨W1, W2, hW1, hs1, hW2, hs2, hB, hcc, hcr⟩ := meth_blks T w
  obtain ⟨s0, s1, s2, s3, hsw, hbl, n0, n1, n2, n3⟩ := (hw.later hB).all
  obtain ⟨⟨r0, r1, r2, r3⟩, f0, f1, f2, f3⟩ := blk4 (hcr W2 (Below.refl _ _))
  obtain ⟨q1, q2⟩ := store4 (hcr W2 (Below.refl _ _)) (.int .u64 (s0 : Nat)) (.int .u64 (s1 : Nat)) (.int .u64 (s2 : Nat)) (.int .u64 (s3 : Nat))
  have hb4 := hB.trans (below_grown q2 (by omega) hB.size)
  simp only [MT.val]
  go_enter Tryd.func113, Tryd.ntmps113
  go_wp2
  generalize ((((W2.setCell ⟨w.heap.size + 1, 0, none⟩ (.int .u64 (s0 : Nat))).setCell ⟨w.heap.size + 1, 1, none⟩ (.int .u64 (s1 : Nat))).setCell ⟨w.heap.size + 1, 2, none⟩ (.int .u64 (s2 : Nat))).setCell ⟨w.heap.size + 1, 3, none⟩ (.int .u64 (s3 : Nat))) = w5 at q1 hb4 ⊢
  obtain ⟨⟨t0, t1, t2, t3⟩, -⟩ := blk4 q1
  refine bodyPost_ret (v := _) (by simp [results, Tryd.f113, go_sem, t0, t1, t2, t3]) rfl ⟨s0, s1, s2, s3, rfl, hsw, hb4⟩

set_option maxRecDepth 100000 in
set_option maxHeartbeats 2000000 in
theorem nothing_any (b : Nat) (T : MT) (w : World) : Calls Tryd.prog 114 #[.pointer (some ⟨b, 0, none⟩), T.val] w (RetS3 (fun _ => false) w) := by
  obtain ⟨W1, W2, hW1, hs1, hW2, hs2, hB, hcc, hcr⟩ := meth_blks T w
  obtain ⟨⟨r0, r1, r2, r3⟩, f0, f1, f2, f3⟩ := blk4 (hcr W2 (Below.refl _ _))
  obtain ⟨q1, q2⟩ := store4 (hcr W2 (Below.refl _ _)) (.int .u64 0) (.int .u64 0) (.int .u64 0) (.int .u64 0)
  have hb4 := hB.trans (below_grown q2 (by omega) hB.size)
  simp only [MT.val]
  go_enter Tryd.func114, Tryd.ntmps114
  go_wp2
  generalize ((((W2.setCell ⟨w.heap.size + 1, 0, none⟩ (.int .u64 0)).setCell ⟨w.heap.size + 1, 1, none⟩ (.int .u64 0)).setCell ⟨w.heap.size + 1, 2, none⟩ (.int .u64 0)).setCell ⟨w.heap.size + 1, 3, none⟩ (.int .u64 0)) = w5 at q1 hb4 ⊢
  obtain ⟨⟨t0, t1, t2, t3⟩, -⟩ := blk4 q1
  refine bodyPost_ret (v := _) (by simp [results, Tryd.f114, go_sem, t0, t1, t2, t3]) rfl ⟨0, 0, 0, 0, rfl, sw_none, hb4⟩

set_option maxRecDepth 100000 in
set_option maxHeartbeats 2000000 in
theorem named_any (i : IN) (m b : Nat) (T : MT) (w : World) (hw : WL w b i m) (k : Nat) (hn : T.n = k) (hk : k < i.C.length) : Calls Tryd.prog 112 #[.pointer (some ⟨b, 0, none⟩), T.val] w (RetS3 (namesF i k) w) := by
  obtain ⟨W1, W2, hW1, hs1, hW2, hs2, hB, hcc, hcr⟩ := meth_blks T w
  obtain ⟨g, cap, s0, s1, s2, s3, hsw, hbl, hgl, n4, n0, n1, n2, n3⟩ := (hw.later hB).name hk
  obtain ⟨c0, c1, c2⟩ := hcc W2 (Below.refl _ _)
  rw [hn] at c1
  have hkd := hcr W2 (Below.refl _ _)
  obtain ⟨⟨r0, r1, r2, r3⟩, f0, f1, f2, f3⟩ := blk4 hkd
  obtain ⟨q1, q2⟩ := store4 hkd (.int .u64 (s0 : Nat)) (.int .u64 (s1 : Nat)) (.int .u64 (s2 : Nat)) (.int .u64 (s3 : Nat))
  have hb4 := (hB.trans (below_grown q2 (by omega) hB.size)).drew
  have q1' := blk_drew q1
  have e4 : W2.drew.cell? ⟨b, 4, none⟩ = _ := n4
  have e0 : W2.drew.cell? ⟨g, k * 4, none⟩ = _ := n0
  have e1 : W2.drew.cell? ⟨g, k * 4 + 1, none⟩ = _ := n1
  have e2 : W2.drew.cell? ⟨g, k * 4 + 2, none⟩ = _ := n2
  have e3 : W2.drew.cell? ⟨g, k * 4 + 3, none⟩ = _ := n3
  have d1 : W2.drew.cell? ⟨w.heap.size, 1, none⟩ = _ := c1
  have h0I : (0 : Int) ≤ k := by omega
  have hlI : (k : Int) < i.C.length := by omega
  clear hn hcc hcr hw q2 hkd q1
  simp only [MT.val]
  go_enter Tryd.func112, Tryd.ntmps112
  go_wp2_with fail
  go_still_tail 8, (by kernel_rfl)
  go_wp2
  generalize (((((W2.setCell ⟨w.heap.size + 1, 0, none⟩ (.int .u64 (s0 : Nat))).setCell ⟨w.heap.size + 1, 1, none⟩ (.int .u64 (s1 : Nat))).setCell ⟨w.heap.size + 1, 2, none⟩ (.int .u64 (s2 : Nat))).setCell ⟨w.heap.size + 1, 3, none⟩ (.int .u64 (s3 : Nat)))).drew = w5 at q1' hb4 ⊢
  obtain ⟨⟨t0, t1, t2, t3⟩, -⟩ := blk4 q1'
  refine bodyPost_ret (v := _) (by simp [results, Tryd.f112, go_sem, t0, t1, t2, t3]) rfl ⟨s0, s1, s2, s3, rfl, hsw, hb4⟩
end Go.Proofs.YtneegmhcmegijaaDoor

namespace Go.Proofs.YtneegmhcmegijaaDoor
open Go.RowKit

set_option maxRecDepth 100000 in
set_option maxHeartbeats 4000000 in
theorem others_any (i : IN) (m b : Nat) (T : MT) (w : World) (hw : WL w b i m) (hT : T.In w.heap.size w) (hlen : 0 < T.args.length) (q0 : Nat → Bool)
    (hE0 : ∀ w', Below w.heap.size w w' → Calls Tryd.prog 71 #[.pointer (some ⟨b, 0, none⟩), T.args[0].val] w' (RetS3 q0 w')) :
    Calls Tryd.prog 115 #[.pointer (some ⟨b, 0, none⟩), T.val] w (RetS3 (fun x => decide (x < m) && !q0 x) w) := by
  obtain ⟨op, nn, A, c, args⟩ := T
  simp only [MT.args] at hlen hE0
  rw [MT.In] at hT
  obtain ⟨hlc, hc, hr, hrow⟩ := hT
  obtain ⟨W1, W2, hW1, hs1, hW2, hs2, hB, hcc, hcr⟩ := meth_blks (.mk op nn A c args) w
  simp only [MT.op, MT.n, MT.A, MT.args, MT.c] at hcc hW1
  obtain ⟨s0, s1, s2, s3, hsw, -, n0, n1, n2, n3⟩ := (hw.later hB).all
  have hbw : b < w.heap.size := by obtain ⟨-, -, -, -, -, h, -⟩ := hw.all; exact h
  have hbB : b < w.heap.size + 1 := by omega
  obtain ⟨ab, aoff, rfl, hab, g00, g01, g02⟩ := elem3 hr hB (show 0 < args.length by omega)
  simp only [Nat.zero_mul, Nat.add_zero] at g00 g01 g02
  have habB : ab < w.heap.size + 1 := by omega
  obtain ⟨T0, hT0⟩ : ∃ t, args[0] = t := ⟨_, rfl⟩
  rw [hT0] at g00 g01 g02 hE0
  obtain ⟨c0, c1, c2⟩ := hcc W2 (Below.refl _ _)
  have hS : ∀ w', Below (w.heap.size + 1) W2 w' → (w'.cell? ⟨b, 0, none⟩ = some (.int .u64 (s0 : Nat)) ∧ w'.cell? ⟨b, 1, none⟩ = some (.int .u64 (s1 : Nat)) ∧ w'.cell? ⟨b, 2, none⟩ = some (.int .u64 (s2 : Nat)) ∧ w'.cell? ⟨b, 3, none⟩ = some (.int .u64 (s3 : Nat))) ∧ w'.cell? ⟨w.heap.size, 2, none⟩ = some (.slice (some ⟨ab, aoff, none⟩) args.length c) ∧ (w'.cell? ⟨ab, aoff, none⟩ = some (.int .i64 T0.op) ∧ w'.cell? ⟨ab, aoff + 1, none⟩ = some (.int .i64 T0.n) ∧ w'.cell? ⟨ab, aoff + 2, none⟩ = some (.slice T0.A T0.args.length T0.c)) := fun w' hb => ⟨⟨(hb.cell (p := ⟨b, 0, none⟩) hbB).trans n0, (hb.cell (p := ⟨b, 1, none⟩) hbB).trans n1, (hb.cell (p := ⟨b, 2, none⟩) hbB).trans n2, (hb.cell (p := ⟨b, 3, none⟩) hbB).trans n3⟩, (hb.cell (p := ⟨w.heap.size, 2, none⟩) (Nat.lt_succ_self _)).trans c2, ⟨(hb.cell (p := ⟨ab, aoff, none⟩) habB).trans g00, (hb.cell (p := ⟨ab, aoff + 1, none⟩) habB).trans g01, (hb.cell (p := ⟨ab, aoff + 2, none⟩) habB).trans g02⟩⟩
  have hd : Below W2.heap.size W2 W2.drew := (Below.refl _ W2).drew
  have hdS : Below (w.heap.size + 1) W2 W2.drew := hd.mono (by omega)
  have hel0 := hE0 W2.drew hB.drew
  have hlI : (0 : Int) < args.length := by omega
  have hlI1 : (0 : Int) < args.length := by omega
  have HB := Lib.hid hB
  have HSW := Lib.hid hsw
  have HCR := Lib.hid hcr
  simp only [MT.val, MT.op, MT.n, MT.A, MT.args, MT.c] at hel0  ⊢
  clear hE0 hw hr hrow hB hcr hcc hsw hlc hc n0 n1 n2 n3 c0 c1 c2 g00 g01 g02 hT0 hd
  go_enter Tryd.func115, Tryd.ntmps115
  go_wp2_with fail
  go_region_held (fun w' => (w'.cell? ⟨b, 0, none⟩ = some (.int .u64 (s0 : Nat)) ∧ w'.cell? ⟨b, 1, none⟩ = some (.int .u64 (s1 : Nat)) ∧ w'.cell? ⟨b, 2, none⟩ = some (.int .u64 (s2 : Nat)) ∧ w'.cell? ⟨b, 3, none⟩ = some (.int .u64 (s3 : Nat))) ∧ w'.cell? ⟨w.heap.size, 2, none⟩ = some (.slice (some ⟨ab, aoff, none⟩) args.length c) ∧ (w'.cell? ⟨ab, aoff, none⟩ = some (.int .i64 T0.op) ∧ w'.cell? ⟨ab, aoff + 1, none⟩ = some (.int .i64 T0.n) ∧ w'.cell? ⟨ab, aoff + 2, none⟩ = some (.slice T0.A T0.args.length T0.c)))
    (first | exact hS _ hdS | exact hS _ hb3S | exact hS _ hb9S | exact hS _ hbS)
    (first
      | (go_at_call 144; refine (bMinus_sw HSW.out hswE0 w3).mono ?_; rintro e w4 ⟨a9, b9, c9, d9, rfl, hsw9, hb9'⟩; have hb9 := hb3.trans (hb9'.mono hb3.size); have hb9S : Below (w.heap.size + 1) W2 w4 := hb9.mono (by omega); have hkR := HCR.out w4 hb9; obtain ⟨⟨y0, y1, y2, y3⟩, z0, z1, z2, z3⟩ := blk4 hkR; obtain ⟨q9, q10⟩ := store4 hkR (.int .u64 (a9 : Nat)) (.int .u64 (b9 : Nat)) (.int .u64 (c9 : Nat)) (.int .u64 (d9 : Nat)); have hbS := hb9S.trans (below_grown q10 (Nat.le_refl _) (by have := hb9.size; omega)))
      | (go_at_call 71; refine hel0.mono ?_; rintro e w3 ⟨a3, b3, c3, d3, rfl, hswE0, hb3'⟩; have hb3 : Below W2.heap.size W2 w3 := ((Below.refl W2.heap.size W2).drew).trans hb3'; have hb3S : Below (w.heap.size + 1) W2 w3 := hb3.mono (by omega)))
  go_wp2
  have hbE := HB.out.trans (hbS.mono (by omega))
  generalize ((((w4.setCell ⟨w.heap.size + 1, 0, none⟩ (.int .u64 (a9 : Nat))).setCell ⟨w.heap.size + 1, 1, none⟩ (.int .u64 (b9 : Nat))).setCell ⟨w.heap.size + 1, 2, none⟩ (.int .u64 (c9 : Nat))).setCell ⟨w.heap.size + 1, 3, none⟩ (.int .u64 (d9 : Nat))) = w10 at q9 hbE ⊢
  obtain ⟨⟨t0, t1, t2, t3⟩, -⟩ := blk4 q9
  refine bodyPost_ret (v := _) (by simp [results, Tryd.f115, go_sem, t0, t1, t2, t3]) rfl ⟨a9, b9, c9, d9, rfl, hsw9, hbE⟩

set_option maxRecDepth 100000 in
set_option maxHeartbeats 4000000 in
theorem both_any (i : IN) (m b : Nat) (T : MT) (w : World) (hw : WL w b i m) (hT : T.In w.heap.size w) (hlen : 1 < T.args.length) (q0 q1 : Nat → Bool)
    (hE0 : ∀ w', Below w.heap.size w w' → Calls Tryd.prog 71 #[.pointer (some ⟨b, 0, none⟩), T.args[0].val] w' (RetS3 q0 w'))
    (hE1 : ∀ w', Below w.heap.size w w' → Calls Tryd.prog 71 #[.pointer (some ⟨b, 0, none⟩), T.args[1].val] w' (RetS3 q1 w')) :
    Calls Tryd.prog 116 #[.pointer (some ⟨b, 0, none⟩), T.val] w (RetS3 (fun x => q0 x && q1 x) w) := by
  obtain ⟨op, nn, A, c, args⟩ := T
  simp only [MT.args] at hlen hE0 hE1
  rw [MT.In] at hT
  obtain ⟨hlc, hc, hr, hrow⟩ := hT
  obtain ⟨W1, W2, hW1, hs1, hW2, hs2, hB, hcc, hcr⟩ := meth_blks (.mk op nn A c args) w
  simp only [MT.op, MT.n, MT.A, MT.args, MT.c] at hcc hW1
  obtain ⟨s0, s1, s2, s3, hsw, -, n0, n1, n2, n3⟩ := (hw.later hB).all
  have hbw : b < w.heap.size := by obtain ⟨-, -, -, -, -, h, -⟩ := hw.all; exact h
  have hbB : b < w.heap.size + 1 := by omega
  obtain ⟨ab, aoff, rfl, hab, g00, g01, g02⟩ := elem3 hr hB (show 0 < args.length by omega)
  simp only [Nat.zero_mul, Nat.add_zero] at g00 g01 g02
  have habB : ab < w.heap.size + 1 := by omega
  obtain ⟨ab', aoff', he, -, g10, g11, g12⟩ := elem3 hr hB (show 1 < args.length by omega)
  cases he
  simp only [Nat.reduceMul] at g10 g11 g12
  obtain ⟨T0, hT0⟩ : ∃ t, args[0] = t := ⟨_, rfl⟩
  rw [hT0] at g00 g01 g02 hE0
  obtain ⟨T1, hT1⟩ : ∃ t, args[1] = t := ⟨_, rfl⟩
  rw [hT1] at g10 g11 g12 hE1
  obtain ⟨c0, c1, c2⟩ := hcc W2 (Below.refl _ _)
  have hS : ∀ w', Below (w.heap.size + 1) W2 w' → w'.cell? ⟨w.heap.size, 2, none⟩ = some (.slice (some ⟨ab, aoff, none⟩) args.length c) ∧ (w'.cell? ⟨ab, aoff, none⟩ = some (.int .i64 T0.op) ∧ w'.cell? ⟨ab, aoff + 1, none⟩ = some (.int .i64 T0.n) ∧ w'.cell? ⟨ab, aoff + 2, none⟩ = some (.slice T0.A T0.args.length T0.c)) ∧ (w'.cell? ⟨ab, aoff + 3, none⟩ = some (.int .i64 T1.op) ∧ w'.cell? ⟨ab, aoff + 3 + 1, none⟩ = some (.int .i64 T1.n) ∧ w'.cell? ⟨ab, aoff + 3 + 2, none⟩ = some (.slice T1.A T1.args.length T1.c)) := fun w' hb => ⟨(hb.cell (p := ⟨w.heap.size, 2, none⟩) (Nat.lt_succ_self _)).trans c2, ⟨(hb.cell (p := ⟨ab, aoff, none⟩) habB).trans g00, (hb.cell (p := ⟨ab, aoff + 1, none⟩) habB).trans g01, (hb.cell (p := ⟨ab, aoff + 2, none⟩) habB).trans g02⟩, ⟨(hb.cell (p := ⟨ab, aoff + 3, none⟩) habB).trans g10, (hb.cell (p := ⟨ab, aoff + 3 + 1, none⟩) habB).trans g11, (hb.cell (p := ⟨ab, aoff + 3 + 2, none⟩) habB).trans g12⟩⟩
  have hd : Below W2.heap.size W2 W2.drew := (Below.refl _ W2).drew
  have hdS : Below (w.heap.size + 1) W2 W2.drew := hd.mono (by omega)
  have hel0 := hE0 W2.drew hB.drew
  have hlI : (0 : Int) < args.length := by omega
  have hlI1 : (1 : Int) < args.length := by omega
  have HB := Lib.hid hB
  have HSW := Lib.hid hsw
  have HCR := Lib.hid hcr
  have HE1 := Lib.hid hE1
  simp only [MT.val, MT.op, MT.n, MT.A, MT.args, MT.c] at hel0 HE1 ⊢
  clear hE0 hE1 hw hr hrow hB hcr hcc hsw hlc hc n0 n1 n2 n3 c0 c1 c2 g00 g01 g02 hT0 g10 g11 g12 hT1 hd
  go_enter Tryd.func116, Tryd.ntmps116
  go_wp2_with fail
  go_region_held (fun w' => w'.cell? ⟨w.heap.size, 2, none⟩ = some (.slice (some ⟨ab, aoff, none⟩) args.length c) ∧ (w'.cell? ⟨ab, aoff, none⟩ = some (.int .i64 T0.op) ∧ w'.cell? ⟨ab, aoff + 1, none⟩ = some (.int .i64 T0.n) ∧ w'.cell? ⟨ab, aoff + 2, none⟩ = some (.slice T0.A T0.args.length T0.c)) ∧ (w'.cell? ⟨ab, aoff + 3, none⟩ = some (.int .i64 T1.op) ∧ w'.cell? ⟨ab, aoff + 3 + 1, none⟩ = some (.int .i64 T1.n) ∧ w'.cell? ⟨ab, aoff + 3 + 2, none⟩ = some (.slice T1.A T1.args.length T1.c)))
    (first | exact hS _ hdS | exact hS _ hb3S | exact hS _ hb4S | exact hS _ hb9S | exact hS _ hbS)
    (first
      | (go_at_call 145; refine (bAnd_sw hswE0 hswE1 w4).mono ?_; rintro e w5 ⟨a9, b9, c9, d9, rfl, hsw9, hb9'⟩; have hb9 := hb4.trans (hb9'.mono hb4.size); have hb9S : Below (w.heap.size + 1) W2 w5 := hb9.mono (by omega); have hkR := HCR.out w5 hb9; obtain ⟨⟨y0, y1, y2, y3⟩, z0, z1, z2, z3⟩ := blk4 hkR; obtain ⟨q9, q10⟩ := store4 hkR (.int .u64 (a9 : Nat)) (.int .u64 (b9 : Nat)) (.int .u64 (c9 : Nat)) (.int .u64 (d9 : Nat)); have hbS := hb9S.trans (below_grown q10 (Nat.le_refl _) (by have := hb9.size; omega)))
      | (go_at_call 71; first | (refine (HE1.out w3 (HB.out.trans (hb3.mono (by omega)))).mono ?_; rintro e w4 ⟨a4, b4, c4, d4, rfl, hswE1, hb4'⟩; have hb4 : Below W2.heap.size W2 w4 := hb3.trans (hb4'.mono hb3.size); have hb4S : Below (w.heap.size + 1) W2 w4 := hb4.mono (by omega)) | (refine hel0.mono ?_; rintro e w3 ⟨a3, b3, c3, d3, rfl, hswE0, hb3'⟩; have hb3 : Below W2.heap.size W2 w3 := ((Below.refl W2.heap.size W2).drew).trans hb3'; have hb3S : Below (w.heap.size + 1) W2 w3 := hb3.mono (by omega))))
  go_wp2
  have hbE := HB.out.trans (hbS.mono (by omega))
  generalize ((((w5.setCell ⟨w.heap.size + 1, 0, none⟩ (.int .u64 (a9 : Nat))).setCell ⟨w.heap.size + 1, 1, none⟩ (.int .u64 (b9 : Nat))).setCell ⟨w.heap.size + 1, 2, none⟩ (.int .u64 (c9 : Nat))).setCell ⟨w.heap.size + 1, 3, none⟩ (.int .u64 (d9 : Nat))) = w10 at q9 hbE ⊢
  obtain ⟨⟨t0, t1, t2, t3⟩, -⟩ := blk4 q9
  refine bodyPost_ret (v := _) (by simp [results, Tryd.f116, go_sem, t0, t1, t2, t3]) rfl ⟨a9, b9, c9, d9, rfl, hsw9, hbE⟩

set_option maxRecDepth 100000 in
set_option maxHeartbeats 4000000 in
theorem either_any (i : IN) (m b : Nat) (T : MT) (w : World) (hw : WL w b i m) (hT : T.In w.heap.size w) (hlen : 1 < T.args.length) (q0 q1 : Nat → Bool)
    (hE0 : ∀ w', Below w.heap.size w w' → Calls Tryd.prog 71 #[.pointer (some ⟨b, 0, none⟩), T.args[0].val] w' (RetS3 q0 w'))
    (hE1 : ∀ w', Below w.heap.size w w' → Calls Tryd.prog 71 #[.pointer (some ⟨b, 0, none⟩), T.args[1].val] w' (RetS3 q1 w')) :
    Calls Tryd.prog 117 #[.pointer (some ⟨b, 0, none⟩), T.val] w (RetS3 (fun x => q0 x || q1 x) w) := by
  obtain ⟨op, nn, A, c, args⟩ := T
  simp only [MT.args] at hlen hE0 hE1
  rw [MT.In] at hT
  obtain ⟨hlc, hc, hr, hrow⟩ := hT
  obtain ⟨W1, W2, hW1, hs1, hW2, hs2, hB, hcc, hcr⟩ := meth_blks (.mk op nn A c args) w
  simp only [MT.op, MT.n, MT.A, MT.args, MT.c] at hcc hW1
  obtain ⟨s0, s1, s2, s3, hsw, -, n0, n1, n2, n3⟩ := (hw.later hB).all
  have hbw : b < w.heap.size := by obtain ⟨-, -, -, -, -, h, -⟩ := hw.all; exact h
  have hbB : b < w.heap.size + 1 := by omega
  obtain ⟨ab, aoff, rfl, hab, g00, g01, g02⟩ := elem3 hr hB (show 0 < args.length by omega)
  simp only [Nat.zero_mul, Nat.add_zero] at g00 g01 g02
  have habB : ab < w.heap.size + 1 := by omega
  obtain ⟨ab', aoff', he, -, g10, g11, g12⟩ := elem3 hr hB (show 1 < args.length by omega)
  cases he
  simp only [Nat.reduceMul] at g10 g11 g12
  obtain ⟨T0, hT0⟩ : ∃ t, args[0] = t := ⟨_, rfl⟩
  rw [hT0] at g00 g01 g02 hE0
  obtain ⟨T1, hT1⟩ : ∃ t, args[1] = t := ⟨_, rfl⟩
  rw [hT1] at g10 g11 g12 hE1
  obtain ⟨c0, c1, c2⟩ := hcc W2 (Below.refl _ _)
  have hS : ∀ w', Below (w.heap.size + 1) W2 w' → w'.cell? ⟨w.heap.size, 2, none⟩ = some (.slice (some ⟨ab, aoff, none⟩) args.length c) ∧ (w'.cell? ⟨ab, aoff, none⟩ = some (.int .i64 T0.op) ∧ w'.cell? ⟨ab, aoff + 1, none⟩ = some (.int .i64 T0.n) ∧ w'.cell? ⟨ab, aoff + 2, none⟩ = some (.slice T0.A T0.args.length T0.c)) ∧ (w'.cell? ⟨ab, aoff + 3, none⟩ = some (.int .i64 T1.op) ∧ w'.cell? ⟨ab, aoff + 3 + 1, none⟩ = some (.int .i64 T1.n) ∧ w'.cell? ⟨ab, aoff + 3 + 2, none⟩ = some (.slice T1.A T1.args.length T1.c)) := fun w' hb => ⟨(hb.cell (p := ⟨w.heap.size, 2, none⟩) (Nat.lt_succ_self _)).trans c2, ⟨(hb.cell (p := ⟨ab, aoff, none⟩) habB).trans g00, (hb.cell (p := ⟨ab, aoff + 1, none⟩) habB).trans g01, (hb.cell (p := ⟨ab, aoff + 2, none⟩) habB).trans g02⟩, ⟨(hb.cell (p := ⟨ab, aoff + 3, none⟩) habB).trans g10, (hb.cell (p := ⟨ab, aoff + 3 + 1, none⟩) habB).trans g11, (hb.cell (p := ⟨ab, aoff + 3 + 2, none⟩) habB).trans g12⟩⟩
  have hd : Below W2.heap.size W2 W2.drew := (Below.refl _ W2).drew
  have hdS : Below (w.heap.size + 1) W2 W2.drew := hd.mono (by omega)
  have hel0 := hE0 W2.drew hB.drew
  have hlI : (0 : Int) < args.length := by omega
  have hlI1 : (1 : Int) < args.length := by omega
  have HB := Lib.hid hB
  have HSW := Lib.hid hsw
  have HCR := Lib.hid hcr
  have HE1 := Lib.hid hE1
  simp only [MT.val, MT.op, MT.n, MT.A, MT.args, MT.c] at hel0 HE1 ⊢
  clear hE0 hE1 hw hr hrow hB hcr hcc hsw hlc hc n0 n1 n2 n3 c0 c1 c2 g00 g01 g02 hT0 g10 g11 g12 hT1 hd
  go_enter Tryd.func117, Tryd.ntmps117
  go_wp2_with fail
  go_region_held (fun w' => w'.cell? ⟨w.heap.size, 2, none⟩ = some (.slice (some ⟨ab, aoff, none⟩) args.length c) ∧ (w'.cell? ⟨ab, aoff, none⟩ = some (.int .i64 T0.op) ∧ w'.cell? ⟨ab, aoff + 1, none⟩ = some (.int .i64 T0.n) ∧ w'.cell? ⟨ab, aoff + 2, none⟩ = some (.slice T0.A T0.args.length T0.c)) ∧ (w'.cell? ⟨ab, aoff + 3, none⟩ = some (.int .i64 T1.op) ∧ w'.cell? ⟨ab, aoff + 3 + 1, none⟩ = some (.int .i64 T1.n) ∧ w'.cell? ⟨ab, aoff + 3 + 2, none⟩ = some (.slice T1.A T1.args.length T1.c)))
    (first | exact hS _ hdS | exact hS _ hb3S | exact hS _ hb4S | exact hS _ hb9S | exact hS _ hbS)
    (first
      | (go_at_call 146; refine (bOr_sw hswE0 hswE1 w4).mono ?_; rintro e w5 ⟨a9, b9, c9, d9, rfl, hsw9, hb9'⟩; have hb9 := hb4.trans (hb9'.mono hb4.size); have hb9S : Below (w.heap.size + 1) W2 w5 := hb9.mono (by omega); have hkR := HCR.out w5 hb9; obtain ⟨⟨y0, y1, y2, y3⟩, z0, z1, z2, z3⟩ := blk4 hkR; obtain ⟨q9, q10⟩ := store4 hkR (.int .u64 (a9 : Nat)) (.int .u64 (b9 : Nat)) (.int .u64 (c9 : Nat)) (.int .u64 (d9 : Nat)); have hbS := hb9S.trans (below_grown q10 (Nat.le_refl _) (by have := hb9.size; omega)))
      | (go_at_call 71; first | (refine (HE1.out w3 (HB.out.trans (hb3.mono (by omega)))).mono ?_; rintro e w4 ⟨a4, b4, c4, d4, rfl, hswE1, hb4'⟩; have hb4 : Below W2.heap.size W2 w4 := hb3.trans (hb4'.mono hb3.size); have hb4S : Below (w.heap.size + 1) W2 w4 := hb4.mono (by omega)) | (refine hel0.mono ?_; rintro e w3 ⟨a3, b3, c3, d3, rfl, hswE0, hb3'⟩; have hb3 : Below W2.heap.size W2 w3 := ((Below.refl W2.heap.size W2).drew).trans hb3'; have hb3S : Below (w.heap.size + 1) W2 w3 := hb3.mono (by omega))))
  go_wp2
  have hbE := HB.out.trans (hbS.mono (by omega))
  generalize ((((w5.setCell ⟨w.heap.size + 1, 0, none⟩ (.int .u64 (a9 : Nat))).setCell ⟨w.heap.size + 1, 1, none⟩ (.int .u64 (b9 : Nat))).setCell ⟨w.heap.size + 1, 2, none⟩ (.int .u64 (c9 : Nat))).setCell ⟨w.heap.size + 1, 3, none⟩ (.int .u64 (d9 : Nat))) = w10 at q9 hbE ⊢
  obtain ⟨⟨t0, t1, t2, t3⟩, -⟩ := blk4 q9
  refine bodyPost_ret (v := _) (by simp [results, Tryd.f117, go_sem, t0, t1, t2, t3]) rfl ⟨a9, b9, c9, d9, rfl, hsw9, hbE⟩

end Go.Proofs.YtneegmhcmegijaaDoor
