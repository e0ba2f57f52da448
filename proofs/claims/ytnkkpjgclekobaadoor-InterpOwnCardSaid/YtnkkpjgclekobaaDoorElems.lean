import Derived.Test.YtnkkpjgclekobaaDoorWorld
import Derived.Test.YtnkkpjgclekobaaDoorRef5
import Derived.StillTailTactics
import Derived.Deep.RegionHeldLaw
import Derived.Deep.RegionHeld3
import Derived.Test.YtnkkpjgclekobaaDoorIPairs
import Derived.Deep.QuietTactic
namespace Go.Proofs.YtnkkpjgclekobaaDoor
open Go.RowKit

/-- What belongs to a concept, by what belongs to its parts. -/
def comb (i : IN) (m : Nat) (op n : Int) (l : List (Nat → Bool)) : Nat → Bool :=
  if op = 0 then namesF i n.toNat
  else if op = 1 then fun x => decide (x < m)
  else if op = 2 then fun _ => false
  else if op = 3 then fun x => decide (x < m) && !(l.headD fun _ => false) x
  else if op = 4 then fun x => (l.headD fun _ => false) x && ((l.drop 1).headD fun _ => false) x
  else if op = 5 then fun x => (l.headD fun _ => false) x || ((l.drop 1).headD fun _ => false) x
  else if op = 6 then fun x => decide (x < m) && meetB (endsF i n.toNat x) (l.headD fun _ => false)
  else fun x => decide (x < m) && subB (endsF i n.toNat x) (l.headD fun _ => false)
mutual
/-- THE ELEMENTS OF A CONCEPT. -/
def semT (i : IN) (m : Nat) : Tr → Nat → Bool
  | .mk op n args => comb i m op n (semL i m args)
def semL (i : IN) (m : Nat) : List Tr → List (Nat → Bool)
  | [] => []
  | t :: ts => semT i m t :: semL i m ts
end

/-- What a method reads of the world. -/
theorem WL.all {w : World} {b n : Nat} {i : IN} (h : WL w b i n) : ∃ (s0 s1 s2 s3 : Nat), SW (fun x => decide (x < n)) s0 s1 s2 s3 ∧ b < w.heap.size ∧ w.cell? ⟨b, 0, none⟩ = some (.int .u64 (s0 : Nat)) ∧ w.cell? ⟨b, 1, none⟩ = some (.int .u64 (s1 : Nat)) ∧ w.cell? ⟨b, 2, none⟩ = some (.int .u64 (s2 : Nat)) ∧ w.cell? ⟨b, 3, none⟩ = some (.int .u64 (s3 : Nat)) := by
  obtain ⟨s0, s1, s2, s3, v, v2, v3, eg, lo, h1, h2, -⟩ := h
  exact ⟨s0, s1, s2, s3, h2, (Array.getElem?_eq_some_iff.1 h1).1, cell_of_blk h1 0, cell_of_blk h1 1, cell_of_blk h1 2, cell_of_blk h1 3⟩
theorem WL.name {w : World} {b n : Nat} {i : IN} (h : WL w b i n) {k : Nat} (hk : k < i.C.length) : ∃ (g cap a b' c d : Nat), SW (namesF i k) a b' c d ∧ b < w.heap.size ∧ g < w.heap.size ∧ w.cell? ⟨b, 4, none⟩ = some (.slice (some ⟨g, 0, none⟩) i.C.length cap) ∧ w.cell? ⟨g, k * 4, none⟩ = some (.int .u64 (a : Nat)) ∧ w.cell? ⟨g, k * 4 + 1, none⟩ = some (.int .u64 (b' : Nat)) ∧ w.cell? ⟨g, k * 4 + 2, none⟩ = some (.int .u64 (c : Nat)) ∧ w.cell? ⟨g, k * 4 + 3, none⟩ = some (.int .u64 (d : Nat)) := by
  obtain ⟨s0, s1, s2, s3, v, v2, v3, eg, lo, h1, h2, h3, -⟩ := h
  rcases h3.2 with ⟨-, h0⟩ | ⟨g, cap, cur, rfl, hge, hheap, hrest⟩
  · omega
  · obtain ⟨a, b', c, d, hs⟩ := sw_of (namesF i k)
    have hc : ∀ j, j < 4 → w.cell? ⟨g, k * 4 + j, none⟩ = ([.int .u64 (a : Nat), .int .u64 (b' : Nat), .int .u64 (c : Nat), .int .u64 (d : Nat)] : List Value)[j]? := fun j hj => by
      have e := setCells_at (namesF i) hj hk
      rw [hs.cs] at e
      obtain ⟨u, hu⟩ : ∃ u, ([.int .u64 (a : Nat), .int .u64 (b' : Nat), .int .u64 (c : Nat), .int .u64 (d : Nat)] : List Value)[j]? = some u := ⟨_, List.getElem?_eq_getElem (by simpa using hj)⟩
      have hx := h3.cells (g := g) rfl (k * 4 + j) u (e.trans hu)
      rw [hu]
      rw [show (⟨g, 0, none⟩ : Addr).add (k * 4 + j) = ⟨g, k * 4 + j, none⟩ by unfold Addr.add; split <;> simp_all] at hx
      exact hx
    exact ⟨g, cap, a, b', c, d, hs, (Array.getElem?_eq_some_iff.1 h1).1, (Array.getElem?_eq_some_iff.1 hheap).1, cell_of_blk h1 4, hc 0 (by omega), hc 1 (by omega), hc 2 (by omega), hc 3 (by omega)⟩

/-- The two blocks of a method's call: the concept's box and the result's. -/
theorem meth_blks (T : MT) (w : World) : ∃ W1 W2, w.alloc (.cells #[.int .i64 T.op, .int .i64 T.n, .slice T.A T.args.length T.c] 27) = W1 ∧ W1.heap.size = w.heap.size + 1 ∧ W1.alloc (.cells #[.int .u64 0, .int .u64 0, .int .u64 0, .int .u64 0] 111) = W2 ∧ W2.heap.size = w.heap.size + 1 + 1 ∧ Below w.heap.size w W2 ∧
    (∀ w', Below W2.heap.size W2 w' → w'.cell? ⟨w.heap.size, 0, none⟩ = some (.int .i64 T.op) ∧ w'.cell? ⟨w.heap.size, 1, none⟩ = some (.int .i64 T.n) ∧ w'.cell? ⟨w.heap.size, 2, none⟩ = some (.slice T.A T.args.length T.c)) ∧
    (∀ w', Below W2.heap.size W2 w' → w'.heap[w.heap.size + 1]? = some (.cells #[.int .u64 0, .int .u64 0, .int .u64 0, .int .u64 0] 111)) := by
  obtain ⟨W1, hW1, hB1, hs1, hk1⟩ := newBlk w _ rfl #[.int .i64 T.op, .int .i64 T.n, .slice T.A T.args.length T.c] 27
  obtain ⟨W2, hW2, hB2, hs2, hk2⟩ := newBlk W1 _ hs1 #[.int .u64 0, .int .u64 0, .int .u64 0, .int .u64 0] 111
  have hk12 := (hB2.block w.heap.size (by omega)).trans hk1
  exact ⟨W1, W2, hW1, hs1, hW2, hs2, hB1.trans (hB2.mono (by omega)), fun w' hb => ⟨cell_of_blk (blk_lat hk12 hb) 0, cell_of_blk (blk_lat hk12 hb) 1, cell_of_blk (blk_lat hk12 hb) 2⟩, fun w' hb => blk_lat hk2 hb⟩
/-- The result's block at the store. -/
theorem blk4 {w : World} {b : Nat} {x0 x1 x2 x3 : Value} {t : TypeId} (h : w.heap[b]? = some (.cells #[x0, x1, x2, x3] t)) : (w.cell? ⟨b, 0, none⟩ = some x0 ∧ w.cell? ⟨b, 1, none⟩ = some x1 ∧ w.cell? ⟨b, 2, none⟩ = some x2 ∧ w.cell? ⟨b, 3, none⟩ = some x3) ∧ w.frozen? ⟨b, 0, none⟩ = false ∧ w.frozen? ⟨b, 1, none⟩ = false ∧ w.frozen? ⟨b, 2, none⟩ = false ∧ w.frozen? ⟨b, 3, none⟩ = false :=
  ⟨⟨cell_of_blk h 0, cell_of_blk h 1, cell_of_blk h 2, cell_of_blk h 3⟩, frozen_of_blk h 0, frozen_of_blk h 1, frozen_of_blk h 2, frozen_of_blk h 3⟩

theorem blk_drew {w : World} {b : Nat} {o : Obj} (h : w.heap[b]? = some o) : w.drew.heap[b]? = some o := h

set_option maxRecDepth 100000 in
set_option maxHeartbeats 2000000 in
theorem everything_any (i : IN) (m b : Nat) (T : MT) (w : World) (hw : WL w b i m) : Calls Tryd.prog 92 #[.pointer (some ⟨b, 0, none⟩), T.val] w (RetS3 (fun x => decide (x < m)) w) := by
  obtain ⟨W1, W2, hW1, hs1, hW2, hs2, hB, hcc, hcr⟩ := meth_blks T w
  obtain ⟨s0, s1, s2, s3, hsw, hbl, n0, n1, n2, n3⟩ := (hw.later hB).all
  obtain ⟨⟨r0, r1, r2, r3⟩, f0, f1, f2, f3⟩ := blk4 (hcr W2 (Below.refl _ _))
  obtain ⟨q1, q2⟩ := store4 (hcr W2 (Below.refl _ _)) (.int .u64 (s0 : Nat)) (.int .u64 (s1 : Nat)) (.int .u64 (s2 : Nat)) (.int .u64 (s3 : Nat))
  have hb4 := hB.trans (below_grown q2 (by omega) hB.size)
  simp only [MT.val]
  go_enter Tryd.func92, Tryd.ntmps92
  go_wp2
  generalize ((((W2.setCell ⟨w.heap.size + 1, 0, none⟩ (.int .u64 (s0 : Nat))).setCell ⟨w.heap.size + 1, 1, none⟩ (.int .u64 (s1 : Nat))).setCell ⟨w.heap.size + 1, 2, none⟩ (.int .u64 (s2 : Nat))).setCell ⟨w.heap.size + 1, 3, none⟩ (.int .u64 (s3 : Nat))) = w5 at q1 hb4 ⊢
  obtain ⟨⟨t0, t1, t2, t3⟩, -⟩ := blk4 q1
  refine bodyPost_ret (v := _) (by simp [results, Tryd.f92, go_sem, t0, t1, t2, t3]) rfl ⟨s0, s1, s2, s3, rfl, hsw, hb4⟩

set_option maxRecDepth 100000 in
set_option maxHeartbeats 2000000 in
theorem nothing_any (b : Nat) (T : MT) (w : World) : Calls Tryd.prog 93 #[.pointer (some ⟨b, 0, none⟩), T.val] w (RetS3 (fun _ => false) w) := by
  obtain ⟨W1, W2, hW1, hs1, hW2, hs2, hB, hcc, hcr⟩ := meth_blks T w
  obtain ⟨⟨r0, r1, r2, r3⟩, f0, f1, f2, f3⟩ := blk4 (hcr W2 (Below.refl _ _))
  obtain ⟨q1, q2⟩ := store4 (hcr W2 (Below.refl _ _)) (.int .u64 0) (.int .u64 0) (.int .u64 0) (.int .u64 0)
  have hb4 := hB.trans (below_grown q2 (by omega) hB.size)
  simp only [MT.val]
  go_enter Tryd.func93, Tryd.ntmps93
  go_wp2
  generalize ((((W2.setCell ⟨w.heap.size + 1, 0, none⟩ (.int .u64 0)).setCell ⟨w.heap.size + 1, 1, none⟩ (.int .u64 0)).setCell ⟨w.heap.size + 1, 2, none⟩ (.int .u64 0)).setCell ⟨w.heap.size + 1, 3, none⟩ (.int .u64 0)) = w5 at q1 hb4 ⊢
  obtain ⟨⟨t0, t1, t2, t3⟩, -⟩ := blk4 q1
  refine bodyPost_ret (v := _) (by simp [results, Tryd.f93, go_sem, t0, t1, t2, t3]) rfl ⟨0, 0, 0, 0, rfl, sw_none, hb4⟩

set_option maxRecDepth 100000 in
set_option maxHeartbeats 2000000 in
theorem named_any (i : IN) (m b : Nat) (T : MT) (w : World) (hw : WL w b i m) (k : Nat) (hn : T.n = k) (hk : k < i.C.length) : Calls Tryd.prog 91 #[.pointer (some ⟨b, 0, none⟩), T.val] w (RetS3 (namesF i k) w) := by
  obtain ⟨W1, W2, hW1, hs1, hW2, hs2, hB, hcc, hcr⟩ := meth_blks T w
  obtain ⟨g, cap, s0, s1, s2, s3, hsw, hbl, hgl, n4, n0, n1, n2, n3⟩ := (hw.later hB).name hk
  obtain ⟨c0, c1, c2⟩ := hcc W2 (Below.refl _ _)
  rw [hn] at c1
  have hkd := hcr W2 (Below.refl _ _)
  obtain ⟨⟨r0, r1, r2, r3⟩, f0, f1, f2, f3⟩ := blk4 hkd
  obtain ⟨q1, q2⟩ := store4 hkd (.int .u64 (s0 : Nat)) (.int .u64 (s1 : Nat)) (.int .u64 (s2 : Nat)) (.int .u64 (s3 : Nat))
  have hb4 := (hB.trans (below_grown q2 (by omega) hB.size)).drew
  have q1' := blk_drew q1
  have e4 : W2.drew.cell? ⟨b, 4, none⟩ = _ := n4
  have e0 : W2.drew.cell? ⟨g, k * 4, none⟩ = _ := n0
  have e1 : W2.drew.cell? ⟨g, k * 4 + 1, none⟩ = _ := n1
  have e2 : W2.drew.cell? ⟨g, k * 4 + 2, none⟩ = _ := n2
  have e3 : W2.drew.cell? ⟨g, k * 4 + 3, none⟩ = _ := n3
  have d1 : W2.drew.cell? ⟨w.heap.size, 1, none⟩ = _ := c1
  have h0I : (0 : Int) ≤ k := by omega
  have hlI : (k : Int) < i.C.length := by omega
  clear hn hcc hcr hw q2 hkd q1
  simp only [MT.val]
  go_enter Tryd.func91, Tryd.ntmps91
  go_wp2_with fail
  go_still_tail 8, (by kernel_rfl)
  go_wp2
  generalize (((((W2.setCell ⟨w.heap.size + 1, 0, none⟩ (.int .u64 (s0 : Nat))).setCell ⟨w.heap.size + 1, 1, none⟩ (.int .u64 (s1 : Nat))).setCell ⟨w.heap.size + 1, 2, none⟩ (.int .u64 (s2 : Nat))).setCell ⟨w.heap.size + 1, 3, none⟩ (.int .u64 (s3 : Nat)))).drew = w5 at q1' hb4 ⊢
  obtain ⟨⟨t0, t1, t2, t3⟩, -⟩ := blk4 q1'
  refine bodyPost_ret (v := _) (by simp [results, Tryd.f91, go_sem, t0, t1, t2, t3]) rfl ⟨s0, s1, s2, s3, rfl, hsw, hb4⟩
end Go.Proofs.YtnkkpjgclekobaaDoor

namespace Go.Proofs.YtnkkpjgclekobaaDoor
open Go.RowKit

set_option maxRecDepth 100000 in
set_option maxHeartbeats 4000000 in
theorem others_any (i : IN) (m b : Nat) (T : MT) (w : World) (hw : WL w b i m) (hT : T.In w.heap.size w) (hlen : 0 < T.args.length) (q0 : Nat → Bool)
    (hE0 : ∀ w', Below w.heap.size w w' → Calls Tryd.prog 59 #[.pointer (some ⟨b, 0, none⟩), T.args[0].val] w' (RetS3 q0 w')) :
    Calls Tryd.prog 94 #[.pointer (some ⟨b, 0, none⟩), T.val] w (RetS3 (fun x => decide (x < m) && !q0 x) w) := by
  obtain ⟨op, nn, A, c, args⟩ := T
  simp only [MT.args] at hlen hE0
  rw [MT.In] at hT
  obtain ⟨hlc, hc, hr, hrow⟩ := hT
  obtain ⟨W1, W2, hW1, hs1, hW2, hs2, hB, hcc, hcr⟩ := meth_blks (.mk op nn A c args) w
  simp only [MT.op, MT.n, MT.A, MT.args, MT.c] at hcc hW1
  obtain ⟨s0, s1, s2, s3, hsw, -, n0, n1, n2, n3⟩ := (hw.later hB).all
  have hbw : b < w.heap.size := by obtain ⟨-, -, -, -, -, h, -⟩ := hw.all; exact h
  have hbB : b < w.heap.size + 1 := by omega
  obtain ⟨ab, aoff, rfl, hab, g00, g01, g02⟩ := elem3 hr hB (show 0 < args.length by omega)
  simp only [Nat.zero_mul, Nat.add_zero] at g00 g01 g02
  have habB : ab < w.heap.size + 1 := by omega
  obtain ⟨T0, hT0⟩ : ∃ t, args[0] = t := ⟨_, rfl⟩
  rw [hT0] at g00 g01 g02 hE0
  obtain ⟨c0, c1, c2⟩ := hcc W2 (Below.refl _ _)
  have hS : ∀ w', Below (w.heap.size + 1) W2 w' → (w'.cell? ⟨b, 0, none⟩ = some (.int .u64 (s0 : Nat)) ∧ w'.cell? ⟨b, 1, none⟩ = some (.int .u64 (s1 : Nat)) ∧ w'.cell? ⟨b, 2, none⟩ = some (.int .u64 (s2 : Nat)) ∧ w'.cell? ⟨b, 3, none⟩ = some (.int .u64 (s3 : Nat))) ∧ w'.cell? ⟨w.heap.size, 2, none⟩ = some (.slice (some ⟨ab, aoff, none⟩) args.length c) ∧ (w'.cell? ⟨ab, aoff, none⟩ = some (.int .i64 T0.op) ∧ w'.cell? ⟨ab, aoff + 1, none⟩ = some (.int .i64 T0.n) ∧ w'.cell? ⟨ab, aoff + 2, none⟩ = some (.slice T0.A T0.args.length T0.c)) := fun w' hb => ⟨⟨(hb.cell (p := ⟨b, 0, none⟩) hbB).trans n0, (hb.cell (p := ⟨b, 1, none⟩) hbB).trans n1, (hb.cell (p := ⟨b, 2, none⟩) hbB).trans n2, (hb.cell (p := ⟨b, 3, none⟩) hbB).trans n3⟩, (hb.cell (p := ⟨w.heap.size, 2, none⟩) (Nat.lt_succ_self _)).trans c2, ⟨(hb.cell (p := ⟨ab, aoff, none⟩) habB).trans g00, (hb.cell (p := ⟨ab, aoff + 1, none⟩) habB).trans g01, (hb.cell (p := ⟨ab, aoff + 2, none⟩) habB).trans g02⟩⟩
  have hd : Below W2.heap.size W2 W2.drew := (Below.refl _ W2).drew
  have hdS : Below (w.heap.size + 1) W2 W2.drew := hd.mono (by omega)
  have hel0 := hE0 W2.drew hB.drew
  have hlI : (0 : Int) < args.length := by omega
  have hlI1 : (0 : Int) < args.length := by omega
  have HB := Lib.hid hB
  have HSW := Lib.hid hsw
  have HCR := Lib.hid hcr
  simp only [MT.val, MT.op, MT.n, MT.A, MT.args, MT.c] at hel0  ⊢
  clear hE0 hw hr hrow hB hcr hcc hsw hlc hc n0 n1 n2 n3 c0 c1 c2 g00 g01 g02 hT0 hd
  go_enter Tryd.func94, Tryd.ntmps94
  go_wp2_with fail
  go_region_held (fun w' => (w'.cell? ⟨b, 0, none⟩ = some (.int .u64 (s0 : Nat)) ∧ w'.cell? ⟨b, 1, none⟩ = some (.int .u64 (s1 : Nat)) ∧ w'.cell? ⟨b, 2, none⟩ = some (.int .u64 (s2 : Nat)) ∧ w'.cell? ⟨b, 3, none⟩ = some (.int .u64 (s3 : Nat))) ∧ w'.cell? ⟨w.heap.size, 2, none⟩ = some (.slice (some ⟨ab, aoff, none⟩) args.length c) ∧ (w'.cell? ⟨ab, aoff, none⟩ = some (.int .i64 T0.op) ∧ w'.cell? ⟨ab, aoff + 1, none⟩ = some (.int .i64 T0.n) ∧ w'.cell? ⟨ab, aoff + 2, none⟩ = some (.slice T0.A T0.args.length T0.c)))
    (first | exact hS _ hdS | exact hS _ hb3S | exact hS _ hb9S | exact hS _ hbS)
    (first
      | (go_at_call 139; refine (bMinus_sw HSW.out hswE0 w3).mono ?_; rintro e w4 ⟨a9, b9, c9, d9, rfl, hsw9, hb9'⟩; have hb9 := hb3.trans (hb9'.mono hb3.size); have hb9S : Below (w.heap.size + 1) W2 w4 := hb9.mono (by omega); have hkR := HCR.out w4 hb9; obtain ⟨⟨y0, y1, y2, y3⟩, z0, z1, z2, z3⟩ := blk4 hkR; obtain ⟨q9, q10⟩ := store4 hkR (.int .u64 (a9 : Nat)) (.int .u64 (b9 : Nat)) (.int .u64 (c9 : Nat)) (.int .u64 (d9 : Nat)); have hbS := hb9S.trans (below_grown q10 (Nat.le_refl _) (by have := hb9.size; omega)))
      | (go_at_call 59; refine hel0.mono ?_; rintro e w3 ⟨a3, b3, c3, d3, rfl, hswE0, hb3'⟩; have hb3 : Below W2.heap.size W2 w3 := ((Below.refl W2.heap.size W2).drew).trans hb3'; have hb3S : Below (w.heap.size + 1) W2 w3 := hb3.mono (by omega)))
  go_wp2
  have hbE := HB.out.trans (hbS.mono (by omega))
  generalize ((((w4.setCell ⟨w.heap.size + 1, 0, none⟩ (.int .u64 (a9 : Nat))).setCell ⟨w.heap.size + 1, 1, none⟩ (.int .u64 (b9 : Nat))).setCell ⟨w.heap.size + 1, 2, none⟩ (.int .u64 (c9 : Nat))).setCell ⟨w.heap.size + 1, 3, none⟩ (.int .u64 (d9 : Nat))) = w10 at q9 hbE ⊢
  obtain ⟨⟨t0, t1, t2, t3⟩, -⟩ := blk4 q9
  refine bodyPost_ret (v := _) (by simp [results, Tryd.f94, go_sem, t0, t1, t2, t3]) rfl ⟨a9, b9, c9, d9, rfl, hsw9, hbE⟩

set_option maxRecDepth 100000 in
set_option maxHeartbeats 4000000 in
theorem both_any (i : IN) (m b : Nat) (T : MT) (w : World) (hw : WL w b i m) (hT : T.In w.heap.size w) (hlen : 1 < T.args.length) (q0 q1 : Nat → Bool)
    (hE0 : ∀ w', Below w.heap.size w w' → Calls Tryd.prog 59 #[.pointer (some ⟨b, 0, none⟩), T.args[0].val] w' (RetS3 q0 w'))
    (hE1 : ∀ w', Below w.heap.size w w' → Calls Tryd.prog 59 #[.pointer (some ⟨b, 0, none⟩), T.args[1].val] w' (RetS3 q1 w')) :
    Calls Tryd.prog 95 #[.pointer (some ⟨b, 0, none⟩), T.val] w (RetS3 (fun x => q0 x && q1 x) w) := by
  obtain ⟨op, nn, A, c, args⟩ := T
  simp only [MT.args] at hlen hE0 hE1
  rw [MT.In] at hT
  obtain ⟨hlc, hc, hr, hrow⟩ := hT
  obtain ⟨W1, W2, hW1, hs1, hW2, hs2, hB, hcc, hcr⟩ := meth_blks (.mk op nn A c args) w
  simp only [MT.op, MT.n, MT.A, MT.args, MT.c] at hcc hW1
  obtain ⟨s0, s1, s2, s3, hsw, -, n0, n1, n2, n3⟩ := (hw.later hB).all
  have hbw : b < w.heap.size := by obtain ⟨-, -, -, -, -, h, -⟩ := hw.all; exact h
  have hbB : b < w.heap.size + 1 := by omega
  obtain ⟨ab, aoff, rfl, hab, g00, g01, g02⟩ := elem3 hr hB (show 0 < args.length by omega)
  simp only [Nat.zero_mul, Nat.add_zero] at g00 g01 g02
  have habB : ab < w.heap.size + 1 := by omega
  obtain ⟨ab', aoff', he, -, g10, g11, g12⟩ := elem3 hr hB (show 1 < args.length by omega)
  cases he
  simp only [Nat.reduceMul] at g10 g11 g12
  obtain ⟨T0, hT0⟩ : ∃ t, args[0] = t := ⟨_, rfl⟩
  rw [hT0] at g00 g01 g02 hE0
  obtain ⟨T1, hT1⟩ : ∃ t, args[1] = t := ⟨_, rfl⟩
  rw [hT1] at g10 g11 g12 hE1
  obtain ⟨c0, c1, c2⟩ := hcc W2 (Below.refl _ _)
  have hS : ∀ w', Below (w.heap.size + 1) W2 w' → w'.cell? ⟨w.heap.size, 2, none⟩ = some (.slice (some ⟨ab, aoff, none⟩) args.length c) ∧ (w'.cell? ⟨ab, aoff, none⟩ = some (.int .i64 T0.op) ∧ w'.cell? ⟨ab, aoff + 1, none⟩ = some (.int .i64 T0.n) ∧ w'.cell? ⟨ab, aoff + 2, none⟩ = some (.slice T0.A T0.args.length T0.c)) ∧ (w'.cell? ⟨ab, aoff + 3, none⟩ = some (.int .i64 T1.op) ∧ w'.cell? ⟨ab, aoff + 3 + 1, none⟩ = some (.int .i64 T1.n) ∧ w'.cell? ⟨ab, aoff + 3 + 2, none⟩ = some (.slice T1.A T1.args.length T1.c)) := fun w' hb => ⟨(hb.cell (p := ⟨w.heap.size, 2, none⟩) (Nat.lt_succ_self _)).trans c2, ⟨(hb.cell (p := ⟨ab, aoff, none⟩) habB).trans g00, (hb.cell (p := ⟨ab, aoff + 1, none⟩) habB).trans g01, (hb.cell (p := ⟨ab, aoff + 2, none⟩) habB).trans g02⟩, ⟨(hb.cell (p := ⟨ab, aoff + 3, none⟩) habB).trans g10, (hb.cell (p := ⟨ab, aoff + 3 + 1, none⟩) habB).trans g11, (hb.cell (p := ⟨ab, aoff + 3 + 2, none⟩) habB).trans g12⟩⟩
  have hd : Below W2.heap.size W2 W2.drew := (Below.refl _ W2).drew
  have hdS : Below (w.heap.size + 1) W2 W2.drew := hd.mono (by omega)
  have hel0 := hE0 W2.drew hB.drew
  have hlI : (0 : Int) < args.length := by omega
  have hlI1 : (1 : Int) < args.length := by omega
  have HB := Lib.hid hB
  have HSW := Lib.hid hsw
  have HCR := Lib.hid hcr
  have HE1 := Lib.hid hE1
  simp only [MT.val, MT.op, MT.n, MT.A, MT.args, MT.c] at hel0 HE1 ⊢
  clear hE0 hE1 hw hr hrow hB hcr hcc hsw hlc hc n0 n1 n2 n3 c0 c1 c2 g00 g01 g02 hT0 g10 g11 g12 hT1 hd
  go_enter Tryd.func95, Tryd.ntmps95
  go_wp2_with fail
  go_region_held (fun w' => w'.cell? ⟨w.heap.size, 2, none⟩ = some (.slice (some ⟨ab, aoff, none⟩) args.length c) ∧ (w'.cell? ⟨ab, aoff, none⟩ = some (.int .i64 T0.op) ∧ w'.cell? ⟨ab, aoff + 1, none⟩ = some (.int .i64 T0.n) ∧ w'.cell? ⟨ab, aoff + 2, none⟩ = some (.slice T0.A T0.args.length T0.c)) ∧ (w'.cell? ⟨ab, aoff + 3, none⟩ = some (.int .i64 T1.op) ∧ w'.cell? ⟨ab, aoff + 3 + 1, none⟩ = some (.int .i64 T1.n) ∧ w'.cell? ⟨ab, aoff + 3 + 2, none⟩ = some (.slice T1.A T1.args.length T1.c)))
    (first | exact hS _ hdS | exact hS _ hb3S | exact hS _ hb4S | exact hS _ hb9S | exact hS _ hbS)
    (first
      | (go_at_call 140; refine (bAnd_sw hswE0 hswE1 w4).mono ?_; rintro e w5 ⟨a9, b9, c9, d9, rfl, hsw9, hb9'⟩; have hb9 := hb4.trans (hb9'.mono hb4.size); have hb9S : Below (w.heap.size + 1) W2 w5 := hb9.mono (by omega); have hkR := HCR.out w5 hb9; obtain ⟨⟨y0, y1, y2, y3⟩, z0, z1, z2, z3⟩ := blk4 hkR; obtain ⟨q9, q10⟩ := store4 hkR (.int .u64 (a9 : Nat)) (.int .u64 (b9 : Nat)) (.int .u64 (c9 : Nat)) (.int .u64 (d9 : Nat)); have hbS := hb9S.trans (below_grown q10 (Nat.le_refl _) (by have := hb9.size; omega)))
      | (go_at_call 59; first | (refine (HE1.out w3 (HB.out.trans (hb3.mono (by omega)))).mono ?_; rintro e w4 ⟨a4, b4, c4, d4, rfl, hswE1, hb4'⟩; have hb4 : Below W2.heap.size W2 w4 := hb3.trans (hb4'.mono hb3.size); have hb4S : Below (w.heap.size + 1) W2 w4 := hb4.mono (by omega)) | (refine hel0.mono ?_; rintro e w3 ⟨a3, b3, c3, d3, rfl, hswE0, hb3'⟩; have hb3 : Below W2.heap.size W2 w3 := ((Below.refl W2.heap.size W2).drew).trans hb3'; have hb3S : Below (w.heap.size + 1) W2 w3 := hb3.mono (by omega))))
  go_wp2
  have hbE := HB.out.trans (hbS.mono (by omega))
  generalize ((((w5.setCell ⟨w.heap.size + 1, 0, none⟩ (.int .u64 (a9 : Nat))).setCell ⟨w.heap.size + 1, 1, none⟩ (.int .u64 (b9 : Nat))).setCell ⟨w.heap.size + 1, 2, none⟩ (.int .u64 (c9 : Nat))).setCell ⟨w.heap.size + 1, 3, none⟩ (.int .u64 (d9 : Nat))) = w10 at q9 hbE ⊢
  obtain ⟨⟨t0, t1, t2, t3⟩, -⟩ := blk4 q9
  refine bodyPost_ret (v := _) (by simp [results, Tryd.f95, go_sem, t0, t1, t2, t3]) rfl ⟨a9, b9, c9, d9, rfl, hsw9, hbE⟩

set_option maxRecDepth 100000 in
set_option maxHeartbeats 4000000 in
theorem either_any (i : IN) (m b : Nat) (T : MT) (w : World) (hw : WL w b i m) (hT : T.In w.heap.size w) (hlen : 1 < T.args.length) (q0 q1 : Nat → Bool)
    (hE0 : ∀ w', Below w.heap.size w w' → Calls Tryd.prog 59 #[.pointer (some ⟨b, 0, none⟩), T.args[0].val] w' (RetS3 q0 w'))
    (hE1 : ∀ w', Below w.heap.size w w' → Calls Tryd.prog 59 #[.pointer (some ⟨b, 0, none⟩), T.args[1].val] w' (RetS3 q1 w')) :
    Calls Tryd.prog 96 #[.pointer (some ⟨b, 0, none⟩), T.val] w (RetS3 (fun x => q0 x || q1 x) w) := by
  obtain ⟨op, nn, A, c, args⟩ := T
  simp only [MT.args] at hlen hE0 hE1
  rw [MT.In] at hT
  obtain ⟨hlc, hc, hr, hrow⟩ := hT
  obtain ⟨W1, W2, hW1, hs1, hW2, hs2, hB, hcc, hcr⟩ := meth_blks (.mk op nn A c args) w
  simp only [MT.op, MT.n, MT.A, MT.args, MT.c] at hcc hW1
  obtain ⟨s0, s1, s2, s3, hsw, -, n0, n1, n2, n3⟩ := (hw.later hB).all
  have hbw : b < w.heap.size := by obtain ⟨-, -, -, -, -, h, -⟩ := hw.all; exact h
  have hbB : b < w.heap.size + 1 := by omega
  obtain ⟨ab, aoff, rfl, hab, g00, g01, g02⟩ := elem3 hr hB (show 0 < args.length by omega)
  simp only [Nat.zero_mul, Nat.add_zero] at g00 g01 g02
  have habB : ab < w.heap.size + 1 := by omega
  obtain ⟨ab', aoff', he, -, g10, g11, g12⟩ := elem3 hr hB (show 1 < args.length by omega)
  cases he
  simp only [Nat.reduceMul] at g10 g11 g12
  obtain ⟨T0, hT0⟩ : ∃ t, args[0] = t := ⟨_, rfl⟩
  rw [hT0] at g00 g01 g02 hE0
  obtain ⟨T1, hT1⟩ : ∃ t, args[1] = t := ⟨_, rfl⟩
  rw [hT1] at g10 g11 g12 hE1
  obtain ⟨c0, c1, c2⟩ := hcc W2 (Below.refl _ _)
  have hS : ∀ w', Below (w.heap.size + 1) W2 w' → w'.cell? ⟨w.heap.size, 2, none⟩ = some (.slice (some ⟨ab, aoff, none⟩) args.length c) ∧ (w'.cell? ⟨ab, aoff, none⟩ = some (.int .i64 T0.op) ∧ w'.cell? ⟨ab, aoff + 1, none⟩ = some (.int .i64 T0.n) ∧ w'.cell? ⟨ab, aoff + 2, none⟩ = some (.slice T0.A T0.args.length T0.c)) ∧ (w'.cell? ⟨ab, aoff + 3, none⟩ = some (.int .i64 T1.op) ∧ w'.cell? ⟨ab, aoff + 3 + 1, none⟩ = some (.int .i64 T1.n) ∧ w'.cell? ⟨ab, aoff + 3 + 2, none⟩ = some (.slice T1.A T1.args.length T1.c)) := fun w' hb => ⟨(hb.cell (p := ⟨w.heap.size, 2, none⟩) (Nat.lt_succ_self _)).trans c2, ⟨(hb.cell (p := ⟨ab, aoff, none⟩) habB).trans g00, (hb.cell (p := ⟨ab, aoff + 1, none⟩) habB).trans g01, (hb.cell (p := ⟨ab, aoff + 2, none⟩) habB).trans g02⟩, ⟨(hb.cell (p := ⟨ab, aoff + 3, none⟩) habB).trans g10, (hb.cell (p := ⟨ab, aoff + 3 + 1, none⟩) habB).trans g11, (hb.cell (p := ⟨ab, aoff + 3 + 2, none⟩) habB).trans g12⟩⟩
  have hd : Below W2.heap.size W2 W2.drew := (Below.refl _ W2).drew
  have hdS : Below (w.heap.size + 1) W2 W2.drew := hd.mono (by omega)
  have hel0 := hE0 W2.drew hB.drew
  have hlI : (0 : Int) < args.length := by omega
  have hlI1 : (1 : Int) < args.length := by omega
  have HB := Lib.hid hB
  have HSW := Lib.hid hsw
  have HCR := Lib.hid hcr
  have HE1 := Lib.hid hE1
  simp only [MT.val, MT.op, MT.n, MT.A, MT.args, MT.c] at hel0 HE1 ⊢
  clear hE0 hE1 hw hr hrow hB hcr hcc hsw hlc hc n0 n1 n2 n3 c0 c1 c2 g00 g01 g02 hT0 g10 g11 g12 hT1 hd
  go_enter Tryd.func96, Tryd.ntmps96
  go_wp2_with fail
  go_region_held (fun w' => w'.cell? ⟨w.heap.size, 2, none⟩ = some (.slice (some ⟨ab, aoff, none⟩) args.length c) ∧ (w'.cell? ⟨ab, aoff, none⟩ = some (.int .i64 T0.op) ∧ w'.cell? ⟨ab, aoff + 1, none⟩ = some (.int .i64 T0.n) ∧ w'.cell? ⟨ab, aoff + 2, none⟩ = some (.slice T0.A T0.args.length T0.c)) ∧ (w'.cell? ⟨ab, aoff + 3, none⟩ = some (.int .i64 T1.op) ∧ w'.cell? ⟨ab, aoff + 3 + 1, none⟩ = some (.int .i64 T1.n) ∧ w'.cell? ⟨ab, aoff + 3 + 2, none⟩ = some (.slice T1.A T1.args.length T1.c)))
    (first | exact hS _ hdS | exact hS _ hb3S | exact hS _ hb4S | exact hS _ hb9S | exact hS _ hbS)
    (first
      | (go_at_call 141; refine (bOr_sw hswE0 hswE1 w4).mono ?_; rintro e w5 ⟨a9, b9, c9, d9, rfl, hsw9, hb9'⟩; have hb9 := hb4.trans (hb9'.mono hb4.size); have hb9S : Below (w.heap.size + 1) W2 w5 := hb9.mono (by omega); have hkR := HCR.out w5 hb9; obtain ⟨⟨y0, y1, y2, y3⟩, z0, z1, z2, z3⟩ := blk4 hkR; obtain ⟨q9, q10⟩ := store4 hkR (.int .u64 (a9 : Nat)) (.int .u64 (b9 : Nat)) (.int .u64 (c9 : Nat)) (.int .u64 (d9 : Nat)); have hbS := hb9S.trans (below_grown q10 (Nat.le_refl _) (by have := hb9.size; omega)))
      | (go_at_call 59; first | (refine (HE1.out w3 (HB.out.trans (hb3.mono (by omega)))).mono ?_; rintro e w4 ⟨a4, b4, c4, d4, rfl, hswE1, hb4'⟩; have hb4 : Below W2.heap.size W2 w4 := hb3.trans (hb4'.mono hb3.size); have hb4S : Below (w.heap.size + 1) W2 w4 := hb4.mono (by omega)) | (refine hel0.mono ?_; rintro e w3 ⟨a3, b3, c3, d3, rfl, hswE0, hb3'⟩; have hb3 : Below W2.heap.size W2 w3 := ((Below.refl W2.heap.size W2).drew).trans hb3'; have hb3S : Below (w.heap.size + 1) W2 w3 := hb3.mono (by omega))))
  go_wp2
  have hbE := HB.out.trans (hbS.mono (by omega))
  generalize ((((w5.setCell ⟨w.heap.size + 1, 0, none⟩ (.int .u64 (a9 : Nat))).setCell ⟨w.heap.size + 1, 1, none⟩ (.int .u64 (b9 : Nat))).setCell ⟨w.heap.size + 1, 2, none⟩ (.int .u64 (c9 : Nat))).setCell ⟨w.heap.size + 1, 3, none⟩ (.int .u64 (d9 : Nat))) = w10 at q9 hbE ⊢
  obtain ⟨⟨t0, t1, t2, t3⟩, -⟩ := blk4 q9
  refine bodyPost_ret (v := _) (by simp [results, Tryd.f96, go_sem, t0, t1, t2, t3]) rfl ⟨a9, b9, c9, d9, rfl, hsw9, hbE⟩

end Go.Proofs.YtnkkpjgclekobaaDoor

namespace Go.Proofs.YtnkkpjgclekobaaDoor
open Go.RowKit

set_option maxRecDepth 100000 in
set_option maxHeartbeats 8000000 in
theorem whose_meets (i : IN) (m b : Nat) (h256 : m ≤ 256) (T : MT) (w : World) (hw : WL w b i m) (hT : T.In w.heap.size w) (hlen : 0 < T.args.length) (r : Nat) (hn : T.n = r) (hr2 : r < 2 * i.R.length) (q : Nat → Bool)
    (hE : ∀ w', Below w.heap.size w w' → Calls Tryd.prog 59 #[.pointer (some ⟨b, 0, none⟩), T.args[0].val] w' (RetS3 q w')) :
    Calls Tryd.prog 142 #[.pointer (some ⟨b, 0, none⟩), T.val, .func (.func 143) #[] #[]] w (RetS3 (fun x => decide (x < m) && meetB (endsF i r x) q) w) := by
  obtain ⟨op, nn, A, c, args⟩ := T
  simp only [MT.args, MT.n] at hlen hE hn
  rw [MT.In] at hT
  obtain ⟨hlc, hc, hr, hrow⟩ := hT
  obtain ⟨W1, W2, hW1, hs1, hW2, hs2, hB, hcc, hcr⟩ := meth_blks (.mk op nn A c args) w
  simp only [MT.op, MT.n, MT.A, MT.args, MT.c] at hcc hW1
  obtain ⟨ab, aoff, rfl, hab, g0, g1, g2⟩ := elem3 hr hB hlen
  simp only [Nat.zero_mul, Nat.add_zero] at g0 g1 g2
  obtain ⟨T0, hT0⟩ : ∃ t, args[0] = t := ⟨_, rfl⟩
  rw [hT0] at g0 g1 g2 hE
  obtain ⟨c0, c1, c2⟩ := hcc W2 (Below.refl _ _)
  have hel := hE W2 hB
  have hlI : (0 : Int) < args.length := by omega
  have HB := Lib.hid hB
  have HCR := Lib.hid hcr
  have HCC := Lib.hid (show ∀ w', Below W2.heap.size W2 w' → w'.cell? ⟨w.heap.size, 1, none⟩ = some (.int .i64 (r : Nat)) from fun w' hb => by rw [← hn]; exact (hcc w' hb).2.1)
  have HWL := Lib.hid (show ∀ w', Below W2.heap.size W2 w' → WL w' b i m from fun w' hb => (hw.later hB).later hb)
  obtain ⟨F, hF⟩ : ∃ F, endsF i r = F := ⟨_, rfl⟩
  simp only [MT.val, MT.op, MT.n, MT.A, MT.args, MT.c] at hel ⊢
  rw [hF]
  clear hE hw hr hrow hB hcr hcc hlc hc hT0 hn hlen
  go_enter Tryd.func142, Tryd.ntmps142
  go_wp2_with (go_at_call 59; refine hel.mono ?_; clear hel; rintro e w3 ⟨a3, b3, c3, d3, rfl, hswE, hb3⟩)
  obtain ⟨E, hEe⟩ : ∃ E, w3.heap.size = E := ⟨_, rfl⟩
  obtain ⟨W4, hW4, hB4, hs4, hk4⟩ := newBlk w3 E hEe #[.int .u64 (a3 : Nat), .int .u64 (b3 : Nat), .int .u64 (c3 : Nat), .int .u64 (d3 : Nat)] 111
  obtain ⟨W5, hW5, hB5, hs5, hk5⟩ := newBlk W4 _ hs4 #[.int .u64 0, .int .u64 0, .int .u64 0, .int .u64 0] 111
  have hb35 : Below W2.heap.size W2 W5 := (hb3.trans (hB4.mono (by rw [← hEe]; exact hb3.size))).trans (hB5.mono (by have := hb3.size; omega))
  rw [hW4, hW5, hEe]
  obtain ⟨g, cap, er, n5', ng', hmr', hbl', hgl'⟩ := (HWL.out w3 hb3).role hr2
  rw [hF] at hmr'
  have hB35 : Below w3.heap.size w3 W5 := by rw [hEe]; exact hB4.trans (hB5.mono (by omega))
  have n5 := (hB35.cell (p := ⟨b, 5, none⟩) hbl').trans n5'
  have ng := (hB35.cell (p := ⟨g, r, none⟩) hgl').trans ng'
  have hmr := hmr'.later hB35
  have hrE : er < E := by rw [← hEe]; exact hmr'.lt
  have c1' := HCC.out W5 hb35
  have h0R : (0 : Int) ≤ r := by omega
  have hlR : (r : Int) < 2 * i.R.length := by omega
  have hkE5 := (hB5.block E (by omega)).trans hk4
  have hkR5 := HCR.out W5 hb35
  have hw2E : w.heap.size + 1 < E := by have := hb3.size; omega
  clear hW4 hW5 g0 g1 g2 c0 c1 c2 hW1 hW2 n5' ng' hmr' hB35 hk4 hbl' hgl'
  go_quiet (fail)
  have hq : Below W5.heap.size W5 (W5.drewN nq) := below_drewN (Below.refl _ _) _
  have hmr6 := hmr.later hq
  have hkE6 := blk_lat hkE5 hq
  have hkR6 := blk_lat hkR5 hq
  have hkS6 := blk_lat hk5 hq
  have hbF : Below w.heap.size w (W5.drewN nq) := HB.out.trans ((hb35.trans (hq.mono hb35.size)).mono (by omega))
  have hsz6 : E + 1 < (W5.drewN nq).heap.size := by have := hq.size; omega
  generalize W5.drewN nq = W6 at hmr6 hkE6 hkR6 hkS6 hbF hsz6 ⊢
  clear hq hmr hkE5 hkR5 hk5 hb35 n5 ng c1' hB4 hB5 hs4 hs5 hb3
  go_wp2_with fail
  have HSW := Lib.hid hswE
  clear hswE
  go_loopw [26] (fun i' wr => ∃ (k a5 b5 c5 d5 : Nat), k ≤ m ∧ i' = .int .i64 (k : Nat) ∧ SW (fun x => decide (x < k) && meetB (F x) q) a5 b5 c5 d5 ∧ wr.heap[E + 1]? = some (.cells #[.int .u64 (a5 : Nat), .int .u64 (b5 : Nat), .int .u64 (c5 : Nat), .int .u64 (d5 : Nat)] 111) ∧ Below (E + 1) W6 wr) (fun i' _ => m - (intOf i').toNat)
  case atStart => exact ⟨0, 0, 0, 0, 0, Nat.zero_le _, rfl, sw_none.ext (fun x _ => by simp), hkS6, Below.refl _ _⟩
  case round =>
    obtain ⟨k, a5, b5, c5, d5, hk, rfl, hsw5, hkS, hbm⟩ := hrel
    have hmrk := (hbm.block er (by omega)).trans hmr6
    have hkE := (hbm.block E (by omega)).trans hkE6
    have hkR := (hbm.block (w.heap.size + 1) (by omega)).trans hkR6
    obtain ⟨⟨e0, e1, e2, e3⟩, -⟩ := blk4 hkE
    obtain ⟨⟨p0, p1, p2, p3⟩, u0', u1', u2', u3'⟩ := blk4 hkS
    have hszr : E + 1 < wr.heap.size := by have := hbm.size; omega
    by_cases hlt : k < m
    · obtain ⟨a6, b6, c6, d6, hsw6⟩ := sw_of (F k)
      obtain ⟨x0, x1, x2, x3⟩ := MRow.cell hmrk hlt hsw6
      obtain ⟨W7, hW7, hB7, hs7, hk7⟩ := newBlk wr _ rfl #[.int .u64 (a6 : Nat), .int .u64 (b6 : Nat), .int .u64 (c6 : Nat), .int .u64 (d6 : Nat)] 111
      have h0I : (0 : Int) ≤ k := by omega
      have hlI' : (k : Int) < m := by omega
      have hre := bMeets_sw hsw6 HSW.out W7
      have hkE7 := blk_lat hkE hB7
      obtain ⟨⟨v0, v1, v2, v3⟩, -⟩ := blk4 hk7
      obtain ⟨⟨y0, y1, y2, y3⟩, -⟩ := blk4 hkE7
      obtain ⟨t, ht⟩ : ∃ t, meetB (F k) q = t := ⟨_, rfl⟩
      rw [ht] at hre
      have HT := Lib.hid ht
      have HS5 := Lib.hid hsw5
      clear ht hsw5 hk7
      cases t
      · go_wp2_with (go_at_call 143; refine hre.mono ?_; clear hre; rintro e8 w8 ⟨rfl, hb8⟩)
        have hb78 : Below wr.heap.size wr w8 := hB7.trans (hb8.mono (by omega))
        go_roundw
        case rel => exact ⟨k + 1, a5, b5, c5, d5, by omega, by go_num, HS5.out.ext (fun x _ => by by_cases e : x = k; (subst e; simp [HT.out]); (congr 1; rw [decide_eq_decide]; omega)), blk_lat hkS hb78, hbm.trans (hb78.mono (by omega))⟩
        case measure => simp [intOf]; omega
      · have hwi := fun w' => bWith_sw HS5.out k (by omega) w'
        go_wp2_with (first
          | (go_at_call 90; refine (hwi w8).mono ?_; clear hwi; rintro e9 w9 ⟨a9, b9, c9, d9, rfl, hsw9, hb9⟩; have hb89 := hb78.trans (hb9.mono hb78.size); have hkS9 := blk_lat hkS hb89; obtain ⟨⟨o0, o1, o2, o3⟩, f0, f1, f2, f3⟩ := blk4 hkS9)
          | (go_at_call 143; refine hre.mono ?_; clear hre; rintro e8 w8 ⟨rfl, hb8⟩; have hb78 : Below wr.heap.size wr w8 := hB7.trans (hb8.mono (by omega)); have hkS8 := blk_lat hkS hb78; obtain ⟨⟨l0, l1, l2, l3⟩, -⟩ := blk4 hkS8))
        obtain ⟨z1, z2⟩ := store4 hkS9 (.int .u64 (a9 : Nat)) (.int .u64 (b9 : Nat)) (.int .u64 (c9 : Nat)) (.int .u64 (d9 : Nat))
        go_roundw
        case rel => exact ⟨k + 1, a9, b9, c9, d9, by omega, by go_num, hsw9.ext (fun x _ => by by_cases e : x = k; (subst e; simp [HT.out]); (rw [show (x == k) = false by simpa using e, Bool.or_false]; congr 1; rw [decide_eq_decide]; omega)), z1, (hbm.trans (hb89.mono (by omega))).trans (below_grown z2 (Nat.le_refl _) (by have := hb89.size; omega))⟩
        case measure => simp [intOf]; omega
    · have hkm : k = m := by omega
      subst hkm
      obtain ⟨⟨r0, r1, r2, r3⟩, f0, f1, f2, f3⟩ := blk4 hkR
      obtain ⟨q1, q2⟩ := store4 hkR (.int .u64 (a5 : Nat)) (.int .u64 (b5 : Nat)) (.int .u64 (c5 : Nat)) (.int .u64 (d5 : Nat))
      have hb4 := (hbF.trans (hbm.mono (by omega))).trans (below_grown q2 (by omega) (by have := hbF.size; have := hbm.size; omega))
      go_wp2
      generalize ((((wr.setCell ⟨w.heap.size + 1, 0, none⟩ (.int .u64 (a5 : Nat))).setCell ⟨w.heap.size + 1, 1, none⟩ (.int .u64 (b5 : Nat))).setCell ⟨w.heap.size + 1, 2, none⟩ (.int .u64 (c5 : Nat))).setCell ⟨w.heap.size + 1, 3, none⟩ (.int .u64 (d5 : Nat))) = w5 at q1 hb4 ⊢
      obtain ⟨⟨t0, t1, t2, t3⟩, -⟩ := blk4 q1
      refine bodyPost_ret (v := _) (by simp [results, Tryd.f142, go_sem, t0, t1, t2, t3]) rfl ⟨a5, b5, c5, d5, rfl, hsw5, hb4⟩
set_option maxRecDepth 100000 in
set_option maxHeartbeats 8000000 in
theorem whose_within (i : IN) (m b : Nat) (h256 : m ≤ 256) (T : MT) (w : World) (hw : WL w b i m) (hT : T.In w.heap.size w) (hlen : 0 < T.args.length) (r : Nat) (hn : T.n = r) (hr2 : r < 2 * i.R.length) (q : Nat → Bool)
    (hE : ∀ w', Below w.heap.size w w' → Calls Tryd.prog 59 #[.pointer (some ⟨b, 0, none⟩), T.args[0].val] w' (RetS3 q w')) :
    Calls Tryd.prog 142 #[.pointer (some ⟨b, 0, none⟩), T.val, .func (.func 104) #[] #[]] w (RetS3 (fun x => decide (x < m) && subB (endsF i r x) q) w) := by
  obtain ⟨op, nn, A, c, args⟩ := T
  simp only [MT.args, MT.n] at hlen hE hn
  rw [MT.In] at hT
  obtain ⟨hlc, hc, hr, hrow⟩ := hT
  obtain ⟨W1, W2, hW1, hs1, hW2, hs2, hB, hcc, hcr⟩ := meth_blks (.mk op nn A c args) w
  simp only [MT.op, MT.n, MT.A, MT.args, MT.c] at hcc hW1
  obtain ⟨ab, aoff, rfl, hab, g0, g1, g2⟩ := elem3 hr hB hlen
  simp only [Nat.zero_mul, Nat.add_zero] at g0 g1 g2
  obtain ⟨T0, hT0⟩ : ∃ t, args[0] = t := ⟨_, rfl⟩
  rw [hT0] at g0 g1 g2 hE
  obtain ⟨c0, c1, c2⟩ := hcc W2 (Below.refl _ _)
  have hel := hE W2 hB
  have hlI : (0 : Int) < args.length := by omega
  have HB := Lib.hid hB
  have HCR := Lib.hid hcr
  have HCC := Lib.hid (show ∀ w', Below W2.heap.size W2 w' → w'.cell? ⟨w.heap.size, 1, none⟩ = some (.int .i64 (r : Nat)) from fun w' hb => by rw [← hn]; exact (hcc w' hb).2.1)
  have HWL := Lib.hid (show ∀ w', Below W2.heap.size W2 w' → WL w' b i m from fun w' hb => (hw.later hB).later hb)
  obtain ⟨F, hF⟩ : ∃ F, endsF i r = F := ⟨_, rfl⟩
  simp only [MT.val, MT.op, MT.n, MT.A, MT.args, MT.c] at hel ⊢
  rw [hF]
  clear hE hw hr hrow hB hcr hcc hlc hc hT0 hn hlen
  go_enter Tryd.func142, Tryd.ntmps142
  go_wp2_with (go_at_call 59; refine hel.mono ?_; clear hel; rintro e w3 ⟨a3, b3, c3, d3, rfl, hswE, hb3⟩)
  obtain ⟨E, hEe⟩ : ∃ E, w3.heap.size = E := ⟨_, rfl⟩
  obtain ⟨W4, hW4, hB4, hs4, hk4⟩ := newBlk w3 E hEe #[.int .u64 (a3 : Nat), .int .u64 (b3 : Nat), .int .u64 (c3 : Nat), .int .u64 (d3 : Nat)] 111
  obtain ⟨W5, hW5, hB5, hs5, hk5⟩ := newBlk W4 _ hs4 #[.int .u64 0, .int .u64 0, .int .u64 0, .int .u64 0] 111
  have hb35 : Below W2.heap.size W2 W5 := (hb3.trans (hB4.mono (by rw [← hEe]; exact hb3.size))).trans (hB5.mono (by have := hb3.size; omega))
  rw [hW4, hW5, hEe]
  obtain ⟨g, cap, er, n5', ng', hmr', hbl', hgl'⟩ := (HWL.out w3 hb3).role hr2
  rw [hF] at hmr'
  have hB35 : Below w3.heap.size w3 W5 := by rw [hEe]; exact hB4.trans (hB5.mono (by omega))
  have n5 := (hB35.cell (p := ⟨b, 5, none⟩) hbl').trans n5'
  have ng := (hB35.cell (p := ⟨g, r, none⟩) hgl').trans ng'
  have hmr := hmr'.later hB35
  have hrE : er < E := by rw [← hEe]; exact hmr'.lt
  have c1' := HCC.out W5 hb35
  have h0R : (0 : Int) ≤ r := by omega
  have hlR : (r : Int) < 2 * i.R.length := by omega
  have hkE5 := (hB5.block E (by omega)).trans hk4
  have hkR5 := HCR.out W5 hb35
  have hw2E : w.heap.size + 1 < E := by have := hb3.size; omega
  clear hW4 hW5 g0 g1 g2 c0 c1 c2 hW1 hW2 n5' ng' hmr' hB35 hk4 hbl' hgl'
  go_quiet (fail)
  have hq : Below W5.heap.size W5 (W5.drewN nq) := below_drewN (Below.refl _ _) _
  have hmr6 := hmr.later hq
  have hkE6 := blk_lat hkE5 hq
  have hkR6 := blk_lat hkR5 hq
  have hkS6 := blk_lat hk5 hq
  have hbF : Below w.heap.size w (W5.drewN nq) := HB.out.trans ((hb35.trans (hq.mono hb35.size)).mono (by omega))
  have hsz6 : E + 1 < (W5.drewN nq).heap.size := by have := hq.size; omega
  generalize W5.drewN nq = W6 at hmr6 hkE6 hkR6 hkS6 hbF hsz6 ⊢
  clear hq hmr hkE5 hkR5 hk5 hb35 n5 ng c1' hB4 hB5 hs4 hs5 hb3
  go_wp2_with fail
  have HSW := Lib.hid hswE
  clear hswE
  go_loopw [26] (fun i' wr => ∃ (k a5 b5 c5 d5 : Nat), k ≤ m ∧ i' = .int .i64 (k : Nat) ∧ SW (fun x => decide (x < k) && subB (F x) q) a5 b5 c5 d5 ∧ wr.heap[E + 1]? = some (.cells #[.int .u64 (a5 : Nat), .int .u64 (b5 : Nat), .int .u64 (c5 : Nat), .int .u64 (d5 : Nat)] 111) ∧ Below (E + 1) W6 wr) (fun i' _ => m - (intOf i').toNat)
  case atStart => exact ⟨0, 0, 0, 0, 0, Nat.zero_le _, rfl, sw_none.ext (fun x _ => by simp), hkS6, Below.refl _ _⟩
  case round =>
    obtain ⟨k, a5, b5, c5, d5, hk, rfl, hsw5, hkS, hbm⟩ := hrel
    have hmrk := (hbm.block er (by omega)).trans hmr6
    have hkE := (hbm.block E (by omega)).trans hkE6
    have hkR := (hbm.block (w.heap.size + 1) (by omega)).trans hkR6
    obtain ⟨⟨e0, e1, e2, e3⟩, -⟩ := blk4 hkE
    obtain ⟨⟨p0, p1, p2, p3⟩, u0', u1', u2', u3'⟩ := blk4 hkS
    have hszr : E + 1 < wr.heap.size := by have := hbm.size; omega
    by_cases hlt : k < m
    · obtain ⟨a6, b6, c6, d6, hsw6⟩ := sw_of (F k)
      obtain ⟨x0, x1, x2, x3⟩ := MRow.cell hmrk hlt hsw6
      obtain ⟨W7, hW7, hB7, hs7, hk7⟩ := newBlk wr _ rfl #[.int .u64 (a6 : Nat), .int .u64 (b6 : Nat), .int .u64 (c6 : Nat), .int .u64 (d6 : Nat)] 111
      have h0I : (0 : Int) ≤ k := by omega
      have hlI' : (k : Int) < m := by omega
      have hre := bWithin_sw hsw6 HSW.out W7
      have hkE7 := blk_lat hkE hB7
      obtain ⟨⟨v0, v1, v2, v3⟩, -⟩ := blk4 hk7
      obtain ⟨⟨y0, y1, y2, y3⟩, -⟩ := blk4 hkE7
      obtain ⟨t, ht⟩ : ∃ t, subB (F k) q = t := ⟨_, rfl⟩
      rw [ht] at hre
      have HT := Lib.hid ht
      have HS5 := Lib.hid hsw5
      clear ht hsw5 hk7
      cases t
      · go_wp2_with (go_at_call 104; refine hre.mono ?_; clear hre; rintro e8 w8 ⟨rfl, hb8⟩)
        have hb78 : Below wr.heap.size wr w8 := hB7.trans (hb8.mono (by omega))
        go_roundw
        case rel => exact ⟨k + 1, a5, b5, c5, d5, by omega, by go_num, HS5.out.ext (fun x _ => by by_cases e : x = k; (subst e; simp [HT.out]); (congr 1; rw [decide_eq_decide]; omega)), blk_lat hkS hb78, hbm.trans (hb78.mono (by omega))⟩
        case measure => simp [intOf]; omega
      · have hwi := fun w' => bWith_sw HS5.out k (by omega) w'
        go_wp2_with (first
          | (go_at_call 90; refine (hwi w8).mono ?_; clear hwi; rintro e9 w9 ⟨a9, b9, c9, d9, rfl, hsw9, hb9⟩; have hb89 := hb78.trans (hb9.mono hb78.size); have hkS9 := blk_lat hkS hb89; obtain ⟨⟨o0, o1, o2, o3⟩, f0, f1, f2, f3⟩ := blk4 hkS9)
          | (go_at_call 104; refine hre.mono ?_; clear hre; rintro e8 w8 ⟨rfl, hb8⟩; have hb78 : Below wr.heap.size wr w8 := hB7.trans (hb8.mono (by omega)); have hkS8 := blk_lat hkS hb78; obtain ⟨⟨l0, l1, l2, l3⟩, -⟩ := blk4 hkS8))
        obtain ⟨z1, z2⟩ := store4 hkS9 (.int .u64 (a9 : Nat)) (.int .u64 (b9 : Nat)) (.int .u64 (c9 : Nat)) (.int .u64 (d9 : Nat))
        go_roundw
        case rel => exact ⟨k + 1, a9, b9, c9, d9, by omega, by go_num, hsw9.ext (fun x _ => by by_cases e : x = k; (subst e; simp [HT.out]); (rw [show (x == k) = false by simpa using e, Bool.or_false]; congr 1; rw [decide_eq_decide]; omega)), z1, (hbm.trans (hb89.mono (by omega))).trans (below_grown z2 (Nat.le_refl _) (by have := hb89.size; omega))⟩
        case measure => simp [intOf]; omega
    · have hkm : k = m := by omega
      subst hkm
      obtain ⟨⟨r0, r1, r2, r3⟩, f0, f1, f2, f3⟩ := blk4 hkR
      obtain ⟨q1, q2⟩ := store4 hkR (.int .u64 (a5 : Nat)) (.int .u64 (b5 : Nat)) (.int .u64 (c5 : Nat)) (.int .u64 (d5 : Nat))
      have hb4 := (hbF.trans (hbm.mono (by omega))).trans (below_grown q2 (by omega) (by have := hbF.size; have := hbm.size; omega))
      go_wp2
      generalize ((((wr.setCell ⟨w.heap.size + 1, 0, none⟩ (.int .u64 (a5 : Nat))).setCell ⟨w.heap.size + 1, 1, none⟩ (.int .u64 (b5 : Nat))).setCell ⟨w.heap.size + 1, 2, none⟩ (.int .u64 (c5 : Nat))).setCell ⟨w.heap.size + 1, 3, none⟩ (.int .u64 (d5 : Nat))) = w5 at q1 hb4 ⊢
      obtain ⟨⟨t0, t1, t2, t3⟩, -⟩ := blk4 q1
      refine bodyPost_ret (v := _) (by simp [results, Tryd.f142, go_sem, t0, t1, t2, t3]) rfl ⟨a5, b5, c5, d5, rfl, hsw5, hb4⟩
end Go.Proofs.YtnkkpjgclekobaaDoor

namespace Go.Proofs.YtnkkpjgclekobaaDoor
open Go.RowKit

set_option maxRecDepth 100000 in
set_option maxHeartbeats 4000000 in
theorem withSome_any (i : IN) (m b : Nat) (h256 : m ≤ 256) (T : MT) (w : World) (hw : WL w b i m) (hT : T.In w.heap.size w) (hlen : 0 < T.args.length) (r : Nat) (hn : T.n = r) (hr2 : r < 2 * i.R.length) (q : Nat → Bool)
    (hE : ∀ w', Below w.heap.size w w' → Calls Tryd.prog 59 #[.pointer (some ⟨b, 0, none⟩), T.args[0].val] w' (RetS3 q w')) :
    Calls Tryd.prog 97 #[.pointer (some ⟨b, 0, none⟩), T.val] w (RetS3 (fun x => decide (x < m) && meetB (endsF i r x) q) w) := by
  obtain ⟨W1, W2, hW1, hs1, hW2, hs2, hB, hcc, hcr⟩ := meth_blks T w
  have hwh := whose_meets i m b h256 T W2 (hw.later hB) (hT.later hB) hlen r hn hr2 q (fun w' hb => hE w' (hB.trans (hb.mono hB.size)))
  obtain ⟨c0, c1, c2⟩ := hcc W2 (Below.refl _ _)
  have HB := Lib.hid hB
  have HCR := Lib.hid hcr
  simp only [MT.val] at hwh ⊢
  clear hB hw hT hE hcr hcc hn
  go_enter Tryd.func97, Tryd.ntmps97
  go_wp2_with (go_at_call 142; refine hwh.mono ?_; clear hwh; rintro e w4 ⟨a4, b4, c4, d4, rfl, hsw4, hb4⟩; obtain ⟨⟨y0, y1, y2, y3⟩, z0, z1, z2, z3⟩ := blk4 (HCR.out w4 hb4))
  obtain ⟨q9, q10⟩ := store4 (HCR.out w4 hb4) (.int .u64 (a4 : Nat)) (.int .u64 (b4 : Nat)) (.int .u64 (c4 : Nat)) (.int .u64 (d4 : Nat))
  have hbE := (HB.out.trans (hb4.mono (by omega))).trans (below_grown q10 (by omega) (by have := hb4.size; omega))
  generalize ((((w4.setCell ⟨w.heap.size + 1, 0, none⟩ (.int .u64 (a4 : Nat))).setCell ⟨w.heap.size + 1, 1, none⟩ (.int .u64 (b4 : Nat))).setCell ⟨w.heap.size + 1, 2, none⟩ (.int .u64 (c4 : Nat))).setCell ⟨w.heap.size + 1, 3, none⟩ (.int .u64 (d4 : Nat))) = w10 at q9 hbE ⊢
  obtain ⟨⟨t0, t1, t2, t3⟩, -⟩ := blk4 q9
  refine bodyPost_ret (v := _) (by simp [results, Tryd.f97, go_sem, t0, t1, t2, t3]) rfl ⟨a4, b4, c4, d4, rfl, hsw4, hbE⟩

set_option maxRecDepth 100000 in
set_option maxHeartbeats 4000000 in
theorem withAll_any (i : IN) (m b : Nat) (h256 : m ≤ 256) (T : MT) (w : World) (hw : WL w b i m) (hT : T.In w.heap.size w) (hlen : 0 < T.args.length) (r : Nat) (hn : T.n = r) (hr2 : r < 2 * i.R.length) (q : Nat → Bool)
    (hE : ∀ w', Below w.heap.size w w' → Calls Tryd.prog 59 #[.pointer (some ⟨b, 0, none⟩), T.args[0].val] w' (RetS3 q w')) :
    Calls Tryd.prog 98 #[.pointer (some ⟨b, 0, none⟩), T.val] w (RetS3 (fun x => decide (x < m) && subB (endsF i r x) q) w) := by
  obtain ⟨W1, W2, hW1, hs1, hW2, hs2, hB, hcc, hcr⟩ := meth_blks T w
  have hwh := whose_within i m b h256 T W2 (hw.later hB) (hT.later hB) hlen r hn hr2 q (fun w' hb => hE w' (hB.trans (hb.mono hB.size)))
  obtain ⟨c0, c1, c2⟩ := hcc W2 (Below.refl _ _)
  have HB := Lib.hid hB
  have HCR := Lib.hid hcr
  simp only [MT.val] at hwh ⊢
  clear hB hw hT hE hcr hcc hn
  go_enter Tryd.func98, Tryd.ntmps98
  go_wp2_with (go_at_call 142; refine hwh.mono ?_; clear hwh; rintro e w4 ⟨a4, b4, c4, d4, rfl, hsw4, hb4⟩; obtain ⟨⟨y0, y1, y2, y3⟩, z0, z1, z2, z3⟩ := blk4 (HCR.out w4 hb4))
  obtain ⟨q9, q10⟩ := store4 (HCR.out w4 hb4) (.int .u64 (a4 : Nat)) (.int .u64 (b4 : Nat)) (.int .u64 (c4 : Nat)) (.int .u64 (d4 : Nat))
  have hbE := (HB.out.trans (hb4.mono (by omega))).trans (below_grown q10 (by omega) (by have := hb4.size; omega))
  generalize ((((w4.setCell ⟨w.heap.size + 1, 0, none⟩ (.int .u64 (a4 : Nat))).setCell ⟨w.heap.size + 1, 1, none⟩ (.int .u64 (b4 : Nat))).setCell ⟨w.heap.size + 1, 2, none⟩ (.int .u64 (c4 : Nat))).setCell ⟨w.heap.size + 1, 3, none⟩ (.int .u64 (d4 : Nat))) = w10 at q9 hbE ⊢
  obtain ⟨⟨t0, t1, t2, t3⟩, -⟩ := blk4 q9
  refine bodyPost_ret (v := _) (by simp [results, Tryd.f98, go_sem, t0, t1, t2, t3]) rfl ⟨a4, b4, c4, d4, rfl, hsw4, hbE⟩

set_option maxRecDepth 100000 in
set_option maxHeartbeats 4000000 in
theorem elements_named (b : Nat) (nn : Int) (A : Option Addr) (c : Nat) (args : List MT) (w : World) (p : Nat → Bool)
    (hcal : ∀ w', Below w.heap.size w w' → Calls Tryd.prog 91 #[.pointer (some ⟨b, 0, none⟩), .agg #[.int .i64 0, .int .i64 nn, .slice A args.length c]] w' (RetS3 p w')) :
    Calls Tryd.prog 59 #[.pointer (some ⟨b, 0, none⟩), .agg #[.int .i64 0, .int .i64 nn, .slice A args.length c]] w (RetS3 p w) := by
  obtain ⟨W1, W2, hW1, hs1, hW2, hs2, hB, hcc, hcr⟩ := meth_blks (.mk 0 nn A c args) w
  simp only [MT.op, MT.n, MT.A, MT.args, MT.c] at hcc hW1
  obtain ⟨W3, hW3, hB3, hs3, hk3⟩ := newBlk W2 _ hs2 #[.func (.func 91) #[] #[], .func (.func 92) #[] #[], .func (.func 93) #[] #[], .func (.func 94) #[] #[], .func (.func 95) #[] #[], .func (.func 96) #[] #[], .func (.func 97) #[] #[], .func (.func 98) #[] #[]] 162
  have hB23 : Below W2.heap.size W2 W3 := by rw [hs2]; exact hB3
  have hB03 : Below w.heap.size w W3 := hB.trans (hB23.mono hB.size)
  obtain ⟨c0, c1, c2⟩ := hcc W3 hB23
  have n0 := cell_of_blk hk3 0
  simp only [List.getElem?_toArray, List.getElem?_cons_zero] at n0
  have hS : ∀ w', Below W3.heap.size W3 w' → (w'.cell? ⟨w.heap.size, 0, none⟩ = some (.int .i64 0) ∧ w'.cell? ⟨w.heap.size, 1, none⟩ = some (.int .i64 nn) ∧ w'.cell? ⟨w.heap.size, 2, none⟩ = some (.slice A args.length c)) ∧ w'.cell? ⟨w.heap.size + 1 + 1, 0, none⟩ = some (.func (.func 91) #[] #[]) := fun w' hb => ⟨hcc w' (hB23.trans (hb.mono hB23.size)), by have := cell_of_blk (blk_lat hk3 hb) 0; simpa using this⟩
  have hS2 : ∀ w' w'', Below W3.heap.size W3 w' → w'.grownBy w'' (some (w.heap.size + 1)) → (w''.cell? ⟨w.heap.size, 0, none⟩ = some (.int .i64 0) ∧ w''.cell? ⟨w.heap.size, 1, none⟩ = some (.int .i64 nn) ∧ w''.cell? ⟨w.heap.size, 2, none⟩ = some (.slice A args.length c)) ∧ w''.cell? ⟨w.heap.size + 1 + 1, 0, none⟩ = some (.func (.func 91) #[] #[]) := fun w' w'' hb hg => by
    obtain ⟨⟨u0, u1, u2⟩, u3⟩ := hS w' hb
    have hkc := hb.size
    have h1 : w''.heap[w.heap.size]? = w'.heap[w.heap.size]? := hg.block _ (by omega) (by simp)
    have h2 : w''.heap[w.heap.size + 1 + 1]? = w'.heap[w.heap.size + 1 + 1]? := hg.block _ (by omega) (by simp)
    have e1 : ∀ k, w''.cell? ⟨w.heap.size, k, none⟩ = w'.cell? ⟨w.heap.size, k, none⟩ := fun k => by simp only [World.cell?, h1]
    have e2 : ∀ k, w''.cell? ⟨w.heap.size + 1 + 1, k, none⟩ = w'.cell? ⟨w.heap.size + 1 + 1, k, none⟩ := fun k => by simp only [World.cell?, h2]
    exact ⟨⟨(e1 _).trans u0, (e1 _).trans u1, (e1 _).trans u2⟩, (e2 _).trans u3⟩
  have hd : Below W3.heap.size W3 W3.drew := (Below.refl _ W3).drew
  have hel := hcal W3.drew hB03.drew
  have HB := Lib.hid hB03
  have HCR := Lib.hid (show ∀ w', Below W3.heap.size W3 w' → w'.heap[w.heap.size + 1]? = some (.cells #[.int .u64 0, .int .u64 0, .int .u64 0, .int .u64 0] 111) from fun w' hb => hcr w' (hB23.trans (hb.mono hB23.size)))
  clear hcal hcr hcc hk3 hB hB3 hB23 hB03 c0 c1 c2 n0
  go_enter Tryd.func59, Tryd.ntmps59
  go_wp2_with fail
  go_region_held (fun w' => (w'.cell? ⟨w.heap.size, 0, none⟩ = some (.int .i64 0) ∧ w'.cell? ⟨w.heap.size, 1, none⟩ = some (.int .i64 nn) ∧ w'.cell? ⟨w.heap.size, 2, none⟩ = some (.slice A args.length c)) ∧ w'.cell? ⟨w.heap.size + 1 + 1, 0, none⟩ = some (.func (.func 91) #[] #[]))
    (first | exact hS _ hd | exact hS _ hb4 | exact hS2 _ _ hb4 q10)
    (first | (go_at_call 91; refine hel.mono ?_; rintro e w4 ⟨a4, b4, c4, d4, rfl, hsw4, hb4'⟩; have hb4 : Below W3.heap.size W3 w4 := hd.trans hb4'; obtain ⟨⟨y0, y1, y2, y3⟩, z0, z1, z2, z3⟩ := blk4 (HCR.out w4 hb4); obtain ⟨q9, q10⟩ := store4 (HCR.out w4 hb4) (.int .u64 (a4 : Nat)) (.int .u64 (b4 : Nat)) (.int .u64 (c4 : Nat)) (.int .u64 (d4 : Nat))))
  go_wp2
  have hbE := (HB.out.trans (hb4.mono (by omega))).trans (below_grown q10 (by omega) (by have := hb4.size; omega))
  generalize ((((w4.setCell ⟨w.heap.size + 1, 0, none⟩ (.int .u64 (a4 : Nat))).setCell ⟨w.heap.size + 1, 1, none⟩ (.int .u64 (b4 : Nat))).setCell ⟨w.heap.size + 1, 2, none⟩ (.int .u64 (c4 : Nat))).setCell ⟨w.heap.size + 1, 3, none⟩ (.int .u64 (d4 : Nat))) = w10 at q9 hbE ⊢
  obtain ⟨⟨t0, t1, t2, t3⟩, -⟩ := blk4 q9
  refine bodyPost_ret (v := _) (by simp [results, Tryd.f59, go_sem, t0, t1, t2, t3]) rfl ⟨a4, b4, c4, d4, rfl, hsw4, hbE⟩

set_option maxRecDepth 100000 in
set_option maxHeartbeats 4000000 in
theorem elements_everything (b : Nat) (nn : Int) (A : Option Addr) (c : Nat) (args : List MT) (w : World) (p : Nat → Bool)
    (hcal : ∀ w', Below w.heap.size w w' → Calls Tryd.prog 92 #[.pointer (some ⟨b, 0, none⟩), .agg #[.int .i64 1, .int .i64 nn, .slice A args.length c]] w' (RetS3 p w')) :
    Calls Tryd.prog 59 #[.pointer (some ⟨b, 0, none⟩), .agg #[.int .i64 1, .int .i64 nn, .slice A args.length c]] w (RetS3 p w) := by
  obtain ⟨W1, W2, hW1, hs1, hW2, hs2, hB, hcc, hcr⟩ := meth_blks (.mk 1 nn A c args) w
  simp only [MT.op, MT.n, MT.A, MT.args, MT.c] at hcc hW1
  obtain ⟨W3, hW3, hB3, hs3, hk3⟩ := newBlk W2 _ hs2 #[.func (.func 91) #[] #[], .func (.func 92) #[] #[], .func (.func 93) #[] #[], .func (.func 94) #[] #[], .func (.func 95) #[] #[], .func (.func 96) #[] #[], .func (.func 97) #[] #[], .func (.func 98) #[] #[]] 162
  have hB23 : Below W2.heap.size W2 W3 := by rw [hs2]; exact hB3
  have hB03 : Below w.heap.size w W3 := hB.trans (hB23.mono hB.size)
  obtain ⟨c0, c1, c2⟩ := hcc W3 hB23
  have n0 := cell_of_blk hk3 1
  simp only [List.getElem?_toArray, List.getElem?_cons_zero, List.getElem?_cons_succ] at n0
  have hS : ∀ w', Below W3.heap.size W3 w' → (w'.cell? ⟨w.heap.size, 0, none⟩ = some (.int .i64 1) ∧ w'.cell? ⟨w.heap.size, 1, none⟩ = some (.int .i64 nn) ∧ w'.cell? ⟨w.heap.size, 2, none⟩ = some (.slice A args.length c)) ∧ w'.cell? ⟨w.heap.size + 1 + 1, 1, none⟩ = some (.func (.func 92) #[] #[]) := fun w' hb => ⟨hcc w' (hB23.trans (hb.mono hB23.size)), by have := cell_of_blk (blk_lat hk3 hb) 1; simpa using this⟩
  have hS2 : ∀ w' w'', Below W3.heap.size W3 w' → w'.grownBy w'' (some (w.heap.size + 1)) → (w''.cell? ⟨w.heap.size, 0, none⟩ = some (.int .i64 1) ∧ w''.cell? ⟨w.heap.size, 1, none⟩ = some (.int .i64 nn) ∧ w''.cell? ⟨w.heap.size, 2, none⟩ = some (.slice A args.length c)) ∧ w''.cell? ⟨w.heap.size + 1 + 1, 1, none⟩ = some (.func (.func 92) #[] #[]) := fun w' w'' hb hg => by
    obtain ⟨⟨u0, u1, u2⟩, u3⟩ := hS w' hb
    have hkc := hb.size
    have h1 : w''.heap[w.heap.size]? = w'.heap[w.heap.size]? := hg.block _ (by omega) (by simp)
    have h2 : w''.heap[w.heap.size + 1 + 1]? = w'.heap[w.heap.size + 1 + 1]? := hg.block _ (by omega) (by simp)
    have e1 : ∀ k, w''.cell? ⟨w.heap.size, k, none⟩ = w'.cell? ⟨w.heap.size, k, none⟩ := fun k => by simp only [World.cell?, h1]
    have e2 : ∀ k, w''.cell? ⟨w.heap.size + 1 + 1, k, none⟩ = w'.cell? ⟨w.heap.size + 1 + 1, k, none⟩ := fun k => by simp only [World.cell?, h2]
    exact ⟨⟨(e1 _).trans u0, (e1 _).trans u1, (e1 _).trans u2⟩, (e2 _).trans u3⟩
  have hd : Below W3.heap.size W3 W3.drew := (Below.refl _ W3).drew
  have hel := hcal W3.drew hB03.drew
  have HB := Lib.hid hB03
  have HCR := Lib.hid (show ∀ w', Below W3.heap.size W3 w' → w'.heap[w.heap.size + 1]? = some (.cells #[.int .u64 0, .int .u64 0, .int .u64 0, .int .u64 0] 111) from fun w' hb => hcr w' (hB23.trans (hb.mono hB23.size)))
  clear hcal hcr hcc hk3 hB hB3 hB23 hB03 c0 c1 c2 n0
  go_enter Tryd.func59, Tryd.ntmps59
  go_wp2_with fail
  go_region_held (fun w' => (w'.cell? ⟨w.heap.size, 0, none⟩ = some (.int .i64 1) ∧ w'.cell? ⟨w.heap.size, 1, none⟩ = some (.int .i64 nn) ∧ w'.cell? ⟨w.heap.size, 2, none⟩ = some (.slice A args.length c)) ∧ w'.cell? ⟨w.heap.size + 1 + 1, 1, none⟩ = some (.func (.func 92) #[] #[]))
    (first | exact hS _ hd | exact hS _ hb4 | exact hS2 _ _ hb4 q10)
    (first | (go_at_call 92; refine hel.mono ?_; rintro e w4 ⟨a4, b4, c4, d4, rfl, hsw4, hb4'⟩; have hb4 : Below W3.heap.size W3 w4 := hd.trans hb4'; obtain ⟨⟨y0, y1, y2, y3⟩, z0, z1, z2, z3⟩ := blk4 (HCR.out w4 hb4); obtain ⟨q9, q10⟩ := store4 (HCR.out w4 hb4) (.int .u64 (a4 : Nat)) (.int .u64 (b4 : Nat)) (.int .u64 (c4 : Nat)) (.int .u64 (d4 : Nat))))
  go_wp2
  have hbE := (HB.out.trans (hb4.mono (by omega))).trans (below_grown q10 (by omega) (by have := hb4.size; omega))
  generalize ((((w4.setCell ⟨w.heap.size + 1, 0, none⟩ (.int .u64 (a4 : Nat))).setCell ⟨w.heap.size + 1, 1, none⟩ (.int .u64 (b4 : Nat))).setCell ⟨w.heap.size + 1, 2, none⟩ (.int .u64 (c4 : Nat))).setCell ⟨w.heap.size + 1, 3, none⟩ (.int .u64 (d4 : Nat))) = w10 at q9 hbE ⊢
  obtain ⟨⟨t0, t1, t2, t3⟩, -⟩ := blk4 q9
  refine bodyPost_ret (v := _) (by simp [results, Tryd.f59, go_sem, t0, t1, t2, t3]) rfl ⟨a4, b4, c4, d4, rfl, hsw4, hbE⟩

set_option maxRecDepth 100000 in
set_option maxHeartbeats 4000000 in
theorem elements_nothing (b : Nat) (nn : Int) (A : Option Addr) (c : Nat) (args : List MT) (w : World) (p : Nat → Bool)
    (hcal : ∀ w', Below w.heap.size w w' → Calls Tryd.prog 93 #[.pointer (some ⟨b, 0, none⟩), .agg #[.int .i64 2, .int .i64 nn, .slice A args.length c]] w' (RetS3 p w')) :
    Calls Tryd.prog 59 #[.pointer (some ⟨b, 0, none⟩), .agg #[.int .i64 2, .int .i64 nn, .slice A args.length c]] w (RetS3 p w) := by
  obtain ⟨W1, W2, hW1, hs1, hW2, hs2, hB, hcc, hcr⟩ := meth_blks (.mk 2 nn A c args) w
  simp only [MT.op, MT.n, MT.A, MT.args, MT.c] at hcc hW1
  obtain ⟨W3, hW3, hB3, hs3, hk3⟩ := newBlk W2 _ hs2 #[.func (.func 91) #[] #[], .func (.func 92) #[] #[], .func (.func 93) #[] #[], .func (.func 94) #[] #[], .func (.func 95) #[] #[], .func (.func 96) #[] #[], .func (.func 97) #[] #[], .func (.func 98) #[] #[]] 162
  have hB23 : Below W2.heap.size W2 W3 := by rw [hs2]; exact hB3
  have hB03 : Below w.heap.size w W3 := hB.trans (hB23.mono hB.size)
  obtain ⟨c0, c1, c2⟩ := hcc W3 hB23
  have n0 := cell_of_blk hk3 2
  simp only [List.getElem?_toArray, List.getElem?_cons_zero, List.getElem?_cons_succ] at n0
  have hS : ∀ w', Below W3.heap.size W3 w' → (w'.cell? ⟨w.heap.size, 0, none⟩ = some (.int .i64 2) ∧ w'.cell? ⟨w.heap.size, 1, none⟩ = some (.int .i64 nn) ∧ w'.cell? ⟨w.heap.size, 2, none⟩ = some (.slice A args.length c)) ∧ w'.cell? ⟨w.heap.size + 1 + 1, 2, none⟩ = some (.func (.func 93) #[] #[]) := fun w' hb => ⟨hcc w' (hB23.trans (hb.mono hB23.size)), by have := cell_of_blk (blk_lat hk3 hb) 2; simpa using this⟩
  have hS2 : ∀ w' w'', Below W3.heap.size W3 w' → w'.grownBy w'' (some (w.heap.size + 1)) → (w''.cell? ⟨w.heap.size, 0, none⟩ = some (.int .i64 2) ∧ w''.cell? ⟨w.heap.size, 1, none⟩ = some (.int .i64 nn) ∧ w''.cell? ⟨w.heap.size, 2, none⟩ = some (.slice A args.length c)) ∧ w''.cell? ⟨w.heap.size + 1 + 1, 2, none⟩ = some (.func (.func 93) #[] #[]) := fun w' w'' hb hg => by
    obtain ⟨⟨u0, u1, u2⟩, u3⟩ := hS w' hb
    have hkc := hb.size
    have h1 : w''.heap[w.heap.size]? = w'.heap[w.heap.size]? := hg.block _ (by omega) (by simp)
    have h2 : w''.heap[w.heap.size + 1 + 1]? = w'.heap[w.heap.size + 1 + 1]? := hg.block _ (by omega) (by simp)
    have e1 : ∀ k, w''.cell? ⟨w.heap.size, k, none⟩ = w'.cell? ⟨w.heap.size, k, none⟩ := fun k => by simp only [World.cell?, h1]
    have e2 : ∀ k, w''.cell? ⟨w.heap.size + 1 + 1, k, none⟩ = w'.cell? ⟨w.heap.size + 1 + 1, k, none⟩ := fun k => by simp only [World.cell?, h2]
    exact ⟨⟨(e1 _).trans u0, (e1 _).trans u1, (e1 _).trans u2⟩, (e2 _).trans u3⟩
  have hd : Below W3.heap.size W3 W3.drew := (Below.refl _ W3).drew
  have hel := hcal W3.drew hB03.drew
  have HB := Lib.hid hB03
  have HCR := Lib.hid (show ∀ w', Below W3.heap.size W3 w' → w'.heap[w.heap.size + 1]? = some (.cells #[.int .u64 0, .int .u64 0, .int .u64 0, .int .u64 0] 111) from fun w' hb => hcr w' (hB23.trans (hb.mono hB23.size)))
  clear hcal hcr hcc hk3 hB hB3 hB23 hB03 c0 c1 c2 n0
  go_enter Tryd.func59, Tryd.ntmps59
  go_wp2_with fail
  go_region_held (fun w' => (w'.cell? ⟨w.heap.size, 0, none⟩ = some (.int .i64 2) ∧ w'.cell? ⟨w.heap.size, 1, none⟩ = some (.int .i64 nn) ∧ w'.cell? ⟨w.heap.size, 2, none⟩ = some (.slice A args.length c)) ∧ w'.cell? ⟨w.heap.size + 1 + 1, 2, none⟩ = some (.func (.func 93) #[] #[]))
    (first | exact hS _ hd | exact hS _ hb4 | exact hS2 _ _ hb4 q10)
    (first | (go_at_call 93; refine hel.mono ?_; rintro e w4 ⟨a4, b4, c4, d4, rfl, hsw4, hb4'⟩; have hb4 : Below W3.heap.size W3 w4 := hd.trans hb4'; obtain ⟨⟨y0, y1, y2, y3⟩, z0, z1, z2, z3⟩ := blk4 (HCR.out w4 hb4); obtain ⟨q9, q10⟩ := store4 (HCR.out w4 hb4) (.int .u64 (a4 : Nat)) (.int .u64 (b4 : Nat)) (.int .u64 (c4 : Nat)) (.int .u64 (d4 : Nat))))
  go_wp2
  have hbE := (HB.out.trans (hb4.mono (by omega))).trans (below_grown q10 (by omega) (by have := hb4.size; omega))
  generalize ((((w4.setCell ⟨w.heap.size + 1, 0, none⟩ (.int .u64 (a4 : Nat))).setCell ⟨w.heap.size + 1, 1, none⟩ (.int .u64 (b4 : Nat))).setCell ⟨w.heap.size + 1, 2, none⟩ (.int .u64 (c4 : Nat))).setCell ⟨w.heap.size + 1, 3, none⟩ (.int .u64 (d4 : Nat))) = w10 at q9 hbE ⊢
  obtain ⟨⟨t0, t1, t2, t3⟩, -⟩ := blk4 q9
  refine bodyPost_ret (v := _) (by simp [results, Tryd.f59, go_sem, t0, t1, t2, t3]) rfl ⟨a4, b4, c4, d4, rfl, hsw4, hbE⟩

set_option maxRecDepth 100000 in
set_option maxHeartbeats 4000000 in
theorem elements_others (b : Nat) (nn : Int) (A : Option Addr) (c : Nat) (args : List MT) (w : World) (p : Nat → Bool)
    (hcal : ∀ w', Below w.heap.size w w' → Calls Tryd.prog 94 #[.pointer (some ⟨b, 0, none⟩), .agg #[.int .i64 3, .int .i64 nn, .slice A args.length c]] w' (RetS3 p w')) :
    Calls Tryd.prog 59 #[.pointer (some ⟨b, 0, none⟩), .agg #[.int .i64 3, .int .i64 nn, .slice A args.length c]] w (RetS3 p w) := by
  obtain ⟨W1, W2, hW1, hs1, hW2, hs2, hB, hcc, hcr⟩ := meth_blks (.mk 3 nn A c args) w
  simp only [MT.op, MT.n, MT.A, MT.args, MT.c] at hcc hW1
  obtain ⟨W3, hW3, hB3, hs3, hk3⟩ := newBlk W2 _ hs2 #[.func (.func 91) #[] #[], .func (.func 92) #[] #[], .func (.func 93) #[] #[], .func (.func 94) #[] #[], .func (.func 95) #[] #[], .func (.func 96) #[] #[], .func (.func 97) #[] #[], .func (.func 98) #[] #[]] 162
  have hB23 : Below W2.heap.size W2 W3 := by rw [hs2]; exact hB3
  have hB03 : Below w.heap.size w W3 := hB.trans (hB23.mono hB.size)
  obtain ⟨c0, c1, c2⟩ := hcc W3 hB23
  have n0 := cell_of_blk hk3 3
  simp only [List.getElem?_toArray, List.getElem?_cons_zero, List.getElem?_cons_succ] at n0
  have hS : ∀ w', Below W3.heap.size W3 w' → (w'.cell? ⟨w.heap.size, 0, none⟩ = some (.int .i64 3) ∧ w'.cell? ⟨w.heap.size, 1, none⟩ = some (.int .i64 nn) ∧ w'.cell? ⟨w.heap.size, 2, none⟩ = some (.slice A args.length c)) ∧ w'.cell? ⟨w.heap.size + 1 + 1, 3, none⟩ = some (.func (.func 94) #[] #[]) := fun w' hb => ⟨hcc w' (hB23.trans (hb.mono hB23.size)), by have := cell_of_blk (blk_lat hk3 hb) 3; simpa using this⟩
  have hS2 : ∀ w' w'', Below W3.heap.size W3 w' → w'.grownBy w'' (some (w.heap.size + 1)) → (w''.cell? ⟨w.heap.size, 0, none⟩ = some (.int .i64 3) ∧ w''.cell? ⟨w.heap.size, 1, none⟩ = some (.int .i64 nn) ∧ w''.cell? ⟨w.heap.size, 2, none⟩ = some (.slice A args.length c)) ∧ w''.cell? ⟨w.heap.size + 1 + 1, 3, none⟩ = some (.func (.func 94) #[] #[]) := fun w' w'' hb hg => by
    obtain ⟨⟨u0, u1, u2⟩, u3⟩ := hS w' hb
    have hkc := hb.size
    have h1 : w''.heap[w.heap.size]? = w'.heap[w.heap.size]? := hg.block _ (by omega) (by simp)
    have h2 : w''.heap[w.heap.size + 1 + 1]? = w'.heap[w.heap.size + 1 + 1]? := hg.block _ (by omega) (by simp)
    have e1 : ∀ k, w''.cell? ⟨w.heap.size, k, none⟩ = w'.cell? ⟨w.heap.size, k, none⟩ := fun k => by simp only [World.cell?, h1]
    have e2 : ∀ k, w''.cell? ⟨w.heap.size + 1 + 1, k, none⟩ = w'.cell? ⟨w.heap.size + 1 + 1, k, none⟩ := fun k => by simp only [World.cell?, h2]
    exact ⟨⟨(e1 _).trans u0, (e1 _).trans u1, (e1 _).trans u2⟩, (e2 _).trans u3⟩
  have hd : Below W3.heap.size W3 W3.drew := (Below.refl _ W3).drew
  have hel := hcal W3.drew hB03.drew
  have HB := Lib.hid hB03
  have HCR := Lib.hid (show ∀ w', Below W3.heap.size W3 w' → w'.heap[w.heap.size + 1]? = some (.cells #[.int .u64 0, .int .u64 0, .int .u64 0, .int .u64 0] 111) from fun w' hb => hcr w' (hB23.trans (hb.mono hB23.size)))
  clear hcal hcr hcc hk3 hB hB3 hB23 hB03 c0 c1 c2 n0
  go_enter Tryd.func59, Tryd.ntmps59
  go_wp2_with fail
  go_region_held (fun w' => (w'.cell? ⟨w.heap.size, 0, none⟩ = some (.int .i64 3) ∧ w'.cell? ⟨w.heap.size, 1, none⟩ = some (.int .i64 nn) ∧ w'.cell? ⟨w.heap.size, 2, none⟩ = some (.slice A args.length c)) ∧ w'.cell? ⟨w.heap.size + 1 + 1, 3, none⟩ = some (.func (.func 94) #[] #[]))
    (first | exact hS _ hd | exact hS _ hb4 | exact hS2 _ _ hb4 q10)
    (first | (go_at_call 94; refine hel.mono ?_; rintro e w4 ⟨a4, b4, c4, d4, rfl, hsw4, hb4'⟩; have hb4 : Below W3.heap.size W3 w4 := hd.trans hb4'; obtain ⟨⟨y0, y1, y2, y3⟩, z0, z1, z2, z3⟩ := blk4 (HCR.out w4 hb4); obtain ⟨q9, q10⟩ := store4 (HCR.out w4 hb4) (.int .u64 (a4 : Nat)) (.int .u64 (b4 : Nat)) (.int .u64 (c4 : Nat)) (.int .u64 (d4 : Nat))))
  go_wp2
  have hbE := (HB.out.trans (hb4.mono (by omega))).trans (below_grown q10 (by omega) (by have := hb4.size; omega))
  generalize ((((w4.setCell ⟨w.heap.size + 1, 0, none⟩ (.int .u64 (a4 : Nat))).setCell ⟨w.heap.size + 1, 1, none⟩ (.int .u64 (b4 : Nat))).setCell ⟨w.heap.size + 1, 2, none⟩ (.int .u64 (c4 : Nat))).setCell ⟨w.heap.size + 1, 3, none⟩ (.int .u64 (d4 : Nat))) = w10 at q9 hbE ⊢
  obtain ⟨⟨t0, t1, t2, t3⟩, -⟩ := blk4 q9
  refine bodyPost_ret (v := _) (by simp [results, Tryd.f59, go_sem, t0, t1, t2, t3]) rfl ⟨a4, b4, c4, d4, rfl, hsw4, hbE⟩

set_option maxRecDepth 100000 in
set_option maxHeartbeats 4000000 in
theorem elements_both (b : Nat) (nn : Int) (A : Option Addr) (c : Nat) (args : List MT) (w : World) (p : Nat → Bool)
    (hcal : ∀ w', Below w.heap.size w w' → Calls Tryd.prog 95 #[.pointer (some ⟨b, 0, none⟩), .agg #[.int .i64 4, .int .i64 nn, .slice A args.length c]] w' (RetS3 p w')) :
    Calls Tryd.prog 59 #[.pointer (some ⟨b, 0, none⟩), .agg #[.int .i64 4, .int .i64 nn, .slice A args.length c]] w (RetS3 p w) := by
  obtain ⟨W1, W2, hW1, hs1, hW2, hs2, hB, hcc, hcr⟩ := meth_blks (.mk 4 nn A c args) w
  simp only [MT.op, MT.n, MT.A, MT.args, MT.c] at hcc hW1
  obtain ⟨W3, hW3, hB3, hs3, hk3⟩ := newBlk W2 _ hs2 #[.func (.func 91) #[] #[], .func (.func 92) #[] #[], .func (.func 93) #[] #[], .func (.func 94) #[] #[], .func (.func 95) #[] #[], .func (.func 96) #[] #[], .func (.func 97) #[] #[], .func (.func 98) #[] #[]] 162
  have hB23 : Below W2.heap.size W2 W3 := by rw [hs2]; exact hB3
  have hB03 : Below w.heap.size w W3 := hB.trans (hB23.mono hB.size)
  obtain ⟨c0, c1, c2⟩ := hcc W3 hB23
  have n0 := cell_of_blk hk3 4
  simp only [List.getElem?_toArray, List.getElem?_cons_zero, List.getElem?_cons_succ] at n0
  have hS : ∀ w', Below W3.heap.size W3 w' → (w'.cell? ⟨w.heap.size, 0, none⟩ = some (.int .i64 4) ∧ w'.cell? ⟨w.heap.size, 1, none⟩ = some (.int .i64 nn) ∧ w'.cell? ⟨w.heap.size, 2, none⟩ = some (.slice A args.length c)) ∧ w'.cell? ⟨w.heap.size + 1 + 1, 4, none⟩ = some (.func (.func 95) #[] #[]) := fun w' hb => ⟨hcc w' (hB23.trans (hb.mono hB23.size)), by have := cell_of_blk (blk_lat hk3 hb) 4; simpa using this⟩
  have hS2 : ∀ w' w'', Below W3.heap.size W3 w' → w'.grownBy w'' (some (w.heap.size + 1)) → (w''.cell? ⟨w.heap.size, 0, none⟩ = some (.int .i64 4) ∧ w''.cell? ⟨w.heap.size, 1, none⟩ = some (.int .i64 nn) ∧ w''.cell? ⟨w.heap.size, 2, none⟩ = some (.slice A args.length c)) ∧ w''.cell? ⟨w.heap.size + 1 + 1, 4, none⟩ = some (.func (.func 95) #[] #[]) := fun w' w'' hb hg => by
    obtain ⟨⟨u0, u1, u2⟩, u3⟩ := hS w' hb
    have hkc := hb.size
    have h1 : w''.heap[w.heap.size]? = w'.heap[w.heap.size]? := hg.block _ (by omega) (by simp)
    have h2 : w''.heap[w.heap.size + 1 + 1]? = w'.heap[w.heap.size + 1 + 1]? := hg.block _ (by omega) (by simp)
    have e1 : ∀ k, w''.cell? ⟨w.heap.size, k, none⟩ = w'.cell? ⟨w.heap.size, k, none⟩ := fun k => by simp only [World.cell?, h1]
    have e2 : ∀ k, w''.cell? ⟨w.heap.size + 1 + 1, k, none⟩ = w'.cell? ⟨w.heap.size + 1 + 1, k, none⟩ := fun k => by simp only [World.cell?, h2]
    exact ⟨⟨(e1 _).trans u0, (e1 _).trans u1, (e1 _).trans u2⟩, (e2 _).trans u3⟩
  have hd : Below W3.heap.size W3 W3.drew := (Below.refl _ W3).drew
  have hel := hcal W3.drew hB03.drew
  have HB := Lib.hid hB03
  have HCR := Lib.hid (show ∀ w', Below W3.heap.size W3 w' → w'.heap[w.heap.size + 1]? = some (.cells #[.int .u64 0, .int .u64 0, .int .u64 0, .int .u64 0] 111) from fun w' hb => hcr w' (hB23.trans (hb.mono hB23.size)))
  clear hcal hcr hcc hk3 hB hB3 hB23 hB03 c0 c1 c2 n0
  go_enter Tryd.func59, Tryd.ntmps59
  go_wp2_with fail
  go_region_held (fun w' => (w'.cell? ⟨w.heap.size, 0, none⟩ = some (.int .i64 4) ∧ w'.cell? ⟨w.heap.size, 1, none⟩ = some (.int .i64 nn) ∧ w'.cell? ⟨w.heap.size, 2, none⟩ = some (.slice A args.length c)) ∧ w'.cell? ⟨w.heap.size + 1 + 1, 4, none⟩ = some (.func (.func 95) #[] #[]))
    (first | exact hS _ hd | exact hS _ hb4 | exact hS2 _ _ hb4 q10)
    (first | (go_at_call 95; refine hel.mono ?_; rintro e w4 ⟨a4, b4, c4, d4, rfl, hsw4, hb4'⟩; have hb4 : Below W3.heap.size W3 w4 := hd.trans hb4'; obtain ⟨⟨y0, y1, y2, y3⟩, z0, z1, z2, z3⟩ := blk4 (HCR.out w4 hb4); obtain ⟨q9, q10⟩ := store4 (HCR.out w4 hb4) (.int .u64 (a4 : Nat)) (.int .u64 (b4 : Nat)) (.int .u64 (c4 : Nat)) (.int .u64 (d4 : Nat))))
  go_wp2
  have hbE := (HB.out.trans (hb4.mono (by omega))).trans (below_grown q10 (by omega) (by have := hb4.size; omega))
  generalize ((((w4.setCell ⟨w.heap.size + 1, 0, none⟩ (.int .u64 (a4 : Nat))).setCell ⟨w.heap.size + 1, 1, none⟩ (.int .u64 (b4 : Nat))).setCell ⟨w.heap.size + 1, 2, none⟩ (.int .u64 (c4 : Nat))).setCell ⟨w.heap.size + 1, 3, none⟩ (.int .u64 (d4 : Nat))) = w10 at q9 hbE ⊢
  obtain ⟨⟨t0, t1, t2, t3⟩, -⟩ := blk4 q9
  refine bodyPost_ret (v := _) (by simp [results, Tryd.f59, go_sem, t0, t1, t2, t3]) rfl ⟨a4, b4, c4, d4, rfl, hsw4, hbE⟩

set_option maxRecDepth 100000 in
set_option maxHeartbeats 4000000 in
theorem elements_either (b : Nat) (nn : Int) (A : Option Addr) (c : Nat) (args : List MT) (w : World) (p : Nat → Bool)
    (hcal : ∀ w', Below w.heap.size w w' → Calls Tryd.prog 96 #[.pointer (some ⟨b, 0, none⟩), .agg #[.int .i64 5, .int .i64 nn, .slice A args.length c]] w' (RetS3 p w')) :
    Calls Tryd.prog 59 #[.pointer (some ⟨b, 0, none⟩), .agg #[.int .i64 5, .int .i64 nn, .slice A args.length c]] w (RetS3 p w) := by
  obtain ⟨W1, W2, hW1, hs1, hW2, hs2, hB, hcc, hcr⟩ := meth_blks (.mk 5 nn A c args) w
  simp only [MT.op, MT.n, MT.A, MT.args, MT.c] at hcc hW1
  obtain ⟨W3, hW3, hB3, hs3, hk3⟩ := newBlk W2 _ hs2 #[.func (.func 91) #[] #[], .func (.func 92) #[] #[], .func (.func 93) #[] #[], .func (.func 94) #[] #[], .func (.func 95) #[] #[], .func (.func 96) #[] #[], .func (.func 97) #[] #[], .func (.func 98) #[] #[]] 162
  have hB23 : Below W2.heap.size W2 W3 := by rw [hs2]; exact hB3
  have hB03 : Below w.heap.size w W3 := hB.trans (hB23.mono hB.size)
  obtain ⟨c0, c1, c2⟩ := hcc W3 hB23
  have n0 := cell_of_blk hk3 5
  simp only [List.getElem?_toArray, List.getElem?_cons_zero, List.getElem?_cons_succ] at n0
  have hS : ∀ w', Below W3.heap.size W3 w' → (w'.cell? ⟨w.heap.size, 0, none⟩ = some (.int .i64 5) ∧ w'.cell? ⟨w.heap.size, 1, none⟩ = some (.int .i64 nn) ∧ w'.cell? ⟨w.heap.size, 2, none⟩ = some (.slice A args.length c)) ∧ w'.cell? ⟨w.heap.size + 1 + 1, 5, none⟩ = some (.func (.func 96) #[] #[]) := fun w' hb => ⟨hcc w' (hB23.trans (hb.mono hB23.size)), by have := cell_of_blk (blk_lat hk3 hb) 5; simpa using this⟩
  have hS2 : ∀ w' w'', Below W3.heap.size W3 w' → w'.grownBy w'' (some (w.heap.size + 1)) → (w''.cell? ⟨w.heap.size, 0, none⟩ = some (.int .i64 5) ∧ w''.cell? ⟨w.heap.size, 1, none⟩ = some (.int .i64 nn) ∧ w''.cell? ⟨w.heap.size, 2, none⟩ = some (.slice A args.length c)) ∧ w''.cell? ⟨w.heap.size + 1 + 1, 5, none⟩ = some (.func (.func 96) #[] #[]) := fun w' w'' hb hg => by
    obtain ⟨⟨u0, u1, u2⟩, u3⟩ := hS w' hb
    have hkc := hb.size
    have h1 : w''.heap[w.heap.size]? = w'.heap[w.heap.size]? := hg.block _ (by omega) (by simp)
    have h2 : w''.heap[w.heap.size + 1 + 1]? = w'.heap[w.heap.size + 1 + 1]? := hg.block _ (by omega) (by simp)
    have e1 : ∀ k, w''.cell? ⟨w.heap.size, k, none⟩ = w'.cell? ⟨w.heap.size, k, none⟩ := fun k => by simp only [World.cell?, h1]
    have e2 : ∀ k, w''.cell? ⟨w.heap.size + 1 + 1, k, none⟩ = w'.cell? ⟨w.heap.size + 1 + 1, k, none⟩ := fun k => by simp only [World.cell?, h2]
    exact ⟨⟨(e1 _).trans u0, (e1 _).trans u1, (e1 _).trans u2⟩, (e2 _).trans u3⟩
  have hd : Below W3.heap.size W3 W3.drew := (Below.refl _ W3).drew
  have hel := hcal W3.drew hB03.drew
  have HB := Lib.hid hB03
  have HCR := Lib.hid (show ∀ w', Below W3.heap.size W3 w' → w'.heap[w.heap.size + 1]? = some (.cells #[.int .u64 0, .int .u64 0, .int .u64 0, .int .u64 0] 111) from fun w' hb => hcr w' (hB23.trans (hb.mono hB23.size)))
  clear hcal hcr hcc hk3 hB hB3 hB23 hB03 c0 c1 c2 n0
  go_enter Tryd.func59, Tryd.ntmps59
  go_wp2_with fail
  go_region_held (fun w' => (w'.cell? ⟨w.heap.size, 0, none⟩ = some (.int .i64 5) ∧ w'.cell? ⟨w.heap.size, 1, none⟩ = some (.int .i64 nn) ∧ w'.cell? ⟨w.heap.size, 2, none⟩ = some (.slice A args.length c)) ∧ w'.cell? ⟨w.heap.size + 1 + 1, 5, none⟩ = some (.func (.func 96) #[] #[]))
    (first | exact hS _ hd | exact hS _ hb4 | exact hS2 _ _ hb4 q10)
    (first | (go_at_call 96; refine hel.mono ?_; rintro e w4 ⟨a4, b4, c4, d4, rfl, hsw4, hb4'⟩; have hb4 : Below W3.heap.size W3 w4 := hd.trans hb4'; obtain ⟨⟨y0, y1, y2, y3⟩, z0, z1, z2, z3⟩ := blk4 (HCR.out w4 hb4); obtain ⟨q9, q10⟩ := store4 (HCR.out w4 hb4) (.int .u64 (a4 : Nat)) (.int .u64 (b4 : Nat)) (.int .u64 (c4 : Nat)) (.int .u64 (d4 : Nat))))
  go_wp2
  have hbE := (HB.out.trans (hb4.mono (by omega))).trans (below_grown q10 (by omega) (by have := hb4.size; omega))
  generalize ((((w4.setCell ⟨w.heap.size + 1, 0, none⟩ (.int .u64 (a4 : Nat))).setCell ⟨w.heap.size + 1, 1, none⟩ (.int .u64 (b4 : Nat))).setCell ⟨w.heap.size + 1, 2, none⟩ (.int .u64 (c4 : Nat))).setCell ⟨w.heap.size + 1, 3, none⟩ (.int .u64 (d4 : Nat))) = w10 at q9 hbE ⊢
  obtain ⟨⟨t0, t1, t2, t3⟩, -⟩ := blk4 q9
  refine bodyPost_ret (v := _) (by simp [results, Tryd.f59, go_sem, t0, t1, t2, t3]) rfl ⟨a4, b4, c4, d4, rfl, hsw4, hbE⟩

set_option maxRecDepth 100000 in
set_option maxHeartbeats 4000000 in
theorem elements_withSome (b : Nat) (nn : Int) (A : Option Addr) (c : Nat) (args : List MT) (w : World) (p : Nat → Bool)
    (hcal : ∀ w', Below w.heap.size w w' → Calls Tryd.prog 97 #[.pointer (some ⟨b, 0, none⟩), .agg #[.int .i64 6, .int .i64 nn, .slice A args.length c]] w' (RetS3 p w')) :
    Calls Tryd.prog 59 #[.pointer (some ⟨b, 0, none⟩), .agg #[.int .i64 6, .int .i64 nn, .slice A args.length c]] w (RetS3 p w) := by
  obtain ⟨W1, W2, hW1, hs1, hW2, hs2, hB, hcc, hcr⟩ := meth_blks (.mk 6 nn A c args) w
  simp only [MT.op, MT.n, MT.A, MT.args, MT.c] at hcc hW1
  obtain ⟨W3, hW3, hB3, hs3, hk3⟩ := newBlk W2 _ hs2 #[.func (.func 91) #[] #[], .func (.func 92) #[] #[], .func (.func 93) #[] #[], .func (.func 94) #[] #[], .func (.func 95) #[] #[], .func (.func 96) #[] #[], .func (.func 97) #[] #[], .func (.func 98) #[] #[]] 162
  have hB23 : Below W2.heap.size W2 W3 := by rw [hs2]; exact hB3
  have hB03 : Below w.heap.size w W3 := hB.trans (hB23.mono hB.size)
  obtain ⟨c0, c1, c2⟩ := hcc W3 hB23
  have n0 := cell_of_blk hk3 6
  simp only [List.getElem?_toArray, List.getElem?_cons_zero, List.getElem?_cons_succ] at n0
  have hS : ∀ w', Below W3.heap.size W3 w' → (w'.cell? ⟨w.heap.size, 0, none⟩ = some (.int .i64 6) ∧ w'.cell? ⟨w.heap.size, 1, none⟩ = some (.int .i64 nn) ∧ w'.cell? ⟨w.heap.size, 2, none⟩ = some (.slice A args.length c)) ∧ w'.cell? ⟨w.heap.size + 1 + 1, 6, none⟩ = some (.func (.func 97) #[] #[]) := fun w' hb => ⟨hcc w' (hB23.trans (hb.mono hB23.size)), by have := cell_of_blk (blk_lat hk3 hb) 6; simpa using this⟩
  have hS2 : ∀ w' w'', Below W3.heap.size W3 w' → w'.grownBy w'' (some (w.heap.size + 1)) → (w''.cell? ⟨w.heap.size, 0, none⟩ = some (.int .i64 6) ∧ w''.cell? ⟨w.heap.size, 1, none⟩ = some (.int .i64 nn) ∧ w''.cell? ⟨w.heap.size, 2, none⟩ = some (.slice A args.length c)) ∧ w''.cell? ⟨w.heap.size + 1 + 1, 6, none⟩ = some (.func (.func 97) #[] #[]) := fun w' w'' hb hg => by
    obtain ⟨⟨u0, u1, u2⟩, u3⟩ := hS w' hb
    have hkc := hb.size
    have h1 : w''.heap[w.heap.size]? = w'.heap[w.heap.size]? := hg.block _ (by omega) (by simp)
    have h2 : w''.heap[w.heap.size + 1 + 1]? = w'.heap[w.heap.size + 1 + 1]? := hg.block _ (by omega) (by simp)
    have e1 : ∀ k, w''.cell? ⟨w.heap.size, k, none⟩ = w'.cell? ⟨w.heap.size, k, none⟩ := fun k => by simp only [World.cell?, h1]
    have e2 : ∀ k, w''.cell? ⟨w.heap.size + 1 + 1, k, none⟩ = w'.cell? ⟨w.heap.size + 1 + 1, k, none⟩ := fun k => by simp only [World.cell?, h2]
    exact ⟨⟨(e1 _).trans u0, (e1 _).trans u1, (e1 _).trans u2⟩, (e2 _).trans u3⟩
  have hd : Below W3.heap.size W3 W3.drew := (Below.refl _ W3).drew
  have hel := hcal W3.drew hB03.drew
  have HB := Lib.hid hB03
  have HCR := Lib.hid (show ∀ w', Below W3.heap.size W3 w' → w'.heap[w.heap.size + 1]? = some (.cells #[.int .u64 0, .int .u64 0, .int .u64 0, .int .u64 0] 111) from fun w' hb => hcr w' (hB23.trans (hb.mono hB23.size)))
  clear hcal hcr hcc hk3 hB hB3 hB23 hB03 c0 c1 c2 n0
  go_enter Tryd.func59, Tryd.ntmps59
  go_wp2_with fail
  go_region_held (fun w' => (w'.cell? ⟨w.heap.size, 0, none⟩ = some (.int .i64 6) ∧ w'.cell? ⟨w.heap.size, 1, none⟩ = some (.int .i64 nn) ∧ w'.cell? ⟨w.heap.size, 2, none⟩ = some (.slice A args.length c)) ∧ w'.cell? ⟨w.heap.size + 1 + 1, 6, none⟩ = some (.func (.func 97) #[] #[]))
    (first | exact hS _ hd | exact hS _ hb4 | exact hS2 _ _ hb4 q10)
    (first | (go_at_call 97; refine hel.mono ?_; rintro e w4 ⟨a4, b4, c4, d4, rfl, hsw4, hb4'⟩; have hb4 : Below W3.heap.size W3 w4 := hd.trans hb4'; obtain ⟨⟨y0, y1, y2, y3⟩, z0, z1, z2, z3⟩ := blk4 (HCR.out w4 hb4); obtain ⟨q9, q10⟩ := store4 (HCR.out w4 hb4) (.int .u64 (a4 : Nat)) (.int .u64 (b4 : Nat)) (.int .u64 (c4 : Nat)) (.int .u64 (d4 : Nat))))
  go_wp2
  have hbE := (HB.out.trans (hb4.mono (by omega))).trans (below_grown q10 (by omega) (by have := hb4.size; omega))
  generalize ((((w4.setCell ⟨w.heap.size + 1, 0, none⟩ (.int .u64 (a4 : Nat))).setCell ⟨w.heap.size + 1, 1, none⟩ (.int .u64 (b4 : Nat))).setCell ⟨w.heap.size + 1, 2, none⟩ (.int .u64 (c4 : Nat))).setCell ⟨w.heap.size + 1, 3, none⟩ (.int .u64 (d4 : Nat))) = w10 at q9 hbE ⊢
  obtain ⟨⟨t0, t1, t2, t3⟩, -⟩ := blk4 q9
  refine bodyPost_ret (v := _) (by simp [results, Tryd.f59, go_sem, t0, t1, t2, t3]) rfl ⟨a4, b4, c4, d4, rfl, hsw4, hbE⟩

set_option maxRecDepth 100000 in
set_option maxHeartbeats 4000000 in
theorem elements_withAll (b : Nat) (nn : Int) (A : Option Addr) (c : Nat) (args : List MT) (w : World) (p : Nat → Bool)
    (hcal : ∀ w', Below w.heap.size w w' → Calls Tryd.prog 98 #[.pointer (some ⟨b, 0, none⟩), .agg #[.int .i64 7, .int .i64 nn, .slice A args.length c]] w' (RetS3 p w')) :
    Calls Tryd.prog 59 #[.pointer (some ⟨b, 0, none⟩), .agg #[.int .i64 7, .int .i64 nn, .slice A args.length c]] w (RetS3 p w) := by
  obtain ⟨W1, W2, hW1, hs1, hW2, hs2, hB, hcc, hcr⟩ := meth_blks (.mk 7 nn A c args) w
  simp only [MT.op, MT.n, MT.A, MT.args, MT.c] at hcc hW1
  obtain ⟨W3, hW3, hB3, hs3, hk3⟩ := newBlk W2 _ hs2 #[.func (.func 91) #[] #[], .func (.func 92) #[] #[], .func (.func 93) #[] #[], .func (.func 94) #[] #[], .func (.func 95) #[] #[], .func (.func 96) #[] #[], .func (.func 97) #[] #[], .func (.func 98) #[] #[]] 162
  have hB23 : Below W2.heap.size W2 W3 := by rw [hs2]; exact hB3
  have hB03 : Below w.heap.size w W3 := hB.trans (hB23.mono hB.size)
  obtain ⟨c0, c1, c2⟩ := hcc W3 hB23
  have n0 := cell_of_blk hk3 7
  simp only [List.getElem?_toArray, List.getElem?_cons_zero, List.getElem?_cons_succ] at n0
  have hS : ∀ w', Below W3.heap.size W3 w' → (w'.cell? ⟨w.heap.size, 0, none⟩ = some (.int .i64 7) ∧ w'.cell? ⟨w.heap.size, 1, none⟩ = some (.int .i64 nn) ∧ w'.cell? ⟨w.heap.size, 2, none⟩ = some (.slice A args.length c)) ∧ w'.cell? ⟨w.heap.size + 1 + 1, 7, none⟩ = some (.func (.func 98) #[] #[]) := fun w' hb => ⟨hcc w' (hB23.trans (hb.mono hB23.size)), by have := cell_of_blk (blk_lat hk3 hb) 7; simpa using this⟩
  have hS2 : ∀ w' w'', Below W3.heap.size W3 w' → w'.grownBy w'' (some (w.heap.size + 1)) → (w''.cell? ⟨w.heap.size, 0, none⟩ = some (.int .i64 7) ∧ w''.cell? ⟨w.heap.size, 1, none⟩ = some (.int .i64 nn) ∧ w''.cell? ⟨w.heap.size, 2, none⟩ = some (.slice A args.length c)) ∧ w''.cell? ⟨w.heap.size + 1 + 1, 7, none⟩ = some (.func (.func 98) #[] #[]) := fun w' w'' hb hg => by
    obtain ⟨⟨u0, u1, u2⟩, u3⟩ := hS w' hb
    have hkc := hb.size
    have h1 : w''.heap[w.heap.size]? = w'.heap[w.heap.size]? := hg.block _ (by omega) (by simp)
    have h2 : w''.heap[w.heap.size + 1 + 1]? = w'.heap[w.heap.size + 1 + 1]? := hg.block _ (by omega) (by simp)
    have e1 : ∀ k, w''.cell? ⟨w.heap.size, k, none⟩ = w'.cell? ⟨w.heap.size, k, none⟩ := fun k => by simp only [World.cell?, h1]
    have e2 : ∀ k, w''.cell? ⟨w.heap.size + 1 + 1, k, none⟩ = w'.cell? ⟨w.heap.size + 1 + 1, k, none⟩ := fun k => by simp only [World.cell?, h2]
    exact ⟨⟨(e1 _).trans u0, (e1 _).trans u1, (e1 _).trans u2⟩, (e2 _).trans u3⟩
  have hd : Below W3.heap.size W3 W3.drew := (Below.refl _ W3).drew
  have hel := hcal W3.drew hB03.drew
  have HB := Lib.hid hB03
  have HCR := Lib.hid (show ∀ w', Below W3.heap.size W3 w' → w'.heap[w.heap.size + 1]? = some (.cells #[.int .u64 0, .int .u64 0, .int .u64 0, .int .u64 0] 111) from fun w' hb => hcr w' (hB23.trans (hb.mono hB23.size)))
  clear hcal hcr hcc hk3 hB hB3 hB23 hB03 c0 c1 c2 n0
  go_enter Tryd.func59, Tryd.ntmps59
  go_wp2_with fail
  go_region_held (fun w' => (w'.cell? ⟨w.heap.size, 0, none⟩ = some (.int .i64 7) ∧ w'.cell? ⟨w.heap.size, 1, none⟩ = some (.int .i64 nn) ∧ w'.cell? ⟨w.heap.size, 2, none⟩ = some (.slice A args.length c)) ∧ w'.cell? ⟨w.heap.size + 1 + 1, 7, none⟩ = some (.func (.func 98) #[] #[]))
    (first | exact hS _ hd | exact hS _ hb4 | exact hS2 _ _ hb4 q10)
    (first | (go_at_call 98; refine hel.mono ?_; rintro e w4 ⟨a4, b4, c4, d4, rfl, hsw4, hb4'⟩; have hb4 : Below W3.heap.size W3 w4 := hd.trans hb4'; obtain ⟨⟨y0, y1, y2, y3⟩, z0, z1, z2, z3⟩ := blk4 (HCR.out w4 hb4); obtain ⟨q9, q10⟩ := store4 (HCR.out w4 hb4) (.int .u64 (a4 : Nat)) (.int .u64 (b4 : Nat)) (.int .u64 (c4 : Nat)) (.int .u64 (d4 : Nat))))
  go_wp2
  have hbE := (HB.out.trans (hb4.mono (by omega))).trans (below_grown q10 (by omega) (by have := hb4.size; omega))
  generalize ((((w4.setCell ⟨w.heap.size + 1, 0, none⟩ (.int .u64 (a4 : Nat))).setCell ⟨w.heap.size + 1, 1, none⟩ (.int .u64 (b4 : Nat))).setCell ⟨w.heap.size + 1, 2, none⟩ (.int .u64 (c4 : Nat))).setCell ⟨w.heap.size + 1, 3, none⟩ (.int .u64 (d4 : Nat))) = w10 at q9 hbE ⊢
  obtain ⟨⟨t0, t1, t2, t3⟩, -⟩ := blk4 q9
  refine bodyPost_ret (v := _) (by simp [results, Tryd.f59, go_sem, t0, t1, t2, t3]) rfl ⟨a4, b4, c4, d4, rfl, hsw4, hbE⟩

end Go.Proofs.YtnkkpjgclekobaaDoor

namespace Go.Proofs.YtnkkpjgclekobaaDoor
open Go.RowKit

theorem semL_map (i : IN) (m : Nat) : ∀ l : List Tr, semL i m l = l.map (semT i m)
  | [] => by rw [semL]; rfl
  | t :: ts => by rw [semL, semL_map i m ts]; rfl
theorem wfTs_at {C R : Nat} : ∀ {l : List MT}, Tr.wfTs C R (l.map MT.tr) = true → ∀ (k : Nat) (hk : k < l.length), l[k].tr.wfT C R = true
  | [], _, k, hk => absurd hk (Nat.not_lt_zero _)
  | t :: ts, h, k, hk => by
    rw [List.map_cons, Tr.wfTs, Bool.and_eq_true] at h
    cases k with
    | zero => exact h.1
    | succ k => exact wfTs_at h.2 k (by simpa using hk)
theorem headD_at {α : Type} {d : α} : ∀ {l : List α} (h : 0 < l.length), l.headD d = l[0]
  | _ :: _, _ => rfl
theorem head1_at {α : Type} {d : α} : ∀ {l : List α} (h : 1 < l.length), (l.drop 1).headD d = l[1]
  | _ :: _ :: _, _ => rfl

set_option maxHeartbeats 1000000 in
theorem elements_any (i : IN) (m b : Nat) (h256 : m ≤ 256) (T : MT) : ∀ w, WL w b i m → T.In w.heap.size w → T.tr.wfT i.C.length i.R.length = true → Calls Tryd.prog 59 #[.pointer (some ⟨b, 0, none⟩), T.val] w (RetS3 (semT i m T.tr) w) := by
  induction T using MT.induct with
  | h op nn A c args ih =>
    intro w hw hin hwf
    have hTin := hin
    rw [MT.In] at hin
    obtain ⟨hlc, hc, hr, hrow⟩ := hin
    rw [MT.tr_mk, Tr.wfT, Bool.and_eq_true, List.length_map] at hwf
    obtain ⟨hnode, hargs⟩ := hwf
    simp only [wfB, Bool.and_eq_true, decide_eq_true_eq, beq_iff_eq] at hnode
    obtain ⟨h0, h8, hlen, hn0, hn1⟩ := hnode
    have hE : ∀ k (hk : k < args.length) w', Below w.heap.size w w' → Calls Tryd.prog 59 #[.pointer (some ⟨b, 0, none⟩), args[k].val] w' (RetS3 (semT i m args[k].tr) w') := fun k hk w' hb =>
      ih k hk w' (hw.later hb) ((hrow.at_ k hk).later hb) (wfTs_at hargs k hk)
    have hsem : semT i m (MT.mk op nn A c args).tr = comb i m op nn (args.map fun t => semT i m t.tr) := by
      rw [MT.tr_mk, semT, semL_map, List.map_map]; rfl
    have hT : ∀ w', Below w.heap.size w w' → (MT.mk op nn A c args).In w'.heap.size w' := fun w' hb => hTin.later hb
    have hWL : ∀ w', Below w.heap.size w w' → WL w' b i m := fun w' hb => hw.later hb
    have hEE : ∀ w', Below w.heap.size w w' → ∀ k (hk : k < args.length) w'', Below w'.heap.size w' w'' → Calls Tryd.prog 59 #[.pointer (some ⟨b, 0, none⟩), args[k].val] w'' (RetS3 (semT i m args[k].tr) w'') := fun w' hb k hk w'' hb' => hE k hk w'' (hb.trans (hb'.mono hb.size))
    have hop : op = 0 ∨ op = 1 ∨ op = 2 ∨ op = 3 ∨ op = 4 ∨ op = 5 ∨ op = 6 ∨ op = 7 := by omega
    rw [hsem]
    clear hsem hw hTin hrow hargs hE hr
    rcases hop with rfl | rfl | rfl | rfl | rfl | rfl | rfl | rfl
    · have hk : nn.toNat < i.C.length := by simp [choicesF] at hn1; omega
      exact elements_named b nn A c args w _ fun w' hb => named_any i m b (.mk 0 nn A c args) w' (hWL w' hb) nn.toNat (by simp only [MT.n]; omega) hk
    · exact elements_everything b nn A c args w _ fun w' hb => everything_any i m b (.mk 1 nn A c args) w' (hWL w' hb)
    · exact elements_nothing b nn A c args w _ fun w' hb => nothing_any b (.mk 2 nn A c args) w'
    · have hl : 0 < args.length := by simp [arityF] at hlen; omega
      have he : comb i m 3 nn (args.map fun t => semT i m t.tr) = fun x => decide (x < m) && !(semT i m args[0].tr) x := by
        simp only [comb, headD_at (show 0 < (args.map fun t => semT i m t.tr).length by rw [List.length_map]; exact hl), List.getElem_map]; rfl
      rw [he]
      exact elements_others b nn A c args w _ fun w' hb => others_any i m b (.mk 3 nn A c args) w' (hWL w' hb) (hT w' hb) hl _ (hEE w' hb 0 hl)
    · have hl : 1 < args.length := by simp [arityF] at hlen; omega
      have he : comb i m 4 nn (args.map fun t => semT i m t.tr) = fun x => (semT i m args[0].tr) x && (semT i m args[1].tr) x := by
        simp only [comb, headD_at (show 0 < (args.map fun t => semT i m t.tr).length by rw [List.length_map]; omega), head1_at (show 1 < (args.map fun t => semT i m t.tr).length by rw [List.length_map]; exact hl), List.getElem_map]; rfl
      rw [he]
      exact elements_both b nn A c args w _ fun w' hb => both_any i m b (.mk 4 nn A c args) w' (hWL w' hb) (hT w' hb) hl _ _ (hEE w' hb 0 (by omega)) (hEE w' hb 1 hl)
    · have hl : 1 < args.length := by simp [arityF] at hlen; omega
      have he : comb i m 5 nn (args.map fun t => semT i m t.tr) = fun x => (semT i m args[0].tr) x || (semT i m args[1].tr) x := by
        simp only [comb, headD_at (show 0 < (args.map fun t => semT i m t.tr).length by rw [List.length_map]; omega), head1_at (show 1 < (args.map fun t => semT i m t.tr).length by rw [List.length_map]; exact hl), List.getElem_map]; rfl
      rw [he]
      exact elements_either b nn A c args w _ fun w' hb => either_any i m b (.mk 5 nn A c args) w' (hWL w' hb) (hT w' hb) hl _ _ (hEE w' hb 0 (by omega)) (hEE w' hb 1 hl)
    · have hl : 0 < args.length := by simp [arityF] at hlen; omega
      have he : comb i m 6 nn (args.map fun t => semT i m t.tr) = fun x => decide (x < m) && meetB (endsF i nn.toNat x) (semT i m args[0].tr) := by
        simp only [comb, headD_at (show 0 < (args.map fun t => semT i m t.tr).length by rw [List.length_map]; exact hl), List.getElem_map]; rfl
      rw [he]
      exact elements_withSome b nn A c args w _ fun w' hb => withSome_any i m b h256 (.mk 6 nn A c args) w' (hWL w' hb) (hT w' hb) hl nn.toNat (by simp only [MT.n]; omega) (by simp [choicesF] at hn1; omega) _ (hEE w' hb 0 hl)
    · have hl : 0 < args.length := by simp [arityF] at hlen; omega
      have he : comb i m 7 nn (args.map fun t => semT i m t.tr) = fun x => decide (x < m) && subB (endsF i nn.toNat x) (semT i m args[0].tr) := by
        simp only [comb, headD_at (show 0 < (args.map fun t => semT i m t.tr).length by rw [List.length_map]; exact hl), List.getElem_map]; rfl
      rw [he]
      exact elements_withAll b nn A c args w _ fun w' hb => withAll_any i m b h256 (.mk 7 nn A c args) w' (hWL w' hb) (hT w' hb) hl nn.toNat (by simp only [MT.n]; omega) (by simp [choicesF] at hn1; omega) _ (hEE w' hb 0 hl)
end Go.Proofs.YtnkkpjgclekobaaDoor
