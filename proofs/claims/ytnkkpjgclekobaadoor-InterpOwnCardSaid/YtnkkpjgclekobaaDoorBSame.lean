import Derived.Test.YtnkkpjgclekobaaDoorBData
import Derived.Test.YtnkkpjgclekobaaDoorRSame
import Derived.Test.YtnkkpjgclekobaaDoorChange
import Derived.Deep.DrawnRows
import Derived.Deep.QuietTactic
namespace Go.Proofs.YtnkkpjgclekobaaDoor
open Go.RowKit
attribute [local go_sem ↓] Go.wp_at_zero Go.wp_at_succ

set_option maxRecDepth 100000 in
theorem neqRI (x y : Int) (w : World) : (binOp .neq 126 (.agg #[.int .i64 x, .int .i64 y]) (.agg #[.int .i64 x, .int .i64 y])).run Tryd.prog w = .ok (.bool false) w := by
  have u3 := Tryd.underlying3
  have a3 := Tryd.isAgg3
  have z3 := Tryd.sizeOf3
  have h : (Op.equalIn 10000 126 (.agg #[.int .i64 x, .int .i64 y]) (.agg #[.int .i64 x, .int .i64 y])).run Tryd.prog w = .ok true w := by
    rw [show (10000 : Nat) = 9999 + 1 from rfl, Op.equalIn]
    simp only [Sem.run_bind, run_underlying Tryd.underlying126, Result.andThen_ok]
    go_simp
  simp only [binOp]
  simp [Op.equal, Op.maxDepth, h]

set_option maxRecDepth 100000 in
theorem neqLK (x y z : Int) (w : World) : (binOp .neq 128 (.agg #[.int .i64 x, .int .i64 y, .int .i64 z]) (.agg #[.int .i64 x, .int .i64 y, .int .i64 z])).run Tryd.prog w = .ok (.bool false) w := by
  have u3 := Tryd.underlying3
  have a3 := Tryd.isAgg3
  have z3 := Tryd.sizeOf3
  have h : (Op.equalIn 10000 128 (.agg #[.int .i64 x, .int .i64 y, .int .i64 z]) (.agg #[.int .i64 x, .int .i64 y, .int .i64 z])).run Tryd.prog w = .ok true w := by
    rw [show (10000 : Nat) = 9999 + 1 from rfl, Op.equalIn]
    simp only [Sem.run_bind, run_underlying Tryd.underlying128, Result.andThen_ok]
    go_simp
  simp only [binOp]
  simp [Op.equal, Op.maxDepth, h]

/-- Two knowledge bases are one, wherever they lie. -/
structure EqB (a b : BN) : Prop where
  n1 : a.N.C.l = b.N.C.l
  n2 : a.N.R.l = b.N.R.l
  n3 : a.N.I.l = b.N.I.l
  il : a.I.length = b.I.length
  is : ∀ k (h : k < a.I.length) (h' : k < b.I.length), a.I[k].1.tr.beq b.I[k].1.tr = true ∧ a.I[k].2.tr.beq b.I[k].2.tr = true
  rl : a.R.l = b.R.l
  fl : a.F.length = b.F.length
  fs : ∀ k (h : k < a.F.length) (h' : k < b.F.length), a.F[k].1 = b.F[k].1 ∧ a.F[k].2.tr.beq b.F[k].2.tr = true
  ll : a.L.l = b.L.l

set_option maxRecDepth 100000 in
set_option maxHeartbeats 16000000 in
theorem bSame_any (a b : BN) (w : World) (ha : a.In w.heap.size w) (hb : b.In w.heap.size w) (he : EqB a b) :
    Calls Tryd.prog 31 #[a.val, b.val] w fun e w' => e = .returned (.bool true) ∧ Below w.heap.size w w' := by
  obtain ⟨W1, hW1, hB1, hs1, hk1⟩ := newBlk w _ rfl #[.slice a.N.C.A a.N.C.l.length a.N.C.c, .slice a.N.R.A a.N.R.l.length a.N.R.c, .slice a.N.I.A a.N.I.l.length a.N.I.c, .slice a.IA a.I.length a.ic, .slice a.R.A a.R.l.length a.R.c, .slice a.FA a.F.length a.fc, .slice a.L.A a.L.l.length a.L.c] 54
  obtain ⟨W2, hW2, hB2, hs2, hk2⟩ := newBlk W1 _ hs1 #[.slice b.N.C.A b.N.C.l.length b.N.C.c, .slice b.N.R.A b.N.R.l.length b.N.R.c, .slice b.N.I.A b.N.I.l.length b.N.I.c, .slice b.IA b.I.length b.ic, .slice b.R.A b.R.l.length b.R.c, .slice b.FA b.F.length b.fc, .slice b.L.A b.L.l.length b.L.c] 54
  have hB : Below w.heap.size w W2 := hB1.trans (hB2.mono (by omega))
  have hkk1 := (hB2.block w.heap.size (by omega)).trans hk1
  have hS : ∀ w', Below W2.heap.size W2 w' → BBox w' w.heap.size a ∧ BBox w' (w.heap.size + 1) b := fun w' h => ⟨bbox_of (b := a) (blk_lat hkk1 h), bbox_of (b := b) (blk_lat hk2 h)⟩
  have hsn := SameNames_any a.N b.N W2 (ha.n.later hB) (hb.n.later hB) he.n1 he.n2 he.n3
  have HAL := Lib.hid (show ∀ w', Below W2.heap.size W2 w' → a.In w'.heap.size w' from fun w' h => (ha.later hB).later h)
  have HBL := Lib.hid (show ∀ w', Below W2.heap.size W2 w' → b.In w'.heap.size w' from fun w' h => (hb.later hB).later h)
  have l1 : a.I.length ≤ 9223372036854775807 := Nat.le_trans ha.i1 ha.i2
  have l2 : a.R.l.length ≤ 9223372036854775807 := Nat.le_trans ha.r.1 ha.r.2.1
  have l3 : a.F.length ≤ 9223372036854775807 := Nat.le_trans ha.f1 ha.f2
  have l4 : a.L.l.length ≤ 9223372036854775807 := Nat.le_trans ha.l1 ha.l2
  have q1 : ((a.I.length : Int) != (b.I.length : Int)) = false := by rw [he.il]; simp
  have q2 : ((a.R.l.length : Int) != (b.R.l.length : Int)) = false := by rw [he.rl]; simp
  have q3 : ((a.F.length : Int) != (b.F.length : Int)) = false := by rw [he.fl]; simp
  have q4 : ((a.L.l.length : Int) != (b.L.l.length : Int)) = false := by rw [he.ll]; simp
  have HE := Lib.hid he
  have HB := Lib.hid hB
  have HS := Lib.hid hS
  obtain ⟨⟨c0, c1, c2, c3, c4, c5, c6⟩, d0, d1, d2, d3, d4, d5, d6⟩ := hS W2 (Below.refl _ _)
  simp only [BN.val, NM.val] at hsn ⊢
  have HSN := Lib.hid hsn
  clear ha hb he hB hB1 hB2 hk1 hk2 hkk1 hS hsn
  go_enter Tryd.func31, Tryd.ntmps31
  go_wp2_with (go_at_call 18; refine HSN.out.mono ?_; rintro e w3 ⟨rfl, hb3⟩; obtain ⟨⟨e0, e1, e2, e3, e4, e5, e6⟩, f0, f1, f2, f3, f4, f5, f6⟩ := HS.out w3 hb3)
  clear c0 c1 c2 c3 c4 c5 c6 d0 d1 d2 d3 d4 d5 d6 e0 e1 e2 e3 e4 e5 e6 f0 f1 f2 f3 f4 f5 f6
  go_loopw [58] (fun i' wr => ∃ k : Nat, k ≤ a.I.length ∧ i' = .int .i64 (k : Nat) ∧ Below W2.heap.size W2 wr) (fun i' _ => a.I.length - (intOf i').toNat)
  case atStart => exact ⟨0, Nat.zero_le _, rfl, hb3⟩
  case round =>
    rename World => wr
    obtain ⟨k, hk, rfl, hbw⟩ := hrel
    by_cases hlt : k < a.I.length
    · have hlt2 : k < b.I.length := by rw [← HE.out.il]; exact hlt
      have ha := HAL.out wr hbw
      have hb := HBL.out wr hbw
      obtain ⟨g1, o1, hA1, hg1, x0, x1, x2, x3, x4, x5⟩ := ha.incl hlt
      obtain ⟨g2, o2, hA2, hg2, y0, y1, y2, y3, y4, y5⟩ := hb.incl hlt2
      have h0K : (0 : Int) ≤ k := by omega
      have hlK : (k : Int) < a.I.length := by omega
      have hlK2 : (k : Int) < b.I.length := by omega
      have heq := HE.out.is k hlt hlt2
      have m1 := fun w' (h : Below wr.heap.size wr w') => (HAL.out w' (hbw.trans (h.mono hbw.size))).i4 _ (List.getElem_mem hlt)
      have m2 := fun w' (h : Below wr.heap.size wr w') => (HBL.out w' (hbw.trans (h.mono hbw.size))).i4 _ (List.getElem_mem hlt2)
      generalize a.I[k] = p at x0 x1 x2 x3 x4 x5 heq m1
      generalize b.I[k] = q at y0 y1 y2 y3 y4 y5 heq m2
      obtain ⟨Wa, hWa, hBa, hsa, hka⟩ := newBlk wr _ rfl #[.int .i64 p.1.op, .int .i64 p.1.n, .slice p.1.A p.1.args.length p.1.c, .int .i64 p.2.op, .int .i64 p.2.n, .slice p.2.A p.2.args.length p.2.c] 102
      have hwa : Below W2.heap.size W2 Wa := hbw.trans (hBa.mono hbw.size)
      have hSR : ∀ w', Below Wa.heap.size Wa w' → w'.cell? ⟨w.heap.size + 1, 3, none⟩ = some (.slice (some ⟨g2, o2, none⟩) b.I.length b.ic) ∧ (w'.cell? ⟨wr.heap.size, 0, none⟩ = some (.int .i64 p.1.op) ∧ w'.cell? ⟨wr.heap.size, 1, none⟩ = some (.int .i64 p.1.n) ∧ w'.cell? ⟨wr.heap.size, 2, none⟩ = some (.slice p.1.A p.1.args.length p.1.c) ∧ w'.cell? ⟨wr.heap.size, 3, none⟩ = some (.int .i64 p.2.op) ∧ w'.cell? ⟨wr.heap.size, 4, none⟩ = some (.int .i64 p.2.n) ∧ w'.cell? ⟨wr.heap.size, 5, none⟩ = some (.slice p.2.A p.2.args.length p.2.c)) ∧ (w'.cell? ⟨g2, o2 + k * 6, none⟩ = some (.int .i64 q.1.op) ∧ w'.cell? ⟨g2, o2 + k * 6 + 1, none⟩ = some (.int .i64 q.1.n) ∧ w'.cell? ⟨g2, o2 + k * 6 + 2, none⟩ = some (.slice q.1.A q.1.args.length q.1.c) ∧ w'.cell? ⟨g2, o2 + k * 6 + 3, none⟩ = some (.int .i64 q.2.op) ∧ w'.cell? ⟨g2, o2 + k * 6 + 4, none⟩ = some (.int .i64 q.2.n) ∧ w'.cell? ⟨g2, o2 + k * 6 + 5, none⟩ = some (.slice q.2.A q.2.args.length q.2.c)) := fun w' h => by
        have h' : Below wr.heap.size wr w' := hBa.trans (h.mono (by omega))
        refine ⟨?_, ⟨cell_of_blk (blk_lat hka h) 0, cell_of_blk (blk_lat hka h) 1, cell_of_blk (blk_lat hka h) 2, cell_of_blk (blk_lat hka h) 3, cell_of_blk (blk_lat hka h) 4, cell_of_blk (blk_lat hka h) 5⟩, (h'.cell (p := ⟨g2, o2 + k * 6, none⟩) hg2).trans y0, (h'.cell (p := ⟨g2, o2 + k * 6 + 1, none⟩) hg2).trans y1, (h'.cell (p := ⟨g2, o2 + k * 6 + 2, none⟩) hg2).trans y2, (h'.cell (p := ⟨g2, o2 + k * 6 + 3, none⟩) hg2).trans y3, (h'.cell (p := ⟨g2, o2 + k * 6 + 4, none⟩) hg2).trans y4, (h'.cell (p := ⟨g2, o2 + k * 6 + 5, none⟩) hg2).trans y5⟩
        rw [← hA2]
        have := (HS.out w' (hwa.trans (h.mono hwa.size))).2
        exact this.2.2.2.1
      have hc2 := fun w' (h : Below Wa.heap.size Wa w') => rSame_any p.2 q.2 w' (m1 w' (hBa.trans (h.mono (by omega)))).2 (m2 w' (hBa.trans (h.mono (by omega)))).2
      rw [heq.2] at hc2
      have hc1 := fun w' (h : Below Wa.heap.size Wa w') => rSame_any p.1 q.1 w' (m1 w' (hBa.trans (h.mono (by omega)))).1 (m2 w' (hBa.trans (h.mono (by omega)))).1
      rw [heq.1] at hc1
      have HC1 := Lib.hid hc1
      have HC2 := Lib.hid hc2
      simp only [MT.val] at HC2 HC1
      obtain ⟨z0, ⟨u0, u1, u2, u3, u4, u5⟩, v0, v1, v2, v3, v4, v5⟩ := hSR Wa (Below.refl _ _)
      have HSR := Lib.hid hSR
      have HWA := Lib.hid hwa
      have HSA := Lib.hid hsa
      have hd : Below Wa.heap.size Wa Wa.drew := (Below.refl _ Wa).drew
      rw [hA1, hA2]
      clear ha hb hA1 hA2 hbw hBa hka hwa hsa hSR heq m1 m2 hc2 hc1 y0 y1 y2 y3 y4 y5 hg1 hg2
      go_wp2_with fail
      go_region_held (fun w' => w'.cell? ⟨w.heap.size + 1, 3, none⟩ = some (.slice (some ⟨g2, o2, none⟩) b.I.length b.ic) ∧ (w'.cell? ⟨wr.heap.size, 0, none⟩ = some (.int .i64 p.1.op) ∧ w'.cell? ⟨wr.heap.size, 1, none⟩ = some (.int .i64 p.1.n) ∧ w'.cell? ⟨wr.heap.size, 2, none⟩ = some (.slice p.1.A p.1.args.length p.1.c) ∧ w'.cell? ⟨wr.heap.size, 3, none⟩ = some (.int .i64 p.2.op) ∧ w'.cell? ⟨wr.heap.size, 4, none⟩ = some (.int .i64 p.2.n) ∧ w'.cell? ⟨wr.heap.size, 5, none⟩ = some (.slice p.2.A p.2.args.length p.2.c)) ∧ (w'.cell? ⟨g2, o2 + k * 6, none⟩ = some (.int .i64 q.1.op) ∧ w'.cell? ⟨g2, o2 + k * 6 + 1, none⟩ = some (.int .i64 q.1.n) ∧ w'.cell? ⟨g2, o2 + k * 6 + 2, none⟩ = some (.slice q.1.A q.1.args.length q.1.c) ∧ w'.cell? ⟨g2, o2 + k * 6 + 3, none⟩ = some (.int .i64 q.2.op) ∧ w'.cell? ⟨g2, o2 + k * 6 + 4, none⟩ = some (.int .i64 q.2.n) ∧ w'.cell? ⟨g2, o2 + k * 6 + 5, none⟩ = some (.slice q.2.A q.2.args.length q.2.c)))
        (first | exact HSR.out _ hd | exact HSR.out _ hb5 | exact HSR.out _ hb6)
        (first
          | (go_at_call 19; refine (HC2.out w5 hb5).mono ?_; rintro e w6 ⟨rfl, hb6'⟩; have hb6 : Below Wa.heap.size Wa w6 := hb5.trans (hb6'.mono hb5.size))
          | (go_at_call 19; refine (HC1.out Wa.drew hd).mono ?_; rintro e w5 ⟨rfl, hb5'⟩; have hb5 : Below Wa.heap.size Wa w5 := hd.trans hb5'))
      go_wp2_with fail
      go_roundw
      case rel => exact ⟨k + 1, by omega, by go_num, HWA.out.trans (hb6.mono HWA.out.size)⟩
      case measure => simp [intOf]; omega
    · obtain ⟨⟨e0, e1, e2, e3, e4, e5, e6⟩, f0, f1, f2, f3, f4, f5, f6⟩ := HS.out wr hbw
      have HBW := Lib.hid hbw
      clear hbw
      go_wp2_with fail
      clear e0 e1 e2 e3 e4 e5 e6 f0 f1 f2 f3 f4 f5 f6
      go_loopw [89] (fun i' wr => ∃ k : Nat, k ≤ a.R.l.length ∧ i' = .int .i64 (k : Nat) ∧ Below W2.heap.size W2 wr) (fun i' _ => a.R.l.length - (intOf i').toNat)
      case atStart => exact ⟨0, Nat.zero_le _, rfl, HBW.out⟩
      case round =>
        rename World => wr
        obtain ⟨k, hk, rfl, hbw⟩ := hrel
        by_cases hlt : k < a.R.l.length
        · have hlt2 : k < b.R.l.length := by rw [← HE.out.rl]; exact hlt
          have ha := HAL.out wr hbw
          have hb := HBL.out wr hbw
          obtain ⟨g1, o1, hA1, hg1, x0, x1⟩ := ha.role hlt
          obtain ⟨g2, o2, hA2, hg2, y0, y1⟩ := hb.role hlt2
          have h0K : (0 : Int) ≤ k := by omega
          have hlK : (k : Int) < a.R.l.length := by omega
          have hlK2 : (k : Int) < b.R.l.length := by omega
          have heq : a.R.l[k] = b.R.l[k] := by have := HE.out.rl; simp only [this]
          rw [heq] at x0 x1
          generalize b.R.l[k] = q at x0 x1 y0 y1
          obtain ⟨Wa, hWa, hBa, hsa, hka⟩ := newBlk wr _ rfl #[.int .i64 q.1, .int .i64 q.2] 126
          have hwa : Below W2.heap.size W2 Wa := hbw.trans (hBa.mono hbw.size)
          have hSR : ∀ w', Below Wa.heap.size Wa w' → w'.cell? ⟨w.heap.size + 1, 4, none⟩ = some (.slice (some ⟨g2, o2, none⟩) b.R.l.length b.R.c) ∧ (w'.cell? ⟨wr.heap.size, 0, none⟩ = some (.int .i64 q.1) ∧ w'.cell? ⟨wr.heap.size, 1, none⟩ = some (.int .i64 q.2)) ∧ (w'.cell? ⟨g2, o2 + k * 2, none⟩ = some (.int .i64 q.1) ∧ w'.cell? ⟨g2, o2 + k * 2 + 1, none⟩ = some (.int .i64 q.2)) := fun w' h => by
            have h' : Below wr.heap.size wr w' := hBa.trans (h.mono (by omega))
            refine ⟨?_, ⟨cell_of_blk (blk_lat hka h) 0, cell_of_blk (blk_lat hka h) 1⟩, (h'.cell (p := ⟨g2, o2 + k * 2, none⟩) hg2).trans y0, (h'.cell (p := ⟨g2, o2 + k * 2 + 1, none⟩) hg2).trans y1⟩
            rw [← hA2]
            have := (HS.out w' (hwa.trans (h.mono hwa.size))).2
            exact this.2.2.2.2.1
          obtain ⟨z0, ⟨u0, u1⟩, v0, v1⟩ := hSR Wa (Below.refl _ _)
          have HSR := Lib.hid hSR
          have HWA := Lib.hid hwa
          have HSA := Lib.hid hsa
          have hd : Below Wa.heap.size Wa Wa.drew := (Below.refl _ Wa).drew
          rw [hA1, hA2]
          clear ha hb hA1 hA2 hbw hBa hka hwa hsa hSR heq   y0 y1 hg1 hg2
          have hq := fun w => neqRI q.1 q.2 w
          go_wp2_with fail
          go_quiet (fail)
          clear hq
          go_wp2_with fail
          go_roundw
          case rel => exact ⟨k + 1, by omega, by go_num, below_drewN HWA.out _⟩
          case measure => simp [intOf]; omega
        · obtain ⟨⟨e0, e1, e2, e3, e4, e5, e6⟩, f0, f1, f2, f3, f4, f5, f6⟩ := HS.out wr hbw
          have HBW := Lib.hid hbw
          clear hbw
          go_wp2_with fail
          clear e0 e1 e2 e3 e4 e5 e6 f0 f1 f2 f3 f4 f5 f6
          go_loopw [105] (fun i' wr => ∃ k : Nat, k ≤ a.F.length ∧ i' = .int .i64 (k : Nat) ∧ Below W2.heap.size W2 wr) (fun i' _ => a.F.length - (intOf i').toNat)
          case atStart => exact ⟨0, Nat.zero_le _, rfl, HBW.out⟩
          case round =>
            rename World => wr
            obtain ⟨k, hk, rfl, hbw⟩ := hrel
            by_cases hlt : k < a.F.length
            · have hlt2 : k < b.F.length := by rw [← HE.out.fl]; exact hlt
              have ha := HAL.out wr hbw
              have hb := HBL.out wr hbw
              obtain ⟨g1, o1, hA1, hg1, x0, x1, x2, x3⟩ := ha.fact hlt
              obtain ⟨g2, o2, hA2, hg2, y0, y1, y2, y3⟩ := hb.fact hlt2
              have h0K : (0 : Int) ≤ k := by omega
              have hlK : (k : Int) < a.F.length := by omega
              have hlK2 : (k : Int) < b.F.length := by omega
              have heq := HE.out.fs k hlt hlt2
              have m1 := fun w' (h : Below wr.heap.size wr w') => (HAL.out w' (hbw.trans (h.mono hbw.size))).f4 _ (List.getElem_mem hlt)
              have m2 := fun w' (h : Below wr.heap.size wr w') => (HBL.out w' (hbw.trans (h.mono hbw.size))).f4 _ (List.getElem_mem hlt2)
              generalize a.F[k] = p at x0 x1 x2 x3 heq m1
              generalize b.F[k] = q at y0 y1 y2 y3 heq m2
              rw [heq.1] at x0
              obtain ⟨Wa, hWa, hBa, hsa, hka⟩ := newBlk wr _ rfl #[.int .i64 q.1, .int .i64 p.2.op, .int .i64 p.2.n, .slice p.2.A p.2.args.length p.2.c] 104
              have hwa : Below W2.heap.size W2 Wa := hbw.trans (hBa.mono hbw.size)
              have hSR : ∀ w', Below Wa.heap.size Wa w' → w'.cell? ⟨w.heap.size + 1, 5, none⟩ = some (.slice (some ⟨g2, o2, none⟩) b.F.length b.fc) ∧ (w'.cell? ⟨wr.heap.size, 0, none⟩ = some (.int .i64 q.1) ∧ w'.cell? ⟨wr.heap.size, 1, none⟩ = some (.int .i64 p.2.op) ∧ w'.cell? ⟨wr.heap.size, 2, none⟩ = some (.int .i64 p.2.n) ∧ w'.cell? ⟨wr.heap.size, 3, none⟩ = some (.slice p.2.A p.2.args.length p.2.c)) ∧ (w'.cell? ⟨g2, o2 + k * 4, none⟩ = some (.int .i64 q.1) ∧ w'.cell? ⟨g2, o2 + k * 4 + 1, none⟩ = some (.int .i64 q.2.op) ∧ w'.cell? ⟨g2, o2 + k * 4 + 2, none⟩ = some (.int .i64 q.2.n) ∧ w'.cell? ⟨g2, o2 + k * 4 + 3, none⟩ = some (.slice q.2.A q.2.args.length q.2.c)) := fun w' h => by
                have h' : Below wr.heap.size wr w' := hBa.trans (h.mono (by omega))
                refine ⟨?_, ⟨cell_of_blk (blk_lat hka h) 0, cell_of_blk (blk_lat hka h) 1, cell_of_blk (blk_lat hka h) 2, cell_of_blk (blk_lat hka h) 3⟩, (h'.cell (p := ⟨g2, o2 + k * 4, none⟩) hg2).trans y0, (h'.cell (p := ⟨g2, o2 + k * 4 + 1, none⟩) hg2).trans y1, (h'.cell (p := ⟨g2, o2 + k * 4 + 2, none⟩) hg2).trans y2, (h'.cell (p := ⟨g2, o2 + k * 4 + 3, none⟩) hg2).trans y3⟩
                rw [← hA2]
                have := (HS.out w' (hwa.trans (h.mono hwa.size))).2
                exact this.2.2.2.2.2.1
              have hc2 := fun w' (h : Below Wa.heap.size Wa w') => rSame_any p.2 q.2 w' (m1 w' (hBa.trans (h.mono (by omega)))) (m2 w' (hBa.trans (h.mono (by omega))))
              rw [heq.2] at hc2
              have HC2 := Lib.hid hc2
              simp only [MT.val] at HC2
              obtain ⟨z0, ⟨u0, u1, u2, u3⟩, v0, v1, v2, v3⟩ := hSR Wa (Below.refl _ _)
              have HSR := Lib.hid hSR
              have HWA := Lib.hid hwa
              have HSA := Lib.hid hsa
              have hd : Below Wa.heap.size Wa Wa.drew := (Below.refl _ Wa).drew
              rw [hA1, hA2]
              clear ha hb hA1 hA2 hbw hBa hka hwa hsa hSR heq m1 m2 hc2  y0 y1 y2 y3 hg1 hg2
              have qf : (q.1 != q.1) = false := by simp
              go_wp2_with fail
              go_region_held (fun w' => w'.cell? ⟨w.heap.size + 1, 5, none⟩ = some (.slice (some ⟨g2, o2, none⟩) b.F.length b.fc) ∧ (w'.cell? ⟨wr.heap.size, 0, none⟩ = some (.int .i64 q.1) ∧ w'.cell? ⟨wr.heap.size, 1, none⟩ = some (.int .i64 p.2.op) ∧ w'.cell? ⟨wr.heap.size, 2, none⟩ = some (.int .i64 p.2.n) ∧ w'.cell? ⟨wr.heap.size, 3, none⟩ = some (.slice p.2.A p.2.args.length p.2.c)) ∧ (w'.cell? ⟨g2, o2 + k * 4, none⟩ = some (.int .i64 q.1) ∧ w'.cell? ⟨g2, o2 + k * 4 + 1, none⟩ = some (.int .i64 q.2.op) ∧ w'.cell? ⟨g2, o2 + k * 4 + 2, none⟩ = some (.int .i64 q.2.n) ∧ w'.cell? ⟨g2, o2 + k * 4 + 3, none⟩ = some (.slice q.2.A q.2.args.length q.2.c)))
                (first | exact HSR.out _ hd | exact HSR.out _ hb5)
                (first
                  | (go_at_call 19; refine (HC2.out Wa.drew hd).mono ?_; rintro e w5 ⟨rfl, hb5'⟩; have hb5 : Below Wa.heap.size Wa w5 := hd.trans hb5'))
              go_wp2_with fail
              go_roundw
              case rel => exact ⟨k + 1, by omega, by go_num, HWA.out.trans (hb5.mono HWA.out.size)⟩
              case measure => simp [intOf]; omega
            · obtain ⟨⟨e0, e1, e2, e3, e4, e5, e6⟩, f0, f1, f2, f3, f4, f5, f6⟩ := HS.out wr hbw
              have HBW := Lib.hid hbw
              clear hbw
              go_wp2_with fail
              clear e0 e1 e2 e3 e4 e5 e6 f0 f1 f2 f3 f4 f5 f6
              go_loopw [135] (fun i' wr => ∃ k : Nat, k ≤ a.L.l.length ∧ i' = .int .i64 (k : Nat) ∧ Below W2.heap.size W2 wr) (fun i' _ => a.L.l.length - (intOf i').toNat)
              case atStart => exact ⟨0, Nat.zero_le _, rfl, HBW.out⟩
              case round =>
                rename World => wr
                obtain ⟨k, hk, rfl, hbw⟩ := hrel
                by_cases hlt : k < a.L.l.length
                · have hlt2 : k < b.L.l.length := by rw [← HE.out.ll]; exact hlt
                  have ha := HAL.out wr hbw
                  have hb := HBL.out wr hbw
                  obtain ⟨g1, o1, hA1, hg1, x0, x1, x2⟩ := ha.link hlt
                  obtain ⟨g2, o2, hA2, hg2, y0, y1, y2⟩ := hb.link hlt2
                  have h0K : (0 : Int) ≤ k := by omega
                  have hlK : (k : Int) < a.L.l.length := by omega
                  have hlK2 : (k : Int) < b.L.l.length := by omega
                  have heq : a.L.l[k] = b.L.l[k] := by have := HE.out.ll; simp only [this]
                  rw [heq] at x0 x1 x2
                  generalize b.L.l[k] = q at x0 x1 x2 y0 y1 y2
                  obtain ⟨Wa, hWa, hBa, hsa, hka⟩ := newBlk wr _ rfl #[.int .i64 q.1, .int .i64 q.2.1, .int .i64 q.2.2] 128
                  have hwa : Below W2.heap.size W2 Wa := hbw.trans (hBa.mono hbw.size)
                  have hSR : ∀ w', Below Wa.heap.size Wa w' → w'.cell? ⟨w.heap.size + 1, 6, none⟩ = some (.slice (some ⟨g2, o2, none⟩) b.L.l.length b.L.c) ∧ (w'.cell? ⟨wr.heap.size, 0, none⟩ = some (.int .i64 q.1) ∧ w'.cell? ⟨wr.heap.size, 1, none⟩ = some (.int .i64 q.2.1) ∧ w'.cell? ⟨wr.heap.size, 2, none⟩ = some (.int .i64 q.2.2)) ∧ (w'.cell? ⟨g2, o2 + k * 3, none⟩ = some (.int .i64 q.1) ∧ w'.cell? ⟨g2, o2 + k * 3 + 1, none⟩ = some (.int .i64 q.2.1) ∧ w'.cell? ⟨g2, o2 + k * 3 + 2, none⟩ = some (.int .i64 q.2.2)) := fun w' h => by
                    have h' : Below wr.heap.size wr w' := hBa.trans (h.mono (by omega))
                    refine ⟨?_, ⟨cell_of_blk (blk_lat hka h) 0, cell_of_blk (blk_lat hka h) 1, cell_of_blk (blk_lat hka h) 2⟩, (h'.cell (p := ⟨g2, o2 + k * 3, none⟩) hg2).trans y0, (h'.cell (p := ⟨g2, o2 + k * 3 + 1, none⟩) hg2).trans y1, (h'.cell (p := ⟨g2, o2 + k * 3 + 2, none⟩) hg2).trans y2⟩
                    rw [← hA2]
                    have := (HS.out w' (hwa.trans (h.mono hwa.size))).2
                    exact this.2.2.2.2.2.2
                  obtain ⟨z0, ⟨u0, u1, u2⟩, v0, v1, v2⟩ := hSR Wa (Below.refl _ _)
                  have HSR := Lib.hid hSR
                  have HWA := Lib.hid hwa
                  have HSA := Lib.hid hsa
                  have hd : Below Wa.heap.size Wa Wa.drew := (Below.refl _ Wa).drew
                  rw [hA1, hA2]
                  clear ha hb hA1 hA2 hbw hBa hka hwa hsa hSR heq   y0 y1 y2 hg1 hg2
                  have hq := fun w => neqLK q.1 q.2.1 q.2.2 w
                  go_wp2_with fail
                  go_quiet (fail)
                  clear hq
                  go_wp2_with fail
                  go_roundw
                  case rel => exact ⟨k + 1, by omega, by go_num, below_drewN HWA.out _⟩
                  case measure => simp [intOf]; omega
                · obtain ⟨⟨e0, e1, e2, e3, e4, e5, e6⟩, f0, f1, f2, f3, f4, f5, f6⟩ := HS.out wr hbw
                  have HBW := Lib.hid hbw
                  clear hbw
                  go_wp2_with fail
                  go_ret
                  exact ⟨rfl, HB.out.trans (HBW.out.mono HB.out.size)⟩
end Go.Proofs.YtnkkpjgclekobaaDoor
