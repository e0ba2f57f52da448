import Derived.Test.YtndkcimajeofcaaGreatDoorGbb4f0f07ee
import Derived.Test.YtndkcimajeofcaaGreatDoorG280635a156
import Derived.Test.YtndkcimajeofcaaGreatDoorG356b54bfa4
import Derived.Test.YtndkcimajeofcaaGreatDoorG506e8cf509
import Derived.Test.YtndkcimajeofcaaGreatDoorG857cfc98f5
import Derived.Test.YtndkcimajeofcaaGreatDoorGc0985088b6
import Derived.Deep.DrawnRows
import Derived.Deep.AppendLies
import Derived.Orders
import Derived.OrdersIn
import Derived.OrdersHeld
import Derived.OwnWalkIn
import Derived.RangeFuncCalls
import Derived.Deep.RegionLaw
import Derived.Deep.RegionHeldLaw
import Derived.Stop.RegionWithIn
import Derived.Deep.RegionHeld3
namespace Go.Proofs.YtndkcimajeofcaaGreatDoor
open Go.RowKit
attribute [local go_sem ↓] Go.wp_at_zero Go.wp_at_succ

/-- The reference's Few: where it says yes, the base is small. -/
def RetFew5 (b : BN) (w : World) (e : Ending) (w' : World) : Prop := (∃ x, e = .returned (.bool x) ∧ (x = true → fewB b.N = true ∧ b.I.length ≤ 200 ∧ b.R.l.length ≤ 200 ∧ b.F.length ≤ 200 ∧ b.L.l.length ≤ 200 ∧ ∀ T ∈ b.cons, T.tr.size ≤ 500)) ∧ Below w.heap.size w w'

set_option maxRecDepth 100000 in
set_option maxHeartbeats 8000000 in
theorem bFew5_any (b : BN) (w : World) (hb : b.In w.heap.size w) :
    Calls Tryz.prog 10 #[b.val, .int .i64 500] w (RetFew5 b w) := by
  obtain ⟨W1, hW1, hB1, hs1, hk1⟩ := newBlk w _ rfl #[.slice b.N.C.A b.N.C.l.length b.N.C.c, .slice b.N.R.A b.N.R.l.length b.N.R.c, .slice b.N.I.A b.N.I.l.length b.N.I.c, .slice b.IA b.I.length b.ic, .slice b.R.A b.R.l.length b.R.c, .slice b.FA b.F.length b.fc, .slice b.L.A b.L.l.length b.L.c] 30
  have hbb := fun w' (h : Below W1.heap.size W1 w') => bbox_of (b := b) (blk_lat hk1 h)
  obtain ⟨c0, c1, c2, c3, c4, c5, c6⟩ := hbb W1 (Below.refl _ _)
  have hfn := FewNames_any b.N W1 (hb.n.later hB1)
  have hpa := fun w' (h : Below W1.heap.size W1 w') hI hF => rConcepts_any b w' ((hb.later hB1).later h) hI hF
  have hfi := fun T (hT : T ∈ b.cons) w' (h : Below W1.heap.size W1 w') => Fits_any T 500 w' (((cons_in hb T hT).later hB1).later h) (by omega) (by omega)
  have hsi := fun T (hT : T ∈ b.cons) w' (h : Below W1.heap.size W1 w') hsz => rSize_any T w' (((cons_in hb T hT).later hB1).later h) hsz
  have hil : b.I.length ≤ 9223372036854775807 := Nat.le_trans hb.i1 hb.i2
  have hrl : b.R.l.length ≤ 9223372036854775807 := Nat.le_trans hb.r.1 hb.r.2.1
  have hfl : b.F.length ≤ 9223372036854775807 := Nat.le_trans hb.f1 hb.f2
  have hll : b.L.l.length ≤ 9223372036854775807 := Nat.le_trans hb.l1 hb.l2
  have hcl := cons_len b
  simp only [fits_size] at hfi
  have HB := Lib.hid hB1
  have HBB := Lib.hid hbb
  have HPA := Lib.hid hpa
  have HFI := Lib.hid hfi
  have HSI := Lib.hid hsi
  have HCL := Lib.hid hcl
  simp only [NM.val, BN.val, MT.val] at hfn HPA HFI HSI ⊢
  clear hB1 hbb hpa hfi hsi hb hk1 hcl
  by_cases q1 : 200 < b.I.length
  · go_enter Tryz.func10, Tryz.ntmps10
    go_wp2_with fail
    go_ret
    exact ⟨⟨_, rfl, fun h => by cases h⟩, HB.out⟩
  · by_cases q2 : 200 < b.R.l.length
    · go_enter Tryz.func10, Tryz.ntmps10
      go_wp2_with fail
      go_ret
      exact ⟨⟨_, rfl, fun h => by cases h⟩, HB.out⟩
    · by_cases q3 : 200 < b.F.length
      · go_enter Tryz.func10, Tryz.ntmps10
        go_wp2_with fail
        go_ret
        exact ⟨⟨_, rfl, fun h => by cases h⟩, HB.out⟩
      · by_cases q4 : 200 < b.L.l.length
        · go_enter Tryz.func10, Tryz.ntmps10
          go_wp2_with fail
          go_ret
          exact ⟨⟨_, rfl, fun h => by cases h⟩, HB.out⟩
        · obtain ⟨fb, hfb⟩ : ∃ x, fewB b.N = x := ⟨_, rfl⟩
          have HFB := Lib.hid hfb
          rw [hfb] at hfn
          clear hfb
          cases fb
          · go_enter Tryz.func10, Tryz.ntmps10
            go_wp2_with (go_at_call 46; refine hfn.mono ?_; rintro e w2 ⟨rfl, hb2⟩)
            go_ret
            exact ⟨⟨_, rfl, fun h => by cases h⟩, HB.out.trans (hb2.mono HB.out.size)⟩
          · go_enter Tryz.func10, Tryz.ntmps10
            go_wp2_with (first
              | (go_at_call 47; refine (HPA.out w2 hb2 (by omega) (by omega)).mono ?_; rintro e w3 ⟨v, rfl, hop, hb3'⟩; have hb3 : Below W1.heap.size W1 w3 := hb2.trans (hb3'.mono hb2.size); obtain ⟨A2, k2, hv2, hn2, hc2, hrow⟩ := row_of_owns hop; subst hv2; have HRW := Lib.hid hrow; clear hop hrow)
              | (go_at_call 46; refine hfn.mono ?_; rintro e w2 ⟨rfl, hb2⟩; obtain ⟨e0, e1, e2, e3, e4, e5, e6⟩ := HBB.out w2 hb2))
            clear e0 e1 e2 e3 e4 e5 e6
            obtain ⟨l, hl⟩ : ∃ l, b.cons = l := ⟨_, rfl⟩
            have HCO := Lib.hid hl
            have hll2 : l.length ≤ 600 := by have := HCL.out; rw [hl] at this; omega
            rw [hl] at HFI HSI HRW
            simp only [hl]
            clear hl
            have hb3s := hb3
            go_loopw [5, 41] (fun t i' wr => ∃ k : Nat, k ≤ l.length ∧ i' = .int .i64 (k : Nat) ∧ t = .int .i64 (totS l k : Nat) ∧ (∀ j (hj : j < l.length), j < k → l[j].tr.size ≤ 500) ∧ totS l k ≤ k * 500 ∧ Below w3.heap.size w3 wr) (fun _ i' _ => l.length - (intOf i').toNat)
            case atStart => exact ⟨0, Nat.zero_le _, rfl, rfl, fun j _ h => absurd h (by omega), Nat.zero_le _, Below.refl _ _⟩
            case round =>
              rename World => wr
              obtain ⟨k, hk, rfl, rfl, hall, htk, hbw⟩ := hrel
              have HA := Lib.hid hall
              clear hall
              by_cases hltk : k < l.length
              · obtain ⟨g, off, hA, hg, e0, e1, e2⟩ := elem3 (HRW.out.below (Nat.le_refl _) hbw) (Below.refl _ _) hltk
                have h0K : (0 : Int) ≤ k := by omega
                have hlK : (k : Int) < l.length := by omega
                have HTN := Lib.hid (totS_next hltk)
                have htk2 : totS l k ≤ 300000 := by omega
                obtain ⟨Wa, hWa, hBa, hsa, hka⟩ := newBlk wr _ rfl #[.int .i64 l[k].op, .int .i64 l[k].n, .slice l[k].A l[k].args.length l[k].c] 33
                have h2a : Below w3.heap.size w3 Wa := hbw.trans (hBa.mono hbw.size)
                have h1a : Below W1.heap.size W1 Wa := hb3s.trans (h2a.mono hb3s.size)
                have HCa := Lib.hid (fun w' (h : Below Wa.heap.size Wa w') => box_cells hka h)
                have hfi := HFI.out l[k] (List.getElem_mem hltk) Wa h1a
                have hsi := fun w' (h : Below Wa.heap.size Wa w') => HSI.out l[k] (List.getElem_mem hltk) w' (h1a.trans (h.mono h1a.size))
                obtain ⟨d0, d1, d2⟩ := HCa.out Wa (Below.refl _ _)
                obtain ⟨ok, hok⟩ : ∃ x, decide ((l[k].tr.size : Int) ≤ 500) = x := ⟨_, rfl⟩
                rw [hok] at hfi
                have HFIk := Lib.hid hfi
                have HSIk := Lib.hid hsi
                have H2A := Lib.hid h2a
                have HSA := Lib.hid hsa
                have HTK := Lib.hid htk
                rw [hA]
                clear hfi hsi hbw hBa hka hsa hA h2a h1a htk
                cases ok
                · clear hok
                  generalize l[k] = T at e0 e1 e2 hWa HFIk HSIk HCa d0 d1 d2
                  go_wp2_with (go_at_call 48; refine HFIk.out.mono ?_; rintro e w5 ⟨rfl, hb5⟩)
                  go_ret
                  exact ⟨⟨_, rfl, fun h => by cases h⟩, HB.out.trans ((hb3s.trans ((H2A.out.trans (hb5.mono H2A.out.size)).mono hb3s.size)).mono HB.out.size)⟩
                · have hz1 : l[k].tr.size ≤ 500 := by have := of_decide_eq_true hok; omega
                  have HZ1 := Lib.hid hz1
                  have HTS := Lib.hid (show totS l (k + 1) ≤ (k + 1) * 500 by rw [HTN.out]; have := HTK.out; omega)
                  have hsi2 := fun w' h => HSIk.out w' h (by omega)
                  have HSI2 := Lib.hid hsi2
                  clear hok hsi2 HSIk
                  generalize l[k] = T at e0 e1 e2 hWa HTN hz1 HFIk HSI2 HCa d0 d1 d2
                  go_wp2_with (first
                    | (go_at_call 49; refine (HSI2.out w5 hb5).mono ?_; rintro e w6 ⟨rfl, hb6⟩)
                    | (go_at_call 48; refine HFIk.out.mono ?_; rintro e w5 ⟨rfl, hb5⟩; obtain ⟨f0, f1, f2⟩ := HCa.out w5 hb5))
                  go_roundw
                  case rel => exact ⟨k + 1, by omega, by go_num, by rw [HTN.out]; go_num, fun j hj hjk => by
                    by_cases e : j = k
                    · subst e; exact HZ1.out
                    · exact HA.out j hj (by omega), HTS.out, H2A.out.trans ((hb5.trans (hb6.mono hb5.size)).mono H2A.out.size)⟩
                  case measure => simp [intOf]; omega
              · have hke : k = l.length := by omega
                have HBW := Lib.hid hbw
                have HALL := Lib.hid (show ∀ T ∈ l, T.tr.size ≤ 500 from fun T hT => by
                  obtain ⟨j, hj, rfl⟩ := List.mem_iff_getElem.1 hT
                  exact HA.out j hj (by omega))
                clear hbw HA
                go_wp2_with fail
                go_ret
                exact ⟨⟨_, rfl, fun _ => ⟨HFB.out, by omega, by omega, by omega, by omega, by rw [HCO.out]; exact HALL.out⟩⟩, HB.out.trans ((hb3s.trans (HBW.out.mono hb3s.size)).mono HB.out.size)⟩
end Go.Proofs.YtndkcimajeofcaaGreatDoor

namespace Go.Proofs.YtndkcimajeofcaaGreatDoor
open Go.RowKit
attribute [local go_sem ↓] Go.wp_at_zero Go.wp_at_succ

set_option maxRecDepth 100000 in
set_option maxHeartbeats 8000000 in
theorem conceptsOf_any (b : BN) (w : World) (hb : b.In w.heap.size w) (hI : b.I.length ≤ 1000) (hF : b.F.length ≤ 1000) : Calls Tryz.prog 106 #[b.val] w (RetC b.cons w) := by
  obtain ⟨W1, hW1, hB1, hs1, hk1⟩ := newBlk w _ rfl #[.slice b.N.C.A b.N.C.l.length b.N.C.c, .slice b.N.R.A b.N.R.l.length b.N.R.c, .slice b.N.I.A b.N.I.l.length b.N.I.c, .slice b.IA b.I.length b.ic, .slice b.R.A b.R.l.length b.R.c, .slice b.FA b.F.length b.fc, .slice b.L.A b.L.l.length b.L.c] 30
  have hbb := fun w' (h : Below W1.heap.size W1 w') => bbox_of (b := b) (blk_lat hk1 h)
  obtain ⟨c0, c1, c2, c3, c4, c5, c6⟩ := hbb W1 (Below.refl _ _)
  have HB := Lib.hid (hb.later hB1)
  have HBL := Lib.hid hB1
  have HBB := Lib.hid hbb
  simp only [BN.val]
  obtain ⟨i0, hi, hz0, hz1, hz2⟩ := info_parts con_info
  clear hb hB1 hk1 hbb
  go_enter Tryz.func106, Tryz.ntmps106
  go_wp2_with fail
  clear c0 c1 c2 c3 c4 c5 c6
  go_loopw [3, 11] (fun v i' wr => ∃ k : Nat, k ≤ b.I.length ∧ i' = .int .i64 (k : Nat) ∧ wr.ownsRow W1.heap.size 33 3 v (consI b.I k).length ((consI b.I k).flatMap MT.cs) ∧ Below W1.heap.size W1 wr) (fun _ i' _ => b.I.length - (intOf i').toNat)
  case atStart => exact ⟨0, Nat.zero_le _, rfl, ⟨rfl, .inl ⟨rfl, rfl⟩⟩, Below.refl _ _⟩
  case round =>
    rename World => wr
    obtain ⟨k, hk, rfl, hrow, hbw⟩ := hrel
    by_cases hlt : k < b.I.length
    · obtain ⟨g, off, hA, hg, e0, e1, e2, e3, e4, e5⟩ := (HB.out.later hbw).incl hlt
      have h0K : (0 : Int) ≤ k := by omega
      have hlK : (k : Int) < b.I.length := by omega
      have hlen := consI_len b.I k hk
      have HQ := Lib.hid (consI_next hlt)
      obtain ⟨Q, hQ⟩ : ∃ Q, consI b.I k = Q := ⟨_, rfl⟩
      rw [hQ] at hrow hlen HQ
      obtain ⟨Wa, hWa, hBa, hsa, hka⟩ := newBlk wr _ rfl #[.int .i64 b.I[k].1.op, .int .i64 b.I[k].1.n, .slice b.I[k].1.A b.I[k].1.args.length b.I[k].1.c, .int .i64 b.I[k].2.op, .int .i64 b.I[k].2.n, .slice b.I[k].2.A b.I[k].2.args.length b.I[k].2.c] 111
      obtain ⟨Wb, hWb, hBb, hsb, hkb⟩ := newBlk Wa _ rfl #[.int .i64 b.I[k].1.op, .int .i64 b.I[k].1.n, .slice b.I[k].1.A b.I[k].1.args.length b.I[k].1.c, .int .i64 b.I[k].2.op, .int .i64 b.I[k].2.n, .slice b.I[k].2.A b.I[k].2.args.length b.I[k].2.c] 33
      have d0 := cell_of_blk hka 0
      have d1 := cell_of_blk hka 1
      have d2 := cell_of_blk hka 2
      have d3 := cell_of_blk hka 3
      have d4 := cell_of_blk hka 4
      have d5 := cell_of_blk hka 5
      simp only [List.getElem?_toArray, List.getElem?_cons_zero, List.getElem?_cons_succ] at d0 d1 d2 d3 d4 d5
      have hab : Below wr.heap.size wr Wb := hBa.trans (hBb.mono (by omega))
      have HRW := Lib.hid (owns_below hrow hab)
      have HAB := Lib.hid (hbw.trans (hab.mono hbw.size))
      have HLN := Lib.hid hlen
      have HKB := Lib.hid hkb
      have hws := hbw.size
      have HSA := Lib.hid hsa
      have HSB := Lib.hid hsb
      rw [hA]
      clear hQ hrow hbw hab hBa hBb hka hkb hlen hsa hsb hA
      generalize b.I[k] = p at e0 e1 e2 e3 e4 e5 d0 d1 d2 d3 d4 d5 hWa hWb HQ HKB
      go_wp2_with (at_builtin; refine wpList_append_lies _ rfl _ _ 31 rfl W1.heap.size 33 i0 _ 3 40 Tryz.underlying31 hi hz0 hz1 hz2 rfl (by omega) _ Q.length (Q.flatMap MT.cs) rfl HRW.out ⟨Wa.heap.size, 0, none⟩ 2 2 (ucells p) rfl rfl (World.news_of_block (fr := (0, 0)) HKB.out) (by simp [ucells, Value.oneCell']) (by omega) (by have := HLN.out; unfold maxLen; omega) (by have := HLN.out; omega) (by have := HSA.out; have := HSB.out; omega) Wb.heap.size rfl ?_; intro g6 cap w6 hown6 hg6 hat6 hlt6)
      refine ⟨⟨k + 1, by omega, by go_num, ?_, HAB.out.grown hg6 (by have := HAB.out.size; omega) (fun j e => (own_lt HRW.out e).1)⟩, by simp [intOf]; omega⟩
      rw [HQ.out, List.length_append, List.flatMap_append]
      simpa [MT.cs, ucells] using hown6
    · have hke : k = b.I.length := by omega
      subst hke
      have hrow2 : wr.ownsRow W1.heap.size 33 3 u3 (consF b 0).length ((consF b 0).flatMap MT.cs) := by rw [consF]; simpa using hrow
      have HRW := Lib.hid hrow2
      obtain ⟨c0, c1, c2, c3, c4, c5, c6⟩ := HBB.out wr hbw
      have HBW := Lib.hid hbw
      clear hrow hrow2 hbw
      go_wp2_with fail
      clear c0 c1 c2 c3 c4 c5 c6
      go_loopw [3, 26] (fun v i' wr => ∃ k : Nat, k ≤ b.F.length ∧ i' = .int .i64 (k : Nat) ∧ wr.ownsRow W1.heap.size 33 3 v (consF b k).length ((consF b k).flatMap MT.cs) ∧ Below W1.heap.size W1 wr) (fun _ i' _ => b.F.length - (intOf i').toNat)
      case atStart => exact ⟨0, Nat.zero_le _, rfl, HRW.out, HBW.out⟩
      case round =>
        rename World => wt
        obtain ⟨k, hk, rfl, hrow, hbw⟩ := hrel
        by_cases hlt : k < b.F.length
        · obtain ⟨g, off, hA, hg, e0, e1, e2, e3⟩ := (HB.out.later hbw).fact hlt
          have h0K : (0 : Int) ≤ k := by omega
          have hlK : (k : Int) < b.F.length := by omega
          have hlen := consF_len b k hk
          have HQ := Lib.hid (consF_next hlt)
          obtain ⟨Q, hQ⟩ : ∃ Q, consF b k = Q := ⟨_, rfl⟩
          rw [hQ] at hrow hlen HQ
          obtain ⟨Wa, hWa, hBa, hsa, hka⟩ := newBlk wt _ rfl #[.int .i64 b.F[k].1, .int .i64 b.F[k].2.op, .int .i64 b.F[k].2.n, .slice b.F[k].2.A b.F[k].2.args.length b.F[k].2.c] 96
          obtain ⟨Wb, hWb, hBb, hsb, hkb⟩ := newBlk Wa _ rfl #[.int .i64 b.F[k].2.op, .int .i64 b.F[k].2.n, .slice b.F[k].2.A b.F[k].2.args.length b.F[k].2.c] 33
          have d0 := cell_of_blk hka 0
          have d1 := cell_of_blk hka 1
          have d2 := cell_of_blk hka 2
          have d3 := cell_of_blk hka 3
          simp only [List.getElem?_toArray, List.getElem?_cons_zero, List.getElem?_cons_succ] at d0 d1 d2 d3
          have hab : Below wt.heap.size wt Wb := hBa.trans (hBb.mono (by omega))
          have HRW := Lib.hid (owns_below hrow hab)
          have HAB := Lib.hid (hbw.trans (hab.mono hbw.size))
          have HLN := Lib.hid hlen
          have HKB := Lib.hid hkb
          have hws := hbw.size
          have HSA := Lib.hid hsa
          have HSB := Lib.hid hsb
          rw [hA]
          clear hQ hrow hbw hab hBa hBb hka hkb hlen hsa hsb hA
          generalize b.F[k] = p at e0 e1 e2 e3 d0 d1 d2 d3 hWa hWb HQ HKB
          go_wp2_with (at_builtin; refine wpList_append_lies _ rfl _ _ 31 rfl W1.heap.size 33 i0 _ 3 40 Tryz.underlying31 hi hz0 hz1 hz2 rfl (by omega) _ Q.length (Q.flatMap MT.cs) rfl HRW.out ⟨Wa.heap.size, 0, none⟩ 1 1 p.2.cs rfl rfl (World.news_of_block (fr := (0, 0)) HKB.out) (by simp [MT.cs, Value.oneCell']) (by omega) (by have := HLN.out; unfold maxLen; omega) (by have := HLN.out; omega) (by have := HSA.out; have := HSB.out; omega) Wb.heap.size rfl ?_; intro g6 cap w6 hown6 hg6 hat6 hlt6)
          refine ⟨⟨k + 1, by omega, by go_num, ?_, HAB.out.grown hg6 (by have := HAB.out.size; omega) (fun j e => (own_lt HRW.out e).1)⟩, by simp [intOf]; omega⟩
          rw [HQ.out, List.length_append, List.flatMap_append]
          simpa [MT.cs] using hown6
        · have hke : k = b.F.length := by omega
          rw [consF_all b k hke] at hrow
          have HRW := Lib.hid hrow
          have HBW2 := Lib.hid hbw
          clear hrow hbw hke
          go_wp2_with fail
          go_ret
          exact ⟨_, rfl, owns_lower HRW.out (by have := HBL.out.size; omega), HBL.out.trans (HBW2.out.mono HBL.out.size)⟩

end Go.Proofs.YtndkcimajeofcaaGreatDoor

namespace Go.Proofs.YtndkcimajeofcaaGreatDoor
open Go.RowKit
attribute [local go_sem ↓] Go.wp_at_zero Go.wp_at_succ

/-- A []Concept, as it lies. -/
structure ML where
  A : Option Addr
  c : Nat
  l : List MT
def ML.In (B : Nat) (w : World) (s : ML) : Prop := s.l.length ≤ s.c ∧ s.c ≤ 9223372036854775807 ∧ (s.A = none → s.c = 0) ∧ RowAt w B 3 s.A s.l.length (s.l.flatMap MT.cs) ∧ ∀ T ∈ s.l, T.In B w
theorem ML.In.below {B : Nat} {w w' : World} {s : ML} (h : s.In B w) {B' : Nat} (hB : B ≤ B') (hb : Below B w w') : s.In B' w' :=
  ⟨h.1, h.2.1, h.2.2.1, h.2.2.2.1.below hB hb, fun T hT => ((h.2.2.2.2 T hT).below hb).more hB⟩
theorem ML.In.later {w w' : World} {s : ML} (h : s.In w.heap.size w) (hb : Below w.heap.size w w') : s.In w'.heap.size w' := h.below hb.size hb
/-- The lists behind a [][]Concept, one behind the other. -/
def ML.all (ls : List ML) : List MT := ls.flatMap ML.l
theorem ML.all_take (ls : List ML) (k : Nat) (hk : k < ls.length) : ML.all (ls.take (k + 1)) = ML.all (ls.take k) ++ ls[k].l := by
  rw [List.take_succ_eq_append_getElem hk, ML.all, List.flatMap_append]; simp [ML.all]

set_option maxRecDepth 100000 in
set_option maxHeartbeats 1000000 in
theorem GrowC_nil (n : Nat) (hn : n ≤ 1000000) (w : World) :
    Calls Tryz.prog 149 #[.slice none 0 0, .int .i64 n] w fun e w' => ∃ v, e = .returned v ∧ w'.ownsRow w.heap.size 33 3 v 0 [] ∧ Below w.heap.size w w' := by
  obtain ⟨i0, hi, hz0, hz1, hz2⟩ := info_parts con_info
  by_cases h0 : n = 0
  · subst h0
    go_enter Tryz.func149, Tryz.ntmps149
    go_wp2
    go_ret
    exact ⟨_, rfl, ⟨rfl, .inl ⟨rfl, rfl⟩⟩, Below.refl _ _⟩
  · have h0' : 0 < n := by omega
    have hrun := Lib.run_append_nil_zeros (P := Tryz.prog) w 31 3 31 33 i0 (.agg #[.int .i64 0, .int .i64 0, .slice none 0 0]) .i64 .i64 Tryz.underlying31 Tryz.underlying3 hi hz0 n h0' (by rw [hz1]; omega) (by omega) (by rw [hz2]; omega)
    have HR := Lib.hid hrun
    clear hrun
    go_enter Tryz.func149, Tryz.ntmps149
    go_wp2_with (at_builtin; refine Lib.wpList_append_run _ rfl _ _ _ _ rfl _ _ rfl rfl _ _ HR.out ?_)
    go_ret
    have hge := grownCap_ge w n 0 33
    refine ⟨_, rfl, ⟨rfl, .inr ⟨w.heap.size, grownCap w n 0 33, _, rfl, Nat.le_refl _, World.alloc_heap_new' w.drew _, Nat.zero_le _, grownCap_le_maxLen w n 0 33 (by unfold maxLen; omega), ?_, by simp⟩⟩, (Below.refl _ _).drew.alloc (Nat.le_refl _) _⟩
    rw [Array.size_append, size_zeroCells, size_zeroCells]
    simp []
    omega

set_option maxRecDepth 100000 in
set_option maxHeartbeats 2000000 in
theorem ConcatC_any (ls : List ML) (b : Nat) (c : Nat) (w : World) (hb : b < w.heap.size) (hl : 0 < ls.length ∧ ls.length ≤ 100) (_hlc : ls.length ≤ c) (hin : ∀ s ∈ ls, s.In w.heap.size w) (hs : ∀ s ∈ ls, s.l.length ≤ 1000)
    (hc : ∀ k (hk : k < ls.length), w.cell? ⟨b, k, none⟩ = some (.slice ls[k].A ls[k].l.length ls[k].c)) :
    Calls Tryz.prog 105 #[.slice (some ⟨b, 0, none⟩) ls.length c] w (RetC (ML.all ls) w) := by
  obtain ⟨i0, hi, hz0, hz1, hz2⟩ := info_parts con_info
  have htot : ∀ k, k ≤ ls.length → (ML.all (ls.take k)).length ≤ 1000 * k := by
    intro k
    induction k with
    | zero => intro _; simp [ML.all]
    | succ k ih =>
      intro hk
      rw [ML.all_take ls k (by omega), List.length_append]
      have := ih (by omega)
      have := hs ls[k] (List.getElem_mem _)
      omega
  have HT := Lib.hid htot
  clear htot
  have hsz : ls.length ≤ 9223372036854775807 := by omega
  go_enter Tryz.func105, Tryz.ntmps105
  go_wp2
  go_loop [3, 11] (fun t i => ∃ k : Nat, k ≤ ls.length ∧ i = .int .i64 k ∧ t = .int .i64 (ML.all (ls.take k)).length) (fun _ i => ls.length - (intOf i).toNat)
  case atStart => exact ⟨0, Nat.zero_le _, rfl, rfl⟩
  case round =>
    obtain ⟨k, hk, rfl, rfl⟩ := hrel
    by_cases hlt : k < ls.length
    · have hcell := hc k hlt
      have h1 := HT.out k hk
      have h2 := hs ls[k] (List.getElem_mem _)
      have HA := Lib.hid (ML.all_take ls k hlt)
      go_wp2
      go_round
      case rel => exact ⟨k + 1, by omega, by go_num, by rw [HA.out, List.length_append]; go_num⟩
      case measure => simp [intOf]; omega
    · have h1 := HT.out k hk
      go_wp2_with (go_at_call 149; refine (GrowC_nil (ML.all (ls.take k)).length (by omega) _).mono ?_; rintro e w1 ⟨v1, rfl, hown1, hb1⟩)
      clear h1
      go_loopw [6, 27] (fun v i wr => ∃ k : Nat, k ≤ ls.length ∧ i = .int .i64 k ∧ wr.ownsRow w.heap.size 33 3 v (ML.all (ls.take k)).length ((ML.all (ls.take k)).flatMap MT.cs) ∧ Below w.heap.size w wr) (fun _ i _ => ls.length - (intOf i).toNat)
      case atStart => exact ⟨0, Nat.zero_le _, rfl, hown1, hb1⟩
      case round =>
        obtain ⟨k, hk, rfl, hown, hbr⟩ := hrel
        by_cases hlt : k < ls.length
        · have hcell := (hbr.cell (p := ⟨b, k, none⟩) hb).trans (hc k hlt)
          have h1 := HT.out k hk
          have h2 := hs ls[k] (List.getElem_mem _)
          have h3 := (hin ls[k] (List.getElem_mem _)).below hbr.size hbr
          have HA := Lib.hid (ML.all_take ls k hlt)
          have HI := Lib.hid h3
          have HB := Lib.hid hbr
          clear h3 hbr
          have hbytes : (ML.all (ls.take k)).length + ls[k].l.length ≤ 1000000 := by omega
          have hone : ∀ u ∈ ls[k].l.flatMap MT.cs, u.oneCell' = true := by
            intro u hu
            obtain ⟨x, _, hx⟩ := List.mem_flatMap.1 hu
            simp only [MT.cs, List.mem_cons, List.not_mem_nil, or_false] at hx
            rcases hx with rfl | rfl | rfl <;> rfl
          have HO := Lib.hid hone
          clear hone
          go_wp2_with (at_builtin; refine append_row _ rfl (.tmp 31) (.tmp 32) _ rfl w.heap.size 33 i0 _ 3 40 Tryz.underlying31 hi hz0 hz1 hz2 rfl (by omega) _ _ _ rfl hown wr.heap.size _ _ _ _ rfl HI.out.2.2.1 HI.out.2.2.2.1 HO.out (by unfold maxLen; omega) (by omega) HB.out.size ?_; intro v2 w2 hown2 hg2 _)
          have hbr2 : Below w.heap.size w w2 := HB.out.grown hg2 HB.out.size (fun g hg => by
            rcases hown.2 with ⟨rfl, _⟩ | ⟨g', cap, cur, rfl, hge, _⟩
            · cases hg
            · have hg' : g' = g := Option.some.inj hg
              omega)
          go_roundw
          case rel => exact ⟨k + 1, by omega, by go_num, by rw [HA.out, List.length_append, List.flatMap_append]; exact hown2, hbr2⟩
          case measure => simp [intOf]; omega
        · go_wp2
          go_ret
          have hk2 : (ML.all (ls.take k)) = ML.all ls := by rw [List.take_of_length_le (by omega)]
          rw [hk2] at hown
          exact ⟨_, rfl, hown, hbr⟩
end Go.Proofs.YtndkcimajeofcaaGreatDoor

namespace Go.Proofs.YtndkcimajeofcaaGreatDoor
open Go.RowKit
attribute [local go_sem ↓] Go.wp_at_zero Go.wp_at_succ

/-- Where few says yes, base and concepts are small. -/
def RetF5 (b : BN) (l : List MT) (w : World) (e : Ending) (w' : World) : Prop := (∃ x, e = .returned (.bool x) ∧ (x = true → fewB b.N = true ∧ b.I.length ≤ 200 ∧ b.R.l.length ≤ 200 ∧ b.F.length ≤ 200 ∧ b.L.l.length ≤ 200 ∧ (∀ T ∈ b.cons, T.tr.size ≤ 500) ∧ l.length ≤ 6 ∧ ∀ T ∈ l, T.tr.size ≤ 500)) ∧ Below w.heap.size w w'

set_option maxRecDepth 100000 in
set_option maxHeartbeats 8000000 in
theorem few5_any (b : BN) (mo : ML) (w : World) (hb : b.In w.heap.size w) (hmo : mo.In w.heap.size w) : Calls Tryz.prog 20 #[b.val, .slice mo.A mo.l.length mo.c] w (RetF5 b mo.l w) := by
  obtain ⟨W1, hW1, hB1, hs1, hk1⟩ := newBlk w _ rfl #[.slice b.N.C.A b.N.C.l.length b.N.C.c, .slice b.N.R.A b.N.R.l.length b.N.R.c, .slice b.N.I.A b.N.I.l.length b.N.I.c, .slice b.IA b.I.length b.ic, .slice b.R.A b.R.l.length b.R.c, .slice b.FA b.F.length b.fc, .slice b.L.A b.L.l.length b.L.c] 30
  have hbb := fun w' (h : Below W1.heap.size W1 w') => bbox_of (b := b) (blk_lat hk1 h)
  have hfb := fun w' (h : Below W1.heap.size W1 w') => bFew5_any b w' ((hb.later hB1).later h)
  obtain ⟨A, c, l⟩ := mo
  obtain ⟨hlc, hc, -, hrow, hin⟩ := hmo
  dsimp only at hlc hc hrow hin
  have hft := fun T (hT : T ∈ l) w' (h : Below W1.heap.size W1 w') => Fits_any T 500 w' (((hin T hT).later hB1).later h) (by omega) (by omega)
  have hrw := fun w' (h : Below W1.heap.size W1 w') => (hrow.below hB1.size hB1).below h.size h
  have HB := Lib.hid hB1
  have HBB := Lib.hid hbb
  have HFB := Lib.hid hfb
  have HFT := Lib.hid hft
  have HRW := Lib.hid hrw
  have hlm : l.length ≤ 9223372036854775807 := by omega
  simp only [BN.val, MT.val] at HFB HFT ⊢
  clear hbb hfb hft hrw hB1 hk1 hb hrow hin hlc hc
  go_enter Tryz.func20, Tryz.ntmps20
  go_wp2_with fail
  go_loopw [9] (fun i' wr => ∃ k : Nat, k ≤ l.length ∧ i' = .int .i64 (k : Nat) ∧ (∀ j (hj : j < l.length), j < k → l[j].tr.size ≤ 500) ∧ Below W1.heap.size W1 wr) (fun i' _ => l.length - (intOf i').toNat)
  case atStart => exact ⟨0, Nat.zero_le _, rfl, fun j _ h => absurd h (by omega), Below.refl _ _⟩
  case round =>
    rename World => wr
    obtain ⟨k, hk, rfl, hall, hbw⟩ := hrel
    have HA := Lib.hid hall
    clear hall
    by_cases hlt : k < l.length
    · obtain ⟨g, off, hA, hg, e0, e1, e2⟩ := elem3 (HRW.out wr hbw) (Below.refl _ _) hlt
      subst hA
      have h0K : (0 : Int) ≤ k := by omega
      have hlK : (k : Int) < l.length := by omega
      obtain ⟨Wa, hWa, hBa, hsa, hka⟩ := newBlk wr _ rfl #[.int .i64 l[k].op, .int .i64 l[k].n, .slice l[k].A l[k].args.length l[k].c] 33
      obtain ⟨⟨d0, d1, d2⟩, -⟩ := res3 hka
      have h1a : Below W1.heap.size W1 Wa := hbw.trans (hBa.mono hbw.size)
      have hf := HFT.out l[k] (List.getElem_mem hlt) Wa h1a
      rw [fits_size] at hf
      obtain ⟨ok, hok⟩ : ∃ x, decide ((l[k].tr.size : Int) ≤ 500) = x := ⟨_, rfl⟩
      rw [hok] at hf
      have H1A := Lib.hid h1a
      have HOK := Lib.hid hok
      clear hok hBa hka h1a hbw
      cases ok
      · go_wp2_with (go_at_call 48; refine hf.mono ?_; clear hf; rintro e w5 ⟨rfl, hb5⟩)
        go_ret
        exact ⟨⟨false, rfl, nofun⟩, HB.out.trans ((H1A.out.trans (hb5.mono H1A.out.size)).mono HB.out.size)⟩
      · have hz : l[k].tr.size ≤ 500 := by have := of_decide_eq_true HOK.out; omega
        have HZ := Lib.hid hz
        clear hz
        go_wp2_with (go_at_call 48; refine hf.mono ?_; clear hf; rintro e w5 ⟨rfl, hb5⟩)
        go_roundw
        case rel => exact ⟨k + 1, by omega, by go_num, fun j hj hjk => by
          by_cases e : j = k
          · subst e; exact HZ.out
          · exact HA.out j hj (by omega), H1A.out.trans (hb5.mono H1A.out.size)⟩
        case measure => simp [intOf]; omega
    · obtain ⟨c0, c1, c2, c3, c4, c5, c6⟩ := HBB.out wr hbw
      have hf := HFB.out wr hbw
      have HBW := Lib.hid hbw
      have hall : ∀ T ∈ l, T.tr.size ≤ 500 := fun T hT => by
        obtain ⟨j, hj, rfl⟩ := List.getElem_of_mem hT
        exact HA.out j hj (by omega)
      have HALL := Lib.hid hall
      clear hall hbw
      go_wp2_with (go_at_call 10; refine hf.mono ?_; clear hf; rintro e w5 ⟨⟨x, rfl, hx⟩, hb5⟩; have HX := Lib.hid hx; clear hx; cases x)
      · go_ret
        exact ⟨⟨false, rfl, nofun⟩, HB.out.trans ((HBW.out.trans (hb5.mono HBW.out.size)).mono HB.out.size)⟩
      · go_ret
        obtain ⟨k1, k2, k3, k4, k5, k6⟩ := HX.out trivial
        refine ⟨⟨_, rfl, fun h => ⟨k1, k2, k3, k4, k5, k6, ?_, HALL.out⟩⟩, HB.out.trans ((HBW.out.trans (hb5.mono HBW.out.size)).mono HB.out.size)⟩
        have := of_decide_eq_true h
        omega
end Go.Proofs.YtndkcimajeofcaaGreatDoor

namespace Go.Proofs.YtndkcimajeofcaaGreatDoor
open Go.RowKit

/-- Which types contain the j-th of m marks. -/
def ownF (m j x : Nat) : Bool := decide (x < 2 ^ m) && x.testBit j
/-- THE WHOLE TABLE AS IT LIES: the marks Ts, new from block lo on, and the types. -/
def TF (w : World) (tb lo : Nat) (n : NM) (Ts : List MT) : Prop :=
  ∃ (mb og s0 s1 s2 s3 : Nat) (v : Value), TabB w tb mb n v (.int .u64 (s0 : Nat)) (.int .u64 (s1 : Nat)) (.int .u64 (s2 : Nat)) (.int .u64 (s3 : Nat)) (.slice (some ⟨og, 0, none⟩) Ts.length Ts.length) ∧ SW (fun x => decide (x < 2 ^ Ts.length)) s0 s1 s2 s3 ∧
    TS.MRow w og Ts.length (ownF Ts.length) ∧ OwnM w mb Ts.length (Ts.map (strT n)) ∧ Coll lo lo w v Ts ∧ Ts.length ≤ 8
theorem TF.later {w w' : World} {tb lo : Nat} {n : NM} {Ts : List MT} (h : TF w tb lo n Ts) (hb : Below w.heap.size w w') : TF w' tb lo n Ts := by
  obtain ⟨mb, og, s0, s1, s2, s3, v, h1, h2, h3, h4, h5, h6⟩ := h
  exact ⟨mb, og, s0, s1, s2, s3, v, blk_lat0 h1 hb, h2, h3.later hb, h4.later hb, h5.later hb, h6⟩
theorem TF.lt {w : World} {tb lo : Nat} {n : NM} {Ts : List MT} (h : TF w tb lo n Ts) : tb < w.heap.size := by
  obtain ⟨mb, og, s0, s1, s2, s3, v, h1, -⟩ := h
  exact (Array.getElem?_eq_some_iff.1 h1).1
theorem TF.len {w : World} {tb lo : Nat} {n : NM} {Ts : List MT} (h : TF w tb lo n Ts) : Ts.length ≤ 8 := by
  obtain ⟨mb, og, s0, s1, s2, s3, v, -, -, -, -, -, h6⟩ := h; exact h6
/-- What a call reads of the table. -/
theorem TF.cells {w : World} {tb lo : Nat} {n : NM} {Ts : List MT} (h : TF w tb lo n Ts) : ∃ (og s0 s1 s2 s3 : Nat) (A : Option Addr) (c : Nat), SW (fun x => decide (x < 2 ^ Ts.length)) s0 s1 s2 s3 ∧ TS.MRow w og Ts.length (ownF Ts.length) ∧ og < w.heap.size ∧ w.cell? ⟨tb, 3, none⟩ = some (.slice A Ts.length c) ∧
    (w.cell? ⟨tb, 5, none⟩ = some (.int .u64 (s0 : Nat)) ∧ w.cell? ⟨tb, 6, none⟩ = some (.int .u64 (s1 : Nat)) ∧ w.cell? ⟨tb, 7, none⟩ = some (.int .u64 (s2 : Nat)) ∧ w.cell? ⟨tb, 8, none⟩ = some (.int .u64 (s3 : Nat))) ∧ w.cell? ⟨tb, 9, none⟩ = some (.slice (some ⟨og, 0, none⟩) Ts.length Ts.length) := by
  obtain ⟨mb, og, s0, s1, s2, s3, v, h1, h2, h3, h4, h5, h6⟩ := h
  obtain ⟨A, c, rfl, -, -⟩ := row_val h5.own
  exact ⟨og, s0, s1, s2, s3, A, c, h2, h3, h3.lt, cell_of_blk h1 3, ⟨cell_of_blk h1 5, cell_of_blk h1 6, cell_of_blk h1 7, cell_of_blk h1 8⟩, cell_of_blk h1 9⟩
theorem TF.place {w : World} {tb lo : Nat} {n : NM} {Ts : List MT} (h : TF w tb lo n Ts) (hG : G w) (hn : n.In w.heap.size w) (T : MT) (hT : T.In w.heap.size w) (hb : NmB n) (hp : Pr n T) :
    Calls Tryz.prog 117 #[.pointer (some ⟨tb, 0, none⟩), T.val] w fun e w' => e = .returned (.tuple #[.int .i64 (placeN (Ts.map (strT n)) (strT n T) : Nat), .bool (look (Ts.map (strT n)) (strT n T)).isSome]) ∧ Below w.heap.size w w' := by
  obtain ⟨mb, og, s0, s1, s2, s3, v, h1, h2, h3, h4, h5, h6⟩ := h
  exact placeOf_any T w hG hn hT hb hp h1 h4

/-- The string of the mark at a node. -/
def markS (C R : List ByteArray) (t : Tr) : List UInt8 := match markT t with | some m => m.str C R | none => []
def covN (C R : List ByteArray) (S : List (List UInt8)) (t : Tr) : Bool := match markT t with | some m => (look S (m.str C R)).isSome | none => true
/-- In which types a concept is true, by the types in which its parts are. -/
def truN (m : Nat) (op : Int) (k : Nat) (l : List (Nat → Bool)) : Nat → Bool :=
  if op = 1 then fun x => decide (x < 2 ^ m)
  else if op = 2 then fun _ => false
  else if op = 3 then fun x => decide (x < 2 ^ m) && !(l.headD fun _ => false) x
  else if op = 4 then fun x => (l.headD fun _ => false) x && ((l.drop 1).headD fun _ => false) x
  else if op = 5 then fun x => (l.headD fun _ => false) x || ((l.drop 1).headD fun _ => false) x
  else if op = 7 then fun x => decide (x < 2 ^ m) && !ownF m k x
  else ownF m k
mutual
def truT (C R : List ByteArray) (S : List (List UInt8)) (m : Nat) : Tr → Nat → Bool
  | .mk op n args => truN m op (placeN S (markS C R (.mk op n args))) (truL C R S m args)
def truL (C R : List ByteArray) (S : List (List UInt8)) (m : Nat) : List Tr → List (Nat → Bool)
  | [] => []
  | t :: ts => truT C R S m t :: truL C R S m ts
end
mutual
/-- Every name and quantified part is covered. -/
def covT (C R : List ByteArray) (S : List (List UInt8)) : Tr → Bool
  | .mk op n args => covN C R S (.mk op n args) && covL C R S args
def covL (C R : List ByteArray) (S : List (List UInt8)) : List Tr → Bool
  | [] => true
  | t :: ts => covT C R S t && covL C R S ts
end
theorem covL_mem {C R : List ByteArray} {S : List (List UInt8)} : ∀ {l : List Tr}, covL C R S l = true → ∀ t ∈ l, covT C R S t = true
  | x :: l, h, t, ht => by
    rw [covL, Bool.and_eq_true] at h
    rcases List.mem_cons.1 ht with rfl | ht
    · exact h.1
    · exact covL_mem h.2 t ht
/-- All nodes of a tree are covered. -/
theorem cov_nodes (n : NM) (S : List (List UInt8)) (T : MT) : T.nodes.all (fun x => covN n.C.l n.R.l S x.tr) = covT n.C.l n.R.l S T.tr :=
  MT.rec (motive_1 := fun T => T.nodes.all (fun x => covN n.C.l n.R.l S x.tr) = covT n.C.l n.R.l S T.tr) (motive_2 := fun l => (MT.nodesL l).all (fun x => covN n.C.l n.R.l S x.tr) = covL n.C.l n.R.l S (MT.trs l))
    (fun op nn A c args ih => by rw [MT.nodes, List.all_cons, ih, MT.tr, covT])
    (by rw [MT.nodesL, MT.trs, covL]; rfl)
    (fun t ts h1 h2 => by rw [MT.nodesL, List.all_append, h1, h2, MT.trs, covL]) T
theorem look_lt {S : List (List UInt8)} {k : List UInt8} (h : (look S k).isSome = true) : placeN S k < S.length := by
  unfold placeN
  cases hl : look S k with
  | none => rw [hl] at h; cases h
  | some j =>
    unfold look at hl
    rw [List.findIdx?_eq_some_iff_getElem] at hl
    obtain ⟨h1, -⟩ := hl
    exact h1
end Go.Proofs.YtndkcimajeofcaaGreatDoor

namespace Go.Proofs.YtndkcimajeofcaaGreatDoor
open Go Go.RowKit

theorem rdRows {n : Nat} {P : Program} {row : String} {args : Array Value} {w : World} {R : Value → World → Prop} (h : Rows P row args w R) : RowsIn Fence.wide n P row args w R :=
  fun c cs _ => let ⟨v, w', r, s⟩ := h c cs; ⟨v, w', r, stepsIn_wide.2 s⟩
theorem rdOper {l n : Nat} {P : Program} {o : Oper} {a : Act} {w : World} {K : Act → World → Prop} {Q : Exit → Act → World → Prop} (hnd : ∀ c, o.op ≠ .defer c)
    (h : o.wp P a w K Q) : o.wpIn (Fence.wide.inRound l) n P a w K Q := by
  refine ⟨fun _ _ => trivial, ?_⟩
  rw [Oper.semAt_plain _ _ _ hnd]
  unfold Oper.wp at h
  generalize (execOp a.eval o).run P w = r at h ⊢
  cases r with
  | ok x w' =>
    cases x <;> simp only [Oper.upon, Oper.uponIn] at h ⊢ <;>
      first
        | exact h
        | exact ⟨fun hd => absurd hd (by simp [Fence.inRound, Fence.wide]), CallsIn.inRound l (callsIn_wide.2 (Calls.mono h fun e _ he => by cases e <;> exact he))⟩
        | exact ⟨fun hd => absurd hd (by simp [Fence.inRound, Fence.wide]), rdRows h⟩
  | halt x w' => cases x <;> simp only [Oper.upon, Oper.uponIn] at h ⊢ <;> exact h

theorem rdAny {l n : Nat} {P : Program} {md : Region.Mode} {ops : Array Oper} {Q : Exit → Act → World → Prop} (hnd : ∀ (i : Nat) (o : Oper), ops[i]? = some o → ∀ c : Call, o.op ≠ .defer c) (hQ : ¬ LetsOut Q) :
    ∀ (fuel : Nat) (listed : Array Bool) (a : Act) (w : World), wpAny P md ops Q fuel listed a w → wpAnyIn (Fence.wide.inRound l) n P md ops Q fuel listed a w
  | 0, _, _, _, h => h
  | fuel + 1, listed, a, w, h => by
    refine ⟨h.1, fun i hi => ?_⟩
    have h2 := wpOp_mono (K' := wpAnyIn (Fence.wide.inRound l) n P md ops Q fuel (listed.setIfInBounds i true)) (fun a w => rdAny hnd hQ fuel _ a w) (h.2 i hi)
    unfold wpOp at h2
    unfold wpOpIn
    split
    · rename_i e; simpa only [e] using h2
    · rename_i o e
      simp only [e] at h2
      split
      · rename_i hw
        simp only [hw, if_true] at h2
        exact rdOper (hnd i o e) (h2.resolve_right fun h => hQ h.2)
      · rename_i hw
        simp only [hw] at h2
        exact ⟨fun _ _ => trivial, h2⟩

/-- A REGION WITHOUT DEFER THAT DRAWS, IN A ROUND, as outside one. -/
theorem rdRound {l n : Nat} {P : Program} {id : Nat} {ops : Array Oper} {Q : Exit → Act → World → Prop} {a : Act} {w : World} (hm : P.follows .mixedOrders = true)
    (hnd : ∀ (i : Nat) (o : Oper), ops[i]? = some o → ∀ c : Call, o.op ≠ .defer c) (hQ : ¬ LetsOut Q)
    (h : wpAny P .any ops Q ops.size (Array.replicate ops.size false) a { w with drawn := w.drawn + 1 }) : (Code.region id ops true).wpIn (Fence.wide.inRound l) n P Q a w :=
  wpIn_region_any hm (rdAny hnd hQ _ _ _ _ h)

/-- The operations of the region. -/
def opsAT9 : Array Oper := #[
  { dst := some 42, op := Op.load 116 (Operand.tmp 1), type := 116, pos := "truth.go:22", after := #[], guard := none },
  { dst := some 43, op := Op.nilCheck (Operand.tmp 42), type := 0, pos := "truth.go:22", after := #[{ on := 0, ground := Ground.data }], guard := none },
  { dst := some 44, op := Op.fieldAddr 164 (Operand.tmp 43) 4, type := 0, pos := "truth.go:22", after := #[{ on := 1, ground := Ground.data }], guard := none },
  { dst := some 45, op := Op.load 162 (Operand.tmp 44), type := 162, pos := "truth.go:22", after := #[{ on := 2, ground := Ground.data }], guard := none },
  { dst := some 46, op := Op.load 3 (Operand.tmp 2), type := 3, pos := "truth.go:22", after := #[], guard := none },
  { dst := some 47, op := Op.load 116 (Operand.tmp 1), type := 116, pos := "truth.go:22", after := #[], guard := none },
  { dst := some 48, op := Op.nilCheck (Operand.tmp 47), type := 0, pos := "truth.go:22", after := #[{ on := 5, ground := Ground.data }], guard := none },
  { dst := some 49, op := Op.fieldAddr 164 (Operand.tmp 48) 4, type := 0, pos := "truth.go:22", after := #[{ on := 6, ground := Ground.data }], guard := none },
  { dst := some 50, op := Op.load 162 (Operand.tmp 49), type := 162, pos := "truth.go:22", after := #[{ on := 7, ground := Ground.data }], guard := none },
  { dst := some 51, op := Op.load 3 (Operand.tmp 2), type := 3, pos := "truth.go:22", after := #[], guard := none },
  { dst := some 52, op := Op.indexAddr 162 (Operand.tmp 50) (Operand.tmp 51), type := 0, pos := "truth.go:22", after := #[{ on := 8, ground := Ground.data }, { on := 9, ground := Ground.data }], guard := none },
  { dst := some 53, op := Op.load 126 (Operand.tmp 52), type := 126, pos := "truth.go:22", after := #[{ on := 10, ground := Ground.data }], guard := none },
  { dst := some 54, op := Op.move (Operand.tmp 3), type := 129, pos := "truth.go:22", after := #[], guard := none },
  { dst := some 55, op := Op.call { callee := Callee.value (Operand.func 156), args := #[Operand.tmp 53, Operand.tmp 54], argTypes := #[126, 129] }, type := 126, pos := "truth.go:22", after := #[{ on := 11, ground := Ground.data }, { on := 12, ground := Ground.data }], guard := none },
  { dst := some 56, op := Op.indexAddr 162 (Operand.tmp 45) (Operand.tmp 46), type := 0, pos := "truth.go:22", after := #[{ on := 3, ground := Ground.data }, { on := 4, ground := Ground.data }, { on := 0, ground := Ground.phase }, { on := 1, ground := Ground.phase }, { on := 2, ground := Ground.phase }, { on := 3, ground := Ground.phase }, { on := 4, ground := Ground.phase }, { on := 5, ground := Ground.phase }, { on := 6, ground := Ground.phase }, { on := 7, ground := Ground.phase }, { on := 8, ground := Ground.phase }, { on := 9, ground := Ground.phase }, { on := 10, ground := Ground.phase }, { on := 11, ground := Ground.phase }, { on := 12, ground := Ground.phase }, { on := 13, ground := Ground.phase }], guard := none },
  { dst := none, op := Op.store 126 (Operand.tmp 56) (Operand.tmp 55), type := 0, pos := "truth.go:22", after := #[{ on := 14, ground := Ground.data }, { on := 13, ground := Ground.data }, { on := 13, ground := Ground.chain }, { on := 0, ground := Ground.phase }, { on := 1, ground := Ground.phase }, { on := 2, ground := Ground.phase }, { on := 3, ground := Ground.phase }, { on := 4, ground := Ground.phase }, { on := 5, ground := Ground.phase }, { on := 6, ground := Ground.phase }, { on := 7, ground := Ground.phase }, { on := 8, ground := Ground.phase }, { on := 9, ground := Ground.phase }, { on := 10, ground := Ground.phase }, { on := 11, ground := Ground.phase }, { on := 12, ground := Ground.phase }, { on := 13, ground := Ground.phase }], guard := none }]
set_option maxRecDepth 100000 in
set_option maxHeartbeats 4000000 in
theorem own9_any {tb tbx X og m p x a b c d : Nat} {q : Nat → Bool} (W : World) (hsw : SW q a b c d) (hx : x < 256) (h0I : (0 : Int) ≤ p) (hlI : (p : Int) < m) (_hm : m ≤ 8)
    (hS : ∀ w', Below W.heap.size W w' → w'.cell? ⟨tbx, 0, none⟩ = some (.pointer (some ⟨tb, 0, none⟩)) ∧ w'.cell? ⟨tb, 9, none⟩ = some (.slice (some ⟨og, 0, none⟩) m m) ∧ w'.cell? ⟨X, 0, none⟩ = some (.int .i64 (p : Nat))) (hC : ∀ w', Below W.heap.size W w' → (w'.cell? ⟨og, p * 4, none⟩ = some (.int .u64 (a : Nat)) ∧ w'.cell? ⟨og, p * 4 + 1, none⟩ = some (.int .u64 (b : Nat)) ∧ w'.cell? ⟨og, p * 4 + 2, none⟩ = some (.int .u64 (c : Nat)) ∧ w'.cell? ⟨og, p * 4 + 3, none⟩ = some (.int .u64 (d : Nat)))) (hFz : ∀ w', Below W.heap.size W w' → (w'.frozen? ⟨og, p * 4, none⟩ = false ∧ w'.frozen? ⟨og, p * 4 + 1, none⟩ = false ∧ w'.frozen? ⟨og, p * 4 + 2, none⟩ = false ∧ w'.frozen? ⟨og, p * 4 + 3, none⟩ = false))
    (hT : ∀ w3 (a9 b9 c9 d9 : Nat), Below W.heap.size W w3 → (fun w' : World => w'.cell? ⟨tbx, 0, none⟩ = some (.pointer (some ⟨tb, 0, none⟩)) ∧ w'.cell? ⟨tb, 9, none⟩ = some (.slice (some ⟨og, 0, none⟩) m m) ∧ w'.cell? ⟨X, 0, none⟩ = some (.int .i64 (p : Nat))) ((((w3.setCell ⟨og, p * 4, none⟩ (.int .u64 (a9 : Nat))).setCell ⟨og, p * 4 + 1, none⟩ (.int .u64 (b9 : Nat))).setCell ⟨og, p * 4 + 2, none⟩ (.int .u64 (c9 : Nat))).setCell ⟨og, p * 4 + 3, none⟩ (.int .u64 (d9 : Nat)))) (y0 y4 y5 y6 y7 y8 y9 y10 y11 y12 y13 y14 y15 y16 y17 y18 y19 y20 y21 y22 y23 y24 y25 y26 y27 y28 y29 y30 y31 y32 y33 y34 y35 y36 y37 y38 y39 y40 y41 y42 y43 y44 y45 y46 y47 y48 y49 y50 y51 y52 y53 y54 y55 y56 y57 : Value) :
    wpAny Tryz.prog .any opsAT9 (fun e _ W2 => e = .normal ∧ ∃ (w3 : World) (a9 b9 c9 d9 : Nat), Below W.heap.size W w3 ∧ SW (fun i => q i || i == x) a9 b9 c9 d9 ∧ W2 = ((((w3.setCell ⟨og, p * 4, none⟩ (.int .u64 (a9 : Nat))).setCell ⟨og, p * 4 + 1, none⟩ (.int .u64 (b9 : Nat))).setCell ⟨og, p * 4 + 2, none⟩ (.int .u64 (c9 : Nat))).setCell ⟨og, p * 4 + 3, none⟩ (.int .u64 (d9 : Nat)))) opsAT9.size (Array.replicate opsAT9.size false) { tmps := #[y0, .pointer (some ⟨tbx, 0, none⟩), .pointer (some ⟨X, 0, none⟩), .int .i64 (x : Nat), y4, y5, y6, y7, y8, y9, y10, y11, y12, y13, y14, y15, y16, y17, y18, y19, y20, y21, y22, y23, y24, y25, y26, y27, y28, y29, y30, y31, y32, y33, y34, y35, y36, y37, y38, y39, y40, y41, y42, y43, y44, y45, y46, y47, y48, y49, y50, y51, y52, y53, y54, y55, y56, y57], defers := [] } W.drew := by
  unfold opsAT9
  refine wpAny_of_held (S := fun w' => w'.cell? ⟨tbx, 0, none⟩ = some (.pointer (some ⟨tb, 0, none⟩)) ∧ w'.cell? ⟨tb, 9, none⟩ = some (.slice (some ⟨og, 0, none⟩) m m) ∧ w'.cell? ⟨X, 0, none⟩ = some (.int .i64 (p : Nat))) _ _ _ _ ?_
  have hHeld := hS W.drew (Below.refl _ W).drew
  refine wpAnyH_take (i := 0) (oi := { dst := some 42, op := Op.load 116 (Operand.tmp 1), type := 116, pos := "truth.go:22", after := #[], guard := none }) (v := .pointer (some ⟨tb, 0, none⟩)) rfl (by kernel_rfl) (by kernel_rfl) (by kernel_rfl) (fun _ _ _ h => h) (Or.inl ⟨by rfl, by (intro w hSw; (try dsimp only at hSw); go_simp)⟩) (by assumption) ?_
  try simp only [Act.put, List.setIfInBounds_toArray, List.set_cons_zero, List.set_cons_succ]
  refine wpAnyH_take (i := 1) (oi := { dst := some 43, op := Op.nilCheck (Operand.tmp 42), type := 0, pos := "truth.go:22", after := #[{ on := 0, ground := Ground.data }], guard := none }) (v := .pointer (some ⟨tb, 0, none⟩)) rfl (by kernel_rfl) (by kernel_rfl) (by kernel_rfl) (fun _ _ _ h => h) (Or.inl ⟨by rfl, by (intro w hSw; (try dsimp only at hSw); go_simp)⟩) (by assumption) ?_
  try simp only [Act.put, List.setIfInBounds_toArray, List.set_cons_zero, List.set_cons_succ]
  refine wpAnyH_take (i := 2) (oi := { dst := some 44, op := Op.fieldAddr 164 (Operand.tmp 43) 4, type := 0, pos := "truth.go:22", after := #[{ on := 1, ground := Ground.data }], guard := none }) (v := .pointer (some ⟨tb, 9, none⟩)) rfl (by kernel_rfl) (by kernel_rfl) (by kernel_rfl) (fun _ _ _ h => h) (Or.inl ⟨by rfl, by (intro w hSw; (try dsimp only at hSw); go_simp)⟩) (by assumption) ?_
  try simp only [Act.put, List.setIfInBounds_toArray, List.set_cons_zero, List.set_cons_succ]
  refine wpAnyH_take (i := 3) (oi := { dst := some 45, op := Op.load 162 (Operand.tmp 44), type := 162, pos := "truth.go:22", after := #[{ on := 2, ground := Ground.data }], guard := none }) (v := .slice (some ⟨og, 0, none⟩) m m) rfl (by kernel_rfl) (by kernel_rfl) (by kernel_rfl) (fun _ _ _ h => h) (Or.inl ⟨by rfl, by (intro w hSw; (try dsimp only at hSw); go_simp)⟩) (by assumption) ?_
  try simp only [Act.put, List.setIfInBounds_toArray, List.set_cons_zero, List.set_cons_succ]
  refine wpAnyH_take (i := 4) (oi := { dst := some 46, op := Op.load 3 (Operand.tmp 2), type := 3, pos := "truth.go:22", after := #[], guard := none }) (v := .int .i64 (p : Nat)) rfl (by kernel_rfl) (by kernel_rfl) (by kernel_rfl) (fun _ _ _ h => h) (Or.inl ⟨by rfl, by (intro w hSw; (try dsimp only at hSw); go_simp)⟩) (by assumption) ?_
  try simp only [Act.put, List.setIfInBounds_toArray, List.set_cons_zero, List.set_cons_succ]
  refine wpAnyH_take (i := 5) (oi := { dst := some 47, op := Op.load 116 (Operand.tmp 1), type := 116, pos := "truth.go:22", after := #[], guard := none }) (v := .pointer (some ⟨tb, 0, none⟩)) rfl (by kernel_rfl) (by kernel_rfl) (by kernel_rfl) (fun _ _ _ h => h) (Or.inl ⟨by rfl, by (intro w hSw; (try dsimp only at hSw); go_simp)⟩) (by assumption) ?_
  try simp only [Act.put, List.setIfInBounds_toArray, List.set_cons_zero, List.set_cons_succ]
  refine wpAnyH_take (i := 6) (oi := { dst := some 48, op := Op.nilCheck (Operand.tmp 47), type := 0, pos := "truth.go:22", after := #[{ on := 5, ground := Ground.data }], guard := none }) (v := .pointer (some ⟨tb, 0, none⟩)) rfl (by kernel_rfl) (by kernel_rfl) (by kernel_rfl) (fun _ _ _ h => h) (Or.inl ⟨by rfl, by (intro w hSw; (try dsimp only at hSw); go_simp)⟩) (by assumption) ?_
  try simp only [Act.put, List.setIfInBounds_toArray, List.set_cons_zero, List.set_cons_succ]
  refine wpAnyH_take (i := 7) (oi := { dst := some 49, op := Op.fieldAddr 164 (Operand.tmp 48) 4, type := 0, pos := "truth.go:22", after := #[{ on := 6, ground := Ground.data }], guard := none }) (v := .pointer (some ⟨tb, 9, none⟩)) rfl (by kernel_rfl) (by kernel_rfl) (by kernel_rfl) (fun _ _ _ h => h) (Or.inl ⟨by rfl, by (intro w hSw; (try dsimp only at hSw); go_simp)⟩) (by assumption) ?_
  try simp only [Act.put, List.setIfInBounds_toArray, List.set_cons_zero, List.set_cons_succ]
  refine wpAnyH_take (i := 8) (oi := { dst := some 50, op := Op.load 162 (Operand.tmp 49), type := 162, pos := "truth.go:22", after := #[{ on := 7, ground := Ground.data }], guard := none }) (v := .slice (some ⟨og, 0, none⟩) m m) rfl (by kernel_rfl) (by kernel_rfl) (by kernel_rfl) (fun _ _ _ h => h) (Or.inl ⟨by rfl, by (intro w hSw; (try dsimp only at hSw); go_simp)⟩) (by assumption) ?_
  try simp only [Act.put, List.setIfInBounds_toArray, List.set_cons_zero, List.set_cons_succ]
  refine wpAnyH_take (i := 9) (oi := { dst := some 51, op := Op.load 3 (Operand.tmp 2), type := 3, pos := "truth.go:22", after := #[], guard := none }) (v := .int .i64 (p : Nat)) rfl (by kernel_rfl) (by kernel_rfl) (by kernel_rfl) (fun _ _ _ h => h) (Or.inl ⟨by rfl, by (intro w hSw; (try dsimp only at hSw); go_simp)⟩) (by assumption) ?_
  try simp only [Act.put, List.setIfInBounds_toArray, List.set_cons_zero, List.set_cons_succ]
  refine wpAnyH_take (i := 10) (oi := { dst := some 52, op := Op.indexAddr 162 (Operand.tmp 50) (Operand.tmp 51), type := 0, pos := "truth.go:22", after := #[{ on := 8, ground := Ground.data }, { on := 9, ground := Ground.data }], guard := none }) (v := .pointer (some ⟨og, p * 4, none⟩)) rfl (by kernel_rfl) (by kernel_rfl) (by kernel_rfl) (fun _ _ _ h => h) (Or.inl ⟨by rfl, by (intro w hSw; (try dsimp only at hSw); go_simp)⟩) (by assumption) ?_
  try simp only [Act.put, List.setIfInBounds_toArray, List.set_cons_zero, List.set_cons_succ]
  refine wpAnyH_take (i := 12) (oi := { dst := some 54, op := Op.move (Operand.tmp 3), type := 129, pos := "truth.go:22", after := #[], guard := none }) (v := .int .i64 (x : Nat)) rfl (by kernel_rfl) (by kernel_rfl) (by kernel_rfl) (fun _ _ _ h => h) (Or.inl ⟨by rfl, by (intro w hSw; (try dsimp only at hSw); go_simp)⟩) (by assumption) ?_
  try simp only [Act.put, List.setIfInBounds_toArray, List.set_cons_zero, List.set_cons_succ]
  refine wpAnyH_ready (rs := [11]) (by kernel_rfl) (by simp) (AllReadyH.cons (o := { dst := some 53, op := Op.load 126 (Operand.tmp 52), type := 126, pos := "truth.go:22", after := #[{ on := 10, ground := Ground.data }], guard := none }) rfl (fun K hK => ?_) AllReadyH.nil)
  obtain ⟨c0, c1, c2, c3⟩ := hC W.drew (Below.refl _ W).drew
  go_simp
  refine hK.out _ _ (hS _ (Below.refl _ W).drew) (fun hHeld => ?_)
  clear hK K
  try simp only [Act.put, List.setIfInBounds_toArray, List.set_cons_zero, List.set_cons_succ]
  refine wpAnyH_ready (rs := [13]) (by kernel_rfl) (by simp) (AllReadyH.cons (o := { dst := some 55, op := Op.call { callee := Callee.value (Operand.func 156), args := #[Operand.tmp 53, Operand.tmp 54], argTypes := #[126, 129] }, type := 126, pos := "truth.go:22", after := #[{ on := 11, ground := Ground.data }, { on := 12, ground := Ground.data }], guard := none }) rfl (fun K hK => ?_) AllReadyH.nil)
  go_simp
  go_at_call 156
  refine (TS.bWith_sw hsw x hx W.drew).mono ?_
  rintro e w3 ⟨a9, b9, c9, d9, rfl, hsw9, hb3'⟩
  have hb3 : Below W.heap.size W w3 := (Below.refl _ W).drew.trans hb3'
  refine hK.out _ _ (hS _ hb3) (fun hHeld => ?_)
  clear hK K
  try simp only [Act.put, List.setIfInBounds_toArray, List.set_cons_zero, List.set_cons_succ]
  refine wpAnyH_take (i := 14) (oi := { dst := some 56, op := Op.indexAddr 162 (Operand.tmp 45) (Operand.tmp 46), type := 0, pos := "truth.go:22", after := #[{ on := 3, ground := Ground.data }, { on := 4, ground := Ground.data }, { on := 0, ground := Ground.phase }, { on := 1, ground := Ground.phase }, { on := 2, ground := Ground.phase }, { on := 3, ground := Ground.phase }, { on := 4, ground := Ground.phase }, { on := 5, ground := Ground.phase }, { on := 6, ground := Ground.phase }, { on := 7, ground := Ground.phase }, { on := 8, ground := Ground.phase }, { on := 9, ground := Ground.phase }, { on := 10, ground := Ground.phase }, { on := 11, ground := Ground.phase }, { on := 12, ground := Ground.phase }, { on := 13, ground := Ground.phase }], guard := none }) (v := .pointer (some ⟨og, p * 4, none⟩)) rfl (by kernel_rfl) (by kernel_rfl) (by kernel_rfl) (fun _ _ _ h => h) (Or.inl ⟨by rfl, by (intro w hSw; (try dsimp only at hSw); go_simp)⟩) (by assumption) ?_
  try simp only [Act.put, List.setIfInBounds_toArray, List.set_cons_zero, List.set_cons_succ]
  refine wpAnyH_ready (rs := [15]) (by kernel_rfl) (by simp) (AllReadyH.cons (o := { dst := none, op := Op.store 126 (Operand.tmp 56) (Operand.tmp 55), type := 0, pos := "truth.go:22", after := #[{ on := 14, ground := Ground.data }, { on := 13, ground := Ground.data }, { on := 13, ground := Ground.chain }, { on := 0, ground := Ground.phase }, { on := 1, ground := Ground.phase }, { on := 2, ground := Ground.phase }, { on := 3, ground := Ground.phase }, { on := 4, ground := Ground.phase }, { on := 5, ground := Ground.phase }, { on := 6, ground := Ground.phase }, { on := 7, ground := Ground.phase }, { on := 8, ground := Ground.phase }, { on := 9, ground := Ground.phase }, { on := 10, ground := Ground.phase }, { on := 11, ground := Ground.phase }, { on := 12, ground := Ground.phase }, { on := 13, ground := Ground.phase }], guard := none }) rfl (fun K hK => ?_) AllReadyH.nil)
  obtain ⟨e0, e1, e2, e3⟩ := hC w3 hb3
  obtain ⟨f0, f1, f2, f3⟩ := hFz w3 hb3
  go_simp
  refine hK.out _ _ (hT w3 _ _ _ _ hb3) (fun hHeld => ?_)
  clear hK K
  try simp only [Act.put, List.setIfInBounds_toArray, List.set_cons_zero, List.set_cons_succ]
  refine wpAnyH_done (by kernel_rfl) ?_ _
  exact ⟨rfl, w3, a9, b9, c9, d9, hb3, hsw9, rfl⟩

/-- THE REGION IN A ROUND. -/
theorem own9_in {l n tb tbx X og m p x a b c d : Nat} {q : Nat → Bool} (W : World) (hsw : SW q a b c d) (hx : x < 256) (h0I : (0 : Int) ≤ p) (hlI : (p : Int) < m) (hm : m ≤ 8)
    (hS : ∀ w', Below W.heap.size W w' → w'.cell? ⟨tbx, 0, none⟩ = some (.pointer (some ⟨tb, 0, none⟩)) ∧ w'.cell? ⟨tb, 9, none⟩ = some (.slice (some ⟨og, 0, none⟩) m m) ∧ w'.cell? ⟨X, 0, none⟩ = some (.int .i64 (p : Nat))) (hC : ∀ w', Below W.heap.size W w' → (w'.cell? ⟨og, p * 4, none⟩ = some (.int .u64 (a : Nat)) ∧ w'.cell? ⟨og, p * 4 + 1, none⟩ = some (.int .u64 (b : Nat)) ∧ w'.cell? ⟨og, p * 4 + 2, none⟩ = some (.int .u64 (c : Nat)) ∧ w'.cell? ⟨og, p * 4 + 3, none⟩ = some (.int .u64 (d : Nat)))) (hFz : ∀ w', Below W.heap.size W w' → (w'.frozen? ⟨og, p * 4, none⟩ = false ∧ w'.frozen? ⟨og, p * 4 + 1, none⟩ = false ∧ w'.frozen? ⟨og, p * 4 + 2, none⟩ = false ∧ w'.frozen? ⟨og, p * 4 + 3, none⟩ = false))
    (hT : ∀ w3 (a9 b9 c9 d9 : Nat), Below W.heap.size W w3 → (fun w' : World => w'.cell? ⟨tbx, 0, none⟩ = some (.pointer (some ⟨tb, 0, none⟩)) ∧ w'.cell? ⟨tb, 9, none⟩ = some (.slice (some ⟨og, 0, none⟩) m m) ∧ w'.cell? ⟨X, 0, none⟩ = some (.int .i64 (p : Nat))) ((((w3.setCell ⟨og, p * 4, none⟩ (.int .u64 (a9 : Nat))).setCell ⟨og, p * 4 + 1, none⟩ (.int .u64 (b9 : Nat))).setCell ⟨og, p * 4 + 2, none⟩ (.int .u64 (c9 : Nat))).setCell ⟨og, p * 4 + 3, none⟩ (.int .u64 (d9 : Nat)))) (y0 y4 y5 y6 y7 y8 y9 y10 y11 y12 y13 y14 y15 y16 y17 y18 y19 y20 y21 y22 y23 y24 y25 y26 y27 y28 y29 y30 y31 y32 y33 y34 y35 y36 y37 y38 y39 y40 y41 y42 y43 y44 y45 y46 y47 y48 y49 y50 y51 y52 y53 y54 y55 y56 y57 : Value) :
    (Code.region 9 opsAT9 true).wpIn (Fence.wide.inRound l) n Tryz.prog (fun e _ W2 => e = .normal ∧ ∃ (w3 : World) (a9 b9 c9 d9 : Nat), Below W.heap.size W w3 ∧ SW (fun i => q i || i == x) a9 b9 c9 d9 ∧ W2 = ((((w3.setCell ⟨og, p * 4, none⟩ (.int .u64 (a9 : Nat))).setCell ⟨og, p * 4 + 1, none⟩ (.int .u64 (b9 : Nat))).setCell ⟨og, p * 4 + 2, none⟩ (.int .u64 (c9 : Nat))).setCell ⟨og, p * 4 + 3, none⟩ (.int .u64 (d9 : Nat)))) { tmps := #[y0, .pointer (some ⟨tbx, 0, none⟩), .pointer (some ⟨X, 0, none⟩), .int .i64 (x : Nat), y4, y5, y6, y7, y8, y9, y10, y11, y12, y13, y14, y15, y16, y17, y18, y19, y20, y21, y22, y23, y24, y25, y26, y27, y28, y29, y30, y31, y32, y33, y34, y35, y36, y37, y38, y39, y40, y41, y42, y43, y44, y45, y46, y47, y48, y49, y50, y51, y52, y53, y54, y55, y56, y57], defers := [] } W :=
  rdRound (by kernel_rfl) (by
    intro i o hi c
    match i, hi with
    | 0, hi | 1, hi | 2, hi | 3, hi | 4, hi | 5, hi | 6, hi | 7, hi | 8, hi | 9, hi | 10, hi | 11, hi | 12, hi | 13, hi | 14, hi | 15, hi => cases hi; intro h; cases h
    | k + 16, hi => cases hi) (fun ⟨_, _, h⟩ => by cases h.1)
    (own9_any W hsw hx h0I hlI hm hS hC hFz hT y0 y4 y5 y6 y7 y8 y9 y10 y11 y12 y13 y14 y15 y16 y17 y18 y19 y20 y21 y22 y23 y24 y25 y26 y27 y28 y29 y30 y31 y32 y33 y34 y35 y36 y37 y38 y39 y40 y41 y42 y43 y44 y45 y46 y47 y48 y49 y50 y51 y52 y53 y54 y55 y56 y57)
end Go.Proofs.YtndkcimajeofcaaGreatDoor

namespace Go.Proofs.YtndkcimajeofcaaGreatDoor
open Go.RowKit
attribute [local go_sem ↓] Go.wp_at_zero Go.wp_at_succ

/-- What a walk keeps that only makes new blocks. -/
def KB (n₀ : Nat) (W W' : World) : Prop := Below W.heap.size W W' ∧ Below n₀ W W'
theorem KB.of {n₀ : Nat} {W W' : World} (h : Below W.heap.size W W') (h0 : n₀ ≤ W.heap.size) : KB n₀ W W' := ⟨h, h.mono h0⟩
/-- The nodes so far are covered. -/
def JC (tb lo cb : Nat) (n : NM) (Ts : List MT) (pre : List MT) (W : World) : Prop :=
  TF W tb lo n Ts ∧ W.heap[cb]? = some (.cells #[.pointer (some ⟨tb, 0, none⟩)] 116) ∧ pre.all (fun x => covN n.C.l n.R.l (Ts.map (strT n)) x.tr) = true
theorem visJC {n₀ tb lo cb : Nat} {n : NM} {Ts : List MT} : VisJ n₀ (JC tb lo cb n Ts) (KB n₀) where
  refl := fun W => ⟨Below.refl _ _, Below.refl _ _⟩
  trans := fun h k => ⟨h.1.trans (k.1.mono h.1.size), h.2.trans k.2⟩
  below := fun h => h.2
  box := fun pre W cs t h0 hJ => by
    have hb : Below W.heap.size W (W.alloc (.cells cs t)) := (Below.refl _ _).alloc (Nat.le_refl _) _
    exact ⟨⟨hJ.1.later hb, blk_lat0 hJ.2.1 hb, hJ.2.2⟩, KB.of hb h0⟩
  keep := fun pre W cs t W2 h0 hJ hK => (hK.1.block W.heap.size (by simp)).trans (World.alloc_heap_new' W _)

set_option maxRecDepth 100000 in
set_option maxHeartbeats 8000000 in
theorem covers1_do {n₀ tb lo cb : Nat} {n : NM} {Ts : List MT} {w0 : World} (hG : G w0) (hg0 : 4 ≤ n₀) (hn : n.In n₀ w0) (hok : n.ok = true) :
    DoAt n₀ w0 116 (.pointer (some ⟨cb, 0, none⟩)) (JC tb lo cb n Ts) (fun pre _ => pre.all (fun x => covN n.C.l n.R.l (Ts.map (strT n)) x.tr) = false) (KB n₀) (NodeOK n) := by
  intro pre x W hJ hP hx hW hn0
  obtain ⟨ht, hcb, hall⟩ := hJ
  have hGW : G W := hG.keep hg0 hW
  have hnW : n.In W.heap.size W := hn.below hn0 hW
  have hxW : x.In W.heap.size W := (hx.below hW).more hn0
  obtain ⟨W1, hW1, hB1, hs1, hk1⟩ := newBlk W _ rfl #[.int .i64 x.op, .int .i64 x.n, .slice x.A x.args.length x.c] 33
  obtain ⟨⟨a0, a1, a2⟩, -⟩ := res3 hk1
  have hma := markAt_any x W1 (hGW.later hB1) (hxW.later hB1) (WF_of_wfT x hP.1)
  have HT := Lib.hid ht
  have HCB := Lib.hid hcb
  have HB1 := Lib.hid hB1
  obtain ⟨o, ho⟩ : ∃ o, markT x.tr = o := ⟨_, rfl⟩
  rw [ho] at hma
  have HA := Lib.hid hall
  simp only [MT.val] at hma ⊢
  clear ht hcb hB1 hx hk1 hall
  cases o with
  | none =>
    have hc : (pre ++ [x]).all (fun x => covN n.C.l n.R.l (Ts.map (strT n)) x.tr) = true := by rw [List.all_append, HA.out]; simp [covN, ho]
    have HC := Lib.hid hc
    clear hc
    go_enter Tryz.func116, Tryz.ntmps116
    go_wp2_with (go_at_call 111; refine hma.mono ?_; clear hma; rintro e w3 ⟨T', rfl, -, hnew, hb3⟩; obtain ⟨W4, hW4, hB4, hs4, hk4⟩ := newBlk w3 _ rfl #[.int .i64 T'.op, .int .i64 T'.n, .slice T'.A T'.args.length T'.c] 33; have hb4 : Below W.heap.size W W4 := (HB1.out.trans ((hb3.trans (hB4.mono hb3.size)).mono (by omega))))
    go_ret
    exact .inl ⟨rfl, ⟨HT.out.later hb4, blk_lat0 HCB.out hb4, HC.out⟩, KB.of hb4 hn0⟩
  | some m =>
    have hmw := mark_wf hP.1 ho
    have hsz := hP.2
    obtain ⟨kn, hkn⟩ : ∃ kn, (look (Ts.map (strT n)) (m.str n.C.l n.R.l)).isSome = kn := ⟨_, rfl⟩
    have hc : (pre ++ [x]).all (fun x => covN n.C.l n.R.l (Ts.map (strT n)) x.tr) = kn := by rw [List.all_append, HA.out]; simp [covN, ho, hkn]
    have hpl : ∀ (w3 W4 : World) (T' : MT), T'.tr = m → New W1.heap.size w3 T' → Below W1.heap.size W1 w3 → w3.alloc (.cells #[.int .i64 T'.op, .int .i64 T'.n, .slice T'.A T'.args.length T'.c] 33) = W4 →
        (W4.cell? ⟨cb, 0, none⟩ = some (.pointer (some ⟨tb, 0, none⟩)) ∧ (W4.cell? ⟨w3.heap.size, 0, none⟩ = some (.int .i64 T'.op) ∧ W4.cell? ⟨w3.heap.size, 1, none⟩ = some (.int .i64 T'.n) ∧ W4.cell? ⟨w3.heap.size, 2, none⟩ = some (.slice T'.A T'.args.length T'.c))) ∧ Below W.heap.size W W4 ∧
        Calls Tryz.prog 117 #[.pointer (some ⟨tb, 0, none⟩), .agg #[.int .i64 T'.op, .int .i64 T'.n, .slice T'.A T'.args.length T'.c]] W4 fun e w' => e = .returned (.tuple #[.int .i64 (placeN (Ts.map (strT n)) (m.str n.C.l n.R.l) : Nat), .bool kn]) ∧ Below W4.heap.size W4 w' := by
      intro w3 W4 T' hT' hnew hb3 hW4
      have hB4 : Below w3.heap.size w3 W4 := by rw [← hW4]; exact (Below.refl _ _).alloc (Nat.le_refl _) _
      have hk4 : W4.heap[w3.heap.size]? = some (.cells #[.int .i64 T'.op, .int .i64 T'.n, .slice T'.A T'.args.length T'.c] 33) := by rw [← hW4]; exact World.alloc_heap_new' w3 _
      have hb4 : Below W.heap.size W W4 := (HB1.out.trans ((hb3.trans (hB4.mono hb3.size)).mono (by omega)))
      obtain ⟨q, -⟩ := res3 hk4
      have hwt : T'.tr.wfT n.C.l.length n.R.l.length = true := by rw [hT']; exact hmw.1
      refine ⟨⟨cell_of_blk (blk_lat0 HCB.out hb4) 0, q⟩, hb4, ?_⟩
      have := (HT.out.later hb4).place (hGW.later hb4) (hnW.later hb4) T' (hnew.1.later hB4) (nmb_of hok) (pr_of hok hwt (by rw [hT']; omega))
      have hs : strT n T' = m.str n.C.l n.R.l := by rw [strT, hT']
      rw [hs, hkn] at this
      exact this
    have HC := Lib.hid hc
    have HPL := Lib.hid hpl
    clear hc hpl hmw hkn
    go_enter Tryz.func116, Tryz.ntmps116
    go_wp2_with (first
      | (go_at_call 117; refine hq.mono ?_; clear hq; rintro e w5 ⟨rfl, hb5⟩)
      | (go_at_call 111; refine hma.mono ?_; clear hma; rintro e w3 ⟨T', rfl, hT', hnew, hb3⟩; obtain ⟨W4, hW4, hB4, hs4, hk4⟩ := newBlk w3 _ rfl #[.int .i64 T'.op, .int .i64 T'.n, .slice T'.A T'.args.length T'.c] 33; obtain ⟨⟨p1, p2, p3, p4⟩, hb4, hq⟩ := HPL.out w3 W4 T' hT' hnew hb3 hW4; clear hT' hnew))
    go_ret
    have hb := hb4.trans (hb5.mono hb4.size)
    cases kn
    · exact .inr ⟨rfl, HC.out, KB.of hb hn0⟩
    · exact .inl ⟨rfl, ⟨HT.out.later hb, blk_lat0 HCB.out hb, HC.out⟩, KB.of hb hn0⟩

theorem call_covers1 (args : Array Value) (w : World) : (callFunc 116 args).run Tryz.prog w = .ok (.enter 116 args) w := by
  unfold callFunc; kernel_rfl

set_option maxRecDepth 100000 in
set_option maxHeartbeats 4000000 in
theorem covers_any {tb lo : Nat} {n : NM} {Ts : List MT} (T : MT) (w : World) (ht : TF w tb lo n Ts) (hG : G w) (hn : n.In w.heap.size w) (hT : T.In w.heap.size w) (hok : n.ok = true) (hP : NodeOK n T) :
    Calls Tryz.prog 73 #[.pointer (some ⟨tb, 0, none⟩), T.val] w fun e w' => e = .returned (.bool (covT n.C.l n.R.l (Ts.map (strT n)) T.tr)) ∧ Below w.heap.size w w' := by
  obtain ⟨W1, hW1, hB1, hs1, hk1⟩ := newBlk w _ rfl #[.pointer (some ⟨tb, 0, none⟩)] 116
  obtain ⟨W2, hW2, hB2, hs2, hk2⟩ := newBlk W1 _ hs1 #[.int .i64 T.op, .int .i64 T.n, .slice T.A T.args.length T.c] 33
  have hB : Below w.heap.size w W2 := hB1.trans (hB2.mono (by omega))
  obtain ⟨⟨a0, a1, a2⟩, -⟩ := res3 hk2
  have hk12 := (hB2.block w.heap.size (by omega)).trans hk1
  have hz := hG.size
  have hv := mvisit_any (n₀ := W2.heap.size) (w0 := W2) visJC call_covers1 (covers1_do (tb := tb) (lo := lo) (cb := w.heap.size) (n := n) (Ts := Ts) (hG.later hB) (Nat.le_trans hz hB.size) (hn.later hB) hok) T [] W2 (hT.later hB) (each_ok T hP) (Below.refl _ _) (Nat.le_refl _) ⟨ht.later hB, hk12, rfl⟩
  have HB := Lib.hid hB
  have HN := Lib.hid (cov_nodes n (Ts.map (strT n)) T)
  simp only [MT.val] at hv ⊢
  clear hB1 hB2 hk1 hk2 hk12 hB
  go_enter Tryz.func73, Tryz.ntmps73
  go_wp2_with (go_at_call 112; refine hv.mono ?_; clear hv; rintro e w3 h; obtain ⟨b, hb, he⟩ : ∃ b, b = covT n.C.l n.R.l (Ts.map (strT n)) T.tr ∧ (e = .returned (.bool b) ∧ Below W2.heap.size W2 w3) := (by
    rw [← HN.out]
    rcases h with ⟨rfl, hj, hk⟩ | ⟨rfl, q, ⟨r, hr⟩, hj, hk⟩
    · exact ⟨true, by have := hj.2.2; simpa using this.symm, rfl, hk.1⟩
    · refine ⟨false, ?_, rfl, hk.1⟩
      rw [← hr, List.all_append]
      rw [List.nil_append] at hj
      rw [hj]; rfl); obtain ⟨rfl, hb3⟩ := he; clear h)
  go_ret
  exact ⟨rfl, HB.out.trans (hb3.mono (by omega))⟩

theorem shl_i64 {m p : Nat} (hm : m ≤ 8) (hp : 2 ^ m = p) : p ≤ 256 ∧ 0 < p ∧ IntKind.i64.wrap ((2 : Int) ^ m) = (p : Int) ∧ wrap64 ((2 : Int) ^ m) = (p : Int) := by
  have h1 : p ≤ 256 := by rw [← hp]; exact Nat.le_trans (Nat.pow_le_pow_right (by omega) hm) (by decide)
  have h2 : 0 < p := by rw [← hp]; exact Nat.two_pow_pos _
  have hc : ((2 : Int) ^ m) = (p : Int) := by rw [← hp]; exact (Int.natCast_pow 2 _).symm
  refine ⟨h1, h2, ?_, ?_⟩
  · rw [hc, IntKind.wrap_i64]; omega
  · rw [hc]; unfold wrap64; omega
set_option maxRecDepth 100000 in
set_option maxHeartbeats 2000000 in
theorem isType_raw (tb m p : Nat) (A : Option Addr) (c : Nat) (k : Int) (w : World) (hm : m ≤ 8) (hw1 : IntKind.i64.wrap ((2 : Int) ^ m) = (p : Int)) (_hw2 : wrap64 ((2 : Int) ^ m) = (p : Int)) (_hp : p ≤ 256) (q3 : w.cell? ⟨tb, 3, none⟩ = some (.slice A m c)) :
    Calls Tryz.prog 72 #[.pointer (some ⟨tb, 0, none⟩), .int .i64 k] w fun e w' => e = .returned (.bool (decide (0 ≤ k) && decide (k < (p : Int)))) ∧ w' = w := by
  rcases q1 : decide (0 ≤ k)
  · go_enter Tryz.func72, Tryz.ntmps72
    go_wp2
    go_ret
    exact ⟨rfl, rfl⟩
  · go_enter Tryz.func72, Tryz.ntmps72
    go_wp2
    go_ret
    exact ⟨by simp, rfl⟩
theorem isType_any {tb lo : Nat} {n : NM} {Ts : List MT} (k : Int) (w : World) (ht : TF w tb lo n Ts) :
    Calls Tryz.prog 72 #[.pointer (some ⟨tb, 0, none⟩), .int .i64 k] w fun e w' => e = .returned (.bool (decide (0 ≤ k) && decide (k < ((2 ^ Ts.length : Nat) : Int)))) ∧ w' = w := by
  obtain ⟨og, s0, s1, s2, s3, A, c, -, -, -, q3, -⟩ := ht.cells
  obtain ⟨h1, h2, h3, h4⟩ := shl_i64 ht.len (rfl : 2 ^ Ts.length = 2 ^ Ts.length)
  exact isType_raw tb Ts.length _ A c k w ht.len h3 h4 h1 q3
set_option maxRecDepth 100000 in
set_option maxHeartbeats 1000000 in
theorem mMarks_any {tb lo : Nat} {n : NM} {Ts : List MT} (w : World) (ht : TF w tb lo n Ts) :
    Calls Tryz.prog 68 #[.pointer (some ⟨tb, 0, none⟩)] w fun e w' => (∃ v, e = .returned v ∧ Coll lo lo w v Ts) ∧ w' = w := by
  obtain ⟨mb, og, s0, s1, s2, s3, v, h1, h2, h3, h4, h5, h6⟩ := ht
  obtain ⟨A, c, hv, -, -⟩ := row_val h5.own
  subst hv
  have q3 := cell_of_blk h1 3
  simp only [List.getElem?_toArray, List.getElem?_cons_zero, List.getElem?_cons_succ] at q3
  have H5 := Lib.hid h5
  clear h1 h2 h3 h4 h5
  go_enter Tryz.func68, Tryz.ntmps68
  go_wp2
  go_ret
  exact ⟨⟨_, rfl, H5.out⟩, rfl⟩
end Go.Proofs.YtndkcimajeofcaaGreatDoor

namespace Go.Proofs.YtndkcimajeofcaaGreatDoor
open Go Go.RowKit

theorem setT_info : (Tryz.prog.info? 126).map (fun i => (i.zero, i.size, i.bytes)) = some (some (.agg #[.int .u64 0, .int .u64 0, .int .u64 0, .int .u64 0]), 4, 32) := by kernel_rfl
theorem make_setsT (n : Nat) (hn : n ≤ 256) (w : World) : (Instr.makeSlice 162 (.int .i64 (n : Int)) (.int .i64 (n : Int))).run Tryz.prog w = .ok (.slice (some ⟨w.heap.size, 0, none⟩) n n) (w.alloc (.cells (setCells (fun _ _ => false) n).toArray 126)) := by
  obtain ⟨i0, hi, hz0, hz1, hz2⟩ := info_parts setT_info
  have := run_make (P := Tryz.prog) w 162 126 i0 _ Tryz.underlying162 hi hz0 .i64 .i64 n n (by omega) (by omega) (by rw [hz2]; omega) (by omega)
  rw [this, hz1, setCells_none]
  rfl
def opsAT1 : Array Oper := #[
  { dst := some 4, op := Op.load 116 (Operand.tmp 1), type := 116, pos := "truth.go:17", after := #[], guard := none },
  { dst := some 5, op := Op.load 116 (Operand.tmp 1), type := 116, pos := "truth.go:17", after := #[], guard := none },
  { dst := some 6, op := Op.nilCheck (Operand.tmp 5), type := 0, pos := "truth.go:17", after := #[{ on := 1, ground := Ground.data }], guard := none },
  { dst := some 7, op := Op.fieldAddr 164 (Operand.tmp 6) 1, type := 0, pos := "truth.go:17", after := #[{ on := 2, ground := Ground.data }], guard := none },
  { dst := some 8, op := Op.load 31 (Operand.tmp 7), type := 31, pos := "truth.go:17", after := #[{ on := 3, ground := Ground.data }], guard := none },
  { dst := some 9, op := Op.call { callee := Callee.builtin Builtin.len, args := #[Operand.tmp 8], argTypes := #[31] }, type := 3, pos := "truth.go:17", after := #[{ on := 4, ground := Ground.data }], guard := none },
  { dst := some 10, op := Op.binOp BinOp.shl 129 (Operand.const (Value.int IntKind.i64 1)) (Operand.tmp 9) 3, type := 129, pos := "truth.go:17", after := #[{ on := 5, ground := Ground.data }], guard := none },
  { dst := some 11, op := Op.call { callee := Callee.value (Operand.func 154), args := #[Operand.tmp 10], argTypes := #[129] }, type := 126, pos := "truth.go:17", after := #[{ on := 6, ground := Ground.data }], guard := none },
  { dst := some 12, op := Op.nilCheck (Operand.tmp 4), type := 0, pos := "truth.go:17", after := #[{ on := 0, ground := Ground.data }, { on := 0, ground := Ground.phase }, { on := 1, ground := Ground.phase }, { on := 2, ground := Ground.phase }, { on := 3, ground := Ground.phase }, { on := 4, ground := Ground.phase }, { on := 5, ground := Ground.phase }, { on := 6, ground := Ground.phase }, { on := 7, ground := Ground.phase }], guard := none },
  { dst := some 13, op := Op.fieldAddr 164 (Operand.tmp 12) 3, type := 0, pos := "truth.go:17", after := #[{ on := 8, ground := Ground.data }, { on := 0, ground := Ground.phase }, { on := 1, ground := Ground.phase }, { on := 2, ground := Ground.phase }, { on := 3, ground := Ground.phase }, { on := 4, ground := Ground.phase }, { on := 5, ground := Ground.phase }, { on := 6, ground := Ground.phase }, { on := 7, ground := Ground.phase }], guard := none },
  { dst := none, op := Op.store 126 (Operand.tmp 13) (Operand.tmp 11), type := 0, pos := "truth.go:17", after := #[{ on := 9, ground := Ground.data }, { on := 7, ground := Ground.data }, { on := 7, ground := Ground.chain }, { on := 0, ground := Ground.phase }, { on := 1, ground := Ground.phase }, { on := 2, ground := Ground.phase }, { on := 3, ground := Ground.phase }, { on := 4, ground := Ground.phase }, { on := 5, ground := Ground.phase }, { on := 6, ground := Ground.phase }, { on := 7, ground := Ground.phase }], guard := none }]
def opsAT2 : Array Oper := #[
  { dst := some 14, op := Op.load 116 (Operand.tmp 1), type := 116, pos := "truth.go:18", after := #[], guard := none },
  { dst := some 15, op := Op.load 116 (Operand.tmp 1), type := 116, pos := "truth.go:18", after := #[], guard := none },
  { dst := some 16, op := Op.nilCheck (Operand.tmp 15), type := 0, pos := "truth.go:18", after := #[{ on := 1, ground := Ground.data }], guard := none },
  { dst := some 17, op := Op.fieldAddr 164 (Operand.tmp 16) 1, type := 0, pos := "truth.go:18", after := #[{ on := 2, ground := Ground.data }], guard := none },
  { dst := some 18, op := Op.load 31 (Operand.tmp 17), type := 31, pos := "truth.go:18", after := #[{ on := 3, ground := Ground.data }], guard := none },
  { dst := some 19, op := Op.call { callee := Callee.builtin Builtin.len, args := #[Operand.tmp 18], argTypes := #[31] }, type := 3, pos := "truth.go:18", after := #[{ on := 4, ground := Ground.data }], guard := none },
  { dst := some 20, op := Op.makeSlice 162 (Operand.tmp 19) (Operand.tmp 19), type := 162, pos := "truth.go:18", after := #[{ on := 5, ground := Ground.data }, { on := 5, ground := Ground.data }], guard := none },
  { dst := some 21, op := Op.nilCheck (Operand.tmp 14), type := 0, pos := "truth.go:18", after := #[{ on := 0, ground := Ground.data }, { on := 0, ground := Ground.phase }, { on := 1, ground := Ground.phase }, { on := 2, ground := Ground.phase }, { on := 3, ground := Ground.phase }, { on := 4, ground := Ground.phase }, { on := 5, ground := Ground.phase }, { on := 6, ground := Ground.phase }], guard := none },
  { dst := some 22, op := Op.fieldAddr 164 (Operand.tmp 21) 4, type := 0, pos := "truth.go:18", after := #[{ on := 7, ground := Ground.data }, { on := 0, ground := Ground.phase }, { on := 1, ground := Ground.phase }, { on := 2, ground := Ground.phase }, { on := 3, ground := Ground.phase }, { on := 4, ground := Ground.phase }, { on := 5, ground := Ground.phase }, { on := 6, ground := Ground.phase }], guard := none },
  { dst := none, op := Op.store 162 (Operand.tmp 22) (Operand.tmp 20), type := 0, pos := "truth.go:18", after := #[{ on := 8, ground := Ground.data }, { on := 6, ground := Ground.data }, { on := 0, ground := Ground.phase }, { on := 1, ground := Ground.phase }, { on := 2, ground := Ground.phase }, { on := 3, ground := Ground.phase }, { on := 4, ground := Ground.phase }, { on := 5, ground := Ground.phase }, { on := 6, ground := Ground.phase }], guard := none }]
set_option maxRecDepth 100000 in
set_option maxHeartbeats 4000000 in
theorem reg1_any {tb tbx m p c : Nat} {A : Option Addr} {s0 s1 s2 s3 : Value} (Q : Exit → Act → World → Prop) (_hQp : ∀ c a w, Q (.panic c) a w → False) (W : World) (hp : p ≤ 256) (hm : m ≤ 8) (hw1 : IntKind.i64.wrap ((2 : Int) ^ m) = (p : Int)) (_hw2 : wrap64 ((2 : Int) ^ m) = (p : Int))
    (hS : ∀ w', Below W.heap.size W w' → w'.cell? ⟨tbx, 0, none⟩ = some (.pointer (some ⟨tb, 0, none⟩)) ∧ w'.cell? ⟨tb, 3, none⟩ = some (.slice A m c)) (hC : ∀ w', Below W.heap.size W w' → (w'.cell? ⟨tb, 5, none⟩ = some s0 ∧ w'.cell? ⟨tb, 6, none⟩ = some s1 ∧ w'.cell? ⟨tb, 7, none⟩ = some s2 ∧ w'.cell? ⟨tb, 8, none⟩ = some s3)) (hFz : ∀ w', Below W.heap.size W w' → (w'.frozen? ⟨tb, 5, none⟩ = false ∧ w'.frozen? ⟨tb, 6, none⟩ = false ∧ w'.frozen? ⟨tb, 7, none⟩ = false ∧ w'.frozen? ⟨tb, 8, none⟩ = false))
    (hT : ∀ w3 (a9 b9 c9 d9 : Nat), Below W.heap.size W w3 → (fun w' : World => w'.cell? ⟨tbx, 0, none⟩ = some (.pointer (some ⟨tb, 0, none⟩)) ∧ w'.cell? ⟨tb, 3, none⟩ = some (.slice A m c)) ((((w3.setCell ⟨tb, 5, none⟩ (.int .u64 (a9 : Nat))).setCell ⟨tb, 6, none⟩ (.int .u64 (b9 : Nat))).setCell ⟨tb, 7, none⟩ (.int .u64 (c9 : Nat))).setCell ⟨tb, 8, none⟩ (.int .u64 (d9 : Nat)))) (y2 y3 y4 y5 y6 y7 y8 y9 y10 y11 y12 y13 y14 y15 y16 y17 y18 y19 y20 y21 y22 y23 y24 y25 y26 y27 y28 y29 y30 y31 y32 y33 y34 y35 y36 y37 y38 y39 y40 y41 y42 y43 y44 y45 y46 y47 y48 y49 y50 y51 y52 y53 y54 y55 y56 y57 : Value)
    (hQ : ∀ (w3 : World) (a9 b9 c9 d9 : Nat) (u4 u5 u6 u7 u8 u9 u10 u11 u12 u13 : Value), Below W.heap.size W w3 → SW (fun i => decide (i < p)) a9 b9 c9 d9 → Q .normal { tmps := #[.pointer (some ⟨tb, 0, none⟩), .pointer (some ⟨tbx, 0, none⟩), y2, y3, u4, u5, u6, u7, u8, u9, u10, u11, u12, u13, y14, y15, y16, y17, y18, y19, y20, y21, y22, y23, y24, y25, y26, y27, y28, y29, y30, y31, y32, y33, y34, y35, y36, y37, y38, y39, y40, y41, y42, y43, y44, y45, y46, y47, y48, y49, y50, y51, y52, y53, y54, y55, y56, y57], defers := [] } ((((w3.setCell ⟨tb, 5, none⟩ (.int .u64 (a9 : Nat))).setCell ⟨tb, 6, none⟩ (.int .u64 (b9 : Nat))).setCell ⟨tb, 7, none⟩ (.int .u64 (c9 : Nat))).setCell ⟨tb, 8, none⟩ (.int .u64 (d9 : Nat)))) :
    (Code.region 1 opsAT1 true).wp Tryz.prog Q { tmps := #[.pointer (some ⟨tb, 0, none⟩), .pointer (some ⟨tbx, 0, none⟩), y2, y3, y4, y5, y6, y7, y8, y9, y10, y11, y12, y13, y14, y15, y16, y17, y18, y19, y20, y21, y22, y23, y24, y25, y26, y27, y28, y29, y30, y31, y32, y33, y34, y35, y36, y37, y38, y39, y40, y41, y42, y43, y44, y45, y46, y47, y48, y49, y50, y51, y52, y53, y54, y55, y56, y57], defers := [] } W := by
  unfold opsAT1
  refine wp_region_noPanic ?_
  refine wp_region_held_drew (S := fun w' => w'.cell? ⟨tbx, 0, none⟩ = some (.pointer (some ⟨tb, 0, none⟩)) ∧ w'.cell? ⟨tb, 3, none⟩ = some (.slice A m c)) (by kernel_rfl) (hS _ (Below.refl _ W).drew) (fun hHeld => ?_)
  refine wpAnyH_take (i := 0) (oi := { dst := some 4, op := Op.load 116 (Operand.tmp 1), type := 116, pos := "truth.go:17", after := #[], guard := none }) (v := .pointer (some ⟨tb, 0, none⟩)) rfl (by kernel_rfl) (by kernel_rfl) (by kernel_rfl) (fun _ _ _ h => h) (Or.inl ⟨by rfl, by (intro w hSw; (try dsimp only at hSw); go_simp)⟩) (by assumption) ?_
  try simp only [Act.put, List.setIfInBounds_toArray, List.set_cons_zero, List.set_cons_succ]
  refine wpAnyH_take (i := 1) (oi := { dst := some 5, op := Op.load 116 (Operand.tmp 1), type := 116, pos := "truth.go:17", after := #[], guard := none }) (v := .pointer (some ⟨tb, 0, none⟩)) rfl (by kernel_rfl) (by kernel_rfl) (by kernel_rfl) (fun _ _ _ h => h) (Or.inl ⟨by rfl, by (intro w hSw; (try dsimp only at hSw); go_simp)⟩) (by assumption) ?_
  try simp only [Act.put, List.setIfInBounds_toArray, List.set_cons_zero, List.set_cons_succ]
  refine wpAnyH_take (i := 2) (oi := { dst := some 6, op := Op.nilCheck (Operand.tmp 5), type := 0, pos := "truth.go:17", after := #[{ on := 1, ground := Ground.data }], guard := none }) (v := .pointer (some ⟨tb, 0, none⟩)) rfl (by kernel_rfl) (by kernel_rfl) (by kernel_rfl) (fun _ _ _ h => h) (Or.inl ⟨by rfl, by (intro w hSw; (try dsimp only at hSw); go_simp)⟩) (by assumption) ?_
  try simp only [Act.put, List.setIfInBounds_toArray, List.set_cons_zero, List.set_cons_succ]
  refine wpAnyH_take (i := 3) (oi := { dst := some 7, op := Op.fieldAddr 164 (Operand.tmp 6) 1, type := 0, pos := "truth.go:17", after := #[{ on := 2, ground := Ground.data }], guard := none }) (v := .pointer (some ⟨tb, 3, none⟩)) rfl (by kernel_rfl) (by kernel_rfl) (by kernel_rfl) (fun _ _ _ h => h) (Or.inl ⟨by rfl, by (intro w hSw; (try dsimp only at hSw); go_simp)⟩) (by assumption) ?_
  try simp only [Act.put, List.setIfInBounds_toArray, List.set_cons_zero, List.set_cons_succ]
  refine wpAnyH_take (i := 4) (oi := { dst := some 8, op := Op.load 31 (Operand.tmp 7), type := 31, pos := "truth.go:17", after := #[{ on := 3, ground := Ground.data }], guard := none }) (v := .slice A m c) rfl (by kernel_rfl) (by kernel_rfl) (by kernel_rfl) (fun _ _ _ h => h) (Or.inl ⟨by rfl, by (intro w hSw; (try dsimp only at hSw); go_simp)⟩) (by assumption) ?_
  try simp only [Act.put, List.setIfInBounds_toArray, List.set_cons_zero, List.set_cons_succ]
  refine wpAnyH_ready (rs := [5]) (by kernel_rfl) (by simp) (AllReadyH.cons (o := { dst := some 9, op := Op.call { callee := Callee.builtin Builtin.len, args := #[Operand.tmp 8], argTypes := #[31] }, type := 3, pos := "truth.go:17", after := #[{ on := 4, ground := Ground.data }], guard := none }) rfl (fun K hK => ?_) AllReadyH.nil)
  go_simp
  refine hK.out _ _ (hS _ (Below.refl _ W).drew) (fun hHeld => ?_)
  clear hK K
  try simp only [Act.put, List.setIfInBounds_toArray, List.set_cons_zero, List.set_cons_succ]
  refine wpAnyH_ready (rs := [6]) (by kernel_rfl) (by simp) (AllReadyH.cons (o := { dst := some 10, op := Op.binOp BinOp.shl 129 (Operand.const (Value.int IntKind.i64 1)) (Operand.tmp 9) 3, type := 129, pos := "truth.go:17", after := #[{ on := 5, ground := Ground.data }], guard := none }) rfl (fun K hK => ?_) AllReadyH.nil)
  go_simp
  refine hK.out _ _ (hS _ (Below.refl _ W).drew) (fun hHeld => ?_)
  clear hK K
  try simp only [Act.put, List.setIfInBounds_toArray, List.set_cons_zero, List.set_cons_succ]
  refine wpAnyH_ready (rs := [7]) (by kernel_rfl) (by simp) (AllReadyH.cons (o := { dst := some 11, op := Op.call { callee := Callee.value (Operand.func 154), args := #[Operand.tmp 10], argTypes := #[129] }, type := 126, pos := "truth.go:17", after := #[{ on := 6, ground := Ground.data }], guard := none }) rfl (fun K hK => ?_) AllReadyH.nil)
  go_simp
  go_at_call 154
  refine (TS.bBelow_any p hp W.drew).mono ?_
  rintro e w3 ⟨a9, b9, c9, d9, rfl, hsw9, hb3'⟩
  have hb3 : Below W.heap.size W w3 := (Below.refl _ W).drew.trans hb3'
  refine hK.out _ _ (hS _ hb3) (fun hHeld => ?_)
  clear hK K
  try simp only [Act.put, List.setIfInBounds_toArray, List.set_cons_zero, List.set_cons_succ]
  refine wpAnyH_take (i := 8) (oi := { dst := some 12, op := Op.nilCheck (Operand.tmp 4), type := 0, pos := "truth.go:17", after := #[{ on := 0, ground := Ground.data }, { on := 0, ground := Ground.phase }, { on := 1, ground := Ground.phase }, { on := 2, ground := Ground.phase }, { on := 3, ground := Ground.phase }, { on := 4, ground := Ground.phase }, { on := 5, ground := Ground.phase }, { on := 6, ground := Ground.phase }, { on := 7, ground := Ground.phase }], guard := none }) (v := .pointer (some ⟨tb, 0, none⟩)) rfl (by kernel_rfl) (by kernel_rfl) (by kernel_rfl) (fun _ _ _ h => h) (Or.inl ⟨by rfl, by (intro w hSw; (try dsimp only at hSw); go_simp)⟩) (by assumption) ?_
  try simp only [Act.put, List.setIfInBounds_toArray, List.set_cons_zero, List.set_cons_succ]
  refine wpAnyH_take (i := 9) (oi := { dst := some 13, op := Op.fieldAddr 164 (Operand.tmp 12) 3, type := 0, pos := "truth.go:17", after := #[{ on := 8, ground := Ground.data }, { on := 0, ground := Ground.phase }, { on := 1, ground := Ground.phase }, { on := 2, ground := Ground.phase }, { on := 3, ground := Ground.phase }, { on := 4, ground := Ground.phase }, { on := 5, ground := Ground.phase }, { on := 6, ground := Ground.phase }, { on := 7, ground := Ground.phase }], guard := none }) (v := .pointer (some ⟨tb, 5, none⟩)) rfl (by kernel_rfl) (by kernel_rfl) (by kernel_rfl) (fun _ _ _ h => h) (Or.inl ⟨by rfl, by (intro w hSw; (try dsimp only at hSw); go_simp)⟩) (by assumption) ?_
  try simp only [Act.put, List.setIfInBounds_toArray, List.set_cons_zero, List.set_cons_succ]
  refine wpAnyH_ready (rs := [10]) (by kernel_rfl) (by simp) (AllReadyH.cons (o := { dst := none, op := Op.store 126 (Operand.tmp 13) (Operand.tmp 11), type := 0, pos := "truth.go:17", after := #[{ on := 9, ground := Ground.data }, { on := 7, ground := Ground.data }, { on := 7, ground := Ground.chain }, { on := 0, ground := Ground.phase }, { on := 1, ground := Ground.phase }, { on := 2, ground := Ground.phase }, { on := 3, ground := Ground.phase }, { on := 4, ground := Ground.phase }, { on := 5, ground := Ground.phase }, { on := 6, ground := Ground.phase }, { on := 7, ground := Ground.phase }], guard := none }) rfl (fun K hK => ?_) AllReadyH.nil)
  obtain ⟨e0, e1, e2, e3⟩ := hC w3 hb3
  obtain ⟨f0, f1, f2, f3⟩ := hFz w3 hb3
  go_simp
  refine hK.out _ _ (hT w3 _ _ _ _ hb3) (fun hHeld => ?_)
  clear hK K
  try simp only [Act.put, List.setIfInBounds_toArray, List.set_cons_zero, List.set_cons_succ]
  refine wpAnyH_done (by kernel_rfl) ?_ _
  exact hQ w3 _ _ _ _ _ _ _ _ _ _ _ _ _ _ hb3 hsw9

set_option maxRecDepth 100000 in
set_option maxHeartbeats 4000000 in
theorem reg2_any {tb tbx m c : Nat} {A : Option Addr} {ov : Value} (Q : Exit → Act → World → Prop) (_hQp : ∀ c a w, Q (.panic c) a w → False) (W : World) (hm : m ≤ 8)
    (hS : ∀ w', Below W.heap.size W w' → w'.cell? ⟨tbx, 0, none⟩ = some (.pointer (some ⟨tb, 0, none⟩)) ∧ w'.cell? ⟨tb, 3, none⟩ = some (.slice A m c)) (hC : ∀ w', Below W.heap.size W w' → w'.cell? ⟨tb, 9, none⟩ = some ov ∧ w'.frozen? ⟨tb, 9, none⟩ = false)
    (hT : (fun w' : World => w'.cell? ⟨tbx, 0, none⟩ = some (.pointer (some ⟨tb, 0, none⟩)) ∧ w'.cell? ⟨tb, 3, none⟩ = some (.slice A m c)) ((W.alloc (.cells (setCells (fun _ _ => false) m).toArray 126)).drew.setCell ⟨tb, 9, none⟩ (.slice (some ⟨W.heap.size, 0, none⟩) m m))) (y2 y3 y4 y5 y6 y7 y8 y9 y10 y11 y12 y13 y14 y15 y16 y17 y18 y19 y20 y21 y22 y23 y24 y25 y26 y27 y28 y29 y30 y31 y32 y33 y34 y35 y36 y37 y38 y39 y40 y41 y42 y43 y44 y45 y46 y47 y48 y49 y50 y51 y52 y53 y54 y55 y56 y57 : Value)
    (hQ : ∀ (u14 u15 u16 u17 u18 u19 u20 u21 u22 : Value), Q .normal { tmps := #[.pointer (some ⟨tb, 0, none⟩), .pointer (some ⟨tbx, 0, none⟩), y2, y3, y4, y5, y6, y7, y8, y9, y10, y11, y12, y13, u14, u15, u16, u17, u18, u19, u20, u21, u22, y23, y24, y25, y26, y27, y28, y29, y30, y31, y32, y33, y34, y35, y36, y37, y38, y39, y40, y41, y42, y43, y44, y45, y46, y47, y48, y49, y50, y51, y52, y53, y54, y55, y56, y57], defers := [] } ((W.alloc (.cells (setCells (fun _ _ => false) m).toArray 126)).drew.setCell ⟨tb, 9, none⟩ (.slice (some ⟨W.heap.size, 0, none⟩) m m))) :
    (Code.region 2 opsAT2 true).wp Tryz.prog Q { tmps := #[.pointer (some ⟨tb, 0, none⟩), .pointer (some ⟨tbx, 0, none⟩), y2, y3, y4, y5, y6, y7, y8, y9, y10, y11, y12, y13, y14, y15, y16, y17, y18, y19, y20, y21, y22, y23, y24, y25, y26, y27, y28, y29, y30, y31, y32, y33, y34, y35, y36, y37, y38, y39, y40, y41, y42, y43, y44, y45, y46, y47, y48, y49, y50, y51, y52, y53, y54, y55, y56, y57], defers := [] } W := by
  unfold opsAT2
  obtain ⟨Wa, hWa⟩ : ∃ Wa, (W.alloc (.cells (setCells (fun _ _ => false) m).toArray 126)).drew = Wa := ⟨_, rfl⟩
  have hda : Below W.heap.size W Wa := by rw [← hWa]; exact ((Below.refl _ W).alloc (Nat.le_refl _) _).drew
  rw [hWa] at hT
  simp only [hWa] at hQ
  have hlI : (0 : Int) ≤ m := by omega
  refine wp_region_noPanic ?_
  refine wp_region_held_drew (S := fun w' => w'.cell? ⟨tbx, 0, none⟩ = some (.pointer (some ⟨tb, 0, none⟩)) ∧ w'.cell? ⟨tb, 3, none⟩ = some (.slice A m c)) (by kernel_rfl) (hS _ (Below.refl _ W).drew) (fun hHeld => ?_)
  refine wpAnyH_take (i := 0) (oi := { dst := some 14, op := Op.load 116 (Operand.tmp 1), type := 116, pos := "truth.go:18", after := #[], guard := none }) (v := .pointer (some ⟨tb, 0, none⟩)) rfl (by kernel_rfl) (by kernel_rfl) (by kernel_rfl) (fun _ _ _ h => h) (Or.inl ⟨by rfl, by (intro w hSw; (try dsimp only at hSw); go_simp)⟩) (by assumption) ?_
  try simp only [Act.put, List.setIfInBounds_toArray, List.set_cons_zero, List.set_cons_succ]
  refine wpAnyH_take (i := 1) (oi := { dst := some 15, op := Op.load 116 (Operand.tmp 1), type := 116, pos := "truth.go:18", after := #[], guard := none }) (v := .pointer (some ⟨tb, 0, none⟩)) rfl (by kernel_rfl) (by kernel_rfl) (by kernel_rfl) (fun _ _ _ h => h) (Or.inl ⟨by rfl, by (intro w hSw; (try dsimp only at hSw); go_simp)⟩) (by assumption) ?_
  try simp only [Act.put, List.setIfInBounds_toArray, List.set_cons_zero, List.set_cons_succ]
  refine wpAnyH_take (i := 2) (oi := { dst := some 16, op := Op.nilCheck (Operand.tmp 15), type := 0, pos := "truth.go:18", after := #[{ on := 1, ground := Ground.data }], guard := none }) (v := .pointer (some ⟨tb, 0, none⟩)) rfl (by kernel_rfl) (by kernel_rfl) (by kernel_rfl) (fun _ _ _ h => h) (Or.inl ⟨by rfl, by (intro w hSw; (try dsimp only at hSw); go_simp)⟩) (by assumption) ?_
  try simp only [Act.put, List.setIfInBounds_toArray, List.set_cons_zero, List.set_cons_succ]
  refine wpAnyH_take (i := 3) (oi := { dst := some 17, op := Op.fieldAddr 164 (Operand.tmp 16) 1, type := 0, pos := "truth.go:18", after := #[{ on := 2, ground := Ground.data }], guard := none }) (v := .pointer (some ⟨tb, 3, none⟩)) rfl (by kernel_rfl) (by kernel_rfl) (by kernel_rfl) (fun _ _ _ h => h) (Or.inl ⟨by rfl, by (intro w hSw; (try dsimp only at hSw); go_simp)⟩) (by assumption) ?_
  try simp only [Act.put, List.setIfInBounds_toArray, List.set_cons_zero, List.set_cons_succ]
  refine wpAnyH_take (i := 4) (oi := { dst := some 18, op := Op.load 31 (Operand.tmp 17), type := 31, pos := "truth.go:18", after := #[{ on := 3, ground := Ground.data }], guard := none }) (v := .slice A m c) rfl (by kernel_rfl) (by kernel_rfl) (by kernel_rfl) (fun _ _ _ h => h) (Or.inl ⟨by rfl, by (intro w hSw; (try dsimp only at hSw); go_simp)⟩) (by assumption) ?_
  try simp only [Act.put, List.setIfInBounds_toArray, List.set_cons_zero, List.set_cons_succ]
  refine wpAnyH_ready (rs := [5]) (by kernel_rfl) (by simp) (AllReadyH.cons (o := { dst := some 19, op := Op.call { callee := Callee.builtin Builtin.len, args := #[Operand.tmp 18], argTypes := #[31] }, type := 3, pos := "truth.go:18", after := #[{ on := 4, ground := Ground.data }], guard := none }) rfl (fun K hK => ?_) AllReadyH.nil)
  go_simp
  refine hK.out _ _ (hS _ (Below.refl _ W).drew) (fun hHeld => ?_)
  clear hK K
  try simp only [Act.put, List.setIfInBounds_toArray, List.set_cons_zero, List.set_cons_succ]
  refine wpAnyH_ready (rs := [6]) (by kernel_rfl) (by simp) (AllReadyH.cons (o := { dst := some 20, op := Op.makeSlice 162 (Operand.tmp 19) (Operand.tmp 19), type := 162, pos := "truth.go:18", after := #[{ on := 5, ground := Ground.data }, { on := 5, ground := Ground.data }], guard := none }) rfl (fun K hK => ?_) AllReadyH.nil)
  have hmk := make_setsT m (by omega) W.drew
  go_simp
  first | rw [hWa] | skip
  refine hK.out _ _ (hS _ hda) (fun hHeld => ?_)
  clear hK K
  try simp only [Act.put, List.setIfInBounds_toArray, List.set_cons_zero, List.set_cons_succ]
  refine wpAnyH_take (i := 7) (oi := { dst := some 21, op := Op.nilCheck (Operand.tmp 14), type := 0, pos := "truth.go:18", after := #[{ on := 0, ground := Ground.data }, { on := 0, ground := Ground.phase }, { on := 1, ground := Ground.phase }, { on := 2, ground := Ground.phase }, { on := 3, ground := Ground.phase }, { on := 4, ground := Ground.phase }, { on := 5, ground := Ground.phase }, { on := 6, ground := Ground.phase }], guard := none }) (v := .pointer (some ⟨tb, 0, none⟩)) rfl (by kernel_rfl) (by kernel_rfl) (by kernel_rfl) (fun _ _ _ h => h) (Or.inl ⟨by rfl, by (intro w hSw; (try dsimp only at hSw); go_simp)⟩) (by assumption) ?_
  try simp only [Act.put, List.setIfInBounds_toArray, List.set_cons_zero, List.set_cons_succ]
  refine wpAnyH_take (i := 8) (oi := { dst := some 22, op := Op.fieldAddr 164 (Operand.tmp 21) 4, type := 0, pos := "truth.go:18", after := #[{ on := 7, ground := Ground.data }, { on := 0, ground := Ground.phase }, { on := 1, ground := Ground.phase }, { on := 2, ground := Ground.phase }, { on := 3, ground := Ground.phase }, { on := 4, ground := Ground.phase }, { on := 5, ground := Ground.phase }, { on := 6, ground := Ground.phase }], guard := none }) (v := .pointer (some ⟨tb, 9, none⟩)) rfl (by kernel_rfl) (by kernel_rfl) (by kernel_rfl) (fun _ _ _ h => h) (Or.inl ⟨by rfl, by (intro w hSw; (try dsimp only at hSw); go_simp)⟩) (by assumption) ?_
  try simp only [Act.put, List.setIfInBounds_toArray, List.set_cons_zero, List.set_cons_succ]
  refine wpAnyH_ready (rs := [9]) (by kernel_rfl) (by simp) (AllReadyH.cons (o := { dst := none, op := Op.store 162 (Operand.tmp 22) (Operand.tmp 20), type := 0, pos := "truth.go:18", after := #[{ on := 8, ground := Ground.data }, { on := 6, ground := Ground.data }, { on := 0, ground := Ground.phase }, { on := 1, ground := Ground.phase }, { on := 2, ground := Ground.phase }, { on := 3, ground := Ground.phase }, { on := 4, ground := Ground.phase }, { on := 5, ground := Ground.phase }, { on := 6, ground := Ground.phase }], guard := none }) rfl (fun K hK => ?_) AllReadyH.nil)
  obtain ⟨e0, f0⟩ := hC _ hda
  go_simp
  refine hK.out _ _ (hT) (fun hHeld => ?_)
  clear hK K
  try simp only [Act.put, List.setIfInBounds_toArray, List.set_cons_zero, List.set_cons_succ]
  refine wpAnyH_done (by kernel_rfl) ?_ _
  exact hQ _ _ _ _ _ _ _ _ _
end Go.Proofs.YtndkcimajeofcaaGreatDoor

namespace Go.Proofs.YtndkcimajeofcaaGreatDoor
open Go.RowKit
attribute [local go_sem ↓] Go.wp_at_zero Go.wp_at_succ

def nmAt (i : Nat) : Tr → Bool
  | .mk op n _ => (op == 0) && (n == (i : Int))
/-- Which names stand at nodes. -/
def nmsF (pre : List MT) (i : Nat) : Bool := pre.any fun x => nmAt i x.tr
/-- What a walk keeps that stores into the block nb alone. -/
def KN (n₀ nb : Nat) (W W' : World) : Prop := Below n₀ W W' ∧ ∀ k, k < W.heap.size → k ≠ nb → W'.heap[k]? = W.heap[k]?
theorem KN.refl (n₀ nb : Nat) (W : World) : KN n₀ nb W W := ⟨Below.refl _ _, fun _ _ _ => rfl⟩
theorem KN.trans {n₀ nb : Nat} {A B C : World} (h : KN n₀ nb A B) (k : KN n₀ nb B C) : KN n₀ nb A C :=
  ⟨h.1.trans k.1, fun i hi hn => (k.2 i (by have := h.1.size; omega) hn).trans (h.2 i hi hn)⟩
theorem KN.of_below {n₀ nb : Nat} {W W' : World} (h : Below W.heap.size W W') (h0 : n₀ ≤ W.heap.size) : KN n₀ nb W W' := ⟨h.mono h0, fun k hk _ => h.block k hk⟩
theorem KN.of_grown {n₀ nb : Nat} {W W' : World} (h : W.grownBy W' (some nb)) (h0 : n₀ ≤ nb) (h1 : n₀ ≤ W.heap.size) : KN n₀ nb W W' := ⟨below_grown h h0 h1, fun k hk hn => h.block k hk fun e => hn (Option.some.inj e)⟩
/-- What holds ahead of a node while names are collected. -/
def JN (n₀ nb : Nat) (L0 : List MT) (pre : List MT) (W : World) : Prop :=
  n₀ ≤ nb ∧ ∃ a b c d : Nat, W.heap[nb]? = some (.cells #[.int .u64 (a : Nat), .int .u64 (b : Nat), .int .u64 (c : Nat), .int .u64 (d : Nat)] 168) ∧ SW (nmsF (L0 ++ pre)) a b c d
theorem visJN {n₀ nb : Nat} {L0 : List MT} : VisJ n₀ (JN n₀ nb L0) (KN n₀ nb) where
  refl := KN.refl n₀ nb
  trans := KN.trans
  below := fun h => h.1
  box := fun pre W cs t h0 hJ => by
    have hb : Below W.heap.size W (W.alloc (.cells cs t)) := (Below.refl _ _).alloc (Nat.le_refl _) _
    obtain ⟨h1, a, b, c, d, h2, h3⟩ := hJ
    exact ⟨⟨h1, a, b, c, d, blk_lat0 h2 hb, h3⟩, KN.of_below hb h0⟩
  keep := fun pre W cs t W2 h0 hJ hK => by
    obtain ⟨h1, a, b, c, d, h2, h3⟩ := hJ
    have hl := (Array.getElem?_eq_some_iff.1 h2).1
    exact (hK.2 W.heap.size (by simp) (by omega)).trans (World.alloc_heap_new' W _)

theorem blkI {w : World} {b : Nat} {x0 x1 x2 x3 : Value} {t : TypeId} (h : w.heap[b]? = some (.cells #[x0, x1, x2, x3] t)) : (w.cell? ⟨b, 0, none⟩ = some x0 ∧ w.cell? ⟨b, 1, none⟩ = some x1 ∧ w.cell? ⟨b, 2, none⟩ = some x2 ∧ w.cell? ⟨b, 3, none⟩ = some x3) ∧ w.frozen? ⟨b, 0, none⟩ = false ∧ w.frozen? ⟨b, 1, none⟩ = false ∧ w.frozen? ⟨b, 2, none⟩ = false ∧ w.frozen? ⟨b, 3, none⟩ = false :=
  ⟨⟨cell_of_blk h 0, cell_of_blk h 1, cell_of_blk h 2, cell_of_blk h 3⟩, frozen_of_blk h 0, frozen_of_blk h 1, frozen_of_blk h 2, frozen_of_blk h 3⟩

theorem call_namesIn1 (args : Array Value) (w : World) : (callFunc 150 args).run Tryz.prog w = .ok (.enter 150 args) w := by
  unfold callFunc; kernel_rfl

set_option maxRecDepth 100000 in
set_option maxHeartbeats 8000000 in
theorem namesIn1_do {n₀ nb : Nat} {n : NM} {w0 : World} (L0 : List MT) (hok : n.ok = true) : DoAt n₀ w0 150 (.pointer (some ⟨nb, 0, none⟩)) (JN n₀ nb L0) (fun _ _ => False) (KN n₀ nb) (NodeOK n) := by
  intro pre x W hJ hP hx hW hn0
  obtain ⟨h1, a, b, c, d, hk, hsw⟩ := hJ
  have hnl := (Array.getElem?_eq_some_iff.1 hk).1
  obtain ⟨W1, hW1, hB1, hs1, hk1⟩ := newBlk W _ rfl #[.int .i64 x.op, .int .i64 x.n, .slice x.A x.args.length x.c] 33
  obtain ⟨⟨a0, a1, a2⟩, -⟩ := res3 hk1
  obtain ⟨op, nn, A, cc, args⟩ := x
  have hF : ∀ i, nmsF (L0 ++ (pre ++ [MT.mk op nn A cc args])) i = (nmsF (L0 ++ pre) i || ((op == 0) && (nn == (i : Int)))) := fun i => by
    unfold nmsF
    rw [← List.append_assoc, List.any_append (xs := L0 ++ pre)]
    simp [MT.tr_mk, nmAt]
  have hkn1 := blk_lat0 hk hB1
  obtain ⟨⟨n0, n1, n2, n3⟩, -⟩ := blkI hkn1
  simp only [MT.val, MT.op, MT.n, MT.A, MT.args, MT.c] at a0 a1 a2 hW1 ⊢
  rcases q0 : (op == 0)
  · have hsw2 : SW (nmsF (L0 ++ (pre ++ [MT.mk op nn A cc args]))) a b c d := hsw.ext fun i _ => by rw [hF, q0]; simp
    have HR := Lib.hid (show JN n₀ nb L0 (pre ++ [MT.mk op nn A cc args]) W1 from ⟨h1, a, b, c, d, hkn1, hsw2⟩)
    have HK := Lib.hid (KN.of_below (nb := nb) hB1 hn0)
    clear hsw hsw2 hF hk hk1 hkn1 hB1 hx
    go_enter Tryz.func150, Tryz.ntmps150
    go_wp2
    go_ret
    exact .inl ⟨rfl, HR.out, HK.out⟩
  · have hop : op = 0 := by simpa using q0
    subst hop
    obtain ⟨hw, -⟩ := wf_node hP.1
    simp only [wfB, Bool.and_eq_true, decide_eq_true_eq, beq_iff_eq, choicesF] at hw
    have hC := (ok_bounds hok).1
    obtain ⟨k, rfl⟩ := Int.eq_ofNat_of_zero_le hw.2.2.2.1
    have hk256 : k < 256 := by have := hw.2.2.2.2; simp at this; omega
    have hwi := IS.bWith_sw hsw k hk256 W1
    have HKN := Lib.hid hkn1
    have HSW := Lib.hid hsw
    have HF := Lib.hid hF
    have HB1 := Lib.hid hB1
    clear hsw hF hk hk1 hkn1 hB1 hx hw hP
    go_enter Tryz.func150, Tryz.ntmps150
    go_wp2_with (go_at_call 151; refine hwi.mono ?_; clear hwi; rintro e w3 ⟨a9, b9, c9, d9, rfl, hsw9, hb9⟩; have hkR := blk_lat0 HKN.out hb9; obtain ⟨-, z0, z1, z2, z3⟩ := blkI hkR; obtain ⟨⟨y0, y1, y2, y3⟩, -⟩ := blkI hkR; obtain ⟨k1, k2⟩ := store4 hkR (.int .u64 (a9 : Nat)) (.int .u64 (b9 : Nat)) (.int .u64 (c9 : Nat)) (.int .u64 (d9 : Nat)))
    go_ret
    have hb := HB1.out.trans (hb9.mono (by omega))
    refine .inl ⟨rfl, ⟨h1, a9, b9, c9, d9, k1, hsw9.ext fun i _ => ?_⟩, (KN.of_below hb hn0).trans (KN.of_grown k2 h1 (by have := hb.size; omega))⟩
    rw [HF.out]
    simp only [beq_self_eq_true, Bool.true_and]
    congr 1
    rw [Bool.eq_iff_iff]
    simp
    omega
end Go.Proofs.YtndkcimajeofcaaGreatDoor

namespace Go.Proofs.YtndkcimajeofcaaGreatDoor
open Go.RowKit Go.Shelf
attribute [local go_sem ↓] Go.wp_at_zero Go.wp_at_succ
attribute [local go_sem] Oper.semAt_some

theorem tabTypes {w : World} {tb mb : Nat} {n : NM} {v s0 s1 s2 s3 ov : Value} (h : TabB w tb mb n v s0 s1 s2 s3 ov) (a b c d : Value) :
    (w.cell? ⟨tb, 5, none⟩ = some s0 ∧ w.cell? ⟨tb, 6, none⟩ = some s1 ∧ w.cell? ⟨tb, 7, none⟩ = some s2 ∧ w.cell? ⟨tb, 8, none⟩ = some s3) ∧ (w.frozen? ⟨tb, 5, none⟩ = false ∧ w.frozen? ⟨tb, 6, none⟩ = false ∧ w.frozen? ⟨tb, 7, none⟩ = false ∧ w.frozen? ⟨tb, 8, none⟩ = false) ∧
    TabB ((((w.setCell ⟨tb, 5, none⟩ a).setCell ⟨tb, 6, none⟩ b).setCell ⟨tb, 7, none⟩ c).setCell ⟨tb, 8, none⟩ d) tb mb n v a b c d ov ∧
    w.grownBy ((((w.setCell ⟨tb, 5, none⟩ a).setCell ⟨tb, 6, none⟩ b).setCell ⟨tb, 7, none⟩ c).setCell ⟨tb, 8, none⟩ d) (some tb) :=
  ⟨⟨cell_of_blk h 5, cell_of_blk h 6, cell_of_blk h 7, cell_of_blk h 8⟩, ⟨frozen_of_blk h 5, frozen_of_blk h 6, frozen_of_blk h 7, frozen_of_blk h 8⟩,
    blk_set (blk_set (blk_set (blk_set h 5 a) 6 b) 7 c) 8 d, grown_trans (grown_trans (grown_trans (grown_set w tb 5 a) (grown_set _ tb 6 b)) (grown_set _ tb 7 c)) (grown_set _ tb 8 d)⟩
theorem tabOwn {w : World} {tb mb : Nat} {n : NM} {v s0 s1 s2 s3 ov : Value} (h : TabB w tb mb n v s0 s1 s2 s3 ov) (a : Value) :
    w.cell? ⟨tb, 9, none⟩ = some ov ∧ w.frozen? ⟨tb, 9, none⟩ = false ∧ TabB (w.setCell ⟨tb, 9, none⟩ a) tb mb n v s0 s1 s2 s3 a ∧ w.grownBy (w.setCell ⟨tb, 9, none⟩ a) (some tb) :=
  ⟨cell_of_blk h 9, frozen_of_blk h 9, blk_set h 9 a, grown_set w tb 9 a⟩

theorem shr_bit (x k : Nat) (hx : x < 256) : (bits BinOp.and IntKind.i64 ((x : Int) / 2 ^ k) 1 == 1) = x.testBit k := by
  have h1 : ((x : Int) / 2 ^ k) = ((x / 2 ^ k : Nat) : Int) := by rw [Int.natCast_ediv, Int.natCast_pow]; rfl
  have h0 := Nat.div_le_self x (2 ^ k)
  rw [h1, Nat.testBit_eq_decide_div_mod_eq]
  generalize x / 2 ^ k = q at h0 ⊢
  have h2 := bits_mask IntKind.i64 62 (by decide) (fun n h0 h1 => by rw [IntKind.wrap_i64]; omega) 1 (by decide) (q : Int) (by omega) (by omega)
  have h3 : bits BinOp.and IntKind.i64 (q : Int) 1 = (q : Int) % 2 := h2
  rw [h3, Bool.eq_iff_iff]
  simp
  omega
def eT (p x : Nat) : Nat := if x < p then x else 0
theorem KN.putObj {n₀ og D : Nat} {Wm W' : World} {o o' : Obj} (h : KN n₀ og Wm W') (hn : n₀ ≤ Wm.heap.size) (hD : Wm.heap.size ≤ D) (hD' : W'.heap[D]? = some o) (ho : o.isCells = false := by rfl) (hw : o.isWalk = false := by rfl) : KN n₀ og Wm (W'.putObj D o') :=
  ⟨h.1.trans (belowK_b (w := Wm) hn W' D o o' hD hD' ho hw), fun k hk hn => (World.putObj_heap_other (by omega)).trans (h.2 k hk hn)⟩
theorem Coll.grownLow {lo tb : Nat} {w w' : World} {v : Value} {Ts : List MT} (h : Coll lo lo w v Ts) (hg : w.grownBy w' (some tb)) (hl : tb < lo) : Coll lo lo w' v Ts := by
  refine ⟨owns_grown h.own hg ?_, fun t ht => ⟨(h.trees t ht).1.grown hg ?_, (h.trees t ht).2⟩⟩
  · by_cases hv : v.ownBlock = none
    · exact .inr hv
    · refine .inl fun e => ?_
      have := (own_lt h.own e).1
      omega
  · refine MT.All.imp (fun b hb e => ?_) t (h.trees t ht).1.2
    have : b = tb := Option.some.inj e
    have := hb.1
    omega
theorem KN.trans' {n₀ nb : Nat} {A B C : World} (h : KN n₀ nb A B) (k : KN n₀ nb B C) : KN n₀ nb A C := h.trans k
theorem TS.MRow.ext {w : World} {g n : Nat} {f f' : Nat → Nat → Bool} (h : TS.MRow w g n f) (he : ∀ j, j < n → ∀ x, x < 256 → f j x = f' j x) : TS.MRow w g n f' := by
  unfold TS.MRow at h ⊢
  rw [h, setCells_ext he]
/-- The rows while the k-th mark's types are collected. -/
def AF (m k : Nat) (pre : List Nat) : Nat → Nat → Bool := fun j x => if j = k then (pre.contains x && x.testBit k) else (decide (j < k) && ownF m j x)
theorem AF_nil (m k j x : Nat) : AF m k [] j x = (decide (j < k) && ownF m j x) := by
  unfold AF
  split
  · rename_i h; subst h; simp
  · rfl
theorem AF_done {m k p : Nat} (hp : 2 ^ m = p) (_hp2 : p ≤ 256) (j x : Nat) (hx : x < 256) : AF m k (elsF (fun i => decide (i < p)) 0) j x = (decide (j < k + 1) && ownF m j x) := by
  unfold AF
  split
  · rename_i h; subst h
    have : (elsF (fun i => decide (i < p)) 0).contains x = decide (x < p) := by
      rw [Bool.eq_iff_iff, List.contains_iff_mem, mem_elsF]
      simp; omega
    rw [this, ownF, hp]; simp
  · rename_i h
    congr 1
    rw [decide_eq_decide]; omega
theorem AF_off {m k x : Nat} (pre : List Nat) (h : x.testBit k = false) (j y : Nat) : AF m k (pre ++ [x]) j y = AF m k pre j y := by
  unfold AF
  split
  · rename_i hj; subst hj
    by_cases e : y = x
    · subst e; rw [h]; simp
    · simp [e]
  · rfl
theorem AF_on {m k x : Nat} (pre : List Nat) (h : x.testBit k = true) (j y : Nat) : updF (AF m k pre) k (fun i => (AF m k pre k i) || i == x) j y = AF m k (pre ++ [x]) j y := by
  unfold updF AF
  split
  · rename_i hj; subst hj
    by_cases e : y = x
    · subst e; rw [h]; simp
    · simp [e]
  · rename_i hj
    simp []
set_option maxRecDepth 100000 in
set_option maxHeartbeats 8000000 in
theorem addTypes_any {n₀ tb mb lo m : Nat} {n : NM} {s0 s1 s2 s3 ov : Value} {w : World} {v : Value} {Ts : List MT} (ht : Tab n₀ tb mb lo n s0 s1 s2 s3 ov w v Ts) (hG : GT w) (hg1 : 0 < n₀) (hg2 : 2 < n₀) (hm : Ts.length = m) (hl : m ≤ 8) :
    Calls Tryz.prog 113 #[.pointer (some ⟨tb, 0, none⟩)] w fun e w' => (∃ r, e = .returned r) ∧ TF w' tb lo n Ts ∧ w.grownBy w' (some tb) := by
  refine (callsIn_wide (n := 5)).1 ?_
  have hdd : ∀ k : Nat, (Fence.wide.depth.isSome = true → 1 ≤ k) := fun k h => by cases h
  obtain ⟨p, hp2⟩ : ∃ p, 2 ^ m = p := ⟨_, rfl⟩
  obtain ⟨hp, hp0, hw1, hw2⟩ := shl_i64 hl hp2
  obtain ⟨A, c, hv, -, -⟩ := row_val ht.coll.own
  rw [hm] at hv
  obtain ⟨W1, hW1, hB1, hs1, hk1⟩ := newBlk w _ rfl #[.pointer (some ⟨tb, 0, none⟩)] 116
  have htl : tb < w.heap.size := (Array.getElem?_eq_some_iff.1 ht.box).1
  have q0 := cell_of_blk hk1 0
  simp only [List.getElem?_toArray, List.getElem?_cons_zero] at q0
  have hS : ∀ w' (s0 s1 s2 s3 ov : Value), TabB w' tb mb n v s0 s1 s2 s3 ov → w'.heap[w.heap.size]? = some (.cells #[.pointer (some ⟨tb, 0, none⟩)] 116) → w'.cell? ⟨w.heap.size, 0, none⟩ = some (.pointer (some ⟨tb, 0, none⟩)) ∧ w'.cell? ⟨tb, 3, none⟩ = some (.slice A m c) := fun w' _ _ _ _ _ h1 h2 => ⟨cell_of_blk h2 0, by rw [← hv]; exact cell_of_blk h1 3⟩
  have HS := Lib.hid hS
  have HT := Lib.hid ht
  have HB1 := Lib.hid hB1
  have HK1 := Lib.hid hk1
  have hx1 : ∀ w', Below W1.heap.size W1 w' → TabB w' tb mb n v s0 s1 s2 s3 ov ∧ w'.heap[w.heap.size]? = some (.cells #[.pointer (some ⟨tb, 0, none⟩)] 116) := fun w' hb => ⟨blk_lat0 (blk_lat0 HT.out.box HB1.out) hb, blk_lat0 HK1.out hb⟩
  have HX1 := Lib.hid hx1
  have hd1 : Below W1.heap.size W1 W1.drew := (Below.refl _ _).drew
  clear hS ht hB1 hk1 hx1
  refine callsIn_of_wp_marks Tryz.func113 rfl trivial ?_ rfl
  simp only [Tryz.ntmps113, List.size_toArray, List.length_cons, List.length_nil, Nat.reduceAdd, Nat.reduceSub, Array.replicate_succ, Array.replicate_zero, List.push_toArray, List.append_toArray, List.nil_append, List.cons_append]
  gi_wp2_with fail
  refine Code.wpIn_mono NoPanic.imp ?_
  refine wpIn_wide.2 ?_
  have hz1 := HB1.out.size
  have htn : tb ≠ w.heap.size := by omega
  refine reg1_any (m := m) (A := A) (c := c) (s0 := s0) (s1 := s1) (s2 := s2) (s3 := s3) _ (fun _ _ _ h => h) W1 hp hl hw1 hw2 (fun w' hb => HS.out _ _ _ _ _ _ (HX1.out w' hb).1 (HX1.out w' hb).2) (fun w' hb => (tabTypes (HX1.out w' hb).1 s0 s1 s2 s3).1) (fun w' hb => (tabTypes (HX1.out w' hb).1 s0 s1 s2 s3).2.1)
    (fun w3 a9 b9 c9 d9 hb => HS.out _ _ _ _ _ _ (tabTypes (HX1.out w3 hb).1 _ _ _ _).2.2.1 (((tabTypes (HX1.out w3 hb).1 _ _ _ _).2.2.2.block w.heap.size (by have := hb.size; omega) (fun e => htn (Option.some.inj e).symm)).trans (HX1.out w3 hb).2)) _ _ _ _ _ _ _ _ _ _ _ _ _ _ _ _ _ _ _ _ _ _ _ _ _ _ _ _ _ _ _ _ _ _ _ _ _ _ _ _ _ _ _ _ _ _ _ _ _ _ _ _ _ _ _ _ (fun w3 a9 b9 c9 d9 u4 u5 u6 u7 u8 u9 u10 u11 u12 u13 hb3 hsw => ?_)
  obtain ⟨-, -, ht4, hg4⟩ := tabTypes (HX1.out w3 hb3).1 (.int .u64 (a9 : Nat)) (.int .u64 (b9 : Nat)) (.int .u64 (c9 : Nat)) (.int .u64 (d9 : Nat))
  have hk4 := (hg4.block w.heap.size (by have := hb3.size; omega) (fun e => htn (Option.some.inj e).symm)).trans (HX1.out w3 hb3).2
  have hs4 := hg4.size
  generalize ((((w3.setCell ⟨tb, 5, none⟩ (.int .u64 (a9 : Nat))).setCell ⟨tb, 6, none⟩ (.int .u64 (b9 : Nat))).setCell ⟨tb, 7, none⟩ (.int .u64 (c9 : Nat))).setCell ⟨tb, 8, none⟩ (.int .u64 (d9 : Nat))) = w4 at ht4 hg4 hk4 hs4 ⊢
  refine NoPanic.normal ?_
  gi_wp2_with fail
  have hog : tb < w4.heap.size := by have := hg4.size; have := hb3.size; omega
  have hT2 := fun w' (hb : Below w4.heap.size w4 w') => (And.intro (blk_lat0 ht4 hb) (blk_lat0 hk4 hb) : TabB w' tb mb n v (.int .u64 (a9 : Nat)) (.int .u64 (b9 : Nat)) (.int .u64 (c9 : Nat)) (.int .u64 (d9 : Nat)) ov ∧ w'.heap[w.heap.size]? = some (.cells #[.pointer (some ⟨tb, 0, none⟩)] 116))
  have hba : Below w4.heap.size w4 (w4.alloc (.cells (setCells (fun _ _ => false) m).toArray 126)).drew := ((Below.refl _ w4).alloc (Nat.le_refl _) _).drew
  obtain ⟨-, -, ht5, hg5⟩ := tabOwn (hT2 _ hba).1 (.slice (some ⟨w4.heap.size, 0, none⟩) m m)
  have hk5 := (hg5.block w.heap.size (by have := hba.size; have := hb3.size; omega) (fun e => htn (Option.some.inj e).symm)).trans (hT2 _ hba).2
  have hr5 : TS.MRow ((w4.alloc (.cells (setCells (fun _ _ => false) m).toArray 126)).drew.setCell ⟨tb, 9, none⟩ (.slice (some ⟨w4.heap.size, 0, none⟩) m m)) w4.heap.size m (fun _ _ => false) := (hg5.block w4.heap.size (by show w4.heap.size < (w4.alloc _).heap.size; simp) (fun e => by have := Option.some.inj e; omega)).trans (World.alloc_heap_new' w4 _)
  refine Code.wpIn_mono NoPanic.imp ?_
  refine wpIn_wide.2 ?_
  refine reg2_any (m := m) (A := A) (c := c) (ov := ov) _ (fun _ _ _ h => h) w4 hl (fun w' hb => HS.out _ _ _ _ _ _ (hT2 w' hb).1 (hT2 w' hb).2) (fun w' hb => ⟨(tabOwn (hT2 w' hb).1 ov).1, (tabOwn (hT2 w' hb).1 ov).2.1⟩) (HS.out _ _ _ _ _ _ ht5 hk5) _ _ _ _ _ _ _ _ _ _ _ _ _ _ _ _ _ _ _ _ _ _ _ _ _ _ _ _ _ _ _ _ _ _ _ _ _ _ _ _ _ _ _ _ _ _ _ _ _ _ _ _ _ _ _ _ (fun u14 u15 u16 u17 u18 u19 u20 u21 u22 => ?_)
  have hgw : w.grownBy ((w4.alloc (.cells (setCells (fun _ _ => false) m).toArray 126)).drew.setCell ⟨tb, 9, none⟩ (.slice (some ⟨w4.heap.size, 0, none⟩) m m)) (some tb) := by
    have z1 := hb3.size
    have z2 := hs4
    have e1 : w.grownBy w4 (some tb) := ⟨hg4.os.trans (hb3.os.trans HB1.out.os), hg4.tape.trans (hb3.tape.trans HB1.out.tape), hg4.output.trans (hb3.output.trans HB1.out.output), by omega, fun k hk hn => (hg4.block k (by omega) hn).trans ((hb3.block k (by omega)).trans (HB1.out.block k hk))⟩
    have z3 := e1.size
    exact ⟨hg5.os.trans (hba.os.trans e1.os), hg5.tape.trans (hba.tape.trans e1.tape), hg5.output.trans (hba.output.trans e1.output), Nat.le_trans e1.size (Nat.le_trans hba.size hg5.size), fun k hk hn => (hg5.block k (by have := hba.size; omega) hn).trans ((hba.block k (by omega)).trans (e1.block k hk hn))⟩
  have hsz5 : w4.heap.size < ((w4.alloc (.cells (setCells (fun _ _ => false) m).toArray 126)).drew.setCell ⟨tb, 9, none⟩ (.slice (some ⟨w4.heap.size, 0, none⟩) m m)).heap.size := hr5.lt
  have hwz : w.heap.size < w4.heap.size := by have := hb3.size; omega
  obtain ⟨og, hoge⟩ : ∃ og, w4.heap.size = og := ⟨_, rfl⟩
  generalize (w4.alloc (.cells (setCells (fun _ _ => false) m).toArray 126)).drew.setCell ⟨tb, 9, none⟩ (.slice (some ⟨w4.heap.size, 0, none⟩) m m) = Wm at ht5 hg5 hk5 hr5 hgw hsz5 ⊢
  rw [hoge] at ht5 hr5 hsz5 hwz hog
  have hn0 : n₀ ≤ tb := HT.out.h0
  have hn1 : n₀ ≤ w.heap.size := by omega
  have hn2 : n₀ ≤ og := by omega
  have hGm : GT Wm := hG.near (below_grown hgw hn0 hn1) hg1 hg2
  have HTM := Lib.hid ht5
  have HKM := Lib.hid hk5
  have HSW := Lib.hid hsw
  have q1 := cell_of_blk hk5 0
  have q2 := cell_of_blk ht5 9
  simp only [List.getElem?_toArray, List.getElem?_cons_zero, List.getElem?_cons_succ] at q1 q2
  have hHt : ∀ wr, KN n₀ og Wm wr → TabB wr tb mb n v (.int .u64 (a9 : Nat)) (.int .u64 (b9 : Nat)) (.int .u64 (c9 : Nat)) (.int .u64 (d9 : Nat)) (.slice (some ⟨og, 0, none⟩) m m) ∧ wr.heap[w.heap.size]? = some (.cells #[.pointer (some ⟨tb, 0, none⟩)] 116) ∧ GT wr := fun wr hk => ⟨(hk.2 tb (by omega) (by omega)).trans HTM.out, (hk.2 w.heap.size (by omega) (by omega)).trans HKM.out, hGm.near hk.1 hg1 hg2⟩
  have HHT := Lib.hid hHt
  clear hT2 hba hg5 ht5 hk5 ht4 hg4 hk4 hs4 hb3 hHt q0 hW1 hsw
  refine NoPanic.normal ?_
  gi_wp2_with fail
  clear q1 q2
  refine wpIn_loop (fun a' wr => ∃ (u0 u2 u3 u4 u5 u6 u7 u8 u9 u10 u11 u12 u13 u14 u15 u16 u17 u18 u19 u20 u21 u22 u23 u24 u25 u26 u29 u30 u31 u32 u33 u34 u35 u36 u37 u38 u39 u40 u41 u42 u43 u44 u45 u46 u47 u48 u49 u50 u51 u52 u53 u54 u55 u56 u57 c28 : Value) (dd : List Deferred), (∃ (k : Nat) (ds : List Nat), k ≤ m ∧ c28 = .int .i64 (k : Nat) ∧ dd = marks ds ∧ ds.Nodup ∧ (∀ D ∈ ds, Wm.heap.size ≤ D ∧ wr.heap[D]? = some (.deferred (some []))) ∧ KN n₀ og Wm wr ∧ TS.MRow wr og m (fun j x => decide (j < k) && ownF m j x)) ∧ a' = { tmps := #[u0, .pointer (some ⟨w.heap.size, 0, none⟩), u2, u3, u4, u5, u6, u7, u8, u9, u10, u11, u12, u13, u14, u15, u16, u17, u18, u19, u20, u21, u22, u23, u24, u25, u26, .int .i64 (m : Nat), c28, u29, u30, u31, u32, u33, u34, u35, u36, u37, u38, u39, u40, u41, u42, u43, u44, u45, u46, u47, u48, u49, u50, u51, u52, u53, u54, u55, u56, u57], defers := dd }) (fun a' _ => m - (intOf (a'.tmps.getD 28 undef)).toNat) ?_ ?_
  · (repeat apply Exists.intro)
    exact ⟨⟨0, [], Nat.zero_le _, rfl, rfl, List.nodup_nil, by simp, KN.refl _ _ _, hr5.ext fun j hj x hx => by simp⟩, rfl⟩
  · intro _ wr hinv
    obtain ⟨u0, u2, u3, u4, u5, u6, u7, u8, u9, u10, u11, u12, u13, u14, u15, u16, u17, u18, u19, u20, u21, u22, u23, u24, u25, u26, u29, u30, u31, u32, u33, u34, u35, u36, u37, u38, u39, u40, u41, u42, u43, u44, u45, u46, u47, u48, u49, u50, u51, u52, u53, u54, u55, u56, u57, c28, dd, hrel, ha⟩ := hinv
    subst ha
    try dsimp only
    obtain ⟨k, ds, hk, rfl, rfl, hnd, hds, hkn, hmr⟩ := hrel
    have hbw := hkn.1.size
    obtain ⟨htr, hkr, hGr⟩ := HHT.out wr hkn
    by_cases hlt : k < m
    · obtain ⟨W6, hW6, hB6, hs6, bX⟩ := newBox wr _ rfl (.int .i64 (k : Nat)) 3
      have z0 := cell_of_blk (blk_lat0 hkr hB6) 0
      have ht6 := blk_lat0 htr hB6
      have z5 := cell_of_blk ht6 5
      have z6 := cell_of_blk ht6 6
      have z7 := cell_of_blk ht6 7
      have z8 := cell_of_blk ht6 8
      simp only [List.getElem?_toArray, List.getElem?_cons_zero, List.getElem?_cons_succ] at z0 z5 z6 z7 z8
      have h0I : (0 : Int) ≤ k := by omega
      have hlI : (k : Int) < m := by omega
      gi_wp2_with (refine ⟨trivial, ?_⟩; refine (inW (TS.bAll_any a9 b9 c9 d9 _) 4).mono ?_; rintro e7 w7 ⟨rfl, rfl⟩)
      obtain ⟨W8, hW8, hB8, hs8, hkT⟩ := newBlk W6 _ hs6 #[.int .u64 (a9 : Nat), .int .u64 (b9 : Nat), .int .u64 (c9 : Nat), .int .u64 (d9 : Nat)] 126
      rw [hW8]
      have hBW : Below wr.heap.size wr W8 := hB6.trans (hB8.mono (by omega))
      have hX8 : Boxed W8 wr.heap.size 3 (.int .i64 (k : Nat)) := (hB8.block _ (by omega)).trans bX
      have hkn8 : KN n₀ og Wm W8 := hkn.trans (KN.of_below hBW (by omega))
      have hmr8 := hmr.later hBW
      have hG8 := (HHT.out W8 hkn8).2.2
      have hd8 : ∀ D ∈ ds, W8.heap[D]? = some (.deferred (some [])) := fun D hD => (hBW.block D (Array.getElem?_eq_some_iff.1 (hds D hD).2).1).trans (hds D hD).2
      obtain ⟨X, hXe⟩ : ∃ X, wr.heap.size = X := ⟨_, rfl⟩
      rw [hXe] at hX8 ⊢
      have hXW : X < W8.heap.size := by omega
      have hXo : og < X := by omega
      have hz1 : 0 < w.heap.size := hG.ga.size
      have hz2 : 2 < w.heap.size := hG.size
      clear z0 z5 z6 z7 z8 hW6 hW8 bX hmr hB6 hB8 htr hkr ht6
      refine wpIn_rangeFunc_ownH rfl (by omega) (gf := 191) (lb := #[.pointer (some ⟨X + 1, 0, none⟩)]) rfl trivial (enters_of Tryz.func191 (by kernel_rfl) rfl)
        (TS.all1_swE (fun x : Nat => #[.int .i64 (eT p x : Nat)]) (fun A B => GT A → GT B) (fun _ _ h => h) 4 (X + 1) (fun e _ he => by rw [eT, if_pos (of_decide_eq_true he)]) HSW.out W8 hG8 (by rw [← hXe]; exact hkT)) (fun h h' x => h' (h x))
        (fun W l o o' hl h hc hw hg => hg.near (belowK_b (w := W8) (Nat.le_refl _) W l o o' hl h hc hw) hG8.ga.size hG8.size) (Below.refl _ _) (fun _ => rfl)
        (fun pre W => KN n₀ og Wm W ∧ TS.MRow W og m (AF m k (pre.map (eT p))) ∧ Boxed W X 3 (.int .i64 (k : Nat)) ∧ (∀ D ∈ ds, W.heap[D]? = some (.deferred (some []))) ∧ W8.heap.size ≤ W.heap.size)
        (fun _ _ _ => False)
        ?hown (fun _ _ _ _ _ hs _ _ => hs)
        ⟨hkn8, hmr8.ext fun j hj x hx => (AF_nil m k j x).symm, hX8, hd8, Nat.le_refl _⟩
        (fun x a' _ => ∃ (y0 y4 y5 y6 y7 y8 y9 y10 y11 y12 y13 y14 y15 y16 y17 y18 y19 y20 y21 y22 y23 y24 y25 y26 y27 y28 y29 y30 y31 y32 y33 y34 y35 y36 y37 y38 y39 y40 y41 y42 y43 y44 y45 y46 y47 y48 y49 y50 y51 y52 y53 y54 y55 y56 y57 : Value), a' = { tmps := #[y0, .pointer (some ⟨w.heap.size, 0, none⟩), .pointer (some ⟨X, 0, none⟩), .int .i64 (eT p x : Nat), y4, y5, y6, y7, y8, y9, y10, y11, y12, y13, y14, y15, y16, y17, y18, y19, y20, y21, y22, y23, y24, y25, y26, y27, y28, y29, y30, y31, y32, y33, y34, y35, y36, y37, y38, y39, y40, y41, y42, y43, y44, y45, y46, y47, y48, y49, y50, y51, y52, y53, y54, y55, y56, y57], defers := [] })
        (fun _ _ _ _ _ _ hs _ _ => hs)
        ?assign ?body ?done ?stop
      case hown =>
        rintro pre A B row ⟨p1, p2, p3, p4, p5⟩ hg hr
        have hr' : ∀ r, row = some r → ∃ o : Obj, A.heap[r]? = some o ∧ o.isCells = false := fun r e => (hr r e).2
        have hbAB : Below W8.heap.size A B := (Below.refl _ _).grown hg p5 (fun k e => (hr k e).1)
        have hs8' : Wm.heap.size ≤ W8.heap.size := hkn8.1.size
        exact ⟨⟨p1.1.trans (hbAB.mono (by omega)), fun k' hk' hn => (hg.block k' (by have := p1.1.size; omega) (fun e => by have := (hr k' e.symm).1; omega)).trans (p1.2 k' hk' hn)⟩, blk_keptP p2 hg hr', blk_keptP p3 hg hr', fun D hD => (hbAB.block D (Array.getElem?_eq_some_iff.1 (hd8 D hD)).1).trans (p4 D hD), Nat.le_trans p5 hg.size⟩
      case assign =>
        rintro l pre x W K hI hK
        gi_wp2
        exact hK _ _ (KeepsFrom.refl _ _) (fun h => h) hI ⟨_, _, _, _, _, _, _, _, _, _, _, _, _, _, _, _, _, _, _, _, _, _, _, _, _, _, _, _, _, _, _, _, _, _, _, _, _, _, _, _, _, _, _, _, _, _, _, _, _, _, _, _, _, _, _, rfl⟩
      case body =>
        rintro l pre x a' W hlW ⟨rr, hrr⟩ ⟨p1, p2, p3, p4, p5⟩ hax hlen
        obtain ⟨y0, y4, y5, y6, y7, y8, y9, y10, y11, y12, y13, y14, y15, y16, y17, y18, y19, y20, y21, y22, y23, y24, y25, y26, y27, y28, y29, y30, y31, y32, y33, y34, y35, y36, y37, y38, y39, y40, y41, y42, y43, y44, y45, y46, y47, y48, y49, y50, y51, y52, y53, y54, y55, y56, y57, rfl⟩ := hax
        obtain ⟨htb, hkb, hGb⟩ := HHT.out W p1
        have nX := p3.cell
        have hmap : (pre ++ [x]).map (eT p) = pre.map (eT p) ++ [eT p x] := by rw [List.map_append]; rfl
        have hyl : eT p x < p := by unfold eT; split <;> omega
        obtain ⟨y, hy⟩ : ∃ y, eT p x = y := ⟨_, rfl⟩
        rw [hy] at hyl hmap
        rw [hy]
        have hq := shr_bit y k (by omega)
        have HMAP := Lib.hid hmap
        clear hmap
        have hpre := fun (W' : World) (hk' : KN n₀ og W W') (hm' : TS.MRow W' og m (AF m k (pre.map (eT p) ++ [y]))) (hb' : Boxed W' X 3 (.int .i64 (k : Nat))) (hd' : ∀ D ∈ ds, W'.heap[D]? = some (.deferred (some []))) (hkf : KeepsFrom W8.heap.size W W') => (⟨hkf, fun hh => hh.near hk'.1 hg1 hg2, p1.trans' hk', by rw [HMAP.out]; exact hm', hb', hd', Nat.le_trans p5 hkf.size⟩ : KeepsFrom W8.heap.size W W' ∧ (GT W → GT W') ∧ KN n₀ og Wm W' ∧ TS.MRow W' og m (AF m k ((pre ++ [x]).map (eT p))) ∧ Boxed W' X 3 (.int .i64 (k : Nat)) ∧ (∀ D ∈ ds, W'.heap[D]? = some (.deferred (some []))) ∧ W8.heap.size ≤ W'.heap.size)
        rcases hbit : y.testBit k
        · rw [hbit] at hq
          gi_wp2_with fail
          exact hpre W (KN.refl _ _ _) (p2.ext fun j hj y hy => (AF_off (pre.map (eT p)) hbit j y).symm) p3 p4 (KeepsFrom.refl _ _)
        · rw [hbit] at hq
          have HPRE := Lib.hid hpre
          have HSB := Lib.hid p2
          have hH := Lib.hid htb
          have hHk := Lib.hid hkb
          have hX3 := Lib.hid p3
          have hD4 := Lib.hid p4
          obtain ⟨a, b, c', d, hswk⟩ := sw_of (AF m k (pre.map (eT p)) k)
          have HSWK := Lib.hid hswk
          have hWl : Wm.heap.size ≤ W.heap.size := p1.1.size
          have hgs : ∀ (w3 : World) (a9 b9 c9 d9 : Nat), w3.grownBy ((((w3.setCell ⟨og, k * 4, none⟩ (.int .u64 (a9 : Nat))).setCell ⟨og, k * 4 + 1, none⟩ (.int .u64 (b9 : Nat))).setCell ⟨og, k * 4 + 2, none⟩ (.int .u64 (c9 : Nat))).setCell ⟨og, k * 4 + 3, none⟩ (.int .u64 (d9 : Nat))) (some og) := fun w3 a9 b9 c9 d9 => grown_trans (grown_trans (grown_trans (grown_set w3 og _ _) (grown_set _ og _ _)) (grown_set _ og _ _)) (grown_set _ og _ _)
          have HGS := Lib.hid hgs
          have hXl := p3.lt
          clear hswk hgs htb hkb p3 p4 hpre
          gi_wp2_with fail
          refine wpIn_mono (own9_in (tb := tb) (tbx := w.heap.size) (X := X) (og := og) (m := m) (p := k) (x := y) W HSWK.out (by omega) h0I hlI hl
            (fun w' hb => ⟨cell_of_blk (blk_lat0 hHk.out hb) 0, cell_of_blk (blk_lat0 hH.out hb) 9, (boxed_below hX3.out hb hXl).cell⟩)
            (fun w' hb => TS.MRow.cell (HSB.out.later hb) hlt HSWK.out)
            (fun w' hb => ⟨(HSB.out.later hb).frozen _, (HSB.out.later hb).frozen _, (HSB.out.later hb).frozen _, (HSB.out.later hb).frozen _⟩)
            (fun w3 e1 e2 e3 e4 hb => ⟨cell_of_blk (((HGS.out w3 e1 e2 e3 e4).block w.heap.size (by have := hb.size; omega) (fun e => by have := Option.some.inj e; omega)).trans (blk_lat0 hHk.out hb)) 0, cell_of_blk (((HGS.out w3 e1 e2 e3 e4).block tb (by have := hb.size; omega) (fun e => by have := Option.some.inj e; omega)).trans (blk_lat0 hH.out hb)) 9, Boxed.cell (((HGS.out w3 e1 e2 e3 e4).block X (by have := hb.size; omega) (fun e => by have := Option.some.inj e; omega)).trans (boxed_below hX3.out hb hXl))⟩) _ _ _ _ _ _ _ _ _ _ _ _ _ _ _ _ _ _ _ _ _ _ _ _ _ _ _ _ _ _ _ _ _ _ _ _ _ _ _ _ _ _ _ _ _ _ _ _ _ _ _ _ _ _ _) ?_
          rintro e a' W2 ⟨rfl, w3, e1, e2, e3, e4, hb3, hsw3, rfl⟩
          have hg3 := HGS.out w3 e1 e2 e3 e4
          have hz3 := hb3.size
          have hmr3 := ((HSB.out.later hb3).set hlt hsw3).1.ext (fun j hj i hi => AF_on (pre.map (eT p)) hbit j i)
          have hfin := HPRE.out _ ((KN.of_below hb3 (by omega)).trans (KN.of_grown hg3 hn2 (by omega))) hmr3 ((hg3.block X (by omega) (fun e => by have := Option.some.inj e; omega)).trans (boxed_below hX3.out hb3 hXl))
            (fun D hD => (hg3.block D (by have := (Array.getElem?_eq_some_iff.1 (hD4.out D hD)).1; omega) (fun e => by have := Option.some.inj e; have := (hds D hD).1; omega)).trans ((hb3.block D (Array.getElem?_eq_some_iff.1 (hD4.out D hD)).1).trans (hD4.out D hD)))
            (KeepsFrom.trans ⟨hb3.size, fun k o _ hk _ => (hb3.block k (Array.getElem?_eq_some_iff.1 hk).1).trans hk⟩ (KeepsFrom.of_grownBy hg3 (fun j e => by cases e; omega)))
          exact hfin
      case done =>
        rintro D ys W hD hys ⟨p1, p2, p3, p4, p5⟩ hK
        have hDs : D ∉ ds := fun hm => by have := (Array.getElem?_eq_some_iff.1 (hds D hm).2).1; omega
        have HE := Lib.hid (show marks (D :: ds) = { target := .collected D, args := #[] } :: marks ds from rfl)
        have hmp : ys.map (eT p) = elsF (fun i => decide (i < p)) 0 := by
          rw [hys]
          refine (List.map_congr_left fun i hi => ?_).trans (List.map_id _)
          have := (mem_elsF.1 hi).2
          rw [eT, if_pos (of_decide_eq_true this)]; rfl
        rw [hmp] at p2
        have P2 := Lib.hid (p2.ext fun j hj i hi => AF_done hp2 hp j i hi)
        have P1 := Lib.hid p1
        have HNd := Lib.hid (List.nodup_cons.2 ⟨hDs, hnd⟩)
        have hs8' : Wm.heap.size ≤ W8.heap.size := hkn8.1.size
        have HDS := Lib.hid (show ∀ D' ∈ D :: ds, Wm.heap.size ≤ D' ∧ W.heap[D']? = some (.deferred (some [])) from fun D' hD' => by
          rcases List.mem_cons.1 hD' with e | e
          · subst e; exact ⟨by omega, hK⟩
          · exact ⟨(hds D' e).1, p4 D' e⟩)
        clear p1 p2 p3 p4 p5 hK hds hd8 hX8 hmr8 hnd
        gi_wp2_with fail
        refine ⟨⟨_, _, _, _, _, _, _, _, _, _, _, _, _, _, _, _, _, _, _, _, _, _, _, _, _, _, _, _, _, _, _, _, _, _, _, _, _, _, _, _, _, _, _, _, _, _, _, _, _, _, _, _, _, _, _, _, _, ⟨k + 1, D :: ds, by omega, by go_num, HE.out.symm, HNd.out, HDS.out, P1.out, P2.out⟩, rfl⟩, ?_⟩
        simp [intOf]; omega
      case stop =>
        rintro D c pre W _ _ h _
        exact h.elim
    · have hke : k = m := by omega
      subst hke
      have hmr' := hmr.ext (f' := ownF k) fun j hj x hx => by simp [hj]
      have HDS := Lib.hid hds
      have HND := Lib.hid hnd
      have HMR := Lib.hid hmr'
      have HKN := Lib.hid hkn
      clear hds hnd hmr hmr' hkn htr hkr
      gi_wp2
      have hn3 : n₀ ≤ Wm.heap.size := by omega
      refine leaves_marks (I := fun W => KN n₀ og Wm W ∧ TS.MRow W og k (ownF k)) (fun W h => ?_) ds wr HND.out (fun D hD => (HDS.out D hD).2) (fun D hD W' h hD' => ⟨h.1.putObj hn3 (HDS.out D hD).1 hD', (World.putObj_heap_other (by have := (HDS.out D hD).1; omega)).trans h.2⟩) ⟨HKN.out, HMR.out⟩
      refine ⟨.tuple #[], by simp [results, Tryz.f113, go_sem], ⟨_, rfl⟩, ?_⟩
      have hgW : w.grownBy W (some tb) := ⟨h.1.1.os.trans hgw.os, h.1.1.tape.trans hgw.tape, h.1.1.output.trans hgw.output, Nat.le_trans hgw.size h.1.1.size, fun k hk hn => (h.1.2 k (by have := hgw.size; omega) (by omega)).trans (hgw.block k hk hn)⟩
      subst hm
      refine ⟨?_, hgW⟩
      refine ⟨mb, og, a9, b9, c9, d9, v, (HHT.out W h.1).1, by rw [hp2]; exact HSW.out, h.2, HT.out.map.grown hgW (fun e => HT.out.ne (Option.some.inj e).symm), HT.out.coll.grownLow hgW HT.out.h1, hl⟩
end Go.Proofs.YtndkcimajeofcaaGreatDoor

namespace Go.Proofs.YtndkcimajeofcaaGreatDoor
open Go.RowKit
attribute [local go_sem ↓] Go.wp_at_zero Go.wp_at_succ

theorem only_left {J : List MT → World → Prop} {K : World → World → Prop} {pre l : List MT} {W W' : World} {e : Ending} (h : RetVis J (fun _ _ => False) K pre l W e W') : e = .returned (.bool true) ∧ J (pre ++ l) W' ∧ K W W' := by
  rcases h with h | ⟨-, q, -, hx, -⟩
  · exact h
  · exact absurd hx id
theorem nodes_take (l : List MT) (k : Nat) (hk : k < l.length) : (l.take (k + 1)).flatMap MT.nodes = (l.take k).flatMap MT.nodes ++ l[k].nodes := by
  rw [List.take_succ_eq_append_getElem hk, List.flatMap_append]; simp

set_option maxRecDepth 100000 in
set_option maxHeartbeats 8000000 in
theorem namesIn_any {n : NM} (A : Option Addr) (l : List MT) (c : Nat) (w : World) (hok : n.ok = true) (hr : RowAt w w.heap.size 3 A l.length (l.flatMap MT.cs)) (hin : ∀ T ∈ l, T.In w.heap.size w) (hP : ∀ T ∈ l, NodeOK n T) (hl : l.length ≤ 1000000) :
    Calls Tryz.prog 107 #[.slice A l.length c] w (RetS3 (nmsF (l.flatMap MT.nodes)) w) := by
  obtain ⟨W1, hW1, hB1, hs1, hk1⟩ := newBlk w _ rfl #[.int .u64 0, .int .u64 0, .int .u64 0, .int .u64 0] 168
  obtain ⟨W2, hW2, hB2, hs2, hk2⟩ := newBlk W1 _ hs1 #[.int .u64 0, .int .u64 0, .int .u64 0, .int .u64 0] 168
  have hB : Below w.heap.size w W2 := hB1.trans (hB2.mono (by omega))
  have hk12 := (hB2.block w.heap.size (by omega)).trans hk1
  have hJ0 : JN w.heap.size (w.heap.size + 1) [] [] W2 := ⟨by omega, 0, 0, 0, 0, hk2, sw_none.ext fun i _ => rfl⟩
  have hdo := fun (T : MT) (hT : T ∈ l) (pre : List MT) (W : World) (hW : Below w.heap.size w W) (hJ : JN w.heap.size (w.heap.size + 1) [] pre W) => mvisit_any (n₀ := w.heap.size) (w0 := w) (visJN (nb := w.heap.size + 1) (L0 := [])) call_namesIn1 (namesIn1_do (n := n) [] hok) T pre W (hin T hT) (each_ok T (hP T hT)) hW hW.size hJ
  have HDO := Lib.hid hdo
  have HB := Lib.hid hB
  have HR := Lib.hid hr
  have HJ0 := Lib.hid hJ0
  have HK := Lib.hid hk12
  simp only [MT.val] at HDO
  clear hdo hB hr hin hP hJ0 hB1 hB2 hk1 hk2 hk12
  go_enter Tryz.func107, Tryz.ntmps107
  go_wp2_with fail
  go_loopw [10] (fun i wr => ∃ (k : Nat), k ≤ l.length ∧ i = .int .i64 k ∧ JN w.heap.size (w.heap.size + 1) [] ((l.take k).flatMap MT.nodes) wr ∧ KN w.heap.size (w.heap.size + 1) W2 wr) (fun i _ => l.length - (intOf i).toNat)
  case atStart => exact ⟨0, Nat.zero_le _, rfl, HJ0.out, KN.refl _ _ _⟩
  case round =>
    rename World => wr
    obtain ⟨k, hk, rfl, hJk, hkk⟩ := hrel
    have HJ := Lib.hid hJk
    have HKK := Lib.hid hkk
    clear hJk hkk
    by_cases hlt : k < l.length
    · obtain ⟨ab, aoff, rfl, -, g0, g1, g2⟩ := elem3 HR.out (HB.out.trans HKK.out.1) hlt
      obtain ⟨W3, hW3, hB3, hs3, b0, b1, b2, -⟩ := box3 wr (Value.int IntKind.i64 l[k].op) (Value.int IntKind.i64 l[k].n) (Value.slice l[k].A l[k].args.length l[k].c) 33
      have hn0 : w.heap.size ≤ wr.heap.size := (HB.out.trans HKK.out.1).size
      have hb3 := (visJN (n₀ := w.heap.size) (nb := w.heap.size + 1) (L0 := [])).box _ wr #[Value.int IntKind.i64 l[k].op, Value.int IntKind.i64 l[k].n, Value.slice l[k].A l[k].args.length l[k].c] 33 hn0 HJ.out
      rw [hW3] at hb3
      have HK3 := Lib.hid (HKK.out.trans hb3.2)
      have hcall := HDO.out l[k] (List.getElem_mem _) _ W3 (HB.out.trans HK3.out.1) hb3.1
      have h0I : (0 : Int) ≤ k := by omega
      have hlI : (k : Int) < l.length := by omega
      have HTK := Lib.hid (nodes_take l k hlt)
      clear hb3 hB3
      go_wp2_with (go_at_call 112; refine hcall.mono ?_; clear hcall; rintro e W4 hh; obtain ⟨rfl, hJ4, hk4⟩ := only_left hh; clear hh)
      go_roundw
      case rel => exact ⟨k + 1, by omega, by go_num, by rw [HTK.out]; exact hJ4, HK3.out.trans hk4⟩
      case measure => simp [intOf]; omega
    · have hkl : (l.take k) = l := List.take_of_length_le (by omega)
      have hJ := HJ.out
      rw [hkl] at hJ
      obtain ⟨-, a, b, c', d, hnb, hsw⟩ := hJ
      have HSW := Lib.hid hsw
      have hkr : wr.heap[w.heap.size]? = some (.cells #[.int .u64 0, .int .u64 0, .int .u64 0, .int .u64 0] 168) := (HKK.out.2 w.heap.size (by omega) (by omega)).trans HK.out
      obtain ⟨⟨n0, n1, n2, n3⟩, -⟩ := blkI hnb
      obtain ⟨⟨r0, r1, r2, r3⟩, f0, f1, f2, f3⟩ := blkI hkr
      obtain ⟨q1, q2⟩ := store4 hkr (.int .u64 (a : Nat)) (.int .u64 (b : Nat)) (.int .u64 (c' : Nat)) (.int .u64 (d : Nat))
      have hbw := HB.out.trans HKK.out.1
      have hbE := hbw.trans (below_grown q2 (Nat.le_refl _) hbw.size)
      clear hsw hbw hkl
      go_wp2_with fail
      generalize ((((wr.setCell ⟨w.heap.size, 0, none⟩ (.int .u64 (a : Nat))).setCell ⟨w.heap.size, 1, none⟩ (.int .u64 (b : Nat))).setCell ⟨w.heap.size, 2, none⟩ (.int .u64 (c' : Nat))).setCell ⟨w.heap.size, 3, none⟩ (.int .u64 (d : Nat))) = w10 at q1 hbE ⊢
      obtain ⟨⟨t0, t1, t2, t3⟩, -⟩ := blkI q1
      refine bodyPost_ret (v := _) (by simp [results, Tryz.f107, go_sem, t0, t1, t2, t3]) rfl ⟨a, b, c', d, rfl, HSW.out, hbE⟩
end Go.Proofs.YtndkcimajeofcaaGreatDoor
