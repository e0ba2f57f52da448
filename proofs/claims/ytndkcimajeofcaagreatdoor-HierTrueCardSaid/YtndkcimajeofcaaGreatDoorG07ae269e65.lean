import Derived.Test.YtndkcimajeofcaaGreatDoorG81a4e4e3c5
import Derived.Test.YtndkcimajeofcaaGreatDoorG7773ef2041
import Derived.Test.YtndkcimajeofcaaGreatDoorGf12c0a9800
import Derived.Test.YtndkcimajeofcaaGreatDoorGd6c0fe6da8
import Derived.Deep.DrawnRows
import Derived.Deep.QuietTactic
namespace Go.Proofs.YtndkcimajeofcaaGreatDoor
open Go.RowKit

/-- The mark of a quantified node and of its normal form, negated or not, is the same. -/
theorem mark_nnf {C R : Nat} {n : Int} {x : Tr} (hx : x.wfT C R = true) (op : Int) (h : op = 6 ∨ op = 7) (a : Bool) : markT (nnf (.mk op n [x]) a) = markT (.mk op n [x]) := by
  rcases h with rfl | rfl <;> cases a <;> simp [nnf, nnfs, dualF, markT, nnfHead, nnf_nnf C R x hx]
theorem cov_nnf (n : NM) (S : List (List UInt8)) (t : Tr) : t.wfT n.C.l.length n.R.l.length = true → ∀ a, covT n.C.l n.R.l S (nnf t a) = covT n.C.l n.R.l S t :=
  Tr.rec (motive_1 := fun t => t.wfT n.C.l.length n.R.l.length = true → ∀ a, covT n.C.l n.R.l S (nnf t a) = covT n.C.l n.R.l S t) (motive_2 := fun l => Tr.wfTs n.C.l.length n.R.l.length l = true → (∀ a, covL n.C.l n.R.l S (nnfs l a) = covL n.C.l n.R.l S l) ∧ ∀ x, l = [x] → ∀ a, covT n.C.l n.R.l S (nnf x a) = covT n.C.l n.R.l S x)
    (fun op nn args ih h a => by
      rw [Tr.wfT, Bool.and_eq_true] at h
      obtain ⟨hw, hs⟩ := h
      simp only [wfB, Bool.and_eq_true, decide_eq_true_eq, beq_iff_eq] at hw
      obtain ⟨h0, h8, hl, hn0, hn1⟩ := hw
      obtain ⟨i1, i2⟩ := ih hs
      rcases (show op = 0 ∨ op = 3 ∨ (op = 1 ∨ op = 2 ∨ op = 4 ∨ op = 5) ∨ (op = 6 ∨ op = 7) by omega) with rfl | rfl | hop | hop
      · have : args = [] := by simpa [arityF] using hl
        subst this
        cases a
        · rfl
        · simp [nnf, covT, covL, covN, markT]
      · obtain ⟨x, rfl⟩ := List.length_eq_one_iff.1 (show args.length = 1 by simp [arityF] at hl; omega)
        simp only [nnf, nnfHead, if_true]
        rw [i2 x rfl]
        simp [covT, covL, covN, markT]
      · have j1 := i1 a
        rcases hop with rfl | rfl | rfl | rfl <;> cases a <;> simp_all [nnf, dualF, covT, covN, markT]
      · obtain ⟨x, rfl⟩ := List.length_eq_one_iff.1 (show args.length = 1 by rw [arityF, if_pos (by omega)] at hl; omega)
        have hx := wfTs_mem hs x (by simp)
        have hm := mark_nnf (n := nn) hx op hop a
        have j1 := i1 a
        have hc : ∀ t : Tr, covN n.C.l n.R.l S t = match markT t with | some m => (look S (m.str n.C.l n.R.l)).isSome | none => true := fun _ => rfl
        have e1 : covN n.C.l n.R.l S (nnf (.mk op nn [x]) a) = covN n.C.l n.R.l S (.mk op nn [x]) := by rw [hc, hc, hm]
        have e2 : ∃ op', nnf (.mk op nn [x]) a = .mk op' nn (nnfs [x] a) := by rcases hop with rfl | rfl <;> cases a <;> exact ⟨_, rfl⟩
        obtain ⟨op', e2⟩ := e2
        rw [e2] at e1 ⊢
        rw [covT, covT, e1, j1])
    (fun _ => ⟨fun _ => rfl, fun x h => by cases h⟩)
    (fun t ts h1 h2 h => by
      rw [Tr.wfTs, Bool.and_eq_true] at h
      refine ⟨fun a => ?_, fun x hx => ?_⟩
      · rw [nnfs, covL, covL, h1 h.1, (h2 h.2).1]
      · cases hx
        exact h1 h.1) t
/-- A concept's normal form is true in the same types, that of its negation in the others. -/
theorem tru_nnf (n : NM) (S : List (List UInt8)) (m : Nat) (y : Nat) (hy : y < 2 ^ m) (t : Tr) : t.wfT n.C.l.length n.R.l.length = true → ∀ a, truT n.C.l n.R.l S m (nnf t a) y = (truT n.C.l n.R.l S m t y ^^ a) :=
  Tr.rec (motive_1 := fun t => t.wfT n.C.l.length n.R.l.length = true → ∀ a, truT n.C.l n.R.l S m (nnf t a) y = (truT n.C.l n.R.l S m t y ^^ a)) (motive_2 := fun l => Tr.wfTs n.C.l.length n.R.l.length l = true → ∀ x ∈ l, ∀ a, truT n.C.l n.R.l S m (nnf x a) y = (truT n.C.l n.R.l S m x y ^^ a))
    (fun op nn args ih h a => by
      rw [Tr.wfT, Bool.and_eq_true] at h
      obtain ⟨hw, hs⟩ := h
      simp only [wfB, Bool.and_eq_true, decide_eq_true_eq, beq_iff_eq] at hw
      obtain ⟨h0, h8, hl, hn0, hn1⟩ := hw
      have i2 := ih hs
      rcases (show op = 0 ∨ op = 3 ∨ (op = 1 ∨ op = 2) ∨ (op = 4 ∨ op = 5) ∨ (op = 6 ∨ op = 7) by omega) with rfl | rfl | hop | hop | hop
      · have : args = [] := by simpa [arityF] using hl
        subst this
        cases a
        · simp [nnf, nnfs]
        · simp [nnf, truT, truL, truN, hy]
      · obtain ⟨x, rfl⟩ := List.length_eq_one_iff.1 (show args.length = 1 by simp [arityF] at hl; omega)
        simp only [nnf, nnfHead, if_true]
        rw [i2 x (by simp)]
        cases a <;> simp [truT, truL, truN, hy]
      · have : args = [] := by rcases hop with rfl | rfl <;> simpa [arityF] using hl
        subst this
        rcases hop with rfl | rfl <;> cases a <;> simp [nnf, nnfs, dualF, truT, truN, hy]
      · have h2 : args.length = 2 := by rcases hop with rfl | rfl <;> (simp [arityF] at hl; omega)
        obtain ⟨u, v, rfl⟩ : ∃ u v, args = [u, v] := by match args, h2 with | [u, v], _ => exact ⟨u, v, rfl⟩
        have e1 := i2 u (by simp) a
        have e2 := i2 v (by simp) a
        rcases hop with rfl | rfl <;> cases a <;> simp [nnf, nnfs, dualF, truT, truL, truN, e1, e2]
      · obtain ⟨x, rfl⟩ := List.length_eq_one_iff.1 (show args.length = 1 by rw [arityF, if_pos (by omega)] at hl; omega)
        have hx := wfTs_mem hs x (by simp)
        have hm := mark_nnf (n := nn) hx op hop a
        have hc : ∀ t : Tr, markS n.C.l n.R.l t = match markT t with | some m => m.str n.C.l n.R.l | none => [] := fun _ => rfl
        have e1 : markS n.C.l n.R.l (nnf (.mk op nn [x]) a) = markS n.C.l n.R.l (.mk op nn [x]) := by rw [hc, hc, hm]
        rcases hop with rfl | rfl <;> cases a <;> simp [nnf, dualF] at e1 ⊢ <;> rw [truT, truT, e1] <;> simp [truN, hy])
    (fun _ x hx => by cases hx)
    (fun t ts h1 h2 h x hx => by
      rw [Tr.wfTs, Bool.and_eq_true] at h
      rcases List.mem_cons.1 hx with rfl | hx
      · exact h1 h.1
      · exact h2 h.2 x hx) t
end Go.Proofs.YtndkcimajeofcaaGreatDoor

namespace Go.Proofs.YtndkcimajeofcaaGreatDoor
open Go.RowKit
attribute [local go_sem ↓] Go.wp_at_zero Go.wp_at_succ

set_option maxRecDepth 100000 in
set_option maxHeartbeats 2000000 in
theorem rAxioms_any (b : BN) (w : World) (hI : b.I.length ≤ 1000000) (hR : b.R.l.length ≤ 1000000) (hF : b.F.length ≤ 1000000) (hL : b.L.l.length ≤ 1000000) : Calls Tryz.prog 51 #[b.val] w fun e w' => e = .returned (.int .i64 (b.I.length + b.R.l.length + b.F.length + b.L.l.length : Nat)) ∧ Below w.heap.size w w' := by
  obtain ⟨W1, hW1, hB1, hs1, hk1⟩ := newBlk w _ rfl #[.slice b.N.C.A b.N.C.l.length b.N.C.c, .slice b.N.R.A b.N.R.l.length b.N.R.c, .slice b.N.I.A b.N.I.l.length b.N.I.c, .slice b.IA b.I.length b.ic, .slice b.R.A b.R.l.length b.R.c, .slice b.FA b.F.length b.fc, .slice b.L.A b.L.l.length b.L.c] 30
  obtain ⟨c0, c1, c2, c3, c4, c5, c6⟩ := bbox_of (b := b) hk1
  simp only [BN.val]
  have HBL := Lib.hid hB1
  clear hB1 hk1
  go_enter Tryz.func51, Tryz.ntmps51
  go_wp2_with fail
  go_ret
  exact ⟨by simp, HBL.out⟩
end Go.Proofs.YtndkcimajeofcaaGreatDoor

namespace Go.Proofs.YtndkcimajeofcaaGreatDoor
open Go.RowKit
attribute [local go_sem ↓] Go.wp_at_zero Go.wp_at_succ

set_option maxRecDepth 100000 in
set_option maxHeartbeats 1000000 in
theorem rInd_any (n : NM) (r : Int) (w : World) : Calls Tryz.prog 53 #[n.val, .int .i64 r] w fun e w' => e = .returned (.bool (decide (0 ≤ r) && decide (r < (n.I.l.length : Int)))) ∧ Below w.heap.size w w' := by
  obtain ⟨W1, hW1, hB1, hs1, hk1⟩ := newBlk w _ rfl #[.slice n.C.A n.C.l.length n.C.c, .slice n.R.A n.R.l.length n.R.c, .slice n.I.A n.I.l.length n.I.c] 24
  have a0 := cell_of_blk hk1 0
  have a1 := cell_of_blk hk1 1
  have a2 := cell_of_blk hk1 2
  simp only [List.getElem?_toArray, List.getElem?_cons_zero, List.getElem?_cons_succ] at a0 a1 a2
  have HB := Lib.hid hB1
  simp only [NM.val]
  clear hB1 hk1
  by_cases h0 : 0 ≤ r
  · have q0 : decide (0 ≤ r) = true := decide_eq_true h0
    go_enter Tryz.func53, Tryz.ntmps53
    go_wp2_with fail
    go_ret
    exact ⟨by rw [q0]; simp, HB.out⟩
  · have hff : (decide (0 ≤ r) && decide (r < (n.I.l.length : Int))) = false := by rw [decide_eq_false h0]; rfl
    rw [hff]
    have q0 : decide (0 ≤ r) = false := decide_eq_false h0
    go_enter Tryz.func53, Tryz.ntmps53
    go_wp2_with fail
    go_ret
    exact ⟨rfl, HB.out⟩

def inBd (n x : Int) : Bool := decide (0 ≤ x) && decide (x < n)
theorem inBd_eq (n x : Int) : inBd n x = !foreignB n x := by
  unfold inBd foreignB
  by_cases h : 0 ≤ x <;> by_cases h2 : x < n
  · rw [decide_eq_true h, decide_eq_true h2, decide_eq_false (by omega), decide_eq_false (by omega)]; rfl
  · rw [decide_eq_true h, decide_eq_false h2, decide_eq_false (by omega), decide_eq_true (by omega)]; rfl
  · rw [decide_eq_false h, decide_eq_true (show x < 0 by omega)]; rfl
  · rw [decide_eq_false h, decide_eq_true (show x < 0 by omega)]; rfl
theorem okC_valid {b : BN} (hok : b.N.ok = true) (T : MT) : okC b T = validT b.N.C.l.length b.N.R.l.length T.tr := by
  rw [okC, checkF, if_pos hok, validB_eq]
  cases validT b.N.C.l.length b.N.R.l.length T.tr <;> rfl

set_option maxRecDepth 100000 in
set_option maxHeartbeats 16000000 in
/-- The reference's Is of a knowledge base. -/
theorem bIs_any (b : BN) (w : World) (hb : b.In w.heap.size w) (hI : b.I.length ≤ 1000) (hR : b.R.l.length ≤ 1000) (hF : b.F.length ≤ 1000) (hL : b.L.l.length ≤ 1000) (hN : b.N.C.l.length ≤ 1000 ∧ b.N.R.l.length ≤ 1000 ∧ b.N.I.l.length ≤ 1000) (hsz : ∀ T ∈ b.cons, T.tr.size ≤ 1000000) :
    Calls Tryz.prog 12 #[b.val] w fun e w' => e = .returned (.bool (kcheckB b)) ∧ Below w.heap.size w w' := by
  obtain ⟨W1, hW1, hB1, hs1, hk1⟩ := newBlk w _ rfl #[.slice b.N.C.A b.N.C.l.length b.N.C.c, .slice b.N.R.A b.N.R.l.length b.N.R.c, .slice b.N.I.A b.N.I.l.length b.N.I.c, .slice b.IA b.I.length b.ic, .slice b.R.A b.R.l.length b.R.c, .slice b.FA b.F.length b.fc, .slice b.L.A b.L.l.length b.L.c] 30
  have hbb := fun w' (h : Below W1.heap.size W1 w') => bbox_of (b := b) (blk_lat hk1 h)
  have hna := fun w' (h : Below W1.heap.size W1 w') => rNames_any b.N w' ((hb.n.later hB1).later h) hN
  have hco := fun w' => rAxioms_any b w' (by omega) (by omega) (by omega) (by omega)
  have hpa := fun w' (h : Below W1.heap.size W1 w') => rConcepts_any b w' ((hb.later hB1).later h) hI hF
  have hin := fun T hT w' (h : Below W1.heap.size W1 w') => ((cons_in hb T hT).later hB1).later h
  have hck := fun T hT w' (h : Below W1.heap.size W1 w') => IsD_any b.N T w' ((hb.n.later hB1).later h) (hin T hT w' h) (hsz T hT) hN.1 hN.2.1
  have hcs := fun T hT w' (h : Below W1.heap.size W1 w') => rSize_any T w' (hin T hT w' h) (hsz T hT)
  have hro := fun r w' => rRole_any b.N r w' hN.2.1
  have hid := fun r w' => rInd_any b.N r w'
  have hll := cons_len b
  have hlt : b.cons.length ≤ 3000 := by omega
  have htl := totS_le hsz
  obtain ⟨c0, c1, c2, c3, c4, c5, c6⟩ := hbb W1 (Below.refl _ _)
  have hkB : kcheckB b = (b.N.ok && (decide (b.I.length + b.R.l.length + b.F.length + b.L.l.length ≤ 60) && (numsB b && (b.cons.all (okC b) && decide (totS b.cons b.cons.length ≤ 400))))) := rfl
  have hokc := fun h T => okC_valid (b := b) h T
  have HBI := Lib.hid (show ∀ w', Below W1.heap.size W1 w' → b.In w'.heap.size w' from fun w' h => (hb.later hB1).later h)
  obtain ⟨ct, hct⟩ : ∃ ct, b.I.length + b.R.l.length + b.F.length + b.L.l.length = ct := ⟨_, rfl⟩
  obtain ⟨o1, ho1⟩ : ∃ x, b.N.ok = x := ⟨_, rfl⟩
  rw [hct, ho1] at hkB
  rw [ho1] at hna hokc
  rw [hct] at hco
  have hctl : ct ≤ 4000 := by omega
  have hrl : 2 * (b.N.R.l.length : Int) ≤ 2000 := by omega
  have hRl : b.R.l.length ≤ 1000 := hR
  have HKB := Lib.hid hkB
  have HNA := Lib.hid hna
  have HCO := Lib.hid hco
  have HPA := Lib.hid hpa
  have HCK := Lib.hid hck
  have HCS := Lib.hid hcs
  have HRO := Lib.hid hro
  have HID := Lib.hid hid
  have HTL := Lib.hid htl
  have HSZ := Lib.hid hsz
  have HOKC := Lib.hid hokc
  have HBL := Lib.hid hB1
  have HBB := Lib.hid hbb
  simp only [NM.val, BN.val, MT.val] at HNA HCO HPA HCK HCS HRO HID ⊢
  clear hb hN hsz hB1 hk1 hbb hna hco hpa hin hck hcs hro hid hct ho1 hll htl hkB hokc
  cases o1
  · go_enter Tryz.func12, Tryz.ntmps12
    go_wp2_with (go_at_call 50; refine (HNA.out W1 (Below.refl _ _)).mono ?_; rintro e w2 ⟨rfl, hb2⟩)
    go_ret
    exact ⟨by rw [HKB.out]; rfl, HBL.out.trans (hb2.mono HBL.out.size)⟩
  · by_cases hc : ct ≤ 60
    · have q1 : decide ((60 : Int) < (ct : Int)) = false := decide_eq_false (by omega)
      rw [decide_eq_true hc] at HKB
      go_enter Tryz.func12, Tryz.ntmps12
      go_wp2_with (first
        | (go_at_call 47; refine (HPA.out w3 hb3).mono ?_; rintro e w4 ⟨v, rfl, hop, hb4'⟩; have hb4 : Below W1.heap.size W1 w4 := hb3.trans (hb4'.mono hb3.size); obtain ⟨A2, k2, hv2, hn2, hc2, hrow⟩ := row_of_owns hop; subst hv2; have HRW := Lib.hid hrow; clear hop hrow)
        | (go_at_call 51; refine (HCO.out w2).mono ?_; rintro e w3 ⟨rfl, hb3'⟩; have hb3 : Below W1.heap.size W1 w3 := hb2.trans (hb3'.mono hb2.size); obtain ⟨e0, e1, e2, e3, e4, e5, e6⟩ := HBB.out w3 hb3)
        | (go_at_call 50; refine (HNA.out W1 (Below.refl _ _)).mono ?_; rintro e w2 ⟨rfl, hb2⟩; obtain ⟨d0, d1, d2, d3, d4, d5, d6⟩ := HBB.out w2 hb2))
      clear c0 c1 c2 c3 c4 c5 c6 d0 d1 d2 d3 d4 d5 d6 e0 e1 e2 e3 e4 e5 e6
      have HCO2 := Lib.hid hb4
      obtain ⟨l, hl⟩ : ∃ l, b.cons = l := ⟨_, rfl⟩
      have hokd := fun T => (by first | exact HOKC.out trivial T | exact HOKC.out rfl T : okC b T = validT b.N.C.l.length b.N.R.l.length T.tr)
      have HOKD := Lib.hid hokd
      rw [hl] at HKB HCK HCS HTL HSZ HRW
      rw [hl] at hlt
      simp only [hl]
      clear hl hokd HOKC
      go_loopw [3, 26] (fun t i' wr => ∃ k : Nat, k ≤ l.length ∧ i' = .int .i64 (k : Nat) ∧ t = .int .i64 (totS l k : Nat) ∧ (∀ j (hj : j < l.length), j < k → okC b l[j] = true) ∧ Below w4.heap.size w4 wr) (fun _ i' _ => l.length - (intOf i').toNat)
      case atStart => exact ⟨0, Nat.zero_le _, rfl, rfl, fun j _ h => absurd h (by omega), Below.refl _ _⟩
      case round =>
        rename World => wr
        obtain ⟨k, hk, rfl, rfl, hall, hbw⟩ := hrel
        have HA := Lib.hid hall
        clear hall
        have htk := HTL.out k hk
        have htk2 : totS l k ≤ 3000000000 := by omega
        clear htk
        by_cases hltk : k < l.length
        · obtain ⟨g, off, hA, hg, e0, e1, e2⟩ := elem3 (HRW.out.below (Nat.le_refl _) hbw) (Below.refl _ _) hltk
          have h0K : (0 : Int) ≤ k := by omega
          have hlK : (k : Int) < l.length := by omega
          have HTN := Lib.hid (totS_next hltk)
          have hz1 : l[k].tr.size ≤ 1000000 := HSZ.out _ (List.getElem_mem hltk)
          obtain ⟨Wa, hWa, hBa, hsa, hka⟩ := newBlk wr _ rfl #[.int .i64 l[k].op, .int .i64 l[k].n, .slice l[k].A l[k].args.length l[k].c] 33
          have h1a : Below W1.heap.size W1 Wa := HCO2.out.trans ((hbw.trans (hBa.mono hbw.size)).mono HCO2.out.size)
          have h2a : Below w4.heap.size w4 Wa := hbw.trans (hBa.mono hbw.size)
          obtain ⟨c0, c1, c2, c3, c4, c5, c6⟩ := HBB.out Wa h1a
          have HCa := Lib.hid (fun w' (h : Below Wa.heap.size Wa w') => box_cells hka h)
          have hck := HCK.out l[k] (List.getElem_mem hltk) Wa h1a
          have hcs := fun w' (h : Below Wa.heap.size Wa w') => HCS.out l[k] (List.getElem_mem hltk) w' (h1a.trans (h.mono h1a.size))
          obtain ⟨d0, d1, d2⟩ := HCa.out Wa (Below.refl _ _)
          have hokk := HOKD.out l[k]
          obtain ⟨ok, hok⟩ : ∃ x, okC b l[k] = x := ⟨_, rfl⟩
          have HOK := Lib.hid hok
          rw [hok] at hokk
          rw [← hokk] at hck
          have HCKk := Lib.hid hck
          have HCSk := Lib.hid hcs
          have H2A := Lib.hid h2a
          have HSA := Lib.hid hsa
          rw [hA]
          clear hck hcs hok hbw hBa hka hsa hA h2a h1a hokk
          generalize l[k] = T at e0 e1 e2 hWa HTN hz1 HCKk HCSk HCa d0 d1 d2
          cases ok
          · go_wp2_with (go_at_call 52; refine HCKk.out.mono ?_; rintro e w5 ⟨rfl, hb5⟩)
            go_ret
            exact ⟨by rw [HKB.out, all_no hltk HOK.out]; simp, HBL.out.trans ((HCO2.out.trans ((H2A.out.trans (hb5.mono H2A.out.size)).mono HCO2.out.size)).mono HBL.out.size)⟩
          · go_wp2_with (first
              | (go_at_call 49; refine (HCSk.out w5 hb5).mono ?_; rintro e w6 ⟨rfl, hb6⟩)
              | (go_at_call 52; refine HCKk.out.mono ?_; rintro e w5 ⟨rfl, hb5⟩; obtain ⟨f0, f1, f2⟩ := HCa.out w5 hb5))
            go_roundw
            case rel => exact ⟨k + 1, by omega, by go_num, by rw [HTN.out]; go_num, all_more hltk HOK.out HA.out, H2A.out.trans ((hb5.trans (hb6.mono hb5.size)).mono H2A.out.size)⟩
            case measure => simp [intOf]; omega
        · have hke : k = l.length := by omega
          have HFA := Lib.hid (all_yes (f := okC b) (l := l) fun j hj => HA.out j hj (by omega))
          subst hke
          have hb1r : Below W1.heap.size W1 wr := HCO2.out.trans (hbw.mono HCO2.out.size)
          obtain ⟨c0, c1, c2, c3, c4, c5, c6⟩ := HBB.out wr hb1r
          have HBW := Lib.hid hb1r
          rw [HFA.out, Bool.true_and] at HKB
          obtain ⟨tt, htt⟩ : ∃ tt, totS l l.length = tt := ⟨_, rfl⟩
          rw [htt] at HKB htk2
          simp only [htt]
          clear hbw HA htt hb1r
          go_wp2_with fail
          clear c0 c1 c2 c3 c4 c5 c6
          go_loopw [47] (fun i' wr => ∃ k : Nat, k ≤ b.R.l.length ∧ i' = .int .i64 (k : Nat) ∧ (∀ j (hj : j < b.R.l.length), j < k → roleOk b b.R.l[j] = true) ∧ Below W1.heap.size W1 wr) (fun i' _ => b.R.l.length - (intOf i').toNat)
          case atStart => exact ⟨0, Nat.zero_le _, rfl, fun j _ h => absurd h (by omega), HBW.out⟩
          case round =>
            rename World => wr
            obtain ⟨k, hk, rfl, hall, hbw⟩ := hrel
            have HA := Lib.hid hall
            clear hall
            by_cases hltk : k < b.R.l.length
            · obtain ⟨g, off, hA, hg, e0, e1⟩ := (HBI.out wr hbw).role hltk
              have h0K : (0 : Int) ≤ k := by omega
              have hlK : (k : Int) < b.R.l.length := by omega
              obtain ⟨o1, ho1⟩ : ∃ x, (decide (0 ≤ b.R.l[k].1) && decide (b.R.l[k].1 < 2 * (b.N.R.l.length : Int))) = x := ⟨_, rfl⟩
              obtain ⟨o2, ho2⟩ : ∃ x, (decide (0 ≤ b.R.l[k].2) && decide (b.R.l[k].2 < 2 * (b.N.R.l.length : Int))) = x := ⟨_, rfl⟩
              have HOK := Lib.hid (show roleOk b b.R.l[k] = (o1 && o2) by rw [roleOk, Bool.not_or, ← inBd_eq, ← inBd_eq, inBd, inBd, ho1, ho2])
              obtain ⟨Wa, hWa, hBa, hsa, hka⟩ := newBlk wr _ rfl #[.int .i64 b.R.l[k].1, .int .i64 b.R.l[k].2] 94
              have hwa : Below W1.heap.size W1 Wa := hbw.trans (hBa.mono hbw.size)
              have h1 := HRO.out b.R.l[k].1 Wa
              have h2 := fun w' => HRO.out b.R.l[k].2 w'
              rw [ho1] at h1
              rw [ho2] at h2
              have H1 := Lib.hid h1
              have H2 := Lib.hid h2
              have HCa := Lib.hid (show ∀ w', Below Wa.heap.size Wa w' → w'.cell? ⟨wr.heap.size, 0, none⟩ = some (.int .i64 b.R.l[k].1) ∧ w'.cell? ⟨wr.heap.size, 1, none⟩ = some (.int .i64 b.R.l[k].2) from fun w' h => ⟨cell_of_blk (blk_lat hka h) 0, cell_of_blk (blk_lat hka h) 1⟩)
              obtain ⟨d0, d1⟩ := HCa.out Wa (Below.refl _ _)
              obtain ⟨c0, c1, c2, c3, c4, c5, c6⟩ := HBB.out Wa hwa
              have HWA := Lib.hid hwa
              have HSA := Lib.hid hsa
              rw [hA]
              clear hbw hBa hka hsa hA h1 h2 ho1 ho2 hwa
              generalize b.R.l[k].1 = x at e0 d0 hWa H1 HCa
              generalize b.R.l[k].2 = y at e1 d1 hWa H2 HCa
              cases o1
              · go_wp2_with (go_at_call 25; refine H1.out.mono ?_; rintro e w6 ⟨rfl, hb6⟩)
                go_ret
                exact ⟨by rw [HKB.out, numsB, all_no hltk HOK.out]; simp, HBL.out.trans ((HWA.out.trans (hb6.mono HWA.out.size)).mono HBL.out.size)⟩
              · cases o2
                · go_wp2_with (first
                    | (go_at_call 25; have _k := tok1; refine (H2.out w6).mono ?_; rintro e w7 ⟨rfl, hb7⟩)
                    | (go_at_call 25; refine H1.out.mono ?_; rintro e w6 ⟨rfl, hb6⟩; obtain ⟨f0, f1⟩ := HCa.out w6 hb6; obtain ⟨g0, g1, g2, g3, g4, g5, g6⟩ := HBB.out w6 (HWA.out.trans (hb6.mono HWA.out.size)); have tok1 : True := trivial))
                  go_ret
                  exact ⟨by rw [HKB.out, numsB, all_no hltk HOK.out]; simp, HBL.out.trans ((HWA.out.trans ((hb6.trans (hb7.mono hb6.size)).mono HWA.out.size)).mono HBL.out.size)⟩
                · go_wp2_with (first
                    | (go_at_call 25; have _k := tok1; refine (H2.out w6).mono ?_; rintro e w7 ⟨rfl, hb7⟩)
                    | (go_at_call 25; refine H1.out.mono ?_; rintro e w6 ⟨rfl, hb6⟩; obtain ⟨f0, f1⟩ := HCa.out w6 hb6; obtain ⟨g0, g1, g2, g3, g4, g5, g6⟩ := HBB.out w6 (HWA.out.trans (hb6.mono HWA.out.size)); have tok1 : True := trivial))
                  go_roundw
                  case rel => exact ⟨k + 1, by omega, by go_num, all_more hltk HOK.out HA.out, HWA.out.trans ((hb6.trans (hb7.mono hb6.size)).mono HWA.out.size)⟩
                  case measure => simp [intOf]; omega
            · have HRA := Lib.hid (all_yes (f := roleOk b) (l := b.R.l) fun j hj => HA.out j hj (by omega))
              obtain ⟨c0, c1, c2, c3, c4, c5, c6⟩ := HBB.out wr hbw
              have HBW2 := Lib.hid hbw
              clear hbw HA
              go_wp2_with fail
              clear c0 c1 c2 c3 c4 c5 c6
              go_loopw [69] (fun i' wr => ∃ k : Nat, k ≤ b.F.length ∧ i' = .int .i64 (k : Nat) ∧ (∀ j (hj : j < b.F.length), j < k → factOk b b.F[j] = true) ∧ Below W1.heap.size W1 wr) (fun i' _ => b.F.length - (intOf i').toNat)
              case atStart => exact ⟨0, Nat.zero_le _, rfl, fun j _ h => absurd h (by omega), HBW2.out⟩
              case round =>
                rename World => wr
                obtain ⟨k, hk, rfl, hall, hbw⟩ := hrel
                have HA := Lib.hid hall
                clear hall
                by_cases hltk : k < b.F.length
                · obtain ⟨g, off, hA, hg, e0, e1, e2, e3⟩ := (HBI.out wr hbw).fact hltk
                  have h0K : (0 : Int) ≤ k := by omega
                  have hlK : (k : Int) < b.F.length := by omega
                  obtain ⟨o1, ho1⟩ : ∃ x, (decide (0 ≤ b.F[k].1) && decide (b.F[k].1 < (b.N.I.l.length : Int))) = x := ⟨_, rfl⟩
                  have HOK := Lib.hid (show factOk b b.F[k] = o1 by rw [factOk, ← inBd_eq, inBd, ho1])
                  obtain ⟨Wa, hWa, hBa, hsa, hka⟩ := newBlk wr _ rfl #[.int .i64 b.F[k].1, .int .i64 b.F[k].2.op, .int .i64 b.F[k].2.n, .slice b.F[k].2.A b.F[k].2.args.length b.F[k].2.c] 96
                  have hwa : Below W1.heap.size W1 Wa := hbw.trans (hBa.mono hbw.size)
                  have h1 := HID.out b.F[k].1 Wa
                  rw [ho1] at h1
                  have H1 := Lib.hid h1
                  have d0 := cell_of_blk hka 0
                  simp only [List.getElem?_toArray, List.getElem?_cons_zero] at d0
                  obtain ⟨c0, c1, c2, c3, c4, c5, c6⟩ := HBB.out Wa hwa
                  have HWA := Lib.hid hwa
                  have HSA := Lib.hid hsa
                  rw [hA]
                  clear hbw hBa hka hsa hA h1 ho1 hwa
                  generalize b.F[k].1 = x at e0 d0 hWa H1
                  generalize b.F[k].2 = y at e1 e2 e3 hWa
                  cases o1
                  · go_wp2_with (go_at_call 53; refine H1.out.mono ?_; rintro e w6 ⟨rfl, hb6⟩)
                    go_ret
                    exact ⟨by rw [HKB.out, numsB, HRA.out, all_no hltk HOK.out]; simp, HBL.out.trans ((HWA.out.trans (hb6.mono HWA.out.size)).mono HBL.out.size)⟩
                  · go_wp2_with (go_at_call 53; refine H1.out.mono ?_; rintro e w6 ⟨rfl, hb6⟩)
                    go_roundw
                    case rel => exact ⟨k + 1, by omega, by go_num, all_more hltk HOK.out HA.out, HWA.out.trans (hb6.mono HWA.out.size)⟩
                    case measure => simp [intOf]; omega
                · have HFB := Lib.hid (all_yes (f := factOk b) (l := b.F) fun j hj => HA.out j hj (by omega))
                  obtain ⟨c0, c1, c2, c3, c4, c5, c6⟩ := HBB.out wr hbw
                  have HBW3 := Lib.hid hbw
                  clear hbw HA
                  go_wp2_with fail
                  clear c0 c1 c2 c3 c4 c5 c6
                  go_loopw [83] (fun i' wr => ∃ k : Nat, k ≤ b.L.l.length ∧ i' = .int .i64 (k : Nat) ∧ (∀ j (hj : j < b.L.l.length), j < k → linkOk b b.L.l[j] = true) ∧ Below W1.heap.size W1 wr) (fun i' _ => b.L.l.length - (intOf i').toNat)
                  case atStart => exact ⟨0, Nat.zero_le _, rfl, fun j _ h => absurd h (by omega), HBW3.out⟩
                  case round =>
                    rename World => wr
                    obtain ⟨k, hk, rfl, hall, hbw⟩ := hrel
                    have HA := Lib.hid hall
                    clear hall
                    by_cases hltk : k < b.L.l.length
                    · obtain ⟨g, off, hA, hg, e0, e1, e2⟩ := (HBI.out wr hbw).link hltk
                      have h0K : (0 : Int) ≤ k := by omega
                      have hlK : (k : Int) < b.L.l.length := by omega
                      obtain ⟨p1, hp1⟩ : ∃ x, decide (b.L.l[k].1 < 0) = x := ⟨_, rfl⟩
                      obtain ⟨p2, hp2⟩ : ∃ x, decide ((b.N.R.l.length : Int) ≤ b.L.l[k].1) = x := ⟨_, rfl⟩
                      obtain ⟨o1, ho1⟩ : ∃ x, (decide (0 ≤ b.L.l[k].2.1) && decide (b.L.l[k].2.1 < (b.N.I.l.length : Int))) = x := ⟨_, rfl⟩
                      obtain ⟨o2, ho2⟩ : ∃ x, (decide (0 ≤ b.L.l[k].2.2) && decide (b.L.l[k].2.2 < (b.N.I.l.length : Int))) = x := ⟨_, rfl⟩
                      have HOK := Lib.hid (show linkOk b b.L.l[k] = (!(p1 || p2) && (o1 && o2)) by rw [linkOk, Bool.not_or (foreignB _ b.L.l[k].2.1), ← inBd_eq _ b.L.l[k].2.1, ← inBd_eq _ b.L.l[k].2.2, inBd, inBd, ho1, ho2, foreignB, hp1, hp2])
                      obtain ⟨Wa, hWa, hBa, hsa, hka⟩ := newBlk wr _ rfl #[.int .i64 b.L.l[k].1, .int .i64 b.L.l[k].2.1, .int .i64 b.L.l[k].2.2] 98
                      have hwa : Below W1.heap.size W1 Wa := hbw.trans (hBa.mono hbw.size)
                      have h1 := HID.out b.L.l[k].2.1 Wa
                      have h2 := fun w' => HID.out b.L.l[k].2.2 w'
                      rw [ho1] at h1
                      rw [ho2] at h2
                      have H1 := Lib.hid h1
                      have H2 := Lib.hid h2
                      have HCa := Lib.hid (show ∀ w', Below Wa.heap.size Wa w' → w'.cell? ⟨wr.heap.size, 0, none⟩ = some (.int .i64 b.L.l[k].1) ∧ w'.cell? ⟨wr.heap.size, 1, none⟩ = some (.int .i64 b.L.l[k].2.1) ∧ w'.cell? ⟨wr.heap.size, 2, none⟩ = some (.int .i64 b.L.l[k].2.2) from fun w' h => ⟨cell_of_blk (blk_lat hka h) 0, cell_of_blk (blk_lat hka h) 1, cell_of_blk (blk_lat hka h) 2⟩)
                      obtain ⟨d0, d1, d2⟩ := HCa.out Wa (Below.refl _ _)
                      obtain ⟨c0, c1, c2, c3, c4, c5, c6⟩ := HBB.out Wa hwa
                      have HWA := Lib.hid hwa
                      have HSA := Lib.hid hsa
                      rw [hA]
                      clear hbw hBa hka hsa hA h1 h2 ho1 ho2 hwa
                      generalize b.L.l[k].1 = x at e0 d0 hWa HCa hp1 hp2
                      generalize b.L.l[k].2.1 = y at e1 d1 hWa H1 HCa
                      generalize b.L.l[k].2.2 = z at e2 d2 hWa H2 HCa
                      cases p1
                      · cases p2
                        · cases o1
                          · go_wp2_with (go_at_call 53; refine H1.out.mono ?_; rintro e w6 ⟨rfl, hb6⟩)
                            go_ret
                            exact ⟨by rw [HKB.out, numsB, HRA.out, HFB.out, all_no hltk HOK.out]; simp, HBL.out.trans ((HWA.out.trans (hb6.mono HWA.out.size)).mono HBL.out.size)⟩
                          · cases o2
                            · go_wp2_with (first
                                | (go_at_call 53; have _k := tok1; refine (H2.out w6).mono ?_; rintro e w7 ⟨rfl, hb7⟩)
                                | (go_at_call 53; refine H1.out.mono ?_; rintro e w6 ⟨rfl, hb6⟩; obtain ⟨f0, f1, f2⟩ := HCa.out w6 hb6; obtain ⟨g0, g1, g2, g3, g4, g5, g6⟩ := HBB.out w6 (HWA.out.trans (hb6.mono HWA.out.size)); have tok1 : True := trivial))
                              go_ret
                              exact ⟨by rw [HKB.out, numsB, HRA.out, HFB.out, all_no hltk HOK.out]; simp, HBL.out.trans ((HWA.out.trans ((hb6.trans (hb7.mono hb6.size)).mono HWA.out.size)).mono HBL.out.size)⟩
                            · go_wp2_with (first
                                | (go_at_call 53; have _k := tok1; refine (H2.out w6).mono ?_; rintro e w7 ⟨rfl, hb7⟩)
                                | (go_at_call 53; refine H1.out.mono ?_; rintro e w6 ⟨rfl, hb6⟩; obtain ⟨f0, f1, f2⟩ := HCa.out w6 hb6; obtain ⟨g0, g1, g2, g3, g4, g5, g6⟩ := HBB.out w6 (HWA.out.trans (hb6.mono HWA.out.size)); have tok1 : True := trivial))
                              go_roundw
                              case rel => exact ⟨k + 1, by omega, by go_num, all_more hltk HOK.out HA.out, HWA.out.trans ((hb6.trans (hb7.mono hb6.size)).mono HWA.out.size)⟩
                              case measure => simp [intOf]; omega
                        · go_wp2_with fail
                          go_ret
                          exact ⟨by rw [HKB.out, numsB, HRA.out, HFB.out, all_no hltk HOK.out]; simp, HBL.out.trans (HWA.out.mono HBL.out.size)⟩
                      · go_wp2_with fail
                        go_ret
                        exact ⟨by rw [HKB.out, numsB, HRA.out, HFB.out, all_no hltk HOK.out]; simp, HBL.out.trans (HWA.out.mono HBL.out.size)⟩
                    · have HLA := Lib.hid (all_yes (f := linkOk b) (l := b.L.l) fun j hj => HA.out j hj (by omega))
                      have HBW4 := Lib.hid hbw
                      clear hbw HA
                      go_wp2_with fail
                      go_ret
                      exact ⟨by rw [HKB.out, numsB, HRA.out, HFB.out, HLA.out]; simp; omega, HBL.out.trans (HBW4.out.mono HBL.out.size)⟩
    · have q1 : decide ((60 : Int) < (ct : Int)) = true := decide_eq_true (by omega)
      rw [decide_eq_false hc] at HKB
      go_enter Tryz.func12, Tryz.ntmps12
      go_wp2_with (first
        | (go_at_call 51; refine (HCO.out w2).mono ?_; rintro e w3 ⟨rfl, hb3'⟩; have hb3 : Below W1.heap.size W1 w3 := hb2.trans (hb3'.mono hb2.size))
        | (go_at_call 50; refine (HNA.out W1 (Below.refl _ _)).mono ?_; rintro e w2 ⟨rfl, hb2⟩; obtain ⟨d0, d1, d2, d3, d4, d5, d6⟩ := HBB.out w2 hb2))
      go_ret
      exact ⟨by rw [HKB.out]; rfl, HBL.out.trans (hb3.mono HBL.out.size)⟩
end Go.Proofs.YtndkcimajeofcaaGreatDoor

namespace Go.Proofs.YtndkcimajeofcaaGreatDoor
open Go.RowKit
attribute [local go_sem ↓] Go.wp_at_zero Go.wp_at_succ

set_option maxRecDepth 100000 in
set_option maxHeartbeats 8000000 in
/-- The reference's Fault: the error of a base and concepts. -/
theorem rFault5_any (b : BN) (mo : ML) (w : World) (hb : b.In w.heap.size w) (hmo : mo.In w.heap.size w) (hI : b.I.length ≤ 1000) (hR : b.R.l.length ≤ 1000) (hF : b.F.length ≤ 1000) (hL : b.L.l.length ≤ 1000) (hN : b.N.C.l.length ≤ 1000 ∧ b.N.R.l.length ≤ 1000 ∧ b.N.I.l.length ≤ 1000) (hsz : ∀ T ∈ b.cons, T.tr.size ≤ 1000000) (hszm : ∀ T ∈ mo.l, T.tr.size ≤ 1000000) (hlm : mo.l.length ≤ 1000000) :
    Calls Tryz.prog 24 #[b.val, .slice mo.A mo.l.length mo.c] w fun e w' => e = .returned (.int .i64 (mcheckC b mo.l)) ∧ Below w.heap.size w w' := by
  obtain ⟨W1, hW1, hB1, hs1, hk1⟩ := newBlk w _ rfl #[.slice b.N.C.A b.N.C.l.length b.N.C.c, .slice b.N.R.A b.N.R.l.length b.N.R.c, .slice b.N.I.A b.N.I.l.length b.N.I.c, .slice b.IA b.I.length b.ic, .slice b.R.A b.R.l.length b.R.c, .slice b.FA b.F.length b.fc, .slice b.L.A b.L.l.length b.L.c] 30
  have hbb := fun w' (h : Below W1.heap.size W1 w') => bbox_of (b := b) (blk_lat hk1 h)
  have his := bIs_any b W1 (hb.later hB1) hI hR hF hL hN hsz
  obtain ⟨A, c, l⟩ := mo
  obtain ⟨hlc, hc, -, hrow, hin⟩ := hmo
  dsimp only at hlc hc hrow hin hszm hlm
  have hck := fun T (hT : T ∈ l) w' (h : Below W1.heap.size W1 w') => IsD_any b.N T w' ((hb.n.later hB1).later h) (((hin T hT).later hB1).later h) (hszm T hT) hN.1 hN.2.1
  have hrw := fun w' (h : Below W1.heap.size W1 w') => (hrow.below hB1.size hB1).below h.size h
  obtain ⟨c0, c1, c2, c3, c4, c5, c6⟩ := hbb W1 (Below.refl _ _)
  have HB := Lib.hid hB1
  have HBB := Lib.hid hbb
  have HCK := Lib.hid hck
  have HRW := Lib.hid hrw
  have hlm2 : l.length ≤ 9223372036854775807 := by omega
  rcases hkc : kcheckB b
  · have HM := Lib.hid (show mcheckC b l = 20 by rw [mcheckC, hkc]; rfl)
    rw [hkc] at his
    simp only [BN.val, NM.val, MT.val] at his HCK ⊢
    clear hbb hck hrw hB1 hk1 hb hrow hin hlc hc hkc
    go_enter Tryz.func24, Tryz.ntmps24
    go_wp2_with (go_at_call 12; refine his.mono ?_; clear his; rintro e w2 ⟨rfl, hb2⟩)
    go_ret
    exact ⟨by rw [HM.out]; rfl, HB.out.trans (hb2.mono HB.out.size)⟩
  · have hok : b.N.ok = true := by simp only [kcheckB, Bool.and_eq_true] at hkc; exact hkc.1
    have HM := Lib.hid (show mcheckC b l = codeIf (l.all fun T => validT b.N.C.l.length b.N.R.l.length T.tr) 10 by
      rw [mcheckC, hkc, if_pos rfl]
      congr 1
      rw [Bool.eq_iff_iff, List.all_eq_true, List.all_eq_true]
      exact ⟨fun h T hT => by rw [← okC_valid hok T]; exact h T hT, fun h T hT => by rw [okC_valid hok T]; exact h T hT⟩)
    rw [hkc] at his
    simp only [BN.val, NM.val, MT.val] at his HCK ⊢
    clear hbb hck hrw hB1 hk1 hb hrow hin hlc hc hkc hok
    go_enter Tryz.func24, Tryz.ntmps24
    go_wp2_with (go_at_call 12; refine his.mono ?_; clear his; rintro e w2 ⟨rfl, hb2⟩)
    clear c0 c1 c2 c3 c4 c5 c6
    have hb2s := hb2
    go_loopw [12] (fun i' wr => ∃ k : Nat, k ≤ l.length ∧ i' = .int .i64 (k : Nat) ∧ (∀ j (hj : j < l.length), j < k → validT b.N.C.l.length b.N.R.l.length l[j].tr = true) ∧ Below W1.heap.size W1 wr) (fun i' _ => l.length - (intOf i').toNat)
    case atStart => exact ⟨0, Nat.zero_le _, rfl, fun j _ h => absurd h (by omega), hb2s⟩
    case round =>
      rename World => wr
      obtain ⟨k, hk, rfl, hall, hbw⟩ := hrel
      have HA := Lib.hid hall
      clear hall
      by_cases hlt : k < l.length
      · obtain ⟨g, off, hA, hg, e0, e1, e2⟩ := elem3 (HRW.out wr hbw) (Below.refl _ _) hlt
        subst hA
        have h0K : (0 : Int) ≤ k := by omega
        have hlK : (k : Int) < l.length := by omega
        obtain ⟨Wa, hWa, hBa, hsa, hka⟩ := newBlk wr _ rfl #[.int .i64 l[k].op, .int .i64 l[k].n, .slice l[k].A l[k].args.length l[k].c] 33
        obtain ⟨⟨d0, d1, d2⟩, -⟩ := res3 hka
        have h1a : Below W1.heap.size W1 Wa := hbw.trans (hBa.mono hbw.size)
        obtain ⟨c0, c1, c2, c3, c4, c5, c6⟩ := HBB.out Wa h1a
        have hf := HCK.out l[k] (List.getElem_mem hlt) Wa h1a
        obtain ⟨ok, hok⟩ : ∃ x, validT b.N.C.l.length b.N.R.l.length l[k].tr = x := ⟨_, rfl⟩
        rw [hok] at hf
        have H1A := Lib.hid h1a
        have HOK := Lib.hid hok
        have HLT := Lib.hid hlt
        clear hok hBa hka h1a hbw
        cases ok
        · go_wp2_with (go_at_call 52; refine hf.mono ?_; clear hf; rintro e w5 ⟨rfl, hb5⟩)
          go_ret
          refine ⟨?_, HB.out.trans ((H1A.out.trans (hb5.mono H1A.out.size)).mono HB.out.size)⟩
          have : (l.all fun T => validT b.N.C.l.length b.N.R.l.length T.tr) = false := by
            rw [List.all_eq_false]; exact ⟨_, List.getElem_mem HLT.out, fun h => Bool.noConfusion (h.symm.trans HOK.out)⟩
          rw [HM.out, this]; rfl
        · go_wp2_with (go_at_call 52; refine hf.mono ?_; clear hf; rintro e w5 ⟨rfl, hb5⟩)
          go_roundw
          case rel => exact ⟨k + 1, by omega, by go_num, fun j hj hjk => by
            by_cases e : j = k
            · subst e; exact HOK.out
            · exact HA.out j hj (by omega), H1A.out.trans (hb5.mono H1A.out.size)⟩
          case measure => simp [intOf]; omega
      · have HBW := Lib.hid hbw
        have hall : (l.all fun T => validT b.N.C.l.length b.N.R.l.length T.tr) = true := by
          rw [List.all_eq_true]
          intro T hT
          obtain ⟨j, hj, rfl⟩ := List.getElem_of_mem hT
          exact HA.out j hj (by omega)
        have HALL := Lib.hid hall
        clear hall hbw
        go_wp2_with fail
        go_ret
        exact ⟨by rw [HM.out, HALL.out]; rfl, HB.out.trans (HBW.out.mono HB.out.size)⟩
end Go.Proofs.YtndkcimajeofcaaGreatDoor
