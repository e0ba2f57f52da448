import Derived.Test.YtnkkpjgclekobaaGreatDoorRTr2
import Derived.Test.YtnkkpjgclekobaaGreatDoorSameL
import Derived.Test.YtnkkpjgclekobaaGreatDoorEnds7
namespace Go.Proofs.YtnkkpjgclekobaaGreatDoor
open Go.RowKit
attribute [local go_sem ↓] Go.wp_at_zero Go.wp_at_succ

theorem vcode_badk {b : BN} {i : IN} (h : kcheckB b = false) : vcode b i = 20 := by rw [vcode, h]; simp [orF, codeIf]
theorem kok {b : BN} (h : kcheckB b = true) : b.N.ok = true := (kcheck_facts h).1
theorem vcode_badi {b : BN} {i : IN} (h : kcheckB b = true) (h2 : (shapeB b.N i && listsB i) = false) : vcode b i = 30 := by
  rw [vcode, h, icheckF, if_pos (kok h), h2]; simp [orF, codeIf]
theorem vcode_good {b : BN} {i : IN} (h : kcheckB b = true) (h2 : (shapeB b.N i && listsB i) = true) : vcode b i = 0 := by
  rw [vcode, h, icheckF, if_pos (kok h), h2]; simp [orF, codeIf]
theorem verL0_bad {b : BN} {i : IN} (h : vcode b i ≠ 0) : verL0 b i = [] := by rw [verL0, if_neg h]
theorem selR_has (p : Nat → Bool) (n : Nat) {a : Int} (h0 : 0 ≤ a) (h1 : a < n) : (selR p n).contains a = p a.toNat := by
  rw [Bool.eq_iff_iff, List.contains_iff_mem, selR, List.mem_map]
  constructor
  · rintro ⟨y, hy, rfl⟩
    simpa using (List.mem_filter.1 hy).2
  · intro h
    exact ⟨a.toNat, List.mem_filter.2 ⟨List.mem_range.2 (by omega), h⟩, by omega⟩

set_option maxRecDepth 100000 in
set_option maxHeartbeats 16000000 in
theorem InterpTrue_any (b : BN) (i : IN) (a : Int) (w : World) (hG : GT w) (hb : b.In w.heap.size w) (hi : i.In w.heap.size w) :
    Calls Tryz.prog 3 #[b.val, i.val, .int .i64 a] w fun e w' => e = .returned (.bool true) ∧ Below w.heap.size w w' := by
  obtain ⟨W1, hW1, hB1, hs1, hk1⟩ := newBlk w _ rfl #[.slice b.N.C.A b.N.C.l.length b.N.C.c, .slice b.N.R.A b.N.R.l.length b.N.R.c, .slice b.N.I.A b.N.I.l.length b.N.I.c, .slice b.IA b.I.length b.ic, .slice b.R.A b.R.l.length b.R.c, .slice b.FA b.F.length b.fc, .slice b.L.A b.L.l.length b.L.c] 30
  obtain ⟨W2, hW2, hB2, hs2, hk2⟩ := newBlk W1 _ hs1 #[.int .i64 i.size, .slice i.CA i.C.length i.cc, .slice i.RA i.R.length i.rc, .slice i.I.A i.I.l.length i.I.c] 35
  have hB : Below w.heap.size w W2 := hB1.trans (hB2.mono (by omega))
  have hkk1 := (hB2.block w.heap.size (by omega)).trans hk1
  have hS : ∀ w', Below W2.heap.size W2 w' → BBox w' w.heap.size b ∧ (w'.cell? ⟨w.heap.size + 1, 0, none⟩ = some (.int .i64 i.size) ∧ w'.cell? ⟨w.heap.size + 1, 1, none⟩ = some (.slice i.CA i.C.length i.cc) ∧ w'.cell? ⟨w.heap.size + 1, 2, none⟩ = some (.slice i.RA i.R.length i.rc) ∧ w'.cell? ⟨w.heap.size + 1, 3, none⟩ = some (.slice i.I.A i.I.l.length i.I.c)) := fun w' h => ⟨bbox_of (b := b) (blk_lat hkk1 h), cell_of_blk (blk_lat hk2 h) 0, cell_of_blk (blk_lat hk2 h) 1, cell_of_blk (blk_lat hk2 h) 2, cell_of_blk (blk_lat hk2 h) 3⟩
  have hfw := bFew_any b W2 (hb.later hB)
  have hf3 := fun w' (h : Below W2.heap.size W2 w') => few0_any b.N i w' ((hb.n.later hB).later h) ((hi.later hB).later h)
  have haw := fun w' (h : Below W2.heap.size W2 w') => awake3_any w' ((hG.later hB).later h)
  have htr := fun (f : Few3 b i) w' (h : Below W2.heap.size W2 w') => iTrue_any b i a w' f ((hG.later hB).later h) ((hb.later hB).later h) ((hi.later hB).later h)
  have hmo := fun (f : Few3 b i) w' (h : Below W2.heap.size W2 w') => iModels_any b i w' f ((hG.later hB).later h) ((hb.later hB).later h) ((hi.later hB).later h)
  have hwr := fun (f : Few3 b i) w' (h : Below W2.heap.size W2 w') => iWrong_any b i w' f ((hG.later hB).later h) ((hb.later hB).later h) ((hi.later hB).later h)
  have his := fun (f : Few3 b i) w' (h : Below W2.heap.size W2 w') => bIs_any b w' ((hb.later hB).later h) f.I f.R f.F f.L f.N f.sz
  have hri := fun w' (h : Below W2.heap.size W2 w') => rIs_any b.N i w' ((hi.later hB).later h)
  have hrw := fun (f : Few3 b i) (m : Nat) (hm : i.size = m) hk hc w' (h : Below W2.heap.size W2 w') => rWrong_any b i m w' f hm hk hc ((hb.later hB).later h) ((hi.later hB).later h)
  have hax := fun (f : Few3 b i) w' => rAxioms_any b w' (Nat.le_trans f.I (by decide)) (Nat.le_trans f.R (by decide)) (Nat.le_trans f.F (by decide)) (Nat.le_trans f.L (by decide))
  obtain ⟨⟨c0, c1, c2, c3, c4, c5, c6⟩, c7, c8, c9, c10⟩ := hS W2 (Below.refl _ _)
  have HB := Lib.hid hB
  have HS := Lib.hid hS
  have HAW := Lib.hid haw
  have HF3 := Lib.hid hf3
  have HTR0 := Lib.hid htr
  have HMO0 := Lib.hid hmo
  have HWR0 := Lib.hid hwr
  have HIS0 := Lib.hid his
  have HRI := Lib.hid hri
  have HRW0 := Lib.hid hrw
  have HAX0 := Lib.hid hax
  simp only [NM.val, BN.val, IN.val] at hfw HF3 HTR0 HMO0 HWR0 HIS0 HRI HRW0 HAX0 ⊢
  clear hB hG hb hi hS haw hf3 htr hmo hwr his hri hrw hax hB1 hB2 hk1 hk2 hkk1
  go_enter Tryz.func3, Tryz.ntmps3
  go_wp2_with (go_at_call 10; refine hfw.mono ?_; clear hfw; rintro e w3 ⟨⟨x, rfl, hx⟩, hb3⟩; obtain ⟨⟨d0, d1, d2, d3, d4, d5, d6⟩, d7, d8, d9, d10⟩ := HS.out w3 hb3; cases x)
  · go_wp2_with (go_at_call 12; refine (HAW.out w3 hb3).mono ?_; rintro e w4 ⟨rfl, hb4⟩)
    go_ret
    exact ⟨rfl, HB.out.trans ((hb3.trans (hb4.mono hb3.size)).mono HB.out.size)⟩
  go_wp2_with (go_at_call 11; refine (HF3.out w3 hb3).mono ?_; rintro e w4 ⟨⟨y, rfl, hy⟩, hb4'⟩; have hb4 : Below W2.heap.size W2 w4 := hb3.trans (hb4'.mono hb3.size); obtain ⟨⟨e0, e1, e2, e3, e4, e5, e6⟩, e7, e8, e9, e10⟩ := HS.out w4 hb4; cases y)
  · go_wp2_with (go_at_call 12; refine (HAW.out w4 hb4).mono ?_; rintro e w5 ⟨rfl, hb5⟩)
    go_ret
    exact ⟨rfl, HB.out.trans ((hb4.trans (hb5.mono hb4.size)).mono HB.out.size)⟩
  obtain ⟨q1, q2, q3, q4, q5, q6⟩ := (by first | exact hx rfl | exact hx trivial : fewB b.N = true ∧ b.I.length ≤ 200 ∧ b.R.l.length ≤ 200 ∧ b.F.length ≤ 200 ∧ b.L.l.length ≤ 200 ∧ ∀ T ∈ b.cons, T.tr.size ≤ 400)
  have hl := few_lens3 q1
  have f : Few3 b i := ⟨by omega, by omega, by omega, by omega, ⟨by omega, by omega, by omega⟩, fun T hT => Nat.le_trans (q6 T hT) (by decide)⟩
  have HTR := Lib.hid (HTR0.out f)
  have HMO := Lib.hid (HMO0.out f)
  have HWR := Lib.hid (HWR0.out f)
  have HIS := Lib.hid (HIS0.out f)
  have HAX := Lib.hid (HAX0.out f)
  clear HTR0 HMO0 HWR0 HIS0 HAX0 hx hy q1 q2 q3 q4 q5 q6 hl hb4'
  cases hk : kcheckB b
  · have hz := vcode_badk (i := i) hk
    rw [hz, verL0_bad (by rw [hz]; decide)] at HTR HMO HWR
    rw [show trueV [] 20 a = false from rfl, show trueC [] 20 a = 20 from rfl] at HTR
    rw [hk] at HIS
    simp only [show (selR (wrongP []) ([] : List Bool).length) = [] from rfl] at HMO HWR
    clear hk hz f
    go_wp2_with (first
        | (go_at_call 12; refine (HAW.out w8 hb8).mono ?_; rintro e w9 ⟨rfl, hb9'⟩; have hb9 : Below W2.heap.size W2 w9 := hb8.trans (hb9'.mono hb8.size))
        | (go_at_call 16; refine (HIS.out w7 hb7).mono ?_; rintro e w8 ⟨rfl, hb8'⟩; have hb8 : Below W2.heap.size W2 w8 := hb7.trans (hb8'.mono hb7.size); obtain ⟨⟨j0, j1, j2, j3, j4, j5, j6⟩, j7, j8, j9, j10⟩ := HS.out w8 hb8)
        | (go_at_call 15; refine (HWR.out w6 hb6).mono ?_; rintro e w7 ⟨v7, rfl, hop, hb7'⟩; have hb7 : Below W2.heap.size W2 w7 := hb6.trans (hb7'.mono hb6.size); obtain ⟨⟨h0, h1, h2, h3, h4, h5, h6⟩, h7, h8, h9, h10⟩ := HS.out w7 hb7; obtain ⟨A7, k7, hv7, -⟩ := il_of_owns hop; subst hv7; clear hop)
        | (go_at_call 14; refine (HMO.out w5 hb5).mono ?_; rintro e w6 ⟨rfl, hb6'⟩; have hb6 : Below W2.heap.size W2 w6 := hb5.trans (hb6'.mono hb5.size); obtain ⟨⟨g0, g1, g2, g3, g4, g5, g6⟩, g7, g8, g9, g10⟩ := HS.out w6 hb6)
        | (go_at_call 13; refine (HTR.out w4 hb4).mono ?_; rintro e w5 ⟨rfl, hb5'⟩; have hb5 : Below W2.heap.size W2 w5 := hb4.trans (hb5'.mono hb4.size); obtain ⟨⟨f0, f1, f2, f3, f4, f5, f6⟩, f7, f8, f9, f10⟩ := HS.out w5 hb5))
    go_ret
    exact ⟨rfl, HB.out.trans (hb9.mono HB.out.size)⟩
  · cases hv : (shapeB b.N i && listsB i)
    · have hz := vcode_badi hk hv
      rw [hz, verL0_bad (by rw [hz]; decide)] at HTR HMO HWR
      rw [show trueV [] 30 a = false from rfl, show trueC [] 30 a = 30 from rfl] at HTR
      rw [hk] at HIS
      rw [hv] at HRI
      simp only [show (selR (wrongP []) ([] : List Bool).length) = [] from rfl] at HMO HWR
      clear hk hv hz f
      go_wp2_with (first
        | (go_at_call 12; refine (HAW.out w9 hb9).mono ?_; rintro e w10 ⟨rfl, hb10'⟩; have hb10 : Below W2.heap.size W2 w10 := hb9.trans (hb10'.mono hb9.size))
        | (go_at_call 17; refine (HRI.out w8 hb8).mono ?_; rintro e w9 ⟨rfl, hb9'⟩; have hb9 : Below W2.heap.size W2 w9 := hb8.trans (hb9'.mono hb8.size); obtain ⟨⟨y0, y1, y2, y3, y4, y5, y6⟩, y7, y8, y9, y10⟩ := HS.out w9 hb9)
        | (go_at_call 16; refine (HIS.out w7 hb7).mono ?_; rintro e w8 ⟨rfl, hb8'⟩; have hb8 : Below W2.heap.size W2 w8 := hb7.trans (hb8'.mono hb7.size); obtain ⟨⟨j0, j1, j2, j3, j4, j5, j6⟩, j7, j8, j9, j10⟩ := HS.out w8 hb8)
        | (go_at_call 15; refine (HWR.out w6 hb6).mono ?_; rintro e w7 ⟨v7, rfl, hop, hb7'⟩; have hb7 : Below W2.heap.size W2 w7 := hb6.trans (hb7'.mono hb6.size); obtain ⟨⟨h0, h1, h2, h3, h4, h5, h6⟩, h7, h8, h9, h10⟩ := HS.out w7 hb7; obtain ⟨A7, k7, hv7, -⟩ := il_of_owns hop; subst hv7; clear hop)
        | (go_at_call 14; refine (HMO.out w5 hb5).mono ?_; rintro e w6 ⟨rfl, hb6'⟩; have hb6 : Below W2.heap.size W2 w6 := hb5.trans (hb6'.mono hb5.size); obtain ⟨⟨g0, g1, g2, g3, g4, g5, g6⟩, g7, g8, g9, g10⟩ := HS.out w6 hb6)
        | (go_at_call 13; refine (HTR.out w4 hb4).mono ?_; rintro e w5 ⟨rfl, hb5'⟩; have hb5 : Below W2.heap.size W2 w5 := hb4.trans (hb5'.mono hb4.size); obtain ⟨⟨f0, f1, f2, f3, f4, f5, f6⟩, f7, f8, f9, f10⟩ := HS.out w5 hb5))
      go_ret
      exact ⟨rfl, HB.out.trans (hb10.mono HB.out.size)⟩
    · have hz := vcode_good hk hv
      obtain ⟨-, hci⟩ := vcode_zero hz
      obtain ⟨-, z1, -⟩ := icheck_zero hci
      obtain ⟨m, hm⟩ : ∃ m : Nat, i.size = m := ⟨i.size.toNat, by omega⟩
      have hvl : verL0 b i = verd b i m := by rw [verL0, if_pos hz, hm]; rfl
      have hlen : (verd b i m).length = b.I.length + b.R.l.length + b.F.length + b.L.l.length := ver4_len (Nat.le_refl _)
      have HRW := Lib.hid (HRW0.out f m hm hk hci)
      rw [hk] at HIS
      rw [hv] at HRI
      rw [hz, hvl] at HTR HMO HWR
      rw [← hlen] at HAX
      have hct : (verd b i m).length ≤ 4000 := by rw [hlen]; have := f.I; have := f.R; have := f.F; have := f.L; omega
      obtain ⟨V, hV⟩ : ∃ V, verd b i m = V := ⟨_, rfl⟩
      rw [hV] at HTR HMO HWR HAX HRW hct
      obtain ⟨ct, hcd⟩ : ∃ ct, V.length = ct := ⟨_, rfl⟩
      have hhas := selR_has (wrongP V) ct (a := a)
      have hln := selR_len (wrongP V) ct
      have htv : 0 ≤ a → a < (ct : Int) → trueV V 0 a = !wrongP V a.toNat ∧ trueC V 0 a = 0 := fun h1 h2 => by
        rw [← hcd] at h2
        exact ⟨by rw [trueV, decide_eq_true h1, decide_eq_true h2]; simp, by rw [trueC, if_pos rfl, if_pos ⟨h1, h2⟩]⟩
      have htf : ¬ (0 ≤ a ∧ a < (ct : Int)) → trueV V 0 a = false ∧ trueC V 0 a = 1 := fun h => by
        rw [← hcd] at h
        refine ⟨?_, by rw [trueC, if_pos rfl, if_neg h]⟩
        rw [trueV]
        by_cases h1 : 0 ≤ a
        · rw [decide_eq_false (fun h2 => h ⟨h1, h2⟩)]; simp
        · rw [decide_eq_false h1]; simp
      rw [hcd] at HMO HWR HAX HRW hct
      obtain ⟨L, hL⟩ : ∃ L, selR (wrongP V) ct = L := ⟨_, rfl⟩
      rw [hL] at HMO HWR HRW hhas hln
      clear hk hv hz hci hvl hlen hm z1 f HRW0 hL hV
      obtain ⟨le, hle⟩ : ∃ le, decide (L.length = 0) = le := ⟨_, rfl⟩
      have hle2 : ((L.length : Int) == 0) = le := by rw [← hle, Bool.eq_iff_iff]; simp
      have hmoe : (decide ((0 : Int) = 0) && decide (L.length = 0)) = le := by rw [hle]; rfl
      have hlL : L.length ≤ 4000 := Nat.le_trans hln hct
      rw [hmoe] at HMO
      by_cases h0 : 0 ≤ a
      · by_cases h1 : a < (ct : Int)
        · obtain ⟨e1', e2'⟩ := htv h0 h1
          rw [e1', e2'] at HTR
          have hh := hhas h0 h1
          have HHA := Lib.hid (show ∀ (s : IL) (w' : World), s.In w'.heap.size w' → s.l = L → Calls Tryz.prog 21 #[.slice s.A s.l.length s.c, .int .i64 a] w' fun e w'' => e = .returned (.bool (wrongP V a.toNat)) ∧ w'' = w' from fun s w' hs e => by
            have := rHas_any s a w' hs
            rw [e, hh, ← e] at this
            exact this)
          obtain ⟨t, ht⟩ : ∃ t, wrongP V a.toNat = t := ⟨_, rfl⟩
          rw [ht] at HTR HHA
          have q1 : decide (a < 0) = false := decide_eq_false (by omega)
          have q2 : decide ((ct : Int) ≤ a) = false := decide_eq_false (by omega)
          clear htv htf hhas hh e1' e2' ht hcd hle hln h0 h1
          go_wp2_with (first
          | (go_at_call 12; refine (HAW.out _ hb12).mono ?_; rintro e w13 ⟨rfl, hb13'⟩; have hb13 : Below W2.heap.size W2 w13 := hb12.trans (hb13'.mono hb12.size))
          | (go_at_call 21; refine (HHA.out s10 w12 (HI10.out.below hb10_12.size hb10_12) HS10.out).mono ?_; rintro e w13 ⟨rfl, hw13⟩; subst hw13)
          | (go_at_call 20; refine (HAX.out w11).mono ?_; rintro e w12 ⟨rfl, hb12'⟩; have hb12 : Below W2.heap.size W2 w12 := hb11.trans (hb12'.mono hb11.size); have hb10_12 : Below w10.heap.size w10 w12 := hb10_11.trans (hb12'.mono hb10_11.size))
          | (go_at_call 19; refine (SameIntsL_any ⟨A7, k7, L⟩ s10 w10 (HI7.out.below hb7_10.size hb7_10) HI10.out HS10.out.symm).mono ?_; rintro e w11 ⟨rfl, hb11'⟩; have hb11 : Below W2.heap.size W2 w11 := hb10.trans (hb11'.mono hb10.size); obtain ⟨⟨n0, n1, n2, n3, n4, n5, n6⟩, n7, n8, n9, n10⟩ := HS.out w11 hb11; have hb10_11 : Below w10.heap.size w10 w11 := hb11')
          | (go_at_call 18; refine (HRW.out w9 hb9).mono ?_; rintro e w10 ⟨s10, rfl, hs10, hin10, hb10'⟩; have hb10 : Below W2.heap.size W2 w10 := hb9.trans (hb10'.mono hb9.size); obtain ⟨⟨m0, m1, m2, m3, m4, m5, m6⟩, m7, m8, m9, m10⟩ := HS.out w10 hb10; have HS10 := Lib.hid hs10; have HI10 := Lib.hid hin10; have hle3 : ((s10.l.length : Int) == 0) = le := (by rw [hs10]; exact hle2); have hlL3 : s10.l.length ≤ 4000 := (by rw [hs10]; exact hlL); clear hs10 hin10; have hb7_10 : Below w7.heap.size w7 w10 := hb7_9.trans (hb10'.mono hb7_9.size))
          | (go_at_call 17; refine (HRI.out w8 hb8).mono ?_; rintro e w9 ⟨rfl, hb9'⟩; have hb9 : Below W2.heap.size W2 w9 := hb8.trans (hb9'.mono hb8.size); obtain ⟨⟨y0, y1, y2, y3, y4, y5, y6⟩, y7, y8, y9, y10⟩ := HS.out w9 hb9; have hb7_9 : Below w7.heap.size w7 w9 := hb7_8.trans (hb9'.mono hb7_8.size))
          | (go_at_call 16; refine (HIS.out w7 hb7).mono ?_; rintro e w8 ⟨rfl, hb8'⟩; have hb8 : Below W2.heap.size W2 w8 := hb7.trans (hb8'.mono hb7.size); obtain ⟨⟨j0, j1, j2, j3, j4, j5, j6⟩, j7, j8, j9, j10⟩ := HS.out w8 hb8; have hb7_8 : Below w7.heap.size w7 w8 := hb8')
          | (go_at_call 15; refine (HWR.out w6 hb6).mono ?_; rintro e w7 ⟨v7, rfl, hop, hb7'⟩; have hb7 : Below W2.heap.size W2 w7 := hb6.trans (hb7'.mono hb6.size); obtain ⟨⟨h0, h1, h2, h3, h4, h5, h6⟩, h7, h8, h9, h10⟩ := HS.out w7 hb7; obtain ⟨A7, k7, hv7, hin7⟩ := il_of_owns hop; subst hv7; have HI7 := Lib.hid hin7; clear hin7 hop; have hb7_7 := Below.refl w7.heap.size w7)
          | (go_at_call 14; refine (HMO.out w5 hb5).mono ?_; rintro e w6 ⟨rfl, hb6'⟩; have hb6 : Below W2.heap.size W2 w6 := hb5.trans (hb6'.mono hb5.size); obtain ⟨⟨g0, g1, g2, g3, g4, g5, g6⟩, g7, g8, g9, g10⟩ := HS.out w6 hb6)
          | (go_at_call 13; refine (HTR.out w4 hb4).mono ?_; rintro e w5 ⟨rfl, hb5'⟩; have hb5 : Below W2.heap.size W2 w5 := hb4.trans (hb5'.mono hb4.size); obtain ⟨⟨f0, f1, f2, f3, f4, f5, f6⟩, f7, f8, f9, f10⟩ := HS.out w5 hb5))
          go_ret
          exact ⟨by cases t <;> rfl, HB.out.trans (hb13.mono HB.out.size)⟩
        · obtain ⟨e1', e2'⟩ := htf fun h => h1 h.2
          rw [e1', e2'] at HTR
          have q1 : decide (a < 0) = false := decide_eq_false (by omega)
          have q2 : decide ((ct : Int) ≤ a) = true := decide_eq_true (by omega)
          clear htv htf hhas e1' e2' hcd hle hln h0 h1
          go_wp2_with (first
          | (go_at_call 12; refine (HAW.out w12 hb12).mono ?_; rintro e w13 ⟨rfl, hb13'⟩; have hb13 : Below W2.heap.size W2 w13 := hb12.trans (hb13'.mono hb12.size))
          | (go_at_call 20; refine (HAX.out w11).mono ?_; rintro e w12 ⟨rfl, hb12'⟩; have hb12 : Below W2.heap.size W2 w12 := hb11.trans (hb12'.mono hb11.size))
          | (go_at_call 19; refine (SameIntsL_any ⟨A7, k7, L⟩ s10 w10 (HI7.out.below hb7_10.size hb7_10) HI10.out HS10.out.symm).mono ?_; rintro e w11 ⟨rfl, hb11'⟩; have hb11 : Below W2.heap.size W2 w11 := hb10.trans (hb11'.mono hb10.size); obtain ⟨⟨n0, n1, n2, n3, n4, n5, n6⟩, n7, n8, n9, n10⟩ := HS.out w11 hb11; have hb10_11 : Below w10.heap.size w10 w11 := hb11')
          | (go_at_call 18; refine (HRW.out w9 hb9).mono ?_; rintro e w10 ⟨s10, rfl, hs10, hin10, hb10'⟩; have hb10 : Below W2.heap.size W2 w10 := hb9.trans (hb10'.mono hb9.size); obtain ⟨⟨m0, m1, m2, m3, m4, m5, m6⟩, m7, m8, m9, m10⟩ := HS.out w10 hb10; have HS10 := Lib.hid hs10; have HI10 := Lib.hid hin10; have hle3 : ((s10.l.length : Int) == 0) = le := (by rw [hs10]; exact hle2); have hlL3 : s10.l.length ≤ 4000 := (by rw [hs10]; exact hlL); clear hs10 hin10; have hb7_10 : Below w7.heap.size w7 w10 := hb7_9.trans (hb10'.mono hb7_9.size))
          | (go_at_call 17; refine (HRI.out w8 hb8).mono ?_; rintro e w9 ⟨rfl, hb9'⟩; have hb9 : Below W2.heap.size W2 w9 := hb8.trans (hb9'.mono hb8.size); obtain ⟨⟨y0, y1, y2, y3, y4, y5, y6⟩, y7, y8, y9, y10⟩ := HS.out w9 hb9; have hb7_9 : Below w7.heap.size w7 w9 := hb7_8.trans (hb9'.mono hb7_8.size))
          | (go_at_call 16; refine (HIS.out w7 hb7).mono ?_; rintro e w8 ⟨rfl, hb8'⟩; have hb8 : Below W2.heap.size W2 w8 := hb7.trans (hb8'.mono hb7.size); obtain ⟨⟨j0, j1, j2, j3, j4, j5, j6⟩, j7, j8, j9, j10⟩ := HS.out w8 hb8; have hb7_8 : Below w7.heap.size w7 w8 := hb8')
          | (go_at_call 15; refine (HWR.out w6 hb6).mono ?_; rintro e w7 ⟨v7, rfl, hop, hb7'⟩; have hb7 : Below W2.heap.size W2 w7 := hb6.trans (hb7'.mono hb6.size); obtain ⟨⟨h0, h1, h2, h3, h4, h5, h6⟩, h7, h8, h9, h10⟩ := HS.out w7 hb7; obtain ⟨A7, k7, hv7, hin7⟩ := il_of_owns hop; subst hv7; have HI7 := Lib.hid hin7; clear hin7 hop; have hb7_7 := Below.refl w7.heap.size w7)
          | (go_at_call 14; refine (HMO.out w5 hb5).mono ?_; rintro e w6 ⟨rfl, hb6'⟩; have hb6 : Below W2.heap.size W2 w6 := hb5.trans (hb6'.mono hb5.size); obtain ⟨⟨g0, g1, g2, g3, g4, g5, g6⟩, g7, g8, g9, g10⟩ := HS.out w6 hb6)
          | (go_at_call 13; refine (HTR.out w4 hb4).mono ?_; rintro e w5 ⟨rfl, hb5'⟩; have hb5 : Below W2.heap.size W2 w5 := hb4.trans (hb5'.mono hb4.size); obtain ⟨⟨f0, f1, f2, f3, f4, f5, f6⟩, f7, f8, f9, f10⟩ := HS.out w5 hb5))
          go_ret
          exact ⟨rfl, HB.out.trans (hb13.mono HB.out.size)⟩
      · obtain ⟨e1', e2'⟩ := htf fun h => h0 h.1
        rw [e1', e2'] at HTR
        have q1 : decide (a < 0) = true := decide_eq_true (by omega)
        clear htv htf hhas e1' e2' hcd hle hln h0
        go_wp2_with (first
          | (go_at_call 12; refine (HAW.out w11 hb11).mono ?_; rintro e w12 ⟨rfl, hb12'⟩; have hb12 : Below W2.heap.size W2 w12 := hb11.trans (hb12'.mono hb11.size))
          | (go_at_call 19; refine (SameIntsL_any ⟨A7, k7, L⟩ s10 w10 (HI7.out.below hb7_10.size hb7_10) HI10.out HS10.out.symm).mono ?_; rintro e w11 ⟨rfl, hb11'⟩; have hb11 : Below W2.heap.size W2 w11 := hb10.trans (hb11'.mono hb10.size); obtain ⟨⟨n0, n1, n2, n3, n4, n5, n6⟩, n7, n8, n9, n10⟩ := HS.out w11 hb11; have hb10_11 : Below w10.heap.size w10 w11 := hb11')
          | (go_at_call 18; refine (HRW.out w9 hb9).mono ?_; rintro e w10 ⟨s10, rfl, hs10, hin10, hb10'⟩; have hb10 : Below W2.heap.size W2 w10 := hb9.trans (hb10'.mono hb9.size); obtain ⟨⟨m0, m1, m2, m3, m4, m5, m6⟩, m7, m8, m9, m10⟩ := HS.out w10 hb10; have HS10 := Lib.hid hs10; have HI10 := Lib.hid hin10; have hle3 : ((s10.l.length : Int) == 0) = le := (by rw [hs10]; exact hle2); have hlL3 : s10.l.length ≤ 4000 := (by rw [hs10]; exact hlL); clear hs10 hin10; have hb7_10 : Below w7.heap.size w7 w10 := hb7_9.trans (hb10'.mono hb7_9.size))
          | (go_at_call 17; refine (HRI.out w8 hb8).mono ?_; rintro e w9 ⟨rfl, hb9'⟩; have hb9 : Below W2.heap.size W2 w9 := hb8.trans (hb9'.mono hb8.size); obtain ⟨⟨y0, y1, y2, y3, y4, y5, y6⟩, y7, y8, y9, y10⟩ := HS.out w9 hb9; have hb7_9 : Below w7.heap.size w7 w9 := hb7_8.trans (hb9'.mono hb7_8.size))
          | (go_at_call 16; refine (HIS.out w7 hb7).mono ?_; rintro e w8 ⟨rfl, hb8'⟩; have hb8 : Below W2.heap.size W2 w8 := hb7.trans (hb8'.mono hb7.size); obtain ⟨⟨j0, j1, j2, j3, j4, j5, j6⟩, j7, j8, j9, j10⟩ := HS.out w8 hb8; have hb7_8 : Below w7.heap.size w7 w8 := hb8')
          | (go_at_call 15; refine (HWR.out w6 hb6).mono ?_; rintro e w7 ⟨v7, rfl, hop, hb7'⟩; have hb7 : Below W2.heap.size W2 w7 := hb6.trans (hb7'.mono hb6.size); obtain ⟨⟨h0, h1, h2, h3, h4, h5, h6⟩, h7, h8, h9, h10⟩ := HS.out w7 hb7; obtain ⟨A7, k7, hv7, hin7⟩ := il_of_owns hop; subst hv7; have HI7 := Lib.hid hin7; clear hin7 hop; have hb7_7 := Below.refl w7.heap.size w7)
          | (go_at_call 14; refine (HMO.out w5 hb5).mono ?_; rintro e w6 ⟨rfl, hb6'⟩; have hb6 : Below W2.heap.size W2 w6 := hb5.trans (hb6'.mono hb5.size); obtain ⟨⟨g0, g1, g2, g3, g4, g5, g6⟩, g7, g8, g9, g10⟩ := HS.out w6 hb6)
          | (go_at_call 13; refine (HTR.out w4 hb4).mono ?_; rintro e w5 ⟨rfl, hb5'⟩; have hb5 : Below W2.heap.size W2 w5 := hb4.trans (hb5'.mono hb4.size); obtain ⟨⟨f0, f1, f2, f3, f4, f5, f6⟩, f7, f8, f9, f10⟩ := HS.out w5 hb5))
        go_ret
        exact ⟨rfl, HB.out.trans (hb12.mono HB.out.size)⟩
end Go.Proofs.YtnkkpjgclekobaaGreatDoor
