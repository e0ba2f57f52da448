import Derived.Test.YtnkkpjgclekobaaGreatDoorRTrI
import Derived.Test.YtnkkpjgclekobaaGreatDoorRTrR
import Derived.Test.YtnkkpjgclekobaaGreatDoorRTrF
import Derived.Test.YtnkkpjgclekobaaGreatDoorRTrL
namespace Go.Proofs.YtnkkpjgclekobaaGreatDoor
open Go.RowKit
attribute [local go_sem ↓] Go.wp_at_zero Go.wp_at_succ

theorem verd_at (b : BN) (i : IN) (m : Nat) : (∀ k (h : k < b.I.length), (verd b i m).getD k true = verI i m b.I[k]) ∧ (∀ k (h : k < b.R.l.length), (verd b i m).getD (b.I.length + k) true = verR i m b.R.l[k]) ∧ (∀ k (h : k < b.F.length), (verd b i m).getD (b.I.length + b.R.l.length + k) true = verF i m b.F[k]) ∧ (∀ k (h : k < b.L.l.length), (verd b i m).getD (b.I.length + b.R.l.length + b.F.length + k) true = verL i b.L.l[k]) := by
  have e : verd b i m = b.I.map (verI i m) ++ b.R.l.map (verR i m) ++ b.F.map (verF i m) ++ b.L.l.map (verL i) := by
    simp only [verd, ver4, ver3, ver2, ver1, List.take_length]
  rw [e]
  refine ⟨fun k h => ?_, fun k h => ?_, fun k h => ?_, fun k h => ?_⟩
  · rw [List.getD_eq_getElem?_getD, List.append_assoc, List.append_assoc, List.getElem?_append_left (by rw [List.length_map]; omega), List.getElem?_map, List.getElem?_eq_getElem h]; rfl
  · rw [List.getD_eq_getElem?_getD, List.append_assoc, List.append_assoc, List.getElem?_append_right (by rw [List.length_map]; omega), List.length_map, List.getElem?_append_left (by rw [List.length_map]; omega), show b.I.length + k - b.I.length = k by omega, List.getElem?_map, List.getElem?_eq_getElem h]; rfl
  · rw [List.getD_eq_getElem?_getD, List.append_assoc, List.getElem?_append_right (by rw [List.length_append, List.length_map, List.length_map]; omega), List.length_append, List.length_map, List.length_map, List.getElem?_append_left (by rw [List.length_map]; omega), show b.I.length + b.R.l.length + k - (b.I.length + b.R.l.length) = k by omega, List.getElem?_map, List.getElem?_eq_getElem h]; rfl
  · rw [List.getD_eq_getElem?_getD, List.getElem?_append_right (by simp only [List.length_append, List.length_map]; omega), List.length_append, List.length_append, List.length_map, List.length_map, List.length_map, show b.I.length + b.R.l.length + b.F.length + k - (b.I.length + b.R.l.length + b.F.length) = k by omega, List.getElem?_map, List.getElem?_eq_getElem h]; rfl

/-- THE REFERENCE'S TRUTH IS THE VERDICT. -/
theorem rTrue_any (b : BN) (i : IN) (m : Nat) (w : World) (f : Few3 b i) (hm : i.size = m) (hk : kcheckB b = true) (hci : icheckF b.N i = 0) (hb : b.In w.heap.size w) (hi : i.In w.heap.size w) (k : Nat) (hlt : k < (verd b i m).length) :
    Calls Tryz.prog 61 #[b.val, i.val, .int .i64 (k : Nat)] w fun e w' => e = .returned (.bool (!wrongP (verd b i m) k)) ∧ Below w.heap.size w w' := by
  have hlen : (verd b i m).length = b.I.length + b.R.l.length + b.F.length + b.L.l.length := ver4_len (Nat.le_refl _)
  obtain ⟨v1, v2, v3, v4⟩ := verd_at b i m
  rw [wrongP, Bool.not_not]
  by_cases h1 : k < b.I.length
  · rw [v1 k h1]; exact rTrue_I b i m w f hm hk hci hb hi k h1
  · by_cases h2 : k < b.I.length + b.R.l.length
    · have := v2 (k - b.I.length) (by omega)
      rw [show b.I.length + (k - b.I.length) = k by omega] at this
      rw [this]; exact rTrue_R b i m w f hm hk hci hb hi (k - b.I.length) (by omega) _ (by omega)
    · by_cases h3 : k < b.I.length + b.R.l.length + b.F.length
      · have := v3 (k - (b.I.length + b.R.l.length)) (by omega)
        rw [show b.I.length + b.R.l.length + (k - (b.I.length + b.R.l.length)) = k by omega] at this
        rw [this]; exact rTrue_F b i m w f hm hk hci hb hi (k - (b.I.length + b.R.l.length)) (by omega) _ (by omega)
      · have := v4 (k - (b.I.length + b.R.l.length + b.F.length)) (by omega)
        rw [show b.I.length + b.R.l.length + b.F.length + (k - (b.I.length + b.R.l.length + b.F.length)) = k by omega] at this
        rw [this]; exact rTrue_L b i m w f hm hk hci hb hi (k - (b.I.length + b.R.l.length + b.F.length)) (by omega) _ (by omega)

set_option maxRecDepth 100000 in
set_option maxHeartbeats 8000000 in
theorem rWrong_any (b : BN) (i : IN) (m : Nat) (w : World) (f : Few3 b i) (hm : i.size = m) (hk : kcheckB b = true) (hci : icheckF b.N i = 0) (hb : b.In w.heap.size w) (hi : i.In w.heap.size w) :
    Calls Tryz.prog 18 #[b.val, i.val] w (RetI (selR (wrongP (verd b i m)) (verd b i m).length) w) := by
  have hlen : (verd b i m).length = b.I.length + b.R.l.length + b.F.length + b.L.l.length := ver4_len (Nat.le_refl _)
  obtain ⟨W1, hW1, hB1, hs1, hk1⟩ := newBlk w _ rfl #[.slice b.N.C.A b.N.C.l.length b.N.C.c, .slice b.N.R.A b.N.R.l.length b.N.R.c, .slice b.N.I.A b.N.I.l.length b.N.I.c, .slice b.IA b.I.length b.ic, .slice b.R.A b.R.l.length b.R.c, .slice b.FA b.F.length b.fc, .slice b.L.A b.L.l.length b.L.c] 30
  obtain ⟨W2, hW2, hB2, hs2, hk2⟩ := newBlk W1 _ hs1 #[.int .i64 i.size, .slice i.CA i.C.length i.cc, .slice i.RA i.R.length i.rc, .slice i.I.A i.I.l.length i.I.c] 35
  have hB : Below w.heap.size w W2 := hB1.trans (hB2.mono (by omega))
  have hkk1 := (hB2.block w.heap.size (by omega)).trans hk1
  have hS : ∀ w', Below W2.heap.size W2 w' → BBox w' w.heap.size b ∧ (w'.cell? ⟨w.heap.size + 1, 0, none⟩ = some (.int .i64 i.size) ∧ w'.cell? ⟨w.heap.size + 1, 1, none⟩ = some (.slice i.CA i.C.length i.cc) ∧ w'.cell? ⟨w.heap.size + 1, 2, none⟩ = some (.slice i.RA i.R.length i.rc) ∧ w'.cell? ⟨w.heap.size + 1, 3, none⟩ = some (.slice i.I.A i.I.l.length i.I.c)) := fun w' h => ⟨bbox_of (b := b) (blk_lat hkk1 h), cell_of_blk (blk_lat hk2 h) 0, cell_of_blk (blk_lat hk2 h) 1, cell_of_blk (blk_lat hk2 h) 2, cell_of_blk (blk_lat hk2 h) 3⟩
  have HS0 := Lib.hid hS
  have htr := fun k (hk' : k < (verd b i m).length) w' (h : Below W2.heap.size W2 w') => rTrue_any b i m w' f hm hk hci ((hb.later hB).later h) ((hi.later hB).later h) k hk'
  have hax := fun w' => rAxioms_any b w' (Nat.le_trans f.I (by decide)) (Nat.le_trans f.R (by decide)) (Nat.le_trans f.F (by decide)) (Nat.le_trans f.L (by decide))
  rw [← hlen] at hax
  have hct : (verd b i m).length ≤ 4000 := by rw [hlen]; have := f.I; have := f.R; have := f.F; have := f.L; omega
  obtain ⟨V, hV⟩ : ∃ V, verd b i m = V := ⟨_, rfl⟩
  rw [hV] at htr hax hct ⊢
  have HB := Lib.hid hB
  have HTR := Lib.hid htr
  have HAX := Lib.hid hax
  obtain ⟨⟨c0, c1, c2, c3, c4, c5, c6⟩, c7, c8, c9, c10⟩ := hS W2 (Below.refl _ _)
  obtain ⟨i0, hi0, hz0, hz1, hz2⟩ := info_parts intR_info
  simp only [IN.val, BN.val] at HTR HAX ⊢
  clear hm hk hci hb hi hB hB1 hB2 hk1 hk2 hkk1 hS htr hax hV hlen f
  go_enter Tryz.func18, Tryz.ntmps18
  go_wp2_with (go_at_call 20; refine (HAX.out W2).mono ?_; rintro e w3 ⟨rfl, hb3⟩)
  have HB3 := Lib.hid hb3
  clear c0 c1 c2 c3 c4 c5 c6 c7 c8 c9 c10 hb3
  go_loopw [5, 9] (fun v i' wr => ∃ j : Nat, j ≤ V.length ∧ i' = .int .i64 (j : Nat) ∧ wr.ownsRow w3.heap.size 3 1 v (selR (wrongP V) j).length ((selR (wrongP V) j).map icell) ∧ Below w3.heap.size w3 wr) (fun _ i' _ => V.length - (intOf i').toNat)
  case atStart => exact ⟨0, Nat.zero_le _, rfl, ⟨rfl, .inl ⟨rfl, rfl⟩⟩, Below.refl _ _⟩
  case round =>
    rename World => wr
    obtain ⟨j, hj, rfl, hrow, hbw⟩ := hrel
    have hb2r : Below W2.heap.size W2 wr := HB3.out.trans (hbw.mono HB3.out.size)
    by_cases hltj : j < V.length
    · obtain ⟨⟨c0, c1, c2, c3, c4, c5, c6⟩, c7, c8, c9, c10⟩ := HS0.out wr hb2r
      have htj := HTR.out j hltj wr hb2r
      have h0J : (0 : Int) ≤ j := by omega
      have hlJ : (j : Int) < V.length := by omega
      have hlen := selR_len (wrongP V) j
      obtain ⟨Q, hQ⟩ : ∃ Q, selR (wrongP V) j = Q := ⟨_, rfl⟩
      have HQ := Lib.hid (show selR (wrongP V) (j + 1) = Q ++ (if wrongP V j then [(j : Int)] else []) by rw [← hQ]; exact selR_next _ j)
      rw [hQ] at hrow hlen
      have HRW := Lib.hid hrow
      have HBW := Lib.hid hbw
      have hsw := hbw.size
      clear hQ hrow hbw hb2r
      rcases q : wrongP V j
      · rw [q] at HQ htj
        have HTJ := Lib.hid htj
        clear q htj
        go_wp2_with (go_at_call 61; refine HTJ.out.mono ?_; rintro e w4 ⟨rfl, hb4⟩)
        go_roundw
        case rel => exact ⟨j + 1, by omega, by go_num, by have h := HQ.out; simp only [Bool.false_eq_true, if_false, List.append_nil] at h; rw [h]; exact owns_below HRW.out hb4, HBW.out.trans (hb4.mono HBW.out.size)⟩
        case measure => simp [intOf]; omega
      · rw [q] at HQ htj
        have HTJ := Lib.hid htj
        clear q htj
        go_wp2_with (first
          | (at_builtin; refine wpList_append_lies _ rfl _ _ 33 rfl w3.heap.size 3 i0 _ 1 8 Tryz.underlying33 hi0 hz0 hz1 hz2 rfl (by omega) _ Q.length (Q.map icell) rfl (owns_below HRW4.out ((Below.refl _ w4).alloc (Nat.le_refl _) (.cells #[.int .i64 (j : Nat)] 3))) ⟨w4.heap.size, 0, none⟩ 1 1 [.int .i64 (j : Nat)] rfl rfl (World.news_of_block (cs := #[.int .i64 (j : Nat)]) (t := 3) (fr := (0, 0)) (heap_alloc_new w4 (.cells #[.int .i64 (j : Nat)] 3))) (by simp [Value.oneCell']) (by omega) (by unfold maxLen; omega) (by omega) (by have := HB4.out.size; simp; omega) (w4.heap.size + 1) (by simp) ?_; intro g6 cap w6 hown6 hg6 hat6 hlt6)
          | (go_at_call 61; refine HTJ.out.mono ?_; rintro e w4 ⟨rfl, hb4⟩; have HRW4 := Lib.hid (owns_below HRW.out hb4); have HB4 := Lib.hid (HBW.out.trans (hb4.mono HBW.out.size)); clear hb4))
        have hb6 : Below w3.heap.size w3 w6 := (HB4.out.alloc (by have := HB4.out.size; omega) _).grown hg6 (by have := HB4.out.size; simp; omega) (fun k e => (own_lt HRW4.out e).1)
        refine ⟨⟨j + 1, by omega, by go_num, ?_, hb6⟩, by simp [intOf]; omega⟩
        have h := HQ.out
        simp only [if_true] at h
        rw [h, List.length_append, List.map_append]
        exact hown6
    · have hje : j = V.length := by omega
      subst hje
      obtain ⟨A, c, hv, hin⟩ := il_of_owns hrow
      subst hv
      have HI2 := Lib.hid hin
      have HBW := Lib.hid hb2r
      clear hin hrow hbw hb2r
      go_wp2
      go_ret
      exact ⟨⟨A, c, selR (wrongP V) V.length⟩, rfl, rfl, HI2.out, HB.out.trans (HBW.out.mono HB.out.size)⟩
end Go.Proofs.YtnkkpjgclekobaaGreatDoor
