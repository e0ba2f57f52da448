import Derived.Test.YtnkkpjgclekobaaDoorNames
namespace Go.Proofs.YtnkkpjgclekobaaDoor
open Go.RowKit

theorem SL.In.cells {B : Nat} {w : World} {s : SL} (h : s.In B w) (hne : s.l.length ≠ 0) :
    ∃ b off, s.A = some ⟨b, off, none⟩ ∧ b < B ∧ ∀ j, j < s.l.length → w.cell? ⟨b, off + j, none⟩ = some (.string (s.l.getD j ByteArray.empty)) := by
  obtain ⟨b, off, hA, hb, hc⟩ := h.2.2.2.1.2 hne
  refine ⟨b, off, hA, hb, fun j hj => ?_⟩
  rw [hc j (by omega), List.getElem?_map, List.getElem?_eq_getElem hj, List.getD_eq_getElem?_getD, List.getElem?_eq_getElem hj]
  rfl

def okL : List ByteArray → List ByteArray → Bool
  | _, [] => true
  | seen, x :: r => nameB x && !(Lib.containsS seen x) && okL (seen ++ [x]) r

def namesB (C R I : List ByteArray) : Bool := decide (C.length ≤ 16) && (decide (R.length ≤ 6) && (decide (I.length ≤ 10) && okL [] (C ++ R ++ I)))
def NM.ok (n : NM) : Bool := namesB n.C.l n.R.l n.I.l
/-- The error code of a check. -/
def codeIf (b : Bool) (e : Int) : Int := if b then 0 else e

theorem okL_step (l : List ByteArray) (k : Nat) (hk : k < l.length) : okL (l.take k) (l.drop k) = (nameB l[k] && !(Lib.containsS (l.take k) l[k]) && okL (l.take (k + 1)) (l.drop (k + 1))) := by
  rw [List.drop_eq_getElem_cons hk, okL, List.take_succ_eq_append_getElem hk]

set_option maxRecDepth 100000 in
set_option maxHeartbeats 2000000 in
theorem cNames_any (n : NM) (w : World) (hin : n.In w.heap.size w) :
    Calls Tryd.prog 47 #[n.val] w fun e w' => e = .returned (.int .i64 (codeIf n.ok 20)) ∧ Below w.heap.size w w' := by
  simp only [NM.val]
  have d1 : n.C.l.length ≤ 9223372036854775807 := Nat.le_trans hin.1.1 hin.1.2.1
  have d2 : n.R.l.length ≤ 9223372036854775807 := Nat.le_trans hin.2.1.1 hin.2.1.2.1
  have d3 : n.I.l.length ≤ 9223372036854775807 := Nat.le_trans hin.2.2.1 hin.2.2.2.1
  by_cases h1 : n.C.l.length ≤ 16
  · by_cases h2 : n.R.l.length ≤ 6
    · by_cases h3 : n.I.l.length ≤ 10
      · have HF := Lib.hid (show n.ok = okL [] (n.C.l ++ n.R.l ++ n.I.l) by simp only [NM.ok, namesB, decide_eq_true h1, decide_eq_true h2, decide_eq_true h3, Bool.true_and])
        obtain ⟨W1, hW1, hB1, hs1, hblk1⟩ := newBlk w _ rfl #[.slice n.C.A n.C.l.length n.C.c, .slice n.R.A n.R.l.length n.R.c, .slice n.I.A n.I.l.length n.I.c] 24
        obtain ⟨W2, hW2, hB2, hs2, hblk⟩ := newBlk W1 _ hs1 #[.slice n.C.A n.C.l.length n.C.c, .slice n.R.A n.R.l.length n.R.c, .slice n.I.A n.I.l.length n.I.c] 22
        have hB : Below w.heap.size w W2 := hB1.trans (hB2.mono (by omega))
        have hn2 := hin.later hB
        have hcat := Concat_any [n.C, n.R, n.I] (w.heap.size + 1) 3 W2 (by omega) (by simp) (by simp) (by simp only [List.mem_cons, List.not_mem_nil, or_false]; rintro s (rfl | rfl | rfl) <;> first | exact hn2.1 | exact hn2.2.1 | exact hn2.2.2)
          (by simp only [List.mem_cons, List.not_mem_nil, or_false]; rintro s (rfl | rfl | rfl) <;> omega)
          (by intro k hk; rw [cell_of_blk hblk]; simp only [List.length_cons, List.length_nil] at hk; match k, hk with | 0, _ => rfl | 1, _ => rfl | 2, _ => rfl)
        have c0 := cell_of_blk hblk1 0
        have c1 := cell_of_blk hblk1 1
        have c2 := cell_of_blk hblk1 2
        simp only [List.getElem?_toArray, List.getElem?_cons_zero, List.getElem?_cons_succ] at c0 c1 c2
        clear hblk1
        have HC := Lib.hid hcat
        clear hcat
        clear hB1 hB2 hblk hn2
        go_enter Tryd.func47, Tryd.ntmps47
        go_wp2_with (go_at_call 81; refine HC.out.mono ?_; rintro e w3 ⟨⟨sA, sc, sl⟩, rfl, hl, hsin, hb3⟩; have HL0 := Lib.hid hl; clear hl)
        have HBe := Lib.hid (hB.trans (hb3.mono (by omega)))
        have HL := Lib.hid (show sl = n.C.l ++ n.R.l ++ n.I.l by have := HL0.out; simpa [SL.all] using this)
        have d4 : sl.length ≤ 9223372036854775807 := Nat.le_trans hsin.1 hsin.2.1
        have HSz := hsin.2.2.2.2
        have HS := Lib.hid HSz
        have HIn := Lib.hid hsin
        clear HL0 hsin HSz hb3 hB HC
        go_loop [32] (fun i => ∃ k : Nat, k ≤ sl.length ∧ i = .int .i64 k ∧ n.ok = okL (sl.take k) (sl.drop k)) (fun i => sl.length - (intOf i).toNat)
        case atStart => exact ⟨0, Nat.zero_le _, rfl, by rw [HF.out, ← HL.out]; rfl⟩
        case round =>
          obtain ⟨k, hk, rfl, hok⟩ := hrel
          have HK := Lib.hid hok
          clear hok
          by_cases hlt : k < sl.length
          · obtain ⟨b, off, hA, hb, hc⟩ := HIn.out.cells (show sl.length ≠ 0 by omega)
            have hA' : sA = some ⟨b, off, none⟩ := hA
            subst hA'
            clear hA
            have hkc : k ≤ sc := by have : sl.length ≤ sc := HIn.out.1; omega
            dsimp only at hc
            have hck := hc k hlt
            have hgd : sl.getD k ByteArray.empty = sl[k] := by rw [List.getD_eq_getElem?_getD, List.getElem?_eq_getElem hlt]; rfl
            rw [hgd] at hck
            have hv := validName_any sl[k] (HS.out _ (List.getElem_mem _)) w3
            have HST := Lib.hid (okL_step sl k hlt)
            have hcon := Tryd.slices_Contains_string b off k sc sl sl[k] w3 (by omega) (by omega) hc
            clear hc hgd
            cases e1 : nameB sl[k] <;> cases e2 : Lib.containsS (sl.take k) sl[k]
            all_goals
              rw [e1] at hv
              rw [e2] at hcon
              have E1 := Lib.hid e1
              have E2 := Lib.hid e2
              clear e1 e2
            · go_wp2_with (first | (go_at_call 82; refine hv.mono ?_; rintro e w' ⟨rfl, rfl⟩) | (go_at_call 83; refine hcon.mono ?_; rintro e w' ⟨rfl, rfl⟩))
              go_ret
              exact ⟨ret_int (by rw [HK.out, HST.out, E1.out]; rfl), HBe.out⟩
            · go_wp2_with (first | (go_at_call 82; refine hv.mono ?_; rintro e w' ⟨rfl, rfl⟩) | (go_at_call 83; refine hcon.mono ?_; rintro e w' ⟨rfl, rfl⟩))
              go_ret
              exact ⟨ret_int (by rw [HK.out, HST.out, E1.out]; rfl), HBe.out⟩
            · go_wp2_with (first | (go_at_call 82; refine hv.mono ?_; rintro e w' ⟨rfl, rfl⟩) | (go_at_call 83; refine hcon.mono ?_; rintro e w' ⟨rfl, rfl⟩))
              go_round
              case rel => exact ⟨k + 1, by omega, by go_num, by rw [HK.out, HST.out, E1.out, E2.out]; simp⟩
              case measure => simp [intOf]; omega
            · go_wp2_with (first | (go_at_call 82; refine hv.mono ?_; rintro e w' ⟨rfl, rfl⟩) | (go_at_call 83; refine hcon.mono ?_; rintro e w' ⟨rfl, rfl⟩))
              go_ret
              exact ⟨ret_int (by rw [HK.out, HST.out, E1.out, E2.out]; rfl), HBe.out⟩
          · go_wp2
            go_ret
            exact ⟨ret_int (by rw [HK.out, List.drop_of_length_le (by omega), okL]; rfl), HBe.out⟩
      · have hF := Lib.hid (show n.ok = false by simp only [NM.ok, namesB, decide_eq_false h3, Bool.false_and, Bool.and_false])
        go_enter Tryd.func47, Tryd.ntmps47
        go_wp2
        go_ret
        exact ⟨ret_int (by rw [hF.out]; rfl), (Below.refl _ _).alloc (Nat.le_refl _) _⟩
    · have hF := Lib.hid (show n.ok = false by simp only [NM.ok, namesB, decide_eq_false h2, Bool.false_and, Bool.and_false])
      go_enter Tryd.func47, Tryd.ntmps47
      go_wp2
      go_ret
      exact ⟨ret_int (by rw [hF.out]; rfl), (Below.refl _ _).alloc (Nat.le_refl _) _⟩
  · have hF := Lib.hid (show n.ok = false by simp only [NM.ok, namesB, decide_eq_false h1, Bool.false_and])
    go_enter Tryd.func47, Tryd.ntmps47
    go_wp2
    go_ret
    exact ⟨ret_int (by rw [hF.out]; rfl), (Below.refl _ _).alloc (Nat.le_refl _) _⟩
end Go.Proofs.YtnkkpjgclekobaaDoor
