import Derived.Test.YtnkkpjgclekobaaGreatDoorRef2
namespace Go.Proofs.YtnkkpjgclekobaaGreatDoor
open Go.RowKit

def NM.tot (n : NM) : List ByteArray := n.C.l ++ n.R.l ++ n.I.l
def NM.offs (n : NM) (k : Nat) : Nat := if k = 0 then 0 else if k = 1 then n.C.l.length else if k = 2 then n.C.l.length + n.R.l.length else n.tot.length
theorem offs_step (n : NM) (k : Nat) (hk : k < 3) : n.offs k + (n.at_ k).l.length = n.offs (k + 1) := by
  rcases (show k = 0 ∨ k = 1 ∨ k = 2 by omega) with rfl | rfl | rfl
  · simp [NM.offs, NM.at_]
  · simp [NM.offs, NM.at_]
  · simp [NM.offs, NM.at_, NM.tot]; omega
theorem offs_le (n : NM) (k : Nat) (hk : k ≤ 3) : n.offs k ≤ n.tot.length := by
  rcases (show k = 0 ∨ k = 1 ∨ k = 2 ∨ k = 3 by omega) with rfl | rfl | rfl | rfl
  all_goals simp [NM.offs, NM.tot]
  all_goals omega
theorem tot_get (n : NM) (k m : Nat) (hk : k < 3) (hm : m < (n.at_ k).l.length) (h : n.offs k + m < n.tot.length) : n.tot[n.offs k + m] = (n.at_ k).l[m] := by
  rcases (show k = 0 ∨ k = 1 ∨ k = 2 by omega) with rfl | rfl | rfl
  · simp only [NM.at_, if_true] at hm ⊢
    simp only [NM.offs, NM.tot, if_true, Nat.zero_add, List.append_assoc]
    rw [List.getElem_append_left hm]
  · simp only [NM.at_, Nat.one_ne_zero, if_false, if_true] at hm ⊢
    simp only [NM.offs, NM.tot, Nat.one_ne_zero, if_false, if_true, List.append_assoc]
    rw [List.getElem_append_right (by omega), List.getElem_append_left (by omega)]
    simp
  · simp only [NM.at_, show ¬ (2 : Nat) = 0 by omega, show ¬ (2 : Nat) = 1 by omega, if_false] at hm ⊢
    simp only [NM.offs, NM.tot, show ¬ (2 : Nat) = 0 by omega, show ¬ (2 : Nat) = 1 by omega, if_false, if_true, List.append_assoc]
    rw [List.getElem_append_right (by omega), List.getElem_append_right (by omega)]
    congr 1; omega

set_option maxRecDepth 100000 in
set_option maxHeartbeats 4000000 in
theorem rNames_any (n : NM) (w : World) (hn : n.In w.heap.size w) (h100 : n.C.l.length ≤ 1000 ∧ n.R.l.length ≤ 1000 ∧ n.I.l.length ≤ 1000) : Calls Tryz.prog 56 #[n.val] w fun e w' => e = .returned (.bool n.ok) ∧ Below w.heap.size w w' := by
  obtain ⟨i0, hi, hz0, hz1, hz2⟩ := info_parts str_info
  obtain ⟨W1, hW1, hB1, hs1, hblk1⟩ := newBlk w _ rfl #[.slice n.C.A n.C.l.length n.C.c, .slice n.R.A n.R.l.length n.R.c, .slice n.I.A n.I.l.length n.I.c] 24
  have a0 := cell_of_blk hblk1 0
  have a1 := cell_of_blk hblk1 1
  have a2 := cell_of_blk hblk1 2
  simp only [List.getElem?_toArray, List.getElem?_cons_zero, List.getElem?_cons_succ] at a0 a1 a2
  simp only [NM.val]
  by_cases h1 : n.C.l.length ≤ 16
  · by_cases h2 : n.R.l.length ≤ 6
    · by_cases h3 : n.I.l.length ≤ 10
      · obtain ⟨W2, hW2, hB2, hs2, hblk2⟩ := newBlk W1 _ hs1 #[.slice n.C.A n.C.l.length n.C.c, .slice n.R.A n.R.l.length n.R.c, .slice n.I.A n.I.l.length n.I.c] 22
        have hB : Below w.heap.size w W2 := hB1.trans (hB2.mono (by omega))
        have hin2 : ∀ k, (n.at_ k).In w.heap.size W2 := fun k => (NM.at_in hn k).below (Nat.le_refl _) hB
        have hce : ∀ k, k < 3 → W2.cell? ⟨w.heap.size + 1, k, none⟩ = some (.slice (n.at_ k).A (n.at_ k).l.length (n.at_ k).c) := fun k hk => by
          rw [cell_of_blk hblk2 k]
          rcases (show k = 0 ∨ k = 1 ∨ k = 2 by omega) with rfl | rfl | rfl <;> rfl
        have HF := Lib.hid (show n.ok = okL [] n.tot by simp only [NM.ok, namesB, decide_eq_true h1, decide_eq_true h2, decide_eq_true h3, Bool.true_and]; rfl)
        go_enter Tryz.func56, Tryz.ntmps56
        go_wp2_with fail
        have HB := Lib.hid hB
        have htl : n.tot.length ≤ 32 := by simp only [NM.tot, List.length_append]; omega
        have hoff := offs_le n
        have hsz : ∀ x ∈ n.tot, x.size ≤ maxLen := by
          intro x hx
          simp only [NM.tot, List.mem_append] at hx
          rcases hx with (hx | hx) | hx
          · exact hn.1.2.2.2.2 x hx
          · exact hn.2.1.2.2.2.2 x hx
          · exact hn.2.2.2.2.2.2 x hx
        clear hB hB1 hB2 hblk1 hblk2 a0 a1 a2 hn h100
        go_loopw [3, 32] (fun v i wr => ∃ k : Nat, k ≤ 3 ∧ i = .int .i64 k ∧ n.ok = okL (n.tot.take (n.offs k)) (n.tot.drop (n.offs k)) ∧ wr.ownsRow W2.heap.size 9 1 v (n.offs k) ((n.tot.take (n.offs k)).map Value.string) ∧ Below W2.heap.size W2 wr) (fun _ i _ => 3 - (intOf i).toNat)
        case atStart => exact ⟨0, Nat.zero_le _, rfl, by rw [HF.out]; rfl, ⟨rfl, .inl ⟨rfl, rfl⟩⟩, Below.refl _ _⟩
        case round =>
          obtain ⟨k, hk, rfl, hok, hown, hbw⟩ := hrel
          have HK := Lib.hid hok
          clear hok
          by_cases hlt : k < 3
          · have hck := (hbw.cell (p := ⟨w.heap.size + 1, k, none⟩) (show w.heap.size + 1 < W2.heap.size by omega)).trans (hce k hlt)
            have hsl := hin2 k
            have hst := offs_step n k hlt
            have hget := fun m hm h => tot_get n k m hlt hm h
            have hk1 := hoff (k + 1) (by omega)
            have HST := Lib.hid hst
            generalize n.at_ k = sl at hck hsl hst hget HST
            have hcs := fun (h : sl.l.length ≠ 0) => hsl.cells h
            obtain ⟨A, c, l⟩ := sl
            have hlc : l.length ≤ c := hsl.1
            have hcm : c ≤ 9223372036854775807 := hsl.2.1
            simp only at hck hcs hst hget HST
            clear hsl
            have HO := Lib.hid hown
            have HBW := Lib.hid hbw
            have hd3 : decide ((k : Int) < 3) = true := decide_eq_true (by omega)
            clear hown hbw hce hin2
            go_wp2_with fail
            go_loopw [3, 38] (fun v i wr => ∃ m : Nat, m ≤ l.length ∧ i = .int .i64 m ∧ n.ok = okL (n.tot.take (n.offs k + m)) (n.tot.drop (n.offs k + m)) ∧ wr.ownsRow W2.heap.size 9 1 v (n.offs k + m) ((n.tot.take (n.offs k + m)).map Value.string) ∧ Below W2.heap.size W2 wr) (fun _ i _ => l.length - (intOf i).toNat)
            case atStart => exact ⟨0, Nat.zero_le _, rfl, HK.out, HO.out, HBW.out⟩
            case round =>
              obtain ⟨m, hm, rfl, hok2, hown2, hbw2⟩ := hrel
              have HK2 := Lib.hid hok2
              clear hok2
              by_cases hmt : m < l.length
              · obtain ⟨b, off, hA, hb, hc⟩ := hcs (by omega)
                subst hA
                have hcm' := (hbw2.cell (p := ⟨b, off + m, none⟩) (show b < W2.heap.size by omega)).trans (hc m hmt)
                clear hc hcs
                have hmc : m < c := by omega
                rw [getD_of hmt] at hcm'
                have hpt : n.offs k + m < n.tot.length := by omega
                have hge := hget m hmt hpt
                have hsm := hsz _ (List.getElem_mem (h := hpt))
                rw [hge] at hsm
                have hnm := fun w' => Name_any l[m] hsm w'
                obtain ⟨sl, hv, hsl, hslin⟩ := sl_of_row (Ts := n.tot.take (n.offs k + m)) (by rw [List.length_take, Nat.min_eq_left (by omega)]; exact hown2) (fun x hx => hsz x (List.mem_of_mem_take hx))
                have hln : sl.l.length = n.offs k + m := by rw [hsl, List.length_take, Nat.min_eq_left (by omega)]
                have hfi := Find_any sl _ l[m] _ hslin
                rw [hsl] at hfi
                have hlt2 : (n.tot.take (n.offs k + m)).length = n.offs k + m := by rw [List.length_take, Nat.min_eq_left (by omega)]
                subst hv
                rw [hln] at hown2
                rw [hlt2] at hfi
                rw [hln]
                have HSTP := Lib.hid (okL_step n.tot (n.offs k + m) hpt)
                have HGE := Lib.hid hge
                have HOWN := Lib.hid hown2
                clear hge hget hslin hsl
                have hib := idx_bounds (n.tot.take (n.offs k + m)) l[m]
                rw [hlt2] at hib
                cases e1 : nameB l[m]
                · have HF1 := Lib.hid (show n.ok = false by rw [HK2.out, HSTP.out, HGE.out, e1, Bool.false_and, Bool.false_and])
                  rw [e1] at hnm
                  clear e1
                  go_wp2_with (first | (go_at_call 93; refine (hnm _).mono ?_; rintro e w' ⟨rfl, rfl⟩))
                  go_ret
                  exact ⟨ret_bool HF1.out.symm, HB.out.trans (hbw2.mono (by omega))⟩
                · rw [e1] at hnm
                  by_cases e2 : 0 ≤ Lib.idxOfS (n.tot.take (n.offs k + m)) l[m]
                  · have HF1 := Lib.hid (show n.ok = false by rw [HK2.out, HSTP.out, HGE.out, e1, Lib.containsS, decide_eq_true e2]; rfl)
                    clear e1
                    go_wp2_with (first | (go_at_call 93; refine (hnm _).mono ?_; rintro e w' ⟨rfl, rfl⟩) | (go_at_call 94; refine hfi.mono ?_; rintro e w' ⟨rfl, rfl⟩))
                    go_ret
                    exact ⟨ret_bool HF1.out.symm, HB.out.trans (hbw2.mono (by omega))⟩
                  · have HF1 := Lib.hid (show n.ok = okL (n.tot.take (n.offs k + m + 1)) (n.tot.drop (n.offs k + m + 1)) by rw [HK2.out, HSTP.out, HGE.out, e1, Lib.containsS, decide_eq_false e2]; rfl)
                    clear e1
                    have HEQ := Lib.hid (show (n.tot.take (n.offs k + m)) ++ [l[m]] = n.tot.take (n.offs k + m + 1) by rw [List.take_succ_eq_append_getElem hpt, HGE.out])
                    go_wp2_with (first | (go_at_call 93; refine (hnm _).mono ?_; rintro e w' ⟨rfl, rfl⟩) | (go_at_call 94; refine hfi.mono ?_; rintro e w' ⟨rfl, rfl⟩) | (at_builtin; (refine wpList_append_own_at _ rfl _ _ 22 rfl W2.heap.size 9 i0 _ 1 16 Tryz.underlying22 hi hz0 hz1 hz2 rfl (by omega) _ (n.offs k + m) ((n.tot.take (n.offs k + m)).map Value.string) rfl (owns_below HOWN.out ((Below.refl _ wr).alloc (Nat.le_refl _) _)) ⟨wr.heap.size, 0, none⟩ 1 1 [.string l[m]] rfl rfl (World.news_of_block (cs := #[.string l[m]]) (t := 9) (fr := (0, 0)) (heap_alloc_new wr _)) (by simp [Value.oneCell']) (by unfold maxLen; omega) (by omega) (by have := hbw2.size; simp; omega) ?_; intro v2 w2 hown3 hg3 _ _)))
                    go_roundw
                    case rel => exact ⟨m + 1, by omega, by go_num, HF1.out, by rw [← Nat.add_assoc, ← HEQ.out, List.map_append]; exact hown3, (hbw2.alloc hbw2.size _).grown hg3 (by simp; have := hbw2.size; omega) (fun k hk => (own_lt HOWN.out hk).1)⟩
                    case measure => simp [intOf]; omega
              · have hml : m = l.length := by omega
                subst hml
                have HO2 := Lib.hid hown2
                clear hown2
                go_wp2
                go_roundw
                case rel => exact ⟨k + 1, by omega, by go_num, by rw [HK2.out, HST.out], by rw [← HST.out]; exact HO2.out, hbw2⟩
                case measure => simp [intOf]; omega
          · have hk3 : k = 3 := by omega
            subst hk3
            have hF := Lib.hid (show n.ok = true by rw [HK.out, List.drop_of_length_le (by simp [NM.offs]), okL])
            go_wp2
            go_ret
            exact ⟨ret_bool hF.out.symm, HB.out.trans (hbw.mono (by omega))⟩
      · have hF := Lib.hid (show n.ok = false by simp only [NM.ok, namesB, decide_eq_false h3, Bool.false_and, Bool.and_false])
        go_enter Tryz.func56, Tryz.ntmps56
        go_wp2
        go_ret
        exact ⟨ret_bool (by rw [hF.out]), hB1⟩
    · have hF := Lib.hid (show n.ok = false by simp only [NM.ok, namesB, decide_eq_false h2, Bool.false_and, Bool.and_false])
      go_enter Tryz.func56, Tryz.ntmps56
      go_wp2
      go_ret
      exact ⟨ret_bool (by rw [hF.out]), hB1⟩
  · have hF := Lib.hid (show n.ok = false by simp only [NM.ok, namesB, decide_eq_false h1, Bool.false_and])
    go_enter Tryz.func56, Tryz.ntmps56
    go_wp2
    go_ret
    exact ⟨ret_bool (by rw [hF.out]), hB1⟩
end Go.Proofs.YtnkkpjgclekobaaGreatDoor
