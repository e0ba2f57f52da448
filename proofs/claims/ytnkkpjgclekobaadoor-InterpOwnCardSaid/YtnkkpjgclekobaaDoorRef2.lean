import Derived.Test.YtnkkpjgclekobaaDoorRef1
namespace Go.Proofs.YtnkkpjgclekobaaDoor
open Go.RowKit

def fewL (l : List ByteArray) : Bool := decide (l.length ≤ 100) && l.all fun x => decide (x.size ≤ 100)
def fewB (n : NM) : Bool := fewL n.C.l && (fewL n.R.l && fewL n.I.l)
def NM.at_ (n : NM) (k : Nat) : SL := if k = 0 then n.C else if k = 1 then n.R else n.I
theorem NM.at_in {n : NM} {B : Nat} {w : World} (h : n.In B w) (k : Nat) : (n.at_ k).In B w := by
  unfold NM.at_
  split
  · exact h.1
  · split
    · exact h.2.1
    · exact h.2.2
theorem few_at {n : NM} {k : Nat} (hk : k < 3) (h : fewL (n.at_ k).l = false) : fewB n = false := by
  unfold NM.at_ at h
  unfold fewB
  rcases (show k = 0 ∨ k = 1 ∨ k = 2 by omega) with rfl | rfl | rfl
  · rw [if_pos rfl] at h; rw [h, Bool.false_and]
  · rw [if_neg (by omega), if_pos rfl] at h; rw [h, Bool.false_and, Bool.and_false]
  · rw [if_neg (by omega), if_neg (by omega)] at h; rw [h, Bool.and_false, Bool.and_false]
theorem few_all {n : NM} (h : ∀ k, k < 3 → fewL (n.at_ k).l = true) : fewB n = true := by
  have h0 := h 0 (by omega)
  have h1 := h 1 (by omega)
  have h2 := h 2 (by omega)
  simp only [NM.at_, if_pos, if_neg, Nat.one_ne_zero, if_false, if_true, show ¬ (2 : Nat) = 0 by omega, show ¬ (2 : Nat) = 1 by omega] at h0 h1 h2
  rw [fewB, h0, h1, h2]; rfl

set_option maxRecDepth 100000 in
set_option maxHeartbeats 2000000 in
theorem FewNames_any (n : NM) (w : World) (hn : n.In w.heap.size w) : Calls Tryd.prog 6 #[n.val] w fun e w' => e = .returned (.bool (fewB n)) ∧ Below w.heap.size w w' := by
  obtain ⟨W1, hW1, hB1, hs1, hblk1⟩ := newBlk w _ rfl #[.slice n.C.A n.C.l.length n.C.c, .slice n.R.A n.R.l.length n.R.c, .slice n.I.A n.I.l.length n.I.c] 24
  have a0 := cell_of_blk hblk1 0
  have a1 := cell_of_blk hblk1 1
  have a2 := cell_of_blk hblk1 2
  simp only [List.getElem?_toArray, List.getElem?_cons_zero, List.getElem?_cons_succ] at a0 a1 a2
  obtain ⟨W2, hW2, hB2, hs2, hblk2⟩ := newBlk W1 _ hs1 #[.slice n.C.A n.C.l.length n.C.c, .slice n.R.A n.R.l.length n.R.c, .slice n.I.A n.I.l.length n.I.c] 22
  have hB : Below w.heap.size w W2 := hB1.trans (hB2.mono (by omega))
  have hin2 : ∀ k, (n.at_ k).In w.heap.size W2 := fun k => (NM.at_in hn k).below (Nat.le_refl _) hB
  have hce : ∀ k, k < 3 → W2.cell? ⟨w.heap.size + 1, k, none⟩ = some (.slice (n.at_ k).A (n.at_ k).l.length (n.at_ k).c) := fun k hk => by
    rw [cell_of_blk hblk2 k]
    rcases (show k = 0 ∨ k = 1 ∨ k = 2 by omega) with rfl | rfl | rfl <;> rfl
  have HB := Lib.hid hB
  clear hB hB1 hB2 hblk1 hblk2 hn
  simp only [NM.val]
  go_enter Tryd.func6, Tryd.ntmps6
  go_wp2_with fail
  go_loop [15] (fun i => ∃ k : Nat, k ≤ 3 ∧ i = .int .i64 k ∧ ∀ j, j < k → fewL (n.at_ j).l = true) (fun i => 3 - (intOf i).toNat)
  case atStart => exact ⟨0, Nat.zero_le _, rfl, fun j h => absurd h (by omega)⟩
  case round =>
    obtain ⟨k, hk, rfl, hall⟩ := hrel
    have HA := Lib.hid hall
    clear hall
    by_cases hlt : k < 3
    · have hck := hce k hlt
      have hsl := hin2 k
      have HF : fewL (n.at_ k).l = false → Hid (fewB n = false) := fun h => Lib.hid (few_at hlt h)
      have HT : fewL (n.at_ k).l = true → Hid (∀ j, j < k + 1 → fewL (n.at_ j).l = true) := fun h => Lib.hid (fun j hj => by
        by_cases e : j = k
        · subst e; exact h
        · exact HA.out j (by omega))
      clear HA hce hin2
      generalize n.at_ k = sl at hck hsl HF HT
      have hcs := fun (h : sl.l.length ≠ 0) => hsl.cells h
      have hszs := hsl.2.2.2.2
      obtain ⟨A, c, l⟩ := sl
      have hlc : l.length ≤ c := hsl.1
      have hcm : c ≤ 9223372036854775807 := hsl.2.1
      simp only at hck hcs HF HT hszs
      clear hsl
      by_cases hL : l.length ≤ 100
      · go_wp2_with fail
        go_loop [24] (fun i => ∃ m : Nat, m ≤ l.length ∧ i = .int .i64 m ∧ ∀ j, j < m → (l.getD j ByteArray.empty).size ≤ 100) (fun i => l.length - (intOf i).toNat)
        case atStart => exact ⟨0, Nat.zero_le _, rfl, fun j h => absurd h (by omega)⟩
        case round =>
          obtain ⟨m, hm, rfl, hall⟩ := hrel
          have HA := Lib.hid hall
          clear hall
          by_cases hmt : m < l.length
          · obtain ⟨b, off, hA, hb, hc⟩ := hcs (by omega)
            subst hA
            have hcm' := hc m hmt
            clear hc hcs
            have hmc : m < c := by omega
            have hgd := getD_of hmt
            by_cases hz : (l.getD m ByteArray.empty).size ≤ 100
            · have HZ := Lib.hid hz
              rw [hgd] at hcm' hz
              clear hgd
              go_wp2
              go_round
              case rel => exact ⟨m + 1, by omega, by go_num, fun j hj => by
                by_cases e : j = m
                · subst e; exact HZ.out
                · exact HA.out j (by omega)⟩
              case measure => simp [intOf]; omega
            · have hf := HF (by
                rw [fewL, Bool.and_eq_false_iff]
                right
                rw [List.all_eq_false]
                exact ⟨l[m], List.getElem_mem _, by rw [← hgd]; simpa using hz⟩)
              have hzs := hszs l[m] (List.getElem_mem _)
              unfold maxLen at hzs
              rw [hgd] at hcm' hz
              clear hgd HF HT
              go_wp2
              go_ret
              exact ⟨ret_bool hf.out.symm, HB.out⟩
          · have ht := HT (by
              rw [fewL, Bool.and_eq_true]
              refine ⟨decide_eq_true hL, ?_⟩
              rw [List.all_eq_true]
              intro x hx
              obtain ⟨j, hj, rfl⟩ := List.getElem_of_mem hx
              have := HA.out j (by omega)
              rw [getD_of hj] at this
              exact decide_eq_true this)
            clear HF HT
            go_wp2
            go_round
            case rel => exact ⟨k + 1, by omega, by go_num, ht.out⟩
            case measure => simp [intOf]; omega
      · have hf := HF (by rw [fewL, decide_eq_false hL, Bool.false_and])
        clear HF HT
        go_wp2
        go_ret
        exact ⟨ret_bool hf.out.symm, HB.out⟩
    · have hf := Lib.hid (few_all (n := n) (fun j hj => HA.out j (by omega)))
      go_wp2
      go_ret
      exact ⟨ret_bool hf.out.symm, HB.out⟩
end Go.Proofs.YtnkkpjgclekobaaDoor
