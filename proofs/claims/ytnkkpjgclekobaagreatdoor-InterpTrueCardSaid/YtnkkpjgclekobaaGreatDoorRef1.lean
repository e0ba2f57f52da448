import Derived.Test.YtnkkpjgclekobaaGreatDoorMid
namespace Go.Proofs.YtnkkpjgclekobaaGreatDoor
open Go.RowKit

set_option maxHeartbeats 400000 in
theorem letter_any (a : Int) (h0 : 0 ≤ a) (h1 : a ≤ 255) (w : World) :
    Calls Tryz.prog 168 #[.int .u8 a] w fun e w' => e = .returned (.bool (isLet a)) ∧ w = w' := by
  by_cases k1 : 97 ≤ a <;> by_cases k2 : a ≤ 122 <;> by_cases k3 : 65 ≤ a <;> by_cases k4 : a ≤ 90
  all_goals first | omega | skip
  all_goals
    go_enter Tryz.func168, Tryz.ntmps168
    go_wp2
    go_ret
    refine ⟨?_, rfl⟩
    simp [isLet, *]
    try omega
set_option maxHeartbeats 400000 in
theorem digit_any (a : Int) (h0 : 0 ≤ a) (h1 : a ≤ 255) (w : World) :
    Calls Tryz.prog 169 #[.int .u8 a] w fun e w' => e = .returned (.bool (isDig a)) ∧ w = w' := by
  by_cases k1 : 48 ≤ a <;> by_cases k2 : a ≤ 57
  all_goals first | omega | skip
  all_goals
    go_enter Tryz.func169, Tryz.ntmps169
    go_wp2
    go_ret
    refine ⟨?_, rfl⟩
    simp [isDig, *]
    try omega
set_option maxRecDepth 100000 in
set_option maxHeartbeats 400000 in
theorem Reserved_any (s : ByteArray) (w : World) :
    Calls Tryz.prog 136 #[.string s] w fun e w' => e = .returned (.bool (resB s.toList)) ∧ w = w' := by
  go_enter Tryz.func136, Tryz.ntmps136
  go_wp2
  all_goals
    go_ret
    refine ⟨?_, rfl⟩
    simp_all [resB]

theorem wordL_start (s : ByteArray) (h : 0 < s.size) (hl : isLet s[0].toNat = false) : wordL s.data.toList = false := by
  have g0 := bytes_get s 0 h
  cases hd : s.data.toList with
  | nil => rfl
  | cons c r =>
    rw [hd] at g0; simp only [List.getElem?_cons_zero, Option.some.injEq] at g0; subst g0
    simp only [wordL, hl, Bool.false_and]
theorem isIn_of_let {a : Int} (h : isLet a = true) : isIn a = true := by simp [isIn, h]

set_option maxRecDepth 100000 in
set_option maxHeartbeats 1000000 in
theorem Word_any (s : ByteArray) (hs : s.size ≤ maxLen) (w : World) :
    Calls Tryz.prog 135 #[.string s] w fun e w' => e = .returned (.bool (wordL s.data.toList)) ∧ w = w' := by
  unfold maxLen at hs
  go_enter Tryz.func135, Tryz.ntmps135
  go_wp2_with fail
  go_loop [3] (fun i => ∃ k : Nat, k ≤ s.size ∧ i = .int .i64 k ∧ (∀ j (hj : j < s.size), j < k → isIn s[j].toNat = true) ∧ (∀ h : 0 < s.size, 0 < k → isLet s[0].toNat = true)) (fun i => s.size - (intOf i).toNat)
  case atStart => exact ⟨0, Nat.zero_le _, rfl, fun j _ h => absurd h (by omega), fun _ h => absurd h (by omega)⟩
  case round =>
    obtain ⟨k, hk, rfl, hall, hst⟩ := hrel
    have HA := Lib.hid hall
    have HS := Lib.hid hst
    clear hall hst
    by_cases hlt : k < s.size
    · have hw := letter_any s[k].toNat (Int.natCast_nonneg _) (u8_le _) w
      have hd := digit_any s[k].toNat (Int.natCast_nonneg _) (u8_le _) w
      cases hl : isLet s[k].toNat
      all_goals rw [hl] at hw
      · by_cases k0 : k = 0
        · subst k0
          have HR := Lib.hid (wordL_start s hlt hl)
          clear hl
          go_wp2_with (first | (go_at_call 168; refine hw.mono ?_; rintro e w' ⟨rfl, rfl⟩))
          go_ret
          exact ⟨ret_bool HR.out.symm, rfl⟩
        · have k0' : ((k : Int) == 0) = false := by simp; omega
          cases hdg : isDig s[k].toNat
          all_goals rw [hdg] at hd
          · rcases hu : ((s[k].toNat : Int) == 95)
            · have HR := Lib.hid (wordL_false_of s k hlt (by simp only [isIn, hl, hdg, hu]; rfl))
              have hu' : ((s[k].toNat : Int) != 95) = true := by rw [bne, hu]; rfl
              clear hl hdg hu
              go_wp2_with (first | (go_at_call 168; refine hw.mono ?_; rintro e w' ⟨rfl, rfl⟩) | (go_at_call 169; refine hd.mono ?_; rintro e w' ⟨rfl, rfl⟩))
              go_ret
              exact ⟨ret_bool HR.out.symm, rfl⟩
            · have HI := Lib.hid (show isIn s[k].toNat = true by simp only [isIn, hl, hdg, hu]; rfl)
              have hu' : ((s[k].toNat : Int) != 95) = false := by rw [bne, hu]; rfl
              clear hl hdg hu
              go_wp2_with (first | (go_at_call 168; refine hw.mono ?_; rintro e w' ⟨rfl, rfl⟩) | (go_at_call 169; refine hd.mono ?_; rintro e w' ⟨rfl, rfl⟩))
              go_round
              case rel => exact ⟨k + 1, by omega, by go_num, fun j hj hjk => by
                by_cases e : j = k
                · subst e; exact HI.out
                · exact HA.out j hj (by omega), fun h _ => HS.out h (by omega)⟩
              case measure => simp [intOf]; omega
          · have HI := Lib.hid (show isIn s[k].toNat = true by simp only [isIn, hl, hdg]; rfl)
            clear hl hdg
            go_wp2_with (first | (go_at_call 168; refine hw.mono ?_; rintro e w' ⟨rfl, rfl⟩) | (go_at_call 169; refine hd.mono ?_; rintro e w' ⟨rfl, rfl⟩))
            go_round
            case rel => exact ⟨k + 1, by omega, by go_num, fun j hj hjk => by
              by_cases e : j = k
              · subst e; exact HI.out
              · exact HA.out j hj (by omega), fun h _ => HS.out h (by omega)⟩
            case measure => simp [intOf]; omega
      · have HI := Lib.hid (isIn_of_let hl)
        have HL := Lib.hid hl
        clear hl
        go_wp2_with (first | (go_at_call 168; refine hw.mono ?_; rintro e w' ⟨rfl, rfl⟩))
        go_round
        case rel => exact ⟨k + 1, by omega, by go_num, fun j hj hjk => by
          by_cases e : j = k
          · subst e; exact HI.out
          · exact HA.out j hj (by omega), fun h _ => by
          by_cases e : k = 0
          · subst e; exact HL.out
          · exact HS.out h (by omega)⟩
        case measure => simp [intOf]; omega
    · by_cases h0 : s.size = 0
      · have hd : s.data.toList = [] := List.eq_nil_of_length_eq_zero (by rw [data_size]; exact h0)
        have HR := Lib.hid (show wordL s.data.toList = false by rw [hd]; rfl)
        have hl : s.toList = [] := by rw [ByteArray.toList_eq]; exact hd
        go_wp2
        go_ret
        exact ⟨ret_bool rfl, rfl⟩
      · have hk' : k = s.size := by omega
        have HR := Lib.hid (wordL_true_of s (by omega) (HS.out (by omega) (by omega)) (fun j hj => HA.out j hj (by omega)))
        have hemp : s.toList.isEmpty = false := by
          rw [ByteArray.toList_eq]; cases he : s.data.toList with
          | nil => have h2 := data_size s
                   rw [he] at h2; simp at h2; omega
          | cons a b => rfl
        have hne : ¬ s.toList = [] := by intro h; rw [h] at hemp; cases hemp
        go_wp2
        go_ret
        exact ⟨ret_bool (by rw [HR.out]), rfl⟩

set_option maxHeartbeats 1000000 in
theorem Name_any (s : ByteArray) (hs : s.size ≤ maxLen) (w : World) :
    Calls Tryz.prog 93 #[.string s] w fun e w' => e = .returned (.bool (nameB s)) ∧ w = w' := by
  have hw := Word_any s hs w
  have hr := Reserved_any s w
  rw [ByteArray.toList_eq] at hr
  have HF := Lib.hid (show nameB s = (decide (s.size ≤ 12) && wordL s.data.toList && !resB s.data.toList) from rfl)
  unfold maxLen at hs
  by_cases h1 : s.size ≤ 12
  · cases h2 : wordL s.data.toList <;> cases h3 : resB s.data.toList
    all_goals
      rw [h2] at hw HF
      rw [h3] at hr HF
      rw [decide_eq_true h1] at HF
      clear h2 h3
      go_enter Tryz.func93, Tryz.ntmps93
      go_wp2_with (first | (go_at_call 135; refine hw.mono ?_; rintro e w' ⟨rfl, rfl⟩) | (go_at_call 136; refine hr.mono ?_; rintro e w' ⟨rfl, rfl⟩))
      go_ret
      exact ⟨ret_bool (by rw [HF.out]; rfl), rfl⟩
  · rw [decide_eq_false h1] at HF
    go_enter Tryz.func93, Tryz.ntmps93
    go_wp2
    go_ret
    exact ⟨ret_bool (by rw [HF.out, Bool.false_and, Bool.false_and]), rfl⟩

theorem getD_of {l : List ByteArray} {k : Nat} (h : k < l.length) : l.getD k ByteArray.empty = l[k] := by
  rw [List.getD_eq_getElem?_getD, List.getElem?_eq_getElem h]; rfl
set_option maxRecDepth 100000 in
set_option maxHeartbeats 1000000 in
theorem Find_any (sl : SL) (B : Nat) (t : ByteArray) (w : World) (h : sl.In B w) : Calls Tryz.prog 94 #[.slice sl.A sl.l.length sl.c, .string t] w fun e w' => e = .returned (.int .i64 (Lib.idxOfS sl.l t)) ∧ w = w' := by
  have hcs := fun k (hk : k < sl.l.length) => h.cells (by omega : sl.l.length ≠ 0)
  obtain ⟨A, c, l⟩ := sl
  have hlc : l.length ≤ c := h.1
  have hcm : c ≤ 9223372036854775807 := h.2.1
  simp only at hcs ⊢
  go_enter Tryz.func94, Tryz.ntmps94
  go_wp2_with fail
  go_loop [9] (fun i => ∃ k : Nat, k ≤ l.length ∧ i = .int .i64 k ∧ ∀ j, j < k → l.getD j ByteArray.empty ≠ t) (fun i => l.length - (intOf i).toNat)
  case atStart => exact ⟨0, Nat.zero_le _, rfl, fun j h => absurd h (by omega)⟩
  case round =>
    obtain ⟨k, hk, rfl, hall⟩ := hrel
    have HA := Lib.hid hall
    clear hall
    by_cases hlt : k < l.length
    · obtain ⟨b, off, hA, hb, hc⟩ := hcs k hlt
      subst hA
      have hck := hc k hlt
      clear hc hcs
      rw [getD_of hlt] at hck
      have hkc : k < c := by omega
      rcases he : (t.toList == l[k].toList)
      · have hne : l.getD k ByteArray.empty ≠ t := by
          rw [getD_of hlt]
          intro e
          rw [e] at he; simp at he
        have HN := Lib.hid hne
        clear hne
        go_wp2
        go_round
        case rel => exact ⟨k + 1, by omega, by go_num, fun j hj => by
          by_cases e : j = k
          · subst e; exact HN.out
          · exact HA.out j (by omega)⟩
        case measure => simp [intOf]; omega
      · have hq : l.getD k ByteArray.empty = t := by
          rw [getD_of hlt]
          exact ((Lib.bytes_beq_iff _ _).1 he).symm
        have hi := Lib.idxOfS_hit l l.length k t hlt (Nat.le_refl _) hq HA.out
        rw [List.take_length] at hi
        have HI := Lib.hid hi
        clear hi hq
        go_wp2
        go_ret
        exact ⟨ret_int HI.out.symm, rfl⟩
    · have hi := Lib.idxOfS_miss l l.length t (fun j hj => HA.out j (by omega))
      rw [List.take_length] at hi
      have HI := Lib.hid hi
      clear hi
      go_wp2
      go_ret
      exact ⟨ret_int HI.out.symm, rfl⟩
end Go.Proofs.YtnkkpjgclekobaaGreatDoor
