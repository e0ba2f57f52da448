import Derived.Test.YtopihjdpapaklaaDoorStr
import Derived.WalkLawsBesides
namespace Go.Proofs.YtopihjdpapaklaaDoor
open Go.RowKit

/-- The panic with ErrText. -/
def boom : List PanicEntry := [{ v := .iface 31 (.int .i64 11), recovered := false }]
def isSep (a : Int) : Bool := a == 32 || a == 40 || a == 41 || a == 45

set_option maxRecDepth 100000 in
set_option maxHeartbeats 1000000 in
theorem tokenEnd_sep (s : ByteArray) (k : Nat) (hk : k < s.size) (hs : s.size ≤ 1000000000) (h : isSep s[k].toNat = true) (w : World) :
    Calls Tryd.prog 99 #[.string s, .int .i64 k] w fun e w' => e = .returned (.int .i64 (k + 1 : Nat)) ∧ w = w' := by
  have h4 : (s[k].toNat : Int) = 32 ∨ (s[k].toNat : Int) = 40 ∨ (s[k].toNat : Int) = 41 ∨ (s[k].toNat : Int) = 45 := by
    simp only [isSep, Bool.or_eq_true, beq_iff_eq] at h; omega
  clear h
  rcases h4 with h | h | h | h
  all_goals
    go_enter Tryd.func99, Tryd.ntmps99
    go_wp2
    go_ret
    exact ⟨ret_int (by omega), rfl⟩

set_option maxRecDepth 100000 in
set_option maxHeartbeats 1000000 in
theorem tokenEnd_bad (s : ByteArray) (k : Nat) (hk : k < s.size) (hs : s.size ≤ 1000000000) (h : isSep s[k].toNat = false) (hl : isLet s[k].toNat = false) (w : World) :
    Calls Tryd.prog 99 #[.string s, .int .i64 k] w fun e w' => e = .panicked boom ∧ w = w' := by
  have hc := isLetter_any s[k].toNat (Int.natCast_nonneg _) (u8_le _) w
  rw [hl] at hc
  simp only [isSep, Bool.or_eq_false_iff] at h
  obtain ⟨⟨⟨h1, h2⟩, h3⟩, h4⟩ := h
  go_enter Tryd.func99, Tryd.ntmps99
  go_wp2_with (go_at_call 93; refine hc.mono ?_; rintro e w' ⟨rfl, rfl⟩)
  exact ⟨rfl, rfl, rfl⟩

set_option maxRecDepth 100000 in
set_option maxHeartbeats 1000000 in
theorem tokenEnd_word (s : ByteArray) (k : Nat) (hk : k < s.size) (hs : s.size ≤ 1000000000) (h : isSep s[k].toNat = false) (hl : isLet s[k].toNat = true) (w : World) :
    Calls Tryd.prog 99 #[.string s, .int .i64 k] w fun e w' => (∃ m : Nat, k < m ∧ m ≤ s.size ∧ (∀ j (hj : j < s.size), k < j → j < m → isIn s[j].toNat = true) ∧ (∀ hm : m < s.size, isIn s[m].toNat = false) ∧ e = .returned (.int .i64 m)) ∧ w = w' := by
  have hc := isLetter_any s[k].toNat (Int.natCast_nonneg _) (u8_le _) w
  rw [hl] at hc
  simp only [isSep, Bool.or_eq_false_iff] at h
  obtain ⟨⟨⟨h1, h2⟩, h3⟩, h4⟩ := h
  clear hl
  go_enter Tryd.func99, Tryd.ntmps99
  go_wp2_with (go_at_call 93; refine hc.mono ?_; rintro e w' ⟨rfl, rfl⟩)
  go_loop [6] (fun i => ∃ m : Nat, k < m ∧ m ≤ s.size ∧ i = .int .i64 m ∧ ∀ j (hj : j < s.size), k < j → j < m → isIn s[j].toNat = true) (fun i => s.size - (intOf i).toNat)
  case atStart => exact ⟨k + 1, by omega, by omega, by simp, fun j _ h h' => absurd h (by omega)⟩
  case round =>
    obtain ⟨m, hkm, hm, rfl, hall⟩ := hrel
    have HA := Lib.hid hall
    clear hall
    by_cases hlt : m < s.size
    · have hw := inWord_any s[m].toNat (Int.natCast_nonneg _) (u8_le _) w
      cases hi : isIn s[m].toNat
      all_goals rw [hi] at hw
      · have HI := Lib.hid hi
        clear hi
        go_wp2_with (go_at_call 94; refine hw.mono ?_; rintro e w' ⟨rfl, rfl⟩)
        go_ret
        exact ⟨⟨m, hkm, hm, HA.out, fun _ => HI.out, rfl⟩, rfl⟩
      · have HI := Lib.hid hi
        clear hi
        go_wp2_with (go_at_call 94; refine hw.mono ?_; rintro e w' ⟨rfl, rfl⟩)
        go_round
        case rel => exact ⟨m + 1, by omega, by omega, by go_num, fun j hj hjk hjm => by
          by_cases e : j = m
          · subst e; exact HI.out
          · exact HA.out j hj hjk (by omega)⟩
        case measure => simp [intOf]; omega
    · go_wp2
      go_ret
      exact ⟨⟨m, hkm, hm, HA.out, fun h => absurd h hlt, rfl⟩, rfl⟩
end Go.Proofs.YtopihjdpapaklaaDoor
