import Derived.Test.YtneegmhcmegijaaDoorStr
import Derived.WalkLawsBesides
namespace Go.Proofs.YtneegmhcmegijaaDoor
open Go.RowKit

/-- The panic with ErrText. -/
def boom : List PanicEntry := [{ v := .iface 33 (.int .i64 11), recovered := false }]
/-- A byte that is a token by itself, or a blank. -/
def sepB (M : List UInt8) (c : UInt8) : Bool := c == 32 || M.contains c

theorem indexByte_sign : ∀ (l : List UInt8) (c : UInt8), (l.contains c = true → 0 ≤ Lib.indexByte l c) ∧ (l.contains c = false → Lib.indexByte l c = -1)
  | [], c => ⟨fun h => by simp at h, fun _ => rfl⟩
  | b :: l, c => by
    obtain ⟨i1, i2⟩ := indexByte_sign l c
    rw [List.contains_cons, Lib.indexByte]
    by_cases hb : b = c
    · subst hb; simp
    · have h1 : (b == c) = false := by simpa using hb
      have h2 : (c == b) = false := by simpa using fun e : c = b => hb e.symm
      rw [h1, h2, Bool.false_or]
      simp only [Bool.false_eq_true, if_false]
      constructor
      · intro h
        have h0 := i1 h
        have hn : (Lib.indexByte l c == -1) = false := by rw [beq_eq_false_iff_ne]; omega
        rw [hn]; simp only [Bool.false_eq_true, if_false]; omega
      · intro h
        rw [i2 h]; rfl
theorem byte_back (c : UInt8) : ((c.toNat : Int).toNat).toUInt8 = c := by rw [Int.toNat_natCast]; simp

theorem indexByte_any (m : ByteArray) (c : UInt8) (w : World) : Calls Tryd.prog 166 #[.string m, .int .u8 c.toNat] w fun e w' => e = .returned (.int .i64 (Lib.indexByte m.data.toList c)) ∧ w = w' := by
  have := Tryd.strings_IndexByte m c.toNat w
  rw [byte_back] at this
  exact this.mono fun e w' h => ⟨h.1, h.2.symm⟩

set_option maxRecDepth 100000 in
set_option maxHeartbeats 1000000 in
theorem tokenEnd_sep (s m : ByteArray) (k : Nat) (hk : k < s.size) (hs : s.size ≤ 1000000000) (h : sepB m.data.toList s[k] = true) (w : World) :
    Calls Tryd.prog 132 #[.string s, .int .i64 k, .string m] w fun e w' => e = .returned (.int .i64 (k + 1 : Nat)) ∧ w = w' := by
  have hix := indexByte_any m s[k] w
  by_cases h32 : s[k] = 32
  · have h : (s[k].toNat : Int) = 32 := by rw [h32]; rfl
    clear h32 hix
    go_enter Tryd.func132, Tryd.ntmps132
    go_wp2
    go_ret
    exact ⟨ret_int (by omega), rfl⟩
  · have h0 : 0 ≤ Lib.indexByte m.data.toList s[k] := (indexByte_sign _ _).1 (by
      rw [sepB] at h
      rw [show (s[k] == 32) = false by simpa using h32] at h
      simpa using h)
    have h1 : ¬ (s[k].toNat : Int) = 32 := fun e => h32 (UInt8.toNat_inj.1 (by have : s[k].toNat = 32 := by omega
                                                                               exact this))
    generalize Lib.indexByte m.data.toList s[k] = v at hix h0
    clear h32 h
    go_enter Tryd.func132, Tryd.ntmps132
    go_wp2_with (go_at_call 166; refine hix.mono ?_; rintro e w' ⟨rfl, rfl⟩)
    go_ret
    exact ⟨ret_int (by omega), rfl⟩

theorem sep_false {m : List UInt8} {c : UInt8} (h : sepB m c = false) : (¬ (c.toNat : Int) = 32) ∧ Lib.indexByte m c = -1 := by
  rw [sepB, Bool.or_eq_false_iff] at h
  refine ⟨fun e => ?_, (indexByte_sign _ _).2 h.2⟩
  have : c = 32 := UInt8.toNat_inj.1 (by have : c.toNat = 32 := by omega
                                         exact this)
  subst this
  simp at h

set_option maxRecDepth 100000 in
set_option maxHeartbeats 1000000 in
theorem tokenEnd_bad (s m : ByteArray) (k : Nat) (hk : k < s.size) (hs : s.size ≤ 1000000000) (h : sepB m.data.toList s[k] = false) (hl : isLet s[k].toNat = false) (w : World) :
    Calls Tryd.prog 132 #[.string s, .int .i64 k, .string m] w fun e w' => e = .returned (.int .i64 k) ∧ w = w' := by
  have hc := isLetter_any s[k].toNat (Int.natCast_nonneg _) (u8_le _) w
  rw [hl] at hc
  have hix := indexByte_any m s[k] w
  obtain ⟨h1, h2⟩ := sep_false h
  rw [h2] at hix
  clear h2 h hl
  go_enter Tryd.func132, Tryd.ntmps132
  go_wp2_with (first | (go_at_call 167; refine hc.mono ?_; rintro e w' ⟨rfl, rfl⟩) | (go_at_call 166; refine hix.mono ?_; rintro e w' ⟨rfl, rfl⟩))
  go_ret
  exact ⟨rfl, rfl⟩

set_option maxRecDepth 100000 in
set_option maxHeartbeats 1000000 in
theorem tokenEnd_word (s m : ByteArray) (k : Nat) (hk : k < s.size) (hs : s.size ≤ 1000000000) (h : sepB m.data.toList s[k] = false) (hl : isLet s[k].toNat = true) (w : World) :
    Calls Tryd.prog 132 #[.string s, .int .i64 k, .string m] w fun e w' => (∃ m : Nat, k < m ∧ m ≤ s.size ∧ (∀ j (hj : j < s.size), k < j → j < m → isIn s[j].toNat = true) ∧ (∀ hm : m < s.size, isIn s[m].toNat = false) ∧ e = .returned (.int .i64 m)) ∧ w = w' := by
  have hc := isLetter_any s[k].toNat (Int.natCast_nonneg _) (u8_le _) w
  rw [hl] at hc
  have hix := indexByte_any m s[k] w
  obtain ⟨h1, h2⟩ := sep_false h
  rw [h2] at hix
  clear h2 h hl
  go_enter Tryd.func132, Tryd.ntmps132
  go_wp2_with (first | (go_at_call 167; refine hc.mono ?_; rintro e w' ⟨rfl, rfl⟩) | (go_at_call 166; refine hix.mono ?_; rintro e w' ⟨rfl, rfl⟩))
  go_loop [8] (fun i => ∃ m : Nat, k < m ∧ m ≤ s.size ∧ i = .int .i64 m ∧ ∀ j (hj : j < s.size), k < j → j < m → isIn s[j].toNat = true) (fun i => s.size - (intOf i).toNat)
  case atStart => exact ⟨k + 1, by omega, by omega, by simp, fun j _ h h' => absurd h (by omega)⟩
  case round =>
    obtain ⟨m, hkm, hm, rfl, hall⟩ := hrel
    have HA := Lib.hid hall
    clear hall
    by_cases hlt : m < s.size
    · have hw := inWord_any s[m].toNat (Int.natCast_nonneg _) (u8_le _) w
      cases hi : isIn s[m].toNat
      all_goals rw [hi] at hw
      · have HI := Lib.hid hi
        clear hi
        go_wp2_with (go_at_call 168; refine hw.mono ?_; rintro e w' ⟨rfl, rfl⟩)
        go_ret
        exact ⟨⟨m, hkm, hm, HA.out, fun _ => HI.out, rfl⟩, rfl⟩
      · have HI := Lib.hid hi
        clear hi
        go_wp2_with (go_at_call 168; refine hw.mono ?_; rintro e w' ⟨rfl, rfl⟩)
        go_round
        case rel => exact ⟨m + 1, by omega, by omega, by go_num, fun j hj hjk hjm => by
          by_cases e : j = m
          · subst e; exact HI.out
          · exact HA.out j hj hjk (by omega)⟩
        case measure => simp [intOf]; omega
    · go_wp2
      go_ret
      exact ⟨⟨m, hkm, hm, HA.out, fun h => absurd h hlt, rfl⟩, rfl⟩
end Go.Proofs.YtneegmhcmegijaaDoor
