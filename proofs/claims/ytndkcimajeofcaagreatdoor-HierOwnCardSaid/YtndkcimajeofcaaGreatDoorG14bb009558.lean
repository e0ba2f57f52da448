import Derived.Test.YtndkcimajeofcaaGreatDoorProg
import Derived.WalkKit
import Derived.WalkSpells
import Derived.WalkLawsBesides
import Derived.Lib.Hide
import Derived.Deep.QuietTactic
import Derived.BigQuiet
namespace Go.Proofs.YtndkcimajeofcaaGreatDoor
open Go.RowKit

theorem ret_bool {a b : Bool} (h : a = b) : Ending.returned (.bool a) = .returned (.bool b) := by rw [h]
theorem ret_int {k : IntKind} {a b : Int} (h : a = b) : Ending.returned (.int k a) = .returned (.int k b) := by rw [h]
def isLet (a : Int) : Bool := decide (97 ≤ a) && decide (a ≤ 122) || decide (65 ≤ a) && decide (a ≤ 90)
def isDig (a : Int) : Bool := decide (48 ≤ a) && decide (a ≤ 57)
def isIn (a : Int) : Bool := isLet a || isDig a || a == 95

set_option maxHeartbeats 400000 in
theorem isLetter_any (a : Int) (h0 : 0 ≤ a) (h1 : a ≤ 255) (w : World) :
    Calls Tryz.prog 205 #[.int .u8 a] w fun e w' => e = .returned (.bool (isLet a)) ∧ w = w' := by
  by_cases k1 : 97 ≤ a <;> by_cases k2 : a ≤ 122 <;> by_cases k3 : 65 ≤ a <;> by_cases k4 : a ≤ 90
  all_goals first | omega | skip
  all_goals
    go_enter Tryz.func205, Tryz.ntmps205
    go_wp2
    go_ret
    refine ⟨?_, rfl⟩
    simp [isLet, *]
    try omega

set_option maxRecDepth 100000 in
set_option maxHeartbeats 400000 in
theorem inWord_any (a : Int) (h0 : 0 ≤ a) (h1 : a ≤ 255) (w : World) :
    Calls Tryz.prog 206 #[.int .u8 a] w fun e w' => e = .returned (.bool (isIn a)) ∧ w = w' := by
  have hc := isLetter_any a h0 h1 w
  have HF : Hid (isIn a = (isLet a || isDig a || a == 95)) := Lib.hid rfl
  cases hl : isLet a
  all_goals
    rw [hl] at hc HF
    clear hl
  · by_cases k1 : 48 ≤ a <;> by_cases k2 : a ≤ 57 <;> rcases k3 : (a == 95)
    all_goals first | omega | skip
    all_goals
      go_enter Tryz.func206, Tryz.ntmps206
      go_wp2_with (go_at_call 205; refine hc.mono ?_; rintro e w' ⟨rfl, rfl⟩)
      go_ret
      refine ⟨?_, rfl⟩
      rw [HF.out]
      simp [isDig, *]
      try omega
  · go_enter Tryz.func206, Tryz.ntmps206
    go_wp2_with (go_at_call 205; refine hc.mono ?_; rintro e w' ⟨rfl, rfl⟩)
    go_ret
    refine ⟨?_, rfl⟩
    rw [HF.out]
    simp

def resB (s : List UInt8) : Bool := s == [116, 111, 112] || s == [98, 111, 116] || s == [110, 111, 116] || s == [97, 110, 100] || s == [111, 114] || s == [115, 111, 109, 101] || s == [97, 108, 108] || s == [99, 111, 110, 99, 101, 112, 116] || s == [114, 111, 108, 101] || s == [105, 110, 100]

set_option maxHeartbeats 1000000 in
theorem reserved_any (s : ByteArray) (w : World) :
    Calls Tryz.prog 197 #[.string s] w fun e w' => e = .returned (.bool (resB s.toList)) ∧ w = w' := by
  go_enter Tryz.func197, Tryz.ntmps197
  go_wp2
  all_goals
    go_ret
    refine ⟨?_, rfl⟩
    simp_all [resB]

theorem u8_le (c : UInt8) : (c.toNat : Int) ≤ 255 := by have := c.toNat_lt; omega
theorem bytes_get (s : ByteArray) (k : Nat) (h : k < s.size) : s.data.toList[k]? = some s[k] := by
  rw [List.getElem?_eq_getElem (by simpa using h)]; rfl

def wordL (l : List UInt8) : Bool := match l with
  | [] => false
  | c :: r => isLet c.toNat && (c :: r).all fun c => isIn c.toNat

theorem wordL_false_of (s : ByteArray) (k : Nat) (h : k < s.size) (hi : isIn s[k].toNat = false) : wordL s.data.toList = false := by
  have hm : s[k] ∈ s.data.toList := List.mem_of_getElem? (bytes_get s k h)
  cases hl : s.data.toList with
  | nil => rfl
  | cons c r =>
    rw [hl] at hm
    have : ((c :: r).all fun c => isIn c.toNat) = false := by
      rw [Bool.eq_false_iff]; intro ha
      rw [List.all_eq_true] at ha
      have := ha _ hm
      rw [hi] at this; cases this
    simp only [wordL, this, Bool.and_false]

theorem wordL_true_of (s : ByteArray) (h0 : 0 < s.size) (hl : isLet s[0].toNat = true) (h : ∀ j (hj : j < s.size), isIn s[j].toNat = true) : wordL s.data.toList = true := by
  have g0 := bytes_get s 0 h0
  have hm : (s.data.toList.all fun c => isIn c.toNat) = true := by
    rw [List.all_eq_true]; intro c hc
    obtain ⟨j, hj, rfl⟩ := List.getElem_of_mem hc
    exact h j (by simpa using hj)
  cases hs : s.data.toList with
  | nil => rw [hs] at g0; cases g0
  | cons c r =>
    rw [hs] at g0 hm
    simp only [List.getElem?_cons_zero, Option.some.injEq] at g0
    subst g0
    simp only [wordL, hl, hm, Bool.and_true]

set_option maxHeartbeats 1000000 in
theorem isWord_any (s : ByteArray) (hs : s.size ≤ maxLen) (w : World) :
    Calls Tryz.prog 196 #[.string s] w fun e w' => e = .returned (.bool (wordL s.data.toList)) ∧ w = w' := by
  unfold maxLen at hs
  by_cases h0 : s.size = 0
  · have hl : s.toList = [] := by rw [ByteArray.toList_eq]; exact List.eq_nil_of_length_eq_zero (by simpa using h0)
    have hd : s.data.toList = [] := by rw [← ByteArray.toList_eq]; exact hl
    rw [hd]
    clear h0
    go_enter Tryz.func196, Tryz.ntmps196
    go_wp2
    go_ret
    exact ⟨rfl, rfl⟩
  · have h0' : 0 < s.size := by omega
    have hemp : s.toList.isEmpty = false := by
      rw [ByteArray.toList_eq]; cases he : s.data.toList with
      | nil => have h2 : s.data.size = 0 := by rw [← Array.length_toList, he]; rfl
               have h3 : s.size = s.data.size := rfl
               omega
      | cons a b => rfl
    have hc := isLetter_any s[0].toNat (by omega) (u8_le _) w
    cases hl : isLet s[0].toNat
    all_goals rw [hl] at hc
    · have hres : wordL s.data.toList = false := by
        have g0 := bytes_get s 0 h0'
        cases hd : s.data.toList with
        | nil => rfl
        | cons c r =>
          rw [hd] at g0; simp only [List.getElem?_cons_zero, Option.some.injEq] at g0; subst g0
          simp only [wordL, hl, Bool.false_and]
      rw [hres]
      clear hl hres
      go_enter Tryz.func196, Tryz.ntmps196
      go_wp2_with (go_at_call 205; refine hc.mono ?_; rintro e w' ⟨rfl, rfl⟩)
      go_ret
      exact ⟨rfl, rfl⟩
    · have HL := Lib.hid hl
      clear hl
      go_enter Tryz.func196, Tryz.ntmps196
      go_wp2_with (go_at_call 205; refine hc.mono ?_; rintro e w' ⟨rfl, rfl⟩)
      go_loop [14] (fun i => ∃ k : Nat, k ≤ s.size ∧ i = .int .i64 k ∧ ∀ j (hj : j < s.size), j < k → isIn s[j].toNat = true) (fun i => s.size - (intOf i).toNat)
      case atStart => exact ⟨0, Nat.zero_le _, rfl, fun j _ h => absurd h (by omega)⟩
      case round =>
        obtain ⟨k, hk, rfl, hall⟩ := hrel
        have HA := Lib.hid hall
        clear hall
        by_cases hlt : k < s.size
        · have hw := inWord_any s[k].toNat (Int.natCast_nonneg _) (u8_le _) w
          cases hi : isIn s[k].toNat
          all_goals rw [hi] at hw
          · have hres : wordL s.data.toList = false := wordL_false_of s k hlt hi
            have HR := Lib.hid hres
            clear hi hres
            go_wp2_with (go_at_call 206; refine hw.mono ?_; rintro e w' ⟨rfl, rfl⟩)
            go_ret
            exact ⟨ret_bool HR.out.symm, rfl⟩
          · have HI := Lib.hid hi
            clear hi
            go_wp2_with (go_at_call 206; refine hw.mono ?_; rintro e w' ⟨rfl, rfl⟩)
            go_round
            case rel => exact ⟨k + 1, by omega, by go_num, fun j hj hjk => by
              by_cases e : j = k
              · subst e; exact HI.out
              · exact HA.out j hj (by omega)⟩
            case measure => simp [intOf]; omega
        · go_wp2
          go_ret
          exact ⟨ret_bool (wordL_true_of s h0' HL.out (fun j hj => HA.out j hj (by omega))).symm, rfl⟩

def nameL (l : List UInt8) : Bool := wordL l && !resB l
set_option maxHeartbeats 1000000 in
theorem isName_any (s : ByteArray) (hs : s.size ≤ maxLen) (w : World) :
    Calls Tryz.prog 176 #[.string s] w fun e w' => e = .returned (.bool (nameL s.data.toList)) ∧ w = w' := by
  have hw := isWord_any s hs w
  have hr := reserved_any s w
  rw [ByteArray.toList_eq] at hr
  have HF : Hid (nameL s.data.toList = (wordL s.data.toList && !resB s.data.toList)) := Lib.hid rfl
  cases h2 : wordL s.data.toList <;> cases h3 : resB s.data.toList
  all_goals
    rw [h2] at hw HF
    rw [h3] at hr HF
    clear h2 h3
    go_enter Tryz.func176, Tryz.ntmps176
    go_wp2_with (first | (go_at_call 196; refine hw.mono ?_; rintro e w' ⟨rfl, rfl⟩) | (go_at_call 197; refine hr.mono ?_; rintro e w' ⟨rfl, rfl⟩))
    go_ret
    exact ⟨ret_bool HF.out.symm, rfl⟩

def nameB (s : ByteArray) : Bool := decide (s.size ≤ 12) && wordL s.data.toList && !resB s.data.toList

set_option maxHeartbeats 1000000 in
theorem validName_any (s : ByteArray) (hs : s.size ≤ maxLen) (w : World) :
    Calls Tryz.prog 143 #[.string s] w fun e w' => e = .returned (.bool (nameB s)) ∧ w = w' := by
  have hw := isName_any s hs w
  unfold maxLen at hs
  have HF : Hid (nameB s = (decide (s.size ≤ 12) && nameL s.data.toList)) := Lib.hid (by rw [nameB, nameL, Bool.and_assoc])
  by_cases h1 : s.size ≤ 12
  · have HR : Hid (nameB s = nameL s.data.toList) := Lib.hid (by rw [HF.out, decide_eq_true h1, Bool.true_and])
    clear HF
    go_enter Tryz.func143, Tryz.ntmps143
    go_wp2_with (go_at_call 176; refine hw.mono ?_; rintro e w' ⟨rfl, rfl⟩)
    go_ret
    exact ⟨ret_bool HR.out.symm, rfl⟩
  · have HR : Hid _ := Lib.hid (show nameB s = _ by rw [HF.out, decide_eq_false h1, Bool.false_and])
    clear HF
    go_enter Tryz.func143, Tryz.ntmps143
    go_wp2
    go_ret
    exact ⟨ret_bool HR.out.symm, rfl⟩
end Go.Proofs.YtndkcimajeofcaaGreatDoor
