import Derived.Test.YtfecjdffnklkaaaDoorRd1
namespace Go.Proofs.YtfecjdffnklkaaaDoor
open Go.RowKit

set_option maxRecDepth 100000 in
set_option maxHeartbeats 1000000 in
theorem Within_any (s : ByteArray) (c : UInt8) (hs : s.size ≤ 1000000000) (w : World) :
    Calls Tryd.prog 87 #[.string s, .int .u8 c.toNat] w fun e w' => e = .returned (.bool (s.data.toList.contains c)) ∧ w = w' := by
  go_enter Tryd.func87, Tryd.ntmps87
  go_wp2_with fail
  go_loop [5] (fun i => ∃ k : Nat, k ≤ s.size ∧ i = .int .i64 k ∧ ∀ j (hj : j < s.size), j < k → ¬ s[j] = c) (fun i => s.size - (intOf i).toNat)
  case atStart => exact ⟨0, Nat.zero_le _, rfl, fun j _ h => absurd h (by omega)⟩
  case round =>
    obtain ⟨k, hk, rfl, hall⟩ := hrel
    have HA := Lib.hid hall
    clear hall
    by_cases hlt : k < s.size
    · by_cases he : s[k] = c
      · have he' : ((s[k].toNat : Int) == (c.toNat : Int)) = true := by rw [he]; simp
        have HR := Lib.hid (show s.data.toList.contains c = true by
          rw [List.contains_iff_mem, ← he, ← bget s k hlt]; exact List.getElem_mem _)
        clear he
        go_wp2
        go_ret
        exact ⟨ret_bool (HR.out.symm.trans (by simp)), rfl⟩
      · have he' : ((s[k].toNat : Int) == (c.toNat : Int)) = false := by
          rw [beq_eq_false_iff_ne]
          intro e
          exact he (UInt8.toNat_inj.1 (by omega))
        have HE := Lib.hid he
        clear he
        go_wp2
        go_round
        case rel => exact ⟨k + 1, by omega, by go_num, fun j hj hjk => by
          by_cases e : j = k
          · subst e; exact HE.out
          · exact HA.out j hj (by omega)⟩
        case measure => simp [intOf]; omega
    · have HR := Lib.hid (show s.data.toList.contains c = false by
        rw [Bool.eq_false_iff, ne_eq, List.contains_iff_mem]
        intro hm
        obtain ⟨j, hj, e⟩ := List.getElem_of_mem hm
        rw [data_size] at hj
        rw [bget s j hj] at e
        exact HA.out j hj (by omega) e)
      go_wp2
      go_ret
      exact ⟨ret_bool (HR.out.symm.trans (by simp)), rfl⟩

set_option maxRecDepth 100000 in
set_option maxHeartbeats 4000000 in
theorem rTokens_any (s m : ByteArray) (w : World) (hs : s.size ≤ 1000000) (hms : m.size ≤ 1000) (hM : ∀ c : UInt8, ([40, 41, 45] ++ m.data.toList).contains c = true → isLet c.toNat = false) : Calls Tryd.prog 62 #[.string s, .string m] w (RetToks ([40, 41, 45] ++ m.data.toList) s w) := by
  obtain ⟨i0, hi, hz0, hz1, hz2⟩ := info_parts str_info
  have hwi0 : ∀ (x : ByteArray) (c : UInt8) (w1 : World), x.data.toList = [40, 41, 45] ++ m.data.toList → Calls Tryd.prog 87 #[.string x, .int .u8 c.toNat] w1 fun e w' => e = .returned (.bool (([40, 41, 45] ++ m.data.toList).contains c)) ∧ w1 = w' := fun x c w1 hx => by
    have hxs : x.size ≤ 1000000000 := by
      have h1 := congrArg List.length hx
      rw [List.length_append, data_size, data_size] at h1
      simp only [List.length_cons, List.length_nil] at h1
      omega
    rw [← hx]
    exact Within_any x c hxs w1
  obtain ⟨M, HM⟩ : ∃ M, Hid ([40, 41, 45] ++ m.data.toList = M) := ⟨_, Lib.hid rfl⟩
  rw [HM.out]
  rw [HM.out] at hM
  simp only [HM.out] at hwi0
  have HMM := Lib.hid hM
  clear hM
  go_enter Tryd.func62, Tryd.ntmps62
  go_wp2_with fail
  go_loopw [6, 7] (fun v i wr => ∃ (k : Nat) (Ts : List ByteArray), k ≤ s.size ∧ i = .int .i64 k ∧ Ts.length ≤ k ∧ (∀ x ∈ Ts, x.size ≤ s.size) ∧ toksF M s.data.toList = (toksF M (s.data.toList.drop k)).map (fun l => Ts.map (·.data.toList) ++ l) ∧ wr.ownsRow w.heap.size 9 1 v Ts.length (Ts.map Value.string) ∧ Below w.heap.size w wr) (fun _ i _ => s.size - (intOf i).toNat)
  case atStart => exact ⟨0, [], Nat.zero_le _, rfl, Nat.le_refl _, by simp, by simp, ⟨rfl, .inl ⟨rfl, rfl⟩⟩, Below.refl _ _⟩
  case round =>
    obtain ⟨k, Ts, hk, rfl, hTk, hTs, htok, hown, hbw⟩ := hrel
    by_cases hlt : k < s.size
    · have hz := data_size s
      have HTO := Lib.hid htok
      clear htok
      by_cases h32 : s[k] = 32
      · have h32' : ((s[k].toNat : Int) == 32) = true := by rw [h32]; rfl
        have HST := Lib.hid (toks_sep (M := M) hlt (by rw [sepB, h32]; rfl))
        simp only [if_pos h32, Option.map_id'] at HST
        clear h32
        go_wp2
        go_roundw
        case rel => exact ⟨k + 1, Ts, by omega, by go_num, by omega, hTs, by rw [HTO.out, HST.out], hown, hbw⟩
        case measure => simp [intOf]; omega
      · have h32' : ((s[k].toNat : Int) == 32) = false := by
          rw [beq_eq_false_iff_ne]
          intro e
          exact h32 (UInt8.toNat_inj.1 (by have : s[k].toNat = 32 := by omega
                                           exact this))
        have hw := letter_any s[k].toNat (Int.natCast_nonneg _) (u8_le _) wr
        have hwi := fun x hx => hwi0 x s[k] wr hx
        clear hwi0
        rcases hl : isLet s[k].toNat
        · rw [hl] at hw
          rcases hc : M.contains s[k]
          · simp only [hc] at hwi
            have HB := Lib.hid (toks_bad (M := M) hlt (by rw [sepB, hc, Bool.or_false]; simpa using h32) hl)
            clear hl hc
            go_wp2_with (first | (go_at_call 85; refine hw.mono ?_; rintro e w' ⟨rfl, rfl⟩) | (go_at_call 87; refine (hwi _ (by simp [ByteArray.data_append, ← HM.out])).mono ?_; rintro e w' ⟨rfl, rfl⟩))
            go_ret2
            refine ⟨?_, hbw⟩
            rw [HTO.out, HB.out]; rfl
          · simp only [hc] at hwi
            have HST := Lib.hid (toks_sep (M := M) hlt (by rw [sepB, hc, Bool.or_true]))
            simp only [if_neg h32] at HST
            clear hl hc h32
            go_wp2_with (first | (go_at_call 85; refine hw.mono ?_; rintro e w' ⟨rfl, rfl⟩) | (go_at_call 87; refine (hwi _ (by simp [ByteArray.data_append, ← HM.out])).mono ?_; rintro e w' ⟨rfl, rfl⟩) | (at_builtin; refine wpList_append_own_at _ rfl _ _ 22 rfl w.heap.size 9 i0 _ 1 16 Tryd.underlying22 hi hz0 hz1 hz2 rfl (by omega) _ Ts.length (Ts.map Value.string) rfl (owns_below hown ((Below.refl _ wr).alloc (Nat.le_refl _) _)) ⟨wr.heap.size, 0, none⟩ 1 1 [.string (s.extract k (k + 1))] rfl rfl (World.news_of_block (cs := #[.string (s.extract k (k + 1))]) (t := 9) (fr := (0, 0)) (heap_alloc_new wr _)) (by simp [Value.oneCell']) (by unfold maxLen; omega) (by omega) (by have := hbw.size; simp; omega) ?_; intro v2 w2 hown2 hg2 _ _))
            go_roundw
            case rel => exact ⟨(k + 1), Ts ++ [s.extract k (k + 1)], by omega, by first | rfl | go_num, by rw [List.length_append, List.length_singleton]; omega, by
            intro x hx
            rcases List.mem_append.1 hx with hx | hx
            · exact hTs x hx
            · rw [List.mem_singleton.1 hx, ByteArray.size_extract]; omega, by rw [HTO.out, HST.out, Option.map_map]; congr 1; funext l; simp, by rw [List.length_append, List.map_append]; exact hown2, (hbw.alloc hbw.size _).grown hg2 (by simp; have := hbw.size; omega) (fun k hk => (own_lt hown hk).1)⟩
            case measure => simp [intOf]; omega
        · rw [hl] at hw
          have hsep : sepB M s[k] = false := by
            rw [sepB, Bool.or_eq_false_iff]
            refine ⟨by simpa using h32, ?_⟩
            rw [Bool.eq_false_iff]
            intro hc
            rw [HMM.out _ hc] at hl
            cases hl
          have HST : ∀ j : Nat, k < j → j ≤ s.size → (∀ i (hj : i < s.size), k < i → i < j → isIn s[i].toNat = true) → (∀ hm : j < s.size, isIn s[j].toNat = false) → Hid (toksF M (s.data.toList.drop k) = (toksF M (s.data.toList.drop j)).map (fun l => (s.extract k j).data.toList :: l)) := fun j a b c d => Lib.hid (toks_word hlt hsep hl a b c d)
          clear hsep hl h32 hwi
          go_wp2_with (first | (go_at_call 85; refine hw.mono ?_; rintro e w' ⟨rfl, rfl⟩))
          go_loop [8] (fun i => ∃ j : Nat, k < j ∧ j ≤ s.size ∧ i = .int .i64 j ∧ ∀ i (hi : i < s.size), k < i → i < j → isIn s[i].toNat = true) (fun i => s.size - (intOf i).toNat)
          case atStart => exact ⟨k + 1, by omega, by omega, by simp, fun j _ h h' => absurd h (by omega)⟩
          case round =>
            obtain ⟨j, hkj, hj, rfl, hall⟩ := hrel
            have HA := Lib.hid hall
            clear hall
            by_cases hjt : j < s.size
            · have hlj := letter_any s[j].toNat (Int.natCast_nonneg _) (u8_le _) wr
              have hdj := digit_any s[j].toNat (Int.natCast_nonneg _) (u8_le _) wr
              have HIN : Hid (isIn s[j].toNat = (isLet s[j].toNat || isDig s[j].toNat || (s[j].toNat : Int) == 95)) := Lib.hid rfl
              rcases hl : isLet s[j].toNat
              · rcases hd : isDig s[j].toNat
                · rcases hu : ((s[j].toNat : Int) == 95)
                  · have HF := HST j hkj hj HA.out (fun _ => by rw [HIN.out, hl, hd, hu]; rfl)
                    rw [hl] at hlj
                    rw [hd] at hdj
                    clear hl hd HST HIN
                    have hjk : ((k : Int) ≤ j) := by omega
                    go_wp2_with (first | (go_at_call 85; refine hlj.mono ?_; rintro e w' ⟨rfl, rfl⟩) | (go_at_call 86; refine hdj.mono ?_; rintro e w' ⟨rfl, rfl⟩) | (at_builtin; refine wpList_append_own_at _ rfl _ _ 22 rfl w.heap.size 9 i0 _ 1 16 Tryd.underlying22 hi hz0 hz1 hz2 rfl (by omega) _ Ts.length (Ts.map Value.string) rfl (owns_below hown ((Below.refl _ wr).alloc (Nat.le_refl _) _)) ⟨wr.heap.size, 0, none⟩ 1 1 [.string (s.extract k j)] rfl rfl (World.news_of_block (cs := #[.string (s.extract k j)]) (t := 9) (fr := (0, 0)) (heap_alloc_new wr _)) (by simp [Value.oneCell']) (by unfold maxLen; omega) (by omega) (by have := hbw.size; simp; omega) ?_; intro v2 w2 hown2 hg2 _ _))
                    go_roundw
                    case rel => exact ⟨j, Ts ++ [s.extract k j], by omega, by first | rfl | go_num, by rw [List.length_append, List.length_singleton]; omega, by
                    intro x hx
                    rcases List.mem_append.1 hx with hx | hx
                    · exact hTs x hx
                    · rw [List.mem_singleton.1 hx, ByteArray.size_extract]; omega, by rw [HTO.out, HF.out, Option.map_map]; congr 1; funext l; simp, by rw [List.length_append, List.map_append]; exact hown2, (hbw.alloc hbw.size _).grown hg2 (by simp; have := hbw.size; omega) (fun k hk => (own_lt hown hk).1)⟩
                    case measure => simp [intOf]; omega
                  · have HI := Lib.hid (show isIn s[j].toNat = true by rw [HIN.out, hl, hd, hu]; rfl)
                    rw [hl] at hlj
                    rw [hd] at hdj
                    clear hl hd HIN
                    go_wp2_with (first | (go_at_call 85; refine hlj.mono ?_; rintro e w' ⟨rfl, rfl⟩) | (go_at_call 86; refine hdj.mono ?_; rintro e w' ⟨rfl, rfl⟩))
                    go_round
                    case rel => exact ⟨j + 1, by omega, by omega, by go_num, fun i hi hik hij => by
                      by_cases e : i = j
                      · subst e; exact HI.out
                      · exact HA.out i hi hik (by omega)⟩
                    case measure => simp [intOf]; omega
                · have HI := Lib.hid (show isIn s[j].toNat = true by rw [HIN.out, hl, hd]; rfl)
                  rw [hl] at hlj
                  rw [hd] at hdj
                  clear hl hd HIN
                  go_wp2_with (first | (go_at_call 85; refine hlj.mono ?_; rintro e w' ⟨rfl, rfl⟩) | (go_at_call 86; refine hdj.mono ?_; rintro e w' ⟨rfl, rfl⟩))
                  go_round
                  case rel => exact ⟨j + 1, by omega, by omega, by go_num, fun i hi hik hij => by
                    by_cases e : i = j
                    · subst e; exact HI.out
                    · exact HA.out i hi hik (by omega)⟩
                  case measure => simp [intOf]; omega
              · have HI := Lib.hid (show isIn s[j].toNat = true by rw [HIN.out, hl]; rfl)
                rw [hl] at hlj
                clear hl HIN
                go_wp2_with (first | (go_at_call 85; refine hlj.mono ?_; rintro e w' ⟨rfl, rfl⟩))
                go_round
                case rel => exact ⟨j + 1, by omega, by omega, by go_num, fun i hi hik hij => by
                  by_cases e : i = j
                  · subst e; exact HI.out
                  · exact HA.out i hi hik (by omega)⟩
                case measure => simp [intOf]; omega
            · have HF := HST j hkj hj HA.out (fun h => absurd h hjt)
              clear HST
              have hjk : ((k : Int) ≤ j) := by omega
              go_wp2_with (first | (at_builtin; refine wpList_append_own_at _ rfl _ _ 22 rfl w.heap.size 9 i0 _ 1 16 Tryd.underlying22 hi hz0 hz1 hz2 rfl (by omega) _ Ts.length (Ts.map Value.string) rfl (owns_below hown ((Below.refl _ wr).alloc (Nat.le_refl _) _)) ⟨wr.heap.size, 0, none⟩ 1 1 [.string (s.extract k j)] rfl rfl (World.news_of_block (cs := #[.string (s.extract k j)]) (t := 9) (fr := (0, 0)) (heap_alloc_new wr _)) (by simp [Value.oneCell']) (by unfold maxLen; omega) (by omega) (by have := hbw.size; simp; omega) ?_; intro v2 w2 hown2 hg2 _ _))
              go_roundw
              case rel => exact ⟨j, Ts ++ [s.extract k j], by omega, by first | rfl | go_num, by rw [List.length_append, List.length_singleton]; omega, by
              intro x hx
              rcases List.mem_append.1 hx with hx | hx
              · exact hTs x hx
              · rw [List.mem_singleton.1 hx, ByteArray.size_extract]; omega, by rw [HTO.out, HF.out, Option.map_map]; congr 1; funext l; simp, by rw [List.length_append, List.map_append]; exact hown2, (hbw.alloc hbw.size _).grown hg2 (by simp; have := hbw.size; omega) (fun k hk => (own_lt hown hk).1)⟩
              case measure => simp [intOf]; omega
    · go_wp2
      go_ret2
      refine ⟨?_, hbw⟩
      rw [htok, List.drop_of_length_le (by rw [data_size]; omega), toksF_nil]
      obtain ⟨sl, hsl, rfl, hin⟩ := sl_of_row hown (fun x hx => Nat.le_trans (hTs x hx) (by unfold maxLen; omega))
      exact ⟨sl, by rw [← hsl]; rfl, by simp, hin⟩
end Go.Proofs.YtfecjdffnklkaaaDoor
