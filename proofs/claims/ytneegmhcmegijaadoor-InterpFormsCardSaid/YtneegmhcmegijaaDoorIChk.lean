import Derived.Test.YtneegmhcmegijaaDoorIData
namespace Go.Proofs.YtneegmhcmegijaaDoor
open Go.RowKit

theorem any_hit {α : Type} {f : α → Bool} {l : List α} {k : Nat} (hk : k < l.length) (h : f l[k] = true) : l.any f = true := List.any_eq_true.2 ⟨_, List.getElem_mem hk, h⟩
theorem any_miss {α : Type} {f : α → Bool} {l : List α} (h : ∀ j (hj : j < l.length), f l[j] = false) : l.any f = false := by
  rw [List.any_eq_false]
  intro x hx
  obtain ⟨j, hj, rfl⟩ := List.getElem_of_mem hx
  rw [h j hj]; simp
theorem ret_bool' {a b : Bool} (h : a = b) : (Ending.returned (.bool a)) = .returned (.bool b) := by rw [h]

set_option maxRecDepth 100000 in
set_option maxHeartbeats 2000000 in
theorem idxI_any (i : IN) (b : Nat) (s : IL) (w : World) (hs : s.In w.heap.size w) (hb : IBox w b i) :
    Calls Tryd.prog 140 #[.slice s.A s.l.length s.c, .func (.func 104) #[] #[.pointer (some ⟨b, 0, none⟩)]] w fun e w' => (∃ r : Int, e = .returned (.int .i64 r) ∧ decide (r ≥ 0) = s.l.any (foreignB i.size)) ∧ w' = w := by
  have hlen : s.l.length ≤ 9223372036854775807 := Nat.le_trans hs.1 hs.2.1
  have hcs := fun h => IL.In.cells hs h
  obtain ⟨A, c, l⟩ := s
  dsimp only at *
  clear hs
  go_enter Tryd.func140, Tryd.ntmps140
  go_wp2_with fail
  go_loopw [8] (fun i' wr => ∃ k : Nat, k ≤ l.length ∧ i' = .int .i64 k ∧ (∀ j (hj : j < l.length), j < k → foreignB i.size l[j] = false) ∧ wr = w) (fun i' _ => l.length - (intOf i').toNat)
  case atStart => exact ⟨0, Nat.zero_le _, rfl, fun j _ h => absurd h (by omega), rfl⟩
  case round =>
    obtain ⟨k, hk, rfl, hall, rfl⟩ := hrel
    have HA := Lib.hid hall
    clear hall
    by_cases hlt : k < l.length
    · obtain ⟨g, off, rfl, -, d1⟩ := hcs (by omega)
      have e1 := d1 k hlt
      have hfo := foreign_any i b l[k] wr hb
      clear d1 hcs
      have h0I : (0 : Int) ≤ k := by omega
      have hlI : (k : Int) < l.length := by omega
      rcases hq : foreignB i.size l[k]
      · rw [hq] at hfo
        have HN := Lib.hid (show ∀ j (hj : j < l.length), j < k + 1 → foreignB i.size l[j] = false from fun j hj hjk => by
          by_cases e : j = k
          · subst e; exact hq
          · exact HA.out j hj (by omega))
        clear hq
        generalize l[k] = z at e1 hfo
        go_wp2_with (go_at_call 104; refine hfo.mono ?_; rintro e w' ⟨rfl, rfl⟩)
        go_roundw
        case rel => exact ⟨k + 1, by omega, by go_num, HN.out, by first | rfl | trivial⟩
        case measure => simp [intOf]; omega
      · rw [hq] at hfo
        have HF := Lib.hid (any_hit hlt hq)
        clear hq
        generalize l[k] = z at e1 hfo
        go_wp2_with (go_at_call 104; refine hfo.mono ?_; rintro e w' ⟨rfl, rfl⟩)
        go_ret
        exact ⟨⟨_, rfl, by rw [HF.out]; simp⟩, rfl⟩
    · have HF := Lib.hid (any_miss (f := foreignB i.size) (l := l) fun j hj => HA.out j hj (by omega))
      go_wp2
      go_ret
      exact ⟨⟨_, rfl, by rw [HF.out]; rfl⟩, rfl⟩
set_option maxRecDepth 100000 in
set_option maxHeartbeats 2000000 in
theorem conI_any (i : IN) (b : Nat) (s : IL) (w : World) (hs : s.In w.heap.size w) (hb : IBox w b i) :
    Calls Tryd.prog 106 #[.slice s.A s.l.length s.c, .func (.func 104) #[] #[.pointer (some ⟨b, 0, none⟩)]] w fun e w' => e = .returned (.bool (s.l.any (foreignB i.size))) ∧ w' = w := by
  have hix := idxI_any i b s w hs hb
  clear hs hb
  rcases hq : s.l.any (foreignB i.size)
  all_goals
    rw [hq] at hix
    go_enter Tryd.func106, Tryd.ntmps106
    go_wp2_with (go_at_call 140; refine hix.mono ?_; rintro e w4 ⟨⟨r, rfl, hdi⟩, rfl⟩)
    go_ret
    exact ⟨ret_bool' (by rw [← hdi]), rfl⟩

def forP (n : Int) (p : Int × Int) : Bool := foreignB n p.1 || foreignB n p.2
set_option maxRecDepth 100000 in
set_option maxHeartbeats 2000000 in
theorem idxP_any (i : IN) (b bf : Nat) (s : PL) (w : World) (hs : s.In w.heap.size w) (hb : IBox w b i) (hf : w.heap[bf]? = some (.cells #[.func (.func 104) #[] #[.pointer (some ⟨b, 0, none⟩)]] 172)) :
    Calls Tryd.prog 142 #[.slice s.A s.l.length s.c, .func (.func 105) #[] #[.pointer (some ⟨bf, 0, none⟩)]] w fun e w' => (∃ r : Int, e = .returned (.int .i64 r) ∧ decide (r ≥ 0) = s.l.any (forP i.size)) ∧ Below w.heap.size w w' := by
  have hlen : s.l.length ≤ 9223372036854775807 := Nat.le_trans hs.1 hs.2.1
  have hcs := fun h => PL.In.cells hs h
  obtain ⟨A, c, l⟩ := s
  dsimp only at *
  clear hs
  go_enter Tryd.func142, Tryd.ntmps142
  go_wp2_with fail
  go_loopw [8] (fun i' wr => ∃ k : Nat, k ≤ l.length ∧ i' = .int .i64 k ∧ (∀ j (hj : j < l.length), j < k → forP i.size l[j] = false) ∧ Below w.heap.size w wr) (fun i' _ => l.length - (intOf i').toNat)
  case atStart => exact ⟨0, Nat.zero_le _, rfl, fun j _ h => absurd h (by omega), Below.refl _ _⟩
  case round =>
    obtain ⟨k, hk, rfl, hall, hbw⟩ := hrel
    have HA := Lib.hid hall
    clear hall
    by_cases hlt : k < l.length
    · obtain ⟨g, off, rfl, hg, d1⟩ := hcs (by omega)
      obtain ⟨e1, e2⟩ := d1 k hlt
      have e1 := (hbw.cell (p := ⟨g, off + k * 2, none⟩) hg).trans e1
      have e2 := (hbw.cell (p := ⟨g, off + k * 2 + 1, none⟩) hg).trans e2
      have hfo := foreign2_any i b bf l[k] wr (blk_lat hb hbw) (blk_lat hf hbw)
      clear d1 hcs
      have h0I : (0 : Int) ≤ k := by omega
      have hlI : (k : Int) < l.length := by omega
      have hfq : (foreignB i.size l[k].1 || foreignB i.size l[k].2) = forP i.size l[k] := rfl
      rw [hfq] at hfo
      rcases hq : forP i.size l[k]
      · rw [hq] at hfo
        have HN := Lib.hid (show ∀ j (hj : j < l.length), j < k + 1 → forP i.size l[j] = false from fun j hj hjk => by
          by_cases e : j = k
          · subst e; exact hq
          · exact HA.out j hj (by omega))
        clear hq hfq
        generalize l[k] = z at e1 e2 hfo
        go_wp2_with (go_at_call 105; refine hfo.mono ?_; rintro e w' ⟨rfl, hb2⟩)
        go_roundw
        case rel => exact ⟨k + 1, by omega, by go_num, HN.out, hbw.trans (hb2.mono hbw.size)⟩
        case measure => simp [intOf]; omega
      · rw [hq] at hfo
        have HF := Lib.hid (any_hit hlt hq)
        clear hq hfq
        generalize l[k] = z at e1 e2 hfo
        go_wp2_with (go_at_call 105; refine hfo.mono ?_; rintro e w' ⟨rfl, hb2⟩)
        go_ret
        exact ⟨⟨_, rfl, by rw [HF.out]; simp⟩, hbw.trans (hb2.mono hbw.size)⟩
    · have HF := Lib.hid (any_miss (f := forP i.size) (l := l) fun j hj => HA.out j hj (by omega))
      go_wp2
      go_ret
      exact ⟨⟨_, rfl, by rw [HF.out]; rfl⟩, hbw⟩
set_option maxRecDepth 100000 in
set_option maxHeartbeats 2000000 in
theorem conP_any (i : IN) (b bf : Nat) (s : PL) (w : World) (hs : s.In w.heap.size w) (hb : IBox w b i) (hf : w.heap[bf]? = some (.cells #[.func (.func 104) #[] #[.pointer (some ⟨b, 0, none⟩)]] 172)) :
    Calls Tryd.prog 109 #[.slice s.A s.l.length s.c, .func (.func 105) #[] #[.pointer (some ⟨bf, 0, none⟩)]] w fun e w' => e = .returned (.bool (s.l.any (forP i.size))) ∧ Below w.heap.size w w' := by
  have hix := idxP_any i b bf s w hs hb hf
  clear hs hb hf
  rcases hq : s.l.any (forP i.size)
  all_goals
    rw [hq] at hix
    go_enter Tryd.func109, Tryd.ntmps109
    go_wp2_with (go_at_call 142; refine hix.mono ?_; rintro e w4 ⟨⟨r, rfl, hdi⟩, hb4⟩)
    go_ret
    exact ⟨ret_bool' (by rw [← hdi]), hb4⟩

set_option maxRecDepth 100000 in
set_option maxHeartbeats 2000000 in
theorem ascI_any (s : IL) (w : World) (hs : s.In w.heap.size w) :
    Calls Tryd.prog 107 #[.slice s.A s.l.length s.c, .func (.func 108) #[] #[]] w fun e w' => e = .returned (.bool (ascG ltI s.l)) ∧ Below w.heap.size w w' := by
  have hlen : s.l.length ≤ 9223372036854775807 := Nat.le_trans hs.1 hs.2.1
  have hcs := fun h => IL.In.cells hs h
  obtain ⟨A, c, l⟩ := s
  dsimp only at *
  clear hs
  go_enter Tryd.func107, Tryd.ntmps107
  go_wp2_with fail
  go_loopw [5] (fun i' wr => ∃ k : Nat, (1 ≤ k ∧ (k ≤ l.length ∨ k = 1)) ∧ i' = .int .i64 k ∧ (∀ j (hj : j + 1 < l.length), j + 1 < k → ltI l[j] l[j + 1] = true) ∧ Below w.heap.size w wr) (fun i' _ => l.length - (intOf i').toNat)
  case atStart => exact ⟨1, by omega, rfl, fun j _ h => absurd h (by omega), Below.refl _ _⟩
  case round =>
    obtain ⟨k, hk, rfl, hall, hbw⟩ := hrel
    have HA := Lib.hid hall
    clear hall
    by_cases hlt : k < l.length
    · obtain ⟨m, rfl⟩ : ∃ m, k = m + 1 := ⟨k - 1, by omega⟩
      obtain ⟨g, off, rfl, hg, d1⟩ := hcs (by omega)
      have e1 := (hbw.drew.cell (p := ⟨g, off + m, none⟩) hg).trans (d1 m (by omega))
      have e2 := (hbw.drew.cell (p := ⟨g, off + (m + 1), none⟩) hg).trans (d1 (m + 1) hlt)
      have hci := fun w => Tryd.cmp_Compare_int l[m] l[m + 1] w
      clear d1 hcs
      have hsub : wrap64 (m : Int) = m := by unfold wrap64; omega
      have hsubA : IntKind.i64.wrap ((m : Int) + 1 - 1) = m := by rw [IntKind.wrap_i64]; omega
      have hsubB : IntKind.i64.wrap (m : Int) = m := by rw [IntKind.wrap_i64]; omega
      have hsubC : wrap64 ((m : Int) + 1 - 1) = m := by unfold wrap64; omega
      have h2I : (m : Int) + 1 < l.length := by omega
      have h3I : (0 : Int) ≤ (m : Int) + 1 := by omega
      have h4I : ((m : Int) + 1).toNat = m + 1 := by omega
      have h0I : (0 : Int) ≤ m := by omega
      have hlI : (m : Int) < l.length := by omega
      have h1I : ((m + 1 : Nat) : Int) < l.length := by omega
      have hcv : (decide (Lib.compareInt l[m] l[m + 1] ≥ 0)) = !ltI l[m] l[m + 1] := by
        unfold Lib.compareInt ltI
        by_cases q : l[m] < l[m + 1]
        · simp [q]
        · rw [if_neg q]
          split <;> simp [q]
      rcases hq : ltI l[m] l[m + 1]
      · rw [hq] at hcv
        have HF := Lib.hid (show ascG ltI l = false by
          rw [← Bool.not_eq_true, ascG_iff]
          intro h
          have := h m hlt
          rw [hq] at this; cases this)
        clear hq
        generalize l[m] = z at e1 hci hcv
        generalize l[m + 1] = y at e2 hci hcv
        generalize Lib.compareInt z y = cv at hci hcv
        go_wp2_with fail
        go_region_held (fun w' => w'.cell? ⟨g, off + m, none⟩ = some (.int .i64 z) ∧ w'.cell? ⟨g, off + (m + 1), none⟩ = some (.int .i64 y)) (exact ⟨e1, e2⟩) (first | (go_at_call 108; refine (hci _).mono ?_; rintro e w' ⟨rfl, rfl⟩))
        go_wp2
        go_ret
        exact ⟨by rw [HF.out]; rfl, hbw.drew⟩
      · rw [hq] at hcv
        have HN := Lib.hid (show ∀ j (hj : j + 1 < l.length), j + 1 < m + 1 + 1 → ltI l[j] l[j + 1] = true from fun j hj hjk => by
          by_cases e : j = m
          · subst e; exact hq
          · exact HA.out j hj (by omega))
        clear hq
        generalize l[m] = z at e1 hci hcv
        generalize l[m + 1] = y at e2 hci hcv
        generalize Lib.compareInt z y = cv at hci hcv
        go_wp2_with fail
        go_region_held (fun w' => w'.cell? ⟨g, off + m, none⟩ = some (.int .i64 z) ∧ w'.cell? ⟨g, off + (m + 1), none⟩ = some (.int .i64 y)) (exact ⟨e1, e2⟩) (first | (go_at_call 108; refine (hci _).mono ?_; rintro e w' ⟨rfl, rfl⟩))
        go_wp2
        go_roundw
        case rel => exact ⟨m + 1 + 1, by omega, by go_num, HN.out, hbw.drew⟩
        case measure => simp [intOf]; omega
    · have HF := Lib.hid (show ascG ltI l = true from ascG_iff.2 fun j hj => HA.out j hj (by omega))
      go_wp2
      go_ret
      exact ⟨by rw [HF.out]; rfl, hbw⟩
end Go.Proofs.YtneegmhcmegijaaDoor
