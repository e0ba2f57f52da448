import Derived.Test.YtnkkpjgclekobaaDoorIData
import Derived.Test.YtnkkpjgclekobaaDoorCheck2
import Derived.Laws.EntriesVeiled
namespace Go.Proofs.YtnkkpjgclekobaaDoor
open Go.RowKit

theorem any_hit {α : Type} {f : α → Bool} {l : List α} {k : Nat} (hk : k < l.length) (h : f l[k] = true) : l.any f = true := List.any_eq_true.2 ⟨_, List.getElem_mem hk, h⟩
theorem any_miss {α : Type} {f : α → Bool} {l : List α} (h : ∀ j (hj : j < l.length), f l[j] = false) : l.any f = false := by
  rw [List.any_eq_false]
  intro x hx
  obtain ⟨j, hj, rfl⟩ := List.getElem_of_mem hx
  rw [h j hj]; simp
theorem ret_bool' {a b : Bool} (h : a = b) : (Ending.returned (.bool a)) = .returned (.bool b) := by rw [h]

set_option maxRecDepth 100000 in
set_option maxHeartbeats 2000000 in
theorem idxI_any (i : IN) (b : Nat) (s : IL) (w : World) (hs : s.In w.heap.size w) (hb : IBox w b i) :
    Calls Tryd.prog 171 #[.slice s.A s.l.length s.c, .func (.func 131) #[] #[.pointer (some ⟨b, 0, none⟩)]] w fun e w' => (∃ r : Int, e = .returned (.int .i64 r) ∧ decide (r ≥ 0) = s.l.any (foreignB i.size)) ∧ w' = w := by
  have hlen : s.l.length ≤ 9223372036854775807 := Nat.le_trans hs.1 hs.2.1
  have hcs := fun h => IL.In.cells hs h
  obtain ⟨A, c, l⟩ := s
  dsimp only at *
  clear hs
  go_enter Tryd.func171, Tryd.ntmps171
  go_wp2_with fail
  go_loopw [8] (fun i' wr => ∃ k : Nat, k ≤ l.length ∧ i' = .int .i64 k ∧ (∀ j (hj : j < l.length), j < k → foreignB i.size l[j] = false) ∧ wr = w) (fun i' _ => l.length - (intOf i').toNat)
  case atStart => exact ⟨0, Nat.zero_le _, rfl, fun j _ h => absurd h (by omega), rfl⟩
  case round =>
    obtain ⟨k, hk, rfl, hall, rfl⟩ := hrel
    have HA := Lib.hid hall
    clear hall
    by_cases hlt : k < l.length
    · obtain ⟨g, off, rfl, -, d1⟩ := hcs (by omega)
      have e1 := d1 k hlt
      have hfo := foreign_any i b l[k] wr hb
      clear d1 hcs
      have h0I : (0 : Int) ≤ k := by omega
      have hlI : (k : Int) < l.length := by omega
      rcases hq : foreignB i.size l[k]
      · rw [hq] at hfo
        have HN := Lib.hid (show ∀ j (hj : j < l.length), j < k + 1 → foreignB i.size l[j] = false from fun j hj hjk => by
          by_cases e : j = k
          · subst e; exact hq
          · exact HA.out j hj (by omega))
        clear hq
        generalize l[k] = z at e1 hfo
        go_wp2_with (go_at_call 131; refine hfo.mono ?_; rintro e w' ⟨rfl, rfl⟩)
        go_roundw
        case rel => exact ⟨k + 1, by omega, by go_num, HN.out, by first | rfl | trivial⟩
        case measure => simp [intOf]; omega
      · rw [hq] at hfo
        have HF := Lib.hid (any_hit hlt hq)
        clear hq
        generalize l[k] = z at e1 hfo
        go_wp2_with (go_at_call 131; refine hfo.mono ?_; rintro e w' ⟨rfl, rfl⟩)
        go_ret
        exact ⟨⟨_, rfl, by rw [HF.out]; simp⟩, rfl⟩
    · have HF := Lib.hid (any_miss (f := foreignB i.size) (l := l) fun j hj => HA.out j hj (by omega))
      go_wp2
      go_ret
      exact ⟨⟨_, rfl, by rw [HF.out]; rfl⟩, rfl⟩
set_option maxRecDepth 100000 in
set_option maxHeartbeats 2000000 in
theorem conI_any (i : IN) (b : Nat) (s : IL) (w : World) (hs : s.In w.heap.size w) (hb : IBox w b i) :
    Calls Tryd.prog 133 #[.slice s.A s.l.length s.c, .func (.func 131) #[] #[.pointer (some ⟨b, 0, none⟩)]] w fun e w' => e = .returned (.bool (s.l.any (foreignB i.size))) ∧ w' = w := by
  have hix := idxI_any i b s w hs hb
  clear hs hb
  rcases hq : s.l.any (foreignB i.size)
  all_goals
    rw [hq] at hix
    go_enter Tryd.func133, Tryd.ntmps133
    go_wp2_with (go_at_call 171; refine hix.mono ?_; rintro e w4 ⟨⟨r, rfl, hdi⟩, rfl⟩)
    go_ret
    exact ⟨ret_bool' (by rw [← hdi]), rfl⟩

def forP (n : Int) (p : Int × Int) : Bool := foreignB n p.1 || foreignB n p.2
set_option maxRecDepth 100000 in
set_option maxHeartbeats 2000000 in
theorem idxP_any (i : IN) (b bf : Nat) (s : PL) (w : World) (hs : s.In w.heap.size w) (hb : IBox w b i) (hf : w.heap[bf]? = some (.cells #[.func (.func 131) #[] #[.pointer (some ⟨b, 0, none⟩)]] 135)) :
    Calls Tryd.prog 173 #[.slice s.A s.l.length s.c, .func (.func 132) #[] #[.pointer (some ⟨bf, 0, none⟩)]] w fun e w' => (∃ r : Int, e = .returned (.int .i64 r) ∧ decide (r ≥ 0) = s.l.any (forP i.size)) ∧ Below w.heap.size w w' := by
  have hlen : s.l.length ≤ 9223372036854775807 := Nat.le_trans hs.1 hs.2.1
  have hcs := fun h => PL.In.cells hs h
  obtain ⟨A, c, l⟩ := s
  dsimp only at *
  clear hs
  go_enter Tryd.func173, Tryd.ntmps173
  go_wp2_with fail
  go_loopw [8] (fun i' wr => ∃ k : Nat, k ≤ l.length ∧ i' = .int .i64 k ∧ (∀ j (hj : j < l.length), j < k → forP i.size l[j] = false) ∧ Below w.heap.size w wr) (fun i' _ => l.length - (intOf i').toNat)
  case atStart => exact ⟨0, Nat.zero_le _, rfl, fun j _ h => absurd h (by omega), Below.refl _ _⟩
  case round =>
    obtain ⟨k, hk, rfl, hall, hbw⟩ := hrel
    have HA := Lib.hid hall
    clear hall
    by_cases hlt : k < l.length
    · obtain ⟨g, off, rfl, hg, d1⟩ := hcs (by omega)
      obtain ⟨e1, e2⟩ := d1 k hlt
      have e1 := (hbw.cell (p := ⟨g, off + k * 2, none⟩) hg).trans e1
      have e2 := (hbw.cell (p := ⟨g, off + k * 2 + 1, none⟩) hg).trans e2
      have hfo := foreign2_any i b bf l[k] wr (blk_lat hb hbw) (blk_lat hf hbw)
      clear d1 hcs
      have h0I : (0 : Int) ≤ k := by omega
      have hlI : (k : Int) < l.length := by omega
      have hfq : (foreignB i.size l[k].1 || foreignB i.size l[k].2) = forP i.size l[k] := rfl
      rw [hfq] at hfo
      rcases hq : forP i.size l[k]
      · rw [hq] at hfo
        have HN := Lib.hid (show ∀ j (hj : j < l.length), j < k + 1 → forP i.size l[j] = false from fun j hj hjk => by
          by_cases e : j = k
          · subst e; exact hq
          · exact HA.out j hj (by omega))
        clear hq hfq
        generalize l[k] = z at e1 e2 hfo
        go_wp2_with (go_at_call 132; refine hfo.mono ?_; rintro e w' ⟨rfl, hb2⟩)
        go_roundw
        case rel => exact ⟨k + 1, by omega, by go_num, HN.out, hbw.trans (hb2.mono hbw.size)⟩
        case measure => simp [intOf]; omega
      · rw [hq] at hfo
        have HF := Lib.hid (any_hit hlt hq)
        clear hq hfq
        generalize l[k] = z at e1 e2 hfo
        go_wp2_with (go_at_call 132; refine hfo.mono ?_; rintro e w' ⟨rfl, hb2⟩)
        go_ret
        exact ⟨⟨_, rfl, by rw [HF.out]; simp⟩, hbw.trans (hb2.mono hbw.size)⟩
    · have HF := Lib.hid (any_miss (f := forP i.size) (l := l) fun j hj => HA.out j hj (by omega))
      go_wp2
      go_ret
      exact ⟨⟨_, rfl, by rw [HF.out]; rfl⟩, hbw⟩
set_option maxRecDepth 100000 in
set_option maxHeartbeats 2000000 in
theorem conP_any (i : IN) (b bf : Nat) (s : PL) (w : World) (hs : s.In w.heap.size w) (hb : IBox w b i) (hf : w.heap[bf]? = some (.cells #[.func (.func 131) #[] #[.pointer (some ⟨b, 0, none⟩)]] 135)) :
    Calls Tryd.prog 136 #[.slice s.A s.l.length s.c, .func (.func 132) #[] #[.pointer (some ⟨bf, 0, none⟩)]] w fun e w' => e = .returned (.bool (s.l.any (forP i.size))) ∧ Below w.heap.size w w' := by
  have hix := idxP_any i b bf s w hs hb hf
  clear hs hb hf
  rcases hq : s.l.any (forP i.size)
  all_goals
    rw [hq] at hix
    go_enter Tryd.func136, Tryd.ntmps136
    go_wp2_with (go_at_call 173; refine hix.mono ?_; rintro e w4 ⟨⟨r, rfl, hdi⟩, hb4⟩)
    go_ret
    exact ⟨ret_bool' (by rw [← hdi]), hb4⟩

set_option maxRecDepth 100000 in
set_option maxHeartbeats 2000000 in
theorem ascI_any (s : IL) (w : World) (hs : s.In w.heap.size w) :
    Calls Tryd.prog 134 #[.slice s.A s.l.length s.c, .func (.func 135) #[] #[]] w fun e w' => e = .returned (.bool (ascG ltI s.l)) ∧ Below w.heap.size w w' := by
  have hlen : s.l.length ≤ 9223372036854775807 := Nat.le_trans hs.1 hs.2.1
  have hcs := fun h => IL.In.cells hs h
  obtain ⟨A, c, l⟩ := s
  dsimp only at *
  clear hs
  go_enter Tryd.func134, Tryd.ntmps134
  go_wp2_with fail
  go_loopw [5] (fun i' wr => ∃ k : Nat, (1 ≤ k ∧ (k ≤ l.length ∨ k = 1)) ∧ i' = .int .i64 k ∧ (∀ j (hj : j + 1 < l.length), j + 1 < k → ltI l[j] l[j + 1] = true) ∧ Below w.heap.size w wr) (fun i' _ => l.length - (intOf i').toNat)
  case atStart => exact ⟨1, by omega, rfl, fun j _ h => absurd h (by omega), Below.refl _ _⟩
  case round =>
    obtain ⟨k, hk, rfl, hall, hbw⟩ := hrel
    have HA := Lib.hid hall
    clear hall
    by_cases hlt : k < l.length
    · obtain ⟨m, rfl⟩ : ∃ m, k = m + 1 := ⟨k - 1, by omega⟩
      obtain ⟨g, off, rfl, hg, d1⟩ := hcs (by omega)
      have e1 := (hbw.drew.cell (p := ⟨g, off + m, none⟩) hg).trans (d1 m (by omega))
      have e2 := (hbw.drew.cell (p := ⟨g, off + (m + 1), none⟩) hg).trans (d1 (m + 1) hlt)
      have hci := fun w => Tryd.cmp_Compare_int l[m] l[m + 1] w
      clear d1 hcs
      have hsub : wrap64 (m : Int) = m := by unfold wrap64; omega
      have hsubA : IntKind.i64.wrap ((m : Int) + 1 - 1) = m := by rw [IntKind.wrap_i64]; omega
      have hsubB : IntKind.i64.wrap (m : Int) = m := by rw [IntKind.wrap_i64]; omega
      have hsubC : wrap64 ((m : Int) + 1 - 1) = m := by unfold wrap64; omega
      have h2I : (m : Int) + 1 < l.length := by omega
      have h3I : (0 : Int) ≤ (m : Int) + 1 := by omega
      have h4I : ((m : Int) + 1).toNat = m + 1 := by omega
      have h0I : (0 : Int) ≤ m := by omega
      have hlI : (m : Int) < l.length := by omega
      have h1I : ((m + 1 : Nat) : Int) < l.length := by omega
      have hcv : (decide (Lib.compareInt l[m] l[m + 1] ≥ 0)) = !ltI l[m] l[m + 1] := by
        unfold Lib.compareInt ltI
        by_cases q : l[m] < l[m + 1]
        · simp [q]
        · rw [if_neg q]
          split <;> simp [q]
      rcases hq : ltI l[m] l[m + 1]
      · rw [hq] at hcv
        have HF := Lib.hid (show ascG ltI l = false by
          rw [← Bool.not_eq_true, ascG_iff]
          intro h
          have := h m hlt
          rw [hq] at this; cases this)
        clear hq
        generalize l[m] = z at e1 hci hcv
        generalize l[m + 1] = y at e2 hci hcv
        generalize Lib.compareInt z y = cv at hci hcv
        go_wp2_with fail
        go_region_held (fun w' => w'.cell? ⟨g, off + m, none⟩ = some (.int .i64 z) ∧ w'.cell? ⟨g, off + (m + 1), none⟩ = some (.int .i64 y)) (exact ⟨e1, e2⟩) (first | (go_at_call 135; refine (hci _).mono ?_; rintro e w' ⟨rfl, rfl⟩))
        go_wp2
        go_ret
        exact ⟨by rw [HF.out]; rfl, hbw.drew⟩
      · rw [hq] at hcv
        have HN := Lib.hid (show ∀ j (hj : j + 1 < l.length), j + 1 < m + 1 + 1 → ltI l[j] l[j + 1] = true from fun j hj hjk => by
          by_cases e : j = m
          · subst e; exact hq
          · exact HA.out j hj (by omega))
        clear hq
        generalize l[m] = z at e1 hci hcv
        generalize l[m + 1] = y at e2 hci hcv
        generalize Lib.compareInt z y = cv at hci hcv
        go_wp2_with fail
        go_region_held (fun w' => w'.cell? ⟨g, off + m, none⟩ = some (.int .i64 z) ∧ w'.cell? ⟨g, off + (m + 1), none⟩ = some (.int .i64 y)) (exact ⟨e1, e2⟩) (first | (go_at_call 135; refine (hci _).mono ?_; rintro e w' ⟨rfl, rfl⟩))
        go_wp2
        go_roundw
        case rel => exact ⟨m + 1 + 1, by omega, by go_num, HN.out, hbw.drew⟩
        case measure => simp [intOf]; omega
    · have HF := Lib.hid (show ascG ltI l = true from ascG_iff.2 fun j hj => HA.out j hj (by omega))
      go_wp2
      go_ret
      exact ⟨by rw [HF.out]; rfl, hbw⟩
end Go.Proofs.YtnkkpjgclekobaaDoor

namespace Go.Proofs.YtnkkpjgclekobaaDoor
open Go.RowKit

def orF (x y : Int) : Int := if x = 0 then y else x
set_option maxRecDepth 100000 in
set_option maxHeartbeats 2000000 in
/-- cmp.Or of two numbers. -/
theorem orInt_any (g : Nat) (x y : Int) (w : World) (h0 : w.cell? ⟨g, 0, none⟩ = some (.int .i64 x)) (h1 : w.cell? ⟨g, 1, none⟩ = some (.int .i64 y)) :
    Calls Tryd.prog 174 #[.slice (some ⟨g, 0, none⟩) 2 2] w fun e w' => e = .returned (.int .i64 (orF x y)) ∧ w' = w := by
  unfold orF
  by_cases hx : x = 0
  · subst hx
    rw [if_pos rfl]
    rcases hy : (y != 0)
    · have hy0 : y = 0 := by simpa using hy
      subst hy0
      go_enter Tryd.func174, Tryd.ntmps174
      go_wp2_with fail
      go_loopw [8] (fun i wr => ((i = .int .i64 0) ∨ (i = .int .i64 1) ∨ (i = .int .i64 2)) ∧ wr = w) (fun i _ => 2 - (intOf i).toNat)
      case atStart => exact ⟨.inl rfl, rfl⟩
      case round =>
        obtain ⟨rfl | rfl | rfl, rfl⟩ := hrel
        · go_wp2_with fail
          go_roundw
          case rel => exact ⟨.inr (.inl rfl), by first | rfl | trivial⟩
          case measure => simp [intOf]
        · go_wp2_with fail
          go_roundw
          case rel => exact ⟨.inr (.inr rfl), by first | rfl | trivial⟩
          case measure => simp [intOf]
        · go_wp2
          go_ret
          exact ⟨rfl, rfl⟩
    · go_enter Tryd.func174, Tryd.ntmps174
      go_wp2_with fail
      go_loopw [8] (fun i wr => ((i = .int .i64 0) ∨ (i = .int .i64 1)) ∧ wr = w) (fun i _ => 2 - (intOf i).toNat)
      case atStart => exact ⟨.inl rfl, rfl⟩
      case round =>
        obtain ⟨rfl | rfl, rfl⟩ := hrel
        · go_wp2_with fail
          go_roundw
          case rel => exact ⟨.inr rfl, by first | rfl | trivial⟩
          case measure => simp [intOf]
        · go_wp2
          go_ret
          exact ⟨rfl, rfl⟩
  · rw [if_neg hx]
    have hx1 : (x != 0) = true := by simpa using hx
    go_enter Tryd.func174, Tryd.ntmps174
    go_wp2_with fail
    go_loopw [8] (fun i wr => i = .int .i64 0 ∧ wr = w) (fun i _ => 2 - (intOf i).toNat)
    case atStart => exact ⟨rfl, rfl⟩
    case round =>
      obtain ⟨rfl, rfl⟩ := hrel
      go_wp2
      go_ret
      exact ⟨rfl, rfl⟩

def cmpF (p q : Int × Int) : Int := orF (Lib.compareInt p.1 q.1) (Lib.compareInt p.2 q.2)
theorem cmpF_ge (p q : Int × Int) : decide (cmpF p q ≥ 0) = !ltP p q := by
  unfold cmpF orF ltP Lib.compareInt
  by_cases h1 : p.1 < q.1
  · simp [h1]
  · rw [if_neg h1]
    by_cases h2 : p.1 > q.1
    · rw [if_pos h2]
      have h3 : ¬ p.1 = q.1 := by omega
      simp [h1, h3]
    · rw [if_neg h2]
      have h3 : p.1 = q.1 := by omega
      by_cases h4 : p.2 < q.2
      · simp [h3, h4]
      · rw [if_pos rfl, if_neg h4]
        split <;> simp [h3, h4]

set_option maxRecDepth 100000 in
set_option maxHeartbeats 2000000 in
theorem cmpP_any (p q : Int × Int) (w : World) :
    Calls Tryd.prog 138 #[.agg #[.int .i64 p.1, .int .i64 p.2], .agg #[.int .i64 q.1, .int .i64 q.2]] w fun e w' => e = .returned (.int .i64 (cmpF p q)) ∧ Below w.heap.size w w' := by
  obtain ⟨W1, hW1, hB1, hs1, hk1⟩ := newBlk w _ rfl #[.int .i64 p.1, .int .i64 p.2] 68
  obtain ⟨W2, hW2, hB2, hs2, hk2⟩ := newBlk W1 _ hs1 #[.int .i64 q.1, .int .i64 q.2] 68
  have hB : Below w.heap.size w W2 := hB1.trans (hB2.mono (by omega))
  have hk12 := (hB2.block w.heap.size (by omega)).trans hk1
  have a0 := cell_of_blk hk12 0
  have a1 := cell_of_blk hk12 1
  have b0 := cell_of_blk hk2 0
  have b1 := cell_of_blk hk2 1
  simp only [List.getElem?_toArray, List.getElem?_cons_zero, List.getElem?_cons_succ] at a0 a1 b0 b1
  obtain ⟨x, y⟩ := p
  obtain ⟨z, u⟩ := q
  unfold cmpF
  dsimp only at *
  have h1 := fun w => Tryd.cmp_Compare_int x z w
  have h2 := fun w => Tryd.cmp_Compare_int y u w
  generalize Lib.compareInt x z = cx at h1 ⊢
  generalize Lib.compareInt y u = cy at h2 ⊢
  obtain ⟨W3, hW3, hB3, hs3, hk3⟩ := newBlk W2.drew _ hs2 #[.int .i64 cx, .int .i64 cy] 3
  have d0 := cell_of_blk hk3 0
  have d1 := cell_of_blk hk3 1
  simp only [List.getElem?_toArray, List.getElem?_cons_zero, List.getElem?_cons_succ] at d0 d1
  have hor := orInt_any (w.heap.size + 1 + 1) cx cy W3 d0 d1
  have HB := Lib.hid (hB.trans (((Below.refl W2.heap.size W2).drew.trans (hB3.mono (by omega))).mono (by omega)))
  have e0 := (hB3.cell (p := ⟨w.heap.size, 0, none⟩) (by show w.heap.size < w.heap.size + 1 + 1; omega)).trans a0
  have e1 := (hB3.cell (p := ⟨w.heap.size, 1, none⟩) (by show w.heap.size < w.heap.size + 1 + 1; omega)).trans a1
  have e2 := (hB3.cell (p := ⟨w.heap.size + 1, 0, none⟩) (by show w.heap.size + 1 < w.heap.size + 1 + 1; omega)).trans b0
  have e3 := (hB3.cell (p := ⟨w.heap.size + 1, 1, none⟩) (by show w.heap.size + 1 < w.heap.size + 1 + 1; omega)).trans b1
  have H1 := h1 W2.drew
  have H2 := h2 W2.drew
  clear hB hB1 hB2 hB3 hk1 hk12 hk2 hk3 d0 d1 h1 h2
  go_enter Tryd.func138, Tryd.ntmps138
  go_wp2_with fail
  go_region_held (fun w' => w'.cell? ⟨w.heap.size, 0, none⟩ = some (.int .i64 x) ∧ w'.cell? ⟨w.heap.size, 1, none⟩ = some (.int .i64 y) ∧ w'.cell? ⟨w.heap.size + 1, 0, none⟩ = some (.int .i64 z) ∧ w'.cell? ⟨w.heap.size + 1, 1, none⟩ = some (.int .i64 u)) (first | exact ⟨a0, a1, b0, b1⟩ | (rw [hW3]; exact ⟨e0, e1, e2, e3⟩) | exact ⟨e0, e1, e2, e3⟩)
    (first
      | (go_at_call 135; have _k := k1; refine H2.mono ?_; rintro e w' ⟨rfl, rfl⟩)
      | (go_at_call 135; refine H1.mono ?_; rintro e w' ⟨rfl, rfl⟩; have k1 := True.intro)
      | (go_at_call 174; rw [hW3]; refine hor.mono ?_; rintro e w' ⟨rfl, rfl⟩)
      | (go_at_call 174; refine hor.mono ?_; rintro e w' ⟨rfl, rfl⟩))
  all_goals
    go_wp2
    go_ret
    exact ⟨rfl, HB.out⟩
end Go.Proofs.YtnkkpjgclekobaaDoor

namespace Go.Proofs.YtnkkpjgclekobaaDoor
open Go.RowKit

set_option maxRecDepth 100000 in
set_option maxHeartbeats 2000000 in
theorem ascP_any (s : PL) (w : World) (hs : s.In w.heap.size w) :
    Calls Tryd.prog 137 #[.slice s.A s.l.length s.c, .func (.func 138) #[] #[]] w fun e w' => e = .returned (.bool (ascG ltP s.l)) ∧ Below w.heap.size w w' := by
  have hlen : s.l.length ≤ 9223372036854775807 := Nat.le_trans hs.1 hs.2.1
  have hcs := fun h => PL.In.cells hs h
  obtain ⟨A, c, l⟩ := s
  dsimp only at *
  clear hs
  go_enter Tryd.func137, Tryd.ntmps137
  go_wp2_with fail
  go_loopw [5] (fun i' wr => ∃ k : Nat, (1 ≤ k ∧ (k ≤ l.length ∨ k = 1)) ∧ i' = .int .i64 k ∧ (∀ j (hj : j + 1 < l.length), j + 1 < k → ltP l[j] l[j + 1] = true) ∧ Below w.heap.size w wr) (fun i' _ => l.length - (intOf i').toNat)
  case atStart => exact ⟨1, by omega, rfl, fun j _ h => absurd h (by omega), Below.refl _ _⟩
  case round =>
    obtain ⟨k, hk, rfl, hall, hbw⟩ := hrel
    have HA := Lib.hid hall
    clear hall
    by_cases hlt : k < l.length
    · obtain ⟨m, rfl⟩ : ∃ m, k = m + 1 := ⟨k - 1, by omega⟩
      obtain ⟨g, off, rfl, hg, d1⟩ := hcs (by omega)
      have hgr : g < wr.heap.size := Nat.lt_of_lt_of_le hg hbw.size
      have e1 := (hbw.drew.cell (p := ⟨g, off + m * 2, none⟩) hg).trans (d1 m (by omega)).1
      have e2 := (hbw.drew.cell (p := ⟨g, off + m * 2 + 1, none⟩) hg).trans (d1 m (by omega)).2
      have e3 := (hbw.drew.cell (p := ⟨g, off + (m + 1) * 2, none⟩) hg).trans (d1 (m + 1) hlt).1
      have e4 := (hbw.drew.cell (p := ⟨g, off + (m + 1) * 2 + 1, none⟩) hg).trans (d1 (m + 1) hlt).2
      have hci := cmpP_any l[m] l[m + 1] wr.drew
      clear d1 hcs
      have hsub : wrap64 (m : Int) = m := by unfold wrap64; omega
      have hsubA : IntKind.i64.wrap ((m : Int) + 1 - 1) = m := by rw [IntKind.wrap_i64]; omega
      have hsubB : IntKind.i64.wrap (m : Int) = m := by rw [IntKind.wrap_i64]; omega
      have hsubC : wrap64 ((m : Int) + 1 - 1) = m := by unfold wrap64; omega
      have h2I : (m : Int) + 1 < l.length := by omega
      have h3I : (0 : Int) ≤ (m : Int) + 1 := by omega
      have h4I : ((m : Int) + 1).toNat = m + 1 := by omega
      have h0I : (0 : Int) ≤ m := by omega
      have hlI : (m : Int) < l.length := by omega
      have hcv := cmpF_ge l[m] l[m + 1]
      rcases hq : ltP l[m] l[m + 1]
      · rw [hq] at hcv
        have HF := Lib.hid (show ascG ltP l = false by
          rw [← Bool.not_eq_true, ascG_iff]
          intro h
          have := h m hlt
          rw [hq] at this; cases this)
        clear hq
        generalize l[m] = z at e1 e2 hci hcv
        generalize l[m + 1] = y at e3 e4 hci hcv
        generalize cmpF z y = cv at hci hcv
        go_wp2_with fail
        go_region_held (fun w' => (w'.cell? ⟨g, off + m * 2, none⟩ = some (.int .i64 z.1) ∧ w'.cell? ⟨g, off + m * 2 + 1, none⟩ = some (.int .i64 z.2)) ∧ w'.cell? ⟨g, off + (m + 1) * 2, none⟩ = some (.int .i64 y.1) ∧ w'.cell? ⟨g, off + (m + 1) * 2 + 1, none⟩ = some (.int .i64 y.2))
          (first | exact ⟨⟨e1, e2⟩, e3, e4⟩ | exact ⟨⟨(hb2.cell (p := ⟨g, off + m * 2, none⟩) hgr).trans e1, (hb2.cell (p := ⟨g, off + m * 2 + 1, none⟩) hgr).trans e2⟩, (hb2.cell (p := ⟨g, off + (m + 1) * 2, none⟩) hgr).trans e3, (hb2.cell (p := ⟨g, off + (m + 1) * 2 + 1, none⟩) hgr).trans e4⟩)
          (first | (go_at_call 138; refine hci.mono ?_; rintro e w2 ⟨rfl, hb2⟩))
        go_wp2
        go_ret
        exact ⟨by rw [HF.out]; rfl, hbw.drew.trans (hb2.mono hbw.size)⟩
      · rw [hq] at hcv
        have HN := Lib.hid (show ∀ j (hj : j + 1 < l.length), j + 1 < m + 1 + 1 → ltP l[j] l[j + 1] = true from fun j hj hjk => by
          by_cases e : j = m
          · subst e; exact hq
          · exact HA.out j hj (by omega))
        clear hq
        generalize l[m] = z at e1 e2 hci hcv
        generalize l[m + 1] = y at e3 e4 hci hcv
        generalize cmpF z y = cv at hci hcv
        go_wp2_with fail
        go_region_held (fun w' => (w'.cell? ⟨g, off + m * 2, none⟩ = some (.int .i64 z.1) ∧ w'.cell? ⟨g, off + m * 2 + 1, none⟩ = some (.int .i64 z.2)) ∧ w'.cell? ⟨g, off + (m + 1) * 2, none⟩ = some (.int .i64 y.1) ∧ w'.cell? ⟨g, off + (m + 1) * 2 + 1, none⟩ = some (.int .i64 y.2))
          (first | exact ⟨⟨e1, e2⟩, e3, e4⟩ | exact ⟨⟨(hb2.cell (p := ⟨g, off + m * 2, none⟩) hgr).trans e1, (hb2.cell (p := ⟨g, off + m * 2 + 1, none⟩) hgr).trans e2⟩, (hb2.cell (p := ⟨g, off + (m + 1) * 2, none⟩) hgr).trans e3, (hb2.cell (p := ⟨g, off + (m + 1) * 2 + 1, none⟩) hgr).trans e4⟩)
          (first | (go_at_call 138; refine hci.mono ?_; rintro e w2 ⟨rfl, hb2⟩))
        go_wp2
        go_roundw
        case rel => exact ⟨m + 1 + 1, by omega, by go_num, HN.out, hbw.drew.trans (hb2.mono hbw.size)⟩
        case measure => simp [intOf]; omega
    · have HF := Lib.hid (show ascG ltP l = true from ascG_iff.2 fun j hj => HA.out j hj (by omega))
      go_wp2
      go_ret
      exact ⟨by rw [HF.out]; rfl, hbw⟩

def shapeB (n : NM) (i : IN) : Bool := decide (1 ≤ i.size) && (decide (i.size ≤ 256) && (((i.C.length : Int) == (n.C.l.length : Int)) && (((i.R.length : Int) == (n.R.l.length : Int)) && ((i.I.l.length : Int) == (n.I.l.length : Int)))))
set_option maxRecDepth 100000 in
set_option maxHeartbeats 2000000 in
theorem hasShape_any (n : NM) (i : IN) (w : World) : Calls Tryd.prog 87 #[n.val, i.val] w fun e w' => e = .returned (.bool (shapeB n i)) ∧ Below w.heap.size w w' := by
  obtain ⟨W1, hW1, hB1, hs1, hk1⟩ := newBlk w _ rfl #[.slice n.C.A n.C.l.length n.C.c, .slice n.R.A n.R.l.length n.R.c, .slice n.I.A n.I.l.length n.I.c] 24
  obtain ⟨W2, hW2, hB2, hs2, hk2⟩ := newBlk W1 _ hs1 #[.int .i64 i.size, .slice i.CA i.C.length i.cc, .slice i.RA i.R.length i.rc, .slice i.I.A i.I.l.length i.I.c] 58
  have hB : Below w.heap.size w W2 := hB1.trans (hB2.mono (by omega))
  have hk12 := (hB2.block w.heap.size (by omega)).trans hk1
  have a0 := cell_of_blk hk12 0
  have a1 := cell_of_blk hk12 1
  have a2 := cell_of_blk hk12 2
  have b0 := cell_of_blk hk2 0
  have b1 := cell_of_blk hk2 1
  have b2 := cell_of_blk hk2 2
  have b3 := cell_of_blk hk2 3
  simp only [List.getElem?_toArray, List.getElem?_cons_zero, List.getElem?_cons_succ] at a0 a1 a2 b0 b1 b2 b3
  have HB := Lib.hid hB
  clear hB hB1 hB2 hk1 hk12 hk2
  unfold shapeB
  simp only [NM.val, IN.val]
  rcases q1 : decide (1 ≤ i.size)
  · go_enter Tryd.func87, Tryd.ntmps87
    go_wp2
    go_ret
    exact ⟨rfl, HB.out⟩
  · rcases q2 : decide (i.size ≤ 256)
    · go_enter Tryd.func87, Tryd.ntmps87
      go_wp2
      go_ret
      exact ⟨rfl, HB.out⟩
    · rcases q3 : ((i.C.length : Int) == (n.C.l.length : Int))
      · go_enter Tryd.func87, Tryd.ntmps87
        go_wp2
        go_ret
        exact ⟨rfl, HB.out⟩
      · rcases q4 : ((i.R.length : Int) == (n.R.l.length : Int))
        · go_enter Tryd.func87, Tryd.ntmps87
          go_wp2
          go_ret
          exact ⟨rfl, HB.out⟩
        · go_enter Tryd.func87, Tryd.ntmps87
          go_wp2
          go_ret
          exact ⟨rfl, HB.out⟩
end Go.Proofs.YtnkkpjgclekobaaDoor

namespace Go.Proofs.YtnkkpjgclekobaaDoor
open Go.RowKit

def okI (n : Int) (s : IL) : Bool := !(s.l.any (foreignB n)) && ascG ltI s.l
def okP (n : Int) (s : PL) : Bool := !(s.l.any (forP n)) && ascG ltP s.l
def listsB (i : IN) : Bool := i.C.all (okI i.size) && (i.R.all (okP i.size) && !(i.I.l.any (foreignB i.size)))
theorem all_miss {α : Type} {f : α → Bool} {l : List α} {k : Nat} (hk : k < l.length) (h : f l[k] = false) : l.all f = false := by
  rw [← Bool.not_eq_true, List.all_eq_true]
  intro h'
  rw [h' _ (List.getElem_mem hk)] at h; cases h
theorem all_hit {α : Type} {f : α → Bool} {l : List α} (h : ∀ j (hj : j < l.length), f l[j] = true) : l.all f = true := by
  rw [List.all_eq_true]
  intro x hx
  obtain ⟨j, hj, rfl⟩ := List.getElem_of_mem hx
  exact h j hj

set_option maxRecDepth 100000 in
set_option maxHeartbeats 4000000 in
theorem hasLists_any (i : IN) (w : World) (hi : i.In w.heap.size w) : Calls Tryd.prog 88 #[i.val] w fun e w' => e = .returned (.bool (listsB i)) ∧ Below w.heap.size w w' := by
  obtain ⟨W1, hW1, hB1, hs1, hk1⟩ := newBlk w _ rfl #[.int .i64 i.size, .slice i.CA i.C.length i.cc, .slice i.RA i.R.length i.rc, .slice i.I.A i.I.l.length i.I.c] 58
  obtain ⟨W0, hW0, hB0, hs0, hk0⟩ := newBlk W1 _ hs1 #[.nilFunc] 135
  have n0 := cell_of_blk hk0 0
  have fz := frozen_of_blk hk0 0
  simp only [List.getElem?_toArray, List.getElem?_cons_zero] at n0
  have hk2' := blk_set hk0 0 (.func (.func 131) #[] #[.pointer (some ⟨w.heap.size, 0, none⟩)])
  have hB2' : Below (w.heap.size + 1) W1 (W0.setCell ⟨w.heap.size + 1, 0, none⟩ (.func (.func 131) #[] #[.pointer (some ⟨w.heap.size, 0, none⟩)])) := hB0.setCell (p := ⟨w.heap.size + 1, 0, none⟩) (Nat.le_refl _) _
  have hs2' : (W0.setCell ⟨w.heap.size + 1, 0, none⟩ (.func (.func 131) #[] #[.pointer (some ⟨w.heap.size, 0, none⟩)])).heap.size = w.heap.size + 1 + 1 := by simp [World.setCell, hs0]
  obtain ⟨W2, hW2⟩ : ∃ W2, W0.setCell ⟨w.heap.size + 1, 0, none⟩ (.func (.func 131) #[] #[.pointer (some ⟨w.heap.size, 0, none⟩)]) = W2 := ⟨_, rfl⟩
  rw [hW2] at hk2' hB2' hs2'
  have hk2 : W2.heap[w.heap.size + 1]? = some (.cells #[.func (.func 131) #[] #[.pointer (some ⟨w.heap.size, 0, none⟩)]] 135) := hk2'
  have hs2 := hs2'
  have hB2 := hB2'
  have hB : Below w.heap.size w W2 := hB1.trans (hB2.mono (by omega))
  have hk12 := (hB2.block w.heap.size (by omega)).trans hk1
  have a1 := cell_of_blk hk12 1
  have f0 := cell_of_blk hk2 0
  simp only [List.getElem?_toArray, List.getElem?_cons_zero, List.getElem?_cons_succ] at a1 f0
  have hcl : i.C.length ≤ 9223372036854775807 := Nat.le_trans hi.c1 hi.c2
  have hrl : i.R.length ≤ 9223372036854775807 := Nat.le_trans hi.r1 hi.r2
  have hIB : ∀ w', Below W2.heap.size W2 w' → IBox w' w.heap.size i := fun w' hb => blk_lat hk12 hb
  have hFB : ∀ w', Below W2.heap.size W2 w' → w'.heap[w.heap.size + 1]? = some (.cells #[.func (.func 131) #[] #[.pointer (some ⟨w.heap.size, 0, none⟩)]] 135) := fun w' hb => blk_lat hk2 hb
  have hIn : ∀ w', Below W2.heap.size W2 w' → i.In w'.heap.size w' := fun w' hb => (hi.later hB).later hb
  have hcc := fun h => RowAt.vals hi.c3 h
  have hrr := fun h => RowAt.vals hi.r3 h
  have HB := Lib.hid hB
  have HIB := Lib.hid hIB
  have HFB := Lib.hid hFB
  have HIN := Lib.hid hIn
  simp only [IN.val]
  clear hi hB hB1 hB2 hk1 hk12 hk2 hIB hFB hIn hk0 hB0 hk2' hB2' hs2'
  go_enter Tryd.func88, Tryd.ntmps88
  go_wp2_with fail
  go_loopw [14] (fun i' wr => ∃ k : Nat, k ≤ i.C.length ∧ i' = .int .i64 k ∧ (∀ j (hj : j < i.C.length), j < k → okI i.size i.C[j] = true) ∧ Below W2.heap.size W2 wr) (fun i' _ => i.C.length - (intOf i').toNat)
  case atStart => exact ⟨0, Nat.zero_le _, rfl, fun j _ h => absurd h (by omega), Below.refl _ _⟩
  case round =>
    obtain ⟨k, hk, rfl, hall, hbw⟩ := hrel
    have HA := Lib.hid hall
    clear hall
    have g0 := cell_of_blk (HFB.out wr hbw) 0
    simp only [List.getElem?_toArray, List.getElem?_cons_zero] at g0
    by_cases hlt : k < i.C.length
    · obtain ⟨g, off, hCA, hg, d1⟩ := hcc (by omega)
      have e1 := ((HB.out.trans (hbw.mono (by omega))).cell (p := ⟨g, off + k, none⟩) hg).trans (d1 k hlt)
      rw [hCA]
      have hsI := (HIN.out wr hbw).c4 _ (List.getElem_mem hlt)
      have hco := conI_any i w.heap.size i.C[k] wr hsI (HIB.out wr hbw)
      have has := ascI_any i.C[k] wr hsI
      have h0I : (0 : Int) ≤ k := by omega
      have hlI : (k : Int) < i.C.length := by omega
      have hok : okI i.size i.C[k] = (!(i.C[k].l.any (foreignB i.size)) && ascG ltI i.C[k].l) := rfl
      clear d1 hcc hrr hsI
      simp only [IL.val] at e1
      rcases q1 : i.C[k].l.any (foreignB i.size)
      · rcases q2 : ascG ltI i.C[k].l
        · rw [q1] at hco
          rw [q2] at has
          have HF := Lib.hid (show listsB i = false by rw [listsB, all_miss hlt (by rw [hok, q1, q2]; rfl)]; rfl)
          clear q1 q2 hok
          generalize i.C[k] = s at e1 hco has
          go_wp2_with (first | (go_at_call 133; refine hco.mono ?_; rintro e w' ⟨rfl, rfl⟩) | (go_at_call 134; refine has.mono ?_; rintro e w' ⟨rfl, hb2⟩))
          go_ret
          exact ⟨by rw [HF.out]; rfl, HB.out.trans ((hbw.trans (hb2.mono hbw.size)).mono (by omega))⟩
        · rw [q1] at hco
          rw [q2] at has
          have HN := Lib.hid (show ∀ j (hj : j < i.C.length), j < k + 1 → okI i.size i.C[j] = true from fun j hj hjk => by
            by_cases e : j = k
            · subst e; rw [hok, q1, q2]; rfl
            · exact HA.out j hj (by omega))
          clear q1 q2 hok
          generalize i.C[k] = s at e1 hco has
          go_wp2_with (first | (go_at_call 133; refine hco.mono ?_; rintro e w' ⟨rfl, rfl⟩) | (go_at_call 134; refine has.mono ?_; rintro e w' ⟨rfl, hb2⟩))
          go_roundw
          case rel => exact ⟨k + 1, by omega, by go_num, HN.out, hbw.trans (hb2.mono hbw.size)⟩
          case measure => simp [intOf]; omega
      · rw [q1] at hco
        have HF := Lib.hid (show listsB i = false by rw [listsB, all_miss hlt (by rw [hok, q1]; rfl)]; rfl)
        clear q1 hok has
        generalize i.C[k] = s at e1 hco
        go_wp2_with (first | (go_at_call 133; refine hco.mono ?_; rintro e w' ⟨rfl, rfl⟩))
        go_ret
        exact ⟨by rw [HF.out]; rfl, HB.out.trans (hbw.mono (by omega))⟩
    · have HC := Lib.hid (show i.C.all (okI i.size) = true from all_hit fun j hj => HA.out j hj (by omega))
      have b2 := cell_of_blk (HIB.out wr hbw) 2
      simp only [List.getElem?_toArray, List.getElem?_cons_zero, List.getElem?_cons_succ] at b2
      clear hcc a1 f0 HA
      go_wp2_with fail
      go_loopw [30] (fun i' wr => ∃ k : Nat, k ≤ i.R.length ∧ i' = .int .i64 k ∧ (∀ j (hj : j < i.R.length), j < k → okP i.size i.R[j] = true) ∧ Below W2.heap.size W2 wr) (fun i' _ => i.R.length - (intOf i').toNat)
      case atStart => exact ⟨0, Nat.zero_le _, rfl, fun j _ h => absurd h (by omega), hbw⟩
      case round =>
        clear b2 g0 hbw
        obtain ⟨m, hm, rfl, hall, hbw⟩ := hrel
        have HA := Lib.hid hall
        clear hall
        have g0 := cell_of_blk (HFB.out wr hbw) 0
        simp only [List.getElem?_toArray, List.getElem?_cons_zero] at g0
        by_cases hlt2 : m < i.R.length
        · obtain ⟨g, off, hRA, hg, d1⟩ := hrr (by omega)
          have e1 := ((HB.out.trans (hbw.mono (by omega))).cell (p := ⟨g, off + m, none⟩) hg).trans (d1 m hlt2)
          rw [hRA]
          have hsI := (HIN.out wr hbw).r4 _ (List.getElem_mem hlt2)
          have hco := conP_any i w.heap.size (w.heap.size + 1) i.R[m] wr hsI (HIB.out wr hbw) (HFB.out wr hbw)
          have has := fun w' (hb : Below wr.heap.size wr w') => ascP_any i.R[m] w' (hsI.below hb.size hb)
          have h0I : (0 : Int) ≤ m := by omega
          have hlI : (m : Int) < i.R.length := by omega
          have hok : okP i.size i.R[m] = (!(i.R[m].l.any (forP i.size)) && ascG ltP i.R[m].l) := rfl
          clear d1 hrr hsI
          simp only [PL.val] at e1
          rcases q1 : i.R[m].l.any (forP i.size)
          · rcases q2 : ascG ltP i.R[m].l
            · rw [q1] at hco
              rw [q2] at has
              have HF := Lib.hid (show listsB i = false by rw [listsB, all_miss (f := okP i.size) hlt2 (by rw [hok, q1, q2]; rfl), Bool.false_and, Bool.and_false])
              clear q1 q2 hok
              generalize i.R[m] = s at e1 hco has
              go_wp2_with (first | (go_at_call 136; refine hco.mono ?_; rintro e w' ⟨rfl, hb1⟩) | (go_at_call 137; refine (has _ hb1).mono ?_; rintro e w' ⟨rfl, hb2⟩))
              go_ret
              exact ⟨by rw [HF.out]; rfl, HB.out.trans ((hbw.trans ((hb1.trans (hb2.mono hb1.size)).mono hbw.size)).mono (by omega))⟩
            · rw [q1] at hco
              rw [q2] at has
              have HN := Lib.hid (show ∀ j (hj : j < i.R.length), j < m + 1 → okP i.size i.R[j] = true from fun j hj hjk => by
                by_cases e : j = m
                · subst e; rw [hok, q1, q2]; rfl
                · exact HA.out j hj (by omega))
              clear q1 q2 hok
              generalize i.R[m] = s at e1 hco has
              go_wp2_with (first | (go_at_call 136; refine hco.mono ?_; rintro e w' ⟨rfl, hb1⟩) | (go_at_call 137; refine (has _ hb1).mono ?_; rintro e w' ⟨rfl, hb2⟩))
              go_roundw
              case rel => exact ⟨m + 1, by omega, by go_num, HN.out, hbw.trans ((hb1.trans (hb2.mono hb1.size)).mono hbw.size)⟩
              case measure => simp [intOf]; omega
          · rw [q1] at hco
            have HF := Lib.hid (show listsB i = false by rw [listsB, all_miss (f := okP i.size) hlt2 (by rw [hok, q1]; rfl), Bool.false_and, Bool.and_false])
            clear q1 hok has
            generalize i.R[m] = s at e1 hco
            go_wp2_with (first | (go_at_call 136; refine hco.mono ?_; rintro e w' ⟨rfl, hb1⟩))
            go_ret
            exact ⟨by rw [HF.out]; rfl, HB.out.trans ((hbw.trans (hb1.mono hbw.size)).mono (by omega))⟩
        · have HR := Lib.hid (show i.R.all (okP i.size) = true from all_hit fun j hj => HA.out j hj (by omega))
          have b3 := cell_of_blk (HIB.out wr hbw) 3
          simp only [List.getElem?_toArray, List.getElem?_cons_zero, List.getElem?_cons_succ] at b3
          have hco := conI_any i w.heap.size i.I wr (HIN.out wr hbw).i1 (HIB.out wr hbw)
          have HF := Lib.hid (show listsB i = !(i.I.l.any (foreignB i.size)) by rw [listsB, HC.out, HR.out, Bool.true_and, Bool.true_and])
          clear hrr
          generalize i.I.l.any (foreignB i.size) = bb at hco HF
          go_wp2_with (first | (go_at_call 133; refine hco.mono ?_; rintro e w' ⟨rfl, rfl⟩))
          go_ret
          exact ⟨by rw [HF.out]; rfl, HB.out.trans (hbw.mono (by omega))⟩

/-- What Check reports. -/
def icheckF (n : NM) (i : IN) : Int := if n.ok then (if shapeB n i && listsB i then 0 else 30) else 20
set_option maxRecDepth 100000 in
set_option maxHeartbeats 2000000 in
theorem iCheck_any (n : NM) (i : IN) (w : World) (hn : n.In w.heap.size w) (hi : i.In w.heap.size w) : Calls Tryd.prog 57 #[n.val, i.val] w fun e w' => e = .returned (.int .i64 (icheckF n i)) ∧ Below w.heap.size w w' := by
  obtain ⟨W1, hW1, hB1, hs1, hk1⟩ := newBlk w _ rfl #[.slice n.C.A n.C.l.length n.C.c, .slice n.R.A n.R.l.length n.R.c, .slice n.I.A n.I.l.length n.I.c] 24
  obtain ⟨W2, hW2, hB2, hs2, hk2⟩ := newBlk W1 _ hs1 #[.int .i64 i.size, .slice i.CA i.C.length i.cc, .slice i.RA i.R.length i.rc, .slice i.I.A i.I.l.length i.I.c] 58
  have hB : Below w.heap.size w W2 := hB1.trans (hB2.mono (by omega))
  have hk12 := (hB2.block w.heap.size (by omega)).trans hk1
  have hcell : ∀ w', Below W2.heap.size W2 w' → (w'.cell? ⟨w.heap.size, 0, none⟩ = some (.slice n.C.A n.C.l.length n.C.c) ∧ w'.cell? ⟨w.heap.size, 1, none⟩ = some (.slice n.R.A n.R.l.length n.R.c) ∧ w'.cell? ⟨w.heap.size, 2, none⟩ = some (.slice n.I.A n.I.l.length n.I.c)) ∧ (w'.cell? ⟨w.heap.size + 1, 0, none⟩ = some (.int .i64 i.size) ∧ w'.cell? ⟨w.heap.size + 1, 1, none⟩ = some (.slice i.CA i.C.length i.cc) ∧ w'.cell? ⟨w.heap.size + 1, 2, none⟩ = some (.slice i.RA i.R.length i.rc) ∧ w'.cell? ⟨w.heap.size + 1, 3, none⟩ = some (.slice i.I.A i.I.l.length i.I.c)) := fun w' hb =>
    have h := blk_lat hk12 hb
    have h' := blk_lat hk2 hb
    ⟨⟨cell_of_blk h 0, cell_of_blk h 1, cell_of_blk h 2⟩, cell_of_blk h' 0, cell_of_blk h' 1, cell_of_blk h' 2, cell_of_blk h' 3⟩
  have hcn := cNames_any n W2 (hn.later hB)
  have hsh := fun w' => hasShape_any n i w'
  have hli := fun w' (hb : Below W2.heap.size W2 w') => hasLists_any i w' ((hi.later hB).later hb)
  obtain ⟨⟨a0, a1, a2⟩, b0, b1, b2, b3⟩ := hcell W2 (Below.refl _ _)
  have HB := Lib.hid hB
  unfold icheckF
  simp only [NM.val, IN.val] at hcn hsh hli ⊢
  clear hB hB1 hB2 hk1 hk12 hk2 hn hi
  cases hok : n.ok
  · rw [hok] at hcn
    go_enter Tryd.func57, Tryd.ntmps57
    go_wp2_with (go_at_call 47; refine hcn.mono ?_; simp only [codeIf]; rintro e w3 ⟨rfl, hb3⟩)
    go_ret
    exact ⟨rfl, HB.out.trans (hb3.mono (by omega))⟩
  · rw [hok] at hcn
    cases q1 : shapeB n i
    · rw [q1] at hsh
      go_enter Tryd.func57, Tryd.ntmps57
      go_wp2_with (first | (go_at_call 47; refine hcn.mono ?_; simp only [codeIf]; rintro e w3 ⟨rfl, hb3⟩; obtain ⟨⟨a0, a1, a2⟩, b0, b1, b2, b3⟩ := hcell w3 hb3) | (go_at_call 87; refine (hsh w3).mono ?_; rintro e w4 ⟨rfl, hb4⟩))
      go_ret
      exact ⟨rfl, HB.out.trans ((hb3.trans (hb4.mono hb3.size)).mono (by omega))⟩
    · rw [q1] at hsh
      cases q2 : listsB i
      all_goals
        rw [q2] at hli
        go_enter Tryd.func57, Tryd.ntmps57
        go_wp2_with (first | (go_at_call 47; refine hcn.mono ?_; simp only [codeIf]; rintro e w3 ⟨rfl, hb3⟩; obtain ⟨⟨a0, a1, a2⟩, b0, b1, b2, b3⟩ := hcell w3 hb3) | (go_at_call 87; refine (hsh w3).mono ?_; rintro e w4 ⟨rfl, hb4'⟩; have hb4 := hb3.trans (hb4'.mono hb3.size); obtain ⟨⟨a0, a1, a2⟩, b0, b1, b2, b3⟩ := hcell w4 hb4) | (go_at_call 88; refine (hli w4 hb4).mono ?_; rintro e w5 ⟨rfl, hb5⟩))
        go_ret
        exact ⟨rfl, HB.out.trans ((hb4.trans (hb5.mono hb4.size)).mono (by omega))⟩
end Go.Proofs.YtnkkpjgclekobaaDoor
