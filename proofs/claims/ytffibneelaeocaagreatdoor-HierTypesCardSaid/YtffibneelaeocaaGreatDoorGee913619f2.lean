import Derived.Test.YtffibneelaeocaaGreatDoorGb3dfc517de
import Derived.Test.YtffibneelaeocaaGreatDoorGd82b781d75
import Derived.Laws.EntriesVeiled
import Derived.Laws.MakeOwn
namespace Go.Proofs.YtffibneelaeocaaGreatDoor
open Go.RowKit

theorem any_hit {α : Type} {f : α → Bool} {l : List α} {k : Nat} (hk : k < l.length) (h : f l[k] = true) : l.any f = true := List.any_eq_true.2 ⟨_, List.getElem_mem hk, h⟩
theorem any_miss {α : Type} {f : α → Bool} {l : List α} (h : ∀ j (hj : j < l.length), f l[j] = false) : l.any f = false := by
  rw [List.any_eq_false]
  intro x hx
  obtain ⟨j, hj, rfl⟩ := List.getElem_of_mem hx
  rw [h j hj]; simp
theorem ret_bool' {a b : Bool} (h : a = b) : (Ending.returned (.bool a)) = .returned (.bool b) := by rw [h]

set_option maxRecDepth 100000 in
set_option maxHeartbeats 2000000 in
theorem idxI_any (i : IN) (b : Nat) (s : IL) (w : World) (hs : s.In w.heap.size w) (hb : IBox w b i) :
    Calls Tryz.prog 273 #[.slice s.A s.l.length s.c, .func (.func 233) #[] #[.pointer (some ⟨b, 0, none⟩)]] w fun e w' => (∃ r : Int, e = .returned (.int .i64 r) ∧ decide (r ≥ 0) = s.l.any (foreignB i.size)) ∧ w' = w := by
  have hlen : s.l.length ≤ 9223372036854775807 := Nat.le_trans hs.1 hs.2.1
  have hcs := fun h => IL.In.cells hs h
  obtain ⟨A, c, l⟩ := s
  dsimp only at *
  clear hs
  go_enter Tryz.func273, Tryz.ntmps273
  go_wp2_with fail
  go_loopw [8] (fun i' wr => ∃ k : Nat, k ≤ l.length ∧ i' = .int .i64 k ∧ (∀ j (hj : j < l.length), j < k → foreignB i.size l[j] = false) ∧ wr = w) (fun i' _ => l.length - (intOf i').toNat)
  case atStart => exact ⟨0, Nat.zero_le _, rfl, fun j _ h => absurd h (by omega), rfl⟩
  case round =>
    obtain ⟨k, hk, rfl, hall, rfl⟩ := hrel
    have HA := Lib.hid hall
    clear hall
    by_cases hlt : k < l.length
    · obtain ⟨g, off, rfl, -, d1⟩ := hcs (by omega)
      have e1 := d1 k hlt
      have hfo := foreign_any i b l[k] wr hb
      clear d1 hcs
      have h0I : (0 : Int) ≤ k := by omega
      have hlI : (k : Int) < l.length := by omega
      rcases hq : foreignB i.size l[k]
      · rw [hq] at hfo
        have HN := Lib.hid (show ∀ j (hj : j < l.length), j < k + 1 → foreignB i.size l[j] = false from fun j hj hjk => by
          by_cases e : j = k
          · subst e; exact hq
          · exact HA.out j hj (by omega))
        clear hq
        generalize l[k] = z at e1 hfo
        go_wp2_with (go_at_call 233; refine hfo.mono ?_; rintro e w' ⟨rfl, rfl⟩)
        go_roundw
        case rel => exact ⟨k + 1, by omega, by go_num, HN.out, by first | rfl | trivial⟩
        case measure => simp [intOf]; omega
      · rw [hq] at hfo
        have HF := Lib.hid (any_hit hlt hq)
        clear hq
        generalize l[k] = z at e1 hfo
        go_wp2_with (go_at_call 233; refine hfo.mono ?_; rintro e w' ⟨rfl, rfl⟩)
        go_ret
        exact ⟨⟨_, rfl, by rw [HF.out]; simp⟩, rfl⟩
    · have HF := Lib.hid (any_miss (f := foreignB i.size) (l := l) fun j hj => HA.out j hj (by omega))
      go_wp2
      go_ret
      exact ⟨⟨_, rfl, by rw [HF.out]; rfl⟩, rfl⟩
set_option maxRecDepth 100000 in
set_option maxHeartbeats 2000000 in
theorem conI_any (i : IN) (b : Nat) (s : IL) (w : World) (hs : s.In w.heap.size w) (hb : IBox w b i) :
    Calls Tryz.prog 235 #[.slice s.A s.l.length s.c, .func (.func 233) #[] #[.pointer (some ⟨b, 0, none⟩)]] w fun e w' => e = .returned (.bool (s.l.any (foreignB i.size))) ∧ w' = w := by
  have hix := idxI_any i b s w hs hb
  clear hs hb
  rcases hq : s.l.any (foreignB i.size)
  all_goals
    rw [hq] at hix
    go_enter Tryz.func235, Tryz.ntmps235
    go_wp2_with (go_at_call 273; refine hix.mono ?_; rintro e w4 ⟨⟨r, rfl, hdi⟩, rfl⟩)
    go_ret
    exact ⟨ret_bool' (by rw [← hdi]), rfl⟩

def forP (n : Int) (p : Int × Int) : Bool := foreignB n p.1 || foreignB n p.2
set_option maxRecDepth 100000 in
set_option maxHeartbeats 2000000 in
theorem idxP_any (i : IN) (b bf : Nat) (s : PL) (w : World) (hs : s.In w.heap.size w) (hb : IBox w b i) (hf : w.heap[bf]? = some (.cells #[.func (.func 233) #[] #[.pointer (some ⟨b, 0, none⟩)]] 150)) :
    Calls Tryz.prog 275 #[.slice s.A s.l.length s.c, .func (.func 234) #[] #[.pointer (some ⟨bf, 0, none⟩)]] w fun e w' => (∃ r : Int, e = .returned (.int .i64 r) ∧ decide (r ≥ 0) = s.l.any (forP i.size)) ∧ Below w.heap.size w w' := by
  have hlen : s.l.length ≤ 9223372036854775807 := Nat.le_trans hs.1 hs.2.1
  have hcs := fun h => PL.In.cells hs h
  obtain ⟨A, c, l⟩ := s
  dsimp only at *
  clear hs
  go_enter Tryz.func275, Tryz.ntmps275
  go_wp2_with fail
  go_loopw [8] (fun i' wr => ∃ k : Nat, k ≤ l.length ∧ i' = .int .i64 k ∧ (∀ j (hj : j < l.length), j < k → forP i.size l[j] = false) ∧ Below w.heap.size w wr) (fun i' _ => l.length - (intOf i').toNat)
  case atStart => exact ⟨0, Nat.zero_le _, rfl, fun j _ h => absurd h (by omega), Below.refl _ _⟩
  case round =>
    obtain ⟨k, hk, rfl, hall, hbw⟩ := hrel
    have HA := Lib.hid hall
    clear hall
    by_cases hlt : k < l.length
    · obtain ⟨g, off, rfl, hg, d1⟩ := hcs (by omega)
      obtain ⟨e1, e2⟩ := d1 k hlt
      have e1 := (hbw.cell (p := ⟨g, off + k * 2, none⟩) hg).trans e1
      have e2 := (hbw.cell (p := ⟨g, off + k * 2 + 1, none⟩) hg).trans e2
      have hfo := foreign2_any i b bf l[k] wr (blk_lat hb hbw) (blk_lat hf hbw)
      clear d1 hcs
      have h0I : (0 : Int) ≤ k := by omega
      have hlI : (k : Int) < l.length := by omega
      have hfq : (foreignB i.size l[k].1 || foreignB i.size l[k].2) = forP i.size l[k] := rfl
      rw [hfq] at hfo
      rcases hq : forP i.size l[k]
      · rw [hq] at hfo
        have HN := Lib.hid (show ∀ j (hj : j < l.length), j < k + 1 → forP i.size l[j] = false from fun j hj hjk => by
          by_cases e : j = k
          · subst e; exact hq
          · exact HA.out j hj (by omega))
        clear hq hfq
        generalize l[k] = z at e1 e2 hfo
        go_wp2_with (go_at_call 234; refine hfo.mono ?_; rintro e w' ⟨rfl, hb2⟩)
        go_roundw
        case rel => exact ⟨k + 1, by omega, by go_num, HN.out, hbw.trans (hb2.mono hbw.size)⟩
        case measure => simp [intOf]; omega
      · rw [hq] at hfo
        have HF := Lib.hid (any_hit hlt hq)
        clear hq hfq
        generalize l[k] = z at e1 e2 hfo
        go_wp2_with (go_at_call 234; refine hfo.mono ?_; rintro e w' ⟨rfl, hb2⟩)
        go_ret
        exact ⟨⟨_, rfl, by rw [HF.out]; simp⟩, hbw.trans (hb2.mono hbw.size)⟩
    · have HF := Lib.hid (any_miss (f := forP i.size) (l := l) fun j hj => HA.out j hj (by omega))
      go_wp2
      go_ret
      exact ⟨⟨_, rfl, by rw [HF.out]; rfl⟩, hbw⟩
set_option maxRecDepth 100000 in
set_option maxHeartbeats 2000000 in
theorem conP_any (i : IN) (b bf : Nat) (s : PL) (w : World) (hs : s.In w.heap.size w) (hb : IBox w b i) (hf : w.heap[bf]? = some (.cells #[.func (.func 233) #[] #[.pointer (some ⟨b, 0, none⟩)]] 150)) :
    Calls Tryz.prog 238 #[.slice s.A s.l.length s.c, .func (.func 234) #[] #[.pointer (some ⟨bf, 0, none⟩)]] w fun e w' => e = .returned (.bool (s.l.any (forP i.size))) ∧ Below w.heap.size w w' := by
  have hix := idxP_any i b bf s w hs hb hf
  clear hs hb hf
  rcases hq : s.l.any (forP i.size)
  all_goals
    rw [hq] at hix
    go_enter Tryz.func238, Tryz.ntmps238
    go_wp2_with (go_at_call 275; refine hix.mono ?_; rintro e w4 ⟨⟨r, rfl, hdi⟩, hb4⟩)
    go_ret
    exact ⟨ret_bool' (by rw [← hdi]), hb4⟩

set_option maxRecDepth 100000 in
set_option maxHeartbeats 2000000 in
theorem ascI_any (s : IL) (w : World) (hs : s.In w.heap.size w) :
    Calls Tryz.prog 236 #[.slice s.A s.l.length s.c, .func (.func 237) #[] #[]] w fun e w' => e = .returned (.bool (ascG ltI s.l)) ∧ Below w.heap.size w w' := by
  have hlen : s.l.length ≤ 9223372036854775807 := Nat.le_trans hs.1 hs.2.1
  have hcs := fun h => IL.In.cells hs h
  obtain ⟨A, c, l⟩ := s
  dsimp only at *
  clear hs
  go_enter Tryz.func236, Tryz.ntmps236
  go_wp2_with fail
  go_loopw [5] (fun i' wr => ∃ k : Nat, (1 ≤ k ∧ (k ≤ l.length ∨ k = 1)) ∧ i' = .int .i64 k ∧ (∀ j (hj : j + 1 < l.length), j + 1 < k → ltI l[j] l[j + 1] = true) ∧ Below w.heap.size w wr) (fun i' _ => l.length - (intOf i').toNat)
  case atStart => exact ⟨1, by omega, rfl, fun j _ h => absurd h (by omega), Below.refl _ _⟩
  case round =>
    obtain ⟨k, hk, rfl, hall, hbw⟩ := hrel
    have HA := Lib.hid hall
    clear hall
    by_cases hlt : k < l.length
    · obtain ⟨m, rfl⟩ : ∃ m, k = m + 1 := ⟨k - 1, by omega⟩
      obtain ⟨g, off, rfl, hg, d1⟩ := hcs (by omega)
      have e1 := (hbw.drew.cell (p := ⟨g, off + m, none⟩) hg).trans (d1 m (by omega))
      have e2 := (hbw.drew.cell (p := ⟨g, off + (m + 1), none⟩) hg).trans (d1 (m + 1) hlt)
      have hci := fun w => Tryz.cmp_Compare_int l[m] l[m + 1] w
      clear d1 hcs
      have hsub : wrap64 (m : Int) = m := by unfold wrap64; omega
      have hsubA : IntKind.i64.wrap ((m : Int) + 1 - 1) = m := by rw [IntKind.wrap_i64]; omega
      have hsubB : IntKind.i64.wrap (m : Int) = m := by rw [IntKind.wrap_i64]; omega
      have hsubC : wrap64 ((m : Int) + 1 - 1) = m := by unfold wrap64; omega
      have h2I : (m : Int) + 1 < l.length := by omega
      have h3I : (0 : Int) ≤ (m : Int) + 1 := by omega
      have h4I : ((m : Int) + 1).toNat = m + 1 := by omega
      have h0I : (0 : Int) ≤ m := by omega
      have hlI : (m : Int) < l.length := by omega
      have h1I : ((m + 1 : Nat) : Int) < l.length := by omega
      have hcv : (decide (Lib.compareInt l[m] l[m + 1] ≥ 0)) = !ltI l[m] l[m + 1] := by
        unfold Lib.compareInt ltI
        by_cases q : l[m] < l[m + 1]
        · simp [q]
        · rw [if_neg q]
          split <;> simp [q]
      rcases hq : ltI l[m] l[m + 1]
      · rw [hq] at hcv
        have HF := Lib.hid (show ascG ltI l = false by
          rw [← Bool.not_eq_true, ascG_iff]
          intro h
          have := h m hlt
          rw [hq] at this; cases this)
        clear hq
        generalize l[m] = z at e1 hci hcv
        generalize l[m + 1] = y at e2 hci hcv
        generalize Lib.compareInt z y = cv at hci hcv
        go_wp2_with fail
        go_region_held (fun w' => w'.cell? ⟨g, off + m, none⟩ = some (.int .i64 z) ∧ w'.cell? ⟨g, off + (m + 1), none⟩ = some (.int .i64 y)) (exact ⟨e1, e2⟩) (first | (go_at_call 237; refine (hci _).mono ?_; rintro e w' ⟨rfl, rfl⟩))
        go_wp2
        go_ret
        exact ⟨by rw [HF.out]; rfl, hbw.drew⟩
      · rw [hq] at hcv
        have HN := Lib.hid (show ∀ j (hj : j + 1 < l.length), j + 1 < m + 1 + 1 → ltI l[j] l[j + 1] = true from fun j hj hjk => by
          by_cases e : j = m
          · subst e; exact hq
          · exact HA.out j hj (by omega))
        clear hq
        generalize l[m] = z at e1 hci hcv
        generalize l[m + 1] = y at e2 hci hcv
        generalize Lib.compareInt z y = cv at hci hcv
        go_wp2_with fail
        go_region_held (fun w' => w'.cell? ⟨g, off + m, none⟩ = some (.int .i64 z) ∧ w'.cell? ⟨g, off + (m + 1), none⟩ = some (.int .i64 y)) (exact ⟨e1, e2⟩) (first | (go_at_call 237; refine (hci _).mono ?_; rintro e w' ⟨rfl, rfl⟩))
        go_wp2
        go_roundw
        case rel => exact ⟨m + 1 + 1, by omega, by go_num, HN.out, hbw.drew⟩
        case measure => simp [intOf]; omega
    · have HF := Lib.hid (show ascG ltI l = true from ascG_iff.2 fun j hj => HA.out j hj (by omega))
      go_wp2
      go_ret
      exact ⟨by rw [HF.out]; rfl, hbw⟩
end Go.Proofs.YtffibneelaeocaaGreatDoor

namespace Go.Proofs.YtffibneelaeocaaGreatDoor
open Go.RowKit

def orF (x y : Int) : Int := if x = 0 then y else x
set_option maxRecDepth 100000 in
set_option maxHeartbeats 2000000 in
/-- cmp.Or of two numbers. -/
theorem orInt_any (g : Nat) (x y : Int) (w : World) (h0 : w.cell? ⟨g, 0, none⟩ = some (.int .i64 x)) (h1 : w.cell? ⟨g, 1, none⟩ = some (.int .i64 y)) :
    Calls Tryz.prog 276 #[.slice (some ⟨g, 0, none⟩) 2 2] w fun e w' => e = .returned (.int .i64 (orF x y)) ∧ w' = w := by
  unfold orF
  by_cases hx : x = 0
  · subst hx
    rw [if_pos rfl]
    rcases hy : (y != 0)
    · have hy0 : y = 0 := by simpa using hy
      subst hy0
      go_enter Tryz.func276, Tryz.ntmps276
      go_wp2_with fail
      go_loopw [8] (fun i wr => ((i = .int .i64 0) ∨ (i = .int .i64 1) ∨ (i = .int .i64 2)) ∧ wr = w) (fun i _ => 2 - (intOf i).toNat)
      case atStart => exact ⟨.inl rfl, rfl⟩
      case round =>
        obtain ⟨rfl | rfl | rfl, rfl⟩ := hrel
        · go_wp2_with fail
          go_roundw
          case rel => exact ⟨.inr (.inl rfl), by first | rfl | trivial⟩
          case measure => simp [intOf]
        · go_wp2_with fail
          go_roundw
          case rel => exact ⟨.inr (.inr rfl), by first | rfl | trivial⟩
          case measure => simp [intOf]
        · go_wp2
          go_ret
          exact ⟨rfl, rfl⟩
    · go_enter Tryz.func276, Tryz.ntmps276
      go_wp2_with fail
      go_loopw [8] (fun i wr => ((i = .int .i64 0) ∨ (i = .int .i64 1)) ∧ wr = w) (fun i _ => 2 - (intOf i).toNat)
      case atStart => exact ⟨.inl rfl, rfl⟩
      case round =>
        obtain ⟨rfl | rfl, rfl⟩ := hrel
        · go_wp2_with fail
          go_roundw
          case rel => exact ⟨.inr rfl, by first | rfl | trivial⟩
          case measure => simp [intOf]
        · go_wp2
          go_ret
          exact ⟨rfl, rfl⟩
  · rw [if_neg hx]
    have hx1 : (x != 0) = true := by simpa using hx
    go_enter Tryz.func276, Tryz.ntmps276
    go_wp2_with fail
    go_loopw [8] (fun i wr => i = .int .i64 0 ∧ wr = w) (fun i _ => 2 - (intOf i).toNat)
    case atStart => exact ⟨rfl, rfl⟩
    case round =>
      obtain ⟨rfl, rfl⟩ := hrel
      go_wp2
      go_ret
      exact ⟨rfl, rfl⟩

def cmpF (p q : Int × Int) : Int := orF (Lib.compareInt p.1 q.1) (Lib.compareInt p.2 q.2)
theorem cmpF_ge (p q : Int × Int) : decide (cmpF p q ≥ 0) = !ltP p q := by
  unfold cmpF orF ltP Lib.compareInt
  by_cases h1 : p.1 < q.1
  · simp [h1]
  · rw [if_neg h1]
    by_cases h2 : p.1 > q.1
    · rw [if_pos h2]
      have h3 : ¬ p.1 = q.1 := by omega
      simp [h1, h3]
    · rw [if_neg h2]
      have h3 : p.1 = q.1 := by omega
      by_cases h4 : p.2 < q.2
      · simp [h3, h4]
      · rw [if_pos rfl, if_neg h4]
        split <;> simp [h3, h4]

set_option maxRecDepth 100000 in
set_option maxHeartbeats 2000000 in
theorem cmpP_any (p q : Int × Int) (w : World) :
    Calls Tryz.prog 240 #[.agg #[.int .i64 p.1, .int .i64 p.2], .agg #[.int .i64 q.1, .int .i64 q.2]] w fun e w' => e = .returned (.int .i64 (cmpF p q)) ∧ Below w.heap.size w w' := by
  obtain ⟨W1, hW1, hB1, hs1, hk1⟩ := newBlk w _ rfl #[.int .i64 p.1, .int .i64 p.2] 126
  obtain ⟨W2, hW2, hB2, hs2, hk2⟩ := newBlk W1 _ hs1 #[.int .i64 q.1, .int .i64 q.2] 126
  have hB : Below w.heap.size w W2 := hB1.trans (hB2.mono (by omega))
  have hk12 := (hB2.block w.heap.size (by omega)).trans hk1
  have a0 := cell_of_blk hk12 0
  have a1 := cell_of_blk hk12 1
  have b0 := cell_of_blk hk2 0
  have b1 := cell_of_blk hk2 1
  simp only [List.getElem?_toArray, List.getElem?_cons_zero, List.getElem?_cons_succ] at a0 a1 b0 b1
  obtain ⟨x, y⟩ := p
  obtain ⟨z, u⟩ := q
  unfold cmpF
  dsimp only at *
  have h1 := fun w => Tryz.cmp_Compare_int x z w
  have h2 := fun w => Tryz.cmp_Compare_int y u w
  generalize Lib.compareInt x z = cx at h1 ⊢
  generalize Lib.compareInt y u = cy at h2 ⊢
  obtain ⟨W3, hW3, hB3, hs3, hk3⟩ := newBlk W2.drew _ hs2 #[.int .i64 cx, .int .i64 cy] 3
  have d0 := cell_of_blk hk3 0
  have d1 := cell_of_blk hk3 1
  simp only [List.getElem?_toArray, List.getElem?_cons_zero, List.getElem?_cons_succ] at d0 d1
  have hor := orInt_any (w.heap.size + 1 + 1) cx cy W3 d0 d1
  have HB := Lib.hid (hB.trans (((Below.refl W2.heap.size W2).drew.trans (hB3.mono (by omega))).mono (by omega)))
  have e0 := (hB3.cell (p := ⟨w.heap.size, 0, none⟩) (by show w.heap.size < w.heap.size + 1 + 1; omega)).trans a0
  have e1 := (hB3.cell (p := ⟨w.heap.size, 1, none⟩) (by show w.heap.size < w.heap.size + 1 + 1; omega)).trans a1
  have e2 := (hB3.cell (p := ⟨w.heap.size + 1, 0, none⟩) (by show w.heap.size + 1 < w.heap.size + 1 + 1; omega)).trans b0
  have e3 := (hB3.cell (p := ⟨w.heap.size + 1, 1, none⟩) (by show w.heap.size + 1 < w.heap.size + 1 + 1; omega)).trans b1
  have H1 := h1 W2.drew
  have H2 := h2 W2.drew
  clear hB hB1 hB2 hB3 hk1 hk12 hk2 hk3 d0 d1 h1 h2
  go_enter Tryz.func240, Tryz.ntmps240
  go_wp2_with fail
  go_region_held (fun w' => w'.cell? ⟨w.heap.size, 0, none⟩ = some (.int .i64 x) ∧ w'.cell? ⟨w.heap.size, 1, none⟩ = some (.int .i64 y) ∧ w'.cell? ⟨w.heap.size + 1, 0, none⟩ = some (.int .i64 z) ∧ w'.cell? ⟨w.heap.size + 1, 1, none⟩ = some (.int .i64 u)) (first | exact ⟨a0, a1, b0, b1⟩ | (rw [hW3]; exact ⟨e0, e1, e2, e3⟩) | exact ⟨e0, e1, e2, e3⟩)
    (first
      | (go_at_call 237; have _k := k1; refine H2.mono ?_; rintro e w' ⟨rfl, rfl⟩)
      | (go_at_call 237; refine H1.mono ?_; rintro e w' ⟨rfl, rfl⟩; have k1 := True.intro)
      | (go_at_call 276; rw [hW3]; refine hor.mono ?_; rintro e w' ⟨rfl, rfl⟩)
      | (go_at_call 276; refine hor.mono ?_; rintro e w' ⟨rfl, rfl⟩))
  all_goals
    go_wp2
    go_ret
    exact ⟨rfl, HB.out⟩
end Go.Proofs.YtffibneelaeocaaGreatDoor

namespace Go.Proofs.YtffibneelaeocaaGreatDoor
open Go.RowKit

set_option maxRecDepth 100000 in
set_option maxHeartbeats 2000000 in
theorem ascP_any (s : PL) (w : World) (hs : s.In w.heap.size w) :
    Calls Tryz.prog 239 #[.slice s.A s.l.length s.c, .func (.func 240) #[] #[]] w fun e w' => e = .returned (.bool (ascG ltP s.l)) ∧ Below w.heap.size w w' := by
  have hlen : s.l.length ≤ 9223372036854775807 := Nat.le_trans hs.1 hs.2.1
  have hcs := fun h => PL.In.cells hs h
  obtain ⟨A, c, l⟩ := s
  dsimp only at *
  clear hs
  go_enter Tryz.func239, Tryz.ntmps239
  go_wp2_with fail
  go_loopw [5] (fun i' wr => ∃ k : Nat, (1 ≤ k ∧ (k ≤ l.length ∨ k = 1)) ∧ i' = .int .i64 k ∧ (∀ j (hj : j + 1 < l.length), j + 1 < k → ltP l[j] l[j + 1] = true) ∧ Below w.heap.size w wr) (fun i' _ => l.length - (intOf i').toNat)
  case atStart => exact ⟨1, by omega, rfl, fun j _ h => absurd h (by omega), Below.refl _ _⟩
  case round =>
    obtain ⟨k, hk, rfl, hall, hbw⟩ := hrel
    have HA := Lib.hid hall
    clear hall
    by_cases hlt : k < l.length
    · obtain ⟨m, rfl⟩ : ∃ m, k = m + 1 := ⟨k - 1, by omega⟩
      obtain ⟨g, off, rfl, hg, d1⟩ := hcs (by omega)
      have hgr : g < wr.heap.size := Nat.lt_of_lt_of_le hg hbw.size
      have e1 := (hbw.drew.cell (p := ⟨g, off + m * 2, none⟩) hg).trans (d1 m (by omega)).1
      have e2 := (hbw.drew.cell (p := ⟨g, off + m * 2 + 1, none⟩) hg).trans (d1 m (by omega)).2
      have e3 := (hbw.drew.cell (p := ⟨g, off + (m + 1) * 2, none⟩) hg).trans (d1 (m + 1) hlt).1
      have e4 := (hbw.drew.cell (p := ⟨g, off + (m + 1) * 2 + 1, none⟩) hg).trans (d1 (m + 1) hlt).2
      have hci := cmpP_any l[m] l[m + 1] wr.drew
      clear d1 hcs
      have hsub : wrap64 (m : Int) = m := by unfold wrap64; omega
      have hsubA : IntKind.i64.wrap ((m : Int) + 1 - 1) = m := by rw [IntKind.wrap_i64]; omega
      have hsubB : IntKind.i64.wrap (m : Int) = m := by rw [IntKind.wrap_i64]; omega
      have hsubC : wrap64 ((m : Int) + 1 - 1) = m := by unfold wrap64; omega
      have h2I : (m : Int) + 1 < l.length := by omega
      have h3I : (0 : Int) ≤ (m : Int) + 1 := by omega
      have h4I : ((m : Int) + 1).toNat = m + 1 := by omega
      have h0I : (0 : Int) ≤ m := by omega
      have hlI : (m : Int) < l.length := by omega
      have hcv := cmpF_ge l[m] l[m + 1]
      rcases hq : ltP l[m] l[m + 1]
      · rw [hq] at hcv
        have HF := Lib.hid (show ascG ltP l = false by
          rw [← Bool.not_eq_true, ascG_iff]
          intro h
          have := h m hlt
          rw [hq] at this; cases this)
        clear hq
        generalize l[m] = z at e1 e2 hci hcv
        generalize l[m + 1] = y at e3 e4 hci hcv
        generalize cmpF z y = cv at hci hcv
        go_wp2_with fail
        go_region_held (fun w' => (w'.cell? ⟨g, off + m * 2, none⟩ = some (.int .i64 z.1) ∧ w'.cell? ⟨g, off + m * 2 + 1, none⟩ = some (.int .i64 z.2)) ∧ w'.cell? ⟨g, off + (m + 1) * 2, none⟩ = some (.int .i64 y.1) ∧ w'.cell? ⟨g, off + (m + 1) * 2 + 1, none⟩ = some (.int .i64 y.2))
          (first | exact ⟨⟨e1, e2⟩, e3, e4⟩ | exact ⟨⟨(hb2.cell (p := ⟨g, off + m * 2, none⟩) hgr).trans e1, (hb2.cell (p := ⟨g, off + m * 2 + 1, none⟩) hgr).trans e2⟩, (hb2.cell (p := ⟨g, off + (m + 1) * 2, none⟩) hgr).trans e3, (hb2.cell (p := ⟨g, off + (m + 1) * 2 + 1, none⟩) hgr).trans e4⟩)
          (first | (go_at_call 240; refine hci.mono ?_; rintro e w2 ⟨rfl, hb2⟩))
        go_wp2
        go_ret
        exact ⟨by rw [HF.out]; rfl, hbw.drew.trans (hb2.mono hbw.size)⟩
      · rw [hq] at hcv
        have HN := Lib.hid (show ∀ j (hj : j + 1 < l.length), j + 1 < m + 1 + 1 → ltP l[j] l[j + 1] = true from fun j hj hjk => by
          by_cases e : j = m
          · subst e; exact hq
          · exact HA.out j hj (by omega))
        clear hq
        generalize l[m] = z at e1 e2 hci hcv
        generalize l[m + 1] = y at e3 e4 hci hcv
        generalize cmpF z y = cv at hci hcv
        go_wp2_with fail
        go_region_held (fun w' => (w'.cell? ⟨g, off + m * 2, none⟩ = some (.int .i64 z.1) ∧ w'.cell? ⟨g, off + m * 2 + 1, none⟩ = some (.int .i64 z.2)) ∧ w'.cell? ⟨g, off + (m + 1) * 2, none⟩ = some (.int .i64 y.1) ∧ w'.cell? ⟨g, off + (m + 1) * 2 + 1, none⟩ = some (.int .i64 y.2))
          (first | exact ⟨⟨e1, e2⟩, e3, e4⟩ | exact ⟨⟨(hb2.cell (p := ⟨g, off + m * 2, none⟩) hgr).trans e1, (hb2.cell (p := ⟨g, off + m * 2 + 1, none⟩) hgr).trans e2⟩, (hb2.cell (p := ⟨g, off + (m + 1) * 2, none⟩) hgr).trans e3, (hb2.cell (p := ⟨g, off + (m + 1) * 2 + 1, none⟩) hgr).trans e4⟩)
          (first | (go_at_call 240; refine hci.mono ?_; rintro e w2 ⟨rfl, hb2⟩))
        go_wp2
        go_roundw
        case rel => exact ⟨m + 1 + 1, by omega, by go_num, HN.out, hbw.drew.trans (hb2.mono hbw.size)⟩
        case measure => simp [intOf]; omega
    · have HF := Lib.hid (show ascG ltP l = true from ascG_iff.2 fun j hj => HA.out j hj (by omega))
      go_wp2
      go_ret
      exact ⟨by rw [HF.out]; rfl, hbw⟩

def shapeB (n : NM) (i : IN) : Bool := decide (1 ≤ i.size) && (decide (i.size ≤ 256) && (((i.C.length : Int) == (n.C.l.length : Int)) && (((i.R.length : Int) == (n.R.l.length : Int)) && ((i.I.l.length : Int) == (n.I.l.length : Int)))))
set_option maxRecDepth 100000 in
set_option maxHeartbeats 2000000 in
theorem hasShape_any (n : NM) (i : IN) (w : World) : Calls Tryz.prog 187 #[n.val, i.val] w fun e w' => e = .returned (.bool (shapeB n i)) ∧ Below w.heap.size w w' := by
  obtain ⟨W1, hW1, hB1, hs1, hk1⟩ := newBlk w _ rfl #[.slice n.C.A n.C.l.length n.C.c, .slice n.R.A n.R.l.length n.R.c, .slice n.I.A n.I.l.length n.I.c] 24
  obtain ⟨W2, hW2, hB2, hs2, hk2⟩ := newBlk W1 _ hs1 #[.int .i64 i.size, .slice i.CA i.C.length i.cc, .slice i.RA i.R.length i.rc, .slice i.I.A i.I.l.length i.I.c] 38
  have hB : Below w.heap.size w W2 := hB1.trans (hB2.mono (by omega))
  have hk12 := (hB2.block w.heap.size (by omega)).trans hk1
  have a0 := cell_of_blk hk12 0
  have a1 := cell_of_blk hk12 1
  have a2 := cell_of_blk hk12 2
  have b0 := cell_of_blk hk2 0
  have b1 := cell_of_blk hk2 1
  have b2 := cell_of_blk hk2 2
  have b3 := cell_of_blk hk2 3
  simp only [List.getElem?_toArray, List.getElem?_cons_zero, List.getElem?_cons_succ] at a0 a1 a2 b0 b1 b2 b3
  have HB := Lib.hid hB
  clear hB hB1 hB2 hk1 hk12 hk2
  unfold shapeB
  simp only [NM.val, IN.val]
  rcases q1 : decide (1 ≤ i.size)
  · go_enter Tryz.func187, Tryz.ntmps187
    go_wp2
    go_ret
    exact ⟨rfl, HB.out⟩
  · rcases q2 : decide (i.size ≤ 256)
    · go_enter Tryz.func187, Tryz.ntmps187
      go_wp2
      go_ret
      exact ⟨rfl, HB.out⟩
    · rcases q3 : ((i.C.length : Int) == (n.C.l.length : Int))
      · go_enter Tryz.func187, Tryz.ntmps187
        go_wp2
        go_ret
        exact ⟨rfl, HB.out⟩
      · rcases q4 : ((i.R.length : Int) == (n.R.l.length : Int))
        · go_enter Tryz.func187, Tryz.ntmps187
          go_wp2
          go_ret
          exact ⟨rfl, HB.out⟩
        · go_enter Tryz.func187, Tryz.ntmps187
          go_wp2
          go_ret
          exact ⟨rfl, HB.out⟩
end Go.Proofs.YtffibneelaeocaaGreatDoor

namespace Go.Proofs.YtffibneelaeocaaGreatDoor
open Go.RowKit

def okI (n : Int) (s : IL) : Bool := !(s.l.any (foreignB n)) && ascG ltI s.l
def okP (n : Int) (s : PL) : Bool := !(s.l.any (forP n)) && ascG ltP s.l
def listsB (i : IN) : Bool := i.C.all (okI i.size) && (i.R.all (okP i.size) && !(i.I.l.any (foreignB i.size)))
theorem all_miss {α : Type} {f : α → Bool} {l : List α} {k : Nat} (hk : k < l.length) (h : f l[k] = false) : l.all f = false := by
  rw [← Bool.not_eq_true, List.all_eq_true]
  intro h'
  rw [h' _ (List.getElem_mem hk)] at h; cases h
theorem all_hit {α : Type} {f : α → Bool} {l : List α} (h : ∀ j (hj : j < l.length), f l[j] = true) : l.all f = true := by
  rw [List.all_eq_true]
  intro x hx
  obtain ⟨j, hj, rfl⟩ := List.getElem_of_mem hx
  exact h j hj

set_option maxRecDepth 100000 in
set_option maxHeartbeats 4000000 in
theorem hasLists_any (i : IN) (w : World) (hi : i.In w.heap.size w) : Calls Tryz.prog 188 #[i.val] w fun e w' => e = .returned (.bool (listsB i)) ∧ Below w.heap.size w w' := by
  obtain ⟨W1, hW1, hB1, hs1, hk1⟩ := newBlk w _ rfl #[.int .i64 i.size, .slice i.CA i.C.length i.cc, .slice i.RA i.R.length i.rc, .slice i.I.A i.I.l.length i.I.c] 38
  obtain ⟨W0, hW0, hB0, hs0, hk0⟩ := newBlk W1 _ hs1 #[.nilFunc] 150
  have n0 := cell_of_blk hk0 0
  have fz := frozen_of_blk hk0 0
  simp only [List.getElem?_toArray, List.getElem?_cons_zero] at n0
  have hk2' := blk_set hk0 0 (.func (.func 233) #[] #[.pointer (some ⟨w.heap.size, 0, none⟩)])
  have hB2' : Below (w.heap.size + 1) W1 (W0.setCell ⟨w.heap.size + 1, 0, none⟩ (.func (.func 233) #[] #[.pointer (some ⟨w.heap.size, 0, none⟩)])) := hB0.setCell (p := ⟨w.heap.size + 1, 0, none⟩) (Nat.le_refl _) _
  have hs2' : (W0.setCell ⟨w.heap.size + 1, 0, none⟩ (.func (.func 233) #[] #[.pointer (some ⟨w.heap.size, 0, none⟩)])).heap.size = w.heap.size + 1 + 1 := by simp [World.setCell, hs0]
  obtain ⟨W2, hW2⟩ : ∃ W2, W0.setCell ⟨w.heap.size + 1, 0, none⟩ (.func (.func 233) #[] #[.pointer (some ⟨w.heap.size, 0, none⟩)]) = W2 := ⟨_, rfl⟩
  rw [hW2] at hk2' hB2' hs2'
  have hk2 : W2.heap[w.heap.size + 1]? = some (.cells #[.func (.func 233) #[] #[.pointer (some ⟨w.heap.size, 0, none⟩)]] 150) := hk2'
  have hs2 := hs2'
  have hB2 := hB2'
  have hB : Below w.heap.size w W2 := hB1.trans (hB2.mono (by omega))
  have hk12 := (hB2.block w.heap.size (by omega)).trans hk1
  have a1 := cell_of_blk hk12 1
  have f0 := cell_of_blk hk2 0
  simp only [List.getElem?_toArray, List.getElem?_cons_zero, List.getElem?_cons_succ] at a1 f0
  have hcl : i.C.length ≤ 9223372036854775807 := Nat.le_trans hi.c1 hi.c2
  have hrl : i.R.length ≤ 9223372036854775807 := Nat.le_trans hi.r1 hi.r2
  have hIB : ∀ w', Below W2.heap.size W2 w' → IBox w' w.heap.size i := fun w' hb => blk_lat hk12 hb
  have hFB : ∀ w', Below W2.heap.size W2 w' → w'.heap[w.heap.size + 1]? = some (.cells #[.func (.func 233) #[] #[.pointer (some ⟨w.heap.size, 0, none⟩)]] 150) := fun w' hb => blk_lat hk2 hb
  have hIn : ∀ w', Below W2.heap.size W2 w' → i.In w'.heap.size w' := fun w' hb => (hi.later hB).later hb
  have hcc := fun h => RowAt.vals hi.c3 h
  have hrr := fun h => RowAt.vals hi.r3 h
  have HB := Lib.hid hB
  have HIB := Lib.hid hIB
  have HFB := Lib.hid hFB
  have HIN := Lib.hid hIn
  simp only [IN.val]
  clear hi hB hB1 hB2 hk1 hk12 hk2 hIB hFB hIn hk0 hB0 hk2' hB2' hs2'
  go_enter Tryz.func188, Tryz.ntmps188
  go_wp2_with fail
  go_loopw [14] (fun i' wr => ∃ k : Nat, k ≤ i.C.length ∧ i' = .int .i64 k ∧ (∀ j (hj : j < i.C.length), j < k → okI i.size i.C[j] = true) ∧ Below W2.heap.size W2 wr) (fun i' _ => i.C.length - (intOf i').toNat)
  case atStart => exact ⟨0, Nat.zero_le _, rfl, fun j _ h => absurd h (by omega), Below.refl _ _⟩
  case round =>
    obtain ⟨k, hk, rfl, hall, hbw⟩ := hrel
    have HA := Lib.hid hall
    clear hall
    have g0 := cell_of_blk (HFB.out wr hbw) 0
    simp only [List.getElem?_toArray, List.getElem?_cons_zero] at g0
    by_cases hlt : k < i.C.length
    · obtain ⟨g, off, hCA, hg, d1⟩ := hcc (by omega)
      have e1 := ((HB.out.trans (hbw.mono (by omega))).cell (p := ⟨g, off + k, none⟩) hg).trans (d1 k hlt)
      rw [hCA]
      have hsI := (HIN.out wr hbw).c4 _ (List.getElem_mem hlt)
      have hco := conI_any i w.heap.size i.C[k] wr hsI (HIB.out wr hbw)
      have has := ascI_any i.C[k] wr hsI
      have h0I : (0 : Int) ≤ k := by omega
      have hlI : (k : Int) < i.C.length := by omega
      have hok : okI i.size i.C[k] = (!(i.C[k].l.any (foreignB i.size)) && ascG ltI i.C[k].l) := rfl
      clear d1 hcc hrr hsI
      simp only [IL.val] at e1
      rcases q1 : i.C[k].l.any (foreignB i.size)
      · rcases q2 : ascG ltI i.C[k].l
        · rw [q1] at hco
          rw [q2] at has
          have HF := Lib.hid (show listsB i = false by rw [listsB, all_miss hlt (by rw [hok, q1, q2]; rfl)]; rfl)
          clear q1 q2 hok
          generalize i.C[k] = s at e1 hco has
          go_wp2_with (first | (go_at_call 235; refine hco.mono ?_; rintro e w' ⟨rfl, rfl⟩) | (go_at_call 236; refine has.mono ?_; rintro e w' ⟨rfl, hb2⟩))
          go_ret
          exact ⟨by rw [HF.out]; rfl, HB.out.trans ((hbw.trans (hb2.mono hbw.size)).mono (by omega))⟩
        · rw [q1] at hco
          rw [q2] at has
          have HN := Lib.hid (show ∀ j (hj : j < i.C.length), j < k + 1 → okI i.size i.C[j] = true from fun j hj hjk => by
            by_cases e : j = k
            · subst e; rw [hok, q1, q2]; rfl
            · exact HA.out j hj (by omega))
          clear q1 q2 hok
          generalize i.C[k] = s at e1 hco has
          go_wp2_with (first | (go_at_call 235; refine hco.mono ?_; rintro e w' ⟨rfl, rfl⟩) | (go_at_call 236; refine has.mono ?_; rintro e w' ⟨rfl, hb2⟩))
          go_roundw
          case rel => exact ⟨k + 1, by omega, by go_num, HN.out, hbw.trans (hb2.mono hbw.size)⟩
          case measure => simp [intOf]; omega
      · rw [q1] at hco
        have HF := Lib.hid (show listsB i = false by rw [listsB, all_miss hlt (by rw [hok, q1]; rfl)]; rfl)
        clear q1 hok has
        generalize i.C[k] = s at e1 hco
        go_wp2_with (first | (go_at_call 235; refine hco.mono ?_; rintro e w' ⟨rfl, rfl⟩))
        go_ret
        exact ⟨by rw [HF.out]; rfl, HB.out.trans (hbw.mono (by omega))⟩
    · have HC := Lib.hid (show i.C.all (okI i.size) = true from all_hit fun j hj => HA.out j hj (by omega))
      have b2 := cell_of_blk (HIB.out wr hbw) 2
      simp only [List.getElem?_toArray, List.getElem?_cons_zero, List.getElem?_cons_succ] at b2
      clear hcc a1 f0 HA
      go_wp2_with fail
      go_loopw [30] (fun i' wr => ∃ k : Nat, k ≤ i.R.length ∧ i' = .int .i64 k ∧ (∀ j (hj : j < i.R.length), j < k → okP i.size i.R[j] = true) ∧ Below W2.heap.size W2 wr) (fun i' _ => i.R.length - (intOf i').toNat)
      case atStart => exact ⟨0, Nat.zero_le _, rfl, fun j _ h => absurd h (by omega), hbw⟩
      case round =>
        clear b2 g0 hbw
        obtain ⟨m, hm, rfl, hall, hbw⟩ := hrel
        have HA := Lib.hid hall
        clear hall
        have g0 := cell_of_blk (HFB.out wr hbw) 0
        simp only [List.getElem?_toArray, List.getElem?_cons_zero] at g0
        by_cases hlt2 : m < i.R.length
        · obtain ⟨g, off, hRA, hg, d1⟩ := hrr (by omega)
          have e1 := ((HB.out.trans (hbw.mono (by omega))).cell (p := ⟨g, off + m, none⟩) hg).trans (d1 m hlt2)
          rw [hRA]
          have hsI := (HIN.out wr hbw).r4 _ (List.getElem_mem hlt2)
          have hco := conP_any i w.heap.size (w.heap.size + 1) i.R[m] wr hsI (HIB.out wr hbw) (HFB.out wr hbw)
          have has := fun w' (hb : Below wr.heap.size wr w') => ascP_any i.R[m] w' (hsI.below hb.size hb)
          have h0I : (0 : Int) ≤ m := by omega
          have hlI : (m : Int) < i.R.length := by omega
          have hok : okP i.size i.R[m] = (!(i.R[m].l.any (forP i.size)) && ascG ltP i.R[m].l) := rfl
          clear d1 hrr hsI
          simp only [PL.val] at e1
          rcases q1 : i.R[m].l.any (forP i.size)
          · rcases q2 : ascG ltP i.R[m].l
            · rw [q1] at hco
              rw [q2] at has
              have HF := Lib.hid (show listsB i = false by rw [listsB, all_miss (f := okP i.size) hlt2 (by rw [hok, q1, q2]; rfl), Bool.false_and, Bool.and_false])
              clear q1 q2 hok
              generalize i.R[m] = s at e1 hco has
              go_wp2_with (first | (go_at_call 238; refine hco.mono ?_; rintro e w' ⟨rfl, hb1⟩) | (go_at_call 239; refine (has _ hb1).mono ?_; rintro e w' ⟨rfl, hb2⟩))
              go_ret
              exact ⟨by rw [HF.out]; rfl, HB.out.trans ((hbw.trans ((hb1.trans (hb2.mono hb1.size)).mono hbw.size)).mono (by omega))⟩
            · rw [q1] at hco
              rw [q2] at has
              have HN := Lib.hid (show ∀ j (hj : j < i.R.length), j < m + 1 → okP i.size i.R[j] = true from fun j hj hjk => by
                by_cases e : j = m
                · subst e; rw [hok, q1, q2]; rfl
                · exact HA.out j hj (by omega))
              clear q1 q2 hok
              generalize i.R[m] = s at e1 hco has
              go_wp2_with (first | (go_at_call 238; refine hco.mono ?_; rintro e w' ⟨rfl, hb1⟩) | (go_at_call 239; refine (has _ hb1).mono ?_; rintro e w' ⟨rfl, hb2⟩))
              go_roundw
              case rel => exact ⟨m + 1, by omega, by go_num, HN.out, hbw.trans ((hb1.trans (hb2.mono hb1.size)).mono hbw.size)⟩
              case measure => simp [intOf]; omega
          · rw [q1] at hco
            have HF := Lib.hid (show listsB i = false by rw [listsB, all_miss (f := okP i.size) hlt2 (by rw [hok, q1]; rfl), Bool.false_and, Bool.and_false])
            clear q1 hok has
            generalize i.R[m] = s at e1 hco
            go_wp2_with (first | (go_at_call 238; refine hco.mono ?_; rintro e w' ⟨rfl, hb1⟩))
            go_ret
            exact ⟨by rw [HF.out]; rfl, HB.out.trans ((hbw.trans (hb1.mono hbw.size)).mono (by omega))⟩
        · have HR := Lib.hid (show i.R.all (okP i.size) = true from all_hit fun j hj => HA.out j hj (by omega))
          have b3 := cell_of_blk (HIB.out wr hbw) 3
          simp only [List.getElem?_toArray, List.getElem?_cons_zero, List.getElem?_cons_succ] at b3
          have hco := conI_any i w.heap.size i.I wr (HIN.out wr hbw).i1 (HIB.out wr hbw)
          have HF := Lib.hid (show listsB i = !(i.I.l.any (foreignB i.size)) by rw [listsB, HC.out, HR.out, Bool.true_and, Bool.true_and])
          clear hrr
          generalize i.I.l.any (foreignB i.size) = bb at hco HF
          go_wp2_with (first | (go_at_call 235; refine hco.mono ?_; rintro e w' ⟨rfl, rfl⟩))
          go_ret
          exact ⟨by rw [HF.out]; rfl, HB.out.trans (hbw.mono (by omega))⟩

/-- What Check reports. -/
def icheckF (n : NM) (i : IN) : Int := if n.ok then (if shapeB n i && listsB i then 0 else 30) else 20
set_option maxRecDepth 100000 in
set_option maxHeartbeats 2000000 in
theorem iCheck_any (n : NM) (i : IN) (w : World) (hn : n.In w.heap.size w) (hi : i.In w.heap.size w) : Calls Tryz.prog 134 #[n.val, i.val] w fun e w' => e = .returned (.int .i64 (icheckF n i)) ∧ Below w.heap.size w w' := by
  obtain ⟨W1, hW1, hB1, hs1, hk1⟩ := newBlk w _ rfl #[.slice n.C.A n.C.l.length n.C.c, .slice n.R.A n.R.l.length n.R.c, .slice n.I.A n.I.l.length n.I.c] 24
  obtain ⟨W2, hW2, hB2, hs2, hk2⟩ := newBlk W1 _ hs1 #[.int .i64 i.size, .slice i.CA i.C.length i.cc, .slice i.RA i.R.length i.rc, .slice i.I.A i.I.l.length i.I.c] 38
  have hB : Below w.heap.size w W2 := hB1.trans (hB2.mono (by omega))
  have hk12 := (hB2.block w.heap.size (by omega)).trans hk1
  have hcell : ∀ w', Below W2.heap.size W2 w' → (w'.cell? ⟨w.heap.size, 0, none⟩ = some (.slice n.C.A n.C.l.length n.C.c) ∧ w'.cell? ⟨w.heap.size, 1, none⟩ = some (.slice n.R.A n.R.l.length n.R.c) ∧ w'.cell? ⟨w.heap.size, 2, none⟩ = some (.slice n.I.A n.I.l.length n.I.c)) ∧ (w'.cell? ⟨w.heap.size + 1, 0, none⟩ = some (.int .i64 i.size) ∧ w'.cell? ⟨w.heap.size + 1, 1, none⟩ = some (.slice i.CA i.C.length i.cc) ∧ w'.cell? ⟨w.heap.size + 1, 2, none⟩ = some (.slice i.RA i.R.length i.rc) ∧ w'.cell? ⟨w.heap.size + 1, 3, none⟩ = some (.slice i.I.A i.I.l.length i.I.c)) := fun w' hb =>
    have h := blk_lat hk12 hb
    have h' := blk_lat hk2 hb
    ⟨⟨cell_of_blk h 0, cell_of_blk h 1, cell_of_blk h 2⟩, cell_of_blk h' 0, cell_of_blk h' 1, cell_of_blk h' 2, cell_of_blk h' 3⟩
  have hcn := cNames_any n W2 (hn.later hB)
  have hsh := fun w' => hasShape_any n i w'
  have hli := fun w' (hb : Below W2.heap.size W2 w') => hasLists_any i w' ((hi.later hB).later hb)
  obtain ⟨⟨a0, a1, a2⟩, b0, b1, b2, b3⟩ := hcell W2 (Below.refl _ _)
  have HB := Lib.hid hB
  unfold icheckF
  simp only [NM.val, IN.val] at hcn hsh hli ⊢
  clear hB hB1 hB2 hk1 hk12 hk2 hn hi
  cases hok : n.ok
  · rw [hok] at hcn
    go_enter Tryz.func134, Tryz.ntmps134
    go_wp2_with (go_at_call 141; refine hcn.mono ?_; simp only [codeIf]; rintro e w3 ⟨rfl, hb3⟩)
    go_ret
    exact ⟨rfl, HB.out.trans (hb3.mono (by omega))⟩
  · rw [hok] at hcn
    cases q1 : shapeB n i
    · rw [q1] at hsh
      go_enter Tryz.func134, Tryz.ntmps134
      go_wp2_with (first | (go_at_call 141; refine hcn.mono ?_; simp only [codeIf]; rintro e w3 ⟨rfl, hb3⟩; obtain ⟨⟨a0, a1, a2⟩, b0, b1, b2, b3⟩ := hcell w3 hb3) | (go_at_call 187; refine (hsh w3).mono ?_; rintro e w4 ⟨rfl, hb4⟩))
      go_ret
      exact ⟨rfl, HB.out.trans ((hb3.trans (hb4.mono hb3.size)).mono (by omega))⟩
    · rw [q1] at hsh
      cases q2 : listsB i
      all_goals
        rw [q2] at hli
        go_enter Tryz.func134, Tryz.ntmps134
        go_wp2_with (first | (go_at_call 141; refine hcn.mono ?_; simp only [codeIf]; rintro e w3 ⟨rfl, hb3⟩; obtain ⟨⟨a0, a1, a2⟩, b0, b1, b2, b3⟩ := hcell w3 hb3) | (go_at_call 187; refine (hsh w3).mono ?_; rintro e w4 ⟨rfl, hb4'⟩; have hb4 := hb3.trans (hb4'.mono hb3.size); obtain ⟨⟨a0, a1, a2⟩, b0, b1, b2, b3⟩ := hcell w4 hb4) | (go_at_call 188; refine (hli w4 hb4).mono ?_; rintro e w5 ⟨rfl, hb5⟩))
        go_ret
        exact ⟨rfl, HB.out.trans ((hb4.trans (hb5.mono hb4.size)).mono (by omega))⟩
end Go.Proofs.YtffibneelaeocaaGreatDoor

namespace Go.Proofs.YtffibneelaeocaaGreatDoor
open Go.RowKit

/-- Two lists in strictly increasing order with the same members are equal. -/
theorem asc_ext {α : Type} {lt : α → α → Prop} (irr : ∀ a, ¬ lt a a) (tr : ∀ a b c, lt a b → lt b c → lt a c) :
    ∀ {l1 l2 : List α}, l1.Pairwise lt → l2.Pairwise lt → (∀ x, x ∈ l1 ↔ x ∈ l2) → l1 = l2
  | [], [], _, _, _ => rfl
  | [], b :: l2, _, _, h => absurd ((h b).2 (by simp)) (by simp)
  | a :: l1, [], _, _, h => absurd ((h a).1 (by simp)) (by simp)
  | a :: l1, b :: l2, h1, h2, h => by
    rw [List.pairwise_cons] at h1 h2
    have hab : a = b := by
      rcases List.mem_cons.1 ((h a).1 (by simp)) with e | e
      · exact e
      · rcases List.mem_cons.1 ((h b).2 (by simp)) with e' | e'
        · exact e'.symm
        · exact absurd (tr _ _ _ (h1.1 _ e') (h2.1 _ e)) (irr _)
    subst hab
    rw [asc_ext irr tr h1.2 h2.2 fun x => ⟨fun hx => ?_, fun hx => ?_⟩]
    · rcases List.mem_cons.1 ((h x).1 (List.mem_cons_of_mem _ hx)) with e | e
      · subst e; exact absurd (h1.1 _ hx) (irr _)
      · exact e
    · rcases List.mem_cons.1 ((h x).2 (List.mem_cons_of_mem _ hx)) with e | e
      · subst e; exact absurd (h2.1 _ hx) (irr _)
      · exact e

theorem mem_els {p : Nat → Bool} {x : Nat} : ∀ {n e : Nat}, x ∈ els p n e ↔ e ≤ x ∧ x < e + n ∧ p x = true
  | 0, e => by rw [els]; simp; omega
  | n + 1, e => by
    rw [els]
    by_cases h : p e = true
    · rw [if_pos h, List.mem_cons, mem_els]
      constructor
      · rintro (rfl | ⟨h1, h2, h3⟩)
        · exact ⟨Nat.le_refl _, by omega, h⟩
        · exact ⟨by omega, by omega, h3⟩
      · rintro ⟨h1, h2, h3⟩
        by_cases hx : x = e
        · exact .inl hx
        · exact .inr ⟨by omega, by omega, h3⟩
    · rw [if_neg h, mem_els]
      constructor
      · rintro ⟨h1, h2, h3⟩
        exact ⟨by omega, by omega, h3⟩
      · rintro ⟨h1, h2, h3⟩
        have hx : x ≠ e := fun e' => h (e' ▸ h3)
        exact ⟨by omega, by omega, h3⟩
theorem mem_elsF {p : Nat → Bool} {x : Nat} : x ∈ elsF p 0 ↔ x < 256 ∧ p x = true := by
  rw [elsF, mem_els]; constructor
  · rintro ⟨_, h2, h3⟩; exact ⟨by omega, h3⟩
  · rintro ⟨h2, h3⟩; exact ⟨by omega, by omega, h3⟩
theorem asc_els {p : Nat → Bool} : ∀ {n e : Nat}, (els p n e).Pairwise (· < ·)
  | 0, e => by rw [els]; exact List.Pairwise.nil
  | n + 1, e => by
    rw [els]
    split
    · rw [List.pairwise_cons]
      refine ⟨fun y hy => ?_, asc_els⟩
      have := (mem_els.1 hy).1
      omega
    · exact asc_els
theorem asc_elsF {p : Nat → Bool} : (elsF p 0).Pairwise (· < ·) := asc_els
theorem elsF_ext {p q : Nat → Bool} (h : ∀ i, i < 256 → p i = q i) : elsF p 0 = elsF q 0 :=
  asc_ext (fun a => Nat.lt_irrefl a) (fun _ _ _ => Nat.lt_trans) asc_elsF asc_elsF fun x => by
    rw [mem_elsF, mem_elsF]
    constructor
    · rintro ⟨h1, h2⟩; exact ⟨h1, (h x h1) ▸ h2⟩
    · rintro ⟨h1, h2⟩; exact ⟨h1, (h x h1).symm ▸ h2⟩
theorem elsF_len (p : Nat → Bool) : (elsF p 0).length ≤ 256 := by
  have : ∀ n e, (els p n e).length ≤ n := by
    intro n
    induction n with
    | zero => intro e; rw [els]; simp
    | succ n ih => intro e; rw [els]; split <;> (have := ih (e + 1); simp; omega)
  exact this _ _

def PLt (p q : Int × Int) : Prop := p.1 < q.1 ∨ (p.1 = q.1 ∧ p.2 < q.2)
theorem PLt.irr (a : Int × Int) : ¬ PLt a a := by unfold PLt; omega
theorem PLt.tr (a b c : Int × Int) (h : PLt a b) (k : PLt b c) : PLt a c := by unfold PLt at *; omega
theorem ltP_iff {p q : Int × Int} : ltP p q = true ↔ PLt p q := by simp [ltP, PLt]
theorem asc_pair {α : Type} {lt : α → α → Bool} {R : α → α → Prop} (hR : ∀ a b, lt a b = true → R a b) (tr : ∀ a b c, R a b → R b c → R a c) : ∀ {l : List α}, ascG lt l = true → l.Pairwise R
  | [], _ => List.Pairwise.nil
  | [x], _ => by simp
  | x :: y :: r, h => by
    rw [ascG, Bool.and_eq_true] at h
    have ih : (y :: r).Pairwise R := asc_pair hR tr h.2
    rw [List.pairwise_cons]
    refine ⟨fun z hz => ?_, ih⟩
    rcases List.mem_cons.1 hz with rfl | hz
    · exact hR _ _ h.1
    · exact tr _ _ _ (hR _ _ h.1) ((List.pairwise_cons.1 ih).1 z hz)

/-- A valid list of pairs: its members are pairs of elements, and it ascends. -/
theorem okP_facts {n : Int} {s : PL} (h : okP n s = true) : (∀ p ∈ s.l, 0 ≤ p.1 ∧ p.1 < n ∧ 0 ≤ p.2 ∧ p.2 < n) ∧ s.l.Pairwise PLt := by
  rw [okP, Bool.and_eq_true, Bool.not_eq_true', List.any_eq_false] at h
  refine ⟨fun p hp => ?_, asc_pair (fun a b h => ltP_iff.1 h) PLt.tr h.2⟩
  have := h.1 p hp
  simp [forP, foreignB] at this
  omega
theorem okI_facts {n : Int} {s : IL} (h : okI n s = true) : (∀ x ∈ s.l, 0 ≤ x ∧ x < n) ∧ s.l.Pairwise (· < ·) := by
  rw [okI, Bool.and_eq_true, Bool.not_eq_true', List.any_eq_false] at h
  refine ⟨fun p hp => ?_, asc_pair (fun a b h => by simpa [ltI] using h) (fun a b c h k => by omega) h.2⟩
  have := h.1 p hp
  simp [foreignB] at this
  omega

/-- The pairs that the program lists: x in order, and for each x the numbers of its set. -/
def fanP (f : Nat → Nat → Bool) (x : Nat) : List (Int × Int) := (elsF (f x) 0).map fun y : Nat => ((x : Int), (y : Int))
def progP (n : Nat) (f : Nat → Nat → Bool) : List (Int × Int) := (List.range n).flatMap (fanP f)
/-- The pairs of the inverse, as the reference lists them. -/
def refP (n : Nat) (l : List (Int × Int)) : List (Int × Int) := (List.range n).flatMap fun x : Nat => (l.filter fun p => p.2 == (x : Int)).map fun p => ((x : Int), p.1)
theorem mem_progP {n : Nat} {f : Nat → Nat → Bool} {q : Int × Int} : q ∈ progP n f ↔ ∃ x y : Nat, x < n ∧ y < 256 ∧ f x y = true ∧ q = ((x : Int), (y : Int)) := by
  simp only [progP, fanP, List.mem_flatMap, List.mem_range, List.mem_map, mem_elsF]
  constructor
  · rintro ⟨x, hx, y, ⟨hy, hf⟩, rfl⟩; exact ⟨x, y, hx, hy, hf, rfl⟩
  · rintro ⟨x, y, hx, hy, hf, rfl⟩; exact ⟨x, hx, y, ⟨hy, hf⟩, rfl⟩
theorem asc_progP {n : Nat} {f : Nat → Nat → Bool} : (progP n f).Pairwise PLt := by
  rw [progP, List.pairwise_flatMap]
  refine ⟨fun x _ => ?_, ?_⟩
  · rw [fanP, List.pairwise_map]
    exact asc_elsF.imp fun h => .inr ⟨rfl, by simpa using h⟩
  · refine List.pairwise_lt_range.imp fun {a b} h p hp q hq => ?_
    simp only [fanP, List.mem_map] at hp hq
    obtain ⟨y, -, rfl⟩ := hp
    obtain ⟨z, -, rfl⟩ := hq
    exact .inl (by simpa using h)
theorem progP_fwd {n : Nat} {s : PL} (h : okP n s = true) (hn : n ≤ 256) : progP n (fun x y => s.l.contains ((x : Int), (y : Int))) = s.l := by
  obtain ⟨h1, h2⟩ := okP_facts h
  refine asc_ext PLt.irr PLt.tr asc_progP h2 fun q => ?_
  rw [mem_progP]
  constructor
  · rintro ⟨x, y, hx, hy, hf, rfl⟩
    simpa using hf
  · intro hq
    obtain ⟨a, b⟩ := q
    have := h1 _ hq
    dsimp only at this
    refine ⟨a.toNat, b.toNat, by omega, by omega, ?_, by simp; omega⟩
    rw [show ((a.toNat : Nat) : Int) = a by omega, show ((b.toNat : Nat) : Int) = b by omega]
    simpa using hq
theorem progP_back {n : Nat} {s : PL} (h : okP n s = true) (hn : n ≤ 256) : progP n (fun x y => s.l.contains ((y : Int), (x : Int))) = refP n s.l := by
  obtain ⟨h1, h2⟩ := okP_facts h
  refine asc_ext PLt.irr PLt.tr asc_progP ?_ fun q => ?_
  · rw [refP, List.pairwise_flatMap]
    refine ⟨fun x _ => ?_, ?_⟩
    · rw [List.pairwise_map]
      refine (List.Pairwise.and_mem.1 (h2.filter _)).imp fun {p q} hpq => ?_
      obtain ⟨hp, hq, hlt⟩ := hpq
      have e1 := (List.mem_filter.1 hp).2
      have e2 := (List.mem_filter.1 hq).2
      simp only [beq_iff_eq] at e1 e2
      unfold PLt at hlt ⊢
      dsimp only
      omega
    · refine List.pairwise_lt_range.imp fun {a b} h p hp q hq => ?_
      simp only [List.mem_map] at hp hq
      obtain ⟨y, -, rfl⟩ := hp
      obtain ⟨z, -, rfl⟩ := hq
      exact .inl (by simpa using h)
  · rw [mem_progP, refP]
    simp only [List.mem_flatMap, List.mem_range, List.mem_map, List.mem_filter, beq_iff_eq]
    constructor
    · rintro ⟨x, y, hx, hy, hf, rfl⟩
      exact ⟨x, hx, ((y : Int), (x : Int)), ⟨by simpa using hf, rfl⟩, rfl⟩
    · rintro ⟨x, hx, ⟨a, b⟩, ⟨hm, hb⟩, rfl⟩
      have := h1 _ hm
      dsimp only at this hb ⊢
      subst hb
      refine ⟨x, a.toNat, hx, by omega, ?_, by simp; omega⟩
      rw [show ((a.toNat : Nat) : Int) = a by omega]
      simpa using hm
end Go.Proofs.YtffibneelaeocaaGreatDoor

namespace Go.Proofs.YtffibneelaeocaaGreatDoor
open Go.RowKit

/-- The four cells of a set. -/
def wcs (p : Nat → Bool) : List Value := [.int .u64 (wdp p 0 : Nat), .int .u64 (wdp p 1 : Nat), .int .u64 (wdp p 2 : Nat), .int .u64 (wdp p 3 : Nat)]
theorem SW.cs {p : Nat → Bool} {a b c d : Nat} (h : SW p a b c d) : wcs p = [.int .u64 (a : Nat), .int .u64 (b : Nat), .int .u64 (c : Nat), .int .u64 (d : Nat)] := by rw [wcs, h.a, h.b, h.c, h.d]
theorem wcs_ext {p q : Nat → Bool} (h : ∀ i, i < 256 → p i = q i) : wcs p = wcs q := by
  obtain ⟨a, b, c, d, hs⟩ := sw_of p
  rw [hs.cs, (hs.ext h).cs]
/-- n sets, one after another. -/
def setCells (f : Nat → Nat → Bool) (n : Nat) : List Value := (List.range n).flatMap fun x => wcs (f x)
theorem setCells_zero (f : Nat → Nat → Bool) : setCells f 0 = [] := rfl
theorem setCells_succ (f : Nat → Nat → Bool) (n : Nat) : setCells f (n + 1) = setCells f n ++ wcs (f n) := by
  rw [setCells, List.range_succ, List.flatMap_append]; simp [setCells]
theorem setCells_len (f : Nat → Nat → Bool) : ∀ n, (setCells f n).length = n * 4
  | 0 => rfl
  | n + 1 => by rw [setCells_succ, List.length_append, setCells_len f n]; simp [wcs]; omega
theorem setCells_at (f : Nat → Nat → Bool) {x k : Nat} (hk : k < 4) : ∀ {n : Nat}, x < n → (setCells f n)[x * 4 + k]? = (wcs (f x))[k]?
  | 0, h => absurd h (Nat.not_lt_zero _)
  | n + 1, h => by
    rw [setCells_succ]
    by_cases hx : x < n
    · rw [List.getElem?_append_left (by rw [setCells_len]; omega), setCells_at f hk hx]
    · have : x = n := by omega
      subst this
      rw [List.getElem?_append_right (by rw [setCells_len]; omega), setCells_len, show x * 4 + k - x * 4 = k by omega]
theorem setCells_ext {f g : Nat → Nat → Bool} : ∀ {n : Nat}, (∀ x, x < n → ∀ i, i < 256 → f x i = g x i) → setCells f n = setCells g n
  | 0, _ => by rw [setCells_zero, setCells_zero]
  | n + 1, h => by rw [setCells_succ, setCells_succ, setCells_ext fun x hx => h x (by omega), wcs_ext (h n (by omega))]
theorem setCells_none (n : Nat) : (setCells (fun _ _ => false) n).toArray = madeCells #[Value.int .u64 0, .int .u64 0, .int .u64 0, .int .u64 0] (n * 4) := by
  apply Array.ext_getElem?
  intro j
  by_cases hj : j < n * 4
  · have hk : j % 4 < 4 := Nat.mod_lt _ (by omega)
    have := setCells_at (fun _ _ => false) hk (show j / 4 < n by omega)
    rw [show j / 4 * 4 + j % 4 = j by omega, sw_none.cs] at this
    rw [List.getElem?_toArray, this, Array.getElem?_eq_getElem (by rw [size_madeCells]; exact hj)]
    have h4 : j % 4 = 0 ∨ j % 4 = 1 ∨ j % 4 = 2 ∨ j % 4 = 3 := by omega
    simp only [madeCells, Array.getElem_map, Array.getElem_range]
    rcases h4 with h4 | h4 | h4 | h4 <;> simp [h4]
  · have h1 : (setCells (fun _ _ => false) n).length = n * 4 := setCells_len _ n
    rw [Array.getElem?_eq_none (show _ ≤ j by simp only [List.size_toArray, h1]; omega), Array.getElem?_eq_none (show _ ≤ j by rw [size_madeCells]; omega)]
/-- The set at x changed. -/
def updF (f : Nat → Nat → Bool) (x : Nat) (q : Nat → Bool) : Nat → Nat → Bool := fun y => if y = x then q else f y
theorem setCells_upd (f : Nat → Nat → Bool) {n x : Nat} (_hx : x < n) {q : Nat → Bool} {a b c d : Nat} (hs : SW q a b c d) :
    (((((setCells f n).toArray.setIfInBounds (x * 4) (.int .u64 (a : Nat))).setIfInBounds (x * 4 + 1) (.int .u64 (b : Nat))).setIfInBounds (x * 4 + 2) (.int .u64 (c : Nat))).setIfInBounds (x * 4 + 3) (.int .u64 (d : Nat))) = (setCells (updF f x q) n).toArray := by
  apply Array.ext_getElem?
  intro j
  have hl : (setCells f n).length = n * 4 := setCells_len f n
  by_cases hj : j < n * 4
  · have hy : j / 4 < n := by omega
    have hk : j % 4 < 4 := Nat.mod_lt _ (by omega)
    have e2 : (setCells (updF f x q) n)[j]? = (wcs (updF f x q (j / 4)))[j % 4]? := by
      have := setCells_at (updF f x q) hk hy
      rwa [show j / 4 * 4 + j % 4 = j by omega] at this
    have e1 : (setCells f n)[j]? = (wcs (f (j / 4)))[j % 4]? := by
      have := setCells_at f hk hy
      rwa [show j / 4 * 4 + j % 4 = j by omega] at this
    simp only [Array.getElem?_setIfInBounds, List.getElem?_toArray, Array.size_setIfInBounds, List.size_toArray, hl]
    rw [e2]
    by_cases hxy : j / 4 = x
    · have hu : wcs (updF f x q (j / 4)) = [.int .u64 (a : Nat), .int .u64 (b : Nat), .int .u64 (c : Nat), .int .u64 (d : Nat)] := by rw [hxy, updF, if_pos rfl, hs.cs]
      rw [hu]
      have h4 : j % 4 = 0 ∨ j % 4 = 1 ∨ j % 4 = 2 ∨ j % 4 = 3 := by omega
      rcases h4 with h4 | h4 | h4 | h4
      · have : j = x * 4 := by omega
        rw [h4]; subst this
        rw [if_neg (by omega), if_neg (by omega), if_neg (by omega), if_pos rfl, if_pos (by omega)]; rfl
      · have : j = x * 4 + 1 := by omega
        rw [h4]; subst this
        rw [if_neg (by omega), if_neg (by omega), if_pos rfl, if_pos (by omega)]; rfl
      · have : j = x * 4 + 2 := by omega
        rw [h4]; subst this
        rw [if_neg (by omega), if_pos rfl, if_pos (by omega)]; rfl
      · have : j = x * 4 + 3 := by omega
        rw [h4]; subst this
        rw [if_pos rfl, if_pos (by omega)]; rfl
    · have hu : updF f x q (j / 4) = f (j / 4) := if_neg hxy
      rw [hu, if_neg (by omega), if_neg (by omega), if_neg (by omega), if_neg (by omega), e1]
  · have h1 : (setCells (updF f x q) n).length = n * 4 := setCells_len _ n
    rw [Array.getElem?_eq_none (show _ ≤ j by simp only [Array.size_setIfInBounds, List.size_toArray, hl]; omega), Array.getElem?_eq_none (show _ ≤ j by simp only [List.size_toArray, h1]; omega)]

/-- A row of sets of the call's own: the block g holds the n sets of f. -/
def MRow (w : World) (g n : Nat) (f : Nat → Nat → Bool) : Prop := w.heap[g]? = some (.cells (setCells f n).toArray 207)
theorem MRow.lt {w : World} {g n : Nat} {f : Nat → Nat → Bool} (h : MRow w g n f) : g < w.heap.size := (Array.getElem?_eq_some_iff.1 h).1
theorem MRow.later {w w' : World} {g n : Nat} {f : Nat → Nat → Bool} (h : MRow w g n f) (hb : Below w.heap.size w w') : MRow w' g n f := blk_lat h hb
theorem MRow.grown {w w' : World} {g n : Nat} {f : Nat → Nat → Bool} {row : Option Nat} (h : MRow w g n f) (hg : w.grownBy w' row) (hne : some g ≠ row) : MRow w' g n f := (hg.block g h.lt hne).trans h
theorem MRow.cell {w : World} {g n : Nat} {f : Nat → Nat → Bool} (h : MRow w g n f) {x : Nat} (hx : x < n) {a b c d : Nat} (hs : SW (f x) a b c d) :
    w.cell? ⟨g, x * 4, none⟩ = some (.int .u64 (a : Nat)) ∧ w.cell? ⟨g, x * 4 + 1, none⟩ = some (.int .u64 (b : Nat)) ∧ w.cell? ⟨g, x * 4 + 2, none⟩ = some (.int .u64 (c : Nat)) ∧ w.cell? ⟨g, x * 4 + 3, none⟩ = some (.int .u64 (d : Nat)) := by
  have hc : ∀ k (hk : k < 4), w.cell? ⟨g, x * 4 + k, none⟩ = ([.int .u64 (a : Nat), .int .u64 (b : Nat), .int .u64 (c : Nat), .int .u64 (d : Nat)] : List Value)[k]? := fun k hk => by
    rw [cell_of_blk h (x * 4 + k), List.getElem?_toArray, setCells_at f hk hx, hs.cs]
  exact ⟨hc 0 (by omega), hc 1 (by omega), hc 2 (by omega), hc 3 (by omega)⟩
theorem MRow.frozen {w : World} {g n : Nat} {f : Nat → Nat → Bool} (h : MRow w g n f) (k : Nat) : w.frozen? ⟨g, k, none⟩ = false := frozen_of_blk h k
theorem MRow.set {w : World} {g n : Nat} {f : Nat → Nat → Bool} (h : MRow w g n f) {x : Nat} (hx : x < n) {q : Nat → Bool} {a b c d : Nat} (hs : SW q a b c d) :
    MRow ((((w.setCell ⟨g, x * 4, none⟩ (.int .u64 (a : Nat))).setCell ⟨g, x * 4 + 1, none⟩ (.int .u64 (b : Nat))).setCell ⟨g, x * 4 + 2, none⟩ (.int .u64 (c : Nat))).setCell ⟨g, x * 4 + 3, none⟩ (.int .u64 (d : Nat))) g n (updF f x q) ∧
    w.grownBy ((((w.setCell ⟨g, x * 4, none⟩ (.int .u64 (a : Nat))).setCell ⟨g, x * 4 + 1, none⟩ (.int .u64 (b : Nat))).setCell ⟨g, x * 4 + 2, none⟩ (.int .u64 (c : Nat))).setCell ⟨g, x * 4 + 3, none⟩ (.int .u64 (d : Nat))) (some g) := by
  refine ⟨?_, grown_trans (grown_trans (grown_trans (grown_set w g _ _) (grown_set _ g _ _)) (grown_set _ g _ _)) (grown_set _ g _ _)⟩
  have := blk_set (blk_set (blk_set (blk_set h (x * 4) (.int .u64 (a : Nat))) (x * 4 + 1) (.int .u64 (b : Nat))) (x * 4 + 2) (.int .u64 (c : Nat))) (x * 4 + 3) (.int .u64 (d : Nat))
  rw [setCells_upd f hx hs] at this
  exact this
end Go.Proofs.YtffibneelaeocaaGreatDoor

namespace Go.Proofs.YtffibneelaeocaaGreatDoor
namespace TS
open Go.RowKit

/-- A row of sets of the call's own: the block g holds the n sets of f. -/
def MRow (w : World) (g n : Nat) (f : Nat → Nat → Bool) : Prop := w.heap[g]? = some (.cells (setCells f n).toArray 153)
theorem MRow.lt {w : World} {g n : Nat} {f : Nat → Nat → Bool} (h : MRow w g n f) : g < w.heap.size := (Array.getElem?_eq_some_iff.1 h).1
theorem MRow.later {w w' : World} {g n : Nat} {f : Nat → Nat → Bool} (h : MRow w g n f) (hb : Below w.heap.size w w') : MRow w' g n f := blk_lat h hb
theorem MRow.grown {w w' : World} {g n : Nat} {f : Nat → Nat → Bool} {row : Option Nat} (h : MRow w g n f) (hg : w.grownBy w' row) (hne : some g ≠ row) : MRow w' g n f := (hg.block g h.lt hne).trans h
theorem MRow.cell {w : World} {g n : Nat} {f : Nat → Nat → Bool} (h : MRow w g n f) {x : Nat} (hx : x < n) {a b c d : Nat} (hs : SW (f x) a b c d) :
    w.cell? ⟨g, x * 4, none⟩ = some (.int .u64 (a : Nat)) ∧ w.cell? ⟨g, x * 4 + 1, none⟩ = some (.int .u64 (b : Nat)) ∧ w.cell? ⟨g, x * 4 + 2, none⟩ = some (.int .u64 (c : Nat)) ∧ w.cell? ⟨g, x * 4 + 3, none⟩ = some (.int .u64 (d : Nat)) := by
  have hc : ∀ k (hk : k < 4), w.cell? ⟨g, x * 4 + k, none⟩ = ([.int .u64 (a : Nat), .int .u64 (b : Nat), .int .u64 (c : Nat), .int .u64 (d : Nat)] : List Value)[k]? := fun k hk => by
    rw [cell_of_blk h (x * 4 + k), List.getElem?_toArray, setCells_at f hk hx, hs.cs]
  exact ⟨hc 0 (by omega), hc 1 (by omega), hc 2 (by omega), hc 3 (by omega)⟩
theorem MRow.frozen {w : World} {g n : Nat} {f : Nat → Nat → Bool} (h : MRow w g n f) (k : Nat) : w.frozen? ⟨g, k, none⟩ = false := frozen_of_blk h k
theorem MRow.set {w : World} {g n : Nat} {f : Nat → Nat → Bool} (h : MRow w g n f) {x : Nat} (hx : x < n) {q : Nat → Bool} {a b c d : Nat} (hs : SW q a b c d) :
    MRow ((((w.setCell ⟨g, x * 4, none⟩ (.int .u64 (a : Nat))).setCell ⟨g, x * 4 + 1, none⟩ (.int .u64 (b : Nat))).setCell ⟨g, x * 4 + 2, none⟩ (.int .u64 (c : Nat))).setCell ⟨g, x * 4 + 3, none⟩ (.int .u64 (d : Nat))) g n (updF f x q) ∧
    w.grownBy ((((w.setCell ⟨g, x * 4, none⟩ (.int .u64 (a : Nat))).setCell ⟨g, x * 4 + 1, none⟩ (.int .u64 (b : Nat))).setCell ⟨g, x * 4 + 2, none⟩ (.int .u64 (c : Nat))).setCell ⟨g, x * 4 + 3, none⟩ (.int .u64 (d : Nat))) (some g) := by
  refine ⟨?_, grown_trans (grown_trans (grown_trans (grown_set w g _ _) (grown_set _ g _ _)) (grown_set _ g _ _)) (grown_set _ g _ _)⟩
  have := blk_set (blk_set (blk_set (blk_set h (x * 4) (.int .u64 (a : Nat))) (x * 4 + 1) (.int .u64 (b : Nat))) (x * 4 + 2) (.int .u64 (c : Nat))) (x * 4 + 3) (.int .u64 (d : Nat))
  rw [setCells_upd f hx hs] at this
  exact this
end TS
end Go.Proofs.YtffibneelaeocaaGreatDoor

namespace Go.Proofs.YtffibneelaeocaaGreatDoor
open Go.RowKit

set_option maxRecDepth 100000 in
set_option maxHeartbeats 2000000 in
/-- cmp.Or of two codes. -/
theorem orErr_any (g : Nat) (x y : Int) (w : World) (h0 : w.cell? ⟨g, 0, none⟩ = some (.int .i64 x)) (h1 : w.cell? ⟨g, 1, none⟩ = some (.int .i64 y)) :
    Calls Tryz.prog 96 #[.slice (some ⟨g, 0, none⟩) 2 2] w fun e w' => e = .returned (.int .i64 (orF x y)) ∧ w' = w := by
  unfold orF
  by_cases hx : x = 0
  · subst hx
    rw [if_pos rfl]
    rcases hy : (y != 0)
    · have hy0 : y = 0 := by simpa using hy
      subst hy0
      go_enter Tryz.func96, Tryz.ntmps96
      go_wp2_with fail
      go_loopw [8] (fun i wr => ((i = .int .i64 0) ∨ (i = .int .i64 1) ∨ (i = .int .i64 2)) ∧ wr = w) (fun i _ => 2 - (intOf i).toNat)
      case atStart => exact ⟨.inl rfl, rfl⟩
      case round =>
        obtain ⟨rfl | rfl | rfl, rfl⟩ := hrel
        · go_wp2_with fail
          go_roundw
          case rel => exact ⟨.inr (.inl rfl), by first | rfl | trivial⟩
          case measure => simp [intOf]
        · go_wp2_with fail
          go_roundw
          case rel => exact ⟨.inr (.inr rfl), by first | rfl | trivial⟩
          case measure => simp [intOf]
        · go_wp2
          go_ret
          exact ⟨rfl, rfl⟩
    · go_enter Tryz.func96, Tryz.ntmps96
      go_wp2_with fail
      go_loopw [8] (fun i wr => ((i = .int .i64 0) ∨ (i = .int .i64 1)) ∧ wr = w) (fun i _ => 2 - (intOf i).toNat)
      case atStart => exact ⟨.inl rfl, rfl⟩
      case round =>
        obtain ⟨rfl | rfl, rfl⟩ := hrel
        · go_wp2_with fail
          go_roundw
          case rel => exact ⟨.inr rfl, by first | rfl | trivial⟩
          case measure => simp [intOf]
        · go_wp2
          go_ret
          exact ⟨rfl, rfl⟩
  · rw [if_neg hx]
    have hx1 : (x != 0) = true := by simpa using hx
    go_enter Tryz.func96, Tryz.ntmps96
    go_wp2_with fail
    go_loopw [8] (fun i wr => i = .int .i64 0 ∧ wr = w) (fun i _ => 2 - (intOf i).toNat)
    case atStart => exact ⟨rfl, rfl⟩
    case round =>
      obtain ⟨rfl, rfl⟩ := hrel
      go_wp2
      go_ret
      exact ⟨rfl, rfl⟩

theorem orErr00 (g : Nat) (w : World) (h0 : w.cell? ⟨g, 0, none⟩ = some (.int .i64 0)) (h1 : w.cell? ⟨g, 1, none⟩ = some (.int .i64 0)) : Calls Tryz.prog 96 #[.slice (some ⟨g, 0, none⟩) 2 2] w fun e w' => e = .returned (.int .i64 0) ∧ w' = w := orErr_any g 0 0 w h0 h1
end Go.Proofs.YtffibneelaeocaaGreatDoor
