import Derived.Test.YtnkkpjgclekobaaGreatDoorEnds7
import Derived.Test.YtnkkpjgclekobaaGreatDoorBData
import Derived.Deep.DrawnRows
import Derived.Deep.QuietTactic
namespace Go.Proofs.YtnkkpjgclekobaaGreatDoor
open Go.RowKit
attribute [local go_sem ↓] Go.wp_at_zero Go.wp_at_succ

/-- Whether all pairs of a role are pairs of another one, by the lists. -/
theorem incl_list {m : Nat} {F H : Nat → Nat → Bool} : ((progP m F).all fun p => (progP m H).contains p) = (List.range m).all fun x => subB (F x) (H x) := by
  rw [Bool.eq_iff_iff, List.all_eq_true, List.all_eq_true]
  constructor
  · intro h x hx
    rw [subB, List.all_eq_true]
    intro y hy
    rw [List.mem_range] at hx hy
    cases hf : F x y
    · rfl
    · have h1 := h ((x : Int), (y : Int)) (mem_progP.2 ⟨x, y, hx, hy, hf, rfl⟩)
      rw [List.contains_iff_mem] at h1
      obtain ⟨x', y', -, -, hh, e⟩ := mem_progP.1 h1
      simp only [Prod.mk.injEq, Int.natCast_inj] at e
      obtain ⟨rfl, rfl⟩ := e
      rw [hh]; rfl
  · intro h p hp
    obtain ⟨x, y, hx, hy, hf, rfl⟩ := mem_progP.1 hp
    have h1 := h x (List.mem_range.2 hx)
    rw [subB, List.all_eq_true] at h1
    have h2 := h1 y (List.mem_range.2 hy)
    rw [hf] at h2
    rw [List.contains_iff_mem]
    exact mem_progP.2 ⟨x, y, hx, hy, by simpa using h2, rfl⟩

/-- The reference's list of a role's pairs. -/
theorem rPairs_any (i : IN) (m r : Nat) (hm : i.size = m) (h256 : m ≤ 256) (hl : listsB i = true) (hr : r < 2 * i.R.length) (w : World) (hi : i.In w.heap.size w) : Calls Tryz.prog 97 #[i.val, .int .i64 (r : Nat)] w (RetPL (progP m (endsF i r)) w) := by
  rcases Nat.mod_two_eq_zero_or_one r with h | h
  · rw [ends_even hm h256 (show r = 2 * (r / 2) by omega) (show r / 2 < i.R.length by omega) hl]
    exact rPairs_even i r (r / 2) (by omega) (by omega) w hi
  · obtain ⟨hok, he⟩ := ends_odd hm h256 (show r = 2 * (r / 2) + 1 by omega) (show r / 2 < i.R.length by omega) hl
    rw [he]
    exact rPairs_odd i m r (r / 2) (by omega) (by omega) hm h256 hok w hi

set_option maxRecDepth 100000 in
theorem eqPair2 (a b c d : Int) (w : World) : (Op.equalIn 10000 93 (.agg #[.int .i64 a, .int .i64 b]) (.agg #[.int .i64 c, .int .i64 d])).run Tryz.prog w = .ok (decide (a = c) && decide (b = d)) w := by
  have u3 := Tryz.underlying3
  have a3 := Tryz.isAgg3
  have z3 := Tryz.sizeOf3
  rw [show (10000 : Nat) = 9999 + 1 from rfl, Op.equalIn]
  simp only [Sem.run_bind, run_underlying Tryz.underlying93, Result.andThen_ok]
  simp only [Std.Legacy.Range.forIn_eq_forIn_range', Std.Legacy.Range.size, Nat.sub_zero, Nat.add_sub_cancel, Nat.div_one, List.range'_succ, List.range'_zero, List.forIn_cons, List.forIn_nil]
  go_simp
  by_cases h1 : a = c <;> by_cases h2 : b = d <;> simp [h1, h2]
theorem contains_no {l : List (Int × Int)} {p : Int × Int} (h : ∀ j (hj : j < l.length), l[j] ≠ p) : l.contains p = false := by
  rw [← Bool.not_eq_true, List.contains_iff_mem]
  intro hm
  obtain ⟨j, hj, e⟩ := List.mem_iff_getElem.1 hm
  exact h j hj e
theorem contains_yes {l : List (Int × Int)} {p : Int × Int} {j : Nat} (hj : j < l.length) (h : l[j] = p) : l.contains p = true := by
  rw [List.contains_iff_mem]; exact h ▸ List.getElem_mem hj

set_option maxRecDepth 100000 in
set_option maxHeartbeats 2000000 in
theorem linked_any (s : PL) (p : Int × Int) (w : World) (hs : s.In w.heap.size w) :
    Calls Tryz.prog 98 #[.slice s.A s.l.length s.c, .agg #[.int .i64 p.1, .int .i64 p.2]] w fun e w' => e = .returned (.bool (s.l.contains p)) ∧ Below w.heap.size w w' := by
  have hll : s.l.length ≤ 9223372036854775807 := Nat.le_trans hs.1 hs.2.1
  have hc1 := fun h => PL.In.cells hs h
  obtain ⟨A, c, l⟩ := s
  dsimp only at *
  have hq := fun a b w => eqPair2 p.1 p.2 a b w
  obtain ⟨W1, hW1, hB1, hs1, hk1⟩ := newBlk w _ rfl #[.int .i64 p.1, .int .i64 p.2] 93
  have hB1' := hB1
  have HK1 := Lib.hid hk1
  have HB := Lib.hid hB1
  have hgl := fun (h : l.length ≠ 0) => hc1 h
  have hw1 : w.heap.size ≤ W1.heap.size := by omega
  have HS1 := Lib.hid hs1
  clear hs hk1 hB1 hs1
  go_enter Tryz.func98, Tryz.ntmps98
  go_wp2_with fail
  go_loopw [9] (fun i' wr => ∃ k : Nat, k ≤ l.length ∧ i' = .int .i64 k ∧ (∀ j (hj : j < l.length), j < k → l[j] ≠ p) ∧ Below W1.heap.size W1 wr) (fun i' _ => l.length - (intOf i').toNat)
  case atStart => exact ⟨0, Nat.zero_le _, rfl, fun j _ h => absurd h (by omega), Below.refl _ _⟩
  case round =>
    obtain ⟨k, hk, rfl, hall, hbw⟩ := hrel
    have HA := Lib.hid hall
    clear hall
    by_cases hlt : k < l.length
    · obtain ⟨g, off, rfl, hg, d1⟩ := hgl (by omega)
      obtain ⟨x1, x2⟩ := d1 k hlt
      have hbo : Below w.heap.size w wr := HB.out.trans (hbw.mono hw1)
      have e1 := (hbo.cell (p := ⟨g, off + k * 2, none⟩) hg).trans x1
      have e2 := (hbo.cell (p := ⟨g, off + k * 2 + 1, none⟩) hg).trans x2
      have h0I : (0 : Int) ≤ k := by omega
      have hlI : (k : Int) < l.length := by omega
      have hne : (decide (p.1 = l[k].1) && decide (p.2 = l[k].2)) = decide (l[k] = p) := by
        obtain ⟨p1, p2⟩ := p
        rw [Bool.eq_iff_iff]
        simp only [Bool.and_eq_true, decide_eq_true_eq, Prod.ext_iff]
        constructor <;> rintro ⟨h1, h2⟩ <;> exact ⟨h1.symm, h2.symm⟩
      obtain ⟨Wa, hWa, hBa, hsa, hka⟩ := newBlk wr _ rfl #[.int .i64 l[k].1, .int .i64 l[k].2] 93
      have hwa : Below W1.heap.size W1 Wa := hbw.trans (hBa.mono hbw.size)
      have b0 := cell_of_blk (blk_lat HK1.out hwa) 0
      have b1 := cell_of_blk (blk_lat HK1.out hwa) 1
      have d0 := cell_of_blk hka 0
      have d1' := cell_of_blk hka 1
      simp only [List.getElem?_toArray, List.getElem?_cons_zero, List.getElem?_cons_succ] at b0 b1 d0 d1'
      have HWA := Lib.hid hwa
      have HSA := Lib.hid hsa
      clear d1 hgl hc1 x1 x2 hbw hbo hBa hka hsa hwa
      by_cases he : l[k] = p
      · have HY := Lib.hid (contains_yes hlt he)
        rw [decide_eq_true he] at hne
        clear he
        generalize l[k] = z at e1 e2 hne d0 d1' hWa
        go_wp2_with fail
        go_ret
        exact ⟨by rw [HY.out]; rfl, HB.out.trans (HWA.out.mono hw1)⟩
      · have HN := Lib.hid he
        rw [decide_eq_false he] at hne
        have HA2 := Lib.hid (show ∀ j (hj : j < l.length), j < k + 1 → l[j] ≠ p from fun j hj hjk => by
          by_cases e : j = k
          · subst e; exact HN.out
          · exact HA.out j hj (by omega))
        clear he HN
        generalize l[k] = z at e1 e2 hne d0 d1' hWa
        go_wp2_with fail
        go_roundw
        case rel => exact ⟨k + 1, by omega, by go_num, HA2.out, HWA.out⟩
        case measure => simp [intOf]; omega
    · have HN := Lib.hid (contains_no (l := l) (p := p) fun j hj => HA.out j hj (by omega))
      go_wp2_with fail
      go_ret
      exact ⟨by rw [HN.out]; rfl, HB.out.trans (hbw.mono hw1)⟩

theorem has_no {l : List Int} {p : Int} (h : ∀ j (hj : j < l.length), l[j] ≠ p) : l.contains p = false := by
  rw [← Bool.not_eq_true, List.contains_iff_mem]
  intro hm
  obtain ⟨j, hj, e⟩ := List.mem_iff_getElem.1 hm
  exact h j hj e
theorem has_yes {l : List Int} {p : Int} {j : Nat} (hj : j < l.length) (h : l[j] = p) : l.contains p = true := by
  rw [List.contains_iff_mem]; exact h ▸ List.getElem_mem hj

set_option maxRecDepth 100000 in
set_option maxHeartbeats 2000000 in
theorem rHas_any (s : IL) (p : Int) (w : World) (hs : s.In w.heap.size w) :
    Calls Tryz.prog 21 #[.slice s.A s.l.length s.c, .int .i64 p] w fun e w' => e = .returned (.bool (s.l.contains p)) ∧ w' = w := by
  have hll : s.l.length ≤ 9223372036854775807 := Nat.le_trans hs.1 hs.2.1
  have hc1 := fun h => IL.In.cells hs h
  obtain ⟨A, c, l⟩ := s
  dsimp only at *
  clear hs
  go_enter Tryz.func21, Tryz.ntmps21
  go_wp2_with fail
  go_loopw [9] (fun i' wr => ∃ k : Nat, k ≤ l.length ∧ i' = .int .i64 k ∧ (∀ j (hj : j < l.length), j < k → l[j] ≠ p) ∧ wr = w) (fun i' _ => l.length - (intOf i').toNat)
  case atStart => exact ⟨0, Nat.zero_le _, rfl, fun j _ h => absurd h (by omega), rfl⟩
  case round =>
    obtain ⟨k, hk, rfl, hall, rfl⟩ := hrel
    have HA := Lib.hid hall
    clear hall
    by_cases hlt : k < l.length
    · obtain ⟨g, off, rfl, -, d1⟩ := hc1 (by omega)
      have e1 := d1 k hlt
      have h0I : (0 : Int) ≤ k := by omega
      have hlI : (k : Int) < l.length := by omega
      clear d1 hc1
      by_cases he : l[k] = p
      · have HY := Lib.hid (has_yes hlt he)
        have hne : (l[k] == p) = true := by simpa using he
        clear he
        generalize l[k] = z at e1 hne
        go_wp2_with fail
        go_ret
        exact ⟨by rw [HY.out]; rfl, by first | rfl | trivial⟩
      · have HN := Lib.hid he
        have hne : (l[k] == p) = false := by simpa using he
        have HA2 := Lib.hid (show ∀ j (hj : j < l.length), j < k + 1 → l[j] ≠ p from fun j hj hjk => by
          by_cases e : j = k
          · subst e; exact HN.out
          · exact HA.out j hj (by omega))
        clear he HN
        generalize l[k] = z at e1 hne
        go_wp2_with fail
        go_roundw
        case rel => exact ⟨k + 1, by omega, by go_num, HA2.out, by first | rfl | trivial⟩
        case measure => simp [intOf]; omega
    · have HN := Lib.hid (has_no (l := l) (p := p) fun j hj => HA.out j hj (by omega))
      go_wp2_with fail
      go_ret
      exact ⟨by rw [HN.out]; rfl, by first | rfl | trivial⟩

set_option maxRecDepth 100000 in
set_option maxHeartbeats 2000000 in
theorem rAxioms_any (b : BN) (w : World) (hI : b.I.length ≤ 1000000) (hR : b.R.l.length ≤ 1000000) (hF : b.F.length ≤ 1000000) (hL : b.L.l.length ≤ 1000000) : Calls Tryz.prog 20 #[b.val] w fun e w' => e = .returned (.int .i64 (b.I.length + b.R.l.length + b.F.length + b.L.l.length : Nat)) ∧ Below w.heap.size w w' := by
  obtain ⟨W1, hW1, hB1, hs1, hk1⟩ := newBlk w _ rfl #[.slice b.N.C.A b.N.C.l.length b.N.C.c, .slice b.N.R.A b.N.R.l.length b.N.R.c, .slice b.N.I.A b.N.I.l.length b.N.I.c, .slice b.IA b.I.length b.ic, .slice b.R.A b.R.l.length b.R.c, .slice b.FA b.F.length b.fc, .slice b.L.A b.L.l.length b.L.c] 30
  obtain ⟨c0, c1, c2, c3, c4, c5, c6⟩ := bbox_of (b := b) hk1
  simp only [BN.val]
  have HBL := Lib.hid hB1
  clear hB1 hk1
  go_enter Tryz.func20, Tryz.ntmps20
  go_wp2_with fail
  go_ret
  exact ⟨by simp, HBL.out⟩
end Go.Proofs.YtnkkpjgclekobaaGreatDoor
