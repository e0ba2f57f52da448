import Derived.Test.YtnkkpjgclekobaaDoorIChk
import Derived.StillTailTactics
import Derived.Deep.QuietTactic
namespace Go.Proofs.YtnkkpjgclekobaaDoor
open Go.RowKit

def okN (n : Int) (l : List Int) : Bool := !(l.any (foreignB n)) && ascG ltI l
theorem okN_no {n : Int} {l : List Int} {k : Nat} (hk : k < l.length) (h : foreignB n l[k] = true) : okN n l = false := by
  rw [okN, any_hit hk h]; rfl
theorem okN_no2 {n : Int} {l : List Int} {k : Nat} (hk : k + 1 < l.length) (h : ltI l[k] l[k + 1] = false) : okN n l = false := by
  have : ascG ltI l = false := by
    rw [← Bool.not_eq_true, ascG_iff]
    intro h'
    rw [h' k hk] at h; cases h
  rw [okN, this, Bool.and_false]
theorem okN_yes {n : Int} {l : List Int} (h : ∀ j (hj : j < l.length), foreignB n l[j] = false) (h2 : ∀ j (hj : j + 1 < l.length), ltI l[j] l[j + 1] = true) : okN n l = true := by
  rw [okN, any_miss h, ascG_iff.2 h2]; rfl

end Go.Proofs.YtnkkpjgclekobaaDoor

namespace Go.Proofs.YtnkkpjgclekobaaDoor
open Go.RowKit

theorem okP_no {n : Int} {s : PL} {k : Nat} (hk : k < s.l.length) (h : forP n s.l[k] = true) : okP n s = false := by
  rw [okP, any_hit hk h]; rfl
theorem okP_no2 {n : Int} {s : PL} {k : Nat} (hk : k + 1 < s.l.length) (h : ltP s.l[k] s.l[k + 1] = false) : okP n s = false := by
  have : ascG ltP s.l = false := by
    rw [← Bool.not_eq_true, ascG_iff]
    intro h'
    rw [h' k hk] at h; cases h
  rw [okP, this, Bool.and_false]
theorem okP_yes {n : Int} {s : PL} (h : ∀ j (hj : j < s.l.length), forP n s.l[j] = false) (h2 : ∀ j (hj : j + 1 < s.l.length), ltP s.l[j] s.l[j + 1] = true) : okP n s = true := by
  rw [okP, any_miss h, ascG_iff.2 h2]; rfl
theorem lists_noC {i : IN} {k : Nat} (hk : k < i.C.length) (h : okI i.size i.C[k] = false) : listsB i = false := by
  rw [listsB, all_miss hk h]; rfl
theorem lists_noR {i : IN} {k : Nat} (hk : k < i.R.length) (h : okP i.size i.R[k] = false) : listsB i = false := by
  rw [listsB, all_miss (f := okP i.size) hk h, Bool.false_and, Bool.and_false]
theorem lists_noI {i : IN} {k : Nat} (hk : k < i.I.l.length) (h : foreignB i.size i.I.l[k] = true) : listsB i = false := by
  rw [listsB, any_hit hk h, Bool.not_true, Bool.and_false, Bool.and_false]
theorem lists_yes {i : IN} (h1 : ∀ j (hj : j < i.C.length), okI i.size i.C[j] = true) (h2 : ∀ j (hj : j < i.R.length), okP i.size i.R[j] = true) (h3 : ∀ j (hj : j < i.I.l.length), foreignB i.size i.I.l[j] = false) : listsB i = true := by
  rw [listsB, all_hit h1, all_hit h2, any_miss h3]; rfl

theorem thn0 {B : Nat} {w a b : World} (h : Below B w a) (k : Below a.heap.size a b) (hB : B ≤ w.heap.size := by exact Nat.le_refl _) : Below B w b := h.trans (k.mono (Nat.le_trans hB h.size))

end Go.Proofs.YtnkkpjgclekobaaDoor

namespace Go.Proofs.YtnkkpjgclekobaaDoor
open Go.RowKit

set_option maxRecDepth 100000 in
theorem eqPair (a b : Int) (w : World) : (Op.equalIn 10000 68 (.agg #[.int .i64 a, .int .i64 b]) (.agg #[.int .i64 a, .int .i64 b])).run Tryd.prog w = .ok true w := by
  have u3 := Tryd.underlying3
  have a3 := Tryd.isAgg3
  have z3 := Tryd.sizeOf3
  rw [show (10000 : Nat) = 9999 + 1 from rfl, Op.equalIn]
  simp only [Sem.run_bind, run_underlying Tryd.underlying68, Result.andThen_ok]
  simp only [Std.Legacy.Range.forIn_eq_forIn_range', Std.Legacy.Range.size, Nat.sub_zero, Nat.add_sub_cancel, Nat.div_one, List.range'_succ, List.range'_zero, List.forIn_cons, List.forIn_nil]
  go_simp

set_option maxRecDepth 100000 in
set_option maxHeartbeats 2000000 in
/-- Two equal lists of pairs. -/
theorem SamePairs_any (s1 s2 : PL) (w : World) (h1 : s1.In w.heap.size w) (h2 : s2.In w.heap.size w) (he : s1.l = s2.l) :
    Calls Tryd.prog 55 #[.slice s1.A s1.l.length s1.c, .slice s2.A s2.l.length s2.c] w fun e w' => e = .returned (.bool true) ∧ Below w.heap.size w w' := by
  have hll : s1.l.length ≤ 9223372036854775807 := Nat.le_trans h1.1 h1.2.1
  have hc1 := fun h => PL.In.cells h1 h
  have hc2 := fun h => PL.In.cells h2 h
  obtain ⟨A1, c1, l1⟩ := s1
  obtain ⟨A2, c2, l2⟩ := s2
  dsimp only at *
  subst he
  have hne : ((l1.length : Int) != (l1.length : Int)) = false := by simp
  have hq := fun a b w => eqPair a b w
  clear h1 h2
  go_enter Tryd.func55, Tryd.ntmps55
  go_wp2_with fail
  go_loopw [13] (fun i wr => ∃ k : Nat, k ≤ l1.length ∧ i = .int .i64 k ∧ Below w.heap.size w wr) (fun i _ => l1.length - (intOf i).toNat)
  case atStart => exact ⟨0, Nat.zero_le _, rfl, Below.refl _ w⟩
  case round =>
    obtain ⟨k, hk, rfl, hbw⟩ := hrel
    by_cases hlt : k < l1.length
    · obtain ⟨g1, o1, rfl, hg1, d1⟩ := hc1 (by omega)
      obtain ⟨g2, o2, rfl, hg2, d2⟩ := hc2 (by omega)
      have e1 := (hbw.drew.cell (p := ⟨g1, o1 + k * 2, none⟩) hg1).trans (d1 k hlt).1
      have e2 := (hbw.drew.cell (p := ⟨g1, o1 + k * 2 + 1, none⟩) hg1).trans (d1 k hlt).2
      have e3 := (hbw.drew.cell (p := ⟨g2, o2 + k * 2, none⟩) hg2).trans (d2 k hlt).1
      have e4 := (hbw.drew.cell (p := ⟨g2, o2 + k * 2 + 1, none⟩) hg2).trans (d2 k hlt).2
      clear d1 d2 hc1 hc2
      generalize l1[k] = z at e1 e2 e3 e4
      obtain ⟨zx, zy⟩ := z
      dsimp only at e1 e2 e3 e4
      have h0I : (0 : Int) ≤ k := by omega
      have hlI : (k : Int) < l1.length := by omega
      go_wp2_with fail
      go_region_held (fun w' => (w'.cell? ⟨g1, o1 + k * 2, none⟩ = some (.int .i64 zx) ∧ w'.cell? ⟨g1, o1 + k * 2 + 1, none⟩ = some (.int .i64 zy)) ∧ w'.cell? ⟨g2, o2 + k * 2, none⟩ = some (.int .i64 zx) ∧ w'.cell? ⟨g2, o2 + k * 2 + 1, none⟩ = some (.int .i64 zy)) (exact ⟨⟨e1, e2⟩, e3, e4⟩) (fail)
      go_wp2
      go_roundw
      case rel => exact ⟨k + 1, by omega, by go_num, hbw.drew⟩
      case measure => simp [intOf]; omega
    · go_wp2
      go_ret
      exact ⟨rfl, hbw⟩
end Go.Proofs.YtnkkpjgclekobaaDoor

namespace Go.Proofs.YtnkkpjgclekobaaDoor
open Go.RowKit

set_option maxRecDepth 100000 in
set_option maxHeartbeats 4000000 in
/-- Few answers, true or false: no law leans on which. -/
theorem rFew_any (i : IN) (el en : Int) (w : World) (hi : i.In w.heap.size w) : Calls Tryd.prog 52 #[i.val, .int .i64 el, .int .i64 en] w fun e w' => (∃ b, e = .returned (.bool b)) ∧ Below w.heap.size w w' := by
  obtain ⟨W1, hW1, hB1, hs1, hk1⟩ := newBlk w _ rfl #[.int .i64 i.size, .slice i.CA i.C.length i.cc, .slice i.RA i.R.length i.rc, .slice i.I.A i.I.l.length i.I.c] 58
  have b0 := cell_of_blk hk1 0
  have b1 := cell_of_blk hk1 1
  have b2 := cell_of_blk hk1 2
  have b3 := cell_of_blk hk1 3
  simp only [List.getElem?_toArray, List.getElem?_cons_zero, List.getElem?_cons_succ] at b0 b1 b2 b3
  have hcl : i.C.length ≤ 9223372036854775807 := Nat.le_trans hi.c1 hi.c2
  have hrl : i.R.length ≤ 9223372036854775807 := Nat.le_trans hi.r1 hi.r2
  have hcc := fun h => RowAt.vals hi.c3 h
  have hrr := fun h => RowAt.vals hi.r3 h
  have hIn : ∀ s ∈ i.C, s.l.length ≤ 9223372036854775807 := fun s hs => Nat.le_trans (hi.c4 s hs).1 (hi.c4 s hs).2.1
  have hRn : ∀ s ∈ i.R, s.l.length ≤ 9223372036854775807 := fun s hs => Nat.le_trans (hi.r4 s hs).1 (hi.r4 s hs).2.1
  have HB := Lib.hid hB1
  have HIN := Lib.hid hIn
  have HRN := Lib.hid hRn
  simp only [IN.val]
  clear hi hB1 hk1 hIn hRn
  have hc : ∃ t1, decide (el < i.size) = t1 := ⟨_, rfl⟩
  obtain ⟨t1, q1⟩ := hc
  obtain ⟨t2, q2⟩ : ∃ t2, decide (i.size ≤ 256) = t2 := ⟨_, rfl⟩
  obtain ⟨t3, q3⟩ : ∃ t3, decide ((100 : Int) < i.C.length) = t3 := ⟨_, rfl⟩
  obtain ⟨t4, q4⟩ : ∃ t4, decide ((100 : Int) < i.R.length) = t4 := ⟨_, rfl⟩
  obtain ⟨t5, q5⟩ : ∃ t5, decide ((100 : Int) < i.I.l.length) = t5 := ⟨_, rfl⟩
  have hcase : (t1 = true ∧ t2 = true) ∨ t1 = false ∨ (t1 = true ∧ t2 = false) := by cases t1 <;> cases t2 <;> simp
  rcases hcase with ⟨rfl, rfl⟩ | rfl | ⟨rfl, rfl⟩
  · go_enter Tryd.func52, Tryd.ntmps52
    go_wp2
    go_ret
    exact ⟨⟨_, rfl⟩, HB.out⟩
  all_goals
    cases t3
    · cases t4
      · cases t5
        · go_enter Tryd.func52, Tryd.ntmps52
          go_wp2_with fail
          go_loop [42, 7] (fun i' z => ∃ (k : Nat) (v : Int), k ≤ i.C.length ∧ i' = .int .i64 k ∧ z = .int .i64 v) (fun i' _ => i.C.length - (intOf i').toNat)
          case atStart => exact ⟨0, 0, Nat.zero_le _, rfl, rfl⟩
          case round =>
            obtain ⟨k, v, hk, rfl, rfl⟩ := hrel
            by_cases hlt : k < i.C.length
            · obtain ⟨g, off, hCA, hg, d1⟩ := hcc (by omega)
              have e1 := (HB.out.cell (p := ⟨g, off + k, none⟩) hg).trans (d1 k hlt)
              rw [hCA]
              have h0I : (0 : Int) ≤ k := by omega
              have hlI : (k : Int) < i.C.length := by omega
              have hsl := HIN.out _ (List.getElem_mem hlt)
              simp only [IL.val] at e1
              clear d1 hcc hrr
              generalize i.C[k] = s at e1 hsl
              go_wp2_with fail
              go_round
              case rel => exact ⟨k + 1, _, by omega, by go_num, rfl⟩
              case measure => simp [intOf]; omega
            · clear hcc
              go_wp2_with fail
              go_loop [54, 7] (fun i' z => ∃ (k : Nat) (v : Int), k ≤ i.R.length ∧ i' = .int .i64 k ∧ z = .int .i64 v) (fun i' _ => i.R.length - (intOf i').toNat)
              case atStart => exact ⟨0, _, Nat.zero_le _, rfl, rfl⟩
              case round =>
                obtain ⟨m, v2, hm, rfl, rfl⟩ := hrel
                by_cases hlt2 : m < i.R.length
                · obtain ⟨g, off, hRA, hg, d1⟩ := hrr (by omega)
                  have e1 := (HB.out.cell (p := ⟨g, off + m, none⟩) hg).trans (d1 m hlt2)
                  rw [hRA]
                  have h0I : (0 : Int) ≤ m := by omega
                  have hlI : (m : Int) < i.R.length := by omega
                  have hsl := HRN.out _ (List.getElem_mem hlt2)
                  simp only [PL.val] at e1
                  clear d1 hrr
                  generalize i.R[m] = s at e1 hsl
                  go_wp2_with fail
                  go_round
                  case rel => exact ⟨m + 1, _, by omega, by go_num, rfl⟩
                  case measure => simp [intOf]; omega
                · skip
                  go_wp2
                  go_ret
                  refine ⟨?_, HB.out⟩
                  first | exact ⟨_, rfl⟩ | rfl | (simp; omega)
        · go_enter Tryd.func52, Tryd.ntmps52
          go_wp2
          go_ret
          exact ⟨⟨_, rfl⟩, HB.out⟩
      · go_enter Tryd.func52, Tryd.ntmps52
        go_wp2
        go_ret
        exact ⟨⟨_, rfl⟩, HB.out⟩
    · go_enter Tryd.func52, Tryd.ntmps52
      go_wp2
      go_ret
      exact ⟨⟨_, rfl⟩, HB.out⟩
end Go.Proofs.YtnkkpjgclekobaaDoor
