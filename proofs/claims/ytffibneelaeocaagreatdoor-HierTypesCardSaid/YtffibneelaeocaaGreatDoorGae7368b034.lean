import Derived.Test.YtffibneelaeocaaGreatDoorGee913619f2
import Derived.StillTailTactics
import Derived.Deep.QuietTactic
namespace Go.Proofs.YtffibneelaeocaaGreatDoor
open Go.RowKit

def okN (n : Int) (l : List Int) : Bool := !(l.any (foreignB n)) && ascG ltI l
theorem okN_no {n : Int} {l : List Int} {k : Nat} (hk : k < l.length) (h : foreignB n l[k] = true) : okN n l = false := by
  rw [okN, any_hit hk h]; rfl
theorem okN_no2 {n : Int} {l : List Int} {k : Nat} (hk : k + 1 < l.length) (h : ltI l[k] l[k + 1] = false) : okN n l = false := by
  have : ascG ltI l = false := by
    rw [← Bool.not_eq_true, ascG_iff]
    intro h'
    rw [h' k hk] at h; cases h
  rw [okN, this, Bool.and_false]
theorem okN_yes {n : Int} {l : List Int} (h : ∀ j (hj : j < l.length), foreignB n l[j] = false) (h2 : ∀ j (hj : j + 1 < l.length), ltI l[j] l[j + 1] = true) : okN n l = true := by
  rw [okN, any_miss h, ascG_iff.2 h2]; rfl

set_option maxRecDepth 100000 in
set_option maxHeartbeats 2000000 in
theorem Rising_any (s : IL) (n : Int) (w : World) (hs : s.In w.heap.size w) : Calls Tryz.prog 85 #[.slice s.A s.l.length s.c, .int .i64 n] w fun e w' => e = .returned (.bool (okN n s.l)) ∧ w' = w := by
  have hlen : s.l.length ≤ 9223372036854775807 := Nat.le_trans hs.1 hs.2.1
  have hcs := fun h => IL.In.cells hs h
  obtain ⟨A, c, l⟩ := s
  dsimp only at *
  clear hs
  go_enter Tryz.func85, Tryz.ntmps85
  go_wp2_with fail
  go_loopw [9] (fun i' wr => ∃ k : Nat, k ≤ l.length ∧ i' = .int .i64 k ∧ (∀ j (hj : j < l.length), j < k → foreignB n l[j] = false) ∧ (∀ j (hj : j + 1 < l.length), j + 1 < k → ltI l[j] l[j + 1] = true) ∧ wr = w) (fun i' _ => l.length - (intOf i').toNat)
  case atStart => exact ⟨0, Nat.zero_le _, rfl, fun j _ h => absurd h (by omega), fun j _ h => absurd h (by omega), rfl⟩
  case round =>
    obtain ⟨k, hk, rfl, hall, hasc, rfl⟩ := hrel
    have HA := Lib.hid hall
    have HS := Lib.hid hasc
    clear hall hasc
    by_cases hlt : k < l.length
    · obtain ⟨g, off, rfl, -, d1⟩ := hcs (by omega)
      have e1 := d1 k hlt
      have h0I : (0 : Int) ≤ k := by omega
      have hlI : (k : Int) < l.length := by omega
      have hfo : foreignB n l[k] = (decide (l[k] < 0) || decide (n ≤ l[k])) := rfl
      rcases q1 : decide (l[k] < 0)
      · rcases q2 : decide (n ≤ l[k])
        · have hfk : foreignB n l[k] = false := by rw [hfo, q1, q2]; rfl
          have HA2 := Lib.hid (show ∀ j (hj : j < l.length), j < k + 1 → foreignB n l[j] = false from fun j hj hjk => by
            by_cases e : j = k
            · subst e; exact hfk
            · exact HA.out j hj (by omega))
          by_cases hk0 : k = 0
          · have hd : decide ((0 : Int) < (k : Int)) = false := decide_eq_false (by omega)
            have hdN : decide (0 < k) = false := decide_eq_false (by omega)
            have hdP : ¬ (0 < k) := by omega
            have HV := Lib.hid hk0
            clear hfo hfk d1 hcs hk0
            generalize l[k] = z at e1 q1 q2
            go_wp2_with fail
            go_roundw
            case rel => exact ⟨k + 1, by omega, by go_num, HA2.out, fun j _ h => absurd h (by have := HV.out; omega), by first | rfl | trivial⟩
            case measure => simp [intOf]; omega
          · obtain ⟨m, rfl⟩ : ∃ m, k = m + 1 := ⟨k - 1, by omega⟩
            have e2 := d1 m (by omega)
            have hsub : wrap64 (m : Int) = m := by unfold wrap64; omega
            have hsubA : IntKind.i64.wrap ((m : Int) + 1 - 1) = m := by rw [IntKind.wrap_i64]; omega
            have hsubB : IntKind.i64.wrap (m : Int) = m := by rw [IntKind.wrap_i64]; omega
            have hsubC : wrap64 ((m : Int) + 1 - 1) = m := by unfold wrap64; omega
            have hm0 : (0 : Int) < (m : Int) + 1 := by omega
            have hm1 : (0 : Int) ≤ m := by omega
            have hm2 : (m : Int) < l.length := by omega
            have hm3 : decide ((0 : Int) < (m : Int) + 1) = true := decide_eq_true hm0
            have hm4 : (m : Int) + 1 < l.length := by omega
            have hm5 : (0 : Int) ≤ (m : Int) + 1 := by omega
            have hm6 : ((m : Int) + 1).toNat = m + 1 := by omega
            rcases q3 : decide (l[m + 1] ≤ l[m])
            · have HS2 := Lib.hid (show ∀ j (hj : j + 1 < l.length), j + 1 < m + 1 + 1 → ltI l[j] l[j + 1] = true from fun j hj hjk => by
                by_cases e : j = m
                · subst e
                  have : ¬ l[j + 1] ≤ l[j] := of_decide_eq_false q3
                  exact decide_eq_true (by omega)
                · exact HS.out j hj (by omega))
              clear hfo hfk d1 hcs
              generalize l[m + 1] = z at e1 q1 q2 q3
              generalize l[m] = y at e2 q3
              go_wp2_with fail
              go_roundw
              case rel => exact ⟨m + 1 + 1, by omega, by go_num, HA2.out, HS2.out, by first | rfl | trivial⟩
              case measure => simp [intOf]; omega
            · have HF := Lib.hid (okN_no2 (n := n) hlt (show ltI l[m] l[m + 1] = false by
                have : l[m + 1] ≤ l[m] := of_decide_eq_true q3
                exact decide_eq_false (by omega)))
              clear hfo hfk d1 hcs
              generalize l[m + 1] = z at e1 q1 q2 q3
              generalize l[m] = y at e2 q3
              go_wp2_with fail
              go_ret
              exact ⟨by rw [HF.out]; rfl, rfl⟩
        · have HF := Lib.hid (okN_no hlt (by rw [hfo, q2, Bool.or_true]))
          clear hfo d1 hcs
          generalize l[k] = z at e1 q1 q2
          go_wp2_with fail
          go_ret
          exact ⟨by rw [HF.out]; rfl, rfl⟩
      · have HF := Lib.hid (okN_no hlt (by rw [hfo, q1, Bool.true_or]))
        clear hfo d1 hcs
        generalize l[k] = z at e1 q1
        go_wp2_with fail
        go_ret
        exact ⟨by rw [HF.out]; rfl, rfl⟩
    · have HF := Lib.hid (okN_yes (n := n) (l := l) (fun j hj => HA.out j hj (by omega)) (fun j hj => HS.out j hj (by omega)))
      go_wp2
      go_ret
      exact ⟨by rw [HF.out]; rfl, rfl⟩

set_option maxRecDepth 100000 in
set_option maxHeartbeats 2000000 in
theorem rLess_any (p q : Int × Int) (w : World) :
    Calls Tryz.prog 108 #[.agg #[.int .i64 p.1, .int .i64 p.2], .agg #[.int .i64 q.1, .int .i64 q.2]] w fun e w' => e = .returned (.bool (ltP p q)) ∧ Below w.heap.size w w' := by
  obtain ⟨W1, hW1, hB1, hs1, hk1⟩ := newBlk w _ rfl #[.int .i64 p.1, .int .i64 p.2] 126
  obtain ⟨W2, hW2, hB2, hs2, hk2⟩ := newBlk W1 _ hs1 #[.int .i64 q.1, .int .i64 q.2] 126
  have hB : Below w.heap.size w W2 := hB1.trans (hB2.mono (by omega))
  have hk12 := (hB2.block w.heap.size (by omega)).trans hk1
  have a0 := cell_of_blk hk12 0
  have a1 := cell_of_blk hk12 1
  have b0 := cell_of_blk hk2 0
  have b1 := cell_of_blk hk2 1
  simp only [List.getElem?_toArray, List.getElem?_cons_zero, List.getElem?_cons_succ] at a0 a1 b0 b1
  obtain ⟨x, y⟩ := p
  obtain ⟨z, u⟩ := q
  unfold ltP
  dsimp only at *
  have HB := Lib.hid hB
  clear hB hB1 hB2 hk1 hk12 hk2
  rcases q1 : decide (x < z)
  · have hq : decide (x = z) = (x == z) := by rw [Bool.eq_iff_iff]; simp
    rw [hq]
    rcases q2 : (x == z)
    · go_enter Tryz.func108, Tryz.ntmps108
      go_wp2
      go_ret
      exact ⟨rfl, HB.out⟩
    · go_enter Tryz.func108, Tryz.ntmps108
      go_wp2
      go_ret
      exact ⟨by simp, HB.out⟩
  · go_enter Tryz.func108, Tryz.ntmps108
    go_wp2
    go_ret
    exact ⟨by simp, HB.out⟩

set_option maxRecDepth 100000 in
set_option maxHeartbeats 1000000 in
/-- Role: whether a number is a role. -/
theorem rRole_any (n : NM) (r : Int) (w : World) (hn : n.R.l.length ≤ 1000) : Calls Tryz.prog 30 #[n.val, .int .i64 r] w fun e w' => e = .returned (.bool (decide (0 ≤ r) && decide (r < 2 * (n.R.l.length : Int)))) ∧ Below w.heap.size w w' := by
  obtain ⟨W1, hW1, hB1, hs1, hk1⟩ := newBlk w _ rfl #[.slice n.C.A n.C.l.length n.C.c, .slice n.R.A n.R.l.length n.R.c, .slice n.I.A n.I.l.length n.I.c] 24
  have a0 := cell_of_blk hk1 0
  have a1 := cell_of_blk hk1 1
  have a2 := cell_of_blk hk1 2
  simp only [List.getElem?_toArray, List.getElem?_cons_zero, List.getElem?_cons_succ] at a0 a1 a2
  have hw1 : wrap64 (2 * (n.R.l.length : Int)) = 2 * (n.R.l.length : Int) := by unfold wrap64; omega
  have hw2 : IntKind.i64.wrap (2 * (n.R.l.length : Int)) = 2 * (n.R.l.length : Int) := by rw [IntKind.wrap_i64]; omega
  simp only [NM.val]
  have HB := Lib.hid hB1
  clear hB1 hk1
  rcases q1 : decide (0 ≤ r)
  · go_enter Tryz.func30, Tryz.ntmps30
    go_wp2
    go_ret
    exact ⟨rfl, HB.out⟩
  · go_enter Tryz.func30, Tryz.ntmps30
    go_wp2
    go_ret
    exact ⟨by simp, HB.out⟩
end Go.Proofs.YtffibneelaeocaaGreatDoor

namespace Go.Proofs.YtffibneelaeocaaGreatDoor
open Go.RowKit

theorem okP_no {n : Int} {s : PL} {k : Nat} (hk : k < s.l.length) (h : forP n s.l[k] = true) : okP n s = false := by
  rw [okP, any_hit hk h]; rfl
theorem okP_no2 {n : Int} {s : PL} {k : Nat} (hk : k + 1 < s.l.length) (h : ltP s.l[k] s.l[k + 1] = false) : okP n s = false := by
  have : ascG ltP s.l = false := by
    rw [← Bool.not_eq_true, ascG_iff]
    intro h'
    rw [h' k hk] at h; cases h
  rw [okP, this, Bool.and_false]
theorem okP_yes {n : Int} {s : PL} (h : ∀ j (hj : j < s.l.length), forP n s.l[j] = false) (h2 : ∀ j (hj : j + 1 < s.l.length), ltP s.l[j] s.l[j + 1] = true) : okP n s = true := by
  rw [okP, any_miss h, ascG_iff.2 h2]; rfl
theorem lists_noC {i : IN} {k : Nat} (hk : k < i.C.length) (h : okI i.size i.C[k] = false) : listsB i = false := by
  rw [listsB, all_miss hk h]; rfl
theorem lists_noR {i : IN} {k : Nat} (hk : k < i.R.length) (h : okP i.size i.R[k] = false) : listsB i = false := by
  rw [listsB, all_miss (f := okP i.size) hk h, Bool.false_and, Bool.and_false]
theorem lists_noI {i : IN} {k : Nat} (hk : k < i.I.l.length) (h : foreignB i.size i.I.l[k] = true) : listsB i = false := by
  rw [listsB, any_hit hk h, Bool.not_true, Bool.and_false, Bool.and_false]
theorem lists_yes {i : IN} (h1 : ∀ j (hj : j < i.C.length), okI i.size i.C[j] = true) (h2 : ∀ j (hj : j < i.R.length), okP i.size i.R[j] = true) (h3 : ∀ j (hj : j < i.I.l.length), foreignB i.size i.I.l[j] = false) : listsB i = true := by
  rw [listsB, all_hit h1, all_hit h2, any_miss h3]; rfl

theorem thn0 {B : Nat} {w a b : World} (h : Below B w a) (k : Below a.heap.size a b) (hB : B ≤ w.heap.size := by exact Nat.le_refl _) : Below B w b := h.trans (k.mono (Nat.le_trans hB h.size))

set_option maxRecDepth 100000 in
set_option maxHeartbeats 8000000 in
theorem rIs_any (n : NM) (i : IN) (w : World) (hi : i.In w.heap.size w) : Calls Tryz.prog 41 #[n.val, i.val] w fun e w' => e = .returned (.bool (shapeB n i && listsB i)) ∧ Below w.heap.size w w' := by
  obtain ⟨W1, hW1, hB1, hs1, hk1⟩ := newBlk w _ rfl #[.slice n.C.A n.C.l.length n.C.c, .slice n.R.A n.R.l.length n.R.c, .slice n.I.A n.I.l.length n.I.c] 24
  obtain ⟨W2, hW2, hB2, hs2, hk2⟩ := newBlk W1 _ hs1 #[.int .i64 i.size, .slice i.CA i.C.length i.cc, .slice i.RA i.R.length i.rc, .slice i.I.A i.I.l.length i.I.c] 38
  have hB : Below w.heap.size w W2 := hB1.trans (hB2.mono (by omega))
  have hk12 := (hB2.block w.heap.size (by omega)).trans hk1
  have a0 := cell_of_blk hk12 0
  have a1 := cell_of_blk hk12 1
  have a2 := cell_of_blk hk12 2
  have b0 := cell_of_blk hk2 0
  have b1 := cell_of_blk hk2 1
  have b2 := cell_of_blk hk2 2
  have b3 := cell_of_blk hk2 3
  simp only [List.getElem?_toArray, List.getElem?_cons_zero, List.getElem?_cons_succ] at a0 a1 a2 b0 b1 b2 b3
  have hcell : ∀ w', Below W2.heap.size W2 w' → w'.cell? ⟨w.heap.size + 1, 0, none⟩ = some (.int .i64 i.size) ∧ w'.cell? ⟨w.heap.size + 1, 2, none⟩ = some (.slice i.RA i.R.length i.rc) ∧ w'.cell? ⟨w.heap.size + 1, 3, none⟩ = some (.slice i.I.A i.I.l.length i.I.c) := fun w' hb =>
    have h' := blk_lat hk2 hb
    ⟨cell_of_blk h' 0, cell_of_blk h' 2, cell_of_blk h' 3⟩
  have hIn : ∀ w', Below W2.heap.size W2 w' → i.In w'.heap.size w' := fun w' hb => (hi.later hB).later hb
  have hcl : i.C.length ≤ 9223372036854775807 := Nat.le_trans hi.c1 hi.c2
  have hrl : i.R.length ≤ 9223372036854775807 := Nat.le_trans hi.r1 hi.r2
  have hil : i.I.l.length ≤ 9223372036854775807 := Nat.le_trans hi.i1.1 hi.i1.2.1
  have hcc := fun h => RowAt.vals hi.c3 h
  have hrr := fun h => RowAt.vals hi.r3 h
  have hii := fun h => IL.In.cells hi.i1 h
  have HB := Lib.hid hB
  have HIN := Lib.hid hIn
  have HCE := Lib.hid hcell
  simp only [IN.val, NM.val]
  unfold shapeB
  clear hi hB hB1 hB2 hk1 hk12 hk2 hIn hcell
  have t1 : decide (i.size < 1) = !decide (1 ≤ i.size) := by rw [Bool.eq_iff_iff]; simp
  have t2 : decide (256 < i.size) = !decide (i.size ≤ 256) := by rw [Bool.eq_iff_iff]; simp
  rcases q1 : decide (1 ≤ i.size)
  · rw [q1] at t1
    clear q1
    go_enter Tryz.func41, Tryz.ntmps41
    go_wp2
    go_ret
    exact ⟨rfl, HB.out⟩
  · rw [q1] at t1
    clear q1
    rcases q2 : decide (i.size ≤ 256)
    · rw [q2] at t2
      clear q2
      go_enter Tryz.func41, Tryz.ntmps41
      go_wp2
      go_ret
      exact ⟨rfl, HB.out⟩
    · rw [q2] at t2
      clear q2
      rcases q3 : ((i.C.length : Int) == (n.C.l.length : Int))
      · have t3 : ((i.C.length : Int) != (n.C.l.length : Int)) = true := by rw [bne, q3]; rfl
        clear q3
        go_enter Tryz.func41, Tryz.ntmps41
        go_wp2
        go_ret
        exact ⟨rfl, HB.out⟩
      · have t3 : ((i.C.length : Int) != (n.C.l.length : Int)) = false := by rw [bne, q3]; rfl
        clear q3
        rcases q4 : ((i.R.length : Int) == (n.R.l.length : Int))
        · have t4 : ((i.R.length : Int) != (n.R.l.length : Int)) = true := by rw [bne, q4]; rfl
          clear q4
          go_enter Tryz.func41, Tryz.ntmps41
          go_wp2
          go_ret
          exact ⟨rfl, HB.out⟩
        · have t4 : ((i.R.length : Int) != (n.R.l.length : Int)) = false := by rw [bne, q4]; rfl
          clear q4
          rcases q5 : ((i.I.l.length : Int) == (n.I.l.length : Int))
          · have t5 : ((i.I.l.length : Int) != (n.I.l.length : Int)) = true := by rw [bne, q5]; rfl
            clear q5
            go_enter Tryz.func41, Tryz.ntmps41
            go_wp2
            go_ret
            exact ⟨rfl, HB.out⟩
          · have t5 : ((i.I.l.length : Int) != (n.I.l.length : Int)) = false := by rw [bne, q5]; rfl
            clear q5
            simp only [Bool.true_and]
            go_enter Tryz.func41, Tryz.ntmps41
            go_wp2_with fail
            clear t1 t2 t3 t4 t5 a0 a1 a2 b0 b1 b2 b3 hW1 hW2 hs1
            go_loopw [51] (fun i' wr => ∃ k : Nat, k ≤ i.C.length ∧ i' = .int .i64 k ∧ (∀ j (hj : j < i.C.length), j < k → okI i.size i.C[j] = true) ∧ Below W2.heap.size W2 wr) (fun i' _ => i.C.length - (intOf i').toNat)
            case atStart => exact ⟨0, Nat.zero_le _, rfl, fun j _ h => absurd h (by omega), Below.refl _ _⟩
            case round =>
              obtain ⟨k, hk, rfl, hall, hbw⟩ := hrel
              have HA := Lib.hid hall
              clear hall
              obtain ⟨b0, b2, b3⟩ := HCE.out wr hbw
              by_cases hlt : k < i.C.length
              · obtain ⟨g, off, hCA, hg, d1⟩ := hcc (by omega)
                have e1 := ((HB.out.trans (hbw.mono (by omega))).cell (p := ⟨g, off + k, none⟩) hg).trans (d1 k hlt)
                rw [hCA]
                have hri := Rising_any i.C[k] i.size wr ((HIN.out wr hbw).c4 _ (List.getElem_mem hlt))
                have h0I : (0 : Int) ≤ k := by omega
                have hlI : (k : Int) < i.C.length := by omega
                have hok : okI i.size i.C[k] = okN i.size i.C[k].l := rfl
                clear d1 hcc hrr hii
                simp only [IL.val] at e1
                rcases q : okN i.size i.C[k].l
                · rw [q] at hri
                  have HF := Lib.hid (lists_noC hlt (hok.trans q))
                  clear q hok
                  generalize i.C[k] = s at e1 hri
                  go_wp2_with (go_at_call 85; refine hri.mono ?_; rintro e w' ⟨rfl, rfl⟩)
                  go_ret
                  exact ⟨by rw [HF.out]; rfl, HB.out.trans (hbw.mono (by omega))⟩
                · rw [q] at hri
                  have HN := Lib.hid (show ∀ j (hj : j < i.C.length), j < k + 1 → okI i.size i.C[j] = true from fun j hj hjk => by
                    by_cases e : j = k
                    · subst e; exact hok.trans q
                    · exact HA.out j hj (by omega))
                  clear q hok
                  generalize i.C[k] = s at e1 hri
                  go_wp2_with (go_at_call 85; refine hri.mono ?_; rintro e w' ⟨rfl, rfl⟩)
                  go_roundw
                  case rel => exact ⟨k + 1, by omega, by go_num, HN.out, hbw⟩
                  case measure => simp [intOf]; omega
              · have HC := Lib.hid (show ∀ j (hj : j < i.C.length), okI i.size i.C[j] = true from fun j hj => HA.out j hj (by omega))
                clear hcc HA
                go_wp2_with fail
                go_loopw [64] (fun i' wr => ∃ k : Nat, k ≤ i.R.length ∧ i' = .int .i64 k ∧ (∀ j (hj : j < i.R.length), j < k → okP i.size i.R[j] = true) ∧ Below W2.heap.size W2 wr) (fun i' _ => i.R.length - (intOf i').toNat)
                case atStart => exact ⟨0, Nat.zero_le _, rfl, fun j _ h => absurd h (by omega), hbw⟩
                case round =>
                  clear b0 b2 b3 hbw
                  obtain ⟨m, hm, rfl, hall, hbw⟩ := hrel
                  have HA := Lib.hid hall
                  clear hall
                  obtain ⟨b0, b2, b3⟩ := HCE.out wr hbw
                  by_cases hlt2 : m < i.R.length
                  · obtain ⟨g, off, hRA, hg, d1⟩ := hrr (by omega)
                    have e1 := ((HB.out.trans (hbw.mono (by omega))).cell (p := ⟨g, off + m, none⟩) hg).trans (d1 m hlt2)
                    rw [hRA]
                    have h0I : (0 : Int) ≤ m := by omega
                    have hlI : (m : Int) < i.R.length := by omega
                    have hsin : ∀ w', Below W2.heap.size W2 w' → (i.R[m]).In w'.heap.size w' := fun w' hb => (HIN.out w' hb).r4 _ (List.getElem_mem hlt2)
                    have HSF := Lib.hid (fun h => lists_noR (i := i) hlt2 h)
                    have HSN := Lib.hid (show okP i.size i.R[m] = true → ∀ j (hj : j < i.R.length), j < m + 1 → okP i.size i.R[j] = true from fun h j hj hjk => by
                      by_cases e : j = m
                      · subst e; exact h
                      · exact HA.out j hj (by omega))
                    have HSI := Lib.hid hsin
                    have hsl : (i.R[m]).l.length ≤ 9223372036854775807 := Nat.le_trans (hsin wr hbw).1 (hsin wr hbw).2.1
                    clear d1 hrr hii hsin
                    simp only [PL.val] at e1
                    generalize i.R[m] = s at e1 HSF HSN HSI hsl
                    go_wp2_with fail
                    go_loopw [70] (fun i' wr => ∃ k : Nat, k ≤ s.l.length ∧ i' = .int .i64 k ∧ (∀ j (hj : j < s.l.length), j < k → forP i.size s.l[j] = false) ∧ (∀ j (hj : j + 1 < s.l.length), j + 1 < k → ltP s.l[j] s.l[j + 1] = true) ∧ Below W2.heap.size W2 wr) (fun i' _ => s.l.length - (intOf i').toNat)
                    case atStart => exact ⟨0, Nat.zero_le _, rfl, fun j _ h => absurd h (by omega), fun j _ h => absurd h (by omega), hbw⟩
                    case round =>
                      clear b0 b2 b3 hbw e1
                      obtain ⟨c, hc, rfl, hall, hasc, hbw⟩ := hrel
                      have HA2 := Lib.hid hall
                      have HS2 := Lib.hid hasc
                      clear hall hasc
                      obtain ⟨b0, b2, b3⟩ := HCE.out wr hbw
                      by_cases hltc : c < s.l.length
                      · obtain ⟨g2, off2, hSA, hg2, d2⟩ := PL.In.cells (HSI.out wr hbw) (by omega)
                        obtain ⟨x0, x1⟩ := d2 c hltc
                        rw [hSA]
                        obtain ⟨W5, hW5, hB5, hs5, hk5⟩ := newBlk wr _ rfl #[.int .i64 s.l[c].1, .int .i64 s.l[c].2] 126
                        have hb5 : Below W2.heap.size W2 W5 := thn0 hbw hB5
                        have u0 := cell_of_blk hk5 0
                        have u1 := cell_of_blk hk5 1
                        simp only [List.getElem?_toArray, List.getElem?_cons_zero, List.getElem?_cons_succ] at u0 u1
                        have uz := (HCE.out W5 hb5).1
                        have p0 : W5.drew.cell? ⟨wr.heap.size, 0, none⟩ = _ := u0
                        have p1 : W5.drew.cell? ⟨wr.heap.size, 1, none⟩ = _ := u1
                        clear hk5
                        have sz : W5.drew.cell? ⟨w.heap.size + 1, 0, none⟩ = _ := (HCE.out W5 hb5).1
                        have h0C : (0 : Int) ≤ c := by omega
                        have hlC : (c : Int) < s.l.length := by omega
                        have hfo : forP i.size s.l[c] = ((decide (s.l[c].1 < 0) || decide (i.size ≤ s.l[c].1)) || (decide (s.l[c].2 < 0) || decide (i.size ≤ s.l[c].2))) := rfl
                        rcases r1 : decide (s.l[c].1 < 0)
                        · rcases r2 : decide (i.size ≤ s.l[c].1)
                          · rcases r3 : decide (s.l[c].2 < 0)
                            · rcases r4 : decide (i.size ≤ s.l[c].2)
                              · have hfk : forP i.size s.l[c] = false := by rw [hfo, r1, r2, r3, r4]; rfl
                                have HA3 := Lib.hid (show ∀ j (hj : j < s.l.length), j < c + 1 → forP i.size s.l[j] = false from fun j hj hjk => by
                                  by_cases e : j = c
                                  · subst e; exact hfk
                                  · exact HA2.out j hj (by omega))
                                clear hfo hfk
                                by_cases hc0 : c = 0
                                · have hd : decide ((0 : Int) < (c : Int)) = false := decide_eq_false (by omega)
                                  have hdN : decide (0 < c) = false := decide_eq_false (by omega)
                                  have hdP : ¬ (0 < c) := by omega
                                  have HV := Lib.hid hc0
                                  clear hc0 d2
                                  generalize s.l[c] = z at x0 x1 u0 u1 p0 p1 r1 r2 r3 r4 hW5
                                  obtain ⟨zx, zy⟩ := z
                                  dsimp only at x0 x1 u0 u1 p0 p1 r1 r2 r3 r4 hW5
                                  go_wp2_with fail
                                  go_quiet (fail)
                                  go_wp2
                                  go_roundw
                                  case rel => exact ⟨c + 1, by omega, by go_num, HA3.out, fun j _ h => absurd h (by have := HV.out; omega), below_drewN hb5 _⟩
                                  case measure => simp [intOf]; omega
                                · obtain ⟨v, hcv⟩ : ∃ v, c = v + 1 := ⟨c - 1, by omega⟩
                                  have hvl : v < s.l.length := by omega
                                  obtain ⟨y0', y1'⟩ := d2 v hvl
                                  have y0 := (hB5.drew.cell (p := ⟨g2, off2 + v * 2, none⟩) hg2).trans y0'
                                  have y1 := (hB5.drew.cell (p := ⟨g2, off2 + v * 2 + 1, none⟩) hg2).trans y1'
                                  have hsub : wrap64 ((c : Int) - 1) = (v : Int) := by unfold wrap64; omega
                                  have hsubA : IntKind.i64.wrap ((c : Int) - 1) = (v : Int) := by rw [IntKind.wrap_i64]; omega
                                  have hm1 : (0 : Int) ≤ v := by omega
                                  have hm2 : (v : Int) < s.l.length := by omega
                                  have hm3 : decide ((0 : Int) < (c : Int)) = true := decide_eq_true (by omega)
                                  have hm3' : (0 : Int) < (c : Int) := by omega
                                  have hmN : decide (0 < c) = true := decide_eq_true (by omega)
                                  have hmP : 0 < c := by omega
                                  have hg5 : g2 < W5.drew.heap.size := by have : g2 < wr.heap.size := hg2; show g2 < W5.heap.size; omega
                                  have hw5 : w.heap.size + 1 < W5.drew.heap.size := by have := hb5.size; show w.heap.size + 1 < W5.heap.size; omega
                                  have hr5 : wr.heap.size < W5.drew.heap.size := by show wr.heap.size < W5.heap.size; omega
                                  have hle := rLess_any s.l[v] s.l[c] W5.drew
                                  obtain ⟨t, ht⟩ : ∃ t, ltP s.l[v] s.l[c] = t := ⟨_, rfl⟩
                                  rw [ht] at hle
                                  have HT := Lib.hid (show v + 1 < s.l.length ∧ c = v + 1 ∧ ∀ h : v + 1 < s.l.length, ltP s.l[v] s.l[v + 1] = t by subst hcv; exact ⟨hltc, rfl, fun _ => ht⟩)
                                  clear ht d2 y0' y1' hcv hc0
                                  generalize s.l[c] = z at x0 x1 u0 u1 p0 p1 r1 r2 r3 r4 hW5 hle
                                  obtain ⟨zx, zy⟩ := z
                                  dsimp only at x0 x1 u0 u1 p0 p1 r1 r2 r3 r4 hW5 hle
                                  obtain ⟨y, hy⟩ : ∃ y, s.l[v] = y := ⟨_, rfl⟩
                                  rw [hy] at y0 y1 hle
                                  clear hy
                                  go_wp2_with fail
                                  go_still_tail 32, (by kernel_rfl)
                                  change wpList _ _ _ _ _ W5.drew
                                  cases t
                                  · have HF := Lib.hid (HSF.out (okP_no2 HT.out.1 (HT.out.2.2 HT.out.1)))
                                    go_wp2_with (go_at_call 108; refine hle.mono ?_; rintro e w6 ⟨rfl, hb6⟩)
                                    go_ret
                                    exact ⟨by rw [HF.out]; rfl, HB.out.trans ((hb5.drew.trans (hb6.mono hb5.size)).mono (by omega))⟩
                                  · have HS3 := Lib.hid (show ∀ j (hj : j + 1 < s.l.length), j + 1 < c + 1 → ltP s.l[j] s.l[j + 1] = true from fun j hj hjk => by
                                      have hcv := HT.out.2.1
                                      by_cases e : j = v
                                      · subst e; exact HT.out.2.2 hj
                                      · exact HS2.out j hj (by omega))
                                    go_wp2_with (go_at_call 108; refine hle.mono ?_; rintro e w6 ⟨rfl, hb6⟩)
                                    go_roundw
                                    case rel => exact ⟨c + 1, by omega, by go_num, HA3.out, HS3.out, hb5.drew.trans (hb6.mono hb5.size)⟩
                                    case measure => simp [intOf]; omega
                              · have HF := Lib.hid (HSF.out (okP_no hltc (by rw [hfo, r4, Bool.or_true, Bool.or_true])))
                                clear hfo d2
                                generalize s.l[c] = z at x0 x1 u0 u1 p0 p1 r1 r2 r3 r4 hW5
                                obtain ⟨zx, zy⟩ := z
                                dsimp only at x0 x1 u0 u1 p0 p1 r1 r2 r3 r4 hW5
                                go_wp2_with fail
                                go_quiet (fail)
                                go_wp2
                                go_ret
                                exact ⟨by rw [HF.out]; rfl, HB.out.trans ((below_drewN hb5 _).mono (by omega))⟩
                            · have HF := Lib.hid (HSF.out (okP_no hltc (by rw [hfo, r3, Bool.true_or, Bool.or_true])))
                              clear hfo d2
                              generalize s.l[c] = z at x0 x1 u0 u1 p0 p1 r1 r2 r3 hW5
                              obtain ⟨zx, zy⟩ := z
                              dsimp only at x0 x1 u0 u1 p0 p1 r1 r2 r3 hW5
                              go_wp2_with fail
                              go_quiet (fail)
                              go_wp2
                              go_ret
                              exact ⟨by rw [HF.out]; rfl, HB.out.trans ((below_drewN hb5 _).mono (by omega))⟩
                          · have HF := Lib.hid (HSF.out (okP_no hltc (by rw [hfo, r2, Bool.or_true, Bool.true_or])))
                            clear hfo d2
                            generalize s.l[c] = z at x0 x1 u0 u1 p0 p1 r1 r2 hW5
                            obtain ⟨zx, zy⟩ := z
                            dsimp only at x0 x1 u0 u1 p0 p1 r1 r2 hW5
                            go_wp2_with fail
                            go_quiet (fail)
                            go_wp2
                            go_ret
                            exact ⟨by rw [HF.out]; rfl, HB.out.trans ((below_drewN hb5 _).mono (by omega))⟩
                        · have HF := Lib.hid (HSF.out (okP_no hltc (by rw [hfo, r1, Bool.true_or, Bool.true_or])))
                          clear hfo d2
                          generalize s.l[c] = z at x0 x1 u0 u1 p0 p1 r1 hW5
                          obtain ⟨zx, zy⟩ := z
                          dsimp only at x0 x1 u0 u1 p0 p1 r1 hW5
                          go_wp2_with fail
                          go_quiet (fail)
                          go_wp2
                          go_ret
                          exact ⟨by rw [HF.out]; rfl, HB.out.trans ((below_drewN hb5 _).mono (by omega))⟩
                      · have HOK := Lib.hid (HSN.out (okP_yes (fun j hj => HA2.out j hj (by omega)) (fun j hj => HS2.out j hj (by omega))))
                        go_wp2_with fail
                        go_roundw
                        case rel => exact ⟨m + 1, by omega, by go_num, HOK.out, hbw⟩
                        case measure => simp [intOf]; omega
                  · have HR := Lib.hid (show ∀ j (hj : j < i.R.length), okP i.size i.R[j] = true from fun j hj => HA.out j hj (by omega))
                    clear hrr HA
                    go_wp2_with fail
                    go_loopw [116] (fun i' wr => ∃ k : Nat, k ≤ i.I.l.length ∧ i' = .int .i64 k ∧ (∀ j (hj : j < i.I.l.length), j < k → foreignB i.size i.I.l[j] = false) ∧ Below W2.heap.size W2 wr) (fun i' _ => i.I.l.length - (intOf i').toNat)
                    case atStart => exact ⟨0, Nat.zero_le _, rfl, fun j _ h => absurd h (by omega), hbw⟩
                    case round =>
                      clear b0 b2 b3 hbw
                      obtain ⟨c, hc, rfl, hall, hbw⟩ := hrel
                      have HA := Lib.hid hall
                      clear hall
                      obtain ⟨b0, b2, b3⟩ := HCE.out wr hbw
                      by_cases hlt3 : c < i.I.l.length
                      · obtain ⟨g, off, hIA, hg, d1⟩ := hii (by omega)
                        have e1 := ((HB.out.trans (hbw.mono (by omega))).cell (p := ⟨g, off + c, none⟩) hg).trans (d1 c hlt3)
                        rw [hIA] at b3 ⊢
                        have h0I : (0 : Int) ≤ c := by omega
                        have hlI : (c : Int) < i.I.l.length := by omega
                        have hfo : foreignB i.size i.I.l[c] = (decide (i.I.l[c] < 0) || decide (i.size ≤ i.I.l[c])) := rfl
                        clear d1 hii
                        rcases q1 : decide (i.I.l[c] < 0)
                        · rcases q2 : decide (i.size ≤ i.I.l[c])
                          · have HN := Lib.hid (show ∀ j (hj : j < i.I.l.length), j < c + 1 → foreignB i.size i.I.l[j] = false from fun j hj hjk => by
                              by_cases e : j = c
                              · subst e; rw [hfo, q1, q2]; rfl
                              · exact HA.out j hj (by omega))
                            clear hfo
                            generalize i.I.l[c] = z at e1 q1 q2
                            go_wp2_with fail
                            go_roundw
                            case rel => exact ⟨c + 1, by omega, by go_num, HN.out, hbw⟩
                            case measure => simp [intOf]; omega
                          · have HF := Lib.hid (lists_noI hlt3 (by rw [hfo, q2, Bool.or_true]))
                            clear hfo
                            generalize i.I.l[c] = z at e1 q1 q2
                            go_wp2_with fail
                            go_ret
                            exact ⟨by rw [HF.out]; rfl, HB.out.trans (hbw.mono (by omega))⟩
                        · have HF := Lib.hid (lists_noI hlt3 (by rw [hfo, q1, Bool.true_or]))
                          clear hfo
                          generalize i.I.l[c] = z at e1 q1
                          go_wp2_with fail
                          go_ret
                          exact ⟨by rw [HF.out]; rfl, HB.out.trans (hbw.mono (by omega))⟩
                      · have HF := Lib.hid (lists_yes HC.out HR.out fun j hj => HA.out j hj (by omega))
                        go_wp2
                        go_ret
                        exact ⟨by rw [HF.out]; rfl, HB.out.trans (hbw.mono (by omega))⟩
end Go.Proofs.YtffibneelaeocaaGreatDoor

namespace Go.Proofs.YtffibneelaeocaaGreatDoor
open Go.RowKit

set_option maxRecDepth 100000 in
theorem eqPair (a b : Int) (w : World) : (Op.equalIn 10000 126 (.agg #[.int .i64 a, .int .i64 b]) (.agg #[.int .i64 a, .int .i64 b])).run Tryz.prog w = .ok true w := by
  have u3 := Tryz.underlying3
  have a3 := Tryz.isAgg3
  have z3 := Tryz.sizeOf3
  rw [show (10000 : Nat) = 9999 + 1 from rfl, Op.equalIn]
  simp only [Sem.run_bind, run_underlying Tryz.underlying126, Result.andThen_ok]
  simp only [Std.Legacy.Range.forIn_eq_forIn_range', Std.Legacy.Range.size, Nat.sub_zero, Nat.add_sub_cancel, Nat.div_one, List.range'_succ, List.range'_zero, List.forIn_cons, List.forIn_nil]
  go_simp

set_option maxRecDepth 100000 in
set_option maxHeartbeats 2000000 in
/-- Two equal lists of pairs. -/
theorem SamePairs_any (s1 s2 : PL) (w : World) (h1 : s1.In w.heap.size w) (h2 : s2.In w.heap.size w) (he : s1.l = s2.l) :
    Calls Tryz.prog 82 #[.slice s1.A s1.l.length s1.c, .slice s2.A s2.l.length s2.c] w fun e w' => e = .returned (.bool true) ∧ Below w.heap.size w w' := by
  have hll : s1.l.length ≤ 9223372036854775807 := Nat.le_trans h1.1 h1.2.1
  have hc1 := fun h => PL.In.cells h1 h
  have hc2 := fun h => PL.In.cells h2 h
  obtain ⟨A1, c1, l1⟩ := s1
  obtain ⟨A2, c2, l2⟩ := s2
  dsimp only at *
  subst he
  have hne : ((l1.length : Int) != (l1.length : Int)) = false := by simp
  have hq := fun a b w => eqPair a b w
  clear h1 h2
  go_enter Tryz.func82, Tryz.ntmps82
  go_wp2_with fail
  go_loopw [13] (fun i wr => ∃ k : Nat, k ≤ l1.length ∧ i = .int .i64 k ∧ Below w.heap.size w wr) (fun i _ => l1.length - (intOf i).toNat)
  case atStart => exact ⟨0, Nat.zero_le _, rfl, Below.refl _ w⟩
  case round =>
    obtain ⟨k, hk, rfl, hbw⟩ := hrel
    by_cases hlt : k < l1.length
    · obtain ⟨g1, o1, rfl, hg1, d1⟩ := hc1 (by omega)
      obtain ⟨g2, o2, rfl, hg2, d2⟩ := hc2 (by omega)
      have e1 := (hbw.drew.cell (p := ⟨g1, o1 + k * 2, none⟩) hg1).trans (d1 k hlt).1
      have e2 := (hbw.drew.cell (p := ⟨g1, o1 + k * 2 + 1, none⟩) hg1).trans (d1 k hlt).2
      have e3 := (hbw.drew.cell (p := ⟨g2, o2 + k * 2, none⟩) hg2).trans (d2 k hlt).1
      have e4 := (hbw.drew.cell (p := ⟨g2, o2 + k * 2 + 1, none⟩) hg2).trans (d2 k hlt).2
      clear d1 d2 hc1 hc2
      generalize l1[k] = z at e1 e2 e3 e4
      obtain ⟨zx, zy⟩ := z
      dsimp only at e1 e2 e3 e4
      have h0I : (0 : Int) ≤ k := by omega
      have hlI : (k : Int) < l1.length := by omega
      go_wp2_with fail
      go_region_held (fun w' => (w'.cell? ⟨g1, o1 + k * 2, none⟩ = some (.int .i64 zx) ∧ w'.cell? ⟨g1, o1 + k * 2 + 1, none⟩ = some (.int .i64 zy)) ∧ w'.cell? ⟨g2, o2 + k * 2, none⟩ = some (.int .i64 zx) ∧ w'.cell? ⟨g2, o2 + k * 2 + 1, none⟩ = some (.int .i64 zy)) (exact ⟨⟨e1, e2⟩, e3, e4⟩) (fail)
      go_wp2
      go_roundw
      case rel => exact ⟨k + 1, by omega, by go_num, hbw.drew⟩
      case measure => simp [intOf]; omega
    · go_wp2
      go_ret
      exact ⟨rfl, hbw⟩
end Go.Proofs.YtffibneelaeocaaGreatDoor

namespace Go.Proofs.YtffibneelaeocaaGreatDoor
open Go.RowKit

set_option maxRecDepth 100000 in
set_option maxHeartbeats 4000000 in
/-- Few answers, true or false: no law leans on which. -/
theorem rFew_any (i : IN) (el en : Int) (w : World) (hi : i.In w.heap.size w) : Calls Tryz.prog 40 #[i.val, .int .i64 el, .int .i64 en] w fun e w' => (∃ b, e = .returned (.bool b)) ∧ Below w.heap.size w w' := by
  obtain ⟨W1, hW1, hB1, hs1, hk1⟩ := newBlk w _ rfl #[.int .i64 i.size, .slice i.CA i.C.length i.cc, .slice i.RA i.R.length i.rc, .slice i.I.A i.I.l.length i.I.c] 38
  have b0 := cell_of_blk hk1 0
  have b1 := cell_of_blk hk1 1
  have b2 := cell_of_blk hk1 2
  have b3 := cell_of_blk hk1 3
  simp only [List.getElem?_toArray, List.getElem?_cons_zero, List.getElem?_cons_succ] at b0 b1 b2 b3
  have hcl : i.C.length ≤ 9223372036854775807 := Nat.le_trans hi.c1 hi.c2
  have hrl : i.R.length ≤ 9223372036854775807 := Nat.le_trans hi.r1 hi.r2
  have hcc := fun h => RowAt.vals hi.c3 h
  have hrr := fun h => RowAt.vals hi.r3 h
  have hIn : ∀ s ∈ i.C, s.l.length ≤ 9223372036854775807 := fun s hs => Nat.le_trans (hi.c4 s hs).1 (hi.c4 s hs).2.1
  have hRn : ∀ s ∈ i.R, s.l.length ≤ 9223372036854775807 := fun s hs => Nat.le_trans (hi.r4 s hs).1 (hi.r4 s hs).2.1
  have HB := Lib.hid hB1
  have HIN := Lib.hid hIn
  have HRN := Lib.hid hRn
  simp only [IN.val]
  clear hi hB1 hk1 hIn hRn
  have hc : ∃ t1, decide (el < i.size) = t1 := ⟨_, rfl⟩
  obtain ⟨t1, q1⟩ := hc
  obtain ⟨t2, q2⟩ : ∃ t2, decide (i.size ≤ 256) = t2 := ⟨_, rfl⟩
  obtain ⟨t3, q3⟩ : ∃ t3, decide ((100 : Int) < i.C.length) = t3 := ⟨_, rfl⟩
  obtain ⟨t4, q4⟩ : ∃ t4, decide ((100 : Int) < i.R.length) = t4 := ⟨_, rfl⟩
  obtain ⟨t5, q5⟩ : ∃ t5, decide ((100 : Int) < i.I.l.length) = t5 := ⟨_, rfl⟩
  have hcase : (t1 = true ∧ t2 = true) ∨ t1 = false ∨ (t1 = true ∧ t2 = false) := by cases t1 <;> cases t2 <;> simp
  rcases hcase with ⟨rfl, rfl⟩ | rfl | ⟨rfl, rfl⟩
  · go_enter Tryz.func40, Tryz.ntmps40
    go_wp2
    go_ret
    exact ⟨⟨_, rfl⟩, HB.out⟩
  all_goals
    cases t3
    · cases t4
      · cases t5
        · go_enter Tryz.func40, Tryz.ntmps40
          go_wp2_with fail
          go_loop [42, 7] (fun i' z => ∃ (k : Nat) (v : Int), k ≤ i.C.length ∧ i' = .int .i64 k ∧ z = .int .i64 v) (fun i' _ => i.C.length - (intOf i').toNat)
          case atStart => exact ⟨0, 0, Nat.zero_le _, rfl, rfl⟩
          case round =>
            obtain ⟨k, v, hk, rfl, rfl⟩ := hrel
            by_cases hlt : k < i.C.length
            · obtain ⟨g, off, hCA, hg, d1⟩ := hcc (by omega)
              have e1 := (HB.out.cell (p := ⟨g, off + k, none⟩) hg).trans (d1 k hlt)
              rw [hCA]
              have h0I : (0 : Int) ≤ k := by omega
              have hlI : (k : Int) < i.C.length := by omega
              have hsl := HIN.out _ (List.getElem_mem hlt)
              simp only [IL.val] at e1
              clear d1 hcc hrr
              generalize i.C[k] = s at e1 hsl
              go_wp2_with fail
              go_round
              case rel => exact ⟨k + 1, _, by omega, by go_num, rfl⟩
              case measure => simp [intOf]; omega
            · clear hcc
              go_wp2_with fail
              go_loop [54, 7] (fun i' z => ∃ (k : Nat) (v : Int), k ≤ i.R.length ∧ i' = .int .i64 k ∧ z = .int .i64 v) (fun i' _ => i.R.length - (intOf i').toNat)
              case atStart => exact ⟨0, _, Nat.zero_le _, rfl, rfl⟩
              case round =>
                obtain ⟨m, v2, hm, rfl, rfl⟩ := hrel
                by_cases hlt2 : m < i.R.length
                · obtain ⟨g, off, hRA, hg, d1⟩ := hrr (by omega)
                  have e1 := (HB.out.cell (p := ⟨g, off + m, none⟩) hg).trans (d1 m hlt2)
                  rw [hRA]
                  have h0I : (0 : Int) ≤ m := by omega
                  have hlI : (m : Int) < i.R.length := by omega
                  have hsl := HRN.out _ (List.getElem_mem hlt2)
                  simp only [PL.val] at e1
                  clear d1 hrr
                  generalize i.R[m] = s at e1 hsl
                  go_wp2_with fail
                  go_round
                  case rel => exact ⟨m + 1, _, by omega, by go_num, rfl⟩
                  case measure => simp [intOf]; omega
                · skip
                  go_wp2
                  go_ret
                  refine ⟨?_, HB.out⟩
                  first | exact ⟨_, rfl⟩ | rfl | (simp; omega)
        · go_enter Tryz.func40, Tryz.ntmps40
          go_wp2
          go_ret
          exact ⟨⟨_, rfl⟩, HB.out⟩
      · go_enter Tryz.func40, Tryz.ntmps40
        go_wp2
        go_ret
        exact ⟨⟨_, rfl⟩, HB.out⟩
    · go_enter Tryz.func40, Tryz.ntmps40
      go_wp2
      go_ret
      exact ⟨⟨_, rfl⟩, HB.out⟩
end Go.Proofs.YtffibneelaeocaaGreatDoor
