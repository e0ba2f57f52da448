import Derived.Test.YtfecjdffnklkaaaDoorRef6
namespace Go.Proofs.YtfecjdffnklkaaaDoor
open Go.RowKit

/-- THE REFERENCE'S READER, as it is meant: the tokens that are left, and its two flags. -/
structure RS where
  ts : List ByteArray
  bad : Bool
  wrong : Bool

/-- IT LIES IN BLOCK rb. -/
def RA (n : NM) (B rb : Nat) (s : RS) (w : World) : Prop :=
  B ≤ rb ∧ n.In B w ∧ ∃ A c, w.heap[rb]? = some (.cells #[.slice n.C.A n.C.l.length n.C.c, .slice n.R.A n.R.l.length n.R.c, .slice n.I.A n.I.l.length n.I.c, .slice A s.ts.length c, .bool s.bad, .bool s.wrong] 91) ∧ (SL.mk A c s.ts).In B w

section
variable {n : NM} {B rb : Nat} {s : RS} {w w' : World}
theorem RA.lt (h : RA n B rb s w) : rb < w.heap.size := by
  obtain ⟨_, _, A, c, hk, _⟩ := h
  exact (Array.getElem?_eq_some_iff.1 hk).1
theorem RA.below (h : RA n B rb s w) (hg : w.grownBy w' (some rb)) : Below B w w' := below_grown hg h.1 (Nat.le_trans h.1 (Nat.le_of_lt h.lt))
theorem RA.later (h : RA n B rb s w) (hb : Below w.heap.size w w') : RA n B rb s w' := by
  have hlt := h.lt
  have hb' := hb.mono (Nat.le_trans h.1 (Nat.le_of_lt hlt))
  obtain ⟨h1, h2, A, c, hk, hin⟩ := h
  exact ⟨h1, h2.below (Nat.le_refl _) hb', A, c, (hb.block rb hlt).trans hk, hin.below (Nat.le_refl _) hb'⟩
theorem RA.toks (h : RA n B rb s w) : ∀ x ∈ s.ts, x.size ≤ maxLen := by
  obtain ⟨_, _, A, c, _, hin⟩ := h
  exact hin.2.2.2.2
theorem RA.off {b : Nat} (h : RA n B rb s w) (hg : w.grownBy w' (some b)) (hne : b ≠ rb) (hb : B ≤ b) : RA n B rb s w' := by
  have hlt := h.lt
  obtain ⟨h1, h2, A, c, hk, hin⟩ := h
  have hb' := below_grown hg hb (Nat.le_trans h1 (Nat.le_of_lt hlt))
  exact ⟨h1, h2.below (Nat.le_refl _) hb', A, c, (hg.block rb hlt (fun e => hne (Option.some.inj e).symm)).trans hk, hin.below (Nat.le_refl _) hb'⟩
theorem RA.setBad (h : RA n B rb s w) : RA n B rb { s with bad := true } (w.setCell ⟨rb, 4, none⟩ (.bool true)) := by
  have hb := h.below (grown_set w rb 4 (.bool true))
  obtain ⟨h1, h2, A, c, hk, hin⟩ := h
  exact ⟨h1, h2.below (Nat.le_refl _) hb, A, c, by rw [blk_set hk 4 _]; rfl, hin.below (Nat.le_refl _) hb⟩
theorem RA.setWrong (h : RA n B rb s w) : RA n B rb { s with wrong := true } (w.setCell ⟨rb, 5, none⟩ (.bool true)) := by
  have hb := h.below (grown_set w rb 5 (.bool true))
  obtain ⟨h1, h2, A, c, hk, hin⟩ := h
  exact ⟨h1, h2.below (Nat.le_refl _) hb, A, c, by rw [blk_set hk 5 _]; rfl, hin.below (Nat.le_refl _) hb⟩
theorem RA.setToks (h : RA n B rb s w) {A : Option Addr} {c : Nat} {r : List ByteArray} (hr : (SL.mk A c r).In B w) : RA n B rb { s with ts := r } (w.setCell ⟨rb, 3, none⟩ (.slice A r.length c)) := by
  have hb := h.below (grown_set w rb 3 (.slice A r.length c))
  obtain ⟨h1, h2, A', c', hk, _⟩ := h
  exact ⟨h1, h2.below (Nat.le_refl _) hb, A, c, by rw [blk_set hk 3 _]; rfl, hr.below (Nat.le_refl _) hb⟩
/-- The cells, as the walk reads them. -/
theorem RA.cells (h : RA n B rb s w) : ∃ A c, w.cell? ⟨rb, 0, none⟩ = some (.slice n.C.A n.C.l.length n.C.c) ∧ w.cell? ⟨rb, 1, none⟩ = some (.slice n.R.A n.R.l.length n.R.c) ∧ w.cell? ⟨rb, 3, none⟩ = some (.slice A s.ts.length c) ∧ w.cell? ⟨rb, 4, none⟩ = some (.bool s.bad) ∧ w.cell? ⟨rb, 5, none⟩ = some (.bool s.wrong) ∧
    w.frozen? ⟨rb, 3, none⟩ = false ∧ w.frozen? ⟨rb, 4, none⟩ = false ∧ w.frozen? ⟨rb, 5, none⟩ = false ∧ (SL.mk A c s.ts).In B w := by
  obtain ⟨_, _, A, c, hk, hin⟩ := h
  exact ⟨A, c, cell_of_blk hk 0, cell_of_blk hk 1, cell_of_blk hk 3, cell_of_blk hk 4, cell_of_blk hk 5, frozen_of_blk hk 3, frozen_of_blk hk 4, frozen_of_blk hk 5, hin⟩
end

def seesB : List ByteArray → List UInt8 → Bool
  | x :: _, t => x.data.toList == t
  | [], _ => false

set_option maxRecDepth 100000 in
set_option maxHeartbeats 1000000 in
theorem Sees_any (n : NM) (B rb : Nat) (s : RS) (t : ByteArray) (w : World) (h : RA n B rb s w) :
    Calls Tryd.prog 88 #[.pointer (some ⟨rb, 0, none⟩), .string t] w fun e w' => e = .returned (.bool (seesB s.ts t.data.toList)) ∧ w = w' := by
  obtain ⟨A, c, d0, d1, d3, d4, d5, f3, f4, f5, hin⟩ := h.cells
  obtain ⟨ts, bad, wrong⟩ := s
  simp only at d3 d4 d5 hin ⊢
  cases ts with
  | nil =>
    simp only [List.length_nil] at d3
    go_enter Tryd.func88, Tryd.ntmps88
    go_wp2_with fail
    go_ret
    exact ⟨rfl, rfl⟩
  | cons x r =>
    obtain ⟨b, off, hA, hb, hc⟩ := hin.cells (by simp)
    have hc0 := hc 0 (by simp)
    simp only at hA
    subst hA
    simp only [Nat.add_zero, List.getD_cons_zero, List.length_cons] at hc0 d3
    have hlc : r.length + 1 ≤ c := hin.1
    have hcm : c ≤ 9223372036854775807 := hin.2.1
    have hne : ((r.length : Int) + 1 > 0) := by omega
    have HF : Hid (seesB (x :: r) t.data.toList = (x.data.toList == t.data.toList)) := Lib.hid rfl
    have hx2 : (x.toList == t.toList) = (x.data.toList == t.data.toList) := by rw [ByteArray.toList_eq, ByteArray.toList_eq]
    clear hin hc
    rcases hx : (x.data.toList == t.data.toList)
    all_goals
      rw [hx] at HF hx2
      clear hx
      go_enter Tryd.func88, Tryd.ntmps88
      go_wp2_with fail
      go_ret
      exact ⟨by rw [HF.out]; rfl, rfl⟩
def takeS (s : RS) (t : List UInt8) : RS := if seesB s.ts t then { s with ts := s.ts.tail } else { s with bad := true }

set_option maxRecDepth 100000 in
set_option maxHeartbeats 1000000 in
theorem Take_any (n : NM) (B rb : Nat) (s : RS) (t : ByteArray) (w : World) (h : RA n B rb s w) :
    Calls Tryd.prog 89 #[.pointer (some ⟨rb, 0, none⟩), .string t] w fun e w' => (∃ v, e = .returned v) ∧ w.grownBy w' (some rb) ∧ RA n B rb (takeS s t.data.toList) w' := by
  have hs := Sees_any n B rb s t w h
  have hpa := h
  obtain ⟨A, c, d0, d1, d3, d4, d5, f3, f4, f5, hin⟩ := h.cells
  have HF : Hid (takeS s t.data.toList = if seesB s.ts t.data.toList then { s with ts := s.ts.tail } else { s with bad := true }) := Lib.hid rfl
  rcases hx : seesB s.ts t.data.toList
  · rw [hx] at hs HF
    go_enter Tryd.func89, Tryd.ntmps89
    go_wp2_with (go_at_call 88; refine hs.mono ?_; rintro e w' ⟨rfl, rfl⟩)
    refine bodyPost_ret (results_none (by kernel_rfl) _ _ _) (by rfl) ?_
    exact ⟨⟨_, rfl⟩, grown_set _ _ _ _, by rw [HF.out]; exact hpa.setBad⟩
  · rw [hx] at hs HF
    obtain ⟨ts, bad, wrong⟩ := s
    cases ts with
    | nil => cases hx
    | cons x r =>
      obtain ⟨b, off, hA, hb, hc⟩ := hin.cells (by simp)
      simp only at hA
      subst hA
      simp only [List.length_cons] at d3
      have hlc : r.length + 1 ≤ c := hin.1
      have hcm : c ≤ 9223372036854775807 := hin.2.1
      have HI := Lib.hid hin
      clear hin hc
      go_enter Tryd.func89, Tryd.ntmps89
      go_wp2_with (go_at_call 88; refine hs.mono ?_; rintro e w' ⟨rfl, rfl⟩)
      · go_end0
        have hr0 : r = [] := List.eq_nil_of_length_eq_zero (by omega)
        subst hr0
        exact ⟨⟨_, rfl⟩, grown_set _ _ _ _, by rw [HF.out]; exact hpa.setToks (Nil.In _ _ _)⟩
      · go_end0
        exact ⟨⟨_, rfl⟩, grown_set _ _ _ _, by rw [HF.out]; exact hpa.setToks (Tail.In HI.out)⟩

/-- A word that is no name's is the empty one. -/
def wordS (s : RS) : ByteArray × RS :=
  match s.ts with
  | [] => (⟨#[]⟩, { s with bad := true })
  | x :: r => if nameL x.data.toList then (x, { s with ts := r }) else (⟨#[]⟩, { s with bad := true })

set_option maxRecDepth 100000 in
set_option maxHeartbeats 1000000 in
theorem RWord_any (n : NM) (B rb : Nat) (s : RS) (w : World) (h : RA n B rb s w) :
    Calls Tryd.prog 103 #[.pointer (some ⟨rb, 0, none⟩)] w fun e w' => e = .returned (.string (wordS s).1) ∧ w.grownBy w' (some rb) ∧ RA n B rb (wordS s).2 w' := by
  have hpa := h
  obtain ⟨A, c, d0, d1, d3, d4, d5, f3, f4, f5, hin⟩ := h.cells
  obtain ⟨ts, bad, wrong⟩ := s
  cases ts with
  | nil =>
    simp only [List.length_nil] at d3
    go_enter Tryd.func103, Tryd.ntmps103
    go_wp2_with fail
    go_ret
    exact ⟨rfl, grown_set _ _ _ _, hpa.setBad⟩
  | cons x r =>
    have hxs := h.toks x (by simp)
    have hw := Word_any x hxs w
    have hr := Reserved_any x w
    rw [ByteArray.toList_eq] at hr
    obtain ⟨b, off, hA, hb, hc⟩ := hin.cells (by simp)
    have hc0 := hc 0 (by simp)
    simp only at hA
    subst hA
    simp only [Nat.add_zero, List.getD_cons_zero, List.length_cons] at hc0 d3
    have hlc : r.length + 1 ≤ c := hin.1
    have hcm : c ≤ 9223372036854775807 := hin.2.1
    have HI := Lib.hid hin
    have HF : Hid (wordS ⟨x :: r, bad, wrong⟩ = if nameL x.data.toList then (x, ⟨r, bad, wrong⟩) else (⟨#[]⟩, ⟨x :: r, true, wrong⟩)) := Lib.hid rfl
    have HN : Hid (nameL x.data.toList = (wordL x.data.toList && !resB x.data.toList)) := Lib.hid rfl
    clear hin hc
    rcases h1 : wordL x.data.toList
    · rw [h1] at hw HN
      have HF2 := Lib.hid (show wordS ⟨x :: r, bad, wrong⟩ = (⟨#[]⟩, ⟨x :: r, true, wrong⟩) by rw [HF.out, HN.out]; rfl)
      go_enter Tryd.func103, Tryd.ntmps103
      go_wp2_with (go_at_call 65; refine hw.mono ?_; rintro e w' ⟨rfl, rfl⟩)
      go_ret
      rw [HF2.out]
      exact ⟨rfl, grown_set _ _ _ _, hpa.setBad⟩
    · rcases h2 : resB x.data.toList
      · rw [h1, h2] at HN
        rw [h1] at hw
        rw [h2] at hr
        have HF2 := Lib.hid (show wordS ⟨x :: r, bad, wrong⟩ = (x, ⟨r, bad, wrong⟩) by rw [HF.out, HN.out]; rfl)
        go_enter Tryd.func103, Tryd.ntmps103
        go_wp2_with (first | (go_at_call 65; refine hw.mono ?_; rintro e w' ⟨rfl, rfl⟩) | (go_at_call 66; refine hr.mono ?_; rintro e w' ⟨rfl, rfl⟩))
        · go_ret
          have hr0 : r = [] := List.eq_nil_of_length_eq_zero (by omega)
          subst hr0
          rw [HF2.out]
          exact ⟨rfl, grown_set _ _ _ _, hpa.setToks (Nil.In _ _ _)⟩
        · go_ret
          rw [HF2.out]
          exact ⟨rfl, grown_set _ _ _ _, hpa.setToks (Tail.In HI.out)⟩
      · rw [h1, h2] at HN
        rw [h1] at hw
        rw [h2] at hr
        have HF2 := Lib.hid (show wordS ⟨x :: r, bad, wrong⟩ = (⟨#[]⟩, ⟨x :: r, true, wrong⟩) by rw [HF.out, HN.out]; rfl)
        go_enter Tryd.func103, Tryd.ntmps103
        go_wp2_with (first | (go_at_call 65; refine hw.mono ?_; rintro e w' ⟨rfl, rfl⟩) | (go_at_call 66; refine hr.mono ?_; rintro e w' ⟨rfl, rfl⟩))
        go_ret
        rw [HF2.out]
        exact ⟨rfl, grown_set _ _ _ _, hpa.setBad⟩

def idxS (L : List ByteArray) (s : RS) : Int × RS :=
  if Lib.idxOfS L (wordS s).1 < 0 then (0, { (wordS s).2 with wrong := true }) else (Lib.idxOfS L (wordS s).1, (wordS s).2)

set_option maxRecDepth 100000 in
set_option maxHeartbeats 1000000 in
theorem RIndex_any (n : NM) (B rb : Nat) (s : RS) (sl : SL) (w : World) (h : RA n B rb s w) (hsl : sl.In B w) :
    Calls Tryd.prog 91 #[.pointer (some ⟨rb, 0, none⟩), .slice sl.A sl.l.length sl.c] w fun e w' => e = .returned (.int .i64 (idxS sl.l s).1) ∧ w.grownBy w' (some rb) ∧ RA n B rb (idxS sl.l s).2 w' := by
  have hw := RWord_any n B rb s w h
  have HF : Hid (idxS sl.l s = if Lib.idxOfS sl.l (wordS s).1 < 0 then (0, { (wordS s).2 with wrong := true }) else (Lib.idxOfS sl.l (wordS s).1, (wordS s).2)) := Lib.hid rfl
  have hfi := fun w1 (hs1 : sl.In B w1) => Find_any sl B (wordS s).1 w1 hs1
  by_cases hneg : Lib.idxOfS sl.l (wordS s).1 < 0
  · have HF2 := Lib.hid (HF.out.trans (if_pos hneg))
    generalize (wordS s).1 = x at hw hfi hneg HF2
    generalize Lib.idxOfS sl.l x = i at hfi hneg HF2
    clear HF
    go_enter Tryd.func91, Tryd.ntmps91
    go_wp2_with (first | (go_at_call 103; refine hw.mono ?_; rintro e w1 ⟨rfl, hg1, hr1⟩; have hs1 := hsl.below (Nat.le_refl _) (h.below hg1); obtain ⟨A, c, d0, d1, d3, d4, d5, f3, f4, f5, hin⟩ := hr1.cells) | (go_at_call 40; refine (hfi _ hs1).mono ?_; rintro e w2 ⟨rfl, rfl⟩))
    go_ret
    rw [HF2.out]
    exact ⟨rfl, grown_trans hg1 (grown_set _ _ _ _), hr1.setWrong⟩
  · have HF2 := Lib.hid (HF.out.trans (if_neg hneg))
    generalize (wordS s).1 = x at hw hfi hneg HF2
    generalize Lib.idxOfS sl.l x = i at hfi hneg HF2
    clear HF
    go_enter Tryd.func91, Tryd.ntmps91
    go_wp2_with (first | (go_at_call 103; refine hw.mono ?_; rintro e w1 ⟨rfl, hg1, hr1⟩; have hs1 := hsl.below (Nat.le_refl _) (h.below hg1)) | (go_at_call 40; refine (hfi _ hs1).mono ?_; rintro e w2 ⟨rfl, rfl⟩))
    go_ret
    rw [HF2.out]
    exact ⟨rfl, hg1, hr1⟩

def roleS (R : List ByteArray) (s : RS) : Int × RS :=
  if seesB (idxS R s).2.ts [45] then (2 * (idxS R s).1 + 1, takeS (idxS R s).2 [45]) else (2 * (idxS R s).1, (idxS R s).2)

theorem idxS_bounds (L : List ByteArray) (s : RS) (h : L.length ≤ 1000) : 0 ≤ (idxS L s).1 ∧ (idxS L s).1 ≤ 1000 := by
  have := idx_bounds L (wordS s).1
  unfold idxS
  split <;> simp only <;> omega

set_option maxRecDepth 100000 in
set_option maxHeartbeats 1000000 in
theorem RRole_any (n : NM) (B rb : Nat) (s : RS) (w : World) (h : RA n B rb s w) (hR : n.R.l.length ≤ 1000) :
    Calls Tryd.prog 90 #[.pointer (some ⟨rb, 0, none⟩)] w fun e w' => e = .returned (.int .i64 (roleS n.R.l s).1) ∧ w.grownBy w' (some rb) ∧ RA n B rb (roleS n.R.l s).2 w' := by
  have hix := RIndex_any n B rb s n.R w h h.2.1.2.1
  have hbd := idxS_bounds n.R.l s hR
  obtain ⟨A, c, d0, d1, d3, d4, d5, f3, f4, f5, hin⟩ := h.cells
  have HF : Hid (roleS n.R.l s = if seesB (idxS n.R.l s).2.ts [45] then (2 * (idxS n.R.l s).1 + 1, takeS (idxS n.R.l s).2 [45]) else (2 * (idxS n.R.l s).1, (idxS n.R.l s).2)) := Lib.hid rfl
  generalize (idxS n.R.l s).1 = i at hix hbd HF
  generalize (idxS n.R.l s).2 = s1 at hix HF
  have hse := fun w1 (hr : RA n B rb s1 w1) => Sees_any n B rb s1 ⟨#[45]⟩ w1 hr
  have hta := fun w1 (hr : RA n B rb s1 w1) => Take_any n B rb s1 ⟨#[45]⟩ w1 hr
  have e45 : (⟨#[45]⟩ : ByteArray).data.toList = [45] := rfl
  rw [e45] at hse hta
  rcases hx : seesB s1.ts [45]
  · rw [hx] at hse HF
    go_enter Tryd.func90, Tryd.ntmps90
    go_wp2_with (first | (go_at_call 91; refine hix.mono ?_; rintro e w1 ⟨rfl, hg1, hr1⟩) | (go_at_call 88; refine (hse _ hr1).mono ?_; rintro e w2 ⟨rfl, rfl⟩))
    go_ret
    rw [HF.out]
    exact ⟨rfl, hg1, hr1⟩
  · rw [hx] at hse HF
    go_enter Tryd.func90, Tryd.ntmps90
    go_wp2_with (first | (go_at_call 91; refine hix.mono ?_; rintro e w1 ⟨rfl, hg1, hr1⟩) | (go_at_call 88; refine (hse _ hr1).mono ?_; rintro e w2 ⟨rfl, rfl⟩) | (go_at_call 89; refine (hta _ hr1).mono ?_; rintro e w3 ⟨⟨v3, rfl⟩, hg3, hr3⟩))
    go_ret
    rw [HF.out]
    exact ⟨rfl, grown_trans hg1 hg3, hr3⟩
end Go.Proofs.YtfecjdffnklkaaaDoor
