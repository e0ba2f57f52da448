import Derived.Test.YtndkcimajeofcaaGreatDoorG3a662f577c
import Derived.Deep.RegionHeldLaw
namespace Go
/-- AT A STEP OF A REGION THAT DRAWS: an append to a row of one's own, out of a slice that may be nil. -/
theorem step_append_row {P : Program} (w : World) {ops : Array Oper} {o : Oper} {a : Act} {K : Act → World → Prop} {Q : Exit → Act → World → Prop} {E : Prop} (hgd : o.guard = none) (s x : Operand) (t : TypeId)
    (ho : o.op = .call { callee := .builtin .append, args := #[s, x], argTypes := #[t, t] })
    (base : Nat) (e : TypeId) (i : TypeInfo) (z : Value) (size bytes : Nat) (ht : P.underlying t = some (.slice e)) (hi : P.info? e = some i) (hz : i.zero = some z)
    (hsize : i.size = size) (hby : i.bytes = bytes) (hzs : z.cells.size = size) (hsz : 0 < size)
    (v : Value) (n : Nat) (xs : List Value) (hs : a.eval s = v) (hown : w.ownsRow base e size v n xs)
    (B : Nat) (A : Option Addr) (m c : Nat) (news : List Value) (hx : a.eval x = .slice A m c) (hA : A = none → c = 0) (hr : Go.Proofs.YtndkcimajeofcaaGreatDoor.RowAt w B size A m news) (h1 : ∀ u ∈ news, u.oneCell' = true)
    (h63 : n + m ≤ maxLen) (hbytes : (n + m) * bytes ≤ 140737488355328) (hbase : base ≤ w.heap.size)
    (h : ∀ v' w', w'.ownsRow base e size v' (n + m) (xs ++ news) → w.grownBy w' v.ownBlock → (v'.ownBlock = v.ownBlock ∨ v'.ownBlock = some w.heap.size) → K (a.put o.dst v') w') :
    if Region.wanted o (yielded ops a.tmps) = true then Oper.wp P o a w K Q else E := by
  have hw : Region.wanted o (yielded ops a.tmps) = true := by simp [Region.wanted, hgd]
  rw [if_pos hw]
  unfold Oper.wp execOp
  cases A with
  | none =>
    have hm : m = 0 := by
      by_cases hm : m = 0
      · exact hm
      · obtain ⟨b, off, hA', _⟩ := hr.2 hm
        cases hA'
    subst hm
    have hc0 := hA rfl
    subst hc0
    have hn : news = [] := List.eq_nil_of_length_eq_zero (by rw [hr.1, Nat.zero_mul])
    subst hn
    have hrun := run_append_owned_none (P := P) (w := w) base t o.type e i size ht hi v n xs hown
    simp only [ho, resolve, invoke, builtin, Sem.run_bind, Sem.run_pure, Result.andThen_ok, List.map_toArray, List.map_cons, List.map_nil, hs, hx, hrun]
    exact h v w (by simpa using hown) (World.grownBy.refl w _) (.inl rfl)
  | some ad =>
    obtain ⟨v', w', hrun, h2, h3, _, h5⟩ := run_append_own_at (P := P) w base t o.type e i z size bytes ht hi hz hsize hby hzs hsz v n xs hown ad m c news hr.1 (by
      intro j u hj
      have hlt : j < m * size := by rw [← hr.1]; exact (List.getElem?_eq_some_iff.1 hj).1
      have hm : m ≠ 0 := fun e => by subst e; omega
      obtain ⟨b, off, hA', _, hc⟩ := hr.2 hm
      cases hA'
      have : ((⟨b, off, none⟩ : Addr).add j) = ⟨b, off + j, none⟩ := by unfold Addr.add; split <;> simp_all
      rw [this, hc j hlt]
      exact hj) h1 h63 hbytes hbase
    simp only [ho, resolve, invoke, builtin, Sem.run_bind, Sem.run_pure, Result.andThen_ok, List.map_toArray, List.map_cons, List.map_nil, hs, hx, hrun]
    exact h v' w' h2 h3 h5
end Go
namespace Go.Proofs.YtndkcimajeofcaaGreatDoor
open Go.RowKit

theorem sl_of_owns {w : World} {base : Nat} {v : Value} {l : List ByteArray} (h : w.ownsRow base 9 1 v l.length (l.map Value.string)) (hm : ∀ x ∈ l, x.size ≤ maxLen) : ∃ s : SL, v = .slice s.A s.l.length s.c ∧ s.l = l ∧ s.In w.heap.size w := by
  rcases h.2 with ⟨rfl, h0⟩ | ⟨g, cap, cur, rfl, hge, hheap, hlen, hcap, hsize, htake⟩
  · exact ⟨⟨none, 0, []⟩, rfl, (List.eq_nil_of_length_eq_zero h0).symm, ⟨Nat.le_refl _, by simp, fun _ => rfl, RowAt.nil _ _ _ _, by simp⟩⟩
  · refine ⟨⟨some ⟨g, 0, none⟩, cap, l⟩, rfl, rfl, ⟨hlen, hcap, (fun h => by cases h), ⟨by simp, fun _ => ⟨g, 0, rfl, (Array.getElem?_eq_some_iff.1 hheap).1, fun j hj => ?_⟩⟩, hm⟩⟩
    rw [cell_of_blk hheap, ← htake]
    simp only [List.getElem?_take, Array.getElem?_toList]
    rw [if_pos (by omega)]
    simp
theorem below_row {B : Nat} {a w w' : World} (h : Below B a w) (hB : B ≤ a.heap.size) {v' : Value} (hg : w.grownBy w' (Value.ownBlock (.slice none 0 0))) (_h : v'.ownBlock = v'.ownBlock) : Below B a w' := h.grown hg (Nat.le_trans hB h.size) (fun _ e => by cases e)
theorem owns_kept0 {w w' : World} {base : Nat} {e : TypeId} {size n : Nat} {v : Value} {xs : List Value} (h : w.ownsRow base e size v n xs) (hg : w.grownBy w' (Value.ownBlock (.slice none 0 0))) : w'.ownsRow base e size v n xs := by
  refine ⟨h.1, ?_⟩
  rcases h.2 with h0 | ⟨g, cap, cur, rfl, hge, hheap, hrest⟩
  · exact .inl h0
  · exact .inr ⟨g, cap, cur, rfl, hge, (hg.block g (Array.getElem?_eq_some_iff.1 hheap).1 (by simp [Value.ownBlock])).trans hheap, hrest⟩

theorem own_again {w w' : World} {base g : Nat} {s : SL} {l : List ByteArray} (h : w.ownsRow base 9 1 (.slice s.A s.l.length s.c) l.length (l.map Value.string)) (e : s.l = l)
    (hk : w.ownsRow base 9 1 (.slice s.A s.l.length s.c) l.length (l.map Value.string) → ((Value.slice s.A s.l.length s.c).ownBlock ≠ some g ∨ (Value.slice s.A s.l.length s.c).ownBlock = none) → w'.ownsRow base 9 1 (.slice s.A s.l.length s.c) l.length (l.map Value.string)) (hb : g < base) : w'.ownsRow base 9 1 (.slice s.A s.l.length s.c) s.l.length (s.l.map Value.string) := by
  have hr : (Value.slice s.A s.l.length s.c).ownBlock ≠ some g ∨ (Value.slice s.A s.l.length s.c).ownBlock = none := by
    by_cases hv : (Value.slice s.A s.l.length s.c).ownBlock = none
    · exact .inr hv
    · refine .inl fun e => ?_
      have := (own_lt h e).1
      omega
  have h2 := hk h hr
  rw [← e] at h2
  exact h2
theorem sl_in {w : World} {base : Nat} {s : SL} (h : w.ownsRow base 9 1 (.slice s.A s.l.length s.c) s.l.length (s.l.map Value.string)) (hm : ∀ x ∈ s.l, x.size ≤ maxLen) : s.In w.heap.size w := by
  obtain ⟨A, c, l'⟩ := s
  dsimp only at *
  obtain ⟨s, hv, hl, hin⟩ := sl_of_owns h hm
  obtain ⟨A', c', l''⟩ := s
  dsimp only at hv hl hin
  subst hl
  injection hv with h1 h2 h3
  subst h1 h3
  exact hin
theorem owns_lo {w : World} {base base' : Nat} {e : TypeId} {size n : Nat} {v : Value} {xs : List Value} (h : w.ownsRow base e size v n xs) (hl : base' ≤ base) : w.ownsRow base' e size v n xs := by
  refine ⟨h.1, ?_⟩
  rcases h.2 with h0 | ⟨g, cap, cur, rfl, hge, hrest⟩
  · exact .inl h0
  · exact .inr ⟨g, cap, cur, rfl, Nat.le_trans hl hge, hrest⟩
/-- A []string of the call's own. -/
def OwnSL (base : Nat) (W : World) (s : SL) (l : List ByteArray) : Prop := W.ownsRow base 9 1 (.slice s.A s.l.length s.c) s.l.length (s.l.map Value.string) ∧ s.l = l
/-- COPIED NAMES: new rows, the same names. -/
def OwnNM (base : Nat) (W : World) (m n : NM) : Prop := OwnSL base W m.C n.C.l ∧ OwnSL base W m.R n.R.l ∧ OwnSL base W m.I n.I.l
theorem OwnNM.In {base B : Nat} {W w : World} {m n : NM} (h : OwnNM base W m n) (hn : n.In B w) : m.In W.heap.size W :=
  ⟨sl_in h.1.1 (by rw [h.1.2]; exact hn.1.2.2.2.2), sl_in h.2.1.1 (by rw [h.2.1.2]; exact hn.2.1.2.2.2.2), sl_in h.2.2.1 (by rw [h.2.2.2]; exact hn.2.2.2.2.2.2)⟩

set_option maxRecDepth 100000 in
set_option maxHeartbeats 4000000 in
theorem CopyNames_any (n : NM) (w : World) (hn : n.In w.heap.size w) (hl : n.C.l.length ≤ 1000 ∧ n.R.l.length ≤ 1000 ∧ n.I.l.length ≤ 1000) :
    Calls Tryz.prog 85 #[n.val] w fun e w' => ∃ m : NM, e = .returned m.val ∧ OwnNM w.heap.size w' m n ∧ Below w.heap.size w w' := by
  obtain ⟨i0, hi, hz0, hz1, hz2⟩ := info_parts str_info
  obtain ⟨W1, hW1, hB1, hs1, hblk1⟩ := newBlk w _ rfl #[.slice n.C.A n.C.l.length n.C.c, .slice n.R.A n.R.l.length n.R.c, .slice n.I.A n.I.l.length n.I.c] 24
  obtain ⟨W2, hW2, hB2, hs2, hblk2⟩ := newBlk W1 _ hs1 #[.slice none 0 0, .slice none 0 0, .slice none 0 0] 24
  have hB : Below w.heap.size w W2 := hB1.trans (hB2.mono (by omega))
  have hblk12 := (hB2.block w.heap.size (by omega)).trans hblk1
  have hcell : ∀ w', Below W2.heap.size W2 w' → (w'.cell? ⟨w.heap.size, 0, none⟩ = some (.slice n.C.A n.C.l.length n.C.c) ∧ w'.cell? ⟨w.heap.size, 1, none⟩ = some (.slice n.R.A n.R.l.length n.R.c) ∧ w'.cell? ⟨w.heap.size, 2, none⟩ = some (.slice n.I.A n.I.l.length n.I.c)) := fun w' hb =>
    have h := (hb.block w.heap.size (by omega)).trans hblk12
    ⟨cell_of_blk h 0, cell_of_blk h 1, cell_of_blk h 2⟩
  have hrow : ∀ w', Below W2.heap.size W2 w' → RowAt w' w.heap.size 1 n.C.A n.C.l.length (n.C.l.map Value.string) ∧ RowAt w' w.heap.size 1 n.R.A n.R.l.length (n.R.l.map Value.string) ∧ RowAt w' w.heap.size 1 n.I.A n.I.l.length (n.I.l.map Value.string) := fun w' hb =>
    have h := hB.trans (hb.mono (by omega))
    ⟨hn.1.2.2.2.1.below (Nat.le_refl _) h, hn.2.1.2.2.2.1.below (Nat.le_refl _) h, hn.2.2.2.2.2.1.below (Nat.le_refl _) h⟩
  have hone : ∀ l : List ByteArray, ∀ u ∈ l.map Value.string, u.oneCell' = true := fun l u hu => by
    obtain ⟨x, _, rfl⟩ := List.mem_map.1 hu
    rfl
  have hnil : ∀ W : World, W.ownsRow W2.heap.size 9 1 (.slice none 0 0) 0 [] := fun W => ⟨rfl, .inl ⟨rfl, rfl⟩⟩
  have hd : Below W2.heap.size W2 W2.drew := (Below.refl _ _).drew
  obtain ⟨l1, l2, l3⟩ := hl
  have a1 := hn.1.2.2.1
  have a2 := hn.2.1.2.2.1
  have a3 := hn.2.2.2.2.1
  have m1 := hn.1.2.2.2.2
  have m2 := hn.2.1.2.2.2.2
  have m3 := hn.2.2.2.2.2.2
  have HB := Lib.hid hB
  simp only [NM.val]
  clear hn hB hB1 hB2
  go_enter Tryz.func85, Tryz.ntmps85
  go_wp2_with fail
  go_region_held_law (fun w' => w'.cell? ⟨w.heap.size, 0, none⟩ = some (.slice n.C.A n.C.l.length n.C.c) ∧ w'.cell? ⟨w.heap.size, 1, none⟩ = some (.slice n.R.A n.R.l.length n.R.c) ∧ w'.cell? ⟨w.heap.size, 2, none⟩ = some (.slice n.I.A n.I.l.length n.I.c))
    (first | exact hcell _ hb3 | exact hcell _ hb2 | exact hcell _ hb1 | exact hcell _ hd | go_keep)
    (first
      | (refine step_append_row w2 (by rfl) _ _ _ (by rfl) W2.heap.size 9 i0 _ 1 16 Tryz.underlying22 hi hz0 hz1 hz2 rfl (by omega) (.slice none 0 0) 0 [] (by rfl) (hnil _) w.heap.size n.I.A n.I.l.length n.I.c _ (by rfl) a3 (hrow _ hb2).2.2 (hone _) (by unfold maxLen; omega) (by omega) hb2.size ?_; intro v3 w3 hown3 hg3 hat3; rw [Nat.zero_add, List.nil_append] at hown3; obtain ⟨s3, rfl, e3', i3⟩ := sl_of_owns hown3 m3; have e3 := Lib.hid e3'; clear e3'; have hb3 : Below W2.heap.size W2 w3 := below_row (v' := .slice none 0 0) hb2 (Nat.le_refl _) hg3 rfl; have hk3 := (hb3.block (w.heap.size + 1) (by omega)).trans hblk2; have r0 := cell_of_blk hk3 0; have r1 := cell_of_blk hk3 1; have r2 := cell_of_blk hk3 2; have f0 := frozen_of_blk hk3 0; have f1 := frozen_of_blk hk3 1; have f2 := frozen_of_blk hk3 2; simp only [List.getElem?_toArray, List.getElem?_cons_zero, List.getElem?_cons_succ] at r0 r1 r2)
      | (refine step_append_row w1 (by rfl) _ _ _ (by rfl) W2.heap.size 9 i0 _ 1 16 Tryz.underlying22 hi hz0 hz1 hz2 rfl (by omega) (.slice none 0 0) 0 [] (by rfl) (hnil _) w.heap.size n.R.A n.R.l.length n.R.c _ (by rfl) a2 (hrow _ hb1).2.1 (hone _) (by unfold maxLen; omega) (by omega) hb1.size ?_; intro v2 w2 hown2 hg2 hat2; rw [Nat.zero_add, List.nil_append] at hown2; obtain ⟨s2, rfl, e2', i2⟩ := sl_of_owns hown2 m2; have e2 := Lib.hid e2'; clear e2'; have hb2 : Below W2.heap.size W2 w2 := below_row (v' := .slice none 0 0) hb1 (Nat.le_refl _) hg2 rfl)
      | (refine step_append_row W2.drew (by rfl) _ _ _ (by rfl) W2.heap.size 9 i0 _ 1 16 Tryz.underlying22 hi hz0 hz1 hz2 rfl (by omega) (.slice none 0 0) 0 [] (by rfl) (hnil _) w.heap.size n.C.A n.C.l.length n.C.c _ (by rfl) a1 (hrow _ hd).1 (hone _) (by unfold maxLen; omega) (by omega) hd.size ?_; intro v1 w1 hown1 hg1 hat1; rw [Nat.zero_add, List.nil_append] at hown1; obtain ⟨s1, rfl, e1', i1⟩ := sl_of_owns hown1 m1; have e1 := Lib.hid e1'; clear e1'; have hb1 : Below W2.heap.size W2 w1 := below_row (v' := .slice none 0 0) hd (Nat.le_refl _) hg1 rfl))
  obtain ⟨q1, q2⟩ := store3 hk3 (.slice s1.A s1.l.length s1.c) (.slice s2.A s2.l.length s2.c) (.slice s3.A s3.l.length s3.c)
  have j1 := own_again hown1 e1.out (fun h hr => owns_grown (owns_kept0 (owns_kept0 h hg2) hg3) q2 hr) (by omega)
  have j2 := own_again hown2 e2.out (fun h hr => owns_grown (owns_kept0 h hg3) q2 hr) (by omega)
  have j3 := own_again hown3 e3.out (fun h hr => owns_grown h q2 hr) (by omega)
  have HE := Lib.hid (hb3.mono (B' := w.heap.size) (by omega) |>.trans (below_grown q2 (by omega) (by have := hb3.size; omega)))
  generalize ((w3.setCell ⟨w.heap.size + 1, 0, none⟩ (.slice s1.A s1.l.length s1.c)).setCell ⟨w.heap.size + 1, 1, none⟩ (.slice s2.A s2.l.length s2.c)).setCell ⟨w.heap.size + 1, 2, none⟩ (.slice s3.A s3.l.length s3.c) = w4 at q1 j1 j2 j3 HE ⊢
  have t0 := cell_of_blk q1 0
  have t1 := cell_of_blk q1 1
  have t2 := cell_of_blk q1 2
  simp only [List.getElem?_toArray, List.getElem?_cons_zero, List.getElem?_cons_succ] at t0 t1 t2
  go_wp2
  refine bodyPost_ret (v := .agg #[.slice s1.A s1.l.length s1.c, .slice s2.A s2.l.length s2.c, .slice s3.A s3.l.length s3.c]) (by simp [results, Tryz.f85, go_sem, t0, t1, t2]) rfl ⟨⟨s1, s2, s3⟩, rfl, ⟨⟨owns_lo j1 (by omega), e1.out⟩, ⟨owns_lo j2 (by omega), e2.out⟩, ⟨owns_lo j3 (by omega), e3.out⟩⟩, HB.out.trans HE.out⟩
end Go.Proofs.YtndkcimajeofcaaGreatDoor
namespace Go.Proofs.YtndkcimajeofcaaGreatDoor
open Go.RowKit

set_option maxRecDepth 100000 in
set_option maxHeartbeats 2000000 in
theorem sameStrings_any (s1 s2 : SL) (w : World) (h1 : s1.In w.heap.size w) (h2 : s2.In w.heap.size w) (he : s1.l = s2.l) :
    Calls Tryz.prog 123 #[.slice s1.A s1.l.length s1.c, .slice s2.A s2.l.length s2.c] w fun e w' => e = .returned (.bool true) ∧ Below w.heap.size w w' := by
  obtain ⟨A1, c1, l1⟩ := s1
  obtain ⟨A2, c2, l2⟩ := s2
  dsimp only at he
  subst he
  have hc1 := fun h => SL.In.cells h1 h
  have hc2 := fun h => SL.In.cells h2 h
  have hll : l1.length ≤ 9223372036854775807 := Nat.le_trans h1.1 h1.2.1
  dsimp only at hc1 hc2 ⊢
  have hne : ((l1.length : Int) != (l1.length : Int)) = false := by simp
  clear h1 h2
  go_enter Tryz.func123, Tryz.ntmps123
  go_wp2_with fail
  go_loopw [13] (fun i wr => ∃ k : Nat, k ≤ l1.length ∧ i = .int .i64 k ∧ Below w.heap.size w wr) (fun i _ => l1.length - (intOf i).toNat)
  case atStart => exact ⟨0, Nat.zero_le _, rfl, Below.refl _ w⟩
  case round =>
    obtain ⟨k, hk, rfl, hbw⟩ := hrel
    by_cases hlt : k < l1.length
    · obtain ⟨g1, o1, rfl, hg1, d1⟩ := hc1 (by omega)
      obtain ⟨g2, o2, rfl, hg2, d2⟩ := hc2 (by omega)
      have e1 := (hbw.drew.cell (p := ⟨g1, o1 + k, none⟩) hg1).trans (d1 k hlt)
      have e2 := (hbw.drew.cell (p := ⟨g2, o2 + k, none⟩) hg2).trans (d2 k hlt)
      clear d1 d2 hc1 hc2
      generalize l1.getD k ByteArray.empty = z at e1 e2
      have hzz : (z.toList != z.toList) = false := by simp
      have h0I : (0 : Int) ≤ k := by omega
      have hlI : (k : Int) < l1.length := by omega
      go_wp2_with fail
      go_region_held (fun w' => w'.cell? ⟨g1, o1 + k, none⟩ = some (.string z) ∧ w'.cell? ⟨g2, o2 + k, none⟩ = some (.string z)) (exact ⟨e1, e2⟩) (fail)
      go_wp2
      go_roundw
      case rel => exact ⟨k + 1, by omega, by go_num, hbw.drew⟩
      case measure => simp [intOf]; omega
    · go_wp2
      go_ret
      exact ⟨rfl, hbw⟩

set_option maxRecDepth 100000 in
set_option maxHeartbeats 2000000 in
theorem SameNames_any (m n : NM) (w : World) (hm : m.In w.heap.size w) (hn : n.In w.heap.size w) (e1 : m.C.l = n.C.l) (e2 : m.R.l = n.R.l) (e3 : m.I.l = n.I.l) :
    Calls Tryz.prog 86 #[m.val, n.val] w fun e w' => e = .returned (.bool true) ∧ Below w.heap.size w w' := by
  obtain ⟨W1, hW1, hB1, hs1, hblk1⟩ := newBlk w _ rfl #[.slice m.C.A m.C.l.length m.C.c, .slice m.R.A m.R.l.length m.R.c, .slice m.I.A m.I.l.length m.I.c] 24
  obtain ⟨W2, hW2, hB2, hs2, hblk2⟩ := newBlk W1 _ hs1 #[.slice n.C.A n.C.l.length n.C.c, .slice n.R.A n.R.l.length n.R.c, .slice n.I.A n.I.l.length n.I.c] 24
  have hB : Below w.heap.size w W2 := hB1.trans (hB2.mono (by omega))
  have hblk12 := (hB2.block w.heap.size (by omega)).trans hblk1
  have hcell : ∀ w', Below W2.heap.size W2 w' → (w'.cell? ⟨w.heap.size, 0, none⟩ = some (.slice m.C.A m.C.l.length m.C.c) ∧ w'.cell? ⟨w.heap.size, 1, none⟩ = some (.slice m.R.A m.R.l.length m.R.c) ∧ w'.cell? ⟨w.heap.size, 2, none⟩ = some (.slice m.I.A m.I.l.length m.I.c)) ∧ (w'.cell? ⟨w.heap.size + 1, 0, none⟩ = some (.slice n.C.A n.C.l.length n.C.c) ∧ w'.cell? ⟨w.heap.size + 1, 1, none⟩ = some (.slice n.R.A n.R.l.length n.R.c) ∧ w'.cell? ⟨w.heap.size + 1, 2, none⟩ = some (.slice n.I.A n.I.l.length n.I.c)) := fun w' hb =>
    have h := (hb.block w.heap.size (by omega)).trans hblk12
    have h' := (hb.block (w.heap.size + 1) (by omega)).trans hblk2
    ⟨⟨cell_of_blk h 0, cell_of_blk h 1, cell_of_blk h 2⟩, cell_of_blk h' 0, cell_of_blk h' 1, cell_of_blk h' 2⟩
  have hs : ∀ (a b : SL) (w' : World), a.In w.heap.size w → b.In w.heap.size w → a.l = b.l → Below W2.heap.size W2 w' → Calls Tryz.prog 123 #[.slice a.A a.l.length a.c, .slice b.A b.l.length b.c] w' fun e w'' => e = .returned (.bool true) ∧ Below w'.heap.size w' w'' := fun a b w' ha hb' he hb =>
    have h := hB.trans (hb.mono (by omega))
    sameStrings_any a b w' (ha.below h.size h) (hb'.below h.size h) he
  have h0 := hcell W2 (Below.refl _ _)
  obtain ⟨⟨a0, a1, a2⟩, b0, b1, b2⟩ := h0
  have HB := Lib.hid hB
  simp only [NM.val]
  have E1 := Lib.hid e1
  have E2 := Lib.hid e2
  have E3 := Lib.hid e3
  have HM := Lib.hid hm
  have HN := Lib.hid hn
  clear hB hB1 hB2 hblk1 hblk2 hblk12 e1 e2 e3 hm hn
  go_enter Tryz.func86, Tryz.ntmps86
  go_wp2_with (go_at_call 123; first
    | (refine (hs m.I n.I w4 HM.out.2.2 HN.out.2.2 E3.out hb4).mono ?_; rintro e w5 ⟨rfl, hb5'⟩; have hb5 := hb4.trans (hb5'.mono hb4.size))
    | (refine (hs m.R n.R w3 HM.out.2.1 HN.out.2.1 E2.out hb3).mono ?_; rintro e w4 ⟨rfl, hb4'⟩; have hb4 := hb3.trans (hb4'.mono hb3.size); obtain ⟨⟨c0, c1, c2⟩, d0, d1, d2⟩ := hcell w4 hb4)
    | (refine (hs m.C n.C W2 HM.out.1 HN.out.1 E1.out (Below.refl _ _)).mono ?_; rintro e w3 ⟨rfl, hb3⟩; obtain ⟨⟨c0, c1, c2⟩, d0, d1, d2⟩ := hcell w3 hb3))
  go_ret
  exact ⟨rfl, HB.out.trans (hb5.mono (by omega))⟩
end Go.Proofs.YtndkcimajeofcaaGreatDoor
namespace Go.Proofs.YtndkcimajeofcaaGreatDoor
open Go.RowKit

/-- WHAT A CHANGE KEEPS: every block below lo; and in every block each cell that holds no int. An int stays an int. -/
structure Chg (lo : Nat) (w w' : World) : Prop where
  below : Below lo w w'
  same : ∀ (b : Nat) (cs : Array Value) (t : TypeId), w.heap[b]? = some (.cells cs t) → ∃ cs', w'.heap[b]? = some (.cells cs' t) ∧ ∀ i : Nat, cs'[i]? = cs[i]? ∨ ∃ x y, cs[i]? = some (.int .i64 x) ∧ cs'[i]? = some (.int .i64 y)

theorem Chg.refl (lo : Nat) (w : World) : Chg lo w w := ⟨Below.refl _ _, fun _ cs _ h => ⟨cs, h, fun _ => .inl rfl⟩⟩
theorem Chg.trans {lo : Nat} {a b c : World} (h : Chg lo a b) (k : Chg lo b c) : Chg lo a c := by
  refine ⟨h.below.trans k.below, fun g cs t hg => ?_⟩
  obtain ⟨cs1, h1, e1⟩ := h.same g cs t hg
  obtain ⟨cs2, h2, e2⟩ := k.same g cs1 t h1
  refine ⟨cs2, h2, fun i => ?_⟩
  rcases e1 i with p | ⟨x, y, p, q⟩
  · rcases e2 i with p' | ⟨x', y', p', q'⟩
    · exact .inl (p'.trans p)
    · exact .inr ⟨x', y', by rw [← p]; exact p', q'⟩
  · rcases e2 i with p' | ⟨x', y', p', q'⟩
    · exact .inr ⟨x, y, p, p'.trans q⟩
    · exact .inr ⟨x, y', p, q'⟩
theorem Chg.mono {lo lo' : Nat} {a b : World} (h : Chg lo a b) (hl : lo' ≤ lo) : Chg lo' a b := ⟨h.below.mono hl, h.same⟩
theorem Chg.drew {lo : Nat} {a b : World} (h : Chg lo a b) : Chg lo a b.drew := ⟨h.below.drew, h.same⟩
theorem Chg.set {lo b off : Nat} {w : World} {cs : Array Value} {t : TypeId} {x y : Int} (hl : lo ≤ b) (hb : w.heap[b]? = some (.cells cs t)) (hx : cs[off]? = some (.int .i64 x)) : Chg lo w (w.setCell ⟨b, off, none⟩ (.int .i64 y)) := by
  refine ⟨(Below.refl _ _).setCell (p := ⟨b, off, none⟩) hl _, fun g cs' t' hg => ?_⟩
  by_cases e : g = b
  · subst e
    rw [hb] at hg
    cases hg
    refine ⟨_, blk_set hb off _, fun i => ?_⟩
    by_cases ei : i = off
    · subst ei
      have hlt : i < cs.size := (Array.getElem?_eq_some_iff.1 hx).1
      exact .inr ⟨x, y, hx, by simp [hlt]⟩
    · exact .inl (by rw [Array.getElem?_setIfInBounds_ne (Ne.symm ei)])
  · exact ⟨cs', (Below.heap_setCell w ⟨b, off, none⟩ _ g e).trans hg, fun _ => .inl rfl⟩

mutual
/-- THE TREE'S SKELETON: its rows are the call's own (from lo on), each node with two ints and its Args as they are meant. -/
def Sk (lo : Nat) (w : World) : MT → Prop
  | .mk _ _ A c args => args.length ≤ c ∧ c ≤ 9223372036854775807 ∧ (args.length ≠ 0 → ∃ b off cs, A = some ⟨b, off, none⟩ ∧ lo ≤ b ∧ w.heap[b]? = some (.cells cs 33) ∧
      ∀ (k : Nat) (hk : k < args.length), (∃ x, cs[off + k * 3]? = some (.int .i64 x)) ∧ (∃ y, cs[off + k * 3 + 1]? = some (.int .i64 y)) ∧ cs[off + k * 3 + 2]? = some (.slice args[k].A args[k].args.length args[k].c)) ∧ Sks lo w args
def Sks (lo : Nat) (w : World) : List MT → Prop
  | [] => True
  | t :: ts => Sk lo w t ∧ Sks lo w ts
end
theorem Sks.at_ {lo : Nat} {w : World} : ∀ {ts : List MT}, Sks lo w ts → ∀ (k : Nat) (hk : k < ts.length), Sk lo w ts[k]
  | [], _, k, hk => absurd hk (Nat.not_lt_zero _)
  | t :: ts, h, k, hk => by
    rw [Sks] at h
    cases k with
    | zero => exact h.1
    | succ k => exact Sks.at_ h.2 k (by simpa using hk)
theorem sk_of_new {lo : Nat} {w : World} : ∀ T : MT, New lo w T → Sk lo w T :=
  fun T => MT.rec (motive_1 := fun T => T.In w.heap.size w ∧ Mine lo w T → Sk lo w T) (motive_2 := fun l => MT.InAll w.heap.size w l ∧ MT.Alls (fun b => lo ≤ b ∧ ∃ cur, w.heap[b]? = some (.cells cur 33)) l → Sks lo w l)
    (fun op n A c args ih h => by
      obtain ⟨hi, hm⟩ := h
      rw [MT.In] at hi
      rw [Mine, MT.All] at hm
      rw [Sk]
      refine ⟨hi.1, hi.2.1, fun hn => ?_, ih ⟨hi.2.2.2, hm.2⟩⟩
      obtain ⟨b, off, rfl, hlo, cur, hcur⟩ := hm.1 hn
      refine ⟨b, off, cur, rfl, hlo, hcur, fun k hk => ?_⟩
      obtain ⟨b', off', he, -, g0, g1, g2⟩ := elem3 hi.2.2.1 (Below.refl _ w) hk
      cases he
      rw [cell_of_blk hcur] at g0 g1 g2
      exact ⟨⟨_, g0⟩, ⟨_, g1⟩, g2⟩)
    (fun _ => by rw [Sks]; trivial)
    (fun t ts h1 h2 h => by
      rw [MT.InAll, MT.Alls] at h
      rw [Sks]
      exact ⟨h1 ⟨h.1.1, h.2.1⟩, h2 ⟨h.1.2, h.2.2⟩⟩) T
theorem Sk.chg {lo lo' : Nat} {w w' : World} (h : Chg lo' w w') : ∀ T : MT, Sk lo w T → Sk lo w' T :=
  fun T => MT.rec (motive_1 := fun T => Sk lo w T → Sk lo w' T) (motive_2 := fun l => Sks lo w l → Sks lo w' l)
    (fun op n A c args ih k => by
      rw [Sk] at k ⊢
      refine ⟨k.1, k.2.1, fun hn => ?_, ih k.2.2.2⟩
      obtain ⟨b, off, cs, hA, hlo, hb, hc⟩ := k.2.2.1 hn
      obtain ⟨cs', hb', he⟩ := h.same b cs _ hb
      refine ⟨b, off, cs', hA, hlo, hb', fun j hj => ?_⟩
      obtain ⟨⟨x, hx⟩, ⟨y, hy⟩, hz⟩ := hc j hj
      refine ⟨?_, ?_, ?_⟩
      · rcases he (off + j * 3) with e | ⟨_, z, _, e⟩
        · exact ⟨x, e.trans hx⟩
        · exact ⟨z, e⟩
      · rcases he (off + j * 3 + 1) with e | ⟨_, z, _, e⟩
        · exact ⟨y, e.trans hy⟩
        · exact ⟨z, e⟩
      · rcases he (off + j * 3 + 2) with e | ⟨_, z, e, _⟩
        · exact e.trans hz
        · rw [hz] at e; cases e)
    (fun _ => by rw [Sks]; trivial)
    (fun t ts h1 h2 k => by rw [Sks] at k ⊢; exact ⟨h1 k.1, h2 k.2⟩) T

end Go.Proofs.YtndkcimajeofcaaGreatDoor
