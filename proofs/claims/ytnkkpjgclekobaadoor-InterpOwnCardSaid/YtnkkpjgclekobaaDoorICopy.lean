import Derived.Test.YtnkkpjgclekobaaDoorChange
import Derived.Deep.DrawnRows
import Derived.Test.YtnkkpjgclekobaaDoorHeld
namespace Go.Proofs.YtnkkpjgclekobaaDoor
open Go.RowKit
attribute [local go_sem ↓] Go.wp_at_zero Go.wp_at_succ

/-- Nil slices have no capacity. -/
structure IN.NilOk (i : IN) : Prop where
  c : ∀ s ∈ i.C, s.A = none → s.c = 0
  r : ∀ s ∈ i.R, s.A = none → s.c = 0
  i : i.I.A = none → i.I.c = 0
theorem grown_new {w w3 : World} {o : Obj} (hg : ((w.alloc o).drew).grownBy w3 (Value.ownBlock (.slice none 0 0))) : w3.heap[w.heap.size]? = some o :=
  (hg.block w.heap.size (by show w.heap.size < (w.heap.push o).size; simp) (by simp [Value.ownBlock])).trans (World.alloc_heap_new' w o)
theorem icell_one (l : List Int) : ∀ u ∈ l.map icell, u.oneCell' = true := fun u hu => by
  obtain ⟨x, _, rfl⟩ := List.mem_map.1 hu
  rfl
theorem int_infoC : (Tryd.prog.info? 3).map (fun i => (i.zero, i.size, i.bytes)) = some (some (.int .i64 0), 1, 8) := by kernel_rfl
theorem ints_infoC : (Tryd.prog.info? 40).map (fun i => (i.zero, i.size, i.bytes)) = some (some (.slice none 0 0), 1, 24) := by kernel_rfl
theorem pairs_infoC : (Tryd.prog.info? 65).map (fun i => (i.zero, i.size, i.bytes)) = some (some (.slice none 0 0), 1, 24) := by kernel_rfl
def sval (s : IL) : List Value := [s.val]
def pval (s : PL) : List Value := [s.val]
/-- A copied row of ints. -/
def ilI (s : IL) (w : World) : Prop := s.In w.heap.size w
def plI (s : PL) (w : World) : Prop := s.In w.heap.size w

theorem sval_map : ∀ l : List IL, l.flatMap sval = l.map IL.val
  | [] => rfl
  | z :: zs => by rw [List.flatMap_cons, List.map_cons, sval_map zs]; rfl
theorem pval_map : ∀ l : List PL, l.flatMap pval = l.map PL.val
  | [] => rfl
  | z :: zs => by rw [List.flatMap_cons, List.map_cons, pval_map zs]; rfl
theorem pcell_one (l : List (Int × Int)) : ∀ u ∈ l.flatMap pcells, u.oneCell' = true := fun u hu => by
  obtain ⟨x, _, hu⟩ := List.mem_flatMap.1 hu
  simp only [pcells, List.mem_cons, List.not_mem_nil, or_false] at hu
  rcases hu with rfl | rfl <;> rfl
/-- The call hands back a copy that hangs on new blocks alone. -/
def RetCopyI (i : IN) (w : World) (e : Ending) (w' : World) : Prop := ∃ j : IN, e = .returned j.val ∧ EqI j i ∧ Held w.heap.size w'.heap.size w' (fun w2 => j.In w2.heap.size w2) ∧ Below w.heap.size w w'
set_option maxRecDepth 100000 in
set_option maxHeartbeats 8000000 in
theorem iCopy_any (i : IN) (w : World) (hi : i.In w.heap.size w) (hn : i.NilOk) (hI : i.I.l.length ≤ 1000) (hC : i.C.length ≤ 1000) (hR : i.R.length ≤ 1000) (hCs : ∀ s ∈ i.C, s.l.length * 8 ≤ 140737488355328) (hRs : ∀ s ∈ i.R, s.l.length * 16 ≤ 140737488355328) :
    Calls Tryd.prog 24 #[i.val] w (RetCopyI i w) := by
  obtain ⟨W1, hW1, hB1, hs1, hk1⟩ := newBlk w _ rfl #[.int .i64 i.size, .slice i.CA i.C.length i.cc, .slice i.RA i.R.length i.rc, .slice i.I.A i.I.l.length i.I.c] 58
  obtain ⟨W2, hW2, hB2, hs2, hk2⟩ := newBlk W1 _ hs1 #[.int .i64 0, .slice none 0 0, .slice none 0 0, .slice none 0 0] 58
  have hB : Below w.heap.size w W2 := hB1.trans (hB2.mono (by omega))
  have hkk1 := (hB2.block w.heap.size (by omega)).trans hk1
  have hS : ∀ w', Below W2.heap.size W2 w' → w'.cell? ⟨w.heap.size, 0, none⟩ = some (.int .i64 i.size) ∧ w'.cell? ⟨w.heap.size, 1, none⟩ = some (.slice i.CA i.C.length i.cc) ∧ w'.cell? ⟨w.heap.size, 2, none⟩ = some (.slice i.RA i.R.length i.rc) ∧ w'.cell? ⟨w.heap.size, 3, none⟩ = some (.slice i.I.A i.I.l.length i.I.c) := fun w' h => ⟨cell_of_blk (blk_lat hkk1 h) 0, cell_of_blk (blk_lat hkk1 h) 1, cell_of_blk (blk_lat hkk1 h) 2, cell_of_blk (blk_lat hkk1 h) 3⟩
  have hrow := fun w' (h : Below W2.heap.size W2 w') => ((hi.later hB).later h).i1.2.2
  have HIL := Lib.hid (show ∀ w', Below W2.heap.size W2 w' → i.In w'.heap.size w' from fun w' h => (hi.later hB).later h)
  have hnil : ∀ (W : World) (lo : Nat), W.ownsRow lo 3 1 (.slice none 0 0) 0 [] := fun W lo => ⟨rfl, .inl ⟨rfl, rfl⟩⟩
  have hnilP : ∀ (W : World) (lo : Nat), W.ownsRow lo 68 2 (.slice none 0 0) 0 [] := fun W lo => ⟨rfl, .inl ⟨rfl, rfl⟩⟩
  have hd : Below W2.heap.size W2 W2.drew := (Below.refl _ _).drew
  have hni := hn.i
  obtain ⟨i0, hi0, hz0, hz1, hz2⟩ := info_parts int_infoC
  have HN := Lib.hid hn
  have HB := Lib.hid hB
  have HS := Lib.hid hS
  have HK2 := Lib.hid hk2
  have HR := Lib.hid hrow
  simp only [IN.val]
  clear hi hn hB hB1 hB2 hk1 hk2 hkk1 hS hrow
  have HS2 := Lib.hid hs2
  clear hs2
  go_enter Tryd.func24, Tryd.ntmps24
  go_wp2_with fail
  go_region_held_law (fun w' => w'.cell? ⟨w.heap.size, 0, none⟩ = some (.int .i64 i.size) ∧ w'.cell? ⟨w.heap.size, 1, none⟩ = some (.slice i.CA i.C.length i.cc) ∧ w'.cell? ⟨w.heap.size, 2, none⟩ = some (.slice i.RA i.R.length i.rc) ∧ w'.cell? ⟨w.heap.size, 3, none⟩ = some (.slice i.I.A i.I.l.length i.I.c))
    (first | exact HS.out _ hd | exact HS.out _ hb3 | exact HS.out _ (hb3.alloc hb3.size _) | exact HS.out _ (hd.alloc hd.size _) | exact HS.out _ (hb3.alloc hb3.size _).drew | exact HS.out _ ((((hb3.setCell (by simp) _).setCell (by simp) _).setCell (by simp) _).setCell (by simp) _) | go_keep)
    (first
      | (refine step_append_row _ (by rfl) _ _ _ (by rfl) (W2.heap.size + 1) 3 i0 _ 1 8 Tryd.underlying40 hi0 hz0 hz1 hz2 rfl (by omega) (.slice none 0 0) 0 [] (by rfl) (hnil _ _) _ i.I.A i.I.l.length i.I.c _ (by rfl) hni (HR.out _ (hd.alloc hd.size _)) (icell_one _) (by unfold maxLen; omega) (by omega) (by simp) ?_; intro v3 w3 hown3 hg3 hat3; rw [Nat.zero_add, List.nil_append] at hown3; obtain ⟨A3, k3, hv3, hln3, hcp3, hh3⟩ := held_row hown3; subst hv3; have HH3 := Lib.hid hh3; have hb3 : Below W2.heap.size W2 w3 := below_row (v' := .slice none 0 0) (hd.alloc hd.size _) (Nat.le_refl _) hg3 rfl; have hk3 : w3.heap[W2.heap.size]? = some (.cells #[.int .i64 0, .slice none 0 0, .slice none 0 0, .slice none 0 0] 58) := grown_new (w := W2) hg3; have HK3 := Lib.hid hk3; have r0 := cell_of_blk hk3 0; have r1 := cell_of_blk hk3 1; have r2 := cell_of_blk hk3 2; have r3 := cell_of_blk hk3 3; have t0 := frozen_of_blk hk3 0; have t1 := frozen_of_blk hk3 1; have t2 := frozen_of_blk hk3 2; have t3 := frozen_of_blk hk3 3; simp only [List.getElem?_toArray, List.getElem?_cons_zero, List.getElem?_cons_succ] at r0 r1 r2 r3; clear hown3 hh3 hat3 hk3)
      | (refine step_append_row _ (by rfl) _ _ _ (by rfl) W2.heap.size 3 i0 _ 1 8 Tryd.underlying40 hi0 hz0 hz1 hz2 rfl (by omega) (.slice none 0 0) 0 [] (by rfl) (hnil _ _) _ i.I.A i.I.l.length i.I.c _ (by rfl) hni (HR.out _ hd) (icell_one _) (by unfold maxLen; omega) (by omega) hd.size ?_; intro v3 w3 hown3 hg3 hat3; rw [Nat.zero_add, List.nil_append] at hown3; obtain ⟨A3, k3, hv3, hln3, hcp3, hh3⟩ := held_row hown3; subst hv3; have HH3 := Lib.hid hh3; have hb3 : Below W2.heap.size W2 w3 := below_row (v' := .slice none 0 0) hd (Nat.le_refl _) hg3 rfl; clear hown3 hh3 hat3))
  all_goals first
    | (have hK3 := HK3.out; obtain ⟨s1, s2⟩ := store4 hK3 (.int .i64 i.size) (.slice none 0 0) (.slice none 0 0) (.slice A3 i.I.l.length k3); generalize ((((w3.setCell ⟨W2.heap.size, 0, none⟩ (.int .i64 i.size)).setCell ⟨W2.heap.size, 1, none⟩ (.slice none 0 0)).setCell ⟨W2.heap.size, 2, none⟩ (.slice none 0 0)).setCell ⟨W2.heap.size, 3, none⟩ (.slice A3 i.I.l.length k3)) = w4 at s1 s2 ⊢; have hkD := s1; have hHI : ∃ lo hi, W2.heap.size ≤ lo ∧ (W2.heap.size < lo ∨ hi ≤ W2.heap.size) ∧ Held lo hi w4 (fun w' => RowAt w' w'.heap.size 1 A3 i.I.l.length (i.I.l.map icell)) := ⟨_, _, Nat.le_succ _, .inl (Nat.lt_succ_self _), HH3.out.grown s2 (fun g e => by cases e; exact .inl (Nat.lt_succ_self _))⟩; have hb4 : Below W2.heap.size W2 w4 := hb3.trans ((below_grown s2 (Nat.le_refl _) hb3.size)); clear s1 s2 hK3 HK3 r0 r1 r2 r3 t0 t1 t2 t3 hb3 HH3 hg3; obtain ⟨D, hDe⟩ : ∃ D, W2.heap.size = D := ⟨_, rfl⟩; have hDlo : W2.heap.size ≤ D := Nat.le_of_eq hDe; rw [hDe] at hkD hHI ⊢; clear hDe)
    | (obtain ⟨w4, hw4⟩ : ∃ w4, w3.alloc (.cells #[.int .i64 i.size, .slice none 0 0, .slice none 0 0, .slice A3 i.I.l.length k3] 58) = w4 := ⟨_, rfl⟩; have hkD : w4.heap[w3.heap.size]? = some (.cells #[.int .i64 i.size, .slice none 0 0, .slice none 0 0, .slice A3 i.I.l.length k3] 58) := (by rw [← hw4]; exact heap_alloc_new w3 _); have ha4 : Below w3.heap.size w3 w4 := (by rw [← hw4]; exact (Below.refl _ w3).alloc (Nat.le_refl _) _); have hHI : ∃ lo hi, W2.heap.size ≤ lo ∧ (w3.heap.size < lo ∨ hi ≤ w3.heap.size) ∧ Held lo hi w4 (fun w' => RowAt w' w'.heap.size 1 A3 i.I.l.length (i.I.l.map icell)) := ⟨_, _, Nat.le_refl _, .inr (Nat.le_refl _), HH3.out.later ha4⟩; have hb4 : Below W2.heap.size W2 w4 := hb3.trans (ha4.mono hb3.size); have hDlo : W2.heap.size ≤ w3.heap.size := hb3.size; rw [hw4]; clear hw4 ha4 hb3 HH3 hg3; generalize w3.heap.size = D at hkD hHI hDlo ⊢)
  all_goals
    obtain ⟨lo3, hi3, hlo3, hoff3, hheld3⟩ := hHI
    have hDlt : D < w4.heap.size := (Array.getElem?_eq_some_iff.1 hkD).1
    have hs2 := HS2.out
    have hR4 : w4.heap[w.heap.size + 1]? = some (.cells #[.int .i64 0, .slice none 0 0, .slice none 0 0, .slice none 0 0] 58) := (hb4.block _ (by omega)).trans HK2.out
    obtain ⟨c0, c1, c2, c3⟩ := HS.out w4 hb4
    obtain ⟨i1, hi1, hy0, hy1, hy2⟩ := info_parts ints_infoC
    obtain ⟨i2, hi2, hx0, hx1, hx2⟩ := info_parts pair_info
    obtain ⟨i3, hi3', hv0, hv1, hv2⟩ := info_parts pairs_infoC
    have HD := Lib.hid (And.intro hDlt (And.intro hDlo hs2))
    have HB4 := Lib.hid hb4
    have HH := Lib.hid (And.intro hlo3 (And.intro hoff3 hheld3))
    have HR4 := Lib.hid hR4
    have HKD := Lib.hid hkD
    have HL := Lib.hid (And.intro hln3 hcp3)
    clear hs2 hb4 hlo3 hoff3 hheld3 hDlt hDlo hR4 hkD hd hni hln3 hcp3 HR
    go_wp2_with fail
    clear c0 c1 c2 c3
    go_loopw [17] (fun i' wr => ∃ (k : Nat) (v1 : Value) (Cs : List IL), k ≤ i.C.length ∧ i' = .int .i64 (k : Nat) ∧ Cs.length = k ∧ Cs.map (·.l) = (i.C.take k).map (·.l) ∧ wr.heap[D]? = some (.cells #[.int .i64 i.size, v1, .slice none 0 0, .slice A3 i.I.l.length k3] 58) ∧ CollH sval 1 40 ilI D w4.heap.size wr v1 Cs ∧ (∀ b, b < w4.heap.size → b ≠ D → wr.heap[b]? = w4.heap[b]?) ∧ w4.heap.size ≤ wr.heap.size ∧ Below W2.heap.size W2 wr) (fun i' _ => i.C.length - (intOf i').toNat)
    case atStart => exact ⟨0, _, [], Nat.zero_le _, rfl, rfl, rfl, HKD.out, CollH.nil, fun _ _ _ => rfl, Nat.le_refl _, HB4.out⟩
    case round =>
      rename World => wr
      obtain ⟨k, v1, Cs, hk, rfl, hTl, hTm, hbD, hco, hsame, hsz, hbw⟩ := hrel
      by_cases hlt : k < i.C.length
      · obtain ⟨g, off, hCA, hg, d1⟩ := RowAt.vals (HIL.out wr hbw).c3 (by omega)
        have e1 := d1 k hlt
        have hin := (HIL.out wr hbw).c4 _ (List.getElem_mem hlt)
        have hsn := HN.out.c _ (List.getElem_mem hlt)
        have hs8 := hCs _ (List.getElem_mem hlt)
        have h0K : (0 : Int) ≤ k := by omega
        have hlK : (k : Int) < i.C.length := by omega
        have HTm := Lib.hid hTm
        have HTl := Lib.hid hTl
        have hTl3 : Cs.length ≤ 1000 := by omega
        have HCO := Lib.hid hco
        have HBW := Lib.hid hbw
        have HBD := Lib.hid hbD
        have HSM := Lib.hid hsame
        have m0 := cell_of_blk hbD 1
        simp only [List.getElem?_toArray, List.getElem?_cons_zero, List.getElem?_cons_succ] at m0
        have hDw : D < wr.heap.size := (Array.getElem?_eq_some_iff.1 hbD).1
        have hTK := Lib.hid (show (i.C.take (k + 1)).map (·.l) = (i.C.take k).map (·.l) ++ [i.C[k].l] by rw [List.take_succ_eq_append_getElem hlt, List.map_append]; rfl)
        rw [hCA]
        simp only [IL.val] at e1
        clear d1 hTl hTm hbD hco hsame hbw hCA
        generalize i.C[k] = s at e1 hin hsn hs8 hTK
        have hsr : RowAt wr.drew wr.drew.heap.size 1 s.A s.l.length (s.l.map icell) := hin.2.2
        have hdw : Below wr.heap.size wr wr.drew := (Below.refl _ _).drew
        clear hin
        go_wp2_with fail
        go_region_law (first
          | (refine step_append_lies _ (by rfl) _ _ _ (by rfl) w4.heap.size 40 i1 _ 1 24 Tryd.underlying55 hi1 hy0 hy1 hy2 rfl (by omega) v1 Cs.length (Cs.flatMap sval) (by rfl) hco6.own ⟨w6.heap.size, 0, none⟩ 1 1 (sval ⟨A6, k6, s.l⟩) (by rfl) (by rfl) (World.news_of_block (cs := #[.slice A6 s.l.length k6]) (t := 40) (fr := (0, 0)) (heap_alloc_new w6 _)) (by simp [sval, IL.val, Value.oneCell']) (by omega) (by unfold maxLen; omega) (by omega) (by have := hb6.size; simp; omega) (w6.heap.size + 1) (by simp) ?_; intro g7 cap7 w7 hown7 hg7 hat7 hlt7; have hbD7 := (hg7.block D (by have := hb6.size; simp; omega) (fun e => by have := (own_lt HCO.out.own e.symm).1; have := HD.out.1; omega)).trans ((Below.heap_alloc w6 _ D (by have := hb6.size; omega)).trans hbD6); have m1 := cell_of_blk hbD7 1; have m3 := frozen_of_blk hbD7 1; simp only [List.getElem?_toArray, List.getElem?_cons_zero, List.getElem?_cons_succ] at m1)
          | (refine step_append_row _ (by rfl) _ _ _ (by rfl) wr.heap.size 3 i0 _ 1 8 Tryd.underlying40 hi0 hz0 hz1 hz2 rfl (by omega) (.slice none 0 0) 0 [] (by rfl) (hnil _ _) _ s.A s.l.length s.c _ (by rfl) hsn hsr (icell_one _) (by unfold maxLen; omega) (by omega) (Nat.le_refl _) ?_; intro v6 w6 hown6 hg6 hat6; rw [Nat.zero_add, List.nil_append] at hown6; obtain ⟨A6, k6, hv6, hl6, hc6, hh6⟩ := held_row hown6; subst hv6; have hb6 : Below wr.heap.size wr w6 := below_row (v' := .slice none 0 0) hdw (Nat.le_refl _) hg6 rfl; have hbD6 := (hb6.block D hDw).trans HBD.out; have q1 := cell_of_blk hbD6 1; simp only [List.getElem?_toArray, List.getElem?_cons_zero, List.getElem?_cons_succ] at q1; have hDw6 : D < w6.heap.size := Nat.lt_of_lt_of_le hDw hb6.size; have hco6 := HCO.out.later (hb6.alloc hb6.size (.cells #[.slice A6 s.l.length k6] 40)); have HH6 := Lib.hid hh6; clear hh6 hown6))
        all_goals
          go_wp2
          have hx : Held wr.heap.size w6.heap.size w6 (ilI ⟨A6, k6, s.l⟩) := HH6.out.imp fun w' h => ⟨hl6, hc6, h⟩
          obtain ⟨z1, z2, z3, z4, z5⟩ := kl_step (j := 1) HCO.out HBD.out HD.out.1 hsz hb6 hx hown7 hg7 hat7
          go_roundw
          case rel => exact ⟨k + 1, _, Cs ++ [⟨A6, k6, s.l⟩], by omega, by go_num, by rw [List.length_append, HTl.out]; rfl, by rw [List.map_append, HTm.out, hTK.out]; rfl, z1, z2, fun b h1 h2 => (z3 b h1 h2).trans (HSM.out b h1 h2), z4, HBW.out.trans (z5.mono HD.out.2.1)⟩
          case measure => simp [intOf]; omega
      · have hke : k = i.C.length := by omega
        subst hke
        obtain ⟨A5, k5, hv5, hl5, hc5, hh5⟩ := hco.all
        subst hv5
        rw [List.take_length] at hTm
        obtain ⟨c0, c1, c2, c3⟩ := HS.out wr hbw
        have HH5 := Lib.hid (And.intro hl5 (And.intro hc5 hh5))
        have HTM5 := Lib.hid (And.intro hTl hTm)
        have HBW5 := Lib.hid hbw
        have HBD5 := Lib.hid hbD
        have HSM5 := Lib.hid hsame
        have HSZ5 := Lib.hid hsz
        have HD5 := Lib.hid (show D < wr.heap.size ∧ W2.heap.size ≤ D from ⟨Nat.lt_of_lt_of_le HD.out.1 hsz, HD.out.2.1⟩)
        clear hco hTm hTl hbw hbD hsame hsz hl5 hc5 hh5
        go_wp2_with fail
        clear c0 c1 c2 c3
        obtain ⟨w5, hw5⟩ : ∃ w5, wr = w5 := ⟨_, rfl⟩
        rw [hw5] at HH5 HBW5 HBD5 HSM5 HSZ5 HD5 ⊢
        clear hw5
        go_loopw [32] (fun i' wr => ∃ (k : Nat) (v2 : Value) (Rs : List PL), k ≤ i.R.length ∧ i' = .int .i64 (k : Nat) ∧ Rs.length = k ∧ Rs.map (·.l) = (i.R.take k).map (·.l) ∧ wr.heap[D]? = some (.cells #[.int .i64 i.size, .slice A5 Cs.length k5, v2, .slice A3 i.I.l.length k3] 58) ∧ CollH pval 1 65 plI D w5.heap.size wr v2 Rs ∧ (∀ b, b < w5.heap.size → b ≠ D → wr.heap[b]? = w5.heap[b]?) ∧ w5.heap.size ≤ wr.heap.size ∧ Below W2.heap.size W2 wr) (fun i' _ => i.R.length - (intOf i').toNat)
        case atStart => exact ⟨0, _, [], Nat.zero_le _, rfl, rfl, rfl, HBD5.out, CollH.nil, fun _ _ _ => rfl, Nat.le_refl _, HBW5.out⟩
        case round =>
            rename World => wr
            obtain ⟨k, v2, Rs, hk, rfl, hTl, hTm, hbD, hco, hsame, hsz, hbw⟩ := hrel
            by_cases hlt : k < i.R.length
            · obtain ⟨g, off, hRA, hg, d1⟩ := RowAt.vals (HIL.out wr hbw).r3 (by omega)
              have e1 := d1 k hlt
              have hin := (HIL.out wr hbw).r4 _ (List.getElem_mem hlt)
              have hsn := HN.out.r _ (List.getElem_mem hlt)
              have hs8 := hRs _ (List.getElem_mem hlt)
              have h0K : (0 : Int) ≤ k := by omega
              have hlK : (k : Int) < i.R.length := by omega
              have HTm := Lib.hid hTm
              have HTl := Lib.hid hTl
              have hTl3 : Rs.length ≤ 1000 := by omega
              have HCO := Lib.hid hco
              have HBW := Lib.hid hbw
              have HBD := Lib.hid hbD
              have HSM := Lib.hid hsame
              have m0 := cell_of_blk hbD 2
              simp only [List.getElem?_toArray, List.getElem?_cons_zero, List.getElem?_cons_succ] at m0
              have hDw : D < wr.heap.size := (Array.getElem?_eq_some_iff.1 hbD).1
              have hTK := Lib.hid (show (i.R.take (k + 1)).map (·.l) = (i.R.take k).map (·.l) ++ [i.R[k].l] by rw [List.take_succ_eq_append_getElem hlt, List.map_append]; rfl)
              rw [hRA]
              simp only [PL.val] at e1
              clear d1 hTl hTm hbD hco hsame hbw hRA
              generalize i.R[k] = s at e1 hin hsn hs8 hTK
              have hsr : RowAt wr.drew wr.drew.heap.size 2 s.A s.l.length (s.l.flatMap pcells) := hin.2.2
              have hdw : Below wr.heap.size wr wr.drew := (Below.refl _ _).drew
              clear hin
              go_wp2_with fail
              go_region_law (first
                | (refine step_append_lies _ (by rfl) _ _ _ (by rfl) w5.heap.size 65 i3 _ 1 24 Tryd.underlying56 hi3' hv0 hv1 hv2 rfl (by omega) v2 Rs.length (Rs.flatMap pval) (by rfl) hco6.own ⟨w6.heap.size, 0, none⟩ 1 1 (pval ⟨A6, k6, s.l⟩) (by rfl) (by rfl) (World.news_of_block (cs := #[.slice A6 s.l.length k6]) (t := 65) (fr := (0, 0)) (heap_alloc_new w6 _)) (by simp [pval, PL.val, Value.oneCell']) (by omega) (by unfold maxLen; omega) (by omega) (by have := hb6.size; simp; omega) (w6.heap.size + 1) (by simp) ?_; intro g7 cap7 w7 hown7 hg7 hat7 hlt7; have hbD7 := (hg7.block D (by have := hb6.size; simp; omega) (fun e => by have := (own_lt HCO.out.own e.symm).1; have := HD5.out.1; omega)).trans ((Below.heap_alloc w6 _ D (by have := hb6.size; omega)).trans hbD6); have m1 := cell_of_blk hbD7 2; have m3 := frozen_of_blk hbD7 2; simp only [List.getElem?_toArray, List.getElem?_cons_zero, List.getElem?_cons_succ] at m1)
                | (refine step_append_row _ (by rfl) _ _ _ (by rfl) wr.heap.size 68 i2 _ 2 16 Tryd.underlying65 hi2 hx0 hx1 hx2 rfl (by omega) (.slice none 0 0) 0 [] (by rfl) (hnilP _ _) _ s.A s.l.length s.c _ (by rfl) hsn hsr (pcell_one _) (by unfold maxLen; omega) (by omega) (Nat.le_refl _) ?_; intro v6 w6 hown6 hg6 hat6; rw [Nat.zero_add, List.nil_append] at hown6; obtain ⟨A6, k6, hv6, hl6, hc6, hh6⟩ := held_row hown6; subst hv6; have hb6 : Below wr.heap.size wr w6 := below_row (v' := .slice none 0 0) hdw (Nat.le_refl _) hg6 rfl; have hbD6 := (hb6.block D hDw).trans HBD.out; have q1 := cell_of_blk hbD6 2; simp only [List.getElem?_toArray, List.getElem?_cons_zero, List.getElem?_cons_succ] at q1; have hDw6 : D < w6.heap.size := Nat.lt_of_lt_of_le hDw hb6.size; have hco6 := HCO.out.later (hb6.alloc hb6.size (.cells #[.slice A6 s.l.length k6] 65)); have HH6 := Lib.hid hh6; clear hh6 hown6))
              all_goals
                go_wp2
                have hx : Held wr.heap.size w6.heap.size w6 (plI ⟨A6, k6, s.l⟩) := HH6.out.imp fun w' h => ⟨hl6, hc6, h⟩
                obtain ⟨z1, z2, z3, z4, z5⟩ := kl_step (j := 2) HCO.out HBD.out HD5.out.1 hsz hb6 hx hown7 hg7 hat7
                go_roundw
                case rel => exact ⟨k + 1, _, Rs ++ [⟨A6, k6, s.l⟩], by omega, by go_num, by rw [List.length_append, HTl.out]; rfl, by rw [List.map_append, HTm.out, hTK.out]; rfl, z1, z2, fun b h1 h2 => (z3 b h1 h2).trans (HSM.out b h1 h2), z4, HBW.out.trans (z5.mono HD5.out.2)⟩
                case measure => simp [intOf]; omega
            · have hke : k = i.R.length := by omega
              subst hke
              obtain ⟨A6, k6, hv6, hl6, hc6, hh6⟩ := hco.all
              subst hv6
              rw [List.take_length] at hTm
              obtain ⟨hlo3, hoff3, hheld3⟩ := HH.out
              obtain ⟨hl5, hc5, hh5⟩ := HH5.out
              obtain ⟨hln3, hcp3⟩ := HL.out
              obtain ⟨hDlt, hDlo, hs2⟩ := HD.out
              have hs45 := HSZ5.out
              have hRw : wr.heap[w.heap.size + 1]? = some (.cells #[.int .i64 0, .slice none 0 0, .slice none 0 0, .slice none 0 0] 58) := (hsame _ (by omega) (by omega)).trans ((HSM5.out _ (by omega) (by omega)).trans HR4.out)
              have HF : ∃ j : IN, j = ⟨i.size, A5, k5, Cs, A6, k6, Rs, ⟨A3, k3, i.I.l⟩⟩ ∧ EqI j i ∧ Held W2.heap.size wr.heap.size wr (fun w2 => j.In w2.heap.size w2) := by
                refine ⟨_, rfl, ⟨rfl, HTM5.out.1.symm, fun k h h' => ?_, hTl.symm, fun k h h' => ?_, rfl⟩, ?_⟩
                · have := congrArg (fun l => l[k]?) HTM5.out.2
                  simp only [List.getElem?_map, List.getElem?_eq_getElem h, List.getElem?_eq_getElem h', Option.map_some] at this
                  exact Option.some.inj this
                · have := congrArg (fun l => l[k]?) hTm
                  simp only [List.getElem?_map, List.getElem?_eq_getElem h, List.getElem?_eq_getElem h', Option.map_some] at this
                  exact Option.some.inj this
                · have g1 : Held W2.heap.size wr.heap.size wr (fun w' => RowAt w' w'.heap.size 1 A3 i.I.l.length (i.I.l.map icell)) :=
                    (hheld3.same (Nat.le_trans hheld3.1 (Nat.le_trans hs45 hsz)) fun b h1 h2 => (hsame b (by have := hheld3.1; omega) (by omega)).trans (HSM5.out b (by have := hheld3.1; omega) (by omega))).wide (lo' := W2.heap.size) (by omega) (Nat.le_trans hheld3.1 (Nat.le_trans hs45 hsz)) (Nat.le_refl _)
                  have g2 := (hh5.same hsz fun b h1 h2 => hsame b h2 (by omega)).wide (lo' := W2.heap.size) (hi' := wr.heap.size) (by omega) hsz (Nat.le_refl _)
                  have g3 := hh6.wide (lo' := W2.heap.size) (hi' := wr.heap.size) (by omega) (Nat.le_refl _) (Nat.le_refl _)
                  refine ((g1.and g2).and g3).imp fun w' h => ?_
                  obtain ⟨⟨p1, p2, p3⟩, p4, p5⟩ := h
                  rw [sval_map] at p2
                  rw [pval_map] at p4
                  exact ⟨hl5, hc5, p2, p3, hl6, hc6, p4, p5, ⟨hln3, hcp3, p1⟩⟩
              obtain ⟨j, hj, hje, hjh⟩ := HF
              have d0 := cell_of_blk hbD 0
              have d1 := cell_of_blk hbD 1
              have d2 := cell_of_blk hbD 2
              have d3 := cell_of_blk hbD 3
              have r0 := cell_of_blk hRw 0
              have r1 := cell_of_blk hRw 1
              have r2 := cell_of_blk hRw 2
              have r3 := cell_of_blk hRw 3
              have f0 := frozen_of_blk hRw 0
              have f1 := frozen_of_blk hRw 1
              have f2 := frozen_of_blk hRw 2
              have f3 := frozen_of_blk hRw 3
              simp only [List.getElem?_toArray, List.getElem?_cons_zero, List.getElem?_cons_succ] at d0 d1 d2 d3 r0 r1 r2 r3
              have HJ := Lib.hid (And.intro hj (And.intro hje hjh))
              have HBW6 := Lib.hid hbw
              have HRW := Lib.hid hRw
              have HLT := Lib.hid hs2
              clear hco hsame hh6 hheld3 hh5 hj hje hjh hbw hTm hTl hbD hRw hlo3 hoff3 hl5 hc5 hln3 hcp3 hDlt hDlo hs2 hs45
              go_wp2
              obtain ⟨s1, s2⟩ := store4 HRW.out (.int .i64 i.size) (.slice A5 Cs.length k5) (.slice A6 Rs.length k6) (.slice A3 i.I.l.length k3)
              generalize ((((wr.setCell ⟨w.heap.size + 1, 0, none⟩ (.int .i64 i.size)).setCell ⟨w.heap.size + 1, 1, none⟩ (.slice A5 Cs.length k5)).setCell ⟨w.heap.size + 1, 2, none⟩ (.slice A6 Rs.length k6)).setCell ⟨w.heap.size + 1, 3, none⟩ (.slice A3 i.I.l.length k3)) = w9 at s1 s2 ⊢
              have t0 := cell_of_blk s1 0
              have t1 := cell_of_blk s1 1
              have t2 := cell_of_blk s1 2
              have t3 := cell_of_blk s1 3
              simp only [List.getElem?_toArray, List.getElem?_cons_zero, List.getElem?_cons_succ] at t0 t1 t2 t3
              obtain ⟨hj, hje, hjh⟩ := HJ.out
              have hlt := HLT.out
              have hb0 := HB.out.trans (HBW6.out.mono HB.out.size)
              refine bodyPost_ret (v := .agg #[.int .i64 i.size, .slice A5 Cs.length k5, .slice A6 Rs.length k6, .slice A3 i.I.l.length k3]) (by simp [results, Tryd.f24, go_sem, t0, t1, t2, t3]) rfl ⟨j, by rw [hj]; rfl, hje, ?_, ?_⟩
              · exact (hjh.grown s2 (fun g e => by cases e; exact .inl (by omega))).wide (by omega) s2.size (Nat.le_refl _)
              · exact hb0.trans (below_grown s2 (by omega) hb0.size)
end Go.Proofs.YtnkkpjgclekobaaDoor
