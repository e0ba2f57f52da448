import Derived.Test.YtnkkpjgclekobaaGreatDoorIPairs
import Derived.Test.YtnkkpjgclekobaaGreatDoorRIs
namespace Go.Proofs.YtnkkpjgclekobaaGreatDoor
open Go.RowKit

/-- A row of pairs of the call's own, as it lies. -/
theorem pl_of_owns {w : World} {base : Nat} {v : Value} {l : List (Int × Int)} (h : w.ownsRow base 93 2 v l.length (l.flatMap pcells)) : ∃ A c, v = .slice A l.length c ∧ (PL.mk A c l).In w.heap.size w := by
  rcases h.2 with ⟨rfl, h0⟩ | ⟨g, cap, cur, rfl, hge, hheap, hlen, hcap, hsize, htake⟩
  · refine ⟨none, 0, by rw [h0], ?_, ?_, ?_, fun hn => absurd h0 hn⟩
    · show l.length ≤ 0; omega
    · show (0 : Nat) ≤ _; omega
    · have := h.1; simpa using this
  · unfold maxLen at hcap
    refine ⟨some ⟨g, 0, none⟩, cap, rfl, hlen, by show cap ≤ _; omega, h.1, fun _ => ⟨g, 0, rfl, (Array.getElem?_eq_some_iff.1 hheap).1, fun j hj => ?_⟩⟩
    have hl : (l.flatMap pcells).length = l.length * 2 := h.1
    obtain ⟨u, hu⟩ : ∃ u, (l.flatMap pcells)[j]? = some u := ⟨_, List.getElem?_eq_getElem (by rw [hl]; exact hj)⟩
    have hx := h.cells (g := g) rfl j u hu
    rw [show (⟨g, 0, none⟩ : Addr).add j = ⟨g, 0 + j, none⟩ by cases j <;> simp [Addr.add]] at hx
    rw [hx]; exact hu.symm

def wantP (m r : Nat) (l : List (Int × Int)) : List (Int × Int) := if r % 2 = 0 then l else refP m l
def rowP (l : List (Int × Int)) (x : Nat) : List (Int × Int) := (l.filter fun p => p.2 == (x : Int)).map fun p => ((x : Int), p.1)
theorem refP_len {m : Nat} {s : PL} (h : okP m s = true) (hm : m ≤ 256) : (refP m s.l).length ≤ 65536 := by
  rw [← progP_back h hm, progP]
  have := range_len (fun x y => s.l.contains ((y : Int), (x : Int))) m
  have h2 : m * 256 ≤ 256 * 256 := Nat.mul_le_mul_right _ hm
  omega
theorem refP_part (l : List (Int × Int)) {x m : Nat} (hx : x < m) (j : Nat) : ((List.range x).flatMap (rowP l) ++ rowP (l.take j) x).length ≤ (refP m l).length := by
  have h1 : (rowP (l.take j) x).length ≤ (rowP l x).length := by
    unfold rowP
    rw [List.length_map, List.length_map]
    exact ((List.take_sublist j l).filter _).length_le
  have h2 : ((List.range x).flatMap (rowP l) ++ rowP l x).length ≤ (refP m l).length := by
    have he : (List.range x).flatMap (rowP l) ++ rowP l x = (List.range (x + 1)).flatMap (rowP l) := by rw [List.range_succ, List.flatMap_append]; simp
    rw [he]
    have hr : List.range m = List.range (x + 1) ++ (List.range (m - (x + 1))).map (fun k => x + 1 + k) := by
      rw [← List.range_add]; congr 1; omega
    show _ ≤ ((List.range m).flatMap (rowP l)).length
    rw [hr, List.flatMap_append, List.length_append]
    omega
  rw [List.length_append] at h2 ⊢
  omega

def RetPL (l : List (Int × Int)) (w : World) (e : Ending) (w' : World) : Prop := ∃ s : PL, e = .returned (.slice s.A s.l.length s.c) ∧ s.l = l ∧ s.In w'.heap.size w' ∧ Below w.heap.size w w'

set_option maxRecDepth 100000 in
set_option maxHeartbeats 4000000 in
theorem rPairs_even (i : IN) (r k : Nat) (hk : r = 2 * k) (hkl : k < i.R.length) (w : World) (hi : i.In w.heap.size w) : Calls Tryz.prog 97 #[i.val, .int .i64 (r : Nat)] w (RetPL i.R[k].l w) := by
  obtain ⟨W1, hW1, hB1, hs1, hk1⟩ := newBlk w _ rfl #[.int .i64 i.size, .slice i.CA i.C.length i.cc, .slice i.RA i.R.length i.rc, .slice i.I.A i.I.l.length i.I.c] 35
  have b2 := cell_of_blk hk1 2
  simp only [List.getElem?_toArray, List.getElem?_cons_zero, List.getElem?_cons_succ] at b2
  have hi1 := hi.later hB1
  obtain ⟨g, off, hRA, hg, d1⟩ := RowAt.vals hi1.r3 (by omega)
  have e1 := d1 k hkl
  simp only [PL.val] at e1
  rw [hRA] at b2
  have hin := hi1.r4 _ (List.getElem_mem hkl)
  have hmod : (r : Int) % 2 = 0 := by omega
  have hmodN : r % 2 = 0 := by omega
  have hdiv : (r : Int) / 2 = (k : Int) := by omega
  have h0I : (0 : Int) ≤ k := by omega
  have hlI : (k : Int) < i.R.length := by omega
  have hwr : wrap64 (k : Int) = (k : Int) := by
    have := hi.r1; have := hi.r2
    unfold wrap64; omega
  have HB := Lib.hid hB1
  have HIN := Lib.hid hin
  simp only [IN.val]
  rw [hRA]
  rw [hRA] at hW1
  clear hi hi1 d1 hin hk1 hB1 hk
  generalize i.R[k] = s at e1 HIN
  go_enter Tryz.func97, Tryz.ntmps97
  go_wp2
  go_ret
  exact ⟨s, rfl, rfl, HIN.out, HB.out⟩

/-- What has been gathered: the rounds before x, and x's own up to j. -/
def accP (l : List (Int × Int)) (x j : Nat) : List (Int × Int) := (List.range x).flatMap (rowP l) ++ rowP (l.take j) x
def RowRel (lo : Nat) (W : World) (l : List (Int × Int)) (v : Value) : Prop := W.ownsRow lo 93 2 v l.length (l.flatMap pcells)
theorem rowP_step (l : List (Int × Int)) (x : Nat) {j : Nat} (hj : j < l.length) : rowP (l.take (j + 1)) x = rowP (l.take j) x ++ (if l[j].2 == (x : Int) then [((x : Int), l[j].1)] else []) := by
  unfold rowP
  rw [List.take_succ_eq_append_getElem hj, List.filter_append, List.map_append]
  congr 1
  cases h : (l[j].2 == (x : Int)) <;> simp [h]

set_option maxRecDepth 100000 in
set_option maxHeartbeats 8000000 in
theorem rPairs_odd (i : IN) (m r k : Nat) (hk : r = 2 * k + 1) (hkl : k < i.R.length) (hm : i.size = m) (h256 : m ≤ 256) (hok : okP m i.R[k] = true) (w : World) (hi : i.In w.heap.size w) : Calls Tryz.prog 97 #[i.val, .int .i64 (r : Nat)] w (RetPL (refP m i.R[k].l) w) := by
  obtain ⟨W1, hW1, hB1, hs1, hk1⟩ := newBlk w _ rfl #[.int .i64 i.size, .slice i.CA i.C.length i.cc, .slice i.RA i.R.length i.rc, .slice i.I.A i.I.l.length i.I.c] 35
  have hi1 := hi.later hB1
  obtain ⟨g, off, hRA, hg, d1⟩ := RowAt.vals hi1.r3 (by omega)
  have e1 := d1 k hkl
  simp only [PL.val] at e1
  have hin := hi1.r4 _ (List.getElem_mem hkl)
  have hcell : ∀ w', Below W1.heap.size W1 w' → w'.cell? ⟨w.heap.size, 0, none⟩ = some (.int .i64 (m : Int)) ∧ w'.cell? ⟨w.heap.size, 2, none⟩ = some (.slice (some ⟨g, off, none⟩) i.R.length i.rc) := fun w' hb => by
    have h' := blk_lat hk1 hb
    rw [← hm, ← hRA]
    exact ⟨cell_of_blk h' 0, cell_of_blk h' 2⟩
  have hmod : (r : Int) % 2 = 1 := by omega
  have hmodN : r % 2 = 1 := by omega
  have hdiv : (r : Int) / 2 = (k : Int) := by omega
  have h0I : (0 : Int) ≤ k := by omega
  have hlI : (k : Int) < i.R.length := by omega
  have hwr : wrap64 (k : Int) = (k : Int) := by
    have := hi.r1; have := hi.r2
    unfold wrap64; omega
  have hrl := refP_len hok h256
  obtain ⟨b0, b2⟩ := hcell W1 (Below.refl _ _)
  have HB := Lib.hid hB1
  have HIN := Lib.hid hin
  have HCE := Lib.hid hcell
  simp only [IN.val]
  rw [hRA]
  rw [hRA] at hW1
  clear hi hi1 d1 hin hk1 hB1 hk hcell hm hok
  have hsl : i.R[k].l.length ≤ 9223372036854775807 := Nat.le_trans HIN.out.1 HIN.out.2.1
  generalize i.R[k] = s at e1 HIN hrl hsl ⊢
  have HRL := Lib.hid hrl
  clear hrl
  obtain ⟨i0, hi0, hz0, hz1, hz2⟩ := info_parts pair_info
  go_enter Tryz.func97, Tryz.ntmps97
  go_wp2_with fail
  clear hW1 b0 b2
  go_loopw [5, 20] (fun v i' wr => ∃ x : Nat, x ≤ m ∧ i' = .int .i64 (x : Nat) ∧ RowRel (w.heap.size + 1) wr (accP s.l x 0) v ∧ Below W1.heap.size W1 wr) (fun _ i' _ => m - (intOf i').toNat)
  case atStart => exact ⟨0, Nat.zero_le _, rfl, ⟨rfl, .inl ⟨rfl, rfl⟩⟩, Below.refl _ _⟩
  case round =>
    rename World => wo
    obtain ⟨x, hx, rfl, hrow, hbw⟩ := hrel
    obtain ⟨b0, b2⟩ := HCE.out wo hbw
    have e1' := (hbw.cell (p := ⟨g, off + k, none⟩) hg).trans e1
    have HRW := Lib.hid hrow
    have hbo := hbw
    clear hrow
    by_cases hlt : x < m
    · have HPL := Lib.hid (fun j => Nat.le_trans (refP_part s.l hlt j) HRL.out)
      go_wp2_with fail
      clear b0 b2 e1'
      go_loopw [5, 30] (fun v i' wr => ∃ j : Nat, j ≤ s.l.length ∧ i' = .int .i64 (j : Nat) ∧ RowRel (w.heap.size + 1) wr (accP s.l x j) v ∧ Below W1.heap.size W1 wr) (fun _ i' _ => s.l.length - (intOf i').toNat)
      case atStart => exact ⟨0, Nat.zero_le _, rfl, HRW.out, hbo⟩
      case round =>
        clear hbw hbo
        obtain ⟨j, hj, rfl, hrow, hbw⟩ := hrel
        by_cases hltj : j < s.l.length
        · obtain ⟨g2, off2, hSA, hg2, d2⟩ := PL.In.cells HIN.out (by omega)
          obtain ⟨y0, y1⟩ := d2 j hltj
          have x0 := (hbw.cell (p := ⟨g2, off2 + j * 2, none⟩) hg2).trans y0
          have x1 := (hbw.cell (p := ⟨g2, off2 + j * 2 + 1, none⟩) hg2).trans y1
          obtain ⟨W7, hW7, hB7, hs7, hk7⟩ := newBlk wr _ rfl #[.int .i64 s.l[j].1, .int .i64 s.l[j].2] 93
          have p0 := cell_of_blk hk7 0
          have p1 := cell_of_blk hk7 1
          simp only [List.getElem?_toArray, List.getElem?_cons_zero, List.getElem?_cons_succ] at p0 p1
          have h0J : (0 : Int) ≤ j := by omega
          have hlJ : (j : Int) < s.l.length := by omega
          have hstep := rowP_step s.l x hltj
          have hlen : (accP s.l x j).length ≤ 65536 := HPL.out j
          have hb7 : Below W1.heap.size W1 W7 := hbw.trans (hB7.mono hbw.size)
          have hsw := hbw.size
          rw [hSA]
          obtain ⟨Q, hQ⟩ : ∃ Q, accP s.l x j = Q := ⟨_, rfl⟩
          have HQ := Lib.hid (show accP s.l x (j + 1) = Q ++ (if s.l[j].2 == (x : Int) then [((x : Int), s.l[j].1)] else []) by rw [accP, hstep, ← List.append_assoc, ← hQ, accP])
          rw [hQ] at hrow hlen
          unfold RowRel at hrow
          have HRW2 := Lib.hid (owns_below hrow hB7)
          have HRW3 := Lib.hid hrow
          clear d2 y0 y1 hstep hQ hrow hk7
          generalize s.l[j] = z at x0 x1 hW7 p0 p1 HQ
          obtain ⟨zx, zy⟩ := z
          dsimp only at x0 x1 hW7 p0 p1 HQ
          rcases q : (zy == (x : Int))
          · rw [q] at HQ
            go_wp2_with fail
            go_roundw
            case rel => exact ⟨j + 1, by omega, by go_num, by have h := HQ.out; simp only [Bool.false_eq_true, if_false, List.append_nil] at h; rw [h]; exact HRW2.out, hb7⟩
            case measure => simp [intOf]; omega
          · rw [q] at HQ
            go_wp2_with (at_builtin; refine wpList_append_lies _ rfl _ _ 94 rfl (w.heap.size + 1) 93 i0 _ 2 16 Tryz.underlying94 hi0 hz0 hz1 hz2 rfl (by omega) _ Q.length (Q.flatMap pcells) rfl (owns_below HRW2.out ((Below.refl _ W7).alloc (Nat.le_refl _) (.cells #[.int .i64 (x : Nat), .int .i64 zx] 93))) ⟨wr.heap.size + 1, 0, none⟩ 1 1 [.int .i64 (x : Nat), .int .i64 zx] rfl rfl (by have h := World.news_of_block (cs := #[.int .i64 (x : Nat), .int .i64 zx]) (t := 93) (fr := (0, 0)) (heap_alloc_new W7 (.cells #[.int .i64 (x : Nat), .int .i64 zx] 93)); rw [hs7] at h; exact h) (by simp [Value.oneCell']) (by omega) (by unfold maxLen; omega) (by omega) (by simp; omega) (wr.heap.size + 1 + 1) (by simp [hs7]) ?_; intro g6 cap w6 hown6 hg6 hat6 hlt6)
            have hb6 : Below W1.heap.size W1 w6 := (hb7.alloc (by omega) _).grown hg6 (by simp; omega) (fun k e => by have := (own_lt HRW2.out e).1; omega)
            refine ⟨⟨_, _, _, ⟨j + 1, by omega, rfl, ?_, by rw [← hs1]; exact hb6⟩, rfl, rfl, by go_num⟩, by simp [intOf]; omega⟩
            have h := HQ.out
            simp only [if_true] at h
            rw [h, RowRel, List.length_append, List.flatMap_append]
            exact hown6
        · have hje : j = s.l.length := by omega
          subst hje
          have HX := Lib.hid (show accP s.l (x + 1) 0 = accP s.l x s.l.length by
            rw [accP, accP, List.take_of_length_le (Nat.le_refl _), List.range_succ, List.flatMap_append]
            simp [rowP])
          have HR := Lib.hid hrow
          clear hrow
          go_wp2_with fail
          go_roundw
          case rel => exact ⟨x + 1, by omega, by go_num, by rw [HX.out]; exact HR.out, hbw⟩
          case measure => simp [intOf]; omega
    · have hxe : x = m := by omega
      subst hxe
      have hz : accP s.l x 0 = refP x s.l := by rw [accP]; simp [rowP]; rfl
      have hrw : RowRel (w.heap.size + 1) wo (refP x s.l) _ := hz ▸ HRW.out
      obtain ⟨A, c, hv, hin⟩ := pl_of_owns (l := refP x s.l) hrw
      subst hv
      have HI2 := Lib.hid hin
      clear hin
      go_wp2
      go_ret
      exact ⟨⟨A, c, refP x s.l⟩, rfl, rfl, HI2.out, HB.out.trans (hbw.mono (by omega))⟩
end Go.Proofs.YtnkkpjgclekobaaGreatDoor
