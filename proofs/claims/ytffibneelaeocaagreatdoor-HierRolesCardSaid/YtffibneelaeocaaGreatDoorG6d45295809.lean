import Derived.Test.YtffibneelaeocaaGreatDoorG711d85134c
import Derived.Test.YtffibneelaeocaaGreatDoorGee913619f2
import Derived.Deep.RegionHeldLaw
import Derived.Deep.RegionHeld3
import Derived.Deep.QuietTactic
import Derived.Stop.RegionWithIn
namespace Go.Proofs.YtffibneelaeocaaGreatDoor
open Go.RowKit

/-- The names' sets and the roles' ends, as the program's world holds them. -/
def namesF (i : IN) (c x : Nat) : Bool := match i.C[c]? with | some s => s.l.contains (x : Int) | none => false
def endsF (i : IN) (r x y : Nat) : Bool := match i.R[r / 2]? with | some s => (if r % 2 = 0 then s.l.contains ((x : Int), (y : Int)) else s.l.contains ((y : Int), (x : Int))) | none => false

theorem set_info : (Tryz.prog.info? 207).map (fun i => (i.zero, i.size, i.bytes)) = some (some (.agg #[.int .u64 0, .int .u64 0, .int .u64 0, .int .u64 0]), 4, 32) := by kernel_rfl
theorem sets_info : (Tryz.prog.info? 213).map (fun i => (i.zero, i.size, i.bytes)) = some (some (.slice none 0 0), 1, 24) := by kernel_rfl
theorem elem_info : (Tryz.prog.info? 212).map (fun i => (i.zero, i.size, i.bytes)) = some (some (.int .i64 0), 1, 8) := by kernel_rfl

theorem make_sets (n : Nat) (hn : n ≤ 256) (w : World) : (Instr.makeSlice 213 (.int .i64 (n : Int)) (.int .i64 (n : Int))).run Tryz.prog w = .ok (.slice (some ⟨w.heap.size, 0, none⟩) n n) (w.alloc (.cells (setCells (fun _ _ => false) n).toArray 207)) := by
  obtain ⟨i0, hi, hz0, hz1, hz2⟩ := info_parts set_info
  have := run_make (P := Tryz.prog) w 213 207 i0 _ Tryz.underlying213 hi hz0 .i64 .i64 n n (by omega) (by omega) (by rw [hz2]; omega) (by omega)
  rw [this, hz1, setCells_none]
  rfl

/-- The box of the world that is being made. -/
def wbox (a b c d : Nat) (u v z : Value) : Array Value := #[.int .u64 (a : Nat), .int .u64 (b : Nat), .int .u64 (c : Nat), .int .u64 (d : Nat), u, v, z]

theorem owns_type {w : World} {base g : Nat} {e t : TypeId} {size n : Nat} {v : Value} {xs : List Value} {cs : Array Value} (h : w.ownsRow base e size v n xs) (hg : w.heap[g]? = some (.cells cs t)) (hne : t ≠ e) : some g ≠ v.ownBlock := fun he => by
  rcases h.2 with ⟨rfl, _⟩ | ⟨g', cap, cur, rfl, _, hheap, _⟩
  · cases he
  · have : g = g' := Option.some.inj he
    subst this
    rw [hg] at hheap
    cases hheap
    exact hne rfl
theorem MRow.ext {w : World} {g n : Nat} {f f' : Nat → Nat → Bool} (h : MRow w g n f) (he : ∀ x, x < n → ∀ i, i < 256 → f x i = f' x i) : MRow w g n f' := by
  unfold MRow at *
  rw [h, setCells_ext he]
/-- The slices of the roles' rows. -/
def egVals (eg : Nat → Nat) (n k : Nat) : List Value := (List.range k).map fun j => .slice (some ⟨eg j, 0, none⟩) n n
/-- The pairs seen so far, forth and back. -/
def fwdT (l : List (Int × Int)) (j x y : Nat) : Bool := (l.take j).contains ((x : Int), (y : Int))
def bwdT (l : List (Int × Int)) (j x y : Nat) : Bool := (l.take j).contains ((y : Int), (x : Int))
theorem fwdT_next {l : List (Int × Int)} {j ex ey : Nat} (hj : j < l.length) (h1 : l[j].1 = (ex : Nat)) (h2 : l[j].2 = (ey : Nat)) (x y : Nat) : updF (fwdT l j) ex (fun z => fwdT l j ex z || z == ey) x y = fwdT l (j + 1) x y := by
  unfold updF fwdT
  rw [List.take_succ_eq_append_getElem hj, show l[j] = ((ex : Int), (ey : Int)) from Prod.ext h1 h2]
  by_cases hx : x = ex
  · subst hx
    rw [if_pos rfl, Bool.eq_iff_iff]
    simp only [Bool.or_eq_true, List.contains_iff_mem, List.mem_append, List.mem_singleton, beq_iff_eq, Prod.mk.injEq]
    exact or_congr Iff.rfl ⟨fun h => by subst h; simp, fun h => by first | omega | (simp at h; omega)⟩
  · rw [if_neg hx, Bool.eq_iff_iff]
    simp only [List.contains_iff_mem, List.mem_append, List.mem_singleton, Prod.mk.injEq]
    exact ⟨Or.inl, fun h => h.elim id fun h => absurd (by first | omega | (simp at h; omega)) hx⟩
theorem bwdT_next {l : List (Int × Int)} {j ex ey : Nat} (hj : j < l.length) (h1 : l[j].1 = (ex : Nat)) (h2 : l[j].2 = (ey : Nat)) (x y : Nat) : updF (bwdT l j) ey (fun z => bwdT l j ey z || z == ex) x y = bwdT l (j + 1) x y := by
  unfold updF bwdT
  rw [List.take_succ_eq_append_getElem hj, show l[j] = ((ex : Int), (ey : Int)) from Prod.ext h1 h2]
  by_cases hx : x = ey
  · subst hx
    rw [if_pos rfl, Bool.eq_iff_iff]
    simp only [Bool.or_eq_true, List.contains_iff_mem, List.mem_append, List.mem_singleton, beq_iff_eq, Prod.mk.injEq]
    exact or_congr Iff.rfl ⟨fun h => by subst h; simp, fun h => by first | omega | (simp at h; omega)⟩
  · rw [if_neg hx, Bool.eq_iff_iff]
    simp only [List.contains_iff_mem, List.mem_append, List.mem_singleton, Prod.mk.injEq]
    exact ⟨Or.inl, fun h => h.elim id fun h => absurd (by first | omega | (simp at h; omega)) hx⟩
theorem owns_apart {w : World} {base base' : Nat} {e e' : TypeId} {size size' n n' : Nat} {v v' : Value} {xs xs' : List Value} (h : w.ownsRow base e size v n xs) (h' : w.ownsRow base' e' size' v' n' xs') (hne : e ≠ e') : v.ownBlock ≠ v'.ownBlock ∨ v.ownBlock = none := by
  rcases h.2 with ⟨rfl, _⟩ | ⟨g, cap, cur, rfl, _, hheap, _⟩
  · exact .inr rfl
  · exact .inl (owns_type h' hheap hne)
theorem MRow.ne {w : World} {g n b : Nat} {f : Nat → Nat → Bool} {cs : Array Value} {t : TypeId} (h : MRow w g n f) (hb : w.heap[b]? = some (.cells cs t)) (ht : t ≠ 207) : g ≠ b := fun e => by
  subst e
  rw [MRow, hb] at h
  cases h
  exact ht rfl
theorem egVals_two (eg : Nat → Nat) (n r ga gb : Nat) : egVals (fun j => if j = 2 * r then ga else if j = 2 * r + 1 then gb else eg j) n (2 * (r + 1)) = egVals eg n (2 * r) ++ [.slice (some ⟨ga, 0, none⟩) n n, .slice (some ⟨gb, 0, none⟩) n n] := by
  rw [egVals, show 2 * (r + 1) = 2 * r + 1 + 1 by omega, List.range_succ, List.range_succ, List.map_append, List.map_append, egVals]
  have : (List.range (2 * r)).map (fun j => Value.slice (some ⟨if j = 2 * r then ga else if j = 2 * r + 1 then gb else eg j, 0, none⟩) n n) = (List.range (2 * r)).map fun j => .slice (some ⟨eg j, 0, none⟩) n n :=
    List.map_congr_left fun j hj => by
      have := List.mem_range.1 hj
      rw [if_neg (by omega), if_neg (by omega)]
  rw [this]
  simp
/-- THE WORLD AS IT LIES: the box b. -/
def WL (w : World) (b : Nat) (i : IN) (n : Nat) : Prop := ∃ (s0 s1 s2 s3 : Nat) (v v2 v3 : Value) (eg : Nat → Nat) (lo : Nat),
  w.heap[b]? = some (.cells #[.int .u64 (s0 : Nat), .int .u64 (s1 : Nat), .int .u64 (s2 : Nat), .int .u64 (s3 : Nat), v, v2, v3] 217) ∧ SW (fun x => decide (x < n)) s0 s1 s2 s3 ∧
  w.ownsRow lo 207 4 v i.C.length (setCells (namesF i) i.C.length) ∧ w.ownsRow lo 213 1 v2 (2 * i.R.length) (egVals eg n (2 * i.R.length)) ∧ (∀ j, j < 2 * i.R.length → MRow w (eg j) n (endsF i j)) ∧ w.ownsRow lo 212 1 v3 i.I.l.length (i.I.l.map icell)
theorem WL.later {w w' : World} {b n : Nat} {i : IN} (h : WL w b i n) (hb : Below w.heap.size w w') : WL w' b i n := by
  obtain ⟨s0, s1, s2, s3, v, v2, v3, eg, lo, h1, h2, h3, h4, h5, h6⟩ := h
  exact ⟨s0, s1, s2, s3, v, v2, v3, eg, lo, blk_lat h1 hb, h2, owns_below h3 hb, owns_below h4 hb, fun j hj => (h5 j hj).later hb, owns_below h6 hb⟩
def RetWorld (i : IN) (n : Nat) (w : World) (e : Ending) (w' : World) : Prop := ∃ b, e = .returned (.pointer (some ⟨b, 0, none⟩)) ∧ WL w' b i n ∧ Below w.heap.size w w'

theorem sw_more {l : List Int} {j e a b c d : Nat} (hj : j < l.length) (he : l[j] = (e : Nat)) (h : SW (fun i => (l.take j).contains (i : Int) || i == e) a b c d) : SW (fun i => (l.take (j + 1)).contains (i : Int)) a b c d :=
  h.ext fun i _ => by
    rw [List.take_succ_eq_append_getElem hj, he, Bool.eq_iff_iff]
    simp only [Bool.or_eq_true, List.contains_iff_mem, List.mem_append, List.mem_singleton, beq_iff_eq]
    constructor
    · rintro (h | h)
      · exact .inl h
      · exact .inr (by omega)
    · rintro (h | h)
      · exact .inl h
      · exact .inr (by omega)

set_option maxRecDepth 100000 in
set_option maxHeartbeats 8000000 in
theorem worldOf_any (i : IN) (n : Nat) (hn : i.size = n) (h1 : 1 ≤ n) (h256 : n ≤ 256) (hl : listsB i = true) (hC : i.C.length ≤ 1000) (hR : i.R.length ≤ 1000) (hI : i.I.l.length ≤ 1000) (w : World) (hi : i.In w.heap.size w) :
    Calls Tryz.prog 135 #[i.val] w (RetWorld i n w) := by
  obtain ⟨W1, hW1, hB1, hs1, hk1⟩ := newBlk w _ rfl #[.int .i64 i.size, .slice i.CA i.C.length i.cc, .slice i.RA i.R.length i.rc, .slice i.I.A i.I.l.length i.I.c] 38
  have hcell : ∀ w', Below W1.heap.size W1 w' → w'.cell? ⟨w.heap.size, 0, none⟩ = some (.int .i64 (n : Int)) ∧ w'.cell? ⟨w.heap.size, 1, none⟩ = some (.slice i.CA i.C.length i.cc) ∧ w'.cell? ⟨w.heap.size, 2, none⟩ = some (.slice i.RA i.R.length i.rc) ∧ w'.cell? ⟨w.heap.size, 3, none⟩ = some (.slice i.I.A i.I.l.length i.I.c) := fun w' hb => by
    have h' := blk_lat hk1 hb
    rw [← hn]
    exact ⟨cell_of_blk h' 0, cell_of_blk h' 1, cell_of_blk h' 2, cell_of_blk h' 3⟩
  have hIn : ∀ w', Below W1.heap.size W1 w' → i.In w'.heap.size w' := fun w' hb => (hi.later hB1).later hb
  rw [listsB, Bool.and_eq_true, Bool.and_eq_true, List.all_eq_true, List.all_eq_true, Bool.not_eq_true', List.any_eq_false] at hl
  obtain ⟨hlC, hlR, hlI⟩ := hl
  have hbl := bBelow_any n h256 W1
  obtain ⟨a0, a1, a2, a3⟩ := hcell W1 (Below.refl _ _)
  have HB := Lib.hid hB1
  have HIN := Lib.hid hIn
  have HCE := Lib.hid hcell
  have HLC := Lib.hid hlC
  have HLR := Lib.hid hlR
  have HLI := Lib.hid hlI
  have HN := Lib.hid hn
  simp only [IN.val]
  clear hi hB1 hk1 hIn hcell hlC hlR hlI hn
  go_enter Tryz.func135, Tryz.ntmps135
  go_wp2_with (go_at_call 189; refine hbl.mono ?_; clear hbl; rintro e w2 ⟨s0, s1, s2, s3, rfl, hsw, hb2⟩; obtain ⟨c0, c1, c2, c3⟩ := HCE.out w2 hb2; have hlw : w.heap.size < w2.heap.size := (by have := hb2.size; omega))
  obtain ⟨b, hb⟩ : ∃ b, w2.heap.size = b := ⟨_, rfl⟩
  obtain ⟨W3, hW3, hB3, hs3, hk3⟩ := newBlk w2 b hb #[.int .u64 (s0 : Nat), .int .u64 (s1 : Nat), .int .u64 (s2 : Nat), .int .u64 (s3 : Nat), .slice none 0 0, .slice none 0 0, .slice none 0 0] 217
  rw [hW3, hb]
  have h1b : W1.heap.size ≤ b := by rw [← hb]; exact hb2.size
  have HSW := Lib.hid hsw
  clear hW1 hW3 a0 a1 a2 a3 c0 c1 c2 c3 hsw
  go_loopw [27] (fun i' wr => ∃ (k : Nat) (v : Value), k ≤ i.C.length ∧ i' = .int .i64 k ∧ wr.heap[b]? = some (.cells #[.int .u64 (s0 : Nat), .int .u64 (s1 : Nat), .int .u64 (s2 : Nat), .int .u64 (s3 : Nat), v, .slice none 0 0, .slice none 0 0] 217) ∧ wr.ownsRow (b + 1) 207 4 v k (setCells (namesF i) k) ∧ Below b w2 wr) (fun i' _ => i.C.length - (intOf i').toNat)
  case atStart => exact ⟨0, _, Nat.zero_le _, rfl, hk3, ⟨rfl, .inl ⟨rfl, rfl⟩⟩, hB3⟩
  case round =>
    rename World => wo
    obtain ⟨k, v, hk, rfl, hbx, hrow, hbw⟩ := hrel
    have hb1 : Below W1.heap.size W1 wo := hb2.trans (hbw.mono h1b)
    have hbr : b < wo.heap.size := (Array.getElem?_eq_some_iff.1 hbx).1
    obtain ⟨c0, c1, c2, c3⟩ := HCE.out wo hb1
    by_cases hlt : k < i.C.length
    · obtain ⟨g, off, hCA, hg, d1⟩ := RowAt.vals (HIN.out wo hb1).c3 (by omega)
      have e1 := d1 k hlt
      simp only [IL.val] at e1
      rw [hCA] at c1 ⊢
      have hin : (i.C[k]).In wo.heap.size wo := (HIN.out wo hb1).c4 _ (List.getElem_mem hlt)
      obtain ⟨W4, hW4, hB4, hs4, hk4⟩ := newBlk wo _ rfl #[.int .u64 0, .int .u64 0, .int .u64 0, .int .u64 0] 207
      have HNF := Lib.hid (show namesF i k = fun x : Nat => (i.C[k].l).contains (x : Int) by funext x; rw [namesF, List.getElem?_eq_getElem hlt])
      have HF := Lib.hid (okI_facts (HLC.out _ (List.getElem_mem hlt))).1
      have h0I : (0 : Int) ≤ k := by omega
      have hlI : (k : Int) < i.C.length := by omega
      have hsl : (i.C[k]).l.length ≤ 9223372036854775807 := Nat.le_trans hin.1 hin.2.1
      clear d1
      generalize i.C[k] = s at e1 hin HNF HF hsl
      have HI := Lib.hid hin
      have HRW := Lib.hid hrow
      clear hin hrow
      go_wp2_with fail
      clear c0 c1 c2 c3
      go_loopw [33] (fun i2 wr2 => ∃ (j a5 b5 c5 d5 : Nat), j ≤ s.l.length ∧ i2 = .int .i64 j ∧ SW (fun x => (s.l.take j).contains (x : Int)) a5 b5 c5 d5 ∧ wr2.heap[wo.heap.size]? = some (.cells #[.int .u64 (a5 : Nat), .int .u64 (b5 : Nat), .int .u64 (c5 : Nat), .int .u64 (d5 : Nat)] 207) ∧ Below wo.heap.size wo wr2) (fun i2 _ => s.l.length - (intOf i2).toNat)
      case atStart => exact ⟨0, 0, 0, 0, 0, Nat.zero_le _, rfl, sw_none.ext (fun x _ => rfl), hk4, hB4⟩
      case round =>
        obtain ⟨j, a5, b5, c5, d5, hj, rfl, hsw2, hkm, hbm⟩ := hrel
        have m0 := cell_of_blk hkm 0
        have m1 := cell_of_blk hkm 1
        have m2 := cell_of_blk hkm 2
        have m3 := cell_of_blk hkm 3
        simp only [List.getElem?_toArray, List.getElem?_cons_zero, List.getElem?_cons_succ] at m0 m1 m2 m3
        by_cases hltj : j < s.l.length
        · obtain ⟨g2, off2, hSA, hg2, d2⟩ := IL.In.cells HI.out (by omega)
          have e2 := (hbm.cell (p := ⟨g2, off2 + j, none⟩) hg2).trans (d2 j hltj)
          obtain ⟨e, he, hen⟩ : ∃ e : Nat, s.l[j] = (e : Int) ∧ e < 256 := by
            have := HF.out _ (List.getElem_mem hltj)
            have := HN.out
            exact ⟨s.l[j].toNat, by omega, by omega⟩
          rw [he] at e2
          rw [hSA]
          have h0J : (0 : Int) ≤ j := by omega
          have hlJ : (j : Int) < s.l.length := by omega
          have hwi := bWith_sw hsw2 e hen wr
          clear d2
          go_wp2_with (go_at_call 190; refine hwi.mono ?_; clear hwi; rintro e5 w5 ⟨a6, b6, c6, d6, rfl, hsw6, hb5⟩; have hk5 := blk_lat hkm hb5; have f0 := frozen_of_blk hk5 0; have f1 := frozen_of_blk hk5 1; have f2 := frozen_of_blk hk5 2; have f3 := frozen_of_blk hk5 3; have k0 := cell_of_blk hk5 0; have k1 := cell_of_blk hk5 1; have k2 := cell_of_blk hk5 2; have k3 := cell_of_blk hk5 3; simp only [List.getElem?_toArray, List.getElem?_cons_zero, List.getElem?_cons_succ] at k0 k1 k2 k3)
          obtain ⟨z1, z2⟩ := store4 hk5 (.int .u64 (a6 : Nat)) (.int .u64 (b6 : Nat)) (.int .u64 (c6 : Nat)) (.int .u64 (d6 : Nat))
          go_roundw
          case rel => exact ⟨j + 1, a6, b6, c6, d6, by omega, by go_num, sw_more hltj he hsw6, z1, (hbm.trans (hb5.mono hbm.size)).trans (below_grown z2 (Nat.le_refl _) (Nat.le_trans hbm.size hb5.size))⟩
          case measure => simp [intOf]; omega
        · have hsw3 : SW (namesF i k) a5 b5 c5 d5 := by
            rw [HNF.out]
            rwa [List.take_of_length_le (by omega)] at hsw2
          have hbx' := (hbm.block b hbr).trans hbx
          have hrow' := owns_below HRW.out hbm
          have hmb := hbm.size
          have hmk : wo.heap.size < wr.heap.size := (Array.getElem?_eq_some_iff.1 hkm).1
          have n4 := cell_of_blk hbx' 4
          simp only [List.getElem?_toArray, List.getElem?_cons_zero, List.getElem?_cons_succ] at n4
          have hbr2 : b < wr.heap.size := by omega
          have HS3 := Lib.hid hsw3
          have HRW' := Lib.hid hrow'
          clear hsw2 hsw3 hrow'
          obtain ⟨i0, hi, hz0, hz1, hz2⟩ := info_parts set_info
          go_wp2_with fail
          go_region_law (first
            | (refine step_append_lies _ (by rfl) _ _ _ (by rfl) (b + 1) 207 i0 _ 4 32 Tryz.underlying213 hi hz0 hz1 hz2 rfl (by omega) v k (setCells (namesF i) k) (by rfl) (owns_below HRW'.out (((Below.refl wr.heap.size wr).drew).alloc (Nat.le_refl _) (.cells #[.int .u64 (a5 : Nat), .int .u64 (b5 : Nat), .int .u64 (c5 : Nat), .int .u64 (d5 : Nat)] 207))) ⟨wr.heap.size, 0, none⟩ 1 1 [.int .u64 (a5 : Nat), .int .u64 (b5 : Nat), .int .u64 (c5 : Nat), .int .u64 (d5 : Nat)] (by rfl) (by rfl) (World.news_of_block (cs := #[.int .u64 (a5 : Nat), .int .u64 (b5 : Nat), .int .u64 (c5 : Nat), .int .u64 (d5 : Nat)]) (t := 207) (fr := (0, 0)) (heap_alloc_new wr.drew _)) (by simp [Value.oneCell']) (by omega) (by unfold maxLen; omega) (by omega) (by simp; omega) (wr.heap.size + 1) (by simp) ?_; intro g6 cap w6 hown6 hg6 hat6 hlt6; have hk6 := (hg6.block b (by simp; omega) (fun e => by have := (own_lt HRW'.out e.symm).1; omega)).trans ((((Below.refl wr.heap.size wr).drew).alloc (Nat.le_refl _) _).block b hbr2 |>.trans hbx'); have m4 := cell_of_blk hk6 4; have f4 := frozen_of_blk hk6 4; simp only [List.getElem?_toArray, List.getElem?_cons_zero, List.getElem?_cons_succ] at m4))
          all_goals
            go_wp2
            have hrow7 : w6.ownsRow (b + 1) 207 4 (.slice (some ⟨g6, 0, none⟩) (k + 1) cap) (k + 1) (setCells (namesF i) (k + 1)) := by rw [setCells_succ, HS3.out.cs]; exact hown6
            have hb6 : Below b w2 w6 := (((hbw.trans (hbm.mono (Nat.le_of_lt hbr))).drew).alloc (show b ≤ wr.heap.size by omega) _).grown hg6 (by simp; omega) (fun k e => by have := (own_lt HRW'.out e).1; omega)
            go_roundw
            case rel => exact ⟨k + 1, _, by omega, by go_num, blk_set hk6 4 _, owns_grown hrow7 (grown_set w6 b 4 _) (.inl fun e => by have h := (own_lt hrow7 (g := g6) rfl).1; have : g6 = b := Option.some.inj e; omega), hb6.setCell (p := ⟨b, 4, none⟩) (Nat.le_refl _) _⟩
            case measure => simp [intOf]; omega
    · have hke : k = i.C.length := by omega
      subst hke
      have HRW := Lib.hid hrow
      have hbC := hbw
      clear hrow
      go_wp2_with fail
      clear c0 c1 c2 c3
      go_loopw [55] (fun i' wr => ∃ (r : Nat) (v2 : Value) (eg : Nat → Nat), r ≤ i.R.length ∧ i' = .int .i64 r ∧ wr.heap[b]? = some (.cells #[.int .u64 (s0 : Nat), .int .u64 (s1 : Nat), .int .u64 (s2 : Nat), .int .u64 (s3 : Nat), v, v2, .slice none 0 0] 217) ∧ wr.ownsRow (b + 1) 207 4 v i.C.length (setCells (namesF i) i.C.length) ∧ wr.ownsRow (b + 1) 213 1 v2 (2 * r) (egVals eg n (2 * r)) ∧ (∀ j, j < 2 * r → MRow wr (eg j) n (endsF i j)) ∧ Below b w2 wr) (fun i' _ => i.R.length - (intOf i').toNat)
      case atStart => exact ⟨0, _, fun _ => 0, Nat.zero_le _, rfl, hbx, HRW.out, ⟨rfl, .inl ⟨rfl, rfl⟩⟩, fun j h => absurd h (by omega), hbw⟩
      case round =>
        clear hbx hbr hb1 hbw hbC HRW
        rename World => wt
        obtain ⟨r, v2, eg, hr, rfl, hbx, hrow, hrow2, hme, hbw⟩ := hrel
        have hb1 : Below W1.heap.size W1 wt := hb2.trans (hbw.mono h1b)
        have hbr : b < wt.heap.size := (Array.getElem?_eq_some_iff.1 hbx).1
        obtain ⟨c0, c1, c2, c3⟩ := HCE.out wt hb1
        obtain ⟨q0, hqi, hqz0, hqz1, hqz2⟩ := info_parts sets_info
        by_cases hlt : r < i.R.length
        · obtain ⟨g, off, hRA, hg, d1⟩ := RowAt.vals (HIN.out wt hb1).r3 (by omega)
          have e1 := d1 r hlt
          simp only [PL.val] at e1
          rw [hRA] at c2 ⊢
          have hin : (i.R[r]).In wt.heap.size wt := (HIN.out wt hb1).r4 _ (List.getElem_mem hlt)
          have HNF := Lib.hid (show (∀ x y, endsF i (2 * r) x y = (i.R[r].l).contains ((x : Int), (y : Int))) ∧ (∀ x y, endsF i (2 * r + 1) x y = (i.R[r].l).contains ((y : Int), (x : Int))) by
            refine ⟨fun x y => ?_, fun x y => ?_⟩
            · rw [endsF, show 2 * r / 2 = r by omega, List.getElem?_eq_getElem hlt]; simp
            · rw [endsF, show (2 * r + 1) / 2 = r by omega, List.getElem?_eq_getElem hlt]; simp)
          have HF := Lib.hid (okP_facts (HLR.out _ (List.getElem_mem hlt))).1
          have h0I : (0 : Int) ≤ r := by omega
          have hlI : (r : Int) < i.R.length := by omega
          have hsl : (i.R[r]).l.length ≤ 9223372036854775807 := Nat.le_trans hin.1 hin.2.1
          have hmk := fun w' => make_sets n h256 w'
          have hlw2 : w.heap.size < wt.heap.size := by have := hb1.size; omega
          clear d1
          generalize i.R[r] = s at e1 hin HNF HF hsl
          have HI := Lib.hid hin
          have HRW := Lib.hid hrow
          have HRW2 := Lib.hid hrow2
          have HME := Lib.hid hme
          clear hin hrow hrow2 hme
          go_wp2_with fail
          have hx0 : wt.drew.cell? ⟨w.heap.size, 0, none⟩ = some (.int .i64 (n : Int)) := c0
          have hx1 : (wt.drew.alloc (.cells (setCells (fun _ _ => false) n).toArray 207)).cell? ⟨w.heap.size, 0, none⟩ = some (.int .i64 (n : Int)) := ((((Below.refl wt.heap.size wt).drew).alloc (Nat.le_refl _) _).cell hlw2).trans c0
          have hx2 : ((wt.drew.alloc (.cells (setCells (fun _ _ => false) n).toArray 207)).alloc (.cells (setCells (fun _ _ => false) n).toArray 207)).cell? ⟨w.heap.size, 0, none⟩ = some (.int .i64 (n : Int)) := (((((Below.refl wt.heap.size wt).drew).alloc (Nat.le_refl _) _).alloc (by simp) _).cell hlw2).trans c0
          go_region_held (fun w' => w'.cell? ⟨w.heap.size, 0, none⟩ = some (.int .i64 (n : Int))) (first | exact hx0 | exact hx1 | exact hx2) (fail)
          · obtain ⟨W4, hW4, hB4, hs4, k1⟩ := newBlk wt _ rfl (setCells (fun _ _ => false) n).toArray 207
            obtain ⟨W5, hW5, hB5', hs5, k2⟩ := newBlk W4 _ hs4 (setCells (fun _ _ => false) n).toArray 207
            have k3 : MRow W5.drew wt.heap.size n (fun _ _ => false) := blk_lat k1 (by rw [hs4]; exact hB5'.drew)
            have k4 : MRow W5.drew (wt.heap.size + 1) n (fun _ _ => false) := k2
            have hB5 : Below wt.heap.size wt W5.drew := (hB4.trans (hB5'.mono (by omega))).drew
            rw [hW4, hW5]
            generalize W5.drew = W6 at k3 k4 hB5 ⊢
            clear hW4 hW5 hB4 hB5' hs4 hs5 k1 k2 hx0 hx1 hx2 hmk c0 c1 c2 c3
            generalize hgbE : wt.heap.size + 1 = gb at k4 ⊢
            generalize hgaE : wt.heap.size = ga at k3 ⊢
            have hma : MRow W6 ga n (fun _ _ => false) := k3
            have hmb : MRow W6 gb n (fun _ _ => false) := k4
            have hgab : ga ≠ gb := by omega
            have hgaL : wt.heap.size ≤ ga := by omega
            have hgbL : wt.heap.size ≤ gb := by omega
            clear hgaE hgbE
            go_wp2_with fail
            go_loopw [67] (fun i2 wr => ∃ (j : Nat), j ≤ s.l.length ∧ i2 = .int .i64 j ∧ MRow wr ga n (fwdT s.l j) ∧ MRow wr gb n (bwdT s.l j) ∧ Below wt.heap.size wt wr) (fun i2 _ => s.l.length - (intOf i2).toNat)
            case atStart => exact ⟨0, Nat.zero_le _, rfl, hma.ext (fun x _ y _ => rfl), hmb.ext (fun x _ y _ => rfl), hB5⟩
            case round =>
              clear hma hmb hB5 k3 k4
              obtain ⟨j, hj, rfl, hma, hmb, hbm⟩ := hrel
              by_cases hltj : j < s.l.length
              · obtain ⟨g2, off2, hSA, hg2, d2⟩ := PL.In.cells HI.out (by omega)
                obtain ⟨y0, y1⟩ := d2 j hltj
                have x0 := (hbm.cell (p := ⟨g2, off2 + j * 2, none⟩) hg2).trans y0
                have x1 := (hbm.cell (p := ⟨g2, off2 + j * 2 + 1, none⟩) hg2).trans y1
                obtain ⟨ex, ey, hex, hey, hxn, hyn⟩ : ∃ ex ey : Nat, s.l[j].1 = (ex : Int) ∧ s.l[j].2 = (ey : Int) ∧ ex < n ∧ ey < n := by
                  have := HF.out _ (List.getElem_mem hltj)
                  have := HN.out
                  exact ⟨s.l[j].1.toNat, s.l[j].2.toNat, by omega, by omega, by omega, by omega⟩
                rw [hex] at x0
                rw [hey] at x1
                rw [hSA]
                have HFT := Lib.hid (fwdT_next hltj hex hey)
                have HBT := Lib.hid (bwdT_next hltj hex hey)
                obtain ⟨W7, hW7, hB7, hs7, hk7⟩ := newBlk wr _ rfl #[.int .i64 (ex : Nat), .int .i64 (ey : Nat)] 126
                have p0 := cell_of_blk hk7 0
                have p1 := cell_of_blk hk7 1
                simp only [List.getElem?_toArray, List.getElem?_cons_zero, List.getElem?_cons_succ] at p0 p1
                have h0J : (0 : Int) ≤ j := by omega
                have hlJ : (j : Int) < s.l.length := by omega
                have h0X : (0 : Int) ≤ ex := by omega
                have hlX : (ex : Int) < n := by omega
                have h0Y : (0 : Int) ≤ ey := by omega
                have hlY : (ey : Int) < n := by omega
                have HMA := Lib.hid hma
                have HMB := Lib.hid hmb
                clear y0 y1 d2 hex hey hma hmb
                go_wp2_with fail
                go_quiet (fail)
                have hq : Below wr.heap.size wr (W7.drewN nq) := below_drewN hB7 _
                generalize W7.drewN nq = W8 at hq ⊢
                obtain ⟨a5, b5, c5, d5, hsw5⟩ := sw_of (fwdT s.l j ex)
                obtain ⟨a6, b6, c6, d6, hsw6⟩ := sw_of (bwdT s.l j ey)
                obtain ⟨t0, t1, t2, t3⟩ := (HMA.out.later hq).cell hxn hsw5
                have hwi := bWith_sw hsw5 ey (by omega) W8
                clear p0 p1 x0 x1 hW7 hk7
                go_wp2_with (first
                  | (go_at_call 190; refine hwj.mono ?_; clear hwj; rintro e9 w9 ⟨a9, b9, c9, d9, rfl, hsw9, hb9⟩; have hmb9 := hmb6.later hb9; have f0 := hmb9.frozen (ey * 4); have f1 := hmb9.frozen (ey * 4 + 1); have f2 := hmb9.frozen (ey * 4 + 2); have f3 := hmb9.frozen (ey * 4 + 3); obtain ⟨i0, i1, i2, i3⟩ := hmb9.cell hyn hsw6)
                  | (go_at_call 190; refine hwi.mono ?_; clear hwi; rintro e5 w5 ⟨a7, b7, c7, d7, rfl, hsw7, hb5⟩; have hma5 := (HMA.out.later hq).later hb5; have f0 := hma5.frozen (ex * 4); have f1 := hma5.frozen (ex * 4 + 1); have f2 := hma5.frozen (ex * 4 + 2); have f3 := hma5.frozen (ex * 4 + 3); obtain ⟨i0, i1, i2, i3⟩ := hma5.cell hxn hsw5; obtain ⟨w6, hw6, hma6, hg6⟩ : ∃ w6, ((((w5.setCell ⟨ga, ex * 4, none⟩ (.int .u64 (a7 : Nat))).setCell ⟨ga, ex * 4 + 1, none⟩ (.int .u64 (b7 : Nat))).setCell ⟨ga, ex * 4 + 2, none⟩ (.int .u64 (c7 : Nat))).setCell ⟨ga, ex * 4 + 3, none⟩ (.int .u64 (d7 : Nat))) = w6 ∧ MRow w6 ga n (updF (fwdT s.l j) ex fun i => fwdT s.l j ex i || i == ey) ∧ w5.grownBy w6 (some ga) := ⟨_, rfl, hma5.set hxn hsw7⟩; have hmb6 : MRow w6 gb n (bwdT s.l j) := ((HMB.out.later hq).later hb5).grown hg6 (by intro e; cases e; exact hgab rfl); obtain ⟨o0, o1, o2, o3⟩ := hmb6.cell hyn hsw6; have hwj := bWith_sw hsw6 ex (by omega) w6))
                obtain ⟨w10, hw10, hmb10, hg10⟩ : ∃ w10, ((((w9.setCell ⟨gb, ey * 4, none⟩ (.int .u64 (a9 : Nat))).setCell ⟨gb, ey * 4 + 1, none⟩ (.int .u64 (b9 : Nat))).setCell ⟨gb, ey * 4 + 2, none⟩ (.int .u64 (c9 : Nat))).setCell ⟨gb, ey * 4 + 3, none⟩ (.int .u64 (d9 : Nat))) = w10 ∧ MRow w10 gb n (updF (bwdT s.l j) ey fun i => bwdT s.l j ey i || i == ex) ∧ w9.grownBy w10 (some gb) := ⟨_, rfl, hmb9.set hyn hsw9⟩
                try rw [hw10]
                have hma10 := (hma6.later hb9).grown hg10 (by intro e; cases e; exact hgab rfl)
                have hbA : Below wt.heap.size wt w6 := ((hbm.trans (hq.mono hbm.size)).trans (hb5.mono (by have := hbm.size; have := hq.size; omega))).trans (below_grown hg6 hgaL (by have := hbm.size; have := hq.size; have := hb5.size; omega))
                have hbB : Below wt.heap.size wt w10 := (hbA.trans (hb9.mono hbA.size)).trans (below_grown hg10 hgbL (by have := hbA.size; have := hb9.size; omega))
                go_roundw
                case rel => exact ⟨j + 1, by omega, by go_num, hma10.ext (fun x _ y _ => HFT.out x y), hmb10.ext (fun x _ y _ => HBT.out x y), hbB⟩
                case measure => simp [intOf]; omega
              · have hje : j = s.l.length := by omega
                subst hje
                have hmaF : MRow wr ga n (endsF i (2 * r)) := hma.ext fun x _ y _ => by rw [fwdT, List.take_of_length_le (Nat.le_refl _), HNF.out.1]
                have hmbF : MRow wr gb n (endsF i (2 * r + 1)) := hmb.ext fun x _ y _ => by rw [bwdT, List.take_of_length_le (Nat.le_refl _), HNF.out.2]
                have hbx' := (hbm.block b hbr).trans hbx
                have n5 := cell_of_blk hbx' 5
                simp only [List.getElem?_toArray, List.getElem?_cons_zero, List.getElem?_cons_succ] at n5
                have hms := hbm.size
                have hbr2 : b < wr.heap.size := by omega
                have HA := Lib.hid hmaF
                have HBF := Lib.hid hmbF
                have HR1 := Lib.hid (owns_below HRW.out hbm)
                have HR2 := Lib.hid (owns_below HRW2.out hbm)
                have HM2 := Lib.hid (show ∀ j, j < 2 * r → MRow wr (eg j) n (endsF i j) from fun j hj => (HME.out j hj).later hbm)
                have HBX := Lib.hid hbx'
                clear hma hmb hmaF hmbF HME HRW HRW2
                go_wp2_with (at_builtin; refine wpList_append_lies _ rfl _ _ 214 rfl (b + 1) 213 q0 _ 1 24 Tryz.underlying214 hqi hqz0 hqz1 hqz2 rfl (by omega) v2 (2 * r) (egVals eg n (2 * r)) rfl (owns_below HR2.out ((Below.refl _ wr).alloc (Nat.le_refl _) (.cells #[.slice (some ⟨ga, 0, none⟩) n n, .slice (some ⟨gb, 0, none⟩) n n] 213))) ⟨wr.heap.size, 0, none⟩ 2 2 [.slice (some ⟨ga, 0, none⟩) n n, .slice (some ⟨gb, 0, none⟩) n n] rfl rfl (World.news_of_block (cs := #[.slice (some ⟨ga, 0, none⟩) n n, .slice (some ⟨gb, 0, none⟩) n n]) (t := 213) (fr := (0, 0)) (heap_alloc_new wr _)) (by simp [Value.oneCell']) (by omega) (by unfold maxLen; omega) (by omega) (by simp; omega) (wr.heap.size + 1) (by simp) ?_; intro g3 cap3 w3 hown3 hg3 hat3 hlt3; have hk3 := (hg3.block b (by simp; omega) (owns_type HR2.out HBX.out (by decide))).trans (((Below.refl wr.heap.size wr).alloc (Nat.le_refl _) _).block b hbr2 |>.trans HBX.out); have m5 := cell_of_blk hk3 5; have f5 := frozen_of_blk hk3 5; simp only [List.getElem?_toArray, List.getElem?_cons_zero, List.getElem?_cons_succ] at m5)
                obtain ⟨v3, hv3e⟩ : ∃ v3, Value.slice (some ⟨g3, 0, none⟩) (2 * r + 2) cap3 = v3 := ⟨_, rfl⟩
                rw [hv3e] at hown3 ⊢
                have hbl3 : Below wr.heap.size wr (wr.alloc (.cells #[.slice (some ⟨ga, 0, none⟩) n n, .slice (some ⟨gb, 0, none⟩) n n] 213)) := (Below.refl _ wr).alloc (Nat.le_refl _) _
                have hgs := grown_set w3 b 5 v3
                have hrow3 : w3.ownsRow (b + 1) 213 1 v3 (2 * (r + 1)) (egVals (fun j => if j = 2 * r then ga else if j = 2 * r + 1 then gb else eg j) n (2 * (r + 1))) := by rw [egVals_two]; exact hown3
                have hMR : ∀ (g' : Nat) (f' : Nat → Nat → Bool), MRow wr g' n f' → MRow (w3.setCell ⟨b, 5, none⟩ v3) g' n f' := fun g' f' h => ((h.later hbl3).grown hg3 (owns_type HR2.out h (by decide))).grown hgs (fun e => h.ne HBX.out (by decide) (Option.some.inj e))
                have hbl4 : Below b w2 w3 := ((hbw.trans (hbm.mono (Nat.le_of_lt hbr))).alloc (Nat.le_of_lt hbr2) _).grown hg3 (by simp; omega) (fun k e => by have := (own_lt HR2.out e).1; omega)
                have hv : v.ownBlock ≠ some b ∨ v.ownBlock = none := by
                  by_cases h0 : v.ownBlock = none
                  · exact .inr h0
                  · exact .inl fun e => by have := (own_lt HR1.out e).1; omega
                have hv3 : v3.ownBlock ≠ some b ∨ v3.ownBlock = none := by
                  by_cases h0 : v3.ownBlock = none
                  · exact .inr h0
                  · exact .inl fun e => by have := (own_lt hrow3 e).1; omega
                go_roundw
                case rel => exact ⟨r + 1, v3, _, by omega, by go_num, blk_set hk3 5 _, owns_grown (owns_grown (owns_below HR1.out hbl3) hg3 (owns_apart HR1.out HR2.out (by decide))) hgs hv, owns_grown hrow3 hgs hv3, fun j hj => by
                  by_cases j1 : j = 2 * r
                  · rw [if_pos j1, j1]; exact hMR _ _ HA.out
                  · rw [if_neg j1]
                    by_cases j2 : j = 2 * r + 1
                    · rw [if_pos j2, j2]; exact hMR _ _ HBF.out
                    · rw [if_neg j2]; exact hMR _ _ (HM2.out j (by omega)), hbl4.setCell (p := ⟨b, 5, none⟩) (Nat.le_refl _) _⟩
                case measure => simp [intOf]; omega
          · obtain ⟨W4, hW4, hB4, hs4, k1⟩ := newBlk wt _ rfl (setCells (fun _ _ => false) n).toArray 207
            obtain ⟨W5, hW5, hB5', hs5, k2⟩ := newBlk W4 _ hs4 (setCells (fun _ _ => false) n).toArray 207
            have k3 : MRow W5.drew wt.heap.size n (fun _ _ => false) := blk_lat k1 (by rw [hs4]; exact hB5'.drew)
            have k4 : MRow W5.drew (wt.heap.size + 1) n (fun _ _ => false) := k2
            have hB5 : Below wt.heap.size wt W5.drew := (hB4.trans (hB5'.mono (by omega))).drew
            rw [hW4, hW5]
            generalize W5.drew = W6 at k3 k4 hB5 ⊢
            clear hW4 hW5 hB4 hB5' hs4 hs5 k1 k2 hx0 hx1 hx2 hmk c0 c1 c2 c3
            generalize hgaE : wt.heap.size + 1 = ga at k4 ⊢
            generalize hgbE : wt.heap.size = gb at k3 ⊢
            have hma : MRow W6 ga n (fun _ _ => false) := k4
            have hmb : MRow W6 gb n (fun _ _ => false) := k3
            have hgab : ga ≠ gb := by omega
            have hgaL : wt.heap.size ≤ ga := by omega
            have hgbL : wt.heap.size ≤ gb := by omega
            clear hgaE hgbE
            go_wp2_with fail
            go_loopw [67] (fun i2 wr => ∃ (j : Nat), j ≤ s.l.length ∧ i2 = .int .i64 j ∧ MRow wr ga n (fwdT s.l j) ∧ MRow wr gb n (bwdT s.l j) ∧ Below wt.heap.size wt wr) (fun i2 _ => s.l.length - (intOf i2).toNat)
            case atStart => exact ⟨0, Nat.zero_le _, rfl, hma.ext (fun x _ y _ => rfl), hmb.ext (fun x _ y _ => rfl), hB5⟩
            case round =>
              clear hma hmb hB5 k3 k4
              obtain ⟨j, hj, rfl, hma, hmb, hbm⟩ := hrel
              by_cases hltj : j < s.l.length
              · obtain ⟨g2, off2, hSA, hg2, d2⟩ := PL.In.cells HI.out (by omega)
                obtain ⟨y0, y1⟩ := d2 j hltj
                have x0 := (hbm.cell (p := ⟨g2, off2 + j * 2, none⟩) hg2).trans y0
                have x1 := (hbm.cell (p := ⟨g2, off2 + j * 2 + 1, none⟩) hg2).trans y1
                obtain ⟨ex, ey, hex, hey, hxn, hyn⟩ : ∃ ex ey : Nat, s.l[j].1 = (ex : Int) ∧ s.l[j].2 = (ey : Int) ∧ ex < n ∧ ey < n := by
                  have := HF.out _ (List.getElem_mem hltj)
                  have := HN.out
                  exact ⟨s.l[j].1.toNat, s.l[j].2.toNat, by omega, by omega, by omega, by omega⟩
                rw [hex] at x0
                rw [hey] at x1
                rw [hSA]
                have HFT := Lib.hid (fwdT_next hltj hex hey)
                have HBT := Lib.hid (bwdT_next hltj hex hey)
                obtain ⟨W7, hW7, hB7, hs7, hk7⟩ := newBlk wr _ rfl #[.int .i64 (ex : Nat), .int .i64 (ey : Nat)] 126
                have p0 := cell_of_blk hk7 0
                have p1 := cell_of_blk hk7 1
                simp only [List.getElem?_toArray, List.getElem?_cons_zero, List.getElem?_cons_succ] at p0 p1
                have h0J : (0 : Int) ≤ j := by omega
                have hlJ : (j : Int) < s.l.length := by omega
                have h0X : (0 : Int) ≤ ex := by omega
                have hlX : (ex : Int) < n := by omega
                have h0Y : (0 : Int) ≤ ey := by omega
                have hlY : (ey : Int) < n := by omega
                have HMA := Lib.hid hma
                have HMB := Lib.hid hmb
                clear y0 y1 d2 hex hey hma hmb
                go_wp2_with fail
                go_quiet (fail)
                have hq : Below wr.heap.size wr (W7.drewN nq) := below_drewN hB7 _
                generalize W7.drewN nq = W8 at hq ⊢
                obtain ⟨a5, b5, c5, d5, hsw5⟩ := sw_of (fwdT s.l j ex)
                obtain ⟨a6, b6, c6, d6, hsw6⟩ := sw_of (bwdT s.l j ey)
                obtain ⟨t0, t1, t2, t3⟩ := (HMA.out.later hq).cell hxn hsw5
                have hwi := bWith_sw hsw5 ey (by omega) W8
                clear p0 p1 x0 x1 hW7 hk7
                go_wp2_with (first
                  | (go_at_call 190; refine hwj.mono ?_; clear hwj; rintro e9 w9 ⟨a9, b9, c9, d9, rfl, hsw9, hb9⟩; have hmb9 := hmb6.later hb9; have f0 := hmb9.frozen (ey * 4); have f1 := hmb9.frozen (ey * 4 + 1); have f2 := hmb9.frozen (ey * 4 + 2); have f3 := hmb9.frozen (ey * 4 + 3); obtain ⟨i0, i1, i2, i3⟩ := hmb9.cell hyn hsw6)
                  | (go_at_call 190; refine hwi.mono ?_; clear hwi; rintro e5 w5 ⟨a7, b7, c7, d7, rfl, hsw7, hb5⟩; have hma5 := (HMA.out.later hq).later hb5; have f0 := hma5.frozen (ex * 4); have f1 := hma5.frozen (ex * 4 + 1); have f2 := hma5.frozen (ex * 4 + 2); have f3 := hma5.frozen (ex * 4 + 3); obtain ⟨i0, i1, i2, i3⟩ := hma5.cell hxn hsw5; obtain ⟨w6, hw6, hma6, hg6⟩ : ∃ w6, ((((w5.setCell ⟨ga, ex * 4, none⟩ (.int .u64 (a7 : Nat))).setCell ⟨ga, ex * 4 + 1, none⟩ (.int .u64 (b7 : Nat))).setCell ⟨ga, ex * 4 + 2, none⟩ (.int .u64 (c7 : Nat))).setCell ⟨ga, ex * 4 + 3, none⟩ (.int .u64 (d7 : Nat))) = w6 ∧ MRow w6 ga n (updF (fwdT s.l j) ex fun i => fwdT s.l j ex i || i == ey) ∧ w5.grownBy w6 (some ga) := ⟨_, rfl, hma5.set hxn hsw7⟩; have hmb6 : MRow w6 gb n (bwdT s.l j) := ((HMB.out.later hq).later hb5).grown hg6 (by intro e; cases e; exact hgab rfl); obtain ⟨o0, o1, o2, o3⟩ := hmb6.cell hyn hsw6; have hwj := bWith_sw hsw6 ex (by omega) w6))
                obtain ⟨w10, hw10, hmb10, hg10⟩ : ∃ w10, ((((w9.setCell ⟨gb, ey * 4, none⟩ (.int .u64 (a9 : Nat))).setCell ⟨gb, ey * 4 + 1, none⟩ (.int .u64 (b9 : Nat))).setCell ⟨gb, ey * 4 + 2, none⟩ (.int .u64 (c9 : Nat))).setCell ⟨gb, ey * 4 + 3, none⟩ (.int .u64 (d9 : Nat))) = w10 ∧ MRow w10 gb n (updF (bwdT s.l j) ey fun i => bwdT s.l j ey i || i == ex) ∧ w9.grownBy w10 (some gb) := ⟨_, rfl, hmb9.set hyn hsw9⟩
                try rw [hw10]
                have hma10 := (hma6.later hb9).grown hg10 (by intro e; cases e; exact hgab rfl)
                have hbA : Below wt.heap.size wt w6 := ((hbm.trans (hq.mono hbm.size)).trans (hb5.mono (by have := hbm.size; have := hq.size; omega))).trans (below_grown hg6 hgaL (by have := hbm.size; have := hq.size; have := hb5.size; omega))
                have hbB : Below wt.heap.size wt w10 := (hbA.trans (hb9.mono hbA.size)).trans (below_grown hg10 hgbL (by have := hbA.size; have := hb9.size; omega))
                go_roundw
                case rel => exact ⟨j + 1, by omega, by go_num, hma10.ext (fun x _ y _ => HFT.out x y), hmb10.ext (fun x _ y _ => HBT.out x y), hbB⟩
                case measure => simp [intOf]; omega
              · have hje : j = s.l.length := by omega
                subst hje
                have hmaF : MRow wr ga n (endsF i (2 * r)) := hma.ext fun x _ y _ => by rw [fwdT, List.take_of_length_le (Nat.le_refl _), HNF.out.1]
                have hmbF : MRow wr gb n (endsF i (2 * r + 1)) := hmb.ext fun x _ y _ => by rw [bwdT, List.take_of_length_le (Nat.le_refl _), HNF.out.2]
                have hbx' := (hbm.block b hbr).trans hbx
                have n5 := cell_of_blk hbx' 5
                simp only [List.getElem?_toArray, List.getElem?_cons_zero, List.getElem?_cons_succ] at n5
                have hms := hbm.size
                have hbr2 : b < wr.heap.size := by omega
                have HA := Lib.hid hmaF
                have HBF := Lib.hid hmbF
                have HR1 := Lib.hid (owns_below HRW.out hbm)
                have HR2 := Lib.hid (owns_below HRW2.out hbm)
                have HM2 := Lib.hid (show ∀ j, j < 2 * r → MRow wr (eg j) n (endsF i j) from fun j hj => (HME.out j hj).later hbm)
                have HBX := Lib.hid hbx'
                clear hma hmb hmaF hmbF HME HRW HRW2
                go_wp2_with (at_builtin; refine wpList_append_lies _ rfl _ _ 214 rfl (b + 1) 213 q0 _ 1 24 Tryz.underlying214 hqi hqz0 hqz1 hqz2 rfl (by omega) v2 (2 * r) (egVals eg n (2 * r)) rfl (owns_below HR2.out ((Below.refl _ wr).alloc (Nat.le_refl _) (.cells #[.slice (some ⟨ga, 0, none⟩) n n, .slice (some ⟨gb, 0, none⟩) n n] 213))) ⟨wr.heap.size, 0, none⟩ 2 2 [.slice (some ⟨ga, 0, none⟩) n n, .slice (some ⟨gb, 0, none⟩) n n] rfl rfl (World.news_of_block (cs := #[.slice (some ⟨ga, 0, none⟩) n n, .slice (some ⟨gb, 0, none⟩) n n]) (t := 213) (fr := (0, 0)) (heap_alloc_new wr _)) (by simp [Value.oneCell']) (by omega) (by unfold maxLen; omega) (by omega) (by simp; omega) (wr.heap.size + 1) (by simp) ?_; intro g3 cap3 w3 hown3 hg3 hat3 hlt3; have hk3 := (hg3.block b (by simp; omega) (owns_type HR2.out HBX.out (by decide))).trans (((Below.refl wr.heap.size wr).alloc (Nat.le_refl _) _).block b hbr2 |>.trans HBX.out); have m5 := cell_of_blk hk3 5; have f5 := frozen_of_blk hk3 5; simp only [List.getElem?_toArray, List.getElem?_cons_zero, List.getElem?_cons_succ] at m5)
                obtain ⟨v3, hv3e⟩ : ∃ v3, Value.slice (some ⟨g3, 0, none⟩) (2 * r + 2) cap3 = v3 := ⟨_, rfl⟩
                rw [hv3e] at hown3 ⊢
                have hbl3 : Below wr.heap.size wr (wr.alloc (.cells #[.slice (some ⟨ga, 0, none⟩) n n, .slice (some ⟨gb, 0, none⟩) n n] 213)) := (Below.refl _ wr).alloc (Nat.le_refl _) _
                have hgs := grown_set w3 b 5 v3
                have hrow3 : w3.ownsRow (b + 1) 213 1 v3 (2 * (r + 1)) (egVals (fun j => if j = 2 * r then ga else if j = 2 * r + 1 then gb else eg j) n (2 * (r + 1))) := by rw [egVals_two]; exact hown3
                have hMR : ∀ (g' : Nat) (f' : Nat → Nat → Bool), MRow wr g' n f' → MRow (w3.setCell ⟨b, 5, none⟩ v3) g' n f' := fun g' f' h => ((h.later hbl3).grown hg3 (owns_type HR2.out h (by decide))).grown hgs (fun e => h.ne HBX.out (by decide) (Option.some.inj e))
                have hbl4 : Below b w2 w3 := ((hbw.trans (hbm.mono (Nat.le_of_lt hbr))).alloc (Nat.le_of_lt hbr2) _).grown hg3 (by simp; omega) (fun k e => by have := (own_lt HR2.out e).1; omega)
                have hv : v.ownBlock ≠ some b ∨ v.ownBlock = none := by
                  by_cases h0 : v.ownBlock = none
                  · exact .inr h0
                  · exact .inl fun e => by have := (own_lt HR1.out e).1; omega
                have hv3 : v3.ownBlock ≠ some b ∨ v3.ownBlock = none := by
                  by_cases h0 : v3.ownBlock = none
                  · exact .inr h0
                  · exact .inl fun e => by have := (own_lt hrow3 e).1; omega
                go_roundw
                case rel => exact ⟨r + 1, v3, _, by omega, by go_num, blk_set hk3 5 _, owns_grown (owns_grown (owns_below HR1.out hbl3) hg3 (owns_apart HR1.out HR2.out (by decide))) hgs hv, owns_grown hrow3 hgs hv3, fun j hj => by
                  by_cases j1 : j = 2 * r
                  · rw [if_pos j1, j1]; exact hMR _ _ HA.out
                  · rw [if_neg j1]
                    by_cases j2 : j = 2 * r + 1
                    · rw [if_pos j2, j2]; exact hMR _ _ HBF.out
                    · rw [if_neg j2]; exact hMR _ _ (HM2.out j (by omega)), hbl4.setCell (p := ⟨b, 5, none⟩) (Nat.le_refl _) _⟩
                case measure => simp [intOf]; omega
        · have hre : r = i.R.length := by omega
          subst hre
          have HR1 := Lib.hid hrow
          have HR2 := Lib.hid hrow2
          have HME := Lib.hid hme
          clear hrow hrow2 hme
          go_wp2_with fail
          clear c0 c1 c2 c3
          obtain ⟨y0, hyi, hyz0, hyz1, hyz2⟩ := info_parts elem_info
          go_loopw [109] (fun i' wr => ∃ (k : Nat) (v3 : Value), k ≤ i.I.l.length ∧ i' = .int .i64 k ∧ wr.heap[b]? = some (.cells #[.int .u64 (s0 : Nat), .int .u64 (s1 : Nat), .int .u64 (s2 : Nat), .int .u64 (s3 : Nat), v, v2, v3] 217) ∧ wr.ownsRow (b + 1) 207 4 v i.C.length (setCells (namesF i) i.C.length) ∧ wr.ownsRow (b + 1) 213 1 v2 (2 * i.R.length) (egVals eg n (2 * i.R.length)) ∧ (∀ j, j < 2 * i.R.length → MRow wr (eg j) n (endsF i j)) ∧ wr.ownsRow (b + 1) 212 1 v3 k ((i.I.l.take k).map icell) ∧ Below b w2 wr) (fun i' _ => i.I.l.length - (intOf i').toNat)
          case atStart => exact ⟨0, _, Nat.zero_le _, rfl, hbx, HR1.out, HR2.out, HME.out, ⟨rfl, .inl ⟨rfl, rfl⟩⟩, hbw⟩
          case round =>
            clear hbx hbr hb1 hbw HR1 HR2 HME
            obtain ⟨k, v3, hk, rfl, hbx, hrow, hrow2, hme, hrow3, hbw⟩ := hrel
            have hb1 : Below W1.heap.size W1 wr := hb2.trans (hbw.mono h1b)
            have hbr : b < wr.heap.size := (Array.getElem?_eq_some_iff.1 hbx).1
            obtain ⟨c0, c1, c2, c3⟩ := HCE.out wr hb1
            have n6 := cell_of_blk hbx 6
            simp only [List.getElem?_toArray, List.getElem?_cons_zero, List.getElem?_cons_succ] at n6
            have HR1 := Lib.hid hrow
            have HR2 := Lib.hid hrow2
            have HME := Lib.hid hme
            have HR3 := Lib.hid hrow3
            have HBX := Lib.hid hbx
            clear hrow hrow2 hme hrow3 hbx
            by_cases hlt : k < i.I.l.length
            · obtain ⟨g, off, hIA, hg, d1⟩ := IL.In.cells (HIN.out wr hb1).i1 (by omega)
              have e1 := d1 k hlt
              rw [hIA] at c3 ⊢
              have h0I : (0 : Int) ≤ k := by omega
              have hlI : (k : Int) < i.I.l.length := by omega
              have HTK := Lib.hid (show (i.I.l.take (k + 1)).map icell = (i.I.l.take k).map icell ++ [.int .i64 i.I.l[k]] by rw [List.take_succ_eq_append_getElem hlt, List.map_append]; rfl)
              clear d1
              generalize i.I.l[k] = z at e1 HTK
              go_wp2_with (at_builtin; refine wpList_append_lies _ rfl _ _ 215 rfl (b + 1) 212 y0 _ 1 8 Tryz.underlying215 hyi hyz0 hyz1 hyz2 rfl (by omega) v3 k ((i.I.l.take k).map icell) rfl (owns_below HR3.out ((Below.refl _ wr).alloc (Nat.le_refl _) (.cells #[.int .i64 z] 212))) ⟨wr.heap.size, 0, none⟩ 1 1 [.int .i64 z] rfl rfl (World.news_of_block (cs := #[.int .i64 z]) (t := 212) (fr := (0, 0)) (heap_alloc_new wr _)) (by simp [Value.oneCell']) (by omega) (by unfold maxLen; omega) (by omega) (by simp; omega) (wr.heap.size + 1) (by simp) ?_; intro g3 cap3 w3 hown3 hg3 hat3 hlt3; have hk3 := (hg3.block b (by simp; omega) (owns_type HR3.out HBX.out (by decide))).trans (((Below.refl wr.heap.size wr).alloc (Nat.le_refl _) _).block b hbr |>.trans HBX.out); have m6 := cell_of_blk hk3 6; have f6 := frozen_of_blk hk3 6; simp only [List.getElem?_toArray, List.getElem?_cons_zero, List.getElem?_cons_succ] at m6)
              obtain ⟨v4, hv4e⟩ : ∃ v4, Value.slice (some ⟨g3, 0, none⟩) (k + 1) cap3 = v4 := ⟨_, rfl⟩
              rw [hv4e] at hown3 ⊢
              have hbl3 : Below wr.heap.size wr (wr.alloc (.cells #[.int .i64 z] 212)) := (Below.refl _ wr).alloc (Nat.le_refl _) _
              have hgs := grown_set w3 b 6 v4
              have hrow4 : w3.ownsRow (b + 1) 212 1 v4 (k + 1) ((i.I.l.take (k + 1)).map icell) := by rw [HTK.out]; exact hown3
              have hMR : ∀ (g' : Nat) (f' : Nat → Nat → Bool), MRow wr g' n f' → MRow (w3.setCell ⟨b, 6, none⟩ v4) g' n f' := fun g' f' h => ((h.later hbl3).grown hg3 (owns_type HR3.out h (by decide))).grown hgs (fun e => h.ne HBX.out (by decide) (Option.some.inj e))
              have hbl4 : Below b w2 w3 := ((hbw.alloc (Nat.le_of_lt hbr) _).grown hg3 (by simp; omega) (fun k e => by have := (own_lt HR3.out e).1; omega))
              have hne : ∀ {base : Nat} {e : TypeId} {size m : Nat} {u : Value} {xs : List Value} {W : World}, b + 1 ≤ base → W.ownsRow base e size u m xs → u.ownBlock ≠ some b ∨ u.ownBlock = none := fun {base e size m u xs W} hle h => by
                by_cases h0 : u.ownBlock = none
                · exact .inr h0
                · exact .inl fun e => by have := (own_lt h e).1; omega
              go_roundw
              case rel => exact ⟨k + 1, v4, by omega, by go_num, blk_set hk3 6 _, owns_grown (owns_grown (owns_below HR1.out hbl3) hg3 (owns_apart HR1.out HR3.out (by decide))) hgs (hne (Nat.le_refl _) HR1.out), owns_grown (owns_grown (owns_below HR2.out hbl3) hg3 (owns_apart HR2.out HR3.out (by decide))) hgs (hne (Nat.le_refl _) HR2.out), fun j hj => hMR _ _ (HME.out j hj), owns_grown hrow4 hgs (hne (Nat.le_refl _) hrow4), hbl4.setCell (p := ⟨b, 6, none⟩) (Nat.le_refl _) _⟩
              case measure => simp [intOf]; omega
            · have hke : k = i.I.l.length := by omega
              subst hke
              have HR4 := Lib.hid (show wr.ownsRow (b + 1) 212 1 v3 i.I.l.length (i.I.l.map icell) by have := HR3.out; rwa [List.take_of_length_le (Nat.le_refl _)] at this)
              go_wp2
              go_ret
              exact ⟨b, rfl, ⟨s0, s1, s2, s3, v, v2, v3, eg, b + 1, HBX.out, HSW.out, HR1.out, HR2.out, HME.out, HR4.out⟩, HB.out.trans (hb1.mono (by omega))⟩
end Go.Proofs.YtffibneelaeocaaGreatDoor

namespace Go.Proofs.YtffibneelaeocaaGreatDoor
open Go.RowKit Go.Shelf

attribute [local go_sem] Oper.semAt_some

/-- A list of pairs that a call hands back, and a code. -/
def RetPairs (l : List (Int × Int)) (code : Int) (w : World) (e : Ending) (w' : World) : Prop := ∃ v, e = .returned (.tuple #[v, .int .i64 code]) ∧ w'.ownsRow w.heap.size 126 2 v l.length (l.flatMap pcells) ∧ Below w.heap.size w w'
theorem pair_info : (Tryz.prog.info? 126).map (fun i => (i.zero, i.size, i.bytes)) = some (some (.agg #[.int .i64 0, .int .i64 0]), 2, 16) := by kernel_rfl

theorem GT.near {n : Nat} {w w' : World} (h : GT w) (hb : Below n w w') (h1 : 0 < n) (h2 : 2 < n) : GT w' :=
  ⟨⟨Nat.lt_of_lt_of_le h.ga.size hb.size, fun op h0 h8 => (hb.cell (p := ⟨0, op.toNat, none⟩) h1).trans (h.ga.ar op h0 h8)⟩, Nat.lt_of_lt_of_le h.size hb.size, fun k hk => (hb.cell (p := ⟨2, k, none⟩) h2).trans (h.tz k hk)⟩
theorem WL.role {w : World} {b n : Nat} {i : IN} (h : WL w b i n) {r : Nat} (hr : r < 2 * i.R.length) : ∃ (g cap e : Nat), w.cell? ⟨b, 5, none⟩ = some (.slice (some ⟨g, 0, none⟩) (2 * i.R.length) cap) ∧ w.cell? ⟨g, r, none⟩ = some (.slice (some ⟨e, 0, none⟩) n n) ∧ MRow w e n (endsF i r) ∧ b < w.heap.size ∧ g < w.heap.size := by
  obtain ⟨s0, s1, s2, s3, v, v2, v3, eg, lo, h1, -, -, h4, h5, -⟩ := h
  rcases h4.2 with ⟨-, h0⟩ | ⟨g, cap, cur, rfl, hge, hheap, hrest⟩
  · omega
  · have hc := h4.cells (g := g) rfl r (.slice (some ⟨eg r, 0, none⟩) n n) (by rw [egVals, List.getElem?_map, List.getElem?_range hr]; rfl)
    refine ⟨g, cap, eg r, cell_of_blk h1 5, (by rw [show (⟨g, 0, none⟩ : Addr).add r = ⟨g, r, none⟩ by cases r <;> simp [Addr.add]] at hc; exact hc), h5 r hr, (Array.getElem?_eq_some_iff.1 h1).1, (Array.getElem?_eq_some_iff.1 hheap).1⟩

theorem owns_keptP {W W' : World} {row : Option Nat} {base size n : Nat} {e : TypeId} {v : Value} {xs : List Value} (h : W.ownsRow base e size v n xs) (hg : W.grownBy W' row) (hr : ∀ r, row = some r → ∃ o : Obj, W.heap[r]? = some o ∧ o.isCells = false) : W'.ownsRow base e size v n xs := by
  refine h.kept hg ?_
  rcases h.2 with ⟨rfl, _⟩ | ⟨g, cap, cur, rfl, _, hgb, _⟩
  · exact .inl rfl
  · refine .inr fun e' => ?_
    obtain ⟨o, ho, hc⟩ := hr g (by simpa [Value.ownBlock] using e'.symm)
    rw [hgb] at ho; cases ho; cases hc
theorem blk_keptP {W W' : World} {row : Option Nat} {b : Nat} {t : TypeId} {cs : Array Value} (h : W.heap[b]? = some (.cells cs t)) (hg : W.grownBy W' row) (hr : ∀ r, row = some r → ∃ o : Obj, W.heap[r]? = some o ∧ o.isCells = false) : W'.heap[b]? = some (.cells cs t) :=
  (hg.block b (Array.getElem?_eq_some_iff.1 h).1 (fun e => by obtain ⟨o, ho, hc⟩ := hr b e.symm; rw [h] at ho; cases ho; cases hc)).trans h
theorem owns_lower {w : World} {base base' : Nat} {e : TypeId} {size n : Nat} {v : Value} {xs : List Value} (h : w.ownsRow base e size v n xs) (hl : base' ≤ base) : w.ownsRow base' e size v n xs := by
  refine ⟨h.1, ?_⟩
  rcases h.2 with h0 | ⟨g, cap, cur, hv, hge, hrest⟩
  · exact .inl h0
  · exact .inr ⟨g, cap, cur, hv, Nat.le_trans hl hge, hrest⟩
theorem fan_len (f : Nat → Nat → Bool) (x : Nat) : (fanP f x).length ≤ 256 := by rw [fanP, List.length_map]; exact elsF_len _
theorem range_len (f : Nat → Nat → Bool) : ∀ k, ((List.range k).flatMap (fanP f)).length ≤ k * 256
  | 0 => by simp
  | k + 1 => by
    rw [List.range_succ, List.flatMap_append, List.length_append]
    have h1 := range_len f k
    have h2 := fan_len f k
    simp only [List.flatMap_cons, List.flatMap_nil, List.append_nil]
    omega

def marks (ds : List Nat) : List Deferred := ds.map fun D => { target := .collected D, args := #[] }
/-- Leaving with any number of marks. -/
theorem leaves_marks {F : Fence} {n : Nat} {P : Program} {fn : Func} {tmps : Array Value} {R : Ending → World → Prop} {I : World → Prop} (hR : ∀ W, I W → LeavesInM F n P fn tmps R [] .returning W) :
    ∀ (ds : List Nat) (W : World), ds.Nodup → (∀ D ∈ ds, W.heap[D]? = some (.deferred (some []))) → (∀ D ∈ ds, ∀ W', I W' → W'.heap[D]? = some (.deferred (some [])) → I (W'.putObj D (.deferred none))) → I W → LeavesInM F n P fn tmps R (marks ds) .returning W
  | [], W, _, _, _, hI => hR W hI
  | D :: ds, W, hnd, hds, hst, hI => by
    rw [List.nodup_cons] at hnd
    refine ⟨by simp, .inl ⟨D, _, rfl, run_takeDeferred (hds D (by simp)), ?_⟩⟩
    refine leaves_marks hR ds _ hnd.2 (fun D' hD' => ?_) (fun D' hD' => hst D' (List.mem_cons_of_mem _ hD')) (hst D (by simp) W hI (hds D (by simp)))
    exact (World.putObj_heap_other (fun e => by subst e; exact hnd.1 hD')).trans (hds D' (List.mem_cons_of_mem _ hD'))

set_option maxRecDepth 100000 in
set_option maxHeartbeats 8000000 in
theorem iPairs_ok (n : NM) (i : IN) (m r : Nat) (w : World) (hG : GT w) (hn : n.In w.heap.size w) (hi : i.In w.heap.size w) (hm : i.size = m) (hck : icheckF n i = 0) (h1 : 1 ≤ m) (h256 : m ≤ 256) (hl : listsB i = true) (hC : i.C.length ≤ 1000) (hR : i.R.length ≤ 1000) (hI : i.I.l.length ≤ 1000) (hr : r < 2 * i.R.length) :
    Calls Tryz.prog 81 #[n.val, i.val, .int .i64 (r : Nat)] w (RetPairs (progP m (endsF i r)) 0 w) := by
  refine (callsIn_wide (n := 5)).1 ?_
  have hdd : ∀ k : Nat, (Fence.wide.depth.isSome = true → 1 ≤ k) := fun k h => by cases h
  obtain ⟨W1, hW1, hB1, hs1, hk1⟩ := newBlk w _ rfl #[.slice n.C.A n.C.l.length n.C.c, .slice n.R.A n.R.l.length n.R.c, .slice n.I.A n.I.l.length n.I.c] 24
  obtain ⟨W2, hW2, hB2, hs2, hk2⟩ := newBlk W1 _ hs1 #[.int .i64 i.size, .slice i.CA i.C.length i.cc, .slice i.RA i.R.length i.rc, .slice i.I.A i.I.l.length i.I.c] 38
  have hB : Below w.heap.size w W2 := hB1.trans (hB2.mono (by omega))
  have hk12 := (hB2.block w.heap.size (by omega)).trans hk1
  have a0 := cell_of_blk hk12 0
  have a1 := cell_of_blk hk12 1
  have a2 := cell_of_blk hk12 2
  simp only [List.getElem?_toArray, List.getElem?_cons_zero, List.getElem?_cons_succ] at a0 a1 a2
  have hcell : ∀ w', Below W2.heap.size W2 w' → w'.cell? ⟨w.heap.size + 1, 0, none⟩ = some (.int .i64 i.size) ∧ w'.cell? ⟨w.heap.size + 1, 1, none⟩ = some (.slice i.CA i.C.length i.cc) ∧ w'.cell? ⟨w.heap.size + 1, 2, none⟩ = some (.slice i.RA i.R.length i.rc) ∧ w'.cell? ⟨w.heap.size + 1, 3, none⟩ = some (.slice i.I.A i.I.l.length i.I.c) := fun w' hb =>
    have h' := blk_lat hk2 hb
    ⟨cell_of_blk h' 0, cell_of_blk h' 1, cell_of_blk h' 2, cell_of_blk h' 3⟩
  have hchk := inW (iCheck_any n i W2 (hn.later hB) (hi.later hB)) 4
  rw [hck] at hchk
  have hwo := fun w' (hb : Below W2.heap.size W2 w') => inW (worldOf_any i m hm h1 h256 hl hC hR hI w' ((hi.later hB).later hb)) 4
  obtain ⟨b0, b1, b2, b3⟩ := hcell W2 (Below.refl _ _)
  have HB := Lib.hid hB
  have HCE := Lib.hid hcell
  have HCK := Lib.hid hchk
  have HWO := Lib.hid hwo
  simp only [NM.val, IN.val] at HCK HWO ⊢
  have HM := Lib.hid hm
  clear hm hck hB hn hi hcell hchk hwo hB1 hB2 hk1 hk12 hk2
  have t1 : decide ((r : Int) < 0) = false := decide_eq_false (by omega)
  have t2 : decide ((i.R.length : Int) ≤ ((r : Int).tdiv 2)) = false := decide_eq_false (by rw [Int.tdiv_eq_ediv_of_nonneg (by omega)]; omega)
  have t3 : decide ((i.R.length : Int) ≤ wrap64 ((r : Int).tdiv 2)) = false := decide_eq_false (by rw [Int.tdiv_eq_ediv_of_nonneg (by omega)]; unfold wrap64; omega)
  refine callsIn_of_wp_marks Tryz.func81 rfl trivial ?_ rfl
  simp only [Tryz.ntmps81, List.size_toArray, List.length_cons, List.length_nil, Nat.reduceAdd, Nat.reduceSub, Array.replicate_succ, Array.replicate_zero, List.push_toArray, List.append_toArray, List.nil_append, List.cons_append]
  gi_wp2_with (first
      | (refine ⟨trivial, ?_⟩; refine (HWO.out (w3.alloc (.cells #[.slice none 0 0] 127)) hb4).mono ?_; rintro e w5 ⟨b, rfl, hwl, hb5⟩; obtain ⟨g, cap, er, n5, ng, hmr, hbl, hgl⟩ := hwl.role hr)
      | (refine ⟨trivial, ?_⟩; refine HCK.out.mono ?_; rintro e w3 ⟨rfl, hb3⟩; obtain ⟨c0, c1, c2, c3⟩ := HCE.out w3 hb3; have hlt3 : w.heap.size + 1 < w3.heap.size := (by have := hb3.size; omega); have hb4 : Below W2.heap.size W2 (w3.alloc (.cells #[.slice none 0 0] 127)) := hb3.alloc hb3.size _; obtain ⟨d0, d1, d2, d3⟩ := HCE.out _ hb4))
  obtain ⟨L, hLe⟩ : ∃ L, w3.heap.size = L := ⟨_, rfl⟩
  obtain ⟨B5, hBe⟩ : ∃ B, w5.heap.size = B := ⟨_, rfl⟩
  obtain ⟨F, hFe⟩ : ∃ F, endsF i r = F := ⟨_, rfl⟩
  have hbx0 : Boxed w5 L 127 (.slice none 0 0) := by rw [← hLe]; exact boxed_below (Boxed.new w3 127 (.slice none 0 0)) hb5 (by simp)
  have hLB : L < B5 := by rw [← hBe]; exact hbx0.lt
  have hwL : w.heap.size + 1 < L := by rw [← hLe]; exact hlt3
  have hbw5 : Below w.heap.size w w5 := HB.out.trans ((hb4.trans (hb5.mono hb4.size)).mono (by omega))
  have hG5 := hG.later hbw5
  rw [hFe] at hmr ⊢
  rw [hLe]
  clear c0 c1 c2 c3 d0 d1 d2 d3 n5 ng a0 a1 a2 b0 b1 b2 b3 hwl hb5 hb4 hb3 t1 t2 t3 hW1 hW2
  refine wpIn_loop (fun a' wr => ∃ (u0 u1 u2 u3 u4 u5 u6 u7 u8 u10 u11 u12 u13 u14 u15 u16 u17 u18 u19 u20 u21 u22 u23 u24 u25 u26 u27 u28 u29 u30 u31 u32 u33 u34 u35 u39 u40 u41 u42 u43 u44 u45 u46 u47 u48 u49 u50 u51 u52 u53 c38 : Value) (dd : List Deferred), (∃ (k : Nat) (ds : List Nat) (v : Value), k ≤ m ∧ c38 = .int .i64 (k : Nat) ∧ dd = marks ds ∧ ds.Nodup ∧ (∀ D ∈ ds, B5 ≤ D ∧ wr.heap[D]? = some (.deferred (some []))) ∧ Boxed wr L 127 v ∧ wr.ownsRow L 126 2 v ((List.range k).flatMap (fanP F)).length (((List.range k).flatMap (fanP F)).flatMap pcells) ∧ MRow wr er m F ∧ Below w.heap.size w wr ∧ GT wr ∧ B5 ≤ wr.heap.size) ∧ a' = { tmps := #[u0, u1, u2, u3, u4, u5, u6, u7, u8, .pointer (some ⟨L, 0, none⟩), u10, u11, u12, u13, u14, u15, u16, u17, u18, u19, u20, u21, u22, u23, u24, u25, u26, u27, u28, u29, u30, u31, u32, u33, u34, u35, .slice (some ⟨er, 0, none⟩) m m, .int .i64 (m : Nat), c38, u39, u40, u41, u42, u43, u44, u45, u46, u47, u48, u49, u50, u51, u52, u53], defers := dd }) (fun a' _ => m - (intOf (a'.tmps.getD 38 undef)).toNat) ?_ ?_
  · (repeat apply Exists.intro)
    exact ⟨⟨0, [], _, Nat.zero_le _, rfl, rfl, List.nodup_nil, by simp, hbx0, ⟨rfl, .inl ⟨rfl, rfl⟩⟩, hmr, hbw5, hG5, by omega⟩, rfl⟩
  · intro _ wr hinv
    obtain ⟨u0, u1, u2, u3, u4, u5, u6, u7, u8, u10, u11, u12, u13, u14, u15, u16, u17, u18, u19, u20, u21, u22, u23, u24, u25, u26, u27, u28, u29, u30, u31, u32, u33, u34, u35, u39, u40, u41, u42, u43, u44, u45, u46, u47, u48, u49, u50, u51, u52, u53, c38, dd, hrel, ha⟩ := hinv
    subst ha
    try dsimp only
    obtain ⟨k, ds, v, hk, rfl, rfl, hnd, hds, hbox, hrow, hmr, hbw, hGr, hsz⟩ := hrel
    by_cases hlt : k < m
    · obtain ⟨a, b', c, d, hsw⟩ := sw_of (F k)
      obtain ⟨q0, q1, q2, q3⟩ := hmr.cell hlt hsw
      obtain ⟨W6, hW6, hB6, hs6, bX⟩ := newBox wr _ rfl (.int .i64 (k : Nat)) 3
      obtain ⟨W7, hW7, hB7, hs7, hkE⟩ := newBlk W6 _ hs6 #[.int .u64 (a : Nat), .int .u64 (b' : Nat), .int .u64 (c : Nat), .int .u64 (d : Nat)] 207
      have z0 := cell_of_blk hkE 0
      have z1 := cell_of_blk hkE 1
      have z2 := cell_of_blk hkE 2
      have z3 := cell_of_blk hkE 3
      simp only [List.getElem?_toArray, List.getElem?_cons_zero, List.getElem?_cons_succ] at z0 z1 z2 z3
      have h0I : (0 : Int) ≤ k := by omega
      have hlI : (k : Int) < m := by omega
      gi_wp2_with (refine ⟨trivial, ?_⟩; refine (inW (bAll_any a b' c d _) 4).mono ?_; rintro e7 w7 ⟨rfl, rfl⟩)
      obtain ⟨W8, hW8, hB8, hs8, hkT⟩ := newBlk W7 _ hs7 #[.int .u64 (a : Nat), .int .u64 (b' : Nat), .int .u64 (c : Nat), .int .u64 (d : Nat)] 207
      rw [hW8]
      have hBW : Below wr.heap.size wr W8 := (hB6.trans (hB7.mono (by omega))).trans (hB8.mono (by omega))
      have hX8 : Boxed W8 wr.heap.size 3 (.int .i64 (k : Nat)) := (hB8.block _ (by omega)).trans ((hB7.block _ (by omega)).trans bX)
      have hL8 := boxed_below hbox hBW hbox.lt
      have hrow8 := owns_below hrow hBW
      have hmr8 := hmr.later hBW
      have hbw8 := hbw.trans (hBW.mono hbw.size)
      have hG8 := hGr.later hBW
      have hd8 : ∀ D ∈ ds, W8.heap[D]? = some (.deferred (some [])) := fun D hD => (hBW.block D (Array.getElem?_eq_some_iff.1 (hds D hD).2).1).trans (hds D hD).2
      have hPl := range_len F k
      have hLw := hL8.lt
      obtain ⟨X, hXe⟩ : ∃ X, wr.heap.size = X := ⟨_, rfl⟩
      rw [hXe] at hX8 ⊢
      have HST := Lib.hid (show (List.range (k + 1)).flatMap (fanP F) = (List.range k).flatMap (fanP F) ++ (elsF (F k) 0).map fun y : Nat => ((k : Int), (y : Int)) by rw [List.range_succ, List.flatMap_append]; simp [fanP])
      obtain ⟨P, hPe⟩ : ∃ P, (List.range k).flatMap (fanP F) = P := ⟨_, rfl⟩
      rw [hPe] at hPl hrow8 HST
      have hXL : X ≠ L := by omega
      have hz1 : 0 < w.heap.size := hG.ga.size
      have hz2 : 2 < w.heap.size := hG.size
      have hw8 := hbw8.size
      clear q0 q1 q2 q3 z0 z1 z2 z3 hW6 hW7 hW8 hkE bX hrow hmr hB6 hB7 hB8 hbox
      obtain ⟨i0, hi, hz0', hz1', hz2'⟩ := info_parts pair_info
      refine wpIn_rangeFunc_ownH rfl (by omega) (gf := 199) (lb := #[.pointer (some ⟨X + 1 + 1, 0, none⟩)]) rfl trivial (enters_of Tryz.func199 (by kernel_rfl) rfl)
        (all1_sw (fun A B => GT A → GT B) (fun _ _ h => h) 4 (X + 1 + 1) hsw W8 hG8 (by rw [← hXe]; exact hkT)) (fun h h' x => h' (h x))
        (fun W l o o' hl h hc hw hg => hg.near (belowK_b (w := W8) (Nat.le_refl _) W l o o' hl h hc hw) hG8.ga.size hG8.size) (Below.refl _ _) (fun _ => rfl)
        (fun pre W => ∃ v, Boxed W L 127 v ∧ W.ownsRow L 126 2 v (P ++ pre.map fun y : Nat => ((k : Int), (y : Int))).length ((P ++ pre.map fun y : Nat => ((k : Int), (y : Int))).flatMap pcells) ∧ Boxed W X 3 (.int .i64 (k : Nat)) ∧ MRow W er m F ∧ Below w.heap.size w W ∧ GT W ∧ (∀ D ∈ ds, W.heap[D]? = some (.deferred (some []))) ∧ W8.heap.size ≤ W.heap.size)
        (fun _ _ _ => False)
        ?hown (fun _ _ _ _ _ hs _ _ => hs)
        ⟨v, hL8, by simpa using hrow8, hX8, hmr8, hbw8, hG8, hd8, Nat.le_refl _⟩
        (fun x a' _ => ∃ (y0 y1 y2 y3 y4 y5 y6 y7 y8 y11 y13 y14 y15 y16 y17 y18 y19 y20 y21 y22 y23 y24 y25 y26 y27 y28 y29 y30 y31 y32 y33 y34 y35 y36 y37 y38 y39 y40 y41 y42 y43 y44 y45 y46 y47 y48 y49 y50 y51 y52 y53 : Value), a' = { tmps := #[y0, y1, y2, y3, y4, y5, y6, y7, y8, .pointer (some ⟨L, 0, none⟩), .pointer (some ⟨X, 0, none⟩), y11, .int .i64 (x : Nat), y13, y14, y15, y16, y17, y18, y19, y20, y21, y22, y23, y24, y25, y26, y27, y28, y29, y30, y31, y32, y33, y34, y35, y36, y37, y38, y39, y40, y41, y42, y43, y44, y45, y46, y47, y48, y49, y50, y51, y52, y53], defers := [] })
        (fun _ _ _ _ _ _ hs _ _ => hs)
        ?assign ?body ?done ?stop
      case hown =>
        rintro pre A B row ⟨v1, p1, p2, p3, p4, p5, p6, p7, p8⟩ hg hr
        have hr' : ∀ r, row = some r → ∃ o : Obj, A.heap[r]? = some o ∧ o.isCells = false := fun r e => (hr r e).2
        have hbAB : Below W8.heap.size A B := (Below.refl _ _).grown hg p8 (fun k e => (hr k e).1)
        exact ⟨v1, blk_keptP p1 hg hr', owns_keptP p2 hg hr', blk_keptP p3 hg hr', blk_keptP p4 hg hr', p5.trans (hbAB.mono hw8), p6.near hbAB hG8.ga.size hG8.size, fun D hD => (hbAB.block D (Array.getElem?_eq_some_iff.1 (hd8 D hD)).1).trans (p7 D hD), Nat.le_trans p8 hg.size⟩
      case assign =>
        rintro l pre x W K hI hK
        gi_wp2
        exact hK _ _ (KeepsFrom.refl _ _) (fun h => h) hI ⟨_, _, _, _, _, _, _, _, _, _, _, _, _, _, _, _, _, _, _, _, _, _, _, _, _, _, _, _, _, _, _, _, _, _, _, _, _, _, _, _, _, _, _, _, _, _, _, _, _, _, _, rfl⟩
      case body =>
        rintro l pre x a' W hl ⟨rr, hrr⟩ ⟨v1, p1, p2, p3, p4, p5, p6, p7, p8⟩ hax hlen
        obtain ⟨y0, y1, y2, y3, y4, y5, y6, y7, y8, y11, y13, y14, y15, y16, y17, y18, y19, y20, y21, y22, y23, y24, y25, y26, y27, y28, y29, y30, y31, y32, y33, y34, y35, y36, y37, y38, y39, y40, y41, y42, y43, y44, y45, y46, y47, y48, y49, y50, y51, y52, y53, rfl⟩ := hax
        have n9 := p1.cell
        have f9 := p1.frozen
        have nX := p3.cell
        have hel := elsF_len (F k)
        have hpl : pre.length ≤ 256 := by omega
        obtain ⟨Q, hQ⟩ : ∃ Q, P ++ pre.map (fun y : Nat => ((k : Int), (y : Int))) = Q := ⟨_, rfl⟩
        have hQl : Q.length ≤ 1000000 := by rw [← hQ, List.length_append, List.length_map]; omega
        have HQ := Lib.hid (show P ++ (pre ++ [x]).map (fun y : Nat => ((k : Int), (y : Int))) = Q ++ [((k : Int), (x : Int))] by rw [← hQ, List.map_append, List.append_assoc]; rfl)
        rw [hQ] at p2
        have hlw : L < W.heap.size := p1.lt
        have P2 := Lib.hid p2
        clear hQ hel hlen
        gi_wp2_with (gi_at_builtin; refine wpListIn_append_own_at _ rfl _ _ 127 rfl L 126 i0 _ 2 16 Tryz.underlying127 hi hz0' hz1' hz2' rfl (by omega) v1 Q.length (Q.flatMap pcells) rfl (owns_below P2.out ((Below.refl _ W).alloc (Nat.le_refl _) (.cells #[.int .i64 (k : Nat), .int .i64 (x : Nat)] 126))) ⟨W.heap.size, 0, none⟩ 1 1 [.int .i64 (k : Nat), .int .i64 (x : Nat)] rfl rfl (World.news_of_block (cs := #[.int .i64 (k : Nat), .int .i64 (x : Nat)]) (t := 126) (fr := (0, 0)) (heap_alloc_new W _)) (by simp [Value.oneCell']) (by unfold maxLen; omega) (by omega) (by simp; omega) ?_; intro v' w1' hown' hgrow hnil hat; obtain ⟨g2, cap2, rfl⟩ := ownsRow_succ hown'; obtain ⟨z1, z2, z3, z4, z5⟩ := p1.appended (tmp := .cells #[.int .i64 (k : Nat), .int .i64 (x : Nat)] 126) (by decide) P2.out (by omega) (Nat.le_refl _) hown' hgrow; have z10 := z1.cell; have z11 := z1.frozen)
        refine ⟨z4.from _, fun h => h.near z5 (by omega) (by omega), _, z2, by rw [HQ.out, List.length_append, List.flatMap_append]; exact z3, ?_, ?_, p5.trans (z5.mono (by omega)), p6.near z5 (by omega) (by omega), fun D hD => z4.same D _ (p7 D hD) rfl, Nat.le_trans p8 z4.size⟩
        · exact boxed_other ((p3.alloc _).kept hgrow (p3.not_row (by decide) P2.out)) (p := ⟨L, 0, none⟩) hXL _
        · exact ((p4.later ((Below.refl _ W).alloc (Nat.le_refl _) _)).grown hgrow (owns_type P2.out p4 (by decide))).grown (grown_set w1' L 0 _) (fun e => p4.ne p1 (by decide) (Option.some.inj e))
      case done =>
        rintro D ys W hD hys ⟨v1, p1, p2, p3, p4, p5, p6, p7, p8⟩ hK
        have hDs : D ∉ ds := fun hm => by have := (Array.getElem?_eq_some_iff.1 (hds D hm).2).1; omega
        have HE := Lib.hid (show marks (D :: ds) = { target := .collected D, args := #[] } :: marks ds from rfl)
        rw [hys, ← HST.out] at p2
        have P1 := Lib.hid p1
        have P2 := Lib.hid p2
        have P4 := Lib.hid p4
        have P5 := Lib.hid p5
        have P6 := Lib.hid p6
        have P7 := Lib.hid p7
        have HNd := Lib.hid (List.nodup_cons.2 ⟨hDs, hnd⟩)
        have HDS := Lib.hid (show ∀ D' ∈ D :: ds, B5 ≤ D' ∧ W.heap[D']? = some (.deferred (some [])) from fun D' hD' => by
          rcases List.mem_cons.1 hD' with e | e
          · subst e; exact ⟨by omega, hK⟩
          · exact ⟨(hds D' e).1, p7 D' e⟩)
        clear p1 p2 p3 p4 p5 p6 p7 hK hds hd8 hL8 hrow8 hX8 hmr8 hnd
        gi_wp2_with fail
        refine ⟨⟨_, _, _, _, _, _, _, _, _, _, _, _, _, _, _, _, _, _, _, _, _, _, _, _, _, _, _, _, _, _, _, _, _, _, _, _, _, _, _, _, _, _, _, _, _, _, _, _, _, _, _, _, ⟨k + 1, D :: ds, v1, by omega, by go_num, HE.out.symm, HNd.out, HDS.out, P1.out, P2.out, P4.out, P5.out, P6.out, by omega⟩, rfl⟩, ?_⟩
        simp [intOf]; omega
      case stop =>
        rintro D c pre W _ _ h _
        exact h.elim
    · have hke : k = m := by omega
      subst hke
      have n9 := hbox.cell
      have HRW := Lib.hid hrow
      have HDS := Lib.hid hds
      have HND := Lib.hid hnd
      clear hrow hds hnd hmr
      gi_wp2
      refine leaves_marks (I := fun W => W.ownsRow L 126 2 v (progP k F).length ((progP k F).flatMap pcells) ∧ Below w.heap.size w W) (fun W h => ?_) ds wr HND.out (fun D hD => (HDS.out D hD).2) (fun D hD W' h hD' => ⟨ownsRow_putObj h.1 _ hD' rfl, h.2.trans (belowK_b (w := w) (Nat.le_refl _) W' D _ _ (by have := (HDS.out D hD).1; omega) hD' rfl rfl)⟩) ⟨HRW.out, hbw⟩
      refine ⟨.tuple #[v, .int .i64 0], by simp [results, Tryz.f81, go_sem], v, rfl, by rw [hFe]; exact owns_lower h.1 (by omega), h.2⟩
end Go.Proofs.YtffibneelaeocaaGreatDoor

namespace Go.Proofs.YtffibneelaeocaaGreatDoor
open Go.RowKit Go.Shelf

/-- Nothing and a code. -/
def RetNo (code : Int) (w : World) (e : Ending) (w' : World) : Prop := e = .returned (.tuple #[.slice none 0 0, .int .i64 code]) ∧ Below w.heap.size w w'

set_option maxRecDepth 100000 in
set_option maxHeartbeats 4000000 in
theorem iPairs_ck (n : NM) (i : IN) (r : Int) (w : World) (hn : n.In w.heap.size w) (hi : i.In w.heap.size w) (hck : icheckF n i ≠ 0) :
    Calls Tryz.prog 81 #[n.val, i.val, .int .i64 r] w (RetNo (icheckF n i) w) := by
  refine (callsIn_wide (n := 5)).1 ?_
  have hdd : ∀ k : Nat, (Fence.wide.depth.isSome = true → 1 ≤ k) := fun k h => by cases h
  obtain ⟨W1, hW1, hB1, hs1, hk1⟩ := newBlk w _ rfl #[.slice n.C.A n.C.l.length n.C.c, .slice n.R.A n.R.l.length n.R.c, .slice n.I.A n.I.l.length n.I.c] 24
  obtain ⟨W2, hW2, hB2, hs2, hk2⟩ := newBlk W1 _ hs1 #[.int .i64 i.size, .slice i.CA i.C.length i.cc, .slice i.RA i.R.length i.rc, .slice i.I.A i.I.l.length i.I.c] 38
  have hB : Below w.heap.size w W2 := hB1.trans (hB2.mono (by omega))
  have hk12 := (hB2.block w.heap.size (by omega)).trans hk1
  have a0 := cell_of_blk hk12 0
  have a1 := cell_of_blk hk12 1
  have a2 := cell_of_blk hk12 2
  have b0 := cell_of_blk hk2 0
  have b1 := cell_of_blk hk2 1
  have b2 := cell_of_blk hk2 2
  have b3 := cell_of_blk hk2 3
  simp only [List.getElem?_toArray, List.getElem?_cons_zero, List.getElem?_cons_succ] at a0 a1 a2 b0 b1 b2 b3
  have hchk := inW (iCheck_any n i W2 (hn.later hB) (hi.later hB)) 4
  obtain ⟨ck, hcke⟩ : ∃ ck, icheckF n i = ck := ⟨_, rfl⟩
  rw [hcke] at hchk hck ⊢
  have hne : (ck != 0) = true := by simpa using hck
  have HB := Lib.hid hB
  have HCK := Lib.hid hchk
  simp only [NM.val, IN.val] at HCK ⊢
  clear hB hn hi hchk hB1 hB2 hk1 hk12 hk2 hcke
  refine callsIn_of_wp_marks Tryz.func81 rfl trivial ?_ rfl
  simp only [Tryz.ntmps81, List.size_toArray, List.length_cons, List.length_nil, Nat.reduceAdd, Nat.reduceSub, Array.replicate_succ, Array.replicate_zero, List.push_toArray, List.append_toArray, List.nil_append, List.cons_append]
  gi_wp2_with (refine ⟨trivial, ?_⟩; refine HCK.out.mono ?_; rintro e w3 ⟨rfl, hb3⟩)
  exact ⟨_, by simp [results, Tryz.f81, go_sem], rfl, HB.out.trans (hb3.mono (by omega))⟩

set_option maxRecDepth 100000 in
set_option maxHeartbeats 4000000 in
theorem iPairs_lo (n : NM) (i : IN) (r : Int) (w : World) (hn : n.In w.heap.size w) (hi : i.In w.heap.size w) (hck : icheckF n i = 0) (hr : r < 0) :
    Calls Tryz.prog 81 #[n.val, i.val, .int .i64 r] w (RetNo 1 w) := by
  refine (callsIn_wide (n := 5)).1 ?_
  have hdd : ∀ k : Nat, (Fence.wide.depth.isSome = true → 1 ≤ k) := fun k h => by cases h
  obtain ⟨W1, hW1, hB1, hs1, hk1⟩ := newBlk w _ rfl #[.slice n.C.A n.C.l.length n.C.c, .slice n.R.A n.R.l.length n.R.c, .slice n.I.A n.I.l.length n.I.c] 24
  obtain ⟨W2, hW2, hB2, hs2, hk2⟩ := newBlk W1 _ hs1 #[.int .i64 i.size, .slice i.CA i.C.length i.cc, .slice i.RA i.R.length i.rc, .slice i.I.A i.I.l.length i.I.c] 38
  have hB : Below w.heap.size w W2 := hB1.trans (hB2.mono (by omega))
  have hk12 := (hB2.block w.heap.size (by omega)).trans hk1
  have a0 := cell_of_blk hk12 0
  have a1 := cell_of_blk hk12 1
  have a2 := cell_of_blk hk12 2
  have b0 := cell_of_blk hk2 0
  have b1 := cell_of_blk hk2 1
  have b2 := cell_of_blk hk2 2
  have b3 := cell_of_blk hk2 3
  simp only [List.getElem?_toArray, List.getElem?_cons_zero, List.getElem?_cons_succ] at a0 a1 a2 b0 b1 b2 b3
  have hchk := inW (iCheck_any n i W2 (hn.later hB) (hi.later hB)) 4
  rw [hck] at hchk
  have HB := Lib.hid hB
  have HCK := Lib.hid hchk
  have t1 : decide (r < 0) = true := decide_eq_true hr
  simp only [NM.val, IN.val] at HCK ⊢
  clear hB hn hi hchk hB1 hB2 hk1 hk12 hk2 hck
  refine callsIn_of_wp_marks Tryz.func81 rfl trivial ?_ rfl
  simp only [Tryz.ntmps81, List.size_toArray, List.length_cons, List.length_nil, Nat.reduceAdd, Nat.reduceSub, Array.replicate_succ, Array.replicate_zero, List.push_toArray, List.append_toArray, List.nil_append, List.cons_append]
  gi_wp2_with (refine ⟨trivial, ?_⟩; refine HCK.out.mono ?_; rintro e w3 ⟨rfl, hb3⟩)
  exact ⟨_, by simp [results, Tryz.f81, go_sem], rfl, HB.out.trans (hb3.mono (by omega))⟩

set_option maxRecDepth 100000 in
set_option maxHeartbeats 4000000 in
theorem iPairs_hi (n : NM) (i : IN) (r : Nat) (w : World) (hn : n.In w.heap.size w) (hi : i.In w.heap.size w) (hck : icheckF n i = 0) (h63 : r ≤ 9223372036854775807) (hr : 2 * i.R.length ≤ r) :
    Calls Tryz.prog 81 #[n.val, i.val, .int .i64 (r : Nat)] w (RetNo 1 w) := by
  refine (callsIn_wide (n := 5)).1 ?_
  have hdd : ∀ k : Nat, (Fence.wide.depth.isSome = true → 1 ≤ k) := fun k h => by cases h
  obtain ⟨W1, hW1, hB1, hs1, hk1⟩ := newBlk w _ rfl #[.slice n.C.A n.C.l.length n.C.c, .slice n.R.A n.R.l.length n.R.c, .slice n.I.A n.I.l.length n.I.c] 24
  obtain ⟨W2, hW2, hB2, hs2, hk2⟩ := newBlk W1 _ hs1 #[.int .i64 i.size, .slice i.CA i.C.length i.cc, .slice i.RA i.R.length i.rc, .slice i.I.A i.I.l.length i.I.c] 38
  have hB : Below w.heap.size w W2 := hB1.trans (hB2.mono (by omega))
  have hk12 := (hB2.block w.heap.size (by omega)).trans hk1
  have a0 := cell_of_blk hk12 0
  have a1 := cell_of_blk hk12 1
  have a2 := cell_of_blk hk12 2
  have b0 := cell_of_blk hk2 0
  have b1 := cell_of_blk hk2 1
  have b2 := cell_of_blk hk2 2
  have b3 := cell_of_blk hk2 3
  have hcell : ∀ w', Below W2.heap.size W2 w' → w'.cell? ⟨w.heap.size + 1, 2, none⟩ = some (.slice i.RA i.R.length i.rc) := fun w' hb => cell_of_blk (blk_lat hk2 hb) 2
  simp only [List.getElem?_toArray, List.getElem?_cons_zero, List.getElem?_cons_succ] at a0 a1 a2 b0 b1 b2 b3
  have hchk := inW (iCheck_any n i W2 (hn.later hB) (hi.later hB)) 4
  rw [hck] at hchk
  have HB := Lib.hid hB
  have HCK := Lib.hid hchk
  have HCE := Lib.hid hcell
  have t1 : decide ((r : Int) < 0) = false := decide_eq_false (by omega)
  have t2 : decide ((i.R.length : Int) ≤ ((r : Int) / 2)) = true := decide_eq_true (by omega)
  have hw : wrap64 ((r : Int) / 2) = (r : Int) / 2 := by unfold wrap64; omega
  simp only [NM.val, IN.val] at HCK ⊢
  clear hB hn hi hchk hB1 hB2 hk1 hk12 hk2 hck hcell
  refine callsIn_of_wp_marks Tryz.func81 rfl trivial ?_ rfl
  simp only [Tryz.ntmps81, List.size_toArray, List.length_cons, List.length_nil, Nat.reduceAdd, Nat.reduceSub, Array.replicate_succ, Array.replicate_zero, List.push_toArray, List.append_toArray, List.nil_append, List.cons_append]
  gi_wp2_with (refine ⟨trivial, ?_⟩; refine HCK.out.mono ?_; rintro e w3 ⟨rfl, hb3⟩; have c2 := HCE.out w3 hb3)
  exact ⟨_, by simp [results, Tryz.f81, go_sem], rfl, HB.out.trans (hb3.mono (by omega))⟩
end Go.Proofs.YtffibneelaeocaaGreatDoor
