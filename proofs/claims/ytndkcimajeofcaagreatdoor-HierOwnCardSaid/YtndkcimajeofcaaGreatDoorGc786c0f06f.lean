import Derived.Test.YtndkcimajeofcaaGreatDoorG3b2f17e259
import Derived.Test.YtndkcimajeofcaaGreatDoorGbb4f0f07ee
import Derived.Test.YtndkcimajeofcaaGreatDoorG506e8cf509
import Derived.Test.YtndkcimajeofcaaGreatDoorG04cc6b632c
import Derived.Test.YtndkcimajeofcaaGreatDoorG6d0a07a3aa
import Derived.Test.YtndkcimajeofcaaGreatDoorGe3d385300f
import Derived.Test.YtndkcimajeofcaaGreatDoorG3963975ddf
import Derived.Test.YtndkcimajeofcaaGreatDoorGc22773714d
import Derived.ArgAppend
import Derived.WalkMore
import Derived.Deep.AppendLies
import Derived.Deep.DrawnRows
namespace Go.Proofs.YtndkcimajeofcaaGreatDoor
open Go.RowKit
attribute [local go_sem ↓] Go.wp_at_zero Go.wp_at_succ

def ncells (l : List Nat) : List Value := l.map fun (x : Nat) => Value.int .i64 (x : Int)
/-- WHAT HAS BEEN FOUND AND WHAT IS STILL TO BE LOOKED AT, as they lie: two rows of one's own from block n₀ on; the second may begin inside its block. -/
structure QSt (w : World) (n₀ : Nat) (f wk : Value) (found work : List Nat) (g off cap : Nat) (cur : Array Value) : Prop where
  own : w.ownsRow n₀ 3 1 f found.length (ncells found)
  val : wk = .slice (some ⟨g, off, none⟩) work.length cap
  lo : n₀ ≤ g
  blk : w.heap[g]? = some (.cells cur 3)
  len : work.length ≤ cap
  room : off + cap ≤ cur.size
  at_ : ∀ j (hj : j < work.length), cur[off + j]? = some (.int .i64 (work[j] : Nat))
  ne : some g ≠ f.ownBlock
theorem QSt.later {w w' : World} {n₀ : Nat} {f wk : Value} {found work : List Nat} {g off cap : Nat} {cur : Array Value} (h : QSt w n₀ f wk found work g off cap cur) (hb : Below w.heap.size w w') : QSt w' n₀ f wk found work g off cap cur :=
  ⟨owns_below h.own hb, h.val, h.lo, blk_lat h.blk hb, h.len, h.room, h.at_, h.ne⟩
theorem QSt.cell {w : World} {n₀ : Nat} {f wk : Value} {found work : List Nat} {g off cap : Nat} {cur : Array Value} (h : QSt w n₀ f wk found work g off cap cur) (j : Nat) (hj : j < work.length) : w.cell? ⟨g, off + j, none⟩ = some (.int .i64 (work[j] : Nat)) := by
  rw [cell_of_blk h.blk]; exact h.at_ j hj

theorem push_law (w : World) {n₀ : Nat} {f wk : Value} {found work : List Nat} {g off cap : Nat} {cur : Array Value} {ops : Array Oper} {rest : List Oper} {o : Oper} {a : Act} {Q : Exit → Act → World → Prop} (hgd : o.guard = none) (s x : Operand)
    (ho : o.op = .call { callee := .builtin .append, args := #[s, x], argTypes := #[36, 36] })
    (hq : QSt w n₀ f wk found work g off cap cur) (hn : n₀ ≤ w.heap.size) (hs : a.eval s = wk) (b2 y : Nat) (hx : a.eval x = .slice (some ⟨b2, 0, none⟩) 1 1) (hc : w.cell? ⟨b2, 0, none⟩ = some (.int .i64 (y : Nat))) (hl : work.length ≤ 1000000)
    (next : ∀ wk' w' g' off' cap' cur', QSt w' n₀ f wk' found (work ++ [y]) g' off' cap' cur' → Below n₀ w w' → w.grownBy w' (some g) → wpList Tryz.prog ops Q rest (a.put o.dst wk') w') :
    wpList Tryz.prog ops Q (o :: rest) a w := by
  obtain ⟨i0, hi, hz0, hz1, hz2⟩ := info_parts int_info
  have hsz := (Array.getElem?_eq_some_iff.1 hq.blk).1
  refine wpList_append_arg (P := Tryz.prog) w hgd s x 36 ho 3 i0 _ 1 8 Tryz.underlying36 hi hz0 hz1 hz2 rfl (by omega) g off work.length cap (ncells work) (hs.trans hq.val) (by simp [ncells]) (fun j u hu => ?_) ⟨b2, 0, none⟩ 1 1 [.int .i64 (y : Nat)] hx rfl (fun j u hu => ?_) (by simp [Value.oneCell']) (fun hroom j hj => ?_) (by unfold maxLen; omega) (by omega) (fun hroom => ?_) (fun hgrow v' w' hown hg => ?_)
  · rw [ncells, List.getElem?_map] at hu
    cases hw : work[j]? with
    | none => rw [hw] at hu; cases hu
    | some z =>
      rw [hw] at hu
      obtain ⟨hj, hz⟩ := List.getElem?_eq_some_iff.1 hw
      have := hq.cell j hj
      rw [this, hz]; exact hu
  · cases j with
    | zero => simpa [Addr.add] using (hc.trans (by simpa using hu))
    | succ j => simp at hu
  · have : j = 0 := by simpa using hj
    subst this
    rw [cell_of_blk hq.blk]
    refine ⟨?_, frozen_of_blk hq.blk _⟩
    rw [Array.getElem?_eq_getElem (show off + work.length * 1 + 0 < cur.size by have := hq.room; omega)]; rfl
  · refine next _ _ g off cap (cur.setIfInBounds (off + work.length) (.int .i64 (y : Nat))) ⟨?_, by simp, hq.lo, ?_, by simp; omega, by simpa using hq.room, fun j hj => ?_, hq.ne⟩ ?_ (by rw [Nat.mul_one]; exact grown_set w g _ _)
    · have hg2 : w.grownBy (w.setCell ⟨g, off + work.length * 1, none⟩ (.int .i64 (y : Nat))) (some g) := grown_set w g _ _
      exact owns_grown hq.own hg2 (by
        by_cases hv : f.ownBlock = none
        · exact .inr hv
        · exact .inl fun e => hq.ne e.symm)
    · have := blk_set hq.blk (off + work.length) (.int .i64 (y : Nat))
      rw [Nat.mul_one]; exact this
    · rw [List.length_append] at hj
      simp only [List.length_cons, List.length_nil] at hj
      rw [Array.getElem?_setIfInBounds]
      by_cases e : j = work.length
      · subst e
        rw [if_pos rfl, if_pos (by have := hq.room; omega)]
        simp
      · rw [if_neg (by omega), hq.at_ j (by omega), List.getElem_append_left]
    · exact below_grown (grown_set w g _ _) hq.lo hn
  · obtain ⟨g', cap', rfl⟩ := ownsRow_succ hown
    rcases hown.2 with ⟨h0, _⟩ | ⟨g2, cap2, cur2, he, hge, hheap, hlen, hcap, hsize, htake⟩
    · cases h0
    · cases he
      refine next _ _ g' 0 cap' cur2 ⟨owns_grown hq.own hg (by
        by_cases hv : f.ownBlock = none
        · exact .inr hv
        · exact .inl hv), by simp, by omega, hheap, by simpa using hlen, by omega, fun j hj => ?_, fun e => ?_⟩ ((Below.refl _ _).grown hg hn (fun k e => by cases e)) ⟨hg.os, hg.tape, hg.output, hg.size, fun k hk _ => hg.block k hk nofun⟩
      · have h1 : (ncells work ++ [Value.int .i64 (y : Nat)])[j]? = some (.int .i64 ((work ++ [y])[j] : Nat)) := by
          rw [show ncells work ++ [Value.int .i64 (y : Nat)] = ncells (work ++ [y]) by simp [ncells], ncells, List.getElem?_map, List.getElem?_eq_getElem hj]; rfl
        rw [← htake] at h1
        rw [List.getElem?_take] at h1
        split at h1
        · rw [Nat.zero_add]; simpa using h1
        · cases h1
      · have := (own_lt hq.own e.symm).2
        omega
theorem ncells_int (l : List Nat) : ncells l = intCells (l.map fun (x : Nat) => (x : Int)) := by rw [ncells, intCells, List.map_map]; rfl
open Go.Sort in
/-- slices.Sort of a row of one's own. -/
theorem sort_any {base : Nat} (v : Value) (xs : List Int) (w : World) (h : w.ownsRow base 3 1 v xs.length (intCells xs)) (hl : xs.length ≤ 1000000) :
    Calls Tryz.prog 104 #[v] w fun e w' => (∃ r, e = .returned r) ∧ w'.ownsRow base 3 1 v xs.length (intCells (xs.mergeSort fun x y => decide (x ≤ y))) ∧ w.grownBy w' v.ownBlock := by
  rcases h.2 with ⟨rfl, h0⟩ | ⟨g, cap, cur, rfl, hge, hheap, hlen, hcap, hsize, htake⟩
  · have hx : xs = [] := List.eq_nil_of_length_eq_zero h0
    subst hx
    refine (Tryz.slices_Sort_int_none none 0 w).mono ?_
    rintro e w' ⟨rfl, rfl⟩
    exact ⟨⟨_, rfl⟩, ⟨by simp [intCells], .inl ⟨rfl, rfl⟩⟩, ⟨rfl, rfl, rfl, Nat.le_refl _, fun _ _ _ => rfl⟩⟩
  · have hlt : g < w.heap.size := (Array.getElem?_eq_some_iff.1 hheap).1
    have hms : (xs.mergeSort fun x y => decide (x ≤ y)).length = xs.length := List.length_mergeSort _
    refine (Tryz.slices_Sort_int g 0 cap xs w (row_holds h rfl) hlt (by omega)).mono ?_
    rintro e w' ⟨rfl, q, os, rfl⟩
    obtain ⟨g1, o1⟩ := row_put (q := q) (os := os) h (d := (xs.mergeSort fun x y => decide (x ≤ y)).toArray) (by simp [hms]; omega)
    have o2 := o1 xs.length (by simp [hms])
    rw [List.take_of_length_le (by simp [hms])] at o2
    exact ⟨⟨_, rfl⟩, o2, g1⟩
end Go.Proofs.YtndkcimajeofcaaGreatDoor

namespace Go.Proofs.YtndkcimajeofcaaGreatDoor
open Go.RowKit
attribute [local go_sem ↓] Go.wp_at_zero Go.wp_at_succ

/-- A row of numbers, read. -/
def rdN (w : World) (v : Value) : List Nat := match v with
  | .slice (some a) n _ => (List.range n).map fun j => ((w.cell? ⟨a.block, a.off + j, none⟩).elim 0 fun u => (intOf u).toNat)
  | _ => []
def lenV (v : Value) : Nat := match v with
  | .slice _ n _ => n
  | _ => 0
theorem rd_row {w : World} {base : Nat} {v : Value} {l : List Nat} (h : w.ownsRow base 3 1 v l.length (ncells l)) : rdN w v = l := by
  rcases h.2 with ⟨rfl, h0⟩ | ⟨g, cap, cur, rfl, hge, hheap, hlen, hcap, hsize, htake⟩
  · rw [List.eq_nil_of_length_eq_zero h0]; rfl
  · show (List.range l.length).map _ = l
    refine List.ext_getElem (by simp) fun j h1 h2 => ?_
    rw [List.getElem_map, List.getElem_range]
    dsimp only
    rw [cell_of_blk hheap, Nat.zero_add]
    have h3 : (ncells l)[j]? = some (.int .i64 (l[j] : Nat)) := by rw [ncells, List.getElem?_map, List.getElem?_eq_getElem h2]; rfl
    rw [← htake, List.getElem?_take] at h3
    split at h3
    · rw [show cur[j]? = some (.int .i64 (l[j] : Nat)) by simpa using h3]; rfl
    · cases h3

theorem RowAt.elem1 {w : World} {B : Nat} {A : Option Addr} {l : List Nat} (h : RowAt w B 1 A l.length (ncells l)) {j : Nat} (hj : j < l.length) : ∃ g off, A = some ⟨g, off, none⟩ ∧ w.cell? ⟨g, off + j, none⟩ = some (.int .i64 (l[j] : Nat)) := by
  obtain ⟨g, off, hA, -, hc⟩ := h.2 (by omega)
  refine ⟨g, off, hA, ?_⟩
  rw [hc j (by omega), ncells, List.getElem?_map, List.getElem?_eq_getElem hj]; rfl
theorem not_mem_take {found : List Nat} {x j : Nat} (hj : j < found.length) (h : x ∉ found.take j) (hne : found[j] ≠ x) : x ∉ found.take (j + 1) := by
  rw [List.take_succ_eq_append_getElem hj, List.mem_append]
  rintro (h1 | h1)
  · exact h h1
  · exact hne (List.mem_singleton.1 h1).symm

theorem inv_ne (a : Nat) : inv a ≠ a := by unfold inv; split <;> omega
theorem grown_blk {W W' : World} {g k : Nat} {cs cs' : Array Value} {t t' : TypeId} (hg : (W.alloc (.cells cs' t')).grownBy W' (some g)) (hk : W.heap[k]? = some (.cells cs t)) (_ : True) (hne : k ≠ g) : W'.heap[k]? = some (.cells cs t) := by
  have hl := (Array.getElem?_eq_some_iff.1 hk).1
  have hal : Below W.heap.size W (W.alloc (.cells cs' t')) := (Below.refl _ _).alloc (Nat.le_refl _) _
  exact (hg.block k (by have := hal.size; omega) (fun e => hne (Option.some.inj e))).trans ((hal.block k hl).trans hk)
theorem take_push {R : List (Int × Int)} (x : Nat) {k : Nat} (hk : k < R.length) : (R.take (k + 1)).flatMap (pushF x) = (R.take k).flatMap (pushF x) ++ pushF x R[k] := by
  rw [List.take_succ_eq_append_getElem hk, List.flatMap_append]; simp
theorem after_found {w wr w6 W2 : World} {b : BN} {n₁ g6 cap6 x : Nat} {f wk : Value} {found rest : List Nat} {g off cap : Nat} {cur : Array Value} (HS : ∀ w', Below n₁ W2 w' → BBox w' w.heap.size b ∧ b.R.In w.heap.size w') (hbw : Below n₁ W2 wr) (hq : QSt wr n₁ f wk found rest g off cap cur) (hgl : g < wr.heap.size)
    (hown6 : w6.ownsRow n₁ 3 1 (.slice (some ⟨g6, 0, none⟩) (found.length + 1) cap6) (found.length + 1) (ncells found ++ [.int .i64 (x : Nat)])) (hg6 : (wr.alloc (.cells #[.int .i64 (x : Nat)] 3)).grownBy w6 f.ownBlock) (hat6 : f.ownBlock = some g6 ∨ g6 = wr.heap.size + 1) (hn : n₁ ≤ wr.heap.size := by omega) :
    BBox w6 w.heap.size b ∧ Hid (QSt w6 n₁ (.slice (some ⟨g6, 0, none⟩) (found.length + 1) cap6) wk (found ++ [x]) rest g off cap cur ∧ Below n₁ W2 w6) := by
  have hal : Below wr.heap.size wr (wr.alloc (.cells #[.int .i64 (x : Nat)] 3)) := (Below.refl _ _).alloc (Nat.le_refl _) _
  have hb6 : Below n₁ W2 w6 := (hbw.trans (hal.mono hn)).grown hg6 (by have := hbw.size; have := hal.size; omega) (fun k e => (own_lt hq.own e).1)
  refine ⟨(HS w6 hb6).1, Lib.hid ⟨⟨?_, hq.val, hq.lo, ?_, hq.len, hq.room, hq.at_, fun e => ?_⟩, hb6⟩⟩
  · have : ncells found ++ [.int .i64 (x : Nat)] = ncells (found ++ [x]) := by simp [ncells]
    rw [this] at hown6
    rw [List.length_append]; exact hown6
  · exact (hg6.block g (by have := hal.size; omega) hq.ne).trans (blk_lat hq.blk hal)
  · have e1 : g = g6 := Option.some.inj e
    rcases hat6 with h | h
    · rw [← e1] at h; exact hq.ne h.symm
    · omega

set_option maxRecDepth 100000 in
set_option maxHeartbeats 8000000 in
theorem above_any (b : BN) (r n : Nat) (w : World) (hb : b.In w.heap.size w) (hn : n ≤ 100) (hr : r < n) (hR : ∀ z ∈ b.R.l, 0 ≤ z.1 ∧ 0 ≤ z.2 ∧ z.1 < n ∧ z.2 < n) (hbd : ∀ x y, edge b.R.l x y = true → x < n ∧ y < n) (hl : b.R.l.length ≤ 100) :
    Calls Tryz.prog 64 #[b.val, .int .i64 (r : Nat)] w fun e w' => ∃ v, e = .returned v ∧ w'.ownsRow w.heap.size 3 1 v (upL (edge b.R.l) n r).length (ncells (upL (edge b.R.l) n r)) ∧ Below w.heap.size w w' := by
  obtain ⟨W1, hW1, hB1, hs1, hk1⟩ := newBlk w _ rfl #[.slice b.N.C.A b.N.C.l.length b.N.C.c, .slice b.N.R.A b.N.R.l.length b.N.R.c, .slice b.N.I.A b.N.I.l.length b.N.I.c, .slice b.IA b.I.length b.ic, .slice b.R.A b.R.l.length b.R.c, .slice b.FA b.F.length b.fc, .slice b.L.A b.L.l.length b.L.c] 30
  obtain ⟨W2, hW2, hB2, hs2, hk2⟩ := newBlk W1 _ hs1 #[.int .i64 (r : Nat)] 3
  have hB : Below w.heap.size w W2 := hB1.trans (hB2.mono (by omega))
  have hk12 := blk_lat hk1 (hB2.mono (by omega))
  have hS : ∀ w', Below (w.heap.size + 1) W2 w' → BBox w' w.heap.size b ∧ b.R.In w.heap.size w' := fun w' hb' => ⟨bbox_of ((hb'.block w.heap.size (by omega)).trans hk12), (hb.r.below (Nat.le_refl _) (hB.trans (hb'.mono (by omega))))⟩
  have HS := Lib.hid hS
  have HB := Lib.hid hB
  have HRR := Lib.hid hR
  have HBD := Lib.hid hbd
  have hq0 : QSt W2 (w.heap.size + 1) (.slice none 0 0) (.slice (some ⟨w.heap.size + 1, 0, none⟩) 1 1) [] [r] (w.heap.size + 1) 0 1 #[.int .i64 (r : Nat)] := ⟨⟨rfl, .inl ⟨rfl, rfl⟩⟩, rfl, by omega, hk2, Nat.le_refl _, Nat.le_refl _, fun j hj => by
    have : j = 0 := by simpa using hj
    subst this; rfl, by simp [Value.ownBlock]⟩
  have HQ0 := Lib.hid hq0
  have hbfs := Bfs.init (E := edge b.R.l) hr
  have HF := Lib.hid hbfs
  simp only [BN.val]
  clear hB1 hB2 hk1 hk2 hk12 hS hB hR hbd hq0 hbfs hb
  go_enter Tryz.func64, Tryz.ntmps64
  go_wp2_with fail
  go_step3
  go_wp2_with fail
  go_step3
  go_wp2_with fail
  go_loopw [5, 6] (fun f wk wr => ∃ (found work : List Nat) (g off cap : Nat) (cur : Array Value), QSt wr (w.heap.size + 1) f wk found work g off cap cur ∧ Bfs (edge b.R.l) n r found work ∧ work.length + missing n found * (2 * b.R.l.length) ≤ 1 + n * (2 * b.R.l.length) ∧ found.length + missing n found ≤ n ∧ Below (w.heap.size + 1) W2 wr) (fun f wk wr => missing n (rdN wr f) * (2 * b.R.l.length + 1) + lenV wk)
  case atStart => exact ⟨[], [r], _, _, _, _, HQ0.out, HF.out, by have := Nat.mul_le_mul_right (2 * b.R.l.length) (missing_le n []); simp only [List.length_cons, List.length_nil]; omega, by simpa using missing_le n [], Below.refl _ _⟩
  case round =>
    rename World => wr
    obtain ⟨found, work, g, off, cap, cur, hq, hf, hlen, hfm, hbw⟩ := hrel
    have HQ := Lib.hid hq
    have HF1 := Lib.hid hf
    have HL := Lib.hid hlen
    have hval := hq.val
    subst hval
    obtain ⟨Af, cf, hvf, -, -, hrf⟩ := row_of_owns hq.own
    subst hvf
    have HRF := Lib.hid hrf
    have hfl : found.length ≤ 100 := by omega
    clear hrf
    cases work with
    | nil =>
      have hso := sort_any (.slice Af found.length cf) (found.map fun (x : Nat) => (x : Int)) wr (by rw [List.length_map, ← ncells_int]; exact hq.own) (by rw [List.length_map]; omega)
      rw [sorted_upL hf (fun x y h => (HBD.out x y h).1), ← ncells_int, List.length_map] at hso
      have hlq : found.length = (upL (edge b.R.l) n r).length := by
        have := congrArg List.length (sorted_upL hf (fun x y h => (HBD.out x y h).1))
        rw [List.length_mergeSort, List.length_map, List.length_map] at this
        exact this
      have HLQ := Lib.hid hlq
      clear hq hf hlen hlq
      go_wp2_with (go_at_call 104; refine hso.mono ?_; clear hso; rintro e w5 ⟨⟨rr, rfl⟩, ho5, hg5⟩)
      rw [Exit.noGoto_ret]
      go_ret
      have hbE : Below (w.heap.size + 1) W2 w5 := hbw.grown hg5 (by have := hbw.size; omega) (fun k e => (own_lt HQ.out.own e).1)
      rw [HLQ.out] at ho5 ⊢
      exact ⟨_, rfl, owns_lower ho5 (by omega), HB.out.trans (hbE.mono (by omega))⟩
    | cons x rest =>
      have hc0 := hq.cell 0 (by simp)
      have hcl := hq.len
      simp only [Nat.add_zero, List.getElem_cons_zero, List.length_cons] at hc0 hcl ⊢
      obtain ⟨L, hL⟩ : ∃ L, rest.length = L := ⟨_, rfl⟩
      rw [hL] at hcl ⊢
      have hbig : n * (2 * b.R.l.length) ≤ 100 * 200 := Nat.mul_le_mul hn (by omega)
      have hL6 : L ≤ 30000 := by rw [List.length_cons, hL] at hlen; omega
      have h1I : (1 : Int) ≤ ((L + 1 : Nat) : Int) := by omega
      have h0I : (0 : Int) < ((L + 1 : Nat) : Int) := by omega
      have hLc : ((L + 1 : Nat) : Int) ≤ (cap : Int) := by omega
      have hq1 : (cap = 1 → QSt wr (w.heap.size + 1) (.slice Af found.length cf) (.slice (some ⟨g, off, none⟩) rest.length 0) found rest g off 0 cur) ∧ (¬cap = 1 → QSt wr (w.heap.size + 1) (.slice Af found.length cf) (.slice (some ⟨g, off + 1, none⟩) rest.length (cap - 1)) found rest g (off + 1) (cap - 1) cur) :=
        ⟨fun h => ⟨hq.own, rfl, hq.lo, hq.blk, by omega, by have := hq.room; omega, fun j hj => by omega, hq.ne⟩,
         fun h => ⟨hq.own, rfl, hq.lo, hq.blk, by omega, by have := hq.room; omega, fun j hj => by
          have := hq.at_ (j + 1) (by simp; omega)
          rw [show off + 1 + j = off + (j + 1) by omega]; simpa using this, hq.ne⟩⟩
      rw [hL] at hq1
      have HQ1 := Lib.hid hq1
      have HX := Lib.hid (hf.bound x (.inr (by simp)))
      have HMU := Lib.hid (rd_row hq.own)
      have HLO := Lib.hid hlen
      clear hq hf hlen hq1
      go_wp2_with fail
      all_goals
        first
          | have HQ2 := Lib.hid (HQ1.out.1 (by assumption))
          | have HQ2 := Lib.hid (HQ1.out.2 (by assumption))
        go_loopw [24] (fun i wr' => ∃ j : Nat, j ≤ found.length ∧ i = .int .i64 (j : Nat) ∧ x ∉ found.take j ∧ wr' = wr) (fun i _ => found.length - (intOf i).toNat)
        case atStart => exact ⟨0, Nat.zero_le _, rfl, by simp, rfl⟩
        case round =>
          rename World => wr'
          obtain ⟨j, hj, rfl, hnx, hwe⟩ := hrel
          subst hwe
          by_cases hlt : j < found.length
          · have hcj := HRF.out.elem1 hlt
            obtain ⟨gf, of, hA, hcf⟩ := hcj
            subst hA
            have h0J : (0 : Int) ≤ j := by omega
            have hlJ : (j : Int) < found.length := by omega
            rcases q : ((found[j] : Int) == (x : Int))
            · have hne : found[j] ≠ x := fun e => by rw [e] at q; simp at q
              go_wp2_with fail
              go_roundw
              case rel => exact ⟨j + 1, by omega, by go_num, not_mem_take hlt hnx hne, trivial⟩
              case measure => simp [intOf]; omega
            · have hxe : found[j] = x := by
                have : (found[j] : Int) = (x : Int) := by simpa using q
                omega
              have hmem : x ∈ found := by rw [← hxe]; exact List.getElem_mem hlt
              go_wp2_with fail
              refine ⟨⟨found, rest, _, _, _, _, HQ2.out, HF1.out.skip hmem, by have := HLO.out; rw [List.length_cons] at this; omega, hfm, hbw⟩, ?_⟩
              show _ + L < _ + (L + 1)
              omega
          · have hnf : x ∉ found := by rw [List.take_of_length_le (by omega)] at hnx; exact hnx
            have HNF := Lib.hid hnf
            have hwz := hbw.size
            have hQl := HQ2.out
            have hgl := (Array.getElem?_eq_some_iff.1 hQl.blk).1
            have HGL := Lib.hid hgl
            clear hcl h1I h0I hLc hQl hgl hc0
            obtain ⟨i0, hi, hi0, hi1, hi2⟩ := info_parts int_info
            go_wp2_with (at_builtin; refine wpList_append_lies _ rfl _ _ 36 rfl (w.heap.size + 1) 3 i0 _ 1 8 Tryz.underlying36 hi hi0 hi1 hi2 rfl (by omega) _ found.length (ncells found) rfl (owns_below HQ2.out.own ((Below.refl _ wr').alloc (Nat.le_refl _) (.cells #[.int .i64 (x : Nat)] 3))) ⟨wr'.heap.size, 0, none⟩ 1 1 [.int .i64 (x : Nat)] rfl rfl (World.news_of_block (cs := #[.int .i64 (x : Nat)]) (t := 3) (fr := (0, 0)) (heap_alloc_new wr' (.cells #[.int .i64 (x : Nat)] 3))) (by simp [Value.oneCell']) (by omega) (by unfold maxLen; omega) (by omega) (by simp; omega) (wr'.heap.size + 1) (by simp) ?_; intro g6 cap6 w6 hown6 hg6 hat6 hlt6; obtain ⟨hbb6, HBQ6⟩ := after_found HS.out hbw HQ2.out HGL.out hown6 hg6 hat6; obtain ⟨c0, c1, c2, c3, c4, c5, c6⟩ := hbb6)
            have hBw6 := HBQ6.out.2
            have hq6 := HBQ6.out.1
            clear c0 c1 c2 c3 c4 c5 c6 hat6 hlt6 hg6 hown6
            go_loopw [6, 39] (fun wk i wr2 => ∃ (k g2 o2 c2 : Nat) (cur2 : Array Value), k ≤ b.R.l.length ∧ i = .int .i64 (k : Nat) ∧ QSt wr2 (w.heap.size + 1) (.slice (some ⟨g6, 0, none⟩) (found.length + 1) cap6) wk (found ++ [x]) (rest ++ (b.R.l.take k).flatMap (pushF x)) g2 o2 c2 cur2 ∧ Below (w.heap.size + 1) W2 wr2) (fun _ i _ => b.R.l.length - (intOf i).toNat)
            case atStart => exact ⟨0, _, _, _, _, Nat.zero_le _, rfl, by simpa [hL] using hq6, hBw6⟩
            case round =>
              rename World => wr2
              obtain ⟨k, g2, o2, c2, cur2, hk, rfl, hq2, hbw2⟩ := hrel
              have HQQ := Lib.hid hq2
              have HBW := Lib.hid hbw2
              have hs2' := hbw2.size
              by_cases hltk : k < b.R.l.length
              · obtain ⟨gr, ofr, hA, -, hcr⟩ := RowAt.elem pcells_len (HS.out wr2 hbw2).2.2.2 hltk
                have hz1 := hcr 0 (by omega)
                have hz2 := hcr 1 (by omega)
                obtain ⟨p1, p2, p3, p4⟩ := HRR.out _ (List.getElem_mem hltk)
                have hlw : (rest ++ (b.R.l.take k).flatMap (pushF x)).length ≤ 40000 := by
                  have h1 := pushL_len x (b.R.l.take k)
                  rw [pushL, List.length_take] at h1
                  rw [List.length_append]
                  omega
                have HST := Lib.hid (take_push x hltk)
                obtain ⟨z, hz⟩ : ∃ z, b.R.l[k] = z := ⟨_, rfl⟩
                rw [hz] at hz1 hz2 p1 p2 p3 p4 HST
                obtain ⟨z1, z2⟩ := z
                obtain ⟨a, rfl⟩ := Int.eq_ofNat_of_zero_le p1
                obtain ⟨c, rfl⟩ := Int.eq_ofNat_of_zero_le p2
                have hz1' : wr2.cell? ⟨gr, ofr + k * 2, none⟩ = some (.int .i64 (a : Nat)) := hz1
                have hz2' : wr2.cell? ⟨gr, ofr + k * 2 + 1, none⟩ = some (.int .i64 (c : Nat)) := hz2
                clear hz1 hz2 hcr
                obtain ⟨W3, hW3, hB3, hs3, hk3⟩ := newBlk wr2 _ rfl #[.int .i64 (a : Nat), .int .i64 (c : Nat)] 94
                have y0 := cell_of_blk hk3 0
                have y1 := cell_of_blk hk3 1
                simp only [List.getElem?_toArray, List.getElem?_cons_zero, List.getElem?_cons_succ] at y0 y1
                have h0K : (0 : Int) ≤ k := by omega
                have hlK : (k : Int) < b.R.l.length := by omega
                have hia := fun w' => inverse_any a (by omega) w'
                have hic := fun w' => inverse_any c (by omega) w'
                have hq3 := hq2.later hB3
                have hb3 := hbw2.trans (hB3.mono (by omega))
                have hn3 : w.heap.size + 1 ≤ W3.heap.size := by have := hb3.size; omega
                rw [hA]
                obtain ⟨work2, hw2⟩ : ∃ work2, rest ++ (b.R.l.take k).flatMap (pushF x) = work2 := ⟨_, rfl⟩
                rw [hw2] at hq3 hlw
                have hst : ∀ l, (if a = x then [c] else []) ++ (if inv a = x then [inv c] else []) = l → rest ++ (b.R.l.take (k + 1)).flatMap (pushF x) = work2 ++ l := fun l hl => by
                  rw [HST.out, ← List.append_assoc, hw2, ← hl]; rfl
                have HSTT := Lib.hid hst
                rcases e1 : ((a : Int) == (x : Int))
                · have n1 : ¬ a = x := fun h => by rw [h] at e1; simp at e1
                  rcases e2 : ((inv a : Int) == (x : Int))
                  · have n2 : ¬ inv a = x := fun h => by rw [h] at e2; simp at e2
                    have hll := HSTT.out [] (by rw [if_neg n1, if_neg n2]; rfl)
                    have HLL := Lib.hid hll
                    clear hll
                    go_wp2_with (go_at_call 103; first | (refine (hia _).mono ?_; rintro e w5 ⟨rfl, rfl⟩) | (refine (hic _).mono ?_; rintro e w5 ⟨rfl, rfl⟩))
                    refine ⟨⟨k + 1, _, _, _, _, by omega, by go_num, by rw [HLL.out]; simpa using hq3, hb3⟩, ?_⟩
                    simp [intOf]; omega
                  · have n2 : inv a = x := Int.ofNat.inj (by simpa using e2)
                    have hll := HSTT.out [inv c] (by rw [if_neg n1, if_pos n2]; rfl)
                    have HLL := Lib.hid hll
                    clear hll
                    have p1 := hq3.later ((Below.refl _ W3).alloc (Nat.le_refl _) (.cells #[.int .i64 ((inv c) : Nat)] 3))
                    have p2 : w.heap.size + 1 ≤ (W3.alloc (.cells #[.int .i64 ((inv c) : Nat)] 3)).heap.size := (by simp; omega)
                    have p6 : Below (w.heap.size + 1) W2 (W3.alloc (.cells #[.int .i64 ((inv c) : Nat)] 3)) := hb3.trans (((Below.refl _ W3).alloc (Nat.le_refl _) (.cells #[.int .i64 ((inv c) : Nat)] 3)).mono hn3)
                    have p3 : (W3.alloc (.cells #[.int .i64 ((inv c) : Nat)] 3)).cell? ⟨wr2.heap.size + 1, 0, none⟩ = some (.int .i64 ((inv c) : Nat)) := by
                      rw [← hs3]
                      exact cell_of_blk (World.alloc_heap_new' W3 (.cells #[.int .i64 ((inv c) : Nat)] 3)) 0
                    have p4 : work2.length ≤ 1000000 := (by omega)
                    have p5 := fun o ops rest a Q h1 s x h2 h3 => push_law (W3.alloc (.cells #[.int .i64 ((inv c) : Nat)] 3)) (o := o) (ops := ops) (rest := rest) (a := a) (Q := Q) h1 s x h2 p1 p2 h3 (wr2.heap.size + 1) (inv c)
                    go_wp2_with (first | (at_builtin; refine p5 _ _ _ _ _ rfl _ _ rfl rfl rfl p3 p4 ?_; intro wkB wB gB oB cB curB hqB hbB hgB) | (go_at_call 103; first | (refine (hia _).mono ?_; rintro e w5 ⟨rfl, rfl⟩) | (refine (hic _).mono ?_; rintro e w5 ⟨rfl, rfl⟩)))
                    refine ⟨⟨k + 1, _, _, _, _, by omega, by go_num, by rw [HLL.out]; simpa using hqB, p6.trans hbB⟩, ?_⟩
                    simp [intOf]; omega
                · have n1 : a = x := Int.ofNat.inj (by simpa using e1)
                  rcases e2 : ((inv a : Int) == (x : Int))
                  · have n2 : ¬ inv a = x := fun h => by rw [h] at e2; simp at e2
                    have hll := HSTT.out [c] (by rw [if_pos n1, if_neg n2]; rfl)
                    have HLL := Lib.hid hll
                    clear hll
                    subst n1
                    have p1 := hq3.later ((Below.refl _ W3).alloc (Nat.le_refl _) (.cells #[.int .i64 (c : Nat)] 3))
                    have p2 : w.heap.size + 1 ≤ (W3.alloc (.cells #[.int .i64 (c : Nat)] 3)).heap.size := (by simp; omega)
                    have p6 : Below (w.heap.size + 1) W2 (W3.alloc (.cells #[.int .i64 (c : Nat)] 3)) := hb3.trans (((Below.refl _ W3).alloc (Nat.le_refl _) (.cells #[.int .i64 (c : Nat)] 3)).mono hn3)
                    have p3 : (W3.alloc (.cells #[.int .i64 (c : Nat)] 3)).cell? ⟨wr2.heap.size + 1, 0, none⟩ = some (.int .i64 (c : Nat)) := by
                      rw [← hs3]
                      exact cell_of_blk (World.alloc_heap_new' W3 (.cells #[.int .i64 (c : Nat)] 3)) 0
                    have p4 : work2.length ≤ 1000000 := (by omega)
                    have p5 := fun o ops rest a Q h1 s x h2 h3 => push_law (W3.alloc (.cells #[.int .i64 (c : Nat)] 3)) (o := o) (ops := ops) (rest := rest) (a := a) (Q := Q) h1 s x h2 p1 p2 h3 (wr2.heap.size + 1) c
                    go_wp2_with (first | (at_builtin; refine p5 _ _ _ _ _ rfl _ _ rfl rfl rfl p3 p4 ?_; intro wkA wA gA oA cA curA hqA hbA hgA; have hk4 := grown_blk hgA hk3 trivial (by have := (Array.getElem?_eq_some_iff.1 HQQ.out.blk).1; omega); have y3 := cell_of_blk hk4 0; have y4 := cell_of_blk hk4 1; simp only [List.getElem?_toArray, List.getElem?_cons_zero, List.getElem?_cons_succ] at y3 y4; have hnA : w.heap.size + 1 ≤ wA.heap.size := Nat.le_trans p2 hbA.size) | (go_at_call 103; first | (refine (hia _).mono ?_; rintro e w5 ⟨rfl, rfl⟩) | (refine (hic _).mono ?_; rintro e w5 ⟨rfl, rfl⟩)))
                    refine ⟨⟨k + 1, _, _, _, _, by omega, by go_num, by rw [HLL.out]; simpa using hqA, p6.trans hbA⟩, ?_⟩
                    simp [intOf]; omega
                  · have n2 : inv a = x := Int.ofNat.inj (by simpa using e2)
                    exact absurd (n2.trans n1.symm) (inv_ne a)
              · have hke : k = b.R.l.length := by omega
                subst hke
                have htk : (b.R.l.take b.R.l.length).flatMap (pushF x) = pushL b.R.l x := by rw [List.take_length]; rfl
                rw [htk] at hq2
                have hft := HF1.out.take HNF.out (fun a b' h => (HBD.out a b' h).2)
                have hml := missing_lt (n := n) HNF.out HX.out
                have hpl := pushL_len x b.R.l
                have hmm := Nat.mul_le_mul_right (2 * b.R.l.length) (show missing n (found ++ [x]) + 1 ≤ missing n found from hml)
                have hmm2 := Nat.mul_le_mul_right (2 * b.R.l.length + 1) (show missing n (found ++ [x]) + 1 ≤ missing n found from hml)
                rw [Nat.add_mul, Nat.one_mul] at hmm hmm2
                have hrd := rd_row hq2.own
                have hval2 := hq2.val
                have HFIN := Lib.hid (And.intro hq2 hft)
                have hll : (rest ++ pushL b.R.l x).length = L + (pushL b.R.l x).length := by rw [List.length_append, hL]
                have HML := Lib.hid (show (rest ++ pushL b.R.l x).length + missing n (found ++ [x]) * (2 * b.R.l.length) ≤ 1 + n * (2 * b.R.l.length) by have := HLO.out; rw [List.length_cons, hL] at this; omega)
                have HFM := Lib.hid (show (found ++ [x]).length + missing n (found ++ [x]) ≤ n by rw [List.length_append]; simp only [List.length_cons, List.length_nil]; omega)
                have HMEA := Lib.hid (show missing n (found ++ [x]) * (2 * b.R.l.length + 1) + (rest ++ pushL b.R.l x).length < missing n found * (2 * b.R.l.length + 1) + (L + 1) by omega)
                have HRD := Lib.hid hrd
                clear hft hml hpl hmm hmm2 hrd hq2 hll
                subst hval2
                go_wp2_with fail
                refine ⟨⟨found ++ [x], rest ++ pushL b.R.l x, _, _, _, _, HFIN.out.1, HFIN.out.2, HML.out, HFM.out, HBW.out⟩, ?_⟩
                show missing n (rdN wr2 _) * _ + (rest ++ pushL b.R.l x).length < missing n (rdN wr' _) * _ + (L + 1)
                rw [HRD.out, HMU.out]
                exact HMEA.out
end Go.Proofs.YtndkcimajeofcaaGreatDoor

namespace Go.Proofs.YtndkcimajeofcaaGreatDoor
open Go.RowKit
attribute [local go_sem ↓] Go.wp_at_zero Go.wp_at_succ

theorem contains_row {base : Nat} (v : Value) (l : List Nat) (y : Int) (w : World) (h : w.ownsRow base 3 1 v l.length (ncells l)) (hl : l.length ≤ 1000000) :
    Calls Tryz.prog 63 #[v, .int .i64 y] w fun e w' => e = .returned (.bool ((l.map fun (x : Nat) => (x : Int)).contains y)) ∧ w' = w := by
  rcases h.2 with ⟨rfl, h0⟩ | ⟨g, cap, cur, rfl, hge, hheap, hlen, hcap, hsize, htake⟩
  · have : l = [] := List.eq_nil_of_length_eq_zero h0
    subst this
    refine (Tryz.slices_Contains_int_empty none 0 y w).mono ?_
    rintro e w' h
    first | exact h | (obtain ⟨rfl, rfl⟩ := h; exact ⟨rfl, rfl⟩)
  · refine (Tryz.slices_Contains_int g 0 l.length cap (l.map fun (x : Nat) => (x : Int)) y w (by simp) (by omega) (fun j hj => ?_)).mono ?_
    · rw [List.length_map] at hj
      rw [Nat.zero_add, cell_of_blk hheap]
      have h3 : (ncells l)[j]? = some (.int .i64 (l[j] : Nat)) := by rw [ncells, List.getElem?_map, List.getElem?_eq_getElem hj]; rfl
      rw [← htake, List.getElem?_take] at h3
      split at h3
      · rw [show cur[j]? = some (.int .i64 (l[j] : Nat)) by simpa using h3]
        simp [hj]
      · cases h3
    · rintro e w' h
      rw [List.take_of_length_le (by simp)] at h
      exact h
/-- What hier.Below says. -/
def hbE (b : BN) (r s : Int) : Int := if kcheckB b then (if roleB b r && roleB b s then 0 else 1) else 20
def upB (b : BN) (r : Int) : List Nat := upL (edge b.R.l) (2 * b.N.R.l.length) r.toNat
def hbV (b : BN) (r s : Int) : Bool := if hbE b r s = 0 then ((upB b r).map fun (x : Nat) => (x : Int)).contains s else false
theorem roles_in {b : BN} (h : kcheckB b = true) : ∀ z ∈ b.R.l, 0 ≤ z.1 ∧ 0 ≤ z.2 ∧ z.1 < (2 * b.N.R.l.length : Nat) ∧ z.2 < (2 * b.N.R.l.length : Nat) := fun z hz => by
  simp only [kcheckB, Bool.and_eq_true, numsB, List.all_eq_true] at h
  have := h.2.2.1.1 z hz
  simp only [roleOk, foreignB, Bool.not_eq_true', Bool.or_eq_false_iff, decide_eq_false_iff_not] at this
  omega
theorem edges_in {b : BN} (h : kcheckB b = true) : ∀ x y, edge b.R.l x y = true → x < 2 * b.N.R.l.length ∧ y < 2 * b.N.R.l.length := fun x y he => by
  unfold edge at he
  obtain ⟨z, hz, hh⟩ := List.any_eq_true.1 he
  obtain ⟨h1, h2, h3, h4⟩ := roles_in h z hz
  simp only [hop, Bool.or_eq_true, Bool.and_eq_true, decide_eq_true_eq] at hh
  rcases hh with ⟨rfl, rfl⟩ | ⟨rfl, rfl⟩
  · omega
  · exact ⟨inv_lt (by omega), inv_lt (by omega)⟩

set_option maxRecDepth 100000 in
set_option maxHeartbeats 4000000 in
theorem hBelow_any (b : BN) (mo : ML) (r s : Int) (w : World) (h : HIn b mo w) : Calls Tryz.prog 22 #[b.val, .int .i64 r, .int .i64 s] w fun e w' => e = .returned (.tuple #[.bool (hbV b r s), .int .i64 (hbE b r s)]) ∧ Below w.heap.size w w' := by
  obtain ⟨W1, hW1, hB1, hs1, hk1⟩ := newBlk w _ rfl #[.slice b.N.C.A b.N.C.l.length b.N.C.c, .slice b.N.R.A b.N.R.l.length b.N.R.c, .slice b.N.I.A b.N.I.l.length b.N.I.c, .slice b.IA b.I.length b.ic, .slice b.R.A b.R.l.length b.R.c, .slice b.FA b.F.length b.fc, .slice b.L.A b.L.l.length b.L.c] 30
  have hbb := fun w' (h : Below W1.heap.size W1 w') => bbox_of (b := b) (blk_lat hk1 h)
  obtain ⟨c0, c1, c2, c3, c4, c5, c6⟩ := hbb W1 (Below.refl _ _)
  have h1 := h.later hB1
  have hkc := kCheck_any b W1 h1.gt.ga h1.bi h1.hI h1.hR h1.hF h1.hL h1.hN h1.sz
  have hro := fun (r : Int) w' => isRole_any b r w' h.hN
  have HBB := Lib.hid hbb
  have HB := Lib.hid hB1
  have H1 := Lib.hid h1
  have HRO := Lib.hid hro
  obtain ⟨kc, hkce⟩ : ∃ x, kcheckB b = x := ⟨_, rfl⟩
  rw [hkce] at hkc
  have HKC := Lib.hid hkce
  simp only [BN.val] at hkc HRO ⊢
  clear hbb hB1 hk1 h h1 hro hkce
  cases kc
  · have he : hbE b r s = 20 := by rw [hbE, HKC.out]; rfl
    have hv : hbV b r s = false := by rw [hbV, he]; rfl
    have HR := Lib.hid (And.intro he hv)
    clear he hv
    go_enter Tryz.func22, Tryz.ntmps22
    go_wp2_with (go_at_call 61; refine hkc.mono ?_; clear hkc; rintro e w2 ⟨rfl, hb2⟩; simp only [codeIf])
    go_ret2
    exact ⟨by rw [HR.out.1, HR.out.2]; rfl, HB.out.trans (hb2.mono HB.out.size)⟩
  · obtain ⟨hok, -, -, -, hR60⟩ := kchk_ok HKC.out
    have hnr := (ok_bounds hok).2.1
    rcases qr : roleB b r
    · have he : hbE b r s = 1 := by rw [hbE, HKC.out, qr]; rfl
      have hv : hbV b r s = false := by rw [hbV, he]; rfl
      have HR := Lib.hid (And.intro he hv)
      have hr1 := fun w' => HRO.out r w'
      rw [qr] at hr1
      clear he hv
      go_enter Tryz.func22, Tryz.ntmps22
      go_wp2_with (first
        | (go_at_call 62; refine (hr1 _).mono ?_; rintro e w3 ⟨rfl, hb3⟩)
        | (go_at_call 61; refine hkc.mono ?_; clear hkc; rintro e w2 ⟨rfl, hb2⟩; simp only [codeIf]; clear c0 c1 c2 c3 c4 c5 c6; obtain ⟨c0, c1, c2, c3, c4, c5, c6⟩ := HBB.out w2 hb2))
      go_ret2
      exact ⟨by rw [HR.out.1, HR.out.2]; rfl, HB.out.trans ((hb2.trans (hb3.mono hb2.size)).mono HB.out.size)⟩
    · rcases qs : roleB b s
      · have he : hbE b r s = 1 := by rw [hbE, HKC.out, qr, qs]; rfl
        have hv : hbV b r s = false := by rw [hbV, he]; rfl
        have HR := Lib.hid (And.intro he hv)
        have hr1 := fun w' => HRO.out r w'
        have hr2 := fun w' => HRO.out s w'
        rw [qr] at hr1
        rw [qs] at hr2
        clear he hv
        go_enter Tryz.func22, Tryz.ntmps22
        go_wp2_with (first
          | (go_at_call 62; refine (hr2 w3).mono ?_; rintro e w4 ⟨rfl, hb4⟩)
          | (go_at_call 62; refine (hr1 w2).mono ?_; rintro e w3 ⟨rfl, hb3⟩; clear c0 c1 c2 c3 c4 c5 c6; obtain ⟨c0, c1, c2, c3, c4, c5, c6⟩ := HBB.out w3 (hb2.trans (hb3.mono hb2.size)))
          | (go_at_call 61; refine hkc.mono ?_; clear hkc; rintro e w2 ⟨rfl, hb2⟩; simp only [codeIf]; clear c0 c1 c2 c3 c4 c5 c6; obtain ⟨c0, c1, c2, c3, c4, c5, c6⟩ := HBB.out w2 hb2))
        go_ret2
        exact ⟨by rw [HR.out.1, HR.out.2]; rfl, HB.out.trans ((hb2.trans ((hb3.trans (hb4.mono hb3.size)).mono hb2.size)).mono HB.out.size)⟩
      · have he : hbE b r s = 0 := by rw [hbE, HKC.out, qr, qs]; rfl
        have hv : hbV b r s = ((upB b r).map fun (x : Nat) => (x : Int)).contains s := by rw [hbV, if_pos he]
        have HR := Lib.hid (And.intro he hv)
        have hr1 := fun w' => HRO.out r w'
        have hr2 := fun w' => HRO.out s w'
        have hrb := qr
        rw [qr] at hr1
        rw [qs] at hr2
        simp only [roleB, Bool.and_eq_true, decide_eq_true_eq] at hrb
        obtain ⟨j, rfl⟩ := Int.eq_ofNat_of_zero_le hrb.1
        have hul : (upL (edge b.R.l) (2 * b.N.R.l.length) j).length ≤ 1000000 := by
          have := List.length_filter_le (fw (edge b.R.l) (2 * b.N.R.l.length) j) (List.range (2 * b.N.R.l.length))
          rw [List.length_range] at this
          rw [upL]; omega
        have hab := fun w' (hb : Below W1.heap.size W1 w') => above_any b j (2 * b.N.R.l.length) w' ((H1.out.later hb).bi) (by omega) (by omega) (roles_in HKC.out) (edges_in HKC.out) (by omega)
        have HAB := Lib.hid hab
        simp only [BN.val] at HAB
        have HUL := Lib.hid hul
        obtain ⟨bv, hbv⟩ : ∃ x, (((upL (edge b.R.l) (2 * b.N.R.l.length) j).map fun (x : Nat) => (x : Int)).contains s) = x := ⟨_, rfl⟩
        have HBV := Lib.hid hbv
        clear he hv hrb hab hul qr qs hbv
        go_enter Tryz.func22, Tryz.ntmps22
        go_wp2_with (first
          | (go_at_call 63; have hct := contains_row _ _ s w5 ho5 HUL.out; rw [HBV.out] at hct; refine hct.mono ?_; clear hct; rintro e w6 ⟨rfl, rfl⟩)
          | (go_at_call 64; refine (HAB.out w4 hb24).mono ?_; rintro e w5 ⟨v5, rfl, ho5, hb5⟩)
          | (go_at_call 62; refine (hr2 w3).mono ?_; rintro e w4 ⟨rfl, hb4⟩; have hb24 := hb2.trans ((hb3.trans (hb4.mono hb3.size)).mono hb2.size); clear c0 c1 c2 c3 c4 c5 c6; obtain ⟨c0, c1, c2, c3, c4, c5, c6⟩ := HBB.out w4 hb24)
          | (go_at_call 62; refine (hr1 w2).mono ?_; rintro e w3 ⟨rfl, hb3⟩; clear c0 c1 c2 c3 c4 c5 c6; obtain ⟨c0, c1, c2, c3, c4, c5, c6⟩ := HBB.out w3 (hb2.trans (hb3.mono hb2.size)))
          | (go_at_call 61; refine hkc.mono ?_; clear hkc; rintro e w2 ⟨rfl, hb2⟩; simp only [codeIf]; clear c0 c1 c2 c3 c4 c5 c6; obtain ⟨c0, c1, c2, c3, c4, c5, c6⟩ := HBB.out w2 hb2))
        go_ret2
        exact ⟨by rw [HR.out.1, HR.out.2, upB, show ((j : Nat) : Int).toNat = j from rfl, HBV.out]; rfl, HB.out.trans ((hb24.trans (hb5.mono hb24.size)).mono HB.out.size)⟩
end Go.Proofs.YtndkcimajeofcaaGreatDoor

namespace Go.Proofs.YtndkcimajeofcaaGreatDoor
open Go.RowKit

/-- The knowledge base of the fixed calls, wherever it lies. -/
def nmA (a1 a2 : Option Addr) : NM := ⟨⟨a1, 2, [⟨#[65]⟩, ⟨#[66]⟩]⟩, ⟨a2, 2, [⟨#[114]⟩, ⟨#[115]⟩]⟩, ⟨none, 0, []⟩⟩
def tA0 : MT := .mk 0 0 none 0 []
def tA1 (a : Option Addr) : MT := .mk 7 0 a 1 [.mk 0 1 none 0 []]
def bsA (a1 a2 a3 a4 a5 : Option Addr) : BN := { N := nmA a1 a2, IA := a3, ic := 1, I := [(tA0, tA1 a4)], R := ⟨a5, 1, [(0, 3)]⟩, FA := none, fc := 0, F := [], L := ⟨none, 0, []⟩ }
section
variable (a1 a2 a3 a4 a5 : Option Addr)
theorem bsA_b1 : hbE (bsA a1 a2 a3 a4 a5) 0 3 = 0 ∧ hbV (bsA a1 a2 a3 a4 a5) 0 3 = true := ⟨by kernel_rfl, by kernel_rfl⟩
theorem bsA_b2 : hbE (bsA a1 a2 a3 a4 a5) 1 2 = 0 ∧ hbV (bsA a1 a2 a3 a4 a5) 1 2 = true := ⟨by kernel_rfl, by kernel_rfl⟩
theorem bsA_b3 : hbE (bsA a1 a2 a3 a4 a5) 0 2 = 0 ∧ hbV (bsA a1 a2 a3 a4 a5) 0 2 = false := ⟨by kernel_rfl, by kernel_rfl⟩
theorem bsA_b4 : hbE (bsA a1 a2 a3 a4 a5) 0 4 = 1 := by kernel_rfl
theorem bsA_m : hmC (bsA a1 a2 a3 a4 a5) [] = 0 := by kernel_rfl
theorem bsA_l : marksF (bsA a1 a2 a3 a4 a5) [] = [.mk 0 0 [], .mk 0 1 [], .mk 6 0 [.mk 3 0 [.mk 0 1 []]]] := by kernel_rfl
theorem bsA_t : htE (bsA a1 a2 a3 a4 a5) [] 4 (tA1 a4) = 0 ∧ htV (bsA a1 a2 a3 a4 a5) [] 4 (tA1 a4) = false := ⟨by kernel_rfl, by kernel_rfl⟩
end
end Go.Proofs.YtndkcimajeofcaaGreatDoor

namespace Go.Proofs.YtndkcimajeofcaaGreatDoor
open Go.RowKit

theorem row_one {B b size k : Nat} {w : World} {cs : Array Value} {t : TypeId} {l : List Value} (hk : w.heap[b]? = some (.cells cs t)) (hb : b < B) (hc : cs = l.toArray) (hl : l.length = k * size) : RowAt w B size (some ⟨b, 0, none⟩) k l :=
  ⟨hl, fun _ => ⟨b, 0, rfl, hb, fun j hj => by rw [cell_of_blk hk, Nat.zero_add, hc, List.getElem?_toArray]⟩⟩
theorem leaf_in (op n : Int) (B : Nat) (w : World) : (MT.mk op n none 0 []).In B w := by
  rw [MT.In]; exact ⟨Nat.le_refl _, by simp, RowAt.nil _ _ _ _, by rw [MT.InAll]; trivial⟩
/-- The fixed base lies where its blocks do. -/
theorem bsA_in {w : World} {x1 x2 x3 x4 x5 : Nat} (h1 : w.heap[x1]? = some (.cells #[.string ⟨#[65]⟩, .string ⟨#[66]⟩] 9)) (h2 : w.heap[x2]? = some (.cells #[.string ⟨#[114]⟩, .string ⟨#[115]⟩] 9))
    (h3 : w.heap[x3]? = some (.cells #[.int .i64 0, .int .i64 0, .slice none 0 0, .int .i64 7, .int .i64 0, .slice (some ⟨x4, 0, none⟩) 1 1] 111)) (h4 : w.heap[x4]? = some (.cells #[.int .i64 0, .int .i64 1, .slice none 0 0] 33)) (h5 : w.heap[x5]? = some (.cells #[.int .i64 0, .int .i64 3] 94)) :
    (bsA (some ⟨x1, 0, none⟩) (some ⟨x2, 0, none⟩) (some ⟨x3, 0, none⟩) (some ⟨x4, 0, none⟩) (some ⟨x5, 0, none⟩)).In w.heap.size w := by
  have l1 := (Array.getElem?_eq_some_iff.1 h1).1
  have l2 := (Array.getElem?_eq_some_iff.1 h2).1
  have l3 := (Array.getElem?_eq_some_iff.1 h3).1
  have l4 := (Array.getElem?_eq_some_iff.1 h4).1
  have l5 := (Array.getElem?_eq_some_iff.1 h5).1
  have t0 : tA0.In w.heap.size w := leaf_in _ _ _ _
  have t1 : (tA1 (some ⟨x4, 0, none⟩)).In w.heap.size w := by
    rw [tA1, MT.In]
    exact ⟨Nat.le_refl _, by simp, row_one h4 l4 rfl rfl, by rw [MT.InAll, MT.InAll]; exact ⟨leaf_in _ _ _ _, trivial⟩⟩
  refine ⟨⟨?_, ?_, Nil.In _ _ _⟩, Nat.le_refl _, show 1 ≤ 9223372036854775807 by decide, row_one h3 l3 rfl rfl, fun p hp => ?_, ⟨Nat.le_refl _, show 1 ≤ 9223372036854775807 by decide, row_one h5 l5 rfl rfl⟩, Nat.le_refl _, show 0 ≤ 9223372036854775807 by decide, RowAt.nil _ _ _ _, (fun p hp => by cases hp), Nat.le_refl _, show 0 ≤ 9223372036854775807 by decide, RowAt.nil _ _ _ _⟩
  · exact row_of_blk (l := [⟨#[65]⟩, ⟨#[66]⟩]) h1 l1 (by decide) (by decide)
  · exact row_of_blk (l := [⟨#[114]⟩, ⟨#[115]⟩]) h2 l2 (by decide) (by decide)
  · rw [List.mem_singleton.1 hp]; exact ⟨t0, t1⟩
theorem bsA_hin {w : World} {a1 a2 a3 a4 a5 : Option Addr} (hG : G w) (hGT : GT w) (h : (bsA a1 a2 a3 a4 a5).In w.heap.size w) : HIn (bsA a1 a2 a3 a4 a5) ⟨none, 0, []⟩ w :=
  ⟨hG, hGT, h, ⟨Nat.le_refl _, by simp, fun _ => rfl, RowAt.nil _ _ _ _, by simp⟩, show 1 ≤ 1000 by decide, show 1 ≤ 1000 by decide, show 0 ≤ 1000 by decide, show 0 ≤ 1000 by decide, show 2 ≤ 1000 by decide, fun T hT => by
    have : T = tA0 ∨ T = tA1 a4 := by simpa [BN.cons, bsA] using hT
    rcases this with rfl | rfl
    · simp [tA0, MT.tr, MT.trs, Tr.size, Tr.sizes]
    · simp [tA1, MT.tr, MT.trs, Tr.size, Tr.sizes], by simp, show 0 ≤ 1000 by decide⟩
theorem bsA_val (a1 a2 a3 a4 a5 : Option Addr) : (bsA a1 a2 a3 a4 a5).val = .agg #[.slice a1 2 2, .slice a2 2 2, .slice none 0 0, .slice a3 1 1, .slice a5 1 1, .slice none 0 0, .slice none 0 0] := rfl
section
variable (a1 a2 a3 a4 a5 : Option Addr) (w : World) (h : HIn (bsA a1 a2 a3 a4 a5) ⟨none, 0, []⟩ w)
include h
theorem awB1 : Calls Tryz.prog 22 #[.agg #[.slice a1 2 2, .slice a2 2 2, .slice none 0 0, .slice a3 1 1, .slice a5 1 1, .slice none 0 0, .slice none 0 0], .int .i64 0, .int .i64 3] w (fun e w'' => e = .returned (.tuple #[.bool true, .int .i64 0]) ∧ Below w.heap.size w w'') := by
  have t := hBelow_any (bsA a1 a2 a3 a4 a5) ⟨none, 0, []⟩ 0 3 w h
  rw [bsA_val, (bsA_b1 a1 a2 a3 a4 a5).1, (bsA_b1 a1 a2 a3 a4 a5).2] at t
  exact t
theorem awB2 : Calls Tryz.prog 22 #[.agg #[.slice a1 2 2, .slice a2 2 2, .slice none 0 0, .slice a3 1 1, .slice a5 1 1, .slice none 0 0, .slice none 0 0], .int .i64 1, .int .i64 2] w (fun e w'' => e = .returned (.tuple #[.bool true, .int .i64 0]) ∧ Below w.heap.size w w'') := by
  have t := hBelow_any (bsA a1 a2 a3 a4 a5) ⟨none, 0, []⟩ 1 2 w h
  rw [bsA_val, (bsA_b2 a1 a2 a3 a4 a5).1, (bsA_b2 a1 a2 a3 a4 a5).2] at t
  exact t
theorem awB3 : Calls Tryz.prog 22 #[.agg #[.slice a1 2 2, .slice a2 2 2, .slice none 0 0, .slice a3 1 1, .slice a5 1 1, .slice none 0 0, .slice none 0 0], .int .i64 0, .int .i64 2] w (fun e w'' => e = .returned (.tuple #[.bool false, .int .i64 0]) ∧ Below w.heap.size w w'') := by
  have t := hBelow_any (bsA a1 a2 a3 a4 a5) ⟨none, 0, []⟩ 0 2 w h
  rw [bsA_val, (bsA_b3 a1 a2 a3 a4 a5).1, (bsA_b3 a1 a2 a3 a4 a5).2] at t
  exact t
theorem awB4 : Calls Tryz.prog 22 #[.agg #[.slice a1 2 2, .slice a2 2 2, .slice none 0 0, .slice a3 1 1, .slice a5 1 1, .slice none 0 0, .slice none 0 0], .int .i64 0, .int .i64 4] w (fun e w'' => e = .returned (.tuple #[.bool false, .int .i64 1]) ∧ Below w.heap.size w w'') := by
  have t := hBelow_any (bsA a1 a2 a3 a4 a5) ⟨none, 0, []⟩ 0 4 w h
  have e : hbV (bsA a1 a2 a3 a4 a5) 0 4 = false := by rw [hbV, bsA_b4]; rfl
  rw [bsA_val, bsA_b4, e] at t
  exact t
/-- What Marks of the fixed base hands back. -/
def RetAwM (w : World) (e : Ending) (w' : World) : Prop := ∃ A k t0 t1 t2, e = .returned (.tuple #[.slice A 3 k, .int .i64 0]) ∧ RowAt w' w'.heap.size 3 A 3 ([t0, t1, t2].flatMap MT.cs) ∧ t2.In w'.heap.size w' ∧ t2.tr = .mk 6 0 [.mk 3 0 [.mk 0 1 []]] ∧ Below w.heap.size w w'
theorem awM : Calls Tryz.prog 27 #[.agg #[.slice a1 2 2, .slice a2 2 2, .slice none 0 0, .slice a3 1 1, .slice a5 1 1, .slice none 0 0, .slice none 0 0], .slice none 0 0] w (RetAwM w) := by
  have t := hMarks_any (bsA a1 a2 a3 a4 a5) ⟨none, 0, []⟩ w h
  rw [bsA_val] at t
  refine t.mono ?_
  rintro e w' ⟨hb, (⟨-, v, lo, Ts, rfl, hco, htr⟩ | ⟨hne, -⟩)⟩
  · rw [bsA_l] at htr
    have h3 : Ts.length = 3 := by simpa using congrArg List.length htr
    obtain ⟨t0, t1, t2, rfl⟩ : ∃ t0 t1 t2, Ts = [t0, t1, t2] := by
      match Ts, h3 with
      | [a, b, c], _ => exact ⟨a, b, c, rfl⟩
    simp only [List.map_cons, List.map_nil, List.cons.injEq, and_true] at htr
    obtain ⟨A, k, rfl, -, -, hr⟩ := row_of_owns hco.own
    exact ⟨A, k, t0, t1, t2, rfl, hr, (hco.trees t2 (by simp)).1.1, htr.2.2, hb⟩
  · exact absurd (bsA_m a1 a2 a3 a4 a5) hne
theorem awT : Calls Tryz.prog 30 #[.agg #[.slice a1 2 2, .slice a2 2 2, .slice none 0 0, .slice a3 1 1, .slice a5 1 1, .slice none 0 0, .slice none 0 0], .slice none 0 0, .int .i64 4, .agg #[.int .i64 7, .int .i64 0, .slice a4 1 1]] w (fun e w'' => e = .returned (.tuple #[.bool false, .int .i64 0]) ∧ Below w.heap.size w w'') := by
  have hI : (tA1 a4).In w.heap.size w := (h.bi.i4 _ (List.mem_singleton.2 rfl)).2
  have t := hTrue_any (bsA a1 a2 a3 a4 a5) ⟨none, 0, []⟩ 4 (tA1 a4) w h hI (by simp [tA1, MT.tr, MT.trs, Tr.size, Tr.sizes])
  rw [bsA_val] at t
  refine t.mono ?_
  rintro e w' ⟨rfl, hb⟩
  rw [(bsA_t a1 a2 a3 a4 a5).1, (bsA_t a1 a2 a3 a4 a5).2]
  exact ⟨rfl, hb⟩
end
end Go.Proofs.YtndkcimajeofcaaGreatDoor

namespace Go.Proofs.YtndkcimajeofcaaGreatDoor
open Go Go.RowKit
attribute [local go_sem ↓] Go.wp_at_zero Go.wp_at_succ

def someNot (A B : Option Addr) : MT := .mk 6 0 B 1 [.mk 3 0 A 1 [.mk 0 1 none 0 []]]
theorem same_tree {w : World} {x1 x2 : Nat} (h1 : w.heap[x1]? = some (.cells #[.int .i64 0, .int .i64 1, .slice none 0 0] 33)) (h2 : w.heap[x2]? = some (.cells #[.int .i64 3, .int .i64 0, .slice (some ⟨x1, 0, none⟩) 1 1] 33)) : (someNot (some ⟨x1, 0, none⟩) (some ⟨x2, 0, none⟩)).In w.heap.size w := by
  have l1 := (Array.getElem?_eq_some_iff.1 h1).1
  have l2 := (Array.getElem?_eq_some_iff.1 h2).1
  rw [someNot, MT.In]
  refine ⟨Nat.le_refl _, by simp, row_one h2 l2 rfl rfl, ?_⟩
  rw [MT.InAll, MT.InAll, MT.In]
  exact ⟨⟨Nat.le_refl _, by simp, row_one h1 l1 rfl rfl, by rw [MT.InAll, MT.InAll]; exact ⟨leaf_in _ _ _ _, trivial⟩⟩, trivial⟩
theorem same_beq (A B : Option Addr) : (Tr.mk 6 0 [.mk 3 0 [.mk 0 1 []]]).beq (someNot A B).tr = true := by simp [someNot, MT.tr, MT.trs, Tr.beq, Tr.beqs]
theorem third_at {w : World} {A : Option Addr} {t0 t1 t2 : MT} (hr : RowAt w w.heap.size 3 A 3 ([t0, t1, t2].flatMap MT.cs)) : ∃ g off, A = some ⟨g, off, none⟩ ∧ ∀ w', Below w.heap.size w w' → w'.cell? ⟨g, off + 2 * 3, none⟩ = some (.int .i64 t2.op) ∧ w'.cell? ⟨g, off + 2 * 3 + 1, none⟩ = some (.int .i64 t2.n) ∧ w'.cell? ⟨g, off + 2 * 3 + 2, none⟩ = some (.slice t2.A t2.args.length t2.c) := by
  obtain ⟨g, off, rfl, -, -⟩ := elem3 (args := [t0, t1, t2]) (k := 2) hr (Below.refl _ _) (by simp)
  refine ⟨g, off, rfl, fun w' hb => ?_⟩
  obtain ⟨g', off', e, -, e0, e1, e2⟩ := elem3 (args := [t0, t1, t2]) (k := 2) hr hb (by simp)
  cases e
  exact ⟨e0, e1, e2⟩
def opsA11 : Array Oper := #[
  { dst := some 65, op := Op.move (Operand.tmp 3), type := 4, pos := "law.go:30", after := #[], guard := none },
  { dst := some 66, op := Op.move (Operand.tmp 65), type := 4, pos := "law.go:30", after := #[{ on := 0, ground := Ground.data }], guard := none },
  { dst := some 67, op := Op.move (Operand.tmp 4), type := 42, pos := "law.go:30", after := #[{ on := 1, ground := Ground.guard }], guard := some (1, true) },
  { dst := some 68, op := Op.binOp BinOp.eql 42 (Operand.tmp 67) (Operand.const (Value.int IntKind.i64 0)) 42, type := 4, pos := "law.go:30", after := #[{ on := 2, ground := Ground.data }, { on := 1, ground := Ground.guard }], guard := some (1, true) },
  { dst := some 69, op := Op.pick (Operand.tmp 66) (Operand.tmp 68) (Operand.const (Value.bool false)), type := 4, pos := "law.go:30", after := #[{ on := 1, ground := Ground.data }, { on := 3, ground := Ground.data }], guard := none },
  { dst := some 70, op := Op.move (Operand.tmp 69), type := 4, pos := "law.go:30", after := #[{ on := 4, ground := Ground.data }, { on := 1, ground := Ground.chain }], guard := none },
  { dst := some 71, op := Op.move (Operand.tmp 5), type := 4, pos := "law.go:30", after := #[{ on := 5, ground := Ground.guard }], guard := some (5, true) },
  { dst := some 72, op := Op.pick (Operand.tmp 70) (Operand.tmp 71) (Operand.const (Value.bool false)), type := 4, pos := "law.go:30", after := #[{ on := 5, ground := Ground.data }, { on := 6, ground := Ground.data }], guard := none },
  { dst := some 73, op := Op.move (Operand.tmp 72), type := 4, pos := "law.go:30", after := #[{ on := 7, ground := Ground.data }, { on := 5, ground := Ground.chain }], guard := none },
  { dst := some 74, op := Op.move (Operand.tmp 6), type := 42, pos := "law.go:30", after := #[{ on := 8, ground := Ground.guard }], guard := some (8, true) },
  { dst := some 75, op := Op.binOp BinOp.eql 42 (Operand.tmp 74) (Operand.const (Value.int IntKind.i64 0)) 42, type := 4, pos := "law.go:30", after := #[{ on := 9, ground := Ground.data }, { on := 8, ground := Ground.guard }], guard := some (8, true) },
  { dst := some 76, op := Op.pick (Operand.tmp 73) (Operand.tmp 75) (Operand.const (Value.bool false)), type := 4, pos := "law.go:30", after := #[{ on := 8, ground := Ground.data }, { on := 10, ground := Ground.data }], guard := none },
  { dst := some 77, op := Op.move (Operand.tmp 76), type := 4, pos := "law.go:30", after := #[{ on := 11, ground := Ground.data }, { on := 8, ground := Ground.chain }], guard := none },
  { dst := some 78, op := Op.move (Operand.tmp 7), type := 4, pos := "law.go:30", after := #[{ on := 12, ground := Ground.guard }], guard := some (12, true) },
  { dst := some 79, op := Op.unOp UnOp.not 4 (Operand.tmp 78), type := 4, pos := "law.go:30", after := #[{ on := 13, ground := Ground.data }, { on := 12, ground := Ground.guard }], guard := some (12, true) },
  { dst := some 80, op := Op.pick (Operand.tmp 77) (Operand.tmp 79) (Operand.const (Value.bool false)), type := 4, pos := "law.go:30", after := #[{ on := 12, ground := Ground.data }, { on := 14, ground := Ground.data }], guard := none },
  { dst := some 81, op := Op.move (Operand.tmp 80), type := 4, pos := "law.go:30", after := #[{ on := 15, ground := Ground.data }, { on := 12, ground := Ground.chain }], guard := none },
  { dst := some 82, op := Op.move (Operand.tmp 8), type := 42, pos := "law.go:30", after := #[{ on := 16, ground := Ground.guard }], guard := some (16, true) },
  { dst := some 83, op := Op.binOp BinOp.eql 42 (Operand.tmp 82) (Operand.const (Value.int IntKind.i64 0)) 42, type := 4, pos := "law.go:30", after := #[{ on := 17, ground := Ground.data }, { on := 16, ground := Ground.guard }], guard := some (16, true) },
  { dst := some 84, op := Op.pick (Operand.tmp 81) (Operand.tmp 83) (Operand.const (Value.bool false)), type := 4, pos := "law.go:30", after := #[{ on := 16, ground := Ground.data }, { on := 18, ground := Ground.data }], guard := none },
  { dst := some 85, op := Op.move (Operand.tmp 84), type := 4, pos := "law.go:30", after := #[{ on := 19, ground := Ground.data }, { on := 16, ground := Ground.chain }], guard := none },
  { dst := some 86, op := Op.move (Operand.tmp 10), type := 42, pos := "law.go:30", after := #[{ on := 20, ground := Ground.guard }], guard := some (20, true) },
  { dst := some 87, op := Op.binOp BinOp.eql 42 (Operand.tmp 86) (Operand.const (Value.int IntKind.i64 1)) 42, type := 4, pos := "law.go:30", after := #[{ on := 21, ground := Ground.data }, { on := 20, ground := Ground.guard }], guard := some (20, true) },
  { dst := some 88, op := Op.pick (Operand.tmp 85) (Operand.tmp 87) (Operand.const (Value.bool false)), type := 4, pos := "law.go:30", after := #[{ on := 20, ground := Ground.data }, { on := 22, ground := Ground.data }], guard := none },
  { dst := some 89, op := Op.move (Operand.tmp 88), type := 4, pos := "law.go:30", after := #[{ on := 23, ground := Ground.data }, { on := 20, ground := Ground.chain }], guard := none },
  { dst := some 90, op := Op.move (Operand.tmp 12), type := 42, pos := "law.go:30", after := #[{ on := 24, ground := Ground.guard }], guard := some (24, true) },
  { dst := some 91, op := Op.binOp BinOp.eql 42 (Operand.tmp 90) (Operand.const (Value.int IntKind.i64 0)) 42, type := 4, pos := "law.go:30", after := #[{ on := 25, ground := Ground.data }, { on := 24, ground := Ground.guard }], guard := some (24, true) },
  { dst := some 92, op := Op.pick (Operand.tmp 89) (Operand.tmp 91) (Operand.const (Value.bool false)), type := 4, pos := "law.go:30", after := #[{ on := 24, ground := Ground.data }, { on := 26, ground := Ground.data }], guard := none },
  { dst := some 93, op := Op.move (Operand.tmp 92), type := 4, pos := "law.go:30", after := #[{ on := 27, ground := Ground.data }, { on := 24, ground := Ground.chain }], guard := none },
  { dst := some 94, op := Op.move (Operand.tmp 11), type := 31, pos := "law.go:30", after := #[{ on := 28, ground := Ground.guard }], guard := some (28, true) },
  { dst := some 95, op := Op.call { callee := Callee.builtin Builtin.len, args := #[Operand.tmp 94], argTypes := #[31] }, type := 3, pos := "law.go:30", after := #[{ on := 29, ground := Ground.data }, { on := 28, ground := Ground.guard }], guard := some (28, true) },
  { dst := some 96, op := Op.binOp BinOp.eql 3 (Operand.tmp 95) (Operand.const (Value.int IntKind.i64 3)) 3, type := 4, pos := "law.go:30", after := #[{ on := 30, ground := Ground.data }, { on := 28, ground := Ground.guard }], guard := some (28, true) },
  { dst := some 97, op := Op.pick (Operand.tmp 93) (Operand.tmp 96) (Operand.const (Value.bool false)), type := 4, pos := "law.go:30", after := #[{ on := 28, ground := Ground.data }, { on := 31, ground := Ground.data }], guard := none },
  { dst := some 98, op := Op.move (Operand.tmp 97), type := 4, pos := "law.go:30", after := #[{ on := 32, ground := Ground.data }, { on := 28, ground := Ground.chain }], guard := none },
  { dst := some 99, op := Op.move (Operand.tmp 11), type := 31, pos := "law.go:30", after := #[{ on := 33, ground := Ground.guard }], guard := some (33, true) },
  { dst := some 100, op := Op.indexAddr 31 (Operand.tmp 99) (Operand.const (Value.int IntKind.i64 2)), type := 0, pos := "law.go:30", after := #[{ on := 34, ground := Ground.data }, { on := 33, ground := Ground.guard }], guard := some (33, true) },
  { dst := some 101, op := Op.load 33 (Operand.tmp 100), type := 33, pos := "law.go:30", after := #[{ on := 35, ground := Ground.data }, { on := 33, ground := Ground.guard }], guard := some (33, true) },
  { dst := some 102, op := Op.call { callee := Callee.value (Operand.func 54), args := #[Operand.const (Value.int IntKind.i64 0), Operand.const (Value.int IntKind.i64 1), Operand.const (Value.slice none 0 0)], argTypes := #[3, 3, 31] }, type := 33, pos := "law.go:30", after := #[{ on := 33, ground := Ground.chain }, { on := 33, ground := Ground.guard }], guard := some (33, true) },
  { dst := some 103, op := Op.buildSlice 31 1 #[(0, Operand.tmp 102)], type := 31, pos := "law.go:30", after := #[{ on := 37, ground := Ground.data }, { on := 33, ground := Ground.guard }], guard := some (33, true) },
  { dst := some 104, op := Op.call { callee := Callee.value (Operand.func 54), args := #[Operand.const (Value.int IntKind.i64 3), Operand.const (Value.int IntKind.i64 0), Operand.tmp 103], argTypes := #[3, 3, 31] }, type := 33, pos := "law.go:30", after := #[{ on := 38, ground := Ground.data }, { on := 37, ground := Ground.chain }, { on := 33, ground := Ground.guard }], guard := some (33, true) },
  { dst := some 105, op := Op.buildSlice 31 1 #[(0, Operand.tmp 104)], type := 31, pos := "law.go:30", after := #[{ on := 39, ground := Ground.data }, { on := 33, ground := Ground.guard }], guard := some (33, true) },
  { dst := some 106, op := Op.call { callee := Callee.value (Operand.func 54), args := #[Operand.const (Value.int IntKind.i64 6), Operand.const (Value.int IntKind.i64 0), Operand.tmp 105], argTypes := #[3, 3, 31] }, type := 33, pos := "law.go:30", after := #[{ on := 40, ground := Ground.data }, { on := 39, ground := Ground.chain }, { on := 33, ground := Ground.guard }], guard := some (33, true) },
  { dst := some 107, op := Op.call { callee := Callee.value (Operand.func 29), args := #[Operand.tmp 101, Operand.tmp 106], argTypes := #[33, 33] }, type := 4, pos := "law.go:30", after := #[{ on := 36, ground := Ground.data }, { on := 41, ground := Ground.data }, { on := 41, ground := Ground.chain }, { on := 33, ground := Ground.guard }], guard := some (33, true) },
  { dst := some 108, op := Op.pick (Operand.tmp 98) (Operand.tmp 107) (Operand.const (Value.bool false)), type := 4, pos := "law.go:30", after := #[{ on := 33, ground := Ground.data }, { on := 42, ground := Ground.data }], guard := none },
  { dst := some 109, op := Op.move (Operand.tmp 108), type := 4, pos := "law.go:30", after := #[{ on := 43, ground := Ground.data }, { on := 42, ground := Ground.chain }], guard := none },
  { dst := some 110, op := Op.move (Operand.tmp 13), type := 4, pos := "law.go:30", after := #[{ on := 44, ground := Ground.guard }], guard := some (44, true) },
  { dst := some 111, op := Op.unOp UnOp.not 4 (Operand.tmp 110), type := 4, pos := "law.go:30", after := #[{ on := 45, ground := Ground.data }, { on := 44, ground := Ground.guard }], guard := some (44, true) },
  { dst := some 112, op := Op.pick (Operand.tmp 109) (Operand.tmp 111) (Operand.const (Value.bool false)), type := 4, pos := "law.go:30", after := #[{ on := 44, ground := Ground.data }, { on := 46, ground := Ground.data }], guard := none },
  { dst := some 113, op := Op.move (Operand.tmp 112), type := 4, pos := "law.go:30", after := #[{ on := 47, ground := Ground.data }, { on := 44, ground := Ground.chain }], guard := none },
  { dst := some 114, op := Op.move (Operand.tmp 14), type := 42, pos := "law.go:30", after := #[{ on := 48, ground := Ground.guard }], guard := some (48, true) },
  { dst := some 115, op := Op.binOp BinOp.eql 42 (Operand.tmp 114) (Operand.const (Value.int IntKind.i64 0)) 42, type := 4, pos := "law.go:30", after := #[{ on := 49, ground := Ground.data }, { on := 48, ground := Ground.guard }], guard := some (48, true) },
  { dst := some 116, op := Op.pick (Operand.tmp 113) (Operand.tmp 115) (Operand.const (Value.bool false)), type := 4, pos := "law.go:30", after := #[{ on := 48, ground := Ground.data }, { on := 50, ground := Ground.data }], guard := none },
  { dst := some 0, op := Op.assign (Operand.tmp 116), type := 4, pos := "law.go:30", after := #[{ on := 51, ground := Ground.data }, { on := 48, ground := Ground.chain }, { on := 0, ground := Ground.phase }, { on := 1, ground := Ground.phase }, { on := 2, ground := Ground.phase }, { on := 3, ground := Ground.phase }, { on := 4, ground := Ground.phase }, { on := 5, ground := Ground.phase }, { on := 6, ground := Ground.phase }, { on := 7, ground := Ground.phase }, { on := 8, ground := Ground.phase }, { on := 9, ground := Ground.phase }, { on := 10, ground := Ground.phase }, { on := 11, ground := Ground.phase }, { on := 12, ground := Ground.phase }, { on := 13, ground := Ground.phase }, { on := 14, ground := Ground.phase }, { on := 15, ground := Ground.phase }, { on := 16, ground := Ground.phase }, { on := 17, ground := Ground.phase }, { on := 18, ground := Ground.phase }, { on := 19, ground := Ground.phase }, { on := 20, ground := Ground.phase }, { on := 21, ground := Ground.phase }, { on := 22, ground := Ground.phase }, { on := 23, ground := Ground.phase }, { on := 24, ground := Ground.phase }, { on := 25, ground := Ground.phase }, { on := 26, ground := Ground.phase }, { on := 27, ground := Ground.phase }, { on := 28, ground := Ground.phase }, { on := 29, ground := Ground.phase }, { on := 30, ground := Ground.phase }, { on := 31, ground := Ground.phase }, { on := 32, ground := Ground.phase }, { on := 33, ground := Ground.phase }, { on := 34, ground := Ground.phase }, { on := 35, ground := Ground.phase }, { on := 36, ground := Ground.phase }, { on := 37, ground := Ground.phase }, { on := 38, ground := Ground.phase }, { on := 39, ground := Ground.phase }, { on := 40, ground := Ground.phase }, { on := 41, ground := Ground.phase }, { on := 42, ground := Ground.phase }, { on := 43, ground := Ground.phase }, { on := 44, ground := Ground.phase }, { on := 45, ground := Ground.phase }, { on := 46, ground := Ground.phase }, { on := 47, ground := Ground.phase }, { on := 48, ground := Ground.phase }, { on := 49, ground := Ground.phase }, { on := 50, ground := Ground.phase }, { on := 51, ground := Ground.phase }], guard := none }]
set_option maxRecDepth 100000 in
set_option maxHeartbeats 8000000 in
theorem aw11_any {g off k : Nat} {T : MT} (hTt : T.tr = .mk 6 0 [.mk 3 0 [.mk 0 1 []]]) (Q : Exit → Act → World → Prop) (W : World)
    (hS : ∀ w', Below W.heap.size W w' → w'.cell? ⟨g, off + 2 * 3, none⟩ = some (.int .i64 T.op) ∧ w'.cell? ⟨g, off + 2 * 3 + 1, none⟩ = some (.int .i64 T.n) ∧ w'.cell? ⟨g, off + 2 * 3 + 2, none⟩ = some (.slice T.A T.args.length T.c)) (hT : ∀ w', Below W.heap.size W w' → T.In w'.heap.size w') (x0 x1 x2 x9 x15 x16 x17 x18 x19 x20 x21 x22 x23 x24 x25 x26 x27 x28 x29 x30 x31 x32 x33 x34 x35 x36 x37 x38 x39 x40 x41 x42 x43 x44 x45 x46 x47 x48 x49 x50 x51 x52 x53 x54 x55 x56 x57 x58 x59 x60 x61 x62 x63 x64 x65 x66 x67 x68 x69 x70 x71 x72 x73 x74 x75 x76 x77 x78 x79 x80 x81 x82 x83 x84 x85 x86 x87 x88 x89 x90 x91 x92 x93 x94 x95 x96 x97 x98 x99 x100 x101 x102 x103 x104 x105 x106 x107 x108 x109 x110 x111 x112 x113 x114 x115 x116 : Value)
    (hQ : ∀ (u65 u66 u67 u68 u69 u70 u71 u72 u73 u74 u75 u76 u77 u78 u79 u80 u81 u82 u83 u84 u85 u86 u87 u88 u89 u90 u91 u92 u93 u94 u95 u96 u97 u98 u99 u100 u101 u102 u103 u104 u105 u106 u107 u108 u109 u110 u111 u112 u113 u114 u115 u116 : Value) (w' : World), Below W.heap.size W w' → Q .normal { tmps := #[.bool true, x1, x2, .bool true, .int .i64 0, .bool true, .int .i64 0, .bool false, .int .i64 0, x9, .int .i64 1, .slice (some ⟨g, off, none⟩) 3 k, .int .i64 0, .bool false, .int .i64 0, x15, x16, x17, x18, x19, x20, x21, x22, x23, x24, x25, x26, x27, x28, x29, x30, x31, x32, x33, x34, x35, x36, x37, x38, x39, x40, x41, x42, x43, x44, x45, x46, x47, x48, x49, x50, x51, x52, x53, x54, x55, x56, x57, x58, x59, x60, x61, x62, x63, x64, u65, u66, u67, u68, u69, u70, u71, u72, u73, u74, u75, u76, u77, u78, u79, u80, u81, u82, u83, u84, u85, u86, u87, u88, u89, u90, u91, u92, u93, u94, u95, u96, u97, u98, u99, u100, u101, u102, u103, u104, u105, u106, u107, u108, u109, u110, u111, u112, u113, u114, u115, u116], defers := [] } w') :
    (Code.region 11 opsA11 true).wp Tryz.prog Q { tmps := #[x0, x1, x2, .bool true, .int .i64 0, .bool true, .int .i64 0, .bool false, .int .i64 0, x9, .int .i64 1, .slice (some ⟨g, off, none⟩) 3 k, .int .i64 0, .bool false, .int .i64 0, x15, x16, x17, x18, x19, x20, x21, x22, x23, x24, x25, x26, x27, x28, x29, x30, x31, x32, x33, x34, x35, x36, x37, x38, x39, x40, x41, x42, x43, x44, x45, x46, x47, x48, x49, x50, x51, x52, x53, x54, x55, x56, x57, x58, x59, x60, x61, x62, x63, x64, x65, x66, x67, x68, x69, x70, x71, x72, x73, x74, x75, x76, x77, x78, x79, x80, x81, x82, x83, x84, x85, x86, x87, x88, x89, x90, x91, x92, x93, x94, x95, x96, x97, x98, x99, x100, x101, x102, x103, x104, x105, x106, x107, x108, x109, x110, x111, x112, x113, x114, x115, x116], defers := [] } W := by
  unfold opsA11
  refine wp_region_noPanic ?_
  refine wp_region_held_drew (S := fun w' => w'.cell? ⟨g, off + 2 * 3, none⟩ = some (.int .i64 T.op) ∧ w'.cell? ⟨g, off + 2 * 3 + 1, none⟩ = some (.int .i64 T.n) ∧ w'.cell? ⟨g, off + 2 * 3 + 2, none⟩ = some (.slice T.A T.args.length T.c)) (by kernel_rfl) (hS _ (Below.refl _ W).drew) (fun hHeld => ?_)
  refine wpAnyH_take (i := 0) (oi := { dst := some 65, op := Op.move (Operand.tmp 3), type := 4, pos := "law.go:30", after := #[], guard := none }) (v := .bool true) rfl (by kernel_rfl) (by kernel_rfl) (by kernel_rfl) (fun _ _ _ h => h) (Or.inl ⟨by rfl, by (intro w hSw; (try dsimp only at hSw); go_simp)⟩) (by assumption) ?_
  try simp only [Act.put, List.setIfInBounds_toArray, List.set_cons_zero, List.set_cons_succ]
  refine wpAnyH_take (i := 1) (oi := { dst := some 66, op := Op.move (Operand.tmp 65), type := 4, pos := "law.go:30", after := #[{ on := 0, ground := Ground.data }], guard := none }) (v := .bool true) rfl (by kernel_rfl) (by kernel_rfl) (by kernel_rfl) (fun _ _ _ h => h) (Or.inl ⟨by rfl, by (intro w hSw; (try dsimp only at hSw); go_simp)⟩) (by assumption) ?_
  try simp only [Act.put, List.setIfInBounds_toArray, List.set_cons_zero, List.set_cons_succ]
  refine wpAnyH_take (i := 2) (oi := { dst := some 67, op := Op.move (Operand.tmp 4), type := 42, pos := "law.go:30", after := #[{ on := 1, ground := Ground.guard }], guard := some (1, true) }) (v := .int .i64 0) rfl (by kernel_rfl) (by kernel_rfl) (by kernel_rfl) (fun _ _ _ h => h) (Or.inl ⟨by rfl, by (intro w hSw; (try dsimp only at hSw); go_simp)⟩) (by assumption) ?_
  try simp only [Act.put, List.setIfInBounds_toArray, List.set_cons_zero, List.set_cons_succ]
  refine wpAnyH_take (i := 3) (oi := { dst := some 68, op := Op.binOp BinOp.eql 42 (Operand.tmp 67) (Operand.const (Value.int IntKind.i64 0)) 42, type := 4, pos := "law.go:30", after := #[{ on := 2, ground := Ground.data }, { on := 1, ground := Ground.guard }], guard := some (1, true) }) (v := .bool true) rfl (by kernel_rfl) (by kernel_rfl) (by kernel_rfl) (fun _ _ _ h => h) (Or.inl ⟨by rfl, by (intro w hSw; (try dsimp only at hSw); go_simp)⟩) (by assumption) ?_
  try simp only [Act.put, List.setIfInBounds_toArray, List.set_cons_zero, List.set_cons_succ]
  refine wpAnyH_take (i := 4) (oi := { dst := some 69, op := Op.pick (Operand.tmp 66) (Operand.tmp 68) (Operand.const (Value.bool false)), type := 4, pos := "law.go:30", after := #[{ on := 1, ground := Ground.data }, { on := 3, ground := Ground.data }], guard := none }) (v := .bool true) rfl (by kernel_rfl) (by kernel_rfl) (by kernel_rfl) (fun _ _ _ h => h) (Or.inl ⟨by rfl, by (intro w hSw; (try dsimp only at hSw); go_simp)⟩) (by assumption) ?_
  try simp only [Act.put, List.setIfInBounds_toArray, List.set_cons_zero, List.set_cons_succ]
  refine wpAnyH_take (i := 5) (oi := { dst := some 70, op := Op.move (Operand.tmp 69), type := 4, pos := "law.go:30", after := #[{ on := 4, ground := Ground.data }, { on := 1, ground := Ground.chain }], guard := none }) (v := .bool true) rfl (by kernel_rfl) (by kernel_rfl) (by kernel_rfl) (fun _ _ _ h => h) (Or.inl ⟨by rfl, by (intro w hSw; (try dsimp only at hSw); go_simp)⟩) (by assumption) ?_
  try simp only [Act.put, List.setIfInBounds_toArray, List.set_cons_zero, List.set_cons_succ]
  refine wpAnyH_take (i := 6) (oi := { dst := some 71, op := Op.move (Operand.tmp 5), type := 4, pos := "law.go:30", after := #[{ on := 5, ground := Ground.guard }], guard := some (5, true) }) (v := .bool true) rfl (by kernel_rfl) (by kernel_rfl) (by kernel_rfl) (fun _ _ _ h => h) (Or.inl ⟨by rfl, by (intro w hSw; (try dsimp only at hSw); go_simp)⟩) (by assumption) ?_
  try simp only [Act.put, List.setIfInBounds_toArray, List.set_cons_zero, List.set_cons_succ]
  refine wpAnyH_take (i := 7) (oi := { dst := some 72, op := Op.pick (Operand.tmp 70) (Operand.tmp 71) (Operand.const (Value.bool false)), type := 4, pos := "law.go:30", after := #[{ on := 5, ground := Ground.data }, { on := 6, ground := Ground.data }], guard := none }) (v := .bool true) rfl (by kernel_rfl) (by kernel_rfl) (by kernel_rfl) (fun _ _ _ h => h) (Or.inl ⟨by rfl, by (intro w hSw; (try dsimp only at hSw); go_simp)⟩) (by assumption) ?_
  try simp only [Act.put, List.setIfInBounds_toArray, List.set_cons_zero, List.set_cons_succ]
  refine wpAnyH_take (i := 8) (oi := { dst := some 73, op := Op.move (Operand.tmp 72), type := 4, pos := "law.go:30", after := #[{ on := 7, ground := Ground.data }, { on := 5, ground := Ground.chain }], guard := none }) (v := .bool true) rfl (by kernel_rfl) (by kernel_rfl) (by kernel_rfl) (fun _ _ _ h => h) (Or.inl ⟨by rfl, by (intro w hSw; (try dsimp only at hSw); go_simp)⟩) (by assumption) ?_
  try simp only [Act.put, List.setIfInBounds_toArray, List.set_cons_zero, List.set_cons_succ]
  refine wpAnyH_take (i := 9) (oi := { dst := some 74, op := Op.move (Operand.tmp 6), type := 42, pos := "law.go:30", after := #[{ on := 8, ground := Ground.guard }], guard := some (8, true) }) (v := .int .i64 0) rfl (by kernel_rfl) (by kernel_rfl) (by kernel_rfl) (fun _ _ _ h => h) (Or.inl ⟨by rfl, by (intro w hSw; (try dsimp only at hSw); go_simp)⟩) (by assumption) ?_
  try simp only [Act.put, List.setIfInBounds_toArray, List.set_cons_zero, List.set_cons_succ]
  refine wpAnyH_take (i := 10) (oi := { dst := some 75, op := Op.binOp BinOp.eql 42 (Operand.tmp 74) (Operand.const (Value.int IntKind.i64 0)) 42, type := 4, pos := "law.go:30", after := #[{ on := 9, ground := Ground.data }, { on := 8, ground := Ground.guard }], guard := some (8, true) }) (v := .bool true) rfl (by kernel_rfl) (by kernel_rfl) (by kernel_rfl) (fun _ _ _ h => h) (Or.inl ⟨by rfl, by (intro w hSw; (try dsimp only at hSw); go_simp)⟩) (by assumption) ?_
  try simp only [Act.put, List.setIfInBounds_toArray, List.set_cons_zero, List.set_cons_succ]
  refine wpAnyH_take (i := 11) (oi := { dst := some 76, op := Op.pick (Operand.tmp 73) (Operand.tmp 75) (Operand.const (Value.bool false)), type := 4, pos := "law.go:30", after := #[{ on := 8, ground := Ground.data }, { on := 10, ground := Ground.data }], guard := none }) (v := .bool true) rfl (by kernel_rfl) (by kernel_rfl) (by kernel_rfl) (fun _ _ _ h => h) (Or.inl ⟨by rfl, by (intro w hSw; (try dsimp only at hSw); go_simp)⟩) (by assumption) ?_
  try simp only [Act.put, List.setIfInBounds_toArray, List.set_cons_zero, List.set_cons_succ]
  refine wpAnyH_take (i := 12) (oi := { dst := some 77, op := Op.move (Operand.tmp 76), type := 4, pos := "law.go:30", after := #[{ on := 11, ground := Ground.data }, { on := 8, ground := Ground.chain }], guard := none }) (v := .bool true) rfl (by kernel_rfl) (by kernel_rfl) (by kernel_rfl) (fun _ _ _ h => h) (Or.inl ⟨by rfl, by (intro w hSw; (try dsimp only at hSw); go_simp)⟩) (by assumption) ?_
  try simp only [Act.put, List.setIfInBounds_toArray, List.set_cons_zero, List.set_cons_succ]
  refine wpAnyH_take (i := 13) (oi := { dst := some 78, op := Op.move (Operand.tmp 7), type := 4, pos := "law.go:30", after := #[{ on := 12, ground := Ground.guard }], guard := some (12, true) }) (v := .bool false) rfl (by kernel_rfl) (by kernel_rfl) (by kernel_rfl) (fun _ _ _ h => h) (Or.inl ⟨by rfl, by (intro w hSw; (try dsimp only at hSw); go_simp)⟩) (by assumption) ?_
  try simp only [Act.put, List.setIfInBounds_toArray, List.set_cons_zero, List.set_cons_succ]
  refine wpAnyH_take (i := 14) (oi := { dst := some 79, op := Op.unOp UnOp.not 4 (Operand.tmp 78), type := 4, pos := "law.go:30", after := #[{ on := 13, ground := Ground.data }, { on := 12, ground := Ground.guard }], guard := some (12, true) }) (v := .bool true) rfl (by kernel_rfl) (by kernel_rfl) (by kernel_rfl) (fun _ _ _ h => h) (Or.inl ⟨by rfl, by (intro w hSw; (try dsimp only at hSw); go_simp)⟩) (by assumption) ?_
  try simp only [Act.put, List.setIfInBounds_toArray, List.set_cons_zero, List.set_cons_succ]
  refine wpAnyH_take (i := 15) (oi := { dst := some 80, op := Op.pick (Operand.tmp 77) (Operand.tmp 79) (Operand.const (Value.bool false)), type := 4, pos := "law.go:30", after := #[{ on := 12, ground := Ground.data }, { on := 14, ground := Ground.data }], guard := none }) (v := .bool true) rfl (by kernel_rfl) (by kernel_rfl) (by kernel_rfl) (fun _ _ _ h => h) (Or.inl ⟨by rfl, by (intro w hSw; (try dsimp only at hSw); go_simp)⟩) (by assumption) ?_
  try simp only [Act.put, List.setIfInBounds_toArray, List.set_cons_zero, List.set_cons_succ]
  refine wpAnyH_take (i := 16) (oi := { dst := some 81, op := Op.move (Operand.tmp 80), type := 4, pos := "law.go:30", after := #[{ on := 15, ground := Ground.data }, { on := 12, ground := Ground.chain }], guard := none }) (v := .bool true) rfl (by kernel_rfl) (by kernel_rfl) (by kernel_rfl) (fun _ _ _ h => h) (Or.inl ⟨by rfl, by (intro w hSw; (try dsimp only at hSw); go_simp)⟩) (by assumption) ?_
  try simp only [Act.put, List.setIfInBounds_toArray, List.set_cons_zero, List.set_cons_succ]
  refine wpAnyH_take (i := 17) (oi := { dst := some 82, op := Op.move (Operand.tmp 8), type := 42, pos := "law.go:30", after := #[{ on := 16, ground := Ground.guard }], guard := some (16, true) }) (v := .int .i64 0) rfl (by kernel_rfl) (by kernel_rfl) (by kernel_rfl) (fun _ _ _ h => h) (Or.inl ⟨by rfl, by (intro w hSw; (try dsimp only at hSw); go_simp)⟩) (by assumption) ?_
  try simp only [Act.put, List.setIfInBounds_toArray, List.set_cons_zero, List.set_cons_succ]
  refine wpAnyH_take (i := 18) (oi := { dst := some 83, op := Op.binOp BinOp.eql 42 (Operand.tmp 82) (Operand.const (Value.int IntKind.i64 0)) 42, type := 4, pos := "law.go:30", after := #[{ on := 17, ground := Ground.data }, { on := 16, ground := Ground.guard }], guard := some (16, true) }) (v := .bool true) rfl (by kernel_rfl) (by kernel_rfl) (by kernel_rfl) (fun _ _ _ h => h) (Or.inl ⟨by rfl, by (intro w hSw; (try dsimp only at hSw); go_simp)⟩) (by assumption) ?_
  try simp only [Act.put, List.setIfInBounds_toArray, List.set_cons_zero, List.set_cons_succ]
  refine wpAnyH_take (i := 19) (oi := { dst := some 84, op := Op.pick (Operand.tmp 81) (Operand.tmp 83) (Operand.const (Value.bool false)), type := 4, pos := "law.go:30", after := #[{ on := 16, ground := Ground.data }, { on := 18, ground := Ground.data }], guard := none }) (v := .bool true) rfl (by kernel_rfl) (by kernel_rfl) (by kernel_rfl) (fun _ _ _ h => h) (Or.inl ⟨by rfl, by (intro w hSw; (try dsimp only at hSw); go_simp)⟩) (by assumption) ?_
  try simp only [Act.put, List.setIfInBounds_toArray, List.set_cons_zero, List.set_cons_succ]
  refine wpAnyH_take (i := 20) (oi := { dst := some 85, op := Op.move (Operand.tmp 84), type := 4, pos := "law.go:30", after := #[{ on := 19, ground := Ground.data }, { on := 16, ground := Ground.chain }], guard := none }) (v := .bool true) rfl (by kernel_rfl) (by kernel_rfl) (by kernel_rfl) (fun _ _ _ h => h) (Or.inl ⟨by rfl, by (intro w hSw; (try dsimp only at hSw); go_simp)⟩) (by assumption) ?_
  try simp only [Act.put, List.setIfInBounds_toArray, List.set_cons_zero, List.set_cons_succ]
  refine wpAnyH_take (i := 21) (oi := { dst := some 86, op := Op.move (Operand.tmp 10), type := 42, pos := "law.go:30", after := #[{ on := 20, ground := Ground.guard }], guard := some (20, true) }) (v := .int .i64 1) rfl (by kernel_rfl) (by kernel_rfl) (by kernel_rfl) (fun _ _ _ h => h) (Or.inl ⟨by rfl, by (intro w hSw; (try dsimp only at hSw); go_simp)⟩) (by assumption) ?_
  try simp only [Act.put, List.setIfInBounds_toArray, List.set_cons_zero, List.set_cons_succ]
  refine wpAnyH_take (i := 22) (oi := { dst := some 87, op := Op.binOp BinOp.eql 42 (Operand.tmp 86) (Operand.const (Value.int IntKind.i64 1)) 42, type := 4, pos := "law.go:30", after := #[{ on := 21, ground := Ground.data }, { on := 20, ground := Ground.guard }], guard := some (20, true) }) (v := .bool true) rfl (by kernel_rfl) (by kernel_rfl) (by kernel_rfl) (fun _ _ _ h => h) (Or.inl ⟨by rfl, by (intro w hSw; (try dsimp only at hSw); go_simp)⟩) (by assumption) ?_
  try simp only [Act.put, List.setIfInBounds_toArray, List.set_cons_zero, List.set_cons_succ]
  refine wpAnyH_take (i := 23) (oi := { dst := some 88, op := Op.pick (Operand.tmp 85) (Operand.tmp 87) (Operand.const (Value.bool false)), type := 4, pos := "law.go:30", after := #[{ on := 20, ground := Ground.data }, { on := 22, ground := Ground.data }], guard := none }) (v := .bool true) rfl (by kernel_rfl) (by kernel_rfl) (by kernel_rfl) (fun _ _ _ h => h) (Or.inl ⟨by rfl, by (intro w hSw; (try dsimp only at hSw); go_simp)⟩) (by assumption) ?_
  try simp only [Act.put, List.setIfInBounds_toArray, List.set_cons_zero, List.set_cons_succ]
  refine wpAnyH_take (i := 24) (oi := { dst := some 89, op := Op.move (Operand.tmp 88), type := 4, pos := "law.go:30", after := #[{ on := 23, ground := Ground.data }, { on := 20, ground := Ground.chain }], guard := none }) (v := .bool true) rfl (by kernel_rfl) (by kernel_rfl) (by kernel_rfl) (fun _ _ _ h => h) (Or.inl ⟨by rfl, by (intro w hSw; (try dsimp only at hSw); go_simp)⟩) (by assumption) ?_
  try simp only [Act.put, List.setIfInBounds_toArray, List.set_cons_zero, List.set_cons_succ]
  refine wpAnyH_take (i := 25) (oi := { dst := some 90, op := Op.move (Operand.tmp 12), type := 42, pos := "law.go:30", after := #[{ on := 24, ground := Ground.guard }], guard := some (24, true) }) (v := .int .i64 0) rfl (by kernel_rfl) (by kernel_rfl) (by kernel_rfl) (fun _ _ _ h => h) (Or.inl ⟨by rfl, by (intro w hSw; (try dsimp only at hSw); go_simp)⟩) (by assumption) ?_
  try simp only [Act.put, List.setIfInBounds_toArray, List.set_cons_zero, List.set_cons_succ]
  refine wpAnyH_take (i := 26) (oi := { dst := some 91, op := Op.binOp BinOp.eql 42 (Operand.tmp 90) (Operand.const (Value.int IntKind.i64 0)) 42, type := 4, pos := "law.go:30", after := #[{ on := 25, ground := Ground.data }, { on := 24, ground := Ground.guard }], guard := some (24, true) }) (v := .bool true) rfl (by kernel_rfl) (by kernel_rfl) (by kernel_rfl) (fun _ _ _ h => h) (Or.inl ⟨by rfl, by (intro w hSw; (try dsimp only at hSw); go_simp)⟩) (by assumption) ?_
  try simp only [Act.put, List.setIfInBounds_toArray, List.set_cons_zero, List.set_cons_succ]
  refine wpAnyH_take (i := 27) (oi := { dst := some 92, op := Op.pick (Operand.tmp 89) (Operand.tmp 91) (Operand.const (Value.bool false)), type := 4, pos := "law.go:30", after := #[{ on := 24, ground := Ground.data }, { on := 26, ground := Ground.data }], guard := none }) (v := .bool true) rfl (by kernel_rfl) (by kernel_rfl) (by kernel_rfl) (fun _ _ _ h => h) (Or.inl ⟨by rfl, by (intro w hSw; (try dsimp only at hSw); go_simp)⟩) (by assumption) ?_
  try simp only [Act.put, List.setIfInBounds_toArray, List.set_cons_zero, List.set_cons_succ]
  refine wpAnyH_take (i := 28) (oi := { dst := some 93, op := Op.move (Operand.tmp 92), type := 4, pos := "law.go:30", after := #[{ on := 27, ground := Ground.data }, { on := 24, ground := Ground.chain }], guard := none }) (v := .bool true) rfl (by kernel_rfl) (by kernel_rfl) (by kernel_rfl) (fun _ _ _ h => h) (Or.inl ⟨by rfl, by (intro w hSw; (try dsimp only at hSw); go_simp)⟩) (by assumption) ?_
  try simp only [Act.put, List.setIfInBounds_toArray, List.set_cons_zero, List.set_cons_succ]
  refine wpAnyH_take (i := 29) (oi := { dst := some 94, op := Op.move (Operand.tmp 11), type := 31, pos := "law.go:30", after := #[{ on := 28, ground := Ground.guard }], guard := some (28, true) }) (v := .slice (some ⟨g, off, none⟩) 3 k) rfl (by kernel_rfl) (by kernel_rfl) (by kernel_rfl) (fun _ _ _ h => h) (Or.inl ⟨by rfl, by (intro w hSw; (try dsimp only at hSw); go_simp)⟩) (by assumption) ?_
  try simp only [Act.put, List.setIfInBounds_toArray, List.set_cons_zero, List.set_cons_succ]
  refine wpAnyH_take (i := 30) (oi := { dst := some 95, op := Op.call { callee := Callee.builtin Builtin.len, args := #[Operand.tmp 94], argTypes := #[31] }, type := 3, pos := "law.go:30", after := #[{ on := 29, ground := Ground.data }, { on := 28, ground := Ground.guard }], guard := some (28, true) }) (v := .int .i64 3) rfl (by kernel_rfl) (by kernel_rfl) (by kernel_rfl) (fun _ _ _ h => h) (Or.inl ⟨by rfl, by (intro w hSw; (try dsimp only at hSw); go_simp)⟩) (by assumption) ?_
  try simp only [Act.put, List.setIfInBounds_toArray, List.set_cons_zero, List.set_cons_succ]
  refine wpAnyH_take (i := 31) (oi := { dst := some 96, op := Op.binOp BinOp.eql 3 (Operand.tmp 95) (Operand.const (Value.int IntKind.i64 3)) 3, type := 4, pos := "law.go:30", after := #[{ on := 30, ground := Ground.data }, { on := 28, ground := Ground.guard }], guard := some (28, true) }) (v := .bool true) rfl (by kernel_rfl) (by kernel_rfl) (by kernel_rfl) (fun _ _ _ h => h) (Or.inl ⟨by rfl, by (intro w hSw; (try dsimp only at hSw); go_simp)⟩) (by assumption) ?_
  try simp only [Act.put, List.setIfInBounds_toArray, List.set_cons_zero, List.set_cons_succ]
  refine wpAnyH_take (i := 32) (oi := { dst := some 97, op := Op.pick (Operand.tmp 93) (Operand.tmp 96) (Operand.const (Value.bool false)), type := 4, pos := "law.go:30", after := #[{ on := 28, ground := Ground.data }, { on := 31, ground := Ground.data }], guard := none }) (v := .bool true) rfl (by kernel_rfl) (by kernel_rfl) (by kernel_rfl) (fun _ _ _ h => h) (Or.inl ⟨by rfl, by (intro w hSw; (try dsimp only at hSw); go_simp)⟩) (by assumption) ?_
  try simp only [Act.put, List.setIfInBounds_toArray, List.set_cons_zero, List.set_cons_succ]
  refine wpAnyH_take (i := 33) (oi := { dst := some 98, op := Op.move (Operand.tmp 97), type := 4, pos := "law.go:30", after := #[{ on := 32, ground := Ground.data }, { on := 28, ground := Ground.chain }], guard := none }) (v := .bool true) rfl (by kernel_rfl) (by kernel_rfl) (by kernel_rfl) (fun _ _ _ h => h) (Or.inl ⟨by rfl, by (intro w hSw; (try dsimp only at hSw); go_simp)⟩) (by assumption) ?_
  try simp only [Act.put, List.setIfInBounds_toArray, List.set_cons_zero, List.set_cons_succ]
  refine wpAnyH_take (i := 34) (oi := { dst := some 99, op := Op.move (Operand.tmp 11), type := 31, pos := "law.go:30", after := #[{ on := 33, ground := Ground.guard }], guard := some (33, true) }) (v := .slice (some ⟨g, off, none⟩) 3 k) rfl (by kernel_rfl) (by kernel_rfl) (by kernel_rfl) (fun _ _ _ h => h) (Or.inl ⟨by rfl, by (intro w hSw; (try dsimp only at hSw); go_simp)⟩) (by assumption) ?_
  try simp only [Act.put, List.setIfInBounds_toArray, List.set_cons_zero, List.set_cons_succ]
  refine wpAnyH_take (i := 35) (oi := { dst := some 100, op := Op.indexAddr 31 (Operand.tmp 99) (Operand.const (Value.int IntKind.i64 2)), type := 0, pos := "law.go:30", after := #[{ on := 34, ground := Ground.data }, { on := 33, ground := Ground.guard }], guard := some (33, true) }) (v := .pointer (some ⟨g, off + 2 * 3, none⟩)) rfl (by kernel_rfl) (by kernel_rfl) (by kernel_rfl) (fun _ _ _ h => h) (Or.inl ⟨by rfl, by (intro w hSw; (try dsimp only at hSw); go_simp)⟩) (by assumption) ?_
  try simp only [Act.put, List.setIfInBounds_toArray, List.set_cons_zero, List.set_cons_succ]
  refine wpAnyH_take (i := 36) (oi := { dst := some 101, op := Op.load 33 (Operand.tmp 100), type := 33, pos := "law.go:30", after := #[{ on := 35, ground := Ground.data }, { on := 33, ground := Ground.guard }], guard := some (33, true) }) (v := .agg #[.int .i64 T.op, .int .i64 T.n, .slice T.A T.args.length T.c]) rfl (by kernel_rfl) (by kernel_rfl) (by kernel_rfl) (fun _ _ _ h => h) (Or.inl ⟨by rfl, by (intro w hSw; (try dsimp only at hSw); go_simp)⟩) (by assumption) ?_
  try simp only [Act.put, List.setIfInBounds_toArray, List.set_cons_zero, List.set_cons_succ]
  refine wpAnyH_ready (rs := [37]) (by kernel_rfl) (by simp) (AllReadyH.cons (o := { dst := some 102, op := Op.call { callee := Callee.value (Operand.func 54), args := #[Operand.const (Value.int IntKind.i64 0), Operand.const (Value.int IntKind.i64 1), Operand.const (Value.slice none 0 0)], argTypes := #[3, 3, 31] }, type := 33, pos := "law.go:30", after := #[{ on := 33, ground := Ground.chain }, { on := 33, ground := Ground.guard }], guard := some (33, true) }) rfl (fun K hK => ?_) AllReadyH.nil)
  go_simp
  go_at_call 54
  refine (rOf5_any 0 1 none 0 0 W.drew).mono ?_
  rintro e w3 ⟨rfl, hb3'⟩
  have hb3 : Below W.heap.size W w3 := (Below.refl _ W).drew.trans hb3'
  refine hK.out _ _ (hS _ hb3) (fun hHeld => ?_)
  clear hK K
  try simp only [Act.put, List.setIfInBounds_toArray, List.set_cons_zero, List.set_cons_succ]
  refine wpAnyH_ready (rs := [38]) (by kernel_rfl) (by simp) (AllReadyH.cons (o := { dst := some 103, op := Op.buildSlice 31 1 #[(0, Operand.tmp 102)], type := 31, pos := "law.go:30", after := #[{ on := 37, ground := Ground.data }, { on := 33, ground := Ground.guard }], guard := some (33, true) }) rfl (fun K hK => ?_) AllReadyH.nil)
  obtain ⟨w4, hw4, hb4', hs4, hk4⟩ := newBlk w3 _ rfl #[.int .i64 0, .int .i64 1, .slice none 0 0] 33
  have hb4 : Below W.heap.size W w4 := hb3.trans (hb4'.mono hb3.size)
  go_simp
  first | rw [hw4] | skip
  refine hK.out _ _ (hS _ hb4) (fun hHeld => ?_)
  clear hK K
  try simp only [Act.put, List.setIfInBounds_toArray, List.set_cons_zero, List.set_cons_succ]
  refine wpAnyH_ready (rs := [39]) (by kernel_rfl) (by simp) (AllReadyH.cons (o := { dst := some 104, op := Op.call { callee := Callee.value (Operand.func 54), args := #[Operand.const (Value.int IntKind.i64 3), Operand.const (Value.int IntKind.i64 0), Operand.tmp 103], argTypes := #[3, 3, 31] }, type := 33, pos := "law.go:30", after := #[{ on := 38, ground := Ground.data }, { on := 37, ground := Ground.chain }, { on := 33, ground := Ground.guard }], guard := some (33, true) }) rfl (fun K hK => ?_) AllReadyH.nil)
  go_simp
  go_at_call 54
  refine (rOf5_any 3 0 _ 1 1 w4).mono ?_
  rintro e w5 ⟨rfl, hb5'⟩
  have hb5 : Below W.heap.size W w5 := hb4.trans (hb5'.mono hb4.size)
  refine hK.out _ _ (hS _ hb5) (fun hHeld => ?_)
  clear hK K
  try simp only [Act.put, List.setIfInBounds_toArray, List.set_cons_zero, List.set_cons_succ]
  refine wpAnyH_ready (rs := [40]) (by kernel_rfl) (by simp) (AllReadyH.cons (o := { dst := some 105, op := Op.buildSlice 31 1 #[(0, Operand.tmp 104)], type := 31, pos := "law.go:30", after := #[{ on := 39, ground := Ground.data }, { on := 33, ground := Ground.guard }], guard := some (33, true) }) rfl (fun K hK => ?_) AllReadyH.nil)
  obtain ⟨w6, hw6, hb6', hs6, hk6⟩ := newBlk w5 _ rfl #[.int .i64 3, .int .i64 0, .slice (some ⟨w3.heap.size, 0, none⟩) 1 1] 33
  have hb6 : Below W.heap.size W w6 := hb5.trans (hb6'.mono hb5.size)
  go_simp
  first | rw [hw6] | skip
  refine hK.out _ _ (hS _ hb6) (fun hHeld => ?_)
  clear hK K
  try simp only [Act.put, List.setIfInBounds_toArray, List.set_cons_zero, List.set_cons_succ]
  refine wpAnyH_ready (rs := [41]) (by kernel_rfl) (by simp) (AllReadyH.cons (o := { dst := some 106, op := Op.call { callee := Callee.value (Operand.func 54), args := #[Operand.const (Value.int IntKind.i64 6), Operand.const (Value.int IntKind.i64 0), Operand.tmp 105], argTypes := #[3, 3, 31] }, type := 33, pos := "law.go:30", after := #[{ on := 40, ground := Ground.data }, { on := 39, ground := Ground.chain }, { on := 33, ground := Ground.guard }], guard := some (33, true) }) rfl (fun K hK => ?_) AllReadyH.nil)
  go_simp
  go_at_call 54
  refine (rOf5_any 6 0 _ 1 1 w6).mono ?_
  rintro e w7 ⟨rfl, hb7'⟩
  have hb7 : Below W.heap.size W w7 := hb6.trans (hb7'.mono hb6.size)
  refine hK.out _ _ (hS _ hb7) (fun hHeld => ?_)
  clear hK K
  try simp only [Act.put, List.setIfInBounds_toArray, List.set_cons_zero, List.set_cons_succ]
  refine wpAnyH_ready (rs := [42]) (by kernel_rfl) (by simp) (AllReadyH.cons (o := { dst := some 107, op := Op.call { callee := Callee.value (Operand.func 29), args := #[Operand.tmp 101, Operand.tmp 106], argTypes := #[33, 33] }, type := 4, pos := "law.go:30", after := #[{ on := 36, ground := Ground.data }, { on := 41, ground := Ground.data }, { on := 41, ground := Ground.chain }, { on := 33, ground := Ground.guard }], guard := some (33, true) }) rfl (fun K hK => ?_) AllReadyH.nil)
  have hk47 := blk_lat0 hk4 (hb5'.trans ((hb6'.trans (hb7'.mono hb6'.size)).mono hb5'.size))
  have hk67 := blk_lat0 hk6 hb7'
  have hX := same_tree hk47 hk67
  have hsm := rSame_any T _ w7 (hT _ hb7) hX
  rw [hTt, same_beq] at hsm
  simp only [MT.val, MT.op, MT.n, MT.A, MT.c, MT.args] at hsm
  go_simp
  go_at_call 29
  refine hsm.mono ?_
  rintro e w8 ⟨rfl, hb8'⟩
  have hb8 : Below W.heap.size W w8 := hb7.trans (hb8'.mono hb7.size)
  refine hK.out _ _ (hS _ hb8) (fun hHeld => ?_)
  clear hK K
  try simp only [Act.put, List.setIfInBounds_toArray, List.set_cons_zero, List.set_cons_succ]
  refine wpAnyH_take (i := 43) (oi := { dst := some 108, op := Op.pick (Operand.tmp 98) (Operand.tmp 107) (Operand.const (Value.bool false)), type := 4, pos := "law.go:30", after := #[{ on := 33, ground := Ground.data }, { on := 42, ground := Ground.data }], guard := none }) (v := .bool true) rfl (by kernel_rfl) (by kernel_rfl) (by kernel_rfl) (fun _ _ _ h => h) (Or.inl ⟨by rfl, by (intro w hSw; (try dsimp only at hSw); go_simp)⟩) (by assumption) ?_
  try simp only [Act.put, List.setIfInBounds_toArray, List.set_cons_zero, List.set_cons_succ]
  refine wpAnyH_take (i := 44) (oi := { dst := some 109, op := Op.move (Operand.tmp 108), type := 4, pos := "law.go:30", after := #[{ on := 43, ground := Ground.data }, { on := 42, ground := Ground.chain }], guard := none }) (v := .bool true) rfl (by kernel_rfl) (by kernel_rfl) (by kernel_rfl) (fun _ _ _ h => h) (Or.inl ⟨by rfl, by (intro w hSw; (try dsimp only at hSw); go_simp)⟩) (by assumption) ?_
  try simp only [Act.put, List.setIfInBounds_toArray, List.set_cons_zero, List.set_cons_succ]
  refine wpAnyH_take (i := 45) (oi := { dst := some 110, op := Op.move (Operand.tmp 13), type := 4, pos := "law.go:30", after := #[{ on := 44, ground := Ground.guard }], guard := some (44, true) }) (v := .bool false) rfl (by kernel_rfl) (by kernel_rfl) (by kernel_rfl) (fun _ _ _ h => h) (Or.inl ⟨by rfl, by (intro w hSw; (try dsimp only at hSw); go_simp)⟩) (by assumption) ?_
  try simp only [Act.put, List.setIfInBounds_toArray, List.set_cons_zero, List.set_cons_succ]
  refine wpAnyH_take (i := 46) (oi := { dst := some 111, op := Op.unOp UnOp.not 4 (Operand.tmp 110), type := 4, pos := "law.go:30", after := #[{ on := 45, ground := Ground.data }, { on := 44, ground := Ground.guard }], guard := some (44, true) }) (v := .bool true) rfl (by kernel_rfl) (by kernel_rfl) (by kernel_rfl) (fun _ _ _ h => h) (Or.inl ⟨by rfl, by (intro w hSw; (try dsimp only at hSw); go_simp)⟩) (by assumption) ?_
  try simp only [Act.put, List.setIfInBounds_toArray, List.set_cons_zero, List.set_cons_succ]
  refine wpAnyH_take (i := 47) (oi := { dst := some 112, op := Op.pick (Operand.tmp 109) (Operand.tmp 111) (Operand.const (Value.bool false)), type := 4, pos := "law.go:30", after := #[{ on := 44, ground := Ground.data }, { on := 46, ground := Ground.data }], guard := none }) (v := .bool true) rfl (by kernel_rfl) (by kernel_rfl) (by kernel_rfl) (fun _ _ _ h => h) (Or.inl ⟨by rfl, by (intro w hSw; (try dsimp only at hSw); go_simp)⟩) (by assumption) ?_
  try simp only [Act.put, List.setIfInBounds_toArray, List.set_cons_zero, List.set_cons_succ]
  refine wpAnyH_take (i := 48) (oi := { dst := some 113, op := Op.move (Operand.tmp 112), type := 4, pos := "law.go:30", after := #[{ on := 47, ground := Ground.data }, { on := 44, ground := Ground.chain }], guard := none }) (v := .bool true) rfl (by kernel_rfl) (by kernel_rfl) (by kernel_rfl) (fun _ _ _ h => h) (Or.inl ⟨by rfl, by (intro w hSw; (try dsimp only at hSw); go_simp)⟩) (by assumption) ?_
  try simp only [Act.put, List.setIfInBounds_toArray, List.set_cons_zero, List.set_cons_succ]
  refine wpAnyH_take (i := 49) (oi := { dst := some 114, op := Op.move (Operand.tmp 14), type := 42, pos := "law.go:30", after := #[{ on := 48, ground := Ground.guard }], guard := some (48, true) }) (v := .int .i64 0) rfl (by kernel_rfl) (by kernel_rfl) (by kernel_rfl) (fun _ _ _ h => h) (Or.inl ⟨by rfl, by (intro w hSw; (try dsimp only at hSw); go_simp)⟩) (by assumption) ?_
  try simp only [Act.put, List.setIfInBounds_toArray, List.set_cons_zero, List.set_cons_succ]
  refine wpAnyH_take (i := 50) (oi := { dst := some 115, op := Op.binOp BinOp.eql 42 (Operand.tmp 114) (Operand.const (Value.int IntKind.i64 0)) 42, type := 4, pos := "law.go:30", after := #[{ on := 49, ground := Ground.data }, { on := 48, ground := Ground.guard }], guard := some (48, true) }) (v := .bool true) rfl (by kernel_rfl) (by kernel_rfl) (by kernel_rfl) (fun _ _ _ h => h) (Or.inl ⟨by rfl, by (intro w hSw; (try dsimp only at hSw); go_simp)⟩) (by assumption) ?_
  try simp only [Act.put, List.setIfInBounds_toArray, List.set_cons_zero, List.set_cons_succ]
  refine wpAnyH_take (i := 51) (oi := { dst := some 116, op := Op.pick (Operand.tmp 113) (Operand.tmp 115) (Operand.const (Value.bool false)), type := 4, pos := "law.go:30", after := #[{ on := 48, ground := Ground.data }, { on := 50, ground := Ground.data }], guard := none }) (v := .bool true) rfl (by kernel_rfl) (by kernel_rfl) (by kernel_rfl) (fun _ _ _ h => h) (Or.inl ⟨by rfl, by (intro w hSw; (try dsimp only at hSw); go_simp)⟩) (by assumption) ?_
  try simp only [Act.put, List.setIfInBounds_toArray, List.set_cons_zero, List.set_cons_succ]
  refine wpAnyH_take (i := 52) (oi := { dst := some 0, op := Op.assign (Operand.tmp 116), type := 4, pos := "law.go:30", after := #[{ on := 51, ground := Ground.data }, { on := 48, ground := Ground.chain }, { on := 0, ground := Ground.phase }, { on := 1, ground := Ground.phase }, { on := 2, ground := Ground.phase }, { on := 3, ground := Ground.phase }, { on := 4, ground := Ground.phase }, { on := 5, ground := Ground.phase }, { on := 6, ground := Ground.phase }, { on := 7, ground := Ground.phase }, { on := 8, ground := Ground.phase }, { on := 9, ground := Ground.phase }, { on := 10, ground := Ground.phase }, { on := 11, ground := Ground.phase }, { on := 12, ground := Ground.phase }, { on := 13, ground := Ground.phase }, { on := 14, ground := Ground.phase }, { on := 15, ground := Ground.phase }, { on := 16, ground := Ground.phase }, { on := 17, ground := Ground.phase }, { on := 18, ground := Ground.phase }, { on := 19, ground := Ground.phase }, { on := 20, ground := Ground.phase }, { on := 21, ground := Ground.phase }, { on := 22, ground := Ground.phase }, { on := 23, ground := Ground.phase }, { on := 24, ground := Ground.phase }, { on := 25, ground := Ground.phase }, { on := 26, ground := Ground.phase }, { on := 27, ground := Ground.phase }, { on := 28, ground := Ground.phase }, { on := 29, ground := Ground.phase }, { on := 30, ground := Ground.phase }, { on := 31, ground := Ground.phase }, { on := 32, ground := Ground.phase }, { on := 33, ground := Ground.phase }, { on := 34, ground := Ground.phase }, { on := 35, ground := Ground.phase }, { on := 36, ground := Ground.phase }, { on := 37, ground := Ground.phase }, { on := 38, ground := Ground.phase }, { on := 39, ground := Ground.phase }, { on := 40, ground := Ground.phase }, { on := 41, ground := Ground.phase }, { on := 42, ground := Ground.phase }, { on := 43, ground := Ground.phase }, { on := 44, ground := Ground.phase }, { on := 45, ground := Ground.phase }, { on := 46, ground := Ground.phase }, { on := 47, ground := Ground.phase }, { on := 48, ground := Ground.phase }, { on := 49, ground := Ground.phase }, { on := 50, ground := Ground.phase }, { on := 51, ground := Ground.phase }], guard := none }) (v := .bool true) rfl (by kernel_rfl) (by kernel_rfl) (by kernel_rfl) (fun _ _ _ h => h) (Or.inl ⟨by rfl, by (intro w hSw; (try dsimp only at hSw); go_simp)⟩) (by assumption) ?_
  try simp only [Act.put, List.setIfInBounds_toArray, List.set_cons_zero]
  refine wpAnyH_done (by kernel_rfl) ?_ _
  exact hQ _ _ _ _ _ _ _ _ _ _ _ _ _ _ _ _ _ _ _ _ _ _ _ _ _ _ _ _ _ _ _ _ _ _ _ _ _ _ _ _ _ _ _ _ _ _ _ _ _ _ _ _ _ hb8
end Go.Proofs.YtndkcimajeofcaaGreatDoor

namespace Go.Proofs.YtndkcimajeofcaaGreatDoor
open Go.RowKit
attribute [local go_sem ↓] Go.wp_at_zero Go.wp_at_succ

set_option maxRecDepth 100000 in
set_option maxHeartbeats 8000000 in
theorem awake5_any (w : World) (hG : G w) (hGT : GT w) : Calls Tryz.prog 21 #[] w fun e w' => e = .returned (.bool true) ∧ Below w.heap.size w w' := by
  go_enter Tryz.func21, Tryz.ntmps21
  go_wp2_with (go_at_call 54; refine (rOf5_any 0 0 none 0 0 w).mono ?_; rintro e w3 ⟨rfl, hb3⟩; obtain ⟨W4, hW4, hB4, hs4, hk4⟩ := newBlk w3 _ rfl #[.int .i64 0, .int .i64 0, .slice none 0 0] 33; obtain ⟨X, hX⟩ : ∃ X, w3.heap.size = X := ⟨_, rfl⟩; rw [hX] at hs4 hk4; obtain ⟨⟨d0, d1, d2⟩, e0, e1, e2⟩ := res3 hk4)
  obtain ⟨q1, q2⟩ := store3 hk4 (.int .i64 0) (.int .i64 0) (.slice none 0 0)
  have hb5 : Below w.heap.size w W4 := hb3.trans (hB4.mono hb3.size)
  have hzX : w.heap.size ≤ X := by rw [← hX]; exact hb3.size
  have hb5' := hb5.trans (below_grown q2 hzX (by omega))
  have hs5 := q2.size
  have hs5e : (((W4.setCell ⟨X, 0, none⟩ (.int .i64 0)).setCell ⟨X, 1, none⟩ (.int .i64 0)).setCell ⟨X, 2, none⟩ (.slice none 0 0)).heap.size = X + 1 := by simp [hs4]
  generalize (((W4.setCell ⟨X, 0, none⟩ (.int .i64 0)).setCell ⟨X, 1, none⟩ (.int .i64 0)).setCell ⟨X, 2, none⟩ (.slice none 0 0)) = W5 at q1 q2 hb5' hs5 hs5e ⊢
  obtain ⟨W6, hW6, hB6, hs6, hk6⟩ := newBlk W5 _ hs5e #[.string ⟨#[65]⟩, .string ⟨#[66]⟩] 9
  rw [hW6]
  obtain ⟨W7, hW7, hB7, hs7, hk7⟩ := newBlk W6 _ hs6 #[.string ⟨#[114]⟩, .string ⟨#[115]⟩] 9
  rw [hW7]
  obtain ⟨W8, hW8, hB8, hs8, hk8⟩ := newBlk W7 _ hs7 #[.slice (some ⟨X + 1, 0, none⟩) 2 2, .slice (some ⟨X + 1 + 1, 0, none⟩) 2 2, .slice none 0 0, .slice none 0 0, .slice none 0 0, .slice none 0 0, .slice none 0 0] 30
  rw [hW8]
  have hB58 : Below W5.heap.size W5 W8 := (hB6.mono (by omega)).trans ((hB7.mono (by omega)).trans (hB8.mono (by omega)))
  have hb8 : Below w.heap.size w W8 := hb5'.trans (hB58.mono (by omega))
  have hkA := blk_lat0 q1 hB58
  have hkC := blk_lat0 hk6 ((hB7.mono (by omega)).trans (hB8.mono (by omega)))
  have hkR := blk_lat0 hk7 (hB8.mono (by omega))
  have hS : ∀ w', Below (X + 1 + 1 + 1) W8 w' → w'.cell? ⟨X, 0, none⟩ = some (.int .i64 0) ∧ w'.cell? ⟨X, 1, none⟩ = some (.int .i64 0) ∧ w'.cell? ⟨X, 2, none⟩ = some (.slice none 0 0) := fun w' hb => (res3 ((hb.block X (by omega)).trans hkA)).1
  have HS := Lib.hid hS
  have HK8 := Lib.hid hk8
  have HKC := Lib.hid hkC
  have HKR := Lib.hid hkR
  have HB8 := Lib.hid hb8
  have hd : Below W8.heap.size W8 W8.drew := (Below.refl _ _).drew
  clear d0 d1 d2 e0 e1 e2 hW4 hW6 hW7 hW8 hB4 hB6 hB7 hB8 hk4 hk6 hk7 hk8 hkA hkC hkR hb8 hB58 hb5 hb5' hb3 q1 q2 hS hs5 hs5e hs4 hs6 hs7
  go_region_held (fun w' => w'.cell? ⟨X, 0, none⟩ = some (.int .i64 0) ∧ w'.cell? ⟨X, 1, none⟩ = some (.int .i64 0) ∧ w'.cell? ⟨X, 2, none⟩ = some (.slice none 0 0))
    (first | exact HS.out _ (hd.mono (by omega)) | exact HS.out _ (hb9.mono (by omega)) | exact HS.out _ (hb10.mono (by omega)) | exact HS.out _ (hb11.mono (by omega)) | exact HS.out _ (hb12.mono (by omega)) | exact HS.out _ hb13)
    (first
      | (go_at_call 54; refine (rOf5_any 0 1 none 0 0 W8.drew).mono ?_; rintro e w9 ⟨rfl, hb9'⟩; have hb9 : Below W8.heap.size W8 w9 := hd.trans (hb9'.mono hd.size); obtain ⟨W10, hW10, hB10, hs10, hk10⟩ := newBlk w9 _ rfl #[.int .i64 0, .int .i64 1, .slice none 0 0] 33; obtain ⟨Y, hY⟩ : ∃ Y, w9.heap.size = Y := ⟨_, rfl⟩; rw [hY] at hs10 hk10; have hb10 := hb9.trans (hB10.mono hb9.size))
      | (go_at_call 54; refine (rOf5_any 7 0 _ 1 1 W10).mono ?_; rintro e w11 ⟨rfl, hb11'⟩; have hb11 := hb10.trans (hb11'.mono hb10.size); obtain ⟨W12, hW12, hB12, hs12, hk12⟩ := newBlk w11 _ rfl #[.int .i64 0, .int .i64 0, .slice none 0 0, .int .i64 7, .int .i64 0, .slice (some ⟨Y, 0, none⟩) 1 1] 111; obtain ⟨V, hV⟩ : ∃ V, w11.heap.size = V := ⟨_, rfl⟩; rw [hV] at hs12 hk12; have hb12 := hb11.trans (hB12.mono hb11.size); have hkb := blk_lat HK8.out hb12; have g0 := cell_of_blk hkb 3; have g1 := frozen_of_blk hkb 3; have hgr := grown_set W12 (X + 1 + 1 + 1) 3 (.slice (some ⟨V, 0, none⟩) 1 1); have hb13 : Below (X + 1 + 1 + 1) W8 _ := (hb12.mono (by omega)).trans (below_grown hgr (Nat.le_refl _) (by have := hb12.size; omega))))
  have hk13 := blk_set hkb 3 (.slice (some ⟨V, 0, none⟩) 1 1)
  have hXY : X + 1 + 1 + 1 < Y := by rw [← hY]; have := hb9.size; have := (Array.getElem?_eq_some_iff.1 HK8.out).1; omega
  have hYV : Y < V := by rw [← hV]; have := hb11'.size; omega
  have hc13 := (hgr.block (X + 1) (by omega) (fun e => by have := Option.some.inj e; omega)).trans (blk_lat0 HKC.out hb12)
  have hr13 := (hgr.block (X + 1 + 1) (by omega) (fun e => by have := Option.some.inj e; omega)).trans (blk_lat0 HKR.out hb12)
  have hy13 := (hgr.block Y (by omega) (fun e => by have := Option.some.inj e; omega)).trans (blk_lat0 (blk_lat0 hk10 hb11') (hB12.mono (Nat.le_refl _)))
  have hv13 := (hgr.block V (by omega) (fun e => by have := Option.some.inj e; omega)).trans hk12
  have hs13 : (W12.setCell ⟨X + 1 + 1 + 1, 3, none⟩ (.slice (some ⟨V, 0, none⟩) 1 1)).heap.size = V + 1 := by simp [hs12]
  have hbw13 := HB8.out.trans (hb13.mono (by have := HB8.out.size; have := (Array.getElem?_eq_some_iff.1 HK8.out).1; omega))
  have hwX : w.heap.size ≤ X + 1 + 1 + 1 := by omega
  generalize W12.setCell ⟨X + 1 + 1 + 1, 3, none⟩ (.slice (some ⟨V, 0, none⟩) 1 1) = W13 at hk13 hc13 hr13 hy13 hv13 hs13 hbw13 hgr hb13 ⊢
  obtain ⟨W14, hW14, hB14, hs14, hk14⟩ := newBlk W13 _ hs13 #[.int .i64 0, .int .i64 3] 94
  have hkb14 := blk_lat0 hk13 (hB14.mono (by omega))
  have g4 := cell_of_blk hkb14 4
  have f4 := frozen_of_blk hkb14 4
  have hk15 := blk_set hkb14 4 (.slice (some ⟨V + 1, 0, none⟩) 1 1)
  have hg15 := grown_set W14 (X + 1 + 1 + 1) 4 (.slice (some ⟨V + 1, 0, none⟩) 1 1)
  have hc15 := (hg15.block (X + 1) (by omega) (fun e => by have := Option.some.inj e; omega)).trans (blk_lat0 hc13 (hB14.mono (by omega)))
  have hr15 := (hg15.block (X + 1 + 1) (by omega) (fun e => by have := Option.some.inj e; omega)).trans (blk_lat0 hr13 (hB14.mono (by omega)))
  have hy15 := (hg15.block Y (by omega) (fun e => by have := Option.some.inj e; omega)).trans (blk_lat0 hy13 (hB14.mono (by omega)))
  have hv15 := (hg15.block V (by omega) (fun e => by have := Option.some.inj e; omega)).trans (blk_lat0 hv13 (hB14.mono (by omega)))
  have ho15 := (hg15.block (V + 1) (by omega) (fun e => by have := Option.some.inj e; omega)).trans hk14
  have hbw15 := hbw13.trans ((hB14.mono (by have := hbw13.size; omega)).trans (below_grown hg15 hwX (by have := hbw13.size; have := hB14.size; omega)))
  obtain ⟨W15, hW15⟩ : ∃ W, W14.setCell ⟨X + 1 + 1 + 1, 4, none⟩ (.slice (some ⟨V + 1, 0, none⟩) 1 1) = W := ⟨_, rfl⟩
  rw [hW15] at hk15 hc15 hr15 hy15 hv15 ho15 hbw15
  have hin := bsA_in hc15 hr15 hv15 hy15 ho15
  have hhin := bsA_hin (hG.later hbw15) (hGT.later hbw15) hin
  have hbox : ∀ w', Below W15.heap.size W15 w' → BBox w' (X + 1 + 1 + 1) (bsA (some ⟨X + 1, 0, none⟩) (some ⟨X + 1 + 1, 0, none⟩) (some ⟨V, 0, none⟩) (some ⟨Y, 0, none⟩) (some ⟨V + 1, 0, none⟩)) := fun w' hb => bbox_of ((blk_lat0 hk15 hb).trans rfl)
  have HH := Lib.hid (fun w' (hb : Below W15.heap.size W15 w') => hhin.later hb)
  have hbox2 : ∀ w', Below W15.heap.size W15 w' →  w'.cell? ⟨X + 1 + 1 + 1, 0, none⟩ = some (.slice (some ⟨X + 1, 0, none⟩) 2 2) ∧ w'.cell? ⟨X + 1 + 1 + 1, 1, none⟩ = some (.slice (some ⟨X + 1 + 1, 0, none⟩) 2 2) ∧ w'.cell? ⟨X + 1 + 1 + 1, 2, none⟩ = some (.slice none 0 0) ∧ w'.cell? ⟨X + 1 + 1 + 1, 3, none⟩ = some (.slice (some ⟨V, 0, none⟩) 1 1) ∧ w'.cell? ⟨X + 1 + 1 + 1, 4, none⟩ = some (.slice (some ⟨V + 1, 0, none⟩) 1 1) ∧ w'.cell? ⟨X + 1 + 1 + 1, 5, none⟩ = some (.slice none 0 0) ∧ w'.cell? ⟨X + 1 + 1 + 1, 6, none⟩ = some (.slice none 0 0) := fun w' hb => hbox w' hb
  have HBX := Lib.hid hbox2
  have C1 := Lib.hid (fun w' (hb : Below W15.heap.size W15 w') => awB1 _ _ _ _ _ w' (HH.out w' hb))
  have C2 := Lib.hid (fun w' (hb : Below W15.heap.size W15 w') => awB2 _ _ _ _ _ w' (HH.out w' hb))
  have C3 := Lib.hid (fun w' (hb : Below W15.heap.size W15 w') => awB3 _ _ _ _ _ w' (HH.out w' hb))
  have C4 := Lib.hid (fun w' (hb : Below W15.heap.size W15 w') => awB4 _ _ _ _ _ w' (HH.out w' hb))
  have CM := Lib.hid (fun w' (hb : Below W15.heap.size W15 w') => awM _ _ _ _ _ w' (HH.out w' hb))
  have CT := Lib.hid (fun w' (hb : Below W15.heap.size W15 w') => awT _ _ _ _ _ w' (HH.out w' hb))
  obtain ⟨c0, c1, c2, c3, c4, c5, c6⟩ := hbox2 W15 (Below.refl _ _)
  have HBW := Lib.hid hbw15
  have hV : ∀ w', Below W15.heap.size W15 w' → w'.cell? ⟨V, 3, none⟩ = some (.int .i64 7) ∧ w'.cell? ⟨V, 4, none⟩ = some (.int .i64 0) ∧ w'.cell? ⟨V, 5, none⟩ = some (.slice (some ⟨Y, 0, none⟩) 1 1) := fun w' hb => ⟨cell_of_blk (blk_lat0 hv15 hb) 3, cell_of_blk (blk_lat0 hv15 hb) 4, cell_of_blk (blk_lat0 hv15 hb) 5⟩
  have HV := Lib.hid hV
  clear hbox hbox2 hV hv15 hin hhin hk15 hc15 hr15 hy15 ho15 hbw15 hg15 hkb14 hk14 hB14 hs14 hgr hb13 hb9 hb9' hb10 hb11 hb11' hb12 hB10 hB12 hk10 hk12 hkb g0 g1 hs10 hs12 hk13 hc13 hr13 hy13 hv13 hbw13
  go_wp2_with (first
    | (go_at_call 27; refine (CM.out w19 hb19).mono ?_; rintro e w20 ⟨A20, k20, t0, t1, t2, rfl, hrow, hin20, htr20, hb20'⟩; have hb20 := hb19.trans (hb20'.mono hb19.size); clear c0 c1 c2 c3 c4 c5 c6; obtain ⟨g, off, hA20, h3⟩ := third_at hrow; subst hA20; have H3 := Lib.hid h3; have HIN := Lib.hid hin20; have HTR := Lib.hid htr20; clear h3 hrow hin20 htr20)
    | (go_at_call 22; refine (C4.out w18 hb18).mono ?_; rintro e w19 ⟨rfl, hb19'⟩; have hb19 := hb18.trans (hb19'.mono hb18.size); clear c0 c1 c2 c3 c4 c5 c6; obtain ⟨c0, c1, c2, c3, c4, c5, c6⟩ := HBX.out w19 hb19)
    | (go_at_call 22; refine (C3.out w17 hb17).mono ?_; rintro e w18 ⟨rfl, hb18'⟩; have hb18 := hb17.trans (hb18'.mono hb17.size); clear c0 c1 c2 c3 c4 c5 c6; obtain ⟨c0, c1, c2, c3, c4, c5, c6⟩ := HBX.out w18 hb18)
    | (go_at_call 22; refine (C2.out w16 hb16).mono ?_; rintro e w17 ⟨rfl, hb17'⟩; have hb17 := hb16.trans (hb17'.mono hb16.size); clear c0 c1 c2 c3 c4 c5 c6; obtain ⟨c0, c1, c2, c3, c4, c5, c6⟩ := HBX.out w17 hb17)
    | (go_at_call 22; refine (C1.out W15 (Below.refl _ _)).mono ?_; rintro e w16 ⟨rfl, hb16⟩; clear c0 c1 c2 c3 c4 c5 c6; obtain ⟨c0, c1, c2, c3, c4, c5, c6⟩ := HBX.out w16 hb16))
  have hb20d : Below W15.heap.size W15 w20.drew := hb20.drew
  go_region_held (fun w' => (w'.cell? ⟨X + 1 + 1 + 1, 0, none⟩ = some (.slice (some ⟨X + 1, 0, none⟩) 2 2) ∧ w'.cell? ⟨X + 1 + 1 + 1, 1, none⟩ = some (.slice (some ⟨X + 1 + 1, 0, none⟩) 2 2) ∧ w'.cell? ⟨X + 1 + 1 + 1, 2, none⟩ = some (.slice none 0 0) ∧ w'.cell? ⟨X + 1 + 1 + 1, 3, none⟩ = some (.slice (some ⟨V, 0, none⟩) 1 1) ∧ w'.cell? ⟨X + 1 + 1 + 1, 4, none⟩ = some (.slice (some ⟨V + 1, 0, none⟩) 1 1) ∧ w'.cell? ⟨X + 1 + 1 + 1, 5, none⟩ = some (.slice none 0 0) ∧ w'.cell? ⟨X + 1 + 1 + 1, 6, none⟩ = some (.slice none 0 0)) ∧ (w'.cell? ⟨V, 3, none⟩ = some (.int .i64 7) ∧ w'.cell? ⟨V, 4, none⟩ = some (.int .i64 0) ∧ w'.cell? ⟨V, 5, none⟩ = some (.slice (some ⟨Y, 0, none⟩) 1 1)))
    (first | exact ⟨HBX.out _ hb20d, HV.out _ hb20d⟩ | exact ⟨HBX.out _ hb21, HV.out _ hb21⟩)
    (first | (go_at_call 30; refine (CT.out w20.drew hb20d).mono ?_; rintro e w21 ⟨rfl, hb21'⟩; have hb21 : Below W15.heap.size W15 w21 := hb20d.trans (hb21'.mono hb20d.size)))
  have hb2021 : Below w20.heap.size w20 w21 := (Below.refl _ _).drew.trans hb21'
  go_wp2_with fail
  refine aw11_any (g := g) (off := off) (k := k20) (T := t2) HTR.out _ w21 (fun w' hb => H3.out w' (hb2021.trans (hb.mono hb2021.size))) (fun w' hb => HIN.out.later (hb2021.trans (hb.mono hb2021.size))) _ _ _ _ _ _ _ _ _ _ _ _ _ _ _ _ _ _ _ _ _ _ _ _ _ _ _ _ _ _ _ _ _ _ _ _ _ _ _ _ _ _ _ _ _ _ _ _ _ _ _ _ _ _ _ _ _ _ _ _ _ _ _ _ _ _ _ _ _ _ _ _ _ _ _ _ _ _ _ _ _ _ _ _ _ _ _ _ _ _ _ _ _ _ _ _ _ _ _ _ _ _ _ _ _ _ (fun u65 u66 u67 u68 u69 u70 u71 u72 u73 u74 u75 u76 u77 u78 u79 u80 u81 u82 u83 u84 u85 u86 u87 u88 u89 u90 u91 u92 u93 u94 u95 u96 u97 u98 u99 u100 u101 u102 u103 u104 u105 u106 u107 u108 u109 u110 u111 u112 u113 u114 u115 u116 w22 hb22 => ?_)
  dsimp only
  go_wp2_with fail
  go_ret
  exact ⟨rfl, HBW.out.trans ((hb21.trans (hb22.mono hb21.size)).mono HBW.out.size)⟩
end Go.Proofs.YtndkcimajeofcaaGreatDoor
