import Derived.Test.YtneegmhcmegijaaDoorTok2
namespace Go.Proofs.YtneegmhcmegijaaDoor
open Go.RowKit

/-- THE PARSER's STATE: in block pb lie the names n and the tokens ts that are left. -/
def PA (n : NM) (B pb : Nat) (ts : List ByteArray) (w : World) : Prop :=
  B ≤ pb ∧ n.In B w ∧ ∃ A c, w.heap[pb]? = some (.cells #[.slice n.C.A n.C.l.length n.C.c, .slice n.R.A n.R.l.length n.R.c, .slice n.I.A n.I.l.length n.I.c, .slice A ts.length c] 165) ∧ (SL.mk A c ts).In B w

section
variable {n : NM} {B pb : Nat} {ts : List ByteArray} {w w' : World}
theorem PA.lt (h : PA n B pb ts w) : pb < w.heap.size := by
  obtain ⟨_, _, A, c, hk, _⟩ := h
  exact (Array.getElem?_eq_some_iff.1 hk).1
theorem PA.below (h : PA n B pb ts w) (hg : w.grownBy w' (some pb)) : Below B w w' := below_grown hg h.1 (Nat.le_trans h.1 (Nat.le_of_lt h.lt))
theorem PA.later (h : PA n B pb ts w) (hb : Below w.heap.size w w') : PA n B pb ts w' := by
  have hlt := h.lt
  have hb' := hb.mono (Nat.le_trans h.1 (Nat.le_of_lt hlt))
  obtain ⟨h1, h2, A, c, hk, hin⟩ := h
  exact ⟨h1, h2.below (Nat.le_refl _) hb', A, c, (hb.block pb hlt).trans hk, hin.below (Nat.le_refl _) hb'⟩
theorem grown_below {row : Option Nat} (hb : Below w.heap.size w w') : w.grownBy w' row := ⟨hb.os, hb.tape, hb.output, hb.size, fun k hk _ => hb.block k hk⟩
theorem PA.toks (h : PA n B pb ts w) : ∀ x ∈ ts, x.size ≤ maxLen := by
  obtain ⟨_, _, A, c, _, hin⟩ := h
  exact hin.2.2.2.2
end

theorem Tail.In {c b off B : Nat} {t : ByteArray} {r : List ByteArray} {w : World} (h : (SL.mk (some ⟨b, off, none⟩) c (t :: r)).In B w) : (SL.mk (some ⟨b, off + 1, none⟩) (c - 1) r).In B w := by
  obtain ⟨h1, h2, h3, h4, h5⟩ := h
  simp only [List.length_cons] at h1 h2 h4 h5
  refine ⟨by simp only; omega, by simp only; omega, by simp, ⟨by simp, fun hn => ?_⟩, fun x hx => h5 x (List.mem_cons_of_mem _ hx)⟩
  obtain ⟨b', off', hA', hb, hc⟩ := h4.2 (by omega)
  cases hA'
  refine ⟨b, off + 1, rfl, hb, fun j hj => ?_⟩
  simp only at hj
  have := hc (j + 1) (by omega)
  rw [show off + 1 + j = off + (j + 1) by omega, this]
  simp
theorem Nil.In (A : Option Addr) (B : Nat) (w : World) : (SL.mk A 0 []).In B w := ⟨Nat.le_refl _, by simp, fun _ => rfl, RowAt.nil _ _ _ _, by simp⟩
theorem PA.set {n : NM} {B pb : Nat} {ts : List ByteArray} {w : World} (h : PA n B pb ts w) {A : Option Addr} {c : Nat} {r : List ByteArray} (hr : (SL.mk A c r).In B w) : PA n B pb r (w.setCell ⟨pb, 3, none⟩ (.slice A r.length c)) := by
  have hb := h.below (grown_set w pb 3 (.slice A r.length c))
  obtain ⟨h1, h2, A', c', hk, _⟩ := h
  exact ⟨h1, h2.below (Nat.le_refl _) hb, A, c, by rw [blk_set hk 3 _]; rfl, hr.below (Nat.le_refl _) hb⟩

def NextP (n : NM) (B pb : Nat) (ts : List ByteArray) (w : World) (e : Ending) (w' : World) : Prop :=
  w.grownBy w' (some pb) ∧ match ts with
    | [] => e = .panicked boom
    | t :: r => e = .returned (.string t) ∧ PA n B pb r w'

set_option maxRecDepth 100000 in
set_option maxHeartbeats 1000000 in
theorem next_any (n : NM) (B pb : Nat) (ts : List ByteArray) (w : World) (h : PA n B pb ts w) : Calls Tryd.prog 133 #[.pointer (some ⟨pb, 0, none⟩)] w (NextP n B pb ts w) := by
  have hpa := h
  obtain ⟨h1, h2, A, c, hk, hin⟩ := h
  have d3 := cell_of_blk hk 3
  have f3 := frozen_of_blk hk 3
  simp only [List.getElem?_toArray, List.getElem?_cons_zero, List.getElem?_cons_succ] at d3
  cases ts with
  | nil =>
    simp only [List.length_nil] at d3
    go_enter Tryd.func133, Tryd.ntmps133
    go_wp2_with fail
    exact ⟨rfl, grown_below (Below.refl _ _), rfl⟩
  | cons t r =>
    obtain ⟨b, off, hA, hb, hc⟩ := hin.cells (by simp)
    have hc0 := hc 0 (by simp)
    simp only at hA
    subst hA
    simp only [Nat.add_zero, List.getD_cons_zero, List.length_cons] at hc0 d3
    have hlc : r.length + 1 ≤ c := hin.1
    have hcm : c ≤ 9223372036854775807 := hin.2.1
    have HI := Lib.hid hin
    clear hin hc hk
    go_enter Tryd.func133, Tryd.ntmps133
    go_wp2_with fail
    · go_ret
      have hr0 : r = [] := List.eq_nil_of_length_eq_zero (by omega)
      subst hr0
      exact ⟨grown_set _ _ _ _, rfl, hpa.set (Nil.In _ _ _)⟩
    · go_ret
      exact ⟨grown_set _ _ _ _, rfl, hpa.set (Tail.In HI.out)⟩

def findN (L : List ByteArray) (t : ByteArray) : Option Int := if nameL t.data.toList then some (Lib.idxOfS L t) else none
def FindP (L : List ByteArray) (t : ByteArray) (w : World) (e : Ending) (w' : World) : Prop := (match findN L t with | none => e = .panicked boom | some i => e = .returned (.int .i64 i)) ∧ w = w'
theorem index_any (sl : SL) (B : Nat) (t : ByteArray) (w : World) (h : sl.In B w) : Calls Tryd.prog 131 #[.slice sl.A sl.l.length sl.c, .string t] w fun e w' => e = .returned (.int .i64 (Lib.idxOfS sl.l t)) ∧ w' = w := by
  rcases Nat.eq_zero_or_pos sl.l.length with h0 | h0
  · have hn : sl.l = [] := List.eq_nil_of_length_eq_zero h0
    rw [h0, hn]
    exact Tryd.slices_Index_string_empty _ _ _ _
  · obtain ⟨b, off, hA, hb, hc⟩ := h.cells (by omega)
    rw [hA]
    have := Tryd.slices_Index_string b off sl.l.length sl.c sl.l t w (Nat.le_refl _) (Nat.le_trans h.1 h.2.1) hc
    rwa [List.take_length] at this

set_option maxRecDepth 100000 in
set_option maxHeartbeats 1000000 in
theorem find_any (sl : SL) (B : Nat) (t : ByteArray) (w : World) (h : sl.In B w) (ht : t.size ≤ maxLen) : Calls Tryd.prog 136 #[.slice sl.A sl.l.length sl.c, .string t] w (FindP sl.l t w) := by
  have hw := isName_any t ht w
  have hi := index_any sl B t w h
  have HF := Lib.hid (show findN sl.l t = if nameL t.data.toList then some (Lib.idxOfS sl.l t) else none from rfl)
  cases h1 : nameL t.data.toList
  all_goals
    rw [h1] at hw HF
    clear h1
    go_enter Tryd.func136, Tryd.ntmps136
    go_wp2_with (first | (go_at_call 130; refine hw.mono ?_; rintro e w' ⟨rfl, rfl⟩) | (go_at_call 131; refine hi.mono ?_; rintro e w' ⟨rfl, rfl⟩))
  · exact ⟨rfl, by unfold FindP; rw [HF.out]; exact ⟨rfl, rfl⟩⟩
  · go_ret
    unfold FindP; rw [HF.out]; exact ⟨rfl, rfl⟩

def connF (t : ByteArray) : Option Int := if t.data.toList = [97, 110, 100] then some 4 else if t.data.toList = [111, 114] then some 5 else none
def ConnP (n : NM) (B pb : Nat) (ts : List ByteArray) (w : World) (e : Ending) (w' : World) : Prop :=
  w.grownBy w' (some pb) ∧ match ts with
    | [] => e = .panicked boom
    | t :: r => match connF t with
      | none => e = .panicked boom
      | some i => e = .returned (.int .i64 i) ∧ PA n B pb r w'

theorem bytes_ext {a b : ByteArray} (h : a.data.toList = b.data.toList) : a = b := by
  cases a; cases b
  simp only [Array.toList_inj] at h
  rw [h]
theorem ne_test {t : ByteArray} {l : List UInt8} (h : ¬ t.data.toList = l) : (t.toList == l) = false := by
  rw [ByteArray.toList_eq]; simpa using h
set_option maxRecDepth 100000 in
set_option maxHeartbeats 1000000 in
theorem conn_any (n : NM) (B pb : Nat) (ts : List ByteArray) (w : World) (h : PA n B pb ts w) : Calls Tryd.prog 169 #[.pointer (some ⟨pb, 0, none⟩)] w (ConnP n B pb ts w) := by
  have hn := next_any n B pb ts w h
  cases ts with
  | nil =>
    go_enter Tryd.func169, Tryd.ntmps169
    go_wp2_with (go_at_call 133; refine hn.mono ?_; rintro e w' ⟨hg, rfl⟩)
    exact ⟨rfl, hg, rfl⟩
  | cons t r =>
    by_cases h1 : t.data.toList = [97, 110, 100]
    · have : t = ⟨#[97, 110, 100]⟩ := bytes_ext h1
      subst this
      go_enter Tryd.func169, Tryd.ntmps169
      go_wp2_with (go_at_call 133; refine hn.mono ?_; rintro e w' ⟨hg, rfl, hp⟩)
      go_ret
      exact ⟨hg, rfl, hp⟩
    · by_cases h2 : t.data.toList = [111, 114]
      · have : t = ⟨#[111, 114]⟩ := bytes_ext h2
        subst this
        go_enter Tryd.func169, Tryd.ntmps169
        go_wp2_with (go_at_call 133; refine hn.mono ?_; rintro e w' ⟨hg, rfl, hp⟩)
        go_ret
        exact ⟨hg, rfl, hp⟩
      · have HF := Lib.hid (show connF t = none by rw [connF, if_neg h1, if_neg h2])
        replace h1 := ne_test h1
        replace h2 := ne_test h2
        go_enter Tryd.func169, Tryd.ntmps169
        go_wp2_with (go_at_call 133; refine hn.mono ?_; rintro e w' ⟨hg, rfl, hp⟩)
        exact ⟨rfl, hg, by simp only; rw [HF.out]; rfl⟩

theorem node_new {lo : Nat} {w : World} {op n : Int} {Ts : List MT} (hlo : lo ≤ w.heap.size) (h0 : Ts ≠ []) (hT : ∀ t ∈ Ts, New lo w t) (hn : Ts.length ≤ 9223372036854775807) :
    New lo (w.alloc (.cells (Ts.flatMap MT.cs).toArray 27)) (.mk op n (some ⟨w.heap.size, 0, none⟩) Ts.length Ts) := by
  have hk : (w.alloc (.cells (Ts.flatMap MT.cs).toArray 27)).heap[w.heap.size]? = some (.cells (Ts.flatMap MT.cs).toArray 27) := World.alloc_heap_new' w _
  have hb : Below w.heap.size w (w.alloc (.cells (Ts.flatMap MT.cs).toArray 27)) := (Below.refl _ _).alloc (Nat.le_refl _) _
  have hT' : ∀ t ∈ Ts, New lo (w.alloc (.cells (Ts.flatMap MT.cs).toArray 27)) t := fun t ht => (hT t ht).later hb
  have hl : ∀ l : List MT, (l.flatMap MT.cs).length = l.length * 3 := fun l => by
    induction l with
    | nil => rfl
    | cons t l ih => rw [List.flatMap_cons, List.length_append, ih, List.length_cons]; simp only [MT.cs, List.length_cons, List.length_nil]; omega
  refine ⟨?_, ?_⟩
  · rw [MT.In]
    refine ⟨Nat.le_refl _, hn, ⟨hl Ts, fun _ => ⟨w.heap.size, 0, rfl, by simp, fun j hj => ?_⟩⟩, MT.InAll.of fun t ht => (hT' t ht).1⟩
    rw [cell_of_blk hk, Nat.zero_add, List.getElem?_toArray]
  · rw [Mine, MT.All]
    exact ⟨fun _ => ⟨w.heap.size, 0, rfl, hlo, _, hk⟩, MT.Alls.of fun t ht => (hT' t ht).2⟩

def minusB : List ByteArray → Bool
  | x :: _ => x.data.toList == [45]
  | [] => false
def PF := List ByteArray → Option (Tr × List ByteArray)
def quantN (p : PF) (R : List ByteArray) (op : Int) : PF
  | [] => none
  | t :: r => match findN R t with
    | none => none
    | some i => (p (if minusB r then r.tail else r)).map fun x => (.mk op (2 * i + if minusB r then 1 else 0) [x.1], x.2)
def pairN (p : PF) (r : List ByteArray) : Option (Tr × List ByteArray) :=
  match p r with
  | none => none
  | some (_, []) => none
  | some (a, o :: r2) => match connF o with
    | none => none
    | some op => match p r2 with
      | none => none
      | some (_, []) => none
      | some (b, x :: r4) => if x.data.toList == [41] then some (.mk op 0 [a, b], r4) else none

def ParP (n : NM) (B pb : Nat) (r : Option (Tr × List ByteArray)) (w : World) (e : Ending) (w' : World) : Prop :=
  w.grownBy w' (some pb) ∧ match r with
    | none => e = .panicked boom
    | some x => (∃ T' : MT, e = .returned (.agg #[.int .i64 T'.op, .int .i64 T'.n, .slice T'.A T'.args.length T'.c]) ∧ T'.tr = x.1 ∧ New w.heap.size w' T') ∧ PA n B pb x.2 w'
/-- What concept does at ts. -/
def ConAt (n : NM) (B pb : Nat) (p : PF) (ts : List ByteArray) : Prop :=
  ∀ w, PA n B pb ts w → Calls Tryd.prog 94 #[.pointer (some ⟨pb, 0, none⟩)] w (ParP n B pb (p ts) w)

theorem idx_bounds (L : List ByteArray) (t : ByteArray) : -1 ≤ Lib.idxOfS L t ∧ Lib.idxOfS L t ≤ L.length := by
  have gen : ∀ (l : List ByteArray) (i : Nat), -1 ≤ Lib.idxFromS l t i ∧ Lib.idxFromS l t i < i + (l.length + 1 : Nat) ∧ (Lib.idxFromS l t i = -1 ∨ Lib.idxFromS l t i < i + l.length) := by
    intro l
    induction l with
    | nil => intro i; simp only [Lib.idxFromS, List.length_nil]; omega
    | cons z l ih =>
      intro i
      have := ih (i + 1)
      simp only [Lib.idxFromS, List.length_cons]
      split <;> omega
  have := gen L 0
  unfold Lib.idxOfS
  omega

theorem grown_own {w w1 w2 : World} {row : Option Nat} {b : Nat} (h : w.grownBy w1 row) (k : w1.grownBy w2 (some b)) (hb : w.heap.size ≤ b) : w.grownBy w2 row :=
  ⟨k.os.trans h.os, k.tape.trans h.tape, k.output.trans h.output, Nat.le_trans h.size k.size, fun i hi hr => (k.block i (Nat.lt_of_lt_of_le hi h.size) (fun e => by have : i = b := Option.some.inj e; omega)).trans (h.block i hi hr)⟩

theorem PA.off {n : NM} {B pb b : Nat} {ts : List ByteArray} {w w' : World} (h : PA n B pb ts w) (hg : w.grownBy w' (some b)) (hne : b ≠ pb) (hb : B ≤ b) : PA n B pb ts w' := by
  have hlt := h.lt
  obtain ⟨h1, h2, A, c, hk, hin⟩ := h
  have hb' := below_grown hg hb (Nat.le_trans h1 (Nat.le_of_lt hlt))
  exact ⟨h1, h2.below (Nat.le_refl _) hb', A, c, (hg.block pb hlt (fun e => hne (Option.some.inj e).symm)).trans hk, hin.below (Nat.le_refl _) hb'⟩

/-- The end of a function that makes a node of its own: the Args' row made, the result's variable written. -/
theorem ret_node {n : NM} {B pb : Nat} {rest : List ByteArray} {w w3 : World} {op nn : Int} {Ts : List MT} {x y z : Value} (hlt : pb < w.heap.size) (hg : w.grownBy w3 (some pb)) (hp : PA n B pb rest w3)
    (hbR : w3.heap[w.heap.size]? = some (.cells #[x, y, z] 27)) (h0 : Ts ≠ []) (hT : ∀ t ∈ Ts, New (w.heap.size + 1) w3 t) (hn : Ts.length ≤ 9223372036854775807) :
    ∃ W5, w3.alloc (.cells (Ts.flatMap MT.cs).toArray 27) = W5 ∧ (W5.cell? ⟨w.heap.size, 0, none⟩ = some x ∧ W5.cell? ⟨w.heap.size, 1, none⟩ = some y ∧ W5.cell? ⟨w.heap.size, 2, none⟩ = some z) ∧ (W5.frozen? ⟨w.heap.size, 0, none⟩ = false ∧ W5.frozen? ⟨w.heap.size, 1, none⟩ = false ∧ W5.frozen? ⟨w.heap.size, 2, none⟩ = false) ∧
      ∀ w6, w6 = ((W5.setCell ⟨w.heap.size, 0, none⟩ (.int .i64 op)).setCell ⟨w.heap.size, 1, none⟩ (.int .i64 nn)).setCell ⟨w.heap.size, 2, none⟩ (.slice (some ⟨w3.heap.size, 0, none⟩) Ts.length Ts.length) →
        (w6.cell? ⟨w.heap.size, 0, none⟩ = some (.int .i64 op) ∧ w6.cell? ⟨w.heap.size, 1, none⟩ = some (.int .i64 nn) ∧ w6.cell? ⟨w.heap.size, 2, none⟩ = some (.slice (some ⟨w3.heap.size, 0, none⟩) Ts.length Ts.length)) ∧
        ParP n B pb (some (.mk op nn (Ts.map MT.tr), rest)) w (.returned (.agg #[.int .i64 op, .int .i64 nn, .slice (some ⟨w3.heap.size, 0, none⟩) Ts.length Ts.length])) w6 := by
  obtain ⟨W5, hW5, hB5, hs5, hblk5⟩ := newBlk w3 _ rfl (Ts.flatMap MT.cs).toArray 27
  have hlt3 := (Array.getElem?_eq_some_iff.1 hbR).1
  have hbR5 := (hB5.block _ hlt3).trans hbR
  refine ⟨W5, hW5, ⟨cell_of_blk hbR5 0, cell_of_blk hbR5 1, cell_of_blk hbR5 2⟩, ⟨frozen_of_blk hbR5 0, frozen_of_blk hbR5 1, frozen_of_blk hbR5 2⟩, ?_⟩
  rintro w6 rfl
  obtain ⟨s1, s2⟩ := store3 hbR5 (.int .i64 op) (.int .i64 nn) (.slice (some ⟨w3.heap.size, 0, none⟩) Ts.length Ts.length)
  have hnode := node_new (op := op) (n := nn) (lo := w.heap.size + 1) (by omega) h0 hT hn
  rw [hW5] at hnode
  have hB := hp.1
  refine ⟨⟨cell_of_blk s1 0, cell_of_blk s1 1, cell_of_blk s1 2⟩, grown_own (grown_trans hg (grown_below hB5)) s2 (Nat.le_refl _), ⟨.mk op nn (some ⟨w3.heap.size, 0, none⟩) Ts.length Ts, rfl, ?_, ?_⟩, (hp.later hB5).off s2 (by omega) (by omega)⟩
  · rw [MT.tr_mk]
  · exact ((hnode.grown s2 (MT.All.imp (fun b hb e => by have := Option.some.inj e; have := hb.1; omega) _ hnode.2))).lo (by omega)

set_option maxRecDepth 100000 in
set_option maxHeartbeats 2000000 in
theorem quant_any (n : NM) (B pb : Nat) (op : Int) (p : PF) (ts : List ByteArray) (hR : n.R.l.length ≤ 1000) (ih : ∀ t r, ts = t :: r → ConAt n B pb p (if minusB r then r.tail else r)) (w : World) (h : PA n B pb ts w) :
    Calls Tryd.prog 134 #[.pointer (some ⟨pb, 0, none⟩), .int .i64 op] w (ParP n B pb (quantN p n.R.l op ts) w) := by
  obtain ⟨W1, hW1, hB1, hs1, hblk1⟩ := newBlk w _ rfl #[.int .i64 0, .int .i64 0, .slice none 0 0] 27
  have h1 := h.later hB1
  have hg1 : w.grownBy W1 (some pb) := grown_below hB1
  have hn := next_any n B pb ts W1 h1
  have hlt := h.lt
  cases ts with
  | nil =>
    go_enter Tryd.func134, Tryd.ntmps134
    go_wp2_with (go_at_call 133; refine hn.mono ?_; rintro e w' ⟨hg, rfl⟩)
    exact ⟨rfl, grown_trans hg1 hg, rfl⟩
  | cons t r =>
    have ih' := ih t r rfl
    have ht := h.toks t (by simp)
    clear ih
    have hstep : ∀ w1, PA n B pb r w1 → ∃ A c, w1.cell? ⟨pb, 1, none⟩ = some (.slice n.R.A n.R.l.length n.R.c) ∧ w1.cell? ⟨pb, 3, none⟩ = some (.slice A r.length c) ∧ (SL.mk A c r).In B w1 := by
      rintro w1 ⟨_, hn1, A, c, hk, hin⟩
      have d1 := cell_of_blk hk 1
      have d3 := cell_of_blk hk 3
      exact ⟨A, c, d1, d3, hin⟩
    have hfi : ∀ w1, PA n B pb r w1 → Calls Tryd.prog 136 #[.slice n.R.A n.R.l.length n.R.c, .string t] w1 (FindP n.R.l t w1) := fun w1 hp => find_any n.R B t w1 hp.2.1.2.1 ht
    rcases hf : findN n.R.l t with _ | i
    · have HF := Lib.hid (show quantN p n.R.l op (t :: r) = none by rw [quantN, hf])
      unfold FindP at hfi
      rw [hf] at hfi
      clear hf
      go_enter Tryd.func134, Tryd.ntmps134
      go_wp2_with (first | (go_at_call 133; refine hn.mono ?_; rintro e w1 ⟨hg, rfl, hp⟩; obtain ⟨A, c, d1, d3, hin⟩ := hstep w1 hp) | (go_at_call 136; refine (hfi _ hp).mono ?_; rintro e w2 ⟨rfl, rfl⟩))
      exact ⟨rfl, grown_trans hg1 hg, by rw [HF.out]⟩
    · have hib : -1 ≤ i ∧ i ≤ 1000 := by
        have := idx_bounds n.R.l t
        unfold findN at hf
        split at hf
        · cases hf; omega
        · cases hf
      unfold FindP at hfi
      rw [hf] at hfi
      cases r with
      | nil =>
        have HF := Lib.hid (show quantN p n.R.l op [t] = (p []).map fun x => (.mk op (2 * i) [x.1], x.2) by rw [quantN, hf]; simp [minusB])
        clear hf
        have ihh : ∀ w1, PA n B pb [] w1 → Calls Tryd.prog 94 #[.pointer (some ⟨pb, 0, none⟩)] w1 (ParP n B pb (p []) w1) := ih'
        clear ih'
        rcases hpr : p [] with _ | x
        · rw [hpr] at HF ihh
          clear hpr
          go_enter Tryd.func134, Tryd.ntmps134
          go_wp2_with (first | (go_at_call 133; first | (refine hn.mono ?_; rintro e w1 ⟨hg, rfl, hp⟩; obtain ⟨A, c, d1, d3, hin⟩ := hstep w1 hp)) | (go_at_call 136; refine (hfi _ hp).mono ?_; rintro e w2 ⟨rfl, rfl⟩) | (go_at_call 94; refine (ihh _ hp).mono ?_; rintro e w3 ⟨hg3, rfl⟩))
          exact ⟨rfl, grown_trans hg1 (grown_trans hg hg3), by rw [HF.out]; rfl⟩
        · rw [hpr] at HF ihh
          clear hpr
          go_enter Tryd.func134, Tryd.ntmps134
          go_wp2_with (first | (go_at_call 133; first | (refine hn.mono ?_; rintro e w1 ⟨hg, rfl, hp⟩; obtain ⟨A, c, d1, d3, hin⟩ := hstep w1 hp)) | (go_at_call 136; refine (hfi _ hp).mono ?_; rintro e w2 ⟨rfl, rfl⟩) | (go_at_call 94; refine (ihh _ hp).mono ?_; rintro e w3 ⟨hg3, ⟨T', rfl, htr, hnew⟩, hp3⟩; have hg13 := grown_trans hg hg3; have z1 := (hg).size; have hbR := (hg13.block w.heap.size (by omega) (fun e => by have := Option.some.inj e; omega)).trans hblk1; obtain ⟨W5, hW5, ⟨r0, r1, r2⟩, ⟨f0, f1, f2⟩, hfin⟩ := ret_node (op := op) (nn := (2 * i)) (Ts := [T']) hlt (grown_trans hg1 hg13) hp3 hbR (by simp) (fun t ht => by rw [List.mem_singleton.1 ht]; exact hnew.lo (by omega)) (by simp); simp only [List.length_singleton, List.flatMap_singleton, MT.cs] at hW5 hfin))
          obtain ⟨s0, s1⟩ := hfin _ rfl
          generalize ((W5.setCell ⟨w.heap.size, 0, none⟩ (.int .i64 op)).setCell ⟨w.heap.size, 1, none⟩ (.int .i64 (2 * i))).setCell ⟨w.heap.size, 2, none⟩ (.slice (some ⟨w3.heap.size, 0, none⟩) 1 1) = w6 at s0 s1 ⊢
          obtain ⟨t0, t1, t2⟩ := s0
          refine bodyPost_ret (v := .agg #[.int .i64 op, .int .i64 (2 * i), .slice (some ⟨w3.heap.size, 0, none⟩) 1 1]) (by simp [results, Tryd.f134, go_sem, t0, t1, t2]) rfl ?_
          rw [HF.out]
          simp only [Option.map_some, ← htr]
          exact s1
      | cons y r' =>
        rcases hm : minusB (y :: r')
        · have HF := Lib.hid (show quantN p n.R.l op (t :: y :: r') = (p (y :: r')).map fun x => (.mk op (2 * i) [x.1], x.2) by rw [quantN, hf, hm]; simp)
          rw [hm, if_neg (by decide)] at ih'
          clear hf
          have hy : (y.toList == [45]) = false := by rw [ByteArray.toList_eq]; exact hm
          have hry : r'.length ≤ 9223372036854775806 := by obtain ⟨_, _, A, c, _, hin⟩ := h; have := hin.1; have := hin.2.1; simp only [List.length_cons] at *; omega
          clear hm
          have ihh : ∀ w1, PA n B pb (y :: r') w1 → Calls Tryd.prog 94 #[.pointer (some ⟨pb, 0, none⟩)] w1 (ParP n B pb (p (y :: r')) w1) := ih'
          clear ih'
          rcases hpr : p (y :: r') with _ | x
          · rw [hpr] at HF ihh
            clear hpr
            go_enter Tryd.func134, Tryd.ntmps134
            go_wp2_with (first | (go_at_call 133; first | (refine hn.mono ?_; rintro e w1 ⟨hg, rfl, hp⟩; obtain ⟨A, c, d1, d3, hin⟩ := hstep w1 hp; obtain ⟨b', off', hA, hb', hc'⟩ := hin.cells (by simp); simp only at hA; subst hA; have hc0 := hc' 0 (by simp); have hlc := hin.1; have hcm := hin.2.1; simp only [Nat.add_zero, List.getD_cons_zero, List.length_cons] at hc0 d3 hlc hcm; clear hin hc' )) | (go_at_call 136; refine (hfi _ hp).mono ?_; rintro e w2 ⟨rfl, rfl⟩) | (go_at_call 94; refine (ihh _ hp).mono ?_; rintro e w3 ⟨hg3, rfl⟩))
            exact ⟨rfl, grown_trans hg1 (grown_trans hg hg3), by rw [HF.out]; rfl⟩
          · rw [hpr] at HF ihh
            clear hpr
            go_enter Tryd.func134, Tryd.ntmps134
            go_wp2_with (first | (go_at_call 133; first | (refine hn.mono ?_; rintro e w1 ⟨hg, rfl, hp⟩; obtain ⟨A, c, d1, d3, hin⟩ := hstep w1 hp; obtain ⟨b', off', hA, hb', hc'⟩ := hin.cells (by simp); simp only at hA; subst hA; have hc0 := hc' 0 (by simp); have hlc := hin.1; have hcm := hin.2.1; simp only [Nat.add_zero, List.getD_cons_zero, List.length_cons] at hc0 d3 hlc hcm; clear hin hc' )) | (go_at_call 136; refine (hfi _ hp).mono ?_; rintro e w2 ⟨rfl, rfl⟩) | (go_at_call 94; refine (ihh _ hp).mono ?_; rintro e w3 ⟨hg3, ⟨T', rfl, htr, hnew⟩, hp3⟩; have hg13 := grown_trans hg hg3; have z1 := (hg).size; have hbR := (hg13.block w.heap.size (by omega) (fun e => by have := Option.some.inj e; omega)).trans hblk1; obtain ⟨W5, hW5, ⟨r0, r1, r2⟩, ⟨f0, f1, f2⟩, hfin⟩ := ret_node (op := op) (nn := (2 * i)) (Ts := [T']) hlt (grown_trans hg1 hg13) hp3 hbR (by simp) (fun t ht => by rw [List.mem_singleton.1 ht]; exact hnew.lo (by omega)) (by simp); simp only [List.length_singleton, List.flatMap_singleton, MT.cs] at hW5 hfin))
            obtain ⟨s0, s1⟩ := hfin _ rfl
            generalize ((W5.setCell ⟨w.heap.size, 0, none⟩ (.int .i64 op)).setCell ⟨w.heap.size, 1, none⟩ (.int .i64 (2 * i))).setCell ⟨w.heap.size, 2, none⟩ (.slice (some ⟨w3.heap.size, 0, none⟩) 1 1) = w6 at s0 s1 ⊢
            obtain ⟨t0, t1, t2⟩ := s0
            refine bodyPost_ret (v := .agg #[.int .i64 op, .int .i64 (2 * i), .slice (some ⟨w3.heap.size, 0, none⟩) 1 1]) (by simp [results, Tryd.f134, go_sem, t0, t1, t2]) rfl ?_
            rw [HF.out]
            simp only [Option.map_some, ← htr]
            exact s1
        · have hy : y = ⟨#[45]⟩ := bytes_ext (by simpa [minusB] using hm)
          subst hy
          have HF := Lib.hid (show quantN p n.R.l op (t :: ⟨#[45]⟩ :: r') = (p r').map fun x => (.mk op (2 * i + 1) [x.1], x.2) by rw [quantN, hf, hm]; simp)
          rw [hm, if_pos rfl, List.tail_cons] at ih'
          clear hf hm
          have hry : r'.length ≤ 9223372036854775806 := by obtain ⟨_, _, A, c, _, hin⟩ := h; have := hin.1; have := hin.2.1; simp only [List.length_cons] at *; omega
          have ihh : ∀ w1, PA n B pb r' w1 → Calls Tryd.prog 94 #[.pointer (some ⟨pb, 0, none⟩)] w1 (ParP n B pb (p r') w1) := ih'
          clear ih'
          rcases hpr : p r' with _ | x
          · rw [hpr] at HF ihh
            clear hpr
            go_enter Tryd.func134, Tryd.ntmps134
            go_wp2_with (first | (go_at_call 133; first | (refine hn.mono ?_; rintro e w1 ⟨hg, rfl, hp⟩; obtain ⟨A, c, d1, d3, hin⟩ := hstep w1 hp; obtain ⟨b', off', hA, hb', hc'⟩ := hin.cells (by simp); simp only at hA; subst hA; have hc0 := hc' 0 (by simp); have hlc := hin.1; have hcm := hin.2.1; simp only [Nat.add_zero, List.getD_cons_zero, List.length_cons] at hc0 d3 hlc hcm; clear hin hc' ) | (refine (next_any n B pb _ _ hp).mono ?_; rintro e w4 ⟨hg2, rfl, hp2⟩; have hg12 := grown_trans hg hg2)) | (go_at_call 136; refine (hfi _ hp).mono ?_; rintro e w2 ⟨rfl, rfl⟩) | (go_at_call 94; refine (ihh _ hp2).mono ?_; rintro e w3 ⟨hg3, rfl⟩))
            exact ⟨rfl, grown_trans hg1 (grown_trans hg12 hg3), by rw [HF.out]; rfl⟩
          · rw [hpr] at HF ihh
            clear hpr
            go_enter Tryd.func134, Tryd.ntmps134
            go_wp2_with (first | (go_at_call 133; first | (refine hn.mono ?_; rintro e w1 ⟨hg, rfl, hp⟩; obtain ⟨A, c, d1, d3, hin⟩ := hstep w1 hp; obtain ⟨b', off', hA, hb', hc'⟩ := hin.cells (by simp); simp only at hA; subst hA; have hc0 := hc' 0 (by simp); have hlc := hin.1; have hcm := hin.2.1; simp only [Nat.add_zero, List.getD_cons_zero, List.length_cons] at hc0 d3 hlc hcm; clear hin hc' ) | (refine (next_any n B pb _ _ hp).mono ?_; rintro e w4 ⟨hg2, rfl, hp2⟩; have hg12 := grown_trans hg hg2)) | (go_at_call 136; refine (hfi _ hp).mono ?_; rintro e w2 ⟨rfl, rfl⟩) | (go_at_call 94; refine (ihh _ hp2).mono ?_; rintro e w3 ⟨hg3, ⟨T', rfl, htr, hnew⟩, hp3⟩; have hg13 := grown_trans hg12 hg3; have z1 := (hg12).size; have hbR := (hg13.block w.heap.size (by omega) (fun e => by have := Option.some.inj e; omega)).trans hblk1; obtain ⟨W5, hW5, ⟨r0, r1, r2⟩, ⟨f0, f1, f2⟩, hfin⟩ := ret_node (op := op) (nn := (2 * i + 1)) (Ts := [T']) hlt (grown_trans hg1 hg13) hp3 hbR (by simp) (fun t ht => by rw [List.mem_singleton.1 ht]; exact hnew.lo (by omega)) (by simp); simp only [List.length_singleton, List.flatMap_singleton, MT.cs] at hW5 hfin))
            obtain ⟨s0, s1⟩ := hfin _ rfl
            generalize ((W5.setCell ⟨w.heap.size, 0, none⟩ (.int .i64 op)).setCell ⟨w.heap.size, 1, none⟩ (.int .i64 (2 * i + 1))).setCell ⟨w.heap.size, 2, none⟩ (.slice (some ⟨w3.heap.size, 0, none⟩) 1 1) = w6 at s0 s1 ⊢
            obtain ⟨t0, t1, t2⟩ := s0
            refine bodyPost_ret (v := .agg #[.int .i64 op, .int .i64 (2 * i + 1), .slice (some ⟨w3.heap.size, 0, none⟩) 1 1]) (by simp [results, Tryd.f134, go_sem, t0, t1, t2]) rfl ?_
            rw [HF.out]
            simp only [Option.map_some, ← htr]
            exact s1
end Go.Proofs.YtneegmhcmegijaaDoor
