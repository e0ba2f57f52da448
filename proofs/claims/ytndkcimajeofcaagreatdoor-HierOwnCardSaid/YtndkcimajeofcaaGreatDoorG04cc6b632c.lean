import Derived.Test.YtndkcimajeofcaaGreatDoorG280635a156
import Derived.Test.YtndkcimajeofcaaGreatDoorG506e8cf509
import Derived.Test.YtndkcimajeofcaaGreatDoorG40bf3344fb
import Derived.Test.YtndkcimajeofcaaGreatDoorG857cfc98f5
import Derived.Test.YtndkcimajeofcaaGreatDoorGacbfd17f93
import Derived.Test.YtndkcimajeofcaaGreatDoorG347ab55b0a
import Derived.Test.YtndkcimajeofcaaGreatDoorGc0985088b6
import Derived.StillTailTactics
import Derived.Deep.RegionHeldLaw
import Derived.Deep.RegionHeld3
import Derived.Deep.QuietTactic
import Derived.Deep.DrawnRows
namespace Go.Proofs.YtndkcimajeofcaaGreatDoor
open Go.RowKit Go.Shelf
attribute [local go_sem ↓] Go.wp_at_zero Go.wp_at_succ
attribute [local go_sem] Oper.semAt_some

theorem each_nodes {P : MT → Prop} (T : MT) : T.Each P → ∀ x ∈ T.nodes, P x :=
  MT.rec (motive_1 := fun T => T.Each P → ∀ x ∈ T.nodes, P x) (motive_2 := fun l => MT.Eachs P l → ∀ x ∈ MT.nodesL l, P x)
    (fun op nn A c args ih h x hx => by
      rw [MT.Each] at h
      rw [MT.nodes] at hx
      rcases List.mem_cons.1 hx with rfl | hx
      · exact h.1
      · exact ih h.2 x hx)
    (fun _ x hx => by rw [MT.nodesL] at hx; cases hx)
    (fun t ts h1 h2 h x hx => by
      rw [MT.Eachs] at h
      rw [MT.nodesL] at hx
      rcases List.mem_append.1 hx with hx | hx
      · exact h1 h.1 x hx
      · exact h2 h.2 x hx) T
theorem nodes_ok {n : NM} {T : MT} (h : NodeOK n T) : ∀ x ∈ T.nodes, NodeOK n x := each_nodes T (each_ok T h)
/-- A row of one's own, as a list. -/
theorem ml_of_owns {w : World} {base : Nat} {v : Value} {l : List MT} (h : w.ownsRow base 33 3 v l.length (l.flatMap MT.cs)) (hin : ∀ T ∈ l, T.In w.heap.size w) : ∃ (A : Option Addr) (c : Nat), v = .slice A l.length c ∧ (ML.mk A c l).In w.heap.size w ∧ ∀ a, A = some a → base ≤ a.block := by
  obtain ⟨A, c, hv, h1, h2, h3⟩ := row_of_owns h
  refine ⟨A, c, hv, ⟨h1, h2, (fun e => ?_), h3, hin⟩, fun a ha => ?_⟩
  rcases h.2 with ⟨h4, h0⟩ | ⟨g, cap, cur, h4, hge, hheap, hlen, hcap, hsize, htake⟩
  · rw [h4] at hv; injection hv with x y z; exact z.symm
  · rw [h4] at hv; injection hv with x y z; rw [← x] at e; cases e
  rcases h.2 with ⟨h4, h0⟩ | ⟨g, cap, cur, h4, hge, hheap, hlen, hcap, hsize, htake⟩
  · rw [h4] at hv; injection hv with x y z; rw [ha] at x; cases x
  · rw [h4] at hv; injection hv with x y z; rw [ha] at x; cases x; exact hge
theorem make_map (w : World) : (Instr.makeMap 161 none).run Tryz.prog w = .ok (.map (some w.heap.size)) (w.alloc (.map #[] 0)) := by kernel_rfl
/-- The marks for names, and for all nodes behind them. -/
def nmK (C R : List ByteArray) (L : List Tr) (i : Nat) : List Tr := addK C R L (.mk 0 i [])
def nmL (C R : List ByteArray) (q : Nat → Bool) : List Tr := (elsF q 0).foldl (nmK C R) []
def mkL (C R : List ByteArray) (nodes : List MT) : List Tr := (nodes.map MT.tr).foldl (colK C R) (nmL C R (nmsF nodes))
def eS (q : Nat → Bool) (x : Nat) : Nat := if q x && decide (x < 256) then x else (elsF q 0).headD 0
theorem eS_in {q : Nat → Bool} {x : Nat} (h : 0 < (elsF q 0).length) : eS q x ∈ elsF q 0 := by
  unfold eS
  split
  · rename_i hx; simp only [Bool.and_eq_true, decide_eq_true_eq] at hx; exact mem_elsF.2 ⟨hx.2, hx.1⟩
  · match elsF q 0, h with
    | y :: l, _ => simp
theorem eS_self {q : Nat → Bool} {x : Nat} (h : x ∈ elsF q 0) : eS q x = x := by
  obtain ⟨h1, h2⟩ := mem_elsF.1 h
  unfold eS; rw [if_pos (by simp [h1, h2])]
theorem eS_map (q : Nat → Bool) : (elsF q 0).map (eS q) = elsF q 0 := by
  refine (List.map_congr_left fun i hi => ?_).trans (List.map_id _)
  exact eS_self hi
/-- A name at a node is a name. -/
theorem nms_lt {n : NM} {nodes : List MT} (h : ∀ x ∈ nodes, NodeOK n x) {i : Nat} (hi : nmsF nodes i = true) : i < n.C.l.length := by
  unfold nmsF at hi
  obtain ⟨x, hx, hn⟩ := List.any_eq_true.1 hi
  obtain ⟨op, nn, A, c, args⟩ := x
  rw [MT.tr_mk, nmAt, Bool.and_eq_true] at hn
  have h0 : op = 0 := by simpa using hn.1
  have h1 : nn = (i : Int) := by simpa using hn.2
  subst h0; subst h1
  obtain ⟨hw, -⟩ := wf_node (h _ hx).1
  simp only [wfB, Bool.and_eq_true, decide_eq_true_eq, beq_iff_eq, choicesF] at hw
  have := hw.2.2.2.2
  simp at this
  omega
theorem leaf_wf {C R : Nat} {i : Nat} (h : i < C) : (Tr.mk 0 (i : Int) []).wfT C R = true := by
  simp [Tr.wfT, Tr.wfTs, wfB, arityF, choicesF]; omega
section
variable {n₀ tb mb lo : Nat} {n : NM} {s0 s1 s2 s3 ov : Value} {A B : World} {v : Value} {Ts : List MT} {row : Option Nat}
theorem Coll.keptP (h : Coll lo lo A v Ts) (hg : A.grownBy B row) (hr : ∀ r, row = some r → ∃ o : Obj, A.heap[r]? = some o ∧ o.isCells = false) : Coll lo lo B v Ts := by
  refine ⟨owns_keptP h.own hg hr, fun t ht => ⟨(h.trees t ht).1.grown hg ?_, (h.trees t ht).2⟩⟩
  refine MT.All.imp (fun b hb e => ?_) t (h.trees t ht).1.2
  obtain ⟨o, ho, hc⟩ := hr b e.symm
  obtain ⟨-, cur, hcur⟩ := hb
  rw [hcur] at ho; cases ho; cases hc
theorem Tab.keptP (h : Tab n₀ tb mb lo n s0 s1 s2 s3 ov A v Ts) (hg : A.grownBy B row) (hm : some mb ≠ row) (hr : ∀ r, row = some r → ∃ o : Obj, A.heap[r]? = some o ∧ o.isCells = false) : Tab n₀ tb mb lo n s0 s1 s2 s3 ov B v Ts :=
  ⟨blk_keptP h.box hg hr, h.coll.keptP hg hr, h.map.grown hg hm, h.h0, h.h0', h.h1, h.h2, h.ne, Nat.le_trans h.h3 hg.size⟩
/-- A block that is no row of cells is not the marks'. -/
theorem tab_rowNe (h : Tab n₀ tb mb lo n s0 s1 s2 s3 ov A v Ts) {k : Nat} {o : Obj} (hk : A.heap[k]? = some o) (ho : o.isCells = false) : rowT A tb ≠ some k := by
  rw [h.rowT]
  intro e
  rcases h.coll.own.2 with ⟨rfl, _⟩ | ⟨g, cap, cur, rfl, _, hgb, _⟩
  · cases e
  · have : g = k := Option.some.inj e
    subst this
    rw [hgb] at hk; cases hk; cases ho
end
theorem call_mOf1 (args : Array Value) (w : World) : (callFunc 110 args).run Tryz.prog w = .ok (.enter 110 args) w := by
  unfold callFunc; kernel_rfl
theorem elsF_few_aux (q : Nat → Bool) : ∀ (d e : Nat), e + d ≤ 256 → (elsF q e).length ≤ d + (elsF q (e + d)).length
  | 0, e, _ => by simp
  | d + 1, e, h => by
    have ih := elsF_few_aux q d (e + 1) (by omega)
    rw [show e + 1 + d = e + (d + 1) by omega] at ih
    rcases hq : q e
    · rw [elsF_out (by omega) hq]; omega
    · rw [elsF_in (by omega) hq, List.length_cons]; omega
theorem elsF_few (q : Nat → Bool) (c : Nat) (hc : c ≤ 256) (h : ∀ i, q i = true → i < c) : (elsF q 0).length ≤ c := by
  have h1 := elsF_few_aux q c 0 (by omega)
  have h2 := elsF_skip (p := q) (256 - c) c (by omega) (fun i hi _ => by
    cases hq : q i with
    | false => rfl
    | true => have := h i hq; omega)
  rw [Nat.zero_add, h2, show c + (256 - c) = 256 by omega, elsF_end] at h1
  simpa using h1
theorem elsF_none (q : Nat → Bool) (h : ∀ i, q i = false) : elsF q 0 = [] := by
  have h2 := elsF_skip (p := q) 256 0 (by omega) (fun i _ _ => h i)
  rw [h2, show 0 + 256 = 256 from rfl, elsF_end]
theorem nodes_split (l : List MT) (k : Nat) (hk : k < l.length) : l.flatMap MT.nodes = (l.take k).flatMap MT.nodes ++ (l[k].nodes ++ (l.drop (k + 1)).flatMap MT.nodes) := by
  have h : l = l.take k ++ (l[k] :: l.drop (k + 1)) := by rw [← List.drop_eq_getElem_cons hk, List.take_append_drop]
  conv => lhs; rw [h]
  rw [List.flatMap_append, List.flatMap_cons]
theorem TF.putObj {A : World} {tb lo D : Nat} {n : NM} {Ts : List MT} {o : Obj} {x : Option (List Deferred)} (h : TF A tb lo n Ts) (hD : A.heap[D]? = some (.deferred x)) : TF (A.putObj D o) tb lo n Ts := by
  have hg := grownBy_putObj' A D o
  have hr : ∀ r, some D = some r → ∃ o : Obj, A.heap[r]? = some o ∧ o.isCells = false := fun r e => by cases e; exact ⟨_, hD, rfl⟩
  obtain ⟨mb, og, s0, s1, s2, s3, v, h1, h2, h3, h4, h5, h6⟩ := h
  refine ⟨mb, og, s0, s1, s2, s3, v, blk_keptP h1 hg hr, h2, blk_keptP h3 hg hr, h4.grown hg (fun e => ?_), h5.keptP hg hr, h6⟩
  have := Option.some.inj e
  subst this
  obtain ⟨E, ⟨es, clock, h7, -⟩, -⟩ := h4
  rw [hD] at h7; cases h7
/-- What Of hands back: the marks Lf, or one too many. -/
def RetOf (n : NM) (Lf : List Tr) (w : World) (e : Ending) (w' : World) : Prop :=
  Below w.heap.size w w' ∧ ((Lf.length ≤ 8 ∧ ∃ tb lo Ts, e = .returned (.tuple #[.pointer (some ⟨tb, 0, none⟩), .int .i64 0]) ∧ TF w' tb lo n Ts ∧ Ts.map MT.tr = Lf ∧ w.heap.size ≤ lo) ∨ (8 < Lf.length ∧ e = .returned (.tuple #[.pointer none, .int .i64 3])))

set_option maxRecDepth 100000 in
set_option maxHeartbeats 8000000 in
theorem mOf_any (b : BN) (mo : ML) (w : World) (hG : G w) (hGT : GT w) (hb : b.In w.heap.size w) (hmo : mo.In w.heap.size w) (hok : b.N.ok = true) (hP : ∀ T ∈ b.cons ++ mo.l, NodeOK b.N T) (hI : b.I.length ≤ 100) (hF : b.F.length ≤ 100) (hml : mo.l.length ≤ 1000) :
    Calls Tryz.prog 67 #[b.val, .slice mo.A mo.l.length mo.c] w (RetOf b.N (mkL b.N.C.l b.N.R.l ((b.cons ++ mo.l).flatMap MT.nodes)) w) := by
  refine (callsIn_wide (n := 5)).1 ?_
  have hdd : ∀ k : Nat, (Fence.wide.depth.isSome = true → 1 ≤ k) := fun k h => by cases h
  obtain ⟨W1, hW1, hB1, hs1, hk1⟩ := newBlk w _ rfl #[.slice b.N.C.A b.N.C.l.length b.N.C.c, .slice b.N.R.A b.N.R.l.length b.N.R.c, .slice b.N.I.A b.N.I.l.length b.N.I.c, .slice b.IA b.I.length b.ic, .slice b.R.A b.R.l.length b.R.c, .slice b.FA b.F.length b.fc, .slice b.L.A b.L.l.length b.L.c] 30
  obtain ⟨W2, hW2⟩ : ∃ W2, W1.alloc (.map #[] 0) = W2 := ⟨_, rfl⟩
  have hB2 : Below W1.heap.size W1 W2 := by rw [← hW2]; exact (Below.refl _ _).alloc (Nat.le_refl _) _
  have hs2 : W2.heap.size = w.heap.size + 1 + 1 := by rw [← hW2]; simp [hs1]
  have hm2 : OwnM W2 (w.heap.size + 1) 0 [] := by have := OwnM.made W1; rw [hW2, hs1] at this; exact this
  obtain ⟨W3, hW3, hB3, hs3, hk3⟩ := newBlk W2 _ hs2 #[.slice b.N.C.A b.N.C.l.length b.N.C.c, .slice b.N.R.A b.N.R.l.length b.N.R.c, .slice b.N.I.A b.N.I.l.length b.N.I.c, .slice none 0 0, .map (some (w.heap.size + 1)), .int .u64 0, .int .u64 0, .int .u64 0, .int .u64 0, .slice none 0 0] 164
  obtain ⟨W4, hW4, hB4, hs4, hk4⟩ := newBlk W3 _ hs3 #[.pointer (some ⟨w.heap.size + 1 + 1, 0, none⟩)] 116
  have hB24 : Below W2.heap.size W2 W4 := (hB3.mono (by omega)).trans (hB4.mono (by omega))
  have hB : Below w.heap.size w W4 := hB1.trans ((hB2.mono (by omega)).trans (hB24.mono (by omega)))
  have hk14 := blk_lat0 (blk_lat0 hk1 hB2) hB24
  have htab : Tab w.heap.size (w.heap.size + 1 + 1) (w.heap.size + 1) (w.heap.size + 1 + 1 + 1 + 1) b.N (.int .u64 0) (.int .u64 0) (.int .u64 0) (.int .u64 0) (.slice none 0 0) W4 (.slice none 0 0) [] := ⟨blk_lat (blk_lat hk3 (hB4.mono (by omega))) (Below.refl _ _), Coll.nil _ _ _, (hm2.later hB24), by omega, by omega, by omega, by omega, by omega, by omega⟩
  have hbb := fun w' (h : Below W4.heap.size W4 w') => bbox_of (b := b) (blk_lat0 hk14 h)
  have hcb := fun w' (h : Below W4.heap.size W4 w') => cell_of_blk (blk_lat0 hk4 h) 0
  obtain ⟨c0, c1, c2, c3, c4, c5, c6⟩ := bbox_of (b := b) hk1
  obtain ⟨d0, d1, d2, d3, d4, d5, d6⟩ := hbb W4 (Below.refl _ _)
  have e0 := hcb W4 (Below.refl _ _)
  have hco := conceptsOf_any b W4 (hb.later hB) (by omega) (by omega)
  have hcl := cons_len b
  have hll : (b.cons ++ mo.l).length ≤ 2000 := by rw [List.length_append]; omega
  -- the two lists, one behind the other
  have hct : ∀ (w5 W6 : World) (A5 : Option Addr) (c5 : Nat), (ML.mk A5 c5 b.cons).In w5.heap.size w5 → Below W4.heap.size W4 w5 → w5.alloc (.cells #[.slice A5 b.cons.length c5, .slice mo.A mo.l.length mo.c] 31) = W6 →
      Below W4.heap.size W4 W6 ∧ Calls Tryz.prog 105 #[.slice (some ⟨w5.heap.size, 0, none⟩) 2 2] W6 (RetC (b.cons ++ mo.l) W6) := by
    intro w5 W6 A5 c5 hsi hb5 hW6
    have hB6 : Below w5.heap.size w5 W6 := by rw [← hW6]; exact (Below.refl _ _).alloc (Nat.le_refl _) _
    have hk6 : W6.heap[w5.heap.size]? = some (.cells #[.slice A5 b.cons.length c5, .slice mo.A mo.l.length mo.c] 31) := by rw [← hW6]; exact World.alloc_heap_new' w5 _
    have hb6 := hb5.trans (hB6.mono hb5.size)
    refine ⟨hb6, ?_⟩
    have := ConcatC_any [⟨A5, c5, b.cons⟩, mo] w5.heap.size 2 W6 (Array.getElem?_eq_some_iff.1 hk6).1 (by simp) (by simp) (by
      intro t ht
      simp only [List.mem_cons, List.not_mem_nil, or_false] at ht
      rcases ht with rfl | rfl
      · exact hsi.later hB6
      · exact hmo.later (hB.trans (hb6.mono hB.size))) (by
      intro t ht
      simp only [List.mem_cons, List.not_mem_nil, or_false] at ht
      rcases ht with rfl | rfl
      · show b.cons.length ≤ 1000; omega
      · exact hml) (by
      intro k hk
      match k, hk with
      | 0, _ => exact cell_of_blk hk6 0
      | 1, _ => exact cell_of_blk hk6 1)
    rw [show ML.all [⟨A5, c5, b.cons⟩, mo] = b.cons ++ mo.l by simp [ML.all]] at this
    exact this
  have HCT := Lib.hid hct
  have HCI := Lib.hid (fun w' (h : Below W4.heap.size W4 w') T (hT : T ∈ b.cons) => (cons_in hb T hT).later (hB.trans (h.mono hB.size)))
  have hina : ∀ T ∈ b.cons ++ mo.l, T.In w.heap.size w := fun T hT => by
    rcases List.mem_append.1 hT with h | h
    · exact cons_in hb T h
    · exact hmo.2.2.2.2 T h
  have HIN := Lib.hid hina
  have hinw := fun w' (h : Below W4.heap.size W4 w') T (hT : T ∈ b.cons ++ mo.l) => (hina T hT).later (hB.trans (h.mono hB.size))
  have HINW := Lib.hid hinw
  have HTAB := Lib.hid htab
  have HBB := Lib.hid hbb
  have HCB := Lib.hid hcb
  have HCK := Lib.hid (fun w' (h : Below W4.heap.size W4 w') => blk_lat0 hk4 h)
  have HP := Lib.hid hP
  have HB := Lib.hid hB
  have HBN := Lib.hid hb
  obtain ⟨L, hL⟩ : ∃ L, b.cons ++ mo.l = L := ⟨_, rfl⟩
  rw [hL] at HCT HIN HINW HP hll ⊢
  have hnodes : ∀ x ∈ L.flatMap MT.nodes, NodeOK b.N x := fun x hx => by
    obtain ⟨T, hT, hxT⟩ := List.mem_flatMap.1 hx
    exact nodes_ok (HP.out T hT) x hxT
  have HND := Lib.hid hnodes
  simp only [BN.val] at hco ⊢
  clear hina hinw hct htab hbb hcb hP hB hb hmo hB1 hB2 hB3 hB4 hk1 hk3 hk4 hk14 hm2 hB24 hcl hnodes
  have hmk := make_map W1
  rw [hW2, hs1] at hmk
  refine callsIn_of_wp_marks Tryz.func67 rfl trivial ?_ rfl
  simp only [Tryz.ntmps67, List.size_toArray, List.length_cons, List.length_nil, Nat.reduceAdd, Nat.reduceSub, Array.replicate_succ, Array.replicate_zero, List.push_toArray, List.append_toArray, List.nil_append, List.cons_append]
  gi_wp2_with (first
    | (refine ⟨trivial, ?_⟩; refine (inW (IS.bAll_any na nb nc nd _) 4).mono ?_; rintro e9 w9 ⟨rfl, rfl⟩)
    | (refine ⟨trivial, ?_⟩; refine (inW hnm 4).mono ?_; clear hnm; rintro e8 w8 ⟨na, nb, nc, nd, rfl, hsw, hb8'⟩; have hb8 := hb7.trans (hb8'.mono hb7.size))
    | (refine ⟨trivial, ?_⟩; refine (inW hcc 4).mono ?_; clear hcc; rintro e7 w7 ⟨v7, rfl, how7, hb7'⟩; have hb7 := hb6.trans (hb7'.mono hb6.size); obtain ⟨A7, c7, hv7, hsi7, hbs7⟩ := ml_of_owns how7 (HINW.out w7 hb7); subst hv7; have HS7 := Lib.hid hsi7; clear how7 hsi7; have hnm := namesIn_any (n := b.N) A7 L c7 w7 hok HS7.out.2.2.2.1 HS7.out.2.2.2.2 HP.out (by omega))
    | (refine ⟨trivial, ?_⟩; refine (inW hco 4).mono ?_; clear hco; rintro e5 w5 ⟨v5, rfl, how5, hb5⟩; obtain ⟨A5, k5, hv5, hsi5, -⟩ := ml_of_owns how5 (HCI.out w5 hb5); subst hv5; obtain ⟨W6, hW6⟩ : ∃ W6, w5.alloc (.cells #[.slice A5 b.cons.length k5, .slice mo.A mo.l.length mo.c] 31) = W6 := ⟨_, rfl⟩; obtain ⟨hb6, hcc⟩ := HCT.out w5 W6 A5 k5 hsi5 hb5 hW6; clear how5 hsi5))
  obtain ⟨W9, hW9, hB9, hs9, hk9⟩ := newBlk w8 _ rfl #[.int .u64 (na : Nat), .int .u64 (nb : Nat), .int .u64 (nc : Nat), .int .u64 (nd : Nat)] 168
  rw [hW9]
  have hb9 : Below W4.heap.size W4 W9 := hb8.trans (hB9.mono hb8.size)
  have hbw9 : Below w.heap.size w W9 := HB.out.trans (hb9.mono HB.out.size)
  have htab9 := HTAB.out.later hb9
  have hcb9 := HCB.out W9 hb9
  have hcbk := HCK.out W9 hb9
  have hG9 : GT W9 := hGT.later hbw9
  have hg0 := hG.size
  have hg1 : 0 < w.heap.size := hGT.ga.size
  have hg2 : 2 < w.heap.size := hGT.size
  have hs49 : W4.heap.size ≤ W9.heap.size := hb9.size
  have hrt9 : rowT W9 (w.heap.size + 1 + 1) = none := by rw [htab9.rowT]; rfl
  obtain ⟨q, hq⟩ : ∃ q, nmsF (L.flatMap MT.nodes) = q := ⟨_, rfl⟩
  have hqlt : ∀ i, q i = true → i < b.N.C.l.length := fun i hi => nms_lt HND.out (by rw [hq]; exact hi)
  have hC16 := (ok_bounds hok).1
  have hel16 : (elsF q 0).length ≤ 16 := elsF_few q 16 (by omega) (fun i hi => by have := hqlt i hi; omega)
  rw [hq] at hsw
  have hrow : ∀ wr, KT w.heap.size (w.heap.size + 1 + 1) (w.heap.size + 1) W9 wr → ∀ k (hk : k < L.length), ∃ ab aoff, A7 = some ⟨ab, aoff, none⟩ ∧ wr.cell? ⟨ab, aoff + k * 3, none⟩ = some (Value.int .i64 L[k].op) ∧ wr.cell? ⟨ab, aoff + k * 3 + 1, none⟩ = some (Value.int .i64 L[k].n) ∧ wr.cell? ⟨ab, aoff + k * 3 + 2, none⟩ = some (Value.slice L[k].A L[k].args.length L[k].c) := fun wr hkt k hk => by
    obtain ⟨ab, aoff, hA, hab, g0, g1, g2⟩ := elem3 HS7.out.2.2.2.1 (Below.refl _ _) hk
    have h79 : Below w7.heap.size w7 W9 := hb8'.trans (hB9.mono hb8'.size)
    have hge := hbs7 _ hA
    have h64 := hb6.size
    have hblk : wr.heap[ab]? = w7.heap[ab]? := (hkt.keep ab (by have := h79.size; omega) (by dsimp only at hge; omega) (by dsimp only at hge; omega) (by rw [hrt9]; nofun)).trans (h79.block ab hab)
    exact ⟨ab, aoff, hA, (World.cell?_of_block (a := ⟨ab, aoff + k * 3, none⟩) hblk).trans g0, (World.cell?_of_block (a := ⟨ab, aoff + k * 3 + 1, none⟩) hblk).trans g1, (World.cell?_of_block (a := ⟨ab, aoff + k * 3 + 2, none⟩) hblk).trans g2⟩
  have HROW := Lib.hid hrow
  obtain ⟨S8, hS8⟩ : ∃ S, w8.heap.size = S := ⟨_, rfl⟩
  rw [hS8] at hk9 hs9
  simp only [hS8]
  clear hrow hW1 hW2 hW3 hW4 hW6 hW9 hB9 hmk c0 c1 c2 c3 c4 c5 c6 d0 d1 d2 d3 d4 d5 d6 e0 hbs7 hb7 hb7' hb6 hb8'
  refine wpIn_rangeFunc_ownH rfl (by omega) (gf := 152) (lb := #[.pointer (some ⟨S8, 0, none⟩)]) rfl trivial (enters_of Tryz.func152 (by kernel_rfl) rfl)
    (IS.all1_swE (fun x : Nat => #[.int .i64 (eS q x : Nat)]) (fun A B => GT A → GT B) (fun _ _ h => h) 4 S8 (fun e h1 h2 => by rw [eS_self (mem_elsF.2 ⟨h1, h2⟩)]) hsw W9 hG9 hk9) (fun h h' x => h' (h x))
    (fun W l o o' hl h hc hw hg => hg.near (belowK_b (w := W9) (Nat.le_refl _) W l o o' hl h hc hw) hG9.ga.size hG9.size) (Below.refl _ _) (fun _ => rfl)
    (fun pre W => ∃ v Ts, Tab w.heap.size (w.heap.size + 1 + 1) (w.heap.size + 1) (w.heap.size + 1 + 1 + 1 + 1) b.N (.int .u64 0) (.int .u64 0) (.int .u64 0) (.int .u64 0) (.slice none 0 0) W v Ts ∧ Ts.map MT.tr = (pre.map (eS q)).foldl (nmK b.N.C.l b.N.R.l) [] ∧ Ts.length ≤ pre.length ∧ KT w.heap.size (w.heap.size + 1 + 1) (w.heap.size + 1) W9 W)
    (fun _ _ _ => False)
    ?hown (fun _ _ _ _ _ hs _ _ => hs)
    ⟨_, [], htab9, rfl, Nat.le_refl _, KT.refl _ _ _ _⟩
    (fun x a' _ => ∃ (y0 y1 y2 y3 y4 y5 y7 y9 y10 y11 y12 y13 y14 y15 y16 y17 y18 y19 y20 y21 y22 y23 y24 y25 y26 y27 y28 y29 y30 y31 y32 y33 y34 y35 y36 y37 y38 y39 y40 y41 y42 y43 y44 : Value), a' = { tmps := #[y0, y1, y2, y3, y4, y5, .pointer (some ⟨w.heap.size + 1 + 1 + 1, 0, none⟩), y7, .int .i64 (eS q x : Nat), y9, y10, y11, y12, y13, y14, y15, y16, y17, y18, y19, y20, y21, y22, y23, y24, y25, y26, y27, y28, y29, y30, y31, y32, y33, y34, y35, y36, y37, y38, y39, y40, y41, y42, y43, y44], defers := [] })
    (fun _ _ _ _ _ _ hs _ _ => hs)
    ?assign ?body ?done ?stop
  case hown =>
    rintro pre A B row ⟨v, Ts, h1, h2, h3, h4⟩ hg hr
    have hsA : W9.heap.size ≤ A.heap.size := h4.below.size
    have hwA : w.heap.size ≤ A.heap.size := by omega
    refine ⟨v, Ts, h1.keptP hg (fun e => by have := (hr _ e.symm).1; omega) (fun r e => (hr r e).2), h2, h3, h4.below.trans ((Below.refl _ _).grown hg hwA (fun k e => by have := (hr k e).1; omega)), fun k hk k1 k2 k3 => (hg.block k (by omega) (fun e => by have := (hr k e.symm).1; omega)).trans (h4.keep k hk k1 k2 k3), ?_⟩
    rw [rowT_block (hg.block (w.heap.size + 1 + 1) (by omega) (fun e => by have := (hr _ e.symm).1; omega))]
    exact h4.row
  case assign =>
    rintro l pre x W K hI hK
    gi_wp2
    exact hK _ _ (KeepsFrom.refl _ _) (fun h => h) hI ⟨_, _, _, _, _, _, _, _, _, _, _, _, _, _, _, _, _, _, _, _, _, _, _, _, _, _, _, _, _, _, _, _, _, _, _, _, _, _, _, _, _, _, _, rfl⟩
  case body =>
    rintro l pre x a' W hlW hrr ⟨v, Ts, h1, h2, h3, h4⟩ hax hlen
    obtain ⟨y0, y1, y2, y3, y4, y5, y7, y9, y10, y11, y12, y13, y14, y15, y16, y17, y18, y19, y20, y21, y22, y23, y24, y25, y26, y27, y28, y29, y30, y31, y32, y33, y34, y35, y36, y37, y38, y39, y40, y41, y42, y43, y44, rfl⟩ := hax
    have hyi : eS q x ∈ elsF q 0 := eS_in (by omega)
    have hmap : (pre ++ [x]).map (eS q) = pre.map (eS q) ++ [eS q x] := by rw [List.map_append]; rfl
    obtain ⟨y, hy⟩ : ∃ y, eS q x = y := ⟨_, rfl⟩
    rw [hy] at hyi hmap ⊢
    have hyC := hqlt y (mem_elsF.1 hyi).2
    have htr : (leafMT 0 y).tr = .mk 0 (y : Int) [] := by rw [leafMT, tr_leaf]
    have hsW : W9.heap.size ≤ W.heap.size := h4.below.size
    have hbW : Below w.heap.size w W := hbw9.trans h4.below
    have hoff : MT.All (fun b' => some b' ≠ v.ownBlock) (leafMT 0 y) := by
      cases hv : v.ownBlock with
      | none => exact MT.All.imp (fun b' _ e => by cases e) _ (leaf_new 0 y 0 W).2
      | some g => exact MT.All.imp (fun b' hb' e => by have := Option.some.inj e; have := hb'.1; omega) _ (leaf_new 0 y (g + 1) W).2
    have hadd := add_any h1 (hG.keep hg0 hbW) (HBN.out.n.below hbW.size hbW) (leafMT 0 y) (leaf_new 0 y _ W) hoff (nmb_of hok) (pr_of hok (by rw [htr]; exact leaf_wf hyC) (by rw [htr]; simp [Tr.size, Tr.sizes])) (by omega)
    have hcbW := (World.cell?_of_block (a := ⟨w.heap.size + 1 + 1 + 1, 0, none⟩) (h4.keep (w.heap.size + 1 + 1 + 1) (by omega) (by omega) (by omega) (by rw [hrt9]; nofun))).trans hcb9
    have hfold : (addT b.N Ts (leafMT 0 y)).map MT.tr = ((pre ++ [x]).map (eS q)).foldl (nmK b.N.C.l b.N.R.l) [] := by rw [addT_tr, hmap, List.foldl_append, h2, htr]; rfl
    have hlen2 : (addT b.N Ts (leafMT 0 y)).length ≤ (pre ++ [x]).length := by
      have : (addT b.N Ts (leafMT 0 y)).length ≤ Ts.length + 1 := by unfold addT; split <;> simp
      rw [List.length_append]; simp; omega
    have HF := Lib.hid (And.intro hfold hlen2)
    have H1 := Lib.hid h1
    have H4 := Lib.hid h4
    simp only [leafMT, MT.val, MT.op, MT.n, MT.A, MT.c, MT.args, List.length_nil] at hadd
    clear hfold hlen2 hmap h1 h2 h4 hoff htr
    gi_wp2_with (refine ⟨trivial, ?_⟩; refine (CallsIn.inRound l (inW hadd _)).mono ?_; clear hadd; rintro e w2 ⟨⟨r, rfl⟩, v', h1', hkt⟩)
    have hfin : KeepsFrom W9.heap.size W w2 ∧ (GT W → GT w2) ∧ ∃ v Ts, Tab w.heap.size (w.heap.size + 1 + 1) (w.heap.size + 1) (w.heap.size + 1 + 1 + 1 + 1) b.N (.int .u64 0) (.int .u64 0) (.int .u64 0) (.int .u64 0) (.slice none 0 0) w2 v Ts ∧ Ts.map MT.tr = ((pre ++ [x]).map (eS q)).foldl (nmK b.N.C.l b.N.R.l) [] ∧ Ts.length ≤ (pre ++ [x]).length ∧ KT w.heap.size (w.heap.size + 1 + 1) (w.heap.size + 1) W9 w2 :=
      ⟨⟨hkt.below.size, fun k o hk ho hc => (hkt.keep k (Array.getElem?_eq_some_iff.1 ho).1 (by omega) (by omega) (tab_rowNe H1.out ho hc)).trans ho⟩, fun h => h.near hkt.below hg1 hg2, v', _, h1', HF.out.1, HF.out.2, H4.out.trans hkt⟩
    exact hfin
  case done =>
    rintro D ys W hD hys ⟨v, Ts, h1, h2, h3, h4⟩ hK
    rw [hys, eS_map] at h2
    rw [hys] at h3
    have hL0 : Ts.map MT.tr = nmL b.N.C.l b.N.R.l q := h2
    have hsW : W9.heap.size ≤ W.heap.size := h4.below.size
    have hJ0 : JM w.heap.size (w.heap.size + 1 + 1) (w.heap.size + 1) (w.heap.size + 1 + 1 + 1 + 1) (w.heap.size + 1 + 1 + 1) b.N (.int .u64 0) (.int .u64 0) (.int .u64 0) (.int .u64 0) (.slice none 0 0) (nmL b.N.C.l b.N.R.l q) [] W := ⟨⟨v, Ts, h1, by rw [hL0]; rfl, by unfold mostN; simp; omega⟩, (h4.keep (w.heap.size + 1 + 1 + 1) (by omega) (by omega) (by omega) (by rw [hrt9]; nofun)).trans hcbk, by omega, by omega, by omega⟩
    have HJ0 := Lib.hid hJ0
    have H4 := Lib.hid h4
    have hDl := (Array.getElem?_eq_some_iff.1 hK).1
    have hLf : mkL b.N.C.l b.N.R.l (L.flatMap MT.nodes) = ((L.flatMap MT.nodes).map MT.tr).foldl (colK b.N.C.l b.N.R.l) (nmL b.N.C.l b.N.R.l q) := by rw [mkL, hq]
    have HZF := Lib.hid hLf
    have hdo := fun (T : MT) (hT : T ∈ L) (pre : List MT) (W' : World) (hW' : Below w.heap.size w W') (hJ : JM w.heap.size (w.heap.size + 1 + 1) (w.heap.size + 1) (w.heap.size + 1 + 1 + 1 + 1) (w.heap.size + 1 + 1 + 1) b.N (.int .u64 0) (.int .u64 0) (.int .u64 0) (.int .u64 0) (.slice none 0 0) (nmL b.N.C.l b.N.R.l q) pre W') => mvisit_any (n₀ := w.heap.size) (w0 := w) (visJM (n₀ := w.heap.size) (tb := w.heap.size + 1 + 1) (mb := w.heap.size + 1) (lo := w.heap.size + 1 + 1 + 1 + 1) (cb := w.heap.size + 1 + 1 + 1) (n := b.N) (s0 := .int .u64 0) (s1 := .int .u64 0) (s2 := .int .u64 0) (s3 := .int .u64 0) (ov := .slice none 0 0) (L0 := nmL b.N.C.l b.N.R.l q)) call_mOf1 (mOf1_do hG hg0 HBN.out.n hok) T pre W' (HIN.out T hT) (each_ok T (HP.out T hT)) hW' hW'.size hJ
    have HDO := Lib.hid hdo
    simp only [MT.val] at HDO
    clear h1 h2 h4 hL0 hJ0 hLf hdo hys
    gi_wp2_with fail
    refine wpIn_loop (fun a' wr => ∃ (u0 u1 u2 u3 u4 u5 u7 u8 u10 u11 u12 u13 u14 u15 u16 u17 u18 u19 u20 u21 u22 u23 u24 u25 u26 u27 u28 u29 u30 u34 u35 u36 u37 u38 u39 u40 u41 u42 u43 u44 c33 : Value), (∃ (k : Nat), k ≤ L.length ∧ c33 = .int .i64 (k : Nat) ∧ JM w.heap.size (w.heap.size + 1 + 1) (w.heap.size + 1) (w.heap.size + 1 + 1 + 1 + 1) (w.heap.size + 1 + 1 + 1) b.N (.int .u64 0) (.int .u64 0) (.int .u64 0) (.int .u64 0) (.slice none 0 0) (nmL b.N.C.l b.N.R.l q) ((L.take k).flatMap MT.nodes) wr ∧ KT w.heap.size (w.heap.size + 1 + 1) (w.heap.size + 1) W9 wr ∧ wr.heap[D]? = some (.deferred (some []))) ∧ a' = { tmps := #[u0, u1, u2, u3, u4, u5, .pointer (some ⟨w.heap.size + 1 + 1 + 1, 0, none⟩), u7, u8, .func (.func 110) #[] #[.pointer (some ⟨w.heap.size + 1 + 1 + 1, 0, none⟩)], u10, u11, u12, u13, u14, u15, u16, u17, u18, u19, u20, u21, u22, u23, u24, u25, u26, u27, u28, u29, u30, .slice A7 L.length c7, .int .i64 (L.length : Nat), c33, u34, u35, u36, u37, u38, u39, u40, u41, u42, u43, u44], defers := [{ target := .collected D, args := #[] }] }) (fun a' _ => L.length - (intOf (a'.tmps.getD 33 undef)).toNat) ?_ ?_
    · (repeat apply Exists.intro)
      exact ⟨⟨0, Nat.zero_le _, rfl, HJ0.out, H4.out, hK⟩, rfl⟩
    · intro _ wr hinv
      obtain ⟨u0, u1, u2, u3, u4, u5, u7, u8, u10, u11, u12, u13, u14, u15, u16, u17, u18, u19, u20, u21, u22, u23, u24, u25, u26, u27, u28, u29, u30, u34, u35, u36, u37, u38, u39, u40, u41, u42, u43, u44, c33, hrel, ha⟩ := hinv
      subst ha
      try dsimp only
      obtain ⟨k, hk, rfl, hJk, hkt, hDk⟩ := hrel
      obtain ⟨⟨v, Ts, ht, htr, hlen⟩, hcbw, hct1, hct2, hct3⟩ := id hJk
      have hbr : Below w.heap.size w wr := hbw9.trans hkt.below
      have hDr := (Array.getElem?_eq_some_iff.1 hDk).1
      have hsr : W9.heap.size ≤ wr.heap.size := hkt.below.size
      have HJK := Lib.hid hJk
      have HKT := Lib.hid hkt
      have HT := Lib.hid ht
      by_cases hlt : k < L.length
      · obtain ⟨ab, aoff, hA, g0, g1, g2⟩ := HROW.out wr hkt k hlt
        subst hA
        obtain ⟨W3, hW3, hB3, hs3, b0, b1, b2, -⟩ := box3 wr (Value.int IntKind.i64 L[k].op) (Value.int IntKind.i64 L[k].n) (Value.slice L[k].A L[k].args.length L[k].c) 33
        have hb3 := (visJM (n₀ := w.heap.size) (tb := w.heap.size + 1 + 1) (mb := w.heap.size + 1) (lo := w.heap.size + 1 + 1 + 1 + 1) (cb := w.heap.size + 1 + 1 + 1) (n := b.N) (s0 := .int .u64 0) (s1 := .int .u64 0) (s2 := .int .u64 0) (s3 := .int .u64 0) (ov := .slice none 0 0) (L0 := nmL b.N.C.l b.N.R.l q)).box _ wr #[Value.int IntKind.i64 L[k].op, Value.int IntKind.i64 L[k].n, Value.slice L[k].A L[k].args.length L[k].c] 33 hbr.size HJK.out
        rw [hW3] at hb3
        have hcall := HDO.out L[k] (List.getElem_mem _) _ W3 (hbr.trans hb3.2.below) hb3.1
        have HK3 := Lib.hid (hkt.trans hb3.2)
        have h0I : (0 : Int) ≤ k := by omega
        have hlI : (k : Int) < L.length := by omega
        have HTK := Lib.hid (nodes_take L k hlt)
        have hD3 : W3.heap[D]? = some (.deferred (some [])) := (hb3.2.keep D hDr (by omega) (by omega) (tab_rowNe HT.out hDk rfl)).trans hDk
        have HD3 := Lib.hid hD3
        have hT3 := hb3.1.tab
        obtain ⟨v3, Ts3, ht3, -, -⟩ := hT3
        have HT3 := Lib.hid ht3
        have hsp : L.flatMap MT.nodes = (L.take k).flatMap MT.nodes ++ (L[k].nodes ++ (L.drop (k + 1)).flatMap MT.nodes) := nodes_split L k hlt
        have HSP := Lib.hid hsp
        clear hb3 hB3 hJk hkt ht htr hlen hcbw hct1 hct2 hct3 hD3 ht3 hsp
        gi_wp2_with (refine ⟨trivial, ?_⟩; refine (inW hcall 4).mono ?_; clear hcall; rintro e W4' (⟨rfl, hJ4, hk4⟩ | ⟨rfl, q', hq', hx4, hk4⟩))
        · have hJ5 : JM w.heap.size (w.heap.size + 1 + 1) (w.heap.size + 1) (w.heap.size + 1 + 1 + 1 + 1) (w.heap.size + 1 + 1 + 1) b.N (.int .u64 0) (.int .u64 0) (.int .u64 0) (.int .u64 0) (.slice none 0 0) (nmL b.N.C.l b.N.R.l q) ((L.take (k + 1)).flatMap MT.nodes) W4' := by rw [HTK.out]; exact hJ4
          have hD5 : W4'.heap[D]? = some (.deferred (some [])) := (hk4.keep D (by omega) (by omega) (by omega) (tab_rowNe HT3.out HD3.out rfl)).trans HD3.out
          refine ⟨⟨k + 1, by omega, by go_num, hJ5, HK3.out.trans hk4, hD5⟩, ?_⟩
          simp [intOf]; omega
        · have hD5 : W4'.heap[D]? = some (.deferred (some [])) := (hk4.keep D (by omega) (by omega) (by omega) (tab_rowNe HT3.out HD3.out rfl)).trans HD3.out
          have hb5 : Below w.heap.size w W4' := hbw9.trans (HK3.out.below.trans hk4.below)
          have hbig : 8 < (mkL b.N.C.l b.N.R.l (L.flatMap MT.nodes)).length := by
            obtain ⟨v6, Ts6, -, e6, e7⟩ := hx4
            obtain ⟨r', hr'⟩ := hq'
            rw [HZF.out, HSP.out, ← hr', List.map_append, List.foldl_append]
            rw [List.map_append, List.foldl_append] at e6
            rw [List.map_append, List.map_append, List.foldl_append, List.foldl_append, ← e6]
            have := fold_col_len b.N.C.l b.N.R.l (((L.drop (k + 1)).flatMap MT.nodes).map MT.tr) ((r'.map MT.tr).foldl (colK b.N.C.l b.N.R.l) (Ts6.map MT.tr))
            have h7 := fold_col_len b.N.C.l b.N.R.l (r'.map MT.tr) (Ts6.map MT.tr)
            rw [List.length_map] at h7
            omega
          have HBIG := Lib.hid hbig
          clear hx4 hbig
          gi_wp2_with fail
          refine leaves_marks (I := fun W' => Below w.heap.size w W') (fun W' h => ?_) [D] W4' (by simp) (fun D' hD' => by rw [List.mem_singleton.1 hD']; exact hD5) (fun D' hD' W' h hD6 => by rw [List.mem_singleton.1 hD'] at hD6 ⊢; exact h.trans (belowK_b (w := w) (Nat.le_refl _) W' D _ _ (by omega) hD6 rfl rfl)) hb5
          exact ⟨.tuple #[.pointer none, .int .i64 3], by simp [results, Tryz.f67, go_sem], h, .inr ⟨HBIG.out, rfl⟩⟩
      · have hke : k = L.length := by omega
        subst hke
        have hl8 : Ts.length ≤ 8 := by
          rw [List.take_length] at hlen
          unfold mostN at hlen
          split at hlen
          · rename_i he
            have hnil : L.flatMap MT.nodes = [] := by simpa using he
            rw [List.take_length, hnil] at htr
            have h0 : elsF q 0 = [] := by
              refine elsF_none q (fun i => ?_)
              rw [← hq, hnil]; rfl
            have : Ts.map MT.tr = [] := by rw [htr]; simp [nmL, h0]
            have := congrArg List.length this
            simp at this
            simp [this]
          · exact hlen
        have hLfe : Ts.map MT.tr = mkL b.N.C.l b.N.R.l (L.flatMap MT.nodes) := by rw [HZF.out, htr, List.take_length]
        have hcc := cell_of_blk hcbw 0
        simp only [List.getElem?_toArray, List.getElem?_cons_zero] at hcc
        have hadd := addTypes_any ht (hG9.near hkt.below hg1 hg2) hg1 hg2 rfl hl8
        have HLE := Lib.hid hLfe
        clear htr hlen hLfe hcbw hJk ht
        gi_wp2_with (refine ⟨trivial, ?_⟩; refine (inW hadd 4).mono ?_; clear hadd; rintro e w10 ⟨⟨r, rfl⟩, htf, hgw⟩; have hc10 := (World.cell?_of_block (a := ⟨w.heap.size + 1 + 1 + 1, 0, none⟩) (hgw.block (w.heap.size + 1 + 1 + 1) (by omega) (fun e => by have := Option.some.inj e; omega))).trans hcc)
        have hD10 : w10.heap[D]? = some (.deferred (some [])) := (hgw.block D hDr (fun e => by have := Option.some.inj e; omega)).trans hDk
        have hb10 : Below w.heap.size w w10 := hbr.trans (below_grown hgw (by omega) hbr.size)
        refine leaves_marks (I := fun W' => TF W' (w.heap.size + 1 + 1) (w.heap.size + 1 + 1 + 1 + 1) b.N Ts ∧ Below w.heap.size w W') (fun W' h => ?_) [D] w10 (by simp) (fun D' hD' => by rw [List.mem_singleton.1 hD']; exact hD10) (fun D' hD' W' h hD6 => by rw [List.mem_singleton.1 hD'] at hD6 ⊢; exact ⟨h.1.putObj hD6, h.2.trans (belowK_b (w := w) (Nat.le_refl _) W' D _ _ (by omega) hD6 rfl rfl)⟩) ⟨htf, hb10⟩
        refine ⟨.tuple #[.pointer (some ⟨w.heap.size + 1 + 1, 0, none⟩), .int .i64 0], by simp [results, Tryz.f67, go_sem], h.2, .inl ⟨?_, _, _, Ts, rfl, h.1, HLE.out, by omega⟩⟩
        have := congrArg List.length HLE.out
        rw [List.length_map] at this
        omega
  case stop =>
    rintro D c' pre W _ _ h _
    exact h.elim
end Go.Proofs.YtndkcimajeofcaaGreatDoor

namespace Go.Proofs.YtndkcimajeofcaaGreatDoor
open Go.RowKit
attribute [local go_sem ↓] Go.wp_at_zero Go.wp_at_succ

/-- What marks.Check says. -/
def mcheckC (b : BN) (l : List MT) : Int := if kcheckB b then codeIf (l.all (okC b)) 10 else 20
theorem checkF_two {n : NM} (h : n.ok = true) (T : MT) : checkF n T = codeIf (checkF n T == 0) 10 := by
  unfold checkF
  rw [h, if_pos rfl]
  cases validB n T <;> rfl

set_option maxRecDepth 100000 in
set_option maxHeartbeats 8000000 in
theorem mCheck_any (b : BN) (mo : ML) (w : World) (hG : GA w) (hb : b.In w.heap.size w) (hmo : mo.In w.heap.size w) (hI : b.I.length ≤ 1000) (hR : b.R.l.length ≤ 1000) (hF : b.F.length ≤ 1000) (hL : b.L.l.length ≤ 1000) (hN : b.N.R.l.length ≤ 1000) (hsz : ∀ T ∈ b.cons, T.tr.size ≤ 1000000)
    (hszm : ∀ T ∈ mo.l, T.tr.size ≤ 1000000) (hlm : mo.l.length ≤ 1000000) :
    Calls Tryz.prog 66 #[b.val, .slice mo.A mo.l.length mo.c] w fun e w' => e = .returned (.int .i64 (mcheckC b mo.l)) ∧ Below w.heap.size w w' := by
  obtain ⟨W1, hW1, hB1, hs1, hk1⟩ := newBlk w _ rfl #[.slice b.N.C.A b.N.C.l.length b.N.C.c, .slice b.N.R.A b.N.R.l.length b.N.R.c, .slice b.N.I.A b.N.I.l.length b.N.I.c, .slice b.IA b.I.length b.ic, .slice b.R.A b.R.l.length b.R.c, .slice b.FA b.F.length b.fc, .slice b.L.A b.L.l.length b.L.c] 30
  have hbb := fun w' (h : Below W1.heap.size W1 w') => bbox_of (b := b) (blk_lat hk1 h)
  obtain ⟨c0, c1, c2, c3, c4, c5, c6⟩ := hbb W1 (Below.refl _ _)
  have hkc := kCheck_any b W1 (hG.later hB1) (hb.later hB1) hI hR hF hL hN hsz
  have hck := fun T (hT : T ∈ mo.l) w' (h : Below W1.heap.size W1 w') => cCheckA_any b.N T w' ((hG.later hB1).later h) ((hb.n.later hB1).later h) (((hmo.later hB1).2.2.2.2 T hT).later h) (by rw [MT.pre_length]; exact hszm T hT)
  have hrw := fun w' (h : Below W1.heap.size W1 w') => (hmo.2.2.2.1.below hB1.size hB1).below h.size h
  obtain ⟨A, c, l⟩ := mo
  have HCK := Lib.hid hck
  have HRW := Lib.hid hrw
  have HBL := Lib.hid hB1
  have HBB := Lib.hid hbb
  obtain ⟨kc, hkce⟩ : ∃ kc, kcheckB b = kc := ⟨_, rfl⟩
  rw [hkce] at hkc
  have HM := Lib.hid (show mcheckC b l = if kc then codeIf (l.all (okC b)) 10 else 20 by rw [mcheckC, hkce])
  have hokk : kc = true → b.N.ok = true := fun h => by rw [← hkce, kcheckB, Bool.and_eq_true] at h; exact h.1
  have HOK := Lib.hid hokk
  simp only [NM.val, MT.val, BN.val] at hkc HCK ⊢
  clear hG hb hmo hI hR hF hL hN hsz hszm hB1 hk1 hbb hck hrw hkce hokk
  cases kc
  · go_enter Tryz.func66, Tryz.ntmps66
    go_wp2_with (go_at_call 61; refine hkc.mono ?_; clear hkc; rintro e w2 ⟨rfl, hb2⟩; simp only [codeIf])
    go_ret
    exact ⟨by rw [HM.out]; rfl, HBL.out.trans (hb2.mono HBL.out.size)⟩
  · have hNok := HOK.out rfl
    go_enter Tryz.func66, Tryz.ntmps66
    go_wp2_with (go_at_call 61; refine hkc.mono ?_; clear hkc; rintro e w2 ⟨rfl, hb2⟩; simp only [codeIf])
    clear c0 c1 c2 c3 c4 c5 c6
    go_loopw [16] (fun i' wr => ∃ k : Nat, k ≤ l.length ∧ i' = .int .i64 (k : Nat) ∧ (∀ j (hj : j < l.length), j < k → okC b l[j] = true) ∧ Below W1.heap.size W1 wr) (fun i' _ => l.length - (intOf i').toNat)
    case atStart => exact ⟨0, Nat.zero_le _, rfl, fun j _ h => absurd h (by omega), hb2⟩
    case round =>
      rename World => wr
      obtain ⟨k, hk, rfl, hall, hbw⟩ := hrel
      have HA := Lib.hid hall
      clear hall
      by_cases hltk : k < l.length
      · obtain ⟨g, off, hA, hg, e0, e1, e2⟩ := elem3 (HRW.out wr hbw) (Below.refl _ _) hltk
        subst hA
        have h0K : (0 : Int) ≤ k := by omega
        have hlK : (k : Int) < l.length := by omega
        obtain ⟨Wa, hWa, hBa, hsa, hka⟩ := newBlk wr _ rfl #[.int .i64 l[k].op, .int .i64 l[k].n, .slice l[k].A l[k].args.length l[k].c] 33
        have h1a : Below W1.heap.size W1 Wa := hbw.trans (hBa.mono hbw.size)
        obtain ⟨c0, c1, c2, c3, c4, c5, c6⟩ := HBB.out Wa h1a
        obtain ⟨⟨d0, d1, d2⟩, -⟩ := res3 hka
        have hck := HCK.out l[k] (List.getElem_mem hltk) Wa h1a
        rw [checkF_two hNok] at hck
        obtain ⟨ok, hok⟩ : ∃ x, (checkF b.N l[k] == 0) = x := ⟨_, rfl⟩
        rw [hok] at hck
        have HOKK := Lib.hid (show okC b l[k] = ok from hok)
        have H1 := Lib.hid h1a
        clear hok hBa hka
        cases ok
        · go_wp2_with (go_at_call 69; refine hck.mono ?_; clear hck; rintro e w5 ⟨rfl, hb5⟩; simp only [codeIf])
          go_ret
          exact ⟨by rw [HM.out, all_no hltk HOKK.out]; rfl, HBL.out.trans ((H1.out.trans (hb5.mono H1.out.size)).mono HBL.out.size)⟩
        · go_wp2_with (go_at_call 69; refine hck.mono ?_; clear hck; rintro e w5 ⟨rfl, hb5⟩; simp only [codeIf])
          go_roundw
          case rel => exact ⟨k + 1, by omega, by go_num, fun j hj hjk => by
            by_cases e : j = k
            · subst e; exact HOKK.out
            · exact HA.out j hj (by omega), H1.out.trans (hb5.mono H1.out.size)⟩
          case measure => simp [intOf]; omega
      · go_wp2_with fail
        go_ret
        exact ⟨by rw [HM.out, all_yes fun j hj => HA.out j hj (by omega)]; rfl, HBL.out.trans (hbw.mono HBL.out.size)⟩
end Go.Proofs.YtndkcimajeofcaaGreatDoor

namespace Go.Proofs.YtndkcimajeofcaaGreatDoor
open Go.RowKit
attribute [local go_sem ↓] Go.wp_at_zero Go.wp_at_succ

/-- The two blocks of the call: the concept's box and the result's. -/
theorem tru_blks (T : MT) (w : World) : ∃ W1 W2, w.alloc (.cells #[.int .i64 T.op, .int .i64 T.n, .slice T.A T.args.length T.c] 33) = W1 ∧ W1.heap.size = w.heap.size + 1 ∧ W1.alloc (.cells #[.int .u64 0, .int .u64 0, .int .u64 0, .int .u64 0] 126) = W2 ∧ W2.heap.size = w.heap.size + 1 + 1 ∧ Below w.heap.size w W2 ∧
    (∀ w', Below W2.heap.size W2 w' → w'.cell? ⟨w.heap.size, 0, none⟩ = some (.int .i64 T.op) ∧ w'.cell? ⟨w.heap.size, 1, none⟩ = some (.int .i64 T.n) ∧ w'.cell? ⟨w.heap.size, 2, none⟩ = some (.slice T.A T.args.length T.c)) ∧
    (∀ w', Below W2.heap.size W2 w' → w'.heap[w.heap.size + 1]? = some (.cells #[.int .u64 0, .int .u64 0, .int .u64 0, .int .u64 0] 126)) := by
  obtain ⟨W1, hW1, hB1, hs1, hk1⟩ := newBlk w _ rfl #[.int .i64 T.op, .int .i64 T.n, .slice T.A T.args.length T.c] 33
  obtain ⟨W2, hW2, hB2, hs2, hk2⟩ := newBlk W1 _ hs1 #[.int .u64 0, .int .u64 0, .int .u64 0, .int .u64 0] 126
  have hk12 := (hB2.block w.heap.size (by omega)).trans hk1
  exact ⟨W1, W2, hW1, hs1, hW2, hs2, hB1.trans (hB2.mono (by omega)), fun w' hb => ⟨cell_of_blk (blk_lat hk12 hb) 0, cell_of_blk (blk_lat hk12 hb) 1, cell_of_blk (blk_lat hk12 hb) 2⟩, fun w' hb => blk_lat hk2 hb⟩
theorem blkT {w : World} {b : Nat} {x0 x1 x2 x3 : Value} {t : TypeId} (h : w.heap[b]? = some (.cells #[x0, x1, x2, x3] t)) : (w.cell? ⟨b, 0, none⟩ = some x0 ∧ w.cell? ⟨b, 1, none⟩ = some x1 ∧ w.cell? ⟨b, 2, none⟩ = some x2 ∧ w.cell? ⟨b, 3, none⟩ = some x3) ∧ w.frozen? ⟨b, 0, none⟩ = false ∧ w.frozen? ⟨b, 1, none⟩ = false ∧ w.frozen? ⟨b, 2, none⟩ = false ∧ w.frozen? ⟨b, 3, none⟩ = false :=
  ⟨⟨cell_of_blk h 0, cell_of_blk h 1, cell_of_blk h 2, cell_of_blk h 3⟩, frozen_of_blk h 0, frozen_of_blk h 1, frozen_of_blk h 2, frozen_of_blk h 3⟩
theorem TF.types {w : World} {tb lo : Nat} {n : NM} {Ts : List MT} (h : TF w tb lo n Ts) : ∃ (s0 s1 s2 s3 : Nat), SW (fun x => decide (x < 2 ^ Ts.length)) s0 s1 s2 s3 ∧ w.cell? ⟨tb, 5, none⟩ = some (.int .u64 (s0 : Nat)) ∧ w.cell? ⟨tb, 6, none⟩ = some (.int .u64 (s1 : Nat)) ∧ w.cell? ⟨tb, 7, none⟩ = some (.int .u64 (s2 : Nat)) ∧ w.cell? ⟨tb, 8, none⟩ = some (.int .u64 (s3 : Nat)) := by
  obtain ⟨og, s0, s1, s2, s3, A, c, h1, -, -, -, ⟨h2, h3, h4, h5⟩, -⟩ := h.cells
  exact ⟨s0, s1, s2, s3, h1, h2, h3, h4, h5⟩

set_option maxRecDepth 100000 in
set_option maxHeartbeats 2000000 in
theorem tru_top {tb lo : Nat} {n : NM} {Ts : List MT} (nn : Int) (A : Option Addr) (c : Nat) (args : List MT) (w : World) (ht : TF w tb lo n Ts) : Calls Tryz.prog 74 #[.pointer (some ⟨tb, 0, none⟩), (MT.mk 1 nn A c args).val] w (RetS3 (fun x => decide (x < 2 ^ Ts.length)) w) := by
  obtain ⟨W1, W2, hW1, hs1, hW2, hs2, hB, hcc, hcr⟩ := tru_blks (.mk 1 nn A c args) w
  obtain ⟨s0, s1, s2, s3, hsw, n0, n1, n2, n3⟩ := (ht.later hB).types
  obtain ⟨⟨r0, r1, r2, r3⟩, f0, f1, f2, f3⟩ := blkT (hcr W2 (Below.refl _ _))
  obtain ⟨c0, c1, c2⟩ := hcc W2 (Below.refl _ _)
  obtain ⟨q1, q2⟩ := store4 (hcr W2 (Below.refl _ _)) (.int .u64 (s0 : Nat)) (.int .u64 (s1 : Nat)) (.int .u64 (s2 : Nat)) (.int .u64 (s3 : Nat))
  have hb4 := hB.trans (below_grown q2 (by omega) hB.size)
  simp only [MT.val, MT.op, MT.n, MT.A, MT.c, MT.args] at hW1 c0 c1 c2 ⊢
  go_enter Tryz.func74, Tryz.ntmps74
  go_wp2
  generalize ((((W2.setCell ⟨w.heap.size + 1, 0, none⟩ (.int .u64 (s0 : Nat))).setCell ⟨w.heap.size + 1, 1, none⟩ (.int .u64 (s1 : Nat))).setCell ⟨w.heap.size + 1, 2, none⟩ (.int .u64 (s2 : Nat))).setCell ⟨w.heap.size + 1, 3, none⟩ (.int .u64 (s3 : Nat))) = w5 at q1 hb4 ⊢
  obtain ⟨⟨t0, t1, t2, t3⟩, -⟩ := blkT q1
  refine bodyPost_ret (v := _) (by simp [results, Tryz.f74, go_sem, t0, t1, t2, t3]) rfl ⟨s0, s1, s2, s3, rfl, hsw, hb4⟩

set_option maxRecDepth 100000 in
set_option maxHeartbeats 2000000 in
theorem tru_bot (tb : Nat) (nn : Int) (A : Option Addr) (c : Nat) (args : List MT) (w : World) : Calls Tryz.prog 74 #[.pointer (some ⟨tb, 0, none⟩), (MT.mk 2 nn A c args).val] w (RetS3 (fun _ => false) w) := by
  obtain ⟨W1, W2, hW1, hs1, hW2, hs2, hB, hcc, hcr⟩ := tru_blks (.mk 2 nn A c args) w
  obtain ⟨⟨r0, r1, r2, r3⟩, f0, f1, f2, f3⟩ := blkT (hcr W2 (Below.refl _ _))
  obtain ⟨c0, c1, c2⟩ := hcc W2 (Below.refl _ _)
  obtain ⟨q1, q2⟩ := store4 (hcr W2 (Below.refl _ _)) (.int .u64 0) (.int .u64 0) (.int .u64 0) (.int .u64 0)
  have hb4 := hB.trans (below_grown q2 (by omega) hB.size)
  simp only [MT.val, MT.op, MT.n, MT.A, MT.c, MT.args] at hW1 c0 c1 c2 ⊢
  go_enter Tryz.func74, Tryz.ntmps74
  go_wp2
  generalize ((((W2.setCell ⟨w.heap.size + 1, 0, none⟩ (.int .u64 0)).setCell ⟨w.heap.size + 1, 1, none⟩ (.int .u64 0)).setCell ⟨w.heap.size + 1, 2, none⟩ (.int .u64 0)).setCell ⟨w.heap.size + 1, 3, none⟩ (.int .u64 0)) = w5 at q1 hb4 ⊢
  obtain ⟨⟨t0, t1, t2, t3⟩, -⟩ := blkT q1
  refine bodyPost_ret (v := _) (by simp [results, Tryz.f74, go_sem, t0, t1, t2, t3]) rfl ⟨0, 0, 0, 0, rfl, sw_none, hb4⟩

set_option maxRecDepth 100000 in
set_option maxHeartbeats 4000000 in
theorem tru_not {tb lo : Nat} {n : NM} {Ts : List MT} (nn : Int) (A : Option Addr) (c : Nat) (args : List MT) (w : World) (ht : TF w tb lo n Ts) (hT : (MT.mk 3 nn A c args).In w.heap.size w) (hlen : 0 < args.length) (q0 : Nat → Bool)
    (hE0 : ∀ w', Below w.heap.size w w' → Calls Tryz.prog 74 #[.pointer (some ⟨tb, 0, none⟩), args[0].val] w' (RetS3 q0 w')) :
    Calls Tryz.prog 74 #[.pointer (some ⟨tb, 0, none⟩), (MT.mk 3 nn A c args).val] w (RetS3 (fun x => decide (x < 2 ^ Ts.length) && !q0 x) w) := by
  rw [MT.In] at hT
  obtain ⟨hlc, hc, hr, hrow⟩ := hT
  obtain ⟨W1, W2, hW1, hs1, hW2, hs2, hB, hcc, hcr⟩ := tru_blks (.mk 3 nn A c args) w
  simp only [MT.op, MT.n, MT.A, MT.args, MT.c] at hcc hW1
  obtain ⟨s0, s1, s2, s3, hsw, n0, n1, n2, n3⟩ := (ht.later hB).types
  have hbw : tb < w.heap.size := ht.lt
  have hbB : tb < w.heap.size + 1 := by omega
  obtain ⟨ab, aoff, rfl, hab, g00, g01, g02⟩ := elem3 hr hB (show 0 < args.length by omega)
  simp only [Nat.zero_mul, Nat.add_zero] at g00 g01 g02
  have habB : ab < w.heap.size + 1 := by omega
  obtain ⟨T0, hT0⟩ : ∃ t, args[0] = t := ⟨_, rfl⟩
  rw [hT0] at g00 g01 g02 hE0
  obtain ⟨c0, c1, c2⟩ := hcc W2 (Below.refl _ _)
  have hS : ∀ w', Below (w.heap.size + 1) W2 w' → (w'.cell? ⟨tb, 5, none⟩ = some (.int .u64 (s0 : Nat)) ∧ w'.cell? ⟨tb, 6, none⟩ = some (.int .u64 (s1 : Nat)) ∧ w'.cell? ⟨tb, 7, none⟩ = some (.int .u64 (s2 : Nat)) ∧ w'.cell? ⟨tb, 8, none⟩ = some (.int .u64 (s3 : Nat))) ∧ w'.cell? ⟨w.heap.size, 2, none⟩ = some (.slice (some ⟨ab, aoff, none⟩) args.length c) ∧ (w'.cell? ⟨ab, aoff, none⟩ = some (.int .i64 T0.op) ∧ w'.cell? ⟨ab, aoff + 1, none⟩ = some (.int .i64 T0.n) ∧ w'.cell? ⟨ab, aoff + 2, none⟩ = some (.slice T0.A T0.args.length T0.c)) := fun w' hb => ⟨⟨(hb.cell (p := ⟨tb, 5, none⟩) hbB).trans n0, (hb.cell (p := ⟨tb, 6, none⟩) hbB).trans n1, (hb.cell (p := ⟨tb, 7, none⟩) hbB).trans n2, (hb.cell (p := ⟨tb, 8, none⟩) hbB).trans n3⟩, (hb.cell (p := ⟨w.heap.size, 2, none⟩) (Nat.lt_succ_self _)).trans c2, ⟨(hb.cell (p := ⟨ab, aoff, none⟩) habB).trans g00, (hb.cell (p := ⟨ab, aoff + 1, none⟩) habB).trans g01, (hb.cell (p := ⟨ab, aoff + 2, none⟩) habB).trans g02⟩⟩
  have hd : Below W2.heap.size W2 W2.drew := (Below.refl _ W2).drew
  have hdS : Below (w.heap.size + 1) W2 W2.drew := hd.mono (by omega)
  have hel0 := hE0 W2.drew hB.drew
  have hlI : (0 : Int) < args.length := by omega
  have HB := Lib.hid hB
  have HSW := Lib.hid hsw
  have HCR := Lib.hid hcr
  simp only [MT.val, MT.op, MT.n, MT.A, MT.args, MT.c] at hel0  ⊢
  clear hE0 ht hr hrow hB hcr hcc hsw hlc hc n0 n1 n2 n3 g00 g01 g02 hT0 hd
  go_enter Tryz.func74, Tryz.ntmps74
  go_wp2_with fail
  clear c0 c1 c2
  go_region_held (fun w' => (w'.cell? ⟨tb, 5, none⟩ = some (.int .u64 (s0 : Nat)) ∧ w'.cell? ⟨tb, 6, none⟩ = some (.int .u64 (s1 : Nat)) ∧ w'.cell? ⟨tb, 7, none⟩ = some (.int .u64 (s2 : Nat)) ∧ w'.cell? ⟨tb, 8, none⟩ = some (.int .u64 (s3 : Nat))) ∧ w'.cell? ⟨w.heap.size, 2, none⟩ = some (.slice (some ⟨ab, aoff, none⟩) args.length c) ∧ (w'.cell? ⟨ab, aoff, none⟩ = some (.int .i64 T0.op) ∧ w'.cell? ⟨ab, aoff + 1, none⟩ = some (.int .i64 T0.n) ∧ w'.cell? ⟨ab, aoff + 2, none⟩ = some (.slice T0.A T0.args.length T0.c)))
    (first | exact hS _ hdS | exact hS _ hb3S | exact hS _ hb9S | exact hS _ hbS)
    (first
      | (go_at_call 118; refine (TS.bMinus_sw HSW.out hswE0 w3).mono ?_; rintro e w4 ⟨a9, b9, c9, d9, rfl, hsw9, hb9'⟩; have hb9 := hb3.trans (hb9'.mono hb3.size); have hb9S : Below (w.heap.size + 1) W2 w4 := hb9.mono (by omega); have hkR := HCR.out w4 hb9; obtain ⟨⟨y0, y1, y2, y3⟩, z0, z1, z2, z3⟩ := blkT hkR; obtain ⟨q9, q10⟩ := store4 hkR (.int .u64 (a9 : Nat)) (.int .u64 (b9 : Nat)) (.int .u64 (c9 : Nat)) (.int .u64 (d9 : Nat)); have hbS := hb9S.trans (below_grown q10 (Nat.le_refl _) (by have := hb9.size; omega)))
      | (go_at_call 74; refine hel0.mono ?_; rintro e w3 ⟨a3, b3, c3, d3, rfl, hswE0, hb3'⟩; have hb3 : Below W2.heap.size W2 w3 := ((Below.refl W2.heap.size W2).drew).trans hb3'; have hb3S : Below (w.heap.size + 1) W2 w3 := hb3.mono (by omega)))
  go_wp2
  have hbE := HB.out.trans (hbS.mono (by omega))
  generalize ((((w4.setCell ⟨w.heap.size + 1, 0, none⟩ (.int .u64 (a9 : Nat))).setCell ⟨w.heap.size + 1, 1, none⟩ (.int .u64 (b9 : Nat))).setCell ⟨w.heap.size + 1, 2, none⟩ (.int .u64 (c9 : Nat))).setCell ⟨w.heap.size + 1, 3, none⟩ (.int .u64 (d9 : Nat))) = w10 at q9 hbE ⊢
  obtain ⟨⟨t0, t1, t2, t3⟩, -⟩ := blkT q9
  refine bodyPost_ret (v := _) (by simp [results, Tryz.f74, go_sem, t0, t1, t2, t3]) rfl ⟨a9, b9, c9, d9, rfl, hsw9, hbE⟩

set_option maxRecDepth 100000 in
set_option maxHeartbeats 4000000 in
theorem tru_and {tb : Nat} (nn : Int) (A : Option Addr) (c : Nat) (args : List MT) (w : World) (hT : (MT.mk 4 nn A c args).In w.heap.size w) (hlen : 1 < args.length) (q0 q1 : Nat → Bool)
    (hE0 : ∀ w', Below w.heap.size w w' → Calls Tryz.prog 74 #[.pointer (some ⟨tb, 0, none⟩), args[0].val] w' (RetS3 q0 w'))
    (hE1 : ∀ w', Below w.heap.size w w' → Calls Tryz.prog 74 #[.pointer (some ⟨tb, 0, none⟩), args[1].val] w' (RetS3 q1 w')) :
    Calls Tryz.prog 74 #[.pointer (some ⟨tb, 0, none⟩), (MT.mk 4 nn A c args).val] w (RetS3 (fun x => q0 x && q1 x) w) := by
  rw [MT.In] at hT
  obtain ⟨hlc, hc, hr, hrow⟩ := hT
  obtain ⟨W1, W2, hW1, hs1, hW2, hs2, hB, hcc, hcr⟩ := tru_blks (.mk 4 nn A c args) w
  simp only [MT.op, MT.n, MT.A, MT.args, MT.c] at hcc hW1
  obtain ⟨ab, aoff, rfl, hab, g00, g01, g02⟩ := elem3 hr hB (show 0 < args.length by omega)
  simp only [Nat.zero_mul, Nat.add_zero] at g00 g01 g02
  have habB : ab < w.heap.size + 1 := by omega
  obtain ⟨ab', aoff', he, -, g10, g11, g12⟩ := elem3 hr hB (show 1 < args.length by omega)
  cases he
  simp only [Nat.reduceMul] at g10 g11 g12
  obtain ⟨T0, hT0⟩ : ∃ t, args[0] = t := ⟨_, rfl⟩
  rw [hT0] at g00 g01 g02 hE0
  obtain ⟨T1, hT1⟩ : ∃ t, args[1] = t := ⟨_, rfl⟩
  rw [hT1] at g10 g11 g12 hE1
  obtain ⟨c0, c1, c2⟩ := hcc W2 (Below.refl _ _)
  have hS : ∀ w', Below (w.heap.size + 1) W2 w' → w'.cell? ⟨w.heap.size, 2, none⟩ = some (.slice (some ⟨ab, aoff, none⟩) args.length c) ∧ (w'.cell? ⟨ab, aoff, none⟩ = some (.int .i64 T0.op) ∧ w'.cell? ⟨ab, aoff + 1, none⟩ = some (.int .i64 T0.n) ∧ w'.cell? ⟨ab, aoff + 2, none⟩ = some (.slice T0.A T0.args.length T0.c)) ∧ (w'.cell? ⟨ab, aoff + 3, none⟩ = some (.int .i64 T1.op) ∧ w'.cell? ⟨ab, aoff + 3 + 1, none⟩ = some (.int .i64 T1.n) ∧ w'.cell? ⟨ab, aoff + 3 + 2, none⟩ = some (.slice T1.A T1.args.length T1.c)) := fun w' hb => ⟨(hb.cell (p := ⟨w.heap.size, 2, none⟩) (Nat.lt_succ_self _)).trans c2, ⟨(hb.cell (p := ⟨ab, aoff, none⟩) habB).trans g00, (hb.cell (p := ⟨ab, aoff + 1, none⟩) habB).trans g01, (hb.cell (p := ⟨ab, aoff + 2, none⟩) habB).trans g02⟩, ⟨(hb.cell (p := ⟨ab, aoff + 3, none⟩) habB).trans g10, (hb.cell (p := ⟨ab, aoff + 3 + 1, none⟩) habB).trans g11, (hb.cell (p := ⟨ab, aoff + 3 + 2, none⟩) habB).trans g12⟩⟩
  have hd : Below W2.heap.size W2 W2.drew := (Below.refl _ W2).drew
  have hdS : Below (w.heap.size + 1) W2 W2.drew := hd.mono (by omega)
  have hel0 := hE0 W2.drew hB.drew
  have hlI : (0 : Int) < args.length := by omega
  have hlI1 : (1 : Int) < args.length := by omega
  have HB := Lib.hid hB
  have HCR := Lib.hid hcr
  have HE1 := Lib.hid hE1
  simp only [MT.val, MT.op, MT.n, MT.A, MT.args, MT.c] at hel0 HE1 ⊢
  clear hE0 hE1 hr hrow hB hcr hcc hlc hc g00 g01 g02 hT0 g10 g11 g12 hT1 hd
  go_enter Tryz.func74, Tryz.ntmps74
  go_wp2_with fail
  clear c0 c1 c2
  go_region_held (fun w' => w'.cell? ⟨w.heap.size, 2, none⟩ = some (.slice (some ⟨ab, aoff, none⟩) args.length c) ∧ (w'.cell? ⟨ab, aoff, none⟩ = some (.int .i64 T0.op) ∧ w'.cell? ⟨ab, aoff + 1, none⟩ = some (.int .i64 T0.n) ∧ w'.cell? ⟨ab, aoff + 2, none⟩ = some (.slice T0.A T0.args.length T0.c)) ∧ (w'.cell? ⟨ab, aoff + 3, none⟩ = some (.int .i64 T1.op) ∧ w'.cell? ⟨ab, aoff + 3 + 1, none⟩ = some (.int .i64 T1.n) ∧ w'.cell? ⟨ab, aoff + 3 + 2, none⟩ = some (.slice T1.A T1.args.length T1.c)))
    (first | exact hS _ hdS | exact hS _ hb3S | exact hS _ hb4S | exact hS _ hb9S | exact hS _ hbS)
    (first
      | (go_at_call 119; refine (TS.bAnd_sw hswE0 hswE1 w4).mono ?_; rintro e w5 ⟨a9, b9, c9, d9, rfl, hsw9, hb9'⟩; have hb9 := hb4.trans (hb9'.mono hb4.size); have hb9S : Below (w.heap.size + 1) W2 w5 := hb9.mono (by omega); have hkR := HCR.out w5 hb9; obtain ⟨⟨y0, y1, y2, y3⟩, z0, z1, z2, z3⟩ := blkT hkR; obtain ⟨q9, q10⟩ := store4 hkR (.int .u64 (a9 : Nat)) (.int .u64 (b9 : Nat)) (.int .u64 (c9 : Nat)) (.int .u64 (d9 : Nat)); have hbS := hb9S.trans (below_grown q10 (Nat.le_refl _) (by have := hb9.size; omega)))
      | (go_at_call 74; first | (refine (HE1.out w3 (HB.out.trans (hb3.mono (by omega)))).mono ?_; rintro e w4 ⟨a4, b4, c4, d4, rfl, hswE1, hb4'⟩; have hb4 : Below W2.heap.size W2 w4 := hb3.trans (hb4'.mono hb3.size); have hb4S : Below (w.heap.size + 1) W2 w4 := hb4.mono (by omega)) | (refine hel0.mono ?_; rintro e w3 ⟨a3, b3, c3, d3, rfl, hswE0, hb3'⟩; have hb3 : Below W2.heap.size W2 w3 := ((Below.refl W2.heap.size W2).drew).trans hb3'; have hb3S : Below (w.heap.size + 1) W2 w3 := hb3.mono (by omega))))
  go_wp2
  have hbE := HB.out.trans (hbS.mono (by omega))
  generalize ((((w5.setCell ⟨w.heap.size + 1, 0, none⟩ (.int .u64 (a9 : Nat))).setCell ⟨w.heap.size + 1, 1, none⟩ (.int .u64 (b9 : Nat))).setCell ⟨w.heap.size + 1, 2, none⟩ (.int .u64 (c9 : Nat))).setCell ⟨w.heap.size + 1, 3, none⟩ (.int .u64 (d9 : Nat))) = w10 at q9 hbE ⊢
  obtain ⟨⟨t0, t1, t2, t3⟩, -⟩ := blkT q9
  refine bodyPost_ret (v := _) (by simp [results, Tryz.f74, go_sem, t0, t1, t2, t3]) rfl ⟨a9, b9, c9, d9, rfl, hsw9, hbE⟩

set_option maxRecDepth 100000 in
set_option maxHeartbeats 4000000 in
theorem tru_or {tb : Nat} (nn : Int) (A : Option Addr) (c : Nat) (args : List MT) (w : World) (hT : (MT.mk 5 nn A c args).In w.heap.size w) (hlen : 1 < args.length) (q0 q1 : Nat → Bool)
    (hE0 : ∀ w', Below w.heap.size w w' → Calls Tryz.prog 74 #[.pointer (some ⟨tb, 0, none⟩), args[0].val] w' (RetS3 q0 w'))
    (hE1 : ∀ w', Below w.heap.size w w' → Calls Tryz.prog 74 #[.pointer (some ⟨tb, 0, none⟩), args[1].val] w' (RetS3 q1 w')) :
    Calls Tryz.prog 74 #[.pointer (some ⟨tb, 0, none⟩), (MT.mk 5 nn A c args).val] w (RetS3 (fun x => q0 x || q1 x) w) := by
  rw [MT.In] at hT
  obtain ⟨hlc, hc, hr, hrow⟩ := hT
  obtain ⟨W1, W2, hW1, hs1, hW2, hs2, hB, hcc, hcr⟩ := tru_blks (.mk 5 nn A c args) w
  simp only [MT.op, MT.n, MT.A, MT.args, MT.c] at hcc hW1
  obtain ⟨ab, aoff, rfl, hab, g00, g01, g02⟩ := elem3 hr hB (show 0 < args.length by omega)
  simp only [Nat.zero_mul, Nat.add_zero] at g00 g01 g02
  have habB : ab < w.heap.size + 1 := by omega
  obtain ⟨ab', aoff', he, -, g10, g11, g12⟩ := elem3 hr hB (show 1 < args.length by omega)
  cases he
  simp only [Nat.reduceMul] at g10 g11 g12
  obtain ⟨T0, hT0⟩ : ∃ t, args[0] = t := ⟨_, rfl⟩
  rw [hT0] at g00 g01 g02 hE0
  obtain ⟨T1, hT1⟩ : ∃ t, args[1] = t := ⟨_, rfl⟩
  rw [hT1] at g10 g11 g12 hE1
  obtain ⟨c0, c1, c2⟩ := hcc W2 (Below.refl _ _)
  have hS : ∀ w', Below (w.heap.size + 1) W2 w' → w'.cell? ⟨w.heap.size, 2, none⟩ = some (.slice (some ⟨ab, aoff, none⟩) args.length c) ∧ (w'.cell? ⟨ab, aoff, none⟩ = some (.int .i64 T0.op) ∧ w'.cell? ⟨ab, aoff + 1, none⟩ = some (.int .i64 T0.n) ∧ w'.cell? ⟨ab, aoff + 2, none⟩ = some (.slice T0.A T0.args.length T0.c)) ∧ (w'.cell? ⟨ab, aoff + 3, none⟩ = some (.int .i64 T1.op) ∧ w'.cell? ⟨ab, aoff + 3 + 1, none⟩ = some (.int .i64 T1.n) ∧ w'.cell? ⟨ab, aoff + 3 + 2, none⟩ = some (.slice T1.A T1.args.length T1.c)) := fun w' hb => ⟨(hb.cell (p := ⟨w.heap.size, 2, none⟩) (Nat.lt_succ_self _)).trans c2, ⟨(hb.cell (p := ⟨ab, aoff, none⟩) habB).trans g00, (hb.cell (p := ⟨ab, aoff + 1, none⟩) habB).trans g01, (hb.cell (p := ⟨ab, aoff + 2, none⟩) habB).trans g02⟩, ⟨(hb.cell (p := ⟨ab, aoff + 3, none⟩) habB).trans g10, (hb.cell (p := ⟨ab, aoff + 3 + 1, none⟩) habB).trans g11, (hb.cell (p := ⟨ab, aoff + 3 + 2, none⟩) habB).trans g12⟩⟩
  have hd : Below W2.heap.size W2 W2.drew := (Below.refl _ W2).drew
  have hdS : Below (w.heap.size + 1) W2 W2.drew := hd.mono (by omega)
  have hel0 := hE0 W2.drew hB.drew
  have hlI : (0 : Int) < args.length := by omega
  have hlI1 : (1 : Int) < args.length := by omega
  have HB := Lib.hid hB
  have HCR := Lib.hid hcr
  have HE1 := Lib.hid hE1
  simp only [MT.val, MT.op, MT.n, MT.A, MT.args, MT.c] at hel0 HE1 ⊢
  clear hE0 hE1 hr hrow hB hcr hcc hlc hc g00 g01 g02 hT0 g10 g11 g12 hT1 hd
  go_enter Tryz.func74, Tryz.ntmps74
  go_wp2_with fail
  clear c0 c1 c2
  go_region_held (fun w' => w'.cell? ⟨w.heap.size, 2, none⟩ = some (.slice (some ⟨ab, aoff, none⟩) args.length c) ∧ (w'.cell? ⟨ab, aoff, none⟩ = some (.int .i64 T0.op) ∧ w'.cell? ⟨ab, aoff + 1, none⟩ = some (.int .i64 T0.n) ∧ w'.cell? ⟨ab, aoff + 2, none⟩ = some (.slice T0.A T0.args.length T0.c)) ∧ (w'.cell? ⟨ab, aoff + 3, none⟩ = some (.int .i64 T1.op) ∧ w'.cell? ⟨ab, aoff + 3 + 1, none⟩ = some (.int .i64 T1.n) ∧ w'.cell? ⟨ab, aoff + 3 + 2, none⟩ = some (.slice T1.A T1.args.length T1.c)))
    (first | exact hS _ hdS | exact hS _ hb3S | exact hS _ hb4S | exact hS _ hb9S | exact hS _ hbS)
    (first
      | (go_at_call 120; refine (TS.bOr_sw hswE0 hswE1 w4).mono ?_; rintro e w5 ⟨a9, b9, c9, d9, rfl, hsw9, hb9'⟩; have hb9 := hb4.trans (hb9'.mono hb4.size); have hb9S : Below (w.heap.size + 1) W2 w5 := hb9.mono (by omega); have hkR := HCR.out w5 hb9; obtain ⟨⟨y0, y1, y2, y3⟩, z0, z1, z2, z3⟩ := blkT hkR; obtain ⟨q9, q10⟩ := store4 hkR (.int .u64 (a9 : Nat)) (.int .u64 (b9 : Nat)) (.int .u64 (c9 : Nat)) (.int .u64 (d9 : Nat)); have hbS := hb9S.trans (below_grown q10 (Nat.le_refl _) (by have := hb9.size; omega)))
      | (go_at_call 74; first | (refine (HE1.out w3 (HB.out.trans (hb3.mono (by omega)))).mono ?_; rintro e w4 ⟨a4, b4, c4, d4, rfl, hswE1, hb4'⟩; have hb4 : Below W2.heap.size W2 w4 := hb3.trans (hb4'.mono hb3.size); have hb4S : Below (w.heap.size + 1) W2 w4 := hb4.mono (by omega)) | (refine hel0.mono ?_; rintro e w3 ⟨a3, b3, c3, d3, rfl, hswE0, hb3'⟩; have hb3 : Below W2.heap.size W2 w3 := ((Below.refl W2.heap.size W2).drew).trans hb3'; have hb3S : Below (w.heap.size + 1) W2 w3 := hb3.mono (by omega))))
  go_wp2
  have hbE := HB.out.trans (hbS.mono (by omega))
  generalize ((((w5.setCell ⟨w.heap.size + 1, 0, none⟩ (.int .u64 (a9 : Nat))).setCell ⟨w.heap.size + 1, 1, none⟩ (.int .u64 (b9 : Nat))).setCell ⟨w.heap.size + 1, 2, none⟩ (.int .u64 (c9 : Nat))).setCell ⟨w.heap.size + 1, 3, none⟩ (.int .u64 (d9 : Nat))) = w10 at q9 hbE ⊢
  obtain ⟨⟨t0, t1, t2, t3⟩, -⟩ := blkT q9
  refine bodyPost_ret (v := _) (by simp [results, Tryz.f74, go_sem, t0, t1, t2, t3]) rfl ⟨a9, b9, c9, d9, rfl, hsw9, hbE⟩

end Go.Proofs.YtndkcimajeofcaaGreatDoor

namespace Go.Proofs.YtndkcimajeofcaaGreatDoor
open Go.RowKit
attribute [local go_sem ↓] Go.wp_at_zero Go.wp_at_succ

/-- What the walk of a marked node reads, in every world behind its two blocks. -/
theorem tru_pre {tb lo : Nat} {n : NM} {Ts : List MT} (op nn : Int) (A : Option Addr) (c : Nat) (args : List MT) (w : World) (ht : TF w tb lo n Ts) (hG : G w) (hn : n.In w.heap.size w) (hok : n.ok = true) (m : Tr) (hmw : m.wfT n.C.l.length n.R.l.length = true) (hms : m.size ≤ 100000)
    (hcov : (look (Ts.map (strT n)) (m.str n.C.l n.R.l)).isSome = true) :
    ∃ (W1 W2 : World) (P og a b d e s0 s1 s2 s3 : Nat), w.alloc (.cells #[.int .i64 op, .int .i64 nn, .slice A args.length c] 33) = W1 ∧ W1.alloc (.cells #[.int .u64 0, .int .u64 0, .int .u64 0, .int .u64 0] 126) = W2 ∧ W1.heap.size = w.heap.size + 1 ∧ W2.heap.size = w.heap.size + 1 + 1 ∧ Below w.heap.size w W2 ∧
      placeN (Ts.map (strT n)) (m.str n.C.l n.R.l) = P ∧ P < Ts.length ∧ SW (ownF Ts.length P) a b d e ∧ SW (fun x => decide (x < 2 ^ Ts.length)) s0 s1 s2 s3 ∧
      (∀ w', Below (w.heap.size + 1) W2 w' → (w'.cell? ⟨w.heap.size, 0, none⟩ = some (.int .i64 op) ∧ w'.cell? ⟨w.heap.size, 1, none⟩ = some (.int .i64 nn) ∧ w'.cell? ⟨w.heap.size, 2, none⟩ = some (.slice A args.length c)) ∧
        (w'.cell? ⟨tb, 9, none⟩ = some (.slice (some ⟨og, 0, none⟩) Ts.length Ts.length)) ∧ (w'.cell? ⟨og, P * 4, none⟩ = some (.int .u64 (a : Nat)) ∧ w'.cell? ⟨og, P * 4 + 1, none⟩ = some (.int .u64 (b : Nat)) ∧ w'.cell? ⟨og, P * 4 + 2, none⟩ = some (.int .u64 (d : Nat)) ∧ w'.cell? ⟨og, P * 4 + 3, none⟩ = some (.int .u64 (e : Nat))) ∧
        (w'.cell? ⟨tb, 5, none⟩ = some (.int .u64 (s0 : Nat)) ∧ w'.cell? ⟨tb, 6, none⟩ = some (.int .u64 (s1 : Nat)) ∧ w'.cell? ⟨tb, 7, none⟩ = some (.int .u64 (s2 : Nat)) ∧ w'.cell? ⟨tb, 8, none⟩ = some (.int .u64 (s3 : Nat)))) ∧
      (∀ w', Below W2.heap.size W2 w' → w'.heap[w.heap.size + 1]? = some (.cells #[.int .u64 0, .int .u64 0, .int .u64 0, .int .u64 0] 126)) ∧
      (∀ (w3 W4 : World) (T' : MT), T'.tr = m → New W2.heap.size w3 T' → Below W2.heap.size W2 w3 → w3.alloc (.cells #[.int .i64 T'.op, .int .i64 T'.n, .slice T'.A T'.args.length T'.c] 33) = W4 →
        (W4.cell? ⟨w3.heap.size, 0, none⟩ = some (.int .i64 T'.op) ∧ W4.cell? ⟨w3.heap.size, 1, none⟩ = some (.int .i64 T'.n) ∧ W4.cell? ⟨w3.heap.size, 2, none⟩ = some (.slice T'.A T'.args.length T'.c)) ∧ Below W2.heap.size W2 W4 ∧
        Calls Tryz.prog 117 #[.pointer (some ⟨tb, 0, none⟩), .agg #[.int .i64 T'.op, .int .i64 T'.n, .slice T'.A T'.args.length T'.c]] W4 fun e w' => e = .returned (.tuple #[.int .i64 (P : Nat), .bool true]) ∧ Below W4.heap.size W4 w') := by
  obtain ⟨W1, W2, hW1, hs1, hW2, hs2, hB, hcc, hcr⟩ := tru_blks (.mk op nn A c args) w
  simp only [MT.op, MT.n, MT.A, MT.args, MT.c] at hcc hW1
  have hP : placeN (Ts.map (strT n)) (m.str n.C.l n.R.l) < Ts.length := by have := look_lt hcov; rwa [List.length_map] at this
  obtain ⟨a, b, d, e, hsw⟩ := sw_of (ownF Ts.length (placeN (Ts.map (strT n)) (m.str n.C.l n.R.l)))
  obtain ⟨og, s0, s1, s2, s3, A0, c0, hst, -⟩ := ht.cells
  obtain ⟨mb, og, s0, s1, s2, s3, v, h1, h2, h3, h4, h5, h6⟩ := id ht
  refine ⟨W1, W2, _, og, a, b, d, e, s0, s1, s2, s3, hW1, hW2, hs1, hs2, hB, rfl, hP, hsw, h2, fun w' hb => ⟨⟨(hb.cell (p := ⟨w.heap.size, 0, none⟩) (Nat.lt_succ_self _)).trans (hcc W2 (Below.refl _ _)).1, (hb.cell (p := ⟨w.heap.size, 1, none⟩) (Nat.lt_succ_self _)).trans (hcc W2 (Below.refl _ _)).2.1, (hb.cell (p := ⟨w.heap.size, 2, none⟩) (Nat.lt_succ_self _)).trans (hcc W2 (Below.refl _ _)).2.2⟩, ?_⟩, hcr, fun w3 W4 T' hT' hnew hb3 hW4 => ?_⟩
  · have hbw : Below w.heap.size w w' := hB.trans (hb.mono (by omega))
    have k1 := blk_lat0 h1 hbw
    exact ⟨cell_of_blk k1 9, TS.MRow.cell (h3.later hbw) hP hsw, cell_of_blk k1 5, cell_of_blk k1 6, cell_of_blk k1 7, cell_of_blk k1 8⟩
  · have hB4 : Below w3.heap.size w3 W4 := by rw [← hW4]; exact (Below.refl _ _).alloc (Nat.le_refl _) _
    have hk4 : W4.heap[w3.heap.size]? = some (.cells #[.int .i64 T'.op, .int .i64 T'.n, .slice T'.A T'.args.length T'.c] 33) := by rw [← hW4]; exact World.alloc_heap_new' w3 _
    have hb4 : Below W2.heap.size W2 W4 := hb3.trans (hB4.mono hb3.size)
    have hbw : Below w.heap.size w W4 := hB.trans (hb4.mono hB.size)
    obtain ⟨q, -⟩ := res3 hk4
    have hwt : T'.tr.wfT n.C.l.length n.R.l.length = true := by rw [hT']; exact hmw
    refine ⟨q, hb4, ?_⟩
    have := (ht.later hbw).place (hG.later hbw) (hn.later hbw) T' (hnew.1.later hB4) (nmb_of hok) (pr_of hok hwt (by rw [hT']; exact hms))
    have hs : strT n T' = m.str n.C.l n.R.l := by rw [strT, hT']
    rw [hs, hcov] at this
    exact this

set_option maxRecDepth 100000 in
set_option maxHeartbeats 4000000 in
theorem tru_own {tb lo : Nat} {n : NM} {Ts : List MT} (op nn : Int) (A : Option Addr) (c : Nat) (args : List MT) (w : World) (hop : op = 0 ∨ op = 6) (ht : TF w tb lo n Ts) (hG : G w) (hn : n.In w.heap.size w) (hok : n.ok = true) (hT : (MT.mk op nn A c args).In w.heap.size w) (hP : NodeOK n (.mk op nn A c args)) (m : Tr) (hm : markT (MT.mk op nn A c args).tr = some m)
    (hcov : (look (Ts.map (strT n)) (m.str n.C.l n.R.l)).isSome = true) :
    Calls Tryz.prog 74 #[.pointer (some ⟨tb, 0, none⟩), (MT.mk op nn A c args).val] w (RetS3 (ownF Ts.length (placeN (Ts.map (strT n)) (m.str n.C.l n.R.l))) w) := by
  have hmw := mark_wf hP.1 hm
  have hms := hP.2
  obtain ⟨W1, W2, P, og, a, b, d, e, s0, s1, s2, s3, hW1, hW2, hs1, hs2, hB, hPe, hPl, hsw, -, hS, hcr, hpl⟩ := tru_pre op nn A c args w ht hG hn hok m hmw.1 (by omega) hcov
  rw [hPe]
  have hma := markAt_any (.mk op nn A c args) W2 (hG.later hB) (hT.later hB) (WF_of_wfT _ hP.1)
  rw [hm] at hma
  have hPI : (P : Int) < Ts.length := by omega
  have q1 : (op == 1) = false := by simp; omega
  have q2 : (op == 2) = false := by simp; omega
  have q3 : (op == 3) = false := by simp; omega
  have q4 : (op == 4) = false := by simp; omega
  have q5 : (op == 5) = false := by simp; omega
  have q7 : (op == 7) = false := by simp; omega
  obtain ⟨⟨c0, c1, c2⟩, -⟩ := hS W2 (Below.refl _ _)
  have HB := Lib.hid hB
  have HS := Lib.hid hS
  have HCR := Lib.hid hcr
  have HPL := Lib.hid hpl
  have HSW := Lib.hid hsw
  simp only [MT.val, MT.op, MT.n, MT.A, MT.args, MT.c] at hma ⊢
  clear hop ht hG hn hok hT hP hm hcov hmw hms hB hS hcr hpl hsw hPe
  go_enter Tryz.func74, Tryz.ntmps74
  go_wp2_with (first
    | (go_at_call 117; refine hq.mono ?_; clear hq; rintro e0 w5 ⟨rfl, hb5'⟩; have hb5 : Below W2.heap.size W2 w5 := hb4.trans (hb5'.mono hb4.size); obtain ⟨⟨c0, c1, c2⟩, d9, ⟨x0, x1, x2, x3⟩, -⟩ := HS.out w5 (hb5.mono (by omega)); obtain ⟨⟨r0, r1, r2, r3⟩, f0, f1, f2, f3⟩ := blkT (HCR.out w5 hb5))
    | (go_at_call 111; refine hma.mono ?_; clear hma; rintro e0 w3 ⟨T', rfl, hT', hnew, hb3⟩; obtain ⟨W4, hW4, hB4, hs4, hk4⟩ := newBlk w3 _ rfl #[.int .i64 T'.op, .int .i64 T'.n, .slice T'.A T'.args.length T'.c] 33; obtain ⟨⟨p2, p3, p4⟩, hb4, hq⟩ := HPL.out w3 W4 T' hT' hnew hb3 hW4; clear hT' hnew c0 c1 c2))
  obtain ⟨k1, k2⟩ := store4 (HCR.out w5 hb5) (.int .u64 (a : Nat)) (.int .u64 (b : Nat)) (.int .u64 (d : Nat)) (.int .u64 (e : Nat))
  have hbE := HB.out.trans ((hb5.mono (by omega)).trans (below_grown k2 (by omega) (by have := HB.out.size; have := hb5.size; omega)))
  generalize ((((w5.setCell ⟨w.heap.size + 1, 0, none⟩ (.int .u64 (a : Nat))).setCell ⟨w.heap.size + 1, 1, none⟩ (.int .u64 (b : Nat))).setCell ⟨w.heap.size + 1, 2, none⟩ (.int .u64 (d : Nat))).setCell ⟨w.heap.size + 1, 3, none⟩ (.int .u64 (e : Nat))) = w10 at k1 hbE ⊢
  obtain ⟨⟨t0, t1, t2, t3⟩, -⟩ := blkT k1
  refine bodyPost_ret (v := _) (by simp [results, Tryz.f74, go_sem, t0, t1, t2, t3]) rfl ⟨a, b, d, e, rfl, HSW.out, hbE⟩

set_option maxRecDepth 100000 in
set_option maxHeartbeats 4000000 in
theorem tru_all {tb lo : Nat} {n : NM} {Ts : List MT} (nn : Int) (A : Option Addr) (c : Nat) (args : List MT) (w : World) (ht : TF w tb lo n Ts) (hG : G w) (hn : n.In w.heap.size w) (hok : n.ok = true) (hT : (MT.mk 7 nn A c args).In w.heap.size w) (hP : NodeOK n (.mk 7 nn A c args)) (m : Tr) (hm : markT (MT.mk 7 nn A c args).tr = some m)
    (hcov : (look (Ts.map (strT n)) (m.str n.C.l n.R.l)).isSome = true) :
    Calls Tryz.prog 74 #[.pointer (some ⟨tb, 0, none⟩), (MT.mk 7 nn A c args).val] w (RetS3 (fun x => decide (x < 2 ^ Ts.length) && !ownF Ts.length (placeN (Ts.map (strT n)) (m.str n.C.l n.R.l)) x) w) := by
  have hmw := mark_wf hP.1 hm
  have hms := hP.2
  obtain ⟨W1, W2, P, og, a, b, d, e, s0, s1, s2, s3, hW1, hW2, hs1, hs2, hB, hPe, hPl, hsw, hsw0, hS, hcr, hpl⟩ := tru_pre 7 nn A c args w ht hG hn hok m hmw.1 (by omega) hcov
  rw [hPe]
  have hma := markAt_any (.mk 7 nn A c args) W2 (hG.later hB) (hT.later hB) (WF_of_wfT _ hP.1)
  rw [hm] at hma
  have hPI : (P : Int) < Ts.length := by omega
  obtain ⟨⟨c0, c1, c2⟩, -⟩ := hS W2 (Below.refl _ _)
  have HB := Lib.hid hB
  have HS := Lib.hid hS
  have HCR := Lib.hid hcr
  have HPL := Lib.hid hpl
  have HSW := Lib.hid hsw
  have HSW0 := Lib.hid hsw0
  simp only [MT.val, MT.op, MT.n, MT.A, MT.args, MT.c] at hma ⊢
  clear ht hG hn hok hT hP hm hcov hmw hms hB hS hcr hpl hsw hsw0 hPe
  go_enter Tryz.func74, Tryz.ntmps74
  go_wp2_with (first
    | (go_at_call 117; refine hq.mono ?_; clear hq; rintro e0 w5 ⟨rfl, hb5'⟩; have hb5 : Below W2.heap.size W2 w5 := hb4.trans (hb5'.mono hb4.size); obtain ⟨⟨c0, c1, c2⟩, -⟩ := HS.out w5 (hb5.mono (by omega)))
    | (go_at_call 111; refine hma.mono ?_; clear hma; rintro e0 w3 ⟨T', rfl, hT', hnew, hb3⟩; obtain ⟨W4, hW4, hB4, hs4, hk4⟩ := newBlk w3 _ rfl #[.int .i64 T'.op, .int .i64 T'.n, .slice T'.A T'.args.length T'.c] 33; obtain ⟨⟨p2, p3, p4⟩, hb4, hq⟩ := HPL.out w3 W4 T' hT' hnew hb3 hW4; clear hT' hnew c0 c1 c2))
  have hd : Below W2.heap.size W2 w5.drew := hb5.drew
  have hdS : Below (w.heap.size + 1) W2 w5.drew := hd.mono (by omega)
  clear c0 c1 c2 p2 p3 p4
  go_region_held (fun w' => ((w'.cell? ⟨tb, 9, none⟩ = some (.slice (some ⟨og, 0, none⟩) Ts.length Ts.length)) ∧ (w'.cell? ⟨og, P * 4, none⟩ = some (.int .u64 (a : Nat)) ∧ w'.cell? ⟨og, P * 4 + 1, none⟩ = some (.int .u64 (b : Nat)) ∧ w'.cell? ⟨og, P * 4 + 2, none⟩ = some (.int .u64 (d : Nat)) ∧ w'.cell? ⟨og, P * 4 + 3, none⟩ = some (.int .u64 (e : Nat))) ∧ (w'.cell? ⟨tb, 5, none⟩ = some (.int .u64 (s0 : Nat)) ∧ w'.cell? ⟨tb, 6, none⟩ = some (.int .u64 (s1 : Nat)) ∧ w'.cell? ⟨tb, 7, none⟩ = some (.int .u64 (s2 : Nat)) ∧ w'.cell? ⟨tb, 8, none⟩ = some (.int .u64 (s3 : Nat)))))
    (first | exact (HS.out _ hdS).2 | exact (HS.out _ hb9S).2 | exact (HS.out _ hbS).2)
    (first
      | (go_at_call 118; refine (TS.bMinus_sw HSW0.out HSW.out w5.drew).mono ?_; rintro e0 w6 ⟨a9, b9, c9, d9, rfl, hsw9, hb9'⟩; have hb9 : Below W2.heap.size W2 w6 := hd.trans (hb9'.mono hd.size); have hkR := HCR.out w6 hb9; obtain ⟨⟨y0, y1, y2, y3⟩, z0, z1, z2, z3⟩ := blkT hkR; obtain ⟨k1, k2⟩ := store4 hkR (.int .u64 (a9 : Nat)) (.int .u64 (b9 : Nat)) (.int .u64 (c9 : Nat)) (.int .u64 (d9 : Nat)); have hb9S : Below (w.heap.size + 1) W2 w6 := hb9.mono (by omega); have hbS := hb9S.trans (below_grown k2 (Nat.le_refl _) (by have := hb9.size; omega))))
  have hbE := HB.out.trans (hbS.mono (by omega))
  generalize ((((w6.setCell ⟨w.heap.size + 1, 0, none⟩ (.int .u64 (a9 : Nat))).setCell ⟨w.heap.size + 1, 1, none⟩ (.int .u64 (b9 : Nat))).setCell ⟨w.heap.size + 1, 2, none⟩ (.int .u64 (c9 : Nat))).setCell ⟨w.heap.size + 1, 3, none⟩ (.int .u64 (d9 : Nat))) = w10 at k1 hbE ⊢
  obtain ⟨⟨t0, t1, t2, t3⟩, -⟩ := blkT k1
  go_wp2
  refine bodyPost_ret (v := _) (by simp [results, Tryz.f74, go_sem, t0, t1, t2, t3]) rfl ⟨a9, b9, c9, d9, rfl, hsw9, hbE⟩
end Go.Proofs.YtndkcimajeofcaaGreatDoor

namespace Go.Proofs.YtndkcimajeofcaaGreatDoor
open Go.RowKit

theorem truL_map (C R : List ByteArray) (S : List (List UInt8)) (m : Nat) : ∀ l : List Tr, truL C R S m l = l.map (truT C R S m)
  | [] => rfl
  | t :: l => by rw [truL, truL_map C R S m l]; rfl
theorem argLen {C R : Nat} {op nn : Int} {k : Nat} (h : wfB C R op nn k = true) : 0 ≤ op ∧ op < 8 ∧ (k : Int) = arityF op := by
  simp only [wfB, Bool.and_eq_true, decide_eq_true_eq, beq_iff_eq] at h
  exact ⟨h.1, h.2.1, h.2.2.1⟩
theorem tTrue_any {tb lo : Nat} {n : NM} {Ts : List MT} (hok : n.ok = true) (T : MT) : ∀ w : World, TF w tb lo n Ts → G w → n.In w.heap.size w → T.In w.heap.size w → NodeOK n T → covT n.C.l n.R.l (Ts.map (strT n)) T.tr = true →
    Calls Tryz.prog 74 #[.pointer (some ⟨tb, 0, none⟩), T.val] w (RetS3 (truT n.C.l n.R.l (Ts.map (strT n)) Ts.length T.tr) w) := by
  induction T using MT.induct with
  | h op nn A c args ih =>
    intro w ht hG hn hT hP hc
    have hP0 := hP
    have hTT := hT
    have hPE := each_ok _ hP
    rw [MT.tr_mk, covT, Bool.and_eq_true] at hc
    obtain ⟨hw, hwa⟩ := wf_node hP.1
    obtain ⟨h0, h8, hl⟩ := argLen hw
    rw [MT.In] at hT
    have hk : ∀ k (hk : k < args.length) w', Below w.heap.size w w' → Calls Tryz.prog 74 #[.pointer (some ⟨tb, 0, none⟩), args[k].val] w' (RetS3 (truT n.C.l n.R.l (Ts.map (strT n)) Ts.length args[k].tr) w') := fun k hk w' hb => by
      refine ih k hk w' (ht.later hb) (hG.later hb) (hn.later hb) ((MT.InAll.at_ hT.2.2.2 k hk).later hb) ⟨hwa _ (List.getElem_mem hk), ?_⟩ (covL_mem hc.2 _ (List.mem_map_of_mem (List.getElem_mem hk)))
      have h2 := hP0.2
      rw [MT.tr_mk, Tr.size] at h2
      have := sizes_mem (List.mem_map_of_mem (f := MT.tr) (List.getElem_mem hk))
      omega
    rw [MT.tr_mk, truT, truL_map, List.map_map]
    have hmk : op = 0 ∨ op = 6 ∨ op = 7 → ∃ m, markT (MT.mk op nn A c args).tr = some m := fun h => by
      rw [MT.tr_mk, markT]
      rcases h with rfl | rfl | rfl
      · exact ⟨_, rfl⟩
      · exact ⟨_, rfl⟩
      · exact ⟨_, rfl⟩
    have hS : ∀ m, markT (MT.mk op nn A c args).tr = some m → markS n.C.l n.R.l (.mk op nn (args.map MT.tr)) = m.str n.C.l n.R.l ∧ (look (Ts.map (strT n)) (m.str n.C.l n.R.l)).isSome = true := fun m hm => by
      rw [MT.tr_mk] at hm
      have := hc.1
      rw [covN, hm] at this
      exact ⟨by rw [markS, hm], this⟩
    rcases (show op = 1 ∨ op = 2 ∨ op = 3 ∨ op = 4 ∨ op = 5 ∨ op = 7 ∨ op = 0 ∨ op = 6 by omega) with rfl | rfl | rfl | rfl | rfl | rfl | hop
    · exact tru_top nn A c args w ht
    · exact tru_bot tb nn A c args w
    · obtain ⟨x, rfl⟩ := List.length_eq_one_iff.1 (show args.length = 1 by simp [arityF] at hl; omega)
      exact tru_not nn A c [x] w ht hTT (by simp) _ (hk 0 (by simp))
    · have h2 : args.length = 2 := by simp [arityF] at hl; omega
      obtain ⟨x, y, rfl⟩ : ∃ x y, args = [x, y] := by match args, h2 with | [x, y], _ => exact ⟨x, y, rfl⟩
      exact tru_and nn A c [x, y] w hTT (by simp) _ _ (hk 0 (by simp)) (hk 1 (by simp))
    · have h2 : args.length = 2 := by simp [arityF] at hl; omega
      obtain ⟨x, y, rfl⟩ : ∃ x y, args = [x, y] := by match args, h2 with | [x, y], _ => exact ⟨x, y, rfl⟩
      exact tru_or nn A c [x, y] w hTT (by simp) _ _ (hk 0 (by simp)) (hk 1 (by simp))
    · obtain ⟨m, hm⟩ := hmk (by omega)
      obtain ⟨e1, e2⟩ := hS m hm
      rw [e1]
      exact tru_all nn A c args w ht hG hn hok hTT hP0 m hm e2
    · obtain ⟨m, hm⟩ := hmk (by omega)
      obtain ⟨e1, e2⟩ := hS m hm
      rw [e1]
      have := tru_own op nn A c args w hop ht hG hn hok hTT hP0 m hm e2
      rcases hop with rfl | rfl
      · exact this
      · exact this
end Go.Proofs.YtndkcimajeofcaaGreatDoor

namespace Go.Proofs.YtndkcimajeofcaaGreatDoor
open Go.RowKit
attribute [local go_sem ↓] Go.wp_at_zero Go.wp_at_succ

theorem chk_node {n : NM} {T : MT} (h : (checkF n T == 0) = true) : n.ok = true ∧ NodeOK n T ∧ T.tr.size ≤ 400 := by
  rw [checkF_eq] at h
  unfold checkT at h
  cases hk : n.ok with
  | false => rw [hk] at h; cases h
  | true =>
    cases hv : validT n.C.l.length n.R.l.length T.tr with
    | false => rw [hk, hv] at h; cases h
    | true =>
      have hs : T.tr.size ≤ 400 := by rw [validT, Bool.and_eq_true] at hv; simpa using hv.1
      rw [validT_split, Bool.and_eq_true] at hv
      exact ⟨rfl, ⟨hv.2, by omega⟩, hs⟩
theorem kchk_ok {b : BN} (h : kcheckB b = true) : b.N.ok = true ∧ (∀ T ∈ b.cons, NodeOK b.N T) ∧ b.I.length ≤ 60 ∧ b.F.length ≤ 60 ∧ b.R.l.length ≤ 60 := by
  simp only [kcheckB, Bool.and_eq_true, decide_eq_true_eq, fitB, List.all_eq_true] at h
  exact ⟨h.1, fun T hT => (chk_node (h.2.2.2.1 T hT)).2.1, by omega, by omega, by omega⟩
/-- The marks of a base with further concepts, as trees. -/
def marksF (b : BN) (l : List MT) : List Tr := mkL b.N.C.l b.N.R.l ((b.cons ++ l).flatMap MT.nodes)
/-- What hier.Marks says. -/
def hmC (b : BN) (l : List MT) : Int := if mcheckC b l = 0 then (if (marksF b l).length ≤ 8 then (if (marksF b l).all (fun t => checkT b.N t == 0) then 0 else 2) else 3) else mcheckC b l
theorem mcheck_ok {b : BN} {l : List MT} (h : mcheckC b l = 0) : kcheckB b = true ∧ ∀ T ∈ l, NodeOK b.N T := by
  unfold mcheckC at h
  cases hk : kcheckB b with
  | false => rw [hk] at h; cases h
  | true =>
    rw [hk, if_pos rfl] at h
    cases ha : l.all (okC b) with
    | false => rw [ha] at h; cases h
    | true =>
      rw [List.all_eq_true] at ha
      exact ⟨rfl, fun T hT => (chk_node (ha T hT)).2.1⟩
end Go.Proofs.YtndkcimajeofcaaGreatDoor

namespace Go.Proofs.YtndkcimajeofcaaGreatDoor
open Go.RowKit
attribute [local go_sem ↓] Go.wp_at_zero Go.wp_at_succ

/-- What one asks of a base and further concepts so that the calls below can be walked. -/
structure HIn (b : BN) (mo : ML) (w : World) : Prop where
  g : G w
  gt : GT w
  bi : b.In w.heap.size w
  mi : mo.In w.heap.size w
  hI : b.I.length ≤ 1000
  hR : b.R.l.length ≤ 1000
  hF : b.F.length ≤ 1000
  hL : b.L.l.length ≤ 1000
  hN : b.N.R.l.length ≤ 1000
  sz : ∀ T ∈ b.cons, T.tr.size ≤ 1000000
  szm : ∀ T ∈ mo.l, T.tr.size ≤ 1000000
  lm : mo.l.length ≤ 1000
theorem HIn.later {b : BN} {mo : ML} {w w' : World} (h : HIn b mo w) (hb : Below w.heap.size w w') : HIn b mo w' :=
  ⟨h.g.later hb, h.gt.later hb, h.bi.later hb, h.mi.later hb, h.hI, h.hR, h.hF, h.hL, h.hN, h.sz, h.szm, h.lm⟩
theorem HIn.check {b : BN} {mo : ML} {w : World} (h : HIn b mo w) : Calls Tryz.prog 66 #[b.val, .slice mo.A mo.l.length mo.c] w fun e w' => e = .returned (.int .i64 (mcheckC b mo.l)) ∧ Below w.heap.size w w' :=
  mCheck_any b mo w h.gt.ga h.bi h.mi h.hI h.hR h.hF h.hL h.hN h.sz h.szm (by have := h.lm; omega)
theorem HIn.of {b : BN} {mo : ML} {w : World} (h : HIn b mo w) (hc : mcheckC b mo.l = 0) : Calls Tryz.prog 67 #[b.val, .slice mo.A mo.l.length mo.c] w (RetOf b.N (marksF b mo.l) w) := by
  obtain ⟨h1, h2⟩ := mcheck_ok hc
  obtain ⟨k1, k2, k3, k4, -⟩ := kchk_ok h1
  exact mOf_any b mo w h.g h.gt h.bi h.mi k1 (fun T hT => by rcases List.mem_append.1 hT with x | x; exact k2 T x; exact h2 T x) (by omega) (by omega) h.lm
/-- What hier.Marks hands back. -/
def RetHM (b : BN) (l : List MT) (w : World) (e : Ending) (w' : World) : Prop :=
  Below w.heap.size w w' ∧ ((hmC b l = 0 ∧ ∃ v lo Ts, e = .returned (.tuple #[v, .int .i64 0]) ∧ Coll lo lo w' v Ts ∧ Ts.map MT.tr = marksF b l) ∨ (hmC b l ≠ 0 ∧ e = .returned (.tuple #[.slice none 0 0, .int .i64 (hmC b l)])))

theorem colK_mem {C R : List ByteArray} {P : Tr → Prop} : ∀ (nodes L : List Tr), (∀ t ∈ L, P t) → (∀ x ∈ nodes, ∀ m, markT x = some m → P m) → ∀ t ∈ nodes.foldl (colK C R) L, P t
  | [], L, h, _ => h
  | x :: xs, L, h, hx => by
    rw [List.foldl_cons]
    refine colK_mem xs _ (fun t ht => ?_) (fun y hy => hx y (List.mem_cons_of_mem _ hy))
    unfold colK at ht
    split at ht
    · rename_i m hm
      unfold addK at ht
      split at ht
      · exact h t ht
      · rcases List.mem_append.1 ht with h1 | h1
        · exact h t h1
        · rw [List.mem_singleton.1 h1]; exact hx x (by simp) m hm
    · exact h t ht
theorem nmL_mem {C R : List ByteArray} {q : Nat → Bool} {P : Tr → Prop} : ∀ (l : List Nat) (L : List Tr), (∀ t ∈ L, P t) → (∀ i ∈ l, P (.mk 0 i [])) → ∀ t ∈ l.foldl (nmK C R) L, P t
  | [], L, h, _ => h
  | i :: l, L, h, hx => by
    rw [List.foldl_cons]
    refine nmL_mem (q := q) l _ (fun t ht => ?_) (fun y hy => hx y (List.mem_cons_of_mem _ hy))
    unfold nmK addK at ht
    split at ht
    · exact h t ht
    · rcases List.mem_append.1 ht with h1 | h1
      · exact h t h1
      · rw [List.mem_singleton.1 h1]; exact hx i (by simp)
/-- Marks are well formed, and small. -/
theorem marksF_ok {b : BN} {l : List MT} (h : mcheckC b l = 0) : ∀ t ∈ marksF b l, t.wfT b.N.C.l.length b.N.R.l.length = true ∧ t.size ≤ 20001 := by
  obtain ⟨h1, h2⟩ := mcheck_ok h
  obtain ⟨-, k2, -⟩ := kchk_ok h1
  have hn : ∀ x ∈ (b.cons ++ l).flatMap MT.nodes, NodeOK b.N x := fun x hx => by
    obtain ⟨T, hT, hxT⟩ := List.mem_flatMap.1 hx
    exact nodes_ok (by rcases List.mem_append.1 hT with y | y; exact k2 T y; exact h2 T y) x hxT
  refine colK_mem _ _ (nmL_mem (q := nmsF ((b.cons ++ l).flatMap MT.nodes)) _ _ (by simp) fun i hi => ?_) fun x hx m hm => ?_
  · have := nms_lt hn (mem_elsF.1 hi).2
    exact ⟨leaf_wf this, by simp [Tr.size, Tr.sizes]⟩
  · obtain ⟨T, hT, rfl⟩ := List.mem_map.1 hx
    have := mark_wf (hn T hT).1 hm
    have h3 := (hn T hT).2
    exact ⟨this.1, by omega⟩

set_option maxRecDepth 100000 in
set_option maxHeartbeats 8000000 in
theorem hMarks_any (b : BN) (mo : ML) (w : World) (h : HIn b mo w) : Calls Tryz.prog 27 #[b.val, .slice mo.A mo.l.length mo.c] w (RetHM b mo.l w) := by
  obtain ⟨W1, hW1, hB1, hs1, hk1⟩ := newBlk w _ rfl #[.slice b.N.C.A b.N.C.l.length b.N.C.c, .slice b.N.R.A b.N.R.l.length b.N.R.c, .slice b.N.I.A b.N.I.l.length b.N.I.c, .slice b.IA b.I.length b.ic, .slice b.R.A b.R.l.length b.R.c, .slice b.FA b.F.length b.fc, .slice b.L.A b.L.l.length b.L.c] 30
  have hbb := fun w' (h : Below W1.heap.size W1 w') => bbox_of (b := b) (blk_lat hk1 h)
  obtain ⟨c0, c1, c2, c3, c4, c5, c6⟩ := hbb W1 (Below.refl _ _)
  have h1 := h.later hB1
  have hck := h1.check
  have HBB := Lib.hid hbb
  have HB := Lib.hid hB1
  have H1 := Lib.hid h1
  obtain ⟨A, c, l⟩ := mo
  obtain ⟨z, hz⟩ : ∃ z, mcheckC b l = z := ⟨_, rfl⟩
  have hck2 : Calls Tryz.prog 66 #[b.val, .slice A l.length c] W1 fun e w' => e = .returned (.int .i64 z) ∧ Below W1.heap.size W1 w' := by rw [← hz]; exact hck
  have HZ := Lib.hid hz
  simp only [BN.val] at hck2 ⊢
  clear hck h h1 hbb hB1 hk1 hz
  rcases hz0 : (z != 0)
  · have hz1 : z = 0 := by simpa using hz0
    subst hz1
    have hof := fun w' (hb : Below W1.heap.size W1 w') => ((H1.out.later hb).of (mo := ⟨A, c, l⟩) HZ.out)
    have HOF := Lib.hid hof
    simp only [BN.val] at HOF
    clear hof
    go_enter Tryz.func27, Tryz.ntmps27
    go_wp2_with (go_at_call 66; refine hck2.mono ?_; clear hck2; rintro e w2 ⟨rfl, hb2⟩; obtain ⟨d0, d1, d2, d3, d4, d5, d6⟩ := HBB.out w2 hb2)
    clear c0 c1 c2 c3 c4 c5 c6
    go_wp2_with (go_at_call 67; refine (HOF.out w2 hb2).mono ?_; rintro e w3 ⟨hb3', (⟨h8, tb, lo, Ts, rfl, htf, htr, hlo⟩ | ⟨h8, rfl⟩)⟩)
    · have hb3 : Below W1.heap.size W1 w3 := hb2.trans (hb3'.mono hb2.size)
      have htr' : Ts.map MT.tr = marksF b l := htr
      have hmk := mMarks_any w3 htf
      have hl8b := htf.len
      have hmk2 := fun w' (hb : Below w3.heap.size w3 w') => mMarks_any w' (htf.later hb)
      have HMK := Lib.hid hmk2
      have HTR := Lib.hid htr'
      have H8 := Lib.hid h8
      have HMO := Lib.hid (marksF_ok HZ.out)
      have H3 := Lib.hid (H1.out.later hb3)
      obtain ⟨d0, d1, d2, d3, d4, d5, d6⟩ := HBB.out w3 hb3
      have HB3 := Lib.hid hb3
      clear htf htr htr' h8 hmk2 hb3 hb3' hb2 hlo
      go_wp2_with (go_at_call 68; refine hmk.mono ?_; clear hmk; rintro e w4 ⟨⟨v, rfl, hcoll⟩, rfl⟩; obtain ⟨A3, k3, hv, -, -, hrow⟩ := row_of_owns hcoll.own; subst hv)
      have HRW := Lib.hid hrow
      have HCO := Lib.hid hcoll
      clear d0 d1 d2 d3 d4 d5 d6 hrow hcoll
      go_loopw [29] (fun i' wr => ∃ k : Nat, k ≤ Ts.length ∧ i' = .int .i64 (k : Nat) ∧ (∀ j (hj : j < Ts.length), j < k → (fun T => checkF b.N T == 0) Ts[j] = true) ∧ Below w4.heap.size w4 wr) (fun i' _ => Ts.length - (intOf i').toNat)
      case atStart => exact ⟨0, Nat.zero_le _, rfl, fun j _ h => absurd h (by omega), Below.refl _ _⟩
      case round =>
        rename World => wr
        obtain ⟨k, hk, rfl, hall, hbw⟩ := hrel
        have HA := Lib.hid hall
        have hb1r : Below W1.heap.size W1 wr := HB3.out.trans (hbw.mono HB3.out.size)
        clear hall
        have hte : (marksF b l).all (fun t => checkT b.N t == 0) = Ts.all fun T => checkF b.N T == 0 := by
          rw [← HTR.out, List.all_map]
          congr 1
          funext T
          show (checkT b.N T.tr == 0) = _
          rw [checkF_eq]
        have hl8 : (marksF b l).length ≤ 8 := H8.out
        have hmc : hmC b l = if (Ts.all fun T => checkF b.N T == 0) then 0 else 2 := by rw [hmC, if_pos HZ.out, if_pos hl8, hte]
        have HMC := Lib.hid hmc
        clear hmc hte hl8
        by_cases hltk : k < Ts.length
        · obtain ⟨g, off, hA, hg, e0, e1, e2⟩ := elem3 HRW.out hbw hltk
          subst hA
          have h0K : (0 : Int) ≤ k := by omega
          have hlK : (k : Int) < Ts.length := by omega
          obtain ⟨Wa, hWa, hBa, hsa, hka⟩ := newBlk wr _ rfl #[.int .i64 Ts[k].op, .int .i64 Ts[k].n, .slice Ts[k].A Ts[k].args.length Ts[k].c] 33
          have h1a : Below W1.heap.size W1 Wa := hb1r.trans (hBa.mono hb1r.size)
          have h4a : Below w4.heap.size w4 Wa := hbw.trans (hBa.mono hbw.size)
          obtain ⟨c0, c1, c2, c3, c4, c5, c6⟩ := HBB.out Wa h1a
          obtain ⟨⟨d0, d1, d2⟩, -⟩ := res3 hka
          have hTm : Ts[k] ∈ Ts := List.getElem_mem hltk
          have hck := cCheckA_any b.N Ts[k] Wa ((H1.out.later h1a).gt.ga) ((H1.out.later h1a).bi.n) ((HCO.out.trees _ hTm).1.1.later h4a) (by rw [MT.pre_length]; have := (HMO.out Ts[k].tr (by rw [← HTR.out]; exact List.mem_map_of_mem hTm)).2; omega)
          obtain ⟨ok, hok⟩ : ∃ x, (checkF b.N Ts[k] == 0) = x := ⟨_, rfl⟩
          obtain ⟨z9, hz9⟩ : ∃ x, checkF b.N Ts[k] = x := ⟨_, rfl⟩
          rw [hz9] at hck
          have hzk : (z9 != 0) = !ok := by rw [← hok, hz9]; rfl
          have HOKK := Lib.hid (show (fun T => checkF b.N T == 0) Ts[k] = ok from hok)
          have H1A := Lib.hid h1a
          have H4A := Lib.hid h4a
          simp only [NM.val, MT.val] at hck
          clear hok hBa hka h1a h4a hTm hb1r hbw hz9
          cases ok
          · simp only [Bool.not_false] at hzk
            go_wp2_with (go_at_call 69; refine hck.mono ?_; clear hck; rintro e w5 ⟨rfl, hb5⟩)
            go_ret2
            have hbE := HB.out.trans ((H1A.out.trans (hb5.mono H1A.out.size)).mono HB.out.size)
            refine ⟨hbE, .inr ?_⟩
            rw [HMC.out, all_no hltk HOKK.out]
            exact ⟨by decide, rfl⟩
          · simp only [Bool.not_true] at hzk
            go_wp2_with (go_at_call 69; refine hck.mono ?_; clear hck; rintro e w5 ⟨rfl, hb5⟩)
            go_roundw
            case rel => exact ⟨k + 1, by omega, by go_num, fun j hj hjk => by
              by_cases e : j = k
              · subst e; exact HOKK.out
              · exact HA.out j hj (by omega), H4A.out.trans (hb5.mono H4A.out.size)⟩
            case measure => simp [intOf]; omega
        · have hend := HMK.out wr hbw
          have HCL := Lib.hid (HCO.out.later hbw)
          have hall := all_yes (f := fun T => checkF b.N T == 0) (l := Ts) fun j hj => HA.out j hj (by omega)
          have HAL := Lib.hid hall
          have HBR := Lib.hid hb1r
          clear hall hb1r hbw
          go_wp2_with (go_at_call 68; refine hend.mono ?_; clear hend; rintro e w6 ⟨⟨v6, rfl, hc6⟩, rfl⟩)
          go_ret2
          exact ⟨HB.out.trans (HBR.out.mono HB.out.size), .inl ⟨by rw [HMC.out, HAL.out]; rfl, v6, lo, Ts, rfl, hc6, HTR.out⟩⟩
    · have hb3 : Below W1.heap.size W1 w3 := hb2.trans (hb3'.mono hb2.size)
      have hmc : hmC b l = 3 := by
        have h9 : 8 < (marksF b l).length := h8
        rw [hmC, if_pos HZ.out, if_neg (by omega)]
      have HMC := Lib.hid hmc
      clear hmc h8
      go_wp2_with fail
      go_ret2
      exact ⟨HB.out.trans (hb3.mono HB.out.size), .inr ⟨by rw [HMC.out]; decide, by rw [HMC.out]; rfl⟩⟩
  · go_enter Tryz.func27, Tryz.ntmps27
    go_wp2_with (go_at_call 66; refine hck2.mono ?_; clear hck2; rintro e w2 ⟨rfl, hb2⟩)
    go_ret2
    have hz1 : z ≠ 0 := by simpa using hz0
    have hmc : hmC b l = z := by rw [hmC, HZ.out, if_neg hz1]
    exact ⟨HB.out.trans (hb2.mono HB.out.size), .inr ⟨by rw [hmc]; exact hz1, by rw [hmc]; rfl⟩⟩
end Go.Proofs.YtndkcimajeofcaaGreatDoor

namespace Go.Proofs.YtndkcimajeofcaaGreatDoor
open Go.RowKit

/-- A concept and further ones behind it: where the list lies that the law's few gets. -/
theorem own_one {W : World} {base B : Nat} {T : MT} (hk : W.heap[B]? = some (.cells #[.int .i64 T.op, .int .i64 T.n, .slice T.A T.args.length T.c] 33)) (hb : base ≤ B) : W.ownsRow base 33 3 (.slice (some ⟨B, 0, none⟩) 1 1) 1 (MT.cs T) :=
  ⟨by simp [MT.cs], .inr ⟨B, 1, _, rfl, hb, hk, Nat.le_refl _, by unfold maxLen; omega, by simp, by simp [MT.cs]⟩⟩
theorem cs_one (l : List MT) : ∀ u ∈ l.flatMap MT.cs, u.oneCell' = true := fun u hu => by
  obtain ⟨T, _, hu⟩ := List.mem_flatMap.1 hu
  simp only [MT.cs, List.mem_cons, List.not_mem_nil, or_false] at hu
  rcases hu with rfl | rfl | rfl <;> rfl
/-- The row behind an append: the concept, then the others. -/
theorem ml_cons_owns {W : World} {base : Nat} {v : Value} {T : MT} {l : List MT} (h : W.ownsRow base 33 3 v (1 + l.length) (MT.cs T ++ l.flatMap MT.cs)) (hT : T.In W.heap.size W) (hl : ∀ x ∈ l, x.In W.heap.size W) :
    ∃ A c, v = .slice A (T :: l).length c ∧ (ML.mk A c (T :: l)).In W.heap.size W := by
  obtain ⟨A, c, rfl, h1, h2, h3⟩ := row_of_owns h
  refine ⟨A, c, by simp [Nat.add_comm], by simpa [Nat.add_comm] using h1, h2, fun hn => ?_, by simpa [Nat.add_comm] using h3, fun x hx => ?_⟩
  · obtain ⟨b, off, hA, -⟩ := h3.2 (by omega)
    have hn' : A = none := hn
    rw [hn'] at hA
    cases hA
  · rcases List.mem_cons.1 hx with rfl | hx
    · exact hT
    · exact hl x hx
theorem few_lens5 {n : NM} (h : fewB n = true) : n.C.l.length ≤ 100 ∧ n.R.l.length ≤ 100 ∧ n.I.l.length ≤ 100 := by
  simp only [fewB, fewL, Bool.and_eq_true, decide_eq_true_eq] at h
  exact ⟨h.1.1, h.2.1.1, h.2.2.1⟩
end Go.Proofs.YtndkcimajeofcaaGreatDoor

namespace Go.Proofs.YtndkcimajeofcaaGreatDoor
open Go.RowKit
attribute [local go_sem ↓] Go.wp_at_zero Go.wp_at_succ

/-- Nil slices have no capacity. -/
structure IN.NilOk (i : IN) : Prop where
  c : ∀ s ∈ i.C, s.A = none → s.c = 0
  r : ∀ s ∈ i.R, s.A = none → s.c = 0
  i : i.I.A = none → i.I.c = 0
theorem pcell_one (l : List (Int × Int)) : ∀ u ∈ l.flatMap pcells, u.oneCell' = true := fun u hu => by
  obtain ⟨x, _, hu⟩ := List.mem_flatMap.1 hu
  simp only [pcells, List.mem_cons, List.not_mem_nil, or_false] at hu
  rcases hu with rfl | rfl <;> rfl
end Go.Proofs.YtndkcimajeofcaaGreatDoor

namespace Go.Proofs.YtndkcimajeofcaaGreatDoor
open Go.RowKit
attribute [local go_sem ↓] Go.wp_at_zero Go.wp_at_succ

set_option maxRecDepth 100000 in
theorem neqRI (x y : Int) (w : World) : (binOp .neq 94 (.agg #[.int .i64 x, .int .i64 y]) (.agg #[.int .i64 x, .int .i64 y])).run Tryz.prog w = .ok (.bool false) w := by
  have u3 := Tryz.underlying3
  have a3 := Tryz.isAgg3
  have z3 := Tryz.sizeOf3
  have h : (Op.equalIn 10000 94 (.agg #[.int .i64 x, .int .i64 y]) (.agg #[.int .i64 x, .int .i64 y])).run Tryz.prog w = .ok true w := by
    rw [show (10000 : Nat) = 9999 + 1 from rfl, Op.equalIn]
    simp only [Sem.run_bind, run_underlying Tryz.underlying94, Result.andThen_ok]
    go_simp
  simp only [binOp]
  simp [Op.equal, Op.maxDepth, h]

set_option maxRecDepth 100000 in
theorem neqLK (x y z : Int) (w : World) : (binOp .neq 98 (.agg #[.int .i64 x, .int .i64 y, .int .i64 z]) (.agg #[.int .i64 x, .int .i64 y, .int .i64 z])).run Tryz.prog w = .ok (.bool false) w := by
  have u3 := Tryz.underlying3
  have a3 := Tryz.isAgg3
  have z3 := Tryz.sizeOf3
  have h : (Op.equalIn 10000 98 (.agg #[.int .i64 x, .int .i64 y, .int .i64 z]) (.agg #[.int .i64 x, .int .i64 y, .int .i64 z])).run Tryz.prog w = .ok true w := by
    rw [show (10000 : Nat) = 9999 + 1 from rfl, Op.equalIn]
    simp only [Sem.run_bind, run_underlying Tryz.underlying98, Result.andThen_ok]
    go_simp
  simp only [binOp]
  simp [Op.equal, Op.maxDepth, h]

/-- Two knowledge bases are one, wherever they lie. -/
structure EqB (a b : BN) : Prop where
  n1 : a.N.C.l = b.N.C.l
  n2 : a.N.R.l = b.N.R.l
  n3 : a.N.I.l = b.N.I.l
  il : a.I.length = b.I.length
  is : ∀ k (h : k < a.I.length) (h' : k < b.I.length), a.I[k].1.tr.beq b.I[k].1.tr = true ∧ a.I[k].2.tr.beq b.I[k].2.tr = true
  rl : a.R.l = b.R.l
  fl : a.F.length = b.F.length
  fs : ∀ k (h : k < a.F.length) (h' : k < b.F.length), a.F[k].1 = b.F[k].1 ∧ a.F[k].2.tr.beq b.F[k].2.tr = true
  ll : a.L.l = b.L.l

set_option maxRecDepth 100000 in
set_option maxHeartbeats 16000000 in
theorem bSame_any (a b : BN) (w : World) (ha : a.In w.heap.size w) (hb : b.In w.heap.size w) (he : EqB a b) :
    Calls Tryz.prog 45 #[a.val, b.val] w fun e w' => e = .returned (.bool true) ∧ Below w.heap.size w w' := by
  obtain ⟨W1, hW1, hB1, hs1, hk1⟩ := newBlk w _ rfl #[.slice a.N.C.A a.N.C.l.length a.N.C.c, .slice a.N.R.A a.N.R.l.length a.N.R.c, .slice a.N.I.A a.N.I.l.length a.N.I.c, .slice a.IA a.I.length a.ic, .slice a.R.A a.R.l.length a.R.c, .slice a.FA a.F.length a.fc, .slice a.L.A a.L.l.length a.L.c] 30
  obtain ⟨W2, hW2, hB2, hs2, hk2⟩ := newBlk W1 _ hs1 #[.slice b.N.C.A b.N.C.l.length b.N.C.c, .slice b.N.R.A b.N.R.l.length b.N.R.c, .slice b.N.I.A b.N.I.l.length b.N.I.c, .slice b.IA b.I.length b.ic, .slice b.R.A b.R.l.length b.R.c, .slice b.FA b.F.length b.fc, .slice b.L.A b.L.l.length b.L.c] 30
  have hB : Below w.heap.size w W2 := hB1.trans (hB2.mono (by omega))
  have hkk1 := (hB2.block w.heap.size (by omega)).trans hk1
  have hS : ∀ w', Below W2.heap.size W2 w' → BBox w' w.heap.size a ∧ BBox w' (w.heap.size + 1) b := fun w' h => ⟨bbox_of (b := a) (blk_lat hkk1 h), bbox_of (b := b) (blk_lat hk2 h)⟩
  have hsn := SameNames_any a.N b.N W2 (ha.n.later hB) (hb.n.later hB) he.n1 he.n2 he.n3
  have HAL := Lib.hid (show ∀ w', Below W2.heap.size W2 w' → a.In w'.heap.size w' from fun w' h => (ha.later hB).later h)
  have HBL := Lib.hid (show ∀ w', Below W2.heap.size W2 w' → b.In w'.heap.size w' from fun w' h => (hb.later hB).later h)
  have l1 : a.I.length ≤ 9223372036854775807 := Nat.le_trans ha.i1 ha.i2
  have l2 : a.R.l.length ≤ 9223372036854775807 := Nat.le_trans ha.r.1 ha.r.2.1
  have l3 : a.F.length ≤ 9223372036854775807 := Nat.le_trans ha.f1 ha.f2
  have l4 : a.L.l.length ≤ 9223372036854775807 := Nat.le_trans ha.l1 ha.l2
  have q1 : ((a.I.length : Int) != (b.I.length : Int)) = false := by rw [he.il]; simp
  have q2 : ((a.R.l.length : Int) != (b.R.l.length : Int)) = false := by rw [he.rl]; simp
  have q3 : ((a.F.length : Int) != (b.F.length : Int)) = false := by rw [he.fl]; simp
  have q4 : ((a.L.l.length : Int) != (b.L.l.length : Int)) = false := by rw [he.ll]; simp
  have HE := Lib.hid he
  have HB := Lib.hid hB
  have HS := Lib.hid hS
  obtain ⟨⟨c0, c1, c2, c3, c4, c5, c6⟩, d0, d1, d2, d3, d4, d5, d6⟩ := hS W2 (Below.refl _ _)
  simp only [BN.val, NM.val] at hsn ⊢
  have HSN := Lib.hid hsn
  clear ha hb he hB hB1 hB2 hk1 hk2 hkk1 hS hsn
  go_enter Tryz.func45, Tryz.ntmps45
  go_wp2_with (go_at_call 86; refine HSN.out.mono ?_; rintro e w3 ⟨rfl, hb3⟩; obtain ⟨⟨e0, e1, e2, e3, e4, e5, e6⟩, f0, f1, f2, f3, f4, f5, f6⟩ := HS.out w3 hb3)
  clear c0 c1 c2 c3 c4 c5 c6 d0 d1 d2 d3 d4 d5 d6 e0 e1 e2 e3 e4 e5 e6 f0 f1 f2 f3 f4 f5 f6
  go_loopw [58] (fun i' wr => ∃ k : Nat, k ≤ a.I.length ∧ i' = .int .i64 (k : Nat) ∧ Below W2.heap.size W2 wr) (fun i' _ => a.I.length - (intOf i').toNat)
  case atStart => exact ⟨0, Nat.zero_le _, rfl, hb3⟩
  case round =>
    rename World => wr
    obtain ⟨k, hk, rfl, hbw⟩ := hrel
    by_cases hlt : k < a.I.length
    · have hlt2 : k < b.I.length := by rw [← HE.out.il]; exact hlt
      have ha := HAL.out wr hbw
      have hb := HBL.out wr hbw
      obtain ⟨g1, o1, hA1, hg1, x0, x1, x2, x3, x4, x5⟩ := ha.incl hlt
      obtain ⟨g2, o2, hA2, hg2, y0, y1, y2, y3, y4, y5⟩ := hb.incl hlt2
      have h0K : (0 : Int) ≤ k := by omega
      have hlK : (k : Int) < a.I.length := by omega
      have hlK2 : (k : Int) < b.I.length := by omega
      have heq := HE.out.is k hlt hlt2
      have m1 := fun w' (h : Below wr.heap.size wr w') => (HAL.out w' (hbw.trans (h.mono hbw.size))).i4 _ (List.getElem_mem hlt)
      have m2 := fun w' (h : Below wr.heap.size wr w') => (HBL.out w' (hbw.trans (h.mono hbw.size))).i4 _ (List.getElem_mem hlt2)
      generalize a.I[k] = p at x0 x1 x2 x3 x4 x5 heq m1
      generalize b.I[k] = q at y0 y1 y2 y3 y4 y5 heq m2
      obtain ⟨Wa, hWa, hBa, hsa, hka⟩ := newBlk wr _ rfl #[.int .i64 p.1.op, .int .i64 p.1.n, .slice p.1.A p.1.args.length p.1.c, .int .i64 p.2.op, .int .i64 p.2.n, .slice p.2.A p.2.args.length p.2.c] 111
      have hwa : Below W2.heap.size W2 Wa := hbw.trans (hBa.mono hbw.size)
      have hSR : ∀ w', Below Wa.heap.size Wa w' → w'.cell? ⟨w.heap.size + 1, 3, none⟩ = some (.slice (some ⟨g2, o2, none⟩) b.I.length b.ic) ∧ (w'.cell? ⟨wr.heap.size, 0, none⟩ = some (.int .i64 p.1.op) ∧ w'.cell? ⟨wr.heap.size, 1, none⟩ = some (.int .i64 p.1.n) ∧ w'.cell? ⟨wr.heap.size, 2, none⟩ = some (.slice p.1.A p.1.args.length p.1.c) ∧ w'.cell? ⟨wr.heap.size, 3, none⟩ = some (.int .i64 p.2.op) ∧ w'.cell? ⟨wr.heap.size, 4, none⟩ = some (.int .i64 p.2.n) ∧ w'.cell? ⟨wr.heap.size, 5, none⟩ = some (.slice p.2.A p.2.args.length p.2.c)) ∧ (w'.cell? ⟨g2, o2 + k * 6, none⟩ = some (.int .i64 q.1.op) ∧ w'.cell? ⟨g2, o2 + k * 6 + 1, none⟩ = some (.int .i64 q.1.n) ∧ w'.cell? ⟨g2, o2 + k * 6 + 2, none⟩ = some (.slice q.1.A q.1.args.length q.1.c) ∧ w'.cell? ⟨g2, o2 + k * 6 + 3, none⟩ = some (.int .i64 q.2.op) ∧ w'.cell? ⟨g2, o2 + k * 6 + 4, none⟩ = some (.int .i64 q.2.n) ∧ w'.cell? ⟨g2, o2 + k * 6 + 5, none⟩ = some (.slice q.2.A q.2.args.length q.2.c)) := fun w' h => by
        have h' : Below wr.heap.size wr w' := hBa.trans (h.mono (by omega))
        refine ⟨?_, ⟨cell_of_blk (blk_lat hka h) 0, cell_of_blk (blk_lat hka h) 1, cell_of_blk (blk_lat hka h) 2, cell_of_blk (blk_lat hka h) 3, cell_of_blk (blk_lat hka h) 4, cell_of_blk (blk_lat hka h) 5⟩, (h'.cell (p := ⟨g2, o2 + k * 6, none⟩) hg2).trans y0, (h'.cell (p := ⟨g2, o2 + k * 6 + 1, none⟩) hg2).trans y1, (h'.cell (p := ⟨g2, o2 + k * 6 + 2, none⟩) hg2).trans y2, (h'.cell (p := ⟨g2, o2 + k * 6 + 3, none⟩) hg2).trans y3, (h'.cell (p := ⟨g2, o2 + k * 6 + 4, none⟩) hg2).trans y4, (h'.cell (p := ⟨g2, o2 + k * 6 + 5, none⟩) hg2).trans y5⟩
        rw [← hA2]
        have := (HS.out w' (hwa.trans (h.mono hwa.size))).2
        exact this.2.2.2.1
      have hc2 := fun w' (h : Below Wa.heap.size Wa w') => rSame_any p.2 q.2 w' (m1 w' (hBa.trans (h.mono (by omega)))).2 (m2 w' (hBa.trans (h.mono (by omega)))).2
      rw [heq.2] at hc2
      have hc1 := fun w' (h : Below Wa.heap.size Wa w') => rSame_any p.1 q.1 w' (m1 w' (hBa.trans (h.mono (by omega)))).1 (m2 w' (hBa.trans (h.mono (by omega)))).1
      rw [heq.1] at hc1
      have HC1 := Lib.hid hc1
      have HC2 := Lib.hid hc2
      simp only [MT.val] at HC2 HC1
      obtain ⟨z0, ⟨u0, u1, u2, u3, u4, u5⟩, v0, v1, v2, v3, v4, v5⟩ := hSR Wa (Below.refl _ _)
      have HSR := Lib.hid hSR
      have HWA := Lib.hid hwa
      have HSA := Lib.hid hsa
      have hd : Below Wa.heap.size Wa Wa.drew := (Below.refl _ Wa).drew
      rw [hA1, hA2]
      clear ha hb hA1 hA2 hbw hBa hka hwa hsa hSR heq m1 m2 hc2 hc1 y0 y1 y2 y3 y4 y5 hg1 hg2
      go_wp2_with fail
      go_region_held (fun w' => w'.cell? ⟨w.heap.size + 1, 3, none⟩ = some (.slice (some ⟨g2, o2, none⟩) b.I.length b.ic) ∧ (w'.cell? ⟨wr.heap.size, 0, none⟩ = some (.int .i64 p.1.op) ∧ w'.cell? ⟨wr.heap.size, 1, none⟩ = some (.int .i64 p.1.n) ∧ w'.cell? ⟨wr.heap.size, 2, none⟩ = some (.slice p.1.A p.1.args.length p.1.c) ∧ w'.cell? ⟨wr.heap.size, 3, none⟩ = some (.int .i64 p.2.op) ∧ w'.cell? ⟨wr.heap.size, 4, none⟩ = some (.int .i64 p.2.n) ∧ w'.cell? ⟨wr.heap.size, 5, none⟩ = some (.slice p.2.A p.2.args.length p.2.c)) ∧ (w'.cell? ⟨g2, o2 + k * 6, none⟩ = some (.int .i64 q.1.op) ∧ w'.cell? ⟨g2, o2 + k * 6 + 1, none⟩ = some (.int .i64 q.1.n) ∧ w'.cell? ⟨g2, o2 + k * 6 + 2, none⟩ = some (.slice q.1.A q.1.args.length q.1.c) ∧ w'.cell? ⟨g2, o2 + k * 6 + 3, none⟩ = some (.int .i64 q.2.op) ∧ w'.cell? ⟨g2, o2 + k * 6 + 4, none⟩ = some (.int .i64 q.2.n) ∧ w'.cell? ⟨g2, o2 + k * 6 + 5, none⟩ = some (.slice q.2.A q.2.args.length q.2.c)))
        (first | exact HSR.out _ hd | exact HSR.out _ hb5 | exact HSR.out _ hb6)
        (first
          | (go_at_call 29; refine (HC2.out w5 hb5).mono ?_; rintro e w6 ⟨rfl, hb6'⟩; have hb6 : Below Wa.heap.size Wa w6 := hb5.trans (hb6'.mono hb5.size))
          | (go_at_call 29; refine (HC1.out Wa.drew hd).mono ?_; rintro e w5 ⟨rfl, hb5'⟩; have hb5 : Below Wa.heap.size Wa w5 := hd.trans hb5'))
      go_wp2_with fail
      go_roundw
      case rel => exact ⟨k + 1, by omega, by go_num, HWA.out.trans (hb6.mono HWA.out.size)⟩
      case measure => simp [intOf]; omega
    · obtain ⟨⟨e0, e1, e2, e3, e4, e5, e6⟩, f0, f1, f2, f3, f4, f5, f6⟩ := HS.out wr hbw
      have HBW := Lib.hid hbw
      clear hbw
      go_wp2_with fail
      clear e0 e1 e2 e3 e4 e5 e6 f0 f1 f2 f3 f4 f5 f6
      go_loopw [89] (fun i' wr => ∃ k : Nat, k ≤ a.R.l.length ∧ i' = .int .i64 (k : Nat) ∧ Below W2.heap.size W2 wr) (fun i' _ => a.R.l.length - (intOf i').toNat)
      case atStart => exact ⟨0, Nat.zero_le _, rfl, HBW.out⟩
      case round =>
        rename World => wr
        obtain ⟨k, hk, rfl, hbw⟩ := hrel
        by_cases hlt : k < a.R.l.length
        · have hlt2 : k < b.R.l.length := by rw [← HE.out.rl]; exact hlt
          have ha := HAL.out wr hbw
          have hb := HBL.out wr hbw
          obtain ⟨g1, o1, hA1, hg1, x0, x1⟩ := ha.role hlt
          obtain ⟨g2, o2, hA2, hg2, y0, y1⟩ := hb.role hlt2
          have h0K : (0 : Int) ≤ k := by omega
          have hlK : (k : Int) < a.R.l.length := by omega
          have hlK2 : (k : Int) < b.R.l.length := by omega
          have heq : a.R.l[k] = b.R.l[k] := by have := HE.out.rl; simp only [this]
          rw [heq] at x0 x1
          generalize b.R.l[k] = q at x0 x1 y0 y1
          obtain ⟨Wa, hWa, hBa, hsa, hka⟩ := newBlk wr _ rfl #[.int .i64 q.1, .int .i64 q.2] 94
          have hwa : Below W2.heap.size W2 Wa := hbw.trans (hBa.mono hbw.size)
          have hSR : ∀ w', Below Wa.heap.size Wa w' → w'.cell? ⟨w.heap.size + 1, 4, none⟩ = some (.slice (some ⟨g2, o2, none⟩) b.R.l.length b.R.c) ∧ (w'.cell? ⟨wr.heap.size, 0, none⟩ = some (.int .i64 q.1) ∧ w'.cell? ⟨wr.heap.size, 1, none⟩ = some (.int .i64 q.2)) ∧ (w'.cell? ⟨g2, o2 + k * 2, none⟩ = some (.int .i64 q.1) ∧ w'.cell? ⟨g2, o2 + k * 2 + 1, none⟩ = some (.int .i64 q.2)) := fun w' h => by
            have h' : Below wr.heap.size wr w' := hBa.trans (h.mono (by omega))
            refine ⟨?_, ⟨cell_of_blk (blk_lat hka h) 0, cell_of_blk (blk_lat hka h) 1⟩, (h'.cell (p := ⟨g2, o2 + k * 2, none⟩) hg2).trans y0, (h'.cell (p := ⟨g2, o2 + k * 2 + 1, none⟩) hg2).trans y1⟩
            rw [← hA2]
            have := (HS.out w' (hwa.trans (h.mono hwa.size))).2
            exact this.2.2.2.2.1
          obtain ⟨z0, ⟨u0, u1⟩, v0, v1⟩ := hSR Wa (Below.refl _ _)
          have HSR := Lib.hid hSR
          have HWA := Lib.hid hwa
          have HSA := Lib.hid hsa
          have hd : Below Wa.heap.size Wa Wa.drew := (Below.refl _ Wa).drew
          rw [hA1, hA2]
          clear ha hb hA1 hA2 hbw hBa hka hwa hsa hSR heq   y0 y1 hg1 hg2
          have hq := fun w => neqRI q.1 q.2 w
          go_wp2_with fail
          go_quiet (fail)
          clear hq
          go_wp2_with fail
          go_roundw
          case rel => exact ⟨k + 1, by omega, by go_num, below_drewN HWA.out _⟩
          case measure => simp [intOf]; omega
        · obtain ⟨⟨e0, e1, e2, e3, e4, e5, e6⟩, f0, f1, f2, f3, f4, f5, f6⟩ := HS.out wr hbw
          have HBW := Lib.hid hbw
          clear hbw
          go_wp2_with fail
          clear e0 e1 e2 e3 e4 e5 e6 f0 f1 f2 f3 f4 f5 f6
          go_loopw [105] (fun i' wr => ∃ k : Nat, k ≤ a.F.length ∧ i' = .int .i64 (k : Nat) ∧ Below W2.heap.size W2 wr) (fun i' _ => a.F.length - (intOf i').toNat)
          case atStart => exact ⟨0, Nat.zero_le _, rfl, HBW.out⟩
          case round =>
            rename World => wr
            obtain ⟨k, hk, rfl, hbw⟩ := hrel
            by_cases hlt : k < a.F.length
            · have hlt2 : k < b.F.length := by rw [← HE.out.fl]; exact hlt
              have ha := HAL.out wr hbw
              have hb := HBL.out wr hbw
              obtain ⟨g1, o1, hA1, hg1, x0, x1, x2, x3⟩ := ha.fact hlt
              obtain ⟨g2, o2, hA2, hg2, y0, y1, y2, y3⟩ := hb.fact hlt2
              have h0K : (0 : Int) ≤ k := by omega
              have hlK : (k : Int) < a.F.length := by omega
              have hlK2 : (k : Int) < b.F.length := by omega
              have heq := HE.out.fs k hlt hlt2
              have m1 := fun w' (h : Below wr.heap.size wr w') => (HAL.out w' (hbw.trans (h.mono hbw.size))).f4 _ (List.getElem_mem hlt)
              have m2 := fun w' (h : Below wr.heap.size wr w') => (HBL.out w' (hbw.trans (h.mono hbw.size))).f4 _ (List.getElem_mem hlt2)
              generalize a.F[k] = p at x0 x1 x2 x3 heq m1
              generalize b.F[k] = q at y0 y1 y2 y3 heq m2
              rw [heq.1] at x0
              obtain ⟨Wa, hWa, hBa, hsa, hka⟩ := newBlk wr _ rfl #[.int .i64 q.1, .int .i64 p.2.op, .int .i64 p.2.n, .slice p.2.A p.2.args.length p.2.c] 96
              have hwa : Below W2.heap.size W2 Wa := hbw.trans (hBa.mono hbw.size)
              have hSR : ∀ w', Below Wa.heap.size Wa w' → w'.cell? ⟨w.heap.size + 1, 5, none⟩ = some (.slice (some ⟨g2, o2, none⟩) b.F.length b.fc) ∧ (w'.cell? ⟨wr.heap.size, 0, none⟩ = some (.int .i64 q.1) ∧ w'.cell? ⟨wr.heap.size, 1, none⟩ = some (.int .i64 p.2.op) ∧ w'.cell? ⟨wr.heap.size, 2, none⟩ = some (.int .i64 p.2.n) ∧ w'.cell? ⟨wr.heap.size, 3, none⟩ = some (.slice p.2.A p.2.args.length p.2.c)) ∧ (w'.cell? ⟨g2, o2 + k * 4, none⟩ = some (.int .i64 q.1) ∧ w'.cell? ⟨g2, o2 + k * 4 + 1, none⟩ = some (.int .i64 q.2.op) ∧ w'.cell? ⟨g2, o2 + k * 4 + 2, none⟩ = some (.int .i64 q.2.n) ∧ w'.cell? ⟨g2, o2 + k * 4 + 3, none⟩ = some (.slice q.2.A q.2.args.length q.2.c)) := fun w' h => by
                have h' : Below wr.heap.size wr w' := hBa.trans (h.mono (by omega))
                refine ⟨?_, ⟨cell_of_blk (blk_lat hka h) 0, cell_of_blk (blk_lat hka h) 1, cell_of_blk (blk_lat hka h) 2, cell_of_blk (blk_lat hka h) 3⟩, (h'.cell (p := ⟨g2, o2 + k * 4, none⟩) hg2).trans y0, (h'.cell (p := ⟨g2, o2 + k * 4 + 1, none⟩) hg2).trans y1, (h'.cell (p := ⟨g2, o2 + k * 4 + 2, none⟩) hg2).trans y2, (h'.cell (p := ⟨g2, o2 + k * 4 + 3, none⟩) hg2).trans y3⟩
                rw [← hA2]
                have := (HS.out w' (hwa.trans (h.mono hwa.size))).2
                exact this.2.2.2.2.2.1
              have hc2 := fun w' (h : Below Wa.heap.size Wa w') => rSame_any p.2 q.2 w' (m1 w' (hBa.trans (h.mono (by omega)))) (m2 w' (hBa.trans (h.mono (by omega))))
              rw [heq.2] at hc2
              have HC2 := Lib.hid hc2
              simp only [MT.val] at HC2
              obtain ⟨z0, ⟨u0, u1, u2, u3⟩, v0, v1, v2, v3⟩ := hSR Wa (Below.refl _ _)
              have HSR := Lib.hid hSR
              have HWA := Lib.hid hwa
              have HSA := Lib.hid hsa
              have hd : Below Wa.heap.size Wa Wa.drew := (Below.refl _ Wa).drew
              rw [hA1, hA2]
              clear ha hb hA1 hA2 hbw hBa hka hwa hsa hSR heq m1 m2 hc2  y0 y1 y2 y3 hg1 hg2
              have qf : (q.1 != q.1) = false := by simp
              go_wp2_with fail
              go_region_held (fun w' => w'.cell? ⟨w.heap.size + 1, 5, none⟩ = some (.slice (some ⟨g2, o2, none⟩) b.F.length b.fc) ∧ (w'.cell? ⟨wr.heap.size, 0, none⟩ = some (.int .i64 q.1) ∧ w'.cell? ⟨wr.heap.size, 1, none⟩ = some (.int .i64 p.2.op) ∧ w'.cell? ⟨wr.heap.size, 2, none⟩ = some (.int .i64 p.2.n) ∧ w'.cell? ⟨wr.heap.size, 3, none⟩ = some (.slice p.2.A p.2.args.length p.2.c)) ∧ (w'.cell? ⟨g2, o2 + k * 4, none⟩ = some (.int .i64 q.1) ∧ w'.cell? ⟨g2, o2 + k * 4 + 1, none⟩ = some (.int .i64 q.2.op) ∧ w'.cell? ⟨g2, o2 + k * 4 + 2, none⟩ = some (.int .i64 q.2.n) ∧ w'.cell? ⟨g2, o2 + k * 4 + 3, none⟩ = some (.slice q.2.A q.2.args.length q.2.c)))
                (first | exact HSR.out _ hd | exact HSR.out _ hb5)
                (first
                  | (go_at_call 29; refine (HC2.out Wa.drew hd).mono ?_; rintro e w5 ⟨rfl, hb5'⟩; have hb5 : Below Wa.heap.size Wa w5 := hd.trans hb5'))
              go_wp2_with fail
              go_roundw
              case rel => exact ⟨k + 1, by omega, by go_num, HWA.out.trans (hb5.mono HWA.out.size)⟩
              case measure => simp [intOf]; omega
            · obtain ⟨⟨e0, e1, e2, e3, e4, e5, e6⟩, f0, f1, f2, f3, f4, f5, f6⟩ := HS.out wr hbw
              have HBW := Lib.hid hbw
              clear hbw
              go_wp2_with fail
              clear e0 e1 e2 e3 e4 e5 e6 f0 f1 f2 f3 f4 f5 f6
              go_loopw [135] (fun i' wr => ∃ k : Nat, k ≤ a.L.l.length ∧ i' = .int .i64 (k : Nat) ∧ Below W2.heap.size W2 wr) (fun i' _ => a.L.l.length - (intOf i').toNat)
              case atStart => exact ⟨0, Nat.zero_le _, rfl, HBW.out⟩
              case round =>
                rename World => wr
                obtain ⟨k, hk, rfl, hbw⟩ := hrel
                by_cases hlt : k < a.L.l.length
                · have hlt2 : k < b.L.l.length := by rw [← HE.out.ll]; exact hlt
                  have ha := HAL.out wr hbw
                  have hb := HBL.out wr hbw
                  obtain ⟨g1, o1, hA1, hg1, x0, x1, x2⟩ := ha.link hlt
                  obtain ⟨g2, o2, hA2, hg2, y0, y1, y2⟩ := hb.link hlt2
                  have h0K : (0 : Int) ≤ k := by omega
                  have hlK : (k : Int) < a.L.l.length := by omega
                  have hlK2 : (k : Int) < b.L.l.length := by omega
                  have heq : a.L.l[k] = b.L.l[k] := by have := HE.out.ll; simp only [this]
                  rw [heq] at x0 x1 x2
                  generalize b.L.l[k] = q at x0 x1 x2 y0 y1 y2
                  obtain ⟨Wa, hWa, hBa, hsa, hka⟩ := newBlk wr _ rfl #[.int .i64 q.1, .int .i64 q.2.1, .int .i64 q.2.2] 98
                  have hwa : Below W2.heap.size W2 Wa := hbw.trans (hBa.mono hbw.size)
                  have hSR : ∀ w', Below Wa.heap.size Wa w' → w'.cell? ⟨w.heap.size + 1, 6, none⟩ = some (.slice (some ⟨g2, o2, none⟩) b.L.l.length b.L.c) ∧ (w'.cell? ⟨wr.heap.size, 0, none⟩ = some (.int .i64 q.1) ∧ w'.cell? ⟨wr.heap.size, 1, none⟩ = some (.int .i64 q.2.1) ∧ w'.cell? ⟨wr.heap.size, 2, none⟩ = some (.int .i64 q.2.2)) ∧ (w'.cell? ⟨g2, o2 + k * 3, none⟩ = some (.int .i64 q.1) ∧ w'.cell? ⟨g2, o2 + k * 3 + 1, none⟩ = some (.int .i64 q.2.1) ∧ w'.cell? ⟨g2, o2 + k * 3 + 2, none⟩ = some (.int .i64 q.2.2)) := fun w' h => by
                    have h' : Below wr.heap.size wr w' := hBa.trans (h.mono (by omega))
                    refine ⟨?_, ⟨cell_of_blk (blk_lat hka h) 0, cell_of_blk (blk_lat hka h) 1, cell_of_blk (blk_lat hka h) 2⟩, (h'.cell (p := ⟨g2, o2 + k * 3, none⟩) hg2).trans y0, (h'.cell (p := ⟨g2, o2 + k * 3 + 1, none⟩) hg2).trans y1, (h'.cell (p := ⟨g2, o2 + k * 3 + 2, none⟩) hg2).trans y2⟩
                    rw [← hA2]
                    have := (HS.out w' (hwa.trans (h.mono hwa.size))).2
                    exact this.2.2.2.2.2.2
                  obtain ⟨z0, ⟨u0, u1, u2⟩, v0, v1, v2⟩ := hSR Wa (Below.refl _ _)
                  have HSR := Lib.hid hSR
                  have HWA := Lib.hid hwa
                  have HSA := Lib.hid hsa
                  have hd : Below Wa.heap.size Wa Wa.drew := (Below.refl _ Wa).drew
                  rw [hA1, hA2]
                  clear ha hb hA1 hA2 hbw hBa hka hwa hsa hSR heq   y0 y1 y2 hg1 hg2
                  have hq := fun w => neqLK q.1 q.2.1 q.2.2 w
                  go_wp2_with fail
                  go_quiet (fail)
                  clear hq
                  go_wp2_with fail
                  go_roundw
                  case rel => exact ⟨k + 1, by omega, by go_num, below_drewN HWA.out _⟩
                  case measure => simp [intOf]; omega
                · obtain ⟨⟨e0, e1, e2, e3, e4, e5, e6⟩, f0, f1, f2, f3, f4, f5, f6⟩ := HS.out wr hbw
                  have HBW := Lib.hid hbw
                  clear hbw
                  go_wp2_with fail
                  go_ret
                  exact ⟨rfl, HB.out.trans (HBW.out.mono HB.out.size)⟩
end Go.Proofs.YtndkcimajeofcaaGreatDoor

namespace Go.Proofs.YtndkcimajeofcaaGreatDoor
open Go.RowKit
attribute [local go_sem ↓] Go.wp_at_zero Go.wp_at_succ

/-- What hier.Marks hands back: new memory. -/
def RetHMn (b : BN) (l : List MT) (w : World) (e : Ending) (w' : World) : Prop :=
  Below w.heap.size w w' ∧ ((hmC b l = 0 ∧ ∃ v lo Ts, e = .returned (.tuple #[v, .int .i64 0]) ∧ Coll lo lo w' v Ts ∧ Ts.map MT.tr = marksF b l ∧ w.heap.size ≤ lo) ∨ (hmC b l ≠ 0 ∧ e = .returned (.tuple #[.slice none 0 0, .int .i64 (hmC b l)])))
set_option maxRecDepth 100000 in
set_option maxHeartbeats 8000000 in
theorem hMarksN_any (b : BN) (mo : ML) (w : World) (h : HIn b mo w) : Calls Tryz.prog 27 #[b.val, .slice mo.A mo.l.length mo.c] w (RetHMn b mo.l w) := by
  obtain ⟨W1, hW1, hB1, hs1, hk1⟩ := newBlk w _ rfl #[.slice b.N.C.A b.N.C.l.length b.N.C.c, .slice b.N.R.A b.N.R.l.length b.N.R.c, .slice b.N.I.A b.N.I.l.length b.N.I.c, .slice b.IA b.I.length b.ic, .slice b.R.A b.R.l.length b.R.c, .slice b.FA b.F.length b.fc, .slice b.L.A b.L.l.length b.L.c] 30
  have hbb := fun w' (h : Below W1.heap.size W1 w') => bbox_of (b := b) (blk_lat hk1 h)
  obtain ⟨c0, c1, c2, c3, c4, c5, c6⟩ := hbb W1 (Below.refl _ _)
  have h1 := h.later hB1
  have hck := h1.check
  have HBB := Lib.hid hbb
  have HB := Lib.hid hB1
  have H1 := Lib.hid h1
  obtain ⟨A, c, l⟩ := mo
  obtain ⟨z, hz⟩ : ∃ z, mcheckC b l = z := ⟨_, rfl⟩
  have hck2 : Calls Tryz.prog 66 #[b.val, .slice A l.length c] W1 fun e w' => e = .returned (.int .i64 z) ∧ Below W1.heap.size W1 w' := by rw [← hz]; exact hck
  have HZ := Lib.hid hz
  simp only [BN.val] at hck2 ⊢
  clear hck h h1 hbb hB1 hk1 hz
  rcases hz0 : (z != 0)
  · have hz1 : z = 0 := by simpa using hz0
    subst hz1
    have hof := fun w' (hb : Below W1.heap.size W1 w') => ((H1.out.later hb).of (mo := ⟨A, c, l⟩) HZ.out)
    have HOF := Lib.hid hof
    simp only [BN.val] at HOF
    clear hof
    go_enter Tryz.func27, Tryz.ntmps27
    go_wp2_with (go_at_call 66; refine hck2.mono ?_; clear hck2; rintro e w2 ⟨rfl, hb2⟩; obtain ⟨d0, d1, d2, d3, d4, d5, d6⟩ := HBB.out w2 hb2)
    clear c0 c1 c2 c3 c4 c5 c6
    go_wp2_with (go_at_call 67; refine (HOF.out w2 hb2).mono ?_; rintro e w3 ⟨hb3', (⟨h8, tb, lo, Ts, rfl, htf, htr, hlo⟩ | ⟨h8, rfl⟩)⟩)
    · have hb3 : Below W1.heap.size W1 w3 := hb2.trans (hb3'.mono hb2.size)
      have htr' : Ts.map MT.tr = marksF b l := htr
      have hmk := mMarks_any w3 htf
      have hl8b := htf.len
      have hmk2 := fun w' (hb : Below w3.heap.size w3 w') => mMarks_any w' (htf.later hb)
      have HMK := Lib.hid hmk2
      have HTR := Lib.hid htr'
      have H8 := Lib.hid h8
      have HMO := Lib.hid (marksF_ok HZ.out)
      have H3 := Lib.hid (H1.out.later hb3)
      obtain ⟨d0, d1, d2, d3, d4, d5, d6⟩ := HBB.out w3 hb3
      have HB3 := Lib.hid hb3
      have HLO := Lib.hid (show w.heap.size ≤ lo by have := HB.out.size; have := hb2.size; omega)
      clear htf htr htr' h8 hmk2 hb3 hb3' hb2 hlo
      go_wp2_with (go_at_call 68; refine hmk.mono ?_; clear hmk; rintro e w4 ⟨⟨v, rfl, hcoll⟩, rfl⟩; obtain ⟨A3, k3, hv, -, -, hrow⟩ := row_of_owns hcoll.own; subst hv)
      have HRW := Lib.hid hrow
      have HCO := Lib.hid hcoll
      clear d0 d1 d2 d3 d4 d5 d6 hrow hcoll
      go_loopw [29] (fun i' wr => ∃ k : Nat, k ≤ Ts.length ∧ i' = .int .i64 (k : Nat) ∧ (∀ j (hj : j < Ts.length), j < k → (fun T => checkF b.N T == 0) Ts[j] = true) ∧ Below w4.heap.size w4 wr) (fun i' _ => Ts.length - (intOf i').toNat)
      case atStart => exact ⟨0, Nat.zero_le _, rfl, fun j _ h => absurd h (by omega), Below.refl _ _⟩
      case round =>
        rename World => wr
        obtain ⟨k, hk, rfl, hall, hbw⟩ := hrel
        have HA := Lib.hid hall
        have hb1r : Below W1.heap.size W1 wr := HB3.out.trans (hbw.mono HB3.out.size)
        clear hall
        have hte : (marksF b l).all (fun t => checkT b.N t == 0) = Ts.all fun T => checkF b.N T == 0 := by
          rw [← HTR.out, List.all_map]
          congr 1
          funext T
          show (checkT b.N T.tr == 0) = _
          rw [checkF_eq]
        have hl8 : (marksF b l).length ≤ 8 := H8.out
        have hmc : hmC b l = if (Ts.all fun T => checkF b.N T == 0) then 0 else 2 := by rw [hmC, if_pos HZ.out, if_pos hl8, hte]
        have HMC := Lib.hid hmc
        clear hmc hte hl8
        by_cases hltk : k < Ts.length
        · obtain ⟨g, off, hA, hg, e0, e1, e2⟩ := elem3 HRW.out hbw hltk
          subst hA
          have h0K : (0 : Int) ≤ k := by omega
          have hlK : (k : Int) < Ts.length := by omega
          obtain ⟨Wa, hWa, hBa, hsa, hka⟩ := newBlk wr _ rfl #[.int .i64 Ts[k].op, .int .i64 Ts[k].n, .slice Ts[k].A Ts[k].args.length Ts[k].c] 33
          have h1a : Below W1.heap.size W1 Wa := hb1r.trans (hBa.mono hb1r.size)
          have h4a : Below w4.heap.size w4 Wa := hbw.trans (hBa.mono hbw.size)
          obtain ⟨c0, c1, c2, c3, c4, c5, c6⟩ := HBB.out Wa h1a
          obtain ⟨⟨d0, d1, d2⟩, -⟩ := res3 hka
          have hTm : Ts[k] ∈ Ts := List.getElem_mem hltk
          have hck := cCheckA_any b.N Ts[k] Wa ((H1.out.later h1a).gt.ga) ((H1.out.later h1a).bi.n) ((HCO.out.trees _ hTm).1.1.later h4a) (by rw [MT.pre_length]; have := (HMO.out Ts[k].tr (by rw [← HTR.out]; exact List.mem_map_of_mem hTm)).2; omega)
          obtain ⟨ok, hok⟩ : ∃ x, (checkF b.N Ts[k] == 0) = x := ⟨_, rfl⟩
          obtain ⟨z9, hz9⟩ : ∃ x, checkF b.N Ts[k] = x := ⟨_, rfl⟩
          rw [hz9] at hck
          have hzk : (z9 != 0) = !ok := by rw [← hok, hz9]; rfl
          have HOKK := Lib.hid (show (fun T => checkF b.N T == 0) Ts[k] = ok from hok)
          have H1A := Lib.hid h1a
          have H4A := Lib.hid h4a
          simp only [NM.val, MT.val] at hck
          clear hok hBa hka h1a h4a hTm hb1r hbw hz9
          cases ok
          · simp only [Bool.not_false] at hzk
            go_wp2_with (go_at_call 69; refine hck.mono ?_; clear hck; rintro e w5 ⟨rfl, hb5⟩)
            go_ret2
            have hbE := HB.out.trans ((H1A.out.trans (hb5.mono H1A.out.size)).mono HB.out.size)
            refine ⟨hbE, .inr ?_⟩
            rw [HMC.out, all_no hltk HOKK.out]
            exact ⟨by decide, rfl⟩
          · simp only [Bool.not_true] at hzk
            go_wp2_with (go_at_call 69; refine hck.mono ?_; clear hck; rintro e w5 ⟨rfl, hb5⟩)
            go_roundw
            case rel => exact ⟨k + 1, by omega, by go_num, fun j hj hjk => by
              by_cases e : j = k
              · subst e; exact HOKK.out
              · exact HA.out j hj (by omega), H4A.out.trans (hb5.mono H4A.out.size)⟩
            case measure => simp [intOf]; omega
        · have hend := HMK.out wr hbw
          have HCL := Lib.hid (HCO.out.later hbw)
          have hall := all_yes (f := fun T => checkF b.N T == 0) (l := Ts) fun j hj => HA.out j hj (by omega)
          have HAL := Lib.hid hall
          have HBR := Lib.hid hb1r
          clear hall hb1r hbw
          go_wp2_with (go_at_call 68; refine hend.mono ?_; clear hend; rintro e w6 ⟨⟨v6, rfl, hc6⟩, rfl⟩)
          go_ret2
          exact ⟨HB.out.trans (HBR.out.mono HB.out.size), .inl ⟨by rw [HMC.out, HAL.out]; rfl, v6, lo, Ts, rfl, hc6, HTR.out, HLO.out⟩⟩
    · have hb3 : Below W1.heap.size W1 w3 := hb2.trans (hb3'.mono hb2.size)
      have hmc : hmC b l = 3 := by
        have h9 : 8 < (marksF b l).length := h8
        rw [hmC, if_pos HZ.out, if_neg (by omega)]
      have HMC := Lib.hid hmc
      clear hmc h8
      go_wp2_with fail
      go_ret2
      exact ⟨HB.out.trans (hb3.mono HB.out.size), .inr ⟨by rw [HMC.out]; decide, by rw [HMC.out]; rfl⟩⟩
  · go_enter Tryz.func27, Tryz.ntmps27
    go_wp2_with (go_at_call 66; refine hck2.mono ?_; clear hck2; rintro e w2 ⟨rfl, hb2⟩)
    go_ret2
    have hz1 : z ≠ 0 := by simpa using hz0
    have hmc : hmC b l = z := by rw [hmC, HZ.out, if_neg hz1]
    exact ⟨HB.out.trans (hb2.mono HB.out.size), .inr ⟨by rw [hmc]; exact hz1, by rw [hmc]; rfl⟩⟩
/-- .. in one way: a row of new trees. -/
def RetMn (w : World) (e : Ending) (w' : World) : Prop := ∃ v lo Ts z, e = .returned (.tuple #[v, .int .i64 z]) ∧ w.heap.size ≤ lo ∧ Coll lo lo w' v Ts ∧ Below w.heap.size w w'
theorem hMarks_new (b : BN) (mo : ML) (w : World) (h : HIn b mo w) : Calls Tryz.prog 27 #[b.val, .slice mo.A mo.l.length mo.c] w (RetMn w) :=
  (hMarksN_any b mo w h).mono fun e w' hh => by
    obtain ⟨hb, (⟨-, v, lo, Ts, he, hc, -, hl⟩ | ⟨-, he⟩)⟩ := hh
    · exact ⟨v, lo, Ts, _, he, hl, hc, hb⟩
    · exact ⟨_, w.heap.size, [], _, he, Nat.le_refl _, Coll.nil _ _ _, hb⟩
end Go.Proofs.YtndkcimajeofcaaGreatDoor

namespace Go.Proofs.YtndkcimajeofcaaGreatDoor
open Go.RowKit
attribute [local go_sem ↓] Go.wp_at_zero Go.wp_at_succ

/-- What hier.True says. -/
def htE (b : BN) (l : List MT) (k : Int) (T : MT) : Int :=
  if orF (mcheckC b l) (checkF b.N T) = 0 then (if (marksF b l).length ≤ 8 then (if decide (0 ≤ k) && (decide (k < ((2 ^ (marksF b l).length : Nat) : Int)) && covT b.N.C.l b.N.R.l ((marksF b l).map (Tr.str b.N.C.l b.N.R.l)) T.tr) then 0 else 1) else 3) else orF (mcheckC b l) (checkF b.N T)
def htV (b : BN) (l : List MT) (k : Int) (T : MT) : Bool := if htE b l k T = 0 then truT b.N.C.l b.N.R.l ((marksF b l).map (Tr.str b.N.C.l b.N.R.l)) (marksF b l).length T.tr k.toNat else false
/-- What hier.True hands back. -/
def RetHT (b : BN) (l : List MT) (k : Int) (T : MT) (w : World) (e : Ending) (w' : World) : Prop := e = .returned (.tuple #[.bool (htV b l k T), .int .i64 (htE b l k T)]) ∧ Below w.heap.size w w'

set_option maxRecDepth 100000 in
set_option maxHeartbeats 8000000 in
theorem hTrue_any (b : BN) (mo : ML) (k : Int) (T : MT) (w : World) (h : HIn b mo w) (hT : T.In w.heap.size w) (hTs : T.tr.size ≤ 1000000) : Calls Tryz.prog 30 #[b.val, .slice mo.A mo.l.length mo.c, .int .i64 k, T.val] w (RetHT b mo.l k T w) := by
  obtain ⟨W1, hW1, hB1, hs1, hk1⟩ := newBlk w _ rfl #[.slice b.N.C.A b.N.C.l.length b.N.C.c, .slice b.N.R.A b.N.R.l.length b.N.R.c, .slice b.N.I.A b.N.I.l.length b.N.I.c, .slice b.IA b.I.length b.ic, .slice b.R.A b.R.l.length b.R.c, .slice b.FA b.F.length b.fc, .slice b.L.A b.L.l.length b.L.c] 30
  obtain ⟨W2, hW2, hB2, hs2, hk2⟩ := newBlk W1 _ hs1 #[.int .i64 T.op, .int .i64 T.n, .slice T.A T.args.length T.c] 33
  have hB : Below w.heap.size w W2 := hB1.trans (hB2.mono (by omega))
  have hk12 := blk_lat0 hk1 (hB2.mono (by omega))
  have hS : ∀ w', Below W2.heap.size W2 w' → BBox w' w.heap.size b ∧ (w'.cell? ⟨w.heap.size + 1, 0, none⟩ = some (.int .i64 T.op) ∧ w'.cell? ⟨w.heap.size + 1, 1, none⟩ = some (.int .i64 T.n) ∧ w'.cell? ⟨w.heap.size + 1, 2, none⟩ = some (.slice T.A T.args.length T.c)) := fun w' hb => ⟨bbox_of (blk_lat hk12 hb), (res3 (blk_lat hk2 hb)).1⟩
  have h2 := h.later hB
  have hT2 := hT.later hB
  have hd : Below W2.heap.size W2 W2.drew := (Below.refl _ _).drew
  have hck := (h2.later (Below.refl W2.heap.size W2).drew).check
  have hcc := fun w' (hb : Below W2.heap.size W2 w') => cCheckA_any b.N T w' (h2.later hb).gt.ga (h2.later hb).bi.n (hT2.later hb) (by rw [MT.pre_length]; exact hTs)
  obtain ⟨z1, hz1⟩ : ∃ z, mcheckC b mo.l = z := ⟨_, rfl⟩
  obtain ⟨z2, hz2⟩ : ∃ z, checkF b.N T = z := ⟨_, rfl⟩
  obtain ⟨z, hz⟩ : ∃ z, orF z1 z2 = z := ⟨_, rfl⟩
  have hor := orErr_any (x := z1) (y := z2)
  rw [hz] at hor
  rw [hz1] at hck
  rw [hz2] at hcc
  have HZ := Lib.hid (And.intro hz1 (And.intro hz2 hz))
  have HS := Lib.hid hS
  have HB := Lib.hid hB
  have H2 := Lib.hid h2
  have HT2 := Lib.hid hT2
  have HCC := Lib.hid hcc
  obtain ⟨⟨c0, c1, c2, c3, c4, c5, c6⟩, x0, x1, x2⟩ := hS W2 (Below.refl _ _)
  obtain ⟨A, c, l⟩ := mo
  simp only [BN.val, NM.val, MT.val] at hck HCC ⊢
  clear hB1 hB2 hk1 hk2 hk12 hS h2 h hT hT2 hcc hB hz1 hz2 hz
  go_enter Tryz.func30, Tryz.ntmps30
  go_wp2_with fail
  clear c0 c1 c2 c3 c4 c5 c6 x0 x1 x2
  go_region_held (fun w' => ((w'.cell? ⟨w.heap.size, 0, none⟩ = some (.slice b.N.C.A b.N.C.l.length b.N.C.c) ∧ w'.cell? ⟨w.heap.size, 1, none⟩ = some (.slice b.N.R.A b.N.R.l.length b.N.R.c) ∧ w'.cell? ⟨w.heap.size, 2, none⟩ = some (.slice b.N.I.A b.N.I.l.length b.N.I.c) ∧ w'.cell? ⟨w.heap.size, 3, none⟩ = some (.slice b.IA b.I.length b.ic) ∧ w'.cell? ⟨w.heap.size, 4, none⟩ = some (.slice b.R.A b.R.l.length b.R.c) ∧ w'.cell? ⟨w.heap.size, 5, none⟩ = some (.slice b.FA b.F.length b.fc) ∧ w'.cell? ⟨w.heap.size, 6, none⟩ = some (.slice b.L.A b.L.l.length b.L.c)) ∧ (w'.cell? ⟨w.heap.size + 1, 0, none⟩ = some (.int .i64 T.op) ∧ w'.cell? ⟨w.heap.size + 1, 1, none⟩ = some (.int .i64 T.n) ∧ w'.cell? ⟨w.heap.size + 1, 2, none⟩ = some (.slice T.A T.args.length T.c))))
    (first | exact HS.out _ hd | exact HS.out _ hb4 | exact HS.out _ hb5 | exact HS.out _ hb5a)
    (first
      | (go_at_call 71; refine (hor w5.heap.size _ e0 e1).mono ?_; rintro e w6 ⟨rfl, rfl⟩)
      | (go_at_call 69; refine (HCC.out w4 hb4).mono ?_; rintro e w5 ⟨rfl, hb5'⟩; have hb5 : Below W2.heap.size W2 w5 := hb4.trans (hb5'.mono hb4.size); have hb5a : Below W2.heap.size W2 (w5.alloc (.cells #[.int .i64 z1, .int .i64 z2] 42)) := hb5.alloc hb5.size _; have e0 := cell_of_blk (World.alloc_heap_new' w5 (.cells #[.int .i64 z1, .int .i64 z2] 42)) 0; have e1 := cell_of_blk (World.alloc_heap_new' w5 (.cells #[.int .i64 z1, .int .i64 z2] 42)) 1)
      | (go_at_call 66; refine hck.mono ?_; clear hck; rintro e w4 ⟨rfl, hb4'⟩; have hb4 : Below W2.heap.size W2 w4 := hd.trans hb4'))
  have HB5 := Lib.hid hb5a
  generalize (w5.alloc (.cells #[.int .i64 z1, .int .i64 z2] 42)) = w6 at hb5a HB5 ⊢
  obtain ⟨⟨c0, c1, c2, c3, c4, c5, c6⟩, x0, x1, x2⟩ := HS.out w6 hb5a
  clear hb5 hb5a hb5' hb4 hb4' hor e0 e1 hd
  rcases hz0 : (z != 0)
  · have hz1 : z = 0 := by simpa using hz0
    subst hz1
    obtain ⟨k1, k2, k3⟩ := HZ.out
    have hmz : mcheckC b l = 0 := by
      rw [orF] at k3
      split at k3
      · rename_i h; rw [← h]; exact k1
      · rename_i h; exact absurd k3 h
    have hcz : checkF b.N T = 0 := by
      rw [k2]
      rw [orF] at k3
      split at k3
      · exact k3
      · rename_i h; exact absurd k3 h
    have hof := (H2.out.later HB5.out).of (mo := ⟨A, c, l⟩) hmz
    obtain ⟨hok, hPT, -⟩ := chk_node (n := b.N) (T := T) (by rw [hcz]; rfl)
    have hE : ∀ (Ts : List MT), Ts.map MT.tr = marksF b l → Ts.length ≤ 8 → htE b l k T = (if decide (0 ≤ k) && (decide (k < ((2 ^ Ts.length : Nat) : Int)) && covT b.N.C.l b.N.R.l (Ts.map (strT b.N)) T.tr) then 0 else 1) ∧ htV b l k T = (if htE b l k T = 0 then truT b.N.C.l b.N.R.l (Ts.map (strT b.N)) Ts.length T.tr k.toNat else false) := fun Ts h1 h2 => by
      have e1 : (marksF b l).length = Ts.length := by rw [← h1, List.length_map]
      have e2 : (marksF b l).map (Tr.str b.N.C.l b.N.R.l) = Ts.map (strT b.N) := by rw [← h1, List.map_map]; rfl
      refine ⟨?_, by rw [htV, e1, e2]⟩
      rw [htE, hmz, hcz, e1, e2]
      simp only [orF, if_true]
      rw [if_pos h2]
    have hE3 : 8 < (marksF b l).length → htE b l k T = 3 ∧ htV b l k T = false := fun h => by
      have : htE b l k T = 3 := by rw [htE, hmz, hcz]; simp only [orF, if_true]; rw [if_neg (by omega)]
      exact ⟨this, by rw [htV, this]; rfl⟩
    have HE := Lib.hid hE
    have HE3 := Lib.hid hE3
    have HPT := Lib.hid hPT
    simp only [BN.val] at hof
    clear hmz hcz hE hE3 k1 k2 k3 hPT
    go_wp2_with (go_at_call 67; refine hof.mono ?_; clear hof; rintro e w7 ⟨hb7', (⟨h8, tb, lo, Ts, rfl, htf, htr, hlo⟩ | ⟨h8, rfl⟩)⟩)
    · have hb7 := HB5.out.trans (hb7'.mono HB5.out.size)
      have hl8 := htf.len
      obtain ⟨e1, e2⟩ := HE.out Ts htr hl8
      have hty := isType_any k w7 htf
      have hcv := covers_any T w7 htf ((H2.out.later hb7).g) ((H2.out.later hb7).bi.n) (HT2.out.later hb7) hok HPT.out
      obtain ⟨⟨c0, c1, c2, c3, c4, c5, c6⟩, x0, x1, x2⟩ := HS.out w7 hb7
      have HTF := Lib.hid htf
      have H7 := Lib.hid hb7
      obtain ⟨cv, hcve⟩ : ∃ cv, covT b.N.C.l b.N.R.l (Ts.map (strT b.N)) T.tr = cv := ⟨_, rfl⟩
      obtain ⟨p, hp⟩ : ∃ p, 2 ^ Ts.length = p := ⟨_, rfl⟩
      have hp256 : p ≤ 256 := by rw [← hp]; exact Nat.le_trans (Nat.pow_le_pow_right (by omega) hl8) (by decide)
      rw [hp] at hty e1
      rw [hcve] at hcv e1
      have HCV := Lib.hid hcve
      have HE1 := Lib.hid e1
      have HE2 := Lib.hid e2
      simp only [MT.val] at hcv
      clear htf hb7 hb7' htr hlo h8 hcve e1 e2 hp
      rcases q1 : (decide (0 ≤ k) && decide (k < (p : Int)))
      · rw [q1] at hty
        have he : htE b l k T = 1 := by rw [HE1.out, ← Bool.and_assoc, q1]; rfl
        have hv : htV b l k T = false := by rw [HE2.out, he]; rfl
        have HR := Lib.hid (And.intro he hv)
        clear he hv
        go_wp2_with (go_at_call 72; refine hty.mono ?_; clear hty; rintro e w8 ⟨rfl, rfl⟩)
        go_ret2
        exact ⟨by rw [HR.out.1, HR.out.2]; rfl, HB.out.trans (H7.out.mono HB.out.size)⟩
      · rw [q1] at hty
        cases cv
        · have he : htE b l k T = 1 := by rw [HE1.out, ← Bool.and_assoc, q1]; rfl
          have hv : htV b l k T = false := by rw [HE2.out, he]; rfl
          have HR := Lib.hid (And.intro he hv)
          clear he hv
          go_wp2_with (first
            | (go_at_call 73; refine hcv.mono ?_; clear hcv; rintro e w9 ⟨rfl, hb9⟩)
            | (go_at_call 72; refine hty.mono ?_; clear hty; rintro e w8 ⟨rfl, rfl⟩))
          go_ret2
          exact ⟨by rw [HR.out.1, HR.out.2]; rfl, HB.out.trans ((H7.out.trans (hb9.mono H7.out.size)).mono HB.out.size)⟩
        · have he : htE b l k T = 0 := by rw [HE1.out, ← Bool.and_assoc, q1]; rfl
          have hv : htV b l k T = truT b.N.C.l b.N.R.l (Ts.map (strT b.N)) Ts.length T.tr k.toNat := by rw [HE2.out, if_pos he]
          have HR := Lib.hid (And.intro he hv)
          rw [Bool.and_eq_true, decide_eq_true_eq, decide_eq_true_eq] at q1
          obtain ⟨j, rfl⟩ := Int.eq_ofNat_of_zero_le q1.1
          have hj : j < 256 := by omega
          have htt := fun w' (hb : Below w7.heap.size w7 w') => tTrue_any hok T w' (HTF.out.later hb) ((H2.out.later (H7.out.trans (hb.mono H7.out.size))).g) ((H2.out.later (H7.out.trans (hb.mono H7.out.size))).bi.n) (HT2.out.later (H7.out.trans (hb.mono H7.out.size))) HPT.out HCV.out
          have HTT := Lib.hid htt
          have HSS := Lib.hid (fun w' (hb : Below w7.heap.size w7 w') => (HS.out w' (H7.out.trans (hb.mono H7.out.size))).2)
          simp only [MT.val] at HTT
          clear he hv htt
          go_wp2_with (first
            | (go_at_call 75; refine (TS.bHas_sw hsw j hj w10).mono ?_; rintro e w11 ⟨rfl, hb11⟩)
            | (go_at_call 74; refine (HTT.out w9 hb9).mono ?_; rintro e w10 ⟨na, nb, nc, nd, rfl, hsw, hb10⟩)
            | (go_at_call 73; refine hcv.mono ?_; clear hcv; rintro e w9 ⟨rfl, hb9⟩; clear x0 x1 x2; obtain ⟨x0, x1, x2⟩ := HSS.out w9 hb9)
            | (go_at_call 72; refine hty.mono ?_; clear hty; rintro e w8 ⟨rfl, rfl⟩))
          go_ret2
          have hbE := hb9.trans ((hb10.trans (hb11.mono hb10.size)).mono hb9.size)
          exact ⟨by rw [HR.out.1, HR.out.2]; rfl, HB.out.trans ((H7.out.trans (hbE.mono H7.out.size)).mono HB.out.size)⟩
    · obtain ⟨e1, e2⟩ := HE3.out h8
      have HR := Lib.hid (And.intro e1 e2)
      clear e1 e2
      go_wp2_with fail
      go_ret2
      exact ⟨by rw [HR.out.1, HR.out.2]; rfl, HB.out.trans ((HB5.out.trans (hb7'.mono HB5.out.size)).mono HB.out.size)⟩
  · have hz1 : z ≠ 0 := by simpa using hz0
    obtain ⟨k1, k2, k3⟩ := HZ.out
    have he : htE b l k T = z := by rw [htE, k1, k2, k3, if_neg hz1]
    have hv : htV b l k T = false := by rw [htV, he, if_neg hz1]
    have HR := Lib.hid (And.intro he hv)
    clear he hv k1 k2 k3
    go_wp2_with fail
    go_ret2
    exact ⟨by rw [HR.out.1, HR.out.2]; rfl, HB.out.trans (HB5.out.mono HB.out.size)⟩
end Go.Proofs.YtndkcimajeofcaaGreatDoor
