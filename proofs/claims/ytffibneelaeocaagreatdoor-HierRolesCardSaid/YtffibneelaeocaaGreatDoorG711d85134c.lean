import Derived.Test.YtffibneelaeocaaGreatDoorG27c86308f2
import Derived.Maps.OwnIn
namespace Go.Proofs.YtffibneelaeocaaGreatDoor
open Go.RowKit Go.Shelf

attribute [local go_sem] Oper.semAt_some

/-- The block in which the row of box b lies. -/
def rowAt (W : World) (b : Nat) : Option Nat := (W.cell? ⟨b, 0, none⟩).bind Value.ownBlock
def RowsOK (bs : List Nat) (W : World) : Prop := ∀ b ∈ bs, ∀ g, rowAt W b = some g → g < W.heap.size
theorem rowAt_block {W W' : World} {b : Nat} (h : W'.heap[b]? = W.heap[b]?) : rowAt W' b = rowAt W b := by unfold rowAt World.cell?; rw [h]
theorem RowsOK.later {bs : List Nat} {W W' : World} (h : RowsOK bs W) (hlt : ∀ b ∈ bs, b < W.heap.size) (hb : Below W.heap.size W W') : RowsOK bs W' := fun b hm g hg => by
  rw [rowAt_block (hb.block b (hlt b hm))] at hg
  exact Nat.lt_of_lt_of_le (h b hm g hg) hb.size

/-- WHAT A ROUND KEEPS THAT COLLECTS INTO ROWS: whatever lies below n₀; every block of cells from n₁ on but those rows' own; a row's block is the old one or a new one. -/
structure KR (n₀ n₁ : Nat) (bs : List Nat) (W W' : World) : Prop where
  below : Below n₀ W W'
  keep : ∀ k o, n₁ ≤ k → W.heap[k]? = some o → o.isCells = true → (∀ b ∈ bs, rowAt W b ≠ some k) → W'.heap[k]? = some o
  rows : ∀ b ∈ bs, rowAt W' b = rowAt W b ∨ ∃ g, rowAt W' b = some g ∧ W.heap.size ≤ g ∧ g < W'.heap.size

section
variable {n₀ n₁ : Nat} {bs : List Nat} {A B C W W' W2 : World}
theorem KR.refl (n₀ n₁ : Nat) (bs : List Nat) (W : World) : KR n₀ n₁ bs W W := ⟨Below.refl _ _, fun _ _ _ h _ _ => h, fun _ _ => .inl rfl⟩
theorem KR.trans (h : KR n₀ n₁ bs A B) (k : KR n₀ n₁ bs B C) : KR n₀ n₁ bs A C := by
  have s1 := h.below.size
  have s2 := k.below.size
  refine ⟨h.below.trans k.below, fun i o hi ho hc hr => ?_, fun b hb => ?_⟩
  · have hlt : i < A.heap.size := (Array.getElem?_eq_some_iff.1 ho).1
    refine k.keep i o hi (h.keep i o hi ho hc hr) hc fun b hb e => ?_
    rcases h.rows b hb with h1 | ⟨g, h1, h2, -⟩
    · exact hr b hb (h1.symm.trans e)
    · rw [h1] at e; cases e; omega
  · rcases k.rows b hb with k1 | ⟨g, k1, k2, k3⟩
    · rcases h.rows b hb with h1 | ⟨g, h1, h2, h3⟩
      · exact .inl (k1.trans h1)
      · exact .inr ⟨g, k1.trans h1, h2, by omega⟩
    · exact .inr ⟨g, k1, by omega, k3⟩
theorem KR.ok (h : KR n₀ n₁ bs W W') (ho : RowsOK bs W) : RowsOK bs W' := fun b hb g hg => by
  have := h.below.size
  rcases h.rows b hb with h1 | ⟨g', h1, -, h3⟩
  · have := ho b hb g (h1.symm.trans hg); omega
  · rw [h1] at hg; cases hg; exact h3
theorem KR.of_below (hbs : ∀ b ∈ bs, b < n₁) (hn1 : n₁ ≤ W.heap.size) (hn0 : n₀ ≤ W.heap.size) (h : Below W.heap.size W W') : KR n₀ n₁ bs W W' :=
  ⟨h.mono hn0, fun k _ _ ho _ _ => (h.block k (Array.getElem?_eq_some_iff.1 ho).1).trans ho, fun b hb => .inl (rowAt_block (h.block b (Nat.lt_of_lt_of_le (hbs b hb) hn1)))⟩
theorem KR.alloc (hbs : ∀ b ∈ bs, b < n₁) (hn1 : n₁ ≤ W.heap.size) (hn0 : n₀ ≤ W.heap.size) (o : Obj) : KR n₀ n₁ bs W (W.alloc o) :=
  KR.of_below hbs hn1 hn0 ((Below.refl _ _).alloc (Nat.le_refl _) _)
/-- A block that is new is no row's. -/
theorem KR.fresh (hbs : ∀ b ∈ bs, b < n₁) (hn1 : n₁ ≤ W.heap.size) (ho : RowsOK bs W) {o o' : Obj} (h : KR n₀ n₁ bs (W.alloc o) W2) (hk : (W.alloc o).heap[W.heap.size]? = some o') (hc : o'.isCells = true) : W2.heap[W.heap.size]? = some o' :=
  h.keep _ _ hn1 hk hc fun b hb e => by
    rw [rowAt_block (((Below.refl W.heap.size W).alloc (Nat.le_refl _) o).block b (Nat.lt_of_lt_of_le (hbs b hb) hn1))] at e
    have := ho b hb _ e
    omega
theorem KR.b {w : World} (hbs : ∀ b ∈ bs, b < n₁) (hn1 : n₁ ≤ w.heap.size) (hn : n₀ ≤ w.heap.size) (W : World) (l : Nat) (o o' : Obj) (hl : w.heap.size ≤ l) (h : W.heap[l]? = some o) (hc : o.isCells = false) (hw : o.isWalk = false) : KR n₀ n₁ bs W (W.putObj l o') :=
  ⟨belowK_b hn W l o o' hl h hc hw, fun k o'' _ ho hc' _ => by
    by_cases e : k = l
    · subst e; rw [h] at ho; cases ho; rw [hc] at hc'; cases hc'
    · exact (World.putObj_heap_other e).trans ho, fun b hb => .inl (rowAt_block (World.putObj_heap_other (by have := hbs b hb; omega)))⟩
/-- ONE APPEND TO THE ROW OF BOX b, and the store back. -/
theorem KR.app {w1 : World} {b : Nat} {t : TypeId} {v v' : Value} {tmp : Obj} (hbs : ∀ b ∈ bs, b < n₁) (hn1 : n₁ ≤ W.heap.size) (hn0 : n₀ ≤ W.heap.size) (hb : b ∈ bs) (hb0 : n₀ ≤ b) (hbox : Boxed W b t v) (hlow : ∀ g, v.ownBlock = some g → n₀ ≤ g ∧ ∀ b' ∈ bs, b' ≠ g)
    (hgrow : (W.alloc tmp).grownBy w1 v.ownBlock) (hat : v'.ownBlock = v.ownBlock ∨ v'.ownBlock = some (W.alloc tmp).heap.size) (hlt : ∀ g, v'.ownBlock = some g → g < w1.heap.size) : KR n₀ n₁ bs W (w1.setCell ⟨b, 0, none⟩ v') := by
  have ha : Below W.heap.size W (W.alloc tmp) := (Below.refl _ _).alloc (Nat.le_refl _) _
  have sA : (W.alloc tmp).heap.size = W.heap.size + 1 := by simp
  have sg := hgrow.size
  have sz : (w1.setCell ⟨b, 0, none⟩ v').heap.size = w1.heap.size := by simp [World.setCell]
  have hrowb : rowAt W b = v.ownBlock := by unfold rowAt; rw [hbox.cell]; rfl
  refine ⟨(((ha.mono hn0)).grown hgrow (by omega) (fun k e => (hlow k e).1)).setCell (p := ⟨b, 0, none⟩) hb0 _, fun k o hk ho hc hr => ?_, fun b' hb' => ?_⟩
  · have hlt : k < W.heap.size := (Array.getElem?_eq_some_iff.1 ho).1
    have h1 := (ha.block k hlt).trans ho
    have h2 := (hgrow.block k (by omega) (fun e => hr b hb (hrowb.trans e.symm))).trans h1
    exact (Below.heap_setCell _ _ _ k (by have := hbs b hb; show k ≠ b; omega)).trans h2
  · by_cases e : b' = b
    · subst e
      have hb1 : Boxed w1 b' t v := ((hgrow.block b' (by have := hbox.lt; omega) (fun e => (hlow b' e.symm).2 b' hb' rfl)).trans ((ha.block b' hbox.lt).trans hbox))
      have hr' : rowAt (w1.setCell ⟨b', 0, none⟩ v') b' = v'.ownBlock := by unfold rowAt; rw [(Boxed.set v' hb1).cell]; rfl
      rcases hat with h | h
      · exact .inl (by rw [hr', hrowb, h])
      · exact .inr ⟨_, by rw [hr', h], by omega, by rw [sz]; exact hlt _ h⟩
    · have hlt' : b' < W.heap.size := Nat.lt_of_lt_of_le (hbs b' hb') hn1
      refine .inl (rowAt_block ?_)
      exact (Below.heap_setCell _ _ _ b' e).trans ((hgrow.block b' (by omega) (fun e' => (hlow b' e'.symm).2 b' hb' rfl)).trans (ha.block b' hlt'))
end

set_option maxRecDepth 100000 in
set_option maxHeartbeats 4000000 in
theorem visit_inR (bs : List Nat) {n₁ : Nat} (hbs : ∀ b ∈ bs, b < n₁) (l n₀ D N : Nat) (w0 : World) (J Jx : List (Nd n₀ w0) → World → Prop) (hJ : AbidesFrom D J)
    (hY : ∀ m pre x W, J pre W → pre.length < N → YieldAt Fence.wide m Tryz.prog l #[.int .i64 x.1.1, x.1.2.val] W fun e W' =>
      (e = .returned (.bool true) ∧ J (pre ++ [x]) W' ∧ KR n₀ n₁ bs W W') ∨ (e = .returned (.bool false) ∧ Jx (pre ++ [x]) W')) (T : MT) :
    ∀ (n lev : Nat) (pre : List (Nd n₀ w0)) (W : World), T.In n₀ w0 → Below n₀ w0 W → n₀ ≤ W.heap.size → n₁ ≤ W.heap.size → RowsOK bs W → J pre W → pre.length + (T.pre lev).length ≤ N → lev + (T.pre lev).length ≤ 1000000000000 →
      CallsIn Fence.wide n Tryz.prog 215 #[T.val, .int .i64 lev, .func (.yield l) #[] #[]] W fun e W' =>
        (e = .returned (.bool true) ∧ ∃ q : List (Nd n₀ w0), q.map (·.1) = T.pre lev ∧ J (pre ++ q) W' ∧ KR n₀ n₁ bs W W') ∨
        (e = .returned (.bool false) ∧ ∃ q : List (Nd n₀ w0), q.map (·.1) <+: T.pre lev ∧ Jx (pre ++ q) W') := by
  induction T using MT.induct with
  | h op nn A c args ih =>
    intro n lev pre W hin hW hn0 hn1 hok hJ0 hN hlev
    have hdd : ∀ k : Nat, (Fence.wide.depth.isSome = true → 1 ≤ k) := fun k h => by cases h
    have hTin := hin
    rw [MT.In] at hin
    obtain ⟨hlc, hc, hr, hrow⟩ := hin
    have hsz : args.length ≤ 9223372036854775807 := by omega
    obtain ⟨W1, hW1, hB1, hs1, c0, c1, c2, hblk⟩ := box3 W (Value.int IntKind.i64 op) (Value.int IntKind.i64 nn) (Value.slice A args.length c) 33
    have hJ1 : J pre W1 := by rw [← hW1]; exact hJ pre W _ none hJ0 (World.grownBy_alloc W _ none) (fun r e => by cases e)
    rw [MT.pre] at hN hlev
    simp only [List.length_cons] at hN hlev
    have hK1 : KR n₀ n₁ bs W W1 := by rw [← hW1]; exact KR.alloc hbs hn1 hn0 _
    have hy := (hY (n - 1) pre ⟨(lev, .mk op nn A c args), hTin⟩ W1 hJ1 (by omega))
    obtain ⟨fn, tmps, assign, body, hy, hR⟩ := hy
    simp only [MT.val, MT.op, MT.n, MT.A, MT.c, MT.args] at hy ⊢
    refine callsIn_of_wp Tryz.func215 rfl trivial ?_ rfl
    simp only [Tryz.ntmps215, List.size_toArray, List.length_cons, List.length_nil, Nat.reduceAdd, Nat.reduceSub, Array.replicate_succ, Array.replicate_zero, List.push_toArray, List.append_toArray, List.nil_append, List.cons_append]
    have hc2 : ∀ W2, KR n₀ n₁ bs W1 W2 → W2.cell? ⟨W.heap.size, 2, none⟩ = some (Value.slice A args.length c) := fun W2 hk => cell_of_blk (by rw [← hW1] at hk; exact KR.fresh hbs hn1 hok hk (by rw [hW1]; exact hblk) rfl) 2
    have HC2 := Lib.hid hc2
    clear hc2
    gi_wp2_with (refine ⟨hdd _, ?_⟩; refine hR.mono ?_; clear hR; rintro e W2 (⟨rfl, hJ2, hk2⟩ | ⟨rfl, hx2⟩); have hcw := HC2.out W2 hk2)
    · clear hcw
      have hkW2 : KR n₀ n₁ bs W W2 := hK1.trans hk2
      gi_loopw [17] (fun i wr => ∃ (k : Nat) (q : List (Nd n₀ w0)), k ≤ args.length ∧ i = .int .i64 k ∧ q.map (·.1) = (lev, MT.mk op nn A c args) :: MT.preAll (lev + 1) (args.take k) ∧ J (pre ++ q) wr ∧ KR n₀ n₁ bs W wr) (fun i _ => args.length - (intOf i).toNat)
      case atStart => exact ⟨0, [⟨(lev, .mk op nn A c args), hTin⟩], Nat.zero_le _, rfl, by simp [MT.preAll], hJ2, hkW2⟩
      case round =>
        obtain ⟨k, q, hk, rfl, hq, hJk, hkk⟩ := hrel
        have HQ := Lib.hid hq
        have HJ := Lib.hid hJk
        have HK := Lib.hid hkk
        clear hq hJk hkk
        by_cases hlt : k < args.length
        · obtain ⟨ab, aoff, rfl, -, g0, g1, g2⟩ := elem3 (w := w0) hr (hW.trans HK.out.below) hlt
          obtain ⟨W3, hW3, hB3, hs3, b0, b1, b2, -⟩ := box3 wr (Value.int IntKind.i64 args[k].op) (Value.int IntKind.i64 args[k].n) (Value.slice args[k].A args[k].args.length args[k].c) 33
          have hk3 : KR n₀ n₁ bs W W3 := HK.out.trans (by rw [← hW3]; exact KR.alloc hbs (by have := HK.out.below.size; omega) (by have := HK.out.below.size; omega) _)
          have hsz3 := hk3.below.size
          have hql : q.length = (MT.preAll (lev + 1) (args.take k)).length + 1 := by have := congrArg List.length HQ.out; simpa using this
          have hsp := congrArg List.length (MT.preAll_split (lev + 1) args k hlt)
          simp only [List.length_append] at hsp
          have hih := ih k hlt (n - 1) (lev + 1) (pre ++ q) W3 (hrow.at_ k hlt) (hW.trans hk3.below) (by omega) (by omega) (hk3.ok hok) (by rw [← hW3]; exact hJ _ _ _ none HJ.out (World.grownBy_alloc wr _ none) (fun r e => by cases e)) (by simp only [List.length_append]; omega) (by omega)
          rw [Int.natCast_add, Int.natCast_one] at hih
          have HLQ := Lib.hid hql
          have HSP := Lib.hid hsp
          clear hql hsp
          gi_wp2_with (refine ⟨trivial, hdd _, ?_⟩; refine hih.mono ?_; clear hih; rintro e W4 (⟨rfl, q4, hq4, hJ4, hk4⟩ | ⟨rfl, q4, hq4, hx4⟩))
          · go_roundw
            case rel => exact ⟨k + 1, q ++ q4, by omega, by go_num, by rw [List.map_append, HQ.out, hq4, MT.preAll_take _ _ _ hlt]; rfl, by rw [← List.append_assoc]; exact hJ4, hk3.trans hk4⟩
            case measure => simp [intOf]; omega
          · go_ret
            refine .inr ⟨rfl, q ++ q4, ?_, by rw [← List.append_assoc]; exact hx4⟩
            rw [List.map_append, HQ.out, MT.pre, MT.preAll_split (lev + 1) args k hlt]
            obtain ⟨r, hr'⟩ := hq4
            exact ⟨r ++ MT.preAll (lev + 1) (args.drop (k + 1)), by rw [← hr']; simp⟩
        · gi_wp2
          go_ret
          exact .inl ⟨rfl, q, by rw [HQ.out, MT.pre, List.take_of_length_le (by omega)], HJ.out, HK.out⟩
    · go_ret
      exact .inr ⟨rfl, [_], ⟨MT.preAll (lev + 1) args, by rw [MT.pre]; rfl⟩, hx2⟩

set_option maxRecDepth 100000 in
set_option maxHeartbeats 1000000 in
theorem walk1_stopsR (bs : List Nat) (n n₀ n₁ Bt : Nat) (hbs : ∀ b ∈ bs, b < n₁) (w0 w : World) (T : MT) (hT : T.In n₀ w0) (hw : Below n₀ w0 w) (hn0 : n₀ ≤ w.heap.size) (hn1 : n₁ ≤ w.heap.size) (hsz : (T.pre 1).length ≤ 100000000000)
    (hrok : RowsOK bs w) (hBt : w.heap[Bt]? = some (.cells #[.int .i64 T.op, .int .i64 T.n, .slice T.A T.args.length T.c] 33)) :
    SeqStopsK Fence.wide n Tryz.prog 214 #[.pointer (some ⟨Bt, 0, none⟩)] (fun x : Nd n₀ w0 => #[.int .i64 x.1.1, x.1.2.val]) (KR n₀ n₁ bs)
      (fun ys => ys.map (·.1) = T.pre 1) (fun pre => pre.map (·.1) <+: T.pre 1) (T.pre 1).length w := by
  intro l J Jx W hW hJ hJx hY h0
  have hblt : Bt < w.heap.size := (Array.getElem?_eq_some_iff.1 hBt).1
  have hB := (hW.block Bt hblt).trans hBt
  have c0 := cell_of_blk hB 0
  have c1 := cell_of_blk hB 1
  have c2 := cell_of_blk hB 2
  simp only [List.getElem?_toArray, List.getElem?_cons_zero, List.getElem?_cons_succ] at c0 c1 c2
  have hv := visit_inR bs hbs l n₀ W.heap.size (T.pre 1).length w0 J Jx hJ (fun m pre x W1 hj hl => YieldAt.anyDepth rfl m (hY pre x W1 hj hl)) T (n - 1) 1 [] W hT (hw.trans (hW.mono hn0)) (by have := hW.size; omega) (by have := hW.size; omega) (hrok.later (fun b hb => Nat.lt_of_lt_of_le (hbs b hb) hn1) hW) h0 (by simp) (by omega)
  have hdd : ∀ k : Nat, (Fence.wide.depth.isSome = true → 1 ≤ k) := fun k h => by cases h
  refine callsIn_of_wp Tryz.func214 rfl trivial ?_ rfl
  simp only [Tryz.ntmps214, List.size_toArray, List.length_cons, List.length_nil, Nat.reduceAdd, Nat.reduceSub, Array.replicate_succ, Array.replicate_zero, List.push_toArray, List.append_toArray, List.nil_append, List.cons_append]
  gi_wp2_with (refine ⟨trivial, hdd _, ?_⟩; refine hv.mono ?_; clear hv; rintro e W4 (⟨rfl, q4, hq4, hJ4, hk4⟩ | ⟨rfl, q4, hq4, hx4⟩))
  · go_end0
    exact ⟨⟨_, rfl⟩, .inl ⟨q4, hq4, hJ4⟩⟩
  · go_end0
    exact ⟨⟨_, rfl⟩, .inr ⟨q4, hq4, hx4⟩⟩

end Go.Proofs.YtffibneelaeocaaGreatDoor
