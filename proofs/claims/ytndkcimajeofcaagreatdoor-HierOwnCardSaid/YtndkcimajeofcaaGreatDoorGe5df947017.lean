import Derived.Test.YtndkcimajeofcaaGreatDoorG64e22cfd19
import Derived.RangeFuncNested
import Derived.RangeFuncBound
import Derived.RangeFuncCalls
import Derived.RangeFuncLeaves
import Derived.RangeFuncBox
import Derived.Shelf.Abstract
import Derived.Shelf.RegionOpen
import Derived.OwnWalkIn
import Derived.TacticsInMore
import Derived.LoopNIn
import Derived.LoopIn
namespace Go.Proofs.YtndkcimajeofcaaGreatDoor
open Go.RowKit Go.Shelf

attribute [local go_sem] Oper.semAt_some

theorem RoundIn.anyDepth {F : Fence} (hd : F.depth = none) {m m' : Nat} {P : Program} {l : Nat} {f : FuncId} {tmps : Array Value} {assign body : Code} {w : World} {R : Ending → World → Prop}
    (h : RoundIn F m P l f tmps assign body w R) : RoundIn F m' P l f tmps assign body w R := ⟨h.1, fun c cs _ => h.2 c cs (fun d hdd => by rw [hd] at hdd; cases hdd)⟩
theorem YieldAt.anyDepth {F : Fence} (hd : F.depth = none) {m : Nat} (m' : Nat) {P : Program} {l : Nat} {args : Array Value} {W : World} {R : Ending → World → Prop} (h : YieldAt F m P l args W R) : YieldAt F m' P l args W R := by
  obtain ⟨fn, tmps, assign, body, hy, hR⟩ := h
  exact ⟨fn, tmps, assign, body, hy, RoundIn.anyDepth hd hR⟩

/-- WHAT A ROUND KEEPS: whatever lies below n₀, and every block of cells from n₁ on. -/
structure Kp (n₀ n₁ : Nat) (W W' : World) : Prop where
  below : Below n₀ W W'
  keep : ∀ k o, n₁ ≤ k → W.heap[k]? = some o → o.isCells = true → W'.heap[k]? = some o

theorem Kp.refl (n₀ n₁ : Nat) (W : World) : Kp n₀ n₁ W W := ⟨Below.refl _ _, fun _ _ _ h _ => h⟩
theorem Kp.trans {n₀ n₁ : Nat} {A B C : World} (h : Kp n₀ n₁ A B) (k : Kp n₀ n₁ B C) : Kp n₀ n₁ A C :=
  ⟨h.below.trans k.below, fun i o hi ho hc => k.keep i o hi (h.keep i o hi ho hc) hc⟩
theorem Kp.of_below {n₀ n₁ : Nat} {A B : World} (h : Below A.heap.size A B) (hn : n₀ ≤ A.heap.size) : Kp n₀ n₁ A B :=
  ⟨h.mono hn, fun k o _ ho _ => by
    have hlt : k < A.heap.size := (Array.getElem?_eq_some_iff.1 ho).1
    exact (h.block k hlt).trans ho⟩
theorem Kp.alloc {n₀ n₁ : Nat} {A B : World} (h : Kp n₀ n₁ A B) (hn : n₀ ≤ B.heap.size) (o : Obj) : Kp n₀ n₁ A (B.alloc o) :=
  h.trans (Kp.of_below ((Below.refl _ _).alloc (Nat.le_refl _) _) hn)
theorem Kp.setCell {n₀ n₁ : Nat} {A B : World} (h : Kp n₀ n₁ A B) {p : Addr} (hp : A.heap.size ≤ p.block) (hn : n₀ ≤ p.block) (u : Value) : Kp n₀ n₁ A (B.setCell p u) :=
  ⟨h.below.setCell hn u, fun k o hk ho hc => by
    have hlt : k < A.heap.size := (Array.getElem?_eq_some_iff.1 ho).1
    exact (Below.heap_setCell _ _ _ _ (by omega)).trans (h.keep k o hk ho hc)⟩
theorem Kp.setBox {n₀ n₁ : Nat} {A B : World} (h : Kp n₀ n₁ A B) {p : Addr} (hp : p.block < n₁) (hn : n₀ ≤ p.block) (u : Value) : Kp n₀ n₁ A (B.setCell p u) :=
  ⟨h.below.setCell hn u, fun k o hk ho hc => (Below.heap_setCell _ _ _ _ (by omega)).trans (h.keep k o hk ho hc)⟩
theorem Kp.drew {n₀ n₁ : Nat} {A B : World} (h : Kp n₀ n₁ A B) : Kp n₀ n₁ A B.drew := ⟨h.below.drew, h.keep⟩
theorem Kp.b {n₀ n₁ : Nat} {w : World} (hn : n₀ ≤ w.heap.size) (W : World) (l : Nat) (o o' : Obj) (hl : w.heap.size ≤ l) (h : W.heap[l]? = some o) (hc : o.isCells = false) (hw : o.isWalk = false) : Kp n₀ n₁ W (W.putObj l o') :=
  ⟨belowK_b hn W l o o' hl h hc hw, fun k o'' _ ho hc' => by
    by_cases e : k = l
    · subst e; rw [h] at ho; cases ho; rw [hc] at hc'; cases hc'
    · exact (World.putObj_heap_other e).trans ho⟩

mutual
def MT.pre (lev : Nat) : MT → List (Nat × MT)
  | .mk op n A c args => (lev, .mk op n A c args) :: MT.preAll (lev + 1) args
def MT.preAll (lev : Nat) : List MT → List (Nat × MT)
  | [] => []
  | t :: ts => MT.pre lev t ++ MT.preAll lev ts
end

theorem MT.preAll_take (lev : Nat) : ∀ (args : List MT) (k : Nat) (hk : k < args.length), MT.preAll lev (args.take (k + 1)) = MT.preAll lev (args.take k) ++ MT.pre lev args[k]
  | [], k, hk => absurd hk (Nat.not_lt_zero _)
  | t :: ts, k, hk => by
    cases k with
    | zero => simp [MT.preAll]
    | succ k => simp only [List.take_succ_cons, MT.preAll, List.getElem_cons_succ, List.append_assoc]; rw [MT.preAll_take lev ts k (by simpa using hk)]
theorem MT.preAll_split (lev : Nat) : ∀ (args : List MT) (k : Nat) (hk : k < args.length), MT.preAll lev args = MT.preAll lev (args.take k) ++ (MT.pre lev args[k] ++ MT.preAll lev (args.drop (k + 1)))
  | [], k, hk => absurd hk (Nat.not_lt_zero _)
  | t :: ts, k, hk => by
    cases k with
    | zero => simp [MT.preAll]
    | succ k => simp only [List.take_succ_cons, MT.preAll, List.getElem_cons_succ, List.append_assoc, List.drop_succ_cons]; rw [MT.preAll_split lev ts k (by simpa using hk)]

theorem cell_of_blk {W : World} {b : Nat} {cs : Array Value} {t : TypeId} (h : W.heap[b]? = some (.cells cs t)) (i : Nat) : W.cell? ⟨b, i, none⟩ = cs[i]? := by simp [World.cell?, h]

/-- What comes to a round: the level and the node, which lies. -/
abbrev Nd (n₀ : Nat) (w0 : World) := { x : Nat × MT // x.2.In n₀ w0 }

set_option maxRecDepth 100000 in
set_option maxHeartbeats 4000000 in
theorem visit_in (l n₀ n₁ D N : Nat) (w0 : World) (J Jx : List (Nd n₀ w0) → World → Prop) (hJ : AbidesFrom D J)
    (hY : ∀ m pre x W, J pre W → pre.length < N → YieldAt Fence.wide m Tryz.prog l #[.int .i64 x.1.1, x.1.2.val] W fun e W' =>
      (e = .returned (.bool true) ∧ J (pre ++ [x]) W' ∧ Kp n₀ n₁ W W') ∨ (e = .returned (.bool false) ∧ Jx (pre ++ [x]) W')) (T : MT) :
    ∀ (n lev : Nat) (pre : List (Nd n₀ w0)) (W : World), T.In n₀ w0 → Below n₀ w0 W → n₀ ≤ W.heap.size → n₁ ≤ W.heap.size → J pre W → pre.length + (T.pre lev).length ≤ N → lev + (T.pre lev).length ≤ 1000000000000 →
      CallsIn Fence.wide n Tryz.prog 158 #[T.val, .int .i64 lev, .func (.yield l) #[] #[]] W fun e W' =>
        (e = .returned (.bool true) ∧ ∃ q : List (Nd n₀ w0), q.map (·.1) = T.pre lev ∧ J (pre ++ q) W' ∧ Kp n₀ n₁ W W') ∨
        (e = .returned (.bool false) ∧ ∃ q : List (Nd n₀ w0), q.map (·.1) <+: T.pre lev ∧ Jx (pre ++ q) W') := by
  induction T using MT.induct with
  | h op nn A c args ih =>
    intro n lev pre W hin hW hn0 hn1 hJ0 hN hlev
    have hdd : ∀ k : Nat, (Fence.wide.depth.isSome = true → 1 ≤ k) := fun k h => by cases h
    have hTin := hin
    rw [MT.In] at hin
    obtain ⟨hlc, hc, hr, hrow⟩ := hin
    have hsz : args.length ≤ 9223372036854775807 := by omega
    obtain ⟨W1, hW1, hB1, hs1, c0, c1, c2, hblk⟩ := box3 W (Value.int IntKind.i64 op) (Value.int IntKind.i64 nn) (Value.slice A args.length c) 33
    have hJ1 : J pre W1 := by rw [← hW1]; exact hJ pre W _ none hJ0 (World.grownBy_alloc W _ none) (fun r e => by cases e)
    rw [MT.pre] at hN hlev
    simp only [List.length_cons] at hN hlev
    have hK1 : Kp n₀ n₁ W W1 := Kp.of_below hB1 hn0
    have hy := (hY (n - 1) pre ⟨(lev, .mk op nn A c args), hTin⟩ W1 hJ1 (by omega))
    obtain ⟨fn, tmps, assign, body, hy, hR⟩ := hy
    simp only [MT.val, MT.op, MT.n, MT.A, MT.c, MT.args] at hy ⊢
    refine callsIn_of_wp Tryz.func158 rfl trivial ?_ rfl
    simp only [Tryz.ntmps158, List.size_toArray, List.length_cons, List.length_nil, Nat.reduceAdd, Nat.reduceSub, Array.replicate_succ, Array.replicate_zero, List.push_toArray, List.append_toArray, List.nil_append, List.cons_append]
    have hc2 : ∀ W2, Kp n₀ n₁ W1 W2 → W2.cell? ⟨W.heap.size, 2, none⟩ = some (Value.slice A args.length c) := fun W2 hk => cell_of_blk (hk.keep _ _ hn1 hblk rfl) 2
    have HC2 := Lib.hid hc2
    clear hc2
    gi_wp2_with (refine ⟨hdd _, ?_⟩; refine hR.mono ?_; clear hR; rintro e W2 (⟨rfl, hJ2, hk2⟩ | ⟨rfl, hx2⟩); have hcw := HC2.out W2 hk2)
    · clear hcw
      have hkW2 : Kp n₀ n₁ W W2 := hK1.trans hk2
      gi_loopw [17] (fun i wr => ∃ (k : Nat) (q : List (Nd n₀ w0)), k ≤ args.length ∧ i = .int .i64 k ∧ q.map (·.1) = (lev, MT.mk op nn A c args) :: MT.preAll (lev + 1) (args.take k) ∧ J (pre ++ q) wr ∧ Kp n₀ n₁ W wr) (fun i _ => args.length - (intOf i).toNat)
      case atStart => exact ⟨0, [⟨(lev, .mk op nn A c args), hTin⟩], Nat.zero_le _, rfl, by simp [MT.preAll], hJ2, hkW2⟩
      case round =>
        obtain ⟨k, q, hk, rfl, hq, hJk, hkk⟩ := hrel
        have HQ := Lib.hid hq
        have HJ := Lib.hid hJk
        have HK := Lib.hid hkk
        clear hq hJk hkk
        by_cases hlt : k < args.length
        · obtain ⟨ab, aoff, rfl, -, g0, g1, g2⟩ := elem3 (w := w0) hr (hW.trans HK.out.below) hlt
          obtain ⟨W3, hW3, hB3, hs3, b0, b1, b2, -⟩ := box3 wr (Value.int IntKind.i64 args[k].op) (Value.int IntKind.i64 args[k].n) (Value.slice args[k].A args[k].args.length args[k].c) 33
          have hk3 : Kp n₀ n₁ W W3 := HK.out.trans (Kp.of_below hB3 (by have := HK.out.below.size; omega))
          have hsz3 := hk3.below.size
          have hql : q.length = (MT.preAll (lev + 1) (args.take k)).length + 1 := by have := congrArg List.length HQ.out; simpa using this
          have hsp := congrArg List.length (MT.preAll_split (lev + 1) args k hlt)
          simp only [List.length_append] at hsp
          have hih := ih k hlt (n - 1) (lev + 1) (pre ++ q) W3 (hrow.at_ k hlt) (hW.trans hk3.below) (by omega) (by omega) (by rw [← hW3]; exact hJ _ _ _ none HJ.out (World.grownBy_alloc wr _ none) (fun r e => by cases e)) (by simp only [List.length_append]; omega) (by omega)
          rw [Int.natCast_add, Int.natCast_one] at hih
          have HLQ := Lib.hid hql
          have HSP := Lib.hid hsp
          clear hql hsp
          gi_wp2_with (refine ⟨trivial, hdd _, ?_⟩; refine hih.mono ?_; clear hih; rintro e W4 (⟨rfl, q4, hq4, hJ4, hk4⟩ | ⟨rfl, q4, hq4, hx4⟩))
          · go_roundw
            case rel => exact ⟨k + 1, q ++ q4, by omega, by go_num, by rw [List.map_append, HQ.out, hq4, MT.preAll_take _ _ _ hlt]; rfl, by rw [← List.append_assoc]; exact hJ4, hk3.trans hk4⟩
            case measure => simp [intOf]; omega
          · go_ret
            refine .inr ⟨rfl, q ++ q4, ?_, by rw [← List.append_assoc]; exact hx4⟩
            rw [List.map_append, HQ.out, MT.pre, MT.preAll_split (lev + 1) args k hlt]
            obtain ⟨r, hr'⟩ := hq4
            exact ⟨r ++ MT.preAll (lev + 1) (args.drop (k + 1)), by rw [← hr']; simp⟩
        · gi_wp2
          go_ret
          exact .inl ⟨rfl, q, by rw [HQ.out, MT.pre, List.take_of_length_le (by omega)], HJ.out, HK.out⟩
    · go_ret
      exact .inr ⟨rfl, [_], ⟨MT.preAll (lev + 1) args, by rw [MT.pre]; rfl⟩, hx2⟩

set_option maxRecDepth 100000 in
set_option maxHeartbeats 1000000 in
theorem walk1_stops (n n₀ n₁ Bt : Nat) (w0 w : World) (T : MT) (hT : T.In n₀ w0) (hw : Below n₀ w0 w) (hn0 : n₀ ≤ w.heap.size) (hn1 : n₁ ≤ w.heap.size) (hsz : (T.pre 1).length ≤ 100000000000)
    (hBt : w.heap[Bt]? = some (.cells #[.int .i64 T.op, .int .i64 T.n, .slice T.A T.args.length T.c] 33)) :
    SeqStopsK Fence.wide n Tryz.prog 157 #[.pointer (some ⟨Bt, 0, none⟩)] (fun x : Nd n₀ w0 => #[.int .i64 x.1.1, x.1.2.val]) (Kp n₀ n₁)
      (fun ys => ys.map (·.1) = T.pre 1) (fun pre => pre.map (·.1) <+: T.pre 1) (T.pre 1).length w := by
  intro l J Jx W hW hJ hJx hY h0
  have hblt : Bt < w.heap.size := (Array.getElem?_eq_some_iff.1 hBt).1
  have hB := (hW.block Bt hblt).trans hBt
  have c0 := cell_of_blk hB 0
  have c1 := cell_of_blk hB 1
  have c2 := cell_of_blk hB 2
  simp only [List.getElem?_toArray, List.getElem?_cons_zero, List.getElem?_cons_succ] at c0 c1 c2
  have hv := visit_in l n₀ n₁ W.heap.size (T.pre 1).length w0 J Jx hJ (fun m pre x W1 hj hl => YieldAt.anyDepth rfl m (hY pre x W1 hj hl)) T (n - 1) 1 [] W hT (hw.trans (hW.mono hn0)) (by have := hW.size; omega) (by have := hW.size; omega) h0 (by simp) (by omega)
  have hdd : ∀ k : Nat, (Fence.wide.depth.isSome = true → 1 ≤ k) := fun k h => by cases h
  refine callsIn_of_wp Tryz.func157 rfl trivial ?_ rfl
  simp only [Tryz.ntmps157, List.size_toArray, List.length_cons, List.length_nil, Nat.reduceAdd, Nat.reduceSub, Array.replicate_succ, Array.replicate_zero, List.push_toArray, List.append_toArray, List.nil_append, List.cons_append]
  gi_wp2_with (refine ⟨trivial, hdd _, ?_⟩; refine hv.mono ?_; clear hv; rintro e W4 (⟨rfl, q4, hq4, hJ4, hk4⟩ | ⟨rfl, q4, hq4, hx4⟩))
  · go_end0
    exact ⟨⟨_, rfl⟩, .inl ⟨q4, hq4, hJ4⟩⟩
  · go_end0
    exact ⟨⟨_, rfl⟩, .inr ⟨q4, hq4, hx4⟩⟩

set_option maxHeartbeats 1000000 in
theorem walk_any (T : MT) (w : World) :
    Calls Tryz.prog 114 #[T.val] w fun e w' => e = .returned (.func (.func 157) #[] #[.pointer (some ⟨w.heap.size, 0, none⟩)]) ∧ w' = w.alloc (.cells #[.int .i64 T.op, .int .i64 T.n, .slice T.A T.args.length T.c] 33) := by
  simp only [MT.val]
  go_enter Tryz.func114, Tryz.ntmps114
  go_wp2
  go_ret
  exact ⟨rfl, rfl⟩
end Go.Proofs.YtndkcimajeofcaaGreatDoor

namespace Go.Proofs.YtndkcimajeofcaaGreatDoor
open Go.RowKit Go.Shelf

attribute [local go_sem] Oper.semAt_some

def maxLev (l : List (Nat × MT)) : Nat := l.foldl (fun d x => max d x.1) 0
theorem maxLev_snoc (l : List (Nat × MT)) (x : Nat × MT) : maxLev (l ++ [x]) = max (maxLev l) x.1 := by simp [maxLev]

theorem newBox (w : World) (n : Nat) (hn : w.heap.size = n) (v : Value) (t : TypeId) : ∃ W1, w.alloc (.cells #[v] t) = W1 ∧ Below n w W1 ∧ W1.heap.size = n + 1 ∧ Boxed W1 n t v := by
  subst hn
  exact ⟨_, rfl, (Below.refl _ _).alloc (Nat.le_refl _) _, by simp, Boxed.new w t v⟩
theorem newBlk (w : World) (n : Nat) (hn : w.heap.size = n) (cs : Array Value) (t : TypeId) : ∃ W1, w.alloc (.cells cs t) = W1 ∧ Below n w W1 ∧ W1.heap.size = n + 1 ∧ W1.heap[n]? = some (.cells cs t) := by
  subst hn
  exact ⟨_, rfl, (Below.refl _ _).alloc (Nat.le_refl _) _, by simp, World.alloc_heap_new' w _⟩
theorem boxed_below {B : Nat} {W W' : World} {b : Nat} {t : TypeId} {v : Value} (h : Boxed W b t v) (hb : Below B W W') (hlt : b < B) : Boxed W' b t v := (hb.block b hlt).trans h
theorem boxed_other {W : World} {b : Nat} {t : TypeId} {v : Value} (h : Boxed W b t v) {p : Addr} (hp : b ≠ p.block) (u : Value) : Boxed (W.setCell p u) b t v := (Below.heap_setCell W p u b hp).trans h
set_option maxRecDepth 100000 in
set_option maxHeartbeats 2000000 in
theorem cSize_any (T : MT) (w : World) (hT : T.In w.heap.size w) (hsz : (T.pre 1).length ≤ 1000000) :
    Calls Tryz.prog 122 #[T.val] w fun e w' => e = .returned (.tuple #[.int .i64 (T.pre 1).length, .int .i64 (maxLev (T.pre 1))]) ∧ Below w.heap.size w w' := by
  refine (callsIn_wide (n := 3)).1 ?_
  obtain ⟨W1, hW1, hB1, hs1, hblk⟩ := newBlk w _ rfl #[Value.int .i64 T.op, Value.int .i64 T.n, Value.slice T.A T.args.length T.c] 33
  obtain ⟨W2, hW2, hB2, hs2, b2⟩ := newBox W1 _ hs1 (Value.int .i64 0) 3
  obtain ⟨W3, hW3, hB3, hs3, b3⟩ := newBox W2 _ hs2 (Value.int .i64 0) 3
  obtain ⟨W4, hW4, hB4, hs4, hblk4⟩ := newBlk W3 _ hs3 #[Value.int .i64 T.op, Value.int .i64 T.n, Value.slice T.A T.args.length T.c] 33
  have hB04 : Below w.heap.size w W4 := ((hB1.trans (hB2.mono (by omega))).trans (hB3.mono (by omega))).trans (hB4.mono (by omega))
  have b24 : Boxed W4 (w.heap.size + 1) 3 (.int .i64 0) := boxed_below (boxed_below b2 hB3 (by omega)) hB4 (by omega)
  have b34 : Boxed W4 (w.heap.size + 1 + 1) 3 (.int .i64 0) := boxed_below b3 hB4 (by omega)
  have hblk3 := (hB3.block w.heap.size (by omega)).trans ((hB2.block w.heap.size (by omega)).trans hblk)
  have c0 := cell_of_blk hblk3 0
  have c1 := cell_of_blk hblk3 1
  have c2 := cell_of_blk hblk3 2
  simp only [List.getElem?_toArray, List.getElem?_cons_zero, List.getElem?_cons_succ] at c0 c1 c2
  simp only [MT.val]
  refine callsIn_of_wp_marks Tryz.func122 rfl trivial ?_ rfl
  simp only [Tryz.ntmps122, List.size_toArray, List.length_cons, List.length_nil, Nat.reduceAdd, Nat.reduceSub, Array.replicate_succ, Array.replicate_zero, List.push_toArray, List.append_toArray, List.nil_append, List.cons_append]
  gi_wp2_with (refine ⟨trivial, ?_⟩; gi_at_call 114; refine (callsIn_wide.2 (walk_any T _)).mono ?_; rintro e w' ⟨rfl, rfl⟩)
  refine wpIn_rangeFunc_ownF rfl (by omega) (gf := 157) (lb := #[.pointer (some ⟨w.heap.size + 1 + 1 + 1, 0, none⟩)]) rfl trivial (enters_of Tryz.func157 (by kernel_rfl) rfl)
    (walk1_stops 2 w.heap.size W4.heap.size (w.heap.size + 1 + 1 + 1) w W4 T hT hB04 (by omega) (Nat.le_refl _) (by omega) hblk4) Kp.trans (Kp.b (by omega)) (Below.refl _ _) (fun _ => rfl)
    (fun pre W => (Boxed W (w.heap.size + 1) 3 (.int .i64 pre.length) ∧ Boxed W (w.heap.size + 1 + 1) 3 (.int .i64 (maxLev (pre.map (·.1))))) ∧ Below w.heap.size w W)
    (fun _ _ _ => False)
    (OwnFrom.and (OwnFrom.and (Own.from (boxed_own _ _ _) _) (Own.from (boxed_own _ _ _) _)) (ownFrom_below (Nat.le_refl _) (by omega)))
    (fun _ _ _ _ _ hs _ _ => hs)
    ⟨⟨b24, b34⟩, hB04⟩
    (fun x => { tmps := #[.agg #[Value.int .i64 T.op, Value.int .i64 T.n, Value.slice T.A T.args.length T.c], .pointer (some ⟨w.heap.size, 0, none⟩), .pointer (some ⟨w.heap.size + 1, 0, none⟩), .pointer (some ⟨w.heap.size + 1 + 1, 0, none⟩), .int .i64 x.1.1, .agg #[Value.int .i64 T.op, Value.int .i64 T.n, Value.slice T.A T.args.length T.c], .func (.func 157) #[] #[.pointer (some ⟨w.heap.size + 1 + 1 + 1, 0, none⟩)], .int .i64 x.1.1, x.1.2.val, undef, undef, undef, undef, undef, undef, undef], defers := [] }) ?assign ?body ?done ?stop
  case assign =>
    intro l x W K hK
    gi_wp2
    exact hK
  case body =>
    rintro l pre x W ⟨⟨hn, hd⟩, hB⟩ hlt
    have hsW := hB.size
    have n0 := hn.cell
    have n1 := hn.frozen
    have hd1 := boxed_other hd (p := ⟨w.heap.size + 1, 0, none⟩) (by show w.heap.size + 1 + 1 ≠ w.heap.size + 1; omega) (.int .i64 (pre.length + 1 : Nat))
    rw [Int.natCast_add, Int.natCast_one] at hd1
    have d0 := hd1.cell
    have d1 := hd1.frozen
    have hlen : pre.length ≤ 1000000 := by omega
    clear hlt
    have e1 : maxLev ((pre ++ [x]).map (·.1)) = max (maxLev (pre.map (·.1))) x.1.1 := by rw [List.map_append]; exact maxLev_snoc _ _
    have E1 := Lib.hid e1
    have e2 : (pre ++ [x]).length = pre.length + 1 := by simp
    have E2 := Lib.hid e2
    clear e1 e2
    by_cases hm : (x.1.1 : Int) ≤ (maxLev (pre.map (·.1)) : Int)
    · gi_wp2
      refine ⟨(KeepsOthers.setCell _ _ _).trans (KeepsOthers.setCell _ _ _), ((Kp.refl _ _ _).setBox (by show w.heap.size + 1 < _; omega) (by show _ ≤ w.heap.size + 1; omega) _).setBox (by show w.heap.size + 1 + 1 < _; omega) (by show _ ≤ w.heap.size + 1 + 1; omega) _, ⟨?_, ?_⟩, (hB.setCell (p := ⟨w.heap.size + 1, 0, none⟩) (by show _ ≤ w.heap.size + 1; omega) _).setCell (p := ⟨w.heap.size + 1 + 1, 0, none⟩) (by show _ ≤ w.heap.size + 1 + 1; omega) _⟩
      · rw [E2.out, Int.natCast_add, Int.natCast_one]
        exact boxed_other (Boxed.set _ hn) (by show w.heap.size + 1 ≠ w.heap.size + 1 + 1; omega) _
      · rw [E1.out, Nat.max_eq_left (by omega)]
        exact Boxed.set _ hd1
    · gi_wp2
      refine ⟨(KeepsOthers.setCell _ _ _).trans (KeepsOthers.setCell _ _ _), ((Kp.refl _ _ _).setBox (by show w.heap.size + 1 < _; omega) (by show _ ≤ w.heap.size + 1; omega) _).setBox (by show w.heap.size + 1 + 1 < _; omega) (by show _ ≤ w.heap.size + 1 + 1; omega) _, ⟨?_, ?_⟩, (hB.setCell (p := ⟨w.heap.size + 1, 0, none⟩) (by show _ ≤ w.heap.size + 1; omega) _).setCell (p := ⟨w.heap.size + 1 + 1, 0, none⟩) (by show _ ≤ w.heap.size + 1 + 1; omega) _⟩
      · rw [E2.out, Int.natCast_add, Int.natCast_one]
        exact boxed_other (Boxed.set _ hn) (by show w.heap.size + 1 ≠ w.heap.size + 1 + 1; omega) _
      · rw [E1.out, Nat.max_eq_right (by omega)]
        exact Boxed.set _ hd1
  case done =>
    rintro D ys W hD hys ⟨⟨hn, hd⟩, hB⟩ hK
    have hsW := hB.size
    rw [hys] at hd
    have e3 : ys.length = (T.pre 1).length := by rw [← hys]; simp
    rw [e3] at hn
    clear e3 hys
    have n0 := hn.cell
    have n1 := hn.frozen
    have d0 := hd.cell
    have d1 := hd.frozen
    gi_wp2
    gi_region
    gi_wp2
    have hb' := (hB.setCell (p := ⟨w.heap.size + 1, 0, none⟩) (by show _ ≤ w.heap.size + 1; omega) (.int .i64 ↑(T.pre 1).length)).setCell (p := ⟨w.heap.size + 1 + 1, 0, none⟩) (by show _ ≤ w.heap.size + 1 + 1; omega) (.int .i64 ↑(maxLev (T.pre 1)))
    have hn' := boxed_other (Boxed.set (.int .i64 ↑(T.pre 1).length) hn) (p := ⟨w.heap.size + 1 + 1, 0, none⟩) (by show w.heap.size + 1 ≠ w.heap.size + 1 + 1; omega) (.int .i64 ↑(maxLev (T.pre 1)))
    have hd' := Boxed.set (.int .i64 ↑(maxLev (T.pre 1))) (boxed_other hd (p := ⟨w.heap.size + 1, 0, none⟩) (by show w.heap.size + 1 + 1 ≠ w.heap.size + 1; omega) (.int .i64 ↑(T.pre 1).length))
    have hK' := ((KeepsOthers.setCell W ⟨w.heap.size + 1, 0, none⟩ (.int .i64 ↑(T.pre 1).length)).trans (KeepsOthers.setCell _ ⟨w.heap.size + 1 + 1, 0, none⟩ (.int .i64 ↑(maxLev (T.pre 1))))).same D _ hK rfl
    generalize (W.setCell ⟨w.heap.size + 1, 0, none⟩ (.int .i64 ↑(T.pre 1).length)).setCell ⟨w.heap.size + 1 + 1, 0, none⟩ (.int .i64 ↑(maxLev (T.pre 1))) = W5 at hb' hn' hd' hK' ⊢
    have c5 := cell_kept hn'.cell (grownBy_putObj' _ D (.deferred none)) (fun r e => by cases e; exact ⟨_, hK', rfl⟩)
    have c6 := cell_kept hd'.cell (grownBy_putObj' _ D (.deferred none)) (fun r e => by cases e; exact ⟨_, hK', rfl⟩)
    refine ⟨by simp, .inl ⟨_, _, rfl, run_takeDeferred (w := W5.drew) hK', ?_⟩⟩
    refine ⟨.tuple #[.int .i64 (T.pre 1).length, .int .i64 (maxLev (T.pre 1))], ?_, rfl, hb'.drew.trans (belowK_b (w := w) (Nat.le_refl _) _ D _ _ (by omega) hK' rfl rfl)⟩
    have c7 : (W5.drew.putObj D (.deferred none)).cell? ⟨w.heap.size + 1, 0, none⟩ = some (.int .i64 ↑(T.pre 1).length) := c5
    have c8 : (W5.drew.putObj D (.deferred none)).cell? ⟨w.heap.size + 1 + 1, 0, none⟩ = some (.int .i64 ↑(maxLev (T.pre 1))) := c6
    simp [results, Tryz.f122, go_sem, c7, c8]
  case stop =>
    rintro D c pre W _ _ h _
    exact h.elim
end Go.Proofs.YtndkcimajeofcaaGreatDoor
