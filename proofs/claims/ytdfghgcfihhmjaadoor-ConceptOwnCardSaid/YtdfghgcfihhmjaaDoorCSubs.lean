import Derived.Test.YtdfghgcfihhmjaaDoorGrow
import Derived.Test.YtdfghgcfihhmjaaDoorUses
import Derived.Test.YtdfghgcfihhmjaaDoorIter2
import Derived.Test.YtdfghgcfihhmjaaDoorCopy
namespace Go.Proofs.YtdfghgcfihhmjaaDoor
open Go.RowKit

/-- The row's last element overwritten. -/
theorem row_last {X : World} {n₁ g cap : Nat} {Ls : List MT} {T' : MT} (h : X.ownsRow n₁ 27 3 (.slice (some ⟨g, 0, none⟩) (Ls.length + 1) cap) (Ls.length + 1) (Ls.flatMap MT.cs ++ zeroMT.cs)) (hl : (Ls.flatMap MT.cs).length = Ls.length * 3) :
    (((X.setCell ⟨g, Ls.length * 3, none⟩ (.int .i64 T'.op)).setCell ⟨g, Ls.length * 3 + 1, none⟩ (.int .i64 T'.n)).setCell ⟨g, Ls.length * 3 + 2, none⟩ (.slice T'.A T'.args.length T'.c)).ownsRow n₁ 27 3 (.slice (some ⟨g, 0, none⟩) (Ls.length + 1) cap) (Ls.length + 1) (Ls.flatMap MT.cs ++ T'.cs) ∧
    X.grownBy (((X.setCell ⟨g, Ls.length * 3, none⟩ (.int .i64 T'.op)).setCell ⟨g, Ls.length * 3 + 1, none⟩ (.int .i64 T'.n)).setCell ⟨g, Ls.length * 3 + 2, none⟩ (.slice T'.A T'.args.length T'.c)) (some g) := by
  obtain ⟨h1, k1⟩ := h.stored (Ls.length * 3) (.int .i64 T'.op)
  obtain ⟨h2, k2⟩ := h1.stored (Ls.length * 3 + 1) (.int .i64 T'.n)
  obtain ⟨h3, k3⟩ := h2.stored (Ls.length * 3 + 2) (.slice T'.A T'.args.length T'.c)
  refine ⟨?_, grown_trans (grown_trans k1 k2) k3⟩
  have e : ((((Ls.flatMap MT.cs ++ zeroMT.cs).set (Ls.length * 3) (.int .i64 T'.op)).set (Ls.length * 3 + 1) (.int .i64 T'.n)).set (Ls.length * 3 + 2) (.slice T'.A T'.args.length T'.c)) = Ls.flatMap MT.cs ++ T'.cs := by
    rw [← hl]
    rw [List.set_append_right _ _ (by omega), List.set_append_right _ _ (by omega), List.set_append_right _ _ (by omega)]
    rw [Nat.sub_self, Nat.add_sub_cancel_left, Nat.add_sub_cancel_left]
    rfl
  rw [e] at h3
  exact h3

/-- BEHIND THE REGION: what the round owes. -/
theorem grow_step {n₀ n₁ b g cap : Nat} {v : Value} {Ls : List MT} {T' : MT} {W W' w6 W2 : World}
    (hbox : Boxed W b 25 v) (hco : Coll n₁ n₁ W v Ls) (h0 : n₀ ≤ b) (h1 : b < n₁) (hn : n₁ ≤ W.heap.size)
    (hbel : Below W.heap.size W W') (hnew : New W.heap.size W' T')
    (hown6 : w6.ownsRow n₁ 27 3 (.slice (some ⟨g, 0, none⟩) (Ls.length + 1) cap) (Ls.length + 1) (Ls.flatMap MT.cs ++ zeroMT.cs)) (hg6 : W'.grownBy w6 v.ownBlock) (hat6 : v.ownBlock = some g ∨ g = W'.heap.size) (hlt6 : g < w6.heap.size)
    (hW2 : W2 = ((((w6.setCell ⟨g, Ls.length * 3, none⟩ (.int .i64 T'.op)).setCell ⟨g, Ls.length * 3 + 1, none⟩ (.int .i64 T'.n)).setCell ⟨g, Ls.length * 3 + 2, none⟩ (.slice T'.A T'.args.length T'.c)).setCell ⟨b, 0, none⟩ (.slice (some ⟨g, 0, none⟩) (Ls.length + 1) cap)) ∨
       W2 = ((((w6.setCell ⟨b, 0, none⟩ (.slice (some ⟨g, 0, none⟩) (Ls.length + 1) cap)).setCell ⟨g, Ls.length * 3, none⟩ (.int .i64 T'.op)).setCell ⟨g, Ls.length * 3 + 1, none⟩ (.int .i64 T'.n)).setCell ⟨g, Ls.length * 3 + 2, none⟩ (.slice T'.A T'.args.length T'.c))) :
    Boxed W2 b 25 (.slice (some ⟨g, 0, none⟩) (Ls.length + 1) cap) ∧ Coll n₁ n₁ W2 (.slice (some ⟨g, 0, none⟩) (Ls.length + 1) cap) (Ls ++ [T']) ∧ KR n₀ n₁ [b] W W2 ∧ KeepsOthers W W2 := by
  have hg1 : n₁ ≤ g := (own_lt hown6 rfl).1
  have hgb : g ≠ b := by omega
  have nv : some b ≠ v.ownBlock := fun e => by have := (own_lt hco.own e.symm).1; omega
  have hsz := hbel.size
  have hsz6 := hg6.size
  have hb6 : Boxed w6 b 25 v := (hg6.block b (by have := hbox.lt; omega) nv).trans ((hbel.block b hbox.lt).trans hbox)
  have hl := hco.own.1
  obtain ⟨A, r1, r2, hA1, hA2, hr1, hr2, hbox2, hrow2, hko⟩ : ∃ A r1 r2, w6.grownBy A (some r1) ∧ A.grownBy W2 (some r2) ∧ (r1 = g ∨ r1 = b) ∧ (r2 = g ∨ r2 = b) ∧ Boxed W2 b 25 (.slice (some ⟨g, 0, none⟩) (Ls.length + 1) cap) ∧ W2.ownsRow n₁ 27 3 (.slice (some ⟨g, 0, none⟩) (Ls.length + 1) cap) (Ls.length + 1) (Ls.flatMap MT.cs ++ T'.cs) ∧ KeepsOthers w6 W2 := by
    rcases hW2 with rfl | rfl
    · obtain ⟨q1, q2⟩ := row_last (T' := T') hown6 hl
      refine ⟨_, g, b, q2, grown_set _ b 0 _, .inl rfl, .inr rfl, Boxed.set _ (hb6.kept q2 (fun e => hgb (Option.some.inj e).symm)), owns_grown q1 (grown_set _ b 0 _) (.inl (fun e => hgb (Option.some.inj e))), ?_⟩
      exact (((KeepsOthers.setCell _ _ _).trans (KeepsOthers.setCell _ _ _)).trans (KeepsOthers.setCell _ _ _)).trans (KeepsOthers.setCell _ _ _)
    · have hown7 := owns_grown hown6 (grown_set w6 b 0 (.slice (some ⟨g, 0, none⟩) (Ls.length + 1) cap)) (.inl (fun e => hgb (Option.some.inj e)))
      obtain ⟨q1, q2⟩ := row_last (T' := T') hown7 hl
      refine ⟨_, b, g, grown_set _ b 0 _, q2, .inr rfl, .inl rfl, (Boxed.set _ hb6).kept q2 (fun e => hgb (Option.some.inj e).symm), q1, ?_⟩
      exact (((KeepsOthers.setCell _ _ _).trans (KeepsOthers.setCell _ _ _)).trans (KeepsOthers.setCell _ _ _)).trans (KeepsOthers.setCell _ _ _)
  have hsA := hA1.size
  have hs2 := hA2.size
  have hrb : rowAt W b = v.ownBlock := by unfold rowAt; rw [hbox.cell]; rfl
  have hrb2 : rowAt W2 b = some g := by unfold rowAt; rw [hbox2.cell]; rfl
  have tree : ∀ t, New n₁ W' t → MT.All (fun k => some k ≠ v.ownBlock) t → New n₁ W2 t ∧ MT.All (fun k => some k ≠ (Value.slice (some ⟨g, 0, none⟩) (Ls.length + 1) cap).ownBlock) t := fun t ht hv => by
    have hng : MT.All (fun k => some k ≠ some g) t := by
      rcases hat6 with e | e
      · rw [e] at hv; exact hv
      · exact MT.All.imp (fun k hk e' => by have : k = g := Option.some.inj e'; omega) t (MT.In.all t ht.1)
    have hnb : MT.All (fun k => some k ≠ some b) t := MT.All.imp (fun k hk e' => by have : k = b := Option.some.inj e'; have := hk.1; omega) t ht.2
    have hn1 : MT.All (fun k => some k ≠ some r1) t := by rcases hr1 with rfl | rfl <;> assumption
    have hn2 : MT.All (fun k => some k ≠ some r2) t := by rcases hr2 with rfl | rfl <;> assumption
    exact ⟨((ht.grown hg6 hv).grown hA1 hn1).grown hA2 hn2, hng⟩
  refine ⟨hbox2, ⟨by rw [List.length_append, List.flatMap_append]; simpa using hrow2, fun t ht => ?_⟩, ⟨?_, fun k o hk ho hc hr => ?_, fun b' hb' => ?_⟩, ?_⟩
  · rcases List.mem_append.1 ht with h | h
    · exact tree t ((hco.trees t h).1.later hbel) (hco.trees t h).2
    · rw [List.mem_singleton.1 h]; exact tree T' (hnew.lo hn) (hco.off hnew (Nat.le_refl _))
  · refine (((hbel.mono (by omega)).grown hg6 (by omega) (fun k e => by have := (own_lt hco.own e).1; omega)).grown hA1 (by omega) (fun k e => by cases e; rcases hr1 with rfl | rfl <;> omega)).grown hA2 (by omega) (fun k e => by cases e; rcases hr2 with rfl | rfl <;> omega)
  · have hlt : k < W.heap.size := (Array.getElem?_eq_some_iff.1 ho).1
    have hkv : some k ≠ v.ownBlock := fun e => hr b (by simp) (hrb.trans e.symm)
    have hkg : k ≠ g := by
      rcases hat6 with e | e
      · exact fun e' => hkv (by rw [e, e'])
      · omega
    have hk1 : some k ≠ some r1 := fun e => by have := Option.some.inj e; rcases hr1 with h | h <;> omega
    have hk2 : some k ≠ some r2 := fun e => by have := Option.some.inj e; rcases hr2 with h | h <;> omega
    exact (hA2.block k (by omega) hk2).trans ((hA1.block k (by omega) hk1).trans ((hg6.block k (by omega) hkv).trans ((hbel.block k hlt).trans ho)))
  · rw [List.mem_singleton.1 hb']
    rcases hat6 with e | e
    · exact .inl (by rw [hrb2, hrb, e])
    · exact .inr ⟨g, hrb2, by omega, by omega⟩
  · refine (KeepsOthers.trans ⟨hbel.size, fun k o h _ => (hbel.block k (Array.getElem?_eq_some_iff.1 h).1).trans h⟩ (KeepsOthers.of_grownBy hg6 fun j o e hj => ?_)).trans hko
    rcases (owns_below hco.own hbel).2 with ⟨rfl, _⟩ | ⟨g', cap', cur, rfl, _, hgb', _⟩
    · cases e
    · have : g' = j := Option.some.inj e
      subst this
      rw [hgb'] at hj; cases hj; rfl
end Go.Proofs.YtdfghgcfihhmjaaDoor

namespace Go.Proofs.YtdfghgcfihhmjaaDoor
open Go.RowKit Go.Shelf

attribute [local go_sem] Oper.semAt_some

/-- What comes to a round: the level and the node, which lies and is small. -/
abbrev Ndz (n₀ : Nat) (w0 : World) := { x : Nat × MT // x.2.In n₀ w0 ∧ x.2.tr.size ≤ 1000000 }

set_option maxRecDepth 100000 in
set_option maxHeartbeats 4000000 in
theorem visit_inZ (bs : List Nat) {n₁ : Nat} (hbs : ∀ b ∈ bs, b < n₁) (l n₀ D N : Nat) (w0 : World) (J Jx : List (Ndz n₀ w0) → World → Prop) (hJ : AbidesFrom D J)
    (hY : ∀ m pre x W, J pre W → pre.length < N → YieldAt Fence.wide m Tryd.prog l #[.int .i64 x.1.1, x.1.2.val] W fun e W' =>
      (e = .returned (.bool true) ∧ J (pre ++ [x]) W' ∧ KR n₀ n₁ bs W W') ∨ (e = .returned (.bool false) ∧ Jx (pre ++ [x]) W')) (T : MT) :
    ∀ (n lev : Nat) (pre : List (Ndz n₀ w0)) (W : World), T.In n₀ w0 → T.tr.size ≤ 1000000 → Below n₀ w0 W → n₀ ≤ W.heap.size → n₁ ≤ W.heap.size → RowsOK bs W → J pre W → pre.length + (T.pre lev).length ≤ N → lev + (T.pre lev).length ≤ 1000000000000 →
      CallsIn Fence.wide n Tryd.prog 109 #[T.val, .int .i64 lev, .func (.yield l) #[] #[]] W fun e W' =>
        (e = .returned (.bool true) ∧ ∃ q : List (Ndz n₀ w0), q.map (·.1) = T.pre lev ∧ J (pre ++ q) W' ∧ KR n₀ n₁ bs W W') ∨
        (e = .returned (.bool false) ∧ ∃ q : List (Ndz n₀ w0), q.map (·.1) <+: T.pre lev ∧ Jx (pre ++ q) W') := by
  induction T using MT.induct with
  | h op nn A c args ih =>
    intro n lev pre W hin hzT hW hn0 hn1 hok hJ0 hN hlev
    have hdd : ∀ k : Nat, (Fence.wide.depth.isSome = true → 1 ≤ k) := fun k h => by cases h
    have hTin := hin
    rw [MT.In] at hin
    obtain ⟨hlc, hc, hr, hrow⟩ := hin
    have hsz : args.length ≤ 9223372036854775807 := by omega
    obtain ⟨W1, hW1, hB1, hs1, c0, c1, c2, hblk⟩ := box3 W (Value.int IntKind.i64 op) (Value.int IntKind.i64 nn) (Value.slice A args.length c) 27
    have hJ1 : J pre W1 := by rw [← hW1]; exact hJ pre W _ none hJ0 (World.grownBy_alloc W _ none) (fun r e => by cases e)
    rw [MT.pre] at hN hlev
    simp only [List.length_cons] at hN hlev
    have hK1 : KR n₀ n₁ bs W W1 := by rw [← hW1]; exact KR.alloc hbs hn1 hn0 _
    have hy := (hY (n - 1) pre ⟨(lev, .mk op nn A c args), hTin, hzT⟩ W1 hJ1 (by omega))
    obtain ⟨fn, tmps, assign, body, hy, hR⟩ := hy
    simp only [MT.val, MT.op, MT.n, MT.A, MT.c, MT.args] at hy ⊢
    refine callsIn_of_wp Tryd.func109 rfl trivial ?_ rfl
    simp only [Tryd.ntmps109, List.size_toArray, List.length_cons, List.length_nil, Nat.reduceAdd, Nat.reduceSub, Array.replicate_succ, Array.replicate_zero, List.push_toArray, List.append_toArray, List.nil_append, List.cons_append]
    have hc2 : ∀ W2, KR n₀ n₁ bs W1 W2 → W2.cell? ⟨W.heap.size, 2, none⟩ = some (Value.slice A args.length c) := fun W2 hk => cell_of_blk (by rw [← hW1] at hk; exact KR.fresh hbs hn1 hok hk (by rw [hW1]; exact hblk) rfl) 2
    have HC2 := Lib.hid hc2
    clear hc2
    gi_wp2_with (refine ⟨hdd _, ?_⟩; refine hR.mono ?_; clear hR; rintro e W2 (⟨rfl, hJ2, hk2⟩ | ⟨rfl, hx2⟩); have hcw := HC2.out W2 hk2)
    · clear hcw
      have hkW2 : KR n₀ n₁ bs W W2 := hK1.trans hk2
      gi_loopw [17] (fun i wr => ∃ (k : Nat) (q : List (Ndz n₀ w0)), k ≤ args.length ∧ i = .int .i64 k ∧ q.map (·.1) = (lev, MT.mk op nn A c args) :: MT.preAll (lev + 1) (args.take k) ∧ J (pre ++ q) wr ∧ KR n₀ n₁ bs W wr) (fun i _ => args.length - (intOf i).toNat)
      case atStart => exact ⟨0, [⟨(lev, .mk op nn A c args), hTin, hzT⟩], Nat.zero_le _, rfl, by simp [MT.preAll], hJ2, hkW2⟩
      case round =>
        obtain ⟨k, q, hk, rfl, hq, hJk, hkk⟩ := hrel
        have HQ := Lib.hid hq
        have HJ := Lib.hid hJk
        have HK := Lib.hid hkk
        clear hq hJk hkk
        by_cases hlt : k < args.length
        · obtain ⟨ab, aoff, rfl, -, g0, g1, g2⟩ := elem3 (w := w0) hr (hW.trans HK.out.below) hlt
          obtain ⟨W3, hW3, hB3, hs3, b0, b1, b2, -⟩ := box3 wr (Value.int IntKind.i64 args[k].op) (Value.int IntKind.i64 args[k].n) (Value.slice args[k].A args[k].args.length args[k].c) 27
          have hk3 : KR n₀ n₁ bs W W3 := HK.out.trans (by rw [← hW3]; exact KR.alloc hbs (by have := HK.out.below.size; omega) (by have := HK.out.below.size; omega) _)
          have hsz3 := hk3.below.size
          have hql : q.length = (MT.preAll (lev + 1) (args.take k)).length + 1 := by have := congrArg List.length HQ.out; simpa using this
          have hsp := congrArg List.length (MT.preAll_split (lev + 1) args k hlt)
          simp only [List.length_append] at hsp
          have hih := ih k hlt (n - 1) (lev + 1) (pre ++ q) W3 (hrow.at_ k hlt) (by have := size_arg args k hlt; have h := hzT; rw [MT.tr_mk, Tr.size] at h; omega) (hW.trans hk3.below) (by omega) (by omega) (hk3.ok hok) (by rw [← hW3]; exact hJ _ _ _ none HJ.out (World.grownBy_alloc wr _ none) (fun r e => by cases e)) (by simp only [List.length_append]; omega) (by omega)
          rw [Int.natCast_add, Int.natCast_one] at hih
          have HLQ := Lib.hid hql
          have HSP := Lib.hid hsp
          clear hql hsp
          gi_wp2_with (refine ⟨trivial, hdd _, ?_⟩; refine hih.mono ?_; clear hih; rintro e W4 (⟨rfl, q4, hq4, hJ4, hk4⟩ | ⟨rfl, q4, hq4, hx4⟩))
          · go_roundw
            case rel => exact ⟨k + 1, q ++ q4, by omega, by go_num, by rw [List.map_append, HQ.out, hq4, MT.preAll_take _ _ _ hlt]; rfl, by rw [← List.append_assoc]; exact hJ4, hk3.trans hk4⟩
            case measure => simp [intOf]; omega
          · go_ret
            refine .inr ⟨rfl, q ++ q4, ?_, by rw [← List.append_assoc]; exact hx4⟩
            rw [List.map_append, HQ.out, MT.pre, MT.preAll_split (lev + 1) args k hlt]
            obtain ⟨r, hr'⟩ := hq4
            exact ⟨r ++ MT.preAll (lev + 1) (args.drop (k + 1)), by rw [← hr']; simp⟩
        · gi_wp2
          go_ret
          exact .inl ⟨rfl, q, by rw [HQ.out, MT.pre, List.take_of_length_le (by omega)], HJ.out, HK.out⟩
    · go_ret
      exact .inr ⟨rfl, [_], ⟨MT.preAll (lev + 1) args, by rw [MT.pre]; rfl⟩, hx2⟩

set_option maxRecDepth 100000 in
set_option maxHeartbeats 1000000 in
theorem walk1_stopsZ (bs : List Nat) (n n₀ n₁ Bt : Nat) (hbs : ∀ b ∈ bs, b < n₁) (w0 w : World) (T : MT) (hT : T.In n₀ w0) (hz : T.tr.size ≤ 1000000) (hw : Below n₀ w0 w) (hn0 : n₀ ≤ w.heap.size) (hn1 : n₁ ≤ w.heap.size) (hsz : (T.pre 1).length ≤ 100000000000)
    (hrok : RowsOK bs w) (hBt : w.heap[Bt]? = some (.cells #[.int .i64 T.op, .int .i64 T.n, .slice T.A T.args.length T.c] 27)) :
    SeqStopsK Fence.wide n Tryd.prog 108 #[.pointer (some ⟨Bt, 0, none⟩)] (fun x : Ndz n₀ w0 => #[.int .i64 x.1.1, x.1.2.val]) (KR n₀ n₁ bs)
      (fun ys => ys.map (·.1) = T.pre 1) (fun pre => pre.map (·.1) <+: T.pre 1) (T.pre 1).length w := by
  intro l J Jx W hW hJ hJx hY h0
  have hblt : Bt < w.heap.size := (Array.getElem?_eq_some_iff.1 hBt).1
  have hB := (hW.block Bt hblt).trans hBt
  have c0 := cell_of_blk hB 0
  have c1 := cell_of_blk hB 1
  have c2 := cell_of_blk hB 2
  simp only [List.getElem?_toArray, List.getElem?_cons_zero, List.getElem?_cons_succ] at c0 c1 c2
  have hv := visit_inZ bs hbs l n₀ W.heap.size (T.pre 1).length w0 J Jx hJ (fun m pre x W1 hj hl => YieldAt.anyDepth rfl m (hY pre x W1 hj hl)) T (n - 1) 1 [] W hT hz (hw.trans (hW.mono hn0)) (by have := hW.size; omega) (by have := hW.size; omega) (hrok.later (fun b hb => Nat.lt_of_lt_of_le (hbs b hb) hn1) hW) h0 (by simp) (by omega)
  have hdd : ∀ k : Nat, (Fence.wide.depth.isSome = true → 1 ≤ k) := fun k h => by cases h
  refine callsIn_of_wp Tryd.func108 rfl trivial ?_ rfl
  simp only [Tryd.ntmps108, List.size_toArray, List.length_cons, List.length_nil, Nat.reduceAdd, Nat.reduceSub, Array.replicate_succ, Array.replicate_zero, List.push_toArray, List.append_toArray, List.nil_append, List.cons_append]
  gi_wp2_with (refine ⟨trivial, hdd _, ?_⟩; refine hv.mono ?_; clear hv; rintro e W4 (⟨rfl, q4, hq4, hJ4, hk4⟩ | ⟨rfl, q4, hq4, hx4⟩))
  · go_end0
    exact ⟨⟨_, rfl⟩, .inl ⟨q4, hq4, hJ4⟩⟩
  · go_end0
    exact ⟨⟨_, rfl⟩, .inr ⟨q4, hq4, hx4⟩⟩

end Go.Proofs.YtdfghgcfihhmjaaDoor

namespace Go.Proofs.YtdfghgcfihhmjaaDoor
open Go.RowKit Go.Shelf

attribute [local go_sem] Oper.semAt_some

/-- One part more, if it is a new one. -/
def stepP (out : List Tr) (t : Tr) : List Tr := if out.any (fun d => d.beq t) then out else out ++ [t]
def foldP (l : List (Nat × MT)) : List Tr := l.foldl (fun o x => stepP o x.2.tr) []
theorem foldP_snoc (l : List (Nat × MT)) (x : Nat × MT) : foldP (l ++ [x]) = stepP (foldP l) x.2.tr := by simp [foldP]
theorem stepP_len (o : List Tr) (t : Tr) : (stepP o t).length ≤ o.length + 1 := by unfold stepP; split <;> simp
theorem foldP_len_aux : ∀ (l : List (Nat × MT)) (o : List Tr), (l.foldl (fun o x => stepP o x.2.tr) o).length ≤ o.length + l.length
  | [], o => by simp
  | x :: l, o => by
    have := foldP_len_aux l (stepP o x.2.tr)
    have := stepP_len o x.2.tr
    rw [List.foldl_cons, List.length_cons]; omega
theorem foldP_len (l : List (Nat × MT)) : (foldP l).length ≤ l.length := by have := foldP_len_aux l []; simpa [foldP] using this
theorem anyP_map (Ls : List MT) (t : Tr) : (Ls.map MT.tr).any (fun d => d.beq t) = anyP Ls t := by simp [anyP, List.any_map, Function.comp_def]
theorem MT.pre_size : ∀ (T : MT) (lev : Nat), ∀ x ∈ T.pre lev, x.2.tr.size ≤ T.tr.size :=
  fun T => MT.rec (motive_1 := fun T => ∀ lev, ∀ x ∈ T.pre lev, x.2.tr.size ≤ T.tr.size) (motive_2 := fun l => ∀ lev, ∀ x ∈ MT.preAll lev l, x.2.tr.size ≤ Tr.sizes (MT.trs l))
    (fun op n A c args ih lev x hx => by
      rw [MT.pre] at hx
      rcases List.mem_cons.1 hx with rfl | hx
      · exact Nat.le_refl _
      · have := ih _ x hx
        rw [MT.tr, Tr.size]; omega)
    (fun lev x hx => by rw [MT.preAll] at hx; cases hx)
    (fun t ts h1 h2 lev x hx => by
      rw [MT.preAll] at hx
      rw [MT.trs, Tr.sizes]
      rcases List.mem_append.1 hx with hx | hx
      · have := h1 _ x hx; omega
      · have := h2 _ x hx; omega) T
theorem coll_kept {W W' : World} {lo base : Nat} {row : Option Nat} {v : Value} {Ls : List MT} (h : Coll lo base W v Ls) (hg : W.grownBy W' row) (hr : ∀ r, row = some r → ∃ o : Obj, W.heap[r]? = some o ∧ o.isCells = false) : Coll lo base W' v Ls :=
  ⟨owns_kept h.own hg hr, fun t ht => ⟨(h.trees t ht).1.grown hg (MT.All.imp (fun b hb e => by
    obtain ⟨cur, hcur⟩ := hb.2
    obtain ⟨o, ho, hc⟩ := hr b e.symm
    rw [hcur] at ho; cases ho; cases hc) t (h.trees t ht).1.2), (h.trees t ht).2⟩⟩
theorem parts_own {β : Type} (n₁ m : Nat) (f : β → List Tr) : Own (fun s W => ∃ v Ls, Boxed W m 25 v ∧ Coll n₁ n₁ W v Ls ∧ Ls.map MT.tr = f s) := by
  rintro s X Y row ⟨v, Ls, h1, h2, h3⟩ hg hr
  exact ⟨v, Ls, box_kept h1 hg hr, coll_kept h2 hg hr, h3⟩

/-- What Subs hands back of a valid concept. -/
def RetSubs (w : World) (T : MT) (e : Ending) (w' : World) : Prop :=
  ∃ v Ls lo, e = .returned (.tuple #[v, .int .i64 0]) ∧ w.heap.size ≤ lo ∧ Coll lo lo w' v Ls ∧ Ls.map MT.tr = foldP (T.pre 1) ∧ Below w.heap.size w w'

set_option maxRecDepth 100000 in
set_option maxHeartbeats 4000000 in
theorem cSubs_ok (n : NM) (T : MT) (w : World) (hG : G w) (hn : n.In w.heap.size w) (hT : T.In w.heap.size w) (hsz : (T.pre 1).length ≤ 1000000) (hck : checkF n T = 0) :
    Calls Tryd.prog 28 #[n.val, T.val] w (RetSubs w T) := by
  refine (callsIn_wide (n := 5)).1 ?_
  have hdd : ∀ k : Nat, (Fence.wide.depth.isSome = true → 1 ≤ k) := fun k h => by cases h
  obtain ⟨W1, hW1, hB1, hs1, hblk1⟩ := newBlk w _ rfl #[.slice n.C.A n.C.l.length n.C.c, .slice n.R.A n.R.l.length n.R.c, .slice n.I.A n.I.l.length n.I.c] 24
  obtain ⟨W4, hW4, hB4, hs4, hblk4⟩ := newBlk W1 _ hs1 #[.int .i64 T.op, .int .i64 T.n, .slice T.A T.args.length T.c] 27
  have hB : Below w.heap.size w W4 := hB1.trans (hB4.mono (by omega))
  have hblk14 := (hB4.block w.heap.size (by omega)).trans hblk1
  have a0 := cell_of_blk hblk14 0
  have a1 := cell_of_blk hblk14 1
  have a2 := cell_of_blk hblk14 2
  have c0 := cell_of_blk hblk4 0
  have c1 := cell_of_blk hblk4 1
  have c2 := cell_of_blk hblk4 2
  simp only [List.getElem?_toArray, List.getElem?_cons_zero, List.getElem?_cons_succ] at a0 a1 a2 c0 c1 c2
  have hcc := inW (cCheck_any n T W4 (hG.later hB) (hn.later hB) (hT.later hB) hsz) 4
  rw [hck] at hcc
  have HCC := Lib.hid hcc
  have HB := Lib.hid hB
  clear hB hcc
  simp only [NM.val, MT.val] at HCC ⊢
  refine callsIn_of_wp_marks Tryd.func28 rfl trivial ?_ rfl
  simp only [Tryd.ntmps28, List.size_toArray, List.length_cons, List.length_nil, Nat.reduceAdd, Nat.reduceSub, Array.replicate_succ, Array.replicate_zero, List.push_toArray, List.append_toArray, List.nil_append, List.cons_append]
  gi_wp2_with (first
      | (refine ⟨trivial, ?_⟩; refine HCC.out.mono ?_; rintro e w5 ⟨rfl, hb5⟩; have hsz5 := hb5.size; have hsz6 : w.heap.size + 1 < w5.heap.size := (by omega); have hblk25 := (hb5.block (w.heap.size + 1) (by omega)).trans hblk4; have hB57 : Below w5.heap.size w5 (w5.alloc (.cells #[.slice none 0 0] 25)) := ((Below.refl _ _).alloc (Nat.le_refl _) _); have hblk27 := (hB57.block (w.heap.size + 1) (by omega)).trans hblk25; have d0 := cell_of_blk hblk27 0; have d1 := cell_of_blk hblk27 1; have d2 := cell_of_blk hblk27 2; simp only [List.getElem?_toArray, List.getElem?_cons_zero, List.getElem?_cons_succ] at d0 d1 d2)
      | (refine ⟨trivial, ?_⟩; refine (inW (walk_any T _) _).mono ?_; rintro e w' ⟨rfl, rfl⟩))
  obtain ⟨m, hm⟩ : ∃ m, w5.heap.size = m := ⟨_, rfl⟩
  rw [hm] at hsz5 hsz6 ⊢
  obtain ⟨W5, hW5, hB5, hs5, b5⟩ := newBox w5 _ hm (.slice none 0 0) 25
  rw [hW5]
  obtain ⟨W6, hW6, hB6, hs6, hblk6⟩ := newBlk W5 _ hs5 #[.int .i64 T.op, .int .i64 T.n, .slice T.A T.args.length T.c] 27
  rw [hW6]
  have hB46 : Below W4.heap.size W4 W6 := hb5.trans ((hB5.mono (by omega)).trans (hB6.mono (by omega)))
  have hB06 : Below w.heap.size w W6 := HB.out.trans (hB46.mono (by omega))
  have e5 := boxed_below b5 hB6 (by omega)
  have hbs : ∀ b ∈ [m], b < W6.heap.size := fun b hb => by rw [List.mem_singleton.1 hb]; omega
  have hrok : RowsOK [m] W6 := fun b hb g hg => by
    rw [List.mem_singleton.1 hb] at hg
    rw [rowAt, e5.cell] at hg; cases hg
  clear hW1 hW4 hW5 hW6 c0 c1 c2 a0 a1 a2 d0 d1 d2 hblk1 hblk4 hB1 hB4 hB57 hblk27
  refine wpIn_rangeFunc_ownH rfl (by omega) (gf := 108) (lb := #[.pointer (some ⟨m + 1, 0, none⟩)]) rfl trivial (enters_of Tryd.func108 (by kernel_rfl) rfl)
    (walk1_stopsZ [m] 4 w.heap.size W6.heap.size (m + 1) hbs w W6 T hT (by rw [MT.pre_length] at hsz; exact hsz) hB06 (by omega) (Nat.le_refl _) (by omega) hrok hblk6) KR.trans (KR.b hbs (Nat.le_refl _) (by omega)) (Below.refl _ _) (fun _ => rfl)
    (fun pre W => (∃ v Ls, Boxed W m 25 v ∧ Coll W6.heap.size W6.heap.size W v Ls ∧ Ls.map MT.tr = foldP (pre.map (·.1))) ∧ (Below w.heap.size w W ∧ W6.heap.size ≤ W.heap.size))
    (fun _ _ _ => False)
    (OwnFrom.and (Own.from (parts_own _ _ _) _) (OwnFrom.and (ownFrom_below (Nat.le_refl _) (by omega)) (fun _ _ _ _ hs hg _ => Nat.le_trans hs hg.size)))
    (fun _ _ _ _ _ hs _ _ => hs)
    ⟨⟨_, [], e5, Coll.nil _ _ _, rfl⟩, hB06, Nat.le_refl _⟩
    (fun x a' W => ∃ Bx, m < Bx ∧ W.heap[Bx]? = some (.cells #[.int .i64 x.1.2.op, .int .i64 x.1.2.n, .slice x.1.2.A x.1.2.args.length x.1.2.c] 27) ∧ a' = { tmps := #[.agg #[.slice n.C.A n.C.l.length n.C.c, .slice n.R.A n.R.l.length n.R.c, .slice n.I.A n.I.l.length n.I.c], .agg #[.int .i64 T.op, .int .i64 T.n, .slice T.A T.args.length T.c], .pointer (some ⟨w.heap.size, 0, none⟩), .pointer (some ⟨w.heap.size + 1, 0, none⟩), .slice none 0 0, .int .i64 0, .int .i64 0, .pointer (some ⟨m, 0, none⟩), undef, .pointer (some ⟨Bx, 0, none⟩), undef, .agg #[.slice n.C.A n.C.l.length n.C.c, .slice n.R.A n.R.l.length n.R.c, .slice n.I.A n.I.l.length n.I.c], .agg #[.int .i64 T.op, .int .i64 T.n, .slice T.A T.args.length T.c], .int .i64 0, .int .i64 0, .bool false, undef, .agg #[.int .i64 T.op, .int .i64 T.n, .slice T.A T.args.length T.c], .func (.func 108) #[] #[.pointer (some ⟨m + 1, 0, none⟩)], .int .i64 x.1.1, .agg #[.int .i64 x.1.2.op, .int .i64 x.1.2.n, .slice x.1.2.A x.1.2.args.length x.1.2.c], undef, undef, undef, undef, undef, undef, undef, undef, undef, undef, undef, undef, undef], defers := [] })
    (fun x a' _ X Y row hs hg hr => by obtain ⟨Bx, h1, h2, h3⟩ := hs; exact ⟨Bx, h1, blk_own (α := Unit) Bx _ _ [] X Y row h2 hg (fun r e => (hr r e).2), h3⟩)
    ?assign ?body ?done ?stop
  case assign =>
    rintro l pre x W K ⟨⟨v, Ls, i1, ic, im⟩, i2, i3⟩ hK
    have hlt4 := i1.lt
    simp only [MT.val]
    gi_wp2
    exact hK _ _ ((KeepsOthers.alloc _ _).from _) (KR.alloc hbs i3 i2.size _) ⟨⟨v, Ls, boxed_below i1 ((Below.refl _ W).alloc (Nat.le_refl _) _) i1.lt, ic.later ((Below.refl _ W).alloc (Nat.le_refl _) _), im⟩, i2.alloc i2.size _, by simp; omega⟩ ⟨W.heap.size, hlt4, World.alloc_heap_new' _ _, rfl⟩
  case body =>
    rintro l pre x a' W hl hlb ⟨⟨v, Ls, i1, ic, im⟩, i2, i3⟩ ⟨Bx, hBx, hbx, rfl⟩ hlt
    have hF := Lib.hid (show foldP ((pre ++ [x]).map (·.1)) = stepP (foldP (pre.map (·.1))) x.1.2.tr by rw [List.map_append]; exact foldP_snoc _ _)
    have hle := foldP_len (pre.map (·.1))
    rw [← im, List.length_map, List.length_map] at hle
    rw [← im, stepP, anyP_map] at hF
    have hx := x.2.1.later i2
    have hcf := fun k => CallsIn.inRound l (inW (ContainsFunc_any v Ls x.1.2 Bx W ic.own (fun t ht => (ic.trees t ht).1.1) hx hbx) k)
    have n0 := i1.cell
    have n1 := i1.frozen
    have hxb : Bx < W.heap.size := (Array.getElem?_eq_some_iff.1 hbx).1
    have hxs : x.1.2.tr.size ≤ 1000000 := x.2.2
    have hl2 : Ls.length ≤ 1000000 := by omega
    have HX := Lib.hid hx
    have HI := Lib.hid i2
    clear hx im
    rcases hq : anyP Ls x.1.2.tr
    · rw [hq] at hcf hF
      gi_wp2_with (refine ⟨trivial, ?_⟩; refine (hcf _).mono ?_; rintro e w4 ⟨rfl, hb4⟩)
      have hs4' := hb4.size
      have i2 := HI.out
      refine wpIn_mono (grow_any (n₀ := W6.heap.size) m Bx v Ls x.1.2 w4 (boxed_below i1 hb4 i1.lt) (owns_below ic.own hb4) (by omega) hl2 (HX.out.later hb4) hxs (blk_below hbx hb4) _ _ _ _ _ _ _ _ _ _ _ _ _ _ _ _ _ _ _ _ _ _ _ _ _ _ _ _ _ _ _ _) ?_
      · rintro e a W2 ⟨rfl, W', w6, g, cap, T', hbel, hnew, htr, hown6, hg6, hat6, hlt6, hW2⟩
        have hdr : Below w4.heap.size w4 w4.drew := (Below.refl _ _).drew
        obtain ⟨z1, z2, z3, z4⟩ := grow_step (n₀ := w.heap.size) (n₁ := W6.heap.size) (W := w4.drew) (boxed_below i1 (hb4.trans (hdr.mono hs4')) i1.lt) ((ic.later hb4).later hdr) (by omega) (by omega) (show W6.heap.size ≤ w4.heap.size by omega) hbel hnew hown6 hg6 hat6 hlt6 hW2
        have hkr := ((KR.of_below hbs i3 i2.size hb4).trans (KR.of_below hbs (by omega) (by omega) hdr)).trans z3
        have hko : KeepsOthers W w4 := ⟨hb4.size, fun k o h _ => (hb4.block k (Array.getElem?_eq_some_iff.1 h).1).trans h⟩
        exact ⟨((hko.trans (KeepsOthers.drew _)).trans z4).from _, hkr, ⟨_, Ls ++ [T'], z1, z2, by rw [hF.out, List.map_append, List.map_singleton, htr]; rfl⟩, i2.trans hkr.below, Nat.le_trans i3 hkr.below.size⟩
    · rw [hq] at hcf hF
      gi_wp2_with (refine ⟨trivial, ?_⟩; refine (hcf _).mono ?_; rintro e w4 ⟨rfl, hb4⟩)
      have i2 := HI.out
      have hko : KeepsOthers W w4 := ⟨hb4.size, fun k o h _ => (hb4.block k (Array.getElem?_eq_some_iff.1 h).1).trans h⟩
      exact ⟨hko.from _, KR.of_below hbs i3 i2.size hb4, ⟨v, Ls, boxed_below i1 hb4 i1.lt, ic.later hb4, by rw [hF.out]; rfl⟩, i2.trans (hb4.mono i2.size), Nat.le_trans i3 hb4.size⟩
  case done =>
    rintro D ys0 W hD hys ⟨⟨v, Ls, i1, ic, im⟩, i2, i3⟩ hK
    rw [hys] at im
    have n0 := i1.cell
    have hKd : W.heap[D]? = some (.deferred (some [])) := hK
    have IM := Lib.hid im
    clear im
    gi_wp2_with fail
    refine ⟨by simp, .inl ⟨_, _, rfl, run_takeDeferred hKd, ?_⟩⟩
    refine ⟨.tuple #[v, .int .i64 0], ?_, v, Ls, W6.heap.size, rfl, by omega, coll_kept ic (grownBy_putObj' _ D (.deferred none)) (fun r e => by cases e; exact ⟨_, hKd, rfl⟩), IM.out, i2.trans (belowK_b (w := w) (Nat.le_refl _) _ D _ _ (by omega) hKd rfl rfl)⟩
    simp [results, Tryd.f28, go_sem]
  case stop =>
    rintro D c pre W _ _ h _
    exact h.elim
end Go.Proofs.YtdfghgcfihhmjaaDoor

namespace Go.Proofs.YtdfghgcfihhmjaaDoor
open Go.RowKit Go.Shelf

attribute [local go_sem] Oper.semAt_some

set_option maxRecDepth 100000 in
set_option maxHeartbeats 4000000 in
theorem cSubs_bad (n : NM) (T : MT) (w : World) (hG : G w) (hn : n.In w.heap.size w) (hT : T.In w.heap.size w) (hsz : (T.pre 1).length ≤ 1000000) (hck : checkF n T ≠ 0) :
    Calls Tryd.prog 28 #[n.val, T.val] w fun e w' => e = .returned (.tuple #[.slice none 0 0, .int .i64 (checkF n T)]) ∧ Below w.heap.size w w' := by
  refine (callsIn_wide (n := 5)).1 ?_
  obtain ⟨W1, hW1, hB1, hs1, hblk1⟩ := newBlk w _ rfl #[.slice n.C.A n.C.l.length n.C.c, .slice n.R.A n.R.l.length n.R.c, .slice n.I.A n.I.l.length n.I.c] 24
  obtain ⟨W4, hW4, hB4, hs4, hblk4⟩ := newBlk W1 _ hs1 #[.int .i64 T.op, .int .i64 T.n, .slice T.A T.args.length T.c] 27
  have hB : Below w.heap.size w W4 := hB1.trans (hB4.mono (by omega))
  have hblk14 := (hB4.block w.heap.size (by omega)).trans hblk1
  have a0 := cell_of_blk hblk14 0
  have a1 := cell_of_blk hblk14 1
  have a2 := cell_of_blk hblk14 2
  have c0 := cell_of_blk hblk4 0
  have c1 := cell_of_blk hblk4 1
  have c2 := cell_of_blk hblk4 2
  simp only [List.getElem?_toArray, List.getElem?_cons_zero, List.getElem?_cons_succ] at a0 a1 a2 c0 c1 c2
  have hcc := inW (cCheck_any n T W4 (hG.later hB) (hn.later hB) (hT.later hB) hsz) 4
  have hneB : (checkF n T != 0) = true := by simpa using hck
  generalize checkF n T = ck at hcc hneB ⊢
  have HCC := Lib.hid hcc
  have HB := Lib.hid hB
  clear hB hcc hck
  simp only [NM.val, MT.val] at HCC ⊢
  refine callsIn_of_wp_marks Tryd.func28 rfl trivial ?_ rfl
  simp only [Tryd.ntmps28, List.size_toArray, List.length_cons, List.length_nil, Nat.reduceAdd, Nat.reduceSub, Array.replicate_succ, Array.replicate_zero, List.push_toArray, List.append_toArray, List.nil_append, List.cons_append]
  gi_wp2_with (refine ⟨trivial, ?_⟩; refine HCC.out.mono ?_; rintro e w5 ⟨rfl, hb5⟩)
  refine ⟨.tuple #[.slice none 0 0, .int .i64 ck], ?_, rfl, HB.out.trans (hb5.mono (by omega))⟩
  simp [results, Tryd.f28, go_sem]

/-- The reference's walk and the program's gather the same trees. -/
theorem beq_turned (t : Tr) : ∀ d, t.beq d = d.beq t :=
  Tr.rec (motive_1 := fun t => ∀ d, t.beq d = d.beq t) (motive_2 := fun l => ∀ m, Tr.beqs l m = Tr.beqs m l)
    (fun op n args ih d => by
      obtain ⟨op', n', args'⟩ := d
      rw [Tr.beq, Tr.beq, ih args', BEq.comm (a := op), BEq.comm (a := n), show decide (args.length = args'.length) = decide (args'.length = args.length) from decide_eq_decide.2 eq_comm])
    (fun m => by cases m <;> simp [Tr.beqs])
    (fun t ts h1 h2 m => by
      cases m with
      | nil => simp [Tr.beqs]
      | cons u us => rw [Tr.beqs, Tr.beqs, h1, h2]) t
theorem any_turned (l : List Tr) (t : Tr) : (l.any fun d => t.beq d) = l.any fun d => d.beq t := by
  induction l with
  | nil => rfl
  | cons d l ih => rw [List.any_cons, List.any_cons, ih, beq_turned]
theorem foldS_tr : ∀ (l : List (Nat × MT)) (o : List MT) (p : List Tr), o.map MT.tr = p → (foldS l o).map MT.tr = l.foldl (fun o x => stepP o x.2.tr) p
  | [], o, p, h => h
  | x :: l, o, p, h => by
    rw [List.foldl_cons]
    refine foldS_tr l (stepS o x.2) (stepP p x.2.tr) ?_
    have e : anyT o x.2.tr = p.any (fun d => d.beq x.2.tr) := by
      rw [← h, ← any_turned, anyT, List.any_map]; rfl
    unfold stepS stepP
    rw [e]
    split
    · exact h
    · rw [List.map_append, h]; rfl
theorem foldS_foldP (l : List (Nat × MT)) : (foldS l []).map MT.tr = foldP l := foldS_tr l [] [] rfl
end Go.Proofs.YtdfghgcfihhmjaaDoor
