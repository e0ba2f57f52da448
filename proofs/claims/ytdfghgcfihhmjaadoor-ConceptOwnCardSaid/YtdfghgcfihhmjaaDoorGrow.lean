import Derived.Orders
import Derived.OrdersIn
import Derived.OwnWalkIn
import Derived.RangeFuncCalls
import Derived.Test.YtdfghgcfihhmjaaDoorCont
import Derived.Test.YtdfghgcfihhmjaaDoorCopy
import Derived.Deep.RegionLaw
import Derived.Deep.AppendLies
namespace Go
theorem rowsIn_of_rows {n : Nat} {P : Program} {row : String} {args : Array Value} {w : World} {R : Value → World → Prop} (h : Rows P row args w R) : RowsIn Fence.wide n P row args w R :=
  fun c cs _ => let ⟨v, w', r, s⟩ := h c cs; ⟨v, w', r, stepsIn_wide.2 s⟩
theorem Oper.wpIn_of_wp {l n : Nat} {P : Program} {o : Oper} {a : Act} {w : World} {K : Act → World → Prop} {Q : Exit → Act → World → Prop} (hnd : ∀ c, o.op ≠ .defer c)
    (h : o.wp P a w K Q) : o.wpIn (Fence.wide.inRound l) n P a w K Q := by
  refine ⟨fun _ _ => trivial, ?_⟩
  rw [Oper.semAt_plain _ _ _ hnd]
  unfold Oper.wp at h
  generalize (execOp a.eval o).run P w = r at h ⊢
  cases r with
  | ok x w' =>
    cases x <;> simp only [Oper.upon, Oper.uponIn] at h ⊢ <;>
      first
        | exact h
        | exact ⟨fun hd => absurd hd (by simp [Fence.inRound, Fence.wide]), CallsIn.inRound l (callsIn_wide.2 (Calls.mono h fun e _ he => by cases e <;> exact he))⟩
        | exact ⟨fun hd => absurd hd (by simp [Fence.inRound, Fence.wide]), rowsIn_of_rows h⟩
  | halt x w' => cases x <;> simp only [Oper.upon, Oper.uponIn] at h ⊢ <;> exact h

theorem wpAnyIn_of_wpAny {l n : Nat} {P : Program} {md : Region.Mode} {ops : Array Oper} {Q : Exit → Act → World → Prop} (hnd : ∀ (i : Nat) (o : Oper), ops[i]? = some o → ∀ c : Call, o.op ≠ .defer c) (hQ : ¬ LetsOut Q) :
    ∀ (fuel : Nat) (listed : Array Bool) (a : Act) (w : World), wpAny P md ops Q fuel listed a w → wpAnyIn (Fence.wide.inRound l) n P md ops Q fuel listed a w
  | 0, _, _, _, h => h
  | fuel + 1, listed, a, w, h => by
    refine ⟨h.1, fun i hi => ?_⟩
    have h2 := wpOp_mono (K' := wpAnyIn (Fence.wide.inRound l) n P md ops Q fuel (listed.setIfInBounds i true)) (fun a w => wpAnyIn_of_wpAny hnd hQ fuel _ a w) (h.2 i hi)
    unfold wpOp at h2
    unfold wpOpIn
    split
    · rename_i e; simpa only [e] using h2
    · rename_i o e
      simp only [e] at h2
      split
      · rename_i hw
        simp only [hw, if_true] at h2
        exact Oper.wpIn_of_wp (hnd i o e) (h2.resolve_right fun h => hQ h.2)
      · rename_i hw
        simp only [hw] at h2
        exact ⟨fun _ _ => trivial, h2⟩

/-- A REGION WITHOUT DEFER THAT DRAWS, IN A ROUND, as outside one. -/
theorem wpIn_round_any {l n : Nat} {P : Program} {id : Nat} {ops : Array Oper} {Q : Exit → Act → World → Prop} {a : Act} {w : World} (hm : P.follows .mixedOrders = true)
    (hnd : ∀ (i : Nat) (o : Oper), ops[i]? = some o → ∀ c : Call, o.op ≠ .defer c) (hQ : ¬ LetsOut Q)
    (h : wpAny P .any ops Q ops.size (Array.replicate ops.size false) a { w with drawn := w.drawn + 1 }) : (Code.region id ops true).wpIn (Fence.wide.inRound l) n P Q a w :=
  wpIn_region_any hm (wpAnyIn_of_wpAny hnd hQ _ _ _ _ h)
end Go

namespace Go.Proofs.YtdfghgcfihhmjaaDoor
open Go.RowKit

/-- The operations of the region "parts = append(parts, tree.Copy(node))". -/
def ops9 : Array Oper := #[
  { dst := some 26, op := .load 25 (.tmp 7), type := 25, pos := "parts.go:42", after := #[], guard := none },
  { dst := some 27, op := .load 27 (.tmp 9), type := 27, pos := "parts.go:42", after := #[], guard := none },
  { dst := some 28, op := .call { callee := .value (.func 81), args := #[.tmp 27], argTypes := #[27] }, type := 27, pos := "parts.go:42", after := #[{ on := 1, ground := .data }], guard := none },
  { dst := some 29, op := .call { callee := .builtin .len, args := #[.tmp 26], argTypes := #[25] }, type := 3, pos := "parts.go:42", after := #[{ on := 0, ground := .data }], guard := none },
  { dst := some 30, op := .buildSlice 25 1 #[(0, .const (.agg #[.int .i64 0, .int .i64 0, .slice none 0 0]))], type := 25, pos := "parts.go:42", after := #[], guard := none },
  { dst := some 31, op := .call { callee := .builtin .append, args := #[.tmp 26, .tmp 30], argTypes := #[25, 25] }, type := 25, pos := "parts.go:42", after := #[{ on := 0, ground := .data }, { on := 4, ground := .data }, { on := 2, ground := .chain }, { on := 0, ground := .phase }, { on := 1, ground := .phase }, { on := 2, ground := .phase }, { on := 3, ground := .phase }, { on := 4, ground := .phase }], guard := none },
  { dst := some 32, op := .indexAddr 25 (.tmp 31) (.tmp 29), type := 0, pos := "parts.go:42", after := #[{ on := 5, ground := .data }, { on := 3, ground := .data }, { on := 0, ground := .phase }, { on := 1, ground := .phase }, { on := 2, ground := .phase }, { on := 3, ground := .phase }, { on := 4, ground := .phase }, { on := 5, ground := .phase }, { on := 8, ground := .gcOnly .appendInPlace }], guard := none },
  { dst := none, op := .store 27 (.tmp 32) (.tmp 28), type := 0, pos := "parts.go:42", after := #[{ on := 6, ground := .data }, { on := 2, ground := .data }, { on := 5, ground := .chain }, { on := 0, ground := .phase }, { on := 1, ground := .phase }, { on := 2, ground := .phase }, { on := 3, ground := .phase }, { on := 4, ground := .phase }, { on := 5, ground := .phase }, { on := 8, ground := .gcOnly .appendInPlace }], guard := none },
  { dst := none, op := .store 25 (.tmp 7) (.tmp 31), type := 0, pos := "parts.go:42", after := #[{ on := 5, ground := .data }, { on := 5, ground := .chain }, { on := 7, ground := .textOnly .appendInPlace }, { on := 0, ground := .phase }, { on := 1, ground := .phase }, { on := 2, ground := .phase }, { on := 3, ground := .phase }, { on := 4, ground := .phase }, { on := 5, ground := .phase }, { on := 6, ground := .textOnly .appendInPlace }, { on := 7, ground := .textOnly .appendInPlace }], guard := none }]
theorem ops9_of : ∃ a b, Tryd.f28.body = some (.seq a b) := ⟨_, _, rfl⟩
theorem ready9 : ∀ s0 s1 s2 s3 s4 : Bool, Region.ready .any ops9 #[s0, s1, s2, s3, s4, false, false, false, false] =
    (if s0 then [] else [0]) ++ (if s1 then [] else [1]) ++ (if !s2 && s1 then [2] else []) ++ (if !s3 && s0 then [3] else []) ++ (if s4 then [] else [4]) ++ (if s0 && s1 && s2 && s3 && s4 then [5] else []) := by
  intro s0 s1 s2 s3 s4
  cases s0 <;> cases s1 <;> cases s2 <;> cases s3 <;> cases s4 <;> kernel_rfl

structure S9 (v : Value) (L : Nat) (T : MT) (W W' : World) (s0 s1 s2 s3 s4 : Bool) (t26 t27 t28 t29 t30 : Value) : Prop where
  bel : Below W.heap.size W W'
  k0 : s0 = true → t26 = v
  k1 : s1 = true → t27 = T.val
  k2 : s2 = true → ∃ T' : MT, t28 = T'.val ∧ T'.tr = T.tr ∧ New W.heap.size W' T'
  k3 : s3 = true → t29 = .int .i64 L
  k4 : s4 = true → ∃ g fr, t30 = .slice (some ⟨g, 0, none⟩) 1 1 ∧ W.heap.size ≤ g ∧ W'.heap[g]? = some (.cells #[.int .i64 0, .int .i64 0, .slice none 0 0] 27 fr)

set_option maxRecDepth 100000 in
set_option maxHeartbeats 4000000 in
theorem phaseA {n₀ : Nat} (b Bx : Nat) (v : Value) (Ls : List MT) (T : MT) (W : World) (Q : Exit → Act → World → Prop)
    (hbox : Boxed W b 25 v) (hrow : TRow n₀ W v Ls) (hT : T.In W.heap.size W) (hsz : T.tr.size ≤ 1000000)
    (hblk : W.heap[Bx]? = some (.cells #[.int .i64 T.op, .int .i64 T.n, .slice T.A T.args.length T.c] 27))
    (hend : ∀ (x0 x1 x2 x3 x4 x5 x6 x8 x10 x11 x12 x13 x14 x15 x16 x17 x18 x19 x20 x21 x22 x23 x24 x25 x31 x32 x33 t26 t27 t28 t29 t30 : Value) (W' : World), S9 v Ls.length T W W' true true true true true t26 t27 t28 t29 t30 →
      wpAny Tryd.prog .any ops9 Q 4 #[true, true, true, true, true, false, false, false, false] { tmps := #[x0, x1, x2, x3, x4, x5, x6, .pointer (some ⟨b, 0, none⟩), x8, .pointer (some ⟨Bx, 0, none⟩), x10, x11, x12, x13, x14, x15, x16, x17, x18, x19, x20, x21, x22, x23, x24, x25, t26, t27, t28, t29, t30, x31, x32, x33], defers := [] } W') :
    ∀ (k : Nat) (s0 s1 s2 s3 s4 : Bool), (s2 = true → s1 = true) → (s3 = true → s0 = true) → (!s0).toNat + (!s1).toNat + (!s2).toNat + (!s3).toNat + (!s4).toNat = k →
    ∀ (x0 x1 x2 x3 x4 x5 x6 x8 x10 x11 x12 x13 x14 x15 x16 x17 x18 x19 x20 x21 x22 x23 x24 x25 x31 x32 x33 t26 t27 t28 t29 t30 : Value) (W' : World), S9 v Ls.length T W W' s0 s1 s2 s3 s4 t26 t27 t28 t29 t30 →
      wpAny Tryd.prog .any ops9 Q (k + 4) #[s0, s1, s2, s3, s4, false, false, false, false] { tmps := #[x0, x1, x2, x3, x4, x5, x6, .pointer (some ⟨b, 0, none⟩), x8, .pointer (some ⟨Bx, 0, none⟩), x10, x11, x12, x13, x14, x15, x16, x17, x18, x19, x20, x21, x22, x23, x24, x25, t26, t27, t28, t29, t30, x31, x32, x33], defers := [] } W' := by
  intro k
  induction k with
  | zero =>
    intro s0 s1 s2 s3 s4 h2 h3 hk
    cases s0 <;> cases s1 <;> cases s2 <;> cases s3 <;> cases s4 <;> simp at hk
    intros
    apply hend
    assumption
  | succ k ih =>
    intro s0 s1 s2 s3 s4 h2 h3 hk x0 x1 x2 x3 x4 x5 x6 x8 x10 x11 x12 x13 x14 x15 x16 x17 x18 x19 x20 x21 x22 x23 x24 x25 x31 x32 x33 t26 t27 t28 t29 t30 W' hS
    obtain ⟨A, c, hv, hlen, hg, hr⟩ := hrow.cells
    have hbel := hS.bel
    have hS0 := hS
    have d0 := (boxed_below hbox hbel hbox.lt).cell
    have hbx := blk_below hblk hbel
    obtain ⟨c0, c1, c2⟩ := box_cells hbx (Below.refl _ W')
    have hcp := tCopy_any T W' (hT.later hbel) hsz
    refine ⟨fun hnil => ?_, fun i hi => ?_⟩
    · rw [ready9] at hnil
      cases s0 <;> cases s1 <;> cases s2 <;> cases s3 <;> cases s4 <;> simp at hnil hk
    · have hc : (i = 0 ∧ s0 = false) ∨ (i = 1 ∧ s1 = false) ∨ (i = 2 ∧ s2 = false ∧ s1 = true) ∨ (i = 3 ∧ s3 = false ∧ s0 = true) ∨ (i = 4 ∧ s4 = false) := by
        rw [ready9] at hi
        cases s0 <;> cases s1 <;> cases s2 <;> cases s3 <;> cases s4 <;> simp at hi hk ⊢ <;> omega
      clear hi
      rcases hc with ⟨rfl, rfl⟩ | ⟨rfl, rfl⟩ | ⟨rfl, rfl, rfl⟩ | ⟨rfl, rfl, rfl⟩ | ⟨rfl, rfl⟩
      · refine wpOp_step (o := { dst := some 26, op := .load 25 (.tmp 7), type := 25, pos := "parts.go:42", after := #[], guard := none }) (by kernel_rfl) fun K hK => ?_
        go_simp
        refine hK _ _ (ih true s1 s2 s3 s4 h2 (fun _ => rfl) (by simp at hk ⊢; omega) _ _ _ _ _ _ _ _ _ _ _ _ _ _ _ _ _ _ _ _ _ _ _ _ _ _ _ _ _ _ _ _ _ ⟨hS.bel, fun _ => hv.symm, hS.k1, hS.k2, hS.k3, hS.k4⟩)
      · refine wpOp_step (o := { dst := some 27, op := .load 27 (.tmp 9), type := 27, pos := "parts.go:42", after := #[], guard := none }) (by kernel_rfl) fun K hK => ?_
        go_simp
        refine hK _ _ (ih s0 true s2 s3 s4 (fun _ => rfl) h3 (by simp at hk ⊢; omega) _ _ _ _ _ _ _ _ _ _ _ _ _ _ _ _ _ _ _ _ _ _ _ _ _ _ _ _ _ _ _ _ _ ⟨hS.bel, hS.k0, fun _ => rfl, hS.k2, hS.k3, hS.k4⟩)
      · refine wpOp_step (o := { dst := some 28, op := .call { callee := .value (.func 81), args := #[.tmp 27], argTypes := #[27] }, type := 27, pos := "parts.go:42", after := #[{ on := 1, ground := .data }], guard := none }) (by kernel_rfl) fun K hK => ?_
        have e27 := hS.k1 rfl
        subst e27
        simp only [MT.val] at hcp ⊢
        go_simp
        go_at_call 81
        refine hcp.mono ?_
        rintro e w' ⟨T', rfl, htr, hnew, hbl⟩
        refine hK _ _ (ih s0 true true s3 s4 (fun _ => rfl) h3 (by simp at hk ⊢; omega) _ _ _ _ _ _ _ _ _ _ _ _ _ _ _ _ _ _ _ _ _ _ _ _ _ _ _ _ _ _ _ _ _ ⟨hbel.trans (hbl.mono hbel.size), hS.k0, fun _ => rfl, fun _ => ⟨T', rfl, htr, hnew.lo hbel.size⟩, hS.k3, fun h4 => ?_⟩)
        obtain ⟨g, fr, h41, h42, h43⟩ := hS.k4 h4
        exact ⟨g, fr, h41, h42, (hbl.block g (Array.getElem?_eq_some_iff.1 h43).1).trans h43⟩
      · refine wpOp_step (o := { dst := some 29, op := .call { callee := .builtin .len, args := #[.tmp 26], argTypes := #[25] }, type := 3, pos := "parts.go:42", after := #[{ on := 0, ground := .data }], guard := none }) (by kernel_rfl) fun K hK => ?_
        have e26 := hS.k0 rfl
        subst e26
        subst hv
        go_simp
        refine hK _ _ (ih true s1 s2 true s4 h2 (fun _ => rfl) (by simp at hk ⊢; omega) _ _ _ _ _ _ _ _ _ _ _ _ _ _ _ _ _ _ _ _ _ _ _ _ _ _ _ _ _ _ _ _ _ ⟨hS.bel, hS.k0, hS.k1, hS.k2, fun _ => rfl, hS.k4⟩)
      · refine wpOp_step (o := { dst := some 30, op := .buildSlice 25 1 #[(0, .const (.agg #[.int .i64 0, .int .i64 0, .slice none 0 0]))], type := 25, pos := "parts.go:42", after := #[], guard := none }) (by kernel_rfl) fun K hK => ?_
        go_simp
        refine hK _ _ (ih s0 s1 s2 s3 true h2 h3 (by simp at hk ⊢; omega) _ _ _ _ _ _ _ _ _ _ _ _ _ _ _ _ _ _ _ _ _ _ _ _ _ _ _ _ _ _ _ _ _ ⟨hbel.alloc hbel.size _, hS.k0, hS.k1, fun h => ?_, hS.k3, fun _ => ⟨W'.heap.size, (0, 0), rfl, hbel.size, heap_alloc_new _ _⟩⟩)
        obtain ⟨T', h1, h2, h3⟩ := hS.k2 h
        exact ⟨T', h1, h2, h3.later ((Below.refl _ _).alloc (Nat.le_refl _) _)⟩

set_option maxRecDepth 100000 in
set_option maxHeartbeats 4000000 in
theorem phaseB {n₀ : Nat} (b Bx : Nat) (v : Value) (Ls : List MT) (T : MT) (W : World) (Q : Exit → Act → World → Prop)
    (hbox : Boxed W b 25 v) (hrow : TRow n₀ W v Ls) (hbs : n₀ ≤ W.heap.size) (hlen : Ls.length ≤ 1000000)
    (hend : ∀ (a : Act) (W' w6 W2 : World) (g cap : Nat) (T' : MT), Below W.heap.size W W' → New W.heap.size W' T' → T'.tr = T.tr →
      w6.ownsRow n₀ 27 3 (.slice (some ⟨g, 0, none⟩) (Ls.length + 1) cap) (Ls.length + 1) (Ls.flatMap MT.cs ++ zeroMT.cs) → W'.grownBy w6 v.ownBlock → (v.ownBlock = some g ∨ g = W'.heap.size) → g < w6.heap.size →
      (W2 = ((((w6.setCell ⟨g, Ls.length * 3, none⟩ (.int .i64 T'.op)).setCell ⟨g, Ls.length * 3 + 1, none⟩ (.int .i64 T'.n)).setCell ⟨g, Ls.length * 3 + 2, none⟩ (.slice T'.A T'.args.length T'.c)).setCell ⟨b, 0, none⟩ (.slice (some ⟨g, 0, none⟩) (Ls.length + 1) cap)) ∨
       W2 = ((((w6.setCell ⟨b, 0, none⟩ (.slice (some ⟨g, 0, none⟩) (Ls.length + 1) cap)).setCell ⟨g, Ls.length * 3, none⟩ (.int .i64 T'.op)).setCell ⟨g, Ls.length * 3 + 1, none⟩ (.int .i64 T'.n)).setCell ⟨g, Ls.length * 3 + 2, none⟩ (.slice T'.A T'.args.length T'.c))) → Q .normal a W2)
    :
    ∀ (x0 x1 x2 x3 x4 x5 x6 x8 x10 x11 x12 x13 x14 x15 x16 x17 x18 x19 x20 x21 x22 x23 x24 x25 x31 x32 x33 t26 t27 t28 t29 t30 : Value) (W' : World), S9 v Ls.length T W W' true true true true true t26 t27 t28 t29 t30 →
      wpAny Tryd.prog .any ops9 Q 4 #[true, true, true, true, true, false, false, false, false] { tmps := #[x0, x1, x2, x3, x4, x5, x6, .pointer (some ⟨b, 0, none⟩), x8, .pointer (some ⟨Bx, 0, none⟩), x10, x11, x12, x13, x14, x15, x16, x17, x18, x19, x20, x21, x22, x23, x24, x25, t26, t27, t28, t29, t30, x31, x32, x33], defers := [] } W' := by
  intro x0 x1 x2 x3 x4 x5 x6 x8 x10 x11 x12 x13 x14 x15 x16 x17 x18 x19 x20 x21 x22 x23 x24 x25 x31 x32 x33 t26 t27 t28 t29 t30 W' hS
  obtain ⟨A, c, hv, hlen', hg, hr⟩ := hrow.cells
  have hbel := hS.bel
  have hsz := hbel.size
  obtain ⟨T', h28, htr, hnew⟩ := hS.k2 rfl
  obtain ⟨g4, fr, h30, hg4, hz4⟩ := hS.k4 rfl
  have h26 := hS.k0 rfl
  have h29 := hS.k3 rfl
  subst h26 h28 h29 h30
  have hbx' := boxed_below hbox hbel hbox.lt
  obtain ⟨i0, hi, hz0, hz1, hz2⟩ := info_parts con_info
  refine wpAny_ready (rs := [5]) (by kernel_rfl) (by simp) (AllReady.cons (o := { dst := some 31, op := .call { callee := .builtin .append, args := #[.tmp 26, .tmp 30], argTypes := #[25, 25] }, type := 25, pos := "parts.go:42", after := #[{ on := 0, ground := .data }, { on := 4, ground := .data }, { on := 2, ground := .chain }, { on := 0, ground := .phase }, { on := 1, ground := .phase }, { on := 2, ground := .phase }, { on := 3, ground := .phase }, { on := 4, ground := .phase }], guard := none }) (by kernel_rfl) (fun K hK => ?_) AllReady.nil)
  refine step_append_lies _ (by rfl) _ _ _ (by rfl) n₀ 27 i0 _ 3 40 Tryd.underlying25 hi hz0 hz1 hz2 rfl (by omega) _ Ls.length (Ls.flatMap MT.cs) (by rfl) (owns_below hrow hbel) ⟨g4, 0, none⟩ 1 1 zeroMT.cs (by rfl) (by rfl) (World.news_of_block hz4) (by simp [MT.cs, zeroMT, Value.oneCell']) (by omega) (by unfold maxLen; omega) (by omega) (by omega) W'.heap.size rfl ?_
  intro g cap w6 hown6 hg6 hat6 hlt6
  have nb := hbx'.not_row (show (25 : Nat) ≠ 27 by decide) (owns_below hrow hbel)
  have hb6 : Boxed w6 b 25 _ := hbx'.kept hg6 nb
  have m0 := hb6.cell
  have m1 := hb6.frozen
  obtain ⟨cur, hgc, hgs⟩ : ∃ cur, w6.heap[g]? = some (.cells cur 27) ∧ Ls.length * 3 + 3 ≤ cur.size := by
    rcases hown6.2 with ⟨h, _⟩ | ⟨g', cap', cur, h, _, hgb, _, hcap, hsize, _⟩
    · cases h
    · cases h; exact ⟨cur, hgb, by omega⟩
  have hgb : g ≠ b := fun e => by
    subst e
    rw [show w6.heap[g]? = _ from hb6] at hgc
    exact absurd (by injection hgc with h; injection h) (show (25 : Nat) ≠ 27 by decide)
  have hgc2 : (w6.setCell ⟨b, 0, none⟩ (.slice (some ⟨g, 0, none⟩) (Ls.length + 1) cap)).heap[g]? = some (.cells cur 27) := (Below.heap_setCell _ _ _ g (by show g ≠ b; exact hgb)).trans hgc
  have a0 := cell_of_blk hgc (Ls.length * 3)
  have a1 := cell_of_blk hgc (Ls.length * 3 + 1)
  have a2 := cell_of_blk hgc (Ls.length * 3 + 2)
  have b0 := frozen_of_blk hgc (Ls.length * 3)
  have b1 := frozen_of_blk hgc (Ls.length * 3 + 1)
  have b2 := frozen_of_blk hgc (Ls.length * 3 + 2)
  have c0 := cell_of_blk hgc2 (Ls.length * 3)
  have c1 := cell_of_blk hgc2 (Ls.length * 3 + 1)
  have c2 := cell_of_blk hgc2 (Ls.length * 3 + 2)
  have d0 := frozen_of_blk hgc2 (Ls.length * 3)
  have d1 := frozen_of_blk hgc2 (Ls.length * 3 + 1)
  have d2 := frozen_of_blk hgc2 (Ls.length * 3 + 2)
  rw [Array.getElem?_eq_getElem (by omega)] at a0 a1 a2 c0 c1 c2
  have hlt1 : ((Ls.length : Nat) : Int) < (Ls.length : Int) + 1 := by omega
  have HE := Lib.hid (fun a W2 => hend a W' w6 W2 g cap T' hbel hnew htr hown6 hg6 hat6 hlt6)
  simp only [MT.val]
  go_simp
  refine hK _ _ ?_
  clear hK K hend
  refine wpAny_ready (rs := [6, 8]) (by kernel_rfl) (by simp) (AllReady.cons (o := { dst := some 32, op := .indexAddr 25 (.tmp 31) (.tmp 29), type := 0, pos := "parts.go:42", after := #[{ on := 5, ground := .data }, { on := 3, ground := .data }, { on := 0, ground := .phase }, { on := 1, ground := .phase }, { on := 2, ground := .phase }, { on := 3, ground := .phase }, { on := 4, ground := .phase }, { on := 5, ground := .phase }, { on := 8, ground := .gcOnly .appendInPlace }], guard := none }) (by kernel_rfl) (fun K hK => ?_) (AllReady.cons (o := { dst := none, op := .store 25 (.tmp 7) (.tmp 31), type := 0, pos := "parts.go:42", after := #[{ on := 5, ground := .data }, { on := 5, ground := .chain }, { on := 7, ground := .textOnly .appendInPlace }, { on := 0, ground := .phase }, { on := 1, ground := .phase }, { on := 2, ground := .phase }, { on := 3, ground := .phase }, { on := 4, ground := .phase }, { on := 5, ground := .phase }, { on := 6, ground := .textOnly .appendInPlace }, { on := 7, ground := .textOnly .appendInPlace }], guard := none }) (by kernel_rfl) (fun K hK => ?_) AllReady.nil))
  · go_simp
    refine hK _ _ ?_
    clear hK K
    refine wpAny_ready (rs := [7, 8]) (by kernel_rfl) (by simp) (AllReady.cons (o := { dst := none, op := .store 27 (.tmp 32) (.tmp 28), type := 0, pos := "parts.go:42", after := #[{ on := 6, ground := .data }, { on := 2, ground := .data }, { on := 5, ground := .chain }, { on := 0, ground := .phase }, { on := 1, ground := .phase }, { on := 2, ground := .phase }, { on := 3, ground := .phase }, { on := 4, ground := .phase }, { on := 5, ground := .phase }, { on := 8, ground := .gcOnly .appendInPlace }], guard := none }) (by kernel_rfl) (fun K hK => ?_) (AllReady.cons (o := { dst := none, op := .store 25 (.tmp 7) (.tmp 31), type := 0, pos := "parts.go:42", after := #[{ on := 5, ground := .data }, { on := 5, ground := .chain }, { on := 7, ground := .textOnly .appendInPlace }, { on := 0, ground := .phase }, { on := 1, ground := .phase }, { on := 2, ground := .phase }, { on := 3, ground := .phase }, { on := 4, ground := .phase }, { on := 5, ground := .phase }, { on := 6, ground := .textOnly .appendInPlace }, { on := 7, ground := .textOnly .appendInPlace }], guard := none }) (by kernel_rfl) (fun K hK => ?_) AllReady.nil))
    · go_simp
      refine hK _ _ ?_
      clear hK K
      have hb7 := boxed_other (boxed_other (boxed_other hb6 (p := ⟨g, Ls.length * 3, none⟩) (fun e => hgb e.symm) (.int .i64 T'.op)) (p := ⟨g, Ls.length * 3 + 1, none⟩) (fun e => hgb e.symm) (.int .i64 T'.n)) (p := ⟨g, Ls.length * 3 + 2, none⟩) (fun e => hgb e.symm) (.slice T'.A T'.args.length T'.c)
      have e0 := hb7.cell
      have e1 := hb7.frozen
      refine wpAny_ready (rs := [8]) (by kernel_rfl) (by simp) (AllReady.cons (o := { dst := none, op := .store 25 (.tmp 7) (.tmp 31), type := 0, pos := "parts.go:42", after := #[{ on := 5, ground := .data }, { on := 5, ground := .chain }, { on := 7, ground := .textOnly .appendInPlace }, { on := 0, ground := .phase }, { on := 1, ground := .phase }, { on := 2, ground := .phase }, { on := 3, ground := .phase }, { on := 4, ground := .phase }, { on := 5, ground := .phase }, { on := 6, ground := .textOnly .appendInPlace }, { on := 7, ground := .textOnly .appendInPlace }], guard := none }) (by kernel_rfl) (fun K hK => ?_) AllReady.nil)
      go_simp
      exact hK _ _ (wpAny_done (by kernel_rfl) (HE.out _ _ (.inl rfl)) _)
    · go_simp
      refine hK _ _ ?_
      clear hK K
      refine wpAny_ready (rs := [7]) (by kernel_rfl) (by simp) (AllReady.cons (o := { dst := none, op := .store 27 (.tmp 32) (.tmp 28), type := 0, pos := "parts.go:42", after := #[{ on := 6, ground := .data }, { on := 2, ground := .data }, { on := 5, ground := .chain }, { on := 0, ground := .phase }, { on := 1, ground := .phase }, { on := 2, ground := .phase }, { on := 3, ground := .phase }, { on := 4, ground := .phase }, { on := 5, ground := .phase }, { on := 8, ground := .gcOnly .appendInPlace }], guard := none }) (by kernel_rfl) (fun K hK => ?_) AllReady.nil)
      go_simp
      exact hK _ _ (wpAny_done (by kernel_rfl) (HE.out _ _ (.inr rfl)) _)
  · go_simp
    refine hK _ _ ?_
    clear hK K
    refine wpAny_ready (rs := [6]) (by kernel_rfl) (by simp) (AllReady.cons (o := { dst := some 32, op := .indexAddr 25 (.tmp 31) (.tmp 29), type := 0, pos := "parts.go:42", after := #[{ on := 5, ground := .data }, { on := 3, ground := .data }, { on := 0, ground := .phase }, { on := 1, ground := .phase }, { on := 2, ground := .phase }, { on := 3, ground := .phase }, { on := 4, ground := .phase }, { on := 5, ground := .phase }, { on := 8, ground := .gcOnly .appendInPlace }], guard := none }) (by kernel_rfl) (fun K hK => ?_) AllReady.nil)
    go_simp
    refine hK _ _ ?_
    clear hK K
    refine wpAny_ready (rs := [7]) (by kernel_rfl) (by simp) (AllReady.cons (o := { dst := none, op := .store 27 (.tmp 32) (.tmp 28), type := 0, pos := "parts.go:42", after := #[{ on := 6, ground := .data }, { on := 2, ground := .data }, { on := 5, ground := .chain }, { on := 0, ground := .phase }, { on := 1, ground := .phase }, { on := 2, ground := .phase }, { on := 3, ground := .phase }, { on := 4, ground := .phase }, { on := 5, ground := .phase }, { on := 8, ground := .gcOnly .appendInPlace }], guard := none }) (by kernel_rfl) (fun K hK => ?_) AllReady.nil)
    go_simp
    exact hK _ _ (wpAny_done (by kernel_rfl) (HE.out _ _ (.inr rfl)) _)

/-- THE REGION IN A ROUND. -/
theorem grow_any {n₀ l n : Nat} (b Bx : Nat) (v : Value) (Ls : List MT) (T : MT) (W : World)
    (hbox : Boxed W b 25 v) (hrow : TRow n₀ W v Ls) (hbs : n₀ ≤ W.heap.size) (hlen : Ls.length ≤ 1000000) (hT : T.In W.heap.size W) (hsz : T.tr.size ≤ 1000000)
    (hblk : W.heap[Bx]? = some (.cells #[.int .i64 T.op, .int .i64 T.n, .slice T.A T.args.length T.c] 27))
    (x0 x1 x2 x3 x4 x5 x6 x8 x10 x11 x12 x13 x14 x15 x16 x17 x18 x19 x20 x21 x22 x23 x24 x25 x31 x32 x33 t26 t27 t28 t29 t30 : Value) : (Code.region 9 ops9 true).wpIn (Fence.wide.inRound l) n Tryd.prog (fun e _ W2 => e = .normal ∧ ∃ (W' w6 : World) (g cap : Nat) (T' : MT), Below W.drew.heap.size W.drew W' ∧ New W.drew.heap.size W' T' ∧ T'.tr = T.tr ∧ w6.ownsRow n₀ 27 3 (.slice (some ⟨g, 0, none⟩) (Ls.length + 1) cap) (Ls.length + 1) (Ls.flatMap MT.cs ++ zeroMT.cs) ∧ W'.grownBy w6 v.ownBlock ∧ (v.ownBlock = some g ∨ g = W'.heap.size) ∧ g < w6.heap.size ∧
      (W2 = ((((w6.setCell ⟨g, Ls.length * 3, none⟩ (.int .i64 T'.op)).setCell ⟨g, Ls.length * 3 + 1, none⟩ (.int .i64 T'.n)).setCell ⟨g, Ls.length * 3 + 2, none⟩ (.slice T'.A T'.args.length T'.c)).setCell ⟨b, 0, none⟩ (.slice (some ⟨g, 0, none⟩) (Ls.length + 1) cap)) ∨
       W2 = ((((w6.setCell ⟨b, 0, none⟩ (.slice (some ⟨g, 0, none⟩) (Ls.length + 1) cap)).setCell ⟨g, Ls.length * 3, none⟩ (.int .i64 T'.op)).setCell ⟨g, Ls.length * 3 + 1, none⟩ (.int .i64 T'.n)).setCell ⟨g, Ls.length * 3 + 2, none⟩ (.slice T'.A T'.args.length T'.c)))) { tmps := #[x0, x1, x2, x3, x4, x5, x6, .pointer (some ⟨b, 0, none⟩), x8, .pointer (some ⟨Bx, 0, none⟩), x10, x11, x12, x13, x14, x15, x16, x17, x18, x19, x20, x21, x22, x23, x24, x25, t26, t27, t28, t29, t30, x31, x32, x33], defers := [] } W :=
  wpIn_round_any (by kernel_rfl) (by
    intro i o hi c
    match i, hi with
    | 0, hi | 1, hi | 2, hi | 3, hi | 4, hi | 5, hi | 6, hi | 7, hi | 8, hi => cases hi; intro h; cases h
    | k + 9, hi => cases hi) (fun ⟨_, _, h⟩ => by cases h.1)
    (phaseA b Bx v Ls T W.drew _ hbox hrow (hT.later (Below.refl _ W).drew) hsz hblk
      (phaseB b Bx v Ls T W.drew _ hbox hrow hbs hlen (fun _ W' w6 _ g cap T' h1 h2 h3 h4 h5 h6 h7 h8 => ⟨rfl, W', w6, g, cap, T', h1, h2, h3, h4, h5, h6, h7, h8⟩)) 5 false false false false false (fun h => by cases h) (fun h => by cases h) rfl x0 x1 x2 x3 x4 x5 x6 x8 x10 x11 x12 x13 x14 x15 x16 x17 x18 x19 x20 x21 x22 x23 x24 x25 x31 x32 x33 t26 t27 t28 t29 t30 W.drew
      ⟨Below.refl _ _, nofun, nofun, nofun, nofun, nofun⟩)
end Go.Proofs.YtdfghgcfihhmjaaDoor
