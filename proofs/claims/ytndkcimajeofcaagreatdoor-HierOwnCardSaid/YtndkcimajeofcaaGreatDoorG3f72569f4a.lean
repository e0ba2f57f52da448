import Derived.Test.YtndkcimajeofcaaGreatDoorG3a662f577c
import Derived.Test.YtndkcimajeofcaaGreatDoorG3b2f17e259
import Derived.Test.YtndkcimajeofcaaGreatDoorG857cfc98f5
import Derived.Test.YtndkcimajeofcaaGreatDoorG347ab55b0a
import Derived.Maps.OwnSet
import Derived.Maps.Views
import Derived.Deep.DrawnRows
import Derived.Deep.AppendLies
import Derived.Orders
import Derived.Deep.RegionLaw
import Derived.Deep.RegionHeld
namespace Go.Proofs.YtndkcimajeofcaaGreatDoor
open Go.RowKit
attribute [local go_sem ↓] Go.wp_at_zero Go.wp_at_succ

/-- Where a string stands in a list. -/
def look (S : List (List UInt8)) (k : List UInt8) : Option Nat := S.findIdx? (· == k)
def placeN (S : List (List UInt8)) (k : List UInt8) : Nat := (look S k).getD 0
theorem look_snoc (S : List (List UInt8)) (a k : List UInt8) : look (S ++ [a]) k = (look S k).or (if a == k then some S.length else none) := by
  unfold look
  rw [List.findIdx?_append]
  congr 1
  simp only [List.findIdx?_cons, List.findIdx?_nil]
  cases a == k <;> simp
/-- The map reads as the places of a list's strings. -/
structure MapOf (D : DataW Nat) (S : List (List UInt8)) : Prop where
  map : Maps.IsMap D
  has : ∀ k, Maps.has D (.string k) = (look S k).isSome
  at_ : ∀ k, D.atKey (.string k) (.lit (.int .i64 0)) = .lit (.int .i64 (placeN S k : Nat))
theorem MapOf.nil : MapOf (.map []) [] := ⟨Maps.isMap_empty, fun _ => rfl, fun _ => rfl⟩
theorem MapOf.put {D : DataW Nat} {S : List (List UInt8)} {a : List UInt8} (h : MapOf D S) (ha : look S a = none) : MapOf (D.put (.string a) (.lit (.int .i64 (S.length : Nat)))) (S ++ [a]) := by
  have hk : WideAt.IsKeyLit (.string a) := trivial
  refine ⟨h.map.put _ _, fun k => ?_, fun k => ?_⟩
  · by_cases e : k = a
    · subst e
      rw [Maps.has_put_same h.map hk, look_snoc, ha]; simp
    · have hne : (Lit.string k) ≠ .string a := fun h => e (by injection h)
      rw [Maps.has_put_other hne, h.has, look_snoc, if_neg (by simpa using fun h => e h.symm)]; simp
  · by_cases e : k = a
    · subst e
      rw [Maps.atKey_put_same h.map hk, placeN, look_snoc, ha]; simp
    · have hne : (Lit.string k) ≠ .string a := fun h => e (by injection h)
      rw [Maps.atKey_put_other hne, h.at_, placeN, placeN, look_snoc, if_neg (by simpa using fun h => e h.symm)]; simp
/-- A map of the call's own that reads so. -/
def OwnM (w : World) (mb cnt : Nat) (S : List (List UInt8)) : Prop := ∃ D : DataW Nat, w.ownsMap Tryz.prog 9 (plainElem Tryz.prog 3) mb cnt D ∧ MapOf D S
theorem zero_int (w : World) : (zeroValue 3).run Tryz.prog w = .ok (.int .i64 0) w := by kernel_rfl
theorem str_keyed : Maps.Keyed Tryz.prog 9 := Maps.string_keyed Tryz.underlying9
theorem OwnM.lt {w : World} {mb cnt : Nat} {S : List (List UInt8)} (h : OwnM w mb cnt S) : mb < w.heap.size := by
  obtain ⟨D, h, -⟩ := h; exact h.lt
theorem OwnM.grown {w w' : World} {row : Option Nat} {mb cnt : Nat} {S : List (List UInt8)} (h : OwnM w mb cnt S) (hg : w.grownBy w' row) (hne : some mb ≠ row) : OwnM w' mb cnt S := by
  obtain ⟨D, h1, h2⟩ := h; exact ⟨D, h1.kept hg hne, h2⟩
theorem OwnM.later {w w' : World} {mb cnt : Nat} {S : List (List UInt8)} (h : OwnM w mb cnt S) (hb : Below w.heap.size w w') : OwnM w' mb cnt S := by
  obtain ⟨D, ⟨es, clock, h1, h2⟩, h3⟩ := h
  exact ⟨D, ⟨es, clock, (hb.block mb (Array.getElem?_eq_some_iff.1 h1).1).trans h1, h2⟩, h3⟩
theorem OwnM.made (w : World) : OwnM (w.alloc (.map #[] 0)) w.heap.size 0 [] := ⟨_, World.ownsMap_made _ _ _ _, MapOf.nil⟩
theorem OwnM.lookUp {w : World} {mb cnt : Nat} {S : List (List UInt8)} (h : OwnM w mb cnt S) (k : List UInt8) (hk : k.length ≤ 1000000000) :
    (Instr.lookup 161 (.map (some mb)) (.string ⟨k.toArray⟩) true).run Tryz.prog w = .ok (.tuple #[.int .i64 (placeN S k : Nat), .bool (look S k).isSome]) w := by
  obtain ⟨D, h1, h2⟩ := h
  have hs : (⟨k.toArray⟩ : ByteArray).size = k.length := by simp [ByteArray.size]
  have hkey : keyOf Tryz.prog 9 (.string ⟨k.toArray⟩) = some (.string k) := by
    have := WideMaps.keyOf_string_mk (P := Tryz.prog) (k := 9) Tryz.underlying9 (s := ⟨k.toArray⟩) (by rw [hs]; unfold maxLen; omega)
    simpa using this
  obtain ⟨v, ps, hrun, hv⟩ := h1.look_ok str_keyed Tryz.underlying161 (zero_int w) (plainElem_int Tryz.underlying3 (by decide)) hkey
  obtain ⟨c, rfl, hc, -⟩ := plainElem_int_inv Tryz.underlying3 hv
  simp only [Prod.mk.injEq] at hc
  rw [h2.at_] at hc
  have hcc : c = (placeN S k : Nat) := (Lit.int.inj (DataW.lit.inj hc.1)).2.symm
  subst hcc
  rw [hrun, h2.has]
end Go.Proofs.YtndkcimajeofcaaGreatDoor

namespace Go.Proofs.YtndkcimajeofcaaGreatDoor
open Go.RowKit
attribute [local go_sem ↓] Go.wp_at_zero Go.wp_at_succ

/-- What a tree's string asks of names and tree. -/
structure Pr (n : NM) (T : MT) : Prop where
  vt : MT.VT n.C.l.length n.R.l.length T
  len : (T.tr.str n.C.l n.R.l).length ≤ 1000000000
structure NmB (n : NM) : Prop where
  r : n.R.l.length ≤ 1000
  rs : ∀ x ∈ n.R.l, x.size ≤ 1000
def strT (n : NM) (T : MT) : List UInt8 := T.tr.str n.C.l n.R.l

set_option maxRecDepth 100000 in
set_option maxHeartbeats 4000000 in
theorem tString_any (n : NM) (T : MT) (w : World) (hG : G w) (hn : n.In w.heap.size w) (hT : T.In w.heap.size w) (hb : NmB n) (hp : Pr n T) :
    Calls Tryz.prog 153 #[n.val, T.val] w fun e w' => e = .returned (.string ⟨(strT n T).toArray⟩) ∧ Below w.heap.size w w' := by
  have hs3 := hG.size
  obtain ⟨W1, hW1, hB1, hs1, hblk1⟩ := newBlk w _ rfl #[.slice n.C.A n.C.l.length n.C.c, .slice n.R.A n.R.l.length n.R.c, .slice n.I.A n.I.l.length n.I.c] 24
  obtain ⟨W2, hW2, hB2, hs2, hblk2⟩ := newBlk W1 _ hs1 #[.int .i64 T.op, .int .i64 T.n, .slice T.A T.args.length T.c] 33
  obtain ⟨W3, hW3, hB3, hs3', hblk3⟩ := newBlk W2 _ hs2 #[.pointer none, .slice none 0 0] 232
  have hB : Below w.heap.size w W3 := (hB1.trans (hB2.mono (by omega))).trans (hB3.mono (by omega))
  have hblk12 := (hB3.block w.heap.size (by omega)).trans ((hB2.block w.heap.size (by omega)).trans hblk1)
  have hblk22 := (hB3.block (w.heap.size + 1) (by omega)).trans hblk2
  have a0 := cell_of_blk hblk12 0
  have a1 := cell_of_blk hblk12 1
  have a2 := cell_of_blk hblk12 2
  have b0 := cell_of_blk hblk22 0
  have b1 := cell_of_blk hblk22 1
  have b2 := cell_of_blk hblk22 2
  simp only [List.getElem?_toArray, List.getElem?_cons_zero, List.getElem?_cons_succ] at a0 a1 a2 b0 b1 b2
  have hwr := (write_any n w.heap.size (w.heap.size + 1 + 1) hs3 hb.r hb.rs T hp.vt) [] W3 (hG.later hB) (hn.below (Nat.le_refl _) hB) (hT.below hB) (builder_new (by omega) hblk3) (by simpa using hp.len) hB.size
  simp only [NM.val, MT.val] at hwr ⊢
  have HB := Lib.hid hB
  clear hB1 hB2 hB3 hblk1 hblk2 hblk12 hblk22 hblk3 hB hs3'
  go_enter Tryz.func153, Tryz.ntmps153
  go_wp2_with (first | (go_at_call 189; refine hwr.mono ?_; clear hwr; rintro e w6 ⟨⟨v6, rfl⟩, hib, hb6, -⟩) | (go_at_call 190; refine (Tryz.Builder_String_any w.heap.size _ (T.tr.str n.C.l n.R.l) _ hib (Nat.le_trans HB.out.size hb6.size)).mono ?_; rintro e w7 ⟨rfl, hb7⟩))
  go_ret
  exact ⟨rfl, (HB.out.trans hb6).trans hb7⟩

/-- The table's box. -/
def TabB (w : World) (tb mb : Nat) (n : NM) (v : Value) (s0 s1 s2 s3 ov : Value) : Prop :=
  w.heap[tb]? = some (.cells #[.slice n.C.A n.C.l.length n.C.c, .slice n.R.A n.R.l.length n.R.c, .slice n.I.A n.I.l.length n.I.c, v, .map (some mb), s0, s1, s2, s3, ov] 164)

set_option maxRecDepth 100000 in
set_option maxHeartbeats 4000000 in
theorem placeOf_any {tb mb cnt : Nat} {n : NM} {v s0 s1 s2 s3 ov : Value} {S : List (List UInt8)} (T : MT) (w : World) (hG : G w) (hn : n.In w.heap.size w) (hT : T.In w.heap.size w) (hb : NmB n) (hp : Pr n T) (ht : TabB w tb mb n v s0 s1 s2 s3 ov) (hm : OwnM w mb cnt S) :
    Calls Tryz.prog 117 #[.pointer (some ⟨tb, 0, none⟩), T.val] w fun e w' => e = .returned (.tuple #[.int .i64 (placeN S (strT n T) : Nat), .bool (look S (strT n T)).isSome]) ∧ Below w.heap.size w w' := by
  obtain ⟨W1, hW1, hB1, hs1, hk1⟩ := newBlk w _ rfl #[.int .i64 T.op, .int .i64 T.n, .slice T.A T.args.length T.c] 33
  have htl : tb < w.heap.size := (Array.getElem?_eq_some_iff.1 ht).1
  have hS : ∀ w', Below W1.heap.size W1 w' → (w'.cell? ⟨tb, 4, none⟩ = some (.map (some mb)) ∧ w'.cell? ⟨tb, 0, none⟩ = some (.slice n.C.A n.C.l.length n.C.c) ∧ w'.cell? ⟨tb, 1, none⟩ = some (.slice n.R.A n.R.l.length n.R.c) ∧ w'.cell? ⟨tb, 2, none⟩ = some (.slice n.I.A n.I.l.length n.I.c)) ∧ (w'.cell? ⟨w.heap.size, 0, none⟩ = some (.int .i64 T.op) ∧ w'.cell? ⟨w.heap.size, 1, none⟩ = some (.int .i64 T.n) ∧ w'.cell? ⟨w.heap.size, 2, none⟩ = some (.slice T.A T.args.length T.c)) := fun w' hb' => by
    have h1 := blk_lat0 (blk_lat0 ht hB1) hb'
    have h2 := blk_lat0 hk1 hb'
    exact ⟨⟨cell_of_blk h1 4, cell_of_blk h1 0, cell_of_blk h1 1, cell_of_blk h1 2⟩, cell_of_blk h2 0, cell_of_blk h2 1, cell_of_blk h2 2⟩
  have HS := Lib.hid hS
  have hst := tString_any n T W1.drew (hG.later hB1.drew) (hn.later hB1.drew) (hT.later hB1.drew) hb hp
  have hlk := fun w' (hb' : Below W1.heap.size W1 w') => ((hm.later hB1).later hb').lookUp (strT n T) hp.len
  have HLK := Lib.hid hlk
  have hd : Below W1.heap.size W1 W1.drew := (Below.refl _ W1).drew
  have HB1 := Lib.hid hB1
  simp only [NM.val, MT.val] at hst ⊢
  clear hS hlk hk1 hB1 ht hm hn hT hG hp hb
  go_enter Tryz.func117, Tryz.ntmps117
  go_wp2_with fail
  go_region_held3 (fun w' => (w'.cell? ⟨tb, 4, none⟩ = some (.map (some mb)) ∧ w'.cell? ⟨tb, 0, none⟩ = some (.slice n.C.A n.C.l.length n.C.c) ∧ w'.cell? ⟨tb, 1, none⟩ = some (.slice n.R.A n.R.l.length n.R.c) ∧ w'.cell? ⟨tb, 2, none⟩ = some (.slice n.I.A n.I.l.length n.I.c)) ∧ (w'.cell? ⟨w.heap.size, 0, none⟩ = some (.int .i64 T.op) ∧ w'.cell? ⟨w.heap.size, 1, none⟩ = some (.int .i64 T.n) ∧ w'.cell? ⟨w.heap.size, 2, none⟩ = some (.slice T.A T.args.length T.c)))
    (first | exact HS.out _ hd | exact HS.out _ hb4)
    (first | (go_at_call 153; refine hst.mono ?_; clear hst; rintro e w4 ⟨rfl, hb4'⟩; have hb4 : Below W1.heap.size W1 w4 := hd.trans hb4'; have hq := HLK.out w4 hb4))
  go_wp2_with fail
  go_ret2
  exact ⟨rfl, HB1.out.trans (hb4.mono HB1.out.size)⟩
end Go.Proofs.YtndkcimajeofcaaGreatDoor

namespace Go.Proofs.YtndkcimajeofcaaGreatDoor
open Go.RowKit

/-- The row's last element overwritten. -/
theorem row_over {X : World} {n₁ g cap : Nat} {Ls : List MT} {T' : MT} (h : X.ownsRow n₁ 33 3 (.slice (some ⟨g, 0, none⟩) (Ls.length + 1) cap) (Ls.length + 1) (Ls.flatMap MT.cs ++ zeroMT.cs)) (hl : (Ls.flatMap MT.cs).length = Ls.length * 3) :
    (((X.setCell ⟨g, Ls.length * 3, none⟩ (.int .i64 T'.op)).setCell ⟨g, Ls.length * 3 + 1, none⟩ (.int .i64 T'.n)).setCell ⟨g, Ls.length * 3 + 2, none⟩ (.slice T'.A T'.args.length T'.c)).ownsRow n₁ 33 3 (.slice (some ⟨g, 0, none⟩) (Ls.length + 1) cap) (Ls.length + 1) (Ls.flatMap MT.cs ++ T'.cs) ∧
    X.grownBy (((X.setCell ⟨g, Ls.length * 3, none⟩ (.int .i64 T'.op)).setCell ⟨g, Ls.length * 3 + 1, none⟩ (.int .i64 T'.n)).setCell ⟨g, Ls.length * 3 + 2, none⟩ (.slice T'.A T'.args.length T'.c)) (some g) := by
  obtain ⟨h1, k1⟩ := h.stored (Ls.length * 3) (.int .i64 T'.op)
  obtain ⟨h2, k2⟩ := h1.stored (Ls.length * 3 + 1) (.int .i64 T'.n)
  obtain ⟨h3, k3⟩ := h2.stored (Ls.length * 3 + 2) (.slice T'.A T'.args.length T'.c)
  refine ⟨?_, grown_trans (grown_trans k1 k2) k3⟩
  have e : ((((Ls.flatMap MT.cs ++ zeroMT.cs).set (Ls.length * 3) (.int .i64 T'.op)).set (Ls.length * 3 + 1) (.int .i64 T'.n)).set (Ls.length * 3 + 2) (.slice T'.A T'.args.length T'.c)) = Ls.flatMap MT.cs ++ T'.cs := by
    rw [← hl]
    rw [List.set_append_right _ _ (by omega), List.set_append_right _ _ (by omega), List.set_append_right _ _ (by omega)]
    rw [Nat.sub_self, Nat.add_sub_cancel_left, Nat.add_sub_cancel_left]
    rfl
  rw [e] at h3
  exact h3

/-- The block in which the table's marks lie. -/
def rowT (W : World) (tb : Nat) : Option Nat := (W.cell? ⟨tb, 3, none⟩).bind Value.ownBlock
theorem rowT_block {W W' : World} {b : Nat} (h : W'.heap[b]? = W.heap[b]?) : rowT W' b = rowT W b := by unfold rowT World.cell?; rw [h]
/-- WHAT A STEP KEEPS THAT ADDS TO A TABLE: every block but the table's, its map's and its marks'. -/
structure KT (n₀ tb mb : Nat) (W W' : World) : Prop where
  below : Below n₀ W W'
  keep : ∀ k, k < W.heap.size → k ≠ tb → k ≠ mb → rowT W tb ≠ some k → W'.heap[k]? = W.heap[k]?
  row : rowT W' tb = rowT W tb ∨ ∃ g, rowT W' tb = some g ∧ W.heap.size ≤ g
theorem KT.refl (n₀ tb mb : Nat) (W : World) : KT n₀ tb mb W W := ⟨Below.refl _ _, fun _ _ _ _ _ => rfl, .inl rfl⟩
theorem KT.trans {n₀ tb mb : Nat} {A B C : World} (h : KT n₀ tb mb A B) (k : KT n₀ tb mb B C) : KT n₀ tb mb A C := by
  have s1 := h.below.size
  refine ⟨h.below.trans k.below, fun i hi h1 h2 h3 => ?_, ?_⟩
  · refine (k.keep i (by omega) h1 h2 fun e => ?_).trans (h.keep i hi h1 h2 h3)
    rcases h.row with r | ⟨g, r, hg⟩
    · exact h3 (r.symm.trans e)
    · rw [r] at e; cases e; omega
  · rcases k.row with r | ⟨g, r, hg⟩
    · rcases h.row with r' | ⟨g, r', hg⟩
      · exact .inl (r.trans r')
      · exact .inr ⟨g, r.trans r', hg⟩
    · exact .inr ⟨g, r, by omega⟩
theorem KT.of_below {n₀ tb mb : Nat} {W W' : World} (h : Below W.heap.size W W') (h0 : n₀ ≤ W.heap.size) (ht : tb < W.heap.size) : KT n₀ tb mb W W' :=
  ⟨h.mono h0, fun k hk _ _ _ => h.block k hk, .inl (rowT_block (h.block tb ht))⟩

/-- THE TABLE AS IT LIES: its box, its marks Ts (collected from block lo on), its map. -/
structure Tab (n₀ tb mb lo : Nat) (n : NM) (s0 s1 s2 s3 ov : Value) (w : World) (v : Value) (Ts : List MT) : Prop where
  box : TabB w tb mb n v s0 s1 s2 s3 ov
  coll : Coll lo lo w v Ts
  map : OwnM w mb Ts.length (Ts.map (strT n))
  h0 : n₀ ≤ tb
  h0' : n₀ ≤ mb
  h1 : tb < lo
  h2 : mb < lo
  ne : tb ≠ mb
  h3 : lo ≤ w.heap.size
section
variable {n₀ tb mb lo : Nat} {n : NM} {s0 s1 s2 s3 ov : Value} {w w' : World} {v : Value} {Ts : List MT}
theorem Tab.later (h : Tab n₀ tb mb lo n s0 s1 s2 s3 ov w v Ts) (hb : Below w.heap.size w w') : Tab n₀ tb mb lo n s0 s1 s2 s3 ov w' v Ts :=
  ⟨blk_lat0 h.box hb, h.coll.later hb, h.map.later hb, h.h0, h.h0', h.h1, h.h2, h.ne, Nat.le_trans h.h3 hb.size⟩
theorem Tab.rowT (h : Tab n₀ tb mb lo n s0 s1 s2 s3 ov w v Ts) : rowT w tb = v.ownBlock := by
  unfold Go.Proofs.YtndkcimajeofcaaGreatDoor.rowT; rw [cell_of_blk h.box 3]; rfl

theorem add_end {w5 w6 W7 w8 W9 : World} {g cap : Nat} {T : MT} (ht : Tab n₀ tb mb lo n s0 s1 s2 s3 ov w v Ts) (hT : New lo w T) (hoff : MT.All (fun b => some b ≠ v.ownBlock) T)
    (h5 : Below w.heap.size w w5) (h6 : w5.grownBy w6 (some mb)) (hm6 : OwnM w6 mb (Ts.length + 1) (Ts.map (strT n) ++ [strT n T])) (h7 : Below w6.heap.size w6 W7)
    (hown8 : w8.ownsRow lo 33 3 (.slice (some ⟨g, 0, none⟩) (Ts.length + 1) cap) (Ts.length + 1) (Ts.flatMap MT.cs ++ zeroMT.cs)) (hg8 : W7.grownBy w8 v.ownBlock) (hat8 : v.ownBlock = some g ∨ g = W7.heap.size) (hlt8 : g < w8.heap.size)
    (hW9 : W9 = ((((w8.setCell ⟨g, Ts.length * 3, none⟩ (.int .i64 T.op)).setCell ⟨g, Ts.length * 3 + 1, none⟩ (.int .i64 T.n)).setCell ⟨g, Ts.length * 3 + 2, none⟩ (.slice T.A T.args.length T.c)).setCell ⟨tb, 3, none⟩ (.slice (some ⟨g, 0, none⟩) (Ts.length + 1) cap)) ∨
       W9 = ((((w8.setCell ⟨tb, 3, none⟩ (.slice (some ⟨g, 0, none⟩) (Ts.length + 1) cap)).setCell ⟨g, Ts.length * 3, none⟩ (.int .i64 T.op)).setCell ⟨g, Ts.length * 3 + 1, none⟩ (.int .i64 T.n)).setCell ⟨g, Ts.length * 3 + 2, none⟩ (.slice T.A T.args.length T.c))) :
    Tab n₀ tb mb lo n s0 s1 s2 s3 ov W9 (.slice (some ⟨g, 0, none⟩) (Ts.length + 1) cap) (Ts ++ [T]) ∧ KT n₀ tb mb w W9 := by
  have hg1 : lo ≤ g := (own_lt hown8 rfl).1
  have h1 := ht.h1
  have h2 := ht.h2
  have h3 := ht.h3
  have e0 := ht.h0
  have e0' := ht.h0'
  have hgb : g ≠ tb := by omega
  have hgm : g ≠ mb := by omega
  have nv : ∀ k, k < lo → some k ≠ v.ownBlock := fun k hk e => by have := (own_lt ht.coll.own e.symm).1; omega
  have z5 := h5.size
  have z6 := h6.size
  have z7 := h7.size
  have z8 := hg8.size
  have hl := ht.coll.own.1
  have htl : tb < w.heap.size := (Array.getElem?_eq_some_iff.1 ht.box).1
  have b6 : TabB w6 tb mb n v s0 s1 s2 s3 ov := (h6.block tb (by omega) (fun e => ht.ne (Option.some.inj e))).trans (blk_lat0 ht.box h5)
  have b8 : TabB w8 tb mb n v s0 s1 s2 s3 ov := (hg8.block tb (by omega) (nv tb h1)).trans ((h7.block tb (by omega)).trans b6)
  have m8 : OwnM w8 mb (Ts.length + 1) (Ts.map (strT n) ++ [strT n T]) := (hm6.later h7).grown hg8 (nv mb h2)
  obtain ⟨A, r1, r2, hA1, hA2, hr1, hr2, hbox9, hrow9⟩ : ∃ A r1 r2, w8.grownBy A (some r1) ∧ A.grownBy W9 (some r2) ∧ (r1 = g ∨ r1 = tb) ∧ (r2 = g ∨ r2 = tb) ∧ TabB W9 tb mb n (.slice (some ⟨g, 0, none⟩) (Ts.length + 1) cap) s0 s1 s2 s3 ov ∧ W9.ownsRow lo 33 3 (.slice (some ⟨g, 0, none⟩) (Ts.length + 1) cap) (Ts.length + 1) (Ts.flatMap MT.cs ++ T.cs) := by
    rcases hW9 with rfl | rfl
    · obtain ⟨q1, q2⟩ := row_over (T' := T) hown8 hl
      refine ⟨_, g, tb, q2, grown_set _ tb 3 _, .inl rfl, .inr rfl, ?_, owns_grown q1 (grown_set _ tb 3 _) (.inl (fun e => hgb (Option.some.inj e)))⟩
      exact blk_set ((q2.block tb (by omega) (fun e => hgb (Option.some.inj e).symm)).trans b8) 3 _
    · have hown7 := owns_grown hown8 (grown_set w8 tb 3 (.slice (some ⟨g, 0, none⟩) (Ts.length + 1) cap)) (.inl (fun e => hgb (Option.some.inj e)))
      obtain ⟨q1, q2⟩ := row_over (T' := T) hown7 hl
      have hb9 := blk_set b8 3 (.slice (some ⟨g, 0, none⟩) (Ts.length + 1) cap)
      exact ⟨_, tb, g, grown_set _ tb 3 _, q2, .inr rfl, .inl rfl, (q2.block tb (Array.getElem?_eq_some_iff.1 hb9).1 (fun e => hgb (Option.some.inj e).symm)).trans hb9, q1⟩
  have zA := hA1.size
  have z9 := hA2.size
  have hrb : Go.Proofs.YtndkcimajeofcaaGreatDoor.rowT w tb = v.ownBlock := ht.rowT
  have hrb9 : Go.Proofs.YtndkcimajeofcaaGreatDoor.rowT W9 tb = some g := by unfold Go.Proofs.YtndkcimajeofcaaGreatDoor.rowT; rw [cell_of_blk hbox9 3]; rfl
  have tree : ∀ t, New lo w t → MT.All (fun k => some k ≠ v.ownBlock) t → New lo W9 t ∧ MT.All (fun k => some k ≠ (Value.slice (some ⟨g, 0, none⟩) (Ts.length + 1) cap).ownBlock) t := fun t hn hv => by
    have hlow : ∀ k, k < lo → MT.All (fun b => some b ≠ some k) t := fun k hk => MT.All.imp (fun b hb e' => by have : b = k := Option.some.inj e'; have := hb.1; omega) t hn.2
    have hng : MT.All (fun k => some k ≠ some g) t := by
      rcases hat8 with e | e
      · rw [e] at hv; exact hv
      · exact MT.All.imp (fun k hk e' => by have : k = g := Option.some.inj e'; omega) t (MT.In.all t hn.1)
    have hn1 : MT.All (fun k => some k ≠ some r1) t := by rcases hr1 with rfl | rfl; exact hng; exact hlow _ h1
    have hn2 : MT.All (fun k => some k ≠ some r2) t := by rcases hr2 with rfl | rfl; exact hng; exact hlow _ h1
    exact ⟨(((((hn.later h5).grown h6 (hlow mb h2)).later h7).grown hg8 hv).grown hA1 hn1).grown hA2 hn2, hng⟩
  have k1 : mb ≠ r1 := by
    rcases hr1 with h | h
    · omega
    · rw [h]; exact Ne.symm ht.ne
  have k2 : mb ≠ r2 := by
    rcases hr2 with h | h
    · omega
    · rw [h]; exact Ne.symm ht.ne
  have hm9 : OwnM W9 mb (Ts.length + 1) (Ts.map (strT n) ++ [strT n T]) := (m8.grown hA1 (fun e => k1 (Option.some.inj e))).grown hA2 (fun e => k2 (Option.some.inj e))
  refine ⟨⟨hbox9, ⟨by rw [List.length_append, List.flatMap_append]; simpa using hrow9, fun t htm => ?_⟩, ?_, ht.h0, ht.h0', h1, h2, ht.ne, by omega⟩, ⟨?_, fun k hk k1 k2 k3 => ?_, ?_⟩⟩
  · rcases List.mem_append.1 htm with h | h
    · exact tree t (ht.coll.trees t h).1 (ht.coll.trees t h).2
    · rw [List.mem_singleton.1 h]; exact tree T hT hoff
  · rw [List.length_append, List.map_append]; exact hm9
  · refine (((((h5.mono (by omega)).grown h6 (by omega) (fun k e => by cases e; omega)).trans (h7.mono (by omega))).grown hg8 (by omega) (fun k e => by have := (own_lt ht.coll.own e).1; omega)).grown hA1 (by omega) (fun k e => by cases e; rcases hr1 with rfl | rfl <;> omega)).grown hA2 (by omega) (fun k e => by cases e; rcases hr2 with rfl | rfl <;> omega)
  · have hkv : some k ≠ v.ownBlock := fun e => k3 (hrb.trans e.symm)
    have hkg : k ≠ g := by
      rcases hat8 with e | e
      · exact fun e' => hkv (by rw [e, e'])
      · omega
    have q1 : some k ≠ some r1 := fun e => by have := Option.some.inj e; rcases hr1 with h | h <;> omega
    have q2 : some k ≠ some r2 := fun e => by have := Option.some.inj e; rcases hr2 with h | h <;> omega
    exact (hA2.block k (by omega) q2).trans ((hA1.block k (by omega) q1).trans ((hg8.block k (by omega) hkv).trans ((h7.block k (by omega)).trans ((h6.block k (by omega) (fun e => k2 (Option.some.inj e))).trans (h5.block k hk)))))
  · rcases hat8 with e | e
    · exact .inl (by rw [hrb9, hrb, e])
    · exact .inr ⟨g, hrb9, by omega⟩
end
/-- A STORE INTO THE MAP. -/
theorem OwnM.store {w : World} {mb cnt c : Nat} {S : List (List UInt8)} (h : OwnM w mb cnt S) (hn : cnt ≤ 1000000000) (k : List UInt8) (hk : k.length ≤ 1000000000) (hc : c = S.length) (hl : c ≤ 1000000000) (hS : look S k = none) :
    ∃ w', (Instr.mapUpdate 161 (.map (some mb)) (.string ⟨k.toArray⟩) (.int .i64 (c : Nat))).run Tryz.prog w = .ok () w' ∧ OwnM w' mb (cnt + 1) (S ++ [k]) ∧ w.grownBy w' (some mb) := by
  subst hc
  obtain ⟨D, h1, h2⟩ := h
  have hs : (⟨k.toArray⟩ : ByteArray).size = k.length := by simp [ByteArray.size]
  have hkey : keyOf Tryz.prog 9 (.string ⟨k.toArray⟩) = some (.string k) := by
    have := WideMaps.keyOf_string_mk (P := Tryz.prog) (k := 9) Tryz.underlying9 (s := ⟨k.toArray⟩) (by rw [hs]; unfold maxLen; omega)
    simpa using this
  have hwf : (Lit.int .i64 (S.length : Nat)).wf = true := by
    simp only [Lit.wf, Bool.and_eq_true, decide_eq_true_eq, IntKind.min, IntKind.max, IntKind.signed, IntKind.bits]; omega
  obtain ⟨w', hrun, r1, r2⟩ := h1.update str_keyed Tryz.underlying161 (by unfold maxLen; omega) hkey (plainElem_int Tryz.underlying3 hwf)
  exact ⟨w', hrun, ⟨_, r1, h2.put hS⟩, r2⟩
end Go.Proofs.YtndkcimajeofcaaGreatDoor

namespace Go.Proofs.YtndkcimajeofcaaGreatDoor
open Go.RowKit

theorem row_val1 {w : World} {base n sz : Nat} {e : TypeId} {v : Value} {xs : List Value} (h : w.ownsRow base e sz v n xs) : ∃ A c, v = .slice A n c ∧ n ≤ c ∧ c ≤ 9223372036854775807 := by
  rcases h.2 with ⟨rfl, h0⟩ | ⟨g, cap, cur, rfl, hge, hheap, hlen, hcap, hsize, htake⟩
  · subst h0; exact ⟨none, 0, rfl, Nat.le_refl _, by omega⟩
  · unfold maxLen at hcap; exact ⟨_, _, rfl, hlen, hcap⟩

/-- The operations of the region "t.marks = append(t.marks, mark)". -/
def opsA : Array Oper := #[
  { dst := some 29, op := Op.move (Operand.tmp 0), type := 116, pos := "marks.go:78", after := #[], guard := none },
  { dst := some 30, op := Op.nilCheck (Operand.tmp 29), type := 0, pos := "marks.go:78", after := #[{ on := 0, ground := Ground.data }], guard := none },
  { dst := some 31, op := Op.fieldAddr 164 (Operand.tmp 30) 1, type := 0, pos := "marks.go:78", after := #[{ on := 1, ground := Ground.data }], guard := none },
  { dst := some 32, op := Op.load 31 (Operand.tmp 31), type := 31, pos := "marks.go:78", after := #[{ on := 2, ground := Ground.data }], guard := none },
  { dst := some 33, op := Op.load 33 (Operand.tmp 3), type := 33, pos := "marks.go:78", after := #[], guard := none },
  { dst := some 34, op := Op.call { callee := Callee.builtin Builtin.len, args := #[Operand.tmp 32], argTypes := #[31] }, type := 3, pos := "marks.go:78", after := #[{ on := 3, ground := Ground.data }], guard := none },
  { dst := some 35, op := Op.buildSlice 31 1 #[(0, Operand.const (Value.agg #[Value.int IntKind.i64 0, Value.int IntKind.i64 0, Value.slice none 0 0]))], type := 31, pos := "marks.go:78", after := #[], guard := none },
  { dst := some 36, op := Op.call { callee := Callee.builtin Builtin.append, args := #[Operand.tmp 32, Operand.tmp 35], argTypes := #[31, 31] }, type := 31, pos := "marks.go:78", after := #[{ on := 3, ground := Ground.data }, { on := 6, ground := Ground.data }, { on := 0, ground := Ground.phase }, { on := 1, ground := Ground.phase }, { on := 2, ground := Ground.phase }, { on := 3, ground := Ground.phase }, { on := 4, ground := Ground.phase }, { on := 5, ground := Ground.phase }, { on := 6, ground := Ground.phase }], guard := none },
  { dst := some 37, op := Op.indexAddr 31 (Operand.tmp 36) (Operand.tmp 34), type := 0, pos := "marks.go:78", after := #[{ on := 7, ground := Ground.data }, { on := 5, ground := Ground.data }, { on := 0, ground := Ground.phase }, { on := 1, ground := Ground.phase }, { on := 2, ground := Ground.phase }, { on := 3, ground := Ground.phase }, { on := 4, ground := Ground.phase }, { on := 5, ground := Ground.phase }, { on := 6, ground := Ground.phase }, { on := 7, ground := Ground.phase }, { on := 12, ground := Ground.gcOnly Departure.appendInPlace }], guard := none },
  { dst := none, op := Op.store 33 (Operand.tmp 37) (Operand.tmp 33), type := 0, pos := "marks.go:78", after := #[{ on := 8, ground := Ground.data }, { on := 4, ground := Ground.data }, { on := 7, ground := Ground.chain }, { on := 0, ground := Ground.phase }, { on := 1, ground := Ground.phase }, { on := 2, ground := Ground.phase }, { on := 3, ground := Ground.phase }, { on := 4, ground := Ground.phase }, { on := 5, ground := Ground.phase }, { on := 6, ground := Ground.phase }, { on := 7, ground := Ground.phase }, { on := 12, ground := Ground.gcOnly Departure.appendInPlace }], guard := none },
  { dst := some 38, op := Op.nilCheck (Operand.tmp 29), type := 0, pos := "marks.go:78", after := #[{ on := 0, ground := Ground.data }, { on := 0, ground := Ground.phase }, { on := 1, ground := Ground.phase }, { on := 2, ground := Ground.phase }, { on := 3, ground := Ground.phase }, { on := 4, ground := Ground.phase }, { on := 5, ground := Ground.phase }, { on := 6, ground := Ground.phase }, { on := 7, ground := Ground.phase }, { on := 8, ground := Ground.textOnly Departure.appendInPlace }, { on := 9, ground := Ground.textOnly Departure.appendInPlace }], guard := none },
  { dst := some 39, op := Op.fieldAddr 164 (Operand.tmp 38) 1, type := 0, pos := "marks.go:78", after := #[{ on := 10, ground := Ground.data }, { on := 0, ground := Ground.phase }, { on := 1, ground := Ground.phase }, { on := 2, ground := Ground.phase }, { on := 3, ground := Ground.phase }, { on := 4, ground := Ground.phase }, { on := 5, ground := Ground.phase }, { on := 6, ground := Ground.phase }, { on := 7, ground := Ground.phase }, { on := 8, ground := Ground.textOnly Departure.appendInPlace }, { on := 9, ground := Ground.textOnly Departure.appendInPlace }], guard := none },
  { dst := none, op := Op.store 31 (Operand.tmp 39) (Operand.tmp 36), type := 0, pos := "marks.go:78", after := #[{ on := 11, ground := Ground.data }, { on := 7, ground := Ground.data }, { on := 7, ground := Ground.chain }, { on := 9, ground := Ground.textOnly Departure.appendInPlace }, { on := 0, ground := Ground.phase }, { on := 1, ground := Ground.phase }, { on := 2, ground := Ground.phase }, { on := 3, ground := Ground.phase }, { on := 4, ground := Ground.phase }, { on := 5, ground := Ground.phase }, { on := 6, ground := Ground.phase }, { on := 7, ground := Ground.phase }, { on := 8, ground := Ground.textOnly Departure.appendInPlace }, { on := 9, ground := Ground.textOnly Departure.appendInPlace }], guard := none }]
theorem readyA : ∀ s3 s4 s5 s6 : Bool, Region.ready .any opsA #[true, true, true, s3, s4, s5, s6, false, false, false, false, false, false] =
    (if s3 then [] else [3]) ++ (if s4 then [] else [4]) ++ (if !s5 && s3 then [5] else []) ++ (if s6 then [] else [6]) ++ (if s3 && s4 && s5 && s6 then [7] else []) := by
  intro s3 s4 s5 s6
  cases s3 <;> cases s4 <;> cases s5 <;> cases s6 <;> kernel_rfl

structure SA (v : Value) (L : Nat) (T : MT) (W W' : World) (s3 s4 s5 s6 : Bool) (t32 t33 t34 t35 : Value) : Prop where
  bel : Below W.heap.size W W'
  k3 : s3 = true → t32 = v
  k4 : s4 = true → t33 = T.val
  k5 : s5 = true → t34 = .int .i64 L
  k6 : s6 = true → ∃ g fr, t35 = .slice (some ⟨g, 0, none⟩) 1 1 ∧ W.heap.size ≤ g ∧ W'.heap[g]? = some (.cells #[.int .i64 0, .int .i64 0, .slice none 0 0] 33 fr)

set_option maxRecDepth 100000 in
set_option maxHeartbeats 4000000 in
theorem addA {n0 n1 n2 mv s0 s1 s2 s3' ov : Value} {lo : Nat} (tb Bx : Nat) (v : Value) (Ls : List MT) (T : MT) (W : World) (Q : Exit → Act → World → Prop)
    (hbox : W.heap[tb]? = some (.cells #[n0, n1, n2, v, mv, s0, s1, s2, s3', ov] 164)) (hrow : W.ownsRow lo 33 3 v Ls.length (Ls.flatMap MT.cs)) (hblk : W.heap[Bx]? = some (.cells #[.int .i64 T.op, .int .i64 T.n, .slice T.A T.args.length T.c] 33))
    (hend : ∀ (x1 x2 x4 x5 x6 x7 x8 x9 x10 x11 x12 x13 x14 x15 x16 x17 x18 x19 x20 x21 x22 x23 x24 x25 x26 x27 x28 x36 x37 x38 x39 t32 t33 t34 t35 : Value) (W' : World), SA v Ls.length T W W' true true true true t32 t33 t34 t35 →
      wpAny Tryz.prog .any opsA Q 6 #[true, true, true, true, true, true, true, false, false, false, false, false, false] { tmps := #[.pointer (some ⟨tb, 0, none⟩), x1, x2, .pointer (some ⟨Bx, 0, none⟩), x4, x5, x6, x7, x8, x9, x10, x11, x12, x13, x14, x15, x16, x17, x18, x19, x20, x21, x22, x23, x24, x25, x26, x27, x28, .pointer (some ⟨tb, 0, none⟩), .pointer (some ⟨tb, 0, none⟩), .pointer (some ⟨tb, 3, none⟩), t32, t33, t34, t35, x36, x37, x38, x39], defers := [] } W') :
    ∀ (k : Nat) (s3 s4 s5 s6 : Bool), (s5 = true → s3 = true) → (!s3).toNat + (!s4).toNat + (!s5).toNat + (!s6).toNat = k →
    ∀ (x1 x2 x4 x5 x6 x7 x8 x9 x10 x11 x12 x13 x14 x15 x16 x17 x18 x19 x20 x21 x22 x23 x24 x25 x26 x27 x28 x36 x37 x38 x39 t32 t33 t34 t35 : Value) (W' : World), SA v Ls.length T W W' s3 s4 s5 s6 t32 t33 t34 t35 →
      wpAny Tryz.prog .any opsA Q (k + 6) #[true, true, true, s3, s4, s5, s6, false, false, false, false, false, false] { tmps := #[.pointer (some ⟨tb, 0, none⟩), x1, x2, .pointer (some ⟨Bx, 0, none⟩), x4, x5, x6, x7, x8, x9, x10, x11, x12, x13, x14, x15, x16, x17, x18, x19, x20, x21, x22, x23, x24, x25, x26, x27, x28, .pointer (some ⟨tb, 0, none⟩), .pointer (some ⟨tb, 0, none⟩), .pointer (some ⟨tb, 3, none⟩), t32, t33, t34, t35, x36, x37, x38, x39], defers := [] } W' := by
  intro k
  induction k with
  | zero =>
    intro s3 s4 s5 s6 h5 hk
    cases s3 <;> cases s4 <;> cases s5 <;> cases s6 <;> simp at hk
    intros
    apply hend
    assumption
  | succ k ih =>
    intro s3 s4 s5 s6 h5 hk x1 x2 x4 x5 x6 x7 x8 x9 x10 x11 x12 x13 x14 x15 x16 x17 x18 x19 x20 x21 x22 x23 x24 x25 x26 x27 x28 x36 x37 x38 x39 t32 t33 t34 t35 W' hS
    obtain ⟨A, c, hv, hlc, hcc⟩ := row_val1 hrow
    have hbel := hS.bel
    have hb' := blk_lat0 hbox hbel
    have d0 := cell_of_blk hb' 3
    have hbx := blk_lat0 hblk hbel
    obtain ⟨⟨c0, c1, c2⟩, -⟩ := res3 hbx
    simp only [List.getElem?_toArray, List.getElem?_cons_zero, List.getElem?_cons_succ] at d0
    refine ⟨fun hnil => ?_, fun i hi => ?_⟩
    · rw [readyA] at hnil
      cases s3 <;> cases s4 <;> cases s5 <;> cases s6 <;> simp at hnil hk
    · have hc : (i = 3 ∧ s3 = false) ∨ (i = 4 ∧ s4 = false) ∨ (i = 5 ∧ s5 = false ∧ s3 = true) ∨ (i = 6 ∧ s6 = false) := by
        rw [readyA] at hi
        cases s3 <;> cases s4 <;> cases s5 <;> cases s6 <;> simp at hi hk ⊢ <;> omega
      clear hi
      rcases hc with ⟨rfl, rfl⟩ | ⟨rfl, rfl⟩ | ⟨rfl, rfl, rfl⟩ | ⟨rfl, rfl⟩
      · refine wpOp_step (o := { dst := some 32, op := Op.load 31 (Operand.tmp 31), type := 31, pos := "marks.go:78", after := #[{ on := 2, ground := Ground.data }], guard := none }) (by kernel_rfl) fun K hK => ?_
        go_simp
        refine hK _ _ (ih true s4 s5 s6 (fun _ => rfl) (by simp at hk ⊢; omega) _ _ _ _ _ _ _ _ _ _ _ _ _ _ _ _ _ _ _ _ _ _ _ _ _ _ _ _ _ _ _ _ _ _ _ _ ⟨hS.bel, fun _ => hv.symm, hS.k4, hS.k5, hS.k6⟩)
      · refine wpOp_step (o := { dst := some 33, op := Op.load 33 (Operand.tmp 3), type := 33, pos := "marks.go:78", after := #[], guard := none }) (by kernel_rfl) fun K hK => ?_
        go_simp
        refine hK _ _ (ih s3 true s5 s6 h5 (by simp at hk ⊢; omega) _ _ _ _ _ _ _ _ _ _ _ _ _ _ _ _ _ _ _ _ _ _ _ _ _ _ _ _ _ _ _ _ _ _ _ _ ⟨hS.bel, hS.k3, fun _ => rfl, hS.k5, hS.k6⟩)
      · refine wpOp_step (o := { dst := some 34, op := Op.call { callee := Callee.builtin Builtin.len, args := #[Operand.tmp 32], argTypes := #[31] }, type := 3, pos := "marks.go:78", after := #[{ on := 3, ground := Ground.data }], guard := none }) (by kernel_rfl) fun K hK => ?_
        have e32 := hS.k3 rfl
        subst e32
        subst hv
        go_simp
        refine hK _ _ (ih true s4 true s6 (fun _ => rfl) (by simp at hk ⊢; omega) _ _ _ _ _ _ _ _ _ _ _ _ _ _ _ _ _ _ _ _ _ _ _ _ _ _ _ _ _ _ _ _ _ _ _ _ ⟨hS.bel, hS.k3, hS.k4, fun _ => rfl, hS.k6⟩)
      · refine wpOp_step (o := { dst := some 35, op := Op.buildSlice 31 1 #[(0, Operand.const (Value.agg #[Value.int IntKind.i64 0, Value.int IntKind.i64 0, Value.slice none 0 0]))], type := 31, pos := "marks.go:78", after := #[], guard := none }) (by kernel_rfl) fun K hK => ?_
        go_simp
        refine hK _ _ (ih s3 s4 s5 true h5 (by simp at hk ⊢; omega) _ _ _ _ _ _ _ _ _ _ _ _ _ _ _ _ _ _ _ _ _ _ _ _ _ _ _ _ _ _ _ _ _ _ _ _ ⟨hbel.alloc hbel.size _, hS.k3, hS.k4, hS.k5, fun _ => ⟨W'.heap.size, (0, 0), rfl, hbel.size, heap_alloc_new _ _⟩⟩)

set_option maxRecDepth 100000 in
set_option maxHeartbeats 4000000 in
theorem addB {n0 n1 n2 mv s0 s1 s2 s3' ov : Value} {lo : Nat} (tb Bx : Nat) (v : Value) (Ls : List MT) (T : MT) (W : World) (Q : Exit → Act → World → Prop)
    (hbox : W.heap[tb]? = some (.cells #[n0, n1, n2, v, mv, s0, s1, s2, s3', ov] 164)) (hrow : W.ownsRow lo 33 3 v Ls.length (Ls.flatMap MT.cs)) (_hblk : W.heap[Bx]? = some (.cells #[.int .i64 T.op, .int .i64 T.n, .slice T.A T.args.length T.c] 33)) (hlo : tb < lo) (hbs : lo ≤ W.heap.size) (hlen : Ls.length ≤ 1000000) (hQp : ∀ c a w, ¬ Q (.panic c) a w)
    (hend : ∀ (a : Act) (W' w8 W9 : World) (g cap : Nat), Below W.heap.size W W' → w8.ownsRow lo 33 3 (.slice (some ⟨g, 0, none⟩) (Ls.length + 1) cap) (Ls.length + 1) (Ls.flatMap MT.cs ++ zeroMT.cs) → W'.grownBy w8 v.ownBlock → (v.ownBlock = some g ∨ g = W'.heap.size) → g < w8.heap.size → (W9 = ((((w8.setCell ⟨g, Ls.length * 3, none⟩ (.int .i64 T.op)).setCell ⟨g, Ls.length * 3 + 1, none⟩ (.int .i64 T.n)).setCell ⟨g, Ls.length * 3 + 2, none⟩ (.slice T.A T.args.length T.c)).setCell ⟨tb, 3, none⟩ (.slice (some ⟨g, 0, none⟩) (Ls.length + 1) cap)) ∨
       W9 = ((((w8.setCell ⟨tb, 3, none⟩ (.slice (some ⟨g, 0, none⟩) (Ls.length + 1) cap)).setCell ⟨g, Ls.length * 3, none⟩ (.int .i64 T.op)).setCell ⟨g, Ls.length * 3 + 1, none⟩ (.int .i64 T.n)).setCell ⟨g, Ls.length * 3 + 2, none⟩ (.slice T.A T.args.length T.c))) → a.defers = [] → Q .normal a W9) :
    ∀ (x1 x2 x4 x5 x6 x7 x8 x9 x10 x11 x12 x13 x14 x15 x16 x17 x18 x19 x20 x21 x22 x23 x24 x25 x26 x27 x28 x36 x37 x38 x39 t32 t33 t34 t35 : Value) (W' : World), SA v Ls.length T W W' true true true true t32 t33 t34 t35 →
      wpAny Tryz.prog .any opsA Q 6 #[true, true, true, true, true, true, true, false, false, false, false, false, false] { tmps := #[.pointer (some ⟨tb, 0, none⟩), x1, x2, .pointer (some ⟨Bx, 0, none⟩), x4, x5, x6, x7, x8, x9, x10, x11, x12, x13, x14, x15, x16, x17, x18, x19, x20, x21, x22, x23, x24, x25, x26, x27, x28, .pointer (some ⟨tb, 0, none⟩), .pointer (some ⟨tb, 0, none⟩), .pointer (some ⟨tb, 3, none⟩), t32, t33, t34, t35, x36, x37, x38, x39], defers := [] } W' := by
  intro x1 x2 x4 x5 x6 x7 x8 x9 x10 x11 x12 x13 x14 x15 x16 x17 x18 x19 x20 x21 x22 x23 x24 x25 x26 x27 x28 x36 x37 x38 x39 t32 t33 t34 t35 W' hS
  obtain ⟨A, c, hv, hlc, hcc⟩ := row_val1 hrow
  have hbel := hS.bel
  have hsz := hbel.size
  obtain ⟨g4, fr, h35, hg4, hz4⟩ := hS.k6 rfl
  have h32 := hS.k3 rfl
  have h33 := hS.k4 rfl
  have h34 := hS.k5 rfl
  subst h32 h33 h34 h35
  have hb' := blk_lat0 hbox hbel
  have htl : tb < W.heap.size := (Array.getElem?_eq_some_iff.1 hbox).1
  obtain ⟨i0, hi, hz0, hz1, hz2⟩ := info_parts con_info
  refine wpAny_ready (rs := [7]) (by kernel_rfl) (by simp) (AllReady.cons (o := { dst := some 36, op := Op.call { callee := Callee.builtin Builtin.append, args := #[Operand.tmp 32, Operand.tmp 35], argTypes := #[31, 31] }, type := 31, pos := "marks.go:78", after := #[{ on := 3, ground := Ground.data }, { on := 6, ground := Ground.data }, { on := 0, ground := Ground.phase }, { on := 1, ground := Ground.phase }, { on := 2, ground := Ground.phase }, { on := 3, ground := Ground.phase }, { on := 4, ground := Ground.phase }, { on := 5, ground := Ground.phase }, { on := 6, ground := Ground.phase }], guard := none }) (by kernel_rfl) (fun K hK => ?_) AllReady.nil)
  refine step_append_lies _ (by rfl) _ _ _ (by rfl) lo 33 i0 _ 3 40 Tryz.underlying31 hi hz0 hz1 hz2 rfl (by omega) _ Ls.length (Ls.flatMap MT.cs) (by rfl) (owns_below hrow hbel) ⟨g4, 0, none⟩ 1 1 zeroMT.cs (by rfl) (by rfl) (World.news_of_block hz4) (by simp [MT.cs, zeroMT, Value.oneCell']) (by omega) (by unfold maxLen; omega) (by omega) (by omega) W'.heap.size rfl ?_
  intro g cap w8 hown8 hg8 hat8 hlt8
  have hnb : some tb ≠ t32.ownBlock := fun e => by have := (own_lt hrow e.symm).1; omega
  have b8 : w8.heap[tb]? = some (.cells #[n0, n1, n2, t32, mv, s0, s1, s2, s3', ov] 164) := (hg8.block tb (by omega) hnb).trans hb'
  obtain ⟨cur, hgc, hgs⟩ : ∃ cur, w8.heap[g]? = some (.cells cur 33) ∧ Ls.length * 3 + 3 ≤ cur.size := by
    rcases hown8.2 with ⟨h, _⟩ | ⟨g', cap', cur, h, _, hgb, _, hcap, hsize, _⟩
    · cases h
    · cases h; exact ⟨cur, hgb, by omega⟩
  have hg1 : lo ≤ g := (own_lt hown8 rfl).1
  have hgb : g ≠ tb := by omega
  have hgc2 : (w8.setCell ⟨tb, 3, none⟩ (.slice (some ⟨g, 0, none⟩) (Ls.length + 1) cap)).heap[g]? = some (.cells cur 33) := (Below.heap_setCell _ _ _ g hgb).trans hgc
  have b9 : (((w8.setCell ⟨g, Ls.length * 3, none⟩ (.int .i64 T.op)).setCell ⟨g, Ls.length * 3 + 1, none⟩ (.int .i64 T.n)).setCell ⟨g, Ls.length * 3 + 2, none⟩ (.slice T.A T.args.length T.c)).heap[tb]? = some (.cells #[n0, n1, n2, t32, mv, s0, s1, s2, s3', ov] 164) :=
    (Below.heap_setCell _ _ _ tb (fun e => hgb e.symm)).trans ((Below.heap_setCell _ _ _ tb (fun e => hgb e.symm)).trans ((Below.heap_setCell _ _ _ tb (fun e => hgb e.symm)).trans b8))
  have a0 := cell_of_blk hgc (Ls.length * 3)
  have a1 := cell_of_blk hgc (Ls.length * 3 + 1)
  have a2 := cell_of_blk hgc (Ls.length * 3 + 2)
  have b0 := frozen_of_blk hgc (Ls.length * 3)
  have b1 := frozen_of_blk hgc (Ls.length * 3 + 1)
  have b2 := frozen_of_blk hgc (Ls.length * 3 + 2)
  have c0 := cell_of_blk hgc2 (Ls.length * 3)
  have c1 := cell_of_blk hgc2 (Ls.length * 3 + 1)
  have c2 := cell_of_blk hgc2 (Ls.length * 3 + 2)
  have d0 := frozen_of_blk hgc2 (Ls.length * 3)
  have d1 := frozen_of_blk hgc2 (Ls.length * 3 + 1)
  have d2 := frozen_of_blk hgc2 (Ls.length * 3 + 2)
  have e0 := cell_of_blk b8 3
  have e1 := frozen_of_blk b8 3
  have e2 := cell_of_blk b9 3
  have e3 := frozen_of_blk b9 3
  simp only [List.getElem?_toArray, List.getElem?_cons_zero, List.getElem?_cons_succ] at e0 e2
  rw [Array.getElem?_eq_getElem (by omega)] at a0 a1 a2 c0 c1 c2
  have hlt1 : ((Ls.length : Nat) : Int) < (Ls.length : Int) + 1 := by omega
  have HE := Lib.hid (fun a W9 => hend a W' w8 W9 g cap hbel hown8 hg8 hat8 hlt8)
  clear hown8 hg8 hat8 b8 b9 hgc hgc2 hlc hcc hbox hrow _hblk hend hb' hS
  simp only [MT.val]
  refine hK _ _ ?_
  clear hK K
  try simp only [Act.put, List.setIfInBounds_toArray, List.set_cons_zero, List.set_cons_succ]
  refine wpAny_take (i := 8) (oi := { dst := some 37, op := Op.indexAddr 31 (Operand.tmp 36) (Operand.tmp 34), type := 0, pos := "marks.go:78", after := #[{ on := 7, ground := Ground.data }, { on := 5, ground := Ground.data }, { on := 0, ground := Ground.phase }, { on := 1, ground := Ground.phase }, { on := 2, ground := Ground.phase }, { on := 3, ground := Ground.phase }, { on := 4, ground := Ground.phase }, { on := 5, ground := Ground.phase }, { on := 6, ground := Ground.phase }, { on := 7, ground := Ground.phase }, { on := 12, ground := Ground.gcOnly Departure.appendInPlace }], guard := none }) (v := .pointer (some ⟨g, Ls.length * 3, none⟩)) rfl (by kernel_rfl) (by kernel_rfl) (by kernel_rfl) (fun c a w h => (hQp c _ _ h).elim) (Or.inl ⟨by rfl, by (intro w; go_simp)⟩) ?_
  try simp only [Act.put, List.setIfInBounds_toArray, List.set_cons_zero, List.set_cons_succ]
  refine wpAny_take (i := 10) (oi := { dst := some 38, op := Op.nilCheck (Operand.tmp 29), type := 0, pos := "marks.go:78", after := #[{ on := 0, ground := Ground.data }, { on := 0, ground := Ground.phase }, { on := 1, ground := Ground.phase }, { on := 2, ground := Ground.phase }, { on := 3, ground := Ground.phase }, { on := 4, ground := Ground.phase }, { on := 5, ground := Ground.phase }, { on := 6, ground := Ground.phase }, { on := 7, ground := Ground.phase }, { on := 8, ground := Ground.textOnly Departure.appendInPlace }, { on := 9, ground := Ground.textOnly Departure.appendInPlace }], guard := none }) (v := .pointer (some ⟨tb, 0, none⟩)) rfl (by kernel_rfl) (by kernel_rfl) (by kernel_rfl) (fun c a w h => (hQp c _ _ h).elim) (Or.inl ⟨by rfl, by (intro w; go_simp)⟩) ?_
  try simp only [Act.put, List.setIfInBounds_toArray, List.set_cons_zero, List.set_cons_succ]
  refine wpAny_take (i := 11) (oi := { dst := some 39, op := Op.fieldAddr 164 (Operand.tmp 38) 1, type := 0, pos := "marks.go:78", after := #[{ on := 10, ground := Ground.data }, { on := 0, ground := Ground.phase }, { on := 1, ground := Ground.phase }, { on := 2, ground := Ground.phase }, { on := 3, ground := Ground.phase }, { on := 4, ground := Ground.phase }, { on := 5, ground := Ground.phase }, { on := 6, ground := Ground.phase }, { on := 7, ground := Ground.phase }, { on := 8, ground := Ground.textOnly Departure.appendInPlace }, { on := 9, ground := Ground.textOnly Departure.appendInPlace }], guard := none }) (v := .pointer (some ⟨tb, 3, none⟩)) rfl (by kernel_rfl) (by kernel_rfl) (by kernel_rfl) (fun c a w h => (hQp c _ _ h).elim) (Or.inl ⟨by rfl, by (intro w; go_simp)⟩) ?_
  try simp only [Act.put, List.setIfInBounds_toArray, List.set_cons_zero, List.set_cons_succ]
  refine wpAny_ready (rs := [9, 12]) (by kernel_rfl) (by simp) (AllReady.cons (o := { dst := none, op := Op.store 33 (Operand.tmp 37) (Operand.tmp 33), type := 0, pos := "marks.go:78", after := #[{ on := 8, ground := Ground.data }, { on := 4, ground := Ground.data }, { on := 7, ground := Ground.chain }, { on := 0, ground := Ground.phase }, { on := 1, ground := Ground.phase }, { on := 2, ground := Ground.phase }, { on := 3, ground := Ground.phase }, { on := 4, ground := Ground.phase }, { on := 5, ground := Ground.phase }, { on := 6, ground := Ground.phase }, { on := 7, ground := Ground.phase }, { on := 12, ground := Ground.gcOnly Departure.appendInPlace }], guard := none }) (by kernel_rfl) (fun K hK => ?_) (AllReady.cons (o := { dst := none, op := Op.store 31 (Operand.tmp 39) (Operand.tmp 36), type := 0, pos := "marks.go:78", after := #[{ on := 11, ground := Ground.data }, { on := 7, ground := Ground.data }, { on := 7, ground := Ground.chain }, { on := 9, ground := Ground.textOnly Departure.appendInPlace }, { on := 0, ground := Ground.phase }, { on := 1, ground := Ground.phase }, { on := 2, ground := Ground.phase }, { on := 3, ground := Ground.phase }, { on := 4, ground := Ground.phase }, { on := 5, ground := Ground.phase }, { on := 6, ground := Ground.phase }, { on := 7, ground := Ground.phase }, { on := 8, ground := Ground.textOnly Departure.appendInPlace }, { on := 9, ground := Ground.textOnly Departure.appendInPlace }], guard := none }) (by kernel_rfl) (fun K hK => ?_) AllReady.nil))
  · go_simp
    refine hK _ _ ?_
    clear hK K
    refine wpAny_ready (rs := [12]) (by kernel_rfl) (by simp) (AllReady.cons (o := { dst := none, op := Op.store 31 (Operand.tmp 39) (Operand.tmp 36), type := 0, pos := "marks.go:78", after := #[{ on := 11, ground := Ground.data }, { on := 7, ground := Ground.data }, { on := 7, ground := Ground.chain }, { on := 9, ground := Ground.textOnly Departure.appendInPlace }, { on := 0, ground := Ground.phase }, { on := 1, ground := Ground.phase }, { on := 2, ground := Ground.phase }, { on := 3, ground := Ground.phase }, { on := 4, ground := Ground.phase }, { on := 5, ground := Ground.phase }, { on := 6, ground := Ground.phase }, { on := 7, ground := Ground.phase }, { on := 8, ground := Ground.textOnly Departure.appendInPlace }, { on := 9, ground := Ground.textOnly Departure.appendInPlace }], guard := none }) (by kernel_rfl) (fun K hK => ?_) AllReady.nil)
    go_simp
    exact hK _ _ (wpAny_done (by kernel_rfl) (HE.out _ _ (.inl rfl) rfl) _)
  · go_simp
    refine hK _ _ ?_
    clear hK K
    refine wpAny_ready (rs := [9]) (by kernel_rfl) (by simp) (AllReady.cons (o := { dst := none, op := Op.store 33 (Operand.tmp 37) (Operand.tmp 33), type := 0, pos := "marks.go:78", after := #[{ on := 8, ground := Ground.data }, { on := 4, ground := Ground.data }, { on := 7, ground := Ground.chain }, { on := 0, ground := Ground.phase }, { on := 1, ground := Ground.phase }, { on := 2, ground := Ground.phase }, { on := 3, ground := Ground.phase }, { on := 4, ground := Ground.phase }, { on := 5, ground := Ground.phase }, { on := 6, ground := Ground.phase }, { on := 7, ground := Ground.phase }, { on := 12, ground := Ground.gcOnly Departure.appendInPlace }], guard := none }) (by kernel_rfl) (fun K hK => ?_) AllReady.nil)
    go_simp
    exact hK _ _ (wpAny_done (by kernel_rfl) (HE.out _ _ (.inr rfl) rfl) _)

set_option maxRecDepth 100000 in
set_option maxHeartbeats 4000000 in
/-- THE REGION. -/
theorem addR_any {n0 n1 n2 mv s0 s1 s2 s3' ov : Value} {lo : Nat} (tb Bx : Nat) (v : Value) (Ls : List MT) (T : MT) (W : World) (Q : Exit → Act → World → Prop)
    (hbox : W.heap[tb]? = some (.cells #[n0, n1, n2, v, mv, s0, s1, s2, s3', ov] 164)) (hrow : W.ownsRow lo 33 3 v Ls.length (Ls.flatMap MT.cs)) (hblk : W.heap[Bx]? = some (.cells #[.int .i64 T.op, .int .i64 T.n, .slice T.A T.args.length T.c] 33)) (hlo : tb < lo) (hbs : lo ≤ W.heap.size) (hlen : Ls.length ≤ 1000000) (hQp : ∀ c a w, ¬ Q (.panic c) a w)
    (hend : ∀ (a : Act) (W' w8 W9 : World) (g cap : Nat), Below W.drew.heap.size W.drew W' → w8.ownsRow lo 33 3 (.slice (some ⟨g, 0, none⟩) (Ls.length + 1) cap) (Ls.length + 1) (Ls.flatMap MT.cs ++ zeroMT.cs) → W'.grownBy w8 v.ownBlock → (v.ownBlock = some g ∨ g = W'.heap.size) → g < w8.heap.size → (W9 = ((((w8.setCell ⟨g, Ls.length * 3, none⟩ (.int .i64 T.op)).setCell ⟨g, Ls.length * 3 + 1, none⟩ (.int .i64 T.n)).setCell ⟨g, Ls.length * 3 + 2, none⟩ (.slice T.A T.args.length T.c)).setCell ⟨tb, 3, none⟩ (.slice (some ⟨g, 0, none⟩) (Ls.length + 1) cap)) ∨
       W9 = ((((w8.setCell ⟨tb, 3, none⟩ (.slice (some ⟨g, 0, none⟩) (Ls.length + 1) cap)).setCell ⟨g, Ls.length * 3, none⟩ (.int .i64 T.op)).setCell ⟨g, Ls.length * 3 + 1, none⟩ (.int .i64 T.n)).setCell ⟨g, Ls.length * 3 + 2, none⟩ (.slice T.A T.args.length T.c))) → a.defers = [] → Q .normal a W9)
    (x1 x2 x4 x5 x6 x7 x8 x9 x10 x11 x12 x13 x14 x15 x16 x17 x18 x19 x20 x21 x22 x23 x24 x25 x26 x27 x28 x29 x30 x31 x32 x33 x34 x35 x36 x37 x38 x39 : Value) : (Code.region 4 opsA true).wp Tryz.prog Q { tmps := #[.pointer (some ⟨tb, 0, none⟩), x1, x2, .pointer (some ⟨Bx, 0, none⟩), x4, x5, x6, x7, x8, x9, x10, x11, x12, x13, x14, x15, x16, x17, x18, x19, x20, x21, x22, x23, x24, x25, x26, x27, x28, x29, x30, x31, x32, x33, x34, x35, x36, x37, x38, x39], defers := [] } W := by
  refine wp_region_any (by kernel_rfl) ?_
  show wpAny Tryz.prog .any opsA Q 13 #[false, false, false, false, false, false, false, false, false, false, false, false, false] { tmps := #[.pointer (some ⟨tb, 0, none⟩), x1, x2, .pointer (some ⟨Bx, 0, none⟩), x4, x5, x6, x7, x8, x9, x10, x11, x12, x13, x14, x15, x16, x17, x18, x19, x20, x21, x22, x23, x24, x25, x26, x27, x28, x29, x30, x31, x32, x33, x34, x35, x36, x37, x38, x39], defers := [] } W.drew
  refine wpAny_take (i := 0) (oi := { dst := some 29, op := Op.move (Operand.tmp 0), type := 116, pos := "marks.go:78", after := #[], guard := none }) (v := .pointer (some ⟨tb, 0, none⟩)) rfl (by kernel_rfl) (by kernel_rfl) (by kernel_rfl) (fun c a w h => (hQp c _ _ h).elim) (Or.inl ⟨by rfl, by (intro w; go_simp)⟩) ?_
  try simp only [Act.put, List.setIfInBounds_toArray, List.set_cons_zero, List.set_cons_succ]
  refine wpAny_take (i := 1) (oi := { dst := some 30, op := Op.nilCheck (Operand.tmp 29), type := 0, pos := "marks.go:78", after := #[{ on := 0, ground := Ground.data }], guard := none }) (v := .pointer (some ⟨tb, 0, none⟩)) rfl (by kernel_rfl) (by kernel_rfl) (by kernel_rfl) (fun c a w h => (hQp c _ _ h).elim) (Or.inl ⟨by rfl, by (intro w; go_simp)⟩) ?_
  try simp only [Act.put, List.setIfInBounds_toArray, List.set_cons_zero, List.set_cons_succ]
  refine wpAny_take (i := 2) (oi := { dst := some 31, op := Op.fieldAddr 164 (Operand.tmp 30) 1, type := 0, pos := "marks.go:78", after := #[{ on := 1, ground := Ground.data }], guard := none }) (v := .pointer (some ⟨tb, 3, none⟩)) rfl (by kernel_rfl) (by kernel_rfl) (by kernel_rfl) (fun c a w h => (hQp c _ _ h).elim) (Or.inl ⟨by rfl, by (intro w; go_simp)⟩) ?_
  try simp only [Act.put, List.setIfInBounds_toArray, List.set_cons_zero, List.set_cons_succ]
  exact addA tb Bx v Ls T W.drew Q hbox hrow hblk (addB tb Bx v Ls T W.drew Q hbox hrow hblk hlo hbs hlen hQp hend) 4 false false false false (fun h => by cases h) rfl x1 x2 x4 x5 x6 x7 x8 x9 x10 x11 x12 x13 x14 x15 x16 x17 x18 x19 x20 x21 x22 x23 x24 x25 x26 x27 x28 x36 x37 x38 x39 x32 x33 x34 x35 W.drew ⟨Below.refl _ _, nofun, nofun, nofun, nofun⟩
/-- .. with a post of its own. -/
theorem addR_post {n0 n1 n2 mv s0 s1 s2 s3' ov : Value} {lo : Nat} (tb Bx : Nat) (v : Value) (Ls : List MT) (T : MT) (W : World)
    (hbox : W.heap[tb]? = some (.cells #[n0, n1, n2, v, mv, s0, s1, s2, s3', ov] 164)) (hrow : W.ownsRow lo 33 3 v Ls.length (Ls.flatMap MT.cs)) (hblk : W.heap[Bx]? = some (.cells #[.int .i64 T.op, .int .i64 T.n, .slice T.A T.args.length T.c] 33)) (hlo : tb < lo) (hbs : lo ≤ W.heap.size) (hlen : Ls.length ≤ 1000000)
    (x1 x2 x4 x5 x6 x7 x8 x9 x10 x11 x12 x13 x14 x15 x16 x17 x18 x19 x20 x21 x22 x23 x24 x25 x26 x27 x28 x29 x30 x31 x32 x33 x34 x35 x36 x37 x38 x39 : Value) : (Code.region 4 opsA true).wp Tryz.prog (fun e a W9 => e = .normal ∧ a.defers = [] ∧ ∃ (W' w8 : World) (g cap : Nat), Below W.drew.heap.size W.drew W' ∧ w8.ownsRow lo 33 3 (.slice (some ⟨g, 0, none⟩) (Ls.length + 1) cap) (Ls.length + 1) (Ls.flatMap MT.cs ++ zeroMT.cs) ∧ W'.grownBy w8 v.ownBlock ∧ (v.ownBlock = some g ∨ g = W'.heap.size) ∧ g < w8.heap.size ∧ (W9 = ((((w8.setCell ⟨g, Ls.length * 3, none⟩ (.int .i64 T.op)).setCell ⟨g, Ls.length * 3 + 1, none⟩ (.int .i64 T.n)).setCell ⟨g, Ls.length * 3 + 2, none⟩ (.slice T.A T.args.length T.c)).setCell ⟨tb, 3, none⟩ (.slice (some ⟨g, 0, none⟩) (Ls.length + 1) cap)) ∨
       W9 = ((((w8.setCell ⟨tb, 3, none⟩ (.slice (some ⟨g, 0, none⟩) (Ls.length + 1) cap)).setCell ⟨g, Ls.length * 3, none⟩ (.int .i64 T.op)).setCell ⟨g, Ls.length * 3 + 1, none⟩ (.int .i64 T.n)).setCell ⟨g, Ls.length * 3 + 2, none⟩ (.slice T.A T.args.length T.c)))) { tmps := #[.pointer (some ⟨tb, 0, none⟩), x1, x2, .pointer (some ⟨Bx, 0, none⟩), x4, x5, x6, x7, x8, x9, x10, x11, x12, x13, x14, x15, x16, x17, x18, x19, x20, x21, x22, x23, x24, x25, x26, x27, x28, x29, x30, x31, x32, x33, x34, x35, x36, x37, x38, x39], defers := [] } W :=
  addR_any tb Bx v Ls T W _ hbox hrow hblk hlo hbs hlen (fun c a w h => by cases h.1) (fun a W' w8 W9 g cap h1 h2 h3 h4 h5 h6 h7 => ⟨rfl, h7, W', w8, g, cap, h1, h2, h3, h4, h5, h6⟩) x1 x2 x4 x5 x6 x7 x8 x9 x10 x11 x12 x13 x14 x15 x16 x17 x18 x19 x20 x21 x22 x23 x24 x25 x26 x27 x28 x29 x30 x31 x32 x33 x34 x35 x36 x37 x38 x39
end Go.Proofs.YtndkcimajeofcaaGreatDoor

namespace Go.Proofs.YtndkcimajeofcaaGreatDoor
open Go.RowKit

theorem nnfM_wf (C R : Nat) (t : Tr) : t.wfT C R = true → ∀ a, (nnf t a).wfT C R = true :=
  Tr.rec (motive_1 := fun t => t.wfT C R = true → ∀ a, (nnf t a).wfT C R = true) (motive_2 := fun l => Tr.wfTs C R l = true → (∀ a, Tr.wfTs C R (nnfs l a) = true ∧ (nnfs l a).length = l.length) ∧ ∀ x, l = [x] → ∀ a, (nnf x a).wfT C R = true)
    (fun op n args ih h a => by
      rw [Tr.wfT, Bool.and_eq_true] at h
      obtain ⟨hw, hs⟩ := h
      have hw0 := hw
      simp only [wfB, Bool.and_eq_true, decide_eq_true_eq, beq_iff_eq] at hw
      obtain ⟨h0, h8, hl, hn0, hn1⟩ := hw
      obtain ⟨i1, i2⟩ := ih hs
      rcases (show op = 0 ∨ op = 3 ∨ (op = 1 ∨ op = 2 ∨ op = 4 ∨ op = 5 ∨ op = 6 ∨ op = 7) by omega) with rfl | rfl | hop
      · have : args = [] := by simpa [arityF] using hl
        subst this
        cases a
        · simpa [nnf, nnfs, Tr.wfT, Tr.wfTs] using hw0
        · simpa [nnf, nnfs, Tr.wfT, Tr.wfTs, wfB, arityF, choicesF] using hw0
      · obtain ⟨x, rfl⟩ := List.length_eq_one_iff.1 (show args.length = 1 by simp [arityF] at hl; omega)
        simp only [nnf, nnfHead, if_true]
        exact i2 x rfl _
      · obtain ⟨j1, j2⟩ := i1 a
        rcases hop with rfl | rfl | rfl | rfl | rfl | rfl <;> cases a <;> simp_all [nnf, dualF, Tr.wfT, wfB, arityF, choicesF])
    (fun _ => ⟨fun a => by simp [nnfs, Tr.wfTs], fun x h => by cases h⟩)
    (fun t ts h1 h2 h => by
      rw [Tr.wfTs, Bool.and_eq_true] at h
      refine ⟨fun a => ?_, fun x hx => ?_⟩
      · obtain ⟨k1, k2⟩ := (h2 h.2).1 a
        rw [nnfs, Tr.wfTs, h1 h.1, k1, List.length_cons, List.length_cons, k2]
        exact ⟨rfl, rfl⟩
      · cases hx
        exact h1 h.1) t

theorem wfTs_mem {C R : Nat} : ∀ {l : List Tr}, Tr.wfTs C R l = true → ∀ t ∈ l, t.wfT C R = true
  | x :: l, h, t, ht => by
    rw [Tr.wfTs, Bool.and_eq_true] at h
    rcases List.mem_cons.1 ht with rfl | ht
    · exact h.1
    · exact wfTs_mem h.2 t ht
theorem wf_node {C R : Nat} {op nn : Int} {A : Option Addr} {c : Nat} {args : List MT} (h : (MT.mk op nn A c args).tr.wfT C R = true) : wfB C R op nn args.length = true ∧ ∀ t ∈ args, t.tr.wfT C R = true := by
  rw [MT.tr_mk, Tr.wfT, Bool.and_eq_true, List.length_map] at h
  exact ⟨h.1, fun t ht => wfTs_mem h.2 _ (List.mem_map_of_mem ht)⟩
theorem vts_of {C R : Nat} : ∀ {l : List MT}, (∀ t ∈ l, MT.VT C R t) → MT.VTs C R l
  | [], _ => by rw [MT.VTs]; trivial
  | t :: l, h => by rw [MT.VTs]; exact ⟨h t (by simp), vts_of fun x hx => h x (by simp [hx])⟩
theorem wfs_of : ∀ {l : List MT}, (∀ t ∈ l, MT.WF t) → MT.WFs l
  | [], _ => by rw [MT.WFs]; trivial
  | t :: l, h => by rw [MT.WFs]; exact ⟨h t (by simp), wfs_of fun x hx => h x (by simp [hx])⟩
theorem eachs_of {P : MT → Prop} : ∀ {l : List MT}, (∀ t ∈ l, MT.Each P t) → MT.Eachs P l
  | [], _ => by rw [MT.Eachs]; trivial
  | t :: l, h => by rw [MT.Eachs]; exact ⟨h t (by simp), eachs_of fun x hx => h x (by simp [hx])⟩
theorem vt_of_wfT {C R : Nat} (T : MT) : T.tr.wfT C R = true → MT.VT C R T := by
  induction T using MT.induct with
  | h op n A c args ih =>
    intro h
    obtain ⟨h1, h2⟩ := wf_node h
    rw [MT.VT]
    refine ⟨h1, vts_of fun t ht => ?_⟩
    obtain ⟨k, hk, rfl⟩ := List.getElem_of_mem ht
    exact ih k hk (h2 _ ht)
theorem WF_of_wfT {C R : Nat} (T : MT) : T.tr.wfT C R = true → T.WF := by
  induction T using MT.induct with
  | h op n A c args ih =>
    intro h
    obtain ⟨h1, h2⟩ := wf_node h
    simp only [wfB, Bool.and_eq_true, decide_eq_true_eq, beq_iff_eq] at h1
    rw [MT.WF]
    refine ⟨h1.1, h1.2.1, h1.2.2.1, wfs_of fun t ht => ?_⟩
    obtain ⟨k, hk, rfl⟩ := List.getElem_of_mem ht
    exact ih k hk (h2 _ ht)
theorem sizes_mem : ∀ {l : List Tr} {t : Tr}, t ∈ l → t.size ≤ Tr.sizes l
  | x :: l, t, h => by
    rw [Tr.sizes]
    rcases List.mem_cons.1 h with rfl | h
    · omega
    · have := sizes_mem h; omega
/-- A node that may be looked at. -/
def NodeOK (n : NM) (x : MT) : Prop := x.tr.wfT n.C.l.length n.R.l.length = true ∧ x.tr.size ≤ 10000
theorem each_ok {n : NM} (T : MT) : NodeOK n T → T.Each (NodeOK n) := by
  induction T using MT.induct with
  | h op nn A c args ih =>
    intro h
    rw [MT.Each]
    refine ⟨h, eachs_of fun t ht => ?_⟩
    obtain ⟨k, hk, rfl⟩ := List.getElem_of_mem ht
    refine ih k hk ⟨(wf_node h.1).2 _ ht, ?_⟩
    have h2 := h.2
    rw [MT.tr_mk, Tr.size] at h2
    have := sizes_mem (List.mem_map_of_mem (f := MT.tr) ht)
    omega
theorem pr_of {n : NM} (hok : n.ok = true) {T : MT} (h : T.tr.wfT n.C.l.length n.R.l.length = true) (hs : T.tr.size ≤ 100000) : Pr n T := by
  obtain ⟨m1, m2, -⟩ := ok_names hok
  have := str_length (m := 12) m1 m2 T.tr
  exact ⟨vt_of_wfT T h, by omega⟩
theorem nmb_of {n : NM} (hok : n.ok = true) : NmB n := ⟨by have := (ok_bounds hok).2.1; omega, fun x hx => Nat.le_trans ((ok_names hok).2.1 x hx) (by omega)⟩

/-- A mark of a tree that is well formed is well formed. -/
theorem mark_wf {C R : Nat} {t m : Tr} (h : t.wfT C R = true) (hm : markT t = some m) : m.wfT C R = true ∧ m.size ≤ 2 * t.size + 1 := by
  obtain ⟨op, n, args⟩ := t
  rw [Tr.wfT, Bool.and_eq_true] at h
  obtain ⟨hw, hs⟩ := h
  have hw0 := hw
  simp only [wfB, Bool.and_eq_true, decide_eq_true_eq, beq_iff_eq] at hw
  obtain ⟨h0, h8, hl, hn0, hn1⟩ := hw
  rw [markT] at hm
  split at hm
  · rename_i h
    cases hm
    subst h
    have : args = [] := by simpa [arityF] using hl
    subst this
    exact ⟨by simpa [Tr.wfT, Tr.wfTs] using hw0, by simp [Tr.size, Tr.sizes]⟩
  · split at hm
    · rename_i hne h67
      cases hm
      obtain ⟨x, rfl⟩ := List.length_eq_one_iff.1 (show args.length = 1 by rw [arityF, if_pos (by omega)] at hl; omega)
      have hx := wfTs_mem hs x (by simp)
      have hN : nnfHead [x] (decide (op = 7)) = nnf x (decide (op = 7)) := rfl
      rw [hN]
      refine ⟨?_, ?_⟩
      · rw [Tr.wfT, Tr.wfTs, Tr.wfTs, nnfM_wf C R x hx]
        have hc : choicesF C R op = choicesF C R 6 := by rw [choicesF, choicesF, if_neg hne, if_pos h67, if_neg (by decide), if_pos (by decide)]
        rw [hc] at hn1
        simp only [wfB, List.length_cons, List.length_nil, Bool.and_true, Bool.and_eq_true, decide_eq_true_eq, beq_iff_eq]
        exact ⟨by omega, by omega, by decide, hn0, hn1⟩
      · have := nnf_size x (decide (op = 7))
        simp only [Tr.size, Tr.sizes]; omega
    · cases hm

/-- The marks behind 'add', and behind a node, as trees. -/
def addK (C R : List ByteArray) (L : List Tr) (m : Tr) : List Tr := if (look (L.map (Tr.str C R)) (m.str C R)).isSome then L else L ++ [m]
def colK (C R : List ByteArray) (L : List Tr) (t : Tr) : List Tr := match markT t with | some m => addK C R L m | none => L
theorem addK_len (C R : List ByteArray) (L : List Tr) (m : Tr) : L.length ≤ (addK C R L m).length ∧ (addK C R L m).length ≤ L.length + 1 := by
  unfold addK; split <;> simp
theorem colK_len (C R : List ByteArray) (L : List Tr) (t : Tr) : L.length ≤ (colK C R L t).length ∧ (colK C R L t).length ≤ L.length + 1 := by
  unfold colK
  split
  · exact addK_len C R L _
  · simp
theorem fold_col_len (C R : List ByteArray) : ∀ (l : List Tr) (L : List Tr), L.length ≤ (l.foldl (colK C R) L).length
  | [], _L => Nat.le_refl _
  | t :: l, L => Nat.le_trans (colK_len C R L t).1 (fold_col_len C R l _)
end Go.Proofs.YtndkcimajeofcaaGreatDoor
