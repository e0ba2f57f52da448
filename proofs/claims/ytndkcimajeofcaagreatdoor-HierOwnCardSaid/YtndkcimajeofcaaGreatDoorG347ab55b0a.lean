import Derived.Test.YtndkcimajeofcaaGreatDoorG3b2f17e259
import Derived.StillTailTactics
import Derived.Deep.QuietTactic
import Derived.Deep.RegionHeld3
namespace Go.Proofs.YtndkcimajeofcaaGreatDoor
open Go.RowKit

def strOf (l : List UInt8) : ByteArray := ⟨l.toArray⟩
def nameAt (l : List ByteArray) (k : Nat) : List UInt8 := (l.getD k ByteArray.empty).data.toList
def roleF (R : List ByteArray) (r : Int) : List UInt8 := nameAt R (r / 2).toNat ++ if r % 2 = 1 then [45] else []

set_option maxRecDepth 100000 in
set_option maxHeartbeats 1000000 in
theorem crole_any (n : NM) (r : Int) (w : World) (hn : n.In w.heap.size w) (h0 : 0 ≤ r) (h1 : r < 2 * (n.R.l.length : Int)) (h2 : n.R.l.length ≤ 1000) (h3 : ∀ x ∈ n.R.l, x.size ≤ 1000) :
    Calls Tryz.prog 204 #[n.val, .int .i64 r] w fun e w' => (∃ s : ByteArray, e = .returned (.string s) ∧ s.data.toList = roleF n.R.l r) ∧ Below w.heap.size w w' := by
  have hk : (r / 2).toNat < n.R.l.length := by omega
  obtain ⟨rb, roff, hA, hlt, hc⟩ := hn.2.1.cells (by omega)
  have hck := hc (r / 2).toNat hk
  obtain ⟨NC, ⟨RA, Rc, Rl⟩, NI⟩ := n
  simp only at hA h1 h2 hk hck h3
  subst hA
  have hmem : Rl.getD (r / 2).toNat ByteArray.empty ∈ Rl := by
    rw [List.getD_eq_getElem?_getD, List.getElem?_eq_getElem hk]; exact List.getElem_mem _
  have hss := h3 _ hmem
  have HN : Hid (nameAt Rl (r / 2).toNat = (Rl.getD (r / 2).toNat ByteArray.empty).data.toList) := Lib.hid rfl
  generalize Rl.getD (r / 2).toNat ByteArray.empty = sr at hck hss HN
  clear hmem hc h3
  have hd0 : 0 ≤ r / 2 := by omega
  have hd1 : r / 2 < (Rl.length : Int) := by omega
  have hrb := hlt
  simp only [NM.val]
  rcases ho : (r % 2 == 1)
  · go_enter Tryz.func204, Tryz.ntmps204
    go_wp2
    go_ret
    have hne : ¬ r % 2 = 1 := by simpa using ho
    exact ⟨⟨sr, rfl, by rw [roleF, if_neg hne, HN.out, List.append_nil]⟩, (Below.refl _ _).alloc (Nat.le_refl _) _⟩
  · have hsx : sr.size ≤ 9223372036854775806 := by omega
    go_enter Tryz.func204, Tryz.ntmps204
    go_wp2
    go_goals
    go_ret
    have he : r % 2 = 1 := by simpa using ho
    exact ⟨⟨_, rfl, by rw [roleF, if_pos he, HN.out, ByteArray.data_append, Array.toList_append]⟩, (Below.refl _ _).alloc (Nat.le_refl _) _⟩

def byteCells (l : List UInt8) : List Value := l.map fun b => .int .u8 b.toNat
theorem byteCells_append (l m : List UInt8) : byteCells (l ++ m) = byteCells l ++ byteCells m := List.map_append
theorem byteCells_length (l : List UInt8) : (byteCells l).length = l.length := List.length_map _
/-- What write writes at a node, given what it writes at the Args. -/
def strNode (C R : List ByteArray) (op n : Int) (l : List (List UInt8)) : List UInt8 :=
  if op = 0 then nameAt C n.toNat
  else if op = 1 ∨ op = 2 then wordF op
  else if op = 3 then [110, 111, 116, 32] ++ l.getD 0 []
  else if op = 4 ∨ op = 5 then [40] ++ l.getD 0 [] ++ ([32] ++ wordF op ++ [32]) ++ l.getD 1 [] ++ [41]
  else wordF op ++ [32] ++ roleF R n ++ [32] ++ l.getD 0 []
mutual
def Tr.str (C R : List ByteArray) : Tr → List UInt8
  | .mk op n args => strNode C R op n (Tr.strs C R args)
def Tr.strs (C R : List ByteArray) : List Tr → List (List UInt8)
  | [] => []
  | t :: ts => Tr.str C R t :: Tr.strs C R ts
end
mutual
/-- Every node is well formed over so many names. -/
def MT.VT (C R : Nat) : MT → Prop
  | .mk op n _ _ args => wfB C R op n args.length = true ∧ MT.VTs C R args
def MT.VTs (C R : Nat) : List MT → Prop
  | [] => True
  | t :: ts => MT.VT C R t ∧ MT.VTs C R ts
end
theorem MT.VTs.at_ {C R : Nat} : ∀ {ts : List MT}, MT.VTs C R ts → ∀ (k : Nat) (hk : k < ts.length), MT.VT C R ts[k]
  | [], _, k, hk => absurd hk (Nat.not_lt_zero _)
  | t :: ts, h, k, hk => by
    rw [MT.VTs] at h
    cases k with
    | zero => exact h.1
    | succ k => exact MT.VTs.at_ h.2 k (by simpa using hk)
theorem G.keep {B : Nat} {w w' : World} (h : G w) (hB : 4 ≤ B) (hb : Below B w w') : G w' := by
  have hs := h.size
  exact ⟨Nat.le_trans hs hb.size, fun op h0 h8 => (hb.cell (p := ⟨0, op.toNat, none⟩) (Nat.lt_of_lt_of_le (show 0 < 4 by decide) hB)).trans (h.ar op h0 h8), fun op h0 h8 => (hb.cell (p := ⟨1, op.toNat, none⟩) (Nat.lt_of_lt_of_le (show 1 < 4 by decide) hB)).trans (h.du op h0 h8), fun op h0 h8 => (hb.cell (p := ⟨3, op.toNat, none⟩) (Nat.lt_of_lt_of_le (show 3 < 4 by decide) hB)).trans (h.wd op h0 h8)⟩
theorem builder_alloc {T e : TypeId} {B b : Nat} {bs : List Value} {w w' : World} (h : Lib.IsBuilder T e B b bs w) (hb : Below w.heap.size w w') : Lib.IsBuilder T e B b bs w' := by
  rcases h with ⟨hB, v, hk, hown, hne⟩ | ⟨hB, v, hk, hown, hne⟩
  · exact .inl ⟨hB, v, (hb.block b (Array.getElem?_eq_some_iff.1 hk).1).trans hk, owns_below hown hb, hne⟩
  · exact .inr ⟨hB, v, (hb.block b (Array.getElem?_eq_some_iff.1 hk).1).trans hk, owns_below hown hb, hne⟩

theorem builder_lt {T e : TypeId} {B b : Nat} {bs : List Value} {w : World} (h : Lib.IsBuilder T e B b bs w) : b < w.heap.size := by
  rcases h with h | h <;> exact h.lt

/-- What write does at a tree. -/
def WriteAt (n : NM) (B b : Nat) (T : MT) : Prop :=
  ∀ (bs : List Value) (w : World), G w → n.In B w → T.In B w → Lib.IsBuilder 232 5 B b bs w → bs.length + (T.tr.str n.C.l n.R.l).length ≤ 1000000000 → B ≤ w.heap.size →
    Calls Tryz.prog 189 #[.pointer (some ⟨b, 0, none⟩), n.val, T.val] w fun e w' => (∃ v, e = .returned v) ∧ Lib.IsBuilder 232 5 B b (bs ++ byteCells (T.tr.str n.C.l n.R.l)) w' ∧ Below B w w' ∧ BK b w w'

set_option maxRecDepth 100000 in
set_option maxHeartbeats 4000000 in
theorem write0 (n : NM) (B b : Nat) (nn : Int) (A : Option Addr) (c : Nat) (args : List MT) (h0 : 0 ≤ nn) (h1 : nn < n.C.l.length) : WriteAt n B b (.mk 0 nn A c args) := by
  intro bs w hG hn hT hb hlen hBw
  have hk : nn.toNat < n.C.l.length := by omega
  obtain ⟨rb, roff, hA, hlt, hc⟩ := hn.1.cells (by omega)
  have hc0 := hc nn.toNat hk
  have hS : (MT.mk 0 nn A c args).tr.str n.C.l n.R.l = (n.C.l.getD nn.toNat ByteArray.empty).data.toList := by
    rw [MT.tr_mk, Tr.str, strNode, if_pos rfl]; rfl
  rw [hS] at hlen ⊢
  clear hS hc
  obtain ⟨⟨CA, Cc, Cl⟩, NR, NI⟩ := n
  simp only at hA h1 hk hc0 hlen ⊢
  subst hA
  generalize Cl.getD nn.toNat ByteArray.empty = sr at hc0 hlen ⊢
  simp only [NM.val, MT.val, MT.op, MT.n, MT.A, MT.args, MT.c]
  obtain ⟨W1, hW1, hB1, hs1, hblk1⟩ := newBlk w _ rfl #[.slice (some ⟨rb, roff, none⟩) Cl.length Cc, .slice NR.A NR.l.length NR.c, .slice NI.A NI.l.length NI.c] 24
  obtain ⟨W2, hW2, hB2, hs2, hblk2⟩ := newBlk W1 _ hs1 #[.int .i64 0, .int .i64 nn, .slice A args.length c] 33
  have hB : Below w.heap.size w W2 := hB1.trans (hB2.mono (by omega))
  have hblk12 := (hB2.block w.heap.size (by omega)).trans hblk1
  have a0 := cell_of_blk hblk12 0
  have b0 := cell_of_blk hblk2 0
  have b1 := cell_of_blk hblk2 1
  simp only [List.getElem?_toArray, List.getElem?_cons_zero, List.getElem?_cons_succ] at a0 b0 b1
  have hbW := builder_alloc hb hB
  have hck := (hB.cell (p := ⟨rb, roff + nn.toNat, none⟩) (show rb < w.heap.size by omega)).trans hc0
  go_enter Tryz.func189, Tryz.ntmps189
  go_wp2_with (first | (go_at_call 203; refine (WriteString_any B b bs _ _ hbW (by rw [data_size] at hlen; omega) (by omega)).mono ?_; rintro e w1 ⟨⟨v, rfl⟩, h1, h2, h3⟩))
  refine bodyPost_end (results_none (by kernel_rfl) _ _ _) (by rfl) ?_
  exact ⟨⟨_, rfl⟩, h1, (hB.mono hBw).trans h2, (BK.of_below hB).trans h3⟩

theorem bytes_app (a b : ByteArray) : (a ++ b).data.toList = a.data.toList ++ b.data.toList := by rw [ByteArray.data_append, Array.toList_append]
theorem ofWord_data (op : Int) : (⟨(wordF op).toArray⟩ : ByteArray).data.toList = wordF op := rfl

set_option maxRecDepth 100000 in
set_option maxHeartbeats 4000000 in
theorem write12 (n : NM) (B b : Nat) (op nn : Int) (hop : op = 1 ∨ op = 2) (A : Option Addr) (c : Nat) (args : List MT) : WriteAt n B b (.mk op nn A c args) := by
  intro bs w hG hn hT hb hlen hBw
  have hS : (MT.mk op nn A c args).tr.str n.C.l n.R.l = wordF op := by
    rw [MT.tr_mk, Tr.str, strNode, if_neg (by omega), if_pos hop]
  rw [hS] at hlen ⊢
  clear hS
  simp only [NM.val, MT.val, MT.op, MT.n, MT.A, MT.args, MT.c]
  obtain ⟨W1, hW1, hB1, hs1, hblk1⟩ := newBlk w _ rfl #[.slice n.C.A n.C.l.length n.C.c, .slice n.R.A n.R.l.length n.R.c, .slice n.I.A n.I.l.length n.I.c] 24
  obtain ⟨W2, hW2, hB2, hs2, hblk2⟩ := newBlk W1 _ hs1 #[.int .i64 op, .int .i64 nn, .slice A args.length c] 33
  have hB : Below w.heap.size w W2 := hB1.trans (hB2.mono (by omega))
  have b0 := cell_of_blk hblk2 0
  simp only [List.getElem?_toArray, List.getElem?_cons_zero] at b0
  have hbW := builder_alloc hb hB
  have hwd := (hG.later hB).wd op (by omega) (by omega)
  rcases hop with rfl | rfl
  all_goals
    simp only [Int.reduceToNat] at hwd
    go_enter Tryz.func189, Tryz.ntmps189
    go_wp2_with (first | (go_at_call 203; refine (WriteString_any B b bs _ _ hbW (by rw [← data_size, ofWord_data]; omega) (by omega)).mono ?_; rintro e w1 ⟨⟨v, rfl⟩, h1, h2, h3⟩))
    refine bodyPost_end (results_none (by kernel_rfl) _ _ _) (by rfl) ?_
    exact ⟨⟨_, rfl⟩, h1, (hB.mono hBw).trans h2, (BK.of_below hB).trans h3⟩

theorem BK.drew {b : Nat} {w w' : World} (h : BK b w w') : BK b w w'.drew := ⟨h.size, h.keep⟩

/-- Where write's walk stands: what is written, and the two variables of the call. -/
structure St (B b : Nat) (w : World) (n : NM) (op nn : Int) (A : Option Addr) (len c : Nat) (bs : List Value) (w1 : World) : Prop where
  lt : b < w.heap.size
  bld : Lib.IsBuilder 232 5 B b bs w1
  bb : Below B w w1
  kk : BK b w w1
  k0 : w1.heap[w.heap.size]? = some (.cells #[.slice n.C.A n.C.l.length n.C.c, .slice n.R.A n.R.l.length n.R.c, .slice n.I.A n.I.l.length n.I.c] 24)
  k1 : w1.heap[w.heap.size + 1]? = some (.cells #[.int .i64 op, .int .i64 nn, .slice A len c] 33)
section
variable {B b : Nat} {w : World} {n : NM} {op nn : Int} {A : Option Addr} {len c : Nat} {bs : List Value} {w1 : World}
theorem St.start (hb : Lib.IsBuilder 232 5 B b bs w) (hBw : B ≤ w.heap.size) (hB : Below w.heap.size w w1) (k0 : w1.heap[w.heap.size]? = some (.cells #[.slice n.C.A n.C.l.length n.C.c, .slice n.R.A n.R.l.length n.R.c, .slice n.I.A n.I.l.length n.I.c] 24))
    (k1 : w1.heap[w.heap.size + 1]? = some (.cells #[.int .i64 op, .int .i64 nn, .slice A len c] 33)) : St B b w n op nn A len c bs w1 :=
  ⟨builder_lt hb, builder_alloc hb hB, hB.mono hBw, BK.of_below hB, k0, k1⟩
theorem St.step (h : St B b w n op nn A len c bs w1) {bs' : List Value} {w2 : World} (hb : Lib.IsBuilder 232 5 B b bs' w2) (hB : Below B w1 w2) (hk : BK b w1 w2) : St B b w n op nn A len c bs' w2 := by
  have := h.lt
  exact ⟨h.lt, hb, h.bb.trans hB, h.kk.trans hk, hk.keep _ _ _ _ h.k0 (by decide) (by omega), hk.keep _ _ _ _ h.k1 (by decide) (by omega)⟩
theorem St.drew (h : St B b w n op nn A len c bs w1) : St B b w n op nn A len c bs w1.drew := h.step (builder_alloc h.bld (Below.refl _ w1).drew) (Below.refl _ w1).drew (BK.refl b w1).drew
theorem St.later (h : St B b w n op nn A len c bs w1) {w2 : World} (hb : Below w1.heap.size w1 w2) (hB : B ≤ w.heap.size) : St B b w n op nn A len c bs w2 := h.step (builder_alloc h.bld hb) (hb.mono (Nat.le_trans hB h.bb.size)) (BK.of_below hb)
theorem St.size (h : St B b w n op nn A len c bs w1) : w.heap.size + 1 < w1.heap.size := (Array.getElem?_eq_some_iff.1 h.k1).1
theorem St.cells (h : St B b w n op nn A len c bs w1) : (w1.cell? ⟨w.heap.size, 0, none⟩ = some (.slice n.C.A n.C.l.length n.C.c) ∧ w1.cell? ⟨w.heap.size, 1, none⟩ = some (.slice n.R.A n.R.l.length n.R.c) ∧ w1.cell? ⟨w.heap.size, 2, none⟩ = some (.slice n.I.A n.I.l.length n.I.c)) ∧
    w1.cell? ⟨w.heap.size + 1, 0, none⟩ = some (.int .i64 op) ∧ w1.cell? ⟨w.heap.size + 1, 1, none⟩ = some (.int .i64 nn) ∧ w1.cell? ⟨w.heap.size + 1, 2, none⟩ = some (.slice A len c) := by
  refine ⟨⟨cell_of_blk h.k0 0, cell_of_blk h.k0 1, cell_of_blk h.k0 2⟩, cell_of_blk h.k1 0, cell_of_blk h.k1 1, cell_of_blk h.k1 2⟩
theorem St.call (h : St B b w n op nn A len c bs w1) (hB3 : 4 ≤ B) (hBw : B ≤ w.heap.size) (hG : G w) (hn : n.In B w) {T : MT} (ih : WriteAt n B b T) (hT : T.In B w) (hlen : bs.length + (T.tr.str n.C.l n.R.l).length ≤ 1000000000) :
    Calls Tryz.prog 189 #[.pointer (some ⟨b, 0, none⟩), .agg #[.slice n.C.A n.C.l.length n.C.c, .slice n.R.A n.R.l.length n.R.c, .slice n.I.A n.I.l.length n.I.c], .agg #[.int .i64 T.op, .int .i64 T.n, .slice T.A T.args.length T.c]] w1 fun e w' => (∃ v, e = .returned v) ∧ St B b w n op nn A len c (bs ++ byteCells (T.tr.str n.C.l n.R.l)) w' := by
  have hz := h.bb.size
  refine (ih bs w1 (hG.keep hB3 h.bb) (hn.below (Nat.le_refl _) h.bb) (hT.below h.bb) h.bld hlen (by omega)).mono ?_
  rintro e w' ⟨he, h1, h2, h3⟩
  exact ⟨he, h.step h1 h2 h3⟩
theorem St.writes (h : St B b w n op nn A len c bs w1) (hBw : B ≤ w.heap.size) (s : ByteArray) (hlen : bs.length + s.data.toList.length ≤ 1000000000) :
    Calls Tryz.prog 203 #[.pointer (some ⟨b, 0, none⟩), .string s] w1 fun e w' => (∃ v, e = .returned v) ∧ St B b w n op nn A len c (bs ++ byteCells s.data.toList) w' := by
  have hz := h.bb.size
  refine (WriteString_any B b bs s w1 h.bld (by rw [← data_size]; exact hlen) (by omega)).mono ?_
  rintro e w' ⟨he, h1, h2, h3⟩
  exact ⟨he, h.step h1 h2 h3⟩
end

set_option maxRecDepth 100000 in
set_option maxHeartbeats 4000000 in
theorem write3 (n : NM) (B b : Nat) (hB3 : 4 ≤ B) (nn : Int) (A : Option Addr) (c : Nat) (T0 : MT) (ih : WriteAt n B b T0) : WriteAt n B b (.mk 3 nn A c [T0]) := by
  intro bs w hG hn hT hb hlen hBw
  have hS : (MT.mk 3 nn A c [T0]).tr.str n.C.l n.R.l = [110, 111, 116, 32] ++ T0.tr.str n.C.l n.R.l := by
    rw [MT.tr_mk, Tr.str, strNode, if_neg (by omega), if_neg (by omega), if_pos rfl]; rfl
  rw [hS] at hlen ⊢
  clear hS
  simp only [List.length_append, List.length_cons, List.length_nil] at hlen
  rw [MT.In] at hT
  obtain ⟨hlc, hc, hr, hrow⟩ := hT
  have hT0 := hrow.at_ 0 Nat.zero_lt_one
  obtain ⟨ab, aoff, rfl, -⟩ := hr.2 (by simp)
  simp only [NM.val, MT.val, MT.op, MT.n, MT.A, MT.args, MT.c]
  obtain ⟨W1, hW1, hB1, hs1, hblk1⟩ := newBlk w _ rfl #[.slice n.C.A n.C.l.length n.C.c, .slice n.R.A n.R.l.length n.R.c, .slice n.I.A n.I.l.length n.I.c] 24
  obtain ⟨W2, hW2, hB2, hs2, hblk2⟩ := newBlk W1 _ hs1 #[.int .i64 3, .int .i64 nn, .slice (some ⟨ab, aoff, none⟩) 1 c] 33
  have hst := St.start hb hBw (hB1.trans (hB2.mono (by omega))) ((hB2.block w.heap.size (by omega)).trans hblk1) hblk2
  obtain ⟨-, b0, -, -⟩ := hst.cells
  clear hblk1 hblk2 hB1 hB2
  go_enter Tryz.func189, Tryz.ntmps189
  go_wp2_with (first | (go_at_call 203; refine (hst.writes hBw _ (by show bs.length + 4 ≤ _; omega)).mono ?_; rintro e w1 ⟨⟨v, rfl⟩, h1⟩; obtain ⟨⟨n0, n1, n2⟩, e0, e1, e2⟩ := h1.cells))
  obtain ⟨ab', aoff', hA', halt, g0, g1, g2⟩ := elem3 (k := 0) hr h1.bb Nat.zero_lt_one
  cases hA'
  replace g0 := add_zero' g0
  simp only [Nat.zero_mul, Nat.add_zero, List.getElem_cons_zero] at g0 g1 g2
  go_still_tail 6, (by kernel_rfl)
  change wpList _ _ _ _ _ w1.drew
  go_wp2_with (go_at_call 189; refine (h1.drew.call hB3 hBw hG hn ih hT0 (by rw [List.length_append, byteCells_length]; show bs.length + 4 + _ ≤ _; omega)).mono ?_; rintro e w2 ⟨⟨v2, rfl⟩, h2⟩)
  refine bodyPost_end (results_none (by kernel_rfl) _ _ _) (by rfl) ?_
  exact ⟨⟨_, rfl⟩, by have := h2.bld; rw [List.append_assoc, ← byteCells_append] at this; exact this, h2.bb, h2.kk⟩

set_option maxRecDepth 100000 in
set_option maxHeartbeats 4000000 in
theorem write45 (n : NM) (B b : Nat) (hB3 : 4 ≤ B) (op nn : Int) (hop : op = 4 ∨ op = 5) (A : Option Addr) (c : Nat) (T0 T1 : MT) (ih0 : WriteAt n B b T0) (ih1 : WriteAt n B b T1) : WriteAt n B b (.mk op nn A c [T0, T1]) := by
  intro bs w hG hn hT hb hlen hBw
  have hS : (MT.mk op nn A c [T0, T1]).tr.str n.C.l n.R.l = [40] ++ T0.tr.str n.C.l n.R.l ++ ([32] ++ wordF op ++ [32]) ++ T1.tr.str n.C.l n.R.l ++ [41] := by
    rw [MT.tr_mk, Tr.str, strNode, if_neg (by omega), if_neg (by omega), if_neg (by omega), if_pos hop]; rfl
  rw [hS] at hlen ⊢
  clear hS
  simp only [List.length_append, List.length_cons, List.length_nil] at hlen
  rw [MT.In] at hT
  obtain ⟨hlc, hc, hr, hrow⟩ := hT
  have hT0 := hrow.at_ 0 (show 0 < 2 by omega)
  have hT1 := hrow.at_ 1 (show 1 < 2 by omega)
  obtain ⟨ab, aoff, rfl, -⟩ := hr.2 (by simp)
  simp only [NM.val, MT.val, MT.op, MT.n, MT.A, MT.args, MT.c]
  obtain ⟨W1, hW1, hB1, hs1, hblk1⟩ := newBlk w _ rfl #[.slice n.C.A n.C.l.length n.C.c, .slice n.R.A n.R.l.length n.R.c, .slice n.I.A n.I.l.length n.I.c] 24
  obtain ⟨W2, hW2, hB2, hs2, hblk2⟩ := newBlk W1 _ hs1 #[.int .i64 op, .int .i64 nn, .slice (some ⟨ab, aoff, none⟩) 2 c] 33
  have hst := St.start hb hBw (hB1.trans (hB2.mono (by omega))) ((hB2.block w.heap.size (by omega)).trans hblk1) hblk2
  obtain ⟨-, b0, -, -⟩ := hst.cells
  clear hblk1 hblk2 hB1 hB2
  have hwd := fun (w' : World) (hb : Below B w w') => (hG.keep hB3 hb).wd op (by omega) (by omega)
  rcases hop with rfl | rfl
  all_goals
    simp only [Int.reduceToNat] at hwd
    go_enter Tryz.func189, Tryz.ntmps189
    go_wp2_with (first | (go_at_call 203; refine (hst.writes hBw _ (by show bs.length + 1 ≤ _; omega)).mono ?_; rintro e w1 ⟨⟨v, rfl⟩, h1⟩; obtain ⟨⟨n0, n1, n2⟩, e0, e1, e2⟩ := h1.cells))
    obtain ⟨ab', aoff', hA', halt, g0, g1, g2⟩ := elem3 (k := 0) hr h1.bb (show 0 < 2 by omega)
    cases hA'
    replace g0 := add_zero' g0
    simp only [Nat.zero_mul, Nat.add_zero, List.getElem_cons_zero] at g0 g1 g2
    go_still_tail 6, (by kernel_rfl)
    change wpList _ _ _ _ _ w1.drew
    go_wp2_with (first | (go_at_call 189; refine (h1.drew.call hB3 hBw hG hn ih0 hT0 (by rw [List.length_append, byteCells_length]; show bs.length + 1 + _ ≤ _; omega)).mono ?_; rintro e w2 ⟨⟨v2, rfl⟩, h2⟩; obtain ⟨⟨n0, n1, n2⟩, e0, e1, e2⟩ := h2.cells; have wd2 := hwd _ h2.bb) | (go_at_call 203; refine (h2.writes hBw _ (by simp only [bytes_app, List.length_append, byteCells_length]; show bs.length + 1 + _ + (1 + _ + 1) ≤ _; omega)).mono ?_; rintro e w3 ⟨⟨v3, rfl⟩, h3⟩; obtain ⟨⟨n0, n1, n2⟩, e0, e1, e2⟩ := h3.cells; obtain ⟨ab', aoff', hA', halt, g0, g1, g2⟩ := elem3 (k := 1) hr h3.bb (show 1 < 2 by omega); cases hA'; simp only [Nat.one_mul, List.getElem_cons_succ, List.getElem_cons_zero] at g0 g1 g2))
    go_still_tail 6, (by kernel_rfl)
    change wpList _ _ _ _ _ w3.drew
    go_wp2_with (first | (go_at_call 189; refine (h3.drew.call hB3 hBw hG hn ih1 hT1 (by simp only [bytes_app, List.length_append, byteCells_length]; show bs.length + 1 + _ + (1 + _ + 1) + _ ≤ _; omega)).mono ?_; rintro e w4 ⟨⟨v4, rfl⟩, h4⟩; obtain ⟨⟨n0, n1, n2⟩, e0, e1, e2⟩ := h4.cells) | (go_at_call 203; refine (h4.writes hBw _ (by simp only [bytes_app, List.length_append, byteCells_length]; show bs.length + 1 + _ + (1 + _ + 1) + _ + 1 ≤ _; omega)).mono ?_; rintro e w5 ⟨⟨v5, rfl⟩, h5⟩))
    refine bodyPost_end (results_none (by kernel_rfl) _ _ _) (by rfl) ?_
    exact ⟨⟨_, rfl⟩, by have := h5.bld; simp only [bytes_app] at this; rw [List.append_assoc, ← byteCells_append, List.append_assoc, ← byteCells_append, List.append_assoc, ← byteCells_append, List.append_assoc, ← byteCells_append] at this; simpa only [List.append_assoc, List.cons_append, List.nil_append] using this, h5.bb, h5.kk⟩

set_option maxRecDepth 100000 in
set_option maxHeartbeats 4000000 in
theorem write67 (n : NM) (B b : Nat) (hB3 : 4 ≤ B) (op nn : Int) (hop : op = 6 ∨ op = 7) (A : Option Addr) (c : Nat) (T0 : MT) (ih0 : WriteAt n B b T0) (h0 : 0 ≤ nn) (h1 : nn < 2 * (n.R.l.length : Int)) (h2 : n.R.l.length ≤ 1000) (h3 : ∀ x ∈ n.R.l, x.size ≤ 1000) : WriteAt n B b (.mk op nn A c [T0]) := by
  intro bs w hG hn hT hb hlen hBw
  have hS : (MT.mk op nn A c [T0]).tr.str n.C.l n.R.l = wordF op ++ [32] ++ roleF n.R.l nn ++ [32] ++ T0.tr.str n.C.l n.R.l := by
    rw [MT.tr_mk, Tr.str, strNode, if_neg (by omega), if_neg (by omega), if_neg (by omega), if_neg (by omega)]; rfl
  rw [hS] at hlen ⊢
  clear hS
  simp only [List.length_append, List.length_cons, List.length_nil] at hlen
  rw [MT.In] at hT
  obtain ⟨hlc, hc, hr, hrow⟩ := hT
  have hT0 := hrow.at_ 0 Nat.zero_lt_one
  obtain ⟨ab, aoff, rfl, -⟩ := hr.2 (by simp)
  have hrole : ∀ (w' : World), Below B w w' → B ≤ w'.heap.size → Calls Tryz.prog 204 #[n.val, .int .i64 nn] w' fun e w'' => (∃ s : ByteArray, e = .returned (.string s) ∧ s.data.toList = roleF n.R.l nn) ∧ Below w'.heap.size w' w'' := fun w' hb hz => crole_any n nn w' (hn.below hz hb) h0 h1 h2 h3
  simp only [NM.val, MT.val, MT.op, MT.n, MT.A, MT.args, MT.c] at hrole ⊢
  obtain ⟨W1, hW1, hB1, hs1, hblk1⟩ := newBlk w _ rfl #[.slice n.C.A n.C.l.length n.C.c, .slice n.R.A n.R.l.length n.R.c, .slice n.I.A n.I.l.length n.I.c] 24
  obtain ⟨W2, hW2, hB2, hs2, hblk2⟩ := newBlk W1 _ hs1 #[.int .i64 op, .int .i64 nn, .slice (some ⟨ab, aoff, none⟩) 1 c] 33
  have hst := St.start hb hBw (hB1.trans (hB2.mono (by omega))) ((hB2.block w.heap.size (by omega)).trans hblk1) hblk2
  obtain ⟨⟨n0, n1, n2⟩, b0, b1, b2⟩ := hst.cells
  have hwd := fun (w' : World) (hb : Below B w w') => (hG.keep hB3 hb).wd op (by omega) (by omega)
  have wd2 := hwd _ hst.bb
  clear hblk1 hblk2 hB1 hB2
  rcases hop with rfl | rfl
  · simp only [Int.reduceToNat] at hwd wd2
    obtain ⟨⟨n0', n1', n2'⟩, b0', b1', b2'⟩ := hst.drew.cells
    have wd2' := hwd _ hst.drew.bb
    go_enter Tryz.func189, Tryz.ntmps189
    go_wp2_with fail
    go_region_held (fun w' => w'.cell? ⟨w.heap.size, 0, none⟩ = some (.slice n.C.A n.C.l.length n.C.c) ∧ w'.cell? ⟨w.heap.size, 1, none⟩ = some (.slice n.R.A n.R.l.length n.R.c) ∧ w'.cell? ⟨w.heap.size, 2, none⟩ = some (.slice n.I.A n.I.l.length n.I.c) ∧ w'.cell? ⟨w.heap.size + 1, 0, none⟩ = some (.int .i64 6) ∧ w'.cell? ⟨w.heap.size + 1, 1, none⟩ = some (.int .i64 nn) ∧ w'.cell? ⟨3, 6, none⟩ = some (.string ⟨(wordF 6).toArray⟩))
      (first | exact ⟨n0', n1', n2', b0', b1', wd2'⟩ | exact ⟨n0, n1, n2, e0, e1, wd3⟩ | exact ⟨n0, n1, n2, e0, e1, wd4⟩)
      (first | (go_at_call 204; refine (hrole _ hst.drew.bb (by have := hst.drew.bb.size; omega)).mono ?_; rintro e w3 ⟨⟨s, rfl, hs⟩, hb3⟩; have h3 := hst.drew.later hb3 hBw; obtain ⟨⟨n0, n1, n2⟩, e0, e1, e2⟩ := h3.cells; have wd3 := hwd _ h3.bb; have hsz : s.size ≤ 1000000000 := (by rw [← data_size, hs]; omega)) | (go_at_call 203; refine (h3.writes hBw _ (by simp only [bytes_app, hs, List.length_append]; show bs.length + (_ + 1 + _ + 1) ≤ _; omega)).mono ?_; rintro e w4 ⟨⟨v4, rfl⟩, h4⟩; obtain ⟨⟨n0, n1, n2⟩, e0, e1, e2⟩ := h4.cells; have wd4 := hwd _ h4.bb; obtain ⟨ab', aoff', hA', halt, g0, g1, g2⟩ := elem3 (k := 0) hr h4.bb Nat.zero_lt_one; cases hA'; replace g0 := add_zero' g0; simp only [Nat.zero_mul, Nat.add_zero, List.getElem_cons_zero] at g0 g1 g2))
    all_goals
      go_wp2_with fail
      go_still_tail 6, (by kernel_rfl)
      change wpList _ _ _ _ _ w4.drew
      go_wp2_with (go_at_call 189; refine (h4.drew.call hB3 hBw hG hn ih0 hT0 (by simp only [bytes_app, hs, List.length_append, byteCells_length]; show bs.length + (_ + 1 + _ + 1) + _ ≤ _; omega)).mono ?_; rintro e w5 ⟨⟨v5, rfl⟩, h5⟩)
      refine bodyPost_end (results_none (by kernel_rfl) _ _ _) (by rfl) ?_
      exact ⟨⟨_, rfl⟩, by have := h5.bld; simp only [bytes_app, hs] at this; rw [List.append_assoc, ← byteCells_append] at this; simpa only [List.append_assoc, List.cons_append, List.nil_append] using this, h5.bb, h5.kk⟩
  · simp only [Int.reduceToNat] at hwd wd2
    obtain ⟨⟨n0', n1', n2'⟩, b0', b1', b2'⟩ := hst.drew.cells
    have wd2' := hwd _ hst.drew.bb
    go_enter Tryz.func189, Tryz.ntmps189
    go_wp2_with fail
    go_region_held (fun w' => w'.cell? ⟨w.heap.size, 0, none⟩ = some (.slice n.C.A n.C.l.length n.C.c) ∧ w'.cell? ⟨w.heap.size, 1, none⟩ = some (.slice n.R.A n.R.l.length n.R.c) ∧ w'.cell? ⟨w.heap.size, 2, none⟩ = some (.slice n.I.A n.I.l.length n.I.c) ∧ w'.cell? ⟨w.heap.size + 1, 0, none⟩ = some (.int .i64 7) ∧ w'.cell? ⟨w.heap.size + 1, 1, none⟩ = some (.int .i64 nn) ∧ w'.cell? ⟨3, 7, none⟩ = some (.string ⟨(wordF 7).toArray⟩))
      (first | exact ⟨n0', n1', n2', b0', b1', wd2'⟩ | exact ⟨n0, n1, n2, e0, e1, wd3⟩ | exact ⟨n0, n1, n2, e0, e1, wd4⟩)
      (first | (go_at_call 204; refine (hrole _ hst.drew.bb (by have := hst.drew.bb.size; omega)).mono ?_; rintro e w3 ⟨⟨s, rfl, hs⟩, hb3⟩; have h3 := hst.drew.later hb3 hBw; obtain ⟨⟨n0, n1, n2⟩, e0, e1, e2⟩ := h3.cells; have wd3 := hwd _ h3.bb; have hsz : s.size ≤ 1000000000 := (by rw [← data_size, hs]; omega)) | (go_at_call 203; refine (h3.writes hBw _ (by simp only [bytes_app, hs, List.length_append]; show bs.length + (_ + 1 + _ + 1) ≤ _; omega)).mono ?_; rintro e w4 ⟨⟨v4, rfl⟩, h4⟩; obtain ⟨⟨n0, n1, n2⟩, e0, e1, e2⟩ := h4.cells; have wd4 := hwd _ h4.bb; obtain ⟨ab', aoff', hA', halt, g0, g1, g2⟩ := elem3 (k := 0) hr h4.bb Nat.zero_lt_one; cases hA'; replace g0 := add_zero' g0; simp only [Nat.zero_mul, Nat.add_zero, List.getElem_cons_zero] at g0 g1 g2))
    all_goals
      go_wp2_with fail
      go_still_tail 6, (by kernel_rfl)
      change wpList _ _ _ _ _ w4.drew
      go_wp2_with (go_at_call 189; refine (h4.drew.call hB3 hBw hG hn ih0 hT0 (by simp only [bytes_app, hs, List.length_append, byteCells_length]; show bs.length + (_ + 1 + _ + 1) + _ ≤ _; omega)).mono ?_; rintro e w5 ⟨⟨v5, rfl⟩, h5⟩)
      refine bodyPost_end (results_none (by kernel_rfl) _ _ _) (by rfl) ?_
      exact ⟨⟨_, rfl⟩, by have := h5.bld; simp only [bytes_app, hs] at this; rw [List.append_assoc, ← byteCells_append] at this; simpa only [List.append_assoc, List.cons_append, List.nil_append] using this, h5.bb, h5.kk⟩
end Go.Proofs.YtndkcimajeofcaaGreatDoor

namespace Go.Proofs.YtndkcimajeofcaaGreatDoor
open Go.RowKit

theorem write_any (n : NM) (B b : Nat) (hB3 : 4 ≤ B) (h2 : n.R.l.length ≤ 1000) (h3 : ∀ x ∈ n.R.l, x.size ≤ 1000) : ∀ T : MT, MT.VT n.C.l.length n.R.l.length T → WriteAt n B b T := by
  intro T
  induction T using MT.induct with
  | h op nn A c args ih =>
    intro hv
    rw [MT.VT] at hv
    obtain ⟨hw, hs⟩ := hv
    simp only [wfB, Bool.and_eq_true, decide_eq_true_eq, beq_iff_eq] at hw
    obtain ⟨h0, h8, hl, hn0, hn1⟩ := hw
    rcases (show op = 0 ∨ (op = 1 ∨ op = 2) ∨ op = 3 ∨ (op = 4 ∨ op = 5) ∨ (op = 6 ∨ op = 7) by omega) with rfl | h | rfl | h | h
    · exact write0 n B b nn A c args hn0 (by simpa [choicesF] using hn1)
    · exact write12 n B b op nn h A c args
    · rw [arityF, if_pos (by omega)] at hl
      obtain ⟨T0, rfl⟩ := List.length_eq_one_iff.1 (show args.length = 1 by omega)
      exact write3 n B b hB3 nn A c T0 (ih 0 Nat.zero_lt_one (hs.at_ 0 Nat.zero_lt_one))
    · rw [arityF, if_neg (by omega), if_pos (by omega)] at hl
      obtain ⟨T0, T1, rfl⟩ : ∃ T0 T1, args = [T0, T1] := by
        match args, hl with
        | [a, b], _ => exact ⟨a, b, rfl⟩
      exact write45 n B b hB3 op nn h A c T0 T1 (ih 0 (show 0 < 2 by omega) (hs.at_ 0 (show 0 < 2 by omega))) (ih 1 (show 1 < 2 by omega) (hs.at_ 1 (show 1 < 2 by omega)))
    · rw [arityF, if_pos (by omega)] at hl
      obtain ⟨T0, rfl⟩ := List.length_eq_one_iff.1 (show args.length = 1 by omega)
      rw [choicesF, if_neg (by omega), if_pos (by omega)] at hn1
      exact write67 n B b hB3 op nn h A c T0 (ih 0 Nat.zero_lt_one (hs.at_ 0 Nat.zero_lt_one)) hn0 hn1 h2 h3

theorem okL_mem : ∀ (seen l : List ByteArray), okL seen l = true → ∀ x ∈ l, nameB x = true
  | seen, x :: r, h, y, hy => by
    rw [okL, Bool.and_eq_true, Bool.and_eq_true] at h
    rcases List.mem_cons.1 hy with rfl | hy
    · exact h.1.1
    · exact okL_mem _ r h.2 y hy
theorem ok_names {n : NM} (h : n.ok = true) : (∀ x ∈ n.C.l, x.size ≤ 12) ∧ (∀ x ∈ n.R.l, x.size ≤ 12) ∧ (∀ x ∈ n.I.l, x.size ≤ 12) := by
  simp only [NM.ok, namesB, Bool.and_eq_true, decide_eq_true_eq] at h
  have hm := okL_mem _ _ h.2.2.2
  have hs : ∀ x, nameB x = true → x.size ≤ 12 := fun x hx => by
    simp only [nameB, Bool.and_eq_true, decide_eq_true_eq] at hx
    exact hx.1.1
  exact ⟨fun x hx => hs x (hm x (by simp [hx])), fun x hx => hs x (hm x (by simp [hx])), fun x hx => hs x (hm x (by simp [hx]))⟩

theorem nameAt_len {l : List ByteArray} {m : Nat} (h : ∀ x ∈ l, x.size ≤ m) (k : Nat) : (nameAt l k).length ≤ m := by
  rw [nameAt, data_size, List.getD_eq_getElem?_getD]
  rcases Nat.lt_or_ge k l.length with hk | hk
  · rw [List.getElem?_eq_getElem hk]; exact h _ (List.getElem_mem _)
  · rw [List.getElem?_eq_none hk]; exact Nat.zero_le _
theorem wordF_len (op : Int) : (wordF op).length ≤ 4 := by
  unfold wordF
  repeat' split
  all_goals simp
theorem str_length {C R : List ByteArray} {m : Nat} (hC : ∀ x ∈ C, x.size ≤ m) (hR : ∀ x ∈ R, x.size ≤ m) (t : Tr) : (t.str C R).length ≤ (m + 10) * t.size :=
  Tr.rec (motive_1 := fun t => (t.str C R).length ≤ (m + 10) * t.size) (motive_2 := fun l => ((Tr.strs C R l).getD 0 []).length + ((Tr.strs C R l).getD 1 []).length ≤ (m + 10) * Tr.sizes l ∧ ((Tr.strs C R l).getD 0 []).length ≤ (m + 10) * Tr.sizes l)
    (fun op n args ih => by
      rw [Tr.str, Tr.size, Nat.mul_add, Nat.mul_one, strNode]
      have h1 := nameAt_len hC n.toNat
      have h2 := nameAt_len hR (n / 2).toNat
      have h3 := wordF_len op
      have h4 : (roleF R n).length ≤ m + 1 := by
        rw [roleF, List.length_append]
        split <;> simp only [List.length_cons, List.length_nil] <;> omega
      obtain ⟨i1, i2⟩ := ih
      repeat' split
      all_goals (try simp only [List.length_append, List.length_cons, List.length_nil]); omega)
    (by simp [Tr.strs])
    (fun t ts h1 h2 => by
      rw [Tr.strs, Tr.sizes, Nat.mul_add]
      simp only [List.getD_cons_zero, List.getD_cons_succ]
      omega) t

theorem builder_new {w : World} {B b : Nat} (hB : B ≤ b) (hk : w.heap[b]? = some (.cells #[.pointer none, .slice none 0 0] 232)) : Lib.IsBuilder 232 5 B b [] w :=
  .inl ⟨hB, .slice none 0 0, hk, ⟨rfl, .inl ⟨rfl, rfl⟩⟩, by simp [Value.ownBlock]⟩

end Go.Proofs.YtndkcimajeofcaaGreatDoor

namespace Go.Proofs.YtndkcimajeofcaaGreatDoor
open Go.RowKit

mutual
/-- Two trees are one. -/
def Tr.beq : Tr → Tr → Bool
  | .mk op n args, .mk op' n' args' => op == op' && n == n' && (decide (args.length = args'.length) && Tr.beqs args args')
def Tr.beqs : List Tr → List Tr → Bool
  | t :: ts, u :: us => Tr.beq t u && Tr.beqs ts us
  | [], _ => true
  | _ :: _, [] => true
end
theorem beqs_take : ∀ (l m : List Tr) (k : Nat) (hk : k < l.length) (hk' : k < m.length), Tr.beqs (l.take k) (m.take k) = true → Tr.beqs (l.take (k + 1)) (m.take (k + 1)) = l[k].beq m[k] ∧ (l[k].beq m[k] = false → Tr.beqs l m = false)
  | a :: l, b :: m, 0, _, _, _ => by
    refine ⟨by simp [Tr.beqs], fun h => ?_⟩
    simp only [List.getElem_cons_zero] at h
    rw [Tr.beqs, h, Bool.false_and]
  | a :: l, b :: m, k + 1, hk, hk', h => by
    simp only [List.take_succ_cons, Tr.beqs, Bool.and_eq_true] at h ⊢
    obtain ⟨i1, i2⟩ := beqs_take l m k (by simpa using hk) (by simpa using hk') h.2
    simp only [List.getElem_cons_succ]
    exact ⟨by rw [i1, h.1, Bool.true_and], fun hf => by rw [i2 hf, Bool.and_false]⟩
theorem beq_self (t : Tr) : t.beq t = true :=
  Tr.rec (motive_1 := fun t => t.beq t = true) (motive_2 := fun l => Tr.beqs l l = true)
    (fun op n args ih => by rw [Tr.beq, ih]; simp) (by rw [Tr.beqs]) (fun t ts h1 h2 => by rw [Tr.beqs, h1, h2]; rfl) t

set_option maxRecDepth 100000 in
set_option maxHeartbeats 2000000 in
theorem rSame_any (T : MT) : ∀ (U : MT) (w : World), MT.In w.heap.size w T → MT.In w.heap.size w U →
    Calls Tryz.prog 29 #[T.val, U.val] w fun e w' => e = .returned (.bool (T.tr.beq U.tr)) ∧ Below w.heap.size w w' := by
  induction T using MT.induct with
  | h op nn A c args ih =>
    intro U w hin hU
    obtain ⟨op', nn', A', c', args'⟩ := U
    have hU0 := hU
    rw [MT.In] at hin hU
    obtain ⟨hlc, hc, hr, hrow⟩ := hin
    obtain ⟨hlc', hc', hr', hrow'⟩ := hU
    have hsz : args.length ≤ 9223372036854775807 := by omega
    have hsz' : args'.length ≤ 9223372036854775807 := by omega
    obtain ⟨W1, hW1, hB1, hs1, hblk1⟩ := newBlk w _ rfl #[.int .i64 op, .int .i64 nn, .slice A args.length c] 33
    obtain ⟨W2, hW2, hB2, hs2, hblk2⟩ := newBlk W1 _ hs1 #[.int .i64 op', .int .i64 nn', .slice A' args'.length c'] 33
    have hB : Below w.heap.size w W2 := hB1.trans (hB2.mono (by omega))
    have hblk12 := (hB2.block w.heap.size (by omega)).trans hblk1
    obtain ⟨a0, a1, a2⟩ := box_cells hblk12 (Below.refl _ W2)
    obtain ⟨b0, b1, b2⟩ := box_cells hblk2 (Below.refl _ W2)
    have HF := Lib.hid (show (MT.mk op nn A c args).tr.beq (MT.mk op' nn' A' c' args').tr = (op == op' && nn == nn' && (decide (args.length = args'.length) && Tr.beqs (args.map MT.tr) (args'.map MT.tr))) by rw [MT.tr_mk, MT.tr_mk, Tr.beq, List.length_map, List.length_map])
    have HBB := Lib.hid hB
    simp only [MT.val, MT.op, MT.n, MT.A, MT.c, MT.args]
    rcases h1 : (op == op')
    · have h1' : (op != op') = true := by rw [bne, h1]; rfl
      rw [h1] at HF
      go_enter Tryz.func29, Tryz.ntmps29
      go_wp2_with fail
      go_ret
      exact ⟨ret_bool (by rw [HF.out]; rfl), HBB.out⟩
    · have h1' : (op != op') = false := by rw [bne, h1]; rfl
      rw [h1] at HF
      rcases h2 : (nn == nn')
      · have h2' : (nn != nn') = true := by rw [bne, h2]; rfl
        rw [h2] at HF
        go_enter Tryz.func29, Tryz.ntmps29
        go_wp2_with fail
        go_ret
        exact ⟨ret_bool (by rw [HF.out]; rfl), HBB.out⟩
      · have h2' : (nn != nn') = false := by rw [bne, h2]; rfl
        rw [h2] at HF
        by_cases h3 : args.length = args'.length
        · have h3' : ((args.length : Int) != (args'.length : Int)) = false := by rw [h3]; simp
          rw [decide_eq_true h3] at HF
          simp only [Bool.true_and] at HF
          have HL := Lib.hid h3
          clear h3
          go_enter Tryz.func29, Tryz.ntmps29
          go_wp2_with fail
          go_loopw [30] (fun i wr => ∃ k : Nat, k ≤ args.length ∧ i = .int .i64 k ∧ Tr.beqs ((args.map MT.tr).take k) ((args'.map MT.tr).take k) = true ∧ Below W2.heap.size W2 wr) (fun i _ => args.length - (intOf i).toNat)
          case atStart => exact ⟨0, Nat.zero_le _, rfl, rfl, Below.refl _ W2⟩
          case round =>
            obtain ⟨k, hk, rfl, hbe, hbw⟩ := hrel
            have hb0 : Below w.heap.size w wr := HBB.out.trans (hbw.mono HBB.out.size)
            obtain ⟨m0, m1, m2⟩ := box_cells hblk12 hbw
            obtain ⟨q0, q1, q2⟩ := box_cells hblk2 hbw
            by_cases hlt : k < args.length
            · have hlt' : k < args'.length := by have := HL.out; omega
              obtain ⟨ab, aoff, rfl, -, g0, g1, g2⟩ := elem3 hr hb0 hlt
              obtain ⟨ab', aoff', rfl, -, g0', g1', g2'⟩ := elem3 hr' hb0 hlt'
              have hih := ih k hlt args'[k] wr.drew ((hrow.at_ k hlt).later hb0.drew) ((hrow'.at_ k hlt').later hb0.drew)
              have HT := beqs_take (args.map MT.tr) (args'.map MT.tr) k (by simpa using hlt) (by simpa using hlt') hbe
              simp only [List.getElem_map] at HT
              simp only [MT.val] at hih
              cases hwk : args[k].tr.beq args'[k].tr
              · have HN := Lib.hid (HT.2 hwk)
                rw [hwk] at hih
                clear HT hwk ih hrow hrow' hbe
                go_wp2_with fail
                go_still_tail 10, (by kernel_rfl)
                change wpList _ _ _ _ _ wr.drew
                go_wp2_with (go_at_call 29; refine hih.mono ?_; clear hih; rintro e w' ⟨rfl, hb2⟩)
                go_ret
                exact ⟨ret_bool (by rw [HF.out, HN.out]), hb0.drew.trans (hb2.mono hb0.drew.size)⟩
              · have HN := Lib.hid (HT.1.trans hwk)
                rw [hwk] at hih
                clear HT hwk ih hrow hrow' hbe
                go_wp2_with fail
                go_still_tail 10, (by kernel_rfl)
                change wpList _ _ _ _ _ wr.drew
                go_wp2_with (go_at_call 29; refine hih.mono ?_; clear hih; rintro e w' ⟨rfl, hb2⟩)
                go_roundw
                case rel => exact ⟨k + 1, by omega, by go_num, HN.out, hbw.drew.trans (hb2.mono hbw.drew.size)⟩
                case measure => simp [intOf]; omega
            · have hk' : k = args.length := by omega
              have HN := Lib.hid (show Tr.beqs (args.map MT.tr) (args'.map MT.tr) = true by
                have h := hbe
                rw [List.take_of_length_le (by simp; omega), List.take_of_length_le (by have := HL.out; simp; omega)] at h
                exact h)
              clear hbe hk' ih hrow hrow'
              go_wp2
              go_ret
              exact ⟨ret_bool (by rw [HF.out, HN.out]), hb0⟩
        · have h3' : ((args.length : Int) != (args'.length : Int)) = true := by
            rw [bne_iff_ne]; omega
          rw [decide_eq_false h3] at HF
          go_enter Tryz.func29, Tryz.ntmps29
          go_wp2_with fail
          go_ret
          exact ⟨ret_bool (by rw [HF.out]; simp), HBB.out⟩
end Go.Proofs.YtndkcimajeofcaaGreatDoor

namespace Go.Proofs.YtndkcimajeofcaaGreatDoor
open Go.RowKit

theorem sizes_len : ∀ (args : List MT), args.length ≤ Tr.sizes (args.map MT.tr)
  | [] => Nat.zero_le _
  | t :: ts => by
    have := sizes_len ts
    have h1 : 1 ≤ t.tr.size := by obtain ⟨op, n, A, c, args⟩ := t; rw [MT.tr_mk, Tr.size]; omega
    rw [List.map_cons, Tr.sizes, List.length_cons]; omega

set_option maxRecDepth 100000 in
set_option maxHeartbeats 4000000 in
theorem rCopy_any (T : MT) : ∀ (w : World), T.In w.heap.size w → T.tr.size ≤ 1000000 →
    Calls Tryz.prog 43 #[T.val] w (RetTree w T.tr) := by
  induction T using MT.induct with
  | h op nn A c args ih =>
    intro w hin hsize
    rw [MT.In] at hin
    obtain ⟨hlc, hc, hr, hrow⟩ := hin
    rw [MT.tr_mk, Tr.size] at hsize
    have hlen : args.length ≤ 1000000 := by
      have := sizes_len args; omega
    obtain ⟨W1, hW1, hB1, hs1, hblk1⟩ := newBlk w _ rfl #[.int .i64 op, .int .i64 nn, .slice A args.length c] 33
    obtain ⟨W2, hW2, hB2, hs2, hblk2⟩ := newBlk W1 _ hs1 #[.int .i64 0, .int .i64 0, .slice none 0 0] 33
    have hB : Below w.heap.size w W2 := hB1.trans (hB2.mono (by omega))
    have hblk12 := (hB2.block w.heap.size (by omega)).trans hblk1
    have a0 := cell_of_blk hblk12 0
    have a1 := cell_of_blk hblk12 1
    have a2 := cell_of_blk hblk12 2
    simp only [List.getElem?_toArray, List.getElem?_cons_zero, List.getElem?_cons_succ] at a0 a1 a2
    simp only [MT.val, MT.op, MT.n, MT.A, MT.args, MT.c]
    have HF := Lib.hid (MT.tr_mk op nn A c args)
    have HB := Lib.hid hB
    have hargs : args.length ≤ 9223372036854775807 := by omega
    have HSA := Lib.hid (size_arg args)
    have HSZ := Lib.hid hsize
    clear hB hblk1 hB1 hB2 hsize
    go_enter Tryz.func43, Tryz.ntmps43
    go_wp2_with fail
    obtain ⟨W3, hW3, hB3, hs3, hblk3⟩ := newBlk W2 _ hs2 #[.int .i64 op, .int .i64 nn, .slice none 0 0] 33
    have hblk23 := (hB3.block (w.heap.size + 1) (by omega)).trans hblk2
    have HB3 := Lib.hid (HB.out.trans (hB3.mono (by omega)))
    obtain ⟨D, hD⟩ : ∃ D, w.heap.size + 1 + 1 = D := ⟨_, rfl⟩
    rw [hW3]
    simp only [hD] at hs3 hblk3 ⊢
    have hs3' : D + 1 ≤ W3.heap.size := by omega
    have HD := Lib.hid hD
    have HS3 := Lib.hid hs3
    clear hW1 hW2 hW3 hs1 hs2 hs3 hblk12 hblk2 a0 a1 a2 hB3 hD
    go_loopw [14] (fun i wr => ∃ (k : Nat) (v : Value) (Ts : List MT), k ≤ args.length ∧ i = .int .i64 k ∧ Ts.length = k ∧ Ts.map MT.tr = (args.take k).map MT.tr ∧ wr.heap[D]? = some (.cells #[.int .i64 op, .int .i64 nn, v] 33) ∧ wr.heap[w.heap.size + 1]? = some (.cells #[.int .i64 0, .int .i64 0, .slice none 0 0] 33) ∧ Coll (D + 1) (D + 1) wr v Ts ∧ Below w.heap.size w wr ∧ W3.heap.size ≤ wr.heap.size) (fun i _ => args.length - (intOf i).toNat)
    case atStart => exact ⟨0, _, [], Nat.zero_le _, rfl, rfl, rfl, hblk3, hblk23, Coll.nil _ _ _, HB3.out, Nat.le_refl _⟩
    case round =>
      obtain ⟨k, v, Ts, hk, rfl, hTl, hTm, hbD, hbR, hco, hbw, hsw⟩ := hrel
      by_cases hlt : k < args.length
      · obtain ⟨ab, aoff, rfl, -, g0, g1, g2⟩ := elem3 hr hbw hlt
        obtain ⟨W5, hW5, hB5, hs5, hblk5⟩ := newBlk wr _ rfl #[.int .i64 args[k].op, .int .i64 args[k].n, .slice args[k].A args[k].args.length args[k].c] 33
        have hB05 : Below w.heap.size w W5 := hbw.trans (hB5.mono hbw.size)
        have hih := ih k hlt W5.drew ((hrow.at_ k hlt).later hB05.drew) (by have := HSA.out k hlt; have := HSZ.out; omega)
        simp only [MT.val] at hih
        have hDlt : D < wr.heap.size := (Array.getElem?_eq_some_iff.1 hbD).1
        have hbD5 := (hB5.block D hDlt).trans hbD
        have e0 := cell_of_blk hblk5 0
        have e1 := cell_of_blk hblk5 1
        have e2 := cell_of_blk hblk5 2
        have d2 := cell_of_blk hbD5 2
        simp only [List.getElem?_toArray, List.getElem?_cons_zero, List.getElem?_cons_succ] at e0 e1 e2 d2
        have HTm := Lib.hid hTm
        have HTl := Lib.hid hTl
        have HCo := Lib.hid hco
        have HBw := Lib.hid hbw
        have HBD := Lib.hid hbD
        have HBR := Lib.hid hbR
        clear hTm hTl hco hbw hbD hbR
        obtain ⟨i0, hi, hz0, hz1, hz2⟩ := info_parts con_info
        go_wp2_with fail
        have nD : D < W5.heap.size := by omega
        go_region_law (first
            | (refine step_append_lies _ (by rfl) _ _ _ (by rfl) (D + 1) 33 i0 _ 3 40 Tryz.underlying31 hi hz0 hz1 hz2 rfl (by omega) v Ts.length (Ts.flatMap MT.cs) (by rfl) hco2.own ⟨w'.heap.size, 0, none⟩ 1 1 T'.cs (by rfl) (by rfl) (World.news_of_block (cs := #[.int .i64 T'.op, .int .i64 T'.n, .slice T'.A T'.args.length T'.c]) (t := 33) (fr := (0, 0)) (heap_alloc_new w' _)) (by simp [MT.cs, Value.oneCell']) (by omega) (by rw [HTl.out]; unfold maxLen; omega) (by rw [HTl.out]; omega) (by simp; omega) (w'.heap.size + 1) (by simp) ?_; intro g cap w6 hown6 hg6 hat6 hlt6; have hbD6 := (hg6.block D (by simp; omega) (fun e => by have := (own_lt HCo.out.own e.symm).1; omega)).trans ((Below.heap_alloc w' _ D (by omega)).trans hbDw); have m2 := cell_of_blk hbD6 2; have m3 := frozen_of_blk hbD6 2; simp only [List.getElem?_toArray, List.getElem?_cons_zero, List.getElem?_cons_succ] at m2)
            | (go_simp; go_at_call 43; refine hih.mono ?_; rintro e w' ⟨T', rfl, htr, hnew, hbl⟩; have hbDw := (hbl.block D (show D < W5.heap.size by omega)).trans hbD5; have q2 := cell_of_blk hbDw 2; simp only [List.getElem?_toArray, List.getElem?_cons_zero, List.getElem?_cons_succ] at q2; have hco' := HCo.out.later (hB5.drew.trans (hbl.mono (show wr.heap.size ≤ W5.heap.size by omega))); have hco2 := hco'.later ((Below.refl _ w').alloc (Nat.le_refl _) (.cells #[.int .i64 T'.op, .int .i64 T'.n, .slice T'.A T'.args.length T'.c] 33)); have HTR := Lib.hid htr; clear htr; have hDw : D + 1 ≤ w'.heap.size := (by have := hbl.size; have h5 : W5.drew.heap.size = W5.heap.size := rfl; omega); have hDw' : D < w'.heap.size := hDw))
        all_goals
          go_wp2
          obtain ⟨z1, z2, z3⟩ := coll_step HCo.out hB5 ((Below.refl _ W5).drew.trans hbl) hnew hown6 hg6 hat6 HBD.out
          go_roundw
          case rel => exact ⟨k + 1, _, Ts ++ [T'], by omega, by go_num, by rw [List.length_append, HTl.out]; rfl, by rw [List.map_append, HTm.out, List.take_succ_eq_append_getElem hlt, List.map_append, List.map_singleton, HTR.out]; rfl, z1, (z3.block _ (by have := HD.out; omega)).trans HBR.out, z2, HBw.out.trans (z3.mono (by have := HD.out; omega)), Nat.le_trans hsw z3.size⟩
          case measure => simp [intOf]; omega
      · have d0 := cell_of_blk hbD 0
        have d1 := cell_of_blk hbD 1
        have d2 := cell_of_blk hbD 2
        have r0 := cell_of_blk hbR 0
        have r1 := cell_of_blk hbR 1
        have r2 := cell_of_blk hbR 2
        have f0 := frozen_of_blk hbR 0
        have f1 := frozen_of_blk hbR 1
        have f2 := frozen_of_blk hbR 2
        simp only [List.getElem?_toArray, List.getElem?_cons_zero, List.getElem?_cons_succ] at d0 d1 d2 r0 r1 r2
        obtain ⟨vA, vc, hve, hvn⟩ := in_of_row (lo := D + 1) (op := op) (n := nn) hco.own (Nat.le_refl _) (fun t ht => (hco.trees t ht).1)
        subst hve
        have HTm := Lib.hid hTm
        have HBw := Lib.hid hbw
        clear hTm hTl hbw
        go_wp2
        obtain ⟨s1, s2⟩ := store3 hbR (.int .i64 op) (.int .i64 nn) (.slice vA Ts.length vc)
        generalize ((wr.setCell ⟨w.heap.size + 1, 0, none⟩ (.int .i64 op)).setCell ⟨w.heap.size + 1, 1, none⟩ (.int .i64 nn)).setCell ⟨w.heap.size + 1, 2, none⟩ (.slice vA Ts.length vc) = w5 at s1 s2 ⊢
        have t0 := cell_of_blk s1 0
        have t1 := cell_of_blk s1 1
        have t2 := cell_of_blk s1 2
        simp only [List.getElem?_toArray, List.getElem?_cons_zero, List.getElem?_cons_succ] at t0 t1 t2
        refine bodyPost_ret (v := .agg #[.int .i64 op, .int .i64 nn, .slice vA Ts.length vc]) (by simp [results, Tryz.f43, go_sem, t0, t1, t2]) rfl ⟨.mk op nn vA vc Ts, rfl, ?_, ?_, ?_⟩
        · rw [HF.out, MT.tr_mk, HTm.out, List.take_of_length_le (by omega)]
        · exact ((hvn.grown s2 (MT.All.imp (fun b hb e => by have : b = w.heap.size + 1 := Option.some.inj e; have := hb.1; have := HD.out; omega) _ hvn.2))).lo (by have := HD.out; omega)
        · exact HBw.out.trans (below_grown s2 (by omega) HBw.out.size)

end Go.Proofs.YtndkcimajeofcaaGreatDoor
