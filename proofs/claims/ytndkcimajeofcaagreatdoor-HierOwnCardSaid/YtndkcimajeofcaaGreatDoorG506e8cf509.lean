import Derived.Test.YtndkcimajeofcaaGreatDoorG3a662f577c
import Derived.Test.YtndkcimajeofcaaGreatDoorG3b2f17e259
import Derived.Test.YtndkcimajeofcaaGreatDoorGbb4f0f07ee
import Derived.Test.YtndkcimajeofcaaGreatDoorG356b54bfa4
import Derived.Test.YtndkcimajeofcaaGreatDoorG86a4224892
import Derived.Test.YtndkcimajeofcaaGreatDoorGacbfd17f93
import Derived.Deep.AppendLies
namespace Go.Proofs.YtndkcimajeofcaaGreatDoor
open Go.RowKit

theorem flat_at {α : Type} {f : α → List Value} {sz : Nat} (hl : ∀ a, (f a).length = sz) : ∀ (l : List α) (k r : Nat) (hk : k < l.length), r < sz → (l.flatMap f)[k * sz + r]? = (f l[k])[r]?
  | x :: l, 0, r, _, hr => by rw [List.flatMap_cons, List.getElem?_append_left (by rw [hl]; omega)]; simp
  | x :: l, k + 1, r, hk, hr => by
    rw [List.flatMap_cons, List.getElem?_append_right (by rw [hl, Nat.succ_mul]; omega), hl, show (k + 1) * sz + r - sz = k * sz + r by rw [Nat.succ_mul]; omega]
    exact flat_at hl l k r (by simpa using hk) hr
/-- An element's cells, as the walk spells their addresses. -/
theorem RowAt.elem {α : Type} {f : α → List Value} {sz B : Nat} {w : World} {A : Option Addr} {l : List α} (hl : ∀ a, (f a).length = sz) (h : RowAt w B sz A l.length (l.flatMap f)) {k : Nat} (hk : k < l.length) :
    ∃ b off, A = some ⟨b, off, none⟩ ∧ b < B ∧ ∀ r, r < sz → w.cell? ⟨b, off + k * sz + r, none⟩ = (f l[k])[r]? := by
  obtain ⟨b, off, hA, hb, hc⟩ := h.2 (by omega)
  refine ⟨b, off, hA, hb, fun r hr => ?_⟩
  have hm : k * sz + r < l.length * sz := Nat.lt_of_lt_of_le (show k * sz + r < (k + 1) * sz by rw [Nat.succ_mul]; omega) (Nat.mul_le_mul_right _ hk)
  rw [Nat.add_assoc, hc _ hm, flat_at hl l k r hk hr]

/-- A []Link. -/
structure TL where
  A : Option Addr
  c : Nat
  l : List (Int × Int × Int)
def tcells (t : Int × Int × Int) : List Value := [.int .i64 t.1, .int .i64 t.2.1, .int .i64 t.2.2]
/-- The cells of an inclusion, of a fact. -/
def ucells (p : MT × MT) : List Value := [.int .i64 p.1.op, .int .i64 p.1.n, .slice p.1.A p.1.args.length p.1.c, .int .i64 p.2.op, .int .i64 p.2.n, .slice p.2.A p.2.args.length p.2.c]
def fcells (p : Int × MT) : List Value := [.int .i64 p.1, .int .i64 p.2.op, .int .i64 p.2.n, .slice p.2.A p.2.args.length p.2.c]
/-- api.Base, as it lies. -/
structure BN where
  N : NM
  IA : Option Addr
  ic : Nat
  I : List (MT × MT)
  R : PL
  FA : Option Addr
  fc : Nat
  F : List (Int × MT)
  L : TL
def BN.val (b : BN) : Value := .agg #[.slice b.N.C.A b.N.C.l.length b.N.C.c, .slice b.N.R.A b.N.R.l.length b.N.R.c, .slice b.N.I.A b.N.I.l.length b.N.I.c, .slice b.IA b.I.length b.ic, .slice b.R.A b.R.l.length b.R.c, .slice b.FA b.F.length b.fc, .slice b.L.A b.L.l.length b.L.c]
def BN.cells (b : BN) : Array Value := #[.slice b.N.C.A b.N.C.l.length b.N.C.c, .slice b.N.R.A b.N.R.l.length b.N.R.c, .slice b.N.I.A b.N.I.l.length b.N.I.c, .slice b.IA b.I.length b.ic, .slice b.R.A b.R.l.length b.R.c, .slice b.FA b.F.length b.fc, .slice b.L.A b.L.l.length b.L.c]
structure BN.In (B : Nat) (w : World) (b : BN) : Prop where
  n : b.N.In B w
  i1 : b.I.length ≤ b.ic
  i2 : b.ic ≤ 9223372036854775807
  i3 : RowAt w B 6 b.IA b.I.length (b.I.flatMap ucells)
  i4 : ∀ p ∈ b.I, p.1.In B w ∧ p.2.In B w
  r : b.R.In B w
  f1 : b.F.length ≤ b.fc
  f2 : b.fc ≤ 9223372036854775807
  f3 : RowAt w B 4 b.FA b.F.length (b.F.flatMap fcells)
  f4 : ∀ p ∈ b.F, p.2.In B w
  l1 : b.L.l.length ≤ b.L.c
  l2 : b.L.c ≤ 9223372036854775807
  l3 : RowAt w B 3 b.L.A b.L.l.length (b.L.l.flatMap tcells)
theorem BN.In.later {w w' : World} {b : BN} (h : b.In w.heap.size w) (hb : Below w.heap.size w w') : b.In w'.heap.size w' where
  n := h.n.later hb
  i1 := h.i1
  i2 := h.i2
  i3 := h.i3.below hb.size hb
  i4 := fun p hp => ⟨(h.i4 p hp).1.later hb, (h.i4 p hp).2.later hb⟩
  r := h.r.below hb.size hb
  f1 := h.f1
  f2 := h.f2
  f3 := h.f3.below hb.size hb
  f4 := fun p hp => (h.f4 p hp).later hb
  l1 := h.l1
  l2 := h.l2
  l3 := h.l3.below hb.size hb
theorem ucells_len (p : MT × MT) : (ucells p).length = 6 := rfl
theorem fcells_len (p : Int × MT) : (fcells p).length = 4 := rfl
theorem tcells_len (p : Int × Int × Int) : (tcells p).length = 3 := rfl
theorem pcells_len (p : Int × Int) : (pcells p).length = 2 := rfl
theorem BN.In.incl {B : Nat} {w : World} {b : BN} (h : b.In B w) {k : Nat} (hk : k < b.I.length) : ∃ g off, b.IA = some ⟨g, off, none⟩ ∧ g < B ∧ w.cell? ⟨g, off + k * 6, none⟩ = some (.int .i64 b.I[k].1.op) ∧ w.cell? ⟨g, off + k * 6 + 1, none⟩ = some (.int .i64 b.I[k].1.n) ∧ w.cell? ⟨g, off + k * 6 + 2, none⟩ = some (.slice b.I[k].1.A b.I[k].1.args.length b.I[k].1.c) ∧ w.cell? ⟨g, off + k * 6 + 3, none⟩ = some (.int .i64 b.I[k].2.op) ∧ w.cell? ⟨g, off + k * 6 + 4, none⟩ = some (.int .i64 b.I[k].2.n) ∧ w.cell? ⟨g, off + k * 6 + 5, none⟩ = some (.slice b.I[k].2.A b.I[k].2.args.length b.I[k].2.c) := by
  obtain ⟨g, off, hA, hg, hc⟩ := RowAt.elem ucells_len h.i3 hk
  exact ⟨g, off, hA, hg, hc 0 (by omega), hc 1 (by omega), hc 2 (by omega), hc 3 (by omega), hc 4 (by omega), hc 5 (by omega)⟩
theorem BN.In.fact {B : Nat} {w : World} {b : BN} (h : b.In B w) {k : Nat} (hk : k < b.F.length) : ∃ g off, b.FA = some ⟨g, off, none⟩ ∧ g < B ∧ w.cell? ⟨g, off + k * 4, none⟩ = some (.int .i64 b.F[k].1) ∧ w.cell? ⟨g, off + k * 4 + 1, none⟩ = some (.int .i64 b.F[k].2.op) ∧ w.cell? ⟨g, off + k * 4 + 2, none⟩ = some (.int .i64 b.F[k].2.n) ∧ w.cell? ⟨g, off + k * 4 + 3, none⟩ = some (.slice b.F[k].2.A b.F[k].2.args.length b.F[k].2.c) := by
  obtain ⟨g, off, hA, hg, hc⟩ := RowAt.elem fcells_len h.f3 hk
  exact ⟨g, off, hA, hg, hc 0 (by omega), hc 1 (by omega), hc 2 (by omega), hc 3 (by omega)⟩
theorem BN.In.link {B : Nat} {w : World} {b : BN} (h : b.In B w) {k : Nat} (hk : k < b.L.l.length) : ∃ g off, b.L.A = some ⟨g, off, none⟩ ∧ g < B ∧ w.cell? ⟨g, off + k * 3, none⟩ = some (.int .i64 b.L.l[k].1) ∧ w.cell? ⟨g, off + k * 3 + 1, none⟩ = some (.int .i64 b.L.l[k].2.1) ∧ w.cell? ⟨g, off + k * 3 + 2, none⟩ = some (.int .i64 b.L.l[k].2.2) := by
  obtain ⟨g, off, hA, hg, hc⟩ := RowAt.elem tcells_len h.l3 hk
  exact ⟨g, off, hA, hg, hc 0 (by omega), hc 1 (by omega), hc 2 (by omega)⟩
theorem BN.In.role {B : Nat} {w : World} {b : BN} (h : b.In B w) {k : Nat} (hk : k < b.R.l.length) : ∃ g off, b.R.A = some ⟨g, off, none⟩ ∧ g < B ∧ w.cell? ⟨g, off + k * 2, none⟩ = some (.int .i64 b.R.l[k].1) ∧ w.cell? ⟨g, off + k * 2 + 1, none⟩ = some (.int .i64 b.R.l[k].2) := by
  obtain ⟨g, off, hA, hg, hc⟩ := RowAt.elem pcells_len h.r.2.2 hk
  exact ⟨g, off, hA, hg, hc 0 (by omega), hc 1 (by omega)⟩
/-- The seven cells of a base's box. -/
def BBox (w : World) (g : Nat) (b : BN) : Prop := w.cell? ⟨g, 0, none⟩ = some (.slice b.N.C.A b.N.C.l.length b.N.C.c) ∧ w.cell? ⟨g, 1, none⟩ = some (.slice b.N.R.A b.N.R.l.length b.N.R.c) ∧ w.cell? ⟨g, 2, none⟩ = some (.slice b.N.I.A b.N.I.l.length b.N.I.c) ∧ w.cell? ⟨g, 3, none⟩ = some (.slice b.IA b.I.length b.ic) ∧ w.cell? ⟨g, 4, none⟩ = some (.slice b.R.A b.R.l.length b.R.c) ∧ w.cell? ⟨g, 5, none⟩ = some (.slice b.FA b.F.length b.fc) ∧ w.cell? ⟨g, 6, none⟩ = some (.slice b.L.A b.L.l.length b.L.c)
theorem bbox_of {w : World} {g : Nat} {b : BN} (h : w.heap[g]? = some (.cells b.cells 30)) : BBox w g b :=
  ⟨cell_of_blk h 0, cell_of_blk h 1, cell_of_blk h 2, cell_of_blk h 3, cell_of_blk h 4, cell_of_blk h 5, cell_of_blk h 6⟩
/-- The concepts of a base, in order. -/
def BN.cons (b : BN) : List MT := b.I.flatMap (fun p => [p.1, p.2]) ++ b.F.map (·.2)
end Go.Proofs.YtndkcimajeofcaaGreatDoor

namespace Go.Proofs.YtndkcimajeofcaaGreatDoor
open Go.RowKit

def consI (l : List (MT × MT)) (k : Nat) : List MT := (l.take k).flatMap fun p => [p.1, p.2]
def consF (b : BN) (k : Nat) : List MT := consI b.I b.I.length ++ (b.F.take k).map (·.2)
theorem two_len : ∀ l : List (MT × MT), (l.flatMap fun p => [p.1, p.2]).length = 2 * l.length
  | [] => rfl
  | _ :: l => by rw [List.flatMap_cons, List.length_append, two_len l]; simp; omega
theorem consI_len (l : List (MT × MT)) (k : Nat) (hk : k ≤ l.length) : (consI l k).length = 2 * k := by
  rw [consI, two_len, List.length_take]; omega
theorem consI_next {l : List (MT × MT)} {k : Nat} (hk : k < l.length) : consI l (k + 1) = consI l k ++ [l[k].1, l[k].2] := by
  rw [consI, List.take_succ_eq_append_getElem hk, List.flatMap_append]; rfl
theorem consF_len (b : BN) (k : Nat) (hk : k ≤ b.F.length) : (consF b k).length = 2 * b.I.length + k := by
  rw [consF, List.length_append, consI_len _ _ (Nat.le_refl _), List.length_map, List.length_take]; omega
theorem consF_next {b : BN} {k : Nat} (hk : k < b.F.length) : consF b (k + 1) = consF b k ++ [b.F[k].2] := by
  rw [consF, List.take_succ_eq_append_getElem hk, List.map_append, ← List.append_assoc]; rfl
theorem consF_all (b : BN) (k : Nat) (hk : k = b.F.length) : consF b k = b.cons := by
  subst hk
  rw [consF, consI, List.take_length, List.take_length]; rfl
theorem cons_len (b : BN) : b.cons.length = 2 * b.I.length + b.F.length := by rw [← consF_all b _ rfl, consF_len b _ (Nat.le_refl _)]
theorem cons_in {b : BN} {B : Nat} {w : World} (h : b.In B w) : ∀ T ∈ b.cons, T.In B w := fun T hT => by
  rw [BN.cons, List.mem_append, List.mem_flatMap, List.mem_map] at hT
  rcases hT with ⟨p, hp, hm⟩ | ⟨p, hp, rfl⟩
  · rcases List.mem_cons.1 hm with rfl | hm
    · exact (h.i4 p hp).1
    · rw [List.mem_singleton.1 hm]; exact (h.i4 p hp).2
  · exact h.f4 p hp
/-- The row of concepts that a call hands back. -/
def RetC (l : List MT) (w : World) (e : Ending) (w' : World) : Prop := ∃ v, e = .returned v ∧ w'.ownsRow w.heap.size 33 3 v l.length (l.flatMap MT.cs) ∧ Below w.heap.size w w'

set_option maxRecDepth 100000 in
set_option maxHeartbeats 8000000 in
theorem parts_any (b : BN) (w : World) (hb : b.In w.heap.size w) (hI : b.I.length ≤ 1000) (hF : b.F.length ≤ 1000) : Calls Tryz.prog 146 #[b.val] w (RetC b.cons w) := by
  obtain ⟨W1, hW1, hB1, hs1, hk1⟩ := newBlk w _ rfl #[.slice b.N.C.A b.N.C.l.length b.N.C.c, .slice b.N.R.A b.N.R.l.length b.N.R.c, .slice b.N.I.A b.N.I.l.length b.N.I.c, .slice b.IA b.I.length b.ic, .slice b.R.A b.R.l.length b.R.c, .slice b.FA b.F.length b.fc, .slice b.L.A b.L.l.length b.L.c] 30
  have hbb := fun w' (h : Below W1.heap.size W1 w') => bbox_of (b := b) (blk_lat hk1 h)
  obtain ⟨c0, c1, c2, c3, c4, c5, c6⟩ := hbb W1 (Below.refl _ _)
  have HB := Lib.hid (hb.later hB1)
  have HBL := Lib.hid hB1
  have HBB := Lib.hid hbb
  simp only [BN.val]
  obtain ⟨i0, hi, hz0, hz1, hz2⟩ := info_parts con_info
  clear hb hB1 hk1 hbb
  go_enter Tryz.func146, Tryz.ntmps146
  go_wp2_with fail
  clear c0 c1 c2 c3 c4 c5 c6
  go_loopw [3, 11] (fun v i' wr => ∃ k : Nat, k ≤ b.I.length ∧ i' = .int .i64 (k : Nat) ∧ wr.ownsRow W1.heap.size 33 3 v (consI b.I k).length ((consI b.I k).flatMap MT.cs) ∧ Below W1.heap.size W1 wr) (fun _ i' _ => b.I.length - (intOf i').toNat)
  case atStart => exact ⟨0, Nat.zero_le _, rfl, ⟨rfl, .inl ⟨rfl, rfl⟩⟩, Below.refl _ _⟩
  case round =>
    rename World => wr
    obtain ⟨k, hk, rfl, hrow, hbw⟩ := hrel
    by_cases hlt : k < b.I.length
    · obtain ⟨g, off, hA, hg, e0, e1, e2, e3, e4, e5⟩ := (HB.out.later hbw).incl hlt
      have h0K : (0 : Int) ≤ k := by omega
      have hlK : (k : Int) < b.I.length := by omega
      have hlen := consI_len b.I k hk
      have HQ := Lib.hid (consI_next hlt)
      obtain ⟨Q, hQ⟩ : ∃ Q, consI b.I k = Q := ⟨_, rfl⟩
      rw [hQ] at hrow hlen HQ
      obtain ⟨Wa, hWa, hBa, hsa, hka⟩ := newBlk wr _ rfl #[.int .i64 b.I[k].1.op, .int .i64 b.I[k].1.n, .slice b.I[k].1.A b.I[k].1.args.length b.I[k].1.c, .int .i64 b.I[k].2.op, .int .i64 b.I[k].2.n, .slice b.I[k].2.A b.I[k].2.args.length b.I[k].2.c] 111
      obtain ⟨Wb, hWb, hBb, hsb, hkb⟩ := newBlk Wa _ rfl #[.int .i64 b.I[k].1.op, .int .i64 b.I[k].1.n, .slice b.I[k].1.A b.I[k].1.args.length b.I[k].1.c, .int .i64 b.I[k].2.op, .int .i64 b.I[k].2.n, .slice b.I[k].2.A b.I[k].2.args.length b.I[k].2.c] 33
      have d0 := cell_of_blk hka 0
      have d1 := cell_of_blk hka 1
      have d2 := cell_of_blk hka 2
      have d3 := cell_of_blk hka 3
      have d4 := cell_of_blk hka 4
      have d5 := cell_of_blk hka 5
      simp only [List.getElem?_toArray, List.getElem?_cons_zero, List.getElem?_cons_succ] at d0 d1 d2 d3 d4 d5
      have hab : Below wr.heap.size wr Wb := hBa.trans (hBb.mono (by omega))
      have HRW := Lib.hid (owns_below hrow hab)
      have HAB := Lib.hid (hbw.trans (hab.mono hbw.size))
      have HLN := Lib.hid hlen
      have HKB := Lib.hid hkb
      have hws := hbw.size
      have HSA := Lib.hid hsa
      have HSB := Lib.hid hsb
      rw [hA]
      clear hQ hrow hbw hab hBa hBb hka hkb hlen hsa hsb hA
      generalize b.I[k] = p at e0 e1 e2 e3 e4 e5 d0 d1 d2 d3 d4 d5 hWa hWb HQ HKB
      go_wp2_with (at_builtin; refine wpList_append_lies _ rfl _ _ 31 rfl W1.heap.size 33 i0 _ 3 40 Tryz.underlying31 hi hz0 hz1 hz2 rfl (by omega) _ Q.length (Q.flatMap MT.cs) rfl HRW.out ⟨Wa.heap.size, 0, none⟩ 2 2 (ucells p) rfl rfl (World.news_of_block (fr := (0, 0)) HKB.out) (by simp [ucells, Value.oneCell']) (by omega) (by have := HLN.out; unfold maxLen; omega) (by have := HLN.out; omega) (by have := HSA.out; have := HSB.out; omega) Wb.heap.size rfl ?_; intro g6 cap w6 hown6 hg6 hat6 hlt6)
      refine ⟨⟨k + 1, by omega, by go_num, ?_, HAB.out.grown hg6 (by have := HAB.out.size; omega) (fun j e => (own_lt HRW.out e).1)⟩, by simp [intOf]; omega⟩
      rw [HQ.out, List.length_append, List.flatMap_append]
      simpa [MT.cs, ucells] using hown6
    · have hke : k = b.I.length := by omega
      subst hke
      have hrow2 : wr.ownsRow W1.heap.size 33 3 u3 (consF b 0).length ((consF b 0).flatMap MT.cs) := by rw [consF]; simpa using hrow
      have HRW := Lib.hid hrow2
      obtain ⟨c0, c1, c2, c3, c4, c5, c6⟩ := HBB.out wr hbw
      have HBW := Lib.hid hbw
      clear hrow hrow2 hbw
      go_wp2_with fail
      clear c0 c1 c2 c3 c4 c5 c6
      go_loopw [3, 26] (fun v i' wr => ∃ k : Nat, k ≤ b.F.length ∧ i' = .int .i64 (k : Nat) ∧ wr.ownsRow W1.heap.size 33 3 v (consF b k).length ((consF b k).flatMap MT.cs) ∧ Below W1.heap.size W1 wr) (fun _ i' _ => b.F.length - (intOf i').toNat)
      case atStart => exact ⟨0, Nat.zero_le _, rfl, HRW.out, HBW.out⟩
      case round =>
        rename World => wt
        obtain ⟨k, hk, rfl, hrow, hbw⟩ := hrel
        by_cases hlt : k < b.F.length
        · obtain ⟨g, off, hA, hg, e0, e1, e2, e3⟩ := (HB.out.later hbw).fact hlt
          have h0K : (0 : Int) ≤ k := by omega
          have hlK : (k : Int) < b.F.length := by omega
          have hlen := consF_len b k hk
          have HQ := Lib.hid (consF_next hlt)
          obtain ⟨Q, hQ⟩ : ∃ Q, consF b k = Q := ⟨_, rfl⟩
          rw [hQ] at hrow hlen HQ
          obtain ⟨Wa, hWa, hBa, hsa, hka⟩ := newBlk wt _ rfl #[.int .i64 b.F[k].1, .int .i64 b.F[k].2.op, .int .i64 b.F[k].2.n, .slice b.F[k].2.A b.F[k].2.args.length b.F[k].2.c] 96
          obtain ⟨Wb, hWb, hBb, hsb, hkb⟩ := newBlk Wa _ rfl #[.int .i64 b.F[k].2.op, .int .i64 b.F[k].2.n, .slice b.F[k].2.A b.F[k].2.args.length b.F[k].2.c] 33
          have d0 := cell_of_blk hka 0
          have d1 := cell_of_blk hka 1
          have d2 := cell_of_blk hka 2
          have d3 := cell_of_blk hka 3
          simp only [List.getElem?_toArray, List.getElem?_cons_zero, List.getElem?_cons_succ] at d0 d1 d2 d3
          have hab : Below wt.heap.size wt Wb := hBa.trans (hBb.mono (by omega))
          have HRW := Lib.hid (owns_below hrow hab)
          have HAB := Lib.hid (hbw.trans (hab.mono hbw.size))
          have HLN := Lib.hid hlen
          have HKB := Lib.hid hkb
          have hws := hbw.size
          have HSA := Lib.hid hsa
          have HSB := Lib.hid hsb
          rw [hA]
          clear hQ hrow hbw hab hBa hBb hka hkb hlen hsa hsb hA
          generalize b.F[k] = p at e0 e1 e2 e3 d0 d1 d2 d3 hWa hWb HQ HKB
          go_wp2_with (at_builtin; refine wpList_append_lies _ rfl _ _ 31 rfl W1.heap.size 33 i0 _ 3 40 Tryz.underlying31 hi hz0 hz1 hz2 rfl (by omega) _ Q.length (Q.flatMap MT.cs) rfl HRW.out ⟨Wa.heap.size, 0, none⟩ 1 1 p.2.cs rfl rfl (World.news_of_block (fr := (0, 0)) HKB.out) (by simp [MT.cs, Value.oneCell']) (by omega) (by have := HLN.out; unfold maxLen; omega) (by have := HLN.out; omega) (by have := HSA.out; have := HSB.out; omega) Wb.heap.size rfl ?_; intro g6 cap w6 hown6 hg6 hat6 hlt6)
          refine ⟨⟨k + 1, by omega, by go_num, ?_, HAB.out.grown hg6 (by have := HAB.out.size; omega) (fun j e => (own_lt HRW.out e).1)⟩, by simp [intOf]; omega⟩
          rw [HQ.out, List.length_append, List.flatMap_append]
          simpa [MT.cs] using hown6
        · have hke : k = b.F.length := by omega
          rw [consF_all b k hke] at hrow
          have HRW := Lib.hid hrow
          have HBW2 := Lib.hid hbw
          clear hrow hbw hke
          go_wp2_with fail
          go_ret
          exact ⟨_, rfl, owns_lower HRW.out (by have := HBL.out.size; omega), HBL.out.trans (HBW2.out.mono HBL.out.size)⟩

set_option maxRecDepth 100000 in
set_option maxHeartbeats 8000000 in
theorem rConcepts_any (b : BN) (w : World) (hb : b.In w.heap.size w) (hI : b.I.length ≤ 1000) (hF : b.F.length ≤ 1000) : Calls Tryz.prog 47 #[b.val] w (RetC b.cons w) := by
  obtain ⟨W1, hW1, hB1, hs1, hk1⟩ := newBlk w _ rfl #[.slice b.N.C.A b.N.C.l.length b.N.C.c, .slice b.N.R.A b.N.R.l.length b.N.R.c, .slice b.N.I.A b.N.I.l.length b.N.I.c, .slice b.IA b.I.length b.ic, .slice b.R.A b.R.l.length b.R.c, .slice b.FA b.F.length b.fc, .slice b.L.A b.L.l.length b.L.c] 30
  have hbb := fun w' (h : Below W1.heap.size W1 w') => bbox_of (b := b) (blk_lat hk1 h)
  obtain ⟨c0, c1, c2, c3, c4, c5, c6⟩ := hbb W1 (Below.refl _ _)
  have HB := Lib.hid (hb.later hB1)
  have HBL := Lib.hid hB1
  have HBB := Lib.hid hbb
  simp only [BN.val]
  obtain ⟨i0, hi, hz0, hz1, hz2⟩ := info_parts con_info
  clear hb hB1 hk1 hbb
  go_enter Tryz.func47, Tryz.ntmps47
  go_wp2_with fail
  clear c0 c1 c2 c3 c4 c5 c6
  go_loopw [3, 11] (fun v i' wr => ∃ k : Nat, k ≤ b.I.length ∧ i' = .int .i64 (k : Nat) ∧ wr.ownsRow W1.heap.size 33 3 v (consI b.I k).length ((consI b.I k).flatMap MT.cs) ∧ Below W1.heap.size W1 wr) (fun _ i' _ => b.I.length - (intOf i').toNat)
  case atStart => exact ⟨0, Nat.zero_le _, rfl, ⟨rfl, .inl ⟨rfl, rfl⟩⟩, Below.refl _ _⟩
  case round =>
    rename World => wr
    obtain ⟨k, hk, rfl, hrow, hbw⟩ := hrel
    by_cases hlt : k < b.I.length
    · obtain ⟨g, off, hA, hg, e0, e1, e2, e3, e4, e5⟩ := (HB.out.later hbw).incl hlt
      have h0K : (0 : Int) ≤ k := by omega
      have hlK : (k : Int) < b.I.length := by omega
      have hlen := consI_len b.I k hk
      have HQ := Lib.hid (consI_next hlt)
      obtain ⟨Q, hQ⟩ : ∃ Q, consI b.I k = Q := ⟨_, rfl⟩
      rw [hQ] at hrow hlen HQ
      obtain ⟨Wa, hWa, hBa, hsa, hka⟩ := newBlk wr _ rfl #[.int .i64 b.I[k].1.op, .int .i64 b.I[k].1.n, .slice b.I[k].1.A b.I[k].1.args.length b.I[k].1.c, .int .i64 b.I[k].2.op, .int .i64 b.I[k].2.n, .slice b.I[k].2.A b.I[k].2.args.length b.I[k].2.c] 111
      obtain ⟨Wb, hWb, hBb, hsb, hkb⟩ := newBlk Wa _ rfl #[.int .i64 b.I[k].1.op, .int .i64 b.I[k].1.n, .slice b.I[k].1.A b.I[k].1.args.length b.I[k].1.c, .int .i64 b.I[k].2.op, .int .i64 b.I[k].2.n, .slice b.I[k].2.A b.I[k].2.args.length b.I[k].2.c] 33
      have d0 := cell_of_blk hka 0
      have d1 := cell_of_blk hka 1
      have d2 := cell_of_blk hka 2
      have d3 := cell_of_blk hka 3
      have d4 := cell_of_blk hka 4
      have d5 := cell_of_blk hka 5
      simp only [List.getElem?_toArray, List.getElem?_cons_zero, List.getElem?_cons_succ] at d0 d1 d2 d3 d4 d5
      have hab : Below wr.heap.size wr Wb := hBa.trans (hBb.mono (by omega))
      have HRW := Lib.hid (owns_below hrow hab)
      have HAB := Lib.hid (hbw.trans (hab.mono hbw.size))
      have HLN := Lib.hid hlen
      have HKB := Lib.hid hkb
      have hws := hbw.size
      have HSA := Lib.hid hsa
      have HSB := Lib.hid hsb
      rw [hA]
      clear hQ hrow hbw hab hBa hBb hka hkb hlen hsa hsb hA
      generalize b.I[k] = p at e0 e1 e2 e3 e4 e5 d0 d1 d2 d3 d4 d5 hWa hWb HQ HKB
      go_wp2_with (at_builtin; refine wpList_append_lies _ rfl _ _ 31 rfl W1.heap.size 33 i0 _ 3 40 Tryz.underlying31 hi hz0 hz1 hz2 rfl (by omega) _ Q.length (Q.flatMap MT.cs) rfl HRW.out ⟨Wa.heap.size, 0, none⟩ 2 2 (ucells p) rfl rfl (World.news_of_block (fr := (0, 0)) HKB.out) (by simp [ucells, Value.oneCell']) (by omega) (by have := HLN.out; unfold maxLen; omega) (by have := HLN.out; omega) (by have := HSA.out; have := HSB.out; omega) Wb.heap.size rfl ?_; intro g6 cap w6 hown6 hg6 hat6 hlt6)
      refine ⟨⟨k + 1, by omega, by go_num, ?_, HAB.out.grown hg6 (by have := HAB.out.size; omega) (fun j e => (own_lt HRW.out e).1)⟩, by simp [intOf]; omega⟩
      rw [HQ.out, List.length_append, List.flatMap_append]
      simpa [MT.cs, ucells] using hown6
    · have hke : k = b.I.length := by omega
      subst hke
      have hrow2 : wr.ownsRow W1.heap.size 33 3 u3 (consF b 0).length ((consF b 0).flatMap MT.cs) := by rw [consF]; simpa using hrow
      have HRW := Lib.hid hrow2
      obtain ⟨c0, c1, c2, c3, c4, c5, c6⟩ := HBB.out wr hbw
      have HBW := Lib.hid hbw
      clear hrow hrow2 hbw
      go_wp2_with fail
      clear c0 c1 c2 c3 c4 c5 c6
      go_loopw [3, 26] (fun v i' wr => ∃ k : Nat, k ≤ b.F.length ∧ i' = .int .i64 (k : Nat) ∧ wr.ownsRow W1.heap.size 33 3 v (consF b k).length ((consF b k).flatMap MT.cs) ∧ Below W1.heap.size W1 wr) (fun _ i' _ => b.F.length - (intOf i').toNat)
      case atStart => exact ⟨0, Nat.zero_le _, rfl, HRW.out, HBW.out⟩
      case round =>
        rename World => wt
        obtain ⟨k, hk, rfl, hrow, hbw⟩ := hrel
        by_cases hlt : k < b.F.length
        · obtain ⟨g, off, hA, hg, e0, e1, e2, e3⟩ := (HB.out.later hbw).fact hlt
          have h0K : (0 : Int) ≤ k := by omega
          have hlK : (k : Int) < b.F.length := by omega
          have hlen := consF_len b k hk
          have HQ := Lib.hid (consF_next hlt)
          obtain ⟨Q, hQ⟩ : ∃ Q, consF b k = Q := ⟨_, rfl⟩
          rw [hQ] at hrow hlen HQ
          obtain ⟨Wa, hWa, hBa, hsa, hka⟩ := newBlk wt _ rfl #[.int .i64 b.F[k].1, .int .i64 b.F[k].2.op, .int .i64 b.F[k].2.n, .slice b.F[k].2.A b.F[k].2.args.length b.F[k].2.c] 96
          obtain ⟨Wb, hWb, hBb, hsb, hkb⟩ := newBlk Wa _ rfl #[.int .i64 b.F[k].2.op, .int .i64 b.F[k].2.n, .slice b.F[k].2.A b.F[k].2.args.length b.F[k].2.c] 33
          have d0 := cell_of_blk hka 0
          have d1 := cell_of_blk hka 1
          have d2 := cell_of_blk hka 2
          have d3 := cell_of_blk hka 3
          simp only [List.getElem?_toArray, List.getElem?_cons_zero, List.getElem?_cons_succ] at d0 d1 d2 d3
          have hab : Below wt.heap.size wt Wb := hBa.trans (hBb.mono (by omega))
          have HRW := Lib.hid (owns_below hrow hab)
          have HAB := Lib.hid (hbw.trans (hab.mono hbw.size))
          have HLN := Lib.hid hlen
          have HKB := Lib.hid hkb
          have hws := hbw.size
          have HSA := Lib.hid hsa
          have HSB := Lib.hid hsb
          rw [hA]
          clear hQ hrow hbw hab hBa hBb hka hkb hlen hsa hsb hA
          generalize b.F[k] = p at e0 e1 e2 e3 d0 d1 d2 d3 hWa hWb HQ HKB
          go_wp2_with (at_builtin; refine wpList_append_lies _ rfl _ _ 31 rfl W1.heap.size 33 i0 _ 3 40 Tryz.underlying31 hi hz0 hz1 hz2 rfl (by omega) _ Q.length (Q.flatMap MT.cs) rfl HRW.out ⟨Wa.heap.size, 0, none⟩ 1 1 p.2.cs rfl rfl (World.news_of_block (fr := (0, 0)) HKB.out) (by simp [MT.cs, Value.oneCell']) (by omega) (by have := HLN.out; unfold maxLen; omega) (by have := HLN.out; omega) (by have := HSA.out; have := HSB.out; omega) Wb.heap.size rfl ?_; intro g6 cap w6 hown6 hg6 hat6 hlt6)
          refine ⟨⟨k + 1, by omega, by go_num, ?_, HAB.out.grown hg6 (by have := HAB.out.size; omega) (fun j e => (own_lt HRW.out e).1)⟩, by simp [intOf]; omega⟩
          rw [HQ.out, List.length_append, List.flatMap_append]
          simpa [MT.cs] using hown6
        · have hke : k = b.F.length := by omega
          rw [consF_all b k hke] at hrow
          have HRW := Lib.hid hrow
          have HBW2 := Lib.hid hbw
          clear hrow hbw hke
          go_wp2_with fail
          go_ret
          exact ⟨_, rfl, owns_lower HRW.out (by have := HBL.out.size; omega), HBL.out.trans (HBW2.out.mono HBL.out.size)⟩
end Go.Proofs.YtndkcimajeofcaaGreatDoor

namespace Go.Proofs.YtndkcimajeofcaaGreatDoor
open Go.RowKit

/-- Whether numbers are all from 0 to n - 1. -/
def belowB (n : Int) (l : List Int) : Bool := !(l.any (foreignB n))
theorem belowB_no {n : Int} {l : List Int} {k : Nat} (hk : k < l.length) (h : foreignB n l[k] = true) : belowB n l = false := by rw [belowB, any_hit hk h]; rfl
theorem belowB_yes {n : Int} {l : List Int} (h : ∀ j (hj : j < l.length), foreignB n l[j] = false) : belowB n l = true := by rw [belowB, any_miss h]; rfl

set_option maxRecDepth 100000 in
set_option maxHeartbeats 2000000 in
theorem kBelow_any (s : IL) (n : Int) (w : World) (hs : s.In w.heap.size w) : Calls Tryz.prog 145 #[.int .i64 n, .slice s.A s.l.length s.c] w fun e w' => e = .returned (.bool (belowB n s.l)) ∧ w' = w := by
  have hlen : s.l.length ≤ 9223372036854775807 := Nat.le_trans hs.1 hs.2.1
  have hcs := fun h => IL.In.cells hs h
  obtain ⟨A, c, l⟩ := s
  dsimp only at *
  clear hs
  go_enter Tryz.func145, Tryz.ntmps145
  go_wp2_with fail
  go_loopw [9] (fun i' wr => ∃ k : Nat, k ≤ l.length ∧ i' = .int .i64 k ∧ (∀ j (hj : j < l.length), j < k → foreignB n l[j] = false) ∧ wr = w) (fun i' _ => l.length - (intOf i').toNat)
  case atStart => exact ⟨0, Nat.zero_le _, rfl, fun j _ h => absurd h (by omega), rfl⟩
  case round =>
    obtain ⟨k, hk, rfl, hall, rfl⟩ := hrel
    have HA := Lib.hid hall
    clear hall
    by_cases hlt : k < l.length
    · obtain ⟨g, off, rfl, -, d1⟩ := hcs (by omega)
      have e1 := d1 k hlt
      have h0I : (0 : Int) ≤ k := by omega
      have hlI : (k : Int) < l.length := by omega
      have hfo : foreignB n l[k] = (decide (l[k] < 0) || decide (n ≤ l[k])) := rfl
      rcases q1 : decide (l[k] < 0)
      · rcases q2 : decide (n ≤ l[k])
        · have hfk : foreignB n l[k] = false := by rw [hfo, q1, q2]; rfl
          have HA2 := Lib.hid (show ∀ j (hj : j < l.length), j < k + 1 → foreignB n l[j] = false from fun j hj hjk => by
            by_cases e : j = k
            · subst e; exact hfk
            · exact HA.out j hj (by omega))
          clear hfo hfk d1 hcs
          generalize l[k] = z at e1 q1 q2
          go_wp2_with fail
          go_roundw
          case rel => exact ⟨k + 1, by omega, by go_num, HA2.out, by first | rfl | trivial⟩
          case measure => simp [intOf]; omega
        · have HF := Lib.hid (belowB_no hlt (by rw [hfo, q2, Bool.or_true]))
          clear hfo d1 hcs
          generalize l[k] = z at e1 q1 q2
          go_wp2_with fail
          go_ret
          exact ⟨by rw [HF.out]; rfl, rfl⟩
      · have HF := Lib.hid (belowB_no hlt (by rw [hfo, q1, Bool.true_or]))
        clear hfo d1 hcs
        generalize l[k] = z at e1 q1
        go_wp2_with fail
        go_ret
        exact ⟨by rw [HF.out]; rfl, rfl⟩
    · have HF := Lib.hid (belowB_yes (n := n) (l := l) (fun j hj => HA.out j hj (by omega)))
      go_wp2
      go_ret
      exact ⟨by rw [HF.out]; rfl, rfl⟩

/-- A fresh row of ints, as an argument. -/
theorem il_blk {w : World} {g : Nat} {l : List Int} {t : TypeId} (h : w.heap[g]? = some (.cells (l.map icell).toArray t)) (hl : l.length ≤ 9223372036854775807) : (IL.mk (some ⟨g, 0, none⟩) l.length l).In w.heap.size w :=
  ⟨Nat.le_refl _, hl, by simp, fun _ => ⟨g, 0, rfl, (Array.getElem?_eq_some_iff.1 h).1, fun j hj => by rw [cell_of_blk h, Nat.zero_add, List.getElem?_toArray]⟩⟩
theorem below1 {w : World} {g : Nat} (n x : Int) (t : TypeId) (h : w.heap[g]? = some (.cells #[.int .i64 x] t)) : Calls Tryz.prog 145 #[.int .i64 n, .slice (some ⟨g, 0, none⟩) 1 1] w fun e w' => e = .returned (.bool (!foreignB n x)) ∧ w' = w := by
  have := kBelow_any ⟨some ⟨g, 0, none⟩, 1, [x]⟩ n w (il_blk (l := [x]) h (by simp))
  simpa [belowB] using this
theorem below2 {w : World} {g : Nat} (n x y : Int) (t : TypeId) (h : w.heap[g]? = some (.cells #[.int .i64 x, .int .i64 y] t)) : Calls Tryz.prog 145 #[.int .i64 n, .slice (some ⟨g, 0, none⟩) 2 2] w fun e w' => e = .returned (.bool (!(foreignB n x || foreignB n y))) ∧ w' = w := by
  have := kBelow_any ⟨some ⟨g, 0, none⟩, 2, [x, y]⟩ n w (il_blk (l := [x, y]) h (by simp))
  simpa [belowB] using this

/-- Whether the roles and individuals of the axioms exist. -/
def roleOk (b : BN) (z : Int × Int) : Bool := !(foreignB (2 * (b.N.R.l.length : Int)) z.1 || foreignB (2 * (b.N.R.l.length : Int)) z.2)
def factOk (b : BN) (z : Int × MT) : Bool := !foreignB (b.N.I.l.length : Int) z.1
def linkOk (b : BN) (z : Int × Int × Int) : Bool := !foreignB (b.N.R.l.length : Int) z.1 && !(foreignB (b.N.I.l.length : Int) z.2.1 || foreignB (b.N.I.l.length : Int) z.2.2)
def numsB (b : BN) : Bool := b.R.l.all (roleOk b) && (b.F.all (factOk b) && b.L.l.all (linkOk b))
theorem all_no {α : Type} {f : α → Bool} {l : List α} {k : Nat} (hk : k < l.length) (h : f l[k] = false) : l.all f = false := by
  rw [List.all_eq_false]; exact ⟨_, List.getElem_mem hk, by simp [h]⟩
theorem all_yes {α : Type} {f : α → Bool} {l : List α} (h : ∀ k (hk : k < l.length), f l[k] = true) : l.all f = true := by
  rw [List.all_eq_true]
  intro x hx
  obtain ⟨k, hk, rfl⟩ := List.mem_iff_getElem.1 hx
  exact h k hk
theorem all_more {α : Type} {f : α → Bool} {l : List α} {k : Nat} (hk : k < l.length) (hf : f l[k] = true) (h : ∀ j (hj : j < l.length), j < k → f l[j] = true) : ∀ j (hj : j < l.length), j < k + 1 → f l[j] = true := fun j hj hjk => by
  by_cases e : j = k
  · subst e; exact hf
  · exact h j hj (by omega)

set_option maxRecDepth 100000 in
set_option maxHeartbeats 8000000 in
theorem numbersExist_any (b : BN) (w : World) (hb : b.In w.heap.size w) (hR : b.N.R.l.length ≤ 1000) : Calls Tryz.prog 100 #[b.val] w fun e w' => e = .returned (.bool (numsB b)) ∧ Below w.heap.size w w' := by
  obtain ⟨W1, hW1, hB1, hs1, hk1⟩ := newBlk w _ rfl #[.slice b.N.C.A b.N.C.l.length b.N.C.c, .slice b.N.R.A b.N.R.l.length b.N.R.c, .slice b.N.I.A b.N.I.l.length b.N.I.c, .slice b.IA b.I.length b.ic, .slice b.R.A b.R.l.length b.R.c, .slice b.FA b.F.length b.fc, .slice b.L.A b.L.l.length b.L.c] 30
  have hbb := fun w' (h : Below W1.heap.size W1 w') => bbox_of (b := b) (blk_lat hk1 h)
  obtain ⟨c0, c1, c2, c3, c4, c5, c6⟩ := hbb W1 (Below.refl _ _)
  have HB := Lib.hid (hb.later hB1)
  have HBL := Lib.hid hB1
  have HBB := Lib.hid hbb
  have hrl : b.R.l.length ≤ 9223372036854775807 := Nat.le_trans hb.r.1 hb.r.2.1
  have hfl : b.F.length ≤ 9223372036854775807 := Nat.le_trans hb.f1 hb.f2
  have hll : b.L.l.length ≤ 9223372036854775807 := Nat.le_trans hb.l1 hb.l2
  have hw1 : wrap64 (2 * (b.N.R.l.length : Int)) = 2 * (b.N.R.l.length : Int) := by unfold wrap64; omega
  have hw2 : IntKind.i64.wrap (2 * (b.N.R.l.length : Int)) = 2 * (b.N.R.l.length : Int) := by rw [IntKind.wrap_i64]; omega
  simp only [BN.val]
  clear hb hB1 hk1 hbb
  go_enter Tryz.func100, Tryz.ntmps100
  go_wp2_with fail
  go_quiet (fail)
  obtain ⟨Wq, hWq⟩ : ∃ Wq, W1.drewN nq = Wq := ⟨_, rfl⟩
  have hbq : Below W1.heap.size W1 Wq := by rw [← hWq]; exact below_drewN (Below.refl _ _) _
  rw [hWq]
  clear hWq c0 c1 c2 c3 c4 c5 c6
  obtain ⟨c0, c1, c2, c3, c4, c5, c6⟩ := HBB.out Wq hbq
  go_wp2_with fail
  clear c0 c1 c2 c3 c4 c5 c6
  go_loopw [22] (fun i' wr => ∃ k : Nat, k ≤ b.R.l.length ∧ i' = .int .i64 (k : Nat) ∧ (∀ j (hj : j < b.R.l.length), j < k → roleOk b b.R.l[j] = true) ∧ Below W1.heap.size W1 wr) (fun i' _ => b.R.l.length - (intOf i').toNat)
  case atStart => exact ⟨0, Nat.zero_le _, rfl, fun j _ h => absurd h (by omega), hbq⟩
  case round =>
    rename World => wr
    obtain ⟨k, hk, rfl, hall, hbw⟩ := hrel
    have HA := Lib.hid hall
    clear hall
    by_cases hlt : k < b.R.l.length
    · obtain ⟨g, off, hA, hg, e0, e1⟩ := (HB.out.later hbw).role hlt
      have h0K : (0 : Int) ≤ k := by omega
      have hlK : (k : Int) < b.R.l.length := by omega
      obtain ⟨ok, hok⟩ : ∃ x, roleOk b b.R.l[k] = x := ⟨_, rfl⟩
      have HOK := Lib.hid hok
      obtain ⟨Wa, hWa, hBa, hsa, hka⟩ := newBlk wr _ rfl #[.int .i64 b.R.l[k].1, .int .i64 b.R.l[k].2] 94
      obtain ⟨Wb, hWb, hBb, hsb, hkb⟩ := newBlk Wa _ rfl #[.int .i64 b.R.l[k].1, .int .i64 b.R.l[k].2] 3
      have d0 := cell_of_blk hka 0
      have d1 := cell_of_blk hka 1
      simp only [List.getElem?_toArray, List.getElem?_cons_zero, List.getElem?_cons_succ] at d0 d1
      have hcb := below2 (2 * (b.N.R.l.length : Int)) b.R.l[k].1 b.R.l[k].2 _ hkb
      rw [show (!(foreignB (2 * (b.N.R.l.length : Int)) b.R.l[k].1 || foreignB (2 * (b.N.R.l.length : Int)) b.R.l[k].2)) = ok from hok] at hcb
      have HAB := Lib.hid (hbw.trans ((hBa.trans (hBb.mono (by omega))).mono hbw.size))
      have HCB := Lib.hid hcb
      have HSA := Lib.hid hsa
      have HSB := Lib.hid hsb
      rw [hA]
      clear hok hbw hBa hBb hka hkb hsa hsb hA hcb
      generalize b.R.l[k].1 = x at e0 d0 hWa hWb HCB
      generalize b.R.l[k].2 = y at e1 d1 hWa hWb HCB
      cases ok
      · go_wp2_with (go_at_call 145; refine HCB.out.mono ?_; rintro e w6 ⟨rfl, hw6⟩; subst hw6)
        go_ret
        exact ⟨by rw [numsB, all_no hlt HOK.out]; rfl, HBL.out.trans (HAB.out.mono HBL.out.size)⟩
      · go_wp2_with (go_at_call 145; refine HCB.out.mono ?_; rintro e w6 ⟨rfl, hw6⟩; subst hw6)
        go_roundw
        case rel => exact ⟨k + 1, by omega, by go_num, all_more hlt HOK.out HA.out, HAB.out⟩
        case measure => simp [intOf]; omega
    · have HRA := Lib.hid (all_yes (f := roleOk b) (l := b.R.l) fun j hj => HA.out j hj (by omega))
      obtain ⟨c0, c1, c2, c3, c4, c5, c6⟩ := HBB.out wr hbw
      have HBW := Lib.hid hbw
      clear hbw HA
      go_wp2_with fail
      clear c0 c1 c2 c3 c4 c5 c6
      go_loopw [39] (fun i' wr => ∃ k : Nat, k ≤ b.F.length ∧ i' = .int .i64 (k : Nat) ∧ (∀ j (hj : j < b.F.length), j < k → factOk b b.F[j] = true) ∧ Below W1.heap.size W1 wr) (fun i' _ => b.F.length - (intOf i').toNat)
      case atStart => exact ⟨0, Nat.zero_le _, rfl, fun j _ h => absurd h (by omega), HBW.out⟩
      case round =>
        rename World => wt
        obtain ⟨k, hk, rfl, hall, hbw⟩ := hrel
        have HA := Lib.hid hall
        clear hall
        by_cases hlt : k < b.F.length
        · obtain ⟨g, off, hA, hg, e0, e1, e2, e3⟩ := (HB.out.later hbw).fact hlt
          have h0K : (0 : Int) ≤ k := by omega
          have hlK : (k : Int) < b.F.length := by omega
          obtain ⟨ok, hok⟩ : ∃ x, factOk b b.F[k] = x := ⟨_, rfl⟩
          have HOK := Lib.hid hok
          obtain ⟨Wa, hWa, hBa, hsa, hka⟩ := newBlk wt _ rfl #[.int .i64 b.F[k].1, .int .i64 b.F[k].2.op, .int .i64 b.F[k].2.n, .slice b.F[k].2.A b.F[k].2.args.length b.F[k].2.c] 96
          obtain ⟨Wb, hWb, hBb, hsb, hkb⟩ := newBlk Wa _ rfl #[.int .i64 b.F[k].1] 3
          have d0 := cell_of_blk hka 0
          simp only [List.getElem?_toArray, List.getElem?_cons_zero] at d0
          have hcb := below1 (b.N.I.l.length : Int) b.F[k].1 _ hkb
          rw [show (!foreignB (b.N.I.l.length : Int) b.F[k].1) = ok from hok] at hcb
          have HAB := Lib.hid (hbw.trans ((hBa.trans (hBb.mono (by omega))).mono hbw.size))
          have HCB := Lib.hid hcb
          have HSA := Lib.hid hsa
          have HSB := Lib.hid hsb
          rw [hA]
          clear hok hbw hBa hBb hka hkb hsa hsb hA hcb
          generalize b.F[k].1 = x at e0 d0 hWa hWb HCB
          generalize b.F[k].2 = y at e1 e2 e3 hWa
          cases ok
          · go_wp2_with (go_at_call 145; refine HCB.out.mono ?_; rintro e w6 ⟨rfl, hw6⟩; subst hw6)
            go_ret
            exact ⟨by rw [numsB, HRA.out, all_no hlt HOK.out]; rfl, HBL.out.trans (HAB.out.mono HBL.out.size)⟩
          · go_wp2_with (go_at_call 145; refine HCB.out.mono ?_; rintro e w6 ⟨rfl, hw6⟩; subst hw6)
            go_roundw
            case rel => exact ⟨k + 1, by omega, by go_num, all_more hlt HOK.out HA.out, HAB.out⟩
            case measure => simp [intOf]; omega
        · have HFA := Lib.hid (all_yes (f := factOk b) (l := b.F) fun j hj => HA.out j hj (by omega))
          obtain ⟨c0, c1, c2, c3, c4, c5, c6⟩ := HBB.out wt hbw
          have HBW2 := Lib.hid hbw
          clear hbw HA
          go_wp2_with fail
          clear c0 c1 c2 c3 c4 c5 c6
          go_loopw [53] (fun i' wr => ∃ k : Nat, k ≤ b.L.l.length ∧ i' = .int .i64 (k : Nat) ∧ (∀ j (hj : j < b.L.l.length), j < k → linkOk b b.L.l[j] = true) ∧ Below W1.heap.size W1 wr) (fun i' _ => b.L.l.length - (intOf i').toNat)
          case atStart => exact ⟨0, Nat.zero_le _, rfl, fun j _ h => absurd h (by omega), HBW2.out⟩
          case round =>
            rename World => wu
            obtain ⟨k, hk, rfl, hall, hbw⟩ := hrel
            have HA := Lib.hid hall
            clear hall
            by_cases hlt : k < b.L.l.length
            · obtain ⟨g, off, hA, hg, e0, e1, e2⟩ := (HB.out.later hbw).link hlt
              have h0K : (0 : Int) ≤ k := by omega
              have hlK : (k : Int) < b.L.l.length := by omega
              obtain ⟨o1, ho1⟩ : ∃ x, (!foreignB (b.N.R.l.length : Int) b.L.l[k].1) = x := ⟨_, rfl⟩
              obtain ⟨o2, ho2⟩ : ∃ x, (!(foreignB (b.N.I.l.length : Int) b.L.l[k].2.1 || foreignB (b.N.I.l.length : Int) b.L.l[k].2.2)) = x := ⟨_, rfl⟩
              have HOK := Lib.hid (show linkOk b b.L.l[k] = (o1 && o2) by rw [linkOk, ho1, ho2])
              obtain ⟨Wa, hWa, hBa, hsa, hka⟩ := newBlk wu _ rfl #[.int .i64 b.L.l[k].1, .int .i64 b.L.l[k].2.1, .int .i64 b.L.l[k].2.2] 98
              obtain ⟨Wb, hWb, hBb, hsb, hkb⟩ := newBlk Wa _ rfl #[.int .i64 b.L.l[k].1] 3
              obtain ⟨Wc, hWc, hBc, hsc, hkc⟩ := newBlk Wb _ rfl #[.int .i64 b.L.l[k].2.1, .int .i64 b.L.l[k].2.2] 3
              have d0 := cell_of_blk ((hBb.block wu.heap.size (by omega)).trans hka) 0
              have d1 := cell_of_blk ((hBb.block wu.heap.size (by omega)).trans hka) 1
              have d2 := cell_of_blk ((hBb.block wu.heap.size (by omega)).trans hka) 2
              have d3 := cell_of_blk hka 0
              simp only [List.getElem?_toArray, List.getElem?_cons_zero, List.getElem?_cons_succ] at d0 d1 d2 d3
              have hcb := below1 (b.N.R.l.length : Int) b.L.l[k].1 _ hkb
              have hcc := below2 (b.N.I.l.length : Int) b.L.l[k].2.1 b.L.l[k].2.2 _ hkc
              rw [ho1] at hcb
              rw [ho2] at hcc
              have HAB := Lib.hid (hbw.trans ((hBa.trans (hBb.mono (by omega))).mono hbw.size))
              have HAC := Lib.hid (hbw.trans ((hBa.trans ((hBb.trans (hBc.mono (by omega))).mono (by omega))).mono hbw.size))
              have HCB := Lib.hid hcb
              have HCC := Lib.hid hcc
              have HSA := Lib.hid hsa
              have HSB := Lib.hid hsb
              have HSC := Lib.hid hsc
              rw [hA]
              clear ho1 ho2 hbw hBa hBb hBc hka hkb hkc hsa hsb hsc hA hcb hcc
              generalize b.L.l[k].1 = x at e0 d0 d3 hWa hWb HCB
              generalize b.L.l[k].2.1 = y at e1 d1 hWa hWc HCC
              generalize b.L.l[k].2.2 = z at e2 d2 hWa hWc HCC
              cases o1
              · go_wp2_with (go_at_call 145; refine HCB.out.mono ?_; rintro e w6 ⟨rfl, hw6⟩; subst hw6)
                go_ret
                exact ⟨by rw [numsB, HRA.out, HFA.out, all_no hlt HOK.out]; rfl, HBL.out.trans (HAB.out.mono HBL.out.size)⟩
              · cases o2
                · go_wp2_with (first | (go_at_call 145; have _k := tok1; refine HCC.out.mono ?_; rintro e w7 ⟨rfl, hw7⟩; subst hw7) | (go_at_call 145; refine HCB.out.mono ?_; rintro e w6 ⟨rfl, hw6⟩; subst hw6; have tok1 : True := trivial))
                  go_ret
                  exact ⟨by rw [numsB, HRA.out, HFA.out, all_no hlt HOK.out]; rfl, HBL.out.trans (HAC.out.mono HBL.out.size)⟩
                · go_wp2_with (first | (go_at_call 145; have _k := tok1; refine HCC.out.mono ?_; rintro e w7 ⟨rfl, hw7⟩; subst hw7) | (go_at_call 145; refine HCB.out.mono ?_; rintro e w6 ⟨rfl, hw6⟩; subst hw6; have tok1 : True := trivial))
                  go_roundw
                  case rel => exact ⟨k + 1, by omega, by go_num, all_more hlt HOK.out HA.out, HAC.out⟩
                  case measure => simp [intOf]; omega
            · have HLA := Lib.hid (all_yes (f := linkOk b) (l := b.L.l) fun j hj => HA.out j hj (by omega))
              have HBW3 := Lib.hid hbw
              clear hbw HA
              go_wp2_with fail
              go_ret
              exact ⟨by rw [numsB, HRA.out, HFA.out, HLA.out]; rfl, HBL.out.trans (HBW3.out.mono HBL.out.size)⟩
end Go.Proofs.YtndkcimajeofcaaGreatDoor

namespace Go.Proofs.YtndkcimajeofcaaGreatDoor
open Go.RowKit

/-- A row of the call's own, read as a row. -/
theorem row_of_owns {w : World} {base n sz : Nat} {e : TypeId} {v : Value} {xs : List Value} (h : w.ownsRow base e sz v n xs) : ∃ A c, v = .slice A n c ∧ n ≤ c ∧ c ≤ 9223372036854775807 ∧ RowAt w w.heap.size sz A n xs := by
  rcases h.2 with ⟨rfl, h0⟩ | ⟨g, cap, cur, rfl, hge, hheap, hlen, hcap, hsize, htake⟩
  · exact ⟨none, 0, by rw [h0], by omega, by omega, h.1, fun hn => absurd h0 hn⟩
  · unfold maxLen at hcap
    refine ⟨some ⟨g, 0, none⟩, cap, rfl, hlen, hcap, h.1, fun _ => ⟨g, 0, rfl, (Array.getElem?_eq_some_iff.1 hheap).1, fun j hj => ?_⟩⟩
    have hl : xs.length = n * sz := h.1
    obtain ⟨u, hu⟩ : ∃ u, xs[j]? = some u := ⟨_, List.getElem?_eq_getElem (by rw [hl]; exact hj)⟩
    have hx := h.cells (g := g) rfl j u hu
    rw [show (⟨g, 0, none⟩ : Addr).add j = ⟨g, 0 + j, none⟩ by cases j <;> simp [Addr.add]] at hx
    rw [hx]; exact hu.symm
/-- The nodes of the first concepts together. -/
def totS (l : List MT) (k : Nat) : Nat := ((l.take k).map fun T => T.tr.size).sum
theorem totS_next {l : List MT} {k : Nat} (hk : k < l.length) : totS l (k + 1) = totS l k + l[k].tr.size := by
  rw [totS, List.take_succ_eq_append_getElem hk, List.map_append, List.sum_append]; simp [totS]
theorem totS_le {l : List MT} {N : Nat} (h : ∀ T ∈ l, T.tr.size ≤ N) : ∀ k, k ≤ l.length → totS l k ≤ k * N
  | 0, _ => by simp [totS]
  | k + 1, hk => by
    rw [totS_next (by omega), Nat.succ_mul]
    have := totS_le h k (by omega)
    have := h l[k] (List.getElem_mem (by omega))
    omega
def okC (b : BN) (T : MT) : Bool := checkF b.N T == 0
def fitB (b : BN) : Bool := b.cons.all (okC b) && decide (totS b.cons b.cons.length ≤ 400)

set_option maxRecDepth 100000 in
set_option maxHeartbeats 8000000 in
theorem conceptsFit_any (b : BN) (w : World) (hG : GA w) (hb : b.In w.heap.size w) (hI : b.I.length ≤ 1000) (hF : b.F.length ≤ 1000) (hsz : ∀ T ∈ b.cons, T.tr.size ≤ 1000000) : Calls Tryz.prog 101 #[b.val] w fun e w' => e = .returned (.bool (fitB b)) ∧ Below w.heap.size w w' := by
  obtain ⟨W1, hW1, hB1, hs1, hk1⟩ := newBlk w _ rfl #[.slice b.N.C.A b.N.C.l.length b.N.C.c, .slice b.N.R.A b.N.R.l.length b.N.R.c, .slice b.N.I.A b.N.I.l.length b.N.I.c, .slice b.IA b.I.length b.ic, .slice b.R.A b.R.l.length b.R.c, .slice b.FA b.F.length b.fc, .slice b.L.A b.L.l.length b.L.c] 30
  have hbb := fun w' (h : Below W1.heap.size W1 w') => bbox_of (b := b) (blk_lat hk1 h)
  obtain ⟨c0, c1, c2, c3, c4, c5, c6⟩ := hbb W1 (Below.refl _ _)
  have hpa := parts_any b W1 (hb.later hB1) hI hF
  have hin := fun T hT w' (h : Below W1.heap.size W1 w') => ((cons_in hb T hT).later hB1).later h
  have hck := fun T hT w' (h : Below W1.heap.size W1 w') => cCheckA_any b.N T w' ((hG.later hB1).later h) ((hb.n.later hB1).later h) (hin T hT w' h) (by rw [MT.pre_length]; exact hsz T hT)
  have hcs := fun T hT w' (h : Below W1.heap.size W1 w') => cSize_any T w' (hin T hT w' h) (by rw [MT.pre_length]; exact hsz T hT)
  have hll := cons_len b
  have hlt : b.cons.length ≤ 3000 := by omega
  have htl := totS_le hsz
  have HFB := Lib.hid (show fitB b = (b.cons.all (okC b) && decide (totS b.cons b.cons.length ≤ 400)) from rfl)
  have hokc : ∀ T, okC b T = (checkF b.N T == 0) := fun _ => rfl
  have HOKC := Lib.hid hokc
  have HBL := Lib.hid hB1
  have HBB := Lib.hid hbb
  simp only [MT.pre_length] at hcs
  obtain ⟨l, hl⟩ : ∃ l, b.cons = l := ⟨_, rfl⟩
  rw [hl] at hpa hin hck hcs hlt htl HFB hsz
  have HSZ := Lib.hid hsz
  have HCK := Lib.hid hck
  have HCS := Lib.hid hcs
  have HTL := Lib.hid htl
  simp only [NM.val, MT.val, BN.val] at hpa HCK HCS ⊢
  clear hG hb hI hF hsz hB1 hk1 hbb hin hck hcs htl hll hl hokc
  go_enter Tryz.func101, Tryz.ntmps101
  go_wp2_with (go_at_call 146; refine hpa.mono ?_; clear hpa; rintro e w2 ⟨v, rfl, hop, hb2⟩; obtain ⟨A2, k2, hv2, hn2, hc2, hrow⟩ := row_of_owns hop; subst hv2; have HRW := Lib.hid hrow; clear hop hrow)
  clear c0 c1 c2 c3 c4 c5 c6
  go_loopw [3, 11] (fun t i' wr => ∃ k : Nat, k ≤ l.length ∧ i' = .int .i64 (k : Nat) ∧ t = .int .i64 (totS l k : Nat) ∧ (∀ j (hj : j < l.length), j < k → okC b l[j] = true) ∧ Below w2.heap.size w2 wr) (fun _ i' _ => l.length - (intOf i').toNat)
  case atStart => exact ⟨0, Nat.zero_le _, rfl, rfl, fun j _ h => absurd h (by omega), Below.refl _ _⟩
  case round =>
    rename World => wr
    obtain ⟨k, hk, rfl, rfl, hall, hbw⟩ := hrel
    have HA := Lib.hid hall
    clear hall
    have htk := HTL.out k hk
    have htk2 : totS l k ≤ 3000000000 := by omega
    clear htk
    by_cases hltk : k < l.length
    · obtain ⟨g, off, hA, hg, e0, e1, e2⟩ := elem3 (HRW.out.below (Nat.le_refl _) hbw) (Below.refl _ _) hltk
      have h0K : (0 : Int) ≤ k := by omega
      have hlK : (k : Int) < l.length := by omega
      have HTN := Lib.hid (totS_next hltk)
      have hz1 : l[k].tr.size ≤ 1000000 := HSZ.out _ (List.getElem_mem hltk)
      obtain ⟨Wa, hWa, hBa, hsa, hka⟩ := newBlk wr _ rfl #[.int .i64 l[k].op, .int .i64 l[k].n, .slice l[k].A l[k].args.length l[k].c] 33
      have h1a : Below W1.heap.size W1 Wa := hb2.trans ((hbw.trans (hBa.mono hbw.size)).mono hb2.size)
      have h2a : Below w2.heap.size w2 Wa := hbw.trans (hBa.mono hbw.size)
      obtain ⟨c0, c1, c2, c3, c4, c5, c6⟩ := HBB.out Wa h1a
      have HCa := Lib.hid (fun w' (h : Below Wa.heap.size Wa w') => box_cells hka h)
      have hck := HCK.out l[k] (List.getElem_mem hltk) Wa h1a
      have hcs := fun w' (h : Below Wa.heap.size Wa w') => HCS.out l[k] (List.getElem_mem hltk) w' (h1a.trans (h.mono h1a.size))
      obtain ⟨d0, d1, d2⟩ := HCa.out Wa (Below.refl _ _)
      have hokk := HOKC.out l[k]
      obtain ⟨ok, hok⟩ : ∃ x, okC b l[k] = x := ⟨_, rfl⟩
      have HOK := Lib.hid hok
      obtain ⟨z, hz⟩ : ∃ z, checkF b.N l[k] = z := ⟨_, rfl⟩
      rw [hz] at hck hokk
      rw [hok] at hokk
      have HCKk := Lib.hid hck
      have HCSk := Lib.hid hcs
      have H2A := Lib.hid h2a
      have HSA := Lib.hid hsa
      rw [hA]
      clear hck hcs hok hz hbw hBa hka hsa hA h2a h1a
      generalize l[k] = T at e0 e1 e2 hWa HTN hz1 HCKk HCSk HCa d0 d1 d2
      cases ok
      · have q0 : (z != 0) = true := by rw [bne, ← hokk]; rfl
        clear hokk
        go_wp2_with (go_at_call 69; refine HCKk.out.mono ?_; rintro e w5 ⟨rfl, hb5⟩)
        go_ret
        exact ⟨by rw [HFB.out, all_no hltk HOK.out]; rfl, HBL.out.trans ((hb2.trans ((H2A.out.trans (hb5.mono H2A.out.size)).mono hb2.size)).mono HBL.out.size)⟩
      · have hz0 : z = 0 := by simpa using hokk.symm
        subst hz0
        clear hokk
        go_wp2_with (first
          | (go_at_call 122; refine (HCSk.out w5 hb5).mono ?_; rintro e w6 ⟨rfl, hb6⟩)
          | (go_at_call 69; refine HCKk.out.mono ?_; rintro e w5 ⟨rfl, hb5⟩; obtain ⟨f0, f1, f2⟩ := HCa.out w5 hb5))
        go_roundw
        case rel => exact ⟨k + 1, by omega, by go_num, by rw [HTN.out]; go_num, all_more hltk HOK.out HA.out, H2A.out.trans ((hb5.trans (hb6.mono hb5.size)).mono H2A.out.size)⟩
        case measure => simp [intOf]; omega
    · have hke : k = l.length := by omega
      have HFA := Lib.hid (all_yes (f := okC b) (l := l) fun j hj => HA.out j hj (by omega))
      subst hke
      have HBW := Lib.hid hbw
      clear hbw HA
      go_wp2_with fail
      go_ret
      exact ⟨by rw [HFB.out, HFA.out, Bool.true_and]; simp; omega, HBL.out.trans ((hb2.trans (HBW.out.mono hb2.size)).mono HBL.out.size)⟩

set_option maxRecDepth 100000 in
set_option maxHeartbeats 2000000 in
theorem kCount_any (b : BN) (w : World) (hI : b.I.length ≤ 1000000) (hR : b.R.l.length ≤ 1000000) (hF : b.F.length ≤ 1000000) (hL : b.L.l.length ≤ 1000000) : Calls Tryz.prog 99 #[b.val] w fun e w' => e = .returned (.int .i64 (b.I.length + b.R.l.length + b.F.length + b.L.l.length : Nat)) ∧ Below w.heap.size w w' := by
  obtain ⟨W1, hW1, hB1, hs1, hk1⟩ := newBlk w _ rfl #[.slice b.N.C.A b.N.C.l.length b.N.C.c, .slice b.N.R.A b.N.R.l.length b.N.R.c, .slice b.N.I.A b.N.I.l.length b.N.I.c, .slice b.IA b.I.length b.ic, .slice b.R.A b.R.l.length b.R.c, .slice b.FA b.F.length b.fc, .slice b.L.A b.L.l.length b.L.c] 30
  obtain ⟨c0, c1, c2, c3, c4, c5, c6⟩ := bbox_of (b := b) hk1
  simp only [BN.val]
  have HBL := Lib.hid hB1
  clear hB1 hk1
  go_enter Tryz.func99, Tryz.ntmps99
  go_wp2_with fail
  go_ret
  exact ⟨by simp, HBL.out⟩

/-- Check's verdict over a knowledge base. -/
def kcheckB (b : BN) : Bool := b.N.ok && (decide (b.I.length + b.R.l.length + b.F.length + b.L.l.length ≤ 60) && (numsB b && fitB b))

set_option maxRecDepth 100000 in
set_option maxHeartbeats 4000000 in
theorem kCheck_any (b : BN) (w : World) (hG : GA w) (hb : b.In w.heap.size w) (hI : b.I.length ≤ 1000) (hR : b.R.l.length ≤ 1000) (hF : b.F.length ≤ 1000) (hL : b.L.l.length ≤ 1000) (hN : b.N.R.l.length ≤ 1000) (hsz : ∀ T ∈ b.cons, T.tr.size ≤ 1000000) :
    Calls Tryz.prog 61 #[b.val] w fun e w' => e = .returned (.int .i64 (codeIf (kcheckB b) 20)) ∧ Below w.heap.size w w' := by
  obtain ⟨W1, hW1, hB1, hs1, hk1⟩ := newBlk w _ rfl #[.slice b.N.C.A b.N.C.l.length b.N.C.c, .slice b.N.R.A b.N.R.l.length b.N.R.c, .slice b.N.I.A b.N.I.l.length b.N.I.c, .slice b.IA b.I.length b.ic, .slice b.R.A b.R.l.length b.R.c, .slice b.FA b.F.length b.fc, .slice b.L.A b.L.l.length b.L.c] 30
  have hbb := fun w' (h : Below W1.heap.size W1 w') => bbox_of (b := b) (blk_lat hk1 h)
  have hna := fun w' (h : Below W1.heap.size W1 w') => cNames_any b.N w' ((hb.n.later hB1).later h)
  have hco := fun w' => kCount_any b w' (by omega) (by omega) (by omega) (by omega)
  have hnu := fun w' (h : Below W1.heap.size W1 w') => numbersExist_any b w' ((hb.later hB1).later h) hN
  have hfi := fun w' (h : Below W1.heap.size W1 w') => conceptsFit_any b w' ((hG.later hB1).later h) ((hb.later hB1).later h) hI hF hsz
  obtain ⟨c0, c1, c2, c3, c4, c5, c6⟩ := hbb W1 (Below.refl _ _)
  have HKB := Lib.hid (show kcheckB b = (b.N.ok && (decide (b.I.length + b.R.l.length + b.F.length + b.L.l.length ≤ 60) && (numsB b && fitB b))) from rfl)
  obtain ⟨ct, hct⟩ : ∃ ct, b.I.length + b.R.l.length + b.F.length + b.L.l.length = ct := ⟨_, rfl⟩
  obtain ⟨o1, ho1⟩ : ∃ x, b.N.ok = x := ⟨_, rfl⟩
  obtain ⟨o3, ho3⟩ : ∃ x, numsB b = x := ⟨_, rfl⟩
  obtain ⟨o4, ho4⟩ : ∃ x, fitB b = x := ⟨_, rfl⟩
  rw [hct, ho1, ho3, ho4] at HKB
  rw [ho1] at hna
  rw [hct] at hco
  rw [ho3] at hnu
  rw [ho4] at hfi
  have hctl : ct ≤ 4000 := by omega
  have HNA := Lib.hid hna
  have HCO := Lib.hid hco
  have HNU := Lib.hid hnu
  have HFI := Lib.hid hfi
  have HBL := Lib.hid hB1
  have HBB := Lib.hid hbb
  simp only [NM.val, BN.val] at HNA HCO HNU HFI ⊢
  clear hG hb hI hR hF hL hN hsz hB1 hk1 hbb hna hco hnu hfi hct ho1 ho3 ho4
  cases o1
  · go_enter Tryz.func61, Tryz.ntmps61
    go_wp2_with (go_at_call 98; refine (HNA.out W1 (Below.refl _ _)).mono ?_; rintro e w2 ⟨rfl, hb2⟩)
    go_ret
    exact ⟨by rw [HKB.out]; rfl, HBL.out.trans (hb2.mono HBL.out.size)⟩
  · by_cases hc : ct ≤ 60
    · have q1 : decide ((60 : Int) < (ct : Int)) = false := decide_eq_false (by omega)
      rw [decide_eq_true hc] at HKB
      cases o3
      · go_enter Tryz.func61, Tryz.ntmps61
        go_wp2_with (first
          | (go_at_call 100; refine (HNU.out w3 hb3).mono ?_; rintro e w4 ⟨rfl, hb4'⟩; have hb4 : Below W1.heap.size W1 w4 := hb3.trans (hb4'.mono hb3.size))
          | (go_at_call 99; refine (HCO.out w2).mono ?_; rintro e w3 ⟨rfl, hb3'⟩; have hb3 : Below W1.heap.size W1 w3 := hb2.trans (hb3'.mono hb2.size); obtain ⟨e0, e1, e2, e3, e4, e5, e6⟩ := HBB.out w3 hb3)
          | (go_at_call 98; refine (HNA.out W1 (Below.refl _ _)).mono ?_; rintro e w2 ⟨rfl, hb2⟩; obtain ⟨d0, d1, d2, d3, d4, d5, d6⟩ := HBB.out w2 hb2))
        go_ret
        exact ⟨by rw [HKB.out]; rfl, HBL.out.trans (hb4.mono HBL.out.size)⟩
      · cases o4
        all_goals
          go_enter Tryz.func61, Tryz.ntmps61
          go_wp2_with (first
            | (go_at_call 101; refine (HFI.out w4 hb4).mono ?_; rintro e w5 ⟨rfl, hb5'⟩; have hb5 : Below W1.heap.size W1 w5 := hb4.trans (hb5'.mono hb4.size))
            | (go_at_call 100; refine (HNU.out w3 hb3).mono ?_; rintro e w4 ⟨rfl, hb4'⟩; have hb4 : Below W1.heap.size W1 w4 := hb3.trans (hb4'.mono hb3.size); obtain ⟨f0, f1, f2, f3, f4, f5, f6⟩ := HBB.out w4 hb4)
            | (go_at_call 99; refine (HCO.out w2).mono ?_; rintro e w3 ⟨rfl, hb3'⟩; have hb3 : Below W1.heap.size W1 w3 := hb2.trans (hb3'.mono hb2.size); obtain ⟨e0, e1, e2, e3, e4, e5, e6⟩ := HBB.out w3 hb3)
            | (go_at_call 98; refine (HNA.out W1 (Below.refl _ _)).mono ?_; rintro e w2 ⟨rfl, hb2⟩; obtain ⟨d0, d1, d2, d3, d4, d5, d6⟩ := HBB.out w2 hb2))
          go_ret
          exact ⟨by rw [HKB.out]; rfl, HBL.out.trans (hb5.mono HBL.out.size)⟩
    · have q1 : decide ((60 : Int) < (ct : Int)) = true := decide_eq_true (by omega)
      rw [decide_eq_false hc] at HKB
      go_enter Tryz.func61, Tryz.ntmps61
      go_wp2_with (first
        | (go_at_call 99; refine (HCO.out w2).mono ?_; rintro e w3 ⟨rfl, hb3'⟩; have hb3 : Below W1.heap.size W1 w3 := hb2.trans (hb3'.mono hb2.size))
        | (go_at_call 98; refine (HNA.out W1 (Below.refl _ _)).mono ?_; rintro e w2 ⟨rfl, hb2⟩; obtain ⟨d0, d1, d2, d3, d4, d5, d6⟩ := HBB.out w2 hb2))
      go_ret
      exact ⟨by rw [HKB.out]; rfl, HBL.out.trans (hb3.mono HBL.out.size)⟩
end Go.Proofs.YtndkcimajeofcaaGreatDoor

namespace Go.Proofs.YtndkcimajeofcaaGreatDoor
open Go.RowKit

/-- A property of the world that hangs on the blocks from lo to hi alone. -/
def Held (lo hi : Nat) (w : World) (P : World → Prop) : Prop := hi ≤ w.heap.size ∧ ∀ w' : World, hi ≤ w'.heap.size → (∀ b, lo ≤ b → b < hi → w'.heap[b]? = w.heap[b]?) → P w'
theorem Held.now {lo hi : Nat} {w : World} {P : World → Prop} (h : Held lo hi w P) : P w := h.2 w h.1 fun _ _ _ => rfl
theorem Held.imp {lo hi : Nat} {w : World} {P Q : World → Prop} (h : Held lo hi w P) (hpq : ∀ w', P w' → Q w') : Held lo hi w Q := ⟨h.1, fun w' h1 h2 => hpq w' (h.2 w' h1 h2)⟩
theorem Held.and {lo hi : Nat} {w : World} {P Q : World → Prop} (h : Held lo hi w P) (k : Held lo hi w Q) : Held lo hi w (fun w' => P w' ∧ Q w') := ⟨h.1, fun w' h1 h2 => ⟨h.2 w' h1 h2, k.2 w' h1 h2⟩⟩
theorem Held.wide {lo hi lo' hi' : Nat} {w : World} {P : World → Prop} (h : Held lo hi w P) (h1 : lo' ≤ lo) (h2 : hi ≤ hi') (h3 : hi' ≤ w.heap.size) : Held lo' hi' w P :=
  ⟨h3, fun w' h4 h5 => h.2 w' (Nat.le_trans h2 h4) fun b h6 h7 => h5 b (Nat.le_trans h1 h6) (Nat.lt_of_lt_of_le h7 h2)⟩
theorem Held.grown {lo hi : Nat} {w w' : World} {row : Option Nat} {P : World → Prop} (h : Held lo hi w P) (hg : w.grownBy w' row) (hr : ∀ g, row = some g → g < lo ∨ hi ≤ g) : Held lo hi w' P :=
  ⟨Nat.le_trans h.1 hg.size, fun w2 h2 hb => h.2 w2 h2 fun b h3 h4 => (hb b h3 h4).trans (hg.block b (Nat.lt_of_lt_of_le h4 h.1) (fun e => by rcases hr b e.symm with h5 | h5 <;> omega))⟩
theorem Held.later {lo hi : Nat} {w w' : World} {P : World → Prop} (h : Held lo hi w P) (hb : Below w.heap.size w w') : Held lo hi w' P :=
  ⟨Nat.le_trans h.1 hb.size, fun w2 h2 h3 => h.2 w2 h2 fun b h4 h5 => (h3 b h4 h5).trans (hb.block b (Nat.lt_of_lt_of_le h5 h.1))⟩
theorem Held.set {lo hi : Nat} {w : World} {p : Addr} {u : Value} {P : World → Prop} (h : Held lo hi w P) (hp : p.block < lo ∨ hi ≤ p.block) : Held lo hi (w.setCell p u) P :=
  h.grown (row := some p.block) ⟨rfl, rfl, rfl, (KeepsWalks.setCell w p u).size, fun k _ hk => Below.heap_setCell _ _ _ k (fun e => hk (by rw [e]))⟩ (fun g e => by cases e; exact hp)
/-- A tree of the call's own. -/
theorem held_tree {lo : Nat} {w : World} {T : MT} (h : New lo w T) : Held lo w.heap.size w (fun w' => T.In w'.heap.size w') :=
  ⟨Nat.le_refl _, fun _w' h1 h2 => MT.In.moved (p := fun b => lo ≤ b ∧ b < w.heap.size) (fun b _o hb => World.cell?_of_block (w := w) (h2 b hb.1 hb.2)) (fun _b hb => Nat.lt_of_lt_of_le hb.2 h1) T h.1 (MT.All.imp (fun _b hb => ⟨hb.1.1, hb.2⟩) T (MT.All.and T h.2 (MT.In.all T h.1)))⟩
/-- A row of the call's own. -/
theorem held_row {w : World} {lo n sz : Nat} {e : TypeId} {v : Value} {xs : List Value} (h : w.ownsRow lo e sz v n xs) : ∃ A c, v = .slice A n c ∧ n ≤ c ∧ c ≤ 9223372036854775807 ∧ Held lo w.heap.size w (fun w' => RowAt w' w'.heap.size sz A n xs) := by
  rcases h.2 with ⟨rfl, h0⟩ | ⟨g, cap, cur, rfl, hge, hheap, hlen, hcap, hsize, htake⟩
  · exact ⟨none, 0, by rw [h0], by omega, by omega, Nat.le_refl _, fun w' _ _ => ⟨h.1, fun hn => absurd h0 hn⟩⟩
  · unfold maxLen at hcap
    have hg : g < w.heap.size := (Array.getElem?_eq_some_iff.1 hheap).1
    refine ⟨some ⟨g, 0, none⟩, cap, rfl, hlen, hcap, Nat.le_refl _, fun w' h1 h2 => ⟨h.1, fun _ => ⟨g, 0, rfl, Nat.lt_of_lt_of_le hg h1, fun j hj => ?_⟩⟩⟩
    have hl : xs.length = n * sz := h.1
    obtain ⟨u, hu⟩ : ∃ u, xs[j]? = some u := ⟨_, List.getElem?_eq_getElem (by rw [hl]; exact hj)⟩
    have hx := h.cells (g := g) rfl j u hu
    rw [show (⟨g, 0, none⟩ : Addr).add j = ⟨g, 0 + j, none⟩ by cases j <;> simp [Addr.add]] at hx
    rw [World.cell?_of_block (w := w) (h2 g hge hg), hx]; exact hu.symm

/-- WHAT HAS BEEN COLLECTED: the slice v of the call's own holds the things xs, each of which hangs on blocks beside v's and D. -/
structure CollH {α : Type} (f : α → List Value) (sz : Nat) (t : TypeId) (I : α → World → Prop) (D base : Nat) (w : World) (v : Value) (xs : List α) : Prop where
  own : w.ownsRow base t sz v xs.length (xs.flatMap f)
  held : ∀ x ∈ xs, ∃ lo hi, base ≤ lo ∧ (∀ g, v.ownBlock = some g → g < lo ∨ hi ≤ g) ∧ Held lo hi w (I x)
section
variable {α : Type} {f : α → List Value} {sz : Nat} {t : TypeId} {I : α → World → Prop} {D base : Nat} {w w' : World} {v v' : Value} {xs : List α}
theorem CollH.nil : CollH f sz t I D base w (.slice none 0 0) [] := ⟨⟨by simp, .inl ⟨rfl, rfl⟩⟩, by simp⟩
theorem CollH.later (h : CollH f sz t I D base w v xs) (hb : Below w.heap.size w w') : CollH f sz t I D base w' v xs :=
  ⟨owns_below h.own hb, fun x hx => by obtain ⟨lo, hi, h1, h2, h3⟩ := h.held x hx; exact ⟨lo, hi, h1, h2, h3.later hb⟩⟩
/-- A step that writes a block below base. -/
theorem CollH.low {g : Nat} (h : CollH f sz t I D base w v xs) (hg : w.grownBy w' (some g)) (hl : g < base) : CollH f sz t I D base w' v xs := by
  refine ⟨owns_grown h.own hg ?_, fun x hx => ?_⟩
  · by_cases hv : v.ownBlock = none
    · exact .inr hv
    · refine .inl fun e => ?_
      have := (own_lt h.own e).1
      omega
  · obtain ⟨lo, hi, h1, h2, h3⟩ := h.held x hx
    exact ⟨lo, hi, h1, h2, h3.grown hg (fun k e => by cases e; exact .inl (by omega))⟩
theorem CollH.add {x : α} {lo hi : Nat} (h : CollH f sz t I D base w v xs) (hx : Held lo hi w (I x)) (h1 : base ≤ lo) (h2 : ∀ g, v.ownBlock = some g → g < lo ∨ hi ≤ g)
    (hown : w'.ownsRow base t sz v' (xs.length + 1) (xs.flatMap f ++ f x)) (hg : w.grownBy w' v.ownBlock) (hv : v'.ownBlock = v.ownBlock ∨ ∃ g, v'.ownBlock = some g ∧ w.heap.size ≤ g) : CollH f sz t I D base w' v' (xs ++ [x]) := by
  refine ⟨by rw [List.length_append, List.flatMap_append]; simpa using hown, fun y hy => ?_⟩
  obtain ⟨lo', hi', k1, k2, k3⟩ : ∃ lo hi, base ≤ lo ∧ (∀ g, v.ownBlock = some g → g < lo ∨ hi ≤ g) ∧ Held lo hi w (I y) := by
    rcases List.mem_append.1 hy with hy | hy
    · exact h.held y hy
    · rw [List.mem_singleton.1 hy]; exact ⟨lo, hi, h1, h2, hx⟩
  refine ⟨lo', hi', k1, fun g e => ?_, k3.grown hg k2⟩
  rcases hv with hv | ⟨g', hv, hge⟩
  · rw [hv] at e; exact k2 g e
  · rw [hv] at e; cases e; exact .inr (Nat.le_trans k3.1 hge)
/-- What has been collected hangs on the blocks from base on. -/
theorem CollH.all (h : CollH f sz t I D base w v xs) : ∃ A c, v = .slice A xs.length c ∧ xs.length ≤ c ∧ c ≤ 9223372036854775807 ∧ Held base w.heap.size w (fun w' => RowAt w' w'.heap.size sz A xs.length (xs.flatMap f) ∧ ∀ x ∈ xs, I x w') := by
  obtain ⟨A, c, h1, h2, h3, h4⟩ := held_row h.own
  refine ⟨A, c, h1, h2, h3, h4.and ⟨Nat.le_refl _, fun w' k1 k2 x hx => ?_⟩⟩
  obtain ⟨lo, hi, j1, -, j3⟩ := h.held x hx
  exact j3.2 w' (Nat.le_trans j3.1 k1) fun b l1 l2 => k2 b (Nat.le_trans j1 l1) (Nat.lt_of_lt_of_le l2 j3.1)
end
theorem Held.same {lo hi : Nat} {w w' : World} {P : World → Prop} (h : Held lo hi w P) (hs : hi ≤ w'.heap.size) (he : ∀ b, lo ≤ b → b < hi → w'.heap[b]? = w.heap[b]?) : Held lo hi w' P :=
  ⟨hs, fun w2 h2 h3 => h.2 w2 h2 fun b h4 h5 => (h3 b h4 h5).trans (he b h4 h5)⟩
/-- ONE ROUND of 'out.F = append(out.F, x)' where x was made in the round: w6 is the world behind x, o the block of the one element, w7 the append's, j the field's number. -/
theorem kl_step {α : Type} {f : α → List Value} {sz : Nat} {t T : TypeId} {I : α → World → Prop} {D B j g cap : Nat} {wr w6 w7 : World} {v : Value} {xs : List α} {x : α} {cs : Array Value} {o : Obj}
    (h : CollH f sz t I D B wr v xs) (hbox : wr.heap[D]? = some (.cells cs T)) (hDB : D < B) (hsz : B ≤ wr.heap.size) (hb6 : Below wr.heap.size wr w6) (hx : Held wr.heap.size w6.heap.size w6 (I x))
    (hown : w7.ownsRow B t sz (.slice (some ⟨g, 0, none⟩) (xs.length + 1) cap) (xs.length + 1) (xs.flatMap f ++ f x)) (hg : (w6.alloc o).grownBy w7 v.ownBlock) (hat : v.ownBlock = some g ∨ g = w6.heap.size + 1) :
    (w7.setCell ⟨D, j, none⟩ (.slice (some ⟨g, 0, none⟩) (xs.length + 1) cap)).heap[D]? = some (.cells (cs.setIfInBounds j (.slice (some ⟨g, 0, none⟩) (xs.length + 1) cap)) T) ∧
    CollH f sz t I D B (w7.setCell ⟨D, j, none⟩ (.slice (some ⟨g, 0, none⟩) (xs.length + 1) cap)) (.slice (some ⟨g, 0, none⟩) (xs.length + 1) cap) (xs ++ [x]) ∧
    (∀ b, b < B → b ≠ D → (w7.setCell ⟨D, j, none⟩ (.slice (some ⟨g, 0, none⟩) (xs.length + 1) cap)).heap[b]? = wr.heap[b]?) ∧
    B ≤ (w7.setCell ⟨D, j, none⟩ (.slice (some ⟨g, 0, none⟩) (xs.length + 1) cap)).heap.size ∧ Below D wr (w7.setCell ⟨D, j, none⟩ (.slice (some ⟨g, 0, none⟩) (xs.length + 1) cap)) := by
  have hba : Below wr.heap.size wr (w6.alloc o) := hb6.alloc hb6.size o
  have hlt : ∀ b, v.ownBlock = some b → B ≤ b ∧ b < wr.heap.size := fun b e => own_lt h.own e
  have hs7 := hg.size
  have hsa : (w6.alloc o).heap.size = w6.heap.size + 1 := by simp
  have hs6 := hb6.size
  have hold : ∀ b, b < B → w7.heap[b]? = wr.heap[b]? := fun b hb => (hg.block b (by omega) (fun e => by have := (hlt b e.symm).1; omega)).trans (hba.block b (by omega))
  have hc := (h.later hba).add (x := x) (hx.later ((Below.refl _ w6).alloc (Nat.le_refl _) o)) hsz (fun b e => .inl (hlt b e).2) hown hg (by
    rcases hat with e | e
    · exact .inl e.symm
    · exact .inr ⟨g, rfl, by omega⟩)
  have hset := grown_set w7 D j (.slice (some ⟨g, 0, none⟩) (xs.length + 1) cap)
  refine ⟨blk_set ((hold D hDB).trans hbox) j _, hc.low hset hDB, fun b hb hne => (hset.block b (by omega) (fun e => hne (Option.some.inj e))).trans (hold b hb), Nat.le_trans (by omega) hset.size, ?_⟩
  have h1 : Below D wr w7 := (hba.mono (by omega)).grown hg (by omega) (fun k e => by have := (hlt k e).1; omega)
  exact h1.setCell (p := ⟨D, j, none⟩) (Nat.le_refl _) _
end Go.Proofs.YtndkcimajeofcaaGreatDoor

namespace Go.Proofs.YtndkcimajeofcaaGreatDoor
open Go.RowKit

set_option maxRecDepth 100000 in
set_option maxHeartbeats 4000000 in
/-- change: it writes into the call's own blocks alone. -/
theorem change5_any (T : MT) : ∀ (lo b off : Nat) (cs : Array Value) (t : TypeId) (x y : Int) (w : World), lo ≤ b → w.heap[b]? = some (.cells cs t) → cs[off]? = some (.int .i64 x) → cs[off + 1]? = some (.int .i64 y) → cs[off + 2]? = some (.slice T.A T.args.length T.c) → Sk lo w T →
    Calls Tryz.prog 44 #[.pointer (some ⟨b, off, none⟩)] w fun e w' => e = .returned (.tuple #[]) ∧ Chg lo w w' := by
  induction T using MT.induct with
  | h op nn A c args ih =>
    intro lo b off cs t x y w hlo hb h0 h1 h2 hsk
    simp only [MT.A, MT.args, MT.c] at h2
    have hsk0 := hsk
    rw [Sk] at hsk
    obtain ⟨hlc, hc, -, -⟩ := hsk
    have hsz : args.length ≤ 9223372036854775807 := by omega
    have hat : ∀ wr, Chg lo w wr → ∃ cs' x' y', wr.heap[b]? = some (.cells cs' t) ∧ cs'[off]? = some (.int .i64 x') ∧ cs'[off + 1]? = some (.int .i64 y') ∧ cs'[off + 2]? = some (.slice A args.length c) := fun wr hch => by
      obtain ⟨cs', hb', he⟩ := hch.same b cs t hb
      have e0 : ∃ x', cs'[off]? = some (.int .i64 x') := by
        rcases he off with e | ⟨_, z, _, e⟩
        · exact ⟨x, e.trans h0⟩
        · exact ⟨z, e⟩
      have e1 : ∃ y', cs'[off + 1]? = some (.int .i64 y') := by
        rcases he (off + 1) with e | ⟨_, z, _, e⟩
        · exact ⟨y, e.trans h1⟩
        · exact ⟨z, e⟩
      obtain ⟨x', e0⟩ := e0
      obtain ⟨y', e1⟩ := e1
      refine ⟨cs', x', y', hb', e0, e1, ?_⟩
      rcases he (off + 2) with e | ⟨_, z, e, _⟩
      · exact e.trans h2
      · rw [h2] at e; cases e
    have c2 : w.cell? ⟨b, off + 2, none⟩ = some (.slice A args.length c) := by rw [cell_of_blk hb]; exact h2
    have HAT := Lib.hid hat
    have HSK := Lib.hid hsk0
    have HIH := Lib.hid ih
    clear hat hsk0 ih h0 h1 h2 hb
    go_enter Tryz.func44, Tryz.ntmps44
    go_wp2_with fail
    go_loopw [8] (fun i wr => ∃ k : Nat, k ≤ args.length ∧ i = .int .i64 k ∧ Chg lo w wr) (fun i _ => args.length - (intOf i).toNat)
    case atStart => exact ⟨0, Nat.zero_le _, rfl, Chg.refl _ _⟩
    case round =>
      obtain ⟨k, hk, rfl, hch⟩ := hrel
      obtain ⟨cs', x', y', hb', g0, g1, g2⟩ := HAT.out wr hch
      have d2 : wr.cell? ⟨b, off + 2, none⟩ = some (.slice A args.length c) := by rw [cell_of_blk hb']; exact g2
      by_cases hlt : k < args.length
      · have hsk' := Sk.chg hch _ HSK.out
        rw [Sk] at hsk'
        obtain ⟨-, -, hrow, hks⟩ := hsk'
        obtain ⟨rb, ro, rcs, rfl, hrlo, hrb, hrc⟩ := hrow (by omega)
        obtain ⟨⟨xx, q0⟩, ⟨yy, q1⟩, q2⟩ := hrc k hlt
        have hih := HIH.out k hlt lo rb (ro + k * 3) rcs _ xx yy wr hrlo hrb q0 q1 q2 (hks.at_ k hlt)
        have h0I : (0 : Int) ≤ k := by omega
        have hlI : (k : Int) < args.length := by omega
        clear hrc hks hrow
        go_wp2_with (go_at_call 44; refine hih.mono ?_; clear hih; rintro e w' ⟨rfl, hch2⟩)
        go_roundw
        case rel => exact ⟨k + 1, by omega, by go_num, hch.trans hch2⟩
        case measure => simp [intOf]; omega
      · have f0 := frozen_of_blk hb' off
        have f1 := frozen_of_blk hb' (off + 1)
        have d0 : wr.cell? ⟨b, off, none⟩ = some (.int .i64 x') := by rw [cell_of_blk hb']; exact g0
        have d1 : wr.cell? ⟨b, off + 1, none⟩ = some (.int .i64 y') := by rw [cell_of_blk hb']; exact g1
        have s1 := Chg.set (y := -7) hlo hb' g0
        have s2 := Chg.set (off := off + 1) (y := -7) hlo (blk_set hb' off (.int .i64 (-7))) (by rw [Array.getElem?_setIfInBounds_ne (by omega)]; exact g1)
        go_wp2
        go_end0
        exact ⟨rfl, (hch.trans s1).trans s2⟩
/-- An element of a row of one's own, as it lies. -/
theorem row_at {w : World} {base : Nat} {v : Value} {Ts : List MT} (h : w.ownsRow base 33 3 v Ts.length (Ts.flatMap MT.cs)) {k : Nat} (hk : k < Ts.length) : ∃ g cap cur, v = .slice (some ⟨g, 0, none⟩) Ts.length cap ∧ base ≤ g ∧ w.heap[g]? = some (.cells cur 33) ∧ cur[k * 3]? = some (.int .i64 Ts[k].op) ∧ cur[k * 3 + 1]? = some (.int .i64 Ts[k].n) ∧ cur[k * 3 + 2]? = some (.slice Ts[k].A Ts[k].args.length Ts[k].c) := by
  rcases h.2 with ⟨-, h0⟩ | ⟨g, cap, cur, rfl, hge, hheap, -, -, -, htake⟩
  · omega
  · obtain ⟨A', c', hv', -, -, hr⟩ := row_of_owns h
    cases hv'
    obtain ⟨b, off, hA, -, e0, e1, e2⟩ := elem3 hr (Below.refl _ _) hk
    cases hA
    rw [cell_of_blk hheap, Nat.zero_add] at e0
    rw [cell_of_blk hheap, Nat.zero_add] at e1
    rw [cell_of_blk hheap, Nat.zero_add] at e2
    exact ⟨g, cap, cur, rfl, hge, hheap, e0, e1, e2⟩
/-- One mark changed. -/
theorem change_at {lo : Nat} {w wr : World} {v : Value} {Ts : List MT} (hc : Coll lo lo w v Ts) (hch : Chg lo w wr) {k : Nat} (hk : k < Ts.length) : ∃ g cap, v = .slice (some ⟨g, 0, none⟩) Ts.length cap ∧ ∀ off, off = k * 3 → Calls Tryz.prog 44 #[.pointer (some ⟨g, off, none⟩)] wr fun e w' => e = .returned (.tuple #[]) ∧ Chg lo wr w' := by
  obtain ⟨g, cap, cur, hv, hge, hh, e0, e1, e2⟩ := row_at hc.own hk
  obtain ⟨cs', hh', he⟩ := hch.same g cur _ hh
  have f0 : ∃ x, cs'[k * 3]? = some (.int .i64 x) := by
    rcases he (k * 3) with e | ⟨_, z, _, e⟩
    · exact ⟨_, e.trans e0⟩
    · exact ⟨z, e⟩
  have f1 : ∃ x, cs'[k * 3 + 1]? = some (.int .i64 x) := by
    rcases he (k * 3 + 1) with e | ⟨_, z, _, e⟩
    · exact ⟨_, e.trans e1⟩
    · exact ⟨z, e⟩
  have f2 : cs'[k * 3 + 2]? = some (.slice Ts[k].A Ts[k].args.length Ts[k].c) := by
    rcases he (k * 3 + 2) with e | ⟨_, z, e, _⟩
    · exact e.trans e2
    · rw [e2] at e; cases e
  obtain ⟨x, f0⟩ := f0
  obtain ⟨y, f1⟩ := f1
  exact ⟨g, cap, hv, fun off ho => by subst ho; exact change5_any Ts[k] lo g (k * 3) cs' _ x y wr hge hh' f0 f1 f2 (Sk.chg hch _ (sk_of_new _ (hc.trees _ (List.getElem_mem hk)).1))⟩
end Go.Proofs.YtndkcimajeofcaaGreatDoor
