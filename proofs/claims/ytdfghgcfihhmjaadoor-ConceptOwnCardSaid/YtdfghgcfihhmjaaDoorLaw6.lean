import Derived.Test.YtdfghgcfihhmjaaDoorChange
import Derived.Test.YtdfghgcfihhmjaaDoorCSubs
import Derived.Test.YtdfghgcfihhmjaaDoorUses
import Derived.Test.YtdfghgcfihhmjaaDoorPlain
namespace Go.Proofs.YtdfghgcfihhmjaaDoor
open Go.RowKit

theorem OwnNM.grown {base b : Nat} {W W' : World} {O n : NM} {cs : Array Value} {t : TypeId} (h : OwnNM base W O n) (hb : W.heap[b]? = some (.cells cs t)) (ht : t ≠ 9) (hg : W.grownBy W' (some b)) : OwnNM base W' O n := by
  have one : ∀ (s : SL) (l : List ByteArray), OwnSL base W s l → OwnSL base W' s l := fun s l hs => by
    refine ⟨owns_grown hs.1 hg ?_, hs.2⟩
    by_cases hv : (Value.slice s.A s.l.length s.c).ownBlock = none
    · exact .inr hv
    · refine .inl fun e => ?_
      rcases hs.1.2 with ⟨h1, _⟩ | ⟨g, cap, cur, hv2, hge, hheap, _⟩
      · rw [h1] at hv; exact hv rfl
      · rw [hv2] at e
        have : g = b := Option.some.inj e
        subst this
        rw [hb] at hheap
        cases hheap
        exact ht rfl
  exact ⟨one _ _ h.1, one _ _ h.2.1, one _ _ h.2.2⟩
theorem OwnNM.later {base : Nat} {W W' : World} {O n : NM} (h : OwnNM base W O n) (hb : Below W.heap.size W W') : OwnNM base W' O n :=
  ⟨⟨owns_below h.1.1 hb, h.1.2⟩, ⟨owns_below h.2.1.1 hb, h.2.1.2⟩, ⟨owns_below h.2.2.1 hb, h.2.2.2⟩⟩
theorem OwnNM.lo {base base' : Nat} {W : World} {O n : NM} (h : OwnNM base W O n) (hl : base' ≤ base) : OwnNM base' W O n :=
  ⟨⟨owns_lo h.1.1 hl, h.1.2⟩, ⟨owns_lo h.2.1.1 hl, h.2.1.2⟩, ⟨owns_lo h.2.2.1 hl, h.2.2.2⟩⟩

/-- The operations of the region "own, mine := CopyNames(n), Copy(c)". -/
def opsO : Array Oper := #[
  { dst := some 34, op := .load 24 (.tmp 2), type := 24, pos := "law.go:171", after := #[], guard := none },
  { dst := some 35, op := .call { callee := .value (.func 38), args := #[.tmp 34], argTypes := #[24] }, type := 24, pos := "law.go:171", after := #[{ on := 0, ground := .data }], guard := none },
  { dst := some 36, op := .load 27 (.tmp 3), type := 27, pos := "law.go:171", after := #[], guard := none },
  { dst := some 37, op := .call { callee := .value (.func 24), args := #[.tmp 36], argTypes := #[27] }, type := 27, pos := "law.go:171", after := #[{ on := 2, ground := .data }, { on := 1, ground := .chain }], guard := none },
  { dst := some 5, op := .alloc 24, type := 0, pos := "law.go:171", after := #[], guard := none },
  { dst := some 6, op := .alloc 27, type := 0, pos := "law.go:171", after := #[], guard := none },
  { dst := none, op := .store 24 (.tmp 5) (.tmp 35), type := 0, pos := "law.go:171", after := #[{ on := 4, ground := .data }, { on := 1, ground := .data }, { on := 3, ground := .chain }, { on := 0, ground := .phase }, { on := 1, ground := .phase }, { on := 2, ground := .textOnly .lateStores }, { on := 3, ground := .textOnly .lateStoresUnsure }, { on := 4, ground := .phase }, { on := 5, ground := .phase }], guard := none },
  { dst := none, op := .store 27 (.tmp 6) (.tmp 37), type := 0, pos := "law.go:171", after := #[{ on := 5, ground := .data }, { on := 3, ground := .data }, { on := 6, ground := .chain }, { on := 0, ground := .phase }, { on := 1, ground := .phase }, { on := 2, ground := .phase }, { on := 3, ground := .phase }, { on := 4, ground := .phase }, { on := 5, ground := .phase }, { on := 6, ground := .phase }], guard := none }]
theorem readyO : ∀ s0 s1 s2 s3 s4 s5 : Bool, Region.ready .any opsO #[s0, s1, s2, s3, s4, s5, false, false] =
    (if s0 then [] else [0]) ++ (if !s1 && s0 then [1] else []) ++ (if s2 then [] else [2]) ++ (if !s3 && s2 && s1 then [3] else []) ++ (if s4 then [] else [4]) ++ (if s5 then [] else [5]) ++ (if s0 && s1 && s3 && s4 && s5 then [6] else []) := by
  intro s0 s1 s2 s3 s4 s5
  cases s0 <;> cases s1 <;> cases s2 <;> cases s3 <;> cases s4 <;> cases s5 <;> kernel_rfl

structure SO (n : NM) (T : MT) (W W' : World) (s0 s1 s2 s3 s4 s5 : Bool) (t34 t35 t36 t37 t5 t6 : Value) : Prop where
  bel : Below W.heap.size W W'
  k0 : s0 = true → t34 = n.val
  k1 : s1 = true → ∃ O : NM, t35 = O.val ∧ OwnNM 0 W' O n
  k2 : s2 = true → t36 = T.val
  k3 : s3 = true → ∃ M : MT, t37 = M.val ∧ M.tr = T.tr ∧ New W.heap.size W' M ∧ MT.All (fun g => s5 = true → t6 ≠ .pointer (some ⟨g, 0, none⟩)) M
  k4 : s4 = true → ∃ bo, t5 = .pointer (some ⟨bo, 0, none⟩) ∧ W.heap.size ≤ bo ∧ W'.heap[bo]? = some (.cells #[.slice none 0 0, .slice none 0 0, .slice none 0 0] 24)
  k5 : s5 = true → ∃ bm, t6 = .pointer (some ⟨bm, 0, none⟩) ∧ W.heap.size ≤ bm ∧ W'.heap[bm]? = some (.cells #[.int .i64 0, .int .i64 0, .slice none 0 0] 27)

/-- What the region leaves. -/
def EndO (n : NM) (T : MT) (W W2 : World) (t5 t6 : Value) : Prop := ∃ (O : NM) (M : MT) (bo bm : Nat), t5 = .pointer (some ⟨bo, 0, none⟩) ∧ t6 = .pointer (some ⟨bm, 0, none⟩) ∧ Below W.heap.size W W2 ∧ OwnNM 0 W2 O n ∧ M.tr = T.tr ∧ New W.heap.size W2 M ∧
  W2.heap[bo]? = some (.cells #[.slice O.C.A O.C.l.length O.C.c, .slice O.R.A O.R.l.length O.R.c, .slice O.I.A O.I.l.length O.I.c] 24) ∧ W2.heap[bm]? = some (.cells #[.int .i64 M.op, .int .i64 M.n, .slice M.A M.args.length M.c] 27)

set_option maxRecDepth 100000 in
set_option maxHeartbeats 4000000 in
theorem phaseOB (bn bc : Nat) (n : NM) (T : MT) (W : World) (Q : Exit → Act → World → Prop)
    (hend : ∀ (x0 x1 x4 x7 x8 x9 x10 x11 x12 x13 x14 x15 x16 x17 x18 x19 x20 x21 x22 x23 x24 x25 x26 x27 x28 x29 x30 x31 x32 x33 x38 x39 x40 x41 x42 x43 x44 x45 x46 x47 x48 x49 x50 x51 x52 x53 x54 x55 x56 x57 x58 x59 x60 x61 x62 x63 x64 x65 x66 x67 x68 x69 x70 x71 x72 x73 x74 x75 x76 x77 x78 x79 x80 x81 x82 x83 x84 x85 x86 x87 x88 x89 x90 x91 x92 x93 x94 x95 x96 x97 x98 x99 x100 x101 x102 x103 x104 x105 x106 x107 x108 x109 x110 x111 x112 x113 x114 x115 x116 x117 x118 x119 x120 x121 x122 x123 x124 x125 x126 x127 x128 x129 x130 x131 x132 x133 x134 x135 x136 x137 x138 x139 x140 x141 x142 x143 x144 x145 x146 x147 x148 x149 x150 x151 x152 x153 x154 x155 x156 x157 t34 t35 t36 t37 t5 t6 : Value) (W2 : World), EndO n T W W2 t5 t6 → Q .normal { tmps := #[x0, x1, .pointer (some ⟨bn, 0, none⟩), .pointer (some ⟨bc, 0, none⟩), x4, t5, t6, x7, x8, x9, x10, x11, x12, x13, x14, x15, x16, x17, x18, x19, x20, x21, x22, x23, x24, x25, x26, x27, x28, x29, x30, x31, x32, x33, t34, t35, t36, t37, x38, x39, x40, x41, x42, x43, x44, x45, x46, x47, x48, x49, x50, x51, x52, x53, x54, x55, x56, x57, x58, x59, x60, x61, x62, x63, x64, x65, x66, x67, x68, x69, x70, x71, x72, x73, x74, x75, x76, x77, x78, x79, x80, x81, x82, x83, x84, x85, x86, x87, x88, x89, x90, x91, x92, x93, x94, x95, x96, x97, x98, x99, x100, x101, x102, x103, x104, x105, x106, x107, x108, x109, x110, x111, x112, x113, x114, x115, x116, x117, x118, x119, x120, x121, x122, x123, x124, x125, x126, x127, x128, x129, x130, x131, x132, x133, x134, x135, x136, x137, x138, x139, x140, x141, x142, x143, x144, x145, x146, x147, x148, x149, x150, x151, x152, x153, x154, x155, x156, x157], defers := [] } W2) :
    ∀ (x0 x1 x4 x7 x8 x9 x10 x11 x12 x13 x14 x15 x16 x17 x18 x19 x20 x21 x22 x23 x24 x25 x26 x27 x28 x29 x30 x31 x32 x33 x38 x39 x40 x41 x42 x43 x44 x45 x46 x47 x48 x49 x50 x51 x52 x53 x54 x55 x56 x57 x58 x59 x60 x61 x62 x63 x64 x65 x66 x67 x68 x69 x70 x71 x72 x73 x74 x75 x76 x77 x78 x79 x80 x81 x82 x83 x84 x85 x86 x87 x88 x89 x90 x91 x92 x93 x94 x95 x96 x97 x98 x99 x100 x101 x102 x103 x104 x105 x106 x107 x108 x109 x110 x111 x112 x113 x114 x115 x116 x117 x118 x119 x120 x121 x122 x123 x124 x125 x126 x127 x128 x129 x130 x131 x132 x133 x134 x135 x136 x137 x138 x139 x140 x141 x142 x143 x144 x145 x146 x147 x148 x149 x150 x151 x152 x153 x154 x155 x156 x157 t34 t35 t36 t37 t5 t6 : Value) (W' : World), SO n T W W' true true true true true true t34 t35 t36 t37 t5 t6 →
      wpAny Tryd.prog .any opsO Q 2 #[true, true, true, true, true, true, false, false] { tmps := #[x0, x1, .pointer (some ⟨bn, 0, none⟩), .pointer (some ⟨bc, 0, none⟩), x4, t5, t6, x7, x8, x9, x10, x11, x12, x13, x14, x15, x16, x17, x18, x19, x20, x21, x22, x23, x24, x25, x26, x27, x28, x29, x30, x31, x32, x33, t34, t35, t36, t37, x38, x39, x40, x41, x42, x43, x44, x45, x46, x47, x48, x49, x50, x51, x52, x53, x54, x55, x56, x57, x58, x59, x60, x61, x62, x63, x64, x65, x66, x67, x68, x69, x70, x71, x72, x73, x74, x75, x76, x77, x78, x79, x80, x81, x82, x83, x84, x85, x86, x87, x88, x89, x90, x91, x92, x93, x94, x95, x96, x97, x98, x99, x100, x101, x102, x103, x104, x105, x106, x107, x108, x109, x110, x111, x112, x113, x114, x115, x116, x117, x118, x119, x120, x121, x122, x123, x124, x125, x126, x127, x128, x129, x130, x131, x132, x133, x134, x135, x136, x137, x138, x139, x140, x141, x142, x143, x144, x145, x146, x147, x148, x149, x150, x151, x152, x153, x154, x155, x156, x157], defers := [] } W' := by
  intro x0 x1 x4 x7 x8 x9 x10 x11 x12 x13 x14 x15 x16 x17 x18 x19 x20 x21 x22 x23 x24 x25 x26 x27 x28 x29 x30 x31 x32 x33 x38 x39 x40 x41 x42 x43 x44 x45 x46 x47 x48 x49 x50 x51 x52 x53 x54 x55 x56 x57 x58 x59 x60 x61 x62 x63 x64 x65 x66 x67 x68 x69 x70 x71 x72 x73 x74 x75 x76 x77 x78 x79 x80 x81 x82 x83 x84 x85 x86 x87 x88 x89 x90 x91 x92 x93 x94 x95 x96 x97 x98 x99 x100 x101 x102 x103 x104 x105 x106 x107 x108 x109 x110 x111 x112 x113 x114 x115 x116 x117 x118 x119 x120 x121 x122 x123 x124 x125 x126 x127 x128 x129 x130 x131 x132 x133 x134 x135 x136 x137 x138 x139 x140 x141 x142 x143 x144 x145 x146 x147 x148 x149 x150 x151 x152 x153 x154 x155 x156 x157 t34 t35 t36 t37 t5 t6 W' hS
  obtain ⟨O, rfl, hO⟩ := hS.k1 rfl
  obtain ⟨M, rfl, hMt, hM, hMa⟩ := hS.k3 rfl
  obtain ⟨bo, rfl, hbo, hko⟩ := hS.k4 rfl
  obtain ⟨bm, rfl, hbm, hkm⟩ := hS.k5 rfl
  have hbel := hS.bel
  have hne : bo ≠ bm := fun e => by
    subst e
    rw [hko] at hkm
    exact absurd (by injection hkm with h; injection h) (show (24 : Nat) ≠ 27 by decide)
  obtain ⟨p1, g1⟩ := store3 hko (.slice O.C.A O.C.l.length O.C.c) (.slice O.R.A O.R.l.length O.R.c) (.slice O.I.A O.I.l.length O.I.c)
  have hO1 := hO.grown hko (by decide) g1
  have hM1 : New W.heap.size _ M := hM.grown g1 (MT.All.imp (fun g ⟨_, cur, hg⟩ e => by
    have e : g = bo := Option.some.inj e
    subst e
    rw [hko] at hg
    exact absurd (by injection hg with h; injection h) (show (24 : Nat) ≠ 27 by decide)) M hM.2)
  have hm1 := blk_pb hkm g1 (fun e => hne e.symm)
  obtain ⟨p2, g2⟩ := store3 hm1 (.int .i64 M.op) (.int .i64 M.n) (.slice M.A M.args.length M.c)
  have hO2 := hO1.grown hm1 (by decide) g2
  have hM2 : New W.heap.size _ M := hM1.grown g2 (MT.All.imp (fun g hg e => by
    have e : g = bm := Option.some.inj e
    subst e
    exact hg rfl rfl) M hMa)
  have p3 := blk_pb p1 g2 hne
  have hb1 := hbel.grown g1 hbel.size (fun k e => by cases e; exact hbo)
  have hb2 := hb1.grown g2 hb1.size (fun k e => by cases e; exact hbm)
  have HE := Lib.hid (show EndO n T W _ (.pointer (some ⟨bo, 0, none⟩)) (.pointer (some ⟨bm, 0, none⟩)) from ⟨O, M, bo, bm, rfl, rfl, hb2, hO2, hMt, hM2, p3, p2⟩)
  have a0 := cell_of_blk hko 0
  have a1 := cell_of_blk hko 1
  have a2 := cell_of_blk hko 2
  have f0 := frozen_of_blk hko 0
  have f1 := frozen_of_blk hko 1
  have f2 := frozen_of_blk hko 2
  have b0 := cell_of_blk hkm 0
  have b1 := cell_of_blk hkm 1
  have b2 := cell_of_blk hkm 2
  have c0 := frozen_of_blk hkm 0
  have c1 := frozen_of_blk hkm 1
  have c2 := frozen_of_blk hkm 2
  have d0 := cell_of_blk hm1 0
  have d1 := cell_of_blk hm1 1
  have d2 := cell_of_blk hm1 2
  have e0 := frozen_of_blk hm1 0
  have e1 := frozen_of_blk hm1 1
  have e2 := frozen_of_blk hm1 2
  simp only [List.getElem?_toArray, List.getElem?_cons_zero, List.getElem?_cons_succ] at a0 a1 a2 b0 b1 b2 d0 d1 d2
  clear hbel hS hO hM hMa hMt hO1 hM1 hO2 hM2 hb1 hb2 p1 p2 p3 g1 g2 hko hkm hm1
  simp only [MT.val, NM.val]
  refine wpAny_ready (rs := [6]) (by kernel_rfl) (by simp) (AllReady.cons (o := { dst := none, op := .store 24 (.tmp 5) (.tmp 35), type := 0, pos := "law.go:171", after := #[{ on := 4, ground := .data }, { on := 1, ground := .data }, { on := 3, ground := .chain }, { on := 0, ground := .phase }, { on := 1, ground := .phase }, { on := 2, ground := .textOnly .lateStores }, { on := 3, ground := .textOnly .lateStoresUnsure }, { on := 4, ground := .phase }, { on := 5, ground := .phase }], guard := none }) (by kernel_rfl) (fun K hK => ?_) AllReady.nil)
  go_simp
  refine hK _ _ ?_
  clear hK K
  refine wpAny_ready (rs := [7]) (by kernel_rfl) (by simp) (AllReady.cons (o := { dst := none, op := .store 27 (.tmp 6) (.tmp 37), type := 0, pos := "law.go:171", after := #[{ on := 5, ground := .data }, { on := 3, ground := .data }, { on := 6, ground := .chain }, { on := 0, ground := .phase }, { on := 1, ground := .phase }, { on := 2, ground := .phase }, { on := 3, ground := .phase }, { on := 4, ground := .phase }, { on := 5, ground := .phase }, { on := 6, ground := .phase }], guard := none }) (by kernel_rfl) (fun K hK => ?_) AllReady.nil)
  go_simp
  exact hK _ _ (wpAny_done (by kernel_rfl) (hend _ _ _ _ _ _ _ _ _ _ _ _ _ _ _ _ _ _ _ _ _ _ _ _ _ _ _ _ _ _ _ _ _ _ _ _ _ _ _ _ _ _ _ _ _ _ _ _ _ _ _ _ _ _ _ _ _ _ _ _ _ _ _ _ _ _ _ _ _ _ _ _ _ _ _ _ _ _ _ _ _ _ _ _ _ _ _ _ _ _ _ _ _ _ _ _ _ _ _ _ _ _ _ _ _ _ _ _ _ _ _ _ _ _ _ _ _ _ _ _ _ _ _ _ _ _ _ _ _ _ _ _ _ _ _ _ _ _ _ _ _ _ _ _ _ _ _ _ _ _ _ _ _ _ _ _ _ HE.out) _)

set_option maxRecDepth 100000 in
set_option maxHeartbeats 4000000 in
theorem phaseOA (bn bc : Nat) (n : NM) (T : MT) (W : World) (Q : Exit → Act → World → Prop)
    (hn : n.In W.heap.size W) (hT : T.In W.heap.size W) (hln : n.C.l.length ≤ 1000 ∧ n.R.l.length ≤ 1000 ∧ n.I.l.length ≤ 1000) (hsz : T.tr.size ≤ 1000000)
    (hkn : W.heap[bn]? = some (.cells #[.slice n.C.A n.C.l.length n.C.c, .slice n.R.A n.R.l.length n.R.c, .slice n.I.A n.I.l.length n.I.c] 24))
    (hkc : W.heap[bc]? = some (.cells #[.int .i64 T.op, .int .i64 T.n, .slice T.A T.args.length T.c] 27))
    (hend : ∀ (x0 x1 x4 x7 x8 x9 x10 x11 x12 x13 x14 x15 x16 x17 x18 x19 x20 x21 x22 x23 x24 x25 x26 x27 x28 x29 x30 x31 x32 x33 x38 x39 x40 x41 x42 x43 x44 x45 x46 x47 x48 x49 x50 x51 x52 x53 x54 x55 x56 x57 x58 x59 x60 x61 x62 x63 x64 x65 x66 x67 x68 x69 x70 x71 x72 x73 x74 x75 x76 x77 x78 x79 x80 x81 x82 x83 x84 x85 x86 x87 x88 x89 x90 x91 x92 x93 x94 x95 x96 x97 x98 x99 x100 x101 x102 x103 x104 x105 x106 x107 x108 x109 x110 x111 x112 x113 x114 x115 x116 x117 x118 x119 x120 x121 x122 x123 x124 x125 x126 x127 x128 x129 x130 x131 x132 x133 x134 x135 x136 x137 x138 x139 x140 x141 x142 x143 x144 x145 x146 x147 x148 x149 x150 x151 x152 x153 x154 x155 x156 x157 t34 t35 t36 t37 t5 t6 : Value) (W' : World), SO n T W W' true true true true true true t34 t35 t36 t37 t5 t6 →
      wpAny Tryd.prog .any opsO Q 2 #[true, true, true, true, true, true, false, false] { tmps := #[x0, x1, .pointer (some ⟨bn, 0, none⟩), .pointer (some ⟨bc, 0, none⟩), x4, t5, t6, x7, x8, x9, x10, x11, x12, x13, x14, x15, x16, x17, x18, x19, x20, x21, x22, x23, x24, x25, x26, x27, x28, x29, x30, x31, x32, x33, t34, t35, t36, t37, x38, x39, x40, x41, x42, x43, x44, x45, x46, x47, x48, x49, x50, x51, x52, x53, x54, x55, x56, x57, x58, x59, x60, x61, x62, x63, x64, x65, x66, x67, x68, x69, x70, x71, x72, x73, x74, x75, x76, x77, x78, x79, x80, x81, x82, x83, x84, x85, x86, x87, x88, x89, x90, x91, x92, x93, x94, x95, x96, x97, x98, x99, x100, x101, x102, x103, x104, x105, x106, x107, x108, x109, x110, x111, x112, x113, x114, x115, x116, x117, x118, x119, x120, x121, x122, x123, x124, x125, x126, x127, x128, x129, x130, x131, x132, x133, x134, x135, x136, x137, x138, x139, x140, x141, x142, x143, x144, x145, x146, x147, x148, x149, x150, x151, x152, x153, x154, x155, x156, x157], defers := [] } W') :
    ∀ (k : Nat) (s0 s1 s2 s3 s4 s5 : Bool), (s1 = true → s0 = true) → (s3 = true → s2 = true ∧ s1 = true) → (!s0).toNat + (!s1).toNat + (!s2).toNat + (!s3).toNat + (!s4).toNat + (!s5).toNat = k →
    ∀ (x0 x1 x4 x7 x8 x9 x10 x11 x12 x13 x14 x15 x16 x17 x18 x19 x20 x21 x22 x23 x24 x25 x26 x27 x28 x29 x30 x31 x32 x33 x38 x39 x40 x41 x42 x43 x44 x45 x46 x47 x48 x49 x50 x51 x52 x53 x54 x55 x56 x57 x58 x59 x60 x61 x62 x63 x64 x65 x66 x67 x68 x69 x70 x71 x72 x73 x74 x75 x76 x77 x78 x79 x80 x81 x82 x83 x84 x85 x86 x87 x88 x89 x90 x91 x92 x93 x94 x95 x96 x97 x98 x99 x100 x101 x102 x103 x104 x105 x106 x107 x108 x109 x110 x111 x112 x113 x114 x115 x116 x117 x118 x119 x120 x121 x122 x123 x124 x125 x126 x127 x128 x129 x130 x131 x132 x133 x134 x135 x136 x137 x138 x139 x140 x141 x142 x143 x144 x145 x146 x147 x148 x149 x150 x151 x152 x153 x154 x155 x156 x157 t34 t35 t36 t37 t5 t6 : Value) (W' : World), SO n T W W' s0 s1 s2 s3 s4 s5 t34 t35 t36 t37 t5 t6 →
      wpAny Tryd.prog .any opsO Q (k + 2) #[s0, s1, s2, s3, s4, s5, false, false] { tmps := #[x0, x1, .pointer (some ⟨bn, 0, none⟩), .pointer (some ⟨bc, 0, none⟩), x4, t5, t6, x7, x8, x9, x10, x11, x12, x13, x14, x15, x16, x17, x18, x19, x20, x21, x22, x23, x24, x25, x26, x27, x28, x29, x30, x31, x32, x33, t34, t35, t36, t37, x38, x39, x40, x41, x42, x43, x44, x45, x46, x47, x48, x49, x50, x51, x52, x53, x54, x55, x56, x57, x58, x59, x60, x61, x62, x63, x64, x65, x66, x67, x68, x69, x70, x71, x72, x73, x74, x75, x76, x77, x78, x79, x80, x81, x82, x83, x84, x85, x86, x87, x88, x89, x90, x91, x92, x93, x94, x95, x96, x97, x98, x99, x100, x101, x102, x103, x104, x105, x106, x107, x108, x109, x110, x111, x112, x113, x114, x115, x116, x117, x118, x119, x120, x121, x122, x123, x124, x125, x126, x127, x128, x129, x130, x131, x132, x133, x134, x135, x136, x137, x138, x139, x140, x141, x142, x143, x144, x145, x146, x147, x148, x149, x150, x151, x152, x153, x154, x155, x156, x157], defers := [] } W' := by
  intro k
  induction k with
  | zero =>
    intro s0 s1 s2 s3 s4 s5 h1 h3 hk
    cases s0 <;> cases s1 <;> cases s2 <;> cases s3 <;> cases s4 <;> cases s5 <;> simp at hk
    intros
    apply hend
    assumption
  | succ k ih =>
    intro s0 s1 s2 s3 s4 s5 h1 h3 hk x0 x1 x4 x7 x8 x9 x10 x11 x12 x13 x14 x15 x16 x17 x18 x19 x20 x21 x22 x23 x24 x25 x26 x27 x28 x29 x30 x31 x32 x33 x38 x39 x40 x41 x42 x43 x44 x45 x46 x47 x48 x49 x50 x51 x52 x53 x54 x55 x56 x57 x58 x59 x60 x61 x62 x63 x64 x65 x66 x67 x68 x69 x70 x71 x72 x73 x74 x75 x76 x77 x78 x79 x80 x81 x82 x83 x84 x85 x86 x87 x88 x89 x90 x91 x92 x93 x94 x95 x96 x97 x98 x99 x100 x101 x102 x103 x104 x105 x106 x107 x108 x109 x110 x111 x112 x113 x114 x115 x116 x117 x118 x119 x120 x121 x122 x123 x124 x125 x126 x127 x128 x129 x130 x131 x132 x133 x134 x135 x136 x137 x138 x139 x140 x141 x142 x143 x144 x145 x146 x147 x148 x149 x150 x151 x152 x153 x154 x155 x156 x157 t34 t35 t36 t37 t5 t6 W' hS
    have hbel := hS.bel
    obtain ⟨c0, c1, c2⟩ := box_cells (blk_below hkn hbel) (Below.refl _ W')
    obtain ⟨d0, d1, d2⟩ := box_cells (blk_below hkc hbel) (Below.refl _ W')
    have hcn := CopyNames_any n W' (hn.later hbel) hln
    have hcp := rCopy_any T W' (hT.later hbel) hsz
    have hlt5 : s5 = true → ∀ g, t6 = .pointer (some ⟨g, 0, none⟩) → g < W'.heap.size := fun h g e => by
      obtain ⟨bm, e1, -, e2⟩ := hS.k5 h
      rw [e1] at e
      cases e
      exact (Array.getElem?_eq_some_iff.1 e2).1
    refine ⟨fun hnil => ?_, fun i hi => ?_⟩
    · rw [readyO] at hnil
      cases s0 <;> cases s1 <;> cases s2 <;> cases s3 <;> cases s4 <;> cases s5 <;> simp at hnil hk
    · have hc : (i = 0 ∧ s0 = false) ∨ (i = 1 ∧ s1 = false ∧ s0 = true) ∨ (i = 2 ∧ s2 = false) ∨ (i = 3 ∧ s3 = false ∧ s2 = true ∧ s1 = true) ∨ (i = 4 ∧ s4 = false) ∨ (i = 5 ∧ s5 = false) := by
        rw [readyO] at hi
        cases s0 <;> cases s1 <;> cases s2 <;> cases s3 <;> cases s4 <;> cases s5 <;> simp at hi hk h1 h3 ⊢ <;> omega
      clear hi
      rcases hc with ⟨rfl, rfl⟩ | ⟨rfl, rfl, rfl⟩ | ⟨rfl, rfl⟩ | ⟨rfl, rfl, rfl, rfl⟩ | ⟨rfl, rfl⟩ | ⟨rfl, rfl⟩
      · refine wpOp_step (o := { dst := some 34, op := .load 24 (.tmp 2), type := 24, pos := "law.go:171", after := #[], guard := none }) (by kernel_rfl) fun K hK => ?_
        go_simp
        refine hK _ _ (ih true s1 s2 s3 s4 s5 (fun _ => rfl) h3 (by simp at hk ⊢; omega) _ _ _ _ _ _ _ _ _ _ _ _ _ _ _ _ _ _ _ _ _ _ _ _ _ _ _ _ _ _ _ _ _ _ _ _ _ _ _ _ _ _ _ _ _ _ _ _ _ _ _ _ _ _ _ _ _ _ _ _ _ _ _ _ _ _ _ _ _ _ _ _ _ _ _ _ _ _ _ _ _ _ _ _ _ _ _ _ _ _ _ _ _ _ _ _ _ _ _ _ _ _ _ _ _ _ _ _ _ _ _ _ _ _ _ _ _ _ _ _ _ _ _ _ _ _ _ _ _ _ _ _ _ _ _ _ _ _ _ _ _ _ _ _ _ _ _ _ _ _ _ _ _ _ _ _ _ ⟨hS.bel, fun _ => rfl, hS.k1, hS.k2, hS.k3, hS.k4, hS.k5⟩)
      · refine wpOp_step (o := { dst := some 35, op := .call { callee := .value (.func 38), args := #[.tmp 34], argTypes := #[24] }, type := 24, pos := "law.go:171", after := #[{ on := 0, ground := .data }], guard := none }) (by kernel_rfl) fun K hK => ?_
        have e34 := hS.k0 rfl
        subst e34
        simp only [NM.val] at hcn ⊢
        go_simp
        go_at_call 38
        refine hcn.mono ?_
        rintro e w' ⟨O, rfl, hO, hbl⟩
        refine hK _ _ (ih true true s2 s3 s4 s5 (fun _ => rfl) (fun h => ⟨(h3 h).1, rfl⟩) (by simp at hk ⊢; omega) _ _ _ _ _ _ _ _ _ _ _ _ _ _ _ _ _ _ _ _ _ _ _ _ _ _ _ _ _ _ _ _ _ _ _ _ _ _ _ _ _ _ _ _ _ _ _ _ _ _ _ _ _ _ _ _ _ _ _ _ _ _ _ _ _ _ _ _ _ _ _ _ _ _ _ _ _ _ _ _ _ _ _ _ _ _ _ _ _ _ _ _ _ _ _ _ _ _ _ _ _ _ _ _ _ _ _ _ _ _ _ _ _ _ _ _ _ _ _ _ _ _ _ _ _ _ _ _ _ _ _ _ _ _ _ _ _ _ _ _ _ _ _ _ _ _ _ _ _ _ _ _ _ _ _ _ _ ⟨thn hbel hbl, fun _ => rfl, fun _ => ⟨O, rfl, hO.lo (Nat.zero_le _)⟩, hS.k2, fun h => ?_, fun h => ?_, fun h => ?_⟩)
        · obtain ⟨M, m1, m2, m3, m4⟩ := hS.k3 h
          exact ⟨M, m1, m2, m3.later hbl, m4⟩
        · obtain ⟨bo, m1, m2, m3⟩ := hS.k4 h
          exact ⟨bo, m1, m2, blk_below m3 hbl⟩
        · obtain ⟨bo, m1, m2, m3⟩ := hS.k5 h
          exact ⟨bo, m1, m2, blk_below m3 hbl⟩
      · refine wpOp_step (o := { dst := some 36, op := .load 27 (.tmp 3), type := 27, pos := "law.go:171", after := #[], guard := none }) (by kernel_rfl) fun K hK => ?_
        go_simp
        refine hK _ _ (ih s0 s1 true s3 s4 s5 h1 (fun h => ⟨rfl, (h3 h).2⟩) (by simp at hk ⊢; omega) _ _ _ _ _ _ _ _ _ _ _ _ _ _ _ _ _ _ _ _ _ _ _ _ _ _ _ _ _ _ _ _ _ _ _ _ _ _ _ _ _ _ _ _ _ _ _ _ _ _ _ _ _ _ _ _ _ _ _ _ _ _ _ _ _ _ _ _ _ _ _ _ _ _ _ _ _ _ _ _ _ _ _ _ _ _ _ _ _ _ _ _ _ _ _ _ _ _ _ _ _ _ _ _ _ _ _ _ _ _ _ _ _ _ _ _ _ _ _ _ _ _ _ _ _ _ _ _ _ _ _ _ _ _ _ _ _ _ _ _ _ _ _ _ _ _ _ _ _ _ _ _ _ _ _ _ _ ⟨hS.bel, hS.k0, hS.k1, fun _ => rfl, hS.k3, hS.k4, hS.k5⟩)
      · refine wpOp_step (o := { dst := some 37, op := .call { callee := .value (.func 24), args := #[.tmp 36], argTypes := #[27] }, type := 27, pos := "law.go:171", after := #[{ on := 2, ground := .data }, { on := 1, ground := .chain }], guard := none }) (by kernel_rfl) fun K hK => ?_
        have e36 := hS.k2 rfl
        subst e36
        simp only [MT.val] at hcp ⊢
        go_simp
        go_at_call 24
        refine hcp.mono ?_
        rintro e w' ⟨M, rfl, hMt, hM, hbl⟩
        refine hK _ _ (ih s0 true true true s4 s5 h1 (fun _ => ⟨rfl, rfl⟩) (by simp at hk ⊢; omega) _ _ _ _ _ _ _ _ _ _ _ _ _ _ _ _ _ _ _ _ _ _ _ _ _ _ _ _ _ _ _ _ _ _ _ _ _ _ _ _ _ _ _ _ _ _ _ _ _ _ _ _ _ _ _ _ _ _ _ _ _ _ _ _ _ _ _ _ _ _ _ _ _ _ _ _ _ _ _ _ _ _ _ _ _ _ _ _ _ _ _ _ _ _ _ _ _ _ _ _ _ _ _ _ _ _ _ _ _ _ _ _ _ _ _ _ _ _ _ _ _ _ _ _ _ _ _ _ _ _ _ _ _ _ _ _ _ _ _ _ _ _ _ _ _ _ _ _ _ _ _ _ _ _ _ _ _ ⟨thn hbel hbl, hS.k0, fun h => ?_, fun _ => rfl, fun _ => ⟨M, rfl, hMt, hM.lo hbel.size, MT.All.imp (fun g hg h5 e => by
          have := hlt5 h5 g e
          have := hg.1
          omega) M hM.2⟩, fun h => ?_, fun h => ?_⟩)
        · obtain ⟨O, m1, m2⟩ := hS.k1 h
          exact ⟨O, m1, m2.later hbl⟩
        · obtain ⟨bo, m1, m2, m3⟩ := hS.k4 h
          exact ⟨bo, m1, m2, blk_below m3 hbl⟩
        · obtain ⟨bo, m1, m2, m3⟩ := hS.k5 h
          exact ⟨bo, m1, m2, blk_below m3 hbl⟩
      · refine wpOp_step (o := { dst := some 5, op := .alloc 24, type := 0, pos := "law.go:171", after := #[], guard := none }) (by kernel_rfl) fun K hK => ?_
        go_simp
        have hbl := (Below.refl W'.heap.size W').alloc (Nat.le_refl _) (.cells #[.slice none 0 0, .slice none 0 0, .slice none 0 0] 24)
        refine hK _ _ (ih s0 s1 s2 s3 true s5 h1 h3 (by simp at hk ⊢; omega) _ _ _ _ _ _ _ _ _ _ _ _ _ _ _ _ _ _ _ _ _ _ _ _ _ _ _ _ _ _ _ _ _ _ _ _ _ _ _ _ _ _ _ _ _ _ _ _ _ _ _ _ _ _ _ _ _ _ _ _ _ _ _ _ _ _ _ _ _ _ _ _ _ _ _ _ _ _ _ _ _ _ _ _ _ _ _ _ _ _ _ _ _ _ _ _ _ _ _ _ _ _ _ _ _ _ _ _ _ _ _ _ _ _ _ _ _ _ _ _ _ _ _ _ _ _ _ _ _ _ _ _ _ _ _ _ _ _ _ _ _ _ _ _ _ _ _ _ _ _ _ _ _ _ _ _ _ ⟨thn hbel hbl, hS.k0, fun h => ?_, hS.k2, fun h => ?_, fun _ => ⟨_, rfl, hbel.size, heap_alloc_new _ _⟩, fun h => ?_⟩)
        · obtain ⟨O, m1, m2⟩ := hS.k1 h
          exact ⟨O, m1, m2.later hbl⟩
        · obtain ⟨M, m1, m2, m3, m4⟩ := hS.k3 h
          exact ⟨M, m1, m2, m3.later hbl, m4⟩
        · obtain ⟨bo, m1, m2, m3⟩ := hS.k5 h
          exact ⟨bo, m1, m2, blk_below m3 hbl⟩
      · refine wpOp_step (o := { dst := some 6, op := .alloc 27, type := 0, pos := "law.go:171", after := #[], guard := none }) (by kernel_rfl) fun K hK => ?_
        go_simp
        have hbl := (Below.refl W'.heap.size W').alloc (Nat.le_refl _) (.cells #[.int .i64 0, .int .i64 0, .slice none 0 0] 27)
        refine hK _ _ (ih s0 s1 s2 s3 s4 true h1 h3 (by simp at hk ⊢; omega) _ _ _ _ _ _ _ _ _ _ _ _ _ _ _ _ _ _ _ _ _ _ _ _ _ _ _ _ _ _ _ _ _ _ _ _ _ _ _ _ _ _ _ _ _ _ _ _ _ _ _ _ _ _ _ _ _ _ _ _ _ _ _ _ _ _ _ _ _ _ _ _ _ _ _ _ _ _ _ _ _ _ _ _ _ _ _ _ _ _ _ _ _ _ _ _ _ _ _ _ _ _ _ _ _ _ _ _ _ _ _ _ _ _ _ _ _ _ _ _ _ _ _ _ _ _ _ _ _ _ _ _ _ _ _ _ _ _ _ _ _ _ _ _ _ _ _ _ _ _ _ _ _ _ _ _ _ ⟨thn hbel hbl, hS.k0, fun h => ?_, hS.k2, fun h => ?_, fun h => ?_, fun _ => ⟨_, rfl, hbel.size, heap_alloc_new _ _⟩⟩)
        · obtain ⟨O, m1, m2⟩ := hS.k1 h
          exact ⟨O, m1, m2.later hbl⟩
        · obtain ⟨M, m1, m2, m3, m4⟩ := hS.k3 h
          refine ⟨M, m1, m2, m3.later hbl, MT.All.imp (fun g hg _ e => ?_) M (MT.In.all M m3.1)⟩
          have e2 : W'.heap.size = g := by injection e with e; injection e with e; injection e
          omega
        · obtain ⟨bo, m1, m2, m3⟩ := hS.k4 h
          exact ⟨bo, m1, m2, blk_below m3 hbl⟩

/-- THE REGION. -/
theorem own_region (bn bc : Nat) (n : NM) (T : MT) (W : World) (Q : Exit → Act → World → Prop)
    (hn : n.In W.heap.size W) (hT : T.In W.heap.size W) (hln : n.C.l.length ≤ 1000 ∧ n.R.l.length ≤ 1000 ∧ n.I.l.length ≤ 1000) (hsz : T.tr.size ≤ 1000000)
    (hkn : W.heap[bn]? = some (.cells #[.slice n.C.A n.C.l.length n.C.c, .slice n.R.A n.R.l.length n.R.c, .slice n.I.A n.I.l.length n.I.c] 24))
    (hkc : W.heap[bc]? = some (.cells #[.int .i64 T.op, .int .i64 T.n, .slice T.A T.args.length T.c] 27))
    (x0 x1 x4 x7 x8 x9 x10 x11 x12 x13 x14 x15 x16 x17 x18 x19 x20 x21 x22 x23 x24 x25 x26 x27 x28 x29 x30 x31 x32 x33 x38 x39 x40 x41 x42 x43 x44 x45 x46 x47 x48 x49 x50 x51 x52 x53 x54 x55 x56 x57 x58 x59 x60 x61 x62 x63 x64 x65 x66 x67 x68 x69 x70 x71 x72 x73 x74 x75 x76 x77 x78 x79 x80 x81 x82 x83 x84 x85 x86 x87 x88 x89 x90 x91 x92 x93 x94 x95 x96 x97 x98 x99 x100 x101 x102 x103 x104 x105 x106 x107 x108 x109 x110 x111 x112 x113 x114 x115 x116 x117 x118 x119 x120 x121 x122 x123 x124 x125 x126 x127 x128 x129 x130 x131 x132 x133 x134 x135 x136 x137 x138 x139 x140 x141 x142 x143 x144 x145 x146 x147 x148 x149 x150 x151 x152 x153 x154 x155 x156 x157 t34 t35 t36 t37 t5 t6 : Value)
    (hend : ∀ (x0 x1 x4 x7 x8 x9 x10 x11 x12 x13 x14 x15 x16 x17 x18 x19 x20 x21 x22 x23 x24 x25 x26 x27 x28 x29 x30 x31 x32 x33 x38 x39 x40 x41 x42 x43 x44 x45 x46 x47 x48 x49 x50 x51 x52 x53 x54 x55 x56 x57 x58 x59 x60 x61 x62 x63 x64 x65 x66 x67 x68 x69 x70 x71 x72 x73 x74 x75 x76 x77 x78 x79 x80 x81 x82 x83 x84 x85 x86 x87 x88 x89 x90 x91 x92 x93 x94 x95 x96 x97 x98 x99 x100 x101 x102 x103 x104 x105 x106 x107 x108 x109 x110 x111 x112 x113 x114 x115 x116 x117 x118 x119 x120 x121 x122 x123 x124 x125 x126 x127 x128 x129 x130 x131 x132 x133 x134 x135 x136 x137 x138 x139 x140 x141 x142 x143 x144 x145 x146 x147 x148 x149 x150 x151 x152 x153 x154 x155 x156 x157 t34 t35 t36 t37 t5 t6 : Value) (W2 : World), EndO n T W.drew W2 t5 t6 → Q .normal { tmps := #[x0, x1, .pointer (some ⟨bn, 0, none⟩), .pointer (some ⟨bc, 0, none⟩), x4, t5, t6, x7, x8, x9, x10, x11, x12, x13, x14, x15, x16, x17, x18, x19, x20, x21, x22, x23, x24, x25, x26, x27, x28, x29, x30, x31, x32, x33, t34, t35, t36, t37, x38, x39, x40, x41, x42, x43, x44, x45, x46, x47, x48, x49, x50, x51, x52, x53, x54, x55, x56, x57, x58, x59, x60, x61, x62, x63, x64, x65, x66, x67, x68, x69, x70, x71, x72, x73, x74, x75, x76, x77, x78, x79, x80, x81, x82, x83, x84, x85, x86, x87, x88, x89, x90, x91, x92, x93, x94, x95, x96, x97, x98, x99, x100, x101, x102, x103, x104, x105, x106, x107, x108, x109, x110, x111, x112, x113, x114, x115, x116, x117, x118, x119, x120, x121, x122, x123, x124, x125, x126, x127, x128, x129, x130, x131, x132, x133, x134, x135, x136, x137, x138, x139, x140, x141, x142, x143, x144, x145, x146, x147, x148, x149, x150, x151, x152, x153, x154, x155, x156, x157], defers := [] } W2) : (Code.region 3 opsO true).wp Tryd.prog Q { tmps := #[x0, x1, .pointer (some ⟨bn, 0, none⟩), .pointer (some ⟨bc, 0, none⟩), x4, t5, t6, x7, x8, x9, x10, x11, x12, x13, x14, x15, x16, x17, x18, x19, x20, x21, x22, x23, x24, x25, x26, x27, x28, x29, x30, x31, x32, x33, t34, t35, t36, t37, x38, x39, x40, x41, x42, x43, x44, x45, x46, x47, x48, x49, x50, x51, x52, x53, x54, x55, x56, x57, x58, x59, x60, x61, x62, x63, x64, x65, x66, x67, x68, x69, x70, x71, x72, x73, x74, x75, x76, x77, x78, x79, x80, x81, x82, x83, x84, x85, x86, x87, x88, x89, x90, x91, x92, x93, x94, x95, x96, x97, x98, x99, x100, x101, x102, x103, x104, x105, x106, x107, x108, x109, x110, x111, x112, x113, x114, x115, x116, x117, x118, x119, x120, x121, x122, x123, x124, x125, x126, x127, x128, x129, x130, x131, x132, x133, x134, x135, x136, x137, x138, x139, x140, x141, x142, x143, x144, x145, x146, x147, x148, x149, x150, x151, x152, x153, x154, x155, x156, x157], defers := [] } W :=
  wp_region_any (by kernel_rfl)
    (phaseOA bn bc n T W.drew _ (hn.later (Below.refl _ W).drew) (hT.later (Below.refl _ W).drew) hln hsz hkn hkc
      (phaseOB bn bc n T W.drew _ hend) 6 false false false false false false nofun nofun rfl _ _ _ _ _ _ _ _ _ _ _ _ _ _ _ _ _ _ _ _ _ _ _ _ _ _ _ _ _ _ _ _ _ _ _ _ _ _ _ _ _ _ _ _ _ _ _ _ _ _ _ _ _ _ _ _ _ _ _ _ _ _ _ _ _ _ _ _ _ _ _ _ _ _ _ _ _ _ _ _ _ _ _ _ _ _ _ _ _ _ _ _ _ _ _ _ _ _ _ _ _ _ _ _ _ _ _ _ _ _ _ _ _ _ _ _ _ _ _ _ _ _ _ _ _ _ _ _ _ _ _ _ _ _ _ _ _ _ _ _ _ _ _ _ _ _ _ _ _ _ _ _ _ _ _ _ W.drew
      ⟨Below.refl _ _, nofun, nofun, nofun, nofun, nofun, nofun⟩)
end Go.Proofs.YtdfghgcfihhmjaaDoor
namespace Go.Proofs.YtdfghgcfihhmjaaDoor
open Go.RowKit

/-- What Subs and Uses hand back, whatever the code. -/
def RetSq (w : World) (ck : Int) (e : Ending) (w' : World) : Prop := ∃ v Ls lo, e = .returned (.tuple #[v, .int .i64 ck]) ∧ w.heap.size ≤ lo ∧ Coll lo lo w' v Ls ∧ Below w.heap.size w w'
def RetUq (w : World) (ck : Int) (e : Ending) (w' : World) : Prop := ∃ v1 v2 xs ys, e = .returned (.tuple #[v1, v2, .int .i64 ck]) ∧ w'.ownsRow w.heap.size 3 1 v1 (List.length xs) (intCells xs) ∧ w'.ownsRow w.heap.size 3 1 v2 (List.length ys) (intCells ys) ∧ Below w.heap.size w w'
theorem cSubs_ret (n : NM) (T : MT) (w : World) (hG : G w) (hn : n.In w.heap.size w) (hT : T.In w.heap.size w) (hsz : (T.pre 1).length ≤ 1000000) : Calls Tryd.prog 28 #[n.val, T.val] w (RetSq w (checkF n T)) := by
  by_cases hck : checkF n T = 0
  · refine (cSubs_ok n T w hG hn hT hsz hck).mono ?_
    rintro e w' ⟨v, Ls, lo, rfl, hlo, hco, -, hb⟩
    exact ⟨v, Ls, lo, by rw [hck], hlo, hco, hb⟩
  · refine (cSubs_bad n T w hG hn hT hsz hck).mono ?_
    rintro e w' ⟨rfl, hb⟩
    exact ⟨_, [], w.heap.size, rfl, Nat.le_refl _, Coll.nil _ _ _, hb⟩
theorem cUses_ret (n : NM) (T : MT) (w : World) (hG : G w) (hn : n.In w.heap.size w) (hT : T.In w.heap.size w) (hsz : (T.pre 1).length ≤ 1000000) : Calls Tryd.prog 29 #[n.val, T.val] w (RetUq w (checkF n T)) := by
  by_cases hck : checkF n T = 0
  · refine (cUses_ok n T w hG hn hT hsz hck).mono ?_
    rintro e w' ⟨v1, v2, rfl, h1, h2, -, hb⟩
    exact ⟨v1, v2, _, _, by rw [hck], h1, h2, hb⟩
  · refine (cUses_bad n T w hG hn hT hsz hck).mono ?_
    rintro e w' ⟨rfl, hb⟩
    exact ⟨_, _, [], [], rfl, ⟨rfl, .inl ⟨rfl, rfl⟩⟩, ⟨rfl, .inl ⟨rfl, rfl⟩⟩, hb⟩

/-- A row of ints of the call's own, whatever they are. -/
def IR (lo : Nat) (w : World) (A : Option Addr) (L : Nat) : Prop := L ≤ 9223372036854775807 ∧ (L ≠ 0 → ∃ g cs, A = some ⟨g, 0, none⟩ ∧ lo ≤ g ∧ w.heap[g]? = some (.cells cs 3) ∧ ∀ k, k < L → ∃ x, cs[k]? = some (.int .i64 x))
theorem IR.of_owns {lo base : Nat} {w : World} {v : Value} {xs : List Int} (h : w.ownsRow base 3 1 v xs.length (intCells xs)) (hl : lo ≤ base) : ∃ A c, v = .slice A xs.length c ∧ IR lo w A xs.length := by
  rcases h.2 with ⟨rfl, h0⟩ | ⟨g, cap, cur, rfl, hge, hheap, hlen, hcap, hsize, htake⟩
  · exact ⟨none, 0, by rw [h0], by omega, fun hn => absurd h0 hn⟩
  · unfold maxLen at hcap
    refine ⟨some ⟨g, 0, none⟩, cap, rfl, by omega, fun _ => ⟨g, cur, rfl, Nat.le_trans hl hge, hheap, fun k hk => ?_⟩⟩
    have h1 : cur[k]? = (intCells xs)[k]? := by
      rw [← htake, List.getElem?_take, if_pos (by omega), Array.getElem?_toList]
    rw [h1, intCells, List.getElem?_map, List.getElem?_eq_getElem hk]
    exact ⟨_, rfl⟩
theorem IR.chg {lo lo' : Nat} {w w' : World} {A : Option Addr} {L : Nat} (h : IR lo w A L) (hc : Chg lo' w w') : IR lo w' A L := by
  refine ⟨h.1, fun hL => ?_⟩
  obtain ⟨g, cs, hA, hlo, hg, hk⟩ := h.2 hL
  obtain ⟨cs', hg', he⟩ := hc.same g cs _ hg
  refine ⟨g, cs', hA, hlo, hg', fun k hkL => ?_⟩
  obtain ⟨x, hx⟩ := hk k hkL
  rcases he k with e | ⟨_, z, _, e⟩
  · exact ⟨x, e.trans hx⟩
  · exact ⟨z, e⟩
theorem IR.below {lo : Nat} {w w' : World} {A : Option Addr} {L : Nat} (h : IR lo w A L) (hb : Below w.heap.size w w') : IR lo w' A L := by
  refine ⟨h.1, fun hL => ?_⟩
  obtain ⟨g, cs, hA, hlo, hg, hk⟩ := h.2 hL
  exact ⟨g, cs, hA, hlo, blk_below hg hb, hk⟩

theorem strR_bound {n : NM} {T : MT} : (strR n T).length ≤ 30000 ∧ (checkF n T = 0 → strR n T = T.tr.str n.C.l n.R.l) := by
  rcases hck : (checkF n T == 0)
  · refine ⟨by rw [strR, hck]; simp, fun h => ?_⟩
    rw [h] at hck; cases hck
  · have h : strR n T = T.tr.str n.C.l n.R.l := by rw [strR, hck]; rfl
    rw [checkF_eq] at hck
    obtain ⟨hok, hsm, hwf⟩ := check_wf hck
    have hsz400 : T.tr.size ≤ 400 := by
      simp only [smallB, Bool.and_eq_true, decide_eq_true_eq] at hsm; exact hsm.1
    obtain ⟨m1, m2, -⟩ := ok_names hok
    have := str_length (m := 12) m1 m2 T.tr
    exact ⟨by rw [h]; omega, fun _ => h⟩
theorem norm_code {n : NM} {T : MT} {a : Bool} : (normE n T a == checkF n T) = true ∨ ((normE n T a == checkF n T) = false ∧ (normE n T a == 2) = true) := by
  rcases hck : (checkF n T == 0)
  · exact .inl (by rw [normE, hck]; simp)
  · have h0 : checkF n T = 0 := by simpa using hck
    rcases hs : smallB (nnf T.tr a)
    · exact .inr ⟨by rw [normE, hck, hs, h0]; rfl, by rw [normE, hck, hs]; rfl⟩
    · exact .inl (by rw [normE, hck, hs, h0]; decide)

theorem sk_len {lo : Nat} {w : World} {op n : Int} {A : Option Addr} {c : Nat} {args : List MT} (h : Sk lo w (.mk op n A c args)) : args.length ≤ 9223372036854775807 := by
  rw [Sk] at h; exact Nat.le_trans h.1 h.2.1

set_option maxRecDepth 100000 in
set_option maxHeartbeats 8000000 in
theorem ConceptOwn_any (n : NM) (T : MT) (w : World) (hG : G w) (hn : n.In w.heap.size w) (hT : T.In w.heap.size w) :
    Calls Tryd.prog 8 #[n.val, T.val] w fun e w' => e = .returned (.bool true) ∧ Below w.heap.size w w' := by
  obtain ⟨W1, hW1, hB1, hs1, hblk1⟩ := newBlk w _ rfl #[.slice n.C.A n.C.l.length n.C.c, .slice n.R.A n.R.l.length n.R.c, .slice n.I.A n.I.l.length n.I.c] 24
  obtain ⟨W2, hW2, hB2, hs2, hblk2⟩ := newBlk W1 _ hs1 #[.int .i64 T.op, .int .i64 T.n, .slice T.A T.args.length T.c] 27
  have hB : Below w.heap.size w W2 := hB1.trans (hB2.mono (by omega))
  have hblk12 := (hB2.block w.heap.size (by omega)).trans hblk1
  have hcell : ∀ w', Below W2.heap.size W2 w' → (w'.cell? ⟨w.heap.size, 0, none⟩ = some (.slice n.C.A n.C.l.length n.C.c) ∧ w'.cell? ⟨w.heap.size, 1, none⟩ = some (.slice n.R.A n.R.l.length n.R.c) ∧ w'.cell? ⟨w.heap.size, 2, none⟩ = some (.slice n.I.A n.I.l.length n.I.c)) ∧ (w'.cell? ⟨w.heap.size + 1, 0, none⟩ = some (.int .i64 T.op) ∧ w'.cell? ⟨w.heap.size + 1, 1, none⟩ = some (.int .i64 T.n) ∧ w'.cell? ⟨w.heap.size + 1, 2, none⟩ = some (.slice T.A T.args.length T.c)) := fun w' hb =>
    ⟨box_cells hblk12 hb, box_cells hblk2 hb⟩
  have hn2 := hn.later hB
  have hT2 := hT.later hB
  have hG2 := hG.later hB
  have hfe := FewNames_any n W2 hn2
  have hfi := fun w1 (hb : Below W2.heap.size W2 w1) => Fits_any T 3000 w1 (hT2.later hb) (by omega) (by omega)
  have haw := fun w1 (hb : Below W2.heap.size W2 w1) => awake_any w1 (hG2.later hb)
  obtain ⟨⟨a0, a1, a2⟩, b0, b1, b2⟩ := hcell W2 (Below.refl _ _)
  simp only [fits_size] at hfi
  simp only [NM.val, MT.val] at hfe hfi ⊢
  rcases hf : fewB n
  · rw [hf] at hfe
    clear hf
    go_enter Tryd.func8, Tryd.ntmps8
    go_wp2_with (first | (go_at_call 13; refine hfe.mono ?_; rintro e w1 ⟨rfl, hb01⟩) | (go_at_call 15; refine (haw _ hb01).mono ?_; rintro e w99 ⟨rfl, hb99⟩))
    go_ret
    exact ⟨rfl, hB.trans ((thn hb01 hb99).mono (by omega))⟩
  · have hl := few_lens hf
    rw [hf] at hfe
    by_cases hsz : (T.tr.size : Int) ≤ 3000
    · rw [decide_eq_true hsz] at hfi
      have hpl : (T.pre 1).length ≤ 1000000 := by rw [MT.pre_length]; omega
      have hck0 : ∀ (a : Bool), _ := fun a => norm_code (n := n) (T := T) (a := a)
      have hstb := strR_bound (n := n) (T := T)
      have hsn : ∀ w1, Below W2.heap.size W2 w1 → Calls Tryd.prog 25 #[n.val, T.val] w1 (RetTreeE w1 (normTr n T false) (normE n T false)) := fun w1 hb => Normal_any n T w1 (hG2.later hb) (hn2.later hb) (hT2.later hb) (by omega)
      have hno : ∀ w1, Below W2.heap.size W2 w1 → Calls Tryd.prog 26 #[n.val, T.val] w1 (RetTreeE w1 (normTr n T true) (normE n T true)) := fun w1 hb => Not_any n T w1 (hG2.later hb) (hn2.later hb) (hT2.later hb) (by omega)
      have hsu : ∀ w1, Below W2.heap.size W2 w1 → Calls Tryd.prog 28 #[n.val, T.val] w1 (RetSq w1 (checkF n T)) := fun w1 hb => cSubs_ret n T w1 (hG2.later hb) (hn2.later hb) (hT2.later hb) hpl
      have hus : ∀ w1, Below W2.heap.size W2 w1 → Calls Tryd.prog 29 #[n.val, T.val] w1 (RetUq w1 (checkF n T)) := fun w1 hb => cUses_ret n T w1 (hG2.later hb) (hn2.later hb) (hT2.later hb) hpl
      have hst : ∀ w1, Below W2.heap.size W2 w1 → Calls Tryd.prog 33 #[n.val, T.val] w1 fun e w' => e = .returned (.tuple #[.string (strOf (strR n T)), .int .i64 (checkF n T)]) ∧ Below w1.heap.size w1 w' := fun w1 hb => cString_any n T w1 (hG2.later hb) (hn2.later hb) (hT2.later hb) (by omega)
      have hpa : ∀ w1, Below W2.heap.size W2 w1 → Calls Tryd.prog 35 #[n.val, .string (strOf (strR n T))] w1 (RetTreeE w1 (parseTr n (strR n T)) (parseE n (strR n T))) := fun w1 hb => by
        have := cParse_any n (strOf (strR n T)) w1 (hG2.later hb) (hn2.later hb) (by rw [← data_size, strOf_data]; unfold maxLen; have := hstb.1; omega)
        rw [strOf_data] at this
        exact this
      have hp0 : checkF n T = 0 → parseTr n (strR n T) = T.tr ∧ parseE n (strR n T) = 0 := fun h => by
        rw [hstb.2 h]
        exact parse_str (by rw [← checkF_eq, h]; rfl)
      have hsa : ∀ (U V : MT) (w1 : World), U.In w1.heap.size w1 → V.In w1.heap.size w1 → U.tr = V.tr → Calls Tryd.prog 23 #[U.val, V.val] w1 fun e w' => e = .returned (.bool true) ∧ Below w1.heap.size w1 w' := fun U V w1 hU hV he => by
        have := rSame_any U V w1 hU hV
        rw [he, beq_self] at this
        exact this
      obtain ⟨p1, p2⟩ : (_ ∧ _) := ⟨hck0 false, hck0 true⟩
      clear hck0 hstb
      generalize parseTr n (strR n T) = dt at hpa hp0
      generalize parseE n (strR n T) = dc at hpa hp0
      generalize strOf (strR n T) = s0 at hst hpa
      generalize normTr n T false = tx at hsn
      generalize normTr n T true = ty at hno
      generalize normE n T false = ex at hsn p1
      generalize normE n T true = ey at hno p2
      generalize checkF n T = ck at hsu hus hst p1 p2 hp0
      have HL := Lib.hid (show n.C.l.length ≤ 1000 ∧ n.R.l.length ≤ 1000 ∧ n.I.l.length ≤ 1000 from ⟨by omega, by omega, by omega⟩)
      have HS := Lib.hid (show T.tr.size ≤ 1000000 by omega)
      have HK1 := Lib.hid hblk12
      have HK2 := Lib.hid hblk2
      simp only [NM.val, MT.val] at hsn hno hsu hus hst hpa hsa
      have HP0 := Lib.hid hp0
      have HP1 := Lib.hid p1
      have HP2 := Lib.hid p2
      have HB := Lib.hid hB
      clear hblk12 hblk2
      clear hp0 p1 p2 hf hl hsz hpl hB1 hB2 hblk1 hB
      go_enter Tryd.func8, Tryd.ntmps8
      go_wp2_with (first | (go_at_call 13; refine hfe.mono ?_; rintro e w1 ⟨rfl, hb01⟩; obtain ⟨⟨c0, c1, c2⟩, d0, d1, d2⟩ := hcell w1 hb01) | (go_at_call 14; refine (hfi _ hb01).mono ?_; rintro e w2 ⟨rfl, hb2⟩; have hb02 := thn hb01 hb2; obtain ⟨⟨c0, c1, c2⟩, d0, d1, d2⟩ := hcell w2 hb02))
      refine own_region w.heap.size (w.heap.size + 1) n T w2 _ (hn2.later hb02) (hT2.later hb02) HL.out HS.out (blk_below HK1.out hb02) (blk_below HK2.out hb02) _ _ _ _ _ _ _ _ _ _ _ _ _ _ _ _ _ _ _ _ _ _ _ _ _ _ _ _ _ _ _ _ _ _ _ _ _ _ _ _ _ _ _ _ _ _ _ _ _ _ _ _ _ _ _ _ _ _ _ _ _ _ _ _ _ _ _ _ _ _ _ _ _ _ _ _ _ _ _ _ _ _ _ _ _ _ _ _ _ _ _ _ _ _ _ _ _ _ _ _ _ _ _ _ _ _ _ _ _ _ _ _ _ _ _ _ _ _ _ _ _ _ _ _ _ _ _ _ _ _ _ _ _ _ _ _ _ _ _ _ _ _ _ _ _ _ _ _ _ _ _ _ _ _ _ _ ?_
      intro x0 x1 x4 x7 x8 x9 x10 x11 x12 x13 x14 x15 x16 x17 x18 x19 x20 x21 x22 x23 x24 x25 x26 x27 x28 x29 x30 x31 x32 x33 x38 x39 x40 x41 x42 x43 x44 x45 x46 x47 x48 x49 x50 x51 x52 x53 x54 x55 x56 x57 x58 x59 x60 x61 x62 x63 x64 x65 x66 x67 x68 x69 x70 x71 x72 x73 x74 x75 x76 x77 x78 x79 x80 x81 x82 x83 x84 x85 x86 x87 x88 x89 x90 x91 x92 x93 x94 x95 x96 x97 x98 x99 x100 x101 x102 x103 x104 x105 x106 x107 x108 x109 x110 x111 x112 x113 x114 x115 x116 x117 x118 x119 x120 x121 x122 x123 x124 x125 x126 x127 x128 x129 x130 x131 x132 x133 x134 x135 x136 x137 x138 x139 x140 x141 x142 x143 x144 x145 x146 x147 x148 x149 x150 x151 x152 x153 x154 x155 x156 x157 t34 t35 t36 t37 t5 t6 W5 hE
      obtain ⟨O, M, bo, bm, rfl, rfl, hbE, hO, hMt, hM, hko, hkm⟩ := hE
      dsimp only
      have hb25 := thn hb02 (((Below.refl w2.heap.size w2).drew).trans hbE)
      have hcell5 := fun w' (hb : Below W5.heap.size W5 w') => hcell w' (thn hb25 hb)
      obtain ⟨⟨c0, c1, c2⟩, d0, d1, d2⟩ := hcell5 W5 (Below.refl _ _)
      have HKO := Lib.hid hko
      have HKM := Lib.hid hkm
      have HO := Lib.hid (hO.In hn2)
      have HM := Lib.hid hM.1
      have HMT := Lib.hid hMt
      have HOE := Lib.hid (show O.C.l = n.C.l ∧ O.R.l = n.R.l ∧ O.I.l = n.I.l from ⟨hO.1.2, hO.2.1.2, hO.2.2.2⟩)
      clear hko hkm hO hM hMt hbE
      go_wp2_with (first
        | (go_at_call 39; first
          | (refine hchY.mono ?_; rintro e w10 ⟨rfl, hcY⟩; have hb10 := hb9.trans hcY.below; obtain ⟨⟨c0, c1, c2⟩, d0, d1, d2⟩ := hcell5 w10 hb10)
          | (refine hchX.mono ?_; rintro e w8 ⟨rfl, hcX⟩; have hb8 := hb7.trans hcX.below; obtain ⟨⟨c0, c1, c2⟩, d0, d1, d2⟩ := hcell5 w8 hb8))
        | (go_at_call 25; refine (hsn W5 hb25).mono ?_; rintro e w6 ⟨X, rfl, htX, hnX, hb6⟩; clear htX; obtain ⟨W7, hW7, hB7, hs7, hk7⟩ := (newBlk w6 _ rfl #[.int .i64 X.op, .int .i64 X.n, .slice X.A X.args.length X.c] 27); have hb7 := thn hb6 hB7; have hchX := change_any X W5.heap.size w6.heap.size 0 _ _ _ _ W7 hb6.size hk7 rfl rfl rfl (sk_of_new X (hnX.later hB7)))
        | (go_at_call 26; refine (hno w8 (thn hb25 hb8)).mono ?_; rintro e w8' ⟨Y, rfl, htY, hnY, hb8'⟩; clear htY; have hb88 := thn hb8 hb8'; obtain ⟨W9, hW9, hB9, hs9, hk9⟩ := (newBlk w8' _ rfl #[.int .i64 Y.op, .int .i64 Y.n, .slice Y.A Y.args.length Y.c] 27); have hb9 := thn hb88 hB9; have hchY := change_any Y W5.heap.size w8'.heap.size 0 _ _ _ _ W9 hb88.size hk9 rfl rfl rfl (sk_of_new Y ((hnY.lo hb8.size).later hB9)))
        | (go_at_call 28; refine (hsu w10 (thn hb25 hb10)).mono ?_; rintro e w11 ⟨lv, Ls, lo, rfl, hlo, hcoll, hb11'⟩; obtain ⟨lA, lc, rfl, hnl⟩ := in_of_row (op := 0) (n := 0) hcoll.own (Nat.le_refl _) (fun t ht => (hcoll.trees t ht).1); have hb11 := thn hb10 hb11'; have hsl : Sk W5.heap.size w11 (.mk 0 0 lA lc Ls) := sk_of_new _ (hnl.lo (Nat.le_trans hb10.size hlo)); obtain ⟨⟨c0, c1, c2⟩, d0, d1, d2⟩ := hcell5 w11 hb11; have hlq := sk_len hsl; have HSL := Lib.hid hsl; clear hsl hnl hcoll hlo))
      clear hchX hchY hnX hnY
      go_loopw [60] (fun i wr => ∃ k : Nat, k ≤ Ls.length ∧ i = .int .i64 k ∧ Chg W5.heap.size w11 wr) (fun i _ => Ls.length - (intOf i).toNat)
      case atStart => exact ⟨0, Nat.zero_le _, rfl, Chg.refl _ _⟩
      case round =>
        obtain ⟨k, hk, rfl, hch⟩ := hrel
        by_cases hlt : k < Ls.length
        · have hsk' := Sk.chg hch _ HSL.out
          rw [Sk] at hsk'
          obtain ⟨-, -, hrow, hks⟩ := hsk'
          obtain ⟨rb, ro, rcs, rfl, hrlo, hrb, hrc⟩ := hrow (by omega)
          obtain ⟨⟨xx, q0⟩, ⟨yy, q1⟩, q2⟩ := hrc k hlt
          have hih := change_any Ls[k] W5.heap.size rb (ro + k * 3) rcs _ xx yy wr hrlo hrb q0 q1 q2 (hks.at_ k hlt)
          have h0I : (0 : Int) ≤ k := by omega
          have hlI : (k : Int) < Ls.length := by omega
          clear hrc hks hrow
          go_wp2_with (go_at_call 39; refine hih.mono ?_; clear hih; rintro e w' ⟨rfl, hch2⟩)
          go_roundw
          case rel => exact ⟨k + 1, by omega, by go_num, hch.trans hch2⟩
          case measure => simp [intOf]; omega
        · have hb12 := hb11.trans hch.below
          obtain ⟨⟨c0, c1, c2⟩, d0, d1, d2⟩ := hcell5 wr hb12
          go_wp2_with (go_at_call 29; refine (hus wr (thn hb25 hb12)).mono ?_; rintro e w13 ⟨v1, v2, xs, ys, rfl, ho1, ho2, hb13'⟩; have hb13 := thn hb12 hb13'; obtain ⟨A1, c1', rfl, hr1⟩ := IR.of_owns ho1 hb12.size; obtain ⟨A2, c2', rfl, hr2⟩ := IR.of_owns ho2 hb12.size; clear ho1 ho2; have hx1 := hr1.1; have hx2 := hr2.1; have HR1 := Lib.hid hr1; have HR2 := Lib.hid hr2; clear hr1 hr2)
          go_loopw [77] (fun i wr => ∃ k : Nat, k ≤ xs.length ∧ i = .int .i64 k ∧ Chg W5.heap.size w13 wr) (fun i _ => xs.length - (intOf i).toNat)
          case atStart => exact ⟨0, Nat.zero_le _, rfl, Chg.refl _ _⟩
          case round =>
            obtain ⟨k2, hk2, rfl, hch2⟩ := hrel
            by_cases hlt2 : k2 < xs.length
            · obtain ⟨g, cs, rfl, hlo2, hg, hcs⟩ := (HR1.out.chg hch2).2 (by omega)
              obtain ⟨x, hx⟩ := hcs k2 hlt2
              have e0 := cell_of_blk hg k2
              rw [hx] at e0
              have f0 := frozen_of_blk hg k2
              have hst2 := Chg.set (y := -1) hlo2 hg hx
              have h0I : (0 : Int) ≤ k2 := by omega
              have hlI : (k2 : Int) < xs.length := by omega
              clear hcs hg
              go_wp2_with fail
              go_roundw
              case rel => exact ⟨k2 + 1, by omega, by go_num, hch2.trans hst2⟩
              case measure => simp [intOf]; omega
            · go_wp2_with fail
              go_loopw [86] (fun i wr => ∃ k : Nat, k ≤ ys.length ∧ i = .int .i64 k ∧ Chg W5.heap.size w13 wr) (fun i _ => ys.length - (intOf i).toNat)
              case atStart => exact ⟨0, Nat.zero_le _, rfl, hch2⟩
              case round =>
                obtain ⟨k3, hk3, rfl, hch3⟩ := hrel
                by_cases hlt3 : k3 < ys.length
                · obtain ⟨g, cs, rfl, hlo2, hg, hcs⟩ := (HR2.out.chg hch3).2 (by omega)
                  obtain ⟨x, hx⟩ := hcs k3 hlt3
                  have e0 := cell_of_blk hg k3
                  rw [hx] at e0
                  have f0 := frozen_of_blk hg k3
                  have hst2 := Chg.set (y := -1) hlo2 hg hx
                  have h0I : (0 : Int) ≤ k3 := by omega
                  have hlI : (k3 : Int) < ys.length := by omega
                  clear hcs hg
                  go_wp2_with fail
                  go_roundw
                  case rel => exact ⟨k3 + 1, by omega, by go_num, hch3.trans hst2⟩
                  case measure => simp [intOf]; omega
                · have hb15 := hb13.trans hch3.below
                  obtain ⟨⟨c0, c1, c2⟩, d0, d1, d2⟩ := hcell5 wr hb15
                  clear HR1 HR2 HSL hsn hno hsu hus hfi hfe
                  by_cases hck : ck = 0
                  · obtain ⟨rfl, rfl⟩ := HP0.out hck
                    subst hck
                    rcases HP1.out with p1 | ⟨p1, p1'⟩ <;> rcases HP2.out with p2 | ⟨p2, p2'⟩
                    all_goals
                      go_wp2_with (first
                        | (go_at_call 33; refine (hst wr (thn hb25 hb15)).mono ?_; rintro e w16 ⟨rfl, hb16'⟩; have hb16 := thn hb15 hb16'; obtain ⟨⟨c0, c1, c2⟩, d0, d1, d2⟩ := hcell5 w16 hb16)
                        | (go_at_call 35; first
                          | (refine (hpa w20 (thn hb25 hb20)).mono ?_; rintro e w21 ⟨D2, rfl, htD2, hnD2, hb21'⟩; have HTD := Lib.hid htD2; clear htD2; have hb21 := thn hb20 hb21'; obtain ⟨W22, hW22, hB22, hs22, hk22⟩ := (newBlk w21 _ rfl #[.int .i64 D2.op, .int .i64 D2.n, .slice D2.A D2.args.length D2.c] 27); have hb22 := thn hb21 hB22; have HD2 := Lib.hid (hnD2.1.later hB22); clear hnD2; obtain ⟨⟨c0, c1, c2⟩, d0, d1, d2⟩ := hcell5 W22 hb22; obtain ⟨o0, o1, o2⟩ := box_cells HKO.out hb22; obtain ⟨m0, m1, m2⟩ := box_cells HKM.out hb22; obtain ⟨z0, z1, z2⟩ := box_cells hk22 (Below.refl _ W22); have hsm := SameNames_any O n W22 (HO.out.later hb22) (hn2.later (thn hb25 hb22)) HOE.out.1 HOE.out.2.1 HOE.out.2.2; simp only [NM.val] at hsm)
                          | (refine (hpa w16 (thn hb25 hb16)).mono ?_; rintro e w17 ⟨D, rfl, htD, hnD, hb17'⟩; clear htD; have hb17 := thn hb16 hb17'; obtain ⟨W18, hW18, hB18, hs18, hk18⟩ := (newBlk w17 _ rfl #[.int .i64 D.op, .int .i64 D.n, .slice D.A D.args.length D.c] 27); have hb18 := thn hb17 hB18; have hchD := change_any D W5.heap.size w17.heap.size 0 _ _ _ _ W18 hb17.size hk18 rfl rfl rfl (sk_of_new D ((hnD.lo hb16.size).later hB18))))
                        | (go_at_call 39; refine hchD.mono ?_; clear hchD; rintro e w20 ⟨rfl, hcD⟩; have hb20 := hb18.trans hcD.below; obtain ⟨⟨c0, c1, c2⟩, d0, d1, d2⟩ := hcell5 w20 hb20)
                        | (go_at_call 40; refine hsm.mono ?_; clear hsm; rintro e w23 ⟨rfl, hb23'⟩; have hb23 := thn hb22 hb23'; obtain ⟨⟨c0, c1, c2⟩, d0, d1, d2⟩ := hcell5 w23 hb23; obtain ⟨m0, m1, m2⟩ := box_cells HKM.out hb23; obtain ⟨z0, z1, z2⟩ := box_cells hk22 hb23')
                        | (go_at_call 23; first
                          | (refine (hsa D2 T w24 ((HD2.out.later hb23').later hb24') (hT2.later (thn hb25 hb24)) HTD.out).mono ?_; rintro e w25 ⟨rfl, hb25'⟩; have hb26 := thn hb24 hb25')
                          | (refine (hsa M T w23 (HM.out.later hb23) (hT2.later (thn hb25 hb23)) HMT.out).mono ?_; rintro e w24 ⟨rfl, hb24'⟩; have hb24 := thn hb23 hb24'; obtain ⟨⟨c0, c1, c2⟩, d0, d1, d2⟩ := hcell5 w24 hb24; obtain ⟨z0, z1, z2⟩ := box_cells hk22 (thn hb23' hb24')))
                        | (go_at_call 15; refine (haw w25 (thn hb25 hb26)).mono ?_; rintro e w99 ⟨rfl, hb99⟩))
                      go_ret
                      exact ⟨rfl, HB.out.trans ((thn (thn hb25 hb26) hb99).mono (by omega))⟩
                  · have hck1 : (ck != 0) = true := by simpa using hck
                    clear hck
                    rcases HP1.out with p1 | ⟨p1, p1'⟩ <;> rcases HP2.out with p2 | ⟨p2, p2'⟩
                    all_goals
                      go_wp2_with (first
                        | (go_at_call 33; refine (hst wr (thn hb25 hb15)).mono ?_; rintro e w16 ⟨rfl, hb16'⟩; have hb16 := thn hb15 hb16'; obtain ⟨⟨c0, c1, c2⟩, d0, d1, d2⟩ := hcell5 w16 hb16)
                        | (go_at_call 35; first
                          | (refine (hpa w20 (thn hb25 hb20)).mono ?_; rintro e w21 ⟨D2, rfl, htD2, hnD2, hb21'⟩; have HTD := Lib.hid htD2; clear htD2; have hb21 := thn hb20 hb21'; obtain ⟨W22, hW22, hB22, hs22, hk22⟩ := (newBlk w21 _ rfl #[.int .i64 D2.op, .int .i64 D2.n, .slice D2.A D2.args.length D2.c] 27); have hb22 := thn hb21 hB22; have HD2 := Lib.hid (hnD2.1.later hB22); clear hnD2; obtain ⟨⟨c0, c1, c2⟩, d0, d1, d2⟩ := hcell5 W22 hb22; obtain ⟨o0, o1, o2⟩ := box_cells HKO.out hb22; obtain ⟨m0, m1, m2⟩ := box_cells HKM.out hb22; obtain ⟨z0, z1, z2⟩ := box_cells hk22 (Below.refl _ W22); have hsm := SameNames_any O n W22 (HO.out.later hb22) (hn2.later (thn hb25 hb22)) HOE.out.1 HOE.out.2.1 HOE.out.2.2; simp only [NM.val] at hsm)
                          | (refine (hpa w16 (thn hb25 hb16)).mono ?_; rintro e w17 ⟨D, rfl, htD, hnD, hb17'⟩; clear htD; have hb17 := thn hb16 hb17'; obtain ⟨W18, hW18, hB18, hs18, hk18⟩ := (newBlk w17 _ rfl #[.int .i64 D.op, .int .i64 D.n, .slice D.A D.args.length D.c] 27); have hb18 := thn hb17 hB18; have hchD := change_any D W5.heap.size w17.heap.size 0 _ _ _ _ W18 hb17.size hk18 rfl rfl rfl (sk_of_new D ((hnD.lo hb16.size).later hB18))))
                        | (go_at_call 39; refine hchD.mono ?_; clear hchD; rintro e w20 ⟨rfl, hcD⟩; have hb20 := hb18.trans hcD.below; obtain ⟨⟨c0, c1, c2⟩, d0, d1, d2⟩ := hcell5 w20 hb20)
                        | (go_at_call 40; refine hsm.mono ?_; clear hsm; rintro e w23 ⟨rfl, hb23'⟩; have hb23 := thn hb22 hb23'; obtain ⟨⟨c0, c1, c2⟩, d0, d1, d2⟩ := hcell5 w23 hb23; obtain ⟨m0, m1, m2⟩ := box_cells HKM.out hb23; obtain ⟨z0, z1, z2⟩ := box_cells hk22 hb23')
                        | (go_at_call 23; first
                          | (refine (hsa M T w23 (HM.out.later hb23) (hT2.later (thn hb25 hb23)) HMT.out).mono ?_; rintro e w24 ⟨rfl, hb24'⟩; have hb24 := thn hb23 hb24'; obtain ⟨⟨c0, c1, c2⟩, d0, d1, d2⟩ := hcell5 w24 hb24; obtain ⟨z0, z1, z2⟩ := box_cells hk22 (thn hb23' hb24')))
                        | (go_at_call 15; refine (haw w24 (thn hb25 hb24)).mono ?_; rintro e w99 ⟨rfl, hb99⟩))
                      go_ret
                      exact ⟨rfl, HB.out.trans ((thn (thn hb25 hb24) hb99).mono (by omega))⟩
    · rw [decide_eq_false hsz] at hfi
      go_enter Tryd.func8, Tryd.ntmps8
      go_wp2_with (first | (go_at_call 13; refine hfe.mono ?_; rintro e w1 ⟨rfl, hb01⟩; obtain ⟨⟨c0, c1, c2⟩, d0, d1, d2⟩ := hcell w1 hb01) | (go_at_call 14; refine (hfi _ hb01).mono ?_; rintro e w2 ⟨rfl, hb2⟩; have hb02 := thn hb01 hb2) | (go_at_call 15; refine (haw _ hb02).mono ?_; rintro e w3 ⟨rfl, hb3⟩))
      go_ret
      exact ⟨rfl, hB.trans ((thn hb02 hb3).mono (by omega))⟩
end Go.Proofs.YtdfghgcfihhmjaaDoor
