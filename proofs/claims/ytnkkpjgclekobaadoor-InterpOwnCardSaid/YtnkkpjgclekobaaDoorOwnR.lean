import Derived.Test.YtnkkpjgclekobaaDoorBCopy
import Derived.Test.YtnkkpjgclekobaaDoorIncR
import Derived.Test.YtnkkpjgclekobaaDoorIncl2
import Derived.Test.YtnkkpjgclekobaaDoorFl0
import Derived.Test.YtnkkpjgclekobaaDoorRIs
import Derived.Test.YtnkkpjgclekobaaDoorSameL
import Derived.Test.YtnkkpjgclekobaaDoorHeld
import Derived.Deep.DrawnRows
import Derived.Test.YtnkkpjgclekobaaDoorBSame
namespace Go.Proofs.YtnkkpjgclekobaaDoor
open Go.RowKit
attribute [local go_sem ↓] Go.wp_at_zero Go.wp_at_succ

/-- The region in which InterpOwn keeps copies of its arguments. -/
def opsOwn : Array Oper := #[{ dst := some 34, op := Op.load 54 (Operand.tmp 4), type := 54, pos := "law.go:256", after := #[], guard := none },
  { dst := some 35, op := Op.call { callee := Callee.value (Operand.func 23), args := #[Operand.tmp 34], argTypes := #[54] }, type := 54, pos := "law.go:256", after := #[{ on := 0, ground := Ground.data }], guard := none },
  { dst := some 36, op := Op.load 27 (Operand.tmp 5), type := 27, pos := "law.go:256", after := #[], guard := none },
  { dst := some 37, op := Op.call { callee := Callee.value (Operand.func 10), args := #[Operand.tmp 36], argTypes := #[27] }, type := 27, pos := "law.go:256", after := #[{ on := 2, ground := Ground.data }, { on := 1, ground := Ground.chain }], guard := none },
  { dst := some 38, op := Op.load 58 (Operand.tmp 6), type := 58, pos := "law.go:256", after := #[], guard := none },
  { dst := some 39, op := Op.call { callee := Callee.value (Operand.func 24), args := #[Operand.tmp 38], argTypes := #[58] }, type := 58, pos := "law.go:256", after := #[{ on := 4, ground := Ground.data }, { on := 3, ground := Ground.chain }], guard := none },
  { dst := some 9, op := Op.alloc 54, type := 0, pos := "law.go:256", after := #[], guard := none },
  { dst := some 10, op := Op.alloc 27, type := 0, pos := "law.go:256", after := #[], guard := none },
  { dst := some 11, op := Op.alloc 58, type := 0, pos := "law.go:256", after := #[], guard := none },
  { dst := none, op := Op.store 54 (Operand.tmp 9) (Operand.tmp 35), type := 0, pos := "law.go:256", after := #[{ on := 6, ground := Ground.data }, { on := 1, ground := Ground.data }, { on := 5, ground := Ground.chain }, { on := 0, ground := Ground.phase }, { on := 1, ground := Ground.phase }, { on := 2, ground := Ground.textOnly Departure.lateStores }, { on := 3, ground := Ground.textOnly Departure.lateStoresUnsure }, { on := 4, ground := Ground.textOnly Departure.lateStores }, { on := 5, ground := Ground.textOnly Departure.lateStoresUnsure }, { on := 6, ground := Ground.phase }, { on := 7, ground := Ground.phase }, { on := 8, ground := Ground.phase }], guard := none },
  { dst := none, op := Op.store 27 (Operand.tmp 10) (Operand.tmp 37), type := 0, pos := "law.go:256", after := #[{ on := 7, ground := Ground.data }, { on := 3, ground := Ground.data }, { on := 9, ground := Ground.chain }, { on := 0, ground := Ground.phase }, { on := 1, ground := Ground.phase }, { on := 2, ground := Ground.phase }, { on := 3, ground := Ground.phase }, { on := 4, ground := Ground.textOnly Departure.lateStores }, { on := 5, ground := Ground.textOnly Departure.lateStoresUnsure }, { on := 6, ground := Ground.phase }, { on := 7, ground := Ground.phase }, { on := 8, ground := Ground.phase }, { on := 9, ground := Ground.phase }], guard := none },
  { dst := none, op := Op.store 58 (Operand.tmp 11) (Operand.tmp 39), type := 0, pos := "law.go:256", after := #[{ on := 8, ground := Ground.data }, { on := 5, ground := Ground.data }, { on := 10, ground := Ground.chain }, { on := 0, ground := Ground.phase }, { on := 1, ground := Ground.phase }, { on := 2, ground := Ground.phase }, { on := 3, ground := Ground.phase }, { on := 4, ground := Ground.phase }, { on := 5, ground := Ground.phase }, { on := 6, ground := Ground.phase }, { on := 7, ground := Ground.phase }, { on := 8, ground := Ground.phase }, { on := 9, ground := Ground.phase }, { on := 10, ground := Ground.phase }], guard := none }]
theorem readyOwn : ∀ s1 s2 s3 s4 s5 s6 : Bool, Region.ready .any opsOwn #[true, s1, true, s2, true, s3, s4, s5, s6, false, false, false] =
    (if s1 then [] else [1]) ++ (if !s2 && s1 then [3] else []) ++ (if !s3 && s2 then [5] else []) ++ (if s4 then [] else [6]) ++ (if s5 then [] else [7]) ++ (if s6 then [] else [8]) ++ (if s1 && s3 && s4 && s5 && s6 then [9] else []) := by
  intro s1 s2 s3 s4 s5 s6
  cases s1 <;> cases s2 <;> cases s3 <;> cases s4 <;> cases s5 <;> cases s6 <;> kernel_rfl
/-- The boxes that have been made are off a stretch of blocks. -/
def Offs (s4 s5 s6 : Bool) (t9 t10 t11 : Value) (lo hi : Nat) : Prop := ∀ D, (s4 = true ∧ t9 = .pointer (some ⟨D, 0, none⟩) ∨ s5 = true ∧ t10 = .pointer (some ⟨D, 0, none⟩) ∨ s6 = true ∧ t11 = .pointer (some ⟨D, 0, none⟩)) → D < lo ∨ hi ≤ D
structure SO (b : BN) (c : MT) (i : IN) (W W' : World) (s1 s2 s3 s4 s5 s6 : Bool) (t35 t37 t39 t9 t10 t11 : Value) : Prop where
  bel : Below W.heap.size W W'
  k1 : s1 = true → ∃ (m : BN) (lo hi : Nat), t35 = m.val ∧ EqB m b ∧ W.heap.size ≤ lo ∧ Held lo hi W' (fun w2 => m.In w2.heap.size w2) ∧ Offs s4 s5 s6 t9 t10 t11 lo hi
  k2 : s2 = true → ∃ (m : MT) (lo hi : Nat), t37 = m.val ∧ m.tr = c.tr ∧ W.heap.size ≤ lo ∧ Held lo hi W' (fun w2 => m.In w2.heap.size w2) ∧ Offs s4 s5 s6 t9 t10 t11 lo hi
  k3 : s3 = true → ∃ (m : IN) (lo hi : Nat), t39 = m.val ∧ EqI m i ∧ W.heap.size ≤ lo ∧ Held lo hi W' (fun w2 => m.In w2.heap.size w2) ∧ Offs s4 s5 s6 t9 t10 t11 lo hi
  k4 : s4 = true → ∃ D, t9 = .pointer (some ⟨D, 0, none⟩) ∧ W.heap.size ≤ D ∧ W'.heap[D]? = some (.cells #[.slice none 0 0, .slice none 0 0, .slice none 0 0, .slice none 0 0, .slice none 0 0, .slice none 0 0, .slice none 0 0] 54)
  k5 : s5 = true → ∃ D, t10 = .pointer (some ⟨D, 0, none⟩) ∧ W.heap.size ≤ D ∧ W'.heap[D]? = some (.cells #[.int .i64 0, .int .i64 0, .slice none 0 0] 27)
  k6 : s6 = true → ∃ D, t11 = .pointer (some ⟨D, 0, none⟩) ∧ W.heap.size ≤ D ∧ W'.heap[D]? = some (.cells #[.int .i64 0, .slice none 0 0, .slice none 0 0, .slice none 0 0] 58)
theorem SO.lt {b : BN} {c : MT} {i : IN} {W W' : World} {s1 s2 s3 s4 s5 s6 : Bool} {t35 t37 t39 t9 t10 t11 : Value} (h : SO b c i W W' s1 s2 s3 s4 s5 s6 t35 t37 t39 t9 t10 t11) (hi : Nat) : Offs s4 s5 s6 t9 t10 t11 W'.heap.size hi := fun D e => by
  rcases e with ⟨e1, e2⟩ | ⟨e1, e2⟩ | ⟨e1, e2⟩
  · obtain ⟨D', q1, -, q2⟩ := h.k4 e1; rw [q1] at e2; cases e2; exact .inl (Array.getElem?_eq_some_iff.1 q2).1
  · obtain ⟨D', q1, -, q2⟩ := h.k5 e1; rw [q1] at e2; cases e2; exact .inl (Array.getElem?_eq_some_iff.1 q2).1
  · obtain ⟨D', q1, -, q2⟩ := h.k6 e1; rw [q1] at e2; cases e2; exact .inl (Array.getElem?_eq_some_iff.1 q2).1
/-- What the region leaves. -/
def EndOwn (b : BN) (c : MT) (i : IN) (W W2 : World) (t9 t10 t11 : Value) : Prop := ∃ (m : BN) (M : MT) (j : IN) (D1 D2 D3 : Nat), t9 = .pointer (some ⟨D1, 0, none⟩) ∧ t10 = .pointer (some ⟨D2, 0, none⟩) ∧ t11 = .pointer (some ⟨D3, 0, none⟩) ∧ Below W.heap.size W W2 ∧ EqB m b ∧ M.tr = c.tr ∧ EqI j i ∧
  m.In W2.heap.size W2 ∧ M.In W2.heap.size W2 ∧ j.In W2.heap.size W2 ∧ W2.heap[D1]? = some (.cells m.cells 54) ∧ W2.heap[D2]? = some (.cells #[.int .i64 M.op, .int .i64 M.n, .slice M.A M.args.length M.c] 27) ∧ W2.heap[D3]? = some (.cells j.cells 58)

set_option maxRecDepth 100000 in
set_option maxHeartbeats 8000000 in
theorem ownA (b : BN) (c : MT) (i : IN) (W : World) (Q : Exit → Act → World → Prop) (S : World → Prop) (hS : ∀ w', Below W.heap.size W w' → S w')
    (hcb : ∀ w', Below W.heap.size W w' → Calls Tryd.prog 23 #[b.val] w' (RetCopyB b w')) (hcc : ∀ w', Below W.heap.size W w' → Calls Tryd.prog 10 #[c.val] w' (RetTree w' c.tr)) (hci : ∀ w', Below W.heap.size W w' → Calls Tryd.prog 24 #[i.val] w' (RetCopyI i w'))
    (x0 x1 x2 x3 x4 x5 x6 x7 x8 x12 x13 x14 x15 x16 x17 x18 x19 x20 x21 x22 x23 x24 x25 x26 x27 x28 x29 x30 x31 x32 x33 x40 x41 x42 x43 x44 x45 x46 x47 x48 x49 x50 x51 x52 x53 x54 x55 x56 x57 x58 x59 x60 x61 x62 x63 x64 x65 x66 x67 x68 x69 x70 x71 x72 x73 x74 x75 x76 x77 x78 x79 x80 x81 x82 x83 x84 x85 x86 x87 x88 x89 x90 x91 x92 x93 x94 x95 x96 x97 x98 x99 x100 x101 x102 x103 x104 x105 x106 x107 x108 x109 x110 x111 x112 x113 x114 x115 x116 x117 : Value)
    (hend : ∀ (t35 t37 t39 t9 t10 t11 : Value) (W' : World), SO b c i W W' true true true true true true t35 t37 t39 t9 t10 t11 → wpAnyH Tryd.prog .any opsOwn Q S 3 #[true, true, true, true, true, true, true, true, true, false, false, false] { tmps := #[x0, x1, x2, x3, x4, x5, x6, x7, x8, t9, t10, t11, x12, x13, x14, x15, x16, x17, x18, x19, x20, x21, x22, x23, x24, x25, x26, x27, x28, x29, x30, x31, x32, x33, b.val, t35, c.val, t37, i.val, t39, x40, x41, x42, x43, x44, x45, x46, x47, x48, x49, x50, x51, x52, x53, x54, x55, x56, x57, x58, x59, x60, x61, x62, x63, x64, x65, x66, x67, x68, x69, x70, x71, x72, x73, x74, x75, x76, x77, x78, x79, x80, x81, x82, x83, x84, x85, x86, x87, x88, x89, x90, x91, x92, x93, x94, x95, x96, x97, x98, x99, x100, x101, x102, x103, x104, x105, x106, x107, x108, x109, x110, x111, x112, x113, x114, x115, x116, x117], defers := [] } W') :
    ∀ (k : Nat) (s1 s2 s3 s4 s5 s6 : Bool), (s2 = true → s1 = true) → (s3 = true → s2 = true) → (!s1).toNat + (!s2).toNat + (!s3).toNat + (!s4).toNat + (!s5).toNat + (!s6).toNat = k →
    ∀ (t35 t37 t39 t9 t10 t11 : Value) (W' : World), SO b c i W W' s1 s2 s3 s4 s5 s6 t35 t37 t39 t9 t10 t11 →
      wpAnyH Tryd.prog .any opsOwn Q S (k + 3) #[true, s1, true, s2, true, s3, s4, s5, s6, false, false, false] { tmps := #[x0, x1, x2, x3, x4, x5, x6, x7, x8, t9, t10, t11, x12, x13, x14, x15, x16, x17, x18, x19, x20, x21, x22, x23, x24, x25, x26, x27, x28, x29, x30, x31, x32, x33, b.val, t35, c.val, t37, i.val, t39, x40, x41, x42, x43, x44, x45, x46, x47, x48, x49, x50, x51, x52, x53, x54, x55, x56, x57, x58, x59, x60, x61, x62, x63, x64, x65, x66, x67, x68, x69, x70, x71, x72, x73, x74, x75, x76, x77, x78, x79, x80, x81, x82, x83, x84, x85, x86, x87, x88, x89, x90, x91, x92, x93, x94, x95, x96, x97, x98, x99, x100, x101, x102, x103, x104, x105, x106, x107, x108, x109, x110, x111, x112, x113, x114, x115, x116, x117], defers := [] } W' := by
  intro k
  induction k with
  | zero =>
    intro s1 s2 s3 s4 s5 s6 h1 h3 hk
    cases s1 <;> cases s2 <;> cases s3 <;> cases s4 <;> cases s5 <;> cases s6 <;> simp at hk
    intros
    apply hend
    assumption
  | succ k ih =>
    intro s1 s2 s3 s4 s5 s6 h1 h3 hk t35 t37 t39 t9 t10 t11 W' hS'
    have hbel := hS'.bel
    refine ⟨fun hnil => ?_, fun n hn => ?_⟩
    · rw [readyOwn] at hnil
      cases s1 <;> cases s2 <;> cases s3 <;> cases s4 <;> cases s5 <;> cases s6 <;> simp at hnil hk
    · have hc : (n = 1 ∧ s1 = false) ∨ (n = 3 ∧ s2 = false ∧ s1 = true) ∨ (n = 5 ∧ s3 = false ∧ s2 = true) ∨ (n = 6 ∧ s4 = false) ∨ (n = 7 ∧ s5 = false) ∨ (n = 8 ∧ s6 = false) := by
        rw [readyOwn] at hn
        cases s1 <;> cases s2 <;> cases s3 <;> cases s4 <;> cases s5 <;> cases s6 <;> simp at hn hk h1 h3 ⊢ <;> omega
      clear hn
      have keep : ∀ (s4' s5' s6' : Bool) (t9' t10' t11' : Value) (W2 : World), Below W'.heap.size W' W2 → (∀ lo hi, hi ≤ W'.heap.size → Offs s4 s5 s6 t9 t10 t11 lo hi → Offs s4' s5' s6' t9' t10' t11' lo hi) →
          (s1 = true → ∃ (m : BN) (lo hi : Nat), t35 = m.val ∧ EqB m b ∧ W.heap.size ≤ lo ∧ Held lo hi W2 (fun w2 => m.In w2.heap.size w2) ∧ Offs s4' s5' s6' t9' t10' t11' lo hi) ∧
          (s2 = true → ∃ (m : MT) (lo hi : Nat), t37 = m.val ∧ m.tr = c.tr ∧ W.heap.size ≤ lo ∧ Held lo hi W2 (fun w2 => m.In w2.heap.size w2) ∧ Offs s4' s5' s6' t9' t10' t11' lo hi) ∧
          (s3 = true → ∃ (m : IN) (lo hi : Nat), t39 = m.val ∧ EqI m i ∧ W.heap.size ≤ lo ∧ Held lo hi W2 (fun w2 => m.In w2.heap.size w2) ∧ Offs s4' s5' s6' t9' t10' t11' lo hi) := fun s4' s5' s6' t9' t10' t11' W2 hb ho => by
        refine ⟨fun h => ?_, fun h => ?_, fun h => ?_⟩
        · obtain ⟨m, lo, hi, q1, q2, q3, q4, q5⟩ := hS'.k1 h; exact ⟨m, lo, hi, q1, q2, q3, q4.later hb, ho _ _ q4.1 q5⟩
        · obtain ⟨m, lo, hi, q1, q2, q3, q4, q5⟩ := hS'.k2 h; exact ⟨m, lo, hi, q1, q2, q3, q4.later hb, ho _ _ q4.1 q5⟩
        · obtain ⟨m, lo, hi, q1, q2, q3, q4, q5⟩ := hS'.k3 h; exact ⟨m, lo, hi, q1, q2, q3, q4.later hb, ho _ _ q4.1 q5⟩
      have boxes : ∀ W2, Below W'.heap.size W' W2 → (s4 = true → ∃ D, t9 = .pointer (some ⟨D, 0, none⟩) ∧ W.heap.size ≤ D ∧ W2.heap[D]? = some (.cells #[.slice none 0 0, .slice none 0 0, .slice none 0 0, .slice none 0 0, .slice none 0 0, .slice none 0 0, .slice none 0 0] 54)) ∧ (s5 = true → ∃ D, t10 = .pointer (some ⟨D, 0, none⟩) ∧ W.heap.size ≤ D ∧ W2.heap[D]? = some (.cells #[.int .i64 0, .int .i64 0, .slice none 0 0] 27)) ∧ (s6 = true → ∃ D, t11 = .pointer (some ⟨D, 0, none⟩) ∧ W.heap.size ≤ D ∧ W2.heap[D]? = some (.cells #[.int .i64 0, .slice none 0 0, .slice none 0 0, .slice none 0 0] 58)) := fun W2 hb => by
        refine ⟨fun h => ?_, fun h => ?_, fun h => ?_⟩
        · obtain ⟨D, q1, q2, q3⟩ := hS'.k4 h; exact ⟨D, q1, q2, (hb.block D (Array.getElem?_eq_some_iff.1 q3).1).trans q3⟩
        · obtain ⟨D, q1, q2, q3⟩ := hS'.k5 h; exact ⟨D, q1, q2, (hb.block D (Array.getElem?_eq_some_iff.1 q3).1).trans q3⟩
        · obtain ⟨D, q1, q2, q3⟩ := hS'.k6 h; exact ⟨D, q1, q2, (hb.block D (Array.getElem?_eq_some_iff.1 q3).1).trans q3⟩
      have same : ∀ lo hi, hi ≤ W'.heap.size → Offs s4 s5 s6 t9 t10 t11 lo hi → Offs s4 s5 s6 t9 t10 t11 lo hi := fun _ _ _ h => h
      rcases hc with ⟨rfl, rfl⟩ | ⟨rfl, rfl, rfl⟩ | ⟨rfl, rfl, rfl⟩ | ⟨rfl, rfl⟩ | ⟨rfl, rfl⟩ | ⟨rfl, rfl⟩
      · refine wpOp_step (o := { dst := some 35, op := Op.call { callee := Callee.value (Operand.func 23), args := #[Operand.tmp 34], argTypes := #[54] }, type := 54, pos := "law.go:256", after := #[{ on := 0, ground := Ground.data }], guard := none }) (by kernel_rfl) fun K hK => ?_
        have hcl := hcb W' hbel
        simp only [BN.val] at hcl ⊢
        go_simp
        go_at_call 23
        refine hcl.mono ?_
        rintro e w' ⟨m, rfl, hme, hmh, hbl⟩
        obtain ⟨p1, p2, p3⟩ := keep s4 s5 s6 t9 t10 t11 w' hbl same
        obtain ⟨p4, p5, p6⟩ := boxes w' hbl
        have hb2 := hbel.trans (hbl.mono hbel.size)
        refine hK _ _ ⟨hS _ hb2, ih true s2 s3 s4 s5 s6 (fun _ => rfl) (h3) (by simp at hk ⊢; omega) _ _ _ _ _ _ _ ⟨hb2, fun _ => ⟨m, _, _, rfl, hme, hbel.size, hmh, hS'.lt _⟩, p2, p3, p4, p5, p6⟩⟩
      · refine wpOp_step (o := { dst := some 37, op := Op.call { callee := Callee.value (Operand.func 10), args := #[Operand.tmp 36], argTypes := #[27] }, type := 27, pos := "law.go:256", after := #[{ on := 2, ground := Ground.data }, { on := 1, ground := Ground.chain }], guard := none }) (by kernel_rfl) fun K hK => ?_
        have hcl := hcc W' hbel
        simp only [MT.val] at hcl ⊢
        go_simp
        go_at_call 10
        refine hcl.mono ?_
        rintro e w' ⟨m, rfl, hme, hnw, hbl⟩
        obtain ⟨p1, p2, p3⟩ := keep s4 s5 s6 t9 t10 t11 w' hbl same
        obtain ⟨p4, p5, p6⟩ := boxes w' hbl
        have hb2 := hbel.trans (hbl.mono hbel.size)
        have hmh := held_tree hnw
        refine hK _ _ ⟨hS _ hb2, ih true true s3 s4 s5 s6 (fun _ => rfl) (fun _ => rfl) (by simp at hk ⊢; omega) _ _ _ _ _ _ _ ⟨hb2, p1, fun _ => ⟨m, _, _, rfl, hme, hbel.size, hmh, hS'.lt _⟩, p3, p4, p5, p6⟩⟩
      · refine wpOp_step (o := { dst := some 39, op := Op.call { callee := Callee.value (Operand.func 24), args := #[Operand.tmp 38], argTypes := #[58] }, type := 58, pos := "law.go:256", after := #[{ on := 4, ground := Ground.data }, { on := 3, ground := Ground.chain }], guard := none }) (by kernel_rfl) fun K hK => ?_
        have hcl := hci W' hbel
        simp only [IN.val] at hcl ⊢
        go_simp
        go_at_call 24
        refine hcl.mono ?_
        rintro e w' ⟨m, rfl, hme, hmh, hbl⟩
        obtain ⟨p1, p2, p3⟩ := keep s4 s5 s6 t9 t10 t11 w' hbl same
        obtain ⟨p4, p5, p6⟩ := boxes w' hbl
        have hb2 := hbel.trans (hbl.mono hbel.size)
        refine hK _ _ ⟨hS _ hb2, ih s1 true true s4 s5 s6 (fun _ => h1 rfl) (fun _ => rfl) (by simp at hk ⊢; omega) _ _ _ _ _ _ _ ⟨hb2, p1, p2, fun _ => ⟨m, _, _, rfl, hme, hbel.size, hmh, hS'.lt _⟩, p4, p5, p6⟩⟩
      · refine wpOp_step (o := { dst := some 9, op := Op.alloc 54, type := 0, pos := "law.go:256", after := #[], guard := none }) (by kernel_rfl) fun K hK => ?_
        go_simp
        have hbl := (Below.refl W'.heap.size W').alloc (Nat.le_refl _) (.cells #[.slice none 0 0, .slice none 0 0, .slice none 0 0, .slice none 0 0, .slice none 0 0, .slice none 0 0, .slice none 0 0] 54)
        have hb2 := hbel.trans (hbl.mono hbel.size)
        obtain ⟨p1, p2, p3⟩ := keep true s5 s6 (.pointer (some ⟨W'.heap.size, 0, none⟩)) t10 t11 _ hbl (fun lo hi hh ho D e => by
          rcases e with ⟨e1, e2⟩ | ⟨e1, e2⟩ | ⟨e1, e2⟩
          · have e3 : W'.heap.size = D := (by injection e2 with e2; injection e2 with e2; injection e2); exact .inr (by omega)
          · exact ho D (.inr (.inl ⟨e1, e2⟩))
          · exact ho D (.inr (.inr ⟨e1, e2⟩)))
        obtain ⟨p4, p5, p6⟩ := boxes _ hbl
        refine hK _ _ ⟨hS _ hb2, ih s1 s2 s3 true s5 s6 (h1) (h3) (by simp at hk ⊢; omega) _ _ _ _ _ _ _ ⟨hb2, p1, p2, p3, fun _ => ⟨_, rfl, hbel.size, heap_alloc_new _ _⟩, p5, p6⟩⟩
      · refine wpOp_step (o := { dst := some 10, op := Op.alloc 27, type := 0, pos := "law.go:256", after := #[], guard := none }) (by kernel_rfl) fun K hK => ?_
        go_simp
        have hbl := (Below.refl W'.heap.size W').alloc (Nat.le_refl _) (.cells #[.int .i64 0, .int .i64 0, .slice none 0 0] 27)
        have hb2 := hbel.trans (hbl.mono hbel.size)
        obtain ⟨p1, p2, p3⟩ := keep s4 true s6 t9 (.pointer (some ⟨W'.heap.size, 0, none⟩)) t11 _ hbl (fun lo hi hh ho D e => by
          rcases e with ⟨e1, e2⟩ | ⟨e1, e2⟩ | ⟨e1, e2⟩
          · exact ho D (.inl ⟨e1, e2⟩)
          · have e3 : W'.heap.size = D := (by injection e2 with e2; injection e2 with e2; injection e2); exact .inr (by omega)
          · exact ho D (.inr (.inr ⟨e1, e2⟩)))
        obtain ⟨p4, p5, p6⟩ := boxes _ hbl
        refine hK _ _ ⟨hS _ hb2, ih s1 s2 s3 s4 true s6 (h1) (h3) (by simp at hk ⊢; omega) _ _ _ _ _ _ _ ⟨hb2, p1, p2, p3, p4, fun _ => ⟨_, rfl, hbel.size, heap_alloc_new _ _⟩, p6⟩⟩
      · refine wpOp_step (o := { dst := some 11, op := Op.alloc 58, type := 0, pos := "law.go:256", after := #[], guard := none }) (by kernel_rfl) fun K hK => ?_
        go_simp
        have hbl := (Below.refl W'.heap.size W').alloc (Nat.le_refl _) (.cells #[.int .i64 0, .slice none 0 0, .slice none 0 0, .slice none 0 0] 58)
        have hb2 := hbel.trans (hbl.mono hbel.size)
        obtain ⟨p1, p2, p3⟩ := keep s4 s5 true t9 t10 (.pointer (some ⟨W'.heap.size, 0, none⟩)) _ hbl (fun lo hi hh ho D e => by
          rcases e with ⟨e1, e2⟩ | ⟨e1, e2⟩ | ⟨e1, e2⟩
          · exact ho D (.inl ⟨e1, e2⟩)
          · exact ho D (.inr (.inl ⟨e1, e2⟩))
          · have e3 : W'.heap.size = D := (by injection e2 with e2; injection e2 with e2; injection e2); exact .inr (by omega))
        obtain ⟨p4, p5, p6⟩ := boxes _ hbl
        refine hK _ _ ⟨hS _ hb2, ih s1 s2 s3 s4 s5 true (h1) (h3) (by simp at hk ⊢; omega) _ _ _ _ _ _ _ ⟨hb2, p1, p2, p3, p4, p5, fun _ => ⟨_, rfl, hbel.size, heap_alloc_new _ _⟩⟩⟩

set_option maxRecDepth 100000 in
set_option maxHeartbeats 8000000 in
theorem ownB (b : BN) (c : MT) (i : IN) (W : World) (Q : Exit → Act → World → Prop) (S : World → Prop) (hS : ∀ w', Below W.heap.size W w' → S w')
    (x0 x1 x2 x3 x4 x5 x6 x7 x8 x12 x13 x14 x15 x16 x17 x18 x19 x20 x21 x22 x23 x24 x25 x26 x27 x28 x29 x30 x31 x32 x33 x40 x41 x42 x43 x44 x45 x46 x47 x48 x49 x50 x51 x52 x53 x54 x55 x56 x57 x58 x59 x60 x61 x62 x63 x64 x65 x66 x67 x68 x69 x70 x71 x72 x73 x74 x75 x76 x77 x78 x79 x80 x81 x82 x83 x84 x85 x86 x87 x88 x89 x90 x91 x92 x93 x94 x95 x96 x97 x98 x99 x100 x101 x102 x103 x104 x105 x106 x107 x108 x109 x110 x111 x112 x113 x114 x115 x116 x117 : Value)
    (hend : ∀ (t35 t37 t39 t9 t10 t11 : Value) (w9 : World), EndOwn b c i W w9 t9 t10 t11 → Q .normal { tmps := #[x0, x1, x2, x3, x4, x5, x6, x7, x8, t9, t10, t11, x12, x13, x14, x15, x16, x17, x18, x19, x20, x21, x22, x23, x24, x25, x26, x27, x28, x29, x30, x31, x32, x33, b.val, t35, c.val, t37, i.val, t39, x40, x41, x42, x43, x44, x45, x46, x47, x48, x49, x50, x51, x52, x53, x54, x55, x56, x57, x58, x59, x60, x61, x62, x63, x64, x65, x66, x67, x68, x69, x70, x71, x72, x73, x74, x75, x76, x77, x78, x79, x80, x81, x82, x83, x84, x85, x86, x87, x88, x89, x90, x91, x92, x93, x94, x95, x96, x97, x98, x99, x100, x101, x102, x103, x104, x105, x106, x107, x108, x109, x110, x111, x112, x113, x114, x115, x116, x117], defers := [] } w9) :
    ∀ (t35 t37 t39 t9 t10 t11 : Value) (W' : World), SO b c i W W' true true true true true true t35 t37 t39 t9 t10 t11 → wpAnyH Tryd.prog .any opsOwn Q S 3 #[true, true, true, true, true, true, true, true, true, false, false, false] { tmps := #[x0, x1, x2, x3, x4, x5, x6, x7, x8, t9, t10, t11, x12, x13, x14, x15, x16, x17, x18, x19, x20, x21, x22, x23, x24, x25, x26, x27, x28, x29, x30, x31, x32, x33, b.val, t35, c.val, t37, i.val, t39, x40, x41, x42, x43, x44, x45, x46, x47, x48, x49, x50, x51, x52, x53, x54, x55, x56, x57, x58, x59, x60, x61, x62, x63, x64, x65, x66, x67, x68, x69, x70, x71, x72, x73, x74, x75, x76, x77, x78, x79, x80, x81, x82, x83, x84, x85, x86, x87, x88, x89, x90, x91, x92, x93, x94, x95, x96, x97, x98, x99, x100, x101, x102, x103, x104, x105, x106, x107, x108, x109, x110, x111, x112, x113, x114, x115, x116, x117], defers := [] } W' := by
  intro t35 t37 t39 t9 t10 t11 W' hS'
  obtain ⟨m, l1, h1, rfl, hme, hl1, hm, o1⟩ := hS'.k1 rfl
  obtain ⟨M, l2, h2, rfl, hMe, hl2, hM, o2⟩ := hS'.k2 rfl
  obtain ⟨j, l3, h3, rfl, hje, hl3, hj, o3⟩ := hS'.k3 rfl
  obtain ⟨D1, rfl, hD1, hk1⟩ := hS'.k4 rfl
  obtain ⟨D2, rfl, hD2, hk2⟩ := hS'.k5 rfl
  obtain ⟨D3, rfl, hD3, hk3⟩ := hS'.k6 rfl
  have hbel := hS'.bel
  have n12 : D1 ≠ D2 := fun e => by subst e; rw [hk1] at hk2; exact absurd (by injection hk2 with h; injection h) (show (54 : Nat) ≠ 27 by decide)
  have n13 : D1 ≠ D3 := fun e => by subst e; rw [hk1] at hk3; exact absurd (by injection hk3 with h; injection h) (show (54 : Nat) ≠ 58 by decide)
  have n23 : D2 ≠ D3 := fun e => by subst e; rw [hk2] at hk3; exact absurd (by injection hk3 with h; injection h) (show (27 : Nat) ≠ 58 by decide)
  have q1 : Below W.heap.size W W' := hbel
  obtain ⟨p1, g1⟩ := store7 hk1 (.slice m.N.C.A m.N.C.l.length m.N.C.c) (.slice m.N.R.A m.N.R.l.length m.N.R.c) (.slice m.N.I.A m.N.I.l.length m.N.I.c) (.slice m.IA m.I.length m.ic) (.slice m.R.A m.R.l.length m.R.c) (.slice m.FA m.F.length m.fc) (.slice m.L.A m.L.l.length m.L.c)
  have z2 := (g1.block D2 (Array.getElem?_eq_some_iff.1 hk2).1 (fun e => n12 (Option.some.inj e).symm)).trans hk2
  have z3 := (g1.block D3 (Array.getElem?_eq_some_iff.1 hk3).1 (fun e => n13 (Option.some.inj e).symm)).trans hk3
  obtain ⟨p2, g2⟩ := store3 z2 (.int .i64 M.op) (.int .i64 M.n) (.slice M.A M.args.length M.c)
  have y1 := (g2.block D1 (Array.getElem?_eq_some_iff.1 p1).1 (fun e => n12 (Option.some.inj e))).trans p1
  have y3 := (g2.block D3 (Array.getElem?_eq_some_iff.1 z3).1 (fun e => n23 (Option.some.inj e).symm)).trans z3
  obtain ⟨p3, g3⟩ := store4 y3 (.int .i64 j.size) (.slice j.CA j.C.length j.cc) (.slice j.RA j.R.length j.rc) (.slice j.I.A j.I.l.length j.I.c)
  have x1 := (g3.block D1 (Array.getElem?_eq_some_iff.1 y1).1 (fun e => n13 (Option.some.inj e))).trans y1
  have x2 := (g3.block D2 (Array.getElem?_eq_some_iff.1 p2).1 (fun e => n23 (Option.some.inj e))).trans p2
  have b1 := hbel.grown g1 hbel.size (fun k e => by cases e; exact hD1)
  have b2 := b1.grown g2 b1.size (fun k e => by cases e; exact hD2)
  have b3 := b2.grown g3 b2.size (fun k e => by cases e; exact hD3)
  have hm := ((hm.grown g1 (fun g e => by cases e; exact o1 D1 (.inl ⟨rfl, rfl⟩))).grown g2 (fun g e => by cases e; exact o1 D2 (.inr (.inl ⟨rfl, rfl⟩)))).grown g3 (fun g e => by cases e; exact o1 D3 (.inr (.inr ⟨rfl, rfl⟩)))
  have hM := ((hM.grown g1 (fun g e => by cases e; exact o2 D1 (.inl ⟨rfl, rfl⟩))).grown g2 (fun g e => by cases e; exact o2 D2 (.inr (.inl ⟨rfl, rfl⟩)))).grown g3 (fun g e => by cases e; exact o2 D3 (.inr (.inr ⟨rfl, rfl⟩)))
  have hj := ((hj.grown g1 (fun g e => by cases e; exact o3 D1 (.inl ⟨rfl, rfl⟩))).grown g2 (fun g e => by cases e; exact o3 D2 (.inr (.inl ⟨rfl, rfl⟩)))).grown g3 (fun g e => by cases e; exact o3 D3 (.inr (.inr ⟨rfl, rfl⟩)))
  have HE := Lib.hid (show EndOwn b c i W _ _ _ _ from ⟨m, M, j, D1, D2, D3, rfl, rfl, rfl, b3, hme, hMe, hje, hm.now, hM.now, hj.now, x1, x2, p3⟩)
  have a0 := cell_of_blk hk1 0
  have af0 := frozen_of_blk hk1 0
  have a1 := cell_of_blk hk1 1
  have af1 := frozen_of_blk hk1 1
  have a2 := cell_of_blk hk1 2
  have af2 := frozen_of_blk hk1 2
  have a3 := cell_of_blk hk1 3
  have af3 := frozen_of_blk hk1 3
  have a4 := cell_of_blk hk1 4
  have af4 := frozen_of_blk hk1 4
  have a5 := cell_of_blk hk1 5
  have af5 := frozen_of_blk hk1 5
  have a6 := cell_of_blk hk1 6
  have af6 := frozen_of_blk hk1 6
  simp only [List.getElem?_toArray, List.getElem?_cons_zero, List.getElem?_cons_succ] at a0 a1 a2 a3 a4 a5 a6
  have c0 := cell_of_blk z2 0
  have cf0 := frozen_of_blk z2 0
  have c1 := cell_of_blk z2 1
  have cf1 := frozen_of_blk z2 1
  have c2 := cell_of_blk z2 2
  have cf2 := frozen_of_blk z2 2
  simp only [List.getElem?_toArray, List.getElem?_cons_zero, List.getElem?_cons_succ] at c0 c1 c2
  have d0 := cell_of_blk y3 0
  have df0 := frozen_of_blk y3 0
  have d1 := cell_of_blk y3 1
  have df1 := frozen_of_blk y3 1
  have d2 := cell_of_blk y3 2
  have df2 := frozen_of_blk y3 2
  have d3 := cell_of_blk y3 3
  have df3 := frozen_of_blk y3 3
  simp only [List.getElem?_toArray, List.getElem?_cons_zero, List.getElem?_cons_succ] at d0 d1 d2 d3
  have B1 := Lib.hid b1
  have B2 := Lib.hid b2
  have B3 := Lib.hid b3
  clear hS' hme hMe hje hm hM hj o1 o2 o3 hbel n12 n13 n23 p1 g1 z2 z3 p2 g2 y1 y3 p3 g3 x1 x2 b1 b2 b3 hk1 hk2 hk3 q1
  simp only [BN.val, MT.val, IN.val]
  refine wpAnyH_ready (rs := [9]) (by kernel_rfl) (by simp) (AllReadyH.cons (o := { dst := none, op := Op.store 54 (Operand.tmp 9) (Operand.tmp 35), type := 0, pos := "law.go:256", after := #[{ on := 6, ground := Ground.data }, { on := 1, ground := Ground.data }, { on := 5, ground := Ground.chain }, { on := 0, ground := Ground.phase }, { on := 1, ground := Ground.phase }, { on := 2, ground := Ground.textOnly Departure.lateStores }, { on := 3, ground := Ground.textOnly Departure.lateStoresUnsure }, { on := 4, ground := Ground.textOnly Departure.lateStores }, { on := 5, ground := Ground.textOnly Departure.lateStoresUnsure }, { on := 6, ground := Ground.phase }, { on := 7, ground := Ground.phase }, { on := 8, ground := Ground.phase }], guard := none }) (by kernel_rfl) (fun K hK => ?_) AllReadyH.nil)
  go_simp
  refine hK.out _ _ (hS _ B1.out) (fun _ => ?_)
  clear hK K
  try simp only [Act.put, List.setIfInBounds_toArray, List.set_cons_zero, List.set_cons_succ]
  refine wpAnyH_ready (rs := [10]) (by kernel_rfl) (by simp) (AllReadyH.cons (o := { dst := none, op := Op.store 27 (Operand.tmp 10) (Operand.tmp 37), type := 0, pos := "law.go:256", after := #[{ on := 7, ground := Ground.data }, { on := 3, ground := Ground.data }, { on := 9, ground := Ground.chain }, { on := 0, ground := Ground.phase }, { on := 1, ground := Ground.phase }, { on := 2, ground := Ground.phase }, { on := 3, ground := Ground.phase }, { on := 4, ground := Ground.textOnly Departure.lateStores }, { on := 5, ground := Ground.textOnly Departure.lateStoresUnsure }, { on := 6, ground := Ground.phase }, { on := 7, ground := Ground.phase }, { on := 8, ground := Ground.phase }, { on := 9, ground := Ground.phase }], guard := none }) (by kernel_rfl) (fun K hK => ?_) AllReadyH.nil)
  go_simp
  refine hK.out _ _ (hS _ B2.out) (fun _ => ?_)
  clear hK K
  try simp only [Act.put, List.setIfInBounds_toArray, List.set_cons_zero, List.set_cons_succ]
  refine wpAnyH_ready (rs := [11]) (by kernel_rfl) (by simp) (AllReadyH.cons (o := { dst := none, op := Op.store 58 (Operand.tmp 11) (Operand.tmp 39), type := 0, pos := "law.go:256", after := #[{ on := 8, ground := Ground.data }, { on := 5, ground := Ground.data }, { on := 10, ground := Ground.chain }, { on := 0, ground := Ground.phase }, { on := 1, ground := Ground.phase }, { on := 2, ground := Ground.phase }, { on := 3, ground := Ground.phase }, { on := 4, ground := Ground.phase }, { on := 5, ground := Ground.phase }, { on := 6, ground := Ground.phase }, { on := 7, ground := Ground.phase }, { on := 8, ground := Ground.phase }, { on := 9, ground := Ground.phase }, { on := 10, ground := Ground.phase }], guard := none }) (by kernel_rfl) (fun K hK => ?_) AllReadyH.nil)
  go_simp
  refine hK.out _ _ (hS _ B3.out) (fun _ => ?_)
  clear hK K
  try simp only [Act.put, List.setIfInBounds_toArray, List.set_cons_zero, List.set_cons_succ]
  refine wpAnyH_done (by kernel_rfl) ?_ _
  exact hend _ _ _ _ _ _ _ HE.out
end Go.Proofs.YtnkkpjgclekobaaDoor

namespace Go.Proofs.YtnkkpjgclekobaaDoor
open Go.RowKit

/-- Few of an interpretation: where it says yes, the lists of lists are few. -/
def RetFewI (i : IN) (w : World) (e : Ending) (w' : World) : Prop := (∃ b, e = .returned (.bool b) ∧ (b = true → i.C.length ≤ 100 ∧ i.R.length ≤ 100 ∧ i.I.l.length ≤ 100)) ∧ Below w.heap.size w w'

set_option maxRecDepth 100000 in
set_option maxHeartbeats 8000000 in
theorem rFew2_any (i : IN) (el en : Int) (w : World) (hi : i.In w.heap.size w) : Calls Tryd.prog 52 #[i.val, .int .i64 el, .int .i64 en] w (RetFewI i w) := by
  obtain ⟨W1, hW1, hB1, hs1, hk1⟩ := newBlk w _ rfl #[.int .i64 i.size, .slice i.CA i.C.length i.cc, .slice i.RA i.R.length i.rc, .slice i.I.A i.I.l.length i.I.c] 58
  have b0 := cell_of_blk hk1 0
  have b1 := cell_of_blk hk1 1
  have b2 := cell_of_blk hk1 2
  have b3 := cell_of_blk hk1 3
  simp only [List.getElem?_toArray, List.getElem?_cons_zero, List.getElem?_cons_succ] at b0 b1 b2 b3
  have hcl : i.C.length ≤ 9223372036854775807 := Nat.le_trans hi.c1 hi.c2
  have hrl : i.R.length ≤ 9223372036854775807 := Nat.le_trans hi.r1 hi.r2
  have hcc := fun h => RowAt.vals hi.c3 h
  have hrr := fun h => RowAt.vals hi.r3 h
  have hIn : ∀ s ∈ i.C, s.l.length ≤ 9223372036854775807 := fun s hs => Nat.le_trans (hi.c4 s hs).1 (hi.c4 s hs).2.1
  have hRn : ∀ s ∈ i.R, s.l.length ≤ 9223372036854775807 := fun s hs => Nat.le_trans (hi.r4 s hs).1 (hi.r4 s hs).2.1
  have HB := Lib.hid hB1
  have HIN := Lib.hid hIn
  have HRN := Lib.hid hRn
  simp only [IN.val]
  clear hi hB1 hk1 hIn hRn
  have hc : ∃ t1, decide (el < i.size) = t1 := ⟨_, rfl⟩
  obtain ⟨t1, q1⟩ := hc
  obtain ⟨t2, q2⟩ : ∃ t2, decide (i.size ≤ 256) = t2 := ⟨_, rfl⟩
  obtain ⟨t3, q3⟩ : ∃ t3, decide ((100 : Int) < i.C.length) = t3 := ⟨_, rfl⟩
  obtain ⟨t4, q4⟩ : ∃ t4, decide ((100 : Int) < i.R.length) = t4 := ⟨_, rfl⟩
  obtain ⟨t5, q5⟩ : ∃ t5, decide ((100 : Int) < i.I.l.length) = t5 := ⟨_, rfl⟩
  have hcase : (t1 = true ∧ t2 = true) ∨ t1 = false ∨ (t1 = true ∧ t2 = false) := by cases t1 <;> cases t2 <;> simp
  rcases hcase with ⟨rfl, rfl⟩ | rfl | ⟨rfl, rfl⟩
  · go_enter Tryd.func52, Tryd.ntmps52
    go_wp2
    go_ret
    exact ⟨⟨_, rfl, fun h => by cases h⟩, HB.out⟩
  all_goals
    cases t3
    · cases t4
      · cases t5
        · have HL := Lib.hid (show i.C.length ≤ 100 ∧ i.R.length ≤ 100 ∧ i.I.l.length ≤ 100 from ⟨by have := of_decide_eq_false q3; omega, by have := of_decide_eq_false q4; omega, by have := of_decide_eq_false q5; omega⟩)
          go_enter Tryd.func52, Tryd.ntmps52
          go_wp2_with fail
          go_loop [42, 7] (fun i' z => ∃ (k : Nat) (v : Int), k ≤ i.C.length ∧ i' = .int .i64 k ∧ z = .int .i64 v) (fun i' _ => i.C.length - (intOf i').toNat)
          case atStart => exact ⟨0, 0, Nat.zero_le _, rfl, rfl⟩
          case round =>
            obtain ⟨k, v, hk, rfl, rfl⟩ := hrel
            by_cases hlt : k < i.C.length
            · obtain ⟨g, off, hCA, hg, d1⟩ := hcc (by omega)
              have e1 := (HB.out.cell (p := ⟨g, off + k, none⟩) hg).trans (d1 k hlt)
              rw [hCA]
              have h0I : (0 : Int) ≤ k := by omega
              have hlI : (k : Int) < i.C.length := by omega
              have hsl := HIN.out _ (List.getElem_mem hlt)
              simp only [IL.val] at e1
              clear d1 hcc hrr
              generalize i.C[k] = s at e1 hsl
              go_wp2_with fail
              go_round
              case rel => exact ⟨k + 1, _, by omega, by go_num, rfl⟩
              case measure => simp [intOf]; omega
            · clear hcc
              go_wp2_with fail
              go_loop [54, 7] (fun i' z => ∃ (k : Nat) (v : Int), k ≤ i.R.length ∧ i' = .int .i64 k ∧ z = .int .i64 v) (fun i' _ => i.R.length - (intOf i').toNat)
              case atStart => exact ⟨0, _, Nat.zero_le _, rfl, rfl⟩
              case round =>
                obtain ⟨m, v2, hm, rfl, rfl⟩ := hrel
                by_cases hlt2 : m < i.R.length
                · obtain ⟨g, off, hRA, hg, d1⟩ := hrr (by omega)
                  have e1 := (HB.out.cell (p := ⟨g, off + m, none⟩) hg).trans (d1 m hlt2)
                  rw [hRA]
                  have h0I : (0 : Int) ≤ m := by omega
                  have hlI : (m : Int) < i.R.length := by omega
                  have hsl := HRN.out _ (List.getElem_mem hlt2)
                  simp only [PL.val] at e1
                  clear d1 hrr
                  generalize i.R[m] = s at e1 hsl
                  go_wp2_with fail
                  go_round
                  case rel => exact ⟨m + 1, _, by omega, by go_num, rfl⟩
                  case measure => simp [intOf]; omega
                · skip
                  go_wp2
                  go_ret
                  refine ⟨?_, HB.out⟩
                  exact ⟨_, rfl, fun _ => HL.out⟩
        · go_enter Tryd.func52, Tryd.ntmps52
          go_wp2
          go_ret
          exact ⟨⟨_, rfl, fun h => by cases h⟩, HB.out⟩
      · go_enter Tryd.func52, Tryd.ntmps52
        go_wp2
        go_ret
        exact ⟨⟨_, rfl, fun h => by cases h⟩, HB.out⟩
    · go_enter Tryd.func52, Tryd.ntmps52
      go_wp2
      go_ret
      exact ⟨⟨_, rfl, fun h => by cases h⟩, HB.out⟩

set_option maxRecDepth 100000 in
set_option maxHeartbeats 8000000 in
theorem fewL2_any (n : NM) (i : IN) (l : List MT) (A : Option Addr) (c : Nat) (w : World) (hn : n.In w.heap.size w) (hi : i.In w.heap.size w) (hl : CRow w A l) : Calls Tryd.prog 21 #[n.val, i.val, .slice A l.length c] w fun e w' => (∃ b, e = .returned (.bool b) ∧ (b = true → fewB n = true ∧ (∀ k (hk : k < l.length), l[k].tr.size ≤ 400) ∧ i.C.length ≤ 100 ∧ i.R.length ≤ 100 ∧ i.I.l.length ≤ 100)) ∧ Below w.heap.size w w' := by
  obtain ⟨W1, W2, hW1, hs1, hW2, hs2, hB, hcell⟩ := nm_blks n i w
  have hfe := fun w1 (hb : Below W2.heap.size W2 w1) => FewNames_any n w1 ((hn.later hB).later hb)
  have hfi := fun w1 (hb : Below W2.heap.size W2 w1) => rFew2_any i 40 1000 w1 ((hi.later hB).later hb)
  have hfits := fun k (hk : k < l.length) w1 (hb : Below W2.heap.size W2 w1) => Fits_any l[k] 400 w1 (((hl.each k hk).later hB).later hb) (by omega) (by omega)
  have hel := fun k (hk : k < l.length) w1 (hb : Below W2.heap.size W2 w1) => elem3 (k := k) hl.row (hB.trans (hb.mono (by omega))) hk
  have hlen := hl.few
  have HB := Lib.hid hB
  have HCE := Lib.hid hcell
  have HFE := Lib.hid hfe
  have HFI := Lib.hid hfi
  have HFT := Lib.hid hfits
  have HEL := Lib.hid hel
  simp only [NM.val, IN.val, MT.val] at HFE HFI HFT ⊢
  clear hB hn hi hl hcell hfe hfi hfits hel
  go_enter Tryd.func21, Tryd.ntmps21
  go_wp2_with fail
  go_loopw [11] (fun i' wr => ∃ k : Nat, k ≤ l.length ∧ i' = .int .i64 (k : Nat) ∧ (∀ j (hj : j < l.length), j < k → l[j].tr.size ≤ 400) ∧ Below W2.heap.size W2 wr) (fun i' _ => l.length - (intOf i').toNat)
  case atStart => exact ⟨0, Nat.zero_le _, rfl, fun j _ h => absurd h (Nat.not_lt_zero _), Below.refl _ _⟩
  case round =>
    obtain ⟨k, hk, rfl, hall, hbw⟩ := hrel
    have HA := Lib.hid hall
    clear hall
    by_cases hlt : k < l.length
    · obtain ⟨g, off, rfl, hg, g0, g1, g2⟩ := HEL.out k hlt wr hbw
      have h0K : (0 : Int) ≤ k := by omega
      have hlK : (k : Int) < l.length := by omega
      obtain ⟨W7, hW7, hB7, hs7, hk7⟩ := newBlk wr _ rfl #[.int .i64 l[k].op, .int .i64 l[k].n, .slice l[k].A l[k].args.length l[k].c] 27
      obtain ⟨p0, p1, p2⟩ := box_cells hk7 (Below.refl _ W7)
      have hb7 : Below W2.heap.size W2 W7 := hbw.trans (hB7.mono hbw.size)
      have hft := HFT.out k hlt W7 hb7
      rw [fits_size] at hft
      have HZ := Lib.hid (show l[k].tr.size ≤ 400 ∨ ¬ l[k].tr.size ≤ 400 from Decidable.em _)
      have HX := Lib.hid (show ∀ h : k < l.length, l[k] = l[k] from fun _ => rfl)
      by_cases hz : l[k].tr.size ≤ 400
      · rw [decide_eq_true (by omega)] at hft
        have HA2 := Lib.hid (show ∀ j (hj : j < l.length), j < k + 1 → l[j].tr.size ≤ 400 from fun j hj hjk => by
          by_cases e : j = k
          · subst e; exact hz
          · exact HA.out j hj (by omega))
        clear hz HZ HX
        generalize l[k] = T at g0 g1 g2 hW7 p0 p1 p2 hft
        go_wp2_with (go_at_call 7; refine hft.mono ?_; rintro e w8 ⟨rfl, hb8⟩)
        go_roundw
        case rel => exact ⟨k + 1, by omega, by go_num, HA2.out, hb7.trans (hb8.mono hb7.size)⟩
        case measure => simp [intOf]; omega
      · rw [decide_eq_false (by omega)] at hft
        clear hz HZ HX
        generalize l[k] = T at g0 g1 g2 hW7 p0 p1 p2 hft
        go_wp2_with (go_at_call 7; refine hft.mono ?_; rintro e w8 ⟨rfl, hb8⟩)
        go_ret
        exact ⟨⟨false, rfl, fun h => by cases h⟩, HB.out.trans ((hb7.trans (hb8.mono hb7.size)).mono (by omega))⟩
    · have HA2 := Lib.hid (show ∀ k (hk : k < l.length), l[k].tr.size ≤ 400 from fun j hj => HA.out j hj (by omega))
      have hfe := HFE.out wr hbw
      obtain ⟨⟨a0, a1, a2⟩, b0, b1, b2, b3⟩ := HCE.out wr hbw
      rcases hf : fewB n
      · rw [hf] at hfe
        go_wp2_with (go_at_call 6; refine hfe.mono ?_; rintro e w3 ⟨rfl, hb3⟩)
        go_ret
        exact ⟨⟨false, rfl, fun h => by cases h⟩, HB.out.trans ((hbw.trans (hb3.mono hbw.size)).mono (by omega))⟩
      · rw [hf] at hfe
        go_wp2_with (first | (go_at_call 6; refine hfe.mono ?_; clear hfe; rintro e w3 ⟨rfl, hb3'⟩; have hb3 := hbw.trans (hb3'.mono hbw.size); obtain ⟨-, c0, c1, c2, c3⟩ := HCE.out w3 hb3) | (go_at_call 52; refine (HFI.out w3 hb3).mono ?_; rintro e w4 ⟨⟨b, rfl, hbb⟩, hb4⟩; have HBB := Lib.hid hbb; clear hbb))
        go_ret
        exact ⟨⟨_, rfl, fun hx => ⟨by first | rfl | trivial, HA2.out, HBB.out (by simpa using hx)⟩⟩, HB.out.trans ((hb3.trans (hb4.mono hb3.size)).mono (by omega))⟩

theorem el_all (n : NM) (T : MT) (i : IN) (w : World) (hG : GT w) (hn : n.In w.heap.size w) (hT : T.In w.heap.size w) (hi : i.In w.heap.size w) (hsz : (T.pre 1).length ≤ 1000000) (hC : i.C.length ≤ 1000) (hR : i.R.length ≤ 1000) (hI : i.I.l.length ≤ 1000) :
    ∃ (L : List Int) (z : Int), Calls Tryd.prog 25 #[n.val, T.val, i.val] w (RetInts L z w) := by
  by_cases hx : orF (checkF n T) (icheckF n i) = 0
  · obtain ⟨hcT, hci⟩ := orF_zero0.1 hx
    obtain ⟨hok, z1, z256, zc, zr, zi, hls⟩ := icheck_zero hci
    obtain ⟨m, hm⟩ : ∃ m : Nat, i.size = m := ⟨i.size.toNat, by omega⟩
    exact ⟨_, 0, iElements_ok n T i m w hG hn hT hi hm hsz hcT hci (wf_of_check0 hcT zc zr) (by omega) (by omega) hls hC hR hI⟩
  · exact ⟨[], _, (iElements_ck n T i w hG hn hT hi hsz hx).mono fun e w' h => ⟨_, h.1, ⟨rfl, .inl ⟨rfl, rfl⟩⟩, h.2⟩⟩
theorem pa_all (n : NM) (i : IN) (r : Int) (w : World) (hG : GT w) (hn : n.In w.heap.size w) (hi : i.In w.heap.size w) (h63 : r ≤ 9223372036854775807) (hC : i.C.length ≤ 1000) (hR : i.R.length ≤ 1000) (hI : i.I.l.length ≤ 1000) :
    ∃ (L : List (Int × Int)) (z : Int), Calls Tryd.prog 26 #[n.val, i.val, .int .i64 r] w (RetPairs L z w) := by
  have no : ∀ {z : Int}, Calls Tryd.prog 26 #[n.val, i.val, .int .i64 r] w (RetNo z w) → ∃ (L : List (Int × Int)) (z : Int), Calls Tryd.prog 26 #[n.val, i.val, .int .i64 r] w (RetPairs L z w) :=
    fun {z} h => ⟨[], z, h.mono fun e w' h => ⟨_, h.1, ⟨rfl, .inl ⟨rfl, rfl⟩⟩, h.2⟩⟩
  by_cases hx : icheckF n i = 0
  · obtain ⟨hok, z1, z256, zc, zr, zi, hls⟩ := icheck_zero hx
    obtain ⟨m, hm⟩ : ∃ m : Nat, i.size = m := ⟨i.size.toNat, by omega⟩
    by_cases h0 : r < 0
    · exact no (iPairs_lo n i r w hn hi hx h0)
    · obtain ⟨k, rfl⟩ : ∃ k : Nat, r = k := ⟨r.toNat, by omega⟩
      by_cases h1 : k < 2 * i.R.length
      · exact ⟨_, 0, iPairs_ok n i m k w hG hn hi hm hx (by omega) (by omega) hls hC hR hI h1⟩
      · exact no (iPairs_hi n i k w hn hi hx (by omega) (by omega))
  · exact no (iPairs_ck n i r w hn hi hx)
theorem inc_all (n : NM) (T D : MT) (i : IN) (w : World) (hG : GT w) (hn : n.In w.heap.size w) (hT : T.In w.heap.size w) (hD : D.In w.heap.size w) (hi : i.In w.heap.size w) (hsz : (T.pre 1).length ≤ 1000000) (hsd : (D.pre 1).length ≤ 1000000) (hC : i.C.length ≤ 1000) (hR : i.R.length ≤ 1000) (hI : i.I.l.length ≤ 1000) :
    ∃ (x : Bool) (z : Int), Calls Tryd.prog 30 #[n.val, T.val, D.val, i.val] w fun e w' => e = .returned (.tuple #[.bool x, .int .i64 z]) ∧ Below w.heap.size w w' := by
  by_cases hx : orF (checkF n T) (orF (checkF n D) (icheckF n i)) = 0
  · obtain ⟨hcT, hx2⟩ := orF_zero0.1 hx
    obtain ⟨hcD, hci⟩ := orF_zero0.1 hx2
    obtain ⟨hok, z1, z256, zc, zr, zi, hls⟩ := icheck_zero hci
    obtain ⟨m, hm⟩ : ∃ m : Nat, i.size = m := ⟨i.size.toNat, by omega⟩
    exact ⟨_, 0, iIncluded_ok n T D i m w hG hn hT hD hi hm hsz hsd hcT hcD hci (wf_of_check0 hcT zc zr) (wf_of_check0 hcD zc zr) (by omega) (by omega) hls hC hR hI⟩
  · exact ⟨false, _, iIncluded_ck n T D i w hG hn hT hD hi hsz hsd hx⟩
end Go.Proofs.YtnkkpjgclekobaaDoor

namespace Go.Proofs.YtnkkpjgclekobaaDoor
open Go.RowKit
attribute [local go_sem ↓] Go.wp_at_zero Go.wp_at_succ

set_option maxRecDepth 100000 in
set_option maxHeartbeats 8000000 in
theorem iSame_any (i j : IN) (w : World) (hi : i.In w.heap.size w) (hj : j.In w.heap.size w) (he : EqI i j) :
    Calls Tryd.prog 32 #[i.val, j.val] w fun e w' => e = .returned (.bool true) ∧ Below w.heap.size w w' := by
  obtain ⟨W1, hW1, hB1, hs1, hk1⟩ := newBlk w _ rfl #[.int .i64 i.size, .slice i.CA i.C.length i.cc, .slice i.RA i.R.length i.rc, .slice i.I.A i.I.l.length i.I.c] 58
  obtain ⟨W2, hW2, hB2, hs2, hk2⟩ := newBlk W1 _ hs1 #[.int .i64 j.size, .slice j.CA j.C.length j.cc, .slice j.RA j.R.length j.rc, .slice j.I.A j.I.l.length j.I.c] 58
  have hB : Below w.heap.size w W2 := hB1.trans (hB2.mono (by omega))
  have hkk1 := (hB2.block w.heap.size (by omega)).trans hk1
  have hS : ∀ w', Below W2.heap.size W2 w' → (w'.cell? ⟨w.heap.size, 0, none⟩ = some (.int .i64 i.size) ∧ w'.cell? ⟨w.heap.size, 1, none⟩ = some (.slice i.CA i.C.length i.cc) ∧ w'.cell? ⟨w.heap.size, 2, none⟩ = some (.slice i.RA i.R.length i.rc) ∧ w'.cell? ⟨w.heap.size, 3, none⟩ = some (.slice i.I.A i.I.l.length i.I.c)) ∧ (w'.cell? ⟨w.heap.size + 1, 0, none⟩ = some (.int .i64 j.size) ∧ w'.cell? ⟨w.heap.size + 1, 1, none⟩ = some (.slice j.CA j.C.length j.cc) ∧ w'.cell? ⟨w.heap.size + 1, 2, none⟩ = some (.slice j.RA j.R.length j.rc) ∧ w'.cell? ⟨w.heap.size + 1, 3, none⟩ = some (.slice j.I.A j.I.l.length j.I.c)) := fun w' h => ⟨⟨cell_of_blk (blk_lat hkk1 h) 0, cell_of_blk (blk_lat hkk1 h) 1, cell_of_blk (blk_lat hkk1 h) 2, cell_of_blk (blk_lat hkk1 h) 3⟩, cell_of_blk (blk_lat hk2 h) 0, cell_of_blk (blk_lat hk2 h) 1, cell_of_blk (blk_lat hk2 h) 2, cell_of_blk (blk_lat hk2 h) 3⟩
  have hsi := fun w' (h : Below W2.heap.size W2 w') => SameIntsL_any i.I j.I w' ((hi.later hB).later h).i1 ((hj.later hB).later h).i1 he.i
  have HIL := Lib.hid (show ∀ w', Below W2.heap.size W2 w' → i.In w'.heap.size w' from fun w' h => (hi.later hB).later h)
  have HJL := Lib.hid (show ∀ w', Below W2.heap.size W2 w' → j.In w'.heap.size w' from fun w' h => (hj.later hB).later h)
  have hcl : i.C.length ≤ 9223372036854775807 := Nat.le_trans hi.c1 hi.c2
  have hrl : i.R.length ≤ 9223372036854775807 := Nat.le_trans hi.r1 hi.r2
  have q1 : (i.size != j.size) = false := by rw [he.s]; simp
  have q2 : ((i.C.length : Int) != (j.C.length : Int)) = false := by rw [he.c]; simp
  have q3 : ((i.R.length : Int) != (j.R.length : Int)) = false := by rw [he.r]; simp
  have HE := Lib.hid he
  have HB := Lib.hid hB
  have HS := Lib.hid hS
  have HSI := Lib.hid hsi
  obtain ⟨⟨c0, c1, c2, c3⟩, d0, d1, d2, d3⟩ := hS W2 (Below.refl _ _)
  simp only [IN.val]
  clear hi hj he hB hB1 hB2 hk1 hk2 hkk1 hS hsi
  go_enter Tryd.func32, Tryd.ntmps32
  go_wp2_with (go_at_call 54; refine (HSI.out W2 (Below.refl _ _)).mono ?_; rintro e w3 ⟨rfl, hb3⟩; obtain ⟨⟨e0, e1, e2, e3⟩, f0, f1, f2, f3⟩ := HS.out w3 hb3)
  clear c0 c1 c2 c3 d0 d1 d2 d3 e0 e1 e2 e3 f0 f1 f2 f3
  go_loopw [41] (fun i' wr => ∃ k : Nat, k ≤ i.C.length ∧ i' = .int .i64 (k : Nat) ∧ Below W2.heap.size W2 wr) (fun i' _ => i.C.length - (intOf i').toNat)
  case atStart => exact ⟨0, Nat.zero_le _, rfl, hb3⟩
  case round =>
    rename World => wr
    obtain ⟨k, hk, rfl, hbw⟩ := hrel
    by_cases hlt : k < i.C.length
    · have hlt2 : k < j.C.length := by rw [HE.out.c]; exact hlt
      have hi := HIL.out wr hbw
      have hj := HJL.out wr hbw
      obtain ⟨g1, o1, hA1, hg1, v1⟩ := RowAt.vals hi.c3 (by omega)
      obtain ⟨g2, o2, hA2, hg2, v2⟩ := RowAt.vals hj.c3 (by omega)
      have u1 := v1 k hlt
      have u2 := v2 k hlt2
      simp only [IL.val] at u1 u2
      have heq := HE.out.cs k hlt hlt2
      have m1 := fun w' (h : Below wr.heap.size wr w') => (hi.c4 _ (List.getElem_mem hlt)).below h.size h
      have m2 := fun w' (h : Below wr.heap.size wr w') => (hj.c4 _ (List.getElem_mem hlt2)).below h.size h
      have h0K : (0 : Int) ≤ k := by omega
      have hlK : (k : Int) < i.C.length := by omega
      have hlK2 : (k : Int) < j.C.length := by omega
      generalize i.C[k] = s1 at u1 heq m1
      generalize j.C[k] = s2 at u2 heq m2
      have hca := fun w' (h : Below wr.heap.size wr w') => SameIntsL_any s1 s2 w' (m1 w' h) (m2 w' h) heq
      have hSR : ∀ w', Below wr.heap.size wr w' → ((w'.cell? ⟨w.heap.size, 0, none⟩ = some (.int .i64 i.size) ∧ w'.cell? ⟨w.heap.size, 1, none⟩ = some (.slice (some ⟨g1, o1, none⟩) i.C.length i.cc) ∧ w'.cell? ⟨w.heap.size, 2, none⟩ = some (.slice i.RA i.R.length i.rc) ∧ w'.cell? ⟨w.heap.size, 3, none⟩ = some (.slice i.I.A i.I.l.length i.I.c)) ∧ (w'.cell? ⟨w.heap.size + 1, 0, none⟩ = some (.int .i64 j.size) ∧ w'.cell? ⟨w.heap.size + 1, 1, none⟩ = some (.slice (some ⟨g2, o2, none⟩) j.C.length j.cc) ∧ w'.cell? ⟨w.heap.size + 1, 2, none⟩ = some (.slice j.RA j.R.length j.rc) ∧ w'.cell? ⟨w.heap.size + 1, 3, none⟩ = some (.slice j.I.A j.I.l.length j.I.c))) ∧ w'.cell? ⟨g1, o1 + k, none⟩ = some (.slice s1.A s1.l.length s1.c) ∧ w'.cell? ⟨g2, o2 + k, none⟩ = some (.slice s2.A s2.l.length s2.c) := fun w' h => by
        rw [← hA1, ← hA2]
        exact ⟨HS.out w' (hbw.trans (h.mono hbw.size)), (h.cell (p := ⟨g1, o1 + k, none⟩) hg1).trans u1, (h.cell (p := ⟨g2, o2 + k, none⟩) hg2).trans u2⟩
      have HSR := Lib.hid hSR
      have HCA := Lib.hid hca
      have HBW := Lib.hid hbw
      have hd : Below wr.heap.size wr wr.drew := (Below.refl _ wr).drew
      rw [hA1, hA2]
      clear hi hj v1 v2 u1 u2 heq m1 m2 hca hSR hbw hA1 hA2
      go_wp2_with fail
      go_region_held3 (fun w' => ((w'.cell? ⟨w.heap.size, 0, none⟩ = some (.int .i64 i.size) ∧ w'.cell? ⟨w.heap.size, 1, none⟩ = some (.slice (some ⟨g1, o1, none⟩) i.C.length i.cc) ∧ w'.cell? ⟨w.heap.size, 2, none⟩ = some (.slice i.RA i.R.length i.rc) ∧ w'.cell? ⟨w.heap.size, 3, none⟩ = some (.slice i.I.A i.I.l.length i.I.c)) ∧ (w'.cell? ⟨w.heap.size + 1, 0, none⟩ = some (.int .i64 j.size) ∧ w'.cell? ⟨w.heap.size + 1, 1, none⟩ = some (.slice (some ⟨g2, o2, none⟩) j.C.length j.cc) ∧ w'.cell? ⟨w.heap.size + 1, 2, none⟩ = some (.slice j.RA j.R.length j.rc) ∧ w'.cell? ⟨w.heap.size + 1, 3, none⟩ = some (.slice j.I.A j.I.l.length j.I.c))) ∧ w'.cell? ⟨g1, o1 + k, none⟩ = some (.slice s1.A s1.l.length s1.c) ∧ w'.cell? ⟨g2, o2 + k, none⟩ = some (.slice s2.A s2.l.length s2.c))
        (first | exact HSR.out _ hd | exact HSR.out _ hb5)
        (first | (go_at_call 54; refine (HCA.out wr.drew hd).mono ?_; rintro e w5 ⟨rfl, hb5'⟩; have hb5 : Below wr.heap.size wr w5 := hd.trans hb5'))
      go_wp2_with fail
      go_roundw
      case rel => exact ⟨k + 1, by omega, by go_num, HBW.out.trans (hb5.mono HBW.out.size)⟩
      case measure => simp [intOf]; omega
    · obtain ⟨⟨e0, e1, e2, e3⟩, f0, f1, f2, f3⟩ := HS.out wr hbw
      have HBW := Lib.hid hbw
      clear hbw
      go_wp2_with fail
      clear e0 e1 e2 e3 f0 f1 f2 f3
      go_loopw [60] (fun i' wr => ∃ k : Nat, k ≤ i.R.length ∧ i' = .int .i64 (k : Nat) ∧ Below W2.heap.size W2 wr) (fun i' _ => i.R.length - (intOf i').toNat)
      case atStart => exact ⟨0, Nat.zero_le _, rfl, HBW.out⟩
      case round =>
        rename World => wr
        obtain ⟨k, hk, rfl, hbw⟩ := hrel
        by_cases hlt : k < i.R.length
        · have hlt2 : k < j.R.length := by rw [HE.out.r]; exact hlt
          have hi := HIL.out wr hbw
          have hj := HJL.out wr hbw
          obtain ⟨g1, o1, hA1, hg1, v1⟩ := RowAt.vals hi.r3 (by omega)
          obtain ⟨g2, o2, hA2, hg2, v2⟩ := RowAt.vals hj.r3 (by omega)
          have u1 := v1 k hlt
          have u2 := v2 k hlt2
          simp only [PL.val] at u1 u2
          have heq := HE.out.rs k hlt hlt2
          have m1 := fun w' (h : Below wr.heap.size wr w') => (hi.r4 _ (List.getElem_mem hlt)).below h.size h
          have m2 := fun w' (h : Below wr.heap.size wr w') => (hj.r4 _ (List.getElem_mem hlt2)).below h.size h
          have h0K : (0 : Int) ≤ k := by omega
          have hlK : (k : Int) < i.R.length := by omega
          have hlK2 : (k : Int) < j.R.length := by omega
          generalize i.R[k] = s1 at u1 heq m1
          generalize j.R[k] = s2 at u2 heq m2
          have hca := fun w' (h : Below wr.heap.size wr w') => SamePairs_any s1 s2 w' (m1 w' h) (m2 w' h) heq
          have hSR : ∀ w', Below wr.heap.size wr w' → ((w'.cell? ⟨w.heap.size, 0, none⟩ = some (.int .i64 i.size) ∧ w'.cell? ⟨w.heap.size, 1, none⟩ = some (.slice i.CA i.C.length i.cc) ∧ w'.cell? ⟨w.heap.size, 2, none⟩ = some (.slice (some ⟨g1, o1, none⟩) i.R.length i.rc) ∧ w'.cell? ⟨w.heap.size, 3, none⟩ = some (.slice i.I.A i.I.l.length i.I.c)) ∧ (w'.cell? ⟨w.heap.size + 1, 0, none⟩ = some (.int .i64 j.size) ∧ w'.cell? ⟨w.heap.size + 1, 1, none⟩ = some (.slice j.CA j.C.length j.cc) ∧ w'.cell? ⟨w.heap.size + 1, 2, none⟩ = some (.slice (some ⟨g2, o2, none⟩) j.R.length j.rc) ∧ w'.cell? ⟨w.heap.size + 1, 3, none⟩ = some (.slice j.I.A j.I.l.length j.I.c))) ∧ w'.cell? ⟨g1, o1 + k, none⟩ = some (.slice s1.A s1.l.length s1.c) ∧ w'.cell? ⟨g2, o2 + k, none⟩ = some (.slice s2.A s2.l.length s2.c) := fun w' h => by
            rw [← hA1, ← hA2]
            exact ⟨HS.out w' (hbw.trans (h.mono hbw.size)), (h.cell (p := ⟨g1, o1 + k, none⟩) hg1).trans u1, (h.cell (p := ⟨g2, o2 + k, none⟩) hg2).trans u2⟩
          have HSR := Lib.hid hSR
          have HCA := Lib.hid hca
          have HBW := Lib.hid hbw
          have hd : Below wr.heap.size wr wr.drew := (Below.refl _ wr).drew
          rw [hA1, hA2]
          clear hi hj v1 v2 u1 u2 heq m1 m2 hca hSR hbw hA1 hA2
          go_wp2_with fail
          go_region_held3 (fun w' => ((w'.cell? ⟨w.heap.size, 0, none⟩ = some (.int .i64 i.size) ∧ w'.cell? ⟨w.heap.size, 1, none⟩ = some (.slice i.CA i.C.length i.cc) ∧ w'.cell? ⟨w.heap.size, 2, none⟩ = some (.slice (some ⟨g1, o1, none⟩) i.R.length i.rc) ∧ w'.cell? ⟨w.heap.size, 3, none⟩ = some (.slice i.I.A i.I.l.length i.I.c)) ∧ (w'.cell? ⟨w.heap.size + 1, 0, none⟩ = some (.int .i64 j.size) ∧ w'.cell? ⟨w.heap.size + 1, 1, none⟩ = some (.slice j.CA j.C.length j.cc) ∧ w'.cell? ⟨w.heap.size + 1, 2, none⟩ = some (.slice (some ⟨g2, o2, none⟩) j.R.length j.rc) ∧ w'.cell? ⟨w.heap.size + 1, 3, none⟩ = some (.slice j.I.A j.I.l.length j.I.c))) ∧ w'.cell? ⟨g1, o1 + k, none⟩ = some (.slice s1.A s1.l.length s1.c) ∧ w'.cell? ⟨g2, o2 + k, none⟩ = some (.slice s2.A s2.l.length s2.c))
            (first | exact HSR.out _ hd | exact HSR.out _ hb5)
            (first | (go_at_call 55; refine (HCA.out wr.drew hd).mono ?_; rintro e w5 ⟨rfl, hb5'⟩; have hb5 : Below wr.heap.size wr w5 := hd.trans hb5'))
          go_wp2_with fail
          go_roundw
          case rel => exact ⟨k + 1, by omega, by go_num, HBW.out.trans (hb5.mono HBW.out.size)⟩
          case measure => simp [intOf]; omega
        · obtain ⟨⟨e0, e1, e2, e3⟩, f0, f1, f2, f3⟩ := HS.out wr hbw
          have HBW := Lib.hid hbw
          clear hbw
          go_wp2_with fail
          go_ret
          exact ⟨rfl, HB.out.trans (HBW.out.mono HB.out.size)⟩
end Go.Proofs.YtnkkpjgclekobaaDoor

namespace Go.Proofs.YtnkkpjgclekobaaDoor
open Go.RowKit
attribute [local go_sem ↓] Go.wp_at_zero Go.wp_at_succ

theorem ownw {w : World} {base n sz : Nat} {e : TypeId} {v : Value} {xs : List Value} (h : w.ownsRow base e sz v n xs) : ∃ A c, v = .slice A n c ∧ n ≤ 9223372036854775807 ∧ (n ≠ 0 → ∃ g cur, A = some ⟨g, 0, none⟩ ∧ base ≤ g ∧ w.heap[g]? = some (.cells cur e) ∧ n * sz ≤ cur.size) := by
  rcases h.2 with ⟨rfl, h0⟩ | ⟨g, cap, cur, rfl, hge, hheap, hlen, hcap, hsize, htake⟩
  · exact ⟨none, 0, by rw [h0], by omega, fun hn => absurd h0 hn⟩
  · unfold maxLen at hcap
    refine ⟨some ⟨g, 0, none⟩, cap, rfl, by omega, fun _ => ⟨g, cur, rfl, hge, hheap, ?_⟩⟩
    have hl : xs.length = n * sz := h.1
    rw [← hl, ← htake, List.length_take]
    simp
    omega

/-- What few answers of names, an interpretation and one concept. -/
def RetFew3 (n : NM) (i : IN) (c : MT) (w : World) (e : Ending) (w' : World) : Prop := (∃ b, e = .returned (.bool b) ∧ (b = true → fewB n = true ∧ c.tr.size ≤ 400 ∧ i.C.length ≤ 100 ∧ i.R.length ≤ 100 ∧ i.I.l.length ≤ 100)) ∧ Below w.heap.size w w'
theorem RetFew3.mk {n : NM} {i : IN} {c : MT} {w wa : World} {e : Ending} {w' : World} (h : (∃ b, e = .returned (.bool b) ∧ (b = true → fewB n = true ∧ (∀ k (hk : k < [c].length), [c][k].tr.size ≤ 400) ∧ i.C.length ≤ 100 ∧ i.R.length ≤ 100 ∧ i.I.l.length ≤ 100)) ∧ Below wa.heap.size wa w') (ha : Below w.heap.size w wa) : RetFew3 n i c w e w' := by
  obtain ⟨⟨b, h1, h2⟩, h3⟩ := h
  exact ⟨⟨b, h1, fun hb => ⟨(h2 hb).1, (h2 hb).2.1 0 (by simp), (h2 hb).2.2⟩⟩, ha.trans (h3.mono ha.size)⟩
theorem crow_new1 {w : World} {cs : Array Value} {t : TypeId} (c : MT) (hin : c.In w.heap.size w) (hc : cs = #[.int .i64 c.op, .int .i64 c.n, .slice c.A c.args.length c.c]) : CRow (w.alloc (.cells cs t)) (some ⟨w.heap.size, 0, none⟩) [c] := by
  subst hc
  have hk := heap_alloc_new w (.cells #[.int .i64 c.op, .int .i64 c.n, .slice c.A c.args.length c.c] t)
  refine ⟨⟨rfl, fun _ => ⟨w.heap.size, 0, rfl, by simp, fun j hj => ?_⟩⟩, fun k hk' => ?_, by simp⟩
  · rw [cell_of_blk hk, Nat.zero_add, List.getElem?_toArray]; rfl
  · have : k = 0 := by simpa using hk'
    subst this
    exact hin.later ((Below.refl _ w).alloc (Nat.le_refl _) _)

set_option maxRecDepth 100000 in
set_option maxHeartbeats 16000000 in
theorem InterpOwn_any (b : BN) (c : MT) (i : IN) (r : Int) (w : World) (hG : GT w) (hb : b.In w.heap.size w) (hc : c.In w.heap.size w) (hi : i.In w.heap.size w) (hbn : b.NilOk) (hin : i.NilOk) (hCs : ∀ s ∈ i.C, s.l.length * 8 ≤ 140737488355328) (hRs : ∀ s ∈ i.R, s.l.length * 16 ≤ 140737488355328) (h63 : r ≤ 9223372036854775807) :
    Calls Tryd.prog 4 #[b.val, c.val, i.val, .int .i64 r] w fun e w' => e = .returned (.bool true) ∧ Below w.heap.size w w' := by
  obtain ⟨W1, hW1, hB1, hs1, hk1⟩ := newBlk w _ rfl #[.slice b.N.C.A b.N.C.l.length b.N.C.c, .slice b.N.R.A b.N.R.l.length b.N.R.c, .slice b.N.I.A b.N.I.l.length b.N.I.c, .slice b.IA b.I.length b.ic, .slice b.R.A b.R.l.length b.R.c, .slice b.FA b.F.length b.fc, .slice b.L.A b.L.l.length b.L.c] 54
  obtain ⟨W2, hW2, hB2, hs2, hk2⟩ := newBlk W1 _ hs1 #[.int .i64 c.op, .int .i64 c.n, .slice c.A c.args.length c.c] 27
  obtain ⟨W3, hW3, hB3, hs3, hk3⟩ := newBlk W2 _ hs2 #[.int .i64 i.size, .slice i.CA i.C.length i.cc, .slice i.RA i.R.length i.rc, .slice i.I.A i.I.l.length i.I.c] 58
  have hB : Below w.heap.size w W3 := (hB1.trans (hB2.mono (by omega))).trans (hB3.mono (by omega))
  have hkk1 := ((hB3.block w.heap.size (by omega)).trans ((hB2.block w.heap.size (by omega)).trans hk1))
  have hkk2 := ((hB3.block (w.heap.size + 1) (by omega)).trans hk2)
  have hS : ∀ w', Below W3.heap.size W3 w' → (w'.cell? ⟨w.heap.size, 0, none⟩ = some (.slice b.N.C.A b.N.C.l.length b.N.C.c) ∧ w'.cell? ⟨w.heap.size, 1, none⟩ = some (.slice b.N.R.A b.N.R.l.length b.N.R.c) ∧ w'.cell? ⟨w.heap.size, 2, none⟩ = some (.slice b.N.I.A b.N.I.l.length b.N.I.c) ∧ w'.cell? ⟨w.heap.size, 3, none⟩ = some (.slice b.IA b.I.length b.ic) ∧ w'.cell? ⟨w.heap.size, 4, none⟩ = some (.slice b.R.A b.R.l.length b.R.c) ∧ w'.cell? ⟨w.heap.size, 5, none⟩ = some (.slice b.FA b.F.length b.fc) ∧ w'.cell? ⟨w.heap.size, 6, none⟩ = some (.slice b.L.A b.L.l.length b.L.c)) ∧ (w'.cell? ⟨w.heap.size + 1, 0, none⟩ = some (.int .i64 c.op) ∧ w'.cell? ⟨w.heap.size + 1, 1, none⟩ = some (.int .i64 c.n) ∧ w'.cell? ⟨w.heap.size + 1, 2, none⟩ = some (.slice c.A c.args.length c.c)) ∧ (w'.cell? ⟨w.heap.size + 1 + 1, 0, none⟩ = some (.int .i64 i.size) ∧ w'.cell? ⟨w.heap.size + 1 + 1, 1, none⟩ = some (.slice i.CA i.C.length i.cc) ∧ w'.cell? ⟨w.heap.size + 1 + 1, 2, none⟩ = some (.slice i.RA i.R.length i.rc) ∧ w'.cell? ⟨w.heap.size + 1 + 1, 3, none⟩ = some (.slice i.I.A i.I.l.length i.I.c)) := fun w' h => ⟨bbox_of (b := b) (blk_lat hkk1 h), ⟨cell_of_blk (blk_lat hkk2 h) 0, cell_of_blk (blk_lat hkk2 h) 1, cell_of_blk (blk_lat hkk2 h) 2⟩, cell_of_blk (blk_lat hk3 h) 0, cell_of_blk (blk_lat hk3 h) 1, cell_of_blk (blk_lat hk3 h) 2, cell_of_blk (blk_lat hk3 h) 3⟩
  have hBI := fun w' (h : Below W3.heap.size W3 w') => (hb.later hB).later h
  have hCI := fun w' (h : Below W3.heap.size W3 w') => (hc.later hB).later h
  have hII := fun w' (h : Below W3.heap.size W3 w') => (hi.later hB).later h
  have hGI := fun w' (h : Below W3.heap.size W3 w') => (hG.later hB).later h
  have hal : ∀ (w' : World) o, Below w'.heap.size w' (w'.alloc o) := fun w' o => (Below.refl _ w').alloc (Nat.le_refl _) o
  have hfw := bFew_any b W3 (hb.later hB)
  have hf3 := fun w' (h : Below W3.heap.size W3 w') => (fewL2_any b.N i [c] (some ⟨w'.heap.size, 0, none⟩) 1 (w'.alloc (.cells #[.int .i64 c.op, .int .i64 c.n, .slice c.A c.args.length c.c] 27)) ((hBI w' h).n.later (hal _ _)) ((hII w' h).later (hal _ _)) (crow_new1 c (hCI w' h) rfl)).mono fun e w'' hx => RetFew3.mk hx (hal w' _)
  have haw := fun w' (h : Below W3.heap.size W3 w') => awake3_any w' (hGI w' h)
  obtain ⟨⟨a0, a1, a2, a3, a4, a5, a6⟩, ⟨a7, a8, a9⟩, a10, a11, a12, a13⟩ := hS W3 (Below.refl _ _)
  have HB := Lib.hid hB
  have HS := Lib.hid hS
  have HAW := Lib.hid haw
  have HF3 := Lib.hid hf3
  have HBI := Lib.hid hBI
  have HCI := Lib.hid hCI
  have HII := Lib.hid hII
  have HGI := Lib.hid hGI
  have HNO := Lib.hid (And.intro hbn (And.intro hin (And.intro hCs (And.intro hRs h63))))
  simp only [NM.val, BN.val, IN.val, MT.val, List.length_cons, List.length_nil, Nat.zero_add, Nat.reduceAdd] at hfw HF3 ⊢
  clear hB hG hb hc hi hbn hin hCs hRs h63 hS haw hf3 hBI hCI hII hGI hal hB1 hB2 hB3 hk1 hk2 hk3 hkk1 hkk2
  go_enter Tryd.func4, Tryd.ntmps4
  go_wp2_with (go_at_call 20; refine hfw.mono ?_; clear hfw; rintro e w4 ⟨⟨x, rfl, hx⟩, hb4⟩; obtain ⟨⟨e0, e1, e2, e3, e4, e5, e6⟩, ⟨e7, e8, e9⟩, e10, e11, e12, e13⟩ := HS.out w4 hb4; cases x)
  · go_wp2_with (go_at_call 22; refine (HAW.out w4 hb4).mono ?_; rintro e w5 ⟨rfl, hb5⟩)
    go_ret
    exact ⟨rfl, HB.out.trans ((hb4.trans (hb5.mono hb4.size)).mono HB.out.size)⟩
  go_wp2_with (go_at_call 21; refine (HF3.out w4 hb4).mono ?_; rintro e w5 ⟨⟨y, rfl, hy⟩, hb5'⟩; have hb5 : Below W3.heap.size W3 w5 := hb4.trans (hb5'.mono hb4.size); obtain ⟨⟨f0, f1, f2, f3, f4, f5, f6⟩, ⟨f7, f8, f9⟩, f10, f11, f12, f13⟩ := HS.out w5 hb5; cases y)
  · go_wp2_with (go_at_call 22; refine (HAW.out w5 hb5).mono ?_; rintro e w6 ⟨rfl, hb6⟩)
    go_ret
    exact ⟨rfl, HB.out.trans ((hb5.trans (hb6.mono hb5.size)).mono HB.out.size)⟩
  obtain ⟨q1, q2, q3, q4, q5, q6⟩ := (by first | exact hx rfl | exact hx trivial : fewB b.N = true ∧ b.I.length ≤ 200 ∧ b.R.l.length ≤ 200 ∧ b.F.length ≤ 200 ∧ b.L.l.length ≤ 200 ∧ ∀ T ∈ b.cons, T.tr.size ≤ 400)
  obtain ⟨u1, u2, u3, u4, u5⟩ := (by first | exact hy rfl | exact hy trivial : fewB b.N = true ∧ c.tr.size ≤ 400 ∧ i.C.length ≤ 100 ∧ i.R.length ≤ 100 ∧ i.I.l.length ≤ 100)
  have hl := few_lens3 q1
  have f : Few3 b i := ⟨by omega, by omega, by omega, by omega, ⟨by omega, by omega, by omega⟩, fun T hT => Nat.le_trans (q6 T hT) (by decide)⟩
  obtain ⟨hbn, hin, hCs, hRs, h63⟩ := HNO.out
  have hcb := fun w' (h : Below W3.heap.size W3 w') => bCopy_any b w' (HBI.out w' h) hbn f.I f.R f.F f.L f.N f.sz
  have hcc := fun w' (h : Below W3.heap.size W3 w') => rCopy_any c w' (HCI.out w' h) (by omega)
  have hci := fun w' (h : Below W3.heap.size W3 w') => iCopy_any i w' (HII.out w' h) hin (by omega) (by omega) (by omega) hCs hRs
  have hF := Lib.hid f
  have HU := Lib.hid (And.intro u2 (And.intro u3 (And.intro u4 (And.intro u5 h63))))
  have HCB := Lib.hid hcb
  have HCC := Lib.hid hcc
  have HCI2 := Lib.hid hci
  have HB5 := Lib.hid hb5
  clear q1 q2 q3 q4 q5 q6 u1 u2 u3 u4 u5 hl f hx hy hb4 hb5' hbn hin hCs hRs h63 hcb hcc hci a0 a1 a2 a3 a4 a5 a6 a7 a8 a9 a10 a11 a12 a13 e0 e1 e2 e3 e4 e5 e6 e7 e8 e9 e10 e11 e12 e13 HF3
  go_wp2_with fail
  rename_i K0 aK0
  have hd5 : Below W3.heap.size W3 w5.drew := HB5.out.drew
  have hSd : ∀ w', Below w5.drew.heap.size w5.drew w' → (w'.cell? ⟨w.heap.size, 0, none⟩ = some (.slice b.N.C.A b.N.C.l.length b.N.C.c) ∧ w'.cell? ⟨w.heap.size, 1, none⟩ = some (.slice b.N.R.A b.N.R.l.length b.N.R.c) ∧ w'.cell? ⟨w.heap.size, 2, none⟩ = some (.slice b.N.I.A b.N.I.l.length b.N.I.c) ∧ w'.cell? ⟨w.heap.size, 3, none⟩ = some (.slice b.IA b.I.length b.ic) ∧ w'.cell? ⟨w.heap.size, 4, none⟩ = some (.slice b.R.A b.R.l.length b.R.c) ∧ w'.cell? ⟨w.heap.size, 5, none⟩ = some (.slice b.FA b.F.length b.fc) ∧ w'.cell? ⟨w.heap.size, 6, none⟩ = some (.slice b.L.A b.L.l.length b.L.c)) ∧ (w'.cell? ⟨w.heap.size + 1, 0, none⟩ = some (.int .i64 c.op) ∧ w'.cell? ⟨w.heap.size + 1, 1, none⟩ = some (.int .i64 c.n) ∧ w'.cell? ⟨w.heap.size + 1, 2, none⟩ = some (.slice c.A c.args.length c.c)) ∧ (w'.cell? ⟨w.heap.size + 1 + 1, 0, none⟩ = some (.int .i64 i.size) ∧ w'.cell? ⟨w.heap.size + 1 + 1, 1, none⟩ = some (.slice i.CA i.C.length i.cc) ∧ w'.cell? ⟨w.heap.size + 1 + 1, 2, none⟩ = some (.slice i.RA i.R.length i.rc) ∧ w'.cell? ⟨w.heap.size + 1 + 1, 3, none⟩ = some (.slice i.I.A i.I.l.length i.I.c)) := fun w' h => HS.out w' (hd5.trans (h.mono hd5.size))
  have hcbd := fun w' (h : Below w5.drew.heap.size w5.drew w') => HCB.out w' (hd5.trans (h.mono hd5.size))
  have hccd := fun w' (h : Below w5.drew.heap.size w5.drew w') => HCC.out w' (hd5.trans (h.mono hd5.size))
  have hcid := fun w' (h : Below w5.drew.heap.size w5.drew w') => HCI2.out w' (hd5.trans (h.mono hd5.size))
  have hso : SO b c i w5.drew w5.drew false false false false false false undef undef undef undef undef undef := ⟨Below.refl _ _, fun h => (by cases h), fun h => (by cases h), fun h => (by cases h), fun h => (by cases h), fun h => (by cases h), fun h => (by cases h)⟩
  refine wp_region_held_drew (S := fun w' => (w'.cell? ⟨w.heap.size, 0, none⟩ = some (.slice b.N.C.A b.N.C.l.length b.N.C.c) ∧ w'.cell? ⟨w.heap.size, 1, none⟩ = some (.slice b.N.R.A b.N.R.l.length b.N.R.c) ∧ w'.cell? ⟨w.heap.size, 2, none⟩ = some (.slice b.N.I.A b.N.I.l.length b.N.I.c) ∧ w'.cell? ⟨w.heap.size, 3, none⟩ = some (.slice b.IA b.I.length b.ic) ∧ w'.cell? ⟨w.heap.size, 4, none⟩ = some (.slice b.R.A b.R.l.length b.R.c) ∧ w'.cell? ⟨w.heap.size, 5, none⟩ = some (.slice b.FA b.F.length b.fc) ∧ w'.cell? ⟨w.heap.size, 6, none⟩ = some (.slice b.L.A b.L.l.length b.L.c)) ∧ (w'.cell? ⟨w.heap.size + 1, 0, none⟩ = some (.int .i64 c.op) ∧ w'.cell? ⟨w.heap.size + 1, 1, none⟩ = some (.int .i64 c.n) ∧ w'.cell? ⟨w.heap.size + 1, 2, none⟩ = some (.slice c.A c.args.length c.c)) ∧ (w'.cell? ⟨w.heap.size + 1 + 1, 0, none⟩ = some (.int .i64 i.size) ∧ w'.cell? ⟨w.heap.size + 1 + 1, 1, none⟩ = some (.slice i.CA i.C.length i.cc) ∧ w'.cell? ⟨w.heap.size + 1 + 1, 2, none⟩ = some (.slice i.RA i.R.length i.rc) ∧ w'.cell? ⟨w.heap.size + 1 + 1, 3, none⟩ = some (.slice i.I.A i.I.l.length i.I.c))) (by kernel_rfl) (HS.out _ hd5) (fun hHeld => ?_)
  refine wpAnyH_take (i := 0) (oi := { dst := some 34, op := Op.load 54 (Operand.tmp 4), type := 54, pos := "law.go:256", after := #[], guard := none }) (v := .agg #[.slice b.N.C.A b.N.C.l.length b.N.C.c, .slice b.N.R.A b.N.R.l.length b.N.R.c, .slice b.N.I.A b.N.I.l.length b.N.I.c, .slice b.IA b.I.length b.ic, .slice b.R.A b.R.l.length b.R.c, .slice b.FA b.F.length b.fc, .slice b.L.A b.L.l.length b.L.c]) rfl (by kernel_rfl) (by kernel_rfl) (by kernel_rfl) (fun _ _ _ h => h) (Or.inl ⟨by rfl, by (intro w hSw; (try dsimp only at hSw); go_simp)⟩) (by assumption) ?_
  try simp only [Act.put, List.setIfInBounds_toArray, List.set_cons_zero, List.set_cons_succ]
  refine wpAnyH_take (i := 2) (oi := { dst := some 36, op := Op.load 27 (Operand.tmp 5), type := 27, pos := "law.go:256", after := #[], guard := none }) (v := .agg #[.int .i64 c.op, .int .i64 c.n, .slice c.A c.args.length c.c]) rfl (by kernel_rfl) (by kernel_rfl) (by kernel_rfl) (fun _ _ _ h => h) (Or.inl ⟨by rfl, by (intro w hSw; (try dsimp only at hSw); go_simp)⟩) (by assumption) ?_
  try simp only [Act.put, List.setIfInBounds_toArray, List.set_cons_zero, List.set_cons_succ]
  refine wpAnyH_take (i := 4) (oi := { dst := some 38, op := Op.load 58 (Operand.tmp 6), type := 58, pos := "law.go:256", after := #[], guard := none }) (v := .agg #[.int .i64 i.size, .slice i.CA i.C.length i.cc, .slice i.RA i.R.length i.rc, .slice i.I.A i.I.l.length i.I.c]) rfl (by kernel_rfl) (by kernel_rfl) (by kernel_rfl) (fun _ _ _ h => h) (Or.inl ⟨by rfl, by (intro w hSw; (try dsimp only at hSw); go_simp)⟩) (by assumption) ?_
  try simp only [Act.put, List.setIfInBounds_toArray, List.set_cons_zero, List.set_cons_succ]
  refine ownA b c i w5.drew _ _ hSd hcbd hccd hcid _ _ _ _ _ _ _ _ _ _ _ _ _ _ _ _ _ _ _ _ _ _ _ _ _ _ _ _ _ _ _ _ _ _ _ _ _ _ _ _ _ _ _ _ _ _ _ _ _ _ _ _ _ _ _ _ _ _ _ _ _ _ _ _ _ _ _ _ _ _ _ _ _ _ _ _ _ _ _ _ _ _ _ _ _ _ _ _ _ _ _ _ _ _ _ _ _ _ _ _ _ _ _ _ _ _ _ _ _ (ownB b c i w5.drew _ _ hSd _ _ _ _ _ _ _ _ _ _ _ _ _ _ _ _ _ _ _ _ _ _ _ _ _ _ _ _ _ _ _ _ _ _ _ _ _ _ _ _ _ _ _ _ _ _ _ _ _ _ _ _ _ _ _ _ _ _ _ _ _ _ _ _ _ _ _ _ _ _ _ _ _ _ _ _ _ _ _ _ _ _ _ _ _ _ _ _ _ _ _ _ _ _ _ _ _ _ _ _ _ _ _ _ _ _ _ _ _ (fun t35 t37 t39 t9 t10 t11 w9 he => ?_)) 6 false false false false false false (by simp) (by simp) rfl _ _ _ _ _ _ _ hso
  refine aK0 _ _ ?_
  clear aK0 hso hSd hcbd hccd hcid hHeld HCB HCC HCI2
  obtain ⟨m, M, j, D1, D2, D3, rfl, rfl, rfl, hb9', hme, hMe, hje, hm9, hM9, hj9, hk1, hk2, hk3⟩ := he
  have hb9 : Below W3.heap.size W3 w9 := hd5.trans (hb9'.mono hd5.size)
  have hK : ∀ w', Below w9.heap.size w9 w' → (w'.cell? ⟨D1, 0, none⟩ = some (.slice m.N.C.A m.N.C.l.length m.N.C.c) ∧ w'.cell? ⟨D1, 1, none⟩ = some (.slice m.N.R.A m.N.R.l.length m.N.R.c) ∧ w'.cell? ⟨D1, 2, none⟩ = some (.slice m.N.I.A m.N.I.l.length m.N.I.c) ∧ w'.cell? ⟨D1, 3, none⟩ = some (.slice m.IA m.I.length m.ic) ∧ w'.cell? ⟨D1, 4, none⟩ = some (.slice m.R.A m.R.l.length m.R.c) ∧ w'.cell? ⟨D1, 5, none⟩ = some (.slice m.FA m.F.length m.fc) ∧ w'.cell? ⟨D1, 6, none⟩ = some (.slice m.L.A m.L.l.length m.L.c)) ∧ (w'.cell? ⟨D2, 0, none⟩ = some (.int .i64 M.op) ∧ w'.cell? ⟨D2, 1, none⟩ = some (.int .i64 M.n) ∧ w'.cell? ⟨D2, 2, none⟩ = some (.slice M.A M.args.length M.c)) ∧ (w'.cell? ⟨D3, 0, none⟩ = some (.int .i64 j.size) ∧ w'.cell? ⟨D3, 1, none⟩ = some (.slice j.CA j.C.length j.cc) ∧ w'.cell? ⟨D3, 2, none⟩ = some (.slice j.RA j.R.length j.rc) ∧ w'.cell? ⟨D3, 3, none⟩ = some (.slice j.I.A j.I.l.length j.I.c)) := fun w' h => by
    have x1 := (h.block D1 (Array.getElem?_eq_some_iff.1 hk1).1).trans hk1
    have x2 := (h.block D2 (Array.getElem?_eq_some_iff.1 hk2).1).trans hk2
    have x3 := (h.block D3 (Array.getElem?_eq_some_iff.1 hk3).1).trans hk3
    exact ⟨bbox_of (b := m) x1, ⟨cell_of_blk x2 0, cell_of_blk x2 1, cell_of_blk x2 2⟩, cell_of_blk x3 0, cell_of_blk x3 1, cell_of_blk x3 2, cell_of_blk x3 3⟩
  obtain ⟨u2, u3, u4, u5, h63⟩ := HU.out
  have hpl : (c.pre 1).length ≤ 1000000 := by rw [MT.pre_length]; omega
  have h39 : ∀ w', Below w9.heap.size w9 w' → Below W3.heap.size W3 w' := fun w' h => hb9.trans (h.mono hb9.size)
  have hpa := fun w' (h : Below w9.heap.size w9 w') => pa_all b.N i r w' (HGI.out w' (h39 w' h)) (HBI.out w' (h39 w' h)).n (HII.out w' (h39 w' h)) h63 (by omega) (by omega) (by omega)
  have hwr := fun w' (h : Below w9.heap.size w9 w') => iWrong_any b i w' hF.out (HGI.out w' (h39 w' h)) (HBI.out w' (h39 w' h)) (HII.out w' (h39 w' h))
  have hmo := fun w' (h : Below w9.heap.size w9 w') => iModels_any b i w' hF.out (HGI.out w' (h39 w' h)) (HBI.out w' (h39 w' h)) (HII.out w' (h39 w' h))
  have htr := fun w' (h : Below w9.heap.size w9 w') => iTrue_any b i 0 w' hF.out (HGI.out w' (h39 w' h)) (HBI.out w' (h39 w' h)) (HII.out w' (h39 w' h))
  have hic := fun w' (h : Below w9.heap.size w9 w') => inc_all b.N c c i w' (HGI.out w' (h39 w' h)) (HBI.out w' (h39 w' h)).n (HCI.out w' (h39 w' h)) (HCI.out w' (h39 w' h)) (HII.out w' (h39 w' h)) hpl hpl (by omega) (by omega) (by omega)
  have hsb := fun w' (h : Below w9.heap.size w9 w') => bSame_any m b w' (hm9.later h) (HBI.out w' (h39 w' h)) hme
  have hsc := fun w' (h : Below w9.heap.size w9 w') => rSame_any M c w' (hM9.later h) (HCI.out w' (h39 w' h))
  rw [hMe, beq_self] at hsc
  have hsi := fun w' (h : Below w9.heap.size w9 w') => iSame_any j i w' (hj9.later h) (HII.out w' (h39 w' h)) hje
  obtain ⟨L, z, hel⟩ := el_all b.N c i w9 (HGI.out w9 hb9) (HBI.out w9 hb9).n (HCI.out w9 hb9) (HII.out w9 hb9) hpl (by omega) (by omega) (by omega)
  obtain ⟨Lw, hLw⟩ : ∃ L, selR (wrongP (verL0 b i)) (verL0 b i).length = L := ⟨_, rfl⟩
  obtain ⟨zw, hzw⟩ : ∃ z, vcode b i = z := ⟨_, rfl⟩
  rw [hLw, hzw] at hwr
  rw [hLw, hzw] at hmo
  rw [hzw] at htr
  have HK := Lib.hid hK
  have H39 := Lib.hid h39
  have HPA := Lib.hid hpa
  have HWR := Lib.hid hwr
  have HMO := Lib.hid hmo
  have HTR := Lib.hid htr
  have HIC := Lib.hid hic
  have HSB := Lib.hid hsb
  have HSC := Lib.hid hsc
  have HSI := Lib.hid hsi
  have HB9 := Lib.hid hb9
  obtain ⟨⟨ya0, ya1, ya2, ya3, ya4, ya5, ya6⟩, ⟨ya7, ya8, ya9⟩, ya10, ya11, ya12, ya13⟩ := HS.out w9 hb9
  simp only [NM.val, BN.val, IN.val, MT.val] at hel HPA HWR HMO HTR HIC HSB HSC HSI
  clear hK h39 hpa hwr hmo htr hic hsb hsc hsi hb9 hb9' hme hMe hje hm9 hM9 hj9 hk1 hk2 hk3 u2 u3 u4 u5 h63 hpl hLw hzw hd5 hb5
  go_wp2_with (go_at_call 25; refine hel.mono ?_; clear hel; rintro e w10 ⟨v10, rfl, hop, hb10⟩; obtain ⟨A1, k1, hv, hn1, hw1⟩ := ownw hop; subst hv; have HW1 := Lib.hid hw1; clear hop hw1)
  clear ya0 ya1 ya2 ya3 ya4 ya5 ya6 ya7 ya8 ya9 ya10 ya11 ya12 ya13
  go_loopw [50] (fun i' wr => ∃ k : Nat, k ≤ L.length ∧ i' = .int .i64 (k : Nat) ∧ (L.length ≠ 0 → ∃ g cur, A1 = some ⟨g, 0, none⟩ ∧ w9.heap.size ≤ g ∧ wr.heap[g]? = some (.cells cur 3) ∧ L.length * 1 ≤ cur.size) ∧ Below w9.heap.size w9 wr) (fun i' _ => L.length - (intOf i').toNat)
  case atStart => exact ⟨0, Nat.zero_le _, rfl, HW1.out, hb10⟩
  case round =>
    rename World => wr
    obtain ⟨k, hk, rfl, hrow, hbw⟩ := hrel
    by_cases hlt : k < L.length
    · obtain ⟨g, cur, rfl, hge, hkg, hsz⟩ := hrow (by omega)
      have HR := Lib.hid (And.intro hge (And.intro hkg hsz))
      obtain ⟨u, hu⟩ : ∃ u, cur[k]? = some u := ⟨_, Array.getElem?_eq_getElem (by omega)⟩
      have x1 := (cell_of_blk hkg k).trans hu
      have x2 := frozen_of_blk hkg k
      have h0K : (0 : Int) ≤ k := by omega
      have hlK : (k : Int) < L.length := by omega
      have HBW := Lib.hid hbw
      clear hrow hbw hge hkg hsz hu
      go_wp2_with fail
      go_roundw
      case rel => exact ⟨k + 1, by omega, by go_num, fun _ => ⟨g, _, rfl, HR.out.1, blk_set HR.out.2.1 k _, by rw [Array.size_setIfInBounds]; exact HR.out.2.2⟩, HBW.out.setCell (p := ⟨g, k, none⟩) HR.out.1 _⟩
      case measure => simp [intOf]; omega
    · obtain ⟨L2, z2, hpa⟩ := HPA.out wr hbw
      obtain ⟨⟨yb0, yb1, yb2, yb3, yb4, yb5, yb6⟩, ⟨yb7, yb8, yb9⟩, yb10, yb11, yb12, yb13⟩ := HS.out wr (H39.out wr hbw)
      have HBW := Lib.hid hbw
      clear hrow hbw
      go_wp2_with (go_at_call 26; refine hpa.mono ?_; clear hpa; rintro e w11 ⟨v11, rfl, hop, hb11'⟩; have hb11 : Below w9.heap.size w9 w11 := HBW.out.trans (hb11'.mono HBW.out.size); obtain ⟨A2, k2, hv, hn2, hw2⟩ := ownw hop; subst hv; have HW2 := Lib.hid (fun h => (hw2 h).imp fun g hg => hg.imp fun cur hc => And.intro hc.1 (And.intro (Nat.le_trans HBW.out.size hc.2.1) hc.2.2)); clear hop hw2 hb11')
      clear yb0 yb1 yb2 yb3 yb4 yb5 yb6 yb7 yb8 yb9 yb10 yb11 yb12 yb13
      go_loopw [67] (fun i' wr => ∃ k : Nat, k ≤ L2.length ∧ i' = .int .i64 (k : Nat) ∧ (L2.length ≠ 0 → ∃ g cur, A2 = some ⟨g, 0, none⟩ ∧ w9.heap.size ≤ g ∧ wr.heap[g]? = some (.cells cur 68) ∧ L2.length * 2 ≤ cur.size) ∧ Below w9.heap.size w9 wr) (fun i' _ => L2.length - (intOf i').toNat)
      case atStart => exact ⟨0, Nat.zero_le _, rfl, HW2.out, hb11⟩
      case round =>
        rename World => wr
        obtain ⟨k, hk, rfl, hrow, hbw⟩ := hrel
        by_cases hlt : k < L2.length
        · obtain ⟨g, cur, rfl, hge, hkg, hsz⟩ := hrow (by omega)
          have HR := Lib.hid (And.intro hge (And.intro hkg hsz))
          obtain ⟨u, hu⟩ : ∃ u, cur[k * 2]? = some u := ⟨_, Array.getElem?_eq_getElem (by omega)⟩
          have x1 := (cell_of_blk hkg (k * 2)).trans hu
          have x2 := frozen_of_blk hkg (k * 2)
          have h0K : (0 : Int) ≤ k := by omega
          have hlK : (k : Int) < L2.length := by omega
          have HBW := Lib.hid hbw
          clear hrow hbw hge hkg hsz hu
          go_wp2_with fail
          go_roundw
          case rel => exact ⟨k + 1, by omega, by go_num, fun _ => ⟨g, _, rfl, HR.out.1, blk_set HR.out.2.1 (k * 2) _, by rw [Array.size_setIfInBounds]; exact HR.out.2.2⟩, HBW.out.setCell (p := ⟨g, k * 2, none⟩) HR.out.1 _⟩
          case measure => simp [intOf]; omega
        · have hwr := HWR.out wr hbw
          obtain ⟨⟨yd0, yd1, yd2, yd3, yd4, yd5, yd6⟩, ⟨yd7, yd8, yd9⟩, yd10, yd11, yd12, yd13⟩ := HS.out wr (H39.out wr hbw)
          have HBW2 := Lib.hid hbw
          clear hrow hbw
          go_wp2_with (go_at_call 27; refine hwr.mono ?_; clear hwr; rintro e w12 ⟨v12, rfl, hop, hb12'⟩; have hb12 : Below w9.heap.size w9 w12 := HBW2.out.trans (hb12'.mono HBW2.out.size); obtain ⟨A3, k3, hv, hn3, hw3⟩ := ownw hop; subst hv; have HW3 := Lib.hid (fun h => (hw3 h).imp fun g hg => hg.imp fun cur hc => And.intro hc.1 (And.intro (Nat.le_trans HBW2.out.size hc.2.1) hc.2.2)); clear hop hw3 hb12')
          clear yd0 yd1 yd2 yd3 yd4 yd5 yd6 yd7 yd8 yd9 yd10 yd11 yd12 yd13
          go_loopw [83] (fun i' wr => ∃ k : Nat, k ≤ Lw.length ∧ i' = .int .i64 (k : Nat) ∧ (Lw.length ≠ 0 → ∃ g cur, A3 = some ⟨g, 0, none⟩ ∧ w9.heap.size ≤ g ∧ wr.heap[g]? = some (.cells cur 3) ∧ Lw.length * 1 ≤ cur.size) ∧ Below w9.heap.size w9 wr) (fun i' _ => Lw.length - (intOf i').toNat)
          case atStart => exact ⟨0, Nat.zero_le _, rfl, HW3.out, hb12⟩
          case round =>
            rename World => wr
            obtain ⟨k, hk, rfl, hrow, hbw⟩ := hrel
            by_cases hlt : k < Lw.length
            · obtain ⟨g, cur, rfl, hge, hkg, hsz⟩ := hrow (by omega)
              have HR := Lib.hid (And.intro hge (And.intro hkg hsz))
              obtain ⟨u, hu⟩ : ∃ u, cur[k]? = some u := ⟨_, Array.getElem?_eq_getElem (by omega)⟩
              have x1 := (cell_of_blk hkg k).trans hu
              have x2 := frozen_of_blk hkg k
              have h0K : (0 : Int) ≤ k := by omega
              have hlK : (k : Int) < Lw.length := by omega
              have HBW := Lib.hid hbw
              clear hrow hbw hge hkg hsz hu
              go_wp2_with fail
              go_roundw
              case rel => exact ⟨k + 1, by omega, by go_num, fun _ => ⟨g, _, rfl, HR.out.1, blk_set HR.out.2.1 k _, by rw [Array.size_setIfInBounds]; exact HR.out.2.2⟩, HBW.out.setCell (p := ⟨g, k, none⟩) HR.out.1 _⟩
              case measure => simp [intOf]; omega
            · obtain ⟨⟨yg0, yg1, yg2, yg3, yg4, yg5, yg6⟩, ⟨yg7, yg8, yg9⟩, yg10, yg11, yg12, yg13⟩ := HS.out wr (H39.out wr hbw)
              have hmo := HMO.out wr hbw
              have HBW3 := Lib.hid hbw
              have hbw3 := hbw
              clear hrow hbw
              go_wp2_with (first
                | (go_at_call 22; have _k := tok7; refine (HAW.out w18 (H39.out w18 hb18)).mono ?_; rintro e w19 ⟨rfl, hb19'⟩; have hb19 : Below w9.heap.size w9 w19 := hb18.trans (hb19'.mono hb18.size))
                | (go_at_call 32; have _k := tok6; refine (HSI.out w17 hb17).mono ?_; rintro e w18 ⟨rfl, hb18'⟩; have hb18 : Below w9.heap.size w9 w18 := hb17.trans (hb18'.mono hb17.size); have tok7 : True := trivial)
                | (go_at_call 19; have _k := tok5; refine (HSC.out w16 hb16).mono ?_; rintro e w17 ⟨rfl, hb17'⟩; have hb17 : Below w9.heap.size w9 w17 := hb16.trans (hb17'.mono hb16.size); obtain ⟨⟨yn0, yn1, yn2, yn3, yn4, yn5, yn6⟩, ⟨yn7, yn8, yn9⟩, yn10, yn11, yn12, yn13⟩ := HS.out w17 (H39.out w17 hb17); obtain ⟨⟨yo0, yo1, yo2, yo3, yo4, yo5, yo6⟩, ⟨yo7, yo8, yo9⟩, yo10, yo11, yo12, yo13⟩ := HK.out w17 hb17; have tok6 : True := trivial)
                | (go_at_call 31; have _k := tok4; refine (HSB.out w15 hb15).mono ?_; rintro e w16 ⟨rfl, hb16'⟩; have hb16 : Below w9.heap.size w9 w16 := hb15.trans (hb16'.mono hb15.size); obtain ⟨⟨yk0, yk1, yk2, yk3, yk4, yk5, yk6⟩, ⟨yk7, yk8, yk9⟩, yk10, yk11, yk12, yk13⟩ := HS.out w16 (H39.out w16 hb16); obtain ⟨⟨yl0, yl1, yl2, yl3, yl4, yl5, yl6⟩, ⟨yl7, yl8, yl9⟩, yl10, yl11, yl12, yl13⟩ := HK.out w16 hb16; have tok5 : True := trivial)
                | (go_at_call 30; have _k := tok3; refine hic14.mono ?_; rintro e w15 ⟨rfl, hb15'⟩; have hb15 : Below w9.heap.size w9 w15 := hb14.trans (hb15'.mono hb14.size); obtain ⟨⟨yi0, yi1, yi2, yi3, yi4, yi5, yi6⟩, ⟨yi7, yi8, yi9⟩, yi10, yi11, yi12, yi13⟩ := HS.out w15 (H39.out w15 hb15); obtain ⟨⟨yj0, yj1, yj2, yj3, yj4, yj5, yj6⟩, ⟨yj7, yj8, yj9⟩, yj10, yj11, yj12, yj13⟩ := HK.out w15 hb15; have tok4 : True := trivial)
                | (go_at_call 29; have _k := tok2; refine (HTR.out w13 hb13).mono ?_; rintro e w14 ⟨rfl, hb14'⟩; have hb14 : Below w9.heap.size w9 w14 := hb13.trans (hb14'.mono hb13.size); obtain ⟨⟨ym0, ym1, ym2, ym3, ym4, ym5, ym6⟩, ⟨ym7, ym8, ym9⟩, ym10, ym11, ym12, ym13⟩ := HS.out w14 (H39.out w14 hb14); obtain ⟨xi, zi, hic14⟩ := HIC.out w14 hb14; have tok3 : True := trivial)
                | (go_at_call 28; refine hmo.mono ?_; rintro e w13 ⟨rfl, hb13'⟩; have hb13 : Below w9.heap.size w9 w13 := hbw3.trans (hb13'.mono hbw3.size); obtain ⟨⟨yh0, yh1, yh2, yh3, yh4, yh5, yh6⟩, ⟨yh7, yh8, yh9⟩, yh10, yh11, yh12, yh13⟩ := HS.out w13 (H39.out w13 hb13); have tok2 : True := trivial))
              go_ret
              exact ⟨rfl, HB.out.trans ((H39.out w19 hb19).mono HB.out.size)⟩
end Go.Proofs.YtnkkpjgclekobaaDoor
