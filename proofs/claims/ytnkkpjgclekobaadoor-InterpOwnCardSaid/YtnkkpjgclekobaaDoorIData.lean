import Derived.Test.YtnkkpjgclekobaaDoorSW
namespace Go.Proofs.YtnkkpjgclekobaaDoor
open Go.RowKit

/-- A []int that came in. -/
structure IL where
  A : Option Addr
  c : Nat
  l : List Int
def icell (x : Int) : Value := .int .i64 x
def IL.val (s : IL) : Value := .slice s.A s.l.length s.c
def IL.In (B : Nat) (w : World) (s : IL) : Prop := s.l.length ≤ s.c ∧ s.c ≤ 9223372036854775807 ∧ RowAt w B 1 s.A s.l.length (s.l.map icell)
/-- A [][2]int that came in. -/
structure PL where
  A : Option Addr
  c : Nat
  l : List (Int × Int)
def pcells (p : Int × Int) : List Value := [.int .i64 p.1, .int .i64 p.2]
def PL.val (s : PL) : Value := .slice s.A s.l.length s.c
def PL.In (B : Nat) (w : World) (s : PL) : Prop := s.l.length ≤ s.c ∧ s.c ≤ 9223372036854775807 ∧ RowAt w B 2 s.A s.l.length (s.l.flatMap pcells)
/-- api.Interp, as it lies. -/
structure IN where
  size : Int
  CA : Option Addr
  cc : Nat
  C : List IL
  RA : Option Addr
  rc : Nat
  R : List PL
  I : IL
def IN.cells (i : IN) : Array Value := #[.int .i64 i.size, .slice i.CA i.C.length i.cc, .slice i.RA i.R.length i.rc, .slice i.I.A i.I.l.length i.I.c]
def IN.val (i : IN) : Value := .agg #[.int .i64 i.size, .slice i.CA i.C.length i.cc, .slice i.RA i.R.length i.rc, .slice i.I.A i.I.l.length i.I.c]
structure IN.In (B : Nat) (w : World) (i : IN) : Prop where
  c1 : i.C.length ≤ i.cc
  c2 : i.cc ≤ 9223372036854775807
  c3 : RowAt w B 1 i.CA i.C.length (i.C.map IL.val)
  c4 : ∀ s ∈ i.C, s.In B w
  r1 : i.R.length ≤ i.rc
  r2 : i.rc ≤ 9223372036854775807
  r3 : RowAt w B 1 i.RA i.R.length (i.R.map PL.val)
  r4 : ∀ s ∈ i.R, s.In B w
  i1 : i.I.In B w
theorem IL.In.below {B B' : Nat} {w w' : World} {s : IL} (h : s.In B w) (hB : B ≤ B') (hb : Below B w w') : s.In B' w' := ⟨h.1, h.2.1, h.2.2.below hB hb⟩
theorem PL.In.below {B B' : Nat} {w w' : World} {s : PL} (h : s.In B w) (hB : B ≤ B') (hb : Below B w w') : s.In B' w' := ⟨h.1, h.2.1, h.2.2.below hB hb⟩
theorem IN.In.below {B B' : Nat} {w w' : World} {i : IN} (h : i.In B w) (hB : B ≤ B') (hb : Below B w w') : i.In B' w' :=
  ⟨h.c1, h.c2, h.c3.below hB hb, fun s hs => (h.c4 s hs).below hB hb, h.r1, h.r2, h.r3.below hB hb, fun s hs => (h.r4 s hs).below hB hb, h.i1.below hB hb⟩
theorem IN.In.later {w w' : World} {i : IN} (h : i.In w.heap.size w) (hb : Below w.heap.size w w') : i.In w'.heap.size w' := h.below hb.size hb

theorem IL.In.cells {B : Nat} {w : World} {s : IL} (h : s.In B w) (hne : s.l.length ≠ 0) : ∃ b off, s.A = some ⟨b, off, none⟩ ∧ b < B ∧ ∀ j (hj : j < s.l.length), w.cell? ⟨b, off + j, none⟩ = some (.int .i64 s.l[j]) := by
  obtain ⟨b, off, hA, hb, hc⟩ := h.2.2.2 hne
  refine ⟨b, off, hA, hb, fun j hj => ?_⟩
  rw [hc j (by omega), List.getElem?_map, List.getElem?_eq_getElem hj]; rfl
theorem pcells_at : ∀ (l : List (Int × Int)) (k : Nat) (hk : k < l.length), (l.flatMap pcells)[2 * k]? = some (.int .i64 l[k].1) ∧ (l.flatMap pcells)[2 * k + 1]? = some (.int .i64 l[k].2)
  | [], k, hk => absurd hk (Nat.not_lt_zero _)
  | t :: ts, k, hk => by
    cases k with
    | zero => exact ⟨rfl, rfl⟩
    | succ k => exact pcells_at ts k (by simpa using hk)
theorem PL.In.cells {B : Nat} {w : World} {s : PL} (h : s.In B w) (hne : s.l.length ≠ 0) : ∃ b off, s.A = some ⟨b, off, none⟩ ∧ b < B ∧ ∀ j (hj : j < s.l.length), w.cell? ⟨b, off + j * 2, none⟩ = some (.int .i64 s.l[j].1) ∧ w.cell? ⟨b, off + j * 2 + 1, none⟩ = some (.int .i64 s.l[j].2) := by
  obtain ⟨b, off, hA, hb, hc⟩ := h.2.2.2 hne
  refine ⟨b, off, hA, hb, fun j hj => ?_⟩
  obtain ⟨e0, e1⟩ := pcells_at s.l j hj
  refine ⟨?_, ?_⟩
  · rw [hc _ (by omega), Nat.mul_comm j 2]; exact e0
  · rw [Nat.add_assoc, hc _ (by omega), Nat.mul_comm j 2]; exact e1
theorem RowAt.vals {α : Type} {B : Nat} {w : World} {A : Option Addr} {f : α → Value} {l : List α} (h : RowAt w B 1 A l.length (l.map f)) (hne : l.length ≠ 0) : ∃ b off, A = some ⟨b, off, none⟩ ∧ b < B ∧ ∀ j (hj : j < l.length), w.cell? ⟨b, off + j, none⟩ = some (f l[j]) := by
  obtain ⟨b, off, hA, hb, hc⟩ := h.2 hne
  refine ⟨b, off, hA, hb, fun j hj => ?_⟩
  rw [hc j (by omega), List.getElem?_map, List.getElem?_eq_getElem hj]; rfl

def foreignB (n x : Int) : Bool := decide (x < 0) || decide (n ≤ x)
def ascG {α : Type} (lt : α → α → Bool) : List α → Bool
  | x :: y :: r => lt x y && ascG lt (y :: r)
  | _ => true
theorem ascG_iff {α : Type} {lt : α → α → Bool} : ∀ {l : List α}, ascG lt l = true ↔ ∀ j (h : j + 1 < l.length), lt l[j] l[j + 1] = true
  | [] => ⟨fun _ j h => absurd h (by simp), fun _ => rfl⟩
  | [_] => ⟨fun _ j h => absurd h (by simp), fun _ => rfl⟩
  | x :: y :: r => by
    rw [ascG, Bool.and_eq_true, ascG_iff]
    constructor
    · rintro ⟨h1, h2⟩ j hj
      cases j with
      | zero => exact h1
      | succ j => exact h2 j (by simpa using hj)
    · intro h
      exact ⟨h 0 (by simp), fun j hj => h (j + 1) (by simpa using hj)⟩
def ltI (x y : Int) : Bool := decide (x < y)
def ltP (p q : Int × Int) : Bool := decide (p.1 < q.1) || (decide (p.1 = q.1) && decide (p.2 < q.2))

/-- An interpretation in its box. -/
def IBox (w : World) (b : Nat) (i : IN) : Prop := w.heap[b]? = some (.cells #[.int .i64 i.size, .slice i.CA i.C.length i.cc, .slice i.RA i.R.length i.rc, .slice i.I.A i.I.l.length i.I.c] 58)

set_option maxRecDepth 100000 in
set_option maxHeartbeats 1000000 in
theorem foreign_any (i : IN) (b : Nat) (x : Int) (w : World) (hb : IBox w b i) : Calls Tryd.prog 131 #[.int .i64 x, .pointer (some ⟨b, 0, none⟩)] w fun e w' => e = .returned (.bool (foreignB i.size x)) ∧ w' = w := by
  have c0 := cell_of_blk hb 0
  simp only [List.getElem?_toArray, List.getElem?_cons_zero] at c0
  unfold foreignB
  by_cases h : x < 0
  · rw [decide_eq_true h]
    have h1 : decide (x < 0) = true := decide_eq_true h
    go_enter Tryd.func131, Tryd.ntmps131
    go_wp2
    go_ret
    exact ⟨rfl, rfl⟩
  · rw [decide_eq_false h]
    have h1 : decide (x < 0) = false := decide_eq_false h
    go_enter Tryd.func131, Tryd.ntmps131
    go_wp2
    go_ret
    exact ⟨by simp, rfl⟩

set_option maxRecDepth 100000 in
set_option maxHeartbeats 1000000 in
theorem foreign2_any (i : IN) (b bf : Nat) (p : Int × Int) (w : World) (hb : IBox w b i) (hf : w.heap[bf]? = some (.cells #[.func (.func 131) #[] #[.pointer (some ⟨b, 0, none⟩)]] 135)) :
    Calls Tryd.prog 132 #[.agg #[.int .i64 p.1, .int .i64 p.2], .pointer (some ⟨bf, 0, none⟩)] w fun e w' => e = .returned (.bool (foreignB i.size p.1 || foreignB i.size p.2)) ∧ Below w.heap.size w w' := by
  obtain ⟨W1, hW1, hB1, hs1, hk1⟩ := newBlk w _ rfl #[.int .i64 p.1, .int .i64 p.2] 68
  have c0 := cell_of_blk hk1 0
  have c1 := cell_of_blk hk1 1
  have d0 := cell_of_blk (blk_lat hf hB1) 0
  simp only [List.getElem?_toArray, List.getElem?_cons_zero, List.getElem?_cons_succ] at c0 c1 d0
  have hf1 := foreign_any i b p.1 W1 (blk_lat hb hB1)
  have hf2 := foreign_any i b p.2 W1 (blk_lat hb hB1)
  obtain ⟨x, y⟩ := p
  dsimp only at *
  rcases h : foreignB i.size x
  · rw [h] at hf1
    go_enter Tryd.func132, Tryd.ntmps132
    go_wp2_with (go_at_call 131; first | (refine hf1.mono ?_; clear hf1; rintro e w' ⟨rfl, rfl⟩) | (refine hf2.mono ?_; clear hf2; rintro e w' ⟨rfl, rfl⟩))
    go_ret
    exact ⟨by simp, hB1⟩
  · rw [h] at hf1
    go_enter Tryd.func132, Tryd.ntmps132
    go_wp2_with (go_at_call 131; refine hf1.mono ?_; rintro e w' ⟨rfl, rfl⟩)
    go_ret
    exact ⟨by simp, hB1⟩
end Go.Proofs.YtnkkpjgclekobaaDoor
