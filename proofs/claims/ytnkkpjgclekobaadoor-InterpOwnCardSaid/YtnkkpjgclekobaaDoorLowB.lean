import Derived.Test.YtnkkpjgclekobaaDoorLow3
import Derived.Test.YtnkkpjgclekobaaDoorBData
namespace Go.Proofs.YtnkkpjgclekobaaDoor
open Go.ChangeShapes Go.WideShapes Go.ChangeAt Go.WideElems Go.RowKit

theorem mapM_at {α β : Type} {f : α → Option β} : ∀ {l : List α} {ys : List β}, l.mapM f = some ys → ys.length = l.length ∧ ∀ j (h : j < l.length), f l[j] = ys[j]?
  | [], ys, h => by
    simp at h
    subst h
    exact ⟨rfl, fun j hj => absurd hj (Nat.not_lt_zero _)⟩
  | x :: l, ys, h => by
    rw [List.mapM_cons] at h
    obtain ⟨y, hy, h2⟩ := Option.bind_eq_some_iff.1 h
    obtain ⟨zs, hz, h3⟩ := Option.bind_eq_some_iff.1 h2
    cases h3
    obtain ⟨k1, k2⟩ := mapM_at hz
    refine ⟨by simp [k1], fun j hj => ?_⟩
    cases j with
    | zero => simpa using hy
    | succ j => simpa using k2 j (by simpa using hj)
theorem cellsN {W : World} {base : Nat} {a : Addr} {n : Nat} {cs : List Value} (h : W.cells? base a n = some cs) : cs.length = n ∧ ∀ j, j < n → W.cell? (a.add j) = cs[j]? := by
  unfold World.cells? at h
  split at h
  · obtain ⟨h1, h2⟩ := mapM_at h
    rw [List.length_range] at h1
    refine ⟨h1, fun j hj => ?_⟩
    have h3 := h2 j (by rw [List.length_range]; exact hj)
    rw [List.getElem_range] at h3
    exact h3
  · cases h
section
variable {H : Type} {enc : TypeId × Value → H} {W : World} {base : Nat} {sp : Nat → Bool} {held : Bool}
theorem int_at {n : Nat} {c : Value} {y : DataW H × List MemPlace} (h : DataW.trod enc Tryd.prog W base sp held n 3 [c] = some y) : ∃ k : Int, c = .int .i64 k := by
  obtain ⟨k, e, -⟩ := DataW.trod_int Tryd.underlying3 h
  cases e
  exact ⟨k, rfl⟩
set_option maxRecDepth 100000 in
theorem open_roles {fuel : Nat} {cs : List Value} {x : DataW H × List MemPlace} (h : DataW.trod enc Tryd.prog W base sp held fuel 50 cs = some x) : ∃ s : PL, cs = [s.val] ∧ s.In W.heap.size W := by
  have c3 : Tryd.prog.cellsOf 3 = 1 := by kernel_rfl
  have c2 : Tryd.prog.cellsOf 126 = 2 := by kernel_rfl
  obtain ⟨A, c, l, rfl, h1, h2, h3, -⟩ := open_rowG (α := Int × Int) (f := pcells) (R := fun _ => True) (sz := 2) Tryd.underlying50 c2 (by omega) (fun a cs h => cellsN h) (fun _ => rfl)
    (fun m cs x hx => by
      obtain ⟨xs, n, -, -, hl, hlen, hf⟩ := DataW.trod_struct Tryd.underlying126 hx
      rw [c2] at hl
      obtain ⟨a, b, rfl⟩ : ∃ a b, cs = [a, b] := by
        match cs, hl with
        | [a, b], _ => exact ⟨a, b, rfl⟩
      obtain ⟨x0, x1, rfl⟩ : ∃ a b, xs = [a, b] := by
        match xs, hlen with
        | [a, b], _ => exact ⟨a, b, rfl⟩
      have f0 := hf 0 _ rfl
      have f1 := hf 1 _ rfl
      simp only [c3, List.drop_zero, List.drop_succ_cons, List.take_succ_cons, List.take_zero, List.getElem?_cons_zero, List.getElem?_cons_succ] at f0 f1
      obtain ⟨k0, rfl⟩ := int_at f0
      obtain ⟨k1, rfl⟩ := int_at f1
      exact ⟨(k0, k1), rfl, trivial⟩) h
  exact ⟨⟨A, c, l⟩, rfl, h1, h2, h3⟩
set_option maxRecDepth 100000 in
theorem open_links {fuel : Nat} {cs : List Value} {x : DataW H × List MemPlace} (h : DataW.trod enc Tryd.prog W base sp held fuel 52 cs = some x) : ∃ s : TL, cs = [.slice s.A s.l.length s.c] ∧ s.l.length ≤ s.c ∧ s.c ≤ 9223372036854775807 ∧ RowAt W W.heap.size 3 s.A s.l.length (s.l.flatMap tcells) := by
  have c3 : Tryd.prog.cellsOf 3 = 1 := by kernel_rfl
  have c2 : Tryd.prog.cellsOf 128 = 3 := by kernel_rfl
  obtain ⟨A, c, l, rfl, h1, h2, h3, -⟩ := open_rowG (α := Int × Int × Int) (f := tcells) (R := fun _ => True) (sz := 3) Tryd.underlying52 c2 (by omega) (fun a cs h => cellsN h) (fun _ => rfl)
    (fun m cs x hx => by
      obtain ⟨xs, n, -, -, hl, hlen, hf⟩ := DataW.trod_struct Tryd.underlying128 hx
      rw [c2] at hl
      obtain ⟨a, b, d, rfl⟩ : ∃ a b d, cs = [a, b, d] := by
        match cs, hl with
        | [a, b, d], _ => exact ⟨a, b, d, rfl⟩
      obtain ⟨x0, x1, x2, rfl⟩ : ∃ a b d, xs = [a, b, d] := by
        match xs, hlen with
        | [a, b, d], _ => exact ⟨a, b, d, rfl⟩
      have f0 := hf 0 _ rfl
      have f1 := hf 1 _ rfl
      have f2 := hf 2 _ rfl
      simp only [c3, List.drop_zero, List.drop_succ_cons, List.take_succ_cons, List.take_zero, List.getElem?_cons_zero, List.getElem?_cons_succ] at f0 f1 f2
      obtain ⟨k0, rfl⟩ := int_at f0
      obtain ⟨k1, rfl⟩ := int_at f1
      obtain ⟨k2, rfl⟩ := int_at f2
      exact ⟨(k0, k1, k2), rfl, trivial⟩) h
  exact ⟨⟨A, c, l⟩, rfl, h1, h2, h3⟩
set_option maxRecDepth 100000 in
theorem open_facts {fuel : Nat} {cs : List Value} {x : DataW H × List MemPlace} (h : DataW.trod enc Tryd.prog W base sp held fuel 51 cs = some x) : ∃ (A : Option Addr) (c : Nat) (l : List (Int × MT)), cs = [.slice A l.length c] ∧ l.length ≤ c ∧ c ≤ 9223372036854775807 ∧ RowAt W W.heap.size 4 A l.length (l.flatMap fcells) ∧ ∀ z ∈ l, z.2.In W.heap.size W := by
  have c3 : Tryd.prog.cellsOf 3 = 1 := by kernel_rfl
  have c27 : Tryd.prog.cellsOf 27 = 3 := by kernel_rfl
  have c2 : Tryd.prog.cellsOf 104 = 4 := by kernel_rfl
  exact open_rowG (α := Int × MT) (f := fcells) (R := fun z => z.2.In W.heap.size W) (sz := 4) Tryd.underlying51 c2 (by omega) (fun a cs h => cellsN h) (fun _ => rfl)
    (fun m cs x hx => by
      obtain ⟨xs, n, -, -, hl, hlen, hf⟩ := DataW.trod_struct Tryd.underlying104 hx
      rw [c2] at hl
      obtain ⟨a, b, d, e, rfl⟩ : ∃ a b d e, cs = [a, b, d, e] := by
        match cs, hl with
        | [a, b, d, e], _ => exact ⟨a, b, d, e, rfl⟩
      obtain ⟨x0, x1, rfl⟩ : ∃ a b, xs = [a, b] := by
        match xs, hlen with
        | [a, b], _ => exact ⟨a, b, rfl⟩
      have f0 := hf 0 _ rfl
      have f1 := hf 1 _ rfl
      simp only [c3, c27, List.drop_zero, List.drop_succ_cons, List.take_succ_cons, List.take_zero, List.getElem?_cons_zero, List.getElem?_cons_succ] at f0 f1
      obtain ⟨k0, rfl⟩ := int_at f0
      obtain ⟨T, hT, hin⟩ := open_tree _ _ _ f1
      simp only [MT.cs, List.cons.injEq, and_true] at hT
      obtain ⟨rfl, rfl, rfl⟩ := hT
      exact ⟨(k0, T), rfl, hin⟩) h
set_option maxRecDepth 100000 in
theorem open_incls {fuel : Nat} {cs : List Value} {x : DataW H × List MemPlace} (h : DataW.trod enc Tryd.prog W base sp held fuel 49 cs = some x) : ∃ (A : Option Addr) (c : Nat) (l : List (MT × MT)), cs = [.slice A l.length c] ∧ l.length ≤ c ∧ c ≤ 9223372036854775807 ∧ RowAt W W.heap.size 6 A l.length (l.flatMap ucells) ∧ ∀ z ∈ l, z.1.In W.heap.size W ∧ z.2.In W.heap.size W := by
  have c27 : Tryd.prog.cellsOf 27 = 3 := by kernel_rfl
  have c2 : Tryd.prog.cellsOf 102 = 6 := by kernel_rfl
  exact open_rowG (α := MT × MT) (f := ucells) (R := fun z => z.1.In W.heap.size W ∧ z.2.In W.heap.size W) (sz := 6) Tryd.underlying49 c2 (by omega) (fun a cs h => cellsN h) (fun _ => rfl)
    (fun m cs x hx => by
      obtain ⟨xs, n, -, -, hl, hlen, hf⟩ := DataW.trod_struct Tryd.underlying102 hx
      rw [c2] at hl
      obtain ⟨a, b, d, e, f, g, rfl⟩ : ∃ a b d e f g, cs = [a, b, d, e, f, g] := by
        match cs, hl with
        | [a, b, d, e, f, g], _ => exact ⟨a, b, d, e, f, g, rfl⟩
      obtain ⟨x0, x1, rfl⟩ : ∃ a b, xs = [a, b] := by
        match xs, hlen with
        | [a, b], _ => exact ⟨a, b, rfl⟩
      have f0 := hf 0 _ rfl
      have f1 := hf 1 _ rfl
      simp only [c27, List.drop_zero, List.drop_succ_cons, List.take_succ_cons, List.take_zero, List.getElem?_cons_zero, List.getElem?_cons_succ] at f0 f1
      obtain ⟨T, hT, hin⟩ := open_tree _ _ _ f0
      obtain ⟨D, hD, hin2⟩ := open_tree _ _ _ f1
      simp only [MT.cs, List.cons.injEq, and_true] at hT hD
      obtain ⟨rfl, rfl, rfl⟩ := hT
      obtain ⟨rfl, rfl, rfl⟩ := hD
      exact ⟨(T, D), rfl, hin, hin2⟩) h
set_option maxRecDepth 100000 in
/-- A knowledge base that came in. -/
theorem open_base {b0 : Nat} {v : Value} {d : DataW H} {p : List MemPlace} (hval : Value.okWide Tryd.prog W .any b0 54 v) (h : DataW.Trod enc Tryd.prog W base sp held 54 v d p) : ∃ b : BN, v = b.val ∧ b.In W.heap.size W := by
  have c7 : Tryd.prog.cellsOf 54 = 7 := by kernel_rfl
  have cN : Tryd.prog.cellsOf 24 = 3 := by kernel_rfl
  have cI : Tryd.prog.cellsOf 49 = 1 := by kernel_rfl
  have cR : Tryd.prog.cellsOf 50 = 1 := by kernel_rfl
  have cF : Tryd.prog.cellsOf 51 = 1 := by kernel_rfl
  have cL : Tryd.prog.cellsOf 52 = 1 := by kernel_rfl
  have cS : Tryd.prog.cellsOf 22 = 1 := by kernel_rfl
  obtain ⟨cs, rfl, hsz⟩ := okWide_struct Tryd.underlying54 hval
  rw [c7] at hsz
  obtain ⟨n0, n1, n2, v1, v2, v3, v4, rfl⟩ : ∃ a b c d e f g, cs = #[a, b, c, d, e, f, g] := by
    obtain ⟨l⟩ := cs
    match l, hsz with
    | [a, b, c, d, e, f, g], _ => exact ⟨a, b, c, d, e, f, g, rfl⟩
  obtain ⟨fuel, hf0⟩ := h
  have hcs : (Value.agg #[n0, n1, n2, v1, v2, v3, v4]).cells.toList = [n0, n1, n2, v1, v2, v3, v4] := by simp [Value.cells]
  rw [hcs] at hf0
  obtain ⟨xs, n, -, -, -, hlen, hf⟩ := DataW.trod_struct Tryd.underlying54 hf0
  obtain ⟨x0, x1, x2, x3, x4, rfl⟩ : ∃ a b c d e, xs = [a, b, c, d, e] := by
    match xs, hlen with
    | [a, b, c, d, e], _ => exact ⟨a, b, c, d, e, rfl⟩
  have f0 := hf 0 _ rfl
  have f1 := hf 1 _ rfl
  have f2 := hf 2 _ rfl
  have f3 := hf 3 _ rfl
  have f4 := hf 4 _ rfl
  simp only [cN, cI, cR, cF, cL, List.drop_zero, List.drop_succ_cons, List.take_succ_cons, List.take_zero, List.getElem?_cons_zero, List.getElem?_cons_succ] at f0 f1 f2 f3 f4
  obtain ⟨IA, ic, I, e1, i1, i2, i3, i4⟩ := open_incls f1
  obtain ⟨R, e2, r1⟩ := open_roles f2
  obtain ⟨FA, fc, F, e3, g1, g2, g3, g4⟩ := open_facts f3
  obtain ⟨L, e4, l1, l2, l3⟩ := open_links f4
  obtain ⟨ys, m, -, -, -, hlen2, hg⟩ := DataW.trod_struct Tryd.underlying24 f0
  obtain ⟨y0, y1, y2, rfl⟩ : ∃ a b c, ys = [a, b, c] := by
    match ys, hlen2 with
    | [a, b, c], _ => exact ⟨a, b, c, rfl⟩
  have k0 := hg 0 _ rfl
  have k1 := hg 1 _ rfl
  have k2 := hg 2 _ rfl
  simp only [cS, List.drop_zero, List.drop_succ_cons, List.take_succ_cons, List.take_zero, List.getElem?_cons_zero, List.getElem?_cons_succ] at k0 k1 k2
  obtain ⟨s0, z0, j0⟩ := open_sl k0
  obtain ⟨s1, z1, j1⟩ := open_sl k1
  obtain ⟨s2, z2, j2⟩ := open_sl k2
  cases e1
  cases e2
  cases e3
  cases e4
  cases z0
  cases z1
  cases z2
  exact ⟨⟨⟨s0, s1, s2⟩, IA, ic, I, R, FA, fc, F, L⟩, rfl, ⟨⟨j0, j1, j2⟩, i1, i2, i3, i4, r1, g1, g2, g3, g4, l1, l2, l3⟩⟩
end
end Go.Proofs.YtnkkpjgclekobaaDoor
