import Derived.Test.YtndkcimajeofcaaGreatDoorGabfb6b4abd
import Derived.Test.YtndkcimajeofcaaGreatDoorG506e8cf509
namespace Go.Proofs.YtndkcimajeofcaaGreatDoor
open Go.ChangeShapes Go.WideShapes Go.ChangeAt Go.WideElems Go.RowKit

theorem mapM_at {α β : Type} {f : α → Option β} : ∀ {l : List α} {ys : List β}, l.mapM f = some ys → ys.length = l.length ∧ ∀ j (h : j < l.length), f l[j] = ys[j]?
  | [], ys, h => by
    simp at h
    subst h
    exact ⟨rfl, fun j hj => absurd hj (Nat.not_lt_zero _)⟩
  | x :: l, ys, h => by
    rw [List.mapM_cons] at h
    obtain ⟨y, hy, h2⟩ := Option.bind_eq_some_iff.1 h
    obtain ⟨zs, hz, h3⟩ := Option.bind_eq_some_iff.1 h2
    cases h3
    obtain ⟨k1, k2⟩ := mapM_at hz
    refine ⟨by simp [k1], fun j hj => ?_⟩
    cases j with
    | zero => simpa using hy
    | succ j => simpa using k2 j (by simpa using hj)
theorem cellsN {W : World} {base : Nat} {a : Addr} {n : Nat} {cs : List Value} (h : W.cells? base a n = some cs) : cs.length = n ∧ ∀ j, j < n → W.cell? (a.add j) = cs[j]? := by
  unfold World.cells? at h
  split at h
  · obtain ⟨h1, h2⟩ := mapM_at h
    rw [List.length_range] at h1
    refine ⟨h1, fun j hj => ?_⟩
    have h3 := h2 j (by rw [List.length_range]; exact hj)
    rw [List.getElem_range] at h3
    exact h3
  · cases h
section
variable {H : Type} {enc : TypeId × Value → H} {W : World} {base : Nat} {sp : Nat → Bool} {held : Bool}
theorem int_at {n : Nat} {c : Value} {y : DataW H × List MemPlace} (h : DataW.trod enc Tryz.prog W base sp held n 3 [c] = some y) : ∃ k : Int, c = .int .i64 k := by
  obtain ⟨k, e, -⟩ := DataW.trod_int Tryz.underlying3 h
  cases e
  exact ⟨k, rfl⟩
set_option maxRecDepth 100000 in
theorem open_roles {fuel : Nat} {cs : List Value} {x : DataW H × List MemPlace} (h : DataW.trod enc Tryz.prog W base sp held fuel 26 cs = some x) : ∃ s : PL, cs = [s.val] ∧ s.In W.heap.size W := by
  have c3 : Tryz.prog.cellsOf 3 = 1 := by kernel_rfl
  have c2 : Tryz.prog.cellsOf 94 = 2 := by kernel_rfl
  obtain ⟨A, c, l, rfl, h1, h2, h3, -⟩ := open_rowG (α := Int × Int) (f := pcells) (R := fun _ => True) (sz := 2) Tryz.underlying26 c2 (by omega) (fun a cs h => cellsN h) (fun _ => rfl)
    (fun m cs x hx => by
      obtain ⟨xs, n, -, -, hl, hlen, hf⟩ := DataW.trod_struct Tryz.underlying94 hx
      rw [c2] at hl
      obtain ⟨a, b, rfl⟩ : ∃ a b, cs = [a, b] := by
        match cs, hl with
        | [a, b], _ => exact ⟨a, b, rfl⟩
      obtain ⟨x0, x1, rfl⟩ : ∃ a b, xs = [a, b] := by
        match xs, hlen with
        | [a, b], _ => exact ⟨a, b, rfl⟩
      have f0 := hf 0 _ rfl
      have f1 := hf 1 _ rfl
      simp only [List.getElem?_cons_zero, List.getElem?_cons_succ] at f0 f1
      obtain ⟨k0, rfl⟩ := int_at f0
      obtain ⟨k1, rfl⟩ := int_at f1
      exact ⟨(k0, k1), rfl, trivial⟩) h
  exact ⟨⟨A, c, l⟩, rfl, h1, h2, h3⟩
set_option maxRecDepth 100000 in
theorem open_links {fuel : Nat} {cs : List Value} {x : DataW H × List MemPlace} (h : DataW.trod enc Tryz.prog W base sp held fuel 28 cs = some x) : ∃ s : TL, cs = [.slice s.A s.l.length s.c] ∧ s.l.length ≤ s.c ∧ s.c ≤ 9223372036854775807 ∧ RowAt W W.heap.size 3 s.A s.l.length (s.l.flatMap tcells) := by
  have c3 : Tryz.prog.cellsOf 3 = 1 := by kernel_rfl
  have c2 : Tryz.prog.cellsOf 98 = 3 := by kernel_rfl
  obtain ⟨A, c, l, rfl, h1, h2, h3, -⟩ := open_rowG (α := Int × Int × Int) (f := tcells) (R := fun _ => True) (sz := 3) Tryz.underlying28 c2 (by omega) (fun a cs h => cellsN h) (fun _ => rfl)
    (fun m cs x hx => by
      obtain ⟨xs, n, -, -, hl, hlen, hf⟩ := DataW.trod_struct Tryz.underlying98 hx
      rw [c2] at hl
      obtain ⟨a, b, d, rfl⟩ : ∃ a b d, cs = [a, b, d] := by
        match cs, hl with
        | [a, b, d], _ => exact ⟨a, b, d, rfl⟩
      obtain ⟨x0, x1, x2, rfl⟩ : ∃ a b d, xs = [a, b, d] := by
        match xs, hlen with
        | [a, b, d], _ => exact ⟨a, b, d, rfl⟩
      have f0 := hf 0 _ rfl
      have f1 := hf 1 _ rfl
      have f2 := hf 2 _ rfl
      simp only [List.getElem?_cons_zero, List.getElem?_cons_succ] at f0 f1 f2
      obtain ⟨k0, rfl⟩ := int_at f0
      obtain ⟨k1, rfl⟩ := int_at f1
      obtain ⟨k2, rfl⟩ := int_at f2
      exact ⟨(k0, k1, k2), rfl, trivial⟩) h
  exact ⟨⟨A, c, l⟩, rfl, h1, h2, h3⟩
set_option maxRecDepth 100000 in
theorem open_facts {fuel : Nat} {cs : List Value} {x : DataW H × List MemPlace} (h : DataW.trod enc Tryz.prog W base sp held fuel 27 cs = some x) : ∃ (A : Option Addr) (c : Nat) (l : List (Int × MT)), cs = [.slice A l.length c] ∧ l.length ≤ c ∧ c ≤ 9223372036854775807 ∧ RowAt W W.heap.size 4 A l.length (l.flatMap fcells) ∧ ∀ z ∈ l, z.2.In W.heap.size W := by
  have c3 : Tryz.prog.cellsOf 3 = 1 := by kernel_rfl
  have c27 : Tryz.prog.cellsOf 33 = 3 := by kernel_rfl
  have c2 : Tryz.prog.cellsOf 96 = 4 := by kernel_rfl
  exact open_rowG (α := Int × MT) (f := fcells) (R := fun z => z.2.In W.heap.size W) (sz := 4) Tryz.underlying27 c2 (by omega) (fun a cs h => cellsN h) (fun _ => rfl)
    (fun m cs x hx => by
      obtain ⟨xs, n, -, -, hl, hlen, hf⟩ := DataW.trod_struct Tryz.underlying96 hx
      rw [c2] at hl
      obtain ⟨a, b, d, e, rfl⟩ : ∃ a b d e, cs = [a, b, d, e] := by
        match cs, hl with
        | [a, b, d, e], _ => exact ⟨a, b, d, e, rfl⟩
      obtain ⟨x0, x1, rfl⟩ : ∃ a b, xs = [a, b] := by
        match xs, hlen with
        | [a, b], _ => exact ⟨a, b, rfl⟩
      have f0 := hf 0 _ rfl
      have f1 := hf 1 _ rfl
      simp only [List.getElem?_cons_zero, List.getElem?_cons_succ] at f0 f1
      obtain ⟨k0, rfl⟩ := int_at f0
      obtain ⟨T, hT, hin⟩ := open_tree _ _ _ f1
      simp only [MT.cs] at hT
      obtain ⟨rfl, rfl, rfl⟩ := hT
      exact ⟨(k0, T), rfl, hin⟩) h
set_option maxRecDepth 100000 in
theorem open_incls {fuel : Nat} {cs : List Value} {x : DataW H × List MemPlace} (h : DataW.trod enc Tryz.prog W base sp held fuel 25 cs = some x) : ∃ (A : Option Addr) (c : Nat) (l : List (MT × MT)), cs = [.slice A l.length c] ∧ l.length ≤ c ∧ c ≤ 9223372036854775807 ∧ RowAt W W.heap.size 6 A l.length (l.flatMap ucells) ∧ ∀ z ∈ l, z.1.In W.heap.size W ∧ z.2.In W.heap.size W := by
  have c27 : Tryz.prog.cellsOf 33 = 3 := by kernel_rfl
  have c2 : Tryz.prog.cellsOf 111 = 6 := by kernel_rfl
  exact open_rowG (α := MT × MT) (f := ucells) (R := fun z => z.1.In W.heap.size W ∧ z.2.In W.heap.size W) (sz := 6) Tryz.underlying25 c2 (by omega) (fun a cs h => cellsN h) (fun _ => rfl)
    (fun m cs x hx => by
      obtain ⟨xs, n, -, -, hl, hlen, hf⟩ := DataW.trod_struct Tryz.underlying111 hx
      rw [c2] at hl
      obtain ⟨a, b, d, e, f, g, rfl⟩ : ∃ a b d e f g, cs = [a, b, d, e, f, g] := by
        match cs, hl with
        | [a, b, d, e, f, g], _ => exact ⟨a, b, d, e, f, g, rfl⟩
      obtain ⟨x0, x1, rfl⟩ : ∃ a b, xs = [a, b] := by
        match xs, hlen with
        | [a, b], _ => exact ⟨a, b, rfl⟩
      have f0 := hf 0 _ rfl
      have f1 := hf 1 _ rfl
      simp only [List.getElem?_cons_zero, List.getElem?_cons_succ] at f0 f1
      obtain ⟨T, hT, hin⟩ := open_tree _ _ _ f0
      obtain ⟨D, hD, hin2⟩ := open_tree _ _ _ f1
      simp only [MT.cs] at hT hD
      obtain ⟨rfl, rfl, rfl⟩ := hT
      obtain ⟨rfl, rfl, rfl⟩ := hD
      exact ⟨(T, D), rfl, hin, hin2⟩) h
set_option maxRecDepth 100000 in
/-- A knowledge base that came in. -/
theorem open_base {b0 : Nat} {v : Value} {d : DataW H} {p : List MemPlace} (hval : Value.okWide Tryz.prog W .any b0 30 v) (h : DataW.Trod enc Tryz.prog W base sp held 30 v d p) : ∃ b : BN, v = b.val ∧ b.In W.heap.size W := by
  have c7 : Tryz.prog.cellsOf 30 = 7 := by kernel_rfl
  have cN : Tryz.prog.cellsOf 24 = 3 := by kernel_rfl
  have cI : Tryz.prog.cellsOf 25 = 1 := by kernel_rfl
  have cR : Tryz.prog.cellsOf 26 = 1 := by kernel_rfl
  have cF : Tryz.prog.cellsOf 27 = 1 := by kernel_rfl
  have cL : Tryz.prog.cellsOf 28 = 1 := by kernel_rfl
  have cS : Tryz.prog.cellsOf 22 = 1 := by kernel_rfl
  obtain ⟨cs, rfl, hsz⟩ := okWide_struct Tryz.underlying30 hval
  rw [c7] at hsz
  obtain ⟨n0, n1, n2, v1, v2, v3, v4, rfl⟩ : ∃ a b c d e f g, cs = #[a, b, c, d, e, f, g] := by
    obtain ⟨l⟩ := cs
    match l, hsz with
    | [a, b, c, d, e, f, g], _ => exact ⟨a, b, c, d, e, f, g, rfl⟩
  obtain ⟨fuel, hf0⟩ := h
  have hcs : (Value.agg #[n0, n1, n2, v1, v2, v3, v4]).cells.toList = [n0, n1, n2, v1, v2, v3, v4] := by simp [Value.cells]
  rw [hcs] at hf0
  obtain ⟨xs, n, -, -, -, hlen, hf⟩ := DataW.trod_struct Tryz.underlying30 hf0
  obtain ⟨x0, x1, x2, x3, x4, rfl⟩ : ∃ a b c d e, xs = [a, b, c, d, e] := by
    match xs, hlen with
    | [a, b, c, d, e], _ => exact ⟨a, b, c, d, e, rfl⟩
  have f0 := hf 0 _ rfl
  have f1 := hf 1 _ rfl
  have f2 := hf 2 _ rfl
  have f3 := hf 3 _ rfl
  have f4 := hf 4 _ rfl
  simp only [List.getElem?_cons_zero, List.getElem?_cons_succ] at f0 f1 f2 f3 f4
  obtain ⟨IA, ic, I, e1, i1, i2, i3, i4⟩ := open_incls f1
  obtain ⟨R, e2, r1⟩ := open_roles f2
  obtain ⟨FA, fc, F, e3, g1, g2, g3, g4⟩ := open_facts f3
  obtain ⟨L, e4, l1, l2, l3⟩ := open_links f4
  obtain ⟨ys, m, -, -, -, hlen2, hg⟩ := DataW.trod_struct Tryz.underlying24 f0
  obtain ⟨y0, y1, y2, rfl⟩ : ∃ a b c, ys = [a, b, c] := by
    match ys, hlen2 with
    | [a, b, c], _ => exact ⟨a, b, c, rfl⟩
  have k0 := hg 0 _ rfl
  have k1 := hg 1 _ rfl
  have k2 := hg 2 _ rfl
  simp only [List.getElem?_cons_zero, List.getElem?_cons_succ] at k0 k1 k2
  obtain ⟨s0, z0, j0⟩ := open_sl k0
  obtain ⟨s1, z1, j1⟩ := open_sl k1
  obtain ⟨s2, z2, j2⟩ := open_sl k2
  cases e1
  cases e2
  cases e3
  cases e4
  cases z0
  cases z1
  cases z2
  exact ⟨⟨⟨s0, s1, s2⟩, IA, ic, I, R, FA, fc, F, L⟩, rfl, ⟨⟨j0, j1, j2⟩, i1, i2, i3, i4, r1, g1, g2, g3, g4, l1, l2, l3⟩⟩
end
end Go.Proofs.YtndkcimajeofcaaGreatDoor

namespace Go.Proofs.YtndkcimajeofcaaGreatDoor
open Go.ChangeShapes Go.WideShapes Go.ChangeAt Go.WideElems Go.RowKit

theorem weights_mem {H : Type} {P : Program} {e : TypeId} : ∀ {l : List (DataW H)} {d : DataW H} {z : Nat}, d ∈ l → z ∈ d.weights P e → z ∈ DataW.weightsAll P e l
  | [], _, _, h, _ => absurd h (List.not_mem_nil)
  | x :: l, d, z, h, hz => by
    rw [DataW.weightsAll]
    rcases List.mem_cons.1 h with rfl | h
    · exact List.mem_append_left _ hz
    · exact List.mem_append_right _ (weights_mem h hz)
theorem weights_each {H : Type} {P : Program} {R : Nat} : ∀ {ts : List TypeId} {ds : List (DataW H)}, (∀ z ∈ DataW.weightsEach P ts ds, z ≤ R) → ∀ (k : Nat) (t : TypeId) (d : DataW H), ts[k]? = some t → ds[k]? = some d → ∀ z ∈ d.weights P t, z ≤ R
  | [], _, _, _, _, _, ht, _ => by simp at ht
  | _ :: _, [], _, _, _, _, _, hd => by simp at hd
  | t0 :: ts, d0 :: ds, h, k, t, d, ht, hd => by
    rw [DataW.weightsEach] at h
    cases k with
    | zero =>
      simp only [List.getElem?_cons_zero, Option.some.injEq] at ht hd
      subst ht; subst hd
      exact fun z hz => h z (List.mem_append_left _ hz)
    | succ k =>
      simp only [List.getElem?_cons_succ] at ht hd
      exact weights_each (fun z hz => h z (List.mem_append_right _ hz)) k t d ht hd
set_option maxRecDepth 100000 in
/-- A slice that came in, whatever its elements, with its bytes. -/
theorem open_rowW {α : Type} {H : Type} {enc : TypeId × Value → H} {W : World} {base fuel : Nat} {sp : Nat → Bool} {held : Bool} {ts e : TypeId} {sz : Nat} {cs : List Value} {x : DataW H × List MemPlace} {f : α → List Value} {R : α → Prop}
    (hts : Tryz.prog.underlying ts = some (.slice e)) (hce : Tryz.prog.cellsOf e = sz) (h0 : 0 < sz) (hc : ∀ (a : Addr) (cs : List Value), W.cells? base a sz = some cs → cs.length = sz ∧ ∀ j, j < sz → W.cell? (a.add j) = cs[j]?)
    (hl : ∀ a, (f a).length = sz) (hwt : ∀ z ∈ x.1.weights Tryz.prog ts, z ≤ reachBytes) (el : ∀ m cs x, DataW.trod enc Tryz.prog W base sp held m e cs = some x → (∀ z ∈ x.1.weights Tryz.prog e, z ≤ reachBytes) → ∃ a, cs = f a ∧ R a) (h : DataW.trod enc Tryz.prog W base sp held fuel ts cs = some x) :
    ∃ (A : Option Addr) (c : Nat) (l : List α), cs = [.slice A l.length c] ∧ l.length ≤ c ∧ c ≤ 9223372036854775807 ∧ RowAt W W.heap.size sz A l.length (l.flatMap f) ∧ (∀ a ∈ l, R a) ∧ (A = none → c = 0) ∧ l.length * Tryz.prog.bytesOf e ≤ reachBytes := by
  rcases DataW.trod_slice hts h with ⟨e2, -⟩ | ⟨ad, len, cap, elems, rest, m, rfl, e2, hx, -, hlc, hcm, hel, hat, -⟩
  · subst e2
    exact ⟨none, 0, [], rfl, Nat.le_refl _, by omega, RowAt.nil _ _ _ _, by simp, fun _ => rfl, by simp⟩
  · rw [hx, DataW.weights, hts] at hwt
    have hw0 := hwt _ (List.mem_cons_self ..)
    have hwe : ∀ i (h : i < elems.length), ∀ z ∈ elems[i].1.weights Tryz.prog e, z ≤ reachBytes := fun i h z hz => hwt z (List.mem_cons_of_mem _ (List.mem_append_left _ (weights_mem (d := elems[i].1) (List.mem_map_of_mem (List.getElem_mem h)) hz)))
    have each : ∀ i : Fin len, ∃ a : α, W.cells? base (ad.add (i.1 * sz)) sz = some (f a) ∧ R a := fun i => by
      have hi := hat i.1 i.2
      rw [hce, List.getElem?_eq_getElem (by omega), Option.bind_eq_some_iff] at hi
      obtain ⟨cs', hc', ht'⟩ := hi
      obtain ⟨a, rfl, hR⟩ := el _ _ _ ht' (hwe i.1 (by omega))
      exact ⟨a, hc', hR⟩
    have hex : ∃ F : Fin len → α, ∀ i, W.cells? base (ad.add (i.1 * sz)) sz = some (f (F i)) ∧ R (F i) := ⟨fun i => (each i).choose, fun i => (each i).choose_spec⟩
    obtain ⟨F, hF⟩ := hex
    refine ⟨some ad, cap, List.ofFn F, by rw [e2]; simp, by simpa using hlc, hcm, ⟨flatMap_len hl _, fun hne => ?_⟩, fun a ha => ?_, fun h => (by cases h), ?_⟩
    · have hlen0 : 0 < len := by simpa [Nat.pos_iff_ne_zero] using hne
      have hz := (hc _ _ (hF ⟨0, hlen0⟩).1).2 0 h0
      obtain ⟨b, off, spot⟩ := ad
      simp only [Nat.zero_mul, Addr.add, if_true] at hz
      have hz' : ∃ u, W.cell? ⟨b, off, spot⟩ = some u := by
        rw [hz]
        exact ⟨_, List.getElem?_eq_getElem (by rw [hl]; exact h0)⟩
      obtain ⟨u, hu⟩ := hz'
      have hsp : spot = none := by
        cases spot with
        | none => rfl
        | some s => unfold World.cell? at hu; split at hu <;> simp at hu
      subst hsp
      refine ⟨b, off, rfl, ?_, fun j hj => ?_⟩
      · unfold World.cell? at hu
        split at hu
        · rename_i hb; exact (Array.getElem?_eq_some_iff.1 hb).1
        · cases hu
      · have hj' : j < len * sz := by simpa using hj
        have hk : j / sz < len := Nat.div_lt_of_lt_mul (by rw [Nat.mul_comm]; exact hj')
        have hr : j % sz < sz := Nat.mod_lt _ h0
        have hcj := (hc _ _ (hF ⟨j / sz, hk⟩).1).2 (j % sz) hr
        have hfa := flatMap_at hl (List.ofFn F) (j / sz) (j % sz) (by simpa using hk) hr
        have hjj : j / sz * sz + j % sz = j := by rw [Nat.mul_comm]; exact Nat.div_add_mod j sz
        rw [hjj] at hfa
        have hTs : (List.ofFn F)[j / sz]'(by simpa using hk) = F ⟨j / sz, hk⟩ := by simp
        rw [hTs] at hfa
        have ad1 : Addr.add (Addr.add ⟨b, off, none⟩ (j / sz * sz)) (j % sz) = ⟨b, off + j, none⟩ := by
          unfold Addr.add; split <;> split <;> simp_all <;> omega
        simp only [ad1] at hcj
        rw [hcj, hfa]
    · obtain ⟨i, rfl⟩ := List.mem_ofFn.1 ha
      exact (hF i).2
    · rw [List.length_map, hel] at hw0
      rw [List.length_ofFn]
      exact Nat.le_trans (Nat.mul_le_mul_right _ (Nat.le_add_right _ _)) hw0
end Go.Proofs.YtndkcimajeofcaaGreatDoor
