import Derived.Test.YtndkcimajeofcaaGreatDoorGd6d81c1fed
import Derived.Test.YtndkcimajeofcaaGreatDoorG04cc6b632c
import Derived.Test.YtndkcimajeofcaaGreatDoorG6d0a07a3aa
namespace Go.Proofs.YtndkcimajeofcaaGreatDoor
open Go.ChangeShapes Go.WideShapes Go.ChangeAt Go.WideElems Go.RowKit

theorem gWd : Tryz.prog.globalNamed "isagoge/tree.words" = some 3 := by kernel_rfl
theorem gDu : Tryz.prog.globalNamed "isagoge/tree.duals" = some 1 := by kernel_rfl
theorem tWd : (Tryz.prog.globals[3]?).map (·.type) = some 248 := by kernel_rfl
theorem tDu : (Tryz.prog.globals[1]?).map (·.type) = some 205 := by kernel_rfl
theorem strs_of {H : Type} {enc : TypeId × Value → H} {W : World} {fuel : Nat} {g : Nat} {s : String} {sp : Nat → Bool} {held : Bool} {cs : Array Value} {zs : List (List UInt8)} {p : List MemPlace} (hg : Tryz.prog.globalNamed s = some g) (hv : W.var? Tryz.prog s = some cs)
    (h : DataW.trod enc Tryz.prog W 0 sp held fuel 248 cs.toList = some (.agg (zs.map fun z => .lit (.string z)), p)) : ∀ i, i < 8 → W.cell? ⟨g, i, none⟩ = (zs[i]?).map (fun z => Value.string ⟨z.toArray⟩) := by
  intro i hi
  obtain ⟨ds, hds, hel⟩ := arr_at Tryz.underlying248 (by kernel_rfl) (by kernel_rfl) h
  obtain ⟨c, y, m, hc, hy, hd⟩ := hel i hi
  obtain ⟨k, e1, e2, -⟩ := DataW.trod_string Tryz.underlying9 hy
  cases e1
  rw [World.var?_cell hg hv i, hc]
  simp only [DataW.agg.injEq] at hds
  rw [← hds, List.getElem?_map, e2] at hd
  cases hz : zs[i]? with
  | none => rw [hz] at hd; cases hd
  | some z =>
    rw [hz] at hd
    simp at hd
    subst hd
    simp only [Option.map_some]
def laidList5 : List (String × DataW Unit) := [("math/bits.deBruijn64tab", Rows.laid_math_bits_deBruijn64tab), ("isagoge/tree.words", Rows.laid_isagoge_tree_words), ("isagoge/tree.duals", Rows.laid_isagoge_tree_duals), ("isagoge/concept.arity", Rows.laid_isagoge_concept_arity)]
theorem lt_of_cell {W : World} {g j : Nat} {v : Value} (h : W.cell? ⟨g, j, none⟩ = some v) : g < W.heap.size := by
  unfold World.cell? at h
  split at h
  · rename_i hb; exact (Array.getElem?_eq_some_iff.1 hb).1
  · cases h
theorem G5_of_laid {W : World} (h : laidMetH Tryz.prog laidList5 W) : G W ∧ GT W := by
  rw [MakeChecks.laidMetH_plain _ _ _ (by kernel_rfl)] at h
  obtain ⟨ps, ⟨g0, t0, cs0, f0, p0, q0, hg0, ht0, hv0, hd0, ⟨g1, t1, cs1, f1, p1, q1, hg1, ht1, hv1, hd1, ⟨g2, t2, cs2, f2, p2, q2, hg2, ht2, hv2, hd2, ⟨g3, t3, cs3, f3, p3, q3, hg3, ht3, hv3, hd3, _, _⟩, _⟩, _⟩, _⟩, _, _⟩ := h
  obtain rfl := Option.some.inj (gTz.symm.trans hg0)
  obtain rfl := Option.some.inj (gWd.symm.trans hg1)
  obtain rfl := Option.some.inj (gDu.symm.trans hg2)
  obtain rfl := Option.some.inj (gAr.symm.trans hg3)
  obtain rfl := Option.some.inj (tTz.symm.trans ht0)
  obtain rfl := Option.some.inj (tWd.symm.trans ht1)
  obtain rfl := Option.some.inj (tDu.symm.trans ht2)
  obtain rfl := Option.some.inj (tAr.symm.trans ht3)
  have c0 := bytes_of (zs := tzT.map fun z : Nat => (z : Int)) hg0 hv0 hd0
  have c1 := strs_of (zs := [[], [116, 111, 112], [98, 111, 116], [110, 111, 116], [97, 110, 100], [111, 114], [115, 111, 109, 101], [97, 108, 108]]) hg1 hv1 hd1
  have c2 := ints_of (zs := [0, 2, 1, 0, 5, 4, 7, 6]) hg2 hv2 hd2
  have c3 := ints_of (zs := [0, 0, 0, 1, 2, 2, 1, 1]) hg3 hv3 hd3
  have ga : GA W := by
    refine ⟨lt_of_cell (c3 0 (by omega)), fun op h0 h8 => ?_⟩
    rw [c3 op.toNat (by omega)]
    rcases (show op = 0 ∨ op = 1 ∨ op = 2 ∨ op = 3 ∨ op = 4 ∨ op = 5 ∨ op = 6 ∨ op = 7 by omega) with rfl | rfl | rfl | rfl | rfl | rfl | rfl | rfl <;> rfl
  have l1 := lt_of_cell (c1 0 (by omega))
  have l2 := lt_of_cell (c2 0 (by omega))
  have l3 := lt_of_cell (c3 0 (by omega))
  refine ⟨⟨by omega, fun op h0 h8 => ?_, fun op h0 h8 => ?_, fun op h0 h8 => ?_⟩, ⟨ga, lt_of_cell ((c0 0 (by omega)).trans (tz_list 0 (by omega))), fun k hk => (c0 k hk).trans (tz_list k hk)⟩⟩
  · rw [c3 op.toNat (by omega)]
    rcases (show op = 0 ∨ op = 1 ∨ op = 2 ∨ op = 3 ∨ op = 4 ∨ op = 5 ∨ op = 6 ∨ op = 7 by omega) with rfl | rfl | rfl | rfl | rfl | rfl | rfl | rfl <;> rfl
  · rw [c2 op.toNat (by omega)]
    rcases (show op = 0 ∨ op = 1 ∨ op = 2 ∨ op = 3 ∨ op = 4 ∨ op = 5 ∨ op = 6 ∨ op = 7 by omega) with rfl | rfl | rfl | rfl | rfl | rfl | rfl | rfl <;> rfl
  · rw [c1 op.toNat (by omega)]
    rcases (show op = 0 ∨ op = 1 ∨ op = 2 ∨ op = 3 ∨ op = 4 ∨ op = 5 ∨ op = 6 ∨ op = 7 by omega) with rfl | rfl | rfl | rfl | rfl | rfl | rfl | rfl <;> rfl
theorem door_met5 (os : Os) (args : Array Value) : laidMetH Tryz.prog laidList5 ((World.doorLaid Tryz.prog 400 os).forCall (fun _ _ => 0) ⟨#[], args, []⟩).memory :=
  laidMetH_of_parts3 (fuel := 8) (laidMet_of_run' 8 (by kernel_rfl) (by kernel_rfl)) (by kernel_rfl) (by kernel_rfl)

set_option maxRecDepth 100000 in
/-- A list of concepts that came in. -/
theorem open_mlW {H : Type} {enc : TypeId × Value → H} {W : World} {base b0 : Nat} {sp : Nat → Bool} {held : Bool} {v : Value} {d : DataW H} {p : List MemPlace} (hval : Value.okWide Tryz.prog W .any b0 31 v) (h : DataW.Trod enc Tryz.prog W base sp held 31 v d p) (hwt : ∀ z ∈ d.weights Tryz.prog 31, z ≤ reachBytes) :
    ∃ m : ML, v = .slice m.A m.l.length m.c ∧ m.In W.heap.size W ∧ m.l.length * 40 ≤ 140737488351232 := by
  obtain ⟨a, len, cap, rfl⟩ := okWide_slice Tryz.underlying31 hval
  obtain ⟨fuel, hf⟩ := h
  have hf' : DataW.trod enc Tryz.prog W base sp held fuel 31 [.slice a len cap] = some (d, p) := hf
  obtain ⟨A, c, l, e, h1, h2, h3, h4, h5, h6⟩ := open_rowW (α := MT) (f := MT.cs) (R := fun T => T.In W.heap.size W) (sz := 3) Tryz.underlying31 (by kernel_rfl) (by omega) (fun a cs h => cellsN h) (fun T => rfl) hwt (fun m cs x hx _ => open_tree m _ _ hx) hf'
  cases e
  rw [show Tryz.prog.bytesOf 33 = 40 by kernel_rfl] at h6
  exact ⟨⟨a, cap, l⟩, rfl, ⟨h1, h2, h5, h3, h4⟩, Nat.le_trans h6 (by unfold reachBytes; omega)⟩
end Go.Proofs.YtndkcimajeofcaaGreatDoor

namespace Go.Proofs.YtndkcimajeofcaaGreatDoor
open Go.ChangeShapes Go.WideShapes Go.ChangeAt Go.WideElems Go.RowKit

section
variable {H : Type} {enc : TypeId × Value → H} {W : World} {base : Nat} {sp : Nat → Bool} {held : Bool}
theorem nil_slice5 {fuel : Nat} {ts e : TypeId} {n c : Nat} {x : DataW H × List MemPlace} (hts : Tryz.prog.underlying ts = some (.slice e)) (h : DataW.trod enc Tryz.prog W base sp held fuel ts [.slice none n c] = some x) : c = 0 := by
  rcases DataW.trod_slice hts h with ⟨e2, -⟩ | ⟨ad, len, cap, elems, rest, m, -, e2, -⟩
  · cases e2; rfl
  · cases e2
set_option maxRecDepth 100000 in
/-- Nil lists of a knowledge base that came in have no capacity. -/
theorem base_nil5 {b : BN} {d : DataW H} {p : List MemPlace} (h : DataW.Trod enc Tryz.prog W base sp held 30 b.val d p) : b.NilOk := by
  have cN : Tryz.prog.cellsOf 24 = 3 := by kernel_rfl
  have cR : Tryz.prog.cellsOf 26 = 1 := by kernel_rfl
  have cL : Tryz.prog.cellsOf 28 = 1 := by kernel_rfl
  obtain ⟨fuel, hf0⟩ := h
  have hcs : b.val.cells.toList = [.slice b.N.C.A b.N.C.l.length b.N.C.c, .slice b.N.R.A b.N.R.l.length b.N.R.c, .slice b.N.I.A b.N.I.l.length b.N.I.c, .slice b.IA b.I.length b.ic, .slice b.R.A b.R.l.length b.R.c, .slice b.FA b.F.length b.fc, .slice b.L.A b.L.l.length b.L.c] := by simp [BN.val, Value.cells]
  rw [hcs] at hf0
  obtain ⟨xs, n, -, -, -, hlen, hf⟩ := DataW.trod_struct Tryz.underlying30 hf0
  obtain ⟨x0, x1, x2, x3, x4, rfl⟩ : ∃ a b c d e, xs = [a, b, c, d, e] := by
    match xs, hlen with
    | [a, b, c, d, e], _ => exact ⟨a, b, c, d, e, rfl⟩
  have f2 := hf 2 _ rfl
  have f4 := hf 4 _ rfl
  refine ⟨fun h => ?_, fun h => ?_⟩
  · rw [h] at f2
    exact nil_slice5 Tryz.underlying26 f2
  · rw [h] at f4
    exact nil_slice5 Tryz.underlying28 f4
end
end Go.Proofs.YtndkcimajeofcaaGreatDoor
