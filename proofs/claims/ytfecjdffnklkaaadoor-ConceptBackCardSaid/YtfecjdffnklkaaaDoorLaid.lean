import Derived.Test.YtfecjdffnklkaaaDoorOpen
import Derived.Stop.Joined
namespace Go.Proofs.YtfecjdffnklkaaaDoor
open Go.ChangeShapes Go.WideShapes Go.ChangeAt Go.WideElems Go.RowKit

theorem arr_at {H : Type} {enc : TypeId × Value → H} {W : World} {base fuel n : Nat} {sp : Nat → Bool} {held : Bool} {t e : TypeId} {cs : Array Value} {d : DataW H} {p : List MemPlace} (ht : Tryd.prog.underlying t = some (.array n e)) (he : Tryd.prog.cellsOf e = 1) (hn : Tryd.prog.cellsOf t = n)
    (h : DataW.trod enc Tryd.prog W base sp held fuel t cs.toList = some (d, p)) :
    ∃ ds, d = .agg ds ∧ ∀ i, i < n → ∃ c y m, cs[i]? = some c ∧ DataW.trod enc Tryd.prog W base sp held m e [c] = some y ∧ ds[i]? = some y.1 := by
  obtain ⟨xs, m, -, hx, hl, hxl, hel⟩ := DataW.trod_array ht h
  simp only [Prod.mk.injEq] at hx
  refine ⟨_, hx.1, fun i hi => ?_⟩
  have hi' := hel i hi
  rw [hn] at hl
  have hci : i < cs.toList.length := by omega
  rw [he, Nat.mul_one, List.drop_eq_getElem_cons hci, List.take_succ_cons, List.take_zero, List.getElem?_eq_getElem (by omega)] at hi'
  exact ⟨cs.toList[i], xs[i]'(by omega), m, by rw [← Array.getElem?_toList, List.getElem?_eq_getElem hci], hi', by rw [List.getElem?_map, List.getElem?_eq_getElem (by omega)]; rfl⟩

theorem gAr : Tryd.prog.globalNamed "isagoge/concept.arity" = some 0 := by kernel_rfl
theorem gWd : Tryd.prog.globalNamed "isagoge/concept.words" = some 1 := by kernel_rfl
theorem gDu : Tryd.prog.globalNamed "isagoge/concept.duals" = some 2 := by kernel_rfl
theorem tAr : (Tryd.prog.globals[0]?).map (·.type) = some 97 := by kernel_rfl
theorem tWd : (Tryd.prog.globals[1]?).map (·.type) = some 107 := by kernel_rfl
theorem tDu : (Tryd.prog.globals[2]?).map (·.type) = some 97 := by kernel_rfl

theorem ints_of {H : Type} {enc : TypeId × Value → H} {W : World} {fuel : Nat} {g : Nat} {s : String} {sp : Nat → Bool} {held : Bool} {cs : Array Value} {zs : List Int} {p : List MemPlace} (hg : Tryd.prog.globalNamed s = some g) (hv : W.var? Tryd.prog s = some cs)
    (h : DataW.trod enc Tryd.prog W 0 sp held fuel 97 cs.toList = some (.agg (zs.map fun z => .lit (.int .i64 z)), p)) : ∀ i, i < 8 → W.cell? ⟨g, i, none⟩ = (zs[i]?).map (fun z => Value.int .i64 z) := by
  intro i hi
  obtain ⟨ds, hds, hel⟩ := arr_at Tryd.underlying97 (by kernel_rfl) (by kernel_rfl) h
  obtain ⟨c, y, m, hc, hy, hd⟩ := hel i hi
  obtain ⟨k, e1, e2, -⟩ := DataW.trod_int Tryd.underlying3 hy
  cases e1
  rw [World.var?_cell hg hv i, hc]
  simp only [DataW.agg.injEq] at hds
  rw [← hds, List.getElem?_map, e2] at hd
  cases hz : zs[i]? with
  | none => rw [hz] at hd; cases hd
  | some z => rw [hz] at hd; simp at hd; rw [hd]; rfl

theorem strs_of {H : Type} {enc : TypeId × Value → H} {W : World} {fuel : Nat} {g : Nat} {s : String} {sp : Nat → Bool} {held : Bool} {cs : Array Value} {zs : List (List UInt8)} {p : List MemPlace} (hg : Tryd.prog.globalNamed s = some g) (hv : W.var? Tryd.prog s = some cs)
    (h : DataW.trod enc Tryd.prog W 0 sp held fuel 107 cs.toList = some (.agg (zs.map fun z => .lit (.string z)), p)) : ∀ i, i < 8 → W.cell? ⟨g, i, none⟩ = (zs[i]?).map (fun z => Value.string ⟨z.toArray⟩) := by
  intro i hi
  obtain ⟨ds, hds, hel⟩ := arr_at Tryd.underlying107 (by kernel_rfl) (by kernel_rfl) h
  obtain ⟨c, y, m, hc, hy, hd⟩ := hel i hi
  obtain ⟨k, e1, e2, -⟩ := DataW.trod_string Tryd.underlying9 hy
  cases e1
  rw [World.var?_cell hg hv i, hc]
  simp only [DataW.agg.injEq] at hds
  rw [← hds, List.getElem?_map, e2] at hd
  cases hz : zs[i]? with
  | none => rw [hz] at hd; cases hd
  | some z =>
    rw [hz] at hd
    simp at hd
    subst hd
    simp only [Option.map_some]

def laidList : List (String × DataW Unit) := [("isagoge/concept.arity", Rows.laid_isagoge_concept_arity), ("isagoge/concept.duals", Rows.laid_isagoge_concept_duals), ("isagoge/concept.words", Rows.laid_isagoge_concept_words)]

theorem G_of_laid {W : World} (h : laidMetH Tryd.prog laidList W) : G W := by
  rw [MakeChecks.laidMetH_plain _ _ _ (by kernel_rfl)] at h
  obtain ⟨ps, ⟨g0, t0, cs0, f0, p0, q0, hg0, ht0, hv0, hd0, ⟨g1, t1, cs1, f1, p1, q1, hg1, ht1, hv1, hd1, ⟨g2, t2, cs2, f2, p2, q2, hg2, ht2, hv2, hd2, _, _⟩, _⟩, _⟩, _, _⟩ := h
  obtain rfl := Option.some.inj (gAr.symm.trans hg0)
  obtain rfl := Option.some.inj (gDu.symm.trans hg1)
  obtain rfl := Option.some.inj (gWd.symm.trans hg2)
  obtain rfl := Option.some.inj (tAr.symm.trans ht0)
  obtain rfl := Option.some.inj (tDu.symm.trans ht1)
  obtain rfl := Option.some.inj (tWd.symm.trans ht2)
  have c0 := ints_of (zs := [0, 0, 0, 1, 2, 2, 1, 1]) hg0 hv0 hd0
  have c1 := ints_of (zs := [0, 2, 1, 0, 5, 4, 7, 6]) hg1 hv1 hd1
  have c2 := strs_of (zs := [[], [116, 111, 112], [98, 111, 116], [110, 111, 116], [97, 110, 100], [111, 114], [115, 111, 109, 101], [97, 108, 108]]) hg2 hv2 hd2
  refine ⟨?_, fun op h0 h8 => ?_, fun op h0 h8 => ?_, fun op h0 h8 => ?_⟩
  · have := c1 0 (by omega)
    simp only [List.getElem?_cons_zero, Option.map_some] at this
    unfold World.cell? at this
    split at this
    · rename_i hb; exact (Array.getElem?_eq_some_iff.1 hb).1
    · cases this
  · rw [c0 op.toNat (by omega)]
    rcases (show op = 0 ∨ op = 1 ∨ op = 2 ∨ op = 3 ∨ op = 4 ∨ op = 5 ∨ op = 6 ∨ op = 7 by omega) with rfl | rfl | rfl | rfl | rfl | rfl | rfl | rfl <;> rfl
  · rw [c1 op.toNat (by omega)]
    rcases (show op = 0 ∨ op = 1 ∨ op = 2 ∨ op = 3 ∨ op = 4 ∨ op = 5 ∨ op = 6 ∨ op = 7 by omega) with rfl | rfl | rfl | rfl | rfl | rfl | rfl | rfl <;> rfl
  · rw [c2 op.toNat (by omega)]
    rcases (show op = 0 ∨ op = 1 ∨ op = 2 ∨ op = 3 ∨ op = 4 ∨ op = 5 ∨ op = 6 ∨ op = 7 by omega) with rfl | rfl | rfl | rfl | rfl | rfl | rfl | rfl <;> rfl

theorem door_met (os : Os) (args : Array Value) : laidMetH Tryd.prog laidList ((World.doorLaid Tryd.prog 400 os).forCall (fun _ _ => 0) ⟨#[], args, []⟩).memory :=
  laidMetH_of_parts3 (fuel := 8) (laidMet_of_run' 8 (by kernel_rfl) (by kernel_rfl)) (by kernel_rfl) (by kernel_rfl)
end Go.Proofs.YtfecjdffnklkaaaDoor
