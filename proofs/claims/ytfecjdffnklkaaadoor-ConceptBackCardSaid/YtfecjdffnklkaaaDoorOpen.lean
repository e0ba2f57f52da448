import Derived.Test.YtfecjdffnklkaaaDoorLaw1
import Derived.Test.YtfecjdffnklkaaaDoorRows
import Derived.ProofKit
import Derived.LaidMore
import Derived.OpenShut
import Derived.SliceStrings
namespace Go.Proofs.YtfecjdffnklkaaaDoor
open Go.ChangeShapes Go.WideShapes Go.ChangeAt Go.WideElems Go.RowKit

theorem open_sl {H : Type} {enc : TypeId × Value → H} {W : World} {base fuel : Nat} {sp : Nat → Bool} {held : Bool} {cs : List Value} {x : DataW H × List MemPlace} (h : DataW.trod enc Tryd.prog W base sp held fuel 22 cs = some x) :
    ∃ sl : SL, cs = [.slice sl.A sl.l.length sl.c] ∧ sl.In W.heap.size W := by
  rcases open_strings Tryd.underlying22 Tryd.underlying9 (by kernel_rfl) h with ⟨rfl, -⟩ | ⟨a, len, cap, ss, rfl, -, hl, hm, hss, -, hc, hs⟩
  · exact ⟨⟨none, 0, []⟩, rfl, Nil.In _ _ _⟩
  · have hle : len ≤ ss.length := by rw [hss]; split <;> omega
    have hlt : (ss.take len).length = len := by rw [List.length_take]; omega
    refine ⟨⟨some a, cap, ss.take len⟩, by rw [hlt], by rw [hlt]; exact hl, hm, by simp, ⟨by simp, fun hne => ?_⟩, fun x hx => hs x (List.mem_of_mem_take hx)⟩
    simp only [hlt] at hne ⊢
    have h0 := hc 0 (by omega)
    obtain ⟨b, off, spot⟩ := a
    have hsp : spot = none := by
      cases spot with
      | none => rfl
      | some s => simp only [Addr.add, if_true] at h0; unfold World.cell? at h0; split at h0 <;> simp at h0
    subst hsp
    refine ⟨b, off, rfl, ?_, fun j hj => ?_⟩
    · simp only [Addr.add, if_true] at h0
      unfold World.cell? at h0
      split at h0
      · rename_i hb; exact (Array.getElem?_eq_some_iff.1 hb).1
      · cases h0
    · have hj' : j < len := by simpa using hj
      have hcj := hc j (by omega)
      have e : (Addr.add ⟨b, off, none⟩ j) = ⟨b, off + j, none⟩ := by unfold Addr.add; split <;> simp_all
      rw [e] at hcj
      rw [hcj, List.getElem?_map, List.getElem?_take, if_pos hj', List.getD_eq_getElem?_getD, List.getElem?_eq_getElem (show j < ss.length by omega)]
      rfl

theorem cells3 {W : World} {base : Nat} {a : Addr} {cs : List Value} (h : W.cells? base a 3 = some cs) : ∃ x y z, cs = [x, y, z] ∧ W.cell? (a.add 0) = some x ∧ W.cell? (a.add 1) = some y ∧ W.cell? (a.add 2) = some z := by
  unfold World.cells? at h
  split at h
  · simp only [List.range_succ, List.range_zero, List.nil_append, List.cons_append, List.mapM_cons, List.mapM_nil] at h
    cases h0 : W.cell? (a.add 0) <;> cases h1 : W.cell? (a.add 1) <;> cases h2 : W.cell? (a.add 2) <;> simp [h0, h1, h2] at h
    exact ⟨_, _, _, h.symm, rfl, rfl, rfl⟩
  · cases h

set_option maxRecDepth 100000 in
theorem open_tree {H : Type} {enc : TypeId × Value → H} {W : World} {base : Nat} {sp : Nat → Bool} {held : Bool} : ∀ (fuel : Nat) (cs : List Value) (x : DataW H × List MemPlace), DataW.trod enc Tryd.prog W base sp held fuel 27 cs = some x → ∃ T : MT, cs = T.cs ∧ T.In W.heap.size W := by
  intro fuel
  induction fuel using Nat.strongRecOn with
  | _ fuel ih =>
    intro cs x h
    have c27 : Tryd.prog.cellsOf 27 = 3 := by kernel_rfl
    have c3 : Tryd.prog.cellsOf 3 = 1 := by kernel_rfl
    have c25 : Tryd.prog.cellsOf 25 = 1 := by kernel_rfl
    obtain ⟨xs, n, rfl, -, hl, hlen, hf⟩ := DataW.trod_struct Tryd.underlying27 h
    rw [c27] at hl
    obtain ⟨a, b, c, rfl⟩ : ∃ a b c, cs = [a, b, c] := by
      match cs, hl with
      | [a, b, c], _ => exact ⟨a, b, c, rfl⟩
    obtain ⟨x0, x1, x2, rfl⟩ : ∃ a b c, xs = [a, b, c] := by
      match xs, hlen with
      | [a, b, c], _ => exact ⟨a, b, c, rfl⟩
    have f0 := hf 0 _ rfl
    have f1 := hf 1 _ rfl
    have f2 := hf 2 _ rfl
    simp only [c3, c25, List.drop_zero, List.drop_succ_cons, List.take_succ_cons, List.take_zero, List.getElem?_cons_zero, List.getElem?_cons_succ] at f0 f1 f2
    obtain ⟨k0, e0, -⟩ := DataW.trod_int Tryd.underlying3 f0
    obtain ⟨k1, e1, -⟩ := DataW.trod_int Tryd.underlying3 f1
    cases e0
    cases e1
    rcases DataW.trod_slice Tryd.underlying25 f2 with ⟨e2, -⟩ | ⟨ad, len, cap, elems, rest, m, rfl, e2, -, -, hlc, hcm, hel, hat, -⟩
    · cases e2
      exact ⟨leafMT k0 k1, rfl, (leaf_new k0 k1 0 W).1⟩
    · cases e2
      have each : ∀ i : Fin len, ∃ T : MT, W.cells? base (ad.add (i.1 * 3)) 3 = some T.cs ∧ T.In W.heap.size W := fun i => by
        have hi := hat i.1 i.2
        rw [c27, List.getElem?_eq_getElem (by omega), Option.bind_eq_some_iff] at hi
        obtain ⟨cs', hc', ht'⟩ := hi
        obtain ⟨T, rfl, hT⟩ := ih m (by omega) cs' _ ht'
        exact ⟨T, hc', hT⟩
      have hex : ∃ F : Fin len → MT, ∀ i, W.cells? base (ad.add (i.1 * 3)) 3 = some (F i).cs ∧ (F i).In W.heap.size W := ⟨fun i => (each i).choose, fun i => (each i).choose_spec⟩
      obtain ⟨F, hF⟩ := hex
      refine ⟨.mk k0 k1 (some ad) cap (List.ofFn F), by simp [MT.cs, MT.op, MT.n, MT.A, MT.args, MT.c], ?_⟩
      rw [MT.In]
      refine ⟨by simpa using hlc, hcm, ⟨?_, fun hne => ?_⟩, MT.InAll.of fun t ht => ?_⟩
      · have : ∀ l : List MT, (l.flatMap MT.cs).length = l.length * 3 := fun l => by
          induction l with
          | nil => rfl
          | cons t l ih => rw [List.flatMap_cons, List.length_append, ih, List.length_cons]; simp only [MT.cs, List.length_cons, List.length_nil]; omega
        exact this _
      · have hlen0 : 0 < len := by simpa [Nat.pos_iff_ne_zero] using hne
        obtain ⟨_, _, _, -, h0, -, -⟩ := cells3 (hF ⟨0, hlen0⟩).1
        obtain ⟨b, off, spot⟩ := ad
        simp only [Nat.zero_mul, Addr.add, if_true] at h0
        have hsp : spot = none := by
          cases spot with
          | none => rfl
          | some s => unfold World.cell? at h0; split at h0 <;> simp at h0
        subst hsp
        refine ⟨b, off, rfl, ?_, fun j hj => ?_⟩
        · unfold World.cell? at h0
          split at h0
          · rename_i hb; exact (Array.getElem?_eq_some_iff.1 hb).1
          · cases h0
        · have hj3 : j / 3 < len := by
            have : j < len * 3 := by simpa using hj
            omega
          obtain ⟨p, q, r, hpqr, h1, h2, h3⟩ := cells3 (hF ⟨j / 3, hj3⟩).1
          have ad1 : ∀ k r, Addr.add (Addr.add ⟨b, off, none⟩ k) r = ⟨b, off + (k + r), none⟩ := fun k r => by
            unfold Addr.add; split <;> split <;> simp_all <;> omega
          simp only [ad1] at h1 h2 h3
          have hTs : (List.ofFn F)[j / 3]'(by simpa using hj3) = F ⟨j / 3, hj3⟩ := by simp
          obtain ⟨q0, q1, q2⟩ := cs_at (List.ofFn F) (j / 3) (by simpa using hj3)
          rw [hTs] at q0 q1 q2
          simp only [MT.cs, List.cons.injEq, and_true] at hpqr
          obtain ⟨rfl, rfl, rfl⟩ := hpqr
          rcases (show j % 3 = 0 ∨ j % 3 = 1 ∨ j % 3 = 2 by omega) with e | e | e
          · rw [show j = 3 * (j / 3) by omega, q0, ← h1]; congr 2; omega
          · rw [show j = 3 * (j / 3) + 1 by omega, q1, ← h2]; congr 2; omega
          · rw [show j = 3 * (j / 3) + 2 by omega, q2, ← h3]; congr 2; omega
      · obtain ⟨i, rfl⟩ := List.mem_ofFn.1 ht
        exact (hF i).2
end Go.Proofs.YtfecjdffnklkaaaDoor
