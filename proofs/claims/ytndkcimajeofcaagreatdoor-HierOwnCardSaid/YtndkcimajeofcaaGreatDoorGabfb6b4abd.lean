import Derived.Test.YtndkcimajeofcaaGreatDoorG3b2f17e259
import Derived.Test.YtndkcimajeofcaaGreatDoorGbb4f0f07ee
import Derived.Test.YtndkcimajeofcaaGreatDoorRows
import Derived.ProofKit
import Derived.LaidMore
import Derived.OpenShut
import Derived.SliceStrings
import Derived.Stop.Joined
import Derived.Lib.SmallJoins
namespace Go.Proofs.YtndkcimajeofcaaGreatDoor
open Go.ChangeShapes Go.WideShapes Go.ChangeAt Go.WideElems Go.RowKit

theorem open_sl {H : Type} {enc : TypeId × Value → H} {W : World} {base fuel : Nat} {sp : Nat → Bool} {held : Bool} {cs : List Value} {x : DataW H × List MemPlace} (h : DataW.trod enc Tryz.prog W base sp held fuel 22 cs = some x) :
    ∃ sl : SL, cs = [.slice sl.A sl.l.length sl.c] ∧ sl.In W.heap.size W := by
  rcases open_strings Tryz.underlying22 Tryz.underlying9 (by kernel_rfl) h with ⟨rfl, -⟩ | ⟨a, len, cap, ss, rfl, -, hl, hm, hss, -, hc, hs⟩
  · exact ⟨⟨none, 0, []⟩, rfl, Nil.In _ _ _⟩
  · have hle : len ≤ ss.length := by rw [hss]; split <;> omega
    have hlt : (ss.take len).length = len := by rw [List.length_take]; omega
    refine ⟨⟨some a, cap, ss.take len⟩, by rw [hlt], by rw [hlt]; exact hl, hm, by simp, ⟨by simp, fun hne => ?_⟩, fun x hx => hs x (List.mem_of_mem_take hx)⟩
    simp only [hlt] at hne ⊢
    have h0 := hc 0 (by omega)
    obtain ⟨b, off, spot⟩ := a
    have hsp : spot = none := by
      cases spot with
      | none => rfl
      | some s => simp only [Addr.add, if_true] at h0; unfold World.cell? at h0; split at h0 <;> simp at h0
    subst hsp
    refine ⟨b, off, rfl, ?_, fun j hj => ?_⟩
    · simp only [Addr.add, if_true] at h0
      unfold World.cell? at h0
      split at h0
      · rename_i hb; exact (Array.getElem?_eq_some_iff.1 hb).1
      · cases h0
    · have hj' : j < len := by simpa using hj
      have hcj := hc j (by omega)
      have e : (Addr.add ⟨b, off, none⟩ j) = ⟨b, off + j, none⟩ := by unfold Addr.add; split <;> simp_all
      rw [e] at hcj
      rw [hcj, List.getElem?_map, List.getElem?_take, if_pos hj', List.getD_eq_getElem?_getD, List.getElem?_eq_getElem (show j < ss.length by omega)]
      rfl


theorem flatMap_at {α : Type} {f : α → List Value} {sz : Nat} (hl : ∀ a, (f a).length = sz) : ∀ (l : List α) (k r : Nat) (hk : k < l.length), r < sz → (l.flatMap f)[k * sz + r]? = (f l[k])[r]?
  | t :: ts, 0, r, _, hr => by
    rw [List.flatMap_cons, Nat.zero_mul, Nat.zero_add, List.getElem?_append_left (by rw [hl]; exact hr)]; rfl
  | t :: ts, k + 1, r, hk, hr => by
    rw [List.flatMap_cons, List.getElem?_append_right (by rw [hl, Nat.succ_mul]; omega), hl, show (k + 1) * sz + r - sz = k * sz + r by rw [Nat.succ_mul]; omega, flatMap_at hl ts k r (by simpa using hk) hr]
    rfl
theorem flatMap_len {α : Type} {f : α → List Value} {sz : Nat} (hl : ∀ a, (f a).length = sz) : ∀ l : List α, (l.flatMap f).length = l.length * sz
  | [] => by simp
  | t :: ts => by rw [List.flatMap_cons, List.length_append, hl, flatMap_len hl ts, List.length_cons, Nat.succ_mul]; omega

set_option maxRecDepth 100000 in
/-- A slice that came in, whatever its elements. -/
theorem open_rowG {α : Type} {H : Type} {enc : TypeId × Value → H} {W : World} {base fuel : Nat} {sp : Nat → Bool} {held : Bool} {ts e : TypeId} {sz : Nat} {cs : List Value} {x : DataW H × List MemPlace} {f : α → List Value} {R : α → Prop}
    (hts : Tryz.prog.underlying ts = some (.slice e)) (hce : Tryz.prog.cellsOf e = sz) (h0 : 0 < sz) (hc : ∀ (a : Addr) (cs : List Value), W.cells? base a sz = some cs → cs.length = sz ∧ ∀ j, j < sz → W.cell? (a.add j) = cs[j]?)
    (hl : ∀ a, (f a).length = sz) (el : ∀ m cs x, DataW.trod enc Tryz.prog W base sp held m e cs = some x → ∃ a, cs = f a ∧ R a) (h : DataW.trod enc Tryz.prog W base sp held fuel ts cs = some x) :
    ∃ (A : Option Addr) (c : Nat) (l : List α), cs = [.slice A l.length c] ∧ l.length ≤ c ∧ c ≤ 9223372036854775807 ∧ RowAt W W.heap.size sz A l.length (l.flatMap f) ∧ ∀ a ∈ l, R a := by
  rcases DataW.trod_slice hts h with ⟨e2, -⟩ | ⟨ad, len, cap, elems, rest, m, rfl, e2, -, -, hlc, hcm, hel, hat, -⟩
  · subst e2
    exact ⟨none, 0, [], rfl, Nat.le_refl _, by omega, RowAt.nil _ _ _ _, by simp⟩
  · have each : ∀ i : Fin len, ∃ a : α, W.cells? base (ad.add (i.1 * sz)) sz = some (f a) ∧ R a := fun i => by
      have hi := hat i.1 i.2
      rw [hce, List.getElem?_eq_getElem (by omega), Option.bind_eq_some_iff] at hi
      obtain ⟨cs', hc', ht'⟩ := hi
      obtain ⟨a, rfl, hR⟩ := el _ _ _ ht'
      exact ⟨a, hc', hR⟩
    have hex : ∃ F : Fin len → α, ∀ i, W.cells? base (ad.add (i.1 * sz)) sz = some (f (F i)) ∧ R (F i) := ⟨fun i => (each i).choose, fun i => (each i).choose_spec⟩
    obtain ⟨F, hF⟩ := hex
    refine ⟨some ad, cap, List.ofFn F, by rw [e2]; simp, by simpa using hlc, hcm, ⟨flatMap_len hl _, fun hne => ?_⟩, fun a ha => ?_⟩
    · have hlen0 : 0 < len := by simpa [Nat.pos_iff_ne_zero] using hne
      have hz := (hc _ _ (hF ⟨0, hlen0⟩).1).2 0 h0
      obtain ⟨b, off, spot⟩ := ad
      simp only [Nat.zero_mul, Addr.add, if_true] at hz
      have hz' : ∃ u, W.cell? ⟨b, off, spot⟩ = some u := by
        rw [hz]
        exact ⟨_, List.getElem?_eq_getElem (by rw [hl]; exact h0)⟩
      obtain ⟨u, hu⟩ := hz'
      have hsp : spot = none := by
        cases spot with
        | none => rfl
        | some s => unfold World.cell? at hu; split at hu <;> simp at hu
      subst hsp
      refine ⟨b, off, rfl, ?_, fun j hj => ?_⟩
      · unfold World.cell? at hu
        split at hu
        · rename_i hb; exact (Array.getElem?_eq_some_iff.1 hb).1
        · cases hu
      · have hj' : j < len * sz := by simpa using hj
        have hk : j / sz < len := Nat.div_lt_of_lt_mul (by rw [Nat.mul_comm]; exact hj')
        have hr : j % sz < sz := Nat.mod_lt _ h0
        have hcj := (hc _ _ (hF ⟨j / sz, hk⟩).1).2 (j % sz) hr
        have hfa := flatMap_at hl (List.ofFn F) (j / sz) (j % sz) (by simpa using hk) hr
        have hjj : j / sz * sz + j % sz = j := by rw [Nat.mul_comm]; exact Nat.div_add_mod j sz
        rw [hjj] at hfa
        have hTs : (List.ofFn F)[j / sz]'(by simpa using hk) = F ⟨j / sz, hk⟩ := by simp
        rw [hTs] at hfa
        have ad1 : Addr.add (Addr.add ⟨b, off, none⟩ (j / sz * sz)) (j % sz) = ⟨b, off + j, none⟩ := by
          unfold Addr.add; split <;> split <;> simp_all <;> omega
        simp only [ad1] at hcj
        rw [hcj, hfa]
    · obtain ⟨i, rfl⟩ := List.mem_ofFn.1 ha
      exact (hF i).2

section
variable {H : Type} {enc : TypeId × Value → H} {W : World} {base : Nat} {sp : Nat → Bool} {held : Bool}
end

theorem arr_at {H : Type} {enc : TypeId × Value → H} {W : World} {base fuel n : Nat} {sp : Nat → Bool} {held : Bool} {t e : TypeId} {cs : Array Value} {d : DataW H} {p : List MemPlace} (ht : Tryz.prog.underlying t = some (.array n e)) (he : Tryz.prog.cellsOf e = 1) (hn : Tryz.prog.cellsOf t = n)
    (h : DataW.trod enc Tryz.prog W base sp held fuel t cs.toList = some (d, p)) :
    ∃ ds, d = .agg ds ∧ ∀ i, i < n → ∃ c y m, cs[i]? = some c ∧ DataW.trod enc Tryz.prog W base sp held m e [c] = some y ∧ ds[i]? = some y.1 := by
  obtain ⟨xs, m, -, hx, hl, hxl, hel⟩ := DataW.trod_array ht h
  simp only [Prod.mk.injEq] at hx
  refine ⟨_, hx.1, fun i hi => ?_⟩
  have hi' := hel i hi
  rw [hn] at hl
  have hci : i < cs.toList.length := by omega
  rw [he, Nat.mul_one, List.drop_eq_getElem_cons hci, List.take_succ_cons, List.take_zero, List.getElem?_eq_getElem (by omega)] at hi'
  exact ⟨cs.toList[i], xs[i]'(by omega), m, by rw [← Array.getElem?_toList, List.getElem?_eq_getElem hci], hi', by rw [List.getElem?_map, List.getElem?_eq_getElem (by omega)]; rfl⟩

theorem gAr : Tryz.prog.globalNamed "isagoge/concept.arity" = some 0 := by kernel_rfl
theorem tAr : (Tryz.prog.globals[0]?).map (·.type) = some 205 := by kernel_rfl
theorem gTz : Tryz.prog.globalNamed "math/bits.deBruijn64tab" = some 2 := by kernel_rfl
theorem tTz : (Tryz.prog.globals[2]?).map (·.type) = some 218 := by kernel_rfl

theorem ints_of {H : Type} {enc : TypeId × Value → H} {W : World} {fuel : Nat} {g : Nat} {s : String} {sp : Nat → Bool} {held : Bool} {cs : Array Value} {zs : List Int} {p : List MemPlace} (hg : Tryz.prog.globalNamed s = some g) (hv : W.var? Tryz.prog s = some cs)
    (h : DataW.trod enc Tryz.prog W 0 sp held fuel 205 cs.toList = some (.agg (zs.map fun z => .lit (.int .i64 z)), p)) : ∀ i, i < 8 → W.cell? ⟨g, i, none⟩ = (zs[i]?).map (fun z => Value.int .i64 z) := by
  intro i hi
  obtain ⟨ds, hds, hel⟩ := arr_at Tryz.underlying205 (by kernel_rfl) (by kernel_rfl) h
  obtain ⟨c, y, m, hc, hy, hd⟩ := hel i hi
  obtain ⟨k, e1, e2, -⟩ := DataW.trod_int Tryz.underlying3 hy
  cases e1
  rw [World.var?_cell hg hv i, hc]
  simp only [DataW.agg.injEq] at hds
  rw [← hds, List.getElem?_map, e2] at hd
  cases hz : zs[i]? with
  | none => rw [hz] at hd; cases hd
  | some z => rw [hz] at hd; simp at hd; rw [hd]; rfl


theorem bytes_of {H : Type} {enc : TypeId × Value → H} {W : World} {fuel : Nat} {g : Nat} {s : String} {sp : Nat → Bool} {held : Bool} {cs : Array Value} {zs : List Int} {p : List MemPlace} (hg : Tryz.prog.globalNamed s = some g) (hv : W.var? Tryz.prog s = some cs)
    (h : DataW.trod enc Tryz.prog W 0 sp held fuel 218 cs.toList = some (.agg (zs.map fun z => .lit (.int .u8 z)), p)) : ∀ i, i < 64 → W.cell? ⟨g, i, none⟩ = (zs[i]?).map (fun z => Value.int .u8 z) := by
  intro i hi
  obtain ⟨ds, hds, hel⟩ := arr_at Tryz.underlying218 (by kernel_rfl) (by kernel_rfl) h
  obtain ⟨c, y, m, hc, hy, hd⟩ := hel i hi
  obtain ⟨k, e1, e2, -⟩ := DataW.trod_int Tryz.underlying5 hy
  cases e1
  rw [World.var?_cell hg hv i, hc]
  simp only [DataW.agg.injEq] at hds
  rw [← hds, List.getElem?_map, e2] at hd
  cases hz : zs[i]? with
  | none => rw [hz] at hd; cases hd
  | some z => rw [hz] at hd; simp at hd; rw [hd]; rfl

theorem tz_list : ∀ k, k < 64 → ((tzT.map fun z : Nat => (z : Int))[k]?).map (fun z => Value.int .u8 z) = some (.int .u8 ((tzT.getD k 0 : Nat) : Int)) := fun k hk => by
  have hl : k < tzT.length := hk
  rw [List.getElem?_map, List.getElem?_eq_getElem hl, List.getD_eq_getElem?_getD, List.getElem?_eq_getElem hl]; rfl
theorem own : ownKnob Tryz.prog.godebug = none := by kernel_rfl
theorem laidOut : laidOutB Tryz.prog = true := by kernel_rfl

theorem keptBut_low {W W' : World} (hb : Below W.heap.size W W') (may : MemPlace → Prop) : W.keptBut W' may := by
  refine ⟨hb.os, hb.output, fun i hi => ?_⟩
  rw [hb.block i hi]
  exact (World.keptBut_refl W may).2.2 i hi

/-- The post of a call that writes nothing that was there: results without places; the arguments read in the later world. -/
theorem post_of_low {H : Type} {enc : TypeId × Value → H} {P : Program} {f : Func} {s : ChangeSpec} {apart fresh handsOn again : Bool} {W W' : World} {args : Array Value} {v : Value} {ds gs : List (DataW H)} {before pa pv : List MemPlace}
    (hW : DataW.Whole enc P f.params.toList s.vars apart W args.toList ds gs before) (hb : Below W.heap.size W W')
    (hres : ∀ (b : Nat) (sp : Nat → Bool) (hd : Bool), DataW.TrodAll enc P W' b sp hd f.resultTypes.toList (v.resultList f.resultTypes.size) (s.fn H (ds ++ gs)).results [])
    (hargs : ∀ sp : Nat → Bool, (∀ p ∈ before, sp p.block = true) → DataW.TrodAll enc P W' 0 sp true f.params.toList args.toList (s.fn H (ds ++ gs)).args pa)
    (hvars : ∀ sp : Nat → Bool, (∀ p ∈ before, sp p.block = true) → DataW.TrodVars enc P W' sp s.vars (s.fn H (ds ++ gs)).vars pv)
    (hps : before = pa ++ pv)
    (hok : ∀ (j : Nat) (t : TypeId) (r : Value), f.resultTypes[j]? = some t → (v.resultList f.resultTypes.size)[j]? = some r → Value.okWide P W' .any 0 t r) :
    s.post enc P f apart fresh handsOn again W args v W' := by
  have hold : ∀ p ∈ before, (fun b => decide (b < W.heap.size)) p.block = true := fun p hp => by simpa using hW.lt p hp
  refine ⟨ds, gs, before, [], pa, pv, hW, hres _ _ _, hargs _ hold, hvars _ hold, ?_, fun _ => ?_⟩
  · exact keptBut_low hb _
  · have hlt := hW.lt
    obtain ⟨_, _, _, _, _, hz, hn⟩ := hW
    refine ⟨hok, _, _, ([] ++ pa) ++ pv, ⟨[] ++ pa, pv, trodAll_append (hargs _ (fun _ _ => rfl)) (hres _ _ _), hvars _ (fun _ _ => rfl), rfl, ?_, ?_⟩, ?_⟩
    · intro b off hp
      have hp' : MemPlace.cell b off ∈ before := by rw [hps]; simpa using hp
      have := hz b off hp'
      have hl := hlt _ hp'
      rw [← this]
      exact World.frozen?_of_block (hb.block b hl)
    · intro ha
      have := hn ha
      rw [hps] at this
      simpa using this
    · intro p hp _
      rw [hps]
      simpa using hp


end Go.Proofs.YtndkcimajeofcaaGreatDoor

namespace Go.Proofs.YtndkcimajeofcaaGreatDoor
open Go.ChangeShapes Go.WideShapes Go.ChangeAt Go.WideElems Go.RowKit

theorem cells3 {W : World} {base : Nat} {a : Addr} {cs : List Value} (h : W.cells? base a 3 = some cs) : ∃ x y z, cs = [x, y, z] ∧ W.cell? (a.add 0) = some x ∧ W.cell? (a.add 1) = some y ∧ W.cell? (a.add 2) = some z := by
  unfold World.cells? at h
  split at h
  · simp only [List.range_succ, List.range_zero, List.nil_append, List.cons_append, List.mapM_cons, List.mapM_nil] at h
    cases h0 : W.cell? (a.add 0) <;> cases h1 : W.cell? (a.add 1) <;> cases h2 : W.cell? (a.add 2) <;> simp [h0, h1, h2] at h
    exact ⟨_, _, _, h.symm, rfl, rfl, rfl⟩
  · cases h

set_option maxRecDepth 100000 in
theorem open_tree {H : Type} {enc : TypeId × Value → H} {W : World} {base : Nat} {sp : Nat → Bool} {held : Bool} : ∀ (fuel : Nat) (cs : List Value) (x : DataW H × List MemPlace), DataW.trod enc Tryz.prog W base sp held fuel 33 cs = some x → ∃ T : MT, cs = T.cs ∧ T.In W.heap.size W := by
  intro fuel
  induction fuel using Nat.strongRecOn with
  | _ fuel ih =>
    intro cs x h
    have c27 : Tryz.prog.cellsOf 33 = 3 := by kernel_rfl
    have c3 : Tryz.prog.cellsOf 3 = 1 := by kernel_rfl
    have c25 : Tryz.prog.cellsOf 31 = 1 := by kernel_rfl
    obtain ⟨xs, n, rfl, -, hl, hlen, hf⟩ := DataW.trod_struct Tryz.underlying33 h
    rw [c27] at hl
    obtain ⟨a, b, c, rfl⟩ : ∃ a b c, cs = [a, b, c] := by
      match cs, hl with
      | [a, b, c], _ => exact ⟨a, b, c, rfl⟩
    obtain ⟨x0, x1, x2, rfl⟩ : ∃ a b c, xs = [a, b, c] := by
      match xs, hlen with
      | [a, b, c], _ => exact ⟨a, b, c, rfl⟩
    have f0 := hf 0 _ rfl
    have f1 := hf 1 _ rfl
    have f2 := hf 2 _ rfl
    simp only [List.getElem?_cons_zero, List.getElem?_cons_succ] at f0 f1 f2
    obtain ⟨k0, e0, -⟩ := DataW.trod_int Tryz.underlying3 f0
    obtain ⟨k1, e1, -⟩ := DataW.trod_int Tryz.underlying3 f1
    cases e0
    cases e1
    rcases DataW.trod_slice Tryz.underlying31 f2 with ⟨e2, -⟩ | ⟨ad, len, cap, elems, rest, m, rfl, e2, -, -, hlc, hcm, hel, hat, -⟩
    · cases e2
      exact ⟨leafMT k0 k1, rfl, (leaf_new k0 k1 0 W).1⟩
    · cases e2
      have each : ∀ i : Fin len, ∃ T : MT, W.cells? base (ad.add (i.1 * 3)) 3 = some T.cs ∧ T.In W.heap.size W := fun i => by
        have hi := hat i.1 i.2
        rw [c27, List.getElem?_eq_getElem (by omega), Option.bind_eq_some_iff] at hi
        obtain ⟨cs', hc', ht'⟩ := hi
        obtain ⟨T, rfl, hT⟩ := ih m (by omega) cs' _ ht'
        exact ⟨T, hc', hT⟩
      have hex : ∃ F : Fin len → MT, ∀ i, W.cells? base (ad.add (i.1 * 3)) 3 = some (F i).cs ∧ (F i).In W.heap.size W := ⟨fun i => (each i).choose, fun i => (each i).choose_spec⟩
      obtain ⟨F, hF⟩ := hex
      refine ⟨.mk k0 k1 (some ad) cap (List.ofFn F), by simp [MT.cs, MT.op, MT.n, MT.A, MT.args, MT.c], ?_⟩
      rw [MT.In]
      refine ⟨by simpa using hlc, hcm, ⟨?_, fun hne => ?_⟩, MT.InAll.of fun t ht => ?_⟩
      · have : ∀ l : List MT, (l.flatMap MT.cs).length = l.length * 3 := fun l => by
          induction l with
          | nil => rfl
          | cons t l ih => rw [List.flatMap_cons, List.length_append, ih, List.length_cons]; simp only [MT.cs, List.length_cons, List.length_nil]; omega
        exact this _
      · have hlen0 : 0 < len := by simpa [Nat.pos_iff_ne_zero] using hne
        obtain ⟨_, _, _, -, h0, -, -⟩ := cells3 (hF ⟨0, hlen0⟩).1
        obtain ⟨b, off, spot⟩ := ad
        simp only [Nat.zero_mul, Addr.add, if_true] at h0
        have hsp : spot = none := by
          cases spot with
          | none => rfl
          | some s => unfold World.cell? at h0; split at h0 <;> simp at h0
        subst hsp
        refine ⟨b, off, rfl, ?_, fun j hj => ?_⟩
        · unfold World.cell? at h0
          split at h0
          · rename_i hb; exact (Array.getElem?_eq_some_iff.1 hb).1
          · cases h0
        · have hj3 : j / 3 < len := by
            have : j < len * 3 := by simpa using hj
            omega
          obtain ⟨p, q, r, hpqr, h1, h2, h3⟩ := cells3 (hF ⟨j / 3, hj3⟩).1
          have ad1 : ∀ k r, Addr.add (Addr.add ⟨b, off, none⟩ k) r = ⟨b, off + (k + r), none⟩ := fun k r => by
            unfold Addr.add; split <;> split <;> simp_all <;> omega
          simp only [ad1] at h1 h2 h3
          have hTs : (List.ofFn F)[j / 3]'(by simpa using hj3) = F ⟨j / 3, hj3⟩ := by simp
          obtain ⟨q0, q1, q2⟩ := cs_at (List.ofFn F) (j / 3) (by simpa using hj3)
          rw [hTs] at q0 q1 q2
          simp only [MT.cs, List.cons.injEq, and_true] at hpqr
          obtain ⟨rfl, rfl, rfl⟩ := hpqr
          rcases (show j % 3 = 0 ∨ j % 3 = 1 ∨ j % 3 = 2 by omega) with e | e | e
          · rw [show j = 3 * (j / 3) by omega, q0, ← h1]; congr 2; omega
          · rw [show j = 3 * (j / 3) + 1 by omega, q1, ← h2]; congr 2; omega
          · rw [show j = 3 * (j / 3) + 2 by omega, q2, ← h3]; congr 2; omega
      · obtain ⟨i, rfl⟩ := List.mem_ofFn.1 ht
        exact (hF i).2

set_option maxRecDepth 100000 in
/-- A concept that came in. -/
theorem open_concept {H : Type} {enc : TypeId × Value → H} {W : World} {base b0 : Nat} {sp : Nat → Bool} {held : Bool} {v : Value} {d : DataW H} {p : List MemPlace} (hval : Value.okWide Tryz.prog W .any b0 33 v) (h : DataW.Trod enc Tryz.prog W base sp held 33 v d p) :
    ∃ T : MT, v = T.val ∧ T.In W.heap.size W := by
  obtain ⟨c0, c1, c2, x0, x1, x2, m', hv1, -, -, -, -, -⟩ := Joins.open_agg3 Tryz.underlying33 (by kernel_rfl) (by kernel_rfl) hval h
  subst hv1
  obtain ⟨fuel, hf⟩ := h
  obtain ⟨T, hT, hTin⟩ := open_tree fuel _ _ hf
  have hcs : (Value.agg #[c0, c1, c2]).cells.toList = [c0, c1, c2] := by simp [Value.cells]
  rw [hcs] at hT
  simp only [MT.cs, List.cons.injEq, and_true] at hT
  obtain ⟨rfl, rfl, rfl⟩ := hT
  exact ⟨T, rfl, hTin⟩
end Go.Proofs.YtndkcimajeofcaaGreatDoor
