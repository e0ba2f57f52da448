import Derived.Test.YtnkkpjgclekobaaDoorLowB
import Derived.Test.YtnkkpjgclekobaaDoorBCopy
import Derived.Test.YtnkkpjgclekobaaDoorICopy
import Derived.Test.YtnkkpjgclekobaaDoorOwnR
namespace Go.Proofs.YtnkkpjgclekobaaDoor
open Go.ChangeShapes Go.WideShapes Go.ChangeAt Go.WideElems Go.RowKit

theorem weights_mem {H : Type} {P : Program} {e : TypeId} : ∀ {l : List (DataW H)} {d : DataW H} {z : Nat}, d ∈ l → z ∈ d.weights P e → z ∈ DataW.weightsAll P e l
  | [], _, _, h, _ => absurd h (List.not_mem_nil)
  | x :: l, d, z, h, hz => by
    rw [DataW.weightsAll]
    rcases List.mem_cons.1 h with rfl | h
    · exact List.mem_append_left _ hz
    · exact List.mem_append_right _ (weights_mem h hz)
theorem weights_each {H : Type} {P : Program} {R : Nat} : ∀ {ts : List TypeId} {ds : List (DataW H)}, (∀ z ∈ DataW.weightsEach P ts ds, z ≤ R) → ∀ (k : Nat) (t : TypeId) (d : DataW H), ts[k]? = some t → ds[k]? = some d → ∀ z ∈ d.weights P t, z ≤ R
  | [], _, _, _, _, _, ht, _ => by simp at ht
  | _ :: _, [], _, _, _, _, _, hd => by simp at hd
  | t0 :: ts, d0 :: ds, h, k, t, d, ht, hd => by
    rw [DataW.weightsEach] at h
    cases k with
    | zero =>
      simp only [List.getElem?_cons_zero, Option.some.injEq] at ht hd
      subst ht; subst hd
      exact fun z hz => h z (List.mem_append_left _ hz)
    | succ k =>
      simp only [List.getElem?_cons_succ] at ht hd
      exact weights_each (fun z hz => h z (List.mem_append_right _ hz)) k t d ht hd
set_option maxRecDepth 100000 in
/-- A slice that came in, whatever its elements, with its bytes. -/
theorem open_rowW {α : Type} {H : Type} {enc : TypeId × Value → H} {W : World} {base fuel : Nat} {sp : Nat → Bool} {held : Bool} {ts e : TypeId} {sz : Nat} {cs : List Value} {x : DataW H × List MemPlace} {f : α → List Value} {R : α → Prop}
    (hts : Tryd.prog.underlying ts = some (.slice e)) (hce : Tryd.prog.cellsOf e = sz) (h0 : 0 < sz) (hc : ∀ (a : Addr) (cs : List Value), W.cells? base a sz = some cs → cs.length = sz ∧ ∀ j, j < sz → W.cell? (a.add j) = cs[j]?)
    (hl : ∀ a, (f a).length = sz) (hwt : ∀ z ∈ x.1.weights Tryd.prog ts, z ≤ reachBytes) (el : ∀ m cs x, DataW.trod enc Tryd.prog W base sp held m e cs = some x → (∀ z ∈ x.1.weights Tryd.prog e, z ≤ reachBytes) → ∃ a, cs = f a ∧ R a) (h : DataW.trod enc Tryd.prog W base sp held fuel ts cs = some x) :
    ∃ (A : Option Addr) (c : Nat) (l : List α), cs = [.slice A l.length c] ∧ l.length ≤ c ∧ c ≤ 9223372036854775807 ∧ RowAt W W.heap.size sz A l.length (l.flatMap f) ∧ (∀ a ∈ l, R a) ∧ (A = none → c = 0) ∧ l.length * Tryd.prog.bytesOf e ≤ reachBytes := by
  rcases DataW.trod_slice hts h with ⟨e2, -⟩ | ⟨ad, len, cap, elems, rest, m, rfl, e2, hx, -, hlc, hcm, hel, hat, -⟩
  · subst e2
    exact ⟨none, 0, [], rfl, Nat.le_refl _, by omega, RowAt.nil _ _ _ _, by simp, fun _ => rfl, by simp⟩
  · rw [hx, DataW.weights, hts] at hwt
    have hw0 := hwt _ (List.mem_cons_self ..)
    have hwe : ∀ i (h : i < elems.length), ∀ z ∈ elems[i].1.weights Tryd.prog e, z ≤ reachBytes := fun i h z hz => hwt z (List.mem_cons_of_mem _ (List.mem_append_left _ (weights_mem (d := elems[i].1) (List.mem_map_of_mem (List.getElem_mem h)) hz)))
    have each : ∀ i : Fin len, ∃ a : α, W.cells? base (ad.add (i.1 * sz)) sz = some (f a) ∧ R a := fun i => by
      have hi := hat i.1 i.2
      rw [hce, List.getElem?_eq_getElem (by omega), Option.bind_eq_some_iff] at hi
      obtain ⟨cs', hc', ht'⟩ := hi
      obtain ⟨a, rfl, hR⟩ := el _ _ _ ht' (hwe i.1 (by omega))
      exact ⟨a, hc', hR⟩
    have hex : ∃ F : Fin len → α, ∀ i, W.cells? base (ad.add (i.1 * sz)) sz = some (f (F i)) ∧ R (F i) := ⟨fun i => (each i).choose, fun i => (each i).choose_spec⟩
    obtain ⟨F, hF⟩ := hex
    refine ⟨some ad, cap, List.ofFn F, by rw [e2]; simp, by simpa using hlc, hcm, ⟨flatMap_len hl _, fun hne => ?_⟩, fun a ha => ?_, fun h => (by cases h), ?_⟩
    · have hlen0 : 0 < len := by simpa [Nat.pos_iff_ne_zero] using hne
      have hz := (hc _ _ (hF ⟨0, hlen0⟩).1).2 0 h0
      obtain ⟨b, off, spot⟩ := ad
      simp only [Nat.zero_mul, Addr.add, if_true] at hz
      have hz' : ∃ u, W.cell? ⟨b, off, spot⟩ = some u := by
        rw [hz]
        exact ⟨_, List.getElem?_eq_getElem (by rw [hl]; exact h0)⟩
      obtain ⟨u, hu⟩ := hz'
      have hsp : spot = none := by
        cases spot with
        | none => rfl
        | some s => unfold World.cell? at hu; split at hu <;> simp at hu
      subst hsp
      refine ⟨b, off, rfl, ?_, fun j hj => ?_⟩
      · unfold World.cell? at hu
        split at hu
        · rename_i hb; exact (Array.getElem?_eq_some_iff.1 hb).1
        · cases hu
      · have hj' : j < len * sz := by simpa using hj
        have hk : j / sz < len := Nat.div_lt_of_lt_mul (by rw [Nat.mul_comm]; exact hj')
        have hr : j % sz < sz := Nat.mod_lt _ h0
        have hcj := (hc _ _ (hF ⟨j / sz, hk⟩).1).2 (j % sz) hr
        have hfa := flatMap_at hl (List.ofFn F) (j / sz) (j % sz) (by simpa using hk) hr
        have hjj : j / sz * sz + j % sz = j := by rw [Nat.mul_comm]; exact Nat.div_add_mod j sz
        rw [hjj] at hfa
        have hTs : (List.ofFn F)[j / sz]'(by simpa using hk) = F ⟨j / sz, hk⟩ := by simp
        rw [hTs] at hfa
        have ad1 : Addr.add (Addr.add ⟨b, off, none⟩ (j / sz * sz)) (j % sz) = ⟨b, off + j, none⟩ := by
          unfold Addr.add; split <;> split <;> simp_all <;> omega
        simp only [ad1] at hcj
        rw [hcj, hfa]
    · obtain ⟨i, rfl⟩ := List.mem_ofFn.1 ha
      exact (hF i).2
    · rw [List.length_map, hel] at hw0
      rw [List.length_ofFn]
      exact Nat.le_trans (Nat.mul_le_mul_right _ (Nat.le_add_right _ _)) hw0
section
variable {H : Type} {enc : TypeId × Value → H} {W : World} {base : Nat} {sp : Nat → Bool} {held : Bool}
set_option maxRecDepth 100000 in
theorem open_ilW {fuel : Nat} {cs : List Value} {x : DataW H × List MemPlace} (h : DataW.trod enc Tryd.prog W base sp held fuel 40 cs = some x) (hwt : ∀ z ∈ x.1.weights Tryd.prog 40, z ≤ reachBytes) : ∃ s : IL, cs = [s.val] ∧ s.In W.heap.size W ∧ (s.A = none → s.c = 0) ∧ s.l.length * 8 ≤ 140737488355328 := by
  obtain ⟨A, c, l, rfl, h1, h2, h3, -, h5, h6⟩ := open_rowW (α := Int) (f := fun z => [icell z]) (R := fun _ => True) (sz := 1) Tryd.underlying40 (by kernel_rfl) (by omega) (fun a cs h => cellsOne h) (fun _ => rfl)
    hwt (fun m cs x hx _ => by obtain ⟨k, e, -⟩ := DataW.trod_int Tryd.underlying3 hx; exact ⟨k, e, trivial⟩) h
  rw [show Tryd.prog.bytesOf 3 = 8 by kernel_rfl] at h6
  rw [flat_one] at h3
  exact ⟨⟨A, c, l⟩, rfl, ⟨h1, h2, h3⟩, h5, Nat.le_trans h6 (by unfold reachBytes; omega)⟩
set_option maxRecDepth 100000 in
theorem open_plW {fuel : Nat} {cs : List Value} {x : DataW H × List MemPlace} (h : DataW.trod enc Tryd.prog W base sp held fuel 65 cs = some x) (hwt : ∀ z ∈ x.1.weights Tryd.prog 65, z ≤ reachBytes) : ∃ s : PL, cs = [s.val] ∧ s.In W.heap.size W ∧ (s.A = none → s.c = 0) ∧ s.l.length * 16 ≤ 140737488355328 := by
  obtain ⟨A, c, l, rfl, h1, h2, h3, -, h5, h6⟩ := open_rowW (α := Int × Int) (f := pcells) (R := fun _ => True) (sz := 2) Tryd.underlying65 (by kernel_rfl) (by omega) (fun a cs h => cellsTwo h) (fun _ => rfl)
    hwt (fun m cs x hx _ => by
      obtain ⟨xs, m', -, -, hl, hxl, hel⟩ := DataW.trod_array Tryd.underlying68 hx
      have c75 : Tryd.prog.cellsOf 68 = 2 := by kernel_rfl
      have c3 : Tryd.prog.cellsOf 3 = 1 := by kernel_rfl
      rw [c75] at hl
      obtain ⟨a, b, rfl⟩ : ∃ a b, cs = [a, b] := by
        match cs, hl with
        | [a, b], _ => exact ⟨a, b, rfl⟩
      have h0 := hel 0 (by omega)
      have h1 := hel 1 (by omega)
      rw [c3, List.getElem?_eq_getElem (by omega)] at h0 h1
      simp only [Nat.zero_mul, List.drop_zero, Nat.one_mul, List.drop_succ_cons, List.take_succ_cons, List.take_zero] at h0 h1
      obtain ⟨k0, e0, -⟩ := DataW.trod_int Tryd.underlying3 h0
      obtain ⟨k1, e1, -⟩ := DataW.trod_int Tryd.underlying3 h1
      cases e0
      cases e1
      exact ⟨(k0, k1), rfl, trivial⟩) h
  rw [show Tryd.prog.bytesOf 68 = 16 by kernel_rfl] at h6
  exact ⟨⟨A, c, l⟩, rfl, ⟨h1, h2, h3⟩, h5, Nat.le_trans h6 (by unfold reachBytes; omega)⟩
set_option maxRecDepth 100000 in
/-- An interpretation that came in. -/
theorem open_interpW {b0 : Nat} {v : Value} {d : DataW H} {p : List MemPlace} (hval : Value.okWide Tryd.prog W .any b0 58 v) (h : DataW.Trod enc Tryd.prog W base sp held 58 v d p) (hwt : ∀ z ∈ d.weights Tryd.prog 58, z ≤ reachBytes) : ∃ i : IN, v = i.val ∧ i.In W.heap.size W ∧ i.NilOk ∧ (∀ s ∈ i.C, s.l.length * 8 ≤ 140737488355328) ∧ ∀ s ∈ i.R, s.l.length * 16 ≤ 140737488355328 := by
  obtain ⟨n0, n1, n2, n3, y0, y1, y2, y3, m, hv0, hd, -, t0, t1, t2, t3⟩ := Joins.open_agg4 Tryd.underlying58 (by kernel_rfl) (by kernel_rfl) hval h
  rw [hd, DataW.weights, Tryd.underlying58] at hwt
  have wt1 := weights_each hwt 1 55 y1.1 rfl rfl
  have wt2 := weights_each hwt 2 56 y2.1 rfl rfl
  have wt3 := weights_each hwt 3 40 y3.1 rfl rfl
  obtain ⟨k, e0, -⟩ := DataW.trod_int Tryd.underlying3 t0
  obtain ⟨CA, cc, C, e1, c1, c2, c3, c4, -, -⟩ := open_rowW (α := IL) (f := fun s => [s.val]) (R := fun s => s.In W.heap.size W ∧ (s.A = none → s.c = 0) ∧ s.l.length * 8 ≤ 140737488355328) (sz := 1) Tryd.underlying55 (by kernel_rfl) (by omega) (fun a cs h => cellsOne h) (fun _ => rfl) wt1 (fun m cs x hx hz => open_ilW hx hz) t1
  obtain ⟨RA, rc, R, e2, r1, r2, r3, r4, -, -⟩ := open_rowW (α := PL) (f := fun s => [s.val]) (R := fun s => s.In W.heap.size W ∧ (s.A = none → s.c = 0) ∧ s.l.length * 16 ≤ 140737488355328) (sz := 1) Tryd.underlying56 (by kernel_rfl) (by omega) (fun a cs h => cellsOne h) (fun _ => rfl) wt2 (fun m cs x hx hz => open_plW hx hz) t2
  obtain ⟨I, e3, i1, i2, -⟩ := open_ilW t3 wt3
  cases e0
  cases e1
  cases e2
  cases e3
  rw [flat_one] at c3 r3
  exact ⟨⟨k, CA, cc, C, RA, rc, R, I⟩, hv0, ⟨c1, c2, c3, fun s hs => (c4 s hs).1, r1, r2, r3, fun s hs => (r4 s hs).1, i1⟩, ⟨fun s hs => (c4 s hs).2.1, fun s hs => (r4 s hs).2.1, i2⟩, fun s hs => (c4 s hs).2.2, fun s hs => (r4 s hs).2.2⟩

theorem nil_slice {fuel : Nat} {ts e : TypeId} {n c : Nat} {x : DataW H × List MemPlace} (hts : Tryd.prog.underlying ts = some (.slice e)) (h : DataW.trod enc Tryd.prog W base sp held fuel ts [.slice none n c] = some x) : c = 0 := by
  rcases DataW.trod_slice hts h with ⟨e2, -⟩ | ⟨ad, len, cap, elems, rest, m, -, e2, -⟩
  · cases e2; rfl
  · cases e2
set_option maxRecDepth 100000 in
/-- Nil lists of a knowledge base that came in have no capacity. -/
theorem base_nil {b : BN} {d : DataW H} {p : List MemPlace} (h : DataW.Trod enc Tryd.prog W base sp held 54 b.val d p) : b.NilOk := by
  have cN : Tryd.prog.cellsOf 24 = 3 := by kernel_rfl
  have cR : Tryd.prog.cellsOf 50 = 1 := by kernel_rfl
  have cL : Tryd.prog.cellsOf 52 = 1 := by kernel_rfl
  obtain ⟨fuel, hf0⟩ := h
  have hcs : b.val.cells.toList = [.slice b.N.C.A b.N.C.l.length b.N.C.c, .slice b.N.R.A b.N.R.l.length b.N.R.c, .slice b.N.I.A b.N.I.l.length b.N.I.c, .slice b.IA b.I.length b.ic, .slice b.R.A b.R.l.length b.R.c, .slice b.FA b.F.length b.fc, .slice b.L.A b.L.l.length b.L.c] := by simp [BN.val, Value.cells]
  rw [hcs] at hf0
  obtain ⟨xs, n, -, -, -, hlen, hf⟩ := DataW.trod_struct Tryd.underlying54 hf0
  obtain ⟨x0, x1, x2, x3, x4, rfl⟩ : ∃ a b c d e, xs = [a, b, c, d, e] := by
    match xs, hlen with
    | [a, b, c, d, e], _ => exact ⟨a, b, c, d, e, rfl⟩
  have f2 := hf 2 _ rfl
  have f4 := hf 4 _ rfl
  refine ⟨fun h => ?_, fun h => ?_⟩
  · rw [h] at f2
    exact nil_slice Tryd.underlying50 f2
  · rw [h] at f4
    exact nil_slice Tryd.underlying52 f4
end
end Go.Proofs.YtnkkpjgclekobaaDoor

namespace Go.Proofs.YtnkkpjgclekobaaDoor
open Go.ChangeShapes Go.WideShapes Go.ChangeAt Go.WideElems Go.RowKit

set_option maxRecDepth 100000 in
theorem own3_lifted (os : Os) (started : os.Started) (H : Type) (enc : TypeId × Value → H) :
    ReturnsInHanded {} Tryd.checked os 4 .any (fun w args => (Rows.interpOwnSpec.pre enc Tryd.prog Tryd.f4 [] false w args ∧ laidMetH Tryd.prog laidList w) ∧ sizedMet enc Tryd.prog Tryd.f4 (OpenSpec.ofChange Rows.interpOwnSpec) false w args)
      (Rows.interpOwnSpec.post enc Tryd.prog Tryd.f4 false true false false) := by
  refine returnsInHanded_of_change_and (C := Tryd.checked) (X := fun w _ => laidMetH Tryd.prog laidList w) (fun _ _ _ hh h => h.of_heap hh) own started (by kernel_rfl) Tryd.func4
    (ChangeSpec.witness_shaped (enc := enc) (C := Tryd.checked) (os := os) (X := fun w _ => laidMetH Tryd.prog laidList w) false (World.doorLaid Tryd.prog 400 os) #[.agg #[.slice none 0 0, .slice none 0 0, .slice none 0 0, .slice none 0 0, .slice none 0 0, .slice none 0 0, .slice none 0 0], .agg #[.int .i64 0, .int .i64 0, .slice none 0 0], .agg #[.int .i64 0, .slice none 0 0, .slice none 0 0, .slice none 0 0], .int .i64 0] 8 rfl (World.shaped_of_RefB (by kernel_rfl) (by kernel_rfl)) (by kernel_rfl) (by kernel_rfl) (by kernel_rfl) (door_met os _)) ?_
  intro W base args ds gs before hval0 hW _ hwt0 hL _
  have hval : ∀ (j : Nat) t v, Tryd.f4.params[j]? = some t → args[j]? = some v → Value.okWide Tryd.prog W .any base t v := hval0
  have hW' := hW
  have hlt := hW.lt
  obtain ⟨p, q, hA0, hV, rfl, hfz, hnd⟩ := hW
  have hA : DataW.TrodAll enc Tryd.prog W 0 (fun _ => true) true Tryd.f4.params.toList args.toList ds p := hA0
  rw [Tryd.params4] at hA hval
  have hwt : ∀ z ∈ DataW.weightsEach Tryd.prog (Tryd.f4.params.toList ++ Rows.interpOwnSpec.plain.varTypes Tryd.prog) (ds ++ gs), z ≤ reachBytes := fun z hz => of_decide_eq_true (List.all_eq_true.1 hwt0 z hz)
  rw [Tryd.params4] at hwt
  obtain ⟨v0, v1, v2, v3, d0, d1, d2, d3, p0, p1, p2, p3, rfl, rfl, rfl, h0, h1, h2, h3⟩ := trodAll_four hA
  have hw2 := weights_each hwt 2 58 d2 rfl rfl
  obtain ⟨rfl, rfl⟩ := trodVars_none hV
  have hG := GT_of_laid hL
  obtain ⟨b, rfl, hb0⟩ := open_base (hval 0 54 v0 rfl rfl) h0
  obtain ⟨T, rfl, hT⟩ := open_concept (hval 1 27 v1 rfl rfl) h1
  obtain ⟨i, rfl, hi, hin, hCs, hRs⟩ := open_interpW (hval 2 58 v2 rfl rfl) h2 hw2
  obtain ⟨r, rfl, hr1, hr2, hr3⟩ := open_int Tryd.underlying3 (hval 3 3 v3 rfl rfl) h3
  have hbn := base_nil h0
  have h63 : r ≤ 9223372036854775807 := by
    have h := hr3
    simp only [Lit.wf, Bool.and_eq_true, decide_eq_true_eq] at h
    exact Int.le_trans h.2 (by decide)
  clear hwt0 hwt
  clear hA0 hval0
  simp only [List.append_nil] at hW' hlt
  refine (InterpOwn_any b T i r W hG hb0 hT hi hbn hin hCs hRs h63).mono fun e W' ⟨he, hb⟩ => ?_
  subst he
  refine ⟨_, rfl, post_of_low (pa := p0 ++ (p1 ++ (p2 ++ p3))) (pv := []) hW' hb (fun _ _ _ => trodAll_mk1 (shut_bool Tryd.underlying4 _)) (fun sp hsp => trodAll_mk4 (Trod_stays laidOut (by kernel_rfl) (of_decide_eq_true (by kernel_rfl)) h0 (fun x hx => hb.same (hlt x (by simp [hx]))) (fun x hx => hsp x (by simp [hx]))) (Trod_stays laidOut (by kernel_rfl) (of_decide_eq_true (by kernel_rfl)) h1 (fun x hx => hb.same (hlt x (by simp [hx]))) (fun x hx => hsp x (by simp [hx]))) (Trod_stays laidOut (by kernel_rfl) (of_decide_eq_true (by kernel_rfl)) h2 (fun x hx => hb.same (hlt x (by simp [hx]))) (fun x hx => hsp x (by simp [hx]))) (Trod_stays laidOut (by kernel_rfl) (of_decide_eq_true (by kernel_rfl)) h3 (fun x hx => hb.same (hlt x (by simp [hx]))) (fun x hx => hsp x (by simp [hx])))) (fun _ _ => rfl) (by simp) (ok_one (by kernel_rfl) rfl (okWide_bool_mk Tryd.underlying4 _))⟩

theorem interpOwn_holds : Rows.InterpOwnSaid :=
  OpenClaim.holds_of_wide 4 Tryd.f4 rfl rfl rfl rfl rfl rfl rfl ⟨rfl, rfl, rfl, rfl, rfl⟩ rfl rfl rfl rfl rfl (by kernel_rfl) Tryd.func4 (by kernel_rfl)
    (of_decide_eq_true (by kernel_rfl)) (by unfold Func.isWrapper; first | (rw [if_pos (by decide +kernel)]; kernel_rfl) | (rw [if_neg (by decide +kernel)]; exact ⟨rfl, rfl⟩))
    (fun os started H enc _ => own3_lifted os started H enc)
#print axioms interpOwn_holds
end Go.Proofs.YtnkkpjgclekobaaDoor
