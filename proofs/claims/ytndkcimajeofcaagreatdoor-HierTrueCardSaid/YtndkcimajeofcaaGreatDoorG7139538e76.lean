import Derived.Test.YtndkcimajeofcaaGreatDoorG8f0e2fa8ed
import Derived.Test.YtndkcimajeofcaaGreatDoorG96e2eda5ca
import Derived.Test.YtndkcimajeofcaaGreatDoorG8e4b9ee58e
import Derived.Test.YtndkcimajeofcaaGreatDoorG7773ef2041
import Derived.Test.YtndkcimajeofcaaGreatDoorG07ae269e65
import Derived.Test.YtndkcimajeofcaaGreatDoorGee16979949
import Derived.Test.YtndkcimajeofcaaGreatDoorG71e4b1a3b7
import Derived.Test.YtndkcimajeofcaaGreatDoorG239ec7f19c
import Derived.Test.YtndkcimajeofcaaGreatDoorG2b4cfcc013
namespace Go.Proofs.YtndkcimajeofcaaGreatDoor
open Go.RowKit

/-- A concept's string says which it is. -/
theorem str_inj {n : NM} (hok : n.ok = true) {t u : Tr} (ht : t.wfT n.C.l.length n.R.l.length = true) (hu : u.wfT n.C.l.length n.R.l.length = true) (h : t.str n.C.l n.R.l = u.str n.C.l n.R.l) : t = u := by
  obtain ⟨hC, hR, -⟩ := finds_ok hok
  have h1 := toksF_str hC.words hR.words t ht
  have h2 := toksF_str hC.words hR.words u hu
  rw [h, h2] at h1
  have e := Option.some.inj h1
  have p1 := parse_toks hC hR t ht _ [] (Nat.le_refl _)
  have p2 := parse_toks hC hR u hu (t.toks n.C.l n.R.l).length [] (by rw [e]; exact Nat.le_refl _)
  rw [e, p1] at p2
  cases p2
  rfl
theorem beq_eq (t : Tr) : ∀ u, t.beq u = true → t = u :=
  Tr.rec (motive_1 := fun t => ∀ u, t.beq u = true → t = u) (motive_2 := fun l => ∀ m : List Tr, l.length = m.length → Tr.beqs l m = true → l = m)
    (fun op n args ih u h => by
      obtain ⟨op', n', args'⟩ := u
      simp only [Tr.beq, Bool.and_eq_true, beq_iff_eq, decide_eq_true_eq] at h
      obtain ⟨⟨rfl, rfl⟩, h1, h2⟩ := h
      rw [ih _ h1 h2])
    (fun m h1 _ => (List.eq_nil_of_length_eq_zero h1.symm).symm)
    (fun t ts h1 h2 m hl h => by
      match m, hl, h with
      | x :: xs, hl, h =>
        rw [Tr.beqs, Bool.and_eq_true] at h
        rw [h1 x h.1, h2 xs (by simpa using hl) h.2]) t
theorem beq_iffT (t u : Tr) : t.beq u = true ↔ t = u := ⟨beq_eq t u, fun h => h ▸ beq_self t⟩
mutual
/-- The nodes of a tree, each ahead of its parts. -/
def Tr.nodesT : Tr → List Tr
  | .mk op n args => .mk op n args :: Tr.nodesTs args
def Tr.nodesTs : List Tr → List Tr
  | [] => []
  | t :: ts => Tr.nodesT t ++ Tr.nodesTs ts
end
theorem nodes_tr (T : MT) : (MT.nodes T).map MT.tr = T.tr.nodesT :=
  MT.rec (motive_1 := fun T => (MT.nodes T).map MT.tr = T.tr.nodesT) (motive_2 := fun l => (MT.nodesL l).map MT.tr = Tr.nodesTs (MT.trs l))
    (fun op n A c args ih => by rw [MT.nodes, List.map_cons, ih, MT.tr, Tr.nodesT])
    (by rw [MT.nodesL, MT.trs, Tr.nodesTs]; rfl)
    (fun t ts h1 h2 => by rw [MT.nodesL, List.map_append, h1, h2, MT.trs, Tr.nodesTs]) T
theorem nodes_trs : ∀ l : List MT, (l.flatMap MT.nodes).map MT.tr = Tr.nodesTs (l.map MT.tr)
  | [] => rfl
  | t :: ts => by rw [List.flatMap_cons, List.map_append, nodes_tr, nodes_trs ts, List.map_cons, Tr.nodesTs]
/-- The marks at the nodes of a tree, in their order. -/
def mksT (t : Tr) : List Tr := t.nodesT.filterMap markT
def mksTs (l : List Tr) : List Tr := (Tr.nodesTs l).filterMap markT
theorem mksT_mk (op n : Int) (args : List Tr) : mksT (.mk op n args) = (markT (.mk op n args)).toList ++ mksTs args := by
  rw [mksT, Tr.nodesT, List.filterMap_cons]
  cases markT (.mk op n args) <;> rfl
theorem mksTs_cons (t : Tr) (ts : List Tr) : mksTs (t :: ts) = mksT t ++ mksTs ts := by rw [mksTs, Tr.nodesTs, List.filterMap_append]; rfl
theorem mksTs_nil : mksTs [] = [] := rfl
theorem mks_nnf (C R : Nat) (t : Tr) : t.wfT C R = true → ∀ a, mksT (nnf t a) = mksT t :=
  Tr.rec (motive_1 := fun t => t.wfT C R = true → ∀ a, mksT (nnf t a) = mksT t) (motive_2 := fun l => Tr.wfTs C R l = true → (∀ a, mksTs (nnfs l a) = mksTs l) ∧ ∀ x, l = [x] → ∀ a, mksT (nnf x a) = mksT x)
    (fun op nn args ih h a => by
      rw [Tr.wfT, Bool.and_eq_true] at h
      obtain ⟨hw, hs⟩ := h
      simp only [wfB, Bool.and_eq_true, decide_eq_true_eq, beq_iff_eq] at hw
      obtain ⟨h0, h8, hl, hn0, hn1⟩ := hw
      obtain ⟨i1, i2⟩ := ih hs
      rcases (show op = 0 ∨ op = 3 ∨ (op = 1 ∨ op = 2 ∨ op = 4 ∨ op = 5) ∨ (op = 6 ∨ op = 7) by omega) with rfl | rfl | hop | hop
      · have : args = [] := by simpa [arityF] using hl
        subst this
        cases a
        · rfl
        · simp [nnf, mksT_mk, mksTs_nil, mksTs_cons, markT]
      · obtain ⟨x, rfl⟩ := List.length_eq_one_iff.1 (show args.length = 1 by simp [arityF] at hl; omega)
        simp only [nnf, nnfHead, if_true]
        rw [i2 x rfl]
        simp [mksT_mk, mksTs_cons, mksTs_nil, markT]
      · have j1 := i1 a
        rcases hop with rfl | rfl | rfl | rfl <;> cases a <;> simp_all [nnf, dualF, mksT_mk, markT]
      · obtain ⟨x, rfl⟩ := List.length_eq_one_iff.1 (show args.length = 1 by rw [arityF, if_pos (by omega)] at hl; omega)
        have hx := wfTs_mem hs x (by simp)
        have hm := mark_nnf (n := nn) hx op hop a
        have j1 := i1 a
        have e2 : ∃ op', nnf (.mk op nn [x]) a = .mk op' nn (nnfs [x] a) := by rcases hop with rfl | rfl <;> cases a <;> exact ⟨_, rfl⟩
        obtain ⟨op', e2⟩ := e2
        rw [e2] at hm ⊢
        rw [mksT_mk, mksT_mk, hm, j1])
    (fun _ => ⟨fun _ => rfl, fun x h => by cases h⟩)
    (fun t ts h1 h2 h => by
      rw [Tr.wfTs, Bool.and_eq_true] at h
      refine ⟨fun a => ?_, fun x hx => ?_⟩
      · rw [nnfs, mksTs_cons, mksTs_cons, h1 h.1, (h2 h.2).1]
      · cases hx
        exact h1 h.1) t
/-- The nodes of a tree that is well formed are. -/
theorem nodes_wf (C R : Nat) (t : Tr) : t.wfT C R = true → ∀ x ∈ t.nodesT, x.wfT C R = true :=
  Tr.rec (motive_1 := fun t => t.wfT C R = true → ∀ x ∈ t.nodesT, x.wfT C R = true) (motive_2 := fun l => Tr.wfTs C R l = true → ∀ x ∈ Tr.nodesTs l, x.wfT C R = true)
    (fun op n args ih h x hx => by
      rw [Tr.nodesT] at hx
      rcases List.mem_cons.1 hx with rfl | hx
      · exact h
      · rw [Tr.wfT, Bool.and_eq_true] at h
        exact ih h.2 x hx)
    (fun _ x hx => by rw [Tr.nodesTs] at hx; cases hx)
    (fun t ts h1 h2 h x hx => by
      rw [Tr.wfTs, Bool.and_eq_true] at h
      rw [Tr.nodesTs] at hx
      rcases List.mem_append.1 hx with hx | hx
      · exact h1 h.1 x hx
      · exact h2 h.2 x hx) t
/-- Every node of a normal form is its own. -/
def Fixed (t : Tr) : Prop := ∀ x ∈ t.nodesT, nnf x false = x
theorem fixed_mk {op n : Int} {args : List Tr} (h : nnf (.mk op n args) false = .mk op n args) (hs : ∀ x ∈ Tr.nodesTs args, nnf x false = x) : Fixed (.mk op n args) := fun x hx => by
  rw [Tr.nodesT] at hx
  rcases List.mem_cons.1 hx with rfl | hx
  · exact h
  · exact hs x hx
theorem nnf_fixed (C R : Nat) (t : Tr) : t.wfT C R = true → ∀ a, Fixed (nnf t a) :=
  Tr.rec (motive_1 := fun t => t.wfT C R = true → ∀ a, Fixed (nnf t a)) (motive_2 := fun l => Tr.wfTs C R l = true → (∀ a, ∀ x ∈ Tr.nodesTs (nnfs l a), nnf x false = x) ∧ ∀ x, l = [x] → ∀ a, Fixed (nnf x a))
    (fun op nn args ih h a => by
      have hwf := h
      have hself : nnf (nnf (.mk op nn args) a) false = nnf (.mk op nn args) a := by
        have := nnf_nnf C R (.mk op nn args) h a false
        rwa [Bool.xor_false] at this
      rw [Tr.wfT, Bool.and_eq_true] at h
      obtain ⟨hw, hs⟩ := h
      simp only [wfB, Bool.and_eq_true, decide_eq_true_eq, beq_iff_eq] at hw
      obtain ⟨h0, h8, hl, hn0, hn1⟩ := hw
      obtain ⟨i1, i2⟩ := ih hs
      rcases (show op = 0 ∨ op = 3 ∨ (op = 1 ∨ op = 2 ∨ op = 4 ∨ op = 5 ∨ op = 6 ∨ op = 7) by omega) with rfl | rfl | hop
      · have : args = [] := by simpa [arityF] using hl
        subst this
        cases a
        · intro x hx
          have : x = .mk 0 nn [] := by simpa [nnf, nnfs, Tr.nodesT, Tr.nodesTs] using hx
          subst this
          simp [nnf, nnfs]
        · intro x hx
          have : x = .mk 3 0 [.mk 0 nn []] ∨ x = .mk 0 nn [] := by simpa [nnf, nnfs, Tr.nodesT, Tr.nodesTs] using hx
          rcases this with rfl | rfl <;> simp [nnf, nnfs, nnfHead]
      · obtain ⟨x, rfl⟩ := List.length_eq_one_iff.1 (show args.length = 1 by simp [arityF] at hl; omega)
        simp only [nnf, nnfHead, if_true]
        exact i2 x rfl _
      · have e2 : ∃ op', nnf (.mk op nn args) a = .mk op' nn (nnfs args a) := by rcases hop with rfl | rfl | rfl | rfl | rfl | rfl <;> cases a <;> exact ⟨_, rfl⟩
        obtain ⟨op', e2⟩ := e2
        rw [e2] at hself ⊢
        exact fixed_mk hself (i1 a))
    (fun _ => ⟨fun _ x hx => (by rw [nnfs, Tr.nodesTs] at hx; cases hx), fun x h => by cases h⟩)
    (fun t ts h1 h2 h => by
      rw [Tr.wfTs, Bool.and_eq_true] at h
      refine ⟨fun a x hx => ?_, fun x hx => ?_⟩
      · rw [nnfs, Tr.nodesTs] at hx
        rcases List.mem_append.1 hx with hx | hx
        · exact h1 h.1 a x hx
        · exact (h2 h.2).1 a x hx
      · cases hx
        exact h1 h.1) t
/-- The reference's marks: each only once. -/
def putR (L : List Tr) (m : Tr) : List Tr := if L.any (fun d => d.beq m) then L else L ++ [m]
def markR : Tr → Tr | .mk op n args => if op = 6 then .mk op n args else .mk 6 n [nnfHead args true]
def colR (L : List Tr) (x : Tr) : List Tr := if x.op = 6 ∨ x.op = 7 then putR L (markR x) else L
theorem putR_mem {L : List Tr} {m x : Tr} : x ∈ putR L m ↔ x ∈ L ∨ x = m := by
  unfold putR
  split
  · rename_i h
    obtain ⟨d, hd, he⟩ := List.any_eq_true.1 h
    have := beq_eq d m he
    subst this
    exact ⟨.inl, fun h => h.elim id fun e => e ▸ hd⟩
  · simp
theorem putR_in {L : List Tr} {m : Tr} (h : m ∈ L) : putR L m = L := by
  unfold putR
  rw [if_pos (show (L.any fun d => d.beq m) = true from List.any_eq_true.2 ⟨m, h, beq_self m⟩)]
theorem markR_eq {C R : Nat} {x : Tr} (hw : x.wfT C R = true) (hf : nnf x false = x) (h : x.op = 6 ∨ x.op = 7) : markT x = some (markR x) := by
  obtain ⟨op, n, args⟩ := x
  rw [Tr.wfT, Bool.and_eq_true] at hw
  obtain ⟨hw, hs⟩ := hw
  simp only [wfB, Bool.and_eq_true, decide_eq_true_eq, beq_iff_eq] at hw
  obtain ⟨h0, h8, hl, hn0, hn1⟩ := hw
  simp only [Tr.op] at h
  obtain ⟨y, rfl⟩ := List.length_eq_one_iff.1 (show args.length = 1 by rw [arityF, if_pos (by omega)] at hl; omega)
  rcases h with rfl | rfl
  · simp only [nnf, nnfs] at hf
    have : nnf y false = y := by simpa using hf
    simp [markT, markR, nnfHead, this]
  · simp [markT, markR]
theorem fold_colR {C R : Nat} : ∀ (nodes L : List Tr), (∀ x ∈ nodes, nnf x false = x ∧ x.wfT C R = true) → (∀ x ∈ nodes, ∀ m, x.op = 0 → markT x = some m → m ∈ L) → nodes.foldl colR L = (nodes.filterMap markT).foldl putR L
  | [], L, _, _ => rfl
  | x :: xs, L, h, hn => by
    obtain ⟨hf, hw⟩ := h x (by simp)
    have ih := fun L' (hL : ∀ m ∈ L, m ∈ L') => fold_colR xs L' (fun y hy => h y (by simp [hy])) (fun y hy m h0 hm => hL m (hn y (by simp [hy]) m h0 hm))
    rw [List.foldl_cons, colR]
    split
    · rename_i h6
      rw [List.filterMap_cons, markR_eq hw hf h6, List.foldl_cons]
      exact ih _ fun m hm => putR_mem.2 (.inl hm)
    · rename_i h6
      rw [List.filterMap_cons]
      rcases hm : markT x with _ | m
      · exact ih L fun m hm => hm
      · rw [List.foldl_cons, putR_in]
        · exact ih L fun m hm => hm
        · refine hn x (by simp) m ?_ hm
          obtain ⟨op, n, args⟩ := x
          simp only [Tr.op] at h6 ⊢
          rw [markT] at hm
          split at hm
          · assumption
          · first | cases hm | (rw [if_neg h6] at hm; cases hm)
theorem fold_colK {C R : List ByteArray} : ∀ (nodes L : List Tr), nodes.foldl (colK C R) L = (nodes.filterMap markT).foldl (addK C R) L
  | [], L => rfl
  | x :: xs, L => by
    rw [List.foldl_cons, colK, List.filterMap_cons]
    rcases hm : markT x with _ | m
    · exact fold_colK xs L
    · rw [List.foldl_cons]; exact fold_colK xs _
theorem look_any {n : NM} (hok : n.ok = true) {L : List Tr} {m : Tr} (hL : ∀ t ∈ L, t.wfT n.C.l.length n.R.l.length = true) (hm : m.wfT n.C.l.length n.R.l.length = true) : (look (L.map (Tr.str n.C.l n.R.l)) (m.str n.C.l n.R.l)).isSome = L.any fun d => d.beq m := by
  rw [look, List.findIdx?_isSome, List.any_map]
  rw [Bool.eq_iff_iff, List.any_eq_true, List.any_eq_true]
  constructor
  · rintro ⟨d, hd, he⟩
    refine ⟨d, hd, ?_⟩
    have := str_inj hok (hL d hd) hm (by simpa using he)
    rw [this]; exact beq_self m
  · rintro ⟨d, hd, he⟩
    refine ⟨d, hd, ?_⟩
    rw [beq_eq d m he]; simp
theorem addK_eq {n : NM} (hok : n.ok = true) {L : List Tr} {m : Tr} (hL : ∀ t ∈ L, t.wfT n.C.l.length n.R.l.length = true) (hm : m.wfT n.C.l.length n.R.l.length = true) : addK n.C.l n.R.l L m = putR L m := by
  rw [addK, putR, look_any hok hL hm]
theorem fold_addK {n : NM} (hok : n.ok = true) : ∀ (ms L : List Tr), (∀ t ∈ L, t.wfT n.C.l.length n.R.l.length = true) → (∀ t ∈ ms, t.wfT n.C.l.length n.R.l.length = true) → ms.foldl (addK n.C.l n.R.l) L = ms.foldl putR L
  | [], L, _, _ => rfl
  | m :: ms, L, hL, hm => by
    rw [List.foldl_cons, List.foldl_cons, addK_eq hok hL (hm m (by simp))]
    refine fold_addK hok ms _ (fun t ht => ?_) (fun t ht => hm t (by simp [ht]))
    rcases putR_mem.1 ht with h | rfl
    · exact hL t h
    · exact hm t (by simp)
end Go.Proofs.YtndkcimajeofcaaGreatDoor

namespace Go.Proofs.YtndkcimajeofcaaGreatDoor
open Go.RowKit

theorem look_eq {n : NM} (hok : n.ok = true) {m : Tr} (hm : m.wfT n.C.l.length n.R.l.length = true) : ∀ {L : List Tr}, (∀ t ∈ L, t.wfT n.C.l.length n.R.l.length = true) → look (L.map (Tr.str n.C.l n.R.l)) (m.str n.C.l n.R.l) = L.findIdx? fun d => d.beq m
  | [], _ => rfl
  | d :: L, hL => by
    have ih := look_eq hok hm (L := L) fun t ht => hL t (by simp [ht])
    unfold look at ih ⊢
    rw [List.map_cons, List.findIdx?_cons, List.findIdx?_cons, ih]
    have : (d.str n.C.l n.R.l == m.str n.C.l n.R.l) = d.beq m := by
      rw [Bool.eq_iff_iff, beq_iff_eq, beq_iffT]
      exact ⟨fun h => str_inj hok (hL d (by simp)) hm h, fun h => by rw [h]⟩
    rw [this]
/-- Where a mark stands, as the reference says. -/
def placeI (L : List Tr) (m : Tr) : Int := match L.findIdx? (fun d => d.beq m) with | some k => (k : Nat) | none => -1
def placeT (L : List Tr) (m : Tr) : Nat := (L.findIdx? fun d => d.beq m).getD 0
mutual
def coverR (L : List Tr) : Tr → Bool
  | .mk op n args => if op = 0 then L.any (fun d => d.beq (.mk op n args)) else ((if op = 6 ∨ op = 7 then L.any (fun d => d.beq (markR (.mk op n args))) else true) && coverRs L args)
def coverRs (L : List Tr) : List Tr → Bool
  | [] => true
  | t :: ts => coverR L t && coverRs L ts
end
theorem coverR_eq {n : NM} (hok : n.ok = true) {L : List Tr} (hL : ∀ t ∈ L, t.wfT n.C.l.length n.R.l.length = true) (t : Tr) : t.wfT n.C.l.length n.R.l.length = true → Fixed t → coverR L t = covT n.C.l n.R.l (L.map (Tr.str n.C.l n.R.l)) t :=
  Tr.rec (motive_1 := fun t => t.wfT n.C.l.length n.R.l.length = true → Fixed t → coverR L t = covT n.C.l n.R.l (L.map (Tr.str n.C.l n.R.l)) t) (motive_2 := fun l => Tr.wfTs n.C.l.length n.R.l.length l = true → (∀ x ∈ Tr.nodesTs l, nnf x false = x) → coverRs L l = covL n.C.l n.R.l (L.map (Tr.str n.C.l n.R.l)) l)
    (fun op nn args ih h hf => by
      have hwf := h
      have hself := hf (.mk op nn args) (by rw [Tr.nodesT]; simp)
      have hfs : ∀ x ∈ Tr.nodesTs args, nnf x false = x := fun x hx => hf x (by rw [Tr.nodesT]; simp [hx])
      rw [Tr.wfT, Bool.and_eq_true] at h
      obtain ⟨hw, hs⟩ := h
      have i1 := ih hs hfs
      simp only [wfB, Bool.and_eq_true, decide_eq_true_eq, beq_iff_eq] at hw
      obtain ⟨h0, h8, hl, hn0, hn1⟩ := hw
      have hc : ∀ t : Tr, covN n.C.l n.R.l (L.map (Tr.str n.C.l n.R.l)) t = match markT t with | some m => (look (L.map (Tr.str n.C.l n.R.l)) (m.str n.C.l n.R.l)).isSome | none => true := fun _ => rfl
      rw [coverR, covT, hc]
      by_cases e0 : op = 0
      · subst e0
        have : args = [] := by simpa [arityF] using hl
        subst this
        rw [if_pos rfl, show markT (.mk 0 nn []) = some (.mk 0 nn []) from rfl]
        simp only [covL, Bool.and_true]
        rw [look_any hok hL hwf]
      · rw [if_neg e0, i1]
        by_cases e6 : op = 6 ∨ op = 7
        · have hm := markR_eq hwf hself (by simpa [Tr.op] using e6)
          rw [if_pos e6, hm]
          simp only []
          rw [look_any hok hL (mark_wf hwf hm).1]
        · rw [if_neg e6, show markT (.mk op nn args) = none by rw [markT, if_neg e0, if_neg e6]])
    (fun _ _ => rfl)
    (fun t ts h1 h2 h hf => by
      rw [Tr.wfTs, Bool.and_eq_true] at h
      rw [coverRs, covL, h1 h.1 (fun x hx => hf x (by rw [Tr.nodesTs]; exact List.mem_append_left _ hx)), h2 h.2 (fun x hx => hf x (by rw [Tr.nodesTs]; exact List.mem_append_right _ hx))]) t
mutual
def trueR (L : List Tr) (y : Nat) : Tr → Bool
  | .mk op n args => if op = 0 ∨ op = 6 then y.testBit (placeT L (.mk op n args)) else if op = 7 then !(y.testBit (placeT L (markR (.mk op n args)))) else if op = 1 then true
    else if op = 3 then !((trueRs L y args).headD false) else if op = 4 then ((trueRs L y args).headD false && ((trueRs L y args).drop 1).headD false) else if op = 5 then ((trueRs L y args).headD false || ((trueRs L y args).drop 1).headD false) else false
def trueRs (L : List Tr) (y : Nat) : List Tr → List Bool
  | [] => []
  | t :: ts => trueR L y t :: trueRs L y ts
end
theorem trueR_eq {n : NM} (hok : n.ok = true) {L : List Tr} {m y : Nat} (hy : y < 2 ^ m) (hL : ∀ t ∈ L, t.wfT n.C.l.length n.R.l.length = true) (t : Tr) : t.wfT n.C.l.length n.R.l.length = true → Fixed t → trueR L y t = truT n.C.l n.R.l (L.map (Tr.str n.C.l n.R.l)) m t y :=
  Tr.rec (motive_1 := fun t => t.wfT n.C.l.length n.R.l.length = true → Fixed t → trueR L y t = truT n.C.l n.R.l (L.map (Tr.str n.C.l n.R.l)) m t y) (motive_2 := fun l => Tr.wfTs n.C.l.length n.R.l.length l = true → (∀ x ∈ Tr.nodesTs l, nnf x false = x) → ∀ t ∈ l, trueR L y t = truT n.C.l n.R.l (L.map (Tr.str n.C.l n.R.l)) m t y)
    (fun op nn args ih h hf => by
      have hwf := h
      have hself := hf (.mk op nn args) (by rw [Tr.nodesT]; simp)
      have hfs : ∀ x ∈ Tr.nodesTs args, nnf x false = x := fun x hx => hf x (by rw [Tr.nodesT]; simp [hx])
      rw [Tr.wfT, Bool.and_eq_true] at h
      obtain ⟨hw, hs⟩ := h
      have i1 := ih hs hfs
      simp only [wfB, Bool.and_eq_true, decide_eq_true_eq, beq_iff_eq] at hw
      obtain ⟨h0, h8, hl, hn0, hn1⟩ := hw
      have hk : ∀ mm : Tr, mm.wfT n.C.l.length n.R.l.length = true → placeN (L.map (Tr.str n.C.l n.R.l)) (mm.str n.C.l n.R.l) = placeT L mm := fun mm hm => by rw [placeN, placeT, look_eq hok hm hL]
      rw [trueR, truT]
      rcases (show (op = 0) ∨ (op = 6 ∨ op = 7) ∨ op = 1 ∨ op = 2 ∨ op = 3 ∨ (op = 4 ∨ op = 5) by omega) with rfl | e6 | rfl | rfl | rfl | e4
      · have : args = [] := by simpa [arityF] using hl
        subst this
        rw [show markS n.C.l n.R.l (.mk 0 nn []) = (Tr.mk 0 nn []).str n.C.l n.R.l from rfl, hk _ hwf]
        simp [truN, ownF, hy]
      · have hm := markR_eq hwf hself (by simpa [Tr.op] using e6)
        rw [show markS n.C.l n.R.l (.mk op nn args) = match markT (.mk op nn args) with | some m => m.str n.C.l n.R.l | none => [] from rfl, hm]
        simp only []
        rw [hk _ (mark_wf hwf hm).1]
        rcases e6 with rfl | rfl <;> simp [truN, ownF, hy, markR]
      · simp [truN, hy]
      · simp [truN]
      · obtain ⟨x, rfl⟩ := List.length_eq_one_iff.1 (show args.length = 1 by simp [arityF] at hl; omega)
        have := i1 x (by simp)
        simp [truN, hy, trueRs, truL, this]
      · have h2 : args.length = 2 := by rcases e4 with rfl | rfl <;> (simp [arityF] at hl; omega)
        obtain ⟨u, v, rfl⟩ : ∃ u v, args = [u, v] := by match args, h2 with | [u, v], _ => exact ⟨u, v, rfl⟩
        have e1 := i1 u (by simp)
        have e2 := i1 v (by simp)
        rcases e4 with rfl | rfl <;> simp [truN, trueRs, truL, e1, e2])
    (fun _ _ x hx => by cases hx)
    (fun t ts h1 h2 h hf x hx => by
      rw [Tr.wfTs, Bool.and_eq_true] at h
      rcases List.mem_cons.1 hx with rfl | hx
      · exact h1 h.1 (fun x hx => hf x (by rw [Tr.nodesTs]; exact List.mem_append_left _ hx))
      · exact h2 h.2 (fun x hx => hf x (by rw [Tr.nodesTs]; exact List.mem_append_right _ hx)) x hx) t
end Go.Proofs.YtndkcimajeofcaaGreatDoor

namespace Go.Proofs.YtndkcimajeofcaaGreatDoor
open Go.RowKit

/-- A row of one's own that holds these trees. -/
def TRow5 (base : Nat) (W : World) (v : Value) (Ls : List MT) : Prop := W.ownsRow base 33 3 v Ls.length (Ls.flatMap MT.cs)
theorem TRow5.cells {base : Nat} {W : World} {v : Value} {Ls : List MT} (h : TRow5 base W v Ls) : ∃ A c, v = .slice A Ls.length c ∧ Ls.length ≤ 9223372036854775807 ∧ (Ls.length ≠ 0 → ∃ g, A = some ⟨g, 0, none⟩ ∧ base ≤ g ∧ g < W.heap.size) ∧ RowAt W W.heap.size 3 A Ls.length (Ls.flatMap MT.cs) := by
  have hx := h.1
  rcases h.2 with ⟨rfl, h0⟩ | ⟨g, cap, cur, rfl, hge, hheap, hlen, hcap, hsize, htake⟩
  · exact ⟨none, 0, by rw [h0], by omega, fun hn => absurd h0 hn, hx, fun hn => absurd h0 hn⟩
  · unfold maxLen at hcap
    refine ⟨some ⟨g, 0, none⟩, cap, rfl, by omega, fun _ => ⟨g, rfl, hge, (Array.getElem?_eq_some_iff.1 hheap).1⟩, hx, fun _ => ⟨g, 0, rfl, (Array.getElem?_eq_some_iff.1 hheap).1, fun j hj => ?_⟩⟩
    rw [cell_of_blk hheap, Nat.zero_add, ← htake, List.getElem?_take, if_pos hj, Array.getElem?_toList]


theorem beq_comm5 (t u : Tr) : t.beq u = u.beq t := by rw [Bool.eq_iff_iff, beq_iffT, beq_iffT]; exact eq_comm
theorem placeI_at {L : List Tr} {t : Tr} {k : Nat} (hk : k < L.length) (h0 : ∀ j (hj : j < L.length), j < k → t.beq L[j] = false) (h1 : t.beq L[k] = true) : placeI L t = k := by
  have : L.findIdx? (fun d => d.beq t) = some k := by
    rw [List.findIdx?_eq_some_iff_getElem]
    exact ⟨hk, by rw [beq_comm5]; exact h1, fun j hj => by rw [beq_comm5, h0 j (by omega) hj]; simp⟩
  unfold placeI
  rw [this]
theorem placeI_no {L : List Tr} {t : Tr} (h : ∀ j (hj : j < L.length), t.beq L[j] = false) : placeI L t = -1 := by
  have : L.findIdx? (fun d => d.beq t) = none := by
    rw [List.findIdx?_eq_none_iff]
    intro d hd
    obtain ⟨j, hj, rfl⟩ := List.getElem_of_mem hd
    rw [beq_comm5]; exact h j hj
  unfold placeI
  rw [this]
theorem placeI_neg {L : List Tr} {t : Tr} : decide (placeI L t < 0) = !(L.any fun d => d.beq t) := by
  unfold placeI
  cases h : L.findIdx? (fun d => d.beq t) with
  | none =>
    have := List.findIdx?_eq_none_iff.1 h
    have h2 : (L.any fun d => d.beq t) = false := by rw [List.any_eq_false]; intro x hx; rw [this x hx]; simp
    rw [h2]; rfl
  | some k =>
    obtain ⟨hk, h1, -⟩ := List.findIdx?_eq_some_iff_getElem.1 h
    have h2 : (L.any fun d => d.beq t) = true := List.any_eq_true.2 ⟨L[k], List.getElem_mem hk, h1⟩
    rw [h2]; simp
set_option maxRecDepth 100000 in
set_option maxHeartbeats 4000000 in
theorem PlaceI_any {base : Nat} (v : Value) (Ls : List MT) (T : MT) (w : World) (h : TRow5 base w v Ls) (hL : ∀ t ∈ Ls, t.In w.heap.size w) (hT : T.In w.heap.size w) :
    Calls Tryz.prog 80 #[v, T.val] w fun e w' => e = .returned (.int .i64 (placeI (Ls.map MT.tr) T.tr)) ∧ Below w.heap.size w w' := by
  obtain ⟨A, c, rfl, hlen, hg, hr⟩ := h.cells
  obtain ⟨W1, hW1, hB1, hs1, hblk1⟩ := newBlk w _ rfl #[.int .i64 T.op, .int .i64 T.n, .slice T.A T.args.length T.c] 33
  simp only [MT.val]
  go_enter Tryz.func80, Tryz.ntmps80
  go_wp2_with fail
  go_loopw [9] (fun i wr => ∃ k : Nat, k ≤ Ls.length ∧ i = .int .i64 k ∧ (∀ j (hj : j < Ls.length), j < k → T.tr.beq Ls[j].tr = false) ∧ Below w.heap.size w wr ∧ Below W1.heap.size W1 wr) (fun i _ => Ls.length - (intOf i).toNat)
  case atStart => exact ⟨0, Nat.zero_le _, rfl, fun j _ h => absurd h (by omega), hB1, Below.refl _ _⟩
  case round =>
    obtain ⟨k, hk, rfl, hall, hbw, hb1⟩ := hrel
    have HA := Lib.hid hall
    clear hall
    by_cases hlt : k < Ls.length
    · obtain ⟨ab, aoff, rfl, -, g0, g1, g2⟩ := elem3 hr hbw hlt
      obtain ⟨W3, hW3, hB3, hs3, hblk3⟩ := newBlk wr _ rfl #[.int .i64 Ls[k].op, .int .i64 Ls[k].n, .slice Ls[k].A Ls[k].args.length Ls[k].c] 33
      obtain ⟨b0, b1, b2⟩ := box_cells hblk3 (Below.refl _ W3)
      have hb13 : Below W1.heap.size W1 W3 := hb1.trans (hB3.mono hb1.size)
      have hbw3 : Below w.heap.size w W3 := hbw.trans (hB3.mono hbw.size)
      obtain ⟨a0, a1, a2⟩ := box_cells hblk1 hb13
      have hsm := rSame_any T Ls[k] W3 (hT.later hbw3) ((hL _ (List.getElem_mem hlt)).later hbw3)
      simp only [MT.val] at hsm
      rcases hq : T.tr.beq Ls[k].tr
      · rw [hq] at hsm
        have HN := Lib.hid (show ∀ j (hj : j < Ls.length), j < k + 1 → T.tr.beq Ls[j].tr = false from fun j hj hjk => by
          by_cases e : j = k
          · subst e; exact hq
          · exact HA.out j hj (by omega))
        clear hq
        go_wp2_with (go_at_call 29; refine hsm.mono ?_; rintro e w4 ⟨rfl, hb4⟩)
        go_roundw
        case rel => exact ⟨k + 1, by omega, by go_num, HN.out, hbw3.trans (hb4.mono hbw3.size), hb13.trans (hb4.mono hb13.size)⟩
        case measure => simp [intOf]; omega
      · rw [hq] at hsm
        have HF := Lib.hid (show placeI (Ls.map MT.tr) T.tr = k from placeI_at (by simpa using hlt) (fun j hj hjk => by rw [List.getElem_map]; exact HA.out j (by simpa using hj) hjk) (by rw [List.getElem_map]; exact hq))
        clear hq
        go_wp2_with (go_at_call 29; refine hsm.mono ?_; rintro e w4 ⟨rfl, hb4⟩)
        go_ret
        exact ⟨by rw [HF.out]; rfl, hbw3.trans (hb4.mono hbw3.size)⟩
    · have HF := Lib.hid (show placeI (Ls.map MT.tr) T.tr = -1 from placeI_no fun j hj => by rw [List.getElem_map]; exact HA.out j (by simpa using hj) (by simp at hj; omega))
      go_wp2
      go_ret
      exact ⟨by rw [HF.out]; rfl, hbw⟩
end Go.Proofs.YtndkcimajeofcaaGreatDoor

namespace Go.Proofs.YtndkcimajeofcaaGreatDoor
open Go.RowKit
attribute [local go_sem ↓] Go.wp_at_zero Go.wp_at_succ

/-- The mark of a quantified node: the node itself, or a new tree. -/
def RetMk (X : MT) (w : World) (e : Ending) (w' : World) : Prop := ∃ M : MT, e = .returned (.agg #[.int .i64 M.op, .int .i64 M.n, .slice M.A M.args.length M.c]) ∧ M.tr = markR X.tr ∧ (M = X ∨ New w.heap.size w' M) ∧ Below w.heap.size w w'
set_option maxRecDepth 100000 in
set_option maxHeartbeats 8000000 in
theorem rMark5_any (X : MT) (w : World) (hG : G w) (hX : X.In w.heap.size w) (hF : X.WF) (h67 : X.op = 6 ∨ X.op = 7) (h1 : X.args.length = 1) : Calls Tryz.prog 82 #[X.val] w (RetMk X w) := by
  obtain ⟨op, nn, A, c, args⟩ := X
  simp only [MT.op, MT.args] at h67 h1
  obtain ⟨Y, rfl⟩ := List.length_eq_one_iff.1 h1
  obtain ⟨W1, hW1, hB1, hs1, hk1⟩ := newBlk w _ rfl #[.int .i64 op, .int .i64 nn, .slice A 1 c] 33
  obtain ⟨W2, hW2, hB2, hs2, hk2⟩ := newBlk W1 _ hs1 #[.int .i64 0, .int .i64 0, .slice none 0 0] 33
  have hB : Below w.heap.size w W2 := hB1.trans (hB2.mono (by omega))
  have hk12 := blk_lat0 hk1 (hB2.mono (by omega))
  have hS : ∀ w', Below W2.heap.size W2 w' → w'.cell? ⟨w.heap.size, 0, none⟩ = some (.int .i64 op) ∧ w'.cell? ⟨w.heap.size, 1, none⟩ = some (.int .i64 nn) ∧ w'.cell? ⟨w.heap.size, 2, none⟩ = some (.slice A 1 c) := fun w' hb => (res3 (blk_lat hk12 hb)).1
  have hkR := fun w' (hb : Below W2.heap.size W2 w') => blk_lat hk2 hb
  obtain ⟨d0, d1, d2⟩ := hS W2 (Below.refl _ _)
  have r0 := cell_of_blk hk2 0
  have r1 := cell_of_blk hk2 1
  have r2 := cell_of_blk hk2 2
  have f0 := frozen_of_blk hk2 0
  have f1 := frozen_of_blk hk2 1
  have f2 := frozen_of_blk hk2 2
  simp only [List.getElem?_toArray, List.getElem?_cons_zero, List.getElem?_cons_succ] at r0 r1 r2
  have hrow0 : RowAt w w.heap.size 3 A 1 ([Y].flatMap MT.cs) := by
    have h := hX
    rw [MT.In] at h
    exact h.2.2.1
  have hX2 := hX.later hB
  rw [MT.In] at hX2
  obtain ⟨hlc, hc, hrow, hins⟩ := hX2
  rw [MT.InAll] at hins
  have hWY : Y.WF := by
    rw [MT.WF] at hF
    have := hF.2.2.2
    rw [MT.WFs] at this
    exact this.1
  have HB := Lib.hid hB
  rcases h67 with rfl | rfl
  · clear hS hkR hB hB1 hB2 hk12 hk1 hlc hc hrow hins hWY hF
    have hk2' := hk2
    simp only [MT.val, MT.op, MT.n, MT.A, MT.c, MT.args, List.length_cons, List.length_nil]
    go_enter Tryz.func82, Tryz.ntmps82
    go_wp2_with fail
    obtain ⟨s1, s2⟩ := store3 hk2' (.int .i64 6) (.int .i64 nn) (.slice A 1 c)
    generalize (((W2.setCell ⟨w.heap.size + 1, 0, none⟩ (.int .i64 6)).setCell ⟨w.heap.size + 1, 1, none⟩ (.int .i64 nn)).setCell ⟨w.heap.size + 1, 2, none⟩ (.slice A 1 c)) = w5 at s1 s2 ⊢
    have t0 := cell_of_blk s1 0
    have t1 := cell_of_blk s1 1
    have t2 := cell_of_blk s1 2
    simp only [List.getElem?_toArray, List.getElem?_cons_zero, List.getElem?_cons_succ] at t0 t1 t2
    refine bodyPost_ret (v := .agg #[.int .i64 6, .int .i64 nn, .slice A 1 c]) (by simp [results, Tryz.f82, go_sem, t0, t1, t2]) rfl ⟨.mk 6 nn A c [Y], rfl, by rw [MT.tr_mk, markR, if_pos rfl], .inl rfl, HB.out.trans (below_grown s2 (by omega) HB.out.size)⟩
  · obtain ⟨g, off, rfl, hg, e0, e1, e2⟩ := elem3 (args := [Y]) (k := 0) hrow0 (Below.refl _ _) (by simp)
    have hE : ∀ w', Below w.heap.size w w' → w'.cell? ⟨g, off, none⟩ = some (.int .i64 Y.op) ∧ w'.cell? ⟨g, off + 1, none⟩ = some (.int .i64 Y.n) ∧ w'.cell? ⟨g, off + 2, none⟩ = some (.slice Y.A Y.args.length Y.c) := fun w' hb => by
      obtain ⟨g', off', e, -, x0, x1, x2⟩ := elem3 (args := [Y]) (k := 0) hrow0 hb (by simp)
      cases e
      exact ⟨by simpa using x0, by simpa using x1, by simpa using x2⟩
    have hfo := fun w' (hb : Below W2.heap.size W2 w') => Form_any Y true w' hWY ((hG.later hB).later hb) (hins.1.later hb)
    have hd : Below W2.heap.size W2 W2.drew := (Below.refl _ _).drew
    have HBX := Lib.hid (fun w' (hb : Below W2.heap.size W2 w') => (blk_lat hk12 hb))
    have HS := Lib.hid hS
    have HE := Lib.hid (fun w' (hb : Below W2.heap.size W2 w') => hE w' (HB.out.trans (hb.mono HB.out.size)))
    have HE0 := Lib.hid hE
    have HFO := Lib.hid hfo
    have HKR := Lib.hid hkR
    have hz2 := HB.out.size
    simp only [MT.val] at HFO
    clear hS hkR hB hB1 hB2 hk12 hk1 hlc hc hrow hins hWY hF hE hfo e0 e1 e2 hX hG d0 d1 d2 r0 r1 r2 f0 f1 f2 hg
    simp only [MT.val, MT.op, MT.n, MT.A, MT.c, MT.args, List.length_cons, List.length_nil]
    obtain ⟨d0, d1, d2⟩ := HS.out W2 (Below.refl _ _)
    go_enter Tryz.func82, Tryz.ntmps82
    go_wp2_with fail
    clear d0 d1 d2
    have HS2 := Lib.hid hs2
    clear hs2
    go_region_held (fun w' => (w'.cell? ⟨w.heap.size, 0, none⟩ = some (.int .i64 7) ∧ w'.cell? ⟨w.heap.size, 1, none⟩ = some (.int .i64 nn) ∧ w'.cell? ⟨w.heap.size, 2, none⟩ = some (.slice (some ⟨g, off, none⟩) 1 c)) ∧ (w'.cell? ⟨g, off, none⟩ = some (.int .i64 Y.op) ∧ w'.cell? ⟨g, off + 1, none⟩ = some (.int .i64 Y.n) ∧ w'.cell? ⟨g, off + 2, none⟩ = some (.slice Y.A Y.args.length Y.c)))
      (first | exact ⟨HS.out _ hd, HE.out _ hd⟩ | exact ⟨HS.out _ hb3, HE.out _ hb3⟩ | exact ⟨HS.out _ hb4, HE.out _ hb4⟩ | exact ⟨HS.out _ hb5, HE.out _ hb5⟩ | exact HZ.out)
      (first
        | (go_at_call 54; refine (rOf5_any 6 nn _ 1 1 W4).mono ?_; rintro e w5 ⟨rfl, hb5'⟩; have hb5 := hb4.trans (hb5'.mono hb4.size); have hkb := HKR.out w5 hb5; have r0 := cell_of_blk hkb 0; have r1 := cell_of_blk hkb 1; have r2 := cell_of_blk hkb 2; have f0 := frozen_of_blk hkb 0; have f1 := frozen_of_blk hkb 1; have f2 := frozen_of_blk hkb 2; have hst := store3 hkb (.int .i64 6) (.int .i64 nn) (.slice (some ⟨w3.heap.size, 0, none⟩) 1 1); have hlt5 := (Array.getElem?_eq_some_iff.1 hkb).1; have hbz : Below w.heap.size w _ := HB.out.trans ((hb5.mono HB.out.size).trans (below_grown hst.2 (by omega) (by omega))); have hZS := res3 ((hst.2.block w.heap.size (by omega) (fun e => by have := Option.some.inj e; omega)).trans (HBX.out w5 hb5)); have HZ := Lib.hid (And.intro hZS.1 (HE0.out _ hbz)))
        | (go_at_call 32; refine (HFO.out W2.drew hd).mono ?_; rintro e w3 ⟨N1, rfl, hN1, hNew, hb3'⟩; have hb3 := hd.trans hb3'; obtain ⟨W4, hW4, hB4, hs4, hk4⟩ := newBlk w3 _ rfl #[.int .i64 N1.op, .int .i64 N1.n, .slice N1.A N1.args.length N1.c] 33; have hb4 := hb3.trans (hB4.mono hb3.size)))
    obtain ⟨s1, s2⟩ := hst
    have hs2 := HS2.out
    have hNN := (new_one 6 nn (lo := W2.heap.size) (hNew.later hB4) hk4 hb3.size)
    have hN5 := hNN.later hb5'
    have hN6 := (hN5.grown s2 (MT.All.imp (fun g' hg' e => by have := Option.some.inj e; have := hg'.1; omega) _ hN5.2)).lo (show w.heap.size ≤ W2.heap.size by omega)
    generalize (((w5.setCell ⟨w.heap.size + 1, 0, none⟩ (.int .i64 6)).setCell ⟨w.heap.size + 1, 1, none⟩ (.int .i64 nn)).setCell ⟨w.heap.size + 1, 2, none⟩ (.slice (some ⟨w3.heap.size, 0, none⟩) 1 1)) = w6 at s1 s2 hN6 hbz ⊢
    have t0 := cell_of_blk s1 0
    have t1 := cell_of_blk s1 1
    have t2 := cell_of_blk s1 2
    simp only [List.getElem?_toArray, List.getElem?_cons_zero, List.getElem?_cons_succ] at t0 t1 t2
    go_wp2_with fail
    refine bodyPost_ret (v := .agg #[.int .i64 6, .int .i64 nn, .slice (some ⟨w3.heap.size, 0, none⟩) 1 1]) (by simp [results, Tryz.f82, go_sem, t0, t1, t2]) rfl ⟨.mk 6 nn (some ⟨w3.heap.size, 0, none⟩) 1 [N1], rfl, by rw [MT.tr_mk, MT.tr_mk, markR, if_neg (by decide), List.map_cons, List.map_nil, hN1]; rfl, .inr hN6, hbz⟩
end Go.Proofs.YtndkcimajeofcaaGreatDoor

namespace Go.Proofs.YtndkcimajeofcaaGreatDoor
open Go.RowKit
attribute [local go_sem ↓] Go.wp_at_zero Go.wp_at_succ

theorem quantR5_any (op : Int) (w : World) : Calls Tryz.prog 81 #[.int .i64 op] w fun e w' => e = .returned (.bool (op == 6 || op == 7)) ∧ w' = w := by
  rcases h : (op == 6)
  · go_enter Tryz.func81, Tryz.ntmps81
    go_wp2
    go_ret
    exact ⟨rfl, rfl⟩
  · go_enter Tryz.func81, Tryz.ntmps81
    go_wp2
    go_ret
    exact ⟨rfl, rfl⟩
/-- A row's own block is the old one, or a new one. -/
def OwnOf (w : World) (v v' : Value) : Prop := v'.ownBlock = v.ownBlock ∨ ∃ g, v'.ownBlock = some g ∧ w.heap.size ≤ g
/-- What a growing row keeps: all blocks but its own, which is the old one or a new one. -/
def Grw (w : World) (v : Value) (w' : World) (v' : Value) : Prop := w.grownBy w' v.ownBlock ∧ OwnOf w v v'
theorem grown_of_below {w w' : World} {row : Option Nat} (hb : Below w.heap.size w w') : w.grownBy w' row := ⟨hb.os, hb.tape, hb.output, hb.size, fun k hk _ => hb.block k hk⟩
theorem Grw.below {w w' : World} {v : Value} (hb : Below w.heap.size w w') : Grw w v w' v := ⟨grown_of_below hb, .inl rfl⟩
theorem Grw.trans {w w1 w2 : World} {v v1 v2 : Value} (h : Grw w v w1 v1) (k : Grw w1 v1 w2 v2) : Grw w v w2 v2 := by
  refine ⟨⟨k.1.os.trans h.1.os, k.1.tape.trans h.1.tape, k.1.output.trans h.1.output, Nat.le_trans h.1.size k.1.size, fun i hi hr => ?_⟩, ?_⟩
  · refine (k.1.block i (Nat.lt_of_lt_of_le hi h.1.size) ?_).trans (h.1.block i hi hr)
    rcases h.2 with e | ⟨g, e, hg⟩
    · rw [e]; exact hr
    · rw [e]; intro e2; cases e2; omega
  · rcases k.2 with e | ⟨g, e, hg⟩
    · rcases h.2 with e' | ⟨g, e', hg⟩
      · exact .inl (e.trans e')
      · exact .inr ⟨g, e.trans e', hg⟩
    · exact .inr ⟨g, e, Nat.le_trans h.1.size hg⟩
/-- A tree off a row stays off it. -/
theorem Grw.off {w w' : World} {v v' : Value} {X : MT} (h : Grw w v w' v') (hX : X.In w.heap.size w) (ho : MT.All (fun b => some b ≠ v.ownBlock) X) : MT.All (fun b => some b ≠ v'.ownBlock) X := by
  rcases h.2 with e | ⟨g, e, hg⟩
  · rw [e]; exact ho
  · rw [e]
    exact MT.All.imp (fun b hb e2 => by cases e2; omega) X (MT.In.all X hX)
theorem Grw.new {w w' : World} {v v' : Value} {X : MT} {lo : Nat} (h : Grw w v w' v') (hX : New lo w X) (ho : MT.All (fun b => some b ≠ v.ownBlock) X) : New lo w' X := hX.grown h.1 ho
theorem arg_new {lo : Nat} {w : World} {op n : Int} {A : Option Addr} {c : Nat} {args : List MT} (h : New lo w (.mk op n A c args)) (k : Nat) (hk : k < args.length) : New lo w args[k] := by
  refine ⟨?_, ?_⟩
  · have := h.1; rw [MT.In] at this; exact this.2.2.2.at_ k hk
  · have := h.2; rw [Mine, MT.All] at this; exact this.2.mem _ (List.getElem_mem hk)
theorem arg_off {p : Nat → Prop} {op n : Int} {A : Option Addr} {c : Nat} {args : List MT} (h : MT.All p (.mk op n A c args)) (k : Nat) (hk : k < args.length) : MT.All p args[k] := by
  rw [MT.All] at h; exact h.2.mem _ (List.getElem_mem hk)
theorem wfs_arg : ∀ {l : List MT}, MT.WFs l → ∀ (k : Nat) (hk : k < l.length), (l[k]).WF
  | t :: ts, h, 0, _ => by rw [MT.WFs] at h; exact h.1
  | t :: ts, h, k + 1, hk => by rw [MT.WFs] at h; exact wfs_arg h.2 k (by simpa using hk)
theorem sizes_takeT : ∀ (l : List Tr) (k : Nat) (hk : k < l.length), Tr.sizes (l.take (k + 1)) = Tr.sizes (l.take k) + (l[k]).size
  | t :: ts, 0, _ => by simp [Tr.sizes]
  | t :: ts, k + 1, hk => by
    have := sizes_takeT ts k (by simpa using hk)
    simp only [List.take_succ_cons, Tr.sizes, List.getElem_cons_succ]
    rw [this]; omega
theorem sizes_leT : ∀ (l : List Tr) (k : Nat), Tr.sizes (l.take k) ≤ Tr.sizes l
  | [], k => by simp
  | t :: ts, 0 => by simp [Tr.sizes]
  | t :: ts, k + 1 => by
    have := sizes_leT ts k
    simp only [List.take_succ_cons, Tr.sizes]; omega
theorem nodesTs_take : ∀ (l : List Tr) (k : Nat) (hk : k < l.length), Tr.nodesTs (l.take (k + 1)) = Tr.nodesTs (l.take k) ++ (l[k]).nodesT
  | t :: ts, 0, _ => by simp [Tr.nodesTs]
  | t :: ts, k + 1, hk => by
    have := nodesTs_take ts k (by simpa using hk)
    simp only [List.take_succ_cons, Tr.nodesTs, List.getElem_cons_succ]
    rw [this, List.append_assoc]
/-- What collect hands back: the row with the marks that it lacked. -/
def RetCol (lo : Nat) (t : Tr) (v : Value) (Ts : List MT) (w : World) (e : Ending) (w' : World) : Prop := ∃ v' Ts', e = .returned v' ∧ Coll lo lo w' v' Ts' ∧ Ts'.map MT.tr = t.nodesT.foldl colR (Ts.map MT.tr) ∧ Grw w v w' v' ∧ Ts'.length ≤ Ts.length + t.size
end Go.Proofs.YtndkcimajeofcaaGreatDoor

namespace Go.Proofs.YtndkcimajeofcaaGreatDoor
open Go.RowKit
attribute [local go_sem ↓] Go.wp_at_zero Go.wp_at_succ

/-- What is claimed of the reference's collect at one tree. -/
def ColOK (C R : Nat) (X : MT) : Prop := ∀ (lo : Nat) (v : Value) (Ts : List MT) (w : World), (∀ w', Below lo w w' → G w') → Coll lo lo w v Ts → New lo w X → X.tr.wfT C R = true → X.WF → MT.All (fun b => some b ≠ v.ownBlock) X → Ts.length + X.tr.size ≤ 1000000 → lo ≤ w.heap.size →
    Calls Tryz.prog 78 #[X.val, v] w (RetCol lo X.tr v Ts w)
set_option maxRecDepth 100000 in
set_option maxHeartbeats 16000000 in
theorem col_plain (C R : Nat) (op nn : Int) (A : Option Addr) (c : Nat) (args : List MT) (ih : ∀ k (hk : k < args.length), ColOK C R args[k]) (hq : (op == 6 || op == 7) = false) : ColOK C R (.mk op nn A c args) := by
  intro lo v Ts w hG hco hX hwf hWF hoff hlen hlo
  obtain ⟨hw, hws⟩ := wf_node hwf
  have hWFs : MT.WFs args := by rw [MT.WF] at hWF; exact hWF.2.2.2
  have hWF0 := hWF
  rw [MT.tr_mk] at hlen ⊢
  rw [Tr.size] at hlen
  obtain ⟨W1, hW1, hB1, hs1, hk1⟩ := newBlk w _ rfl #[.int .i64 op, .int .i64 nn, .slice A args.length c] 33
  have hco1 := hco.later hB1
  have hX1 := hX.later hB1
  have hlow : ∀ w' v', Grw W1 v w' v' → Below lo w w' := fun w' v' h => (hB1.mono hlo).trans ((Below.refl lo W1).grown h.1 (by omega) (fun k e => (own_lt hco1.own e).1))
  have hbox : ∀ w' v', Grw W1 v w' v' → w'.heap[w.heap.size]? = some (.cells #[.int .i64 op, .int .i64 nn, .slice A args.length c] 33) := fun w' v' h => (h.1.block w.heap.size (by omega) (fun e => by have := (own_lt hco.own e.symm).2; omega)).trans hk1
  have hcells : ∀ w' v', Grw W1 v w' v' → w'.cell? ⟨w.heap.size, 0, none⟩ = some (.int .i64 op) ∧ w'.cell? ⟨w.heap.size, 1, none⟩ = some (.int .i64 nn) ∧ w'.cell? ⟨w.heap.size, 2, none⟩ = some (.slice A args.length c) := fun w' v' h => ⟨cell_of_blk (hbox w' v' h) 0, cell_of_blk (hbox w' v' h) 1, cell_of_blk (hbox w' v' h) 2⟩
  obtain ⟨c0, c1, c2⟩ := hcells W1 v (Grw.below (Below.refl _ _))
  have hqu := quantR5_any op W1
  have HLOW := Lib.hid hlow
  have HCE := Lib.hid hcells
  have HX := Lib.hid (And.intro hX1 hoff)
  have HG := Lib.hid hG
  have HG1 := Lib.hid (Grw.below (v := v) hB1)
  have HWS := Lib.hid hws
  have HWF := Lib.hid hWFs
  have HLEN := Lib.hid hlen
  have HC1 := Lib.hid hco1
  have HIH := Lib.hid ih
  have hal : args.length ≤ 9223372036854775807 := by have h := hX.1; rw [MT.In] at h; omega
  simp only [MT.val, MT.op, MT.n, MT.A, MT.c, MT.args]
  have hcr : colR (Ts.map MT.tr) (.mk op nn (args.map MT.tr)) = Ts.map MT.tr := by
    rw [colR, if_neg]
    simp only [Tr.op]
    intro h
    rcases h with rfl | rfl <;> simp at hq
  obtain ⟨TsL, hTsL⟩ : ∃ T, T = Ts := ⟨_, rfl⟩
  have HL := Lib.hid (show Coll lo lo W1 v TsL ∧ TsL.map MT.tr = colR (Ts.map MT.tr) (.mk op nn (args.map MT.tr)) ∧ Grw W1 v W1 v ∧ TsL.length ≤ Ts.length + 1 by rw [hTsL, hcr]; exact ⟨HC1.out, rfl, Grw.below (Below.refl _ _), by omega⟩)
  rw [hq] at hqu
  clear hcr hTsL hlow hbox hcells hX1 hoff hG hws hWFs hlen hco1 hco hX hWF hWF0 hwf hw hB1 hk1 hq ih
  go_enter Tryz.func78, Tryz.ntmps78
  go_wp2_with (go_at_call 81; refine hqu.mono ?_; clear hqu; rintro e w9 ⟨rfl, hw9⟩; subst w9)
  clear c0 c1 c2
  go_loopw [1, 24] (fun v' i' wr => ∃ (k : Nat) (Ts' : List MT), k ≤ args.length ∧ i' = .int .i64 (k : Nat) ∧ Coll lo lo wr v' Ts' ∧ Ts'.map MT.tr = (Tr.nodesTs ((args.take k).map MT.tr)).foldl colR (colR (Ts.map MT.tr) (.mk op nn (args.map MT.tr))) ∧ Grw W1 v wr v' ∧ Ts'.length ≤ Ts.length + 1 + Tr.sizes ((args.take k).map MT.tr)) (fun _ i' _ => args.length - (intOf i').toNat)
  case atStart => exact ⟨0, TsL, Nat.zero_le _, rfl, HL.out.1, HL.out.2.1, HL.out.2.2.1, by have := HL.out.2.2.2; simp [Tr.sizes]; omega⟩
  case round =>
    rename World => wr
    obtain ⟨k, Ts', hk, rfl, hc', htr, hg', hln⟩ := hrel
    by_cases hlt : k < args.length
    · have hXr := hg'.new HX.out.1 HX.out.2
      have hrr : RowAt wr wr.heap.size 3 A args.length (args.flatMap MT.cs) := by have h := hXr.1; rw [MT.In] at h; exact h.2.2.1
      obtain ⟨ab, aoff, hA, -, e0, e1, e2⟩ := elem3 hrr (Below.refl _ _) hlt
      have h0K : (0 : Int) ≤ k := by omega
      have hlK : (k : Int) < args.length := by omega
      obtain ⟨W5, hW5, hB5, hs5, hk5⟩ := newBlk wr _ rfl #[.int .i64 args[k].op, .int .i64 args[k].n, .slice args[k].A args[k].args.length args[k].c] 33
      obtain ⟨⟨d0, d1, d2⟩, -⟩ := res3 hk5
      have hsz := sizes_takeT (args.map MT.tr) k (by simpa using hlt)
      have hsl := sizes_leT (args.map MT.tr) (k + 1)
      rw [List.getElem_map] at hsz
      rw [List.map_take] at hln
      have hlow := HLOW.out wr u1 hg'
      have hih := HIH.out k hlt lo u1 Ts' W5 (fun w' h => HG.out w' (hlow.trans ((hB5.mono (by have := hlow.size; omega)).trans h))) (hc'.later hB5) ((arg_new hXr k hlt).later hB5) (HWS.out _ (List.getElem_mem hlt)) (wfs_arg HWF.out k hlt) (arg_off (hg'.off HX.out.1.1 HX.out.2) k hlt) (by have := HLEN.out; omega) (by have := hlow.size; have := hB5.size; omega)
      simp only [MT.val] at hih
      have hnx := nodesTs_take (args.map MT.tr) k (by simpa using hlt)
      rw [List.getElem_map] at hnx
      have HN := Lib.hid (And.intro hnx (And.intro hsz (And.intro htr (And.intro hln (And.intro hg' hB5)))))
      rw [hA]
      clear hnx hsz hsl htr hln hg' hc' hXr hrr hlow hk5 hs5 hA
      go_wp2_with (go_at_call 78; refine hih.mono ?_; clear hih; rintro e w6 ⟨v6, T6, rfl, hc6, ht6, hg6, hl6⟩)
      go_roundw
      case rel =>
        obtain ⟨n1, n2, n3, n4, n5, n6⟩ := HN.out
        refine ⟨k + 1, T6, by omega, by go_num, hc6, ?_, n5.trans ((Grw.below n6).trans hg6), ?_⟩
        · rw [List.map_take, n1, List.foldl_append, ← List.map_take, ← n3]; exact ht6
        · rw [List.map_take, n2]; omega
      case measure => simp [intOf]; omega
    · have hke : k = args.length := by omega
      subst hke
      rw [List.take_length] at htr hln
      have HE := Lib.hid (And.intro hc' (And.intro htr (And.intro hg' hln)))
      clear hc' htr hg' hln
      go_wp2_with fail
      go_ret
      obtain ⟨m1, m2, m3, m4⟩ := HE.out
      exact ⟨_, Ts', rfl, m1, by rw [m2, Tr.nodesT, List.foldl_cons], HG1.out.trans m3, by rw [Tr.size]; omega⟩
set_option maxRecDepth 100000 in
set_option maxHeartbeats 16000000 in
theorem col_there (C R : Nat) (op nn : Int) (A : Option Addr) (c : Nat) (args : List MT) (ih : ∀ k (hk : k < args.length), ColOK C R args[k]) (hq : (op == 6 || op == 7) = true) : ∀ (lo : Nat) (v : Value) (Ts : List MT) (w : World), decide (placeI (Ts.map MT.tr) (markR (.mk op nn (args.map MT.tr))) < 0) = false → (∀ w', Below lo w w' → G w') → Coll lo lo w v Ts → New lo w (MT.mk op nn A c args) → (MT.mk op nn A c args).tr.wfT C R = true → (MT.mk op nn A c args).WF → MT.All (fun b => some b ≠ v.ownBlock) (MT.mk op nn A c args) → Ts.length + (MT.mk op nn A c args).tr.size ≤ 1000000 → lo ≤ w.heap.size →
    Calls Tryz.prog 78 #[(MT.mk op nn A c args).val, v] w (RetCol lo (MT.mk op nn A c args).tr v Ts w) := by
  intro lo v Ts w hd hG hco hX hwf hWF hoff hlen hlo
  obtain ⟨hw, hws⟩ := wf_node hwf
  have hWFs : MT.WFs args := by rw [MT.WF] at hWF; exact hWF.2.2.2
  have hWF0 := hWF
  rw [MT.tr_mk] at hlen ⊢
  rw [Tr.size] at hlen
  obtain ⟨W1, hW1, hB1, hs1, hk1⟩ := newBlk w _ rfl #[.int .i64 op, .int .i64 nn, .slice A args.length c] 33
  have hco1 := hco.later hB1
  have hX1 := hX.later hB1
  have hlow : ∀ w' v', Grw W1 v w' v' → Below lo w w' := fun w' v' h => (hB1.mono hlo).trans ((Below.refl lo W1).grown h.1 (by omega) (fun k e => (own_lt hco1.own e).1))
  have hbox : ∀ w' v', Grw W1 v w' v' → w'.heap[w.heap.size]? = some (.cells #[.int .i64 op, .int .i64 nn, .slice A args.length c] 33) := fun w' v' h => (h.1.block w.heap.size (by omega) (fun e => by have := (own_lt hco.own e.symm).2; omega)).trans hk1
  have hcells : ∀ w' v', Grw W1 v w' v' → w'.cell? ⟨w.heap.size, 0, none⟩ = some (.int .i64 op) ∧ w'.cell? ⟨w.heap.size, 1, none⟩ = some (.int .i64 nn) ∧ w'.cell? ⟨w.heap.size, 2, none⟩ = some (.slice A args.length c) := fun w' v' h => ⟨cell_of_blk (hbox w' v' h) 0, cell_of_blk (hbox w' v' h) 1, cell_of_blk (hbox w' v' h) 2⟩
  obtain ⟨c0, c1, c2⟩ := hcells W1 v (Grw.below (Below.refl _ _))
  have hqu := quantR5_any op W1
  have HLOW := Lib.hid hlow
  have HCE := Lib.hid hcells
  have HX := Lib.hid (And.intro hX1 hoff)
  have HG := Lib.hid hG
  have HG1 := Lib.hid (Grw.below (v := v) hB1)
  have HWS := Lib.hid hws
  have HWF := Lib.hid hWFs
  have HLEN := Lib.hid hlen
  have HC1 := Lib.hid hco1
  have HIH := Lib.hid ih
  have hal : args.length ≤ 9223372036854775807 := by have h := hX.1; rw [MT.In] at h; omega
  simp only [MT.val, MT.op, MT.n, MT.A, MT.c, MT.args]
  have h67 : op = 6 ∨ op = 7 := by simpa using hq
  have h1 : args.length = 1 := by
    simp only [wfB, Bool.and_eq_true, decide_eq_true_eq, beq_iff_eq] at hw
    have := hw.2.2.1
    rw [arityF, if_pos (by omega)] at this
    omega
  have hmk := rMark5_any (.mk op nn A c args) W1 (hG W1 (hlow W1 v (Grw.below (Below.refl _ _)))) hX1.1 hWF0 h67 h1
  obtain ⟨p, hp⟩ : ∃ p, placeI (Ts.map MT.tr) (markR (.mk op nn (args.map MT.tr))) = p := ⟨_, rfl⟩
  have hpn := placeI_neg (L := Ts.map MT.tr) (t := markR (.mk op nn (args.map MT.tr)))
  rw [hp] at hpn
  have hcr : colR (Ts.map MT.tr) (.mk op nn (args.map MT.tr)) = if decide (p < 0) then Ts.map MT.tr ++ [markR (.mk op nn (args.map MT.tr))] else Ts.map MT.tr := by
    rw [colR, if_pos (by simpa [Tr.op] using h67), putR, hpn]
    cases (Ts.map MT.tr).any fun d => d.beq (markR (.mk op nn (args.map MT.tr))) <;> rfl
  have hd' := hd
  rw [hp] at hd'
  have HD := Lib.hid hd'
  have HP := Lib.hid hp
  have HCR := Lib.hid hcr
  obtain ⟨i0, hi, hz0, hz1, hz2⟩ := info_parts con_info
  simp only [MT.val, MT.op, MT.n, MT.A, MT.c, MT.args] at hmk
  rw [hq] at hqu
  have hTl : Ts.length ≤ 1000000 := by omega
  have hgl : ∀ M w4, Below W1.heap.size W1 w4 → (M = MT.mk op nn A c args ∨ New W1.heap.size w4 M) → New lo w4 M ∧ MT.All (fun b => some b ≠ v.ownBlock) M := fun M w4 hb4 hM => by
    rcases hM with rfl | hM
    · exact ⟨HX.out.1.later hb4, HX.out.2⟩
    · exact ⟨hM.lo (by omega), HC1.out.off hM (Nat.le_refl _)⟩
  have hpg : ∀ M w4 W5, Below W1.heap.size W1 w4 → w4.alloc (.cells #[.int .i64 M.op, .int .i64 M.n, .slice M.A M.args.length M.c] 33) = W5 → M.tr = markR (Tr.mk op nn (args.map MT.tr)) → New lo w4 M → Calls Tryz.prog 80 #[v, .agg #[.int .i64 M.op, .int .i64 M.n, .slice M.A M.args.length M.c]] W5 fun e w' => e = .returned (.int .i64 p) ∧ Below W5.heap.size W5 w' := fun M w4 W5 hb4 hW5 hMt hM => by
    obtain ⟨W5', hW5', hB5, -, -⟩ := newBlk w4 _ rfl #[.int .i64 M.op, .int .i64 M.n, .slice M.A M.args.length M.c] 33
    obtain rfl : W5' = W5 := hW5'.symm.trans hW5
    have hb5 : Below W1.heap.size W1 W5' := hb4.trans (hB5.mono hb4.size)
    have hpl := PlaceI_any (base := lo) v Ts M W5' (HC1.out.later hb5).own (fun t ht => ((HC1.out.later hb5).trees t ht).1.1) (hM.later hB5).1
    rw [hMt, HP.out] at hpl
    exact hpl
  have HGL := Lib.hid hgl
  have HPG := Lib.hid hpg
  have HMK := Lib.hid hmk
  clear hd hgl hpg hpn hcr hp hlow hbox hcells hX1 hoff hG hws hWFs hlen hco1 hco hX hWF hWF0 hwf hw hB1 hk1 hq h67 h1 ih
  obtain ⟨TsL, hTsL⟩ : ∃ T, T = Ts := ⟨_, rfl⟩
  have hL : ∀ w6, Below W1.heap.size W1 w6 → Coll lo lo w6 v TsL ∧ TsL.map MT.tr = colR (Ts.map MT.tr) (.mk op nn (args.map MT.tr)) ∧ Grw W1 v w6 v ∧ TsL.length ≤ Ts.length + 1 := fun w6 h => by rw [hTsL, HCR.out, if_neg (by rw [HD.out]; decide)]; exact ⟨HC1.out.later h, rfl, Grw.below h, by omega⟩
  have HLL := Lib.hid hL
  clear hL hTsL
  go_enter Tryz.func78, Tryz.ntmps78
  go_wp2_with (first
    | (go_at_call 80; refine (HPG.out M w4 W5 hb4 HW5.out HMt.out (HGL.out M w4 hb4 HM.out).1).mono ?_; rintro e w6 ⟨rfl, hb6⟩; have HL := Lib.hid (HLL.out w6 (hb5.trans (hb6.mono hb5.size))); clear c0 c1 c2 x0 x1 x2; obtain ⟨c0, c1, c2⟩ := HCE.out w6 v HL.out.2.2.1)
    | (go_at_call 82; refine HMK.out.mono ?_; rintro e w4 ⟨M, rfl, hMt', hM', hb4⟩; rw [MT.tr_mk] at hMt'; have HMt := Lib.hid hMt'; have HM := Lib.hid hM'; clear hMt' hM'; obtain ⟨W5, hW5, hB5, hs5, hk5⟩ := newBlk w4 _ rfl #[.int .i64 M.op, .int .i64 M.n, .slice M.A M.args.length M.c] 33; have hb5 : Below W1.heap.size W1 W5 := hb4.trans (hB5.mono hb4.size); have HK5 := Lib.hid hk5; have HW5 := Lib.hid hW5; clear hk5; obtain ⟨⟨x0, x1, x2⟩, -⟩ := res3 HK5.out)
    | (go_at_call 81; refine hqu.mono ?_; clear hqu; rintro e w9 ⟨rfl, hw9⟩; subst w9))
  clear c0 c1 c2
  go_loopw [1, 24] (fun v' i' wr => ∃ (k : Nat) (Ts' : List MT), k ≤ args.length ∧ i' = .int .i64 (k : Nat) ∧ Coll lo lo wr v' Ts' ∧ Ts'.map MT.tr = (Tr.nodesTs ((args.take k).map MT.tr)).foldl colR (colR (Ts.map MT.tr) (.mk op nn (args.map MT.tr))) ∧ Grw W1 v wr v' ∧ Ts'.length ≤ Ts.length + 1 + Tr.sizes ((args.take k).map MT.tr)) (fun _ i' _ => args.length - (intOf i').toNat)
  case atStart => exact ⟨0, TsL, Nat.zero_le _, rfl, HL.out.1, HL.out.2.1, HL.out.2.2.1, by have := HL.out.2.2.2; simp [Tr.sizes]; omega⟩
  case round =>
    rename World => wr
    obtain ⟨k, Ts', hk, rfl, hc', htr, hg', hln⟩ := hrel
    by_cases hlt : k < args.length
    · have hXr := hg'.new HX.out.1 HX.out.2
      have hrr : RowAt wr wr.heap.size 3 A args.length (args.flatMap MT.cs) := by have h := hXr.1; rw [MT.In] at h; exact h.2.2.1
      obtain ⟨ab, aoff, hA, -, e0, e1, e2⟩ := elem3 hrr (Below.refl _ _) hlt
      have h0K : (0 : Int) ≤ k := by omega
      have hlK : (k : Int) < args.length := by omega
      obtain ⟨W5, hW5, hB5, hs5, hk5⟩ := newBlk wr _ rfl #[.int .i64 args[k].op, .int .i64 args[k].n, .slice args[k].A args[k].args.length args[k].c] 33
      obtain ⟨⟨d0, d1, d2⟩, -⟩ := res3 hk5
      have hsz := sizes_takeT (args.map MT.tr) k (by simpa using hlt)
      have hsl := sizes_leT (args.map MT.tr) (k + 1)
      rw [List.getElem_map] at hsz
      rw [List.map_take] at hln
      have hlow := HLOW.out wr u1 hg'
      have hih := HIH.out k hlt lo u1 Ts' W5 (fun w' h => HG.out w' (hlow.trans ((hB5.mono (by have := hlow.size; omega)).trans h))) (hc'.later hB5) ((arg_new hXr k hlt).later hB5) (HWS.out _ (List.getElem_mem hlt)) (wfs_arg HWF.out k hlt) (arg_off (hg'.off HX.out.1.1 HX.out.2) k hlt) (by have := HLEN.out; omega) (by have := hlow.size; have := hB5.size; omega)
      simp only [MT.val] at hih
      have hnx := nodesTs_take (args.map MT.tr) k (by simpa using hlt)
      rw [List.getElem_map] at hnx
      have HN := Lib.hid (And.intro hnx (And.intro hsz (And.intro htr (And.intro hln (And.intro hg' hB5)))))
      rw [hA]
      clear hnx hsz hsl htr hln hg' hc' hXr hrr hlow hk5 hs5 hA
      go_wp2_with (go_at_call 78; refine hih.mono ?_; clear hih; rintro e w6 ⟨v6, T6, rfl, hc6, ht6, hg6, hl6⟩)
      go_roundw
      case rel =>
        obtain ⟨n1, n2, n3, n4, n5, n6⟩ := HN.out
        refine ⟨k + 1, T6, by omega, by go_num, hc6, ?_, n5.trans ((Grw.below n6).trans hg6), ?_⟩
        · rw [List.map_take, n1, List.foldl_append, ← List.map_take, ← n3]; exact ht6
        · rw [List.map_take, n2]; omega
      case measure => simp [intOf]; omega
    · have hke : k = args.length := by omega
      subst hke
      rw [List.take_length] at htr hln
      have HE := Lib.hid (And.intro hc' (And.intro htr (And.intro hg' hln)))
      clear hc' htr hg' hln
      go_wp2_with fail
      go_ret
      obtain ⟨m1, m2, m3, m4⟩ := HE.out
      exact ⟨_, Ts', rfl, m1, by rw [m2, Tr.nodesT, List.foldl_cons], HG1.out.trans m3, by rw [Tr.size]; omega⟩
set_option maxRecDepth 100000 in
set_option maxHeartbeats 16000000 in
theorem col_new (C R : Nat) (op nn : Int) (A : Option Addr) (c : Nat) (args : List MT) (ih : ∀ k (hk : k < args.length), ColOK C R args[k]) (hq : (op == 6 || op == 7) = true) : ∀ (lo : Nat) (v : Value) (Ts : List MT) (w : World), decide (placeI (Ts.map MT.tr) (markR (.mk op nn (args.map MT.tr))) < 0) = true → (∀ w', Below lo w w' → G w') → Coll lo lo w v Ts → New lo w (MT.mk op nn A c args) → (MT.mk op nn A c args).tr.wfT C R = true → (MT.mk op nn A c args).WF → MT.All (fun b => some b ≠ v.ownBlock) (MT.mk op nn A c args) → Ts.length + (MT.mk op nn A c args).tr.size ≤ 1000000 → lo ≤ w.heap.size →
    Calls Tryz.prog 78 #[(MT.mk op nn A c args).val, v] w (RetCol lo (MT.mk op nn A c args).tr v Ts w) := by
  intro lo v Ts w hd hG hco hX hwf hWF hoff hlen hlo
  obtain ⟨hw, hws⟩ := wf_node hwf
  have hWFs : MT.WFs args := by rw [MT.WF] at hWF; exact hWF.2.2.2
  have hWF0 := hWF
  rw [MT.tr_mk] at hlen ⊢
  rw [Tr.size] at hlen
  obtain ⟨W1, hW1, hB1, hs1, hk1⟩ := newBlk w _ rfl #[.int .i64 op, .int .i64 nn, .slice A args.length c] 33
  have hco1 := hco.later hB1
  have hX1 := hX.later hB1
  have hlow : ∀ w' v', Grw W1 v w' v' → Below lo w w' := fun w' v' h => (hB1.mono hlo).trans ((Below.refl lo W1).grown h.1 (by omega) (fun k e => (own_lt hco1.own e).1))
  have hbox : ∀ w' v', Grw W1 v w' v' → w'.heap[w.heap.size]? = some (.cells #[.int .i64 op, .int .i64 nn, .slice A args.length c] 33) := fun w' v' h => (h.1.block w.heap.size (by omega) (fun e => by have := (own_lt hco.own e.symm).2; omega)).trans hk1
  have hcells : ∀ w' v', Grw W1 v w' v' → w'.cell? ⟨w.heap.size, 0, none⟩ = some (.int .i64 op) ∧ w'.cell? ⟨w.heap.size, 1, none⟩ = some (.int .i64 nn) ∧ w'.cell? ⟨w.heap.size, 2, none⟩ = some (.slice A args.length c) := fun w' v' h => ⟨cell_of_blk (hbox w' v' h) 0, cell_of_blk (hbox w' v' h) 1, cell_of_blk (hbox w' v' h) 2⟩
  obtain ⟨c0, c1, c2⟩ := hcells W1 v (Grw.below (Below.refl _ _))
  have hqu := quantR5_any op W1
  have HLOW := Lib.hid hlow
  have HCE := Lib.hid hcells
  have HX := Lib.hid (And.intro hX1 hoff)
  have HG := Lib.hid hG
  have HG1 := Lib.hid (Grw.below (v := v) hB1)
  have HWS := Lib.hid hws
  have HWF := Lib.hid hWFs
  have HLEN := Lib.hid hlen
  have HC1 := Lib.hid hco1
  have HIH := Lib.hid ih
  have hal : args.length ≤ 9223372036854775807 := by have h := hX.1; rw [MT.In] at h; omega
  simp only [MT.val, MT.op, MT.n, MT.A, MT.c, MT.args]
  have h67 : op = 6 ∨ op = 7 := by simpa using hq
  have h1 : args.length = 1 := by
    simp only [wfB, Bool.and_eq_true, decide_eq_true_eq, beq_iff_eq] at hw
    have := hw.2.2.1
    rw [arityF, if_pos (by omega)] at this
    omega
  have hmk := rMark5_any (.mk op nn A c args) W1 (hG W1 (hlow W1 v (Grw.below (Below.refl _ _)))) hX1.1 hWF0 h67 h1
  obtain ⟨p, hp⟩ : ∃ p, placeI (Ts.map MT.tr) (markR (.mk op nn (args.map MT.tr))) = p := ⟨_, rfl⟩
  have hpn := placeI_neg (L := Ts.map MT.tr) (t := markR (.mk op nn (args.map MT.tr)))
  rw [hp] at hpn
  have hcr : colR (Ts.map MT.tr) (.mk op nn (args.map MT.tr)) = if decide (p < 0) then Ts.map MT.tr ++ [markR (.mk op nn (args.map MT.tr))] else Ts.map MT.tr := by
    rw [colR, if_pos (by simpa [Tr.op] using h67), putR, hpn]
    cases (Ts.map MT.tr).any fun d => d.beq (markR (.mk op nn (args.map MT.tr))) <;> rfl
  have hd' := hd
  rw [hp] at hd'
  have HD := Lib.hid hd'
  have HP := Lib.hid hp
  have HCR := Lib.hid hcr
  obtain ⟨i0, hi, hz0, hz1, hz2⟩ := info_parts con_info
  simp only [MT.val, MT.op, MT.n, MT.A, MT.c, MT.args] at hmk
  rw [hq] at hqu
  have hTl : Ts.length ≤ 1000000 := by omega
  have hgl : ∀ M w4, Below W1.heap.size W1 w4 → (M = MT.mk op nn A c args ∨ New W1.heap.size w4 M) → New lo w4 M ∧ MT.All (fun b => some b ≠ v.ownBlock) M := fun M w4 hb4 hM => by
    rcases hM with rfl | hM
    · exact ⟨HX.out.1.later hb4, HX.out.2⟩
    · exact ⟨hM.lo (by omega), HC1.out.off hM (Nat.le_refl _)⟩
  have hpg : ∀ M w4 W5, Below W1.heap.size W1 w4 → w4.alloc (.cells #[.int .i64 M.op, .int .i64 M.n, .slice M.A M.args.length M.c] 33) = W5 → M.tr = markR (Tr.mk op nn (args.map MT.tr)) → New lo w4 M → Calls Tryz.prog 80 #[v, .agg #[.int .i64 M.op, .int .i64 M.n, .slice M.A M.args.length M.c]] W5 fun e w' => e = .returned (.int .i64 p) ∧ Below W5.heap.size W5 w' := fun M w4 W5 hb4 hW5 hMt hM => by
    obtain ⟨W5', hW5', hB5, -, -⟩ := newBlk w4 _ rfl #[.int .i64 M.op, .int .i64 M.n, .slice M.A M.args.length M.c] 33
    obtain rfl : W5' = W5 := hW5'.symm.trans hW5
    have hb5 : Below W1.heap.size W1 W5' := hb4.trans (hB5.mono hb4.size)
    have hpl := PlaceI_any (base := lo) v Ts M W5' (HC1.out.later hb5).own (fun t ht => ((HC1.out.later hb5).trees t ht).1.1) (hM.later hB5).1
    rw [hMt, HP.out] at hpl
    exact hpl
  have HGL := Lib.hid hgl
  have HPG := Lib.hid hpg
  have HMK := Lib.hid hmk
  clear hd hgl hpg hpn hcr hp hlow hbox hcells hX1 hoff hG hws hWFs hlen hco1 hco hX hWF hWF0 hwf hw hB1 hk1 hq h67 h1 ih
  have hL : ∀ w7 w8 M (v8 : Value) g, Below W1.heap.size W1 w7 → M.tr = markR (Tr.mk op nn (args.map MT.tr)) → New lo w7 M ∧ MT.All (fun b => some b ≠ v.ownBlock) M → w8.ownsRow lo 33 3 v8 (Ts.length + 1) (Ts.flatMap MT.cs ++ M.cs) → w7.grownBy w8 v.ownBlock → v8.ownBlock = some g → (v.ownBlock = some g ∨ g = w7.heap.size) → Coll lo lo w8 v8 (Ts ++ [M]) ∧ (Ts ++ [M]).map MT.tr = colR (Ts.map MT.tr) (.mk op nn (args.map MT.tr)) ∧ Grw W1 v w8 v8 ∧ (Ts ++ [M]).length ≤ Ts.length + 1 := fun w7 w8 M v8 g h7 hMt hM hown hg hv hat => by
    have hvv : v8.ownBlock = v.ownBlock ∨ ∃ g, v8.ownBlock = some g ∧ w7.heap.size ≤ g := by
      rcases hat with e | e
      · exact .inl (hv.trans e.symm)
      · exact .inr ⟨g, hv, by omega⟩
    refine ⟨(HC1.out.later h7).add hM.1 hM.2 hown hg hvv, ?_, (Grw.below h7).trans ⟨hg, hvv⟩, by simp⟩
    rw [HCR.out, if_pos HD.out, List.map_append, ← hMt]; rfl
  have HLL := Lib.hid hL
  clear hL
  go_enter Tryz.func78, Tryz.ntmps78
  go_wp2_with (first
    | (at_builtin; refine wpList_append_lies _ rfl _ _ 31 rfl lo 33 i0 _ 3 40 Tryz.underlying31 hi hz0 hz1 hz2 rfl (by omega) _ Ts.length (Ts.flatMap MT.cs) rfl (HC1.out.later hb7).own ⟨w6.heap.size, 0, none⟩ 1 1 M.cs rfl rfl (World.news_of_block (fr := (0, 0)) HK7.out) (by simp [MT.cs, Value.oneCell']) (by omega) (by unfold maxLen; omega) (by omega) (by have := hb7.size; omega) W7.heap.size rfl ?_; intro g8 cap w8 hown8 hg8 hat8 hlt8; have hgl7 := HGL.out M w4 hb4 HM.out; have HL := Lib.hid (HLL.out W7 w8 M _ g8 hb7 HMt.out ⟨(hgl7.1.later (hB5.trans ((hb6.mono hB5.size).trans (hB7.mono (Nat.le_trans hB5.size hb6.size))))), hgl7.2⟩ hown8 hg8 rfl hat8); clear c0 c1 c2; obtain ⟨c0, c1, c2⟩ := HCE.out w8 _ HL.out.2.2.1)
    | (go_at_call 80; refine (HPG.out M w4 W5 hb4 HW5.out HMt.out (HGL.out M w4 hb4 HM.out).1).mono ?_; rintro e w6 ⟨rfl, hb6⟩; obtain ⟨W7, hW7, hB7, hs7, hk7⟩ := newBlk w6 _ rfl #[.int .i64 M.op, .int .i64 M.n, .slice M.A M.args.length M.c] 33; have hb7 : Below W1.heap.size W1 W7 := hb5.trans ((hb6.trans (hB7.mono hb6.size)).mono hb5.size); have HK7 := Lib.hid hk7; clear hk7 x0 x1 x2; obtain ⟨⟨x0, x1, x2⟩, -⟩ := res3 (blk_lat0 HK5.out hb6))
    | (go_at_call 82; refine HMK.out.mono ?_; rintro e w4 ⟨M, rfl, hMt', hM', hb4⟩; rw [MT.tr_mk] at hMt'; have HMt := Lib.hid hMt'; have HM := Lib.hid hM'; clear hMt' hM'; obtain ⟨W5, hW5, hB5, hs5, hk5⟩ := newBlk w4 _ rfl #[.int .i64 M.op, .int .i64 M.n, .slice M.A M.args.length M.c] 33; have hb5 : Below W1.heap.size W1 W5 := hb4.trans (hB5.mono hb4.size); have HK5 := Lib.hid hk5; have HW5 := Lib.hid hW5; clear hk5; obtain ⟨⟨x0, x1, x2⟩, -⟩ := res3 HK5.out)
    | (go_at_call 81; refine hqu.mono ?_; clear hqu; rintro e w9 ⟨rfl, hw9⟩; subst w9))
  obtain ⟨TsL, hTsL⟩ : ∃ T, T = Ts ++ [M] := ⟨_, rfl⟩
  rw [← hTsL] at HL
  clear c0 c1 c2 x0 x1 x2 hTsL
  go_loopw [1, 24] (fun v' i' wr => ∃ (k : Nat) (Ts' : List MT), k ≤ args.length ∧ i' = .int .i64 (k : Nat) ∧ Coll lo lo wr v' Ts' ∧ Ts'.map MT.tr = (Tr.nodesTs ((args.take k).map MT.tr)).foldl colR (colR (Ts.map MT.tr) (.mk op nn (args.map MT.tr))) ∧ Grw W1 v wr v' ∧ Ts'.length ≤ Ts.length + 1 + Tr.sizes ((args.take k).map MT.tr)) (fun _ i' _ => args.length - (intOf i').toNat)
  case atStart => exact ⟨0, TsL, Nat.zero_le _, rfl, HL.out.1, HL.out.2.1, HL.out.2.2.1, by have := HL.out.2.2.2; simp [Tr.sizes]; omega⟩
  case round =>
    rename World => wr
    obtain ⟨k, Ts', hk, rfl, hc', htr, hg', hln⟩ := hrel
    by_cases hlt : k < args.length
    · have hXr := hg'.new HX.out.1 HX.out.2
      have hrr : RowAt wr wr.heap.size 3 A args.length (args.flatMap MT.cs) := by have h := hXr.1; rw [MT.In] at h; exact h.2.2.1
      obtain ⟨ab, aoff, hA, -, e0, e1, e2⟩ := elem3 hrr (Below.refl _ _) hlt
      have h0K : (0 : Int) ≤ k := by omega
      have hlK : (k : Int) < args.length := by omega
      obtain ⟨W5, hW5, hB5, hs5, hk5⟩ := newBlk wr _ rfl #[.int .i64 args[k].op, .int .i64 args[k].n, .slice args[k].A args[k].args.length args[k].c] 33
      obtain ⟨⟨d0, d1, d2⟩, -⟩ := res3 hk5
      have hsz := sizes_takeT (args.map MT.tr) k (by simpa using hlt)
      have hsl := sizes_leT (args.map MT.tr) (k + 1)
      rw [List.getElem_map] at hsz
      rw [List.map_take] at hln
      have hlow := HLOW.out wr u1 hg'
      have hih := HIH.out k hlt lo u1 Ts' W5 (fun w' h => HG.out w' (hlow.trans ((hB5.mono (by have := hlow.size; omega)).trans h))) (hc'.later hB5) ((arg_new hXr k hlt).later hB5) (HWS.out _ (List.getElem_mem hlt)) (wfs_arg HWF.out k hlt) (arg_off (hg'.off HX.out.1.1 HX.out.2) k hlt) (by have := HLEN.out; omega) (by have := hlow.size; have := hB5.size; omega)
      simp only [MT.val] at hih
      have hnx := nodesTs_take (args.map MT.tr) k (by simpa using hlt)
      rw [List.getElem_map] at hnx
      have HN := Lib.hid (And.intro hnx (And.intro hsz (And.intro htr (And.intro hln (And.intro hg' hB5)))))
      rw [hA]
      clear hnx hsz hsl htr hln hg' hc' hXr hrr hlow hk5 hs5 hA
      go_wp2_with (go_at_call 78; refine hih.mono ?_; clear hih; rintro e w6 ⟨v6, T6, rfl, hc6, ht6, hg6, hl6⟩)
      go_roundw
      case rel =>
        obtain ⟨n1, n2, n3, n4, n5, n6⟩ := HN.out
        refine ⟨k + 1, T6, by omega, by go_num, hc6, ?_, n5.trans ((Grw.below n6).trans hg6), ?_⟩
        · rw [List.map_take, n1, List.foldl_append, ← List.map_take, ← n3]; exact ht6
        · rw [List.map_take, n2]; omega
      case measure => simp [intOf]; omega
    · have hke : k = args.length := by omega
      subst hke
      rw [List.take_length] at htr hln
      have HE := Lib.hid (And.intro hc' (And.intro htr (And.intro hg' hln)))
      clear hc' htr hg' hln
      go_wp2_with fail
      go_ret
      obtain ⟨m1, m2, m3, m4⟩ := HE.out
      exact ⟨_, Ts', rfl, m1, by rw [m2, Tr.nodesT, List.foldl_cons], HG1.out.trans m3, by rw [Tr.size]; omega⟩
/-- The reference's collect. -/
theorem rCollect_any (C R : Nat) (X : MT) : ColOK C R X := by
  induction X using MT.induct with
  | h op nn A c args ih =>
    cases hq : (op == 6 || op == 7) with
    | false => exact col_plain C R op nn A c args ih hq
    | true =>
      intro lo v Ts w
      cases hd : decide (placeI (Ts.map MT.tr) (markR (.mk op nn (args.map MT.tr))) < 0) with
      | false => exact col_there C R op nn A c args ih hq lo v Ts w hd
      | true => exact col_new C R op nn A c args ih hq lo v Ts w hd
end Go.Proofs.YtndkcimajeofcaaGreatDoor

namespace Go.Proofs.YtndkcimajeofcaaGreatDoor
open Go.RowKit

theorem pre_nodes (T : MT) : ∀ lev, (T.pre lev).map (·.2) = T.nodes :=
  MT.rec (motive_1 := fun T => ∀ lev, (T.pre lev).map (·.2) = T.nodes) (motive_2 := fun l => ∀ lev, (MT.preAll lev l).map (·.2) = MT.nodesL l)
    (fun op n A c args ih lev => by rw [MT.pre, List.map_cons, ih, MT.nodes])
    (fun lev => rfl)
    (fun t ts h1 h2 lev => by rw [MT.preAll, List.map_append, h1, h2, MT.nodesL]) T
/-- The names in some concepts, as the reference lists them. -/
def namesR (l : List MT) (xs : List Int) : List Int := l.foldl (fun xs T => (usesC (T.pre 1)).foldl insL xs) xs
theorem usesC_mem {T : MT} {lev : Nat} {x : Int} : x ∈ usesC (T.pre lev) ↔ ∃ y ∈ T.nodes, y.op = 0 ∧ y.n = x := by
  rw [← pre_nodes T lev, usesC, List.mem_map]
  constructor
  · rintro ⟨z, hz, rfl⟩
    obtain ⟨h1, h2⟩ := List.mem_filter.1 hz
    exact ⟨z.2, List.mem_map_of_mem h1, by simpa using h2, rfl⟩
  · rintro ⟨y, hy, h0, rfl⟩
    obtain ⟨z, hz, rfl⟩ := List.mem_map.1 hy
    exact ⟨z, List.mem_filter.2 ⟨hz, by simpa using h0⟩, rfl⟩
theorem namesR_mem : ∀ (l : List MT) (xs : List Int) (x : Int), x ∈ namesR l xs ↔ x ∈ xs ∨ ∃ y ∈ l.flatMap MT.nodes, y.op = 0 ∧ y.n = x
  | [], xs, x => by simp [namesR]
  | T :: l, xs, x => by
    rw [namesR, List.foldl_cons]
    rw [show l.foldl (fun xs T => (usesC (T.pre 1)).foldl insL xs) ((usesC (T.pre 1)).foldl insL xs) = namesR l ((usesC (T.pre 1)).foldl insL xs) from rfl, namesR_mem l, fold_mem, usesC_mem, List.flatMap_cons]
    constructor
    · rintro ((h | ⟨y, hy, h⟩) | ⟨y, hy, h⟩)
      · exact .inl h
      · exact .inr ⟨y, List.mem_append_left _ hy, h⟩
      · exact .inr ⟨y, List.mem_append_right _ hy, h⟩
    · rintro (h | ⟨y, hy, h⟩)
      · exact .inl (.inl h)
      · rcases List.mem_append.1 hy with hy | hy
        · exact .inl (.inr ⟨y, hy, h⟩)
        · exact .inr ⟨y, hy, h⟩
theorem namesR_strict : ∀ (l : List MT) (xs : List Int), xs.Pairwise (· < ·) → (namesR l xs).Pairwise (· < ·)
  | [], xs, h => h
  | T :: l, xs, h => by
    rw [namesR, List.foldl_cons]
    exact namesR_strict l _ (fold_strict _ _ h)
theorem cast_strict : ∀ {l : List Nat}, l.Pairwise (· < ·) → (l.map fun (i : Nat) => (i : Int)).Pairwise (· < ·)
  | [], _ => List.Pairwise.nil
  | a :: l, h => by
    rw [List.pairwise_cons] at h
    rw [List.map_cons, List.pairwise_cons]
    refine ⟨fun x hx => ?_, cast_strict h.2⟩
    obtain ⟨y, hy, rfl⟩ := List.mem_map.1 hx
    have := h.1 y hy
    omega
theorem nmAt_iff {i : Nat} {y : MT} : nmAt i y.tr = true ↔ y.op = 0 ∧ y.n = (i : Int) := by
  obtain ⟨op, n, A, c, args⟩ := y
  rw [MT.tr_mk, nmAt]
  simp [MT.op, MT.n]
theorem namesR_eq {n : NM} {l : List MT} (hok : n.ok = true) (h : ∀ x ∈ l.flatMap MT.nodes, NodeOK n x) : namesR l [] = (elsF (nmsF (l.flatMap MT.nodes)) 0).map fun (i : Nat) => (i : Int) := by
  refine strict_eq (namesR_strict l [] List.Pairwise.nil) (cast_strict asc_elsF) fun x => ?_
  rw [namesR_mem, List.mem_map]
  have hb := (ok_bounds hok).1
  constructor
  · rintro (h0 | ⟨y, hy, h0, rfl⟩)
    · cases h0
    · have hw := (h y hy).1
      obtain ⟨op, nn, A, c, args⟩ := y
      simp only [MT.op] at h0
      subst h0
      obtain ⟨hw, -⟩ := wf_node hw
      simp only [wfB, Bool.and_eq_true, decide_eq_true_eq, beq_iff_eq] at hw
      have h4 := hw.2.2.2.1
      obtain ⟨i, rfl⟩ := Int.eq_ofNat_of_zero_le h4
      have hn : nmsF (l.flatMap MT.nodes) i = true := by
        unfold nmsF
        exact List.any_eq_true.2 ⟨_, hy, nmAt_iff.2 ⟨rfl, rfl⟩⟩
      have := nms_lt h hn
      exact ⟨i, mem_elsF.2 ⟨by omega, hn⟩, rfl⟩
  · rintro ⟨i, hi, rfl⟩
    have hn := (mem_elsF.1 hi).2
    unfold nmsF at hn
    obtain ⟨y, hy, hh⟩ := List.any_eq_true.1 hn
    obtain ⟨h0, h1⟩ := nmAt_iff.1 hh
    exact .inr ⟨y, hy, h0, h1⟩
theorem fold_leaf : ∀ (l : List Nat) (L : List Tr), l.Pairwise (· < ·) → (∀ i ∈ l, Tr.mk 0 (i : Int) [] ∉ L) → (l.map fun (i : Nat) => Tr.mk 0 (i : Int) []).foldl putR L = L ++ l.map fun (i : Nat) => Tr.mk 0 (i : Int) []
  | [], L, _, _ => by simp
  | a :: l, L, h, hn => by
    rw [List.pairwise_cons] at h
    have ha : putR L (.mk 0 (a : Int) []) = L ++ [.mk 0 (a : Int) []] := by
      unfold putR
      rw [if_neg]
      intro hx
      obtain ⟨d, hd, he⟩ := List.any_eq_true.1 hx
      rw [beq_eq _ _ he] at hd
      exact hn a (by simp) hd
    rw [List.map_cons, List.foldl_cons, ha, fold_leaf l _ h.2]
    · simp
    · intro i hi hx
      rcases List.mem_append.1 hx with hx | hx
      · exact hn i (by simp [hi]) hx
      · have := h.1 i hi
        simp only [List.mem_singleton, Tr.mk.injEq, true_and, and_true] at hx
        omega
/-- The reference's list of marks. -/
def clauseT (p : MT × MT) : Tr := .mk 5 0 [nnf p.1.tr true, nnf p.2.tr false]
def partsR (b : BN) (l : List MT) : List Tr := b.I.map clauseT ++ b.F.map (fun p => nnf p.2.tr false) ++ l.map (fun T => nnf T.tr false)
def marksR (b : BN) (l : List MT) : List Tr := (partsR b l).foldl (fun L t => t.nodesT.foldl colR L) ((namesR (b.cons ++ l) []).map fun k => .mk 0 k [])
theorem fold_flat {α β γ : Type} (f : β → α → β) (g : γ → List α) : ∀ (l : List γ) (x : β), l.foldl (fun x t => (g t).foldl f x) x = (l.flatMap g).foldl f x
  | [], x => rfl
  | t :: l, x => by rw [List.foldl_cons, List.flatMap_cons, List.foldl_append, fold_flat f g l]
theorem filterMap_flat {α β γ : Type} (f : α → Option β) (g : γ → List α) : ∀ l : List γ, (l.flatMap g).filterMap f = l.flatMap fun t => (g t).filterMap f
  | [] => rfl
  | t :: l => by rw [List.flatMap_cons, List.filterMap_append, filterMap_flat f g l, List.flatMap_cons]
theorem flatMap_congr' {α β : Type} {f g : α → List β} : ∀ {l : List α}, (∀ a ∈ l, f a = g a) → l.flatMap f = l.flatMap g
  | [], _ => rfl
  | a :: l, h => by rw [List.flatMap_cons, List.flatMap_cons, h a (by simp), flatMap_congr' fun x hx => h x (by simp [hx])]
theorem clause_ok {C R : Nat} {p : MT × MT} (h1 : p.1.tr.wfT C R = true) (h2 : p.2.tr.wfT C R = true) : Fixed (clauseT p) ∧ (clauseT p).wfT C R = true := by
  refine ⟨fixed_mk ?_ fun x hx => ?_, ?_⟩
  · have e1 := nnf_nnf C R _ h1 true false
    have e2 := nnf_nnf C R _ h2 false false
    rw [Bool.xor_false] at e1 e2
    simp [nnf, nnfs, e1, e2]
  · rw [Tr.nodesTs, Tr.nodesTs, Tr.nodesTs, List.append_nil] at hx
    rcases List.mem_append.1 hx with hx | hx
    · exact nnf_fixed C R _ h1 true x hx
    · exact nnf_fixed C R _ h2 false x hx
  · rw [clauseT, Tr.wfT, Tr.wfTs, Tr.wfTs, Tr.wfTs, nnf_wf C R _ h1, nnf_wf C R _ h2]
    simp [wfB, arityF, choicesF]
theorem mark_name {x m : Tr} (h : x.op = 0) (hm : markT x = some m) : m.op = 0 := by
  obtain ⟨op, n, args⟩ := x
  simp only [Tr.op] at h
  subst h
  rw [markT, if_pos rfl] at hm
  cases hm
  rfl
theorem marksR_eq {b : BN} {l : List MT} (h : mcheckC b l = 0) : marksR b l = marksF b l := by
  obtain ⟨h1, h2⟩ := mcheck_ok h
  obtain ⟨hok, k2, -⟩ := kchk_ok h1
  have hN : ∀ T ∈ b.cons ++ l, NodeOK b.N T := fun T hT => by rcases List.mem_append.1 hT with y | y; exact k2 T y; exact h2 T y
  have hn : ∀ x ∈ (b.cons ++ l).flatMap MT.nodes, NodeOK b.N x := fun x hx => by
    obtain ⟨T, hT, hxT⟩ := List.mem_flatMap.1 hx
    exact nodes_ok (hN T hT) x hxT
  have hwI : ∀ p ∈ b.I, p.1.tr.wfT b.N.C.l.length b.N.R.l.length = true ∧ p.2.tr.wfT b.N.C.l.length b.N.R.l.length = true := fun p hp =>
    ⟨(hN p.1 (List.mem_append_left _ (by rw [BN.cons]; exact List.mem_append_left _ (List.mem_flatMap.2 ⟨p, hp, by simp⟩)))).1, (hN p.2 (List.mem_append_left _ (by rw [BN.cons]; exact List.mem_append_left _ (List.mem_flatMap.2 ⟨p, hp, by simp⟩)))).1⟩
  have hwF : ∀ p ∈ b.F, p.2.tr.wfT b.N.C.l.length b.N.R.l.length = true := fun p hp => (hN p.2 (List.mem_append_left _ (by rw [BN.cons]; exact List.mem_append_right _ (List.mem_map.2 ⟨p, hp, rfl⟩)))).1
  have hwL : ∀ T ∈ l, T.tr.wfT b.N.C.l.length b.N.R.l.length = true := fun T hT => (hN T (List.mem_append_right _ hT)).1
  -- all marks at nodes are well formed
  have hM : ∀ m ∈ (((b.cons ++ l).flatMap MT.nodes).map MT.tr).filterMap markT, m.wfT b.N.C.l.length b.N.R.l.length = true := fun m hm => by
    obtain ⟨x, hx, he⟩ := List.mem_filterMap.1 hm
    obtain ⟨T, hT, rfl⟩ := List.mem_map.1 hx
    exact (mark_wf (hn T hT).1 he).1
  have hleaf : ∀ i ∈ elsF (nmsF ((b.cons ++ l).flatMap MT.nodes)) 0, (Tr.mk 0 (i : Int) []).wfT b.N.C.l.length b.N.R.l.length = true := fun i hi => leaf_wf (nms_lt hn (mem_elsF.1 hi).2)
  -- the names
  have e0 : nmL b.N.C.l b.N.R.l (nmsF ((b.cons ++ l).flatMap MT.nodes)) = (namesR (b.cons ++ l) []).map fun k => .mk 0 k [] := by
    rw [namesR_eq hok hn, List.map_map, nmL]
    have : (elsF (nmsF ((b.cons ++ l).flatMap MT.nodes)) 0).foldl (nmK b.N.C.l b.N.R.l) [] = ((elsF (nmsF ((b.cons ++ l).flatMap MT.nodes)) 0).map fun (i : Nat) => Tr.mk 0 (i : Int) []).foldl (addK b.N.C.l b.N.R.l) [] := by
      rw [List.foldl_map]; rfl
    rw [this, fold_addK hok _ _ (by simp) (fun t ht => by obtain ⟨i, hi, rfl⟩ := List.mem_map.1 ht; exact hleaf i hi), fold_leaf _ _ asc_elsF (by simp)]
    rfl
  rw [marksF, mkL, fold_colK, e0, marksR, fold_flat]
  have hL0 : ∀ t ∈ ((namesR (b.cons ++ l) []).map fun k => Tr.mk 0 k []), t.wfT b.N.C.l.length b.N.R.l.length = true := fun t ht => by
    rw [namesR_eq hok hn, List.map_map] at ht
    obtain ⟨i, hi, rfl⟩ := List.mem_map.1 ht
    exact hleaf i hi
  rw [fold_addK hok _ _ hL0 hM]
  -- the same marks at the nodes of the normal forms
  have em : ((partsR b l).flatMap Tr.nodesT).filterMap markT = (((b.cons ++ l).flatMap MT.nodes).map MT.tr).filterMap markT := by
    rw [nodes_trs, filterMap_flat]
    have hc : ∀ p ∈ b.I, (clauseT p).nodesT.filterMap markT = mksT p.1.tr ++ mksT p.2.tr := fun p hp => by
      have := mksT_mk 5 0 [nnf p.1.tr true, nnf p.2.tr false]
      rw [mksTs_cons, mksTs_cons, mksTs_nil, mks_nnf _ _ _ (hwI p hp).1, mks_nnf _ _ _ (hwI p hp).2] at this
      rw [show (clauseT p).nodesT.filterMap markT = mksT (.mk 5 0 [nnf p.1.tr true, nnf p.2.tr false]) from rfl, this]
      simp [markT]
    have hts : ∀ L : List MT, (Tr.nodesTs (L.map MT.tr)).filterMap markT = L.flatMap fun T => mksT T.tr := fun L => by
      induction L with
      | nil => rfl
      | cons T L ih => rw [List.map_cons, Tr.nodesTs, List.filterMap_append, ih]; rfl
    rw [hts, BN.cons, List.flatMap_append, List.flatMap_append, partsR, List.flatMap_append, List.flatMap_append]
    congr 1
    · congr 1
      · rw [List.flatMap_map, List.flatMap_assoc]
        refine flatMap_congr' fun p hp => ?_
        rw [hc p hp]; simp
      · rw [List.flatMap_map, List.flatMap_map]
        refine flatMap_congr' fun p hp => ?_
        exact mks_nnf _ _ _ (hwF p hp) _
    · rw [List.flatMap_map]
      refine flatMap_congr' fun T hT => ?_
      exact mks_nnf _ _ _ (hwL T hT) _
  rw [← em]
  refine fold_colR (C := b.N.C.l.length) (R := b.N.R.l.length) _ _ (fun x hx => ?_) fun x hx m h0 hm => ?_
  · obtain ⟨t, ht, hx⟩ := List.mem_flatMap.1 hx
    have hok : Fixed t ∧ t.wfT b.N.C.l.length b.N.R.l.length = true := by
      rw [partsR] at ht
      rcases List.mem_append.1 ht with ht | ht
      · rcases List.mem_append.1 ht with ht | ht
        · obtain ⟨p, hp, rfl⟩ := List.mem_map.1 ht
          exact clause_ok (hwI p hp).1 (hwI p hp).2
        · obtain ⟨p, hp, rfl⟩ := List.mem_map.1 ht
          exact ⟨nnf_fixed _ _ _ (hwF p hp) _, nnf_wf _ _ _ (hwF p hp) _⟩
      · obtain ⟨p, hp, rfl⟩ := List.mem_map.1 ht
        exact ⟨nnf_fixed _ _ _ (hwL p hp) _, nnf_wf _ _ _ (hwL p hp) _⟩
    exact ⟨hok.1 x hx, nodes_wf _ _ t hok.2 x hx⟩
  · have h1 : m ∈ ((partsR b l).flatMap Tr.nodesT).filterMap markT := List.mem_filterMap.2 ⟨x, hx, hm⟩
    rw [em] at h1
    obtain ⟨y, hy, he⟩ := List.mem_filterMap.1 h1
    obtain ⟨T, hT, rfl⟩ := List.mem_map.1 hy
    have hm0 := mark_name h0 hm
    obtain ⟨op, nn, A, c, args⟩ := T
    rw [MT.tr_mk, markT] at he
    split at he
    · rename_i h00
      cases he
      refine List.mem_map.2 ⟨nn, (namesR_mem _ _ _).2 (.inr ⟨_, hT, h00, rfl⟩), rfl⟩
    · split at he
      · cases he
        cases hm0
      · cases he
end Go.Proofs.YtndkcimajeofcaaGreatDoor

namespace Go.Proofs.YtndkcimajeofcaaGreatDoor
open Go.RowKit
attribute [local go_sem ↓] Go.wp_at_zero Go.wp_at_succ

theorem Coll.lower {lo lo' : Nat} {w : World} {v : Value} {Ts : List MT} (h : Coll lo lo w v Ts) (hl : lo' ≤ lo) : Coll lo' lo' w v Ts :=
  ⟨owns_lower h.own hl, fun t ht => ⟨(h.trees t ht).1.lo hl, (h.trees t ht).2⟩⟩
theorem row_blk {B b size k : Nat} {w : World} {cs : Array Value} {t : TypeId} {l : List Value} (hk : w.heap[b]? = some (.cells cs t)) (hb : b < B) (hc : cs = l.toArray) (hl : l.length = k * size) : RowAt w B size (some ⟨b, 0, none⟩) k l :=
  ⟨hl, fun _ => ⟨b, 0, rfl, hb, fun j hj => by rw [cell_of_blk hk, hc, Nat.zero_add, List.getElem?_toArray]⟩⟩
/-- A node with two parts of one's own. -/
theorem new_two {lo g : Nat} {w : World} {T1 T2 : MT} (op n : Int) (h1 : New lo w T1) (h2 : New lo w T2) (hk : w.heap[g]? = some (.cells #[.int .i64 T1.op, .int .i64 T1.n, .slice T1.A T1.args.length T1.c, .int .i64 T2.op, .int .i64 T2.n, .slice T2.A T2.args.length T2.c] 33)) (hg : lo ≤ g) : New lo w (.mk op n (some ⟨g, 0, none⟩) 2 [T1, T2]) := by
  refine ⟨?_, ?_⟩
  · rw [MT.In]
    refine ⟨by simp, by omega, ⟨by simp [MT.cs], fun _ => ⟨g, 0, rfl, (Array.getElem?_eq_some_iff.1 hk).1, fun j hj => ?_⟩⟩, by rw [MT.InAll]; exact ⟨h1.1, by rw [MT.InAll]; exact ⟨h2.1, by rw [MT.InAll]; trivial⟩⟩⟩
    rw [cell_of_blk hk, Nat.zero_add]
    have : ([T1, T2].flatMap MT.cs) = [.int .i64 T1.op, .int .i64 T1.n, .slice T1.A T1.args.length T1.c, .int .i64 T2.op, .int .i64 T2.n, .slice T2.A T2.args.length T2.c] := by simp [MT.cs]
    rw [this, List.getElem?_toArray]
  · rw [Mine, MT.All]
    exact ⟨fun _ => ⟨g, 0, rfl, hg, _, hk⟩, by rw [MT.Alls]; exact ⟨h1.2, by rw [MT.Alls]; exact ⟨h2.2, by rw [MT.Alls]; trivial⟩⟩⟩
/-- What Clauses hands back. -/
def RetCl (b : BN) (w : World) (e : Ending) (w' : World) : Prop := ∃ v Ts, e = .returned v ∧ Coll w.heap.size w.heap.size w' v Ts ∧ Ts.map MT.tr = b.I.map clauseT ∧ Below w.heap.size w w'
theorem clause_next {l : List (MT × MT)} {k : Nat} (hk : k < l.length) : (l.take (k + 1)).map clauseT = (l.take k).map clauseT ++ [clauseT l[k]] := by
  rw [List.take_succ_eq_append_getElem hk, List.map_append]; rfl
/-- What a round of Clauses adds. -/
theorem clause_add {lo : Nat} {wr Wa w3 w4 W5 w6 W7 w8 : World} {v v8 : Value} {Ts : List MT} {N1 N2 : MT} {p : MT × MT} (hc : Coll lo lo wr v Ts) (hlo : lo ≤ wr.heap.size) (hba : Below wr.heap.size wr Wa) (h1 : New Wa.heap.size w3 N1) (h13 : Below Wa.heap.size Wa w3) (h2 : New w3.heap.size w4 N2) (h34 : Below w3.heap.size w3 w4) (h45 : Below w4.heap.size w4 W5)
    (hk : W5.heap[w4.heap.size]? = some (.cells #[.int .i64 N1.op, .int .i64 N1.n, .slice N1.A N1.args.length N1.c, .int .i64 N2.op, .int .i64 N2.n, .slice N2.A N2.args.length N2.c] 33))
    (h56 : Below W5.heap.size W5 w6) (h67 : Below w6.heap.size w6 W7) (e1 : N1.tr = nnf p.1.tr true) (e2 : N2.tr = nnf p.2.tr false)
    (hown : W7.ownsRow lo 33 3 v Ts.length (Ts.flatMap MT.cs) → w8.ownsRow lo 33 3 v8 (Ts.length + 1) (Ts.flatMap MT.cs ++ [.int .i64 5, .int .i64 0, .slice (some ⟨w4.heap.size, 0, none⟩) 2 2])) (hg : W7.grownBy w8 v.ownBlock) (hat : v8.ownBlock = v.ownBlock ∨ v8.ownBlock = some W7.heap.size) :
    ∃ T : MT, T.tr = clauseT p ∧ Coll lo lo w8 v8 (Ts ++ [T]) ∧ Below lo wr w8 := by
  have b37 : Below w3.heap.size w3 W7 := h34.trans ((h45.trans ((h56.trans (h67.mono h56.size)).mono h45.size)).mono h34.size)
  have b57 : Below W5.heap.size W5 W7 := h56.trans (h67.mono h56.size)
  have br7 : Below wr.heap.size wr W7 := hba.trans ((h13.trans (b37.mono h13.size)).mono hba.size)
  have hN : New Wa.heap.size W5 (.mk 5 0 (some ⟨w4.heap.size, 0, none⟩) 2 [N1, N2]) := new_two 5 0 ((h1.later h34).later h45) ((h2.lo h13.size).later h45) hk (Nat.le_trans h13.size h34.size)
  have hN7 := hN.later b57
  have hc7 := hc.later br7
  have hoff := hc.off hN7 hba.size
  refine ⟨_, ?_, hc7.add (hN7.lo (Nat.le_trans hlo hba.size)) hoff (hown hc7.own) hg ?_, (br7.mono hlo).grown hg (Nat.le_trans hlo br7.size) (fun k e => (own_lt hc.own e).1)⟩
  · rw [MT.tr_mk, clauseT, List.map_cons, List.map_cons, List.map_nil, e1, e2]
  · rcases hat with e | e
    · exact .inl e
    · exact .inr ⟨_, e, Nat.le_refl _⟩

set_option maxRecDepth 100000 in
set_option maxHeartbeats 16000000 in
theorem rClauses_any (b : BN) (w : World) (hG : G w) (hb : b.In w.heap.size w) (hI : b.I.length ≤ 1000) (hW : ∀ p ∈ b.I, p.1.WF ∧ p.2.WF) : Calls Tryz.prog 77 #[b.val] w (RetCl b w) := by
  obtain ⟨W1, hW1, hB1, hs1, hk1⟩ := newBlk w _ rfl #[.slice b.N.C.A b.N.C.l.length b.N.C.c, .slice b.N.R.A b.N.R.l.length b.N.R.c, .slice b.N.I.A b.N.I.l.length b.N.I.c, .slice b.IA b.I.length b.ic, .slice b.R.A b.R.l.length b.R.c, .slice b.FA b.F.length b.fc, .slice b.L.A b.L.l.length b.L.c] 30
  have hbb := fun w' (h : Below W1.heap.size W1 w') => bbox_of (b := b) (blk_lat hk1 h)
  obtain ⟨c0, c1, c2, c3, c4, c5, c6⟩ := hbb W1 (Below.refl _ _)
  have HB := Lib.hid (hb.later hB1)
  have HBL := Lib.hid hB1
  have HG := Lib.hid (hG.later hB1)
  have HW := Lib.hid hW
  simp only [BN.val]
  obtain ⟨i0, hi, hz0, hz1, hz2⟩ := info_parts con_info
  clear hb hB1 hk1 hbb hG hW
  go_enter Tryz.func77, Tryz.ntmps77
  go_wp2_with fail
  clear c0 c1 c2 c3 c4 c5 c6
  go_loopw [3, 9] (fun v i' wr => ∃ (k : Nat) (Ts : List MT), k ≤ b.I.length ∧ i' = .int .i64 (k : Nat) ∧ Coll W1.heap.size W1.heap.size wr v Ts ∧ Ts.map MT.tr = (b.I.take k).map clauseT ∧ Below W1.heap.size W1 wr) (fun _ i' _ => b.I.length - (intOf i').toNat)
  case atStart => exact ⟨0, [], Nat.zero_le _, rfl, Coll.nil _ _ _, rfl, Below.refl _ _⟩
  case round =>
    rename World => wr
    obtain ⟨k, Ts, hk, rfl, hco, htr, hbw⟩ := hrel
    by_cases hlt : k < b.I.length
    · obtain ⟨g, off, hA, hg, e0, e1, e2, e3, e4, e5⟩ := (HB.out.later hbw).incl hlt
      have hin := (HB.out.later hbw).i4 b.I[k] (List.getElem_mem hlt)
      have hwf := HW.out b.I[k] (List.getElem_mem hlt)
      have h0K : (0 : Int) ≤ k := by omega
      have hlK : (k : Int) < b.I.length := by omega
      have HQ := Lib.hid (clause_next hlt)
      have hlen : Ts.length = k := by have := congrArg List.length htr; simpa [Nat.min_eq_left hk] using this
      obtain ⟨Wa, hWa, hBa, hsa, hka⟩ := newBlk wr _ rfl #[.int .i64 b.I[k].1.op, .int .i64 b.I[k].1.n, .slice b.I[k].1.A b.I[k].1.args.length b.I[k].1.c, .int .i64 b.I[k].2.op, .int .i64 b.I[k].2.n, .slice b.I[k].2.A b.I[k].2.args.length b.I[k].2.c] 111
      have hGa := (HG.out.later hbw).later hBa
      have hf := fun (neg : Bool) w' (h : Below Wa.heap.size Wa w') => Form_any b.I[k].1 neg w' hwf.1 (hGa.later h) ((hin.1.later hBa).later h)
      have hf2 := fun (neg : Bool) w' (h : Below Wa.heap.size Wa w') => Form_any b.I[k].2 neg w' hwf.2 (hGa.later h) ((hin.2.later hBa).later h)
      rw [hA]
      generalize b.I[k] = p at e0 e1 e2 e3 e4 e5 hka hWa HQ hf hf2
      have hS : ∀ w', Below Wa.heap.size Wa w' → (w'.cell? ⟨wr.heap.size, 0, none⟩ = some (.int .i64 p.1.op) ∧ w'.cell? ⟨wr.heap.size, 1, none⟩ = some (.int .i64 p.1.n) ∧ w'.cell? ⟨wr.heap.size, 2, none⟩ = some (.slice p.1.A p.1.args.length p.1.c)) ∧ w'.cell? ⟨wr.heap.size, 3, none⟩ = some (.int .i64 p.2.op) ∧ w'.cell? ⟨wr.heap.size, 4, none⟩ = some (.int .i64 p.2.n) ∧ w'.cell? ⟨wr.heap.size, 5, none⟩ = some (.slice p.2.A p.2.args.length p.2.c) := fun w' h => by
        have hk' := blk_lat0 hka h
        exact ⟨⟨cell_of_blk hk' 0, cell_of_blk hk' 1, cell_of_blk hk' 2⟩, cell_of_blk hk' 3, cell_of_blk hk' 4, cell_of_blk hk' 5⟩
      have hS8 : ∀ w7 w8, Below Wa.heap.size Wa w7 → w7.grownBy w8 u3.ownBlock → (w8.cell? ⟨wr.heap.size, 0, none⟩ = some (.int .i64 p.1.op) ∧ w8.cell? ⟨wr.heap.size, 1, none⟩ = some (.int .i64 p.1.n) ∧ w8.cell? ⟨wr.heap.size, 2, none⟩ = some (.slice p.1.A p.1.args.length p.1.c)) ∧ w8.cell? ⟨wr.heap.size, 3, none⟩ = some (.int .i64 p.2.op) ∧ w8.cell? ⟨wr.heap.size, 4, none⟩ = some (.int .i64 p.2.n) ∧ w8.cell? ⟨wr.heap.size, 5, none⟩ = some (.slice p.2.A p.2.args.length p.2.c) := fun w7 w8 h hg => by
        have hk' := (hg.block wr.heap.size (by have := h.size; omega) (fun e => by have := (own_lt hco.own e.symm).2; omega)).trans (blk_lat0 hka h)
        exact ⟨⟨cell_of_blk hk' 0, cell_of_blk hk' 1, cell_of_blk hk' 2⟩, cell_of_blk hk' 3, cell_of_blk hk' 4, cell_of_blk hk' 5⟩
      have HS8 := Lib.hid hS8
      simp only [MT.val] at hf hf2
      have HF := Lib.hid (hf true)
      have HF2 := Lib.hid (hf2 false)
      have HS := Lib.hid hS
      have HSA := Lib.hid hsa
      have hd : Below Wa.heap.size Wa Wa.drew := (Below.refl _ _).drew
      have hws := hbw.size
      have hwa := hBa.size
      have HC := Lib.hid hco
      have HBW := Lib.hid hbw
      have HBA := Lib.hid hBa
      have HTR := Lib.hid htr
      have hca := hco.later hBa
      have HCA := Lib.hid hca
      clear hka hf hf2 hS hS8 hsa hin hwf hGa hco hbw hBa htr hca hA
      go_wp2_with fail
      clear e0 e1 e2 e3 e4 e5
      go_region_held_law (fun w' => (w'.cell? ⟨wr.heap.size, 0, none⟩ = some (.int .i64 p.1.op) ∧ w'.cell? ⟨wr.heap.size, 1, none⟩ = some (.int .i64 p.1.n) ∧ w'.cell? ⟨wr.heap.size, 2, none⟩ = some (.slice p.1.A p.1.args.length p.1.c)) ∧ w'.cell? ⟨wr.heap.size, 3, none⟩ = some (.int .i64 p.2.op) ∧ w'.cell? ⟨wr.heap.size, 4, none⟩ = some (.int .i64 p.2.n) ∧ w'.cell? ⟨wr.heap.size, 5, none⟩ = some (.slice p.2.A p.2.args.length p.2.c))
        (first | exact HZ.out | exact HS.out _ hd | exact HS.out _ hb7 | exact HS.out _ hb6 | exact HS.out _ hb5 | exact HS.out _ hb4 | exact HS.out _ hb3)
        (first
          | (refine step_append_row W7 (by rfl) _ _ _ (by rfl) W1.heap.size 33 i0 _ 3 40 Tryz.underlying31 hi hz0 hz1 hz2 rfl (by omega) u3 Ts.length (Ts.flatMap MT.cs) (by rfl) ((HCA.out.later hb7).own) W7.heap.size (some ⟨w6.heap.size, 0, none⟩) 1 1 _ (by rfl) (by simp) (row_blk HK7.out hlt7 rfl (by rfl)) (by simp [Value.oneCell']) (by unfold maxLen; omega) (by omega) (by have := hb7.size; omega) ?_; intro v8 w8 hown8 hg8 hat8; have HZ := Lib.hid (HS8.out W7 w8 hb7 hg8); obtain ⟨T, hT⟩ := clause_add HC.out hws HBA.out HN1.out.2 hb3 HN2.out.2 hb4' HB5.out HK5.out hb6' HB7.out HN1.out.1 HN2.out.1 (fun _ => hown8) hg8 hat8; have HT := Lib.hid hT)
          | (go_at_call 54; refine (rOf5_any 5 0 _ 2 2 W5).mono ?_; rintro e w6 ⟨rfl, hb6'⟩; have hb6 := hb5.trans (hb6'.mono hb5.size); obtain ⟨W7, hW7, hB7, hs7, hk7⟩ := newBlk w6 _ rfl #[.int .i64 5, .int .i64 0, .slice (some ⟨w4.heap.size, 0, none⟩) 2 2] 33; have hb7 := hb6.trans (hB7.mono hb6.size); have hlt7 : w6.heap.size < W7.heap.size := (by omega); have HK7 := Lib.hid hk7; have HB7 := Lib.hid hB7; clear hk7)
          | (go_at_call 32; refine (HF2.out w3 hb3).mono ?_; rintro e w4 ⟨N2, rfl, hN2, hNew2, hb4'⟩; have hb4 := hb3.trans (hb4'.mono hb3.size); have HN2 := Lib.hid (And.intro hN2 hNew2); clear hN2 hNew2; obtain ⟨W5, hW5, hB5, hs5, hk5⟩ := newBlk w4 _ rfl #[.int .i64 N1.op, .int .i64 N1.n, .slice N1.A N1.args.length N1.c, .int .i64 N2.op, .int .i64 N2.n, .slice N2.A N2.args.length N2.c] 33; have hb5 := hb4.trans (hB5.mono hb4.size); have HK5 := Lib.hid hk5; have HB5 := Lib.hid hB5; clear hk5)
          | (go_at_call 32; refine (HF.out Wa.drew hd).mono ?_; rintro e w3 ⟨N1, rfl, hN1, hNew1, hb3'⟩; have hb3 := hd.trans hb3'; have HN1 := Lib.hid (And.intro hN1 hNew1); clear hN1 hNew1))
      go_wp2_with fail
      go_roundw
      case rel =>
        obtain ⟨t1, t2, t3⟩ := HT.out
        refine ⟨k + 1, Ts ++ [T], by omega, by go_num, t2, ?_, HBW.out.trans t3⟩
        rw [List.map_append, HTR.out, HQ.out, ← t1]; rfl
      case measure => simp [intOf]; omega
    · have hke : k = b.I.length := by omega
      rw [List.take_of_length_le (by omega)] at htr
      have HC := Lib.hid hco
      have HBW := Lib.hid hbw
      have HTR := Lib.hid htr
      clear hco hbw htr
      go_wp2_with fail
      go_ret
      exact ⟨_, Ts, rfl, HC.out.lower HBL.out.size, HTR.out, HBL.out.trans (HBW.out.mono HBL.out.size)⟩
end Go.Proofs.YtndkcimajeofcaaGreatDoor

namespace Go
open Go.RowKit
/-- AT AN OPERATION OF A REGION WITHOUT DRAWING: an append to a row of one's own, out of a slice that may be nil. -/
theorem wpList_append_row {P : Program} (w : World) {ops : Array Oper} {rest : List Oper} {o : Oper} {a : Act} {Q : Exit → Act → World → Prop} (hgd : o.guard = none) (s x : Operand) (t : TypeId)
    (ho : o.op = .call { callee := .builtin .append, args := #[s, x], argTypes := #[t, t] })
    (base : Nat) (e : TypeId) (i : TypeInfo) (z : Value) (size bytes : Nat) (ht : P.underlying t = some (.slice e)) (hi : P.info? e = some i) (hz : i.zero = some z)
    (hsize : i.size = size) (hby : i.bytes = bytes) (hzs : z.cells.size = size) (hsz : 0 < size)
    (v : Value) (n : Nat) (xs : List Value) (hs : a.eval s = v) (hown : w.ownsRow base e size v n xs)
    (B : Nat) (A : Option Addr) (m c : Nat) (news : List Value) (hx : a.eval x = .slice A m c) (hA : A = none → c = 0) (hr : Go.Proofs.YtndkcimajeofcaaGreatDoor.RowAt w B size A m news) (h1 : ∀ u ∈ news, u.oneCell' = true)
    (h63 : n + m ≤ maxLen) (hbytes : (n + m) * bytes ≤ 140737488355328) (hbase : base ≤ w.heap.size)
    (h : ∀ v' w', w'.ownsRow base e size v' (n + m) (xs ++ news) → w.grownBy w' v.ownBlock → (v'.ownBlock = v.ownBlock ∨ v'.ownBlock = some w.heap.size) → wpList P ops Q rest (a.put o.dst v') w') : wpList P ops Q (o :: rest) a w :=
  wpList_plain hgd fun K hK => by
    have k := step_append_row (P := P) (ops := ops) (K := K) (Q := Q) (E := True) w hgd s x t ho base e i z size bytes ht hi hz hsize hby hzs hsz v n xs hs hown B A m c news hx hA hr h1 h63 hbytes hbase (fun v' w' a1 a2 a3 => hK _ _ (h v' w' a1 a2 a3))
    rwa [if_pos (by simp [Region.wanted, hgd])] at k
end Go
namespace Go.Proofs.YtndkcimajeofcaaGreatDoor
open Go.RowKit
attribute [local go_sem ↓] Go.wp_at_zero Go.wp_at_succ

theorem row_app {w : World} {base : Nat} {v : Value} {l1 l2 : List MT} (h : w.ownsRow base 33 3 v (l1.length + l2.length) (l1.flatMap MT.cs ++ l2.flatMap MT.cs)) : ∃ A c, v = .slice A (l1 ++ l2).length c ∧ (l1 ++ l2).length ≤ c ∧ c ≤ 9223372036854775807 ∧ RowAt w w.heap.size 3 A (l1 ++ l2).length ((l1 ++ l2).flatMap MT.cs) := by
  rw [← List.length_append, ← List.flatMap_append] at h; exact row_of_owns h
theorem namesR_next {l : List MT} {k : Nat} (hk : k < l.length) : namesR (l.take (k + 1)) [] = (usesC (l[k].pre 1)).foldl insL (namesR (l.take k) []) := by
  rw [namesR, List.take_succ_eq_append_getElem hk, List.foldl_append]; rfl
theorem namesR_len : ∀ (l : List MT) (xs : List Int), (∀ T ∈ l, T.tr.size ≤ 500) → (namesR l xs).length ≤ xs.length + 500 * l.length
  | [], xs, _ => by simp [namesR]
  | T :: l, xs, h => by
    rw [namesR, List.foldl_cons]
    have h1 := namesR_len l ((usesC (T.pre 1)).foldl insL xs) fun x hx => h x (by simp [hx])
    have h2 := fold_len (usesC (T.pre 1)) xs
    have h3 := usesC_len (T.pre 1)
    have h4 := h T (by simp)
    rw [MT.pre_length] at h3
    rw [namesR] at h1
    rw [List.length_cons]
    omega
theorem leafN_new (lo : Nat) (n : Int) (w : World) : New lo w (.mk 0 n none 0 []) := by
  refine ⟨?_, ?_⟩
  · rw [MT.In]; exact ⟨Nat.le_refl _, by simp, RowAt.nil _ _ _ _, by rw [MT.InAll]; trivial⟩
  · rw [Mine, MT.All]; exact ⟨fun h => absurd rfl h, by rw [MT.Alls]; trivial⟩
theorem leafN_all (p : Nat → Prop) (n : Int) : MT.All p (.mk 0 n none 0 []) := by
  rw [MT.All]; exact ⟨fun h => absurd rfl h, by rw [MT.Alls]; trivial⟩
/-- One more leaf in a row of trees. -/
theorem leaf_add {lo : Nat} {ws w5 W6 w7 : World} {v v7 : Value} {Ts : List MT} {x : Int} {g : Nat} (hc : Coll lo lo ws v Ts) (hlo : lo ≤ ws.heap.size) (h5 : Below ws.heap.size ws w5) (h6 : Below w5.heap.size w5 W6)
    (hown : w7.ownsRow lo 33 3 v7 (Ts.length + 1) (Ts.flatMap MT.cs ++ [.int .i64 0, .int .i64 x, .slice none 0 0])) (hg : W6.grownBy w7 v.ownBlock) (hv : v7.ownBlock = some g) (hat : v.ownBlock = some g ∨ g = W6.heap.size) :
    Coll lo lo w7 v7 (Ts ++ [.mk 0 x none 0 []]) ∧ Below lo ws w7 := by
  have h56 : Below ws.heap.size ws W6 := h5.trans (h6.mono h5.size)
  refine ⟨(hc.later h56).add (leafN_new _ _ _) (leafN_all _ _) hown hg ?_, (h56.mono hlo).grown hg (Nat.le_trans hlo h56.size) (fun k e => (own_lt hc.own e).1)⟩
  rcases hat with e | e
  · exact .inl (hv.trans e.symm)
  · exact .inr ⟨g, hv, by omega⟩
theorem apart_rows {w w' : World} {lo B n1 n2 : Nat} {u v : Value} {e1 e2 : TypeId} {s1 s2 : Nat} {xs1 xs2 : List Value} (h1 : w.ownsRow lo e1 s1 u n1 xs1) (h2 : w'.ownsRow B e2 s2 v n2 xs2) (hB : w.heap.size ≤ B) : v.ownBlock ≠ u.ownBlock ∨ v.ownBlock = none := by
  by_cases h : v.ownBlock = none
  · exact .inr h
  · refine .inl fun e => ?_
    obtain ⟨g, hg⟩ := Option.ne_none_iff_exists'.1 h
    have := (own_lt h2 hg).1
    have := (own_lt h1 (e ▸ hg)).2
    omega
/-- collect at a new tree behind the row. -/
def RetC2 (lo : Nat) (_v : Value) (Ts : List MT) (t : Tr) (wt : World) (e : Ending) (w6 : World) : Prop := ∃ v6 T6, e = .returned v6 ∧ Coll lo lo w6 v6 T6 ∧ T6.map MT.tr = t.nodesT.foldl colR (Ts.map MT.tr) ∧ Below lo wt w6 ∧ T6.length ≤ Ts.length + 1000
theorem col_form {C R lo : Nat} {wt Wa w5 : World} {v : Value} {Ts : List MT} {N : MT} {t : Tr} (hG : ∀ w', Below lo wt w' → G w') (hco : Coll lo lo wt v Ts) (hlo : lo ≤ wt.heap.size) (hBa : Below wt.heap.size wt Wa) (h5 : Below Wa.heap.size Wa w5) (hN : New Wa.heap.size w5 N) (ht : N.tr = nnf t false) (hwf : t.wfT C R = true) (hsz : t.size ≤ 500) (hlen : Ts.length ≤ 990000) :
    Calls Tryz.prog 78 #[.agg #[.int .i64 N.op, .int .i64 N.n, .slice N.A N.args.length N.c], v] w5 (RetC2 lo v Ts (nnf t false) wt) := by
  have h5t : Below wt.heap.size wt w5 := hBa.trans (h5.mono hBa.size)
  have hc5 := hco.later h5t
  have hwn : N.tr.wfT C R = true := by rw [ht]; exact nnf_wf C R t hwf false
  have hs := nnf_size t false
  have h := rCollect_any C R N lo v Ts w5 (fun w' h => hG w' ((h5t.mono hlo).trans h)) hc5 (hN.lo (Nat.le_trans hlo hBa.size)) hwn (WF_of_wfT N hwn) (hco.off hN hBa.size) (by rw [ht]; omega) (Nat.le_trans hlo h5t.size)
  rw [MT.val] at h
  refine h.mono fun e w6 hh => ?_
  obtain ⟨v6, T6, he, c6, t6, g6, l6⟩ := hh
  rw [ht] at t6 l6
  exact ⟨v6, T6, he, c6, t6, (h5t.mono hlo).grown g6.1 (Nat.le_trans hlo h5t.size) (fun k e => (own_lt hc5.own e).1), by omega⟩
theorem clause_size {p : MT × MT} (h1 : p.1.tr.size ≤ 500) (h2 : p.2.tr.size ≤ 500) : (clauseT p).size ≤ 2001 := by
  have a := nnf_size p.1.tr true
  have b := nnf_size p.2.tr false
  rw [clauseT, Tr.size, Tr.sizes, Tr.sizes, Tr.sizes]
  omega
theorem clause_all {C R : Nat} {Cs : List MT} {l : List (MT × MT)} (h : Cs.map MT.tr = l.map clauseT) (hw : ∀ p ∈ l, (p.1.tr.wfT C R = true ∧ p.2.tr.wfT C R = true) ∧ p.1.tr.size ≤ 500 ∧ p.2.tr.size ≤ 500) : ∀ c ∈ Cs, c.tr.wfT C R = true ∧ c.tr.size ≤ 2001 := fun c hc => by
  have : c.tr ∈ l.map clauseT := h ▸ List.mem_map_of_mem hc
  obtain ⟨p, hp, e⟩ := List.mem_map.1 this
  obtain ⟨⟨w1, w2⟩, s1, s2⟩ := hw p hp
  rw [← e]
  exact ⟨(clause_ok w1 w2).2, clause_size s1 s2⟩
/-- The marks of the first parts. -/
def colsR (l : List Tr) (L : List Tr) : List Tr := l.foldl (fun L t => t.nodesT.foldl colR L) L
theorem colsR_next {l : List Tr} {k : Nat} (hk : k < l.length) (L : List Tr) : colsR (l.take (k + 1)) L = l[k].nodesT.foldl colR (colsR (l.take k) L) := by
  rw [colsR, List.take_succ_eq_append_getElem hk, List.foldl_append]; rfl
theorem marksR_cols (b : BN) (l : List MT) : marksR b l = colsR (l.map fun T => nnf T.tr false) (colsR (b.F.map fun p => nnf p.2.tr false) (colsR (b.I.map clauseT) ((namesR (b.cons ++ l) []).map fun k => .mk 0 k []))) := by
  rw [marksR, partsR, List.foldl_append, List.foldl_append]; rfl
/-- One round of the loop over the clauses. -/
theorem col_clause {C R lo : Nat} {w0 w7 wt W8 : World} {v0 vc v : Value} {Ts0 Ts Cs : List MT} {k : Nat} (hk : k < Cs.length) (hG : ∀ w', Below lo w7 w' → G w') (hlo : lo ≤ w0.heap.size) (hc0 : Coll lo lo w0 v0 Ts0) (h07 : Below w0.heap.size w0 w7) (hcc : Coll w0.heap.size w0.heap.size w7 vc Cs) (hg : Grw w7 v0 wt v) (hco : Coll lo lo wt v Ts) (hB8 : Below wt.heap.size wt W8)
    (hw : ∀ c ∈ Cs, c.tr.wfT C R = true ∧ c.tr.size ≤ 2001) (hlen : Ts.length ≤ 990000) :
    Calls Tryz.prog 78 #[.agg #[.int .i64 Cs[k].op, .int .i64 Cs[k].n, .slice Cs[k].A Cs[k].args.length Cs[k].c], v] W8 fun e w6 => ∃ v6 T6, e = .returned v6 ∧ Coll lo lo w6 v6 T6 ∧ T6.map MT.tr = Cs[k].tr.nodesT.foldl colR (Ts.map MT.tr) ∧ Grw w7 v0 w6 v6 ∧ T6.length ≤ Ts.length + 2001 := by
  obtain ⟨hw1, hw2⟩ := hw _ (List.getElem_mem hk)
  have hcx := (hcc.trees _ (List.getElem_mem hk)).1
  have hoff0 : MT.All (fun b => some b ≠ v0.ownBlock) Cs[k] := hc0.off hcx (Nat.le_refl _)
  have hx := (hg.new hcx hoff0).later hB8
  have hoff := hg.off hcx.1 hoff0
  have hc7 := (hc0.later h07)
  have b7 : Below lo w7 wt := (Below.refl lo w7).grown hg.1 (Nat.le_trans hlo h07.size) (fun k e => (own_lt hc7.own e).1)
  have hlt : lo ≤ wt.heap.size := Nat.le_trans (Nat.le_trans hlo h07.size) hg.1.size
  have h := rCollect_any C R Cs[k] lo v Ts W8 (fun w' h => hG w' (b7.trans ((hB8.mono hlt).trans h))) (hco.later hB8) (hx.lo hlo) hw1 (WF_of_wfT _ hw1) hoff (by omega) (Nat.le_trans hlt hB8.size)
  rw [MT.val] at h
  refine h.mono fun e w6 hh => ?_
  obtain ⟨v6, T6, he, c6, t6, g6, l6⟩ := hh
  exact ⟨v6, T6, he, c6, t6, hg.trans ((Grw.below hB8).trans g6), by omega⟩
/-- The k-th clause's cells, behind what has grown. -/
theorem clause_cells {lo : Nat} {w0 w7 wt : World} {v0 v : Value} {Ac : Option Addr} {cc : Nat} {Ts0 Cs : List MT} {k : Nat} (hk : k < Cs.length) (hc0 : Coll lo lo w0 v0 Ts0) (hcc : Coll w0.heap.size w0.heap.size w7 (.slice Ac Cs.length cc) Cs) (hg : Grw w7 v0 wt v) : ∃ g off, Ac = some ⟨g, off, none⟩ ∧ wt.cell? ⟨g, off + k * 3, none⟩ = some (.int .i64 Cs[k].op) ∧ wt.cell? ⟨g, off + k * 3 + 1, none⟩ = some (.int .i64 Cs[k].n) ∧ wt.cell? ⟨g, off + k * 3 + 2, none⟩ = some (.slice Cs[k].A Cs[k].args.length Cs[k].c) := by
  have hcw := owns_grown hcc.own hg.1 (apart_rows hc0.own hcc.own (Nat.le_refl _))
  obtain ⟨A', c', hv', -, -, hr'⟩ := row_of_owns hcw
  cases hv'
  obtain ⟨g, off, hA, -, e0, e1, e2⟩ := elem3 hr' (Below.refl _ _) hk
  exact ⟨g, off, hA, e0, e1, e2⟩
/-- What Marks hands back. -/
def RetMs (b : BN) (l : List MT) (w : World) (e : Ending) (w' : World) : Prop := ∃ v Ts, e = .returned v ∧ Coll w.heap.size w.heap.size w' v Ts ∧ Ts.map MT.tr = marksR b l ∧ Below w.heap.size w w'
end Go.Proofs.YtndkcimajeofcaaGreatDoor

namespace Go.Proofs.YtndkcimajeofcaaGreatDoor
open Go.RowKit
attribute [local go_sem ↓] Go.wp_at_zero Go.wp_at_succ

set_option maxRecDepth 100000 in
set_option maxHeartbeats 32000000 in
/-- The reference's Marks. -/
theorem rMarks_any (C R : Nat) (b : BN) (mo : ML) (w : World) (hG : G w) (hb : b.In w.heap.size w) (hmo : mo.In w.heap.size w) (hI : b.I.length ≤ 200) (hF : b.F.length ≤ 200) (hml : mo.l.length ≤ 6) (hwf : ∀ T ∈ b.cons ++ mo.l, T.tr.wfT C R = true) (hsz : ∀ T ∈ b.cons ++ mo.l, T.tr.size ≤ 500) :
    Calls Tryz.prog 31 #[b.val, .slice mo.A mo.l.length mo.c] w (RetMs b mo.l w) := by
  obtain ⟨W1, hW1, hB1, hs1, hk1⟩ := newBlk w _ rfl #[.slice b.N.C.A b.N.C.l.length b.N.C.c, .slice b.N.R.A b.N.R.l.length b.N.R.c, .slice b.N.I.A b.N.I.l.length b.N.I.c, .slice b.IA b.I.length b.ic, .slice b.R.A b.R.l.length b.R.c, .slice b.FA b.F.length b.fc, .slice b.L.A b.L.l.length b.L.c] 30
  have hbb := fun w' (h : Below W1.heap.size W1 w') => bbox_of (b := b) (blk_lat hk1 h)
  obtain ⟨c0, c1, c2, c3, c4, c5, c6⟩ := hbb W1 (Below.refl _ _)
  have hb1 := hb.later hB1
  have hm1 := hmo.later hB1
  have hG1 := hG.later hB1
  have hcl := cons_len b
  have hwI : ∀ p ∈ b.I, (p.1.tr.wfT C R = true ∧ p.2.tr.wfT C R = true) ∧ p.1.tr.size ≤ 500 ∧ p.2.tr.size ≤ 500 := fun p hp => by
    have m1 : p.1 ∈ b.cons ++ mo.l := List.mem_append_left _ (by rw [BN.cons]; exact List.mem_append_left _ (List.mem_flatMap.2 ⟨p, hp, by simp⟩))
    have m2 : p.2 ∈ b.cons ++ mo.l := List.mem_append_left _ (by rw [BN.cons]; exact List.mem_append_left _ (List.mem_flatMap.2 ⟨p, hp, by simp⟩))
    exact ⟨⟨hwf _ m1, hwf _ m2⟩, hsz _ m1, hsz _ m2⟩
  have hwF : ∀ p ∈ b.F, p.2.tr.wfT C R = true ∧ p.2.tr.size ≤ 500 := fun p hp => by
    have m1 : p.2 ∈ b.cons ++ mo.l := List.mem_append_left _ (by rw [BN.cons]; exact List.mem_append_right _ (List.mem_map.2 ⟨p, hp, rfl⟩))
    exact ⟨hwf _ m1, hsz _ m1⟩
  have hwM : ∀ T ∈ mo.l, T.tr.wfT C R = true ∧ T.tr.size ≤ 500 := fun T hT => ⟨hwf T (List.mem_append_right _ hT), hsz T (List.mem_append_right _ hT)⟩
  have hco := rConcepts_any b W1 hb1 (by omega) (by omega)
  have hcs : ∀ w', Below W1.heap.size W1 w' → Calls Tryz.prog 77 #[b.val] w' (RetCl b w') := fun w' h => rClauses_any b w' (hG1.later h) (hb1.later h) (by omega) (fun p hp => ⟨WF_of_wfT _ (hwI p hp).1.1, WF_of_wfT _ (hwI p hp).1.2⟩)
  have hfo : ∀ (T : MT) w', T.tr.wfT C R = true → Below W1.heap.size W1 w' → T.In w'.heap.size w' → Calls Tryz.prog 32 #[T.val, .bool false] w' (RetTree w' (nnf T.tr false)) := fun T w' hT h hi => Form_any T false w' (WF_of_wfT T hT) (hG1.later h) hi
  have hrw : ∀ w', Below W1.heap.size W1 w' → RowAt w' w'.heap.size 3 mo.A mo.l.length (mo.l.flatMap MT.cs) := fun w' h => (hm1.later h).2.2.2.1
  have hin : ∀ w', Below W1.heap.size W1 w' → ∀ T ∈ b.cons ++ mo.l, T.In w'.heap.size w' := fun w' h T hT => by
    rcases List.mem_append.1 hT with hT | hT
    · exact cons_in (hb1.later h) T hT
    · exact (hm1.later h).2.2.2.2 T hT
  have hnil := hm1.2.2.1
  obtain ⟨i0, hi, hz0, hz1, hz2⟩ := info_parts con_info
  have HBB := Lib.hid hbb
  have HBL := Lib.hid hB1
  have HB := Lib.hid hb1
  have HG := Lib.hid hG1
  have HWI := Lib.hid hwI
  have HWF := Lib.hid hwF
  have HWM := Lib.hid hwM
  have HCS := Lib.hid hcs
  have HFO := Lib.hid hfo
  have HRW := Lib.hid hrw
  have HIN := Lib.hid hin
  have HSZ := Lib.hid hsz
  have HMM := Lib.hid (marksR_cols b mo.l)
  obtain ⟨L, hL⟩ : ∃ L, b.cons ++ mo.l = L := ⟨_, rfl⟩
  have hL6 : L.length ≤ 606 := by rw [← hL, List.length_append]; omega
  have HNL := Lib.hid (namesR_len L [] (hL ▸ HSZ.out))
  have HSZ4 := Lib.hid (hL ▸ HSZ.out)
  have HCL := Lib.hid hcl
  have HL := Lib.hid hL
  rw [hL] at HMM
  simp only [BN.val, MT.val] at hco HCS HFO ⊢
  clear hbb hB1 hb1 hm1 hG1 hwI hwF hwM hcs hfo hrw hin hsz hwf hG hb hmo hk1 hcl hL HSZ
  go_enter Tryz.func31, Tryz.ntmps31
  go_wp2_with (first
    | (at_builtin; refine wpList_append_row w2 rfl _ _ 31 rfl W1.heap.size 33 i0 _ 3 40 Tryz.underlying31 hi hz0 hz1 hz2 rfl (by omega) vC b.cons.length (b.cons.flatMap MT.cs) rfl HOC.out w2.heap.size mo.A mo.l.length mo.c (mo.l.flatMap MT.cs) rfl hnil (HRW.out w2 hb2) (cs_one _) (by have := HCL.out; unfold maxLen; omega) (by have := HCL.out; omega) hb2.size ?_; intro v4 w4 hown4 hg4 hat4; have hb4 : Below W1.heap.size W1 w4 := hb2.grown hg4 hb2.size (fun k e => (own_lt HOC.out e).1); obtain ⟨A4, k4, hv4, hl4, hm4, hr4⟩ := row_app hown4; rw [HL.out] at hv4 hl4 hr4; subst hv4; clear hown4 hg4 hat4)
    | (go_at_call 47; refine hco.mono ?_; clear hco; rintro e w2 ⟨vC, rfl, hoC, hb2⟩; have HOC := Lib.hid hoC; clear hoC))
  have HIN4 := Lib.hid (HIN.out w4 hb4)
  rw [HL.out] at HIN4
  have HR4 := Lib.hid hr4
  clear hr4 c0 c1 c2 c3 c4 c5 c6
  go_loopw [5, 22] (fun nv i' wr => ∃ k : Nat, k ≤ L.length ∧ i' = .int .i64 (k : Nat) ∧ wr.ownsRow w4.heap.size 3 1 nv (namesR (L.take k) []).length (intCells (namesR (L.take k) [])) ∧ Below w4.heap.size w4 wr) (fun _ i' _ => L.length - (intOf i').toNat)
  case atStart => exact ⟨0, Nat.zero_le _, rfl, ⟨rfl, .inl ⟨rfl, rfl⟩⟩, Below.refl _ _⟩
  case round =>
    rename World => wr
    obtain ⟨k, hk, rfl, hrow, hbw⟩ := hrel
    by_cases hlt : k < L.length
    · obtain ⟨ab, aoff, hA, -, e0, e1, e2⟩ := elem3 HR4.out hbw hlt
      have h0K : (0 : Int) ≤ k := by omega
      have hlK : (k : Int) < L.length := by omega
      obtain ⟨W5, hW5, hB5, hs5, hk5⟩ := newBlk wr _ rfl #[.int .i64 L[k].op, .int .i64 L[k].n, .slice L[k].A L[k].args.length L[k].c] 33
      obtain ⟨⟨d0, d1, d2⟩, -⟩ := res3 hk5
      have HNX := Lib.hid (namesR_next hlt)
      have hnl := namesR_len (L.take k) [] (fun x hx => HSZ4.out x (List.mem_of_mem_take hx))
      rw [List.length_take, Nat.min_eq_left hk] at hnl
      have hps := MT.pre_length L[k] 1
      have hpz := HSZ4.out _ (List.getElem_mem hlt)
      have hw5 : Below w4.heap.size wr W5 := hB5.mono hbw.size
      have hti := ((HIN4.out _ (List.getElem_mem hlt)).below hbw).below hw5
      generalize namesR (L.take k) [] = xs at hrow hnl HNX
      have htw : TwoR w4.heap.size W5 u5 (.slice none 0 0) xs [] := ⟨owns_below hrow hB5, ⟨rfl, .inl ⟨rfl, rfl⟩⟩, by
        by_cases h : u5.ownBlock = none
        · exact .inl h
        · exact .inr h⟩
      have hus := rUses_any w4.heap.size L[k] 1 u5 (.slice none 0 0) xs [] W5 hti (by have := hbw.size; have := hB5.size; omega) htw (by simp only [List.length_nil] at hnl; omega) (by simp only [List.length_nil]; omega)
      have HBW := Lib.hid (hbw.trans hw5)
      simp only [MT.val] at hus
      rw [hA]
      clear hrow hnl hps hpz hti htw hbw hw5 hk5 hA
      go_wp2_with (go_at_call 76; refine hus.mono ?_; clear hus; rintro e w6 ⟨v1, v2, rfl, htw6, hb6⟩)
      go_roundw
      case rel => exact ⟨k + 1, by omega, by go_num, by rw [HNX.out]; exact htw6.1, HBW.out.trans hb6⟩
      case measure => simp [intOf]; omega
    · have hke : k = L.length := by omega
      rw [List.take_of_length_le (by omega)] at hrow
      obtain ⟨xs, hxs⟩ : ∃ xs, namesR L [] = xs := ⟨_, rfl⟩
      rw [hxs] at hrow
      rw [hxs] at HNL HMM
      obtain ⟨An, cn, hv, hle, hcm, hrN⟩ := row_of_owns hrow
      subst hv
      have hxl : xs.length ≤ 303000 := by have := HNL.out; simp only [List.length_nil] at this; omega
      have HRN := Lib.hid hrN
      have HB4 := Lib.hid (hb4.trans (hbw.mono hb4.size))
      have hlo : W1.heap.size ≤ wr.heap.size := HB4.out.size
      clear hrow hrN hbw hb4 hxs hke
      go_wp2_with fail
      go_loopw [8, 35] (fun v i' ws => ∃ (k : Nat) (Ts : List MT), k ≤ xs.length ∧ i' = .int .i64 (k : Nat) ∧ Coll wr.heap.size wr.heap.size ws v Ts ∧ Ts.map MT.tr = (xs.take k).map (fun k => Tr.mk 0 k []) ∧ Below wr.heap.size wr ws) (fun _ i' _ => xs.length - (intOf i').toNat)
      case atStart => exact ⟨0, [], Nat.zero_le _, rfl, Coll.nil _ _ _, rfl, Below.refl _ _⟩
      case round =>
        rename World => ws
        obtain ⟨k, Ts, hk, rfl, hco, htr, hbs⟩ := hrel
        have hlen : Ts.length = k := by have := congrArg List.length htr; simpa [Nat.min_eq_left hk] using this
        by_cases hlt : k < xs.length
        · obtain ⟨g, off, hA, -, hc⟩ := (HRN.out.below (Nat.le_refl _) hbs).vals (by omega)
          have e0 := hc k hlt
          have h0K : (0 : Int) ≤ k := by omega
          have hlK : (k : Int) < xs.length := by omega
          have HTX := Lib.hid (show (xs.take (k + 1)).map (fun k => Tr.mk 0 k []) = (xs.take k).map (fun k => Tr.mk 0 k []) ++ [Tr.mk 0 xs[k] []] by rw [List.take_succ_eq_append_getElem hlt, List.map_append]; rfl)
          have hws := hbs.size
          have HC := Lib.hid hco
          have HTR := Lib.hid htr
          have HBS := Lib.hid hbs
          rw [hA]
          generalize xs[k] = x at e0 HTX
          clear hc hco htr hbs hA
          go_wp2_with (first
            | (at_builtin; refine wpList_append_lies _ rfl _ _ 31 rfl wr.heap.size 33 i0 _ 3 40 Tryz.underlying31 hi hz0 hz1 hz2 rfl (by omega) _ Ts.length (Ts.flatMap MT.cs) rfl ((HC.out.later hb6).own) ⟨w5.heap.size, 0, none⟩ 1 1 [.int .i64 0, .int .i64 x, .slice none 0 0] rfl rfl (World.news_of_block (fr := (0, 0)) HK6.out) (by simp [Value.oneCell']) (by omega) (by unfold maxLen; omega) (by omega) (by have := hb6.size; omega) W6.heap.size rfl ?_; intro g7 cap w7 hown7 hg7 hat7 hlt7; have HA := Lib.hid (leaf_add HC.out hws hb5 HB6.out hown7 hg7 rfl hat7))
            | (go_at_call 54; refine (rOf5_any 0 x none 0 0 ws).mono ?_; rintro e w5 ⟨rfl, hb5⟩; obtain ⟨W6, hW6, hB6, hs6, hk6⟩ := newBlk w5 _ rfl #[.int .i64 0, .int .i64 x, .slice none 0 0] 33; have hb6 : Below ws.heap.size ws W6 := hb5.trans (hB6.mono hb5.size); have HK6 := Lib.hid hk6; have HB6 := Lib.hid hB6; clear hk6))
          go_roundw
          case rel => exact ⟨k + 1, Ts ++ [.mk 0 x none 0 []], by omega, by go_num, by have h := HA.out.1; rw [hlen] at h; exact h, by rw [List.map_append, HTR.out, HTX.out, List.map_cons, List.map_nil, tr_leaf], HBS.out.trans HA.out.2⟩
          case measure => simp [intOf]; omega
        · have hke : k = xs.length := by omega
          rw [List.take_of_length_le (by omega)] at htr
          have HC0 := Lib.hid hco
          have HT0 := Lib.hid htr
          have HBS := Lib.hid hbs
          have hbs1 : Below W1.heap.size W1 ws := HB4.out.trans (hbs.mono hlo)
          have hws := hbs.size
          obtain ⟨c0, c1, c2, c3, c4, c5, c6⟩ := HBB.out ws hbs1
          have hT0 : Ts.length ≤ 303000 := by omega
          clear hco htr hbs hke hlen
          go_wp2_with (go_at_call 77; refine (HCS.out ws hbs1).mono ?_; rintro e w7 ⟨vc, Cs, rfl, hcc, hct, hb7⟩; obtain ⟨Ac, cc, hvc, -, -, -⟩ := row_of_owns hcc.own; subst hvc)
          clear c0 c1 c2 c3 c4 c5 c6
          have hCl : Cs.length ≤ 200 := by have := congrArg List.length hct; simp only [List.length_map] at this; omega
          have HCA := Lib.hid (clause_all hct HWI.out)
          have HCC := Lib.hid hcc
          have HCT := Lib.hid hct
          have hb71 : Below W1.heap.size W1 w7 := hbs1.trans (hb7.mono hbs1.size)
          have HB7 := Lib.hid hb7
          have HG7 := Lib.hid (fun w' (h : Below wr.heap.size w7 w') => HG.out.later (hb71.trans (h.mono hlo)))
          have HB71 := Lib.hid hb71
          have HBS1 := Lib.hid hbs1
          clear hcc hct hb7 hb71 hbs1
          go_loopw [8, 48] (fun v i' wt => ∃ (k : Nat) (Ts' : List MT), k ≤ Cs.length ∧ i' = .int .i64 (k : Nat) ∧ Coll wr.heap.size wr.heap.size wt v Ts' ∧ Ts'.map MT.tr = colsR ((Cs.map MT.tr).take k) (Ts.map MT.tr) ∧ Grw w7 u8 wt v ∧ Ts'.length ≤ Ts.length + 2001 * k) (fun _ i' _ => Cs.length - (intOf i').toNat)
          case atStart => exact ⟨0, Ts, Nat.zero_le _, rfl, HC0.out.later HB7.out, by simp [colsR], Grw.below (Below.refl _ _), by omega⟩
          case round =>
            rename World => wt
            obtain ⟨k, Ts', hk, rfl, hco, htr, hgr, hln⟩ := hrel
            by_cases hlt : k < Cs.length
            · obtain ⟨g, off, hA, e0, e1, e2⟩ := clause_cells hlt HC0.out HCC.out hgr
              have h0K : (0 : Int) ≤ k := by omega
              have hlK : (k : Int) < Cs.length := by omega
              obtain ⟨W8, hW8, hB8, hs8, hk8⟩ := newBlk wt _ rfl #[.int .i64 Cs[k].op, .int .i64 Cs[k].n, .slice Cs[k].A Cs[k].args.length Cs[k].c] 33
              obtain ⟨⟨d0, d1, d2⟩, -⟩ := res3 hk8
              have hcl8 := col_clause hlt HG7.out hws HC0.out HB7.out HCC.out hgr hco hB8 HCA.out (by omega)
              have HNX := Lib.hid (colsR_next (l := Cs.map MT.tr) (k := k) (by simpa using hlt) (Ts.map MT.tr))
              have HTR := Lib.hid htr
              rw [hA]
              clear hco htr hgr hk8 hs8 hA
              go_wp2_with (go_at_call 78; refine hcl8.mono ?_; clear hcl8; rintro e w6 ⟨v6, T6, rfl, hc6, ht6, hg6, hl6⟩)
              go_roundw
              case rel => exact ⟨k + 1, T6, by omega, by go_num, hc6, by rw [HNX.out, List.getElem_map, ← HTR.out]; exact ht6, hg6, by omega⟩
              case measure => simp [intOf]; omega
            · have hke : k = Cs.length := by omega
              rw [List.take_of_length_le (by simp; omega), HCT.out, HT0.out] at htr
              have hc7 := HC0.out.later HB7.out
              have hb7t : Below wr.heap.size w7 wt := (Below.refl _ w7).grown hgr.1 (by have := HB7.out.size; omega) (fun k e => (own_lt hc7.own e).1)
              have HBT := Lib.hid (HB71.out.trans (hb7t.mono hlo))
              have hwt : wr.heap.size ≤ wt.heap.size := by have := hb7t.size; have := HB7.out.size; omega
              have hT1 : Ts'.length ≤ 703200 := by omega
              have HC1 := Lib.hid hco
              have HT1 := Lib.hid htr
              obtain ⟨c0, c1, c2, c3, c4, c5, c6⟩ := HBB.out wt HBT.out
              clear hco htr hgr hc7 hb7t hke hln
              go_wp2_with fail
              clear c0 c1 c2 c3 c4 c5 c6
              go_loopw [8, 59] (fun v i' wx => ∃ (k : Nat) (Tx : List MT), k ≤ b.F.length ∧ i' = .int .i64 (k : Nat) ∧ Coll wr.heap.size wr.heap.size wx v Tx ∧ Tx.map MT.tr = colsR ((b.F.map fun p => nnf p.2.tr false).take k) (Ts'.map MT.tr) ∧ Below wr.heap.size wt wx ∧ Tx.length ≤ Ts'.length + 1000 * k) (fun _ i' _ => b.F.length - (intOf i').toNat)
              case atStart => exact ⟨0, Ts', Nat.zero_le _, rfl, HC1.out, by simp [colsR], Below.refl _ _, by omega⟩
              case round =>
                rename World => wx
                obtain ⟨k, Tx, hk, rfl, hco, htr, hbx, hln⟩ := hrel
                by_cases hlt : k < b.F.length
                · have hbx1 := HBT.out.trans (hbx.mono hlo)
                  obtain ⟨g, off, hA, hg, e0, e1, e2, e3⟩ := (HB.out.later hbx1).fact hlt
                  have h0K : (0 : Int) ≤ k := by omega
                  have hlK : (k : Int) < b.F.length := by omega
                  obtain ⟨Wa, hWa, hBa, hsa, hka⟩ := newBlk wx _ rfl #[.int .i64 b.F[k].1, .int .i64 b.F[k].2.op, .int .i64 b.F[k].2.n, .slice b.F[k].2.A b.F[k].2.args.length b.F[k].2.c] 96
                  have d0 := cell_of_blk hka 0
                  have d1 := cell_of_blk hka 1
                  have d2 := cell_of_blk hka 2
                  have d3 := cell_of_blk hka 3
                  simp only [List.getElem?_toArray, List.getElem?_cons_zero, List.getElem?_cons_succ] at d0 d1 d2 d3
                  have hwf := HWF.out _ (List.getElem_mem hlt)
                  have hba1 := hbx1.trans (hBa.mono hbx1.size)
                  have hfo := HFO.out b.F[k].2 Wa hwf.1 hba1 (((HB.out.later hbx1).f4 _ (List.getElem_mem hlt)).later hBa)
                  have hGx : ∀ w', Below wr.heap.size wx w' → G w' := fun w' h => HG.out.later (hbx1.trans (h.mono hlo))
                  have hwx : wr.heap.size ≤ wx.heap.size := by have := hbx.size; omega
                  have hcf := fun (N : MT) w5 (h5 : Below Wa.heap.size Wa w5) (hN : New Wa.heap.size w5 N) (ht : N.tr = nnf b.F[k].2.tr false) => col_form hGx hco hwx hBa h5 hN ht hwf.1 hwf.2 (by omega)
                  have HNX := Lib.hid (colsR_next (l := b.F.map fun p => nnf p.2.tr false) (k := k) (by simpa using hlt) (Ts'.map MT.tr))
                  have HTR := Lib.hid htr
                  have HBX := Lib.hid hbx
                  have HCF := Lib.hid hcf
                  rw [hA]
                  clear hco htr hbx hbx1 hba1 hka hsa hwf hGx hcf hA
                  go_wp2_with (first
                    | (go_at_call 78; refine (HCF.out N w5 hb5 hNn hNt).mono ?_; rintro e w6 ⟨v6, T6, rfl, hc6, ht6, hb6, hl6⟩)
                    | (go_at_call 32; refine hfo.mono ?_; clear hfo; rintro e w5 ⟨N, rfl, hNt, hNn, hb5⟩))
                  go_roundw
                  case rel => exact ⟨k + 1, T6, by omega, by go_num, hc6, by rw [HNX.out, List.getElem_map, ← HTR.out]; exact ht6, HBX.out.trans hb6, by omega⟩
                  case measure => simp [intOf]; omega
                · have hke : k = b.F.length := by omega
                  rw [List.take_of_length_le (by simp; omega), HT1.out] at htr
                  have HBX := Lib.hid (HBT.out.trans (hbx.mono hlo))
                  have hwx : wr.heap.size ≤ wx.heap.size := by have := hbx.size; omega
                  have hT2 : Tx.length ≤ 903200 := by omega
                  have HC2 := Lib.hid hco
                  have HT2 := Lib.hid htr
                  clear hco htr hbx hke hln
                  go_wp2_with fail
                  go_loopw [8, 71] (fun v i' wy => ∃ (k : Nat) (Ty : List MT), k ≤ mo.l.length ∧ i' = .int .i64 (k : Nat) ∧ Coll wr.heap.size wr.heap.size wy v Ty ∧ Ty.map MT.tr = colsR ((mo.l.map fun T => nnf T.tr false).take k) (Tx.map MT.tr) ∧ Below wr.heap.size wx wy ∧ Ty.length ≤ Tx.length + 1000 * k) (fun _ i' _ => mo.l.length - (intOf i').toNat)
                  case atStart => exact ⟨0, Tx, Nat.zero_le _, rfl, HC2.out, by simp [colsR], Below.refl _ _, by omega⟩
                  case round =>
                    rename World => wy
                    obtain ⟨k, Ty, hk, rfl, hco, htr, hby, hln⟩ := hrel
                    by_cases hlt : k < mo.l.length
                    · have hby1 := HBX.out.trans (hby.mono hlo)
                      obtain ⟨g, off, hA, -, e0, e1, e2⟩ := elem3 (HRW.out wy hby1) (Below.refl _ _) hlt
                      have h0K : (0 : Int) ≤ k := by omega
                      have hlK : (k : Int) < mo.l.length := by omega
                      obtain ⟨Wa, hWa, hBa, hsa, hka⟩ := newBlk wy _ rfl #[.int .i64 mo.l[k].op, .int .i64 mo.l[k].n, .slice mo.l[k].A mo.l[k].args.length mo.l[k].c] 33
                      obtain ⟨⟨d0, d1, d2⟩, -⟩ := res3 hka
                      have hwf := HWM.out _ (List.getElem_mem hlt)
                      have hba1 := hby1.trans (hBa.mono hby1.size)
                      have hfo := HFO.out mo.l[k] Wa hwf.1 hba1 (HIN.out Wa hba1 _ (List.mem_append_right _ (List.getElem_mem hlt)))
                      have hGx : ∀ w', Below wr.heap.size wy w' → G w' := fun w' h => HG.out.later (hby1.trans (h.mono hlo))
                      have hwy : wr.heap.size ≤ wy.heap.size := by have := hby.size; omega
                      have hcf := fun (N : MT) w5 (h5 : Below Wa.heap.size Wa w5) (hN : New Wa.heap.size w5 N) (ht : N.tr = nnf mo.l[k].tr false) => col_form hGx hco hwy hBa h5 hN ht hwf.1 hwf.2 (by omega)
                      have HNX := Lib.hid (colsR_next (l := mo.l.map fun T => nnf T.tr false) (k := k) (by simpa using hlt) (Tx.map MT.tr))
                      have HTR := Lib.hid htr
                      have HBY := Lib.hid hby
                      have HCF := Lib.hid hcf
                      rw [hA]
                      clear hco htr hby hby1 hba1 hka hsa hwf hGx hcf hA
                      go_wp2_with (first
                        | (go_at_call 78; refine (HCF.out N w5 hb5 hNn hNt).mono ?_; rintro e w6 ⟨v6, T6, rfl, hc6, ht6, hb6, hl6⟩)
                        | (go_at_call 32; refine hfo.mono ?_; clear hfo; rintro e w5 ⟨N, rfl, hNt, hNn, hb5⟩))
                      go_roundw
                      case rel => exact ⟨k + 1, T6, by omega, by go_num, hc6, by rw [HNX.out, List.getElem_map, ← HTR.out]; exact ht6, HBY.out.trans hb6, by omega⟩
                      case measure => simp [intOf]; omega
                    · have hke : k = mo.l.length := by omega
                      rw [List.take_of_length_le (by simp; omega), HT2.out] at htr
                      have HC3 := Lib.hid hco
                      have HT3 := Lib.hid htr
                      have HBY := Lib.hid (HBL.out.trans ((HBX.out.trans (hby.mono hlo)).mono HBL.out.size))
                      clear hco htr hby
                      go_wp2_with fail
                      go_ret
                      exact ⟨_, Ty, rfl, HC3.out.lower (by have := HBL.out.size; omega), by rw [HT3.out, HMM.out], HBY.out⟩
end Go.Proofs.YtndkcimajeofcaaGreatDoor

namespace Go.Proofs.YtndkcimajeofcaaGreatDoor
open Go.RowKit
attribute [local go_sem ↓] Go.wp_at_zero Go.wp_at_succ

end Go.Proofs.YtndkcimajeofcaaGreatDoor

namespace Go.Proofs.YtndkcimajeofcaaGreatDoor
open Go.RowKit
attribute [local go_sem ↓] Go.wp_at_zero Go.wp_at_succ

/-- The marks as they lie. -/
def MkIn (base : Nat) (v : Value) (Ls : List MT) (w : World) : Prop := w.ownsRow base 33 3 v Ls.length (Ls.flatMap MT.cs) ∧ ∀ t ∈ Ls, t.In w.heap.size w
theorem MkIn.later {base : Nat} {v : Value} {Ls : List MT} {w w' : World} (h : MkIn base v Ls w) (hb : Below w.heap.size w w') : MkIn base v Ls w' := ⟨owns_below h.1 hb, fun t ht => (h.2 t ht).later hb⟩
theorem Coll.mkIn {lo : Nat} {v : Value} {Ls : List MT} {w : World} (h : Coll lo lo w v Ls) : MkIn lo v Ls w := ⟨h.own, fun t ht => (h.trees t ht).1.1⟩
theorem coverRs_all (L : List Tr) : ∀ l : List Tr, coverRs L l = l.all (coverR L)
  | [] => rfl
  | t :: l => by rw [coverRs, coverRs_all L l]; rfl
theorem covers_no {L : List Tr} {args : List MT} {k : Nat} (hk : k < args.length) (h : coverR L args[k].tr = false) : ((args.map MT.tr).all (coverR L)) = false := by
  rw [List.all_eq_false]
  exact ⟨_, List.mem_map_of_mem (List.getElem_mem hk), by rw [h]; simp⟩
theorem covers_yes {L : List Tr} {args : List MT} (h : ∀ j (hj : j < args.length), coverR L args[j].tr = true) : ((args.map MT.tr).all (coverR L)) = true := by
  rw [List.all_eq_true]
  intro t ht
  obtain ⟨T, hT, rfl⟩ := List.mem_map.1 ht
  obtain ⟨j, hj, rfl⟩ := List.getElem_of_mem hT
  exact h j hj
theorem placeI_ge {L : List Tr} {t : Tr} : decide (0 ≤ placeI L t) = L.any fun d => d.beq t := by
  have h := placeI_neg (L := L) (t := t)
  cases ha : L.any (fun d => d.beq t) with
  | true => rw [ha] at h; have := of_decide_eq_false h; exact decide_eq_true (by omega)
  | false => rw [ha] at h; have := of_decide_eq_true h; exact decide_eq_false (by omega)
/-- What is claimed of the reference's Covered at one tree. -/
def CovOK (base : Nat) (v : Value) (Ls : List MT) (X : MT) : Prop := ∀ w, MkIn base v Ls w → G w → X.In w.heap.size w → X.WF → Calls Tryz.prog 33 #[v, X.val] w fun e w' => e = .returned (.bool (coverR (Ls.map MT.tr) X.tr)) ∧ Below w.heap.size w w'
set_option maxRecDepth 100000 in
set_option maxHeartbeats 16000000 in
theorem cov_name (base : Nat) (v : Value) (Ls : List MT) (op nn : Int) (A : Option Addr) (c : Nat) (args : List MT) (ih : ∀ k (hk : k < args.length), CovOK base v Ls args[k]) (hq : op = 0) : CovOK base v Ls (.mk op nn A c args) := by
  intro w hM hG hX hWF
  have hWFs : MT.WFs args := by rw [MT.WF] at hWF; exact hWF.2.2.2
  have hWF0 := hWF
  have har : (args.length : Int) = arityF op := by rw [MT.WF] at hWF; exact hWF.2.2.1
  obtain ⟨W1, hW1, hB1, hs1, hk1⟩ := newBlk w _ rfl #[.int .i64 op, .int .i64 nn, .slice A args.length c] 33
  have hcells : ∀ w', Below W1.heap.size W1 w' → w'.cell? ⟨w.heap.size, 0, none⟩ = some (.int .i64 op) ∧ w'.cell? ⟨w.heap.size, 1, none⟩ = some (.int .i64 nn) ∧ w'.cell? ⟨w.heap.size, 2, none⟩ = some (.slice A args.length c) := fun w' h => (res3 (blk_lat0 hk1 h)).1
  obtain ⟨c0, c1, c2⟩ := hcells W1 (Below.refl _ _)
  have hM1 := hM.later hB1
  have hX1 := hX.later hB1
  have HCE := Lib.hid hcells
  have HX := Lib.hid hX1
  have HG := Lib.hid (hG.later hB1)
  have HM := Lib.hid hM1
  have HWF := Lib.hid hWFs
  have HBL := Lib.hid hB1
  have HIH := Lib.hid ih
  have hal : args.length ≤ 9223372036854775807 := by have h := hX; rw [MT.In] at h; omega
  have hqu := quantR5_any op W1
  rw [MT.tr_mk]
  subst hq
  have hcr : coverR (Ls.map MT.tr) (.mk 0 nn (args.map MT.tr)) = (Ls.map MT.tr).any fun d => d.beq (.mk 0 nn (args.map MT.tr)) := by rw [coverR, if_pos rfl]
  have hge := placeI_ge (L := Ls.map MT.tr) (t := .mk 0 nn (args.map MT.tr))
  have hpl := PlaceI_any (base := base) v Ls (.mk 0 nn A c args) W1 hM1.1 hM1.2 hX1
  rw [MT.tr_mk] at hpl
  rw [hcr, ← hge]
  simp only [MT.val, MT.op, MT.n, MT.A, MT.c, MT.args] at hpl ⊢
  generalize placeI (Ls.map MT.tr) (.mk 0 nn (args.map MT.tr)) = p at hpl ⊢
  clear hge hcr hcells hX1 hM1 hG hX hM hWF hWF0 hWFs hB1 hk1 har ih hqu
  go_enter Tryz.func33, Tryz.ntmps33
  go_wp2_with (go_at_call 80; refine hpl.mono ?_; clear hpl; rintro e w6 ⟨rfl, hb6⟩)
  go_ret
  exact ⟨rfl, HBL.out.trans (hb6.mono HBL.out.size)⟩
set_option maxRecDepth 100000 in
set_option maxHeartbeats 16000000 in
theorem cov_plain (base : Nat) (v : Value) (Ls : List MT) (op nn : Int) (A : Option Addr) (c : Nat) (args : List MT) (ih : ∀ k (hk : k < args.length), CovOK base v Ls args[k]) (hq : op ≠ 0 ∧ ¬ (op = 6 ∨ op = 7)) : CovOK base v Ls (.mk op nn A c args) := by
  intro w hM hG hX hWF
  have hWFs : MT.WFs args := by rw [MT.WF] at hWF; exact hWF.2.2.2
  have hWF0 := hWF
  have har : (args.length : Int) = arityF op := by rw [MT.WF] at hWF; exact hWF.2.2.1
  obtain ⟨W1, hW1, hB1, hs1, hk1⟩ := newBlk w _ rfl #[.int .i64 op, .int .i64 nn, .slice A args.length c] 33
  have hcells : ∀ w', Below W1.heap.size W1 w' → w'.cell? ⟨w.heap.size, 0, none⟩ = some (.int .i64 op) ∧ w'.cell? ⟨w.heap.size, 1, none⟩ = some (.int .i64 nn) ∧ w'.cell? ⟨w.heap.size, 2, none⟩ = some (.slice A args.length c) := fun w' h => (res3 (blk_lat0 hk1 h)).1
  obtain ⟨c0, c1, c2⟩ := hcells W1 (Below.refl _ _)
  have hM1 := hM.later hB1
  have hX1 := hX.later hB1
  have HCE := Lib.hid hcells
  have HX := Lib.hid hX1
  have HG := Lib.hid (hG.later hB1)
  have HM := Lib.hid hM1
  have HWF := Lib.hid hWFs
  have HBL := Lib.hid hB1
  have HIH := Lib.hid ih
  have hal : args.length ≤ 9223372036854775807 := by have h := hX; rw [MT.In] at h; omega
  have hqu := quantR5_any op W1
  rw [MT.tr_mk]
  have hq0 : (op == 0) = false := by simpa using hq.1
  have hq67 : (op == 6 || op == 7) = false := by have := hq.2; simp; omega
  have HCR := Lib.hid (show coverR (Ls.map MT.tr) (.mk op nn (args.map MT.tr)) = coverRs (Ls.map MT.tr) (args.map MT.tr) by rw [coverR, if_neg hq.1, if_neg hq.2, Bool.true_and])
  rw [hq67] at hqu
  simp only [MT.val, MT.op, MT.n, MT.A, MT.c, MT.args]
  clear hcells hX1 hM1 hG hX hM hWF hWF0 hWFs hB1 hk1 har ih hq hq67
  go_enter Tryz.func33, Tryz.ntmps33
  go_wp2_with (go_at_call 81; refine hqu.mono ?_; clear hqu; rintro e w9 ⟨rfl, hw9⟩; subst w9)
  clear c0 c1 c2
  go_loopw [27] (fun i' wr => ∃ k : Nat, k ≤ args.length ∧ i' = .int .i64 (k : Nat) ∧ (∀ j (hj : j < args.length), j < k → coverR (Ls.map MT.tr) args[j].tr = true) ∧ Below W1.heap.size W1 wr) (fun i' _ => args.length - (intOf i').toNat)
  case atStart => exact ⟨0, Nat.zero_le _, rfl, fun j _ h => absurd h (by omega), Below.refl _ _⟩
  case round =>
    rename World => wr
    obtain ⟨k, hk, rfl, hall, hbw⟩ := hrel
    have HA := Lib.hid hall
    clear hall
    by_cases hlt : k < args.length
    · have hXr := HX.out.later hbw
      have hrr : RowAt wr wr.heap.size 3 A args.length (args.flatMap MT.cs) := by have h := hXr; rw [MT.In] at h; exact h.2.2.1
      have hin : (args[k]).In wr.heap.size wr := by have h := hXr; rw [MT.In] at h; exact h.2.2.2.at_ k hlt
      obtain ⟨ab, aoff, hA, -, e0, e1, e2⟩ := elem3 hrr (Below.refl _ _) hlt
      have h0K : (0 : Int) ≤ k := by omega
      have hlK : (k : Int) < args.length := by omega
      obtain ⟨W5, hW5, hB5, hs5, hk5⟩ := newBlk wr _ rfl #[.int .i64 args[k].op, .int .i64 args[k].n, .slice args[k].A args[k].args.length args[k].c] 33
      obtain ⟨⟨d0, d1, d2⟩, -⟩ := res3 hk5
      have hb5 := hbw.trans (hB5.mono hbw.size)
      have hih := HIH.out k hlt W5 (HM.out.later hb5) (HG.out.later hb5) (hin.later hB5) (wfs_arg HWF.out k hlt)
      have HB5 := Lib.hid hb5
      simp only [MT.val] at hih
      rw [hA]
      clear hXr hrr hin hbw hb5 hk5 hs5 hA
      rcases hq : coverR (Ls.map MT.tr) args[k].tr
      · rw [hq] at hih
        have HF := Lib.hid (show coverR (Ls.map MT.tr) (.mk op nn (args.map MT.tr)) = false by rw [HCR.out, coverRs_all]; exact covers_no hlt hq)
        clear hq
        go_wp2_with (go_at_call 33; refine hih.mono ?_; clear hih; rintro e w6 ⟨rfl, hb6⟩)
        go_ret
        exact ⟨by rw [HF.out]; rfl, HBL.out.trans ((HB5.out.trans (hb6.mono HB5.out.size)).mono HBL.out.size)⟩
      · rw [hq] at hih
        have HN := Lib.hid (show ∀ j (hj : j < args.length), j < k + 1 → coverR (Ls.map MT.tr) args[j].tr = true from fun j hj hjk => by
          by_cases e : j = k
          · subst e; exact hq
          · exact HA.out j hj (by omega))
        clear hq
        go_wp2_with (go_at_call 33; refine hih.mono ?_; clear hih; rintro e w6 ⟨rfl, hb6⟩)
        go_roundw
        case rel => exact ⟨k + 1, by omega, by go_num, HN.out, HB5.out.trans (hb6.mono HB5.out.size)⟩
        case measure => simp [intOf]; omega
    · have HF := Lib.hid (show coverR (Ls.map MT.tr) (.mk op nn (args.map MT.tr)) = true by rw [HCR.out, coverRs_all]; exact covers_yes fun j hj => HA.out j hj (by omega))
      have HB6 := Lib.hid hbw
      clear hbw
      go_wp2_with fail
      go_ret
      exact ⟨by rw [HF.out]; rfl, HBL.out.trans (HB6.out.mono HBL.out.size)⟩
set_option maxRecDepth 100000 in
set_option maxHeartbeats 16000000 in
theorem cov_quant (base : Nat) (v : Value) (Ls : List MT) (op nn : Int) (A : Option Addr) (c : Nat) (args : List MT) (ih : ∀ k (hk : k < args.length), CovOK base v Ls args[k]) (hq : op = 6 ∨ op = 7) : CovOK base v Ls (.mk op nn A c args) := by
  intro w hM hG hX hWF
  have hWFs : MT.WFs args := by rw [MT.WF] at hWF; exact hWF.2.2.2
  have hWF0 := hWF
  have har : (args.length : Int) = arityF op := by rw [MT.WF] at hWF; exact hWF.2.2.1
  obtain ⟨W1, hW1, hB1, hs1, hk1⟩ := newBlk w _ rfl #[.int .i64 op, .int .i64 nn, .slice A args.length c] 33
  have hcells : ∀ w', Below W1.heap.size W1 w' → w'.cell? ⟨w.heap.size, 0, none⟩ = some (.int .i64 op) ∧ w'.cell? ⟨w.heap.size, 1, none⟩ = some (.int .i64 nn) ∧ w'.cell? ⟨w.heap.size, 2, none⟩ = some (.slice A args.length c) := fun w' h => (res3 (blk_lat0 hk1 h)).1
  obtain ⟨c0, c1, c2⟩ := hcells W1 (Below.refl _ _)
  have hM1 := hM.later hB1
  have hX1 := hX.later hB1
  have HCE := Lib.hid hcells
  have HX := Lib.hid hX1
  have HG := Lib.hid (hG.later hB1)
  have HM := Lib.hid hM1
  have HWF := Lib.hid hWFs
  have HBL := Lib.hid hB1
  have HIH := Lib.hid ih
  have hal : args.length ≤ 9223372036854775807 := by have h := hX; rw [MT.In] at h; omega
  have hqu := quantR5_any op W1
  rw [MT.tr_mk]
  have hq0 : (op == 0) = false := by rcases hq with rfl | rfl <;> rfl
  have hq67 : (op == 6 || op == 7) = true := by rcases hq with rfl | rfl <;> rfl
  have h1 : args.length = 1 := by rw [arityF, if_pos (by omega)] at har; omega
  have hmk := rMark5_any (.mk op nn A c args) W1 (hG.later hB1) hX1 hWF0 hq h1
  obtain ⟨p, hp⟩ : ∃ p, placeI (Ls.map MT.tr) (markR (.mk op nn (args.map MT.tr))) = p := ⟨_, rfl⟩
  have hpn := placeI_neg (L := Ls.map MT.tr) (t := markR (.mk op nn (args.map MT.tr)))
  rw [hp] at hpn
  have HCQ := Lib.hid (show coverR (Ls.map MT.tr) (.mk op nn (args.map MT.tr)) = (!decide (p < 0) && coverRs (Ls.map MT.tr) (args.map MT.tr)) by rw [coverR, if_neg (by simpa using hq0), if_pos hq, hpn, Bool.not_not])
  have hpg : ∀ M w4, Below W1.heap.size W1 w4 → M.tr = markR (Tr.mk op nn (args.map MT.tr)) → (M = MT.mk op nn A c args ∨ New W1.heap.size w4 M) → Calls Tryz.prog 80 #[v, .agg #[.int .i64 M.op, .int .i64 M.n, .slice M.A M.args.length M.c]] w4 fun e w' => e = .returned (.int .i64 p) ∧ Below w4.heap.size w4 w' := fun M w4 hb4 hMt hMi => by
    have hin : M.In w4.heap.size w4 := by
      rcases hMi with rfl | hMi
      · exact HX.out.later hb4
      · exact hMi.1
    have hpl := PlaceI_any (base := base) v Ls M w4 (HM.out.later hb4).1 (HM.out.later hb4).2 hin
    rw [hMt, hp] at hpl
    exact hpl
  have HPG := Lib.hid hpg
  simp only [MT.val, MT.op, MT.n, MT.A, MT.c, MT.args] at hmk ⊢
  have HMK := Lib.hid hmk
  rw [hq67] at hqu
  clear hcells hX1 hM1 hG hX hM hWF hWF0 hWFs hB1 hk1 har ih hq hq67 hmk hpg hp hpn h1
  cases hd : decide (p < 0)
  · have HCR := Lib.hid (show coverR (Ls.map MT.tr) (.mk op nn (args.map MT.tr)) = coverRs (Ls.map MT.tr) (args.map MT.tr) by rw [HCQ.out, hd]; rfl)
    go_enter Tryz.func33, Tryz.ntmps33
    go_wp2_with (first
      | (go_at_call 80; refine (HPG.out M w4 hb4 HMt.out HMi.out).mono ?_; rintro e w6 ⟨rfl, hb6⟩; have hb6' := hb4.trans (hb6.mono hb4.size); clear c0 c1 c2; obtain ⟨c0, c1, c2⟩ := HCE.out w6 hb6')
      | (go_at_call 82; refine HMK.out.mono ?_; rintro e w4 ⟨M, rfl, hMt', hM', hb4⟩; rw [MT.tr_mk] at hMt'; have HMt := Lib.hid hMt'; have HMi := Lib.hid hM'; clear hMt' hM')
      | (go_at_call 81; refine hqu.mono ?_; clear hqu; rintro e w9 ⟨rfl, hw9⟩; subst w9))
    clear c0 c1 c2
    go_loopw [27] (fun i' wr => ∃ k : Nat, k ≤ args.length ∧ i' = .int .i64 (k : Nat) ∧ (∀ j (hj : j < args.length), j < k → coverR (Ls.map MT.tr) args[j].tr = true) ∧ Below W1.heap.size W1 wr) (fun i' _ => args.length - (intOf i').toNat)
    case atStart => exact ⟨0, Nat.zero_le _, rfl, fun j _ h => absurd h (by omega), hb6'⟩
    case round =>
      rename World => wr
      obtain ⟨k, hk, rfl, hall, hbw⟩ := hrel
      have HA := Lib.hid hall
      clear hall
      by_cases hlt : k < args.length
      · have hXr := HX.out.later hbw
        have hrr : RowAt wr wr.heap.size 3 A args.length (args.flatMap MT.cs) := by have h := hXr; rw [MT.In] at h; exact h.2.2.1
        have hin : (args[k]).In wr.heap.size wr := by have h := hXr; rw [MT.In] at h; exact h.2.2.2.at_ k hlt
        obtain ⟨ab, aoff, hA, -, e0, e1, e2⟩ := elem3 hrr (Below.refl _ _) hlt
        have h0K : (0 : Int) ≤ k := by omega
        have hlK : (k : Int) < args.length := by omega
        obtain ⟨W5, hW5, hB5, hs5, hk5⟩ := newBlk wr _ rfl #[.int .i64 args[k].op, .int .i64 args[k].n, .slice args[k].A args[k].args.length args[k].c] 33
        obtain ⟨⟨d0, d1, d2⟩, -⟩ := res3 hk5
        have hb5 := hbw.trans (hB5.mono hbw.size)
        have hih := HIH.out k hlt W5 (HM.out.later hb5) (HG.out.later hb5) (hin.later hB5) (wfs_arg HWF.out k hlt)
        have HB5 := Lib.hid hb5
        simp only [MT.val] at hih
        rw [hA]
        clear hXr hrr hin hbw hb5 hk5 hs5 hA
        rcases hq : coverR (Ls.map MT.tr) args[k].tr
        · rw [hq] at hih
          have HF := Lib.hid (show coverR (Ls.map MT.tr) (.mk op nn (args.map MT.tr)) = false by rw [HCR.out, coverRs_all]; exact covers_no hlt hq)
          clear hq
          go_wp2_with (go_at_call 33; refine hih.mono ?_; clear hih; rintro e w6 ⟨rfl, hb6⟩)
          go_ret
          exact ⟨by rw [HF.out]; rfl, HBL.out.trans ((HB5.out.trans (hb6.mono HB5.out.size)).mono HBL.out.size)⟩
        · rw [hq] at hih
          have HN := Lib.hid (show ∀ j (hj : j < args.length), j < k + 1 → coverR (Ls.map MT.tr) args[j].tr = true from fun j hj hjk => by
            by_cases e : j = k
            · subst e; exact hq
            · exact HA.out j hj (by omega))
          clear hq
          go_wp2_with (go_at_call 33; refine hih.mono ?_; clear hih; rintro e w6 ⟨rfl, hb6⟩)
          go_roundw
          case rel => exact ⟨k + 1, by omega, by go_num, HN.out, HB5.out.trans (hb6.mono HB5.out.size)⟩
          case measure => simp [intOf]; omega
      · have HF := Lib.hid (show coverR (Ls.map MT.tr) (.mk op nn (args.map MT.tr)) = true by rw [HCR.out, coverRs_all]; exact covers_yes fun j hj => HA.out j hj (by omega))
        have HB6 := Lib.hid hbw
        clear hbw
        go_wp2_with fail
        go_ret
        exact ⟨by rw [HF.out]; rfl, HBL.out.trans (HB6.out.mono HBL.out.size)⟩
  · have HF := Lib.hid (show coverR (Ls.map MT.tr) (.mk op nn (args.map MT.tr)) = false by rw [HCQ.out, hd]; rfl)
    go_enter Tryz.func33, Tryz.ntmps33
    go_wp2_with (first
      | (go_at_call 80; refine (HPG.out M w4 hb4 HMt.out HMi.out).mono ?_; rintro e w6 ⟨rfl, hb6⟩; have hb6' := hb4.trans (hb6.mono hb4.size); clear c0 c1 c2; obtain ⟨c0, c1, c2⟩ := HCE.out w6 hb6')
      | (go_at_call 82; refine HMK.out.mono ?_; rintro e w4 ⟨M, rfl, hMt', hM', hb4⟩; rw [MT.tr_mk] at hMt'; have HMt := Lib.hid hMt'; have HMi := Lib.hid hM'; clear hMt' hM')
      | (go_at_call 81; refine hqu.mono ?_; clear hqu; rintro e w9 ⟨rfl, hw9⟩; subst w9))
    go_ret
    exact ⟨by rw [HF.out]; rfl, HBL.out.trans (hb6'.mono HBL.out.size)⟩
/-- The reference's Covered. -/
theorem rCovered_any (base : Nat) (v : Value) (Ls : List MT) (X : MT) : CovOK base v Ls X := by
  induction X using MT.induct with
  | h op nn A c args ih =>
    by_cases h0 : op = 0
    · exact cov_name base v Ls op nn A c args ih h0
    · by_cases h67 : op = 6 ∨ op = 7
      · exact cov_quant base v Ls op nn A c args ih h67
      · exact cov_plain base v Ls op nn A c args ih ⟨h0, h67⟩
end Go.Proofs.YtndkcimajeofcaaGreatDoor
