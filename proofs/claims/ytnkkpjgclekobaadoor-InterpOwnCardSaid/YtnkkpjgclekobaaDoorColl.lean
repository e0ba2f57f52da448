import Derived.Test.YtnkkpjgclekobaaDoorTree2
namespace Go.Proofs.YtnkkpjgclekobaaDoor
open Go.RowKit

theorem owns_below {w w' : World} {base : Nat} {e : TypeId} {size n : Nat} {v : Value} {xs : List Value} (h : w.ownsRow base e size v n xs) (hb : Below w.heap.size w w') : w'.ownsRow base e size v n xs := by
  refine ⟨h.1, ?_⟩
  rcases h.2 with h0 | ⟨g, cap, cur, hv, hge, hheap, hrest⟩
  · exact .inl h0
  · exact .inr ⟨g, cap, cur, hv, hge, (hb.block g (Array.getElem?_eq_some_iff.1 hheap).1).trans hheap, hrest⟩
theorem owns_grown {w w' : World} {base : Nat} {e : TypeId} {size n : Nat} {v : Value} {xs : List Value} {row : Option Nat} (h : w.ownsRow base e size v n xs) (hg : w.grownBy w' row) (hr : v.ownBlock ≠ row ∨ v.ownBlock = none) : w'.ownsRow base e size v n xs := by
  refine ⟨h.1, ?_⟩
  rcases h.2 with h0 | ⟨g, cap, cur, rfl, hge, hheap, hrest⟩
  · exact .inl h0
  · refine .inr ⟨g, cap, cur, rfl, hge, (hg.block g (Array.getElem?_eq_some_iff.1 hheap).1 ?_).trans hheap, hrest⟩
    rcases hr with h1 | h1
    · exact h1
    · cases h1
theorem own_lt {w : World} {base : Nat} {e : TypeId} {size n g : Nat} {v : Value} {xs : List Value} (h : w.ownsRow base e size v n xs) (hg : v.ownBlock = some g) : base ≤ g ∧ g < w.heap.size := by
  rcases h.2 with ⟨rfl, _⟩ | ⟨g', cap, cur, rfl, hge, hheap, _⟩
  · cases hg
  · have : g' = g := Option.some.inj hg
    subst this
    exact ⟨hge, (Array.getElem?_eq_some_iff.1 hheap).1⟩

/-- WHAT HAS BEEN COLLECTED: the slice v of the call's own holds the new trees Ts. -/
structure Coll (lo base : Nat) (w : World) (v : Value) (Ts : List MT) : Prop where
  own : w.ownsRow base 27 3 v Ts.length (Ts.flatMap MT.cs)
  trees : ∀ t ∈ Ts, New lo w t ∧ MT.All (fun b => some b ≠ v.ownBlock) t

theorem Coll.nil (lo base : Nat) (w : World) : Coll lo base w (.slice none 0 0) [] := ⟨⟨rfl, .inl ⟨rfl, rfl⟩⟩, by simp⟩
theorem Coll.later {lo base : Nat} {w w' : World} {v : Value} {Ts : List MT} (h : Coll lo base w v Ts) (hb : Below w.heap.size w w') : Coll lo base w' v Ts :=
  ⟨owns_below h.own hb, fun t ht => ⟨(h.trees t ht).1.later hb, (h.trees t ht).2⟩⟩
/-- A store into a block below lo and base. -/
theorem Coll.setCell {lo base : Nat} {w : World} {v : Value} {Ts : List MT} (h : Coll lo base w v Ts) {p : Addr} (hp : p.block < lo) (hp' : p.block < base) (u : Value) : Coll lo base (w.setCell p u) v Ts := by
  have hg : w.grownBy (w.setCell p u) (some p.block) := ⟨rfl, rfl, rfl, (KeepsWalks.setCell w p u).size, fun k _ hk => Below.heap_setCell _ _ _ k (fun e => hk (by rw [e]))⟩
  refine ⟨owns_grown h.own hg ?_, fun t ht => ⟨(h.trees t ht).1.grown hg ?_, (h.trees t ht).2⟩⟩
  · by_cases hv : v.ownBlock = none
    · exact .inr hv
    · refine .inl fun e => ?_
      have := (own_lt h.own e).1
      omega
  · refine MT.All.imp (fun b hb e => ?_) t (h.trees t ht).1.2
    have : b = p.block := Option.some.inj e
    have := hb.1
    omega
/-- One more: behind the append law's words. `w` is the world of the append, `tmp` the element's own block. -/
theorem Coll.add {lo base : Nat} {w w' : World} {v v' : Value} {Ts : List MT} {T : MT} (h : Coll lo base w v Ts) (hT : New lo w T) (hTv : MT.All (fun b => some b ≠ v.ownBlock) T)
    (hown : w'.ownsRow base 27 3 v' (Ts.length + 1) (Ts.flatMap MT.cs ++ T.cs)) (hg : w.grownBy w' v.ownBlock) (hv : v'.ownBlock = v.ownBlock ∨ ∃ g, v'.ownBlock = some g ∧ w.heap.size ≤ g) : Coll lo base w' v' (Ts ++ [T]) := by
  refine ⟨by rw [List.length_append, List.flatMap_append]; simpa using hown, fun t ht => ?_⟩
  have ht2 : New lo w t ∧ MT.All (fun b => some b ≠ v.ownBlock) t := by
    rcases List.mem_append.1 ht with h1 | h1
    · exact h.trees t h1
    · rw [List.mem_singleton.1 h1]; exact ⟨hT, hTv⟩
  refine ⟨ht2.1.grown hg ht2.2, ?_⟩
  rcases hv with hv | ⟨g, hv, hge⟩
  · rw [hv]; exact ht2.2
  · rw [hv]
    exact MT.All.imp (fun b hb e => by have : b = g := Option.some.inj e; omega) t (MT.In.all t ht2.1.1)
/-- A tree that is newer than the slice keeps off its block. -/
theorem Coll.off {lo base lo' : Nat} {w w' : World} {v : Value} {Ts : List MT} {T : MT} (h : Coll lo base w v Ts) (hT : New lo' w' T) (hl : w.heap.size ≤ lo') : MT.All (fun b => some b ≠ v.ownBlock) T :=
  MT.All.imp (fun b hb e => by
    have h1 := (own_lt h.own e.symm).2
    have := hb.1
    omega) T hT.2

theorem frozen_of_blk {W : World} {b : Nat} {cs : Array Value} {t : TypeId} (h : W.heap[b]? = some (.cells cs t)) (i : Nat) : W.frozen? ⟨b, i, none⟩ = false := by simp [World.frozen?, h]
theorem blk_set {W : World} {b : Nat} {cs : Array Value} {t : TypeId} (h : W.heap[b]? = some (.cells cs t)) (i : Nat) (v : Value) : (W.setCell ⟨b, i, none⟩ v).heap[b]? = some (.cells (cs.setIfInBounds i v) t) := by
  obtain ⟨hlt, hk⟩ := Array.getElem?_eq_some_iff.1 h
  show (W.heap.modify b _)[b]? = _
  rw [Array.getElem?_eq_getElem (by rw [Array.size_modify]; exact hlt), Array.getElem_modify_self, hk]
  rfl
theorem grown_set (W : World) (b i : Nat) (v : Value) : W.grownBy (W.setCell ⟨b, i, none⟩ v) (some b) :=
  ⟨rfl, rfl, rfl, (KeepsWalks.setCell W ⟨b, i, none⟩ v).size, fun k _ hk => Below.heap_setCell _ _ _ k (fun e => hk (by rw [e]))⟩
theorem grown_trans {A B C : World} {row : Option Nat} (h : A.grownBy B row) (k : B.grownBy C row) : A.grownBy C row :=
  ⟨k.os.trans h.os, k.tape.trans h.tape, k.output.trans h.output, Nat.le_trans h.size k.size, fun i hi hr => (k.block i (Nat.lt_of_lt_of_le hi h.size) hr).trans (h.block i hi hr)⟩
/-- A struct of three stored into a block. -/
theorem store3 {W : World} {b : Nat} {x0 y0 z0 : Value} {t : TypeId} (h : W.heap[b]? = some (.cells #[x0, y0, z0] t)) (x y z : Value) :
    (((W.setCell ⟨b, 0, none⟩ x).setCell ⟨b, 1, none⟩ y).setCell ⟨b, 2, none⟩ z).heap[b]? = some (.cells #[x, y, z] t) ∧
    W.grownBy (((W.setCell ⟨b, 0, none⟩ x).setCell ⟨b, 1, none⟩ y).setCell ⟨b, 2, none⟩ z) (some b) :=
  ⟨blk_set (blk_set (blk_set h 0 x) 1 y) 2 z, grown_trans (grown_trans (grown_set W b 0 x) (grown_set _ b 1 y)) (grown_set _ b 2 z)⟩
theorem below_grown {B : Nat} {W W' : World} {b : Nat} (h : W.grownBy W' (some b)) (hb : B ≤ b) (hB : B ≤ W.heap.size) : Below B W W' := (Below.refl _ _).grown h hB (fun k e => by cases e; exact hb)

/-- ONE ROUND of 'd.Args = append(d.Args, f(arg))': W5 is the world in which f was called, w' the one it left, w6 the append's. -/
theorem coll_step {D g cap : Nat} {wr W5 w' w6 : World} {v x y : Value} {Ts : List MT} {T : MT} {o : Obj} {t : TypeId}
    (hco : Coll (D + 1) (D + 1) wr v Ts) (hB5 : Below wr.heap.size wr W5) (hbl : Below W5.heap.size W5 w') (hnew : New W5.heap.size w' T)
    (hown : w6.ownsRow (D + 1) 27 3 (.slice (some ⟨g, 0, none⟩) (Ts.length + 1) cap) (Ts.length + 1) (Ts.flatMap MT.cs ++ T.cs)) (hg : (w'.alloc o).grownBy w6 v.ownBlock)
    (hat : v.ownBlock = some g ∨ g = w'.heap.size + 1) (hD : wr.heap[D]? = some (.cells #[x, y, v] t)) :
    (w6.setCell ⟨D, 2, none⟩ (.slice (some ⟨g, 0, none⟩) (Ts.length + 1) cap)).heap[D]? = some (.cells #[x, y, .slice (some ⟨g, 0, none⟩) (Ts.length + 1) cap] t) ∧
    Coll (D + 1) (D + 1) (w6.setCell ⟨D, 2, none⟩ (.slice (some ⟨g, 0, none⟩) (Ts.length + 1) cap)) (.slice (some ⟨g, 0, none⟩) (Ts.length + 1) cap) (Ts ++ [T]) ∧
    Below D wr (w6.setCell ⟨D, 2, none⟩ (.slice (some ⟨g, 0, none⟩) (Ts.length + 1) cap)) := by
  have hDlt : D < wr.heap.size := (Array.getElem?_eq_some_iff.1 hD).1
  have s5 := hB5.size
  have s6 := hbl.size
  have hb : Below wr.heap.size wr w' := hB5.trans (hbl.mono s5)
  have hb2 : Below wr.heap.size wr (w'.alloc o) := hb.alloc hb.size o
  have hco2 := hco.later hb2
  have nD : some D ≠ v.ownBlock := fun e => by have := (own_lt hco.own e.symm).1; omega
  have hD6 : w6.heap[D]? = some (.cells #[x, y, v] t) := (hg.block D (by simp; omega) nD).trans ((hb2.block D hDlt).trans hD)
  refine ⟨blk_set hD6 2 _, ?_, ?_⟩
  · refine Coll.setCell (Coll.add hco2 ((hnew.lo (by omega)).later ((Below.refl _ w').alloc (Nat.le_refl _) o)) (hco.off hnew s5) hown hg ?_) (by show D < D + 1; omega) (by show D < D + 1; omega) _
    rcases hat with h | h
    · exact .inl h.symm
    · exact .inr ⟨g, rfl, by simp; omega⟩
  · have h1 : Below D wr w6 := (hb2.mono (by omega)).grown hg (by simp; omega) (fun k e => by
      have := (own_lt hco.own e).1
      omega)
    exact h1.setCell (p := ⟨D, 2, none⟩) (Nat.le_refl _) _

theorem con_info : (Tryd.prog.info? 27).map (fun i => (i.zero, i.size, i.bytes)) = some (some (.agg #[.int .i64 0, .int .i64 0, .slice none 0 0]), 3, 40) := by kernel_rfl

mutual
/-- The negation normal form. -/
def nnf : Tr → Bool → Tr
  | .mk op n args, neg =>
    if op = 3 then nnfHead args (!neg)
    else if neg = true ∧ op = 0 then .mk 3 0 [.mk 0 n []]
    else .mk (if neg then dualF op else op) n (nnfs args neg)
def nnfHead : List Tr → Bool → Tr
  | [], _ => .mk 0 0 []
  | t :: _, neg => nnf t neg
def nnfs : List Tr → Bool → List Tr
  | [], _ => []
  | t :: ts, neg => nnf t neg :: nnfs ts neg
end
theorem nnfs_map : ∀ (l : List Tr) (neg : Bool), nnfs l neg = l.map fun t => nnf t neg
  | [], _ => by rw [nnfs]; rfl
  | t :: ts, neg => by rw [nnfs, nnfs_map ts neg]; rfl

mutual
/-- Every node has an operator, and as many Args as its operator asks. -/
def MT.WF : MT → Prop
  | .mk op _ _ _ args => 0 ≤ op ∧ op < 8 ∧ (args.length : Int) = arityF op ∧ MT.WFs args
def MT.WFs : List MT → Prop
  | [] => True
  | t :: ts => MT.WF t ∧ MT.WFs ts
end
theorem MT.WFs.at_ : ∀ {ts : List MT}, MT.WFs ts → ∀ (k : Nat) (hk : k < ts.length), MT.WF ts[k]
  | t :: ts, h, k, hk => by
    rw [MT.WFs] at h
    cases k with
    | zero => exact h.1
    | succ k => exact MT.WFs.at_ h.2 k (by simpa using hk)
theorem MT.WF.of_all {q : Nat × MT → Bool} (hq : ∀ l T, q (l, T) = true → 0 ≤ T.op ∧ T.op < 8 ∧ (T.args.length : Int) = arityF T.op) :
    ∀ (T : MT) (lev : Nat), (T.pre lev).all q = true → T.WF :=
  fun T => MT.rec (motive_1 := fun T => ∀ lev, (T.pre lev).all q = true → T.WF) (motive_2 := fun l => ∀ lev, (MT.preAll lev l).all q = true → MT.WFs l)
    (fun op n A c args ih lev h => by
      rw [MT.pre, List.all_cons, Bool.and_eq_true] at h
      rw [MT.WF]
      have := hq _ _ h.1
      exact ⟨this.1, this.2.1, this.2.2, ih _ h.2⟩)
    (fun _ _ => by rw [MT.WFs]; trivial)
    (fun t ts h1 h2 lev h => by
      rw [MT.preAll, List.all_append, Bool.and_eq_true] at h
      rw [MT.WFs]
      exact ⟨h1 _ h.1, h2 _ h.2⟩) T
theorem wf_of_valid {n : NM} {T : MT} (h : validB n T = true) : T.WF := by
  simp only [validB, Bool.and_eq_true] at h
  refine MT.WF.of_all (q := okNode n) (fun l T h => ?_) T 1 h.2
  simp only [okNode, wfB, Bool.and_eq_true, decide_eq_true_eq, beq_iff_eq] at h
  exact ⟨h.2.1, h.2.2.1, h.2.2.2.1⟩
end Go.Proofs.YtnkkpjgclekobaaDoor
