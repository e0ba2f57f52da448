import Derived.Test.YtnkkpjgclekobaaDoorBData
namespace Go.Proofs.YtnkkpjgclekobaaDoor
open Go.RowKit

/-- Two interpretations are one, wherever they lie. -/
structure EqI (i j : IN) : Prop where
  s : j.size = i.size
  c : j.C.length = i.C.length
  cs : ∀ k (h : k < i.C.length) (h' : k < j.C.length), i.C[k].l = j.C[k].l
  r : j.R.length = i.R.length
  rs : ∀ k (h : k < i.R.length) (h' : k < j.R.length), i.R[k].l = j.R[k].l
  i : i.I.l = j.I.l

/-- A property of the world that hangs on the blocks from lo to hi alone. -/
def Held (lo hi : Nat) (w : World) (P : World → Prop) : Prop := hi ≤ w.heap.size ∧ ∀ w' : World, hi ≤ w'.heap.size → (∀ b, lo ≤ b → b < hi → w'.heap[b]? = w.heap[b]?) → P w'
theorem Held.now {lo hi : Nat} {w : World} {P : World → Prop} (h : Held lo hi w P) : P w := h.2 w h.1 fun _ _ _ => rfl
theorem Held.imp {lo hi : Nat} {w : World} {P Q : World → Prop} (h : Held lo hi w P) (hpq : ∀ w', P w' → Q w') : Held lo hi w Q := ⟨h.1, fun w' h1 h2 => hpq w' (h.2 w' h1 h2)⟩
theorem Held.and {lo hi : Nat} {w : World} {P Q : World → Prop} (h : Held lo hi w P) (k : Held lo hi w Q) : Held lo hi w (fun w' => P w' ∧ Q w') := ⟨h.1, fun w' h1 h2 => ⟨h.2 w' h1 h2, k.2 w' h1 h2⟩⟩
theorem Held.wide {lo hi lo' hi' : Nat} {w : World} {P : World → Prop} (h : Held lo hi w P) (h1 : lo' ≤ lo) (h2 : hi ≤ hi') (h3 : hi' ≤ w.heap.size) : Held lo' hi' w P :=
  ⟨h3, fun w' h4 h5 => h.2 w' (Nat.le_trans h2 h4) fun b h6 h7 => h5 b (Nat.le_trans h1 h6) (Nat.lt_of_lt_of_le h7 h2)⟩
theorem Held.grown {lo hi : Nat} {w w' : World} {row : Option Nat} {P : World → Prop} (h : Held lo hi w P) (hg : w.grownBy w' row) (hr : ∀ g, row = some g → g < lo ∨ hi ≤ g) : Held lo hi w' P :=
  ⟨Nat.le_trans h.1 hg.size, fun w2 h2 hb => h.2 w2 h2 fun b h3 h4 => (hb b h3 h4).trans (hg.block b (Nat.lt_of_lt_of_le h4 h.1) (fun e => by rcases hr b e.symm with h5 | h5 <;> omega))⟩
theorem Held.later {lo hi : Nat} {w w' : World} {P : World → Prop} (h : Held lo hi w P) (hb : Below w.heap.size w w') : Held lo hi w' P :=
  ⟨Nat.le_trans h.1 hb.size, fun w2 h2 h3 => h.2 w2 h2 fun b h4 h5 => (h3 b h4 h5).trans (hb.block b (Nat.lt_of_lt_of_le h5 h.1))⟩
theorem Held.set {lo hi : Nat} {w : World} {p : Addr} {u : Value} {P : World → Prop} (h : Held lo hi w P) (hp : p.block < lo ∨ hi ≤ p.block) : Held lo hi (w.setCell p u) P :=
  h.grown (row := some p.block) ⟨rfl, rfl, rfl, (KeepsWalks.setCell w p u).size, fun k _ hk => Below.heap_setCell _ _ _ k (fun e => hk (by rw [e]))⟩ (fun g e => by cases e; exact hp)
/-- A tree of the call's own. -/
theorem held_tree {lo : Nat} {w : World} {T : MT} (h : New lo w T) : Held lo w.heap.size w (fun w' => T.In w'.heap.size w') :=
  ⟨Nat.le_refl _, fun w' h1 h2 => MT.In.moved (p := fun b => lo ≤ b ∧ b < w.heap.size) (fun b o hb => World.cell?_of_block (w := w) (h2 b hb.1 hb.2)) (fun b hb => Nat.lt_of_lt_of_le hb.2 h1) T h.1 (MT.All.imp (fun b hb => ⟨hb.1.1, hb.2⟩) T (MT.All.and T h.2 (MT.In.all T h.1)))⟩
/-- A row of the call's own. -/
theorem held_row {w : World} {lo n sz : Nat} {e : TypeId} {v : Value} {xs : List Value} (h : w.ownsRow lo e sz v n xs) : ∃ A c, v = .slice A n c ∧ n ≤ c ∧ c ≤ 9223372036854775807 ∧ Held lo w.heap.size w (fun w' => RowAt w' w'.heap.size sz A n xs) := by
  rcases h.2 with ⟨rfl, h0⟩ | ⟨g, cap, cur, rfl, hge, hheap, hlen, hcap, hsize, htake⟩
  · exact ⟨none, 0, by rw [h0], by omega, by omega, Nat.le_refl _, fun w' _ _ => ⟨h.1, fun hn => absurd h0 hn⟩⟩
  · unfold maxLen at hcap
    have hg : g < w.heap.size := (Array.getElem?_eq_some_iff.1 hheap).1
    refine ⟨some ⟨g, 0, none⟩, cap, rfl, hlen, hcap, Nat.le_refl _, fun w' h1 h2 => ⟨h.1, fun _ => ⟨g, 0, rfl, Nat.lt_of_lt_of_le hg h1, fun j hj => ?_⟩⟩⟩
    have hl : xs.length = n * sz := h.1
    obtain ⟨u, hu⟩ : ∃ u, xs[j]? = some u := ⟨_, List.getElem?_eq_getElem (by rw [hl]; exact hj)⟩
    have hx := h.cells (g := g) rfl j u hu
    rw [show (⟨g, 0, none⟩ : Addr).add j = ⟨g, 0 + j, none⟩ by cases j <;> simp [Addr.add]] at hx
    rw [World.cell?_of_block (w := w) (h2 g hge hg), hx]; exact hu.symm

/-- WHAT HAS BEEN COLLECTED: the slice v of the call's own holds the things xs, each of which hangs on blocks beside v's and D. -/
structure CollH {α : Type} (f : α → List Value) (sz : Nat) (t : TypeId) (I : α → World → Prop) (D base : Nat) (w : World) (v : Value) (xs : List α) : Prop where
  own : w.ownsRow base t sz v xs.length (xs.flatMap f)
  held : ∀ x ∈ xs, ∃ lo hi, base ≤ lo ∧ (∀ g, v.ownBlock = some g → g < lo ∨ hi ≤ g) ∧ Held lo hi w (I x)
section
variable {α : Type} {f : α → List Value} {sz : Nat} {t : TypeId} {I : α → World → Prop} {D base : Nat} {w w' : World} {v v' : Value} {xs : List α}
theorem CollH.nil : CollH f sz t I D base w (.slice none 0 0) [] := ⟨⟨by simp, .inl ⟨rfl, rfl⟩⟩, by simp⟩
theorem CollH.later (h : CollH f sz t I D base w v xs) (hb : Below w.heap.size w w') : CollH f sz t I D base w' v xs :=
  ⟨owns_below h.own hb, fun x hx => by obtain ⟨lo, hi, h1, h2, h3⟩ := h.held x hx; exact ⟨lo, hi, h1, h2, h3.later hb⟩⟩
/-- A step that writes a block below base. -/
theorem CollH.low {g : Nat} (h : CollH f sz t I D base w v xs) (hg : w.grownBy w' (some g)) (hl : g < base) : CollH f sz t I D base w' v xs := by
  refine ⟨owns_grown h.own hg ?_, fun x hx => ?_⟩
  · by_cases hv : v.ownBlock = none
    · exact .inr hv
    · refine .inl fun e => ?_
      have := (own_lt h.own e).1
      omega
  · obtain ⟨lo, hi, h1, h2, h3⟩ := h.held x hx
    exact ⟨lo, hi, h1, h2, h3.grown hg (fun k e => by cases e; exact .inl (by omega))⟩
theorem CollH.add {x : α} {lo hi : Nat} (h : CollH f sz t I D base w v xs) (hx : Held lo hi w (I x)) (h1 : base ≤ lo) (h2 : ∀ g, v.ownBlock = some g → g < lo ∨ hi ≤ g)
    (hown : w'.ownsRow base t sz v' (xs.length + 1) (xs.flatMap f ++ f x)) (hg : w.grownBy w' v.ownBlock) (hv : v'.ownBlock = v.ownBlock ∨ ∃ g, v'.ownBlock = some g ∧ w.heap.size ≤ g) : CollH f sz t I D base w' v' (xs ++ [x]) := by
  refine ⟨by rw [List.length_append, List.flatMap_append]; simpa using hown, fun y hy => ?_⟩
  obtain ⟨lo', hi', k1, k2, k3⟩ : ∃ lo hi, base ≤ lo ∧ (∀ g, v.ownBlock = some g → g < lo ∨ hi ≤ g) ∧ Held lo hi w (I y) := by
    rcases List.mem_append.1 hy with hy | hy
    · exact h.held y hy
    · rw [List.mem_singleton.1 hy]; exact ⟨lo, hi, h1, h2, hx⟩
  refine ⟨lo', hi', k1, fun g e => ?_, k3.grown hg k2⟩
  rcases hv with hv | ⟨g', hv, hge⟩
  · rw [hv] at e; exact k2 g e
  · rw [hv] at e; cases e; exact .inr (Nat.le_trans k3.1 hge)
/-- What has been collected hangs on the blocks from base on. -/
theorem CollH.all (h : CollH f sz t I D base w v xs) : ∃ A c, v = .slice A xs.length c ∧ xs.length ≤ c ∧ c ≤ 9223372036854775807 ∧ Held base w.heap.size w (fun w' => RowAt w' w'.heap.size sz A xs.length (xs.flatMap f) ∧ ∀ x ∈ xs, I x w') := by
  obtain ⟨A, c, h1, h2, h3, h4⟩ := held_row h.own
  refine ⟨A, c, h1, h2, h3, h4.and ⟨Nat.le_refl _, fun w' k1 k2 x hx => ?_⟩⟩
  obtain ⟨lo, hi, j1, -, j3⟩ := h.held x hx
  exact j3.2 w' (Nat.le_trans j3.1 k1) fun b l1 l2 => k2 b (Nat.le_trans j1 l1) (Nat.lt_of_lt_of_le l2 j3.1)
end
theorem Held.same {lo hi : Nat} {w w' : World} {P : World → Prop} (h : Held lo hi w P) (hs : hi ≤ w'.heap.size) (he : ∀ b, lo ≤ b → b < hi → w'.heap[b]? = w.heap[b]?) : Held lo hi w' P :=
  ⟨hs, fun w2 h2 h3 => h.2 w2 h2 fun b h4 h5 => (h3 b h4 h5).trans (he b h4 h5)⟩
/-- ONE ROUND of 'out.F = append(out.F, x)' where x was made in the round: w6 is the world behind x, o the block of the one element, w7 the append's, j the field's number. -/
theorem kl_step {α : Type} {f : α → List Value} {sz : Nat} {t T : TypeId} {I : α → World → Prop} {D B j g cap : Nat} {wr w6 w7 : World} {v : Value} {xs : List α} {x : α} {cs : Array Value} {o : Obj}
    (h : CollH f sz t I D B wr v xs) (hbox : wr.heap[D]? = some (.cells cs T)) (hDB : D < B) (hsz : B ≤ wr.heap.size) (hb6 : Below wr.heap.size wr w6) (hx : Held wr.heap.size w6.heap.size w6 (I x))
    (hown : w7.ownsRow B t sz (.slice (some ⟨g, 0, none⟩) (xs.length + 1) cap) (xs.length + 1) (xs.flatMap f ++ f x)) (hg : (w6.alloc o).grownBy w7 v.ownBlock) (hat : v.ownBlock = some g ∨ g = w6.heap.size + 1) :
    (w7.setCell ⟨D, j, none⟩ (.slice (some ⟨g, 0, none⟩) (xs.length + 1) cap)).heap[D]? = some (.cells (cs.setIfInBounds j (.slice (some ⟨g, 0, none⟩) (xs.length + 1) cap)) T) ∧
    CollH f sz t I D B (w7.setCell ⟨D, j, none⟩ (.slice (some ⟨g, 0, none⟩) (xs.length + 1) cap)) (.slice (some ⟨g, 0, none⟩) (xs.length + 1) cap) (xs ++ [x]) ∧
    (∀ b, b < B → b ≠ D → (w7.setCell ⟨D, j, none⟩ (.slice (some ⟨g, 0, none⟩) (xs.length + 1) cap)).heap[b]? = wr.heap[b]?) ∧
    B ≤ (w7.setCell ⟨D, j, none⟩ (.slice (some ⟨g, 0, none⟩) (xs.length + 1) cap)).heap.size ∧ Below D wr (w7.setCell ⟨D, j, none⟩ (.slice (some ⟨g, 0, none⟩) (xs.length + 1) cap)) := by
  have hba : Below wr.heap.size wr (w6.alloc o) := hb6.alloc hb6.size o
  have hlt : ∀ b, v.ownBlock = some b → B ≤ b ∧ b < wr.heap.size := fun b e => own_lt h.own e
  have hs7 := hg.size
  have hsa : (w6.alloc o).heap.size = w6.heap.size + 1 := by simp
  have hs6 := hb6.size
  have hold : ∀ b, b < B → w7.heap[b]? = wr.heap[b]? := fun b hb => (hg.block b (by omega) (fun e => by have := (hlt b e.symm).1; omega)).trans (hba.block b (by omega))
  have hc := (h.later hba).add (x := x) (hx.later ((Below.refl _ w6).alloc (Nat.le_refl _) o)) hsz (fun b e => .inl (hlt b e).2) hown hg (by
    rcases hat with e | e
    · exact .inl e.symm
    · exact .inr ⟨g, rfl, by omega⟩)
  have hset := grown_set w7 D j (.slice (some ⟨g, 0, none⟩) (xs.length + 1) cap)
  refine ⟨blk_set ((hold D hDB).trans hbox) j _, hc.low hset hDB, fun b hb hne => (hset.block b (by omega) (fun e => hne (Option.some.inj e))).trans (hold b hb), Nat.le_trans (by omega) hset.size, ?_⟩
  have h1 : Below D wr w7 := (hba.mono (by omega)).grown hg (by omega) (fun k e => by have := (hlt k e).1; omega)
  exact h1.setCell (p := ⟨D, j, none⟩) (Nat.le_refl _) _
end Go.Proofs.YtnkkpjgclekobaaDoor
