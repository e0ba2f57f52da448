import Derived.Test.YtnkkpjgclekobaaDoorCheck2
namespace Go.Proofs.YtnkkpjgclekobaaDoor
open Go.RowKit

mutual
/-- Every block that the tree's Args lie in is one of p's. -/
def MT.All (p : Nat → Prop) : MT → Prop
  | .mk _ _ A _ args => (args.length ≠ 0 → ∃ b off, A = some ⟨b, off, none⟩ ∧ p b) ∧ MT.Alls p args
def MT.Alls (p : Nat → Prop) : List MT → Prop
  | [] => True
  | t :: ts => MT.All p t ∧ MT.Alls p ts
end

theorem MT.Alls.of {p : Nat → Prop} : ∀ {ts : List MT}, (∀ t ∈ ts, MT.All p t) → MT.Alls p ts
  | [], _ => by rw [MT.Alls]; trivial
  | t :: ts, h => by rw [MT.Alls]; exact ⟨h t (by simp), MT.Alls.of fun t ht => h t (by simp [ht])⟩
theorem MT.Alls.mem {p : Nat → Prop} : ∀ {ts : List MT}, MT.Alls p ts → ∀ t ∈ ts, MT.All p t
  | t :: ts, h, x, hx => by
    rw [MT.Alls] at h
    rcases List.mem_cons.1 hx with rfl | hx
    · exact h.1
    · exact MT.Alls.mem h.2 x hx

theorem MT.All.imp {p q : Nat → Prop} (hpq : ∀ b, p b → q b) : ∀ T : MT, MT.All p T → MT.All q T :=
  fun T => MT.rec (motive_1 := fun T => MT.All p T → MT.All q T) (motive_2 := fun l => MT.Alls p l → MT.Alls q l)
    (fun op n A c args ih h => by
      rw [MT.All] at h ⊢
      exact ⟨fun hn => by obtain ⟨b, off, hA, hb⟩ := h.1 hn; exact ⟨b, off, hA, hpq b hb⟩, ih h.2⟩)
    (fun _ => by rw [MT.Alls]; trivial)
    (fun t ts h1 h2 h => by rw [MT.Alls] at h ⊢; exact ⟨h1 h.1, h2 h.2⟩) T

theorem MT.All.and {p q : Nat → Prop} : ∀ T : MT, MT.All p T → MT.All q T → MT.All (fun b => p b ∧ q b) T :=
  fun T => MT.rec (motive_1 := fun T => MT.All p T → MT.All q T → MT.All (fun b => p b ∧ q b) T) (motive_2 := fun l => MT.Alls p l → MT.Alls q l → MT.Alls (fun b => p b ∧ q b) l)
    (fun op n A c args ih h k => by
      rw [MT.All] at h k ⊢
      refine ⟨fun hn => ?_, ih h.2 k.2⟩
      obtain ⟨b, off, hA, hb⟩ := h.1 hn
      obtain ⟨b', off', hA', hb'⟩ := k.1 hn
      rw [hA] at hA'; cases hA'
      exact ⟨b, off, hA, hb, hb'⟩)
    (fun _ _ => by rw [MT.Alls]; trivial)
    (fun t ts h1 h2 h k => by rw [MT.Alls] at h k ⊢; exact ⟨h1 h.1 k.1, h2 h.2 k.2⟩) T

theorem MT.In.all {B : Nat} {w : World} : ∀ T : MT, MT.In B w T → MT.All (fun b => b < B) T :=
  fun T => MT.rec (motive_1 := fun T => MT.In B w T → MT.All (fun b => b < B) T) (motive_2 := fun l => MT.InAll B w l → MT.Alls (fun b => b < B) l)
    (fun op n A c args ih h => by
      rw [MT.In] at h
      rw [MT.All]
      exact ⟨fun hn => by obtain ⟨b, off, hA, hb, _⟩ := h.2.2.1.2 hn; exact ⟨b, off, hA, hb⟩, ih h.2.2.2⟩)
    (fun _ => by rw [MT.Alls]; trivial)
    (fun t ts h1 h2 h => by rw [MT.InAll] at h; rw [MT.Alls]; exact ⟨h1 h.1, h2 h.2⟩) T

/-- A tree lies on wherever the cells of its own blocks do. -/
theorem MT.In.moved {B B' : Nat} {w w' : World} {p : Nat → Prop} (hc : ∀ b o, p b → w'.cell? ⟨b, o, none⟩ = w.cell? ⟨b, o, none⟩) (hB : ∀ b, p b → b < B') : ∀ T : MT, MT.In B w T → MT.All p T → MT.In B' w' T :=
  fun T => MT.rec (motive_1 := fun T => MT.In B w T → MT.All p T → MT.In B' w' T) (motive_2 := fun l => MT.InAll B w l → MT.Alls p l → MT.InAll B' w' l)
    (fun op n A c args ih h k => by
      rw [MT.In] at h ⊢
      rw [MT.All] at k
      obtain ⟨h1, h2, h3, h4⟩ := h
      refine ⟨h1, h2, ⟨h3.1, fun hn => ?_⟩, ih h4 k.2⟩
      obtain ⟨b, off, hA, _, hcell⟩ := h3.2 hn
      obtain ⟨b', off', hA', hp⟩ := k.1 hn
      rw [hA] at hA'; cases hA'
      exact ⟨b, off, hA, hB b hp, fun j hj => (hc b _ hp).trans (hcell j hj)⟩)
    (fun _ _ => by rw [MT.InAll]; trivial)
    (fun t ts h1 h2 h k => by rw [MT.InAll] at h ⊢; rw [MT.Alls] at k; exact ⟨h1 h.1 k.1, h2 h.2 k.2⟩) T

/-- The tree's blocks are the call's own (from lo on), each of cells that may be written. -/
def Mine (lo : Nat) (w : World) (T : MT) : Prop := MT.All (fun b => lo ≤ b ∧ ∃ cur, w.heap[b]? = some (.cells cur 27)) T
/-- A NEW TREE: it lies in w, and its blocks are new from lo on. -/
def New (lo : Nat) (w : World) (T : MT) : Prop := T.In w.heap.size w ∧ Mine lo w T
theorem New.lo {lo lo' : Nat} {w : World} {T : MT} (h : New lo w T) (hl : lo' ≤ lo) : New lo' w T := ⟨h.1, MT.All.imp (fun _ hb => ⟨Nat.le_trans hl hb.1, hb.2⟩) T h.2⟩
theorem New.later {lo : Nat} {w w' : World} {T : MT} (h : New lo w T) (hb : Below w.heap.size w w') : New lo w' T :=
  ⟨h.1.later hb, MT.All.imp (fun b ⟨⟨h1, cur, h2⟩, h3⟩ => ⟨h1, cur, (hb.block b h3).trans h2⟩) T (MT.All.and T h.2 (MT.In.all T h.1))⟩
/-- A step that writes one block alone, which is none of the tree's. -/
theorem New.grown {lo : Nat} {w w' : World} {T : MT} {row : Option Nat} (h : New lo w T) (hg : w.grownBy w' row) (hr : MT.All (fun b => some b ≠ row) T) : New lo w' T := by
  have hall := MT.All.and T (MT.All.and T h.2 (MT.In.all T h.1)) hr
  refine ⟨MT.In.moved (p := fun b => ((lo ≤ b ∧ ∃ cur, w.heap[b]? = some (.cells cur 27)) ∧ b < w.heap.size) ∧ some b ≠ row) (fun b o hb => ?_) (fun b hb => Nat.lt_of_lt_of_le hb.1.2 hg.size) T h.1 hall, MT.All.imp (fun b ⟨⟨⟨h1, cur, h2⟩, h3⟩, h4⟩ => ⟨h1, cur, (hg.block b h3 h4).trans h2⟩) T hall⟩
  exact World.cell?_of_block (w := w) (hg.block b hb.1.2 hb.2)

/-- A []Concept of the call's own, as the walk over an append leaves it. -/
theorem in_of_row {lo base : Nat} {w : World} {v : Value} {op n : Int} {Ts : List MT} (hown : w.ownsRow base 27 3 v Ts.length (Ts.flatMap MT.cs)) (hlo : lo ≤ base) (hTs : ∀ t ∈ Ts, New lo w t) :
    ∃ A c, v = .slice A Ts.length c ∧ New lo w (.mk op n A c Ts) := by
  rcases hown.2 with ⟨rfl, h0⟩ | ⟨g, cap, cur, rfl, hge, hheap, hlen, hcap, hsize, htake⟩
  · have hT : Ts = [] := List.eq_nil_of_length_eq_zero h0
    subst hT
    refine ⟨none, 0, rfl, ?_, ?_⟩
    · rw [MT.In]; exact ⟨Nat.le_refl _, by simp, RowAt.nil _ _ _ _, by rw [MT.InAll]; trivial⟩
    · rw [Mine, MT.All]; exact ⟨fun h => absurd rfl h, by rw [MT.Alls]; trivial⟩
  · refine ⟨_, _, rfl, ?_, ?_⟩
    · rw [MT.In]
      refine ⟨hlen, hcap, ⟨hown.1, fun _ => ⟨g, 0, rfl, (Array.getElem?_eq_some_iff.1 hheap).1, fun j hj => ?_⟩⟩, MT.InAll.of fun t ht => (hTs t ht).1⟩
      rw [cell_of_blk hheap, ← htake, List.getElem?_take, if_pos hj, Array.getElem?_toList]
      simp
    · rw [Mine, MT.All]
      exact ⟨fun _ => ⟨g, 0, rfl, Nat.le_trans hlo hge, cur, hheap⟩, MT.Alls.of fun t ht => (hTs t ht).2⟩
end Go.Proofs.YtnkkpjgclekobaaDoor
