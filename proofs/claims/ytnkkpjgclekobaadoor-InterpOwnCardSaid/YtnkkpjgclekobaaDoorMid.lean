import Derived.Test.YtnkkpjgclekobaaDoorNorm0
namespace Go.Proofs.YtnkkpjgclekobaaDoor
open Go.RowKit

mutual
def Tr.okT (C R : Nat) (lev : Nat) : Tr → Bool
  | .mk op n args => decide (lev ≤ 20) && wfB C R op n args.length && Tr.okTs C R (lev + 1) args
def Tr.okTs (C R : Nat) (lev : Nat) : List Tr → Bool
  | [] => true
  | t :: ts => Tr.okT C R lev t && Tr.okTs C R lev ts
end

def validT (C R : Nat) (t : Tr) : Bool := decide (t.size ≤ 400) && t.okT C R 1

theorem MT.trs_length (l : List MT) : (MT.trs l).length = l.length := by rw [MT.trs_map, List.length_map]

theorem okT_pre (n : NM) : ∀ (T : MT) (lev : Nat), (T.pre lev).all (okNode n) = T.tr.okT n.C.l.length n.R.l.length lev :=
  fun T => MT.rec (motive_1 := fun T => ∀ lev, (T.pre lev).all (okNode n) = T.tr.okT n.C.l.length n.R.l.length lev) (motive_2 := fun l => ∀ lev, (MT.preAll lev l).all (okNode n) = Tr.okTs n.C.l.length n.R.l.length lev (MT.trs l))
    (fun op nn A c args ih lev => by
      rw [MT.pre, List.all_cons, ih, MT.tr, Tr.okT, MT.trs_length]; rfl)
    (fun lev => by rw [MT.preAll, MT.trs, Tr.okTs]; rfl)
    (fun t ts h1 h2 lev => by rw [MT.preAll, List.all_append, h1, h2, MT.trs, Tr.okTs]) T

theorem validB_eq (n : NM) (T : MT) : validB n T = validT n.C.l.length n.R.l.length T.tr := by
  rw [validB, okT_pre, MT.pre_length, validT]

/-- Check's code, of the tree as it is meant. -/
def checkT (n : NM) (t : Tr) : Int := if n.ok then codeIf (validT n.C.l.length n.R.l.length t) 10 else 20

theorem checkF_eq (n : NM) (T : MT) : checkF n T = checkT n T.tr := by rw [checkF, checkT, validB_eq]

theorem row_of_blk {B b : Nat} {w : World} {l : List ByteArray} (hk : w.heap[b]? = some (.cells (l.map Value.string).toArray 9)) (hb : b < B) (hl : ∀ x ∈ l, x.size ≤ maxLen) (hz : l.length ≤ 9223372036854775807) : (SL.mk (some ⟨b, 0, none⟩) l.length l).In B w := by
  refine ⟨Nat.le_refl _, hz, fun h => (by cases h), ⟨by simp, fun _ => ⟨b, 0, rfl, hb, fun j hj => ?_⟩⟩, hl⟩
  rw [cell_of_blk hk, Nat.zero_add, List.getElem?_toArray]

theorem Nil.In (A : Option Addr) (B : Nat) (w : World) : (SL.mk A 0 []).In B w := ⟨Nat.le_refl _, by simp, fun _ => rfl, RowAt.nil _ _ _ _, by simp⟩

theorem idx_bounds (L : List ByteArray) (t : ByteArray) : -1 ≤ Lib.idxOfS L t ∧ Lib.idxOfS L t ≤ L.length := by
  have gen : ∀ (l : List ByteArray) (i : Nat), -1 ≤ Lib.idxFromS l t i ∧ Lib.idxFromS l t i < i + (l.length + 1 : Nat) ∧ (Lib.idxFromS l t i = -1 ∨ Lib.idxFromS l t i < i + l.length) := by
    intro l
    induction l with
    | nil => intro i; simp only [Lib.idxFromS, List.length_nil]; omega
    | cons z l ih =>
      intro i
      have := ih (i + 1)
      simp only [Lib.idxFromS, List.length_cons]
      split <;> omega
  have := gen L 0
  unfold Lib.idxOfS
  omega

theorem blk_below {b : Nat} {w w' : World} {o : Obj} (h : w.heap[b]? = some o) (hb : Below w.heap.size w w') : w'.heap[b]? = some o :=
  (hb.block b (Array.getElem?_eq_some_iff.1 h).1).trans h

def leafMT (op n : Int) : MT := .mk op n none 0 []

theorem leaf_new (op n : Int) (lo : Nat) (w : World) : New lo w (leafMT op n) := by
  refine ⟨?_, ?_⟩
  · rw [leafMT, MT.In]; exact ⟨Nat.le_refl _, by simp, RowAt.nil _ _ _ _, by rw [MT.InAll]; trivial⟩
  · rw [leafMT, Mine, MT.All]; exact ⟨fun h => absurd rfl h, by rw [MT.Alls]; trivial⟩

theorem sl_of_row {base : Nat} {w : World} {v : Value} {Ts : List ByteArray} (hown : w.ownsRow base 9 1 v Ts.length (Ts.map Value.string)) (hTs : ∀ t ∈ Ts, t.size ≤ maxLen) :
    ∃ sl : SL, v = .slice sl.A sl.l.length sl.c ∧ sl.l = Ts ∧ sl.In w.heap.size w := by
  rcases hown.2 with ⟨rfl, h0⟩ | ⟨g, cap, cur, rfl, hge, hheap, hlen, hcap, hsize, htake⟩
  · have hT : Ts = [] := List.eq_nil_of_length_eq_zero h0
    subst hT
    exact ⟨⟨none, 0, []⟩, rfl, rfl, Nat.le_refl _, by simp, fun _ => rfl, RowAt.nil _ _ _ _, by simp⟩
  · refine ⟨⟨some ⟨g, 0, none⟩, cap, Ts⟩, rfl, rfl, hlen, hcap, fun h => (by cases h), ⟨hown.1, fun _ => ⟨g, 0, rfl, (Array.getElem?_eq_some_iff.1 hheap).1, fun j hj => ?_⟩⟩, hTs⟩
    rw [cell_of_blk hheap, ← htake, List.getElem?_take, if_pos hj, Array.getElem?_toList]
    simp

theorem data_size (s : ByteArray) : s.data.toList.length = s.size := by rw [Array.length_toList]; rfl
end Go.Proofs.YtnkkpjgclekobaaDoor
