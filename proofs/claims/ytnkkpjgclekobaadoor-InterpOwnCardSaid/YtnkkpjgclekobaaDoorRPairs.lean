import Derived.Test.YtnkkpjgclekobaaDoorIPairs
import Derived.Test.YtnkkpjgclekobaaDoorRIs
namespace Go.Proofs.YtnkkpjgclekobaaDoor
open Go.RowKit

/-- A row of pairs of the call's own, as it lies. -/
theorem pl_of_owns {w : World} {base : Nat} {v : Value} {l : List (Int × Int)} (h : w.ownsRow base 68 2 v l.length (l.flatMap pcells)) : ∃ A c, v = .slice A l.length c ∧ (PL.mk A c l).In w.heap.size w := by
  rcases h.2 with ⟨rfl, h0⟩ | ⟨g, cap, cur, rfl, hge, hheap, hlen, hcap, hsize, htake⟩
  · refine ⟨none, 0, by rw [h0], ?_, ?_, ?_, fun hn => absurd h0 hn⟩
    · show l.length ≤ 0; omega
    · show (0 : Nat) ≤ _; omega
    · have := h.1; simpa using this
  · unfold maxLen at hcap
    refine ⟨some ⟨g, 0, none⟩, cap, rfl, hlen, by show cap ≤ _; omega, h.1, fun _ => ⟨g, 0, rfl, (Array.getElem?_eq_some_iff.1 hheap).1, fun j hj => ?_⟩⟩
    have hl : (l.flatMap pcells).length = l.length * 2 := h.1
    obtain ⟨u, hu⟩ : ∃ u, (l.flatMap pcells)[j]? = some u := ⟨_, List.getElem?_eq_getElem (by rw [hl]; exact hj)⟩
    have hx := h.cells (g := g) rfl j u hu
    rw [show (⟨g, 0, none⟩ : Addr).add j = ⟨g, 0 + j, none⟩ by cases j <;> simp [Addr.add]] at hx
    rw [hx]; exact hu.symm

def wantP (m r : Nat) (l : List (Int × Int)) : List (Int × Int) := if r % 2 = 0 then l else refP m l
def rowP (l : List (Int × Int)) (x : Nat) : List (Int × Int) := (l.filter fun p => p.2 == (x : Int)).map fun p => ((x : Int), p.1)
theorem refP_len {m : Nat} {s : PL} (h : okP m s = true) (hm : m ≤ 256) : (refP m s.l).length ≤ 65536 := by
  rw [← progP_back h hm, progP]
  have := range_len (fun x y => s.l.contains ((y : Int), (x : Int))) m
  have h2 : m * 256 ≤ 256 * 256 := Nat.mul_le_mul_right _ hm
  omega
theorem refP_part (l : List (Int × Int)) {x m : Nat} (hx : x < m) (j : Nat) : ((List.range x).flatMap (rowP l) ++ rowP (l.take j) x).length ≤ (refP m l).length := by
  have h1 : (rowP (l.take j) x).length ≤ (rowP l x).length := by
    unfold rowP
    rw [List.length_map, List.length_map]
    exact ((List.take_sublist j l).filter _).length_le
  have h2 : ((List.range x).flatMap (rowP l) ++ rowP l x).length ≤ (refP m l).length := by
    have he : (List.range x).flatMap (rowP l) ++ rowP l x = (List.range (x + 1)).flatMap (rowP l) := by rw [List.range_succ, List.flatMap_append]; simp
    rw [he]
    have hr : List.range m = List.range (x + 1) ++ (List.range (m - (x + 1))).map (fun k => x + 1 + k) := by
      rw [← List.range_add]; congr 1; omega
    show _ ≤ ((List.range m).flatMap (rowP l)).length
    rw [hr, List.flatMap_append, List.length_append]
    omega
  rw [List.length_append] at h2 ⊢
  omega

def RetPL (l : List (Int × Int)) (w : World) (e : Ending) (w' : World) : Prop := ∃ s : PL, e = .returned (.slice s.A s.l.length s.c) ∧ s.l = l ∧ s.In w'.heap.size w' ∧ Below w.heap.size w w'

/-- What has been gathered: the rounds before x, and x's own up to j. -/
def accP (l : List (Int × Int)) (x j : Nat) : List (Int × Int) := (List.range x).flatMap (rowP l) ++ rowP (l.take j) x
def RowRel (lo : Nat) (W : World) (l : List (Int × Int)) (v : Value) : Prop := W.ownsRow lo 68 2 v l.length (l.flatMap pcells)
theorem rowP_step (l : List (Int × Int)) (x : Nat) {j : Nat} (hj : j < l.length) : rowP (l.take (j + 1)) x = rowP (l.take j) x ++ (if l[j].2 == (x : Int) then [((x : Int), l[j].1)] else []) := by
  unfold rowP
  rw [List.take_succ_eq_append_getElem hj, List.filter_append, List.map_append]
  congr 1
  cases h : (l[j].2 == (x : Int)) <;> simp [h]

end Go.Proofs.YtnkkpjgclekobaaDoor
