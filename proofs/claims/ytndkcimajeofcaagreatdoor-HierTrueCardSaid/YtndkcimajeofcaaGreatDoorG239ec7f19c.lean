import Derived.Test.YtndkcimajeofcaaGreatDoorGa3885cf9c4
import Derived.Test.YtndkcimajeofcaaGreatDoorGa42d7db379
import Derived.Shelf.Sort.Plain
import Derived.Shelf.Slices.CompactI
import Derived.Stop.RegionWithIn
import Derived.Deep.RegionHeld3
namespace Go.Proofs.YtndkcimajeofcaaGreatDoor
open Go.RowKit Go.Sort

theorem int_info : (Tryz.prog.info? 3).map (fun i => (i.zero, i.size, i.bytes)) = some (some (.int .i64 0), 1, 8) := by kernel_rfl
def intCells (l : List Int) : List Value := l.map (Value.int .i64)

/-- A row of one's own in which the first cells have been written anew. -/
theorem row_put {W : World} {base g cap q : Nat} {xs : List Value} {n : Nat} {d : Array Int} {os : Array Obj} (h : W.ownsRow base 3 1 (.slice (some ⟨g, 0, none⟩) n cap) n xs) (hd : d.size ≤ cap) :
    W.grownBy (grow (putRow (Value.int .i64) (Sort.ahead W q) g 0 d) os) (some g) ∧ ∀ k, k ≤ d.size → (grow (putRow (Value.int .i64) (Sort.ahead W q) g 0 d) os).ownsRow base 3 1 (.slice (some ⟨g, 0, none⟩) k cap) k (intCells (d.toList.take k)) := by
  rcases h.2 with ⟨hv, _⟩ | ⟨g', cap', cur, hv, hge, hheap, hlen, hcap, hsize, htake⟩
  · cases hv
  cases hv
  have hlt : g < W.heap.size := (Array.getElem?_eq_some_iff.1 hheap).1
  have hblk : (grow (putRow (Value.int .i64) (Sort.ahead W q) g 0 d) os).heap[g]? = some (.cells (putCells (Value.int .i64) 0 d cur) 3 (0, 0)) := by
    rw [heap_grow_old _ _ (by simp [putRow, mapBlock, Sort.ahead]; exact hlt)]
    show (W.heap.modify g _)[g]? = _
    obtain ⟨hlt', hk⟩ := Array.getElem?_eq_some_iff.1 hheap
    rw [Array.getElem?_eq_getElem (by rw [Array.size_modify]; exact hlt'), Array.getElem_modify_self, hk]
    rfl
  refine ⟨⟨rfl, rfl, rfl, ?_, fun k hk hne => ?_⟩, fun k hk => ?_⟩
  · simp [grow, putRow, mapBlock, Sort.ahead]
  · rw [heap_grow_old _ _ (by simp [putRow, mapBlock, Sort.ahead]; exact hk)]
    show (W.heap.modify g _)[k]? = _
    rw [Array.getElem?_modify, if_neg (fun e => hne (by rw [e]))]
  · refine ⟨by simp [intCells]; omega, .inr ⟨g, cap, _, rfl, hge, hblk, by omega, hcap, by simp [putCells]; omega, ?_⟩⟩
    apply List.ext_getElem?
    intro j
    rw [List.getElem?_take, Nat.mul_one]
    by_cases hj : j < k
    · rw [if_pos hj, Array.getElem?_toList, putCells, Array.getElem?_mapIdx, intCells, List.getElem?_map, List.getElem?_take, if_pos hj, Array.getElem?_toList, Array.getElem?_eq_getElem (show j < cur.size by omega), Array.getElem?_eq_getElem (show j < d.size by omega)]
      simp only [Option.map_some]
      rw [if_pos ⟨Nat.zero_le _, by omega⟩, Nat.sub_zero, getElem!_pos d j (by omega)]
    · rw [if_neg hj, List.getElem?_eq_none (by simp [intCells]; omega)]

theorem row_holds {W : World} {base g cap n : Nat} {xs : List Int} (h : W.ownsRow base 3 1 (.slice (some ⟨g, 0, none⟩) n cap) n (intCells xs)) (hn : xs.length = n) : Holds (Value.int .i64) W g 0 xs.toArray := by
  rcases h.2 with ⟨hv, _⟩ | ⟨g', cap', cur, hv, hge, hheap, hlen, hcap, hsize, htake⟩
  · cases hv
  cases hv
  intro j hj
  have hj' : j < n := by simp at hj; omega
  refine ⟨?_, by simp [World.frozen?, hheap]⟩
  have hz : (W.cell? ⟨g, 0 + j, none⟩) = cur[j]? := by rw [Nat.zero_add]; simp [World.cell?, hheap]
  have h1 : cur[j]? = (intCells xs)[j]? := by
    rw [← htake, List.getElem?_take, if_pos (by omega), Array.getElem?_toList]
  rw [hz, h1, intCells, List.getElem?_map, List.getElem?_eq_getElem (by omega), getElem!_pos _ j (by simpa using hj)]
  simp

end Go.Proofs.YtndkcimajeofcaaGreatDoor

namespace Go.Proofs.YtndkcimajeofcaaGreatDoor
open Go.RowKit

/-- The reference's Insert. -/
def insL : List Int → Int → List Int
  | [], n => [n]
  | x :: r, n => if x = n then x :: r else if n < x then n :: x :: r else x :: insL r n

theorem strict_eq : ∀ {l m : List Int}, l.Pairwise (· < ·) → m.Pairwise (· < ·) → (∀ x, x ∈ l ↔ x ∈ m) → l = m
  | [], [], _, _, _ => rfl
  | [], b :: m, _, _, h => by have := (h b).2 (by simp); simp at this
  | a :: l, [], _, _, h => by have := (h a).1 (by simp); simp at this
  | a :: l, b :: m, hl, hm, h => by
    rw [List.pairwise_cons] at hl hm
    have hab : a = b := by
      rcases List.mem_cons.1 ((h a).1 (by simp)) with e | e
      · exact e
      · rcases List.mem_cons.1 ((h b).2 (by simp)) with e' | e'
        · exact e'.symm
        · have h1 := hm.1 a e
          have h2 := hl.1 b e'
          omega
    subst hab
    rw [strict_eq hl.2 hm.2 (fun x => ?_)]
    constructor
    · intro hx
      rcases List.mem_cons.1 ((h x).1 (List.mem_cons_of_mem _ hx)) with e | e
      · have := hl.1 x hx; omega
      · exact e
    · intro hx
      rcases List.mem_cons.1 ((h x).2 (List.mem_cons_of_mem _ hx)) with e | e
      · have := hm.1 x hx; omega
      · exact e

theorem insL_mem : ∀ (l : List Int) (n x : Int), x ∈ insL l n ↔ x ∈ l ∨ x = n
  | [], n, x => by simp [insL]
  | y :: r, n, x => by
    rw [insL]
    split
    · rename_i h; subst h; simp only [List.mem_cons]; constructor
      · intro h; exact .inl h
      · intro h; rcases h with h | h
        · exact h
        · exact .inl h
    split
    · simp only [List.mem_cons]; constructor
      · intro h; rcases h with h | h | h
        · exact .inr h
        · exact .inl (.inl h)
        · exact .inl (.inr h)
      · intro h; rcases h with (h | h) | h
        · exact .inr (.inl h)
        · exact .inr (.inr h)
        · exact .inl h
    · rw [List.mem_cons, insL_mem r n x, List.mem_cons]
      constructor
      · intro h; rcases h with h | h | h
        · exact .inl (.inl h)
        · exact .inl (.inr h)
        · exact .inr h
      · intro h; rcases h with (h | h) | h
        · exact .inl h
        · exact .inr (.inl h)
        · exact .inr (.inr h)
theorem insL_strict : ∀ (l : List Int) (n : Int), l.Pairwise (· < ·) → (insL l n).Pairwise (· < ·)
  | [], n, _ => by simp [insL]
  | y :: r, n, h => by
    rw [insL]
    split
    · exact h
    split
    · rename_i h1 h2
      rw [List.pairwise_cons]
      refine ⟨fun x hx => ?_, h⟩
      rcases List.mem_cons.1 hx with e | e
      · omega
      · have := (List.pairwise_cons.1 h).1 x e; omega
    · rename_i h1 h2
      rw [List.pairwise_cons] at h ⊢
      refine ⟨fun x hx => ?_, insL_strict r n h.2⟩
      rcases (insL_mem r n x).1 hx with e | e
      · exact h.1 x e
      · omega
theorem insL_len : ∀ (l : List Int) (n : Int), (insL l n).length ≤ l.length + 1
  | [], n => by simp [insL]
  | y :: r, n => by
    rw [insL]
    have := insL_len r n
    split
    · simp
    split
    · simp
    · simp only [List.length_cons]; omega
theorem fold_mem : ∀ (xs l : List Int) (x : Int), x ∈ xs.foldl insL l ↔ x ∈ l ∨ x ∈ xs
  | [], l, x => by simp
  | y :: ys, l, x => by
    rw [List.foldl_cons, fold_mem ys, insL_mem, List.mem_cons]
    constructor
    · intro h; rcases h with (h | h) | h
      · exact .inl h
      · exact .inr (.inl h)
      · exact .inr (.inr h)
    · intro h; rcases h with h | h | h
      · exact .inl (.inl h)
      · exact .inl (.inr h)
      · exact .inr h
theorem fold_strict : ∀ (xs l : List Int), l.Pairwise (· < ·) → (xs.foldl insL l).Pairwise (· < ·)
  | [], _l, h => h
  | y :: ys, l, h => fold_strict ys _ (insL_strict l y h)
theorem fold_len : ∀ (xs l : List Int), (xs.foldl insL l).length ≤ l.length + xs.length
  | [], l => by simp
  | y :: ys, l => by
    have := fold_len ys (insL l y)
    have := insL_len l y
    rw [List.foldl_cons, List.length_cons]; omega

end Go.Proofs.YtndkcimajeofcaaGreatDoor

namespace Go.Proofs.YtndkcimajeofcaaGreatDoor
open Go.RowKit Go.Shelf

attribute [local go_sem] Oper.semAt_some


/-- TWO BOXES, EACH WITH A ROW OF INTEGERS OF ITS OWN, from block lo on. -/
def Two (lo b1 b2 : Nat) (W : World) (v1 v2 : Value) (xs ys : List Int) : Prop :=
  Boxed W b1 36 v1 ∧ Boxed W b2 36 v2 ∧ W.ownsRow lo 3 1 v1 xs.length (intCells xs) ∧ W.ownsRow lo 3 1 v2 ys.length (intCells ys) ∧ (v1.ownBlock = none ∨ v1.ownBlock ≠ v2.ownBlock)
theorem Two.swap {lo b1 b2 : Nat} {W : World} {v1 v2 : Value} {xs ys : List Int} (h : Two lo b1 b2 W v1 v2 xs ys) : Two lo b2 b1 W v2 v1 ys xs :=
  ⟨h.2.1, h.1, h.2.2.2.1, h.2.2.1, by
    rcases h.2.2.2.2 with h | h
    · by_cases e : v2.ownBlock = none
      · exact .inl e
      · exact .inr (fun e' => e (e'.trans h))
    · exact .inr (fun e => h e.symm)⟩
theorem Two.later {lo b1 b2 : Nat} {W W' : World} {v1 v2 : Value} {xs ys : List Int} (h : Two lo b1 b2 W v1 v2 xs ys) (hb : Below W.heap.size W W') : Two lo b1 b2 W' v1 v2 xs ys :=
  ⟨boxed_below h.1 hb h.1.lt, boxed_below h.2.1 hb h.2.1.lt, owns_below h.2.2.1 hb, owns_below h.2.2.2.1 hb, h.2.2.2.2⟩

/-- What the walk gathers. -/
def usesC (l : List (Nat × MT)) : List Int := (l.filter fun x => x.2.op == 0).map fun x => x.2.n
/-- Go's own half. -/
def half (n : Int) : Int := wrap64 (n.tdiv 2)
def usesR (l : List (Nat × MT)) : List Int := (l.filter fun x => x.2.op == 6 || x.2.op == 7).map fun x => half x.2.n
theorem usesC_len (l : List (Nat × MT)) : (usesC l).length ≤ l.length := by unfold usesC; rw [List.length_map]; exact List.length_filter_le _ _
theorem usesR_len (l : List (Nat × MT)) : (usesR l).length ≤ l.length := by unfold usesR; rw [List.length_map]; exact List.length_filter_le _ _

end Go.Proofs.YtndkcimajeofcaaGreatDoor
