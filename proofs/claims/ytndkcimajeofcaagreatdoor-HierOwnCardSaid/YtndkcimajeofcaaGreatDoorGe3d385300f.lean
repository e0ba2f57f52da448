import Derived.Test.YtndkcimajeofcaaGreatDoorG3b2f17e259
import Derived.Test.YtndkcimajeofcaaGreatDoorG15dedf7e27
import Derived.Shelf.Sort.Plain
import Derived.Shelf.Slices.CompactI
namespace Go.Proofs.YtndkcimajeofcaaGreatDoor
open Go.RowKit Go.Sort

theorem int_info : (Tryz.prog.info? 3).map (fun i => (i.zero, i.size, i.bytes)) = some (some (.int .i64 0), 1, 8) := by kernel_rfl
def intCells (l : List Int) : List Value := l.map (Value.int .i64)

/-- A row of one's own in which the first cells have been written anew. -/
theorem row_put {W : World} {base g cap q : Nat} {xs : List Value} {n : Nat} {d : Array Int} {os : Array Obj} (h : W.ownsRow base 3 1 (.slice (some ⟨g, 0, none⟩) n cap) n xs) (hd : d.size ≤ cap) :
    W.grownBy (grow (putRow (Value.int .i64) (Sort.ahead W q) g 0 d) os) (some g) ∧ ∀ k, k ≤ d.size → (grow (putRow (Value.int .i64) (Sort.ahead W q) g 0 d) os).ownsRow base 3 1 (.slice (some ⟨g, 0, none⟩) k cap) k (intCells (d.toList.take k)) := by
  rcases h.2 with ⟨hv, _⟩ | ⟨g', cap', cur, hv, hge, hheap, hlen, hcap, hsize, htake⟩
  · cases hv
  cases hv
  have hlt : g < W.heap.size := (Array.getElem?_eq_some_iff.1 hheap).1
  have hblk : (grow (putRow (Value.int .i64) (Sort.ahead W q) g 0 d) os).heap[g]? = some (.cells (putCells (Value.int .i64) 0 d cur) 3 (0, 0)) := by
    rw [heap_grow_old _ _ (by simp [putRow, mapBlock, Sort.ahead]; exact hlt)]
    show (W.heap.modify g _)[g]? = _
    obtain ⟨hlt', hk⟩ := Array.getElem?_eq_some_iff.1 hheap
    rw [Array.getElem?_eq_getElem (by rw [Array.size_modify]; exact hlt'), Array.getElem_modify_self, hk]
    rfl
  refine ⟨⟨rfl, rfl, rfl, ?_, fun k hk hne => ?_⟩, fun k hk => ?_⟩
  · simp [grow, putRow, mapBlock, Sort.ahead]
  · rw [heap_grow_old _ _ (by simp [putRow, mapBlock, Sort.ahead]; exact hk)]
    show (W.heap.modify g _)[k]? = _
    rw [Array.getElem?_modify, if_neg (fun e => hne (by rw [e]))]
  · refine ⟨by simp [intCells]; omega, .inr ⟨g, cap, _, rfl, hge, hblk, by omega, hcap, by simp [putCells]; omega, ?_⟩⟩
    apply List.ext_getElem?
    intro j
    rw [List.getElem?_take, Nat.mul_one]
    by_cases hj : j < k
    · rw [if_pos hj, Array.getElem?_toList, putCells, Array.getElem?_mapIdx, intCells, List.getElem?_map, List.getElem?_take, if_pos hj, Array.getElem?_toList, Array.getElem?_eq_getElem (show j < cur.size by omega), Array.getElem?_eq_getElem (show j < d.size by omega)]
      simp only [Option.map_some]
      rw [if_pos ⟨Nat.zero_le _, by omega⟩, Nat.sub_zero, getElem!_pos d j (by omega)]
    · rw [if_neg hj, List.getElem?_eq_none (by simp [intCells]; omega)]

theorem row_holds {W : World} {base g cap n : Nat} {xs : List Int} (h : W.ownsRow base 3 1 (.slice (some ⟨g, 0, none⟩) n cap) n (intCells xs)) (hn : xs.length = n) : Holds (Value.int .i64) W g 0 xs.toArray := by
  rcases h.2 with ⟨hv, _⟩ | ⟨g', cap', cur, hv, hge, hheap, hlen, hcap, hsize, htake⟩
  · cases hv
  cases hv
  intro j hj
  have hj' : j < n := by simp at hj; omega
  refine ⟨?_, by simp [World.frozen?, hheap]⟩
  have hz : (W.cell? ⟨g, 0 + j, none⟩) = cur[j]? := by rw [Nat.zero_add]; simp [World.cell?, hheap]
  have h1 : cur[j]? = (intCells xs)[j]? := by
    rw [← htake, List.getElem?_take, if_pos (by omega), Array.getElem?_toList]
  rw [hz, h1, intCells, List.getElem?_map, List.getElem?_eq_getElem (by omega), getElem!_pos _ j (by simpa using hj)]
  simp

end Go.Proofs.YtndkcimajeofcaaGreatDoor

namespace Go.Proofs.YtndkcimajeofcaaGreatDoor
open Go.RowKit

theorem strict_eq : ∀ {l m : List Int}, l.Pairwise (· < ·) → m.Pairwise (· < ·) → (∀ x, x ∈ l ↔ x ∈ m) → l = m
  | [], [], _, _, _ => rfl
  | [], b :: m, _, _, h => by have := (h b).2 (by simp); simp at this
  | a :: l, [], _, _, h => by have := (h a).1 (by simp); simp at this
  | a :: l, b :: m, hl, hm, h => by
    rw [List.pairwise_cons] at hl hm
    have hab : a = b := by
      rcases List.mem_cons.1 ((h a).1 (by simp)) with e | e
      · exact e
      · rcases List.mem_cons.1 ((h b).2 (by simp)) with e' | e'
        · exact e'.symm
        · have h1 := hm.1 a e
          have h2 := hl.1 b e'
          omega
    subst hab
    rw [strict_eq hl.2 hm.2 (fun x => ?_)]
    constructor
    · intro hx
      rcases List.mem_cons.1 ((h x).1 (List.mem_cons_of_mem _ hx)) with e | e
      · have := hl.1 x hx; omega
      · exact e
    · intro hx
      rcases List.mem_cons.1 ((h x).2 (List.mem_cons_of_mem _ hx)) with e | e
      · have := hm.1 x hx; omega
      · exact e

end Go.Proofs.YtndkcimajeofcaaGreatDoor

namespace Go.Proofs.YtndkcimajeofcaaGreatDoor
open Go.RowKit

/-- The inverse of a role. -/
def inv (r : Nat) : Nat := if r % 2 = 0 then r + 1 else r - 1
theorem inv_inv (r : Nat) : inv (inv r) = r := by unfold inv; split <;> split <;> omega
theorem inv_lt {r n : Nat} (h : r < 2 * n) : inv r < 2 * n := by unfold inv; split <;> omega
/-- One role inclusion leads from r to s. -/
def hop (z : Int × Int) (r s : Nat) : Bool := (decide (z.1.toNat = r) && decide (z.2.toNat = s)) || (decide (inv z.1.toNat = r) && decide (inv z.2.toNat = s))
def edge (R : List (Int × Int)) (r s : Nat) : Bool := R.any fun z => hop z r s
theorem hop_inv (z : Int × Int) (r s : Nat) : hop z (inv r) (inv s) = hop z r s := by
  unfold hop
  rw [Bool.eq_iff_iff]
  simp only [Bool.or_eq_true, Bool.and_eq_true, decide_eq_true_eq]
  constructor
  · rintro (⟨h1, h2⟩ | ⟨h1, h2⟩)
    · exact .inr ⟨by rw [h1, inv_inv], by rw [h2, inv_inv]⟩
    · exact .inl ⟨by rw [← inv_inv z.1.toNat, h1, inv_inv], by rw [← inv_inv z.2.toNat, h2, inv_inv]⟩
  · rintro (⟨h1, h2⟩ | ⟨h1, h2⟩)
    · exact .inr ⟨by rw [h1], by rw [h2]⟩
    · exact .inl ⟨by rw [← h1, inv_inv], by rw [← h2, inv_inv]⟩
theorem edge_inv (R : List (Int × Int)) (r s : Nat) : edge R (inv r) (inv s) = edge R r s := by
  unfold edge; simp only [hop_inv]

/-- What lies above r. -/
inductive Reach (E : Nat → Nat → Bool) (r : Nat) : Nat → Prop where
  | refl : Reach E r r
  | tail {s t : Nat} : Reach E r s → E s t = true → Reach E r t
theorem Reach.trans {E : Nat → Nat → Bool} {r s t : Nat} (h : Reach E r s) (k : Reach E s t) : Reach E r t := by
  induction k with
  | refl => exact h
  | tail _ h2 ih => exact ih.tail h2
theorem Reach.one {E : Nat → Nat → Bool} {r s : Nat} (h : E r s = true) : Reach E r s := Reach.refl.tail h
theorem Reach.inv {R : List (Int × Int)} {r s : Nat} (h : Reach (edge R) r s) : Reach (edge R) (inv r) (inv s) := by
  induction h with
  | refl => exact .refl
  | tail _ h2 ih => exact ih.tail (by rw [edge_inv]; exact h2)

/-- Floyd's and Warshall's: by which roles below k one comes from r to s. -/
def fw (E : Nat → Nat → Bool) : Nat → Nat → Nat → Bool
  | 0, r, s => decide (r = s) || E r s
  | k + 1, r, s => fw E k r s || (fw E k r k && fw E k k s)
theorem fw_col {E : Nat → Nat → Bool} (k r : Nat) : fw E (k + 1) r k = fw E k r k := by
  rw [fw]; cases fw E k r k <;> simp
theorem fw_row {E : Nat → Nat → Bool} (k s : Nat) : fw E (k + 1) k s = fw E k k s := by
  rw [fw]; cases fw E k k s <;> simp
theorem fw_more {E : Nat → Nat → Bool} {k r s : Nat} (h : fw E k r s = true) : fw E (k + 1) r s = true := by rw [fw, h, Bool.true_or]
theorem fw_mono {E : Nat → Nat → Bool} {k r s : Nat} : ∀ m, fw E k r s = true → fw E (k + m) r s = true
  | 0, h => h
  | m + 1, h => fw_more (fw_mono m h)
theorem fw_via {E : Nat → Nat → Bool} : ∀ (k j r s : Nat), j < k → fw E k r j = true → fw E k j s = true → fw E k r s = true
  | 0, j, _, _, h, _, _ => absurd h (Nat.not_lt_zero _)
  | k + 1, j, r, s, h, h1, h2 => by
    by_cases e : j = k
    · subst e
      rw [fw_col] at h1
      rw [fw_row] at h2
      rw [fw, h1, h2]; simp
    · have hj : j < k := by omega
      rw [fw, Bool.or_eq_true, Bool.and_eq_true] at h1 h2
      rw [fw, Bool.or_eq_true, Bool.and_eq_true]
      rcases h1 with h1 | ⟨h1, h1'⟩ <;> rcases h2 with h2 | ⟨h2, h2'⟩
      · exact .inl (fw_via k j r s hj h1 h2)
      · exact .inr ⟨fw_via k j r k hj h1 h2, h2'⟩
      · exact .inr ⟨h1, fw_via k j k s hj h1' h2⟩
      · exact .inr ⟨h1, h2'⟩
theorem fw_sound {E : Nat → Nat → Bool} : ∀ (k r s : Nat), fw E k r s = true → Reach E r s
  | 0, r, s, h => by
    rw [fw, Bool.or_eq_true, decide_eq_true_eq] at h
    rcases h with rfl | h
    · exact .refl
    · exact .one h
  | k + 1, r, s, h => by
    rw [fw, Bool.or_eq_true, Bool.and_eq_true] at h
    rcases h with h | ⟨h, h'⟩
    · exact fw_sound k r s h
    · exact (fw_sound k r k h).trans (fw_sound k k s h')
theorem fw_reach {E : Nat → Nat → Bool} {n r s : Nat} (hb : ∀ x y, E x y = true → x < n) : fw E n r s = true ↔ Reach E r s := by
  refine ⟨fw_sound n r s, fun h => ?_⟩
  induction h with
  | refl => have := fw_mono (E := E) (k := 0) (r := r) (s := r) n (by simp [fw]); rwa [Nat.zero_add] at this
  | @tail x y _ h2 ih => exact fw_via n x r y (hb _ _ h2) ih (by have := fw_mono (E := E) (k := 0) (r := x) (s := y) n (by simp [fw, h2]); rwa [Nat.zero_add] at this)

/-- The roles above r, in order. -/
def upL (E : Nat → Nat → Bool) (n r : Nat) : List Nat := (List.range n).filter (fw E n r)
theorem mem_upL {E : Nat → Nat → Bool} {n r s : Nat} : s ∈ upL E n r ↔ s < n ∧ fw E n r s = true := by rw [upL, List.mem_filter, List.mem_range]

/-- What one role pushes onto the list of those to be looked at. -/
def pushF (r : Nat) (z : Int × Int) : List Nat := (if z.1.toNat = r then [z.2.toNat] else []) ++ (if inv z.1.toNat = r then [inv z.2.toNat] else [])
def pushL (R : List (Int × Int)) (r : Nat) : List Nat := R.flatMap (pushF r)
theorem mem_pushL {R : List (Int × Int)} {r s : Nat} : s ∈ pushL R r ↔ edge R r s = true := by
  rw [pushL, List.mem_flatMap, edge, List.any_eq_true]
  refine exists_congr fun z => and_congr Iff.rfl ?_
  rw [pushF, hop, List.mem_append, Bool.or_eq_true, Bool.and_eq_true, Bool.and_eq_true, decide_eq_true_eq, decide_eq_true_eq, decide_eq_true_eq, decide_eq_true_eq]
  refine or_congr ?_ ?_
  · split
    · rename_i h; rw [List.mem_singleton]; exact ⟨fun e => ⟨h, e.symm⟩, fun e => e.2.symm⟩
    · rename_i h; exact ⟨fun e => absurd e (by simp), fun e => absurd e.1 h⟩
  · split
    · rename_i h; rw [List.mem_singleton]; exact ⟨fun e => ⟨h, e.symm⟩, fun e => e.2.symm⟩
    · rename_i h; exact ⟨fun e => absurd e (by simp), fun e => absurd e.1 h⟩
theorem pushF_len (r : Nat) (z : Int × Int) : (pushF r z).length ≤ 2 := by unfold pushF; split <;> split <;> simp
theorem pushL_len (r : Nat) : ∀ R : List (Int × Int), (pushL R r).length ≤ 2 * R.length
  | [] => by simp [pushL]
  | z :: R => by
    have h1 := pushF_len r z
    have h2 := pushL_len r R
    rw [pushL] at h2 ⊢
    rw [List.flatMap_cons, List.length_append, List.length_cons]; omega

/-- What has been found, and what is still to be looked at. -/
structure Bfs (E : Nat → Nat → Bool) (n r : Nat) (found work : List Nat) : Prop where
  nodup : found.Nodup
  reach : ∀ x, x ∈ found ∨ x ∈ work → Reach E r x
  start : r ∈ found ∨ r ∈ work
  closed : ∀ x ∈ found, ∀ y, E x y = true → y ∈ found ∨ y ∈ work
  bound : ∀ x, x ∈ found ∨ x ∈ work → x < n
theorem Bfs.init {E : Nat → Nat → Bool} {n r : Nat} (hr : r < n) : Bfs E n r [] [r] :=
  ⟨List.nodup_nil, fun x h => by rcases h with h | h <;> simp at h; subst h; exact .refl, .inr (by simp), fun x h => absurd h (by simp), fun x h => by rcases h with h | h <;> simp at h; subst h; exact hr⟩
theorem Bfs.skip {E : Nat → Nat → Bool} {n r x : Nat} {found work : List Nat} (h : Bfs E n r found (x :: work)) (hx : x ∈ found) : Bfs E n r found work :=
  ⟨h.nodup, fun y hy => h.reach y (hy.imp id (List.mem_cons_of_mem _)), by
    rcases h.start with h1 | h1
    · exact .inl h1
    · rcases List.mem_cons.1 h1 with e | e
      · rw [e]; exact .inl hx
      · exact .inr e, fun y hy z hz => by
    rcases h.closed y hy z hz with h1 | h1
    · exact .inl h1
    · rcases List.mem_cons.1 h1 with e | e
      · rw [e]; exact .inl hx
      · exact .inr e, fun y hy => h.bound y (hy.imp id (List.mem_cons_of_mem _))⟩
theorem Bfs.take {R : List (Int × Int)} {n r x : Nat} {found work : List Nat} (h : Bfs (edge R) n r found (x :: work)) (hx : x ∉ found) (hb : ∀ a b, edge R a b = true → b < n) : Bfs (edge R) n r (found ++ [x]) (work ++ pushL R x) := by
  have key : ∀ y, y ∈ found ∨ y ∈ x :: work → y ∈ found ++ [x] ∨ y ∈ work ++ pushL R x := fun y hy => by
    simp only [List.mem_append, List.mem_cons, List.not_mem_nil, or_false] at hy ⊢
    rcases hy with hy | hy | hy
    · exact .inl (.inl hy)
    · exact .inl (.inr hy)
    · exact .inr (.inl hy)
  refine ⟨?_, fun y hy => ?_, key _ h.start, fun y hy z hz => ?_, fun y hy => ?_⟩
  · rw [List.nodup_append]
    exact ⟨h.nodup, by simp, fun a ha b hb => by rw [List.mem_singleton] at hb; rintro rfl; rw [hb] at ha; exact hx ha⟩
  · simp only [List.mem_append, List.mem_cons, List.not_mem_nil, or_false] at hy
    rcases hy with (hy | hy) | hy | hy
    · exact h.reach y (.inl hy)
    · subst hy; exact h.reach y (.inr (by simp))
    · exact h.reach y (.inr (by simp [hy]))
    · exact (h.reach x (.inr (by simp))).tail (mem_pushL.1 hy)
  · rw [List.mem_append, List.mem_singleton] at hy
    rcases hy with hy | rfl
    · exact key z (h.closed y hy z hz)
    · exact .inr (List.mem_append_right _ (mem_pushL.2 hz))
  · simp only [List.mem_append, List.mem_cons, List.not_mem_nil, or_false] at hy
    rcases hy with (hy | hy) | hy | hy
    · exact h.bound y (.inl hy)
    · subst hy; exact h.bound y (.inr (by simp))
    · exact h.bound y (.inr (by simp [hy]))
    · exact hb _ _ (mem_pushL.1 hy)
theorem Bfs.done {E : Nat → Nat → Bool} {n r : Nat} {found : List Nat} (h : Bfs E n r found []) : ∀ x, x ∈ found ↔ Reach E r x := fun x => by
  refine ⟨fun hx => h.reach x (.inl hx), fun hr => ?_⟩
  induction hr with
  | refl => rcases h.start with h1 | h1; exact h1; exact absurd h1 (by simp)
  | tail _ h2 ih => rcases h.closed _ ih _ h2 with h1 | h1; exact h1; exact absurd h1 (by simp)

/-- How many are not yet found. -/
def missing (n : Nat) (found : List Nat) : Nat := (List.range n).countP fun x => !found.contains x
theorem countP_lt {p q : Nat → Bool} : ∀ {l : List Nat} {x : Nat}, (∀ y ∈ l, q y = true → p y = true) → x ∈ l → p x = true → q x = false → l.countP q < l.countP p
  | y :: l, x, h, hx, hp, hq => by
    have hle : l.countP q ≤ l.countP p := List.countP_mono_left fun z hz hz' => h z (List.mem_cons_of_mem _ hz) hz'
    rw [List.countP_cons, List.countP_cons]
    rcases List.mem_cons.1 hx with rfl | hx
    · rw [hp, hq]; simp; omega
    · have ih := countP_lt (fun z hz => h z (List.mem_cons_of_mem _ hz)) hx hp hq
      have h0 := h y (by simp)
      cases hqy : q y
      · simp; split <;> omega
      · rw [h0 hqy]; simp; omega
theorem missing_lt {n x : Nat} {found : List Nat} (hx : x ∉ found) (hn : x < n) : missing n (found ++ [x]) < missing n found := by
  refine countP_lt (x := x) (fun y _ hy => ?_) (List.mem_range.2 hn) (by simpa using hx) (by simp)
  simp only [List.contains_append, Bool.not_eq_true', Bool.or_eq_false_iff] at hy ⊢
  exact hy.1
theorem missing_le (n : Nat) (found : List Nat) : missing n found ≤ n := by
  have := List.countP_le_length (p := fun x => !found.contains x) (l := List.range n)
  rwa [List.length_range] at this

theorem upL_strict (E : Nat → Nat → Bool) (n r : Nat) : ((upL E n r).map fun (x : Nat) => (x : Int)).Pairwise (· < ·) := by
  rw [List.pairwise_map]
  have h : (List.range n).Pairwise (· < ·) := List.pairwise_lt_range
  exact (List.Pairwise.filter _ h).imp (fun {a b} h => by omega)
/-- Sorted, what has been found is what lies above. -/
theorem sorted_upL {E : Nat → Nat → Bool} {n r : Nat} {found : List Nat} (h : Bfs E n r found []) (hb : ∀ x y, E x y = true → x < n) : (found.map fun (x : Nat) => (x : Int)).mergeSort (fun x y => decide (x ≤ y)) = (upL E n r).map fun (x : Nat) => (x : Int) := by
  have hp := List.mergeSort_perm (found.map fun (x : Nat) => (x : Int)) (fun x y => decide (x ≤ y))
  have hs : ((found.map fun (x : Nat) => (x : Int)).mergeSort (fun x y => decide (x ≤ y))).Pairwise (fun a b => decide (a ≤ b) = true) := List.pairwise_mergeSort (fun a b c h1 h2 => by simp at *; omega) (fun a b => by simp; omega) _
  have hn : ((found.map fun (x : Nat) => (x : Int)).mergeSort (fun x y => decide (x ≤ y))).Pairwise (· ≠ ·) := by
    have : (found.map fun (x : Nat) => (x : Int)).Pairwise (· ≠ ·) := by
      rw [List.pairwise_map]; exact h.nodup.imp (fun {a b} hab e => hab (by omega))
    exact (hp.pairwise_iff (fun {a b} h => Ne.symm h)).2 this
  refine strict_eq ((hs.and hn).imp (fun {a b} h => by have := of_decide_eq_true h.1; have := h.2; omega)) (upL_strict E n r) fun x => ?_
  rw [hp.mem_iff, List.mem_map, List.mem_map]
  refine exists_congr fun y => and_congr ?_ Iff.rfl
  rw [h.done, mem_upL, fw_reach hb]
  exact ⟨fun k => ⟨h.bound y (.inl ((h.done y).2 k)), k⟩, fun k => k.2⟩
end Go.Proofs.YtndkcimajeofcaaGreatDoor
