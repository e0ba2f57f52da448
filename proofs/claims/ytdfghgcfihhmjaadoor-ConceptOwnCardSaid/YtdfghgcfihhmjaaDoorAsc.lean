import Derived.Test.YtdfghgcfihhmjaaDoorIter2
import Derived.Test.YtdfghgcfihhmjaaDoorRef4
namespace Go.Proofs.YtdfghgcfihhmjaaDoor
open Go.RowKit Go.Sort

theorem int_info : (Tryd.prog.info? 3).map (fun i => (i.zero, i.size, i.bytes)) = some (some (.int .i64 0), 1, 8) := by kernel_rfl
def intCells (l : List Int) : List Value := l.map (Value.int .i64)

/-- A row of one's own in which the first cells have been written anew. -/
theorem row_put {W : World} {base g cap q : Nat} {xs : List Value} {n : Nat} {d : Array Int} {os : Array Obj} (h : W.ownsRow base 3 1 (.slice (some ⟨g, 0, none⟩) n cap) n xs) (hd : d.size ≤ cap) :
    W.grownBy (grow (putRow (Value.int .i64) (Sort.ahead W q) g 0 d) os) (some g) ∧ ∀ k, k ≤ d.size → (grow (putRow (Value.int .i64) (Sort.ahead W q) g 0 d) os).ownsRow base 3 1 (.slice (some ⟨g, 0, none⟩) k cap) k (intCells (d.toList.take k)) := by
  rcases h.2 with ⟨hv, _⟩ | ⟨g', cap', cur, hv, hge, hheap, hlen, hcap, hsize, htake⟩
  · cases hv
  cases hv
  have hlt : g < W.heap.size := (Array.getElem?_eq_some_iff.1 hheap).1
  have hblk : (grow (putRow (Value.int .i64) (Sort.ahead W q) g 0 d) os).heap[g]? = some (.cells (putCells (Value.int .i64) 0 d cur) 3 (0, 0)) := by
    rw [heap_grow_old _ _ (by simp [putRow, mapBlock, Sort.ahead]; exact hlt)]
    show (W.heap.modify g _)[g]? = _
    obtain ⟨hlt', hk⟩ := Array.getElem?_eq_some_iff.1 hheap
    rw [Array.getElem?_eq_getElem (by rw [Array.size_modify]; exact hlt'), Array.getElem_modify_self, hk]
    rfl
  refine ⟨⟨rfl, rfl, rfl, ?_, fun k hk hne => ?_⟩, fun k hk => ?_⟩
  · simp [grow, putRow, mapBlock, Sort.ahead]
  · rw [heap_grow_old _ _ (by simp [putRow, mapBlock, Sort.ahead]; exact hk)]
    show (W.heap.modify g _)[k]? = _
    rw [Array.getElem?_modify, if_neg (fun e => hne (by rw [e]))]
  · refine ⟨by simp [intCells]; omega, .inr ⟨g, cap, _, rfl, hge, hblk, by omega, hcap, by simp [putCells]; omega, ?_⟩⟩
    apply List.ext_getElem?
    intro j
    rw [List.getElem?_take, Nat.mul_one]
    by_cases hj : j < k
    · rw [if_pos hj, Array.getElem?_toList, putCells, Array.getElem?_mapIdx, intCells, List.getElem?_map, List.getElem?_take, if_pos hj, Array.getElem?_toList, Array.getElem?_eq_getElem (show j < cur.size by omega), Array.getElem?_eq_getElem (show j < d.size by omega)]
      simp only [Option.map_some]
      rw [if_pos ⟨Nat.zero_le _, by omega⟩, Nat.sub_zero, getElem!_pos d j (by omega)]
    · rw [if_neg hj, List.getElem?_eq_none (by simp [intCells]; omega)]

theorem row_holds {W : World} {base g cap n : Nat} {xs : List Int} (h : W.ownsRow base 3 1 (.slice (some ⟨g, 0, none⟩) n cap) n (intCells xs)) (hn : xs.length = n) : Holds (Value.int .i64) W g 0 xs.toArray := by
  rcases h.2 with ⟨hv, _⟩ | ⟨g', cap', cur, hv, hge, hheap, hlen, hcap, hsize, htake⟩
  · cases hv
  cases hv
  intro j hj
  have hj' : j < n := by simp at hj; omega
  refine ⟨?_, by simp [World.frozen?, hheap]⟩
  have hz : (W.cell? ⟨g, 0 + j, none⟩) = cur[j]? := by rw [Nat.zero_add]; simp [World.cell?, hheap]
  have h1 : cur[j]? = (intCells xs)[j]? := by
    rw [← htake, List.getElem?_take, if_pos (by omega), Array.getElem?_toList]
  rw [hz, h1, intCells, List.getElem?_map, List.getElem?_eq_getElem (by omega), getElem!_pos _ j (by simpa using hj)]
  simp

def ascL (xs : List Int) : List Int := Lib.compact (xs.mergeSort fun x y => decide (x ≤ y))

set_option maxRecDepth 100000 in
set_option maxHeartbeats 2000000 in
theorem ins_nil (w : World) : Calls Tryd.prog 183 #[.slice none 0 0, .int .i64 0, .int .i64 0] w fun e w' => (∃ v, e = .returned v) ∧ w' = w := by
  go_enter Tryd.func183, Tryd.ntmps183
  go_wp2_with fail
  refine wp_loop_rounds 1 ?_
  rw [rounds_succ]
  go_wp2
  go_end0
  exact ⟨⟨_, rfl⟩, rfl⟩

set_option maxRecDepth 100000 in
set_option maxHeartbeats 2000000 in
theorem pdq_nil (w : World) (k : Int) : Calls Tryd.prog 160 #[.slice none 0 0, .int .i64 0, .int .i64 0, .int .i64 k] w fun e w' => (∃ v, e = .returned v) ∧ w' = w := by
  go_enter Tryd.func160, Tryd.ntmps160
  go_wp2_with fail
  refine wp_loop_rounds 1 ?_
  rw [rounds_succ]
  go_wp2_with (go_at_call 183; refine (ins_nil _).mono ?_; rintro e w' ⟨⟨v, rfl⟩, rfl⟩)
  refine bodyPost_ret (results_none (by kernel_rfl) _ _ _) (by rfl) ?_
  exact ⟨⟨_, rfl⟩, rfl⟩

set_option maxRecDepth 100000 in
set_option maxHeartbeats 2000000 in
theorem sort_nil (w : World) : Calls Tryd.prog 118 #[.slice none 0 0] w fun e w' => (∃ v, e = .returned v) ∧ w' = w := by
  have hb := Tryd.bits_Len 0 w (by decide) (by decide)
  go_enter Tryd.func118, Tryd.ntmps118
  go_wp2_with (first | (go_at_call 161; refine hb.mono ?_; rintro e w' ⟨rfl, rfl⟩) | (go_at_call 160; refine (pdq_nil _ _).mono ?_; rintro e w' ⟨⟨v, rfl⟩, rfl⟩))
  go_end0
  exact ⟨⟨_, rfl⟩, rfl⟩

theorem compact_len (l : List Int) : (Lib.compact l).length ≤ l.length := by
  unfold Lib.compact Lib.compactUpTo
  rw [List.length_map]
  exact Nat.le_trans (List.length_filter_le _ _) (by simp)

set_option maxRecDepth 100000 in
set_option maxHeartbeats 2000000 in
/-- ascending: the row sorted in place, its doubles struck. -/
theorem asc_any {base : Nat} (v : Value) (xs : List Int) (w : World) (h : w.ownsRow base 3 1 v xs.length (intCells xs)) (hl : xs.length ≤ 1000000) :
    Calls Tryd.prog 82 #[v] w fun e w' => ∃ v', e = .returned v' ∧ v'.ownBlock = v.ownBlock ∧ w'.ownsRow base 3 1 v' (ascL xs).length (intCells (ascL xs)) ∧ w.grownBy w' v.ownBlock := by
  have hcl : (ascL xs).length ≤ xs.length := by
    have := compact_len (xs.mergeSort fun x y => decide (x ≤ y))
    rw [List.length_mergeSort] at this
    exact this
  rcases h.2 with ⟨rfl, h0⟩ | ⟨g, cap, cur, rfl, hge, hheap, hlen, hcap, hsize, htake⟩
  · have hx : xs = [] := List.eq_nil_of_length_eq_zero h0
    subst hx
    have hcm := fun w1 => Tryd.slices_Compact_int_empty none 0 w1
    go_enter Tryd.func82, Tryd.ntmps82
    go_wp2_with (first | (go_at_call 118; refine (sort_nil _).mono ?_; rintro e w' ⟨⟨v, rfl⟩, rfl⟩) | (go_at_call 119; refine (hcm _).mono ?_; rintro e w' ⟨rfl, rfl⟩))
    go_ret
    have e0 : ascL [] = [] := List.eq_nil_of_length_eq_zero (by simpa using hcl)
    rw [e0]
    exact ⟨_, rfl, rfl, ⟨rfl, .inl ⟨rfl, rfl⟩⟩, ⟨rfl, rfl, rfl, Nat.le_refl _, fun _ _ _ => rfl⟩⟩
  · have hlt : g < w.heap.size := (Array.getElem?_eq_some_iff.1 hheap).1
    have hso := Tryd.slices_Sort_int g 0 cap xs w (row_holds h rfl) hlt (by omega)
    have hms : (xs.mergeSort fun x y => decide (x ≤ y)).length = xs.length := List.length_mergeSort _
    have hcm : ∀ q os, Calls Tryd.prog 119 #[.slice (some ⟨g, 0, none⟩) xs.length cap] (grow (putRow (Value.int .i64) (Sort.ahead w q) g 0 (xs.mergeSort fun x y => decide (x ≤ y)).toArray) os) fun e w' => e = .returned (.slice (some ⟨g, 0, none⟩) (ascL xs).length cap) ∧ w'.ownsRow base 3 1 (.slice (some ⟨g, 0, none⟩) (ascL xs).length cap) (ascL xs).length (intCells (ascL xs)) ∧ w.grownBy w' (some g) := fun q os => by
      obtain ⟨g1, o1⟩ := row_put (q := q) (os := os) h (d := (xs.mergeSort fun x y => decide (x ≤ y)).toArray) (by simp [hms]; omega)
      have o2 := o1 xs.length (by simp [hms])
      rw [List.take_of_length_le (by simp [hms])] at o2
      have hc := Tryd.slices_Compact_int g 0 cap (xs.mergeSort fun x y => decide (x ≤ y)) _ (row_holds o2 hms) (by omega) (by omega)
      rw [hms] at hc
      refine hc.mono ?_
      rintro e w' ⟨rfl, q2, rfl⟩
      have hd : (Lib.compact (xs.mergeSort fun x y => decide (x ≤ y)) ++ List.replicate (xs.length - (Lib.compact (xs.mergeSort fun x y => decide (x ≤ y))).length) 0).toArray.size = xs.length := by
        have : (Lib.compact (xs.mergeSort fun x y => decide (x ≤ y))).length ≤ xs.length := hcl
        simp; omega
      obtain ⟨g2, o3⟩ := row_put (q := q2) (os := #[]) o2 (d := (Lib.compact (xs.mergeSort fun x y => decide (x ≤ y)) ++ List.replicate (xs.length - (Lib.compact (xs.mergeSort fun x y => decide (x ≤ y))).length) 0).toArray) (by omega)
      have o4 := o3 (ascL xs).length (by omega)
      have he : ∀ W : World, grow W #[] = W := fun W => by simp [grow]
      rw [he] at g2 o4
      refine ⟨rfl, ?_, grown_trans g1 g2⟩
      have htk : ((Lib.compact (xs.mergeSort fun x y => decide (x ≤ y)) ++ List.replicate (xs.length - (Lib.compact (xs.mergeSort fun x y => decide (x ≤ y))).length) 0).toArray.toList.take (ascL xs).length) = ascL xs := by
        rw [List.toList_toArray]; exact List.take_left' rfl
      rw [htk] at o4
      exact o4
    go_enter Tryd.func82, Tryd.ntmps82
    go_wp2_with (first | (go_at_call 118; refine hso.mono ?_; rintro e w' ⟨rfl, q, os, rfl⟩) | (go_at_call 119; refine (hcm q os).mono ?_; rintro e w' ⟨rfl, ho, hg⟩))
    go_ret
    exact ⟨_, rfl, rfl, ho, hg⟩
end Go.Proofs.YtdfghgcfihhmjaaDoor
