import Derived.Test.YtneegmhcmegijaaDoorNorm
import Derived.Shelf.Strings.Builder1
namespace Go.Proofs.YtneegmhcmegijaaDoor
open Go.RowKit

/-- WHAT A WRITE INTO THE BUILDER b KEEPS: every block of cells but b and the rows of bytes. -/
structure BK (b : Nat) (w w' : World) : Prop where
  size : w.heap.size ≤ w'.heap.size
  keep : ∀ (k : Nat) (cs : Array Value) (t : TypeId) (fr : Nat × Nat), w.heap[k]? = some (.cells cs t fr) → t ≠ 5 → k ≠ b → w'.heap[k]? = some (.cells cs t fr)
theorem BK.refl (b : Nat) (w : World) : BK b w w := ⟨Nat.le_refl _, fun _ _ _ _ h _ _ => h⟩
theorem BK.trans {b : Nat} {x y z : World} (h : BK b x y) (k : BK b y z) : BK b x z := ⟨Nat.le_trans h.size k.size, fun i cs t fr hi ht hb => k.keep i cs t fr (h.keep i cs t fr hi ht hb) ht hb⟩
theorem BK.of_below {b : Nat} {w w' : World} (h : Below w.heap.size w w') : BK b w w' := ⟨h.size, fun k _ _ _ hk _ _ => (h.block k (Array.getElem?_eq_some_iff.1 hk).1).trans hk⟩
theorem BK.set (w : World) (b i : Nat) (v : Value) : BK b w (w.setCell ⟨b, i, none⟩ v) := ⟨(KeepsWalks.setCell w ⟨b, i, none⟩ v).size, fun k _ _ _ hk _ hb => (Below.heap_setCell _ _ _ k hb).trans hk⟩
theorem BK.grown {b : Nat} {w w' : World} {base n : Nat} {v : Value} {xs : List Value} (hown : w.ownsRow base 5 1 v n xs) (hg : w.grownBy w' v.ownBlock) : BK b w w' := by
  refine ⟨hg.size, fun k cs t fr hk ht _ => (hg.block k (Array.getElem?_eq_some_iff.1 hk).1 fun e => ?_).trans hk⟩
  rcases hown.2 with ⟨rfl, _⟩ | ⟨g, cap, cur, rfl, _, hheap, _⟩
  · cases e
  · have : k = g := Option.some.inj e
    subst this
    rw [hk] at hheap
    cases hheap
    exact ht rfl

theorem builder_size : (Tryd.prog.info? 106).map (·.size) = some 2 := by kernel_rfl
theorem byte_info : (Tryd.prog.info? 5).map (fun i => (i.zero, i.size, i.bytes)) = some (some (.int .u8 0), 1, 1) := by kernel_rfl

set_option maxRecDepth 100000 in
set_option maxHeartbeats 1000000 in
theorem copyCheck_any (B b : Nat) (bs : List Value) (w : World) (h : Lib.IsBuilder 106 5 B b bs w) :
    Calls Tryd.prog 128 #[.pointer (some ⟨b, 0, none⟩)] w fun e w' => e = .returned (.tuple #[]) ∧ Lib.BuilderAt 106 5 B b (.pointer (some ⟨b, 0, none⟩)) bs w' ∧ Below B w w' ∧ BK b w w' := by
  obtain ⟨j, hj, hjs⟩ := Option.map_eq_some_iff.1 builder_size
  rcases h with h | h
  · have c0 := h.cell0
    have f0 := h.frozen0
    go_enter Tryd.func128, Tryd.ntmps128
    go_wp2
    rw [Lib.run_to_unsafe w ⟨b, 0, none⟩ Tryd.underlying103 Tryd.underlying214 hj (by rw [hjs]; decide) h.shape (Nat.zero_lt_succ 1)]
    simp only [Result.andThen]
    rw [Oper.upon_value]
    go_wp2
    rw [run_callFunc_extern Tryd.func163 (by kernel_rfl) (by kernel_rfl) (by kernel_rfl) (e := Extern.AbiNoEscape.same) (by kernel_rfl)]
    rw [Lib.run_noEscape]
    simp only [Result.andThen]
    rw [Oper.upon_value]
    go_wp2
    rw [Lib.run_from_unsafe w ⟨b, 0, none⟩ Tryd.underlying214 Tryd.underlying103 hj h.shape (by kernel_rfl)]
    simp only [Result.andThen]
    rw [Oper.upon_value]
    go_wp2
    go_end0
    exact ⟨rfl, h.used _, (Below.refl B w).setCell (p := ⟨b, 0, none⟩) h.1 _, BK.set _ _ _ _⟩
  · have c0 := h.cell0
    go_enter Tryd.func128, Tryd.ntmps128
    go_wp2
    rw [Lib.run_neq_ptr_same w _ Tryd.underlying103 hj]
    go_wp2
    go_end0
    exact ⟨rfl, h, Below.refl B _, BK.refl _ _⟩

theorem own_form {w : World} {base : Nat} {e : TypeId} {size n : Nat} {v : Value} {xs : List Value} (h : w.ownsRow base e size v n xs) : ∃ A m c, v = .slice A m c := by
  rcases h.2 with ⟨hv, _⟩ | ⟨g, cap, cur, hv, _⟩
  · exact ⟨_, _, _, hv⟩
  · exact ⟨_, _, _, hv⟩

set_option maxRecDepth 100000 in
set_option maxHeartbeats 2000000 in
theorem WriteString_any (B b : Nat) (bs : List Value) (s : ByteArray) (w : World) (h : Lib.IsBuilder 106 5 B b bs w) (hlen : bs.length + s.size ≤ 1000000000) (hBw : B ≤ w.heap.size) :
    Calls Tryd.prog 87 #[.pointer (some ⟨b, 0, none⟩), .string s] w fun e w' => (∃ v, e = .returned v) ∧ Lib.IsBuilder 106 5 B b (bs ++ Lib.strCells s) w' ∧ Below B w w' ∧ BK b w w' := by
  obtain ⟨i0, hi, hz0, hz1, hz2⟩ := info_parts byte_info
  go_enter Tryd.func87, Tryd.ntmps87
  go_wp2_with (first | (go_at_call 128; refine (copyCheck_any B b bs _ h).mono ?_; rintro e w1 ⟨rfl, h1, hb1, hbk1⟩; have hb1s := hb1.size; have k0 := h1.cell0; obtain ⟨hB, v, hbk, hown, hne⟩ := h1; have k1 := cell_of_blk hbk 1; simp only [List.getElem?_toArray, List.getElem?_cons_zero, List.getElem?_cons_succ] at k1) | (at_builtin; refine Lib.wpList_append_own_string _ rfl _ _ 104 9 rfl B 5 i0 Tryd.underlying104 Tryd.underlying9 hi hz0 hz1 hz2 _ _ _ rfl hown s rfl (by unfold maxLen; omega) (by omega) (by omega) ?_; intro v' w2 hown' hgrow _; have hlt : b < w1.heap.size := (Array.getElem?_eq_some_iff.1 hbk).1; have hbk2 := (hgrow.block b hlt (fun e => hne e.symm)).trans hbk; have d0 := cell_of_blk hbk2 0; have d1 := cell_of_blk hbk2 1; have f1 := frozen_of_blk hbk2 1; simp only [List.getElem?_toArray, List.getElem?_cons_zero, List.getElem?_cons_succ] at d0 d1; obtain ⟨A, m, c, rfl⟩ := own_form hown'))
  go_ret2
  refine ⟨⟨_, rfl⟩, .inr (Lib.BuilderAt.put (T := 106) (e := 5) hB hbk2 (bs' := bs ++ Lib.strCells s) (by simpa [Lib.strCells_length] using hown') (by decide)), ?_, (hbk1.trans (BK.grown hown hgrow)).trans (BK.set _ _ _ _)⟩
  exact (hb1.grown hgrow (by omega) (fun k hk => (own_lt hown hk).1)).setCell (p := ⟨b, 1, none⟩) hB _
end Go.Proofs.YtneegmhcmegijaaDoor
