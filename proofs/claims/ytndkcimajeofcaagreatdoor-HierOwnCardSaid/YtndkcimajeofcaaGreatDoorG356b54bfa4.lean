import Derived.Test.YtndkcimajeofcaaGreatDoorG15dedf7e27
import Derived.Test.YtndkcimajeofcaaGreatDoorG280635a156
import Derived.Deep.RegionHeldLaw
import Derived.Deep.RegionHeld3
import Derived.Deep.QuietTactic
import Derived.Stop.RegionWithIn
namespace Go.Proofs.YtndkcimajeofcaaGreatDoor
open Go.RowKit

/-- The names' sets and the roles' ends, as the program's world holds them. -/
def namesF (i : IN) (c x : Nat) : Bool := match i.C[c]? with | some s => s.l.contains (x : Int) | none => false
def endsF (i : IN) (r x y : Nat) : Bool := match i.R[r / 2]? with | some s => (if r % 2 = 0 then s.l.contains ((x : Int), (y : Int)) else s.l.contains ((y : Int), (x : Int))) | none => false

theorem MRow.ext {w : World} {g n : Nat} {f f' : Nat → Nat → Bool} (h : MRow w g n f) (he : ∀ x, x < n → ∀ i, i < 256 → f x i = f' x i) : MRow w g n f' := by
  unfold MRow at *
  rw [h, setCells_ext he]
/-- The slices of the roles' rows. -/
def egVals (eg : Nat → Nat) (n k : Nat) : List Value := (List.range k).map fun j => .slice (some ⟨eg j, 0, none⟩) n n
theorem MRow.ne {w : World} {g n b : Nat} {f : Nat → Nat → Bool} {cs : Array Value} {t : TypeId} (h : MRow w g n f) (hb : w.heap[b]? = some (.cells cs t)) (ht : t ≠ 145) : g ≠ b := fun e => by
  subst e
  rw [MRow, hb] at h
  cases h
  exact ht rfl
/-- THE WORLD AS IT LIES: the box b. -/
def WL (w : World) (b : Nat) (i : IN) (n : Nat) : Prop := ∃ (s0 s1 s2 s3 : Nat) (v v2 v3 : Value) (eg : Nat → Nat) (lo : Nat),
  w.heap[b]? = some (.cells #[.int .u64 (s0 : Nat), .int .u64 (s1 : Nat), .int .u64 (s2 : Nat), .int .u64 (s3 : Nat), v, v2, v3] 155) ∧ SW (fun x => decide (x < n)) s0 s1 s2 s3 ∧
  w.ownsRow lo 145 4 v i.C.length (setCells (namesF i) i.C.length) ∧ w.ownsRow lo 151 1 v2 (2 * i.R.length) (egVals eg n (2 * i.R.length)) ∧ (∀ j, j < 2 * i.R.length → MRow w (eg j) n (endsF i j)) ∧ w.ownsRow lo 150 1 v3 i.I.l.length (i.I.l.map icell)
theorem WL.later {w w' : World} {b n : Nat} {i : IN} (h : WL w b i n) (hb : Below w.heap.size w w') : WL w' b i n := by
  obtain ⟨s0, s1, s2, s3, v, v2, v3, eg, lo, h1, h2, h3, h4, h5, h6⟩ := h
  exact ⟨s0, s1, s2, s3, v, v2, v3, eg, lo, blk_lat h1 hb, h2, owns_below h3 hb, owns_below h4 hb, fun j hj => (h5 j hj).later hb, owns_below h6 hb⟩
end Go.Proofs.YtndkcimajeofcaaGreatDoor

namespace Go.Proofs.YtndkcimajeofcaaGreatDoor
open Go.RowKit Go.Shelf

attribute [local go_sem] Oper.semAt_some

theorem GT.near {n : Nat} {w w' : World} (h : GT w) (hb : Below n w w') (h1 : 0 < n) (h2 : 2 < n) : GT w' :=
  ⟨⟨Nat.lt_of_lt_of_le h.ga.size hb.size, fun op h0 h8 => (hb.cell (p := ⟨0, op.toNat, none⟩) h1).trans (h.ga.ar op h0 h8)⟩, Nat.lt_of_lt_of_le h.size hb.size, fun k hk => (hb.cell (p := ⟨2, k, none⟩) h2).trans (h.tz k hk)⟩
theorem WL.role {w : World} {b n : Nat} {i : IN} (h : WL w b i n) {r : Nat} (hr : r < 2 * i.R.length) : ∃ (g cap e : Nat), w.cell? ⟨b, 5, none⟩ = some (.slice (some ⟨g, 0, none⟩) (2 * i.R.length) cap) ∧ w.cell? ⟨g, r, none⟩ = some (.slice (some ⟨e, 0, none⟩) n n) ∧ MRow w e n (endsF i r) ∧ b < w.heap.size ∧ g < w.heap.size := by
  obtain ⟨s0, s1, s2, s3, v, v2, v3, eg, lo, h1, -, -, h4, h5, -⟩ := h
  rcases h4.2 with ⟨-, h0⟩ | ⟨g, cap, cur, rfl, hge, hheap, hrest⟩
  · omega
  · have hc := h4.cells (g := g) rfl r (.slice (some ⟨eg r, 0, none⟩) n n) (by rw [egVals, List.getElem?_map, List.getElem?_range hr]; rfl)
    refine ⟨g, cap, eg r, cell_of_blk h1 5, (by rw [show (⟨g, 0, none⟩ : Addr).add r = ⟨g, r, none⟩ by cases r <;> simp [Addr.add]] at hc; exact hc), h5 r hr, (Array.getElem?_eq_some_iff.1 h1).1, (Array.getElem?_eq_some_iff.1 hheap).1⟩

theorem owns_keptP {W W' : World} {row : Option Nat} {base size n : Nat} {e : TypeId} {v : Value} {xs : List Value} (h : W.ownsRow base e size v n xs) (hg : W.grownBy W' row) (hr : ∀ r, row = some r → ∃ o : Obj, W.heap[r]? = some o ∧ o.isCells = false) : W'.ownsRow base e size v n xs := by
  refine h.kept hg ?_
  rcases h.2 with ⟨rfl, _⟩ | ⟨g, cap, cur, rfl, _, hgb, _⟩
  · exact .inl rfl
  · refine .inr fun e' => ?_
    obtain ⟨o, ho, hc⟩ := hr g (by simpa [Value.ownBlock] using e'.symm)
    rw [hgb] at ho; cases ho; cases hc
theorem blk_keptP {W W' : World} {row : Option Nat} {b : Nat} {t : TypeId} {cs : Array Value} (h : W.heap[b]? = some (.cells cs t)) (hg : W.grownBy W' row) (hr : ∀ r, row = some r → ∃ o : Obj, W.heap[r]? = some o ∧ o.isCells = false) : W'.heap[b]? = some (.cells cs t) :=
  (hg.block b (Array.getElem?_eq_some_iff.1 h).1 (fun e => by obtain ⟨o, ho, hc⟩ := hr b e.symm; rw [h] at ho; cases ho; cases hc)).trans h
theorem owns_lower {w : World} {base base' : Nat} {e : TypeId} {size n : Nat} {v : Value} {xs : List Value} (h : w.ownsRow base e size v n xs) (hl : base' ≤ base) : w.ownsRow base' e size v n xs := by
  refine ⟨h.1, ?_⟩
  rcases h.2 with h0 | ⟨g, cap, cur, hv, hge, hrest⟩
  · exact .inl h0
  · exact .inr ⟨g, cap, cur, hv, Nat.le_trans hl hge, hrest⟩
def marks (ds : List Nat) : List Deferred := ds.map fun D => { target := .collected D, args := #[] }
/-- Leaving with any number of marks. -/
theorem leaves_marks {F : Fence} {n : Nat} {P : Program} {fn : Func} {tmps : Array Value} {R : Ending → World → Prop} {I : World → Prop} (hR : ∀ W, I W → LeavesInM F n P fn tmps R [] .returning W) :
    ∀ (ds : List Nat) (W : World), ds.Nodup → (∀ D ∈ ds, W.heap[D]? = some (.deferred (some []))) → (∀ D ∈ ds, ∀ W', I W' → W'.heap[D]? = some (.deferred (some [])) → I (W'.putObj D (.deferred none))) → I W → LeavesInM F n P fn tmps R (marks ds) .returning W
  | [], W, _, _, _, hI => hR W hI
  | D :: ds, W, hnd, hds, hst, hI => by
    rw [List.nodup_cons] at hnd
    refine ⟨by simp, .inl ⟨D, _, rfl, run_takeDeferred (hds D (by simp)), ?_⟩⟩
    refine leaves_marks hR ds _ hnd.2 (fun D' hD' => ?_) (fun D' hD' => hst D' (List.mem_cons_of_mem _ hD')) (hst D (by simp) W hI (hds D (by simp)))
    exact (World.putObj_heap_other (fun e => by subst e; exact hnd.1 hD')).trans (hds D' (List.mem_cons_of_mem _ hD'))

end Go.Proofs.YtndkcimajeofcaaGreatDoor

namespace Go.Proofs.YtndkcimajeofcaaGreatDoor
open Go.RowKit Go.Shelf

end Go.Proofs.YtndkcimajeofcaaGreatDoor
