import Derived.Test.YtndkcimajeofcaaGreatDoorG3a662f577c
import Derived.Test.YtndkcimajeofcaaGreatDoorGbb4f0f07ee
import Derived.Laws.EntriesVeiled
import Derived.Laws.MakeOwn
namespace Go.Proofs.YtndkcimajeofcaaGreatDoor
open Go.RowKit

theorem any_hit {α : Type} {f : α → Bool} {l : List α} {k : Nat} (hk : k < l.length) (h : f l[k] = true) : l.any f = true := List.any_eq_true.2 ⟨_, List.getElem_mem hk, h⟩
theorem any_miss {α : Type} {f : α → Bool} {l : List α} (h : ∀ j (hj : j < l.length), f l[j] = false) : l.any f = false := by
  rw [List.any_eq_false]
  intro x hx
  obtain ⟨j, hj, rfl⟩ := List.getElem_of_mem hx
  rw [h j hj]; simp
end Go.Proofs.YtndkcimajeofcaaGreatDoor

namespace Go.Proofs.YtndkcimajeofcaaGreatDoor
open Go.RowKit

def orF (x y : Int) : Int := if x = 0 then y else x
end Go.Proofs.YtndkcimajeofcaaGreatDoor

namespace Go.Proofs.YtndkcimajeofcaaGreatDoor
open Go.RowKit

end Go.Proofs.YtndkcimajeofcaaGreatDoor

namespace Go.Proofs.YtndkcimajeofcaaGreatDoor
open Go.RowKit

end Go.Proofs.YtndkcimajeofcaaGreatDoor

namespace Go.Proofs.YtndkcimajeofcaaGreatDoor
open Go.RowKit

theorem mem_els {p : Nat → Bool} {x : Nat} : ∀ {n e : Nat}, x ∈ els p n e ↔ e ≤ x ∧ x < e + n ∧ p x = true
  | 0, e => by rw [els]; simp; omega
  | n + 1, e => by
    rw [els]
    by_cases h : p e = true
    · rw [if_pos h, List.mem_cons, mem_els]
      constructor
      · rintro (rfl | ⟨h1, h2, h3⟩)
        · exact ⟨Nat.le_refl _, by omega, h⟩
        · exact ⟨by omega, by omega, h3⟩
      · rintro ⟨h1, h2, h3⟩
        by_cases hx : x = e
        · exact .inl hx
        · exact .inr ⟨by omega, by omega, h3⟩
    · rw [if_neg h, mem_els]
      constructor
      · rintro ⟨h1, h2, h3⟩
        exact ⟨by omega, by omega, h3⟩
      · rintro ⟨h1, h2, h3⟩
        have hx : x ≠ e := fun e' => h (e' ▸ h3)
        exact ⟨by omega, by omega, h3⟩
theorem mem_elsF {p : Nat → Bool} {x : Nat} : x ∈ elsF p 0 ↔ x < 256 ∧ p x = true := by
  rw [elsF, mem_els]; constructor
  · rintro ⟨_, h2, h3⟩; exact ⟨by omega, h3⟩
  · rintro ⟨h2, h3⟩; exact ⟨by omega, by omega, h3⟩
def PLt (p q : Int × Int) : Prop := p.1 < q.1 ∨ (p.1 = q.1 ∧ p.2 < q.2)
theorem PLt.tr (a b c : Int × Int) (h : PLt a b) (k : PLt b c) : PLt a c := by unfold PLt at *; omega
end Go.Proofs.YtndkcimajeofcaaGreatDoor

namespace Go.Proofs.YtndkcimajeofcaaGreatDoor
open Go.RowKit

/-- The four cells of a set. -/
def wcs (p : Nat → Bool) : List Value := [.int .u64 (wdp p 0 : Nat), .int .u64 (wdp p 1 : Nat), .int .u64 (wdp p 2 : Nat), .int .u64 (wdp p 3 : Nat)]
theorem SW.cs {p : Nat → Bool} {a b c d : Nat} (h : SW p a b c d) : wcs p = [.int .u64 (a : Nat), .int .u64 (b : Nat), .int .u64 (c : Nat), .int .u64 (d : Nat)] := by rw [wcs, h.a, h.b, h.c, h.d]
theorem wcs_ext {p q : Nat → Bool} (h : ∀ i, i < 256 → p i = q i) : wcs p = wcs q := by
  obtain ⟨a, b, c, d, hs⟩ := sw_of p
  rw [hs.cs, (hs.ext h).cs]
/-- n sets, one after another. -/
def setCells (f : Nat → Nat → Bool) (n : Nat) : List Value := (List.range n).flatMap fun x => wcs (f x)
theorem setCells_zero (f : Nat → Nat → Bool) : setCells f 0 = [] := rfl
theorem setCells_succ (f : Nat → Nat → Bool) (n : Nat) : setCells f (n + 1) = setCells f n ++ wcs (f n) := by
  rw [setCells, List.range_succ, List.flatMap_append]; simp [setCells]
theorem setCells_len (f : Nat → Nat → Bool) : ∀ n, (setCells f n).length = n * 4
  | 0 => rfl
  | n + 1 => by rw [setCells_succ, List.length_append, setCells_len f n]; simp [wcs]; omega
theorem setCells_at (f : Nat → Nat → Bool) {x k : Nat} (hk : k < 4) : ∀ {n : Nat}, x < n → (setCells f n)[x * 4 + k]? = (wcs (f x))[k]?
  | 0, h => absurd h (Nat.not_lt_zero _)
  | n + 1, h => by
    rw [setCells_succ]
    by_cases hx : x < n
    · rw [List.getElem?_append_left (by rw [setCells_len]; omega), setCells_at f hk hx]
    · have : x = n := by omega
      subst this
      rw [List.getElem?_append_right (by rw [setCells_len]; omega), setCells_len, show x * 4 + k - x * 4 = k by omega]
theorem setCells_ext {f g : Nat → Nat → Bool} : ∀ {n : Nat}, (∀ x, x < n → ∀ i, i < 256 → f x i = g x i) → setCells f n = setCells g n
  | 0, _ => by rw [setCells_zero, setCells_zero]
  | n + 1, h => by rw [setCells_succ, setCells_succ, setCells_ext fun x hx => h x (by omega), wcs_ext (h n (by omega))]
theorem setCells_none (n : Nat) : (setCells (fun _ _ => false) n).toArray = madeCells #[Value.int .u64 0, .int .u64 0, .int .u64 0, .int .u64 0] (n * 4) := by
  apply Array.ext_getElem?
  intro j
  by_cases hj : j < n * 4
  · have hk : j % 4 < 4 := Nat.mod_lt _ (by omega)
    have := setCells_at (fun _ _ => false) hk (show j / 4 < n by omega)
    rw [show j / 4 * 4 + j % 4 = j by omega, sw_none.cs] at this
    rw [List.getElem?_toArray, this, Array.getElem?_eq_getElem (by rw [size_madeCells]; exact hj)]
    have h4 : j % 4 = 0 ∨ j % 4 = 1 ∨ j % 4 = 2 ∨ j % 4 = 3 := by omega
    simp only [madeCells, Array.getElem_map, Array.getElem_range]
    rcases h4 with h4 | h4 | h4 | h4 <;> simp [h4]
  · have h1 : (setCells (fun _ _ => false) n).length = n * 4 := setCells_len _ n
    rw [Array.getElem?_eq_none (show _ ≤ j by simp only [List.size_toArray, h1]; omega), Array.getElem?_eq_none (show _ ≤ j by rw [size_madeCells]; omega)]
/-- The set at x changed. -/
def updF (f : Nat → Nat → Bool) (x : Nat) (q : Nat → Bool) : Nat → Nat → Bool := fun y => if y = x then q else f y
theorem setCells_upd (f : Nat → Nat → Bool) {n x : Nat} (_hx : x < n) {q : Nat → Bool} {a b c d : Nat} (hs : SW q a b c d) :
    (((((setCells f n).toArray.setIfInBounds (x * 4) (.int .u64 (a : Nat))).setIfInBounds (x * 4 + 1) (.int .u64 (b : Nat))).setIfInBounds (x * 4 + 2) (.int .u64 (c : Nat))).setIfInBounds (x * 4 + 3) (.int .u64 (d : Nat))) = (setCells (updF f x q) n).toArray := by
  apply Array.ext_getElem?
  intro j
  have hl : (setCells f n).length = n * 4 := setCells_len f n
  by_cases hj : j < n * 4
  · have hy : j / 4 < n := by omega
    have hk : j % 4 < 4 := Nat.mod_lt _ (by omega)
    have e2 : (setCells (updF f x q) n)[j]? = (wcs (updF f x q (j / 4)))[j % 4]? := by
      have := setCells_at (updF f x q) hk hy
      rwa [show j / 4 * 4 + j % 4 = j by omega] at this
    have e1 : (setCells f n)[j]? = (wcs (f (j / 4)))[j % 4]? := by
      have := setCells_at f hk hy
      rwa [show j / 4 * 4 + j % 4 = j by omega] at this
    simp only [Array.getElem?_setIfInBounds, List.getElem?_toArray, Array.size_setIfInBounds, List.size_toArray, hl]
    rw [e2]
    by_cases hxy : j / 4 = x
    · have hu : wcs (updF f x q (j / 4)) = [.int .u64 (a : Nat), .int .u64 (b : Nat), .int .u64 (c : Nat), .int .u64 (d : Nat)] := by rw [hxy, updF, if_pos rfl, hs.cs]
      rw [hu]
      have h4 : j % 4 = 0 ∨ j % 4 = 1 ∨ j % 4 = 2 ∨ j % 4 = 3 := by omega
      rcases h4 with h4 | h4 | h4 | h4
      · have : j = x * 4 := by omega
        rw [h4]; subst this
        rw [if_neg (by omega), if_neg (by omega), if_neg (by omega), if_pos rfl, if_pos (by omega)]; rfl
      · have : j = x * 4 + 1 := by omega
        rw [h4]; subst this
        rw [if_neg (by omega), if_neg (by omega), if_pos rfl, if_pos (by omega)]; rfl
      · have : j = x * 4 + 2 := by omega
        rw [h4]; subst this
        rw [if_neg (by omega), if_pos rfl, if_pos (by omega)]; rfl
      · have : j = x * 4 + 3 := by omega
        rw [h4]; subst this
        rw [if_pos rfl, if_pos (by omega)]; rfl
    · have hu : updF f x q (j / 4) = f (j / 4) := if_neg hxy
      rw [hu, if_neg (by omega), if_neg (by omega), if_neg (by omega), if_neg (by omega), e1]
  · have h1 : (setCells (updF f x q) n).length = n * 4 := setCells_len _ n
    rw [Array.getElem?_eq_none (show _ ≤ j by simp only [Array.size_setIfInBounds, List.size_toArray, hl]; omega), Array.getElem?_eq_none (show _ ≤ j by simp only [List.size_toArray, h1]; omega)]

/-- A row of sets of the call's own: the block g holds the n sets of f. -/
def MRow (w : World) (g n : Nat) (f : Nat → Nat → Bool) : Prop := w.heap[g]? = some (.cells (setCells f n).toArray 145)
theorem MRow.lt {w : World} {g n : Nat} {f : Nat → Nat → Bool} (h : MRow w g n f) : g < w.heap.size := (Array.getElem?_eq_some_iff.1 h).1
theorem MRow.later {w w' : World} {g n : Nat} {f : Nat → Nat → Bool} (h : MRow w g n f) (hb : Below w.heap.size w w') : MRow w' g n f := blk_lat h hb
theorem MRow.grown {w w' : World} {g n : Nat} {f : Nat → Nat → Bool} {row : Option Nat} (h : MRow w g n f) (hg : w.grownBy w' row) (hne : some g ≠ row) : MRow w' g n f := (hg.block g h.lt hne).trans h
theorem MRow.cell {w : World} {g n : Nat} {f : Nat → Nat → Bool} (h : MRow w g n f) {x : Nat} (hx : x < n) {a b c d : Nat} (hs : SW (f x) a b c d) :
    w.cell? ⟨g, x * 4, none⟩ = some (.int .u64 (a : Nat)) ∧ w.cell? ⟨g, x * 4 + 1, none⟩ = some (.int .u64 (b : Nat)) ∧ w.cell? ⟨g, x * 4 + 2, none⟩ = some (.int .u64 (c : Nat)) ∧ w.cell? ⟨g, x * 4 + 3, none⟩ = some (.int .u64 (d : Nat)) := by
  have hc : ∀ k (hk : k < 4), w.cell? ⟨g, x * 4 + k, none⟩ = ([.int .u64 (a : Nat), .int .u64 (b : Nat), .int .u64 (c : Nat), .int .u64 (d : Nat)] : List Value)[k]? := fun k hk => by
    rw [cell_of_blk h (x * 4 + k), List.getElem?_toArray, setCells_at f hk hx, hs.cs]
  exact ⟨hc 0 (by omega), hc 1 (by omega), hc 2 (by omega), hc 3 (by omega)⟩
theorem MRow.frozen {w : World} {g n : Nat} {f : Nat → Nat → Bool} (h : MRow w g n f) (k : Nat) : w.frozen? ⟨g, k, none⟩ = false := frozen_of_blk h k
theorem MRow.set {w : World} {g n : Nat} {f : Nat → Nat → Bool} (h : MRow w g n f) {x : Nat} (hx : x < n) {q : Nat → Bool} {a b c d : Nat} (hs : SW q a b c d) :
    MRow ((((w.setCell ⟨g, x * 4, none⟩ (.int .u64 (a : Nat))).setCell ⟨g, x * 4 + 1, none⟩ (.int .u64 (b : Nat))).setCell ⟨g, x * 4 + 2, none⟩ (.int .u64 (c : Nat))).setCell ⟨g, x * 4 + 3, none⟩ (.int .u64 (d : Nat))) g n (updF f x q) ∧
    w.grownBy ((((w.setCell ⟨g, x * 4, none⟩ (.int .u64 (a : Nat))).setCell ⟨g, x * 4 + 1, none⟩ (.int .u64 (b : Nat))).setCell ⟨g, x * 4 + 2, none⟩ (.int .u64 (c : Nat))).setCell ⟨g, x * 4 + 3, none⟩ (.int .u64 (d : Nat))) (some g) := by
  refine ⟨?_, grown_trans (grown_trans (grown_trans (grown_set w g _ _) (grown_set _ g _ _)) (grown_set _ g _ _)) (grown_set _ g _ _)⟩
  have := blk_set (blk_set (blk_set (blk_set h (x * 4) (.int .u64 (a : Nat))) (x * 4 + 1) (.int .u64 (b : Nat))) (x * 4 + 2) (.int .u64 (c : Nat))) (x * 4 + 3) (.int .u64 (d : Nat))
  rw [setCells_upd f hx hs] at this
  exact this
end Go.Proofs.YtndkcimajeofcaaGreatDoor

namespace Go.Proofs.YtndkcimajeofcaaGreatDoor
namespace TS
open Go.RowKit

/-- A row of sets of the call's own: the block g holds the n sets of f. -/
def MRow (w : World) (g n : Nat) (f : Nat → Nat → Bool) : Prop := w.heap[g]? = some (.cells (setCells f n).toArray 126)
theorem MRow.lt {w : World} {g n : Nat} {f : Nat → Nat → Bool} (h : MRow w g n f) : g < w.heap.size := (Array.getElem?_eq_some_iff.1 h).1
theorem MRow.later {w w' : World} {g n : Nat} {f : Nat → Nat → Bool} (h : MRow w g n f) (hb : Below w.heap.size w w') : MRow w' g n f := blk_lat h hb
theorem MRow.grown {w w' : World} {g n : Nat} {f : Nat → Nat → Bool} {row : Option Nat} (h : MRow w g n f) (hg : w.grownBy w' row) (hne : some g ≠ row) : MRow w' g n f := (hg.block g h.lt hne).trans h
theorem MRow.cell {w : World} {g n : Nat} {f : Nat → Nat → Bool} (h : MRow w g n f) {x : Nat} (hx : x < n) {a b c d : Nat} (hs : SW (f x) a b c d) :
    w.cell? ⟨g, x * 4, none⟩ = some (.int .u64 (a : Nat)) ∧ w.cell? ⟨g, x * 4 + 1, none⟩ = some (.int .u64 (b : Nat)) ∧ w.cell? ⟨g, x * 4 + 2, none⟩ = some (.int .u64 (c : Nat)) ∧ w.cell? ⟨g, x * 4 + 3, none⟩ = some (.int .u64 (d : Nat)) := by
  have hc : ∀ k (hk : k < 4), w.cell? ⟨g, x * 4 + k, none⟩ = ([.int .u64 (a : Nat), .int .u64 (b : Nat), .int .u64 (c : Nat), .int .u64 (d : Nat)] : List Value)[k]? := fun k hk => by
    rw [cell_of_blk h (x * 4 + k), List.getElem?_toArray, setCells_at f hk hx, hs.cs]
  exact ⟨hc 0 (by omega), hc 1 (by omega), hc 2 (by omega), hc 3 (by omega)⟩
theorem MRow.frozen {w : World} {g n : Nat} {f : Nat → Nat → Bool} (h : MRow w g n f) (k : Nat) : w.frozen? ⟨g, k, none⟩ = false := frozen_of_blk h k
theorem MRow.set {w : World} {g n : Nat} {f : Nat → Nat → Bool} (h : MRow w g n f) {x : Nat} (hx : x < n) {q : Nat → Bool} {a b c d : Nat} (hs : SW q a b c d) :
    MRow ((((w.setCell ⟨g, x * 4, none⟩ (.int .u64 (a : Nat))).setCell ⟨g, x * 4 + 1, none⟩ (.int .u64 (b : Nat))).setCell ⟨g, x * 4 + 2, none⟩ (.int .u64 (c : Nat))).setCell ⟨g, x * 4 + 3, none⟩ (.int .u64 (d : Nat))) g n (updF f x q) ∧
    w.grownBy ((((w.setCell ⟨g, x * 4, none⟩ (.int .u64 (a : Nat))).setCell ⟨g, x * 4 + 1, none⟩ (.int .u64 (b : Nat))).setCell ⟨g, x * 4 + 2, none⟩ (.int .u64 (c : Nat))).setCell ⟨g, x * 4 + 3, none⟩ (.int .u64 (d : Nat))) (some g) := by
  refine ⟨?_, grown_trans (grown_trans (grown_trans (grown_set w g _ _) (grown_set _ g _ _)) (grown_set _ g _ _)) (grown_set _ g _ _)⟩
  have := blk_set (blk_set (blk_set (blk_set h (x * 4) (.int .u64 (a : Nat))) (x * 4 + 1) (.int .u64 (b : Nat))) (x * 4 + 2) (.int .u64 (c : Nat))) (x * 4 + 3) (.int .u64 (d : Nat))
  rw [setCells_upd f hx hs] at this
  exact this
end TS
end Go.Proofs.YtndkcimajeofcaaGreatDoor

namespace Go.Proofs.YtndkcimajeofcaaGreatDoor
open Go.RowKit

set_option maxRecDepth 100000 in
set_option maxHeartbeats 2000000 in
/-- cmp.Or of two codes. -/
theorem orErr_any (g : Nat) (x y : Int) (w : World) (h0 : w.cell? ⟨g, 0, none⟩ = some (.int .i64 x)) (h1 : w.cell? ⟨g, 1, none⟩ = some (.int .i64 y)) :
    Calls Tryz.prog 71 #[.slice (some ⟨g, 0, none⟩) 2 2] w fun e w' => e = .returned (.int .i64 (orF x y)) ∧ w' = w := by
  unfold orF
  by_cases hx : x = 0
  · subst hx
    rw [if_pos rfl]
    rcases hy : (y != 0)
    · have hy0 : y = 0 := by simpa using hy
      subst hy0
      go_enter Tryz.func71, Tryz.ntmps71
      go_wp2_with fail
      go_loopw [8] (fun i wr => ((i = .int .i64 0) ∨ (i = .int .i64 1) ∨ (i = .int .i64 2)) ∧ wr = w) (fun i _ => 2 - (intOf i).toNat)
      case atStart => exact ⟨.inl rfl, rfl⟩
      case round =>
        obtain ⟨rfl | rfl | rfl, rfl⟩ := hrel
        · go_wp2_with fail
          go_roundw
          case rel => exact ⟨.inr (.inl rfl), by first | rfl | trivial⟩
          case measure => simp [intOf]
        · go_wp2_with fail
          go_roundw
          case rel => exact ⟨.inr (.inr rfl), by first | rfl | trivial⟩
          case measure => simp [intOf]
        · go_wp2
          go_ret
          exact ⟨rfl, rfl⟩
    · go_enter Tryz.func71, Tryz.ntmps71
      go_wp2_with fail
      go_loopw [8] (fun i wr => ((i = .int .i64 0) ∨ (i = .int .i64 1)) ∧ wr = w) (fun i _ => 2 - (intOf i).toNat)
      case atStart => exact ⟨.inl rfl, rfl⟩
      case round =>
        obtain ⟨rfl | rfl, rfl⟩ := hrel
        · go_wp2_with fail
          go_roundw
          case rel => exact ⟨.inr rfl, by first | rfl | trivial⟩
          case measure => simp [intOf]
        · go_wp2
          go_ret
          exact ⟨rfl, rfl⟩
  · rw [if_neg hx]
    have hx1 : (x != 0) = true := by simpa using hx
    go_enter Tryz.func71, Tryz.ntmps71
    go_wp2_with fail
    go_loopw [8] (fun i wr => i = .int .i64 0 ∧ wr = w) (fun i _ => 2 - (intOf i).toNat)
    case atStart => exact ⟨rfl, rfl⟩
    case round =>
      obtain ⟨rfl, rfl⟩ := hrel
      go_wp2
      go_ret
      exact ⟨rfl, rfl⟩

end Go.Proofs.YtndkcimajeofcaaGreatDoor
