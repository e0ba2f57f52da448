import Derived.Test.YtnkkpjgclekobaaDoorIChk
import Derived.Test.YtnkkpjgclekobaaDoorBAll
import Derived.Test.YtnkkpjgclekobaaDoorSW
import Derived.Laws.MakeOwn
namespace Go.Proofs.YtnkkpjgclekobaaDoor
open Go.RowKit

/-- Two lists in strictly increasing order with the same members are equal. -/
theorem asc_ext {α : Type} {lt : α → α → Prop} (irr : ∀ a, ¬ lt a a) (tr : ∀ a b c, lt a b → lt b c → lt a c) :
    ∀ {l1 l2 : List α}, l1.Pairwise lt → l2.Pairwise lt → (∀ x, x ∈ l1 ↔ x ∈ l2) → l1 = l2
  | [], [], _, _, _ => rfl
  | [], b :: l2, _, _, h => absurd ((h b).2 (by simp)) (by simp)
  | a :: l1, [], _, _, h => absurd ((h a).1 (by simp)) (by simp)
  | a :: l1, b :: l2, h1, h2, h => by
    rw [List.pairwise_cons] at h1 h2
    have hab : a = b := by
      rcases List.mem_cons.1 ((h a).1 (by simp)) with e | e
      · exact e
      · rcases List.mem_cons.1 ((h b).2 (by simp)) with e' | e'
        · exact e'.symm
        · exact absurd (tr _ _ _ (h1.1 _ e') (h2.1 _ e)) (irr _)
    subst hab
    rw [asc_ext irr tr h1.2 h2.2 fun x => ⟨fun hx => ?_, fun hx => ?_⟩]
    · rcases List.mem_cons.1 ((h x).1 (List.mem_cons_of_mem _ hx)) with e | e
      · subst e; exact absurd (h1.1 _ hx) (irr _)
      · exact e
    · rcases List.mem_cons.1 ((h x).2 (List.mem_cons_of_mem _ hx)) with e | e
      · subst e; exact absurd (h2.1 _ hx) (irr _)
      · exact e

theorem mem_els {p : Nat → Bool} {x : Nat} : ∀ {n e : Nat}, x ∈ els p n e ↔ e ≤ x ∧ x < e + n ∧ p x = true
  | 0, e => by rw [els]; simp; omega
  | n + 1, e => by
    rw [els]
    by_cases h : p e = true
    · rw [if_pos h, List.mem_cons, mem_els]
      constructor
      · rintro (rfl | ⟨h1, h2, h3⟩)
        · exact ⟨Nat.le_refl _, by omega, h⟩
        · exact ⟨by omega, by omega, h3⟩
      · rintro ⟨h1, h2, h3⟩
        by_cases hx : x = e
        · exact .inl hx
        · exact .inr ⟨by omega, by omega, h3⟩
    · rw [if_neg h, mem_els]
      constructor
      · rintro ⟨h1, h2, h3⟩
        exact ⟨by omega, by omega, h3⟩
      · rintro ⟨h1, h2, h3⟩
        have hx : x ≠ e := fun e' => h (e' ▸ h3)
        exact ⟨by omega, by omega, h3⟩
theorem mem_elsF {p : Nat → Bool} {x : Nat} : x ∈ elsF p 0 ↔ x < 256 ∧ p x = true := by
  rw [elsF, mem_els]; constructor
  · rintro ⟨_, h2, h3⟩; exact ⟨by omega, h3⟩
  · rintro ⟨h2, h3⟩; exact ⟨by omega, by omega, h3⟩
theorem asc_els {p : Nat → Bool} : ∀ {n e : Nat}, (els p n e).Pairwise (· < ·)
  | 0, e => by rw [els]; exact List.Pairwise.nil
  | n + 1, e => by
    rw [els]
    split
    · rw [List.pairwise_cons]
      refine ⟨fun y hy => ?_, asc_els⟩
      have := (mem_els.1 hy).1
      omega
    · exact asc_els
theorem asc_elsF {p : Nat → Bool} : (elsF p 0).Pairwise (· < ·) := asc_els
theorem elsF_ext {p q : Nat → Bool} (h : ∀ i, i < 256 → p i = q i) : elsF p 0 = elsF q 0 :=
  asc_ext (fun a => Nat.lt_irrefl a) (fun _ _ _ => Nat.lt_trans) asc_elsF asc_elsF fun x => by
    rw [mem_elsF, mem_elsF]
    constructor
    · rintro ⟨h1, h2⟩; exact ⟨h1, (h x h1) ▸ h2⟩
    · rintro ⟨h1, h2⟩; exact ⟨h1, (h x h1).symm ▸ h2⟩
theorem elsF_len (p : Nat → Bool) : (elsF p 0).length ≤ 256 := by
  have : ∀ n e, (els p n e).length ≤ n := by
    intro n
    induction n with
    | zero => intro e; rw [els]; simp
    | succ n ih => intro e; rw [els]; split <;> (have := ih (e + 1); simp; omega)
  exact this _ _

def PLt (p q : Int × Int) : Prop := p.1 < q.1 ∨ (p.1 = q.1 ∧ p.2 < q.2)
theorem PLt.irr (a : Int × Int) : ¬ PLt a a := by unfold PLt; omega
theorem PLt.tr (a b c : Int × Int) (h : PLt a b) (k : PLt b c) : PLt a c := by unfold PLt at *; omega
theorem ltP_iff {p q : Int × Int} : ltP p q = true ↔ PLt p q := by simp [ltP, PLt]
theorem asc_pair {α : Type} {lt : α → α → Bool} {R : α → α → Prop} (hR : ∀ a b, lt a b = true → R a b) (tr : ∀ a b c, R a b → R b c → R a c) : ∀ {l : List α}, ascG lt l = true → l.Pairwise R
  | [], _ => List.Pairwise.nil
  | [x], _ => by simp
  | x :: y :: r, h => by
    rw [ascG, Bool.and_eq_true] at h
    have ih : (y :: r).Pairwise R := asc_pair hR tr h.2
    rw [List.pairwise_cons]
    refine ⟨fun z hz => ?_, ih⟩
    rcases List.mem_cons.1 hz with rfl | hz
    · exact hR _ _ h.1
    · exact tr _ _ _ (hR _ _ h.1) ((List.pairwise_cons.1 ih).1 z hz)

/-- A valid list of pairs: its members are pairs of elements, and it ascends. -/
theorem okP_facts {n : Int} {s : PL} (h : okP n s = true) : (∀ p ∈ s.l, 0 ≤ p.1 ∧ p.1 < n ∧ 0 ≤ p.2 ∧ p.2 < n) ∧ s.l.Pairwise PLt := by
  rw [okP, Bool.and_eq_true, Bool.not_eq_true', List.any_eq_false] at h
  refine ⟨fun p hp => ?_, asc_pair (fun a b h => ltP_iff.1 h) PLt.tr h.2⟩
  have := h.1 p hp
  simp [forP, foreignB] at this
  omega
theorem okI_facts {n : Int} {s : IL} (h : okI n s = true) : (∀ x ∈ s.l, 0 ≤ x ∧ x < n) ∧ s.l.Pairwise (· < ·) := by
  rw [okI, Bool.and_eq_true, Bool.not_eq_true', List.any_eq_false] at h
  refine ⟨fun p hp => ?_, asc_pair (fun a b h => by simpa [ltI] using h) (fun a b c h k => by omega) h.2⟩
  have := h.1 p hp
  simp [foreignB] at this
  omega

/-- The pairs that the program lists: x in order, and for each x the numbers of its set. -/
def fanP (f : Nat → Nat → Bool) (x : Nat) : List (Int × Int) := (elsF (f x) 0).map fun y : Nat => ((x : Int), (y : Int))
def progP (n : Nat) (f : Nat → Nat → Bool) : List (Int × Int) := (List.range n).flatMap (fanP f)
/-- The pairs of the inverse, as the reference lists them. -/
def refP (n : Nat) (l : List (Int × Int)) : List (Int × Int) := (List.range n).flatMap fun x : Nat => (l.filter fun p => p.2 == (x : Int)).map fun p => ((x : Int), p.1)
theorem mem_progP {n : Nat} {f : Nat → Nat → Bool} {q : Int × Int} : q ∈ progP n f ↔ ∃ x y : Nat, x < n ∧ y < 256 ∧ f x y = true ∧ q = ((x : Int), (y : Int)) := by
  simp only [progP, fanP, List.mem_flatMap, List.mem_range, List.mem_map, mem_elsF]
  constructor
  · rintro ⟨x, hx, y, ⟨hy, hf⟩, rfl⟩; exact ⟨x, y, hx, hy, hf, rfl⟩
  · rintro ⟨x, y, hx, hy, hf, rfl⟩; exact ⟨x, hx, y, ⟨hy, hf⟩, rfl⟩
theorem asc_progP {n : Nat} {f : Nat → Nat → Bool} : (progP n f).Pairwise PLt := by
  rw [progP, List.pairwise_flatMap]
  refine ⟨fun x _ => ?_, ?_⟩
  · rw [fanP, List.pairwise_map]
    exact asc_elsF.imp fun h => .inr ⟨rfl, by simpa using h⟩
  · refine List.pairwise_lt_range.imp fun {a b} h p hp q hq => ?_
    simp only [fanP, List.mem_map] at hp hq
    obtain ⟨y, -, rfl⟩ := hp
    obtain ⟨z, -, rfl⟩ := hq
    exact .inl (by simpa using h)
theorem progP_fwd {n : Nat} {s : PL} (h : okP n s = true) (hn : n ≤ 256) : progP n (fun x y => s.l.contains ((x : Int), (y : Int))) = s.l := by
  obtain ⟨h1, h2⟩ := okP_facts h
  refine asc_ext PLt.irr PLt.tr asc_progP h2 fun q => ?_
  rw [mem_progP]
  constructor
  · rintro ⟨x, y, hx, hy, hf, rfl⟩
    simpa using hf
  · intro hq
    obtain ⟨a, b⟩ := q
    have := h1 _ hq
    dsimp only at this
    refine ⟨a.toNat, b.toNat, by omega, by omega, ?_, by simp; omega⟩
    rw [show ((a.toNat : Nat) : Int) = a by omega, show ((b.toNat : Nat) : Int) = b by omega]
    simpa using hq
theorem progP_back {n : Nat} {s : PL} (h : okP n s = true) (hn : n ≤ 256) : progP n (fun x y => s.l.contains ((y : Int), (x : Int))) = refP n s.l := by
  obtain ⟨h1, h2⟩ := okP_facts h
  refine asc_ext PLt.irr PLt.tr asc_progP ?_ fun q => ?_
  · rw [refP, List.pairwise_flatMap]
    refine ⟨fun x _ => ?_, ?_⟩
    · rw [List.pairwise_map]
      refine (List.Pairwise.and_mem.1 (h2.filter _)).imp fun {p q} hpq => ?_
      obtain ⟨hp, hq, hlt⟩ := hpq
      have e1 := (List.mem_filter.1 hp).2
      have e2 := (List.mem_filter.1 hq).2
      simp only [beq_iff_eq] at e1 e2
      unfold PLt at hlt ⊢
      dsimp only
      omega
    · refine List.pairwise_lt_range.imp fun {a b} h p hp q hq => ?_
      simp only [List.mem_map] at hp hq
      obtain ⟨y, -, rfl⟩ := hp
      obtain ⟨z, -, rfl⟩ := hq
      exact .inl (by simpa using h)
  · rw [mem_progP, refP]
    simp only [List.mem_flatMap, List.mem_range, List.mem_map, List.mem_filter, beq_iff_eq]
    constructor
    · rintro ⟨x, y, hx, hy, hf, rfl⟩
      exact ⟨x, hx, ((y : Int), (x : Int)), ⟨by simpa using hf, rfl⟩, rfl⟩
    · rintro ⟨x, hx, ⟨a, b⟩, ⟨hm, hb⟩, rfl⟩
      have := h1 _ hm
      dsimp only at this hb ⊢
      subst hb
      refine ⟨x, a.toNat, hx, by omega, ?_, by simp; omega⟩
      rw [show ((a.toNat : Nat) : Int) = a by omega]
      simpa using hm
end Go.Proofs.YtnkkpjgclekobaaDoor

namespace Go.Proofs.YtnkkpjgclekobaaDoor
open Go.RowKit

/-- The four cells of a set. -/
def wcs (p : Nat → Bool) : List Value := [.int .u64 (wdp p 0 : Nat), .int .u64 (wdp p 1 : Nat), .int .u64 (wdp p 2 : Nat), .int .u64 (wdp p 3 : Nat)]
theorem SW.cs {p : Nat → Bool} {a b c d : Nat} (h : SW p a b c d) : wcs p = [.int .u64 (a : Nat), .int .u64 (b : Nat), .int .u64 (c : Nat), .int .u64 (d : Nat)] := by rw [wcs, h.a, h.b, h.c, h.d]
theorem wcs_ext {p q : Nat → Bool} (h : ∀ i, i < 256 → p i = q i) : wcs p = wcs q := by
  obtain ⟨a, b, c, d, hs⟩ := sw_of p
  rw [hs.cs, (hs.ext h).cs]
/-- n sets, one after another. -/
def setCells (f : Nat → Nat → Bool) (n : Nat) : List Value := (List.range n).flatMap fun x => wcs (f x)
theorem setCells_zero (f : Nat → Nat → Bool) : setCells f 0 = [] := rfl
theorem setCells_succ (f : Nat → Nat → Bool) (n : Nat) : setCells f (n + 1) = setCells f n ++ wcs (f n) := by
  rw [setCells, List.range_succ, List.flatMap_append]; simp [setCells]
theorem setCells_len (f : Nat → Nat → Bool) : ∀ n, (setCells f n).length = n * 4
  | 0 => rfl
  | n + 1 => by rw [setCells_succ, List.length_append, setCells_len f n]; simp [wcs]; omega
theorem setCells_at (f : Nat → Nat → Bool) {x k : Nat} (hk : k < 4) : ∀ {n : Nat}, x < n → (setCells f n)[x * 4 + k]? = (wcs (f x))[k]?
  | 0, h => absurd h (Nat.not_lt_zero _)
  | n + 1, h => by
    rw [setCells_succ]
    by_cases hx : x < n
    · rw [List.getElem?_append_left (by rw [setCells_len]; omega), setCells_at f hk hx]
    · have : x = n := by omega
      subst this
      rw [List.getElem?_append_right (by rw [setCells_len]; omega), setCells_len, show x * 4 + k - x * 4 = k by omega]
theorem setCells_ext {f g : Nat → Nat → Bool} : ∀ {n : Nat}, (∀ x, x < n → ∀ i, i < 256 → f x i = g x i) → setCells f n = setCells g n
  | 0, _ => by rw [setCells_zero, setCells_zero]
  | n + 1, h => by rw [setCells_succ, setCells_succ, setCells_ext fun x hx => h x (by omega), wcs_ext (h n (by omega))]
theorem setCells_none (n : Nat) : (setCells (fun _ _ => false) n).toArray = madeCells #[Value.int .u64 0, .int .u64 0, .int .u64 0, .int .u64 0] (n * 4) := by
  apply Array.ext_getElem?
  intro j
  by_cases hj : j < n * 4
  · have hk : j % 4 < 4 := Nat.mod_lt _ (by omega)
    have := setCells_at (fun _ _ => false) hk (show j / 4 < n by omega)
    rw [show j / 4 * 4 + j % 4 = j by omega, sw_none.cs] at this
    rw [List.getElem?_toArray, this, Array.getElem?_eq_getElem (by rw [size_madeCells]; exact hj)]
    have h4 : j % 4 = 0 ∨ j % 4 = 1 ∨ j % 4 = 2 ∨ j % 4 = 3 := by omega
    simp only [madeCells, Array.getElem_map, Array.getElem_range]
    rcases h4 with h4 | h4 | h4 | h4 <;> simp [h4]
  · have h1 : (setCells (fun _ _ => false) n).length = n * 4 := setCells_len _ n
    rw [Array.getElem?_eq_none (show _ ≤ j by simp only [List.size_toArray, h1]; omega), Array.getElem?_eq_none (show _ ≤ j by rw [size_madeCells]; omega)]
/-- The set at x changed. -/
def updF (f : Nat → Nat → Bool) (x : Nat) (q : Nat → Bool) : Nat → Nat → Bool := fun y => if y = x then q else f y
theorem setCells_upd (f : Nat → Nat → Bool) {n x : Nat} (hx : x < n) {q : Nat → Bool} {a b c d : Nat} (hs : SW q a b c d) :
    (((((setCells f n).toArray.setIfInBounds (x * 4) (.int .u64 (a : Nat))).setIfInBounds (x * 4 + 1) (.int .u64 (b : Nat))).setIfInBounds (x * 4 + 2) (.int .u64 (c : Nat))).setIfInBounds (x * 4 + 3) (.int .u64 (d : Nat))) = (setCells (updF f x q) n).toArray := by
  apply Array.ext_getElem?
  intro j
  have hl : (setCells f n).length = n * 4 := setCells_len f n
  by_cases hj : j < n * 4
  · have hy : j / 4 < n := by omega
    have hk : j % 4 < 4 := Nat.mod_lt _ (by omega)
    have e2 : (setCells (updF f x q) n)[j]? = (wcs (updF f x q (j / 4)))[j % 4]? := by
      have := setCells_at (updF f x q) hk hy
      rwa [show j / 4 * 4 + j % 4 = j by omega] at this
    have e1 : (setCells f n)[j]? = (wcs (f (j / 4)))[j % 4]? := by
      have := setCells_at f hk hy
      rwa [show j / 4 * 4 + j % 4 = j by omega] at this
    simp only [Array.getElem?_setIfInBounds, List.getElem?_toArray, Array.size_setIfInBounds, List.size_toArray, hl]
    rw [e2]
    by_cases hxy : j / 4 = x
    · have hu : wcs (updF f x q (j / 4)) = [.int .u64 (a : Nat), .int .u64 (b : Nat), .int .u64 (c : Nat), .int .u64 (d : Nat)] := by rw [hxy, updF, if_pos rfl, hs.cs]
      rw [hu]
      have h4 : j % 4 = 0 ∨ j % 4 = 1 ∨ j % 4 = 2 ∨ j % 4 = 3 := by omega
      rcases h4 with h4 | h4 | h4 | h4
      · have : j = x * 4 := by omega
        rw [h4]; subst this
        rw [if_neg (by omega), if_neg (by omega), if_neg (by omega), if_pos rfl, if_pos (by omega)]; rfl
      · have : j = x * 4 + 1 := by omega
        rw [h4]; subst this
        rw [if_neg (by omega), if_neg (by omega), if_pos rfl, if_pos (by omega)]; rfl
      · have : j = x * 4 + 2 := by omega
        rw [h4]; subst this
        rw [if_neg (by omega), if_pos rfl, if_pos (by omega)]; rfl
      · have : j = x * 4 + 3 := by omega
        rw [h4]; subst this
        rw [if_pos rfl, if_pos (by omega)]; rfl
    · have hu : updF f x q (j / 4) = f (j / 4) := if_neg hxy
      rw [hu, if_neg (by omega), if_neg (by omega), if_neg (by omega), if_neg (by omega), e1]
  · have h1 : (setCells (updF f x q) n).length = n * 4 := setCells_len _ n
    rw [Array.getElem?_eq_none (show _ ≤ j by simp only [Array.size_setIfInBounds, List.size_toArray, hl]; omega), Array.getElem?_eq_none (show _ ≤ j by simp only [List.size_toArray, h1]; omega)]

/-- A row of sets of the call's own: the block g holds the n sets of f. -/
def MRow (w : World) (g n : Nat) (f : Nat → Nat → Bool) : Prop := w.heap[g]? = some (.cells (setCells f n).toArray 111)
theorem MRow.lt {w : World} {g n : Nat} {f : Nat → Nat → Bool} (h : MRow w g n f) : g < w.heap.size := (Array.getElem?_eq_some_iff.1 h).1
theorem MRow.later {w w' : World} {g n : Nat} {f : Nat → Nat → Bool} (h : MRow w g n f) (hb : Below w.heap.size w w') : MRow w' g n f := blk_lat h hb
theorem MRow.grown {w w' : World} {g n : Nat} {f : Nat → Nat → Bool} {row : Option Nat} (h : MRow w g n f) (hg : w.grownBy w' row) (hne : some g ≠ row) : MRow w' g n f := (hg.block g h.lt hne).trans h
theorem MRow.cell {w : World} {g n : Nat} {f : Nat → Nat → Bool} (h : MRow w g n f) {x : Nat} (hx : x < n) {a b c d : Nat} (hs : SW (f x) a b c d) :
    w.cell? ⟨g, x * 4, none⟩ = some (.int .u64 (a : Nat)) ∧ w.cell? ⟨g, x * 4 + 1, none⟩ = some (.int .u64 (b : Nat)) ∧ w.cell? ⟨g, x * 4 + 2, none⟩ = some (.int .u64 (c : Nat)) ∧ w.cell? ⟨g, x * 4 + 3, none⟩ = some (.int .u64 (d : Nat)) := by
  have hc : ∀ k (hk : k < 4), w.cell? ⟨g, x * 4 + k, none⟩ = ([.int .u64 (a : Nat), .int .u64 (b : Nat), .int .u64 (c : Nat), .int .u64 (d : Nat)] : List Value)[k]? := fun k hk => by
    rw [cell_of_blk h (x * 4 + k), List.getElem?_toArray, setCells_at f hk hx, hs.cs]
  exact ⟨hc 0 (by omega), hc 1 (by omega), hc 2 (by omega), hc 3 (by omega)⟩
theorem MRow.frozen {w : World} {g n : Nat} {f : Nat → Nat → Bool} (h : MRow w g n f) (k : Nat) : w.frozen? ⟨g, k, none⟩ = false := frozen_of_blk h k
theorem MRow.set {w : World} {g n : Nat} {f : Nat → Nat → Bool} (h : MRow w g n f) {x : Nat} (hx : x < n) {q : Nat → Bool} {a b c d : Nat} (hs : SW q a b c d) :
    MRow ((((w.setCell ⟨g, x * 4, none⟩ (.int .u64 (a : Nat))).setCell ⟨g, x * 4 + 1, none⟩ (.int .u64 (b : Nat))).setCell ⟨g, x * 4 + 2, none⟩ (.int .u64 (c : Nat))).setCell ⟨g, x * 4 + 3, none⟩ (.int .u64 (d : Nat))) g n (updF f x q) ∧
    w.grownBy ((((w.setCell ⟨g, x * 4, none⟩ (.int .u64 (a : Nat))).setCell ⟨g, x * 4 + 1, none⟩ (.int .u64 (b : Nat))).setCell ⟨g, x * 4 + 2, none⟩ (.int .u64 (c : Nat))).setCell ⟨g, x * 4 + 3, none⟩ (.int .u64 (d : Nat))) (some g) := by
  refine ⟨?_, grown_trans (grown_trans (grown_trans (grown_set w g _ _) (grown_set _ g _ _)) (grown_set _ g _ _)) (grown_set _ g _ _)⟩
  have := blk_set (blk_set (blk_set (blk_set h (x * 4) (.int .u64 (a : Nat))) (x * 4 + 1) (.int .u64 (b : Nat))) (x * 4 + 2) (.int .u64 (c : Nat))) (x * 4 + 3) (.int .u64 (d : Nat))
  rw [setCells_upd f hx hs] at this
  exact this
end Go.Proofs.YtnkkpjgclekobaaDoor
