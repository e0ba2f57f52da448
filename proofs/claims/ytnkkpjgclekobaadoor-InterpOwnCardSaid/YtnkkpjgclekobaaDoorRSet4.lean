import Derived.Test.YtnkkpjgclekobaaDoorRSet
import Derived.Test.YtnkkpjgclekobaaDoorEnds7
namespace Go.Proofs.YtnkkpjgclekobaaDoor
open Go.RowKit

theorem two_of_len {α : Type} : ∀ {l : List α}, l.length = 2 → ∃ a b, l = [a, b]
  | [a, b], _ => ⟨a, b, rfl⟩
theorem lists_okI {i : IN} {m k : Nat} (hm : i.size = m) (hl : listsB i = true) (hk : k < i.C.length) : okI m i.C[k] = true := by
  rw [listsB, Bool.and_eq_true, Bool.and_eq_true, List.all_eq_true, List.all_eq_true] at hl
  rw [← hm]; exact hl.1 _ (List.getElem_mem hk)
theorem lists_okP {i : IN} {m k : Nat} (hm : i.size = m) (hl : listsB i = true) (hk : k < i.R.length) : okP m i.R[k] = true := by
  rw [listsB, Bool.and_eq_true, Bool.and_eq_true, List.all_eq_true, List.all_eq_true] at hl
  rw [← hm]; exact hl.2.1 _ (List.getElem_mem hk)
theorem endsF_even {i : IN} {k r : Nat} (hk : r = 2 * k + 0) (hkl : k < i.R.length) (x : Nat) : endsF i r x = fun y : Nat => (i.R[k].l).contains ((x : Int), (y : Int)) := by
  funext y
  rw [endsF, hk, show (2 * k + 0) / 2 = k by omega, List.getElem?_eq_getElem hkl]; simp
theorem endsF_odd {i : IN} {k r : Nat} (hk : r = 2 * k + 1) (hkl : k < i.R.length) (x : Nat) : endsF i r x = fun y : Nat => (i.R[k].l).contains ((y : Int), (x : Int)) := by
  funext y
  rw [endsF, hk, show (2 * k + 1) / 2 = k by omega, List.getElem?_eq_getElem hkl]; simp

/-- An element of a concept is an element. -/
theorem semT_lt (i : IN) (m : Nat) (hm : i.size = m) (hl : listsB i = true) (T : MT) : T.tr.wfT i.C.length i.R.length = true → ∀ x, semT i m T.tr x = true → x < m := by
  induction T using MT.induct with
  | h op nn A c args ih =>
    intro hwf x hx
    rw [MT.tr_mk, Tr.wfT, Bool.and_eq_true, List.length_map] at hwf
    obtain ⟨hnode, hargs⟩ := hwf
    simp only [wfB, Bool.and_eq_true, decide_eq_true_eq, beq_iff_eq] at hnode
    obtain ⟨h0, h8, hlen, hn0, hn1⟩ := hnode
    have hsem : semT i m (MT.mk op nn A c args).tr = comb i m op nn (args.map fun t => semT i m t.tr) := by
      rw [MT.tr_mk, semT, semL_map, List.map_map]; rfl
    rw [hsem] at hx
    have hop : op = 0 ∨ op = 1 ∨ op = 2 ∨ op = 3 ∨ op = 4 ∨ op = 5 ∨ op = 6 ∨ op = 7 := by omega
    rcases hop with rfl | rfl | rfl | rfl | rfl | rfl | rfl | rfl
    · have hk : nn.toNat < i.C.length := by simp [choicesF] at hn1; omega
      have hok := (okI_facts (lists_okI hm hl hk)).1
      simp only [comb, if_true] at hx
      rw [namesF, List.getElem?_eq_getElem hk] at hx
      have := hok _ (List.contains_iff_mem.1 hx)
      omega
    · simp [comb] at hx; exact hx
    · simp [comb] at hx
    · simp [comb] at hx; exact hx.1
    · have hl2 : 1 < args.length := by simp [arityF] at hlen; omega
      have he : comb i m 4 nn (args.map fun t => semT i m t.tr) = fun x => (semT i m args[0].tr) x && (semT i m args[1].tr) x := by
        simp only [comb, headD_at (show 0 < (args.map fun t => semT i m t.tr).length by rw [List.length_map]; omega), head1_at (show 1 < (args.map fun t => semT i m t.tr).length by rw [List.length_map]; exact hl2), List.getElem_map]; rfl
      rw [he] at hx
      simp only [Bool.and_eq_true] at hx
      exact ih 0 (by omega) (wfTs_at hargs 0 (by omega)) x hx.1
    · have hl2 : 1 < args.length := by simp [arityF] at hlen; omega
      have he : comb i m 5 nn (args.map fun t => semT i m t.tr) = fun x => (semT i m args[0].tr) x || (semT i m args[1].tr) x := by
        simp only [comb, headD_at (show 0 < (args.map fun t => semT i m t.tr).length by rw [List.length_map]; omega), head1_at (show 1 < (args.map fun t => semT i m t.tr).length by rw [List.length_map]; exact hl2), List.getElem_map]; rfl
      rw [he] at hx
      simp only [Bool.or_eq_true] at hx
      exact hx.elim (ih 0 (by omega) (wfTs_at hargs 0 (by omega)) x) (ih 1 hl2 (wfTs_at hargs 1 hl2) x)
    · simp [comb] at hx; exact hx.1
    · simp [comb] at hx; exact hx.1

end Go.Proofs.YtnkkpjgclekobaaDoor

namespace Go.Proofs.YtnkkpjgclekobaaDoor
open Go.RowKit

/-- The elements below j, in order. -/
def selR (p : Nat → Bool) (j : Nat) : List Int := ((List.range j).filter p).map fun y : Nat => (y : Int)
theorem selR_next (p : Nat → Bool) (j : Nat) : selR p (j + 1) = selR p j ++ (if p j then [(j : Int)] else []) := by
  unfold selR
  rw [List.range_succ, List.filter_append, List.map_append]
  cases h : p j <;> simp [h]
theorem selR_len (p : Nat → Bool) (j : Nat) : (selR p j).length ≤ j := by
  unfold selR
  rw [List.length_map]
  exact Nat.le_trans (List.length_filter_le _ _) (by simp)
/-- The program's list is the reference's. -/
theorem selR_els {p : Nat → Bool} {m : Nat} (h256 : m ≤ 256) (hp : ∀ x, p x = true → x < m) : (elsF p 0).map (fun y : Nat => (y : Int)) = selR p m := by
  unfold selR
  congr 1
  exact asc_ext (lt := (· < ·)) (fun a => Nat.lt_irrefl a) (fun a b c => Nat.lt_trans) asc_elsF (List.pairwise_lt_range.filter _) (fun x => by
    rw [mem_elsF, List.mem_filter, List.mem_range]
    exact ⟨fun h => ⟨hp x h.2, h.2⟩, fun h => ⟨by omega, h.2⟩⟩)
def RetI (l : List Int) (w : World) (e : Ending) (w' : World) : Prop := ∃ s : IL, e = .returned (.slice s.A s.l.length s.c) ∧ s.l = l ∧ s.In w'.heap.size w' ∧ Below w.heap.size w w'

end Go.Proofs.YtnkkpjgclekobaaDoor

namespace Go.Proofs.YtnkkpjgclekobaaDoor
open Go.RowKit

theorem subB_no {p q : Nat → Bool} {x : Nat} (hx : x < 256) (hp : p x = true) (hq : q x = false) : subB p q = false := by
  rw [subB, List.all_eq_false]
  exact ⟨x, List.mem_range.2 hx, by simp [hp, hq]⟩
theorem subB_yes {p q : Nat → Bool} (h : ∀ x, p x = true → q x = true) : subB p q = true := by
  rw [subB, List.all_eq_true]
  intro x _
  cases hp : p x
  · rfl
  · rw [h x hp]; rfl

end Go.Proofs.YtnkkpjgclekobaaDoor
