import Derived.Test.YtndkcimajeofcaaGreatDoorG64b09b5543
import Derived.Deep.RegionHeldLaw
namespace Go
/-- AT A STEP OF A REGION THAT DRAWS: an append to a row of one's own, out of a slice that may be nil. -/
theorem step_append_row {P : Program} (w : World) {ops : Array Oper} {o : Oper} {a : Act} {K : Act → World → Prop} {Q : Exit → Act → World → Prop} {E : Prop} (hgd : o.guard = none) (s x : Operand) (t : TypeId)
    (ho : o.op = .call { callee := .builtin .append, args := #[s, x], argTypes := #[t, t] })
    (base : Nat) (e : TypeId) (i : TypeInfo) (z : Value) (size bytes : Nat) (ht : P.underlying t = some (.slice e)) (hi : P.info? e = some i) (hz : i.zero = some z)
    (hsize : i.size = size) (hby : i.bytes = bytes) (hzs : z.cells.size = size) (hsz : 0 < size)
    (v : Value) (n : Nat) (xs : List Value) (hs : a.eval s = v) (hown : w.ownsRow base e size v n xs)
    (B : Nat) (A : Option Addr) (m c : Nat) (news : List Value) (hx : a.eval x = .slice A m c) (hA : A = none → c = 0) (hr : Go.Proofs.YtndkcimajeofcaaGreatDoor.RowAt w B size A m news) (h1 : ∀ u ∈ news, u.oneCell' = true)
    (h63 : n + m ≤ maxLen) (hbytes : (n + m) * bytes ≤ 140737488355328) (hbase : base ≤ w.heap.size)
    (h : ∀ v' w', w'.ownsRow base e size v' (n + m) (xs ++ news) → w.grownBy w' v.ownBlock → (v'.ownBlock = v.ownBlock ∨ v'.ownBlock = some w.heap.size) → K (a.put o.dst v') w') :
    if Region.wanted o (yielded ops a.tmps) = true then Oper.wp P o a w K Q else E := by
  have hw : Region.wanted o (yielded ops a.tmps) = true := by simp [Region.wanted, hgd]
  rw [if_pos hw]
  unfold Oper.wp execOp
  cases A with
  | none =>
    have hm : m = 0 := by
      by_cases hm : m = 0
      · exact hm
      · obtain ⟨b, off, hA', _⟩ := hr.2 hm
        cases hA'
    subst hm
    have hc0 := hA rfl
    subst hc0
    have hn : news = [] := List.eq_nil_of_length_eq_zero (by rw [hr.1, Nat.zero_mul])
    subst hn
    have hrun := run_append_owned_none (P := P) (w := w) base t o.type e i size ht hi v n xs hown
    simp only [ho, resolve, invoke, builtin, Sem.run_bind, Sem.run_pure, Result.andThen_ok, List.map_toArray, List.map_cons, List.map_nil, hs, hx, hrun]
    exact h v w (by simpa using hown) (World.grownBy.refl w _) (.inl rfl)
  | some ad =>
    obtain ⟨v', w', hrun, h2, h3, _, h5⟩ := run_append_own_at (P := P) w base t o.type e i z size bytes ht hi hz hsize hby hzs hsz v n xs hown ad m c news hr.1 (by
      intro j u hj
      have hlt : j < m * size := by rw [← hr.1]; exact (List.getElem?_eq_some_iff.1 hj).1
      have hm : m ≠ 0 := fun e => by subst e; omega
      obtain ⟨b, off, hA', _, hc⟩ := hr.2 hm
      cases hA'
      have : ((⟨b, off, none⟩ : Addr).add j) = ⟨b, off + j, none⟩ := by unfold Addr.add; split <;> simp_all
      rw [this, hc j hlt]
      exact hj) h1 h63 hbytes hbase
    simp only [ho, resolve, invoke, builtin, Sem.run_bind, Sem.run_pure, Result.andThen_ok, List.map_toArray, List.map_cons, List.map_nil, hs, hx, hrun]
    exact h v' w' h2 h3 h5
end Go
namespace Go.Proofs.YtndkcimajeofcaaGreatDoor
open Go.RowKit

theorem sl_of_owns {w : World} {base : Nat} {v : Value} {l : List ByteArray} (h : w.ownsRow base 9 1 v l.length (l.map Value.string)) (hm : ∀ x ∈ l, x.size ≤ maxLen) : ∃ s : SL, v = .slice s.A s.l.length s.c ∧ s.l = l ∧ s.In w.heap.size w := by
  rcases h.2 with ⟨rfl, h0⟩ | ⟨g, cap, cur, rfl, hge, hheap, hlen, hcap, hsize, htake⟩
  · exact ⟨⟨none, 0, []⟩, rfl, (List.eq_nil_of_length_eq_zero h0).symm, ⟨Nat.le_refl _, by simp, fun _ => rfl, RowAt.nil _ _ _ _, by simp⟩⟩
  · refine ⟨⟨some ⟨g, 0, none⟩, cap, l⟩, rfl, rfl, ⟨hlen, hcap, (fun h => by cases h), ⟨by simp, fun _ => ⟨g, 0, rfl, (Array.getElem?_eq_some_iff.1 hheap).1, fun j hj => ?_⟩⟩, hm⟩⟩
    rw [cell_of_blk hheap, ← htake]
    simp only [List.getElem?_take, Array.getElem?_toList]
    rw [if_pos (by omega)]
    simp
theorem sl_in {w : World} {base : Nat} {s : SL} (h : w.ownsRow base 9 1 (.slice s.A s.l.length s.c) s.l.length (s.l.map Value.string)) (hm : ∀ x ∈ s.l, x.size ≤ maxLen) : s.In w.heap.size w := by
  obtain ⟨A, c, l'⟩ := s
  dsimp only at *
  obtain ⟨s, hv, hl, hin⟩ := sl_of_owns h hm
  obtain ⟨A', c', l''⟩ := s
  dsimp only at hv hl hin
  subst hl
  injection hv with h1 h2 h3
  subst h1 h3
  exact hin
/-- A []string of the call's own. -/
def OwnSL (base : Nat) (W : World) (s : SL) (l : List ByteArray) : Prop := W.ownsRow base 9 1 (.slice s.A s.l.length s.c) s.l.length (s.l.map Value.string) ∧ s.l = l
/-- COPIED NAMES: new rows, the same names. -/
def OwnNM (base : Nat) (W : World) (m n : NM) : Prop := OwnSL base W m.C n.C.l ∧ OwnSL base W m.R n.R.l ∧ OwnSL base W m.I n.I.l
theorem OwnNM.In {base B : Nat} {W w : World} {m n : NM} (h : OwnNM base W m n) (hn : n.In B w) : m.In W.heap.size W :=
  ⟨sl_in h.1.1 (by rw [h.1.2]; exact hn.1.2.2.2.2), sl_in h.2.1.1 (by rw [h.2.1.2]; exact hn.2.1.2.2.2.2), sl_in h.2.2.1 (by rw [h.2.2.2]; exact hn.2.2.2.2.2.2)⟩

end Go.Proofs.YtndkcimajeofcaaGreatDoor
namespace Go.Proofs.YtndkcimajeofcaaGreatDoor
open Go.RowKit

end Go.Proofs.YtndkcimajeofcaaGreatDoor
namespace Go.Proofs.YtndkcimajeofcaaGreatDoor
open Go.RowKit

/-- WHAT A CHANGE KEEPS: every block below lo; and in every block each cell that holds no int. An int stays an int. -/
structure Chg (lo : Nat) (w w' : World) : Prop where
  below : Below lo w w'
  same : ∀ (b : Nat) (cs : Array Value) (t : TypeId), w.heap[b]? = some (.cells cs t) → ∃ cs', w'.heap[b]? = some (.cells cs' t) ∧ ∀ i : Nat, cs'[i]? = cs[i]? ∨ ∃ x y, cs[i]? = some (.int .i64 x) ∧ cs'[i]? = some (.int .i64 y)

theorem Chg.refl (lo : Nat) (w : World) : Chg lo w w := ⟨Below.refl _ _, fun _ cs _ h => ⟨cs, h, fun _ => .inl rfl⟩⟩
theorem Chg.trans {lo : Nat} {a b c : World} (h : Chg lo a b) (k : Chg lo b c) : Chg lo a c := by
  refine ⟨h.below.trans k.below, fun g cs t hg => ?_⟩
  obtain ⟨cs1, h1, e1⟩ := h.same g cs t hg
  obtain ⟨cs2, h2, e2⟩ := k.same g cs1 t h1
  refine ⟨cs2, h2, fun i => ?_⟩
  rcases e1 i with p | ⟨x, y, p, q⟩
  · rcases e2 i with p' | ⟨x', y', p', q'⟩
    · exact .inl (p'.trans p)
    · exact .inr ⟨x', y', by rw [← p]; exact p', q'⟩
  · rcases e2 i with p' | ⟨x', y', p', q'⟩
    · exact .inr ⟨x, y, p, p'.trans q⟩
    · exact .inr ⟨x, y', p, q'⟩
theorem Chg.mono {lo lo' : Nat} {a b : World} (h : Chg lo a b) (hl : lo' ≤ lo) : Chg lo' a b := ⟨h.below.mono hl, h.same⟩
theorem Chg.drew {lo : Nat} {a b : World} (h : Chg lo a b) : Chg lo a b.drew := ⟨h.below.drew, h.same⟩
theorem Chg.set {lo b off : Nat} {w : World} {cs : Array Value} {t : TypeId} {x y : Int} (hl : lo ≤ b) (hb : w.heap[b]? = some (.cells cs t)) (hx : cs[off]? = some (.int .i64 x)) : Chg lo w (w.setCell ⟨b, off, none⟩ (.int .i64 y)) := by
  refine ⟨(Below.refl _ _).setCell (p := ⟨b, off, none⟩) hl _, fun g cs' t' hg => ?_⟩
  by_cases e : g = b
  · subst e
    rw [hb] at hg
    cases hg
    refine ⟨_, blk_set hb off _, fun i => ?_⟩
    by_cases ei : i = off
    · subst ei
      have hlt : i < cs.size := (Array.getElem?_eq_some_iff.1 hx).1
      exact .inr ⟨x, y, hx, by simp [hlt]⟩
    · exact .inl (by rw [Array.getElem?_setIfInBounds_ne (Ne.symm ei)])
  · exact ⟨cs', (Below.heap_setCell w ⟨b, off, none⟩ _ g e).trans hg, fun _ => .inl rfl⟩

mutual
/-- THE TREE'S SKELETON: its rows are the call's own (from lo on), each node with two ints and its Args as they are meant. -/
def Sk (lo : Nat) (w : World) : MT → Prop
  | .mk _ _ A c args => args.length ≤ c ∧ c ≤ 9223372036854775807 ∧ (args.length ≠ 0 → ∃ b off cs, A = some ⟨b, off, none⟩ ∧ lo ≤ b ∧ w.heap[b]? = some (.cells cs 33) ∧
      ∀ (k : Nat) (hk : k < args.length), (∃ x, cs[off + k * 3]? = some (.int .i64 x)) ∧ (∃ y, cs[off + k * 3 + 1]? = some (.int .i64 y)) ∧ cs[off + k * 3 + 2]? = some (.slice args[k].A args[k].args.length args[k].c)) ∧ Sks lo w args
def Sks (lo : Nat) (w : World) : List MT → Prop
  | [] => True
  | t :: ts => Sk lo w t ∧ Sks lo w ts
end
theorem Sks.at_ {lo : Nat} {w : World} : ∀ {ts : List MT}, Sks lo w ts → ∀ (k : Nat) (hk : k < ts.length), Sk lo w ts[k]
  | [], _, k, hk => absurd hk (Nat.not_lt_zero _)
  | t :: ts, h, k, hk => by
    rw [Sks] at h
    cases k with
    | zero => exact h.1
    | succ k => exact Sks.at_ h.2 k (by simpa using hk)
end Go.Proofs.YtndkcimajeofcaaGreatDoor
