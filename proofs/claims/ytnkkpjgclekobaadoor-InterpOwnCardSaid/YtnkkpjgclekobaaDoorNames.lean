import Derived.Test.YtnkkpjgclekobaaDoorSize
import Derived.Test.YtnkkpjgclekobaaDoorShelf
import Derived.Lib.AppendZeros
import Derived.Laws.AppendOwnNone
namespace Go.Proofs.YtnkkpjgclekobaaDoor
open Go.RowKit

/-- append onto a row of the call's own, out of a slice that may be nil. -/
theorem append_row {P : Program} (w : World) {ops : Array Oper} {rest : List Oper} {o : Oper} {a : Act} {Q : Exit → Act → World → Prop} (hgd : o.guard = none) (s x : Operand) (t : TypeId)
    (ho : o.op = .call { callee := .builtin .append, args := #[s, x], argTypes := #[t, t] })
    (base : Nat) (e : TypeId) (i : TypeInfo) (z : Value) (size bytes : Nat) (ht : P.underlying t = some (.slice e)) (hi : P.info? e = some i) (hz : i.zero = some z)
    (hsize : i.size = size) (hby : i.bytes = bytes) (hzs : z.cells.size = size) (hsz : 0 < size)
    (v : Value) (n : Nat) (xs : List Value) (hs : a.eval s = v) (hown : w.ownsRow base e size v n xs)
    (B : Nat) (A : Option Addr) (m c : Nat) (news : List Value) (hx : a.eval x = .slice A m c) (hA : A = none → c = 0) (hr : RowAt w B size A m news) (h1 : ∀ u ∈ news, u.oneCell' = true)
    (h63 : n + m ≤ maxLen) (hbytes : (n + m) * bytes ≤ 140737488355328) (hbase : base ≤ w.heap.size)
    (h : ∀ v' w', w'.ownsRow base e size v' (n + m) (xs ++ news) → w.grownBy w' v.ownBlock → (v'.ownBlock = v.ownBlock ∨ v'.ownBlock = some w.heap.size) → wpList P ops Q rest (a.put o.dst v') w') :
    wpList P ops Q (o :: rest) a w := by
  cases A with
  | none =>
    have hm : m = 0 := by
      by_cases hm : m = 0
      · exact hm
      · obtain ⟨b, off, hA', _⟩ := hr.2 hm
        cases hA'
    subst hm
    have hc0 := hA rfl
    subst hc0
    have hn : news = [] := List.eq_nil_of_length_eq_zero (by rw [hr.1, Nat.zero_mul])
    subst hn
    refine wpList_append_own_none hgd s x t ho base e i size ht hi v n xs hs hown hx ?_
    have := h v w (by simpa using hown) (World.grownBy.refl w _) (.inl rfl)
    exact this
  | some ad =>
    refine wpList_append_own_at (w := w) hgd s x t ho base e i z size bytes ht hi hz hsize hby hzs hsz v n xs hs hown ad m c news hx hr.1 ?_ h1 h63 hbytes hbase (fun v' w' h2 h3 _ h5 => h v' w' h2 h3 h5)
    intro j u hj
    have hlt : j < m * size := by rw [← hr.1]; exact (List.getElem?_eq_some_iff.1 hj).1
    have hm : m ≠ 0 := fun e => by subst e; omega
    obtain ⟨b, off, hA', _, hc⟩ := hr.2 hm
    cases hA'
    have : ((⟨b, off, none⟩ : Addr).add j) = ⟨b, off + j, none⟩ := by unfold Addr.add; split <;> simp_all
    rw [this, hc j hlt]
    exact hj

/-- A []string, as it lies. -/
structure SL where
  A : Option Addr
  c : Nat
  l : List ByteArray
def SL.val (s : SL) : Value := .slice s.A s.l.length s.c
def SL.In (B : Nat) (w : World) (s : SL) : Prop :=
  s.l.length ≤ s.c ∧ s.c ≤ 9223372036854775807 ∧ (s.A = none → s.c = 0) ∧ RowAt w B 1 s.A s.l.length (s.l.map Value.string) ∧ ∀ x ∈ s.l, x.size ≤ maxLen
theorem SL.In.below {B B' : Nat} {w w' : World} {s : SL} (h : s.In B w) (hB : B ≤ B') (hb : Below B w w') : s.In B' w' := ⟨h.1, h.2.1, h.2.2.1, h.2.2.2.1.below hB hb, h.2.2.2.2⟩

/-- api.Names, as they lie. -/
structure NM where
  C : SL
  R : SL
  I : SL
def NM.val (n : NM) : Value := .agg #[.slice n.C.A n.C.l.length n.C.c, .slice n.R.A n.R.l.length n.R.c, .slice n.I.A n.I.l.length n.I.c]
def NM.In (B : Nat) (w : World) (n : NM) : Prop := n.C.In B w ∧ n.R.In B w ∧ n.I.In B w
theorem NM.In.below {B B' : Nat} {w w' : World} {s : NM} (h : s.In B w) (hB : B ≤ B') (hb : Below B w w') : s.In B' w' := ⟨h.1.below hB hb, h.2.1.below hB hb, h.2.2.below hB hb⟩
theorem NM.In.later {w w' : World} {s : NM} (h : s.In w.heap.size w) (hb : Below w.heap.size w w') : s.In w'.heap.size w' := h.below hb.size hb

theorem str_info : (Tryd.prog.info? 9).map (fun i => (i.zero, i.size, i.bytes)) = some (some (.string ⟨#[]⟩), 1, 16) := by kernel_rfl

set_option maxRecDepth 100000 in
set_option maxHeartbeats 1000000 in
theorem Grow_nil (n : Nat) (hn : n ≤ 1000000) (w : World) :
    Calls Tryd.prog 123 #[.slice none 0 0, .int .i64 n] w fun e w' => ∃ v, e = .returned v ∧ w'.ownsRow w.heap.size 9 1 v 0 [] ∧ Below w.heap.size w w' := by
  obtain ⟨i0, hi, hz0, hz1, hz2⟩ := info_parts str_info
  by_cases h0 : n = 0
  · subst h0
    go_enter Tryd.func123, Tryd.ntmps123
    go_wp2
    go_ret
    exact ⟨_, rfl, ⟨rfl, .inl ⟨rfl, rfl⟩⟩, Below.refl _ _⟩
  · have h0' : 0 < n := by omega
    have hrun := Lib.run_append_nil_zeros (P := Tryd.prog) w 22 3 22 9 i0 (.string ⟨#[]⟩) .i64 .i64 Tryd.underlying22 Tryd.underlying3 hi hz0 n h0' (by rw [hz1]; omega) (by omega) (by rw [hz2]; omega)
    have HR := Lib.hid hrun
    clear hrun
    go_enter Tryd.func123, Tryd.ntmps123
    go_wp2_with (at_builtin; refine Lib.wpList_append_run _ rfl _ _ _ _ rfl _ _ rfl rfl _ _ HR.out ?_)
    go_ret
    have hge := grownCap_ge w n 0 9
    refine ⟨_, rfl, ⟨rfl, .inr ⟨w.heap.size, grownCap w n 0 9, _, rfl, Nat.le_refl _, World.alloc_heap_new' w.drew _, Nat.zero_le _, grownCap_le_maxLen w n 0 9 (by unfold maxLen; omega), ?_, by simp⟩⟩, (Below.refl _ _).drew.alloc (Nat.le_refl _) _⟩
    rw [Array.size_append, size_zeroCells, size_zeroCells]
    simp
    omega

/-- The lists behind a []([]string), one behind the other. -/
def SL.all (ls : List SL) : List ByteArray := ls.flatMap SL.l

theorem SL.all_drop (ls : List SL) (k : Nat) (hk : k < ls.length) : SL.all (ls.drop k) = ls[k].l ++ SL.all (ls.drop (k + 1)) := by
  rw [List.drop_eq_getElem_cons hk, SL.all, List.flatMap_cons]; rfl
theorem SL.all_take (ls : List SL) (k : Nat) (hk : k < ls.length) : SL.all (ls.take (k + 1)) = SL.all (ls.take k) ++ ls[k].l := by
  rw [List.take_succ_eq_append_getElem hk, SL.all, List.flatMap_append]; simp [SL.all]

set_option maxRecDepth 100000 in
set_option maxHeartbeats 2000000 in
theorem Concat_any (ls : List SL) (b : Nat) (c : Nat) (w : World) (hb : b < w.heap.size) (hl : 0 < ls.length ∧ ls.length ≤ 100) (_hlc : ls.length ≤ c) (hin : ∀ s ∈ ls, s.In w.heap.size w) (hs : ∀ s ∈ ls, s.l.length ≤ 1000)
    (hc : ∀ k (hk : k < ls.length), w.cell? ⟨b, k, none⟩ = some (.slice ls[k].A ls[k].l.length ls[k].c)) :
    Calls Tryd.prog 81 #[.slice (some ⟨b, 0, none⟩) ls.length c] w fun e w' => ∃ s : SL, e = .returned (.slice s.A s.l.length s.c) ∧ s.l = SL.all ls ∧ s.In w'.heap.size w' ∧ Below w.heap.size w w' := by
  obtain ⟨i0, hi, hz0, hz1, hz2⟩ := info_parts str_info
  have htot : ∀ k, k ≤ ls.length → (SL.all (ls.take k)).length ≤ 1000 * k := by
    intro k
    induction k with
    | zero => intro _; simp [SL.all]
    | succ k ih =>
      intro hk
      rw [SL.all_take ls k (by omega), List.length_append]
      have := ih (by omega)
      have := hs ls[k] (List.getElem_mem _)
      omega
  have HT := Lib.hid htot
  clear htot
  have hsz : ls.length ≤ 9223372036854775807 := by omega
  go_enter Tryd.func81, Tryd.ntmps81
  go_wp2
  go_loop [3, 11] (fun t i => ∃ k : Nat, k ≤ ls.length ∧ i = .int .i64 k ∧ t = .int .i64 (SL.all (ls.take k)).length) (fun _ i => ls.length - (intOf i).toNat)
  case atStart => exact ⟨0, Nat.zero_le _, rfl, rfl⟩
  case round =>
    obtain ⟨k, hk, rfl, rfl⟩ := hrel
    by_cases hlt : k < ls.length
    · have hcell := hc k hlt
      have h1 := HT.out k hk
      have h2 := hs ls[k] (List.getElem_mem _)
      have HA := Lib.hid (SL.all_take ls k hlt)
      go_wp2
      go_round
      case rel => exact ⟨k + 1, by omega, by go_num, by rw [HA.out, List.length_append]; go_num⟩
      case measure => simp [intOf]; omega
    · have h1 := HT.out k hk
      go_wp2_with (go_at_call 123; refine (Grow_nil (SL.all (ls.take k)).length (by omega) _).mono ?_; rintro e w1 ⟨v1, rfl, hown1, hb1⟩)
      clear h1
      go_loopw [6, 27] (fun v i wr => ∃ k : Nat, k ≤ ls.length ∧ i = .int .i64 k ∧ wr.ownsRow w.heap.size 9 1 v (SL.all (ls.take k)).length ((SL.all (ls.take k)).map Value.string) ∧ Below w.heap.size w wr) (fun _ i _ => ls.length - (intOf i).toNat)
      case atStart => exact ⟨0, Nat.zero_le _, rfl, hown1, hb1⟩
      case round =>
        obtain ⟨k, hk, rfl, hown, hbr⟩ := hrel
        by_cases hlt : k < ls.length
        · have hcell := (hbr.cell (p := ⟨b, k, none⟩) hb).trans (hc k hlt)
          have h1 := HT.out k hk
          have h2 := hs ls[k] (List.getElem_mem _)
          have h3 := (hin ls[k] (List.getElem_mem _)).below hbr.size hbr
          have HA := Lib.hid (SL.all_take ls k hlt)
          have HI := Lib.hid h3
          have HB := Lib.hid hbr
          clear h3 hbr
          have hbytes : (SL.all (ls.take k)).length + ls[k].l.length ≤ 1000000 := by omega
          have hone : ∀ u ∈ ls[k].l.map Value.string, u.oneCell' = true := by
            intro u hu
            obtain ⟨x, _, rfl⟩ := List.mem_map.1 hu
            rfl
          have HO := Lib.hid hone
          clear hone
          go_wp2_with (at_builtin; refine append_row _ rfl (.tmp 31) (.tmp 32) _ rfl w.heap.size 9 i0 _ 1 16 Tryd.underlying22 hi hz0 hz1 hz2 rfl (by omega) _ _ _ rfl hown wr.heap.size _ _ _ _ rfl HI.out.2.2.1 HI.out.2.2.2.1 HO.out (by unfold maxLen; omega) (by omega) HB.out.size ?_; intro v2 w2 hown2 hg2 _)
          have hbr2 : Below w.heap.size w w2 := HB.out.grown hg2 HB.out.size (fun g hg => by
            rcases hown.2 with ⟨rfl, _⟩ | ⟨g', cap, cur, rfl, hge, _⟩
            · cases hg
            · have hg' : g' = g := Option.some.inj hg
              omega)
          go_roundw
          case rel => exact ⟨k + 1, by omega, by go_num, by rw [HA.out, List.length_append, List.map_append]; exact hown2, hbr2⟩
          case measure => simp [intOf]; omega
        · go_wp2
          go_ret
          have hk2 : (SL.all (ls.take k)) = SL.all ls := by rw [List.take_of_length_le (by omega)]
          rw [hk2] at hown
          rcases hown.2 with ⟨rfl, h0⟩ | ⟨g, cap, cur, rfl, hge, hheap, hlen, hcap, hsize, htake⟩
          · exact ⟨⟨none, 0, []⟩, rfl, (List.eq_nil_of_length_eq_zero h0).symm, ⟨Nat.le_refl _, by simp, fun _ => rfl, RowAt.nil _ _ _ _, by simp⟩, hbr⟩
          · refine ⟨⟨some ⟨g, 0, none⟩, cap, SL.all ls⟩, rfl, rfl, ⟨hlen, hcap, (fun h => by cases h), ⟨by simp, fun _ => ⟨g, 0, rfl, (Array.getElem?_eq_some_iff.1 hheap).1, fun j hj => ?_⟩⟩, ?_⟩, hbr⟩
            · rw [cell_of_blk hheap, ← htake]
              simp only [List.getElem?_take, Array.getElem?_toList]
              rw [if_pos (by omega)]
              simp
            · intro x hx
              obtain ⟨s, hsm, hxs⟩ := List.mem_flatMap.1 hx
              exact (hin s hsm).2.2.2.2 x hxs
end Go.Proofs.YtnkkpjgclekobaaDoor
