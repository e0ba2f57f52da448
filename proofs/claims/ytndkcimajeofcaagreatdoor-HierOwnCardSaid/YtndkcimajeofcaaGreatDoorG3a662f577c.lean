import Derived.Test.YtndkcimajeofcaaGreatDoorGe5df947017
import Derived.Test.YtndkcimajeofcaaGreatDoorG1d6caa34a1
import Derived.Lib.AppendZeros
import Derived.Laws.AppendOwnNone
import Derived.Deep.QuietTactic
import Derived.BigQuiet
import Derived.Laws.BitsAllLaws
namespace Go.Proofs.YtndkcimajeofcaaGreatDoor
open Go.RowKit

/-- append onto a row of the call's own, out of a slice that may be nil. -/
theorem append_row {P : Program} (w : World) {ops : Array Oper} {rest : List Oper} {o : Oper} {a : Act} {Q : Exit → Act → World → Prop} (hgd : o.guard = none) (s x : Operand) (t : TypeId)
    (ho : o.op = .call { callee := .builtin .append, args := #[s, x], argTypes := #[t, t] })
    (base : Nat) (e : TypeId) (i : TypeInfo) (z : Value) (size bytes : Nat) (ht : P.underlying t = some (.slice e)) (hi : P.info? e = some i) (hz : i.zero = some z)
    (hsize : i.size = size) (hby : i.bytes = bytes) (hzs : z.cells.size = size) (hsz : 0 < size)
    (v : Value) (n : Nat) (xs : List Value) (hs : a.eval s = v) (hown : w.ownsRow base e size v n xs)
    (B : Nat) (A : Option Addr) (m c : Nat) (news : List Value) (hx : a.eval x = .slice A m c) (hA : A = none → c = 0) (hr : RowAt w B size A m news) (h1 : ∀ u ∈ news, u.oneCell' = true)
    (h63 : n + m ≤ maxLen) (hbytes : (n + m) * bytes ≤ 140737488355328) (hbase : base ≤ w.heap.size)
    (h : ∀ v' w', w'.ownsRow base e size v' (n + m) (xs ++ news) → w.grownBy w' v.ownBlock → (v'.ownBlock = v.ownBlock ∨ v'.ownBlock = some w.heap.size) → wpList P ops Q rest (a.put o.dst v') w') :
    wpList P ops Q (o :: rest) a w := by
  cases A with
  | none =>
    have hm : m = 0 := by
      by_cases hm : m = 0
      · exact hm
      · obtain ⟨b, off, hA', _⟩ := hr.2 hm
        cases hA'
    subst hm
    have hc0 := hA rfl
    subst hc0
    have hn : news = [] := List.eq_nil_of_length_eq_zero (by rw [hr.1, Nat.zero_mul])
    subst hn
    refine wpList_append_own_none hgd s x t ho base e i size ht hi v n xs hs hown hx ?_
    have := h v w (by simpa using hown) (World.grownBy.refl w _) (.inl rfl)
    exact this
  | some ad =>
    refine wpList_append_own_at (w := w) hgd s x t ho base e i z size bytes ht hi hz hsize hby hzs hsz v n xs hs hown ad m c news hx hr.1 ?_ h1 h63 hbytes hbase (fun v' w' h2 h3 _ h5 => h v' w' h2 h3 h5)
    intro j u hj
    have hlt : j < m * size := by rw [← hr.1]; exact (List.getElem?_eq_some_iff.1 hj).1
    have hm : m ≠ 0 := fun e => by subst e; omega
    obtain ⟨b, off, hA', _, hc⟩ := hr.2 hm
    cases hA'
    have : ((⟨b, off, none⟩ : Addr).add j) = ⟨b, off + j, none⟩ := by unfold Addr.add; split <;> simp_all
    rw [this, hc j hlt]
    exact hj

/-- A []string, as it lies. -/
structure SL where
  A : Option Addr
  c : Nat
  l : List ByteArray
def SL.val (s : SL) : Value := .slice s.A s.l.length s.c
def SL.In (B : Nat) (w : World) (s : SL) : Prop :=
  s.l.length ≤ s.c ∧ s.c ≤ 9223372036854775807 ∧ (s.A = none → s.c = 0) ∧ RowAt w B 1 s.A s.l.length (s.l.map Value.string) ∧ ∀ x ∈ s.l, x.size ≤ maxLen
theorem SL.In.below {B B' : Nat} {w w' : World} {s : SL} (h : s.In B w) (hB : B ≤ B') (hb : Below B w w') : s.In B' w' := ⟨h.1, h.2.1, h.2.2.1, h.2.2.2.1.below hB hb, h.2.2.2.2⟩

/-- api.Names, as they lie. -/
structure NM where
  C : SL
  R : SL
  I : SL
def NM.val (n : NM) : Value := .agg #[.slice n.C.A n.C.l.length n.C.c, .slice n.R.A n.R.l.length n.R.c, .slice n.I.A n.I.l.length n.I.c]
def NM.In (B : Nat) (w : World) (n : NM) : Prop := n.C.In B w ∧ n.R.In B w ∧ n.I.In B w
theorem NM.In.below {B B' : Nat} {w w' : World} {s : NM} (h : s.In B w) (hB : B ≤ B') (hb : Below B w w') : s.In B' w' := ⟨h.1.below hB hb, h.2.1.below hB hb, h.2.2.below hB hb⟩
theorem NM.In.later {w w' : World} {s : NM} (h : s.In w.heap.size w) (hb : Below w.heap.size w w') : s.In w'.heap.size w' := h.below hb.size hb

theorem str_info : (Tryz.prog.info? 9).map (fun i => (i.zero, i.size, i.bytes)) = some (some (.string ⟨#[]⟩), 1, 16) := by kernel_rfl

set_option maxRecDepth 100000 in
set_option maxHeartbeats 1000000 in
theorem Grow_nil (n : Nat) (hn : n ≤ 1000000) (w : World) :
    Calls Tryz.prog 175 #[.slice none 0 0, .int .i64 n] w fun e w' => ∃ v, e = .returned v ∧ w'.ownsRow w.heap.size 9 1 v 0 [] ∧ Below w.heap.size w w' := by
  obtain ⟨i0, hi, hz0, hz1, hz2⟩ := info_parts str_info
  by_cases h0 : n = 0
  · subst h0
    go_enter Tryz.func175, Tryz.ntmps175
    go_wp2
    go_ret
    exact ⟨_, rfl, ⟨rfl, .inl ⟨rfl, rfl⟩⟩, Below.refl _ _⟩
  · have h0' : 0 < n := by omega
    have hrun := Lib.run_append_nil_zeros (P := Tryz.prog) w 22 3 22 9 i0 (.string ⟨#[]⟩) .i64 .i64 Tryz.underlying22 Tryz.underlying3 hi hz0 n h0' (by rw [hz1]; omega) (by omega) (by rw [hz2]; omega)
    have HR := Lib.hid hrun
    clear hrun
    go_enter Tryz.func175, Tryz.ntmps175
    go_wp2_with (at_builtin; refine Lib.wpList_append_run _ rfl _ _ _ _ rfl _ _ rfl rfl _ _ HR.out ?_)
    go_ret
    have hge := grownCap_ge w n 0 9
    refine ⟨_, rfl, ⟨rfl, .inr ⟨w.heap.size, grownCap w n 0 9, _, rfl, Nat.le_refl _, World.alloc_heap_new' w.drew _, Nat.zero_le _, grownCap_le_maxLen w n 0 9 (by unfold maxLen; omega), ?_, by simp⟩⟩, (Below.refl _ _).drew.alloc (Nat.le_refl _) _⟩
    rw [Array.size_append, size_zeroCells, size_zeroCells]
    simp
    omega

/-- The lists behind a []([]string), one behind the other. -/
def SL.all (ls : List SL) : List ByteArray := ls.flatMap SL.l

theorem SL.all_take (ls : List SL) (k : Nat) (hk : k < ls.length) : SL.all (ls.take (k + 1)) = SL.all (ls.take k) ++ ls[k].l := by
  rw [List.take_succ_eq_append_getElem hk, SL.all, List.flatMap_append]; simp [SL.all]

set_option maxRecDepth 100000 in
set_option maxHeartbeats 2000000 in
theorem Concat_any (ls : List SL) (b : Nat) (c : Nat) (w : World) (hb : b < w.heap.size) (hl : 0 < ls.length ∧ ls.length ≤ 100) (_hlc : ls.length ≤ c) (hin : ∀ s ∈ ls, s.In w.heap.size w) (hs : ∀ s ∈ ls, s.l.length ≤ 1000)
    (hc : ∀ k (hk : k < ls.length), w.cell? ⟨b, k, none⟩ = some (.slice ls[k].A ls[k].l.length ls[k].c)) :
    Calls Tryz.prog 142 #[.slice (some ⟨b, 0, none⟩) ls.length c] w fun e w' => ∃ s : SL, e = .returned (.slice s.A s.l.length s.c) ∧ s.l = SL.all ls ∧ s.In w'.heap.size w' ∧ Below w.heap.size w w' := by
  obtain ⟨i0, hi, hz0, hz1, hz2⟩ := info_parts str_info
  have htot : ∀ k, k ≤ ls.length → (SL.all (ls.take k)).length ≤ 1000 * k := by
    intro k
    induction k with
    | zero => intro _; simp [SL.all]
    | succ k ih =>
      intro hk
      rw [SL.all_take ls k (by omega), List.length_append]
      have := ih (by omega)
      have := hs ls[k] (List.getElem_mem _)
      omega
  have HT := Lib.hid htot
  clear htot
  have hsz : ls.length ≤ 9223372036854775807 := by omega
  go_enter Tryz.func142, Tryz.ntmps142
  go_wp2
  go_loop [3, 11] (fun t i => ∃ k : Nat, k ≤ ls.length ∧ i = .int .i64 k ∧ t = .int .i64 (SL.all (ls.take k)).length) (fun _ i => ls.length - (intOf i).toNat)
  case atStart => exact ⟨0, Nat.zero_le _, rfl, rfl⟩
  case round =>
    obtain ⟨k, hk, rfl, rfl⟩ := hrel
    by_cases hlt : k < ls.length
    · have hcell := hc k hlt
      have h1 := HT.out k hk
      have h2 := hs ls[k] (List.getElem_mem _)
      have HA := Lib.hid (SL.all_take ls k hlt)
      go_wp2
      go_round
      case rel => exact ⟨k + 1, by omega, by go_num, by rw [HA.out, List.length_append]; go_num⟩
      case measure => simp [intOf]; omega
    · have h1 := HT.out k hk
      go_wp2_with (go_at_call 175; refine (Grow_nil (SL.all (ls.take k)).length (by omega) _).mono ?_; rintro e w1 ⟨v1, rfl, hown1, hb1⟩)
      clear h1
      go_loopw [6, 27] (fun v i wr => ∃ k : Nat, k ≤ ls.length ∧ i = .int .i64 k ∧ wr.ownsRow w.heap.size 9 1 v (SL.all (ls.take k)).length ((SL.all (ls.take k)).map Value.string) ∧ Below w.heap.size w wr) (fun _ i _ => ls.length - (intOf i).toNat)
      case atStart => exact ⟨0, Nat.zero_le _, rfl, hown1, hb1⟩
      case round =>
        obtain ⟨k, hk, rfl, hown, hbr⟩ := hrel
        by_cases hlt : k < ls.length
        · have hcell := (hbr.cell (p := ⟨b, k, none⟩) hb).trans (hc k hlt)
          have h1 := HT.out k hk
          have h2 := hs ls[k] (List.getElem_mem _)
          have h3 := (hin ls[k] (List.getElem_mem _)).below hbr.size hbr
          have HA := Lib.hid (SL.all_take ls k hlt)
          have HI := Lib.hid h3
          have HB := Lib.hid hbr
          clear h3 hbr
          have hbytes : (SL.all (ls.take k)).length + ls[k].l.length ≤ 1000000 := by omega
          have hone : ∀ u ∈ ls[k].l.map Value.string, u.oneCell' = true := by
            intro u hu
            obtain ⟨x, _, rfl⟩ := List.mem_map.1 hu
            rfl
          have HO := Lib.hid hone
          clear hone
          go_wp2_with (at_builtin; refine append_row _ rfl (.tmp 31) (.tmp 32) _ rfl w.heap.size 9 i0 _ 1 16 Tryz.underlying22 hi hz0 hz1 hz2 rfl (by omega) _ _ _ rfl hown wr.heap.size _ _ _ _ rfl HI.out.2.2.1 HI.out.2.2.2.1 HO.out (by unfold maxLen; omega) (by omega) HB.out.size ?_; intro v2 w2 hown2 hg2 _)
          have hbr2 : Below w.heap.size w w2 := HB.out.grown hg2 HB.out.size (fun g hg => by
            rcases hown.2 with ⟨rfl, _⟩ | ⟨g', cap, cur, rfl, hge, _⟩
            · cases hg
            · have hg' : g' = g := Option.some.inj hg
              omega)
          go_roundw
          case rel => exact ⟨k + 1, by omega, by go_num, by rw [HA.out, List.length_append, List.map_append]; exact hown2, hbr2⟩
          case measure => simp [intOf]; omega
        · go_wp2
          go_ret
          have hk2 : (SL.all (ls.take k)) = SL.all ls := by rw [List.take_of_length_le (by omega)]
          rw [hk2] at hown
          rcases hown.2 with ⟨rfl, h0⟩ | ⟨g, cap, cur, rfl, hge, hheap, hlen, hcap, hsize, htake⟩
          · exact ⟨⟨none, 0, []⟩, rfl, (List.eq_nil_of_length_eq_zero h0).symm, ⟨Nat.le_refl _, by simp, fun _ => rfl, RowAt.nil _ _ _ _, by simp⟩, hbr⟩
          · refine ⟨⟨some ⟨g, 0, none⟩, cap, SL.all ls⟩, rfl, rfl, ⟨hlen, hcap, (fun h => by cases h), ⟨by simp, fun _ => ⟨g, 0, rfl, (Array.getElem?_eq_some_iff.1 hheap).1, fun j hj => ?_⟩⟩, ?_⟩, hbr⟩
            · rw [cell_of_blk hheap, ← htake]
              simp only [List.getElem?_take, Array.getElem?_toList]
              rw [if_pos (by omega)]
              simp
            · intro x hx
              obtain ⟨s, hsm, hxs⟩ := List.mem_flatMap.1 hx
              exact (hin s hsm).2.2.2.2 x hxs
end Go.Proofs.YtndkcimajeofcaaGreatDoor

namespace Go.Proofs.YtndkcimajeofcaaGreatDoor
open Go.RowKit

theorem SL.In.cells {B : Nat} {w : World} {s : SL} (h : s.In B w) (hne : s.l.length ≠ 0) :
    ∃ b off, s.A = some ⟨b, off, none⟩ ∧ b < B ∧ ∀ j, j < s.l.length → w.cell? ⟨b, off + j, none⟩ = some (.string (s.l.getD j ByteArray.empty)) := by
  obtain ⟨b, off, hA, hb, hc⟩ := h.2.2.2.1.2 hne
  refine ⟨b, off, hA, hb, fun j hj => ?_⟩
  rw [hc j (by omega), List.getElem?_map, List.getElem?_eq_getElem hj, List.getD_eq_getElem?_getD, List.getElem?_eq_getElem hj]
  rfl

def okL : List ByteArray → List ByteArray → Bool
  | _, [] => true
  | seen, x :: r => nameB x && !(Lib.containsS seen x) && okL (seen ++ [x]) r

def namesB (C R I : List ByteArray) : Bool := decide (C.length ≤ 16) && (decide (R.length ≤ 6) && (decide (I.length ≤ 10) && okL [] (C ++ R ++ I)))
def NM.ok (n : NM) : Bool := namesB n.C.l n.R.l n.I.l
/-- The error code of a check. -/
def codeIf (b : Bool) (e : Int) : Int := if b then 0 else e

theorem okL_step (l : List ByteArray) (k : Nat) (hk : k < l.length) : okL (l.take k) (l.drop k) = (nameB l[k] && !(Lib.containsS (l.take k) l[k]) && okL (l.take (k + 1)) (l.drop (k + 1))) := by
  rw [List.drop_eq_getElem_cons hk, okL, List.take_succ_eq_append_getElem hk]

set_option maxRecDepth 100000 in
set_option maxHeartbeats 2000000 in
theorem cNames_any (n : NM) (w : World) (hin : n.In w.heap.size w) :
    Calls Tryz.prog 98 #[n.val] w fun e w' => e = .returned (.int .i64 (codeIf n.ok 20)) ∧ Below w.heap.size w w' := by
  simp only [NM.val]
  have d1 : n.C.l.length ≤ 9223372036854775807 := Nat.le_trans hin.1.1 hin.1.2.1
  have d2 : n.R.l.length ≤ 9223372036854775807 := Nat.le_trans hin.2.1.1 hin.2.1.2.1
  have d3 : n.I.l.length ≤ 9223372036854775807 := Nat.le_trans hin.2.2.1 hin.2.2.2.1
  by_cases h1 : n.C.l.length ≤ 16
  · by_cases h2 : n.R.l.length ≤ 6
    · by_cases h3 : n.I.l.length ≤ 10
      · have HF := Lib.hid (show n.ok = okL [] (n.C.l ++ n.R.l ++ n.I.l) by simp only [NM.ok, namesB, decide_eq_true h1, decide_eq_true h2, decide_eq_true h3, Bool.true_and])
        obtain ⟨W1, hW1, hB1, hs1, hblk1⟩ := newBlk w _ rfl #[.slice n.C.A n.C.l.length n.C.c, .slice n.R.A n.R.l.length n.R.c, .slice n.I.A n.I.l.length n.I.c] 24
        obtain ⟨W2, hW2, hB2, hs2, hblk⟩ := newBlk W1 _ hs1 #[.slice n.C.A n.C.l.length n.C.c, .slice n.R.A n.R.l.length n.R.c, .slice n.I.A n.I.l.length n.I.c] 22
        have hB : Below w.heap.size w W2 := hB1.trans (hB2.mono (by omega))
        have hn2 := hin.later hB
        have hcat := Concat_any [n.C, n.R, n.I] (w.heap.size + 1) 3 W2 (by omega) (by simp) (by simp) (by simp only [List.mem_cons, List.not_mem_nil, or_false]; rintro s (rfl | rfl | rfl) <;> first | exact hn2.1 | exact hn2.2.1 | exact hn2.2.2)
          (by simp only [List.mem_cons, List.not_mem_nil, or_false]; rintro s (rfl | rfl | rfl) <;> omega)
          (by intro k hk; rw [cell_of_blk hblk]; simp only [List.length_cons, List.length_nil] at hk; match k, hk with | 0, _ => rfl | 1, _ => rfl | 2, _ => rfl)
        have c0 := cell_of_blk hblk1 0
        have c1 := cell_of_blk hblk1 1
        have c2 := cell_of_blk hblk1 2
        simp only [List.getElem?_toArray, List.getElem?_cons_zero, List.getElem?_cons_succ] at c0 c1 c2
        clear hblk1
        have HC := Lib.hid hcat
        clear hcat
        clear hB1 hB2 hblk hn2
        go_enter Tryz.func98, Tryz.ntmps98
        go_wp2_with (go_at_call 142; refine HC.out.mono ?_; rintro e w3 ⟨⟨sA, sc, sl⟩, rfl, hl, hsin, hb3⟩; have HL0 := Lib.hid hl; clear hl)
        have HBe := Lib.hid (hB.trans (hb3.mono (by omega)))
        have HL := Lib.hid (show sl = n.C.l ++ n.R.l ++ n.I.l by have := HL0.out; simpa [SL.all] using this)
        have d4 : sl.length ≤ 9223372036854775807 := Nat.le_trans hsin.1 hsin.2.1
        have HSz := hsin.2.2.2.2
        have HS := Lib.hid HSz
        have HIn := Lib.hid hsin
        clear HL0 hsin HSz hb3 hB HC
        go_loop [32] (fun i => ∃ k : Nat, k ≤ sl.length ∧ i = .int .i64 k ∧ n.ok = okL (sl.take k) (sl.drop k)) (fun i => sl.length - (intOf i).toNat)
        case atStart => exact ⟨0, Nat.zero_le _, rfl, by rw [HF.out, ← HL.out]; rfl⟩
        case round =>
          obtain ⟨k, hk, rfl, hok⟩ := hrel
          have HK := Lib.hid hok
          clear hok
          by_cases hlt : k < sl.length
          · obtain ⟨b, off, hA, hb, hc⟩ := HIn.out.cells (show sl.length ≠ 0 by omega)
            have hA' : sA = some ⟨b, off, none⟩ := hA
            subst hA'
            clear hA
            have hkc : k ≤ sc := by have : sl.length ≤ sc := HIn.out.1; omega
            dsimp only at hc
            have hck := hc k hlt
            have hgd : sl.getD k ByteArray.empty = sl[k] := by rw [List.getD_eq_getElem?_getD, List.getElem?_eq_getElem hlt]; rfl
            rw [hgd] at hck
            have hv := validName_any sl[k] (HS.out _ (List.getElem_mem _)) w3
            have HST := Lib.hid (okL_step sl k hlt)
            have hcon := Tryz.slices_Contains_string b off k sc sl sl[k] w3 (by omega) (by omega) hc
            clear hc hgd
            cases e1 : nameB sl[k] <;> cases e2 : Lib.containsS (sl.take k) sl[k]
            all_goals
              rw [e1] at hv
              rw [e2] at hcon
              have E1 := Lib.hid e1
              have E2 := Lib.hid e2
              clear e1 e2
            · go_wp2_with (first | (go_at_call 143; refine hv.mono ?_; rintro e w' ⟨rfl, rfl⟩) | (go_at_call 144; refine hcon.mono ?_; rintro e w' ⟨rfl, rfl⟩))
              go_ret
              exact ⟨ret_int (by rw [HK.out, HST.out, E1.out]; rfl), HBe.out⟩
            · go_wp2_with (first | (go_at_call 143; refine hv.mono ?_; rintro e w' ⟨rfl, rfl⟩) | (go_at_call 144; refine hcon.mono ?_; rintro e w' ⟨rfl, rfl⟩))
              go_ret
              exact ⟨ret_int (by rw [HK.out, HST.out, E1.out]; rfl), HBe.out⟩
            · go_wp2_with (first | (go_at_call 143; refine hv.mono ?_; rintro e w' ⟨rfl, rfl⟩) | (go_at_call 144; refine hcon.mono ?_; rintro e w' ⟨rfl, rfl⟩))
              go_round
              case rel => exact ⟨k + 1, by omega, by go_num, by rw [HK.out, HST.out, E1.out, E2.out]; simp⟩
              case measure => simp [intOf]; omega
            · go_wp2_with (first | (go_at_call 143; refine hv.mono ?_; rintro e w' ⟨rfl, rfl⟩) | (go_at_call 144; refine hcon.mono ?_; rintro e w' ⟨rfl, rfl⟩))
              go_ret
              exact ⟨ret_int (by rw [HK.out, HST.out, E1.out, E2.out]; rfl), HBe.out⟩
          · go_wp2
            go_ret
            exact ⟨ret_int (by rw [HK.out, List.drop_of_length_le (by omega), okL]; rfl), HBe.out⟩
      · have hF := Lib.hid (show n.ok = false by simp only [NM.ok, namesB, decide_eq_false h3, Bool.false_and, Bool.and_false])
        go_enter Tryz.func98, Tryz.ntmps98
        go_wp2
        go_ret
        exact ⟨ret_int (by rw [hF.out]; rfl), (Below.refl _ _).alloc (Nat.le_refl _) _⟩
    · have hF := Lib.hid (show n.ok = false by simp only [NM.ok, namesB, decide_eq_false h2, Bool.false_and, Bool.and_false])
      go_enter Tryz.func98, Tryz.ntmps98
      go_wp2
      go_ret
      exact ⟨ret_int (by rw [hF.out]; rfl), (Below.refl _ _).alloc (Nat.le_refl _) _⟩
  · have hF := Lib.hid (show n.ok = false by simp only [NM.ok, namesB, decide_eq_false h1, Bool.false_and])
    go_enter Tryz.func98, Tryz.ntmps98
    go_wp2
    go_ret
    exact ⟨ret_int (by rw [hF.out]; rfl), (Below.refl _ _).alloc (Nat.le_refl _) _⟩
end Go.Proofs.YtndkcimajeofcaaGreatDoor

namespace Go.Proofs.YtndkcimajeofcaaGreatDoor
open Go.RowKit Go.Shelf

def choicesF (nC nR : Nat) (op : Int) : Int := if op = 0 then nC else if op = 6 ∨ op = 7 then 2 * nR else 1

set_option maxRecDepth 100000 in
set_option maxHeartbeats 1000000 in
theorem choices_any (n : NM) (op : Int) (w : World) (_h1 : n.C.l.length ≤ 1000) (h2 : n.R.l.length ≤ 1000) :
    Calls Tryz.prog 159 #[n.val, .int .i64 op] w fun e w' => e = .returned (.int .i64 (choicesF n.C.l.length n.R.l.length op)) ∧ Below w.heap.size w w' := by
  simp only [NM.val]
  rcases k0 : (op == 0)
  · rcases k6 : (op == 6)
    · rcases k7 : (op == 7)
      · have hF : choicesF n.C.l.length n.R.l.length op = 1 := by
          simp only [beq_eq_false_iff_ne] at k0 k6 k7
          simp [choicesF, k0, k6, k7]
        rw [hF]
        go_enter Tryz.func159, Tryz.ntmps159
        go_wp2
        go_ret
        exact ⟨rfl, (Below.refl _ _).alloc (Nat.le_refl _) _⟩
      · have hF : choicesF n.C.l.length n.R.l.length op = 2 * n.R.l.length := by
          simp only [beq_eq_false_iff_ne, beq_iff_eq] at k0 k6 k7
          simp [choicesF, k7]
        rw [hF]
        go_enter Tryz.func159, Tryz.ntmps159
        go_wp2
        go_ret
        exact ⟨rfl, (Below.refl _ _).alloc (Nat.le_refl _) _⟩
    · have hF : choicesF n.C.l.length n.R.l.length op = 2 * n.R.l.length := by
        simp only [beq_eq_false_iff_ne, beq_iff_eq] at k0 k6
        simp [choicesF, k6]
      rw [hF]
      go_enter Tryz.func159, Tryz.ntmps159
      go_wp2
      go_ret
      exact ⟨rfl, (Below.refl _ _).alloc (Nat.le_refl _) _⟩
  · have hF : choicesF n.C.l.length n.R.l.length op = n.C.l.length := by
      simp only [beq_iff_eq] at k0
      simp [choicesF, k0]
    rw [hF]
    go_enter Tryz.func159, Tryz.ntmps159
    go_wp2
    go_ret
    exact ⟨rfl, (Below.refl _ _).alloc (Nat.le_refl _) _⟩

def arityF (op : Int) : Int := if op = 3 ∨ op = 6 ∨ op = 7 then 1 else if op = 4 ∨ op = 5 then 2 else 0
def dualF (op : Int) : Int := if op = 1 then 2 else if op = 2 then 1 else if op = 4 then 5 else if op = 5 then 4 else if op = 6 then 7 else if op = 7 then 6 else 0
def wordF (op : Int) : List UInt8 := if op = 1 then [116, 111, 112] else if op = 2 then [98, 111, 116] else if op = 3 then [110, 111, 116] else if op = 4 then [97, 110, 100] else if op = 5 then [111, 114] else if op = 6 then [115, 111, 109, 101] else if op = 7 then [97, 108, 108] else []

/-- THE TABLE arity LIES AS THE TEXT LAYS IT. -/
structure GA (w : World) : Prop where
  size : 0 < w.heap.size
  ar : ∀ op, 0 ≤ op → op < 8 → w.cell? ⟨0, op.toNat, none⟩ = some (.int .i64 (arityF op))
theorem GA.later {w w' : World} (h : GA w) (hb : Below w.heap.size w w') : GA w' :=
  ⟨Nat.lt_of_lt_of_le h.size hb.size, fun op h0 h8 => (hb.cell (p := ⟨0, op.toNat, none⟩) h.size).trans (h.ar op h0 h8)⟩
/-- THE THREE TABLES OF PACKAGE concept LIE AS THE TEXT LAYS THEM. -/
structure G (w : World) : Prop where
  size : 4 ≤ w.heap.size
  ar : ∀ op, 0 ≤ op → op < 8 → w.cell? ⟨0, op.toNat, none⟩ = some (.int .i64 (arityF op))
  du : ∀ op, 0 ≤ op → op < 8 → w.cell? ⟨1, op.toNat, none⟩ = some (.int .i64 (dualF op))
  wd : ∀ op, 0 ≤ op → op < 8 → w.cell? ⟨3, op.toNat, none⟩ = some (.string ⟨(wordF op).toArray⟩)
theorem G.later {w w' : World} (h : G w) (hb : Below w.heap.size w w') : G w' := by
  have hs := h.size
  exact ⟨Nat.le_trans hs hb.size, fun op h0 h8 => (hb.cell (p := ⟨0, op.toNat, none⟩) (Nat.lt_of_lt_of_le (show 0 < 4 by decide) hs)).trans (h.ar op h0 h8), fun op h0 h8 => (hb.cell (p := ⟨1, op.toNat, none⟩) (Nat.lt_of_lt_of_le (show 1 < 4 by decide) hs)).trans (h.du op h0 h8), fun op h0 h8 => (hb.cell (p := ⟨3, op.toNat, none⟩) (Nat.lt_of_lt_of_le (show 3 < 4 by decide) hs)).trans (h.wd op h0 h8)⟩

theorem G.ga {w : World} (h : G w) : GA w := ⟨Nat.lt_of_lt_of_le (show 0 < 4 by decide) h.size, h.ar⟩
def wfB (nC nR : Nat) (op n : Int) (len : Nat) : Bool :=
  decide (0 ≤ op) && (decide (op < 8) && (((len : Int) == arityF op) && (decide (0 ≤ n) && decide (n < choicesF nC nR op))))

set_option maxRecDepth 100000 in
set_option maxHeartbeats 2000000 in
theorem wellFormed_any (n : NM) (T : MT) (w : World) (hG : GA w) (h1 : n.C.l.length ≤ 1000) (h2 : n.R.l.length ≤ 1000) :
    Calls Tryz.prog 115 #[n.val, T.val] w fun e w' => e = .returned (.bool (wfB n.C.l.length n.R.l.length T.op T.n T.args.length)) ∧ Below w.heap.size w w' := by
  obtain ⟨W1, hW1, hB1, hs1, hblk1⟩ := newBlk w _ rfl #[.slice n.C.A n.C.l.length n.C.c, .slice n.R.A n.R.l.length n.R.c, .slice n.I.A n.I.l.length n.I.c] 24
  obtain ⟨W2, hW2, hB2, hs2, hblk2⟩ := newBlk W1 _ hs1 #[.int .i64 T.op, .int .i64 T.n, .slice T.A T.args.length T.c] 33
  have hB : Below w.heap.size w W2 := hB1.trans (hB2.mono (by omega))
  have hG2 := hG.later hB
  have hblk12 := (hB2.block w.heap.size (by omega)).trans hblk1
  have a0 := cell_of_blk hblk12 0
  have a1 := cell_of_blk hblk12 1
  have a2 := cell_of_blk hblk12 2
  have b0 := cell_of_blk hblk2 0
  have b1 := cell_of_blk hblk2 1
  have b2 := cell_of_blk hblk2 2
  simp only [List.getElem?_toArray, List.getElem?_cons_zero, List.getElem?_cons_succ] at a0 a1 a2 b0 b1 b2
  clear hblk12 hblk1 hblk2 hB1 hB2
  have HF := Lib.hid (show wfB n.C.l.length n.R.l.length T.op T.n T.args.length = _ from rfl)
  simp only [NM.val, MT.val]
  have HB := Lib.hid hB
  clear hB
  by_cases k1 : T.op < 0
  · go_enter Tryz.func115, Tryz.ntmps115
    go_wp2_with fail
    go_quiet (fail)
    go_wp2
    go_ret
    exact ⟨ret_bool (by rw [wfB, decide_eq_false (by omega), Bool.false_and]), below_drewN HB.out _⟩
  · by_cases k2 : 8 ≤ T.op
    · have hd1 : decide (T.op < 0) = false := decide_eq_false k1
      go_enter Tryz.func115, Tryz.ntmps115
      go_wp2_with fail
      go_quiet (fail)
      go_wp2
      go_ret
      exact ⟨ret_bool (by rw [wfB, decide_eq_false (show ¬ T.op < 8 by omega), Bool.false_and, Bool.and_false]), below_drewN HB.out _⟩
    · have hd1 : decide (T.op < 0) = false := decide_eq_false k1
      have hd2 : decide (8 ≤ T.op) = false := decide_eq_false k2
      have h0 : 0 ≤ T.op := by omega
      have h8 : T.op < 8 := by omega
      have hga := hG2.ar T.op h0 h8
      rcases ka : ((T.args.length : Int) == arityF T.op)
      · have kb : ((T.args.length : Int) != arityF T.op) = true := by rw [bne, ka]; rfl
        have KA := Lib.hid ka
        go_enter Tryz.func115, Tryz.ntmps115
        go_wp2_with fail
        go_quiet (fail)
        go_wp2
        go_ret
        exact ⟨ret_bool (by rw [wfB, KA.out, Bool.false_and, Bool.and_false, Bool.and_false]), below_drewN HB.out _⟩
      · have kb : ((T.args.length : Int) != arityF T.op) = false := by rw [bne, ka]; rfl
        have KA := Lib.hid ka
        by_cases k3 : 0 ≤ T.n
        · have hd3 : decide (0 ≤ T.n) = true := decide_eq_true k3
          go_enter Tryz.func115, Tryz.ntmps115
          go_wp2_with fail
          go_quiet (fail)
          go_wp2_with fail
          go_region_with (go_at_call 159; refine (choices_any n T.op _ h1 h2).mono ?_; rintro e w' ⟨rfl, hb⟩; have b3 : w'.cell? ⟨w.heap.size + 1, 1, none⟩ = some (.int .i64 T.n) := (hb.cell (p := ⟨w.heap.size + 1, 1, none⟩) (by show w.heap.size + 1 < W2.heap.size; omega)).trans b1)
          all_goals
            go_wp2
            go_ret
            exact ⟨ret_bool (by rw [wfB, decide_eq_true h0, decide_eq_true h8, KA.out, hd3]; simp), (below_drewN HB.out _).drew.trans (hb.mono (show w.heap.size ≤ W2.heap.size by omega))⟩
        · have hd3 : decide (0 ≤ T.n) = false := decide_eq_false k3
          go_enter Tryz.func115, Tryz.ntmps115
          go_wp2_with fail
          go_quiet (fail)
          go_wp2_with fail
          go_quiet (fail)
          go_wp2
          go_ret
          exact ⟨ret_bool (by rw [wfB, hd3, Bool.false_and, Bool.and_false, Bool.and_false, Bool.and_false]), below_drewN (below_drewN HB.out _) _⟩
end Go.Proofs.YtndkcimajeofcaaGreatDoor

namespace Go.Proofs.YtndkcimajeofcaaGreatDoor
open Go.RowKit Go.Shelf

attribute [local go_sem] Oper.semAt_some

theorem inW {P : Program} {f : FuncId} {args : Array Value} {w : World} {R : Ending → World → Prop} (h : Calls P f args w R) (n : Nat) : CallsIn Fence.wide n P f args w R := callsIn_wide.2 h
theorem blk_own {α : Type} (b : Nat) (cs : Array Value) (t : TypeId) : Own (fun (_ : List α) W => W.heap[b]? = some (.cells cs t)) := fun _ W W' row hs hg hr => by
  refine (hg.block b (Array.getElem?_eq_some_iff.1 hs).1 fun e => ?_).trans hs
  obtain ⟨o, ho, hc⟩ := hr b e.symm
  rw [hs] at ho; cases ho; cases hc
theorem keepsFrom_below {B n : Nat} {W W' : World} (h : Below n W W') (hn : W.heap.size ≤ n) : KeepsFrom B W W' :=
  ⟨h.size, fun k _ _ hk _ => (h.block k (Nat.lt_of_lt_of_le (Array.getElem?_eq_some_iff.1 hk).1 hn)).trans hk⟩

def okNode (n : NM) (x : Nat × MT) : Bool := decide (x.1 ≤ 20) && wfB n.C.l.length n.R.l.length x.2.op x.2.n x.2.args.length
def validB (n : NM) (T : MT) : Bool := decide ((T.pre 1).length ≤ 400) && (T.pre 1).all (okNode n)
def checkF (n : NM) (T : MT) : Int := if n.ok then codeIf (validB n T) 10 else 20

theorem ok_bounds {n : NM} (h : n.ok = true) : n.C.l.length ≤ 16 ∧ n.R.l.length ≤ 6 ∧ n.I.l.length ≤ 10 := by
  simp only [NM.ok, namesB, Bool.and_eq_true, decide_eq_true_eq] at h
  exact ⟨h.1, h.2.1, h.2.2.1⟩

set_option maxRecDepth 100000 in
set_option maxHeartbeats 4000000 in
theorem cCheckA_any (n : NM) (T : MT) (w : World) (hG : GA w) (hn : n.In w.heap.size w) (hT : T.In w.heap.size w) (hsz : (T.pre 1).length ≤ 1000000) :
    Calls Tryz.prog 69 #[n.val, T.val] w fun e w' => e = .returned (.int .i64 (checkF n T)) ∧ Below w.heap.size w w' := by
  refine (callsIn_wide (n := 5)).1 ?_
  have hdd : ∀ k : Nat, (Fence.wide.depth.isSome = true → 1 ≤ k) := fun k h => by cases h
  obtain ⟨W1, hW1, hB1, hs1, hblk1⟩ := newBlk w _ rfl #[.slice n.C.A n.C.l.length n.C.c, .slice n.R.A n.R.l.length n.R.c, .slice n.I.A n.I.l.length n.I.c] 24
  obtain ⟨W2, hW2, hB2, hs2, hblk2⟩ := newBlk W1 _ hs1 #[.int .i64 T.op, .int .i64 T.n, .slice T.A T.args.length T.c] 33
  obtain ⟨W3, hW3, hB3, hs3, b3⟩ := newBox W2 _ hs2 (.int .i64 0) 42
  have hB : Below w.heap.size w W3 := (hB1.trans (hB2.mono (by omega))).trans (hB3.mono (by omega))
  have hblk13 := (hB3.block w.heap.size (by omega)).trans ((hB2.block w.heap.size (by omega)).trans hblk1)
  have hblk23 := (hB3.block (w.heap.size + 1) (by omega)).trans hblk2
  have hn3 := hn.later hB
  have hT3 := hT.later hB
  have hG3 := hG.later hB
  have a0 := cell_of_blk hblk13 0
  have a1 := cell_of_blk hblk13 1
  have a2 := cell_of_blk hblk13 2
  simp only [List.getElem?_toArray, List.getElem?_cons_zero, List.getElem?_cons_succ] at a0 a1 a2
  have hcn := inW (cNames_any n W3 hn3) 4
  have HB := Lib.hid hB
  clear hB1 hB2 hB3 hblk1 hblk2 hB
  simp only [NM.val, MT.val] at hcn ⊢
  cases hok : n.ok
  · have HR := Lib.hid (show checkF n T = 20 by rw [checkF, hok]; rfl)
    rw [hok, show codeIf false 20 = 20 from rfl] at hcn
    have HCN := Lib.hid hcn
    clear hok hcn
    refine callsIn_of_wp_marks Tryz.func69 rfl trivial ?_ rfl
    simp only [Tryz.ntmps69, List.size_toArray, List.length_cons, List.length_nil, Nat.reduceAdd, Nat.reduceSub, Array.replicate_succ, Array.replicate_zero, List.push_toArray, List.append_toArray, List.nil_append, List.cons_append]
    gi_wp2_with (refine ⟨trivial, ?_⟩; refine HCN.out.mono ?_; rintro e w4 ⟨rfl, hb4⟩; have b4 := (boxed_below b3 hb4 (by omega)).cell; have f4 := (boxed_below b3 hb4 (by omega)).frozen)
    have hbx := boxed_below b3 hb4 (by omega)
    have c9 : (w4.setCell ⟨w.heap.size + 1 + 1, 0, none⟩ (.int .i64 20)).cell? ⟨w.heap.size + 1 + 1, 0, none⟩ = some (.int .i64 20) := (Boxed.set _ hbx).cell
    refine ⟨.int .i64 20, ?_, by rw [HR.out], (HB.out.trans (hb4.mono (by omega))).setCell (p := ⟨w.heap.size + 1 + 1, 0, none⟩) (by show _ ≤ w.heap.size + 1 + 1; omega) _⟩
    simp [results, Tryz.f69, go_sem, c9]
  · have HR := Lib.hid (show checkF n T = codeIf (validB n T) 10 by rw [checkF, hok]; rfl)
    have hbd := ok_bounds hok
    rw [hok, show codeIf true 20 = 0 from rfl] at hcn
    have HCN := Lib.hid hcn
    clear hok hcn
    refine callsIn_of_wp_marks Tryz.func69 rfl trivial ?_ rfl
    simp only [Tryz.ntmps69, List.size_toArray, List.length_cons, List.length_nil, Nat.reduceAdd, Nat.reduceSub, Array.replicate_succ, Array.replicate_zero, List.push_toArray, List.append_toArray, List.nil_append, List.cons_append]
    gi_wp2_with (first
      | (refine ⟨trivial, ?_⟩; refine HCN.out.mono ?_; rintro e w4 ⟨rfl, hb4⟩; have hsz4 := hb4.size; have hsz5 : w.heap.size + 1 < w4.heap.size := (by omega); have hblk24 := (hb4.block (w.heap.size + 1) (by omega)).trans hblk23; have c0 := cell_of_blk hblk24 0; have c1 := cell_of_blk hblk24 1; have c2 := cell_of_blk hblk24 2; simp only [List.getElem?_toArray, List.getElem?_cons_zero, List.getElem?_cons_succ] at c0 c1 c2)
      | (refine ⟨trivial, ?_⟩; refine (inW (walk_any T _) _).mono ?_; rintro e w' ⟨rfl, rfl⟩))
    obtain ⟨m, hm⟩ : ∃ m, w4.heap.size = m := ⟨_, rfl⟩
    rw [hm] at hsz4 hsz5 ⊢
    obtain ⟨W5, hW5, hB5, hs5, b5⟩ := newBox w4 _ hm (.int .i64 0) 3
    obtain ⟨W6, hW6, hB6, hs6, hblk6⟩ := newBlk W5 _ hs5 #[.int .i64 T.op, .int .i64 T.n, .slice T.A T.args.length T.c] 33
    rw [hW5, hW6]
    have hB46 : Below m w4 W6 := hB5.trans (hB6.mono (by omega))
    have hB3 : Below w.heap.size w W6 := HB.out.trans ((hb4.mono (by omega)).trans (hB46.mono (by omega)))
    have e3 := boxed_below (boxed_below b3 hb4 (by omega)) hB46 (by omega)
    have e5 := boxed_below b5 hB6 (by omega)
    have eN := (hB46.block w.heap.size (by omega)).trans ((hb4.block w.heap.size (by omega)).trans hblk13)
    clear hW1 hW2 hW3 hW5 hW6 c0 c1 c2 a0 a1 a2
    refine wpIn_rangeFunc_ownH rfl (by omega) (gf := 157) (lb := #[.pointer (some ⟨m + 1, 0, none⟩)]) rfl trivial (enters_of Tryz.func157 (by kernel_rfl) rfl)
      (walk1_stops 4 w.heap.size W6.heap.size (m + 1) w W6 T hT hB3 (by omega) (Nat.le_refl _) (by omega) hblk6) Kp.trans (Kp.b (by omega)) (Below.refl _ _) (fun _ => rfl)
      (fun pre W => ((Boxed W m 3 (.int .i64 pre.length) ∧ Boxed W (w.heap.size + 1 + 1) 42 (.int .i64 0)) ∧ W.heap[w.heap.size]? = some (.cells #[.slice n.C.A n.C.l.length n.C.c, .slice n.R.A n.R.l.length n.R.c, .slice n.I.A n.I.l.length n.I.c] 24)) ∧ (Below w.heap.size w W ∧ (pre.length ≤ 400 ∧ ∀ x ∈ pre, okNode n x.1 = true)))
      (fun c pre W => (Boxed W (w.heap.size + 1 + 1) 42 (.int .i64 10)) ∧ (Below w.heap.size w W ∧ (c = .ret ∧ (400 < pre.length ∨ ∃ x ∈ pre, okNode n x.1 = false))))
      (OwnFrom.and (OwnFrom.and (OwnFrom.and (Own.from (boxed_own _ _ _) _) (Own.from (boxed_own _ _ _) _)) (Own.from (blk_own _ _ _) _)) (OwnFrom.and (ownFrom_below (Nat.le_refl _) (by omega)) (ownFrom_pure _ _)))
      (fun c => OwnFrom.and (Own.from (boxed_own _ _ _) _) (OwnFrom.and (ownFrom_below (Nat.le_refl _) (by omega)) (ownFrom_pure _ _)))
      ⟨⟨⟨e5, e3⟩, eN⟩, hB3, by simp, by simp⟩
      (fun x a' W => ∃ Bx, m < Bx ∧ W.heap[Bx]? = some (.cells #[.int .i64 x.1.2.op, .int .i64 x.1.2.n, .slice x.1.2.A x.1.2.args.length x.1.2.c] 33) ∧ a' = { tmps := #[.agg #[.slice n.C.A n.C.l.length n.C.c, .slice n.R.A n.R.l.length n.R.c, .slice n.I.A n.I.l.length n.I.c], .agg #[.int .i64 T.op, .int .i64 T.n, .slice T.A T.args.length T.c], .pointer (some ⟨w.heap.size, 0, none⟩), .pointer (some ⟨w.heap.size + 1, 0, none⟩), .pointer (some ⟨w.heap.size + 1 + 1, 0, none⟩), .int .i64 0, .pointer (some ⟨m, 0, none⟩), .int .i64 x.1.1, .pointer (some ⟨Bx, 0, none⟩), .agg #[.slice n.C.A n.C.l.length n.C.c, .slice n.R.A n.R.l.length n.R.c, .slice n.I.A n.I.l.length n.I.c], .int .i64 0, .int .i64 0, .bool false, undef, .agg #[.int .i64 T.op, .int .i64 T.n, .slice T.A T.args.length T.c], .func (.func 157) #[] #[.pointer (some ⟨m + 1, 0, none⟩)], .int .i64 x.1.1, .agg #[.int .i64 x.1.2.op, .int .i64 x.1.2.n, .slice x.1.2.A x.1.2.args.length x.1.2.c], undef, undef, undef, undef, undef, undef, undef, undef, undef, undef, undef, undef, undef, undef], defers := [] })
      (fun x a' _ X Y row hs hg hr => by obtain ⟨Bx, h1, h2, h3⟩ := hs; exact ⟨Bx, h1, blk_own (α := Unit) Bx _ _ [] X Y row h2 hg (fun r e => (hr r e).2), h3⟩)
      ?assign ?body ?done ?stop
    case assign =>
      rintro l pre x W K ⟨⟨⟨i1, i2⟩, i3⟩, i4, i5⟩ hK
      simp only [MT.val]
      gi_wp2
      exact hK _ _ ((KeepsOthers.alloc _ _).from _) ((Kp.refl _ _ _).alloc i4.size _) ⟨⟨⟨i1.alloc _, i2.alloc _⟩, (Below.heap_alloc _ _ _ (Array.getElem?_eq_some_iff.1 i3).1).trans i3⟩, i4.alloc i4.size _, i5⟩ ⟨W.heap.size, i1.lt, World.alloc_heap_new' _ _, rfl⟩
    case body =>
      rintro l pre x a' W hl ⟨r, hr⟩ ⟨⟨⟨i1, i2⟩, i3⟩, i4, i5⟩ ⟨Bx, hBx, hbx, rfl⟩ hlt
      have n0 := i1.cell
      have n1 := i1.frozen
      have hlen : pre.length ≤ 400 := i5.1
      obtain ⟨W7, hW7⟩ : ∃ W7, W.setCell ⟨m, 0, none⟩ (.int .i64 (pre.length + 1)) = W7 := ⟨_, rfl⟩
      have j1 : Boxed W7 m 3 (.int .i64 (pre.length + 1)) := by rw [← hW7]; exact Boxed.set _ i1
      have j2 : Boxed W7 (w.heap.size + 1 + 1) 42 (.int .i64 0) := by rw [← hW7]; exact boxed_other i2 (by show w.heap.size + 1 + 1 ≠ m; omega) _
      have jN : W7.heap[w.heap.size]? = some (.cells #[.slice n.C.A n.C.l.length n.C.c, .slice n.R.A n.R.l.length n.R.c, .slice n.I.A n.I.l.length n.I.c] 24) := by rw [← hW7]; exact (Below.heap_setCell _ _ _ _ (by show w.heap.size ≠ m; omega)).trans i3
      have jX : W7.heap[Bx]? = some (.cells #[.int .i64 x.1.2.op, .int .i64 x.1.2.n, .slice x.1.2.A x.1.2.args.length x.1.2.c] 33) := by rw [← hW7]; exact (Below.heap_setCell _ _ _ _ (by show Bx ≠ m; omega)).trans hbx
      have jK : Kp w.heap.size W6.heap.size W W7 := by rw [← hW7]; exact (Kp.refl _ _ _).setBox (by show m < _; omega) (by show _ ≤ m; omega) _
      have jO : KeepsOthers W W7 := by rw [← hW7]; exact KeepsOthers.setCell _ _ _
      have jB : Below w.heap.size w W7 := i4.trans jK.below
      have x0 := cell_of_blk jX 0
      have x1 := cell_of_blk jX 1
      have x2 := cell_of_blk jX 2
      have a0 := cell_of_blk jN 0
      have a1 := cell_of_blk jN 1
      have a2 := cell_of_blk jN 2
      simp only [List.getElem?_toArray, List.getElem?_cons_zero, List.getElem?_cons_succ] at x0 x1 x2 a0 a1 a2
      have j10 := j1.cell
      have j20 := j2.cell
      have j21 := j2.frozen
      have hxb : Bx < W7.heap.size := (Array.getElem?_eq_some_iff.1 jX).1
      by_cases q1 : 400 < (pre.length : Int) + 1
      · gi_wp2
        refine ⟨trivial, ?_⟩
        gi_wp2
        exact ⟨(jO.trans (KeepsOthers.setCell _ _ _)).from _, Boxed.set _ j2, jB.setCell (p := ⟨w.heap.size + 1 + 1, 0, none⟩) (by show _ ≤ w.heap.size + 1 + 1; omega) _, rfl, .inl (by simp; omega)⟩
      · by_cases q2 : 20 < (x.1.1 : Int)
        · gi_wp2
          refine ⟨trivial, ?_⟩
          gi_wp2
          exact ⟨(jO.trans (KeepsOthers.setCell _ _ _)).from _, Boxed.set _ j2, jB.setCell (p := ⟨w.heap.size + 1 + 1, 0, none⟩) (by show _ ≤ w.heap.size + 1 + 1; omega) _, rfl, .inr ⟨x, by simp, by rw [okNode, decide_eq_false (by omega), Bool.false_and]⟩⟩
        · have hwf := wellFormed_any n x.1.2 W7 (hG.later jB) (by omega) (by omega)
          simp only [NM.val, MT.val] at hwf
          have HG0 := Lib.hid hG
          clear hG hG3 hn3 hT3 hn hT
          cases hv : wfB n.C.l.length n.R.l.length x.1.2.op x.1.2.n x.1.2.args.length
          · rw [hv] at hwf
            have HV := Lib.hid hv
            clear hv
            gi_wp2_with (refine ⟨trivial, ?_⟩; refine (CallsIn.inRound l (inW hwf _)).mono ?_; rintro e w8 ⟨rfl, hb8⟩; have k2 := boxed_below j2 hb8 j2.lt; have k20 := k2.cell; have k21 := k2.frozen)
            exact ⟨((jO.from _).trans (keepsFrom_below hb8 (Nat.le_refl _))).trans ((KeepsOthers.setCell _ _ _).from _), Boxed.set _ k2, (jB.trans (hb8.mono jB.size)).setCell (p := ⟨w.heap.size + 1 + 1, 0, none⟩) (by show _ ≤ w.heap.size + 1 + 1; omega) _, rfl, .inr ⟨x, by simp, by rw [okNode, HV.out, Bool.and_false]⟩⟩
          · rw [hv] at hwf
            have HV := Lib.hid hv
            clear hv
            gi_wp2_with (refine ⟨trivial, ?_⟩; refine (CallsIn.inRound l (inW hwf _)).mono ?_; rintro e w8 ⟨rfl, hb8⟩; have k2 := boxed_below j2 hb8 j2.lt)
            refine ⟨(jO.from _).trans (keepsFrom_below hb8 (Nat.le_refl _)), jK.trans (Kp.of_below hb8 jB.size), ⟨⟨?_, k2⟩, (hb8.block _ (by omega)).trans jN⟩, jB.trans (hb8.mono jB.size), by simp; omega, ?_⟩
            · rw [List.length_append]; exact boxed_below j1 hb8 j1.lt
            · intro y hy
              rcases List.mem_append.1 hy with h | h
              · exact i5.2 y h
              · rw [List.mem_singleton.1 h, okNode, HV.out, decide_eq_true (by omega)]; rfl
    case done =>
      rintro D ys W hD hys ⟨⟨⟨i1, i2⟩, i3⟩, i4, i5⟩ hK
      have hv : validB n T = true := by
        rw [validB, ← hys, List.all_map, List.length_map, decide_eq_true i5.1, Bool.true_and, List.all_eq_true]
        exact i5.2
      have i20 := i2.cell
      have i21 := i2.frozen
      have HV := Lib.hid hv
      clear hv
      gi_wp2
      have hK' := (KeepsOthers.setCell W ⟨w.heap.size + 1 + 1, 0, none⟩ (.int .i64 0)).same D _ hK rfl
      refine ⟨by simp, .inl ⟨_, _, rfl, run_takeDeferred hK', ?_⟩⟩
      have c5 := cell_kept (Boxed.set (.int .i64 0) i2).cell (grownBy_putObj' _ D (.deferred none)) (fun r e => by cases e; exact ⟨_, hK', rfl⟩)
      refine ⟨.int .i64 0, ?_, by rw [HR.out, HV.out]; rfl, (i4.setCell (p := ⟨w.heap.size + 1 + 1, 0, none⟩) (by show _ ≤ w.heap.size + 1 + 1; omega) _).trans (belowK_b (w := w) (Nat.le_refl _) _ D _ _ (by omega) hK' rfl rfl)⟩
      simp [results, Tryz.f69, go_sem, c5]
    case stop =>
      rintro D c pre W hD hpre ⟨j1, j2, rfl, j3⟩ hK
      have hv : validB n T = false := by
        rw [Bool.eq_false_iff]
        intro hv
        simp only [validB, Bool.and_eq_true, decide_eq_true_eq, List.all_eq_true] at hv
        rcases j3 with h | ⟨x, hx, hxo⟩
        · have h1 := hpre.length_le
          rw [List.length_map] at h1
          omega
        · have h1 := hv.2 x.1 (hpre.subset (List.mem_map_of_mem hx))
          rw [hxo] at h1
          cases h1
      have HV := Lib.hid hv
      clear hv
      gi_wp2
      refine ⟨by simp, .inl ⟨_, _, rfl, run_takeDeferred hK, ?_⟩⟩
      have c5 := cell_kept j1.cell (grownBy_putObj' _ D (.deferred none)) (fun r e => by cases e; exact ⟨_, hK, rfl⟩)
      refine ⟨.int .i64 10, ?_, by rw [HR.out, HV.out]; rfl, j2.trans (belowK_b (w := w) (Nat.le_refl _) W D _ _ (by omega) hK rfl rfl)⟩
      simp [results, Tryz.f69, go_sem, c5]
end Go.Proofs.YtndkcimajeofcaaGreatDoor

namespace Go.Proofs.YtndkcimajeofcaaGreatDoor
open Go.RowKit

mutual
/-- Every block that the tree's Args lie in is one of p's. -/
def MT.All (p : Nat → Prop) : MT → Prop
  | .mk _ _ A _ args => (args.length ≠ 0 → ∃ b off, A = some ⟨b, off, none⟩ ∧ p b) ∧ MT.Alls p args
def MT.Alls (p : Nat → Prop) : List MT → Prop
  | [] => True
  | t :: ts => MT.All p t ∧ MT.Alls p ts
end

theorem MT.Alls.of {p : Nat → Prop} : ∀ {ts : List MT}, (∀ t ∈ ts, MT.All p t) → MT.Alls p ts
  | [], _ => by rw [MT.Alls]; trivial
  | t :: ts, h => by rw [MT.Alls]; exact ⟨h t (by simp), MT.Alls.of fun t ht => h t (by simp [ht])⟩
theorem MT.All.imp {p q : Nat → Prop} (hpq : ∀ b, p b → q b) : ∀ T : MT, MT.All p T → MT.All q T :=
  fun T => MT.rec (motive_1 := fun T => MT.All p T → MT.All q T) (motive_2 := fun l => MT.Alls p l → MT.Alls q l)
    (fun op n A c args ih h => by
      rw [MT.All] at h ⊢
      exact ⟨fun hn => by obtain ⟨b, off, hA, hb⟩ := h.1 hn; exact ⟨b, off, hA, hpq b hb⟩, ih h.2⟩)
    (fun _ => by rw [MT.Alls]; trivial)
    (fun t ts h1 h2 h => by rw [MT.Alls] at h ⊢; exact ⟨h1 h.1, h2 h.2⟩) T

theorem MT.All.and {p q : Nat → Prop} : ∀ T : MT, MT.All p T → MT.All q T → MT.All (fun b => p b ∧ q b) T :=
  fun T => MT.rec (motive_1 := fun T => MT.All p T → MT.All q T → MT.All (fun b => p b ∧ q b) T) (motive_2 := fun l => MT.Alls p l → MT.Alls q l → MT.Alls (fun b => p b ∧ q b) l)
    (fun op n A c args ih h k => by
      rw [MT.All] at h k ⊢
      refine ⟨fun hn => ?_, ih h.2 k.2⟩
      obtain ⟨b, off, hA, hb⟩ := h.1 hn
      obtain ⟨b', off', hA', hb'⟩ := k.1 hn
      rw [hA] at hA'; cases hA'
      exact ⟨b, off, hA, hb, hb'⟩)
    (fun _ _ => by rw [MT.Alls]; trivial)
    (fun t ts h1 h2 h k => by rw [MT.Alls] at h k ⊢; exact ⟨h1 h.1 k.1, h2 h.2 k.2⟩) T

theorem MT.In.all {B : Nat} {w : World} : ∀ T : MT, MT.In B w T → MT.All (fun b => b < B) T :=
  fun T => MT.rec (motive_1 := fun T => MT.In B w T → MT.All (fun b => b < B) T) (motive_2 := fun l => MT.InAll B w l → MT.Alls (fun b => b < B) l)
    (fun op n A c args ih h => by
      rw [MT.In] at h
      rw [MT.All]
      exact ⟨fun hn => by obtain ⟨b, off, hA, hb, _⟩ := h.2.2.1.2 hn; exact ⟨b, off, hA, hb⟩, ih h.2.2.2⟩)
    (fun _ => by rw [MT.Alls]; trivial)
    (fun t ts h1 h2 h => by rw [MT.InAll] at h; rw [MT.Alls]; exact ⟨h1 h.1, h2 h.2⟩) T

/-- A tree lies on wherever the cells of its own blocks do. -/
theorem MT.In.moved {B B' : Nat} {w w' : World} {p : Nat → Prop} (hc : ∀ b o, p b → w'.cell? ⟨b, o, none⟩ = w.cell? ⟨b, o, none⟩) (hB : ∀ b, p b → b < B') : ∀ T : MT, MT.In B w T → MT.All p T → MT.In B' w' T :=
  fun T => MT.rec (motive_1 := fun T => MT.In B w T → MT.All p T → MT.In B' w' T) (motive_2 := fun l => MT.InAll B w l → MT.Alls p l → MT.InAll B' w' l)
    (fun op n A c args ih h k => by
      rw [MT.In] at h ⊢
      rw [MT.All] at k
      obtain ⟨h1, h2, h3, h4⟩ := h
      refine ⟨h1, h2, ⟨h3.1, fun hn => ?_⟩, ih h4 k.2⟩
      obtain ⟨b, off, hA, _, hcell⟩ := h3.2 hn
      obtain ⟨b', off', hA', hp⟩ := k.1 hn
      rw [hA] at hA'; cases hA'
      exact ⟨b, off, hA, hB b hp, fun j hj => (hc b _ hp).trans (hcell j hj)⟩)
    (fun _ _ => by rw [MT.InAll]; trivial)
    (fun t ts h1 h2 h k => by rw [MT.InAll] at h ⊢; rw [MT.Alls] at k; exact ⟨h1 h.1 k.1, h2 h.2 k.2⟩) T

/-- The tree's blocks are the call's own (from lo on), each of cells that may be written. -/
def Mine (lo : Nat) (w : World) (T : MT) : Prop := MT.All (fun b => lo ≤ b ∧ ∃ cur, w.heap[b]? = some (.cells cur 33)) T
/-- A NEW TREE: it lies in w, and its blocks are new from lo on. -/
def New (lo : Nat) (w : World) (T : MT) : Prop := T.In w.heap.size w ∧ Mine lo w T
theorem New.lo {lo lo' : Nat} {w : World} {T : MT} (h : New lo w T) (hl : lo' ≤ lo) : New lo' w T := ⟨h.1, MT.All.imp (fun _ hb => ⟨Nat.le_trans hl hb.1, hb.2⟩) T h.2⟩
theorem New.later {lo : Nat} {w w' : World} {T : MT} (h : New lo w T) (hb : Below w.heap.size w w') : New lo w' T :=
  ⟨h.1.later hb, MT.All.imp (fun b ⟨⟨h1, cur, h2⟩, h3⟩ => ⟨h1, cur, (hb.block b h3).trans h2⟩) T (MT.All.and T h.2 (MT.In.all T h.1))⟩
/-- A step that writes one block alone, which is none of the tree's. -/
theorem New.grown {lo : Nat} {w w' : World} {T : MT} {row : Option Nat} (h : New lo w T) (hg : w.grownBy w' row) (hr : MT.All (fun b => some b ≠ row) T) : New lo w' T := by
  have hall := MT.All.and T (MT.All.and T h.2 (MT.In.all T h.1)) hr
  refine ⟨MT.In.moved (p := fun b => ((lo ≤ b ∧ ∃ cur, w.heap[b]? = some (.cells cur 33)) ∧ b < w.heap.size) ∧ some b ≠ row) (fun b o hb => ?_) (fun b hb => Nat.lt_of_lt_of_le hb.1.2 hg.size) T h.1 hall, MT.All.imp (fun b ⟨⟨⟨h1, cur, h2⟩, h3⟩, h4⟩ => ⟨h1, cur, (hg.block b h3 h4).trans h2⟩) T hall⟩
  exact World.cell?_of_block (w := w) (hg.block b hb.1.2 hb.2)

/-- A []Concept of the call's own, as the walk over an append leaves it. -/
theorem in_of_row {lo base : Nat} {w : World} {v : Value} {op n : Int} {Ts : List MT} (hown : w.ownsRow base 33 3 v Ts.length (Ts.flatMap MT.cs)) (hlo : lo ≤ base) (hTs : ∀ t ∈ Ts, New lo w t) :
    ∃ A c, v = .slice A Ts.length c ∧ New lo w (.mk op n A c Ts) := by
  rcases hown.2 with ⟨rfl, h0⟩ | ⟨g, cap, cur, rfl, hge, hheap, hlen, hcap, hsize, htake⟩
  · have hT : Ts = [] := List.eq_nil_of_length_eq_zero h0
    subst hT
    refine ⟨none, 0, rfl, ?_, ?_⟩
    · rw [MT.In]; exact ⟨Nat.le_refl _, by simp, RowAt.nil _ _ _ _, by rw [MT.InAll]; trivial⟩
    · rw [Mine, MT.All]; exact ⟨fun h => absurd rfl h, by rw [MT.Alls]; trivial⟩
  · refine ⟨_, _, rfl, ?_, ?_⟩
    · rw [MT.In]
      refine ⟨hlen, hcap, ⟨hown.1, fun _ => ⟨g, 0, rfl, (Array.getElem?_eq_some_iff.1 hheap).1, fun j hj => ?_⟩⟩, MT.InAll.of fun t ht => (hTs t ht).1⟩
      rw [cell_of_blk hheap, ← htake, List.getElem?_take, if_pos hj, Array.getElem?_toList]
      simp
    · rw [Mine, MT.All]
      exact ⟨fun _ => ⟨g, 0, rfl, Nat.le_trans hlo hge, cur, hheap⟩, MT.Alls.of fun t ht => (hTs t ht).2⟩
end Go.Proofs.YtndkcimajeofcaaGreatDoor

namespace Go.Proofs.YtndkcimajeofcaaGreatDoor
open Go.RowKit

theorem owns_below {w w' : World} {base : Nat} {e : TypeId} {size n : Nat} {v : Value} {xs : List Value} (h : w.ownsRow base e size v n xs) (hb : Below w.heap.size w w') : w'.ownsRow base e size v n xs := by
  refine ⟨h.1, ?_⟩
  rcases h.2 with h0 | ⟨g, cap, cur, hv, hge, hheap, hrest⟩
  · exact .inl h0
  · exact .inr ⟨g, cap, cur, hv, hge, (hb.block g (Array.getElem?_eq_some_iff.1 hheap).1).trans hheap, hrest⟩
theorem owns_grown {w w' : World} {base : Nat} {e : TypeId} {size n : Nat} {v : Value} {xs : List Value} {row : Option Nat} (h : w.ownsRow base e size v n xs) (hg : w.grownBy w' row) (hr : v.ownBlock ≠ row ∨ v.ownBlock = none) : w'.ownsRow base e size v n xs := by
  refine ⟨h.1, ?_⟩
  rcases h.2 with h0 | ⟨g, cap, cur, rfl, hge, hheap, hrest⟩
  · exact .inl h0
  · refine .inr ⟨g, cap, cur, rfl, hge, (hg.block g (Array.getElem?_eq_some_iff.1 hheap).1 ?_).trans hheap, hrest⟩
    rcases hr with h1 | h1
    · exact h1
    · cases h1
theorem own_lt {w : World} {base : Nat} {e : TypeId} {size n g : Nat} {v : Value} {xs : List Value} (h : w.ownsRow base e size v n xs) (hg : v.ownBlock = some g) : base ≤ g ∧ g < w.heap.size := by
  rcases h.2 with ⟨rfl, _⟩ | ⟨g', cap, cur, rfl, hge, hheap, _⟩
  · cases hg
  · have : g' = g := Option.some.inj hg
    subst this
    exact ⟨hge, (Array.getElem?_eq_some_iff.1 hheap).1⟩

/-- WHAT HAS BEEN COLLECTED: the slice v of the call's own holds the new trees Ts. -/
structure Coll (lo base : Nat) (w : World) (v : Value) (Ts : List MT) : Prop where
  own : w.ownsRow base 33 3 v Ts.length (Ts.flatMap MT.cs)
  trees : ∀ t ∈ Ts, New lo w t ∧ MT.All (fun b => some b ≠ v.ownBlock) t

theorem Coll.nil (lo base : Nat) (w : World) : Coll lo base w (.slice none 0 0) [] := ⟨⟨rfl, .inl ⟨rfl, rfl⟩⟩, by simp⟩
theorem Coll.later {lo base : Nat} {w w' : World} {v : Value} {Ts : List MT} (h : Coll lo base w v Ts) (hb : Below w.heap.size w w') : Coll lo base w' v Ts :=
  ⟨owns_below h.own hb, fun t ht => ⟨(h.trees t ht).1.later hb, (h.trees t ht).2⟩⟩
/-- A store into a block below lo and base. -/
theorem Coll.setCell {lo base : Nat} {w : World} {v : Value} {Ts : List MT} (h : Coll lo base w v Ts) {p : Addr} (hp : p.block < lo) (hp' : p.block < base) (u : Value) : Coll lo base (w.setCell p u) v Ts := by
  have hg : w.grownBy (w.setCell p u) (some p.block) := ⟨rfl, rfl, rfl, (KeepsWalks.setCell w p u).size, fun k _ hk => Below.heap_setCell _ _ _ k (fun e => hk (by rw [e]))⟩
  refine ⟨owns_grown h.own hg ?_, fun t ht => ⟨(h.trees t ht).1.grown hg ?_, (h.trees t ht).2⟩⟩
  · by_cases hv : v.ownBlock = none
    · exact .inr hv
    · refine .inl fun e => ?_
      have := (own_lt h.own e).1
      omega
  · refine MT.All.imp (fun b hb e => ?_) t (h.trees t ht).1.2
    have : b = p.block := Option.some.inj e
    have := hb.1
    omega
/-- One more: behind the append law's words. `w` is the world of the append, `tmp` the element's own block. -/
theorem Coll.add {lo base : Nat} {w w' : World} {v v' : Value} {Ts : List MT} {T : MT} (h : Coll lo base w v Ts) (hT : New lo w T) (hTv : MT.All (fun b => some b ≠ v.ownBlock) T)
    (hown : w'.ownsRow base 33 3 v' (Ts.length + 1) (Ts.flatMap MT.cs ++ T.cs)) (hg : w.grownBy w' v.ownBlock) (hv : v'.ownBlock = v.ownBlock ∨ ∃ g, v'.ownBlock = some g ∧ w.heap.size ≤ g) : Coll lo base w' v' (Ts ++ [T]) := by
  refine ⟨by rw [List.length_append, List.flatMap_append]; simpa using hown, fun t ht => ?_⟩
  have ht2 : New lo w t ∧ MT.All (fun b => some b ≠ v.ownBlock) t := by
    rcases List.mem_append.1 ht with h1 | h1
    · exact h.trees t h1
    · rw [List.mem_singleton.1 h1]; exact ⟨hT, hTv⟩
  refine ⟨ht2.1.grown hg ht2.2, ?_⟩
  rcases hv with hv | ⟨g, hv, hge⟩
  · rw [hv]; exact ht2.2
  · rw [hv]
    exact MT.All.imp (fun b hb e => by have : b = g := Option.some.inj e; omega) t (MT.In.all t ht2.1.1)
/-- A tree that is newer than the slice keeps off its block. -/
theorem Coll.off {lo base lo' : Nat} {w w' : World} {v : Value} {Ts : List MT} {T : MT} (h : Coll lo base w v Ts) (hT : New lo' w' T) (hl : w.heap.size ≤ lo') : MT.All (fun b => some b ≠ v.ownBlock) T :=
  MT.All.imp (fun b hb e => by
    have h1 := (own_lt h.own e.symm).2
    have := hb.1
    omega) T hT.2

theorem frozen_of_blk {W : World} {b : Nat} {cs : Array Value} {t : TypeId} (h : W.heap[b]? = some (.cells cs t)) (i : Nat) : W.frozen? ⟨b, i, none⟩ = false := by simp [World.frozen?, h]
theorem blk_set {W : World} {b : Nat} {cs : Array Value} {t : TypeId} (h : W.heap[b]? = some (.cells cs t)) (i : Nat) (v : Value) : (W.setCell ⟨b, i, none⟩ v).heap[b]? = some (.cells (cs.setIfInBounds i v) t) := by
  obtain ⟨hlt, hk⟩ := Array.getElem?_eq_some_iff.1 h
  show (W.heap.modify b _)[b]? = _
  rw [Array.getElem?_eq_getElem (by rw [Array.size_modify]; exact hlt), Array.getElem_modify_self, hk]
  rfl
theorem grown_set (W : World) (b i : Nat) (v : Value) : W.grownBy (W.setCell ⟨b, i, none⟩ v) (some b) :=
  ⟨rfl, rfl, rfl, (KeepsWalks.setCell W ⟨b, i, none⟩ v).size, fun k _ hk => Below.heap_setCell _ _ _ k (fun e => hk (by rw [e]))⟩
theorem grown_trans {A B C : World} {row : Option Nat} (h : A.grownBy B row) (k : B.grownBy C row) : A.grownBy C row :=
  ⟨k.os.trans h.os, k.tape.trans h.tape, k.output.trans h.output, Nat.le_trans h.size k.size, fun i hi hr => (k.block i (Nat.lt_of_lt_of_le hi h.size) hr).trans (h.block i hi hr)⟩
/-- A struct of three stored into a block. -/
theorem store3 {W : World} {b : Nat} {x0 y0 z0 : Value} {t : TypeId} (h : W.heap[b]? = some (.cells #[x0, y0, z0] t)) (x y z : Value) :
    (((W.setCell ⟨b, 0, none⟩ x).setCell ⟨b, 1, none⟩ y).setCell ⟨b, 2, none⟩ z).heap[b]? = some (.cells #[x, y, z] t) ∧
    W.grownBy (((W.setCell ⟨b, 0, none⟩ x).setCell ⟨b, 1, none⟩ y).setCell ⟨b, 2, none⟩ z) (some b) :=
  ⟨blk_set (blk_set (blk_set h 0 x) 1 y) 2 z, grown_trans (grown_trans (grown_set W b 0 x) (grown_set _ b 1 y)) (grown_set _ b 2 z)⟩
theorem below_grown {B : Nat} {W W' : World} {b : Nat} (h : W.grownBy W' (some b)) (hb : B ≤ b) (hB : B ≤ W.heap.size) : Below B W W' := (Below.refl _ _).grown h hB (fun k e => by cases e; exact hb)

/-- ONE ROUND of 'd.Args = append(d.Args, f(arg))': W5 is the world in which f was called, w' the one it left, w6 the append's. -/
theorem coll_step {D g cap : Nat} {wr W5 w' w6 : World} {v x y : Value} {Ts : List MT} {T : MT} {o : Obj} {t : TypeId}
    (hco : Coll (D + 1) (D + 1) wr v Ts) (hB5 : Below wr.heap.size wr W5) (hbl : Below W5.heap.size W5 w') (hnew : New W5.heap.size w' T)
    (hown : w6.ownsRow (D + 1) 33 3 (.slice (some ⟨g, 0, none⟩) (Ts.length + 1) cap) (Ts.length + 1) (Ts.flatMap MT.cs ++ T.cs)) (hg : (w'.alloc o).grownBy w6 v.ownBlock)
    (hat : v.ownBlock = some g ∨ g = w'.heap.size + 1) (hD : wr.heap[D]? = some (.cells #[x, y, v] t)) :
    (w6.setCell ⟨D, 2, none⟩ (.slice (some ⟨g, 0, none⟩) (Ts.length + 1) cap)).heap[D]? = some (.cells #[x, y, .slice (some ⟨g, 0, none⟩) (Ts.length + 1) cap] t) ∧
    Coll (D + 1) (D + 1) (w6.setCell ⟨D, 2, none⟩ (.slice (some ⟨g, 0, none⟩) (Ts.length + 1) cap)) (.slice (some ⟨g, 0, none⟩) (Ts.length + 1) cap) (Ts ++ [T]) ∧
    Below D wr (w6.setCell ⟨D, 2, none⟩ (.slice (some ⟨g, 0, none⟩) (Ts.length + 1) cap)) := by
  have hDlt : D < wr.heap.size := (Array.getElem?_eq_some_iff.1 hD).1
  have s5 := hB5.size
  have s6 := hbl.size
  have hb : Below wr.heap.size wr w' := hB5.trans (hbl.mono s5)
  have hb2 : Below wr.heap.size wr (w'.alloc o) := hb.alloc hb.size o
  have hco2 := hco.later hb2
  have nD : some D ≠ v.ownBlock := fun e => by have := (own_lt hco.own e.symm).1; omega
  have hD6 : w6.heap[D]? = some (.cells #[x, y, v] t) := (hg.block D (by simp; omega) nD).trans ((hb2.block D hDlt).trans hD)
  refine ⟨blk_set hD6 2 _, ?_, ?_⟩
  · refine Coll.setCell (Coll.add hco2 ((hnew.lo (by omega)).later ((Below.refl _ w').alloc (Nat.le_refl _) o)) (hco.off hnew s5) hown hg ?_) (by show D < D + 1; omega) (by show D < D + 1; omega) _
    rcases hat with h | h
    · exact .inl h.symm
    · exact .inr ⟨g, rfl, by simp; omega⟩
  · have h1 : Below D wr w6 := (hb2.mono (by omega)).grown hg (by simp; omega) (fun k e => by
      have := (own_lt hco.own e).1
      omega)
    exact h1.setCell (p := ⟨D, 2, none⟩) (Nat.le_refl _) _

theorem con_info : (Tryz.prog.info? 33).map (fun i => (i.zero, i.size, i.bytes)) = some (some (.agg #[.int .i64 0, .int .i64 0, .slice none 0 0]), 3, 40) := by kernel_rfl

mutual
/-- The negation normal form. -/
def nnf : Tr → Bool → Tr
  | .mk op n args, neg =>
    if op = 3 then nnfHead args (!neg)
    else if neg = true ∧ op = 0 then .mk 3 0 [.mk 0 n []]
    else .mk (if neg then dualF op else op) n (nnfs args neg)
def nnfHead : List Tr → Bool → Tr
  | [], _ => .mk 0 0 []
  | t :: _, neg => nnf t neg
def nnfs : List Tr → Bool → List Tr
  | [], _ => []
  | t :: ts, neg => nnf t neg :: nnfs ts neg
end
theorem nnfs_map : ∀ (l : List Tr) (neg : Bool), nnfs l neg = l.map fun t => nnf t neg
  | [], _ => by rw [nnfs]; rfl
  | t :: ts, neg => by rw [nnfs, nnfs_map ts neg]; rfl

mutual
/-- Every node has an operator, and as many Args as its operator asks. -/
def MT.WF : MT → Prop
  | .mk op _ _ _ args => 0 ≤ op ∧ op < 8 ∧ (args.length : Int) = arityF op ∧ MT.WFs args
def MT.WFs : List MT → Prop
  | [] => True
  | t :: ts => MT.WF t ∧ MT.WFs ts
end
theorem MT.WFs.at_ : ∀ {ts : List MT}, MT.WFs ts → ∀ (k : Nat) (hk : k < ts.length), MT.WF ts[k]
  | t :: ts, h, k, hk => by
    rw [MT.WFs] at h
    cases k with
    | zero => exact h.1
    | succ k => exact MT.WFs.at_ h.2 k (by simpa using hk)
end Go.Proofs.YtndkcimajeofcaaGreatDoor

namespace Go.Proofs.YtndkcimajeofcaaGreatDoor
open Go.RowKit

/-- The number whose bits below n are p's. -/
def bw (p : Nat → Bool) : Nat → Nat
  | 0 => 0
  | n + 1 => 2 ^ n * (p n).toNat + bw p n
theorem bw_lt (p : Nat → Bool) : ∀ n, bw p n < 2 ^ n
  | 0 => by simp [bw]
  | n + 1 => by
    have := bw_lt p n
    rw [bw, Nat.pow_succ]
    cases p n <;> simp <;> omega
theorem bw_lt64 (p : Nat → Bool) : bw p 64 < 18446744073709551616 := bw_lt p 64
theorem bw_bit (p : Nat → Bool) : ∀ n i, (bw p n).testBit i = (decide (i < n) && p i)
  | 0, i => by simp [bw]
  | n + 1, i => by
    rw [bw, Nat.testBit_two_pow_mul_add _ (bw_lt p n), bw_bit p n i]
    by_cases h : i < n
    · simp [h, show i < n + 1 by omega]
    · rw [if_neg h]
      by_cases h2 : i = n
      · subst h2
        cases p i <;> simp
      · have h3 : 0 < i - n := by omega
        have h4 : ¬ i < n + 1 := by omega
        simp only [h4, decide_false, Bool.false_and]
        exact Nat.testBit_lt_two_pow (Nat.lt_of_lt_of_le (show (p n).toNat < 2 by cases p n <;> decide) (by
          calc 2 = 2 ^ 1 := rfl
            _ ≤ 2 ^ (i - n) := Nat.pow_le_pow_right (by omega) h3))
theorem bw_ext {p q : Nat → Bool} {n : Nat} (h : ∀ i, i < n → p i = q i) : bw p n = bw q n := by
  apply Nat.eq_of_testBit_eq
  intro i
  rw [bw_bit, bw_bit]
  by_cases hi : i < n
  · simp [hi, h i hi]
  · simp [hi]
theorem bw_inj {p q : Nat → Bool} {n : Nat} (h : bw p n = bw q n) (i : Nat) (hi : i < n) : p i = q i := by
  have := congrArg (fun x => x.testBit i) h
  simpa [bw_bit, hi] using this
theorem bw_or (p q : Nat → Bool) (n : Nat) : bw p n ||| bw q n = bw (fun i => p i || q i) n := by
  apply Nat.eq_of_testBit_eq
  intro i
  rw [Nat.testBit_or, bw_bit, bw_bit, bw_bit]
  cases decide (i < n) <;> simp
theorem bw_and (p q : Nat → Bool) (n : Nat) : bw p n &&& bw q n = bw (fun i => p i && q i) n := by
  apply Nat.eq_of_testBit_eq
  intro i
  rw [Nat.testBit_and, bw_bit, bw_bit, bw_bit]
  cases decide (i < n) <;> simp
theorem bw_minus (p q : Nat → Bool) : bw p 64 &&& (18446744073709551615 - bw q 64) = bw (fun i => p i && !q i) 64 := by
  apply Nat.eq_of_testBit_eq
  intro i
  rw [Nat.testBit_and, show 18446744073709551615 - bw q 64 = 2 ^ 64 - (bw q 64 + 1) by omega, Nat.testBit_two_pow_sub_succ (bw_lt q 64), bw_bit, bw_bit, bw_bit]
  cases decide (i < 64) <;> simp
theorem bw_one {r n : Nat} (hr : r < n) : bw (fun i => i == r) n = 2 ^ r := by
  apply Nat.eq_of_testBit_eq
  intro i
  rw [bw_bit, Nat.testBit_two_pow]
  by_cases h : i = r
  · subst h; simp [hr]
  · simp [h, Ne.symm h]
theorem bw_none (n : Nat) : bw (fun _ => false) n = 0 := by
  apply Nat.eq_of_testBit_eq
  intro i
  rw [bw_bit]; simp
theorem bw_zero {p : Nat → Bool} {n : Nat} : bw p n = 0 ↔ ∀ i, i < n → p i = false := by
  constructor
  · intro h i hi
    exact bw_inj (h.trans (bw_none n).symm) i hi
  · intro h
    rw [bw_ext h, bw_none]
theorem bw_shift (p : Nat → Bool) {r n : Nat} (hr : r < n) : bw p n / 2 ^ r % 2 = (p r).toNat := by
  have h := bw_bit p n r
  rw [Nat.testBit_eq_decide_div_mod_eq] at h
  cases hp : p r
  · rw [hp] at h
    simp at h
    simp only [Bool.toNat_false]
    omega
  · rw [hp] at h
    simp [hr] at h
    simp only [Bool.toNat_true]
    omega

/-- The least number of a set that is not empty. -/
theorem bw_least {p : Nat → Bool} {n : Nat} (h : bw p n ≠ 0) : ∃ j, j < n ∧ p j = true ∧ ∀ i, i < j → p i = false := by
  induction n with
  | zero => exact absurd rfl h
  | succ n ih =>
    by_cases h0 : bw p n = 0
    · have hz := bw_zero.1 h0
      refine ⟨n, by omega, ?_, hz⟩
      cases hp : p n
      · rw [bw, hp, h0] at h; simp at h
      · rfl
    · obtain ⟨j, hj, h1, h2⟩ := ih h0
      exact ⟨j, by omega, h1, h2⟩
theorem bw_low {p : Nat → Bool} {n j : Nat} (hj : j < n) (hp : p j = true) (hl : ∀ i, i < j → p i = false) (i : Nat) : (bw p n - 1).testBit i = if i < j then true else decide (i < n) && (p i && i != j) := by
  have hx : ∃ m, bw p n = 2 ^ j * (2 * m + 1) := by
    refine ⟨bw p n / 2 ^ j / 2, ?_⟩
    have h1 : bw p n % 2 ^ j = 0 := by
      apply Nat.eq_of_testBit_eq
      intro i
      rw [Nat.testBit_mod_two_pow, bw_bit]
      by_cases hi : i < j
      · simp [hl i hi]
      · simp [hi]
    have h2 : bw p n / 2 ^ j % 2 = 1 := by rw [bw_shift p hj, hp]; rfl
    have h3 := Nat.div_add_mod (bw p n) (2 ^ j)
    have h4 := Nat.div_add_mod (bw p n / 2 ^ j) 2
    rw [h1] at h3
    rw [h2] at h4
    rw [h4]; omega
  obtain ⟨m, hm⟩ := hx
  have h1 : bw p n - 1 = 2 ^ j * (2 * m) + (2 ^ j - 1) := by
    rw [hm, Nat.mul_add, Nat.mul_one]
    have := Nat.two_pow_pos j
    omega
  have h2 : 2 ^ j - 1 < 2 ^ j := by have := Nat.two_pow_pos j; omega
  rw [h1, Nat.testBit_two_pow_mul_add _ h2]
  have h3 := bw_bit p n i
  rw [hm, show 2 ^ j * (2 * m + 1) = 2 ^ j * (2 * m + 1) + 0 from rfl, Nat.testBit_two_pow_mul_add _ (Nat.two_pow_pos j)] at h3
  by_cases hi : i < j
  · rw [if_pos hi, if_pos hi, Nat.testBit_two_pow_sub_one]; simp [hi]
  · rw [if_neg hi, if_neg hi]
    rw [if_neg hi] at h3
    by_cases he : i = j
    · subst he
      simp [Nat.testBit_zero]
    · obtain ⟨k, hk⟩ : ∃ k, i - j = k + 1 := ⟨i - j - 1, by omega⟩
      rw [hk] at h3 ⊢
      rw [Nat.testBit_succ, show (2 * m + 1) / 2 = m by omega] at h3
      rw [Nat.testBit_succ, show 2 * m / 2 = m by omega, h3]
      have : (i != j) = true := by simpa using he
      rw [this, Bool.and_true]
theorem bw_drop {p : Nat → Bool} {n j : Nat} (hj : j < n) (hp : p j = true) (hl : ∀ i, i < j → p i = false) : bw p n &&& (bw p n - 1) = bw (fun i => p i && i != j) n := by
  apply Nat.eq_of_testBit_eq
  intro i
  rw [Nat.testBit_and, bw_bit, bw_bit, bw_low hj hp hl]
  by_cases hi : i < j
  · simp [hi, hl i hi]
  · rw [if_neg hi]
    cases decide (i < n) <;> cases p i <;> simp
theorem bw_lowest {p : Nat → Bool} {j : Nat} (hj : j < 64) (hp : p j = true) (hl : ∀ i, i < j → p i = false) : bw p 64 &&& (18446744073709551616 - bw p 64) = 2 ^ j := by
  have h0 : 0 < bw p 64 := by
    rcases Nat.eq_zero_or_pos (bw p 64) with h | h
    · have := bw_zero.1 h j hj
      rw [hp] at this; cases this
    · exact h
  have hlt := bw_lt p 64
  rw [show 18446744073709551616 - bw p 64 = 2 ^ 64 - ((bw p 64 - 1) + 1) by omega]
  apply Nat.eq_of_testBit_eq
  intro i
  rw [Nat.testBit_and, Nat.testBit_two_pow_sub_succ (by omega), bw_bit, bw_low hj hp hl, Nat.testBit_two_pow]
  by_cases hi : i < j
  · simp [hi, hl i hi]; omega
  · rw [if_neg hi]
    by_cases he : i = j
    · subst he; simp [hj, hp]
    · have h1 : (i != j) = true := by simpa using he
      have h2 : decide (j = i) = false := by simp; omega
      rw [h1, h2]
      cases decide (i < 64) <;> cases p i <;> simp
end Go.Proofs.YtndkcimajeofcaaGreatDoor
