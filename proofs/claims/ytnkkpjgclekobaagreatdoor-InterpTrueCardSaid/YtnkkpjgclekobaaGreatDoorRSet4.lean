import Derived.Test.YtnkkpjgclekobaaGreatDoorRSet
import Derived.Test.YtnkkpjgclekobaaGreatDoorEnds7
namespace Go.Proofs.YtnkkpjgclekobaaGreatDoor
open Go.RowKit

theorem two_of_len {α : Type} : ∀ {l : List α}, l.length = 2 → ∃ a b, l = [a, b]
  | [a, b], _ => ⟨a, b, rfl⟩
theorem lists_okI {i : IN} {m k : Nat} (hm : i.size = m) (hl : listsB i = true) (hk : k < i.C.length) : okI m i.C[k] = true := by
  rw [listsB, Bool.and_eq_true, Bool.and_eq_true, List.all_eq_true, List.all_eq_true] at hl
  rw [← hm]; exact hl.1 _ (List.getElem_mem hk)
theorem lists_okP {i : IN} {m k : Nat} (hm : i.size = m) (hl : listsB i = true) (hk : k < i.R.length) : okP m i.R[k] = true := by
  rw [listsB, Bool.and_eq_true, Bool.and_eq_true, List.all_eq_true, List.all_eq_true] at hl
  rw [← hm]; exact hl.2.1 _ (List.getElem_mem hk)
theorem endsF_even {i : IN} {k r : Nat} (hk : r = 2 * k + 0) (hkl : k < i.R.length) (x : Nat) : endsF i r x = fun y : Nat => (i.R[k].l).contains ((x : Int), (y : Int)) := by
  funext y
  rw [endsF, hk, show (2 * k + 0) / 2 = k by omega, List.getElem?_eq_getElem hkl]; simp
theorem endsF_odd {i : IN} {k r : Nat} (hk : r = 2 * k + 1) (hkl : k < i.R.length) (x : Nat) : endsF i r x = fun y : Nat => (i.R[k].l).contains ((y : Int), (x : Int)) := by
  funext y
  rw [endsF, hk, show (2 * k + 1) / 2 = k by omega, List.getElem?_eq_getElem hkl]; simp

/-- An element of a concept is an element. -/
theorem semT_lt (i : IN) (m : Nat) (hm : i.size = m) (hl : listsB i = true) (T : MT) : T.tr.wfT i.C.length i.R.length = true → ∀ x, semT i m T.tr x = true → x < m := by
  induction T using MT.induct with
  | h op nn A c args ih =>
    intro hwf x hx
    rw [MT.tr_mk, Tr.wfT, Bool.and_eq_true, List.length_map] at hwf
    obtain ⟨hnode, hargs⟩ := hwf
    simp only [wfB, Bool.and_eq_true, decide_eq_true_eq, beq_iff_eq] at hnode
    obtain ⟨h0, h8, hlen, hn0, hn1⟩ := hnode
    have hsem : semT i m (MT.mk op nn A c args).tr = comb i m op nn (args.map fun t => semT i m t.tr) := by
      rw [MT.tr_mk, semT, semL_map, List.map_map]; rfl
    rw [hsem] at hx
    have hop : op = 0 ∨ op = 1 ∨ op = 2 ∨ op = 3 ∨ op = 4 ∨ op = 5 ∨ op = 6 ∨ op = 7 := by omega
    rcases hop with rfl | rfl | rfl | rfl | rfl | rfl | rfl | rfl
    · have hk : nn.toNat < i.C.length := by simp [choicesF] at hn1; omega
      have hok := (okI_facts (lists_okI hm hl hk)).1
      simp only [comb, if_true] at hx
      rw [namesF, List.getElem?_eq_getElem hk] at hx
      have := hok _ (List.contains_iff_mem.1 hx)
      omega
    · simp [comb] at hx; exact hx
    · simp [comb] at hx
    · simp [comb] at hx; exact hx.1
    · have hl2 : 1 < args.length := by simp [arityF] at hlen; omega
      have he : comb i m 4 nn (args.map fun t => semT i m t.tr) = fun x => (semT i m args[0].tr) x && (semT i m args[1].tr) x := by
        simp only [comb, headD_at (show 0 < (args.map fun t => semT i m t.tr).length by rw [List.length_map]; omega), head1_at (show 1 < (args.map fun t => semT i m t.tr).length by rw [List.length_map]; exact hl2), List.getElem_map]; rfl
      rw [he] at hx
      simp only [Bool.and_eq_true] at hx
      exact ih 0 (by omega) (wfTs_at hargs 0 (by omega)) x hx.1
    · have hl2 : 1 < args.length := by simp [arityF] at hlen; omega
      have he : comb i m 5 nn (args.map fun t => semT i m t.tr) = fun x => (semT i m args[0].tr) x || (semT i m args[1].tr) x := by
        simp only [comb, headD_at (show 0 < (args.map fun t => semT i m t.tr).length by rw [List.length_map]; omega), head1_at (show 1 < (args.map fun t => semT i m t.tr).length by rw [List.length_map]; exact hl2), List.getElem_map]; rfl
      rw [he] at hx
      simp only [Bool.or_eq_true] at hx
      exact hx.elim (ih 0 (by omega) (wfTs_at hargs 0 (by omega)) x) (ih 1 hl2 (wfTs_at hargs 1 hl2) x)
    · simp [comb] at hx; exact hx.1
    · simp [comb] at hx; exact hx.1

set_option maxHeartbeats 1000000 in
/-- THE REFERENCE'S SET: the elements of a valid concept. -/
theorem rSet_any (i : IN) (m : Nat) (hm : i.size = m) (h256 : m ≤ 256) (hl : listsB i = true) (T : MT) : ∀ w, i.In w.heap.size w → T.In w.heap.size w → T.tr.wfT i.C.length i.R.length = true → Calls Tryz.prog 99 #[T.val, i.val] w (RetB m (semT i m T.tr) w) := by
  induction T using MT.induct with
  | h op nn A c args ih =>
    intro w hi hin hwf
    rw [MT.In] at hin
    obtain ⟨hlc, hc, hr, hrow⟩ := hin
    rw [MT.tr_mk, Tr.wfT, Bool.and_eq_true, List.length_map] at hwf
    obtain ⟨hnode, hargs⟩ := hwf
    simp only [wfB, Bool.and_eq_true, decide_eq_true_eq, beq_iff_eq] at hnode
    obtain ⟨h0, h8, hlen, hn0, hn1⟩ := hnode
    have hE : ∀ k (hk : k < args.length) w', Below w.heap.size w w' → Calls Tryz.prog 99 #[args[k].val, i.val] w' (RetB m (semT i m args[k].tr) w') := fun k hk w' hb =>
      ih k hk w' (hi.later hb) ((hrow.at_ k hk).later hb) (wfTs_at hargs k hk)
    have hsem : semT i m (MT.mk op nn A c args).tr = comb i m op nn (args.map fun t => semT i m t.tr) := by
      rw [MT.tr_mk, semT, semL_map, List.map_map]; rfl
    have hop : op = 0 ∨ op = 1 ∨ op = 2 ∨ op = 3 ∨ op = 4 ∨ op = 5 ∨ op = 6 ∨ op = 7 := by omega
    rw [hsem]
    clear hsem hrow hargs
    rcases hop with rfl | rfl | rfl | rfl | rfl | rfl | rfl | rfl
    · have hk : nn.toNat < i.C.length := by simp [choicesF] at hn1; omega
      have ha : args = [] := by simpa [arityF] using hlen
      subst ha
      exact rSet_name i m hm h256 nn A c nn.toNat hk (by omega) (lists_okI hm hl hk) w hi hr
    · have ha : args = [] := by simpa [arityF] using hlen
      subst ha
      exact rSet_top i m hm h256 nn A c w hi hr
    · have ha : args = [] := by simpa [arityF] using hlen
      subst ha
      exact rSet_bot i m hm h256 nn A c w hi hr
    · obtain ⟨T0, rfl⟩ := List.length_eq_one_iff.1 (show args.length = 1 by simp [arityF] at hlen; omega)
      exact (rSet_not i m hm h256 nn A c T0 (semT i m T0.tr) w hi hr (hE 0 (by simp))).mono fun e w' h => h.ext fun x hx => by simp [comb, hx]
    · obtain ⟨T0, T1, rfl⟩ := two_of_len (show args.length = 2 by simp [arityF] at hlen; omega)
      exact (rSet_and i m hm h256 nn A c T0 T1 (semT i m T0.tr) (semT i m T1.tr) w hi hr (hE 0 (by simp)) (hE 1 (by simp))).mono fun e w' h => h.ext fun x hx => by simp [comb]
    · obtain ⟨T0, T1, rfl⟩ := two_of_len (show args.length = 2 by simp [arityF] at hlen; omega)
      exact (rSet_or i m hm h256 nn A c T0 T1 (semT i m T0.tr) (semT i m T1.tr) w hi hr (hE 0 (by simp)) (hE 1 (by simp))).mono fun e w' h => h.ext fun x hx => by simp [comb]
    · obtain ⟨T0, rfl⟩ := List.length_eq_one_iff.1 (show args.length = 1 by simp [arityF] at hlen; omega)
      have hk : nn.toNat / 2 < i.R.length := by simp [choicesF] at hn1; omega
      rcases Nat.mod_two_eq_zero_or_one nn.toNat with h | h
      · exact (rSet_some0 i m hm h256 nn A c T0 (semT i m T0.tr) nn.toNat (nn.toNat / 2) hk (by omega) (by omega) (lists_okP hm hl hk) w hi hr (hE 0 (by simp))).mono fun e w' h' => h'.ext fun x hx => by
          show meetB (fun y : Nat => (i.R[nn.toNat / 2].l).contains ((x : Int), (y : Int))) _ = _
          rw [← endsF_even (i := i) (k := nn.toNat / 2) (r := nn.toNat) (by omega) hk x]; simp [comb, hx]
      · exact (rSet_some1 i m hm h256 nn A c T0 (semT i m T0.tr) nn.toNat (nn.toNat / 2) hk (by omega) (by omega) (lists_okP hm hl hk) w hi hr (hE 0 (by simp))).mono fun e w' h' => h'.ext fun x hx => by
          show meetB (fun y : Nat => (i.R[nn.toNat / 2].l).contains ((y : Int), (x : Int))) _ = _
          rw [← endsF_odd (i := i) (k := nn.toNat / 2) (r := nn.toNat) (by omega) hk x]; simp [comb, hx]
    · obtain ⟨T0, rfl⟩ := List.length_eq_one_iff.1 (show args.length = 1 by simp [arityF] at hlen; omega)
      have hk : nn.toNat / 2 < i.R.length := by simp [choicesF] at hn1; omega
      rcases Nat.mod_two_eq_zero_or_one nn.toNat with h | h
      · exact (rSet_all0 i m hm h256 nn A c T0 (semT i m T0.tr) nn.toNat (nn.toNat / 2) hk (by omega) (by omega) (lists_okP hm hl hk) w hi hr (hE 0 (by simp))).mono fun e w' h' => h'.ext fun x hx => by
          show subB (fun y : Nat => (i.R[nn.toNat / 2].l).contains ((x : Int), (y : Int))) _ = _
          rw [← endsF_even (i := i) (k := nn.toNat / 2) (r := nn.toNat) (by omega) hk x]; simp [comb, hx]
      · exact (rSet_all1 i m hm h256 nn A c T0 (semT i m T0.tr) nn.toNat (nn.toNat / 2) hk (by omega) (by omega) (lists_okP hm hl hk) w hi hr (hE 0 (by simp))).mono fun e w' h' => h'.ext fun x hx => by
          show subB (fun y : Nat => (i.R[nn.toNat / 2].l).contains ((y : Int), (x : Int))) _ = _
          rw [← endsF_odd (i := i) (k := nn.toNat / 2) (r := nn.toNat) (by omega) hk x]; simp [comb, hx]
end Go.Proofs.YtnkkpjgclekobaaGreatDoor

namespace Go.Proofs.YtnkkpjgclekobaaGreatDoor
open Go.RowKit

/-- The elements below j, in order. -/
def selR (p : Nat → Bool) (j : Nat) : List Int := ((List.range j).filter p).map fun y : Nat => (y : Int)
theorem selR_next (p : Nat → Bool) (j : Nat) : selR p (j + 1) = selR p j ++ (if p j then [(j : Int)] else []) := by
  unfold selR
  rw [List.range_succ, List.filter_append, List.map_append]
  cases h : p j <;> simp [h]
theorem selR_len (p : Nat → Bool) (j : Nat) : (selR p j).length ≤ j := by
  unfold selR
  rw [List.length_map]
  exact Nat.le_trans (List.length_filter_le _ _) (by simp)
/-- The program's list is the reference's. -/
theorem selR_els {p : Nat → Bool} {m : Nat} (h256 : m ≤ 256) (hp : ∀ x, p x = true → x < m) : (elsF p 0).map (fun y : Nat => (y : Int)) = selR p m := by
  unfold selR
  congr 1
  exact asc_ext (lt := (· < ·)) (fun a => Nat.lt_irrefl a) (fun a b c => Nat.lt_trans) asc_elsF (List.pairwise_lt_range.filter _) (fun x => by
    rw [mem_elsF, List.mem_filter, List.mem_range]
    exact ⟨fun h => ⟨hp x h.2, h.2⟩, fun h => ⟨by omega, h.2⟩⟩)
def RetI (l : List Int) (w : World) (e : Ending) (w' : World) : Prop := ∃ s : IL, e = .returned (.slice s.A s.l.length s.c) ∧ s.l = l ∧ s.In w'.heap.size w' ∧ Below w.heap.size w w'

end Go.Proofs.YtnkkpjgclekobaaGreatDoor

namespace Go.Proofs.YtnkkpjgclekobaaGreatDoor
open Go.RowKit

theorem subB_no {p q : Nat → Bool} {x : Nat} (hx : x < 256) (hp : p x = true) (hq : q x = false) : subB p q = false := by
  rw [subB, List.all_eq_false]
  exact ⟨x, List.mem_range.2 hx, by simp [hp, hq]⟩
theorem subB_yes {p q : Nat → Bool} (h : ∀ x, p x = true → q x = true) : subB p q = true := by
  rw [subB, List.all_eq_true]
  intro x _
  cases hp : p x
  · rfl
  · rw [h x hp]; rfl

set_option maxRecDepth 100000 in
set_option maxHeartbeats 8000000 in
theorem rIncluded_any (i : IN) (m : Nat) (hm : i.size = m) (h256 : m ≤ 256) (hl : listsB i = true) (T D : MT) (w : World) (hi : i.In w.heap.size w) (hT : T.In w.heap.size w) (hD : D.In w.heap.size w) (hwT : T.tr.wfT i.C.length i.R.length = true) (hwD : D.tr.wfT i.C.length i.R.length = true) :
    Calls Tryz.prog 96 #[T.val, D.val, i.val] w fun e w' => e = .returned (.bool (subB (semT i m T.tr) (semT i m D.tr))) ∧ Below w.heap.size w w' := by
  obtain ⟨W1, hW1, hB1, hs1, hk1⟩ := newBlk w _ rfl #[.int .i64 T.op, .int .i64 T.n, .slice T.A T.args.length T.c] 54
  obtain ⟨W2, hW2, hB2, hs2, hk2⟩ := newBlk W1 _ hs1 #[.int .i64 D.op, .int .i64 D.n, .slice D.A D.args.length D.c] 54
  obtain ⟨W3, hW3, hB3, hs3, hk3⟩ := newBlk W2 _ hs2 #[.int .i64 i.size, .slice i.CA i.C.length i.cc, .slice i.RA i.R.length i.rc, .slice i.I.A i.I.l.length i.I.c] 35
  have hB : Below w.heap.size w W3 := (hB1.trans (hB2.mono (by omega))).trans (hB3.mono (by omega))
  have hk13 := (hB3.block w.heap.size (by omega)).trans ((hB2.block w.heap.size (by omega)).trans hk1)
  have hk23 := (hB3.block (w.heap.size + 1) (by omega)).trans hk2
  have hS : ∀ w', Below W3.heap.size W3 w' → ((w'.cell? ⟨w.heap.size, 0, none⟩ = some (.int .i64 T.op) ∧ w'.cell? ⟨w.heap.size, 1, none⟩ = some (.int .i64 T.n) ∧ w'.cell? ⟨w.heap.size, 2, none⟩ = some (.slice T.A T.args.length T.c)) ∧ (w'.cell? ⟨w.heap.size + 1, 0, none⟩ = some (.int .i64 D.op) ∧ w'.cell? ⟨w.heap.size + 1, 1, none⟩ = some (.int .i64 D.n) ∧ w'.cell? ⟨w.heap.size + 1, 2, none⟩ = some (.slice D.A D.args.length D.c)) ∧ w'.cell? ⟨w.heap.size + 1 + 1, 0, none⟩ = some (.int .i64 i.size) ∧ w'.cell? ⟨w.heap.size + 1 + 1, 1, none⟩ = some (.slice i.CA i.C.length i.cc) ∧ w'.cell? ⟨w.heap.size + 1 + 1, 2, none⟩ = some (.slice i.RA i.R.length i.rc) ∧ w'.cell? ⟨w.heap.size + 1 + 1, 3, none⟩ = some (.slice i.I.A i.I.l.length i.I.c)) := fun w' hb => ⟨⟨cell_of_blk (blk_lat hk13 hb) 0, cell_of_blk (blk_lat hk13 hb) 1, cell_of_blk (blk_lat hk13 hb) 2⟩, ⟨cell_of_blk (blk_lat hk23 hb) 0, cell_of_blk (blk_lat hk23 hb) 1, cell_of_blk (blk_lat hk23 hb) 2⟩, cell_of_blk (blk_lat hk3 hb) 0, cell_of_blk (blk_lat hk3 hb) 1, cell_of_blk (blk_lat hk3 hb) 2, cell_of_blk (blk_lat hk3 hb) 3⟩
  have hd : Below W3.heap.size W3 W3.drew := (Below.refl _ W3).drew
  have hse := fun w' (hb : Below W3.heap.size W3 w') => rSet_any i m hm h256 hl T w' ((hi.later hB).later hb) ((hT.later hB).later hb) hwT
  have hsd := fun w' (hb : Below W3.heap.size W3 w') => rSet_any i m hm h256 hl D w' ((hi.later hB).later hb) ((hD.later hB).later hb) hwD
  have hlt := semT_lt i m hm hl T hwT
  obtain ⟨p, hp⟩ : ∃ p, semT i m T.tr = p := ⟨_, rfl⟩
  obtain ⟨q, hq⟩ : ∃ q, semT i m D.tr = q := ⟨_, rfl⟩
  rw [hp] at hse hlt ⊢
  rw [hq] at hsd ⊢
  have HB := Lib.hid hB
  have HS := Lib.hid hS
  have HSE := Lib.hid hse
  have HSD := Lib.hid hsd
  have HLT := Lib.hid hlt
  simp only [MT.val, IN.val] at HSE HSD ⊢
  clear hB hm hi hT hD hwT hwD hl hp hq hS hse hsd hlt hk13 hk23 hk1 hk2 hk3 hB1 hB2 hB3
  go_enter Tryz.func96, Tryz.ntmps96
  go_wp2_with fail
  go_region_held (fun w' => (w'.cell? ⟨w.heap.size, 0, none⟩ = some (.int .i64 T.op) ∧ w'.cell? ⟨w.heap.size, 1, none⟩ = some (.int .i64 T.n) ∧ w'.cell? ⟨w.heap.size, 2, none⟩ = some (.slice T.A T.args.length T.c)) ∧ (w'.cell? ⟨w.heap.size + 1, 0, none⟩ = some (.int .i64 D.op) ∧ w'.cell? ⟨w.heap.size + 1, 1, none⟩ = some (.int .i64 D.n) ∧ w'.cell? ⟨w.heap.size + 1, 2, none⟩ = some (.slice D.A D.args.length D.c)) ∧ w'.cell? ⟨w.heap.size + 1 + 1, 0, none⟩ = some (.int .i64 i.size) ∧ w'.cell? ⟨w.heap.size + 1 + 1, 1, none⟩ = some (.slice i.CA i.C.length i.cc) ∧ w'.cell? ⟨w.heap.size + 1 + 1, 2, none⟩ = some (.slice i.RA i.R.length i.rc) ∧ w'.cell? ⟨w.heap.size + 1 + 1, 3, none⟩ = some (.slice i.I.A i.I.l.length i.I.c))
    (first | exact HS.out _ hd | exact HS.out _ hb4 | exact HS.out _ hb5)
    (first
      | (go_at_call 99; refine (HSD.out w4 hb4).mono ?_; rintro e w5 ⟨gb, rfl, hgb, hbrb, hb5'⟩; have hb45 := hb5'; have hb5 : Below W3.heap.size W3 w5 := hb4.trans (hb5'.mono hb4.size))
      | (go_at_call 99; refine (HSE.out W3.drew hd).mono ?_; rintro e w4 ⟨ga, rfl, hga, hbra, hb4'⟩; have hb4 : Below W3.heap.size W3 w4 := hd.trans hb4'))
  have hbA : BRow w5 ga m p := hbra.later hb45
  have hB5 : Below w.heap.size w w5 := HB.out.trans (hb5.mono (by omega))
  go_wp2_with fail
  go_loopw [18] (fun i' wr => ∃ j : Nat, j ≤ m ∧ i' = .int .i64 (j : Nat) ∧ (∀ x, x < j → p x = true → q x = true) ∧ wr = w5) (fun i' _ => m - (intOf i').toNat)
  case atStart => exact ⟨0, Nat.zero_le _, rfl, fun x h => absurd h (Nat.not_lt_zero _), rfl⟩
  case round =>
    obtain ⟨j, hj, rfl, hall, rfl⟩ := hrel
    have HA := Lib.hid hall
    clear hall
    by_cases hltj : j < m
    · have hca := hbA.cell hltj
      have hcb := hbrb.cell hltj
      have h0J : (0 : Int) ≤ j := by omega
      have hlJ : (j : Int) < m := by omega
      rcases qp : p j
      · rw [qp] at hca
        have QP := Lib.hid qp
        clear qp
        go_wp2_with fail
        go_roundw
        case rel => exact ⟨j + 1, by omega, by go_num, fun x hx hpx => by
          by_cases e : x = j
          · subst e; rw [QP.out] at hpx; cases hpx
          · exact HA.out x (by omega) hpx, by first | rfl | trivial⟩
        case measure => simp [intOf]; omega
      · rcases qq : q j
        · have HF := Lib.hid (subB_no (show j < 256 by omega) qp qq)
          rw [qp] at hca
          rw [qq] at hcb
          clear qp qq
          go_wp2_with fail
          go_ret
          exact ⟨by rw [HF.out]; rfl, hB5⟩
        · rw [qp] at hca
          rw [qq] at hcb
          have QQ := Lib.hid qq
          clear qp qq
          go_wp2_with fail
          go_roundw
          case rel => exact ⟨j + 1, by omega, by go_num, fun x hx hpx => by
            by_cases e : x = j
            · subst e; exact QQ.out
            · exact HA.out x (by omega) hpx, by first | rfl | trivial⟩
          case measure => simp [intOf]; omega
    · have HT := Lib.hid (subB_yes (p := p) (q := q) fun x hx => HA.out x (by have := HLT.out x hx; omega) hx)
      go_wp2_with fail
      go_ret
      exact ⟨by rw [HT.out]; rfl, hB5⟩
end Go.Proofs.YtnkkpjgclekobaaGreatDoor
