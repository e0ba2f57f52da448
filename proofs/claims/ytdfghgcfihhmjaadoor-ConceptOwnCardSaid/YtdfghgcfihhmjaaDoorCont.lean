import Derived.Test.YtdfghgcfihhmjaaDoorRSubs
import Derived.Test.YtdfghgcfihhmjaaDoorSame
namespace Go.Proofs.YtdfghgcfihhmjaaDoor
open Go.RowKit

set_option maxRecDepth 100000 in
set_option maxHeartbeats 2000000 in
/-- met: the closure of Subs, over the node that lies in block Bx. -/
theorem Subs1_any (P N : MT) (Bx : Nat) (w : World) (hP : P.In w.heap.size w) (hN : N.In w.heap.size w) (hbx : w.heap[Bx]? = some (.cells #[.int .i64 N.op, .int .i64 N.n, .slice N.A N.args.length N.c] 27)) :
    Calls Tryd.prog 79 #[P.val, .pointer (some ⟨Bx, 0, none⟩)] w fun e w' => e = .returned (.bool (P.tr.beq N.tr)) ∧ Below w.heap.size w w' := by
  obtain ⟨W1, hW1, hB1, hs1, hblk1⟩ := newBlk w _ rfl #[.int .i64 P.op, .int .i64 P.n, .slice P.A P.args.length P.c] 27
  obtain ⟨a0, a1, a2⟩ := box_cells hblk1 (Below.refl _ W1)
  obtain ⟨b0, b1, b2⟩ := box_cells (blk_below hbx hB1) (Below.refl _ W1)
  have hsm := cSame_any P N W1 (hP.later hB1) (hN.later hB1)
  simp only [MT.val] at hsm ⊢
  go_enter Tryd.func79, Tryd.ntmps79
  go_wp2_with (go_at_call 22; refine hsm.mono ?_; rintro e w4 ⟨rfl, hb4⟩)
  go_ret
  exact ⟨rfl, hB1.trans (hb4.mono hB1.size)⟩

def anyP (Ls : List MT) (t : Tr) : Bool := Ls.any fun d => d.tr.beq t

set_option maxRecDepth 100000 in
set_option maxHeartbeats 4000000 in
theorem IndexFunc_any {base : Nat} (v : Value) (Ls : List MT) (N : MT) (Bx : Nat) (w : World) (h : TRow base w v Ls) (hL : ∀ t ∈ Ls, t.In w.heap.size w) (hN : N.In w.heap.size w) (hbx : w.heap[Bx]? = some (.cells #[.int .i64 N.op, .int .i64 N.n, .slice N.A N.args.length N.c] 27)) :
    Calls Tryd.prog 117 #[v, .func (.func 79) #[] #[.pointer (some ⟨Bx, 0, none⟩)]] w fun e w' => (∃ i : Int, e = .returned (.int .i64 i) ∧ decide (i ≥ 0) = anyP Ls N.tr) ∧ Below w.heap.size w w' := by
  obtain ⟨A, c, rfl, hlen, hg, hr⟩ := h.cells
  have HL := Lib.hid hL
  have HN := Lib.hid hN
  clear hL hN
  go_enter Tryd.func117, Tryd.ntmps117
  go_wp2_with fail
  go_loopw [8] (fun i wr => ∃ k : Nat, k ≤ Ls.length ∧ i = .int .i64 k ∧ (∀ j (hj : j < Ls.length), j < k → Ls[j].tr.beq N.tr = false) ∧ Below w.heap.size w wr) (fun i _ => Ls.length - (intOf i).toNat)
  case atStart => exact ⟨0, Nat.zero_le _, rfl, fun j _ h => absurd h (by omega), Below.refl _ _⟩
  case round =>
    obtain ⟨k, hk, rfl, hall, hbw⟩ := hrel
    have HA := Lib.hid hall
    clear hall
    by_cases hlt : k < Ls.length
    · obtain ⟨ab, aoff, rfl, -, g0, g1, g2⟩ := elem3 hr hbw hlt
      have hsm := Subs1_any Ls[k] N Bx wr ((HL.out _ (List.getElem_mem hlt)).later hbw) (HN.out.later hbw) (blk_below hbx hbw)
      simp only [MT.val] at hsm
      rcases hq : Ls[k].tr.beq N.tr
      · rw [hq] at hsm
        have HNX := Lib.hid (show ∀ j (hj : j < Ls.length), j < k + 1 → Ls[j].tr.beq N.tr = false from fun j hj hjk => by
          by_cases e : j = k
          · subst e; exact hq
          · exact HA.out j hj (by omega))
        clear hq
        go_wp2_with (go_at_call 79; refine hsm.mono ?_; rintro e w4 ⟨rfl, hb4⟩)
        go_roundw
        case rel => exact ⟨k + 1, by omega, by go_num, HNX.out, hbw.trans (hb4.mono hbw.size)⟩
        case measure => simp [intOf]; omega
      · rw [hq] at hsm
        have HF := Lib.hid (show anyP Ls N.tr = true by rw [anyP, List.any_eq_true]; exact ⟨Ls[k], List.getElem_mem hlt, hq⟩)
        clear hq
        go_wp2_with (go_at_call 79; refine hsm.mono ?_; rintro e w4 ⟨rfl, hb4⟩)
        go_ret
        exact ⟨⟨_, rfl, by rw [HF.out]; simp⟩, hbw.trans (hb4.mono hbw.size)⟩
    · have HF := Lib.hid (show anyP Ls N.tr = false by
        rw [anyP, List.any_eq_false]
        intro x hx
        obtain ⟨j, hj, rfl⟩ := List.getElem_of_mem hx
        rw [HA.out j hj (by omega)]; simp)
      go_wp2
      go_ret
      exact ⟨⟨_, rfl, by rw [HF.out]; rfl⟩, hbw⟩

set_option maxRecDepth 100000 in
set_option maxHeartbeats 2000000 in
theorem ContainsFunc_any {base : Nat} (v : Value) (Ls : List MT) (N : MT) (Bx : Nat) (w : World) (h : TRow base w v Ls) (hL : ∀ t ∈ Ls, t.In w.heap.size w) (hN : N.In w.heap.size w) (hbx : w.heap[Bx]? = some (.cells #[.int .i64 N.op, .int .i64 N.n, .slice N.A N.args.length N.c] 27)) :
    Calls Tryd.prog 80 #[v, .func (.func 79) #[] #[.pointer (some ⟨Bx, 0, none⟩)]] w fun e w' => e = .returned (.bool (anyP Ls N.tr)) ∧ Below w.heap.size w w' := by
  have hix := IndexFunc_any v Ls N Bx w h hL hN hbx
  clear hL hN
  rcases hq : anyP Ls N.tr
  all_goals
    rw [hq] at hix
    go_enter Tryd.func80, Tryd.ntmps80
    go_wp2_with (go_at_call 117; refine hix.mono ?_; rintro e w4 ⟨⟨i, rfl, hdi⟩, hb4⟩)
    go_ret
    exact ⟨ret_bool (by rw [← hdi]), hb4⟩
end Go.Proofs.YtdfghgcfihhmjaaDoor
