import Derived.Test.YtdfghgcfihhmjaaDoorBack3
namespace Go.Proofs.YtdfghgcfihhmjaaDoor
open Go.RowKit

theorem plains_at : ∀ (args : List MT), Tr.plains (args.map MT.tr) = true → ∀ (k : Nat) (hk : k < args.length), args[k].tr.plain = true
  | [], _, k, hk => absurd hk (Nat.not_lt_zero _)
  | t :: ts, h, k, hk => by
    rw [List.map_cons, Tr.plains, Bool.and_eq_true] at h
    cases k with
    | zero => exact h.1
    | succ k => exact plains_at ts h.2 k (by simpa using hk)

set_option maxRecDepth 100000 in
set_option maxHeartbeats 1000000 in
/-- A plain tree is reported as one. -/
theorem plain_true (T : MT) : ∀ (w : World), MT.In w.heap.size w T → T.tr.plain = true →
    Calls Tryd.prog 37 #[T.val] w fun e w' => e = .returned (.bool true) ∧ Below w.heap.size w w' := by
  induction T using MT.induct with
  | h op nn A c args ih =>
    intro w hin hpl
    rw [MT.In] at hin
    obtain ⟨hlc, hc, hr, hrow⟩ := hin
    have hsz : args.length ≤ 9223372036854775807 := by omega
    rw [MT.tr_mk, Tr.plain, Bool.and_eq_true] at hpl
    obtain ⟨hp3, hps⟩ := hpl
    have hpk := plains_at args hps
    obtain ⟨W1, hW1, hB1, hs1, hblk1⟩ := newBlk w _ rfl #[.int .i64 op, .int .i64 nn, .slice A args.length c] 27
    obtain ⟨b0, b1, b2⟩ := box_cells hblk1 (Below.refl _ W1)
    have HIH : ∀ (k : Nat) (hk : k < args.length) (W5 : World), Below w.heap.size w W5 → Calls Tryd.prog 37 #[.agg #[.int .i64 args[k].op, .int .i64 args[k].n, .slice args[k].A args[k].args.length args[k].c]] W5 fun e w' => e = .returned (.bool true) ∧ Below W5.heap.size W5 w' := fun k hk W5 hb => ih k hk W5 ((hrow.at_ k hk).later hb) (hpk k hk)
    simp only [MT.val, MT.op, MT.n, MT.A, MT.c, MT.args]
    have H := Lib.hid HIH
    clear ih hrow hpk HIH hps
    rcases h3 : (op == 3)
    · clear hp3
      go_enter Tryd.func37, Tryd.ntmps37
      go_wp2_with fail
      go_loopw [25] (fun i wr => ∃ k : Nat, k ≤ args.length ∧ i = .int .i64 k ∧ Below W1.heap.size W1 wr) (fun i _ => args.length - (intOf i).toNat)
      case atStart => exact ⟨0, Nat.zero_le _, rfl, Below.refl _ W1⟩
      case round =>
        obtain ⟨k, hk, rfl, hbw⟩ := hrel
        have hb0 : Below w.heap.size w wr := hB1.trans (hbw.mono (by omega))
        by_cases hlt : k < args.length
        · obtain ⟨ab, aoff, rfl, -, g0, g1, g2⟩ := elem3 hr hb0 hlt
          obtain ⟨W5, hW5, hB5, hs5, hblk5⟩ := newBlk wr _ rfl #[.int .i64 args[k].op, .int .i64 args[k].n, .slice args[k].A args[k].args.length args[k].c] 27
          have hb5 : Below w.heap.size w W5 := hb0.trans (hB5.mono hb0.size)
          obtain ⟨e0, e1, e2⟩ := box_cells hblk5 (Below.refl _ W5)
          have hih := H.out k hlt W5 hb5
          go_wp2_with (go_at_call 37; refine hih.mono ?_; clear hih; rintro e w' ⟨rfl, hb2⟩)
          go_roundw
          case rel => exact ⟨k + 1, by omega, by go_num, (hbw.trans (hB5.mono hbw.size)).trans (hb2.mono (by have := hbw.size; omega))⟩
          case measure => simp [intOf]; omega
        · go_wp2
          go_ret
          exact ⟨rfl, hb0⟩
    · have hop : op = 3 := by simpa using h3
      subst hop
      have hone : ∃ hk : 0 < args.length, args.length = 1 ∧ (args[0]'hk).op = 0 := by
        match args, hp3 with
        | [], h => simp [oneName] at h
        | [X], h => exact ⟨by simp, rfl, by obtain ⟨xo, xn, xA, xc, xa⟩ := X; simpa [MT.tr_mk, Tr.op, oneName, MT.op] using h⟩
        | _ :: _ :: _, h => simp [oneName] at h
      obtain ⟨hk0, hl1, hX⟩ := hone
      obtain ⟨ab0, aoff0, rfl, hab, q0, q1, q2⟩ := elem3 (k := 0) hr hB1 hk0
      rw [hX] at q0
      replace q0 := add_zero' q0
      have hl1' : ((args.length : Int) != 1) = false := by rw [hl1]; rfl
      have hXt : ((0 : Int) != 0) = false := rfl
      have HL1 := Lib.hid hl1
      clear hp3 q1 q2 hX hl1
      go_enter Tryd.func37, Tryd.ntmps37
      go_wp2_with fail
      go_loopw [25] (fun i wr => ∃ k : Nat, k ≤ args.length ∧ i = .int .i64 k ∧ Below W1.heap.size W1 wr) (fun i _ => args.length - (intOf i).toNat)
      case atStart => exact ⟨0, Nat.zero_le _, rfl, Below.refl _ W1⟩
      case round =>
        obtain ⟨k, hk, rfl, hbw⟩ := hrel
        have hb0 : Below w.heap.size w wr := hB1.trans (hbw.mono (by omega))
        by_cases hlt : k < args.length
        · obtain ⟨ab, aoff, he, -, g0, g1, g2⟩ := elem3 hr hb0 hlt
          cases he
          obtain ⟨W5, hW5, hB5, hs5, hblk5⟩ := newBlk wr _ rfl #[.int .i64 args[k].op, .int .i64 args[k].n, .slice args[k].A args[k].args.length args[k].c] 27
          have hb5 : Below w.heap.size w W5 := hb0.trans (hB5.mono hb0.size)
          obtain ⟨e0, e1, e2⟩ := box_cells hblk5 (Below.refl _ W5)
          have hih := H.out k hlt W5 hb5
          go_wp2_with (go_at_call 37; refine hih.mono ?_; clear hih; rintro e w' ⟨rfl, hb2⟩)
          go_roundw
          case rel => exact ⟨k + 1, by omega, by go_num, (hbw.trans (hB5.mono hbw.size)).trans (hb2.mono (by have := hbw.size; omega))⟩
          case measure => simp [intOf]; omega
        · go_wp2
          go_ret
          exact ⟨rfl, hb0⟩
end Go.Proofs.YtdfghgcfihhmjaaDoor
