import Derived.Test.YtnkkpjgclekobaaDoorIEl
namespace Go.Proofs.YtnkkpjgclekobaaDoor
open Go.RowKit Go.Shelf

attribute [local go_sem] Oper.semAt_some

set_option maxRecDepth 100000 in
set_option maxHeartbeats 4000000 in
/-- cmp.Or of three codes. -/
theorem orErr3_any (g : Nat) (x y z : Int) (w : World) (h0 : w.cell? ⟨g, 0, none⟩ = some (.int .i64 x)) (h1 : w.cell? ⟨g, 1, none⟩ = some (.int .i64 y)) (h2 : w.cell? ⟨g, 2, none⟩ = some (.int .i64 z)) :
    Calls Tryd.prog 56 #[.slice (some ⟨g, 0, none⟩) 3 3] w fun e w' => e = .returned (.int .i64 (orF x (orF y z))) ∧ w' = w := by
  unfold orF
  by_cases hx : x = 0
  · subst hx
    rw [if_pos rfl]
    by_cases hy : y = 0
    · subst hy
      rw [if_pos rfl]
      rcases hz : (z != 0)
      · have hz0 : z = 0 := by simpa using hz
        subst hz0
        go_enter Tryd.func56, Tryd.ntmps56
        go_wp2_with fail
        go_loopw [8] (fun i wr => ((i = .int .i64 0) ∨ (i = .int .i64 1) ∨ (i = .int .i64 2) ∨ (i = .int .i64 3)) ∧ wr = w) (fun i _ => 3 - (intOf i).toNat)
        case atStart => exact ⟨.inl rfl, rfl⟩
        case round =>
          obtain ⟨rfl | rfl | rfl | rfl, rfl⟩ := hrel
          · go_wp2_with fail
            go_roundw
            case rel => exact ⟨.inr (.inl rfl), by first | rfl | trivial⟩
            case measure => simp [intOf]
          · go_wp2_with fail
            go_roundw
            case rel => exact ⟨.inr (.inr (.inl rfl)), by first | rfl | trivial⟩
            case measure => simp [intOf]
          · go_wp2_with fail
            go_roundw
            case rel => exact ⟨.inr (.inr (.inr rfl)), by first | rfl | trivial⟩
            case measure => simp [intOf]
          · go_wp2
            go_ret
            exact ⟨rfl, rfl⟩
      · go_enter Tryd.func56, Tryd.ntmps56
        go_wp2_with fail
        go_loopw [8] (fun i wr => ((i = .int .i64 0) ∨ (i = .int .i64 1) ∨ (i = .int .i64 2)) ∧ wr = w) (fun i _ => 3 - (intOf i).toNat)
        case atStart => exact ⟨.inl rfl, rfl⟩
        case round =>
          obtain ⟨rfl | rfl | rfl, rfl⟩ := hrel
          · go_wp2_with fail
            go_roundw
            case rel => exact ⟨.inr (.inl rfl), by first | rfl | trivial⟩
            case measure => simp [intOf]
          · go_wp2_with fail
            go_roundw
            case rel => exact ⟨.inr (.inr rfl), by first | rfl | trivial⟩
            case measure => simp [intOf]
          · go_wp2
            go_ret
            exact ⟨rfl, rfl⟩
    · rw [if_neg hy]
      have hy1 : (y != 0) = true := by simpa using hy
      go_enter Tryd.func56, Tryd.ntmps56
      go_wp2_with fail
      go_loopw [8] (fun i wr => ((i = .int .i64 0) ∨ (i = .int .i64 1)) ∧ wr = w) (fun i _ => 3 - (intOf i).toNat)
      case atStart => exact ⟨.inl rfl, rfl⟩
      case round =>
        obtain ⟨rfl | rfl, rfl⟩ := hrel
        · go_wp2_with fail
          go_roundw
          case rel => exact ⟨.inr rfl, by first | rfl | trivial⟩
          case measure => simp [intOf]
        · go_wp2
          go_ret
          exact ⟨rfl, rfl⟩
  · rw [if_neg hx]
    have hx1 : (x != 0) = true := by simpa using hx
    go_enter Tryd.func56, Tryd.ntmps56
    go_wp2_with fail
    go_loopw [8] (fun i wr => i = .int .i64 0 ∧ wr = w) (fun i _ => 3 - (intOf i).toNat)
    case atStart => exact ⟨rfl, rfl⟩
    case round =>
      obtain ⟨rfl, rfl⟩ := hrel
      go_wp2
      go_ret
      exact ⟨rfl, rfl⟩

set_option maxRecDepth 100000 in
set_option maxHeartbeats 8000000 in
/-- The world's includes. -/
theorem includes_any (i : IN) (m b : Nat) (h256 : m ≤ 256) (T D : MT) (w : World) (hw : WL w b i m) (hT : T.In w.heap.size w) (hD : D.In w.heap.size w) (hwT : T.tr.wfT i.C.length i.R.length = true) (hwD : D.tr.wfT i.C.length i.R.length = true) :
    Calls Tryd.prog 62 #[.pointer (some ⟨b, 0, none⟩), T.val, D.val] w fun e w' => e = .returned (.bool (subB (semT i m T.tr) (semT i m D.tr))) ∧ Below w.heap.size w w' := by
  obtain ⟨W1, hW1, hB1, hs1, hk1⟩ := newBlk w _ rfl #[.int .i64 T.op, .int .i64 T.n, .slice T.A T.args.length T.c] 27
  obtain ⟨W2, hW2, hB2, hs2, hk2⟩ := newBlk W1 _ hs1 #[.int .i64 D.op, .int .i64 D.n, .slice D.A D.args.length D.c] 27
  have hB : Below w.heap.size w W2 := (hB1.trans (hB2.mono (by omega)))
  have hkk1 := ((hB2.block (w.heap.size) (by omega)).trans hk1)
  have hS : ∀ w', Below W2.heap.size W2 w' → ((w'.cell? ⟨w.heap.size, 0, none⟩ = some (.int .i64 T.op) ∧ w'.cell? ⟨w.heap.size, 1, none⟩ = some (.int .i64 T.n) ∧ w'.cell? ⟨w.heap.size, 2, none⟩ = some (.slice T.A T.args.length T.c)) ∧ (w'.cell? ⟨w.heap.size + 1, 0, none⟩ = some (.int .i64 D.op) ∧ w'.cell? ⟨w.heap.size + 1, 1, none⟩ = some (.int .i64 D.n) ∧ w'.cell? ⟨w.heap.size + 1, 2, none⟩ = some (.slice D.A D.args.length D.c))) := fun w' hb => ⟨⟨cell_of_blk (blk_lat hkk1 hb) 0, cell_of_blk (blk_lat hkk1 hb) 1, cell_of_blk (blk_lat hkk1 hb) 2⟩, ⟨cell_of_blk (blk_lat hk2 hb) 0, cell_of_blk (blk_lat hk2 hb) 1, cell_of_blk (blk_lat hk2 hb) 2⟩⟩
  have hd : Below W2.heap.size W2 W2.drew := (Below.refl _ W2).drew
  have hse := fun w' (hb : Below W2.heap.size W2 w') => elements_any i m b h256 T w' ((hw.later hB).later hb) ((hT.later hB).later hb) hwT
  have hsd := fun w' (hb : Below W2.heap.size W2 w') => elements_any i m b h256 D w' ((hw.later hB).later hb) ((hD.later hB).later hb) hwD
  obtain ⟨p, hp⟩ : ∃ p, semT i m T.tr = p := ⟨_, rfl⟩
  obtain ⟨q, hq⟩ : ∃ q, semT i m D.tr = q := ⟨_, rfl⟩
  rw [hp] at hse ⊢
  rw [hq] at hsd ⊢
  have HB := Lib.hid hB
  have HS := Lib.hid hS
  have HSE := Lib.hid hse
  have HSD := Lib.hid hsd
  simp only [MT.val] at HSE HSD ⊢
  clear hB hw hT hD hwT hwD hp hq hS hse hsd hB1 hB2 hk1 hk2 hkk1
  go_enter Tryd.func62, Tryd.ntmps62
  go_wp2_with fail
  go_region_held (fun w' => (w'.cell? ⟨w.heap.size, 0, none⟩ = some (.int .i64 T.op) ∧ w'.cell? ⟨w.heap.size, 1, none⟩ = some (.int .i64 T.n) ∧ w'.cell? ⟨w.heap.size, 2, none⟩ = some (.slice T.A T.args.length T.c)) ∧ (w'.cell? ⟨w.heap.size + 1, 0, none⟩ = some (.int .i64 D.op) ∧ w'.cell? ⟨w.heap.size + 1, 1, none⟩ = some (.int .i64 D.n) ∧ w'.cell? ⟨w.heap.size + 1, 2, none⟩ = some (.slice D.A D.args.length D.c)))
    (first | exact HS.out _ hd | exact HS.out _ hb4 | exact HS.out _ hb5 | exact HS.out _ hb6)
    (first
      | (go_at_call 104; refine (bWithin_sw hs4 hs5 w5).mono ?_; rintro e w6 ⟨rfl, hb6'⟩; have hb6 : Below W2.heap.size W2 w6 := hb5.trans (hb6'.mono hb5.size))
      | (go_at_call 59; refine (HSD.out w4 hb4).mono ?_; rintro e w5 ⟨a5, b5, c5, d5, rfl, hs5, hb5'⟩; have hb5 : Below W2.heap.size W2 w5 := hb4.trans (hb5'.mono hb4.size))
      | (go_at_call 59; refine (HSE.out W2.drew hd).mono ?_; rintro e w4 ⟨a4, b4, c4, d4, rfl, hs4, hb4'⟩; have hb4 : Below W2.heap.size W2 w4 := hd.trans hb4'))
  go_wp2_with fail
  go_ret
  exact ⟨rfl, HB.out.trans (hb6.mono (by omega))⟩
end Go.Proofs.YtnkkpjgclekobaaDoor

namespace Go.Proofs.YtnkkpjgclekobaaDoor
open Go.RowKit Go.Shelf

attribute [local go_sem] Oper.semAt_some


set_option maxRecDepth 100000 in
set_option maxHeartbeats 8000000 in
/-- Elements, where a check fails. -/
theorem iElements_ck (n : NM) (T : MT) (i : IN) (w : World) (hG : GT w) (hn : n.In w.heap.size w) (hT : T.In w.heap.size w) (hi : i.In w.heap.size w) (hsz : (T.pre 1).length ≤ 1000000) (hck : orF (checkF n T) (icheckF n i) ≠ 0) :
    Calls Tryd.prog 25 #[n.val, T.val, i.val] w (RetNo (orF (checkF n T) (icheckF n i)) w) := by
  refine (callsIn_wide (n := 5)).1 ?_
  have hdd : ∀ k : Nat, (Fence.wide.depth.isSome = true → 1 ≤ k) := fun k h => by cases h
  obtain ⟨W1, hW1, hB1, hs1, hk1⟩ := newBlk w _ rfl #[.slice n.C.A n.C.l.length n.C.c, .slice n.R.A n.R.l.length n.R.c, .slice n.I.A n.I.l.length n.I.c] 24
  obtain ⟨W2, hW2, hB2, hs2, hk2⟩ := newBlk W1 _ hs1 #[.int .i64 T.op, .int .i64 T.n, .slice T.A T.args.length T.c] 27
  obtain ⟨W3, hW3, hB3, hs3, hk3⟩ := newBlk W2 _ hs2 #[.int .i64 i.size, .slice i.CA i.C.length i.cc, .slice i.RA i.R.length i.rc, .slice i.I.A i.I.l.length i.I.c] 58
  have hB : Below w.heap.size w W3 := ((hB1.trans (hB2.mono (by omega))).trans (hB3.mono (by omega)))
  have hkk1 := ((hB3.block (w.heap.size) (by omega)).trans ((hB2.block (w.heap.size) (by omega)).trans hk1))
  have hkk2 := ((hB3.block (w.heap.size + 1) (by omega)).trans hk2)
  have hS : ∀ w', Below W3.heap.size W3 w' → ((w'.cell? ⟨w.heap.size, 0, none⟩ = some (.slice n.C.A n.C.l.length n.C.c) ∧ w'.cell? ⟨w.heap.size, 1, none⟩ = some (.slice n.R.A n.R.l.length n.R.c) ∧ w'.cell? ⟨w.heap.size, 2, none⟩ = some (.slice n.I.A n.I.l.length n.I.c)) ∧ (w'.cell? ⟨w.heap.size + 1, 0, none⟩ = some (.int .i64 T.op) ∧ w'.cell? ⟨w.heap.size + 1, 1, none⟩ = some (.int .i64 T.n) ∧ w'.cell? ⟨w.heap.size + 1, 2, none⟩ = some (.slice T.A T.args.length T.c)) ∧ (w'.cell? ⟨w.heap.size + 1 + 1, 0, none⟩ = some (.int .i64 i.size) ∧ w'.cell? ⟨w.heap.size + 1 + 1, 1, none⟩ = some (.slice i.CA i.C.length i.cc) ∧ w'.cell? ⟨w.heap.size + 1 + 1, 2, none⟩ = some (.slice i.RA i.R.length i.rc) ∧ w'.cell? ⟨w.heap.size + 1 + 1, 3, none⟩ = some (.slice i.I.A i.I.l.length i.I.c))) := fun w' hb => ⟨⟨cell_of_blk (blk_lat hkk1 hb) 0, cell_of_blk (blk_lat hkk1 hb) 1, cell_of_blk (blk_lat hkk1 hb) 2⟩, ⟨cell_of_blk (blk_lat hkk2 hb) 0, cell_of_blk (blk_lat hkk2 hb) 1, cell_of_blk (blk_lat hkk2 hb) 2⟩, ⟨cell_of_blk (blk_lat hk3 hb) 0, cell_of_blk (blk_lat hk3 hb) 1, cell_of_blk (blk_lat hk3 hb) 2, cell_of_blk (blk_lat hk3 hb) 3⟩⟩
  have hd : Below W3.heap.size W3 W3.drew := (Below.refl _ W3).drew
  have hGd := hG.later (hB.drew)
  have hchk := cCheckA_any n T W3.drew hGd.ga (hn.later hB.drew) (hT.later hB.drew) hsz
  have hchi := fun w' (hb : Below W3.heap.size W3 w') => iCheck_any n i w' ((hn.later hB).later hb) ((hi.later hB).later hb)
  obtain ⟨x, hx⟩ : ∃ x, checkF n T = x := ⟨_, rfl⟩
  obtain ⟨y, hy⟩ : ∃ y, icheckF n i = y := ⟨_, rfl⟩
  rw [hx] at hchk hck ⊢
  rw [hy] at hchi hck ⊢
  have horr := orErr_any (x := x) (y := y)
  obtain ⟨z, hz⟩ : ∃ z, orF x y = z := ⟨_, rfl⟩
  rw [hz] at horr hck ⊢
  have hne : (z != 0) = true := by simpa using hck
  have HB := Lib.hid hB
  have HS := Lib.hid hS
  have HCC := Lib.hid hchk
  have HCI := Lib.hid hchi
  have HOR := Lib.hid horr
  simp only [NM.val, IN.val, MT.val] at HCC HCI ⊢
  clear hB hn hi hT hchk hchi hx hy hz hck horr hGd hS hB1 hB2 hB3 hk1 hk2 hk3 hkk1 hkk2
  refine callsIn_of_wp_marks Tryd.func25 rfl trivial ?_ rfl
  refine wpIn_wide.2 ?_
  simp only [Tryd.ntmps25, List.size_toArray, List.length_cons, List.length_nil, Nat.reduceAdd, Nat.reduceSub, Array.replicate_succ, Array.replicate_zero, List.push_toArray, List.append_toArray, List.nil_append, List.cons_append]
  go_wp2_with fail
  refine wp_region_noPanic ?_
  go_region_held (fun w' => (w'.cell? ⟨w.heap.size, 0, none⟩ = some (.slice n.C.A n.C.l.length n.C.c) ∧ w'.cell? ⟨w.heap.size, 1, none⟩ = some (.slice n.R.A n.R.l.length n.R.c) ∧ w'.cell? ⟨w.heap.size, 2, none⟩ = some (.slice n.I.A n.I.l.length n.I.c)) ∧ (w'.cell? ⟨w.heap.size + 1, 0, none⟩ = some (.int .i64 T.op) ∧ w'.cell? ⟨w.heap.size + 1, 1, none⟩ = some (.int .i64 T.n) ∧ w'.cell? ⟨w.heap.size + 1, 2, none⟩ = some (.slice T.A T.args.length T.c)) ∧ (w'.cell? ⟨w.heap.size + 1 + 1, 0, none⟩ = some (.int .i64 i.size) ∧ w'.cell? ⟨w.heap.size + 1 + 1, 1, none⟩ = some (.slice i.CA i.C.length i.cc) ∧ w'.cell? ⟨w.heap.size + 1 + 1, 2, none⟩ = some (.slice i.RA i.R.length i.rc) ∧ w'.cell? ⟨w.heap.size + 1 + 1, 3, none⟩ = some (.slice i.I.A i.I.l.length i.I.c)))
    (first | exact HS.out _ hd | exact HS.out _ hb4 | exact HS.out _ hb5 | exact HS.out _ hb5a)
    (first
      | (go_at_call 56; refine (HOR.out w5.heap.size _ e0 e1).mono ?_; rintro e w6 ⟨rfl, rfl⟩)
      | (go_at_call 57; refine (HCI.out w4 hb4).mono ?_; rintro e w5 ⟨rfl, hb5'⟩; have hb5 : Below W3.heap.size W3 w5 := hb4.trans (hb5'.mono hb4.size); have hb5a : Below W3.heap.size W3 (w5.alloc (.cells #[.int .i64 x, .int .i64 y] 33)) := hb5.alloc hb5.size _; have e0 := cell_of_blk (World.alloc_heap_new' w5 (.cells #[.int .i64 x, .int .i64 y] 33)) 0; have e1 := cell_of_blk (World.alloc_heap_new' w5 (.cells #[.int .i64 x, .int .i64 y] 33)) 1)
      | (go_at_call 39; refine HCC.out.mono ?_; rintro e w4 ⟨rfl, hb4'⟩; have hb4 : Below W3.heap.size W3 w4 := hd.trans hb4'))
  refine NoPanic.normal ?_
  go_wp2_with fail
  exact ⟨_, by simp [results, Tryd.f25, go_sem], rfl, HB.out.trans (hb5a.mono (by omega))⟩

end Go.Proofs.YtnkkpjgclekobaaDoor
