import Derived.Test.YtnkkpjgclekobaaDoorElems
import Derived.Test.YtnkkpjgclekobaaDoorIPairs
namespace Go.Proofs.YtnkkpjgclekobaaDoor
open Go.RowKit Go.Shelf

attribute [local go_sem] Oper.semAt_some

set_option maxRecDepth 100000 in
set_option maxHeartbeats 2000000 in
/-- cmp.Or of two codes. -/
theorem orErr_any (g : Nat) (x y : Int) (w : World) (h0 : w.cell? ⟨g, 0, none⟩ = some (.int .i64 x)) (h1 : w.cell? ⟨g, 1, none⟩ = some (.int .i64 y)) :
    Calls Tryd.prog 56 #[.slice (some ⟨g, 0, none⟩) 2 2] w fun e w' => e = .returned (.int .i64 (orF x y)) ∧ w' = w := by
  unfold orF
  by_cases hx : x = 0
  · subst hx
    rw [if_pos rfl]
    rcases hy : (y != 0)
    · have hy0 : y = 0 := by simpa using hy
      subst hy0
      go_enter Tryd.func56, Tryd.ntmps56
      go_wp2_with fail
      go_loopw [8] (fun i wr => ((i = .int .i64 0) ∨ (i = .int .i64 1) ∨ (i = .int .i64 2)) ∧ wr = w) (fun i _ => 2 - (intOf i).toNat)
      case atStart => exact ⟨.inl rfl, rfl⟩
      case round =>
        obtain ⟨rfl | rfl | rfl, rfl⟩ := hrel
        · go_wp2_with fail
          go_roundw
          case rel => exact ⟨.inr (.inl rfl), by first | rfl | trivial⟩
          case measure => simp [intOf]
        · go_wp2_with fail
          go_roundw
          case rel => exact ⟨.inr (.inr rfl), by first | rfl | trivial⟩
          case measure => simp [intOf]
        · go_wp2
          go_ret
          exact ⟨rfl, rfl⟩
    · go_enter Tryd.func56, Tryd.ntmps56
      go_wp2_with fail
      go_loopw [8] (fun i wr => ((i = .int .i64 0) ∨ (i = .int .i64 1)) ∧ wr = w) (fun i _ => 2 - (intOf i).toNat)
      case atStart => exact ⟨.inl rfl, rfl⟩
      case round =>
        obtain ⟨rfl | rfl, rfl⟩ := hrel
        · go_wp2_with fail
          go_roundw
          case rel => exact ⟨.inr rfl, by first | rfl | trivial⟩
          case measure => simp [intOf]
        · go_wp2
          go_ret
          exact ⟨rfl, rfl⟩
  · rw [if_neg hx]
    have hx1 : (x != 0) = true := by simpa using hx
    go_enter Tryd.func56, Tryd.ntmps56
    go_wp2_with fail
    go_loopw [8] (fun i wr => i = .int .i64 0 ∧ wr = w) (fun i _ => 2 - (intOf i).toNat)
    case atStart => exact ⟨rfl, rfl⟩
    case round =>
      obtain ⟨rfl, rfl⟩ := hrel
      go_wp2
      go_ret
      exact ⟨rfl, rfl⟩

theorem orErr00 (g : Nat) (w : World) (h0 : w.cell? ⟨g, 0, none⟩ = some (.int .i64 0)) (h1 : w.cell? ⟨g, 1, none⟩ = some (.int .i64 0)) : Calls Tryd.prog 56 #[.slice (some ⟨g, 0, none⟩) 2 2] w fun e w' => e = .returned (.int .i64 0) ∧ w' = w := orErr_any g 0 0 w h0 h1
/-- A list of elements that a call hands back, and a code. -/
def RetInts (l : List Int) (code : Int) (w : World) (e : Ending) (w' : World) : Prop := ∃ v, e = .returned (.tuple #[v, .int .i64 code]) ∧ w'.ownsRow w.heap.size 3 1 v l.length (l.map icell) ∧ Below w.heap.size w w'
theorem intR_info : (Tryd.prog.info? 3).map (fun i => (i.zero, i.size, i.bytes)) = some (some (.int .i64 0), 1, 8) := by kernel_rfl

set_option maxRecDepth 100000 in
set_option maxHeartbeats 8000000 in
theorem iElements_ok (n : NM) (T : MT) (i : IN) (m : Nat) (w : World) (hG : GT w) (hn : n.In w.heap.size w) (hT : T.In w.heap.size w) (hi : i.In w.heap.size w) (hm : i.size = m) (hsz : (T.pre 1).length ≤ 1000000) (hck : checkF n T = 0) (hci : icheckF n i = 0) (hwf : T.tr.wfT i.C.length i.R.length = true) (h1 : 1 ≤ m) (h256 : m ≤ 256) (hl : listsB i = true) (hC : i.C.length ≤ 1000) (hR : i.R.length ≤ 1000) (hI : i.I.l.length ≤ 1000) :
    Calls Tryd.prog 25 #[n.val, T.val, i.val] w (RetInts ((elsF (semT i m T.tr) 0).map fun y : Nat => (y : Int)) 0 w) := by
  refine (callsIn_wide (n := 5)).1 ?_
  have hdd : ∀ k : Nat, (Fence.wide.depth.isSome = true → 1 ≤ k) := fun k h => by cases h
  obtain ⟨W1, hW1, hB1, hs1, hk1⟩ := newBlk w _ rfl #[.slice n.C.A n.C.l.length n.C.c, .slice n.R.A n.R.l.length n.R.c, .slice n.I.A n.I.l.length n.I.c] 24
  obtain ⟨W2, hW2, hB2, hs2, hk2⟩ := newBlk W1 _ hs1 #[.int .i64 T.op, .int .i64 T.n, .slice T.A T.args.length T.c] 27
  obtain ⟨W3, hW3, hB3, hs3, hk3⟩ := newBlk W2 _ hs2 #[.int .i64 i.size, .slice i.CA i.C.length i.cc, .slice i.RA i.R.length i.rc, .slice i.I.A i.I.l.length i.I.c] 58
  have hB : Below w.heap.size w W3 := (hB1.trans (hB2.mono (by omega))).trans (hB3.mono (by omega))
  have hk13 := (hB3.block w.heap.size (by omega)).trans ((hB2.block w.heap.size (by omega)).trans hk1)
  have hk23 := (hB3.block (w.heap.size + 1) (by omega)).trans hk2
  have hS : ∀ w', Below W3.heap.size W3 w' → ((w'.cell? ⟨w.heap.size, 0, none⟩ = some (.slice n.C.A n.C.l.length n.C.c) ∧ w'.cell? ⟨w.heap.size, 1, none⟩ = some (.slice n.R.A n.R.l.length n.R.c) ∧ w'.cell? ⟨w.heap.size, 2, none⟩ = some (.slice n.I.A n.I.l.length n.I.c)) ∧ (w'.cell? ⟨w.heap.size + 1, 0, none⟩ = some (.int .i64 T.op) ∧ w'.cell? ⟨w.heap.size + 1, 1, none⟩ = some (.int .i64 T.n) ∧ w'.cell? ⟨w.heap.size + 1, 2, none⟩ = some (.slice T.A T.args.length T.c)) ∧ w'.cell? ⟨w.heap.size + 1 + 1, 0, none⟩ = some (.int .i64 i.size) ∧ w'.cell? ⟨w.heap.size + 1 + 1, 1, none⟩ = some (.slice i.CA i.C.length i.cc) ∧ w'.cell? ⟨w.heap.size + 1 + 1, 2, none⟩ = some (.slice i.RA i.R.length i.rc) ∧ w'.cell? ⟨w.heap.size + 1 + 1, 3, none⟩ = some (.slice i.I.A i.I.l.length i.I.c)) := fun w' hb => ⟨⟨cell_of_blk (blk_lat hk13 hb) 0, cell_of_blk (blk_lat hk13 hb) 1, cell_of_blk (blk_lat hk13 hb) 2⟩, ⟨cell_of_blk (blk_lat hk23 hb) 0, cell_of_blk (blk_lat hk23 hb) 1, cell_of_blk (blk_lat hk23 hb) 2⟩, cell_of_blk (blk_lat hk3 hb) 0, cell_of_blk (blk_lat hk3 hb) 1, cell_of_blk (blk_lat hk3 hb) 2, cell_of_blk (blk_lat hk3 hb) 3⟩
  have hd : Below W3.heap.size W3 W3.drew := (Below.refl _ W3).drew
  have hGd := hG.later (hB.drew)
  have hchk := cCheckA_any n T W3.drew hGd.ga (hn.later hB.drew) (hT.later hB.drew) hsz
  rw [hck] at hchk
  have hchi := fun w' (hb : Below W3.heap.size W3 w') => iCheck_any n i w' ((hn.later hB).later hb) ((hi.later hB).later hb)
  rw [hci] at hchi
  have hwo := fun w' (hb : Below W3.heap.size W3 w') => worldOf_any i m hm h1 h256 hl hC hR hI w' ((hi.later hB).later hb)
  have hel := fun b w' (hb : Below W3.heap.size W3 w') (hw : WL w' b i m) => elements_any i m b h256 T w' hw ((hT.later hB).later hb) hwf
  have HB := Lib.hid hB
  have HS := Lib.hid hS
  have HCC := Lib.hid hchk
  have HCI := Lib.hid hchi
  have HWO := Lib.hid hwo
  have HEL := Lib.hid hel
  simp only [NM.val, IN.val, MT.val] at HCC HCI HWO HEL ⊢
  clear hB hn hi hT hm hchk hchi hwo hel hck hci hB1 hB2 hB3 hk1 hk2 hk3 hk13 hk23 hGd hS hwf
  refine callsIn_of_wp_marks Tryd.func25 rfl trivial ?_ rfl
  refine wpIn_wide.2 ?_
  simp only [Tryd.ntmps25, List.size_toArray, List.length_cons, List.length_nil, Nat.reduceAdd, Nat.reduceSub, Array.replicate_succ, Array.replicate_zero, List.push_toArray, List.append_toArray, List.nil_append, List.cons_append]
  go_wp2_with fail
  refine wp_region_noPanic ?_
  go_region_held (fun w' => ((w'.cell? ⟨w.heap.size, 0, none⟩ = some (.slice n.C.A n.C.l.length n.C.c) ∧ w'.cell? ⟨w.heap.size, 1, none⟩ = some (.slice n.R.A n.R.l.length n.R.c) ∧ w'.cell? ⟨w.heap.size, 2, none⟩ = some (.slice n.I.A n.I.l.length n.I.c)) ∧ (w'.cell? ⟨w.heap.size + 1, 0, none⟩ = some (.int .i64 T.op) ∧ w'.cell? ⟨w.heap.size + 1, 1, none⟩ = some (.int .i64 T.n) ∧ w'.cell? ⟨w.heap.size + 1, 2, none⟩ = some (.slice T.A T.args.length T.c)) ∧ w'.cell? ⟨w.heap.size + 1 + 1, 0, none⟩ = some (.int .i64 i.size) ∧ w'.cell? ⟨w.heap.size + 1 + 1, 1, none⟩ = some (.slice i.CA i.C.length i.cc) ∧ w'.cell? ⟨w.heap.size + 1 + 1, 2, none⟩ = some (.slice i.RA i.R.length i.rc) ∧ w'.cell? ⟨w.heap.size + 1 + 1, 3, none⟩ = some (.slice i.I.A i.I.l.length i.I.c)))
    (first | exact HS.out _ hd | exact HS.out _ hb4 | exact HS.out _ hb5 | exact HS.out _ hb5a)
    (first
      | (go_at_call 56; refine (orErr00 w5.heap.size _ e0 e1).mono ?_; rintro e w6 ⟨rfl, rfl⟩)
      | (go_at_call 57; refine (HCI.out w4 hb4).mono ?_; rintro e w5 ⟨rfl, hb5'⟩; have hb5 : Below W3.heap.size W3 w5 := hb4.trans (hb5'.mono hb4.size); have hb5a : Below W3.heap.size W3 (w5.alloc (.cells #[.int .i64 0, .int .i64 0] 33)) := hb5.alloc hb5.size _; have e0 := cell_of_blk (World.alloc_heap_new' w5 (.cells #[.int .i64 0, .int .i64 0] 33)) 0; have e1 := cell_of_blk (World.alloc_heap_new' w5 (.cells #[.int .i64 0, .int .i64 0] 33)) 1)
      | (go_at_call 39; refine HCC.out.mono ?_; rintro e w4 ⟨rfl, hb4'⟩; have hb4 : Below W3.heap.size W3 w4 := hd.trans hb4'))
  refine NoPanic.normal ?_
  obtain ⟨L, hLe⟩ : ∃ L, w5.heap.size + 1 = L := ⟨_, rfl⟩
  obtain ⟨W7, hW7, hB7, hs7, bL⟩ := newBox (w5.alloc (.cells #[.int .i64 0, .int .i64 0] 33)) L (by rw [← hLe]; simp) (.slice none 0 0) 40
  have hb7 : Below W3.heap.size W3 W7 := hb5a.trans (hB7.mono (by have := hb5.size; omega))
  have hb7d : Below W3.heap.size W3 W7.drew := hb7.drew
  have hL3 : W3.heap.size < L := by have := hb5.size; omega
  obtain ⟨⟨c0, c1, c2⟩, ⟨d0, d1, d2⟩, x0, x1, x2, x3⟩ := HS.out W7 hb7
  clear e0 e1 hb4 hb4' hb5' hW1 hW2 hW3
  go_wp2_with fail
  refine wp_region_noPanic ?_
  go_region_held (fun w' => ((w'.cell? ⟨w.heap.size, 0, none⟩ = some (.slice n.C.A n.C.l.length n.C.c) ∧ w'.cell? ⟨w.heap.size, 1, none⟩ = some (.slice n.R.A n.R.l.length n.R.c) ∧ w'.cell? ⟨w.heap.size, 2, none⟩ = some (.slice n.I.A n.I.l.length n.I.c)) ∧ (w'.cell? ⟨w.heap.size + 1, 0, none⟩ = some (.int .i64 T.op) ∧ w'.cell? ⟨w.heap.size + 1, 1, none⟩ = some (.int .i64 T.n) ∧ w'.cell? ⟨w.heap.size + 1, 2, none⟩ = some (.slice T.A T.args.length T.c)) ∧ w'.cell? ⟨w.heap.size + 1 + 1, 0, none⟩ = some (.int .i64 i.size) ∧ w'.cell? ⟨w.heap.size + 1 + 1, 1, none⟩ = some (.slice i.CA i.C.length i.cc) ∧ w'.cell? ⟨w.heap.size + 1 + 1, 2, none⟩ = some (.slice i.RA i.R.length i.rc) ∧ w'.cell? ⟨w.heap.size + 1 + 1, 3, none⟩ = some (.slice i.I.A i.I.l.length i.I.c)))
    (first | exact HS.out _ hb7d | exact HS.out _ hb8 | exact HS.out _ hb9 | exact HS.out _ hb10)
    (first
      | (go_at_call 60; refine (bAll_any a9 b9 c9 d9 w9).mono ?_; rintro e w10 ⟨rfl, rfl⟩; have hb10 : Below W3.heap.size W3 (w9.alloc (.cells #[.int .u64 (a9 : Nat), .int .u64 (b9 : Nat), .int .u64 (c9 : Nat), .int .u64 (d9 : Nat)] 111)) := hb9.alloc hb9.size _)
      | (go_at_call 59; refine (HEL.out b w8 hb8 hwl).mono ?_; rintro e w9 ⟨a9, b9, c9, d9, rfl, hsw, hb9'⟩; have hb79 := hb78.trans (hb9'.mono hb78.size); have hb9 : Below W3.heap.size W3 w9 := hb8.trans (hb9'.mono hb8.size))
      | (go_at_call 58; refine (HWO.out W7.drew hb7d).mono ?_; rintro e w8 ⟨b, rfl, hwl, hb8'⟩; have hb78 : Below W7.heap.size W7 w8 := ((Below.refl W7.heap.size W7).drew).trans hb8'; have hb8 : Below W3.heap.size W3 w8 := hb7d.trans (hb8'.mono hb7.size)))
  refine NoPanic.normal ?_
  go_wp2_with fail
  obtain ⟨X, hXe⟩ : ∃ X, w9.heap.size = X := ⟨_, rfl⟩
  obtain ⟨W10, hW10, hB10, hs10, hkT⟩ := newBlk w9 X hXe #[.int .u64 (a9 : Nat), .int .u64 (b9 : Nat), .int .u64 (c9 : Nat), .int .u64 (d9 : Nat)] 111
  have hb7X : Below W7.heap.size W7 W10 := hb79.trans (hB10.mono (by rw [← hXe]; exact hb79.size))
  have hL10 := boxed_below bL hb7X bL.lt
  have hbw10 : Below w.heap.size w W10 := HB.out.trans ((hb7.trans (hb7X.mono hb7.size)).mono (by omega))
  have hG10 := hG.later hbw10
  have hz1 : 1 < w.heap.size := hG.ga.size
  have hz2 : 3 < w.heap.size := hG.size
  have hLw := hL10.lt
  have hw10 := hbw10.size
  have hwL : w.heap.size < L := by omega
  rw [hW10, hXe]
  obtain ⟨p, hpe⟩ : ∃ p, semT i m T.tr = p := ⟨_, rfl⟩
  rw [hpe] at hsw
  have HE := Lib.hid hpe
  clear hpe c0 c1 c2 d0 d1 d2 x0 x1 x2 x3 hW7 hW10 hwl
  obtain ⟨i0, hi, hz0', hz1', hz2'⟩ := info_parts intR_info
  refine (wpIn_wide (n := 5)).1 ?_
  refine wpIn_rangeFunc_ownH rfl (by omega) (gf := 99) (lb := #[.pointer (some ⟨X, 0, none⟩)]) rfl trivial (enters_of Tryd.func99 (by kernel_rfl) rfl)
    (all1_sw (fun A B => GT A → GT B) (fun _ _ h => h) 4 X hsw W10 hG10 hkT) (fun h h' x => h' (h x))
    (fun W l o o' hl h hc hw hg => hg.near (belowK_b (w := W10) (Nat.le_refl _) W l o o' hl h hc hw) hG10.ga.size hG10.size) (Below.refl _ _) (fun _ => rfl)
    (fun pre W => ∃ v, Boxed W L 40 v ∧ W.ownsRow L 3 1 v pre.length ((pre.map fun y : Nat => (y : Int)).map icell) ∧ Below w.heap.size w W ∧ GT W ∧ W10.heap.size ≤ W.heap.size)
    (fun _ _ _ => False)
    ?hown (fun _ _ _ _ _ hs _ _ => hs)
    ⟨_, hL10, ⟨rfl, .inl ⟨rfl, rfl⟩⟩, hbw10, hG10, Nat.le_refl _⟩
    (fun x a' _ => ∃ (y0 y1 y2 y3 y4 y5 y6 y7 y8 y11 y12 y13 y14 y15 y16 y17 y18 y19 y20 y21 y22 y23 y24 y25 y26 y27 y28 y29 y30 y31 y32 : Value), a' = { tmps := #[y0, y1, y2, y3, y4, y5, y6, y7, y8, .pointer (some ⟨L, 0, none⟩), .int .i64 (x : Nat), y11, y12, y13, y14, y15, y16, y17, y18, y19, y20, y21, y22, y23, y24, y25, y26, y27, y28, y29, y30, y31, y32], defers := [] })
    (fun _ _ _ _ _ _ hs _ _ => hs)
    ?assign ?body ?done ?stop
  case hown =>
    rintro pre A B row ⟨v1, p1, p2, p5, p6, p8⟩ hg hr
    have hr' : ∀ r, row = some r → ∃ o : Obj, A.heap[r]? = some o ∧ o.isCells = false := fun r e => (hr r e).2
    have hbAB : Below W10.heap.size A B := (Below.refl _ _).grown hg p8 (fun k e => (hr k e).1)
    exact ⟨v1, blk_keptP p1 hg hr', owns_keptP p2 hg hr', p5.trans (hbAB.mono hw10), p6.near hbAB hG10.ga.size hG10.size, Nat.le_trans p8 hg.size⟩
  case assign =>
    rintro l pre x W K hI hK
    gi_wp2
    exact hK _ _ (KeepsFrom.refl _ _) (fun h => h) hI ⟨_, _, _, _, _, _, _, _, _, _, _, _, _, _, _, _, _, _, _, _, _, _, _, _, _, _, _, _, _, _, _, rfl⟩
  case body =>
    rintro l pre x a' W hl ⟨rr, hrr⟩ ⟨v1, p1, p2, p5, p6, p8⟩ hax hlen
    obtain ⟨y0, y1, y2, y3, y4, y5, y6, y7, y8, y11, y12, y13, y14, y15, y16, y17, y18, y19, y20, y21, y22, y23, y24, y25, y26, y27, y28, y29, y30, y31, y32, rfl⟩ := hax
    have n9 := p1.cell
    have f9 := p1.frozen
    have hel := elsF_len p
    have hpl : pre.length ≤ 256 := by omega
    have HQ := Lib.hid (show ((pre ++ [x]).map fun y : Nat => (y : Int)).map icell = (pre.map fun y : Nat => (y : Int)).map icell ++ [.int .i64 (x : Nat)] by rw [List.map_append, List.map_append]; rfl)
    have hlw : L < W.heap.size := p1.lt
    have P2 := Lib.hid p2
    clear hel hlen p2
    gi_wp2_with (gi_at_builtin; refine wpListIn_append_own_at _ rfl _ _ 40 rfl L 3 i0 _ 1 8 Tryd.underlying40 hi hz0' hz1' hz2' rfl (by omega) v1 pre.length ((pre.map fun y : Nat => (y : Int)).map icell) rfl (owns_below P2.out ((Below.refl _ W).alloc (Nat.le_refl _) (.cells #[.int .i64 (x : Nat)] 3))) ⟨W.heap.size, 0, none⟩ 1 1 [.int .i64 (x : Nat)] rfl rfl (World.news_of_block (cs := #[.int .i64 (x : Nat)]) (t := 3) (fr := (0, 0)) (heap_alloc_new W _)) (by simp [Value.oneCell']) (by unfold maxLen; omega) (by omega) (by simp; omega) ?_; intro v' w1' hown' hgrow hnil hat; obtain ⟨g2, cap2, rfl⟩ := ownsRow_succ hown'; obtain ⟨z1, z2, z3, z4, z5⟩ := p1.appended (tmp := .cells #[.int .i64 (x : Nat)] 3) (by decide) P2.out (by omega) (Nat.le_refl _) hown' hgrow; have z10 := z1.cell; have z11 := z1.frozen)
    exact ⟨z4.from _, fun h => h.near z5 (by omega) (by omega), _, z2, by rw [HQ.out, List.length_append]; exact z3, p5.trans (z5.mono (by omega)), p6.near z5 (by omega) (by omega), Nat.le_trans p8 z4.size⟩
  case done =>
    rintro D ys W hD hys ⟨v1, p1, p2, p5, p6, p8⟩ hK
    rw [hys] at p2
    have n9 := p1.cell
    have P2 := Lib.hid p2
    have HK := Lib.hid hK
    clear hK p2
    go_wp2
    refine leaves_marks (I := fun W => W.ownsRow L 3 1 v1 (elsF p 0).length (((elsF p 0).map fun y : Nat => (y : Int)).map icell) ∧ Below w.heap.size w W) (fun W h => ?_) [D] W (by simp) (fun D' hD' => by rw [List.mem_singleton.1 hD']; exact HK.out) (fun D' hD' W' h h' => ⟨ownsRow_putObj h.1 _ h' rfl, h.2.trans (belowK_b (w := w) (Nat.le_refl _) W' D' _ _ (by rw [List.mem_singleton.1 hD']; omega) h' rfl rfl)⟩) ⟨P2.out, p5⟩
    refine ⟨.tuple #[v1, .int .i64 0], by simp [results, Tryd.f25, go_sem], v1, rfl, by rw [HE.out, List.length_map]; exact owns_lower h.1 (by omega), h.2⟩
  case stop =>
    rintro D c pre W _ _ h _
    exact h.elim
end Go.Proofs.YtnkkpjgclekobaaDoor
