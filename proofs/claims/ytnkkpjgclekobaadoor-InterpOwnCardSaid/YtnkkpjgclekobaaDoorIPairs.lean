import Derived.Test.YtnkkpjgclekobaaDoorWorld
import Derived.Test.YtnkkpjgclekobaaDoorIter2
import Derived.Stop.RegionWithIn
import Derived.Deep.RegionHeld3
namespace Go.Proofs.YtnkkpjgclekobaaDoor
open Go.RowKit Go.Shelf

attribute [local go_sem] Oper.semAt_some

/-- A list of pairs that a call hands back, and a code. -/
def RetPairs (l : List (Int × Int)) (code : Int) (w : World) (e : Ending) (w' : World) : Prop := ∃ v, e = .returned (.tuple #[v, .int .i64 code]) ∧ w'.ownsRow w.heap.size 68 2 v l.length (l.flatMap pcells) ∧ Below w.heap.size w w'
theorem pair_info : (Tryd.prog.info? 68).map (fun i => (i.zero, i.size, i.bytes)) = some (some (.agg #[.int .i64 0, .int .i64 0]), 2, 16) := by kernel_rfl

theorem GT.near {n : Nat} {w w' : World} (h : GT w) (hb : Below n w w') (h1 : 1 < n) (h2 : 3 < n) : GT w' :=
  ⟨⟨Nat.lt_of_lt_of_le h.ga.size hb.size, fun op h0 h8 => (hb.cell (p := ⟨1, op.toNat, none⟩) h1).trans (h.ga.ar op h0 h8)⟩, Nat.lt_of_lt_of_le h.size hb.size, fun k hk => (hb.cell (p := ⟨3, k, none⟩) h2).trans (h.tz k hk)⟩
theorem WL.role {w : World} {b n : Nat} {i : IN} (h : WL w b i n) {r : Nat} (hr : r < 2 * i.R.length) : ∃ (g cap e : Nat), w.cell? ⟨b, 5, none⟩ = some (.slice (some ⟨g, 0, none⟩) (2 * i.R.length) cap) ∧ w.cell? ⟨g, r, none⟩ = some (.slice (some ⟨e, 0, none⟩) n n) ∧ MRow w e n (endsF i r) ∧ b < w.heap.size ∧ g < w.heap.size := by
  obtain ⟨s0, s1, s2, s3, v, v2, v3, eg, lo, h1, -, -, h4, h5, -⟩ := h
  rcases h4.2 with ⟨-, h0⟩ | ⟨g, cap, cur, rfl, hge, hheap, hrest⟩
  · omega
  · have hc := h4.cells (g := g) rfl r (.slice (some ⟨eg r, 0, none⟩) n n) (by rw [egVals, List.getElem?_map, List.getElem?_range hr]; rfl)
    refine ⟨g, cap, eg r, cell_of_blk h1 5, (by rw [show (⟨g, 0, none⟩ : Addr).add r = ⟨g, r, none⟩ by cases r <;> simp [Addr.add]] at hc; exact hc), h5 r hr, (Array.getElem?_eq_some_iff.1 h1).1, (Array.getElem?_eq_some_iff.1 hheap).1⟩

theorem owns_keptP {W W' : World} {row : Option Nat} {base size n : Nat} {e : TypeId} {v : Value} {xs : List Value} (h : W.ownsRow base e size v n xs) (hg : W.grownBy W' row) (hr : ∀ r, row = some r → ∃ o : Obj, W.heap[r]? = some o ∧ o.isCells = false) : W'.ownsRow base e size v n xs := by
  refine h.kept hg ?_
  rcases h.2 with ⟨rfl, _⟩ | ⟨g, cap, cur, rfl, _, hgb, _⟩
  · exact .inl rfl
  · refine .inr fun e' => ?_
    obtain ⟨o, ho, hc⟩ := hr g (by simpa [Value.ownBlock] using e'.symm)
    rw [hgb] at ho; cases ho; cases hc
theorem blk_keptP {W W' : World} {row : Option Nat} {b : Nat} {t : TypeId} {cs : Array Value} (h : W.heap[b]? = some (.cells cs t)) (hg : W.grownBy W' row) (hr : ∀ r, row = some r → ∃ o : Obj, W.heap[r]? = some o ∧ o.isCells = false) : W'.heap[b]? = some (.cells cs t) :=
  (hg.block b (Array.getElem?_eq_some_iff.1 h).1 (fun e => by obtain ⟨o, ho, hc⟩ := hr b e.symm; rw [h] at ho; cases ho; cases hc)).trans h
theorem owns_lower {w : World} {base base' : Nat} {e : TypeId} {size n : Nat} {v : Value} {xs : List Value} (h : w.ownsRow base e size v n xs) (hl : base' ≤ base) : w.ownsRow base' e size v n xs := by
  refine ⟨h.1, ?_⟩
  rcases h.2 with h0 | ⟨g, cap, cur, hv, hge, hrest⟩
  · exact .inl h0
  · exact .inr ⟨g, cap, cur, hv, Nat.le_trans hl hge, hrest⟩
theorem fan_len (f : Nat → Nat → Bool) (x : Nat) : (fanP f x).length ≤ 256 := by rw [fanP, List.length_map]; exact elsF_len _
theorem range_len (f : Nat → Nat → Bool) : ∀ k, ((List.range k).flatMap (fanP f)).length ≤ k * 256
  | 0 => by simp
  | k + 1 => by
    rw [List.range_succ, List.flatMap_append, List.length_append]
    have h1 := range_len f k
    have h2 := fan_len f k
    simp only [List.flatMap_cons, List.flatMap_nil, List.append_nil]
    omega

def marks (ds : List Nat) : List Deferred := ds.map fun D => { target := .collected D, args := #[] }
/-- Leaving with any number of marks. -/
theorem leaves_marks {F : Fence} {n : Nat} {P : Program} {fn : Func} {tmps : Array Value} {R : Ending → World → Prop} {I : World → Prop} (hR : ∀ W, I W → LeavesInM F n P fn tmps R [] .returning W) :
    ∀ (ds : List Nat) (W : World), ds.Nodup → (∀ D ∈ ds, W.heap[D]? = some (.deferred (some []))) → (∀ D ∈ ds, ∀ W', I W' → W'.heap[D]? = some (.deferred (some [])) → I (W'.putObj D (.deferred none))) → I W → LeavesInM F n P fn tmps R (marks ds) .returning W
  | [], W, _, _, _, hI => hR W hI
  | D :: ds, W, hnd, hds, hst, hI => by
    rw [List.nodup_cons] at hnd
    refine ⟨by simp, .inl ⟨D, _, rfl, run_takeDeferred (hds D (by simp)), ?_⟩⟩
    refine leaves_marks hR ds _ hnd.2 (fun D' hD' => ?_) (fun D' hD' => hst D' (List.mem_cons_of_mem _ hD')) (hst D (by simp) W hI (hds D (by simp)))
    exact (World.putObj_heap_other (fun e => by subst e; exact hnd.1 hD')).trans (hds D' (List.mem_cons_of_mem _ hD'))

set_option maxRecDepth 100000 in
set_option maxHeartbeats 8000000 in
theorem iPairs_ok (n : NM) (i : IN) (m r : Nat) (w : World) (hG : GT w) (hn : n.In w.heap.size w) (hi : i.In w.heap.size w) (hm : i.size = m) (hck : icheckF n i = 0) (h1 : 1 ≤ m) (h256 : m ≤ 256) (hl : listsB i = true) (hC : i.C.length ≤ 1000) (hR : i.R.length ≤ 1000) (hI : i.I.l.length ≤ 1000) (hr : r < 2 * i.R.length) :
    Calls Tryd.prog 26 #[n.val, i.val, .int .i64 (r : Nat)] w (RetPairs (progP m (endsF i r)) 0 w) := by
  refine (callsIn_wide (n := 5)).1 ?_
  have hdd : ∀ k : Nat, (Fence.wide.depth.isSome = true → 1 ≤ k) := fun k h => by cases h
  obtain ⟨W1, hW1, hB1, hs1, hk1⟩ := newBlk w _ rfl #[.slice n.C.A n.C.l.length n.C.c, .slice n.R.A n.R.l.length n.R.c, .slice n.I.A n.I.l.length n.I.c] 24
  obtain ⟨W2, hW2, hB2, hs2, hk2⟩ := newBlk W1 _ hs1 #[.int .i64 i.size, .slice i.CA i.C.length i.cc, .slice i.RA i.R.length i.rc, .slice i.I.A i.I.l.length i.I.c] 58
  have hB : Below w.heap.size w W2 := hB1.trans (hB2.mono (by omega))
  have hk12 := (hB2.block w.heap.size (by omega)).trans hk1
  have a0 := cell_of_blk hk12 0
  have a1 := cell_of_blk hk12 1
  have a2 := cell_of_blk hk12 2
  simp only [List.getElem?_toArray, List.getElem?_cons_zero, List.getElem?_cons_succ] at a0 a1 a2
  have hcell : ∀ w', Below W2.heap.size W2 w' → w'.cell? ⟨w.heap.size + 1, 0, none⟩ = some (.int .i64 i.size) ∧ w'.cell? ⟨w.heap.size + 1, 1, none⟩ = some (.slice i.CA i.C.length i.cc) ∧ w'.cell? ⟨w.heap.size + 1, 2, none⟩ = some (.slice i.RA i.R.length i.rc) ∧ w'.cell? ⟨w.heap.size + 1, 3, none⟩ = some (.slice i.I.A i.I.l.length i.I.c) := fun w' hb =>
    have h' := blk_lat hk2 hb
    ⟨cell_of_blk h' 0, cell_of_blk h' 1, cell_of_blk h' 2, cell_of_blk h' 3⟩
  have hchk := inW (iCheck_any n i W2 (hn.later hB) (hi.later hB)) 4
  rw [hck] at hchk
  have hwo := fun w' (hb : Below W2.heap.size W2 w') => inW (worldOf_any i m hm h1 h256 hl hC hR hI w' ((hi.later hB).later hb)) 4
  obtain ⟨b0, b1, b2, b3⟩ := hcell W2 (Below.refl _ _)
  have HB := Lib.hid hB
  have HCE := Lib.hid hcell
  have HCK := Lib.hid hchk
  have HWO := Lib.hid hwo
  simp only [NM.val, IN.val] at HCK HWO ⊢
  have HM := Lib.hid hm
  clear hm hck hB hn hi hcell hchk hwo hB1 hB2 hk1 hk12 hk2
  have t1 : decide ((r : Int) < 0) = false := decide_eq_false (by omega)
  have t2 : decide ((i.R.length : Int) ≤ ((r : Int).tdiv 2)) = false := decide_eq_false (by rw [Int.tdiv_eq_ediv_of_nonneg (by omega)]; omega)
  have t3 : decide ((i.R.length : Int) ≤ wrap64 ((r : Int).tdiv 2)) = false := decide_eq_false (by rw [Int.tdiv_eq_ediv_of_nonneg (by omega)]; unfold wrap64; omega)
  refine callsIn_of_wp_marks Tryd.func26 rfl trivial ?_ rfl
  simp only [Tryd.ntmps26, List.size_toArray, List.length_cons, List.length_nil, Nat.reduceAdd, Nat.reduceSub, Array.replicate_succ, Array.replicate_zero, List.push_toArray, List.append_toArray, List.nil_append, List.cons_append]
  gi_wp2_with (first
      | (refine ⟨trivial, ?_⟩; refine (HWO.out (w3.alloc (.cells #[.slice none 0 0] 65)) hb4).mono ?_; rintro e w5 ⟨b, rfl, hwl, hb5⟩; obtain ⟨g, cap, er, n5, ng, hmr, hbl, hgl⟩ := hwl.role hr)
      | (refine ⟨trivial, ?_⟩; refine HCK.out.mono ?_; rintro e w3 ⟨rfl, hb3⟩; obtain ⟨c0, c1, c2, c3⟩ := HCE.out w3 hb3; have hlt3 : w.heap.size + 1 < w3.heap.size := (by have := hb3.size; omega); have hb4 : Below W2.heap.size W2 (w3.alloc (.cells #[.slice none 0 0] 65)) := hb3.alloc hb3.size _; obtain ⟨d0, d1, d2, d3⟩ := HCE.out _ hb4))
  obtain ⟨L, hLe⟩ : ∃ L, w3.heap.size = L := ⟨_, rfl⟩
  obtain ⟨B5, hBe⟩ : ∃ B, w5.heap.size = B := ⟨_, rfl⟩
  obtain ⟨F, hFe⟩ : ∃ F, endsF i r = F := ⟨_, rfl⟩
  have hbx0 : Boxed w5 L 65 (.slice none 0 0) := by rw [← hLe]; exact boxed_below (Boxed.new w3 65 (.slice none 0 0)) hb5 (by simp)
  have hLB : L < B5 := by rw [← hBe]; exact hbx0.lt
  have hwL : w.heap.size + 1 < L := by rw [← hLe]; exact hlt3
  have hbw5 : Below w.heap.size w w5 := HB.out.trans ((hb4.trans (hb5.mono hb4.size)).mono (by omega))
  have hG5 := hG.later hbw5
  rw [hFe] at hmr ⊢
  rw [hLe]
  clear c0 c1 c2 c3 d0 d1 d2 d3 n5 ng a0 a1 a2 b0 b1 b2 b3 hwl hb5 hb4 hb3 t1 t2 t3 hW1 hW2
  refine wpIn_loop (fun a' wr => ∃ (u0 u1 u2 u3 u4 u5 u6 u7 u8 u10 u11 u12 u13 u14 u15 u16 u17 u18 u19 u20 u21 u22 u23 u24 u25 u26 u27 u28 u29 u30 u31 u32 u33 u34 u35 u39 u40 u41 u42 u43 u44 u45 u46 u47 u48 u49 u50 u51 u52 u53 c38 : Value) (dd : List Deferred), (∃ (k : Nat) (ds : List Nat) (v : Value), k ≤ m ∧ c38 = .int .i64 (k : Nat) ∧ dd = marks ds ∧ ds.Nodup ∧ (∀ D ∈ ds, B5 ≤ D ∧ wr.heap[D]? = some (.deferred (some []))) ∧ Boxed wr L 65 v ∧ wr.ownsRow L 68 2 v ((List.range k).flatMap (fanP F)).length (((List.range k).flatMap (fanP F)).flatMap pcells) ∧ MRow wr er m F ∧ Below w.heap.size w wr ∧ GT wr ∧ B5 ≤ wr.heap.size) ∧ a' = { tmps := #[u0, u1, u2, u3, u4, u5, u6, u7, u8, .pointer (some ⟨L, 0, none⟩), u10, u11, u12, u13, u14, u15, u16, u17, u18, u19, u20, u21, u22, u23, u24, u25, u26, u27, u28, u29, u30, u31, u32, u33, u34, u35, .slice (some ⟨er, 0, none⟩) m m, .int .i64 (m : Nat), c38, u39, u40, u41, u42, u43, u44, u45, u46, u47, u48, u49, u50, u51, u52, u53], defers := dd }) (fun a' _ => m - (intOf (a'.tmps.getD 38 undef)).toNat) ?_ ?_
  · (repeat apply Exists.intro)
    exact ⟨⟨0, [], _, Nat.zero_le _, rfl, rfl, List.nodup_nil, by simp, hbx0, ⟨rfl, .inl ⟨rfl, rfl⟩⟩, hmr, hbw5, hG5, by omega⟩, rfl⟩
  · intro _ wr hinv
    obtain ⟨u0, u1, u2, u3, u4, u5, u6, u7, u8, u10, u11, u12, u13, u14, u15, u16, u17, u18, u19, u20, u21, u22, u23, u24, u25, u26, u27, u28, u29, u30, u31, u32, u33, u34, u35, u39, u40, u41, u42, u43, u44, u45, u46, u47, u48, u49, u50, u51, u52, u53, c38, dd, hrel, ha⟩ := hinv
    subst ha
    try dsimp only
    obtain ⟨k, ds, v, hk, rfl, rfl, hnd, hds, hbox, hrow, hmr, hbw, hGr, hsz⟩ := hrel
    by_cases hlt : k < m
    · obtain ⟨a, b', c, d, hsw⟩ := sw_of (F k)
      obtain ⟨q0, q1, q2, q3⟩ := hmr.cell hlt hsw
      obtain ⟨W6, hW6, hB6, hs6, bX⟩ := newBox wr _ rfl (.int .i64 (k : Nat)) 3
      obtain ⟨W7, hW7, hB7, hs7, hkE⟩ := newBlk W6 _ hs6 #[.int .u64 (a : Nat), .int .u64 (b' : Nat), .int .u64 (c : Nat), .int .u64 (d : Nat)] 111
      have z0 := cell_of_blk hkE 0
      have z1 := cell_of_blk hkE 1
      have z2 := cell_of_blk hkE 2
      have z3 := cell_of_blk hkE 3
      simp only [List.getElem?_toArray, List.getElem?_cons_zero, List.getElem?_cons_succ] at z0 z1 z2 z3
      have h0I : (0 : Int) ≤ k := by omega
      have hlI : (k : Int) < m := by omega
      gi_wp2_with (refine ⟨trivial, ?_⟩; refine (inW (bAll_any a b' c d _) 4).mono ?_; rintro e7 w7 ⟨rfl, rfl⟩)
      obtain ⟨W8, hW8, hB8, hs8, hkT⟩ := newBlk W7 _ hs7 #[.int .u64 (a : Nat), .int .u64 (b' : Nat), .int .u64 (c : Nat), .int .u64 (d : Nat)] 111
      rw [hW8]
      have hBW : Below wr.heap.size wr W8 := (hB6.trans (hB7.mono (by omega))).trans (hB8.mono (by omega))
      have hX8 : Boxed W8 wr.heap.size 3 (.int .i64 (k : Nat)) := (hB8.block _ (by omega)).trans ((hB7.block _ (by omega)).trans bX)
      have hL8 := boxed_below hbox hBW hbox.lt
      have hrow8 := owns_below hrow hBW
      have hmr8 := hmr.later hBW
      have hbw8 := hbw.trans (hBW.mono hbw.size)
      have hG8 := hGr.later hBW
      have hd8 : ∀ D ∈ ds, W8.heap[D]? = some (.deferred (some [])) := fun D hD => (hBW.block D (Array.getElem?_eq_some_iff.1 (hds D hD).2).1).trans (hds D hD).2
      have hPl := range_len F k
      have hLw := hL8.lt
      obtain ⟨X, hXe⟩ : ∃ X, wr.heap.size = X := ⟨_, rfl⟩
      rw [hXe] at hX8 ⊢
      have HST := Lib.hid (show (List.range (k + 1)).flatMap (fanP F) = (List.range k).flatMap (fanP F) ++ (elsF (F k) 0).map fun y : Nat => ((k : Int), (y : Int)) by rw [List.range_succ, List.flatMap_append]; simp [fanP])
      obtain ⟨P, hPe⟩ : ∃ P, (List.range k).flatMap (fanP F) = P := ⟨_, rfl⟩
      rw [hPe] at hPl hrow8 HST
      have hXL : X ≠ L := by omega
      have hz1 : 1 < w.heap.size := hG.ga.size
      have hz2 : 3 < w.heap.size := hG.size
      have hw8 := hbw8.size
      clear q0 q1 q2 q3 z0 z1 z2 z3 hW6 hW7 hW8 hkE bX hrow hmr hB6 hB7 hB8 hbox
      obtain ⟨i0, hi, hz0', hz1', hz2'⟩ := info_parts pair_info
      refine wpIn_rangeFunc_ownH rfl (by omega) (gf := 99) (lb := #[.pointer (some ⟨X + 1 + 1, 0, none⟩)]) rfl trivial (enters_of Tryd.func99 (by kernel_rfl) rfl)
        (all1_sw (fun A B => GT A → GT B) (fun _ _ h => h) 4 (X + 1 + 1) hsw W8 hG8 (by rw [← hXe]; exact hkT)) (fun h h' x => h' (h x))
        (fun W l o o' hl h hc hw hg => hg.near (belowK_b (w := W8) (Nat.le_refl _) W l o o' hl h hc hw) hG8.ga.size hG8.size) (Below.refl _ _) (fun _ => rfl)
        (fun pre W => ∃ v, Boxed W L 65 v ∧ W.ownsRow L 68 2 v (P ++ pre.map fun y : Nat => ((k : Int), (y : Int))).length ((P ++ pre.map fun y : Nat => ((k : Int), (y : Int))).flatMap pcells) ∧ Boxed W X 3 (.int .i64 (k : Nat)) ∧ MRow W er m F ∧ Below w.heap.size w W ∧ GT W ∧ (∀ D ∈ ds, W.heap[D]? = some (.deferred (some []))) ∧ W8.heap.size ≤ W.heap.size)
        (fun _ _ _ => False)
        ?hown (fun _ _ _ _ _ hs _ _ => hs)
        ⟨v, hL8, by simpa using hrow8, hX8, hmr8, hbw8, hG8, hd8, Nat.le_refl _⟩
        (fun x a' _ => ∃ (y0 y1 y2 y3 y4 y5 y6 y7 y8 y11 y13 y14 y15 y16 y17 y18 y19 y20 y21 y22 y23 y24 y25 y26 y27 y28 y29 y30 y31 y32 y33 y34 y35 y36 y37 y38 y39 y40 y41 y42 y43 y44 y45 y46 y47 y48 y49 y50 y51 y52 y53 : Value), a' = { tmps := #[y0, y1, y2, y3, y4, y5, y6, y7, y8, .pointer (some ⟨L, 0, none⟩), .pointer (some ⟨X, 0, none⟩), y11, .int .i64 (x : Nat), y13, y14, y15, y16, y17, y18, y19, y20, y21, y22, y23, y24, y25, y26, y27, y28, y29, y30, y31, y32, y33, y34, y35, y36, y37, y38, y39, y40, y41, y42, y43, y44, y45, y46, y47, y48, y49, y50, y51, y52, y53], defers := [] })
        (fun _ _ _ _ _ _ hs _ _ => hs)
        ?assign ?body ?done ?stop
      case hown =>
        rintro pre A B row ⟨v1, p1, p2, p3, p4, p5, p6, p7, p8⟩ hg hr
        have hr' : ∀ r, row = some r → ∃ o : Obj, A.heap[r]? = some o ∧ o.isCells = false := fun r e => (hr r e).2
        have hbAB : Below W8.heap.size A B := (Below.refl _ _).grown hg p8 (fun k e => (hr k e).1)
        exact ⟨v1, blk_keptP p1 hg hr', owns_keptP p2 hg hr', blk_keptP p3 hg hr', blk_keptP p4 hg hr', p5.trans (hbAB.mono hw8), p6.near hbAB hG8.ga.size hG8.size, fun D hD => (hbAB.block D (Array.getElem?_eq_some_iff.1 (hd8 D hD)).1).trans (p7 D hD), Nat.le_trans p8 hg.size⟩
      case assign =>
        rintro l pre x W K hI hK
        gi_wp2
        exact hK _ _ (KeepsFrom.refl _ _) (fun h => h) hI ⟨_, _, _, _, _, _, _, _, _, _, _, _, _, _, _, _, _, _, _, _, _, _, _, _, _, _, _, _, _, _, _, _, _, _, _, _, _, _, _, _, _, _, _, _, _, _, _, _, _, _, _, rfl⟩
      case body =>
        rintro l pre x a' W hl ⟨rr, hrr⟩ ⟨v1, p1, p2, p3, p4, p5, p6, p7, p8⟩ hax hlen
        obtain ⟨y0, y1, y2, y3, y4, y5, y6, y7, y8, y11, y13, y14, y15, y16, y17, y18, y19, y20, y21, y22, y23, y24, y25, y26, y27, y28, y29, y30, y31, y32, y33, y34, y35, y36, y37, y38, y39, y40, y41, y42, y43, y44, y45, y46, y47, y48, y49, y50, y51, y52, y53, rfl⟩ := hax
        have n9 := p1.cell
        have f9 := p1.frozen
        have nX := p3.cell
        have hel := elsF_len (F k)
        have hpl : pre.length ≤ 256 := by omega
        obtain ⟨Q, hQ⟩ : ∃ Q, P ++ pre.map (fun y : Nat => ((k : Int), (y : Int))) = Q := ⟨_, rfl⟩
        have hQl : Q.length ≤ 1000000 := by rw [← hQ, List.length_append, List.length_map]; omega
        have HQ := Lib.hid (show P ++ (pre ++ [x]).map (fun y : Nat => ((k : Int), (y : Int))) = Q ++ [((k : Int), (x : Int))] by rw [← hQ, List.map_append, List.append_assoc]; rfl)
        rw [hQ] at p2
        have hlw : L < W.heap.size := p1.lt
        have P2 := Lib.hid p2
        clear hQ hel hlen
        gi_wp2_with (gi_at_builtin; refine wpListIn_append_own_at _ rfl _ _ 65 rfl L 68 i0 _ 2 16 Tryd.underlying65 hi hz0' hz1' hz2' rfl (by omega) v1 Q.length (Q.flatMap pcells) rfl (owns_below P2.out ((Below.refl _ W).alloc (Nat.le_refl _) (.cells #[.int .i64 (k : Nat), .int .i64 (x : Nat)] 68))) ⟨W.heap.size, 0, none⟩ 1 1 [.int .i64 (k : Nat), .int .i64 (x : Nat)] rfl rfl (World.news_of_block (cs := #[.int .i64 (k : Nat), .int .i64 (x : Nat)]) (t := 68) (fr := (0, 0)) (heap_alloc_new W _)) (by simp [Value.oneCell']) (by unfold maxLen; omega) (by omega) (by simp; omega) ?_; intro v' w1' hown' hgrow hnil hat; obtain ⟨g2, cap2, rfl⟩ := ownsRow_succ hown'; obtain ⟨z1, z2, z3, z4, z5⟩ := p1.appended (tmp := .cells #[.int .i64 (k : Nat), .int .i64 (x : Nat)] 68) (by decide) P2.out (by omega) (Nat.le_refl _) hown' hgrow; have z10 := z1.cell; have z11 := z1.frozen)
        refine ⟨z4.from _, fun h => h.near z5 (by omega) (by omega), _, z2, by rw [HQ.out, List.length_append, List.flatMap_append]; exact z3, ?_, ?_, p5.trans (z5.mono (by omega)), p6.near z5 (by omega) (by omega), fun D hD => z4.same D _ (p7 D hD) rfl, Nat.le_trans p8 z4.size⟩
        · exact boxed_other ((p3.alloc _).kept hgrow (p3.not_row (by decide) P2.out)) (p := ⟨L, 0, none⟩) hXL _
        · exact ((p4.later ((Below.refl _ W).alloc (Nat.le_refl _) _)).grown hgrow (owns_type P2.out p4 (by decide))).grown (grown_set w1' L 0 _) (fun e => p4.ne p1 (by decide) (Option.some.inj e))
      case done =>
        rintro D ys W hD hys ⟨v1, p1, p2, p3, p4, p5, p6, p7, p8⟩ hK
        have hDs : D ∉ ds := fun hm => by have := (Array.getElem?_eq_some_iff.1 (hds D hm).2).1; omega
        have HE := Lib.hid (show marks (D :: ds) = { target := .collected D, args := #[] } :: marks ds from rfl)
        rw [hys, ← HST.out] at p2
        have P1 := Lib.hid p1
        have P2 := Lib.hid p2
        have P4 := Lib.hid p4
        have P5 := Lib.hid p5
        have P6 := Lib.hid p6
        have P7 := Lib.hid p7
        have HNd := Lib.hid (List.nodup_cons.2 ⟨hDs, hnd⟩)
        have HDS := Lib.hid (show ∀ D' ∈ D :: ds, B5 ≤ D' ∧ W.heap[D']? = some (.deferred (some [])) from fun D' hD' => by
          rcases List.mem_cons.1 hD' with e | e
          · subst e; exact ⟨by omega, hK⟩
          · exact ⟨(hds D' e).1, p7 D' e⟩)
        clear p1 p2 p3 p4 p5 p6 p7 hK hds hd8 hL8 hrow8 hX8 hmr8 hnd
        gi_wp2_with fail
        refine ⟨⟨_, _, _, _, _, _, _, _, _, _, _, _, _, _, _, _, _, _, _, _, _, _, _, _, _, _, _, _, _, _, _, _, _, _, _, _, _, _, _, _, _, _, _, _, _, _, _, _, _, _, _, _, ⟨k + 1, D :: ds, v1, by omega, by go_num, HE.out.symm, HNd.out, HDS.out, P1.out, P2.out, P4.out, P5.out, P6.out, by omega⟩, rfl⟩, ?_⟩
        simp [intOf]; omega
      case stop =>
        rintro D c pre W _ _ h _
        exact h.elim
    · have hke : k = m := by omega
      subst hke
      have n9 := hbox.cell
      have HRW := Lib.hid hrow
      have HDS := Lib.hid hds
      have HND := Lib.hid hnd
      clear hrow hds hnd hmr
      gi_wp2
      refine leaves_marks (I := fun W => W.ownsRow L 68 2 v (progP k F).length ((progP k F).flatMap pcells) ∧ Below w.heap.size w W) (fun W h => ?_) ds wr HND.out (fun D hD => (HDS.out D hD).2) (fun D hD W' h hD' => ⟨ownsRow_putObj h.1 _ hD' rfl, h.2.trans (belowK_b (w := w) (Nat.le_refl _) W' D _ _ (by have := (HDS.out D hD).1; omega) hD' rfl rfl)⟩) ⟨HRW.out, hbw⟩
      refine ⟨.tuple #[v, .int .i64 0], by simp [results, Tryd.f26, go_sem], v, rfl, by rw [hFe]; exact owns_lower h.1 (by omega), h.2⟩
end Go.Proofs.YtnkkpjgclekobaaDoor

namespace Go.Proofs.YtnkkpjgclekobaaDoor
open Go.RowKit Go.Shelf

/-- Nothing and a code. -/
def RetNo (code : Int) (w : World) (e : Ending) (w' : World) : Prop := e = .returned (.tuple #[.slice none 0 0, .int .i64 code]) ∧ Below w.heap.size w w'

set_option maxRecDepth 100000 in
set_option maxHeartbeats 4000000 in
theorem iPairs_ck (n : NM) (i : IN) (r : Int) (w : World) (hn : n.In w.heap.size w) (hi : i.In w.heap.size w) (hck : icheckF n i ≠ 0) :
    Calls Tryd.prog 26 #[n.val, i.val, .int .i64 r] w (RetNo (icheckF n i) w) := by
  refine (callsIn_wide (n := 5)).1 ?_
  have hdd : ∀ k : Nat, (Fence.wide.depth.isSome = true → 1 ≤ k) := fun k h => by cases h
  obtain ⟨W1, hW1, hB1, hs1, hk1⟩ := newBlk w _ rfl #[.slice n.C.A n.C.l.length n.C.c, .slice n.R.A n.R.l.length n.R.c, .slice n.I.A n.I.l.length n.I.c] 24
  obtain ⟨W2, hW2, hB2, hs2, hk2⟩ := newBlk W1 _ hs1 #[.int .i64 i.size, .slice i.CA i.C.length i.cc, .slice i.RA i.R.length i.rc, .slice i.I.A i.I.l.length i.I.c] 58
  have hB : Below w.heap.size w W2 := hB1.trans (hB2.mono (by omega))
  have hk12 := (hB2.block w.heap.size (by omega)).trans hk1
  have a0 := cell_of_blk hk12 0
  have a1 := cell_of_blk hk12 1
  have a2 := cell_of_blk hk12 2
  have b0 := cell_of_blk hk2 0
  have b1 := cell_of_blk hk2 1
  have b2 := cell_of_blk hk2 2
  have b3 := cell_of_blk hk2 3
  simp only [List.getElem?_toArray, List.getElem?_cons_zero, List.getElem?_cons_succ] at a0 a1 a2 b0 b1 b2 b3
  have hchk := inW (iCheck_any n i W2 (hn.later hB) (hi.later hB)) 4
  obtain ⟨ck, hcke⟩ : ∃ ck, icheckF n i = ck := ⟨_, rfl⟩
  rw [hcke] at hchk hck ⊢
  have hne : (ck != 0) = true := by simpa using hck
  have HB := Lib.hid hB
  have HCK := Lib.hid hchk
  simp only [NM.val, IN.val] at HCK ⊢
  clear hB hn hi hchk hB1 hB2 hk1 hk12 hk2 hcke
  refine callsIn_of_wp_marks Tryd.func26 rfl trivial ?_ rfl
  simp only [Tryd.ntmps26, List.size_toArray, List.length_cons, List.length_nil, Nat.reduceAdd, Nat.reduceSub, Array.replicate_succ, Array.replicate_zero, List.push_toArray, List.append_toArray, List.nil_append, List.cons_append]
  gi_wp2_with (refine ⟨trivial, ?_⟩; refine HCK.out.mono ?_; rintro e w3 ⟨rfl, hb3⟩)
  exact ⟨_, by simp [results, Tryd.f26, go_sem], rfl, HB.out.trans (hb3.mono (by omega))⟩

set_option maxRecDepth 100000 in
set_option maxHeartbeats 4000000 in
theorem iPairs_lo (n : NM) (i : IN) (r : Int) (w : World) (hn : n.In w.heap.size w) (hi : i.In w.heap.size w) (hck : icheckF n i = 0) (hr : r < 0) :
    Calls Tryd.prog 26 #[n.val, i.val, .int .i64 r] w (RetNo 1 w) := by
  refine (callsIn_wide (n := 5)).1 ?_
  have hdd : ∀ k : Nat, (Fence.wide.depth.isSome = true → 1 ≤ k) := fun k h => by cases h
  obtain ⟨W1, hW1, hB1, hs1, hk1⟩ := newBlk w _ rfl #[.slice n.C.A n.C.l.length n.C.c, .slice n.R.A n.R.l.length n.R.c, .slice n.I.A n.I.l.length n.I.c] 24
  obtain ⟨W2, hW2, hB2, hs2, hk2⟩ := newBlk W1 _ hs1 #[.int .i64 i.size, .slice i.CA i.C.length i.cc, .slice i.RA i.R.length i.rc, .slice i.I.A i.I.l.length i.I.c] 58
  have hB : Below w.heap.size w W2 := hB1.trans (hB2.mono (by omega))
  have hk12 := (hB2.block w.heap.size (by omega)).trans hk1
  have a0 := cell_of_blk hk12 0
  have a1 := cell_of_blk hk12 1
  have a2 := cell_of_blk hk12 2
  have b0 := cell_of_blk hk2 0
  have b1 := cell_of_blk hk2 1
  have b2 := cell_of_blk hk2 2
  have b3 := cell_of_blk hk2 3
  simp only [List.getElem?_toArray, List.getElem?_cons_zero, List.getElem?_cons_succ] at a0 a1 a2 b0 b1 b2 b3
  have hchk := inW (iCheck_any n i W2 (hn.later hB) (hi.later hB)) 4
  rw [hck] at hchk
  have HB := Lib.hid hB
  have HCK := Lib.hid hchk
  have t1 : decide (r < 0) = true := decide_eq_true hr
  simp only [NM.val, IN.val] at HCK ⊢
  clear hB hn hi hchk hB1 hB2 hk1 hk12 hk2 hck
  refine callsIn_of_wp_marks Tryd.func26 rfl trivial ?_ rfl
  simp only [Tryd.ntmps26, List.size_toArray, List.length_cons, List.length_nil, Nat.reduceAdd, Nat.reduceSub, Array.replicate_succ, Array.replicate_zero, List.push_toArray, List.append_toArray, List.nil_append, List.cons_append]
  gi_wp2_with (refine ⟨trivial, ?_⟩; refine HCK.out.mono ?_; rintro e w3 ⟨rfl, hb3⟩)
  exact ⟨_, by simp [results, Tryd.f26, go_sem], rfl, HB.out.trans (hb3.mono (by omega))⟩

set_option maxRecDepth 100000 in
set_option maxHeartbeats 4000000 in
theorem iPairs_hi (n : NM) (i : IN) (r : Nat) (w : World) (hn : n.In w.heap.size w) (hi : i.In w.heap.size w) (hck : icheckF n i = 0) (h63 : r ≤ 9223372036854775807) (hr : 2 * i.R.length ≤ r) :
    Calls Tryd.prog 26 #[n.val, i.val, .int .i64 (r : Nat)] w (RetNo 1 w) := by
  refine (callsIn_wide (n := 5)).1 ?_
  have hdd : ∀ k : Nat, (Fence.wide.depth.isSome = true → 1 ≤ k) := fun k h => by cases h
  obtain ⟨W1, hW1, hB1, hs1, hk1⟩ := newBlk w _ rfl #[.slice n.C.A n.C.l.length n.C.c, .slice n.R.A n.R.l.length n.R.c, .slice n.I.A n.I.l.length n.I.c] 24
  obtain ⟨W2, hW2, hB2, hs2, hk2⟩ := newBlk W1 _ hs1 #[.int .i64 i.size, .slice i.CA i.C.length i.cc, .slice i.RA i.R.length i.rc, .slice i.I.A i.I.l.length i.I.c] 58
  have hB : Below w.heap.size w W2 := hB1.trans (hB2.mono (by omega))
  have hk12 := (hB2.block w.heap.size (by omega)).trans hk1
  have a0 := cell_of_blk hk12 0
  have a1 := cell_of_blk hk12 1
  have a2 := cell_of_blk hk12 2
  have b0 := cell_of_blk hk2 0
  have b1 := cell_of_blk hk2 1
  have b2 := cell_of_blk hk2 2
  have b3 := cell_of_blk hk2 3
  have hcell : ∀ w', Below W2.heap.size W2 w' → w'.cell? ⟨w.heap.size + 1, 2, none⟩ = some (.slice i.RA i.R.length i.rc) := fun w' hb => cell_of_blk (blk_lat hk2 hb) 2
  simp only [List.getElem?_toArray, List.getElem?_cons_zero, List.getElem?_cons_succ] at a0 a1 a2 b0 b1 b2 b3
  have hchk := inW (iCheck_any n i W2 (hn.later hB) (hi.later hB)) 4
  rw [hck] at hchk
  have HB := Lib.hid hB
  have HCK := Lib.hid hchk
  have HCE := Lib.hid hcell
  have t1 : decide ((r : Int) < 0) = false := decide_eq_false (by omega)
  have t2 : decide ((i.R.length : Int) ≤ ((r : Int) / 2)) = true := decide_eq_true (by omega)
  have hw : wrap64 ((r : Int) / 2) = (r : Int) / 2 := by unfold wrap64; omega
  simp only [NM.val, IN.val] at HCK ⊢
  clear hB hn hi hchk hB1 hB2 hk1 hk12 hk2 hck hcell
  refine callsIn_of_wp_marks Tryd.func26 rfl trivial ?_ rfl
  simp only [Tryd.ntmps26, List.size_toArray, List.length_cons, List.length_nil, Nat.reduceAdd, Nat.reduceSub, Array.replicate_succ, Array.replicate_zero, List.push_toArray, List.append_toArray, List.nil_append, List.cons_append]
  gi_wp2_with (refine ⟨trivial, ?_⟩; refine HCK.out.mono ?_; rintro e w3 ⟨rfl, hb3⟩; have c2 := HCE.out w3 hb3)
  exact ⟨_, by simp [results, Tryd.f26, go_sem], rfl, HB.out.trans (hb3.mono (by omega))⟩
end Go.Proofs.YtnkkpjgclekobaaDoor
