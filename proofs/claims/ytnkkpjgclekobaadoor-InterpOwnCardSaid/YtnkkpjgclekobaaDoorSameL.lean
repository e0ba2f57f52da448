import Derived.Test.YtnkkpjgclekobaaDoorIEl
import Derived.Test.YtnkkpjgclekobaaDoorRPairs
namespace Go.Proofs.YtnkkpjgclekobaaDoor
open Go.RowKit

theorem il_of_owns {w : World} {base : Nat} {v : Value} {l : List Int} (h : w.ownsRow base 3 1 v l.length (l.map icell)) : ∃ A c, v = .slice A l.length c ∧ (IL.mk A c l).In w.heap.size w := by
  rcases h.2 with ⟨rfl, h0⟩ | ⟨g, cap, cur, rfl, hge, hheap, hlen, hcap, hsize, htake⟩
  · refine ⟨none, 0, by rw [h0], ?_, ?_, ?_, fun hn => absurd h0 hn⟩
    · show l.length ≤ 0; omega
    · show (0 : Nat) ≤ _; omega
    · simp
  · unfold maxLen at hcap
    refine ⟨some ⟨g, 0, none⟩, cap, rfl, hlen, by show cap ≤ _; omega, h.1, fun _ => ⟨g, 0, rfl, (Array.getElem?_eq_some_iff.1 hheap).1, fun j hj => ?_⟩⟩
    have hl : (l.map icell).length = l.length * 1 := h.1
    obtain ⟨u, hu⟩ : ∃ u, (l.map icell)[j]? = some u := ⟨_, List.getElem?_eq_getElem (by rw [hl]; exact hj)⟩
    have hx := h.cells (g := g) rfl j u hu
    rw [show (⟨g, 0, none⟩ : Addr).add j = ⟨g, 0 + j, none⟩ by cases j <;> simp [Addr.add]] at hx
    rw [hx]; exact hu.symm

set_option maxRecDepth 100000 in
set_option maxHeartbeats 2000000 in
theorem SameIntsL_any (s1 s2 : IL) (w : World) (h1 : s1.In w.heap.size w) (h2 : s2.In w.heap.size w) (he : s1.l = s2.l) :
    Calls Tryd.prog 54 #[.slice s1.A s1.l.length s1.c, .slice s2.A s2.l.length s2.c] w fun e w' => e = .returned (.bool true) ∧ Below w.heap.size w w' := by
  have hll : s1.l.length ≤ 9223372036854775807 := Nat.le_trans h1.1 h1.2.1
  have hc1 := fun h => IL.In.cells h1 h
  have hc2 := fun h => IL.In.cells h2 h
  obtain ⟨A1, c1, l1⟩ := s1
  obtain ⟨A2, c2, l2⟩ := s2
  dsimp only at *
  subst he
  have hne : ((l1.length : Int) != (l1.length : Int)) = false := by simp
  clear h1 h2
  go_enter Tryd.func54, Tryd.ntmps54
  go_wp2_with fail
  go_loopw [13] (fun i wr => ∃ k : Nat, k ≤ l1.length ∧ i = .int .i64 k ∧ Below w.heap.size w wr) (fun i _ => l1.length - (intOf i).toNat)
  case atStart => exact ⟨0, Nat.zero_le _, rfl, Below.refl _ w⟩
  case round =>
    obtain ⟨k, hk, rfl, hbw⟩ := hrel
    by_cases hlt : k < l1.length
    · obtain ⟨g1, o1, rfl, hg1, d1⟩ := hc1 (by omega)
      obtain ⟨g2, o2, rfl, hg2, d2⟩ := hc2 (by omega)
      have e1 := (hbw.drew.cell (p := ⟨g1, o1 + k, none⟩) hg1).trans (d1 k hlt)
      have e2 := (hbw.drew.cell (p := ⟨g2, o2 + k, none⟩) hg2).trans (d2 k hlt)
      clear d1 d2 hc1 hc2
      generalize l1[k] = z at e1 e2
      have hzz : (z != z) = false := by simp
      have h0I : (0 : Int) ≤ k := by omega
      have hlI : (k : Int) < l1.length := by omega
      go_wp2_with fail
      go_region_held (fun w' => w'.cell? ⟨g1, o1 + k, none⟩ = some (.int .i64 z) ∧ w'.cell? ⟨g2, o2 + k, none⟩ = some (.int .i64 z)) (exact ⟨e1, e2⟩) (fail)
      go_wp2
      go_roundw
      case rel => exact ⟨k + 1, by omega, by go_num, hbw.drew⟩
      case measure => simp [intOf]; omega
    · go_wp2
      go_ret
      exact ⟨rfl, hbw⟩

/-- The fixed interpretation, names and concepts of awake. -/
def fixC3 : List ByteArray := [⟨#[65]⟩]
def fixR3 : List ByteArray := [⟨#[114]⟩]
def trAll : Tr := .mk 7 1 [.mk 3 0 [.mk 0 0 []]]
def trSome : Tr := .mk 6 0 [.mk 0 0 []]
structure FixI (i : IN) : Prop where
  s : i.size = 2
  c : ∃ s, i.C = [s] ∧ s.l = [0]
  r : ∃ s, i.R = [s] ∧ s.l = [(0, 1), (1, 1)]
  i : i.I.l = []
structure FixN (n : NM) : Prop where
  c : n.C.l = fixC3
  r : n.R.l = fixR3
  i : n.I.l = []
theorem fixN_ok {n : NM} (h : FixN n) : n.ok = true := by
  rw [NM.ok, h.c, h.r, h.i]; decide
theorem fix_icheck {n : NM} {i : IN} (hn : FixN n) (hi : FixI i) : icheckF n i = 0 ∧ listsB i = true := by
  obtain ⟨sc, hc, hcl⟩ := hi.c
  obtain ⟨sr, hr, hrl⟩ := hi.r
  have hl : listsB i = true := by
    rw [listsB, hc, hr, hi.i, hi.s]
    simp only [List.all_cons, List.all_nil, Bool.and_true, List.any_nil, Bool.not_false, okI, okP, hcl, hrl]
    decide
  have hs : shapeB n i = true := by
    rw [shapeB, hc, hr, hi.i, hi.s, hn.c, hn.r, hn.i]
    rfl
  exact ⟨by rw [icheckF, fixN_ok hn, hs, hl]; rfl, hl⟩
theorem fix_sem {i : IN} (hi : FixI i) : ((elsF (semT i 2 trAll) 0).map fun y : Nat => (y : Int)) = [0] ∧ ((elsF (semT i 2 trSome) 0).map fun y : Nat => (y : Int)) = [] ∧ progP 2 (endsF i 1) = [(1, 0), (1, 1)] := by
  obtain ⟨size, CA, cc, C, RA, rc, R, I⟩ := i
  obtain ⟨hs, ⟨sc, hc, hcl⟩, ⟨sr, hr, hrl⟩, hii⟩ := hi
  obtain ⟨a1, c1, l1⟩ := sc
  obtain ⟨a2, c2, l2⟩ := sr
  dsimp only at hs hc hcl hr hrl hii
  subst hs hc hcl hr hrl
  exact ⟨by kernel_rfl, by kernel_rfl, by kernel_rfl⟩
end Go.Proofs.YtnkkpjgclekobaaDoor

namespace Go.Proofs.YtnkkpjgclekobaaDoor
open Go.RowKit

theorem tree_one {w : World} {g : Nat} {T : MT} (op n : Int) (hk : w.heap[g]? = some (.cells #[.int .i64 T.op, .int .i64 T.n, .slice T.A T.args.length T.c] 27)) (hT : T.In w.heap.size w) : (MT.mk op n (some ⟨g, 0, none⟩) 1 [T]).In w.heap.size w := by
  rw [MT.In]
  refine ⟨by simp, by omega, ⟨by simp [MT.cs], fun _ => ⟨g, 0, rfl, (Array.getElem?_eq_some_iff.1 hk).1, fun j hj => ?_⟩⟩, by rw [MT.InAll]; exact ⟨hT, trivial⟩⟩
  rw [cell_of_blk hk, Nat.zero_add]
  have : ([T].flatMap MT.cs) = [.int .i64 T.op, .int .i64 T.n, .slice T.A T.args.length T.c] := by simp [MT.cs]
  rw [this, List.getElem?_toArray]
theorem tree_leaf (op n : Int) (w : World) : (MT.mk op n none 0 []).In w.heap.size w := by
  rw [MT.In]
  exact ⟨Nat.le_refl _, by omega, RowAt.nil _ _ _ _, by rw [MT.InAll]; trivial⟩
theorem leaf_tr (op n : Int) : (MT.mk op n none 0 []).tr = .mk op n [] := by rw [MT.tr, MT.trs]
theorem one_tr (op n : Int) (A : Option Addr) (T : MT) : (MT.mk op n A 1 [T]).tr = .mk op n [T.tr] := by rw [MT.tr, MT.trs, MT.trs]
set_option maxRecDepth 100000 in
set_option maxHeartbeats 1000000 in
theorem Of_any' (op nn : Int) (A : Option Addr) (len c : Nat) (w : World) : Calls Tryd.prog 53 #[.int .i64 op, .int .i64 nn, .slice A len c] w fun e w' => e = .returned (.agg #[.int .i64 op, .int .i64 nn, .slice A len c]) ∧ Below w.heap.size w w' := by
  go_enter Tryd.func53, Tryd.ntmps53
  go_wp2_with fail
  obtain ⟨W1, hW1, hB1, hs1, hblk1⟩ := newBlk w _ rfl #[.int .i64 op, .int .i64 nn, .slice A len c] 27
  have t0 := cell_of_blk hblk1 0
  have t1 := cell_of_blk hblk1 1
  have t2 := cell_of_blk hblk1 2
  simp only [List.getElem?_toArray, List.getElem?_cons_zero, List.getElem?_cons_succ] at t0 t1 t2
  rw [hW1]
  exact bodyPost_ret (v := .agg #[.int .i64 op, .int .i64 nn, .slice A len c]) (by simp [results, Tryd.f53, go_sem, t0, t1, t2]) rfl ⟨rfl, hB1⟩
theorem fixN_check {n : NM} (h : FixN n) {T : MT} {t : Tr} (ht : T.tr = t) (hv : validT 1 1 t = true) : checkF n T = 0 := by
  rw [checkF_eq, checkT, fixN_ok h, if_pos rfl, h.c, h.r, ht]
  have : validT fixC3.length fixR3.length t = true := hv
  rw [this]; rfl

set_option maxRecDepth 100000 in
set_option maxHeartbeats 8000000 in
theorem awake3_any (w : World) (hG : GT w) : Calls Tryd.prog 22 #[] w fun e w' => e = .returned (.bool true) ∧ Below w.heap.size w w' := by
  obtain ⟨W1, hW1, hB1, hs1, hk1⟩ := newBlk w _ rfl #[.string ⟨#[65]⟩] 9
  obtain ⟨W2, hW2, hB2, hs2, hk2⟩ := newBlk W1 _ hs1 #[.string ⟨#[114]⟩] 9
  obtain ⟨W3, hW3, hB3, hs3, hk3⟩ := newBlk W2 _ hs2 #[.slice (some ⟨w.heap.size, 0, none⟩) 1 1, .slice (some ⟨w.heap.size + 1, 0, none⟩) 1 1, .slice none 0 0] 24
  obtain ⟨W4, hW4, hB4, hs4, hk4⟩ := newBlk W3 _ hs3 #[.int .i64 0] 3
  obtain ⟨W5, hW5, hB5, hs5, hk5⟩ := newBlk W4 _ hs4 #[.slice (some ⟨w.heap.size + 1 + 1 + 1, 0, none⟩) 1 1] 40
  obtain ⟨W6, hW6, hB6, hs6, hk6⟩ := newBlk W5 _ hs5 #[.int .i64 0, .int .i64 1, .int .i64 1, .int .i64 1] 68
  obtain ⟨W7, hW7, hB7, hs7, hk7⟩ := newBlk W6 _ hs6 #[.slice (some ⟨w.heap.size + 1 + 1 + 1 + 1 + 1, 0, none⟩) 2 2] 65
  obtain ⟨W8, hW8, hB8, hs8, hk8⟩ := newBlk W7 _ hs7 #[.int .i64 2, .slice (some ⟨w.heap.size + 1 + 1 + 1 + 1, 0, none⟩) 1 1, .slice (some ⟨w.heap.size + 1 + 1 + 1 + 1 + 1 + 1, 0, none⟩) 1 1, .slice none 0 0] 58
  have hB : Below w.heap.size w W8 := (((((((hB1.trans (hB2.mono (by omega))).trans (hB3.mono (by omega))).trans (hB4.mono (by omega))).trans (hB5.mono (by omega))).trans (hB6.mono (by omega))).trans (hB7.mono (by omega))).trans (hB8.mono (by omega)))
  have kk1 := ((hB8.block (w.heap.size) (by omega)).trans ((hB7.block (w.heap.size) (by omega)).trans ((hB6.block (w.heap.size) (by omega)).trans ((hB5.block (w.heap.size) (by omega)).trans ((hB4.block (w.heap.size) (by omega)).trans ((hB3.block (w.heap.size) (by omega)).trans ((hB2.block (w.heap.size) (by omega)).trans hk1)))))))
  have kk2 := ((hB8.block (w.heap.size + 1) (by omega)).trans ((hB7.block (w.heap.size + 1) (by omega)).trans ((hB6.block (w.heap.size + 1) (by omega)).trans ((hB5.block (w.heap.size + 1) (by omega)).trans ((hB4.block (w.heap.size + 1) (by omega)).trans ((hB3.block (w.heap.size + 1) (by omega)).trans hk2))))))
  have kk3 := ((hB8.block (w.heap.size + 1 + 1) (by omega)).trans ((hB7.block (w.heap.size + 1 + 1) (by omega)).trans ((hB6.block (w.heap.size + 1 + 1) (by omega)).trans ((hB5.block (w.heap.size + 1 + 1) (by omega)).trans ((hB4.block (w.heap.size + 1 + 1) (by omega)).trans hk3)))))
  have kk4 := ((hB8.block (w.heap.size + 1 + 1 + 1) (by omega)).trans ((hB7.block (w.heap.size + 1 + 1 + 1) (by omega)).trans ((hB6.block (w.heap.size + 1 + 1 + 1) (by omega)).trans ((hB5.block (w.heap.size + 1 + 1 + 1) (by omega)).trans hk4))))
  have kk5 := ((hB8.block (w.heap.size + 1 + 1 + 1 + 1) (by omega)).trans ((hB7.block (w.heap.size + 1 + 1 + 1 + 1) (by omega)).trans ((hB6.block (w.heap.size + 1 + 1 + 1 + 1) (by omega)).trans hk5)))
  have kk6 := ((hB8.block (w.heap.size + 1 + 1 + 1 + 1 + 1) (by omega)).trans ((hB7.block (w.heap.size + 1 + 1 + 1 + 1 + 1) (by omega)).trans hk6))
  have kk7 := ((hB8.block (w.heap.size + 1 + 1 + 1 + 1 + 1 + 1) (by omega)).trans hk7)
  have kk8 := hk8
  obtain ⟨N, hNe⟩ : ∃ N : NM, N = ⟨⟨some ⟨w.heap.size, 0, none⟩, 1, fixC3⟩, ⟨some ⟨w.heap.size + 1, 0, none⟩, 1, fixR3⟩, ⟨none, 0, []⟩⟩ := ⟨_, rfl⟩
  obtain ⟨I, hIe⟩ : ∃ I : IN, I = ⟨2, some ⟨w.heap.size + 1 + 1 + 1 + 1, 0, none⟩, 1, [⟨some ⟨w.heap.size + 1 + 1 + 1, 0, none⟩, 1, [0]⟩], some ⟨w.heap.size + 1 + 1 + 1 + 1 + 1 + 1, 0, none⟩, 1, [⟨some ⟨w.heap.size + 1 + 1 + 1 + 1 + 1, 0, none⟩, 2, [(0, 1), (1, 1)]⟩], ⟨none, 0, []⟩⟩ := ⟨_, rfl⟩
  have fN : FixN N := by rw [hNe]; exact ⟨rfl, rfl, rfl⟩
  have fI : FixI I := by rw [hIe]; exact ⟨rfl, ⟨_, rfl, rfl⟩, ⟨_, rfl, rfl⟩, rfl⟩
  have hNin : N.In W8.heap.size W8 := by
    rw [hNe]
    exact ⟨row_of_blk (l := fixC3) kk1 (by omega) (by decide) (by decide), row_of_blk (l := fixR3) kk2 (by omega) (by decide) (by decide), Nil.In _ _ _⟩
  have one : ∀ {g : Nat} {cs : Array Value} {t : TypeId} {size k : Nat} {l : List Value}, W8.heap[g]? = some (.cells cs t) → cs = l.toArray → l.length = k * size → RowAt W8 W8.heap.size size (some ⟨g, 0, none⟩) k l := fun {g cs t size k l} hk hc hl => ⟨hl, fun _ => ⟨g, 0, rfl, (Array.getElem?_eq_some_iff.1 hk).1, fun j hj => by rw [cell_of_blk hk, Nat.zero_add, hc, List.getElem?_toArray]⟩⟩
  have hIin : I.In W8.heap.size W8 := by
    rw [hIe]
    refine ⟨Nat.le_refl _, show 1 ≤ 9223372036854775807 by decide, one kk5 rfl rfl, fun s hs => ?_, Nat.le_refl _, show 1 ≤ 9223372036854775807 by decide, one kk7 rfl rfl, fun s hs => ?_, ⟨Nat.le_refl _, show 0 ≤ 9223372036854775807 by decide, RowAt.nil _ _ _ _⟩⟩
    · rw [List.mem_singleton.1 hs]; exact ⟨Nat.le_refl _, show 1 ≤ 9223372036854775807 by decide, one kk4 rfl rfl⟩
    · rw [List.mem_singleton.1 hs]; exact ⟨Nat.le_refl _, show 2 ≤ 9223372036854775807 by decide, one kk6 rfl rfl⟩
  have hIC : I.C.length = 1 := by rw [hIe]; rfl
  have hIR : I.R.length = 1 := by rw [hIe]; rfl
  have hII : I.I.l.length = 0 := by rw [hIe]; rfl
  have hNv : N.val = .agg #[.slice (some ⟨w.heap.size, 0, none⟩) 1 1, .slice (some ⟨w.heap.size + 1, 0, none⟩) 1 1, .slice none 0 0] := by rw [hNe]; rfl
  have hIv : I.val = .agg #[.int .i64 2, .slice (some ⟨w.heap.size + 1 + 1 + 1 + 1, 0, none⟩) 1 1, .slice (some ⟨w.heap.size + 1 + 1 + 1 + 1 + 1 + 1, 0, none⟩) 1 1, .slice none 0 0] := by rw [hIe]; rfl
  obtain ⟨hck, hl⟩ := fix_icheck fN fI
  obtain ⟨m1, m2, m3⟩ := fix_sem fI
  have hEl : ∀ (T : MT) (t : Tr) (w' : World), Below W8.heap.size W8 w' → T.In w'.heap.size w' → T.tr = t → validT 1 1 t = true → t.wfT 1 1 = true → Calls Tryd.prog 25 #[.agg #[.slice (some ⟨w.heap.size, 0, none⟩) 1 1, .slice (some ⟨w.heap.size + 1, 0, none⟩) 1 1, .slice none 0 0], T.val, .agg #[.int .i64 2, .slice (some ⟨w.heap.size + 1 + 1 + 1 + 1, 0, none⟩) 1 1, .slice (some ⟨w.heap.size + 1 + 1 + 1 + 1 + 1 + 1, 0, none⟩) 1 1, .slice none 0 0]] w' (RetInts ((elsF (semT I 2 t) 0).map fun y : Nat => (y : Int)) 0 w') := fun T t w' hb hT ht hv hw => by
    have hsz : T.tr.size ≤ 400 := by
      rw [ht]
      rw [validT, Bool.and_eq_true, decide_eq_true_eq] at hv
      exact hv.1
    have := iElements_ok N T I 2 w' ((hG.later hB).later hb) (hNin.later hb) hT (hIin.later hb) fI.s (by rw [MT.pre_length]; omega) (fixN_check fN ht hv) hck (by rw [ht, hIC, hIR]; exact hw) (by omega) (by omega) hl (by omega) (by omega) (by omega)
    rw [ht, hNv, hIv] at this
    exact this
  have hPa : ∀ w', Below W8.heap.size W8 w' → Calls Tryd.prog 26 #[.agg #[.slice (some ⟨w.heap.size, 0, none⟩) 1 1, .slice (some ⟨w.heap.size + 1, 0, none⟩) 1 1, .slice none 0 0], .agg #[.int .i64 2, .slice (some ⟨w.heap.size + 1 + 1 + 1 + 1, 0, none⟩) 1 1, .slice (some ⟨w.heap.size + 1 + 1 + 1 + 1 + 1 + 1, 0, none⟩) 1 1, .slice none 0 0], .int .i64 1] w' (RetPairs [(1, 0), (1, 1)] 0 w') := fun w' hb => by
    have := iPairs_ok N I 2 1 w' ((hG.later hB).later hb) (hNin.later hb) (hIin.later hb) fI.s hck (by omega) (by omega) hl (by omega) (by omega) (by omega) (by omega)
    rw [m3, hNv, hIv] at this
    exact this
  have hPn : ∀ w', Below W8.heap.size W8 w' → Calls Tryd.prog 26 #[.agg #[.slice (some ⟨w.heap.size, 0, none⟩) 1 1, .slice (some ⟨w.heap.size + 1, 0, none⟩) 1 1, .slice none 0 0], .agg #[.int .i64 2, .slice (some ⟨w.heap.size + 1 + 1 + 1 + 1, 0, none⟩) 1 1, .slice (some ⟨w.heap.size + 1 + 1 + 1 + 1 + 1 + 1, 0, none⟩) 1 1, .slice none 0 0], .int .i64 2] w' (RetNo 1 w') := fun w' hb => by
    have := iPairs_hi N I 2 w' (hNin.later hb) (hIin.later hb) hck (by omega) (by omega)
    rw [hNv, hIv] at this
    exact this
  have hS : ∀ w', Below W8.heap.size W8 w' → ((w'.cell? ⟨w.heap.size + 1 + 1, 0, none⟩ = some (.slice (some ⟨w.heap.size, 0, none⟩) 1 1) ∧ w'.cell? ⟨w.heap.size + 1 + 1, 1, none⟩ = some (.slice (some ⟨w.heap.size + 1, 0, none⟩) 1 1) ∧ w'.cell? ⟨w.heap.size + 1 + 1, 2, none⟩ = some (.slice none 0 0)) ∧ w'.cell? ⟨w.heap.size + 1 + 1 + 1 + 1 + 1 + 1 + 1, 0, none⟩ = some (.int .i64 2) ∧ w'.cell? ⟨w.heap.size + 1 + 1 + 1 + 1 + 1 + 1 + 1, 1, none⟩ = some (.slice (some ⟨w.heap.size + 1 + 1 + 1 + 1, 0, none⟩) 1 1) ∧ w'.cell? ⟨w.heap.size + 1 + 1 + 1 + 1 + 1 + 1 + 1, 2, none⟩ = some (.slice (some ⟨w.heap.size + 1 + 1 + 1 + 1 + 1 + 1, 0, none⟩) 1 1) ∧ w'.cell? ⟨w.heap.size + 1 + 1 + 1 + 1 + 1 + 1 + 1, 3, none⟩ = some (.slice none 0 0)) := fun w' hb => ⟨⟨cell_of_blk (blk_lat kk3 hb) 0, cell_of_blk (blk_lat kk3 hb) 1, cell_of_blk (blk_lat kk3 hb) 2⟩, cell_of_blk (blk_lat kk8 hb) 0, cell_of_blk (blk_lat kk8 hb) 1, cell_of_blk (blk_lat kk8 hb) 2, cell_of_blk (blk_lat kk8 hb) 3⟩
  have HEL1 := Lib.hid (fun T w' hb hT ht => by have := hEl T trAll w' hb hT ht (by kernel_rfl) (by kernel_rfl); rw [m1] at this; exact (this : Calls Tryd.prog 25 #[.agg #[.slice (some ⟨w.heap.size, 0, none⟩) 1 1, .slice (some ⟨w.heap.size + 1, 0, none⟩) 1 1, .slice none 0 0], T.val, .agg #[.int .i64 2, .slice (some ⟨w.heap.size + 1 + 1 + 1 + 1, 0, none⟩) 1 1, .slice (some ⟨w.heap.size + 1 + 1 + 1 + 1 + 1 + 1, 0, none⟩) 1 1, .slice none 0 0]] w' (RetInts [0] 0 w')))
  have HEL2 := Lib.hid (fun T w' hb hT ht => by have := hEl T trSome w' hb hT ht (by kernel_rfl) (by kernel_rfl); rw [m2] at this; exact (this : Calls Tryd.prog 25 #[.agg #[.slice (some ⟨w.heap.size, 0, none⟩) 1 1, .slice (some ⟨w.heap.size + 1, 0, none⟩) 1 1, .slice none 0 0], T.val, .agg #[.int .i64 2, .slice (some ⟨w.heap.size + 1 + 1 + 1 + 1, 0, none⟩) 1 1, .slice (some ⟨w.heap.size + 1 + 1 + 1 + 1 + 1 + 1, 0, none⟩) 1 1, .slice none 0 0]] w' (RetInts [] 0 w')))
  have HPA := Lib.hid hPa
  have HPN := Lib.hid hPn
  have HS := Lib.hid hS
  have HB := Lib.hid hB
  clear hEl hPa hPn hS hB hNin hIin one m1 m2 m3 hck hl fN fI hNv hIv hIC hIR hII hNe hIe kk1 kk2 kk3 kk4 kk5 kk6 kk7 kk8 hk1 hk2 hk3 hk4 hk5 hk6 hk7 hk8 hB1 hB2 hB3 hB4 hB5 hB6 hB7 hB8
  have HW1 := Lib.hid hW1
  have HW2 := Lib.hid hW2
  have HW3 := Lib.hid hW3
  have HW4 := Lib.hid hW4
  have HW5 := Lib.hid hW5
  have HW6 := Lib.hid hW6
  have HW7 := Lib.hid hW7
  have HW8 := Lib.hid hW8
  clear hW1 hW2 hW3 hW4 hW5 hW6 hW7 hW8
  go_enter Tryd.func22, Tryd.ntmps22
  go_wp2_with fail
  rw [HW1.out, HW2.out, HW3.out, HW4.out, HW5.out, HW6.out, HW7.out, HW8.out]
  go_wp2_with (first
    | (go_at_call 26; first
      | (refine (HPN.out w16 hb16).mono ?_; rintro e w17 ⟨rfl, hb17'⟩; have hb17 := hb16.trans (hb17'.mono hb16.size))
      | (refine (HPA.out w15 hb15).mono ?_; rintro e w16 ⟨v6, rfl, ho6, hb16'⟩; have hb16 := hb15.trans (hb16'.mono hb15.size); obtain ⟨⟨y0, y1, y2⟩, y3, y4, y5, y6⟩ := HS.out w16 hb16))
    | (go_at_call 25; refine (HEL1.out (.mk 7 1 (some ⟨w11.heap.size, 0, none⟩) 1 [.mk 3 0 (some ⟨w9.heap.size, 0, none⟩) 1 [.mk 0 0 none 0 []]]) W14 hb14 hT2 hT2t).mono ?_; rintro e w15 ⟨v4, rfl, ho4, hb15'⟩; have hb15 := hb14.trans (hb15'.mono hb14.size); obtain ⟨⟨x0, x1, x2⟩, x3, x4, x5, x6⟩ := HS.out w15 hb15)
    | (go_at_call 53; first
      | (refine (Of_any' 7 1 (some ⟨w11.heap.size, 0, none⟩) 1 1 _).mono ?_; rintro e w13 ⟨rfl, hb13'⟩; have hb12 : Below W8.heap.size W8 (w11.alloc (.cells #[.int .i64 3, .int .i64 0, .slice (some ⟨w9.heap.size, 0, none⟩) 1 1] 27)) := hb11.alloc hb11.size _; have hb13 := hb12.trans (hb13'.mono hb12.size); have hk12 := blk_lat (World.alloc_heap_new' w11 (.cells #[.int .i64 3, .int .i64 0, .slice (some ⟨w9.heap.size, 0, none⟩) 1 1] 27)) hb13'; have hk10' := blk_lat (blk_lat hk10 ((Below.refl w11.heap.size w11).alloc (Nat.le_refl _) (.cells #[.int .i64 3, .int .i64 0, .slice (some ⟨w9.heap.size, 0, none⟩) 1 1] 27))) hb13'; obtain ⟨W14, hW14, hB14, hs14, hk14⟩ := (newBlk w13 _ rfl #[.int .i64 7, .int .i64 1, .slice (some ⟨w11.heap.size, 0, none⟩) 1 1] 27); have hb14 := hb13.trans (hB14.mono hb13.size); have hT2 := tree_one (T := .mk 3 0 (some ⟨w9.heap.size, 0, none⟩) 1 [.mk 0 0 none 0 []]) 7 1 (blk_lat hk12 hB14) (tree_one (T := .mk 0 0 none 0 []) 3 0 (blk_lat hk10' hB14) (tree_leaf 0 0 W14)); have hT2t : (MT.mk 7 1 (some ⟨w11.heap.size, 0, none⟩) 1 [.mk 3 0 (some ⟨w9.heap.size, 0, none⟩) 1 [.mk 0 0 none 0 []]]).tr = trAll := (by rw [one_tr, one_tr, leaf_tr]; rfl); have n0 := cell_of_blk hk14 0; have n1 := cell_of_blk hk14 1; have n2 := cell_of_blk hk14 2; simp only [List.getElem?_toArray, List.getElem?_cons_zero, List.getElem?_cons_succ] at n0 n1 n2; obtain ⟨⟨s0, s1, s2⟩, s3, s4, s5, s6⟩ := HS.out W14 hb14)
      | (refine (Of_any' 3 0 (some ⟨w9.heap.size, 0, none⟩) 1 1 _).mono ?_; rintro e w11 ⟨rfl, hb11'⟩; have hb10 : Below W8.heap.size W8 (w9.alloc (.cells #[.int .i64 0, .int .i64 0, .slice none 0 0] 27)) := hb9.alloc hb9.size _; have hb11 := hb10.trans (hb11'.mono hb10.size); have hk10 := blk_lat (World.alloc_heap_new' w9 (.cells #[.int .i64 0, .int .i64 0, .slice none 0 0] 27)) hb11')
      | (refine (Of_any' 0 0 none 0 0 _).mono ?_; rintro e w9 ⟨rfl, hb9⟩)))
  obtain ⟨A4, k4, hv4, hi4⟩ := il_of_owns ho4
  obtain ⟨A6, k6, hv6, hi6⟩ := pl_of_owns ho6
  have hv4' : v4 = .slice A4 1 k4 := hv4
  have hv6' : v6 = .slice A6 2 k6 := hv6
  subst hv4' hv6'
  have hi4' := hi4.below hb16'.size ((hb16'.mono (Nat.le_refl _)))
  have hi6' := hi6.below hb17'.size ((hb17'.mono (Nat.le_refl _)))
  have hi4'' := hi4'.below hb17'.size ((hb17'.mono (Nat.le_refl _)))
  have hb17d : Below W8.heap.size W8 w17.drew := hb17.drew
  clear hv4 hv6 hi4 hi6 ho4 ho6 n0 n1 n2 s0 s1 s2 s3 s4 s5 s6 x0 x1 x2 x3 x4 x5 x6 y0 y1 y2 y3 y4 y5 y6 hT2 hT2t hk14 hk12 hk10 hk10' hW14
  go_region_held (fun w' => ((w'.cell? ⟨w.heap.size + 1 + 1, 0, none⟩ = some (.slice (some ⟨w.heap.size, 0, none⟩) 1 1) ∧ w'.cell? ⟨w.heap.size + 1 + 1, 1, none⟩ = some (.slice (some ⟨w.heap.size + 1, 0, none⟩) 1 1) ∧ w'.cell? ⟨w.heap.size + 1 + 1, 2, none⟩ = some (.slice none 0 0)) ∧ w'.cell? ⟨w.heap.size + 1 + 1 + 1 + 1 + 1 + 1 + 1, 0, none⟩ = some (.int .i64 2) ∧ w'.cell? ⟨w.heap.size + 1 + 1 + 1 + 1 + 1 + 1 + 1, 1, none⟩ = some (.slice (some ⟨w.heap.size + 1 + 1 + 1 + 1, 0, none⟩) 1 1) ∧ w'.cell? ⟨w.heap.size + 1 + 1 + 1 + 1 + 1 + 1 + 1, 2, none⟩ = some (.slice (some ⟨w.heap.size + 1 + 1 + 1 + 1 + 1 + 1, 0, none⟩) 1 1) ∧ w'.cell? ⟨w.heap.size + 1 + 1 + 1 + 1 + 1 + 1 + 1, 3, none⟩ = some (.slice none 0 0)))
    (first | exact HS.out _ hb17d | exact HS.out _ hb18 | exact HS.out _ hb18a | exact HS.out _ hb19 | exact HS.out _ hb20)
    (first
      | (go_at_call 25; refine (HEL2.out (.mk 6 0 (some ⟨w18.heap.size, 0, none⟩) 1 [.mk 0 0 none 0 []]) w19 hb19 hT5 hT5t).mono ?_; rintro e w20 ⟨v10, rfl, ho10, hb20'⟩; have hb20 := hb19.trans (hb20'.mono hb19.size); have hb1720 := hb1719.trans (hb20'.mono hb1719.size))
      | (go_at_call 53; first
        | (refine (Of_any' 6 0 (some ⟨w18.heap.size, 0, none⟩) 1 1 _).mono ?_; rintro e w19 ⟨rfl, hb19'⟩; have hb19 := hb18a.trans (hb19'.mono hb18a.size); have hb1719 := hb1718a.trans (hb19'.mono hb1718a.size); have hk18 := blk_lat (World.alloc_heap_new' w18 (.cells #[.int .i64 0, .int .i64 0, .slice none 0 0] 27)) hb19'; have hT5 := tree_one (T := .mk 0 0 none 0 []) 6 0 hk18 (tree_leaf 0 0 w19); have hT5t : (MT.mk 6 0 (some ⟨w18.heap.size, 0, none⟩) 1 [.mk 0 0 none 0 []]).tr = trSome := (by rw [one_tr, leaf_tr]; rfl))
        | (refine (Of_any' 0 0 none 0 0 _).mono ?_; rintro e w18 ⟨rfl, hb18'⟩; have hb18 := hb17d.trans (hb18'.mono hb17d.size); have hb18a : Below W8.heap.size W8 (w18.alloc (.cells #[.int .i64 0, .int .i64 0, .slice none 0 0] 27)) := hb18.alloc hb18.size _; have hb1718 : Below w17.heap.size w17 w18 := ((Below.refl w17.heap.size w17).drew).trans hb18'; have hb1718a : Below w17.heap.size w17 (w18.alloc (.cells #[.int .i64 0, .int .i64 0, .slice none 0 0] 27)) := hb1718.alloc hb1718.size _)))
  obtain ⟨A10, k10, hv10, hi10⟩ := il_of_owns ho10
  have hv10' : v10 = .slice A10 0 k10 := hv10
  subst hv10'
  obtain ⟨W21, hW21, hB21, hs21, hk21⟩ := newBlk w20 _ rfl #[.int .i64 0] 3
  have i4 := hi4''.below (Nat.le_trans hb1720.size hB21.size) (hb1720.trans (hB21.mono hb1720.size))
  have j4 : (IL.mk (some ⟨w20.heap.size, 0, none⟩) 1 [0]).In W21.heap.size W21 := ⟨Nat.le_refl _, show 1 ≤ 9223372036854775807 by decide, rfl, fun _ => ⟨w20.heap.size, 0, rfl, by omega, fun j hj => by rw [cell_of_blk hk21, Nat.zero_add]; show (List.toArray [Value.int .i64 0])[j]? = ([Value.int .i64 0] : List Value)[j]?; rw [List.getElem?_toArray]⟩⟩
  have hsi : Calls Tryd.prog 54 #[.slice A4 1 k4, .slice (some ⟨w20.heap.size, 0, none⟩) 1 1] W21 fun e w' => e = .returned (.bool true) ∧ Below W21.heap.size W21 w' := SameIntsL_any ⟨A4, k4, [0]⟩ ⟨some ⟨w20.heap.size, 0, none⟩, 1, [0]⟩ W21 i4 j4 rfl
  have hb1721 : Below w17.heap.size w17 W21 := hb1720.trans (hB21.mono hb1720.size)
  have hb21 := hb20.trans (hB21.mono hb20.size)
  have hsp : ∀ w22, Below W21.heap.size W21 w22 → Calls Tryd.prog 55 #[.slice A6 2 k6, .slice (some ⟨w22.heap.size, 0, none⟩) 2 2] (w22.alloc (.cells #[.int .i64 1, .int .i64 0, .int .i64 1, .int .i64 1] 68)) fun e w' => e = .returned (.bool true) ∧ Below (w22.alloc (.cells #[.int .i64 1, .int .i64 0, .int .i64 1, .int .i64 1] 68)).heap.size (w22.alloc (.cells #[.int .i64 1, .int .i64 0, .int .i64 1, .int .i64 1] 68)) w' := fun w22 hb => by
    have hb' := (hb1721.trans (hb.mono hb1721.size)).alloc (Nat.le_trans hb1721.size hb.size) (.cells #[.int .i64 1, .int .i64 0, .int .i64 1, .int .i64 1] 68)
    exact SamePairs_any ⟨A6, k6, [(1, 0), (1, 1)]⟩ ⟨some ⟨w22.heap.size, 0, none⟩, 2, [(1, 0), (1, 1)]⟩ _ (hi6'.below hb'.size hb') ⟨Nat.le_refl _, show 2 ≤ 9223372036854775807 by decide, rfl, fun _ => ⟨w22.heap.size, 0, rfl, by simp, fun j hj => by rw [cell_of_blk (World.alloc_heap_new' w22 _), Nat.zero_add]; show (List.toArray [Value.int .i64 1, .int .i64 0, .int .i64 1, .int .i64 1])[j]? = ([Value.int .i64 1, .int .i64 0, .int .i64 1, .int .i64 1] : List Value)[j]?; rw [List.getElem?_toArray]⟩⟩ rfl
  have HSP := Lib.hid hsp
  clear hsp hi4' hi4'' hi6' i4 j4 hk21 hv10 hi10 ho10
  go_wp2_with (first
    | (go_at_call 55; refine (HSP.out w22 hb22').mono ?_; rintro e w24 ⟨rfl, hb24'⟩)
    | (go_at_call 54; refine hsi.mono ?_; clear hsi; rintro e w22 ⟨rfl, hb22'⟩))
  go_ret
  have hb22 := hb21.trans (hb22'.mono hb21.size)
  have hb23 := hb22.alloc hb22.size (.cells #[.int .i64 1, .int .i64 0, .int .i64 1, .int .i64 1] 68)
  exact ⟨rfl, HB.out.trans ((hb23.trans (hb24'.mono hb23.size)).mono (by omega))⟩
end Go.Proofs.YtnkkpjgclekobaaDoor
