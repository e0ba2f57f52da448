import Derived.Test.YtnkkpjgclekobaaDoorIEl
import Derived.Deep.DrawnRows
import Derived.Test.YtnkkpjgclekobaaDoorBData
import Derived.Test.YtnkkpjgclekobaaDoorIncl
import Derived.Test.YtnkkpjgclekobaaDoorEnds7
import Derived.Deep.RegionHeldLaw
import Derived.Test.YtnkkpjgclekobaaDoorRSet4
namespace Go.Proofs.YtnkkpjgclekobaaDoor
open Go.RowKit
attribute [local go_sem ↓] Go.wp_at_zero Go.wp_at_succ

/-- Whether all pairs of a role are pairs of another one. -/
def inclR (i : IN) (m r s : Nat) : Bool := (List.range m).all fun x => subB (endsF i r x) (endsF i s x)
theorem inclR_no {i : IN} {m r s x : Nat} (hx : x < m) (h : subB (endsF i r x) (endsF i s x) = false) : inclR i m r s = false := by
  rw [inclR, List.all_eq_false]; exact ⟨x, List.mem_range.2 hx, by simp [h]⟩
theorem inclR_yes {i : IN} {m r s : Nat} (h : ∀ x, x < m → subB (endsF i r x) (endsF i s x) = true) : inclR i m r s = true := by
  rw [inclR, List.all_eq_true]; exact fun x hx => h x (List.mem_range.1 hx)

set_option maxRecDepth 100000 in
set_option maxHeartbeats 8000000 in
theorem includesRole_any (i : IN) (m b r s : Nat) (h256 : m ≤ 256) (w : World) (hw : WL w b i m) (hr : r < 2 * i.R.length) (hs : s < 2 * i.R.length) :
    Calls Tryd.prog 102 #[.pointer (some ⟨b, 0, none⟩), .int .i64 (r : Nat), .int .i64 (s : Nat)] w fun e w' => e = .returned (.bool (inclR i m r s)) ∧ Below w.heap.size w w' := by
  obtain ⟨g, cap, er, n5, ng, hmr, hbl, hgl⟩ := hw.role hr
  obtain ⟨g', cap', es, n5', ngs, hms, -, -⟩ := hw.role hs
  rw [n5] at n5'
  have hgg : g' = g ∧ cap' = cap := by
    have h := Option.some.inj n5'
    injection h with h1 h2 h3
    injection h1 with h1
    injection h1 with h1
    exact ⟨h1.symm, h3.symm⟩
  obtain ⟨rfl, rfl⟩ := hgg
  have h0R : (0 : Int) ≤ r := by omega
  have hlR : (r : Int) < 2 * i.R.length := by omega
  have h0S : (0 : Int) ≤ s := by omega
  have hlS : (s : Int) < 2 * i.R.length := by omega
  have HMR := Lib.hid hmr
  have HMS := Lib.hid hms
  have hc := fun w' (h : Below w.heap.size w w') => And.intro ((h.cell (p := ⟨b, 5, none⟩) hbl).trans n5) ((h.cell (p := ⟨g', s, none⟩) hgl).trans ngs)
  have HC := Lib.hid hc
  clear hmr hms hc hw n5'
  go_enter Tryd.func102, Tryd.ntmps102
  go_wp2_with fail
  clear n5 ng ngs
  go_loopw [17] (fun i' wr => ∃ k : Nat, k ≤ m ∧ i' = .int .i64 (k : Nat) ∧ (∀ x, x < k → subB (endsF i r x) (endsF i s x) = true) ∧ Below w.heap.size w wr) (fun i' _ => m - (intOf i').toNat)
  case atStart => exact ⟨0, Nat.zero_le _, rfl, fun x h => absurd h (by omega), Below.refl _ _⟩
  case round =>
    rename World => wr
    obtain ⟨k, hk, rfl, hall, hbw⟩ := hrel
    have HA := Lib.hid hall
    clear hall
    by_cases hlt : k < m
    · obtain ⟨a1, b1, c1, d1, hsw1⟩ := sw_of (endsF i r k)
      obtain ⟨a2, b2, c2, d2, hsw2⟩ := sw_of (endsF i s k)
      obtain ⟨x0, x1, x2, x3⟩ := MRow.cell (HMR.out.later hbw) hlt hsw1
      obtain ⟨Wa, hWa, hBa, hsa, hka⟩ := newBlk wr _ rfl #[.int .u64 (a1 : Nat), .int .u64 (b1 : Nat), .int .u64 (c1 : Nat), .int .u64 (d1 : Nat)] 111
      have hba : Below w.heap.size w Wa := hbw.trans (hBa.mono hbw.size)
      have hS : ∀ w', Below Wa.heap.size Wa w' → (w'.cell? ⟨wr.heap.size, 0, none⟩ = some (.int .u64 (a1 : Nat)) ∧ w'.cell? ⟨wr.heap.size, 1, none⟩ = some (.int .u64 (b1 : Nat)) ∧ w'.cell? ⟨wr.heap.size, 2, none⟩ = some (.int .u64 (c1 : Nat)) ∧ w'.cell? ⟨wr.heap.size, 3, none⟩ = some (.int .u64 (d1 : Nat))) ∧ (w'.cell? ⟨b, 5, none⟩ = some (.slice (some ⟨g', 0, none⟩) (2 * i.R.length) cap') ∧ w'.cell? ⟨g', s, none⟩ = some (.slice (some ⟨es, 0, none⟩) m m)) ∧ (w'.cell? ⟨es, k * 4, none⟩ = some (.int .u64 (a2 : Nat)) ∧ w'.cell? ⟨es, k * 4 + 1, none⟩ = some (.int .u64 (b2 : Nat)) ∧ w'.cell? ⟨es, k * 4 + 2, none⟩ = some (.int .u64 (c2 : Nat)) ∧ w'.cell? ⟨es, k * 4 + 3, none⟩ = some (.int .u64 (d2 : Nat))) := fun w' hb => by
        have hb' := hba.trans (hb.mono hba.size)
        exact ⟨⟨cell_of_blk (blk_lat hka hb) 0, cell_of_blk (blk_lat hka hb) 1, cell_of_blk (blk_lat hka hb) 2, cell_of_blk (blk_lat hka hb) 3⟩, HC.out w' hb', MRow.cell (HMS.out.later hb') hlt hsw2⟩
      have hwi := fun w' => bWithin_sw hsw1 hsw2 w'
      obtain ⟨t, ht⟩ : ∃ t, subB (endsF i r k) (endsF i s k) = t := ⟨_, rfl⟩
      rw [ht] at hwi
      have HT := Lib.hid ht
      have HWI := Lib.hid hwi
      have HS := Lib.hid hS
      have HBA := Lib.hid hba
      have HSA := Lib.hid hsa
      have hd : Below Wa.heap.size Wa Wa.drew := (Below.refl _ Wa).drew
      have h0K : (0 : Int) ≤ k := by omega
      have hlK : (k : Int) < m := by omega
      clear ht hwi hS hba hka hBa hbw hsw1 hsw2 hsa
      go_wp2_with fail
      go_region_held3 (fun w' => (w'.cell? ⟨wr.heap.size, 0, none⟩ = some (.int .u64 (a1 : Nat)) ∧ w'.cell? ⟨wr.heap.size, 1, none⟩ = some (.int .u64 (b1 : Nat)) ∧ w'.cell? ⟨wr.heap.size, 2, none⟩ = some (.int .u64 (c1 : Nat)) ∧ w'.cell? ⟨wr.heap.size, 3, none⟩ = some (.int .u64 (d1 : Nat))) ∧ (w'.cell? ⟨b, 5, none⟩ = some (.slice (some ⟨g', 0, none⟩) (2 * i.R.length) cap') ∧ w'.cell? ⟨g', s, none⟩ = some (.slice (some ⟨es, 0, none⟩) m m)) ∧ (w'.cell? ⟨es, k * 4, none⟩ = some (.int .u64 (a2 : Nat)) ∧ w'.cell? ⟨es, k * 4 + 1, none⟩ = some (.int .u64 (b2 : Nat)) ∧ w'.cell? ⟨es, k * 4 + 2, none⟩ = some (.int .u64 (c2 : Nat)) ∧ w'.cell? ⟨es, k * 4 + 3, none⟩ = some (.int .u64 (d2 : Nat))))
        (first | exact HS.out _ hd | exact HS.out _ hb5)
        (first | (go_at_call 104; refine (HWI.out Wa.drew).mono ?_; rintro e w5 ⟨rfl, hb5'⟩; have hb5 : Below Wa.heap.size Wa w5 := hd.trans hb5'))
      cases t
      · go_wp2_with fail
        go_ret
        exact ⟨by rw [inclR_no hlt HT.out]; rfl, HBA.out.trans (hb5.mono HBA.out.size)⟩
      · go_wp2_with fail
        go_roundw
        case rel => exact ⟨k + 1, by omega, by go_num, fun x hx => by
          by_cases e : x = k
          · subst e; exact HT.out
          · exact HA.out x (by omega), HBA.out.trans (hb5.mono HBA.out.size)⟩
        case measure => simp [intOf]; omega
    · have HBW := Lib.hid hbw
      have HY := Lib.hid (inclR_yes (i := i) (m := m) (r := r) (s := s) fun x hx => HA.out x (by omega))
      clear hbw
      go_wp2_with fail
      go_ret
      exact ⟨by rw [HY.out]; rfl, HBW.out⟩
end Go.Proofs.YtnkkpjgclekobaaDoor

namespace Go.Proofs.YtnkkpjgclekobaaDoor
open Go.RowKit
attribute [local go_sem ↓] Go.wp_at_zero Go.wp_at_succ

theorem wf_of_check0 {n : NM} {T : MT} {C R : Nat} (h : checkF n T = 0) (hC : C = n.C.l.length) (hR : R = n.R.l.length) : T.tr.wfT C R = true := by
  have h1 := (checkF_zero (n := n) (T := T) (by simp [h])).2
  rw [validB_eq, validT_split, Bool.and_eq_true] at h1
  rw [hC, hR]; exact h1.2
/-- The truth of an axiom of each kind. -/
def verI (i : IN) (m : Nat) (p : MT × MT) : Bool := subB (semT i m p.1.tr) (semT i m p.2.tr)
def verR (i : IN) (m : Nat) (z : Int × Int) : Bool := inclR i m z.1.toNat z.2.toNat
def indF (i : IN) (k : Int) : Nat := (i.I.l.getD k.toNat 0).toNat
def verF (i : IN) (m : Nat) (z : Int × MT) : Bool := semT i m z.2.tr (indF i z.1)
def verL (i : IN) (z : Int × Int × Int) : Bool := endsF i (2 * z.1.toNat) (indF i z.2.1) (indF i z.2.2)
def ver1 (b : BN) (i : IN) (m k : Nat) : List Bool := (b.I.take k).map (verI i m)
def ver2 (b : BN) (i : IN) (m k : Nat) : List Bool := ver1 b i m b.I.length ++ (b.R.l.take k).map (verR i m)
def ver3 (b : BN) (i : IN) (m k : Nat) : List Bool := ver2 b i m b.R.l.length ++ (b.F.take k).map (verF i m)
def ver4 (b : BN) (i : IN) (m k : Nat) : List Bool := ver3 b i m b.F.length ++ (b.L.l.take k).map (verL i)
def verd (b : BN) (i : IN) (m : Nat) : List Bool := ver4 b i m b.L.l.length
theorem tm_next {α β : Type} (f : α → β) {l : List α} {k : Nat} (hk : k < l.length) : (l.take (k + 1)).map f = (l.take k).map f ++ [f l[k]] := by
  rw [List.take_succ_eq_append_getElem hk, List.map_append]; rfl
theorem tm_len {α β : Type} (f : α → β) {l : List α} {k : Nat} (hk : k ≤ l.length) : ((l.take k).map f).length = k := by
  rw [List.length_map, List.length_take]; omega
theorem ver1_next {b : BN} {i : IN} {m k : Nat} (hk : k < b.I.length) : ver1 b i m (k + 1) = ver1 b i m k ++ [verI i m b.I[k]] := tm_next _ hk
theorem ver2_next {b : BN} {i : IN} {m k : Nat} (hk : k < b.R.l.length) : ver2 b i m (k + 1) = ver2 b i m k ++ [verR i m b.R.l[k]] := by rw [ver2, tm_next _ hk, ← List.append_assoc]; rfl
theorem ver3_next {b : BN} {i : IN} {m k : Nat} (hk : k < b.F.length) : ver3 b i m (k + 1) = ver3 b i m k ++ [verF i m b.F[k]] := by rw [ver3, tm_next _ hk, ← List.append_assoc]; rfl
theorem ver4_next {b : BN} {i : IN} {m k : Nat} (hk : k < b.L.l.length) : ver4 b i m (k + 1) = ver4 b i m k ++ [verL i b.L.l[k]] := by rw [ver4, tm_next _ hk, ← List.append_assoc]; rfl
theorem ver1_len {b : BN} {i : IN} {m k : Nat} (hk : k ≤ b.I.length) : (ver1 b i m k).length = k := tm_len _ hk
theorem ver2_len {b : BN} {i : IN} {m k : Nat} (hk : k ≤ b.R.l.length) : (ver2 b i m k).length = b.I.length + k := by rw [ver2, List.length_append, ver1_len (Nat.le_refl _), tm_len _ hk]
theorem ver3_len {b : BN} {i : IN} {m k : Nat} (hk : k ≤ b.F.length) : (ver3 b i m k).length = b.I.length + b.R.l.length + k := by rw [ver3, List.length_append, ver2_len (Nat.le_refl _), tm_len _ hk]
theorem ver4_len {b : BN} {i : IN} {m k : Nat} (hk : k ≤ b.L.l.length) : (ver4 b i m k).length = b.I.length + b.R.l.length + b.F.length + k := by rw [ver4, List.length_append, ver3_len (Nat.le_refl _), tm_len _ hk]
theorem ver2_zero (b : BN) (i : IN) (m : Nat) : ver2 b i m 0 = ver1 b i m b.I.length := by simp [ver2]
theorem ver3_zero (b : BN) (i : IN) (m : Nat) : ver3 b i m 0 = ver2 b i m b.R.l.length := by simp [ver3]
theorem ver4_zero (b : BN) (i : IN) (m : Nat) : ver4 b i m 0 = ver3 b i m b.F.length := by simp [ver4]
/-- The elements of the individuals, as the world holds them. -/
theorem WL.ind {w : World} {b n : Nat} {i : IN} (h : WL w b i n) {k : Nat} (hk : k < i.I.l.length) : ∃ (g cap : Nat), w.cell? ⟨b, 6, none⟩ = some (.slice (some ⟨g, 0, none⟩) i.I.l.length cap) ∧ w.cell? ⟨g, k, none⟩ = some (.int .i64 i.I.l[k]) ∧ b < w.heap.size ∧ g < w.heap.size := by
  obtain ⟨s0, s1, s2, s3, v, v2, v3, eg, lo, h1, -, -, -, -, h6⟩ := h
  rcases h6.2 with ⟨-, h0⟩ | ⟨g, cap, cur, rfl, hge, hheap, hrest⟩
  · omega
  · have hc := h6.cells (g := g) rfl k (.int .i64 i.I.l[k]) (by rw [List.getElem?_map, List.getElem?_eq_getElem hk]; rfl)
    refine ⟨g, cap, cell_of_blk h1 6, (by rw [show (⟨g, 0, none⟩ : Addr).add k = ⟨g, k, none⟩ by cases k <;> simp [Addr.add]] at hc; exact hc), (Array.getElem?_eq_some_iff.1 h1).1, (Array.getElem?_eq_some_iff.1 hheap).1⟩
theorem boolR_info : (Tryd.prog.info? 4).map (fun i => (i.zero, i.size, i.bytes)) = some (some (.bool false), 1, 1) := by kernel_rfl
/-- A row of bools that a call hands back, and a code. -/
def RetBs (l : List Bool) (code : Int) (w : World) (e : Ending) (w' : World) : Prop := ∃ v, e = .returned (.tuple #[v, .int .i64 code]) ∧ w'.ownsRow w.heap.size 4 1 v l.length (l.map Value.bool) ∧ Below w.heap.size w w'
theorem kcheck_facts {b : BN} (h : kcheckB b = true) : b.N.ok = true ∧ b.I.length + b.R.l.length + b.F.length + b.L.l.length ≤ 60 ∧ numsB b = true ∧ (∀ T ∈ b.cons, checkF b.N T = 0) := by
  rw [kcheckB, Bool.and_eq_true, Bool.and_eq_true, Bool.and_eq_true, decide_eq_true_eq] at h
  refine ⟨h.1, h.2.1, h.2.2.1, fun T hT => ?_⟩
  have h4 := h.2.2.2
  rw [fitB, Bool.and_eq_true, List.all_eq_true] at h4
  simpa [okC] using h4.1 T hT

set_option maxRecDepth 100000 in
set_option maxHeartbeats 16000000 in
theorem verdicts_ok (b : BN) (i : IN) (m : Nat) (w : World) (hG : GT w) (hb : b.In w.heap.size w) (hi : i.In w.heap.size w) (hm : i.size = m) (hk : kcheckB b = true) (hci : icheckF b.N i = 0) (hsz : ∀ T ∈ b.cons, T.tr.size ≤ 1000000) (hC : i.C.length ≤ 1000) (hR : i.R.length ≤ 1000) (hI : i.I.l.length ≤ 1000) :
    Calls Tryd.prog 61 #[b.val, i.val] w (RetBs (verd b i m) 0 w) := by
  obtain ⟨hok, z1, z256, zc, zr, zi, hls⟩ := icheck_zero hci
  obtain ⟨-, k60, knum, kcon⟩ := kcheck_facts hk
  obtain ⟨W1, hW1, hB1, hs1, hk1⟩ := newBlk w _ rfl #[.slice b.N.C.A b.N.C.l.length b.N.C.c, .slice b.N.R.A b.N.R.l.length b.N.R.c, .slice b.N.I.A b.N.I.l.length b.N.I.c, .slice b.IA b.I.length b.ic, .slice b.R.A b.R.l.length b.R.c, .slice b.FA b.F.length b.fc, .slice b.L.A b.L.l.length b.L.c] 54
  obtain ⟨W2, hW2, hB2, hs2, hk2⟩ := newBlk W1 _ hs1 #[.int .i64 i.size, .slice i.CA i.C.length i.cc, .slice i.RA i.R.length i.rc, .slice i.I.A i.I.l.length i.I.c] 58
  have hB : Below w.heap.size w W2 := hB1.trans (hB2.mono (by omega))
  have hkk1 := (hB2.block w.heap.size (by omega)).trans hk1
  have hS : ∀ w', Below W2.heap.size W2 w' → ((w'.cell? ⟨w.heap.size, 0, none⟩ = some (.slice b.N.C.A b.N.C.l.length b.N.C.c) ∧ w'.cell? ⟨w.heap.size, 1, none⟩ = some (.slice b.N.R.A b.N.R.l.length b.N.R.c) ∧ w'.cell? ⟨w.heap.size, 2, none⟩ = some (.slice b.N.I.A b.N.I.l.length b.N.I.c) ∧ w'.cell? ⟨w.heap.size, 3, none⟩ = some (.slice b.IA b.I.length b.ic) ∧ w'.cell? ⟨w.heap.size, 4, none⟩ = some (.slice b.R.A b.R.l.length b.R.c) ∧ w'.cell? ⟨w.heap.size, 5, none⟩ = some (.slice b.FA b.F.length b.fc) ∧ w'.cell? ⟨w.heap.size, 6, none⟩ = some (.slice b.L.A b.L.l.length b.L.c)) ∧ (w'.cell? ⟨w.heap.size + 1, 0, none⟩ = some (.int .i64 i.size) ∧ w'.cell? ⟨w.heap.size + 1, 1, none⟩ = some (.slice i.CA i.C.length i.cc) ∧ w'.cell? ⟨w.heap.size + 1, 2, none⟩ = some (.slice i.RA i.R.length i.rc) ∧ w'.cell? ⟨w.heap.size + 1, 3, none⟩ = some (.slice i.I.A i.I.l.length i.I.c))) := fun w' h => ⟨bbox_of (b := b) (blk_lat hkk1 h), cell_of_blk (blk_lat hk2 h) 0, cell_of_blk (blk_lat hk2 h) 1, cell_of_blk (blk_lat hk2 h) 2, cell_of_blk (blk_lat hk2 h) 3⟩
  have hkc := fun w' (h : Below W2.heap.size W2 w') => kCheck_any b w' ((hG.later hB).later h).ga ((hb.later hB).later h) (by omega) (by omega) (by omega) (by omega) (by omega) hsz
  have hic := fun w' (h : Below W2.heap.size W2 w') => iCheck_any b.N i w' ((hb.n.later hB).later h) ((hi.later hB).later h)
  rw [hk] at hkc
  rw [hci] at hic
  have hwo := fun w' (h : Below W2.heap.size W2 w') => worldOf_any i m hm (by omega) (by omega) hls hC hR hI w' ((hi.later hB).later h)
  have hwf : ∀ T ∈ b.cons, T.tr.wfT i.C.length i.R.length = true := fun T hT => wf_of_check0 (kcon T hT) zc zr
  have hin := fun g w' (hw : WL w' g i m) T hT (hT' : T.In w'.heap.size w') D hD (hD' : D.In w'.heap.size w') => includes_any i m g (by omega) T D w' hw hT' hD' (hwf T hT) (hwf D hD)
  have hel := fun g w' (hw : WL w' g i m) T hT (hT' : T.In w'.heap.size w') => elements_any i m g (by omega) T w' hw hT' (hwf T hT)
  have hir := fun g w' (hw : WL w' g i m) (r s : Nat) (hr : r < 2 * i.R.length) (hs : s < 2 * i.R.length) => includesRole_any i m g r s (by omega) w' hw hr hs
  have hbi := hb.later hB
  have HB := Lib.hid hB
  have HS := Lib.hid hS
  have HBI := Lib.hid hbi
  have HKC := Lib.hid hkc
  have HIC := Lib.hid hic
  have HWO := Lib.hid hwo
  have HIN := Lib.hid hin
  have HEL := Lib.hid hel
  have HIR := Lib.hid hir
  have HNU := Lib.hid knum
  have HZ := Lib.hid (And.intro zc (And.intro zr zi))
  have HIX := Lib.hid (show ∀ k (hk : k < i.I.l.length), ∃ x : Nat, i.I.l[k] = (x : Int) ∧ x < m from fun k hk => by
    have hl := hls
    rw [listsB, Bool.and_eq_true, Bool.and_eq_true, Bool.not_eq_true', List.any_eq_false] at hl
    have := hl.2.2 _ (List.getElem_mem hk)
    simp only [foreignB, Bool.or_eq_true, decide_eq_true_eq, not_or] at this
    exact ⟨i.I.l[k].toNat, by omega, by omega⟩)
  have hm256 : m ≤ 256 := by omega
  have hd : Below W2.heap.size W2 W2.drew := (Below.refl _ W2).drew
  simp only [codeIf, if_true, NM.val, BN.val, IN.val, MT.val] at HKC HIC HWO HIN HEL ⊢
  obtain ⟨i0, hi0, hz0, hz1, hz2⟩ := info_parts boolR_info
  have hl60 : b.I.length + b.R.l.length + b.F.length + b.L.l.length ≤ 60 := k60
  clear hG hb hi hm hk hci hsz hC hI hok z1 z256 zc zr zi hls k60 knum kcon hB hB1 hB2 hk1 hk2 hkk1 hS hkc hic hwo hwf hin hel hir hbi
  go_enter Tryd.func61, Tryd.ntmps61
  go_wp2_with fail
  go_region_held3 (fun w' => ((w'.cell? ⟨w.heap.size, 0, none⟩ = some (.slice b.N.C.A b.N.C.l.length b.N.C.c) ∧ w'.cell? ⟨w.heap.size, 1, none⟩ = some (.slice b.N.R.A b.N.R.l.length b.N.R.c) ∧ w'.cell? ⟨w.heap.size, 2, none⟩ = some (.slice b.N.I.A b.N.I.l.length b.N.I.c) ∧ w'.cell? ⟨w.heap.size, 3, none⟩ = some (.slice b.IA b.I.length b.ic) ∧ w'.cell? ⟨w.heap.size, 4, none⟩ = some (.slice b.R.A b.R.l.length b.R.c) ∧ w'.cell? ⟨w.heap.size, 5, none⟩ = some (.slice b.FA b.F.length b.fc) ∧ w'.cell? ⟨w.heap.size, 6, none⟩ = some (.slice b.L.A b.L.l.length b.L.c)) ∧ (w'.cell? ⟨w.heap.size + 1, 0, none⟩ = some (.int .i64 i.size) ∧ w'.cell? ⟨w.heap.size + 1, 1, none⟩ = some (.slice i.CA i.C.length i.cc) ∧ w'.cell? ⟨w.heap.size + 1, 2, none⟩ = some (.slice i.RA i.R.length i.rc) ∧ w'.cell? ⟨w.heap.size + 1, 3, none⟩ = some (.slice i.I.A i.I.l.length i.I.c))))
    (first | exact HS.out _ hd | exact HS.out _ hb4 | exact HS.out _ hb5 | exact HS.out _ hb5a)
    (first
      | (go_at_call 56; refine (orErr00 w5.heap.size _ e0 e1).mono ?_; rintro e w6 ⟨rfl, rfl⟩)
      | (go_at_call 57; refine (HIC.out w4 hb4).mono ?_; rintro e w5 ⟨rfl, hb5'⟩; have hb5 : Below W2.heap.size W2 w5 := hb4.trans (hb5'.mono hb4.size); have hb5a : Below W2.heap.size W2 (w5.alloc (.cells #[.int .i64 0, .int .i64 0] 33)) := hb5.alloc hb5.size _; have e0 := cell_of_blk (World.alloc_heap_new' w5 (.cells #[.int .i64 0, .int .i64 0] 33)) 0; have e1 := cell_of_blk (World.alloc_heap_new' w5 (.cells #[.int .i64 0, .int .i64 0] 33)) 1)
      | (go_at_call 101; refine (HKC.out W2.drew hd).mono ?_; rintro e w4 ⟨rfl, hb4'⟩; have hb4 : Below W2.heap.size W2 w4 := hd.trans hb4'))
  obtain ⟨W6, hW6⟩ : ∃ W6, w5.alloc (.cells #[.int .i64 0, .int .i64 0] 33) = W6 := ⟨_, rfl⟩
  rw [hW6] at hb5a ⊢
  clear e0 e1 hW6 hb4 hb4' hb5 hb5'
  obtain ⟨⟨c0, c1, c2, c3, c4, c5, c6⟩, c7, c8, c9, ca⟩ := HS.out W6 hb5a
  go_wp2_with (go_at_call 58; refine (HWO.out W6 hb5a).mono ?_; rintro e w7 ⟨gw, rfl, hwl, hb7'⟩; have hb7 : Below W2.heap.size W2 w7 := hb5a.trans (hb7'.mono hb5a.size); obtain ⟨⟨d0, d1, d2, d3, d4, d5, d6⟩, d7, d8, d9, da⟩ := HS.out w7 hb7)
  clear c0 c1 c2 c3 c4 c5 c6 d0 d1 d2 d3 d4 d5 d6 c7 c8 c9 ca d7 d8 d9 da
  have HWL := Lib.hid hwl
  have HB7 := Lib.hid hb7
  have HS7 := Lib.hid (show ∀ w', Below w7.heap.size w7 w' → ((w'.cell? ⟨w.heap.size, 0, none⟩ = some (.slice b.N.C.A b.N.C.l.length b.N.C.c) ∧ w'.cell? ⟨w.heap.size, 1, none⟩ = some (.slice b.N.R.A b.N.R.l.length b.N.R.c) ∧ w'.cell? ⟨w.heap.size, 2, none⟩ = some (.slice b.N.I.A b.N.I.l.length b.N.I.c) ∧ w'.cell? ⟨w.heap.size, 3, none⟩ = some (.slice b.IA b.I.length b.ic) ∧ w'.cell? ⟨w.heap.size, 4, none⟩ = some (.slice b.R.A b.R.l.length b.R.c) ∧ w'.cell? ⟨w.heap.size, 5, none⟩ = some (.slice b.FA b.F.length b.fc) ∧ w'.cell? ⟨w.heap.size, 6, none⟩ = some (.slice b.L.A b.L.l.length b.L.c)) ∧ (w'.cell? ⟨w.heap.size + 1, 0, none⟩ = some (.int .i64 i.size) ∧ w'.cell? ⟨w.heap.size + 1, 1, none⟩ = some (.slice i.CA i.C.length i.cc) ∧ w'.cell? ⟨w.heap.size + 1, 2, none⟩ = some (.slice i.RA i.R.length i.rc) ∧ w'.cell? ⟨w.heap.size + 1, 3, none⟩ = some (.slice i.I.A i.I.l.length i.I.c))) from fun w' h => HS.out w' (hb7.trans (h.mono hb7.size)))
  have HBI7 := Lib.hid (show ∀ w', Below w7.heap.size w7 w' → b.In w'.heap.size w' from fun w' h => HBI.out.later (hb7.trans (h.mono hb7.size)))
  have hs7 := hb7.size
  clear hwl hb7 hb7' hb5a
  go_loopw [8, 33] (fun v i' wr => ∃ k : Nat, k ≤ b.I.length ∧ i' = .int .i64 (k : Nat) ∧ wr.ownsRow w7.heap.size 4 1 v (ver1 b i m k).length ((ver1 b i m k).map Value.bool) ∧ Below w7.heap.size w7 wr) (fun _ i' _ => b.I.length - (intOf i').toNat)
  case atStart => exact ⟨0, Nat.zero_le _, rfl, ⟨rfl, .inl ⟨rfl, rfl⟩⟩, Below.refl _ _⟩
  case round =>
    rename World => wr
    obtain ⟨k, hk, rfl, hrow, hbw⟩ := hrel
    by_cases hlt : k < b.I.length
    · have hbi := HBI7.out wr hbw
      obtain ⟨g, off, hA, hg, e0, e1, e2, e3, e4, e5⟩ := hbi.incl hlt
      have h0K : (0 : Int) ≤ k := by omega
      have hlK : (k : Int) < b.I.length := by omega
      have hlen := ver1_len (b := b) (i := i) (m := m) hk
      have HQ := Lib.hid (ver1_next (b := b) (i := i) (m := m) hlt)
      obtain ⟨Q, hQ⟩ : ∃ Q, ver1 b i m k = Q := ⟨_, rfl⟩
      rw [hQ] at hrow hlen HQ
      obtain ⟨Wa, hWa, hBa, hsa, hka⟩ := newBlk wr _ rfl #[.int .i64 b.I[k].1.op, .int .i64 b.I[k].1.n, .slice b.I[k].1.A b.I[k].1.args.length b.I[k].1.c, .int .i64 b.I[k].2.op, .int .i64 b.I[k].2.n, .slice b.I[k].2.A b.I[k].2.args.length b.I[k].2.c] 102
      have d0 := cell_of_blk hka 0
      have d1 := cell_of_blk hka 1
      have d2 := cell_of_blk hka 2
      have d3 := cell_of_blk hka 3
      have d4 := cell_of_blk hka 4
      have d5 := cell_of_blk hka 5
      simp only [List.getElem?_toArray, List.getElem?_cons_zero, List.getElem?_cons_succ] at d0 d1 d2 d3 d4 d5
      have hwa : Below w7.heap.size w7 Wa := hbw.trans (hBa.mono hbw.size)
      have hm1 : b.I[k].1 ∈ b.cons := by rw [BN.cons]; exact List.mem_append_left _ (List.mem_flatMap.2 ⟨_, List.getElem_mem hlt, by simp⟩)
      have hm2 : b.I[k].2 ∈ b.cons := by rw [BN.cons]; exact List.mem_append_left _ (List.mem_flatMap.2 ⟨_, List.getElem_mem hlt, by simp⟩)
      have hca := HIN.out gw Wa (HWL.out.later hwa) _ hm1 ((HBI7.out Wa hwa).i4 _ (List.getElem_mem hlt)).1 _ hm2 ((HBI7.out Wa hwa).i4 _ (List.getElem_mem hlt)).2
      obtain ⟨t, ht⟩ : ∃ t, verI i m b.I[k] = t := ⟨_, rfl⟩
      rw [show subB (semT i m b.I[k].1.tr) (semT i m b.I[k].2.tr) = t from ht] at hca
      rw [ht] at HQ
      have HCA := Lib.hid hca
      have HRW := Lib.hid (owns_below hrow hBa)
      have HWA := Lib.hid hwa
      have HLN := Lib.hid hlen
      have hwas := hwa.size
      have HSA := Lib.hid hsa
      rw [hA]
      clear hQ hrow hbw hBa hka hlen hsa hA hca ht hbi hwa hm1 hm2
      generalize b.I[k] = p at e0 e1 e2 e3 e4 e5 d0 d1 d2 d3 d4 d5 hWa HCA
      go_wp2_with (first
        | (at_builtin; refine wpList_append_lies _ rfl _ _ 122 rfl w7.heap.size 4 i0 _ 1 1 Tryd.underlying122 hi0 hz0 hz1 hz2 rfl (by omega) _ Q.length (Q.map Value.bool) rfl HRWb.out ⟨w8.heap.size, 0, none⟩ 1 1 [.bool t] rfl rfl (World.news_of_block (fr := (0, 0)) HKB.out) (by simp [Value.oneCell']) (by omega) (by have := HLN.out; unfold maxLen; omega) (by have := HLN.out; omega) (by have := HS8.out; omega) Wb.heap.size rfl ?_; intro g6 cap w9 hown9 hg9 hat9 hlt9)
        | (go_at_call 62; refine HCA.out.mono ?_; rintro e w8 ⟨rfl, hb8⟩; obtain ⟨Wb, hWb, hBb, hsb, hkb⟩ := newBlk w8 _ rfl #[.bool t] 4; have HRWb := Lib.hid (owns_below (owns_below HRW.out hb8) hBb); have HWB := Lib.hid (HWA.out.trans ((hb8.trans (hBb.mono hb8.size)).mono HWA.out.size)); have HKB := Lib.hid hkb; have HS8 := Lib.hid (show w7.heap.size ≤ w8.heap.size ∧ Wb.heap.size = w8.heap.size + 1 from ⟨Nat.le_trans HWA.out.size hb8.size, hsb⟩); clear hb8 hBb hsb hkb))
      refine ⟨⟨k + 1, by omega, by go_num, ?_, HWB.out.grown hg9 (by have := HWB.out.size; omega) (fun j e => (own_lt HRWb.out e).1)⟩, by simp [intOf]; omega⟩
      rw [HQ.out, List.length_append, List.map_append]
      exact hown9
    · have hke : k = b.I.length := by omega
      subst hke
      have hrow2 := hrow
      rw [← ver2_zero] at hrow2
      have HRW0 := Lib.hid hrow2
      have HBW0 := Lib.hid hbw
      obtain ⟨⟨c0, c1, c2, c3, c4, c5, c6⟩, c7, c8, c9, ca⟩ := HS7.out wr hbw
      clear hrow hrow2 hbw
      go_wp2_with fail
      clear c0 c1 c2 c3 c4 c5 c6 c7 c8 c9 ca
      go_loopw [8, 50] (fun v i' wr => ∃ k : Nat, k ≤ b.R.l.length ∧ i' = .int .i64 (k : Nat) ∧ wr.ownsRow w7.heap.size 4 1 v (ver2 b i m k).length ((ver2 b i m k).map Value.bool) ∧ Below w7.heap.size w7 wr) (fun _ i' _ => b.R.l.length - (intOf i').toNat)
      case atStart => exact ⟨0, Nat.zero_le _, rfl, HRW0.out, HBW0.out⟩
      case round =>
        rename World => wr
        obtain ⟨k, hk, rfl, hrow, hbw⟩ := hrel
        by_cases hlt : k < b.R.l.length
        · have hbi := HBI7.out wr hbw
          obtain ⟨g, off, hA, hg, e0, e1⟩ := hbi.role hlt
          have h0K : (0 : Int) ≤ k := by omega
          have hlK : (k : Int) < b.R.l.length := by omega
          have hlen := ver2_len (b := b) (i := i) (m := m) hk
          have HQ := Lib.hid (ver2_next (b := b) (i := i) (m := m) hlt)
          obtain ⟨Q, hQ⟩ : ∃ Q, ver2 b i m k = Q := ⟨_, rfl⟩
          rw [hQ] at hrow hlen HQ
          obtain ⟨Wa, hWa, hBa, hsa, hka⟩ := newBlk wr _ rfl #[.int .i64 b.R.l[k].1, .int .i64 b.R.l[k].2] 126
          have d0 := cell_of_blk hka 0
          have d1 := cell_of_blk hka 1
          simp only [List.getElem?_toArray, List.getElem?_cons_zero, List.getElem?_cons_succ] at d0 d1
          have hwa : Below w7.heap.size w7 Wa := hbw.trans (hBa.mono hbw.size)
          have hnu := HNU.out
          rw [numsB, Bool.and_eq_true, List.all_eq_true] at hnu
          have hrk := hnu.1 _ (List.getElem_mem hlt)
          simp only [roleOk, foreignB, Bool.not_eq_true', Bool.or_eq_false_iff, decide_eq_false_iff_not] at hrk
          have hzr := HZ.out.2.1
          obtain ⟨r1, hr1⟩ : ∃ r1 : Nat, b.R.l[k].1 = r1 := ⟨b.R.l[k].1.toNat, by omega⟩
          obtain ⟨r2, hr2⟩ : ∃ r2 : Nat, b.R.l[k].2 = r2 := ⟨b.R.l[k].2.toNat, by omega⟩
          have hca := HIR.out gw Wa (HWL.out.later hwa) r1 r2 (by omega) (by omega)
          obtain ⟨t, ht⟩ : ∃ t, verR i m b.R.l[k] = t := ⟨_, rfl⟩
          rw [show inclR i m r1 r2 = t by rw [← ht, verR, hr1, hr2]; rfl] at hca
          rw [ht] at HQ
          have HCA := Lib.hid hca
          have HRW := Lib.hid (owns_below hrow hBa)
          have HWA := Lib.hid hwa
          have HLN := Lib.hid hlen
          have hwas := hwa.size
          have HSA := Lib.hid hsa
          rw [hA]
          clear hQ hrow hbw hBa hka hlen hsa hA hca ht hbi hwa hnu hrk hzr
          rw [hr1] at e0 d0 hWa
          rw [hr2] at e1 d1 hWa
          clear hr1 hr2
          go_wp2_with (first
            | (at_builtin; refine wpList_append_lies _ rfl _ _ 122 rfl w7.heap.size 4 i0 _ 1 1 Tryd.underlying122 hi0 hz0 hz1 hz2 rfl (by omega) _ Q.length (Q.map Value.bool) rfl HRWb.out ⟨w8.heap.size, 0, none⟩ 1 1 [.bool t] rfl rfl (World.news_of_block (fr := (0, 0)) HKB.out) (by simp [Value.oneCell']) (by omega) (by have := HLN.out; unfold maxLen; omega) (by have := HLN.out; omega) (by have := HS8.out; omega) Wb.heap.size rfl ?_; intro g6 cap w9 hown9 hg9 hat9 hlt9)
            | (go_at_call 102; refine HCA.out.mono ?_; rintro e w8 ⟨rfl, hb8⟩; obtain ⟨Wb, hWb, hBb, hsb, hkb⟩ := newBlk w8 _ rfl #[.bool t] 4; have HRWb := Lib.hid (owns_below (owns_below HRW.out hb8) hBb); have HWB := Lib.hid (HWA.out.trans ((hb8.trans (hBb.mono hb8.size)).mono HWA.out.size)); have HKB := Lib.hid hkb; have HS8 := Lib.hid (show w7.heap.size ≤ w8.heap.size ∧ Wb.heap.size = w8.heap.size + 1 from ⟨Nat.le_trans HWA.out.size hb8.size, hsb⟩); clear hb8 hBb hsb hkb))
          refine ⟨⟨k + 1, by omega, by go_num, ?_, HWB.out.grown hg9 (by have := HWB.out.size; omega) (fun j e => (own_lt HRWb.out e).1)⟩, by simp [intOf]; omega⟩
          rw [HQ.out, List.length_append, List.map_append]
          exact hown9
        · have hke : k = b.R.l.length := by omega
          subst hke
          have hrow2 := hrow
          rw [← ver3_zero] at hrow2
          have HRW0 := Lib.hid hrow2
          have HBW0 := Lib.hid hbw
          obtain ⟨⟨c0, c1, c2, c3, c4, c5, c6⟩, c7, c8, c9, ca⟩ := HS7.out wr hbw
          clear hrow hrow2 hbw
          go_wp2_with fail
          clear c0 c1 c2 c3 c4 c5 c6 c7 c8 c9 ca
          go_loopw [8, 67] (fun v i' wr => ∃ k : Nat, k ≤ b.F.length ∧ i' = .int .i64 (k : Nat) ∧ wr.ownsRow w7.heap.size 4 1 v (ver3 b i m k).length ((ver3 b i m k).map Value.bool) ∧ Below w7.heap.size w7 wr) (fun _ i' _ => b.F.length - (intOf i').toNat)
          case atStart => exact ⟨0, Nat.zero_le _, rfl, HRW0.out, HBW0.out⟩
          case round =>
            rename World => wr
            obtain ⟨k, hk, rfl, hrow, hbw⟩ := hrel
            by_cases hlt : k < b.F.length
            · have hbi := HBI7.out wr hbw
              obtain ⟨g, off, hA, hg, e0, e1, e2, e3⟩ := hbi.fact hlt
              have h0K : (0 : Int) ≤ k := by omega
              have hlK : (k : Int) < b.F.length := by omega
              have hlen := ver3_len (b := b) (i := i) (m := m) hk
              have HQ := Lib.hid (ver3_next (b := b) (i := i) (m := m) hlt)
              obtain ⟨Q, hQ⟩ : ∃ Q, ver3 b i m k = Q := ⟨_, rfl⟩
              rw [hQ] at hrow hlen HQ
              have hnu := HNU.out
              rw [numsB, Bool.and_eq_true, Bool.and_eq_true, List.all_eq_true, List.all_eq_true, List.all_eq_true] at hnu
              have hfk := hnu.2.1 _ (List.getElem_mem hlt)
              simp only [factOk, foreignB, Bool.not_eq_true', Bool.or_eq_false_iff, decide_eq_false_iff_not] at hfk
              have hzi := HZ.out.2.2
              obtain ⟨kd, hkd⟩ : ∃ kd : Nat, b.F[k].1 = kd := ⟨b.F[k].1.toNat, by omega⟩
              have hkdl : kd < i.I.l.length := by omega
              obtain ⟨x, hx, hxm⟩ := HIX.out kd hkdl
              obtain ⟨Wa, hWa, hBa, hsa, hka⟩ := newBlk wr _ rfl #[.int .i64 b.F[k].1, .int .i64 b.F[k].2.op, .int .i64 b.F[k].2.n, .slice b.F[k].2.A b.F[k].2.args.length b.F[k].2.c] 104
              have hwa : Below w7.heap.size w7 Wa := hbw.trans (hBa.mono hbw.size)
              have hmc : b.F[k].2 ∈ b.cons := by rw [BN.cons]; exact List.mem_append_right _ (List.mem_map.2 ⟨_, List.getElem_mem hlt, rfl⟩)
              have hca := fun w' (h : Below Wa.heap.size Wa w') => HEL.out gw w' (HWL.out.later (hwa.trans (h.mono hwa.size))) _ hmc ((HBI7.out w' (hwa.trans (h.mono hwa.size))).f4 _ (List.getElem_mem hlt))
              obtain ⟨gi, capi, n6', nx', hbl', hgl'⟩ := HWL.out.ind hkdl
              rw [hx] at nx'
              obtain ⟨t, ht⟩ : ∃ t, verF i m b.F[k] = t := ⟨_, rfl⟩
              rw [ht] at HQ
              have ht2 : semT i m b.F[k].2.tr x = t := by rw [← ht, verF, hkd, indF, Int.toNat_natCast, List.getD_eq_getElem?_getD, List.getElem?_eq_getElem hkdl, Option.getD_some, hx]; rfl
              have HT2 := Lib.hid ht2
              have HRW := Lib.hid (owns_below hrow hBa)
              have HOL := Lib.hid (fun j (e : _ = some j) => (own_lt hrow e))
              have HWA := Lib.hid hwa
              have HLN := Lib.hid hlen
              have HSA := Lib.hid hsa
              have hd : Below Wa.heap.size Wa Wa.drew := (Below.refl _ Wa).drew
              have hws := hbw.size
              have h0X : (0 : Int) ≤ kd := by omega
              have hlX : (kd : Int) < i.I.l.length := by omega
              rw [hkd] at e0 hWa hka
              generalize hT : b.F[k].2 = T at e1 e2 e3 hWa hka hca HT2
              have HCA := Lib.hid hca
              have hX : ∀ w', Below w7.heap.size w7 w' → w'.heap[wr.heap.size]? = Wa.heap[wr.heap.size]? → (w'.cell? ⟨wr.heap.size, 0, none⟩ = some (.int .i64 (kd : Nat)) ∧ w'.cell? ⟨wr.heap.size, 1, none⟩ = some (.int .i64 T.op) ∧ w'.cell? ⟨wr.heap.size, 2, none⟩ = some (.int .i64 T.n) ∧ w'.cell? ⟨wr.heap.size, 3, none⟩ = some (.slice T.A T.args.length T.c)) ∧ w'.cell? ⟨gw, 6, none⟩ = some (.slice (some ⟨gi, 0, none⟩) i.I.l.length capi) ∧ w'.cell? ⟨gi, kd, none⟩ = some (.int .i64 (x : Nat)) := fun w' h1 h2 => ⟨⟨cell_of_blk (h2.trans hka) 0, cell_of_blk (h2.trans hka) 1, cell_of_blk (h2.trans hka) 2, cell_of_blk (h2.trans hka) 3⟩, (h1.cell (p := ⟨gw, 6, none⟩) hbl').trans n6', (h1.cell (p := ⟨gi, kd, none⟩) hgl').trans nx'⟩
              have HX := Lib.hid hX
              have HXA := Lib.hid (show ∀ w', Below Wa.heap.size Wa w' → (w'.cell? ⟨wr.heap.size, 0, none⟩ = some (.int .i64 (kd : Nat)) ∧ w'.cell? ⟨wr.heap.size, 1, none⟩ = some (.int .i64 T.op) ∧ w'.cell? ⟨wr.heap.size, 2, none⟩ = some (.int .i64 T.n) ∧ w'.cell? ⟨wr.heap.size, 3, none⟩ = some (.slice T.A T.args.length T.c)) ∧ w'.cell? ⟨gw, 6, none⟩ = some (.slice (some ⟨gi, 0, none⟩) i.I.l.length capi) ∧ w'.cell? ⟨gi, kd, none⟩ = some (.int .i64 (x : Nat)) from fun w' h => hX w' (hwa.trans (h.mono hwa.size)) (h.block _ (by omega)))
              obtain ⟨⟨d0, d1, d2, d3⟩, d4, d5⟩ := HXA.out Wa (Below.refl _ _)
              rw [hA]
              have hx256 : x < 256 := by omega
              clear hQ hrow hbw hBa hka hlen hsa hA hca ht ht2 hbi hwa hnu hfk hzi hmc n6' nx' hX hT hx hkd
              go_wp2_with fail
              go_region_held_law (fun w' => (w'.cell? ⟨wr.heap.size, 0, none⟩ = some (.int .i64 (kd : Nat)) ∧ w'.cell? ⟨wr.heap.size, 1, none⟩ = some (.int .i64 T.op) ∧ w'.cell? ⟨wr.heap.size, 2, none⟩ = some (.int .i64 T.n) ∧ w'.cell? ⟨wr.heap.size, 3, none⟩ = some (.slice T.A T.args.length T.c)) ∧ w'.cell? ⟨gw, 6, none⟩ = some (.slice (some ⟨gi, 0, none⟩) i.I.l.length capi) ∧ w'.cell? ⟨gi, kd, none⟩ = some (.int .i64 (x : Nat)))
                (first | exact HXA.out _ hd | exact HXA.out _ hb8 | exact HXA.out _ hb9 | exact HXA.out _ hb9a | exact HX.out _ hb10 hk10)
                (first
                  | (refine step_append_lies _ (by rfl) _ _ _ (by rfl) w7.heap.size 4 i0 _ 1 1 Tryd.underlying122 hi0 hz0 hz1 hz2 rfl (by omega) _ Q.length (Q.map Value.bool) (by rfl) (owns_below HRW.out hb9a) ⟨w9.heap.size, 0, none⟩ 1 1 [.bool t] (by rfl) (by rfl) (World.news_of_block (cs := #[.bool t]) (t := 4) (fr := (0, 0)) (heap_alloc_new w9 _)) (by simp [Value.oneCell']) (by omega) (by have := HLN.out; unfold maxLen; omega) (by have := HLN.out; omega) (by have := HWA.out.size; have := hb9.size; simp; omega) (w9.heap.size + 1) (by simp) ?_; intro g10 cap w10 hown10 hg10 hat10 hlt10; have hb10 : Below w7.heap.size w7 w10 := (HWA.out.trans (hb9a.mono HWA.out.size)).grown hg10 (by have := HWA.out.size; have := hb9a.size; omega) (fun j e => (HOL.out j e).1); have hk10 : w10.heap[wr.heap.size]? = Wa.heap[wr.heap.size]? := (hg10.block _ (by have := hb9a.size; have := HSA.out; omega) (fun e => by have := (HOL.out _ e.symm).2; omega)).trans (hb9a.block _ (by have := HSA.out; omega)))
                  | (go_at_call 103; refine (bHas_sw hsw8 x hx256 w8).mono ?_; rw [HT2.out]; rintro e w9 ⟨rfl, hb9'⟩; have hb9 : Below Wa.heap.size Wa w9 := hb8.trans (hb9'.mono hb8.size); have hb9a : Below Wa.heap.size Wa (w9.alloc (.cells #[.bool t] 4)) := hb9.alloc hb9.size _)
                  | (go_at_call 59; refine (HCA.out Wa.drew hd).mono ?_; rintro e w8 ⟨a8, b8, c8, d8, rfl, hsw8, hb8'⟩; have hb8 : Below Wa.heap.size Wa w8 := hd.trans hb8'))
              go_wp2_with fail
              go_roundw
              case rel => exact ⟨k + 1, by omega, by go_num, by rw [HQ.out, List.length_append, List.map_append]; exact hown10, hb10⟩
              case measure => simp [intOf]; omega
            · have hke : k = b.F.length := by omega
              subst hke
              have hrow2 := hrow
              rw [← ver4_zero] at hrow2
              have HRW0 := Lib.hid hrow2
              have HBW0 := Lib.hid hbw
              obtain ⟨⟨c0, c1, c2, c3, c4, c5, c6⟩, c7, c8, c9, ca⟩ := HS7.out wr hbw
              clear hrow hrow2 hbw
              go_wp2_with fail
              clear c0 c1 c2 c3 c4 c5 c6 c7 c8 c9 ca
              go_loopw [8, 91] (fun v i' wr => ∃ k : Nat, k ≤ b.L.l.length ∧ i' = .int .i64 (k : Nat) ∧ wr.ownsRow w7.heap.size 4 1 v (ver4 b i m k).length ((ver4 b i m k).map Value.bool) ∧ Below w7.heap.size w7 wr) (fun _ i' _ => b.L.l.length - (intOf i').toNat)
              case atStart => exact ⟨0, Nat.zero_le _, rfl, HRW0.out, HBW0.out⟩
              case round =>
                rename World => wr
                obtain ⟨k, hk, rfl, hrow, hbw⟩ := hrel
                by_cases hlt : k < b.L.l.length
                · have hbi := HBI7.out wr hbw
                  obtain ⟨g, off, hA, hg, e0, e1, e2⟩ := hbi.link hlt
                  have h0K : (0 : Int) ≤ k := by omega
                  have hlK : (k : Int) < b.L.l.length := by omega
                  have hlen := ver4_len (b := b) (i := i) (m := m) hk
                  have HQ := Lib.hid (ver4_next (b := b) (i := i) (m := m) hlt)
                  obtain ⟨Q, hQ⟩ : ∃ Q, ver4 b i m k = Q := ⟨_, rfl⟩
                  rw [hQ] at hrow hlen HQ
                  have hnu := HNU.out
                  rw [numsB, Bool.and_eq_true, Bool.and_eq_true, List.all_eq_true, List.all_eq_true, List.all_eq_true] at hnu
                  have hfk := hnu.2.2 _ (List.getElem_mem hlt)
                  simp only [linkOk, foreignB, Bool.and_eq_true, Bool.not_eq_true', Bool.or_eq_false_iff, decide_eq_false_iff_not] at hfk
                  have hzi := HZ.out.2.2
                  have hzr := HZ.out.2.1
                  obtain ⟨ro, hro⟩ : ∃ kd : Nat, b.L.l[k].1 = kd := ⟨b.L.l[k].1.toNat, by omega⟩
                  obtain ⟨kf, hkf⟩ : ∃ kd : Nat, b.L.l[k].2.1 = kd := ⟨b.L.l[k].2.1.toNat, by omega⟩
                  obtain ⟨kt, hkt⟩ : ∃ kd : Nat, b.L.l[k].2.2 = kd := ⟨b.L.l[k].2.2.toNat, by omega⟩
                  have hkfl : kf < i.I.l.length := by omega
                  have hktl : kt < i.I.l.length := by omega
                  obtain ⟨r2, hr2⟩ : ∃ r2, 2 * ro = r2 := ⟨_, rfl⟩
                  have hrl : r2 < 2 * i.R.length := by omega
                  obtain ⟨xf, hxf, hxfm⟩ := HIX.out kf hkfl
                  obtain ⟨xt, hxt, hxtm⟩ := HIX.out kt hktl
                  obtain ⟨Wa, hWa, hBa, hsa, hka⟩ := newBlk wr _ rfl #[.int .i64 b.L.l[k].1, .int .i64 b.L.l[k].2.1, .int .i64 b.L.l[k].2.2] 128
                  have hwa : Below w7.heap.size w7 Wa := hbw.trans (hBa.mono hbw.size)
                  obtain ⟨gi, capi, n6', nx', hbl', hgl'⟩ := HWL.out.ind hkfl
                  obtain ⟨gi2, capi2, n6'', ny', -, -⟩ := HWL.out.ind hktl
                  rw [n6'] at n6''
                  have hgg : gi2 = gi ∧ capi2 = capi := by
                    have h := Option.some.inj n6''
                    injection h with h1 h2 h3
                    injection h1 with h1
                    injection h1 with h1
                    exact ⟨h1.symm, h3.symm⟩
                  obtain ⟨rfl, rfl⟩ := hgg
                  rw [hxf] at nx'
                  rw [hxt] at ny'
                  obtain ⟨ge, cape, er, n5', ng', hmr, -, hgl2⟩ := HWL.out.role hrl
                  obtain ⟨a8, b8, c8, d8, hsw8⟩ := sw_of (endsF i r2 xf)
                  obtain ⟨t, ht⟩ : ∃ t, verL i b.L.l[k] = t := ⟨_, rfl⟩
                  rw [ht] at HQ
                  have ht2 : endsF i r2 xf xt = t := by
                    rw [← ht, verL, hro, hkf, hkt, indF, indF, Int.toNat_natCast, Int.toNat_natCast, Int.toNat_natCast, List.getD_eq_getElem?_getD, List.getElem?_eq_getElem hkfl, Option.getD_some, hxf, List.getD_eq_getElem?_getD, List.getElem?_eq_getElem hktl, Option.getD_some, hxt, hr2]; rfl
                  have HT2 := Lib.hid ht2
                  have HRW := Lib.hid (owns_below hrow hBa)
                  have HOL := Lib.hid (fun j (e : _ = some j) => (own_lt hrow e))
                  have HWA := Lib.hid hwa
                  have HLN := Lib.hid hlen
                  have HSA := Lib.hid hsa
                  have hd : Below Wa.heap.size Wa Wa.drew := (Below.refl _ Wa).drew
                  have hws := hbw.size
                  have q1 : (0 : Int) ≤ kf := by omega
                  have q2 : (kf : Int) < i.I.l.length := by omega
                  have q3 : (0 : Int) ≤ kt := by omega
                  have q4 : (kt : Int) < i.I.l.length := by omega
                  have q5 : (0 : Int) ≤ r2 := by omega
                  have q6 : (r2 : Int) < 2 * i.R.length := by omega
                  have q7 : (0 : Int) ≤ xf := by omega
                  have q8 : (xf : Int) < m := by omega
                  have q9 : wrap64 (2 * (ro : Int)) = (r2 : Int) := by unfold wrap64; omega
                  have q10 : IntKind.i64.wrap (2 * (ro : Int)) = (r2 : Int) := by rw [IntKind.wrap_i64]; omega
                  have q11 : 2 * (ro : Int) = (r2 : Int) := by omega
                  have q12 : IntKind.i64.wrap (r2 : Int) = (r2 : Int) := by rw [IntKind.wrap_i64]; omega
                  have q13 : (r2 : Int).toNat = r2 := by omega
                  rw [hro] at e0 hWa hka
                  rw [hkf] at e1 hWa hka
                  rw [hkt] at e2 hWa hka
                  have hX : ∀ w', Below w7.heap.size w7 w' → w'.heap[wr.heap.size]? = Wa.heap[wr.heap.size]? → (w'.cell? ⟨wr.heap.size, 0, none⟩ = some (.int .i64 (ro : Nat)) ∧ w'.cell? ⟨wr.heap.size, 1, none⟩ = some (.int .i64 (kf : Nat)) ∧ w'.cell? ⟨wr.heap.size, 2, none⟩ = some (.int .i64 (kt : Nat))) ∧ (w'.cell? ⟨gw, 5, none⟩ = some (.slice (some ⟨ge, 0, none⟩) (2 * i.R.length) cape) ∧ w'.cell? ⟨ge, r2, none⟩ = some (.slice (some ⟨er, 0, none⟩) m m)) ∧ (w'.cell? ⟨gw, 6, none⟩ = some (.slice (some ⟨gi2, 0, none⟩) i.I.l.length capi2) ∧ w'.cell? ⟨gi2, kf, none⟩ = some (.int .i64 (xf : Nat)) ∧ w'.cell? ⟨gi2, kt, none⟩ = some (.int .i64 (xt : Nat))) ∧ (w'.cell? ⟨er, xf * 4, none⟩ = some (.int .u64 (a8 : Nat)) ∧ w'.cell? ⟨er, xf * 4 + 1, none⟩ = some (.int .u64 (b8 : Nat)) ∧ w'.cell? ⟨er, xf * 4 + 2, none⟩ = some (.int .u64 (c8 : Nat)) ∧ w'.cell? ⟨er, xf * 4 + 3, none⟩ = some (.int .u64 (d8 : Nat))) := fun w' h1 h2 => ⟨⟨cell_of_blk (h2.trans hka) 0, cell_of_blk (h2.trans hka) 1, cell_of_blk (h2.trans hka) 2⟩, ⟨(h1.cell (p := ⟨gw, 5, none⟩) hbl').trans n5', (h1.cell (p := ⟨ge, r2, none⟩) hgl2).trans ng'⟩, ⟨(h1.cell (p := ⟨gw, 6, none⟩) hbl').trans n6', (h1.cell (p := ⟨gi2, kf, none⟩) hgl').trans nx', (h1.cell (p := ⟨gi2, kt, none⟩) hgl').trans ny'⟩, MRow.cell (hmr.later h1) hxfm hsw8⟩
                  have HX := Lib.hid hX
                  have HXA := Lib.hid (show ∀ w', Below Wa.heap.size Wa w' → (w'.cell? ⟨wr.heap.size, 0, none⟩ = some (.int .i64 (ro : Nat)) ∧ w'.cell? ⟨wr.heap.size, 1, none⟩ = some (.int .i64 (kf : Nat)) ∧ w'.cell? ⟨wr.heap.size, 2, none⟩ = some (.int .i64 (kt : Nat))) ∧ (w'.cell? ⟨gw, 5, none⟩ = some (.slice (some ⟨ge, 0, none⟩) (2 * i.R.length) cape) ∧ w'.cell? ⟨ge, r2, none⟩ = some (.slice (some ⟨er, 0, none⟩) m m)) ∧ (w'.cell? ⟨gw, 6, none⟩ = some (.slice (some ⟨gi2, 0, none⟩) i.I.l.length capi2) ∧ w'.cell? ⟨gi2, kf, none⟩ = some (.int .i64 (xf : Nat)) ∧ w'.cell? ⟨gi2, kt, none⟩ = some (.int .i64 (xt : Nat))) ∧ (w'.cell? ⟨er, xf * 4, none⟩ = some (.int .u64 (a8 : Nat)) ∧ w'.cell? ⟨er, xf * 4 + 1, none⟩ = some (.int .u64 (b8 : Nat)) ∧ w'.cell? ⟨er, xf * 4 + 2, none⟩ = some (.int .u64 (c8 : Nat)) ∧ w'.cell? ⟨er, xf * 4 + 3, none⟩ = some (.int .u64 (d8 : Nat))) from fun w' h => hX w' (hwa.trans (h.mono hwa.size)) (h.block _ (by omega)))
                  obtain ⟨⟨d0, d1, d2⟩, ⟨d3, d4⟩, ⟨d5, d6, d7⟩, d8', d9, da, db⟩ := HXA.out Wa (Below.refl _ _)
                  rw [hA]
                  have hx256 : xt < 256 := by omega
                  have HSW8 := Lib.hid hsw8
                  clear hQ hrow hbw hBa hka hlen hsa hA ht ht2 hbi hwa hnu hfk hzi hzr n6' nx' ny' n5' ng' hX hxf hxt hro hkf hkt hr2 hmr n6'' hsw8
                  go_wp2_with fail
                  go_region_held_law (fun w' => (w'.cell? ⟨wr.heap.size, 0, none⟩ = some (.int .i64 (ro : Nat)) ∧ w'.cell? ⟨wr.heap.size, 1, none⟩ = some (.int .i64 (kf : Nat)) ∧ w'.cell? ⟨wr.heap.size, 2, none⟩ = some (.int .i64 (kt : Nat))) ∧ (w'.cell? ⟨gw, 5, none⟩ = some (.slice (some ⟨ge, 0, none⟩) (2 * i.R.length) cape) ∧ w'.cell? ⟨ge, r2, none⟩ = some (.slice (some ⟨er, 0, none⟩) m m)) ∧ (w'.cell? ⟨gw, 6, none⟩ = some (.slice (some ⟨gi2, 0, none⟩) i.I.l.length capi2) ∧ w'.cell? ⟨gi2, kf, none⟩ = some (.int .i64 (xf : Nat)) ∧ w'.cell? ⟨gi2, kt, none⟩ = some (.int .i64 (xt : Nat))) ∧ (w'.cell? ⟨er, xf * 4, none⟩ = some (.int .u64 (a8 : Nat)) ∧ w'.cell? ⟨er, xf * 4 + 1, none⟩ = some (.int .u64 (b8 : Nat)) ∧ w'.cell? ⟨er, xf * 4 + 2, none⟩ = some (.int .u64 (c8 : Nat)) ∧ w'.cell? ⟨er, xf * 4 + 3, none⟩ = some (.int .u64 (d8 : Nat))))
                    (first | exact HXA.out _ hd | exact HXA.out _ hb9 | exact HXA.out _ hb9a | exact HX.out _ hb10 hk10)
                    (first
                      | (refine step_append_lies _ (by rfl) _ _ _ (by rfl) w7.heap.size 4 i0 _ 1 1 Tryd.underlying122 hi0 hz0 hz1 hz2 rfl (by omega) _ Q.length (Q.map Value.bool) (by rfl) (owns_below HRW.out hb9a) ⟨w9.heap.size, 0, none⟩ 1 1 [.bool t] (by rfl) (by rfl) (World.news_of_block (cs := #[.bool t]) (t := 4) (fr := (0, 0)) (heap_alloc_new w9 _)) (by simp [Value.oneCell']) (by omega) (by have := HLN.out; unfold maxLen; omega) (by have := HLN.out; omega) (by have := HWA.out.size; have := hb9.size; simp; omega) (w9.heap.size + 1) (by simp) ?_; intro g10 cap w10 hown10 hg10 hat10 hlt10; have hb10 : Below w7.heap.size w7 w10 := (HWA.out.trans (hb9a.mono HWA.out.size)).grown hg10 (by have := HWA.out.size; have := hb9a.size; omega) (fun j e => (HOL.out j e).1); have hk10 : w10.heap[wr.heap.size]? = Wa.heap[wr.heap.size]? := (hg10.block _ (by have := hb9a.size; have := HSA.out; omega) (fun e => by have := (HOL.out _ e.symm).2; omega)).trans (hb9a.block _ (by have := HSA.out; omega)))
                      | (go_at_call 103; refine (bHas_sw HSW8.out xt hx256 Wa.drew).mono ?_; rw [HT2.out]; rintro e w9 ⟨rfl, hb9'⟩; have hb9 : Below Wa.heap.size Wa w9 := hd.trans hb9'; have hb9a : Below Wa.heap.size Wa (w9.alloc (.cells #[.bool t] 4)) := hb9.alloc hb9.size _))
                  go_wp2_with fail
                  go_roundw
                  case rel => exact ⟨k + 1, by omega, by go_num, by rw [HQ.out, List.length_append, List.map_append]; exact hown10, hb10⟩
                  case measure => simp [intOf]; omega
                · have hke : k = b.L.l.length := by omega
                  subst hke
                  have HRW := Lib.hid hrow
                  have HBW := Lib.hid hbw
                  clear hrow hbw
                  go_wp2_with fail
                  go_ret2
                  exact ⟨_, rfl, owns_lower HRW.out (by have := HB.out.size; omega), HB.out.trans ((HB7.out.trans (HBW.out.mono HB7.out.size)).mono HB.out.size)⟩
end Go.Proofs.YtnkkpjgclekobaaDoor

namespace Go.Proofs.YtnkkpjgclekobaaDoor
open Go.RowKit
attribute [local go_sem ↓] Go.wp_at_zero Go.wp_at_succ

theorem orF_zero0 {x y : Int} : orF x y = 0 ↔ x = 0 ∧ y = 0 := by
  unfold orF
  by_cases h : x = 0 <;> simp [h]
/-- The code of a knowledge base and an interpretation. -/
def vcode (b : BN) (i : IN) : Int := orF (codeIf (kcheckB b) 20) (icheckF b.N i)
theorem vcode_zero {b : BN} {i : IN} (h : vcode b i = 0) : kcheckB b = true ∧ icheckF b.N i = 0 := by
  have h' := orF_zero0.1 h
  refine ⟨?_, h'.2⟩
  cases hk : kcheckB b
  · rw [hk] at h'; simp [codeIf] at h'
  · rfl

set_option maxRecDepth 100000 in
set_option maxHeartbeats 4000000 in
/-- verdicts, where a check fails. -/
theorem verdicts_ck (b : BN) (i : IN) (w : World) (hG : GT w) (hb : b.In w.heap.size w) (hi : i.In w.heap.size w) (hI : b.I.length ≤ 1000) (hR : b.R.l.length ≤ 1000) (hF : b.F.length ≤ 1000) (hL : b.L.l.length ≤ 1000) (hN : b.N.R.l.length ≤ 1000) (hsz : ∀ T ∈ b.cons, T.tr.size ≤ 1000000) (hck : vcode b i ≠ 0) :
    Calls Tryd.prog 61 #[b.val, i.val] w (RetBs [] (vcode b i) w) := by
  obtain ⟨W1, hW1, hB1, hs1, hk1⟩ := newBlk w _ rfl #[.slice b.N.C.A b.N.C.l.length b.N.C.c, .slice b.N.R.A b.N.R.l.length b.N.R.c, .slice b.N.I.A b.N.I.l.length b.N.I.c, .slice b.IA b.I.length b.ic, .slice b.R.A b.R.l.length b.R.c, .slice b.FA b.F.length b.fc, .slice b.L.A b.L.l.length b.L.c] 54
  obtain ⟨W2, hW2, hB2, hs2, hk2⟩ := newBlk W1 _ hs1 #[.int .i64 i.size, .slice i.CA i.C.length i.cc, .slice i.RA i.R.length i.rc, .slice i.I.A i.I.l.length i.I.c] 58
  have hB : Below w.heap.size w W2 := hB1.trans (hB2.mono (by omega))
  have hkk1 := (hB2.block w.heap.size (by omega)).trans hk1
  have hS : ∀ w', Below W2.heap.size W2 w' → ((w'.cell? ⟨w.heap.size, 0, none⟩ = some (.slice b.N.C.A b.N.C.l.length b.N.C.c) ∧ w'.cell? ⟨w.heap.size, 1, none⟩ = some (.slice b.N.R.A b.N.R.l.length b.N.R.c) ∧ w'.cell? ⟨w.heap.size, 2, none⟩ = some (.slice b.N.I.A b.N.I.l.length b.N.I.c) ∧ w'.cell? ⟨w.heap.size, 3, none⟩ = some (.slice b.IA b.I.length b.ic) ∧ w'.cell? ⟨w.heap.size, 4, none⟩ = some (.slice b.R.A b.R.l.length b.R.c) ∧ w'.cell? ⟨w.heap.size, 5, none⟩ = some (.slice b.FA b.F.length b.fc) ∧ w'.cell? ⟨w.heap.size, 6, none⟩ = some (.slice b.L.A b.L.l.length b.L.c)) ∧ (w'.cell? ⟨w.heap.size + 1, 0, none⟩ = some (.int .i64 i.size) ∧ w'.cell? ⟨w.heap.size + 1, 1, none⟩ = some (.slice i.CA i.C.length i.cc) ∧ w'.cell? ⟨w.heap.size + 1, 2, none⟩ = some (.slice i.RA i.R.length i.rc) ∧ w'.cell? ⟨w.heap.size + 1, 3, none⟩ = some (.slice i.I.A i.I.l.length i.I.c))) := fun w' h => ⟨bbox_of (b := b) (blk_lat hkk1 h), cell_of_blk (blk_lat hk2 h) 0, cell_of_blk (blk_lat hk2 h) 1, cell_of_blk (blk_lat hk2 h) 2, cell_of_blk (blk_lat hk2 h) 3⟩
  have hkc := fun w' (h : Below W2.heap.size W2 w') => kCheck_any b w' ((hG.later hB).later h).ga ((hb.later hB).later h) hI hR hF hL hN hsz
  have hic := fun w' (h : Below W2.heap.size W2 w') => iCheck_any b.N i w' ((hb.n.later hB).later h) ((hi.later hB).later h)
  obtain ⟨x, hx⟩ : ∃ x, codeIf (kcheckB b) 20 = x := ⟨_, rfl⟩
  obtain ⟨y, hy⟩ : ∃ y, icheckF b.N i = y := ⟨_, rfl⟩
  have horr := orErr_any (x := x) (y := y)
  obtain ⟨z, hz⟩ : ∃ z, vcode b i = z := ⟨_, rfl⟩
  have hz2 : orF x y = z := by rw [← hz, vcode, hx, hy]
  rw [hx] at hkc
  rw [hy] at hic
  rw [hz2] at horr
  rw [hz] at hck ⊢
  have hne : (z != 0) = true := by simpa using hck
  have HB := Lib.hid hB
  have HS := Lib.hid hS
  have HKC := Lib.hid hkc
  have HIC := Lib.hid hic
  have HOR := Lib.hid horr
  have hd : Below W2.heap.size W2 W2.drew := (Below.refl _ W2).drew
  simp only [NM.val, BN.val, IN.val] at HKC HIC ⊢
  clear hG hb hi hck hsz hI hR hF hL hN hB hB1 hB2 hk1 hk2 hkk1 hS hkc hic horr hx hy hz hz2
  go_enter Tryd.func61, Tryd.ntmps61
  go_wp2_with fail
  go_region_held3 (fun w' => ((w'.cell? ⟨w.heap.size, 0, none⟩ = some (.slice b.N.C.A b.N.C.l.length b.N.C.c) ∧ w'.cell? ⟨w.heap.size, 1, none⟩ = some (.slice b.N.R.A b.N.R.l.length b.N.R.c) ∧ w'.cell? ⟨w.heap.size, 2, none⟩ = some (.slice b.N.I.A b.N.I.l.length b.N.I.c) ∧ w'.cell? ⟨w.heap.size, 3, none⟩ = some (.slice b.IA b.I.length b.ic) ∧ w'.cell? ⟨w.heap.size, 4, none⟩ = some (.slice b.R.A b.R.l.length b.R.c) ∧ w'.cell? ⟨w.heap.size, 5, none⟩ = some (.slice b.FA b.F.length b.fc) ∧ w'.cell? ⟨w.heap.size, 6, none⟩ = some (.slice b.L.A b.L.l.length b.L.c)) ∧ (w'.cell? ⟨w.heap.size + 1, 0, none⟩ = some (.int .i64 i.size) ∧ w'.cell? ⟨w.heap.size + 1, 1, none⟩ = some (.slice i.CA i.C.length i.cc) ∧ w'.cell? ⟨w.heap.size + 1, 2, none⟩ = some (.slice i.RA i.R.length i.rc) ∧ w'.cell? ⟨w.heap.size + 1, 3, none⟩ = some (.slice i.I.A i.I.l.length i.I.c))))
    (first | exact HS.out _ hd | exact HS.out _ hb4 | exact HS.out _ hb5 | exact HS.out _ hb5a)
    (first
      | (go_at_call 56; refine (HOR.out w5.heap.size _ e0 e1).mono ?_; rintro e w6 ⟨rfl, rfl⟩)
      | (go_at_call 57; refine (HIC.out w4 hb4).mono ?_; rintro e w5 ⟨rfl, hb5'⟩; have hb5 : Below W2.heap.size W2 w5 := hb4.trans (hb5'.mono hb4.size); have hb5a : Below W2.heap.size W2 (w5.alloc (.cells #[.int .i64 x, .int .i64 y] 33)) := hb5.alloc hb5.size _; have e0 := cell_of_blk (World.alloc_heap_new' w5 (.cells #[.int .i64 x, .int .i64 y] 33)) 0; have e1 := cell_of_blk (World.alloc_heap_new' w5 (.cells #[.int .i64 x, .int .i64 y] 33)) 1)
      | (go_at_call 101; refine (HKC.out W2.drew hd).mono ?_; rintro e w4 ⟨rfl, hb4'⟩; have hb4 : Below W2.heap.size W2 w4 := hd.trans hb4'))
  go_wp2_with fail
  go_ret2
  exact ⟨_, rfl, ⟨rfl, .inl ⟨rfl, rfl⟩⟩, HB.out.trans (hb5a.mono HB.out.size)⟩

/-- What holds of a knowledge base and an interpretation wherever the statements look into them. -/
structure Few3 (b : BN) (i : IN) : Prop where
  I : b.I.length ≤ 1000
  R : b.R.l.length ≤ 1000
  F : b.F.length ≤ 1000
  L : b.L.l.length ≤ 1000
  N : b.N.C.l.length ≤ 1000 ∧ b.N.R.l.length ≤ 1000 ∧ b.N.I.l.length ≤ 1000
  sz : ∀ T ∈ b.cons, T.tr.size ≤ 1000000
/-- The verdicts, as a list: empty where a check fails. -/
def verL0 (b : BN) (i : IN) : List Bool := if vcode b i = 0 then verd b i i.size.toNat else []
theorem verL0_len {b : BN} {i : IN} (f : Few3 b i) : (verL0 b i).length ≤ 4000 := by
  unfold verL0
  split
  · rw [verd, ver4_len (Nat.le_refl _)]; have := f.I; have := f.R; have := f.F; have := f.L; omega
  · simp
theorem verdicts_any (b : BN) (i : IN) (w : World) (f : Few3 b i) (hG : GT w) (hb : b.In w.heap.size w) (hi : i.In w.heap.size w) :
    Calls Tryd.prog 61 #[b.val, i.val] w (RetBs (verL0 b i) (vcode b i) w) := by
  by_cases h : vcode b i = 0
  · obtain ⟨hk, hci⟩ := vcode_zero h
    obtain ⟨-, z1, -, zc, zr, zi, -⟩ := icheck_zero hci
    have hn := f.N
    rw [verL0, if_pos h, h]
    exact verdicts_ok b i i.size.toNat w hG hb hi (by omega) hk hci f.sz (by omega) (by omega) (by omega)
  · rw [verL0, if_neg h]
    exact verdicts_ck b i w hG hb hi f.I f.R f.F f.L f.N.2.1 f.sz h

/-- The numbers of the axioms that are not satisfied. -/
def wrongP (L : List Bool) (j : Nat) : Bool := !(L.getD j true)
theorem bools_cells {w : World} {A : Option Addr} {c : Nat} {L : List Bool} (h : RowAt w w.heap.size 1 A L.length (L.map Value.bool)) {j : Nat} (hj : j < L.length) : ∃ g off, A = some ⟨g, off, none⟩ ∧ g < w.heap.size ∧ w.cell? ⟨g, off + j, none⟩ = some (.bool (!wrongP L j)) := by
  obtain ⟨g, off, hA, hg, hc⟩ := RowAt.vals h (by omega)
  refine ⟨g, off, hA, hg, ?_⟩
  rw [hc j hj, wrongP, List.getD_eq_getElem?_getD, List.getElem?_eq_getElem hj]; simp

set_option maxRecDepth 100000 in
set_option maxHeartbeats 4000000 in
theorem iWrong_any (b : BN) (i : IN) (w : World) (f : Few3 b i) (hG : GT w) (hb : b.In w.heap.size w) (hi : i.In w.heap.size w) :
    Calls Tryd.prog 27 #[b.val, i.val] w (RetInts (selR (wrongP (verL0 b i)) (verL0 b i).length) (vcode b i) w) := by
  obtain ⟨W1, hW1, hB1, hs1, hk1⟩ := newBlk w _ rfl #[.slice b.N.C.A b.N.C.l.length b.N.C.c, .slice b.N.R.A b.N.R.l.length b.N.R.c, .slice b.N.I.A b.N.I.l.length b.N.I.c, .slice b.IA b.I.length b.ic, .slice b.R.A b.R.l.length b.R.c, .slice b.FA b.F.length b.fc, .slice b.L.A b.L.l.length b.L.c] 54
  obtain ⟨W2, hW2, hB2, hs2, hk2⟩ := newBlk W1 _ hs1 #[.int .i64 i.size, .slice i.CA i.C.length i.cc, .slice i.RA i.R.length i.rc, .slice i.I.A i.I.l.length i.I.c] 58
  have hB : Below w.heap.size w W2 := hB1.trans (hB2.mono (by omega))
  have hkk1 := (hB2.block w.heap.size (by omega)).trans hk1
  obtain ⟨c0, c1, c2, c3, c4, c5, c6⟩ := bbox_of (b := b) hkk1
  have d0 := cell_of_blk hk2 0
  have d1 := cell_of_blk hk2 1
  have d2 := cell_of_blk hk2 2
  have d3 := cell_of_blk hk2 3
  simp only [List.getElem?_toArray, List.getElem?_cons_zero, List.getElem?_cons_succ] at d0 d1 d2 d3
  have hve := verdicts_any b i W2 f (hG.later hB) (hb.later hB) (hi.later hB)
  have hLn := verL0_len f
  obtain ⟨L, hL⟩ : ∃ L, verL0 b i = L := ⟨_, rfl⟩
  obtain ⟨z, hz⟩ : ∃ z, vcode b i = z := ⟨_, rfl⟩
  rw [hL, hz] at hve
  rw [hL] at hLn
  rw [hL, hz]
  have HB := Lib.hid hB
  have HVE := Lib.hid hve
  simp only [BN.val, IN.val] at HVE ⊢
  obtain ⟨i0, hi0, hz0, hz1, hz2⟩ := info_parts intR_info
  clear hB hB1 hB2 hk1 hk2 hkk1 hG hb hi hve hL hz f
  go_enter Tryd.func27, Tryd.ntmps27
  go_wp2_with (go_at_call 61; refine HVE.out.mono ?_; rintro e w3 ⟨v, rfl, hop, hb3⟩; obtain ⟨A3, k3, hv3, hn3, hc3, hrow3⟩ := row_of_owns hop; subst hv3; have HRB := Lib.hid hrow3; clear hop hrow3)
  have HB3 := Lib.hid (HB.out.trans (hb3.mono HB.out.size))
  clear c0 c1 c2 c3 c4 c5 c6 d0 d1 d2 d3 hb3
  go_loopw [8, 19] (fun v i' wr => ∃ j : Nat, j ≤ L.length ∧ i' = .int .i64 (j : Nat) ∧ wr.ownsRow w3.heap.size 3 1 v (selR (wrongP L) j).length ((selR (wrongP L) j).map icell) ∧ Below w3.heap.size w3 wr) (fun _ i' _ => L.length - (intOf i').toNat)
  case atStart => exact ⟨0, Nat.zero_le _, rfl, ⟨rfl, .inl ⟨rfl, rfl⟩⟩, Below.refl _ _⟩
  case round =>
    rename World => wr
    obtain ⟨j, hj, rfl, hrow, hbw⟩ := hrel
    by_cases hltj : j < L.length
    · obtain ⟨g, off, hA, hg, hce'⟩ := bools_cells (c := 0) HRB.out hltj
      have hce := (hbw.cell (p := ⟨g, off + j, none⟩) hg).trans hce'
      have h0J : (0 : Int) ≤ j := by omega
      have hlJ : (j : Int) < L.length := by omega
      have hlen := selR_len (wrongP L) j
      obtain ⟨Q, hQ⟩ : ∃ Q, selR (wrongP L) j = Q := ⟨_, rfl⟩
      have HQ := Lib.hid (show selR (wrongP L) (j + 1) = Q ++ (if wrongP L j then [(j : Int)] else []) by rw [← hQ]; exact selR_next _ j)
      rw [hQ] at hrow hlen
      have HRW := Lib.hid hrow
      have hsw := hbw.size
      have HBW := Lib.hid hbw
      rw [hA]
      clear hQ hrow hA hce' hbw
      rcases q : wrongP L j
      · rw [q] at HQ hce
        clear q
        go_wp2_with fail
        go_roundw
        case rel => exact ⟨j + 1, by omega, by go_num, by have h := HQ.out; simp only [Bool.false_eq_true, if_false, List.append_nil] at h; rw [h]; exact HRW.out, HBW.out⟩
        case measure => simp [intOf]; omega
      · rw [q] at HQ hce
        clear q
        go_wp2_with (at_builtin; refine wpList_append_lies _ rfl _ _ 40 rfl w3.heap.size 3 i0 _ 1 8 Tryd.underlying40 hi0 hz0 hz1 hz2 rfl (by omega) _ Q.length (Q.map icell) rfl (owns_below HRW.out ((Below.refl _ wr).alloc (Nat.le_refl _) (.cells #[.int .i64 (j : Nat)] 3))) ⟨wr.heap.size, 0, none⟩ 1 1 [.int .i64 (j : Nat)] rfl rfl (World.news_of_block (cs := #[.int .i64 (j : Nat)]) (t := 3) (fr := (0, 0)) (heap_alloc_new wr (.cells #[.int .i64 (j : Nat)] 3))) (by simp [Value.oneCell']) (by omega) (by unfold maxLen; omega) (by omega) (by simp; omega) (wr.heap.size + 1) (by simp) ?_; intro g6 cap w6 hown6 hg6 hat6 hlt6)
        have hb6 : Below w3.heap.size w3 w6 := (HBW.out.alloc (by omega) _).grown hg6 (by simp; omega) (fun k e => (own_lt HRW.out e).1)
        refine ⟨⟨j + 1, by omega, by go_num, ?_, hb6⟩, by simp [intOf]; omega⟩
        have h := HQ.out
        simp only [if_true] at h
        rw [h, List.length_append, List.map_append]
        exact hown6
    · have hje : j = L.length := by omega
      subst hje
      have HRW := Lib.hid hrow
      have HBW := Lib.hid hbw
      clear hrow hbw
      go_wp2_with fail
      go_ret2
      exact ⟨_, rfl, owns_lower HRW.out HB3.out.size, HB3.out.trans (HBW.out.mono HB3.out.size)⟩

set_option maxRecDepth 100000 in
set_option maxHeartbeats 4000000 in
theorem iModels_any (b : BN) (i : IN) (w : World) (f : Few3 b i) (hG : GT w) (hb : b.In w.heap.size w) (hi : i.In w.heap.size w) :
    Calls Tryd.prog 28 #[b.val, i.val] w fun e w' => e = .returned (.tuple #[.bool (decide (vcode b i = 0) && decide ((selR (wrongP (verL0 b i)) (verL0 b i).length).length = 0)), .int .i64 (vcode b i)]) ∧ Below w.heap.size w w' := by
  obtain ⟨W1, hW1, hB1, hs1, hk1⟩ := newBlk w _ rfl #[.slice b.N.C.A b.N.C.l.length b.N.C.c, .slice b.N.R.A b.N.R.l.length b.N.R.c, .slice b.N.I.A b.N.I.l.length b.N.I.c, .slice b.IA b.I.length b.ic, .slice b.R.A b.R.l.length b.R.c, .slice b.FA b.F.length b.fc, .slice b.L.A b.L.l.length b.L.c] 54
  obtain ⟨W2, hW2, hB2, hs2, hk2⟩ := newBlk W1 _ hs1 #[.int .i64 i.size, .slice i.CA i.C.length i.cc, .slice i.RA i.R.length i.rc, .slice i.I.A i.I.l.length i.I.c] 58
  have hB : Below w.heap.size w W2 := hB1.trans (hB2.mono (by omega))
  have hkk1 := (hB2.block w.heap.size (by omega)).trans hk1
  obtain ⟨c0, c1, c2, c3, c4, c5, c6⟩ := bbox_of (b := b) hkk1
  have d0 := cell_of_blk hk2 0
  have d1 := cell_of_blk hk2 1
  have d2 := cell_of_blk hk2 2
  have d3 := cell_of_blk hk2 3
  simp only [List.getElem?_toArray, List.getElem?_cons_zero, List.getElem?_cons_succ] at d0 d1 d2 d3
  have hwr := iWrong_any b i W2 f (hG.later hB) (hb.later hB) (hi.later hB)
  obtain ⟨L, hL⟩ : ∃ L, selR (wrongP (verL0 b i)) (verL0 b i).length = L := ⟨_, rfl⟩
  obtain ⟨z, hz⟩ : ∃ z, vcode b i = z := ⟨_, rfl⟩
  rw [hL, hz] at hwr
  rw [hL, hz]
  have HB := Lib.hid hB
  have HWR := Lib.hid hwr
  simp only [BN.val, IN.val] at HWR ⊢
  clear hB hB1 hB2 hk1 hk2 hkk1 hG hb hi hwr hL hz f
  by_cases hz0 : z = 0
  · subst hz0
    obtain ⟨q, hq⟩ : ∃ q, decide (L.length = 0) = q := ⟨_, rfl⟩
    have HQ := Lib.hid hq
    have q1 : ((L.length : Int) == 0) = q := by rw [← hq, Bool.eq_iff_iff]; simp
    have q2 : decide (L.length = 0) = q := hq
    rw [hq]
    clear hq
    go_enter Tryd.func28, Tryd.ntmps28
    go_wp2_with (go_at_call 27; refine HWR.out.mono ?_; rintro e w3 ⟨v, rfl, hop, hb3⟩; obtain ⟨A3, k3, hv3, hn3, hc3, -⟩ := row_of_owns hop; subst hv3; clear hop)
    go_ret2
    exact ⟨by simp, HB.out.trans (hb3.mono HB.out.size)⟩
  · have q0 : (z == 0) = false := by simpa using hz0
    have HZ0 := Lib.hid hz0
    clear hz0
    go_enter Tryd.func28, Tryd.ntmps28
    go_wp2_with (go_at_call 27; refine HWR.out.mono ?_; rintro e w3 ⟨v, rfl, hop, hb3⟩; obtain ⟨A3, k3, hv3, hn3, hc3, -⟩ := row_of_owns hop; subst hv3; clear hop)
    go_ret2
    exact ⟨by simp [HZ0.out], HB.out.trans (hb3.mono HB.out.size)⟩
end Go.Proofs.YtnkkpjgclekobaaDoor

namespace Go.Proofs.YtnkkpjgclekobaaDoor
open Go.RowKit

/-- What True hands back: the verdict and the code. -/
def trueV (L : List Bool) (z a : Int) : Bool := decide (z = 0) && (decide (0 ≤ a) && !wrongP L a.toNat && decide (a < (L.length : Int)))
def trueC (L : List Bool) (z a : Int) : Int := if z = 0 then (if 0 ≤ a ∧ a < (L.length : Int) then 0 else 1) else z

set_option maxRecDepth 100000 in
set_option maxHeartbeats 4000000 in
theorem iTrue_any (b : BN) (i : IN) (a : Int) (w : World) (f : Few3 b i) (hG : GT w) (hb : b.In w.heap.size w) (hi : i.In w.heap.size w) :
    Calls Tryd.prog 29 #[b.val, i.val, .int .i64 a] w fun e w' => e = .returned (.tuple #[.bool (trueV (verL0 b i) (vcode b i) a), .int .i64 (trueC (verL0 b i) (vcode b i) a)]) ∧ Below w.heap.size w w' := by
  obtain ⟨W1, hW1, hB1, hs1, hk1⟩ := newBlk w _ rfl #[.slice b.N.C.A b.N.C.l.length b.N.C.c, .slice b.N.R.A b.N.R.l.length b.N.R.c, .slice b.N.I.A b.N.I.l.length b.N.I.c, .slice b.IA b.I.length b.ic, .slice b.R.A b.R.l.length b.R.c, .slice b.FA b.F.length b.fc, .slice b.L.A b.L.l.length b.L.c] 54
  obtain ⟨W2, hW2, hB2, hs2, hk2⟩ := newBlk W1 _ hs1 #[.int .i64 i.size, .slice i.CA i.C.length i.cc, .slice i.RA i.R.length i.rc, .slice i.I.A i.I.l.length i.I.c] 58
  have hB : Below w.heap.size w W2 := hB1.trans (hB2.mono (by omega))
  have hkk1 := (hB2.block w.heap.size (by omega)).trans hk1
  obtain ⟨c0, c1, c2, c3, c4, c5, c6⟩ := bbox_of (b := b) hkk1
  have d0 := cell_of_blk hk2 0
  have d1 := cell_of_blk hk2 1
  have d2 := cell_of_blk hk2 2
  have d3 := cell_of_blk hk2 3
  simp only [List.getElem?_toArray, List.getElem?_cons_zero, List.getElem?_cons_succ] at d0 d1 d2 d3
  have hve := verdicts_any b i W2 f (hG.later hB) (hb.later hB) (hi.later hB)
  have hLn := verL0_len f
  obtain ⟨L, hL⟩ : ∃ L, verL0 b i = L := ⟨_, rfl⟩
  obtain ⟨z, hz⟩ : ∃ z, vcode b i = z := ⟨_, rfl⟩
  rw [hL, hz] at hve
  rw [hL] at hLn
  rw [hL, hz]
  have HB := Lib.hid hB
  have HVE := Lib.hid hve
  simp only [BN.val, IN.val] at HVE ⊢
  clear hB hB1 hB2 hk1 hk2 hkk1 hG hb hi hve hL hz f
  by_cases hz0 : z = 0
  · subst hz0
    by_cases ha : 0 ≤ a
    · by_cases hal : a < (L.length : Int)
      · obtain ⟨k, rfl⟩ : ∃ k : Nat, a = k := ⟨a.toNat, by omega⟩
        have hkl : k < L.length := by omega
        have HV := Lib.hid (show trueV L 0 k = !wrongP L k by rw [trueV, decide_eq_true ha, decide_eq_true hal]; simp)
        have HC := Lib.hid (show trueC L 0 k = 0 by rw [trueC, if_pos rfl, if_pos ⟨ha, hal⟩])
        obtain ⟨t, ht⟩ : ∃ t, (!wrongP L k) = t := ⟨_, rfl⟩
        rw [ht] at HV
        have HT := Lib.hid ht
        clear ht
        go_enter Tryd.func29, Tryd.ntmps29
        go_wp2_with (go_at_call 61; refine HVE.out.mono ?_; rintro e w3 ⟨v, rfl, hop, hb3⟩; obtain ⟨A3, k3, hv3, hn3, hc3, hrow3⟩ := row_of_owns hop; subst hv3; obtain ⟨g, off, hA, hg, hce⟩ := bools_cells (c := 0) hrow3 hkl; rw [HT.out] at hce; subst hA; clear hop hrow3)
        go_ret2
        exact ⟨by rw [HV.out, HC.out]; rfl, HB.out.trans (hb3.mono HB.out.size)⟩
      · have HV := Lib.hid (show trueV L 0 a = false by rw [trueV, decide_eq_false hal, Bool.and_false, Bool.and_false])
        have HC := Lib.hid (show trueC L 0 a = 1 by rw [trueC, if_pos rfl, if_neg (fun h => hal h.2)])
        have q1 : decide (a < 0) = false := decide_eq_false (by omega)
        have q2 : decide ((L.length : Int) ≤ a) = true := decide_eq_true (by omega)
        clear hal
        go_enter Tryd.func29, Tryd.ntmps29
        go_wp2_with (go_at_call 61; refine HVE.out.mono ?_; rintro e w3 ⟨v, rfl, hop, hb3⟩; obtain ⟨A3, k3, hv3, hn3, hc3, hrow3⟩ := row_of_owns hop; subst hv3; clear hop hrow3)
        go_ret2
        exact ⟨by rw [HV.out, HC.out]; rfl, HB.out.trans (hb3.mono HB.out.size)⟩
    · have HV := Lib.hid (show trueV L 0 a = false by rw [trueV, decide_eq_false ha, Bool.false_and, Bool.false_and, Bool.and_false])
      have HC := Lib.hid (show trueC L 0 a = 1 by rw [trueC, if_pos rfl, if_neg (fun h => ha h.1)])
      have q1 : decide (a < 0) = true := decide_eq_true (by omega)
      clear ha
      go_enter Tryd.func29, Tryd.ntmps29
      go_wp2_with (go_at_call 61; refine HVE.out.mono ?_; rintro e w3 ⟨v, rfl, hop, hb3⟩; obtain ⟨A3, k3, hv3, hn3, hc3, hrow3⟩ := row_of_owns hop; subst hv3; clear hop hrow3)
      go_ret2
      exact ⟨by rw [HV.out, HC.out]; rfl, HB.out.trans (hb3.mono HB.out.size)⟩
  · have HV := Lib.hid (show trueV L z a = false by rw [trueV, decide_eq_false hz0, Bool.false_and])
    have HC := Lib.hid (show trueC L z a = z by rw [trueC, if_neg hz0])
    have q0 : (z != 0) = true := by simpa using hz0
    clear hz0
    go_enter Tryd.func29, Tryd.ntmps29
    go_wp2_with (go_at_call 61; refine HVE.out.mono ?_; rintro e w3 ⟨v, rfl, hop, hb3⟩; obtain ⟨A3, k3, hv3, hn3, hc3, hrow3⟩ := row_of_owns hop; subst hv3; clear hop hrow3)
    go_ret2
    exact ⟨by rw [HV.out, HC.out]; rfl, HB.out.trans (hb3.mono HB.out.size)⟩

/-- The reference's Few: where it says yes, the base is small. -/
def RetFew (b : BN) (w : World) (e : Ending) (w' : World) : Prop := (∃ x, e = .returned (.bool x) ∧ (x = true → fewB b.N = true ∧ b.I.length ≤ 200 ∧ b.R.l.length ≤ 200 ∧ b.F.length ≤ 200 ∧ b.L.l.length ≤ 200 ∧ ∀ T ∈ b.cons, T.tr.size ≤ 400)) ∧ Below w.heap.size w w'

set_option maxRecDepth 100000 in
set_option maxHeartbeats 8000000 in
theorem bFew_any (b : BN) (w : World) (hb : b.In w.heap.size w) :
    Calls Tryd.prog 20 #[b.val, .int .i64 400] w (RetFew b w) := by
  obtain ⟨W1, hW1, hB1, hs1, hk1⟩ := newBlk w _ rfl #[.slice b.N.C.A b.N.C.l.length b.N.C.c, .slice b.N.R.A b.N.R.l.length b.N.R.c, .slice b.N.I.A b.N.I.l.length b.N.I.c, .slice b.IA b.I.length b.ic, .slice b.R.A b.R.l.length b.R.c, .slice b.FA b.F.length b.fc, .slice b.L.A b.L.l.length b.L.c] 54
  have hbb := fun w' (h : Below W1.heap.size W1 w') => bbox_of (b := b) (blk_lat hk1 h)
  obtain ⟨c0, c1, c2, c3, c4, c5, c6⟩ := hbb W1 (Below.refl _ _)
  have hfn := FewNames_any b.N W1 (hb.n.later hB1)
  have hpa := fun w' (h : Below W1.heap.size W1 w') hI hF => rConcepts_any b w' ((hb.later hB1).later h) hI hF
  have hfi := fun T (hT : T ∈ b.cons) w' (h : Below W1.heap.size W1 w') => Fits_any T 400 w' (((cons_in hb T hT).later hB1).later h) (by omega) (by omega)
  have hsi := fun T (hT : T ∈ b.cons) w' (h : Below W1.heap.size W1 w') hsz => rSize_any T w' (((cons_in hb T hT).later hB1).later h) hsz
  have hil : b.I.length ≤ 9223372036854775807 := Nat.le_trans hb.i1 hb.i2
  have hrl : b.R.l.length ≤ 9223372036854775807 := Nat.le_trans hb.r.1 hb.r.2.1
  have hfl : b.F.length ≤ 9223372036854775807 := Nat.le_trans hb.f1 hb.f2
  have hll : b.L.l.length ≤ 9223372036854775807 := Nat.le_trans hb.l1 hb.l2
  have hcl := cons_len b
  simp only [fits_size] at hfi
  have HB := Lib.hid hB1
  have HBB := Lib.hid hbb
  have HPA := Lib.hid hpa
  have HFI := Lib.hid hfi
  have HSI := Lib.hid hsi
  have HCL := Lib.hid hcl
  simp only [NM.val, BN.val, MT.val] at hfn HPA HFI HSI ⊢
  clear hB1 hbb hpa hfi hsi hb hk1 hcl
  by_cases q1 : 200 < b.I.length
  · go_enter Tryd.func20, Tryd.ntmps20
    go_wp2_with fail
    go_ret
    exact ⟨⟨_, rfl, fun h => by cases h⟩, HB.out⟩
  · by_cases q2 : 200 < b.R.l.length
    · go_enter Tryd.func20, Tryd.ntmps20
      go_wp2_with fail
      go_ret
      exact ⟨⟨_, rfl, fun h => by cases h⟩, HB.out⟩
    · by_cases q3 : 200 < b.F.length
      · go_enter Tryd.func20, Tryd.ntmps20
        go_wp2_with fail
        go_ret
        exact ⟨⟨_, rfl, fun h => by cases h⟩, HB.out⟩
      · by_cases q4 : 200 < b.L.l.length
        · go_enter Tryd.func20, Tryd.ntmps20
          go_wp2_with fail
          go_ret
          exact ⟨⟨_, rfl, fun h => by cases h⟩, HB.out⟩
        · obtain ⟨fb, hfb⟩ : ∃ x, fewB b.N = x := ⟨_, rfl⟩
          have HFB := Lib.hid hfb
          rw [hfb] at hfn
          clear hfb
          cases fb
          · go_enter Tryd.func20, Tryd.ntmps20
            go_wp2_with (go_at_call 6; refine hfn.mono ?_; rintro e w2 ⟨rfl, hb2⟩)
            go_ret
            exact ⟨⟨_, rfl, fun h => by cases h⟩, HB.out.trans (hb2.mono HB.out.size)⟩
          · go_enter Tryd.func20, Tryd.ntmps20
            go_wp2_with (first
              | (go_at_call 50; refine (HPA.out w2 hb2 (by omega) (by omega)).mono ?_; rintro e w3 ⟨v, rfl, hop, hb3'⟩; have hb3 : Below W1.heap.size W1 w3 := hb2.trans (hb3'.mono hb2.size); obtain ⟨A2, k2, hv2, hn2, hc2, hrow⟩ := row_of_owns hop; subst hv2; have HRW := Lib.hid hrow; clear hop hrow)
              | (go_at_call 6; refine hfn.mono ?_; rintro e w2 ⟨rfl, hb2⟩; obtain ⟨e0, e1, e2, e3, e4, e5, e6⟩ := HBB.out w2 hb2))
            clear e0 e1 e2 e3 e4 e5 e6
            obtain ⟨l, hl⟩ : ∃ l, b.cons = l := ⟨_, rfl⟩
            have HCO := Lib.hid hl
            have hll2 : l.length ≤ 600 := by have := HCL.out; rw [hl] at this; omega
            rw [hl] at HFI HSI HRW
            simp only [hl]
            clear hl
            have hb3s := hb3
            go_loopw [5, 41] (fun t i' wr => ∃ k : Nat, k ≤ l.length ∧ i' = .int .i64 (k : Nat) ∧ t = .int .i64 (totS l k : Nat) ∧ (∀ j (hj : j < l.length), j < k → l[j].tr.size ≤ 400) ∧ totS l k ≤ k * 400 ∧ Below w3.heap.size w3 wr) (fun _ i' _ => l.length - (intOf i').toNat)
            case atStart => exact ⟨0, Nat.zero_le _, rfl, rfl, fun j _ h => absurd h (by omega), Nat.zero_le _, Below.refl _ _⟩
            case round =>
              rename World => wr
              obtain ⟨k, hk, rfl, rfl, hall, htk, hbw⟩ := hrel
              have HA := Lib.hid hall
              clear hall
              by_cases hltk : k < l.length
              · obtain ⟨g, off, hA, hg, e0, e1, e2⟩ := elem3 (HRW.out.below (Nat.le_refl _) hbw) (Below.refl _ _) hltk
                have h0K : (0 : Int) ≤ k := by omega
                have hlK : (k : Int) < l.length := by omega
                have HTN := Lib.hid (totS_next hltk)
                have htk2 : totS l k ≤ 240000 := by omega
                obtain ⟨Wa, hWa, hBa, hsa, hka⟩ := newBlk wr _ rfl #[.int .i64 l[k].op, .int .i64 l[k].n, .slice l[k].A l[k].args.length l[k].c] 27
                have h2a : Below w3.heap.size w3 Wa := hbw.trans (hBa.mono hbw.size)
                have h1a : Below W1.heap.size W1 Wa := hb3s.trans (h2a.mono hb3s.size)
                have HCa := Lib.hid (fun w' (h : Below Wa.heap.size Wa w') => box_cells hka h)
                have hfi := HFI.out l[k] (List.getElem_mem hltk) Wa h1a
                have hsi := fun w' (h : Below Wa.heap.size Wa w') => HSI.out l[k] (List.getElem_mem hltk) w' (h1a.trans (h.mono h1a.size))
                obtain ⟨d0, d1, d2⟩ := HCa.out Wa (Below.refl _ _)
                obtain ⟨ok, hok⟩ : ∃ x, decide ((l[k].tr.size : Int) ≤ 400) = x := ⟨_, rfl⟩
                rw [hok] at hfi
                have HFIk := Lib.hid hfi
                have HSIk := Lib.hid hsi
                have H2A := Lib.hid h2a
                have HSA := Lib.hid hsa
                have HTK := Lib.hid htk
                rw [hA]
                clear hfi hsi hbw hBa hka hsa hA h2a h1a htk
                cases ok
                · clear hok
                  generalize l[k] = T at e0 e1 e2 hWa HFIk HSIk HCa d0 d1 d2
                  go_wp2_with (go_at_call 7; refine HFIk.out.mono ?_; rintro e w5 ⟨rfl, hb5⟩)
                  go_ret
                  exact ⟨⟨_, rfl, fun h => by cases h⟩, HB.out.trans ((hb3s.trans ((H2A.out.trans (hb5.mono H2A.out.size)).mono hb3s.size)).mono HB.out.size)⟩
                · have hz1 : l[k].tr.size ≤ 400 := by have := of_decide_eq_true hok; omega
                  have HZ1 := Lib.hid hz1
                  have HTS := Lib.hid (show totS l (k + 1) ≤ (k + 1) * 400 by rw [HTN.out]; have := HTK.out; omega)
                  have hsi2 := fun w' h => HSIk.out w' h (by omega)
                  have HSI2 := Lib.hid hsi2
                  clear hok hsi2 HSIk
                  generalize l[k] = T at e0 e1 e2 hWa HTN hz1 HFIk HSI2 HCa d0 d1 d2
                  go_wp2_with (first
                    | (go_at_call 51; refine (HSI2.out w5 hb5).mono ?_; rintro e w6 ⟨rfl, hb6⟩)
                    | (go_at_call 7; refine HFIk.out.mono ?_; rintro e w5 ⟨rfl, hb5⟩; obtain ⟨f0, f1, f2⟩ := HCa.out w5 hb5))
                  go_roundw
                  case rel => exact ⟨k + 1, by omega, by go_num, by rw [HTN.out]; go_num, fun j hj hjk => by
                    by_cases e : j = k
                    · subst e; exact HZ1.out
                    · exact HA.out j hj (by omega), HTS.out, H2A.out.trans ((hb5.trans (hb6.mono hb5.size)).mono H2A.out.size)⟩
                  case measure => simp [intOf]; omega
              · have hke : k = l.length := by omega
                have HBW := Lib.hid hbw
                have HALL := Lib.hid (show ∀ T ∈ l, T.tr.size ≤ 400 from fun T hT => by
                  obtain ⟨j, hj, rfl⟩ := List.mem_iff_getElem.1 hT
                  exact HA.out j hj (by omega))
                clear hbw HA
                go_wp2_with fail
                go_ret
                exact ⟨⟨_, rfl, fun _ => ⟨HFB.out, by omega, by omega, by omega, by omega, by rw [HCO.out]; exact HALL.out⟩⟩, HB.out.trans ((hb3s.trans (HBW.out.mono hb3s.size)).mono HB.out.size)⟩
end Go.Proofs.YtnkkpjgclekobaaDoor
