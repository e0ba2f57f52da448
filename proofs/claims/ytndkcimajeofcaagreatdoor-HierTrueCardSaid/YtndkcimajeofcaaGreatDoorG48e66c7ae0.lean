import Derived.Test.YtndkcimajeofcaaGreatDoorG239ec7f19c
import Derived.Test.YtndkcimajeofcaaGreatDoorG652bbf8ba9
namespace Go
/-- AT A STEP OF A REGION THAT DRAWS: an append to a row of one's own, of nothing too. -/
theorem step_append_at {P : Program} (w : World) {ops : Array Oper} {o : Oper} {a : Act} {K : Act → World → Prop} {Q : Exit → Act → World → Prop} {E : Prop} (hgd : o.guard = none) (s x : Operand) (t : TypeId)
    (ho : o.op = .call { callee := .builtin .append, args := #[s, x], argTypes := #[t, t] })
    (base : Nat) (e : TypeId) (i : TypeInfo) (z : Value) (size bytes : Nat) (ht : P.underlying t = some (.slice e)) (hi : P.info? e = some i) (hz : i.zero = some z)
    (hsize : i.size = size) (hby : i.bytes = bytes) (hzs : z.cells.size = size) (hsz : 0 < size)
    (v : Value) (n : Nat) (xs : List Value) (hs : a.eval s = v) (hown : w.ownsRow base e size v n xs)
    (ad : Addr) (m c : Nat) (news : List Value) (hx : a.eval x = .slice (some ad) m c) (hl : news.length = m * size) (hnews : ∀ j u, news[j]? = some u → w.cell? (ad.add j) = some u) (h1 : ∀ u ∈ news, u.oneCell' = true)
    (h63 : n + m ≤ maxLen) (hbytes : (n + m) * bytes ≤ 140737488355328) (hbase : base ≤ w.heap.size)
    (h : ∀ v' w', w'.ownsRow base e size v' (n + m) (xs ++ news) → w.grownBy w' v.ownBlock → (v'.ownBlock = v.ownBlock ∨ v'.ownBlock = some w.heap.size) → K (a.put o.dst v') w') :
    if Region.wanted o (yielded ops a.tmps) = true then Oper.wp P o a w K Q else E := by
  have hw : Region.wanted o (yielded ops a.tmps) = true := by simp [Region.wanted, hgd]
  rw [if_pos hw]
  obtain ⟨v', w', hr, h2, h3, _, h5⟩ := run_append_own_at (P := P) w base t o.type e i z size bytes ht hi hz hsize hby hzs hsz v n xs hown ad m c news hl hnews h1 h63 hbytes hbase
  unfold Oper.wp execOp
  simp only [ho, resolve, invoke, builtin, Sem.run_bind, Sem.run_pure, Result.andThen_ok, List.map_toArray, List.map_cons, List.map_nil, hs, hx, hr]
  exact h v' w' h2 h3 h5
end Go
namespace Go.Proofs.YtndkcimajeofcaaGreatDoor
open Go.RowKit

theorem grown_belowI {w w' : World} {row : Option Nat} (hb : Below w.heap.size w w') : w.grownBy w' row := ⟨hb.os, hb.tape, hb.output, hb.size, fun k hk _ => hb.block k hk⟩

theorem insL_hit {n : Int} : ∀ {xs : List Int} {k : Nat} (hk : k < xs.length), (∀ j (hj : j < xs.length), j < k → xs[j] < n) → xs[k] = n → insL xs n = xs
  | x :: r, 0, _, _, h => by rw [insL, if_pos (by simpa using h)]
  | x :: r, k + 1, hk, ha, h => by
    have h0 := ha 0 (by simp) (by omega)
    simp only [List.getElem_cons_zero] at h0
    rw [insL, if_neg (by omega), if_neg (by omega), insL_hit (k := k) (by simpa using hk) (fun j hj hjk => ha (j + 1) (by simpa using hj) (by omega)) (by simpa using h)]
theorem insL_mid {n : Int} : ∀ {xs : List Int} {k : Nat} (hk : k < xs.length), (∀ j (hj : j < xs.length), j < k → xs[j] < n) → n < xs[k] → insL xs n = xs.take k ++ [n] ++ xs.drop k
  | x :: r, 0, _, _, h => by
    simp only [List.getElem_cons_zero] at h
    rw [insL, if_neg (by omega), if_pos h]; rfl
  | x :: r, k + 1, hk, ha, h => by
    have h0 := ha 0 (by simp) (by omega)
    simp only [List.getElem_cons_zero] at h0
    rw [insL, if_neg (by omega), if_neg (by omega), insL_mid (k := k) (by simpa using hk) (fun j hj hjk => ha (j + 1) (by simpa using hj) (by omega)) (by simpa using h)]
    rfl
theorem insL_end {n : Int} : ∀ {xs : List Int}, (∀ j (hj : j < xs.length), xs[j] < n) → insL xs n = xs ++ [n]
  | [], _ => rfl
  | x :: r, ha => by
    have h0 := ha 0 (by simp)
    simp only [List.getElem_cons_zero] at h0
    rw [insL, if_neg (by omega), if_neg (by omega), insL_end (fun j hj => ha (j + 1) (by simpa using hj))]
    rfl

/-- What Insert hands back. -/
def RetIns (base : Nat) (v : Value) (l : List Int) (w : World) (e : Ending) (w' : World) : Prop :=
  ∃ v', e = .returned v' ∧ w'.ownsRow base 3 1 v' l.length (intCells l) ∧ w.grownBy w' v.ownBlock ∧ (v'.ownBlock = v.ownBlock ∨ ∃ g, v'.ownBlock = some g ∧ w.heap.size ≤ g ∧ g < w'.heap.size)

set_option maxRecDepth 100000 in
set_option maxHeartbeats 4000000 in
theorem Insert_any {base : Nat} (v : Value) (xs : List Int) (n : Int) (w : World) (h : w.ownsRow base 3 1 v xs.length (intCells xs)) (hb : base ≤ w.heap.size) (hl : xs.length ≤ 1000000) :
    Calls Tryz.prog 58 #[v, .int .i64 n] w (RetIns base v (insL xs n) w) := by
  obtain ⟨i0, hi, hz0, hz1, hz2⟩ := info_parts int_info
  obtain ⟨A, c, rfl, hl1, hc1⟩ := row_cells h
  have hgr : w.grownBy w (Value.slice A xs.length c).ownBlock := ⟨rfl, rfl, rfl, Nat.le_refl _, fun _ _ _ => rfl⟩
  go_enter Tryz.func58, Tryz.ntmps58
  go_wp2_with fail
  go_loop [9] (fun i => ∃ k : Nat, k ≤ xs.length ∧ i = .int .i64 k ∧ ∀ j (hj : j < xs.length), j < k → xs[j] < n) (fun i => xs.length - (intOf i).toNat)
  case atStart => exact ⟨0, Nat.zero_le _, rfl, fun j _ h => absurd h (by omega)⟩
  case round =>
    obtain ⟨k, hk, rfl, hall⟩ := hrel
    have HA := Lib.hid hall
    clear hall
    by_cases hlt : k < xs.length
    · obtain ⟨g, rfl, hgb, hg, hcg⟩ := hc1 (by omega)
      have e1 := hcg k hlt
      have hcap := (show xs.length ≤ c by rcases h.2 with ⟨hv, _⟩ | ⟨g', cap', cur, hv, hge, hheap, hlen, hcap, hsize, htake⟩; (cases hv); (cases hv; exact hlen))
      have h0I : (0 : Int) ≤ k := by omega
      have hlI : (k : Int) < xs.length := by omega
      by_cases heq : xs[k] = n
      · have HF := Lib.hid (insL_hit hlt HA.out heq)
        have hb1 : (xs[k] == n) = true := by simpa using heq
        go_wp2
        go_ret
        rw [HF.out]
        exact ⟨_, rfl, h, hgr, .inl rfl⟩
      · have hb1 : (xs[k] == n) = false := by simpa using heq
        by_cases hgt : n < xs[k]
        · have HF := Lib.hid (insL_mid hlt HA.out hgt)
          have hcm : c ≤ 9223372036854775807 := by
            rcases h.2 with ⟨hv, _⟩ | ⟨g', cap', cur, hv, hge, hheap, hlen, hcap, hsize, htake⟩
            · cases hv
            · cases hv; unfold maxLen at hcap; omega
          have hgc : (xs[k] > n) := hgt
          generalize xs[k] = z at e1 heq hb1 hgt hgc
          have HG : ∀ (W' : World), Below w.heap.size w W' → ∀ (a m : Nat), a + m ≤ xs.length → ∀ j u, (intCells ((xs.drop a).take m))[j]? = some u → W'.cell? ((⟨g, a, none⟩ : Addr).add j) = some u := fun W' hb a m ham j u hu => by
            have hadd : (⟨g, a, none⟩ : Addr).add j = ⟨g, a + j, none⟩ := by unfold Addr.add; split <;> simp_all
            rw [intCells, List.getElem?_map, List.getElem?_take] at hu
            split at hu
            · rw [List.getElem?_drop, List.getElem?_eq_getElem (by omega)] at hu
              rw [hadd, hb.cell (p := ⟨g, a + j, none⟩) hg, hcg (a + j) (by omega)]
              exact hu
            · simp at hu
          clear hcg hc1
          have hone : ∀ l : List Int, ∀ u ∈ intCells l, u.oneCell' = true := fun l u hu => by
            obtain ⟨z', -, rfl⟩ := List.mem_map.1 hu
            rfl
          have hbd : Below w.heap.size w w.drew := (Below.refl _ _).drew
          have hbda : Below w.heap.size w (w.drew.alloc (.cells #[.int .i64 n] 3)) := hbd.alloc (by simp) _
          have hnilOwn : ∀ W' : World, W'.ownsRow base 3 1 (.slice none 0 0) 0 (intCells []) := fun W' => ⟨rfl, .inl ⟨rfl, rfl⟩⟩
          have hk1 : (intCells ((xs.drop 0).take k)).length = k * 1 := by simp [intCells]; omega
          have hk3 : (intCells ((xs.drop k).take (xs.length - k))).length = (xs.length - k) * 1 := by simp [intCells]
          have hFc : intCells (xs.take k ++ [n] ++ xs.drop k) = intCells [] ++ intCells ((xs.drop 0).take k) ++ [.int .i64 n] ++ intCells ((xs.drop k).take (xs.length - k)) := by
            rw [List.take_of_length_le (by simp : (xs.drop k).length ≤ xs.length - k), List.drop_zero]
            simp [intCells]
          have hFl : (xs.take k ++ [n] ++ xs.drop k).length = 0 + k + 1 + (xs.length - k) := by simp; omega
          have HFc := Lib.hid hFc
          have HFl := Lib.hid hFl
          clear hFc hFl
          have hkc : k ≤ c := by omega
          have hck : ¬ c = k := by omega
          go_wp2_with fail
          go_region_law (first
            | (refine step_append_at w2 (by rfl) _ _ _ (by rfl) base 3 i0 _ 1 8 Tryz.underlying36 hi hz0 hz1 hz2 rfl (by omega) v2 (0 + k + 1) _ (by rfl) hown2 ⟨g, k, none⟩ (xs.length - k) (c - k) (intCells ((xs.drop k).take (xs.length - k))) (by rfl) hk3 (HG _ hb2 k (xs.length - k) (by omega)) (hone _) (by unfold maxLen; omega) (by omega) (by have := hb2.size; omega) ?_; intro v3 w3 hown3 hg3 hat3; have hb3 : Below w.heap.size w w3 := hb2.grown hg3 hb2.size hlow2; have hlow3 : ∀ k, v3.ownBlock = some k → w.heap.size ≤ k := (fun k e => by have := hb2.size; rcases hat3 with e' | e'; exact hlow2 k (e'.symm.trans e); rw [e'] at e; cases e; omega))
            | (refine step_append_at (w1.alloc (.cells #[.int .i64 n] 3)) (by rfl) _ _ _ (by rfl) base 3 i0 _ 1 8 Tryz.underlying36 hi hz0 hz1 hz2 rfl (by omega) v1 (0 + k) _ (by rfl) (owns_below hown1 ((Below.refl _ w1).alloc (Nat.le_refl _) _)) ⟨w1.heap.size, 0, none⟩ 1 1 [.int .i64 n] (by rfl) (by rfl) (World.news_of_block (cs := #[.int .i64 n]) (t := 3) (fr := (0, 0)) (heap_alloc_new w1 _)) (by simp [Value.oneCell']) (by unfold maxLen; omega) (by omega) (by have := hb1.size; simp; omega) ?_; intro v2 w2 hown2 hg2 hat2; have hb2 : Below w.heap.size w w2 := (hb1.alloc hb1.size _).grown hg2 (by have := hb1.size; simp; omega) hlow1; have hlow2 : ∀ k, v2.ownBlock = some k → w.heap.size ≤ k := (fun k e => by have := hb1.size; rcases hat2 with e' | e'; exact hlow1 k (e'.symm.trans e); rw [e'] at e; simp at e; omega))
            | (refine step_append_at w1 (by rfl) _ _ _ (by rfl) base 3 i0 _ 1 8 Tryz.underlying36 hi hz0 hz1 hz2 rfl (by omega) v1 (0 + k) _ (by rfl) hown1 ⟨w.heap.size, 0, none⟩ 1 1 [.int .i64 n] (by rfl) (by rfl) (World.news_of_block (cs := #[.int .i64 n]) (t := 3) (fr := (0, 0)) htmp) (by simp [Value.oneCell']) (by unfold maxLen; omega) (by omega) (by have := hb1.size; omega) ?_; intro v2 w2 hown2 hg2 hat2; have hb2 : Below w.heap.size w w2 := hb1.grown hg2 hb1.size hlow1; have hlow2 : ∀ k, v2.ownBlock = some k → w.heap.size ≤ k := (fun k e => by have := hb1.size; rcases hat2 with e' | e'; exact hlow1 k (e'.symm.trans e); rw [e'] at e; cases e; omega))
            | (refine step_append_at w.drew (by rfl) _ _ _ (by rfl) base 3 i0 _ 1 8 Tryz.underlying36 hi hz0 hz1 hz2 rfl (by omega) (.slice none 0 0) 0 (intCells []) (by rfl) (hnilOwn _) ⟨g, 0, none⟩ k c (intCells ((xs.drop 0).take k)) (by rfl) hk1 (HG _ hbd 0 k (by omega)) (hone _) (by unfold maxLen; omega) (by omega) (by have := hbd.size; omega) ?_; intro v1 w1 hown1 hg1 hat1; have hb1 : Below w.heap.size w w1 := hbd.grown hg1 hbd.size (fun k e => by cases e); have hlow1 : ∀ k, v1.ownBlock = some k → w.heap.size ≤ k := (fun k e => by rcases hat1 with e' | e'; (rw [e'] at e; cases e); (rw [e'] at e; cases e; exact hbd.size)))
            | (refine step_append_at (w.drew.alloc (.cells #[.int .i64 n] 3)) (by rfl) _ _ _ (by rfl) base 3 i0 _ 1 8 Tryz.underlying36 hi hz0 hz1 hz2 rfl (by omega) (.slice none 0 0) 0 (intCells []) (by rfl) (hnilOwn _) ⟨g, 0, none⟩ k c (intCells ((xs.drop 0).take k)) (by rfl) hk1 (HG _ hbda 0 k (by omega)) (hone _) (by unfold maxLen; omega) (by omega) (by have := hbda.size; omega) ?_; intro v1 w1 hown1 hg1 hat1; have hb1 : Below w.heap.size w w1 := hbda.grown hg1 hbda.size (fun k e => by cases e); have hlow1 : ∀ k, v1.ownBlock = some k → w.heap.size ≤ k := (fun k e => by have := hbda.size; rcases hat1 with e' | e'; (rw [e'] at e; cases e); (rw [e'] at e; cases e; omega)); have htmp : w1.heap[w.heap.size]? = some (.cells #[.int .i64 n] 3) := (hg1.block w.heap.size (by simp) (by simp [Value.ownBlock])).trans (heap_alloc_new w.drew _)))
          all_goals
            go_wp2_with fail
            go_ret
            rw [HF.out]
            refine ⟨v3, rfl, by rw [HFc.out, HFl.out]; exact hown3, grown_belowI hb3, .inr ?_⟩
            obtain ⟨g3, cap3, rfl, -, hg3lt⟩ := hown3.form (by omega)
            exact ⟨g3, rfl, hlow3 g3 rfl, hg3lt⟩
        · have HN := Lib.hid (show ∀ j (hj : j < xs.length), j < k + 1 → xs[j] < n from fun j hj hjk => by
            by_cases e : j = k
            · subst e; omega
            · exact HA.out j hj (by omega))
          go_wp2
          go_round
          case rel => exact ⟨k + 1, by omega, by go_num, HN.out⟩
          case measure => simp [intOf]; omega
    · have HF := Lib.hid (insL_end (fun j hj => HA.out j hj (by omega)))
      clear hc1
      have hown0 := owns_below h ((Below.refl w.heap.size w).alloc (Nat.le_refl _) (.cells #[.int .i64 n] 3))
      go_wp2_with (at_builtin; refine wpList_append_own_at _ rfl _ _ 36 rfl base 3 i0 _ 1 8 Tryz.underlying36 hi hz0 hz1 hz2 rfl (by omega) (.slice A xs.length c) xs.length (intCells xs) rfl hown0 ⟨w.heap.size, 0, none⟩ 1 1 [.int .i64 n] rfl rfl (World.news_of_block (cs := #[.int .i64 n]) (t := 3) (fr := (0, 0)) (heap_alloc_new w _)) (by simp [Value.oneCell']) (by unfold maxLen; omega) (by omega) (by simp; omega) ?_; intro v2 w2 hown2 hg2 _ hat2)
      go_ret
      rw [HF.out]
      refine ⟨_, rfl, by rw [List.length_append, intCells, List.map_append]; exact hown2, grown_trans (grown_belowI ((Below.refl w.heap.size w).alloc (Nat.le_refl _) _)) hg2, ?_⟩
      rcases hat2 with e | e
      · exact .inl e
      · exact .inr ⟨_, e, by simp, (own_lt hown2 e).2⟩
end Go.Proofs.YtndkcimajeofcaaGreatDoor

namespace Go.Proofs.YtndkcimajeofcaaGreatDoor
open Go.RowKit

/-- The inverse of a role. -/
def inv (r : Nat) : Nat := if r % 2 = 0 then r + 1 else r - 1
theorem inv_inv (r : Nat) : inv (inv r) = r := by unfold inv; split <;> split <;> omega
theorem inv_lt {r n : Nat} (h : r < 2 * n) : inv r < 2 * n := by unfold inv; split <;> omega
/-- One role inclusion leads from r to s. -/
def hop (z : Int × Int) (r s : Nat) : Bool := (decide (z.1.toNat = r) && decide (z.2.toNat = s)) || (decide (inv z.1.toNat = r) && decide (inv z.2.toNat = s))
def edge (R : List (Int × Int)) (r s : Nat) : Bool := R.any fun z => hop z r s
theorem hop_inv (z : Int × Int) (r s : Nat) : hop z (inv r) (inv s) = hop z r s := by
  unfold hop
  rw [Bool.eq_iff_iff]
  simp only [Bool.or_eq_true, Bool.and_eq_true, decide_eq_true_eq]
  constructor
  · rintro (⟨h1, h2⟩ | ⟨h1, h2⟩)
    · exact .inr ⟨by rw [h1, inv_inv], by rw [h2, inv_inv]⟩
    · exact .inl ⟨by rw [← inv_inv z.1.toNat, h1, inv_inv], by rw [← inv_inv z.2.toNat, h2, inv_inv]⟩
  · rintro (⟨h1, h2⟩ | ⟨h1, h2⟩)
    · exact .inr ⟨by rw [h1], by rw [h2]⟩
    · exact .inl ⟨by rw [← h1, inv_inv], by rw [← h2, inv_inv]⟩
theorem edge_inv (R : List (Int × Int)) (r s : Nat) : edge R (inv r) (inv s) = edge R r s := by
  unfold edge; simp only [hop_inv]

/-- What lies above r. -/
inductive Reach (E : Nat → Nat → Bool) (r : Nat) : Nat → Prop where
  | refl : Reach E r r
  | tail {s t : Nat} : Reach E r s → E s t = true → Reach E r t
theorem Reach.trans {E : Nat → Nat → Bool} {r s t : Nat} (h : Reach E r s) (k : Reach E s t) : Reach E r t := by
  induction k with
  | refl => exact h
  | tail _ h2 ih => exact ih.tail h2
theorem Reach.one {E : Nat → Nat → Bool} {r s : Nat} (h : E r s = true) : Reach E r s := Reach.refl.tail h
theorem Reach.inv {R : List (Int × Int)} {r s : Nat} (h : Reach (edge R) r s) : Reach (edge R) (inv r) (inv s) := by
  induction h with
  | refl => exact .refl
  | tail _ h2 ih => exact ih.tail (by rw [edge_inv]; exact h2)

/-- Floyd's and Warshall's: by which roles below k one comes from r to s. -/
def fw (E : Nat → Nat → Bool) : Nat → Nat → Nat → Bool
  | 0, r, s => decide (r = s) || E r s
  | k + 1, r, s => fw E k r s || (fw E k r k && fw E k k s)
theorem fw_col {E : Nat → Nat → Bool} (k r : Nat) : fw E (k + 1) r k = fw E k r k := by
  rw [fw]; cases fw E k r k <;> simp
theorem fw_row {E : Nat → Nat → Bool} (k s : Nat) : fw E (k + 1) k s = fw E k k s := by
  rw [fw]; cases fw E k k s <;> simp
theorem fw_more {E : Nat → Nat → Bool} {k r s : Nat} (h : fw E k r s = true) : fw E (k + 1) r s = true := by rw [fw, h, Bool.true_or]
theorem fw_mono {E : Nat → Nat → Bool} {k r s : Nat} : ∀ m, fw E k r s = true → fw E (k + m) r s = true
  | 0, h => h
  | m + 1, h => fw_more (fw_mono m h)
theorem fw_via {E : Nat → Nat → Bool} : ∀ (k j r s : Nat), j < k → fw E k r j = true → fw E k j s = true → fw E k r s = true
  | 0, j, _, _, h, _, _ => absurd h (Nat.not_lt_zero _)
  | k + 1, j, r, s, h, h1, h2 => by
    by_cases e : j = k
    · subst e
      rw [fw_col] at h1
      rw [fw_row] at h2
      rw [fw, h1, h2]; simp
    · have hj : j < k := by omega
      rw [fw, Bool.or_eq_true, Bool.and_eq_true] at h1 h2
      rw [fw, Bool.or_eq_true, Bool.and_eq_true]
      rcases h1 with h1 | ⟨h1, h1'⟩ <;> rcases h2 with h2 | ⟨h2, h2'⟩
      · exact .inl (fw_via k j r s hj h1 h2)
      · exact .inr ⟨fw_via k j r k hj h1 h2, h2'⟩
      · exact .inr ⟨h1, fw_via k j k s hj h1' h2⟩
      · exact .inr ⟨h1, h2'⟩
theorem fw_sound {E : Nat → Nat → Bool} : ∀ (k r s : Nat), fw E k r s = true → Reach E r s
  | 0, r, s, h => by
    rw [fw, Bool.or_eq_true, decide_eq_true_eq] at h
    rcases h with rfl | h
    · exact .refl
    · exact .one h
  | k + 1, r, s, h => by
    rw [fw, Bool.or_eq_true, Bool.and_eq_true] at h
    rcases h with h | ⟨h, h'⟩
    · exact fw_sound k r s h
    · exact (fw_sound k r k h).trans (fw_sound k k s h')
theorem fw_reach {E : Nat → Nat → Bool} {n r s : Nat} (hb : ∀ x y, E x y = true → x < n) : fw E n r s = true ↔ Reach E r s := by
  refine ⟨fw_sound n r s, fun h => ?_⟩
  induction h with
  | refl => have := fw_mono (E := E) (k := 0) (r := r) (s := r) n (by simp [fw]); rwa [Nat.zero_add] at this
  | @tail x y _ h2 ih => exact fw_via n x r y (hb _ _ h2) ih (by have := fw_mono (E := E) (k := 0) (r := x) (s := y) n (by simp [fw, h2]); rwa [Nat.zero_add] at this)

/-- The roles above r, in order. -/
def upL (E : Nat → Nat → Bool) (n r : Nat) : List Nat := (List.range n).filter (fw E n r)
theorem mem_upL {E : Nat → Nat → Bool} {n r s : Nat} : s ∈ upL E n r ↔ s < n ∧ fw E n r s = true := by rw [upL, List.mem_filter, List.mem_range]

/-- What one role pushes onto the list of those to be looked at. -/
def pushF (r : Nat) (z : Int × Int) : List Nat := (if z.1.toNat = r then [z.2.toNat] else []) ++ (if inv z.1.toNat = r then [inv z.2.toNat] else [])
def pushL (R : List (Int × Int)) (r : Nat) : List Nat := R.flatMap (pushF r)
theorem mem_pushL {R : List (Int × Int)} {r s : Nat} : s ∈ pushL R r ↔ edge R r s = true := by
  rw [pushL, List.mem_flatMap, edge, List.any_eq_true]
  refine exists_congr fun z => and_congr Iff.rfl ?_
  rw [pushF, hop, List.mem_append, Bool.or_eq_true, Bool.and_eq_true, Bool.and_eq_true, decide_eq_true_eq, decide_eq_true_eq, decide_eq_true_eq, decide_eq_true_eq]
  refine or_congr ?_ ?_
  · split
    · rename_i h; rw [List.mem_singleton]; exact ⟨fun e => ⟨h, e.symm⟩, fun e => e.2.symm⟩
    · rename_i h; exact ⟨fun e => absurd e (by simp), fun e => absurd e.1 h⟩
  · split
    · rename_i h; rw [List.mem_singleton]; exact ⟨fun e => ⟨h, e.symm⟩, fun e => e.2.symm⟩
    · rename_i h; exact ⟨fun e => absurd e (by simp), fun e => absurd e.1 h⟩
theorem pushF_len (r : Nat) (z : Int × Int) : (pushF r z).length ≤ 2 := by unfold pushF; split <;> split <;> simp
theorem pushL_len (r : Nat) : ∀ R : List (Int × Int), (pushL R r).length ≤ 2 * R.length
  | [] => by simp [pushL]
  | z :: R => by
    have h1 := pushF_len r z
    have h2 := pushL_len r R
    rw [pushL] at h2 ⊢
    rw [List.flatMap_cons, List.length_append, List.length_cons]; omega

/-- What has been found, and what is still to be looked at. -/
structure Bfs (E : Nat → Nat → Bool) (n r : Nat) (found work : List Nat) : Prop where
  nodup : found.Nodup
  reach : ∀ x, x ∈ found ∨ x ∈ work → Reach E r x
  start : r ∈ found ∨ r ∈ work
  closed : ∀ x ∈ found, ∀ y, E x y = true → y ∈ found ∨ y ∈ work
  bound : ∀ x, x ∈ found ∨ x ∈ work → x < n
theorem Bfs.init {E : Nat → Nat → Bool} {n r : Nat} (hr : r < n) : Bfs E n r [] [r] :=
  ⟨List.nodup_nil, fun x h => by rcases h with h | h <;> simp at h; subst h; exact .refl, .inr (by simp), fun x h => absurd h (by simp), fun x h => by rcases h with h | h <;> simp at h; subst h; exact hr⟩
theorem Bfs.skip {E : Nat → Nat → Bool} {n r x : Nat} {found work : List Nat} (h : Bfs E n r found (x :: work)) (hx : x ∈ found) : Bfs E n r found work :=
  ⟨h.nodup, fun y hy => h.reach y (hy.imp id (List.mem_cons_of_mem _)), by
    rcases h.start with h1 | h1
    · exact .inl h1
    · rcases List.mem_cons.1 h1 with e | e
      · rw [e]; exact .inl hx
      · exact .inr e, fun y hy z hz => by
    rcases h.closed y hy z hz with h1 | h1
    · exact .inl h1
    · rcases List.mem_cons.1 h1 with e | e
      · rw [e]; exact .inl hx
      · exact .inr e, fun y hy => h.bound y (hy.imp id (List.mem_cons_of_mem _))⟩
theorem Bfs.take {R : List (Int × Int)} {n r x : Nat} {found work : List Nat} (h : Bfs (edge R) n r found (x :: work)) (hx : x ∉ found) (hb : ∀ a b, edge R a b = true → b < n) : Bfs (edge R) n r (found ++ [x]) (work ++ pushL R x) := by
  have key : ∀ y, y ∈ found ∨ y ∈ x :: work → y ∈ found ++ [x] ∨ y ∈ work ++ pushL R x := fun y hy => by
    simp only [List.mem_append, List.mem_cons, List.not_mem_nil, or_false] at hy ⊢
    rcases hy with hy | hy | hy
    · exact .inl (.inl hy)
    · exact .inl (.inr hy)
    · exact .inr (.inl hy)
  refine ⟨?_, fun y hy => ?_, key _ h.start, fun y hy z hz => ?_, fun y hy => ?_⟩
  · rw [List.nodup_append]
    exact ⟨h.nodup, by simp, fun a ha b hb => by rw [List.mem_singleton] at hb; rintro rfl; rw [hb] at ha; exact hx ha⟩
  · simp only [List.mem_append, List.mem_cons, List.not_mem_nil, or_false] at hy
    rcases hy with (hy | hy) | hy | hy
    · exact h.reach y (.inl hy)
    · subst hy; exact h.reach y (.inr (by simp))
    · exact h.reach y (.inr (by simp [hy]))
    · exact (h.reach x (.inr (by simp))).tail (mem_pushL.1 hy)
  · rw [List.mem_append, List.mem_singleton] at hy
    rcases hy with hy | rfl
    · exact key z (h.closed y hy z hz)
    · exact .inr (List.mem_append_right _ (mem_pushL.2 hz))
  · simp only [List.mem_append, List.mem_cons, List.not_mem_nil, or_false] at hy
    rcases hy with (hy | hy) | hy | hy
    · exact h.bound y (.inl hy)
    · subst hy; exact h.bound y (.inr (by simp))
    · exact h.bound y (.inr (by simp [hy]))
    · exact hb _ _ (mem_pushL.1 hy)
theorem Bfs.done {E : Nat → Nat → Bool} {n r : Nat} {found : List Nat} (h : Bfs E n r found []) : ∀ x, x ∈ found ↔ Reach E r x := fun x => by
  refine ⟨fun hx => h.reach x (.inl hx), fun hr => ?_⟩
  induction hr with
  | refl => rcases h.start with h1 | h1; exact h1; exact absurd h1 (by simp)
  | tail _ h2 ih => rcases h.closed _ ih _ h2 with h1 | h1; exact h1; exact absurd h1 (by simp)

/-- How many are not yet found. -/
def missing (n : Nat) (found : List Nat) : Nat := (List.range n).countP fun x => !found.contains x
theorem countP_lt {p q : Nat → Bool} : ∀ {l : List Nat} {x : Nat}, (∀ y ∈ l, q y = true → p y = true) → x ∈ l → p x = true → q x = false → l.countP q < l.countP p
  | y :: l, x, h, hx, hp, hq => by
    have hle : l.countP q ≤ l.countP p := List.countP_mono_left fun z hz hz' => h z (List.mem_cons_of_mem _ hz) hz'
    rw [List.countP_cons, List.countP_cons]
    rcases List.mem_cons.1 hx with rfl | hx
    · rw [hp, hq]; simp; omega
    · have ih := countP_lt (fun z hz => h z (List.mem_cons_of_mem _ hz)) hx hp hq
      have h0 := h y (by simp)
      cases hqy : q y
      · simp; split <;> omega
      · rw [h0 hqy]; simp; omega
theorem missing_lt {n x : Nat} {found : List Nat} (hx : x ∉ found) (hn : x < n) : missing n (found ++ [x]) < missing n found := by
  refine countP_lt (x := x) (fun y _ hy => ?_) (List.mem_range.2 hn) (by simpa using hx) (by simp)
  simp only [List.contains_append, Bool.not_eq_true', Bool.or_eq_false_iff] at hy ⊢
  exact hy.1
theorem missing_le (n : Nat) (found : List Nat) : missing n found ≤ n := by
  have := List.countP_le_length (p := fun x => !found.contains x) (l := List.range n)
  rwa [List.length_range] at this

theorem upL_strict (E : Nat → Nat → Bool) (n r : Nat) : ((upL E n r).map fun (x : Nat) => (x : Int)).Pairwise (· < ·) := by
  rw [List.pairwise_map]
  have h : (List.range n).Pairwise (· < ·) := List.pairwise_lt_range
  exact (List.Pairwise.filter _ h).imp (fun {a b} h => by omega)
/-- Sorted, what has been found is what lies above. -/
theorem sorted_upL {E : Nat → Nat → Bool} {n r : Nat} {found : List Nat} (h : Bfs E n r found []) (hb : ∀ x y, E x y = true → x < n) : (found.map fun (x : Nat) => (x : Int)).mergeSort (fun x y => decide (x ≤ y)) = (upL E n r).map fun (x : Nat) => (x : Int) := by
  have hp := List.mergeSort_perm (found.map fun (x : Nat) => (x : Int)) (fun x y => decide (x ≤ y))
  have hs : ((found.map fun (x : Nat) => (x : Int)).mergeSort (fun x y => decide (x ≤ y))).Pairwise (fun a b => decide (a ≤ b) = true) := List.pairwise_mergeSort (fun a b c h1 h2 => by simp at *; omega) (fun a b => by simp; omega) _
  have hn : ((found.map fun (x : Nat) => (x : Int)).mergeSort (fun x y => decide (x ≤ y))).Pairwise (· ≠ ·) := by
    have : (found.map fun (x : Nat) => (x : Int)).Pairwise (· ≠ ·) := by
      rw [List.pairwise_map]; exact h.nodup.imp (fun {a b} hab e => hab (by omega))
    exact (hp.pairwise_iff (fun {a b} h => Ne.symm h)).2 this
  refine strict_eq ((hs.and hn).imp (fun {a b} h => by have := of_decide_eq_true h.1; have := h.2; omega)) (upL_strict E n r) fun x => ?_
  rw [hp.mem_iff, List.mem_map, List.mem_map]
  refine exists_congr fun y => and_congr ?_ Iff.rfl
  rw [h.done, mem_upL, fw_reach hb]
  exact ⟨fun k => ⟨h.bound y (.inl ((h.done y).2 k)), k⟩, fun k => k.2⟩
end Go.Proofs.YtndkcimajeofcaaGreatDoor
