import Derived.Test.YtdfghgcfihhmjaaDoorIns
import Derived.Test.YtdfghgcfihhmjaaDoorInts
namespace Go
/-- AT A STEP OF A REGION THAT DRAWS: an append to a row of one's own, of nothing too. -/
theorem step_append_at {P : Program} (w : World) {ops : Array Oper} {o : Oper} {a : Act} {K : Act → World → Prop} {Q : Exit → Act → World → Prop} {E : Prop} (hgd : o.guard = none) (s x : Operand) (t : TypeId)
    (ho : o.op = .call { callee := .builtin .append, args := #[s, x], argTypes := #[t, t] })
    (base : Nat) (e : TypeId) (i : TypeInfo) (z : Value) (size bytes : Nat) (ht : P.underlying t = some (.slice e)) (hi : P.info? e = some i) (hz : i.zero = some z)
    (hsize : i.size = size) (hby : i.bytes = bytes) (hzs : z.cells.size = size) (hsz : 0 < size)
    (v : Value) (n : Nat) (xs : List Value) (hs : a.eval s = v) (hown : w.ownsRow base e size v n xs)
    (ad : Addr) (m c : Nat) (news : List Value) (hx : a.eval x = .slice (some ad) m c) (hl : news.length = m * size) (hnews : ∀ j u, news[j]? = some u → w.cell? (ad.add j) = some u) (h1 : ∀ u ∈ news, u.oneCell' = true)
    (h63 : n + m ≤ maxLen) (hbytes : (n + m) * bytes ≤ 140737488355328) (hbase : base ≤ w.heap.size)
    (h : ∀ v' w', w'.ownsRow base e size v' (n + m) (xs ++ news) → w.grownBy w' v.ownBlock → (v'.ownBlock = v.ownBlock ∨ v'.ownBlock = some w.heap.size) → K (a.put o.dst v') w') :
    if Region.wanted o (yielded ops a.tmps) = true then Oper.wp P o a w K Q else E := by
  have hw : Region.wanted o (yielded ops a.tmps) = true := by simp [Region.wanted, hgd]
  rw [if_pos hw]
  obtain ⟨v', w', hr, h2, h3, _, h5⟩ := run_append_own_at (P := P) w base t o.type e i z size bytes ht hi hz hsize hby hzs hsz v n xs hown ad m c news hl hnews h1 h63 hbytes hbase
  unfold Oper.wp execOp
  simp only [ho, resolve, invoke, builtin, Sem.run_bind, Sem.run_pure, Result.andThen_ok, List.map_toArray, List.map_cons, List.map_nil, hs, hx, hr]
  exact h v' w' h2 h3 h5
end Go
namespace Go.Proofs.YtdfghgcfihhmjaaDoor
open Go.RowKit

theorem insL_hit {n : Int} : ∀ {xs : List Int} {k : Nat} (hk : k < xs.length), (∀ j (hj : j < xs.length), j < k → xs[j] < n) → xs[k] = n → insL xs n = xs
  | x :: r, 0, _, _, h => by rw [insL, if_pos (by simpa using h)]
  | x :: r, k + 1, hk, ha, h => by
    have h0 := ha 0 (by simp) (by omega)
    simp only [List.getElem_cons_zero] at h0
    rw [insL, if_neg (by omega), if_neg (by omega), insL_hit (k := k) (by simpa using hk) (fun j hj hjk => ha (j + 1) (by simpa using hj) (by omega)) (by simpa using h)]
theorem insL_mid {n : Int} : ∀ {xs : List Int} {k : Nat} (hk : k < xs.length), (∀ j (hj : j < xs.length), j < k → xs[j] < n) → n < xs[k] → insL xs n = xs.take k ++ [n] ++ xs.drop k
  | x :: r, 0, _, _, h => by
    simp only [List.getElem_cons_zero] at h
    rw [insL, if_neg (by omega), if_pos h]; rfl
  | x :: r, k + 1, hk, ha, h => by
    have h0 := ha 0 (by simp) (by omega)
    simp only [List.getElem_cons_zero] at h0
    rw [insL, if_neg (by omega), if_neg (by omega), insL_mid (k := k) (by simpa using hk) (fun j hj hjk => ha (j + 1) (by simpa using hj) (by omega)) (by simpa using h)]
    rfl
theorem insL_end {n : Int} : ∀ {xs : List Int}, (∀ j (hj : j < xs.length), xs[j] < n) → insL xs n = xs ++ [n]
  | [], _ => rfl
  | x :: r, ha => by
    have h0 := ha 0 (by simp)
    simp only [List.getElem_cons_zero] at h0
    rw [insL, if_neg (by omega), if_neg (by omega), insL_end (fun j hj => ha (j + 1) (by simpa using hj))]
    rfl

/-- What Insert hands back. -/
def RetIns (base : Nat) (v : Value) (l : List Int) (w : World) (e : Ending) (w' : World) : Prop :=
  ∃ v', e = .returned v' ∧ w'.ownsRow base 3 1 v' l.length (intCells l) ∧ w.grownBy w' v.ownBlock ∧ (v'.ownBlock = v.ownBlock ∨ ∃ g, v'.ownBlock = some g ∧ w.heap.size ≤ g ∧ g < w'.heap.size)

set_option maxRecDepth 100000 in
set_option maxHeartbeats 4000000 in
theorem Insert_any {base : Nat} (v : Value) (xs : List Int) (n : Int) (w : World) (h : w.ownsRow base 3 1 v xs.length (intCells xs)) (hb : base ≤ w.heap.size) (hl : xs.length ≤ 1000000) :
    Calls Tryd.prog 84 #[v, .int .i64 n] w (RetIns base v (insL xs n) w) := by
  obtain ⟨i0, hi, hz0, hz1, hz2⟩ := info_parts int_info
  obtain ⟨A, c, rfl, hl1, hc1⟩ := row_cells h
  have hgr : w.grownBy w (Value.slice A xs.length c).ownBlock := ⟨rfl, rfl, rfl, Nat.le_refl _, fun _ _ _ => rfl⟩
  go_enter Tryd.func84, Tryd.ntmps84
  go_wp2_with fail
  go_loop [9] (fun i => ∃ k : Nat, k ≤ xs.length ∧ i = .int .i64 k ∧ ∀ j (hj : j < xs.length), j < k → xs[j] < n) (fun i => xs.length - (intOf i).toNat)
  case atStart => exact ⟨0, Nat.zero_le _, rfl, fun j _ h => absurd h (by omega)⟩
  case round =>
    obtain ⟨k, hk, rfl, hall⟩ := hrel
    have HA := Lib.hid hall
    clear hall
    by_cases hlt : k < xs.length
    · obtain ⟨g, rfl, hgb, hg, hcg⟩ := hc1 (by omega)
      have e1 := hcg k hlt
      have hcap := (show xs.length ≤ c by rcases h.2 with ⟨hv, _⟩ | ⟨g', cap', cur, hv, hge, hheap, hlen, hcap, hsize, htake⟩; (cases hv); (cases hv; exact hlen))
      have h0I : (0 : Int) ≤ k := by omega
      have hlI : (k : Int) < xs.length := by omega
      by_cases heq : xs[k] = n
      · have HF := Lib.hid (insL_hit hlt HA.out heq)
        have hb1 : (xs[k] == n) = true := by simpa using heq
        go_wp2
        go_ret
        rw [HF.out]
        exact ⟨_, rfl, h, hgr, .inl rfl⟩
      · have hb1 : (xs[k] == n) = false := by simpa using heq
        by_cases hgt : n < xs[k]
        · have HF := Lib.hid (insL_mid hlt HA.out hgt)
          have hcm : c ≤ 9223372036854775807 := by
            rcases h.2 with ⟨hv, _⟩ | ⟨g', cap', cur, hv, hge, hheap, hlen, hcap, hsize, htake⟩
            · cases hv
            · cases hv; unfold maxLen at hcap; omega
          have hgc : (xs[k] > n) := hgt
          generalize xs[k] = z at e1 heq hb1 hgt hgc
          have HG : ∀ (W' : World), Below w.heap.size w W' → ∀ (a m : Nat), a + m ≤ xs.length → ∀ j u, (intCells ((xs.drop a).take m))[j]? = some u → W'.cell? ((⟨g, a, none⟩ : Addr).add j) = some u := fun W' hb a m ham j u hu => by
            have hadd : (⟨g, a, none⟩ : Addr).add j = ⟨g, a + j, none⟩ := by unfold Addr.add; split <;> simp_all
            rw [intCells, List.getElem?_map, List.getElem?_take] at hu
            split at hu
            · rw [List.getElem?_drop, List.getElem?_eq_getElem (by omega)] at hu
              rw [hadd, hb.cell (p := ⟨g, a + j, none⟩) hg, hcg (a + j) (by omega)]
              exact hu
            · simp at hu
          clear hcg hc1
          have hone : ∀ l : List Int, ∀ u ∈ intCells l, u.oneCell' = true := fun l u hu => by
            obtain ⟨z', -, rfl⟩ := List.mem_map.1 hu
            rfl
          have hbd : Below w.heap.size w w.drew := (Below.refl _ _).drew
          have hbda : Below w.heap.size w (w.drew.alloc (.cells #[.int .i64 n] 3)) := hbd.alloc (by simp) _
          have hnilOwn : ∀ W' : World, W'.ownsRow base 3 1 (.slice none 0 0) 0 (intCells []) := fun W' => ⟨rfl, .inl ⟨rfl, rfl⟩⟩
          have hk1 : (intCells ((xs.drop 0).take k)).length = k * 1 := by simp [intCells]; omega
          have hk3 : (intCells ((xs.drop k).take (xs.length - k))).length = (xs.length - k) * 1 := by simp [intCells]
          have hFc : intCells (xs.take k ++ [n] ++ xs.drop k) = intCells [] ++ intCells ((xs.drop 0).take k) ++ [.int .i64 n] ++ intCells ((xs.drop k).take (xs.length - k)) := by
            rw [List.take_of_length_le (by simp : (xs.drop k).length ≤ xs.length - k), List.drop_zero]
            simp [intCells]
          have hFl : (xs.take k ++ [n] ++ xs.drop k).length = 0 + k + 1 + (xs.length - k) := by simp; omega
          have HFc := Lib.hid hFc
          have HFl := Lib.hid hFl
          clear hFc hFl
          have hkc : k ≤ c := by omega
          have hck : ¬ c = k := by omega
          go_wp2_with fail
          go_region_law (first
            | (refine step_append_at w2 (by rfl) _ _ _ (by rfl) base 3 i0 _ 1 8 Tryd.underlying45 hi hz0 hz1 hz2 rfl (by omega) v2 (0 + k + 1) _ (by rfl) hown2 ⟨g, k, none⟩ (xs.length - k) (c - k) (intCells ((xs.drop k).take (xs.length - k))) (by rfl) hk3 (HG _ hb2 k (xs.length - k) (by omega)) (hone _) (by unfold maxLen; omega) (by omega) (by have := hb2.size; omega) ?_; intro v3 w3 hown3 hg3 hat3; have hb3 : Below w.heap.size w w3 := hb2.grown hg3 hb2.size hlow2; have hlow3 : ∀ k, v3.ownBlock = some k → w.heap.size ≤ k := (fun k e => by have := hb2.size; rcases hat3 with e' | e'; exact hlow2 k (e'.symm.trans e); rw [e'] at e; cases e; omega))
            | (refine step_append_at (w1.alloc (.cells #[.int .i64 n] 3)) (by rfl) _ _ _ (by rfl) base 3 i0 _ 1 8 Tryd.underlying45 hi hz0 hz1 hz2 rfl (by omega) v1 (0 + k) _ (by rfl) (owns_below hown1 ((Below.refl _ w1).alloc (Nat.le_refl _) _)) ⟨w1.heap.size, 0, none⟩ 1 1 [.int .i64 n] (by rfl) (by rfl) (World.news_of_block (cs := #[.int .i64 n]) (t := 3) (fr := (0, 0)) (heap_alloc_new w1 _)) (by simp [Value.oneCell']) (by unfold maxLen; omega) (by omega) (by have := hb1.size; simp; omega) ?_; intro v2 w2 hown2 hg2 hat2; have hb2 : Below w.heap.size w w2 := (hb1.alloc hb1.size _).grown hg2 (by have := hb1.size; simp; omega) hlow1; have hlow2 : ∀ k, v2.ownBlock = some k → w.heap.size ≤ k := (fun k e => by have := hb1.size; rcases hat2 with e' | e'; exact hlow1 k (e'.symm.trans e); rw [e'] at e; simp at e; omega))
            | (refine step_append_at w1 (by rfl) _ _ _ (by rfl) base 3 i0 _ 1 8 Tryd.underlying45 hi hz0 hz1 hz2 rfl (by omega) v1 (0 + k) _ (by rfl) hown1 ⟨w.heap.size, 0, none⟩ 1 1 [.int .i64 n] (by rfl) (by rfl) (World.news_of_block (cs := #[.int .i64 n]) (t := 3) (fr := (0, 0)) htmp) (by simp [Value.oneCell']) (by unfold maxLen; omega) (by omega) (by have := hb1.size; omega) ?_; intro v2 w2 hown2 hg2 hat2; have hb2 : Below w.heap.size w w2 := hb1.grown hg2 hb1.size hlow1; have hlow2 : ∀ k, v2.ownBlock = some k → w.heap.size ≤ k := (fun k e => by have := hb1.size; rcases hat2 with e' | e'; exact hlow1 k (e'.symm.trans e); rw [e'] at e; cases e; omega))
            | (refine step_append_at w.drew (by rfl) _ _ _ (by rfl) base 3 i0 _ 1 8 Tryd.underlying45 hi hz0 hz1 hz2 rfl (by omega) (.slice none 0 0) 0 (intCells []) (by rfl) (hnilOwn _) ⟨g, 0, none⟩ k c (intCells ((xs.drop 0).take k)) (by rfl) hk1 (HG _ hbd 0 k (by omega)) (hone _) (by unfold maxLen; omega) (by omega) (by have := hbd.size; omega) ?_; intro v1 w1 hown1 hg1 hat1; have hb1 : Below w.heap.size w w1 := hbd.grown hg1 hbd.size (fun k e => by cases e); have hlow1 : ∀ k, v1.ownBlock = some k → w.heap.size ≤ k := (fun k e => by rcases hat1 with e' | e'; (rw [e'] at e; cases e); (rw [e'] at e; cases e; exact hbd.size)))
            | (refine step_append_at (w.drew.alloc (.cells #[.int .i64 n] 3)) (by rfl) _ _ _ (by rfl) base 3 i0 _ 1 8 Tryd.underlying45 hi hz0 hz1 hz2 rfl (by omega) (.slice none 0 0) 0 (intCells []) (by rfl) (hnilOwn _) ⟨g, 0, none⟩ k c (intCells ((xs.drop 0).take k)) (by rfl) hk1 (HG _ hbda 0 k (by omega)) (hone _) (by unfold maxLen; omega) (by omega) (by have := hbda.size; omega) ?_; intro v1 w1 hown1 hg1 hat1; have hb1 : Below w.heap.size w w1 := hbda.grown hg1 hbda.size (fun k e => by cases e); have hlow1 : ∀ k, v1.ownBlock = some k → w.heap.size ≤ k := (fun k e => by have := hbda.size; rcases hat1 with e' | e'; (rw [e'] at e; cases e); (rw [e'] at e; cases e; omega)); have htmp : w1.heap[w.heap.size]? = some (.cells #[.int .i64 n] 3) := (hg1.block w.heap.size (by simp) (by simp [Value.ownBlock])).trans (heap_alloc_new w.drew _)))
          all_goals
            go_wp2_with fail
            go_ret
            rw [HF.out]
            refine ⟨v3, rfl, by rw [HFc.out, HFl.out]; exact hown3, grown_below hb3, .inr ?_⟩
            obtain ⟨g3, cap3, rfl, -, hg3lt⟩ := hown3.form (by omega)
            exact ⟨g3, rfl, hlow3 g3 rfl, hg3lt⟩
        · have HN := Lib.hid (show ∀ j (hj : j < xs.length), j < k + 1 → xs[j] < n from fun j hj hjk => by
            by_cases e : j = k
            · subst e; omega
            · exact HA.out j hj (by omega))
          go_wp2
          go_round
          case rel => exact ⟨k + 1, by omega, by go_num, HN.out⟩
          case measure => simp [intOf]; omega
    · have HF := Lib.hid (insL_end (fun j hj => HA.out j hj (by omega)))
      clear hc1
      have hown0 := owns_below h ((Below.refl w.heap.size w).alloc (Nat.le_refl _) (.cells #[.int .i64 n] 3))
      go_wp2_with (at_builtin; refine wpList_append_own_at _ rfl _ _ 45 rfl base 3 i0 _ 1 8 Tryd.underlying45 hi hz0 hz1 hz2 rfl (by omega) (.slice A xs.length c) xs.length (intCells xs) rfl hown0 ⟨w.heap.size, 0, none⟩ 1 1 [.int .i64 n] rfl rfl (World.news_of_block (cs := #[.int .i64 n]) (t := 3) (fr := (0, 0)) (heap_alloc_new w _)) (by simp [Value.oneCell']) (by unfold maxLen; omega) (by omega) (by simp; omega) ?_; intro v2 w2 hown2 hg2 _ hat2)
      go_ret
      rw [HF.out]
      refine ⟨_, rfl, by rw [List.length_append, intCells, List.map_append]; exact hown2, grown_trans (grown_below ((Below.refl w.heap.size w).alloc (Nat.le_refl _) _)) hg2, ?_⟩
      rcases hat2 with e | e
      · exact .inl e
      · exact .inr ⟨_, e, by simp, (own_lt hown2 e).2⟩
end Go.Proofs.YtdfghgcfihhmjaaDoor
