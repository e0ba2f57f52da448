import Derived.Test.YtndkcimajeofcaaGreatDoorG3f72569f4a
import Derived.Deep.RegionHeldLaw
import Derived.Deep.RegionHeld3
import Derived.Deep.DrawnRows
namespace Go.Proofs.YtndkcimajeofcaaGreatDoor
open Go.RowKit
attribute [local go_sem ↓] Go.wp_at_zero Go.wp_at_succ

/-- The marks behind 'add'. -/
def addT (n : NM) (Ts : List MT) (T : MT) : List MT := if (look (Ts.map (strT n)) (strT n T)).isSome then Ts else Ts ++ [T]
theorem addT_tr (n : NM) (Ts : List MT) (T : MT) : (addT n Ts T).map MT.tr = addK n.C.l n.R.l (Ts.map MT.tr) T.tr := by
  unfold addT addK
  have : Ts.map (strT n) = (Ts.map MT.tr).map (Tr.str n.C.l n.R.l) := by rw [List.map_map]; rfl
  rw [this]
  show (if (look _ (T.tr.str n.C.l n.R.l)).isSome = true then Ts else Ts ++ [T]).map MT.tr = _
  split <;> simp
theorem row_val {w : World} {base n sz : Nat} {e : TypeId} {v : Value} {xs : List Value} (h : w.ownsRow base e sz v n xs) : ∃ A c, v = .slice A n c ∧ n ≤ c ∧ c ≤ 9223372036854775807 := by
  rcases h.2 with ⟨rfl, h0⟩ | ⟨g, cap, cur, rfl, hge, hheap, hlen, hcap, hsize, htake⟩
  · subst h0; exact ⟨none, 0, rfl, Nat.le_refl _, by omega⟩
  · unfold maxLen at hcap; exact ⟨_, _, rfl, hlen, hcap⟩

set_option maxRecDepth 100000 in
set_option maxHeartbeats 8000000 in
theorem add_any {n₀ tb mb lo : Nat} {n : NM} {s0 s1 s2 s3 ov : Value} {w : World} {v : Value} {Ts : List MT} (ht : Tab n₀ tb mb lo n s0 s1 s2 s3 ov w v Ts) (hG : G w) (hn : n.In w.heap.size w) (T : MT) (hT : New lo w T) (hoff : MT.All (fun b => some b ≠ v.ownBlock) T)
    (hb : NmB n) (hp : Pr n T) (hl : Ts.length ≤ 1000) :
    Calls Tryz.prog 109 #[.pointer (some ⟨tb, 0, none⟩), T.val] w fun e w' => (∃ r, e = .returned r) ∧ ∃ v', Tab n₀ tb mb lo n s0 s1 s2 s3 ov w' v' (addT n Ts T) ∧ KT n₀ tb mb w w' := by
  obtain ⟨W1, hW1, hB1, hs1, hk1⟩ := newBlk w _ rfl #[.int .i64 T.op, .int .i64 T.n, .slice T.A T.args.length T.c] 33
  have htl : tb < w.heap.size := (Array.getElem?_eq_some_iff.1 ht.box).1
  obtain ⟨⟨c0, c1, c2⟩, -⟩ := res3 hk1
  have hpl := placeOf_any (S := Ts.map (strT n)) T W1 (hG.later hB1) (hn.later hB1) (hT.1.later hB1) hb hp (ht.later hB1).box (ht.later hB1).map
  rcases hk : (look (Ts.map (strT n)) (strT n T)).isSome
  · obtain ⟨A, c, hv, hlc, hcc⟩ := row_val ht.coll.own
    have hlk : look (Ts.map (strT n)) (strT n T) = none := by
      cases h : look (Ts.map (strT n)) (strT n T) with
      | none => rfl
      | some j => rw [h] at hk; cases hk
    have hA : addT n Ts T = Ts ++ [T] := by rw [addT, hk]; rfl
    rw [hk] at hpl
    rw [hA]
    subst hv
    have hS : ∀ w', Below W1.heap.size W1 w' → (w'.cell? ⟨tb, 4, none⟩ = some (.map (some mb)) ∧ w'.cell? ⟨tb, 0, none⟩ = some (.slice n.C.A n.C.l.length n.C.c) ∧ w'.cell? ⟨tb, 1, none⟩ = some (.slice n.R.A n.R.l.length n.R.c) ∧ w'.cell? ⟨tb, 2, none⟩ = some (.slice n.I.A n.I.l.length n.I.c) ∧ w'.cell? ⟨tb, 3, none⟩ = some (.slice A Ts.length c)) ∧ (w'.cell? ⟨w.heap.size, 0, none⟩ = some (.int .i64 T.op) ∧ w'.cell? ⟨w.heap.size, 1, none⟩ = some (.int .i64 T.n) ∧ w'.cell? ⟨w.heap.size, 2, none⟩ = some (.slice T.A T.args.length T.c)) := fun w' hb' => by
      have h1 := blk_lat0 (blk_lat0 ht.box hB1) hb'
      have h2 := blk_lat0 hk1 hb'
      exact ⟨⟨cell_of_blk h1 4, cell_of_blk h1 0, cell_of_blk h1 1, cell_of_blk h1 2, cell_of_blk h1 3⟩, cell_of_blk h2 0, cell_of_blk h2 1, cell_of_blk h2 2⟩
    have hst := fun w' (hb' : Below W1.heap.size W1 w') => tString_any n T w' ((hG.later hB1).later hb') ((hn.later hB1).later hb') ((hT.1.later hB1).later hb') hb hp
    have HS := Lib.hid hS
    have HST := Lib.hid hst
    have HT := Lib.hid ht
    have HNEW := Lib.hid hT
    have HOFF := Lib.hid hoff
    have HB1 := Lib.hid hB1
    have HK1 := Lib.hid hk1
    have HLK := Lib.hid hlk
    have HPL := Lib.hid hp.len
    have hlw : ((Ts.map (strT n)).length : Int) = (Ts.length : Int) := by rw [List.length_map]
    have h3 := ht.h3
    have h1lo := ht.h1
    have ntm : some tb ≠ some mb := fun e => ht.ne (Option.some.inj e)
    have nwm : some w.heap.size ≠ some mb := fun e => by have := Option.some.inj e; have := ht.h2; omega
    simp only [NM.val, MT.val] at hpl HST ⊢
    clear hS hst ht hT hoff hB1 hk1 hlk hk hA hG hn hb hp
    go_enter Tryz.func109, Tryz.ntmps109
    go_wp2_with (go_at_call 117; refine hpl.mono ?_; clear hpl; rintro e w4 ⟨rfl, hb4⟩)
    have hd4 : Below W1.heap.size W1 w4.drew := hb4.drew
    clear c0 c1 c2
    obtain ⟨i0, hi, hz0, hz1, hz2⟩ := info_parts con_info
    go_region_held_law (fun w' => (w'.cell? ⟨tb, 4, none⟩ = some (.map (some mb)) ∧ w'.cell? ⟨tb, 0, none⟩ = some (.slice n.C.A n.C.l.length n.C.c) ∧ w'.cell? ⟨tb, 1, none⟩ = some (.slice n.R.A n.R.l.length n.R.c) ∧ w'.cell? ⟨tb, 2, none⟩ = some (.slice n.I.A n.I.l.length n.I.c) ∧ w'.cell? ⟨tb, 3, none⟩ = some (.slice A Ts.length c)) ∧ (w'.cell? ⟨w.heap.size, 0, none⟩ = some (.int .i64 T.op) ∧ w'.cell? ⟨w.heap.size, 1, none⟩ = some (.int .i64 T.n) ∧ w'.cell? ⟨w.heap.size, 2, none⟩ = some (.slice T.A T.args.length T.c)))
      (first | exact HS.out _ hd4 | exact HS.out _ hb5 | exact HX6.out)
      (first
        | (go_at_call 153; refine (HST.out w4.drew hd4).mono ?_; rintro e w5 ⟨rfl, hb5'⟩; have hb5 : Below W1.heap.size W1 w5 := hd4.trans (hb5'.mono hd4.size); obtain ⟨w6, hrun6, hm6, hg6⟩ := ((HT.out.later HB1.out).map.later hb5).store (c := Ts.length) (by omega) (strT n T) HPL.out (by rw [List.length_map]) (by omega) HLK.out; have hq5 := HS.out w5 hb5; have HX6 := Lib.hid (And.intro (And.intro (hg6.cell hq5.1.1 ntm) (And.intro (hg6.cell hq5.1.2.1 ntm) (And.intro (hg6.cell hq5.1.2.2.1 ntm) (And.intro (hg6.cell hq5.1.2.2.2.1 ntm) (hg6.cell hq5.1.2.2.2.2 ntm))))) (And.intro (hg6.cell hq5.2.1 nwm) (And.intro (hg6.cell hq5.2.2.1 nwm) (hg6.cell hq5.2.2.2 nwm)))); clear hq5))
    have z4 := hb5.size
    have z6 := hg6.size
    have hb56 : Below w.heap.size w w5 := HB1.out.trans (hb5.mono (by omega))
    have hrow6 : w6.ownsRow lo 33 3 (.slice A Ts.length c) Ts.length (Ts.flatMap MT.cs) := owns_grown (owns_below HT.out.coll.own hb56) hg6 (by
      by_cases hv : (Value.slice A Ts.length c).ownBlock = none
      · exact .inr hv
      · refine .inl fun e => ?_
        have := (own_lt HT.out.coll.own e).1
        have := HT.out.h2
        omega)
    have hb6 : w6.heap[tb]? = some (.cells #[.slice n.C.A n.C.l.length n.C.c, .slice n.R.A n.R.l.length n.R.c, .slice n.I.A n.I.l.length n.I.c, .slice A Ts.length c, .map (some mb), s0, s1, s2, s3, ov] 164) := (hg6.block tb (by omega) ntm).trans (blk_lat0 HT.out.box hb56)
    have hx6 : w6.heap[w.heap.size]? = some (.cells #[.int .i64 T.op, .int .i64 T.n, .slice T.A T.args.length T.c] 33) := (hg6.block w.heap.size (by omega) nwm).trans (blk_lat0 HK1.out hb5)
    have HB6 := Lib.hid hb6
    have HR6 := Lib.hid hrow6
    have HX := Lib.hid hx6
    have HM6 := Lib.hid hm6
    clear hrow6 hb6 hx6 hm6 hrun6 HX6
    go_wp2_with fail
    refine Code.wp_mono (fun e a W9 h => ?_) (addR_post tb w.heap.size (.slice A Ts.length c) Ts T w6 HB6.out HR6.out HX.out h1lo (by omega) (by omega) _ _ _ _ _ _ _ _ _ _ _ _ _ _ _ _ _ _ _ _ _ _ _ _ _ _ _ _ _ _ _ _ _ _ _ _ _ _)
    obtain ⟨rfl, hdf, W7, w8, g, cap, h7, hown8, hg8, hat8, hlt8, hW9⟩ := h
    obtain ⟨q1, q2⟩ := add_end HT.out HNEW.out HOFF.out hb56 hg6 HM6.out ((Below.refl _ w6).drew.trans h7) hown8 hg8 hat8 hlt8 hW9
    clear hW9
    have q3 : KT n₀ tb mb w W9 := q2
    obtain ⟨tm, df⟩ := a
    dsimp only at hdf
    subst hdf
    go_end0
    exact ⟨⟨_, rfl⟩, _, q1, q2⟩
  · have hA : addT n Ts T = Ts := by rw [addT, hk]; rfl
    rw [hk] at hpl
    rw [hA]
    have HT := Lib.hid ht
    have HB1 := Lib.hid hB1
    simp only [MT.val] at hpl ⊢
    clear ht hT hoff hB1 hk hA hG hn hb hp
    go_enter Tryz.func109, Tryz.ntmps109
    go_wp2_with (go_at_call 117; refine hpl.mono ?_; clear hpl; rintro e w4 ⟨rfl, hb4⟩)
    go_end0
    have hb := HB1.out.trans (hb4.mono (by omega))
    exact ⟨⟨_, rfl⟩, v, HT.out.later hb, KT.of_below hb (by have := HT.out.h3; have := HT.out.h1; have := HT.out.h0; omega) htl⟩
end Go.Proofs.YtndkcimajeofcaaGreatDoor

namespace Go.Proofs.YtndkcimajeofcaaGreatDoor
open Go.RowKit
attribute [local go_sem ↓] Go.wp_at_zero Go.wp_at_succ

/-- How many marks there may be ahead of a node. -/
def mostN (pre : List MT) : Nat := if pre.isEmpty then 100 else 8
theorem mostN_le (pre : List MT) : mostN pre ≤ 100 := by unfold mostN; split <;> omega
theorem mostN_snoc (pre : List MT) (x : MT) : mostN (pre ++ [x]) = 8 := by unfold mostN; simp
/-- What holds ahead of a node while marks are collected: cb is the box of the variable t. -/
structure JM (n₀ tb mb lo cb : Nat) (n : NM) (s0 s1 s2 s3 ov : Value) (L0 : List Tr) (pre : List MT) (W : World) : Prop where
  tab : ∃ v Ts, Tab n₀ tb mb lo n s0 s1 s2 s3 ov W v Ts ∧ Ts.map MT.tr = (pre.map MT.tr).foldl (colK n.C.l n.R.l) L0 ∧ Ts.length ≤ mostN pre
  box : W.heap[cb]? = some (.cells #[.pointer (some ⟨tb, 0, none⟩)] 116)
  ct : cb ≠ tb
  cm : cb ≠ mb
  cl : cb < lo
/-- .. and behind the node that was one too many. -/
def JX (n₀ tb mb lo : Nat) (n : NM) (s0 s1 s2 s3 ov : Value) (L0 : List Tr) (pre : List MT) (W : World) : Prop :=
  ∃ v Ts, Tab n₀ tb mb lo n s0 s1 s2 s3 ov W v Ts ∧ Ts.map MT.tr = (pre.map MT.tr).foldl (colK n.C.l n.R.l) L0 ∧ 8 < Ts.length

theorem visJM {n₀ tb mb lo cb : Nat} {n : NM} {s0 s1 s2 s3 ov : Value} {L0 : List Tr} : VisJ n₀ (JM n₀ tb mb lo cb n s0 s1 s2 s3 ov L0) (KT n₀ tb mb) where
  refl := KT.refl n₀ tb mb
  trans := KT.trans
  below := KT.below
  box := fun pre W cs t h0 hJ => by
    obtain ⟨⟨v, Ts, h1, h2, h3⟩, h4, h5, h6, h7⟩ := hJ
    have hb : Below W.heap.size W (W.alloc (.cells cs t)) := (Below.refl _ _).alloc (Nat.le_refl _) _
    exact ⟨⟨⟨v, Ts, h1.later hb, h2, h3⟩, blk_lat0 h4 hb, h5, h6, h7⟩, KT.of_below hb h0 (Array.getElem?_eq_some_iff.1 h1.box).1⟩
  keep := fun pre W cs t W2 h0 hJ hK => by
    obtain ⟨⟨v, Ts, h1, h2, h3⟩, h4, h5, h6, h7⟩ := hJ
    have hb : Below W.heap.size W (W.alloc (.cells cs t)) := (Below.refl _ _).alloc (Nat.le_refl _) _
    have z1 := h1.h1
    have z2 := h1.h2
    have z3 := h1.h3
    have hr := (h1.later hb).rowT
    refine (hK.keep W.heap.size (by simp) (by omega) (by omega) (fun e => ?_)).trans (World.alloc_heap_new' W _)
    rw [hr] at e
    have := (own_lt h1.coll.own e).2
    omega

set_option maxRecDepth 100000 in
set_option maxHeartbeats 8000000 in
theorem mOf1_do {n₀ tb mb lo cb : Nat} {n : NM} {s0 s1 s2 s3 ov : Value} {L0 : List Tr} {w0 : World} (hG : G w0) (hg0 : 4 ≤ n₀) (hn : n.In n₀ w0) (hok : n.ok = true) :
    DoAt n₀ w0 110 (.pointer (some ⟨cb, 0, none⟩)) (JM n₀ tb mb lo cb n s0 s1 s2 s3 ov L0) (JX n₀ tb mb lo n s0 s1 s2 s3 ov L0) (KT n₀ tb mb) (NodeOK n) := by
  intro pre x W hJ hP hx hW hn0
  obtain ⟨⟨v, Ts, ht, htr, hlen⟩, hcb, c1', c2', c3'⟩ := hJ
  have hlen := Nat.le_trans hlen (mostN_le pre)
  have hGW : G W := hG.keep hg0 hW
  have hnW : n.In W.heap.size W := hn.below hn0 hW
  have hxW : x.In W.heap.size W := (hx.below hW).more hn0
  obtain ⟨W1, hW1, hB1, hs1, hk1⟩ := newBlk W _ rfl #[.int .i64 x.op, .int .i64 x.n, .slice x.A x.args.length x.c] 33
  obtain ⟨⟨a0, a1, a2⟩, -⟩ := res3 hk1
  have hma := markAt_any x W1 (hGW.later hB1) (hxW.later hB1) (WF_of_wfT x hP.1)
  have hfold : ((pre ++ [x]).map MT.tr).foldl (colK n.C.l n.R.l) L0 = colK n.C.l n.R.l ((pre.map MT.tr).foldl (colK n.C.l n.R.l) L0) x.tr := by
    rw [List.map_append, List.foldl_append]; rfl
  -- behind the mark: the table v' Ts' at world w', as the last region finds it
  have fin : ∀ (v' : Value) (Ts' : List MT) (w' : World), Tab n₀ tb mb lo n s0 s1 s2 s3 ov w' v' Ts' → Ts'.map MT.tr = ((pre ++ [x]).map MT.tr).foldl (colK n.C.l n.R.l) L0 → Ts'.length ≤ 101 → KT n₀ tb mb W w' → w'.heap[cb]? = some (.cells #[.pointer (some ⟨tb, 0, none⟩)] 116) →
      ∃ A c, v' = .slice A Ts'.length c ∧ w'.cell? ⟨cb, 0, none⟩ = some (.pointer (some ⟨tb, 0, none⟩)) ∧ w'.cell? ⟨tb, 3, none⟩ = some (.slice A Ts'.length c) ∧ ∀ b : Bool, decide ((Ts'.length : Int) ≤ 8) = b →
        (Ending.returned (.bool b) = .returned (.bool true) ∧ JM n₀ tb mb lo cb n s0 s1 s2 s3 ov L0 (pre ++ [x]) w' ∧ KT n₀ tb mb W w') ∨ (Ending.returned (.bool b) = .returned (.bool false) ∧ JX n₀ tb mb lo n s0 s1 s2 s3 ov L0 (pre ++ [x]) w' ∧ KT n₀ tb mb W w') := by
    intro v' Ts' w' h1 h2 h3 h4 h5
    obtain ⟨A, c, hv, -, -⟩ := row_val h1.coll.own
    refine ⟨A, c, hv, cell_of_blk h5 0, by rw [← hv]; exact cell_of_blk h1.box 3, fun b hb => ?_⟩
    cases b
    · exact .inr ⟨rfl, ⟨v', Ts', h1, h2, by have := of_decide_eq_false hb; omega⟩, h4⟩
    · exact .inl ⟨rfl, ⟨⟨v', Ts', h1, h2, by rw [mostN_snoc]; have := of_decide_eq_true hb; omega⟩, h5, c1', c2', c3'⟩, h4⟩
  have HFIN := Lib.hid fin
  have HT := Lib.hid ht
  have HTR := Lib.hid htr
  have HCB := Lib.hid hcb
  have HF := Lib.hid hfold
  have HB1 := Lib.hid hB1
  have htl : tb < W.heap.size := (Array.getElem?_eq_some_iff.1 ht.box).1
  have z1 := ht.h1
  have z2 := ht.h2
  have z3 := ht.h3
  have z0 := ht.h0
  obtain ⟨o, ho⟩ : ∃ o, markT x.tr = o := ⟨_, rfl⟩
  rw [ho] at hma
  simp only [MT.val] at hma ⊢
  clear fin ht htr hcb hfold hB1 hx hk1
  cases o with
  | none =>
    have hc : colK n.C.l n.R.l ((pre.map MT.tr).foldl (colK n.C.l n.R.l) L0) x.tr = (pre.map MT.tr).foldl (colK n.C.l n.R.l) L0 := by rw [colK, ho]
    go_enter Tryz.func110, Tryz.ntmps110
    go_wp2_with (go_at_call 111; refine hma.mono ?_; clear hma; rintro e w3 ⟨T', rfl, -, hnew, hb3⟩; obtain ⟨W4, hW4, hB4, hs4, hk4⟩ := newBlk w3 _ rfl #[.int .i64 T'.op, .int .i64 T'.n, .slice T'.A T'.args.length T'.c] 33; have hb4 : Below W.heap.size W W4 := (HB1.out.trans ((hb3.trans (hB4.mono hb3.size)).mono (by omega))); obtain ⟨A, c, hv, q1, q2, q3⟩ := HFIN.out v Ts W4 (HT.out.later hb4) (by rw [HF.out, hc]; exact HTR.out) (by omega) (KT.of_below hb4 (by omega) htl) (blk_lat0 HCB.out hb4))
    go_ret
    exact q3 _ rfl
  | some m =>
    have hmw := mark_wf hP.1 ho
    have hsz := hP.2
    have hc : colK n.C.l n.R.l ((pre.map MT.tr).foldl (colK n.C.l n.R.l) L0) x.tr = addK n.C.l n.R.l ((pre.map MT.tr).foldl (colK n.C.l n.R.l) L0) m := by rw [colK, ho]
    have had : ∀ (w3 W4 : World) (T' : MT), T'.tr = m → New W1.heap.size w3 T' → Below W1.heap.size W1 w3 → w3.alloc (.cells #[.int .i64 T'.op, .int .i64 T'.n, .slice T'.A T'.args.length T'.c] 33) = W4 →
        (W4.cell? ⟨cb, 0, none⟩ = some (.pointer (some ⟨tb, 0, none⟩)) ∧ (W4.cell? ⟨w3.heap.size, 0, none⟩ = some (.int .i64 T'.op) ∧ W4.cell? ⟨w3.heap.size, 1, none⟩ = some (.int .i64 T'.n) ∧ W4.cell? ⟨w3.heap.size, 2, none⟩ = some (.slice T'.A T'.args.length T'.c))) ∧
        Calls Tryz.prog 109 #[.pointer (some ⟨tb, 0, none⟩), .agg #[.int .i64 T'.op, .int .i64 T'.n, .slice T'.A T'.args.length T'.c]] W4 fun e w' => (∃ r, e = .returned r) ∧ ∃ A c Ts', w'.cell? ⟨cb, 0, none⟩ = some (.pointer (some ⟨tb, 0, none⟩)) ∧ w'.cell? ⟨tb, 3, none⟩ = some (.slice A (Ts'.length : Nat) c) ∧ ∀ b : Bool, decide (((Ts' : List MT).length : Int) ≤ 8) = b →
          (Ending.returned (.bool b) = .returned (.bool true) ∧ JM n₀ tb mb lo cb n s0 s1 s2 s3 ov L0 (pre ++ [x]) w' ∧ KT n₀ tb mb W w') ∨ (Ending.returned (.bool b) = .returned (.bool false) ∧ JX n₀ tb mb lo n s0 s1 s2 s3 ov L0 (pre ++ [x]) w' ∧ KT n₀ tb mb W w') := by
      intro w3 W4 T' hT' hnew hb3 hW4
      have hB4 : Below w3.heap.size w3 W4 := by rw [← hW4]; exact (Below.refl _ _).alloc (Nat.le_refl _) _
      have hk4 : W4.heap[w3.heap.size]? = some (.cells #[.int .i64 T'.op, .int .i64 T'.n, .slice T'.A T'.args.length T'.c] 33) := by rw [← hW4]; exact World.alloc_heap_new' w3 _
      have hb4 : Below W.heap.size W W4 := (HB1.out.trans ((hb3.trans (hB4.mono hb3.size)).mono (by omega)))
      obtain ⟨q, -⟩ := res3 hk4
      have hcb4 := blk_lat0 HCB.out hb4
      have hT4 := HT.out.later hb4
      have hwt : T'.tr.wfT n.C.l.length n.R.l.length = true := by rw [hT']; exact hmw.1
      have hoff : MT.All (fun b => some b ≠ v.ownBlock) T' := MT.All.imp (fun b hb e => by
        have := (own_lt HT.out.coll.own e.symm).2
        have := hb.1
        omega) T' hnew.2
      refine ⟨⟨cell_of_blk hcb4 0, q⟩, ?_⟩
      have := add_any hT4 (hGW.later hb4) (hnW.later hb4) T' ((hnew.later hB4).lo (by omega)) hoff (nmb_of hok) (pr_of hok hwt (by rw [hT']; omega)) (by omega)
      refine (show Calls Tryz.prog 109 #[.pointer (some ⟨tb, 0, none⟩), .agg #[.int .i64 T'.op, .int .i64 T'.n, .slice T'.A T'.args.length T'.c]] W4 _ from this).mono ?_
      rintro e w' ⟨hr, v', h1, h2⟩
      have hkt : KT n₀ tb mb W w' := (KT.of_below hb4 (by omega) htl).trans h2
      have hcb5 : w'.heap[cb]? = some (.cells #[.pointer (some ⟨tb, 0, none⟩)] 116) := (h2.keep cb (Array.getElem?_eq_some_iff.1 hcb4).1 c1' c2' (fun e => by rw [hT4.rowT] at e; have := (own_lt HT.out.coll.own e).1; omega)).trans hcb4
      have hl2 : (addT n Ts T').length ≤ Ts.length + 1 := by unfold addT; split <;> simp
      obtain ⟨A, c, hv, q1, q2, q3⟩ := HFIN.out v' (addT n Ts T') w' h1 (by rw [addT_tr, HF.out, hc, HTR.out, hT']) (by omega) hkt hcb5
      exact ⟨hr, A, c, addT n Ts T', q1, q2, q3⟩
    have HAD := Lib.hid had
    clear had hmw
    go_enter Tryz.func110, Tryz.ntmps110
    go_wp2_with (first
      | (go_at_call 109; refine hq.mono ?_; clear hq; rintro e w5 ⟨⟨r, rfl⟩, A, c, Ts', q1, q2, q3⟩)
      | (go_at_call 111; refine hma.mono ?_; clear hma; rintro e w3 ⟨T', rfl, hT', hnew, hb3⟩; obtain ⟨W4, hW4, hB4, hs4, hk4⟩ := newBlk w3 _ rfl #[.int .i64 T'.op, .int .i64 T'.n, .slice T'.A T'.args.length T'.c] 33; obtain ⟨⟨p1, p2, p3, p4⟩, hq⟩ := HAD.out w3 W4 T' hT' hnew hb3 hW4; clear hT' hnew))
    go_ret
    exact q3 _ rfl
end Go.Proofs.YtndkcimajeofcaaGreatDoor
