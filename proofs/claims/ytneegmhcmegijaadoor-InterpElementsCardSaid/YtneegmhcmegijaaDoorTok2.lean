import Derived.Test.YtneegmhcmegijaaDoorTok
namespace Go.Proofs.YtneegmhcmegijaaDoor
open Go.RowKit

def inB (c : UInt8) : Bool := isIn c.toNat
def toksN (M : List UInt8) : Nat → List UInt8 → Option (List (List UInt8))
  | 0, _ => some []
  | _ + 1, [] => some []
  | f + 1, c :: r => if sepB M c then (toksN M f r).map (fun l => if c = 32 then l else [c] :: l) else if isLet c.toNat then (toksN M f (r.dropWhile inB)).map (fun l => (c :: r.takeWhile inB) :: l) else none
theorem dropWhile_len (p : UInt8 → Bool) (l : List UInt8) : (l.dropWhile p).length ≤ l.length := (List.dropWhile_sublist p).length_le
theorem toksN_more (M : List UInt8) : ∀ (f : Nat) (l : List UInt8), l.length ≤ f → toksN M f l = toksN M l.length l
  | 0, l, h => by rw [List.eq_nil_of_length_eq_zero (Nat.le_zero.1 h)]; rfl
  | f + 1, [], _ => rfl
  | f + 1, c :: r, h => by
    have h' : r.length ≤ f := by simpa using h
    have hd := dropWhile_len inB r
    rw [List.length_cons, toksN, toksN, toksN_more M f r h', toksN_more M f _ (by omega), toksN_more M r.length (r.dropWhile inB) hd]
def toksF (M l : List UInt8) : Option (List (List UInt8)) := toksN M l.length l
theorem toksF_nil (M : List UInt8) : toksF M [] = some [] := rfl
theorem toksF_cons (M : List UInt8) (c : UInt8) (r : List UInt8) : toksF M (c :: r) = if sepB M c then (toksF M r).map (fun l => if c = 32 then l else [c] :: l) else if isLet c.toNat then (toksF M (r.dropWhile inB)).map (fun l => (c :: r.takeWhile inB) :: l) else none := by
  rw [toksF, List.length_cons, toksN, toksN_more M r.length _ (dropWhile_len inB r)]; rfl

/-- A word's end: what a loop over inWord has found. -/
theorem word_split {r : List UInt8} : ∀ {d : Nat}, d ≤ r.length → (∀ j (hj : j < r.length), j < d → inB r[j] = true) → (∀ h : d < r.length, inB r[d] = false) → r.takeWhile inB = r.take d ∧ r.dropWhile inB = r.drop d := by
  induction r with
  | nil => intro d hd _ _; have : d = 0 := by simpa using hd
           subst this; exact ⟨rfl, rfl⟩
  | cons c r ih =>
    intro d hd h1 h2
    cases d with
    | zero =>
      have := h2 (by simp)
      simp only [List.getElem_cons_zero] at this
      simp [List.takeWhile_cons, List.dropWhile_cons, this]
    | succ d =>
      have h0 := h1 0 (by simp) (by omega)
      simp only [List.getElem_cons_zero] at h0
      obtain ⟨i1, i2⟩ := ih (d := d) (by simpa using hd) (fun j hj hjd => h1 (j + 1) (by simpa using hj) (by omega)) (fun h => h2 (by simpa using h))
      simp [List.takeWhile_cons, List.dropWhile_cons, h0, i1, i2]

theorem bget (s : ByteArray) (k : Nat) (h : k < s.size) : s.data.toList[k]'(by rw [data_size]; exact h) = s[k] := by
  have := bytes_get s k h
  rw [List.getElem?_eq_getElem (by rw [data_size]; exact h)] at this
  exact Option.some.inj this
theorem extract_data (s : ByteArray) (k m : Nat) : (s.extract k m).data.toList = (s.data.toList.drop k).take (m - k) := by
  rw [ByteArray.data_extract, Array.toList_extract]

theorem drop_get {s : ByteArray} {k : Nat} (h : k < s.size) : s.data.toList.drop k = s[k] :: s.data.toList.drop (k + 1) := by
  rw [List.drop_eq_getElem_cons (by rw [data_size]; exact h), bget s k h]
/-- One step of the loop. -/
theorem toks_sep {M : List UInt8} {s : ByteArray} {k : Nat} (h : k < s.size) (hs : sepB M s[k] = true) : toksF M (s.data.toList.drop k) = (toksF M (s.data.toList.drop (k + 1))).map (fun l => if s[k] = 32 then l else (s.extract k (k + 1)).data.toList :: l) := by
  rw [extract_data, drop_get h, toksF_cons, hs, if_pos rfl, Nat.add_sub_cancel_left]; rfl
theorem toks_bad {M : List UInt8} {s : ByteArray} {k : Nat} (h : k < s.size) (hs : sepB M s[k] = false) (hl : isLet s[k].toNat = false) : toksF M (s.data.toList.drop k) = none := by
  rw [drop_get h, toksF_cons, hs, hl]; rfl
theorem toks_word {M : List UInt8} {s : ByteArray} {k m : Nat} (h : k < s.size) (hs : sepB M s[k] = false) (hl : isLet s[k].toNat = true) (hkm : k < m) (hm : m ≤ s.size) (ha : ∀ j (hj : j < s.size), k < j → j < m → isIn s[j].toNat = true) (he : ∀ hm : m < s.size, isIn s[m].toNat = false) :
    toksF M (s.data.toList.drop k) = (toksF M (s.data.toList.drop m)).map (fun l => (s.extract k m).data.toList :: l) := by
  have hz := data_size s
  obtain ⟨i1, i2⟩ := word_split (r := s.data.toList.drop (k + 1)) (d := m - (k + 1)) (by rw [List.length_drop]; omega) (fun j hj hjd => by
    rw [List.length_drop] at hj
    rw [List.getElem_drop, bget s _ (by omega)]
    exact ha _ (by omega) (by omega) (by omega)) (fun hd => by
    rw [List.length_drop] at hd
    have hms : m < s.size := by omega
    rw [List.getElem_drop, bget s _ (by omega)]
    have := he hms
    simp only [show k + 1 + (m - (k + 1)) = m by omega]
    exact this)
  rw [extract_data, drop_get h, toksF_cons, hs, hl, i1, i2, List.drop_drop, show k + 1 + (m - (k + 1)) = m by omega, show m - k = (m - (k + 1)) + 1 by omega, List.take_succ_cons]
  rfl

theorem sl_of_row {base : Nat} {w : World} {v : Value} {Ts : List ByteArray} (hown : w.ownsRow base 9 1 v Ts.length (Ts.map Value.string)) (hTs : ∀ t ∈ Ts, t.size ≤ maxLen) :
    ∃ sl : SL, v = .slice sl.A sl.l.length sl.c ∧ sl.l = Ts ∧ sl.In w.heap.size w := by
  rcases hown.2 with ⟨rfl, h0⟩ | ⟨g, cap, cur, rfl, hge, hheap, hlen, hcap, hsize, htake⟩
  · have hT : Ts = [] := List.eq_nil_of_length_eq_zero h0
    subst hT
    exact ⟨⟨none, 0, []⟩, rfl, rfl, Nat.le_refl _, by simp, fun _ => rfl, RowAt.nil _ _ _ _, by simp⟩
  · refine ⟨⟨some ⟨g, 0, none⟩, cap, Ts⟩, rfl, rfl, hlen, hcap, fun h => (by cases h), ⟨hown.1, fun _ => ⟨g, 0, rfl, (Array.getElem?_eq_some_iff.1 hheap).1, fun j hj => ?_⟩⟩, hTs⟩
    rw [cell_of_blk hheap, ← htake, List.getElem?_take, if_pos hj, Array.getElem?_toList]
    simp
/-- What Tokens hands back. -/
def RetToks (M : List UInt8) (s : ByteArray) (w : World) (e : Ending) (w' : World) : Prop :=
  (match toksF M s.data.toList with
    | none => e = .returned (.tuple #[.slice none 0 0, .bool false])
    | some l => ∃ sl : SL, e = .returned (.tuple #[.slice sl.A sl.l.length sl.c, .bool true]) ∧ sl.l.map (·.data.toList) = l ∧ sl.In w'.heap.size w') ∧ Below w.heap.size w w'

set_option maxRecDepth 100000 in
set_option maxHeartbeats 4000000 in
theorem tokens_any (s m : ByteArray) (w : World) (hs : s.size ≤ 1000000) : Calls Tryd.prog 93 #[.string s, .string m] w (RetToks m.data.toList s w) := by
  obtain ⟨i0, hi, hz0, hz1, hz2⟩ := info_parts str_info
  obtain ⟨M, HM⟩ : ∃ M, Hid (m.data.toList = M) := ⟨_, Lib.hid rfl⟩
  rw [HM.out]
  go_enter Tryd.func93, Tryd.ntmps93
  go_wp2_with fail
  go_loopw [6, 7] (fun v i wr => ∃ (k : Nat) (Ts : List ByteArray), k ≤ s.size ∧ i = .int .i64 k ∧ Ts.length ≤ k ∧ (∀ x ∈ Ts, x.size ≤ s.size) ∧ toksF M s.data.toList = (toksF M (s.data.toList.drop k)).map (fun l => Ts.map (·.data.toList) ++ l) ∧ wr.ownsRow w.heap.size 9 1 v Ts.length (Ts.map Value.string) ∧ Below w.heap.size w wr) (fun _ i _ => s.size - (intOf i).toNat)
  case atStart => exact ⟨0, [], Nat.zero_le _, rfl, Nat.le_refl _, by simp, by simp, ⟨rfl, .inl ⟨rfl, rfl⟩⟩, Below.refl _ _⟩
  case round =>
    obtain ⟨k, Ts, hk, rfl, hTk, hTs, htok, hown, hbw⟩ := hrel
    by_cases hlt : k < s.size
    · have hz := data_size s
      have HTO := Lib.hid htok
      clear htok
      rcases hsep : sepB M s[k]
      · have h32 : ((s[k].toNat : Int) != 32) = true := by
          have := (sep_false hsep).1
          simpa using this
        rcases hl : isLet s[k].toNat
        · have hc := tokenEnd_bad s m k hlt (by omega) (by rw [HM.out]; exact hsep) hl wr
          have HB := Lib.hid (toks_bad hlt hsep hl)
          clear hsep hl
          go_wp2_with (go_at_call 132; refine hc.mono ?_; rintro e w' ⟨rfl, rfl⟩)
          go_ret2
          refine ⟨?_, hbw⟩
          rw [HTO.out, HB.out]; rfl
        · have hc := tokenEnd_word s m k hlt (by omega) (by rw [HM.out]; exact hsep) hl wr
          have HST : ∀ j : Nat, k < j → j ≤ s.size → (∀ i (hj : i < s.size), k < i → i < j → isIn s[i].toNat = true) → (∀ hm : j < s.size, isIn s[j].toNat = false) → Hid (toksF M (s.data.toList.drop k) = (toksF M (s.data.toList.drop j)).map (fun l => (s.extract k j).data.toList :: l)) := fun j a b c d => Lib.hid (toks_word hlt hsep hl a b c d)
          clear hsep hl
          go_wp2_with (first | (go_at_call 132; refine hc.mono ?_; rintro e w' ⟨⟨j, hkm, hms, hall, hend, rfl⟩, rfl⟩; replace HST := HST j hkm hms hall hend; clear hall hend; have hne : ((j : Int) == (k : Int)) = false := (beq_eq_false_iff_ne.2 (by omega))) | (at_builtin; refine wpList_append_own_at _ rfl _ _ 22 rfl w.heap.size 9 i0 _ 1 16 Tryd.underlying22 hi hz0 hz1 hz2 rfl (by omega) _ Ts.length (Ts.map Value.string) rfl (owns_below hown ((Below.refl _ wr).alloc (Nat.le_refl _) _)) ⟨wr.heap.size, 0, none⟩ 1 1 [.string (s.extract k j)] rfl rfl (World.news_of_block (cs := #[.string (s.extract k j)]) (t := 9) (fr := (0, 0)) (heap_alloc_new wr _)) (by simp [Value.oneCell']) (by unfold maxLen; omega) (by omega) (by have := hbw.size; simp; omega) ?_; intro v2 w2 hown2 hg2 _ _))
          go_roundw
          case rel => exact ⟨j, Ts ++ [s.extract k j], by omega, by first | rfl | go_num, by rw [List.length_append, List.length_singleton]; omega, by
          intro x hx
          rcases List.mem_append.1 hx with hx | hx
          · exact hTs x hx
          · rw [List.mem_singleton.1 hx, ByteArray.size_extract]; omega, by rw [HTO.out, HST.out, Option.map_map]; congr 1; funext l; simp, by rw [List.length_append, List.map_append]; exact hown2, (hbw.alloc hbw.size _).grown hg2 (by simp; have := hbw.size; omega) (fun k hk => (own_lt hown hk).1)⟩
          case measure => simp [intOf]; omega
      · have hc := tokenEnd_sep s m k hlt (by omega) (by rw [HM.out]; exact hsep) wr
        have HST := Lib.hid (toks_sep hlt hsep)
        clear hsep
        have hne : (((k + 1 : Nat) : Int) == (k : Int)) = false := beq_eq_false_iff_ne.2 (by omega)
        by_cases h32 : s[k] = 32
        · have h32' : ((s[k].toNat : Int) != 32) = false := by rw [h32]; rfl
          simp only [if_pos h32, Option.map_id'] at HST
          clear h32
          go_wp2_with (go_at_call 132; refine hc.mono ?_; rintro e w' ⟨rfl, rfl⟩)
          go_roundw
          case rel => exact ⟨k + 1, Ts, by omega, by first | rfl | go_num, by omega, hTs, by rw [HTO.out, HST.out], hown, hbw⟩
          case measure => simp [intOf]; omega
        · have h32' : ((s[k].toNat : Int) != 32) = true := by
            simp only [bne_iff_ne, ne_eq]
            intro e
            exact h32 (UInt8.toNat_inj.1 (by have : s[k].toNat = 32 := by omega
                                             exact this))
          simp only [if_neg h32] at HST
          clear h32
          go_wp2_with (first | (go_at_call 132; refine hc.mono ?_; rintro e w' ⟨rfl, rfl⟩) | (at_builtin; refine wpList_append_own_at _ rfl _ _ 22 rfl w.heap.size 9 i0 _ 1 16 Tryd.underlying22 hi hz0 hz1 hz2 rfl (by omega) _ Ts.length (Ts.map Value.string) rfl (owns_below hown ((Below.refl _ wr).alloc (Nat.le_refl _) _)) ⟨wr.heap.size, 0, none⟩ 1 1 [.string (s.extract k (k + 1))] rfl rfl (World.news_of_block (cs := #[.string (s.extract k (k + 1))]) (t := 9) (fr := (0, 0)) (heap_alloc_new wr _)) (by simp [Value.oneCell']) (by unfold maxLen; omega) (by omega) (by have := hbw.size; simp; omega) ?_; intro v2 w2 hown2 hg2 _ _))
          go_roundw
          case rel => exact ⟨(k + 1), Ts ++ [s.extract k (k + 1)], by omega, by first | rfl | go_num, by rw [List.length_append, List.length_singleton]; omega, by
          intro x hx
          rcases List.mem_append.1 hx with hx | hx
          · exact hTs x hx
          · rw [List.mem_singleton.1 hx, ByteArray.size_extract]; omega, by rw [HTO.out, HST.out, Option.map_map]; congr 1; funext l; simp, by rw [List.length_append, List.map_append]; exact hown2, (hbw.alloc hbw.size _).grown hg2 (by simp; have := hbw.size; omega) (fun k hk => (own_lt hown hk).1)⟩
          case measure => simp [intOf]; omega
    · go_wp2
      go_ret2
      refine ⟨?_, hbw⟩
      rw [htok, List.drop_of_length_le (by rw [data_size]; omega), toksF_nil]
      obtain ⟨sl, hsl, rfl, hin⟩ := sl_of_row hown (fun x hx => Nat.le_trans (hTs x hx) (by unfold maxLen; omega))
      exact ⟨sl, by rw [← hsl]; rfl, by simp, hin⟩
end Go.Proofs.YtneegmhcmegijaaDoor
