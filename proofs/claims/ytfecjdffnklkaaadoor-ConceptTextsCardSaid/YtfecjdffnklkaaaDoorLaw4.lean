import Derived.Test.YtfecjdffnklkaaaDoorTxt2
import Derived.Laws.BytesArg
import Derived.Laws.OwnMore
namespace Go.Proofs.YtfecjdffnklkaaaDoor
open Go.RowKit

theorem vt_ok {n : NM} {T : MT} (h : validT n.C.l.length n.R.l.length T.tr = true) : MT.VT n.C.l.length n.R.l.length T := vt_of_valid (by rw [validB_eq]; exact h)
/-- A fresh row of bytes, as a block. -/
theorem own_blk {w : World} {base n b : Nat} {xs : List Value} (h : w.ownsRow base 5 1 (.slice (some ⟨b, 0, none⟩) n n) n xs) (hn : n ≠ 0) : ∃ cur : Array Value, w.heap[b]? = some (.cells cur 5) ∧ cur.size = n := by
  rcases h.2 with ⟨hv, h0⟩ | ⟨g, cap, cur, hv, hge, hheap, hlen, hcap, hsize, htake⟩
  · exact absurd h0 hn
  · cases hv
    exact ⟨cur, hheap, by omega⟩
theorem below_none {w w' : World} (h : w.grownBy w' none) : Below w.heap.size w w' := (Below.refl _ _).grown h (Nat.le_refl _) (fun k e => by cases e)
theorem below_blank {B b : Nat} {w w' : World} {i : Nat} {v : Value} (h : Below B w w') (hb : B ≤ b) : Below B w (w'.setCell ⟨b, i, none⟩ v) := h.setCell (p := ⟨b, i, none⟩) hb v

theorem conv_blank (N : Nat) {wr : World} {b : Nat} {cur : Array Value} (hcur : wr.heap[b]? = some (.cells cur 5)) (hall : ∀ j, j < N → cur[j]? = some (.int .u8 32)) :
    ∃ bl : ByteArray, bl.size = N ∧ (convert 52 9 (.slice (some ⟨b, 0, none⟩) N N)).run Tryd.prog wr = .ok (.string bl) wr :=
  ⟨strOfNums (List.replicate N 32), by rw [strOfNums_size, List.length_replicate], run_convert_bytes_arg (P := Tryd.prog) wr 52 5 Tryd.underlying52 Tryd.underlying5 b 0 N N (List.replicate N 32) List.length_replicate (fun i hi => by
    rw [Nat.zero_add, cell_of_blk hcur i, hall i hi, List.getD_eq_getElem?_getD, List.getElem?_replicate, if_pos hi]; rfl) 9 Tryd.underlying9⟩

set_option maxRecDepth 100000 in
set_option maxHeartbeats 8000000 in
theorem Texts_A_short (n : NM) (T : MT) (s : ByteArray) (w : World) (hG : G w) (hn : n.In w.heap.size w) (hT : T.In w.heap.size w) (hf : fewB n = true) (hsz : (T.tr.size : Int) ≤ 3000) (hs : s.size ≤ 4000) (hok : n.ok = false) :
    Calls Tryd.prog 6 #[n.val, T.val, .string s, .bool false] w fun e w' => e = .returned (.bool true) ∧ Below w.heap.size w w' := by
  obtain ⟨W1, W2, hW1, hs1, hW2, hs2, hB, hcell⟩ := two_boxes n T w
  have hl := few_lens hf
  have hn2 := hn.later hB
  have hT2 := hT.later hB
  have hG2 := hG.later hB
  have hfe := FewNames_any n W2 hn2
  have hfi := fun w1 (hb : Below W2.heap.size W2 w1) => Fits_any T 3000 w1 (hT2.later hb) (by omega) (by omega)
  have haw := fun w1 (hb : Below W2.heap.size W2 w1) => awake_any w1 (hG2.later hb)
  rw [hf] at hfe
  simp only [fits_size] at hfi
  rw [decide_eq_true hsz] at hfi
  have hst := fun w1 (hb : Below W2.heap.size W2 w1) => cString_any n T w1 (hG2.later hb) (hn2.later hb) (hT2.later hb) (by omega)
  have hfa := fun w1 (hb : Below W2.heap.size W2 w1) => fault_any n T w1 (hn2.later hb) (hT2.later hb) (by omega) ⟨by omega, by omega, by omega⟩
  have hcp := fun (x : ByteArray) w1 (hb : Below W2.heap.size W2 w1) (hx : x.size ≤ maxLen) => cParse_any n x w1 (hG2.later hb) (hn2.later hb) hx
  have hrn := fun w1 (hb : Below W2.heap.size W2 w1) => rNames_any n w1 (hn2.later hb) ⟨by omega, by omega, by omega⟩
  have hsa : ∀ (X Y : MT) (w1 : World), X.In w1.heap.size w1 → Y.In w1.heap.size w1 → X.tr = Y.tr → Calls Tryd.prog 19 #[X.val, Y.val] w1 fun e w' => e = .returned (.bool true) ∧ Below w1.heap.size w1 w' := fun X Y w1 hX hY he => by
    have := rSame_any X Y w1 hX hY
    rw [he, beq_self] at this
    exact this
  have hck : checkT n T.tr = 20 := by rw [checkT, hok]; rfl
  have hsR : strR n T = [] := by rw [strR, checkF_eq, hck]; rfl
  rw [hok] at hrn
  simp only [checkF_eq] at hst
  rw [hck, hsR] at hst
  rw [hck] at hfa
  obtain ⟨⟨a0, a1, a2⟩, b0, b1, b2⟩ := hcell W2 (Below.refl _ W2)
  have hsI : (s.size : Int) ≤ 4000 := by omega
  clear hsR hck
  simp only [NM.val, MT.val] at hfe hfi hst hfa hcp hrn hsa  ⊢
  have hxm : s.size ≤ maxLen := by unfold maxLen; omega
  go_enter Tryd.func6, Tryd.ntmps6
  go_wp2_with (first | (go_at_call 9; refine hfe.mono ?_; rintro e w1 ⟨rfl, hb1⟩; obtain ⟨⟨c0, c1, c2⟩, d0, d1, d2⟩ := hcell w1 hb1) | (go_at_call 10; refine (hfi _ hb1).mono ?_; rintro e w2 ⟨rfl, hb2'⟩; have hb2 := thn hb1 hb2'; obtain ⟨⟨c0, c1, c2⟩, d0, d1, d2⟩ := hcell w2 hb2) | (go_at_call 29; refine (hst _ hb2).mono ?_; rintro e w4 ⟨rfl, hb4'⟩; have hb4 := thn hb2 hb4'; obtain ⟨⟨c0, c1, c2⟩, d0, d1, d2⟩ := hcell w4 hb4) | (go_at_call 17; refine (hfa _ hb4).mono ?_; rintro e w5 ⟨rfl, hb5'⟩; have hb5 := thn hb4 hb5'; obtain ⟨⟨c0, c1, c2⟩, d0, d1, d2⟩ := hcell w5 hb5) | (go_at_call 31; refine (hcp s _ hb5 hxm).mono ?_; rintro e w6 ⟨T6, rfl, ht6, hn6, hb6'⟩; have hb6 := thn hb5 hb6'; obtain ⟨W7, hW7, hB7, hs7, hL7⟩ := newBlk w6 _ rfl #[.int .i64 T6.op, .int .i64 T6.n, .slice T6.A T6.args.length T6.c] 27; have hb7 := thn hb6 hB7; have hB8 : Below W7.heap.size W7 (W7.alloc (.cells #[.int .i64 0, .int .i64 0, .slice none 0 0] 27)) := (Below.refl _ _).alloc (Nat.le_refl _) _; have hL8 : (W7.alloc (.cells #[.int .i64 0, .int .i64 0, .slice none 0 0] 27)).heap[w6.heap.size + 1]? = some (.cells #[.int .i64 0, .int .i64 0, .slice none 0 0] 27) := (by rw [← hs7]; exact World.alloc_heap_new' _ _); have hb8 := thn hb7 hB8; have hL78 := blk_below hL7 hB8; have z8 : (W7.alloc (.cells #[.int .i64 0, .int .i64 0, .slice none 0 0] 27)).heap.size = w6.heap.size + 1 + 1 := (by simp; omega); have hn68 := (hn6.later hB7).later hB8; obtain ⟨⟨c0, c1, c2⟩, d0, d1, d2⟩ := hcell _ hb8) | (go_at_call 12; refine (hrn _ hb8).mono ?_; rintro e w9 ⟨rfl, hb9'⟩; have hb9 := thn hb8 hb9'; have hL9 := blk_below hL78 hb9'; have hR9 := blk_below hL8 hb9'; obtain ⟨l0, l1, l2⟩ := box_cells hL9 (Below.refl _ w9); obtain ⟨q0, q1, q2⟩ := box_cells hR9 (Below.refl _ w9); have hn69 := hn68.later hb9') | (go_at_call 19; refine (hsa T6 zeroMT _ hn69.1 (new_zero 0 _).1 (by rw [ht6, (parse_bad hok).1, zeroMT, MT.tr_mk]; rfl)).mono ?_; rintro e w11 ⟨rfl, hb11'⟩; have hb11 := thn hb9 hb11'; have hpe := (parse_bad (l := s.data.toList) hok).2; have hpe2 : (parseE n s.data.toList == 20) = true := (by rw [hpe]; rfl); clear hpe) | (go_at_call 11; refine (haw _ hb11).mono ?_; rintro e w12 ⟨rfl, hb12'⟩; have hbE := thn hb11 hb12'))
  go_ret
  exact ⟨rfl, hB.trans (hbE.mono hB.size)⟩

set_option maxRecDepth 100000 in
set_option maxHeartbeats 8000000 in
theorem Texts_B_short (n : NM) (T : MT) (s : ByteArray) (w : World) (hG : G w) (hn : n.In w.heap.size w) (hT : T.In w.heap.size w) (hf : fewB n = true) (hsz : (T.tr.size : Int) ≤ 3000) (hs : s.size ≤ 4000) (hok : n.ok = true) (hva : validT n.C.l.length n.R.l.length T.tr = true) :
    Calls Tryd.prog 6 #[n.val, T.val, .string s, .bool false] w fun e w' => e = .returned (.bool true) ∧ Below w.heap.size w w' := by
  obtain ⟨W1, W2, hW1, hs1, hW2, hs2, hB, hcell⟩ := two_boxes n T w
  have hl := few_lens hf
  have hn2 := hn.later hB
  have hT2 := hT.later hB
  have hG2 := hG.later hB
  have hfe := FewNames_any n W2 hn2
  have hfi := fun w1 (hb : Below W2.heap.size W2 w1) => Fits_any T 3000 w1 (hT2.later hb) (by omega) (by omega)
  have haw := fun w1 (hb : Below W2.heap.size W2 w1) => awake_any w1 (hG2.later hb)
  rw [hf] at hfe
  simp only [fits_size] at hfi
  rw [decide_eq_true hsz] at hfi
  have hst := fun w1 (hb : Below W2.heap.size W2 w1) => cString_any n T w1 (hG2.later hb) (hn2.later hb) (hT2.later hb) (by omega)
  have hfa := fun w1 (hb : Below W2.heap.size W2 w1) => fault_any n T w1 (hn2.later hb) (hT2.later hb) (by omega) ⟨by omega, by omega, by omega⟩
  have hcp := fun (x : ByteArray) w1 (hb : Below W2.heap.size W2 w1) (hx : x.size ≤ maxLen) => cParse_any n x w1 (hG2.later hb) (hn2.later hb) hx
  have hrn := fun w1 (hb : Below W2.heap.size W2 w1) => rNames_any n w1 (hn2.later hb) ⟨by omega, by omega, by omega⟩
  have hsa : ∀ (X Y : MT) (w1 : World), X.In w1.heap.size w1 → Y.In w1.heap.size w1 → X.tr = Y.tr → Calls Tryd.prog 19 #[X.val, Y.val] w1 fun e w' => e = .returned (.bool true) ∧ Below w1.heap.size w1 w' := fun X Y w1 hX hY he => by
    have := rSame_any X Y w1 hX hY
    rw [he, beq_self] at this
    exact this
  have hck : checkT n T.tr = 0 := by rw [checkT, hok, hva]; rfl
  have hsR : strR n T = T.tr.str n.C.l n.R.l := by rw [strR, checkF_eq, hck]; rfl
  have hnb := ok_bounds hok
  have hon := ok_names hok
  have hslen : (T.tr.str n.C.l n.R.l).length ≤ 1000000000 := by
    have := str_length hon.1 hon.2.1 T.tr
    omega
  have hrs := fun w1 (hb : Below W2.heap.size W2 w1) => rString_any n (by omega) (fun x hx => Nat.le_trans (hon.2.1 x hx) (by decide)) T (vt_ok hva) w1 (hn2.later hb) (hT2.later hb) hslen
  have hrp := fun (x : ByteArray) w1 (hb : Below W2.heap.size W2 w1) (hx : x.size ≤ maxLen) => rParse_any n x w1 (hn2.later hb) hx hok
  have hsb : ∀ s' : ByteArray, s'.data.toList = T.tr.str n.C.l n.R.l → s' = ⟨(T.tr.str n.C.l n.R.l).toArray⟩ := fun s' h => bytes_ext (by rw [h])
  rw [hok] at hrn
  simp only [checkF_eq] at hst
  rw [hck, hsR] at hst
  rw [hck] at hfa
  obtain ⟨⟨a0, a1, a2⟩, b0, b1, b2⟩ := hcell W2 (Below.refl _ W2)
  have hsI : (s.size : Int) ≤ 4000 := by omega
  clear hsR hck
  simp only [NM.val, MT.val] at hfe hfi hst hfa hcp hrn hsa hrs hrp ⊢
  have hxm : s.size ≤ maxLen := by unfold maxLen; omega
  go_enter Tryd.func6, Tryd.ntmps6
  go_wp2_with (first | (go_at_call 9; refine hfe.mono ?_; rintro e w1 ⟨rfl, hb1⟩; obtain ⟨⟨c0, c1, c2⟩, d0, d1, d2⟩ := hcell w1 hb1) | (go_at_call 10; refine (hfi _ hb1).mono ?_; rintro e w2 ⟨rfl, hb2'⟩; have hb2 := thn hb1 hb2'; obtain ⟨⟨c0, c1, c2⟩, d0, d1, d2⟩ := hcell w2 hb2) | (go_at_call 29; refine (hst _ hb2).mono ?_; rintro e w4 ⟨rfl, hb4'⟩; have hb4 := thn hb2 hb4'; obtain ⟨⟨c0, c1, c2⟩, d0, d1, d2⟩ := hcell w4 hb4) | (go_at_call 17; refine (hfa _ hb4).mono ?_; rintro e w5 ⟨rfl, hb5'⟩; have hb5 := thn hb4 hb5'; obtain ⟨⟨c0, c1, c2⟩, d0, d1, d2⟩ := hcell w5 hb5) | (go_at_call 30; refine (hrs _ hb5).mono ?_; rintro e w55 ⟨⟨s5, rfl, hs5⟩, hb55'⟩; have hb55 := thn hb5 hb55'; obtain rfl := hsb s5 hs5; clear hs5; obtain ⟨⟨c0, c1, c2⟩, d0, d1, d2⟩ := hcell w55 hb55) | (go_at_call 31; refine (hcp s _ hb55 hxm).mono ?_; rintro e w6 ⟨T6, rfl, ht6, hn6, hb6'⟩; have hb6 := thn hb55 hb6'; obtain ⟨W7, hW7, hB7, hs7, hL7⟩ := newBlk w6 _ rfl #[.int .i64 T6.op, .int .i64 T6.n, .slice T6.A T6.args.length T6.c] 27; have hb7 := thn hb6 hB7; have hB8 : Below W7.heap.size W7 (W7.alloc (.cells #[.int .i64 0, .int .i64 0, .slice none 0 0] 27)) := (Below.refl _ _).alloc (Nat.le_refl _) _; have hL8 : (W7.alloc (.cells #[.int .i64 0, .int .i64 0, .slice none 0 0] 27)).heap[w6.heap.size + 1]? = some (.cells #[.int .i64 0, .int .i64 0, .slice none 0 0] 27) := (by rw [← hs7]; exact World.alloc_heap_new' _ _); have hb8 := thn hb7 hB8; have hL78 := blk_below hL7 hB8; have z8 : (W7.alloc (.cells #[.int .i64 0, .int .i64 0, .slice none 0 0] 27)).heap.size = w6.heap.size + 1 + 1 := (by simp; omega); have hn68 := (hn6.later hB7).later hB8; obtain ⟨⟨c0, c1, c2⟩, d0, d1, d2⟩ := hcell _ hb8) | (go_at_call 12; refine (hrn _ hb8).mono ?_; rintro e w9 ⟨rfl, hb9'⟩; have hb9 := thn hb8 hb9'; have hL9 := blk_below hL78 hb9'; have hR9 := blk_below hL8 hb9'; have hn69 := hn68.later hb9'; obtain ⟨⟨c0, c1, c2⟩, d0, d1, d2⟩ := hcell _ hb9; have z9 := hb9'.size) | (go_at_call 32; refine (hrp s _ hb9 hxm).mono ?_; rintro e w10 ⟨T9, rfl, ht9, hn9, hb10'⟩; have hb10 := thn hb9 hb10'; have z10 := hb10'.size; have hL10 := blk_below hL9 hb10'; have hR10 := blk_below hR9 hb10'; obtain ⟨u0, u1, u2⟩ := box_cells hR10 (Below.refl _ w10); have k0 := frozen_of_blk hR10 0; have k1 := frozen_of_blk hR10 1; have k2 := frozen_of_blk hR10 2; obtain ⟨s1, s2⟩ := store3 hR10 (.int .i64 T9.op) (.int .i64 T9.n) (.slice T9.A T9.args.length T9.c); have z6 := hb6.size; have hb11 := hb10.trans (below_grown s2 (by omega) hb10.size); have hL11 := blk_pb hL10 s2 (by omega); obtain ⟨l0, l1, l2⟩ := box_cells hL11 (Below.refl _ _); obtain ⟨q0, q1, q2⟩ := box_cells s1 (Below.refl _ _); have hn611 := (hn69.later hb10').grown s2 (MT.All.imp (fun b hb e => by have := Option.some.inj e; omega) _ (MT.In.all T6 hn6.1)); have hn911 := hn9.pb s2 (by omega)) | (go_at_call 19; refine (hsa T6 T9 _ hn611.1 hn911.1 (by rw [ht6, ht9])).mono ?_; rintro e w11 ⟨rfl, hb11'⟩; have hb12 := thn hb11 hb11') | (go_at_call 11; refine (haw _ hb12).mono ?_; rintro e w12 ⟨rfl, hb12'⟩; have hbE := thn hb12 hb12'))
  go_ret
  exact ⟨rfl, hB.trans (hbE.mono hB.size)⟩

set_option maxRecDepth 100000 in
set_option maxHeartbeats 8000000 in
theorem Texts_C_short (n : NM) (T : MT) (s : ByteArray) (w : World) (hG : G w) (hn : n.In w.heap.size w) (hT : T.In w.heap.size w) (hf : fewB n = true) (hsz : (T.tr.size : Int) ≤ 3000) (hs : s.size ≤ 4000) (hok : n.ok = true) (hva : validT n.C.l.length n.R.l.length T.tr = false) :
    Calls Tryd.prog 6 #[n.val, T.val, .string s, .bool false] w fun e w' => e = .returned (.bool true) ∧ Below w.heap.size w w' := by
  obtain ⟨W1, W2, hW1, hs1, hW2, hs2, hB, hcell⟩ := two_boxes n T w
  have hl := few_lens hf
  have hn2 := hn.later hB
  have hT2 := hT.later hB
  have hG2 := hG.later hB
  have hfe := FewNames_any n W2 hn2
  have hfi := fun w1 (hb : Below W2.heap.size W2 w1) => Fits_any T 3000 w1 (hT2.later hb) (by omega) (by omega)
  have haw := fun w1 (hb : Below W2.heap.size W2 w1) => awake_any w1 (hG2.later hb)
  rw [hf] at hfe
  simp only [fits_size] at hfi
  rw [decide_eq_true hsz] at hfi
  have hst := fun w1 (hb : Below W2.heap.size W2 w1) => cString_any n T w1 (hG2.later hb) (hn2.later hb) (hT2.later hb) (by omega)
  have hfa := fun w1 (hb : Below W2.heap.size W2 w1) => fault_any n T w1 (hn2.later hb) (hT2.later hb) (by omega) ⟨by omega, by omega, by omega⟩
  have hcp := fun (x : ByteArray) w1 (hb : Below W2.heap.size W2 w1) (hx : x.size ≤ maxLen) => cParse_any n x w1 (hG2.later hb) (hn2.later hb) hx
  have hrn := fun w1 (hb : Below W2.heap.size W2 w1) => rNames_any n w1 (hn2.later hb) ⟨by omega, by omega, by omega⟩
  have hsa : ∀ (X Y : MT) (w1 : World), X.In w1.heap.size w1 → Y.In w1.heap.size w1 → X.tr = Y.tr → Calls Tryd.prog 19 #[X.val, Y.val] w1 fun e w' => e = .returned (.bool true) ∧ Below w1.heap.size w1 w' := fun X Y w1 hX hY he => by
    have := rSame_any X Y w1 hX hY
    rw [he, beq_self] at this
    exact this
  have hck : checkT n T.tr = 10 := by rw [checkT, hok, hva]; rfl
  have hsR : strR n T = [] := by rw [strR, checkF_eq, hck]; rfl
  have hrp := fun (x : ByteArray) w1 (hb : Below W2.heap.size W2 w1) (hx : x.size ≤ maxLen) => rParse_any n x w1 (hn2.later hb) hx hok
  rw [hok] at hrn
  simp only [checkF_eq] at hst
  rw [hck, hsR] at hst
  rw [hck] at hfa
  obtain ⟨⟨a0, a1, a2⟩, b0, b1, b2⟩ := hcell W2 (Below.refl _ W2)
  have hsI : (s.size : Int) ≤ 4000 := by omega
  clear hsR hck
  simp only [NM.val, MT.val] at hfe hfi hst hfa hcp hrn hsa hrp ⊢
  have hxm : s.size ≤ maxLen := by unfold maxLen; omega
  go_enter Tryd.func6, Tryd.ntmps6
  go_wp2_with (first | (go_at_call 9; refine hfe.mono ?_; rintro e w1 ⟨rfl, hb1⟩; obtain ⟨⟨c0, c1, c2⟩, d0, d1, d2⟩ := hcell w1 hb1) | (go_at_call 10; refine (hfi _ hb1).mono ?_; rintro e w2 ⟨rfl, hb2'⟩; have hb2 := thn hb1 hb2'; obtain ⟨⟨c0, c1, c2⟩, d0, d1, d2⟩ := hcell w2 hb2) | (go_at_call 29; refine (hst _ hb2).mono ?_; rintro e w4 ⟨rfl, hb4'⟩; have hb4 := thn hb2 hb4'; obtain ⟨⟨c0, c1, c2⟩, d0, d1, d2⟩ := hcell w4 hb4) | (go_at_call 17; refine (hfa _ hb4).mono ?_; rintro e w5 ⟨rfl, hb5'⟩; have hb5 := thn hb4 hb5'; obtain ⟨⟨c0, c1, c2⟩, d0, d1, d2⟩ := hcell w5 hb5) | (go_at_call 31; refine (hcp s _ hb5 hxm).mono ?_; rintro e w6 ⟨T6, rfl, ht6, hn6, hb6'⟩; have hb6 := thn hb5 hb6'; obtain ⟨W7, hW7, hB7, hs7, hL7⟩ := newBlk w6 _ rfl #[.int .i64 T6.op, .int .i64 T6.n, .slice T6.A T6.args.length T6.c] 27; have hb7 := thn hb6 hB7; have hB8 : Below W7.heap.size W7 (W7.alloc (.cells #[.int .i64 0, .int .i64 0, .slice none 0 0] 27)) := (Below.refl _ _).alloc (Nat.le_refl _) _; have hL8 : (W7.alloc (.cells #[.int .i64 0, .int .i64 0, .slice none 0 0] 27)).heap[w6.heap.size + 1]? = some (.cells #[.int .i64 0, .int .i64 0, .slice none 0 0] 27) := (by rw [← hs7]; exact World.alloc_heap_new' _ _); have hb8 := thn hb7 hB8; have hL78 := blk_below hL7 hB8; have z8 : (W7.alloc (.cells #[.int .i64 0, .int .i64 0, .slice none 0 0] 27)).heap.size = w6.heap.size + 1 + 1 := (by simp; omega); have hn68 := (hn6.later hB7).later hB8; obtain ⟨⟨c0, c1, c2⟩, d0, d1, d2⟩ := hcell _ hb8) | (go_at_call 12; refine (hrn _ hb8).mono ?_; rintro e w9 ⟨rfl, hb9'⟩; have hb9 := thn hb8 hb9'; have hL9 := blk_below hL78 hb9'; have hR9 := blk_below hL8 hb9'; have hn69 := hn68.later hb9'; obtain ⟨⟨c0, c1, c2⟩, d0, d1, d2⟩ := hcell _ hb9; have z9 := hb9'.size) | (go_at_call 32; refine (hrp s _ hb9 hxm).mono ?_; rintro e w10 ⟨T9, rfl, ht9, hn9, hb10'⟩; have hb10 := thn hb9 hb10'; have z10 := hb10'.size; have hL10 := blk_below hL9 hb10'; have hR10 := blk_below hR9 hb10'; obtain ⟨u0, u1, u2⟩ := box_cells hR10 (Below.refl _ w10); have k0 := frozen_of_blk hR10 0; have k1 := frozen_of_blk hR10 1; have k2 := frozen_of_blk hR10 2; obtain ⟨s1, s2⟩ := store3 hR10 (.int .i64 T9.op) (.int .i64 T9.n) (.slice T9.A T9.args.length T9.c); have z6 := hb6.size; have hb11 := hb10.trans (below_grown s2 (by omega) hb10.size); have hL11 := blk_pb hL10 s2 (by omega); obtain ⟨l0, l1, l2⟩ := box_cells hL11 (Below.refl _ _); obtain ⟨q0, q1, q2⟩ := box_cells s1 (Below.refl _ _); have hn611 := (hn69.later hb10').grown s2 (MT.All.imp (fun b hb e => by have := Option.some.inj e; omega) _ (MT.In.all T6 hn6.1)); have hn911 := hn9.pb s2 (by omega)) | (go_at_call 19; refine (hsa T6 T9 _ hn611.1 hn911.1 (by rw [ht6, ht9])).mono ?_; rintro e w11 ⟨rfl, hb11'⟩; have hb12 := thn hb11 hb11') | (go_at_call 11; refine (haw _ hb12).mono ?_; rintro e w12 ⟨rfl, hb12'⟩; have hbE := thn hb12 hb12'))
  go_ret
  exact ⟨rfl, hB.trans (hbE.mono hB.size)⟩

set_option maxRecDepth 100000 in
set_option maxHeartbeats 8000000 in
theorem Texts_A_long (n : NM) (T : MT) (s : ByteArray) (w : World) (hG : G w) (hn : n.In w.heap.size w) (hT : T.In w.heap.size w) (hf : fewB n = true) (hsz : (T.tr.size : Int) ≤ 3000) (hs : s.size ≤ 4000) (hok : n.ok = false) :
    Calls Tryd.prog 6 #[n.val, T.val, .string s, .bool true] w fun e w' => e = .returned (.bool true) ∧ Below w.heap.size w w' := by
  obtain ⟨W1, W2, hW1, hs1, hW2, hs2, hB, hcell⟩ := two_boxes n T w
  have hl := few_lens hf
  have hn2 := hn.later hB
  have hT2 := hT.later hB
  have hG2 := hG.later hB
  have hfe := FewNames_any n W2 hn2
  have hfi := fun w1 (hb : Below W2.heap.size W2 w1) => Fits_any T 3000 w1 (hT2.later hb) (by omega) (by omega)
  have haw := fun w1 (hb : Below W2.heap.size W2 w1) => awake_any w1 (hG2.later hb)
  rw [hf] at hfe
  simp only [fits_size] at hfi
  rw [decide_eq_true hsz] at hfi
  have hst := fun w1 (hb : Below W2.heap.size W2 w1) => cString_any n T w1 (hG2.later hb) (hn2.later hb) (hT2.later hb) (by omega)
  have hfa := fun w1 (hb : Below W2.heap.size W2 w1) => fault_any n T w1 (hn2.later hb) (hT2.later hb) (by omega) ⟨by omega, by omega, by omega⟩
  have hcp := fun (x : ByteArray) w1 (hb : Below W2.heap.size W2 w1) (hx : x.size ≤ maxLen) => cParse_any n x w1 (hG2.later hb) (hn2.later hb) hx
  have hrn := fun w1 (hb : Below W2.heap.size W2 w1) => rNames_any n w1 (hn2.later hb) ⟨by omega, by omega, by omega⟩
  have hsa : ∀ (X Y : MT) (w1 : World), X.In w1.heap.size w1 → Y.In w1.heap.size w1 → X.tr = Y.tr → Calls Tryd.prog 19 #[X.val, Y.val] w1 fun e w' => e = .returned (.bool true) ∧ Below w1.heap.size w1 w' := fun X Y w1 hX hY he => by
    have := rSame_any X Y w1 hX hY
    rw [he, beq_self] at this
    exact this
  have hck : checkT n T.tr = 20 := by rw [checkT, hok]; rfl
  have hsR : strR n T = [] := by rw [strR, checkF_eq, hck]; rfl
  rw [hok] at hrn
  simp only [checkF_eq] at hst
  rw [hck, hsR] at hst
  rw [hck] at hfa
  obtain ⟨⟨a0, a1, a2⟩, b0, b1, b2⟩ := hcell W2 (Below.refl _ W2)
  have hsI : (s.size : Int) ≤ 4000 := by omega
  clear hsR hck
  simp only [NM.val, MT.val] at hfe hfi hst hfa hcp hrn hsa  ⊢
  go_enter Tryd.func6, Tryd.ntmps6
  go_wp2_with (first | (go_at_call 9; refine hfe.mono ?_; rintro e w1 ⟨rfl, hb1⟩; obtain ⟨⟨c0, c1, c2⟩, d0, d1, d2⟩ := hcell w1 hb1) | (go_at_call 10; refine (hfi _ hb1).mono ?_; rintro e w2 ⟨rfl, hb2'⟩; have hb2 := thn hb1 hb2'; obtain ⟨⟨c0, c1, c2⟩, d0, d1, d2⟩ := hcell w2 hb2))
  obtain ⟨i0, hi, hz0, hz1, hz2⟩ := info_parts byte_info
  obtain ⟨w3, hmk, hown, hgm⟩ := run_make_full (P := Tryd.prog) w2 w2.heap.size 52 5 i0 _ 1 Tryd.underlying52 hi hz0 hz1 .i64 .i64 30001 (by rw [hz2]; decide) (by decide) (Nat.le_refl _)
  obtain ⟨cur0, hcur0, hcs0⟩ := own_blk hown (by decide)
  have hb3 : Below w2.heap.size w2 w3 := below_none hgm
  replace hmk : (Instr.makeSlice 52 (.int .i64 30001) (.int .i64 30001)).run Tryd.prog w2 = .ok (.slice (some ⟨w2.heap.size, 0, none⟩) 30001 30001) w3 := hmk
  rw [hmk]
  simp only [Result.andThen]
  rw [Oper.upon_value]
  have HOWN := Lib.hid hown
  have HGM := Lib.hid hgm
  have HCUR := Lib.hid hcur0
  clear hown hgm hmk hcur0
  go_wp2_with fail
  go_loopw [37] (fun i wr => ∃ (k : Nat) (cur : Array Value), k ≤ 30001 ∧ i = .int .i64 k ∧ wr.heap[w2.heap.size]? = some (.cells cur 5) ∧ cur.size = 30001 ∧ (∀ j, j < k → cur[j]? = some (.int .u8 32)) ∧ Below w2.heap.size w2 wr) (fun i _ => 30001 - (intOf i).toNat)
  case atStart => exact ⟨0, cur0, Nat.zero_le _, rfl, HCUR.out, hcs0, fun j h => absurd h (by omega), hb3⟩
  case round =>
    obtain ⟨k, cur, hk, rfl, hcur, hcs, hall, hbr'⟩ := hrel
    have HA := Lib.hid hall
    clear hall
    by_cases hlt : k < 30001
    · obtain ⟨vk, hck⟩ : ∃ v, wr.cell? ⟨w2.heap.size, k, none⟩ = some v := ⟨cur[k]'(by omega), by rw [cell_of_blk hcur k, Array.getElem?_eq_getElem (by omega)]⟩
      have hfk := frozen_of_blk hcur k
      have HC := Lib.hid hcur
      have HCS := Lib.hid hcs
      have HLT := Lib.hid hlt
      have hlI : (k : Int) < 30001 := by omega
      have h0I : (0 : Int) ≤ k := by omega
      have hkt : (k : Int).toNat = k := by omega
      clear hcur hcs hlt hk
      go_wp2
      go_roundw
      case rel => exact ⟨k + 1, cur.setIfInBounds k (.int .u8 32), by have := HLT.out; omega, by go_num, blk_set HC.out k _, by rw [Array.size_setIfInBounds]; exact HCS.out, fun j hj => by
        rw [Array.getElem?_setIfInBounds]
        by_cases e : k = j
        · rw [if_pos e, if_pos (by have := HCS.out; have := HLT.out; omega)]
        · rw [if_neg e]; exact HA.out j (by omega), below_blank hbr' (Nat.le_refl _)⟩
      case measure => have := HLT.out; simp [intOf]; omega
    · obtain rfl : k = 30001 := by omega
      obtain ⟨bl, hbz, hconv⟩ := conv_blank 30001 hcur HA.out
      have hbr := thn hb2 hbr'
      obtain ⟨⟨c0, c1, c2⟩, d0, d1, d2⟩ := hcell wr hbr
      clear hcur hcs HA
      obtain ⟨x, hx⟩ : ∃ x, s ++ bl = x := ⟨_, rfl⟩
      have hxm : x.size ≤ maxLen := by rw [← hx, ByteArray.size_append]; unfold maxLen; omega
      go_wp2_with (first | (go_at_call 29; refine (hst _ hbr).mono ?_; rintro e w4 ⟨rfl, hb4'⟩; have hb4 := thn hbr hb4'; obtain ⟨⟨c0, c1, c2⟩, d0, d1, d2⟩ := hcell w4 hb4) | (go_at_call 17; refine (hfa _ hb4).mono ?_; rintro e w5 ⟨rfl, hb5'⟩; have hb5 := thn hb4 hb5'; obtain ⟨⟨c0, c1, c2⟩, d0, d1, d2⟩ := hcell w5 hb5) | (go_at_call 31; refine (hcp x _ hb5 hxm).mono ?_; rintro e w6 ⟨T6, rfl, ht6, hn6, hb6'⟩; have hb6 := thn hb5 hb6'; obtain ⟨W7, hW7, hB7, hs7, hL7⟩ := newBlk w6 _ rfl #[.int .i64 T6.op, .int .i64 T6.n, .slice T6.A T6.args.length T6.c] 27; have hb7 := thn hb6 hB7; have hB8 : Below W7.heap.size W7 (W7.alloc (.cells #[.int .i64 0, .int .i64 0, .slice none 0 0] 27)) := (Below.refl _ _).alloc (Nat.le_refl _) _; have hL8 : (W7.alloc (.cells #[.int .i64 0, .int .i64 0, .slice none 0 0] 27)).heap[w6.heap.size + 1]? = some (.cells #[.int .i64 0, .int .i64 0, .slice none 0 0] 27) := (by rw [← hs7]; exact World.alloc_heap_new' _ _); have hb8 := thn hb7 hB8; have hL78 := blk_below hL7 hB8; have z8 : (W7.alloc (.cells #[.int .i64 0, .int .i64 0, .slice none 0 0] 27)).heap.size = w6.heap.size + 1 + 1 := (by simp; omega); have hn68 := (hn6.later hB7).later hB8; obtain ⟨⟨c0, c1, c2⟩, d0, d1, d2⟩ := hcell _ hb8) | (go_at_call 12; refine (hrn _ hb8).mono ?_; rintro e w9 ⟨rfl, hb9'⟩; have hb9 := thn hb8 hb9'; have hL9 := blk_below hL78 hb9'; have hR9 := blk_below hL8 hb9'; obtain ⟨l0, l1, l2⟩ := box_cells hL9 (Below.refl _ w9); obtain ⟨q0, q1, q2⟩ := box_cells hR9 (Below.refl _ w9); have hn69 := hn68.later hb9') | (go_at_call 19; refine (hsa T6 zeroMT _ hn69.1 (new_zero 0 _).1 (by rw [ht6, (parse_bad hok).1, zeroMT, MT.tr_mk]; rfl)).mono ?_; rintro e w11 ⟨rfl, hb11'⟩; have hb11 := thn hb9 hb11'; have hpe := (parse_bad (l := x.data.toList) hok).2; have hpe2 : (parseE n x.data.toList == 20) = true := (by rw [hpe]; rfl); clear hpe) | (go_at_call 11; refine (haw _ hb11).mono ?_; rintro e w12 ⟨rfl, hb12'⟩; have hbE := thn hb11 hb12'))
      go_ret
      exact ⟨rfl, hB.trans (hbE.mono hB.size)⟩

set_option maxRecDepth 100000 in
set_option maxHeartbeats 8000000 in
theorem Texts_B_long (n : NM) (T : MT) (s : ByteArray) (w : World) (hG : G w) (hn : n.In w.heap.size w) (hT : T.In w.heap.size w) (hf : fewB n = true) (hsz : (T.tr.size : Int) ≤ 3000) (hs : s.size ≤ 4000) (hok : n.ok = true) (hva : validT n.C.l.length n.R.l.length T.tr = true) :
    Calls Tryd.prog 6 #[n.val, T.val, .string s, .bool true] w fun e w' => e = .returned (.bool true) ∧ Below w.heap.size w w' := by
  obtain ⟨W1, W2, hW1, hs1, hW2, hs2, hB, hcell⟩ := two_boxes n T w
  have hl := few_lens hf
  have hn2 := hn.later hB
  have hT2 := hT.later hB
  have hG2 := hG.later hB
  have hfe := FewNames_any n W2 hn2
  have hfi := fun w1 (hb : Below W2.heap.size W2 w1) => Fits_any T 3000 w1 (hT2.later hb) (by omega) (by omega)
  have haw := fun w1 (hb : Below W2.heap.size W2 w1) => awake_any w1 (hG2.later hb)
  rw [hf] at hfe
  simp only [fits_size] at hfi
  rw [decide_eq_true hsz] at hfi
  have hst := fun w1 (hb : Below W2.heap.size W2 w1) => cString_any n T w1 (hG2.later hb) (hn2.later hb) (hT2.later hb) (by omega)
  have hfa := fun w1 (hb : Below W2.heap.size W2 w1) => fault_any n T w1 (hn2.later hb) (hT2.later hb) (by omega) ⟨by omega, by omega, by omega⟩
  have hcp := fun (x : ByteArray) w1 (hb : Below W2.heap.size W2 w1) (hx : x.size ≤ maxLen) => cParse_any n x w1 (hG2.later hb) (hn2.later hb) hx
  have hrn := fun w1 (hb : Below W2.heap.size W2 w1) => rNames_any n w1 (hn2.later hb) ⟨by omega, by omega, by omega⟩
  have hsa : ∀ (X Y : MT) (w1 : World), X.In w1.heap.size w1 → Y.In w1.heap.size w1 → X.tr = Y.tr → Calls Tryd.prog 19 #[X.val, Y.val] w1 fun e w' => e = .returned (.bool true) ∧ Below w1.heap.size w1 w' := fun X Y w1 hX hY he => by
    have := rSame_any X Y w1 hX hY
    rw [he, beq_self] at this
    exact this
  have hck : checkT n T.tr = 0 := by rw [checkT, hok, hva]; rfl
  have hsR : strR n T = T.tr.str n.C.l n.R.l := by rw [strR, checkF_eq, hck]; rfl
  have hnb := ok_bounds hok
  have hon := ok_names hok
  have hslen : (T.tr.str n.C.l n.R.l).length ≤ 1000000000 := by
    have := str_length hon.1 hon.2.1 T.tr
    omega
  have hrs := fun w1 (hb : Below W2.heap.size W2 w1) => rString_any n (by omega) (fun x hx => Nat.le_trans (hon.2.1 x hx) (by decide)) T (vt_ok hva) w1 (hn2.later hb) (hT2.later hb) hslen
  have hrp := fun (x : ByteArray) w1 (hb : Below W2.heap.size W2 w1) (hx : x.size ≤ maxLen) => rParse_any n x w1 (hn2.later hb) hx hok
  have hsb : ∀ s' : ByteArray, s'.data.toList = T.tr.str n.C.l n.R.l → s' = ⟨(T.tr.str n.C.l n.R.l).toArray⟩ := fun s' h => bytes_ext (by rw [h])
  rw [hok] at hrn
  simp only [checkF_eq] at hst
  rw [hck, hsR] at hst
  rw [hck] at hfa
  obtain ⟨⟨a0, a1, a2⟩, b0, b1, b2⟩ := hcell W2 (Below.refl _ W2)
  have hsI : (s.size : Int) ≤ 4000 := by omega
  clear hsR hck
  simp only [NM.val, MT.val] at hfe hfi hst hfa hcp hrn hsa hrs hrp ⊢
  go_enter Tryd.func6, Tryd.ntmps6
  go_wp2_with (first | (go_at_call 9; refine hfe.mono ?_; rintro e w1 ⟨rfl, hb1⟩; obtain ⟨⟨c0, c1, c2⟩, d0, d1, d2⟩ := hcell w1 hb1) | (go_at_call 10; refine (hfi _ hb1).mono ?_; rintro e w2 ⟨rfl, hb2'⟩; have hb2 := thn hb1 hb2'; obtain ⟨⟨c0, c1, c2⟩, d0, d1, d2⟩ := hcell w2 hb2))
  obtain ⟨i0, hi, hz0, hz1, hz2⟩ := info_parts byte_info
  obtain ⟨w3, hmk, hown, hgm⟩ := run_make_full (P := Tryd.prog) w2 w2.heap.size 52 5 i0 _ 1 Tryd.underlying52 hi hz0 hz1 .i64 .i64 30001 (by rw [hz2]; decide) (by decide) (Nat.le_refl _)
  obtain ⟨cur0, hcur0, hcs0⟩ := own_blk hown (by decide)
  have hb3 : Below w2.heap.size w2 w3 := below_none hgm
  replace hmk : (Instr.makeSlice 52 (.int .i64 30001) (.int .i64 30001)).run Tryd.prog w2 = .ok (.slice (some ⟨w2.heap.size, 0, none⟩) 30001 30001) w3 := hmk
  rw [hmk]
  simp only [Result.andThen]
  rw [Oper.upon_value]
  have HOWN := Lib.hid hown
  have HGM := Lib.hid hgm
  have HCUR := Lib.hid hcur0
  clear hown hgm hmk hcur0
  go_wp2_with fail
  go_loopw [37] (fun i wr => ∃ (k : Nat) (cur : Array Value), k ≤ 30001 ∧ i = .int .i64 k ∧ wr.heap[w2.heap.size]? = some (.cells cur 5) ∧ cur.size = 30001 ∧ (∀ j, j < k → cur[j]? = some (.int .u8 32)) ∧ Below w2.heap.size w2 wr) (fun i _ => 30001 - (intOf i).toNat)
  case atStart => exact ⟨0, cur0, Nat.zero_le _, rfl, HCUR.out, hcs0, fun j h => absurd h (by omega), hb3⟩
  case round =>
    obtain ⟨k, cur, hk, rfl, hcur, hcs, hall, hbr'⟩ := hrel
    have HA := Lib.hid hall
    clear hall
    by_cases hlt : k < 30001
    · obtain ⟨vk, hck⟩ : ∃ v, wr.cell? ⟨w2.heap.size, k, none⟩ = some v := ⟨cur[k]'(by omega), by rw [cell_of_blk hcur k, Array.getElem?_eq_getElem (by omega)]⟩
      have hfk := frozen_of_blk hcur k
      have HC := Lib.hid hcur
      have HCS := Lib.hid hcs
      have HLT := Lib.hid hlt
      have hlI : (k : Int) < 30001 := by omega
      have h0I : (0 : Int) ≤ k := by omega
      have hkt : (k : Int).toNat = k := by omega
      clear hcur hcs hlt hk
      go_wp2
      go_roundw
      case rel => exact ⟨k + 1, cur.setIfInBounds k (.int .u8 32), by have := HLT.out; omega, by go_num, blk_set HC.out k _, by rw [Array.size_setIfInBounds]; exact HCS.out, fun j hj => by
        rw [Array.getElem?_setIfInBounds]
        by_cases e : k = j
        · rw [if_pos e, if_pos (by have := HCS.out; have := HLT.out; omega)]
        · rw [if_neg e]; exact HA.out j (by omega), below_blank hbr' (Nat.le_refl _)⟩
      case measure => have := HLT.out; simp [intOf]; omega
    · obtain rfl : k = 30001 := by omega
      obtain ⟨bl, hbz, hconv⟩ := conv_blank 30001 hcur HA.out
      have hbr := thn hb2 hbr'
      obtain ⟨⟨c0, c1, c2⟩, d0, d1, d2⟩ := hcell wr hbr
      clear hcur hcs HA
      obtain ⟨x, hx⟩ : ∃ x, s ++ bl = x := ⟨_, rfl⟩
      have hxm : x.size ≤ maxLen := by rw [← hx, ByteArray.size_append]; unfold maxLen; omega
      go_wp2_with (first | (go_at_call 29; refine (hst _ hbr).mono ?_; rintro e w4 ⟨rfl, hb4'⟩; have hb4 := thn hbr hb4'; obtain ⟨⟨c0, c1, c2⟩, d0, d1, d2⟩ := hcell w4 hb4) | (go_at_call 17; refine (hfa _ hb4).mono ?_; rintro e w5 ⟨rfl, hb5'⟩; have hb5 := thn hb4 hb5'; obtain ⟨⟨c0, c1, c2⟩, d0, d1, d2⟩ := hcell w5 hb5) | (go_at_call 30; refine (hrs _ hb5).mono ?_; rintro e w55 ⟨⟨s5, rfl, hs5⟩, hb55'⟩; have hb55 := thn hb5 hb55'; obtain rfl := hsb s5 hs5; clear hs5; obtain ⟨⟨c0, c1, c2⟩, d0, d1, d2⟩ := hcell w55 hb55) | (go_at_call 31; refine (hcp x _ hb55 hxm).mono ?_; rintro e w6 ⟨T6, rfl, ht6, hn6, hb6'⟩; have hb6 := thn hb55 hb6'; obtain ⟨W7, hW7, hB7, hs7, hL7⟩ := newBlk w6 _ rfl #[.int .i64 T6.op, .int .i64 T6.n, .slice T6.A T6.args.length T6.c] 27; have hb7 := thn hb6 hB7; have hB8 : Below W7.heap.size W7 (W7.alloc (.cells #[.int .i64 0, .int .i64 0, .slice none 0 0] 27)) := (Below.refl _ _).alloc (Nat.le_refl _) _; have hL8 : (W7.alloc (.cells #[.int .i64 0, .int .i64 0, .slice none 0 0] 27)).heap[w6.heap.size + 1]? = some (.cells #[.int .i64 0, .int .i64 0, .slice none 0 0] 27) := (by rw [← hs7]; exact World.alloc_heap_new' _ _); have hb8 := thn hb7 hB8; have hL78 := blk_below hL7 hB8; have z8 : (W7.alloc (.cells #[.int .i64 0, .int .i64 0, .slice none 0 0] 27)).heap.size = w6.heap.size + 1 + 1 := (by simp; omega); have hn68 := (hn6.later hB7).later hB8; obtain ⟨⟨c0, c1, c2⟩, d0, d1, d2⟩ := hcell _ hb8) | (go_at_call 12; refine (hrn _ hb8).mono ?_; rintro e w9 ⟨rfl, hb9'⟩; have hb9 := thn hb8 hb9'; have hL9 := blk_below hL78 hb9'; have hR9 := blk_below hL8 hb9'; have hn69 := hn68.later hb9'; obtain ⟨⟨c0, c1, c2⟩, d0, d1, d2⟩ := hcell _ hb9; have z9 := hb9'.size) | (go_at_call 32; refine (hrp x _ hb9 hxm).mono ?_; rintro e w10 ⟨T9, rfl, ht9, hn9, hb10'⟩; have hb10 := thn hb9 hb10'; have z10 := hb10'.size; have hL10 := blk_below hL9 hb10'; have hR10 := blk_below hR9 hb10'; obtain ⟨u0, u1, u2⟩ := box_cells hR10 (Below.refl _ w10); have k0 := frozen_of_blk hR10 0; have k1 := frozen_of_blk hR10 1; have k2 := frozen_of_blk hR10 2; obtain ⟨s1, s2⟩ := store3 hR10 (.int .i64 T9.op) (.int .i64 T9.n) (.slice T9.A T9.args.length T9.c); have z6 := hb6.size; have hb11 := hb10.trans (below_grown s2 (by omega) hb10.size); have hL11 := blk_pb hL10 s2 (by omega); obtain ⟨l0, l1, l2⟩ := box_cells hL11 (Below.refl _ _); obtain ⟨q0, q1, q2⟩ := box_cells s1 (Below.refl _ _); have hn611 := (hn69.later hb10').grown s2 (MT.All.imp (fun b hb e => by have := Option.some.inj e; omega) _ (MT.In.all T6 hn6.1)); have hn911 := hn9.pb s2 (by omega)) | (go_at_call 19; refine (hsa T6 T9 _ hn611.1 hn911.1 (by rw [ht6, ht9])).mono ?_; rintro e w11 ⟨rfl, hb11'⟩; have hb12 := thn hb11 hb11') | (go_at_call 11; refine (haw _ hb12).mono ?_; rintro e w12 ⟨rfl, hb12'⟩; have hbE := thn hb12 hb12'))
      go_ret
      exact ⟨rfl, hB.trans (hbE.mono hB.size)⟩

set_option maxRecDepth 100000 in
set_option maxHeartbeats 8000000 in
theorem Texts_C_long (n : NM) (T : MT) (s : ByteArray) (w : World) (hG : G w) (hn : n.In w.heap.size w) (hT : T.In w.heap.size w) (hf : fewB n = true) (hsz : (T.tr.size : Int) ≤ 3000) (hs : s.size ≤ 4000) (hok : n.ok = true) (hva : validT n.C.l.length n.R.l.length T.tr = false) :
    Calls Tryd.prog 6 #[n.val, T.val, .string s, .bool true] w fun e w' => e = .returned (.bool true) ∧ Below w.heap.size w w' := by
  obtain ⟨W1, W2, hW1, hs1, hW2, hs2, hB, hcell⟩ := two_boxes n T w
  have hl := few_lens hf
  have hn2 := hn.later hB
  have hT2 := hT.later hB
  have hG2 := hG.later hB
  have hfe := FewNames_any n W2 hn2
  have hfi := fun w1 (hb : Below W2.heap.size W2 w1) => Fits_any T 3000 w1 (hT2.later hb) (by omega) (by omega)
  have haw := fun w1 (hb : Below W2.heap.size W2 w1) => awake_any w1 (hG2.later hb)
  rw [hf] at hfe
  simp only [fits_size] at hfi
  rw [decide_eq_true hsz] at hfi
  have hst := fun w1 (hb : Below W2.heap.size W2 w1) => cString_any n T w1 (hG2.later hb) (hn2.later hb) (hT2.later hb) (by omega)
  have hfa := fun w1 (hb : Below W2.heap.size W2 w1) => fault_any n T w1 (hn2.later hb) (hT2.later hb) (by omega) ⟨by omega, by omega, by omega⟩
  have hcp := fun (x : ByteArray) w1 (hb : Below W2.heap.size W2 w1) (hx : x.size ≤ maxLen) => cParse_any n x w1 (hG2.later hb) (hn2.later hb) hx
  have hrn := fun w1 (hb : Below W2.heap.size W2 w1) => rNames_any n w1 (hn2.later hb) ⟨by omega, by omega, by omega⟩
  have hsa : ∀ (X Y : MT) (w1 : World), X.In w1.heap.size w1 → Y.In w1.heap.size w1 → X.tr = Y.tr → Calls Tryd.prog 19 #[X.val, Y.val] w1 fun e w' => e = .returned (.bool true) ∧ Below w1.heap.size w1 w' := fun X Y w1 hX hY he => by
    have := rSame_any X Y w1 hX hY
    rw [he, beq_self] at this
    exact this
  have hck : checkT n T.tr = 10 := by rw [checkT, hok, hva]; rfl
  have hsR : strR n T = [] := by rw [strR, checkF_eq, hck]; rfl
  have hrp := fun (x : ByteArray) w1 (hb : Below W2.heap.size W2 w1) (hx : x.size ≤ maxLen) => rParse_any n x w1 (hn2.later hb) hx hok
  rw [hok] at hrn
  simp only [checkF_eq] at hst
  rw [hck, hsR] at hst
  rw [hck] at hfa
  obtain ⟨⟨a0, a1, a2⟩, b0, b1, b2⟩ := hcell W2 (Below.refl _ W2)
  have hsI : (s.size : Int) ≤ 4000 := by omega
  clear hsR hck
  simp only [NM.val, MT.val] at hfe hfi hst hfa hcp hrn hsa hrp ⊢
  go_enter Tryd.func6, Tryd.ntmps6
  go_wp2_with (first | (go_at_call 9; refine hfe.mono ?_; rintro e w1 ⟨rfl, hb1⟩; obtain ⟨⟨c0, c1, c2⟩, d0, d1, d2⟩ := hcell w1 hb1) | (go_at_call 10; refine (hfi _ hb1).mono ?_; rintro e w2 ⟨rfl, hb2'⟩; have hb2 := thn hb1 hb2'; obtain ⟨⟨c0, c1, c2⟩, d0, d1, d2⟩ := hcell w2 hb2))
  obtain ⟨i0, hi, hz0, hz1, hz2⟩ := info_parts byte_info
  obtain ⟨w3, hmk, hown, hgm⟩ := run_make_full (P := Tryd.prog) w2 w2.heap.size 52 5 i0 _ 1 Tryd.underlying52 hi hz0 hz1 .i64 .i64 30001 (by rw [hz2]; decide) (by decide) (Nat.le_refl _)
  obtain ⟨cur0, hcur0, hcs0⟩ := own_blk hown (by decide)
  have hb3 : Below w2.heap.size w2 w3 := below_none hgm
  replace hmk : (Instr.makeSlice 52 (.int .i64 30001) (.int .i64 30001)).run Tryd.prog w2 = .ok (.slice (some ⟨w2.heap.size, 0, none⟩) 30001 30001) w3 := hmk
  rw [hmk]
  simp only [Result.andThen]
  rw [Oper.upon_value]
  have HOWN := Lib.hid hown
  have HGM := Lib.hid hgm
  have HCUR := Lib.hid hcur0
  clear hown hgm hmk hcur0
  go_wp2_with fail
  go_loopw [37] (fun i wr => ∃ (k : Nat) (cur : Array Value), k ≤ 30001 ∧ i = .int .i64 k ∧ wr.heap[w2.heap.size]? = some (.cells cur 5) ∧ cur.size = 30001 ∧ (∀ j, j < k → cur[j]? = some (.int .u8 32)) ∧ Below w2.heap.size w2 wr) (fun i _ => 30001 - (intOf i).toNat)
  case atStart => exact ⟨0, cur0, Nat.zero_le _, rfl, HCUR.out, hcs0, fun j h => absurd h (by omega), hb3⟩
  case round =>
    obtain ⟨k, cur, hk, rfl, hcur, hcs, hall, hbr'⟩ := hrel
    have HA := Lib.hid hall
    clear hall
    by_cases hlt : k < 30001
    · obtain ⟨vk, hck⟩ : ∃ v, wr.cell? ⟨w2.heap.size, k, none⟩ = some v := ⟨cur[k]'(by omega), by rw [cell_of_blk hcur k, Array.getElem?_eq_getElem (by omega)]⟩
      have hfk := frozen_of_blk hcur k
      have HC := Lib.hid hcur
      have HCS := Lib.hid hcs
      have HLT := Lib.hid hlt
      have hlI : (k : Int) < 30001 := by omega
      have h0I : (0 : Int) ≤ k := by omega
      have hkt : (k : Int).toNat = k := by omega
      clear hcur hcs hlt hk
      go_wp2
      go_roundw
      case rel => exact ⟨k + 1, cur.setIfInBounds k (.int .u8 32), by have := HLT.out; omega, by go_num, blk_set HC.out k _, by rw [Array.size_setIfInBounds]; exact HCS.out, fun j hj => by
        rw [Array.getElem?_setIfInBounds]
        by_cases e : k = j
        · rw [if_pos e, if_pos (by have := HCS.out; have := HLT.out; omega)]
        · rw [if_neg e]; exact HA.out j (by omega), below_blank hbr' (Nat.le_refl _)⟩
      case measure => have := HLT.out; simp [intOf]; omega
    · obtain rfl : k = 30001 := by omega
      obtain ⟨bl, hbz, hconv⟩ := conv_blank 30001 hcur HA.out
      have hbr := thn hb2 hbr'
      obtain ⟨⟨c0, c1, c2⟩, d0, d1, d2⟩ := hcell wr hbr
      clear hcur hcs HA
      obtain ⟨x, hx⟩ : ∃ x, s ++ bl = x := ⟨_, rfl⟩
      have hxm : x.size ≤ maxLen := by rw [← hx, ByteArray.size_append]; unfold maxLen; omega
      go_wp2_with (first | (go_at_call 29; refine (hst _ hbr).mono ?_; rintro e w4 ⟨rfl, hb4'⟩; have hb4 := thn hbr hb4'; obtain ⟨⟨c0, c1, c2⟩, d0, d1, d2⟩ := hcell w4 hb4) | (go_at_call 17; refine (hfa _ hb4).mono ?_; rintro e w5 ⟨rfl, hb5'⟩; have hb5 := thn hb4 hb5'; obtain ⟨⟨c0, c1, c2⟩, d0, d1, d2⟩ := hcell w5 hb5) | (go_at_call 31; refine (hcp x _ hb5 hxm).mono ?_; rintro e w6 ⟨T6, rfl, ht6, hn6, hb6'⟩; have hb6 := thn hb5 hb6'; obtain ⟨W7, hW7, hB7, hs7, hL7⟩ := newBlk w6 _ rfl #[.int .i64 T6.op, .int .i64 T6.n, .slice T6.A T6.args.length T6.c] 27; have hb7 := thn hb6 hB7; have hB8 : Below W7.heap.size W7 (W7.alloc (.cells #[.int .i64 0, .int .i64 0, .slice none 0 0] 27)) := (Below.refl _ _).alloc (Nat.le_refl _) _; have hL8 : (W7.alloc (.cells #[.int .i64 0, .int .i64 0, .slice none 0 0] 27)).heap[w6.heap.size + 1]? = some (.cells #[.int .i64 0, .int .i64 0, .slice none 0 0] 27) := (by rw [← hs7]; exact World.alloc_heap_new' _ _); have hb8 := thn hb7 hB8; have hL78 := blk_below hL7 hB8; have z8 : (W7.alloc (.cells #[.int .i64 0, .int .i64 0, .slice none 0 0] 27)).heap.size = w6.heap.size + 1 + 1 := (by simp; omega); have hn68 := (hn6.later hB7).later hB8; obtain ⟨⟨c0, c1, c2⟩, d0, d1, d2⟩ := hcell _ hb8) | (go_at_call 12; refine (hrn _ hb8).mono ?_; rintro e w9 ⟨rfl, hb9'⟩; have hb9 := thn hb8 hb9'; have hL9 := blk_below hL78 hb9'; have hR9 := blk_below hL8 hb9'; have hn69 := hn68.later hb9'; obtain ⟨⟨c0, c1, c2⟩, d0, d1, d2⟩ := hcell _ hb9; have z9 := hb9'.size) | (go_at_call 32; refine (hrp x _ hb9 hxm).mono ?_; rintro e w10 ⟨T9, rfl, ht9, hn9, hb10'⟩; have hb10 := thn hb9 hb10'; have z10 := hb10'.size; have hL10 := blk_below hL9 hb10'; have hR10 := blk_below hR9 hb10'; obtain ⟨u0, u1, u2⟩ := box_cells hR10 (Below.refl _ w10); have k0 := frozen_of_blk hR10 0; have k1 := frozen_of_blk hR10 1; have k2 := frozen_of_blk hR10 2; obtain ⟨s1, s2⟩ := store3 hR10 (.int .i64 T9.op) (.int .i64 T9.n) (.slice T9.A T9.args.length T9.c); have z6 := hb6.size; have hb11 := hb10.trans (below_grown s2 (by omega) hb10.size); have hL11 := blk_pb hL10 s2 (by omega); obtain ⟨l0, l1, l2⟩ := box_cells hL11 (Below.refl _ _); obtain ⟨q0, q1, q2⟩ := box_cells s1 (Below.refl _ _); have hn611 := (hn69.later hb10').grown s2 (MT.All.imp (fun b hb e => by have := Option.some.inj e; omega) _ (MT.In.all T6 hn6.1)); have hn911 := hn9.pb s2 (by omega)) | (go_at_call 19; refine (hsa T6 T9 _ hn611.1 hn911.1 (by rw [ht6, ht9])).mono ?_; rintro e w11 ⟨rfl, hb11'⟩; have hb12 := thn hb11 hb11') | (go_at_call 11; refine (haw _ hb12).mono ?_; rintro e w12 ⟨rfl, hb12'⟩; have hbE := thn hb12 hb12'))
      go_ret
      exact ⟨rfl, hB.trans (hbE.mono hB.size)⟩

set_option maxRecDepth 100000 in
set_option maxHeartbeats 4000000 in
theorem ConceptTexts_any (n : NM) (T : MT) (s : ByteArray) (long : Bool) (w : World) (hG : G w) (hn : n.In w.heap.size w) (hT : T.In w.heap.size w) (hs : s.size ≤ maxLen) :
    Calls Tryd.prog 6 #[n.val, T.val, .string s, .bool long] w fun e w' => e = .returned (.bool true) ∧ Below w.heap.size w w' := by
  by_cases hall : fewB n = true ∧ (T.tr.size : Int) ≤ 3000 ∧ s.size ≤ 4000
  · obtain ⟨hf, hsz, hs4⟩ := hall
    rcases hok : n.ok
    · cases long
      · exact Texts_A_short n T s w hG hn hT hf hsz hs4 hok
      · exact Texts_A_long n T s w hG hn hT hf hsz hs4 hok
    · rcases hva : validT n.C.l.length n.R.l.length T.tr
      · cases long
        · exact Texts_C_short n T s w hG hn hT hf hsz hs4 hok hva
        · exact Texts_C_long n T s w hG hn hT hf hsz hs4 hok hva
      · cases long
        · exact Texts_B_short n T s w hG hn hT hf hsz hs4 hok hva
        · exact Texts_B_long n T s w hG hn hT hf hsz hs4 hok hva
  · unfold maxLen at hs
    obtain ⟨W1, W2, hW1, hs1, hW2, hs2, hB, hcell⟩ := two_boxes n T w
    have hfe := FewNames_any n W2 (hn.later hB)
    have hfi := fun w1 (hb : Below W2.heap.size W2 w1) => Fits_any T 3000 w1 ((hT.later hB).later hb) (by omega) (by omega)
    have haw := fun w1 (hb : Below W2.heap.size W2 w1) => awake_any w1 ((hG.later hB).later hb)
    obtain ⟨⟨a0, a1, a2⟩, b0, b1, b2⟩ := hcell W2 (Below.refl _ W2)
    simp only [fits_size] at hfi
    simp only [NM.val, MT.val] at hfe hfi ⊢
    rcases hf : fewB n
    · rw [hf] at hfe
      clear hf hall
      go_enter Tryd.func6, Tryd.ntmps6
      go_wp2_with (first | (go_at_call 9; refine hfe.mono ?_; rintro e w1 ⟨rfl, hb1⟩) | (go_at_call 11; refine (haw _ hb1).mono ?_; rintro e w2 ⟨rfl, hb2⟩))
      go_ret
      exact ⟨rfl, hB.trans ((thn hb1 hb2).mono (by omega))⟩
    · rw [hf] at hfe
      by_cases hsz : (T.tr.size : Int) ≤ 3000
      · rw [decide_eq_true hsz] at hfi
        have h4 : (s.size : Int) > 4000 := by
          have : ¬ s.size ≤ 4000 := fun h => hall ⟨hf, hsz, h⟩
          omega
        clear hall hf hsz
        go_enter Tryd.func6, Tryd.ntmps6
        go_wp2_with (first | (go_at_call 9; refine hfe.mono ?_; rintro e w1 ⟨rfl, hb1⟩; obtain ⟨⟨c0, c1, c2⟩, d0, d1, d2⟩ := hcell w1 hb1) | (go_at_call 10; refine (hfi _ hb1).mono ?_; rintro e w2 ⟨rfl, hb2'⟩; have hb2 := thn hb1 hb2'; obtain ⟨⟨c0, c1, c2⟩, d0, d1, d2⟩ := hcell w2 hb2) | (go_at_call 11; refine (haw _ hb2).mono ?_; rintro e w3 ⟨rfl, hb3⟩))
        go_ret
        exact ⟨rfl, hB.trans ((thn hb2 hb3).mono (by omega))⟩
      · rw [decide_eq_false hsz] at hfi
        clear hall hf hsz
        go_enter Tryd.func6, Tryd.ntmps6
        go_wp2_with (first | (go_at_call 9; refine hfe.mono ?_; rintro e w1 ⟨rfl, hb1⟩; obtain ⟨⟨c0, c1, c2⟩, d0, d1, d2⟩ := hcell w1 hb1) | (go_at_call 10; refine (hfi _ hb1).mono ?_; rintro e w2 ⟨rfl, hb2'⟩; have hb2 := thn hb1 hb2'; obtain ⟨⟨c0, c1, c2⟩, d0, d1, d2⟩ := hcell w2 hb2) | (go_at_call 11; refine (haw _ hb2).mono ?_; rintro e w3 ⟨rfl, hb3⟩))
        go_ret
        exact ⟨rfl, hB.trans ((thn hb2 hb3).mono (by omega))⟩
end Go.Proofs.YtfecjdffnklkaaaDoor
