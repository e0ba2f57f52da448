import Derived.Test.YtneegmhcmegijaaDoorParse
namespace Go.Proofs.YtneegmhcmegijaaDoor
open Go.RowKit

/-- The fixed names. -/
def fixC : List ByteArray := [⟨#[65]⟩, ⟨#[66]⟩]
def fixR : List ByteArray := [⟨#[114]⟩]
def Fix (N : NM) : Prop := N.C.l = fixC ∧ N.R.l = fixR ∧ N.I.l = []

theorem row_of_blk {B b : Nat} {w : World} {l : List ByteArray} (hk : w.heap[b]? = some (.cells (l.map Value.string).toArray 9)) (hb : b < B) (hl : ∀ x ∈ l, x.size ≤ maxLen) (hz : l.length ≤ 9223372036854775807) : (SL.mk (some ⟨b, 0, none⟩) l.length l).In B w := by
  refine ⟨Nat.le_refl _, hz, fun h => (by cases h), ⟨by simp, fun _ => ⟨b, 0, rfl, hb, fun j hj => ?_⟩⟩, hl⟩
  rw [cell_of_blk hk, Nat.zero_add, List.getElem?_toArray]

set_option maxRecDepth 100000 in
set_option maxHeartbeats 1000000 in
theorem names_any (w : World) : Calls Tryd.prog 48 #[] w fun e w' => (∃ N : NM, e = .returned (.agg #[.slice N.C.A N.C.l.length N.C.c, .slice N.R.A N.R.l.length N.R.c, .slice N.I.A N.I.l.length N.I.c]) ∧ Fix N ∧ N.In w'.heap.size w') ∧ Below w.heap.size w w' := by
  go_enter Tryd.func48, Tryd.ntmps48
  go_wp2_with fail
  obtain ⟨W1, hW1, hB1, hs1, hblk1⟩ := newBlk w _ rfl #[.slice (some ⟨w.heap.size + 1, 0, none⟩) 2 2, .slice (some ⟨w.heap.size + 1 + 1, 0, none⟩) 1 1, .slice none 0 0] 24
  obtain ⟨W2, hW2, hB2, hs2, hblk2⟩ := newBlk W1 _ hs1 #[.string ⟨#[65]⟩, .string ⟨#[66]⟩] 9
  obtain ⟨W3, hW3, hB3, hs3, hblk3⟩ := newBlk W2 _ hs2 #[.string ⟨#[114]⟩] 9
  have hB : Below w.heap.size w W3 := (hB1.trans (hB2.mono (by omega))).trans (hB3.mono (by omega))
  have k1 := (hB3.block w.heap.size (by omega)).trans ((hB2.block w.heap.size (by omega)).trans hblk1)
  have k2 := (hB3.block (w.heap.size + 1) (by omega)).trans hblk2
  have t0 := cell_of_blk k1 0
  have t1 := cell_of_blk k1 1
  have t2 := cell_of_blk k1 2
  simp only [List.getElem?_toArray, List.getElem?_cons_zero, List.getElem?_cons_succ] at t0 t1 t2
  rw [hW1, hW2, hW3]
  refine bodyPost_ret (v := .agg #[.slice (some ⟨w.heap.size + 1, 0, none⟩) 2 2, .slice (some ⟨w.heap.size + 1 + 1, 0, none⟩) 1 1, .slice none 0 0]) (by simp [results, Tryd.f48, go_sem, t0, t1, t2]) rfl ⟨⟨⟨⟨some ⟨w.heap.size + 1, 0, none⟩, 2, fixC⟩, ⟨some ⟨w.heap.size + 1 + 1, 0, none⟩, 1, fixR⟩, ⟨none, 0, []⟩⟩, rfl, ⟨rfl, rfl, rfl⟩, ?_⟩, hB⟩
  have hm : ∀ x ∈ fixC, x.size ≤ maxLen := by decide
  have hm' : ∀ x ∈ fixR, x.size ≤ maxLen := by decide
  exact ⟨row_of_blk (l := fixC) k2 (by omega) hm (by decide), row_of_blk (l := fixR) hblk3 (by omega) hm' (by decide), Nil.In _ _ _⟩

/-- "not some r- (A and not B)", "A and B", "some A B". -/
def text1 : List UInt8 := [110, 111, 116, 32, 115, 111, 109, 101, 32, 114, 45, 32, 40, 65, 32, 97, 110, 100, 32, 110, 111, 116, 32, 66, 41]
def text2 : List UInt8 := [65, 32, 97, 110, 100, 32, 66]
def text3 : List UInt8 := [115, 111, 109, 101, 32, 65, 32, 66]
def text4 : List UInt8 := [97, 108, 108, 32, 114, 45, 32, 40, 110, 111, 116, 32, 65, 32, 111, 114, 32, 66, 41]
def tr1 : Tr := .mk 3 0 [.mk 6 1 [.mk 4 0 [.mk 0 0 [], .mk 3 0 [.mk 0 1 []]]]]
def tr2 : Tr := .mk 7 1 [.mk 5 0 [.mk 3 0 [.mk 0 0 []], .mk 0 1 []]]

theorem fix_ok {N : NM} (h : Fix N) : N.ok = true := by
  rw [NM.ok, h.1, h.2.1, h.2.2]; decide
theorem fix_check {N : NM} (h : Fix N) (t : Tr) (hv : validT 2 1 t = true) : checkT N t = 0 := by
  rw [checkT, fix_ok h, if_pos rfl, h.1, h.2.1]
  have : validT fixC.length fixR.length t = true := hv
  rw [this]; rfl
theorem fix_parse1 {N : NM} (h : Fix N) : parseTr N text1 = tr1 ∧ parseE N text1 = 0 := by
  have hr : readF N.C.l N.R.l text1 = some tr1 := by rw [h.1, h.2.1]; kernel_rfl
  obtain ⟨h1, h2⟩ := parse_some (fix_ok h) (by decide) hr
  rw [fix_check h tr1 (by kernel_rfl)] at h1 h2
  exact ⟨h1, h2⟩
theorem fix_parse2 {N : NM} (h : Fix N) : parseE N text2 = 11 := by
  have hr : readF N.C.l N.R.l text2 = none := by rw [h.1, h.2.1]; kernel_rfl
  exact (parse_none (fix_ok h) (by decide) hr).2
theorem fix_parse3 {N : NM} (h : Fix N) : parseE N text3 = 10 := by
  have hr : readF N.C.l N.R.l text3 = some (.mk 6 (-2) [.mk 0 1 []]) := by rw [h.1, h.2.1]; kernel_rfl
  rw [(parse_some (fix_ok h) (by decide) hr).2, checkT, fix_ok h, if_pos rfl, h.1, h.2.1]
  have : validT fixC.length fixR.length (.mk 6 (-2) [.mk 0 1 []]) = false := by kernel_rfl
  rw [this]; rfl
theorem fix_norm {N : NM} (h : Fix N) {T : MT} (hT : T.tr = tr1) : normTr N T false = tr2 ∧ normE N T false = 0 := by
  have hc : (checkF N T == 0) = true := by rw [checkF_eq, hT, fix_check h tr1 (by kernel_rfl)]; rfl
  have hn : nnf T.tr false = tr2 := by rw [hT]; kernel_rfl
  have hs : smallB tr2 = true := by kernel_rfl
  rw [normTr, normE, hc, hn, hs]
  exact ⟨rfl, rfl⟩
theorem fix_str {N : NM} (h : Fix N) {T : MT} (hT : T.tr = tr2) : strR N T = text4 ∧ checkF N T = 0 := by
  have hc : checkF N T = 0 := by rw [checkF_eq, hT, fix_check h tr2 (by kernel_rfl)]
  rw [strR, hc, hT, h.1, h.2.1]
  exact ⟨by kernel_rfl, rfl⟩

set_option maxRecDepth 100000 in
set_option maxHeartbeats 4000000 in
theorem awake_any (w : World) (hG : G w) : Calls Tryd.prog 10 #[] w fun e w' => e = .returned (.bool true) ∧ Below w.heap.size w w' := by
  have hP1 : ∀ (N : NM) (w1 : World), Below w.heap.size w w1 → Fix N → N.In w1.heap.size w1 → Calls Tryd.prog 19 #[.agg #[.slice N.C.A N.C.l.length N.C.c, .slice N.R.A N.R.l.length N.R.c, .slice N.I.A N.I.l.length N.I.c], .string ⟨#[110, 111, 116, 32, 115, 111, 109, 101, 32, 114, 45, 32, 40, 65, 32, 97, 110, 100, 32, 110, 111, 116, 32, 66, 41]⟩] w1 (RetTreeE w1 tr1 0) := fun N w1 hb hf hin => by
    have := cParse_any N ⟨#[110, 111, 116, 32, 115, 111, 109, 101, 32, 114, 45, 32, 40, 65, 32, 97, 110, 100, 32, 110, 111, 116, 32, 66, 41]⟩ w1 (hG.later hb) hin (by decide)
    obtain ⟨h1, h2⟩ := fix_parse1 hf
    rw [show (⟨#[110, 111, 116, 32, 115, 111, 109, 101, 32, 114, 45, 32, 40, 65, 32, 97, 110, 100, 32, 110, 111, 116, 32, 66, 41]⟩ : ByteArray).data.toList = text1 from rfl, h1, h2] at this
    exact this
  have hP2 : ∀ (N : NM) (w1 : World), Below w.heap.size w w1 → Fix N → N.In w1.heap.size w1 → Calls Tryd.prog 19 #[.agg #[.slice N.C.A N.C.l.length N.C.c, .slice N.R.A N.R.l.length N.R.c, .slice N.I.A N.I.l.length N.I.c], .string ⟨#[65, 32, 97, 110, 100, 32, 66]⟩] w1 (RetTreeE w1 (parseTr N text2) 11) := fun N w1 hb hf hin => by
    have := cParse_any N ⟨#[65, 32, 97, 110, 100, 32, 66]⟩ w1 (hG.later hb) hin (by decide)
    rw [show (⟨#[65, 32, 97, 110, 100, 32, 66]⟩ : ByteArray).data.toList = text2 from rfl, fix_parse2 hf] at this
    exact this
  have hP3 : ∀ (N : NM) (w1 : World), Below w.heap.size w w1 → Fix N → N.In w1.heap.size w1 → Calls Tryd.prog 19 #[.agg #[.slice N.C.A N.C.l.length N.C.c, .slice N.R.A N.R.l.length N.R.c, .slice N.I.A N.I.l.length N.I.c], .string ⟨#[115, 111, 109, 101, 32, 65, 32, 66]⟩] w1 (RetTreeE w1 (parseTr N text3) 10) := fun N w1 hb hf hin => by
    have := cParse_any N ⟨#[115, 111, 109, 101, 32, 65, 32, 66]⟩ w1 (hG.later hb) hin (by decide)
    rw [show (⟨#[115, 111, 109, 101, 32, 65, 32, 66]⟩ : ByteArray).data.toList = text3 from rfl, fix_parse3 hf] at this
    exact this
  have hN : ∀ (N : NM) (T : MT) (w1 : World), Below w.heap.size w w1 → Fix N → N.In w1.heap.size w1 → T.In w1.heap.size w1 → T.tr = tr1 → Calls Tryd.prog 13 #[.agg #[.slice N.C.A N.C.l.length N.C.c, .slice N.R.A N.R.l.length N.R.c, .slice N.I.A N.I.l.length N.I.c], .agg #[.int .i64 T.op, .int .i64 T.n, .slice T.A T.args.length T.c]] w1 (RetTreeE w1 tr2 0) := fun N T w1 hb hf hin hT htr => by
    have := Normal_any N T w1 (hG.later hb) hin hT (by rw [htr]; decide)
    obtain ⟨h1, h2⟩ := fix_norm hf htr
    rw [h1, h2] at this
    exact this
  have hS : ∀ (N : NM) (T : MT) (w1 : World), Below w.heap.size w w1 → Fix N → N.In w1.heap.size w1 → T.In w1.heap.size w1 → T.tr = tr2 → Calls Tryd.prog 18 #[.agg #[.slice N.C.A N.C.l.length N.C.c, .slice N.R.A N.R.l.length N.R.c, .slice N.I.A N.I.l.length N.I.c], .agg #[.int .i64 T.op, .int .i64 T.n, .slice T.A T.args.length T.c]] w1 fun e w' => e = .returned (.tuple #[.string ⟨#[97, 108, 108, 32, 114, 45, 32, 40, 110, 111, 116, 32, 65, 32, 111, 114, 32, 66, 41]⟩, .int .i64 0]) ∧ Below w1.heap.size w1 w' := fun N T w1 hb hf hin hT htr => by
    have := cString_any N T w1 (hG.later hb) hin hT (by rw [htr]; decide)
    obtain ⟨h1, h2⟩ := fix_str hf htr
    rw [h1, h2] at this
    exact this
  go_enter Tryd.func10, Tryd.ntmps10
  go_wp2_with (first | (go_at_call 48; refine (names_any _).mono ?_; rintro e w1 ⟨⟨N1, rfl, hf1, hin1⟩, hb1⟩) | (go_at_call 19; refine (hP1 N1 _ hb1 hf1 hin1).mono ?_; rintro e w2 ⟨T2, rfl, ht2, hn2, hb2⟩; have hb02 := hb1.trans (hb2.mono hb1.size); obtain ⟨W3, hW3, hB3, hs3, hblk3⟩ := newBlk w2 _ rfl #[.int .i64 T2.op, .int .i64 T2.n, .slice T2.A T2.args.length T2.c] 27; have hb03 := hb02.trans (hB3.mono hb02.size); have c0 := cell_of_blk hblk3 0; have c1 := cell_of_blk hblk3 1; have c2 := cell_of_blk hblk3 2; simp only [List.getElem?_toArray, List.getElem?_cons_zero, List.getElem?_cons_succ] at c0 c1 c2))
  have hc : ∀ w', Below W3.heap.size W3 w' → w'.cell? ⟨w2.heap.size, 0, none⟩ = some (.int .i64 T2.op) ∧ w'.cell? ⟨w2.heap.size, 1, none⟩ = some (.int .i64 T2.n) ∧ w'.cell? ⟨w2.heap.size, 2, none⟩ = some (.slice T2.A T2.args.length T2.c) := fun w' hb => by
    have := blk_below hblk3 hb
    exact ⟨cell_of_blk this 0, cell_of_blk this 1, cell_of_blk this 2⟩
  have hT2 : ∀ w', Below W3.heap.size W3 w' → T2.In w'.heap.size w' := fun w' hb => (hn2.1.later hB3).later hb
  have hN' : ∀ (N : NM) (w1 : World), Below W3.heap.size W3 w1 → Fix N → N.In w1.heap.size w1 → Calls Tryd.prog 13 #[.agg #[.slice N.C.A N.C.l.length N.C.c, .slice N.R.A N.R.l.length N.R.c, .slice N.I.A N.I.l.length N.I.c], .agg #[.int .i64 T2.op, .int .i64 T2.n, .slice T2.A T2.args.length T2.c]] w1 (RetTreeE w1 tr2 0) := fun N w1 hb hf hin => hN N T2 w1 (hb03.trans (hb.mono hb03.size)) hf hin (hT2 w1 hb) ht2
  have hd3 : Below W3.heap.size W3 W3.drew := (Below.refl _ W3).drew
  have hd3a : Below W3.heap.size W3 (W3.drew.alloc (.cells #[.int .i64 0, .int .i64 0, .slice none 0 0] 27)) := hd3.alloc (Nat.le_refl _) _
  go_region_held3 (fun w' => w'.cell? ⟨w2.heap.size, 0, none⟩ = some (.int .i64 T2.op) ∧ w'.cell? ⟨w2.heap.size, 1, none⟩ = some (.int .i64 T2.n) ∧ w'.cell? ⟨w2.heap.size, 2, none⟩ = some (.slice T2.A T2.args.length T2.c))
    (first | exact hc _ hd3 | exact hc _ hd3a | exact hc _ hq4 | exact hc _ (hq4.alloc hq4.size _) | exact hc _ hq5 | exact hc _ (hq5.alloc hq5.size _) | exact hc _ (((hq5.setCell (p := ⟨_, 0, none⟩) hbd _).setCell (p := ⟨_, 1, none⟩) hbd _).setCell (p := ⟨_, 2, none⟩) hbd _))
    (first | (go_at_call 48; refine (names_any _).mono ?_; rintro e w4 ⟨⟨N4, rfl, hf4, hin4⟩, hb4⟩; first | (have hq4 : Below W3.heap.size W3 w4 := hd3.trans hb4) | (have hq4 : Below W3.heap.size W3 w4 := hd3a.trans (hb4.mono hd3a.size); have hd4 : w4.heap[w2.heap.size + 1]? = some (.cells #[.int .i64 0, .int .i64 0, .slice none 0 0] 27) := (by rw [← hs3]; exact blk_below (World.alloc_heap_new' W3.drew _) hb4); have hbd : W3.heap.size ≤ w2.heap.size + 1 := (by omega))) | (go_at_call 13; first | (refine (hN' N4 w4 hq4 hf4 hin4).mono ?_; rintro e w5 ⟨T5, rfl, ht5, hn5, hb5⟩; have hq5 : Below W3.heap.size W3 w5 := hq4.trans (hb5.mono hq4.size); first | (have hd5 := blk_below hd4 hb5; have r0 := cell_of_blk hd5 0; have r1 := cell_of_blk hd5 1; have r2 := cell_of_blk hd5 2; have f0 := frozen_of_blk hd5 0; have f1 := frozen_of_blk hd5 1; have f2 := frozen_of_blk hd5 2; simp only [List.getElem?_toArray, List.getElem?_cons_zero, List.getElem?_cons_succ] at r0 r1 r2) | skip) | (refine (hN' N4 _ (hq4.alloc hq4.size _) hf4 (hin4.later ((Below.refl _ w4).alloc (Nat.le_refl _) _))).mono ?_; rintro e w5 ⟨T5, rfl, ht5, hn5, hb5⟩; have hq5 : Below W3.heap.size W3 w5 := (hq4.alloc hq4.size _).trans (hb5.mono (hq4.alloc hq4.size _).size); have hd5 := blk_below (World.alloc_heap_new' w4 _) hb5; have hbd : W3.heap.size ≤ w4.heap.size := hq4.size; have r0 := cell_of_blk hd5 0; have r1 := cell_of_blk hd5 1; have r2 := cell_of_blk hd5 2; have f0 := frozen_of_blk hd5 0; have f1 := frozen_of_blk hd5 1; have f2 := frozen_of_blk hd5 2; simp only [List.getElem?_toArray, List.getElem?_cons_zero, List.getElem?_cons_succ] at r0 r1 r2)))
  · obtain ⟨w6, hw6, hq6, hD6, hTD⟩ : ∃ w6, w5.alloc (.cells #[.int .i64 T5.op, .int .i64 T5.n, .slice T5.A T5.args.length T5.c] 27) = w6 ∧ Below W3.heap.size W3 w6 ∧ w6.heap[w5.heap.size]? = some (.cells #[.int .i64 T5.op, .int .i64 T5.n, .slice T5.A T5.args.length T5.c] 27) ∧ T5.In w6.heap.size w6 := ⟨_, rfl, hq5.alloc hq5.size _, World.alloc_heap_new' w5 _, hn5.1.later ((Below.refl _ w5).alloc (Nat.le_refl _) _)⟩
    rw [hw6]
    have hb06 := hb03.trans (hq6.mono hb03.size)
    have hdc : ∀ w', Below w6.heap.size w6 w' → w'.cell? ⟨w5.heap.size, 0, none⟩ = some (.int .i64 T5.op) ∧ w'.cell? ⟨w5.heap.size, 1, none⟩ = some (.int .i64 T5.n) ∧ w'.cell? ⟨w5.heap.size, 2, none⟩ = some (.slice T5.A T5.args.length T5.c) := fun w' hb => by
      have := blk_below hD6 hb
      exact ⟨cell_of_blk this 0, cell_of_blk this 1, cell_of_blk this 2⟩
    obtain ⟨d0, d1, d2⟩ := hdc w6 (Below.refl _ _)
    have hd6 : Below w6.heap.size w6 w6.drew := (Below.refl _ w6).drew
    have hS' : ∀ (N : NM) (w1 : World), Below w6.heap.size w6 w1 → Fix N → N.In w1.heap.size w1 → Calls Tryd.prog 18 #[.agg #[.slice N.C.A N.C.l.length N.C.c, .slice N.R.A N.R.l.length N.R.c, .slice N.I.A N.I.l.length N.I.c], .agg #[.int .i64 T5.op, .int .i64 T5.n, .slice T5.A T5.args.length T5.c]] w1 fun e w' => e = .returned (.tuple #[.string ⟨#[97, 108, 108, 32, 114, 45, 32, 40, 110, 111, 116, 32, 65, 32, 111, 114, 32, 66, 41]⟩, .int .i64 0]) ∧ Below w1.heap.size w1 w' := fun N w1 hb hf hin => hS N T5 w1 (hb06.trans (hb.mono hb06.size)) hf hin (hTD.later hb) ht5
    clear hP1 hN hN' hS hc hT2 hd3 hd3a
    go_wp2_with fail
    go_region_held3 (fun w' => w'.cell? ⟨w5.heap.size, 0, none⟩ = some (.int .i64 T5.op) ∧ w'.cell? ⟨w5.heap.size, 1, none⟩ = some (.int .i64 T5.n) ∧ w'.cell? ⟨w5.heap.size, 2, none⟩ = some (.slice T5.A T5.args.length T5.c))
      (first | exact hdc _ hd6 | exact hdc _ hq7 | exact hdc _ hq8)
      (first | (go_at_call 48; refine (names_any _).mono ?_; rintro e w7 ⟨⟨N7, rfl, hf7, hin7⟩, hb7⟩; have hq7 : Below w6.heap.size w6 w7 := hd6.trans hb7) | (go_at_call 18; refine (hS' N7 w7 hq7 hf7 hin7).mono ?_; rintro e w8 ⟨rfl, hb8⟩; have hq8 : Below w6.heap.size w6 w8 := hq7.trans (hb8.mono hq7.size)))
    have hb08 := hb06.trans (hq8.mono hb06.size)
    go_wp2_with (first | (go_at_call 48; first | (refine (names_any Wa).mono ?_; rintro e w11 ⟨⟨N11, rfl, hf11, hin11⟩, hb11⟩; have hb011 := hb0a.trans (hb11.mono hb0a.size)) | (refine (names_any w8).mono ?_; rintro e w9 ⟨⟨N9, rfl, hf9, hin9⟩, hb9⟩; have hb09 := hb08.trans (hb9.mono hb08.size))) | (go_at_call 19; first | (refine (hP3 N11 w11 hb011 hf11 hin11).mono ?_; rintro e w12 ⟨T12, rfl, ht12, hn12, hb12⟩; have hb012 := hb011.trans (hb12.mono hb011.size)) | (refine (hP2 N9 w9 hb09 hf9 hin9).mono ?_; rintro e w10 ⟨T10, rfl, ht10, hn10, hb10⟩; have hb010 := hb09.trans (hb10.mono hb09.size); obtain ⟨Wa, hWa, hBa, hsa, -⟩ := newBlk w10 _ rfl #[.int .i64 T10.op, .int .i64 T10.n, .slice T10.A T10.args.length T10.c] 27; have hb0a := hb010.trans (hBa.mono hb010.size))))
    go_ret
    exact ⟨rfl, hb012.alloc hb012.size _⟩
  · obtain ⟨w6, hw6, hq6, hD6, hTD⟩ : ∃ w6, ((w5.setCell ⟨w4.heap.size, 0, none⟩ (.int .i64 T5.op)).setCell ⟨w4.heap.size, 1, none⟩ (.int .i64 T5.n)).setCell ⟨w4.heap.size, 2, none⟩ (.slice T5.A T5.args.length T5.c) = w6 ∧ Below W3.heap.size W3 w6 ∧ w6.heap[w4.heap.size]? = some (.cells #[.int .i64 T5.op, .int .i64 T5.n, .slice T5.A T5.args.length T5.c] 27) ∧ T5.In w6.heap.size w6 := by
      obtain ⟨s1, s2⟩ := store3 hd5 (.int .i64 T5.op) (.int .i64 T5.n) (.slice T5.A T5.args.length T5.c)
      exact ⟨_, rfl, hq5.trans (below_grown s2 hbd hq5.size), s1, (hn5.pb s2 (by simp)).1⟩
    rw [hw6]
    have hb06 := hb03.trans (hq6.mono hb03.size)
    have hdc : ∀ w', Below w6.heap.size w6 w' → w'.cell? ⟨w4.heap.size, 0, none⟩ = some (.int .i64 T5.op) ∧ w'.cell? ⟨w4.heap.size, 1, none⟩ = some (.int .i64 T5.n) ∧ w'.cell? ⟨w4.heap.size, 2, none⟩ = some (.slice T5.A T5.args.length T5.c) := fun w' hb => by
      have := blk_below hD6 hb
      exact ⟨cell_of_blk this 0, cell_of_blk this 1, cell_of_blk this 2⟩
    obtain ⟨d0, d1, d2⟩ := hdc w6 (Below.refl _ _)
    have hd6 : Below w6.heap.size w6 w6.drew := (Below.refl _ w6).drew
    have hS' : ∀ (N : NM) (w1 : World), Below w6.heap.size w6 w1 → Fix N → N.In w1.heap.size w1 → Calls Tryd.prog 18 #[.agg #[.slice N.C.A N.C.l.length N.C.c, .slice N.R.A N.R.l.length N.R.c, .slice N.I.A N.I.l.length N.I.c], .agg #[.int .i64 T5.op, .int .i64 T5.n, .slice T5.A T5.args.length T5.c]] w1 fun e w' => e = .returned (.tuple #[.string ⟨#[97, 108, 108, 32, 114, 45, 32, 40, 110, 111, 116, 32, 65, 32, 111, 114, 32, 66, 41]⟩, .int .i64 0]) ∧ Below w1.heap.size w1 w' := fun N w1 hb hf hin => hS N T5 w1 (hb06.trans (hb.mono hb06.size)) hf hin (hTD.later hb) ht5
    clear hP1 hN hN' hS hc hT2 hd3 hd3a
    go_wp2_with fail
    go_region_held3 (fun w' => w'.cell? ⟨w4.heap.size, 0, none⟩ = some (.int .i64 T5.op) ∧ w'.cell? ⟨w4.heap.size, 1, none⟩ = some (.int .i64 T5.n) ∧ w'.cell? ⟨w4.heap.size, 2, none⟩ = some (.slice T5.A T5.args.length T5.c))
      (first | exact hdc _ hd6 | exact hdc _ hq7 | exact hdc _ hq8)
      (first | (go_at_call 48; refine (names_any _).mono ?_; rintro e w7 ⟨⟨N7, rfl, hf7, hin7⟩, hb7⟩; have hq7 : Below w6.heap.size w6 w7 := hd6.trans hb7) | (go_at_call 18; refine (hS' N7 w7 hq7 hf7 hin7).mono ?_; rintro e w8 ⟨rfl, hb8⟩; have hq8 : Below w6.heap.size w6 w8 := hq7.trans (hb8.mono hq7.size)))
    have hb08 := hb06.trans (hq8.mono hb06.size)
    go_wp2_with (first | (go_at_call 48; first | (refine (names_any Wa).mono ?_; rintro e w11 ⟨⟨N11, rfl, hf11, hin11⟩, hb11⟩; have hb011 := hb0a.trans (hb11.mono hb0a.size)) | (refine (names_any w8).mono ?_; rintro e w9 ⟨⟨N9, rfl, hf9, hin9⟩, hb9⟩; have hb09 := hb08.trans (hb9.mono hb08.size))) | (go_at_call 19; first | (refine (hP3 N11 w11 hb011 hf11 hin11).mono ?_; rintro e w12 ⟨T12, rfl, ht12, hn12, hb12⟩; have hb012 := hb011.trans (hb12.mono hb011.size)) | (refine (hP2 N9 w9 hb09 hf9 hin9).mono ?_; rintro e w10 ⟨T10, rfl, ht10, hn10, hb10⟩; have hb010 := hb09.trans (hb10.mono hb09.size); obtain ⟨Wa, hWa, hBa, hsa, -⟩ := newBlk w10 _ rfl #[.int .i64 T10.op, .int .i64 T10.n, .slice T10.A T10.args.length T10.c] 27; have hb0a := hb010.trans (hBa.mono hb010.size))))
    go_ret
    exact ⟨rfl, hb012.alloc hb012.size _⟩
  · obtain ⟨w6, hw6, hq6, hD6, hTD⟩ : ∃ w6, ((w5.setCell ⟨w2.heap.size + 1, 0, none⟩ (.int .i64 T5.op)).setCell ⟨w2.heap.size + 1, 1, none⟩ (.int .i64 T5.n)).setCell ⟨w2.heap.size + 1, 2, none⟩ (.slice T5.A T5.args.length T5.c) = w6 ∧ Below W3.heap.size W3 w6 ∧ w6.heap[(w2.heap.size + 1)]? = some (.cells #[.int .i64 T5.op, .int .i64 T5.n, .slice T5.A T5.args.length T5.c] 27) ∧ T5.In w6.heap.size w6 := by
      obtain ⟨s1, s2⟩ := store3 hd5 (.int .i64 T5.op) (.int .i64 T5.n) (.slice T5.A T5.args.length T5.c)
      exact ⟨_, rfl, hq5.trans (below_grown s2 hbd hq5.size), s1, (hn5.pb s2 (by have := hb4.size; simp at this; omega)).1⟩
    rw [hw6]
    have hb06 := hb03.trans (hq6.mono hb03.size)
    have hdc : ∀ w', Below w6.heap.size w6 w' → w'.cell? ⟨(w2.heap.size + 1), 0, none⟩ = some (.int .i64 T5.op) ∧ w'.cell? ⟨(w2.heap.size + 1), 1, none⟩ = some (.int .i64 T5.n) ∧ w'.cell? ⟨(w2.heap.size + 1), 2, none⟩ = some (.slice T5.A T5.args.length T5.c) := fun w' hb => by
      have := blk_below hD6 hb
      exact ⟨cell_of_blk this 0, cell_of_blk this 1, cell_of_blk this 2⟩
    obtain ⟨d0, d1, d2⟩ := hdc w6 (Below.refl _ _)
    have hd6 : Below w6.heap.size w6 w6.drew := (Below.refl _ w6).drew
    have hS' : ∀ (N : NM) (w1 : World), Below w6.heap.size w6 w1 → Fix N → N.In w1.heap.size w1 → Calls Tryd.prog 18 #[.agg #[.slice N.C.A N.C.l.length N.C.c, .slice N.R.A N.R.l.length N.R.c, .slice N.I.A N.I.l.length N.I.c], .agg #[.int .i64 T5.op, .int .i64 T5.n, .slice T5.A T5.args.length T5.c]] w1 fun e w' => e = .returned (.tuple #[.string ⟨#[97, 108, 108, 32, 114, 45, 32, 40, 110, 111, 116, 32, 65, 32, 111, 114, 32, 66, 41]⟩, .int .i64 0]) ∧ Below w1.heap.size w1 w' := fun N w1 hb hf hin => hS N T5 w1 (hb06.trans (hb.mono hb06.size)) hf hin (hTD.later hb) ht5
    clear hP1 hN hN' hS hc hT2 hd3 hd3a
    go_wp2_with fail
    go_region_held3 (fun w' => w'.cell? ⟨(w2.heap.size + 1), 0, none⟩ = some (.int .i64 T5.op) ∧ w'.cell? ⟨(w2.heap.size + 1), 1, none⟩ = some (.int .i64 T5.n) ∧ w'.cell? ⟨(w2.heap.size + 1), 2, none⟩ = some (.slice T5.A T5.args.length T5.c))
      (first | exact hdc _ hd6 | exact hdc _ hq7 | exact hdc _ hq8)
      (first | (go_at_call 48; refine (names_any _).mono ?_; rintro e w7 ⟨⟨N7, rfl, hf7, hin7⟩, hb7⟩; have hq7 : Below w6.heap.size w6 w7 := hd6.trans hb7) | (go_at_call 18; refine (hS' N7 w7 hq7 hf7 hin7).mono ?_; rintro e w8 ⟨rfl, hb8⟩; have hq8 : Below w6.heap.size w6 w8 := hq7.trans (hb8.mono hq7.size)))
    have hb08 := hb06.trans (hq8.mono hb06.size)
    go_wp2_with (first | (go_at_call 48; first | (refine (names_any Wa).mono ?_; rintro e w11 ⟨⟨N11, rfl, hf11, hin11⟩, hb11⟩; have hb011 := hb0a.trans (hb11.mono hb0a.size)) | (refine (names_any w8).mono ?_; rintro e w9 ⟨⟨N9, rfl, hf9, hin9⟩, hb9⟩; have hb09 := hb08.trans (hb9.mono hb08.size))) | (go_at_call 19; first | (refine (hP3 N11 w11 hb011 hf11 hin11).mono ?_; rintro e w12 ⟨T12, rfl, ht12, hn12, hb12⟩; have hb012 := hb011.trans (hb12.mono hb011.size)) | (refine (hP2 N9 w9 hb09 hf9 hin9).mono ?_; rintro e w10 ⟨T10, rfl, ht10, hn10, hb10⟩; have hb010 := hb09.trans (hb10.mono hb09.size); obtain ⟨Wa, hWa, hBa, hsa, -⟩ := newBlk w10 _ rfl #[.int .i64 T10.op, .int .i64 T10.n, .slice T10.A T10.args.length T10.c] 27; have hb0a := hb010.trans (hBa.mono hb010.size))))
    go_ret
    exact ⟨rfl, hb012.alloc hb012.size _⟩
end Go.Proofs.YtneegmhcmegijaaDoor
