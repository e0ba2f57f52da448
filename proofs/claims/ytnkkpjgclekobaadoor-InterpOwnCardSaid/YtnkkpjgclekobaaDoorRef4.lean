import Derived.Test.YtnkkpjgclekobaaDoorRef3
namespace Go.Proofs.YtnkkpjgclekobaaDoor
open Go.RowKit

def rArity (op : Int) : Int := if op = 0 ∨ op = 1 ∨ op = 2 then 0 else if op = 3 ∨ op = 6 ∨ op = 7 then 1 else if op = 4 ∨ op = 5 then 2 else -1
theorem ret_two {a b c d : Int} (h : a = b) (k : c = d) : Ending.returned (.tuple #[.int .i64 a, .int .i64 c]) = .returned (.tuple #[.int .i64 b, .int .i64 d]) := by rw [h, k]
theorem eqT {a b : Int} (h : a = b) : (a == b) = true := by simpa using h
theorem eqF {a b : Int} (h : ¬ a = b) : (a == b) = false := by simpa using h
theorem sizes_take (args : List MT) (k : Nat) (hk : k < args.length) : Tr.sizes ((args.take (k + 1)).map MT.tr) = Tr.sizes ((args.take k).map MT.tr) + args[k].tr.size ∧ Tr.depths ((args.take (k + 1)).map MT.tr) = max (Tr.depths ((args.take k).map MT.tr)) args[k].tr.depth := by
  have sa : ∀ l (t : Tr), Tr.sizes (l ++ [t]) = Tr.sizes l + t.size ∧ Tr.depths (l ++ [t]) = max (Tr.depths l) t.depth := by
    intro l t
    induction l with
    | nil => simp [Tr.sizes, Tr.depths]
    | cons x l ih => simp only [List.cons_append, Tr.sizes, Tr.depths, ih.1, ih.2]; omega
  rw [List.take_succ_eq_append_getElem hk, List.map_append, List.map_singleton]
  exact sa _ _
theorem size_at (args : List MT) (k : Nat) (hk : k ≤ args.length) : Tr.sizes ((args.take k).map MT.tr) ≤ Tr.sizes (args.map MT.tr) ∧ Tr.depths ((args.take k).map MT.tr) ≤ Tr.sizes (args.map MT.tr) := by
  have dl : ∀ t : Tr, t.depth ≤ t.size := fun t => Tr.rec (motive_1 := fun t => t.depth ≤ t.size) (motive_2 := fun l => Tr.depths l ≤ Tr.sizes l)
    (fun op n args ih => by rw [Tr.depth, Tr.size]; omega) (by simp [Tr.depths, Tr.sizes]) (fun t ts h1 h2 => by rw [Tr.depths, Tr.sizes]; omega) t
  have : ∀ l : List MT, ∀ k, Tr.sizes ((l.take k).map MT.tr) ≤ Tr.sizes (l.map MT.tr) ∧ Tr.depths ((l.take k).map MT.tr) ≤ Tr.sizes (l.map MT.tr) := by
    intro l
    induction l with
    | nil => intro k; simp [Tr.sizes, Tr.depths]
    | cons x l ih =>
      intro k
      cases k with
      | zero => simp [Tr.sizes, Tr.depths]
      | succ k =>
        have := ih k
        have := dl x.tr
        simp only [List.take_succ_cons, List.map_cons, Tr.sizes, Tr.depths]; omega
  exact this args k
theorem size_arg (args : List MT) (k : Nat) (hk : k < args.length) : args[k].tr.size ≤ Tr.sizes (args.map MT.tr) := by
  have h1 := (sizes_take args k hk).1
  have h2 := (size_at args (k + 1) (by omega)).1
  omega

set_option maxRecDepth 100000 in
set_option maxHeartbeats 1000000 in
theorem rSize_any (T : MT) : ∀ (w : World), MT.In w.heap.size w T → T.tr.size ≤ 1000000 →
    Calls Tryd.prog 51 #[T.val] w fun e w' => e = .returned (.tuple #[.int .i64 T.tr.size, .int .i64 T.tr.depth]) ∧ Below w.heap.size w w' := by
  induction T using MT.induct with
  | h op nn A c args ih =>
    intro w hin hsize
    rw [MT.In] at hin
    obtain ⟨hlc, hc, hr, hrow⟩ := hin
    have hsz : args.length ≤ 9223372036854775807 := by omega
    rw [MT.tr_mk, Tr.size] at hsize
    have HF : Hid ((MT.mk op nn A c args).tr.size = Tr.sizes (args.map MT.tr) + 1 ∧ (MT.mk op nn A c args).tr.depth = Tr.depths (args.map MT.tr) + 1) := Lib.hid (by rw [MT.tr_mk, Tr.size, Tr.depth]; exact ⟨rfl, rfl⟩)
    simp only [MT.val, MT.op, MT.n, MT.A, MT.c, MT.args]
    obtain ⟨W1, hW1, hB1, hs1, -, -, hc1, -⟩ := box3 w (Value.int IntKind.i64 op) (Value.int IntKind.i64 nn) (Value.slice A args.length c) 27
    go_enter Tryd.func51, Tryd.ntmps51
    go_wp2_with fail
    have hbd := fun k hk => size_at args k hk
    go_loopw [2, 3, 11] (fun a b i wr => ∃ k : Nat, k ≤ args.length ∧ i = .int .i64 k ∧ a = .int .i64 (1 + Tr.sizes ((args.take k).map MT.tr) : Nat) ∧ b = .int .i64 (Tr.depths ((args.take k).map MT.tr) : Nat) ∧ Below w.heap.size w wr) (fun _ _ i _ => args.length - (intOf i).toNat)
    case atStart => exact ⟨0, Nat.zero_le _, rfl, rfl, rfl, hB1⟩
    case round =>
      obtain ⟨k, hk, rfl, rfl, rfl, hbw⟩ := hrel
      by_cases hlt : k < args.length
      · obtain ⟨ab, aoff, rfl, -, g0, g1, g2⟩ := elem3 hr hbw hlt
        obtain ⟨W5, hW5, hB5, hs5, hblk5⟩ := newBlk wr _ rfl #[.int .i64 args[k].op, .int .i64 args[k].n, .slice args[k].A args[k].args.length args[k].c] 27
        have hb5 : Below w.heap.size w W5 := hbw.trans (hB5.mono hbw.size)
        have hih := ih k hlt W5 ((hrow.at_ k hlt).later hb5) (by have := size_arg args k hlt; omega)
        have e0 := cell_of_blk hblk5 0
        have e1 := cell_of_blk hblk5 1
        have e2 := cell_of_blk hblk5 2
        simp only [List.getElem?_toArray, List.getElem?_cons_zero, List.getElem?_cons_succ] at e0 e1 e2
        obtain ⟨t1, t2⟩ := sizes_take args k hlt
        have h1 := hbd k hk
        have h2 := hbd (k + 1) hlt
        have H1 := Lib.hid t1
        have H2 := Lib.hid t2
        rw [t1, t2] at h2
        clear t1 t2 ih hrow hbd hc1
        generalize Tr.sizes ((args.take k).map MT.tr) = S at *
        generalize Tr.depths ((args.take k).map MT.tr) = D at *
        generalize Tr.sizes (args.map MT.tr) = ST at *
        simp only [MT.val] at hih
        go_wp2_with (go_at_call 51; refine hih.mono ?_; clear hih; rintro e w' ⟨rfl, hb2⟩)
        go_roundw
        case rel => exact ⟨k + 1, by omega, by go_num, by rw [H1.out]; congr 1; omega, by rw [H2.out]; congr 1; omega, hb5.trans (hb2.mono hb5.size)⟩
        case measure => simp [intOf]; omega
      · have h1 := hbd k hk
        have hk' : k = args.length := by omega
        subst hk'
        rw [List.take_length] at *
        go_wp2
        go_ret2
        rw [HF.out.1, HF.out.2]
        exact ⟨ret_two (by omega) (by omega), hbw⟩

theorem depth_size (t : Tr) : t.depth ≤ t.size := Tr.rec (motive_1 := fun t => t.depth ≤ t.size) (motive_2 := fun l => Tr.depths l ≤ Tr.sizes l)
    (fun op n args ih => by rw [Tr.depth, Tr.size]; omega) (by simp [Tr.depths, Tr.sizes]) (fun t ts h1 h2 => by rw [Tr.depths, Tr.sizes]; omega) t
theorem left_size (t : Tr) : ∀ m : Int, leftF t m = max (m - t.size) 0 :=
  Tr.rec (motive_1 := fun t => ∀ m : Int, leftF t m = max (m - t.size) 0) (motive_2 := fun l => ∀ m : Int, leftL l m = if 0 < m then max (m - Tr.sizes l) 0 else m)
    (fun op n args ih m => by rw [leftF, ih, Tr.size]; split <;> omega)
    (fun m => by rw [leftL, Tr.sizes]; split <;> omega)
    (fun t ts h1 h2 m => by
      rw [leftL, Tr.sizes]
      split
      · rw [h2, h1]; split <;> omega
      · rfl) t
theorem fits_size (t : Tr) (m : Int) : fitsB t m = decide ((t.size : Int) ≤ m) := by
  rw [fitsB, left_size, decide_eq_decide]; omega

/-- A struct of three in its box: its cells in every later world. -/
theorem box_cells {w w' : World} {b : Nat} {x y z : Value} {t : TypeId} (h : w.heap[b]? = some (.cells #[x, y, z] t)) (hb : Below w.heap.size w w') : w'.cell? ⟨b, 0, none⟩ = some x ∧ w'.cell? ⟨b, 1, none⟩ = some y ∧ w'.cell? ⟨b, 2, none⟩ = some z := by
  have k := blk_below h hb
  exact ⟨cell_of_blk k 0, cell_of_blk k 1, cell_of_blk k 2⟩

end Go.Proofs.YtnkkpjgclekobaaDoor
