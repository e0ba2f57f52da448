import Derived.Test.YtndkcimajeofcaaGreatDoorG14bb009558
import Derived.Maps.AppendAt
import Derived.Deep.AppendLies
import Derived.Deep.Draws
import Derived.Deep.LoopGhost
import Derived.Deep.DeepFit
namespace Go.Proofs.YtndkcimajeofcaaGreatDoor
open Go.RowKit

/-- A slice's cells: n elements of `size` cells each; where there is one, they lie in one block below B. -/
def RowAt (w : World) (B size : Nat) (A : Option Addr) (n : Nat) (xs : List Value) : Prop :=
  xs.length = n * size ∧ (n ≠ 0 → ∃ b off, A = some ⟨b, off, none⟩ ∧ b < B ∧ ∀ j, j < n * size → w.cell? ⟨b, off + j, none⟩ = xs[j]?)

theorem RowAt.nil (w : World) (B size : Nat) (A : Option Addr) : RowAt w B size A 0 [] := ⟨by simp, fun h => absurd rfl h⟩
theorem RowAt.moved {w w' : World} {B B' size n : Nat} {A : Option Addr} {xs : List Value} (h : RowAt w B size A n xs) (hB : B ≤ B') (hk : ∀ p : Addr, p.block < B → w'.cell? p = w.cell? p) : RowAt w' B' size A n xs := by
  refine ⟨h.1, fun hn => ?_⟩
  obtain ⟨b, off, hA, hb, hc⟩ := h.2 hn
  exact ⟨b, off, hA, Nat.lt_of_lt_of_le hb hB, fun j hj => by rw [hk ⟨b, off + j, none⟩ hb]; exact hc j hj⟩
theorem RowAt.below {w w' : World} {B B' size n : Nat} {A : Option Addr} {xs : List Value} (h : RowAt w B size A n xs) (hB : B ≤ B') (hb : Below B w w') : RowAt w' B' size A n xs := h.moved hB fun _ hp => hb.cell hp

/-- A tree, as it is meant. -/
inductive Tr where
  | mk (op n : Int) (args : List Tr)

/-- A tree as it lies: each node with the address and the capacity of its Args. -/
inductive MT where
  | mk (op n : Int) (A : Option Addr) (c : Nat) (args : List MT)

theorem MT.induct {P : MT → Prop} (h : ∀ op n A c args, (∀ (k : Nat) (hk : k < args.length), P args[k]) → P (.mk op n A c args)) : ∀ T, P T :=
  fun T => MT.rec (motive_1 := P) (motive_2 := fun l => ∀ (k : Nat) (hk : k < l.length), P l[k])
    (fun op n A c args ih => h op n A c args ih)
    (fun k hk => absurd hk (Nat.not_lt_zero _))
    (fun t ts h1 h2 k hk => by
      cases k with
      | zero => exact h1
      | succ k => exact h2 k (by simpa using hk)) T

def MT.op : MT → Int | .mk op _ _ _ _ => op
def MT.n : MT → Int | .mk _ n _ _ _ => n
def MT.A : MT → Option Addr | .mk _ _ A _ _ => A
def MT.c : MT → Nat | .mk _ _ _ c _ => c
def MT.args : MT → List MT | .mk _ _ _ _ args => args
def MT.cs (T : MT) : List Value := [.int .i64 T.op, .int .i64 T.n, .slice T.A T.args.length T.c]
def MT.val (T : MT) : Value := .agg #[.int .i64 T.op, .int .i64 T.n, .slice T.A T.args.length T.c]

mutual
/-- THE TREE LIES IN w, its blocks below B. -/
def MT.In (B : Nat) (w : World) : MT → Prop
  | .mk _ _ A c args => args.length ≤ c ∧ c ≤ 9223372036854775807 ∧ RowAt w B 3 A args.length (args.flatMap MT.cs) ∧ MT.InAll B w args
def MT.InAll (B : Nat) (w : World) : List MT → Prop
  | [] => True
  | t :: ts => MT.In B w t ∧ MT.InAll B w ts
end

mutual
def MT.tr : MT → Tr
  | .mk op n _ _ args => .mk op n (MT.trs args)
def MT.trs : List MT → List Tr
  | [] => []
  | t :: ts => MT.tr t :: MT.trs ts
end

theorem MT.trs_map : ∀ l : List MT, MT.trs l = l.map MT.tr
  | [] => rfl
  | t :: ts => by rw [MT.trs, MT.trs_map ts]; rfl
theorem MT.tr_mk (op n : Int) (A : Option Addr) (c : Nat) (args : List MT) : MT.tr (.mk op n A c args) = .mk op n (args.map MT.tr) := by rw [MT.tr, MT.trs_map]

theorem MT.InAll.at_ {B : Nat} {w : World} : ∀ {ts : List MT}, MT.InAll B w ts → ∀ (k : Nat) (hk : k < ts.length), MT.In B w ts[k]
  | [], _, k, hk => absurd hk (Nat.not_lt_zero _)
  | t :: ts, h, k, hk => by
    rw [MT.InAll] at h
    cases k with
    | zero => exact h.1
    | succ k => exact MT.InAll.at_ h.2 k (by simpa using hk)

theorem MT.InAll.of {B : Nat} {w : World} : ∀ {ts : List MT}, (∀ t ∈ ts, MT.In B w t) → MT.InAll B w ts
  | [], _ => by rw [MT.InAll]; trivial
  | t :: ts, h => by rw [MT.InAll]; exact ⟨h t (by simp), MT.InAll.of fun t ht => h t (by simp [ht])⟩

theorem cs_at : ∀ (args : List MT) (k : Nat) (hk : k < args.length),
    (args.flatMap MT.cs)[3 * k]? = some (Value.int .i64 args[k].op) ∧ (args.flatMap MT.cs)[3 * k + 1]? = some (Value.int .i64 args[k].n) ∧ (args.flatMap MT.cs)[3 * k + 2]? = some (Value.slice args[k].A args[k].args.length args[k].c)
  | [], k, hk => absurd hk (Nat.not_lt_zero _)
  | t :: ts, k, hk => by
    cases k with
    | zero => exact ⟨rfl, rfl, rfl⟩
    | succ k => exact cs_at ts k (by simpa using hk)

theorem MT.in_keep {B B' : Nat} {w w' : World} (hB : B ≤ B') (hk : ∀ p : Addr, p.block < B → w'.cell? p = w.cell? p) : ∀ (T : MT), MT.In B w T → MT.In B' w' T :=
  fun T => MT.rec (motive_1 := fun T => MT.In B w T → MT.In B' w' T) (motive_2 := fun l => MT.InAll B w l → MT.InAll B' w' l)
    (fun op n A c args ih h => by
      rw [MT.In] at h ⊢
      obtain ⟨h1, h2, h3, h4⟩ := h
      exact ⟨h1, h2, h3.moved hB hk, ih h4⟩)
    (fun _ => by rw [MT.InAll]; trivial)
    (fun t ts h1 h2 h => by
      rw [MT.InAll] at h ⊢
      exact ⟨h1 h.1, h2 h.2⟩) T

theorem MT.In.below {B : Nat} {w w' : World} {T : MT} (h : MT.In B w T) (hb : Below B w w') : MT.In B w' T := MT.in_keep (Nat.le_refl _) (fun _ hp => hb.cell hp) T h
theorem MT.In.more {B B' : Nat} {w : World} {T : MT} (h : MT.In B w T) (hB : B ≤ B') : MT.In B' w T := MT.in_keep hB (fun _ _ => rfl) T h
/-- A tree that lay when the call began lies still. -/
theorem MT.In.later {w w' : World} {T : MT} (h : MT.In w.heap.size w T) (hb : Below w.heap.size w w') : MT.In w'.heap.size w' T := (h.below hb).more hb.size

/-- The three cells of the k-th element, as the walk spells their addresses. -/
theorem elem3 {w wr : World} {B : Nat} {A : Option Addr} {args : List MT} {k : Nat} (hr : RowAt w B 3 A args.length (args.flatMap MT.cs)) (hb : Below B w wr) (hk : k < args.length) :
    ∃ b off, A = some ⟨b, off, none⟩ ∧ b < B ∧ wr.cell? ⟨b, off + k * 3, none⟩ = some (Value.int .i64 args[k].op) ∧ wr.cell? ⟨b, off + k * 3 + 1, none⟩ = some (Value.int .i64 args[k].n) ∧ wr.cell? ⟨b, off + k * 3 + 2, none⟩ = some (Value.slice args[k].A args[k].args.length args[k].c) := by
  obtain ⟨b, off, rfl, hlt, hc⟩ := hr.2 (by omega)
  obtain ⟨e0, e1, e2⟩ := cs_at args k hk
  have at_ : ∀ j, j < args.length * 3 → wr.cell? ⟨b, off + j, none⟩ = (args.flatMap MT.cs)[j]? := fun j hj => (hb.cell (p := ⟨b, off + j, none⟩) hlt).trans (hc j hj)
  refine ⟨b, off, rfl, hlt, ?_, ?_, ?_⟩
  · rw [at_ _ (by omega), Nat.mul_comm k 3]; exact e0
  · rw [Nat.add_assoc, at_ _ (by omega), Nat.mul_comm k 3]; exact e1
  · rw [Nat.add_assoc, at_ _ (by omega), Nat.mul_comm k 3]; exact e2

theorem World.alloc_heap_new' (w : World) (o : Obj) : (w.alloc o).heap[w.heap.size]? = some o := by
  show (w.heap.push o)[w.heap.size]? = _
  rw [Array.getElem?_push, if_pos rfl]

/-- A node laid in a block of its own. -/
theorem box3 (w : World) (a b c : Value) (t : TypeId) : ∃ W1, w.alloc (.cells #[a, b, c] t) = W1 ∧ Below w.heap.size w W1 ∧ W1.heap.size = w.heap.size + 1 ∧
    W1.cell? ⟨w.heap.size, 0, none⟩ = some a ∧ W1.cell? ⟨w.heap.size, 1, none⟩ = some b ∧ W1.cell? ⟨w.heap.size, 2, none⟩ = some c ∧ W1.heap[w.heap.size]? = some (.cells #[a, b, c] t) := by
  refine ⟨_, rfl, (Below.refl _ _).alloc (Nat.le_refl _) _, by simp, ?_, ?_, ?_, World.alloc_heap_new' _ _⟩ <;> simp

mutual
def leftF : Tr → Int → Int
  | .mk _ _ args, m => max (leftL args (m - 1)) 0
def leftL : List Tr → Int → Int
  | [], m => m
  | t :: ts, m => if 0 < m then leftL ts (leftF t m) else m
end

theorem leftF_bd (T : Tr) : ∀ m, 0 ≤ leftF T m ∧ leftF T m ≤ max m 0 :=
  Tr.rec (motive_1 := fun T => ∀ m, 0 ≤ leftF T m ∧ leftF T m ≤ max m 0) (motive_2 := fun l => ∀ m, leftL l m ≤ max m 0)
    (fun op n args ih m => by
      have := ih (m - 1)
      rw [leftF]; omega)
    (fun m => by rw [leftL]; omega)
    (fun t ts h1 h2 m => by
      rw [leftL]
      split
      · have a := h1 m
        have b := h2 (leftF t m)
        omega
      · omega) T

theorem leftL_drop (args : List MT) (k : Nat) (hk : k < args.length) (m : Int) (h : 0 < m) : leftL ((args.map MT.tr).drop k) m = leftL ((args.map MT.tr).drop (k + 1)) (leftF args[k].tr m) := by
  rw [List.drop_eq_getElem_cons (by simpa using hk), leftL, if_pos h]; simp
theorem leftL_stop (l : List Tr) (m : Int) (h : ¬ 0 < m) : leftL l m = m := by
  cases l with
  | nil => rw [leftL]
  | cons t ts => rw [leftL, if_neg h]

set_option maxRecDepth 100000 in
set_option maxHeartbeats 1000000 in
theorem left_any (T : MT) : ∀ (m : Int) (w : World), MT.In w.heap.size w T → -4000000000000000000 ≤ m → m ≤ 4000000000000000000 →
    Calls Tryz.prog 87 #[T.val, .int .i64 m] w fun e w' => e = .returned (.int .i64 (leftF T.tr m)) ∧ Below w.heap.size w w' := by
  induction T using MT.induct with
  | h op nn A c args ih =>
    intro m w hin hm0 hm1
    rw [MT.In] at hin
    obtain ⟨hlc, hc, hr, hrow⟩ := hin
    have hsz : args.length ≤ 9223372036854775807 := by omega
    have HF : Hid (leftF (MT.mk op nn A c args).tr m = max (leftL (args.map MT.tr) (m - 1)) 0) := Lib.hid (by rw [MT.tr_mk, leftF])
    simp only [MT.val, MT.op, MT.n, MT.A, MT.c, MT.args]
    go_enter Tryz.func87, Tryz.ntmps87
    go_wp2_with fail
    obtain ⟨W1, hW1, hB1, hs1, -, -, hc1, -⟩ := box3 w (Value.int IntKind.i64 op) (Value.int IntKind.i64 nn) (Value.slice A args.length c) 33
    rw [hW1]
    clear hW1
    go_loopw [1, 5] (fun v i wr => ∃ (k : Nat) (cur : Int), k ≤ args.length ∧ i = .int .i64 k ∧ v = .int .i64 cur ∧ leftL (args.map MT.tr) (m - 1) = leftL ((args.map MT.tr).drop k) cur ∧ cur ≤ 4000000000000000000 ∧ Below (w.heap.size + 1) W1 wr) (fun _ i _ => args.length - (intOf i).toNat)
    case atStart => exact ⟨0, _, Nat.zero_le _, rfl, rfl, rfl, by omega, Below.refl _ _⟩
    case round =>
      obtain ⟨k, cur, hk, rfl, rfl, heq, hcur, hb⟩ := hrel
      have HE := Lib.hid heq
      clear heq
      have hcw := (hb.cell (p := ⟨w.heap.size, 2, none⟩) (by simp)).trans hc1
      have HB := Lib.hid hb
      clear hb hc1
      have hbw : Below w.heap.size w wr := hB1.trans (HB.out.mono (by omega))
      by_cases hlt : k < args.length
      · by_cases hpos : 0 < cur
        · obtain ⟨ab, aoff, rfl, -, g0, g1, g2⟩ := elem3 hr hbw hlt
          have hih := (ih k hlt cur wr (((hrow.at_ k hlt).below hbw).more hbw.size) (by omega) (by omega))
          have HS : Hid _ := Lib.hid (leftL_drop args k hlt cur hpos)
          have hbd := leftF_bd args[k].tr cur
          clear ih hrow
          go_wp2_with (go_at_call 87; refine hih.mono ?_; clear hih; rintro e w' ⟨rfl, hb2⟩)
          go_roundw
          case rel => exact ⟨k + 1, _, by omega, by go_num, rfl, HE.out.trans HS.out, by omega, HB.out.trans (hb2.mono (by have := HB.out.size; omega))⟩
          case measure => simp [intOf]; omega
        · go_wp2
          all_goals
            go_ret
            exact ⟨ret_int (by rw [HF.out, HE.out, leftL_stop _ _ (by omega)]; omega), hbw⟩
      · go_wp2
        all_goals
          go_ret
          exact ⟨ret_int (by rw [HF.out, HE.out, List.drop_of_length_le (by simp; omega), leftL]; omega), hbw⟩

def fitsB (T : Tr) (most : Int) : Bool := decide (0 < leftF T (most + 1))

set_option maxHeartbeats 1000000 in
theorem Fits_any (T : MT) (m : Int) (w : World) (hin : MT.In w.heap.size w T) (hm0 : -1000000000000000000 ≤ m) (hm1 : m ≤ 1000000000000000000) :
    Calls Tryz.prog 48 #[T.val, .int .i64 m] w fun e w' => e = .returned (.bool (fitsB T.tr m)) ∧ Below w.heap.size w w' := by
  obtain ⟨W1, hW1, hB1, hs1, c0, c1, c2, -⟩ := box3 w (Value.int .i64 T.op) (Value.int .i64 T.n) (Value.slice T.A T.args.length T.c) 33
  have hl := left_any T (m + 1) W1 (hin.later hB1) (by omega) (by omega)
  have hl2 := hl.mono (R' := fun e w' => e = .returned (.int .i64 (leftF T.tr (m + 1))) ∧ Below w.heap.size w w') fun e w' h => ⟨h.1, hB1.trans (h.2.mono (by omega))⟩
  simp only [MT.val] at hl2 ⊢
  clear hl
  go_enter Tryz.func48, Tryz.ntmps48
  go_wp2_with (go_at_call 87; refine hl2.mono ?_; rintro e w' ⟨rfl, hb⟩)
  go_ret
  exact ⟨rfl, hb⟩
end Go.Proofs.YtndkcimajeofcaaGreatDoor
