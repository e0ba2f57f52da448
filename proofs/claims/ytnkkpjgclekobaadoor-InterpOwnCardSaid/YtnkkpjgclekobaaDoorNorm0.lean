import Derived.Test.YtnkkpjgclekobaaDoorPushed
namespace Go.Proofs.YtnkkpjgclekobaaDoor
open Go.RowKit Go.Shelf

mutual
def Tr.size : Tr → Nat
  | .mk _ _ args => Tr.sizes args + 1
def Tr.sizes : List Tr → Nat
  | [] => 0
  | t :: ts => Tr.size t + Tr.sizes ts
end
mutual
def Tr.depth : Tr → Nat
  | .mk _ _ args => Tr.depths args + 1
def Tr.depths : List Tr → Nat
  | [] => 0
  | t :: ts => max (Tr.depth t) (Tr.depths ts)
end

theorem MT.pre_length : ∀ (T : MT) (lev : Nat), (T.pre lev).length = T.tr.size :=
  fun T => MT.rec (motive_1 := fun T => ∀ lev, (T.pre lev).length = T.tr.size) (motive_2 := fun l => ∀ lev, (MT.preAll lev l).length = Tr.sizes (MT.trs l))
    (fun op n A c args ih lev => by rw [MT.pre, List.length_cons, ih, MT.tr, Tr.size])
    (fun lev => by rw [MT.preAll, MT.trs, Tr.sizes]; rfl)
    (fun t ts h1 h2 lev => by rw [MT.preAll, List.length_append, h1, h2, MT.trs, Tr.sizes]) T

theorem MT.pre_depth : ∀ (T : MT) (lev d : Nat), (T.pre lev).foldl (fun d x => max d x.1) d = max d (lev + T.tr.depth - 1) :=
  fun T => MT.rec (motive_1 := fun T => ∀ lev d, (T.pre lev).foldl (fun d x => max d x.1) d = max d (lev + T.tr.depth - 1)) (motive_2 := fun l => ∀ lev d, lev ≤ d + 1 → (MT.preAll lev l).foldl (fun d x => max d x.1) d = max d (lev + Tr.depths (MT.trs l) - 1))
    (fun op n A c args ih lev d => by
      rw [MT.pre, List.foldl_cons, ih _ _ (by simp only []; omega), MT.tr, Tr.depth]
      simp only []
      omega)
    (fun lev d h => by rw [MT.preAll, MT.trs, Tr.depths]; simp only [List.foldl_nil]; omega)
    (fun t ts h1 h2 lev d h => by
      rw [MT.preAll, List.foldl_append, h1, h2 _ _ (by omega), MT.trs, Tr.depths]
      have : 1 ≤ t.tr.depth := by cases t with | mk op n A c args => rw [MT.tr, Tr.depth]; omega
      omega) T
theorem maxLev_pre (T : MT) : maxLev (T.pre 1) = T.tr.depth := by
  rw [maxLev, MT.pre_depth]; omega

theorem nnf_size (t : Tr) : ∀ neg, (nnf t neg).size ≤ 2 * t.size :=
  Tr.rec (motive_1 := fun t => ∀ neg, (nnf t neg).size ≤ 2 * t.size) (motive_2 := fun l => ∀ neg, Tr.sizes (nnfs l neg) ≤ 2 * Tr.sizes l ∧ (nnfHead l neg).size ≤ 2 * Tr.sizes l + 1)
    (fun op n args ih neg => by
      rw [nnf, Tr.size]
      split
      · have := (ih (!neg)).2; omega
      · split
        · simp only [Tr.size, Tr.sizes]; omega
        · rw [Tr.size]; have := (ih neg).1; omega)
    (fun neg => by simp [nnfs, nnfHead, Tr.sizes, Tr.size])
    (fun t ts h1 h2 neg => by
      rw [nnfs, nnfHead, Tr.sizes, Tr.sizes]
      have a := h1 neg
      have b := (h2 neg).1
      omega) t

def smallB (t : Tr) : Bool := decide (t.size ≤ 400) && decide (t.depth ≤ 20)

/-- The call hands back a new tree that is f, and a code. -/
def RetTreeE (w : World) (f : Tr) (c : Int) (e : Ending) (w' : World) : Prop :=
  ∃ T' : MT, e = .returned (.tuple #[.agg #[.int .i64 T'.op, .int .i64 T'.n, .slice T'.A T'.args.length T'.c], .int .i64 c]) ∧ T'.tr = f ∧ New w.heap.size w' T' ∧ Below w.heap.size w w'
def zeroTr : Tr := .mk 0 0 []
def zeroMT : MT := .mk 0 0 none 0 []
theorem new_zero (lo : Nat) (w : World) : New lo w zeroMT := by
  refine ⟨?_, ?_⟩
  · rw [zeroMT, MT.In]; exact ⟨Nat.le_refl _, by simp, RowAt.nil _ _ _ _, by rw [MT.InAll]; trivial⟩
  · rw [zeroMT, Mine, MT.All]; exact ⟨fun h => absurd rfl h, by rw [MT.Alls]; trivial⟩

/-- What Normal and Not hand back. -/
def normTr (n : NM) (T : MT) (neg : Bool) : Tr := if checkF n T == 0 then (if smallB (nnf T.tr neg) then nnf T.tr neg else zeroTr) else zeroTr
def normE (n : NM) (T : MT) (neg : Bool) : Int := if checkF n T == 0 then (if smallB (nnf T.tr neg) then 0 else 2) else checkF n T

theorem checkF_zero {n : NM} {T : MT} (h : (checkF n T == 0) = true) : n.ok = true ∧ validB n T = true := by
  have h' : checkF n T = 0 := by simpa using h
  unfold checkF at h'
  cases hok : n.ok
  · rw [hok] at h'; simp at h'
  · rw [hok] at h'
    cases hv : validB n T
    · rw [hv] at h'; simp [codeIf] at h'
    · exact ⟨rfl, rfl⟩
theorem valid_size {n : NM} {T : MT} (h : validB n T = true) : T.tr.size ≤ 400 := by
  simp only [validB, Bool.and_eq_true, decide_eq_true_eq] at h
  rw [← MT.pre_length T 1]; exact h.1
end Go.Proofs.YtnkkpjgclekobaaDoor
