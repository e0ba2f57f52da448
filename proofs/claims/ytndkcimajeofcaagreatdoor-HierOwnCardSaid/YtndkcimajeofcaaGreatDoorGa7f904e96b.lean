import Derived.Test.YtndkcimajeofcaaGreatDoorG857cfc98f5
import Derived.Test.YtndkcimajeofcaaGreatDoorG347ab55b0a
import Derived.Test.YtndkcimajeofcaaGreatDoorG04cc6b632c
import Derived.Test.YtndkcimajeofcaaGreatDoorG6d0a07a3aa
import Derived.Test.YtndkcimajeofcaaGreatDoorGe3d385300f
import Derived.Test.YtndkcimajeofcaaGreatDoorG5c7b2addcd
import Derived.Test.YtndkcimajeofcaaGreatDoorGca908d35cb
import Derived.Test.YtndkcimajeofcaaGreatDoorG05beed6e0f
namespace Go.Proofs.YtndkcimajeofcaaGreatDoor
open Go.RowKit

end Go.Proofs.YtndkcimajeofcaaGreatDoor

namespace Go.Proofs.YtndkcimajeofcaaGreatDoor
open Go.RowKit

end Go.Proofs.YtndkcimajeofcaaGreatDoor

namespace Go.Proofs.YtndkcimajeofcaaGreatDoor
open Go.RowKit

/-- A row of one's own that holds these trees. -/
def TRow5 (base : Nat) (W : World) (v : Value) (Ls : List MT) : Prop := W.ownsRow base 33 3 v Ls.length (Ls.flatMap MT.cs)
theorem TRow5.cells {base : Nat} {W : World} {v : Value} {Ls : List MT} (h : TRow5 base W v Ls) : ∃ A c, v = .slice A Ls.length c ∧ Ls.length ≤ 9223372036854775807 ∧ (Ls.length ≠ 0 → ∃ g, A = some ⟨g, 0, none⟩ ∧ base ≤ g ∧ g < W.heap.size) ∧ RowAt W W.heap.size 3 A Ls.length (Ls.flatMap MT.cs) := by
  have hx := h.1
  rcases h.2 with ⟨rfl, h0⟩ | ⟨g, cap, cur, rfl, hge, hheap, hlen, hcap, hsize, htake⟩
  · exact ⟨none, 0, by rw [h0], by omega, fun hn => absurd h0 hn, hx, fun hn => absurd h0 hn⟩
  · unfold maxLen at hcap
    refine ⟨some ⟨g, 0, none⟩, cap, rfl, by omega, fun _ => ⟨g, rfl, hge, (Array.getElem?_eq_some_iff.1 hheap).1⟩, hx, fun _ => ⟨g, 0, rfl, (Array.getElem?_eq_some_iff.1 hheap).1, fun j hj => ?_⟩⟩
    rw [cell_of_blk hheap, Nat.zero_add, ← htake, List.getElem?_take, if_pos hj, Array.getElem?_toList]


end Go.Proofs.YtndkcimajeofcaaGreatDoor

namespace Go.Proofs.YtndkcimajeofcaaGreatDoor
open Go.RowKit
attribute [local go_sem ↓] Go.wp_at_zero Go.wp_at_succ

end Go.Proofs.YtndkcimajeofcaaGreatDoor

namespace Go.Proofs.YtndkcimajeofcaaGreatDoor
open Go.RowKit
attribute [local go_sem ↓] Go.wp_at_zero Go.wp_at_succ

/-- A row's own block is the old one, or a new one. -/
def OwnOf (w : World) (v v' : Value) : Prop := v'.ownBlock = v.ownBlock ∨ ∃ g, v'.ownBlock = some g ∧ w.heap.size ≤ g
/-- What a growing row keeps: all blocks but its own, which is the old one or a new one. -/
def Grw (w : World) (v : Value) (w' : World) (v' : Value) : Prop := w.grownBy w' v.ownBlock ∧ OwnOf w v v'
theorem grown_of_below {w w' : World} {row : Option Nat} (hb : Below w.heap.size w w') : w.grownBy w' row := ⟨hb.os, hb.tape, hb.output, hb.size, fun k hk _ => hb.block k hk⟩
theorem Grw.below {w w' : World} {v : Value} (hb : Below w.heap.size w w') : Grw w v w' v := ⟨grown_of_below hb, .inl rfl⟩
theorem Grw.trans {w w1 w2 : World} {v v1 v2 : Value} (h : Grw w v w1 v1) (k : Grw w1 v1 w2 v2) : Grw w v w2 v2 := by
  refine ⟨⟨k.1.os.trans h.1.os, k.1.tape.trans h.1.tape, k.1.output.trans h.1.output, Nat.le_trans h.1.size k.1.size, fun i hi hr => ?_⟩, ?_⟩
  · refine (k.1.block i (Nat.lt_of_lt_of_le hi h.1.size) ?_).trans (h.1.block i hi hr)
    rcases h.2 with e | ⟨g, e, hg⟩
    · rw [e]; exact hr
    · rw [e]; intro e2; cases e2; omega
  · rcases k.2 with e | ⟨g, e, hg⟩
    · rcases h.2 with e' | ⟨g, e', hg⟩
      · exact .inl (e.trans e')
      · exact .inr ⟨g, e.trans e', hg⟩
    · exact .inr ⟨g, e, Nat.le_trans h.1.size hg⟩
/-- A tree off a row stays off it. -/
theorem Grw.off {w w' : World} {v v' : Value} {X : MT} (h : Grw w v w' v') (hX : X.In w.heap.size w) (ho : MT.All (fun b => some b ≠ v.ownBlock) X) : MT.All (fun b => some b ≠ v'.ownBlock) X := by
  rcases h.2 with e | ⟨g, e, hg⟩
  · rw [e]; exact ho
  · rw [e]
    exact MT.All.imp (fun b hb e2 => by cases e2; omega) X (MT.In.all X hX)
theorem Grw.new {w w' : World} {v v' : Value} {X : MT} {lo : Nat} (h : Grw w v w' v') (hX : New lo w X) (ho : MT.All (fun b => some b ≠ v.ownBlock) X) : New lo w' X := hX.grown h.1 ho
end Go.Proofs.YtndkcimajeofcaaGreatDoor
