import Derived.Test.YtndkcimajeofcaaGreatDoorG347ab55b0a
import Derived.Test.YtndkcimajeofcaaGreatDoorG23e6c92c66
import Derived.Test.YtndkcimajeofcaaGreatDoorG05beed6e0f
import Derived.Lib.Bytealg
import Derived.WalkLawsBesides
import Derived.Recover
import Derived.Laws.Pointers
namespace Go.Proofs.YtndkcimajeofcaaGreatDoor
open Go.RowKit

end Go.Proofs.YtndkcimajeofcaaGreatDoor

namespace Go.Proofs.YtndkcimajeofcaaGreatDoor
open Go.RowKit

end Go.Proofs.YtndkcimajeofcaaGreatDoor

namespace Go.Proofs.YtndkcimajeofcaaGreatDoor
open Go.RowKit

section
variable {n : NM} {B pb : Nat} {ts : List ByteArray} {w w' : World}
end

theorem Tail.In {c b off B : Nat} {t : ByteArray} {r : List ByteArray} {w : World} (h : (SL.mk (some ⟨b, off, none⟩) c (t :: r)).In B w) : (SL.mk (some ⟨b, off + 1, none⟩) (c - 1) r).In B w := by
  obtain ⟨h1, h2, h3, h4, h5⟩ := h
  simp only [List.length_cons] at h1 h2 h4 h5
  refine ⟨by simp only; omega, by simp only; omega, by simp, ⟨by simp, fun hn => ?_⟩, fun x hx => h5 x (List.mem_cons_of_mem _ hx)⟩
  obtain ⟨b', off', hA', hb, hc⟩ := h4.2 (by omega)
  cases hA'
  refine ⟨b, off + 1, rfl, hb, fun j hj => ?_⟩
  simp only at hj
  have := hc (j + 1) (by omega)
  rw [show off + 1 + j = off + (j + 1) by omega, this]
  simp
end Go.Proofs.YtndkcimajeofcaaGreatDoor

namespace Go.Proofs.YtndkcimajeofcaaGreatDoor
open Go.RowKit

theorem New.pb {lo pb : Nat} {w w' : World} {T : MT} (h : New lo w T) (hg : w.grownBy w' (some pb)) (hl : pb < lo) : New lo w' T :=
  h.grown hg (MT.All.imp (fun b hb e => by have := Option.some.inj e; have := hb.1; omega) _ h.2)
end Go.Proofs.YtndkcimajeofcaaGreatDoor

namespace Go.Proofs.YtndkcimajeofcaaGreatDoor
open Go.RowKit

end Go.Proofs.YtndkcimajeofcaaGreatDoor

namespace Go.Proofs.YtndkcimajeofcaaGreatDoor
open Go.RowKit

end Go.Proofs.YtndkcimajeofcaaGreatDoor

namespace Go.Proofs.YtndkcimajeofcaaGreatDoor
open Go.RowKit

/-! What the tokens of a string that String has written are. -/

section
variable (C R : List ByteArray) {op : Int} (n : Int) (l : List (List UInt8)) (m : List (List (List UInt8)))
end

/-- Every name that is written is a word, and no reserved one. -/
def Words (L : List ByteArray) : Prop := ∀ k, k < L.length → nameL (nameAt L k) = true

end Go.Proofs.YtndkcimajeofcaaGreatDoor

namespace Go.Proofs.YtndkcimajeofcaaGreatDoor
open Go.RowKit

/-- Every name of a list is one, and is found where it stands. -/
def Finds (L : List ByteArray) : Prop := ∀ k, k < L.length → nameL (nameAt L k) = true ∧ Lib.idxOfS L (strOf (nameAt L k)) = k
theorem Finds.words {L : List ByteArray} (h : Finds L) : Words L := fun k hk => (h k hk).1
end Go.Proofs.YtndkcimajeofcaaGreatDoor

namespace Go.Proofs.YtndkcimajeofcaaGreatDoor
open Go.RowKit

end Go.Proofs.YtndkcimajeofcaaGreatDoor
