import Derived.Test.YtnkkpjgclekobaaDoorMid
namespace Go.Proofs.YtnkkpjgclekobaaDoor
open Go.RowKit

theorem wordL_start (s : ByteArray) (h : 0 < s.size) (hl : isLet s[0].toNat = false) : wordL s.data.toList = false := by
  have g0 := bytes_get s 0 h
  cases hd : s.data.toList with
  | nil => rfl
  | cons c r =>
    rw [hd] at g0; simp only [List.getElem?_cons_zero, Option.some.injEq] at g0; subst g0
    simp only [wordL, hl, Bool.false_and]
theorem isIn_of_let {a : Int} (h : isLet a = true) : isIn a = true := by simp [isIn, h]

theorem getD_of {l : List ByteArray} {k : Nat} (h : k < l.length) : l.getD k ByteArray.empty = l[k] := by
  rw [List.getD_eq_getElem?_getD, List.getElem?_eq_getElem h]; rfl
end Go.Proofs.YtnkkpjgclekobaaDoor
