/-
  DERIVED. GIVEN WITH THE SEED: THE PROGRAM's TIES (one call each: nine closed facts by the kernel) AND EACH ROW's TIE, after the 31st guide's Derived/Test/Toyas{Tie, Card}.lean. No idea stands in it: it is a product of the set-up. Laid BY PROGRAM, IN A SANDBOX (cutbox-door.mjs). By AI agents, Wed Nov 11 2026. No macro, syntax, notation, axiom, sorry.
-/
import Derived.Test.YtnkkpjgclekobaaDoorRows
import Derived.LaidByTextLater
import Derived.SevenTiedAt
import Derived.LaidSub
import Derived.LaidOnce
namespace Go.Proofs.YtnkkpjgclekobaaDoor
open Go
set_option maxRecDepth 100000
theorem seatTie1 : Tryd.prog.laidByTextLater [("math/bits.deBruijn64tab", Rows.laid_math_bits_deBruijn64tab), ("isagoge/tree.words", Rows.laid_isagoge_tree_words), ("isagoge/tree.duals", Rows.laid_isagoge_tree_duals), ("isagoge/concept.arity", Rows.laid_isagoge_concept_arity)] [.data, .data, .data, .data] true :=
  Program.laidByTextLater_by_one 29 8 65 (by kernel_rfl) (by kernel_rfl) (by kernel_rfl) (by kernel_rfl) (by kernel_rfl) (by kernel_rfl) (fun _ _ => by kernel_rfl)
theorem noOwnUnsafe : Tryd.pinned.checked.prog.headLifts.contains "ownunsafe" = false := by kernel_rfl
theorem tie : Tryd.prog.laidByTextLater [("isagoge/tree.words", Rows.laid_isagoge_tree_words), ("isagoge/tree.duals", Rows.laid_isagoge_tree_duals), ("isagoge/concept.arity", Rows.laid_isagoge_concept_arity)] [.data, .data, .data] true :=
  Program.laidByTextLater.sub seatTie1 ["isagoge/tree.words", "isagoge/tree.duals", "isagoge/concept.arity"] (by kernel_rfl) (by kernel_rfl)
theorem conceptOwn_row_tie : Rows.conceptOwnRow.laidByTextAt .later Tryd.pinned [.data, .data, .data] true :=
  OpenClaim.laidByTextAt_later rfl rfl tie noOwnUnsafe
theorem tie2 : Tryd.prog.laidByTextLater [("math/bits.deBruijn64tab", Rows.laid_math_bits_deBruijn64tab), ("isagoge/concept.arity", Rows.laid_isagoge_concept_arity)] [.data, .data] true :=
  Program.laidByTextLater.sub seatTie1 ["math/bits.deBruijn64tab", "isagoge/concept.arity"] (by kernel_rfl) (by kernel_rfl)
theorem interpOwn_row_tie : Rows.interpOwnRow.laidByTextAt .later Tryd.pinned [.data, .data] true :=
  OpenClaim.laidByTextAt_later rfl rfl tie2 noOwnUnsafe
theorem tie3 : Tryd.prog.laidByTextLater [("math/bits.deBruijn64tab", Rows.laid_math_bits_deBruijn64tab), ("isagoge/tree.words", Rows.laid_isagoge_tree_words), ("isagoge/tree.duals", Rows.laid_isagoge_tree_duals), ("isagoge/concept.arity", Rows.laid_isagoge_concept_arity)] [.data, .data, .data, .data] true :=
  Program.laidByTextLater.sub seatTie1 ["math/bits.deBruijn64tab", "isagoge/tree.words", "isagoge/tree.duals", "isagoge/concept.arity"] (by kernel_rfl) (by kernel_rfl)
theorem hierTypes_row_tie : Rows.hierTypesRow.laidByTextAt .later Tryd.pinned [.data, .data, .data, .data] true :=
  OpenClaim.laidByTextAt_later rfl rfl tie3 noOwnUnsafe
theorem conceptOwnUpto_row_tie : Rows.conceptOwnUptoRow.laidByTextAt .later Tryd.pinned [.data, .data, .data] true :=
  OpenClaim.laidByTextAt_later rfl rfl tie noOwnUnsafe
theorem interpOwnUpto_row_tie : Rows.interpOwnUptoRow.laidByTextAt .later Tryd.pinned [.data, .data] true :=
  OpenClaim.laidByTextAt_later rfl rfl tie2 noOwnUnsafe
theorem hierTypesUpto_row_tie : Rows.hierTypesUptoRow.laidByTextAt .later Tryd.pinned [.data, .data, .data, .data] true :=
  OpenClaim.laidByTextAt_later rfl rfl tie3 noOwnUnsafe
end Go.Proofs.YtnkkpjgclekobaaDoor
