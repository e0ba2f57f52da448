/-
  NARROWER THAN 'FOR EVERY INPUT', by the rows' own cells (each row's printed sentence says how): InterpMoved: loops, laid · HierRoles: loops, laid · HierMarks: loops, laid · HierTrue: loops, laid · HierOrder: loops, laid · HierTypes: loops, laid · HierOwn: loops, laid.
  DERIVED. THE GIVEN ROWS OF THIS SEAT. 7 by the template 'for every input the law returns true; each argument reads behind the call as it read before'; 0 by the template 'total and deterministic' (their statements: YtndkcimajeofcaaGreatDoorTotals.lean).
  GIVEN WITH THE SEED: the statements are not yours to turn. If you find one false, say at which input.
  Laid BY PROGRAM, IN A SANDBOX (cutbox-rows.mjs): the forced cells as the released guide's own fill.sh prints them over the translation bdf19aa10138c127… (all of the seat's roots in one cut). By AI agents, Wed Nov 11 2026. No macro, syntax, notation, axiom, sorry.
-/
import Derived.Test.YtndkcimajeofcaaGreatDoorChecked
import GoSem.Claim
import GoSem.ClaimJoined
import GoSem.ClaimMapViews
import Derived.JoinedTies
import Derived.KernelRfl
namespace Go.Proofs.YtndkcimajeofcaaGreatDoor
/- THE CELL 'sum', in the pinned program and in every row, IS THE sha256 OF THE DUMP (.gsa) THAT YtndkcimajeofcaaGreatDoorProg.lean LOADS. Nothing in Lean hashes anything: it is a label: what it is worth is what the hold of that sum in a sandbox is worth. -/
noncomputable def Tryz.pinned : Pinned := { name := "ytndkcimajeofcaagreatdoor", sum := "bdf19aa10138c1274f69059dccbedd7185d783b1ca51221b7d0f8acafe3d5723", checked := Tryz.checked }
namespace Rows
def none {H : Type} : Left H := { results := [], args := [] }

/- WHAT THE LISTED PACKAGE-LEVEL VARIABLES READ AS WHEN THE CALL BEGINS. Each datum BY PROGRAM (the guide's laid-datum.mjs) off the statement by which the dump's own 'gosem.cut.vars' lays the variable. In a bare row this is a premise. The card (YtndkcimajeofcaaGreatDoorCards.lean) ties it to the program's text. -/
def laid_math_bits_deBruijn64tab {H : Type} : DataW H := .agg [.lit (.int .u8 0), .lit (.int .u8 1), .lit (.int .u8 56), .lit (.int .u8 2), .lit (.int .u8 57), .lit (.int .u8 49), .lit (.int .u8 28), .lit (.int .u8 3), .lit (.int .u8 61), .lit (.int .u8 58), .lit (.int .u8 42), .lit (.int .u8 50), .lit (.int .u8 38), .lit (.int .u8 29), .lit (.int .u8 17), .lit (.int .u8 4), .lit (.int .u8 62), .lit (.int .u8 47), .lit (.int .u8 59), .lit (.int .u8 36), .lit (.int .u8 45), .lit (.int .u8 43), .lit (.int .u8 51), .lit (.int .u8 22), .lit (.int .u8 53), .lit (.int .u8 39), .lit (.int .u8 33), .lit (.int .u8 30), .lit (.int .u8 24), .lit (.int .u8 18), .lit (.int .u8 12), .lit (.int .u8 5), .lit (.int .u8 63), .lit (.int .u8 55), .lit (.int .u8 48), .lit (.int .u8 27), .lit (.int .u8 60), .lit (.int .u8 41), .lit (.int .u8 37), .lit (.int .u8 16), .lit (.int .u8 46), .lit (.int .u8 35), .lit (.int .u8 44), .lit (.int .u8 21), .lit (.int .u8 52), .lit (.int .u8 32), .lit (.int .u8 23), .lit (.int .u8 11), .lit (.int .u8 54), .lit (.int .u8 26), .lit (.int .u8 40), .lit (.int .u8 15), .lit (.int .u8 34), .lit (.int .u8 20), .lit (.int .u8 31), .lit (.int .u8 10), .lit (.int .u8 25), .lit (.int .u8 14), .lit (.int .u8 19), .lit (.int .u8 9), .lit (.int .u8 13), .lit (.int .u8 8), .lit (.int .u8 7), .lit (.int .u8 6)]
def laid_isagoge_concept_arity {H : Type} : DataW H := .agg [.lit (.int .i64 0), .lit (.int .i64 0), .lit (.int .i64 0), .lit (.int .i64 1), .lit (.int .i64 2), .lit (.int .i64 2), .lit (.int .i64 1), .lit (.int .i64 1)]
def laid_isagoge_tree_words {H : Type} : DataW H := .agg [.lit (.string []), .lit (.string [116, 111, 112]), .lit (.string [98, 111, 116]), .lit (.string [110, 111, 116]), .lit (.string [97, 110, 100]), .lit (.string [111, 114]), .lit (.string [115, 111, 109, 101]), .lit (.string [97, 108, 108])]
def laid_isagoge_tree_duals {H : Type} : DataW H := .agg [.lit (.int .i64 0), .lit (.int .i64 2), .lit (.int .i64 1), .lit (.int .i64 0), .lit (.int .i64 5), .lit (.int .i64 4), .lit (.int .i64 7), .lit (.int .i64 6)]

/-- 'isagogelaw03.InterpMoved': WHATEVER THE INPUT: true; the input reads as it did. -/
def interpMovedSpec : ChangeSpec := { name := "interpMoved", fn := fun _ => fun
  | [d1, d2, d3, d4] => { results := [.lit (.bool true)], args := [d1, d2, d3, d4] }
  | _ => none }
def interpMovedRow : OpenClaim := { program := "ytndkcimajeofcaagreatdoor", sum := "bdf19aa10138c1274f69059dccbedd7185d783b1ca51221b7d0f8acafe3d5723", func := "isagoge/isagogelaw03.InterpMoved", spec := "interpMoved", unfollowed := true, recurses := true, named := ["isagoge/concept.arity", "math/bits.deBruijn64tab"], loops := true, plainKeys := false, apart := false, laid := [("math/bits.deBruijn64tab", laid_math_bits_deBruijn64tab), ("isagoge/concept.arity", laid_isagoge_concept_arity)] }
def InterpMovedSaid : Prop := interpMovedRow.holds Tryz.pinned (OpenSpec.ofChange interpMovedSpec)

/-- ITS FALSE NEIGHBOUR: 'it returns false'. Refute it at one input. -/
def interpMovedWrong : ChangeSpec := { name := "interpMoved", fn := fun _ => fun
  | [d1, d2, d3, d4] => { results := [.lit (.bool false)], args := [d1, d2, d3, d4] }
  | _ => none }
def InterpMovedWrongFalsely : Prop := interpMovedRow.holds Tryz.pinned (OpenSpec.ofChange interpMovedWrong)

/-- 'isagogelaw05.HierRoles': WHATEVER THE INPUT: true; the input reads as it did. -/
def hierRolesSpec : ChangeSpec := { name := "hierRoles", fn := fun _ => fun
  | [d1, d2, d3] => { results := [.lit (.bool true)], args := [d1, d2, d3] }
  | _ => none }
def hierRolesRow : OpenClaim := { program := "ytndkcimajeofcaagreatdoor", sum := "bdf19aa10138c1274f69059dccbedd7185d783b1ca51221b7d0f8acafe3d5723", func := "isagoge/isagogelaw05.HierRoles", spec := "hierRoles", inPlace := ["internal/abi.NoEscape"], unfollowed := true, recurses := true, named := ["isagoge/concept.arity", "math/bits.deBruijn64tab", "isagoge/tree.words", "isagoge/tree.duals"], loops := true, plainKeys := false, apart := false, laid := [("math/bits.deBruijn64tab", laid_math_bits_deBruijn64tab), ("isagoge/tree.words", laid_isagoge_tree_words), ("isagoge/tree.duals", laid_isagoge_tree_duals), ("isagoge/concept.arity", laid_isagoge_concept_arity)] }
def HierRolesSaid : Prop := hierRolesRow.holds Tryz.pinned (OpenSpec.ofChange hierRolesSpec)

/-- ITS FALSE NEIGHBOUR: 'it returns false'. Refute it at one input. -/
def hierRolesWrong : ChangeSpec := { name := "hierRoles", fn := fun _ => fun
  | [d1, d2, d3] => { results := [.lit (.bool false)], args := [d1, d2, d3] }
  | _ => none }
def HierRolesWrongFalsely : Prop := hierRolesRow.holds Tryz.pinned (OpenSpec.ofChange hierRolesWrong)

/-- 'isagogelaw05.HierMarks': WHATEVER THE INPUT: true; the input reads as it did. -/
def hierMarksSpec : ChangeSpec := { name := "hierMarks", fn := fun _ => fun
  | [d1, d2] => { results := [.lit (.bool true)], args := [d1, d2] }
  | _ => none }
def hierMarksRow : OpenClaim := { program := "ytndkcimajeofcaagreatdoor", sum := "bdf19aa10138c1274f69059dccbedd7185d783b1ca51221b7d0f8acafe3d5723", func := "isagoge/isagogelaw05.HierMarks", spec := "hierMarks", inPlace := ["internal/abi.NoEscape"], unfollowed := true, recurses := true, named := ["isagoge/concept.arity", "math/bits.deBruijn64tab", "isagoge/tree.words", "isagoge/tree.duals"], loops := true, plainKeys := false, apart := false, laid := [("math/bits.deBruijn64tab", laid_math_bits_deBruijn64tab), ("isagoge/tree.words", laid_isagoge_tree_words), ("isagoge/tree.duals", laid_isagoge_tree_duals), ("isagoge/concept.arity", laid_isagoge_concept_arity)] }
def HierMarksSaid : Prop := hierMarksRow.holds Tryz.pinned (OpenSpec.ofChange hierMarksSpec)

/-- ITS FALSE NEIGHBOUR: 'it returns false'. Refute it at one input. -/
def hierMarksWrong : ChangeSpec := { name := "hierMarks", fn := fun _ => fun
  | [d1, d2] => { results := [.lit (.bool false)], args := [d1, d2] }
  | _ => none }
def HierMarksWrongFalsely : Prop := hierMarksRow.holds Tryz.pinned (OpenSpec.ofChange hierMarksWrong)

/-- 'isagogelaw05.HierTrue': WHATEVER THE INPUT: true; the input reads as it did. -/
def hierTrueSpec : ChangeSpec := { name := "hierTrue", fn := fun _ => fun
  | [d1, d2, d3, d4] => { results := [.lit (.bool true)], args := [d1, d2, d3, d4] }
  | _ => none }
def hierTrueRow : OpenClaim := { program := "ytndkcimajeofcaagreatdoor", sum := "bdf19aa10138c1274f69059dccbedd7185d783b1ca51221b7d0f8acafe3d5723", func := "isagoge/isagogelaw05.HierTrue", spec := "hierTrue", inPlace := ["internal/abi.NoEscape"], unfollowed := true, recurses := true, named := ["isagoge/concept.arity", "math/bits.deBruijn64tab", "isagoge/tree.words", "isagoge/tree.duals"], loops := true, plainKeys := false, apart := false, laid := [("math/bits.deBruijn64tab", laid_math_bits_deBruijn64tab), ("isagoge/tree.words", laid_isagoge_tree_words), ("isagoge/tree.duals", laid_isagoge_tree_duals), ("isagoge/concept.arity", laid_isagoge_concept_arity)] }
def HierTrueSaid : Prop := hierTrueRow.holds Tryz.pinned (OpenSpec.ofChange hierTrueSpec)

/-- ITS FALSE NEIGHBOUR: 'it returns false'. Refute it at one input. -/
def hierTrueWrong : ChangeSpec := { name := "hierTrue", fn := fun _ => fun
  | [d1, d2, d3, d4] => { results := [.lit (.bool false)], args := [d1, d2, d3, d4] }
  | _ => none }
def HierTrueWrongFalsely : Prop := hierTrueRow.holds Tryz.pinned (OpenSpec.ofChange hierTrueWrong)

/-- 'isagogelaw05.HierOrder': WHATEVER THE INPUT: true; the input reads as it did. -/
def hierOrderSpec : ChangeSpec := { name := "hierOrder", fn := fun _ => fun
  | [d1, d2] => { results := [.lit (.bool true)], args := [d1, d2] }
  | _ => none }
def hierOrderRow : OpenClaim := { program := "ytndkcimajeofcaagreatdoor", sum := "bdf19aa10138c1274f69059dccbedd7185d783b1ca51221b7d0f8acafe3d5723", func := "isagoge/isagogelaw05.HierOrder", spec := "hierOrder", inPlace := ["internal/abi.NoEscape"], unfollowed := true, recurses := true, named := ["isagoge/concept.arity", "math/bits.deBruijn64tab", "isagoge/tree.words", "isagoge/tree.duals"], loops := true, plainKeys := false, apart := false, laid := [("math/bits.deBruijn64tab", laid_math_bits_deBruijn64tab), ("isagoge/tree.words", laid_isagoge_tree_words), ("isagoge/tree.duals", laid_isagoge_tree_duals), ("isagoge/concept.arity", laid_isagoge_concept_arity)] }
def HierOrderSaid : Prop := hierOrderRow.holds Tryz.pinned (OpenSpec.ofChange hierOrderSpec)

/-- ITS FALSE NEIGHBOUR: 'it returns false'. Refute it at one input. -/
def hierOrderWrong : ChangeSpec := { name := "hierOrder", fn := fun _ => fun
  | [d1, d2] => { results := [.lit (.bool false)], args := [d1, d2] }
  | _ => none }
def HierOrderWrongFalsely : Prop := hierOrderRow.holds Tryz.pinned (OpenSpec.ofChange hierOrderWrong)

/-- 'isagogelaw05.HierTypes': WHATEVER THE INPUT: true; the input reads as it did. -/
def hierTypesSpec : ChangeSpec := { name := "hierTypes", fn := fun _ => fun
  | [d1, d2, d3, d4] => { results := [.lit (.bool true)], args := [d1, d2, d3, d4] }
  | _ => none }
def hierTypesRow : OpenClaim := { program := "ytndkcimajeofcaagreatdoor", sum := "bdf19aa10138c1274f69059dccbedd7185d783b1ca51221b7d0f8acafe3d5723", func := "isagoge/isagogelaw05.HierTypes", spec := "hierTypes", inPlace := ["internal/abi.NoEscape"], unfollowed := true, recurses := true, named := ["isagoge/concept.arity", "math/bits.deBruijn64tab", "isagoge/tree.words", "isagoge/tree.duals"], loops := true, plainKeys := false, apart := false, laid := [("math/bits.deBruijn64tab", laid_math_bits_deBruijn64tab), ("isagoge/tree.words", laid_isagoge_tree_words), ("isagoge/tree.duals", laid_isagoge_tree_duals), ("isagoge/concept.arity", laid_isagoge_concept_arity)] }
def HierTypesSaid : Prop := hierTypesRow.holds Tryz.pinned (OpenSpec.ofChange hierTypesSpec)

/-- ITS FALSE NEIGHBOUR: 'it returns false'. Refute it at one input. -/
def hierTypesWrong : ChangeSpec := { name := "hierTypes", fn := fun _ => fun
  | [d1, d2, d3, d4] => { results := [.lit (.bool false)], args := [d1, d2, d3, d4] }
  | _ => none }
def HierTypesWrongFalsely : Prop := hierTypesRow.holds Tryz.pinned (OpenSpec.ofChange hierTypesWrong)

/-- 'isagogelaw05.HierOwn': WHATEVER THE INPUT: true; the input reads as it did. -/
def hierOwnSpec : ChangeSpec := { name := "hierOwn", fn := fun _ => fun
  | [d1, d2, d3] => { results := [.lit (.bool true)], args := [d1, d2, d3] }
  | _ => none }
def hierOwnRow : OpenClaim := { program := "ytndkcimajeofcaagreatdoor", sum := "bdf19aa10138c1274f69059dccbedd7185d783b1ca51221b7d0f8acafe3d5723", func := "isagoge/isagogelaw05.HierOwn", spec := "hierOwn", inPlace := ["internal/abi.NoEscape"], unfollowed := true, recurses := true, named := ["isagoge/concept.arity", "math/bits.deBruijn64tab", "isagoge/tree.words", "isagoge/tree.duals"], loops := true, plainKeys := false, apart := false, laid := [("math/bits.deBruijn64tab", laid_math_bits_deBruijn64tab), ("isagoge/tree.words", laid_isagoge_tree_words), ("isagoge/tree.duals", laid_isagoge_tree_duals), ("isagoge/concept.arity", laid_isagoge_concept_arity)] }
def HierOwnSaid : Prop := hierOwnRow.holds Tryz.pinned (OpenSpec.ofChange hierOwnSpec)

/-- ITS FALSE NEIGHBOUR: 'it returns false'. Refute it at one input. -/
def hierOwnWrong : ChangeSpec := { name := "hierOwn", fn := fun _ => fun
  | [d1, d2, d3] => { results := [.lit (.bool false)], args := [d1, d2, d3] }
  | _ => none }
def HierOwnWrongFalsely : Prop := hierOwnRow.holds Tryz.pinned (OpenSpec.ofChange hierOwnWrong)

/- THE SECOND FORM. 'bulk': how many values and letters a reading holds, each counted each time it is reached (what is shared counts as often as it is met; a slice's spare places count too). A statement '..UptoSaid' is the law's where the arguments, and the package variables that the reading takes, are together of bulk at most 1048576: NARROWER than '..Said'. Prove '..Said' where nothing that the law and all that it calls make is longer than what came in: it says more and counts as full. Else prove '..UptoSaid'. A law counts once. -/
mutual
def uptoBulk {H : Type} : DataW H → Nat
  | .lit (.string bytes) => bytes.length + 1
  | .lit _ => 1
  | .nil => 1
  | .ptr d => uptoBulk d + 1
  | .slice elems spare => uptoBulkAll elems + uptoBulkAll spare + 1
  | .agg parts => uptoBulkAll parts + 1
  | .iface _ d => uptoBulk d + 1
  | .map entries => uptoBulkEntries entries + 1
  | .held _ => 1
def uptoBulkAll {H : Type} : List (DataW H) → Nat
  | [] => 0
  | d :: r => uptoBulk d + uptoBulkAll r
def uptoBulkEntries {H : Type} : List (Lit × DataW H) → Nat
  | [] => 0
  | x :: r => uptoBulkEntry x + uptoBulkEntries r
def uptoBulkEntry {H : Type} : Lit × DataW H → Nat
  | (.string bytes, d) => bytes.length + uptoBulk d + 1
  | (_, d) => uptoBulk d + 1
 end
def uptoSmall : (H : Type) → List (DataW H) → Bool := fun _ ds => decide (uptoBulkAll ds ≤ 1048576)
def OpenSpec.upto (s : _root_.Go.ChangeSpec) : _root_.Go.OpenSpec := { _root_.Go.OpenSpec.ofChange s with cond := some uptoSmall }

/-- 'isagogelaw03.InterpMoved', WHERE WHAT IT READS IS OF BULK AT MOST 1048576: true; the input reads as it did. -/
def interpMovedUptoRow : OpenClaim := { program := "ytndkcimajeofcaagreatdoor", sum := "bdf19aa10138c1274f69059dccbedd7185d783b1ca51221b7d0f8acafe3d5723", func := "isagoge/isagogelaw03.InterpMoved", spec := "interpMoved", unfollowed := true, recurses := true, named := ["isagoge/concept.arity", "math/bits.deBruijn64tab"], loops := true, plainKeys := false, apart := false, laid := [("math/bits.deBruijn64tab", laid_math_bits_deBruijn64tab), ("isagoge/concept.arity", laid_isagoge_concept_arity)], narrowed := true }
def InterpMovedUptoSaid : Prop := interpMovedUptoRow.holds Tryz.pinned (OpenSpec.upto interpMovedSpec)

/-- 'isagogelaw05.HierRoles', WHERE WHAT IT READS IS OF BULK AT MOST 1048576: true; the input reads as it did. -/
def hierRolesUptoRow : OpenClaim := { program := "ytndkcimajeofcaagreatdoor", sum := "bdf19aa10138c1274f69059dccbedd7185d783b1ca51221b7d0f8acafe3d5723", func := "isagoge/isagogelaw05.HierRoles", spec := "hierRoles", inPlace := ["internal/abi.NoEscape"], unfollowed := true, recurses := true, named := ["isagoge/concept.arity", "math/bits.deBruijn64tab", "isagoge/tree.words", "isagoge/tree.duals"], loops := true, plainKeys := false, apart := false, laid := [("math/bits.deBruijn64tab", laid_math_bits_deBruijn64tab), ("isagoge/tree.words", laid_isagoge_tree_words), ("isagoge/tree.duals", laid_isagoge_tree_duals), ("isagoge/concept.arity", laid_isagoge_concept_arity)], narrowed := true }
def HierRolesUptoSaid : Prop := hierRolesUptoRow.holds Tryz.pinned (OpenSpec.upto hierRolesSpec)

/-- 'isagogelaw05.HierMarks', WHERE WHAT IT READS IS OF BULK AT MOST 1048576: true; the input reads as it did. -/
def hierMarksUptoRow : OpenClaim := { program := "ytndkcimajeofcaagreatdoor", sum := "bdf19aa10138c1274f69059dccbedd7185d783b1ca51221b7d0f8acafe3d5723", func := "isagoge/isagogelaw05.HierMarks", spec := "hierMarks", inPlace := ["internal/abi.NoEscape"], unfollowed := true, recurses := true, named := ["isagoge/concept.arity", "math/bits.deBruijn64tab", "isagoge/tree.words", "isagoge/tree.duals"], loops := true, plainKeys := false, apart := false, laid := [("math/bits.deBruijn64tab", laid_math_bits_deBruijn64tab), ("isagoge/tree.words", laid_isagoge_tree_words), ("isagoge/tree.duals", laid_isagoge_tree_duals), ("isagoge/concept.arity", laid_isagoge_concept_arity)], narrowed := true }
def HierMarksUptoSaid : Prop := hierMarksUptoRow.holds Tryz.pinned (OpenSpec.upto hierMarksSpec)

/-- 'isagogelaw05.HierTrue', WHERE WHAT IT READS IS OF BULK AT MOST 1048576: true; the input reads as it did. -/
def hierTrueUptoRow : OpenClaim := { program := "ytndkcimajeofcaagreatdoor", sum := "bdf19aa10138c1274f69059dccbedd7185d783b1ca51221b7d0f8acafe3d5723", func := "isagoge/isagogelaw05.HierTrue", spec := "hierTrue", inPlace := ["internal/abi.NoEscape"], unfollowed := true, recurses := true, named := ["isagoge/concept.arity", "math/bits.deBruijn64tab", "isagoge/tree.words", "isagoge/tree.duals"], loops := true, plainKeys := false, apart := false, laid := [("math/bits.deBruijn64tab", laid_math_bits_deBruijn64tab), ("isagoge/tree.words", laid_isagoge_tree_words), ("isagoge/tree.duals", laid_isagoge_tree_duals), ("isagoge/concept.arity", laid_isagoge_concept_arity)], narrowed := true }
def HierTrueUptoSaid : Prop := hierTrueUptoRow.holds Tryz.pinned (OpenSpec.upto hierTrueSpec)

/-- 'isagogelaw05.HierOrder', WHERE WHAT IT READS IS OF BULK AT MOST 1048576: true; the input reads as it did. -/
def hierOrderUptoRow : OpenClaim := { program := "ytndkcimajeofcaagreatdoor", sum := "bdf19aa10138c1274f69059dccbedd7185d783b1ca51221b7d0f8acafe3d5723", func := "isagoge/isagogelaw05.HierOrder", spec := "hierOrder", inPlace := ["internal/abi.NoEscape"], unfollowed := true, recurses := true, named := ["isagoge/concept.arity", "math/bits.deBruijn64tab", "isagoge/tree.words", "isagoge/tree.duals"], loops := true, plainKeys := false, apart := false, laid := [("math/bits.deBruijn64tab", laid_math_bits_deBruijn64tab), ("isagoge/tree.words", laid_isagoge_tree_words), ("isagoge/tree.duals", laid_isagoge_tree_duals), ("isagoge/concept.arity", laid_isagoge_concept_arity)], narrowed := true }
def HierOrderUptoSaid : Prop := hierOrderUptoRow.holds Tryz.pinned (OpenSpec.upto hierOrderSpec)

/-- 'isagogelaw05.HierTypes', WHERE WHAT IT READS IS OF BULK AT MOST 1048576: true; the input reads as it did. -/
def hierTypesUptoRow : OpenClaim := { program := "ytndkcimajeofcaagreatdoor", sum := "bdf19aa10138c1274f69059dccbedd7185d783b1ca51221b7d0f8acafe3d5723", func := "isagoge/isagogelaw05.HierTypes", spec := "hierTypes", inPlace := ["internal/abi.NoEscape"], unfollowed := true, recurses := true, named := ["isagoge/concept.arity", "math/bits.deBruijn64tab", "isagoge/tree.words", "isagoge/tree.duals"], loops := true, plainKeys := false, apart := false, laid := [("math/bits.deBruijn64tab", laid_math_bits_deBruijn64tab), ("isagoge/tree.words", laid_isagoge_tree_words), ("isagoge/tree.duals", laid_isagoge_tree_duals), ("isagoge/concept.arity", laid_isagoge_concept_arity)], narrowed := true }
def HierTypesUptoSaid : Prop := hierTypesUptoRow.holds Tryz.pinned (OpenSpec.upto hierTypesSpec)

/-- 'isagogelaw05.HierOwn', WHERE WHAT IT READS IS OF BULK AT MOST 1048576: true; the input reads as it did. -/
def hierOwnUptoRow : OpenClaim := { program := "ytndkcimajeofcaagreatdoor", sum := "bdf19aa10138c1274f69059dccbedd7185d783b1ca51221b7d0f8acafe3d5723", func := "isagoge/isagogelaw05.HierOwn", spec := "hierOwn", inPlace := ["internal/abi.NoEscape"], unfollowed := true, recurses := true, named := ["isagoge/concept.arity", "math/bits.deBruijn64tab", "isagoge/tree.words", "isagoge/tree.duals"], loops := true, plainKeys := false, apart := false, laid := [("math/bits.deBruijn64tab", laid_math_bits_deBruijn64tab), ("isagoge/tree.words", laid_isagoge_tree_words), ("isagoge/tree.duals", laid_isagoge_tree_duals), ("isagoge/concept.arity", laid_isagoge_concept_arity)], narrowed := true }
def HierOwnUptoSaid : Prop := hierOwnUptoRow.holds Tryz.pinned (OpenSpec.upto hierOwnSpec)

end Rows
end Go.Proofs.YtndkcimajeofcaaGreatDoor
