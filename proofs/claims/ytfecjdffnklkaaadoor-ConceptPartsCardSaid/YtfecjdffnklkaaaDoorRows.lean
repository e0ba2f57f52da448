/-
  NARROWER THAN 'FOR EVERY INPUT', by the rows' own cells (each row's printed sentence says how): ConceptForms: loops, laid · ConceptNormal: loops, laid · ConceptParts: loops, laid · ConceptTexts: loops, laid · ConceptBack: loops, laid · ConceptOwn: loops, laid.
  DERIVED. THE GIVEN ROWS OF THIS SEAT. 6 by the template 'for every input the law returns true; each argument reads behind the call as it read before'; 0 by the template 'total and deterministic' (their statements: YtfecjdffnklkaaaDoorTotals.lean).
  GIVEN WITH THE SEED: the statements are not yours to turn. If you find one false, say at which input.
  Laid BY PROGRAM, IN A SANDBOX (cutbox-rows.mjs): the forced cells as the released guide's own fill.sh prints them over the translation 566eff17063a7046… (all of the seat's roots in one cut). By AI agents, Wed Nov 11 2026. No macro, syntax, notation, axiom, sorry.
-/
import Derived.Test.YtfecjdffnklkaaaDoorChecked
import GoSem.Claim
import GoSem.ClaimJoined
import GoSem.ClaimMapViews
import Derived.JoinedTies
import Derived.KernelRfl
namespace Go.Proofs.YtfecjdffnklkaaaDoor
/- THE CELL 'sum', in the pinned program and in every row, IS THE sha256 OF THE DUMP (.gsa) THAT YtfecjdffnklkaaaDoorProg.lean LOADS. Nothing in Lean hashes anything: it is a label: what it is worth is what the hold of that sum in a sandbox is worth. -/
noncomputable def Tryd.pinned : Pinned := { name := "ytfecjdffnklkaaadoor", sum := "566eff17063a704611ff4faf5d6cd009684f764e3b19f8b2770ef8b1cd40259a", checked := Tryd.checked }
namespace Rows
def none {H : Type} : Left H := { results := [], args := [] }

/- WHAT THE LISTED PACKAGE-LEVEL VARIABLES READ AS WHEN THE CALL BEGINS. Each datum BY PROGRAM (the guide's laid-datum.mjs) off the statement by which the dump's own 'gosem.cut.vars' lays the variable. In a bare row this is a premise. The card (YtfecjdffnklkaaaDoorCards.lean) ties it to the program's text. -/
def laid_isagoge_concept_arity {H : Type} : DataW H := .agg [.lit (.int .i64 0), .lit (.int .i64 0), .lit (.int .i64 0), .lit (.int .i64 1), .lit (.int .i64 2), .lit (.int .i64 2), .lit (.int .i64 1), .lit (.int .i64 1)]
def laid_isagoge_concept_duals {H : Type} : DataW H := .agg [.lit (.int .i64 0), .lit (.int .i64 2), .lit (.int .i64 1), .lit (.int .i64 0), .lit (.int .i64 5), .lit (.int .i64 4), .lit (.int .i64 7), .lit (.int .i64 6)]
def laid_isagoge_concept_words {H : Type} : DataW H := .agg [.lit (.string []), .lit (.string [116, 111, 112]), .lit (.string [98, 111, 116]), .lit (.string [110, 111, 116]), .lit (.string [97, 110, 100]), .lit (.string [111, 114]), .lit (.string [115, 111, 109, 101]), .lit (.string [97, 108, 108])]

/-- 'isagogelaw01.ConceptForms': WHATEVER THE INPUT: true; the input reads as it did. -/
def conceptFormsSpec : ChangeSpec := { name := "conceptForms", fn := fun _ => fun
  | [d1, d2, d3] => { results := [.lit (.bool true)], args := [d1, d2, d3] }
  | _ => none }
def conceptFormsRow : OpenClaim := { program := "ytfecjdffnklkaaadoor", sum := "566eff17063a704611ff4faf5d6cd009684f764e3b19f8b2770ef8b1cd40259a", func := "isagoge/isagogelaw01.ConceptForms", spec := "conceptForms", inPlace := ["internal/bytealg.IndexByteString", "internal/abi.NoEscape"], unfollowed := true, recurses := true, named := ["isagoge/concept.arity", "isagoge/concept.duals", "isagoge/concept.words"], loops := true, apart := false, laid := [("isagoge/concept.arity", laid_isagoge_concept_arity), ("isagoge/concept.duals", laid_isagoge_concept_duals), ("isagoge/concept.words", laid_isagoge_concept_words)] }
def ConceptFormsSaid : Prop := conceptFormsRow.holds Tryd.pinned (OpenSpec.ofChange conceptFormsSpec)

/-- ITS FALSE NEIGHBOUR: 'it returns false'. Refute it at one input. -/
def conceptFormsWrong : ChangeSpec := { name := "conceptForms", fn := fun _ => fun
  | [d1, d2, d3] => { results := [.lit (.bool false)], args := [d1, d2, d3] }
  | _ => none }
def ConceptFormsWrongFalsely : Prop := conceptFormsRow.holds Tryd.pinned (OpenSpec.ofChange conceptFormsWrong)

/-- 'isagogelaw01.ConceptNormal': WHATEVER THE INPUT: true; the input reads as it did. -/
def conceptNormalSpec : ChangeSpec := { name := "conceptNormal", fn := fun _ => fun
  | [d1, d2] => { results := [.lit (.bool true)], args := [d1, d2] }
  | _ => none }
def conceptNormalRow : OpenClaim := { program := "ytfecjdffnklkaaadoor", sum := "566eff17063a704611ff4faf5d6cd009684f764e3b19f8b2770ef8b1cd40259a", func := "isagoge/isagogelaw01.ConceptNormal", spec := "conceptNormal", inPlace := ["internal/bytealg.IndexByteString", "internal/abi.NoEscape"], unfollowed := true, recurses := true, named := ["isagoge/concept.arity", "isagoge/concept.duals", "isagoge/concept.words"], loops := true, apart := false, laid := [("isagoge/concept.arity", laid_isagoge_concept_arity), ("isagoge/concept.duals", laid_isagoge_concept_duals), ("isagoge/concept.words", laid_isagoge_concept_words)] }
def ConceptNormalSaid : Prop := conceptNormalRow.holds Tryd.pinned (OpenSpec.ofChange conceptNormalSpec)

/-- ITS FALSE NEIGHBOUR: 'it returns false'. Refute it at one input. -/
def conceptNormalWrong : ChangeSpec := { name := "conceptNormal", fn := fun _ => fun
  | [d1, d2] => { results := [.lit (.bool false)], args := [d1, d2] }
  | _ => none }
def ConceptNormalWrongFalsely : Prop := conceptNormalRow.holds Tryd.pinned (OpenSpec.ofChange conceptNormalWrong)

/-- 'isagogelaw01.ConceptParts': WHATEVER THE INPUT: true; the input reads as it did. -/
def conceptPartsSpec : ChangeSpec := { name := "conceptParts", fn := fun _ => fun
  | [d1, d2] => { results := [.lit (.bool true)], args := [d1, d2] }
  | _ => none }
def conceptPartsRow : OpenClaim := { program := "ytfecjdffnklkaaadoor", sum := "566eff17063a704611ff4faf5d6cd009684f764e3b19f8b2770ef8b1cd40259a", func := "isagoge/isagogelaw01.ConceptParts", spec := "conceptParts", inPlace := ["internal/bytealg.IndexByteString", "internal/abi.NoEscape"], unfollowed := true, recurses := true, named := ["isagoge/concept.arity", "isagoge/concept.duals", "isagoge/concept.words"], loops := true, apart := false, laid := [("isagoge/concept.arity", laid_isagoge_concept_arity), ("isagoge/concept.duals", laid_isagoge_concept_duals), ("isagoge/concept.words", laid_isagoge_concept_words)] }
def ConceptPartsSaid : Prop := conceptPartsRow.holds Tryd.pinned (OpenSpec.ofChange conceptPartsSpec)

/-- ITS FALSE NEIGHBOUR: 'it returns false'. Refute it at one input. -/
def conceptPartsWrong : ChangeSpec := { name := "conceptParts", fn := fun _ => fun
  | [d1, d2] => { results := [.lit (.bool false)], args := [d1, d2] }
  | _ => none }
def ConceptPartsWrongFalsely : Prop := conceptPartsRow.holds Tryd.pinned (OpenSpec.ofChange conceptPartsWrong)

/-- 'isagogelaw01.ConceptTexts': WHATEVER THE INPUT: true; the input reads as it did. -/
def conceptTextsSpec : ChangeSpec := { name := "conceptTexts", fn := fun _ => fun
  | [d1, d2, d3, d4] => { results := [.lit (.bool true)], args := [d1, d2, d3, d4] }
  | _ => none }
def conceptTextsRow : OpenClaim := { program := "ytfecjdffnklkaaadoor", sum := "566eff17063a704611ff4faf5d6cd009684f764e3b19f8b2770ef8b1cd40259a", func := "isagoge/isagogelaw01.ConceptTexts", spec := "conceptTexts", inPlace := ["internal/bytealg.IndexByteString", "internal/abi.NoEscape"], unfollowed := true, recurses := true, named := ["isagoge/concept.arity", "isagoge/concept.duals", "isagoge/concept.words"], loops := true, apart := false, laid := [("isagoge/concept.arity", laid_isagoge_concept_arity), ("isagoge/concept.duals", laid_isagoge_concept_duals), ("isagoge/concept.words", laid_isagoge_concept_words)] }
def ConceptTextsSaid : Prop := conceptTextsRow.holds Tryd.pinned (OpenSpec.ofChange conceptTextsSpec)

/-- ITS FALSE NEIGHBOUR: 'it returns false'. Refute it at one input. -/
def conceptTextsWrong : ChangeSpec := { name := "conceptTexts", fn := fun _ => fun
  | [d1, d2, d3, d4] => { results := [.lit (.bool false)], args := [d1, d2, d3, d4] }
  | _ => none }
def ConceptTextsWrongFalsely : Prop := conceptTextsRow.holds Tryd.pinned (OpenSpec.ofChange conceptTextsWrong)

/-- 'isagogelaw01.ConceptBack': WHATEVER THE INPUT: true; the input reads as it did. -/
def conceptBackSpec : ChangeSpec := { name := "conceptBack", fn := fun _ => fun
  | [d1, d2] => { results := [.lit (.bool true)], args := [d1, d2] }
  | _ => none }
def conceptBackRow : OpenClaim := { program := "ytfecjdffnklkaaadoor", sum := "566eff17063a704611ff4faf5d6cd009684f764e3b19f8b2770ef8b1cd40259a", func := "isagoge/isagogelaw01.ConceptBack", spec := "conceptBack", inPlace := ["internal/bytealg.IndexByteString", "internal/abi.NoEscape"], unfollowed := true, recurses := true, named := ["isagoge/concept.arity", "isagoge/concept.duals", "isagoge/concept.words"], loops := true, apart := false, laid := [("isagoge/concept.arity", laid_isagoge_concept_arity), ("isagoge/concept.duals", laid_isagoge_concept_duals), ("isagoge/concept.words", laid_isagoge_concept_words)] }
def ConceptBackSaid : Prop := conceptBackRow.holds Tryd.pinned (OpenSpec.ofChange conceptBackSpec)

/-- ITS FALSE NEIGHBOUR: 'it returns false'. Refute it at one input. -/
def conceptBackWrong : ChangeSpec := { name := "conceptBack", fn := fun _ => fun
  | [d1, d2] => { results := [.lit (.bool false)], args := [d1, d2] }
  | _ => none }
def ConceptBackWrongFalsely : Prop := conceptBackRow.holds Tryd.pinned (OpenSpec.ofChange conceptBackWrong)

/-- 'isagogelaw01.ConceptOwn': WHATEVER THE INPUT: true; the input reads as it did. -/
def conceptOwnSpec : ChangeSpec := { name := "conceptOwn", fn := fun _ => fun
  | [d1, d2] => { results := [.lit (.bool true)], args := [d1, d2] }
  | _ => none }
def conceptOwnRow : OpenClaim := { program := "ytfecjdffnklkaaadoor", sum := "566eff17063a704611ff4faf5d6cd009684f764e3b19f8b2770ef8b1cd40259a", func := "isagoge/isagogelaw01.ConceptOwn", spec := "conceptOwn", inPlace := ["internal/bytealg.IndexByteString", "internal/abi.NoEscape"], unfollowed := true, recurses := true, named := ["isagoge/concept.arity", "isagoge/concept.duals", "isagoge/concept.words"], loops := true, apart := false, laid := [("isagoge/concept.arity", laid_isagoge_concept_arity), ("isagoge/concept.duals", laid_isagoge_concept_duals), ("isagoge/concept.words", laid_isagoge_concept_words)] }
def ConceptOwnSaid : Prop := conceptOwnRow.holds Tryd.pinned (OpenSpec.ofChange conceptOwnSpec)

/-- ITS FALSE NEIGHBOUR: 'it returns false'. Refute it at one input. -/
def conceptOwnWrong : ChangeSpec := { name := "conceptOwn", fn := fun _ => fun
  | [d1, d2] => { results := [.lit (.bool false)], args := [d1, d2] }
  | _ => none }
def ConceptOwnWrongFalsely : Prop := conceptOwnRow.holds Tryd.pinned (OpenSpec.ofChange conceptOwnWrong)

/- THE SECOND FORM. 'bulk': how many values and letters a reading holds, each counted each time it is reached (what is shared counts as often as it is met; a slice's spare places count too). A statement '..UptoSaid' is the law's where the arguments, and the package variables that the reading takes, are together of bulk at most 1048576: NARROWER than '..Said'. Prove '..Said' where nothing that the law and all that it calls make is longer than what came in: it says more and counts as full. Else prove '..UptoSaid'. A law counts once. -/
mutual
def uptoBulk {H : Type} : DataW H → Nat
  | .lit (.string bytes) => bytes.length + 1
  | .lit _ => 1
  | .nil => 1
  | .ptr d => uptoBulk d + 1
  | .slice elems spare => uptoBulkAll elems + uptoBulkAll spare + 1
  | .agg parts => uptoBulkAll parts + 1
  | .iface _ d => uptoBulk d + 1
  | .map entries => uptoBulkEntries entries + 1
  | .held _ => 1
def uptoBulkAll {H : Type} : List (DataW H) → Nat
  | [] => 0
  | d :: r => uptoBulk d + uptoBulkAll r
def uptoBulkEntries {H : Type} : List (Lit × DataW H) → Nat
  | [] => 0
  | x :: r => uptoBulkEntry x + uptoBulkEntries r
def uptoBulkEntry {H : Type} : Lit × DataW H → Nat
  | (.string bytes, d) => bytes.length + uptoBulk d + 1
  | (_, d) => uptoBulk d + 1
 end
def uptoSmall : (H : Type) → List (DataW H) → Bool := fun _ ds => decide (uptoBulkAll ds ≤ 1048576)
def OpenSpec.upto (s : _root_.Go.ChangeSpec) : _root_.Go.OpenSpec := { _root_.Go.OpenSpec.ofChange s with cond := some uptoSmall }

/-- 'isagogelaw01.ConceptForms', WHERE WHAT IT READS IS OF BULK AT MOST 1048576: true; the input reads as it did. -/
def conceptFormsUptoRow : OpenClaim := { program := "ytfecjdffnklkaaadoor", sum := "566eff17063a704611ff4faf5d6cd009684f764e3b19f8b2770ef8b1cd40259a", func := "isagoge/isagogelaw01.ConceptForms", spec := "conceptForms", inPlace := ["internal/bytealg.IndexByteString", "internal/abi.NoEscape"], unfollowed := true, recurses := true, named := ["isagoge/concept.arity", "isagoge/concept.duals", "isagoge/concept.words"], loops := true, apart := false, laid := [("isagoge/concept.arity", laid_isagoge_concept_arity), ("isagoge/concept.duals", laid_isagoge_concept_duals), ("isagoge/concept.words", laid_isagoge_concept_words)], narrowed := true }
def ConceptFormsUptoSaid : Prop := conceptFormsUptoRow.holds Tryd.pinned (OpenSpec.upto conceptFormsSpec)

/-- 'isagogelaw01.ConceptNormal', WHERE WHAT IT READS IS OF BULK AT MOST 1048576: true; the input reads as it did. -/
def conceptNormalUptoRow : OpenClaim := { program := "ytfecjdffnklkaaadoor", sum := "566eff17063a704611ff4faf5d6cd009684f764e3b19f8b2770ef8b1cd40259a", func := "isagoge/isagogelaw01.ConceptNormal", spec := "conceptNormal", inPlace := ["internal/bytealg.IndexByteString", "internal/abi.NoEscape"], unfollowed := true, recurses := true, named := ["isagoge/concept.arity", "isagoge/concept.duals", "isagoge/concept.words"], loops := true, apart := false, laid := [("isagoge/concept.arity", laid_isagoge_concept_arity), ("isagoge/concept.duals", laid_isagoge_concept_duals), ("isagoge/concept.words", laid_isagoge_concept_words)], narrowed := true }
def ConceptNormalUptoSaid : Prop := conceptNormalUptoRow.holds Tryd.pinned (OpenSpec.upto conceptNormalSpec)

/-- 'isagogelaw01.ConceptParts', WHERE WHAT IT READS IS OF BULK AT MOST 1048576: true; the input reads as it did. -/
def conceptPartsUptoRow : OpenClaim := { program := "ytfecjdffnklkaaadoor", sum := "566eff17063a704611ff4faf5d6cd009684f764e3b19f8b2770ef8b1cd40259a", func := "isagoge/isagogelaw01.ConceptParts", spec := "conceptParts", inPlace := ["internal/bytealg.IndexByteString", "internal/abi.NoEscape"], unfollowed := true, recurses := true, named := ["isagoge/concept.arity", "isagoge/concept.duals", "isagoge/concept.words"], loops := true, apart := false, laid := [("isagoge/concept.arity", laid_isagoge_concept_arity), ("isagoge/concept.duals", laid_isagoge_concept_duals), ("isagoge/concept.words", laid_isagoge_concept_words)], narrowed := true }
def ConceptPartsUptoSaid : Prop := conceptPartsUptoRow.holds Tryd.pinned (OpenSpec.upto conceptPartsSpec)

/-- 'isagogelaw01.ConceptTexts', WHERE WHAT IT READS IS OF BULK AT MOST 1048576: true; the input reads as it did. -/
def conceptTextsUptoRow : OpenClaim := { program := "ytfecjdffnklkaaadoor", sum := "566eff17063a704611ff4faf5d6cd009684f764e3b19f8b2770ef8b1cd40259a", func := "isagoge/isagogelaw01.ConceptTexts", spec := "conceptTexts", inPlace := ["internal/bytealg.IndexByteString", "internal/abi.NoEscape"], unfollowed := true, recurses := true, named := ["isagoge/concept.arity", "isagoge/concept.duals", "isagoge/concept.words"], loops := true, apart := false, laid := [("isagoge/concept.arity", laid_isagoge_concept_arity), ("isagoge/concept.duals", laid_isagoge_concept_duals), ("isagoge/concept.words", laid_isagoge_concept_words)], narrowed := true }
def ConceptTextsUptoSaid : Prop := conceptTextsUptoRow.holds Tryd.pinned (OpenSpec.upto conceptTextsSpec)

/-- 'isagogelaw01.ConceptBack', WHERE WHAT IT READS IS OF BULK AT MOST 1048576: true; the input reads as it did. -/
def conceptBackUptoRow : OpenClaim := { program := "ytfecjdffnklkaaadoor", sum := "566eff17063a704611ff4faf5d6cd009684f764e3b19f8b2770ef8b1cd40259a", func := "isagoge/isagogelaw01.ConceptBack", spec := "conceptBack", inPlace := ["internal/bytealg.IndexByteString", "internal/abi.NoEscape"], unfollowed := true, recurses := true, named := ["isagoge/concept.arity", "isagoge/concept.duals", "isagoge/concept.words"], loops := true, apart := false, laid := [("isagoge/concept.arity", laid_isagoge_concept_arity), ("isagoge/concept.duals", laid_isagoge_concept_duals), ("isagoge/concept.words", laid_isagoge_concept_words)], narrowed := true }
def ConceptBackUptoSaid : Prop := conceptBackUptoRow.holds Tryd.pinned (OpenSpec.upto conceptBackSpec)

/-- 'isagogelaw01.ConceptOwn', WHERE WHAT IT READS IS OF BULK AT MOST 1048576: true; the input reads as it did. -/
def conceptOwnUptoRow : OpenClaim := { program := "ytfecjdffnklkaaadoor", sum := "566eff17063a704611ff4faf5d6cd009684f764e3b19f8b2770ef8b1cd40259a", func := "isagoge/isagogelaw01.ConceptOwn", spec := "conceptOwn", inPlace := ["internal/bytealg.IndexByteString", "internal/abi.NoEscape"], unfollowed := true, recurses := true, named := ["isagoge/concept.arity", "isagoge/concept.duals", "isagoge/concept.words"], loops := true, apart := false, laid := [("isagoge/concept.arity", laid_isagoge_concept_arity), ("isagoge/concept.duals", laid_isagoge_concept_duals), ("isagoge/concept.words", laid_isagoge_concept_words)], narrowed := true }
def ConceptOwnUptoSaid : Prop := conceptOwnUptoRow.holds Tryd.pinned (OpenSpec.upto conceptOwnSpec)

end Rows
end Go.Proofs.YtfecjdffnklkaaaDoor
