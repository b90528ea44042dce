/-
  NARROWER THAN 'FOR EVERY INPUT', by the rows' own cells (each row's printed sentence says how): TypesChecks: loops, laid · TypesOf: laid · TypesWords: loops, laid · TypesParts: laid · TypesMore: laid · TypesLess: laid · TypesExprs: laid.
  DERIVED. THE GIVEN ROWS OF THIS SEAT. 7 by the template 'for every input the law returns true; each argument reads behind the call as it read before'; 0 by the template 'total and deterministic' (their statements: YtkkenbalpnmfmaaDoorTotals.lean).
  GIVEN WITH THE SEED: the statements are not yours to turn. If you find one false, say at which input.
  Laid BY PROGRAM, IN A SANDBOX (cutbox-rows.mjs): the forced cells as the released guide's own fill.sh prints them over the translation 690aabd526339284… (all of the seat's roots in one cut). By AI agents, Wed Nov 11 2026. No macro, syntax, notation, axiom, sorry.
-/
import Derived.Test.YtkkenbalpnmfmaaDoorChecked
import GoSem.Claim
import GoSem.ClaimJoined
import GoSem.ClaimMapViews
import Derived.JoinedTies
import Derived.KernelRfl
namespace Go.Proofs.YtkkenbalpnmfmaaDoor
/- THE CELL 'sum', in the pinned program and in every row, IS THE sha256 OF THE DUMP (.gsa) THAT YtkkenbalpnmfmaaDoorProg.lean LOADS. Nothing in Lean hashes anything: it is a label: what it is worth is what the hold of that sum in a sandbox is worth. -/
noncomputable def Tryd.pinned : Pinned := { name := "ytkkenbalpnmfmaadoor", sum := "690aabd526339284dcc1ded2b30605548055e782b674b027c18e104c58e5a6d7", checked := Tryd.checked }
namespace Rows
def none {H : Type} : Left H := { results := [], args := [] }

/- WHAT THE LISTED PACKAGE-LEVEL VARIABLES READ AS WHEN THE CALL BEGINS. Each datum BY PROGRAM (the guide's laid-datum.mjs) off the statement by which the dump's own 'gosem.cut.vars' lays the variable. In a bare row this is a premise. The card (YtkkenbalpnmfmaaDoorCards.lean) ties it to the program's text. -/
def laid_scoria_tree_shapes {H : Type} : DataW H := .agg [.agg [.lit (.int .u8 1), .lit (.int .i8 0), .lit (.int .i8 0), .lit (.int .i8 0), .lit (.int .i8 0), .lit (.int .i8 0), .lit (.int .u8 0), .lit (.int .i8 0)], .agg [.lit (.int .u8 1), .lit (.int .i8 0), .lit (.int .i8 0), .lit (.int .i8 0), .lit (.int .i8 0), .lit (.int .i8 0), .lit (.int .u8 0), .lit (.int .i8 0)], .agg [.lit (.int .u8 2), .lit (.int .i8 1), .lit (.int .i8 4), .lit (.int .i8 0), .lit (.int .i8 0), .lit (.int .i8 0), .lit (.int .u8 0), .lit (.int .i8 0)], .agg [.lit (.int .u8 2), .lit (.int .i8 0), .lit (.int .i8 0), .lit (.int .i8 0), .lit (.int .i8 1), .lit (.int .i8 3), .lit (.int .u8 1), .lit (.int .i8 0)], .agg [.lit (.int .u8 4), .lit (.int .i8 (-8)), .lit (.int .i8 7), .lit (.int .i8 0), .lit (.int .i8 0), .lit (.int .i8 0), .lit (.int .u8 0), .lit (.int .i8 0)], .agg [.lit (.int .u8 4), .lit (.int .i8 0), .lit (.int .i8 1), .lit (.int .i8 0), .lit (.int .i8 0), .lit (.int .i8 0), .lit (.int .u8 0), .lit (.int .i8 0)], .agg [.lit (.int .u8 4), .lit (.int .i8 0), .lit (.int .i8 5), .lit (.int .i8 0), .lit (.int .i8 0), .lit (.int .i8 0), .lit (.int .u8 0), .lit (.int .i8 0)], .agg [.lit (.int .u8 4), .lit (.int .i8 0), .lit (.int .i8 5), .lit (.int .i8 0), .lit (.int .i8 1), .lit (.int .i8 1), .lit (.int .u8 4), .lit (.int .i8 0)], .agg [.lit (.int .u8 4), .lit (.int .i8 0), .lit (.int .i8 5), .lit (.int .i8 2), .lit (.int .i8 0), .lit (.int .i8 0), .lit (.int .u8 0), .lit (.int .i8 0)], .agg [.lit (.int .u8 4), .lit (.int .i8 0), .lit (.int .i8 13), .lit (.int .i8 0), .lit (.int .i8 2), .lit (.int .i8 2), .lit (.int .u8 4), .lit (.int .i8 0)], .agg [.lit (.int .u8 4), .lit (.int .i8 0), .lit (.int .i8 0), .lit (.int .i8 0), .lit (.int .i8 1), .lit (.int .i8 1), .lit (.int .u8 4), .lit (.int .i8 0)], .agg [.lit (.int .u8 4), .lit (.int .i8 0), .lit (.int .i8 5), .lit (.int .i8 0), .lit (.int .i8 0), .lit (.int .i8 3), .lit (.int .u8 4), .lit (.int .i8 0)], .agg [.lit (.int .u8 4), .lit (.int .i8 0), .lit (.int .i8 2), .lit (.int .i8 0), .lit (.int .i8 0), .lit (.int .i8 0), .lit (.int .u8 0), .lit (.int .i8 0)], .agg [.lit (.int .u8 8), .lit (.int .i8 0), .lit (.int .i8 0), .lit (.int .i8 0), .lit (.int .i8 0), .lit (.int .i8 8), .lit (.int .u8 24), .lit (.int .i8 0)], .agg [.lit (.int .u8 16), .lit (.int .i8 0), .lit (.int .i8 5), .lit (.int .i8 0), .lit (.int .i8 1), .lit (.int .i8 1), .lit (.int .u8 4), .lit (.int .i8 0)], .agg [.lit (.int .u8 16), .lit (.int .i8 0), .lit (.int .i8 5), .lit (.int .i8 0), .lit (.int .i8 2), .lit (.int .i8 2), .lit (.int .u8 4), .lit (.int .i8 0)], .agg [.lit (.int .u8 16), .lit (.int .i8 0), .lit (.int .i8 5), .lit (.int .i8 2), .lit (.int .i8 1), .lit (.int .i8 1), .lit (.int .u8 4), .lit (.int .i8 0)], .agg [.lit (.int .u8 16), .lit (.int .i8 0), .lit (.int .i8 0), .lit (.int .i8 0), .lit (.int .i8 1), .lit (.int .i8 1), .lit (.int .u8 4), .lit (.int .i8 2)], .agg [.lit (.int .u8 16), .lit (.int .i8 0), .lit (.int .i8 0), .lit (.int .i8 0), .lit (.int .i8 1), .lit (.int .i8 1), .lit (.int .u8 4), .lit (.int .i8 1)], .agg [.lit (.int .u8 16), .lit (.int .i8 0), .lit (.int .i8 0), .lit (.int .i8 0), .lit (.int .i8 1), .lit (.int .i8 1), .lit (.int .u8 4), .lit (.int .i8 0)], .agg [.lit (.int .u8 16), .lit (.int .i8 0), .lit (.int .i8 0), .lit (.int .i8 0), .lit (.int .i8 1), .lit (.int .i8 1), .lit (.int .u8 4), .lit (.int .i8 0)], .agg [.lit (.int .u8 16), .lit (.int .i8 0), .lit (.int .i8 5), .lit (.int .i8 0), .lit (.int .i8 0), .lit (.int .i8 0), .lit (.int .u8 0), .lit (.int .i8 2)], .agg [.lit (.int .u8 16), .lit (.int .i8 0), .lit (.int .i8 2), .lit (.int .i8 0), .lit (.int .i8 1), .lit (.int .i8 1), .lit (.int .u8 4), .lit (.int .i8 0)], .agg [.lit (.int .u8 16), .lit (.int .i8 0), .lit (.int .i8 5), .lit (.int .i8 0), .lit (.int .i8 0), .lit (.int .i8 3), .lit (.int .u8 4), .lit (.int .i8 0)], .agg [.lit (.int .u8 16), .lit (.int .i8 0), .lit (.int .i8 0), .lit (.int .i8 0), .lit (.int .i8 1), .lit (.int .i8 1), .lit (.int .u8 4), .lit (.int .i8 0)], .agg [.lit (.int .u8 16), .lit (.int .i8 0), .lit (.int .i8 0), .lit (.int .i8 0), .lit (.int .i8 0), .lit (.int .i8 0), .lit (.int .u8 0), .lit (.int .i8 0)], .agg [.lit (.int .u8 32), .lit (.int .i8 0), .lit (.int .i8 3), .lit (.int .i8 0), .lit (.int .i8 0), .lit (.int .i8 6), .lit (.int .u8 3), .lit (.int .i8 1)], .agg [.lit (.int .u8 64), .lit (.int .i8 0), .lit (.int .i8 3), .lit (.int .i8 0), .lit (.int .i8 1), .lit (.int .i8 6), .lit (.int .u8 32), .lit (.int .i8 0)], .agg [.lit (.int .u8 0), .lit (.int .i8 0), .lit (.int .i8 0), .lit (.int .i8 0), .lit (.int .i8 0), .lit (.int .i8 0), .lit (.int .u8 0), .lit (.int .i8 0)], .agg [.lit (.int .u8 0), .lit (.int .i8 0), .lit (.int .i8 0), .lit (.int .i8 0), .lit (.int .i8 0), .lit (.int .i8 0), .lit (.int .u8 0), .lit (.int .i8 0)]]

/-- 'scorialaw07.TypesChecks': WHATEVER THE INPUT: true; the input reads as it did. -/
def typesChecksSpec : ChangeSpec := { name := "typesChecks", fn := fun _ => fun
  | [d1, d2, d3, d4, d5, d6, d7] => { results := [.lit (.bool true)], args := [d1, d2, d3, d4, d5, d6, d7] }
  | _ => none }
def typesChecksRow : OpenClaim := { program := "ytkkenbalpnmfmaadoor", sum := "690aabd526339284dcc1ded2b30605548055e782b674b027c18e104c58e5a6d7", func := "scoria/scorialaw07.TypesChecks", spec := "typesChecks", unfollowed := true, recurses := true, named := ["scoria/tree.shapes"], loops := true, apart := false, laid := [("scoria/tree.shapes", laid_scoria_tree_shapes)] }
def TypesChecksSaid : Prop := typesChecksRow.holds Tryd.pinned (OpenSpec.ofChange typesChecksSpec)

/-- ITS FALSE NEIGHBOUR: 'it returns false'. Refute it at one input. -/
def typesChecksWrong : ChangeSpec := { name := "typesChecks", fn := fun _ => fun
  | [d1, d2, d3, d4, d5, d6, d7] => { results := [.lit (.bool false)], args := [d1, d2, d3, d4, d5, d6, d7] }
  | _ => none }
def TypesChecksWrongFalsely : Prop := typesChecksRow.holds Tryd.pinned (OpenSpec.ofChange typesChecksWrong)

/-- 'scorialaw07.TypesOf': WHATEVER THE INPUT: true; the input reads as it did. -/
def typesOfSpec : ChangeSpec := { name := "typesOf", fn := fun _ => fun
  | [d1, d2, d3, d4, d5, d6] => { results := [.lit (.bool true)], args := [d1, d2, d3, d4, d5, d6] }
  | _ => none }
def typesOfRow : OpenClaim := { program := "ytkkenbalpnmfmaadoor", sum := "690aabd526339284dcc1ded2b30605548055e782b674b027c18e104c58e5a6d7", func := "scoria/scorialaw07.TypesOf", spec := "typesOf", unfollowed := true, recurses := true, named := ["scoria/tree.shapes"], apart := false, laid := [("scoria/tree.shapes", laid_scoria_tree_shapes)] }
def TypesOfSaid : Prop := typesOfRow.holds Tryd.pinned (OpenSpec.ofChange typesOfSpec)

/-- ITS FALSE NEIGHBOUR: 'it returns false'. Refute it at one input. -/
def typesOfWrong : ChangeSpec := { name := "typesOf", fn := fun _ => fun
  | [d1, d2, d3, d4, d5, d6] => { results := [.lit (.bool false)], args := [d1, d2, d3, d4, d5, d6] }
  | _ => none }
def TypesOfWrongFalsely : Prop := typesOfRow.holds Tryd.pinned (OpenSpec.ofChange typesOfWrong)

/-- 'scorialaw07.TypesWords': WHATEVER THE INPUT: true; the input reads as it did. -/
def typesWordsSpec : ChangeSpec := { name := "typesWords", fn := fun _ => fun
  | [d1, d2, d3, d4, d5, d6] => { results := [.lit (.bool true)], args := [d1, d2, d3, d4, d5, d6] }
  | _ => none }
def typesWordsRow : OpenClaim := { program := "ytkkenbalpnmfmaadoor", sum := "690aabd526339284dcc1ded2b30605548055e782b674b027c18e104c58e5a6d7", func := "scoria/scorialaw07.TypesWords", spec := "typesWords", unfollowed := true, recurses := true, named := ["scoria/tree.shapes"], loops := true, apart := false, laid := [("scoria/tree.shapes", laid_scoria_tree_shapes)] }
def TypesWordsSaid : Prop := typesWordsRow.holds Tryd.pinned (OpenSpec.ofChange typesWordsSpec)

/-- ITS FALSE NEIGHBOUR: 'it returns false'. Refute it at one input. -/
def typesWordsWrong : ChangeSpec := { name := "typesWords", fn := fun _ => fun
  | [d1, d2, d3, d4, d5, d6] => { results := [.lit (.bool false)], args := [d1, d2, d3, d4, d5, d6] }
  | _ => none }
def TypesWordsWrongFalsely : Prop := typesWordsRow.holds Tryd.pinned (OpenSpec.ofChange typesWordsWrong)

/-- 'scorialaw07.TypesParts': WHATEVER THE INPUT: true; the input reads as it did. -/
def typesPartsSpec : ChangeSpec := { name := "typesParts", fn := fun _ => fun
  | [d1, d2, d3, d4] => { results := [.lit (.bool true)], args := [d1, d2, d3, d4] }
  | _ => none }
def typesPartsRow : OpenClaim := { program := "ytkkenbalpnmfmaadoor", sum := "690aabd526339284dcc1ded2b30605548055e782b674b027c18e104c58e5a6d7", func := "scoria/scorialaw07.TypesParts", spec := "typesParts", unfollowed := true, recurses := true, named := ["scoria/tree.shapes"], apart := false, laid := [("scoria/tree.shapes", laid_scoria_tree_shapes)] }
def TypesPartsSaid : Prop := typesPartsRow.holds Tryd.pinned (OpenSpec.ofChange typesPartsSpec)

/-- ITS FALSE NEIGHBOUR: 'it returns false'. Refute it at one input. -/
def typesPartsWrong : ChangeSpec := { name := "typesParts", fn := fun _ => fun
  | [d1, d2, d3, d4] => { results := [.lit (.bool false)], args := [d1, d2, d3, d4] }
  | _ => none }
def TypesPartsWrongFalsely : Prop := typesPartsRow.holds Tryd.pinned (OpenSpec.ofChange typesPartsWrong)

/-- 'scorialaw07.TypesMore': WHATEVER THE INPUT: true; the input reads as it did. -/
def typesMoreSpec : ChangeSpec := { name := "typesMore", fn := fun _ => fun
  | [d1, d2, d3, d4, d5] => { results := [.lit (.bool true)], args := [d1, d2, d3, d4, d5] }
  | _ => none }
def typesMoreRow : OpenClaim := { program := "ytkkenbalpnmfmaadoor", sum := "690aabd526339284dcc1ded2b30605548055e782b674b027c18e104c58e5a6d7", func := "scoria/scorialaw07.TypesMore", spec := "typesMore", unfollowed := true, recurses := true, named := ["scoria/tree.shapes"], apart := false, laid := [("scoria/tree.shapes", laid_scoria_tree_shapes)] }
def TypesMoreSaid : Prop := typesMoreRow.holds Tryd.pinned (OpenSpec.ofChange typesMoreSpec)

/-- ITS FALSE NEIGHBOUR: 'it returns false'. Refute it at one input. -/
def typesMoreWrong : ChangeSpec := { name := "typesMore", fn := fun _ => fun
  | [d1, d2, d3, d4, d5] => { results := [.lit (.bool false)], args := [d1, d2, d3, d4, d5] }
  | _ => none }
def TypesMoreWrongFalsely : Prop := typesMoreRow.holds Tryd.pinned (OpenSpec.ofChange typesMoreWrong)

/-- 'scorialaw07.TypesLess': WHATEVER THE INPUT: true; the input reads as it did. -/
def typesLessSpec : ChangeSpec := { name := "typesLess", fn := fun _ => fun
  | [d1, d2] => { results := [.lit (.bool true)], args := [d1, d2] }
  | _ => none }
def typesLessRow : OpenClaim := { program := "ytkkenbalpnmfmaadoor", sum := "690aabd526339284dcc1ded2b30605548055e782b674b027c18e104c58e5a6d7", func := "scoria/scorialaw07.TypesLess", spec := "typesLess", unfollowed := true, recurses := true, named := ["scoria/tree.shapes"], apart := false, laid := [("scoria/tree.shapes", laid_scoria_tree_shapes)] }
def TypesLessSaid : Prop := typesLessRow.holds Tryd.pinned (OpenSpec.ofChange typesLessSpec)

/-- ITS FALSE NEIGHBOUR: 'it returns false'. Refute it at one input. -/
def typesLessWrong : ChangeSpec := { name := "typesLess", fn := fun _ => fun
  | [d1, d2] => { results := [.lit (.bool false)], args := [d1, d2] }
  | _ => none }
def TypesLessWrongFalsely : Prop := typesLessRow.holds Tryd.pinned (OpenSpec.ofChange typesLessWrong)

/-- 'scorialaw07.TypesExprs': WHATEVER THE INPUT: true; the input reads as it did. -/
def typesExprsSpec : ChangeSpec := { name := "typesExprs", fn := fun _ => fun
  | [d1, d2, d3, d4, d5, d6] => { results := [.lit (.bool true)], args := [d1, d2, d3, d4, d5, d6] }
  | _ => none }
def typesExprsRow : OpenClaim := { program := "ytkkenbalpnmfmaadoor", sum := "690aabd526339284dcc1ded2b30605548055e782b674b027c18e104c58e5a6d7", func := "scoria/scorialaw07.TypesExprs", spec := "typesExprs", unfollowed := true, recurses := true, named := ["scoria/tree.shapes"], apart := false, laid := [("scoria/tree.shapes", laid_scoria_tree_shapes)] }
def TypesExprsSaid : Prop := typesExprsRow.holds Tryd.pinned (OpenSpec.ofChange typesExprsSpec)

/-- ITS FALSE NEIGHBOUR: 'it returns false'. Refute it at one input. -/
def typesExprsWrong : ChangeSpec := { name := "typesExprs", fn := fun _ => fun
  | [d1, d2, d3, d4, d5, d6] => { results := [.lit (.bool false)], args := [d1, d2, d3, d4, d5, d6] }
  | _ => none }
def TypesExprsWrongFalsely : Prop := typesExprsRow.holds Tryd.pinned (OpenSpec.ofChange typesExprsWrong)

/- THE SECOND FORM. 'bulk': how many values and letters a reading holds, each counted each time it is reached (what is shared counts as often as it is met; a slice's spare places count too). A statement '..UptoSaid' is the law's where the arguments, and the package variables that the reading takes, are together of bulk at most 1048576: NARROWER than '..Said'. Prove '..Said' where nothing that the law and all that it calls make is longer than what came in: it says more and counts as full. Else prove '..UptoSaid'. A law counts once. -/
mutual
def uptoBulk {H : Type} : DataW H → Nat
  | .lit (.string bytes) => bytes.length + 1
  | .lit _ => 1
  | .nil => 1
  | .ptr d => uptoBulk d + 1
  | .slice elems spare => uptoBulkAll elems + uptoBulkAll spare + 1
  | .agg parts => uptoBulkAll parts + 1
  | .iface _ d => uptoBulk d + 1
  | .map entries => uptoBulkEntries entries + 1
  | .held _ => 1
def uptoBulkAll {H : Type} : List (DataW H) → Nat
  | [] => 0
  | d :: r => uptoBulk d + uptoBulkAll r
def uptoBulkEntries {H : Type} : List (Lit × DataW H) → Nat
  | [] => 0
  | x :: r => uptoBulkEntry x + uptoBulkEntries r
def uptoBulkEntry {H : Type} : Lit × DataW H → Nat
  | (.string bytes, d) => bytes.length + uptoBulk d + 1
  | (_, d) => uptoBulk d + 1
 end
def uptoSmall : (H : Type) → List (DataW H) → Bool := fun _ ds => decide (uptoBulkAll ds ≤ 1048576)
def OpenSpec.upto (s : _root_.Go.ChangeSpec) : _root_.Go.OpenSpec := { _root_.Go.OpenSpec.ofChange s with cond := some uptoSmall }

/-- 'scorialaw07.TypesChecks', WHERE WHAT IT READS IS OF BULK AT MOST 1048576: true; the input reads as it did. -/
def typesChecksUptoRow : OpenClaim := { program := "ytkkenbalpnmfmaadoor", sum := "690aabd526339284dcc1ded2b30605548055e782b674b027c18e104c58e5a6d7", func := "scoria/scorialaw07.TypesChecks", spec := "typesChecks", unfollowed := true, recurses := true, named := ["scoria/tree.shapes"], loops := true, apart := false, laid := [("scoria/tree.shapes", laid_scoria_tree_shapes)], narrowed := true }
def TypesChecksUptoSaid : Prop := typesChecksUptoRow.holds Tryd.pinned (OpenSpec.upto typesChecksSpec)

/-- 'scorialaw07.TypesOf', WHERE WHAT IT READS IS OF BULK AT MOST 1048576: true; the input reads as it did. -/
def typesOfUptoRow : OpenClaim := { program := "ytkkenbalpnmfmaadoor", sum := "690aabd526339284dcc1ded2b30605548055e782b674b027c18e104c58e5a6d7", func := "scoria/scorialaw07.TypesOf", spec := "typesOf", unfollowed := true, recurses := true, named := ["scoria/tree.shapes"], apart := false, laid := [("scoria/tree.shapes", laid_scoria_tree_shapes)], narrowed := true }
def TypesOfUptoSaid : Prop := typesOfUptoRow.holds Tryd.pinned (OpenSpec.upto typesOfSpec)

/-- 'scorialaw07.TypesWords', WHERE WHAT IT READS IS OF BULK AT MOST 1048576: true; the input reads as it did. -/
def typesWordsUptoRow : OpenClaim := { program := "ytkkenbalpnmfmaadoor", sum := "690aabd526339284dcc1ded2b30605548055e782b674b027c18e104c58e5a6d7", func := "scoria/scorialaw07.TypesWords", spec := "typesWords", unfollowed := true, recurses := true, named := ["scoria/tree.shapes"], loops := true, apart := false, laid := [("scoria/tree.shapes", laid_scoria_tree_shapes)], narrowed := true }
def TypesWordsUptoSaid : Prop := typesWordsUptoRow.holds Tryd.pinned (OpenSpec.upto typesWordsSpec)

/-- 'scorialaw07.TypesParts', WHERE WHAT IT READS IS OF BULK AT MOST 1048576: true; the input reads as it did. -/
def typesPartsUptoRow : OpenClaim := { program := "ytkkenbalpnmfmaadoor", sum := "690aabd526339284dcc1ded2b30605548055e782b674b027c18e104c58e5a6d7", func := "scoria/scorialaw07.TypesParts", spec := "typesParts", unfollowed := true, recurses := true, named := ["scoria/tree.shapes"], apart := false, laid := [("scoria/tree.shapes", laid_scoria_tree_shapes)], narrowed := true }
def TypesPartsUptoSaid : Prop := typesPartsUptoRow.holds Tryd.pinned (OpenSpec.upto typesPartsSpec)

/-- 'scorialaw07.TypesMore', WHERE WHAT IT READS IS OF BULK AT MOST 1048576: true; the input reads as it did. -/
def typesMoreUptoRow : OpenClaim := { program := "ytkkenbalpnmfmaadoor", sum := "690aabd526339284dcc1ded2b30605548055e782b674b027c18e104c58e5a6d7", func := "scoria/scorialaw07.TypesMore", spec := "typesMore", unfollowed := true, recurses := true, named := ["scoria/tree.shapes"], apart := false, laid := [("scoria/tree.shapes", laid_scoria_tree_shapes)], narrowed := true }
def TypesMoreUptoSaid : Prop := typesMoreUptoRow.holds Tryd.pinned (OpenSpec.upto typesMoreSpec)

/-- 'scorialaw07.TypesLess', WHERE WHAT IT READS IS OF BULK AT MOST 1048576: true; the input reads as it did. -/
def typesLessUptoRow : OpenClaim := { program := "ytkkenbalpnmfmaadoor", sum := "690aabd526339284dcc1ded2b30605548055e782b674b027c18e104c58e5a6d7", func := "scoria/scorialaw07.TypesLess", spec := "typesLess", unfollowed := true, recurses := true, named := ["scoria/tree.shapes"], apart := false, laid := [("scoria/tree.shapes", laid_scoria_tree_shapes)], narrowed := true }
def TypesLessUptoSaid : Prop := typesLessUptoRow.holds Tryd.pinned (OpenSpec.upto typesLessSpec)

/-- 'scorialaw07.TypesExprs', WHERE WHAT IT READS IS OF BULK AT MOST 1048576: true; the input reads as it did. -/
def typesExprsUptoRow : OpenClaim := { program := "ytkkenbalpnmfmaadoor", sum := "690aabd526339284dcc1ded2b30605548055e782b674b027c18e104c58e5a6d7", func := "scoria/scorialaw07.TypesExprs", spec := "typesExprs", unfollowed := true, recurses := true, named := ["scoria/tree.shapes"], apart := false, laid := [("scoria/tree.shapes", laid_scoria_tree_shapes)], narrowed := true }
def TypesExprsUptoSaid : Prop := typesExprsUptoRow.holds Tryd.pinned (OpenSpec.upto typesExprsSpec)

end Rows
end Go.Proofs.YtkkenbalpnmfmaaDoor
