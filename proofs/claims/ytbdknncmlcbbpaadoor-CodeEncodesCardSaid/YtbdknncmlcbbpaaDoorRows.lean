/-
  NARROWER THAN 'FOR EVERY INPUT', by the rows' own cells (each row's printed sentence says how): CodeValid: laid · CodeEncodes: laid · CodeBytes: laid · CodeSteps: laid · CodeFunctions: laid.
  DERIVED. THE GIVEN ROWS OF THIS SEAT. 5 by the template 'for every input the law returns true; each argument reads behind the call as it read before'; 0 by the template 'total and deterministic' (their statements: YtbdknncmlcbbpaaDoorTotals.lean).
  GIVEN WITH THE SEED: the statements are not yours to turn. If you find one false, say at which input.
  Laid BY PROGRAM, IN A SANDBOX (cutbox-rows.mjs): the forced cells as the released guide's own fill.sh prints them over the translation 6bea9c1d5eb4189f… (all of the seat's roots in one cut). By AI agents, Wed Nov 11 2026. No macro, syntax, notation, axiom, sorry.
-/
import Derived.Test.YtbdknncmlcbbpaaDoorChecked
import GoSem.Claim
import GoSem.ClaimJoined
import GoSem.ClaimMapViews
import Derived.JoinedTies
import Derived.KernelRfl
namespace Go.Proofs.YtbdknncmlcbbpaaDoor
/- THE CELL 'sum', in the pinned program and in every row, IS THE sha256 OF THE DUMP (.gsa) THAT YtbdknncmlcbbpaaDoorProg.lean LOADS. Nothing in Lean hashes anything: it is a label: what it is worth is what the hold of that sum in a sandbox is worth. -/
noncomputable def Tryd.pinned : Pinned := { name := "ytbdknncmlcbbpaadoor", sum := "6bea9c1d5eb4189fd1108ce2ec9f70e454b64f9d00556b4a03d50f4d9f2fb343", checked := Tryd.checked }
namespace Rows
def none {H : Type} : Left H := { results := [], args := [] }

/- WHAT THE LISTED PACKAGE-LEVEL VARIABLES READ AS WHEN THE CALL BEGINS. Each datum BY PROGRAM (the guide's laid-datum.mjs) off the statement by which the dump's own 'gosem.cut.vars' lays the variable. In a bare row this is a premise. The card (YtbdknncmlcbbpaaDoorCards.lean) ties it to the program's text. -/
def laid_scoria_code_effects {H : Type} : DataW H := .agg [.agg [.lit (.int .i64 0), .lit (.bool false), .lit (.int .i64 1), .lit (.bool false)], .agg [.lit (.int .i64 0), .lit (.bool false), .lit (.int .i64 1), .lit (.bool false)], .agg [.lit (.int .i64 1), .lit (.bool false), .lit (.int .i64 0), .lit (.bool false)], .agg [.lit (.int .i64 1), .lit (.bool false), .lit (.int .i64 1), .lit (.bool false)], .agg [.lit (.int .i64 2), .lit (.bool false), .lit (.int .i64 0), .lit (.bool false)], .agg [.lit (.int .i64 2), .lit (.bool false), .lit (.int .i64 1), .lit (.bool false)], .agg [.lit (.int .i64 1), .lit (.bool false), .lit (.int .i64 1), .lit (.bool false)], .agg [.lit (.int .i64 0), .lit (.bool false), .lit (.int .i64 0), .lit (.bool true)], .agg [.lit (.int .i64 1), .lit (.bool false), .lit (.int .i64 0), .lit (.bool false)], .agg [.lit (.int .i64 0), .lit (.bool true), .lit (.int .i64 1), .lit (.bool false)], .agg [.lit (.int .i64 1), .lit (.bool false), .lit (.int .i64 0), .lit (.bool true)], .agg [.lit (.int .i64 1), .lit (.bool false), .lit (.int .i64 0), .lit (.bool true)], .agg [.lit (.int .i64 0), .lit (.bool false), .lit (.int .i64 0), .lit (.bool false)], .agg [.lit (.int .i64 0), .lit (.bool false), .lit (.int .i64 0), .lit (.bool false)], .agg [.lit (.int .i64 1), .lit (.bool false), .lit (.int .i64 0), .lit (.bool false)], .agg [.lit (.int .i64 0), .lit (.bool false), .lit (.int .i64 1), .lit (.bool false)], .agg [.lit (.int .i64 0), .lit (.bool true), .lit (.int .i64 0), .lit (.bool false)], .agg [.lit (.int .i64 1), .lit (.bool false), .lit (.int .i64 0), .lit (.bool false)], .agg [.lit (.int .i64 1), .lit (.bool false), .lit (.int .i64 0), .lit (.bool false)]]
def laid_scoria_scoriaref02_constants {H : Type} : DataW H := .agg [.lit (.int .u32 1116352408), .lit (.int .u32 1899447441), .lit (.int .u32 3049323471), .lit (.int .u32 3921009573), .lit (.int .u32 961987163), .lit (.int .u32 1508970993), .lit (.int .u32 2453635748), .lit (.int .u32 2870763221), .lit (.int .u32 3624381080), .lit (.int .u32 310598401), .lit (.int .u32 607225278), .lit (.int .u32 1426881987), .lit (.int .u32 1925078388), .lit (.int .u32 2162078206), .lit (.int .u32 2614888103), .lit (.int .u32 3248222580), .lit (.int .u32 3835390401), .lit (.int .u32 4022224774), .lit (.int .u32 264347078), .lit (.int .u32 604807628), .lit (.int .u32 770255983), .lit (.int .u32 1249150122), .lit (.int .u32 1555081692), .lit (.int .u32 1996064986), .lit (.int .u32 2554220882), .lit (.int .u32 2821834349), .lit (.int .u32 2952996808), .lit (.int .u32 3210313671), .lit (.int .u32 3336571891), .lit (.int .u32 3584528711), .lit (.int .u32 113926993), .lit (.int .u32 338241895), .lit (.int .u32 666307205), .lit (.int .u32 773529912), .lit (.int .u32 1294757372), .lit (.int .u32 1396182291), .lit (.int .u32 1695183700), .lit (.int .u32 1986661051), .lit (.int .u32 2177026350), .lit (.int .u32 2456956037), .lit (.int .u32 2730485921), .lit (.int .u32 2820302411), .lit (.int .u32 3259730800), .lit (.int .u32 3345764771), .lit (.int .u32 3516065817), .lit (.int .u32 3600352804), .lit (.int .u32 4094571909), .lit (.int .u32 275423344), .lit (.int .u32 430227734), .lit (.int .u32 506948616), .lit (.int .u32 659060556), .lit (.int .u32 883997877), .lit (.int .u32 958139571), .lit (.int .u32 1322822218), .lit (.int .u32 1537002063), .lit (.int .u32 1747873779), .lit (.int .u32 1955562222), .lit (.int .u32 2024104815), .lit (.int .u32 2227730452), .lit (.int .u32 2361852424), .lit (.int .u32 2428436474), .lit (.int .u32 2756734187), .lit (.int .u32 3204031479), .lit (.int .u32 3329325298)]
def laid_scoria_hash_rounds {H : Type} : DataW H := .agg [.lit (.int .u32 1116352408), .lit (.int .u32 1899447441), .lit (.int .u32 3049323471), .lit (.int .u32 3921009573), .lit (.int .u32 961987163), .lit (.int .u32 1508970993), .lit (.int .u32 2453635748), .lit (.int .u32 2870763221), .lit (.int .u32 3624381080), .lit (.int .u32 310598401), .lit (.int .u32 607225278), .lit (.int .u32 1426881987), .lit (.int .u32 1925078388), .lit (.int .u32 2162078206), .lit (.int .u32 2614888103), .lit (.int .u32 3248222580), .lit (.int .u32 3835390401), .lit (.int .u32 4022224774), .lit (.int .u32 264347078), .lit (.int .u32 604807628), .lit (.int .u32 770255983), .lit (.int .u32 1249150122), .lit (.int .u32 1555081692), .lit (.int .u32 1996064986), .lit (.int .u32 2554220882), .lit (.int .u32 2821834349), .lit (.int .u32 2952996808), .lit (.int .u32 3210313671), .lit (.int .u32 3336571891), .lit (.int .u32 3584528711), .lit (.int .u32 113926993), .lit (.int .u32 338241895), .lit (.int .u32 666307205), .lit (.int .u32 773529912), .lit (.int .u32 1294757372), .lit (.int .u32 1396182291), .lit (.int .u32 1695183700), .lit (.int .u32 1986661051), .lit (.int .u32 2177026350), .lit (.int .u32 2456956037), .lit (.int .u32 2730485921), .lit (.int .u32 2820302411), .lit (.int .u32 3259730800), .lit (.int .u32 3345764771), .lit (.int .u32 3516065817), .lit (.int .u32 3600352804), .lit (.int .u32 4094571909), .lit (.int .u32 275423344), .lit (.int .u32 430227734), .lit (.int .u32 506948616), .lit (.int .u32 659060556), .lit (.int .u32 883997877), .lit (.int .u32 958139571), .lit (.int .u32 1322822218), .lit (.int .u32 1537002063), .lit (.int .u32 1747873779), .lit (.int .u32 1955562222), .lit (.int .u32 2024104815), .lit (.int .u32 2227730452), .lit (.int .u32 2361852424), .lit (.int .u32 2428436474), .lit (.int .u32 2756734187), .lit (.int .u32 3204031479), .lit (.int .u32 3329325298)]

/-- 'scorialaw08.CodeValid': WHATEVER THE INPUT: true; the input reads as it did. -/
def codeValidSpec : ChangeSpec := { name := "codeValid", fn := fun _ => fun
  | [d1, d2, d3, d4, d5] => { results := [.lit (.bool true)], args := [d1, d2, d3, d4, d5] }
  | _ => none }
def codeValidRow : OpenClaim := { program := "ytbdknncmlcbbpaadoor", sum := "6bea9c1d5eb4189fd1108ce2ec9f70e454b64f9d00556b4a03d50f4d9f2fb343", func := "scoria/scorialaw08.CodeValid", spec := "codeValid", unfollowed := true, recurses := true, named := ["scoria/code.effects"], apart := false, laid := [("scoria/code.effects", laid_scoria_code_effects)] }
def CodeValidSaid : Prop := codeValidRow.holds Tryd.pinned (OpenSpec.ofChange codeValidSpec)

/-- ITS FALSE NEIGHBOUR: 'it returns false'. Refute it at one input. -/
def codeValidWrong : ChangeSpec := { name := "codeValid", fn := fun _ => fun
  | [d1, d2, d3, d4, d5] => { results := [.lit (.bool false)], args := [d1, d2, d3, d4, d5] }
  | _ => none }
def CodeValidWrongFalsely : Prop := codeValidRow.holds Tryd.pinned (OpenSpec.ofChange codeValidWrong)

/-- 'scorialaw08.CodeEncodes': WHATEVER THE INPUT: true; the input reads as it did. -/
def codeEncodesSpec : ChangeSpec := { name := "codeEncodes", fn := fun _ => fun
  | [d1, d2, d3, d4, d5, d6] => { results := [.lit (.bool true)], args := [d1, d2, d3, d4, d5, d6] }
  | _ => none }
def codeEncodesRow : OpenClaim := { program := "ytbdknncmlcbbpaadoor", sum := "6bea9c1d5eb4189fd1108ce2ec9f70e454b64f9d00556b4a03d50f4d9f2fb343", func := "scoria/scorialaw08.CodeEncodes", spec := "codeEncodes", unfollowed := true, recurses := true, named := ["scoria/hash.rounds", "scoria/scoriaref02.constants", "scoria/code.effects"], apart := false, laid := [("scoria/scoriaref02.constants", laid_scoria_scoriaref02_constants), ("scoria/hash.rounds", laid_scoria_hash_rounds), ("scoria/code.effects", laid_scoria_code_effects)] }
def CodeEncodesSaid : Prop := codeEncodesRow.holds Tryd.pinned (OpenSpec.ofChange codeEncodesSpec)

/-- ITS FALSE NEIGHBOUR: 'it returns false'. Refute it at one input. -/
def codeEncodesWrong : ChangeSpec := { name := "codeEncodes", fn := fun _ => fun
  | [d1, d2, d3, d4, d5, d6] => { results := [.lit (.bool false)], args := [d1, d2, d3, d4, d5, d6] }
  | _ => none }
def CodeEncodesWrongFalsely : Prop := codeEncodesRow.holds Tryd.pinned (OpenSpec.ofChange codeEncodesWrong)

/-- 'scorialaw08.CodeBytes': WHATEVER THE INPUT: true; the input reads as it did. -/
def codeBytesSpec : ChangeSpec := { name := "codeBytes", fn := fun _ => fun
  | [d1, d2, d3, d4, d5, d6] => { results := [.lit (.bool true)], args := [d1, d2, d3, d4, d5, d6] }
  | _ => none }
def codeBytesRow : OpenClaim := { program := "ytbdknncmlcbbpaadoor", sum := "6bea9c1d5eb4189fd1108ce2ec9f70e454b64f9d00556b4a03d50f4d9f2fb343", func := "scoria/scorialaw08.CodeBytes", spec := "codeBytes", unfollowed := true, recurses := true, named := ["scoria/hash.rounds", "scoria/code.effects"], apart := false, laid := [("scoria/hash.rounds", laid_scoria_hash_rounds), ("scoria/code.effects", laid_scoria_code_effects)] }
def CodeBytesSaid : Prop := codeBytesRow.holds Tryd.pinned (OpenSpec.ofChange codeBytesSpec)

/-- ITS FALSE NEIGHBOUR: 'it returns false'. Refute it at one input. -/
def codeBytesWrong : ChangeSpec := { name := "codeBytes", fn := fun _ => fun
  | [d1, d2, d3, d4, d5, d6] => { results := [.lit (.bool false)], args := [d1, d2, d3, d4, d5, d6] }
  | _ => none }
def CodeBytesWrongFalsely : Prop := codeBytesRow.holds Tryd.pinned (OpenSpec.ofChange codeBytesWrong)

/-- 'scorialaw08.CodeSteps': WHATEVER THE INPUT: true; the input reads as it did. -/
def codeStepsSpec : ChangeSpec := { name := "codeSteps", fn := fun _ => fun
  | [d1, d2, d3, d4] => { results := [.lit (.bool true)], args := [d1, d2, d3, d4] }
  | _ => none }
def codeStepsRow : OpenClaim := { program := "ytbdknncmlcbbpaadoor", sum := "6bea9c1d5eb4189fd1108ce2ec9f70e454b64f9d00556b4a03d50f4d9f2fb343", func := "scoria/scorialaw08.CodeSteps", spec := "codeSteps", unfollowed := true, recurses := true, named := ["scoria/code.effects"], apart := false, laid := [("scoria/code.effects", laid_scoria_code_effects)] }
def CodeStepsSaid : Prop := codeStepsRow.holds Tryd.pinned (OpenSpec.ofChange codeStepsSpec)

/-- ITS FALSE NEIGHBOUR: 'it returns false'. Refute it at one input. -/
def codeStepsWrong : ChangeSpec := { name := "codeSteps", fn := fun _ => fun
  | [d1, d2, d3, d4] => { results := [.lit (.bool false)], args := [d1, d2, d3, d4] }
  | _ => none }
def CodeStepsWrongFalsely : Prop := codeStepsRow.holds Tryd.pinned (OpenSpec.ofChange codeStepsWrong)

/-- 'scorialaw08.CodeFunctions': WHATEVER THE INPUT: true; the input reads as it did. -/
def codeFunctionsSpec : ChangeSpec := { name := "codeFunctions", fn := fun _ => fun
  | [d1, d2, d3, d4] => { results := [.lit (.bool true)], args := [d1, d2, d3, d4] }
  | _ => none }
def codeFunctionsRow : OpenClaim := { program := "ytbdknncmlcbbpaadoor", sum := "6bea9c1d5eb4189fd1108ce2ec9f70e454b64f9d00556b4a03d50f4d9f2fb343", func := "scoria/scorialaw08.CodeFunctions", spec := "codeFunctions", unfollowed := true, recurses := true, named := ["scoria/code.effects"], apart := false, laid := [("scoria/code.effects", laid_scoria_code_effects)] }
def CodeFunctionsSaid : Prop := codeFunctionsRow.holds Tryd.pinned (OpenSpec.ofChange codeFunctionsSpec)

/-- ITS FALSE NEIGHBOUR: 'it returns false'. Refute it at one input. -/
def codeFunctionsWrong : ChangeSpec := { name := "codeFunctions", fn := fun _ => fun
  | [d1, d2, d3, d4] => { results := [.lit (.bool false)], args := [d1, d2, d3, d4] }
  | _ => none }
def CodeFunctionsWrongFalsely : Prop := codeFunctionsRow.holds Tryd.pinned (OpenSpec.ofChange codeFunctionsWrong)

/- THE SECOND FORM. 'bulk': how many values and letters a reading holds, each counted each time it is reached (what is shared counts as often as it is met; a slice's spare places count too). A statement '..UptoSaid' is the law's where the arguments, and the package variables that the reading takes, are together of bulk at most 1048576: NARROWER than '..Said'. Prove '..Said' where nothing that the law and all that it calls make is longer than what came in: it says more and counts as full. Else prove '..UptoSaid'. A law counts once. -/
mutual
def uptoBulk {H : Type} : DataW H → Nat
  | .lit (.string bytes) => bytes.length + 1
  | .lit _ => 1
  | .nil => 1
  | .ptr d => uptoBulk d + 1
  | .slice elems spare => uptoBulkAll elems + uptoBulkAll spare + 1
  | .agg parts => uptoBulkAll parts + 1
  | .iface _ d => uptoBulk d + 1
  | .map entries => uptoBulkEntries entries + 1
  | .held _ => 1
def uptoBulkAll {H : Type} : List (DataW H) → Nat
  | [] => 0
  | d :: r => uptoBulk d + uptoBulkAll r
def uptoBulkEntries {H : Type} : List (Lit × DataW H) → Nat
  | [] => 0
  | x :: r => uptoBulkEntry x + uptoBulkEntries r
def uptoBulkEntry {H : Type} : Lit × DataW H → Nat
  | (.string bytes, d) => bytes.length + uptoBulk d + 1
  | (_, d) => uptoBulk d + 1
 end
def uptoSmall : (H : Type) → List (DataW H) → Bool := fun _ ds => decide (uptoBulkAll ds ≤ 1048576)
def OpenSpec.upto (s : _root_.Go.ChangeSpec) : _root_.Go.OpenSpec := { _root_.Go.OpenSpec.ofChange s with cond := some uptoSmall }

/-- 'scorialaw08.CodeValid', WHERE WHAT IT READS IS OF BULK AT MOST 1048576: true; the input reads as it did. -/
def codeValidUptoRow : OpenClaim := { program := "ytbdknncmlcbbpaadoor", sum := "6bea9c1d5eb4189fd1108ce2ec9f70e454b64f9d00556b4a03d50f4d9f2fb343", func := "scoria/scorialaw08.CodeValid", spec := "codeValid", unfollowed := true, recurses := true, named := ["scoria/code.effects"], apart := false, laid := [("scoria/code.effects", laid_scoria_code_effects)], narrowed := true }
def CodeValidUptoSaid : Prop := codeValidUptoRow.holds Tryd.pinned (OpenSpec.upto codeValidSpec)

/-- 'scorialaw08.CodeEncodes', WHERE WHAT IT READS IS OF BULK AT MOST 1048576: true; the input reads as it did. -/
def codeEncodesUptoRow : OpenClaim := { program := "ytbdknncmlcbbpaadoor", sum := "6bea9c1d5eb4189fd1108ce2ec9f70e454b64f9d00556b4a03d50f4d9f2fb343", func := "scoria/scorialaw08.CodeEncodes", spec := "codeEncodes", unfollowed := true, recurses := true, named := ["scoria/hash.rounds", "scoria/scoriaref02.constants", "scoria/code.effects"], apart := false, laid := [("scoria/scoriaref02.constants", laid_scoria_scoriaref02_constants), ("scoria/hash.rounds", laid_scoria_hash_rounds), ("scoria/code.effects", laid_scoria_code_effects)], narrowed := true }
def CodeEncodesUptoSaid : Prop := codeEncodesUptoRow.holds Tryd.pinned (OpenSpec.upto codeEncodesSpec)

/-- 'scorialaw08.CodeBytes', WHERE WHAT IT READS IS OF BULK AT MOST 1048576: true; the input reads as it did. -/
def codeBytesUptoRow : OpenClaim := { program := "ytbdknncmlcbbpaadoor", sum := "6bea9c1d5eb4189fd1108ce2ec9f70e454b64f9d00556b4a03d50f4d9f2fb343", func := "scoria/scorialaw08.CodeBytes", spec := "codeBytes", unfollowed := true, recurses := true, named := ["scoria/hash.rounds", "scoria/code.effects"], apart := false, laid := [("scoria/hash.rounds", laid_scoria_hash_rounds), ("scoria/code.effects", laid_scoria_code_effects)], narrowed := true }
def CodeBytesUptoSaid : Prop := codeBytesUptoRow.holds Tryd.pinned (OpenSpec.upto codeBytesSpec)

/-- 'scorialaw08.CodeSteps', WHERE WHAT IT READS IS OF BULK AT MOST 1048576: true; the input reads as it did. -/
def codeStepsUptoRow : OpenClaim := { program := "ytbdknncmlcbbpaadoor", sum := "6bea9c1d5eb4189fd1108ce2ec9f70e454b64f9d00556b4a03d50f4d9f2fb343", func := "scoria/scorialaw08.CodeSteps", spec := "codeSteps", unfollowed := true, recurses := true, named := ["scoria/code.effects"], apart := false, laid := [("scoria/code.effects", laid_scoria_code_effects)], narrowed := true }
def CodeStepsUptoSaid : Prop := codeStepsUptoRow.holds Tryd.pinned (OpenSpec.upto codeStepsSpec)

/-- 'scorialaw08.CodeFunctions', WHERE WHAT IT READS IS OF BULK AT MOST 1048576: true; the input reads as it did. -/
def codeFunctionsUptoRow : OpenClaim := { program := "ytbdknncmlcbbpaadoor", sum := "6bea9c1d5eb4189fd1108ce2ec9f70e454b64f9d00556b4a03d50f4d9f2fb343", func := "scoria/scorialaw08.CodeFunctions", spec := "codeFunctions", unfollowed := true, recurses := true, named := ["scoria/code.effects"], apart := false, laid := [("scoria/code.effects", laid_scoria_code_effects)], narrowed := true }
def CodeFunctionsUptoSaid : Prop := codeFunctionsUptoRow.holds Tryd.pinned (OpenSpec.upto codeFunctionsSpec)

end Rows
end Go.Proofs.YtbdknncmlcbbpaaDoor
