/-
  DERIVED. GIVEN WITH THE SEED: THE CARDS: each row of YtbdknncmlcbbpaaDoorRows.lean that lists a variable, with what it lists TIED to the program's text (the seventh form; the later family's looks); each row that meets fmt, with fmt's text TOLD by the authors' own Lean function (tested against real Go, not proved from fmt's source: count such statements apart). THE CARD IS WHAT COUNTS. Prove the row's statement (the work); the ties are given (YtbdknncmlcbbpaaDoorTie.lean); close each card by the builder's one call (the guide's Derived/Test/ToyasCard.lean, 'card_holds'). Laid BY PROGRAM, IN A SANDBOX (cutbox-door.mjs). By AI agents, Wed Nov 11 2026. No macro, syntax, notation, axiom, sorry.
-/
import Derived.Test.YtbdknncmlcbbpaaDoorRows
import GoSem.ClaimSeven
namespace Go.Proofs.YtbdknncmlcbbpaaDoor
namespace Rows

/-- THE TIED CARD OF 'scorialaw08.CodeValid'. -/
def codeValidCard : Claim7 := { stood := { row := codeValidRow, standIns := [], harness := (true, "8ff52449b2d49dc2f5b953f3ebd319292d488fce8f7d7d9e8508a0c07e641fc9"), looks := false }, kinds := [], alts := [], laidByText := true, laidKinds := [.data], laidTests := true, laidLooks := .later }
def CodeValidCardSaid : Prop := Claim7.holds Tryd.pinned (.plain (OpenSpec.ofChange codeValidSpec)) codeValidCard

/-- THE TIED CARD OF 'scorialaw08.CodeEncodes'. -/
def codeEncodesCard : Claim7 := { stood := { row := codeEncodesRow, standIns := [], harness := (true, "8ff52449b2d49dc2f5b953f3ebd319292d488fce8f7d7d9e8508a0c07e641fc9"), looks := false }, kinds := [], alts := [], laidByText := true, laidKinds := [.data, .data, .data], laidTests := true, laidLooks := .later }
def CodeEncodesCardSaid : Prop := Claim7.holds Tryd.pinned (.plain (OpenSpec.ofChange codeEncodesSpec)) codeEncodesCard

/-- THE TIED CARD OF 'scorialaw08.CodeBytes'. -/
def codeBytesCard : Claim7 := { stood := { row := codeBytesRow, standIns := [], harness := (true, "8ff52449b2d49dc2f5b953f3ebd319292d488fce8f7d7d9e8508a0c07e641fc9"), looks := false }, kinds := [], alts := [], laidByText := true, laidKinds := [.data, .data], laidTests := true, laidLooks := .later }
def CodeBytesCardSaid : Prop := Claim7.holds Tryd.pinned (.plain (OpenSpec.ofChange codeBytesSpec)) codeBytesCard

/-- THE TIED CARD OF 'scorialaw08.CodeSteps'. -/
def codeStepsCard : Claim7 := { stood := { row := codeStepsRow, standIns := [], harness := (true, "8ff52449b2d49dc2f5b953f3ebd319292d488fce8f7d7d9e8508a0c07e641fc9"), looks := false }, kinds := [], alts := [], laidByText := true, laidKinds := [.data], laidTests := true, laidLooks := .later }
def CodeStepsCardSaid : Prop := Claim7.holds Tryd.pinned (.plain (OpenSpec.ofChange codeStepsSpec)) codeStepsCard

/-- THE TIED CARD OF 'scorialaw08.CodeFunctions'. -/
def codeFunctionsCard : Claim7 := { stood := { row := codeFunctionsRow, standIns := [], harness := (true, "8ff52449b2d49dc2f5b953f3ebd319292d488fce8f7d7d9e8508a0c07e641fc9"), looks := false }, kinds := [], alts := [], laidByText := true, laidKinds := [.data], laidTests := true, laidLooks := .later }
def CodeFunctionsCardSaid : Prop := Claim7.holds Tryd.pinned (.plain (OpenSpec.ofChange codeFunctionsSpec)) codeFunctionsCard

/-- THE SECOND FORM's CARD OF 'scorialaw08.CodeValid'. -/
def codeValidUptoCard : Claim7 := { stood := { row := codeValidUptoRow, standIns := [], harness := (true, "8ff52449b2d49dc2f5b953f3ebd319292d488fce8f7d7d9e8508a0c07e641fc9"), looks := false }, kinds := [], alts := [], laidByText := true, laidKinds := [.data], laidTests := true, laidLooks := .later }
def CodeValidUptoCardSaid : Prop := Claim7.holds Tryd.pinned (.plain (OpenSpec.upto codeValidSpec)) codeValidUptoCard

/-- THE SECOND FORM's CARD OF 'scorialaw08.CodeEncodes'. -/
def codeEncodesUptoCard : Claim7 := { stood := { row := codeEncodesUptoRow, standIns := [], harness := (true, "8ff52449b2d49dc2f5b953f3ebd319292d488fce8f7d7d9e8508a0c07e641fc9"), looks := false }, kinds := [], alts := [], laidByText := true, laidKinds := [.data, .data, .data], laidTests := true, laidLooks := .later }
def CodeEncodesUptoCardSaid : Prop := Claim7.holds Tryd.pinned (.plain (OpenSpec.upto codeEncodesSpec)) codeEncodesUptoCard

/-- THE SECOND FORM's CARD OF 'scorialaw08.CodeBytes'. -/
def codeBytesUptoCard : Claim7 := { stood := { row := codeBytesUptoRow, standIns := [], harness := (true, "8ff52449b2d49dc2f5b953f3ebd319292d488fce8f7d7d9e8508a0c07e641fc9"), looks := false }, kinds := [], alts := [], laidByText := true, laidKinds := [.data, .data], laidTests := true, laidLooks := .later }
def CodeBytesUptoCardSaid : Prop := Claim7.holds Tryd.pinned (.plain (OpenSpec.upto codeBytesSpec)) codeBytesUptoCard

/-- THE SECOND FORM's CARD OF 'scorialaw08.CodeSteps'. -/
def codeStepsUptoCard : Claim7 := { stood := { row := codeStepsUptoRow, standIns := [], harness := (true, "8ff52449b2d49dc2f5b953f3ebd319292d488fce8f7d7d9e8508a0c07e641fc9"), looks := false }, kinds := [], alts := [], laidByText := true, laidKinds := [.data], laidTests := true, laidLooks := .later }
def CodeStepsUptoCardSaid : Prop := Claim7.holds Tryd.pinned (.plain (OpenSpec.upto codeStepsSpec)) codeStepsUptoCard

/-- THE SECOND FORM's CARD OF 'scorialaw08.CodeFunctions'. -/
def codeFunctionsUptoCard : Claim7 := { stood := { row := codeFunctionsUptoRow, standIns := [], harness := (true, "8ff52449b2d49dc2f5b953f3ebd319292d488fce8f7d7d9e8508a0c07e641fc9"), looks := false }, kinds := [], alts := [], laidByText := true, laidKinds := [.data], laidTests := true, laidLooks := .later }
def CodeFunctionsUptoCardSaid : Prop := Claim7.holds Tryd.pinned (.plain (OpenSpec.upto codeFunctionsSpec)) codeFunctionsUptoCard
end Rows
end Go.Proofs.YtbdknncmlcbbpaaDoor
