/-
  DERIVED. GIVEN WITH THE SEED: THE CARDS: each row of YtkkenbalpnmfmaaDoorRows.lean that lists a variable, with what it lists TIED to the program's text (the seventh form; the later family's looks); each row that meets fmt, with fmt's text TOLD by the authors' own Lean function (tested against real Go, not proved from fmt's source: count such statements apart). THE CARD IS WHAT COUNTS. Prove the row's statement (the work); the ties are given (YtkkenbalpnmfmaaDoorTie.lean); close each card by the builder's one call (the guide's Derived/Test/ToyasCard.lean, 'card_holds'). Laid BY PROGRAM, IN A SANDBOX (cutbox-door.mjs). By AI agents, Wed Nov 11 2026. No macro, syntax, notation, axiom, sorry.
-/
import Derived.Test.YtkkenbalpnmfmaaDoorRows
import GoSem.ClaimSeven
namespace Go.Proofs.YtkkenbalpnmfmaaDoor
namespace Rows

/-- THE TIED CARD OF 'scorialaw07.TypesChecks'. -/
def typesChecksCard : Claim7 := { stood := { row := typesChecksRow, standIns := [], harness := (true, "6c980efc76c3cd64f662053bd154d5316f242b8916e5ee178fa60cf177a42efb"), looks := false }, kinds := [], alts := [], laidByText := true, laidKinds := [.data], laidTests := true, laidLooks := .later }
def TypesChecksCardSaid : Prop := Claim7.holds Tryd.pinned (.plain (OpenSpec.ofChange typesChecksSpec)) typesChecksCard

/-- THE TIED CARD OF 'scorialaw07.TypesOf'. -/
def typesOfCard : Claim7 := { stood := { row := typesOfRow, standIns := [], harness := (true, "6c980efc76c3cd64f662053bd154d5316f242b8916e5ee178fa60cf177a42efb"), looks := false }, kinds := [], alts := [], laidByText := true, laidKinds := [.data], laidTests := true, laidLooks := .later }
def TypesOfCardSaid : Prop := Claim7.holds Tryd.pinned (.plain (OpenSpec.ofChange typesOfSpec)) typesOfCard

/-- THE TIED CARD OF 'scorialaw07.TypesWords'. -/
def typesWordsCard : Claim7 := { stood := { row := typesWordsRow, standIns := [], harness := (true, "6c980efc76c3cd64f662053bd154d5316f242b8916e5ee178fa60cf177a42efb"), looks := false }, kinds := [], alts := [], laidByText := true, laidKinds := [.data], laidTests := true, laidLooks := .later }
def TypesWordsCardSaid : Prop := Claim7.holds Tryd.pinned (.plain (OpenSpec.ofChange typesWordsSpec)) typesWordsCard

/-- THE TIED CARD OF 'scorialaw07.TypesParts'. -/
def typesPartsCard : Claim7 := { stood := { row := typesPartsRow, standIns := [], harness := (true, "6c980efc76c3cd64f662053bd154d5316f242b8916e5ee178fa60cf177a42efb"), looks := false }, kinds := [], alts := [], laidByText := true, laidKinds := [.data], laidTests := true, laidLooks := .later }
def TypesPartsCardSaid : Prop := Claim7.holds Tryd.pinned (.plain (OpenSpec.ofChange typesPartsSpec)) typesPartsCard

/-- THE TIED CARD OF 'scorialaw07.TypesMore'. -/
def typesMoreCard : Claim7 := { stood := { row := typesMoreRow, standIns := [], harness := (true, "6c980efc76c3cd64f662053bd154d5316f242b8916e5ee178fa60cf177a42efb"), looks := false }, kinds := [], alts := [], laidByText := true, laidKinds := [.data], laidTests := true, laidLooks := .later }
def TypesMoreCardSaid : Prop := Claim7.holds Tryd.pinned (.plain (OpenSpec.ofChange typesMoreSpec)) typesMoreCard

/-- THE TIED CARD OF 'scorialaw07.TypesLess'. -/
def typesLessCard : Claim7 := { stood := { row := typesLessRow, standIns := [], harness := (true, "6c980efc76c3cd64f662053bd154d5316f242b8916e5ee178fa60cf177a42efb"), looks := false }, kinds := [], alts := [], laidByText := true, laidKinds := [.data], laidTests := true, laidLooks := .later }
def TypesLessCardSaid : Prop := Claim7.holds Tryd.pinned (.plain (OpenSpec.ofChange typesLessSpec)) typesLessCard

/-- THE TIED CARD OF 'scorialaw07.TypesExprs'. -/
def typesExprsCard : Claim7 := { stood := { row := typesExprsRow, standIns := [], harness := (true, "6c980efc76c3cd64f662053bd154d5316f242b8916e5ee178fa60cf177a42efb"), looks := false }, kinds := [], alts := [], laidByText := true, laidKinds := [.data], laidTests := true, laidLooks := .later }
def TypesExprsCardSaid : Prop := Claim7.holds Tryd.pinned (.plain (OpenSpec.ofChange typesExprsSpec)) typesExprsCard

/-- THE SECOND FORM's CARD OF 'scorialaw07.TypesChecks'. -/
def typesChecksUptoCard : Claim7 := { stood := { row := typesChecksUptoRow, standIns := [], harness := (true, "6c980efc76c3cd64f662053bd154d5316f242b8916e5ee178fa60cf177a42efb"), looks := false }, kinds := [], alts := [], laidByText := true, laidKinds := [.data], laidTests := true, laidLooks := .later }
def TypesChecksUptoCardSaid : Prop := Claim7.holds Tryd.pinned (.plain (OpenSpec.upto typesChecksSpec)) typesChecksUptoCard

/-- THE SECOND FORM's CARD OF 'scorialaw07.TypesOf'. -/
def typesOfUptoCard : Claim7 := { stood := { row := typesOfUptoRow, standIns := [], harness := (true, "6c980efc76c3cd64f662053bd154d5316f242b8916e5ee178fa60cf177a42efb"), looks := false }, kinds := [], alts := [], laidByText := true, laidKinds := [.data], laidTests := true, laidLooks := .later }
def TypesOfUptoCardSaid : Prop := Claim7.holds Tryd.pinned (.plain (OpenSpec.upto typesOfSpec)) typesOfUptoCard

/-- THE SECOND FORM's CARD OF 'scorialaw07.TypesWords'. -/
def typesWordsUptoCard : Claim7 := { stood := { row := typesWordsUptoRow, standIns := [], harness := (true, "6c980efc76c3cd64f662053bd154d5316f242b8916e5ee178fa60cf177a42efb"), looks := false }, kinds := [], alts := [], laidByText := true, laidKinds := [.data], laidTests := true, laidLooks := .later }
def TypesWordsUptoCardSaid : Prop := Claim7.holds Tryd.pinned (.plain (OpenSpec.upto typesWordsSpec)) typesWordsUptoCard

/-- THE SECOND FORM's CARD OF 'scorialaw07.TypesParts'. -/
def typesPartsUptoCard : Claim7 := { stood := { row := typesPartsUptoRow, standIns := [], harness := (true, "6c980efc76c3cd64f662053bd154d5316f242b8916e5ee178fa60cf177a42efb"), looks := false }, kinds := [], alts := [], laidByText := true, laidKinds := [.data], laidTests := true, laidLooks := .later }
def TypesPartsUptoCardSaid : Prop := Claim7.holds Tryd.pinned (.plain (OpenSpec.upto typesPartsSpec)) typesPartsUptoCard

/-- THE SECOND FORM's CARD OF 'scorialaw07.TypesMore'. -/
def typesMoreUptoCard : Claim7 := { stood := { row := typesMoreUptoRow, standIns := [], harness := (true, "6c980efc76c3cd64f662053bd154d5316f242b8916e5ee178fa60cf177a42efb"), looks := false }, kinds := [], alts := [], laidByText := true, laidKinds := [.data], laidTests := true, laidLooks := .later }
def TypesMoreUptoCardSaid : Prop := Claim7.holds Tryd.pinned (.plain (OpenSpec.upto typesMoreSpec)) typesMoreUptoCard

/-- THE SECOND FORM's CARD OF 'scorialaw07.TypesLess'. -/
def typesLessUptoCard : Claim7 := { stood := { row := typesLessUptoRow, standIns := [], harness := (true, "6c980efc76c3cd64f662053bd154d5316f242b8916e5ee178fa60cf177a42efb"), looks := false }, kinds := [], alts := [], laidByText := true, laidKinds := [.data], laidTests := true, laidLooks := .later }
def TypesLessUptoCardSaid : Prop := Claim7.holds Tryd.pinned (.plain (OpenSpec.upto typesLessSpec)) typesLessUptoCard

/-- THE SECOND FORM's CARD OF 'scorialaw07.TypesExprs'. -/
def typesExprsUptoCard : Claim7 := { stood := { row := typesExprsUptoRow, standIns := [], harness := (true, "6c980efc76c3cd64f662053bd154d5316f242b8916e5ee178fa60cf177a42efb"), looks := false }, kinds := [], alts := [], laidByText := true, laidKinds := [.data], laidTests := true, laidLooks := .later }
def TypesExprsUptoCardSaid : Prop := Claim7.holds Tryd.pinned (.plain (OpenSpec.upto typesExprsSpec)) typesExprsUptoCard
end Rows
end Go.Proofs.YtkkenbalpnmfmaaDoor
