/-
  The three codes of scorialaw08's 'lives', reckoned.
-/
import Derived.Test.YtbdknncmlcbbpaaDoorG20
set_option linter.unusedVariables false
namespace Go.Proofs.YtbdknncmlcbbpaaDoor
open Go.RowKit WM TR KM

def liv1 : List Ins := [⟨0, 3, 0⟩, ⟨10, 0, 0⟩]
def liv2 : List Ins := [⟨12, 4, 0⟩, ⟨0, 1, 0⟩, ⟨11, 0, 0⟩, ⟨13, 0, 0⟩, ⟨0, 0, 0⟩, ⟨10, 0, 0⟩]
def liv3 : List Ins := [⟨10, 0, 0⟩]
set_option maxRecDepth 100000 in
theorem liv1_hts : hOf 0 [⟨0, 1, liv1⟩] ⟨0, 1, liv1⟩ = some [0, 1] := by decide +kernel
set_option maxRecDepth 100000 in
theorem liv2_hts : hOf 0 [⟨0, 1, liv2⟩] ⟨0, 1, liv2⟩ = some [0, 0, 1, -1, 0, 1] := by decide +kernel
set_option maxRecDepth 100000 in
theorem liv3_hts : hOf 0 [⟨0, 1, liv3⟩] ⟨0, 1, liv3⟩ = none := by decide +kernel
end Go.Proofs.YtbdknncmlcbbpaaDoor
