/- Texts joined. -/
import Derived.Test.YtkkenbalpnmfmaaDoorJ07
import Derived.Deep.DeepCutAuto
set_option linter.unusedVariables false
namespace Go.Proofs.YtkkenbalpnmfmaaDoor
open Go.RowKit WM TR

def codeOf:Option T→Int
 | some _=>0
 | none=>6




end Go.Proofs.YtkkenbalpnmfmaaDoor
