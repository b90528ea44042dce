/- Texts joined. -/
import Derived.Test.YtkkenbalpnmfmaaDoorJ11
set_option linter.unusedVariables false
namespace Go.Proofs.YtkkenbalpnmfmaaDoor
open Go.RowKit WM TR


end Go.Proofs.YtkkenbalpnmfmaaDoor
