/- Texts joined. -/
import Derived.Test.YtkkenbalpnmfmaaDoorJ21
set_option linter.unusedVariables false
namespace Go.Proofs.YtkkenbalpnmfmaaDoor.TR
def IsFun (t:T):Prop :=
 t.k = 26∧btw t 3 0 1 7 = true∧t.n≤(t.kids.length:Int) - 1∧(∀ (i:Nat) (u:T),i + 1 < t.kids.length→t.kids[i]? = some u→isType u = true∧((i:Int) < t.n→isPlain u = true))∧(∀ u,t.kids[t.kids.length - 1]? = some u→isBlock u = true)
noncomputable def isFun (t:T):Bool:=@decide (IsFun t) (Classical.propDecidable _)
theorem isFun_true {t:T} (h:IsFun t):isFun t = true:=by unfold isFun; simpa using h

end Go.Proofs.YtkkenbalpnmfmaaDoor.TR
namespace Go.Proofs.YtkkenbalpnmfmaaDoor
open Go.RowKit WM TR



end Go.Proofs.YtkkenbalpnmfmaaDoor
