/- Texts joined. -/
import Derived.Test.YtkkenbalpnmfmaaDoorJ22
import Derived.Test.YtkkenbalpnmfmaaDoorJ23
set_option linter.unusedVariables false
namespace Go.Proofs.YtkkenbalpnmfmaaDoor.TR
def IsProg (t:T):Prop:=t.k = 27∧btw t 3 0 1 6 = true∧size t≤256∧depth t≤16∧∀ (i:Nat) (u:T),t.kids[i]? = some u→isFun u = true
noncomputable def isProg (t:T):Bool:=@decide (IsProg t) (Classical.propDecidable _)
theorem isProg_true {t:T} (h:IsProg t):isProg t = true:=by unfold isProg; simpa using h
theorem isProg_false {t:T} (h:¬ IsProg t):isProg t = false:=by unfold isProg; simpa using h
end Go.Proofs.YtkkenbalpnmfmaaDoor.TR
namespace Go.Proofs.YtkkenbalpnmfmaaDoor
open Go.RowKit WM TR


end Go.Proofs.YtkkenbalpnmfmaaDoor
