/- Texts joined. -/
import Derived.Test.YtkkenbalpnmfmaaDoorJ06
set_option linter.unusedVariables false
namespace Go.Proofs.YtkkenbalpnmfmaaDoor
open Go.RowKit WM TR


def MadeT (t:T) (d:Nat) (w:World) (e:Ending) (w':World):Prop :=
 ∃ A' c',e = .returned (.agg #[.int .i64 t.k,.int .i64 t.n,.int .i64 t.m,.slice A' t.kids.length c'])∧Rep w' (fun b=>w.heap.size≤b∧b < w'.heap.size) d t (nd t A' c')∧Below w.heap.size w w'


theorem put4_rep {w : World} {S : Nat → Prop} {d : Nat} {t : T} {cs : List Value} (h : Rep w S d t cs) {r : Nat} (hr : ¬ S r) (v0 v1 v2 v3 : Value) :
  Rep ((((w.setCell ⟨r,0,none⟩ v0).setCell ⟨r,1,none⟩ v1).setCell ⟨r,2,none⟩ v2).setCell ⟨r,3,none⟩ v3) S d t cs :=
 h.keep (((((Keeps.refl S w).setCell hr _).setCell hr _).setCell hr _).setCell hr _)

theorem put4_below {a w : World} (h : Below a.heap.size a w) {r : Nat} (v0 v1 v2 v3 : Value) (hr : a.heap.size ≤ r := by exact Nat.le_refl _) :
  Below a.heap.size a ((((w.setCell ⟨r,0,none⟩ v0).setCell ⟨r,1,none⟩ v1).setCell ⟨r,2,none⟩ v2).setCell ⟨r,3,none⟩ v3) :=
 (((h.setCell hr _).setCell hr _).setCell hr _).setCell hr _


end Go.Proofs.YtkkenbalpnmfmaaDoor
