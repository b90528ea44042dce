/- Texts joined. -/
import Derived.Test.YtkkenbalpnmfmaaDoorG06
set_option linter.unusedVariables false
namespace Go.Proofs.YtkkenbalpnmfmaaDoor
open Go.RowKit WM TR





theorem put4_rep {w : World} {S : Nat → Prop} {d : Nat} {t : T} {cs : List Value} (h : Rep w S d t cs) {r : Nat} (hr : ¬ S r) (v0 v1 v2 v3 : Value) :
  Rep ((((w.setCell ⟨r,0,none⟩ v0).setCell ⟨r,1,none⟩ v1).setCell ⟨r,2,none⟩ v2).setCell ⟨r,3,none⟩ v3) S d t cs :=
 h.keep (((((Keeps.refl S w).setCell hr _).setCell hr _).setCell hr _).setCell hr _)
theorem put4_blk {w : World} {g : Nat} {t : TypeId} {cs : List Value} (h : Blk w g t cs.toArray) (hs : cs.length = 4) (v0 v1 v2 v3 : Value) :
  Blk ((((w.setCell ⟨g,0,none⟩ v0).setCell ⟨g,1,none⟩ v1).setCell ⟨g,2,none⟩ v2).setCell ⟨g,3,none⟩ v3) g t #[v0,v1,v2,v3]:=by
 have hb:=(((h.set_ 0 v0).set_ 1 v1).set_ 2 v2).set_ 3 v3
 match cs,hs with
 | [_,_,_,_],_=>simpa using hb
theorem put4_below {a w : World} (h : Below a.heap.size a w) {r : Nat} (v0 v1 v2 v3 : Value) (hr : a.heap.size ≤ r := by exact Nat.le_refl _) :
  Below a.heap.size a ((((w.setCell ⟨r,0,none⟩ v0).setCell ⟨r,1,none⟩ v1).setCell ⟨r,2,none⟩ v2).setCell ⟨r,3,none⟩ v3) :=
 (((h.setCell hr _).setCell hr _).setCell hr _).setCell hr _


end Go.Proofs.YtkkenbalpnmfmaaDoor
