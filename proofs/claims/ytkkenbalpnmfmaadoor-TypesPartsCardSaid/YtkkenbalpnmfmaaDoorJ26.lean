/- Texts joined. -/
import Derived.Test.YtkkenbalpnmfmaaDoorJ25
import Derived.Deep.CutRange
set_option linter.unusedVariables false
namespace Go.Proofs.YtkkenbalpnmfmaaDoor
open Go.RowKit WM TR

theorem GExprPost.fin {L : List Int} {A : Option Addr} {c g d a a' : Nat} {l l' : Int} {w V : World} {r c' : Nat} {t : T} {A' : Option Addr} (hr : r = w.heap.size) (hgr : g < r) (he : isExpr t = true) (hk : Rep V (fun b => r < b ∧ b < V.heap.size) (d + 1) t (nd t A' c'))
  (hm:Blk V g 60 (mkc A L.length c a' l')) (hg:w.grownBy V (some g)) (hacc:Acc a a' l l' (size t) 1) (v0 v1 v2 v3:Value) :
  GExprPost L A c g d a l w (.returned (.agg #[.int .i64 t.k,.int .i64 t.n,.int .i64 t.m,.slice A' t.kids.length c'])) ((((V.setCell ⟨r,0,none⟩ v0).setCell ⟨r,1,none⟩ v1).setCell ⟨r,2,none⟩ v2).setCell ⟨r,3,none⟩ v3):=by
 have h4:=gw4 V r v0 v1 v2 v3
 refine ⟨t,A',c',a',l',rfl,he,(put4_rep hk (fun h=>by omega) _ _ _ _).mono fun b hb=>?_,hm.gw h4.1 (by omega),?_,hacc⟩
 ·rw [h4.2]; exact ⟨by omega,hb.2⟩
 ·exact gw_setCell (gw_setCell (gw_setCell (gw_setCell hg (.inr (Nat.le_of_eq hr.symm)) _) (.inr (Nat.le_of_eq hr.symm)) _) (.inr (Nat.le_of_eq hr.symm)) _) (.inr (Nat.le_of_eq hr.symm)) _




end Go.Proofs.YtkkenbalpnmfmaaDoor
