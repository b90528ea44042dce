/- Texts joined. -/
import Derived.Test.YtkkenbalpnmfmaaDoorJ26
import Derived.Test.YtkkenbalpnmfmaaDoorJ11
import Derived.Test.YtkkenbalpnmfmaaDoorJ12
import Derived.Deep.CutRange
set_option linter.unusedVariables false
namespace Go.Proofs.YtkkenbalpnmfmaaDoor
open Go.RowKit WM TR

structure Acc2 (a a':Nat) (l l':Int) (s m:Nat):Prop where
 lo:a≤a'
 hi:a'≤a + 3 * s
 left:l'≤l - s
 left2:l - 2 * s≤l'
 bound:(s:Int)≤m + 4 * (max l 0 - max l' 0)
theorem Acc.two {a a':Nat} {l l':Int} {s m:Nat} (h:Acc a a' l l' s m):Acc2 a a' l l' s m:=by
 obtain ⟨h1,h2,h3,h4⟩:=h
 exact ⟨h1,h2,by omega,by omega,h4⟩
theorem Acc2.nil (a:Nat) (l:Int):Acc2 a a l l 0 0:=(Acc.nil a l).two
theorem Acc2.add {a b c:Nat} {l m n:Int} {s t p q:Nat} (h:Acc2 a b l m s p) (k:Acc2 b c m n t q):Acc2 a c l n (s + t) (p + q):=by
 obtain ⟨h1,h2,h3,h4,h5⟩:=h
 obtain ⟨k1,k2,k3,k4,k5⟩:=k
 exact ⟨by omega,by omega,by omega,by omega,by omega⟩

def GStmtPost (L:List Int) (A:Option Addr) (c g e a:Nat) (l:Int) (w:World) (x:Ending) (w':World):Prop :=
 ∃ t A' c' a' l', x = .returned (.agg #[.int .i64 t.k, .int .i64 t.n, .int .i64 t.m, .slice A' t.kids.length c']) ∧ isStmt t = true ∧
   Rep w' (fun b=>w.heap.size≤b∧b < w'.heap.size) (4 + e) t (nd t A' c')∧Blk w' g 60 (mkc A L.length c a' l')∧w.grownBy w' (some g)∧Acc2 a a' l l' (size t) 0



theorem GStmtPost.fin {L : List Int} {A : Option Addr} {c g e a a' R : Nat} {l l' : Int} {w V : World} {r c' : Nat} {t : T} {A' : Option Addr} (hr : r = w.heap.size) (hgr : g < r) (he : isStmt t = true) (hR : R ≤ 4 + e) (hk : Rep V (fun b => r < b ∧ b < V.heap.size) R t (nd t A' c'))
  (hm:Blk V g 60 (mkc A L.length c a' l')) (hg:w.grownBy V (some g)) (hacc:Acc2 a a' l l' (size t) 0) (v0 v1 v2 v3:Value) :
  GStmtPost L A c g e a l w (.returned (.agg #[.int .i64 t.k,.int .i64 t.n,.int .i64 t.m,.slice A' t.kids.length c'])) ((((V.setCell ⟨r,0,none⟩ v0).setCell ⟨r,1,none⟩ v1).setCell ⟨r,2,none⟩ v2).setCell ⟨r,3,none⟩ v3):=by
 have h4:=gw4 V r v0 v1 v2 v3
 refine ⟨t,A',c',a',l',rfl,he,((put4_rep hk (fun h=>by omega) _ _ _ _).mono fun b hb=>?_).deeper hR,hm.gw h4.1 (by omega),?_,hacc⟩
 ·rw [h4.2]; exact ⟨by omega,hb.2⟩
 ·exact gw_setCell (gw_setCell (gw_setCell (gw_setCell hg (.inr (Nat.le_of_eq hr.symm)) _) (.inr (Nat.le_of_eq hr.symm)) _) (.inr (Nat.le_of_eq hr.symm)) _) (.inr (Nat.le_of_eq hr.symm)) _



attribute [local go_sem ↓ high] shutB2 shutB3
attribute [local go_sem] run_bs2 run_bs3


end Go.Proofs.YtkkenbalpnmfmaaDoor
