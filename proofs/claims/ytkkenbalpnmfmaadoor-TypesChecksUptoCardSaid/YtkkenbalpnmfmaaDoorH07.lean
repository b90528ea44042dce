/- Texts joined. -/
import Derived.Test.YtkkenbalpnmfmaaDoorH06
set_option linter.unusedVariables false
namespace Go.Proofs.YtkkenbalpnmfmaaDoor
open Go.RowKit WM TR

def genTree (L:List Int):T:=(mkT L 6 0 29).1
def MadeT (t:T) (d:Nat) (w:World) (e:Ending) (w':World):Prop :=
 ∃ A' c',e = .returned (.agg #[.int .i64 t.k,.int .i64 t.n,.int .i64 t.m,.slice A' t.kids.length c'])∧Rep w' (fun b=>w.heap.size≤b∧b < w'.heap.size) d t (nd t A' c')∧Below w.heap.size w w'
theorem genTree_size (L:List Int):size (genTree L)≤4096:=(mkT_made L 6).size 0 29

theorem put4_rep {w : World} {S : Nat → Prop} {d : Nat} {t : T} {cs : List Value} (h : Rep w S d t cs) {r : Nat} (hr : ¬ S r) (v0 v1 v2 v3 : Value) :
  Rep ((((w.setCell ⟨r,0,none⟩ v0).setCell ⟨r,1,none⟩ v1).setCell ⟨r,2,none⟩ v2).setCell ⟨r,3,none⟩ v3) S d t cs :=
 h.keep (((((Keeps.refl S w).setCell hr _).setCell hr _).setCell hr _).setCell hr _)
theorem put4_blk {w : World} {g : Nat} {t : TypeId} {cs : List Value} (h : Blk w g t cs.toArray) (hs : cs.length = 4) (v0 v1 v2 v3 : Value) :
  Blk ((((w.setCell ⟨g,0,none⟩ v0).setCell ⟨g,1,none⟩ v1).setCell ⟨g,2,none⟩ v2).setCell ⟨g,3,none⟩ v3) g t #[v0,v1,v2,v3]:=by
 have hb:=(((h.set_ 0 v0).set_ 1 v1).set_ 2 v2).set_ 3 v3
 match cs,hs with
 | [_,_,_,_],_=>simpa using hb
theorem put4_below {a w : World} (h : Below a.heap.size a w) {r : Nat} (v0 v1 v2 v3 : Value) (hr : a.heap.size ≤ r := by exact Nat.le_refl _) :
  Below a.heap.size a ((((w.setCell ⟨r,0,none⟩ v0).setCell ⟨r,1,none⟩ v1).setCell ⟨r,2,none⟩ v2).setCell ⟨r,3,none⟩ v3) :=
 (((h.setCell hr _).setCell hr _).setCell hr _).setCell hr _

set_option maxRecDepth 100000 in
set_option maxHeartbeats 2000000 in
theorem Tree_is (L : List Int) (S : Nat → Prop) (A : Option Addr) (c : Nat) (w : World) (hL : Rd w S 1 A L.length (vi L)) (hin : In S w.heap.size) (hr : ∀ x ∈ L, inRange x) (hl : L.length ≤ 9223372036854775807) :
  Calls Tryd.prog 13 #[.slice A L.length c] w (MadeT (genTree L) 6 w):=by
 have HL:=Lib.hid hL
 have HI:=Lib.hid hin
 clear hL hin
 go_enter Tryd.func13,Tryd.ntmps13
 go_wp2_with fail
 obtain ⟨W1,hW1⟩:∃ W1,W1 = (w.alloc (.cells #[.int .i64 0,.int .i64 0,.int .i64 0,.slice none 0 0] 25)).alloc (.cells #[.slice A L.length c,.int .i64 0,.int .i64 29] 60):=⟨_,rfl⟩
 have hb1:Below w.heap.size w W1:=by rw [hW1]; exact ba (below_new _ _) _
 have hz1:W1.heap.size = w.heap.size + 2:=by rw [hW1]; simp
 have ho1:Blk W1 w.heap.size 25 #[.int .i64 0,.int .i64 0,.int .i64 0,.slice none 0 0]:=by rw [hW1]; exact blk_new3 _ _ _ _
 have hg1:Blk W1 (w.heap.size + 1) 60 (mkc A L.length c 0 29):=by rw [hW1]; exact blk_new2 _ _ _ _
 rw [← hW1]
 have hS:∀ b,S b→b≠w.heap.size + 1:=fun b hb=>by have:=HI.out b hb; omega
 refine (tree_is L S A c (w.heap.size + 1) hr hl hS 5 0 29 W1 hg1 (HI.out.more (by omega)) (HL.out.keep (Keeps.below HI.out hb1)) (by decide) (by decide) (by decide) 6 rfl).mono ?_
 rintro e w2 ⟨t,A',c',ht,rfl,hrep,hg2,hgw⟩
 have ho2:Blk w2 w.heap.size 25 #[.int .i64 0,.int .i64 0,.int .i64 0,.slice none 0 0]:=ho1.gw hgw (by omega)
 have HREP:=Lib.hid hrep
 have HGW:=Lib.hid hgw
 have HB1:=Lib.hid hb1
 have HZ1:=Lib.hid hz1
 have HT:=Lib.hid ht
 have r0:=ho2.cell 0
 have r1:=ho2.cell 1
 have r2:=ho2.cell 2
 have r3:=ho2.cell 3
 have f0:=ho2.frozen 0
 have f1:=ho2.frozen 1
 have f2:=ho2.frozen 2
 have f3:=ho2.frozen 3
 simp only [List.getElem?_toArray,List.getElem?_cons_zero,List.getElem?_cons_succ] at r0 r1 r2 r3
 clear hW1 hb1 hz1 ho1 hg1 hg2 hgw hrep ht ho2 hS
 go_wp2_with fail
 refine bodyPost_ret (v:=.agg #[.int .i64 t.k,.int .i64 t.n,.int .i64 t.m,.slice A' t.kids.length c']) (by simp [results,Tryd.results13,go_sem,r0,r1,r2,r3]) rfl ?_
 have h:genTree L = t:=HT.out
 rw [h]
 refine ⟨A',c',rfl,?_,?_⟩
 ·refine Rep.mono ?_ (put4_rep HREP.out (r:=w.heap.size) (fun hb=>by have:=hb.1; have:=HZ1.out; omega) _ _ _ _)
  intro b hb
  exact ⟨by have:=hb.1; have:=HZ1.out; omega,by rw [(gw4 _ _ _ _ _ _).2]; exact hb.2⟩
 ·exact put4_below (HB1.out.grown HGW.out HB1.out.size (fun k hk=>by have:=Option.some.inj hk; omega)) _ _ _ _
end Go.Proofs.YtkkenbalpnmfmaaDoor
