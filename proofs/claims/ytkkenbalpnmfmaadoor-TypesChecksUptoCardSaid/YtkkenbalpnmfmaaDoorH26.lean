/- Texts joined. -/
import Derived.Test.YtkkenbalpnmfmaaDoorH25
import Derived.Deep.CutRange
set_option linter.unusedVariables false
namespace Go.Proofs.YtkkenbalpnmfmaaDoor
open Go.RowKit WM TR

theorem GExprPost.fin {L : List Int} {A : Option Addr} {c g d a a' : Nat} {l l' : Int} {w V : World} {r c' : Nat} {t : T} {A' : Option Addr} (hr : r = w.heap.size) (hgr : g < r) (he : isExpr t = true) (hk : Rep V (fun b => r < b ∧ b < V.heap.size) (d + 1) t (nd t A' c'))
  (hm:Blk V g 60 (mkc A L.length c a' l')) (hg:w.grownBy V (some g)) (hacc:Acc a a' l l' (size t) 1) (v0 v1 v2 v3:Value) :
  GExprPost L A c g d a l w (.returned (.agg #[.int .i64 t.k,.int .i64 t.n,.int .i64 t.m,.slice A' t.kids.length c'])) ((((V.setCell ⟨r,0,none⟩ v0).setCell ⟨r,1,none⟩ v1).setCell ⟨r,2,none⟩ v2).setCell ⟨r,3,none⟩ v3):=by
 have h4:=gw4 V r v0 v1 v2 v3
 refine ⟨t,A',c',a',l',rfl,he,(put4_rep hk (fun h=>by omega) _ _ _ _).mono fun b hb=>?_,hm.gw h4.1 (by omega),?_,hacc⟩
 ·rw [h4.2]; exact ⟨by omega,hb.2⟩
 ·exact gw_setCell (gw_setCell (gw_setCell (gw_setCell hg (.inr (Nat.le_of_eq hr.symm)) _) (.inr (Nat.le_of_eq hr.symm)) _) (.inr (Nat.le_of_eq hr.symm)) _) (.inr (Nat.le_of_eq hr.symm)) _
theorem acc_leaf (a b:Nat) (l:Int) (t:T) (hs:size t = 1) (h1:a≤b) (h2:b≤a + 3):Acc a b l (l - 1) (size t) 1:=by
 rw [hs]; exact ⟨h1,by omega,by omega,by omega⟩
theorem acc_node (a b b':Nat) (l l':Int) (k n m:Int) (ts:List T) (j:Nat) (h:Acc b b' (l - 1) l' ((ts.map size).sum) j) (hj:j≤3) (h1:a≤b) (h2:b≤a + 3) (hl:1≤l):Acc a b' l l' (size ⟨k,n,m,ts⟩) 1:=by
 obtain ⟨h3,h4,h5,h6⟩:=h
 have hs:size ⟨k,n,m,ts⟩ = 1 + (ts.map size).sum:=size_eq _
 rw [hs]
 exact ⟨by omega,by omega,by omega,by omega⟩

set_option maxRecDepth 100000 in
set_option maxHeartbeats 8000000 in
theorem gexpr_step (L:List Int) (S:Nat→Prop) (A:Option Addr) (c g d:Nat) (hr:∀ x ∈ L,inRange x) (hl:L.length≤9223372036854775807) (hS:∀ b,S b→b≠g) (hE:∀ e,d = e + 1→GExprC L S A c g e):GExprC L S A c g d:=by
 intro a l w hm hin hL ha hla hl2 D hD
 have HE:=Lib.hid hE
 have HRL:=Lib.hid hr
 have HLL:=Lib.hid hl
 have HS:=Lib.hid hS
 have HI:=Lib.hid hin
 have HL:=Lib.hid hL
 have HD:=Lib.hid hD
 obtain ⟨x0,hx0⟩:∃ x,numAt L a 12 = x:=⟨_,rfl⟩
 have hxb:=numAt_le (L:=L) (a:=a) (n:=12) (by omega)
 rw [hx0] at hxb
 have HX0:=Lib.hid hx0
 have htm:x0.tmod 4 = x0 % 4:=Int.tmod_eq_emod_of_nonneg hxb.1
 have hb4:0≤x0.tmod 4∧x0.tmod 4 < 4:=by rw [htm]; omega
 obtain ⟨r,hrr⟩:∃ r,r = w.heap.size:=⟨_,rfl⟩
 have hgr:g < r:=by rw [hrr]; exact hm.lt
 have HRR:=Lib.hid hrr
 have HM:=Lib.hid hm
 go_enter Tryd.func95,Tryd.ntmps95
 go_upto_region 1 with fail
 obtain ⟨W1,hW1⟩:∃ W1,W1 = w.alloc (.cells #[.int .i64 0,.int .i64 0,.int .i64 0,.slice none 0 0] 25):=⟨_,rfl⟩
 have HM1:Hid (Blk W1 g 60 (mkc A L.length c a l)):=Lib.hid (by rw [hW1]; exact hm.below (below_new _ _) hm.lt)
 have HZ1:Hid (Blk W1 r 25 #[.int .i64 0,.int .i64 0,.int .i64 0,.slice none 0 0]):=Lib.hid (by rw [hW1,hrr]; exact Blk.new _ _ _)
 have HG1:Hid (w.grownBy W1 (some g)):=Lib.hid (by rw [hW1]; exact gw_alloc (gw_refl w g) _)
 have HSZ1:Hid (W1.heap.size = r + 1):=Lib.hid (by rw [hW1,hrr]; exact size_alloc _ _)
 rw [← hW1,← hrr]
 clear htm hW1 hrr hm hin hL hE hr hl hS hD hx0
 go_upto_region 2 with (first
  | (go_at_call 42; refine (num_is L S A c g _ _ _ _ HM1.out HS.out (HL.out.keep (Keeps.gw HG1.out HI.out HS.out)) HRL.out (by omega) HLL.out (by omega)).mono ?_; rintro e w2 ⟨rfl,hm2,hg2⟩; rw [HX0.out]))
 have h2:=hm2.cell 2
 have f2:=hm2.frozen 2
 simp only [mkc,List.getElem?_toArray,List.getElem?_cons_zero,List.getElem?_cons_succ] at h2
 have HM2:=Lib.hid hm2
 have HG2:=Lib.hid hg2
 clear hm2 hg2
 go_cut [5] from 8 to 14 (fun s5 wv=>∃ V:World,V = wv∧s5 = .int .i64 x0∧Hid (Blk V g 60 (mkc A L.length c (a + 1) (l - 1))∧W1.grownBy V (some g)))
 case first =>
  have hlw:IntKind.i64.wrap (l - 1) = l - 1:=by rw [IntKind.wrap_i64]; omega
  go_wp2_with fail
  go_meet
  exact ⟨_,rfl,rfl,HM2.out.set_ 2 _,gw_setCell HG2.out (.inl rfl) _⟩
 case rest =>
 obtain ⟨V,hV,rfl,HV⟩:=hcut
 subst hV
 clear h2 f2
 have h2:=HV.out.1.cell 2
 simp only [mkc,List.getElem?_toArray,List.getElem?_cons_zero,List.getElem?_cons_succ] at h2
 rename_i hK
 refine hK _ _ ?_
 go_step
 go_cut [5] from 15 to 25 (fun s5 wv=>∃ (xx:Int),wv = V∧s5 = .int .i64 xx∧Hid (0≤xx∧xx < 12∧(4≤xx→xx≤10→1≤d∧2≤l)))
 case first =>
  have hD:=HD.out
  by_cases hd0:D≤0
  ·have hdd:decide (D≤0) = true:=by simpa using hd0
   have hmod:IntKind.i64.wrap (x0.tmod 4) = x0.tmod 4:=by rw [IntKind.wrap_i64]; omega
   clear hD
   go_wp2_with fail
   go_meet
   exact ⟨_,rfl,rfl,by omega,by omega,by omega⟩
  ·have hdd:decide (D≤0) = false:=by simp; omega
   by_cases hl0:l - 1≤0
   ·have hld:decide (l - 1≤0) = true:=by simpa using hl0
    have hmod:IntKind.i64.wrap (x0.tmod 4) = x0.tmod 4:=by rw [IntKind.wrap_i64]; omega
    have hD2:=Lib.hid hD
    clear hD hd0
    go_wp2_with fail
    go_meet
    exact ⟨_,rfl,rfl,by omega,by omega,by omega⟩
   ·have hld:decide (l - 1≤0) = false:=by simp; omega
    have hD2:=Lib.hid hD
    have hd1:0 < D:=by omega
    have hl1:0 < l - 1:=by omega
    clear hD hd0
    go_wp2_with fail
    go_meet
    exact ⟨_,rfl,rfl,hxb.1,hxb.2,fun _ _=>⟨by have:=hD2.out; omega,by omega⟩⟩
 case rest =>
 obtain ⟨xx,hVV,rfl,HXX⟩:=hcut
 subst hVV
 obtain ⟨hx1,hx2,hx3⟩:=HXX.out
 have HMV:=Lib.hid HV.out.1
 have HZV:=Lib.hid (HZ1.out.gw HV.out.2 (by omega))
 have HGV:=Lib.hid (gw_trans HG1.out HV.out.2)
 have z0:=HZV.out.cell 0; have z1:=HZV.out.cell 1; have z2:=HZV.out.cell 2; have z3:=HZV.out.cell 3; have f0:=HZV.out.frozen 0; have f1:=HZV.out.frozen 1; have f2:=HZV.out.frozen 2; have f3:=HZV.out.frozen 3; simp only [List.getElem?_toArray,List.getElem?_cons_zero,List.getElem?_cons_succ] at z0 z1 z2 z3
 have hb16:=numAt_le (L:=L) (a:=a + 1) (n:=16) (by omega)
 have hb2:=numAt_le (L:=L) (a:=a + 1) (n:=2) (by omega)
 have hb6:=numAt_le (L:=L) (a:=a + 1) (n:=6) (by omega)
 have hb3:=numAt_le (L:=L) (a:=a + 1) (n:=3) (by omega)
 have hb14:=numAt_le (L:=L) (a:=a + 1) (n:=14) (by omega)
 have hc3:=numAt_le (L:=L) (a:=a + 2) (n:=3) (by omega)
 have hc4:=numAt_le (L:=L) (a:=a + 2) (n:=4) (by omega)
 have hw8:IntKind.i64.wrap (numAt L (a + 1) 16 - 8) = numAt L (a + 1) 16 - 8:=by rw [IntKind.wrap_i64]; omega
 have HB:=Lib.hid (And.intro hb16 (And.intro hb2 (And.intro hb6 (And.intro hb3 (And.intro hb14 (And.intro hc3 hc4))))))
 have hcases:xx = 0∨xx = 1∨xx = 2∨xx = 3∨xx = 4∨xx = 5∨xx = 6∨xx = 7∨xx = 8∨xx = 9∨xx = 10∨xx = 11:=by omega
 clear hb16 hb2 hb6 hb3 hb14 hc3 hc4 hx1 hx2 h2
 rcases hcases with rfl | rfl | rfl | rfl | rfl | rfl | rfl | rfl | rfl | rfl | rfl | rfl
 ·clear hx3
  go_wp2_with (first
   | (go_at_call 42; go_loud (refine (num_is L S A c g _ _ _ _ HMV.out HS.out (HL.out.keep (Keeps.gw HGV.out HI.out HS.out)) HRL.out (by omega) HLL.out (by omega)).mono ?_; rintro e w2 ⟨rfl,hm2,hg2⟩; (try rw [HKC.out]); replace HGV:=Lib.hid (gw_trans HGV.out hg2); replace HZV:=Lib.hid (HZV.out.gw hg2 (by omega)); replace HMV:=Lib.hid hm2; clear hm2 hg2; clear z0 z1 z2 z3 f0 f1 f2 f3; have z0:=HZV.out.cell 0; have z1:=HZV.out.cell 1; have z2:=HZV.out.cell 2; have z3:=HZV.out.cell 3; have f0:=HZV.out.frozen 0; have f1:=HZV.out.frozen 1; have f2:=HZV.out.frozen 2; have f3:=HZV.out.frozen 3; simp only [List.getElem?_toArray,List.getElem?_cons_zero,List.getElem?_cons_succ] at z0 z1 z2 z3)))
  obtain ⟨hb16,hb2,hb6,hb3,hb14,hc3,hc4⟩:=HB.out
  refine bodyPost_ret (v:=.agg #[.int .i64 4,.int .i64 (numAt L (a + 1) 16 - 8),.int .i64 (0),.slice none 0 0]) (by simp [results,Tryd.results95,go_sem,z0,z1,z2,z3]) rfl (GExprPost.fin (t:=⟨4,numAt L (a + 1) 16 - 8,0,[]⟩) (A':=none) (c':=0) (a':=a + 1 + 1) (l':=l - 1) HRR.out hgr ?_ (Rep.leaf (by unfold inRange; omega) (by unfold inRange; omega) (by unfold inRange; omega) _ _) HMV.out HGV.out (acc_leaf _ _ _ _ (by rw [size_eq]; rfl) (by omega) (by omega)) _ _ _ _)
  rw [isExpr_eq]; simp [exprHead] <;> omega
 ·clear hx3
  go_wp2_with (first
   | (go_at_call 42; go_loud (refine (num_is L S A c g _ _ _ _ HMV.out HS.out (HL.out.keep (Keeps.gw HGV.out HI.out HS.out)) HRL.out (by omega) HLL.out (by omega)).mono ?_; rintro e w2 ⟨rfl,hm2,hg2⟩; (try rw [HKC.out]); replace HGV:=Lib.hid (gw_trans HGV.out hg2); replace HZV:=Lib.hid (HZV.out.gw hg2 (by omega)); replace HMV:=Lib.hid hm2; clear hm2 hg2; clear z0 z1 z2 z3 f0 f1 f2 f3; have z0:=HZV.out.cell 0; have z1:=HZV.out.cell 1; have z2:=HZV.out.cell 2; have z3:=HZV.out.cell 3; have f0:=HZV.out.frozen 0; have f1:=HZV.out.frozen 1; have f2:=HZV.out.frozen 2; have f3:=HZV.out.frozen 3; simp only [List.getElem?_toArray,List.getElem?_cons_zero,List.getElem?_cons_succ] at z0 z1 z2 z3)))
  obtain ⟨hb16,hb2,hb6,hb3,hb14,hc3,hc4⟩:=HB.out
  refine bodyPost_ret (v:=.agg #[.int .i64 5,.int .i64 (numAt L (a + 1) 2),.int .i64 (0),.slice none 0 0]) (by simp [results,Tryd.results95,go_sem,z0,z1,z2,z3]) rfl (GExprPost.fin (t:=⟨5,numAt L (a + 1) 2,0,[]⟩) (A':=none) (c':=0) (a':=a + 1 + 1) (l':=l - 1) HRR.out hgr ?_ (Rep.leaf (by unfold inRange; omega) (by unfold inRange; omega) (by unfold inRange; omega) _ _) HMV.out HGV.out (acc_leaf _ _ _ _ (by rw [size_eq]; rfl) (by omega) (by omega)) _ _ _ _)
  rw [isExpr_eq]; simp [exprHead,btw] <;> omega
 ·clear hx3
  go_wp2_with (first
   | (go_at_call 42; go_loud (refine (num_is L S A c g _ _ _ _ HMV.out HS.out (HL.out.keep (Keeps.gw HGV.out HI.out HS.out)) HRL.out (by omega) HLL.out (by omega)).mono ?_; rintro e w2 ⟨rfl,hm2,hg2⟩; (try rw [HKC.out]); replace HGV:=Lib.hid (gw_trans HGV.out hg2); replace HZV:=Lib.hid (HZV.out.gw hg2 (by omega)); replace HMV:=Lib.hid hm2; clear hm2 hg2; clear z0 z1 z2 z3 f0 f1 f2 f3; have z0:=HZV.out.cell 0; have z1:=HZV.out.cell 1; have z2:=HZV.out.cell 2; have z3:=HZV.out.cell 3; have f0:=HZV.out.frozen 0; have f1:=HZV.out.frozen 1; have f2:=HZV.out.frozen 2; have f3:=HZV.out.frozen 3; simp only [List.getElem?_toArray,List.getElem?_cons_zero,List.getElem?_cons_succ] at z0 z1 z2 z3)))
  obtain ⟨hb16,hb2,hb6,hb3,hb14,hc3,hc4⟩:=HB.out
  refine bodyPost_ret (v:=.agg #[.int .i64 8,.int .i64 (numAt L (a + 1) 6),.int .i64 (numAt L (a + 2) 3),.slice none 0 0]) (by simp [results,Tryd.results95,go_sem,z0,z1,z2,z3]) rfl (GExprPost.fin (t:=⟨8,numAt L (a + 1) 6,numAt L (a + 2) 3,[]⟩) (A':=none) (c':=0) (a':=a + 2 + 1) (l':=l - 1) HRR.out hgr ?_ (Rep.leaf (by unfold inRange; omega) (by unfold inRange; omega) (by unfold inRange; omega) _ _) HMV.out HGV.out (acc_leaf _ _ _ _ (by rw [size_eq]; rfl) (by omega) (by omega)) _ _ _ _)
  rw [isExpr_eq]; simp [exprHead,btw] <;> omega
 ·clear hx3
  go_wp2_with (first
   | (go_at_call 42; go_loud (refine (num_is L S A c g _ _ _ _ HMV.out HS.out (HL.out.keep (Keeps.gw HGV.out HI.out HS.out)) HRL.out (by omega) HLL.out (by omega)).mono ?_; rintro e w2 ⟨rfl,hm2,hg2⟩; (try rw [HKC.out]); replace HGV:=Lib.hid (gw_trans HGV.out hg2); replace HZV:=Lib.hid (HZV.out.gw hg2 (by omega)); replace HMV:=Lib.hid hm2; clear hm2 hg2; clear z0 z1 z2 z3 f0 f1 f2 f3; have z0:=HZV.out.cell 0; have z1:=HZV.out.cell 1; have z2:=HZV.out.cell 2; have z3:=HZV.out.cell 3; have f0:=HZV.out.frozen 0; have f1:=HZV.out.frozen 1; have f2:=HZV.out.frozen 2; have f3:=HZV.out.frozen 3; simp only [List.getElem?_toArray,List.getElem?_cons_zero,List.getElem?_cons_succ] at z0 z1 z2 z3)))
  obtain ⟨hb16,hb2,hb6,hb3,hb14,hc3,hc4⟩:=HB.out
  refine bodyPost_ret (v:=.agg #[.int .i64 6,.int .i64 (numAt L (a + 1) 6),.int .i64 (0),.slice none 0 0]) (by simp [results,Tryd.results95,go_sem,z0,z1,z2,z3]) rfl (GExprPost.fin (t:=⟨6,numAt L (a + 1) 6,0,[]⟩) (A':=none) (c':=0) (a':=a + 1 + 1) (l':=l - 1) HRR.out hgr ?_ (Rep.leaf (by unfold inRange; omega) (by unfold inRange; omega) (by unfold inRange; omega) _ _) HMV.out HGV.out (acc_leaf _ _ _ _ (by rw [size_eq]; rfl) (by omega) (by omega)) _ _ _ _)
  rw [isExpr_eq]; simp [exprHead,btw] <;> omega
 ·obtain ⟨hd1,hl3⟩:=hx3 (by omega) (by omega)
  clear hx3
  obtain ⟨dd,hdd⟩:∃ dd,d = dd + 1:=⟨d - 1,by omega⟩
  subst hdd
  have HEE:Hid (GExprC L S A c g dd):=Lib.hid (HE.out dd rfl)
  have HDE:Hid (D - 1 = (dd:Int)):=Lib.hid (by have:=HD.out; omega)
  have hDw:IntKind.i64.wrap (D - 1) = D - 1:=by rw [IntKind.wrap_i64]; have:=HD.out; omega
  go_wp2_with (first
   | (go_at_call 94; go_loud (refine (some_is L S A c g dd HS.out HEE.out 1 _ _ _ HMV.out (HI.out.more HGV.out.size) (HL.out.keep (Keeps.gw HGV.out HI.out HS.out)) (by omega) (by omega) (by omega) (by omega) _ HDE.out).mono ?_; rintro e w9 ⟨ts,A9,c9,a9,l9,xs,rfl,hc9,hlen,hall,hrd,hrs,hm9,hg9,hacc9⟩; have HRW:=Lib.hid HZV.out.lt; have HC9:=Lib.hid hc9; have HLEN:=Lib.hid hlen; have HALL:=Lib.hid hall; have HRD:=Lib.hid hrd; have HRS:=Lib.hid hrs; have HAC:=Lib.hid hacc9; replace HGV:=Lib.hid (gw_trans HGV.out hg9); replace HZV:=Lib.hid (HZV.out.gw hg9 (by omega)); replace HMV:=Lib.hid hm9; clear hc9 hlen hall hrd hrs hm9 hg9 hacc9; clear z0 z1 z2 z3 f0 f1 f2 f3; have z0:=HZV.out.cell 0; have z1:=HZV.out.cell 1; have z2:=HZV.out.cell 2; have z3:=HZV.out.cell 3; have f0:=HZV.out.frozen 0; have f1:=HZV.out.frozen 1; have f2:=HZV.out.frozen 2; have f3:=HZV.out.frozen 3; simp only [List.getElem?_toArray,List.getElem?_cons_zero,List.getElem?_cons_succ] at z0 z1 z2 z3))
   | (go_at_call 42; go_loud (refine (num_is L S A c g _ _ _ _ HMV.out HS.out (HL.out.keep (Keeps.gw HGV.out HI.out HS.out)) HRL.out (by omega) HLL.out (by omega)).mono ?_; rintro e w2 ⟨rfl,hm2,hg2⟩; (try rw [HKC.out]); replace HGV:=Lib.hid (gw_trans HGV.out hg2); replace HZV:=Lib.hid (HZV.out.gw hg2 (by omega)); replace HMV:=Lib.hid hm2; clear hm2 hg2; clear z0 z1 z2 z3 f0 f1 f2 f3; have z0:=HZV.out.cell 0; have z1:=HZV.out.cell 1; have z2:=HZV.out.cell 2; have z3:=HZV.out.cell 3; have f0:=HZV.out.frozen 0; have f1:=HZV.out.frozen 1; have f2:=HZV.out.frozen 2; have f3:=HZV.out.frozen 3; simp only [List.getElem?_toArray,List.getElem?_cons_zero,List.getElem?_cons_succ] at z0 z1 z2 z3)))
  obtain ⟨hb16,hb2,hb6,hb3,hb14,hc3,hc4⟩:=HB.out
  refine bodyPost_ret (v:=.agg #[.int .i64 7,.int .i64 (numAt L (a + 1) 6),.int .i64 (0),.slice A9 ts.length c9]) (by simp [results,Tryd.results95,go_sem,z0,z1,z2,z3,HLEN.out]) rfl (GExprPost.fin (t:=⟨7,numAt L (a + 1) 6,0,ts⟩) (A':=A9) (c':=c9) (a':=a9) (l':=l9) HRR.out hgr ?_ (Rep.mk (by unfold inRange; omega) (by unfold inRange; omega) (by unfold inRange; omega) (by rw [HLEN.out]; exact HC9.out) (by rw [HLEN.out]; exact HRD.out.mono fun b hb=>⟨Nat.lt_of_lt_of_le HRW.out hb.1,hb.2⟩) (HRS.out.mono fun b hb=>⟨Nat.lt_of_lt_of_le HRW.out hb.1,hb.2⟩)) HMV.out HGV.out (acc_node a (a + 1 + 1) a9 l l9 _ _ _ ts _ HAC.out (by omega) (by omega) (by omega) (by omega)) _ _ _ _)
  rw [isExpr_eq]
  show (exprHead ⟨7,numAt L (a + 1) 6,0,ts⟩ && ts.all isExpr) = true
  rw [HALL.out,Bool.and_true]
  simp [exprHead,btw,HLEN.out] <;> omega
 ·obtain ⟨hd1,hl3⟩:=hx3 (by omega) (by omega)
  clear hx3
  obtain ⟨dd,hdd⟩:∃ dd,d = dd + 1:=⟨d - 1,by omega⟩
  subst hdd
  have HEE:Hid (GExprC L S A c g dd):=Lib.hid (HE.out dd rfl)
  have HDE:Hid (D - 1 = (dd:Int)):=Lib.hid (by have:=HD.out; omega)
  have hDw:IntKind.i64.wrap (D - 1) = D - 1:=by rw [IntKind.wrap_i64]; have:=HD.out; omega
  go_wp2_with (first
   | (go_at_call 94; go_loud (refine (some_is L S A c g dd HS.out HEE.out 1 _ _ _ HMV.out (HI.out.more HGV.out.size) (HL.out.keep (Keeps.gw HGV.out HI.out HS.out)) (by omega) (by omega) (by omega) (by omega) _ HDE.out).mono ?_; rintro e w9 ⟨ts,A9,c9,a9,l9,xs,rfl,hc9,hlen,hall,hrd,hrs,hm9,hg9,hacc9⟩; have HRW:=Lib.hid HZV.out.lt; have HC9:=Lib.hid hc9; have HLEN:=Lib.hid hlen; have HALL:=Lib.hid hall; have HRD:=Lib.hid hrd; have HRS:=Lib.hid hrs; have HAC:=Lib.hid hacc9; replace HGV:=Lib.hid (gw_trans HGV.out hg9); replace HZV:=Lib.hid (HZV.out.gw hg9 (by omega)); replace HMV:=Lib.hid hm9; clear hc9 hlen hall hrd hrs hm9 hg9 hacc9; clear z0 z1 z2 z3 f0 f1 f2 f3; have z0:=HZV.out.cell 0; have z1:=HZV.out.cell 1; have z2:=HZV.out.cell 2; have z3:=HZV.out.cell 3; have f0:=HZV.out.frozen 0; have f1:=HZV.out.frozen 1; have f2:=HZV.out.frozen 2; have f3:=HZV.out.frozen 3; simp only [List.getElem?_toArray,List.getElem?_cons_zero,List.getElem?_cons_succ] at z0 z1 z2 z3))
   | (go_at_call 42; go_loud (refine (num_is L S A c g _ _ _ _ HMV.out HS.out (HL.out.keep (Keeps.gw HGV.out HI.out HS.out)) HRL.out (by omega) HLL.out (by omega)).mono ?_; rintro e w2 ⟨rfl,hm2,hg2⟩; (try rw [HKC.out]); replace HGV:=Lib.hid (gw_trans HGV.out hg2); replace HZV:=Lib.hid (HZV.out.gw hg2 (by omega)); replace HMV:=Lib.hid hm2; clear hm2 hg2; clear z0 z1 z2 z3 f0 f1 f2 f3; have z0:=HZV.out.cell 0; have z1:=HZV.out.cell 1; have z2:=HZV.out.cell 2; have z3:=HZV.out.cell 3; have f0:=HZV.out.frozen 0; have f1:=HZV.out.frozen 1; have f2:=HZV.out.frozen 2; have f3:=HZV.out.frozen 3; simp only [List.getElem?_toArray,List.getElem?_cons_zero,List.getElem?_cons_succ] at z0 z1 z2 z3)))
  obtain ⟨hb16,hb2,hb6,hb3,hb14,hc3,hc4⟩:=HB.out
  refine bodyPost_ret (v:=.agg #[.int .i64 10,.int .i64 (0),.int .i64 (0),.slice A9 ts.length c9]) (by simp [results,Tryd.results95,go_sem,z0,z1,z2,z3,HLEN.out]) rfl (GExprPost.fin (t:=⟨10,0,0,ts⟩) (A':=A9) (c':=c9) (a':=a9) (l':=l9) HRR.out hgr ?_ (Rep.mk (by unfold inRange; omega) (by unfold inRange; omega) (by unfold inRange; omega) (by rw [HLEN.out]; exact HC9.out) (by rw [HLEN.out]; exact HRD.out.mono fun b hb=>⟨Nat.lt_of_lt_of_le HRW.out hb.1,hb.2⟩) (HRS.out.mono fun b hb=>⟨Nat.lt_of_lt_of_le HRW.out hb.1,hb.2⟩)) HMV.out HGV.out (acc_node a (a + 0 + 1) a9 l l9 _ _ _ ts _ HAC.out (by omega) (by omega) (by omega) (by omega)) _ _ _ _)
  rw [isExpr_eq]
  show (exprHead ⟨10,0,0,ts⟩ && ts.all isExpr) = true
  rw [HALL.out,Bool.and_true]
  simp [exprHead,btw,HLEN.out] <;> omega
 ·obtain ⟨hd1,hl3⟩:=hx3 (by omega) (by omega)
  clear hx3
  obtain ⟨dd,hdd⟩:∃ dd,d = dd + 1:=⟨d - 1,by omega⟩
  subst hdd
  have HEE:Hid (GExprC L S A c g dd):=Lib.hid (HE.out dd rfl)
  have HDE:Hid (D - 1 = (dd:Int)):=Lib.hid (by have:=HD.out; omega)
  have hDw:IntKind.i64.wrap (D - 1) = D - 1:=by rw [IntKind.wrap_i64]; have:=HD.out; omega
  obtain ⟨kc,hkc⟩:∃ kc:Nat,numAt L (a + 2) 4 = (kc:Int):=⟨(numAt L (a + 2) 4).toNat,by have:=HB.out.2.2.2.2.2.2; omega⟩
  have hkc3:kc≤3:=by have:=HB.out.2.2.2.2.2.2; omega
  have HKC:=Lib.hid hkc
  clear hkc
  go_wp2_with (first
   | (go_at_call 94; go_loud (refine (some_is L S A c g dd HS.out HEE.out kc _ _ _ HMV.out (HI.out.more HGV.out.size) (HL.out.keep (Keeps.gw HGV.out HI.out HS.out)) (by omega) (by omega) (by omega) (by omega) _ HDE.out).mono ?_; rintro e w9 ⟨ts,A9,c9,a9,l9,xs,rfl,hc9,hlen,hall,hrd,hrs,hm9,hg9,hacc9⟩; have HRW:=Lib.hid HZV.out.lt; have HC9:=Lib.hid hc9; have HLEN:=Lib.hid hlen; have HALL:=Lib.hid hall; have HRD:=Lib.hid hrd; have HRS:=Lib.hid hrs; have HAC:=Lib.hid hacc9; replace HGV:=Lib.hid (gw_trans HGV.out hg9); replace HZV:=Lib.hid (HZV.out.gw hg9 (by omega)); replace HMV:=Lib.hid hm9; clear hc9 hlen hall hrd hrs hm9 hg9 hacc9; clear z0 z1 z2 z3 f0 f1 f2 f3; have z0:=HZV.out.cell 0; have z1:=HZV.out.cell 1; have z2:=HZV.out.cell 2; have z3:=HZV.out.cell 3; have f0:=HZV.out.frozen 0; have f1:=HZV.out.frozen 1; have f2:=HZV.out.frozen 2; have f3:=HZV.out.frozen 3; simp only [List.getElem?_toArray,List.getElem?_cons_zero,List.getElem?_cons_succ] at z0 z1 z2 z3))
   | (go_at_call 42; go_loud (refine (num_is L S A c g _ _ _ _ HMV.out HS.out (HL.out.keep (Keeps.gw HGV.out HI.out HS.out)) HRL.out (by omega) HLL.out (by omega)).mono ?_; rintro e w2 ⟨rfl,hm2,hg2⟩; (try rw [HKC.out]); replace HGV:=Lib.hid (gw_trans HGV.out hg2); replace HZV:=Lib.hid (HZV.out.gw hg2 (by omega)); replace HMV:=Lib.hid hm2; clear hm2 hg2; clear z0 z1 z2 z3 f0 f1 f2 f3; have z0:=HZV.out.cell 0; have z1:=HZV.out.cell 1; have z2:=HZV.out.cell 2; have z3:=HZV.out.cell 3; have f0:=HZV.out.frozen 0; have f1:=HZV.out.frozen 1; have f2:=HZV.out.frozen 2; have f3:=HZV.out.frozen 3; simp only [List.getElem?_toArray,List.getElem?_cons_zero,List.getElem?_cons_succ] at z0 z1 z2 z3)))
  obtain ⟨hb16,hb2,hb6,hb3,hb14,hc3,hc4⟩:=HB.out
  refine bodyPost_ret (v:=.agg #[.int .i64 11,.int .i64 (numAt L (a + 1) 6),.int .i64 (0),.slice A9 ts.length c9]) (by simp [results,Tryd.results95,go_sem,z0,z1,z2,z3,HLEN.out]) rfl (GExprPost.fin (t:=⟨11,numAt L (a + 1) 6,0,ts⟩) (A':=A9) (c':=c9) (a':=a9) (l':=l9) HRR.out hgr ?_ (Rep.mk (by unfold inRange; omega) (by unfold inRange; omega) (by unfold inRange; omega) (by rw [HLEN.out]; exact HC9.out) (by rw [HLEN.out]; exact HRD.out.mono fun b hb=>⟨Nat.lt_of_lt_of_le HRW.out hb.1,hb.2⟩) (HRS.out.mono fun b hb=>⟨Nat.lt_of_lt_of_le HRW.out hb.1,hb.2⟩)) HMV.out HGV.out (acc_node a (a + 2 + 1) a9 l l9 _ _ _ ts _ HAC.out (by omega) (by omega) (by omega) (by omega)) _ _ _ _)
  rw [isExpr_eq]
  show (exprHead ⟨11,numAt L (a + 1) 6,0,ts⟩ && ts.all isExpr) = true
  rw [HALL.out,Bool.and_true]
  simp [exprHead,btw,HLEN.out] <;> omega
 ·clear hx3
  go_wp2_with (first
   | (go_at_call 42; go_loud (refine (num_is L S A c g _ _ _ _ HMV.out HS.out (HL.out.keep (Keeps.gw HGV.out HI.out HS.out)) HRL.out (by omega) HLL.out (by omega)).mono ?_; rintro e w2 ⟨rfl,hm2,hg2⟩; (try rw [HKC.out]); replace HGV:=Lib.hid (gw_trans HGV.out hg2); replace HZV:=Lib.hid (HZV.out.gw hg2 (by omega)); replace HMV:=Lib.hid hm2; clear hm2 hg2; clear z0 z1 z2 z3 f0 f1 f2 f3; have z0:=HZV.out.cell 0; have z1:=HZV.out.cell 1; have z2:=HZV.out.cell 2; have z3:=HZV.out.cell 3; have f0:=HZV.out.frozen 0; have f1:=HZV.out.frozen 1; have f2:=HZV.out.frozen 2; have f3:=HZV.out.frozen 3; simp only [List.getElem?_toArray,List.getElem?_cons_zero,List.getElem?_cons_succ] at z0 z1 z2 z3)))
  obtain ⟨hb16,hb2,hb6,hb3,hb14,hc3,hc4⟩:=HB.out
  refine bodyPost_ret (v:=.agg #[.int .i64 12,.int .i64 (numAt L (a + 1) 3),.int .i64 (0),.slice none 0 0]) (by simp [results,Tryd.results95,go_sem,z0,z1,z2,z3]) rfl (GExprPost.fin (t:=⟨12,numAt L (a + 1) 3,0,[]⟩) (A':=none) (c':=0) (a':=a + 1 + 1) (l':=l - 1) HRR.out hgr ?_ (Rep.leaf (by unfold inRange; omega) (by unfold inRange; omega) (by unfold inRange; omega) _ _) HMV.out HGV.out (acc_leaf _ _ _ _ (by rw [size_eq]; rfl) (by omega) (by omega)) _ _ _ _)
  rw [isExpr_eq]; simp [exprHead,btw] <;> omega
 ·obtain ⟨hd1,hl3⟩:=hx3 (by omega) (by omega)
  clear hx3
  obtain ⟨dd,hdd⟩:∃ dd,d = dd + 1:=⟨d - 1,by omega⟩
  subst hdd
  have HEE:Hid (GExprC L S A c g dd):=Lib.hid (HE.out dd rfl)
  have HDE:Hid (D - 1 = (dd:Int)):=Lib.hid (by have:=HD.out; omega)
  have hDw:IntKind.i64.wrap (D - 1) = D - 1:=by rw [IntKind.wrap_i64]; have:=HD.out; omega
  go_wp2_with (first
   | (go_at_call 94; go_loud (refine (some_is L S A c g dd HS.out HEE.out 2 _ _ _ HMV.out (HI.out.more HGV.out.size) (HL.out.keep (Keeps.gw HGV.out HI.out HS.out)) (by omega) (by omega) (by omega) (by omega) _ HDE.out).mono ?_; rintro e w9 ⟨ts,A9,c9,a9,l9,xs,rfl,hc9,hlen,hall,hrd,hrs,hm9,hg9,hacc9⟩; have HRW:=Lib.hid HZV.out.lt; have HC9:=Lib.hid hc9; have HLEN:=Lib.hid hlen; have HALL:=Lib.hid hall; have HRD:=Lib.hid hrd; have HRS:=Lib.hid hrs; have HAC:=Lib.hid hacc9; replace HGV:=Lib.hid (gw_trans HGV.out hg9); replace HZV:=Lib.hid (HZV.out.gw hg9 (by omega)); replace HMV:=Lib.hid hm9; clear hc9 hlen hall hrd hrs hm9 hg9 hacc9; clear z0 z1 z2 z3 f0 f1 f2 f3; have z0:=HZV.out.cell 0; have z1:=HZV.out.cell 1; have z2:=HZV.out.cell 2; have z3:=HZV.out.cell 3; have f0:=HZV.out.frozen 0; have f1:=HZV.out.frozen 1; have f2:=HZV.out.frozen 2; have f3:=HZV.out.frozen 3; simp only [List.getElem?_toArray,List.getElem?_cons_zero,List.getElem?_cons_succ] at z0 z1 z2 z3))
   | (go_at_call 42; go_loud (refine (num_is L S A c g _ _ _ _ HMV.out HS.out (HL.out.keep (Keeps.gw HGV.out HI.out HS.out)) HRL.out (by omega) HLL.out (by omega)).mono ?_; rintro e w2 ⟨rfl,hm2,hg2⟩; (try rw [HKC.out]); replace HGV:=Lib.hid (gw_trans HGV.out hg2); replace HZV:=Lib.hid (HZV.out.gw hg2 (by omega)); replace HMV:=Lib.hid hm2; clear hm2 hg2; clear z0 z1 z2 z3 f0 f1 f2 f3; have z0:=HZV.out.cell 0; have z1:=HZV.out.cell 1; have z2:=HZV.out.cell 2; have z3:=HZV.out.cell 3; have f0:=HZV.out.frozen 0; have f1:=HZV.out.frozen 1; have f2:=HZV.out.frozen 2; have f3:=HZV.out.frozen 3; simp only [List.getElem?_toArray,List.getElem?_cons_zero,List.getElem?_cons_succ] at z0 z1 z2 z3)))
  obtain ⟨hb16,hb2,hb6,hb3,hb14,hc3,hc4⟩:=HB.out
  refine bodyPost_ret (v:=.agg #[.int .i64 9,.int .i64 (numAt L (a + 1) 14),.int .i64 (0),.slice A9 ts.length c9]) (by simp [results,Tryd.results95,go_sem,z0,z1,z2,z3,HLEN.out]) rfl (GExprPost.fin (t:=⟨9,numAt L (a + 1) 14,0,ts⟩) (A':=A9) (c':=c9) (a':=a9) (l':=l9) HRR.out hgr ?_ (Rep.mk (by unfold inRange; omega) (by unfold inRange; omega) (by unfold inRange; omega) (by rw [HLEN.out]; exact HC9.out) (by rw [HLEN.out]; exact HRD.out.mono fun b hb=>⟨Nat.lt_of_lt_of_le HRW.out hb.1,hb.2⟩) (HRS.out.mono fun b hb=>⟨Nat.lt_of_lt_of_le HRW.out hb.1,hb.2⟩)) HMV.out HGV.out (acc_node a (a + 1 + 1) a9 l l9 _ _ _ ts _ HAC.out (by omega) (by omega) (by omega) (by omega)) _ _ _ _)
  rw [isExpr_eq]
  show (exprHead ⟨9,numAt L (a + 1) 14,0,ts⟩ && ts.all isExpr) = true
  rw [HALL.out,Bool.and_true]
  simp [exprHead,btw,HLEN.out] <;> omega
 ·obtain ⟨hd1,hl3⟩:=hx3 (by omega) (by omega)
  clear hx3
  obtain ⟨dd,hdd⟩:∃ dd,d = dd + 1:=⟨d - 1,by omega⟩
  subst hdd
  have HEE:Hid (GExprC L S A c g dd):=Lib.hid (HE.out dd rfl)
  have HDE:Hid (D - 1 = (dd:Int)):=Lib.hid (by have:=HD.out; omega)
  have hDw:IntKind.i64.wrap (D - 1) = D - 1:=by rw [IntKind.wrap_i64]; have:=HD.out; omega
  go_wp2_with (first
   | (go_at_call 94; go_loud (refine (some_is L S A c g dd HS.out HEE.out 2 _ _ _ HMV.out (HI.out.more HGV.out.size) (HL.out.keep (Keeps.gw HGV.out HI.out HS.out)) (by omega) (by omega) (by omega) (by omega) _ HDE.out).mono ?_; rintro e w9 ⟨ts,A9,c9,a9,l9,xs,rfl,hc9,hlen,hall,hrd,hrs,hm9,hg9,hacc9⟩; have HRW:=Lib.hid HZV.out.lt; have HC9:=Lib.hid hc9; have HLEN:=Lib.hid hlen; have HALL:=Lib.hid hall; have HRD:=Lib.hid hrd; have HRS:=Lib.hid hrs; have HAC:=Lib.hid hacc9; replace HGV:=Lib.hid (gw_trans HGV.out hg9); replace HZV:=Lib.hid (HZV.out.gw hg9 (by omega)); replace HMV:=Lib.hid hm9; clear hc9 hlen hall hrd hrs hm9 hg9 hacc9; clear z0 z1 z2 z3 f0 f1 f2 f3; have z0:=HZV.out.cell 0; have z1:=HZV.out.cell 1; have z2:=HZV.out.cell 2; have z3:=HZV.out.cell 3; have f0:=HZV.out.frozen 0; have f1:=HZV.out.frozen 1; have f2:=HZV.out.frozen 2; have f3:=HZV.out.frozen 3; simp only [List.getElem?_toArray,List.getElem?_cons_zero,List.getElem?_cons_succ] at z0 z1 z2 z3))
   | (go_at_call 42; go_loud (refine (num_is L S A c g _ _ _ _ HMV.out HS.out (HL.out.keep (Keeps.gw HGV.out HI.out HS.out)) HRL.out (by omega) HLL.out (by omega)).mono ?_; rintro e w2 ⟨rfl,hm2,hg2⟩; (try rw [HKC.out]); replace HGV:=Lib.hid (gw_trans HGV.out hg2); replace HZV:=Lib.hid (HZV.out.gw hg2 (by omega)); replace HMV:=Lib.hid hm2; clear hm2 hg2; clear z0 z1 z2 z3 f0 f1 f2 f3; have z0:=HZV.out.cell 0; have z1:=HZV.out.cell 1; have z2:=HZV.out.cell 2; have z3:=HZV.out.cell 3; have f0:=HZV.out.frozen 0; have f1:=HZV.out.frozen 1; have f2:=HZV.out.frozen 2; have f3:=HZV.out.frozen 3; simp only [List.getElem?_toArray,List.getElem?_cons_zero,List.getElem?_cons_succ] at z0 z1 z2 z3)))
  obtain ⟨hb16,hb2,hb6,hb3,hb14,hc3,hc4⟩:=HB.out
  refine bodyPost_ret (v:=.agg #[.int .i64 9,.int .i64 (numAt L (a + 1) 14),.int .i64 (0),.slice A9 ts.length c9]) (by simp [results,Tryd.results95,go_sem,z0,z1,z2,z3,HLEN.out]) rfl (GExprPost.fin (t:=⟨9,numAt L (a + 1) 14,0,ts⟩) (A':=A9) (c':=c9) (a':=a9) (l':=l9) HRR.out hgr ?_ (Rep.mk (by unfold inRange; omega) (by unfold inRange; omega) (by unfold inRange; omega) (by rw [HLEN.out]; exact HC9.out) (by rw [HLEN.out]; exact HRD.out.mono fun b hb=>⟨Nat.lt_of_lt_of_le HRW.out hb.1,hb.2⟩) (HRS.out.mono fun b hb=>⟨Nat.lt_of_lt_of_le HRW.out hb.1,hb.2⟩)) HMV.out HGV.out (acc_node a (a + 1 + 1) a9 l l9 _ _ _ ts _ HAC.out (by omega) (by omega) (by omega) (by omega)) _ _ _ _)
  rw [isExpr_eq]
  show (exprHead ⟨9,numAt L (a + 1) 14,0,ts⟩ && ts.all isExpr) = true
  rw [HALL.out,Bool.and_true]
  simp [exprHead,btw,HLEN.out] <;> omega
 ·obtain ⟨hd1,hl3⟩:=hx3 (by omega) (by omega)
  clear hx3
  obtain ⟨dd,hdd⟩:∃ dd,d = dd + 1:=⟨d - 1,by omega⟩
  subst hdd
  have HEE:Hid (GExprC L S A c g dd):=Lib.hid (HE.out dd rfl)
  have HDE:Hid (D - 1 = (dd:Int)):=Lib.hid (by have:=HD.out; omega)
  have hDw:IntKind.i64.wrap (D - 1) = D - 1:=by rw [IntKind.wrap_i64]; have:=HD.out; omega
  go_wp2_with (first
   | (go_at_call 94; go_loud (refine (some_is L S A c g dd HS.out HEE.out 2 _ _ _ HMV.out (HI.out.more HGV.out.size) (HL.out.keep (Keeps.gw HGV.out HI.out HS.out)) (by omega) (by omega) (by omega) (by omega) _ HDE.out).mono ?_; rintro e w9 ⟨ts,A9,c9,a9,l9,xs,rfl,hc9,hlen,hall,hrd,hrs,hm9,hg9,hacc9⟩; have HRW:=Lib.hid HZV.out.lt; have HC9:=Lib.hid hc9; have HLEN:=Lib.hid hlen; have HALL:=Lib.hid hall; have HRD:=Lib.hid hrd; have HRS:=Lib.hid hrs; have HAC:=Lib.hid hacc9; replace HGV:=Lib.hid (gw_trans HGV.out hg9); replace HZV:=Lib.hid (HZV.out.gw hg9 (by omega)); replace HMV:=Lib.hid hm9; clear hc9 hlen hall hrd hrs hm9 hg9 hacc9; clear z0 z1 z2 z3 f0 f1 f2 f3; have z0:=HZV.out.cell 0; have z1:=HZV.out.cell 1; have z2:=HZV.out.cell 2; have z3:=HZV.out.cell 3; have f0:=HZV.out.frozen 0; have f1:=HZV.out.frozen 1; have f2:=HZV.out.frozen 2; have f3:=HZV.out.frozen 3; simp only [List.getElem?_toArray,List.getElem?_cons_zero,List.getElem?_cons_succ] at z0 z1 z2 z3))
   | (go_at_call 42; go_loud (refine (num_is L S A c g _ _ _ _ HMV.out HS.out (HL.out.keep (Keeps.gw HGV.out HI.out HS.out)) HRL.out (by omega) HLL.out (by omega)).mono ?_; rintro e w2 ⟨rfl,hm2,hg2⟩; (try rw [HKC.out]); replace HGV:=Lib.hid (gw_trans HGV.out hg2); replace HZV:=Lib.hid (HZV.out.gw hg2 (by omega)); replace HMV:=Lib.hid hm2; clear hm2 hg2; clear z0 z1 z2 z3 f0 f1 f2 f3; have z0:=HZV.out.cell 0; have z1:=HZV.out.cell 1; have z2:=HZV.out.cell 2; have z3:=HZV.out.cell 3; have f0:=HZV.out.frozen 0; have f1:=HZV.out.frozen 1; have f2:=HZV.out.frozen 2; have f3:=HZV.out.frozen 3; simp only [List.getElem?_toArray,List.getElem?_cons_zero,List.getElem?_cons_succ] at z0 z1 z2 z3)))
  obtain ⟨hb16,hb2,hb6,hb3,hb14,hc3,hc4⟩:=HB.out
  refine bodyPost_ret (v:=.agg #[.int .i64 9,.int .i64 (numAt L (a + 1) 14),.int .i64 (0),.slice A9 ts.length c9]) (by simp [results,Tryd.results95,go_sem,z0,z1,z2,z3,HLEN.out]) rfl (GExprPost.fin (t:=⟨9,numAt L (a + 1) 14,0,ts⟩) (A':=A9) (c':=c9) (a':=a9) (l':=l9) HRR.out hgr ?_ (Rep.mk (by unfold inRange; omega) (by unfold inRange; omega) (by unfold inRange; omega) (by rw [HLEN.out]; exact HC9.out) (by rw [HLEN.out]; exact HRD.out.mono fun b hb=>⟨Nat.lt_of_lt_of_le HRW.out hb.1,hb.2⟩) (HRS.out.mono fun b hb=>⟨Nat.lt_of_lt_of_le HRW.out hb.1,hb.2⟩)) HMV.out HGV.out (acc_node a (a + 1 + 1) a9 l l9 _ _ _ ts _ HAC.out (by omega) (by omega) (by omega) (by omega)) _ _ _ _)
  rw [isExpr_eq]
  show (exprHead ⟨9,numAt L (a + 1) 14,0,ts⟩ && ts.all isExpr) = true
  rw [HALL.out,Bool.and_true]
  simp [exprHead,btw,HLEN.out] <;> omega
 ·clear hx3
  go_wp2_with (first
   | (go_at_call 42; go_loud (refine (num_is L S A c g _ _ _ _ HMV.out HS.out (HL.out.keep (Keeps.gw HGV.out HI.out HS.out)) HRL.out (by omega) HLL.out (by omega)).mono ?_; rintro e w2 ⟨rfl,hm2,hg2⟩; (try rw [HKC.out]); replace HGV:=Lib.hid (gw_trans HGV.out hg2); replace HZV:=Lib.hid (HZV.out.gw hg2 (by omega)); replace HMV:=Lib.hid hm2; clear hm2 hg2; clear z0 z1 z2 z3 f0 f1 f2 f3; have z0:=HZV.out.cell 0; have z1:=HZV.out.cell 1; have z2:=HZV.out.cell 2; have z3:=HZV.out.cell 3; have f0:=HZV.out.frozen 0; have f1:=HZV.out.frozen 1; have f2:=HZV.out.frozen 2; have f3:=HZV.out.frozen 3; simp only [List.getElem?_toArray,List.getElem?_cons_zero,List.getElem?_cons_succ] at z0 z1 z2 z3)))
  obtain ⟨hb16,hb2,hb6,hb3,hb14,hc3,hc4⟩:=HB.out
  refine bodyPost_ret (v:=.agg #[.int .i64 6,.int .i64 (numAt L (a + 1) 6),.int .i64 (0),.slice none 0 0]) (by simp [results,Tryd.results95,go_sem,z0,z1,z2,z3]) rfl (GExprPost.fin (t:=⟨6,numAt L (a + 1) 6,0,[]⟩) (A':=none) (c':=0) (a':=a + 1 + 1) (l':=l - 1) HRR.out hgr ?_ (Rep.leaf (by unfold inRange; omega) (by unfold inRange; omega) (by unfold inRange; omega) _ _) HMV.out HGV.out (acc_leaf _ _ _ _ (by rw [size_eq]; rfl) (by omega) (by omega)) _ _ _ _)
  rw [isExpr_eq]; simp [exprHead,btw] <;> omega
theorem gexpr_is (L:List Int) (S:Nat→Prop) (A:Option Addr) (c g:Nat) (hr:∀ x ∈ L,inRange x) (hl:L.length≤9223372036854775807) (hS:∀ b,S b→b≠g):∀ d,GExprC L S A c g d
 | 0=>gexpr_step L S A c g 0 hr hl hS fun e he=>by omega
 | d + 1=>gexpr_step L S A c g (d + 1) hr hl hS fun e he=>by
  have:e = d:=by omega
  subst this
  exact gexpr_is L S A c g hr hl hS e
end Go.Proofs.YtkkenbalpnmfmaaDoor
