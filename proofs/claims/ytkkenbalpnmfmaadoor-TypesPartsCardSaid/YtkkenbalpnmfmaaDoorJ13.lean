/- Texts joined. -/
import Derived.Test.YtkkenbalpnmfmaaDoorJ12
import Derived.Deep.RegionHeld2
set_option linter.unusedVariables false
namespace Go.Proofs.YtkkenbalpnmfmaaDoor
open Go.RowKit WM TR TY
attribute [local go_sem ↓ high] shutB2
attribute [local go_sem] run_bs2

theorem lits12 (q:Nat) (hq:q < 12):∃ z:Int,(#[.int .i64 0,.int .i64 1,.int .i64 2,.int .i64 0,.int .i64 3,.int .i64 4,.int .i64 5,.int .i64 6,.int .i64 7,.int .i64 8,.int .i64 9,.int .i64 0]:Array Value)[q]? = some (.int .i64 z)∧0≤z∧z≤9:=by
 match q,hq with
 | 0,_=>exact ⟨_,rfl,by omega,by omega⟩
 | 1,_=>exact ⟨_,rfl,by omega,by omega⟩
 | 2,_=>exact ⟨_,rfl,by omega,by omega⟩
 | 3,_=>exact ⟨_,rfl,by omega,by omega⟩
 | 4,_=>exact ⟨_,rfl,by omega,by omega⟩
 | 5,_=>exact ⟨_,rfl,by omega,by omega⟩
 | 6,_=>exact ⟨_,rfl,by omega,by omega⟩
 | 7,_=>exact ⟨_,rfl,by omega,by omega⟩
 | 8,_=>exact ⟨_,rfl,by omega,by omega⟩
 | 9,_=>exact ⟨_,rfl,by omega,by omega⟩
 | 10,_=>exact ⟨_,rfl,by omega,by omega⟩
 | 11,_=>exact ⟨_,rfl,by omega,by omega⟩
 | q + 12,h=>omega
theorem lits5 (q:Nat) (hq:q < 5):∃ z:Int,(#[.int .i64 10,.int .i64 11,.int .i64 10,.int .i64 12,.int .i64 13]:Array Value)[q]? = some (.int .i64 z)∧10≤z∧z≤13:=by
 match q,hq with
 | 0,_=>exact ⟨_,rfl,by omega,by omega⟩
 | 1,_=>exact ⟨_,rfl,by omega,by omega⟩
 | 2,_=>exact ⟨_,rfl,by omega,by omega⟩
 | 3,_=>exact ⟨_,rfl,by omega,by omega⟩
 | 4,_=>exact ⟨_,rfl,by omega,by omega⟩
 | q + 5,h=>omega

set_option maxRecDepth 100000 in
set_option maxHeartbeats 16000000 in
theorem zexpr_step (m:Par) (s:Sc) (Dp d:Nat) (hd3:d≤3) (hE:∀ e,e < d→GXC m s Dp e):GXC m s Dp d:=by
 intro a l k w D hD hD5 hm hx ha hl0 hl1 hk
 obtain ⟨r,hr⟩:∃ r,r = w.heap.size:=⟨_,rfl⟩
 have hgr:m.g < r:=by rw [hr]; exact hm.lt
 have HGR:Hid (m.g < w.heap.size):=Lib.hid hm.lt
 have HR:=Lib.hid hr
 obtain ⟨W1,hW1⟩:∃ W1,W1 = w.alloc (.cells #[.int .i64 0,.int .i64 0,.int .i64 0,.slice none 0 0] 25):=⟨_,rfl⟩
 have HM1:Hid (Mk m a l W1):=Lib.hid (by rw [hW1]; exact hm.alloc _)
 have HG1:Hid (w.grownBy W1 (some m.g)):=Lib.hid (by rw [hW1]; exact gw_alloc (gw_refl w m.g) _)
 have HX1:Hid (Cx m s (Dp + 1) W1):=Lib.hid (hx.gw HG1.out)
 have HR1:Hid (Blk W1 r 25 #[.int .i64 0,.int .i64 0,.int .i64 0,.slice none 0 0]):=Lib.hid (by rw [hW1,hr]; exact Blk.new _ _ _)
 have HW1:=Lib.hid hW1
 have HE:=Lib.hid hE
 have HK:=Lib.hid hk
 have HDN:=Lib.hid hD
 have HD3:=Lib.hid hd3
 have hle:Hid (w.heap.size≤r):=Lib.hid (Nat.le_of_eq HR.out.symm)
 clear hr hm hW1 hx hE hk hd3
 by_cases hD0:D≤0
 ·have hd1:decide (D≤0) = true:=by simpa using hD0
  clear hD
  go_enter Tryd.func66,Tryd.ntmps66
  go_upto_region 1 with fail
  rw [← HW1.out,← HR.out]
  go_wp2_with (go_at_call 85; refine (leaf_is m s (Dp + 1) d a l k _ HM1.out HX1.out (by omega) HK.out (by omega) (by omega)).mono ?_; rintro e w5 ⟨t,A',c',a',rfl,hge,hrep,hm5,hg5,h1,h2,hc⟩; have HGE:=Lib.hid hge; have HRP:=Lib.hid hrep; have HM5:=Lib.hid hm5; have HG5:=Lib.hid (gw_trans HG1.out hg5); have HA5:=Lib.hid (And.intro h1 (And.intro h2 hc)); have HR5:Hid (Blk w5 r 25 #[.int .i64 0,.int .i64 0,.int .i64 0,.slice none 0 0]):=Lib.hid ((HR1.out).gw hg5 (by omega)); clear hge hrep hm5 hg5 h1 h2 hc; have r0:=HR5.out.cell 0; have r1:=HR5.out.cell 1; have r2:=HR5.out.cell 2; have r3:=HR5.out.cell 3; have f0:=HR5.out.frozen 0; have f1:=HR5.out.frozen 1; have f2:=HR5.out.frozen 2; have f3:=HR5.out.frozen 3; simp only [List.getElem?_toArray,List.getElem?_cons_zero,List.getElem?_cons_succ] at r0 r1 r2 r3)
  have ha5:=HA5.out
  exact bodyPost_ret (v:=.agg #[.int .i64 t.k,.int .i64 t.n,.int .i64 t.m,.slice A' t.kids.length c']) (by simp [results,Tryd.results66,go_sem,r0,r1,r2,r3]) rfl (EPost.fin hle.out HGR.out HGE.out (kid_of HRP.out HR1.out.lt) (Nat.le_refl _) HM5.out HG5.out (by omega) (by omega) HA5.out.2.2 _ _ _ _)
 ·have hd1:decide (D≤0) = false:=by simp; omega
  have h2:=HM1.out.cell 2
  simp only [Par.cells,List.getElem?_toArray,List.getElem?_cons_zero,List.getElem?_cons_succ] at h2
  by_cases hl4:l < 4
  ·have hd2:decide (l < 4) = true:=by simpa using hl4
   clear hD
   go_enter Tryd.func66,Tryd.ntmps66
   go_upto_region 1 with fail
   rw [← HW1.out,← HR.out]
   go_wp2_with (go_at_call 85; refine (leaf_is m s (Dp + 1) d a l k _ HM1.out HX1.out (by omega) HK.out (by omega) (by omega)).mono ?_; rintro e w5 ⟨t,A',c',a',rfl,hge,hrep,hm5,hg5,h1,h2,hc⟩; have HGE:=Lib.hid hge; have HRP:=Lib.hid hrep; have HM5:=Lib.hid hm5; have HG5:=Lib.hid (gw_trans HG1.out hg5); have HA5:=Lib.hid (And.intro h1 (And.intro h2 hc)); have HR5:Hid (Blk w5 r 25 #[.int .i64 0,.int .i64 0,.int .i64 0,.slice none 0 0]):=Lib.hid ((HR1.out).gw hg5 (by omega)); clear hge hrep hm5 hg5 h1 h2 hc; have r0:=HR5.out.cell 0; have r1:=HR5.out.cell 1; have r2:=HR5.out.cell 2; have r3:=HR5.out.cell 3; have f0:=HR5.out.frozen 0; have f1:=HR5.out.frozen 1; have f2:=HR5.out.frozen 2; have f3:=HR5.out.frozen 3; simp only [List.getElem?_toArray,List.getElem?_cons_zero,List.getElem?_cons_succ] at r0 r1 r2 r3)
   have ha5:=HA5.out
   exact bodyPost_ret (v:=.agg #[.int .i64 t.k,.int .i64 t.n,.int .i64 t.m,.slice A' t.kids.length c']) (by simp [results,Tryd.results66,go_sem,r0,r1,r2,r3]) rfl (EPost.fin hle.out HGR.out HGE.out (kid_of HRP.out HR1.out.lt) (Nat.le_refl _) HM5.out HG5.out (by omega) (by omega) HA5.out.2.2 _ _ _ _)
  ·have hd2:decide (l < 4) = false:=by simp; omega
   obtain ⟨x,HX12,hx12⟩:=zletter (L:=m.L) a 12 (by omega)
   obtain ⟨ee,hde⟩:∃ ee,d = ee + 1:=⟨d - 1,by omega⟩
   have hee:ee≤2:=by have:=HD3.out; omega
   have HDE:=Lib.hid hde
   have hDe:D = (ee:Int) + 1:=by omega
   have HDI:=Lib.hid hDe
   have ha0:a + 1000 * ee + 2000≤900000:=by omega
   have hll:-800000 + 1000 * (ee:Int) + 2000≤l:=by omega
   have hD10:1≤D∧D≤3:=by omega
   have HE1:Hid (GXC m s Dp ee):=Lib.hid (HE.out ee (by omega))
   have HE2:Hid (GXC m s Dp (ee - 1)):=Lib.hid (HE.out (ee - 1) (by omega))
   have HT1:Hid ((D - 1).toNat = ee):=Lib.hid (by omega)
   have HT2:Hid ((D - 2).toNat = ee - 1):=Lib.hid (by omega)
   have HCP:Hid (2 * capE ee + 1≤capE d):=Lib.hid (capE_succ (by omega))
   have HCQ:Hid (capE (ee - 1)≤capE ee):=Lib.hid (capE_mono (by omega))
   have HCR:Hid (capE ee≤7∧capE (ee - 1)≤7):=Lib.hid (by
    have h1:capE ee≤capE 2:=capE_mono hee
    have h2:capE 2 = 7:=rfl
    have:=HCQ.out
    omega)
   have hDw1:IntKind.i64.wrap (D - 1) = D - 1:=by rw [IntKind.wrap_i64]; omega
   have hDw2:IntKind.i64.wrap (D - 2) = D - 2:=by rw [IntKind.wrap_i64]; omega
   clear hD hde hDe ha hl0
   go_enter Tryd.func66,Tryd.ntmps66
   go_upto_region 1 with fail
   rw [← HW1.out,← HR.out]
   go_upto_region 3 with fail
   clear h2
   go_cut [7] from 29 to 30 (fun s7 wv=>∃ V:World,V = wv∧s7 = .int .i64 (x:Int)∧Hid (Mk m (a + 1) l V∧W1.grownBy V (some m.g)))
   case first =>
    go_wp2_with (go_at_call 86; refine (draw_is m s (Dp + 1) a l 12 _ HM1.out HX1.out (by omega) (by omega)).mono ?_; rintro e w2 ⟨rfl,hm2,hg2⟩; rw [HX12.out])
    go_meet
    exact ⟨_,rfl,rfl,hm2,hg2⟩
   case rest =>
   obtain ⟨V,hwc,rfl,HV⟩:=hcut
   subst hwc
   have HM2:=Lib.hid HV.out.1
   have HG2:=Lib.hid (gw_trans HG1.out HV.out.2)
   have HX2:=Lib.hid (HX1.out.gw HV.out.2)
   have HR2:=Lib.hid (HR1.out.gw HV.out.2 (by omega))
   rename_i hK
   refine hK _ _ ?_
   clear hK
   go_step
   go_cut [8,9,10,11] from 31 to 118 (fun s8 s9 s10 s11 wv=>∃ (V3:World) (a3:Nat),V3 = wv∧Hid (a + 1≤a3∧a3≤a + 3∧Mk m a3 l V3∧V.grownBy V3 (some m.g)))
   case first =>
    by_cases hx3:x < 3
    ·have hxd:decide (x < 3) = true:=by simpa using hx3
     go_wp2_with (go_at_call 85; refine (leaf_is m s (Dp + 1) d (a + 1) l k _ HM2.out HX2.out (by omega) HK.out (by omega) (by omega)).mono ?_; rintro e w5 ⟨t,A',c',a',rfl,hge,hrep,hm5,hg5,h1,h2,hc⟩; have HGE:=Lib.hid hge; have HRP:=Lib.hid hrep; have HM5:=Lib.hid hm5; have HG5:=Lib.hid (gw_trans HG2.out hg5); have HA5:=Lib.hid (And.intro h1 (And.intro h2 hc)); have HR5:Hid (Blk w5 r 25 #[.int .i64 0,.int .i64 0,.int .i64 0,.slice none 0 0]):=Lib.hid ((HR2.out).gw hg5 (by omega)); clear hge hrep hm5 hg5 h1 h2 hc; have r0:=HR5.out.cell 0; have r1:=HR5.out.cell 1; have r2:=HR5.out.cell 2; have r3:=HR5.out.cell 3; have f0:=HR5.out.frozen 0; have f1:=HR5.out.frozen 1; have f2:=HR5.out.frozen 2; have f3:=HR5.out.frozen 3; simp only [List.getElem?_toArray,List.getElem?_cons_zero,List.getElem?_cons_succ] at r0 r1 r2 r3)
     have ha5:=HA5.out
     exact bodyPost_ret (v:=.agg #[.int .i64 t.k,.int .i64 t.n,.int .i64 t.m,.slice A' t.kids.length c']) (by simp [results,Tryd.results66,go_sem,r0,r1,r2,r3]) rfl (EPost.fin hle.out HGR.out HGE.out (kid_of HRP.out HR2.out.lt) (Nat.le_refl _) HM5.out HG5.out (by omega) (by omega) HA5.out.2.2 _ _ _ _)
    have hxd:decide (x < 3) = false:=by simp; omega
    by_cases hx4:x = 3
    ·subst hx4
     go_upto_region 8 with (go_at_call 87; refine (field_is m s Dp (a + 1) l k _ HM2.out HX2.out (by omega)).mono ?_; rintro e w3 ⟨v,i,a3,rfl,hv,h1,h2,hm3,hg3⟩; have HM3:=Lib.hid hm3; have HGV3:=Lib.hid hg3; have HG3:=Lib.hid (gw_trans HG2.out hg3); have HX3:=Lib.hid (HX2.out.gw hg3); have HR3:=Lib.hid (HR2.out.gw hg3 (by omega)); clear hm3 hg3)
     rcases hv with rfl | ⟨j,q,t,y,rfl,rfl,ht,htk,hy,hyk,hq2⟩
     ·go_wp2_with fail
      go_meet
      exact ⟨_,a3,rfl,by omega,by omega,HM3.out,HGV3.out⟩
     ·have hj6:j < 6:=by have:=(List.getElem?_eq_some_iff.1 ht).1; have:=HX3.out.ok.vl; omega
      have hj0:(0:Int)≤(j:Int):=by omega
      have Hht:=Lib.hid ht
      have Hhtk:=Lib.hid htk
      have Hhy:=Lib.hid hy
      have Hhyk:=Lib.hid hyk
      clear ht htk hy hyk
      go_wp2_with (go_at_call 88; refine (mnode_is m (a3) (l) (8) ((j:Int)) _ none 0 0 HM3.out (by omega) (by omega)).mono ?_; rintro e w5 ⟨rfl,hm5,hg5⟩; have HM5:=Lib.hid hm5; have HG5:=Lib.hid hg5; have HR5:Hid (Blk w5 r 25 #[.int .i64 0,.int .i64 0,.int .i64 0,.slice none 0 0]):=Lib.hid ((HR3.out).gw hg5 (by omega)); clear hm5 hg5; have r0:=HR5.out.cell 0; have r1:=HR5.out.cell 1; have r2:=HR5.out.cell 2; have r3:=HR5.out.cell 3; have f0:=HR5.out.frozen 0; have f1:=HR5.out.frozen 1; have f2:=HR5.out.frozen 2; have f3:=HR5.out.frozen 3; simp only [List.getElem?_toArray,List.getElem?_cons_zero,List.getElem?_cons_succ] at r0 r1 r2 r3; have hrl:=HR5.out.lt)
      refine bodyPost_ret (v:=.agg #[.int .i64 8,.int .i64 (j:Int),.int .i64 (q:Int),.slice none 0 0]) (by simp [results,Tryd.results66,go_sem,r0,r1,r2,r3,hrl]) rfl ?_
      refine EPost.alloc (EPost.fin (t:=⟨8,j,q,[]⟩) (R:=1) hle.out HGR.out (GE.field Hht.out Hhtk.out Hhy.out Hhyk.out HX3.out.ok.vl hq2) (Rep.leaf (small (by omega) (by omega)) (small (by omega) (by omega)) (small (by omega) (by omega)) 0 0) (by omega) (by rw [size1]; exact HM5.out) (gw_trans HG3.out HG5.out) (by omega) (by rw [size1]; omega) (by rw [size1]; exact capE_pos d) _ _ _ _) _
    rcases HK.out with rfl | rfl
    ·by_cases hx5:x = 4
     ·subst hx5
      go_upto_region 14 with (go_at_call 89; refine (pick_is m s (Dp + 1) (a + 1) l 2 _ HM2.out HX2.out (by omega)).mono ?_; rintro e w3 ⟨v,rfl,hv,hm3,hg3⟩; have HM3:=Lib.hid hm3; have HGV3:=Lib.hid hg3; have HG3:=Lib.hid (gw_trans HG2.out hg3); have HX3:=Lib.hid (HX2.out.gw hg3); have HR3:=Lib.hid (HR2.out.gw hg3 (by omega)); clear hm3 hg3)
      rcases hv with rfl | ⟨j,t0,rfl,ht,htk⟩
      ·go_wp2_with fail
       go_meet
       exact ⟨_,a + 1 + 1,rfl,by omega,by omega,HM3.out,HGV3.out⟩
      ·have hj6:j < 6:=by have:=(List.getElem?_eq_some_iff.1 ht).1; have:=HX3.out.ok.vl; omega
       have hj0:(0:Int)≤(j:Int):=by omega
       have Hht:=Lib.hid ht
       have Hhtk:=Lib.hid htk
       clear ht htk
       go_wp2_with (first
        | (go_at_call 66; refine (HE2.out (a + 1 + 1) l 0 _ (D - 2) HT2.out (by omega) HM3.out HX3.out (by omega) (by omega) hl1 (by omega)).mono ?_; rintro e w4 ⟨t,A',c',a',rfl,hge,hrep,hm4,hg4,h1,h2,hc⟩; have HGE:=Lib.hid hge; have HRP:=Lib.hid hrep; have HM4:=Lib.hid hm4; have HG4:=Lib.hid (gw_trans HG3.out hg4); have HA4:=Lib.hid (And.intro h1 (And.intro h2 hc)); have HR4:=Lib.hid ((HR3.out).gw hg4 (by omega)); have hsz:size t≤7:=Nat.le_trans hc (by have:=HCR.out; omega); have HB4:=Lib.hid (HR3.out).lt; clear hge hrep hm4 hg4 h1 h2 hc)
        | (go_at_call 88; refine (mnode_is m (a') (l - (size t:Int)) (7) ((j:Int)) _ (some ⟨w4.heap.size,0,none⟩) 1 1 (HM4.out.alloc _) (by omega) (by omega)).mono ?_; rintro e w5 ⟨rfl,hm5,hg5⟩; have HM5:=Lib.hid hm5; have HG5:=Lib.hid hg5; have HR5:Hid (Blk w5 r 25 #[.int .i64 0,.int .i64 0,.int .i64 0,.slice none 0 0]):=Lib.hid (((HR4.out.alloc _)).gw hg5 (by omega)); clear hm5 hg5; have r0:=HR5.out.cell 0; have r1:=HR5.out.cell 1; have r2:=HR5.out.cell 2; have r3:=HR5.out.cell 3; have f0:=HR5.out.frozen 0; have f1:=HR5.out.frozen 1; have f2:=HR5.out.frozen 2; have f3:=HR5.out.frozen 3; simp only [List.getElem?_toArray,List.getElem?_cons_zero,List.getElem?_cons_succ] at r0 r1 r2 r3))
       have ha4:=HA4.out
       refine bodyPost_ret (v:=.agg #[.int .i64 (7),.int .i64 ((j:Int)),.int .i64 0,.slice (some ⟨w4.heap.size,0,none⟩) 1 1]) (by simp [results,Tryd.results66,go_sem,r0,r1,r2,r3]) rfl (EPost.fin (t:=⟨7,(j:Int),0,[t]⟩) hle.out HGR.out (GE.elem Hht.out Hhtk.out HGE.out HX3.out.ok.vl) ((Kid.one HR4.out.lt (kid_of HRP.out HB4.out) (small (by omega) (by omega)) (small (by omega) (by omega))).gw HG5.out (by omega)) (by have:=HDE.out; omega) (by rw [size_one]; exact (show l - ((1 + size t:Nat):Int) = l - (size t:Int) - 1 by push_cast; omega) ▸ HM5.out) (gw_trans (gw_alloc HG4.out _) HG5.out) (by omega) (by rw [size_one]; omega) (by rw [size_one]; have:=HCP.out; have:=HCQ.out; omega) _ _ _ _)
     by_cases hx6:x = 5
     ·subst hx6
      go_wp2_with (go_at_call 90; refine (call_is m s Dp ee HE1.out (a + 1) l 11 D _ HT1.out (by omega) (by omega) HM2.out HX2.out (by omega) (by omega) hl1 (small (by omega) (by omega)) (by have:=HCR.out; omega)).mono ?_; rintro e w5 ⟨f,u,ts,A',c',a',rfl,hu,htl,hag,hrep,hm5,hg5,h1,h2,hc⟩; have HU:=Lib.hid hu; have HTL:=Lib.hid htl; have HAG:=Lib.hid hag; have HRP:=Lib.hid hrep; have HM5:=Lib.hid hm5; have HG5:=Lib.hid (gw_trans HG2.out hg5); have HA5:=Lib.hid (And.intro h1 (And.intro h2 hc)); have HR5:Hid (Blk w5 r 25 #[.int .i64 0,.int .i64 0,.int .i64 0,.slice none 0 0]):=Lib.hid (HR2.out.gw hg5 (by omega)); clear hu htl hag hrep hm5 hg5 h1 h2 hc; have r0:=HR5.out.cell 0; have r1:=HR5.out.cell 1; have r2:=HR5.out.cell 2; have r3:=HR5.out.cell 3; have f0:=HR5.out.frozen 0; have f1:=HR5.out.frozen 1; have f2:=HR5.out.frozen 2; have f3:=HR5.out.frozen 3; simp only [List.getElem?_toArray,List.getElem?_cons_zero,List.getElem?_cons_succ] at r0 r1 r2 r3)
      have ha5:=HA5.out
      have hfh:FHd u:=HX2.out.ok.ff u (List.mem_of_getElem? HU.out)
      refine bodyPost_ret (v:=.agg #[.int .i64 11,.int .i64 (f:Int),.int .i64 0,.slice A' ts.length c']) (by simp [results,Tryd.results66,go_sem,r0,r1,r2,r3]) rfl (EPost.fin (t:=⟨11,f,0,ts⟩) hle.out HGR.out (GE.call HU.out HTL.out (by have:=hfh.kl; omega) (by have:=hfh.n2; omega) HX2.out.ok.f3 HAG.out) (kid_of HRP.out HR2.out.lt) (by have:=HDE.out; omega) (by rw [sizeK]; exact HM5.out) HG5.out (by omega) (by rw [sizeK]; omega) (by rw [sizeK]; have:=HCP.out; omega) _ _ _ _)
     by_cases hx7:x = 6
     ·subst hx7
      have h8:=HM2.out.cell 8
      have h4:=HM2.out.cell 4
      simp only [Par.cells,List.getElem?_toArray,List.getElem?_cons_zero,List.getElem?_cons_succ] at h8 h4
      obtain ⟨cn,hcn⟩:∃ b,b = m.con:=⟨_,rfl⟩
      rw [← hcn] at h8
      have HCN:=Lib.hid hcn
      clear hcn
      obtain ⟨pn,hpn⟩:∃ z,z = m.p.n:=⟨_,rfl⟩
      rw [← hpn] at h4
      have HPN:=Lib.hid hpn
      clear hpn
      cases cn with
      | false =>
       go_wp2_with fail
       go_meet
       exact ⟨_,a + 1,rfl,by omega,by omega,HM2.out,gw_refl _ _⟩
      | true =>
       have hpn1:1≤pn:=by rw [HPN.out]; exact HX2.out.con HCN.out.symm
       have hpn3:pn≤3:=by rw [HPN.out,← HX2.out.sc]; exact HX2.out.ok.c3
       obtain ⟨q,HQ,hqn⟩:=zletter (L:=m.L) (a + 1) pn (by omega)
       go_wp2_with (first
        | (go_at_call 86; refine (draw_is m s (Dp + 1) (a + 1) l pn _ HM2.out HX2.out (by omega) (by omega)).mono ?_; rintro e w4 ⟨rfl,hm4,hg4⟩; rw [HQ.out]; have HM4:=Lib.hid hm4; have HG4:=Lib.hid (gw_trans HG2.out hg4); have HR4:=Lib.hid (HR2.out.gw hg4 (by omega)); clear hm4 hg4)
        | (go_at_call 88; refine (mnode_is m (a + 1 + 1) (l) (12) ((q:Int)) _ none 0 0 HM4.out (by omega) (by omega)).mono ?_; rintro e w5 ⟨rfl,hm5,hg5⟩; have HM5:=Lib.hid hm5; have HG5:=Lib.hid hg5; have HR5:Hid (Blk w5 r 25 #[.int .i64 0,.int .i64 0,.int .i64 0,.slice none 0 0]):=Lib.hid ((HR4.out).gw hg5 (by omega)); clear hm5 hg5; have r0:=HR5.out.cell 0; have r1:=HR5.out.cell 1; have r2:=HR5.out.cell 2; have r3:=HR5.out.cell 3; have f0:=HR5.out.frozen 0; have f1:=HR5.out.frozen 1; have f2:=HR5.out.frozen 2; have f3:=HR5.out.frozen 3; simp only [List.getElem?_toArray,List.getElem?_cons_zero,List.getElem?_cons_succ] at r0 r1 r2 r3))
       refine bodyPost_ret (v:=.agg #[.int .i64 12,.int .i64 (q:Int),.int .i64 0,.slice none 0 0]) (by simp [results,Tryd.results66,go_sem,r0,r1,r2,r3]) rfl (EPost.fin (t:=⟨12,q,0,[]⟩) (R:=1) hle.out HGR.out (GE.recv (by omega) (by rw [HX2.out.sc,← HPN.out]; omega) HX2.out.ok.c3) (Rep.leaf (small (by omega) (by omega)) (small (by omega) (by omega)) (small (by omega) (by omega)) 0 0) (by omega) (by rw [size1]; exact HM5.out) (gw_trans HG4.out HG5.out) (by omega) (by rw [size1]; omega) (by rw [size1]; exact capE_pos d) _ _ _ _)
     have hxe:decide (x < 6) = false:=by simp; omega
     have hxe2:¬ x < 6:=by omega
     go_wp2_with fail
     go_meet
     exact ⟨_,a + 1,rfl,by omega,by omega,HM2.out,gw_refl _ _⟩
    ·by_cases hx5:x < 6
     ·obtain rfl | rfl:x = 4∨x = 5:=by omega
      ·go_wp2_with (first
        | (go_at_call 66; refine (HE1.out (a + 1) l 1 _ (D - 1) HT1.out (by omega) HM2.out HX2.out (by omega) (by omega) hl1 (by omega)).mono ?_; rintro e w4 ⟨t,A',c',a',rfl,hge,hrep,hm4,hg4,h1,h2,hc⟩; have HGE:=Lib.hid hge; have HRP:=Lib.hid hrep; have HM4:=Lib.hid hm4; have HG4:=Lib.hid (gw_trans HG2.out hg4); have HA4:=Lib.hid (And.intro h1 (And.intro h2 hc)); have HR4:=Lib.hid ((HR2.out).gw hg4 (by omega)); have hsz:size t≤7:=Nat.le_trans hc (by have:=HCR.out; omega); have HB4:=Lib.hid (HR2.out).lt; clear hge hrep hm4 hg4 h1 h2 hc)
        | (go_at_call 88; refine (mnode_is m (a') (l - (size t:Int)) (10) (0) _ (some ⟨w4.heap.size,0,none⟩) 1 1 (HM4.out.alloc _) (by omega) (by omega)).mono ?_; rintro e w5 ⟨rfl,hm5,hg5⟩; have HM5:=Lib.hid hm5; have HG5:=Lib.hid hg5; have HR5:Hid (Blk w5 r 25 #[.int .i64 0,.int .i64 0,.int .i64 0,.slice none 0 0]):=Lib.hid (((HR4.out.alloc _)).gw hg5 (by omega)); clear hm5 hg5; have r0:=HR5.out.cell 0; have r1:=HR5.out.cell 1; have r2:=HR5.out.cell 2; have r3:=HR5.out.cell 3; have f0:=HR5.out.frozen 0; have f1:=HR5.out.frozen 1; have f2:=HR5.out.frozen 2; have f3:=HR5.out.frozen 3; simp only [List.getElem?_toArray,List.getElem?_cons_zero,List.getElem?_cons_succ] at r0 r1 r2 r3))
       have ha4:=HA4.out
       refine bodyPost_ret (v:=.agg #[.int .i64 (10),.int .i64 (0),.int .i64 0,.slice (some ⟨w4.heap.size,0,none⟩) 1 1]) (by simp [results,Tryd.results66,go_sem,r0,r1,r2,r3]) rfl (EPost.fin (t:=⟨10,0,0,[t]⟩) hle.out HGR.out (GE.not HGE.out) ((Kid.one HR4.out.lt (kid_of HRP.out HB4.out) (small (by omega) (by omega)) (small (by omega) (by omega))).gw HG5.out (by omega)) (by have:=HDE.out; omega) (by rw [size_one]; exact (show l - ((1 + size t:Nat):Int) = l - (size t:Int) - 1 by push_cast; omega) ▸ HM5.out) (gw_trans (gw_alloc HG4.out _) HG5.out) (by omega) (by rw [size_one]; omega) (by rw [size_one]; have:=HCP.out; have:=HCQ.out; omega) _ _ _ _)
      ·go_wp2_with (first
        | (go_at_call 66; refine (HE1.out (a + 1) l 1 _ (D - 1) HT1.out (by omega) HM2.out HX2.out (by omega) (by omega) hl1 (by omega)).mono ?_; rintro e w4 ⟨t,A',c',a',rfl,hge,hrep,hm4,hg4,h1,h2,hc⟩; have HGE:=Lib.hid hge; have HRP:=Lib.hid hrep; have HM4:=Lib.hid hm4; have HG4:=Lib.hid (gw_trans HG2.out hg4); have HA4:=Lib.hid (And.intro h1 (And.intro h2 hc)); have HR4:=Lib.hid ((HR2.out).gw hg4 (by omega)); have hsz:size t≤7:=Nat.le_trans hc (by have:=HCR.out; omega); have HB4:=Lib.hid (HR2.out).lt; clear hge hrep hm4 hg4 h1 h2 hc)
        | (go_at_call 88; refine (mnode_is m (a') (l - (size t:Int)) (10) (0) _ (some ⟨w4.heap.size,0,none⟩) 1 1 (HM4.out.alloc _) (by omega) (by omega)).mono ?_; rintro e w5 ⟨rfl,hm5,hg5⟩; have HM5:=Lib.hid hm5; have HG5:=Lib.hid hg5; have HR5:Hid (Blk w5 r 25 #[.int .i64 0,.int .i64 0,.int .i64 0,.slice none 0 0]):=Lib.hid (((HR4.out.alloc _)).gw hg5 (by omega)); clear hm5 hg5; have r0:=HR5.out.cell 0; have r1:=HR5.out.cell 1; have r2:=HR5.out.cell 2; have r3:=HR5.out.cell 3; have f0:=HR5.out.frozen 0; have f1:=HR5.out.frozen 1; have f2:=HR5.out.frozen 2; have f3:=HR5.out.frozen 3; simp only [List.getElem?_toArray,List.getElem?_cons_zero,List.getElem?_cons_succ] at r0 r1 r2 r3))
       have ha4:=HA4.out
       refine bodyPost_ret (v:=.agg #[.int .i64 (10),.int .i64 (0),.int .i64 0,.slice (some ⟨w4.heap.size,0,none⟩) 1 1]) (by simp [results,Tryd.results66,go_sem,r0,r1,r2,r3]) rfl (EPost.fin (t:=⟨10,0,0,[t]⟩) hle.out HGR.out (GE.not HGE.out) ((Kid.one HR4.out.lt (kid_of HRP.out HB4.out) (small (by omega) (by omega)) (small (by omega) (by omega))).gw HG5.out (by omega)) (by have:=HDE.out; omega) (by rw [size_one]; exact (show l - ((1 + size t:Nat):Int) = l - (size t:Int) - 1 by push_cast; omega) ▸ HM5.out) (gw_trans (gw_alloc HG4.out _) HG5.out) (by omega) (by rw [size_one]; omega) (by rw [size_one]; have:=HCP.out; have:=HCQ.out; omega) _ _ _ _)
     ·have hxe:decide (x < 6) = false:=by simp; omega
      have hx6:¬ x = 4:=by omega
      have hx7:¬ x = 5:=by omega
      have h8:=HM2.out.cell 8
      simp only [Par.cells,List.getElem?_toArray,List.getElem?_cons_zero,List.getElem?_cons_succ] at h8
      by_cases hx8:x = 6
      ·subst hx8
       obtain ⟨cn,hcn⟩:∃ b,b = m.con:=⟨_,rfl⟩
       rw [← hcn] at h8
       clear hcn
       cases cn
       all_goals
        go_wp2_with fail
        go_meet
        exact ⟨_,a + 1,rfl,by omega,by omega,HM2.out,gw_refl _ _⟩
      ·go_wp2_with fail
       go_meet
       exact ⟨_,a + 1,rfl,by omega,by omega,HM2.out,gw_refl _ _⟩
   case rest =>
   obtain ⟨V3,a3,hwc,HF⟩:=hcut
   subst hwc
   have HM3:=Lib.hid HF.out.2.2.1
   have HG3:=Lib.hid (gw_trans HG2.out HF.out.2.2.2)
   have HX3:=Lib.hid (HX2.out.gw HF.out.2.2.2)
   have HR3:=Lib.hid (HR2.out.gw HF.out.2.2.2 (by omega))
   have ha3:a + 1≤a3∧a3≤a + 3:=⟨HF.out.1,HF.out.2.1⟩
   have HSR:Hid (r < V3.heap.size):=Lib.hid HR3.out.lt
   clear HV HF HM2 HG2 HX2 HR2 HM1 HG1 HX1 HR1 HE HE2
   rcases HK.out with rfl | rfl
   ·obtain ⟨q,HQ,hqn⟩:=zletter (L:=m.L) a3 12 (by omega)
    obtain ⟨z,hz,hz0,hz1⟩:=lits12 q (by omega)
    have HZ:=Lib.hid hz
    clear hz
    have hqb:(0:Int)≤(q:Int)∧(q:Int) < 12:=⟨by omega,by omega⟩
    obtain ⟨V6,hV6⟩:∃ V6,V6 = V3.alloc (.cells #[.int .i64 0,.int .i64 1,.int .i64 2,.int .i64 0,.int .i64 3,.int .i64 4,.int .i64 5,.int .i64 6,.int .i64 7,.int .i64 8,.int .i64 9,.int .i64 0] 3):=⟨_,rfl⟩
    have HM6:Hid (Mk m a3 l V6):=Lib.hid (by rw [hV6]; exact HM3.out.alloc _)
    have HG6:Hid (w.grownBy V6 (some m.g)):=Lib.hid (by rw [hV6]; exact gw_alloc HG3.out _)
    have HX6:Hid (Cx m s (Dp + 1) V6):=Lib.hid (by rw [hV6]; exact HX3.out.below (below_new _ _))
    have HR6:Hid (Blk V6 r 25 #[.int .i64 0,.int .i64 0,.int .i64 0,.slice none 0 0]):=Lib.hid (by rw [hV6]; exact HR3.out.alloc _)
    have HL6:Hid (Blk V6 V3.heap.size 3 #[.int .i64 0,.int .i64 1,.int .i64 2,.int .i64 0,.int .i64 3,.int .i64 4,.int .i64 5,.int .i64 6,.int .i64 7,.int .i64 8,.int .i64 9,.int .i64 0]):=Lib.hid (by rw [hV6]; exact Blk.new _ _ _)
    have HGL:Hid (V3.heap.size≠m.g):=Lib.hid (by have:=HM3.out.lt; omega)
    go_upto_region 24 with (go_at_call 86; rw [← hV6]; refine (draw_is m s (Dp + 1) a3 l 12 _ HM6.out HX6.out (by omega) (by omega)).mono ?_; rintro e w4 ⟨rfl,hm4,hg4⟩; rw [HQ.out]; have HM4:=Lib.hid hm4; have HG4:=Lib.hid (gw_trans HG6.out hg4); have HX4:=Lib.hid (HX6.out.gw hg4); have HR4:=Lib.hid (HR6.out.gw hg4 (by omega)); have hc4:=((HL6.out.gw hg4 HGL.out).cell q).trans HZ.out; clear hm4 hg4 hV6)
    clear hc4
    go_upto_region 25 with (go_at_call 66; refine (HE1.out (a3 + 1) l 0 _ (D - 1) HT1.out (by omega) HM4.out HX4.out (by omega) (by omega) hl1 (by omega)).mono ?_; rintro e w5 ⟨t,A',c',a5,rfl,hge,hrep,hm5,hg5,h1,h2,hc⟩; have HGE:=Lib.hid hge; have HRP:=Lib.hid hrep; have HM5:=Lib.hid hm5; have HG5:=Lib.hid (gw_trans HG4.out hg5); have HX5:=Lib.hid (HX4.out.gw hg5); have HA5:=Lib.hid (And.intro h1 (And.intro h2 hc)); have HR5:=Lib.hid (HR4.out.gw hg5 (by omega)); have HB5:=Lib.hid HR4.out.lt; clear hge hrep hm5 hg5 h1 h2 hc)
    obtain ⟨W6,hW6⟩:∃ W6,W6 = w5.alloc (.cells #[.int .i64 t.k,.int .i64 t.n,.int .i64 t.m,.slice A' t.kids.length c'] 25):=⟨_,rfl⟩
    obtain ⟨ba,hba⟩:∃ b,b = w5.heap.size:=⟨_,rfl⟩
    have HM7:Hid (Mk m a5 (l - (size t:Int)) W6):=Lib.hid (by rw [hW6]; exact HM5.out.alloc _)
    have HG7:Hid (w.grownBy W6 (some m.g)):=Lib.hid (by rw [hW6]; exact gw_alloc HG5.out _)
    have HX7:Hid (Cx m s (Dp + 1) W6):=Lib.hid (by rw [hW6]; exact HX5.out.below (below_new _ _))
    have HR7:Hid (Blk W6 r 25 #[.int .i64 0,.int .i64 0,.int .i64 0,.slice none 0 0]):=Lib.hid (by rw [hW6]; exact HR5.out.alloc _)
    have HK7:Hid (Kid r W6 (ee + 1) t A' c'):=Lib.hid (by rw [hW6]; exact Kid.gw (g:=m.g) (kid_of HRP.out HB5.out) (gwb (below_new _ _)) (by omega))
    have HBA:Hid (Blk W6 ba 25 #[.int .i64 t.k,.int .i64 t.n,.int .i64 t.m,.slice A' t.kids.length c']):=Lib.hid (by rw [hW6,hba]; exact Blk.new _ _ _)
    have HNB:Hid (ba≠m.g∧ba≠r):=Lib.hid (by have:=HM5.out.lt; have:=HR5.out.lt; omega)
    rw [← hW6,← hba]
    clear hW6 hba
    have ha5:a3 + 1≤a5∧a5≤a3 + 1 + 6 * size t:=⟨HA5.out.1,by have:=HA5.out.2.1; omega⟩
    have hsz:size t≤7:=by have:=HA5.out.2.2; have:=HCR.out; omega
    have HC4:Hid (∀ W,W6.grownBy W (some m.g)→W.cell? ⟨ba,0,none⟩ = some (.int .i64 t.k)∧W.cell? ⟨ba,1,none⟩ = some (.int .i64 t.n)∧W.cell? ⟨ba,2,none⟩ = some (.int .i64 t.m)∧W.cell? ⟨ba,3,none⟩ = some (.slice A' t.kids.length c')):=Lib.hid fun W hg=>by
     have h:=HBA.out.gw hg HNB.out.1
     exact ⟨h.cell 0,h.cell 1,h.cell 2,h.cell 3⟩
    have HC5:Hid (∀ W v0 v1 v2 v3,W6.grownBy W (some m.g)→((((W.setCell ⟨r,0,none⟩ v0).setCell ⟨r,1,none⟩ v1).setCell ⟨r,2,none⟩ v2).setCell ⟨r,3,none⟩ v3).cell? ⟨ba,0,none⟩ = some (.int .i64 t.k)∧((((W.setCell ⟨r,0,none⟩ v0).setCell ⟨r,1,none⟩ v1).setCell ⟨r,2,none⟩ v2).setCell ⟨r,3,none⟩ v3).cell? ⟨ba,1,none⟩ = some (.int .i64 t.n)∧((((W.setCell ⟨r,0,none⟩ v0).setCell ⟨r,1,none⟩ v1).setCell ⟨r,2,none⟩ v2).setCell ⟨r,3,none⟩ v3).cell? ⟨ba,2,none⟩ = some (.int .i64 t.m)∧((((W.setCell ⟨r,0,none⟩ v0).setCell ⟨r,1,none⟩ v1).setCell ⟨r,2,none⟩ v2).setCell ⟨r,3,none⟩ v3).cell? ⟨ba,3,none⟩ = some (.slice A' t.kids.length c')):=Lib.hid fun W v0 v1 v2 v3 hg=>by
     have h:=(HBA.out.gw hg HNB.out.1).gw (gw4 W r v0 v1 v2 v3).1 HNB.out.2
     exact ⟨h.cell 0,h.cell 1,h.cell 2,h.cell 3⟩
    have HCE:Hid (∀ W,W6.grownBy W (some m.g)→Mk m a5 (l - (size t:Int)) W→Calls Tryd.prog 66 #[.pointer (some ⟨m.g,0,none⟩),.int .i64 0,.int .i64 (D - 1)] W (EPost 0 m s 0 ee a5 (l - (size t:Int)) W)):=Lib.hid fun W hg hm=>HE1.out a5 _ 0 W (D - 1) HT1.out (by omega) hm (HX7.out.gw hg) (by omega) (by omega) (by omega) (by omega)
    have hbc:W6.grownBy W6.drew (some m.g):=gw_drew (gw_refl _ _)
    have HMD:Hid (Mk m a5 (l - (size t:Int)) W6.drew):=Lib.hid HM7.out.drew
    refine wp_region_noPanic ?_
    go_region_held2 (fun W=>W.cell? ⟨ba,0,none⟩ = some (.int .i64 t.k)∧W.cell? ⟨ba,1,none⟩ = some (.int .i64 t.n)∧W.cell? ⟨ba,2,none⟩ = some (.int .i64 t.m)∧W.cell? ⟨ba,3,none⟩ = some (.slice A' t.kids.length c'))
     (first | exact HC4.out _ hbc | exact HC4.out _ (gw_alloc hbc _) | exact HC5.out _ _ _ _ _ hbc)
     (first
     | (go_at_call 66; (with_reducible refine (HCE.out _ hbc HMD.out).mono ?_); rintro e w8 ⟨u,A2,c2,a8,rfl,hge,hrep,hm8,hg8,h1,h2,hc⟩; have hbc0:=hbc; clear hbc; have hbc:=gw_trans hbc0 hg8; have HG8:=Lib.hid hbc; have HGE2:=Lib.hid hge; have HM8:=Lib.hid hm8; have HRP2:Hid (Kid r w8 (ee + 1) u A2 c2):=Lib.hid (kid_of hrep HR7.out.lt); have HA8:=Lib.hid (And.intro h1 (And.intro h2 hc)); have hsz2:size u≤7:=Nat.le_trans hc (by have:=HCR.out; omega); have HR8:=Lib.hid (HR7.out.gw hbc (by omega)); clear hge hrep hm8 hg8 h1 h2 hc hbc0)
     | (go_at_call 88; (with_reducible refine (mnode_is m a8 (l - (size t:Int) - (size u:Int)) 9 z _ (some ⟨w8.heap.size,0,none⟩) 2 2 (HM8.out.alloc _) (by omega) (by omega)).mono ?_); rintro e w9 ⟨rfl,hm9,hg9⟩; have hbc0:=hbc; clear hbc; have hbc:=gw_trans (gw_alloc hbc0 _) hg9; have HM9:=Lib.hid hm9; have HG9:=Lib.hid hg9; have HR9:Hid (Blk w9 r 25 #[.int .i64 0,.int .i64 0,.int .i64 0,.slice none 0 0]):=Lib.hid ((Blk.alloc HR8.out _).gw hg9 (by omega)); clear hm9 hg9 hbc0; have r0:=HR9.out.cell 0; have r1:=HR9.out.cell 1; have r2:=HR9.out.cell 2; have r3:=HR9.out.cell 3; have f0:=HR9.out.frozen 0; have f1:=HR9.out.frozen 1; have f2:=HR9.out.frozen 2; have f3:=HR9.out.frozen 3; simp only [List.getElem?_toArray,List.getElem?_cons_zero,List.getElem?_cons_succ] at r0 r1 r2 r3))
    all_goals
     refine NoPanic.normal ?_
     go_wp2_with fail
     have ha8:=HA8.out
     have hcp:=HCP.out
     have ha55:=HA5.out
     refine bodyPost_ret (v:=.agg #[.int .i64 9,.int .i64 z,.int .i64 0,.slice (some ⟨w8.heap.size,0,none⟩) 2 2]) (by simp [results,Tryd.results66,go_sem,r0,r1,r2,r3]) rfl (EPost.fin (t:=⟨9,z,0,[t,u]⟩) hle.out HGR.out (GE.bin hz0 (by omega) (by rw [if_pos (by omega)]) (by rw [if_neg (by omega)]) HGE.out HGE2.out) ((Kid.two HR8.out.lt (HK7.out.gw HG8.out (by omega)) HRP2.out (small (by omega) (by omega)) (small (by omega) (by omega))).gw HG9.out (by omega)) (by have:=HDE.out; omega) (by rw [size_two]; exact (show l - ((1 + (size t + size u):Nat):Int) = l - (size t:Int) - (size u:Int) - 1 by push_cast; omega) ▸ HM9.out) (gw_trans (gw_alloc (gw_trans HG7.out HG8.out) _) HG9.out) (by omega) (by rw [size_two]; omega) (by rw [size_two]; omega) _ _ _ _)
   ·obtain ⟨q,HQ,hqn⟩:=zletter (L:=m.L) a3 5 (by omega)
    obtain ⟨z,hz,hz0,hz1⟩:=lits5 q (by omega)
    have HZ:=Lib.hid hz
    clear hz
    have hqb:(0:Int)≤(q:Int)∧(q:Int) < 5:=⟨by omega,by omega⟩
    obtain ⟨V6,hV6⟩:∃ V6,V6 = V3.alloc (.cells #[.int .i64 10,.int .i64 11,.int .i64 10,.int .i64 12,.int .i64 13] 3):=⟨_,rfl⟩
    have HM6:Hid (Mk m a3 l V6):=Lib.hid (by rw [hV6]; exact HM3.out.alloc _)
    have HG6:Hid (w.grownBy V6 (some m.g)):=Lib.hid (by rw [hV6]; exact gw_alloc HG3.out _)
    have HX6:Hid (Cx m s (Dp + 1) V6):=Lib.hid (by rw [hV6]; exact HX3.out.below (below_new _ _))
    have HR6:Hid (Blk V6 r 25 #[.int .i64 0,.int .i64 0,.int .i64 0,.slice none 0 0]):=Lib.hid (by rw [hV6]; exact HR3.out.alloc _)
    have HL6:Hid (Blk V6 V3.heap.size 3 #[.int .i64 10,.int .i64 11,.int .i64 10,.int .i64 12,.int .i64 13]):=Lib.hid (by rw [hV6]; exact Blk.new _ _ _)
    have HGL:Hid (V3.heap.size≠m.g):=Lib.hid (by have:=HM3.out.lt; omega)
    go_upto_region 27 with (go_at_call 86; rw [← hV6]; refine (draw_is m s (Dp + 1) a3 l 5 _ HM6.out HX6.out (by omega) (by omega)).mono ?_; rintro e w4 ⟨rfl,hm4,hg4⟩; rw [HQ.out]; have HM4:=Lib.hid hm4; have HG4:=Lib.hid (gw_trans HG6.out hg4); have HX4:=Lib.hid (HX6.out.gw hg4); have HR4:=Lib.hid (HR6.out.gw hg4 (by omega)); have hc4:=((HL6.out.gw hg4 HGL.out).cell q).trans HZ.out; clear hm4 hg4 hV6)
    clear hc4
    by_cases hz2:12≤z
    ·have hzd:decide (12≤z) = true:=by simpa using hz2
     go_upto_region 30 with fail
     go_upto_region 31 with (go_at_call 66; refine (HE1.out (a3 + 1) l 1 _ (D - 1) HT1.out (by omega) HM4.out HX4.out (by omega) (by omega) hl1 (by omega)).mono ?_; rintro e w5 ⟨t,A',c',a5,rfl,hge,hrep,hm5,hg5,h1,h2,hc⟩; have HGE:=Lib.hid hge; have HRP:=Lib.hid hrep; have HM5:=Lib.hid hm5; have HG5:=Lib.hid (gw_trans HG4.out hg5); have HX5:=Lib.hid (HX4.out.gw hg5); have HA5:=Lib.hid (And.intro h1 (And.intro h2 hc)); have HR5:=Lib.hid (HR4.out.gw hg5 (by omega)); have HB5:=Lib.hid HR4.out.lt; clear hge hrep hm5 hg5 h1 h2 hc)
     obtain ⟨W6,hW6⟩:∃ W6,W6 = w5.alloc (.cells #[.int .i64 t.k,.int .i64 t.n,.int .i64 t.m,.slice A' t.kids.length c'] 25):=⟨_,rfl⟩
     obtain ⟨ba,hba⟩:∃ b,b = w5.heap.size:=⟨_,rfl⟩
     have HM7:Hid (Mk m a5 (l - (size t:Int)) W6):=Lib.hid (by rw [hW6]; exact HM5.out.alloc _)
     have HG7:Hid (w.grownBy W6 (some m.g)):=Lib.hid (by rw [hW6]; exact gw_alloc HG5.out _)
     have HX7:Hid (Cx m s (Dp + 1) W6):=Lib.hid (by rw [hW6]; exact HX5.out.below (below_new _ _))
     have HR7:Hid (Blk W6 r 25 #[.int .i64 0,.int .i64 0,.int .i64 0,.slice none 0 0]):=Lib.hid (by rw [hW6]; exact HR5.out.alloc _)
     have HK7:Hid (Kid r W6 (ee + 1) t A' c'):=Lib.hid (by rw [hW6]; exact Kid.gw (g:=m.g) (kid_of HRP.out HB5.out) (gwb (below_new _ _)) (by omega))
     have HBA:Hid (Blk W6 ba 25 #[.int .i64 t.k,.int .i64 t.n,.int .i64 t.m,.slice A' t.kids.length c']):=Lib.hid (by rw [hW6,hba]; exact Blk.new _ _ _)
     have HNB:Hid (ba≠m.g∧ba≠r):=Lib.hid (by have:=HM5.out.lt; have:=HR5.out.lt; omega)
     rw [← hW6,← hba]
     clear hW6 hba
     have ha5:a3 + 1≤a5∧a5≤a3 + 1 + 6 * size t:=⟨HA5.out.1,by have:=HA5.out.2.1; omega⟩
     have hsz:size t≤7:=by have:=HA5.out.2.2; have:=HCR.out; omega
     have HC4:Hid (∀ W,W6.grownBy W (some m.g)→W.cell? ⟨ba,0,none⟩ = some (.int .i64 t.k)∧W.cell? ⟨ba,1,none⟩ = some (.int .i64 t.n)∧W.cell? ⟨ba,2,none⟩ = some (.int .i64 t.m)∧W.cell? ⟨ba,3,none⟩ = some (.slice A' t.kids.length c')):=Lib.hid fun W hg=>by
      have h:=HBA.out.gw hg HNB.out.1
      exact ⟨h.cell 0,h.cell 1,h.cell 2,h.cell 3⟩
     have HC5:Hid (∀ W v0 v1 v2 v3,W6.grownBy W (some m.g)→((((W.setCell ⟨r,0,none⟩ v0).setCell ⟨r,1,none⟩ v1).setCell ⟨r,2,none⟩ v2).setCell ⟨r,3,none⟩ v3).cell? ⟨ba,0,none⟩ = some (.int .i64 t.k)∧((((W.setCell ⟨r,0,none⟩ v0).setCell ⟨r,1,none⟩ v1).setCell ⟨r,2,none⟩ v2).setCell ⟨r,3,none⟩ v3).cell? ⟨ba,1,none⟩ = some (.int .i64 t.n)∧((((W.setCell ⟨r,0,none⟩ v0).setCell ⟨r,1,none⟩ v1).setCell ⟨r,2,none⟩ v2).setCell ⟨r,3,none⟩ v3).cell? ⟨ba,2,none⟩ = some (.int .i64 t.m)∧((((W.setCell ⟨r,0,none⟩ v0).setCell ⟨r,1,none⟩ v1).setCell ⟨r,2,none⟩ v2).setCell ⟨r,3,none⟩ v3).cell? ⟨ba,3,none⟩ = some (.slice A' t.kids.length c')):=Lib.hid fun W v0 v1 v2 v3 hg=>by
      have h:=(HBA.out.gw hg HNB.out.1).gw (gw4 W r v0 v1 v2 v3).1 HNB.out.2
      exact ⟨h.cell 0,h.cell 1,h.cell 2,h.cell 3⟩
     have HCE:Hid (∀ W,W6.grownBy W (some m.g)→Mk m a5 (l - (size t:Int)) W→Calls Tryd.prog 66 #[.pointer (some ⟨m.g,0,none⟩),.int .i64 1,.int .i64 (D - 1)] W (EPost 0 m s 1 ee a5 (l - (size t:Int)) W)):=Lib.hid fun W hg hm=>HE1.out a5 _ 1 W (D - 1) HT1.out (by omega) hm (HX7.out.gw hg) (by omega) (by omega) (by omega) (by omega)
     have hbc:W6.grownBy W6.drew (some m.g):=gw_drew (gw_refl _ _)
     have HMD:Hid (Mk m a5 (l - (size t:Int)) W6.drew):=Lib.hid HM7.out.drew
     refine wp_region_noPanic ?_
     go_region_held2 (fun W=>W.cell? ⟨ba,0,none⟩ = some (.int .i64 t.k)∧W.cell? ⟨ba,1,none⟩ = some (.int .i64 t.n)∧W.cell? ⟨ba,2,none⟩ = some (.int .i64 t.m)∧W.cell? ⟨ba,3,none⟩ = some (.slice A' t.kids.length c'))
      (first | exact HC4.out _ hbc | exact HC4.out _ (gw_alloc hbc _) | exact HC5.out _ _ _ _ _ hbc)
      (first
      | (go_at_call 66; (with_reducible refine (HCE.out _ hbc HMD.out).mono ?_); rintro e w8 ⟨u,A2,c2,a8,rfl,hge,hrep,hm8,hg8,h1,h2,hc⟩; have hbc0:=hbc; clear hbc; have hbc:=gw_trans hbc0 hg8; have HG8:=Lib.hid hbc; have HGE2:=Lib.hid hge; have HM8:=Lib.hid hm8; have HRP2:Hid (Kid r w8 (ee + 1) u A2 c2):=Lib.hid (kid_of hrep HR7.out.lt); have HA8:=Lib.hid (And.intro h1 (And.intro h2 hc)); have hsz2:size u≤7:=Nat.le_trans hc (by have:=HCR.out; omega); have HR8:=Lib.hid (HR7.out.gw hbc (by omega)); clear hge hrep hm8 hg8 h1 h2 hc hbc0)
      | (go_at_call 88; (with_reducible refine (mnode_is m a8 (l - (size t:Int) - (size u:Int)) 9 z _ (some ⟨w8.heap.size,0,none⟩) 2 2 (HM8.out.alloc _) (by omega) (by omega)).mono ?_); rintro e w9 ⟨rfl,hm9,hg9⟩; have hbc0:=hbc; clear hbc; have hbc:=gw_trans (gw_alloc hbc0 _) hg9; have HM9:=Lib.hid hm9; have HG9:=Lib.hid hg9; have HR9:Hid (Blk w9 r 25 #[.int .i64 0,.int .i64 0,.int .i64 0,.slice none 0 0]):=Lib.hid ((Blk.alloc HR8.out _).gw hg9 (by omega)); clear hm9 hg9 hbc0; have r0:=HR9.out.cell 0; have r1:=HR9.out.cell 1; have r2:=HR9.out.cell 2; have r3:=HR9.out.cell 3; have f0:=HR9.out.frozen 0; have f1:=HR9.out.frozen 1; have f2:=HR9.out.frozen 2; have f3:=HR9.out.frozen 3; simp only [List.getElem?_toArray,List.getElem?_cons_zero,List.getElem?_cons_succ] at r0 r1 r2 r3))
     all_goals
      refine NoPanic.normal ?_
      go_wp2_with fail
      have ha8:=HA8.out
      have hcp:=HCP.out
      have ha55:=HA5.out
      refine bodyPost_ret (v:=.agg #[.int .i64 9,.int .i64 z,.int .i64 0,.slice (some ⟨w8.heap.size,0,none⟩) 2 2]) (by simp [results,Tryd.results66,go_sem,r0,r1,r2,r3]) rfl (EPost.fin (t:=⟨9,z,0,[t,u]⟩) hle.out HGR.out (GE.bin (by omega) (by omega) (by rw [if_neg (by omega)]) (by rw [if_pos (by omega)]) HGE.out HGE2.out) ((Kid.two HR8.out.lt (HK7.out.gw HG8.out (by omega)) HRP2.out (small (by omega) (by omega)) (small (by omega) (by omega))).gw HG9.out (by omega)) (by have:=HDE.out; omega) (by rw [size_two]; exact (show l - ((1 + (size t + size u):Nat):Int) = l - (size t:Int) - (size u:Int) - 1 by push_cast; omega) ▸ HM9.out) (gw_trans (gw_alloc (gw_trans HG7.out HG8.out) _) HG9.out) (by omega) (by rw [size_two]; omega) (by rw [size_two]; omega) _ _ _ _)
    ·have hzd:decide (12≤z) = false:=by simp; omega
     go_upto_region 30 with fail
     go_upto_region 31 with (go_at_call 66; refine (HE1.out (a3 + 1) l 0 _ (D - 1) HT1.out (by omega) HM4.out HX4.out (by omega) (by omega) hl1 (by omega)).mono ?_; rintro e w5 ⟨t,A',c',a5,rfl,hge,hrep,hm5,hg5,h1,h2,hc⟩; have HGE:=Lib.hid hge; have HRP:=Lib.hid hrep; have HM5:=Lib.hid hm5; have HG5:=Lib.hid (gw_trans HG4.out hg5); have HX5:=Lib.hid (HX4.out.gw hg5); have HA5:=Lib.hid (And.intro h1 (And.intro h2 hc)); have HR5:=Lib.hid (HR4.out.gw hg5 (by omega)); have HB5:=Lib.hid HR4.out.lt; clear hge hrep hm5 hg5 h1 h2 hc)
     obtain ⟨W6,hW6⟩:∃ W6,W6 = w5.alloc (.cells #[.int .i64 t.k,.int .i64 t.n,.int .i64 t.m,.slice A' t.kids.length c'] 25):=⟨_,rfl⟩
     obtain ⟨ba,hba⟩:∃ b,b = w5.heap.size:=⟨_,rfl⟩
     have HM7:Hid (Mk m a5 (l - (size t:Int)) W6):=Lib.hid (by rw [hW6]; exact HM5.out.alloc _)
     have HG7:Hid (w.grownBy W6 (some m.g)):=Lib.hid (by rw [hW6]; exact gw_alloc HG5.out _)
     have HX7:Hid (Cx m s (Dp + 1) W6):=Lib.hid (by rw [hW6]; exact HX5.out.below (below_new _ _))
     have HR7:Hid (Blk W6 r 25 #[.int .i64 0,.int .i64 0,.int .i64 0,.slice none 0 0]):=Lib.hid (by rw [hW6]; exact HR5.out.alloc _)
     have HK7:Hid (Kid r W6 (ee + 1) t A' c'):=Lib.hid (by rw [hW6]; exact Kid.gw (g:=m.g) (kid_of HRP.out HB5.out) (gwb (below_new _ _)) (by omega))
     have HBA:Hid (Blk W6 ba 25 #[.int .i64 t.k,.int .i64 t.n,.int .i64 t.m,.slice A' t.kids.length c']):=Lib.hid (by rw [hW6,hba]; exact Blk.new _ _ _)
     have HNB:Hid (ba≠m.g∧ba≠r):=Lib.hid (by have:=HM5.out.lt; have:=HR5.out.lt; omega)
     rw [← hW6,← hba]
     clear hW6 hba
     have ha5:a3 + 1≤a5∧a5≤a3 + 1 + 6 * size t:=⟨HA5.out.1,by have:=HA5.out.2.1; omega⟩
     have hsz:size t≤7:=by have:=HA5.out.2.2; have:=HCR.out; omega
     have HC4:Hid (∀ W,W6.grownBy W (some m.g)→W.cell? ⟨ba,0,none⟩ = some (.int .i64 t.k)∧W.cell? ⟨ba,1,none⟩ = some (.int .i64 t.n)∧W.cell? ⟨ba,2,none⟩ = some (.int .i64 t.m)∧W.cell? ⟨ba,3,none⟩ = some (.slice A' t.kids.length c')):=Lib.hid fun W hg=>by
      have h:=HBA.out.gw hg HNB.out.1
      exact ⟨h.cell 0,h.cell 1,h.cell 2,h.cell 3⟩
     have HC5:Hid (∀ W v0 v1 v2 v3,W6.grownBy W (some m.g)→((((W.setCell ⟨r,0,none⟩ v0).setCell ⟨r,1,none⟩ v1).setCell ⟨r,2,none⟩ v2).setCell ⟨r,3,none⟩ v3).cell? ⟨ba,0,none⟩ = some (.int .i64 t.k)∧((((W.setCell ⟨r,0,none⟩ v0).setCell ⟨r,1,none⟩ v1).setCell ⟨r,2,none⟩ v2).setCell ⟨r,3,none⟩ v3).cell? ⟨ba,1,none⟩ = some (.int .i64 t.n)∧((((W.setCell ⟨r,0,none⟩ v0).setCell ⟨r,1,none⟩ v1).setCell ⟨r,2,none⟩ v2).setCell ⟨r,3,none⟩ v3).cell? ⟨ba,2,none⟩ = some (.int .i64 t.m)∧((((W.setCell ⟨r,0,none⟩ v0).setCell ⟨r,1,none⟩ v1).setCell ⟨r,2,none⟩ v2).setCell ⟨r,3,none⟩ v3).cell? ⟨ba,3,none⟩ = some (.slice A' t.kids.length c')):=Lib.hid fun W v0 v1 v2 v3 hg=>by
      have h:=(HBA.out.gw hg HNB.out.1).gw (gw4 W r v0 v1 v2 v3).1 HNB.out.2
      exact ⟨h.cell 0,h.cell 1,h.cell 2,h.cell 3⟩
     have HCE:Hid (∀ W,W6.grownBy W (some m.g)→Mk m a5 (l - (size t:Int)) W→Calls Tryd.prog 66 #[.pointer (some ⟨m.g,0,none⟩),.int .i64 0,.int .i64 (D - 1)] W (EPost 0 m s 0 ee a5 (l - (size t:Int)) W)):=Lib.hid fun W hg hm=>HE1.out a5 _ 0 W (D - 1) HT1.out (by omega) hm (HX7.out.gw hg) (by omega) (by omega) (by omega) (by omega)
     have hbc:W6.grownBy W6.drew (some m.g):=gw_drew (gw_refl _ _)
     have HMD:Hid (Mk m a5 (l - (size t:Int)) W6.drew):=Lib.hid HM7.out.drew
     refine wp_region_noPanic ?_
     go_region_held2 (fun W=>W.cell? ⟨ba,0,none⟩ = some (.int .i64 t.k)∧W.cell? ⟨ba,1,none⟩ = some (.int .i64 t.n)∧W.cell? ⟨ba,2,none⟩ = some (.int .i64 t.m)∧W.cell? ⟨ba,3,none⟩ = some (.slice A' t.kids.length c'))
      (first | exact HC4.out _ hbc | exact HC4.out _ (gw_alloc hbc _) | exact HC5.out _ _ _ _ _ hbc)
      (first
      | (go_at_call 66; (with_reducible refine (HCE.out _ hbc HMD.out).mono ?_); rintro e w8 ⟨u,A2,c2,a8,rfl,hge,hrep,hm8,hg8,h1,h2,hc⟩; have hbc0:=hbc; clear hbc; have hbc:=gw_trans hbc0 hg8; have HG8:=Lib.hid hbc; have HGE2:=Lib.hid hge; have HM8:=Lib.hid hm8; have HRP2:Hid (Kid r w8 (ee + 1) u A2 c2):=Lib.hid (kid_of hrep HR7.out.lt); have HA8:=Lib.hid (And.intro h1 (And.intro h2 hc)); have hsz2:size u≤7:=Nat.le_trans hc (by have:=HCR.out; omega); have HR8:=Lib.hid (HR7.out.gw hbc (by omega)); clear hge hrep hm8 hg8 h1 h2 hc hbc0)
      | (go_at_call 88; (with_reducible refine (mnode_is m a8 (l - (size t:Int) - (size u:Int)) 9 z _ (some ⟨w8.heap.size,0,none⟩) 2 2 (HM8.out.alloc _) (by omega) (by omega)).mono ?_); rintro e w9 ⟨rfl,hm9,hg9⟩; have hbc0:=hbc; clear hbc; have hbc:=gw_trans (gw_alloc hbc0 _) hg9; have HM9:=Lib.hid hm9; have HG9:=Lib.hid hg9; have HR9:Hid (Blk w9 r 25 #[.int .i64 0,.int .i64 0,.int .i64 0,.slice none 0 0]):=Lib.hid ((Blk.alloc HR8.out _).gw hg9 (by omega)); clear hm9 hg9 hbc0; have r0:=HR9.out.cell 0; have r1:=HR9.out.cell 1; have r2:=HR9.out.cell 2; have r3:=HR9.out.cell 3; have f0:=HR9.out.frozen 0; have f1:=HR9.out.frozen 1; have f2:=HR9.out.frozen 2; have f3:=HR9.out.frozen 3; simp only [List.getElem?_toArray,List.getElem?_cons_zero,List.getElem?_cons_succ] at r0 r1 r2 r3))
     all_goals
      refine NoPanic.normal ?_
      go_wp2_with fail
      have ha8:=HA8.out
      have hcp:=HCP.out
      have ha55:=HA5.out
      refine bodyPost_ret (v:=.agg #[.int .i64 9,.int .i64 z,.int .i64 0,.slice (some ⟨w8.heap.size,0,none⟩) 2 2]) (by simp [results,Tryd.results66,go_sem,r0,r1,r2,r3]) rfl (EPost.fin (t:=⟨9,z,0,[t,u]⟩) hle.out HGR.out (GE.bin (by omega) (by omega) (by rw [if_pos (by omega)]) (by rw [if_pos (by omega)]) HGE.out HGE2.out) ((Kid.two HR8.out.lt (HK7.out.gw HG8.out (by omega)) HRP2.out (small (by omega) (by omega)) (small (by omega) (by omega))).gw HG9.out (by omega)) (by have:=HDE.out; omega) (by rw [size_two]; exact (show l - ((1 + (size t + size u):Nat):Int) = l - (size t:Int) - (size u:Int) - 1 by push_cast; omega) ▸ HM9.out) (gw_trans (gw_alloc (gw_trans HG7.out HG8.out) _) HG9.out) (by omega) (by rw [size_two]; omega) (by rw [size_two]; omega) _ _ _ _)
end Go.Proofs.YtkkenbalpnmfmaaDoor
