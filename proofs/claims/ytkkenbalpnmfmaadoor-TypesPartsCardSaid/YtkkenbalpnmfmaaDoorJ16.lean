/- Texts joined. -/
import Derived.Test.YtkkenbalpnmfmaaDoorJ15
set_option linter.unusedVariables false
namespace Go.Proofs.YtkkenbalpnmfmaaDoor
open Go.RowKit WM TR TY
attribute [local go_sem ↓ high] shutB2
attribute [local go_sem] run_bs2

theorem Kid.oneM {r D c : Nat} {V : World} {t : T} {A : Option Addr} {k n i : Int} (hr : r < V.heap.size) (h : Kid r V D t A c) (hk : inRange k) (hn : inRange n) (hi : inRange i) :
  Kid r (V.alloc (.cells #[.int .i64 t.k,.int .i64 t.n,.int .i64 t.m,.slice A t.kids.length c] 25)) (D + 1) ⟨k,n,i,[t]⟩ (some ⟨V.heap.size,0,none⟩) 1:=by
 obtain ⟨h1,h2⟩:=kids_row (ts:=[t]) (xs:=nd t A c) hr (Reps.one h)
 exact Rep.mk hk hn hi (Nat.le_refl _) h1 h2

set_option maxRecDepth 100000 in
set_option maxHeartbeats 16000000 in
theorem zstmt_step (m:Par) (s:Sc) (Dp e:Nat) (he:e≤3) (hS:∀ f,e = f + 1→SC m s Dp f∧BC m s Dp f):SC m s Dp e:=by
 intro a l w hm hx hl0 hl1 ha
 obtain ⟨r,hr⟩:∃ r,r = w.heap.size:=⟨_,rfl⟩
 have hgr:m.g < r:=by rw [hr]; exact hm.lt
 have HGR:Hid (m.g < w.heap.size):=Lib.hid hm.lt
 have HR:=Lib.hid hr
 obtain ⟨W1,hW1⟩:∃ W1,W1 = w.alloc (.cells #[.int .i64 0,.int .i64 0,.int .i64 0,.slice none 0 0] 25):=⟨_,rfl⟩
 have HM1:Hid (Mk m a l W1):=Lib.hid (by rw [hW1]; exact hm.alloc _)
 have HG1:Hid (w.grownBy W1 (some m.g)):=Lib.hid (by rw [hW1]; exact gw_alloc (gw_refl w m.g) _)
 have HX1:Hid (Cx m s (Dp + 1) W1):=Lib.hid (hx.gw HG1.out)
 have HR1:Hid (Blk W1 r 25 #[.int .i64 0,.int .i64 0,.int .i64 0,.slice none 0 0]):=Lib.hid (by rw [hW1,hr]; exact Blk.new _ _ _)
 have HW1:=Lib.hid hW1
 have HS:=Lib.hid hS
 have HE0:=Lib.hid (zexpr_all m s Dp 0 (by omega))
 have HE1:=Lib.hid (zexpr_all m s Dp 1 (by omega))
 have HE2:=Lib.hid (zexpr_all m s Dp 2 (by omega))
 have HE3:=Lib.hid (zexpr_all m s Dp 3 (by omega))
 have HC:Hid (capE 0 = 1∧capE 1 = 3∧capE 2 = 7∧capE 3 = 15):=Lib.hid ⟨rfl,rfl,rfl,rfl⟩
 have HCS:Hid (16≤capS e):=Lib.hid (capS_ge e)
 have HVL:Hid (s.vars.length≤6):=Lib.hid hx.ok.vl
 have hle:Hid (w.heap.size≤r):=Lib.hid (Nat.le_of_eq HR.out.symm)
 obtain ⟨x,HX16,hx16⟩:=zletter (L:=m.L) a 16 (by omega)
 obtain ⟨ei,hei⟩:∃ z:Int,z = (e:Int):=⟨_,rfl⟩
 have HEI:=Lib.hid hei
 have hei0:0≤ei∧ei≤3:=by omega
 rw [← hei]
 have ha0:a + 20000≤800000:=by omega
 have HA:=Lib.hid ha
 clear hr hm hW1 hx hS hei ha
 go_enter Tryd.func100,Tryd.ntmps100
 go_upto_region 1 with fail
 rw [← HW1.out,← HR.out]
 go_cut [5] from 14 to 15 (fun s5 wv=>∃ V:World,V = wv∧s5 = .int .i64 (x:Int)∧Hid (Mk m (a + 1) l V∧W1.grownBy V (some m.g)))
 case first =>
  go_wp2_with (go_at_call 86; refine (draw_is m s (Dp + 1) a l 16 _ HM1.out HX1.out (by omega) (by omega)).mono ?_; rintro e w2 ⟨rfl,hm2,hg2⟩; rw [HX16.out])
  go_meet
  exact ⟨_,rfl,rfl,hm2,hg2⟩
 case rest =>
 obtain ⟨V,hwc,rfl,HV⟩:=hcut
 subst hwc
 have HM2:=Lib.hid HV.out.1
 have HG2:=Lib.hid (gw_trans HG1.out HV.out.2)
 have HX2:=Lib.hid (HX1.out.gw HV.out.2)
 have HR2:=Lib.hid (HR1.out.gw HV.out.2 (by omega))
 clear HM1 HX1 HR1 HV HG1
 rename_i hK
 refine hK _ _ ?_
 clear hK
 go_step
 go_cut [] from 16 to 31 (fun wv=>V = wv)
 case first =>
  by_cases he0:0 < ei
  ·have hd1:decide (0 < ei) = true:=by simpa using he0
   have h2:=HM2.out.cell 2
   simp only [Par.cells,List.getElem?_toArray,List.getElem?_cons_zero,List.getElem?_cons_succ] at h2
   by_cases hl8:8 < l
   ·have hd2:decide (8 < l) = true:=by simpa using hl8
    by_cases hx5:x < 5
    ·have hd3:decide (x < 5) = true:=by simpa using hx5
     obtain ⟨f,hf⟩:∃ f,e = f + 1:=⟨e - 1,by have:=HEI.out; omega⟩
     have HF:=Lib.hid hf
     have hei2:ei = (f:Int) + 1:=by have:=HEI.out; omega
     have HCN:Hid (Calls Tryd.prog 106 #[.pointer (some ⟨m.g,0,none⟩),.int .i64 ei] V (SPost 1 m (GS s) (7 + 2 * f) (capS (f + 1)) (-16 - 3 * (f:Int)) (a + 1) l V)):=Lib.hid (by
      rw [hei2]
      exact nested_is m s Dp f (by omega) (HS.out f hf).1 (HS.out f hf).2 (a + 1) l V HM2.out HX2.out (by omega) hl1 (by have:=HA.out; omega))
     clear hf hei2
     go_wp2_with (go_at_call 106; refine HCN.out.mono ?_; rintro e w5 ⟨t,A',c',a',rfl,hge,hrep,hm5,hg5,h1,h2',hc,hlo3⟩; have HGE:=Lib.hid hge; have HRP:=Lib.hid hrep; have HM5:=Lib.hid hm5; have HG5:=Lib.hid (gw_trans HG2.out hg5); have HA5:=Lib.hid (And.intro h1 (And.intro h2' (And.intro hc hlo3))); have HR5:Hid (Blk w5 r 25 #[.int .i64 0,.int .i64 0,.int .i64 0,.slice none 0 0]):=Lib.hid (HR2.out.gw hg5 (by omega)); clear hge hrep hm5 hg5 h1 h2' hc hlo3 h2; have r0:=HR5.out.cell 0; have r1:=HR5.out.cell 1; have r2:=HR5.out.cell 2; have r3:=HR5.out.cell 3; have f0:=HR5.out.frozen 0; have f1:=HR5.out.frozen 1; have f2:=HR5.out.frozen 2; have f3:=HR5.out.frozen 3; simp only [List.getElem?_toArray,List.getElem?_cons_zero,List.getElem?_cons_succ] at r0 r1 r2 r3)
     have ha5:=HA5.out
     have hf:=HF.out
     subst hf
     exact bodyPost_ret (v:=.agg #[.int .i64 t.k,.int .i64 t.n,.int .i64 t.m,.slice A' t.kids.length c']) (by simp [results,Tryd.results100,go_sem,r0,r1,r2,r3]) rfl (SPost.fin hle.out HGR.out HGE.out (kid_of HRP.out HR2.out.lt) (by omega) HM5.out HG5.out (by omega) (by omega) ha5.2.2.1 (by have:=ha5.2.2.2; have:=HEI.out; omega) _ _ _ _)
    ·have hd3:decide (x < 5) = false:=by simpa using hx5
     go_wp2_with fail
     go_meet
     rfl
   ·have hd2:decide (8 < l) = false:=by simpa using hl8
    go_wp2_with fail
    go_meet
    rfl
  ·have hd1:decide (0 < ei) = false:=by simpa using he0
   go_wp2_with fail
   go_meet
   rfl
 case rest =>
 have hwc:V = wc:=hcut
 subst hwc
 rename_i hK
 refine hK _ _ ?_
 clear hK
 go_step
 obtain ⟨cn,hcn⟩:∃ b,b = m.con:=⟨_,rfl⟩
 have h8:=HM2.out.cell 8
 have h4:=HM2.out.cell 4
 simp only [Par.cells,List.getElem?_toArray,List.getElem?_cons_zero,List.getElem?_cons_succ] at h8 h4
 rw [← hcn] at h8
 obtain ⟨pn,hpn⟩:∃ z,z = m.p.n:=⟨_,rfl⟩
 rw [← hpn] at h4
 have HPN:=Lib.hid hpn
 have HCN:=Lib.hid hcn
 clear hpn hcn
 go_cut [] from 32 to 60 (fun wv=>V = wv)
 case first =>
  cases cn with
  | false =>
   go_wp2_with fail
   go_meet
   rfl
  | true =>
   by_cases hx12:12≤x
   ·have hd12:decide (12≤x) = true:=by simpa using hx12
    have hpn1:1≤pn:=by rw [HPN.out]; exact HX2.out.con HCN.out.symm
    have hpn3:pn≤3:=by rw [HPN.out,← HX2.out.sc]; exact HX2.out.ok.c3
    have HPC:Hid (pn = s.ch):=Lib.hid (by rw [HPN.out,HX2.out.sc])
    by_cases hx120:x = 12
    ·subst hx120
     go_wp2_with (go_at_call 90; refine (call_is m s Dp 1 HE1.out (a + 1) l 23 2 _ (by decide) (by decide) (by decide) HM2.out HX2.out (by omega) (by omega) hl1 (small (by omega) (by omega)) (by have:=HC.out; omega)).mono ?_; rintro e w5 ⟨f,u,ts,A',c',a',rfl,hu,htl,hag,hrep,hm5,hg5,h1,h2,hc⟩; have HU:=Lib.hid hu; have HTL:=Lib.hid htl; have HAG:=Lib.hid hag; have HRP:=Lib.hid hrep; have HM5:=Lib.hid hm5; have HG5:=Lib.hid (gw_trans HG2.out hg5); have HA5:=Lib.hid (And.intro h1 (And.intro h2 hc)); have HR5:Hid (Blk w5 r 25 #[.int .i64 0,.int .i64 0,.int .i64 0,.slice none 0 0]):=Lib.hid (HR2.out.gw hg5 (by omega)); clear hu htl hag hrep hm5 hg5 h1 h2 hc; have r0:=HR5.out.cell 0; have r1:=HR5.out.cell 1; have r2:=HR5.out.cell 2; have r3:=HR5.out.cell 3; have f0:=HR5.out.frozen 0; have f1:=HR5.out.frozen 1; have f2:=HR5.out.frozen 2; have f3:=HR5.out.frozen 3; simp only [List.getElem?_toArray,List.getElem?_cons_zero,List.getElem?_cons_succ] at r0 r1 r2 r3)
     have ha5:=HA5.out
     have hcc:=HC.out
     have hcs:=HCS.out
     have hei:=HEI.out
     have hfh:FHd u:=HX2.out.ok.ff u (List.mem_of_getElem? HU.out)
     refine bodyPost_ret (v:=.agg #[.int .i64 23,.int .i64 (f:Int),.int .i64 0,.slice A' ts.length c']) (by simp [results,Tryd.results100,go_sem,r0,r1,r2,r3]) rfl (SPost.fin (t:=⟨23,f,0,ts⟩) hle.out HGR.out (GS.spawn HU.out HTL.out (by have:=hfh.kl; omega) (by have:=hfh.n2; omega) HX2.out.ok.f3 HAG.out) (kid_of HRP.out HR2.out.lt) (by omega) (by rw [sizeK]; exact HM5.out) HG5.out (by omega) (by rw [sizeK]; omega) (by rw [sizeK]; omega) (by rw [sizeK]; omega) _ _ _ _)
    by_cases hx130:x = 13
    ·subst hx130
     go_wp2_with (go_at_call 90; refine (call_is m s Dp 0 HE0.out (a + 1) l 23 1 _ (by decide) (by decide) (by decide) HM2.out HX2.out (by omega) (by omega) hl1 (small (by omega) (by omega)) (by have:=HC.out; omega)).mono ?_; rintro e w5 ⟨f,u,ts,A',c',a',rfl,hu,htl,hag,hrep,hm5,hg5,h1,h2,hc⟩; have HU:=Lib.hid hu; have HTL:=Lib.hid htl; have HAG:=Lib.hid hag; have HRP:=Lib.hid hrep; have HM5:=Lib.hid hm5; have HG5:=Lib.hid (gw_trans HG2.out hg5); have HA5:=Lib.hid (And.intro h1 (And.intro h2 hc)); have HR5:Hid (Blk w5 r 25 #[.int .i64 0,.int .i64 0,.int .i64 0,.slice none 0 0]):=Lib.hid (HR2.out.gw hg5 (by omega)); clear hu htl hag hrep hm5 hg5 h1 h2 hc; have r0:=HR5.out.cell 0; have r1:=HR5.out.cell 1; have r2:=HR5.out.cell 2; have r3:=HR5.out.cell 3; have f0:=HR5.out.frozen 0; have f1:=HR5.out.frozen 1; have f2:=HR5.out.frozen 2; have f3:=HR5.out.frozen 3; simp only [List.getElem?_toArray,List.getElem?_cons_zero,List.getElem?_cons_succ] at r0 r1 r2 r3)
     have ha5:=HA5.out
     have hcc:=HC.out
     have hcs:=HCS.out
     have hei:=HEI.out
     have hfh:FHd u:=HX2.out.ok.ff u (List.mem_of_getElem? HU.out)
     refine bodyPost_ret (v:=.agg #[.int .i64 23,.int .i64 (f:Int),.int .i64 0,.slice A' ts.length c']) (by simp [results,Tryd.results100,go_sem,r0,r1,r2,r3]) rfl (SPost.fin (t:=⟨23,f,0,ts⟩) hle.out HGR.out (GS.spawn HU.out HTL.out (by have:=hfh.kl; omega) (by have:=hfh.n2; omega) HX2.out.ok.f3 HAG.out) (kid_of HRP.out HR2.out.lt) (by omega) (by rw [sizeK]; exact HM5.out) HG5.out (by omega) (by rw [sizeK]; omega) (by rw [sizeK]; omega) (by rw [sizeK]; omega) _ _ _ _)
    obtain ⟨q,HQ,hqn⟩:=zletter (L:=m.L) (a + 1) pn (by omega)
    go_wp2_with (first
     | (go_at_call 86; refine (draw_is m s (Dp + 1) (a + 1) l pn _ HM2.out HX2.out (by omega) (by omega)).mono ?_; rintro e w3 ⟨rfl,hm3,hg3⟩; rw [HQ.out]; have HM3:=Lib.hid hm3; have HG3:=Lib.hid (gw_trans HG2.out hg3); have HX3:=Lib.hid (HX2.out.gw hg3); have HR3:=Lib.hid (HR2.out.gw hg3 (by omega)); clear hm3 hg3)
     | (go_at_call 66; refine (HE2.out (a + 1 + 1) l 0 _ 2 (by decide) (by decide) HM3.out HX3.out (by omega) (by omega) hl1 (by decide)).mono ?_; rintro e w4 ⟨t,A',c',a',rfl,hge,hrep,hm4,hg4,h1,h2,hc⟩; have HGE:=Lib.hid hge; have HRP:=Lib.hid hrep; have HM4:=Lib.hid hm4; have HG4:=Lib.hid (gw_trans HG3.out hg4); have ha4:(a + 1 + 1)≤a'∧a'≤(a + 1 + 1) + 6 * size t:=⟨h1,by omega⟩; have HR4:=Lib.hid ((HR3.out).gw hg4 (by omega)); have hsz:size t≤15:=(by have:=HC.out; omega); have HB4:=Lib.hid (HR3.out).lt; clear hge hrep hm4 hg4 h1 h2 hc)
     | (go_at_call 88; refine (mnode_is m a' (l - (size t:Int)) (22) ((q:Int)) _ (some ⟨w4.heap.size,0,none⟩) 1 1 (HM4.out.alloc _) (by omega) (by omega)).mono ?_; rintro e w5 ⟨rfl,hm5,hg5⟩; have HM5:=Lib.hid hm5; have HG5:=Lib.hid hg5; have HR5:Hid (Blk w5 r 25 #[.int .i64 0,.int .i64 0,.int .i64 0,.slice none 0 0]):=Lib.hid ((Blk.alloc HR4.out _).gw hg5 (by omega)); clear hm5 hg5; have r0:=HR5.out.cell 0; have r1:=HR5.out.cell 1; have r2:=HR5.out.cell 2; have r3:=HR5.out.cell 3; have f0:=HR5.out.frozen 0; have f1:=HR5.out.frozen 1; have f2:=HR5.out.frozen 2; have f3:=HR5.out.frozen 3; simp only [List.getElem?_toArray,List.getElem?_cons_zero,List.getElem?_cons_succ] at r0 r1 r2 r3))
    have hcs:=HCS.out
    have hei:=HEI.out
    exact bodyPost_ret (v:=.agg #[.int .i64 (22),.int .i64 ((q:Int)),.int .i64 0,.slice (some ⟨w4.heap.size,0,none⟩) 1 1]) (by simp [results,Tryd.results100,go_sem,r0,r1,r2,r3]) rfl (SPost.fin (t:=⟨22,(q:Int),0,[t]⟩) (a':=a') hle.out HGR.out (GS.send (by omega) (by rw [← HPC.out]; omega) (by rw [← HPC.out]; omega) HGE.out) ((Kid.one HR4.out.lt (kid_of HRP.out HB4.out) (small (by omega) (by omega)) (small (by omega) (by omega))).gw HG5.out (by omega)) (by omega) (by rw [size_one]; exact (show l - ((1 + size t:Nat):Int) = l - (size t:Int) - 1 by push_cast; omega) ▸ HM5.out) (gw_trans (gw_alloc HG4.out _) HG5.out) (by omega) (by rw [size_one]; omega) (by rw [size_one]; omega) (by rw [size_one]; push_cast; omega) _ _ _ _)
   ·have hd12:decide (12≤x) = false:=by simpa using hx12
    go_wp2_with fail
    go_meet
    rfl
 case rest =>
 have hwc:V = wc:=hcut
 subst hwc
 clear h8 h4
 rename_i hK
 refine hK _ _ ?_
 clear hK
 go_step
 go_cut [6,7,8,9,10,11,12] from 61 to 137 (fun s6 s7 s8 s9 s10 s11 s12 wv=>∃ (V3:World) (a3:Nat),V3 = wv∧Hid (a + 1≤a3∧a3≤a + 4∧Mk m a3 l V3∧V.grownBy V3 (some m.g)))
 case first =>
  have hx16':x < 16:=by omega
  by_cases hx5:x < 5
  ·have hxd:x≠5∧x≠6:=by omega
   obtain rfl | rfl | rfl | rfl | rfl:x = 0∨x = 1∨x = 2∨x = 3∨x = 4:=by omega
   all_goals
    go_wp2_with fail
    go_meet
    exact ⟨_,a + 1,rfl,by omega,by omega,HM2.out,gw_refl _ _⟩
  obtain rfl | rfl | rfl | rfl | rfl | rfl | rfl | rfl | rfl | rfl | rfl:x = 5∨x = 6∨x = 7∨x = 8∨x = 9∨x = 10∨x = 11∨x = 12∨x = 13∨x = 14∨x = 15:=by omega
  ·-- put
   go_upto_region 14 with (go_at_call 89; refine (pick_is m s (Dp + 1) (a + 1) l 2 _ HM2.out HX2.out (by omega)).mono ?_; rintro e w3 ⟨v,rfl,hv,hm3,hg3⟩; have HM3:=Lib.hid hm3; have HGV3:=Lib.hid hg3; have HG3:=Lib.hid (gw_trans HG2.out hg3); have HX3:=Lib.hid (HX2.out.gw hg3); have HR3:=Lib.hid (HR2.out.gw hg3 (by omega)); clear hm3 hg3)
   rcases hv with rfl | ⟨j,u0,rfl,hu,huk⟩
   ·go_wp2_with fail
    go_meet
    exact ⟨_,a + 1 + 1,rfl,by omega,by omega,HM3.out,HGV3.out⟩
   ·have hj0:(0:Int)≤(j:Int):=by omega
    have hj6:j < 6:=by have:=(List.getElem?_eq_some_iff.1 hu).1; have:=HVL.out; omega
    have HU:=Lib.hid hu
    have HUK:=Lib.hid huk
    clear hu huk
    go_upto_region 16 with (go_at_call 66; refine (HE1.out (a + 1 + 1) l 0 _ 1 (by decide) (by decide) HM3.out HX3.out (by omega) (by omega) hl1 (by decide)).mono ?_; rintro e w5 ⟨u,A2,c2,a7,rfl,hge,hrep,hm5,hg5,h1,h2,hc⟩; have HGE:=Lib.hid hge; have HRP:=Lib.hid hrep; have HMq:=Lib.hid hm5; have HGq:=Lib.hid (gw_trans HG3.out hg5); have HXq:=Lib.hid (HX3.out.gw hg5); have ha5:(a + 1 + 1)≤a7∧a7≤(a + 1 + 1) + 6 * size u:=⟨h1,by omega⟩; have hsu:size u≤3:=(by have:=HC.out; omega); have HRq:=Lib.hid (HR3.out.gw hg5 (by omega)); have HLT:=Lib.hid HR3.out.lt; clear hge hrep hm5 hg5 h1 h2 hc)
    obtain ⟨W8,hW8⟩:∃ W,W = w5.alloc (.cells #[.int .i64 u.k,.int .i64 u.n,.int .i64 u.m,.slice A2 u.kids.length c2] 25):=⟨_,rfl⟩
    obtain ⟨b9,hba⟩:∃ b,b = w5.heap.size:=⟨_,rfl⟩
    have HM8:Hid (Mk m a7 (l - (size u:Int)) W8):=Lib.hid (by rw [hW8]; exact HMq.out.alloc _)
    have HG8:Hid (w.grownBy W8 (some m.g)):=Lib.hid (by rw [hW8]; exact gw_alloc HGq.out _)
    have HX8:Hid (Cx m s (Dp + 1) W8):=Lib.hid (by rw [hW8]; exact HXq.out.below (below_new _ _))
    have HR8:Hid (Blk W8 r 25 #[.int .i64 0,.int .i64 0,.int .i64 0,.slice none 0 0]):=Lib.hid (by rw [hW8]; exact HRq.out.alloc _)
    have HK8:Hid (Kid r W8 2 u A2 c2):=Lib.hid (by rw [hW8]; exact Kid.gw (g:=m.g) (kid_of HRP.out HLT.out) (gwb (below_new _ _)) (by omega))
    have HBB:Hid (Blk W8 b9 25 #[.int .i64 u.k,.int .i64 u.n,.int .i64 u.m,.slice A2 u.kids.length c2]):=Lib.hid (by rw [hW8,hba]; exact Blk.new _ _ _)
    have HNB:Hid (b9≠m.g∧b9≠r):=Lib.hid (by have:=HMq.out.lt; have:=HRq.out.lt; omega)
    rw [← hW8,← hba]
    clear hW8 hba HMq HGq HXq HRq HRP HLT
    have hbc:W8.grownBy W8.drew (some m.g):=gw_drew (gw_refl _ _)
    have HMD:Hid (Mk m a7 (l - (size u:Int)) W8.drew):=Lib.hid HM8.out.drew
    have HC4:Hid (∀ W,W8.grownBy W (some m.g)→W.cell? ⟨b9,0,none⟩ = some (.int .i64 u.k)∧W.cell? ⟨b9,1,none⟩ = some (.int .i64 u.n)∧W.cell? ⟨b9,2,none⟩ = some (.int .i64 u.m)∧W.cell? ⟨b9,3,none⟩ = some (.slice A2 u.kids.length c2)):=Lib.hid fun W hg=>cells4 (HBB.out.gw hg HNB.out.1)
    have HC5:Hid (∀ W v0 v1 v2 v3,W8.grownBy W (some m.g)→((((W.setCell ⟨r,0,none⟩ v0).setCell ⟨r,1,none⟩ v1).setCell ⟨r,2,none⟩ v2).setCell ⟨r,3,none⟩ v3).cell? ⟨b9,0,none⟩ = some (.int .i64 u.k)∧((((W.setCell ⟨r,0,none⟩ v0).setCell ⟨r,1,none⟩ v1).setCell ⟨r,2,none⟩ v2).setCell ⟨r,3,none⟩ v3).cell? ⟨b9,1,none⟩ = some (.int .i64 u.n)∧((((W.setCell ⟨r,0,none⟩ v0).setCell ⟨r,1,none⟩ v1).setCell ⟨r,2,none⟩ v2).setCell ⟨r,3,none⟩ v3).cell? ⟨b9,2,none⟩ = some (.int .i64 u.m)∧((((W.setCell ⟨r,0,none⟩ v0).setCell ⟨r,1,none⟩ v1).setCell ⟨r,2,none⟩ v2).setCell ⟨r,3,none⟩ v3).cell? ⟨b9,3,none⟩ = some (.slice A2 u.kids.length c2)):=Lib.hid fun W v0 v1 v2 v3 hg=>cells4 ((HBB.out.gw hg HNB.out.1).gw (gw4 W r v0 v1 v2 v3).1 HNB.out.2)
    have HCE:Hid (∀ W,W8.grownBy W (some m.g)→Mk m a7 (l - (size u:Int)) W→Calls Tryd.prog 66 #[.pointer (some ⟨m.g,0,none⟩),.int .i64 0,.int .i64 2] W (EPost 0 m s 0 2 a7 (l - (size u:Int)) W)):=Lib.hid fun W hg hm=>HE2.out a7 _ 0 W 2 (by decide) (by decide) hm (HX8.out.gw hg) (by omega) (by omega) (by omega) (by decide)
    refine wp_region_noPanic ?_
    go_region_held2 (fun W=>W.cell? ⟨b9,0,none⟩ = some (.int .i64 u.k)∧W.cell? ⟨b9,1,none⟩ = some (.int .i64 u.n)∧W.cell? ⟨b9,2,none⟩ = some (.int .i64 u.m)∧W.cell? ⟨b9,3,none⟩ = some (.slice A2 u.kids.length c2))
     (first | exact HC4.out _ hbc | exact HC4.out _ (gw_alloc hbc _) | exact HC5.out _ _ _ _ _ hbc)
     (first
     | (go_at_call 66; (with_reducible refine (HCE.out _ hbc HMD.out).mono ?_); rintro e w10 ⟨x3,A3,c3,a10,rfl,hge,hrep,hm10,hg10,h1,h2,hc⟩; have hbc0:=hbc; clear hbc; have hbc:=gw_trans hbc0 hg10; have HG10:=Lib.hid hbc; have HGE2:=Lib.hid hge; have HM10:=Lib.hid hm10; have HRP2:Hid (Kid r w10 3 x3 A3 c3):=Lib.hid (kid_of hrep HR8.out.lt); have ha10:a7≤a10∧a10≤a7 + 6 * size x3:=⟨h1,by omega⟩; have hsx:size x3≤7:=(by have:=HC.out; omega); have HR10:=Lib.hid (HR8.out.gw hbc (by omega)); clear hge hrep hm10 hg10 h1 h2 hc hbc0)
     | (go_at_call 88; (with_reducible refine (mnode_is m a10 (l - (size u:Int) - (size x3:Int)) 15 (j:Int) _ (some ⟨w10.heap.size,0,none⟩) 2 2 (HM10.out.alloc _) (by omega) (by omega)).mono ?_); rintro e w9 ⟨rfl,hm9,hg9⟩; have hbc0:=hbc; clear hbc; have hbc:=gw_trans (gw_alloc hbc0 _) hg9; have HM9:=Lib.hid hm9; have HG9:=Lib.hid hg9; have HR9:Hid (Blk w9 r 25 #[.int .i64 0,.int .i64 0,.int .i64 0,.slice none 0 0]):=Lib.hid ((Blk.alloc HR10.out _).gw hg9 (by omega)); clear hm9 hg9 hbc0; have r0:=HR9.out.cell 0; have r1:=HR9.out.cell 1; have r2:=HR9.out.cell 2; have r3:=HR9.out.cell 3; have f0:=HR9.out.frozen 0; have f1:=HR9.out.frozen 1; have f2:=HR9.out.frozen 2; have f3:=HR9.out.frozen 3; simp only [List.getElem?_toArray,List.getElem?_cons_zero,List.getElem?_cons_succ] at r0 r1 r2 r3))
    all_goals
     refine NoPanic.normal ?_
     go_wp2_with fail
     have hcs:=HCS.out
     have hei:=HEI.out
     exact bodyPost_ret (v:=.agg #[.int .i64 15,.int .i64 (j:Int),.int .i64 0,.slice (some ⟨w10.heap.size,0,none⟩) 2 2]) (by simp [results,Tryd.results100,go_sem,r0,r1,r2,r3]) rfl (SPost.fin (t:=⟨15,j,0,[u,x3]⟩) (a':=a10) hle.out HGR.out (GS.put HU.out HUK.out HGE.out HGE2.out HVL.out) ((Kid.two HR10.out.lt ((HK8.out.deep (D':=3) (by omega)).gw HG10.out (by omega)) HRP2.out (small (by omega) (by omega)) (small (by omega) (by omega))).gw HG9.out (by omega)) (by omega) (by rw [size_two]; exact (show l - ((1 + (size u + size x3):Nat):Int) = l - (size u:Int) - (size x3:Int) - 1 by push_cast; omega) ▸ HM9.out) (gw_trans (gw_alloc (gw_trans HG8.out HG10.out) _) HG9.out) (by omega) (by rw [size_two]; omega) (by rw [size_two]; omega) (by rw [size_two]; push_cast; omega) _ _ _ _)
  ·-- fill
   obtain ⟨kq,HKQ,hkq⟩:=zletter (L:=m.L) (a + 1) 2 (by omega)
   have hkq2:(kq:Int) = 0∨(kq:Int) = 1:=by omega
   go_upto_region 19 with (go_at_call 86; refine (draw_is m s (Dp + 1) (a + 1) l 2 _ HM2.out HX2.out (by omega) (by omega)).mono ?_; rintro e w2 ⟨rfl,hm2,hg2⟩; rw [HKQ.out]; have HMf:=Lib.hid hm2; have HGf:=Lib.hid hg2; have HXf:=Lib.hid (HX2.out.gw hg2); have HRf:=Lib.hid (HR2.out.gw hg2 (by omega)); clear hm2 hg2)
   go_upto_region 20 with (go_at_call 87; refine (field_is m s Dp (a + 1 + 1) l (kq:Int) _ HMf.out HXf.out (by omega)).mono ?_; rintro e w3 ⟨v,i,a3,rfl,hv,h1,h2,hm3,hg3⟩; have HM3:=Lib.hid hm3; have HGV3:=Lib.hid (gw_trans HGf.out hg3); have HG3:=Lib.hid (gw_trans HG2.out (gw_trans HGf.out hg3)); have HX3:=Lib.hid (HXf.out.gw hg3); have HR3:=Lib.hid (HRf.out.gw hg3 (by omega)); clear hm3 hg3)
   rcases hv with rfl | ⟨j,q,t0,y,rfl,rfl,hu,huk,hy,hyk,hq2⟩
   ·go_wp2_with fail
    go_meet
    exact ⟨_,a3,rfl,by omega,by omega,HM3.out,HGV3.out⟩
   ·have hj0:(0:Int)≤(j:Int):=by omega
    have hj6:j < 6:=by have:=(List.getElem?_eq_some_iff.1 hu).1; have:=HVL.out; omega
    have HU:=Lib.hid hu
    have HUK:=Lib.hid huk
    clear hu huk
    have HY:=Lib.hid hy
    have HYK:=Lib.hid hyk
    clear hy hyk
    go_wp2_with (first
     | (go_at_call 66; refine (HE2.out (a3) l (kq:Int) _ 2 (by decide) (by decide) HM3.out HX3.out (by omega) (by omega) hl1 hkq2).mono ?_; rintro e w4 ⟨t,A',c',a',rfl,hge,hrep,hm4,hg4,h1,h2,hc⟩; have HGE:=Lib.hid hge; have HRP:=Lib.hid hrep; have HM4:=Lib.hid hm4; have HG4:=Lib.hid (gw_trans HG3.out hg4); have ha4:(a3)≤a'∧a'≤(a3) + 6 * size t:=⟨h1,by omega⟩; have HR4:=Lib.hid ((HR3.out).gw hg4 (by omega)); have hsz:size t≤15:=(by have:=HC.out; omega); have HB4:=Lib.hid (HR3.out).lt; clear hge hrep hm4 hg4 h1 h2 hc)
     | (go_at_call 88; refine (mnode_is m a' (l - (size t:Int)) (16) ((j:Int)) _ (some ⟨w4.heap.size,0,none⟩) 1 1 (HM4.out.alloc _) (by omega) (by omega)).mono ?_; rintro e w5 ⟨rfl,hm5,hg5⟩; have HM5:=Lib.hid hm5; have HG5:=Lib.hid hg5; have HR5:Hid (Blk w5 r 25 #[.int .i64 0,.int .i64 0,.int .i64 0,.slice none 0 0]):=Lib.hid ((Blk.alloc HR4.out _).gw hg5 (by omega)); clear hm5 hg5; have r0:=HR5.out.cell 0; have r1:=HR5.out.cell 1; have r2:=HR5.out.cell 2; have r3:=HR5.out.cell 3; have f0:=HR5.out.frozen 0; have f1:=HR5.out.frozen 1; have f2:=HR5.out.frozen 2; have f3:=HR5.out.frozen 3; simp only [List.getElem?_toArray,List.getElem?_cons_zero,List.getElem?_cons_succ] at r0 r1 r2 r3; have hrl:=HR5.out.lt))
    have hcs:=HCS.out
    have hei:=HEI.out
    refine bodyPost_ret (v:=.agg #[.int .i64 (16),.int .i64 ((j:Int)),.int .i64 ((q:Int)),.slice (some ⟨w4.heap.size,0,none⟩) 1 1]) (by simp [results,Tryd.results100,go_sem,r0,r1,r2,r3,hrl]) rfl ?_
    exact SPost.alloc (SPost.fin (t:=⟨16,(j:Int),(q:Int),[t]⟩) (a':=a') hle.out HGR.out (GS.fill HU.out HUK.out HY.out HYK.out HGE.out HVL.out hq2) ((Kid.oneM HR4.out.lt (kid_of HRP.out HB4.out) (small (by omega) (by omega)) (small (by omega) (by omega)) (small (by omega) (by omega))).gw HG5.out (by omega)) (by omega) (by rw [size_one]; exact (show l - ((1 + size t:Nat):Int) = l - (size t:Int) - 1 by push_cast; omega) ▸ HM5.out) (gw_trans (gw_alloc HG4.out _) HG5.out) (by omega) (by rw [size_one]; omega) (by rw [size_one]; omega) (by rw [size_one]; push_cast; omega) _ _ _ _) _
  ·-- return
   go_wp2_with (first
    | (go_at_call 66; refine (HE3.out (a + 1) l 0 _ 3 (by decide) (by decide) HM2.out HX2.out (by omega) (by omega) hl1 (by decide)).mono ?_; rintro e w4 ⟨t,A',c',a',rfl,hge,hrep,hm4,hg4,h1,h2,hc⟩; have HGE:=Lib.hid hge; have HRP:=Lib.hid hrep; have HM4:=Lib.hid hm4; have HG4:=Lib.hid (gw_trans HG2.out hg4); have ha4:(a + 1)≤a'∧a'≤(a + 1) + 6 * size t:=⟨h1,by omega⟩; have HR4:=Lib.hid ((HR2.out).gw hg4 (by omega)); have hsz:size t≤15:=(by have:=HC.out; omega); have HB4:=Lib.hid (HR2.out).lt; clear hge hrep hm4 hg4 h1 h2 hc)
    | (go_at_call 88; refine (mnode_is m a' (l - (size t:Int)) (19) (0) _ (some ⟨w4.heap.size,0,none⟩) 1 1 (HM4.out.alloc _) (by omega) (by omega)).mono ?_; rintro e w5 ⟨rfl,hm5,hg5⟩; have HM5:=Lib.hid hm5; have HG5:=Lib.hid hg5; have HR5:Hid (Blk w5 r 25 #[.int .i64 0,.int .i64 0,.int .i64 0,.slice none 0 0]):=Lib.hid ((Blk.alloc HR4.out _).gw hg5 (by omega)); clear hm5 hg5; have r0:=HR5.out.cell 0; have r1:=HR5.out.cell 1; have r2:=HR5.out.cell 2; have r3:=HR5.out.cell 3; have f0:=HR5.out.frozen 0; have f1:=HR5.out.frozen 1; have f2:=HR5.out.frozen 2; have f3:=HR5.out.frozen 3; simp only [List.getElem?_toArray,List.getElem?_cons_zero,List.getElem?_cons_succ] at r0 r1 r2 r3))
   have hcs:=HCS.out
   have hei:=HEI.out
   exact bodyPost_ret (v:=.agg #[.int .i64 (19),.int .i64 (0),.int .i64 0,.slice (some ⟨w4.heap.size,0,none⟩) 1 1]) (by simp [results,Tryd.results100,go_sem,r0,r1,r2,r3]) rfl (SPost.fin (t:=⟨19,0,0,[t]⟩) (a':=a') hle.out HGR.out (GS.word (.inl rfl) HGE.out) ((Kid.one HR4.out.lt (kid_of HRP.out HB4.out) (small (by omega) (by omega)) (small (by omega) (by omega))).gw HG5.out (by omega)) (by omega) (by rw [size_one]; exact (show l - ((1 + size t:Nat):Int) = l - (size t:Int) - 1 by push_cast; omega) ▸ HM5.out) (gw_trans (gw_alloc HG4.out _) HG5.out) (by omega) (by rw [size_one]; omega) (by rw [size_one]; omega) (by rw [size_one]; push_cast; omega) _ _ _ _)
  ·-- throw
   go_wp2_with (first
    | (go_at_call 66; refine (HE1.out (a + 1) l 0 _ 1 (by decide) (by decide) HM2.out HX2.out (by omega) (by omega) hl1 (by decide)).mono ?_; rintro e w4 ⟨t,A',c',a',rfl,hge,hrep,hm4,hg4,h1,h2,hc⟩; have HGE:=Lib.hid hge; have HRP:=Lib.hid hrep; have HM4:=Lib.hid hm4; have HG4:=Lib.hid (gw_trans HG2.out hg4); have ha4:(a + 1)≤a'∧a'≤(a + 1) + 6 * size t:=⟨h1,by omega⟩; have HR4:=Lib.hid ((HR2.out).gw hg4 (by omega)); have hsz:size t≤15:=(by have:=HC.out; omega); have HB4:=Lib.hid (HR2.out).lt; clear hge hrep hm4 hg4 h1 h2 hc)
    | (go_at_call 88; refine (mnode_is m a' (l - (size t:Int)) (20) (0) _ (some ⟨w4.heap.size,0,none⟩) 1 1 (HM4.out.alloc _) (by omega) (by omega)).mono ?_; rintro e w5 ⟨rfl,hm5,hg5⟩; have HM5:=Lib.hid hm5; have HG5:=Lib.hid hg5; have HR5:Hid (Blk w5 r 25 #[.int .i64 0,.int .i64 0,.int .i64 0,.slice none 0 0]):=Lib.hid ((Blk.alloc HR4.out _).gw hg5 (by omega)); clear hm5 hg5; have r0:=HR5.out.cell 0; have r1:=HR5.out.cell 1; have r2:=HR5.out.cell 2; have r3:=HR5.out.cell 3; have f0:=HR5.out.frozen 0; have f1:=HR5.out.frozen 1; have f2:=HR5.out.frozen 2; have f3:=HR5.out.frozen 3; simp only [List.getElem?_toArray,List.getElem?_cons_zero,List.getElem?_cons_succ] at r0 r1 r2 r3))
   have hcs:=HCS.out
   have hei:=HEI.out
   exact bodyPost_ret (v:=.agg #[.int .i64 (20),.int .i64 (0),.int .i64 0,.slice (some ⟨w4.heap.size,0,none⟩) 1 1]) (by simp [results,Tryd.results100,go_sem,r0,r1,r2,r3]) rfl (SPost.fin (t:=⟨20,0,0,[t]⟩) (a':=a') hle.out HGR.out (GS.word (.inr (.inl rfl)) HGE.out) ((Kid.one HR4.out.lt (kid_of HRP.out HB4.out) (small (by omega) (by omega)) (small (by omega) (by omega))).gw HG5.out (by omega)) (by omega) (by rw [size_one]; exact (show l - ((1 + size t:Nat):Int) = l - (size t:Int) - 1 by push_cast; omega) ▸ HM5.out) (gw_trans (gw_alloc HG4.out _) HG5.out) (by omega) (by rw [size_one]; omega) (by rw [size_one]; omega) (by rw [size_one]; push_cast; omega) _ _ _ _)
  ·-- set
   go_upto_region 30 with (go_at_call 89; refine (pick_is m s (Dp + 1) (a + 1) l 1 _ HM2.out HX2.out (by omega)).mono ?_; rintro e w3 ⟨v,rfl,hv,hm3,hg3⟩; have HM3:=Lib.hid hm3; have HGV3:=Lib.hid hg3; have HG3:=Lib.hid (gw_trans HG2.out hg3); have HX3:=Lib.hid (HX2.out.gw hg3); have HR3:=Lib.hid (HR2.out.gw hg3 (by omega)); clear hm3 hg3)
   rcases hv with rfl | ⟨j,u0,rfl,hu,huk⟩
   ·go_wp2_with fail
    go_meet
    exact ⟨_,a + 1 + 1,rfl,by omega,by omega,HM3.out,HGV3.out⟩
   ·have hj0:(0:Int)≤(j:Int):=by omega
    have hj6:j < 6:=by have:=(List.getElem?_eq_some_iff.1 hu).1; have:=HVL.out; omega
    have HU:=Lib.hid hu
    have HUK:=Lib.hid huk
    clear hu huk
    go_wp2_with (first
     | (go_at_call 66; refine (HE3.out (a + 1 + 1) l 1 _ 3 (by decide) (by decide) HM3.out HX3.out (by omega) (by omega) hl1 (by decide)).mono ?_; rintro e w4 ⟨t,A',c',a',rfl,hge,hrep,hm4,hg4,h1,h2,hc⟩; have HGE:=Lib.hid hge; have HRP:=Lib.hid hrep; have HM4:=Lib.hid hm4; have HG4:=Lib.hid (gw_trans HG3.out hg4); have ha4:(a + 1 + 1)≤a'∧a'≤(a + 1 + 1) + 6 * size t:=⟨h1,by omega⟩; have HR4:=Lib.hid ((HR3.out).gw hg4 (by omega)); have hsz:size t≤15:=(by have:=HC.out; omega); have HB4:=Lib.hid (HR3.out).lt; clear hge hrep hm4 hg4 h1 h2 hc)
     | (go_at_call 88; refine (mnode_is m a' (l - (size t:Int)) (14) ((j:Int)) _ (some ⟨w4.heap.size,0,none⟩) 1 1 (HM4.out.alloc _) (by omega) (by omega)).mono ?_; rintro e w5 ⟨rfl,hm5,hg5⟩; have HM5:=Lib.hid hm5; have HG5:=Lib.hid hg5; have HR5:Hid (Blk w5 r 25 #[.int .i64 0,.int .i64 0,.int .i64 0,.slice none 0 0]):=Lib.hid ((Blk.alloc HR4.out _).gw hg5 (by omega)); clear hm5 hg5; have r0:=HR5.out.cell 0; have r1:=HR5.out.cell 1; have r2:=HR5.out.cell 2; have r3:=HR5.out.cell 3; have f0:=HR5.out.frozen 0; have f1:=HR5.out.frozen 1; have f2:=HR5.out.frozen 2; have f3:=HR5.out.frozen 3; simp only [List.getElem?_toArray,List.getElem?_cons_zero,List.getElem?_cons_succ] at r0 r1 r2 r3))
    have hcs:=HCS.out
    have hei:=HEI.out
    exact bodyPost_ret (v:=.agg #[.int .i64 (14),.int .i64 ((j:Int)),.int .i64 0,.slice (some ⟨w4.heap.size,0,none⟩) 1 1]) (by simp [results,Tryd.results100,go_sem,r0,r1,r2,r3]) rfl (SPost.fin (t:=⟨14,(j:Int),0,[t]⟩) (a':=a') hle.out HGR.out (GS.set HU.out HUK.out (.inr rfl) HGE.out HVL.out) ((Kid.one HR4.out.lt (kid_of HRP.out HB4.out) (small (by omega) (by omega)) (small (by omega) (by omega))).gw HG5.out (by omega)) (by omega) (by rw [size_one]; exact (show l - ((1 + size t:Nat):Int) = l - (size t:Int) - 1 by push_cast; omega) ▸ HM5.out) (gw_trans (gw_alloc HG4.out _) HG5.out) (by omega) (by rw [size_one]; omega) (by rw [size_one]; omega) (by rw [size_one]; push_cast; omega) _ _ _ _)
  ·-- out
   go_wp2_with (first
    | (go_at_call 66; refine (HE3.out (a + 1) l 0 _ 3 (by decide) (by decide) HM2.out HX2.out (by omega) (by omega) hl1 (by decide)).mono ?_; rintro e w4 ⟨t,A',c',a',rfl,hge,hrep,hm4,hg4,h1,h2,hc⟩; have HGE:=Lib.hid hge; have HRP:=Lib.hid hrep; have HM4:=Lib.hid hm4; have HG4:=Lib.hid (gw_trans HG2.out hg4); have ha4:(a + 1)≤a'∧a'≤(a + 1) + 6 * size t:=⟨h1,by omega⟩; have HR4:=Lib.hid ((HR2.out).gw hg4 (by omega)); have hsz:size t≤15:=(by have:=HC.out; omega); have HB4:=Lib.hid (HR2.out).lt; clear hge hrep hm4 hg4 h1 h2 hc)
    | (go_at_call 88; refine (mnode_is m a' (l - (size t:Int)) (24) (0) _ (some ⟨w4.heap.size,0,none⟩) 1 1 (HM4.out.alloc _) (by omega) (by omega)).mono ?_; rintro e w5 ⟨rfl,hm5,hg5⟩; have HM5:=Lib.hid hm5; have HG5:=Lib.hid hg5; have HR5:Hid (Blk w5 r 25 #[.int .i64 0,.int .i64 0,.int .i64 0,.slice none 0 0]):=Lib.hid ((Blk.alloc HR4.out _).gw hg5 (by omega)); clear hm5 hg5; have r0:=HR5.out.cell 0; have r1:=HR5.out.cell 1; have r2:=HR5.out.cell 2; have r3:=HR5.out.cell 3; have f0:=HR5.out.frozen 0; have f1:=HR5.out.frozen 1; have f2:=HR5.out.frozen 2; have f3:=HR5.out.frozen 3; simp only [List.getElem?_toArray,List.getElem?_cons_zero,List.getElem?_cons_succ] at r0 r1 r2 r3))
   have hcs:=HCS.out
   have hei:=HEI.out
   exact bodyPost_ret (v:=.agg #[.int .i64 (24),.int .i64 (0),.int .i64 0,.slice (some ⟨w4.heap.size,0,none⟩) 1 1]) (by simp [results,Tryd.results100,go_sem,r0,r1,r2,r3]) rfl (SPost.fin (t:=⟨24,0,0,[t]⟩) (a':=a') hle.out HGR.out (GS.word (.inr (.inr rfl)) HGE.out) ((Kid.one HR4.out.lt (kid_of HRP.out HB4.out) (small (by omega) (by omega)) (small (by omega) (by omega))).gw HG5.out (by omega)) (by omega) (by rw [size_one]; exact (show l - ((1 + size t:Nat):Int) = l - (size t:Int) - 1 by push_cast; omega) ▸ HM5.out) (gw_trans (gw_alloc HG4.out _) HG5.out) (by omega) (by rw [size_one]; omega) (by rw [size_one]; omega) (by rw [size_one]; push_cast; omega) _ _ _ _)
  ·-- out
   go_wp2_with (first
    | (go_at_call 66; refine (HE3.out (a + 1) l 0 _ 3 (by decide) (by decide) HM2.out HX2.out (by omega) (by omega) hl1 (by decide)).mono ?_; rintro e w4 ⟨t,A',c',a',rfl,hge,hrep,hm4,hg4,h1,h2,hc⟩; have HGE:=Lib.hid hge; have HRP:=Lib.hid hrep; have HM4:=Lib.hid hm4; have HG4:=Lib.hid (gw_trans HG2.out hg4); have ha4:(a + 1)≤a'∧a'≤(a + 1) + 6 * size t:=⟨h1,by omega⟩; have HR4:=Lib.hid ((HR2.out).gw hg4 (by omega)); have hsz:size t≤15:=(by have:=HC.out; omega); have HB4:=Lib.hid (HR2.out).lt; clear hge hrep hm4 hg4 h1 h2 hc)
    | (go_at_call 88; refine (mnode_is m a' (l - (size t:Int)) (24) (0) _ (some ⟨w4.heap.size,0,none⟩) 1 1 (HM4.out.alloc _) (by omega) (by omega)).mono ?_; rintro e w5 ⟨rfl,hm5,hg5⟩; have HM5:=Lib.hid hm5; have HG5:=Lib.hid hg5; have HR5:Hid (Blk w5 r 25 #[.int .i64 0,.int .i64 0,.int .i64 0,.slice none 0 0]):=Lib.hid ((Blk.alloc HR4.out _).gw hg5 (by omega)); clear hm5 hg5; have r0:=HR5.out.cell 0; have r1:=HR5.out.cell 1; have r2:=HR5.out.cell 2; have r3:=HR5.out.cell 3; have f0:=HR5.out.frozen 0; have f1:=HR5.out.frozen 1; have f2:=HR5.out.frozen 2; have f3:=HR5.out.frozen 3; simp only [List.getElem?_toArray,List.getElem?_cons_zero,List.getElem?_cons_succ] at r0 r1 r2 r3))
   have hcs:=HCS.out
   have hei:=HEI.out
   exact bodyPost_ret (v:=.agg #[.int .i64 (24),.int .i64 (0),.int .i64 0,.slice (some ⟨w4.heap.size,0,none⟩) 1 1]) (by simp [results,Tryd.results100,go_sem,r0,r1,r2,r3]) rfl (SPost.fin (t:=⟨24,0,0,[t]⟩) (a':=a') hle.out HGR.out (GS.word (.inr (.inr rfl)) HGE.out) ((Kid.one HR4.out.lt (kid_of HRP.out HB4.out) (small (by omega) (by omega)) (small (by omega) (by omega))).gw HG5.out (by omega)) (by omega) (by rw [size_one]; exact (show l - ((1 + size t:Nat):Int) = l - (size t:Int) - 1 by push_cast; omega) ▸ HM5.out) (gw_trans (gw_alloc HG4.out _) HG5.out) (by omega) (by rw [size_one]; omega) (by rw [size_one]; omega) (by rw [size_one]; push_cast; omega) _ _ _ _)
  ·-- out
   go_wp2_with (first
    | (go_at_call 66; refine (HE3.out (a + 1) l 0 _ 3 (by decide) (by decide) HM2.out HX2.out (by omega) (by omega) hl1 (by decide)).mono ?_; rintro e w4 ⟨t,A',c',a',rfl,hge,hrep,hm4,hg4,h1,h2,hc⟩; have HGE:=Lib.hid hge; have HRP:=Lib.hid hrep; have HM4:=Lib.hid hm4; have HG4:=Lib.hid (gw_trans HG2.out hg4); have ha4:(a + 1)≤a'∧a'≤(a + 1) + 6 * size t:=⟨h1,by omega⟩; have HR4:=Lib.hid ((HR2.out).gw hg4 (by omega)); have hsz:size t≤15:=(by have:=HC.out; omega); have HB4:=Lib.hid (HR2.out).lt; clear hge hrep hm4 hg4 h1 h2 hc)
    | (go_at_call 88; refine (mnode_is m a' (l - (size t:Int)) (24) (0) _ (some ⟨w4.heap.size,0,none⟩) 1 1 (HM4.out.alloc _) (by omega) (by omega)).mono ?_; rintro e w5 ⟨rfl,hm5,hg5⟩; have HM5:=Lib.hid hm5; have HG5:=Lib.hid hg5; have HR5:Hid (Blk w5 r 25 #[.int .i64 0,.int .i64 0,.int .i64 0,.slice none 0 0]):=Lib.hid ((Blk.alloc HR4.out _).gw hg5 (by omega)); clear hm5 hg5; have r0:=HR5.out.cell 0; have r1:=HR5.out.cell 1; have r2:=HR5.out.cell 2; have r3:=HR5.out.cell 3; have f0:=HR5.out.frozen 0; have f1:=HR5.out.frozen 1; have f2:=HR5.out.frozen 2; have f3:=HR5.out.frozen 3; simp only [List.getElem?_toArray,List.getElem?_cons_zero,List.getElem?_cons_succ] at r0 r1 r2 r3))
   have hcs:=HCS.out
   have hei:=HEI.out
   exact bodyPost_ret (v:=.agg #[.int .i64 (24),.int .i64 (0),.int .i64 0,.slice (some ⟨w4.heap.size,0,none⟩) 1 1]) (by simp [results,Tryd.results100,go_sem,r0,r1,r2,r3]) rfl (SPost.fin (t:=⟨24,0,0,[t]⟩) (a':=a') hle.out HGR.out (GS.word (.inr (.inr rfl)) HGE.out) ((Kid.one HR4.out.lt (kid_of HRP.out HB4.out) (small (by omega) (by omega)) (small (by omega) (by omega))).gw HG5.out (by omega)) (by omega) (by rw [size_one]; exact (show l - ((1 + size t:Nat):Int) = l - (size t:Int) - 1 by push_cast; omega) ▸ HM5.out) (gw_trans (gw_alloc HG4.out _) HG5.out) (by omega) (by rw [size_one]; omega) (by rw [size_one]; omega) (by rw [size_one]; push_cast; omega) _ _ _ _)
  ·-- skip
   go_wp2_with (go_at_call 88; refine (mnode_is m (a + 1) l 25 0 _ none 0 0 HM2.out (by omega) (by omega)).mono ?_; rintro e w5 ⟨rfl,hm5,hg5⟩; have HM5:=Lib.hid hm5; have HG5:=Lib.hid hg5; have HR5:Hid (Blk w5 r 25 #[.int .i64 0,.int .i64 0,.int .i64 0,.slice none 0 0]):=Lib.hid (HR2.out.gw hg5 (by omega)); clear hm5 hg5; have r0:=HR5.out.cell 0; have r1:=HR5.out.cell 1; have r2:=HR5.out.cell 2; have r3:=HR5.out.cell 3; have f0:=HR5.out.frozen 0; have f1:=HR5.out.frozen 1; have f2:=HR5.out.frozen 2; have f3:=HR5.out.frozen 3; simp only [List.getElem?_toArray,List.getElem?_cons_zero,List.getElem?_cons_succ] at r0 r1 r2 r3)
   have hcs:=HCS.out
   have hei:=HEI.out
   exact bodyPost_ret (v:=.agg #[.int .i64 25,.int .i64 0,.int .i64 0,.slice none 0 0]) (by simp [results,Tryd.results100,go_sem,r0,r1,r2,r3]) rfl (SPost.fin (t:=⟨25,0,0,[]⟩) (a':=a + 1) (R:=1) hle.out HGR.out (GS.skip s) (kid_leaf (small (by omega) (by omega)) (small (by omega) (by omega))) (by omega) (by rw [size1]; exact HM5.out) (gw_trans HG2.out HG5.out) (by omega) (by rw [size1]; omega) (by rw [size1]; omega) (by rw [size1]; push_cast; omega) _ _ _ _)
  ·go_wp2_with fail
   go_meet
   exact ⟨_,a + 1,rfl,by omega,by omega,HM2.out,gw_refl _ _⟩
  ·go_wp2_with fail
   go_meet
   exact ⟨_,a + 1,rfl,by omega,by omega,HM2.out,gw_refl _ _⟩
 case rest =>
 obtain ⟨V3,a3,hwc,HF⟩:=hcut
 subst hwc
 have HMa:=Lib.hid HF.out.2.2.1
 have HGa:=Lib.hid (gw_trans HG2.out HF.out.2.2.2)
 have HXa:=Lib.hid (HX2.out.gw HF.out.2.2.2)
 have HRa:=Lib.hid (HR2.out.gw HF.out.2.2.2 (by omega))
 have ha3:a + 1≤a3∧a3≤a + 4:=⟨HF.out.1,HF.out.2.1⟩
 clear HF HM2 HX2 HR2 HG2
 go_upto_region 39 with (go_at_call 89; refine (pick_is m s (Dp + 1) a3 l 0 _ HMa.out HXa.out (by omega)).mono ?_; rintro e w3 ⟨v,rfl,hv,hm3,hg3⟩; have HM3:=Lib.hid hm3; have HG3:=Lib.hid (gw_trans HGa.out hg3); have HX3:=Lib.hid (HXa.out.gw hg3); have HR3:=Lib.hid (HRa.out.gw hg3 (by omega)); clear hm3 hg3)
 rcases hv with rfl | ⟨j,u0,rfl,hu,huk⟩
 ·go_wp2_with (first
   | (go_at_call 66; refine (HE3.out (a3 + 1) l 0 _ 3 (by decide) (by decide) HM3.out HX3.out (by omega) (by omega) hl1 (by decide)).mono ?_; rintro e w4 ⟨t,A',c',a',rfl,hge,hrep,hm4,hg4,h1,h2,hc⟩; have HGE:=Lib.hid hge; have HRP:=Lib.hid hrep; have HM4:=Lib.hid hm4; have HG4:=Lib.hid (gw_trans HG3.out hg4); have ha4:(a3 + 1)≤a'∧a'≤(a3 + 1) + 6 * size t:=⟨h1,by omega⟩; have HR4:=Lib.hid ((HR3.out).gw hg4 (by omega)); have hsz:size t≤15:=(by have:=HC.out; omega); have HB4:=Lib.hid (HR3.out).lt; clear hge hrep hm4 hg4 h1 h2 hc)
   | (go_at_call 88; refine (mnode_is m a' (l - (size t:Int)) (24) (0) _ (some ⟨w4.heap.size,0,none⟩) 1 1 (HM4.out.alloc _) (by omega) (by omega)).mono ?_; rintro e w5 ⟨rfl,hm5,hg5⟩; have HM5:=Lib.hid hm5; have HG5:=Lib.hid hg5; have HR5:Hid (Blk w5 r 25 #[.int .i64 0,.int .i64 0,.int .i64 0,.slice none 0 0]):=Lib.hid ((Blk.alloc HR4.out _).gw hg5 (by omega)); clear hm5 hg5; have r0:=HR5.out.cell 0; have r1:=HR5.out.cell 1; have r2:=HR5.out.cell 2; have r3:=HR5.out.cell 3; have f0:=HR5.out.frozen 0; have f1:=HR5.out.frozen 1; have f2:=HR5.out.frozen 2; have f3:=HR5.out.frozen 3; simp only [List.getElem?_toArray,List.getElem?_cons_zero,List.getElem?_cons_succ] at r0 r1 r2 r3))
  have hcs:=HCS.out
  have hei:=HEI.out
  exact bodyPost_ret (v:=.agg #[.int .i64 (24),.int .i64 (0),.int .i64 0,.slice (some ⟨w4.heap.size,0,none⟩) 1 1]) (by simp [results,Tryd.results100,go_sem,r0,r1,r2,r3]) rfl (SPost.fin (t:=⟨24,0,0,[t]⟩) (a':=a') hle.out HGR.out (GS.word (.inr (.inr rfl)) HGE.out) ((Kid.one HR4.out.lt (kid_of HRP.out HB4.out) (small (by omega) (by omega)) (small (by omega) (by omega))).gw HG5.out (by omega)) (by omega) (by rw [size_one]; exact (show l - ((1 + size t:Nat):Int) = l - (size t:Int) - 1 by push_cast; omega) ▸ HM5.out) (gw_trans (gw_alloc HG4.out _) HG5.out) (by omega) (by rw [size_one]; omega) (by rw [size_one]; omega) (by rw [size_one]; push_cast; omega) _ _ _ _)
 ·have hj0:(0:Int)≤(j:Int):=by omega
  have hj6:j < 6:=by have:=(List.getElem?_eq_some_iff.1 hu).1; have:=HVL.out; omega
  have HU:=Lib.hid hu
  have HUK:=Lib.hid huk
  clear hu huk
  go_wp2_with (first
   | (go_at_call 66; refine (HE3.out (a3 + 1) l 0 _ 3 (by decide) (by decide) HM3.out HX3.out (by omega) (by omega) hl1 (by decide)).mono ?_; rintro e w4 ⟨t,A',c',a',rfl,hge,hrep,hm4,hg4,h1,h2,hc⟩; have HGE:=Lib.hid hge; have HRP:=Lib.hid hrep; have HM4:=Lib.hid hm4; have HG4:=Lib.hid (gw_trans HG3.out hg4); have ha4:(a3 + 1)≤a'∧a'≤(a3 + 1) + 6 * size t:=⟨h1,by omega⟩; have HR4:=Lib.hid ((HR3.out).gw hg4 (by omega)); have hsz:size t≤15:=(by have:=HC.out; omega); have HB4:=Lib.hid (HR3.out).lt; clear hge hrep hm4 hg4 h1 h2 hc)
   | (go_at_call 88; refine (mnode_is m a' (l - (size t:Int)) (14) ((j:Int)) _ (some ⟨w4.heap.size,0,none⟩) 1 1 (HM4.out.alloc _) (by omega) (by omega)).mono ?_; rintro e w5 ⟨rfl,hm5,hg5⟩; have HM5:=Lib.hid hm5; have HG5:=Lib.hid hg5; have HR5:Hid (Blk w5 r 25 #[.int .i64 0,.int .i64 0,.int .i64 0,.slice none 0 0]):=Lib.hid ((Blk.alloc HR4.out _).gw hg5 (by omega)); clear hm5 hg5; have r0:=HR5.out.cell 0; have r1:=HR5.out.cell 1; have r2:=HR5.out.cell 2; have r3:=HR5.out.cell 3; have f0:=HR5.out.frozen 0; have f1:=HR5.out.frozen 1; have f2:=HR5.out.frozen 2; have f3:=HR5.out.frozen 3; simp only [List.getElem?_toArray,List.getElem?_cons_zero,List.getElem?_cons_succ] at r0 r1 r2 r3))
  have hcs:=HCS.out
  have hei:=HEI.out
  exact bodyPost_ret (v:=.agg #[.int .i64 (14),.int .i64 ((j:Int)),.int .i64 0,.slice (some ⟨w4.heap.size,0,none⟩) 1 1]) (by simp [results,Tryd.results100,go_sem,r0,r1,r2,r3]) rfl (SPost.fin (t:=⟨14,(j:Int),0,[t]⟩) (a':=a') hle.out HGR.out (GS.set HU.out HUK.out (.inl rfl) HGE.out HVL.out) ((Kid.one HR4.out.lt (kid_of HRP.out HB4.out) (small (by omega) (by omega)) (small (by omega) (by omega))).gw HG5.out (by omega)) (by omega) (by rw [size_one]; exact (show l - ((1 + size t:Nat):Int) = l - (size t:Int) - 1 by push_cast; omega) ▸ HM5.out) (gw_trans (gw_alloc HG4.out _) HG5.out) (by omega) (by rw [size_one]; omega) (by rw [size_one]; omega) (by rw [size_one]; push_cast; omega) _ _ _ _)
end Go.Proofs.YtkkenbalpnmfmaaDoor
