/- Texts joined. -/
import Derived.Test.YtkkenbalpnmfmaaDoorJ14
set_option linter.unusedVariables false
namespace Go.Proofs.YtkkenbalpnmfmaaDoor
open Go.RowKit WM TR TY
attribute [local go_sem ↓ high] shutB2 shutB3
attribute [local go_sem] run_bs2 run_bs3

theorem cells4 {W:World} {b:Nat} {c0 c1 c2 c3:Value} (h:Blk W b 25 #[c0,c1,c2,c3]):W.cell? ⟨b,0,none⟩ = some c0∧W.cell? ⟨b,1,none⟩ = some c1∧W.cell? ⟨b,2,none⟩ = some c2∧W.cell? ⟨b,3,none⟩ = some c3:=⟨h.cell 0,h.cell 1,h.cell 2,h.cell 3⟩

set_option maxRecDepth 100000 in
set_option maxHeartbeats 16000000 in
theorem nested_is (m : Par) (s : Sc) (Dp e : Nat) (he : e ≤ 2) (hS : SC m s Dp e) (hB : BC m s Dp e) (a : Nat) (l : Int) (w : World) (hm : Mk m a l w) (hx : Cx m s (Dp + 1) w) (hl0 : 9 ≤ l) (hl1 : l ≤ 1000) (ha : a + 20000 * e + 39900 ≤ 800000) :
  Calls Tryd.prog 106 #[.pointer (some ⟨m.g,0,none⟩),.int .i64 ((e:Int) + 1)] w (SPost 1 m (GS s) (7 + 2 * e) (capS (e + 1)) (-16 - 3 * (e:Int)) a l w):=by
 obtain ⟨r,hr⟩:∃ r,r = w.heap.size:=⟨_,rfl⟩
 have hgr:m.g < r:=by rw [hr]; exact hm.lt
 have HGR:Hid (m.g < w.heap.size):=Lib.hid hm.lt
 have HR:=Lib.hid hr
 obtain ⟨W1,hW1⟩:∃ W1,W1 = w.alloc (.cells #[.int .i64 0,.int .i64 0,.int .i64 0,.slice none 0 0] 25):=⟨_,rfl⟩
 have HM1:Hid (Mk m a l W1):=Lib.hid (by rw [hW1]; exact hm.alloc _)
 have HG1:Hid (w.grownBy W1 (some m.g)):=Lib.hid (by rw [hW1]; exact gw_alloc (gw_refl w m.g) _)
 have HX1:Hid (Cx m s (Dp + 1) W1):=Lib.hid (hx.gw HG1.out)
 have HR1:Hid (Blk W1 r 25 #[.int .i64 0,.int .i64 0,.int .i64 0,.slice none 0 0]):=Lib.hid (by rw [hW1,hr]; exact Blk.new _ _ _)
 have HW1:=Lib.hid hW1
 have HS:=Lib.hid hS
 have HE2:=Lib.hid (zexpr_all m s Dp 2 (by omega))
 have hcs3:capS e≤184:=by
  have h:e = 0∨e = 1∨e = 2:=by omega
  rcases h with rfl | rfl | rfl <;> decide
 have HCS:Hid (capS e≤184):=Lib.hid hcs3
 have HCS1:Hid (capS (e + 1) = 10 + 3 * capS e):=Lib.hid rfl
 have HC2:Hid (capE 2 = 7):=Lib.hid rfl
 have HB2:Hid (∀ (a:Nat) (l:Int) (w:World),Mk m a l w→Cx m s (Dp + 1) w→-800000≤l→l≤1000→a + 20000 * e + 36000≤800000→Calls Tryd.prog 93 #[.pointer (some ⟨m.g,0,none⟩),.int .i64 (e:Int),.int .i64 2] w (SPost 5 m (GB s) (6 + 2 * e) (1 + 2 * capS e) (min l (-13 - 3 * (e:Int)) - 1) a l w)):=Lib.hid fun a l w h1 h2 h3 h4 h5=>hB a l 2 w h1 h2 h3 h4 (by omega) (by omega) h5
 have HB1:Hid (∀ (a:Nat) (l:Int) (w:World),Mk m a l w→Cx m s (Dp + 1) w→-800000≤l→l≤1000→a + 20000 * e + 36000≤800000→Calls Tryd.prog 93 #[.pointer (some ⟨m.g,0,none⟩),.int .i64 (e:Int),.int .i64 1] w (SPost 5 m (GB s) (6 + 2 * e) (1 + 1 * capS e) (min l (-13 - 3 * (e:Int)) - 1) a l w)):=Lib.hid fun a l w h1 h2 h3 h4 h5=>hB a l 1 w h1 h2 h3 h4 (by omega) (by omega) h5
 obtain ⟨lo,hlo⟩:∃ z:Int,z = -13 - 3 * (e:Int):=⟨_,rfl⟩
 have HLO:=Lib.hid hlo
 have hlo2:-19≤lo∧lo≤-13:=by omega
 obtain ⟨x,HX5,hx5⟩:=zletter (L:=m.L) a 5 (by omega)
 have hDw:IntKind.i64.wrap ((e:Int) + 1 - 1) = (e:Int):=by rw [IntKind.wrap_i64]; omega
 have hwe:IntKind.i64.wrap (e:Int) = (e:Int):=by rw [IntKind.wrap_i64]; omega
 have hle:Hid (w.heap.size≤r):=Lib.hid (Nat.le_of_eq HR.out.symm)
 rw [← hlo] at HB2 HB1
 clear hr hm hW1 hx hS hB hlo hcs3
 go_enter Tryd.func106,Tryd.ntmps106
 go_upto_region 1 with fail
 rw [← HW1.out,← HR.out]
 go_cut [13] from 12 to 12 (fun s13 wv=>∃ V:World,V = wv∧s13 = .int .i64 (x:Int)∧Hid (Mk m (a + 1) l V∧W1.grownBy V (some m.g)))
 case first =>
  go_wp2_with (go_at_call 86; refine (draw_is m s (Dp + 1) a l 5 _ HM1.out HX1.out (by omega) (by omega)).mono ?_; rintro e w2 ⟨rfl,hm2,hg2⟩; rw [HX5.out])
  go_meet
  exact ⟨_,rfl,rfl,hm2,hg2⟩
 case rest =>
 obtain ⟨V,hwc,rfl,HV⟩:=hcut
 subst hwc
 have HM2:=Lib.hid HV.out.1
 have HGV:=Lib.hid HV.out.2
 have HG2:=Lib.hid (gw_trans HG1.out HV.out.2)
 have HX2:=Lib.hid (HX1.out.gw HV.out.2)
 have HR2:=Lib.hid (HR1.out.gw HV.out.2 (by omega))
 rename_i hK
 refine hK _ _ ?_
 clear hK
 go_cut [5,6,7,8,9] from 14 to 68 (fun s5 s6 s7 s8 s9 wv=>∃ (V3:World) (a3:Nat),V3 = wv∧Hid (a + 1≤a3∧a3≤a + 2∧Mk m a3 l V3∧W1.grownBy V3 (some m.g)))
 case first =>
  clear HM1 HX1 HR1 HV
  obtain rfl | rfl | rfl | rfl | rfl:x = 0∨x = 1∨x = 2∨x = 3∨x = 4:=by omega
  ·-- while
   go_upto_region 4 with (go_at_call 66; refine (HE2.out (a + 1) l 1 _ 2 (by decide) (by decide) HM2.out HX2.out (by omega) (by omega) hl1 (by decide)).mono ?_; rintro e w5 ⟨t,A',c',a5,rfl,hge,hrep,hm5,hg5,h1,h2,hc⟩; have HGE:=Lib.hid hge; have HRP:=Lib.hid hrep; have HMq:=Lib.hid hm5; have HGq:=Lib.hid (gw_trans HG2.out hg5); have HXq:=Lib.hid (HX2.out.gw hg5); have ha5:(a + 1)≤a5∧a5≤(a + 1) + 6 * size t:=⟨h1,by omega⟩; have hst:size t≤7:=(by have:=HC2.out; omega); have HRq:=Lib.hid (HR2.out.gw hg5 (by omega)); have HLT:=Lib.hid HR2.out.lt; clear hge hrep hm5 hg5 h1 h2 hc)
   obtain ⟨W6,hW6⟩:∃ W,W = w5.alloc (.cells #[.int .i64 t.k,.int .i64 t.n,.int .i64 t.m,.slice A' t.kids.length c'] 25):=⟨_,rfl⟩
   obtain ⟨b5,hba⟩:∃ b,b = w5.heap.size:=⟨_,rfl⟩
   have HM6:Hid (Mk m a5 (l - (size t:Int)) W6):=Lib.hid (by rw [hW6]; exact HMq.out.alloc _)
   have HG6:Hid (w.grownBy W6 (some m.g)):=Lib.hid (by rw [hW6]; exact gw_alloc HGq.out _)
   have HX6:Hid (Cx m s (Dp + 1) W6):=Lib.hid (by rw [hW6]; exact HXq.out.below (below_new _ _))
   have HR6:Hid (Blk W6 r 25 #[.int .i64 0,.int .i64 0,.int .i64 0,.slice none 0 0]):=Lib.hid (by rw [hW6]; exact HRq.out.alloc _)
   have HK6:Hid (Kid r W6 3 t A' c'):=Lib.hid (by rw [hW6]; exact Kid.gw (g:=m.g) (kid_of HRP.out HLT.out) (gwb (below_new _ _)) (by omega))
   have HBA:Hid (Blk W6 b5 25 #[.int .i64 t.k,.int .i64 t.n,.int .i64 t.m,.slice A' t.kids.length c']):=Lib.hid (by rw [hW6,hba]; exact Blk.new _ _ _)
   have HNA:Hid (b5≠m.g∧b5≠r):=Lib.hid (by have:=HMq.out.lt; have:=HRq.out.lt; omega)
   rw [← hW6,← hba]
   clear hW6 hba HMq HGq HXq HRq HRP HLT
   go_upto_region 5 with (go_at_call 93; refine (HB2.out (a5) (l - (size t:Int)) _ HM6.out HX6.out (by omega) (by omega) (by omega)).mono ?_; rintro e w7 ⟨u,A2,c2,a7,rfl,hgb,hrep,hm7,hg7,h1,h2,hc,hlo3⟩; have HGB:=Lib.hid hgb; have HRP:=Lib.hid hrep; have HMq:=Lib.hid hm7; have HG7:=Lib.hid hg7; have HXq:=Lib.hid (HX6.out.gw hg7); have ha7:(a5)≤a7∧a7≤(a5) + 6 * size u:=⟨h1,by omega⟩; have HSU:=Lib.hid hc; have hsu:size u≤369:=(by have:=HCS.out; omega); have hlu:min (l - (size t:Int)) lo - 1≤(l - (size t:Int)) - (size u:Int):=hlo3; have HRq:=Lib.hid (HR6.out.gw hg7 (by omega)); have HLT:=Lib.hid HR6.out.lt; clear hgb hrep hm7 hg7 h1 h2 hc hlo3)
   obtain ⟨W8,hW8⟩:∃ W,W = w7.alloc (.cells #[.int .i64 u.k,.int .i64 u.n,.int .i64 u.m,.slice A2 u.kids.length c2] 25):=⟨_,rfl⟩
   obtain ⟨b6,hba⟩:∃ b,b = w7.heap.size:=⟨_,rfl⟩
   have HM8:Hid (Mk m a7 (l - (size t:Int) - (size u:Int)) W8):=Lib.hid (by rw [hW8]; exact HMq.out.alloc _)
   have HG8:Hid (w.grownBy W8 (some m.g)):=Lib.hid (by rw [hW8]; exact gw_alloc (gw_trans HG6.out HG7.out) _)
   have HX8:Hid (Cx m s (Dp + 1) W8):=Lib.hid (by rw [hW8]; exact HXq.out.below (below_new _ _))
   have HR8:Hid (Blk W8 r 25 #[.int .i64 0,.int .i64 0,.int .i64 0,.slice none 0 0]):=Lib.hid (by rw [hW8]; exact HRq.out.alloc _)
   have HK8:Hid (Kid r W8 (6 + 2 * e) u A2 c2):=Lib.hid (by rw [hW8]; exact Kid.gw (g:=m.g) (kid_of HRP.out HLT.out) (gwb (below_new _ _)) (by omega))
   have HBB:Hid (Blk W8 b6 25 #[.int .i64 u.k,.int .i64 u.n,.int .i64 u.m,.slice A2 u.kids.length c2]):=Lib.hid (by rw [hW8,hba]; exact Blk.new _ _ _)
   have HNB:Hid (b6≠m.g∧b6≠r):=Lib.hid (by have:=HMq.out.lt; have:=HRq.out.lt; omega)
   have HK86:Hid (Kid r W8 3 t A' c'):=Lib.hid (by rw [hW8]; exact (HK6.out.gw HG7.out (by omega)).gw (gwb (g:=m.g) (below_new _ _)) (by omega))
   have HBA8:Hid (Blk W8 b5 25 #[.int .i64 t.k,.int .i64 t.n,.int .i64 t.m,.slice A' t.kids.length c']):=Lib.hid (by rw [hW8]; exact Blk.alloc (HBA.out.gw HG7.out HNA.out.1) _)
   rw [← hW8,← hba]
   clear hW8 hba HMq HXq HRq HRP HLT HG7
   have y0:=HBA8.out.cell 0; have y1:=HBA8.out.cell 1; have y2:=HBA8.out.cell 2; have y3:=HBA8.out.cell 3; simp only [List.getElem?_toArray,List.getElem?_cons_zero,List.getElem?_cons_succ] at y0 y1 y2 y3
   have z0:=HBB.out.cell 0; have z1:=HBB.out.cell 1; have z2:=HBB.out.cell 2; have z3:=HBB.out.cell 3; simp only [List.getElem?_toArray,List.getElem?_cons_zero,List.getElem?_cons_succ] at z0 z1 z2 z3
   go_wp2_with (go_at_call 88; refine (mnode_is m a7 (l - (size t:Int) - (size u:Int)) 18 0 _ (some ⟨W8.heap.size,0,none⟩) 2 2 (HM8.out.alloc _) (by omega) (by omega)).mono ?_; rintro e w9 ⟨rfl,hm9,hg9⟩; have HM9:=Lib.hid hm9; have HG9:=Lib.hid hg9; have HR9:Hid (Blk w9 r 25 #[.int .i64 0,.int .i64 0,.int .i64 0,.slice none 0 0]):=Lib.hid ((Blk.alloc HR8.out _).gw hg9 (by omega)); clear hm9 hg9 y0 y1 y2 y3 z0 z1 z2 z3; have r0:=HR9.out.cell 0; have r1:=HR9.out.cell 1; have r2:=HR9.out.cell 2; have r3:=HR9.out.cell 3; have f0:=HR9.out.frozen 0; have f1:=HR9.out.frozen 1; have f2:=HR9.out.frozen 2; have f3:=HR9.out.frozen 3; simp only [List.getElem?_toArray,List.getElem?_cons_zero,List.getElem?_cons_succ] at r0 r1 r2 r3)
   have hcs1:=HCS1.out
   have hsu2:=HSU.out
   have hcs0:=capS_ge e
   have hlo3:=HLO.out
   refine bodyPost_ret (v:=.agg #[.int .i64 18,.int .i64 0,.int .i64 0,.slice (some ⟨W8.heap.size,0,none⟩) 2 2]) (by simp [results,Tryd.results106,go_sem,r0,r1,r2,r3]) rfl (SPost.fin (t:=⟨18,0,0,[t,u]⟩) (R:=6 + 2 * e + 1) (a':=a7) hle.out HGR.out (GS.while_ HGE.out HGB.out) ((Kid.two HR8.out.lt (HK86.out.deep (by omega)) HK8.out (small (by omega) (by omega)) (small (by omega) (by omega))).gw HG9.out (by omega)) (by omega) ?_ (gw_trans (gw_alloc HG8.out _) HG9.out) (by omega) (by rw [size_two]; omega) (by rw [size_two]; omega) (by rw [size_two]; push_cast; omega) _ _ _ _)
   rw [size_two]
   exact (show l - ((1 + (size t + size u):Nat):Int) = l - (size t:Int) - (size u:Int) - 1 by push_cast; omega) ▸ HM9.out
  ·-- loop
   go_upto_region 8 with (go_at_call 89; refine (pick_is m s (Dp + 1) (a + 1) l 0 _ HM2.out HX2.out (by omega)).mono ?_; rintro e w3 ⟨v,rfl,hv,hm3,hg3⟩; have HM3:=Lib.hid hm3; have HGV3:=Lib.hid (gw_trans HGV.out hg3); have HG3:=Lib.hid (gw_trans HG2.out hg3); have HX3:=Lib.hid (HX2.out.gw hg3); have HR3:=Lib.hid (HR2.out.gw hg3 (by omega)); clear hm3 hg3)
   rcases hv with rfl | ⟨j,u0,rfl,hu,huk⟩
   ·go_wp2_with fail
    go_meet
    exact ⟨_,a + 1 + 1,rfl,by omega,by omega,HM3.out,HGV3.out⟩
   ·have hj0:(0:Int)≤(j:Int):=by omega
    have h2:=HM3.out.cell 2
    simp only [Par.cells,List.getElem?_toArray,List.getElem?_cons_zero,List.getElem?_cons_succ] at h2
    have HU:=Lib.hid hu
    have HUK:=Lib.hid huk
    clear hu huk
    by_cases h10:10 < l
    ·have hd10:decide (10 < l) = true:=by simpa using h10
     go_wp2_with (go_at_call 107; refine (loop_is m s Dp e he HS.out (a + 1 + 1) l j u0 _ HU.out HUK.out HM3.out HX3.out (by omega) hl1 (by omega)).mono ?_; rintro e w5 ⟨t,A',c',a',rfl,hge,hrep,hm5,hg5,h1,h2',hc,hlo3⟩; have HGE:=Lib.hid hge; have HRP:=Lib.hid hrep; have HM5:=Lib.hid hm5; have HG5:=Lib.hid (gw_trans HG3.out hg5); have HA5:=Lib.hid (And.intro h1 (And.intro h2' (And.intro hc hlo3))); have HR5:Hid (Blk w5 r 25 #[.int .i64 0,.int .i64 0,.int .i64 0,.slice none 0 0]):=Lib.hid (HR3.out.gw hg5 (by omega)); clear hge hrep hm5 hg5 h1 h2' hc hlo3 h2; have r0:=HR5.out.cell 0; have r1:=HR5.out.cell 1; have r2:=HR5.out.cell 2; have r3:=HR5.out.cell 3; have f0:=HR5.out.frozen 0; have f1:=HR5.out.frozen 1; have f2:=HR5.out.frozen 2; have f3:=HR5.out.frozen 3; simp only [List.getElem?_toArray,List.getElem?_cons_zero,List.getElem?_cons_succ] at r0 r1 r2 r3)
     have ha5:=HA5.out
     exact bodyPost_ret (v:=.agg #[.int .i64 t.k,.int .i64 t.n,.int .i64 t.m,.slice A' t.kids.length c']) (by simp [results,Tryd.results106,go_sem,r0,r1,r2,r3]) rfl (SPost.fin hle.out HGR.out HGE.out (kid_of HRP.out HR3.out.lt) (Nat.le_refl _) HM5.out HG5.out (by omega) (by omega) ha5.2.2.1 ha5.2.2.2 _ _ _ _)
    ·have hd10:decide (10 < l) = false:=by simpa using h10
     go_wp2_with fail
     go_meet
     exact ⟨_,a + 1 + 1,rfl,by omega,by omega,HM3.out,HGV3.out⟩
  ·-- try
   go_upto_region 12 with (go_at_call 89; refine (pick_is m s (Dp + 1) (a + 1) l 0 _ HM2.out HX2.out (by omega)).mono ?_; rintro e w3 ⟨v,rfl,hv,hm3,hg3⟩; have HM3:=Lib.hid hm3; have HGV3:=Lib.hid (gw_trans HGV.out hg3); have HG3:=Lib.hid (gw_trans HG2.out hg3); have HX3:=Lib.hid (HX2.out.gw hg3); have HR3:=Lib.hid (HR2.out.gw hg3 (by omega)); clear hm3 hg3)
   rcases hv with rfl | ⟨j,u0,rfl,hu,huk⟩
   ·go_wp2_with fail
    go_meet
    exact ⟨_,a + 1 + 1,rfl,by omega,by omega,HM3.out,HGV3.out⟩
   ·have hj0:(0:Int)≤(j:Int):=by omega
    have hj6:j < 6:=by have:=(List.getElem?_eq_some_iff.1 hu).1; have:=HX3.out.ok.vl; omega
    have HU:=Lib.hid hu
    have HUK:=Lib.hid huk
    clear hu huk
    go_upto_region 14 with (go_at_call 93; refine (HB2.out (a + 1 + 1) (l) _ HM3.out HX3.out (by omega) (by omega) (by omega)).mono ?_; rintro e w7 ⟨u,A2,c2,a7,rfl,hgb,hrep,hm7,hg7,h1,h2,hc,hlo3⟩; have HGB:=Lib.hid hgb; have HRP:=Lib.hid hrep; have HMq:=Lib.hid hm7; have HG7:=Lib.hid hg7; have HXq:=Lib.hid (HX3.out.gw hg7); have ha7:(a + 1 + 1)≤a7∧a7≤(a + 1 + 1) + 6 * size u:=⟨h1,by omega⟩; have HSU:=Lib.hid hc; have hsu:size u≤369:=(by have:=HCS.out; omega); have hlu:min (l) lo - 1≤(l) - (size u:Int):=hlo3; have HRq:=Lib.hid (HR3.out.gw hg7 (by omega)); have HLT:=Lib.hid HR3.out.lt; clear hgb hrep hm7 hg7 h1 h2 hc hlo3)
    obtain ⟨W8,hW8⟩:∃ W,W = w7.alloc (.cells #[.int .i64 u.k,.int .i64 u.n,.int .i64 u.m,.slice A2 u.kids.length c2] 25):=⟨_,rfl⟩
    obtain ⟨b9,hba⟩:∃ b,b = w7.heap.size:=⟨_,rfl⟩
    have HM8:Hid (Mk m a7 (l - (size u:Int)) W8):=Lib.hid (by rw [hW8]; exact HMq.out.alloc _)
    have HG8:Hid (w.grownBy W8 (some m.g)):=Lib.hid (by rw [hW8]; exact gw_alloc (gw_trans HG3.out HG7.out) _)
    have HX8:Hid (Cx m s (Dp + 1) W8):=Lib.hid (by rw [hW8]; exact HXq.out.below (below_new _ _))
    have HR8:Hid (Blk W8 r 25 #[.int .i64 0,.int .i64 0,.int .i64 0,.slice none 0 0]):=Lib.hid (by rw [hW8]; exact HRq.out.alloc _)
    have HK8:Hid (Kid r W8 (6 + 2 * e) u A2 c2):=Lib.hid (by rw [hW8]; exact Kid.gw (g:=m.g) (kid_of HRP.out HLT.out) (gwb (below_new _ _)) (by omega))
    have HBB:Hid (Blk W8 b9 25 #[.int .i64 u.k,.int .i64 u.n,.int .i64 u.m,.slice A2 u.kids.length c2]):=Lib.hid (by rw [hW8,hba]; exact Blk.new _ _ _)
    have HNB:Hid (b9≠m.g∧b9≠r):=Lib.hid (by have:=HMq.out.lt; have:=HRq.out.lt; omega)
    rw [← hW8,← hba]
    clear hW8 hba HMq HXq HRq HRP HLT HG7
    have hbc:W8.grownBy W8.drew (some m.g):=gw_drew (gw_refl _ _)
    have HMD:Hid (Mk m a7 (l - (size u:Int)) W8.drew):=Lib.hid HM8.out.drew
    have HC4:Hid (∀ W,W8.grownBy W (some m.g)→W.cell? ⟨b9,0,none⟩ = some (.int .i64 u.k)∧W.cell? ⟨b9,1,none⟩ = some (.int .i64 u.n)∧W.cell? ⟨b9,2,none⟩ = some (.int .i64 u.m)∧W.cell? ⟨b9,3,none⟩ = some (.slice A2 u.kids.length c2)):=Lib.hid fun W hg=>cells4 (HBB.out.gw hg HNB.out.1)
    have HC5:Hid (∀ W v0 v1 v2 v3,W8.grownBy W (some m.g)→((((W.setCell ⟨r,0,none⟩ v0).setCell ⟨r,1,none⟩ v1).setCell ⟨r,2,none⟩ v2).setCell ⟨r,3,none⟩ v3).cell? ⟨b9,0,none⟩ = some (.int .i64 u.k)∧((((W.setCell ⟨r,0,none⟩ v0).setCell ⟨r,1,none⟩ v1).setCell ⟨r,2,none⟩ v2).setCell ⟨r,3,none⟩ v3).cell? ⟨b9,1,none⟩ = some (.int .i64 u.n)∧((((W.setCell ⟨r,0,none⟩ v0).setCell ⟨r,1,none⟩ v1).setCell ⟨r,2,none⟩ v2).setCell ⟨r,3,none⟩ v3).cell? ⟨b9,2,none⟩ = some (.int .i64 u.m)∧((((W.setCell ⟨r,0,none⟩ v0).setCell ⟨r,1,none⟩ v1).setCell ⟨r,2,none⟩ v2).setCell ⟨r,3,none⟩ v3).cell? ⟨b9,3,none⟩ = some (.slice A2 u.kids.length c2)):=Lib.hid fun W v0 v1 v2 v3 hg=>cells4 ((HBB.out.gw hg HNB.out.1).gw (gw4 W r v0 v1 v2 v3).1 HNB.out.2)
    have HCE:Hid (∀ W,W8.grownBy W (some m.g)→Mk m a7 (l - (size u:Int)) W→Calls Tryd.prog 93 #[.pointer (some ⟨m.g,0,none⟩),.int .i64 (e:Int),.int .i64 1] W (SPost 5 m (GB s) (6 + 2 * e) (1 + 1 * capS e) (min (l - (size u:Int)) lo - 1) a7 (l - (size u:Int)) W)):=Lib.hid fun W hg hm=>HB1.out a7 (l - (size u:Int)) W hm (HX8.out.gw hg) (by omega) (by omega) (by omega)
    refine wp_region_noPanic ?_
    go_region_held2 (fun W=>W.cell? ⟨b9,0,none⟩ = some (.int .i64 u.k)∧W.cell? ⟨b9,1,none⟩ = some (.int .i64 u.n)∧W.cell? ⟨b9,2,none⟩ = some (.int .i64 u.m)∧W.cell? ⟨b9,3,none⟩ = some (.slice A2 u.kids.length c2))
     (first | exact HC4.out _ hbc | exact HC4.out _ (gw_alloc hbc _) | exact HC5.out _ _ _ _ _ hbc)
     (first
     | (go_at_call 93; (with_reducible refine (HCE.out _ hbc HMD.out).mono ?_); rintro e w10 ⟨x3,A3,c3,a10,rfl,hge,hrep,hm10,hg10,h1,h2,hc,hlo3⟩; have hbc0:=hbc; clear hbc; have hbc:=gw_trans hbc0 hg10; have HG10:=Lib.hid hbc; have HGB2:=Lib.hid hge; have HM10:=Lib.hid hm10; have HRP2:Hid (Kid r w10 (6 + 2 * e) x3 A3 c3):=Lib.hid (kid_of hrep HR8.out.lt); have ha10:a7≤a10∧a10≤a7 + 6 * size x3:=⟨h1,by omega⟩; have HSX:=Lib.hid hc; have hsx:size x3≤185:=(by have:=HCS.out; omega); have hlx:min (l - (size u:Int)) lo - 1≤(l - (size u:Int)) - (size x3:Int):=hlo3; have HR10:=Lib.hid (HR8.out.gw hbc (by omega)); clear hge hrep hm10 hg10 h1 h2 hc hlo3 hbc0)
     | (go_at_call 88; (with_reducible refine (mnode_is m a10 (l - (size u:Int) - (size x3:Int)) 21 (j:Int) _ (some ⟨w10.heap.size,0,none⟩) 2 2 (HM10.out.alloc _) (by omega) (by omega)).mono ?_); rintro e w9 ⟨rfl,hm9,hg9⟩; have hbc0:=hbc; clear hbc; have hbc:=gw_trans (gw_alloc hbc0 _) hg9; have HM9:=Lib.hid hm9; have HG9:=Lib.hid hg9; have HR9:Hid (Blk w9 r 25 #[.int .i64 0,.int .i64 0,.int .i64 0,.slice none 0 0]):=Lib.hid ((Blk.alloc HR10.out _).gw hg9 (by omega)); clear hm9 hg9 hbc0; have r0:=HR9.out.cell 0; have r1:=HR9.out.cell 1; have r2:=HR9.out.cell 2; have r3:=HR9.out.cell 3; have f0:=HR9.out.frozen 0; have f1:=HR9.out.frozen 1; have f2:=HR9.out.frozen 2; have f3:=HR9.out.frozen 3; simp only [List.getElem?_toArray,List.getElem?_cons_zero,List.getElem?_cons_succ] at r0 r1 r2 r3))
    all_goals
     refine NoPanic.normal ?_
     go_wp2_with fail
     have hcs1:=HCS1.out
     have hsu2:=HSU.out
     have hsx2:=HSX.out
     have hcs0:=capS_ge e
     have hlo3:=HLO.out
     refine bodyPost_ret (v:=.agg #[.int .i64 21,.int .i64 (j:Int),.int .i64 0,.slice (some ⟨w10.heap.size,0,none⟩) 2 2]) (by simp [results,Tryd.results106,go_sem,r0,r1,r2,r3]) rfl (SPost.fin (t:=⟨21,(j:Int),0,[u,x3]⟩) (R:=6 + 2 * e + 1) (a':=a10) hle.out HGR.out (GS.try_ HU.out HUK.out HGB.out HGB2.out HX3.out.ok.vl) ((Kid.two HR10.out.lt (HK8.out.gw HG10.out (by omega)) HRP2.out (small (by omega) (by omega)) (small (by omega) (by omega))).gw HG9.out (by omega)) (by omega) ?_ (gw_trans (gw_alloc (gw_trans HG8.out HG10.out) _) HG9.out) (by omega) (by rw [size_two]; omega) (by rw [size_two]; omega) (by rw [size_two]; push_cast; omega) _ _ _ _)
     rw [size_two]
     exact (show l - ((1 + (size u + size x3):Nat):Int) = l - (size u:Int) - (size x3:Int) - 1 by push_cast; omega) ▸ HM9.out
  ·-- block
   go_wp2_with (go_at_call 93; refine (HB2.out (a + 1) l _ HM2.out HX2.out (by omega) (by omega) (by omega)).mono ?_; rintro e w5 ⟨t,A',c',a',rfl,hge,hrep,hm5,hg5,h1,h2',hc,hlo3⟩; have HGE:=Lib.hid hge; have HRP:=Lib.hid hrep; have HM5:=Lib.hid hm5; have HG5:=Lib.hid (gw_trans HG2.out hg5); have HA5:=Lib.hid (And.intro h1 (And.intro h2' (And.intro hc hlo3))); have HR5:Hid (Blk w5 r 25 #[.int .i64 0,.int .i64 0,.int .i64 0,.slice none 0 0]):=Lib.hid (HR2.out.gw hg5 (by omega)); clear hge hrep hm5 hg5 h1 h2' hc hlo3; have r0:=HR5.out.cell 0; have r1:=HR5.out.cell 1; have r2:=HR5.out.cell 2; have r3:=HR5.out.cell 3; have f0:=HR5.out.frozen 0; have f1:=HR5.out.frozen 1; have f2:=HR5.out.frozen 2; have f3:=HR5.out.frozen 3; simp only [List.getElem?_toArray,List.getElem?_cons_zero,List.getElem?_cons_succ] at r0 r1 r2 r3)
   have ha5:=HA5.out
   have hcs1:=HCS1.out
   have hcs0:=capS_ge e
   have hlo3:=HLO.out
   exact bodyPost_ret (v:=.agg #[.int .i64 t.k,.int .i64 t.n,.int .i64 t.m,.slice A' t.kids.length c']) (by simp [results,Tryd.results106,go_sem,r0,r1,r2,r3]) rfl (SPost.fin hle.out HGR.out HGE.out.st (kid_of HRP.out HR2.out.lt) (by omega) HM5.out HG5.out (by omega) (by omega) (by omega) (by omega) _ _ _ _)
  ·-- none
   go_wp2_with fail
   go_meet
   exact ⟨_,a + 1,rfl,by omega,by omega,HM2.out,HGV.out⟩
 case rest =>
 obtain ⟨V3,a3,hwc,HF⟩:=hcut
 subst hwc
 clear HM2 HG2 HX2 HR2 HGV HV
 have HM2:=Lib.hid HF.out.2.2.1
 have HG2:=Lib.hid (gw_trans HG1.out HF.out.2.2.2)
 have HX2:=Lib.hid (HX1.out.gw HF.out.2.2.2)
 have HR2:=Lib.hid (HR1.out.gw HF.out.2.2.2 (by omega))
 have ha3:a + 1≤a3∧a3≤a + 2:=⟨HF.out.1,HF.out.2.1⟩
 clear HF HM1 HX1 HR1
 go_upto_region 18 with (go_at_call 66; refine (HE2.out (a3) l 1 _ 2 (by decide) (by decide) HM2.out HX2.out (by omega) (by omega) hl1 (by decide)).mono ?_; rintro e w5 ⟨t,A',c',a5,rfl,hge,hrep,hm5,hg5,h1,h2,hc⟩; have HGE:=Lib.hid hge; have HRP:=Lib.hid hrep; have HMq:=Lib.hid hm5; have HGq:=Lib.hid (gw_trans HG2.out hg5); have HXq:=Lib.hid (HX2.out.gw hg5); have ha5:(a3)≤a5∧a5≤(a3) + 6 * size t:=⟨h1,by omega⟩; have hst:size t≤7:=(by have:=HC2.out; omega); have HRq:=Lib.hid (HR2.out.gw hg5 (by omega)); have HLT:=Lib.hid HR2.out.lt; clear hge hrep hm5 hg5 h1 h2 hc)
 obtain ⟨W6,hW6⟩:∃ W,W = w5.alloc (.cells #[.int .i64 t.k,.int .i64 t.n,.int .i64 t.m,.slice A' t.kids.length c'] 25):=⟨_,rfl⟩
 obtain ⟨b5,hba⟩:∃ b,b = w5.heap.size:=⟨_,rfl⟩
 have HM6:Hid (Mk m a5 (l - (size t:Int)) W6):=Lib.hid (by rw [hW6]; exact HMq.out.alloc _)
 have HG6:Hid (w.grownBy W6 (some m.g)):=Lib.hid (by rw [hW6]; exact gw_alloc HGq.out _)
 have HX6:Hid (Cx m s (Dp + 1) W6):=Lib.hid (by rw [hW6]; exact HXq.out.below (below_new _ _))
 have HR6:Hid (Blk W6 r 25 #[.int .i64 0,.int .i64 0,.int .i64 0,.slice none 0 0]):=Lib.hid (by rw [hW6]; exact HRq.out.alloc _)
 have HK6:Hid (Kid r W6 3 t A' c'):=Lib.hid (by rw [hW6]; exact Kid.gw (g:=m.g) (kid_of HRP.out HLT.out) (gwb (below_new _ _)) (by omega))
 have HBA:Hid (Blk W6 b5 25 #[.int .i64 t.k,.int .i64 t.n,.int .i64 t.m,.slice A' t.kids.length c']):=Lib.hid (by rw [hW6,hba]; exact Blk.new _ _ _)
 have HNA:Hid (b5≠m.g∧b5≠r):=Lib.hid (by have:=HMq.out.lt; have:=HRq.out.lt; omega)
 rw [← hW6,← hba]
 clear hW6 hba HMq HGq HXq HRq HRP HLT
 go_upto_region 19 with (go_at_call 93; refine (HB2.out (a5) (l - (size t:Int)) _ HM6.out HX6.out (by omega) (by omega) (by omega)).mono ?_; rintro e w7 ⟨u,A2,c2,a7,rfl,hgb,hrep,hm7,hg7,h1,h2,hc,hlo3⟩; have HGB:=Lib.hid hgb; have HRP:=Lib.hid hrep; have HMq:=Lib.hid hm7; have HG7:=Lib.hid hg7; have HXq:=Lib.hid (HX6.out.gw hg7); have ha7:(a5)≤a7∧a7≤(a5) + 6 * size u:=⟨h1,by omega⟩; have HSU:=Lib.hid hc; have hsu:size u≤369:=(by have:=HCS.out; omega); have hlu:min (l - (size t:Int)) lo - 1≤(l - (size t:Int)) - (size u:Int):=hlo3; have HRq:=Lib.hid (HR6.out.gw hg7 (by omega)); have HLT:=Lib.hid HR6.out.lt; clear hgb hrep hm7 hg7 h1 h2 hc hlo3)
 obtain ⟨W8,hW8⟩:∃ W,W = w7.alloc (.cells #[.int .i64 u.k,.int .i64 u.n,.int .i64 u.m,.slice A2 u.kids.length c2] 25):=⟨_,rfl⟩
 obtain ⟨b9,hba⟩:∃ b,b = w7.heap.size:=⟨_,rfl⟩
 have HM8:Hid (Mk m a7 (l - (size t:Int) - (size u:Int)) W8):=Lib.hid (by rw [hW8]; exact HMq.out.alloc _)
 have HG8:Hid (w.grownBy W8 (some m.g)):=Lib.hid (by rw [hW8]; exact gw_alloc (gw_trans HG6.out HG7.out) _)
 have HX8:Hid (Cx m s (Dp + 1) W8):=Lib.hid (by rw [hW8]; exact HXq.out.below (below_new _ _))
 have HR8:Hid (Blk W8 r 25 #[.int .i64 0,.int .i64 0,.int .i64 0,.slice none 0 0]):=Lib.hid (by rw [hW8]; exact HRq.out.alloc _)
 have HK8:Hid (Kid r W8 (6 + 2 * e) u A2 c2):=Lib.hid (by rw [hW8]; exact Kid.gw (g:=m.g) (kid_of HRP.out HLT.out) (gwb (below_new _ _)) (by omega))
 have HBB:Hid (Blk W8 b9 25 #[.int .i64 u.k,.int .i64 u.n,.int .i64 u.m,.slice A2 u.kids.length c2]):=Lib.hid (by rw [hW8,hba]; exact Blk.new _ _ _)
 have HNB:Hid (b9≠m.g∧b9≠r):=Lib.hid (by have:=HMq.out.lt; have:=HRq.out.lt; omega)
 have HK86:Hid (Kid r W8 3 t A' c'):=Lib.hid (by rw [hW8]; exact (HK6.out.gw HG7.out (by omega)).gw (gwb (g:=m.g) (below_new _ _)) (by omega))
 have HBA8:Hid (Blk W8 b5 25 #[.int .i64 t.k,.int .i64 t.n,.int .i64 t.m,.slice A' t.kids.length c']):=Lib.hid (by rw [hW8]; exact Blk.alloc (HBA.out.gw HG7.out HNA.out.1) _)
 rw [← hW8,← hba]
 clear hW8 hba HMq HXq HRq HRP HLT HG7
 have hbc:W8.grownBy W8.drew (some m.g):=gw_drew (gw_refl _ _)
 have HMD:Hid (Mk m a7 (l - (size t:Int) - (size u:Int)) W8.drew):=Lib.hid HM8.out.drew
 have HC4:Hid (∀ W,W8.grownBy W (some m.g)→(W.cell? ⟨b5,0,none⟩ = some (.int .i64 t.k)∧W.cell? ⟨b5,1,none⟩ = some (.int .i64 t.n)∧W.cell? ⟨b5,2,none⟩ = some (.int .i64 t.m)∧W.cell? ⟨b5,3,none⟩ = some (.slice A' t.kids.length c'))∧W.cell? ⟨b9,0,none⟩ = some (.int .i64 u.k)∧W.cell? ⟨b9,1,none⟩ = some (.int .i64 u.n)∧W.cell? ⟨b9,2,none⟩ = some (.int .i64 u.m)∧W.cell? ⟨b9,3,none⟩ = some (.slice A2 u.kids.length c2)):=Lib.hid fun W hg=>cells8 (HBA8.out.gw hg HNA.out.1) (HBB.out.gw hg HNB.out.1)
 have HC5:Hid (∀ W v0 v1 v2 v3,W8.grownBy W (some m.g)→(((((W.setCell ⟨r,0,none⟩ v0).setCell ⟨r,1,none⟩ v1).setCell ⟨r,2,none⟩ v2).setCell ⟨r,3,none⟩ v3).cell? ⟨b5,0,none⟩ = some (.int .i64 t.k)∧((((W.setCell ⟨r,0,none⟩ v0).setCell ⟨r,1,none⟩ v1).setCell ⟨r,2,none⟩ v2).setCell ⟨r,3,none⟩ v3).cell? ⟨b5,1,none⟩ = some (.int .i64 t.n)∧((((W.setCell ⟨r,0,none⟩ v0).setCell ⟨r,1,none⟩ v1).setCell ⟨r,2,none⟩ v2).setCell ⟨r,3,none⟩ v3).cell? ⟨b5,2,none⟩ = some (.int .i64 t.m)∧((((W.setCell ⟨r,0,none⟩ v0).setCell ⟨r,1,none⟩ v1).setCell ⟨r,2,none⟩ v2).setCell ⟨r,3,none⟩ v3).cell? ⟨b5,3,none⟩ = some (.slice A' t.kids.length c'))∧((((W.setCell ⟨r,0,none⟩ v0).setCell ⟨r,1,none⟩ v1).setCell ⟨r,2,none⟩ v2).setCell ⟨r,3,none⟩ v3).cell? ⟨b9,0,none⟩ = some (.int .i64 u.k)∧((((W.setCell ⟨r,0,none⟩ v0).setCell ⟨r,1,none⟩ v1).setCell ⟨r,2,none⟩ v2).setCell ⟨r,3,none⟩ v3).cell? ⟨b9,1,none⟩ = some (.int .i64 u.n)∧((((W.setCell ⟨r,0,none⟩ v0).setCell ⟨r,1,none⟩ v1).setCell ⟨r,2,none⟩ v2).setCell ⟨r,3,none⟩ v3).cell? ⟨b9,2,none⟩ = some (.int .i64 u.m)∧((((W.setCell ⟨r,0,none⟩ v0).setCell ⟨r,1,none⟩ v1).setCell ⟨r,2,none⟩ v2).setCell ⟨r,3,none⟩ v3).cell? ⟨b9,3,none⟩ = some (.slice A2 u.kids.length c2)):=Lib.hid fun W v0 v1 v2 v3 hg=>cells8 ((HBA8.out.gw hg HNA.out.1).gw (gw4 W r v0 v1 v2 v3).1 HNA.out.2) ((HBB.out.gw hg HNB.out.1).gw (gw4 W r v0 v1 v2 v3).1 HNB.out.2)
 have HCE:Hid (∀ W,W8.grownBy W (some m.g)→Mk m a7 (l - (size t:Int) - (size u:Int)) W→Calls Tryd.prog 93 #[.pointer (some ⟨m.g,0,none⟩),.int .i64 (e:Int),.int .i64 1] W (SPost 5 m (GB s) (6 + 2 * e) (1 + 1 * capS e) (min (l - (size t:Int) - (size u:Int)) lo - 1) a7 (l - (size t:Int) - (size u:Int)) W)):=Lib.hid fun W hg hm=>HB1.out a7 (l - (size t:Int) - (size u:Int)) W hm (HX8.out.gw hg) (by omega) (by omega) (by omega)
 refine wp_region_noPanic ?_
 go_region_held2 (fun W=>(W.cell? ⟨b5,0,none⟩ = some (.int .i64 t.k)∧W.cell? ⟨b5,1,none⟩ = some (.int .i64 t.n)∧W.cell? ⟨b5,2,none⟩ = some (.int .i64 t.m)∧W.cell? ⟨b5,3,none⟩ = some (.slice A' t.kids.length c'))∧W.cell? ⟨b9,0,none⟩ = some (.int .i64 u.k)∧W.cell? ⟨b9,1,none⟩ = some (.int .i64 u.n)∧W.cell? ⟨b9,2,none⟩ = some (.int .i64 u.m)∧W.cell? ⟨b9,3,none⟩ = some (.slice A2 u.kids.length c2))
  (first | exact HC4.out _ hbc | exact HC4.out _ (gw_alloc hbc _) | exact HC5.out _ _ _ _ _ hbc)
  (first
  | (go_at_call 93; (with_reducible refine (HCE.out _ hbc HMD.out).mono ?_); rintro e w10 ⟨x3,A3,c3,a10,rfl,hge,hrep,hm10,hg10,h1,h2,hc,hlo3⟩; have hbc0:=hbc; clear hbc; have hbc:=gw_trans hbc0 hg10; have HG10:=Lib.hid hbc; have HGB2:=Lib.hid hge; have HM10:=Lib.hid hm10; have HRP2:Hid (Kid r w10 (6 + 2 * e) x3 A3 c3):=Lib.hid (kid_of hrep HR8.out.lt); have ha10:a7≤a10∧a10≤a7 + 6 * size x3:=⟨h1,by omega⟩; have HSX:=Lib.hid hc; have hsx:size x3≤185:=(by have:=HCS.out; omega); have hlx:min (l - (size t:Int) - (size u:Int)) lo - 1≤(l - (size t:Int) - (size u:Int)) - (size x3:Int):=hlo3; have HR10:=Lib.hid (HR8.out.gw hbc (by omega)); clear hge hrep hm10 hg10 h1 h2 hc hlo3 hbc0)
  | (go_at_call 88; (with_reducible refine (mnode_is m a10 (l - (size t:Int) - (size u:Int) - (size x3:Int)) 17 0 _ (some ⟨w10.heap.size,0,none⟩) 3 3 (HM10.out.alloc _) (by omega) (by omega)).mono ?_); rintro e w9 ⟨rfl,hm9,hg9⟩; have hbc0:=hbc; clear hbc; have hbc:=gw_trans (gw_alloc hbc0 _) hg9; have HM9:=Lib.hid hm9; have HG9:=Lib.hid hg9; have HR9:Hid (Blk w9 r 25 #[.int .i64 0,.int .i64 0,.int .i64 0,.slice none 0 0]):=Lib.hid ((Blk.alloc HR10.out _).gw hg9 (by omega)); clear hm9 hg9 hbc0; have r0:=HR9.out.cell 0; have r1:=HR9.out.cell 1; have r2:=HR9.out.cell 2; have r3:=HR9.out.cell 3; have f0:=HR9.out.frozen 0; have f1:=HR9.out.frozen 1; have f2:=HR9.out.frozen 2; have f3:=HR9.out.frozen 3; simp only [List.getElem?_toArray,List.getElem?_cons_zero,List.getElem?_cons_succ] at r0 r1 r2 r3))
 all_goals
  refine NoPanic.normal ?_
  go_wp2_with fail
  have hcs1:=HCS1.out
  have hsu2:=HSU.out
  have hsx2:=HSX.out
  have hcs0:=capS_ge e
  have hlo3:=HLO.out
  refine bodyPost_ret (v:=.agg #[.int .i64 17,.int .i64 0,.int .i64 0,.slice (some ⟨w10.heap.size,0,none⟩) 3 3]) (by simp [results,Tryd.results106,go_sem,r0,r1,r2,r3]) rfl (SPost.fin (t:=⟨17,0,0,[t,u,x3]⟩) (R:=6 + 2 * e + 1) (a':=a10) hle.out HGR.out (GS.if_ HGE.out HGB.out HGB2.out) ((Kid.three HR10.out.lt ((HK86.out.deep (D':=6 + 2 * e) (by omega)).gw HG10.out (by omega)) (HK8.out.gw HG10.out (by omega)) HRP2.out (small (by omega) (by omega)) (small (by omega) (by omega))).gw HG9.out (by omega)) (by omega) ?_ (gw_trans (gw_alloc (gw_trans HG8.out HG10.out) _) HG9.out) (by omega) (by rw [size_three]; omega) (by rw [size_three]; omega) (by rw [size_three]; push_cast; omega) _ _ _ _)
  rw [size_three]
  exact (show l - ((1 + (size t + (size u + size x3)):Nat):Int) = l - (size t:Int) - (size u:Int) - (size x3:Int) - 1 by push_cast; omega) ▸ HM9.out
end Go.Proofs.YtkkenbalpnmfmaaDoor
