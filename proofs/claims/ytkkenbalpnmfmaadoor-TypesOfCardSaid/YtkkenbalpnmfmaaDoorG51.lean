/- Texts joined. -/
import Derived.Test.YtkkenbalpnmfmaaDoorG43
import Derived.Test.YtkkenbalpnmfmaaDoorG39
import Derived.Test.YtkkenbalpnmfmaaDoorG42
import Derived.Test.YtkkenbalpnmfmaaDoorG46
import Derived.Test.YtkkenbalpnmfmaaDoorG49
import Derived.Test.YtkkenbalpnmfmaaDoorG50
import Derived.Test.YtkkenbalpnmfmaaDoorG27
import Derived.Deep.RegionWith
import Derived.Deep.RegionHeld2
set_option linter.unusedVariables false
namespace Go.Proofs.YtkkenbalpnmfmaaDoor
open Go.RowKit WM TR TY

attribute [local go_sem ↓ high] shutB3
structure EYo (W:World) (ba_ i:Nat) (y:T) (Ay:Option Addr) (cy:Nat):Prop where
 cell:∀ j v,(nd y Ay cy)[j]? = some v→W.cell? ⟨ba_,i * 4 + j,none⟩ = some v
 rep:Rep W (Lt W.heap.size) (1000) y (nd y Ay cy)
 size:size y≤999
set_option maxRecDepth 100000 in
set_option maxHeartbeats 16000000 in
theorem types_of_is (HM : MadeC) (L M : List Int) (A B : Option Addr) (c cb : Nat) (con at_ how by_ : Int) (wz : World) (hL : Rd wz (Lt wz.heap.size) 1 A L.length (vi L)) (hM : Rd wz (Lt wz.heap.size) 1 B M.length (vi M)) (hrL : ∀ x ∈ L, inRange x) (hrM : ∀ x ∈ M, inRange x) (hlL : L.length ≤ 9223372036854775807) (hlM : M.length ≤ 9223372036854775807) (ha : inRange at_) (hh : inRange how) (hy : inRange by_) (hT : ST wz) (hg : 0 < wz.heap.size) :
  Calls Tryd.prog 4 #[.slice A L.length c,.slice B M.length cb,.int .i64 con,.int .i64 at_,.int .i64 how,.int .i64 by_] wz fun e w'=>e = .returned (.bool true)∧Below wz.heap.size wz w':=by
 have HP:=Lib.hid (lawProg_is HM L (Lt wz.heap.size) A c con wz hL (In.lt _) hrL hlL)
 have HPR:Hid (∀ W,Below wz.heap.size wz W→Calls Tryd.prog 12 #[.slice B M.length cb] W (ProgPost W)):=Lib.hid fun W hb=>program_is M (Lt wz.heap.size) B cb W (hM.keep (Keeps.below (In.lt _) hb)) ((In.lt _).more hb.size) hrM hlM
 have HT:=Lib.hid hT
 have HG:=Lib.hid hg
 have HRR:=Lib.hid (And.intro ha (And.intro hh hy))
 obtain ⟨nl,hnl⟩:∃ z,z = L.length:=⟨_,rfl⟩
 obtain ⟨nm,hnm⟩:∃ z,z = M.length:=⟨_,rfl⟩
 rw [← hnl] at HP ⊢
 rw [← hnm] at HPR ⊢
 clear hL hM hrL hrM hlL hlM hT hg hnl hnm HM ha hh hy
 go_enter Tryd.func4,Tryd.ntmps4
 go_upto_region 2 with (go_at_call 10; refine HP.out.mono ?_; rintro e V ⟨p,A1,c1,rfl,hf,hc,hp,hv⟩; have HF:=Lib.hid hf; have HR:=Lib.hid hp; have HV:=Lib.hid hv; clear hf hc hp hv)
 obtain ⟨np,hnp⟩:∃ n,n = p.kids.length:=⟨_,rfl⟩
 obtain ⟨pk,hpk⟩:∃ z,z = p.k:=⟨_,rfl⟩
 obtain ⟨pn,hpn⟩:∃ z,z = p.n:=⟨_,rfl⟩
 obtain ⟨pm,hpm⟩:∃ z,z = p.m:=⟨_,rfl⟩
 have HPP:Hid (p.kids.length = np∧p.k = pk∧p.n = pn∧p.m = pm):=Lib.hid ⟨hnp.symm,hpk.symm,hpn.symm,hpm.symm⟩
 rw [← hnp,← hpk,← hpn,← hpm]
 obtain ⟨gp,hgp⟩:∃ g,g = V.heap.size:=⟨_,rfl⟩
 obtain ⟨W1,hW1⟩:∃ W,W = V.alloc (.cells #[.int .i64 pk,.int .i64 pn,.int .i64 pm,.slice A1 np c1] 25):=⟨_,rfl⟩
 have HB1:Hid (Below wz.heap.size wz W1):=Lib.hid (by rw [hW1]; exact HV.out.alloc HV.out.size _)
 have HK1:Hid (Blk W1 gp 25 #[.int .i64 pk,.int .i64 pn,.int .i64 pm,.slice A1 np c1]):=Lib.hid (by rw [hW1,hgp]; exact Blk.new _ _ _)
 have hrp:Rep W1 (Lt W1.heap.size) 14 p (nd p A1 c1):=by
  rw [hW1]
  exact (HR.out.keep (Keeps.below (fun b hb=>hb.2) (below_new _ _))).mono fun b hb=>by show b < _; rw [size_alloc]; have:=hb.2; omega
 have HRP:=Lib.hid hrp
 rw [← hW1,← hgp]
 have HCL:Hid (∀ W,Below W1.heap.size W1 W→W.cell? ⟨gp,0,none⟩ = some (.int .i64 pk)∧W.cell? ⟨gp,1,none⟩ = some (.int .i64 pn)∧W.cell? ⟨gp,2,none⟩ = some (.int .i64 pm)∧W.cell? ⟨gp,3,none⟩ = some (.slice A1 np c1)):=Lib.hid fun W hb=>by
  have e1:=HK1.out.below hb HK1.out.lt
  exact ⟨e1.cell 0,e1.cell 1,e1.cell 2,e1.cell 3⟩
 have HSP:Hid (∀ W,Below W1.heap.size W1 W→Calls Tryd.prog 11 #[.agg #[.int .i64 pk,.int .i64 pn,.int .i64 pm,.slice A1 np c1],.int .i64 at_,.int .i64 how,.int .i64 by_] W (SpPost p W)):=Lib.hid fun W hb=>by
  have h:=spoilt_is 14 p A1 c1 at_ how by_ W (rep_next HRP.out hb) (by have:=HF.out.size; omega) HRR.out.1 HRR.out.2.1 HRR.out.2.2
  rw [HPP.out.1,HPP.out.2.1,HPP.out.2.2.1,HPP.out.2.2.2] at h
  exact h
 clear hnp hpk hpn hpm hW1 hgp hrp HV HR HP
 refine wp_region_held_drew (S:=fun W=>Below W1.heap.size W1 W) (by kernel_rfl) (Below.refl _ _).drew (fun hS0=>?_)
 refine wpAnyH_take (i:=0) (v:=?_) rfl (by kernel_rfl) (by kernel_rfl) (by kernel_rfl) (fun _ _ _ h=>h) (Or.inl ⟨by rfl,?_⟩) hS0 ?_; rotate_left; (intro w hSw; (try dsimp only at hSw); obtain ⟨z0,z1,z2,z3⟩:=HCL.out w hSw; go_simp; try with_reducible rfl)
 refine wpAnyH_take (i:=1) (v:=?_) rfl (by kernel_rfl) (by kernel_rfl) (by kernel_rfl) (fun _ _ _ h=>h) (Or.inl ⟨by rfl,?_⟩) hS0 ?_; rotate_left; (intro w hSw; (try dsimp only at hSw); obtain ⟨z0,z1,z2,z3⟩:=HCL.out w hSw; go_simp; try with_reducible rfl)
 refine wpAnyH_take (i:=2) (v:=?_) rfl (by kernel_rfl) (by kernel_rfl) (by kernel_rfl) (fun _ _ _ h=>h) (Or.inl ⟨by rfl,?_⟩) hS0 ?_; rotate_left; (intro w hSw; (try dsimp only at hSw); go_simp; try with_reducible rfl)
 refine wpAnyH_take (i:=3) (v:=?_) rfl (by kernel_rfl) (by kernel_rfl) (by kernel_rfl) (fun _ _ _ h=>h) (Or.inl ⟨by rfl,?_⟩) hS0 ?_; rotate_left; (intro w hSw; (try dsimp only at hSw); go_simp; try with_reducible rfl)
 refine wpAnyH_take (i:=4) (v:=?_) rfl (by kernel_rfl) (by kernel_rfl) (by kernel_rfl) (fun _ _ _ h=>h) (Or.inl ⟨by rfl,?_⟩) hS0 ?_; rotate_left; (intro w hSw; (try dsimp only at hSw); go_simp; try with_reducible rfl)
 refine wpAnyH_take (i:=6) (v:=?_) rfl (by kernel_rfl) (by kernel_rfl) (by kernel_rfl) (fun _ _ _ h=>h) (Or.inl ⟨by rfl,?_⟩) hS0 ?_; rotate_left; (intro w hSw; (try dsimp only at hSw); go_simp; try with_reducible rfl)
 conv=>arg 8; simp [go_sem]
 conv=>arg 7; simp
 obtain ⟨w,hw⟩:∃ w,w = W1.drew:=⟨_,rfl⟩
 have hS:Below W1.heap.size W1 w:=by rw [hw]; exact hS0
 rw [← hw]
 clear hw hS0
 refine wpAnyH_ready (rs:=[5]) (by kernel_rfl) (by simp) ?_
 refine AllReadyH.cons rfl (fun K hK=>?_) AllReadyH.nil
 go_simp
 go_at_call 11
 refine (HSP.out _ hS).mono ?_
 rintro e w2 ⟨q,Aq,cq,Dq,rfl,hsq,hrq,hb2⟩
 try go_simp
 have hS2:=bt hS hb2
 refine hK.out _ _ hS2 (fun _=>?_)
 have HSQ:=Lib.hid hsq
 have HRQ:=Lib.hid hrq
 have HS2:=Lib.hid hS2
 clear hK K hsq hrq hb2
 refine wpAnyH_ready (rs:=[7]) (by kernel_rfl) (by simp) ?_
 refine AllReadyH.cons rfl (fun K hK=>?_) AllReadyH.nil
 go_simp
 go_at_call 12
 refine (HPR.out _ (bt HB1.out hS2)).mono ?_
 rintro e w3 ⟨r,Ar,cr,rfl,hir,hrr,hb3⟩
 try go_simp
 have hS3:=bt hS2 hb3
 refine hK.out _ _ hS3 (fun _=>?_)
 clear hK K
 obtain ⟨ba_,hba⟩:∃ z,z = w3.heap.size:=⟨_,rfl⟩
 obtain ⟨W4,hW4⟩:∃ W,W = w3.alloc (.cells #[.int .i64 pk,.int .i64 pn,.int .i64 pm,.slice A1 np c1,.int .i64 q.k,.int .i64 q.n,.int .i64 q.m,.slice Aq q.kids.length cq,.int .i64 r.k,.int .i64 r.n,.int .i64 r.m,.slice Ar r.kids.length cr] 25):=⟨_,rfl⟩
 have r34:(bsN 3 #[(0,.agg #[.int .i64 pk,.int .i64 pn,.int .i64 pm,.slice A1 np c1]),(1,.agg #[.int .i64 q.k,.int .i64 q.n,.int .i64 q.m,.slice Aq q.kids.length cq]),(2,.agg #[.int .i64 r.k,.int .i64 r.n,.int .i64 r.m,.slice Ar r.kids.length cr])]).run Tryd.prog w3 = .ok (.slice (some ⟨ba_,0,none⟩) 3 3) W4:=by rw [hW4,hba]; exact run_bs3 w3 _ _ _ _ _ _ _ _ _ _ _ _
 have k34:Blk W4 ba_ 25 #[.int .i64 pk,.int .i64 pn,.int .i64 pm,.slice A1 np c1,.int .i64 q.k,.int .i64 q.n,.int .i64 q.m,.slice Aq q.kids.length cq,.int .i64 r.k,.int .i64 r.n,.int .i64 r.m,.slice Ar r.kids.length cr]:=by rw [hW4,hba]; exact Blk.new _ _ _
 have hb34:Below w3.heap.size w3 W4:=by rw [hW4]; exact below_new _ _
 have hS4:=bt hS3 hb34
 have HY:Hid (∀ i,i < 3→∃ (y:T) (Ay:Option Addr) (cy:Nat),EYo W4 ba_ i y Ay cy):=Lib.hid (by
  intro i hi3
  have h3:i = 0∨i = 1∨i = 2:=by omega
  rcases h3 with rfl | rfl | rfl
  ·refine ⟨p,A1,c1,fun j v hv=>?_,(rep_next HRP.out hS4).deeper (by omega),by have:=HF.out.size; omega⟩
   rw [k34.cell]
   have e:nd p A1 c1 = [.int .i64 pk,.int .i64 pn,.int .i64 pm,.slice A1 np c1]:=by unfold nd; rw [HPP.out.1,HPP.out.2.1,HPP.out.2.2.1,HPP.out.2.2.2]
   rw [e] at hv
   match j,hv with | 0,hv=>exact hv | 1,hv=>exact hv | 2,hv=>exact hv | 3,hv=>exact hv
  ·have h1:=HSQ.out
   have h2:=HF.out.size
   refine ⟨q,Aq,cq,fun j v hv=>by rw [k34.cell]; match j,hv with | 0,hv=>exact hv | 1,hv=>exact hv | 2,hv=>exact hv | 3,hv=>exact hv,(rep_next HRQ.out (bt hb3 hb34)).tight (by have:=depth_le_size q; omega),by omega⟩
  ·have h1:=hir.2.2.1
   exact ⟨r,Ar,cr,fun j v hv=>by rw [k34.cell]; match j,hv with | 0,hv=>exact hv | 1,hv=>exact hv | 2,hv=>exact hv | 3,hv=>exact hv,(rep_next (hrr.mono fun b hb=>hb.2) hb34).deeper (by omega),by omega⟩)
 have HB4:Hid (Below wz.heap.size wz W4):=Lib.hid (bt HB1.out hS4)
 clear hba hW4 k34 hb34 hir hrr hb3 hS3
 refine wpAnyH_ready (rs:=[8]) (by kernel_rfl) (by simp) ?_
 refine AllReadyH.cons rfl (fun K hK=>?_) AllReadyH.nil
 go_simp
 refine hK.out _ _ hS4 (fun _=>?_)
 clear hK K r34
 refine wpAnyH_ready (rs:=[9]) (by kernel_rfl) (by simp) ?_
 refine AllReadyH.cons rfl (fun K hK=>?_) AllReadyH.nil
 go_simp
 refine hK.out _ _ hS4 (fun _=>?_)
 clear hK K
 refine wpAnyH_done (by kernel_rfl) ?_ _
 clear hS4 hS2 hS
 have HBX:Hid (∀ W,Below W4.heap.size W4 W→ST W∧0 < W.heap.size):=Lib.hid fun W hb=>by
  have h:=bt HB4.out hb
  exact ⟨HT.out.below h HG.out,Nat.lt_of_lt_of_le HG.out h.size⟩
 go_wp2_with fail
 go_loopw [15] (fun i wr=>∃ (kk:Nat),i = .int .i64 (kk:Int)∧kk≤3∧Hid (Below W4.heap.size W4 wr)) (fun i _=>3 - (intOf i).toNat)
 case atStart=>exact ⟨0,rfl,by omega,Below.refl _ _⟩
 case round =>
  obtain ⟨kk,rfl,hk3,HBR⟩:=hrel
  obtain ⟨Wi,hWi⟩:∃ W,W = wr:=⟨_,rfl⟩
  subst hWi
  by_cases hlt:kk < 3
  ·have hlt2:(kk:Int) < 3:=by omega
   have hdk:decide (kk < 3) = true:=by simpa using hlt
   have hkb2:(0:Int)≤(kk:Int)∧(kk:Int) < 3:=⟨by omega,hlt2⟩
   obtain ⟨y,Ay,cy,hey⟩:=HY.out kk hlt
   have HEY:=Lib.hid hey
   obtain ⟨yk,hyk⟩:∃ z,z = y.k:=⟨_,rfl⟩
   obtain ⟨yn,hyn⟩:∃ z,z = y.n:=⟨_,rfl⟩
   obtain ⟨ym,hym⟩:∃ z,z = y.m:=⟨_,rfl⟩
   obtain ⟨yl,hyl⟩:∃ z,z = y.kids.length:=⟨_,rfl⟩
   have hbl:ba_ < W4.heap.size:=block_lt_of_cell (hey.cell 0 _ rfl)
   have HCY:Hid (∀ W,Below W4.heap.size W4 W→W.cell? ⟨ba_,kk * 4,none⟩ = some (.int .i64 yk)∧W.cell? ⟨ba_,kk * 4 + 1,none⟩ = some (.int .i64 yn)∧W.cell? ⟨ba_,kk * 4 + 2,none⟩ = some (.int .i64 ym)∧W.cell? ⟨ba_,kk * 4 + 3,none⟩ = some (.slice Ay yl cy)):=Lib.hid fun W hb=>by
    have e:∀ j v,(nd y Ay cy)[j]? = some v→W.cell? ⟨ba_,kk * 4 + j,none⟩ = some v:=fun j v hv=>(hb.cell (p:=⟨ba_,kk * 4 + j,none⟩) hbl).trans (hey.cell j v hv)
    exact ⟨by rw [hyk]; exact e 0 _ rfl,by rw [hyn]; exact e 1 _ rfl,by rw [hym]; exact e 2 _ rfl,by rw [hyl]; exact e 3 _ rfl⟩
   have HYY:Hid (y.k = yk∧y.n = yn∧y.m = ym∧y.kids.length = yl):=Lib.hid ⟨hyk.symm,hyn.symm,hym.symm,hyl.symm⟩
   obtain ⟨vb,hvb⟩:∃ v,v = isProg y:=⟨_,rfl⟩
   have HVAL:Hid (∀ W,Below W4.heap.size W4 W→Calls Tryd.prog 18 #[.agg #[.int .i64 yk,.int .i64 yn,.int .i64 ym,.slice Ay yl cy]] W fun e w'=>e = .returned (.bool vb)∧Below W.heap.size W w'):=Lib.hid fun W hb=>by
    rw [hyk,hyn,hym,hyl,hvb]
    exact tvalid_is 1000 y (Lt W.heap.size) Ay cy W (rep_next hey.rep hb) (In.lt _) (by have:=hey.size; omega) (HBX.out W hb).1 (HBX.out W hb).2
   have HVR:Hid (∀ W,Below W4.heap.size W4 W→Calls Tryd.prog 19 #[.agg #[.int .i64 yk,.int .i64 yn,.int .i64 ym,.slice Ay yl cy]] W fun e w'=>e = .returned (.bool vb)∧Below W.heap.size W w'):=Lib.hid fun W hb=>by
    rw [hyk,hyn,hym,hyl,hvb]
    exact valid_is 1000 y (Lt W.heap.size) Ay cy W (rep_next hey.rep hb) (In.lt _) (by have:=hey.size; omega)
   have HVB:=Lib.hid hvb
   clear hey hyk hyn hym hyl hbl hvb
   obtain ⟨z0,z1,z2,z3⟩:=HCY.out Wi HBR.out
   cases vb with
   | false =>
    go_wp2_with (first
     | (go_at_call 18; refine (HVAL.out Wi HBR.out).mono ?_; rintro e wv ⟨rfl,hbv⟩; have HBV1:=Lib.hid (bt HBR.out hbv); obtain ⟨y0,y1,y2,y3⟩:=HCY.out _ HBV1.out; clear hbv)
     | (go_at_call 18; refine (HVAL.out _ HBV1.out).mono ?_; rintro e wv2 ⟨rfl,hbv⟩; have HBV2:=Lib.hid (bt HBV1.out hbv); obtain ⟨y4,y5,y6,y7⟩:=HCY.out _ HBV2.out; clear hbv)
     | (go_at_call 19; refine (HVR.out _ HBV2.out).mono ?_; rintro e wv3 ⟨rfl,hbv⟩; have HBV3:=Lib.hid (bt HBV2.out hbv); clear hbv))
    go_roundw
    case rel=>exact ⟨kk + 1,by go_num,by omega,HBV3.out⟩
    case measure=>simp [intOf]; omega
   | true =>
    go_upto_region 9 with (first
     | (go_at_call 18; refine (HVAL.out Wi HBR.out).mono ?_; rintro e wv ⟨rfl,hbv⟩; have HBV1:=Lib.hid (bt HBR.out hbv); obtain ⟨y0,y1,y2,y3⟩:=HCY.out _ HBV1.out; clear hbv)
     | (go_at_call 19; refine (HVR.out _ HBV1.out).mono ?_; rintro e wv3 ⟨rfl,hbv⟩; have HBV:=Lib.hid (bt HBV1.out hbv); clear hbv))
    clear z0 z1 z2 z3 y0 y1 y2 y3
    obtain ⟨z0,z1,z2,z3⟩:=HCY.out _ HBV.out
    have hiy:isProg y = true:=HVB.out.symm
    have hyl9:yl≤999:=by have h1:=kids_lt y; have h2:=HEY.out.size; have h3:=HYY.out.2.2.2; omega
    go_wp2_with fail
    clear z0 z1 z2 z3
    go_loopw [17] (fun i wr=>∃ (ff:Nat),i = .int .i64 (ff:Int)∧ff≤yl∧Hid (Below W4.heap.size W4 wr)) (fun i _=>yl - (intOf i).toNat)
    case atStart=>exact ⟨0,rfl,Nat.zero_le _,HBV.out⟩
    case round =>
     obtain ⟨ff,rfl,hff,HBF⟩:=hrel
     obtain ⟨Wf,hWf⟩:∃ W,W = wr:=⟨_,rfl⟩
     subst hWf
     by_cases hfl:ff < yl
     ·have hfl2:(ff:Int) < (yl:Int):=by omega
      have hdf:decide (ff < yl) = true:=by simpa using hfl
      have hyz:¬ (yl:Int) = 0:=by omega
      have hyz2:¬ yl = 0:=by omega
      have HSO:Hid (∀ (W:World) (g:Int),Below W4.heap.size W4 W→Calls Tryd.prog 20 #[.agg #[.int .i64 yk,.int .i64 yn,.int .i64 ym,.slice Ay yl cy],.int .i64 (ff:Int),.int .i64 g] W fun e w'=>e = .returned (.bool true)∧Below W.heap.size W w'):=Lib.hid fun W g hb=>by
       have h:=sameOf_is y ff g Ay cy W hiy (by rw [HYY.out.2.2.2]; exact hfl) (rep_next HEY.out.rep hb) (HBX.out W hb).1 (HBX.out W hb).2
       rw [HYY.out.1,HYY.out.2.1,HYY.out.2.2.1,HYY.out.2.2.2] at h
       exact h
      go_upto_region 13 with fail
      refine wp_region_held_drew (S:=fun W=>Below Wf.heap.size Wf W) (by kernel_rfl) (Below.refl _ _).drew (fun hS0=>?_)
      refine wpAnyH_take (i:=0) (v:=?_) rfl (by kernel_rfl) (by kernel_rfl) (by kernel_rfl) (fun _ _ _ h=>h) (Or.inl ⟨by kernel_rfl,?_⟩) hS0 ?_; rotate_left; (intro w hSw; (try dsimp only at hSw); go_simp; try with_reducible rfl)
      refine wpAnyH_take (i:=1) (v:=?_) rfl (by kernel_rfl) (by kernel_rfl) (by kernel_rfl) (fun _ _ _ h=>h) (Or.inl ⟨by kernel_rfl,?_⟩) hS0 ?_; rotate_left; (intro w hSw; (try dsimp only at hSw); go_simp; try with_reducible rfl)
      refine wpAnyH_take (i:=2) (v:=?_) rfl (by kernel_rfl) (by kernel_rfl) (by kernel_rfl) (fun _ _ _ h=>h) (Or.inl ⟨by kernel_rfl,?_⟩) hS0 ?_; rotate_left; (intro w hSw; (try dsimp only at hSw); go_simp; try with_reducible rfl)
      refine wpAnyH_take (i:=3) (v:=?_) rfl (by kernel_rfl) (by kernel_rfl) (by kernel_rfl) (fun _ _ _ h=>h) (Or.inl ⟨by kernel_rfl,?_⟩) hS0 ?_; rotate_left; (intro w hSw; (try dsimp only at hSw); obtain ⟨z0,z1,z2,z3⟩:=HCY.out w (HBF.out.trans (hSw.mono HBF.out.size)); go_simp; try with_reducible rfl)
      refine wpAnyH_take (i:=4) (v:=?_) rfl (by kernel_rfl) (by kernel_rfl) (by kernel_rfl) (fun _ _ _ h=>h) (Or.inl ⟨by kernel_rfl,?_⟩) hS0 ?_; rotate_left; (intro w hSw; (try dsimp only at hSw); go_simp; try with_reducible rfl)
      refine wpAnyH_take (i:=5) (v:=?_) rfl (by kernel_rfl) (by kernel_rfl) (by kernel_rfl) (fun _ _ _ h=>h) (Or.inl ⟨by kernel_rfl,?_⟩) hS0 ?_; rotate_left; (intro w hSw; (try dsimp only at hSw); go_simp; try with_reducible rfl)
      refine wpAnyH_ready (rs:=[6]) (by kernel_rfl) (by simp) ?_
      refine AllReadyH.cons rfl (fun K hK=>?_) AllReadyH.nil
      go_simp
      go_at_call 20
      refine (HSO.out _ _ (bt HBF.out hS0)).mono ?_
      rintro e w21 ⟨rfl,hb21⟩
      try go_simp
      have hS1:=bt hS0 hb21
      refine hK.out _ _ hS1 (fun _=>?_)
      clear hK K
      refine wpAnyH_take (i:=7) (v:=?_) rfl (by kernel_rfl) (by kernel_rfl) (by kernel_rfl) (fun _ _ _ h=>h) (Or.inl ⟨by kernel_rfl,?_⟩) hS1 ?_; rotate_left; (intro w hSw; (try dsimp only at hSw); go_simp; try with_reducible rfl)
      refine wpAnyH_take (i:=8) (v:=?_) rfl (by kernel_rfl) (by kernel_rfl) (by kernel_rfl) (fun _ _ _ h=>h) (Or.inl ⟨by kernel_rfl,?_⟩) hS1 ?_; rotate_left; (intro w hSw; (try dsimp only at hSw); go_simp; try with_reducible rfl)
      refine wpAnyH_take (i:=9) (v:=?_) rfl (by kernel_rfl) (by kernel_rfl) (by kernel_rfl) (fun _ _ _ h=>h) (Or.inl ⟨by kernel_rfl,?_⟩) hS1 ?_; rotate_left; (intro w hSw; (try dsimp only at hSw); go_simp; try with_reducible rfl)
      refine wpAnyH_take (i:=10) (v:=?_) rfl (by kernel_rfl) (by kernel_rfl) (by kernel_rfl) (fun _ _ _ h=>h) (Or.inl ⟨by kernel_rfl,?_⟩) hS1 ?_; rotate_left; (intro w hSw; (try dsimp only at hSw); go_simp; try with_reducible rfl)
      refine wpAnyH_take (i:=11) (v:=?_) rfl (by kernel_rfl) (by kernel_rfl) (by kernel_rfl) (fun _ _ _ h=>h) (Or.inl ⟨by kernel_rfl,?_⟩) hS1 ?_; rotate_left; (intro w hSw; (try dsimp only at hSw); go_simp; try with_reducible rfl)
      refine wpAnyH_take (i:=12) (v:=?_) rfl (by kernel_rfl) (by kernel_rfl) (by kernel_rfl) (fun _ _ _ h=>h) (Or.inl ⟨by kernel_rfl,?_⟩) hS1 ?_; rotate_left; (intro w hSw; (try dsimp only at hSw); obtain ⟨z0,z1,z2,z3⟩:=HCY.out w (HBF.out.trans (hSw.mono HBF.out.size)); go_simp; try with_reducible rfl)
      refine wpAnyH_take (i:=13) (v:=?_) rfl (by kernel_rfl) (by kernel_rfl) (by kernel_rfl) (fun _ _ _ h=>h) (Or.inl ⟨by kernel_rfl,?_⟩) hS1 ?_; rotate_left; (intro w hSw; (try dsimp only at hSw); go_simp; try with_reducible rfl)
      refine wpAnyH_take (i:=14) (v:=?_) rfl (by kernel_rfl) (by kernel_rfl) (by kernel_rfl) (fun _ _ _ h=>h) (Or.inl ⟨by kernel_rfl,?_⟩) hS1 ?_; rotate_left; (intro w hSw; (try dsimp only at hSw); go_simp; try with_reducible rfl)
      refine wpAnyH_take (i:=15) (v:=?_) rfl (by kernel_rfl) (by kernel_rfl) (by kernel_rfl) (fun _ _ _ h=>h) (Or.inl ⟨by kernel_rfl,?_⟩) hS1 ?_; rotate_left; (intro w hSw; (try dsimp only at hSw); go_simp; try with_reducible rfl)
      refine wpAnyH_take (i:=16) (v:=?_) rfl (by kernel_rfl) (by kernel_rfl) (by kernel_rfl) (fun _ _ _ h=>h) (Or.inl ⟨by kernel_rfl,?_⟩) hS1 ?_; rotate_left; (intro w hSw; (try dsimp only at hSw); go_simp; try with_reducible rfl)
      refine wpAnyH_take (i:=17) (v:=?_) rfl (by kernel_rfl) (by kernel_rfl) (by kernel_rfl) (fun _ _ _ h=>h) (Or.inl ⟨by kernel_rfl,?_⟩) hS1 ?_; rotate_left; (intro w hSw; (try dsimp only at hSw); go_simp; try with_reducible rfl)
      refine wpAnyH_ready (rs:=[18]) (by kernel_rfl) (by simp) ?_
      refine AllReadyH.cons rfl (fun K hK=>?_) AllReadyH.nil
      go_simp
      go_at_call 20
      refine (HSO.out _ _ (bt HBF.out hS1)).mono ?_
      rintro e w22 ⟨rfl,hb22⟩
      try go_simp
      have hS2:=bt hS1 hb22
      refine hK.out _ _ hS2 (fun _=>?_)
      clear hK K
      refine wpAnyH_take (i:=19) (v:=?_) rfl (by kernel_rfl) (by kernel_rfl) (by kernel_rfl) (fun _ _ _ h=>h) (Or.inl ⟨by kernel_rfl,?_⟩) hS2 ?_; rotate_left; (intro w hSw; (try dsimp only at hSw); go_simp; try with_reducible rfl)
      refine wpAnyH_take (i:=20) (v:=?_) rfl (by kernel_rfl) (by kernel_rfl) (by kernel_rfl) (fun _ _ _ h=>h) (Or.inl ⟨by kernel_rfl,?_⟩) hS2 ?_; rotate_left; (intro w hSw; (try dsimp only at hSw); go_simp; try with_reducible rfl)
      refine wpAnyH_take (i:=21) (v:=?_) rfl (by kernel_rfl) (by kernel_rfl) (by kernel_rfl) (fun _ _ _ h=>h) (Or.inl ⟨by kernel_rfl,?_⟩) hS2 ?_; rotate_left; (intro w hSw; (try dsimp only at hSw); go_simp; try with_reducible rfl)
      refine wpAnyH_take (i:=22) (v:=?_) rfl (by kernel_rfl) (by kernel_rfl) (by kernel_rfl) (fun _ _ _ h=>h) (Or.inl ⟨by kernel_rfl,?_⟩) hS2 ?_; rotate_left; (intro w hSw; (try dsimp only at hSw); go_simp; try with_reducible rfl)
      refine wpAnyH_take (i:=23) (v:=?_) rfl (by kernel_rfl) (by kernel_rfl) (by kernel_rfl) (fun _ _ _ h=>h) (Or.inl ⟨by kernel_rfl,?_⟩) hS2 ?_; rotate_left; (intro w hSw; (try dsimp only at hSw); go_simp; try with_reducible rfl)
      refine wpAnyH_take (i:=24) (v:=?_) rfl (by kernel_rfl) (by kernel_rfl) (by kernel_rfl) (fun _ _ _ h=>h) (Or.inl ⟨by kernel_rfl,?_⟩) hS2 ?_; rotate_left; (intro w hSw; (try dsimp only at hSw); go_simp; try with_reducible rfl)
      refine wpAnyH_take (i:=25) (v:=?_) rfl (by kernel_rfl) (by kernel_rfl) (by kernel_rfl) (fun _ _ _ h=>h) (Or.inl ⟨by kernel_rfl,?_⟩) hS2 ?_; rotate_left; (intro w hSw; (try dsimp only at hSw); obtain ⟨z0,z1,z2,z3⟩:=HCY.out w (HBF.out.trans (hSw.mono HBF.out.size)); go_simp; try with_reducible rfl)
      refine wpAnyH_take (i:=26) (v:=?_) rfl (by kernel_rfl) (by kernel_rfl) (by kernel_rfl) (fun _ _ _ h=>h) (Or.inl ⟨by kernel_rfl,?_⟩) hS2 ?_; rotate_left; (intro w hSw; (try dsimp only at hSw); go_simp; try with_reducible rfl)
      refine wpAnyH_take (i:=27) (v:=?_) rfl (by kernel_rfl) (by kernel_rfl) (by kernel_rfl) (fun _ _ _ h=>h) (Or.inl ⟨by kernel_rfl,?_⟩) hS2 ?_; rotate_left; (intro w hSw; (try dsimp only at hSw); go_simp; try with_reducible rfl)
      refine wpAnyH_ready (rs:=[28]) (by kernel_rfl) (by simp) ?_
      refine AllReadyH.cons rfl (fun K hK=>?_) AllReadyH.nil
      go_simp
      go_at_call 20
      refine (HSO.out _ _ (bt HBF.out hS2)).mono ?_
      rintro e w23 ⟨rfl,hb23⟩
      try go_simp
      have hS3:=bt hS2 hb23
      refine hK.out _ _ hS3 (fun _=>?_)
      clear hK K
      refine wpAnyH_take (i:=29) (v:=?_) rfl (by kernel_rfl) (by kernel_rfl) (by kernel_rfl) (fun _ _ _ h=>h) (Or.inl ⟨by kernel_rfl,?_⟩) hS3 ?_; rotate_left; (intro w hSw; (try dsimp only at hSw); go_simp; try with_reducible rfl)
      refine wpAnyH_take (i:=30) (v:=?_) rfl (by kernel_rfl) (by kernel_rfl) (by kernel_rfl) (fun _ _ _ h=>h) (Or.inl ⟨by kernel_rfl,?_⟩) hS3 ?_; rotate_left; (intro w hSw; (try dsimp only at hSw); go_simp; try with_reducible rfl)
      refine wpAnyH_take (i:=31) (v:=?_) rfl (by kernel_rfl) (by kernel_rfl) (by kernel_rfl) (fun _ _ _ h=>h) (Or.inl ⟨by kernel_rfl,?_⟩) hS3 ?_; rotate_left; (intro w hSw; (try dsimp only at hSw); go_simp; try with_reducible rfl)
      refine wpAnyH_take (i:=32) (v:=?_) rfl (by kernel_rfl) (by kernel_rfl) (by kernel_rfl) (fun _ _ _ h=>h) (Or.inl ⟨by kernel_rfl,?_⟩) hS3 ?_; rotate_left; (intro w hSw; (try dsimp only at hSw); go_simp; try with_reducible rfl)
      refine wpAnyH_take (i:=33) (v:=?_) rfl (by kernel_rfl) (by kernel_rfl) (by kernel_rfl) (fun _ _ _ h=>h) (Or.inl ⟨by kernel_rfl,?_⟩) hS3 ?_; rotate_left; (intro w hSw; (try dsimp only at hSw); go_simp; try with_reducible rfl)
      refine wpAnyH_take (i:=34) (v:=?_) rfl (by kernel_rfl) (by kernel_rfl) (by kernel_rfl) (fun _ _ _ h=>h) (Or.inl ⟨by kernel_rfl,?_⟩) hS3 ?_; rotate_left; (intro w hSw; (try dsimp only at hSw); go_simp; try with_reducible rfl)
      refine wpAnyH_take (i:=35) (v:=?_) rfl (by kernel_rfl) (by kernel_rfl) (by kernel_rfl) (fun _ _ _ h=>h) (Or.inl ⟨by kernel_rfl,?_⟩) hS3 ?_; rotate_left; (intro w hSw; (try dsimp only at hSw); obtain ⟨z0,z1,z2,z3⟩:=HCY.out w (HBF.out.trans (hSw.mono HBF.out.size)); go_simp; try with_reducible rfl)
      refine wpAnyH_take (i:=36) (v:=?_) rfl (by kernel_rfl) (by kernel_rfl) (by kernel_rfl) (fun _ _ _ h=>h) (Or.inl ⟨by kernel_rfl,?_⟩) hS3 ?_; rotate_left; (intro w hSw; (try dsimp only at hSw); go_simp; try with_reducible rfl)
      refine wpAnyH_ready (rs:=[37]) (by kernel_rfl) (by simp) ?_
      refine AllReadyH.cons rfl (fun K hK=>?_) AllReadyH.nil
      go_simp
      go_at_call 20
      refine (HSO.out _ _ (bt HBF.out hS3)).mono ?_
      rintro e w24 ⟨rfl,hb24⟩
      try go_simp
      have hS4:=bt hS3 hb24
      refine hK.out _ _ hS4 (fun _=>?_)
      clear hK K
      refine wpAnyH_take (i:=38) (v:=?_) rfl (by kernel_rfl) (by kernel_rfl) (by kernel_rfl) (fun _ _ _ h=>h) (Or.inl ⟨by kernel_rfl,?_⟩) hS4 ?_; rotate_left; (intro w hSw; (try dsimp only at hSw); go_simp; try with_reducible rfl)
      refine wpAnyH_take (i:=39) (v:=?_) rfl (by kernel_rfl) (by kernel_rfl) (by kernel_rfl) (fun _ _ _ h=>h) (Or.inl ⟨by kernel_rfl,?_⟩) hS4 ?_; rotate_left; (intro w hSw; (try dsimp only at hSw); go_simp; try with_reducible rfl)
      refine wpAnyH_done (by kernel_rfl) ?_ _
      have HBF4:Hid (Below W4.heap.size W4 w24):=Lib.hid (bt HBF.out hS4)
      clear hS0 hS1 hS2 hS3 hS4
      go_wp2_with fail
      go_roundw
      case rel=>exact ⟨ff + 1,by go_num,by omega,HBF4.out⟩
      case measure=>simp [intOf]; omega
     ·have hdf:decide (ff < yl) = false:=by simpa using hfl
      go_wp2_with fail
      go_roundw
      case rel=>exact ⟨kk + 1,by go_num,by omega,HBF.out⟩
      case measure=>simp [intOf]; omega
  ·have hdk:decide (kk < 3) = false:=by simpa using hlt
   go_wp2_with (go_at_call 17; refine (lives_is _ (HBX.out _ HBR.out).1 (HBX.out _ HBR.out).2).mono ?_; rintro e wl ⟨rfl,hbl⟩; have HBL:=Lib.hid hbl; clear hbl)
   go_ret
   exact ⟨rfl,bt (bt HB4.out HBR.out) HBL.out⟩
end Go.Proofs.YtkkenbalpnmfmaaDoor
