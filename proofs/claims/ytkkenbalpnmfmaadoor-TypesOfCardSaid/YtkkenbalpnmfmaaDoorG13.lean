/- Texts joined. -/
import Derived.Test.YtkkenbalpnmfmaaDoorG12
set_option linter.unusedVariables false
namespace Go.Proofs.YtkkenbalpnmfmaaDoor
open Go.RowKit WM TR TY

set_option maxRecDepth 100000 in
set_option maxHeartbeats 8000000 in
theorem call_is (m : Par) (s : Sc) (Dp d : Nat) (hE : GXC m s Dp d) (a : Nat) (l kd D : Int) (w : World) (hD : (D - 1).toNat = d) (hD0 : 0 ≤ D) (hD3 : D ≤ 10) (hm : Mk m a l w) (hx : Cx m s (Dp + 1) w) (ha : a + 1000 * (d + 1) + 900 ≤ 900000) (hl0 : -800000 + 1000 * ((d : Int) + 1) + 900 ≤ l) (hl1 : l ≤ 1000) (hkd : inRange kd) (hcap : capE d ≤ 15) :
    Calls Tryd.prog 90 #[.pointer (some ⟨m.g,0,none⟩),.int .i64 kd,.int .i64 D] w (CPost m s kd d a l w):=by
  obtain ⟨i0,hi,hz0,hz1,hz2⟩:=info_parts node_info
  obtain ⟨r,hr⟩:∃ r,r = w.heap.size:=⟨_,rfl⟩
  have hgr:m.g < r:=by rw [hr]; exact hm.lt
  have HGR:Hid (m.g < w.heap.size):=Lib.hid hm.lt
  have HR:=Lib.hid hr
  obtain ⟨W1,hW1⟩:∃ W1,W1 = w.alloc (.cells #[.int .i64 0,.int .i64 0,.int .i64 0,.slice none 0 0] 25):=⟨_,rfl⟩
  have HM1:Hid (Mk m a l W1):=Lib.hid (by rw [hW1]; exact hm.alloc _)
  have HG1:Hid (w.grownBy W1 (some m.g)):=Lib.hid (by rw [hW1]; exact gw_alloc (gw_refl w m.g) _)
  have HX1:Hid (Cx m s (Dp + 1) W1):=Lib.hid (hx.gw HG1.out)
  have HR1:Hid (Blk W1 r 25 #[.int .i64 0,.int .i64 0,.int .i64 0,.slice none 0 0]):=Lib.hid (by rw [hW1,hr]; exact Blk.new _ _ _)
  have HW1:=Lib.hid hW1
  have HE:=Lib.hid hE
  have HD:=Lib.hid hD
  have HSF:Hid (s.funs = m.p.kids):=Lib.hid hx.sf
  obtain ⟨nf,hnf⟩:∃ nf,nf = m.p.kids.length:=⟨_,rfl⟩
  have hnf1:1≤nf:=by rw [hnf,← hx.sf]; exact hx.ok.f1
  have hnf6:nf≤6:=by rw [hnf,← hx.sf]; exact hx.ok.f3
  have HNF:=Lib.hid hnf
  have HCAP:=Lib.hid hcap
  have HKD:=Lib.hid hkd
  obtain ⟨q,HQ,hqn⟩:=zletter (L:=m.L) a (nf:Int) (by omega)
  have c6:∀ {a l W},Mk m a l W→W.cell? ⟨m.g,6,none⟩ = some (.slice m.AP nf m.cP):=fun {a l W} h=>by rw [hnf]; exact h.cell 6
  have C6:Hid (∀ a l W,Mk m a l W→W.cell? ⟨m.g,6,none⟩ = some (.slice m.AP nf m.cP)):=Lib.hid fun a l W h=>c6 h
  have h6:=c6 HM1.out
  have hle:Hid (w.heap.size≤r):=Lib.hid (Nat.le_of_eq HR.out.symm)
  clear hr hm hW1 hx hE hD hnf c6 hcap hkd
  go_enter Tryd.func90,Tryd.ntmps90
  go_upto_region 1 with fail
  rw [← HW1.out,← HR.out]
  go_cut [7] from 10 to 17 (fun s7 wv=>∃ V:World,V = wv∧s7 = .int .i64 (q:Int)∧Hid (Mk m (a + 1) l V∧W1.grownBy V (some m.g)))
  case first =>
    go_wp2_with (first
      | (go_at_call 86; refine (draw_is m s (Dp + 1) a l nf _ HM1.out HX1.out (by omega) (by omega)).mono ?_; rintro e w2 ⟨rfl,hm2,hg2⟩; rw [HQ.out]))
    go_meet
    exact ⟨_,rfl,rfl,hm2,hg2⟩
  case rest =>
  obtain ⟨V,hwc,rfl,HV⟩:=hcut
  subst hwc
  clear h6
  have HM2:=Lib.hid HV.out.1
  have HG2:=Lib.hid (gw_trans HG1.out HV.out.2)
  have HX2:=Lib.hid (HX1.out.gw HV.out.2)
  have HR2:=Lib.hid (HR1.out.gw HV.out.2 (by omega))
  have h6:=C6.out _ _ _ HM2.out
  rename_i hK
  refine hK _ _ ?_
  go_step
  go_cut [7] from 18 to 39 (fun s7 wv=>∃ (V3:World) (f a3:Nat),V3 = wv∧s7 = .int .i64 (f:Int)∧Hid (f < nf∧a≤a3∧a3≤a + 3∧Mk m a3 l V3∧V.grownBy V3 (some m.g)))
  case first =>
    by_cases hn1:1 < nf
    · obtain ⟨q8,HQ8,hq8⟩:=zletter (L:=m.L) (a + 1) 8 (by omega)
      obtain ⟨q9,HQ9,hq9⟩:=zletter (L:=m.L) (a + 1 + 1) ((nf:Int) - 1) (by omega)
      have hw1:IntKind.i64.wrap ((nf:Int) - 1) = (nf:Int) - 1:=by rw [IntKind.wrap_i64]; omega
      have hw2:IntKind.i64.wrap (1 + (q9:Int)) = 1 + (q9:Int):=by rw [IntKind.wrap_i64]; omega
      have hd1:decide (1 < nf) = true:=by simp; omega
      have hd2:decide ((1:Int) < (nf:Int)) = true:=by simp; omega
      by_cases hq80:0 < q8
      · go_wp2_with (first
          | (have hm:=HM3; go_at_call 86; refine (draw_is m s (Dp + 1) (a + 1 + 1) l ((nf:Int) - 1) _ HM3.out HX3.out (by omega) (by omega)).mono ?_; rintro e w4 ⟨rfl,hm4,hg4⟩; rw [HQ9.out]; have HM4:=Lib.hid hm4; have HG4:=Lib.hid (gw_trans HG3.out hg4); clear hm4 hg4)
          | (go_at_call 86; refine (draw_is m s (Dp + 1) (a + 1) l 8 _ HM2.out HX2.out (by omega) (by omega)).mono ?_; rintro e w3 ⟨rfl,hm3,hg3⟩; rw [HQ8.out]; have HM3:=Lib.hid hm3; have HX3:=Lib.hid (HX2.out.gw hg3); have HG3:=Lib.hid hg3; have h6':=C6.out _ _ _ hm3; clear hm3 hg3))
        go_meet
        exact ⟨_,1 + q9,a + 1 + 1 + 1,rfl,by push_cast; rfl,by omega,by omega,by omega,HM4.out,HG4.out⟩
      · go_wp2_with (first
          | (go_at_call 86; refine (draw_is m s (Dp + 1) (a + 1) l 8 _ HM2.out HX2.out (by omega) (by omega)).mono ?_; rintro e w3 ⟨rfl,hm3,hg3⟩; rw [HQ8.out]; have HM3:=Lib.hid hm3; have HG3:=Lib.hid hg3; clear hm3 hg3))
        go_meet
        exact ⟨_,q,a + 1 + 1,rfl,rfl,by omega,by omega,by omega,HM3.out,HG3.out⟩
    · have hd1:decide (1 < nf) = false:=by simp; omega
      have hd2:decide ((1:Int) < (nf:Int)) = false:=by simp; omega
      clear hK
      go_wp2_with fail
      go_meet
      exact ⟨_,q,a + 1,rfl,rfl,by omega,by omega,by omega,HM2.out,gw_refl _ _⟩
  case rest =>
  obtain ⟨V3,f,a3,hwc,rfl,HF⟩:=hcut
  subst hwc
  clear h6
  clear hK
  have HM3:=Lib.hid HF.out.2.2.2.1
  have HG3:=Lib.hid (gw_trans HG2.out HF.out.2.2.2.2)
  have HX3:=Lib.hid (HX2.out.gw HF.out.2.2.2.2)
  have HR3:=Lib.hid (HR2.out.gw HF.out.2.2.2.2 (by omega))
  have hfn:f < nf:=HF.out.1
  have ha3:a≤a3∧a3≤a + 3:=⟨HF.out.2.1,HF.out.2.2.1⟩
  have HSZ:Hid (r < V3.heap.size):=Lib.hid HR3.out.lt
  obtain ⟨u,hu⟩:∃ u,m.p.kids[f]? = some u:=⟨_,List.getElem?_eq_getElem (by rw [← HNF.out]; exact hfn)⟩
  have hfh:FHd u:=HX3.out.ok.ff u (by rw [HSF.out]; exact List.mem_of_getElem? hu)
  obtain ⟨b,off,A',c',hA,hbl,hc,hru⟩:=HX3.out.hP.at_ hu
  obtain ⟨N,hN⟩:∃ N:Nat,u.n = (N:Int):=⟨u.n.toNat,by have:=hfh.n0; omega⟩
  have hN2:N≤2:=by have:=hfh.n2; omega
  obtain ⟨nu,hnu⟩:∃ nu,nu = u.kids.length:=⟨_,rfl⟩
  have hNn:N + 1≤nu:=by have:=hfh.kl; omega
  have hnu10:nu≤10:=by have:=hfh.k10; omega
  have HC:Hid (∀ W,V3.grownBy W (some m.g)→W.cell? ⟨b,off + f * 4 + 1,none⟩ = some (.int .i64 (N:Int))∧W.cell? ⟨b,off + f * 4 + 3,none⟩ = some (.slice A' nu c')):=Lib.hid fun W hg=>by
    have hk:=Keeps.gw hg HX3.out.hin HX3.out.hS
    exact ⟨(hk.cell (p:=⟨b,_,none⟩) hbl).trans (by rw [← hN]; exact hc 1 _ rfl),(hk.cell (p:=⟨b,_,none⟩) hbl).trans (by rw [hnu]; exact hc 3 _ rfl)⟩
  have HCK:Hid (∀ (j:Nat),j < N→∃ y b2 o2,u.kids[j]? = some y∧(y.k = 0∨y.k = 1)∧A' = some ⟨b2,o2,none⟩∧∀ W,V3.grownBy W (some m.g)→W.cell? ⟨b2,o2 + j * 4,none⟩ = some (.int .i64 y.k)):=Lib.hid fun j hj=>by
    obtain ⟨y,hy⟩:∃ y,u.kids[j]? = some y:=⟨_,List.getElem?_eq_getElem (by omega)⟩
    obtain ⟨b2,o2,A2,c2,hA2,hbl2,hc2,_⟩:=hru.kid hy
    exact ⟨y,b2,o2,hy,hfh.pl j y (by omega) hy,hA2,fun W hg=>((Keeps.gw hg HX3.out.hin HX3.out.hS).cell (p:=⟨b2,_,none⟩) hbl2).trans (hc2 0 _ rfl)⟩
  have C6':Hid (∀ a l W,Mk m a l W→W.cell? ⟨m.g,6,none⟩ = some (.slice (some ⟨b,off,none⟩) nf m.cP)):=Lib.hid fun a l W h=>by rw [← hA]; exact C6.out a l W h
  have HU:=Lib.hid hu
  have HUN:=Lib.hid hN
  have HFU:=Lib.hid hfh
  have hfb:(0:Int)≤(f:Int)∧(f:Int) < (nf:Int):=⟨by omega,by omega⟩
  have hDw:IntKind.i64.wrap (D - 1) = D - 1:=by rw [IntKind.wrap_i64]; omega
  clear hu hfh hA hbl hc hru hN hnu C6
  go_wp2_with fail
  go_loopw [8,9] (fun s8 s9 wr=>∃ (j:Nat) (v:Value) (ts:List T) (xs:List Value) (a':Nat),j≤N∧v = s8∧s9 = .int .i64 j∧ts.length = j∧Hid (RowG m (ArgQ s u) (capE d) (d + 1) a3 l V3 wr v ts xs a')) (fun _ i _=>N - (intOf i).toNat)
  case atStart=>exact ⟨0,_,[],[],a3,Nat.zero_le _,rfl,rfl,rfl,RowG.start HM3.out⟩
  case round =>
    obtain ⟨j,v,ts,xs,a',hj,rfl,rfl,hts,HRW⟩:=hrel
    have h6:=C6'.out _ _ _ HRW.out.mkr
    obtain ⟨k1,k3⟩:=HC.out _ HRW.out.grown
    obtain ⟨sm,hsm⟩:∃ sm,sm = (ts.map size).sum:=⟨_,rfl⟩
    have hsm2:sm≤30:=by
      have h1:=HRW.out.cap
      have h2:=HCAP.out
      rw [hts,← hsm] at h1
      have h3:j * capE d≤2 * 15:=Nat.mul_le_mul (by omega) h2
      omega
    have haa:a3≤a'∧a'≤a3 + 6 * sm:=⟨HRW.out.lo,by rw [hsm]; exact HRW.out.hi⟩
    by_cases hlt:j < N
    · have hlt2:(j:Int) < N:=by omega
      obtain ⟨y,b2,o2,hy,hyk,hA2,hcy⟩:=HCK.out j hlt
      have k4:=hcy _ HRW.out.grown
      subst hA2
      have hjb:(0:Int)≤(j:Int)∧(j:Int) < (nu:Int):=⟨by omega,by omega⟩
      obtain ⟨yk,hyk2⟩:∃ z,z = y.k:=⟨_,rfl⟩
      rw [← hyk2] at k4 hyk
      have HY:=Lib.hid hy
      have HYK:=Lib.hid hyk2
      have HCE:Hid (Calls Tryd.prog 66 #[.pointer (some ⟨m.g,0,none⟩),.int .i64 yk,.int .i64 (D - 1)] wr (EPost 0 m s yk d a' (l - ((ts.map size).sum:Nat)) wr)):=Lib.hid (HE.out a' _ yk wr (D - 1) HD.out (by omega) HRW.out.mkr (HX3.out.gw HRW.out.grown) (by omega) (by rw [← hsm]; omega) (by rw [← hsm]; omega) hyk)
      have HTS:=Lib.hid hts
      have HSM:=Lib.hid hsm
      clear hy hyk hyk2 hcy hts hsm
      go_wp2_with (first
        | (go_at_call 66; refine HCE.out.mono ?_; rintro e w3 ⟨t, A3, c3, a2, rfl, he, hr3, hm3, hg3, h1, h2, hcp⟩
           have HGE:=Lib.hid he; have HR3:=Lib.hid hr3; have HM3:=Lib.hid hm3; have HG3:=Lib.hid hg3; have HA3:=Lib.hid (And.intro h1 (And.intro h2 hcp))
           have HOW:Hid ((w3.alloc (.cells #[.int .i64 t.k,.int .i64 t.n,.int .i64 t.m,.slice A3 t.kids.length c3] 25)).ownsRow V3.heap.size 25 4 v ts.length xs):=Lib.hid ((HRW.out.own.kept hg3 (.inr fun e=>by have:=(HRW.out.own.lt _ e).1; have:=HGR.out; have:=HG2.out.size; have:=HF.out.2.2.2.2.size; omega)).alloc _)
           clear he hr3 hm3 hg3 h1 h2 hcp)
        | (at_builtin
           refine wpList_append_any _ rfl (.tmp 53) (.tmp 71) 23 rfl V3.heap.size 25 i0 _ 4 48 Tryd.underlying23 hi hz0 hz1 hz2 rfl (by omega) _ ts.length xs rfl HOW.out _ (some ⟨w3.heap.size,0,none⟩) 1 1 (nd t A3 c3) rfl (reads_nd w3 t A3 c3) (nd_one t A3 c3) (len_le (by have:=HTS.out; omega)) (by have:=HTS.out; omega) (by have:=HRW.out.grown.size; have:=HG3.out.size; rw [size_alloc]; omega) ?_
           intro v4 w4 hown4 hgrow4 hnew4
           have HO4:=Lib.hid hown4; have HG4:=Lib.hid hgrow4; have HN4:=Lib.hid hnew4
           clear hown4 hgrow4 hnew4))
      go_roundw
      case rel=>exact ⟨j + 1,_,ts ++ [t],xs ++ nd t A3 c3,a2,by omega,rfl,by go_num,by rw [List.length_append,HTS.out]; rfl,RowG.next (by have:=HGR.out; have:=HG2.out.size; have:=HF.out.2.2.2.2.size; omega) HRW.out (fun z hz=>by rw [HTS.out,HY.out] at hz; rw [← Option.some.inj hz,← HYK.out]; exact HGE.out) HR3.out HM3.out HG3.out HA3.out.1 HA3.out.2.1 HA3.out.2.2 HO4.out HG4.out HN4.out⟩
      case measure=>simp [intOf]; omega
    · have hjn:j = N:=by omega
      subst hjn
      obtain ⟨A9,c9,hv,hcap⟩:=own_len HRW.out.own
      obtain ⟨kk,hkk⟩:∃ kk,kk = ts.length:=⟨_,rfl⟩
      rw [← hkk] at hv hcap
      have HK2:Hid (kk = j):=Lib.hid (by omega)
      subst hv
      have HSM:=Lib.hid hsm
      have HTS:=Lib.hid hts
      have HCP9:=Lib.hid hcap
      have HKK:=Lib.hid hkk
      have HMW:Hid (Mk m a' (l - (sm:Int)) wr):=Lib.hid (by rw [hsm]; exact HRW.out.mkr)
      have HRR:Hid (Blk wr r 25 #[.int .i64 0,.int .i64 0,.int .i64 0,.slice none 0 0]):=Lib.hid (HR3.out.gw HRW.out.grown (by omega))
      clear hsm hts hcap hkk hlt
      go_wp2_with (go_at_call 88; refine (mnode_is m a' (l - (sm:Int)) kd (f:Int) _ A9 kk c9 HMW.out (by omega) (by omega)).mono ?_; rintro e w5 ⟨rfl,hm5,hg5⟩; have HM5:=Lib.hid hm5; have HG5:=Lib.hid hg5; have HR5:Hid (Blk w5 r 25 #[.int .i64 0,.int .i64 0,.int .i64 0,.slice none 0 0]):=Lib.hid (HRR.out.gw hg5 (by omega)); clear hm5 hg5; have r0:=HR5.out.cell 0; have r1:=HR5.out.cell 1; have r2:=HR5.out.cell 2; have r3:=HR5.out.cell 3; have f0:=HR5.out.frozen 0; have f1:=HR5.out.frozen 1; have f2:=HR5.out.frozen 2; have f3:=HR5.out.frozen 3; simp only [List.getElem?_toArray,List.getElem?_cons_zero,List.getElem?_cons_succ] at r0 r1 r2 r3)
      have hp:=put4_mk HM5.out (gw_trans (gw_trans HG3.out HRW.out.grown) HG5.out) hle.out HGR.out (.int .i64 kd) (.int .i64 (f:Int)) (.int .i64 0) (.slice A9 kk c9)
      have hg4:=(gw4 w5 r (.int .i64 kd) (.int .i64 (f:Int)) (.int .i64 0) (.slice A9 kk c9))
      refine bodyPost_ret (v:=.agg #[.int .i64 kd,.int .i64 (f:Int),.int .i64 0,.slice A9 kk c9]) (by simp [results,Tryd.results90,go_sem,r0,r1,r2,r3]) rfl ?_
      have hrep:Rep wr (fun b=>V3.heap.size≤b∧b < wr.heap.size) (d + 1 + 1) ⟨kd,f,0,ts⟩ (nd ⟨kd,f,0,ts⟩ A9 c9):=RowG.rep (by rw [← HKK.out]; exact HRW.out) (by rw [← HKK.out]; exact HCP9.out) HKD.out (small (by omega) (by omega))
      have hs3:=HG3.out.size
      have hs5:=HG5.out.size
      have hsr:=HSZ.out
      have hgr2:=HGR.out
      refine ⟨f,u,ts,A9,c9,a',by rw [HKK.out],by rw [HSF.out]; exact HU.out,by rw [HUN.out,HTS.out],fun i x y hx hy=>HRW.out.all i x hx y hy,?_,?_,hp.2,by omega,by rw [← HSM.out]; omega,?_⟩
      · refine Rep.mono (fun b hb=>?_) (put4_rep (hrep.keep (w':=w5) fun b hb=>HG5.out.block b hb.2 (fun e=>by have:=Option.some.inj e; omega)) (r:=r) (fun hb=>by have:=hb.1; omega) _ _ _ _)
        rw [hg4.2]
        exact ⟨by omega,by omega⟩
      · have e:l - ((1 + (ts.map size).sum:Nat):Int) = l - (sm:Int) - 1:=by rw [← HSM.out]; push_cast; omega
        rw [e]; exact hp.1
      · have h1:=HRW.out.cap
        have h2:ts.length * capE d≤2 * capE d:=Nat.mul_le_mul_right _ (by rw [HTS.out]; omega)
        omega
end Go.Proofs.YtkkenbalpnmfmaaDoor
