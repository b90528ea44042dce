/- Texts joined. -/
import Derived.Test.YtkkenbalpnmfmaaDoorG15
set_option linter.unusedVariables false
namespace Go.Proofs.YtkkenbalpnmfmaaDoor
open Go.RowKit WM TR TY

theorem zexpr_all (m:Par) (s:Sc) (Dp:Nat):∀ d,d≤3→GXC m s Dp d:=fun d =>
  Nat.strongRecOn d fun d ih hd=>zexpr_step m s Dp d hd fun e he=>ih e he (by omega)
def capS:Nat→Nat
  | 0=>16
  | e + 1=>10 + 3 * capS e
theorem capS_le:∀ e,e≤3→capS e≤562
  | 0,_=>by decide
  | 1,_=>by decide
  | 2,_=>by decide
  | 3,_=>by decide
  | e + 4,h=>by omega
theorem capS_ge:∀ e,16≤capS e
  | 0=>Nat.le_refl _
  | e + 1=>by have:=capS_ge e; rw [capS]; omega
def SPost (x:Nat) (m:Par) (Q:T→Prop) (R K:Nat) (lo:Int) (a:Nat) (l:Int) (w:World) (e:Ending) (w':World):Prop :=
  ∃ (t:T) (A':Option Addr) (c' a':Nat),e = .returned (.agg #[.int .i64 t.k,.int .i64 t.n,.int .i64 t.m,.slice A' t.kids.length c'])∧Q t∧Rep w' (fun b=>w.heap.size≤b∧b < w'.heap.size) R t (nd t A' c')∧Mk m a' (l - size t) w'∧w.grownBy w' (some m.g) ∧
    a≤a'∧a' + x≤a + 6 * size t∧size t≤K∧lo≤l - size t
theorem SPost.fin {x : Nat} {m : Par} {Q : T → Prop} {K R R' a a' c' : Nat} {l lo : Int} {w V : World} {r : Nat} {t : T} {A' : Option Addr} (hr : w.heap.size ≤ r) (hgr : m.g < w.heap.size) (hq : Q t) (hk : Kid r V R t A' c') (hR : R ≤ R') (hm : Mk m a' (l - size t) V) (hg : w.grownBy V (some m.g)) (h1 : a ≤ a') (h2 : a' + x ≤ a + 6 * size t) (hc : size t ≤ K) (hlo : lo ≤ l - size t) (v0 v1 v2 v3 : Value) :
    SPost x m Q R' K lo a l w (.returned (.agg #[.int .i64 t.k,.int .i64 t.n,.int .i64 t.m,.slice A' t.kids.length c'])) ((((V.setCell ⟨r,0,none⟩ v0).setCell ⟨r,1,none⟩ v1).setCell ⟨r,2,none⟩ v2).setCell ⟨r,3,none⟩ v3):=by
  have hp:=put4_mk hm hg hr hgr v0 v1 v2 v3
  have h4:=gw4 V r v0 v1 v2 v3
  refine ⟨t,A',c',a',rfl,hq,((put4_rep hk (fun h=>by have:=h.1; omega) v0 v1 v2 v3).mono fun b hb=>?_).deeper hR,hp.1,hp.2,h1,h2,hc,hlo⟩
  rw [h4.2]; exact ⟨by omega,hb.2⟩
theorem SPost.alloc {x:Nat} {m:Par} {Q:T→Prop} {K R a:Nat} {l lo:Int} {w W:World} {e:Ending} (h:SPost x m Q R K lo a l w e W) (o:Obj):SPost x m Q R K lo a l w e (W.alloc o):=by
  obtain ⟨t,A',c',a',h1,h2,h3,h4,h5,h6⟩:=h
  have hs:(W.alloc o).heap.size = W.heap.size + 1:=size_alloc _ _
  exact ⟨t,A',c',a',h1,h2,(h3.keep (Keeps.below (fun b hb=>hb.2) (below_new _ _))).mono fun b hb=>⟨hb.1,by have:=hb.2; omega⟩,Blk.alloc h4 o,gw_alloc h5 o,h6⟩
def SC (m:Par) (s:Sc) (Dp e:Nat):Prop :=
  ∀ (a:Nat) (l:Int) (w:World),Mk m a l w→Cx m s (Dp + 1) w→3≤l→l≤1000→a + 20000 * e + 20000≤800000 →
    Calls Tryd.prog 100 #[.pointer (some ⟨m.g,0,none⟩),.int .i64 (e:Int)] w (SPost 0 m (GS s) (5 + 2 * e) (capS e) (-13 - 3 * (e:Int)) a l w)
def BC (m:Par) (s:Sc) (Dp e:Nat):Prop :=
  ∀ (a:Nat) (l:Int) (most:Nat) (w:World),Mk m a l w→Cx m s (Dp + 1) w→-800000≤l→l≤1000→1≤most→most≤4→a + 20000 * e + 36000≤800000 →
    Calls Tryd.prog 93 #[.pointer (some ⟨m.g,0,none⟩),.int .i64 (e:Int),.int .i64 (most:Int)] w (SPost 5 m (GB s) (6 + 2 * e) (1 + most * capS e) (min l (-13 - 3 * (e:Int)) - 1) a l w)

set_option maxRecDepth 100000 in
set_option maxHeartbeats 8000000 in
theorem zblock_step (m:Par) (s:Sc) (Dp e:Nat) (he:e≤3) (hS:SC m s Dp e):BC m s Dp e:=by
  intro a l most w hm hx hl0 hl1 hmo1 hmo4 ha
  obtain ⟨i0,hi,hz0,hz1,hz2⟩:=info_parts node_info
  obtain ⟨r,hr⟩:∃ r,r = w.heap.size:=⟨_,rfl⟩
  have hgr:m.g < r:=by rw [hr]; exact hm.lt
  have HGR:Hid (m.g < w.heap.size):=Lib.hid hm.lt
  have HR:=Lib.hid hr
  obtain ⟨W1,hW1⟩:∃ W1,W1 = w.alloc (.cells #[.int .i64 0,.int .i64 0,.int .i64 0,.slice none 0 0] 25):=⟨_,rfl⟩
  have HM1:Hid (Mk m a l W1):=Lib.hid (by rw [hW1]; exact hm.alloc _)
  have HG1:Hid (w.grownBy W1 (some m.g)):=Lib.hid (by rw [hW1]; exact gw_alloc (gw_refl w m.g) _)
  have HX1:Hid (Cx m s (Dp + 1) W1):=Lib.hid (hx.gw HG1.out)
  have HR1:Hid (Blk W1 r 25 #[.int .i64 0,.int .i64 0,.int .i64 0,.slice none 0 0]):=Lib.hid (by rw [hW1,hr]; exact Blk.new _ _ _)
  have HW1:=Lib.hid hW1
  have HSC:=Lib.hid hS
  have hcs:capS e≤562:=capS_le e he
  have HCS:=Lib.hid hcs
  obtain ⟨lo,hlo⟩:∃ z:Int,z = -13 - 3 * (e:Int):=⟨_,rfl⟩
  have HLO:=Lib.hid hlo
  have hlo2:-22≤lo∧lo≤-13:=by omega
  obtain ⟨q,HQ,hqn⟩:=zletter (L:=m.L) a (most:Int) (by omega)
  have hle:Hid (w.heap.size≤r):=Lib.hid (Nat.le_of_eq HR.out.symm)
  obtain ⟨n,hn⟩:∃ n:Nat,n = 1 + q:=⟨_,rfl⟩
  have hnw:IntKind.i64.wrap (1 + (q:Int)) = (n:Int):=by rw [IntKind.wrap_i64]; omega
  have hn4:n≤most:=by omega
  clear hr hm hW1 hx hS hcs hn hlo
  go_enter Tryd.func93,Tryd.ntmps93
  go_upto_region 1 with fail
  rw [← HW1.out,← HR.out]
  go_upto_region 3 with (go_at_call 86; refine (draw_is m s (Dp + 1) a l (most:Int) _ HM1.out HX1.out (by omega) (by omega)).mono ?_; rintro e w2 ⟨rfl,hm2,hg2⟩; rw [HQ.out]; have HM3:=Lib.hid hm2; have HGW:=Lib.hid hg2; have HG3:=Lib.hid (gw_trans HG1.out hg2); have HX3:=Lib.hid (HX1.out.gw hg2); have HR3:=Lib.hid (HR1.out.gw hg2 (by omega)); clear hm2 hg2)
  try rw [hnw]
  obtain ⟨V3,hV3⟩:∃ V3,V3 = w2:=⟨_,rfl⟩
  subst hV3
  have HSZ:Hid (r < V3.heap.size):=Lib.hid HR3.out.lt
  clear hnw
  go_wp2_with fail
  go_loopw [7,9] (fun s8 s9 wr=>∃ (j:Nat) (v:Value) (ts:List T) (xs:List Value) (a':Nat),j≤n∧v = s8∧s9 = .int .i64 j∧ts.length = j∧Hid (RowG m (fun _ t=>GS s t) (capS e) (5 + 2 * e) (a + 1) l V3 wr v ts xs a'∧min l lo≤l - ((ts.map size).sum:Nat))) (fun _ i _=>n - (intOf i).toNat)
  case atStart=>exact ⟨0,_,[],[],a + 1,Nat.zero_le _,rfl,rfl,rfl,RowG.start HM3.out,by simp; omega⟩
  case round =>
    obtain ⟨j,v,ts,xs,a',hj,rfl,rfl,hts,HRW0⟩:=hrel
    have HRW:=Lib.hid HRW0.out.1
    have hmin:=HRW0.out.2
    obtain ⟨sm,hsm⟩:∃ sm,sm = (ts.map size).sum:=⟨_,rfl⟩
    rw [← hsm] at hmin
    have hsm2:sm≤2248:=by
      have h1:=HRW.out.cap
      have h2:=HCS.out
      rw [hts,← hsm] at h1
      have h3:j * capS e≤4 * 562:=Nat.mul_le_mul (by omega) h2
      omega
    have haa:a + 1≤a'∧a'≤a + 1 + 6 * sm:=⟨HRW.out.lo,by rw [hsm]; exact HRW.out.hi⟩
    obtain ⟨lc,hlc⟩:∃ z:Int,z = l - (sm:Int):=⟨_,rfl⟩
    have HMW:Hid (Mk m a' lc wr):=Lib.hid (by rw [hlc,hsm]; exact HRW.out.mkr)
    have h2:=HMW.out.cell 2
    simp only [Par.cells,List.getElem?_toArray,List.getElem?_cons_zero,List.getElem?_cons_succ] at h2
    have hlc1:lc≤l:=by omega
    have hlc2:-810000≤lc:=by omega
    have HLC:=Lib.hid hlc
    have HMIN:=Lib.hid hmin
    clear hlc hmin
    by_cases hcont:j < n∧2 < lc
    · obtain ⟨hlt,hlt3⟩:=hcont
      have hlt2:(j:Int) < n:=by omega
      have hd1:decide (j < n) = true:=by simpa using hlt
      have hd2:decide (2 < lc) = true:=by simpa using hlt3
      have HCE:Hid (Calls Tryd.prog 100 #[.pointer (some ⟨m.g,0,none⟩),.int .i64 (e:Int)] wr (SPost 0 m (GS s) (5 + 2 * e) (capS e) (-13 - 3 * (e:Int)) a' lc wr)):=Lib.hid (HSC.out a' lc wr HMW.out (HX3.out.gw HRW.out.grown) (by omega) (by omega) (by omega))
      have HTS:=Lib.hid hts
      have HSM:=Lib.hid hsm
      clear hts hsm
      go_wp2_with (first
        | (go_at_call 100; refine HCE.out.mono ?_; rintro e w3 ⟨t, A3, c3, a2, rfl, hge, hr3, hm3, hg3, h1, h2', hcp, hlo3⟩
           have HGE:=Lib.hid hge; have HR3':=Lib.hid hr3; have HM3':=Lib.hid hm3; have HG3':=Lib.hid hg3; have HA3:=Lib.hid (And.intro h1 (And.intro h2' (And.intro hcp hlo3)))
           have HOW:Hid ((w3.alloc (.cells #[.int .i64 t.k,.int .i64 t.n,.int .i64 t.m,.slice A3 t.kids.length c3] 25)).ownsRow V3.heap.size 25 4 v ts.length xs):=Lib.hid ((HRW.out.own.kept hg3 (.inr fun e=>by have:=(HRW.out.own.lt _ e).1; have:=HGR.out; have:=HG3.out.size; omega)).alloc _)
           clear hge hr3 hm3 hg3 h1 h2' hcp hlo3)
        | (at_builtin
           refine wpList_append_any _ rfl (.tmp 26) (.tmp 30) 23 rfl V3.heap.size 25 i0 _ 4 48 Tryd.underlying23 hi hz0 hz1 hz2 rfl (by omega) _ ts.length xs rfl HOW.out _ (some ⟨w3.heap.size,0,none⟩) 1 1 (nd t A3 c3) rfl (reads_nd w3 t A3 c3) (nd_one t A3 c3) (len_le (by have:=HTS.out; omega)) (by have:=HTS.out; omega) (by have:=HRW.out.grown.size; have:=HG3'.out.size; rw [size_alloc]; omega) ?_
           intro v4 w4 hown4 hgrow4 hnew4
           have HO4:=Lib.hid hown4; have HG4:=Lib.hid hgrow4; have HN4:=Lib.hid hnew4
           clear hown4 hgrow4 hnew4))
      go_roundw
      case rel =>
        have hsm3:=HSM.out
        have ha3:=HA3.out
        have hl3:=HLC.out
        exact ⟨j + 1,_,ts ++ [t],xs ++ nd t A3 c3,a2,by omega,rfl,by go_num,by rw [List.length_append,HTS.out]; rfl,RowG.next (by have:=HGR.out; have:=HG3.out.size; omega) HRW.out HGE.out HR3'.out (by rw [← hsm3,← hl3]; exact HM3'.out) HG3'.out ha3.1 (by omega) ha3.2.2.1 HO4.out HG4.out HN4.out,by
          have e1:((ts ++ [t]).map size).sum = (ts.map size).sum + size t:=by simp
          rw [e1,← hsm3]
          have:=ha3.2.2.2
          have:=HLO.out
          push_cast
          omega⟩
      case measure=>simp [intOf]; omega
    · obtain ⟨A9,c9,hv,hcap⟩:=own_len HRW.out.own
      obtain ⟨kk,hkk⟩:∃ kk,kk = ts.length:=⟨_,rfl⟩
      rw [← hkk] at hv hcap
      have HK2:Hid (kk = j):=Lib.hid (by omega)
      subst hv
      have HSM:=Lib.hid hsm
      have HTS:=Lib.hid hts
      have HCP9:=Lib.hid hcap
      have HKK:=Lib.hid hkk
      have HRR:Hid (Blk wr r 25 #[.int .i64 0,.int .i64 0,.int .i64 0,.slice none 0 0]):=Lib.hid (HR3.out.gw HRW.out.grown (by omega))
      have HEND:Hid (∀ w5,Mk m a' (lc - 1) w5→wr.grownBy w5 (some m.g)→∀ v0 v1 v2 v3,SPost 5 m (GB s) (6 + 2 * e) (1 + most * capS e) (min l (-13 - 3 * (e:Int)) - 1) a l w (.returned (.agg #[.int .i64 13,.int .i64 0,.int .i64 0,.slice A9 kk c9])) ((((w5.setCell ⟨r,0,none⟩ v0).setCell ⟨r,1,none⟩ v1).setCell ⟨r,2,none⟩ v2).setCell ⟨r,3,none⟩ v3)):=Lib.hid fun w5 hm5 hg5 v0 v1 v2 v3=>by
        have hrep:Rep wr (fun b=>V3.heap.size≤b∧b < wr.heap.size) (5 + 2 * e + 1) ⟨13,0,0,ts⟩ (nd ⟨13,0,0,ts⟩ A9 c9):=RowG.rep (by rw [← HKK.out]; exact HRW.out) (by rw [← HKK.out]; exact HCP9.out) (small (by omega) (by omega)) (small (by omega) (by omega))
        have hsm3:=HSM.out
        have hl3:=HLC.out
        have hmn:=HMIN.out
        have h1:=HRW.out.cap
        have h3:ts.length * capS e≤most * capS e:=Nat.mul_le_mul_right _ (by omega)
        have hsz:size ⟨13,0,0,ts⟩ = 1 + sm:=by rw [sizeK,hsm3]
        rw [hkk]
        refine SPost.fin (t:=⟨13,0,0,ts⟩) (a':=a') hle.out HGR.out (GB.mk' (by omega) fun u hu=>by
          obtain ⟨i,hi⟩:=List.mem_iff_getElem?.1 hu
          exact HRW.out.all i u hi) (Kid.gw (g:=m.g) (kid_of hrep HSZ.out) hg5 (by omega)) (by omega) ?_ (gw_trans (gw_trans HG3.out HRW.out.grown) hg5) (by omega) (by rw [hsz]; omega) (by rw [hsz]; omega) (by rw [hsz]; have:=HLO.out; push_cast; omega) v0 v1 v2 v3
        rw [hsz]
        have e2:l - ((1 + sm:Nat):Int) = lc - 1:=by rw [hl3]; push_cast; omega
        rw [e2]; exact hm5
      clear hsm hts hcap hkk
      by_cases hlt:j < n
      · have hd1:decide (j < n) = true:=by simpa using hlt
        have hlt2:¬ 2 < lc:=by omega
        have hd2:decide (2 < lc) = false:=by simpa using hlt2
        go_wp2_with (go_at_call 88; refine (mnode_is m a' lc 13 0 _ A9 kk c9 HMW.out (by omega) (by omega)).mono ?_; rintro e w5 ⟨rfl,hm5,hg5⟩; have HM5:=Lib.hid hm5; have HG5:=Lib.hid hg5; have HR5:Hid (Blk w5 r 25 #[.int .i64 0,.int .i64 0,.int .i64 0,.slice none 0 0]):=Lib.hid (HRR.out.gw hg5 (by omega)); clear hm5 hg5; have r0:=HR5.out.cell 0; have r1:=HR5.out.cell 1; have r2:=HR5.out.cell 2; have r3:=HR5.out.cell 3; have f0:=HR5.out.frozen 0; have f1:=HR5.out.frozen 1; have f2:=HR5.out.frozen 2; have f3:=HR5.out.frozen 3; simp only [List.getElem?_toArray,List.getElem?_cons_zero,List.getElem?_cons_succ] at r0 r1 r2 r3)
        exact bodyPost_ret (v:=.agg #[.int .i64 13,.int .i64 0,.int .i64 0,.slice A9 kk c9]) (by simp [results,Tryd.results93,go_sem,r0,r1,r2,r3]) rfl (HEND.out _ HM5.out HG5.out _ _ _ _)
      · have hd1:decide (j < n) = false:=by simpa using hlt
        go_wp2_with (go_at_call 88; refine (mnode_is m a' lc 13 0 _ A9 kk c9 HMW.out (by omega) (by omega)).mono ?_; rintro e w5 ⟨rfl,hm5,hg5⟩; have HM5:=Lib.hid hm5; have HG5:=Lib.hid hg5; have HR5:Hid (Blk w5 r 25 #[.int .i64 0,.int .i64 0,.int .i64 0,.slice none 0 0]):=Lib.hid (HRR.out.gw hg5 (by omega)); clear hm5 hg5; have r0:=HR5.out.cell 0; have r1:=HR5.out.cell 1; have r2:=HR5.out.cell 2; have r3:=HR5.out.cell 3; have f0:=HR5.out.frozen 0; have f1:=HR5.out.frozen 1; have f2:=HR5.out.frozen 2; have f3:=HR5.out.frozen 3; simp only [List.getElem?_toArray,List.getElem?_cons_zero,List.getElem?_cons_succ] at r0 r1 r2 r3)
        exact bodyPost_ret (v:=.agg #[.int .i64 13,.int .i64 0,.int .i64 0,.slice A9 kk c9]) (by simp [results,Tryd.results93,go_sem,r0,r1,r2,r3]) rfl (HEND.out _ HM5.out HG5.out _ _ _ _)
end Go.Proofs.YtkkenbalpnmfmaaDoor
