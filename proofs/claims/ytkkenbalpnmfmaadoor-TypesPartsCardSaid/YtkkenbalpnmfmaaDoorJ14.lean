/- Texts joined. -/
import Derived.Test.YtkkenbalpnmfmaaDoorJ13
set_option linter.unusedVariables false
namespace Go.Proofs.YtkkenbalpnmfmaaDoor
open Go.RowKit WM TR TY

theorem zexpr_all (m:Par) (s:Sc) (Dp:Nat):∀ d,d≤3→GXC m s Dp d:=fun d =>
  Nat.strongRecOn d fun d ih hd=>zexpr_step m s Dp d hd fun e he=>ih e he (by omega)
def capS:Nat→Nat
  | 0=>16
  | e + 1=>10 + 3 * capS e
theorem capS_le:∀ e,e≤3→capS e≤562
  | 0,_=>by decide
  | 1,_=>by decide
  | 2,_=>by decide
  | 3,_=>by decide
  | e + 4,h=>by omega
theorem capS_ge:∀ e,16≤capS e
  | 0=>Nat.le_refl _
  | e + 1=>by have:=capS_ge e; rw [capS]; omega
def SPost (x:Nat) (m:Par) (Q:T→Prop) (R K:Nat) (lo:Int) (a:Nat) (l:Int) (w:World) (e:Ending) (w':World):Prop :=
  ∃ (t:T) (A':Option Addr) (c' a':Nat),e = .returned (.agg #[.int .i64 t.k,.int .i64 t.n,.int .i64 t.m,.slice A' t.kids.length c'])∧Q t∧Rep w' (fun b=>w.heap.size≤b∧b < w'.heap.size) R t (nd t A' c')∧Mk m a' (l - size t) w'∧w.grownBy w' (some m.g) ∧
    a≤a'∧a' + x≤a + 6 * size t∧size t≤K∧lo≤l - size t
theorem SPost.fin {x : Nat} {m : Par} {Q : T → Prop} {K R R' a a' c' : Nat} {l lo : Int} {w V : World} {r : Nat} {t : T} {A' : Option Addr} (hr : w.heap.size ≤ r) (hgr : m.g < w.heap.size) (hq : Q t) (hk : Kid r V R t A' c') (hR : R ≤ R') (hm : Mk m a' (l - size t) V) (hg : w.grownBy V (some m.g)) (h1 : a ≤ a') (h2 : a' + x ≤ a + 6 * size t) (hc : size t ≤ K) (hlo : lo ≤ l - size t) (v0 v1 v2 v3 : Value) :
    SPost x m Q R' K lo a l w (.returned (.agg #[.int .i64 t.k,.int .i64 t.n,.int .i64 t.m,.slice A' t.kids.length c'])) ((((V.setCell ⟨r,0,none⟩ v0).setCell ⟨r,1,none⟩ v1).setCell ⟨r,2,none⟩ v2).setCell ⟨r,3,none⟩ v3):=by
  have hp:=put4_mk hm hg hr hgr v0 v1 v2 v3
  have h4:=gw4 V r v0 v1 v2 v3
  refine ⟨t,A',c',a',rfl,hq,((put4_rep hk (fun h=>by have:=h.1; omega) v0 v1 v2 v3).mono fun b hb=>?_).deeper hR,hp.1,hp.2,h1,h2,hc,hlo⟩
  rw [h4.2]; exact ⟨by omega,hb.2⟩
theorem SPost.alloc {x:Nat} {m:Par} {Q:T→Prop} {K R a:Nat} {l lo:Int} {w W:World} {e:Ending} (h:SPost x m Q R K lo a l w e W) (o:Obj):SPost x m Q R K lo a l w e (W.alloc o):=by
  obtain ⟨t,A',c',a',h1,h2,h3,h4,h5,h6⟩:=h
  have hs:(W.alloc o).heap.size = W.heap.size + 1:=size_alloc _ _
  exact ⟨t,A',c',a',h1,h2,(h3.keep (Keeps.below (fun b hb=>hb.2) (below_new _ _))).mono fun b hb=>⟨hb.1,by have:=hb.2; omega⟩,Blk.alloc h4 o,gw_alloc h5 o,h6⟩
def SC (m:Par) (s:Sc) (Dp e:Nat):Prop :=
  ∀ (a:Nat) (l:Int) (w:World),Mk m a l w→Cx m s (Dp + 1) w→3≤l→l≤1000→a + 20000 * e + 20000≤800000 →
    Calls Tryd.prog 100 #[.pointer (some ⟨m.g,0,none⟩),.int .i64 (e:Int)] w (SPost 0 m (GS s) (5 + 2 * e) (capS e) (-13 - 3 * (e:Int)) a l w)
def BC (m:Par) (s:Sc) (Dp e:Nat):Prop :=
  ∀ (a:Nat) (l:Int) (most:Nat) (w:World),Mk m a l w→Cx m s (Dp + 1) w→-800000≤l→l≤1000→1≤most→most≤4→a + 20000 * e + 36000≤800000 →
    Calls Tryd.prog 93 #[.pointer (some ⟨m.g,0,none⟩),.int .i64 (e:Int),.int .i64 (most:Int)] w (SPost 5 m (GB s) (6 + 2 * e) (1 + most * capS e) (min l (-13 - 3 * (e:Int)) - 1) a l w)

set_option maxRecDepth 100000 in
set_option maxHeartbeats 8000000 in
theorem zblock_step (m:Par) (s:Sc) (Dp e:Nat) (he:e≤3) (hS:SC m s Dp e):BC m s Dp e:=by
  intro a l most w hm hx hl0 hl1 hmo1 hmo4 ha
  obtain ⟨i0,hi,hz0,hz1,hz2⟩:=info_parts node_info
  obtain ⟨r,hr⟩:∃ r,r = w.heap.size:=⟨_,rfl⟩
  have hgr:m.g < r:=by rw [hr]; exact hm.lt
  have HGR:Hid (m.g < w.heap.size):=Lib.hid hm.lt
  have HR:=Lib.hid hr
  obtain ⟨W1,hW1⟩:∃ W1,W1 = w.alloc (.cells #[.int .i64 0,.int .i64 0,.int .i64 0,.slice none 0 0] 25):=⟨_,rfl⟩
  have HM1:Hid (Mk m a l W1):=Lib.hid (by rw [hW1]; exact hm.alloc _)
  have HG1:Hid (w.grownBy W1 (some m.g)):=Lib.hid (by rw [hW1]; exact gw_alloc (gw_refl w m.g) _)
  have HX1:Hid (Cx m s (Dp + 1) W1):=Lib.hid (hx.gw HG1.out)
  have HR1:Hid (Blk W1 r 25 #[.int .i64 0,.int .i64 0,.int .i64 0,.slice none 0 0]):=Lib.hid (by rw [hW1,hr]; exact Blk.new _ _ _)
  have HW1:=Lib.hid hW1
  have HSC:=Lib.hid hS
  have hcs:capS e≤562:=capS_le e he
  have HCS:=Lib.hid hcs
  obtain ⟨lo,hlo⟩:∃ z:Int,z = -13 - 3 * (e:Int):=⟨_,rfl⟩
  have HLO:=Lib.hid hlo
  have hlo2:-22≤lo∧lo≤-13:=by omega
  obtain ⟨q,HQ,hqn⟩:=zletter (L:=m.L) a (most:Int) (by omega)
  have hle:Hid (w.heap.size≤r):=Lib.hid (Nat.le_of_eq HR.out.symm)
  obtain ⟨n,hn⟩:∃ n:Nat,n = 1 + q:=⟨_,rfl⟩
  have hnw:IntKind.i64.wrap (1 + (q:Int)) = (n:Int):=by rw [IntKind.wrap_i64]; omega
  have hn4:n≤most:=by omega
  clear hr hm hW1 hx hS hcs hn hlo
  go_enter Tryd.func93,Tryd.ntmps93
  go_upto_region 1 with fail
  rw [← HW1.out,← HR.out]
  go_upto_region 3 with (go_at_call 86; refine (draw_is m s (Dp + 1) a l (most:Int) _ HM1.out HX1.out (by omega) (by omega)).mono ?_; rintro e w2 ⟨rfl,hm2,hg2⟩; rw [HQ.out]; have HM3:=Lib.hid hm2; have HGW:=Lib.hid hg2; have HG3:=Lib.hid (gw_trans HG1.out hg2); have HX3:=Lib.hid (HX1.out.gw hg2); have HR3:=Lib.hid (HR1.out.gw hg2 (by omega)); clear hm2 hg2)
  try rw [hnw]
  obtain ⟨V3,hV3⟩:∃ V3,V3 = w2:=⟨_,rfl⟩
  subst hV3
  have HSZ:Hid (r < V3.heap.size):=Lib.hid HR3.out.lt
  clear hnw
  go_wp2_with fail
  go_loopw [7,9] (fun s8 s9 wr=>∃ (j:Nat) (v:Value) (ts:List T) (xs:List Value) (a':Nat),j≤n∧v = s8∧s9 = .int .i64 j∧ts.length = j∧Hid (RowG m (fun _ t=>GS s t) (capS e) (5 + 2 * e) (a + 1) l V3 wr v ts xs a'∧min l lo≤l - ((ts.map size).sum:Nat))) (fun _ i _=>n - (intOf i).toNat)
  case atStart=>exact ⟨0,_,[],[],a + 1,Nat.zero_le _,rfl,rfl,rfl,RowG.start HM3.out,by simp; omega⟩
  case round =>
    obtain ⟨j,v,ts,xs,a',hj,rfl,rfl,hts,HRW0⟩:=hrel
    have HRW:=Lib.hid HRW0.out.1
    have hmin:=HRW0.out.2
    obtain ⟨sm,hsm⟩:∃ sm,sm = (ts.map size).sum:=⟨_,rfl⟩
    rw [← hsm] at hmin
    have hsm2:sm≤2248:=by
      have h1:=HRW.out.cap
      have h2:=HCS.out
      rw [hts,← hsm] at h1
      have h3:j * capS e≤4 * 562:=Nat.mul_le_mul (by omega) h2
      omega
    have haa:a + 1≤a'∧a'≤a + 1 + 6 * sm:=⟨HRW.out.lo,by rw [hsm]; exact HRW.out.hi⟩
    obtain ⟨lc,hlc⟩:∃ z:Int,z = l - (sm:Int):=⟨_,rfl⟩
    have HMW:Hid (Mk m a' lc wr):=Lib.hid (by rw [hlc,hsm]; exact HRW.out.mkr)
    have h2:=HMW.out.cell 2
    simp only [Par.cells,List.getElem?_toArray,List.getElem?_cons_zero,List.getElem?_cons_succ] at h2
    have hlc1:lc≤l:=by omega
    have hlc2:-810000≤lc:=by omega
    have HLC:=Lib.hid hlc
    have HMIN:=Lib.hid hmin
    clear hlc hmin
    by_cases hcont:j < n∧2 < lc
    · obtain ⟨hlt,hlt3⟩:=hcont
      have hlt2:(j:Int) < n:=by omega
      have hd1:decide (j < n) = true:=by simpa using hlt
      have hd2:decide (2 < lc) = true:=by simpa using hlt3
      have HCE:Hid (Calls Tryd.prog 100 #[.pointer (some ⟨m.g,0,none⟩),.int .i64 (e:Int)] wr (SPost 0 m (GS s) (5 + 2 * e) (capS e) (-13 - 3 * (e:Int)) a' lc wr)):=Lib.hid (HSC.out a' lc wr HMW.out (HX3.out.gw HRW.out.grown) (by omega) (by omega) (by omega))
      have HTS:=Lib.hid hts
      have HSM:=Lib.hid hsm
      clear hts hsm
      go_wp2_with (first
        | (go_at_call 100; refine HCE.out.mono ?_; rintro e w3 ⟨t, A3, c3, a2, rfl, hge, hr3, hm3, hg3, h1, h2', hcp, hlo3⟩
           have HGE:=Lib.hid hge; have HR3':=Lib.hid hr3; have HM3':=Lib.hid hm3; have HG3':=Lib.hid hg3; have HA3:=Lib.hid (And.intro h1 (And.intro h2' (And.intro hcp hlo3)))
           have HOW:Hid ((w3.alloc (.cells #[.int .i64 t.k,.int .i64 t.n,.int .i64 t.m,.slice A3 t.kids.length c3] 25)).ownsRow V3.heap.size 25 4 v ts.length xs):=Lib.hid ((HRW.out.own.kept hg3 (.inr fun e=>by have:=(HRW.out.own.lt _ e).1; have:=HGR.out; have:=HG3.out.size; omega)).alloc _)
           clear hge hr3 hm3 hg3 h1 h2' hcp hlo3)
        | (at_builtin
           refine wpList_append_any _ rfl (.tmp 26) (.tmp 30) 23 rfl V3.heap.size 25 i0 _ 4 48 Tryd.underlying23 hi hz0 hz1 hz2 rfl (by omega) _ ts.length xs rfl HOW.out _ (some ⟨w3.heap.size,0,none⟩) 1 1 (nd t A3 c3) rfl (reads_nd w3 t A3 c3) (nd_one t A3 c3) (len_le (by have:=HTS.out; omega)) (by have:=HTS.out; omega) (by have:=HRW.out.grown.size; have:=HG3'.out.size; rw [size_alloc]; omega) ?_
           intro v4 w4 hown4 hgrow4 hnew4
           have HO4:=Lib.hid hown4; have HG4:=Lib.hid hgrow4; have HN4:=Lib.hid hnew4
           clear hown4 hgrow4 hnew4))
      go_roundw
      case rel =>
        have hsm3:=HSM.out
        have ha3:=HA3.out
        have hl3:=HLC.out
        exact ⟨j + 1,_,ts ++ [t],xs ++ nd t A3 c3,a2,by omega,rfl,by go_num,by rw [List.length_append,HTS.out]; rfl,RowG.next (by have:=HGR.out; have:=HG3.out.size; omega) HRW.out HGE.out HR3'.out (by rw [← hsm3,← hl3]; exact HM3'.out) HG3'.out ha3.1 (by omega) ha3.2.2.1 HO4.out HG4.out HN4.out,by
          have e1:((ts ++ [t]).map size).sum = (ts.map size).sum + size t:=by simp
          rw [e1,← hsm3]
          have:=ha3.2.2.2
          have:=HLO.out
          push_cast
          omega⟩
      case measure=>simp [intOf]; omega
    · obtain ⟨A9,c9,hv,hcap⟩:=own_len HRW.out.own
      obtain ⟨kk,hkk⟩:∃ kk,kk = ts.length:=⟨_,rfl⟩
      rw [← hkk] at hv hcap
      have HK2:Hid (kk = j):=Lib.hid (by omega)
      subst hv
      have HSM:=Lib.hid hsm
      have HTS:=Lib.hid hts
      have HCP9:=Lib.hid hcap
      have HKK:=Lib.hid hkk
      have HRR:Hid (Blk wr r 25 #[.int .i64 0,.int .i64 0,.int .i64 0,.slice none 0 0]):=Lib.hid (HR3.out.gw HRW.out.grown (by omega))
      have HEND:Hid (∀ w5,Mk m a' (lc - 1) w5→wr.grownBy w5 (some m.g)→∀ v0 v1 v2 v3,SPost 5 m (GB s) (6 + 2 * e) (1 + most * capS e) (min l (-13 - 3 * (e:Int)) - 1) a l w (.returned (.agg #[.int .i64 13,.int .i64 0,.int .i64 0,.slice A9 kk c9])) ((((w5.setCell ⟨r,0,none⟩ v0).setCell ⟨r,1,none⟩ v1).setCell ⟨r,2,none⟩ v2).setCell ⟨r,3,none⟩ v3)):=Lib.hid fun w5 hm5 hg5 v0 v1 v2 v3=>by
        have hrep:Rep wr (fun b=>V3.heap.size≤b∧b < wr.heap.size) (5 + 2 * e + 1) ⟨13,0,0,ts⟩ (nd ⟨13,0,0,ts⟩ A9 c9):=RowG.rep (by rw [← HKK.out]; exact HRW.out) (by rw [← HKK.out]; exact HCP9.out) (small (by omega) (by omega)) (small (by omega) (by omega))
        have hsm3:=HSM.out
        have hl3:=HLC.out
        have hmn:=HMIN.out
        have h1:=HRW.out.cap
        have h3:ts.length * capS e≤most * capS e:=Nat.mul_le_mul_right _ (by omega)
        have hsz:size ⟨13,0,0,ts⟩ = 1 + sm:=by rw [sizeK,hsm3]
        rw [hkk]
        refine SPost.fin (t:=⟨13,0,0,ts⟩) (a':=a') hle.out HGR.out (GB.mk' (by omega) fun u hu=>by
          obtain ⟨i,hi⟩:=List.mem_iff_getElem?.1 hu
          exact HRW.out.all i u hi) (Kid.gw (g:=m.g) (kid_of hrep HSZ.out) hg5 (by omega)) (by omega) ?_ (gw_trans (gw_trans HG3.out HRW.out.grown) hg5) (by omega) (by rw [hsz]; omega) (by rw [hsz]; omega) (by rw [hsz]; have:=HLO.out; push_cast; omega) v0 v1 v2 v3
        rw [hsz]
        have e2:l - ((1 + sm:Nat):Int) = lc - 1:=by rw [hl3]; push_cast; omega
        rw [e2]; exact hm5
      clear hsm hts hcap hkk
      by_cases hlt:j < n
      · have hd1:decide (j < n) = true:=by simpa using hlt
        have hlt2:¬ 2 < lc:=by omega
        have hd2:decide (2 < lc) = false:=by simpa using hlt2
        go_wp2_with (go_at_call 88; refine (mnode_is m a' lc 13 0 _ A9 kk c9 HMW.out (by omega) (by omega)).mono ?_; rintro e w5 ⟨rfl,hm5,hg5⟩; have HM5:=Lib.hid hm5; have HG5:=Lib.hid hg5; have HR5:Hid (Blk w5 r 25 #[.int .i64 0,.int .i64 0,.int .i64 0,.slice none 0 0]):=Lib.hid (HRR.out.gw hg5 (by omega)); clear hm5 hg5; have r0:=HR5.out.cell 0; have r1:=HR5.out.cell 1; have r2:=HR5.out.cell 2; have r3:=HR5.out.cell 3; have f0:=HR5.out.frozen 0; have f1:=HR5.out.frozen 1; have f2:=HR5.out.frozen 2; have f3:=HR5.out.frozen 3; simp only [List.getElem?_toArray,List.getElem?_cons_zero,List.getElem?_cons_succ] at r0 r1 r2 r3)
        exact bodyPost_ret (v:=.agg #[.int .i64 13,.int .i64 0,.int .i64 0,.slice A9 kk c9]) (by simp [results,Tryd.results93,go_sem,r0,r1,r2,r3]) rfl (HEND.out _ HM5.out HG5.out _ _ _ _)
      · have hd1:decide (j < n) = false:=by simpa using hlt
        go_wp2_with (go_at_call 88; refine (mnode_is m a' lc 13 0 _ A9 kk c9 HMW.out (by omega) (by omega)).mono ?_; rintro e w5 ⟨rfl,hm5,hg5⟩; have HM5:=Lib.hid hm5; have HG5:=Lib.hid hg5; have HR5:Hid (Blk w5 r 25 #[.int .i64 0,.int .i64 0,.int .i64 0,.slice none 0 0]):=Lib.hid (HRR.out.gw hg5 (by omega)); clear hm5 hg5; have r0:=HR5.out.cell 0; have r1:=HR5.out.cell 1; have r2:=HR5.out.cell 2; have r3:=HR5.out.cell 3; have f0:=HR5.out.frozen 0; have f1:=HR5.out.frozen 1; have f2:=HR5.out.frozen 2; have f3:=HR5.out.frozen 3; simp only [List.getElem?_toArray,List.getElem?_cons_zero,List.getElem?_cons_succ] at r0 r1 r2 r3)
        exact bodyPost_ret (v:=.agg #[.int .i64 13,.int .i64 0,.int .i64 0,.slice A9 kk c9]) (by simp [results,Tryd.results93,go_sem,r0,r1,r2,r3]) rfl (HEND.out _ HM5.out HG5.out _ _ _ _)
end Go.Proofs.YtkkenbalpnmfmaaDoor

namespace Go.Proofs.YtkkenbalpnmfmaaDoor
open Go.RowKit WM TR TY
attribute [local go_sem ↓ high] shutB2 shutApN
attribute [local go_sem] run_bs2

theorem kid_leaf {r:Nat} {V:World} {k n:Int} (hk:inRange k) (hn:inRange n):Kid r V 1 ⟨k,n,0,[]⟩ none 0:=Rep.leaf hk hn (small (by omega) (by omega)) 0 0
theorem cells8 {W : World} {b b' : Nat} {c0 c1 c2 c3 e0 e1 e2 e3 : Value} (h : Blk W b 25 #[c0, c1, c2, c3]) (h' : Blk W b' 25 #[e0, e1, e2, e3]) :
    (W.cell? ⟨b,0,none⟩ = some c0∧W.cell? ⟨b,1,none⟩ = some c1∧W.cell? ⟨b,2,none⟩ = some c2∧W.cell? ⟨b,3,none⟩ = some c3)∧W.cell? ⟨b',0,none⟩ = some e0∧W.cell? ⟨b',1,none⟩ = some e1∧W.cell? ⟨b',2,none⟩ = some e2∧W.cell? ⟨b',3,none⟩ = some e3 :=
  ⟨⟨h.cell 0,h.cell 1,h.cell 2,h.cell 3⟩,h'.cell 0,h'.cell 1,h'.cell 2,h'.cell 3⟩

set_option maxRecDepth 100000 in
set_option maxHeartbeats 8000000 in
theorem loop_is (m : Par) (s : Sc) (Dp e : Nat) (he : e ≤ 2) (hS : SC m s Dp e) (a : Nat) (l : Int) (j : Nat) (u : T) (w : World) (hu : s.vars[j]? = some u) (huk : u.k = 0) (hm : Mk m a l w) (hx : Cx m s (Dp + 1) w) (hl0 : 11 ≤ l) (hl1 : l ≤ 1000) (ha : a + 20000 * e + 21000 ≤ 800000) :
    Calls Tryd.prog 107 #[.pointer (some ⟨m.g,0,none⟩),.int .i64 (j:Int),.int .i64 ((e:Int) + 1)] w (SPost 10 m (GS s) (7 + 2 * e) (capS (e + 1)) (-16 - 3 * (e:Int)) a l w):=by
  obtain ⟨r,hr⟩:∃ r,r = w.heap.size:=⟨_,rfl⟩
  have hgr:m.g < r:=by rw [hr]; exact hm.lt
  have HGR:Hid (m.g < w.heap.size):=Lib.hid hm.lt
  have HR:=Lib.hid hr
  obtain ⟨W1,hW1⟩:∃ W1,W1 = w.alloc (.cells #[.int .i64 0,.int .i64 0,.int .i64 0,.slice none 0 0] 25):=⟨_,rfl⟩
  have HM1:Hid (Mk m a l W1):=Lib.hid (by rw [hW1]; exact hm.alloc _)
  have HG1:Hid (w.grownBy W1 (some m.g)):=Lib.hid (by rw [hW1]; exact gw_alloc (gw_refl w m.g) _)
  have HX1:Hid (Cx m s (Dp + 1) W1):=Lib.hid (hx.gw HG1.out)
  have HR1:Hid (Blk W1 r 25 #[.int .i64 0,.int .i64 0,.int .i64 0,.slice none 0 0]):=Lib.hid (by rw [hW1,hr]; exact Blk.new _ _ _)
  have HW1:=Lib.hid hW1
  have HSC:=Lib.hid hS
  have HU:=Lib.hid hu
  have HUK:=Lib.hid huk
  have HCS:Hid (capS e≤562):=Lib.hid (capS_le e (by omega))
  have hj6:j < 6:=by have:=(List.getElem?_eq_some_iff.1 hu).1; have:=hx.ok.vl; omega
  have HVL:Hid (s.vars.length≤6):=Lib.hid hx.ok.vl
  obtain ⟨q,HQ,hqn⟩:=zletter (L:=m.L) a 3 (by omega)
  have hqw:IntKind.i64.wrap (1 + (q:Int)) = 1 + (q:Int):=by rw [IntKind.wrap_i64]; omega
  have hDw:IntKind.i64.wrap ((e:Int) + 1 - 1) = (e:Int):=by rw [IntKind.wrap_i64]; omega
  have hle:Hid (w.heap.size≤r):=Lib.hid (Nat.le_of_eq HR.out.symm)
  clear hr hm hW1 hx hS hu huk
  go_enter Tryd.func107,Tryd.ntmps107
  go_upto_region 1 with fail
  rw [← HW1.out,← HR.out]
  go_upto_region 2 with (first
    | (have mk:=HMd; go_at_call 88; refine (mnode_is m (a + 1) (l - 1 - 1) 9 10 _ (some ⟨w4.heap.size,0,none⟩) 2 2 (HMd.out.alloc _) (by omega) (by omega)).mono ?_; rintro e w5 ⟨rfl,hm5,hg5⟩; have HMe:=Lib.hid hm5; have HGe:=Lib.hid (gw_trans (gw_alloc HGd.out _) hg5); have HXe:=Lib.hid ((HXd.out.below (below_new _ _)).gw hg5); have HRe:=Lib.hid ((Blk.alloc HRd.out _).gw hg5 (by omega)); have HKe:Hid (Kid r w5 2 ⟨9,10,0,[⟨6,j,0,[]⟩,⟨4,1 + q,0,[]⟩]⟩ (some ⟨w4.heap.size,0,none⟩) 2):=Lib.hid (Kid.gw (g:=m.g) (Kid.two HRd.out.lt (kid_leaf (small (by omega) (by omega)) (small (by omega) (by omega))) (kid_leaf (small (by omega) (by omega)) (small (by omega) (by omega))) (small (by omega) (by omega)) (small (by omega) (by omega))) hg5 (by omega)); clear hm5 hg5)
    | (have mk:=HMc; go_at_call 88; refine (mnode_is m (a + 1) (l - 1) 4 (1 + (q:Int)) _ none 0 0 HMc.out (by omega) (by omega)).mono ?_; rintro e w4 ⟨rfl,hm4,hg4⟩; have HMd:=Lib.hid hm4; have HGd:=Lib.hid (gw_trans HGc.out hg4); have HXd:=Lib.hid (HXc.out.gw hg4); have HRd:=Lib.hid (HRc.out.gw hg4 (by omega)); clear hm4 hg4)
    | (go_at_call 86; refine (draw_is m s (Dp + 1) a (l - 1) 3 _ HMb.out HXb.out (by omega) (by omega)).mono ?_; rintro e w3 ⟨rfl,hm3,hg3⟩; rw [HQ.out]; have HMc:=Lib.hid hm3; have HGc:=Lib.hid (gw_trans HGb.out hg3); have HXc:=Lib.hid (HXb.out.gw hg3); have HRc:=Lib.hid (HRb.out.gw hg3 (by omega)); clear hm3 hg3)
    | (go_at_call 88; refine (mnode_is m a l 6 (j:Int) _ none 0 0 HM1.out (by omega) (by omega)).mono ?_; rintro e w2 ⟨rfl,hm2,hg2⟩; have HMb:=Lib.hid hm2; have HGb:=Lib.hid (gw_trans HG1.out hg2); have HXb:=Lib.hid (HX1.out.gw hg2); have HRb:=Lib.hid (HR1.out.gw hg2 (by omega)); clear hm2 hg2))
  obtain ⟨W6,hW6⟩:∃ W,W = w5.alloc (.cells #[.int .i64 9,.int .i64 10,.int .i64 0,.slice (some ⟨w4.heap.size,0,none⟩) 2 2] 25):=⟨_,rfl⟩
  obtain ⟨b7,hb7⟩:∃ b,b = w5.heap.size:=⟨_,rfl⟩
  obtain ⟨A7,hA7⟩:∃ A:Option Addr,A = some ⟨w4.heap.size,0,none⟩:=⟨_,rfl⟩
  have HM6:Hid (Mk m (a + 1) (l - 1 - 1 - 1) W6):=Lib.hid (by rw [hW6]; exact HMe.out.alloc _)
  have HG6:Hid (w.grownBy W6 (some m.g)):=Lib.hid (by rw [hW6]; exact gw_alloc HGe.out _)
  have HX6:Hid (Cx m s (Dp + 1) W6):=Lib.hid (by rw [hW6]; exact HXe.out.below (below_new _ _))
  have HR6:Hid (Blk W6 r 25 #[.int .i64 0,.int .i64 0,.int .i64 0,.slice none 0 0]):=Lib.hid (by rw [hW6]; exact HRe.out.alloc _)
  have HK6:Hid (Kid r W6 2 ⟨9,10,0,[⟨6,j,0,[]⟩,⟨4,1 + q,0,[]⟩]⟩ A7 2):=Lib.hid (by rw [hA7,hW6]; exact HKe.out.gw (gwb (g:=m.g) (below_new _ _)) (by omega))
  have HB6:Hid (Blk W6 b7 25 #[.int .i64 9,.int .i64 10,.int .i64 0,.slice A7 2 2]):=Lib.hid (by rw [hW6,hb7,hA7]; exact Blk.new _ _ _)
  have HN6:Hid (b7≠m.g∧b7≠r∧r < b7):=Lib.hid (by have:=HMe.out.lt; have:=HRe.out.lt; omega)
  rw [← hW6,← hb7]
  clear hW6 hb7 HMb HGb HXb HRb HMc HGc HXc HRc HMd HGd HXd HRd HMe HGe HXe HRe HKe hA7
  go_upto_region 3 with (first
    | (have mk:=HMd; go_at_call 88; refine (mnode_is m (a + 1) (l - 1 - 1 - 1 - 1 - 1) 9 0 _ (some ⟨w9.heap.size,0,none⟩) 2 2 (HMd.out.alloc _) (by omega) (by omega)).mono ?_; rintro e w10 ⟨rfl,hm5,hg5⟩; have HMe:=Lib.hid hm5; have HGe:=Lib.hid (gw_trans (gw_alloc HGd.out _) hg5); have HKe:Hid (Kid r w10 2 ⟨9,0,0,[⟨6,j,0,[]⟩,⟨4,1,0,[]⟩]⟩ (some ⟨w9.heap.size,0,none⟩) 2):=Lib.hid (Kid.gw (g:=m.g) (Kid.two (HR6.out.gw HGd.out (by omega)).lt (kid_leaf (small (by omega) (by omega)) (small (by omega) (by omega))) (kid_leaf (small (by omega) (by omega)) (small (by omega) (by omega))) (small (by omega) (by omega)) (small (by omega) (by omega))) hg5 (by omega)); clear hm5 hg5)
    | (have mk:=HMc; go_at_call 88; refine (mnode_is m (a + 1) (l - 1 - 1 - 1 - 1) 4 1 _ none 0 0 HMc.out (by omega) (by omega)).mono ?_; rintro e w9 ⟨rfl,hm4,hg4⟩; have HMd:=Lib.hid hm4; have HGd:=Lib.hid (gw_trans HGc.out hg4); clear hm4 hg4)
    | (go_at_call 88; refine (mnode_is m (a + 1) (l - 1 - 1 - 1) 6 (j:Int) _ none 0 0 HM6.out (by omega) (by omega)).mono ?_; rintro e w8 ⟨rfl,hm2,hg2⟩; have HMc:=Lib.hid hm2; have HGc:=Lib.hid hg2; clear hm2 hg2))
  obtain ⟨W11,hW11⟩:∃ W,W = w10.alloc (.cells #[.int .i64 9,.int .i64 0,.int .i64 0,.slice (some ⟨w9.heap.size,0,none⟩) 2 2] 25):=⟨_,rfl⟩
  obtain ⟨b8,hb8⟩:∃ b,b = w10.heap.size:=⟨_,rfl⟩
  obtain ⟨A8,hA8⟩:∃ A:Option Addr,A = some ⟨w9.heap.size,0,none⟩:=⟨_,rfl⟩
  have HM11:Hid (Mk m (a + 1) (l - 1 - 1 - 1 - 1 - 1 - 1) W11):=Lib.hid (by rw [hW11]; exact HMe.out.alloc _)
  have HG11:Hid (W6.grownBy W11 (some m.g)):=Lib.hid (by rw [hW11]; exact gw_alloc HGe.out _)
  have HK11:Hid (Kid r W11 2 ⟨9,0,0,[⟨6,j,0,[]⟩,⟨4,1,0,[]⟩]⟩ A8 2):=Lib.hid (by rw [hA8,hW11]; exact HKe.out.gw (gwb (g:=m.g) (below_new _ _)) (by omega))
  have HB11:Hid (Blk W11 b8 25 #[.int .i64 9,.int .i64 0,.int .i64 0,.slice A8 2 2]):=Lib.hid (by rw [hW11,hb8,hA8]; exact Blk.new _ _ _)
  rw [← hW11,← hb8]
  try rw [← hA8]
  clear hW11 hb8 HMc HGc HMd HGd HMe HGe HKe hA8
  have y0:=HB11.out.cell 0; have y1:=HB11.out.cell 1; have y2:=HB11.out.cell 2; have y3:=HB11.out.cell 3
  simp only [List.getElem?_toArray,List.getElem?_cons_zero,List.getElem?_cons_succ] at y0 y1 y2 y3
  go_upto_region 4 with (go_at_call 88; refine (mnode_is m (a + 1) (l - 1 - 1 - 1 - 1 - 1 - 1) 14 (j:Int) _ (some ⟨W11.heap.size,0,none⟩) 1 1 (HM11.out.alloc _) (by omega) (by omega)).mono ?_; rintro e w12 ⟨rfl,hm5,hg5⟩; have HMe:=Lib.hid hm5; have HGe:=Lib.hid (gw_trans (gw_alloc HG11.out _) hg5); have HKe:Hid (Kid r w12 3 ⟨14,j,0,[⟨9,0,0,[⟨6,j,0,[]⟩,⟨4,1,0,[]⟩]⟩]⟩ (some ⟨W11.heap.size,0,none⟩) 1):=Lib.hid (Kid.gw (g:=m.g) (Kid.one (HR6.out.gw HG11.out (by omega)).lt HK11.out (small (by omega) (by omega)) (small (by omega) (by omega))) hg5 (by omega)); clear hm5 hg5)
  obtain ⟨W13,hW13⟩:∃ W,W = w12.alloc (.cells #[.int .i64 14,.int .i64 (j:Int),.int .i64 0,.slice (some ⟨W11.heap.size,0,none⟩) 1 1] 25):=⟨_,rfl⟩
  obtain ⟨b9,hb9⟩:∃ b,b = w12.heap.size:=⟨_,rfl⟩
  obtain ⟨A9,hA9⟩:∃ A:Option Addr,A = some ⟨W11.heap.size,0,none⟩:=⟨_,rfl⟩
  have HM13:Hid (Mk m (a + 1) (l - 7) W13):=Lib.hid (by rw [hW13,show l - 7 = l - 1 - 1 - 1 - 1 - 1 - 1 - 1 by omega]; exact HMe.out.alloc _)
  have HG13:Hid (W6.grownBy W13 (some m.g)):=Lib.hid (by rw [hW13]; exact gw_alloc HGe.out _)
  have HX13:Hid (Cx m s (Dp + 1) W13):=Lib.hid (HX6.out.gw HG13.out)
  have HR13:Hid (Blk W13 r 25 #[.int .i64 0,.int .i64 0,.int .i64 0,.slice none 0 0]):=Lib.hid (HR6.out.gw HG13.out (by omega))
  have HK13:Hid (Kid r W13 3 ⟨14,j,0,[⟨9,0,0,[⟨6,j,0,[]⟩,⟨4,1,0,[]⟩]⟩]⟩ A9 1):=Lib.hid (by rw [hA9,hW13]; exact HKe.out.gw (gwb (g:=m.g) (below_new _ _)) (by omega))
  have HB13:Hid (Blk W13 b9 25 #[.int .i64 14,.int .i64 (j:Int),.int .i64 0,.slice A9 1 1]):=Lib.hid (by rw [hW13,hb9,hA9]; exact Blk.new _ _ _)
  have HN13:Hid (b9≠m.g∧b9≠r∧r < b9):=Lib.hid (by have:=HMe.out.lt; have:=(HR6.out.gw HGe.out (by omega)).lt; omega)
  rw [← hW13,← hb9]
  try rw [← hA9]
  clear hW13 hb9 HMe HGe HKe hA9 y0 y1 y2 y3 HM11 HG11 HK11 HB11
  have HB137:Hid (Blk W13 b7 25 #[.int .i64 9,.int .i64 10,.int .i64 0,.slice A7 2 2]):=Lib.hid (HB6.out.gw HG13.out HN6.out.1)
  have HK137:Hid (Kid r W13 2 ⟨9,10,0,[⟨6,j,0,[]⟩,⟨4,1 + q,0,[]⟩]⟩ A7 2):=Lib.hid (HK6.out.gw HG13.out (by omega))
  have HSZ:Hid (r < W13.heap.size):=Lib.hid HR13.out.lt
  have HGW:Hid (w.grownBy W13 (some m.g)):=Lib.hid (gw_trans HG6.out HG13.out)
  clear HM6 HX6 HR6 HK6 HB6 HM1 HG1 HX1 HR1
  obtain ⟨lc,hlc⟩:∃ z:Int,z = l - 7:=⟨_,rfl⟩
  rw [← hlc] at HM13
  have hlc4:4≤lc:=by omega
  have hlc5:lc≤993:=by omega
  have HLC:=Lib.hid hlc
  clear hlc
  go_cut [10] from 35 to 35 (fun s10 wv=>W13 = wv∧s10 = .slice none 0 0)
  case first =>
    go_wp2_with fail
    go_meet
    exact ⟨rfl,rfl⟩
  case rest =>
  obtain ⟨hw,rfl⟩:=hcut
  subst hw
  rename_i hK
  refine hK _ _ ?_
  clear hK
  go_step
  go_cut [10] from 35 to 46 (fun s10 wv=>∃ (W14:World) (Ax:Option Addr) (cx:Nat) (ts:List T) (xs:List Value) (a':Nat),W14 = wv∧s10 = .slice Ax ts.length cx∧Hid (ts.length≤1∧ts.length≤cx∧RowG m (fun _ t=>GS s t) (capS e) (5 + 2 * e) (a + 1) lc W13 W14 (.slice Ax ts.length cx) ts xs a'∧-14 - 3 * (e:Int)≤lc - ((ts.map size).sum:Nat)))
  case first =>
    have h2:=HM13.out.cell 2
    simp only [Par.cells,List.getElem?_toArray,List.getElem?_cons_zero,List.getElem?_cons_succ] at h2
    by_cases h5:4 < lc
    · have hd5:decide (4 < lc) = true:=by simpa using h5
      have HCE:Hid (Calls Tryd.prog 100 #[.pointer (some ⟨m.g,0,none⟩),.int .i64 (e:Int)] W13 (SPost 0 m (GS s) (5 + 2 * e) (capS e) (-13 - 3 * (e:Int)) (a + 1) lc W13)):=Lib.hid (HSC.out (a + 1) lc W13 HM13.out HX13.out (by omega) (by omega) (by omega))
      have HOWN0:Hid (W13.ownsRow W13.heap.size 25 4 (.slice none 0 0) 0 []):=Lib.hid (World.ownsRow_nil _ _ _ _)
      obtain ⟨i0,hi,hz0,hz1,hz2⟩:=info_parts node_info
      go_wp2_with (first
        | (go_at_call 100; refine HCE.out.mono ?_; rintro e w3 ⟨t, A3, c3, a2, rfl, hge, hr3, hm3, hg3, h1, h2', hcp, hlo3⟩
           have HGE:=Lib.hid hge; have HR3':=Lib.hid hr3; have HM3':=Lib.hid hm3; have HG3':=Lib.hid hg3; have HA3:=Lib.hid (And.intro h1 (And.intro h2' (And.intro hcp hlo3)))
           have HOW:Hid ((w3.alloc (.cells #[.int .i64 t.k,.int .i64 t.n,.int .i64 t.m,.slice A3 t.kids.length c3] 25)).ownsRow W13.heap.size 25 4 (.slice none 0 0) 0 []):=Lib.hid (World.ownsRow_nil _ _ _ _)
           clear hge hr3 hm3 hg3 h1 h2' hcp hlo3)
        | (at_builtin
           refine wpList_append_any _ rfl (.tmp 40) (.tmp 45) 23 rfl W13.heap.size 25 i0 _ 4 48 Tryd.underlying23 hi hz0 hz1 hz2 rfl (by omega) _ 0 [] rfl HOW.out _ (some ⟨w3.heap.size,0,none⟩) 1 1 (nd t A3 c3) rfl (reads_nd w3 t A3 c3) (nd_one t A3 c3) (len_le (by omega)) (by omega) (by have:=HG3'.out.size; rw [size_alloc]; omega) ?_
           intro v4 w4 hown4 hgrow4 hnew4
           obtain ⟨Ax,cx,hvx,hcx⟩:=own_len hown4; subst hvx
           have HO4:=Lib.hid hown4; have HG4:=Lib.hid hgrow4; have HN4:=Lib.hid hnew4; have HCX:=Lib.hid hcx
           clear hown4 hgrow4 hnew4 hcx))
      go_meet
      have ha3:=HA3.out
      exact ⟨_,Ax,cx,[t],nd t A3 c3,a2,rfl,rfl,by simp,HCX.out,RowG.next (ts:=[]) (xs:=[]) (v:=.slice none 0 0) (by have:=HGR.out; have:=HGW.out.size; omega) (RowG.start HM13.out) HGE.out HR3'.out (by simpa using HM3'.out) HG3'.out ha3.1 (by omega) ha3.2.2.1 HO4.out HG4.out HN4.out,by simp; omega⟩
    · have hd5:decide (4 < lc) = false:=by simpa using h5
      go_wp2_with fail
      go_meet
      exact ⟨_,none,0,[],[],a + 1,rfl,rfl,by simp,by simp,RowG.start HM13.out,by simp; omega⟩
  case rest =>
  obtain ⟨W14,Ax,cx,ts,xs,a',hwc,rfl,HF⟩:=hcut
  subst hwc
  have HRW:=Lib.hid HF.out.2.2.1
  obtain ⟨nx,hnx⟩:∃ n,n = ts.length:=⟨_,rfl⟩
  have hnx1:nx≤1:=by rw [hnx]; exact HF.out.1
  obtain ⟨sm,hsm⟩:∃ z,z = (ts.map size).sum:=⟨_,rfl⟩
  have hlow:-14 - 3 * (e:Int)≤lc - (sm:Int):=by rw [hsm]; exact HF.out.2.2.2
  have hsmc:sm≤capS e:=by
    have h1:=HRW.out.cap
    rw [← hsm,← hnx] at h1
    have h3:nx * capS e≤1 * capS e:=Nat.mul_le_mul_right _ hnx1
    omega
  have hsm2:sm≤562:=Nat.le_trans hsmc HCS.out
  have haa:a + 1≤a'∧a'≤a + 1 + 6 * sm:=⟨HRW.out.lo,by rw [hsm]; exact HRW.out.hi⟩
  have HSMC:=Lib.hid hsmc
  have HMW:Hid (Mk m a' (lc - (sm:Int)) W14):=Lib.hid (by rw [hsm]; exact HRW.out.mkr)
  have hgw:=HRW.out.grown
  have hvb:∀ b,(Value.slice Ax nx cx).ownBlock = some b→W13.heap.size≤b:=fun b hb=>(HRW.out.own.lt b (by rw [← hnx]; exact hb)).1
  have HOWN:Hid (W14.ownsRow W13.heap.size 25 4 (.slice Ax nx cx) nx xs):=Lib.hid (by rw [hnx]; exact HRW.out.own)
  have HRPS:Hid (Reps W14 (fun b=>W13.heap.size≤b∧b < W14.heap.size∧(Value.slice Ax nx cx).ownBlock≠some b) (5 + 2 * e) ts xs):=Lib.hid (by rw [hnx]; exact HRW.out.reps)
  have HKC:Hid (Rep W14 (fun b=>r < b∧b < W13.heap.size) 2 ⟨9,10,0,[⟨6,j,0,[]⟩,⟨4,1 + q,0,[]⟩]⟩ (nd ⟨9,10,0,[⟨6,j,0,[]⟩,⟨4,1 + q,0,[]⟩]⟩ A7 2)):=Lib.hid (Rep.keep (Keeps.gw hgw (fun b hb=>hb.2) (fun b hb=>by have:=hb.1; omega)) HK137.out)
  have HKN:Hid (Rep W14 (fun b=>r < b∧b < W13.heap.size) 3 ⟨14,j,0,[⟨9,0,0,[⟨6,j,0,[]⟩,⟨4,1,0,[]⟩]⟩]⟩ (nd ⟨14,j,0,[⟨9,0,0,[⟨6,j,0,[]⟩,⟨4,1,0,[]⟩]⟩]⟩ A9 1)):=Lib.hid (Rep.keep (Keeps.gw hgw (fun b hb=>hb.2) (fun b hb=>by have:=hb.1; omega)) HK13.out)
  have HR14:=Lib.hid (HR13.out.gw hgw (by omega))
  have H714:=Lib.hid (HB137.out.gw hgw HN6.out.1)
  have H914:=Lib.hid (HB13.out.gw hgw HN13.out.1)
  obtain ⟨A4,c4,w4,happ,hown4,hg40,hc4⟩:=apT_run (W:=W14.drew) ⟨14,j,0,[⟨9,0,0,[⟨6,j,0,[]⟩,⟨4,1,0,[]⟩]⟩]⟩ A9 1 HOWN.out.drew hgw.size (by omega)
  have hg4:(W14.alloc (.cells #[.int .i64 14,.int .i64 (j:Int),.int .i64 0,.slice A9 1 1] 25)).grownBy w4 (Value.slice Ax nx cx).ownBlock:=⟨hg40.os,hg40.tape,hg40.output,hg40.size,hg40.block⟩
  have hsw:=hgw.size
  have hg4':W14.grownBy w4 (Value.slice Ax nx cx).ownBlock:=⟨hg4.os,hg4.tape,hg4.output,by have:=hg4.size; rw [size_alloc] at this; omega,fun i hi hne=>(hg4.block i (by rw [size_alloc]; omega) hne).trans (Below.heap_alloc W14 _ i hi)⟩
  have far:∀ b,b < W13.heap.size→some b≠(Value.slice Ax nx cx).ownBlock:=fun b hb e=>by have:=hvb b e.symm; omega
  have HM4:Hid (Mk m a' (lc - (sm:Int)) w4):=Lib.hid (Blk.grown HMW.out hg4' (far _ (by have:=HGR.out; have:=HGW.out.size; omega)))
  have HR4:Hid (Blk w4 r 25 #[.int .i64 0,.int .i64 0,.int .i64 0,.slice none 0 0]):=Lib.hid (Blk.grown HR14.out hg4' (far _ HSZ.out))
  have H74:=Lib.hid (Blk.grown H714.out hg4' (far _ HB137.out.lt))
  have H94:=Lib.hid (Blk.grown H914.out hg4' (far _ HB13.out.lt))
  have HG4:Hid (w.grownBy w4 (some m.g)):=Lib.hid (gw_row (gw_trans HGW.out hgw) hg4' (fun b hb=>by have:=hvb b hb; have:=HGW.out.size; omega))
  have HKB:Hid (Kid r w4 (6 + 2 * e) ⟨13,0,0,ts ++ [⟨14,j,0,[⟨9,0,0,[⟨6,j,0,[]⟩,⟨4,1,0,[]⟩]⟩]⟩]⟩ A4 c4):=Lib.hid (by
    have hreps:=row_snoc (r:=r) HSZ.out hsw HRPS.out (HKN.out.deeper (d':=5 + 2 * e) (by omega)) hvb hg4
    have hl:(ts ++ [(⟨14,j,0,[⟨9,0,0,[⟨6,j,0,[]⟩,⟨4,1,0,[]⟩]⟩]⟩:T)]).length = nx + 1:=by rw [List.length_append,← hnx]; rfl
    refine Rep.deeper (d:=5 + 2 * e + 1) (by omega) (Rep.mk (small (by omega) (by omega)) (small (by omega) (by omega)) (small (by omega) (by omega)) (by rw [hl]; exact hc4) ?_ hreps)
    rw [hl]
    exact (Rd.of_own hown4).mono fun b hb=>⟨by have:=HSZ.out; omega,hb.2⟩)
  have HKC4:Hid (Kid r w4 2 ⟨9,10,0,[⟨6,j,0,[]⟩,⟨4,1 + q,0,[]⟩]⟩ A7 2):=Lib.hid (kid_keep4 hsw HKC.out hvb hg4)
  have HPOST:Hid (GS s ⟨18,0,0,[⟨9,10,0,[⟨6,j,0,[]⟩,⟨4,1 + q,0,[]⟩]⟩,⟨13,0,0,ts ++ [⟨14,j,0,[⟨9,0,0,[⟨6,j,0,[]⟩,⟨4,1,0,[]⟩]⟩]⟩]⟩]⟩∧size ⟨18,0,0,[⟨9,10,0,[⟨6,j,0,[]⟩,⟨4,1 + q,0,[]⟩]⟩,⟨13,0,0,ts ++ [⟨14,j,0,[⟨9,0,0,[⟨6,j,0,[]⟩,⟨4,1,0,[]⟩]⟩]⟩]⟩]⟩ = 9 + sm):=Lib.hid (by
    have hv:=GE.var HU.out HUK.out (.inl rfl) HVL.out
    have hc:GE s ⟨9,10,0,[⟨6,j,0,[]⟩,⟨4,1 + q,0,[]⟩]⟩ 1:=GE.bin (k:=0) (by omega) (by omega) rfl rfl hv (GE.num (by omega) (by omega))
    have hn:GE s ⟨9,0,0,[⟨6,j,0,[]⟩,⟨4,1,0,[]⟩]⟩ 0:=GE.bin (k:=0) (by omega) (by omega) rfl rfl hv (GE.num (by omega) (by omega))
    have hs:=GS.set HU.out HUK.out (.inl rfl) hn HVL.out
    refine ⟨GS.while_ hc (GB.mk' (by rw [List.length_append,← hnx]; simp; omega) fun z hz=>?_),?_⟩
    · rcases List.mem_append.1 hz with hz | hz
      · obtain ⟨i,hi⟩:=List.mem_iff_getElem?.1 hz
        exact HRW.out.all i z hi
      · simp at hz; rw [hz]; exact hs
    · have e1:size ⟨9,10,0,[⟨6,j,0,[]⟩,⟨4,1 + q,0,[]⟩]⟩ = 3:=by rw [size_two,size1,size1]
      have e2:size ⟨14,j,0,[⟨9,0,0,[⟨6,j,0,[]⟩,⟨4,1,0,[]⟩]⟩]⟩ = 4:=by rw [size_one,size_two,size1,size1]
      have e3:size ⟨13,0,0,ts ++ [⟨14,j,0,[⟨9,0,0,[⟨6,j,0,[]⟩,⟨4,1,0,[]⟩]⟩]⟩]⟩ = 1 + (sm + 4):=by rw [sizeK,List.map_append,List.sum_append,← hsm]; simp [e2]
      rw [size_two,e1,e3]; omega)
  have k0:=Lib.hid (cells8 H714.out.drew H914.out.drew)
  have k1:=Lib.hid (cells8 (H714.out.alloc (.cells #[.int .i64 14,.int .i64 (j:Int),.int .i64 0,.slice A9 1 1] 25)).drew (H914.out.alloc (.cells #[.int .i64 14,.int .i64 (j:Int),.int .i64 0,.slice A9 1 1] 25)).drew)
  have k4:=Lib.hid (cells8 H74.out H94.out)
  have hap:(apN #[23,23] 23 #[.slice Ax nx cx,.slice (some ⟨W14.heap.size,0,none⟩) 1 1]).run Tryd.prog ((W14.alloc (.cells #[.int .i64 14,.int .i64 (j:Int),.int .i64 0,.slice A9 1 1] 25)).drew) = .ok (.slice A4 (nx + 1) c4) w4:=happ
  have HLEN:Hid ((ts ++ [(⟨14,j,0,[⟨9,0,0,[⟨6,j,0,[]⟩,⟨4,1,0,[]⟩]⟩]⟩:T)]).length = nx + 1):=Lib.hid (by rw [List.length_append,← hnx]; rfl)
  have hnxe:ts.length = nx:=hnx.symm
  rw [hnxe]
  have hlow2:-16 - 3 * (e:Int)≤lc - (sm:Int) - 2:=by omega
  have HLOW:=Lib.hid hlow2
  clear happ hown4 hg4 hg40 hg4' far hsw hgw hvb hsm hnx hnxe hlow hsmc hlow2 HF HRW HOWN HRPS HKC HKN HR14 H714 H914 HMW HM13 HG13 HX13 HR13 HK13 HB13 HB137 HK137
  go_upto_region 7 with fail
  refine wp_region_noPanic ?_
  go_region_held2 (fun W=>(W.cell? ⟨b7,0,none⟩ = some (.int .i64 9)∧W.cell? ⟨b7,1,none⟩ = some (.int .i64 10)∧W.cell? ⟨b7,2,none⟩ = some (.int .i64 0)∧W.cell? ⟨b7,3,none⟩ = some (.slice A7 2 2))∧W.cell? ⟨b9,0,none⟩ = some (.int .i64 14)∧W.cell? ⟨b9,1,none⟩ = some (.int .i64 (j:Int))∧W.cell? ⟨b9,2,none⟩ = some (.int .i64 0)∧W.cell? ⟨b9,3,none⟩ = some (.slice A9 1 1))
    (first | exact k0.out | exact k1.out | exact k4.out | exact HKX.out | exact HKY.out | exact HKZ.out | exact HKP.out _ _ _ _)
    (first
    | (have mk:=HM15; go_at_call 88; (with_reducible refine (mnode_is m a' (lc - (sm:Int) - 1) 18 0 _ (some ⟨w15.heap.size,0,none⟩) 2 2 (HM15.out.alloc _) (by omega) (by omega)).mono ?_); rintro e w16 ⟨rfl,hm5,hg5⟩; have HM16:=Lib.hid hm5; have HG16:=Lib.hid hg5; have HR16:Hid (Blk w16 r 25 #[.int .i64 0,.int .i64 0,.int .i64 0,.slice none 0 0]):=Lib.hid ((Blk.alloc HR15.out _).gw hg5 (by omega)); have H716:=Lib.hid ((Blk.alloc H715.out _).gw hg5 HN6.out.1); have H916:=Lib.hid ((Blk.alloc H915.out _).gw hg5 HN13.out.1); have HKZ:=Lib.hid (cells8 H716.out H916.out); have HKP:Hid (∀ v0 v1 v2 v3,_∧_):=Lib.hid fun v0 v1 v2 v3=>cells8 (H716.out.gw (gw4 w16 r v0 v1 v2 v3).1 HN6.out.2.1) (H916.out.gw (gw4 w16 r v0 v1 v2 v3).1 HN13.out.2.1); clear hm5 hg5; have r0:=HR16.out.cell 0; have r1:=HR16.out.cell 1; have r2:=HR16.out.cell 2; have r3:=HR16.out.cell 3; have f0:=HR16.out.frozen 0; have f1:=HR16.out.frozen 1; have f2:=HR16.out.frozen 2; have f3:=HR16.out.frozen 3; simp only [List.getElem?_toArray,List.getElem?_cons_zero,List.getElem?_cons_succ] at r0 r1 r2 r3)
    | (go_at_call 88; (with_reducible refine (mnode_is m a' (lc - (sm:Int)) 13 0 _ A4 (nx + 1) c4 HM4.out (by omega) (by omega)).mono ?_); rintro e w15 ⟨rfl,hm5,hg5⟩; have HM15:=Lib.hid hm5; have HG15:=Lib.hid hg5; have HR15:=Lib.hid (HR4.out.gw hg5 (by omega)); have H715:=Lib.hid (H74.out.gw hg5 HN6.out.1); have H915:=Lib.hid (H94.out.gw hg5 HN13.out.1); have HKX:=Lib.hid (cells8 H715.out H915.out); have HKY:=Lib.hid (cells8 (H715.out.alloc (.cells #[.int .i64 9,.int .i64 10,.int .i64 0,.slice A7 2 2,.int .i64 13,.int .i64 0,.int .i64 0,.slice A4 (nx + 1) c4] 25)) (H915.out.alloc (.cells #[.int .i64 9,.int .i64 10,.int .i64 0,.slice A7 2 2,.int .i64 13,.int .i64 0,.int .i64 0,.slice A4 (nx + 1) c4] 25))); have HKB15:=Lib.hid (HKB.out.gw hg5 (by omega)); have HKC15:=Lib.hid (HKC4.out.gw hg5 (by omega)); clear hm5 hg5))
  all_goals
    refine NoPanic.normal ?_
    go_wp2_with fail
    have hsz:=HPOST.out.2
    have hlc:=HLC.out
    have hlow:=HLOW.out
    have hsmc:=HSMC.out
    have hcs:capS (e + 1) = 10 + 3 * capS e:=rfl
    refine bodyPost_ret (v:=.agg #[.int .i64 18,.int .i64 0,.int .i64 0,.slice (some ⟨w15.heap.size,0,none⟩) 2 2]) (by simp [results,Tryd.results107,go_sem,r0,r1,r2,r3]) rfl (SPost.fin (t:=⟨18,0,0,[⟨9,10,0,[⟨6,j,0,[]⟩,⟨4,1 + q,0,[]⟩]⟩,⟨13,0,0,ts ++ [⟨14,j,0,[⟨9,0,0,[⟨6,j,0,[]⟩,⟨4,1,0,[]⟩]⟩]⟩]⟩]⟩) (R:=6 + 2 * e + 1) (a':=a') hle.out HGR.out HPOST.out.1 ?_ (by omega) ?_ (gw_trans (gw_alloc (gw_trans HG4.out HG15.out) _) HG16.out) (by omega) (by rw [hsz]; omega) (by rw [hsz]; omega) (by rw [hsz]; push_cast; omega) _ _ _ _)
    · have h:=Kid.two (k:=18) (n:=0) HR15.out.lt (HKC15.out.deep (D':=6 + 2 * e) (by omega)) HKB15.out (small (by omega) (by omega)) (small (by omega) (by omega))
      simp only [HLEN.out] at h
      exact Kid.gw (g:=m.g) h HG16.out (by omega)
    · rw [hsz]
      have e2:l - ((9 + sm:Nat):Int) = lc - (sm:Int) - 1 - 1:=by rw [hlc]; push_cast; omega
      rw [e2]; exact HM16.out
end Go.Proofs.YtkkenbalpnmfmaaDoor
