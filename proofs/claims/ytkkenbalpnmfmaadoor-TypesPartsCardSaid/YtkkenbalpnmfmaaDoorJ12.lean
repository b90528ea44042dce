/- Texts joined. -/
import Derived.Test.YtkkenbalpnmfmaaDoorJ11
import Derived.Test.YtkkenbalpnmfmaaDoorJ07
set_option linter.unusedVariables false
namespace Go.Proofs.YtkkenbalpnmfmaaDoor
open Go.RowKit WM TR TY

def FieldPost (m:Par) (s:Sc) (k:Int) (a:Nat) (l:Int) (w:World) (e:Ending) (w':World):Prop :=
 ∃ (v i:Int) (a':Nat),e = .returned (.tuple #[.int .i64 v,.int .i64 i])∧(v = -1∨∃ (j q:Nat) (t y:T),v = j∧i = q∧s.vars[j]? = some t∧t.k = 3∧t.kids[q]? = some y∧y.k = k∧q≤2)∧a≤a'∧a'≤a + 2∧Mk m a' l w'∧w.grownBy w' (some m.g)
theorem rec_len {t:T} (h:isType t = true) (hk:t.k = 3):t.kids.length≤3:=by
 unfold isType at h
 simp [hk] at h
 omega

set_option maxRecDepth 100000 in
set_option maxHeartbeats 4000000 in
theorem field_is (m : Par) (s : Sc) (D a : Nat) (l k : Int) (w : World) (hm : Mk m a l w) (hx : Cx m s (D + 1) w) (ha : a ≤ 999990) :
  Calls Tryd.prog 87 #[.pointer (some ⟨m.g,0,none⟩),.int .i64 k] w (FieldPost m s k a l w):=by
 have HG:=Lib.hid hm
 have HX:=Lib.hid hx
 clear hm hx
 go_enter Tryd.func87,Tryd.ntmps87
 go_upto_region 2 with (first
  | (go_at_call 89; refine (pick_is m s (D + 1) a l 3 _ HG.out HX.out (by omega)).mono ?_; rintro e w2 ⟨v,rfl,hv,hm2,hg2⟩; have HM2:=Lib.hid hm2; have HG2:=Lib.hid hg2; have HX2:=Lib.hid (HX.out.gw hg2); clear hm2 hg2))
 rcases hv with rfl | ⟨j,t,rfl,ht,htk⟩
 ·go_wp2_with fail
  refine bodyPost_ret (v:=.tuple #[.int .i64 (-1),.int .i64 0]) (by simp [results,Tryd.results87,go_sem]) rfl ?_
  exact ⟨-1,0,a + 1,rfl,.inl rfl,by omega,by omega,HM2.out,HG2.out⟩
 ·have hj0:¬ ((j:Int) < 0):=by omega
  go_upto_region 4 with fail
  obtain ⟨b,off,A',c',hA,hbl,hc,hrt⟩:=HX2.out.hV.at_ ht
  have hq3:t.kids.length≤3:=rec_len (HX2.out.ok.vt t (List.mem_of_getElem? ht)) htk
  obtain ⟨nq,hnq⟩:∃ nq,nq = t.kids.length:=⟨_,rfl⟩
  have hjl:j < s.vars.length:=(List.getElem?_eq_some_iff.1 ht).1
  obtain ⟨nv,hnv⟩:∃ nv,nv = s.vars.length:=⟨_,rfl⟩
  have hkb:(0:Int)≤(j:Int)∧(j:Int) < (nv:Int):=⟨by omega,by omega⟩
  have hgl:m.g < w2.heap.size:=HM2.out.lt
  have LP:Hid (∀ W,Below w2.heap.size w2 W→(Instr.loadAt 25 (.pointer (some ⟨m.g,3,none⟩))).run Tryd.prog W = .ok (.agg #[.int .i64 m.p.k,.int .i64 m.p.n,.int .i64 m.p.m,.slice m.AP m.p.kids.length m.cP]) W):=Lib.hid fun W hb=>load_nd (Mk.loadP (m:=m) (a:=a + 1) (l:=l) (HM2.out.below hb hgl))
  have LF:Hid (∀ W,Below w2.heap.size w2 W→(Instr.loadAt 3 (.pointer (some ⟨m.g,7,none⟩))).run Tryd.prog W = .ok (.int .i64 (m.F:Int)) W):=Lib.hid fun W hb=>by
   have h7:=(HM2.out.below hb hgl:Mk m (a + 1) l W).cell 7
   simp only [Par.cells,List.getElem?_toArray,List.getElem?_cons_zero,List.getElem?_cons_succ] at h7
   go_simp
  have LK:Hid (∀ W,Below w2.heap.size w2 W→(Instr.loadAt 23 (.pointer (some ⟨b,off + j * 4 + 3,none⟩))).run Tryd.prog W = .ok (.slice A' nq c') W):=Lib.hid fun W hb=>by
   have h3:W.cell? ⟨b,off + j * 4 + 3,none⟩ = some (.slice A' nq c'):=(hb.cell (p:=⟨b,_,none⟩) (HX2.out.hin b hbl)).trans (by rw [hnq]; exact hc 3 _ rfl)
   go_simp
  have HC:Hid (∀ W,Below w2.heap.size w2 W→Calls Tryd.prog 25 #[.agg #[.int .i64 m.p.k,.int .i64 m.p.n,.int .i64 m.p.m,.slice m.AP m.p.kids.length m.cP],.int .i64 (m.F:Int)] W fun e w'=>e = .returned (.slice (some ⟨b,off,none⟩) nv m.vc)∧Below w2.heap.size w2 w'):=Lib.hid fun W hb =>
   (HX2.out.hC W (Keeps.below HX2.out.hin hb) (HX2.out.hin.more hb.size)).mono fun e w' ⟨he,hb2⟩=>⟨by rw [← hA,hnv]; exact he,bt hb hb2⟩
  have HRT:=Lib.hid hrt
  have HBL:=Lib.hid hbl
  have HT:=Lib.hid ht
  have HTK:=Lib.hid htk
  have HNQ:=Lib.hid hnq
  clear hc hrt hbl ht htk hA hnv hjl hq3
  have hnq3:nq≤3:=by rw [hnq]; exact rec_len (HX2.out.ok.vt t (List.mem_of_getElem? HT.out)) HTK.out
  clear hnq
  go_cut [7] from 15 to 27 (fun s7 wv=>∃ V:World,V = wv∧s7 = .slice A' nq c'∧Hid (Below w2.heap.size w2 V))
  case first =>
   refine wp_region_below w2 (Below.refl _ _) (by kernel_rfl) (by kernel_rfl) ?_
   iterate 3 go_big_quiet_step ((intro _; rfl))
   refine wpQuiet_load' rfl 25 (.tmp 17) rfl _ rfl (.agg #[.int .i64 m.p.k,.int .i64 m.p.n,.int .i64 m.p.m,.slice m.AP m.p.kids.length m.cP]) LP.out ?_
   go_simp
   iterate 3 go_big_quiet_step ((intro _; rfl))
   refine wpQuiet_load' rfl 3 (.tmp 21) rfl _ rfl (.int .i64 (m.F:Int)) LF.out ?_
   go_simp
   go_big_quiet_step ((intro hw'; exact HC.out _ hw'))
   iterate 3 go_big_quiet_step ((intro _; rfl))
   refine wpQuiet_load' rfl 23 (.tmp 26) rfl _ rfl (.slice A' nq c') LK.out ?_
   go_simp
   iterate 1 go_big_quiet_step ((intro _; rfl))
   refine wpQuiet_nil ?_
   intro W3 hb3
   go_wp2_with fail
   go_meet
   exact ⟨_,rfl,rfl,hb3⟩
  case rest =>
  obtain ⟨V,hwc,rfl,hb3⟩:=hcut
  subst hwc
  have HM3:Hid (Mk m (a + 1) l V):=Lib.hid (HM2.out.below hb3.out hgl)
  have HX3:Hid (Cx m s (D + 1) V):=Lib.hid (HX2.out.below hb3.out)
  have HG3:Hid (w.grownBy V (some m.g)):=Lib.hid (gw_below HG2.out hb3.out)
  have HRT3:Hid (Rep V m.S (D + 1 + 1) t (nd t A' c')):=Lib.hid (HRT.out.keep (Keeps.below HX2.out.hin hb3.out))
  clear hb3 LP LF LK HC hkb
  obtain ⟨q,hq⟩:∃ q,numAt m.L (a + 1) 3 = q:=⟨_,rfl⟩
  have hqb:=numAt_le (L:=m.L) (a:=a + 1) (n:=3) (by omega)
  rw [hq] at hqb
  obtain ⟨q',rfl⟩:∃ q':Nat,q = (q':Int):=⟨q.toNat,by omega⟩
  have HQ:=Lib.hid hq
  clear hq
  go_upto_region 6 with (first
   | (go_at_call 86; refine (draw_is m s (D + 1) (a + 1) l 3 _ HM3.out HX3.out (by omega) (by omega)).mono ?_; rintro e w4 ⟨rfl,hm4,hg4⟩; rw [HQ.out]; have HM4:=Lib.hid hm4; have HG4:=Lib.hid (gw_trans HG3.out hg4); have HK4:Hid (Rep w4 m.S (D + 1 + 1) t (nd t A' c')):=Lib.hid (HRT3.out.keep (Keeps.gw hg4 HX3.out.hin HX3.out.hS)); clear hm4 hg4))
  have hV:Hid (∀ i y,t.kids[i]? = some y→∃ b off,A' = some ⟨b,off,none⟩∧w4.cell? ⟨b,off + i * 4,none⟩ = some (.int .i64 y.k)):=Lib.hid fun i y hy=>by
   obtain ⟨b,off,A2,c2,hA,hbl,hc,_⟩:=HK4.out.kid hy
   exact ⟨b,off,hA,hc 0 _ rfl⟩
  go_wp2_with fail
  go_loopw [9] (fun i wr=>∃ j:Nat,j≤nq∧i = .int .i64 j∧wr = w4) (fun i _=>nq - (intOf i).toNat)
  case atStart=>exact ⟨0,Nat.zero_le _,rfl,rfl⟩
  case round =>
   obtain ⟨i,hi,rfl,rfl⟩:=hrel
   by_cases hlt:i < nq
   ·have hlt2:(i:Int) < (nq:Int):=by omega
    have hkn:(q' + i) % nq < nq:=Nat.mod_lt _ (by omega)
    obtain ⟨y,hy⟩:∃ y,t.kids[(q' + i) % nq]? = some y:=⟨_,List.getElem?_eq_getElem (by rw [← HNQ.out]; exact hkn)⟩
    obtain ⟨b2,off2,hA2,hcell⟩:=hV.out _ y hy
    have hkb:(0:Int)≤((q':Int) + (i:Int)) % (nq:Int)∧((q':Int) + (i:Int)) % (nq:Int) < (nq:Int):=⟨Int.emod_nonneg _ (by omega),Int.emod_lt_of_pos _ (by omega)⟩
    have hvk:((q':Int) + (i:Int)) % (nq:Int) = (((q' + i) % nq:Nat):Int):=by push_cast; rfl
    have HVK:=Lib.hid hvk
    rw [hA2]
    obtain ⟨yk,hyk⟩:∃ z,z = y.k:=⟨_,rfl⟩
    rw [← hyk] at hcell
    have HYK:=Lib.hid hyk
    have HY:=Lib.hid hy
    have HKN:=Lib.hid hkn
    clear hyk hy hvk hkn
    by_cases hkk:yk = k
    ·subst hkk
     go_wp2_with fail
     refine bodyPost_ret (v:=.tuple #[.int .i64 (j:Int),.int .i64 (((q':Int) + (i:Int)) % (nq:Int))]) (by simp [results,Tryd.results87,go_sem]) rfl ?_
     exact ⟨_,_,a + 1 + 1,rfl,.inr ⟨j,(q' + i) % nq,t,y,rfl,HVK.out,HT.out,HTK.out,HY.out,HYK.out.symm,by have:=HKN.out; omega⟩,by omega,by omega,HM4.out,HG4.out⟩
    ·go_wp2_with fail
     go_roundw
     case rel=>exact ⟨i + 1,by omega,by go_num,trivial⟩
     case measure=>simp [intOf]; omega
   ·have hjn:i = nq:=by omega
    subst hjn
    go_wp2_with fail
    refine bodyPost_ret (v:=.tuple #[.int .i64 (-1),.int .i64 0]) (by simp [results,Tryd.results87,go_sem]) rfl ?_
    exact ⟨-1,0,a + 1 + 1,rfl,.inl rfl,by omega,by omega,HM4.out,HG4.out⟩
end Go.Proofs.YtkkenbalpnmfmaaDoor

namespace Go.Proofs.YtkkenbalpnmfmaaDoor
open Go.RowKit WM TR TY

def EPost (x:Nat) (m:Par) (s:Sc) (k:Int) (d a:Nat) (l:Int) (w:World) (e:Ending) (w':World):Prop :=
 ∃ (t:T) (A':Option Addr) (c' a':Nat),e = .returned (.agg #[.int .i64 t.k,.int .i64 t.n,.int .i64 t.m,.slice A' t.kids.length c'])∧GE s t k∧Rep w' (fun b=>w.heap.size≤b∧b < w'.heap.size) (d + 1) t (nd t A' c')∧Mk m a' (l - size t) w'∧w.grownBy w' (some m.g) ∧
  a≤a'∧a' + x≤a + 6 * size t∧size t≤capE d
theorem put4_mk {m : Par} {a : Nat} {l : Int} {w V : World} {r : Nat} (hm : Mk m a l V) (hg : w.grownBy V (some m.g)) (hr : w.heap.size ≤ r) (hgr : m.g < w.heap.size) (v0 v1 v2 v3 : Value) :
  Mk m a l ((((V.setCell ⟨r,0,none⟩ v0).setCell ⟨r,1,none⟩ v1).setCell ⟨r,2,none⟩ v2).setCell ⟨r,3,none⟩ v3)∧w.grownBy ((((V.setCell ⟨r,0,none⟩ v0).setCell ⟨r,1,none⟩ v1).setCell ⟨r,2,none⟩ v2).setCell ⟨r,3,none⟩ v3) (some m.g) :=
 ⟨hm.gw (gw4 V r v0 v1 v2 v3).1 (by omega),gw_setCell (gw_setCell (gw_setCell (gw_setCell hg (.inr hr) _) (.inr hr) _) (.inr hr) _) (.inr hr) _⟩
theorem EPost.leaf {x : Nat} {m : Par} {s : Sc} {k : Int} {d a a' : Nat} {l : Int} {w V : World} {r : Nat} {tk tn tm : Int} (hge : GE s ⟨tk, tn, tm, []⟩ k) (hrk : inRange tk ∧ inRange tn ∧ inRange tm) (hm : Mk m a' (l - 1) V) (hg : w.grownBy V (some m.g)) (hr : w.heap.size ≤ r) (hgr : m.g < w.heap.size) (h1 : a ≤ a') (h2 : a' + x ≤ a + 6) (v0 v1 v2 v3 : Value) :
  EPost x m s k d a l w (.returned (.agg #[.int .i64 tk,.int .i64 tn,.int .i64 tm,.slice none 0 0])) ((((V.setCell ⟨r,0,none⟩ v0).setCell ⟨r,1,none⟩ v1).setCell ⟨r,2,none⟩ v2).setCell ⟨r,3,none⟩ v3):=by
 have hp:=put4_mk hm hg hr hgr v0 v1 v2 v3
 have hs:=size1 tk tn tm
 exact ⟨⟨tk,tn,tm,[]⟩,none,0,a',rfl,hge,Rep.leaf hrk.1 hrk.2.1 hrk.2.2 d 0,by rw [hs]; exact hp.1,hp.2,h1,by omega,by rw [hs]; exact capE_pos d⟩
theorem lits (q:Nat) (hq:q < 10):∃ z:Int,(#[.int .i64 0,.int .i64 1,.int .i64 2,.int .i64 3,.int .i64 (-1),.int .i64 7,.int .i64 (-8),.int .i64 5,.int .i64 4,.int .i64 (-3)]:Array Value)[q]? = some (.int .i64 z)∧-8≤z∧z≤7:=by
 match q,hq with
 | 0,_=>exact ⟨_,rfl,by omega,by omega⟩
 | 1,_=>exact ⟨_,rfl,by omega,by omega⟩
 | 2,_=>exact ⟨_,rfl,by omega,by omega⟩
 | 3,_=>exact ⟨_,rfl,by omega,by omega⟩
 | 4,_=>exact ⟨_,rfl,by omega,by omega⟩
 | 5,_=>exact ⟨_,rfl,by omega,by omega⟩
 | 6,_=>exact ⟨_,rfl,by omega,by omega⟩
 | 7,_=>exact ⟨_,rfl,by omega,by omega⟩
 | 8,_=>exact ⟨_,rfl,by omega,by omega⟩
 | 9,_=>exact ⟨_,rfl,by omega,by omega⟩
 | q + 10,h=>omega
theorem small {x:Int} (h0:-1000≤x) (h1:x≤1000):inRange x:=by unfold inRange; omega

theorem zletter {L:List Int} (a:Nat) (n:Int) (hn:0 < n):∃ q:Nat,Hid (numAt L a n = (q:Int))∧(q:Int) < n:=by
 have h:=numAt_le (L:=L) (a:=a) (n:=n) hn
 exact ⟨(numAt L a n).toNat,by show numAt L a n = _; omega,by omega⟩

set_option maxRecDepth 100000 in
set_option maxHeartbeats 4000000 in
theorem leaf_is (m : Par) (s : Sc) (D d a : Nat) (l k : Int) (w : World) (hm : Mk m a l w) (hx : Cx m s D w) (ha : a ≤ 999990) (hk : k = 0 ∨ k = 1) (hl0 : -900000 ≤ l) (hl1 : l ≤ 1000000) :
  Calls Tryd.prog 85 #[.pointer (some ⟨m.g,0,none⟩),.int .i64 k] w (EPost 3 m s k d a l w):=by
 obtain ⟨r,hr⟩:∃ r,r = w.heap.size:=⟨_,rfl⟩
 have hgr:m.g < r:=by rw [hr]; exact hm.lt
 have HGR:Hid (m.g < w.heap.size):=Lib.hid hm.lt
 have HR:=Lib.hid hr
 obtain ⟨W1,hW1⟩:∃ W1,W1 = w.alloc (.cells #[.int .i64 0,.int .i64 0,.int .i64 0,.slice none 0 0] 25):=⟨_,rfl⟩
 have HM1:Hid (Mk m a l W1):=Lib.hid (by rw [hW1]; exact hm.alloc _)
 have HG1:Hid (w.grownBy W1 (some m.g)):=Lib.hid (by rw [hW1]; exact gw_alloc (gw_refl w m.g) _)
 have HX1:Hid (Cx m s D W1):=Lib.hid (hx.gw HG1.out)
 have HR1:Hid (Blk W1 r 25 #[.int .i64 0,.int .i64 0,.int .i64 0,.slice none 0 0]):=Lib.hid (by rw [hW1,hr]; exact Blk.new _ _ _)
 have HW1:=Lib.hid hW1
 obtain ⟨q,HQ,hq3⟩:=zletter (L:=m.L) a 3 (by omega)
 have HK:=Lib.hid hk
 clear hr hm hW1 hx hk
 have hle:Hid (w.heap.size≤r):=Lib.hid (Nat.le_of_eq HR.out.symm)
 go_enter Tryd.func85,Tryd.ntmps85
 go_upto_region 1 with fail
 rw [← HW1.out,← HR.out]
 go_cut [8] from 6 to 8 (fun s8 wv=>∃ V:World,V = wv∧s8 = .bool (decide (0 < q))∧Hid (Mk m (a + 1) l V∧W1.grownBy V (some m.g)))
 case first =>
  go_wp2_with (first
   | (go_at_call 86; refine (draw_is m s D a l 3 _ HM1.out HX1.out (by omega) (by omega)).mono ?_; rintro e w2 ⟨rfl,hm2,hg2⟩; rw [HQ.out]))
  go_meet
  exact ⟨_,rfl,rfl,hm2,hg2⟩
 case rest =>
 obtain ⟨V,hwc,rfl,HV⟩:=hcut
 subst hwc
 by_cases hq0:0 < q
 ·have HM2:=Lib.hid HV.out.1
  have HG2:=Lib.hid (gw_trans HG1.out HV.out.2)
  have HX2:=Lib.hid (HX1.out.gw HV.out.2)
  have HR2:=Lib.hid (HR1.out.gw HV.out.2 (by omega))
  obtain ⟨V2,hV2⟩:∃ V2,V2 = V:=⟨_,rfl⟩
  subst hV2
  go_upto_region 3 with (first
   | (go_at_call 89; refine (pick_is m s D (a + 1) l k _ HM2.out HX2.out (by omega)).mono ?_; rintro e w3 ⟨v,rfl,hv,hm3,hg3⟩; have HM3:=Lib.hid hm3; have HG3:=Lib.hid (gw_trans HG2.out hg3); have HX3:=Lib.hid (HX2.out.gw hg3); have HR3:=Lib.hid (HR2.out.gw hg3 (by omega)); clear hm3 hg3))
  rcases hv with rfl | ⟨j,t,rfl,ht,htk⟩
  ·obtain ⟨V2,hV2⟩:∃ V2,V2 = w3:=⟨_,rfl⟩
   subst hV2
   replace HM2:=HM3
   replace HG2:=HG3
   replace HX2:=HX3
   replace HR2:=HR3
   rcases HK.out with rfl | rfl
   ·obtain ⟨x,HX10,hx10⟩:=zletter (L:=m.L) (a + 1 + 1) 10 (by omega)
    obtain ⟨z,hz,hz0,hz1⟩:=lits x (by omega)
    have HZ:=Lib.hid hz
    clear hz
    have hxb:(0:Int)≤(x:Int)∧(x:Int) < 10:=⟨by omega,by omega⟩
    obtain ⟨V6,hV6⟩:∃ V6,V6 = V2.alloc (.cells #[.int .i64 0,.int .i64 1,.int .i64 2,.int .i64 3,.int .i64 (-1),.int .i64 7,.int .i64 (-8),.int .i64 5,.int .i64 4,.int .i64 (-3)] 3):=⟨_,rfl⟩
    have HM6:Hid (Mk m (a + 1 + 1) l V6):=Lib.hid (by rw [hV6]; exact HM2.out.alloc _)
    have HG6:Hid (w.grownBy V6 (some m.g)):=Lib.hid (by rw [hV6]; exact gw_alloc HG2.out _)
    have HX6:Hid (Cx m s D V6):=Lib.hid (by rw [hV6]; exact HX2.out.below (below_new _ _))
    have HR6:Hid (Blk V6 r 25 #[.int .i64 0,.int .i64 0,.int .i64 0,.slice none 0 0]):=Lib.hid (by rw [hV6]; exact HR2.out.alloc _)
    have HL6:Hid (Blk V6 V2.heap.size 3 #[.int .i64 0,.int .i64 1,.int .i64 2,.int .i64 3,.int .i64 (-1),.int .i64 7,.int .i64 (-8),.int .i64 5,.int .i64 4,.int .i64 (-3)]):=Lib.hid (by rw [hV6]; exact Blk.new _ _ _)
    have HGL:Hid (V2.heap.size≠m.g):=Lib.hid (by have:=HM2.out.lt; omega)
    go_wp2_with (first
     | (go_at_call 86; rw [← hV6]; refine (draw_is m s D (a + 1 + 1) l 10 _ HM6.out HX6.out (by omega) (by omega)).mono ?_; rintro e w4 ⟨rfl,hm4,hg4⟩; rw [HX10.out]; have HM4:=Lib.hid hm4; have HG4:=Lib.hid (gw_trans HG6.out hg4); have HR4:=Lib.hid (HR6.out.gw hg4 (by omega)); have hc4:=((HL6.out.gw hg4 HGL.out).cell x).trans HZ.out; clear hm4 hg4 hV6)
     | (go_at_call 88; refine (mnode_is m (a + 1 + 1 + 1) l 4 z _ none 0 0 HM4.out (by omega) (by omega)).mono ?_; rintro e w5 ⟨rfl,hm5,hg5⟩; have HM5:=Lib.hid hm5; have HG5:=Lib.hid (gw_trans HG4.out hg5); have HR5:Hid (Blk w5 r 25 #[.int .i64 0,.int .i64 0,.int .i64 0,.slice none 0 0]):=Lib.hid ((HR4.out).gw hg5 (by omega)); clear hm5 hg5; have r0:=HR5.out.cell 0; have r1:=HR5.out.cell 1; have r2:=HR5.out.cell 2; have r3:=HR5.out.cell 3; have f0:=HR5.out.frozen 0; have f1:=HR5.out.frozen 1; have f2:=HR5.out.frozen 2; have f3:=HR5.out.frozen 3; simp only [List.getElem?_toArray,List.getElem?_cons_zero,List.getElem?_cons_succ] at r0 r1 r2 r3))
    refine bodyPost_ret (v:=.agg #[.int .i64 4,.int .i64 z,.int .i64 0,.slice none 0 0]) (by simp [results,Tryd.results85,go_sem,r0,r1,r2,r3]) rfl (EPost.leaf (tk:=4) (tn:=z) (tm:=0) (a':=a + 1 + 1 + 1) ?_ ⟨small (by omega) (by omega),small (by omega) (by omega),small (by omega) (by omega)⟩ HM5.out HG5.out hle.out HGR.out (by omega) (by omega) _ _ _ _)
    exact GE.num hz0 hz1
   ·obtain ⟨x,HX2',hx2⟩:=zletter (L:=m.L) (a + 1 + 1) 2 (by omega)
    go_wp2_with (first
     | (go_at_call 86; refine (draw_is m s D (a + 1 + 1) l 2 _ HM2.out HX2.out (by omega) (by omega)).mono ?_; rintro e w4 ⟨rfl,hm4,hg4⟩; rw [HX2'.out]; have HM4:=Lib.hid hm4; have HG4:=Lib.hid (gw_trans HG2.out hg4); have HR4:=Lib.hid (HR2.out.gw hg4 (by omega)); clear hm4 hg4)
     | (go_at_call 88; refine (mnode_is m (a + 1 + 1 + 1) l 5 (x:Int) _ none 0 0 HM4.out (by omega) (by omega)).mono ?_; rintro e w5 ⟨rfl,hm5,hg5⟩; have HM5:=Lib.hid hm5; have HG5:=Lib.hid (gw_trans HG4.out hg5); have HR5:Hid (Blk w5 r 25 #[.int .i64 0,.int .i64 0,.int .i64 0,.slice none 0 0]):=Lib.hid ((HR4.out).gw hg5 (by omega)); clear hm5 hg5; have r0:=HR5.out.cell 0; have r1:=HR5.out.cell 1; have r2:=HR5.out.cell 2; have r3:=HR5.out.cell 3; have f0:=HR5.out.frozen 0; have f1:=HR5.out.frozen 1; have f2:=HR5.out.frozen 2; have f3:=HR5.out.frozen 3; simp only [List.getElem?_toArray,List.getElem?_cons_zero,List.getElem?_cons_succ] at r0 r1 r2 r3))
    refine bodyPost_ret (v:=.agg #[.int .i64 5,.int .i64 (x:Int),.int .i64 0,.slice none 0 0]) (by simp [results,Tryd.results85,go_sem,r0,r1,r2,r3]) rfl (EPost.leaf (tk:=5) (tn:=(x:Int)) (tm:=0) (a':=a + 1 + 1 + 1) ?_ ⟨small (by omega) (by omega),small (by omega) (by omega),small (by omega) (by omega)⟩ HM5.out HG5.out hle.out HGR.out (by omega) (by omega) _ _ _ _)
    exact GE.truth (by omega) (by omega)
  ·have hjv:(0:Int)≤(j:Int):=by omega
   have hj6:(j:Int)≤6:=by have:=(List.getElem?_eq_some_iff.1 ht).1; have:=HX3.out.ok.vl; omega
   have HT:=Lib.hid ht
   have HTK:=Lib.hid htk
   clear ht htk
   go_wp2_with (go_at_call 88; refine (mnode_is m (a + 1 + 1) l 6 (j:Int) _ none 0 0 HM3.out (by omega) (by omega)).mono ?_; rintro e w5 ⟨rfl,hm5,hg5⟩; have HM5:=Lib.hid hm5; have HG5:=Lib.hid (gw_trans HG3.out hg5); have HR5:Hid (Blk w5 r 25 #[.int .i64 0,.int .i64 0,.int .i64 0,.slice none 0 0]):=Lib.hid ((HR3.out).gw hg5 (by omega)); clear hm5 hg5; have r0:=HR5.out.cell 0; have r1:=HR5.out.cell 1; have r2:=HR5.out.cell 2; have r3:=HR5.out.cell 3; have f0:=HR5.out.frozen 0; have f1:=HR5.out.frozen 1; have f2:=HR5.out.frozen 2; have f3:=HR5.out.frozen 3; simp only [List.getElem?_toArray,List.getElem?_cons_zero,List.getElem?_cons_succ] at r0 r1 r2 r3)
   refine bodyPost_ret (v:=.agg #[.int .i64 6,.int .i64 (j:Int),.int .i64 0,.slice none 0 0]) (by simp [results,Tryd.results85,go_sem,r0,r1,r2,r3]) rfl (EPost.leaf (tk:=6) (tn:=(j:Int)) (tm:=0) (a':=a + 1 + 1) ?_ ⟨small (by omega) (by omega),small (by omega) (by omega),small (by omega) (by omega)⟩ HM5.out HG5.out hle.out HGR.out (by omega) (by omega) _ _ _ _)
   exact GE.var HT.out HTK.out HK.out HX3.out.ok.vl
 ·have HM2:=Lib.hid HV.out.1
  have HG2:=Lib.hid (gw_trans HG1.out HV.out.2)
  have HX2:=Lib.hid (HX1.out.gw HV.out.2)
  have HR2:=Lib.hid (HR1.out.gw HV.out.2 (by omega))
  obtain ⟨V2,hV2⟩:∃ V2,V2 = V:=⟨_,rfl⟩
  subst hV2
  rcases HK.out with rfl | rfl
  ·obtain ⟨x,HX10,hx10⟩:=zletter (L:=m.L) (a + 1) 10 (by omega)
   obtain ⟨z,hz,hz0,hz1⟩:=lits x (by omega)
   have HZ:=Lib.hid hz
   clear hz
   have hxb:(0:Int)≤(x:Int)∧(x:Int) < 10:=⟨by omega,by omega⟩
   obtain ⟨V6,hV6⟩:∃ V6,V6 = V2.alloc (.cells #[.int .i64 0,.int .i64 1,.int .i64 2,.int .i64 3,.int .i64 (-1),.int .i64 7,.int .i64 (-8),.int .i64 5,.int .i64 4,.int .i64 (-3)] 3):=⟨_,rfl⟩
   have HM6:Hid (Mk m (a + 1) l V6):=Lib.hid (by rw [hV6]; exact HM2.out.alloc _)
   have HG6:Hid (w.grownBy V6 (some m.g)):=Lib.hid (by rw [hV6]; exact gw_alloc HG2.out _)
   have HX6:Hid (Cx m s D V6):=Lib.hid (by rw [hV6]; exact HX2.out.below (below_new _ _))
   have HR6:Hid (Blk V6 r 25 #[.int .i64 0,.int .i64 0,.int .i64 0,.slice none 0 0]):=Lib.hid (by rw [hV6]; exact HR2.out.alloc _)
   have HL6:Hid (Blk V6 V2.heap.size 3 #[.int .i64 0,.int .i64 1,.int .i64 2,.int .i64 3,.int .i64 (-1),.int .i64 7,.int .i64 (-8),.int .i64 5,.int .i64 4,.int .i64 (-3)]):=Lib.hid (by rw [hV6]; exact Blk.new _ _ _)
   have HGL:Hid (V2.heap.size≠m.g):=Lib.hid (by have:=HM2.out.lt; omega)
   go_wp2_with (first
    | (go_at_call 86; rw [← hV6]; refine (draw_is m s D (a + 1) l 10 _ HM6.out HX6.out (by omega) (by omega)).mono ?_; rintro e w4 ⟨rfl,hm4,hg4⟩; rw [HX10.out]; have HM4:=Lib.hid hm4; have HG4:=Lib.hid (gw_trans HG6.out hg4); have HR4:=Lib.hid (HR6.out.gw hg4 (by omega)); have hc4:=((HL6.out.gw hg4 HGL.out).cell x).trans HZ.out; clear hm4 hg4 hV6)
    | (go_at_call 88; refine (mnode_is m (a + 1 + 1) l 4 z _ none 0 0 HM4.out (by omega) (by omega)).mono ?_; rintro e w5 ⟨rfl,hm5,hg5⟩; have HM5:=Lib.hid hm5; have HG5:=Lib.hid (gw_trans HG4.out hg5); have HR5:Hid (Blk w5 r 25 #[.int .i64 0,.int .i64 0,.int .i64 0,.slice none 0 0]):=Lib.hid ((HR4.out).gw hg5 (by omega)); clear hm5 hg5; have r0:=HR5.out.cell 0; have r1:=HR5.out.cell 1; have r2:=HR5.out.cell 2; have r3:=HR5.out.cell 3; have f0:=HR5.out.frozen 0; have f1:=HR5.out.frozen 1; have f2:=HR5.out.frozen 2; have f3:=HR5.out.frozen 3; simp only [List.getElem?_toArray,List.getElem?_cons_zero,List.getElem?_cons_succ] at r0 r1 r2 r3))
   refine bodyPost_ret (v:=.agg #[.int .i64 4,.int .i64 z,.int .i64 0,.slice none 0 0]) (by simp [results,Tryd.results85,go_sem,r0,r1,r2,r3]) rfl (EPost.leaf (tk:=4) (tn:=z) (tm:=0) (a':=a + 1 + 1) ?_ ⟨small (by omega) (by omega),small (by omega) (by omega),small (by omega) (by omega)⟩ HM5.out HG5.out hle.out HGR.out (by omega) (by omega) _ _ _ _)
   exact GE.num hz0 hz1
  ·obtain ⟨x,HX2',hx2⟩:=zletter (L:=m.L) (a + 1) 2 (by omega)
   go_wp2_with (first
    | (go_at_call 86; refine (draw_is m s D (a + 1) l 2 _ HM2.out HX2.out (by omega) (by omega)).mono ?_; rintro e w4 ⟨rfl,hm4,hg4⟩; rw [HX2'.out]; have HM4:=Lib.hid hm4; have HG4:=Lib.hid (gw_trans HG2.out hg4); have HR4:=Lib.hid (HR2.out.gw hg4 (by omega)); clear hm4 hg4)
    | (go_at_call 88; refine (mnode_is m (a + 1 + 1) l 5 (x:Int) _ none 0 0 HM4.out (by omega) (by omega)).mono ?_; rintro e w5 ⟨rfl,hm5,hg5⟩; have HM5:=Lib.hid hm5; have HG5:=Lib.hid (gw_trans HG4.out hg5); have HR5:Hid (Blk w5 r 25 #[.int .i64 0,.int .i64 0,.int .i64 0,.slice none 0 0]):=Lib.hid ((HR4.out).gw hg5 (by omega)); clear hm5 hg5; have r0:=HR5.out.cell 0; have r1:=HR5.out.cell 1; have r2:=HR5.out.cell 2; have r3:=HR5.out.cell 3; have f0:=HR5.out.frozen 0; have f1:=HR5.out.frozen 1; have f2:=HR5.out.frozen 2; have f3:=HR5.out.frozen 3; simp only [List.getElem?_toArray,List.getElem?_cons_zero,List.getElem?_cons_succ] at r0 r1 r2 r3))
   refine bodyPost_ret (v:=.agg #[.int .i64 5,.int .i64 (x:Int),.int .i64 0,.slice none 0 0]) (by simp [results,Tryd.results85,go_sem,r0,r1,r2,r3]) rfl (EPost.leaf (tk:=5) (tn:=(x:Int)) (tm:=0) (a':=a + 1 + 1) ?_ ⟨small (by omega) (by omega),small (by omega) (by omega),small (by omega) (by omega)⟩ HM5.out HG5.out hle.out HGR.out (by omega) (by omega) _ _ _ _)
   exact GE.truth (by omega) (by omega)
end Go.Proofs.YtkkenbalpnmfmaaDoor

namespace Go.Proofs.YtkkenbalpnmfmaaDoor
open Go.RowKit WM TR TY

structure RowG (m:Par) (Q:Nat→T→Prop) (K d a:Nat) (l:Int) (w wr:World) (v:Value) (ts:List T) (xs:List Value) (a':Nat):Prop where
 mkr:Mk m a' (l - ((ts.map size).sum:Nat)) wr
 grown:w.grownBy wr (some m.g)
 own:wr.ownsRow w.heap.size 25 4 v ts.length xs
 reps:Reps wr (fun b=>w.heap.size≤b∧b < wr.heap.size∧v.ownBlock≠some b) d ts xs
 all:∀ (i:Nat) (t:T),ts[i]? = some t→Q i t
 lo:a≤a'
 hi:a'≤a + 6 * (ts.map size).sum
 cap:(ts.map size).sum≤ts.length * K
section
variable {m:Par} {Q:Nat→T→Prop} {K d a a' a2:Nat} {l:Int} {w wr w3 w4:World} {v v4:Value} {ts:List T} {xs:List Value} {t:T} {A':Option Addr} {c':Nat} {o:Obj}
theorem RowG.start (hm:Mk m a l w):RowG m Q K d a l w w (.slice none 0 0) [] [] a :=
 ⟨by simpa using hm,gw_refl w m.g,World.ownsRow_nil _ _ _ _,Reps.nil,fun i t h=>by simp at h,Nat.le_refl _,by omega,by simp⟩
theorem RowG.next (hgl : m.g < w.heap.size) (h : RowG m Q K d a l w wr v ts xs a') (hq : Q ts.length t) (hr : Rep w3 (fun b => wr.heap.size ≤ b ∧ b < w3.heap.size) d t (nd t A' c')) (hm : Mk m a2 (l - ((ts.map size).sum : Nat) - size t) w3) (hg3 : wr.grownBy w3 (some m.g))
  (h1:a'≤a2) (h2:a2≤a' + 6 * size t) (hK:size t≤K)
  (hown4:w4.ownsRow w.heap.size 25 4 v4 (ts.length + 1) (xs ++ nd t A' c')) (hg4:(w3.alloc o).grownBy w4 v.ownBlock) (hnew:v4.ownBlock = v.ownBlock∨v4.ownBlock = some (w3.alloc o).heap.size) :
  RowG m Q K d a l w w4 v4 (ts ++ [t]) (xs ++ nd t A' c') a2:=by
 have hv:=h.own.lt
 have hs0:=h.grown.size
 have hs3:=hg3.size
 have hs4:=hg4.size
 have hsa:(w3.alloc o).heap.size = w3.heap.size + 1:=size_alloc _ _
 have keep:∀ b,b < w3.heap.size→v.ownBlock≠some b→w4.heap[b]? = w3.heap[b]?:=fun b hb hne =>
  (hg4.block b (by omega) (fun e=>hne e.symm)).trans (Below.heap_alloc w3 o b hb)
 have sort:∀ b,b < w3.heap.size→v.ownBlock≠some b→v4.ownBlock≠some b:=fun b hb hne e=>by
  rcases hnew with hn | hn
  ·exact hne (hn ▸ e)
  ·rw [hn] at e; have:=Option.some.inj e; omega
 have hsum:((ts ++ [t]).map size).sum = (ts.map size).sum + size t:=by simp
 refine ⟨?_,?_,by rw [List.length_append]; exact hown4,?_,?_,by have:=h.lo; omega,by have:=h.hi; rw [hsum]; omega,?_⟩
 ·have e:l - (((ts ++ [t]).map size).sum:Nat) = l - ((ts.map size).sum:Nat) - size t:=by rw [hsum]; push_cast; omega
  rw [e]
  exact (keep m.g (by have:=hm.lt; omega) (fun e=>by have:=(hv m.g e).1; omega)).trans hm
 ·exact gw_row (gw_alloc (gw_trans h.grown hg3) o) hg4 (fun b hb=>(hv b hb).1)
 ·refine Reps.snoc ((h.reps.keep (w':=w4) (fun b hb=>?_)).mono fun b hb=>?_) ((hr.keep (w':=w4) (fun b hb=>?_)).mono fun b hb=>?_)
  ·exact (keep b (by omega) hb.2.2).trans (hg3.block b hb.2.1 (fun e=>by have:=Option.some.inj e; omega))
  ·exact ⟨hb.1,by omega,sort b (by omega) hb.2.2⟩
  ·exact keep b hb.2 (fun e=>by have:=(hv b e).2; omega)
  ·have hne:v.ownBlock≠some b:=fun e=>by have:=(hv b e).2; omega
   exact ⟨by omega,by omega,sort b hb.2 hne⟩
 ·intro i u hu
  by_cases hi:i < ts.length
  ·rw [List.getElem?_append_left hi] at hu; exact h.all i u hu
  ·rw [List.getElem?_append_right (by omega)] at hu
   have hi2:i - ts.length = 0:=by
    have:=(List.getElem?_eq_some_iff.1 hu).1
    simp at this; omega
   rw [hi2] at hu
   simp only [List.getElem?_cons_zero,Option.some.injEq] at hu
   subst hu
   have:i = ts.length:=by omega
   rw [this]; exact hq
 ·have:=h.cap
  rw [hsum,List.length_append,List.length_singleton,Nat.add_mul,Nat.one_mul]
  omega
theorem RowG.rep {k n : Int} (h : RowG m Q K d a l w wr (.slice A' ts.length c') ts xs a') (hc : ts.length ≤ c') (hk : inRange k) (hn : inRange n) :
  Rep wr (fun b=>w.heap.size≤b∧b < wr.heap.size) (d + 1) ⟨k,n,0,ts⟩ (nd ⟨k,n,0,ts⟩ A' c') :=
 Rep.mk hk hn (small (by omega) (by omega)) hc (Rd.of_own h.own) (h.reps.mono fun b hb=>⟨hb.1,hb.2.1⟩)
end
def GXC (m:Par) (s:Sc) (Dp d:Nat):Prop :=
 ∀ (a:Nat) (l k:Int) (w:World) (D:Int),D.toNat = d→-5≤D→Mk m a l w→Cx m s (Dp + 1) w→a + 1000 * (d + 1)≤900000→-800000 + 1000 * ((d:Int) + 1)≤l→l≤1000→(k = 0∨k = 1) →
  Calls Tryd.prog 66 #[.pointer (some ⟨m.g,0,none⟩),.int .i64 k,.int .i64 D] w (EPost 0 m s k d a l w)
def CPost (m:Par) (s:Sc) (kd:Int) (d a:Nat) (l:Int) (w:World) (e:Ending) (w':World):Prop :=
 ∃ (f:Nat) (u:T) (ts:List T) (A':Option Addr) (c' a':Nat),e = .returned (.agg #[.int .i64 kd,.int .i64 (f:Int),.int .i64 0,.slice A' ts.length c'])∧s.funs[f]? = some u∧(ts.length:Int) = u.n∧Args s u ts∧Rep w' (fun b=>w.heap.size≤b∧b < w'.heap.size) (d + 2) ⟨kd,f,0,ts⟩ (nd ⟨kd,f,0,ts⟩ A' c') ∧
  Mk m a' (l - (1 + (ts.map size).sum:Nat)) w'∧w.grownBy w' (some m.g)∧a≤a'∧a' + 3≤a + 6 * (1 + (ts.map size).sum)∧1 + (ts.map size).sum≤1 + 2 * capE d
def ArgQ (s:Sc) (u:T) (i:Nat) (t:T):Prop:=∀ y,u.kids[i]? = some y→GE s t y.k

end Go.Proofs.YtkkenbalpnmfmaaDoor

namespace Go.Proofs.YtkkenbalpnmfmaaDoor
open Go.RowKit WM TR TY

set_option maxRecDepth 100000 in
set_option maxHeartbeats 8000000 in
theorem call_is (m : Par) (s : Sc) (Dp d : Nat) (hE : GXC m s Dp d) (a : Nat) (l kd D : Int) (w : World) (hD : (D - 1).toNat = d) (hD0 : 0 ≤ D) (hD3 : D ≤ 10) (hm : Mk m a l w) (hx : Cx m s (Dp + 1) w) (ha : a + 1000 * (d + 1) + 900 ≤ 900000) (hl0 : -800000 + 1000 * ((d : Int) + 1) + 900 ≤ l) (hl1 : l ≤ 1000) (hkd : inRange kd) (hcap : capE d ≤ 15) :
    Calls Tryd.prog 90 #[.pointer (some ⟨m.g,0,none⟩),.int .i64 kd,.int .i64 D] w (CPost m s kd d a l w):=by
  obtain ⟨i0,hi,hz0,hz1,hz2⟩:=info_parts node_info
  obtain ⟨r,hr⟩:∃ r,r = w.heap.size:=⟨_,rfl⟩
  have hgr:m.g < r:=by rw [hr]; exact hm.lt
  have HGR:Hid (m.g < w.heap.size):=Lib.hid hm.lt
  have HR:=Lib.hid hr
  obtain ⟨W1,hW1⟩:∃ W1,W1 = w.alloc (.cells #[.int .i64 0,.int .i64 0,.int .i64 0,.slice none 0 0] 25):=⟨_,rfl⟩
  have HM1:Hid (Mk m a l W1):=Lib.hid (by rw [hW1]; exact hm.alloc _)
  have HG1:Hid (w.grownBy W1 (some m.g)):=Lib.hid (by rw [hW1]; exact gw_alloc (gw_refl w m.g) _)
  have HX1:Hid (Cx m s (Dp + 1) W1):=Lib.hid (hx.gw HG1.out)
  have HR1:Hid (Blk W1 r 25 #[.int .i64 0,.int .i64 0,.int .i64 0,.slice none 0 0]):=Lib.hid (by rw [hW1,hr]; exact Blk.new _ _ _)
  have HW1:=Lib.hid hW1
  have HE:=Lib.hid hE
  have HD:=Lib.hid hD
  have HSF:Hid (s.funs = m.p.kids):=Lib.hid hx.sf
  obtain ⟨nf,hnf⟩:∃ nf,nf = m.p.kids.length:=⟨_,rfl⟩
  have hnf1:1≤nf:=by rw [hnf,← hx.sf]; exact hx.ok.f1
  have hnf6:nf≤6:=by rw [hnf,← hx.sf]; exact hx.ok.f3
  have HNF:=Lib.hid hnf
  have HCAP:=Lib.hid hcap
  have HKD:=Lib.hid hkd
  obtain ⟨q,HQ,hqn⟩:=zletter (L:=m.L) a (nf:Int) (by omega)
  have c6:∀ {a l W},Mk m a l W→W.cell? ⟨m.g,6,none⟩ = some (.slice m.AP nf m.cP):=fun {a l W} h=>by rw [hnf]; exact h.cell 6
  have C6:Hid (∀ a l W,Mk m a l W→W.cell? ⟨m.g,6,none⟩ = some (.slice m.AP nf m.cP)):=Lib.hid fun a l W h=>c6 h
  have h6:=c6 HM1.out
  have hle:Hid (w.heap.size≤r):=Lib.hid (Nat.le_of_eq HR.out.symm)
  clear hr hm hW1 hx hE hD hnf c6 hcap hkd
  go_enter Tryd.func90,Tryd.ntmps90
  go_upto_region 1 with fail
  rw [← HW1.out,← HR.out]
  go_cut [7] from 10 to 17 (fun s7 wv=>∃ V:World,V = wv∧s7 = .int .i64 (q:Int)∧Hid (Mk m (a + 1) l V∧W1.grownBy V (some m.g)))
  case first =>
    go_wp2_with (first
      | (go_at_call 86; refine (draw_is m s (Dp + 1) a l nf _ HM1.out HX1.out (by omega) (by omega)).mono ?_; rintro e w2 ⟨rfl,hm2,hg2⟩; rw [HQ.out]))
    go_meet
    exact ⟨_,rfl,rfl,hm2,hg2⟩
  case rest =>
  obtain ⟨V,hwc,rfl,HV⟩:=hcut
  subst hwc
  clear h6
  have HM2:=Lib.hid HV.out.1
  have HG2:=Lib.hid (gw_trans HG1.out HV.out.2)
  have HX2:=Lib.hid (HX1.out.gw HV.out.2)
  have HR2:=Lib.hid (HR1.out.gw HV.out.2 (by omega))
  have h6:=C6.out _ _ _ HM2.out
  rename_i hK
  refine hK _ _ ?_
  go_step
  go_cut [7] from 18 to 39 (fun s7 wv=>∃ (V3:World) (f a3:Nat),V3 = wv∧s7 = .int .i64 (f:Int)∧Hid (f < nf∧a≤a3∧a3≤a + 3∧Mk m a3 l V3∧V.grownBy V3 (some m.g)))
  case first =>
    by_cases hn1:1 < nf
    · obtain ⟨q8,HQ8,hq8⟩:=zletter (L:=m.L) (a + 1) 8 (by omega)
      obtain ⟨q9,HQ9,hq9⟩:=zletter (L:=m.L) (a + 1 + 1) ((nf:Int) - 1) (by omega)
      have hw1:IntKind.i64.wrap ((nf:Int) - 1) = (nf:Int) - 1:=by rw [IntKind.wrap_i64]; omega
      have hw2:IntKind.i64.wrap (1 + (q9:Int)) = 1 + (q9:Int):=by rw [IntKind.wrap_i64]; omega
      have hd1:decide (1 < nf) = true:=by simp; omega
      have hd2:decide ((1:Int) < (nf:Int)) = true:=by simp; omega
      by_cases hq80:0 < q8
      · go_wp2_with (first
          | (have hm:=HM3; go_at_call 86; refine (draw_is m s (Dp + 1) (a + 1 + 1) l ((nf:Int) - 1) _ HM3.out HX3.out (by omega) (by omega)).mono ?_; rintro e w4 ⟨rfl,hm4,hg4⟩; rw [HQ9.out]; have HM4:=Lib.hid hm4; have HG4:=Lib.hid (gw_trans HG3.out hg4); clear hm4 hg4)
          | (go_at_call 86; refine (draw_is m s (Dp + 1) (a + 1) l 8 _ HM2.out HX2.out (by omega) (by omega)).mono ?_; rintro e w3 ⟨rfl,hm3,hg3⟩; rw [HQ8.out]; have HM3:=Lib.hid hm3; have HX3:=Lib.hid (HX2.out.gw hg3); have HG3:=Lib.hid hg3; have h6':=C6.out _ _ _ hm3; clear hm3 hg3))
        go_meet
        exact ⟨_,1 + q9,a + 1 + 1 + 1,rfl,by push_cast; rfl,by omega,by omega,by omega,HM4.out,HG4.out⟩
      · go_wp2_with (first
          | (go_at_call 86; refine (draw_is m s (Dp + 1) (a + 1) l 8 _ HM2.out HX2.out (by omega) (by omega)).mono ?_; rintro e w3 ⟨rfl,hm3,hg3⟩; rw [HQ8.out]; have HM3:=Lib.hid hm3; have HG3:=Lib.hid hg3; clear hm3 hg3))
        go_meet
        exact ⟨_,q,a + 1 + 1,rfl,rfl,by omega,by omega,by omega,HM3.out,HG3.out⟩
    · have hd1:decide (1 < nf) = false:=by simp; omega
      have hd2:decide ((1:Int) < (nf:Int)) = false:=by simp; omega
      clear hK
      go_wp2_with fail
      go_meet
      exact ⟨_,q,a + 1,rfl,rfl,by omega,by omega,by omega,HM2.out,gw_refl _ _⟩
  case rest =>
  obtain ⟨V3,f,a3,hwc,rfl,HF⟩:=hcut
  subst hwc
  clear h6
  clear hK
  have HM3:=Lib.hid HF.out.2.2.2.1
  have HG3:=Lib.hid (gw_trans HG2.out HF.out.2.2.2.2)
  have HX3:=Lib.hid (HX2.out.gw HF.out.2.2.2.2)
  have HR3:=Lib.hid (HR2.out.gw HF.out.2.2.2.2 (by omega))
  have hfn:f < nf:=HF.out.1
  have ha3:a≤a3∧a3≤a + 3:=⟨HF.out.2.1,HF.out.2.2.1⟩
  have HSZ:Hid (r < V3.heap.size):=Lib.hid HR3.out.lt
  obtain ⟨u,hu⟩:∃ u,m.p.kids[f]? = some u:=⟨_,List.getElem?_eq_getElem (by rw [← HNF.out]; exact hfn)⟩
  have hfh:FHd u:=HX3.out.ok.ff u (by rw [HSF.out]; exact List.mem_of_getElem? hu)
  obtain ⟨b,off,A',c',hA,hbl,hc,hru⟩:=HX3.out.hP.at_ hu
  obtain ⟨N,hN⟩:∃ N:Nat,u.n = (N:Int):=⟨u.n.toNat,by have:=hfh.n0; omega⟩
  have hN2:N≤2:=by have:=hfh.n2; omega
  obtain ⟨nu,hnu⟩:∃ nu,nu = u.kids.length:=⟨_,rfl⟩
  have hNn:N + 1≤nu:=by have:=hfh.kl; omega
  have hnu10:nu≤10:=by have:=hfh.k10; omega
  have HC:Hid (∀ W,V3.grownBy W (some m.g)→W.cell? ⟨b,off + f * 4 + 1,none⟩ = some (.int .i64 (N:Int))∧W.cell? ⟨b,off + f * 4 + 3,none⟩ = some (.slice A' nu c')):=Lib.hid fun W hg=>by
    have hk:=Keeps.gw hg HX3.out.hin HX3.out.hS
    exact ⟨(hk.cell (p:=⟨b,_,none⟩) hbl).trans (by rw [← hN]; exact hc 1 _ rfl),(hk.cell (p:=⟨b,_,none⟩) hbl).trans (by rw [hnu]; exact hc 3 _ rfl)⟩
  have HCK:Hid (∀ (j:Nat),j < N→∃ y b2 o2,u.kids[j]? = some y∧(y.k = 0∨y.k = 1)∧A' = some ⟨b2,o2,none⟩∧∀ W,V3.grownBy W (some m.g)→W.cell? ⟨b2,o2 + j * 4,none⟩ = some (.int .i64 y.k)):=Lib.hid fun j hj=>by
    obtain ⟨y,hy⟩:∃ y,u.kids[j]? = some y:=⟨_,List.getElem?_eq_getElem (by omega)⟩
    obtain ⟨b2,o2,A2,c2,hA2,hbl2,hc2,_⟩:=hru.kid hy
    exact ⟨y,b2,o2,hy,hfh.pl j y (by omega) hy,hA2,fun W hg=>((Keeps.gw hg HX3.out.hin HX3.out.hS).cell (p:=⟨b2,_,none⟩) hbl2).trans (hc2 0 _ rfl)⟩
  have C6':Hid (∀ a l W,Mk m a l W→W.cell? ⟨m.g,6,none⟩ = some (.slice (some ⟨b,off,none⟩) nf m.cP)):=Lib.hid fun a l W h=>by rw [← hA]; exact C6.out a l W h
  have HU:=Lib.hid hu
  have HUN:=Lib.hid hN
  have HFU:=Lib.hid hfh
  have hfb:(0:Int)≤(f:Int)∧(f:Int) < (nf:Int):=⟨by omega,by omega⟩
  have hDw:IntKind.i64.wrap (D - 1) = D - 1:=by rw [IntKind.wrap_i64]; omega
  clear hu hfh hA hbl hc hru hN hnu C6
  go_wp2_with fail
  go_loopw [8,9] (fun s8 s9 wr=>∃ (j:Nat) (v:Value) (ts:List T) (xs:List Value) (a':Nat),j≤N∧v = s8∧s9 = .int .i64 j∧ts.length = j∧Hid (RowG m (ArgQ s u) (capE d) (d + 1) a3 l V3 wr v ts xs a')) (fun _ i _=>N - (intOf i).toNat)
  case atStart=>exact ⟨0,_,[],[],a3,Nat.zero_le _,rfl,rfl,rfl,RowG.start HM3.out⟩
  case round =>
    obtain ⟨j,v,ts,xs,a',hj,rfl,rfl,hts,HRW⟩:=hrel
    have h6:=C6'.out _ _ _ HRW.out.mkr
    obtain ⟨k1,k3⟩:=HC.out _ HRW.out.grown
    obtain ⟨sm,hsm⟩:∃ sm,sm = (ts.map size).sum:=⟨_,rfl⟩
    have hsm2:sm≤30:=by
      have h1:=HRW.out.cap
      have h2:=HCAP.out
      rw [hts,← hsm] at h1
      have h3:j * capE d≤2 * 15:=Nat.mul_le_mul (by omega) h2
      omega
    have haa:a3≤a'∧a'≤a3 + 6 * sm:=⟨HRW.out.lo,by rw [hsm]; exact HRW.out.hi⟩
    by_cases hlt:j < N
    · have hlt2:(j:Int) < N:=by omega
      obtain ⟨y,b2,o2,hy,hyk,hA2,hcy⟩:=HCK.out j hlt
      have k4:=hcy _ HRW.out.grown
      subst hA2
      have hjb:(0:Int)≤(j:Int)∧(j:Int) < (nu:Int):=⟨by omega,by omega⟩
      obtain ⟨yk,hyk2⟩:∃ z,z = y.k:=⟨_,rfl⟩
      rw [← hyk2] at k4 hyk
      have HY:=Lib.hid hy
      have HYK:=Lib.hid hyk2
      have HCE:Hid (Calls Tryd.prog 66 #[.pointer (some ⟨m.g,0,none⟩),.int .i64 yk,.int .i64 (D - 1)] wr (EPost 0 m s yk d a' (l - ((ts.map size).sum:Nat)) wr)):=Lib.hid (HE.out a' _ yk wr (D - 1) HD.out (by omega) HRW.out.mkr (HX3.out.gw HRW.out.grown) (by omega) (by rw [← hsm]; omega) (by rw [← hsm]; omega) hyk)
      have HTS:=Lib.hid hts
      have HSM:=Lib.hid hsm
      clear hy hyk hyk2 hcy hts hsm
      go_wp2_with (first
        | (go_at_call 66; refine HCE.out.mono ?_; rintro e w3 ⟨t, A3, c3, a2, rfl, he, hr3, hm3, hg3, h1, h2, hcp⟩
           have HGE:=Lib.hid he; have HR3:=Lib.hid hr3; have HM3:=Lib.hid hm3; have HG3:=Lib.hid hg3; have HA3:=Lib.hid (And.intro h1 (And.intro h2 hcp))
           have HOW:Hid ((w3.alloc (.cells #[.int .i64 t.k,.int .i64 t.n,.int .i64 t.m,.slice A3 t.kids.length c3] 25)).ownsRow V3.heap.size 25 4 v ts.length xs):=Lib.hid ((HRW.out.own.kept hg3 (.inr fun e=>by have:=(HRW.out.own.lt _ e).1; have:=HGR.out; have:=HG2.out.size; have:=HF.out.2.2.2.2.size; omega)).alloc _)
           clear he hr3 hm3 hg3 h1 h2 hcp)
        | (at_builtin
           refine wpList_append_any _ rfl (.tmp 53) (.tmp 71) 23 rfl V3.heap.size 25 i0 _ 4 48 Tryd.underlying23 hi hz0 hz1 hz2 rfl (by omega) _ ts.length xs rfl HOW.out _ (some ⟨w3.heap.size,0,none⟩) 1 1 (nd t A3 c3) rfl (reads_nd w3 t A3 c3) (nd_one t A3 c3) (len_le (by have:=HTS.out; omega)) (by have:=HTS.out; omega) (by have:=HRW.out.grown.size; have:=HG3.out.size; rw [size_alloc]; omega) ?_
           intro v4 w4 hown4 hgrow4 hnew4
           have HO4:=Lib.hid hown4; have HG4:=Lib.hid hgrow4; have HN4:=Lib.hid hnew4
           clear hown4 hgrow4 hnew4))
      go_roundw
      case rel=>exact ⟨j + 1,_,ts ++ [t],xs ++ nd t A3 c3,a2,by omega,rfl,by go_num,by rw [List.length_append,HTS.out]; rfl,RowG.next (by have:=HGR.out; have:=HG2.out.size; have:=HF.out.2.2.2.2.size; omega) HRW.out (fun z hz=>by rw [HTS.out,HY.out] at hz; rw [← Option.some.inj hz,← HYK.out]; exact HGE.out) HR3.out HM3.out HG3.out HA3.out.1 HA3.out.2.1 HA3.out.2.2 HO4.out HG4.out HN4.out⟩
      case measure=>simp [intOf]; omega
    · have hjn:j = N:=by omega
      subst hjn
      obtain ⟨A9,c9,hv,hcap⟩:=own_len HRW.out.own
      obtain ⟨kk,hkk⟩:∃ kk,kk = ts.length:=⟨_,rfl⟩
      rw [← hkk] at hv hcap
      have HK2:Hid (kk = j):=Lib.hid (by omega)
      subst hv
      have HSM:=Lib.hid hsm
      have HTS:=Lib.hid hts
      have HCP9:=Lib.hid hcap
      have HKK:=Lib.hid hkk
      have HMW:Hid (Mk m a' (l - (sm:Int)) wr):=Lib.hid (by rw [hsm]; exact HRW.out.mkr)
      have HRR:Hid (Blk wr r 25 #[.int .i64 0,.int .i64 0,.int .i64 0,.slice none 0 0]):=Lib.hid (HR3.out.gw HRW.out.grown (by omega))
      clear hsm hts hcap hkk hlt
      go_wp2_with (go_at_call 88; refine (mnode_is m a' (l - (sm:Int)) kd (f:Int) _ A9 kk c9 HMW.out (by omega) (by omega)).mono ?_; rintro e w5 ⟨rfl,hm5,hg5⟩; have HM5:=Lib.hid hm5; have HG5:=Lib.hid hg5; have HR5:Hid (Blk w5 r 25 #[.int .i64 0,.int .i64 0,.int .i64 0,.slice none 0 0]):=Lib.hid (HRR.out.gw hg5 (by omega)); clear hm5 hg5; have r0:=HR5.out.cell 0; have r1:=HR5.out.cell 1; have r2:=HR5.out.cell 2; have r3:=HR5.out.cell 3; have f0:=HR5.out.frozen 0; have f1:=HR5.out.frozen 1; have f2:=HR5.out.frozen 2; have f3:=HR5.out.frozen 3; simp only [List.getElem?_toArray,List.getElem?_cons_zero,List.getElem?_cons_succ] at r0 r1 r2 r3)
      have hp:=put4_mk HM5.out (gw_trans (gw_trans HG3.out HRW.out.grown) HG5.out) hle.out HGR.out (.int .i64 kd) (.int .i64 (f:Int)) (.int .i64 0) (.slice A9 kk c9)
      have hg4:=(gw4 w5 r (.int .i64 kd) (.int .i64 (f:Int)) (.int .i64 0) (.slice A9 kk c9))
      refine bodyPost_ret (v:=.agg #[.int .i64 kd,.int .i64 (f:Int),.int .i64 0,.slice A9 kk c9]) (by simp [results,Tryd.results90,go_sem,r0,r1,r2,r3]) rfl ?_
      have hrep:Rep wr (fun b=>V3.heap.size≤b∧b < wr.heap.size) (d + 1 + 1) ⟨kd,f,0,ts⟩ (nd ⟨kd,f,0,ts⟩ A9 c9):=RowG.rep (by rw [← HKK.out]; exact HRW.out) (by rw [← HKK.out]; exact HCP9.out) HKD.out (small (by omega) (by omega))
      have hs3:=HG3.out.size
      have hs5:=HG5.out.size
      have hsr:=HSZ.out
      have hgr2:=HGR.out
      refine ⟨f,u,ts,A9,c9,a',by rw [HKK.out],by rw [HSF.out]; exact HU.out,by rw [HUN.out,HTS.out],fun i x y hx hy=>HRW.out.all i x hx y hy,?_,?_,hp.2,by omega,by rw [← HSM.out]; omega,?_⟩
      · refine Rep.mono (fun b hb=>?_) (put4_rep (hrep.keep (w':=w5) fun b hb=>HG5.out.block b hb.2 (fun e=>by have:=Option.some.inj e; omega)) (r:=r) (fun hb=>by have:=hb.1; omega) _ _ _ _)
        rw [hg4.2]
        exact ⟨by omega,by omega⟩
      · have e:l - ((1 + (ts.map size).sum:Nat):Int) = l - (sm:Int) - 1:=by rw [← HSM.out]; push_cast; omega
        rw [e]; exact hp.1
      · have h1:=HRW.out.cap
        have h2:ts.length * capE d≤2 * capE d:=Nat.mul_le_mul_right _ (by rw [HTS.out]; omega)
        omega
end Go.Proofs.YtkkenbalpnmfmaaDoor

namespace Go.Proofs.YtkkenbalpnmfmaaDoor
open Go.RowKit WM TR

def bsN (n:Nat) (parts:Array (Nat × Value)):Sem Value:=Instr.buildSlice 23 n parts
theorem shutB2 (parts:Array (Nat × Value)):Instr.buildSlice 23 2 parts = bsN 2 parts:=rfl
theorem shutB3 (parts:Array (Nat × Value)):Instr.buildSlice 23 3 parts = bsN 3 parts:=rfl
set_option maxRecDepth 100000 in
theorem run_bs2 (W:World) (a1 a2 a3 a4 b1 b2 b3 b4:Value):(bsN 2 #[(0,.agg #[a1,a2,a3,a4]),(1,.agg #[b1,b2,b3,b4])]).run Tryd.prog W = .ok (.slice (some ⟨W.heap.size,0,none⟩) 2 2) (W.alloc (.cells #[a1,a2,a3,a4,b1,b2,b3,b4] 25)):=by kernel_rfl
set_option maxRecDepth 100000 in
theorem run_bs3 (W:World) (a1 a2 a3 a4 b1 b2 b3 b4 c1 c2 c3 c4:Value):(bsN 3 #[(0,.agg #[a1,a2,a3,a4]),(1,.agg #[b1,b2,b3,b4]),(2,.agg #[c1,c2,c3,c4])]).run Tryd.prog W = .ok (.slice (some ⟨W.heap.size,0,none⟩) 3 3) (W.alloc (.cells #[a1,a2,a3,a4,b1,b2,b3,b4,c1,c2,c3,c4] 25)):=by kernel_rfl
def Kid (r:Nat) (V:World) (D:Nat) (t:T) (A:Option Addr) (c:Nat):Prop:=Rep V (fun b=>r < b∧b < V.heap.size) D t (nd t A c)
theorem Kid.gw {r g D c:Nat} {V W:World} {t:T} {A:Option Addr} (h:Kid r V D t A c) (hg:V.grownBy W (some g)) (hgr:g < r):Kid r W D t A c :=
 (Rep.keep (Keeps.gw hg (fun b hb=>hb.2) (fun b hb=>by have:=hb.1; omega)) h).mono fun b hb=>⟨hb.1,Nat.lt_of_lt_of_le hb.2 hg.size⟩
theorem kids_row {r D : Nat} {V : World} {ts : List T} {xs : List Value} (hr : r < V.heap.size) (h : Reps V (fun b => r < b ∧ b < V.heap.size) D ts xs) :
  Rd (V.alloc (.cells xs.toArray 25)) (fun b=>r < b∧b < (V.alloc (.cells xs.toArray 25)).heap.size) 4 (some ⟨V.heap.size,0,none⟩) ts.length xs∧Reps (V.alloc (.cells xs.toArray 25)) (fun b=>r < b∧b < (V.alloc (.cells xs.toArray 25)).heap.size) D ts xs:=by
 have hB:=Blk.new V 25 xs.toArray
 have hb:=below_new V (.cells xs.toArray 25)
 refine ⟨⟨h.1,fun _=>⟨_,rfl,⟨hr,hB.lt⟩,fun j u hu=>by rw [Addr.add_lit,Nat.zero_add,hB.cell]; simpa using hu⟩⟩,(h.keep (Keeps.below (fun b hb=>hb.2) hb)).mono fun b hb'=>⟨hb'.1,Nat.lt_of_lt_of_le hb'.2 hb.size⟩⟩

theorem Kid.row {r D : Nat} {V : World} {ts : List T} {xs : List Value} {k n : Int} (hr : r < V.heap.size) (h : Reps V (fun b => r < b ∧ b < V.heap.size) D ts xs) (hk : inRange k) (hn : inRange n) :
  Kid r (V.alloc (.cells xs.toArray 25)) (D + 1) ⟨k,n,0,ts⟩ (some ⟨V.heap.size,0,none⟩) ts.length:=by
 obtain ⟨h1,h2⟩:=kids_row hr h
 exact Rep.mk hk hn (by unfold inRange; omega) (Nat.le_refl _) h1 h2
theorem Kid.one {r D c : Nat} {V : World} {t : T} {A : Option Addr} {k n : Int} (hr : r < V.heap.size) (h : Kid r V D t A c) (hk : inRange k) (hn : inRange n) :
  Kid r (V.alloc (.cells #[.int .i64 t.k,.int .i64 t.n,.int .i64 t.m,.slice A t.kids.length c] 25)) (D + 1) ⟨k,n,0,[t]⟩ (some ⟨V.heap.size,0,none⟩) 1 :=
 Kid.row (ts:=[t]) (xs:=nd t A c) hr (Reps.one h) hk hn
theorem Kid.two {r D c c2 : Nat} {V : World} {t u : T} {A A2 : Option Addr} {k n : Int} (hr : r < V.heap.size) (h : Kid r V D t A c) (h2 : Kid r V D u A2 c2) (hk : inRange k) (hn : inRange n) :
  Kid r (V.alloc (.cells #[.int .i64 t.k,.int .i64 t.n,.int .i64 t.m,.slice A t.kids.length c,.int .i64 u.k,.int .i64 u.n,.int .i64 u.m,.slice A2 u.kids.length c2] 25)) (D + 1) ⟨k,n,0,[t,u]⟩ (some ⟨V.heap.size,0,none⟩) 2 :=
 Kid.row (ts:=[t,u]) (xs:=nd t A c ++ nd u A2 c2) hr ((Reps.one h).snoc h2) hk hn
theorem Kid.three {r D c c2 c3 : Nat} {V : World} {t u x : T} {A A2 A3 : Option Addr} {k n : Int} (hr : r < V.heap.size) (h : Kid r V D t A c) (h2 : Kid r V D u A2 c2) (h3 : Kid r V D x A3 c3) (hk : inRange k) (hn : inRange n) :
  Kid r (V.alloc (.cells #[.int .i64 t.k,.int .i64 t.n,.int .i64 t.m,.slice A t.kids.length c,.int .i64 u.k,.int .i64 u.n,.int .i64 u.m,.slice A2 u.kids.length c2,.int .i64 x.k,.int .i64 x.n,.int .i64 x.m,.slice A3 x.kids.length c3] 25)) (D + 1) ⟨k,n,0,[t,u,x]⟩ (some ⟨V.heap.size,0,none⟩) 3 :=
 Kid.row (ts:=[t,u,x]) (xs:=(nd t A c ++ nd u A2 c2) ++ nd x A3 c3) hr (((Reps.one h).snoc h2).snoc h3) hk hn
def apN (ts:Array TypeId) (t:TypeId) (vs:Array Value):Sem Value:=Builtin.append_ ts t vs
theorem shutApN (ts:Array TypeId) (t:TypeId) (vs:Array Value):Builtin.append_ ts t vs = apN ts t vs:=rfl
theorem apT_run {W : World} {base n c : Nat} {A : Option Addr} {xs : List Value} (t : T) (At : Option Addr) (ct : Nat) (ho : W.ownsRow base 25 4 (.slice A n c) n xs) (hb : base ≤ W.heap.size) (hn : n ≤ 1000) :
  ∃ (A':Option Addr) (c':Nat) (w':World),(apN #[23,23] 23 #[.slice A n c,.slice (some ⟨W.heap.size,0,none⟩) 1 1]).run Tryd.prog (W.alloc (.cells #[.int .i64 t.k,.int .i64 t.n,.int .i64 t.m,.slice At t.kids.length ct] 25)) = .ok (.slice A' (n + 1) c') w'∧w'.ownsRow base 25 4 (.slice A' (n + 1) c') (n + 1) (xs ++ nd t At ct)∧(W.alloc (.cells #[.int .i64 t.k,.int .i64 t.n,.int .i64 t.m,.slice At t.kids.length ct] 25)).grownBy w' (Value.slice A n c).ownBlock∧n + 1≤c':=by
 obtain ⟨i0,hi,hz0,hz1,hz2⟩:=info_parts node_info
 obtain ⟨v1,w1,happ,hown,hgrow,_⟩:=run_append_any (P:=Tryd.prog) (W.alloc (.cells #[.int .i64 t.k,.int .i64 t.n,.int .i64 t.m,.slice At t.kids.length ct] 25)) base 23 23 25 i0 _ 4 48 Tryd.underlying23 hi hz0 hz1 hz2 rfl (by omega) (.slice A n c) n xs (ho.alloc _) _ (some ⟨W.heap.size,0,none⟩) 1 1 (nd t At ct) (reads_nd W t At ct) (nd_one t At ct) (len_le (by omega)) (by omega) (by rw [size_alloc]; omega)
 obtain ⟨A',c',rfl,hc⟩:=own_len hown
 exact ⟨A',c',w1,happ,hown,hgrow,hc⟩
theorem row_snoc {r B d c : Nat} {W w4 : World} {v : Value} {ts : List T} {xs : List Value} {t : T} {A : Option Addr} {o : Obj} (hrB : r < B) (hBW : B ≤ W.heap.size) (hreps : Reps W (fun b => B ≤ b ∧ b < W.heap.size ∧ v.ownBlock ≠ some b) d ts xs) (hk : Rep W (fun b => r < b ∧ b < B) d t (nd t A c)) (hv : ∀ b, v.ownBlock = some b → B ≤ b) (hg : (W.alloc o).grownBy w4 v.ownBlock) :
  Reps w4 (fun b=>r < b∧b < w4.heap.size) d (ts ++ [t]) (xs ++ nd t A c):=by
 have hs4:=hg.size
 have hsa:(W.alloc o).heap.size = W.heap.size + 1:=size_alloc _ _
 have keep:∀ b,b < W.heap.size→v.ownBlock≠some b→w4.heap[b]? = W.heap[b]?:=fun b hb hne =>
  (hg.block b (by omega) (fun e=>hne e.symm)).trans (Below.heap_alloc W o b hb)
 refine Reps.snoc ((hreps.keep (w':=w4) fun b hb=>keep b hb.2.1 hb.2.2).mono fun b hb=>⟨by omega,by omega⟩) ((hk.keep (w':=w4) fun b hb=>keep b (by omega) fun e=>by have:=hv b e; omega).mono fun b hb=>⟨hb.1,by omega⟩)
theorem kid_keep4 {r B D c:Nat} {W w4:World} {v:Value} {t:T} {A:Option Addr} {o:Obj} (hBW:B≤W.heap.size) (hk:Rep W (fun b=>r < b∧b < B) D t (nd t A c)) (hv:∀ b,v.ownBlock = some b→B≤b) (hg:(W.alloc o).grownBy w4 v.ownBlock):Kid r w4 D t A c:=by
 have hs4:=hg.size
 have hsa:(W.alloc o).heap.size = W.heap.size + 1:=size_alloc _ _
 exact (hk.keep (w':=w4) fun b hb=>(hg.block b (by omega) (fun e=>by have:=hv b e.symm; omega)).trans (Below.heap_alloc W o b (by omega))).mono fun b hb=>⟨hb.1,by omega⟩
end Go.Proofs.YtkkenbalpnmfmaaDoor

namespace Go.Proofs.YtkkenbalpnmfmaaDoor
open Go.RowKit WM TR TY

theorem Mk.alloc {m:Par} {a:Nat} {l:Int} {w:World} (h:Mk m a l w) (o:Obj):Mk m a l (w.alloc o):=Blk.alloc h o
theorem kid_of {r d B:Nat} {V:World} {t:T} {A:Option Addr} {c:Nat} (h:Rep V (fun b=>B≤b∧b < V.heap.size) d t (nd t A c)) (hB:r < B):Kid r V d t A c:=h.mono fun b hb=>⟨by omega,hb.2⟩
theorem Kid.deep {r D D' c:Nat} {V:World} {t:T} {A:Option Addr} (h:Kid r V D t A c) (hD:D≤D'):Kid r V D' t A c:=Rep.deeper hD h
theorem EPost.fin {x : Nat} {m : Par} {s : Sc} {k : Int} {d a a' R c' : Nat} {l : Int} {w V : World} {r : Nat} {t : T} {A' : Option Addr} (hr : w.heap.size ≤ r) (hgr : m.g < w.heap.size) (hge : GE s t k) (hk : Kid r V R t A' c') (hR : R ≤ d + 1) (hm : Mk m a' (l - size t) V) (hg : w.grownBy V (some m.g)) (h1 : a ≤ a') (h2 : a' + x ≤ a + 6 * size t) (hc : size t ≤ capE d) (v0 v1 v2 v3 : Value) :
  EPost x m s k d a l w (.returned (.agg #[.int .i64 t.k,.int .i64 t.n,.int .i64 t.m,.slice A' t.kids.length c'])) ((((V.setCell ⟨r,0,none⟩ v0).setCell ⟨r,1,none⟩ v1).setCell ⟨r,2,none⟩ v2).setCell ⟨r,3,none⟩ v3):=by
 have hp:=put4_mk hm hg hr hgr v0 v1 v2 v3
 have h4:=gw4 V r v0 v1 v2 v3
 refine ⟨t,A',c',a',rfl,hge,((put4_rep hk (fun h=>by have:=h.1; omega) v0 v1 v2 v3).mono fun b hb=>?_).deeper hR,hp.1,hp.2,h1,h2,hc⟩
 rw [h4.2]; exact ⟨by omega,hb.2⟩
theorem EPost.alloc {x:Nat} {m:Par} {s:Sc} {k:Int} {d a:Nat} {l:Int} {w W:World} {e:Ending} (h:EPost x m s k d a l w e W) (o:Obj):EPost x m s k d a l w e (W.alloc o):=by
 obtain ⟨t,A',c',a',h1,h2,h3,h4,h5,h6⟩:=h
 have hs:(W.alloc o).heap.size = W.heap.size + 1:=size_alloc _ _
 exact ⟨t,A',c',a',h1,h2,(h3.keep (Keeps.below (fun b hb=>hb.2) (below_new _ _))).mono fun b hb=>⟨hb.1,by have:=hb.2; omega⟩,Blk.alloc h4 o,gw_alloc h5 o,h6⟩
theorem capE_succ {d e:Nat} (h:e + 1≤d):2 * capE e + 1≤capE d:=by
 have h1:capE (e + 1) = 2 * capE e + 1:=rfl
 have h2:=capE_mono h
 omega
theorem size_one (k n m:Int) (t:T):size ⟨k,n,m,[t]⟩ = 1 + size t:=by rw [size_eq]; simp
theorem size_two (k n m:Int) (t u:T):size ⟨k,n,m,[t,u]⟩ = 1 + (size t + size u):=by rw [size_eq]; simp
theorem size_three (k n m:Int) (t u x:T):size ⟨k,n,m,[t,u,x]⟩ = 1 + (size t + (size u + size x)):=by rw [size_eq]; simp
end Go.Proofs.YtkkenbalpnmfmaaDoor
