/- Texts joined. -/
import Derived.Test.YtkkenbalpnmfmaaDoorG39
import Derived.RegionTactic
import Derived.Test.YtkkenbalpnmfmaaDoorG23
import Derived.Test.YtkkenbalpnmfmaaDoorG35
set_option linter.unusedVariables false
namespace Go.Proofs.YtkkenbalpnmfmaaDoor
open Go.RowKit WM TR TY

def ndR (s:Sc) (x:T):Int × List Int:=if missing s x = true then (5,[]) else if misused s x = true then (12,[]) else (0,wants s x)
def NdPost (s:Sc) (x:T) (w:World) (e:Ending) (w':World):Prop :=
 ∃ (A':Option Addr) (c':Nat),e = .returned (.tuple #[.int .i64 (ndR s x).1,.slice A' (ndR s x).2.length c'])∧Reads w' w'.heap.size 1 A' (ndR s x).2.length (vi (ndR s x).2)∧Below w.heap.size w w'
theorem nd_end0 {s:Sc} {x:T} {w w':World} {er:Int} (h:ndR s x = (er,[])) (hb:Below w.heap.size w w'):NdPost s x w (.returned (.tuple #[.int .i64 er,.slice none 0 0])) w' :=
 ⟨none,0,by rw [h]; rfl,by rw [h]; exact ⟨rfl,fun h=>absurd h (by simp)⟩,hb⟩
theorem nd_end1 {s:Sc} {x:T} {w w':World} {a:Int} (h:ndR s x = (0,[a])) (hb:Below w.heap.size w w'):NdPost s x w (.returned (.tuple #[.int .i64 0,.slice (some ⟨w'.heap.size,0,none⟩) 1 1])) (w'.alloc (.cells #[.int .i64 a] 3)) :=
 ⟨some ⟨w'.heap.size,0,none⟩,1,by rw [h]; rfl,by rw [h,size_alloc]; exact int_readsM w' a,ba hb _⟩
theorem nd_end2 {s:Sc} {x:T} {w w':World} {a b:Int} (h:ndR s x = (0,[a,b])) (hb:Below w.heap.size w w'):NdPost s x w (.returned (.tuple #[.int .i64 0,.slice (some ⟨w'.heap.size,0,none⟩) 2 2])) (w'.alloc (.cells #[.int .i64 a,.int .i64 b] 3)) :=
 ⟨some ⟨w'.heap.size,0,none⟩,2,by rw [h]; rfl,by rw [h,size_alloc]; exact ⟨rfl,fun _=>⟨_,rfl,Nat.lt_succ_self _,fun j u hu=>by rw [Addr.add_lit,Nat.zero_add,(Blk.new w' _ _).cell,List.getElem?_toArray]; exact hu⟩⟩,ba hb _⟩
def isVk (k:Int):Prop:=k = 6∨k = 7∨k = 8∨k = 14∨k = 15∨k = 16∨k = 21
set_option maxRecDepth 100000 in
set_option maxHeartbeats 8000000 in
theorem rvar_is (p u x : T) (j d : Nat) (A Ax : Option Addr) (c lx cx : Nat) (w : World) (hnd : Nds w (Lt w.heap.size) (d + 2) p.kids A c) (hu : p.kids[j]? = some u) (hu1 : 1 ≤ u.kids.length ∧ u.kids.length ≤ 1000) (hk0 : isVk x.k) (hn0 : 0 ≤ x.n) (hm0 : 0 ≤ x.m) (hvk : ∀ t ∈ (scO p u).vars, 0 ≤ t.k ∧ t.k ≤ 3) :
  Calls Tryd.prog 101 #[.agg #[.int .i64 p.k,.int .i64 p.n,.int .i64 p.m,.slice A p.kids.length c],.int .i64 (j:Int),.agg #[.int .i64 x.k,.int .i64 x.n,.int .i64 x.m,.slice Ax lx cx]] w (NdPost (scO p u) x w):=by
 obtain ⟨A2,c2,hNV,hVC⟩:=zvars_is p u j (d + 1) A c (Lt w.heap.size) w (In.lt _) hnd hu hu1
 obtain ⟨s,hs⟩:∃ s,s = scO p u:=⟨_,rfl⟩
 rw [← hs] at hNV hVC hvk ⊢
 obtain ⟨nv,hnv⟩:∃ z,z = s.vars.length:=⟨_,rfl⟩
 obtain ⟨k,hk⟩:∃ z,z = x.k:=⟨_,rfl⟩
 obtain ⟨n,hn⟩:∃ z,z = x.n:=⟨_,rfl⟩
 obtain ⟨m,hm⟩:∃ z,z = x.m:=⟨_,rfl⟩
 obtain ⟨pk,hpk⟩:∃ z,z = p.k:=⟨_,rfl⟩
 obtain ⟨pn,hpn⟩:∃ z,z = p.n:=⟨_,rfl⟩
 obtain ⟨pm,hpm⟩:∃ z,z = p.m:=⟨_,rfl⟩
 obtain ⟨pl,hpl⟩:∃ z,z = p.kids.length:=⟨_,rfl⟩
 rw [← hk,← hn,← hm,← hpk,← hpn,← hpm,← hpl]
 rw [← hnv,← hpk,← hpn,← hpm,← hpl] at hVC
 obtain ⟨z,hz⟩:∃ z,z = w.heap.size:=⟨_,rfl⟩
 obtain ⟨z2,hz2⟩:∃ z,z = w.heap.size + 1:=⟨_,rfl⟩
 obtain ⟨W1,hW1⟩:∃ W,W = (w.alloc (.cells #[.int .i64 pk,.int .i64 pn,.int .i64 pm,.slice A pl c] 25)).alloc (.cells #[.int .i64 k,.int .i64 n,.int .i64 m,.slice Ax lx cx] 25):=⟨_,rfl⟩
 have hb1:Below w.heap.size w W1:=by rw [hW1]; exact ba (below_new _ _) _
 have kp:Blk W1 z 25 #[.int .i64 pk,.int .i64 pn,.int .i64 pm,.slice A pl c]:=by rw [hW1,hz]; exact (Blk.new _ _ _).alloc _
 have kx:Blk W1 z2 25 #[.int .i64 k,.int .i64 n,.int .i64 m,.slice Ax lx cx]:=by rw [hW1]; exact Blk.new_at _ _ (by rw [size_alloc,hz2]) rfl
 have HVC:=Lib.hid (hVC W1 (Keeps.below (In.lt _) hb1) ((In.lt _).more hb1.size))
 have p0:=kp.cell 0; have p1:=kp.cell 1; have p2:=kp.cell 2; have p3:=kp.cell 3
 simp only [List.getElem?_toArray,List.getElem?_cons_zero,List.getElem?_cons_succ] at p0 p1 p2 p3
 have HKX:=Lib.hid kx
 have HB1:=Lib.hid hb1
 have HW1:=Lib.hid hW1
 have HZ:=Lib.hid (And.intro hz hz2)
 have HNV:Hid (∀ W,Below w.heap.size w W→Nds W (Lt w.heap.size) (d + 2) s.vars A2 c2):=Lib.hid fun W hb=>hNV.keep (Keeps.below (In.lt _) hb) fun _ h=>h
 have HS:=Lib.hid hs
 have HL:=Lib.hid hnv
 have hc:k = 6∨k = 7∨k = 8∨k = 14∨k = 15∨k = 16∨k = 21:=by unfold isVk at hk0; omega
 have hn1:0≤n:=by omega
 have hm1:0≤m:=by omega
 have HVK:=Lib.hid hvk
 have HX:=Lib.hid (And.intro hk (And.intro hn hm))
 clear hNV hVC hs hnv hk hn hm hpk hpn hpm hpl hz hz2 hW1 hb1 kp kx hnd hu hu1 hk0 hn0 hm0 hvk
 go_enter Tryd.func101,Tryd.ntmps101
 go_upto_region 1 with fail
 rw [← HW1.out]
 rw [← HZ.out.2,← HZ.out.1]
 go_upto_region 2 with (go_at_call 25; refine HVC.out.mono ?_; rintro e w2 ⟨rfl,hb2⟩; have HB2:=Lib.hid hb2; clear hb2)
 clear p0 p1 p2 p3 HVC
 have hx2:=HKX.out.below HB2.out HKX.out.lt
 have x0:=hx2.cell 0; have x1:=hx2.cell 1; have x2:=hx2.cell 2
 simp only [List.getElem?_toArray,List.getElem?_cons_zero,List.getElem?_cons_succ] at x0 x1 x2
 have HBW:=Lib.hid (bt HB1.out HB2.out)
 clear hx2
 have hxk:x.k = k:=HX.out.1.symm
 have hxn:x.n = n:=HX.out.2.1.symm
 have hxm:x.m = m:=HX.out.2.2.symm
 have HXX:=Lib.hid (And.intro hxk (And.intro hxn hxm))
 clear hxk hxn hxm
 by_cases hlt:n < (nv:Int)
 ·obtain ⟨q,hq⟩:∃ q:Nat,n = (q:Int):=⟨n.toNat,by omega⟩
  have hql:q < s.vars.length:=by rw [← HL.out]; omega
  obtain ⟨t,ht⟩:∃ t,s.vars[q]? = some t:=⟨_,List.getElem?_eq_getElem hql⟩
  obtain ⟨b,o,At,ct,hA,hb,hcl,hrt⟩:=(HNV.out _ HBW.out).at_ ht
  have htr:=HVK.out t (List.mem_of_getElem? ht)
  obtain ⟨tk,htk⟩:∃ z,z = t.k:=⟨_,rfl⟩
  obtain ⟨tn,htn⟩:∃ z,z = t.n:=⟨_,rfl⟩
  obtain ⟨tm,htm⟩:∃ z,z = t.m:=⟨_,rfl⟩
  obtain ⟨tl,htl⟩:∃ z,z = t.kids.length:=⟨_,rfl⟩
  subst hA
  have t0:w2.cell? ⟨b,o + q * 4,none⟩ = some (.int .i64 tk):=by rw [htk]; exact hcl 0 _ rfl
  have t1:w2.cell? ⟨b,o + q * 4 + 1,none⟩ = some (.int .i64 tn):=by rw [htn]; exact hcl 1 _ rfl
  have t2:w2.cell? ⟨b,o + q * 4 + 2,none⟩ = some (.int .i64 tm):=by rw [htm]; exact hcl 2 _ rfl
  have t3:w2.cell? ⟨b,o + q * 4 + 3,none⟩ = some (.slice At tl ct):=by rw [htl]; exact hcl 3 _ rfl
  have hqn:n.toNat = q:=by omega
  have hat:tAt s.vars x.n = t:=by rw [HXX.out.2.1]; exact tAt_some (by rw [hqn]; exact ht)
  have hqb:(0:Int)≤(q:Int)∧(q:Int) < (nv:Int):=⟨by omega,by omega⟩
  obtain ⟨g3,hg3⟩:∃ z,z = w2.heap.size:=⟨_,rfl⟩
  obtain ⟨W3,hW3⟩:∃ W,W = w2.alloc (.cells #[.int .i64 tk,.int .i64 tn,.int .i64 tm,.slice At tl ct] 25):=⟨_,rfl⟩
  have hb3:Below w2.heap.size w2 W3:=by rw [hW3]; exact below_new _ _
  have k3:Blk W3 g3 25 #[.int .i64 tk,.int .i64 tn,.int .i64 tm,.slice At tl ct]:=by rw [hW3,hg3]; exact Blk.new _ _ _
  have kx3:=(HKX.out.below HB2.out HKX.out.lt).below hb3 (Nat.lt_of_lt_of_le HKX.out.lt HB2.out.size)
  have HTK:=Lib.hid htk
  have HTL:=Lib.hid htl
  have HAT:=Lib.hid hat
  have HB3:=Lib.hid (bt HBW.out hb3)
  have hrt3:=hrt.keep (Keeps.below (fun b (h:b < w.heap.size)=>Nat.lt_of_lt_of_le h HBW.out.size) hb3)
  have HRT:=Lib.hid hrt3
  have HW3:=Lib.hid hW3
  have HG3:=Lib.hid hg3
  have hnl:¬ (s.vars.length:Int)≤x.n:=by rw [HXX.out.2.1,← HL.out]; omega
  have HNL:=Lib.hid hnl
  have h4:tk = 0∨tk = 1∨tk = 2∨tk = 3:=by omega
  clear hcl htn htm hat hqn ht hql hb hrt hrt3 hnl hb3 hW3 hg3 htr htk htl
  subst hq
  have hd:decide ((nv:Int)≤(q:Int)) = false:=by simp; omega
  have hd2:decide (nv≤q) = false:=by simp; omega
  go_upto_region 5 with fail
  rw [← HW3.out,← HG3.out]
  clear x0 x1 x2 t0 t1 t2 t3
  have x0:=kx3.cell 0; have x1:=kx3.cell 1; have x2:=kx3.cell 2
  have t0:=k3.cell 0; have t3:=k3.cell 3
  simp only [List.getElem?_toArray,List.getElem?_cons_zero,List.getElem?_cons_succ] at x0 x1 x2 t0 t3
  clear kx3 k3
  rcases hc with rfl | rfl | rfl | rfl | rfl | rfl | rfl
  ·-- 6
   rcases h4 with rfl | rfl | rfl | rfl
   ·have HH:Hid (ndR s x = (0,[])):=Lib.hid (by simp [ndR,missing,misused,wants,named,HXX.out.1,HAT.out,← HTK.out,HNL.out,scal])
    go_wp2_with fail
    refine bodyPost_ret (results_tmp2 Tryd.results101 _ _ _) rfl ?_
    exact nd_end0 HH.out HB3.out
   ·have HH:Hid (ndR s x = (0,[])):=Lib.hid (by simp [ndR,missing,misused,wants,named,HXX.out.1,HAT.out,← HTK.out,HNL.out,scal])
    go_wp2_with fail
    refine bodyPost_ret (results_tmp2 Tryd.results101 _ _ _) rfl ?_
    exact nd_end0 HH.out HB3.out
   ·have HH:Hid (ndR s x = (12,[])):=Lib.hid (by simp [ndR,missing,misused,wants,named,HXX.out.1,HAT.out,← HTK.out,HNL.out,scal])
    go_wp2_with fail
    refine bodyPost_ret (results_tmp2 Tryd.results101 _ _ _) rfl ?_
    exact nd_end0 HH.out HB3.out
   ·have HH:Hid (ndR s x = (12,[])):=Lib.hid (by simp [ndR,missing,misused,wants,named,HXX.out.1,HAT.out,← HTK.out,HNL.out,scal])
    go_wp2_with fail
    refine bodyPost_ret (results_tmp2 Tryd.results101 _ _ _) rfl ?_
    exact nd_end0 HH.out HB3.out
  ·-- 7
   rcases h4 with rfl | rfl | rfl | rfl
   ·have HH:Hid (ndR s x = (12,[])):=Lib.hid (by simp [ndR,missing,misused,wants,named,HXX.out.1,HAT.out,← HTK.out,HNL.out,scal])
    go_wp2_with fail
    refine bodyPost_ret (results_tmp2 Tryd.results101 _ _ _) rfl ?_
    exact nd_end0 HH.out HB3.out
   ·have HH:Hid (ndR s x = (12,[])):=Lib.hid (by simp [ndR,missing,misused,wants,named,HXX.out.1,HAT.out,← HTK.out,HNL.out,scal])
    go_wp2_with fail
    refine bodyPost_ret (results_tmp2 Tryd.results101 _ _ _) rfl ?_
    exact nd_end0 HH.out HB3.out
   ·have HH:Hid (ndR s x = (0,[0])):=Lib.hid (by simp [ndR,missing,misused,wants,named,HXX.out.1,HAT.out,← HTK.out,HNL.out,scal])
    go_wp2_with fail
    refine bodyPost_ret (results_tmp2 Tryd.results101 _ _ _) rfl ?_
    exact nd_end1 HH.out HB3.out
   ·have HH:Hid (ndR s x = (12,[])):=Lib.hid (by simp [ndR,missing,misused,wants,named,HXX.out.1,HAT.out,← HTK.out,HNL.out,scal])
    go_wp2_with fail
    refine bodyPost_ret (results_tmp2 Tryd.results101 _ _ _) rfl ?_
    exact nd_end0 HH.out HB3.out
  ·-- 8
   rcases h4 with rfl | rfl | rfl | rfl
   ·have HH:Hid (ndR s x = (12,[])):=Lib.hid (by simp [ndR,missing,misused,wants,named,HXX.out.1,HAT.out,← HTK.out,HNL.out,scal])
    go_wp2_with fail
    refine bodyPost_ret (results_tmp2 Tryd.results101 _ _ _) rfl ?_
    exact nd_end0 HH.out HB3.out
   ·have HH:Hid (ndR s x = (12,[])):=Lib.hid (by simp [ndR,missing,misused,wants,named,HXX.out.1,HAT.out,← HTK.out,HNL.out,scal])
    go_wp2_with fail
    refine bodyPost_ret (results_tmp2 Tryd.results101 _ _ _) rfl ?_
    exact nd_end0 HH.out HB3.out
   ·have HH:Hid (ndR s x = (12,[])):=Lib.hid (by simp [ndR,missing,misused,wants,named,HXX.out.1,HAT.out,← HTK.out,HNL.out,scal])
    go_wp2_with fail
    refine bodyPost_ret (results_tmp2 Tryd.results101 _ _ _) rfl ?_
    exact nd_end0 HH.out HB3.out
   ·by_cases hml:m < (tl:Int)
    ·obtain ⟨mm,hmm⟩:∃ q:Nat,m = (q:Int):=⟨m.toNat,by omega⟩
     subst hmm
     have hdm:decide ((tl:Int)≤(mm:Int)) = false:=by simp; omega
     have hdm2:decide (tl≤mm) = false:=by simp; omega
     have HH:Hid (ndR s x = (0,[])):=Lib.hid (by
      have h9:¬ (t.kids.length:Int)≤(mm:Int):=by rw [← HTL.out]; omega
      simp [ndR,missing,misused,wants,HXX.out.1,HXX.out.2.2,HAT.out,← HTK.out,HNL.out]; omega)
     go_wp2_with fail
     refine bodyPost_ret (results_tmp2 Tryd.results101 _ _ _) rfl ?_
     exact nd_end0 HH.out HB3.out
    ·have hdm:decide ((tl:Int)≤m) = true:=by simp; omega
     have HH:Hid (ndR s x = (5,[])):=Lib.hid (by
      have h9:(t.kids.length:Int)≤m:=by rw [← HTL.out]; omega
      simp [ndR,missing,misused,wants,HXX.out.1,HXX.out.2.2,HAT.out,← HTK.out,HNL.out,h9])
     go_wp2_with fail
     refine bodyPost_ret (results_tmp2 Tryd.results101 _ _ _) rfl ?_
     exact nd_end0 HH.out HB3.out
  ·-- 14
   rcases h4 with rfl | rfl | rfl | rfl
   ·have HH:Hid (ndR s x = (0,[0])):=Lib.hid (by simp [ndR,missing,misused,wants,named,HXX.out.1,HAT.out,← HTK.out,HNL.out,scal])
    go_upto_region 13 with fail
    go_region
    all_goals
     go_wp2_with fail
     refine bodyPost_ret (results_tmp2 Tryd.results101 _ _ _) rfl ?_
     exact nd_end1 HH.out HB3.out.drew
   ·have HH:Hid (ndR s x = (0,[1])):=Lib.hid (by simp [ndR,missing,misused,wants,named,HXX.out.1,HAT.out,← HTK.out,HNL.out,scal])
    go_upto_region 13 with fail
    go_region
    all_goals
     go_wp2_with fail
     refine bodyPost_ret (results_tmp2 Tryd.results101 _ _ _) rfl ?_
     exact nd_end1 HH.out HB3.out.drew
   ·have HH:Hid (ndR s x = (12,[])):=Lib.hid (by simp [ndR,missing,misused,wants,named,HXX.out.1,HAT.out,← HTK.out,HNL.out,scal])
    go_wp2_with fail
    refine bodyPost_ret (results_tmp2 Tryd.results101 _ _ _) rfl ?_
    exact nd_end0 HH.out HB3.out
   ·have HH:Hid (ndR s x = (12,[])):=Lib.hid (by simp [ndR,missing,misused,wants,named,HXX.out.1,HAT.out,← HTK.out,HNL.out,scal])
    go_wp2_with fail
    refine bodyPost_ret (results_tmp2 Tryd.results101 _ _ _) rfl ?_
    exact nd_end0 HH.out HB3.out
  ·-- 15
   rcases h4 with rfl | rfl | rfl | rfl
   ·have HH:Hid (ndR s x = (12,[])):=Lib.hid (by simp [ndR,missing,misused,wants,named,HXX.out.1,HAT.out,← HTK.out,HNL.out,scal])
    go_wp2_with fail
    refine bodyPost_ret (results_tmp2 Tryd.results101 _ _ _) rfl ?_
    exact nd_end0 HH.out HB3.out
   ·have HH:Hid (ndR s x = (12,[])):=Lib.hid (by simp [ndR,missing,misused,wants,named,HXX.out.1,HAT.out,← HTK.out,HNL.out,scal])
    go_wp2_with fail
    refine bodyPost_ret (results_tmp2 Tryd.results101 _ _ _) rfl ?_
    exact nd_end0 HH.out HB3.out
   ·have HH:Hid (ndR s x = (0,[0,0])):=Lib.hid (by simp [ndR,missing,misused,wants,named,HXX.out.1,HAT.out,← HTK.out,HNL.out,scal])
    go_wp2_with fail
    refine bodyPost_ret (results_tmp2 Tryd.results101 _ _ _) rfl ?_
    exact nd_end2 HH.out HB3.out
   ·have HH:Hid (ndR s x = (12,[])):=Lib.hid (by simp [ndR,missing,misused,wants,named,HXX.out.1,HAT.out,← HTK.out,HNL.out,scal])
    go_wp2_with fail
    refine bodyPost_ret (results_tmp2 Tryd.results101 _ _ _) rfl ?_
    exact nd_end0 HH.out HB3.out
  ·-- 16
   rcases h4 with rfl | rfl | rfl | rfl
   ·have HH:Hid (ndR s x = (12,[])):=Lib.hid (by simp [ndR,missing,misused,wants,named,HXX.out.1,HAT.out,← HTK.out,HNL.out,scal])
    go_wp2_with fail
    refine bodyPost_ret (results_tmp2 Tryd.results101 _ _ _) rfl ?_
    exact nd_end0 HH.out HB3.out
   ·have HH:Hid (ndR s x = (12,[])):=Lib.hid (by simp [ndR,missing,misused,wants,named,HXX.out.1,HAT.out,← HTK.out,HNL.out,scal])
    go_wp2_with fail
    refine bodyPost_ret (results_tmp2 Tryd.results101 _ _ _) rfl ?_
    exact nd_end0 HH.out HB3.out
   ·have HH:Hid (ndR s x = (12,[])):=Lib.hid (by simp [ndR,missing,misused,wants,named,HXX.out.1,HAT.out,← HTK.out,HNL.out,scal])
    go_wp2_with fail
    refine bodyPost_ret (results_tmp2 Tryd.results101 _ _ _) rfl ?_
    exact nd_end0 HH.out HB3.out
   ·by_cases hml:m < (tl:Int)
    ·obtain ⟨mm,hmm⟩:∃ q:Nat,m = (q:Int):=⟨m.toNat,by omega⟩
     subst hmm
     have hdm:decide ((tl:Int)≤(mm:Int)) = false:=by simp; omega
     have hdm2:decide (tl≤mm) = false:=by simp; omega
     have hmt:mm < tl:=by omega
     obtain ⟨v,hv⟩:∃ v,t.kids[mm]? = some v:=⟨_,List.getElem?_eq_getElem (by rw [← HTL.out]; exact hmt)⟩
     obtain ⟨b4,o4,A4,c4,hA4,hb4,hcl4,_⟩:=HRT.out.kid hv
     subst hA4
     obtain ⟨vk,hvk⟩:∃ z,z = v.k:=⟨_,rfl⟩
     have v0:W3.cell? ⟨b4,o4 + mm * 4,none⟩ = some (.int .i64 vk):=by rw [hvk]; exact hcl4 0 _ rfl
     have hmb:(0:Int)≤(mm:Int)∧(mm:Int) < (tl:Int):=⟨by omega,by omega⟩
     have HH:Hid (ndR s x = (0,[vk])):=Lib.hid (by
      have h8:tAt t.kids (mm:Int) = v:=tAt_some (by rw [Int.toNat_natCast]; exact hv)
      have h9:¬ (t.kids.length:Int)≤(mm:Int):=by rw [← HTL.out]; omega
      simp [ndR,missing,misused,wants,named,HXX.out.1,HXX.out.2.2,HAT.out,← HTK.out,HNL.out,h8,hvk]; omega)
     clear hcl4 hvk hv hb4
     go_upto_region 35 with fail
     go_region
     all_goals
      go_wp2_with fail
      refine bodyPost_ret (results_tmp2 Tryd.results101 _ _ _) rfl ?_
      exact nd_end1 HH.out HB3.out.drew
    ·have hdm:decide ((tl:Int)≤m) = true:=by simp; omega
     have HH:Hid (ndR s x = (5,[])):=Lib.hid (by
      have h9:(t.kids.length:Int)≤m:=by rw [← HTL.out]; omega
      simp [ndR,missing,misused,wants,HXX.out.1,HXX.out.2.2,HAT.out,← HTK.out,HNL.out,h9])
     go_wp2_with fail
     refine bodyPost_ret (results_tmp2 Tryd.results101 _ _ _) rfl ?_
     exact nd_end0 HH.out HB3.out
  ·-- 21
   rcases h4 with rfl | rfl | rfl | rfl
   ·have HH:Hid (ndR s x = (0,[])):=Lib.hid (by simp [ndR,missing,misused,wants,named,HXX.out.1,HAT.out,← HTK.out,HNL.out,scal])
    go_wp2_with fail
    refine bodyPost_ret (results_tmp2 Tryd.results101 _ _ _) rfl ?_
    exact nd_end0 HH.out HB3.out
   ·have HH:Hid (ndR s x = (12,[])):=Lib.hid (by simp [ndR,missing,misused,wants,named,HXX.out.1,HAT.out,← HTK.out,HNL.out,scal])
    go_wp2_with fail
    refine bodyPost_ret (results_tmp2 Tryd.results101 _ _ _) rfl ?_
    exact nd_end0 HH.out HB3.out
   ·have HH:Hid (ndR s x = (12,[])):=Lib.hid (by simp [ndR,missing,misused,wants,named,HXX.out.1,HAT.out,← HTK.out,HNL.out,scal])
    go_wp2_with fail
    refine bodyPost_ret (results_tmp2 Tryd.results101 _ _ _) rfl ?_
    exact nd_end0 HH.out HB3.out
   ·have HH:Hid (ndR s x = (12,[])):=Lib.hid (by simp [ndR,missing,misused,wants,named,HXX.out.1,HAT.out,← HTK.out,HNL.out,scal])
    go_wp2_with fail
    refine bodyPost_ret (results_tmp2 Tryd.results101 _ _ _) rfl ?_
    exact nd_end0 HH.out HB3.out
 ·have hd:decide ((nv:Int)≤n) = true:=by simp; omega
  have HH:Hid (ndR s x = (5,[])):=Lib.hid (by
   have h9:(s.vars.length:Int)≤x.n:=by rw [HXX.out.2.1,← HL.out]; omega
   have hm5:missing s x = true:=by rcases hc with rfl | rfl | rfl | rfl | rfl | rfl | rfl <;> simp [missing,HXX.out.1,h9]
   unfold ndR; rw [if_pos hm5])
  go_wp2_with fail
  refine bodyPost_ret (results_tmp2 Tryd.results101 _ _ _) rfl ?_
  exact nd_end0 HH.out HBW.out
end Go.Proofs.YtkkenbalpnmfmaaDoor

namespace Go.Proofs.YtkkenbalpnmfmaaDoor
open Go.RowKit WM TR TY

set_option maxRecDepth 100000 in
set_option maxHeartbeats 8000000 in
theorem rneeds_a (p u x : T) (j d : Nat) (A Ax : Option Addr) (c lx cx : Nat) (w : World) (hnd : Nds w (Lt w.heap.size) (d + 2) p.kids A c) (hu : p.kids[j]? = some u) (hu1 : 1 ≤ u.kids.length ∧ u.kids.length ≤ 1000) (hk0 : 4 ≤ x.k ∧ x.k ≤ 25 ∧ x.k ≠ 11 ∧ x.k ≠ 23) (hn0 : x.k ≠ 4 → 0 ≤ x.n) (hm0 : 0 ≤ x.m) (hop : x.k = 9 → x.n ≤ 13) (hvk : ∀ t ∈ (scO p u).vars, 0 ≤ t.k ∧ t.k ≤ 3) :
  Calls Tryd.prog 96 #[.agg #[.int .i64 p.k,.int .i64 p.n,.int .i64 p.m,.slice A p.kids.length c],.int .i64 (j:Int),.agg #[.int .i64 x.k,.int .i64 x.n,.int .i64 x.m,.slice Ax lx cx]] w (NdPost (scO p u) x w):=by
 obtain ⟨s,hs⟩:∃ s,s = scO p u:=⟨_,rfl⟩
 rw [← hs] at hvk ⊢
 obtain ⟨k,hk⟩:∃ z,z = x.k:=⟨_,rfl⟩
 obtain ⟨n,hn⟩:∃ z,z = x.n:=⟨_,rfl⟩
 obtain ⟨m,hm⟩:∃ z,z = x.m:=⟨_,rfl⟩
 obtain ⟨pk,hpk⟩:∃ z,z = p.k:=⟨_,rfl⟩
 obtain ⟨pn,hpn⟩:∃ z,z = p.n:=⟨_,rfl⟩
 obtain ⟨pm,hpm⟩:∃ z,z = p.m:=⟨_,rfl⟩
 obtain ⟨pl,hpl⟩:∃ z,z = p.kids.length:=⟨_,rfl⟩
 obtain ⟨z,hz⟩:∃ z,z = w.heap.size:=⟨_,rfl⟩
 obtain ⟨z2,hz2⟩:∃ z,z = w.heap.size + 1:=⟨_,rfl⟩
 obtain ⟨W1,hW1⟩:∃ W,W = (w.alloc (.cells #[.int .i64 pk,.int .i64 pn,.int .i64 pm,.slice A pl c] 25)).alloc (.cells #[.int .i64 k,.int .i64 n,.int .i64 m,.slice Ax lx cx] 25):=⟨_,rfl⟩
 have hb1:Below w.heap.size w W1:=by rw [hW1]; exact ba (below_new _ _) _
 have kp:Blk W1 z 25 #[.int .i64 pk,.int .i64 pn,.int .i64 pm,.slice A pl c]:=by rw [hW1,hz]; exact (Blk.new _ _ _).alloc _
 have kx:Blk W1 z2 25 #[.int .i64 k,.int .i64 n,.int .i64 m,.slice Ax lx cx]:=by rw [hW1]; exact Blk.new_at _ _ (by rw [size_alloc,hz2]) rfl
 have HVAR:Hid (isVk k→Calls Tryd.prog 101 #[.agg #[.int .i64 pk,.int .i64 pn,.int .i64 pm,.slice A pl c],.int .i64 (j:Int),.agg #[.int .i64 k,.int .i64 n,.int .i64 m,.slice Ax lx cx]] W1 (NdPost s x W1)):=Lib.hid fun hv=>by
  rw [hpk,hpn,hpm,hpl,hk,hn,hm,hs]
  rw [hs] at hvk
  refine rvar_is p u x j d A Ax c lx cx W1 (hnd.next hb1) hu hu1 (by rw [← hk]; exact hv) (hn0 (by unfold isVk at hv; omega)) hm0 hvk
 rw [← hk,← hn,← hm,← hpk,← hpn,← hpm,← hpl]
 have p0:=kp.cell 0; have p1:=kp.cell 1; have p2:=kp.cell 2; have p3:=kp.cell 3
 have x0:=kx.cell 0; have x1:=kx.cell 1; have x2:=kx.cell 2; have x3:=kx.cell 3
 simp only [List.getElem?_toArray,List.getElem?_cons_zero,List.getElem?_cons_succ] at p0 p1 p2 p3 x0 x1 x2 x3
 have HB1:=Lib.hid hb1
 have HW1:=Lib.hid hW1
 have HZ:=Lib.hid (And.intro hz hz2)
 have hch:s.ch = pn:=by rw [hs,hpn]; rfl
 have HCH:=Lib.hid hch
 have hxk:x.k = k:=hk.symm
 have hxn:x.n = n:=hn.symm
 have HXX:=Lib.hid (And.intro hxk hxn)
 have hc:isVk k∨k = 12∨k = 22∨k = 9∨k = 10∨k = 17∨k = 18∨k = 19∨k = 20∨k = 24∨k = 4∨k = 5∨k = 13∨k = 25:=by unfold isVk; omega
 have hop1:k = 9→n≤13:=by intro h; have:=hop (by omega); omega
 clear hs hk hn hm hpk hpn hpm hpl hz hz2 hW1 hb1 kp kx hnd hu hu1 hk0 hn0 hm0 hop hvk hch hxk hxn
 rcases hc with hv | rfl | rfl | rfl | rfl | rfl | rfl | rfl | rfl | rfl | rfl | rfl | rfl | rfl
 ·have HVC:=Lib.hid (HVAR.out hv)
  obtain ⟨er,her⟩:∃ z,z = (ndR s x).1:=⟨_,rfl⟩
  obtain ⟨lr,hlr⟩:∃ z,z = (ndR s x).2.length:=⟨_,rfl⟩
  have HER:=Lib.hid (And.intro her hlr)
  have hv2:k = 6∨k = 7∨k = 8∨k = 14∨k = 15∨k = 16∨k = 21:=by unfold isVk at hv; omega
  clear HVAR hv her hlr hop1
  rcases hv2 with rfl | rfl | rfl | rfl | rfl | rfl | rfl
  all_goals
   go_enter Tryd.func96,Tryd.ntmps96
   go_upto_region 1 with fail
   rw [← HW1.out]
   rw [← HZ.out.2,← HZ.out.1]
   go_wp2_with (go_at_call 101; refine HVC.out.mono ?_; rintro e w2 ⟨A5,c5,rfl,hr5,hb5⟩; rw [← HER.out.1,← HER.out.2]; have HR5:=Lib.hid hr5; have HB5:=Lib.hid hb5; clear hr5 hb5)
   refine bodyPost_ret (results_tmp2 Tryd.results96 _ _ _) rfl ?_
   refine ⟨A5,c5,?_,HR5.out,bt HB1.out HB5.out⟩
   rw [← HER.out.1,← HER.out.2]
   rfl
 ·by_cases hn:n < pn
  ·have hd:decide (pn≤n) = false:=by simp; omega
   have h9:¬ pn≤n:=by omega
   have HH:Hid (ndR s x = (0,[])):=Lib.hid (by simp [ndR,missing,misused,wants,HXX.out.1,HXX.out.2,HCH.out,h9])
   clear h9 HVAR hop1
   go_enter Tryd.func96,Tryd.ntmps96
   go_upto_region 1 with fail
   rw [← HW1.out]
   rw [← HZ.out.2,← HZ.out.1]
   go_wp2_with fail
   refine bodyPost_ret (results_tmp2 Tryd.results96 _ _ _) rfl ?_
   exact nd_end0 HH.out HB1.out
  ·have hd:decide (pn≤n) = true:=by simp; omega
   have h9:pn≤n:=by omega
   have HH:Hid (ndR s x = (5,[])):=Lib.hid (by simp [ndR,missing,misused,wants,HXX.out.1,HXX.out.2,HCH.out,h9])
   clear h9 HVAR hop1
   go_enter Tryd.func96,Tryd.ntmps96
   go_upto_region 1 with fail
   rw [← HW1.out]
   rw [← HZ.out.2,← HZ.out.1]
   go_wp2_with fail
   refine bodyPost_ret (results_tmp2 Tryd.results96 _ _ _) rfl ?_
   exact nd_end0 HH.out HB1.out
 ·by_cases hn:n < pn
  ·have hd:decide (pn≤n) = false:=by simp; omega
   have h9:¬ pn≤n:=by omega
   have HH:Hid (ndR s x = (0,[0])):=Lib.hid (by simp [ndR,missing,misused,wants,HXX.out.1,HXX.out.2,HCH.out,h9])
   clear h9 HVAR hop1
   go_enter Tryd.func96,Tryd.ntmps96
   go_upto_region 1 with fail
   rw [← HW1.out]
   rw [← HZ.out.2,← HZ.out.1]
   go_wp2_with fail
   refine bodyPost_ret (results_tmp2 Tryd.results96 _ _ _) rfl ?_
   exact nd_end1 HH.out HB1.out
  ·have hd:decide (pn≤n) = true:=by simp; omega
   have h9:pn≤n:=by omega
   have HH:Hid (ndR s x = (5,[])):=Lib.hid (by simp [ndR,missing,misused,wants,HXX.out.1,HXX.out.2,HCH.out,h9])
   clear h9 HVAR hop1
   go_enter Tryd.func96,Tryd.ntmps96
   go_upto_region 1 with fail
   rw [← HW1.out]
   rw [← HZ.out.2,← HZ.out.1]
   go_wp2_with fail
   refine bodyPost_ret (results_tmp2 Tryd.results96 _ _ _) rfl ?_
   exact nd_end0 HH.out HB1.out
 ·by_cases h11:n≤11
  ·have e1:(n == 12) = false:=by simp; omega
   have e2:(n == 13) = false:=by simp; omega
   have HH:Hid (ndR s x = (0,[0,0])):=Lib.hid (by simp [ndR,missing,misused,wants,HXX.out.1,HXX.out.2,HCH.out,h11])
   clear h11 HVAR hop1
   go_enter Tryd.func96,Tryd.ntmps96
   go_upto_region 1 with fail
   rw [← HW1.out]
   rw [← HZ.out.2,← HZ.out.1]
   go_wp2_with fail
   refine bodyPost_ret (results_tmp2 Tryd.results96 _ _ _) rfl ?_
   exact nd_end2 HH.out HB1.out
  ·have h12:n = 12∨n = 13:=by have:=hop1 rfl; omega
   have HH:Hid (ndR s x = (0,[1,1])):=Lib.hid (by simp [ndR,missing,misused,wants,HXX.out.1,HXX.out.2,HCH.out,h11])
   clear HVAR hop1 h11
   rcases h12 with rfl | rfl
   all_goals
    go_enter Tryd.func96,Tryd.ntmps96
    go_upto_region 1 with fail
    rw [← HW1.out]
    rw [← HZ.out.2,← HZ.out.1]
    go_wp2_with fail
    refine bodyPost_ret (results_tmp2 Tryd.results96 _ _ _) rfl ?_
    exact nd_end2 HH.out HB1.out
 ·have HH:Hid (ndR s x = (0,[1])):=Lib.hid (by simp [ndR,missing,misused,wants,HXX.out.1,HXX.out.2,HCH.out])
  clear HVAR hop1
  go_enter Tryd.func96,Tryd.ntmps96
  go_upto_region 1 with fail
  rw [← HW1.out]
  rw [← HZ.out.2,← HZ.out.1]
  go_wp2_with fail
  refine bodyPost_ret (results_tmp2 Tryd.results96 _ _ _) rfl ?_
  exact nd_end1 HH.out HB1.out
 ·have HH:Hid (ndR s x = (0,[1])):=Lib.hid (by simp [ndR,missing,misused,wants,HXX.out.1,HXX.out.2,HCH.out])
  clear HVAR hop1
  go_enter Tryd.func96,Tryd.ntmps96
  go_upto_region 1 with fail
  rw [← HW1.out]
  rw [← HZ.out.2,← HZ.out.1]
  go_wp2_with fail
  refine bodyPost_ret (results_tmp2 Tryd.results96 _ _ _) rfl ?_
  exact nd_end1 HH.out HB1.out
 ·have HH:Hid (ndR s x = (0,[1])):=Lib.hid (by simp [ndR,missing,misused,wants,HXX.out.1,HXX.out.2,HCH.out])
  clear HVAR hop1
  go_enter Tryd.func96,Tryd.ntmps96
  go_upto_region 1 with fail
  rw [← HW1.out]
  rw [← HZ.out.2,← HZ.out.1]
  go_wp2_with fail
  refine bodyPost_ret (results_tmp2 Tryd.results96 _ _ _) rfl ?_
  exact nd_end1 HH.out HB1.out
 ·have HH:Hid (ndR s x = (0,[0])):=Lib.hid (by simp [ndR,missing,misused,wants,HXX.out.1,HXX.out.2,HCH.out])
  clear HVAR hop1
  go_enter Tryd.func96,Tryd.ntmps96
  go_upto_region 1 with fail
  rw [← HW1.out]
  rw [← HZ.out.2,← HZ.out.1]
  go_wp2_with fail
  refine bodyPost_ret (results_tmp2 Tryd.results96 _ _ _) rfl ?_
  exact nd_end1 HH.out HB1.out
 ·have HH:Hid (ndR s x = (0,[0])):=Lib.hid (by simp [ndR,missing,misused,wants,HXX.out.1,HXX.out.2,HCH.out])
  clear HVAR hop1
  go_enter Tryd.func96,Tryd.ntmps96
  go_upto_region 1 with fail
  rw [← HW1.out]
  rw [← HZ.out.2,← HZ.out.1]
  go_wp2_with fail
  refine bodyPost_ret (results_tmp2 Tryd.results96 _ _ _) rfl ?_
  exact nd_end1 HH.out HB1.out
 ·have HH:Hid (ndR s x = (0,[0])):=Lib.hid (by simp [ndR,missing,misused,wants,HXX.out.1,HXX.out.2,HCH.out])
  clear HVAR hop1
  go_enter Tryd.func96,Tryd.ntmps96
  go_upto_region 1 with fail
  rw [← HW1.out]
  rw [← HZ.out.2,← HZ.out.1]
  go_wp2_with fail
  refine bodyPost_ret (results_tmp2 Tryd.results96 _ _ _) rfl ?_
  exact nd_end1 HH.out HB1.out
 ·have HH:Hid (ndR s x = (0,[])):=Lib.hid (by simp [ndR,missing,misused,wants,HXX.out.1,HXX.out.2,HCH.out])
  clear HVAR hop1
  go_enter Tryd.func96,Tryd.ntmps96
  go_upto_region 1 with fail
  rw [← HW1.out]
  rw [← HZ.out.2,← HZ.out.1]
  go_wp2_with fail
  refine bodyPost_ret (results_tmp2 Tryd.results96 _ _ _) rfl ?_
  exact nd_end0 HH.out HB1.out
 ·have HH:Hid (ndR s x = (0,[])):=Lib.hid (by simp [ndR,missing,misused,wants,HXX.out.1,HXX.out.2,HCH.out])
  clear HVAR hop1
  go_enter Tryd.func96,Tryd.ntmps96
  go_upto_region 1 with fail
  rw [← HW1.out]
  rw [← HZ.out.2,← HZ.out.1]
  go_wp2_with fail
  refine bodyPost_ret (results_tmp2 Tryd.results96 _ _ _) rfl ?_
  exact nd_end0 HH.out HB1.out
 ·have HH:Hid (ndR s x = (0,[])):=Lib.hid (by simp [ndR,missing,misused,wants,HXX.out.1,HXX.out.2,HCH.out])
  clear HVAR hop1
  go_enter Tryd.func96,Tryd.ntmps96
  go_upto_region 1 with fail
  rw [← HW1.out]
  rw [← HZ.out.2,← HZ.out.1]
  go_wp2_with fail
  refine bodyPost_ret (results_tmp2 Tryd.results96 _ _ _) rfl ?_
  exact nd_end0 HH.out HB1.out
 ·have HH:Hid (ndR s x = (0,[])):=Lib.hid (by simp [ndR,missing,misused,wants,HXX.out.1,HXX.out.2,HCH.out])
  clear HVAR hop1
  go_enter Tryd.func96,Tryd.ntmps96
  go_upto_region 1 with fail
  rw [← HW1.out]
  rw [← HZ.out.2,← HZ.out.1]
  go_wp2_with fail
  refine bodyPost_ret (results_tmp2 Tryd.results96 _ _ _) rfl ?_
  exact nd_end0 HH.out HB1.out
end Go.Proofs.YtkkenbalpnmfmaaDoor

namespace Go.Proofs.YtkkenbalpnmfmaaDoor
open Go.RowKit WM TR TY

set_option maxRecDepth 100000 in
set_option maxHeartbeats 8000000 in
theorem rneeds_b (p u x : T) (j d : Nat) (A Ax : Option Addr) (c lx cx : Nat) (w : World) (hnd : Nds w (Lt w.heap.size) (d + 2) p.kids A c) (hu : p.kids[j]? = some u) (hu1 : 1 ≤ u.kids.length ∧ u.kids.length ≤ 1000) (hk0 : x.k = 11 ∨ x.k = 23) (hn0 : 0 ≤ x.n) (hlx : lx = x.kids.length) (hlx2 : lx ≤ 1000) (hfo : FOk p.kids) :
  Calls Tryd.prog 96 #[.agg #[.int .i64 p.k,.int .i64 p.n,.int .i64 p.m,.slice A p.kids.length c],.int .i64 (j:Int),.agg #[.int .i64 x.k,.int .i64 x.n,.int .i64 x.m,.slice Ax lx cx]] w (NdPost (scO p u) x w):=by
 obtain ⟨s,hs⟩:∃ s,s = scO p u:=⟨_,rfl⟩
 rw [← hs]
 obtain ⟨j0,hj,hy0,hy1,hy2⟩:=info_parts int_infoY
 obtain ⟨k,hk⟩:∃ z,z = x.k:=⟨_,rfl⟩
 obtain ⟨n,hn⟩:∃ z,z = x.n:=⟨_,rfl⟩
 obtain ⟨m,hm⟩:∃ z,z = x.m:=⟨_,rfl⟩
 obtain ⟨pk,hpk⟩:∃ z,z = p.k:=⟨_,rfl⟩
 obtain ⟨pn,hpn⟩:∃ z,z = p.n:=⟨_,rfl⟩
 obtain ⟨pm,hpm⟩:∃ z,z = p.m:=⟨_,rfl⟩
 obtain ⟨pl,hpl⟩:∃ z,z = p.kids.length:=⟨_,rfl⟩
 obtain ⟨z,hz⟩:∃ z,z = w.heap.size:=⟨_,rfl⟩
 obtain ⟨z2,hz2⟩:∃ z,z = w.heap.size + 1:=⟨_,rfl⟩
 obtain ⟨W1,hW1⟩:∃ W,W = (w.alloc (.cells #[.int .i64 pk,.int .i64 pn,.int .i64 pm,.slice A pl c] 25)).alloc (.cells #[.int .i64 k,.int .i64 n,.int .i64 m,.slice Ax lx cx] 25):=⟨_,rfl⟩
 have hb1:Below w.heap.size w W1:=by rw [hW1]; exact ba (below_new _ _) _
 have kp:Blk W1 z 25 #[.int .i64 pk,.int .i64 pn,.int .i64 pm,.slice A pl c]:=by rw [hW1,hz]; exact (Blk.new _ _ _).alloc _
 have kx:Blk W1 z2 25 #[.int .i64 k,.int .i64 n,.int .i64 m,.slice Ax lx cx]:=by rw [hW1]; exact Blk.new_at _ _ (by rw [size_alloc,hz2]) rfl
 have HND:Hid (∀ W,Below w.heap.size w W→Nds W (Lt w.heap.size) (d + 2) p.kids A c):=Lib.hid fun W hb=>hnd.keep (Keeps.below (In.lt _) hb) fun _ h=>h
 rw [← hk,← hn,← hm,← hpk,← hpn,← hpm,← hpl]
 have p0:=kp.cell 0; have p1:=kp.cell 1; have p2:=kp.cell 2; have p3:=kp.cell 3
 have x0:=kx.cell 0; have x1:=kx.cell 1; have x2:=kx.cell 2; have x3:=kx.cell 3
 simp only [List.getElem?_toArray,List.getElem?_cons_zero,List.getElem?_cons_succ] at p0 p1 p2 p3 x0 x1 x2 x3
 have HB1:=Lib.hid hb1
 have HW1:=Lib.hid hW1
 have HZ:=Lib.hid (And.intro hz hz2)
 have hfs:s.funs = p.kids:=by rw [hs]; rfl
 have hxk:x.k = k:=hk.symm
 have hxn:x.n = n:=hn.symm
 have HXX:=Lib.hid (And.intro hxk (And.intro hxn (And.intro hfs (And.intro hlx hpl))))
 have HFO:=Lib.hid hfo
 have hc:k = 11∨k = 23:=by omega
 have hn1:0≤n:=by omega
 have hpl3:pl≤1000:=by rw [hpl]; exact hnd.2.2
 clear hs hk hn hm hpk hpn hpm hpl hz hz2 hW1 hb1 kp kx hnd hu hu1 hk0 hn0 hxk hxn hfs hlx hfo
 by_cases hlt:n < (pl:Int)
 ·obtain ⟨q,hq⟩:∃ q:Nat,n = (q:Int):=⟨n.toNat,by omega⟩
  have hql:q < p.kids.length:=by rw [← HXX.out.2.2.2.2]; omega
  obtain ⟨t,ht⟩:∃ t,p.kids[q]? = some t:=⟨_,List.getElem?_eq_getElem hql⟩
  have htm:=HFO.out t (List.mem_of_getElem? ht)
  obtain ⟨b,o,At,ct,hA,hb,hcl,hrt⟩:=(HND.out _ HB1.out).at_ ht
  subst hA
  obtain ⟨fn,hfn⟩:∃ q:Nat,t.n = (q:Int):=⟨t.n.toNat,by omega⟩
  obtain ⟨tl,htl⟩:∃ z,z = t.kids.length:=⟨_,rfl⟩
  have hqn:n.toNat = q:=by omega
  have hat:tAt s.funs x.n = t:=by rw [HXX.out.2.2.1,HXX.out.2.1]; exact tAt_some (by rw [hqn]; exact ht)
  obtain ⟨ps,hps⟩:∃ ps,ps = TY.params s x.n:=⟨_,rfl⟩
  have hps2:ps = ((t.kids.take fn).map (·.k)):=by rw [hps]; unfold TY.params; rw [hat,hfn,Int.toNat_natCast]
  have hfl:fn≤tl:=by rw [htl]; omega
  have hpsl:ps.length = fn:=by rw [hps2,List.length_map,List.length_take,← htl]; omega
  have htl2:tl≤1000:=by omega
  have HKD:Hid (∀ (i:Nat),i < fn→∃ (b2 o2:Nat) (v:T),ps[i]? = some v.k∧At = some ⟨b2,o2,none⟩∧∀ W,Below W1.heap.size W1 W→W.cell? ⟨b2,o2 + i * 4,none⟩ = some (.int .i64 v.k)):=Lib.hid fun i hi=>by
   obtain ⟨v,hv⟩:∃ v,t.kids[i]? = some v:=⟨_,List.getElem?_eq_getElem (by omega)⟩
   obtain ⟨b2,o2,A3,c3,hA3,hb3,hc3,_⟩:=hrt.kid hv
   exact ⟨b2,o2,v,by rw [hps2,List.getElem?_map,List.getElem?_take,if_pos hi,hv]; rfl,hA3,fun W hb=>(hb.cell (p:=⟨b2,o2 + i * 4,none⟩) (Nat.lt_of_lt_of_le hb3 HB1.out.size)).trans (hc3 0 _ rfl)⟩
  have HFC:Hid (∀ W,Below W1.heap.size W1 W→(W.cell? ⟨b,o + q * 4 + 1,none⟩ = some (.int .i64 (fn:Int))∧W.cell? ⟨b,o + q * 4 + 3,none⟩ = some (.slice At tl ct))∧(W.cell? ⟨z,3,none⟩ = some (.slice (some ⟨b,o,none⟩) pl c)∧W.cell? ⟨z2,1,none⟩ = some (.int .i64 (q:Int))∧W.cell? ⟨z2,3,none⟩ = some (.slice Ax lx cx))):=Lib.hid fun W hb1=>by
   have hbl:b < W1.heap.size:=Nat.lt_of_lt_of_le hb HB1.out.size
   have e:∀ i v,(nd t At ct)[i]? = some v→W.cell? ⟨b,o + q * 4 + i,none⟩ = some v:=fun i v hv=>(hb1.cell (p:=⟨b,o + q * 4 + i,none⟩) hbl).trans (hcl i v hv)
   have hz1:z < W1.heap.size:=block_lt_of_cell p0
   have hz2:z2 < W1.heap.size:=block_lt_of_cell x0
   exact ⟨⟨by have h:=e 1 _ rfl; rw [hfn] at h; exact h,by rw [htl]; exact e 3 _ rfl⟩,(hb1.cell (p:=⟨z,3,none⟩) hz1).trans p3,by have h:=(hb1.cell (p:=⟨z2,1,none⟩) hz2).trans x1; rw [hq] at h; exact h,(hb1.cell (p:=⟨z2,3,none⟩) hz2).trans x3⟩
  have hqb:(0:Int)≤(q:Int)∧(q:Int) < (pl:Int):=⟨by omega,by omega⟩
  have HPS:=Lib.hid (And.intro hpsl hps)
  have HAT:=Lib.hid (And.intro hat hfn)
  subst hq
  have hd:decide ((pl:Int)≤(q:Int)) = false:=by simp; omega
  have hd2:decide (pl≤q) = false:=by simp; omega
  have hm1:missing s x = false:=by
   have h9:¬ (pl:Int)≤(q:Int):=by omega
   rcases hc with rfl | rfl <;> simp [missing,HXX.out.1,HXX.out.2.1,HXX.out.2.2.1,← HXX.out.2.2.2.2] <;> omega
  have HM1:=Lib.hid hm1
  have HKK:=Lib.hid hc
  clear hql ht htm hcl hrt htl hqn hat hps hps2 hpsl hfn hm1 hb
  have HRES:Hid (ndR s x = if lx = fn then (0,ps) else (12,[])):=Lib.hid (by
   have hw:wants s x = ps:=by rw [HPS.out.2]; rcases HKK.out with h | h <;> simp [wants,HXX.out.1,h]
   unfold ndR
   rw [HM1.out,if_neg (by simp),hw]
   by_cases he:lx = fn
   ·rw [if_pos he]
    have hm2:misused s x = false:=by rcases HKK.out with h | h <;> simp [misused,HXX.out.1,h,HAT.out.1,HAT.out.2,← HXX.out.2.2.2.1,he]
    rw [hm2,if_neg (by simp)]
   ·rw [if_neg he]
    have hm2:misused s x = true:=by rcases HKK.out with h | h <;> (simp [misused,HXX.out.1,h,HAT.out.1,HAT.out.2,← HXX.out.2.2.2.1]; omega)
    rw [hm2,if_pos rfl])
  rcases hc with rfl | rfl
  all_goals
   go_enter Tryd.func96,Tryd.ntmps96
   go_upto_region 1 with fail
   rw [← HW1.out]
   rw [← HZ.out.2,← HZ.out.1]
   go_wp2_with fail
   clear p0 p1 p2 p3 x0 x1 x2 x3
   go_loopw [8,9] (fun ks iv wr=>∃ (i:Nat) (A5:Option Addr) (c5:Nat),i≤fn∧iv = .int .i64 (i:Int)∧ks = .slice A5 i c5∧Hid (wr.ownsRow W1.heap.size 3 1 (.slice A5 i c5) i (vi (ps.take i))∧Below W1.heap.size W1 wr)) (fun _ iv _=>fn - (intOf iv).toNat)
   case atStart=>exact ⟨0,none,0,Nat.zero_le _,rfl,rfl,World.ownsRow_nil _ _ _ _,Below.refl _ _⟩
   case round =>
    obtain ⟨i,A5,c5,hip,rfl,rfl,HI⟩:=hrel
    obtain ⟨⟨y1,y3⟩,y4,y5,y6⟩:=HFC.out wr HI.out.2
    by_cases hlt2:i < fn
    ·obtain ⟨b2,o2,v,hv,hA2,hcv⟩:=HKD.out i hlt2
     subst hA2
     obtain ⟨vk,hvk⟩:∃ z,z = v.k:=⟨_,rfl⟩
     have v0:wr.cell? ⟨b2,o2 + i * 4,none⟩ = some (.int .i64 vk):=by rw [hvk]; exact hcv wr HI.out.2
     have hib:(0:Int)≤(i:Int)∧(i:Int) < (tl:Int):=⟨by omega,by omega⟩
     have hdi:decide (i < fn) = true:=by simpa using hlt2
     have HTK:Hid (ps.take (i + 1) = ps.take i ++ [vk]):=Lib.hid (by rw [List.take_add_one,hv,hvk]; rfl)
     have HO4:=Lib.hid HI.out.1
     have HB4:=Lib.hid HI.out.2
     clear hv hcv hvk
     go_wp2_with (at_builtin; (refine wpList_append_any _ rfl (.tmp 46) (.tmp 58) 22 rfl W1.heap.size 3 j0 _ 1 8 Tryd.underlying22 hj hy0 hy1 hy2 rfl (by omega) (.slice A5 i c5) i _ rfl (HO4.out.alloc _) _ (some ⟨wr.heap.size,0,none⟩) 1 1 (vi [vk]) rfl (Reads.of_own (own_lit (w:=wr) (base:=wr.heap.size) (e:=3) (size:=1) (xs:=vi [vk]) (n:=1) (Nat.le_refl _) rfl (len_le (by omega)))) (vi_oneY _) (len_le (by omega)) (by omega) (by have:=HB4.out.size; rw [size_alloc]; omega) ?_; intro v4 w4 hown4 hgrow4 _; obtain ⟨A7,c7,rfl,_⟩:=own_len hown4; have HN4:Hid (w4.ownsRow W1.heap.size 3 1 (.slice A7 (i + 1) c7) (i + 1) (vi (ps.take (i + 1)))∧Below W1.heap.size W1 w4):=Lib.hid ⟨by rw [HTK.out,vi_appY]; exact hown4,below_grY HB4.out hgrow4 fun b e=>(HO4.out.lt b e).1⟩; clear hown4 hgrow4))
     go_roundw
     case rel=>exact ⟨i + 1,A7,c7,by omega,by go_num,rfl,HN4.out.1,HN4.out.2⟩
     case measure=>simp [intOf]; omega
    ·have hie:i = fn:=by omega
     subst hie
     have hdi:decide (i < i) = false:=by simp
     by_cases he:lx = i
     ·have HE:Hid (ndR s x = (0,ps)):=Lib.hid (by rw [HRES.out,if_pos he])
      subst he
      go_wp2_with fail
      refine bodyPost_ret (results_tmp2 Tryd.results96 _ _ _) rfl ?_
      refine ⟨A5,c5,?_,?_,bt HB1.out HI.out.2⟩
      ·rw [HE.out,HPS.out.1]; rfl
      ·rw [HE.out]
       have h:=HI.out.1
       rw [List.take_of_length_le (by rw [HPS.out.1]; exact Nat.le_refl _)] at h
       show Reads wr wr.heap.size 1 A5 ps.length (vi ps)
       rw [HPS.out.1]
       exact ((Rd.of_own h).mono fun b hb=>hb.2).reads (In.lt _)
     ·have HE:Hid (ndR s x = (12,[])):=Lib.hid (by rw [HRES.out,if_neg he])
      have hne:((i:Int) != (lx:Int)) = true:=by simp; omega
      have hne2:(i != lx) = true:=by simp; omega
      have hne3:(i == lx) = false:=by simp; omega
      clear he
      go_wp2_with fail
      refine bodyPost_ret (results_tmp2 Tryd.results96 _ _ _) rfl ?_
      exact nd_end0 HE.out (bt HB1.out HI.out.2)
 ·have hd:decide ((pl:Int)≤n) = true:=by simp; omega
  have HH:Hid (ndR s x = (5,[])):=Lib.hid (by
   have h9:(p.kids.length:Int)≤n:=by rw [← HXX.out.2.2.2.2]; omega
   have hm5:missing s x = true:=by rcases hc with rfl | rfl <;> simp [missing,HXX.out.1,HXX.out.2.1,HXX.out.2.2.1,h9]
   unfold ndR; rw [if_pos hm5])
  rcases hc with rfl | rfl
  all_goals
   go_enter Tryd.func96,Tryd.ntmps96
   go_upto_region 1 with fail
   rw [← HW1.out]
   rw [← HZ.out.2,← HZ.out.1]
   go_wp2_with fail
   refine bodyPost_ret (results_tmp2 Tryd.results96 _ _ _) rfl ?_
   exact nd_end0 HH.out HB1.out
end Go.Proofs.YtkkenbalpnmfmaaDoor

namespace Go.Proofs.YtkkenbalpnmfmaaDoor
open Go.RowKit WM TR TY

theorem fitB_all {s:Sc}:∀ (l:List T) (ks:List Int),(∀ (i:Nat) (y:T) (kd:Int),l[i]? = some y→ks[i]? = some kd→fit1 s y kd = true)→fitB s l ks = true
 | [],_,_=>by simp [fitB]
 | _ :: _,[],_=>by simp [fitB]
 | u :: l,k :: ks,h=>by
  have h1:=h 0 u k rfl rfl
  have h2:=fitB_all l ks fun i y kd hy hk=>h (i + 1) y kd hy hk
  unfold fitB at h2 ⊢
  rw [List.zipWith_cons_cons,List.all_cons,h2,h1]; rfl
theorem fitB_bad {s:Sc}:∀ (l:List T) (ks:List Int) (i:Nat) (y:T) (kd:Int),l[i]? = some y→ks[i]? = some kd→fit1 s y kd = false→fitB s l ks = false
 | [],_,_,_,_,hy,_,_=>by simp at hy
 | _ :: _,[],_,_,_,_,hk,_=>by simp at hk
 | u :: l,k :: ks,0,y,kd,hy,hk,hf=>by
  simp at hy hk; subst hy; subst hk
  unfold fitB; rw [List.zipWith_cons_cons,List.all_cons,hf]; rfl
 | u :: l,k :: ks,i + 1,y,kd,hy,hk,hf=>by
  have h2:=fitB_bad l ks i y kd (by simpa using hy) (by simpa using hk) hf
  unfold fitB at h2 ⊢
  rw [List.zipWith_cons_cons,List.all_cons,h2,Bool.and_false]
theorem errOf_ok {s:Sc} {x:T} (h:∀ (i:Nat) (y:T) (kd:Int),x.kids[i]? = some y→(ndR s x).2[i]? = some kd→fit1 s y kd = true):errOf s x = (ndR s x).1:=by
 unfold errOf ndR at *
 cases hm:missing s x
 ·cases hu:misused s x
  ·simp only [hm,hu,Bool.false_eq_true,if_false,Bool.false_or] at h ⊢
   rw [fitB_all x.kids _ h]; rfl
  ·simp [hm,hu]
 ·simp [hm]
theorem errOf_bad {s:Sc} {x y:T} {i:Nat} {kd:Int} (hy:x.kids[i]? = some y) (hk:(ndR s x).2[i]? = some kd) (hf:fit1 s y kd = false):errOf s x = 12:=by
 unfold errOf ndR at *
 cases hm:missing s x
 ·cases hu:misused s x
  ·simp only [hm,hu,Bool.false_eq_true,if_false,Bool.false_or] at hk ⊢
   rw [fitB_bad x.kids _ i y kd hy hk hf]; rfl
  ·simp [hm,hu] at hk
 ·simp [hm] at hk
set_option maxRecDepth 100000 in
set_option maxHeartbeats 8000000 in
theorem rwrong_is (p u x : T) (j d D : Nat) (A Ax : Option Addr) (c cx : Nat) (w : World) (hnd : Nds w (Lt w.heap.size) (d + 2) p.kids A c) (hu : p.kids[j]? = some u) (hu1 : 1 ≤ u.kids.length ∧ u.kids.length ≤ 1000) (hxk : Nds w (Lt w.heap.size) D x.kids Ax cx)
  (hN:∀ W,Below w.heap.size w W→Calls Tryd.prog 96 #[.agg #[.int .i64 p.k,.int .i64 p.n,.int .i64 p.m,.slice A p.kids.length c],.int .i64 (j:Int),.agg #[.int .i64 x.k,.int .i64 x.n,.int .i64 x.m,.slice Ax x.kids.length cx]] W (NdPost (scO p u) x W))
  (hT:∀ (i:Nat) (y:T),x.kids[i]? = some y→i < (ndR (scO p u) x).2.length→EOk y∧-1≤typeOf (scO p u) y) (hlen:(ndR (scO p u) x).2.length≤x.kids.length) :
  Calls Tryd.prog 70 #[.agg #[.int .i64 p.k,.int .i64 p.n,.int .i64 p.m,.slice A p.kids.length c],.int .i64 (j:Int),.agg #[.int .i64 x.k,.int .i64 x.n,.int .i64 x.m,.slice Ax x.kids.length cx]] w fun e w'=>e = .returned (.int .i64 (errOf (scO p u) x))∧Below w.heap.size w w':=by
 obtain ⟨s,hs⟩:∃ s,s = scO p u:=⟨_,rfl⟩
 have HTY:Hid (∀ W (y:T) (Ay:Option Addr) (cy:Nat),Below w.heap.size w W→EOk y→Calls Tryd.prog 77 #[.agg #[.int .i64 p.k,.int .i64 p.n,.int .i64 p.m,.slice A p.kids.length c],.int .i64 (j:Int),.agg #[.int .i64 y.k,.int .i64 y.n,.int .i64 y.m,.slice Ay y.kids.length cy]] W fun e w'=>e = .returned (.int .i64 (typeOf s y))∧Below W.heap.size W w'):=Lib.hid fun W y Ay cy hb hy=>by
  rw [hs]; exact rtype_is p u y j d A Ay c y.kids.length cy W (hnd.next hb) hu hu1 hy
 rw [← hs] at hN hT hlen ⊢
 have HNE:=Lib.hid hN
 have HT:=Lib.hid hT
 obtain ⟨k,hk⟩:∃ z,z = x.k:=⟨_,rfl⟩
 obtain ⟨n,hn⟩:∃ z,z = x.n:=⟨_,rfl⟩
 obtain ⟨m,hm⟩:∃ z,z = x.m:=⟨_,rfl⟩
 obtain ⟨lx,hlx⟩:∃ z,z = x.kids.length:=⟨_,rfl⟩
 obtain ⟨pk,hpk⟩:∃ z,z = p.k:=⟨_,rfl⟩
 obtain ⟨pn,hpn⟩:∃ z,z = p.n:=⟨_,rfl⟩
 obtain ⟨pm,hpm⟩:∃ z,z = p.m:=⟨_,rfl⟩
 obtain ⟨pl,hpl⟩:∃ z,z = p.kids.length:=⟨_,rfl⟩
 obtain ⟨er,her⟩:∃ z,z = (ndR s x).1:=⟨_,rfl⟩
 obtain ⟨ks,hks⟩:∃ z,z = (ndR s x).2:=⟨_,rfl⟩
 obtain ⟨lk,hlk⟩:∃ z,z = ks.length:=⟨_,rfl⟩
 obtain ⟨eo,heo⟩:∃ z,z = errOf s x:=⟨_,rfl⟩
 rw [← hk,← hn,← hm,← hlx,← hpk,← hpn,← hpm,← hpl] at HNE
 rw [← hpk,← hpn,← hpm,← hpl] at HTY
 rw [← hk,← hn,← hm,← hlx,← hpk,← hpn,← hpm,← hpl,← heo]
 obtain ⟨z,hz⟩:∃ z,z = w.heap.size:=⟨_,rfl⟩
 obtain ⟨z2,hz2⟩:∃ z,z = w.heap.size + 1:=⟨_,rfl⟩
 obtain ⟨W1,hW1⟩:∃ W,W = (w.alloc (.cells #[.int .i64 pk,.int .i64 pn,.int .i64 pm,.slice A pl c] 25)).alloc (.cells #[.int .i64 k,.int .i64 n,.int .i64 m,.slice Ax lx cx] 25):=⟨_,rfl⟩
 have hb1:Below w.heap.size w W1:=by rw [hW1]; exact ba (below_new _ _) _
 have kp:Blk W1 z 25 #[.int .i64 pk,.int .i64 pn,.int .i64 pm,.slice A pl c]:=by rw [hW1,hz]; exact (Blk.new _ _ _).alloc _
 have kx:Blk W1 z2 25 #[.int .i64 k,.int .i64 n,.int .i64 m,.slice Ax lx cx]:=by rw [hW1]; exact Blk.new_at _ _ (by rw [size_alloc,hz2]) rfl
 have HCL:Hid (∀ W,Below W1.heap.size W1 W→(W.cell? ⟨z,0,none⟩ = some (.int .i64 pk)∧W.cell? ⟨z,1,none⟩ = some (.int .i64 pn)∧W.cell? ⟨z,2,none⟩ = some (.int .i64 pm)∧W.cell? ⟨z,3,none⟩ = some (.slice A pl c))∧(W.cell? ⟨z2,0,none⟩ = some (.int .i64 k)∧W.cell? ⟨z2,1,none⟩ = some (.int .i64 n)∧W.cell? ⟨z2,2,none⟩ = some (.int .i64 m)∧W.cell? ⟨z2,3,none⟩ = some (.slice Ax lx cx))):=Lib.hid fun W hb=>by
  have e1:=kp.below hb kp.lt
  have e2:=kx.below hb kx.lt
  exact ⟨⟨e1.cell 0,e1.cell 1,e1.cell 2,e1.cell 3⟩,e2.cell 0,e2.cell 1,e2.cell 2,e2.cell 3⟩
 obtain ⟨⟨p0,p1,p2,p3⟩,x0,x1,x2,x3⟩:=HCL.out W1 (Below.refl _ _)
 have HXK:Hid (∀ W,Below w.heap.size w W→Nds W (Lt w.heap.size) D x.kids Ax cx):=Lib.hid fun W hb=>hxk.keep (Keeps.below (In.lt _) hb) fun _ h=>h
 have hlkx:lk≤lx:=by rw [hlk,hks,hlx]; exact hlen
 have hlx3:lx≤1000:=by rw [hlx]; exact hxk.2.2
 have HB1:=Lib.hid hb1
 have HW1:=Lib.hid hW1
 have HZ:=Lib.hid (And.intro hz hz2)
 have HER:=Lib.hid (And.intro her (And.intro hks (And.intro hlk (And.intro heo hlx))))
 clear hs hnd hu hu1 hxk hN hT hlen hk hn hm hlx hpk hpn hpm hpl her hks hlk heo hz hz2 hW1 hb1 kp kx
 go_enter Tryd.func70,Tryd.ntmps70
 go_upto_region 1 with fail
 rw [← HW1.out]
 rw [← HZ.out.2,← HZ.out.1]
 go_upto_region 2 with (go_at_call 96; refine (HNE.out _ HB1.out).mono ?_; rintro e w2 ⟨A5,c5,rfl,hr5,hb5⟩; rw [← HER.out.1,← HER.out.2.1,← HER.out.2.2.1]; rw [← HER.out.2.1,← HER.out.2.2.1] at hr5; have HR5:=Lib.hid hr5; have HB5:=Lib.hid hb5; clear hr5 hb5)
 clear p0 p1 p2 p3 x0 x1 x2 x3
 go_wp2_with fail
 go_loopw [9] (fun iv wr=>∃ (i:Nat),iv = .int .i64 (i:Int)∧i≤lk∧Hid (∀ (i':Nat) (y:T) (kd:Int),i' < i→x.kids[i']? = some y→ks[i']? = some kd→fit1 s y kd = true)∧Hid (Below w2.heap.size w2 wr)) (fun iv _=>lk - (intOf iv).toNat)
 case atStart=>exact ⟨0,rfl,Nat.zero_le _,fun i' _ _ h=>absurd h (by omega),Below.refl _ _⟩
 case round =>
  obtain ⟨i,rfl,hil,HFT,HBR⟩:=hrel
  obtain ⟨Wk,hWk⟩:∃ W,W = wr:=⟨_,rfl⟩
  subst hWk
  have HBW1:Hid (Below W1.heap.size W1 Wk):=Lib.hid (bt HB5.out HBR.out)
  have HBW:Hid (Below w.heap.size w Wk):=Lib.hid (bt HB1.out HBW1.out)
  by_cases hlt:i < lk
  ·have hdi:decide (i < lk) = true:=by simpa using hlt
   obtain ⟨y,hy⟩:∃ y,x.kids[i]? = some y:=⟨_,List.getElem?_eq_getElem (by rw [← HER.out.2.2.2.2]; omega)⟩
   obtain ⟨kd,hkd⟩:∃ kd,ks[i]? = some kd:=⟨_,List.getElem?_eq_getElem (by rw [← HER.out.2.2.1]; exact hlt)⟩
   obtain ⟨b,o,Ay,cy,hA,hb,hcl,_⟩:=(HXK.out _ HBW.out).at_ hy
   have hty:=HT.out i y hy (by rw [← HER.out.2.1,← HER.out.2.2.1]; exact hlt)
   subst hA
   obtain ⟨yk,hyk⟩:∃ z,z = y.k:=⟨_,rfl⟩
   obtain ⟨yn,hyn⟩:∃ z,z = y.n:=⟨_,rfl⟩
   obtain ⟨ym,hym⟩:∃ z,z = y.m:=⟨_,rfl⟩
   obtain ⟨yl,hyl⟩:∃ z,z = y.kids.length:=⟨_,rfl⟩
   obtain ⟨tq,hto⟩:∃ z,z = typeOf s y:=⟨_,rfl⟩
   have hbl:b < Wk.heap.size:=Nat.lt_of_lt_of_le hb HBW.out.size
   have HCY:Hid (∀ W,Below Wk.heap.size Wk W→W.cell? ⟨b,o + i * 4,none⟩ = some (.int .i64 yk)∧W.cell? ⟨b,o + i * 4 + 1,none⟩ = some (.int .i64 yn)∧W.cell? ⟨b,o + i * 4 + 2,none⟩ = some (.int .i64 ym)∧W.cell? ⟨b,o + i * 4 + 3,none⟩ = some (.slice Ay yl cy)):=Lib.hid fun W hb=>by
    have e:∀ j v,(nd y Ay cy)[j]? = some v→W.cell? ⟨b,o + i * 4 + j,none⟩ = some v:=fun j v hv=>(hb.cell (p:=⟨b,o + i * 4 + j,none⟩) hbl).trans (hcl j v hv)
    exact ⟨by rw [hyk]; exact e 0 _ rfl,by rw [hyn]; exact e 1 _ rfl,by rw [hym]; exact e 2 _ rfl,by rw [hyl]; exact e 3 _ rfl⟩
   have HTP:Hid (∀ W,Below Wk.heap.size Wk W→Calls Tryd.prog 77 #[.agg #[.int .i64 pk,.int .i64 pn,.int .i64 pm,.slice A pl c],.int .i64 (j:Int),.agg #[.int .i64 yk,.int .i64 yn,.int .i64 ym,.slice Ay yl cy]] W fun e w'=>e = .returned (.int .i64 tq)∧Below W.heap.size W w'):=Lib.hid fun W hb=>by
    rw [hyk,hyn,hym,hyl,hto]; exact HTY.out W y Ay cy (bt HBW.out hb) hty.1
   obtain ⟨b5,o5,hA5,hlt5,hc5⟩:=(Rd.of_reads HR5.out).lit (by omega)
   subst hA5
   have HCK:Hid (∀ W,Below w2.heap.size w2 W→W.cell? ⟨b5,o5 + i,none⟩ = some (.int .i64 kd)):=Lib.hid fun W hb=>(hb.cell (p:=⟨b5,o5 + i,none⟩) hlt5).trans (hc5 i _ (vi_get hkd))
   have hib:(0:Int)≤(i:Int)∧(i:Int) < (lx:Int):=⟨by omega,by omega⟩
   have hib2:(0:Int)≤(i:Int)∧(i:Int) < (lk:Int):=⟨by omega,by omega⟩
   have hto1:-1≤tq:=by rw [hto]; exact hty.2
   have HTO:=Lib.hid (And.intro hto (And.intro hy hkd))
   clear hcl hb hty hyk hyn hym hyl hto hbl hc5 hlt5 hy hkd
   go_upto_region 5 with fail
   refine wp_region_held_drew (S:=fun W=>Below Wk.heap.size Wk W) (by kernel_rfl) (Below.refl _ _).drew (fun hS0=>?_)
   refine wpAnyH_take (i:=0) (v:=?_) rfl (by kernel_rfl) (by kernel_rfl) (by kernel_rfl) (fun _ _ _ h=>h) (Or.inl ⟨by rfl,?_⟩) hS0 ?_; rotate_left; (intro w hSw; (try dsimp only at hSw); obtain ⟨⟨z0,z1,z2,z3⟩,z4,z5,z6,z7⟩:=HCL.out w (bt HBW1.out hSw); obtain ⟨v0,v1,v2,v3⟩:=HCY.out w hSw; go_simp; try with_reducible rfl)
   refine wpAnyH_take (i:=1) (v:=?_) rfl (by kernel_rfl) (by kernel_rfl) (by kernel_rfl) (fun _ _ _ h=>h) (Or.inl ⟨by rfl,?_⟩) hS0 ?_; rotate_left; (intro w hSw; (try dsimp only at hSw); go_simp; try with_reducible rfl)
   refine wpAnyH_take (i:=2) (v:=?_) rfl (by kernel_rfl) (by kernel_rfl) (by kernel_rfl) (fun _ _ _ h=>h) (Or.inl ⟨by rfl,?_⟩) hS0 ?_; rotate_left; (intro w hSw; (try dsimp only at hSw); go_simp; try with_reducible rfl)
   refine wpAnyH_take (i:=3) (v:=?_) rfl (by kernel_rfl) (by kernel_rfl) (by kernel_rfl) (fun _ _ _ h=>h) (Or.inl ⟨by rfl,?_⟩) hS0 ?_; rotate_left; (intro w hSw; (try dsimp only at hSw); obtain ⟨⟨z0,z1,z2,z3⟩,z4,z5,z6,z7⟩:=HCL.out w (bt HBW1.out hSw); obtain ⟨v0,v1,v2,v3⟩:=HCY.out w hSw; go_simp; try with_reducible rfl)
   refine wpAnyH_take (i:=4) (v:=?_) rfl (by kernel_rfl) (by kernel_rfl) (by kernel_rfl) (fun _ _ _ h=>h) (Or.inl ⟨by rfl,?_⟩) hS0 ?_; rotate_left; (intro w hSw; (try dsimp only at hSw); go_simp; try with_reducible rfl)
   refine wpAnyH_take (i:=5) (v:=?_) rfl (by kernel_rfl) (by kernel_rfl) (by kernel_rfl) (fun _ _ _ h=>h) (Or.inl ⟨by rfl,?_⟩) hS0 ?_; rotate_left; (intro w hSw; (try dsimp only at hSw); go_simp; try with_reducible rfl)
   refine wpAnyH_take (i:=6) (v:=?_) rfl (by kernel_rfl) (by kernel_rfl) (by kernel_rfl) (fun _ _ _ h=>h) (Or.inl ⟨by rfl,?_⟩) hS0 ?_; rotate_left; (intro w hSw; (try dsimp only at hSw); obtain ⟨⟨z0,z1,z2,z3⟩,z4,z5,z6,z7⟩:=HCL.out w (bt HBW1.out hSw); obtain ⟨v0,v1,v2,v3⟩:=HCY.out w hSw; go_simp; try with_reducible rfl)
   conv=>arg 8; simp [go_sem]
   conv=>arg 7; simp
   obtain ⟨w8,hw8⟩:∃ w,w = Wk.drew:=⟨_,rfl⟩
   have hS:Below Wk.heap.size Wk w8:=by rw [hw8]; exact hS0
   rw [← hw8]
   clear hw8 hS0
   refine wpAnyH_ready (rs:=[7]) (by kernel_rfl) (by simp) ?_
   refine AllReadyH.cons rfl (fun K hK=>?_) AllReadyH.nil
   go_simp
   go_at_call 77
   refine (HTP.out _ hS).mono ?_
   rintro e w9 ⟨rfl,hb9⟩
   try go_simp
   have hS9:=bt hS hb9
   refine hK.out _ _ hS9 (fun _=>?_)
   clear hK K
   refine wpAnyH_ready (rs:=[8]) (by kernel_rfl) (by simp) ?_
   refine AllReadyH.cons rfl (fun K hK=>?_) AllReadyH.nil
   go_simp
   refine hK.out _ _ hS9 (fun _=>?_)
   clear hK K
   refine wpAnyH_done (by kernel_rfl) ?_ _
   have HB9:Hid (Below w2.heap.size w2 w9):=Lib.hid (bt HBR.out hS9)
   have ck:=HCK.out w9 HB9.out
   clear hS9 hS hb9
   by_cases hneg:tq = -1
   ·have HFI:Hid (fit1 s y kd = true):=Lib.hid (by unfold fit1; rw [← HTO.out.1,hneg]; simp)
    subst hneg
    go_wp2_with fail
    go_roundw
    case rel=>exact ⟨i + 1,by go_num,by omega,fun i' y' kd' h hy' hk'=>by
     by_cases h2:i' = i
     ·subst h2
      obtain rfl:y = y':=Option.some.inj (HTO.out.2.1.symm.trans hy')
      obtain rfl:kd = kd':=Option.some.inj (HTO.out.2.2.symm.trans hk')
      exact HFI.out
     ·exact HFT.out i' y' kd' (by omega) hy' hk',HB9.out⟩
    case measure=>simp [intOf]; omega
   ·have hd0:decide (0≤tq) = true:=by simp; omega
    by_cases heq:tq = kd
    ·have HFI:Hid (fit1 s y kd = true):=Lib.hid (by unfold fit1; rw [← HTO.out.1,heq]; simp)
     have hne:(tq != kd) = false:=by simpa using heq
     clear hneg heq
     go_wp2_with fail
     go_roundw
     case rel=>exact ⟨i + 1,by go_num,by omega,fun i' y' kd' h hy' hk'=>by
      by_cases h2:i' = i
      ·subst h2
       obtain rfl:y = y':=Option.some.inj (HTO.out.2.1.symm.trans hy')
       obtain rfl:kd = kd':=Option.some.inj (HTO.out.2.2.symm.trans hk')
       exact HFI.out
      ·exact HFT.out i' y' kd' (by omega) hy' hk',HB9.out⟩
     case measure=>simp [intOf]; omega
    ·have HEB : Hid (eo = 12) := Lib.hid (by
      rw [HER.out.2.2.2.1]
      have hf:fit1 s y kd = false:=by unfold fit1; rw [← HTO.out.1]; simp [hneg,heq]
      exact errOf_bad HTO.out.2.1 (by rw [← HER.out.2.1]; exact HTO.out.2.2) hf)
     have hne:(tq != kd) = true:=by simpa using heq
     clear hneg heq
     go_wp2_with fail
     go_ret
     exact ⟨ret_i HEB.out.symm,bt (bt HB1.out HB5.out) HB9.out⟩
  ·have hie:i = lk:=by omega
   have hdi:decide (i < lk) = false:=by simpa using hlt
   have HEE:Hid (eo = er):=Lib.hid (by
    rw [HER.out.2.2.2.1,HER.out.1]
    refine errOf_ok fun i' y' kd' hy' hk'=>?_
    rw [← HER.out.2.1] at hk'
    exact HFT.out i' y' kd' (by have:=(List.getElem?_eq_some_iff.1 hk').1; have:=HER.out.2.2.1; omega) hy' hk')
   clear hie
   go_wp2_with fail
   go_ret
   exact ⟨ret_i HEE.out.symm,HBW.out⟩
end Go.Proofs.YtkkenbalpnmfmaaDoor
