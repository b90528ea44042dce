/- Texts joined. -/
import Derived.Test.YtkkenbalpnmfmaaDoorH36
import Derived.Test.YtkkenbalpnmfmaaDoorH31
import Derived.Test.YtkkenbalpnmfmaaDoorH11
import Derived.BigQuiet
import Derived.Test.YtkkenbalpnmfmaaDoorH18
import Derived.Deep.RegionHeldLaw
import Derived.RegionTactic
set_option linter.unusedVariables false
namespace Go.Proofs.YtkkenbalpnmfmaaDoor.TY
open TR


theorem tAt_some {l:List T} {n:Int} {t:T} (h:l[n.toNat]? = some t):tAt l n = t:=by
 unfold tAt; rw [List.getD_eq_getElem?_getD,h]; rfl







end Go.Proofs.YtkkenbalpnmfmaaDoor.TY
namespace Go.Proofs.YtkkenbalpnmfmaaDoor
open TR TY








end Go.Proofs.YtkkenbalpnmfmaaDoor

namespace Go.Proofs.YtkkenbalpnmfmaaDoor
open Go.RowKit WM TR TY

structure EOk (x:T):Prop where
 ex:isEx x.k = true
 n:x.k≠4→0≤x.n
 m:0≤x.m
 op:x.k = 9→x.n≤13
set_option maxRecDepth 100000 in
set_option maxHeartbeats 8000000 in
theorem rtype_is (p u x : T) (j d : Nat) (A Ax : Option Addr) (c lx cx : Nat) (w : World) (hnd : Nds w (Lt w.heap.size) (d + 2) p.kids A c) (hu : p.kids[j]? = some u) (hu1 : 1 ≤ u.kids.length ∧ u.kids.length ≤ 1000) (hx : EOk x) :
  Calls Tryd.prog 77 #[.agg #[.int .i64 p.k,.int .i64 p.n,.int .i64 p.m,.slice A p.kids.length c],.int .i64 (j:Int),.agg #[.int .i64 x.k,.int .i64 x.n,.int .i64 x.m,.slice Ax lx cx]] w fun e w'=>e = .returned (.int .i64 (typeOf (scO p u) x))∧Below w.heap.size w w':=by
 obtain ⟨A2,c2,hNV,hVC⟩:=zvars_is p u j (d + 1) A c (Lt w.heap.size) w (In.lt _) hnd hu hu1
 obtain ⟨s,hs⟩:∃ s,s = scO p u:=⟨_,rfl⟩
 rw [← hs] at hNV hVC ⊢
 obtain ⟨nv,hnv⟩:∃ z,z = s.vars.length:=⟨_,rfl⟩
 obtain ⟨r,hr⟩:∃ r,typeOf s x = r:=⟨_,rfl⟩
 rw [hr]
 obtain ⟨k,hk⟩:∃ z,z = x.k:=⟨_,rfl⟩
 obtain ⟨n,hn⟩:∃ z,z = x.n:=⟨_,rfl⟩
 obtain ⟨m,hm⟩:∃ z,z = x.m:=⟨_,rfl⟩
 obtain ⟨pk,hpk⟩:∃ z,z = p.k:=⟨_,rfl⟩
 obtain ⟨pn,hpn⟩:∃ z,z = p.n:=⟨_,rfl⟩
 obtain ⟨pm,hpm⟩:∃ z,z = p.m:=⟨_,rfl⟩
 obtain ⟨pl,hpl⟩:∃ z,z = p.kids.length:=⟨_,rfl⟩
 rw [← hk,← hn,← hm,← hpk,← hpn,← hpm,← hpl]
 rw [← hnv,← hpk,← hpn,← hpm,← hpl] at hVC
 obtain ⟨z,hz⟩:∃ z,z = w.heap.size:=⟨_,rfl⟩
 obtain ⟨z2,hz2⟩:∃ z,z = w.heap.size + 1:=⟨_,rfl⟩
 obtain ⟨W1,hW1⟩:∃ W,W = (w.alloc (.cells #[.int .i64 pk,.int .i64 pn,.int .i64 pm,.slice A pl c] 25)).alloc (.cells #[.int .i64 k,.int .i64 n,.int .i64 m,.slice Ax lx cx] 25):=⟨_,rfl⟩
 have hb1:Below w.heap.size w W1:=by rw [hW1]; exact ba (below_new _ _) _
 have kp:Blk W1 z 25 #[.int .i64 pk,.int .i64 pn,.int .i64 pm,.slice A pl c]:=by rw [hW1,hz]; exact (Blk.new _ _ _).alloc _
 have kx:Blk W1 z2 25 #[.int .i64 k,.int .i64 n,.int .i64 m,.slice Ax lx cx]:=by rw [hW1]; exact Blk.new_at _ _ (by rw [size_alloc,hz2]) rfl
 have HVC:=Lib.hid (hVC W1 (Keeps.below (In.lt _) hb1) ((In.lt _).more hb1.size))
 have p0:=kp.cell 0; have p1:=kp.cell 1; have p2:=kp.cell 2; have p3:=kp.cell 3
 simp only [List.getElem?_toArray,List.getElem?_cons_zero,List.getElem?_cons_succ] at p0 p1 p2 p3
 have HKX:=Lib.hid kx
 have HB1:=Lib.hid hb1
 have HW1:=Lib.hid hW1
 have HZ:=Lib.hid (And.intro hz hz2)
 have HNV:Hid (∀ W,Below w.heap.size w W→Nds W (Lt w.heap.size) (d + 2) s.vars A2 c2):=Lib.hid fun W hb=>hNV.keep (Keeps.below (In.lt _) hb) fun _ h=>h
 have HS:=Lib.hid hs
 have HL:=Lib.hid hnv
 have hke:4≤k∧k≤12:=by have h:=hx.ex; unfold isEx at h; simp at h; omega
 have hn0:k≠4→0≤n:=by intro h; have:=hx.n (by omega); omega
 have hm0:0≤m:=by have:=hx.m; omega
 have hop:k = 9→n≤13:=by intro h; have:=hx.op (by omega); omega
 have HX:=Lib.hid (And.intro hk (And.intro hn hm))
 have HR:=Lib.hid hr
 clear hNV hVC hs hnv hr hk hn hm hpk hpn hpm hpl hz hz2 hW1 hb1 kp kx hnd hu hu1 hx
 go_enter Tryd.func77,Tryd.ntmps77
 go_upto_region 1 with fail
 rw [← HW1.out]
 rw [← HZ.out.2,← HZ.out.1]
 go_upto_region 2 with (go_at_call 25; refine HVC.out.mono ?_; rintro e w2 ⟨rfl,hb2⟩; have HB2:=Lib.hid hb2; clear hb2)
 clear p0 p1 p2 p3 HVC
 have hx2:=HKX.out.below HB2.out HKX.out.lt
 have x0:=hx2.cell 0; have x1:=hx2.cell 1; have x2:=hx2.cell 2
 simp only [List.getElem?_toArray,List.getElem?_cons_zero,List.getElem?_cons_succ] at x0 x1 x2
 have HBW:=Lib.hid (bt HB1.out HB2.out)
 have hres:∀ v,typeOf s x = v→v = r:=fun v h=>h.symm.trans HR.out
 have HRES:=Lib.hid hres
 clear hx2 hres
 have hxk:x.k = k:=HX.out.1.symm
 have hxn:x.n = n:=HX.out.2.1.symm
 have hxm:x.m = m:=HX.out.2.2.symm
 have HXX:=Lib.hid (And.intro hxk (And.intro hxn hxm))
 clear hxk hxn hxm
 have hc:k = 4∨k = 5∨k = 7∨k = 10∨k = 11∨k = 12∨k = 9∨k = 6∨k = 8:=by omega
 clear hke
 rcases hc with rfl | rfl | rfl | rfl | rfl | rfl | rfl | rfl | rfl
 ·go_wp2_with fail
  go_ret
  exact ⟨ret_i (HRES.out _ (by simp [typeOf,HXX.out.1])),HBW.out⟩
 ·go_wp2_with fail
  go_ret
  exact ⟨ret_i (HRES.out _ (by simp [typeOf,HXX.out.1])),HBW.out⟩
 ·go_wp2_with fail
  go_ret
  exact ⟨ret_i (HRES.out _ (by simp [typeOf,HXX.out.1])),HBW.out⟩
 ·go_wp2_with fail
  go_ret
  exact ⟨ret_i (HRES.out _ (by simp [typeOf,HXX.out.1])),HBW.out⟩
 ·go_wp2_with fail
  go_ret
  exact ⟨ret_i (HRES.out _ (by simp [typeOf,HXX.out.1])),HBW.out⟩
 ·go_wp2_with fail
  go_ret
  exact ⟨ret_i (HRES.out _ (by simp [typeOf,HXX.out.1])),HBW.out⟩
 ·by_cases h10:10≤n
  ·have hn4:n = 10∨n = 11∨n = 12∨n = 13:=by have:=hop rfl; omega
   rcases hn4 with rfl | rfl | rfl | rfl
   all_goals
    go_wp2_with fail
    go_ret
    exact ⟨ret_i (HRES.out _ (by simp [typeOf,HXX.out.1,HXX.out.2.1])),HBW.out⟩
  ·have e1:(n == 10) = false:=by simp; omega
   have e2:(n == 11) = false:=by simp; omega
   have e3:(n == 12) = false:=by simp; omega
   have e4:(n == 13) = false:=by simp; omega
   go_wp2_with fail
   go_ret
   exact ⟨ret_i (HRES.out _ (by simp [typeOf,HXX.out.1,HXX.out.2.1,h10])),HBW.out⟩
 ·have hn1:=hn0 (by omega)
  by_cases hlt:n < (nv:Int)
  ·have hd:decide (n < (nv:Int)) = true:=by simpa using hlt
   obtain ⟨q,hq⟩:∃ q:Nat,n = (q:Int):=⟨n.toNat,by omega⟩
   have hql:q < s.vars.length:=by rw [← HL.out]; omega
   obtain ⟨t,ht⟩:∃ t,s.vars[q]? = some t:=⟨_,List.getElem?_eq_getElem hql⟩
   obtain ⟨b,o,At,ct,hA,hb,hcl,_⟩:=(HNV.out _ HBW.out).at_ ht
   obtain ⟨tk,htk⟩:∃ z,z = t.k:=⟨_,rfl⟩
   subst hA
   have t0:w2.cell? ⟨b,o + q * 4,none⟩ = some (.int .i64 tk):=by rw [htk]; exact hcl 0 _ rfl
   have hqn:n.toNat = q:=by omega
   have hat:tAt s.vars x.n = t:=by rw [HXX.out.2.1]; exact tAt_some (by rw [hqn]; exact ht)
   have hqb:(0:Int)≤(q:Int)∧(q:Int) < (nv:Int):=⟨by omega,by omega⟩
   have HTK:=Lib.hid htk
   have HAT:=Lib.hid hat
   have HQ:=Lib.hid hq
   have hmis:missing s x = false:=by simp [missing,HXX.out.1,HXX.out.2.1,← HL.out]; omega
   have HM:=Lib.hid hmis
   clear hcl htk hat hqn ht hql hmis hb
   subst hq
   clear hd
   have hd:decide (q < nv) = true:=by simp; omega
   by_cases h0:tk = 0
   ·have HH : Hid (typeOf s x = tk) := Lib.hid (by
     have hm2:misused s x = false:=by simp [misused,HXX.out.1,HAT.out,← HTK.out,h0,scal]
     have hnm:named s x = tk:=by unfold named; rw [HAT.out,← HTK.out,if_neg (by omega)]
     simp [typeOf,HXX.out.1,HM.out,hm2,hnm])
    subst h0
    go_wp2_with fail
    go_ret
    exact ⟨ret_i (HRES.out _ HH.out),HBW.out⟩
   ·by_cases h1:tk = 1
    ·have HH : Hid (typeOf s x = tk) := Lib.hid (by
      have hm2:misused s x = false:=by simp [misused,HXX.out.1,HAT.out,← HTK.out,h1,scal]
      have hnm:named s x = tk:=by unfold named; rw [HAT.out,← HTK.out,if_neg (by omega)]
      simp [typeOf,HXX.out.1,HM.out,hm2,hnm])
     subst h1
     go_wp2_with fail
     go_ret
     exact ⟨ret_i (HRES.out _ HH.out),HBW.out⟩
    ·have HH : Hid (typeOf s x = -1) := Lib.hid (by
      have hm2:misused s x = true:=by simp [misused,HXX.out.1,HAT.out,← HTK.out,h0,h1,scal]
      simp [typeOf,HXX.out.1,HM.out,hm2])
     have e0:(tk == 0) = false:=by simpa using h0
     have e1:(tk == 1) = false:=by simpa using h1
     go_wp2_with fail
     go_ret
     exact ⟨ret_i (HRES.out _ HH.out),HBW.out⟩
  ·have hd:decide (n < (nv:Int)) = false:=by simpa using hlt
   have HH:Hid (typeOf s x = -1):=Lib.hid (by
    have hmis:missing s x = true:=by simp [missing,HXX.out.1,HXX.out.2.1,← HL.out]; omega
    simp [typeOf,HXX.out.1,hmis])
   go_wp2_with fail
   go_ret
   exact ⟨ret_i (HRES.out _ HH.out),HBW.out⟩
 ·have hn1:=hn0 (by omega)
  by_cases hlt:n < (nv:Int)
  ·obtain ⟨q,hq⟩:∃ q:Nat,n = (q:Int):=⟨n.toNat,by omega⟩
   have hql:q < s.vars.length:=by rw [← HL.out]; omega
   obtain ⟨t,ht⟩:∃ t,s.vars[q]? = some t:=⟨_,List.getElem?_eq_getElem hql⟩
   obtain ⟨b,o,At,ct,hA,hb,hcl,hrt⟩:=(HNV.out _ HBW.out).at_ ht
   obtain ⟨tk,htk⟩:∃ z,z = t.k:=⟨_,rfl⟩
   obtain ⟨tl,htl⟩:∃ z,z = t.kids.length:=⟨_,rfl⟩
   subst hA
   have t0:w2.cell? ⟨b,o + q * 4,none⟩ = some (.int .i64 tk):=by rw [htk]; exact hcl 0 _ rfl
   have t3:w2.cell? ⟨b,o + q * 4 + 3,none⟩ = some (.slice At tl ct):=by rw [htl]; exact hcl 3 _ rfl
   have hqn:n.toNat = q:=by omega
   have hat:tAt s.vars x.n = t:=by rw [HXX.out.2.1]; exact tAt_some (by rw [hqn]; exact ht)
   have hqb:(0:Int)≤(q:Int)∧(q:Int) < (nv:Int):=⟨by omega,by omega⟩
   have HTK:=Lib.hid htk
   have HTL:=Lib.hid htl
   have HAT:=Lib.hid hat
   have HRT:=Lib.hid hrt
   have hnl:¬ (s.vars.length:Int)≤x.n:=by rw [HXX.out.2.1,← HL.out]; omega
   have HNL:=Lib.hid hnl
   clear hcl htk htl hat hqn ht hql hb hrt hnl
   subst hq
   have hd:decide (q < nv) = true:=by simp; omega
   have hd2:decide ((q:Int) < (nv:Int)) = true:=by simp; omega
   by_cases h3:tk = 3
   ·subst h3
    by_cases hml:m < (tl:Int)
    ·obtain ⟨mm,hmm⟩:∃ q:Nat,m = (q:Int):=⟨m.toNat,by omega⟩
     subst hmm
     have hmt:mm < tl:=by omega
     obtain ⟨v,hv⟩:∃ v,t.kids[mm]? = some v:=⟨_,List.getElem?_eq_getElem (by rw [← HTL.out]; exact hmt)⟩
     obtain ⟨b3,o3,A3,c3,hA3,hb3,hcl3,_⟩:=HRT.out.kid hv
     subst hA3
     obtain ⟨vk,hvk⟩:∃ z,z = v.k:=⟨_,rfl⟩
     have v0:w2.cell? ⟨b3,o3 + mm * 4,none⟩ = some (.int .i64 vk):=by rw [hvk]; exact hcl3 0 _ rfl
     have hmb:(0:Int)≤(mm:Int)∧(mm:Int) < (tl:Int):=⟨by omega,by omega⟩
     have hdm:decide (mm < tl) = true:=by simpa using hmt
     have HH:Hid (typeOf s x = vk):=Lib.hid (by
      have hm2:misused s x = false:=by simp [misused,HXX.out.1,HAT.out,← HTK.out]
      have hm1:missing s x = false:=by simp [missing,HXX.out.1,HAT.out,← HTK.out,HXX.out.2.2,HNL.out]; rw [← HTL.out]; omega
      have hnm:named s x = vk:=by
       unfold named
       rw [HAT.out,← HTK.out,if_pos rfl,HXX.out.2.2,tAt_some (t:=v) (by rw [Int.toNat_natCast]; exact hv),hvk]
      simp [typeOf,HXX.out.1,hm1,hm2,hnm])
     clear hcl3 hvk hv hb3
     go_upto_region 25 with fail
     go_quiet (fail)
     go_upto_region 26 with fail
     go_quiet (fail)
     go_wp2_with fail
     go_ret
     exact ⟨ret_i (HRES.out _ HH.out),by first | exact HBW.out | exact below_drewN HBW.out _ | exact below_drewN (below_drewN HBW.out _) _⟩
    ·have hmt:¬ m < (tl:Int):=hml
     have hdm:decide (m < (tl:Int)) = false:=by simpa using hml
     have HH:Hid (typeOf s x = -1):=Lib.hid (by
      have hm1:missing s x = true:=by simp [missing,HXX.out.1,HAT.out,← HTK.out,HXX.out.2.2,HNL.out]; rw [← HTL.out]; omega
      simp [typeOf,HXX.out.1,hm1])
     go_upto_region 25 with fail
     go_quiet (fail)
     go_wp2_with fail
     go_ret
     exact ⟨ret_i (HRES.out _ HH.out),by first | exact HBW.out | exact below_drewN HBW.out _⟩
   ·have HH : Hid (typeOf s x = -1) := Lib.hid (by
     have hm2:misused s x = true:=by simp [misused,HXX.out.1,HAT.out,← HTK.out,h3]
     simp [typeOf,HXX.out.1,hm2])
    have e3:(tk == 3) = false:=by simpa using h3
    go_upto_region 25 with fail
    go_quiet (fail)
    go_wp2_with fail
    go_ret
    exact ⟨ret_i (HRES.out _ HH.out),by first | exact HBW.out | exact below_drewN HBW.out _⟩
  ·have hd:decide (n < (nv:Int)) = false:=by simpa using hlt
   have HH:Hid (typeOf s x = -1):=Lib.hid (by
    have hmis:missing s x = true:=by simp [missing,HXX.out.1,HXX.out.2.1,← HL.out]; omega
    simp [typeOf,HXX.out.1,hmis])
   go_wp2_with fail
   go_ret
   exact ⟨ret_i (HRES.out _ HH.out),HBW.out⟩
end Go.Proofs.YtkkenbalpnmfmaaDoor

namespace Go.Proofs.YtkkenbalpnmfmaaDoor
open Go.RowKit WM TR TY


theorem Rep.tight {w:World} {S:Nat→Prop}:∀ {D d:Nat} {t:T} {cs:List Value},Rep w S D t cs→depth t≤d→Rep w S d t cs
 | 0,_,_,_,h,_=>h.elim
 | D + 1,0,t,_,_,hd=>by have:=depth_eq t; omega
 | D + 1,d + 1,t,_,⟨A,c,xs,h1,h2,h3,h4,h5⟩,hd=>⟨A,c,xs,h1,h2,h3,h4,fun i u hu=>Rep.tight (h5 i u hu) (by have:=depth_kid hu; omega)⟩
theorem Reps.app {w:World} {S:Nat→Prop} {d:Nat} {ts us:List T} {xs ys:List Value} (h:Reps w S d ts xs) (k:Reps w S d us ys):Reps w S d (ts ++ us) (xs ++ ys):=by
 refine ⟨by rw [List.length_append,List.length_append,h.1,k.1]; omega,fun i u hu=>?_⟩
 by_cases hi:i < ts.length
 ·rw [List.getElem?_append_left hi] at hu
  have:=h.2 i u hu
  rw [List.drop_append_of_le_length (by rw [h.1]; omega),List.take_append_of_le_length (by rw [List.length_drop,h.1]; omega)]
  exact this
 ·rw [List.getElem?_append_right (by omega)] at hu
  have:=k.2 _ u hu
  have e:(xs ++ ys).drop (i * 4) = ys.drop ((i - ts.length) * 4):=by
   rw [List.drop_append,List.drop_eq_nil_of_le (by rw [h.1]; omega),List.nil_append]
   congr 1
   rw [h.1]; omega
  rw [e]; exact this
structure AR (B0 B D:Nat) (w:World) (v:Value) (ts:List T) (xs:List Value):Prop where
 own:w.ownsRow B 25 4 v ts.length xs
 reps:Reps w (Lt B0) D ts xs
 le:B0≤B
theorem AR.nil {B0 B D:Nat} {w:World} (h:B0≤B):AR B0 B D w (.slice none 0 0) [] []:=⟨World.ownsRow_nil _ _ _ _,Reps.nil,h⟩
theorem AR.later {B0 B D:Nat} {w w':World} {v:Value} {ts:List T} {xs:List Value} (h:AR B0 B D w v ts xs) (hB:B≤w.heap.size) (hb:Below w.heap.size w w'):AR B0 B D w' v ts xs :=
 ⟨ownsRow_below h.own hb,h.reps.keep (Keeps.below (fun b (hb:b < B0)=>by have:=h.le; omega) hb),h.le⟩
theorem below_gwB {B:Nat} {a w w':World} {row:Option Nat} (hb:Below B a w) (h:w.grownBy w' row) (hB:B≤w.heap.size) (hr:∀ b,row = some b→B≤b):Below B a w' :=
 ⟨h.os.trans hb.os,h.tape.trans hb.tape,h.output.trans hb.output,Nat.le_trans hb.size h.size,fun i hi=>(h.block i (Nat.lt_of_lt_of_le hi hB) (fun e=>by have:=hr i e.symm; omega)).trans (hb.block i hi)⟩
theorem AR.put {B0 B D m:Nat} {w w':World} {v v':Value} {ts us:List T} {xs ys:List Value} (h:AR B0 B D w v ts xs) (hB:B≤w.heap.size) (hu:Reps w (Lt B0) D us ys) (hm:us.length = m) (hown:w'.ownsRow B 25 4 v' (ts.length + m) (xs ++ ys)) (hg:w.grownBy w' v.ownBlock):AR B0 B D w' v' (ts ++ us) (xs ++ ys)∧Below B w w':=by
 have hb:Below B w w':=below_gwB (Below.refl _ _) hg hB fun b e=>(h.own.lt b e).1
 exact ⟨⟨by rw [List.length_append,hm]; exact hown,(h.reps.app hu).keep (Keeps.below (fun b (hb:b < B0)=>Nat.lt_of_lt_of_le hb h.le) hb),h.le⟩,hb⟩
theorem AR.rep {B0 B D c:Nat} {w:World} {A:Option Addr} {ts:List T} {xs:List Value} {k n m:Int} (h:AR B0 B D w (.slice A ts.length c) ts xs) (hB:B≤w.heap.size) (hk:inRange k) (hn:inRange n) (hm:inRange m):Rep w (Lt w.heap.size) (D + 1) ⟨k,n,m,ts⟩ (nd ⟨k,n,m,ts⟩ A c):=by
 obtain ⟨A',c',e,hc⟩:=own_len h.own
 injection e with _ _ e3
 exact Rep.mk hk hn hm (by omega) ((Rd.of_own h.own).mono fun b hb=>hb.2) (h.reps.mono fun b (hb:b < B0)=>by have:=h.le; show b < _; omega)
theorem AR.store {B0 B D g i:Nat} {w:World} {v u:Value} {ts:List T} {xs:List Value} (h:AR B0 B D w v ts xs) (h0:B0≤g) (hg:g < B):AR B0 B D (w.setCell ⟨g,i,none⟩ u) v ts xs :=
 ⟨ownsRow_setCell_below h.own hg u,h.reps.keep (Keeps.setCell (Keeps.refl _ _) (fun (hb:g < B0)=>by omega) u),h.le⟩

theorem int_readsM (w:World) (x:Int):Reads (w.alloc (.cells #[.int .i64 x] 3)) (w.heap.size + 1) 1 (some ⟨w.heap.size,0,none⟩) 1 (vi [x]) :=
 ⟨rfl,fun _=>⟨_,rfl,Nat.lt_succ_self _,fun j u hu=>by rw [Addr.add_lit,Nat.zero_add,(Blk.new w _ _).cell,List.getElem?_toArray]; exact hu⟩⟩
theorem sum_set (f:T→Nat) (x:T):∀ (l:List T) (k:Nat),((l.set k x).map f).sum≤(l.map f).sum + f x
 | [],_=>by simp
 | a :: l,0=>by simp only [List.set_cons_zero,List.map_cons,List.sum_cons]; omega
 | a :: l,k + 1=>by have:=sum_set f x l k; simp only [List.set_cons_succ,List.map_cons,List.sum_cons]; omega

end Go.Proofs.YtkkenbalpnmfmaaDoor

namespace Go.Proofs.YtkkenbalpnmfmaaDoor
open Go.RowKit WM TR TY

def ndR (s:Sc) (x:T):Int × List Int:=if missing s x = true then (5,[]) else if misused s x = true then (12,[]) else (0,wants s x)
def NdPost (s:Sc) (x:T) (w:World) (e:Ending) (w':World):Prop :=
 ∃ (A':Option Addr) (c':Nat),e = .returned (.tuple #[.int .i64 (ndR s x).1,.slice A' (ndR s x).2.length c'])∧Reads w' w'.heap.size 1 A' (ndR s x).2.length (vi (ndR s x).2)∧Below w.heap.size w w'
theorem nd_end0 {s:Sc} {x:T} {w w':World} {er:Int} (h:ndR s x = (er,[])) (hb:Below w.heap.size w w'):NdPost s x w (.returned (.tuple #[.int .i64 er,.slice none 0 0])) w' :=
 ⟨none,0,by rw [h]; rfl,by rw [h]; exact ⟨rfl,fun h=>absurd h (by simp)⟩,hb⟩
theorem nd_end1 {s:Sc} {x:T} {w w':World} {a:Int} (h:ndR s x = (0,[a])) (hb:Below w.heap.size w w'):NdPost s x w (.returned (.tuple #[.int .i64 0,.slice (some ⟨w'.heap.size,0,none⟩) 1 1])) (w'.alloc (.cells #[.int .i64 a] 3)) :=
 ⟨some ⟨w'.heap.size,0,none⟩,1,by rw [h]; rfl,by rw [h,size_alloc]; exact int_readsM w' a,ba hb _⟩
theorem nd_end2 {s:Sc} {x:T} {w w':World} {a b:Int} (h:ndR s x = (0,[a,b])) (hb:Below w.heap.size w w'):NdPost s x w (.returned (.tuple #[.int .i64 0,.slice (some ⟨w'.heap.size,0,none⟩) 2 2])) (w'.alloc (.cells #[.int .i64 a,.int .i64 b] 3)) :=
 ⟨some ⟨w'.heap.size,0,none⟩,2,by rw [h]; rfl,by rw [h,size_alloc]; exact ⟨rfl,fun _=>⟨_,rfl,Nat.lt_succ_self _,fun j u hu=>by rw [Addr.add_lit,Nat.zero_add,(Blk.new w' _ _).cell,List.getElem?_toArray]; exact hu⟩⟩,ba hb _⟩
def isVk (k:Int):Prop:=k = 6∨k = 7∨k = 8∨k = 14∨k = 15∨k = 16∨k = 21
set_option maxRecDepth 100000 in
set_option maxHeartbeats 8000000 in
theorem rvar_is (p u x : T) (j d : Nat) (A Ax : Option Addr) (c lx cx : Nat) (w : World) (hnd : Nds w (Lt w.heap.size) (d + 2) p.kids A c) (hu : p.kids[j]? = some u) (hu1 : 1 ≤ u.kids.length ∧ u.kids.length ≤ 1000) (hk0 : isVk x.k) (hn0 : 0 ≤ x.n) (hm0 : 0 ≤ x.m) (hvk : ∀ t ∈ (scO p u).vars, 0 ≤ t.k ∧ t.k ≤ 3) :
  Calls Tryd.prog 101 #[.agg #[.int .i64 p.k,.int .i64 p.n,.int .i64 p.m,.slice A p.kids.length c],.int .i64 (j:Int),.agg #[.int .i64 x.k,.int .i64 x.n,.int .i64 x.m,.slice Ax lx cx]] w (NdPost (scO p u) x w):=by
 obtain ⟨A2,c2,hNV,hVC⟩:=zvars_is p u j (d + 1) A c (Lt w.heap.size) w (In.lt _) hnd hu hu1
 obtain ⟨s,hs⟩:∃ s,s = scO p u:=⟨_,rfl⟩
 rw [← hs] at hNV hVC hvk ⊢
 obtain ⟨nv,hnv⟩:∃ z,z = s.vars.length:=⟨_,rfl⟩
 obtain ⟨k,hk⟩:∃ z,z = x.k:=⟨_,rfl⟩
 obtain ⟨n,hn⟩:∃ z,z = x.n:=⟨_,rfl⟩
 obtain ⟨m,hm⟩:∃ z,z = x.m:=⟨_,rfl⟩
 obtain ⟨pk,hpk⟩:∃ z,z = p.k:=⟨_,rfl⟩
 obtain ⟨pn,hpn⟩:∃ z,z = p.n:=⟨_,rfl⟩
 obtain ⟨pm,hpm⟩:∃ z,z = p.m:=⟨_,rfl⟩
 obtain ⟨pl,hpl⟩:∃ z,z = p.kids.length:=⟨_,rfl⟩
 rw [← hk,← hn,← hm,← hpk,← hpn,← hpm,← hpl]
 rw [← hnv,← hpk,← hpn,← hpm,← hpl] at hVC
 obtain ⟨z,hz⟩:∃ z,z = w.heap.size:=⟨_,rfl⟩
 obtain ⟨z2,hz2⟩:∃ z,z = w.heap.size + 1:=⟨_,rfl⟩
 obtain ⟨W1,hW1⟩:∃ W,W = (w.alloc (.cells #[.int .i64 pk,.int .i64 pn,.int .i64 pm,.slice A pl c] 25)).alloc (.cells #[.int .i64 k,.int .i64 n,.int .i64 m,.slice Ax lx cx] 25):=⟨_,rfl⟩
 have hb1:Below w.heap.size w W1:=by rw [hW1]; exact ba (below_new _ _) _
 have kp:Blk W1 z 25 #[.int .i64 pk,.int .i64 pn,.int .i64 pm,.slice A pl c]:=by rw [hW1,hz]; exact (Blk.new _ _ _).alloc _
 have kx:Blk W1 z2 25 #[.int .i64 k,.int .i64 n,.int .i64 m,.slice Ax lx cx]:=by rw [hW1]; exact Blk.new_at _ _ (by rw [size_alloc,hz2]) rfl
 have HVC:=Lib.hid (hVC W1 (Keeps.below (In.lt _) hb1) ((In.lt _).more hb1.size))
 have p0:=kp.cell 0; have p1:=kp.cell 1; have p2:=kp.cell 2; have p3:=kp.cell 3
 simp only [List.getElem?_toArray,List.getElem?_cons_zero,List.getElem?_cons_succ] at p0 p1 p2 p3
 have HKX:=Lib.hid kx
 have HB1:=Lib.hid hb1
 have HW1:=Lib.hid hW1
 have HZ:=Lib.hid (And.intro hz hz2)
 have HNV:Hid (∀ W,Below w.heap.size w W→Nds W (Lt w.heap.size) (d + 2) s.vars A2 c2):=Lib.hid fun W hb=>hNV.keep (Keeps.below (In.lt _) hb) fun _ h=>h
 have HS:=Lib.hid hs
 have HL:=Lib.hid hnv
 have hc:k = 6∨k = 7∨k = 8∨k = 14∨k = 15∨k = 16∨k = 21:=by unfold isVk at hk0; omega
 have hn1:0≤n:=by omega
 have hm1:0≤m:=by omega
 have HVK:=Lib.hid hvk
 have HX:=Lib.hid (And.intro hk (And.intro hn hm))
 clear hNV hVC hs hnv hk hn hm hpk hpn hpm hpl hz hz2 hW1 hb1 kp kx hnd hu hu1 hk0 hn0 hm0 hvk
 go_enter Tryd.func101,Tryd.ntmps101
 go_upto_region 1 with fail
 rw [← HW1.out]
 rw [← HZ.out.2,← HZ.out.1]
 go_upto_region 2 with (go_at_call 25; refine HVC.out.mono ?_; rintro e w2 ⟨rfl,hb2⟩; have HB2:=Lib.hid hb2; clear hb2)
 clear p0 p1 p2 p3 HVC
 have hx2:=HKX.out.below HB2.out HKX.out.lt
 have x0:=hx2.cell 0; have x1:=hx2.cell 1; have x2:=hx2.cell 2
 simp only [List.getElem?_toArray,List.getElem?_cons_zero,List.getElem?_cons_succ] at x0 x1 x2
 have HBW:=Lib.hid (bt HB1.out HB2.out)
 clear hx2
 have hxk:x.k = k:=HX.out.1.symm
 have hxn:x.n = n:=HX.out.2.1.symm
 have hxm:x.m = m:=HX.out.2.2.symm
 have HXX:=Lib.hid (And.intro hxk (And.intro hxn hxm))
 clear hxk hxn hxm
 by_cases hlt:n < (nv:Int)
 ·obtain ⟨q,hq⟩:∃ q:Nat,n = (q:Int):=⟨n.toNat,by omega⟩
  have hql:q < s.vars.length:=by rw [← HL.out]; omega
  obtain ⟨t,ht⟩:∃ t,s.vars[q]? = some t:=⟨_,List.getElem?_eq_getElem hql⟩
  obtain ⟨b,o,At,ct,hA,hb,hcl,hrt⟩:=(HNV.out _ HBW.out).at_ ht
  have htr:=HVK.out t (List.mem_of_getElem? ht)
  obtain ⟨tk,htk⟩:∃ z,z = t.k:=⟨_,rfl⟩
  obtain ⟨tn,htn⟩:∃ z,z = t.n:=⟨_,rfl⟩
  obtain ⟨tm,htm⟩:∃ z,z = t.m:=⟨_,rfl⟩
  obtain ⟨tl,htl⟩:∃ z,z = t.kids.length:=⟨_,rfl⟩
  subst hA
  have t0:w2.cell? ⟨b,o + q * 4,none⟩ = some (.int .i64 tk):=by rw [htk]; exact hcl 0 _ rfl
  have t1:w2.cell? ⟨b,o + q * 4 + 1,none⟩ = some (.int .i64 tn):=by rw [htn]; exact hcl 1 _ rfl
  have t2:w2.cell? ⟨b,o + q * 4 + 2,none⟩ = some (.int .i64 tm):=by rw [htm]; exact hcl 2 _ rfl
  have t3:w2.cell? ⟨b,o + q * 4 + 3,none⟩ = some (.slice At tl ct):=by rw [htl]; exact hcl 3 _ rfl
  have hqn:n.toNat = q:=by omega
  have hat:tAt s.vars x.n = t:=by rw [HXX.out.2.1]; exact tAt_some (by rw [hqn]; exact ht)
  have hqb:(0:Int)≤(q:Int)∧(q:Int) < (nv:Int):=⟨by omega,by omega⟩
  obtain ⟨g3,hg3⟩:∃ z,z = w2.heap.size:=⟨_,rfl⟩
  obtain ⟨W3,hW3⟩:∃ W,W = w2.alloc (.cells #[.int .i64 tk,.int .i64 tn,.int .i64 tm,.slice At tl ct] 25):=⟨_,rfl⟩
  have hb3:Below w2.heap.size w2 W3:=by rw [hW3]; exact below_new _ _
  have k3:Blk W3 g3 25 #[.int .i64 tk,.int .i64 tn,.int .i64 tm,.slice At tl ct]:=by rw [hW3,hg3]; exact Blk.new _ _ _
  have kx3:=(HKX.out.below HB2.out HKX.out.lt).below hb3 (Nat.lt_of_lt_of_le HKX.out.lt HB2.out.size)
  have HTK:=Lib.hid htk
  have HTL:=Lib.hid htl
  have HAT:=Lib.hid hat
  have HB3:=Lib.hid (bt HBW.out hb3)
  have hrt3:=hrt.keep (Keeps.below (fun b (h:b < w.heap.size)=>Nat.lt_of_lt_of_le h HBW.out.size) hb3)
  have HRT:=Lib.hid hrt3
  have HW3:=Lib.hid hW3
  have HG3:=Lib.hid hg3
  have hnl:¬ (s.vars.length:Int)≤x.n:=by rw [HXX.out.2.1,← HL.out]; omega
  have HNL:=Lib.hid hnl
  have h4:tk = 0∨tk = 1∨tk = 2∨tk = 3:=by omega
  clear hcl htn htm hat hqn ht hql hb hrt hrt3 hnl hb3 hW3 hg3 htr htk htl
  subst hq
  have hd:decide ((nv:Int)≤(q:Int)) = false:=by simp; omega
  have hd2:decide (nv≤q) = false:=by simp; omega
  go_upto_region 5 with fail
  rw [← HW3.out,← HG3.out]
  clear x0 x1 x2 t0 t1 t2 t3
  have x0:=kx3.cell 0; have x1:=kx3.cell 1; have x2:=kx3.cell 2
  have t0:=k3.cell 0; have t3:=k3.cell 3
  simp only [List.getElem?_toArray,List.getElem?_cons_zero,List.getElem?_cons_succ] at x0 x1 x2 t0 t3
  clear kx3 k3
  rcases hc with rfl | rfl | rfl | rfl | rfl | rfl | rfl
  ·-- 6
   rcases h4 with rfl | rfl | rfl | rfl
   ·have HH:Hid (ndR s x = (0,[])):=Lib.hid (by simp [ndR,missing,misused,wants,named,HXX.out.1,HAT.out,← HTK.out,HNL.out,scal])
    go_wp2_with fail
    refine bodyPost_ret (results_tmp2 Tryd.results101 _ _ _) rfl ?_
    exact nd_end0 HH.out HB3.out
   ·have HH:Hid (ndR s x = (0,[])):=Lib.hid (by simp [ndR,missing,misused,wants,named,HXX.out.1,HAT.out,← HTK.out,HNL.out,scal])
    go_wp2_with fail
    refine bodyPost_ret (results_tmp2 Tryd.results101 _ _ _) rfl ?_
    exact nd_end0 HH.out HB3.out
   ·have HH:Hid (ndR s x = (12,[])):=Lib.hid (by simp [ndR,missing,misused,wants,named,HXX.out.1,HAT.out,← HTK.out,HNL.out,scal])
    go_wp2_with fail
    refine bodyPost_ret (results_tmp2 Tryd.results101 _ _ _) rfl ?_
    exact nd_end0 HH.out HB3.out
   ·have HH:Hid (ndR s x = (12,[])):=Lib.hid (by simp [ndR,missing,misused,wants,named,HXX.out.1,HAT.out,← HTK.out,HNL.out,scal])
    go_wp2_with fail
    refine bodyPost_ret (results_tmp2 Tryd.results101 _ _ _) rfl ?_
    exact nd_end0 HH.out HB3.out
  ·-- 7
   rcases h4 with rfl | rfl | rfl | rfl
   ·have HH:Hid (ndR s x = (12,[])):=Lib.hid (by simp [ndR,missing,misused,wants,named,HXX.out.1,HAT.out,← HTK.out,HNL.out,scal])
    go_wp2_with fail
    refine bodyPost_ret (results_tmp2 Tryd.results101 _ _ _) rfl ?_
    exact nd_end0 HH.out HB3.out
   ·have HH:Hid (ndR s x = (12,[])):=Lib.hid (by simp [ndR,missing,misused,wants,named,HXX.out.1,HAT.out,← HTK.out,HNL.out,scal])
    go_wp2_with fail
    refine bodyPost_ret (results_tmp2 Tryd.results101 _ _ _) rfl ?_
    exact nd_end0 HH.out HB3.out
   ·have HH:Hid (ndR s x = (0,[0])):=Lib.hid (by simp [ndR,missing,misused,wants,named,HXX.out.1,HAT.out,← HTK.out,HNL.out,scal])
    go_wp2_with fail
    refine bodyPost_ret (results_tmp2 Tryd.results101 _ _ _) rfl ?_
    exact nd_end1 HH.out HB3.out
   ·have HH:Hid (ndR s x = (12,[])):=Lib.hid (by simp [ndR,missing,misused,wants,named,HXX.out.1,HAT.out,← HTK.out,HNL.out,scal])
    go_wp2_with fail
    refine bodyPost_ret (results_tmp2 Tryd.results101 _ _ _) rfl ?_
    exact nd_end0 HH.out HB3.out
  ·-- 8
   rcases h4 with rfl | rfl | rfl | rfl
   ·have HH:Hid (ndR s x = (12,[])):=Lib.hid (by simp [ndR,missing,misused,wants,named,HXX.out.1,HAT.out,← HTK.out,HNL.out,scal])
    go_wp2_with fail
    refine bodyPost_ret (results_tmp2 Tryd.results101 _ _ _) rfl ?_
    exact nd_end0 HH.out HB3.out
   ·have HH:Hid (ndR s x = (12,[])):=Lib.hid (by simp [ndR,missing,misused,wants,named,HXX.out.1,HAT.out,← HTK.out,HNL.out,scal])
    go_wp2_with fail
    refine bodyPost_ret (results_tmp2 Tryd.results101 _ _ _) rfl ?_
    exact nd_end0 HH.out HB3.out
   ·have HH:Hid (ndR s x = (12,[])):=Lib.hid (by simp [ndR,missing,misused,wants,named,HXX.out.1,HAT.out,← HTK.out,HNL.out,scal])
    go_wp2_with fail
    refine bodyPost_ret (results_tmp2 Tryd.results101 _ _ _) rfl ?_
    exact nd_end0 HH.out HB3.out
   ·by_cases hml:m < (tl:Int)
    ·obtain ⟨mm,hmm⟩:∃ q:Nat,m = (q:Int):=⟨m.toNat,by omega⟩
     subst hmm
     have hdm:decide ((tl:Int)≤(mm:Int)) = false:=by simp; omega
     have hdm2:decide (tl≤mm) = false:=by simp; omega
     have HH:Hid (ndR s x = (0,[])):=Lib.hid (by
      have h9:¬ (t.kids.length:Int)≤(mm:Int):=by rw [← HTL.out]; omega
      simp [ndR,missing,misused,wants,HXX.out.1,HXX.out.2.2,HAT.out,← HTK.out,HNL.out]; omega)
     go_wp2_with fail
     refine bodyPost_ret (results_tmp2 Tryd.results101 _ _ _) rfl ?_
     exact nd_end0 HH.out HB3.out
    ·have hdm:decide ((tl:Int)≤m) = true:=by simp; omega
     have HH:Hid (ndR s x = (5,[])):=Lib.hid (by
      have h9:(t.kids.length:Int)≤m:=by rw [← HTL.out]; omega
      simp [ndR,missing,misused,wants,HXX.out.1,HXX.out.2.2,HAT.out,← HTK.out,HNL.out,h9])
     go_wp2_with fail
     refine bodyPost_ret (results_tmp2 Tryd.results101 _ _ _) rfl ?_
     exact nd_end0 HH.out HB3.out
  ·-- 14
   rcases h4 with rfl | rfl | rfl | rfl
   ·have HH:Hid (ndR s x = (0,[0])):=Lib.hid (by simp [ndR,missing,misused,wants,named,HXX.out.1,HAT.out,← HTK.out,HNL.out,scal])
    go_upto_region 13 with fail
    go_region
    all_goals
     go_wp2_with fail
     refine bodyPost_ret (results_tmp2 Tryd.results101 _ _ _) rfl ?_
     exact nd_end1 HH.out HB3.out.drew
   ·have HH:Hid (ndR s x = (0,[1])):=Lib.hid (by simp [ndR,missing,misused,wants,named,HXX.out.1,HAT.out,← HTK.out,HNL.out,scal])
    go_upto_region 13 with fail
    go_region
    all_goals
     go_wp2_with fail
     refine bodyPost_ret (results_tmp2 Tryd.results101 _ _ _) rfl ?_
     exact nd_end1 HH.out HB3.out.drew
   ·have HH:Hid (ndR s x = (12,[])):=Lib.hid (by simp [ndR,missing,misused,wants,named,HXX.out.1,HAT.out,← HTK.out,HNL.out,scal])
    go_wp2_with fail
    refine bodyPost_ret (results_tmp2 Tryd.results101 _ _ _) rfl ?_
    exact nd_end0 HH.out HB3.out
   ·have HH:Hid (ndR s x = (12,[])):=Lib.hid (by simp [ndR,missing,misused,wants,named,HXX.out.1,HAT.out,← HTK.out,HNL.out,scal])
    go_wp2_with fail
    refine bodyPost_ret (results_tmp2 Tryd.results101 _ _ _) rfl ?_
    exact nd_end0 HH.out HB3.out
  ·-- 15
   rcases h4 with rfl | rfl | rfl | rfl
   ·have HH:Hid (ndR s x = (12,[])):=Lib.hid (by simp [ndR,missing,misused,wants,named,HXX.out.1,HAT.out,← HTK.out,HNL.out,scal])
    go_wp2_with fail
    refine bodyPost_ret (results_tmp2 Tryd.results101 _ _ _) rfl ?_
    exact nd_end0 HH.out HB3.out
   ·have HH:Hid (ndR s x = (12,[])):=Lib.hid (by simp [ndR,missing,misused,wants,named,HXX.out.1,HAT.out,← HTK.out,HNL.out,scal])
    go_wp2_with fail
    refine bodyPost_ret (results_tmp2 Tryd.results101 _ _ _) rfl ?_
    exact nd_end0 HH.out HB3.out
   ·have HH:Hid (ndR s x = (0,[0,0])):=Lib.hid (by simp [ndR,missing,misused,wants,named,HXX.out.1,HAT.out,← HTK.out,HNL.out,scal])
    go_wp2_with fail
    refine bodyPost_ret (results_tmp2 Tryd.results101 _ _ _) rfl ?_
    exact nd_end2 HH.out HB3.out
   ·have HH:Hid (ndR s x = (12,[])):=Lib.hid (by simp [ndR,missing,misused,wants,named,HXX.out.1,HAT.out,← HTK.out,HNL.out,scal])
    go_wp2_with fail
    refine bodyPost_ret (results_tmp2 Tryd.results101 _ _ _) rfl ?_
    exact nd_end0 HH.out HB3.out
  ·-- 16
   rcases h4 with rfl | rfl | rfl | rfl
   ·have HH:Hid (ndR s x = (12,[])):=Lib.hid (by simp [ndR,missing,misused,wants,named,HXX.out.1,HAT.out,← HTK.out,HNL.out,scal])
    go_wp2_with fail
    refine bodyPost_ret (results_tmp2 Tryd.results101 _ _ _) rfl ?_
    exact nd_end0 HH.out HB3.out
   ·have HH:Hid (ndR s x = (12,[])):=Lib.hid (by simp [ndR,missing,misused,wants,named,HXX.out.1,HAT.out,← HTK.out,HNL.out,scal])
    go_wp2_with fail
    refine bodyPost_ret (results_tmp2 Tryd.results101 _ _ _) rfl ?_
    exact nd_end0 HH.out HB3.out
   ·have HH:Hid (ndR s x = (12,[])):=Lib.hid (by simp [ndR,missing,misused,wants,named,HXX.out.1,HAT.out,← HTK.out,HNL.out,scal])
    go_wp2_with fail
    refine bodyPost_ret (results_tmp2 Tryd.results101 _ _ _) rfl ?_
    exact nd_end0 HH.out HB3.out
   ·by_cases hml:m < (tl:Int)
    ·obtain ⟨mm,hmm⟩:∃ q:Nat,m = (q:Int):=⟨m.toNat,by omega⟩
     subst hmm
     have hdm:decide ((tl:Int)≤(mm:Int)) = false:=by simp; omega
     have hdm2:decide (tl≤mm) = false:=by simp; omega
     have hmt:mm < tl:=by omega
     obtain ⟨v,hv⟩:∃ v,t.kids[mm]? = some v:=⟨_,List.getElem?_eq_getElem (by rw [← HTL.out]; exact hmt)⟩
     obtain ⟨b4,o4,A4,c4,hA4,hb4,hcl4,_⟩:=HRT.out.kid hv
     subst hA4
     obtain ⟨vk,hvk⟩:∃ z,z = v.k:=⟨_,rfl⟩
     have v0:W3.cell? ⟨b4,o4 + mm * 4,none⟩ = some (.int .i64 vk):=by rw [hvk]; exact hcl4 0 _ rfl
     have hmb:(0:Int)≤(mm:Int)∧(mm:Int) < (tl:Int):=⟨by omega,by omega⟩
     have HH:Hid (ndR s x = (0,[vk])):=Lib.hid (by
      have h8:tAt t.kids (mm:Int) = v:=tAt_some (by rw [Int.toNat_natCast]; exact hv)
      have h9:¬ (t.kids.length:Int)≤(mm:Int):=by rw [← HTL.out]; omega
      simp [ndR,missing,misused,wants,named,HXX.out.1,HXX.out.2.2,HAT.out,← HTK.out,HNL.out,h8,hvk]; omega)
     clear hcl4 hvk hv hb4
     go_upto_region 35 with fail
     go_region
     all_goals
      go_wp2_with fail
      refine bodyPost_ret (results_tmp2 Tryd.results101 _ _ _) rfl ?_
      exact nd_end1 HH.out HB3.out.drew
    ·have hdm:decide ((tl:Int)≤m) = true:=by simp; omega
     have HH:Hid (ndR s x = (5,[])):=Lib.hid (by
      have h9:(t.kids.length:Int)≤m:=by rw [← HTL.out]; omega
      simp [ndR,missing,misused,wants,HXX.out.1,HXX.out.2.2,HAT.out,← HTK.out,HNL.out,h9])
     go_wp2_with fail
     refine bodyPost_ret (results_tmp2 Tryd.results101 _ _ _) rfl ?_
     exact nd_end0 HH.out HB3.out
  ·-- 21
   rcases h4 with rfl | rfl | rfl | rfl
   ·have HH:Hid (ndR s x = (0,[])):=Lib.hid (by simp [ndR,missing,misused,wants,named,HXX.out.1,HAT.out,← HTK.out,HNL.out,scal])
    go_wp2_with fail
    refine bodyPost_ret (results_tmp2 Tryd.results101 _ _ _) rfl ?_
    exact nd_end0 HH.out HB3.out
   ·have HH:Hid (ndR s x = (12,[])):=Lib.hid (by simp [ndR,missing,misused,wants,named,HXX.out.1,HAT.out,← HTK.out,HNL.out,scal])
    go_wp2_with fail
    refine bodyPost_ret (results_tmp2 Tryd.results101 _ _ _) rfl ?_
    exact nd_end0 HH.out HB3.out
   ·have HH:Hid (ndR s x = (12,[])):=Lib.hid (by simp [ndR,missing,misused,wants,named,HXX.out.1,HAT.out,← HTK.out,HNL.out,scal])
    go_wp2_with fail
    refine bodyPost_ret (results_tmp2 Tryd.results101 _ _ _) rfl ?_
    exact nd_end0 HH.out HB3.out
   ·have HH:Hid (ndR s x = (12,[])):=Lib.hid (by simp [ndR,missing,misused,wants,named,HXX.out.1,HAT.out,← HTK.out,HNL.out,scal])
    go_wp2_with fail
    refine bodyPost_ret (results_tmp2 Tryd.results101 _ _ _) rfl ?_
    exact nd_end0 HH.out HB3.out
 ·have hd:decide ((nv:Int)≤n) = true:=by simp; omega
  have HH:Hid (ndR s x = (5,[])):=Lib.hid (by
   have h9:(s.vars.length:Int)≤x.n:=by rw [HXX.out.2.1,← HL.out]; omega
   have hm5:missing s x = true:=by rcases hc with rfl | rfl | rfl | rfl | rfl | rfl | rfl <;> simp [missing,HXX.out.1,h9]
   unfold ndR; rw [if_pos hm5])
  go_wp2_with fail
  refine bodyPost_ret (results_tmp2 Tryd.results101 _ _ _) rfl ?_
  exact nd_end0 HH.out HBW.out
end Go.Proofs.YtkkenbalpnmfmaaDoor

namespace Go.Proofs.YtkkenbalpnmfmaaDoor
open Go.RowKit WM TR TY

set_option maxRecDepth 100000 in
set_option maxHeartbeats 8000000 in
theorem rneeds_a (p u x : T) (j d : Nat) (A Ax : Option Addr) (c lx cx : Nat) (w : World) (hnd : Nds w (Lt w.heap.size) (d + 2) p.kids A c) (hu : p.kids[j]? = some u) (hu1 : 1 ≤ u.kids.length ∧ u.kids.length ≤ 1000) (hk0 : 4 ≤ x.k ∧ x.k ≤ 25 ∧ x.k ≠ 11 ∧ x.k ≠ 23) (hn0 : x.k ≠ 4 → 0 ≤ x.n) (hm0 : 0 ≤ x.m) (hop : x.k = 9 → x.n ≤ 13) (hvk : ∀ t ∈ (scO p u).vars, 0 ≤ t.k ∧ t.k ≤ 3) :
  Calls Tryd.prog 96 #[.agg #[.int .i64 p.k,.int .i64 p.n,.int .i64 p.m,.slice A p.kids.length c],.int .i64 (j:Int),.agg #[.int .i64 x.k,.int .i64 x.n,.int .i64 x.m,.slice Ax lx cx]] w (NdPost (scO p u) x w):=by
 obtain ⟨s,hs⟩:∃ s,s = scO p u:=⟨_,rfl⟩
 rw [← hs] at hvk ⊢
 obtain ⟨k,hk⟩:∃ z,z = x.k:=⟨_,rfl⟩
 obtain ⟨n,hn⟩:∃ z,z = x.n:=⟨_,rfl⟩
 obtain ⟨m,hm⟩:∃ z,z = x.m:=⟨_,rfl⟩
 obtain ⟨pk,hpk⟩:∃ z,z = p.k:=⟨_,rfl⟩
 obtain ⟨pn,hpn⟩:∃ z,z = p.n:=⟨_,rfl⟩
 obtain ⟨pm,hpm⟩:∃ z,z = p.m:=⟨_,rfl⟩
 obtain ⟨pl,hpl⟩:∃ z,z = p.kids.length:=⟨_,rfl⟩
 obtain ⟨z,hz⟩:∃ z,z = w.heap.size:=⟨_,rfl⟩
 obtain ⟨z2,hz2⟩:∃ z,z = w.heap.size + 1:=⟨_,rfl⟩
 obtain ⟨W1,hW1⟩:∃ W,W = (w.alloc (.cells #[.int .i64 pk,.int .i64 pn,.int .i64 pm,.slice A pl c] 25)).alloc (.cells #[.int .i64 k,.int .i64 n,.int .i64 m,.slice Ax lx cx] 25):=⟨_,rfl⟩
 have hb1:Below w.heap.size w W1:=by rw [hW1]; exact ba (below_new _ _) _
 have kp:Blk W1 z 25 #[.int .i64 pk,.int .i64 pn,.int .i64 pm,.slice A pl c]:=by rw [hW1,hz]; exact (Blk.new _ _ _).alloc _
 have kx:Blk W1 z2 25 #[.int .i64 k,.int .i64 n,.int .i64 m,.slice Ax lx cx]:=by rw [hW1]; exact Blk.new_at _ _ (by rw [size_alloc,hz2]) rfl
 have HVAR:Hid (isVk k→Calls Tryd.prog 101 #[.agg #[.int .i64 pk,.int .i64 pn,.int .i64 pm,.slice A pl c],.int .i64 (j:Int),.agg #[.int .i64 k,.int .i64 n,.int .i64 m,.slice Ax lx cx]] W1 (NdPost s x W1)):=Lib.hid fun hv=>by
  rw [hpk,hpn,hpm,hpl,hk,hn,hm,hs]
  rw [hs] at hvk
  refine rvar_is p u x j d A Ax c lx cx W1 (hnd.next hb1) hu hu1 (by rw [← hk]; exact hv) (hn0 (by unfold isVk at hv; omega)) hm0 hvk
 rw [← hk,← hn,← hm,← hpk,← hpn,← hpm,← hpl]
 have p0:=kp.cell 0; have p1:=kp.cell 1; have p2:=kp.cell 2; have p3:=kp.cell 3
 have x0:=kx.cell 0; have x1:=kx.cell 1; have x2:=kx.cell 2; have x3:=kx.cell 3
 simp only [List.getElem?_toArray,List.getElem?_cons_zero,List.getElem?_cons_succ] at p0 p1 p2 p3 x0 x1 x2 x3
 have HB1:=Lib.hid hb1
 have HW1:=Lib.hid hW1
 have HZ:=Lib.hid (And.intro hz hz2)
 have hch:s.ch = pn:=by rw [hs,hpn]; rfl
 have HCH:=Lib.hid hch
 have hxk:x.k = k:=hk.symm
 have hxn:x.n = n:=hn.symm
 have HXX:=Lib.hid (And.intro hxk hxn)
 have hc:isVk k∨k = 12∨k = 22∨k = 9∨k = 10∨k = 17∨k = 18∨k = 19∨k = 20∨k = 24∨k = 4∨k = 5∨k = 13∨k = 25:=by unfold isVk; omega
 have hop1:k = 9→n≤13:=by intro h; have:=hop (by omega); omega
 clear hs hk hn hm hpk hpn hpm hpl hz hz2 hW1 hb1 kp kx hnd hu hu1 hk0 hn0 hm0 hop hvk hch hxk hxn
 rcases hc with hv | rfl | rfl | rfl | rfl | rfl | rfl | rfl | rfl | rfl | rfl | rfl | rfl | rfl
 ·have HVC:=Lib.hid (HVAR.out hv)
  obtain ⟨er,her⟩:∃ z,z = (ndR s x).1:=⟨_,rfl⟩
  obtain ⟨lr,hlr⟩:∃ z,z = (ndR s x).2.length:=⟨_,rfl⟩
  have HER:=Lib.hid (And.intro her hlr)
  have hv2:k = 6∨k = 7∨k = 8∨k = 14∨k = 15∨k = 16∨k = 21:=by unfold isVk at hv; omega
  clear HVAR hv her hlr hop1
  rcases hv2 with rfl | rfl | rfl | rfl | rfl | rfl | rfl
  all_goals
   go_enter Tryd.func96,Tryd.ntmps96
   go_upto_region 1 with fail
   rw [← HW1.out]
   rw [← HZ.out.2,← HZ.out.1]
   go_wp2_with (go_at_call 101; refine HVC.out.mono ?_; rintro e w2 ⟨A5,c5,rfl,hr5,hb5⟩; rw [← HER.out.1,← HER.out.2]; have HR5:=Lib.hid hr5; have HB5:=Lib.hid hb5; clear hr5 hb5)
   refine bodyPost_ret (results_tmp2 Tryd.results96 _ _ _) rfl ?_
   refine ⟨A5,c5,?_,HR5.out,bt HB1.out HB5.out⟩
   rw [← HER.out.1,← HER.out.2]
   rfl
 ·by_cases hn:n < pn
  ·have hd:decide (pn≤n) = false:=by simp; omega
   have h9:¬ pn≤n:=by omega
   have HH:Hid (ndR s x = (0,[])):=Lib.hid (by simp [ndR,missing,misused,wants,HXX.out.1,HXX.out.2,HCH.out,h9])
   clear h9 HVAR hop1
   go_enter Tryd.func96,Tryd.ntmps96
   go_upto_region 1 with fail
   rw [← HW1.out]
   rw [← HZ.out.2,← HZ.out.1]
   go_wp2_with fail
   refine bodyPost_ret (results_tmp2 Tryd.results96 _ _ _) rfl ?_
   exact nd_end0 HH.out HB1.out
  ·have hd:decide (pn≤n) = true:=by simp; omega
   have h9:pn≤n:=by omega
   have HH:Hid (ndR s x = (5,[])):=Lib.hid (by simp [ndR,missing,misused,wants,HXX.out.1,HXX.out.2,HCH.out,h9])
   clear h9 HVAR hop1
   go_enter Tryd.func96,Tryd.ntmps96
   go_upto_region 1 with fail
   rw [← HW1.out]
   rw [← HZ.out.2,← HZ.out.1]
   go_wp2_with fail
   refine bodyPost_ret (results_tmp2 Tryd.results96 _ _ _) rfl ?_
   exact nd_end0 HH.out HB1.out
 ·by_cases hn:n < pn
  ·have hd:decide (pn≤n) = false:=by simp; omega
   have h9:¬ pn≤n:=by omega
   have HH:Hid (ndR s x = (0,[0])):=Lib.hid (by simp [ndR,missing,misused,wants,HXX.out.1,HXX.out.2,HCH.out,h9])
   clear h9 HVAR hop1
   go_enter Tryd.func96,Tryd.ntmps96
   go_upto_region 1 with fail
   rw [← HW1.out]
   rw [← HZ.out.2,← HZ.out.1]
   go_wp2_with fail
   refine bodyPost_ret (results_tmp2 Tryd.results96 _ _ _) rfl ?_
   exact nd_end1 HH.out HB1.out
  ·have hd:decide (pn≤n) = true:=by simp; omega
   have h9:pn≤n:=by omega
   have HH:Hid (ndR s x = (5,[])):=Lib.hid (by simp [ndR,missing,misused,wants,HXX.out.1,HXX.out.2,HCH.out,h9])
   clear h9 HVAR hop1
   go_enter Tryd.func96,Tryd.ntmps96
   go_upto_region 1 with fail
   rw [← HW1.out]
   rw [← HZ.out.2,← HZ.out.1]
   go_wp2_with fail
   refine bodyPost_ret (results_tmp2 Tryd.results96 _ _ _) rfl ?_
   exact nd_end0 HH.out HB1.out
 ·by_cases h11:n≤11
  ·have e1:(n == 12) = false:=by simp; omega
   have e2:(n == 13) = false:=by simp; omega
   have HH:Hid (ndR s x = (0,[0,0])):=Lib.hid (by simp [ndR,missing,misused,wants,HXX.out.1,HXX.out.2,HCH.out,h11])
   clear h11 HVAR hop1
   go_enter Tryd.func96,Tryd.ntmps96
   go_upto_region 1 with fail
   rw [← HW1.out]
   rw [← HZ.out.2,← HZ.out.1]
   go_wp2_with fail
   refine bodyPost_ret (results_tmp2 Tryd.results96 _ _ _) rfl ?_
   exact nd_end2 HH.out HB1.out
  ·have h12:n = 12∨n = 13:=by have:=hop1 rfl; omega
   have HH:Hid (ndR s x = (0,[1,1])):=Lib.hid (by simp [ndR,missing,misused,wants,HXX.out.1,HXX.out.2,HCH.out,h11])
   clear HVAR hop1 h11
   rcases h12 with rfl | rfl
   all_goals
    go_enter Tryd.func96,Tryd.ntmps96
    go_upto_region 1 with fail
    rw [← HW1.out]
    rw [← HZ.out.2,← HZ.out.1]
    go_wp2_with fail
    refine bodyPost_ret (results_tmp2 Tryd.results96 _ _ _) rfl ?_
    exact nd_end2 HH.out HB1.out
 ·have HH:Hid (ndR s x = (0,[1])):=Lib.hid (by simp [ndR,missing,misused,wants,HXX.out.1,HXX.out.2,HCH.out])
  clear HVAR hop1
  go_enter Tryd.func96,Tryd.ntmps96
  go_upto_region 1 with fail
  rw [← HW1.out]
  rw [← HZ.out.2,← HZ.out.1]
  go_wp2_with fail
  refine bodyPost_ret (results_tmp2 Tryd.results96 _ _ _) rfl ?_
  exact nd_end1 HH.out HB1.out
 ·have HH:Hid (ndR s x = (0,[1])):=Lib.hid (by simp [ndR,missing,misused,wants,HXX.out.1,HXX.out.2,HCH.out])
  clear HVAR hop1
  go_enter Tryd.func96,Tryd.ntmps96
  go_upto_region 1 with fail
  rw [← HW1.out]
  rw [← HZ.out.2,← HZ.out.1]
  go_wp2_with fail
  refine bodyPost_ret (results_tmp2 Tryd.results96 _ _ _) rfl ?_
  exact nd_end1 HH.out HB1.out
 ·have HH:Hid (ndR s x = (0,[1])):=Lib.hid (by simp [ndR,missing,misused,wants,HXX.out.1,HXX.out.2,HCH.out])
  clear HVAR hop1
  go_enter Tryd.func96,Tryd.ntmps96
  go_upto_region 1 with fail
  rw [← HW1.out]
  rw [← HZ.out.2,← HZ.out.1]
  go_wp2_with fail
  refine bodyPost_ret (results_tmp2 Tryd.results96 _ _ _) rfl ?_
  exact nd_end1 HH.out HB1.out
 ·have HH:Hid (ndR s x = (0,[0])):=Lib.hid (by simp [ndR,missing,misused,wants,HXX.out.1,HXX.out.2,HCH.out])
  clear HVAR hop1
  go_enter Tryd.func96,Tryd.ntmps96
  go_upto_region 1 with fail
  rw [← HW1.out]
  rw [← HZ.out.2,← HZ.out.1]
  go_wp2_with fail
  refine bodyPost_ret (results_tmp2 Tryd.results96 _ _ _) rfl ?_
  exact nd_end1 HH.out HB1.out
 ·have HH:Hid (ndR s x = (0,[0])):=Lib.hid (by simp [ndR,missing,misused,wants,HXX.out.1,HXX.out.2,HCH.out])
  clear HVAR hop1
  go_enter Tryd.func96,Tryd.ntmps96
  go_upto_region 1 with fail
  rw [← HW1.out]
  rw [← HZ.out.2,← HZ.out.1]
  go_wp2_with fail
  refine bodyPost_ret (results_tmp2 Tryd.results96 _ _ _) rfl ?_
  exact nd_end1 HH.out HB1.out
 ·have HH:Hid (ndR s x = (0,[0])):=Lib.hid (by simp [ndR,missing,misused,wants,HXX.out.1,HXX.out.2,HCH.out])
  clear HVAR hop1
  go_enter Tryd.func96,Tryd.ntmps96
  go_upto_region 1 with fail
  rw [← HW1.out]
  rw [← HZ.out.2,← HZ.out.1]
  go_wp2_with fail
  refine bodyPost_ret (results_tmp2 Tryd.results96 _ _ _) rfl ?_
  exact nd_end1 HH.out HB1.out
 ·have HH:Hid (ndR s x = (0,[])):=Lib.hid (by simp [ndR,missing,misused,wants,HXX.out.1,HXX.out.2,HCH.out])
  clear HVAR hop1
  go_enter Tryd.func96,Tryd.ntmps96
  go_upto_region 1 with fail
  rw [← HW1.out]
  rw [← HZ.out.2,← HZ.out.1]
  go_wp2_with fail
  refine bodyPost_ret (results_tmp2 Tryd.results96 _ _ _) rfl ?_
  exact nd_end0 HH.out HB1.out
 ·have HH:Hid (ndR s x = (0,[])):=Lib.hid (by simp [ndR,missing,misused,wants,HXX.out.1,HXX.out.2,HCH.out])
  clear HVAR hop1
  go_enter Tryd.func96,Tryd.ntmps96
  go_upto_region 1 with fail
  rw [← HW1.out]
  rw [← HZ.out.2,← HZ.out.1]
  go_wp2_with fail
  refine bodyPost_ret (results_tmp2 Tryd.results96 _ _ _) rfl ?_
  exact nd_end0 HH.out HB1.out
 ·have HH:Hid (ndR s x = (0,[])):=Lib.hid (by simp [ndR,missing,misused,wants,HXX.out.1,HXX.out.2,HCH.out])
  clear HVAR hop1
  go_enter Tryd.func96,Tryd.ntmps96
  go_upto_region 1 with fail
  rw [← HW1.out]
  rw [← HZ.out.2,← HZ.out.1]
  go_wp2_with fail
  refine bodyPost_ret (results_tmp2 Tryd.results96 _ _ _) rfl ?_
  exact nd_end0 HH.out HB1.out
 ·have HH:Hid (ndR s x = (0,[])):=Lib.hid (by simp [ndR,missing,misused,wants,HXX.out.1,HXX.out.2,HCH.out])
  clear HVAR hop1
  go_enter Tryd.func96,Tryd.ntmps96
  go_upto_region 1 with fail
  rw [← HW1.out]
  rw [← HZ.out.2,← HZ.out.1]
  go_wp2_with fail
  refine bodyPost_ret (results_tmp2 Tryd.results96 _ _ _) rfl ?_
  exact nd_end0 HH.out HB1.out
end Go.Proofs.YtkkenbalpnmfmaaDoor
