/- Texts joined. -/
import Derived.Test.YtkkenbalpnmfmaaDoorH38
import Derived.Test.YtkkenbalpnmfmaaDoorH36
import Derived.Test.YtkkenbalpnmfmaaDoorH20
import Derived.Test.YtkkenbalpnmfmaaDoorH37
set_option linter.unusedVariables false
namespace Go.Proofs.YtkkenbalpnmfmaaDoor
open Go.RowKit WM TR TY

noncomputable def ofK (p:T) (f:Int) (x:T):Int × Int :=
 if isProg p = false then (0,2) else if isProg (wrapN 4 x) = false then (0,2)
 else if f < 0∨(p.kids.length:Int)≤f then (0,5)
 else if (firstW (scO p (tAt p.kids f)) x).2≠0 then (0,(firstW (scO p (tAt p.kids f)) x).2) else (typeOf (scO p (tAt p.kids f)) x,0)
theorem put4_of {w W X : World} {g : Nat} {v0 v1 v2 v3 : Value} (hk : Blk W g 25 #[.int .i64 0, .int .i64 0, .int .i64 0, .slice none 0 0]) (hb : Below w.heap.size w W) (hg : w.heap.size ≤ g) (hX : X = (((W.setCell ⟨g, 0, none⟩ v0).setCell ⟨g, 1, none⟩ v1).setCell ⟨g, 2, none⟩ v2).setCell ⟨g, 3, none⟩ v3) :
  (X.cell? ⟨g,0,none⟩ = some v0∧X.cell? ⟨g,1,none⟩ = some v1∧X.cell? ⟨g,2,none⟩ = some v2∧X.cell? ⟨g,3,none⟩ = some v3)∧Below w.heap.size w X:=by
 have kX:Blk X g 25 #[v0,v1,v2,v3]:=by
  rw [hX]
  have h:=(((hk.set_ 0 v0).set_ 1 v1).set_ 2 v2).set_ 3 v3
  simpa using h
 refine ⟨⟨kX.cell 0,kX.cell 1,kX.cell 2,kX.cell 3⟩,?_⟩
 rw [hX]
 exact (((hb.setCell (by show w.heap.size≤g; exact hg) _).setCell (by show w.heap.size≤g; exact hg) _).setCell (by show w.heap.size≤g; exact hg) _).setCell (by show w.heap.size≤g; exact hg) _
theorem tAt_j {l:List T} {j:Nat} {u:T} (h:l[j]? = some u):tAt l (j:Int) = u:=tAt_get rfl h
theorem expr_fit {x:T} (h:isProg (wrapN 4 x) = true):Fit x:=by
 have hp:IsProg (wrapN 4 x):=by unfold isProg at h; simpa using h
 have hf:=((prog_iff _).1 hp).2.2.2
 have h3:Fit (wrapN 3 x):=hf.kids _ (by simp [wrapN])
 have h2:Fit (wrapN 2 x):=h3.kids _ (by simp [wrapN])
 have h1:Fit (wrapN 1 x):=h2.kids _ (by simp [wrapN])
 exact h1.kids _ (by simp [wrapN])

set_option maxRecDepth 100000 in
set_option maxHeartbeats 16000000 in
theorem of_is (d : Nat) (p x : T) (f : Int) (A Ae : Option Addr) (c ce : Nat) (w : World) (hr : Rep w (Lt w.heap.size) (d + 1) p (nd p A c)) (hx : Rep w (Lt w.heap.size) (d + 1) x (nd x Ae ce)) (hD : d < 1000) (hsz : size p ≤ 1000000) (hsx : size x ≤ 100000) (hT : ST w) (hg : 0 < w.heap.size) :
  Calls Tryd.prog 29 #[.agg #[.int .i64 p.k,.int .i64 p.n,.int .i64 p.m,.slice A p.kids.length c],.int .i64 f,.agg #[.int .i64 x.k,.int .i64 x.n,.int .i64 x.m,.slice Ae x.kids.length ce]] w fun e w'=>e = .returned (.tuple #[.agg #[.int .i64 (ofK p f x).1,.int .i64 0,.int .i64 0,.slice none 0 0],.int .i64 (ofK p f x).2])∧Below w.heap.size w w':=by
 obtain ⟨z,hz⟩:∃ z,z = w.heap.size:=⟨_,rfl⟩
 obtain ⟨g1,hg1⟩:∃ z,z = w.heap.size + 1:=⟨_,rfl⟩
 obtain ⟨g2,hg2⟩:∃ z,z = w.heap.size + 1 + 1:=⟨_,rfl⟩
 obtain ⟨nk,hnk⟩:∃ z,z = p.kids.length:=⟨_,rfl⟩
 obtain ⟨k,hk⟩:∃ z,z = p.k:=⟨_,rfl⟩
 obtain ⟨n,hn⟩:∃ z,z = p.n:=⟨_,rfl⟩
 obtain ⟨m,hm⟩:∃ z,z = p.m:=⟨_,rfl⟩
 obtain ⟨ne,hne⟩:∃ z,z = x.kids.length:=⟨_,rfl⟩
 obtain ⟨ek,hek⟩:∃ z,z = x.k:=⟨_,rfl⟩
 obtain ⟨en,hen⟩:∃ z,z = x.n:=⟨_,rfl⟩
 obtain ⟨em,hem⟩:∃ z,z = x.m:=⟨_,rfl⟩
 obtain ⟨W1,hW1⟩:∃ W,W = ((w.alloc (.cells #[.int .i64 k,.int .i64 n,.int .i64 m,.slice A nk c] 25)).alloc (.cells #[.int .i64 ek,.int .i64 en,.int .i64 em,.slice Ae ne ce] 25)).alloc (.cells #[.int .i64 0,.int .i64 0,.int .i64 0,.slice none 0 0] 25):=⟨_,rfl⟩
 have hb1:Below w.heap.size w W1:=by rw [hW1]; exact ba (ba (below_new _ _) _) _
 have k0:Blk W1 z 25 #[.int .i64 k,.int .i64 n,.int .i64 m,.slice A nk c]:=by rw [hW1,hz]; exact ((Blk.new _ _ _).alloc _).alloc _
 have k1:Blk W1 g1 25 #[.int .i64 ek,.int .i64 en,.int .i64 em,.slice Ae ne ce]:=by rw [hW1]; exact (Blk.new_at _ _ (by rw [size_alloc,hg1]) rfl).alloc _
 have k2:Blk W1 g2 25 #[.int .i64 0,.int .i64 0,.int .i64 0,.slice none 0 0]:=by rw [hW1]; exact Blk.new_at _ _ (by rw [size_alloc,size_alloc,hg2]) rfl
 have HKC:Hid (∀ W,Below W1.heap.size W1 W→(W.cell? ⟨z,0,none⟩ = some (.int .i64 k)∧W.cell? ⟨z,1,none⟩ = some (.int .i64 n)∧W.cell? ⟨z,2,none⟩ = some (.int .i64 m)∧W.cell? ⟨z,3,none⟩ = some (.slice A nk c))∧(W.cell? ⟨g1,0,none⟩ = some (.int .i64 ek)∧W.cell? ⟨g1,1,none⟩ = some (.int .i64 en)∧W.cell? ⟨g1,2,none⟩ = some (.int .i64 em)∧W.cell? ⟨g1,3,none⟩ = some (.slice Ae ne ce))∧(W.cell? ⟨g2,0,none⟩ = some (.int .i64 0)∧W.cell? ⟨g2,1,none⟩ = some (.int .i64 0)∧W.cell? ⟨g2,2,none⟩ = some (.int .i64 0)∧W.cell? ⟨g2,3,none⟩ = some (.slice none 0 0))∧(W.frozen? ⟨g2,0,none⟩ = false∧W.frozen? ⟨g2,1,none⟩ = false∧W.frozen? ⟨g2,2,none⟩ = false∧W.frozen? ⟨g2,3,none⟩ = false)):=Lib.hid fun W hb=>by
  have e0:=k0.below hb k0.lt
  have e1:=k1.below hb k1.lt
  have e2:=k2.below hb k2.lt
  exact ⟨⟨e0.cell 0,e0.cell 1,e0.cell 2,e0.cell 3⟩,⟨e1.cell 0,e1.cell 1,e1.cell 2,e1.cell 3⟩,⟨e2.cell 0,e2.cell 1,e2.cell 2,e2.cell 3⟩,e2.frozen 0,e2.frozen 1,e2.frozen 2,e2.frozen 3⟩
 obtain ⟨⟨y0,y1,y2,y3⟩,⟨x0,x1,x2,x3⟩,⟨u0,u1,u2,u3⟩,f0,f1,f2,f3⟩:=HKC.out W1 (Below.refl _ _)
 obtain ⟨vp,hvp⟩:∃ v,v = isProg p:=⟨_,rfl⟩
 obtain ⟨ve,hve⟩:∃ v,v = isProg (wrapN 4 x):=⟨_,rfl⟩
 have HVP:Hid (∀ W,Below W1.heap.size W1 W→Calls Tryd.prog 18 #[.agg #[.int .i64 k,.int .i64 n,.int .i64 m,.slice A nk c]] W fun e w'=>e = .returned (.bool vp)∧Below W.heap.size W w'):=Lib.hid fun W hb=>by
  have hbw:=bt hb1 hb
  have h:=tvalid_is (d + 1) p _ A c W (rep_next hr hbw) (In.lt _) hsz (hT.below hbw hg) (Nat.lt_of_lt_of_le hg hbw.size)
  rw [← hvp,← hnk,← hk,← hn,← hm] at h
  exact h
 have HVE:Hid (∀ W,Below W1.heap.size W1 W→Calls Tryd.prog 62 #[.agg #[.int .i64 ek,.int .i64 en,.int .i64 em,.slice Ae ne ce]] W fun e w'=>e = .returned (.bool ve)∧Below W.heap.size W w'):=Lib.hid fun W hb=>by
  have hbw:=bt hb1 hb
  have h:=isExpr_is (d + 1) x Ae ce W (rep_next hx hbw) hsx (hT.below hbw hg) (Nat.lt_of_lt_of_le hg hbw.size)
  rw [← hve,← hne,← hek,← hen,← hem] at h
  exact h
 obtain ⟨rk,hrk⟩:∃ z,z = (ofK p f x).1:=⟨_,rfl⟩
 obtain ⟨re,hre⟩:∃ z,z = (ofK p f x).2:=⟨_,rfl⟩
 have HO:Hid ((rk,re) = if vp = false then (0,2) else if ve = false then (0,2) else if f < 0∨(nk:Int)≤f then (0,5) else if (firstW (scO p (tAt p.kids f)) x).2≠0 then (0,(firstW (scO p (tAt p.kids f)) x).2) else (typeOf (scO p (tAt p.kids f)) x,0)):=Lib.hid (by rw [hrk,hre,hvp,hve,hnk]; rfl)
 have HW1:=Lib.hid hW1
 have HZ:=Lib.hid hz
 have HG1:=Lib.hid hg1
 have HG2:=Lib.hid hg2
 have HB1:=Lib.hid hb1
 have HK2:=Lib.hid k2
 have HRP:=Lib.hid (rep_next hr hb1)
 have HRX:=Lib.hid (rep_next hx hb1)
 have HNK:=Lib.hid hnk
 have HK:=Lib.hid hk
 have HN:=Lib.hid hn
 have HM:=Lib.hid hm
 have HNE:=Lib.hid hne
 have HEK:=Lib.hid hek
 have HEN:=Lib.hid hen
 have HEM:=Lib.hid hem
 have HV:=Lib.hid hvp
 have HE:=Lib.hid hve
 have HD:=Lib.hid hD
 rw [← hnk,← hk,← hn,← hm,← hne,← hek,← hen,← hem,← hrk,← hre]
 clear hz hg1 hg2 hnk hk hn hm hne hek hen hem hW1 hb1 k0 k1 k2 hvp hve hrk hre hr hx hsz hsx hT hg hD
 cases vp
 case false =>
  have HO2:Hid (rk = 0∧re = 2):=Lib.hid (by have h:=HO.out; rw [if_pos rfl] at h; injection h with h1 h2; exact ⟨h1,h2⟩)
  go_enter Tryd.func29,Tryd.ntmps29
  go_upto_region 1 with fail
  rw [← HW1.out,← HG2.out,← HG1.out]
  try rw [← HZ.out]
  go_wp2_with (go_at_call 18; refine (HVP.out _ (Below.refl _ _)).mono ?_; rintro e w2 ⟨rfl,hb2⟩; have HB:=Lib.hid hb2; clear hb2 y0 y1 y2 y3 x0 x1 x2 x3 u0 u1 u2 u3 f0 f1 f2 f3; obtain ⟨⟨y0,y1,y2,y3⟩,⟨x0,x1,x2,x3⟩,⟨u0,u1,u2,u3⟩,f0,f1,f2,f3⟩:=HKC.out _ HB.out)
  obtain ⟨X,hX⟩:∃ X,X = (((w2.setCell ⟨g2,0,none⟩ (.int .i64 0)).setCell ⟨g2,1,none⟩ (.int .i64 0)).setCell ⟨g2,2,none⟩ (.int .i64 0)).setCell ⟨g2,3,none⟩ (.slice none 0 0):=⟨_,rfl⟩
  rw [← hX]
  obtain ⟨⟨r0,r1,r2,r3⟩,hbX⟩:=put4_of (HK2.out.below HB.out HK2.out.lt) (bt HB1.out HB.out) (by have:=HG2.out; omega) hX
  refine bodyPost_ret (v:=.tuple #[.agg #[.int .i64 0,.int .i64 0,.int .i64 0,.slice none 0 0],.int .i64 2]) (by simp [results,Tryd.results29,go_sem,r0,r1,r2,r3]) rfl ⟨?_,hbX⟩
  rw [HO2.out.1,HO2.out.2]
 cases ve
 case false =>
  have HO2:Hid (rk = 0∧re = 2):=Lib.hid (by have h:=HO.out; rw [if_neg (by simp),if_pos rfl] at h; injection h with h1 h2; exact ⟨h1,h2⟩)
  go_enter Tryd.func29,Tryd.ntmps29
  go_upto_region 1 with fail
  rw [← HW1.out,← HG2.out,← HG1.out]
  try rw [← HZ.out]
  go_wp2_with (first
   | (go_at_call 18; refine (HVP.out _ (Below.refl _ _)).mono ?_; rintro e w2 ⟨rfl,hb2⟩; have HB:=Lib.hid hb2; clear hb2 y0 y1 y2 y3 x0 x1 x2 x3 u0 u1 u2 u3 f0 f1 f2 f3; obtain ⟨⟨y0,y1,y2,y3⟩,⟨x0,x1,x2,x3⟩,⟨u0,u1,u2,u3⟩,f0,f1,f2,f3⟩:=HKC.out _ HB.out)
   | (go_at_call 62; refine (HVE.out _ HB.out).mono ?_; rintro e w3 ⟨rfl,hb3⟩; replace HB:=Lib.hid (bt HB.out hb3); clear hb3 y0 y1 y2 y3 x0 x1 x2 x3 u0 u1 u2 u3 f0 f1 f2 f3; obtain ⟨⟨y0,y1,y2,y3⟩,⟨x0,x1,x2,x3⟩,⟨u0,u1,u2,u3⟩,f0,f1,f2,f3⟩:=HKC.out _ HB.out))
  obtain ⟨X,hX⟩:∃ X,X = (((w3.setCell ⟨g2,0,none⟩ (.int .i64 0)).setCell ⟨g2,1,none⟩ (.int .i64 0)).setCell ⟨g2,2,none⟩ (.int .i64 0)).setCell ⟨g2,3,none⟩ (.slice none 0 0):=⟨_,rfl⟩
  rw [← hX]
  obtain ⟨⟨r0,r1,r2,r3⟩,hbX⟩:=put4_of (HK2.out.below HB.out HK2.out.lt) (bt HB1.out HB.out) (by have:=HG2.out; omega) hX
  refine bodyPost_ret (v:=.tuple #[.agg #[.int .i64 0,.int .i64 0,.int .i64 0,.slice none 0 0],.int .i64 2]) (by simp [results,Tryd.results29,go_sem,r0,r1,r2,r3]) rfl ⟨?_,hbX⟩
  rw [HO2.out.1,HO2.out.2]
 have HO1:Hid ((rk,re) = if f < 0∨(nk:Int)≤f then (0,5) else if (firstW (scO p (tAt p.kids f)) x).2≠0 then (0,(firstW (scO p (tAt p.kids f)) x).2) else (typeOf (scO p (tAt p.kids f)) x,0)):=Lib.hid (by have h:=HO.out; rw [if_neg (by simp),if_neg (by simp)] at h; exact h)
 by_cases hf0:f < 0
 ·have hd0:decide (f < 0) = true:=decide_eq_true hf0
  have HO2:Hid (rk = 0∧re = 5):=Lib.hid (by have h:=HO.out; clear h; have h:=HO1.out; rw [if_pos (.inl hf0)] at h; injection h with h1 h2; exact ⟨h1,h2⟩)
  go_enter Tryd.func29,Tryd.ntmps29
  go_upto_region 1 with fail
  rw [← HW1.out,← HG2.out,← HG1.out]
  try rw [← HZ.out]
  go_wp2_with (first
   | (go_at_call 18; refine (HVP.out _ (Below.refl _ _)).mono ?_; rintro e w2 ⟨rfl,hb2⟩; have HB:=Lib.hid hb2; clear hb2 y0 y1 y2 y3 x0 x1 x2 x3 u0 u1 u2 u3 f0 f1 f2 f3; obtain ⟨⟨y0,y1,y2,y3⟩,⟨x0,x1,x2,x3⟩,⟨u0,u1,u2,u3⟩,f0,f1,f2,f3⟩:=HKC.out _ HB.out)
   | (go_at_call 62; refine (HVE.out _ HB.out).mono ?_; rintro e w3 ⟨rfl,hb3⟩; replace HB:=Lib.hid (bt HB.out hb3); clear hb3 y0 y1 y2 y3 x0 x1 x2 x3 u0 u1 u2 u3 f0 f1 f2 f3; obtain ⟨⟨y0,y1,y2,y3⟩,⟨x0,x1,x2,x3⟩,⟨u0,u1,u2,u3⟩,f0,f1,f2,f3⟩:=HKC.out _ HB.out))
  obtain ⟨X,hX⟩:∃ X,X = (((w3.setCell ⟨g2,0,none⟩ (.int .i64 0)).setCell ⟨g2,1,none⟩ (.int .i64 0)).setCell ⟨g2,2,none⟩ (.int .i64 0)).setCell ⟨g2,3,none⟩ (.slice none 0 0):=⟨_,rfl⟩
  rw [← hX]
  obtain ⟨⟨r0,r1,r2,r3⟩,hbX⟩:=put4_of (HK2.out.below HB.out HK2.out.lt) (bt HB1.out HB.out) (by have:=HG2.out; omega) hX
  refine bodyPost_ret (v:=.tuple #[.agg #[.int .i64 0,.int .i64 0,.int .i64 0,.slice none 0 0],.int .i64 5]) (by simp [results,Tryd.results29,go_sem,r0,r1,r2,r3]) rfl ⟨?_,hbX⟩
  rw [HO2.out.1,HO2.out.2]
 have hd0:decide (f < 0) = false:=decide_eq_false hf0
 by_cases hf1:(nk:Int)≤f
 ·have hd1:decide ((nk:Int)≤f) = true:=decide_eq_true hf1
  have HO2:Hid (rk = 0∧re = 5):=Lib.hid (by have h:=HO.out; clear h; have h:=HO1.out; rw [if_pos (.inr hf1)] at h; injection h with h1 h2; exact ⟨h1,h2⟩)
  go_enter Tryd.func29,Tryd.ntmps29
  go_upto_region 1 with fail
  rw [← HW1.out,← HG2.out,← HG1.out]
  try rw [← HZ.out]
  go_wp2_with (first
   | (go_at_call 18; refine (HVP.out _ (Below.refl _ _)).mono ?_; rintro e w2 ⟨rfl,hb2⟩; have HB:=Lib.hid hb2; clear hb2 y0 y1 y2 y3 x0 x1 x2 x3 u0 u1 u2 u3 f0 f1 f2 f3; obtain ⟨⟨y0,y1,y2,y3⟩,⟨x0,x1,x2,x3⟩,⟨u0,u1,u2,u3⟩,f0,f1,f2,f3⟩:=HKC.out _ HB.out)
   | (go_at_call 62; refine (HVE.out _ HB.out).mono ?_; rintro e w3 ⟨rfl,hb3⟩; replace HB:=Lib.hid (bt HB.out hb3); clear hb3 y0 y1 y2 y3 x0 x1 x2 x3 u0 u1 u2 u3 f0 f1 f2 f3; obtain ⟨⟨y0,y1,y2,y3⟩,⟨x0,x1,x2,x3⟩,⟨u0,u1,u2,u3⟩,f0,f1,f2,f3⟩:=HKC.out _ HB.out))
  obtain ⟨X,hX⟩:∃ X,X = (((w3.setCell ⟨g2,0,none⟩ (.int .i64 0)).setCell ⟨g2,1,none⟩ (.int .i64 0)).setCell ⟨g2,2,none⟩ (.int .i64 0)).setCell ⟨g2,3,none⟩ (.slice none 0 0):=⟨_,rfl⟩
  rw [← hX]
  obtain ⟨⟨r0,r1,r2,r3⟩,hbX⟩:=put4_of (HK2.out.below HB.out HK2.out.lt) (bt HB1.out HB.out) (by have:=HG2.out; omega) hX
  refine bodyPost_ret (v:=.tuple #[.agg #[.int .i64 0,.int .i64 0,.int .i64 0,.slice none 0 0],.int .i64 5]) (by simp [results,Tryd.results29,go_sem,r0,r1,r2,r3]) rfl ⟨?_,hbX⟩
  rw [HO2.out.1,HO2.out.2]
 have hd1:decide ((nk:Int)≤f) = false:=decide_eq_false hf1
 obtain ⟨j,rfl⟩:=Int.eq_ofNat_of_zero_le (show 0≤f by omega)
 obtain ⟨u,hu⟩:∃ u,p.kids[j]? = some u:=⟨_,List.getElem?_eq_getElem (by rw [← HNK.out]; omega)⟩
 obtain ⟨s,hs⟩:∃ s,s = scO p u:=⟨_,rfl⟩
 obtain ⟨q,hq⟩:∃ q,q = firstW s x:=⟨_,rfl⟩
 have HO3:Hid ((rk,re) = if q.2≠0 then (0,q.2) else (typeOf s x,0)):=Lib.hid (by have h:=HO1.out; rw [if_neg (by omega),tAt_j hu,← hs,← hq] at h; exact h)
 have hkid:=prog_kid HV.out.symm (List.mem_of_getElem? hu)
 have hfx:=expr_fit HE.out.symm
 have hnd:Nds W1 (Lt W1.heap.size) (d + 1) p.kids A c:=by
  obtain ⟨xs,hrd,hrs⟩:=HRP.out.kids
  have h:=HV.out.symm
  have hp:IsProg p:=by unfold isProg at h; simpa using h
  have:=(nok_of ((prog_iff p).1 hp).2.2.2).len
  exact Nds.deeper (d:=d) ⟨⟨xs,hrd,hrs⟩,HRP.out.cap,by omega⟩ (by omega)
 have e1:s.funs.length = nk:=by rw [hs]; exact HNK.out.symm
 have e2:s.ch = n:=by rw [hs]; exact HN.out.symm
 have HSO:Hid (∀ W,Below W1.heap.size W1 W→Calls Tryd.prog 63 #[.agg #[.int .i64 k,.int .i64 n,.int .i64 m,.slice A nk c],.int .i64 (j:Int)] W fun e w'=>∃ A' c',e = .returned (.agg #[.slice A' s.vars.length c',.slice A nk c,.int .i64 n])∧ScR w' (d + 1) s A' c' A c∧Below W.heap.size W w'):=Lib.hid fun W hb=>by
  have h:=scopeOf_is p u j d A c W (hnd.next hb) hu ⟨by have:=hkid.n0; have:=hkid.n1; omega,by have:=hkid.len; omega⟩
  rw [← hs,e1,e2,← HNK.out,← HK.out,← HN.out,← HM.out] at h
  exact h
 have HFW:Hid (∀ W A2 c2,Below W1.heap.size W1 W→ScR W (d + 1) s A2 c2 A c→Calls Tryd.prog 64 #[.agg #[.slice A2 s.vars.length c2,.slice A nk c,.int .i64 n],.agg #[.int .i64 ek,.int .i64 en,.int .i64 em,.slice Ae ne ce]] W fun e w'=>∃ A' c',e = .returned (.tuple #[.slice A' q.1.length c',.int .i64 q.2])∧Below W.heap.size W w'):=Lib.hid fun W A2 c2 hb hsc=>by
  have h:=firstWrong_is s x (d + 1) (d + 1) A2 A Ae c2 c ce W hsc (rep_next HRX.out hb) hfx (by have:=HD.out; omega) (by rw [hs]; exact prog_fok HV.out.symm)
  rw [e1,e2,← hq,← HNE.out,← HEK.out,← HEN.out,← HEM.out] at h
  refine h.mono ?_
  rintro e w' ⟨A',c',h1,_,h3⟩
  exact ⟨A',c',h1,h3⟩
 have HTY:Hid (∀ W A2 c2,Below W1.heap.size W1 W→ScR W (d + 1) s A2 c2 A c→Calls Tryd.prog 65 #[.agg #[.slice A2 s.vars.length c2,.slice A nk c,.int .i64 n],.agg #[.int .i64 ek,.int .i64 en,.int .i64 em,.slice Ae ne ce]] W fun e w'=>e = .returned (.int .i64 (typeOf s x))∧Below W.heap.size W w'):=Lib.hid fun W A2 c2 hb hsc=>by
  have ho:=aok_of (nok_of hfx)
  have h:=typeOf_is s x (d + 1) Ae A2 A ce c2 c W hsc ho.2.2 ho.1 ho.2.1
  rw [e1,e2,← HNE.out,← HEK.out,← HEN.out,← HEM.out] at h
  exact h
 obtain ⟨nv,hnv⟩:∃ z,z = s.vars.length:=⟨_,rfl⟩
 obtain ⟨ty,hty⟩:∃ z,z = typeOf s x:=⟨_,rfl⟩
 rw [← hnv] at HSO HFW HTY
 rw [← hty] at HTY HO3
 obtain ⟨ql,er⟩:=q
 simp only at HFW HO3
 obtain ⟨nq,hnq⟩:∃ z,z = ql.length:=⟨_,rfl⟩
 rw [← hnq] at HFW
 have hjb:(0:Int)≤(j:Int)∧(j:Int) < (nk:Int):=⟨by omega,by omega⟩
 clear hs hq hkid hfx hnd e1 e2 hnv hty hnq hu
 by_cases he:er = 0
 ·have he2:(er != 0) = false:=by rw [bne_eq_false_iff_eq]; exact he
  have HO2:Hid (rk = ty∧re = 0):=Lib.hid (by have h:=HO.out; clear h; have h:=HO3.out; rw [if_neg (by simpa using he)] at h; injection h with h1 h2; exact ⟨h1,h2⟩)
  clear he
  go_enter Tryd.func29,Tryd.ntmps29
  go_upto_region 1 with fail
  rw [← HW1.out,← HG2.out,← HG1.out]
  try rw [← HZ.out]
  go_upto_region 6 with (first
   | (go_at_call 18; refine (HVP.out _ (Below.refl _ _)).mono ?_; rintro e w2 ⟨rfl,hb2⟩; have HB:=Lib.hid hb2; clear hb2 y0 y1 y2 y3 x0 x1 x2 x3 u0 u1 u2 u3 f0 f1 f2 f3; obtain ⟨⟨y0,y1,y2,y3⟩,⟨x0,x1,x2,x3⟩,⟨u0,u1,u2,u3⟩,f0,f1,f2,f3⟩:=HKC.out _ HB.out)
   | (go_at_call 62; refine (HVE.out _ HB.out).mono ?_; rintro e w3 ⟨rfl,hb3⟩; replace HB:=Lib.hid (bt HB.out hb3); clear hb3 y0 y1 y2 y3 x0 x1 x2 x3 u0 u1 u2 u3 f0 f1 f2 f3; obtain ⟨⟨y0,y1,y2,y3⟩,⟨x0,x1,x2,x3⟩,⟨u0,u1,u2,u3⟩,f0,f1,f2,f3⟩:=HKC.out _ HB.out)
   | (go_at_call 63; refine (HSO.out _ HB.out).mono ?_; rintro e w4 ⟨A2,c2,rfl,hsc,hb4⟩; replace HB:=Lib.hid (bt HB.out hb4); have HSC:=Lib.hid hsc; clear hb4 hsc y0 y1 y2 y3 x0 x1 x2 x3 u0 u1 u2 u3 f0 f1 f2 f3))
  obtain ⟨W5,hW5⟩:∃ W,W = w4.alloc (.cells #[.slice A2 nv c2,.slice A nk c,.int .i64 n] 79):=⟨_,rfl⟩
  obtain ⟨g8,hg8⟩:∃ z,z = w4.heap.size:=⟨_,rfl⟩
  have k8:Blk W5 g8 79 #[.slice A2 nv c2,.slice A nk c,.int .i64 n]:=by rw [hW5,hg8]; exact Blk.new _ _ _
  have hb45:Below w4.heap.size w4 W5:=by rw [hW5]; exact below_new _ _
  rw [← hW5,← hg8]
  replace HB:=Lib.hid (bt HB.out hb45)
  have HSC5:=Lib.hid (HSC.out.next hb45)
  have HK8:=Lib.hid k8
  obtain ⟨s0,s1,s2⟩:W5.cell? ⟨g8,0,none⟩ = some (.slice A2 nv c2)∧W5.cell? ⟨g8,1,none⟩ = some (.slice A nk c)∧W5.cell? ⟨g8,2,none⟩ = some (.int .i64 n):=⟨k8.cell 0,k8.cell 1,k8.cell 2⟩
  obtain ⟨⟨y0,y1,y2,y3⟩,⟨x0,x1,x2,x3⟩,⟨u0,u1,u2,u3⟩,f0,f1,f2,f3⟩:=HKC.out _ HB.out
  clear hW5 hg8 k8 hb45
  go_wp2_with (first
   | (go_at_call 64; refine (HFW.out _ _ _ HB.out HSC5.out).mono ?_; rintro e w6 ⟨A6,c6,rfl,hb6⟩; replace HB:=Lib.hid (bt HB.out hb6); have HSC6:=Lib.hid (HSC5.out.next hb6); have HK86:=Lib.hid (HK8.out.below hb6 HK8.out.lt); clear hb6 s0 s1 s2 y0 y1 y2 y3 x0 x1 x2 x3 u0 u1 u2 u3 f0 f1 f2 f3; obtain ⟨⟨y0,y1,y2,y3⟩,⟨x0,x1,x2,x3⟩,⟨u0,u1,u2,u3⟩,f0,f1,f2,f3⟩:=HKC.out _ HB.out; obtain ⟨s0,s1,s2⟩:w6.cell? ⟨g8,0,none⟩ = some (.slice A2 nv c2)∧w6.cell? ⟨g8,1,none⟩ = some (.slice A nk c)∧w6.cell? ⟨g8,2,none⟩ = some (.int .i64 n):=⟨HK86.out.cell 0,HK86.out.cell 1,HK86.out.cell 2⟩)
   | (go_at_call 65; refine (HTY.out _ _ _ HB.out HSC6.out).mono ?_; rintro e w7 ⟨rfl,hb7⟩; replace HB:=Lib.hid (bt HB.out hb7); clear hb7 s0 s1 s2 y0 y1 y2 y3 x0 x1 x2 x3 u0 u1 u2 u3 f0 f1 f2 f3; obtain ⟨⟨y0,y1,y2,y3⟩,⟨x0,x1,x2,x3⟩,⟨u0,u1,u2,u3⟩,f0,f1,f2,f3⟩:=HKC.out _ HB.out))
  obtain ⟨X,hX⟩:∃ X,X = (((w7.setCell ⟨g2,0,none⟩ (.int .i64 ty)).setCell ⟨g2,1,none⟩ (.int .i64 0)).setCell ⟨g2,2,none⟩ (.int .i64 0)).setCell ⟨g2,3,none⟩ (.slice none 0 0):=⟨_,rfl⟩
  rw [← hX]
  obtain ⟨⟨r0,r1,r2,r3⟩,hbX⟩:=put4_of (HK2.out.below HB.out HK2.out.lt) (bt HB1.out HB.out) (by have:=HG2.out; omega) hX
  refine bodyPost_ret (v:=.tuple #[.agg #[.int .i64 ty,.int .i64 0,.int .i64 0,.slice none 0 0],.int .i64 0]) (by simp [results,Tryd.results29,go_sem,r0,r1,r2,r3]) rfl ⟨?_,hbX⟩
  rw [HO2.out.1,HO2.out.2]
 ·have he2:(er != 0) = true:=by rw [bne_iff_ne]; exact he
  have HO2:Hid (rk = 0∧re = er):=Lib.hid (by have h:=HO.out; clear h; have h:=HO3.out; rw [if_pos he] at h; injection h with h1 h2; exact ⟨h1,h2⟩)
  clear he
  go_enter Tryd.func29,Tryd.ntmps29
  go_upto_region 1 with fail
  rw [← HW1.out,← HG2.out,← HG1.out]
  try rw [← HZ.out]
  go_upto_region 6 with (first
   | (go_at_call 18; refine (HVP.out _ (Below.refl _ _)).mono ?_; rintro e w2 ⟨rfl,hb2⟩; have HB:=Lib.hid hb2; clear hb2 y0 y1 y2 y3 x0 x1 x2 x3 u0 u1 u2 u3 f0 f1 f2 f3; obtain ⟨⟨y0,y1,y2,y3⟩,⟨x0,x1,x2,x3⟩,⟨u0,u1,u2,u3⟩,f0,f1,f2,f3⟩:=HKC.out _ HB.out)
   | (go_at_call 62; refine (HVE.out _ HB.out).mono ?_; rintro e w3 ⟨rfl,hb3⟩; replace HB:=Lib.hid (bt HB.out hb3); clear hb3 y0 y1 y2 y3 x0 x1 x2 x3 u0 u1 u2 u3 f0 f1 f2 f3; obtain ⟨⟨y0,y1,y2,y3⟩,⟨x0,x1,x2,x3⟩,⟨u0,u1,u2,u3⟩,f0,f1,f2,f3⟩:=HKC.out _ HB.out)
   | (go_at_call 63; refine (HSO.out _ HB.out).mono ?_; rintro e w4 ⟨A2,c2,rfl,hsc,hb4⟩; replace HB:=Lib.hid (bt HB.out hb4); have HSC:=Lib.hid hsc; clear hb4 hsc y0 y1 y2 y3 x0 x1 x2 x3 u0 u1 u2 u3 f0 f1 f2 f3))
  obtain ⟨W5,hW5⟩:∃ W,W = w4.alloc (.cells #[.slice A2 nv c2,.slice A nk c,.int .i64 n] 79):=⟨_,rfl⟩
  obtain ⟨g8,hg8⟩:∃ z,z = w4.heap.size:=⟨_,rfl⟩
  have k8:Blk W5 g8 79 #[.slice A2 nv c2,.slice A nk c,.int .i64 n]:=by rw [hW5,hg8]; exact Blk.new _ _ _
  have hb45:Below w4.heap.size w4 W5:=by rw [hW5]; exact below_new _ _
  rw [← hW5,← hg8]
  replace HB:=Lib.hid (bt HB.out hb45)
  have HSC5:=Lib.hid (HSC.out.next hb45)
  have HK8:=Lib.hid k8
  obtain ⟨s0,s1,s2⟩:W5.cell? ⟨g8,0,none⟩ = some (.slice A2 nv c2)∧W5.cell? ⟨g8,1,none⟩ = some (.slice A nk c)∧W5.cell? ⟨g8,2,none⟩ = some (.int .i64 n):=⟨k8.cell 0,k8.cell 1,k8.cell 2⟩
  obtain ⟨⟨y0,y1,y2,y3⟩,⟨x0,x1,x2,x3⟩,⟨u0,u1,u2,u3⟩,f0,f1,f2,f3⟩:=HKC.out _ HB.out
  clear hW5 hg8 k8 hb45
  go_wp2_with (go_at_call 64; refine (HFW.out _ _ _ HB.out HSC5.out).mono ?_; rintro e w6 ⟨A6,c6,rfl,hb6⟩; replace HB:=Lib.hid (bt HB.out hb6); have HSC6:=Lib.hid (HSC5.out.next hb6); have HK86:=Lib.hid (HK8.out.below hb6 HK8.out.lt); clear hb6 s0 s1 s2 y0 y1 y2 y3 x0 x1 x2 x3 u0 u1 u2 u3 f0 f1 f2 f3; obtain ⟨⟨y0,y1,y2,y3⟩,⟨x0,x1,x2,x3⟩,⟨u0,u1,u2,u3⟩,f0,f1,f2,f3⟩:=HKC.out _ HB.out; obtain ⟨s0,s1,s2⟩:w6.cell? ⟨g8,0,none⟩ = some (.slice A2 nv c2)∧w6.cell? ⟨g8,1,none⟩ = some (.slice A nk c)∧w6.cell? ⟨g8,2,none⟩ = some (.int .i64 n):=⟨HK86.out.cell 0,HK86.out.cell 1,HK86.out.cell 2⟩)
  obtain ⟨X,hX⟩:∃ X,X = (((w6.setCell ⟨g2,0,none⟩ (.int .i64 0)).setCell ⟨g2,1,none⟩ (.int .i64 0)).setCell ⟨g2,2,none⟩ (.int .i64 0)).setCell ⟨g2,3,none⟩ (.slice none 0 0):=⟨_,rfl⟩
  rw [← hX]
  obtain ⟨⟨r0,r1,r2,r3⟩,hbX⟩:=put4_of (HK2.out.below HB.out HK2.out.lt) (bt HB1.out HB.out) (by have:=HG2.out; omega) hX
  refine bodyPost_ret (v:=.tuple #[.agg #[.int .i64 0,.int .i64 0,.int .i64 0,.slice none 0 0],.int .i64 er]) (by simp [results,Tryd.results29,go_sem,r0,r1,r2,r3]) rfl ⟨?_,hbX⟩
  rw [HO2.out.1,HO2.out.2]
end Go.Proofs.YtkkenbalpnmfmaaDoor

namespace Go.Proofs.YtkkenbalpnmfmaaDoor
open Go.RowKit WM TR TY

def es (t:T):List T:=(if isEx t.k = true then [t] else []) ++ (t.kids.attach.map fun u=>es u.1).flatten
 termination_by t
 decreasing_by exact kid_lt u.2






theorem isEx_iff {k:Int}:isEx k = true↔4≤k∧k≤12:=by unfold isEx; simp





end Go.Proofs.YtkkenbalpnmfmaaDoor

namespace Go.Proofs.YtkkenbalpnmfmaaDoor
open Go.RowKit WM TR TY


theorem eok_of {y:T} (hf:Fit y) (hk:isEx y.k = true):EOk y:=by
 have hn:=nok_of hf
 refine ⟨hk,hn.n,hn.m,fun h9=>?_⟩
 have he:isExpr y = true:=(agree y).ex.2 ⟨isEx_iff.1 hk,hf⟩
 rw [isExpr_eq] at he
 simp only [Bool.and_eq_true] at he
 have h:=he.1
 unfold exprHead at h
 simp [h9,btw] at h
 omega
theorem var_kind {p u t:T} (hfu:IsFun u) (ht:t ∈ (scO p u).vars):0≤t.k∧t.k≤3:=by
 obtain ⟨i,hi⟩:=List.mem_iff_getElem?.1 ht
 have e1:(u.kids.take (u.kids.length - 1))[i]? = some t:=hi
 rw [List.getElem?_take] at e1
 split at e1
 ·rename_i hlt
  exact type_range (hfu.2.2.2.1 i t (by omega) e1).1
 ·cases e1
theorem named_range2 {p u:T} (hfu:IsFun u) {e:T} (hf:Fit e) (h1:missing (scO p u) e = false) (h2:misused (scO p u) e = false) (hk:e.k = 6∨e.k = 8):named (scO p u) e = 0∨named (scO p u) e = 1:=by
 have hno:=nok_of hf
 have h0:=hno.n (by omega)
 rcases hk with hk | hk
 ·simp [misused,hk,scal] at h2
  unfold named
  rw [if_neg (by omega)]
  omega
 ·simp [misused,hk] at h2
  simp [missing,hk,h2] at h1
  unfold named
  rw [if_pos h2]
  obtain ⟨hl,hm⟩:=h1
  have hm0:=hno.m
  have hlt:e.n.toNat < (scO p u).vars.length:=by omega
  have e0:=List.getElem?_eq_getElem hlt
  rw [tAt_some e0] at hm h2 ⊢
  obtain ⟨t,ht⟩:∃ t,t = (scO p u).vars[e.n.toNat]:=⟨_,rfl⟩
  rw [← ht] at hm h2 e0 ⊢
  have hty:isType t = true:=by
   have e1:(u.kids.take (u.kids.length - 1))[e.n.toNat]? = some t:=e0
   rw [List.getElem?_take] at e1
   split at e1
   ·rename_i hlt2
    exact (hfu.2.2.2.1 e.n.toNat t (by omega) e1).1
   ·cases e1
  unfold isType at hty
  rw [if_neg (by simp [h2]),if_pos (by simpa using h2)] at hty
  simp only [Bool.and_eq_true] at hty
  have hlt3:e.m.toNat < t.kids.length:=by omega
  have e3:=List.getElem?_eq_getElem hlt3
  rw [tAt_some e3]
  have hpl:=List.all_eq_true.1 hty.2 _ (List.mem_of_getElem? e3)
  unfold isPlain at hpl
  simp at hpl
  omega
theorem type_ge {p u y:T} (hfu:IsFun u) (hf:Fit y) (hk:isEx y.k = true):-1≤typeOf (scO p u) y:=by
 unfold typeOf
 by_cases h5:y.k = 5∨y.k = 10
 ·rw [if_pos h5]; omega
 ·rw [if_neg h5]
  by_cases h9:y.k = 9
  ·rw [if_pos h9]; split <;> omega
  ·rw [if_neg h9]
   by_cases h6:y.k = 6∨y.k = 8
   ·rw [if_pos h6]
    cases h1:missing (scO p u) y
    ·cases h2:misused (scO p u) y
     ·simp only [Bool.or_false,Bool.false_eq_true,if_false]
      have h:=named_range2 hfu hf h1 h2 h6
      omega
     ·simp
    ·simp
   ·rw [if_neg h6]; omega
theorem nd_len {s:Sc} {y:T} (hf:Fit y) (hk:isEx y.k = true) (hfo:FOk s.funs):(ndR s y).2.length≤y.kids.length:=by
 have hn:=nok_of hf
 unfold ndR
 cases h1:missing s y
 ·cases h2:misused s y
  ·simp only [Bool.false_eq_true,if_false]
   have hk2:=isEx_iff.1 hk
   have hc:y.k = 9∨y.k = 10∨y.k = 7∨y.k = 11∨(y.k = 4∨y.k = 5∨y.k = 6∨y.k = 8∨y.k = 12):=by omega
   rcases hc with h | h | h | h | h
   ·rw [hn.two (.inl h)]; simp [wants,h]; split <;> simp
   ·rw [hn.one (.inl h)]; simp [wants,h]
   ·rw [hn.one (.inr (.inl h))]; simp [wants,h]
   ·have h3:=params_le s y.n
    simp [misused,h] at h2
    have e:wants s y = TY.params s y.n:=by simp [wants,h]
    rw [e]
    omega
   ·rcases h with h | h | h | h | h <;> simp [wants,h]
  ·simp
 ·simp
end Go.Proofs.YtkkenbalpnmfmaaDoor

namespace Go.Proofs.YtkkenbalpnmfmaaDoor
open Go.RowKit WM TR TY


theorem nds_rep {w:World} {D:Nat} {y:T} {Ay:Option Addr} {cy:Nat} (h:Rep w (Lt w.heap.size) (D + 1) y (nd y Ay cy)) (hl:y.kids.length≤1000):Nds w (Lt w.heap.size) D y.kids Ay cy:=by
 obtain ⟨xs,h1,h2⟩:=h.kids
 exact ⟨⟨xs,h1,h2⟩,Rep.cap h,hl⟩


end Go.Proofs.YtkkenbalpnmfmaaDoor

namespace Go.Proofs.YtkkenbalpnmfmaaDoor
open Go.RowKit WM TR TY

def errP (p:T):List Int→Int
 | []=>0
 | k :: b=>if k < 0 then 0 else match p.kids[k.toNat]? with
  | some u=>match at? b u with
   | some v=>errOf (scO p u) v
   | none=>0
  | none=>0
theorem errP_cons (p : T) (k : Int) (b : List Int) : errP p (k :: b) = if k < 0 then 0 else match p.kids[k.toNat]? with
  | some u=>match at? b u with
   | some v=>errOf (scO p u) v
   | none=>0
  | none=>0:=rfl
theorem errP_none {p u:T} {k:Nat} {b:List Int} (hu:p.kids[k]? = some u) (hv:at? b u = none):errP p ((k:Int) :: b) = 0:=by
 rw [errP_cons,if_neg (by omega),Int.toNat_natCast,hu]
 simp only [hv]
theorem errP_at {p u v:T} {k:Nat} {b:List Int} (hu:p.kids[k]? = some u) (hv:at? b u = some v):errP p ((k:Int) :: b) = errOf (scO p u) v:=by
 rw [errP_cons,if_neg (by omega),Int.toNat_natCast,hu]
 simp only [hv]
theorem rowsF_mem:∀ (l:List T) (i:Nat) (q:List Int),q ∈ rowsF l i→∃ k b u,q = ((i + k:Nat):Int) :: b∧l[k]? = some u∧b ∈ paths u
 | [],_,_,h=>by simp [rowsF] at h
 | u :: l,i,q,h=>by
  rw [rowsF] at h
  rcases List.mem_append.1 h with h | h
  ·obtain ⟨r,hr,rfl⟩:=List.mem_map.1 h
   exact ⟨0,r,u,by simp,rfl,hr⟩
  ·obtain ⟨k,b,y,g1,g2,g3⟩:=rowsF_mem l (i + 1) q h
   exact ⟨k + 1,b,y,by rw [g1,Nat.add_right_comm,Nat.add_assoc],g2,g3⟩
theorem chk_first {p : T} (hp : isProg p = true) : (chk p = ([], 0) ∧ ∀ q ∈ paths p, errP p q = 0) ∨
  ((chk p).2≠0∧∃ l1 l2,paths p = l1 ++ (chk p).1 :: l2∧(∀ q ∈ l1,errP p q = 0)∧errP p (chk p).1 = (chk p).2):=by
 have h:=firstK_is (fun u=>firstW (scO p u) u) (fun u=>errOf (scO p u)) (chkL p) (fun _=>rfl) (fun _ _ _=>rfl) p.kids 0 fun u _=>firstW_first (scO p u) u
 have e:chkL p p.kids 0 = chk p:=by unfold chk; rw [if_pos hp]
 rw [e] at h
 rcases h with ⟨h1,h2⟩ | ⟨hne,l1,l2,j,u,b,v,e1,e2,e3,e4,e5,e6⟩
 ·refine .inl ⟨h1,fun q hq=>?_⟩
  rw [paths_F] at hq
  rcases List.mem_cons.1 hq with rfl | hq
  ·rfl
  ·obtain ⟨k,b,u,g1,g2,g3⟩:=rowsF_mem _ _ _ hq
   rw [Nat.zero_add] at g1
   cases hv:at? b u with
   | none=>rw [g1]; exact errP_none g2 hv
   | some v=>rw [g1,errP_at g2 hv]; exact h2 u (List.mem_of_getElem? g2) b g3 v hv
 ·rw [Nat.zero_add] at e1
  refine .inr ⟨hne,[] :: l1,l2,by rw [paths_F,e3]; rfl,fun q hq=>?_,by rw [e1,errP_at e2 e5]; exact e6⟩
  rcases List.mem_cons.1 hq with rfl | hq
  ·rfl
  ·obtain ⟨k,b',u',g1,g2,g3⟩:=e4 q hq
   rw [Nat.zero_add] at g1
   cases hv:at? b' u' with
   | none=>rw [g1]; exact errP_none g2 hv
   | some v=>rw [g1,errP_at g2 hv]; exact g3 v hv
theorem chk_by {p:T} (hp:isProg p = true) {i:Nat} {q:List Int} (hq:(paths p)[i]? = some q) (hz:∀ (i':Nat) (q':List Int),i' < i→(paths p)[i']? = some q'→errP p q' = 0) (hn:errP p q≠0):chk p = (q,errP p q):=by
 rcases chk_first hp with ⟨_,h2⟩ | ⟨hne,l1,l2,e1,e2,e3⟩
 ·exact absurd (h2 q (List.mem_of_getElem? hq)) hn
 ·have hi : i = l1.length := by
   rcases Nat.lt_trichotomy i l1.length with h | h | h
   ·rw [e1,List.getElem?_append_left h] at hq
    exact absurd (e2 q (List.mem_of_getElem? hq)) hn
   ·exact h
   ·have:=hz l1.length (chk p).1 h (by rw [e1,List.getElem?_append_right (Nat.le_refl _),Nat.sub_self]; rfl)
    exact absurd (e3.symm.trans this) hne
  rw [e1,hi,List.getElem?_append_right (Nat.le_refl _),Nat.sub_self] at hq
  have e4:(chk p).1 = q:=Option.some.inj hq
  rw [← e4,e3]
theorem chk_zero {p:T} (hp:isProg p = true) (hz:∀ (i':Nat) (q':List Int),(paths p)[i']? = some q'→errP p q' = 0):chk p = ([],0):=by
 rcases chk_first hp with ⟨h1,_⟩ | ⟨hne,l1,l2,e1,e2,e3⟩
 ·exact h1
 ·exact absurd (e3.symm.trans (hz l1.length _ (by rw [e1,List.getElem?_append_right (Nat.le_refl _),Nat.sub_self]; rfl))) hne
structure Bd (x:T):Prop where
 fit:Fit x
 lo:4≤x.k
 hi:x.k≤25
theorem row_sorts {k:Int} (h1:4≤k) (h2:k≤25):sf k 6 = 0∨sf k 6 = 4∨sf k 6 = 24:=by
 obtain ⟨j,rfl⟩:=Int.eq_ofNat_of_zero_le (show 0≤k by omega)
 have h:(List.range 30).all (fun j=>decide (j < 4) || decide (25 < j) || (sf (j:Nat) 6 == 0 || (sf (j:Nat) 6 == 4 || sf (j:Nat) 6 == 24))) = true:=by decide +kernel
 have:=List.all_eq_true.1 h j (by simp; omega)
 simp only [Bool.or_eq_true,decide_eq_true_eq,beq_iff_eq] at this
 omega
theorem Bd.kid {x:T} (h:Bd x) {i:Nat} {v:T} (hv:x.kids[i]? = some v):Bd v∧((i:Int) < listed x→x.k≠13→isEx v.k = true):=by
 have h1:=h.fit.here.2 i v hv
 have hp:TR.params x = 0:=by unfold TR.params; rw [if_neg (by have:=h.hi; omega)]
 unfold wantS at h1
 rw [hp,if_neg (by omega)] at h1
 have hf:=h.fit.kids v (List.mem_of_getElem? hv)
 by_cases hl:listed x≤i
 ·rw [if_pos hl] at h1
  have:=(meets8 v.k).1 h1
  exact ⟨⟨hf,by omega,by omega⟩,fun h=>absurd h (by omega)⟩
 ·rw [if_neg hl] at h1
  rcases row_sorts h.lo h.hi with hs | hs | hs
  ·rw [hs,meets0] at h1; cases h1
  ·rw [hs] at h1
   have:=(meets4 v.k).1 h1
   exact ⟨⟨hf,by omega,by omega⟩,fun _ _=>isEx_iff.2 this⟩
  ·rw [hs] at h1
   have:=(meets24 v.k).1 h1
   refine ⟨⟨hf,by omega,by omega⟩,fun _ h13=>?_⟩
   exfalso
   have h24:∀ k:Int,4≤k→k≤25→k≠13→sf k 6≠24:=fun k g1 g2 g3=>by
    obtain ⟨j,rfl⟩:=Int.eq_ofNat_of_zero_le (show 0≤k by omega)
    have h:(List.range 30).all (fun j=>decide (j = 13) || (decide (j < 4) || decide (25 < j)) || (sf (j:Nat) 6 != 24)) = true:=by decide +kernel
    have:=List.all_eq_true.1 h j (by simp; omega)
    simp only [Bool.or_eq_true,decide_eq_true_eq,bne_iff_ne] at this
    rcases this with (h | h) | h
    ·omega
    ·omega
    ·exact h
   exact h24 x.k h.lo h.hi h13 hs
theorem Bd.at_:∀ (b:List Int) (x v:T),Bd x→at? b x = some v→Bd v
 | [],x,v,h,hv=>by rw [at?] at hv; rw [← Option.some.inj hv]; exact h
 | i :: b,x,v,h,hv=>by
  rw [at?] at hv
  split at hv
  ·cases hv
  ·split at hv
   ·cases hv
   ·rename_i u hu
    exact Bd.at_ b u v (h.kid hu).1 hv
theorem Bd.listed_le {x:T} (h:Bd x):listed x≤(x.kids.length:Int):=by
 unfold listed
 obtain ⟨j,hj⟩:=Int.eq_ofNat_of_zero_le (show 0≤x.k by have:=h.lo; omega)
 have h2:(List.range 30).all (fun j=>decide (0≤sf (j:Nat) 7)) = true:=by decide +kernel
 have:=List.all_eq_true.1 h2 j (by have:=h.hi; simp; omega)
 simp only [decide_eq_true_eq] at this
 rw [hj]; omega
theorem bd_wants {s:Sc} {y:T} (h:Bd y) (hfo:FOk s.funs):((ndR s y).2.length:Int)≤listed y∧(y.k = 13→(ndR s y).2.length = 0):=by
 by_cases hk:isEx y.k = true
 ·have h1:=nd_len h.fit hk hfo
  have hk2:=isEx_iff.1 hk
  have h2:sf y.k 7 = 0:=by
   obtain ⟨j,hj⟩:=Int.eq_ofNat_of_zero_le (show 0≤y.k by omega)
   have h2:(List.range 30).all (fun j=>decide (12 < j) || decide (sf (j:Nat) 7 = 0)) = true:=by decide +kernel
   have:=List.all_eq_true.1 h2 j (by simp; omega)
   simp only [Bool.or_eq_true,decide_eq_true_eq] at this
   rw [hj]
   rcases this with h3 | h3
   ·omega
   ·exact h3
  exact ⟨by unfold listed; rw [h2]; omega,fun h=>absurd h (by omega)⟩
 ·have hlo:=h.lo
  have hhi:=h.hi
  have hnk:¬ (4≤y.k∧y.k≤12):=fun hc=>hk (isEx_iff.2 hc)
  have hle:sf y.k 4≤listed y:=by
   have:=h.fit.here.1.2.1
   have hp:TR.params y = 0:=by unfold TR.params; rw [if_neg (by omega)]
   omega
  have hge:0≤sf y.k 4:=by
   obtain ⟨j,hj⟩:=Int.eq_ofNat_of_zero_le (show 0≤y.k by omega)
   have h2:(List.range 30).all (fun j=>decide (0≤sf (j:Nat) 4)) = true:=by decide +kernel
   have:=List.all_eq_true.1 h2 j (by simp; omega)
   simp only [decide_eq_true_eq] at this
   rw [hj]; exact this
  unfold ndR
  cases h1:missing s y
  ·cases h2:misused s y
   ·simp only [Bool.false_eq_true,if_false]
    have hc:y.k = 13∨y.k = 14∨y.k = 15∨y.k = 16∨y.k = 17∨y.k = 18∨y.k = 19∨y.k = 20∨y.k = 21∨y.k = 22∨y.k = 23∨y.k = 24∨y.k = 25:=by omega
    rcases hc with e | e | e | e | e | e | e | e | e | e | e | e | e
    ·simp [wants,e]; omega
    ·rw [e] at hle; have:=row14; simp [wants,e]; omega
    ·rw [e] at hle; have:=row15; simp [wants,e]; omega
    ·rw [e] at hle; have:=row16; simp [wants,e]; omega
    ·rw [e] at hle; have:=row17; simp [wants,e]; omega
    ·rw [e] at hle; have:=row18; simp [wants,e]; omega
    ·rw [e] at hle; have:=row19; simp [wants,e]; omega
    ·rw [e] at hle; have:=row20; simp [wants,e]; omega
    ·simp [wants,e]; omega
    ·rw [e] at hle; have:=row22; simp [wants,e]; omega
    ·have h3:=params_le s y.n
     simp [misused,e] at h2
     have e2:wants s y = TY.params s y.n:=by simp [wants,e]
     rw [e2]
     have h7:=row23
     refine ⟨?_,fun hc=>absurd hc (by omega)⟩
     unfold listed
     rw [e,h7.2.2.2.2.2.2]
     omega
    ·rw [e] at hle; have:=row24; simp [wants,e]; omega
    ·simp [wants,e]; omega
   ·simp; omega
  ·simp; omega
theorem rwrong_bd (p u y : T) (j d D : Nat) (A Ay : Option Addr) (c cy : Nat) (w : World) (hp : isProg p = true) (hnd : Nds w (Lt w.heap.size) (d + 2) p.kids A c) (hu : p.kids[j]? = some u) (hb : Bd y) (hry : Rep w (Lt w.heap.size) D y (nd y Ay cy)) :
  Calls Tryd.prog 70 #[.agg #[.int .i64 p.k,.int .i64 p.n,.int .i64 p.m,.slice A p.kids.length c],.int .i64 (j:Int),.agg #[.int .i64 y.k,.int .i64 y.n,.int .i64 y.m,.slice Ay y.kids.length cy]] w fun e w'=>e = .returned (.int .i64 (errOf (scO p u) y))∧Below w.heap.size w w':=by
 cases D with
 | zero=>exact hry.elim
 | succ D =>
 have hpp:IsProg p:=by unfold isProg at hp; simpa using hp
 have hfu:IsFun u:=by have h:=hpp.2.2.2.2 j u hu; unfold isFun at h; simpa using h
 have hpk:=prog_kid hp (List.mem_of_getElem? hu)
 have hu1:1≤u.kids.length∧u.kids.length≤1000:=by have h1:=hpk.n0; have h2:=hpk.n1; have h3:=hpk.len; omega
 have hfo:=prog_fok hp
 have hno:=nok_of hb.fit
 have hyl:y.kids.length≤10:=hno.len
 have hlo:=hb.lo
 have hhi:=hb.hi
 have hw:=bd_wants (s:=scO p u) hb hfo
 have hop:y.k = 9→y.n≤13:=fun h9=>by
  have h1:=hb.fit.here.1.1.2.1
  rw [h9,row9.2.1] at h1
  exact h1
 refine rwrong_is p u y j d D A Ay c cy w hnd hu hu1 (nds_rep hry (by omega)) (fun W hb2=>?_) (fun i v hv hi=>?_) (by have:=hb.listed_le; omega)
 ·by_cases h11:y.k = 11∨y.k = 23
  ·exact rneeds_b p u y j d A Ay c y.kids.length cy W (hnd.next hb2) hu hu1 h11 (hno.n (by omega)) rfl (by omega) hfo
  ·exact rneeds_a p u y j d A Ay c y.kids.length cy W (hnd.next hb2) hu hu1 ⟨hlo,hhi,by omega,by omega⟩ hno.n hno.m hop (fun t ht=>var_kind hfu ht)
 ·have h13:y.k≠13:=fun h13=>by have:=hw.2 h13; omega
  have h:=hb.kid hv
  have hex:=h.2 (by omega) h13
  exact ⟨eok_of h.1.fit hex,type_ge hfu h.1.fit hex⟩
theorem type_at:∀ (b:List Int) (x v:T),Fit x→(0≤x.k∧x.k≤3)→at? b x = some v→0≤v.k∧v.k≤3:=by
 intro b
 induction b with
 | nil=>intro x v _ hx hv; rw [at?] at hv; rw [← Option.some.inj hv]; exact hx
 | cons i b ih =>
  intro x v hx hk hv
  rw [at?] at hv
  split at hv
  ·cases hv
  ·split at hv
   ·cases hv
   ·rename_i y hy
    have h1:=hx.here.2 _ y hy
    have hp:TR.params x = 0:=by unfold TR.params; rw [if_neg (by omega)]
    have hs:sf x.k 7 = 0∧(sf x.k 6 = 0∨sf x.k 6 = 1):=by
     have hc:x.k = 0∨x.k = 1∨x.k = 2∨x.k = 3:=by omega
     rcases hc with e | e | e | e <;> rw [e]
     ·have:=row0; omega
     ·have:=row1; omega
     ·have:=row2; omega
     ·have:=row3; omega
    have hlt:=(List.getElem?_eq_some_iff.1 hy).1
    unfold wantS at h1
    rw [hp,if_neg (by omega),if_neg (by unfold listed; omega)] at h1
    rcases hs.2 with e | e
    ·rw [e,meets0] at h1; cases h1
    ·rw [e] at h1
     have:=(meets1 y.k).1 h1
     exact ih y v (hx.kids y (List.mem_of_getElem? hy)) (by omega) hv
theorem errP_out {p:T} (hp:isProg p = true) {q:List Int} (hq:q ∈ paths p) (h:q.length < 2∨∃ (k:Nat) (u:T) (j:Int) (b:List Int),q = (k:Int) :: j :: b∧p.kids[k]? = some u∧j≠((u.kids.length - 1:Nat):Int)):errP p q = 0:=by
 have hpp:IsProg p:=by unfold isProg at hp; simpa using hp
 have hno:∀ (s:Sc) (v:T),(v.k = 26∨(0≤v.k∧v.k≤3))→errOf s v = 0:=fun s v hv=>by
  have h1:missing s v = false:=by unfold missing; rw [if_neg (by omega),if_neg (by omega),if_neg (by omega),if_neg (by omega)]
  have h2:misused s v = false:=by unfold misused; rw [if_neg (by omega),if_neg (by omega),if_neg (by omega),if_neg (by omega),if_neg (by omega)]
  have h3:wants s v = []:=by unfold wants; rw [if_neg (by omega),if_neg (by omega),if_neg (by omega),if_neg (by omega),if_neg (by omega),if_neg (by omega)]
  unfold errOf
  rw [h1,h2,h3]
  unfold fitB
  cases v.kids <;> rfl
 rw [paths_F] at hq
 rcases List.mem_cons.1 hq with rfl | hq
 ·rfl
 obtain ⟨k,b,u,g1,g2,g3⟩:=rowsF_mem _ _ _ hq
 rw [Nat.zero_add] at g1
 have hfu:IsFun u:=by have h:=hpp.2.2.2.2 k u g2; unfold isFun at h; simpa using h
 cases hv:at? b u with
 | none=>rw [g1]; exact errP_none g2 hv
 | some v =>
  rw [g1,errP_at g2 hv]
  cases b with
  | nil =>
   rw [at?] at hv
   have hvk:v.k = 26:=by rw [← Option.some.inj hv]; exact hfu.1
   exact hno _ v (.inl hvk)
  | cons j b =>
   rcases h with h | ⟨k2,u2,j2,b2,e1,e2,e3⟩
   ·rw [g1] at h; simp at h; omega
   ·rw [g1] at e1
    injection e1 with e4 e5
    injection e5 with e6 e7
    obtain rfl:k = k2:=by omega
    obtain rfl:u = u2:=Option.some.inj (g2.symm.trans e2)
    subst e6
    rw [at?] at hv
    split at hv
    ·cases hv
    ·rename_i hj0
     split at hv
     ·cases hv
     ·rename_i t ht
      have hlt:=(List.getElem?_eq_some_iff.1 ht).1
      have hty:=(hfu.2.2.2.1 j.toNat t (by omega) ht).1
      have hft:=((agree t).ty.1 hty)
      exact hno _ v (.inr (type_at b t v hft.2 hft.1 hv))
theorem bd_place {p u v:T} (hp:isProg p = true) {k:Nat} (hu:p.kids[k]? = some u) {b:List Int} (hv:at? (((u.kids.length - 1:Nat):Int) :: b) u = some v):Bd v:=by
 have hpp:IsProg p:=by unfold isProg at hp; simpa using hp
 have hfu:IsFun u:=by have h:=hpp.2.2.2.2 k u hu; unfold isFun at h; simpa using h
 rw [at?,if_neg (by omega),Int.toNat_natCast] at hv
 split at hv
 ·cases hv
 ·rename_i t ht
  have h1:=hfu.2.2.2.2 t ht
  unfold isBlock at h1
  simp only [Bool.and_eq_true,beq_iff_eq] at h1
  have h2:=(agree t).st.1 h1.2
  exact Bd.at_ b t v ⟨h2.2,by omega,by omega⟩ hv
end Go.Proofs.YtkkenbalpnmfmaaDoor
