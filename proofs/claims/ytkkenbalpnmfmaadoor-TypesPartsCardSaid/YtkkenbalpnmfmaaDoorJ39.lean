/- Texts joined. -/
import Derived.Test.YtkkenbalpnmfmaaDoorJ38
import Derived.Test.YtkkenbalpnmfmaaDoorJ36
import Derived.Test.YtkkenbalpnmfmaaDoorJ20
import Derived.Test.YtkkenbalpnmfmaaDoorJ37
set_option linter.unusedVariables false
namespace Go.Proofs.YtkkenbalpnmfmaaDoor
open Go.RowKit WM TR TY

noncomputable def ofK (p:T) (f:Int) (x:T):Int × Int :=
 if isProg p = false then (0,2) else if isProg (wrapN 4 x) = false then (0,2)
 else if f < 0∨(p.kids.length:Int)≤f then (0,5)
 else if (firstW (scO p (tAt p.kids f)) x).2≠0 then (0,(firstW (scO p (tAt p.kids f)) x).2) else (typeOf (scO p (tAt p.kids f)) x,0)
theorem put4_of {w W X : World} {g : Nat} {v0 v1 v2 v3 : Value} (hk : Blk W g 25 #[.int .i64 0, .int .i64 0, .int .i64 0, .slice none 0 0]) (hb : Below w.heap.size w W) (hg : w.heap.size ≤ g) (hX : X = (((W.setCell ⟨g, 0, none⟩ v0).setCell ⟨g, 1, none⟩ v1).setCell ⟨g, 2, none⟩ v2).setCell ⟨g, 3, none⟩ v3) :
  (X.cell? ⟨g,0,none⟩ = some v0∧X.cell? ⟨g,1,none⟩ = some v1∧X.cell? ⟨g,2,none⟩ = some v2∧X.cell? ⟨g,3,none⟩ = some v3)∧Below w.heap.size w X:=by
 have kX:Blk X g 25 #[v0,v1,v2,v3]:=by
  rw [hX]
  have h:=(((hk.set_ 0 v0).set_ 1 v1).set_ 2 v2).set_ 3 v3
  simpa using h
 refine ⟨⟨kX.cell 0,kX.cell 1,kX.cell 2,kX.cell 3⟩,?_⟩
 rw [hX]
 exact (((hb.setCell (by show w.heap.size≤g; exact hg) _).setCell (by show w.heap.size≤g; exact hg) _).setCell (by show w.heap.size≤g; exact hg) _).setCell (by show w.heap.size≤g; exact hg) _
theorem tAt_j {l:List T} {j:Nat} {u:T} (h:l[j]? = some u):tAt l (j:Int) = u:=tAt_get rfl h
theorem expr_fit {x:T} (h:isProg (wrapN 4 x) = true):Fit x:=by
 have hp:IsProg (wrapN 4 x):=by unfold isProg at h; simpa using h
 have hf:=((prog_iff _).1 hp).2.2.2
 have h3:Fit (wrapN 3 x):=hf.kids _ (by simp [wrapN])
 have h2:Fit (wrapN 2 x):=h3.kids _ (by simp [wrapN])
 have h1:Fit (wrapN 1 x):=h2.kids _ (by simp [wrapN])
 exact h1.kids _ (by simp [wrapN])

set_option maxRecDepth 100000 in
set_option maxHeartbeats 16000000 in
theorem of_is (d : Nat) (p x : T) (f : Int) (A Ae : Option Addr) (c ce : Nat) (w : World) (hr : Rep w (Lt w.heap.size) (d + 1) p (nd p A c)) (hx : Rep w (Lt w.heap.size) (d + 1) x (nd x Ae ce)) (hD : d < 1000) (hsz : size p ≤ 1000000) (hsx : size x ≤ 100000) (hT : ST w) (hg : 0 < w.heap.size) :
  Calls Tryd.prog 29 #[.agg #[.int .i64 p.k,.int .i64 p.n,.int .i64 p.m,.slice A p.kids.length c],.int .i64 f,.agg #[.int .i64 x.k,.int .i64 x.n,.int .i64 x.m,.slice Ae x.kids.length ce]] w fun e w'=>e = .returned (.tuple #[.agg #[.int .i64 (ofK p f x).1,.int .i64 0,.int .i64 0,.slice none 0 0],.int .i64 (ofK p f x).2])∧Below w.heap.size w w':=by
 obtain ⟨z,hz⟩:∃ z,z = w.heap.size:=⟨_,rfl⟩
 obtain ⟨g1,hg1⟩:∃ z,z = w.heap.size + 1:=⟨_,rfl⟩
 obtain ⟨g2,hg2⟩:∃ z,z = w.heap.size + 1 + 1:=⟨_,rfl⟩
 obtain ⟨nk,hnk⟩:∃ z,z = p.kids.length:=⟨_,rfl⟩
 obtain ⟨k,hk⟩:∃ z,z = p.k:=⟨_,rfl⟩
 obtain ⟨n,hn⟩:∃ z,z = p.n:=⟨_,rfl⟩
 obtain ⟨m,hm⟩:∃ z,z = p.m:=⟨_,rfl⟩
 obtain ⟨ne,hne⟩:∃ z,z = x.kids.length:=⟨_,rfl⟩
 obtain ⟨ek,hek⟩:∃ z,z = x.k:=⟨_,rfl⟩
 obtain ⟨en,hen⟩:∃ z,z = x.n:=⟨_,rfl⟩
 obtain ⟨em,hem⟩:∃ z,z = x.m:=⟨_,rfl⟩
 obtain ⟨W1,hW1⟩:∃ W,W = ((w.alloc (.cells #[.int .i64 k,.int .i64 n,.int .i64 m,.slice A nk c] 25)).alloc (.cells #[.int .i64 ek,.int .i64 en,.int .i64 em,.slice Ae ne ce] 25)).alloc (.cells #[.int .i64 0,.int .i64 0,.int .i64 0,.slice none 0 0] 25):=⟨_,rfl⟩
 have hb1:Below w.heap.size w W1:=by rw [hW1]; exact ba (ba (below_new _ _) _) _
 have k0:Blk W1 z 25 #[.int .i64 k,.int .i64 n,.int .i64 m,.slice A nk c]:=by rw [hW1,hz]; exact ((Blk.new _ _ _).alloc _).alloc _
 have k1:Blk W1 g1 25 #[.int .i64 ek,.int .i64 en,.int .i64 em,.slice Ae ne ce]:=by rw [hW1]; exact (Blk.new_at _ _ (by rw [size_alloc,hg1]) rfl).alloc _
 have k2:Blk W1 g2 25 #[.int .i64 0,.int .i64 0,.int .i64 0,.slice none 0 0]:=by rw [hW1]; exact Blk.new_at _ _ (by rw [size_alloc,size_alloc,hg2]) rfl
 have HKC:Hid (∀ W,Below W1.heap.size W1 W→(W.cell? ⟨z,0,none⟩ = some (.int .i64 k)∧W.cell? ⟨z,1,none⟩ = some (.int .i64 n)∧W.cell? ⟨z,2,none⟩ = some (.int .i64 m)∧W.cell? ⟨z,3,none⟩ = some (.slice A nk c))∧(W.cell? ⟨g1,0,none⟩ = some (.int .i64 ek)∧W.cell? ⟨g1,1,none⟩ = some (.int .i64 en)∧W.cell? ⟨g1,2,none⟩ = some (.int .i64 em)∧W.cell? ⟨g1,3,none⟩ = some (.slice Ae ne ce))∧(W.cell? ⟨g2,0,none⟩ = some (.int .i64 0)∧W.cell? ⟨g2,1,none⟩ = some (.int .i64 0)∧W.cell? ⟨g2,2,none⟩ = some (.int .i64 0)∧W.cell? ⟨g2,3,none⟩ = some (.slice none 0 0))∧(W.frozen? ⟨g2,0,none⟩ = false∧W.frozen? ⟨g2,1,none⟩ = false∧W.frozen? ⟨g2,2,none⟩ = false∧W.frozen? ⟨g2,3,none⟩ = false)):=Lib.hid fun W hb=>by
  have e0:=k0.below hb k0.lt
  have e1:=k1.below hb k1.lt
  have e2:=k2.below hb k2.lt
  exact ⟨⟨e0.cell 0,e0.cell 1,e0.cell 2,e0.cell 3⟩,⟨e1.cell 0,e1.cell 1,e1.cell 2,e1.cell 3⟩,⟨e2.cell 0,e2.cell 1,e2.cell 2,e2.cell 3⟩,e2.frozen 0,e2.frozen 1,e2.frozen 2,e2.frozen 3⟩
 obtain ⟨⟨y0,y1,y2,y3⟩,⟨x0,x1,x2,x3⟩,⟨u0,u1,u2,u3⟩,f0,f1,f2,f3⟩:=HKC.out W1 (Below.refl _ _)
 obtain ⟨vp,hvp⟩:∃ v,v = isProg p:=⟨_,rfl⟩
 obtain ⟨ve,hve⟩:∃ v,v = isProg (wrapN 4 x):=⟨_,rfl⟩
 have HVP:Hid (∀ W,Below W1.heap.size W1 W→Calls Tryd.prog 18 #[.agg #[.int .i64 k,.int .i64 n,.int .i64 m,.slice A nk c]] W fun e w'=>e = .returned (.bool vp)∧Below W.heap.size W w'):=Lib.hid fun W hb=>by
  have hbw:=bt hb1 hb
  have h:=tvalid_is (d + 1) p _ A c W (rep_next hr hbw) (In.lt _) hsz (hT.below hbw hg) (Nat.lt_of_lt_of_le hg hbw.size)
  rw [← hvp,← hnk,← hk,← hn,← hm] at h
  exact h
 have HVE:Hid (∀ W,Below W1.heap.size W1 W→Calls Tryd.prog 62 #[.agg #[.int .i64 ek,.int .i64 en,.int .i64 em,.slice Ae ne ce]] W fun e w'=>e = .returned (.bool ve)∧Below W.heap.size W w'):=Lib.hid fun W hb=>by
  have hbw:=bt hb1 hb
  have h:=isExpr_is (d + 1) x Ae ce W (rep_next hx hbw) hsx (hT.below hbw hg) (Nat.lt_of_lt_of_le hg hbw.size)
  rw [← hve,← hne,← hek,← hen,← hem] at h
  exact h
 obtain ⟨rk,hrk⟩:∃ z,z = (ofK p f x).1:=⟨_,rfl⟩
 obtain ⟨re,hre⟩:∃ z,z = (ofK p f x).2:=⟨_,rfl⟩
 have HO:Hid ((rk,re) = if vp = false then (0,2) else if ve = false then (0,2) else if f < 0∨(nk:Int)≤f then (0,5) else if (firstW (scO p (tAt p.kids f)) x).2≠0 then (0,(firstW (scO p (tAt p.kids f)) x).2) else (typeOf (scO p (tAt p.kids f)) x,0)):=Lib.hid (by rw [hrk,hre,hvp,hve,hnk]; rfl)
 have HW1:=Lib.hid hW1
 have HZ:=Lib.hid hz
 have HG1:=Lib.hid hg1
 have HG2:=Lib.hid hg2
 have HB1:=Lib.hid hb1
 have HK2:=Lib.hid k2
 have HRP:=Lib.hid (rep_next hr hb1)
 have HRX:=Lib.hid (rep_next hx hb1)
 have HNK:=Lib.hid hnk
 have HK:=Lib.hid hk
 have HN:=Lib.hid hn
 have HM:=Lib.hid hm
 have HNE:=Lib.hid hne
 have HEK:=Lib.hid hek
 have HEN:=Lib.hid hen
 have HEM:=Lib.hid hem
 have HV:=Lib.hid hvp
 have HE:=Lib.hid hve
 have HD:=Lib.hid hD
 rw [← hnk,← hk,← hn,← hm,← hne,← hek,← hen,← hem,← hrk,← hre]
 clear hz hg1 hg2 hnk hk hn hm hne hek hen hem hW1 hb1 k0 k1 k2 hvp hve hrk hre hr hx hsz hsx hT hg hD
 cases vp
 case false =>
  have HO2:Hid (rk = 0∧re = 2):=Lib.hid (by have h:=HO.out; rw [if_pos rfl] at h; injection h with h1 h2; exact ⟨h1,h2⟩)
  go_enter Tryd.func29,Tryd.ntmps29
  go_upto_region 1 with fail
  rw [← HW1.out,← HG2.out,← HG1.out]
  try rw [← HZ.out]
  go_wp2_with (go_at_call 18; refine (HVP.out _ (Below.refl _ _)).mono ?_; rintro e w2 ⟨rfl,hb2⟩; have HB:=Lib.hid hb2; clear hb2 y0 y1 y2 y3 x0 x1 x2 x3 u0 u1 u2 u3 f0 f1 f2 f3; obtain ⟨⟨y0,y1,y2,y3⟩,⟨x0,x1,x2,x3⟩,⟨u0,u1,u2,u3⟩,f0,f1,f2,f3⟩:=HKC.out _ HB.out)
  obtain ⟨X,hX⟩:∃ X,X = (((w2.setCell ⟨g2,0,none⟩ (.int .i64 0)).setCell ⟨g2,1,none⟩ (.int .i64 0)).setCell ⟨g2,2,none⟩ (.int .i64 0)).setCell ⟨g2,3,none⟩ (.slice none 0 0):=⟨_,rfl⟩
  rw [← hX]
  obtain ⟨⟨r0,r1,r2,r3⟩,hbX⟩:=put4_of (HK2.out.below HB.out HK2.out.lt) (bt HB1.out HB.out) (by have:=HG2.out; omega) hX
  refine bodyPost_ret (v:=.tuple #[.agg #[.int .i64 0,.int .i64 0,.int .i64 0,.slice none 0 0],.int .i64 2]) (by simp [results,Tryd.results29,go_sem,r0,r1,r2,r3]) rfl ⟨?_,hbX⟩
  rw [HO2.out.1,HO2.out.2]
 cases ve
 case false =>
  have HO2:Hid (rk = 0∧re = 2):=Lib.hid (by have h:=HO.out; rw [if_neg (by simp),if_pos rfl] at h; injection h with h1 h2; exact ⟨h1,h2⟩)
  go_enter Tryd.func29,Tryd.ntmps29
  go_upto_region 1 with fail
  rw [← HW1.out,← HG2.out,← HG1.out]
  try rw [← HZ.out]
  go_wp2_with (first
   | (go_at_call 18; refine (HVP.out _ (Below.refl _ _)).mono ?_; rintro e w2 ⟨rfl,hb2⟩; have HB:=Lib.hid hb2; clear hb2 y0 y1 y2 y3 x0 x1 x2 x3 u0 u1 u2 u3 f0 f1 f2 f3; obtain ⟨⟨y0,y1,y2,y3⟩,⟨x0,x1,x2,x3⟩,⟨u0,u1,u2,u3⟩,f0,f1,f2,f3⟩:=HKC.out _ HB.out)
   | (go_at_call 62; refine (HVE.out _ HB.out).mono ?_; rintro e w3 ⟨rfl,hb3⟩; replace HB:=Lib.hid (bt HB.out hb3); clear hb3 y0 y1 y2 y3 x0 x1 x2 x3 u0 u1 u2 u3 f0 f1 f2 f3; obtain ⟨⟨y0,y1,y2,y3⟩,⟨x0,x1,x2,x3⟩,⟨u0,u1,u2,u3⟩,f0,f1,f2,f3⟩:=HKC.out _ HB.out))
  obtain ⟨X,hX⟩:∃ X,X = (((w3.setCell ⟨g2,0,none⟩ (.int .i64 0)).setCell ⟨g2,1,none⟩ (.int .i64 0)).setCell ⟨g2,2,none⟩ (.int .i64 0)).setCell ⟨g2,3,none⟩ (.slice none 0 0):=⟨_,rfl⟩
  rw [← hX]
  obtain ⟨⟨r0,r1,r2,r3⟩,hbX⟩:=put4_of (HK2.out.below HB.out HK2.out.lt) (bt HB1.out HB.out) (by have:=HG2.out; omega) hX
  refine bodyPost_ret (v:=.tuple #[.agg #[.int .i64 0,.int .i64 0,.int .i64 0,.slice none 0 0],.int .i64 2]) (by simp [results,Tryd.results29,go_sem,r0,r1,r2,r3]) rfl ⟨?_,hbX⟩
  rw [HO2.out.1,HO2.out.2]
 have HO1:Hid ((rk,re) = if f < 0∨(nk:Int)≤f then (0,5) else if (firstW (scO p (tAt p.kids f)) x).2≠0 then (0,(firstW (scO p (tAt p.kids f)) x).2) else (typeOf (scO p (tAt p.kids f)) x,0)):=Lib.hid (by have h:=HO.out; rw [if_neg (by simp),if_neg (by simp)] at h; exact h)
 by_cases hf0:f < 0
 ·have hd0:decide (f < 0) = true:=decide_eq_true hf0
  have HO2:Hid (rk = 0∧re = 5):=Lib.hid (by have h:=HO.out; clear h; have h:=HO1.out; rw [if_pos (.inl hf0)] at h; injection h with h1 h2; exact ⟨h1,h2⟩)
  go_enter Tryd.func29,Tryd.ntmps29
  go_upto_region 1 with fail
  rw [← HW1.out,← HG2.out,← HG1.out]
  try rw [← HZ.out]
  go_wp2_with (first
   | (go_at_call 18; refine (HVP.out _ (Below.refl _ _)).mono ?_; rintro e w2 ⟨rfl,hb2⟩; have HB:=Lib.hid hb2; clear hb2 y0 y1 y2 y3 x0 x1 x2 x3 u0 u1 u2 u3 f0 f1 f2 f3; obtain ⟨⟨y0,y1,y2,y3⟩,⟨x0,x1,x2,x3⟩,⟨u0,u1,u2,u3⟩,f0,f1,f2,f3⟩:=HKC.out _ HB.out)
   | (go_at_call 62; refine (HVE.out _ HB.out).mono ?_; rintro e w3 ⟨rfl,hb3⟩; replace HB:=Lib.hid (bt HB.out hb3); clear hb3 y0 y1 y2 y3 x0 x1 x2 x3 u0 u1 u2 u3 f0 f1 f2 f3; obtain ⟨⟨y0,y1,y2,y3⟩,⟨x0,x1,x2,x3⟩,⟨u0,u1,u2,u3⟩,f0,f1,f2,f3⟩:=HKC.out _ HB.out))
  obtain ⟨X,hX⟩:∃ X,X = (((w3.setCell ⟨g2,0,none⟩ (.int .i64 0)).setCell ⟨g2,1,none⟩ (.int .i64 0)).setCell ⟨g2,2,none⟩ (.int .i64 0)).setCell ⟨g2,3,none⟩ (.slice none 0 0):=⟨_,rfl⟩
  rw [← hX]
  obtain ⟨⟨r0,r1,r2,r3⟩,hbX⟩:=put4_of (HK2.out.below HB.out HK2.out.lt) (bt HB1.out HB.out) (by have:=HG2.out; omega) hX
  refine bodyPost_ret (v:=.tuple #[.agg #[.int .i64 0,.int .i64 0,.int .i64 0,.slice none 0 0],.int .i64 5]) (by simp [results,Tryd.results29,go_sem,r0,r1,r2,r3]) rfl ⟨?_,hbX⟩
  rw [HO2.out.1,HO2.out.2]
 have hd0:decide (f < 0) = false:=decide_eq_false hf0
 by_cases hf1:(nk:Int)≤f
 ·have hd1:decide ((nk:Int)≤f) = true:=decide_eq_true hf1
  have HO2:Hid (rk = 0∧re = 5):=Lib.hid (by have h:=HO.out; clear h; have h:=HO1.out; rw [if_pos (.inr hf1)] at h; injection h with h1 h2; exact ⟨h1,h2⟩)
  go_enter Tryd.func29,Tryd.ntmps29
  go_upto_region 1 with fail
  rw [← HW1.out,← HG2.out,← HG1.out]
  try rw [← HZ.out]
  go_wp2_with (first
   | (go_at_call 18; refine (HVP.out _ (Below.refl _ _)).mono ?_; rintro e w2 ⟨rfl,hb2⟩; have HB:=Lib.hid hb2; clear hb2 y0 y1 y2 y3 x0 x1 x2 x3 u0 u1 u2 u3 f0 f1 f2 f3; obtain ⟨⟨y0,y1,y2,y3⟩,⟨x0,x1,x2,x3⟩,⟨u0,u1,u2,u3⟩,f0,f1,f2,f3⟩:=HKC.out _ HB.out)
   | (go_at_call 62; refine (HVE.out _ HB.out).mono ?_; rintro e w3 ⟨rfl,hb3⟩; replace HB:=Lib.hid (bt HB.out hb3); clear hb3 y0 y1 y2 y3 x0 x1 x2 x3 u0 u1 u2 u3 f0 f1 f2 f3; obtain ⟨⟨y0,y1,y2,y3⟩,⟨x0,x1,x2,x3⟩,⟨u0,u1,u2,u3⟩,f0,f1,f2,f3⟩:=HKC.out _ HB.out))
  obtain ⟨X,hX⟩:∃ X,X = (((w3.setCell ⟨g2,0,none⟩ (.int .i64 0)).setCell ⟨g2,1,none⟩ (.int .i64 0)).setCell ⟨g2,2,none⟩ (.int .i64 0)).setCell ⟨g2,3,none⟩ (.slice none 0 0):=⟨_,rfl⟩
  rw [← hX]
  obtain ⟨⟨r0,r1,r2,r3⟩,hbX⟩:=put4_of (HK2.out.below HB.out HK2.out.lt) (bt HB1.out HB.out) (by have:=HG2.out; omega) hX
  refine bodyPost_ret (v:=.tuple #[.agg #[.int .i64 0,.int .i64 0,.int .i64 0,.slice none 0 0],.int .i64 5]) (by simp [results,Tryd.results29,go_sem,r0,r1,r2,r3]) rfl ⟨?_,hbX⟩
  rw [HO2.out.1,HO2.out.2]
 have hd1:decide ((nk:Int)≤f) = false:=decide_eq_false hf1
 obtain ⟨j,rfl⟩:=Int.eq_ofNat_of_zero_le (show 0≤f by omega)
 obtain ⟨u,hu⟩:∃ u,p.kids[j]? = some u:=⟨_,List.getElem?_eq_getElem (by rw [← HNK.out]; omega)⟩
 obtain ⟨s,hs⟩:∃ s,s = scO p u:=⟨_,rfl⟩
 obtain ⟨q,hq⟩:∃ q,q = firstW s x:=⟨_,rfl⟩
 have HO3:Hid ((rk,re) = if q.2≠0 then (0,q.2) else (typeOf s x,0)):=Lib.hid (by have h:=HO1.out; rw [if_neg (by omega),tAt_j hu,← hs,← hq] at h; exact h)
 have hkid:=prog_kid HV.out.symm (List.mem_of_getElem? hu)
 have hfx:=expr_fit HE.out.symm
 have hnd:Nds W1 (Lt W1.heap.size) (d + 1) p.kids A c:=by
  obtain ⟨xs,hrd,hrs⟩:=HRP.out.kids
  have h:=HV.out.symm
  have hp:IsProg p:=by unfold isProg at h; simpa using h
  have:=(nok_of ((prog_iff p).1 hp).2.2.2).len
  exact Nds.deeper (d:=d) ⟨⟨xs,hrd,hrs⟩,HRP.out.cap,by omega⟩ (by omega)
 have e1:s.funs.length = nk:=by rw [hs]; exact HNK.out.symm
 have e2:s.ch = n:=by rw [hs]; exact HN.out.symm
 have HSO:Hid (∀ W,Below W1.heap.size W1 W→Calls Tryd.prog 63 #[.agg #[.int .i64 k,.int .i64 n,.int .i64 m,.slice A nk c],.int .i64 (j:Int)] W fun e w'=>∃ A' c',e = .returned (.agg #[.slice A' s.vars.length c',.slice A nk c,.int .i64 n])∧ScR w' (d + 1) s A' c' A c∧Below W.heap.size W w'):=Lib.hid fun W hb=>by
  have h:=scopeOf_is p u j d A c W (hnd.next hb) hu ⟨by have:=hkid.n0; have:=hkid.n1; omega,by have:=hkid.len; omega⟩
  rw [← hs,e1,e2,← HNK.out,← HK.out,← HN.out,← HM.out] at h
  exact h
 have HFW:Hid (∀ W A2 c2,Below W1.heap.size W1 W→ScR W (d + 1) s A2 c2 A c→Calls Tryd.prog 64 #[.agg #[.slice A2 s.vars.length c2,.slice A nk c,.int .i64 n],.agg #[.int .i64 ek,.int .i64 en,.int .i64 em,.slice Ae ne ce]] W fun e w'=>∃ A' c',e = .returned (.tuple #[.slice A' q.1.length c',.int .i64 q.2])∧Below W.heap.size W w'):=Lib.hid fun W A2 c2 hb hsc=>by
  have h:=firstWrong_is s x (d + 1) (d + 1) A2 A Ae c2 c ce W hsc (rep_next HRX.out hb) hfx (by have:=HD.out; omega) (by rw [hs]; exact prog_fok HV.out.symm)
  rw [e1,e2,← hq,← HNE.out,← HEK.out,← HEN.out,← HEM.out] at h
  refine h.mono ?_
  rintro e w' ⟨A',c',h1,_,h3⟩
  exact ⟨A',c',h1,h3⟩
 have HTY:Hid (∀ W A2 c2,Below W1.heap.size W1 W→ScR W (d + 1) s A2 c2 A c→Calls Tryd.prog 65 #[.agg #[.slice A2 s.vars.length c2,.slice A nk c,.int .i64 n],.agg #[.int .i64 ek,.int .i64 en,.int .i64 em,.slice Ae ne ce]] W fun e w'=>e = .returned (.int .i64 (typeOf s x))∧Below W.heap.size W w'):=Lib.hid fun W A2 c2 hb hsc=>by
  have ho:=aok_of (nok_of hfx)
  have h:=typeOf_is s x (d + 1) Ae A2 A ce c2 c W hsc ho.2.2 ho.1 ho.2.1
  rw [e1,e2,← HNE.out,← HEK.out,← HEN.out,← HEM.out] at h
  exact h
 obtain ⟨nv,hnv⟩:∃ z,z = s.vars.length:=⟨_,rfl⟩
 obtain ⟨ty,hty⟩:∃ z,z = typeOf s x:=⟨_,rfl⟩
 rw [← hnv] at HSO HFW HTY
 rw [← hty] at HTY HO3
 obtain ⟨ql,er⟩:=q
 simp only at HFW HO3
 obtain ⟨nq,hnq⟩:∃ z,z = ql.length:=⟨_,rfl⟩
 rw [← hnq] at HFW
 have hjb:(0:Int)≤(j:Int)∧(j:Int) < (nk:Int):=⟨by omega,by omega⟩
 clear hs hq hkid hfx hnd e1 e2 hnv hty hnq hu
 by_cases he:er = 0
 ·have he2:(er != 0) = false:=by rw [bne_eq_false_iff_eq]; exact he
  have HO2:Hid (rk = ty∧re = 0):=Lib.hid (by have h:=HO.out; clear h; have h:=HO3.out; rw [if_neg (by simpa using he)] at h; injection h with h1 h2; exact ⟨h1,h2⟩)
  clear he
  go_enter Tryd.func29,Tryd.ntmps29
  go_upto_region 1 with fail
  rw [← HW1.out,← HG2.out,← HG1.out]
  try rw [← HZ.out]
  go_upto_region 6 with (first
   | (go_at_call 18; refine (HVP.out _ (Below.refl _ _)).mono ?_; rintro e w2 ⟨rfl,hb2⟩; have HB:=Lib.hid hb2; clear hb2 y0 y1 y2 y3 x0 x1 x2 x3 u0 u1 u2 u3 f0 f1 f2 f3; obtain ⟨⟨y0,y1,y2,y3⟩,⟨x0,x1,x2,x3⟩,⟨u0,u1,u2,u3⟩,f0,f1,f2,f3⟩:=HKC.out _ HB.out)
   | (go_at_call 62; refine (HVE.out _ HB.out).mono ?_; rintro e w3 ⟨rfl,hb3⟩; replace HB:=Lib.hid (bt HB.out hb3); clear hb3 y0 y1 y2 y3 x0 x1 x2 x3 u0 u1 u2 u3 f0 f1 f2 f3; obtain ⟨⟨y0,y1,y2,y3⟩,⟨x0,x1,x2,x3⟩,⟨u0,u1,u2,u3⟩,f0,f1,f2,f3⟩:=HKC.out _ HB.out)
   | (go_at_call 63; refine (HSO.out _ HB.out).mono ?_; rintro e w4 ⟨A2,c2,rfl,hsc,hb4⟩; replace HB:=Lib.hid (bt HB.out hb4); have HSC:=Lib.hid hsc; clear hb4 hsc y0 y1 y2 y3 x0 x1 x2 x3 u0 u1 u2 u3 f0 f1 f2 f3))
  obtain ⟨W5,hW5⟩:∃ W,W = w4.alloc (.cells #[.slice A2 nv c2,.slice A nk c,.int .i64 n] 79):=⟨_,rfl⟩
  obtain ⟨g8,hg8⟩:∃ z,z = w4.heap.size:=⟨_,rfl⟩
  have k8:Blk W5 g8 79 #[.slice A2 nv c2,.slice A nk c,.int .i64 n]:=by rw [hW5,hg8]; exact Blk.new _ _ _
  have hb45:Below w4.heap.size w4 W5:=by rw [hW5]; exact below_new _ _
  rw [← hW5,← hg8]
  replace HB:=Lib.hid (bt HB.out hb45)
  have HSC5:=Lib.hid (HSC.out.next hb45)
  have HK8:=Lib.hid k8
  obtain ⟨s0,s1,s2⟩:W5.cell? ⟨g8,0,none⟩ = some (.slice A2 nv c2)∧W5.cell? ⟨g8,1,none⟩ = some (.slice A nk c)∧W5.cell? ⟨g8,2,none⟩ = some (.int .i64 n):=⟨k8.cell 0,k8.cell 1,k8.cell 2⟩
  obtain ⟨⟨y0,y1,y2,y3⟩,⟨x0,x1,x2,x3⟩,⟨u0,u1,u2,u3⟩,f0,f1,f2,f3⟩:=HKC.out _ HB.out
  clear hW5 hg8 k8 hb45
  go_wp2_with (first
   | (go_at_call 64; refine (HFW.out _ _ _ HB.out HSC5.out).mono ?_; rintro e w6 ⟨A6,c6,rfl,hb6⟩; replace HB:=Lib.hid (bt HB.out hb6); have HSC6:=Lib.hid (HSC5.out.next hb6); have HK86:=Lib.hid (HK8.out.below hb6 HK8.out.lt); clear hb6 s0 s1 s2 y0 y1 y2 y3 x0 x1 x2 x3 u0 u1 u2 u3 f0 f1 f2 f3; obtain ⟨⟨y0,y1,y2,y3⟩,⟨x0,x1,x2,x3⟩,⟨u0,u1,u2,u3⟩,f0,f1,f2,f3⟩:=HKC.out _ HB.out; obtain ⟨s0,s1,s2⟩:w6.cell? ⟨g8,0,none⟩ = some (.slice A2 nv c2)∧w6.cell? ⟨g8,1,none⟩ = some (.slice A nk c)∧w6.cell? ⟨g8,2,none⟩ = some (.int .i64 n):=⟨HK86.out.cell 0,HK86.out.cell 1,HK86.out.cell 2⟩)
   | (go_at_call 65; refine (HTY.out _ _ _ HB.out HSC6.out).mono ?_; rintro e w7 ⟨rfl,hb7⟩; replace HB:=Lib.hid (bt HB.out hb7); clear hb7 s0 s1 s2 y0 y1 y2 y3 x0 x1 x2 x3 u0 u1 u2 u3 f0 f1 f2 f3; obtain ⟨⟨y0,y1,y2,y3⟩,⟨x0,x1,x2,x3⟩,⟨u0,u1,u2,u3⟩,f0,f1,f2,f3⟩:=HKC.out _ HB.out))
  obtain ⟨X,hX⟩:∃ X,X = (((w7.setCell ⟨g2,0,none⟩ (.int .i64 ty)).setCell ⟨g2,1,none⟩ (.int .i64 0)).setCell ⟨g2,2,none⟩ (.int .i64 0)).setCell ⟨g2,3,none⟩ (.slice none 0 0):=⟨_,rfl⟩
  rw [← hX]
  obtain ⟨⟨r0,r1,r2,r3⟩,hbX⟩:=put4_of (HK2.out.below HB.out HK2.out.lt) (bt HB1.out HB.out) (by have:=HG2.out; omega) hX
  refine bodyPost_ret (v:=.tuple #[.agg #[.int .i64 ty,.int .i64 0,.int .i64 0,.slice none 0 0],.int .i64 0]) (by simp [results,Tryd.results29,go_sem,r0,r1,r2,r3]) rfl ⟨?_,hbX⟩
  rw [HO2.out.1,HO2.out.2]
 ·have he2:(er != 0) = true:=by rw [bne_iff_ne]; exact he
  have HO2:Hid (rk = 0∧re = er):=Lib.hid (by have h:=HO.out; clear h; have h:=HO3.out; rw [if_pos he] at h; injection h with h1 h2; exact ⟨h1,h2⟩)
  clear he
  go_enter Tryd.func29,Tryd.ntmps29
  go_upto_region 1 with fail
  rw [← HW1.out,← HG2.out,← HG1.out]
  try rw [← HZ.out]
  go_upto_region 6 with (first
   | (go_at_call 18; refine (HVP.out _ (Below.refl _ _)).mono ?_; rintro e w2 ⟨rfl,hb2⟩; have HB:=Lib.hid hb2; clear hb2 y0 y1 y2 y3 x0 x1 x2 x3 u0 u1 u2 u3 f0 f1 f2 f3; obtain ⟨⟨y0,y1,y2,y3⟩,⟨x0,x1,x2,x3⟩,⟨u0,u1,u2,u3⟩,f0,f1,f2,f3⟩:=HKC.out _ HB.out)
   | (go_at_call 62; refine (HVE.out _ HB.out).mono ?_; rintro e w3 ⟨rfl,hb3⟩; replace HB:=Lib.hid (bt HB.out hb3); clear hb3 y0 y1 y2 y3 x0 x1 x2 x3 u0 u1 u2 u3 f0 f1 f2 f3; obtain ⟨⟨y0,y1,y2,y3⟩,⟨x0,x1,x2,x3⟩,⟨u0,u1,u2,u3⟩,f0,f1,f2,f3⟩:=HKC.out _ HB.out)
   | (go_at_call 63; refine (HSO.out _ HB.out).mono ?_; rintro e w4 ⟨A2,c2,rfl,hsc,hb4⟩; replace HB:=Lib.hid (bt HB.out hb4); have HSC:=Lib.hid hsc; clear hb4 hsc y0 y1 y2 y3 x0 x1 x2 x3 u0 u1 u2 u3 f0 f1 f2 f3))
  obtain ⟨W5,hW5⟩:∃ W,W = w4.alloc (.cells #[.slice A2 nv c2,.slice A nk c,.int .i64 n] 79):=⟨_,rfl⟩
  obtain ⟨g8,hg8⟩:∃ z,z = w4.heap.size:=⟨_,rfl⟩
  have k8:Blk W5 g8 79 #[.slice A2 nv c2,.slice A nk c,.int .i64 n]:=by rw [hW5,hg8]; exact Blk.new _ _ _
  have hb45:Below w4.heap.size w4 W5:=by rw [hW5]; exact below_new _ _
  rw [← hW5,← hg8]
  replace HB:=Lib.hid (bt HB.out hb45)
  have HSC5:=Lib.hid (HSC.out.next hb45)
  have HK8:=Lib.hid k8
  obtain ⟨s0,s1,s2⟩:W5.cell? ⟨g8,0,none⟩ = some (.slice A2 nv c2)∧W5.cell? ⟨g8,1,none⟩ = some (.slice A nk c)∧W5.cell? ⟨g8,2,none⟩ = some (.int .i64 n):=⟨k8.cell 0,k8.cell 1,k8.cell 2⟩
  obtain ⟨⟨y0,y1,y2,y3⟩,⟨x0,x1,x2,x3⟩,⟨u0,u1,u2,u3⟩,f0,f1,f2,f3⟩:=HKC.out _ HB.out
  clear hW5 hg8 k8 hb45
  go_wp2_with (go_at_call 64; refine (HFW.out _ _ _ HB.out HSC5.out).mono ?_; rintro e w6 ⟨A6,c6,rfl,hb6⟩; replace HB:=Lib.hid (bt HB.out hb6); have HSC6:=Lib.hid (HSC5.out.next hb6); have HK86:=Lib.hid (HK8.out.below hb6 HK8.out.lt); clear hb6 s0 s1 s2 y0 y1 y2 y3 x0 x1 x2 x3 u0 u1 u2 u3 f0 f1 f2 f3; obtain ⟨⟨y0,y1,y2,y3⟩,⟨x0,x1,x2,x3⟩,⟨u0,u1,u2,u3⟩,f0,f1,f2,f3⟩:=HKC.out _ HB.out; obtain ⟨s0,s1,s2⟩:w6.cell? ⟨g8,0,none⟩ = some (.slice A2 nv c2)∧w6.cell? ⟨g8,1,none⟩ = some (.slice A nk c)∧w6.cell? ⟨g8,2,none⟩ = some (.int .i64 n):=⟨HK86.out.cell 0,HK86.out.cell 1,HK86.out.cell 2⟩)
  obtain ⟨X,hX⟩:∃ X,X = (((w6.setCell ⟨g2,0,none⟩ (.int .i64 0)).setCell ⟨g2,1,none⟩ (.int .i64 0)).setCell ⟨g2,2,none⟩ (.int .i64 0)).setCell ⟨g2,3,none⟩ (.slice none 0 0):=⟨_,rfl⟩
  rw [← hX]
  obtain ⟨⟨r0,r1,r2,r3⟩,hbX⟩:=put4_of (HK2.out.below HB.out HK2.out.lt) (bt HB1.out HB.out) (by have:=HG2.out; omega) hX
  refine bodyPost_ret (v:=.tuple #[.agg #[.int .i64 0,.int .i64 0,.int .i64 0,.slice none 0 0],.int .i64 er]) (by simp [results,Tryd.results29,go_sem,r0,r1,r2,r3]) rfl ⟨?_,hbX⟩
  rw [HO2.out.1,HO2.out.2]
end Go.Proofs.YtkkenbalpnmfmaaDoor

namespace Go.Proofs.YtkkenbalpnmfmaaDoor
open Go.RowKit WM TR TY

def es (t:T):List T:=(if isEx t.k = true then [t] else []) ++ (t.kids.attach.map fun u=>es u.1).flatten
 termination_by t
 decreasing_by exact kid_lt u.2
theorem es_eq (t:T):es t = (if isEx t.k = true then [t] else []) ++ (t.kids.map es).flatten:=by
 rw [es]
 congr 2
 exact List.attach_map_val (f:=es)
theorem es_mem {t e:T} (h:e ∈ es t):(e = t∧isEx t.k = true)∨∃ u ∈ t.kids,e ∈ es u:=by
 rw [es_eq] at h
 rcases List.mem_append.1 h with h | h
 ·by_cases hx:isEx t.k = true
  ·rw [if_pos hx] at h; simp at h; exact .inl ⟨h,hx⟩
  ·rw [if_neg hx] at h; simp at h
 ·obtain ⟨l,hl,he⟩:=List.mem_flatten.1 h
  obtain ⟨u,hu,rfl⟩:=List.mem_map.1 hl
  exact .inr ⟨u,hu,he⟩

theorem depth_mem {t u:T} (h:u ∈ t.kids):depth u < depth t:=by
 obtain ⟨i,hi⟩:=List.mem_iff_getElem?.1 h
 exact depth_kid hi
theorem size_mem {t u:T} (h:u ∈ t.kids):size u < size t:=by
 obtain ⟨i,hi⟩:=List.mem_iff_getElem?.1 h
 exact size_kid hi
theorem es_sub (t e:T) (h:e ∈ es t):size e≤size t∧depth e≤depth t∧isEx e.k = true∧(Fit t→Fit e)∧(∀ s,okW s t→okW s e):=by
 rcases es_mem h with ⟨rfl,hx⟩ | ⟨u,hu,he⟩
 ·exact ⟨Nat.le_refl _,Nat.le_refl _,hx,id,fun _ h=>h⟩
 ·obtain ⟨h1,h2,h3,h4,h5⟩:=es_sub u e he
  have:=size_mem hu
  have:=depth_mem hu
  exact ⟨by omega,by omega,h3,fun hf=>h4 (hf.kids u hu),fun s hs=>h5 s (((ok_iff s t).1 hs).2 u hu)⟩
 termination_by t
 decreasing_by exact kid_lt hu
theorem isEx_iff {k:Int}:isEx k = true↔4≤k∧k≤12:=by unfold isEx; simp
theorem wrap_ok {e:T} (hk:isEx e.k = true) (hf:Fit e) (hs:size e + 4≤256) (hd:depth e + 4≤16):isProg (wrapN 4 e) = true:=by
 have he:isExpr e = true:=(agree e).ex.2 ⟨isEx_iff.1 hk,hf⟩
 have h1:isStmt (wrapN 1 e) = true:=by
  rw [isStmt_eq]; simp [wrapN,wk,stmtOf,he,btw]
 have h2:isBlock (wrapN 2 e) = true:=by
  rw [isBlock_eq]
  have hk:(wrapN 2 e).kids = [wrapN 1 e]:=rfl
  rw [hk]
  have h1':isStmt ⟨19,0,0,[e]⟩ = true:=h1
  simp [btw,wrapN,wk,h1']
 have h3:isFun (wrapN 3 e) = true:=by
  refine isFun_true ⟨rfl,by simp [btw,wrapN,wk],by simp [wrapN,wk],fun i u hi hu=>?_,fun u hu=>?_⟩
  ·have hi2:i + 1 < 1:=hi
   omega
  ·have hu2:([wrapN 2 e]:List T)[1 - 1]? = some u:=hu
   simp at hu2
   rw [← hu2]; exact h2
 refine isProg_true ⟨rfl,by simp [btw,wrapN,wk],by rw [wrap_size]; exact hs,?_,fun i u hu=>?_⟩
 ·have hd1 : ∀ j, depth (wrapN j e) = depth e + j := by
   intro j
   induction j with
   | zero=>rfl
   | succ j ih=>rw [depth_eq]; simp [wrapN,ih]; omega
  rw [hd1]; exact hd
 ·have hu2:([wrapN 3 e]:List T)[i]? = some u:=hu
  have hi:i = 0:=by have:=(List.getElem?_eq_some_iff.1 hu2).1; simp at this; exact this
  subst hi
  simp at hu2
  rw [← hu2]; exact h3
theorem es_body {p u x e:T} (hp:isProg p = true) (hu:u ∈ p.kids) (hx:u.kids[u.kids.length - 1]? = some x) (he:e ∈ es x):isProg (wrapN 4 e) = true∧Fit e:=by
 have hpp:IsProg p:=by unfold isProg at hp; simpa using hp
 have hfit:=((prog_iff p).1 hpp).2.2.2
 obtain ⟨i,hi⟩:=List.mem_iff_getElem?.1 hu
 have hfu:IsFun u:=by have h:=hpp.2.2.2.2 i u hi; unfold isFun at h; simpa using h
 have hb:isBlock x = true:=hfu.2.2.2.2 x hx
 have hxm:=List.mem_of_getElem? hx
 rw [isBlock_eq] at hb
 simp only [Bool.and_eq_true,beq_iff_eq] at hb
 have hfx:Fit x:=(hfit.kids u hu).kids x hxm
 have hfe:=(es_sub x e he).2.2.2.1 hfx
 have hke:=(es_sub x e he).2.2.1
 rcases es_mem he with ⟨rfl,h⟩ | ⟨v,hv,hev⟩
 ·have:=isEx_iff.1 h; omega
 ·have hsv:isStmt v = true:=List.all_eq_true.1 hb.2 v hv
  have hkv:=((agree v).st.1 hsv).1
  rcases es_mem hev with ⟨rfl,h⟩ | ⟨v',hv',hev'⟩
  ·have:=isEx_iff.1 h; omega
  ·have h:=es_sub v' e hev'
   have s1:=size_mem hv'; have s2:=size_mem hv; have s3:=size_mem hxm; have s4:=size_mem hu
   have d1:=depth_mem hv'; have d2:=depth_mem hv; have d3:=depth_mem hxm; have d4:=depth_mem hu
   have hsz:=hpp.2.2.1
   have hdp:=hpp.2.2.2.1
   exact ⟨wrap_ok hke hfe (by omega) (by omega),hfe⟩
theorem named_range {p u:T} (hfu:IsFun u) {e:T} (hf:Fit e) (hok:okW (scO p u) e) (hk:e.k = 6∨e.k = 8):named (scO p u) e = 0∨named (scO p u) e = 1:=by
 obtain ⟨h1,h2,_⟩:=errOf_zero ((ok_iff _ e).1 hok).1
 have hno:=nok_of hf
 have h0:=hno.n (by omega)
 rcases hk with hk | hk
 ·simp [misused,hk,scal] at h2
  unfold named
  rw [if_neg (by omega)]
  omega
 ·simp [misused,hk] at h2
  simp [missing,hk,h2] at h1
  unfold named
  rw [if_pos h2]
  obtain ⟨hl,hm⟩:=h1
  have hm0:=hno.m
  have hlt:e.n.toNat < (scO p u).vars.length:=by omega
  have e0:=List.getElem?_eq_getElem hlt
  rw [tAt_some e0] at hm h2 ⊢
  obtain ⟨t,ht⟩:∃ t,t = (scO p u).vars[e.n.toNat]:=⟨_,rfl⟩
  rw [← ht] at hm h2 e0 ⊢
  have hty:isType t = true:=by
   have e1:(u.kids.take (u.kids.length - 1))[e.n.toNat]? = some t:=e0
   rw [List.getElem?_take] at e1
   split at e1
   ·rename_i hlt2
    exact (hfu.2.2.2.1 e.n.toNat t (by omega) e1).1
   ·cases e1
  unfold isType at hty
  rw [if_neg (by simp [h2]),if_pos (by simpa using h2)] at hty
  simp only [Bool.and_eq_true] at hty
  have hlt3:e.m.toNat < t.kids.length:=by omega
  have e3:=List.getElem?_eq_getElem hlt3
  rw [tAt_some e3]
  have hpl:=List.all_eq_true.1 hty.2 _ (List.mem_of_getElem? e3)
  unfold isPlain at hpl
  simp at hpl
  omega
theorem type_range01 {p u:T} (hfu:IsFun u) {e:T} (hf:Fit e) (hok:okW (scO p u) e):typeOf (scO p u) e = 0∨typeOf (scO p u) e = 1:=by
 obtain ⟨h1,h2,_⟩:=errOf_zero ((ok_iff _ e).1 hok).1
 unfold typeOf
 by_cases h5:e.k = 5∨e.k = 10
 ·rw [if_pos h5]; exact .inr rfl
 ·rw [if_neg h5]
  by_cases h9:e.k = 9
  ·rw [if_pos h9]; split
   ·exact .inr rfl
   ·exact .inl rfl
  ·rw [if_neg h9]
   by_cases h6:e.k = 6∨e.k = 8
   ·rw [if_pos h6,h1,h2]
    exact named_range hfu hf hok h6
   ·rw [if_neg h6]; exact .inl rfl

end Go.Proofs.YtkkenbalpnmfmaaDoor

namespace Go.Proofs.YtkkenbalpnmfmaaDoor
open Go.RowKit WM TR TY







end Go.Proofs.YtkkenbalpnmfmaaDoor

namespace Go.Proofs.YtkkenbalpnmfmaaDoor
open Go.RowKit WM TR TY





end Go.Proofs.YtkkenbalpnmfmaaDoor
