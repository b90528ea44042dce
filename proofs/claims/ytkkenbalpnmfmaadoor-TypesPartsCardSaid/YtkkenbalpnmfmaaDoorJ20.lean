/- Texts joined. -/
import Derived.Test.YtkkenbalpnmfmaaDoorJ11
import Derived.Test.YtkkenbalpnmfmaaDoorJ07
import Derived.Deep.RegionWith
import Derived.Deep.RegionHeld3
set_option linter.unusedVariables false
namespace Go.Proofs.YtkkenbalpnmfmaaDoor
open Go.RowKit WM TR TY

theorem drewB {a w:World} {B n:Nat} (h:Below B a w):Below B a (w.drewN n):=⟨h.os,h.tape,h.output,h.size,h.block⟩
set_option maxRecDepth 100000 in
set_option maxHeartbeats 8000000 in
theorem missing_is (s : Sc) (x : T) (d : Nat) (A Av Af : Option Addr) (c cv cf : Nat) (w : World) (hs : ScR w d s Av cv Af cf) (hkl : x.kids.length ≤ 1000000) (hn : x.k ≠ 4 → 0 ≤ x.n) (hm : 0 ≤ x.m) :
  Calls Tryd.prog 82 #[.agg #[.slice Av s.vars.length cv,.slice Af s.funs.length cf,.int .i64 s.ch],.agg #[.int .i64 x.k,.int .i64 x.n,.int .i64 x.m,.slice A x.kids.length c]] w fun e w'=>e = .returned (.bool (missing s x))∧Below w.heap.size w w':=by
 obtain ⟨k,n,m,kids⟩:=x
 simp only at hkl hn hm ⊢
 obtain ⟨vs,fs,ch⟩:=s
 simp only at *
 obtain ⟨nv,hnv⟩:∃ z,z = vs.length:=⟨_,rfl⟩
 obtain ⟨nf,hnf⟩:∃ z,z = fs.length:=⟨_,rfl⟩
 obtain ⟨nk,hnk⟩:∃ z,z = kids.length:=⟨_,rfl⟩
 have hvl:nv≤1000:=by rw [hnv]; exact hs.v.2.2
 have hfl:nf≤1000:=by rw [hnf]; exact hs.f.2.2
 rw [← hnk] at hkl
 obtain ⟨z,hz⟩:∃ z,z = w.heap.size:=⟨_,rfl⟩
 obtain ⟨W1,hW1⟩:∃ W,W = (w.alloc (.cells #[.slice Av nv cv,.slice Af nf cf,.int .i64 ch] 79)).alloc (.cells #[.int .i64 k,.int .i64 n,.int .i64 m,.slice A nk c] 25):=⟨_,rfl⟩
 have hb1:Below w.heap.size w W1:=by rw [hW1]; exact ba (below_new _ _) _
 have ks:Blk W1 z 79 #[.slice Av nv cv,.slice Af nf cf,.int .i64 ch]:=by rw [hW1,hz]; exact (Blk.new _ _ _).alloc _
 have kx:Blk W1 (z + 1) 25 #[.int .i64 k,.int .i64 n,.int .i64 m,.slice A nk c]:=by rw [hW1]; exact Blk.new_at _ _ (by rw [size_alloc,hz]) rfl
 obtain ⟨a0,a1,a2⟩:W1.cell? ⟨z,0,none⟩ = some (.slice Av nv cv)∧W1.cell? ⟨z,1,none⟩ = some (.slice Af nf cf)∧W1.cell? ⟨z,2,none⟩ = some (.int .i64 ch):=⟨ks.cell 0,ks.cell 1,ks.cell 2⟩
 obtain ⟨x0,x1,x2,x3⟩:W1.cell? ⟨z + 1,0,none⟩ = some (.int .i64 k)∧W1.cell? ⟨z + 1,1,none⟩ = some (.int .i64 n)∧W1.cell? ⟨z + 1,2,none⟩ = some (.int .i64 m)∧W1.cell? ⟨z + 1,3,none⟩ = some (.slice A nk c):=⟨kx.cell 0,kx.cell 1,kx.cell 2,kx.cell 3⟩
 have hs1:=hs.next hb1
 have hz2:(w.alloc (.cells #[.slice Av nv cv,.slice Af nf cf,.int .i64 ch] 79)).heap.size = z + 1:=by rw [size_alloc,hz]
 have HZ2:=Lib.hid hz2
 have HW1:=Lib.hid hW1
 have HZ:=Lib.hid hz
 have HB1:=Lib.hid hb1
 have HNV:=Lib.hid hnv
 have HNF:=Lib.hid hnf
 have HNK:=Lib.hid hnk
 have HS:=Lib.hid hs1
 have HKL:Hid (kids.length = nk):=Lib.hid hnk.symm
 rw [← hnv,← hnf,← hnk]
 clear hz2 hW1 hz hb1 ks kx hs hs1
 obtain ⟨r,hr⟩:∃ r,r = missing ⟨vs,fs,ch⟩ ⟨k,n,m,kids⟩:=⟨_,rfl⟩
 rw [← hr]
 by_cases h8:k = 8∨k = 16
 ·have hn0:0≤n:=hn (by omega)
  by_cases hlt:n < nv
  ·obtain ⟨j,rfl⟩:=Int.eq_ofNat_of_zero_le hn0
   have hjv:j < nv:=by omega
   obtain ⟨u,hu⟩:∃ u,vs[j]? = some u:=⟨_,List.getElem?_eq_getElem (by rw [← hnv]; exact hjv)⟩
   obtain ⟨b,off,A',c',hAv,_,hc,hru⟩:=HS.out.v.at_ hu
   replace hAv:Av = some ⟨b,off,none⟩:=hAv
   subst hAv
   have u0:=hc 0 _ rfl
   have u3:=hc 3 _ rfl
   rw [Nat.add_zero] at u0
   obtain ⟨uk,un,um,ukids⟩:=u
   obtain ⟨nu,hnu⟩:∃ z,z = ukids.length:=⟨_,rfl⟩
   have u0:W1.cell? ⟨b,off + j * 4,none⟩ = some (.int .i64 uk):=u0
   have u3:W1.cell? ⟨b,off + j * 4 + 3,none⟩ = some (.slice A' ukids.length c'):=u3
   rw [← hnu] at u3
   have hjb:(0:Int)≤(j:Int)∧(j:Int) < (nv:Int):=⟨by omega,by omega⟩
   have hge:¬ (nv:Int)≤(j:Int):=by omega
   have hge2:decide ((nv:Int)≤(j:Int)) = false:=decide_eq_false hge
   have hta:=tAt_get (n:=(j:Int)) rfl hu
   have hr2:r = ((uk == 3) && decide ((nu:Int)≤m)):=by
    rw [hr]
    unfold missing
    rw [if_neg (by simp only; omega),if_pos (by simp only; exact h8)]
    simp only [hta,← hnv,← hnu,hge2,Bool.false_or]
   have HR2:=Lib.hid hr2
   clear hr hr2 hc hru hu hta hnv hnf hnk hnu hn0 hlt HS
   by_cases hk3:uk = 3
   ·have hd3:(uk == 3) = true:=by simpa using hk3
    subst hk3
    by_cases hmn:(nu:Int)≤m
    ·have hdm:decide ((nu:Int)≤m) = true:=decide_eq_true hmn
     rcases h8 with rfl | rfl
     all_goals
      go_enter Tryd.func82,Tryd.ntmps82
      go_upto_region 1 with fail
      try rw [HZ2.out]
      rw [← HW1.out]
      try rw [← HZ.out]
      go_upto_region 10 with fail
      go_quiet (fail)
      all_goals
       go_wp2_with fail
       go_ret
       exact ⟨ret_b (by rw [HR2.out]; try simp [*]),drewB HB1.out⟩
    ·have hdm:decide ((nu:Int)≤m) = false:=decide_eq_false hmn
     rcases h8 with rfl | rfl
     all_goals
      go_enter Tryd.func82,Tryd.ntmps82
      go_upto_region 1 with fail
      try rw [HZ2.out]
      rw [← HW1.out]
      try rw [← HZ.out]
      go_upto_region 10 with fail
      go_quiet (fail)
      all_goals
       go_wp2_with fail
       go_ret
       exact ⟨ret_b (by rw [HR2.out]; try simp [*]),drewB HB1.out⟩
   ·have hd3:(uk == 3) = false:=by simpa using hk3
    rcases h8 with rfl | rfl
    all_goals
     go_enter Tryd.func82,Tryd.ntmps82
     go_upto_region 1 with fail
     try rw [HZ2.out]
     rw [← HW1.out]
     try rw [← HZ.out]
     go_upto_region 10 with fail
     go_quiet (fail)
     all_goals
      go_wp2_with fail
      go_ret
      exact ⟨ret_b (by rw [HR2.out,hd3]; try rfl),drewB HB1.out⟩
  ·have hge:(nv:Int)≤n:=by omega
   have hge2:decide ((nv:Int)≤n) = true:=decide_eq_true hge
   have hr2:r = true:=by
    rw [hr]
    unfold missing
    rw [if_neg (by simp only; omega),if_pos (by simp only; exact h8)]
    simp only [← hnv,hge2,Bool.true_or]
   have HR2:=Lib.hid hr2
   clear hr hr2 hnv hnf hnk hn0 hlt HS
   rcases h8 with rfl | rfl
   all_goals
    go_enter Tryd.func82,Tryd.ntmps82
    go_upto_region 1 with fail
    try rw [HZ2.out]
    rw [← HW1.out]
    try rw [← HZ.out]
    go_upto_region 10 with fail
    go_quiet (fail)
    all_goals
     go_wp2_with fail
     go_ret
     exact ⟨ret_b HR2.out.symm,drewB HB1.out⟩
 ·have h8a:k≠8:=by omega
  have h16:k≠16:=by omega
  have HR2:Hid (r = (if k = 6∨k = 7∨k = 14∨k = 15∨k = 21 then decide ((nv:Int)≤n) else if k = 11∨k = 23 then decide ((nf:Int)≤n) else if k = 12∨k = 22 then decide (ch≤n) else false)):=Lib.hid (by
   rw [hr]
   unfold missing
   simp only [if_neg h8,← hnv,← hnf])
  clear hr hnv hnf hnk HS hn h8
  by_cases g1:k = 6∨k = 7∨k = 14∨k = 15∨k = 21
  ·have HR3:Hid (r = decide ((nv:Int)≤n)):=Lib.hid (by rw [HR2.out,if_pos g1])
   by_cases hd:(nv:Int)≤n
   ·have HR4:Hid (r = true):=Lib.hid (by rw [HR3.out]; exact decide_eq_true hd)
    rcases g1 with rfl | rfl | rfl | rfl | rfl
    all_goals
     go_enter Tryd.func82,Tryd.ntmps82
     go_upto_region 1 with fail
     try rw [HZ2.out]
     rw [← HW1.out]
     try rw [← HZ.out]
     go_wp2_with fail
     go_ret
     exact ⟨ret_b HR4.out.symm,HB1.out⟩

   ·have HR4:Hid (r = false):=Lib.hid (by rw [HR3.out]; exact decide_eq_false hd)
    rcases g1 with rfl | rfl | rfl | rfl | rfl
    all_goals
     go_enter Tryd.func82,Tryd.ntmps82
     go_upto_region 1 with fail
     try rw [HZ2.out]
     rw [← HW1.out]
     try rw [← HZ.out]
     go_wp2_with fail
     go_ret
     exact ⟨ret_b HR4.out.symm,HB1.out⟩

  ·by_cases g2:k = 11∨k = 23
   ·have HR3:Hid (r = decide ((nf:Int)≤n)):=Lib.hid (by rw [HR2.out,if_neg g1,if_pos g2])
    by_cases hd:(nf:Int)≤n
    ·have HR4:Hid (r = true):=Lib.hid (by rw [HR3.out]; exact decide_eq_true hd)
     rcases g2 with rfl | rfl
     all_goals
      go_enter Tryd.func82,Tryd.ntmps82
      go_upto_region 1 with fail
      try rw [HZ2.out]
      rw [← HW1.out]
      try rw [← HZ.out]
      go_wp2_with fail
      go_ret
      exact ⟨ret_b HR4.out.symm,HB1.out⟩

    ·have HR4:Hid (r = false):=Lib.hid (by rw [HR3.out]; exact decide_eq_false hd)
     rcases g2 with rfl | rfl
     all_goals
      go_enter Tryd.func82,Tryd.ntmps82
      go_upto_region 1 with fail
      try rw [HZ2.out]
      rw [← HW1.out]
      try rw [← HZ.out]
      go_wp2_with fail
      go_ret
      exact ⟨ret_b HR4.out.symm,HB1.out⟩

   ·by_cases g3:k = 12∨k = 22
    ·have HR3:Hid (r = decide (ch≤n)):=Lib.hid (by rw [HR2.out,if_neg g1,if_neg g2,if_pos g3])
     by_cases hd:ch≤n
     ·have HR4:Hid (r = true):=Lib.hid (by rw [HR3.out]; exact decide_eq_true hd)
      rcases g3 with rfl | rfl
      all_goals
       go_enter Tryd.func82,Tryd.ntmps82
       go_upto_region 1 with fail
       try rw [HZ2.out]
       rw [← HW1.out]
       try rw [← HZ.out]
       go_wp2_with fail
       go_ret
       exact ⟨ret_b HR4.out.symm,HB1.out⟩

     ·have HR4:Hid (r = false):=Lib.hid (by rw [HR3.out]; exact decide_eq_false hd)
      rcases g3 with rfl | rfl
      all_goals
       go_enter Tryd.func82,Tryd.ntmps82
       go_upto_region 1 with fail
       try rw [HZ2.out]
       rw [← HW1.out]
       try rw [← HZ.out]
       go_wp2_with fail
       go_ret
       exact ⟨ret_b HR4.out.symm,HB1.out⟩

    ·have HR4:Hid (r = false):=Lib.hid (by rw [HR2.out,if_neg g1,if_neg g2,if_neg g3])
     have e6:(k == 6) = false:=by rw [beq_eq_false_iff_ne]; omega
     have e7:(k == 7) = false:=by rw [beq_eq_false_iff_ne]; omega
     have e14:(k == 14) = false:=by rw [beq_eq_false_iff_ne]; omega
     have e15:(k == 15) = false:=by rw [beq_eq_false_iff_ne]; omega
     have e21:(k == 21) = false:=by rw [beq_eq_false_iff_ne]; omega
     have e8:(k == 8) = false:=by rw [beq_eq_false_iff_ne]; omega
     have e16:(k == 16) = false:=by rw [beq_eq_false_iff_ne]; omega
     have e11:(k == 11) = false:=by rw [beq_eq_false_iff_ne]; omega
     have e23:(k == 23) = false:=by rw [beq_eq_false_iff_ne]; omega
     have e12:(k == 12) = false:=by rw [beq_eq_false_iff_ne]; omega
     have e22:(k == 22) = false:=by rw [beq_eq_false_iff_ne]; omega

     go_enter Tryd.func82,Tryd.ntmps82
     go_upto_region 1 with fail
     try rw [HZ2.out]
     rw [← HW1.out]
     try rw [← HZ.out]
     go_wp2_with fail
     go_ret
     exact ⟨ret_b HR4.out.symm,HB1.out⟩

end Go.Proofs.YtkkenbalpnmfmaaDoor

namespace Go.Proofs.YtkkenbalpnmfmaaDoor
open Go.RowKit WM TR TY

theorem in_vars {s:Sc} {x:T} (h:missing s x = false) (hk:x.k = 6∨x.k = 7∨x.k = 14∨x.k = 15∨x.k = 21∨x.k = 8∨x.k = 16):x.n < s.vars.length:=by
 unfold missing at h
 by_cases g1:x.k = 6∨x.k = 7∨x.k = 14∨x.k = 15∨x.k = 21
 ·rw [if_pos g1] at h
  have:=of_decide_eq_false h
  omega
 ·rw [if_neg g1,if_pos (by omega)] at h
  have:=(Bool.or_eq_false_iff.1 h).1
  have:=of_decide_eq_false this
  omega
theorem in_funs {s:Sc} {x:T} (h:missing s x = false) (hk:x.k = 11∨x.k = 23):x.n < s.funs.length:=by
 unfold missing at h
 rw [if_neg (by omega),if_neg (by omega),if_pos hk] at h
 have:=of_decide_eq_false h
 omega

set_option maxRecDepth 100000 in
set_option maxHeartbeats 8000000 in
theorem misused_is (s : Sc) (x : T) (d : Nat) (A Av Af : Option Addr) (c cv cf : Nat) (w : World) (hs : ScR w d s Av cv Af cf) (hkl : x.kids.length ≤ 1000000) (hn : x.k ≠ 4 → 0 ≤ x.n) (hm : 0 ≤ x.m) (hmis : missing s x = false) :
  Calls Tryd.prog 83 #[.agg #[.slice Av s.vars.length cv,.slice Af s.funs.length cf,.int .i64 s.ch],.agg #[.int .i64 x.k,.int .i64 x.n,.int .i64 x.m,.slice A x.kids.length c]] w fun e w'=>e = .returned (.bool (misused s x))∧Below w.heap.size w w':=by
 have hin:(x.k = 6∨x.k = 7∨x.k = 14∨x.k = 15∨x.k = 21∨x.k = 8∨x.k = 16)→x.n < s.vars.length:=in_vars hmis
 have hif:(x.k = 11∨x.k = 23)→x.n < s.funs.length:=in_funs hmis
 clear hmis
 obtain ⟨k,n,m,kids⟩:=x
 simp only at hkl hn hm ⊢
 obtain ⟨vs,fs,ch⟩:=s
 simp only at hin hif hs ⊢
 obtain ⟨nv,hnv⟩:∃ z,z = vs.length:=⟨_,rfl⟩
 obtain ⟨nf,hnf⟩:∃ z,z = fs.length:=⟨_,rfl⟩
 obtain ⟨nk,hnk⟩:∃ z,z = kids.length:=⟨_,rfl⟩
 have hvl:nv≤1000:=by rw [hnv]; exact hs.v.2.2
 have hfl:nf≤1000:=by rw [hnf]; exact hs.f.2.2
 rw [← hnk] at hkl
 obtain ⟨z,hz⟩:∃ z,z = w.heap.size:=⟨_,rfl⟩
 obtain ⟨W1,hW1⟩:∃ W,W = (w.alloc (.cells #[.slice Av nv cv,.slice Af nf cf,.int .i64 ch] 79)).alloc (.cells #[.int .i64 k,.int .i64 n,.int .i64 m,.slice A nk c] 25):=⟨_,rfl⟩
 have hb1:Below w.heap.size w W1:=by rw [hW1]; exact ba (below_new _ _) _
 have ks:Blk W1 z 79 #[.slice Av nv cv,.slice Af nf cf,.int .i64 ch]:=by rw [hW1,hz]; exact (Blk.new _ _ _).alloc _
 have kx:Blk W1 (z + 1) 25 #[.int .i64 k,.int .i64 n,.int .i64 m,.slice A nk c]:=by rw [hW1]; exact Blk.new_at _ _ (by rw [size_alloc,hz]) rfl
 obtain ⟨a0,a1,a2⟩:W1.cell? ⟨z,0,none⟩ = some (.slice Av nv cv)∧W1.cell? ⟨z,1,none⟩ = some (.slice Af nf cf)∧W1.cell? ⟨z,2,none⟩ = some (.int .i64 ch):=⟨ks.cell 0,ks.cell 1,ks.cell 2⟩
 obtain ⟨x0,x1,x2,x3⟩:W1.cell? ⟨z + 1,0,none⟩ = some (.int .i64 k)∧W1.cell? ⟨z + 1,1,none⟩ = some (.int .i64 n)∧W1.cell? ⟨z + 1,2,none⟩ = some (.int .i64 m)∧W1.cell? ⟨z + 1,3,none⟩ = some (.slice A nk c):=⟨kx.cell 0,kx.cell 1,kx.cell 2,kx.cell 3⟩
 have hs1:=hs.next hb1
 have hz2:(w.alloc (.cells #[.slice Av nv cv,.slice Af nf cf,.int .i64 ch] 79)).heap.size = z + 1:=by rw [size_alloc,hz]
 have HZ2:=Lib.hid hz2
 have HW1:=Lib.hid hW1
 have HZ:=Lib.hid hz
 have HB1:=Lib.hid hb1
 have HNV:=Lib.hid hnv
 have HNF:=Lib.hid hnf
 have HNK:=Lib.hid hnk
 have HS:=Lib.hid hs1
 have HKL:Hid (kids.length = nk):=Lib.hid hnk.symm
 rw [← hnv,← hnf,← hnk]
 clear hz2 hW1 hz hb1 ks kx hs hs1
 rw [← HNV.out] at hin
 rw [← HNF.out] at hif
 clear hnv hnf hnk
 obtain ⟨r,hr⟩:∃ r,r = misused ⟨vs,fs,ch⟩ ⟨k,n,m,kids⟩:=⟨_,rfl⟩
 rw [← hr]
 by_cases g:k = 6∨k = 14
 ·have hnv2:=hin (by omega)
  obtain ⟨j,rfl⟩:=Int.eq_ofNat_of_zero_le (hn (by omega))
  have hjv:j < nv:=by omega
  obtain ⟨u,hu⟩:∃ u,vs[j]? = some u:=⟨_,List.getElem?_eq_getElem (by rw [← HNV.out]; exact hjv)⟩
  obtain ⟨b,off,A',c',hAv,_,hc,hru⟩:=HS.out.v.at_ hu
  replace hAv:Av = some ⟨b,off,none⟩:=hAv
  subst hAv
  have u0:=hc 0 _ rfl
  rw [Nat.add_zero] at u0
  obtain ⟨uk,un,um,ukids⟩:=u
  have u0:W1.cell? ⟨b,off + j * 4,none⟩ = some (.int .i64 uk):=u0
  have hjb:(0:Int)≤(j:Int)∧(j:Int) < (nv:Int):=⟨by omega,by omega⟩
  have hta:=tAt_get (n:=(j:Int)) rfl hu
  have HR2:Hid (r = (!scal uk)):=Lib.hid (by
   rw [hr]
   unfold misused
   simp only
   rw [if_pos (by omega)]
   simp only [hta])
  clear hr hc hru hu hta hn hin HS
  rcases g with rfl | rfl
  all_goals
   go_enter Tryd.func83,Tryd.ntmps83
   go_upto_region 1 with fail
   try rw [HZ2.out]
   rw [← HW1.out]
   try rw [← HZ.out]
   go_wp2_with (go_at_call 79; refine (isScalar_is uk _).mono ?_; rintro e w' ⟨rfl,rfl⟩)
   go_ret
   exact ⟨ret_b (by rw [HR2.out]),HB1.out⟩
 by_cases g:k = 7∨k = 15
 ·have hnv2:=hin (by omega)
  obtain ⟨j,rfl⟩:=Int.eq_ofNat_of_zero_le (hn (by omega))
  have hjv:j < nv:=by omega
  obtain ⟨u,hu⟩:∃ u,vs[j]? = some u:=⟨_,List.getElem?_eq_getElem (by rw [← HNV.out]; exact hjv)⟩
  obtain ⟨b,off,A',c',hAv,_,hc,hru⟩:=HS.out.v.at_ hu
  replace hAv:Av = some ⟨b,off,none⟩:=hAv
  subst hAv
  have u0:=hc 0 _ rfl
  rw [Nat.add_zero] at u0
  obtain ⟨uk,un,um,ukids⟩:=u
  have u0:W1.cell? ⟨b,off + j * 4,none⟩ = some (.int .i64 uk):=u0
  have hjb:(0:Int)≤(j:Int)∧(j:Int) < (nv:Int):=⟨by omega,by omega⟩
  have hta:=tAt_get (n:=(j:Int)) rfl hu
  have HR2:Hid (r = (uk != 2)):=Lib.hid (by
   rw [hr]
   unfold misused
   simp only
   rw [if_neg (by omega)]; rw [if_pos (by omega)]
   simp only [hta])
  clear hr hc hru hu hta hn hin HS
  rcases g with rfl | rfl
  all_goals
   go_enter Tryd.func83,Tryd.ntmps83
   go_upto_region 1 with fail
   try rw [HZ2.out]
   rw [← HW1.out]
   try rw [← HZ.out]
   go_wp2_with fail
   go_ret
   exact ⟨ret_b (by rw [HR2.out]; try simp),HB1.out⟩
 by_cases g:k = 8∨k = 16
 ·have hnv2:=hin (by omega)
  obtain ⟨j,rfl⟩:=Int.eq_ofNat_of_zero_le (hn (by omega))
  have hjv:j < nv:=by omega
  obtain ⟨u,hu⟩:∃ u,vs[j]? = some u:=⟨_,List.getElem?_eq_getElem (by rw [← HNV.out]; exact hjv)⟩
  obtain ⟨b,off,A',c',hAv,_,hc,hru⟩:=HS.out.v.at_ hu
  replace hAv:Av = some ⟨b,off,none⟩:=hAv
  subst hAv
  have u0:=hc 0 _ rfl
  rw [Nat.add_zero] at u0
  obtain ⟨uk,un,um,ukids⟩:=u
  have u0:W1.cell? ⟨b,off + j * 4,none⟩ = some (.int .i64 uk):=u0
  have hjb:(0:Int)≤(j:Int)∧(j:Int) < (nv:Int):=⟨by omega,by omega⟩
  have hta:=tAt_get (n:=(j:Int)) rfl hu
  have HR2:Hid (r = (uk != 3)):=Lib.hid (by
   rw [hr]
   unfold misused
   simp only
   rw [if_neg (by omega)]; rw [if_neg (by omega)]; rw [if_pos (by omega)]
   simp only [hta])
  clear hr hc hru hu hta hn hin HS
  rcases g with rfl | rfl
  all_goals
   go_enter Tryd.func83,Tryd.ntmps83
   go_upto_region 1 with fail
   try rw [HZ2.out]
   rw [← HW1.out]
   try rw [← HZ.out]
   go_wp2_with fail
   go_ret
   exact ⟨ret_b (by rw [HR2.out]; try simp),HB1.out⟩
 by_cases g:k = 21
 ·have hnv2:=hin (by omega)
  obtain ⟨j,rfl⟩:=Int.eq_ofNat_of_zero_le (hn (by omega))
  have hjv:j < nv:=by omega
  obtain ⟨u,hu⟩:∃ u,vs[j]? = some u:=⟨_,List.getElem?_eq_getElem (by rw [← HNV.out]; exact hjv)⟩
  obtain ⟨b,off,A',c',hAv,_,hc,hru⟩:=HS.out.v.at_ hu
  replace hAv:Av = some ⟨b,off,none⟩:=hAv
  subst hAv
  have u0:=hc 0 _ rfl
  rw [Nat.add_zero] at u0
  obtain ⟨uk,un,um,ukids⟩:=u
  have u0:W1.cell? ⟨b,off + j * 4,none⟩ = some (.int .i64 uk):=u0
  have hjb:(0:Int)≤(j:Int)∧(j:Int) < (nv:Int):=⟨by omega,by omega⟩
  have hta:=tAt_get (n:=(j:Int)) rfl hu
  have HR2:Hid (r = (uk != 0)):=Lib.hid (by
   rw [hr]
   unfold misused
   simp only
   rw [if_neg (by omega)]; rw [if_neg (by omega)]; rw [if_neg (by omega)]; rw [if_pos (by omega)]
   simp only [hta])
  clear hr hc hru hu hta hn hin HS
  subst g
  all_goals
   go_enter Tryd.func83,Tryd.ntmps83
   go_upto_region 1 with fail
   try rw [HZ2.out]
   rw [← HW1.out]
   try rw [← HZ.out]
   go_wp2_with fail
   go_ret
   exact ⟨ret_b (by rw [HR2.out]; try simp),HB1.out⟩
 by_cases g:k = 11∨k = 23
 ·have hnf2:=hif g
  obtain ⟨j,rfl⟩:=Int.eq_ofNat_of_zero_le (hn (by omega))
  have hjv:j < nf:=by omega
  obtain ⟨u,hu⟩:∃ u,fs[j]? = some u:=⟨_,List.getElem?_eq_getElem (by rw [← HNF.out]; exact hjv)⟩
  obtain ⟨b,off,A',c',hAf,_,hc,hru⟩:=HS.out.f.at_ hu
  replace hAf:Af = some ⟨b,off,none⟩:=hAf
  subst hAf
  have u1:=hc 1 _ rfl
  obtain ⟨uk,un,um,ukids⟩:=u
  have u1:W1.cell? ⟨b,off + j * 4 + 1,none⟩ = some (.int .i64 un):=u1
  have hjb:(0:Int)≤(j:Int)∧(j:Int) < (nf:Int):=⟨by omega,by omega⟩
  have hta:=tAt_get (n:=(j:Int)) rfl hu
  have HR2:Hid (r = ((nk:Int) != un)):=Lib.hid (by
   rw [hr]
   unfold misused
   simp only
   rw [if_neg (by omega),if_neg (by omega),if_neg (by omega),if_neg (by omega),if_pos (by omega)]
   simp only [hta,← HNK.out])
  clear hr hc hru hu hta hn hin hif HS
  rcases g with rfl | rfl
  all_goals
   go_enter Tryd.func83,Tryd.ntmps83
   go_upto_region 1 with fail
   try rw [HZ2.out]
   rw [← HW1.out]
   try rw [← HZ.out]
   go_upto_region 15 with fail
   go_quiet (fail)
   all_goals
    go_wp2_with fail
    go_ret
    exact ⟨ret_b (by rw [HR2.out]; try simp),drewB HB1.out⟩
 ·have HR2 : Hid (r = false) := Lib.hid (by
   rw [hr]
   unfold misused
   simp only
   rw [if_neg (by omega),if_neg (by omega),if_neg (by omega),if_neg (by omega),if_neg (by omega)])
  have e6:(k == 6) = false:=by rw [beq_eq_false_iff_ne]; omega
  have e7:(k == 7) = false:=by rw [beq_eq_false_iff_ne]; omega
  have e14:(k == 14) = false:=by rw [beq_eq_false_iff_ne]; omega
  have e15:(k == 15) = false:=by rw [beq_eq_false_iff_ne]; omega
  have e21:(k == 21) = false:=by rw [beq_eq_false_iff_ne]; omega
  have e8:(k == 8) = false:=by rw [beq_eq_false_iff_ne]; omega
  have e16:(k == 16) = false:=by rw [beq_eq_false_iff_ne]; omega
  have e11:(k == 11) = false:=by rw [beq_eq_false_iff_ne]; omega
  have e23:(k == 23) = false:=by rw [beq_eq_false_iff_ne]; omega
  clear hr hn hin hif HS
  go_enter Tryd.func83,Tryd.ntmps83
  go_upto_region 1 with fail
  try rw [HZ2.out]
  rw [← HW1.out]
  try rw [← HZ.out]
  go_wp2_with fail
  go_ret
  exact ⟨ret_b HR2.out.symm,HB1.out⟩
end Go.Proofs.YtkkenbalpnmfmaaDoor

namespace Go.Proofs.YtkkenbalpnmfmaaDoor
open Go.RowKit WM TR TY

set_option maxRecDepth 100000 in
set_option maxHeartbeats 8000000 in
theorem named_is (s : Sc) (x : T) (d : Nat) (A Av Af : Option Addr) (c cv cf : Nat) (w : World) (hs : ScR w d s Av cv Af cf) (hkl : x.kids.length ≤ 1000000) (hn : 0 ≤ x.n) (hm : 0 ≤ x.m) (hin : x.n < s.vars.length) (hrec : (tAt s.vars x.n).k = 3 → x.m < (tAt s.vars x.n).kids.length) :
  Calls Tryd.prog 84 #[.agg #[.slice Av s.vars.length cv,.slice Af s.funs.length cf,.int .i64 s.ch],.agg #[.int .i64 x.k,.int .i64 x.n,.int .i64 x.m,.slice A x.kids.length c]] w fun e w'=>e = .returned (.int .i64 (named s x))∧Below w.heap.size w w':=by
 obtain ⟨k,n,m,kids⟩:=x
 simp only at hkl hn hm ⊢
 obtain ⟨vs,fs,ch⟩:=s
 simp only at hin hrec hs ⊢
 obtain ⟨nv,hnv⟩:∃ z,z = vs.length:=⟨_,rfl⟩
 obtain ⟨nf,hnf⟩:∃ z,z = fs.length:=⟨_,rfl⟩
 obtain ⟨nk,hnk⟩:∃ z,z = kids.length:=⟨_,rfl⟩
 have hvl:nv≤1000:=by rw [hnv]; exact hs.v.2.2
 have hfl:nf≤1000:=by rw [hnf]; exact hs.f.2.2
 rw [← hnk] at hkl
 obtain ⟨z,hz⟩:∃ z,z = w.heap.size:=⟨_,rfl⟩
 obtain ⟨W1,hW1⟩:∃ W,W = (w.alloc (.cells #[.slice Av nv cv,.slice Af nf cf,.int .i64 ch] 79)).alloc (.cells #[.int .i64 k,.int .i64 n,.int .i64 m,.slice A nk c] 25):=⟨_,rfl⟩
 have hb1:Below w.heap.size w W1:=by rw [hW1]; exact ba (below_new _ _) _
 have ks:Blk W1 z 79 #[.slice Av nv cv,.slice Af nf cf,.int .i64 ch]:=by rw [hW1,hz]; exact (Blk.new _ _ _).alloc _
 have kx:Blk W1 (z + 1) 25 #[.int .i64 k,.int .i64 n,.int .i64 m,.slice A nk c]:=by rw [hW1]; exact Blk.new_at _ _ (by rw [size_alloc,hz]) rfl
 obtain ⟨a0,a1,a2⟩:W1.cell? ⟨z,0,none⟩ = some (.slice Av nv cv)∧W1.cell? ⟨z,1,none⟩ = some (.slice Af nf cf)∧W1.cell? ⟨z,2,none⟩ = some (.int .i64 ch):=⟨ks.cell 0,ks.cell 1,ks.cell 2⟩
 obtain ⟨x0,x1,x2,x3⟩:W1.cell? ⟨z + 1,0,none⟩ = some (.int .i64 k)∧W1.cell? ⟨z + 1,1,none⟩ = some (.int .i64 n)∧W1.cell? ⟨z + 1,2,none⟩ = some (.int .i64 m)∧W1.cell? ⟨z + 1,3,none⟩ = some (.slice A nk c):=⟨kx.cell 0,kx.cell 1,kx.cell 2,kx.cell 3⟩
 have hs1:=hs.next hb1
 have hz2:(w.alloc (.cells #[.slice Av nv cv,.slice Af nf cf,.int .i64 ch] 79)).heap.size = z + 1:=by rw [size_alloc,hz]
 have HZ2:=Lib.hid hz2
 have HW1:=Lib.hid hW1
 have HZ:=Lib.hid hz
 have HB1:=Lib.hid hb1
 have HNV:=Lib.hid hnv
 have HNF:=Lib.hid hnf
 have HNK:=Lib.hid hnk
 have HS:=Lib.hid hs1
 have HKL:Hid (kids.length = nk):=Lib.hid hnk.symm
 rw [← hnv,← hnf,← hnk]
 clear hz2 hW1 hz hb1 ks kx hs hs1
 rw [← HNV.out] at hin
 clear hnv hnf hnk
 obtain ⟨r,hr⟩:∃ r,r = named ⟨vs,fs,ch⟩ ⟨k,n,m,kids⟩:=⟨_,rfl⟩
 rw [← hr]
 obtain ⟨j,rfl⟩:=Int.eq_ofNat_of_zero_le hn
 have hjv:j < nv:=by omega
 obtain ⟨u,hu⟩:∃ u,vs[j]? = some u:=⟨_,List.getElem?_eq_getElem (by rw [← HNV.out]; exact hjv)⟩
 have hta:=tAt_get (n:=(j:Int)) rfl hu
 rw [hta] at hrec
 obtain ⟨b,off,A',c',hAv,hlt,hc,hru⟩:=HS.out.v.at_ hu
 replace hAv:Av = some ⟨b,off,none⟩:=hAv
 subst hAv
 obtain ⟨uk,un,um,ukids⟩:=u
 obtain ⟨nu,hnu⟩:∃ z,z = ukids.length:=⟨_,rfl⟩
 have hc':∀ i v,([.int .i64 uk,.int .i64 un,.int .i64 um,.slice A' nu c']:List Value)[i]? = some v→W1.cell? ⟨b,off + j * 4 + i,none⟩ = some v:=by rw [hnu]; exact hc
 obtain ⟨u0,u1,u2,u3⟩:W1.cell? ⟨b,off + j * 4,none⟩ = some (.int .i64 uk)∧W1.cell? ⟨b,off + j * 4 + 1,none⟩ = some (.int .i64 un)∧W1.cell? ⟨b,off + j * 4 + 2,none⟩ = some (.int .i64 um)∧W1.cell? ⟨b,off + j * 4 + 3,none⟩ = some (.slice A' nu c'):=⟨hc' 0 _ rfl,hc' 1 _ rfl,hc' 2 _ rfl,hc' 3 _ rfl⟩
 have hjb:(0:Int)≤(j:Int)∧(j:Int) < (nv:Int):=⟨by omega,by omega⟩
 have HR2:Hid (r = if uk = 3 then (tAt ukids m).k else uk):=Lib.hid (by
  rw [hr]
  unfold named
  simp only [hta])
 have HRU:=Lib.hid hru
 have HNU:=Lib.hid hnu
 clear hr hc hc' hru hu hta hlt hnu hn
 go_enter Tryd.func84,Tryd.ntmps84
 go_upto_region 1 with fail
 try rw [HZ2.out]
 rw [← HW1.out]
 try rw [← HZ.out]
 go_upto_region 2 with fail
 obtain ⟨W2,hW2⟩:∃ W,W = W1.alloc (.cells #[.int .i64 uk,.int .i64 un,.int .i64 um,.slice A' nu c'] 25):=⟨_,rfl⟩
 obtain ⟨g5,hg5⟩:∃ z,z = W1.heap.size:=⟨_,rfl⟩
 have hb2:Below W1.heap.size W1 W2:=by rw [hW2]; exact below_new _ _
 have k5:Blk W2 g5 25 #[.int .i64 uk,.int .i64 un,.int .i64 um,.slice A' nu c']:=by rw [hW2,hg5]; exact Blk.new _ _ _
 rw [← hW2,← hg5]
 obtain ⟨y0,y3⟩:W2.cell? ⟨g5,0,none⟩ = some (.int .i64 uk)∧W2.cell? ⟨g5,3,none⟩ = some (.slice A' nu c'):=⟨k5.cell 0,k5.cell 3⟩
 have HB2:=Lib.hid (bt HB1.out hb2)
 by_cases hk3:uk = 3
 ·subst hk3
  have hm2:=hrec rfl
  simp only at hm2
  rw [← HNU.out] at hm2
  obtain ⟨i,rfl⟩:=Int.eq_ofNat_of_zero_le hm
  obtain ⟨v,hv⟩:∃ v,ukids[i]? = some v:=⟨_,List.getElem?_eq_getElem (by rw [← HNU.out]; omega)⟩
  have htv:=tAt_get (n:=(i:Int)) rfl hv
  have hru:=HRU.out
  cases d with
  | zero=>exact hru.elim
  | succ d =>
   obtain ⟨b2,off2,A2,c2,hA2,hlt2,hc2,_⟩:=hru.kid hv
   subst hA2
   obtain ⟨vk,vn,vm,vkids⟩:=v
   have hcv:∀ i' v,(nd ⟨vk,vn,vm,vkids⟩ A2 c2)[i']? = some v→W2.cell? ⟨b2,off2 + i * 4 + i',none⟩ = some v:=fun i' v hv=>(hb2.cell (p:=⟨b2,_,none⟩) hlt2).trans (hc2 i' v hv)
   obtain ⟨v0,v1,v2,v3⟩:W2.cell? ⟨b2,off2 + i * 4,none⟩ = some (.int .i64 vk)∧W2.cell? ⟨b2,off2 + i * 4 + 1,none⟩ = some (.int .i64 vn)∧W2.cell? ⟨b2,off2 + i * 4 + 2,none⟩ = some (.int .i64 vm)∧W2.cell? ⟨b2,off2 + i * 4 + 3,none⟩ = some (.slice A2 vkids.length c2):=⟨hcv 0 _ rfl,hcv 1 _ rfl,hcv 2 _ rfl,hcv 3 _ rfl⟩
   have hib:(0:Int)≤(i:Int)∧(i:Int) < (nu:Int):=⟨by omega,by omega⟩
   have x2':W2.cell? ⟨z + 1,2,none⟩ = some (.int .i64 (i:Int)):=(hb2.cell (p:=⟨z + 1,2,none⟩) (by have:=block_lt_of_cell x2; exact this)).trans x2
   have f0:=k5.frozen 0
   have f1:=k5.frozen 1
   have f2:=k5.frozen 2
   have f3:=k5.frozen 3
   obtain ⟨y1,y2⟩:W2.cell? ⟨g5,1,none⟩ = some (.int .i64 un)∧W2.cell? ⟨g5,2,none⟩ = some (.int .i64 um):=⟨k5.cell 1,k5.cell 2⟩
   have HG5:Hid (w.heap.size≤g5):=Lib.hid (by rw [hg5]; exact HB1.out.size)
   have HR3:Hid (r = vk):=Lib.hid (by rw [HR2.out,if_pos rfl,htv])
   obtain ⟨nvk,hnvk⟩:∃ q,q = vkids.length:=⟨_,rfl⟩
   rw [← hnvk] at v3
   clear hW2 hg5 hb2 k5 hrec hm2 hv htv hru hc2 hcv hlt2 hnvk hm
   go_wp2_with fail
   go_ret
   exact ⟨ret_i HR3.out.symm,put4_below HB2.out _ _ _ _ HG5.out⟩
 ·have hk3':(uk == 3) = false:=by rw [beq_eq_false_iff_ne]; exact hk3
  have HR3:Hid (r = uk):=Lib.hid (by rw [HR2.out,if_neg hk3])
  clear hW2 hg5 hb2 k5 hrec
  go_wp2_with fail
  go_ret
  exact ⟨ret_i HR3.out.symm,HB2.out⟩
end Go.Proofs.YtkkenbalpnmfmaaDoor

namespace Go.Proofs.YtkkenbalpnmfmaaDoor
open Go.RowKit WM TR TY

theorem rec_ok {s:Sc} {x:T} (h:missing s x = false) (h2:misused s x = false) (hk:x.k = 6∨x.k = 8∨x.k = 14∨x.k = 16) (h3:(tAt s.vars x.n).k = 3):x.m < (tAt s.vars x.n).kids.length:=by
 by_cases g:x.k = 8∨x.k = 16
 ·unfold missing at h
  rw [if_neg (by omega),if_pos g] at h
  have:=(Bool.or_eq_false_iff.1 h).2
  rw [h3] at this
  simp only [beq_self_eq_true,Bool.true_and] at this
  have:=of_decide_eq_false this
  omega
 ·unfold misused at h2
  rw [if_pos (by omega),h3] at h2
  simp [scal] at h2
set_option maxRecDepth 100000 in
set_option maxHeartbeats 8000000 in
theorem typeOf_is (s : Sc) (x : T) (d : Nat) (A Av Af : Option Addr) (c cv cf : Nat) (w : World) (hs : ScR w d s Av cv Af cf) (hkl : x.kids.length ≤ 1000000) (hn : x.k ≠ 4 → 0 ≤ x.n) (hm : 0 ≤ x.m) :
  Calls Tryd.prog 65 #[.agg #[.slice Av s.vars.length cv,.slice Af s.funs.length cf,.int .i64 s.ch],.agg #[.int .i64 x.k,.int .i64 x.n,.int .i64 x.m,.slice A x.kids.length c]] w fun e w'=>e = .returned (.int .i64 (typeOf s x))∧Below w.heap.size w w':=by
 have HMI:Hid (∀ W,Below w.heap.size w W→Calls Tryd.prog 82 #[.agg #[.slice Av s.vars.length cv,.slice Af s.funs.length cf,.int .i64 s.ch],.agg #[.int .i64 x.k,.int .i64 x.n,.int .i64 x.m,.slice A x.kids.length c]] W fun e w'=>e = .returned (.bool (missing s x))∧Below W.heap.size W w'):=Lib.hid fun W hb=>missing_is s x d A Av Af c cv cf W (hs.next hb) hkl hn hm
 have HMU:Hid (missing s x = false→∀ W,Below w.heap.size w W→Calls Tryd.prog 83 #[.agg #[.slice Av s.vars.length cv,.slice Af s.funs.length cf,.int .i64 s.ch],.agg #[.int .i64 x.k,.int .i64 x.n,.int .i64 x.m,.slice A x.kids.length c]] W fun e w'=>e = .returned (.bool (misused s x))∧Below W.heap.size W w'):=Lib.hid fun h W hb=>misused_is s x d A Av Af c cv cf W (hs.next hb) hkl hn hm h
 have HNA:Hid ((x.k = 6∨x.k = 8)→missing s x = false→misused s x = false→∀ W,Below w.heap.size w W→Calls Tryd.prog 84 #[.agg #[.slice Av s.vars.length cv,.slice Af s.funs.length cf,.int .i64 s.ch],.agg #[.int .i64 x.k,.int .i64 x.n,.int .i64 x.m,.slice A x.kids.length c]] W fun e w'=>e = .returned (.int .i64 (named s x))∧Below W.heap.size W w'):=Lib.hid fun hk h h2 W hb=>named_is s x d A Av Af c cv cf W (hs.next hb) hkl (hn (by omega)) hm (in_vars h (by omega)) (rec_ok h h2 (by omega))
 obtain ⟨r,hr⟩:∃ r,r = typeOf s x:=⟨_,rfl⟩
 rw [← hr]
 unfold typeOf at hr
 obtain ⟨bm,hbm⟩:∃ b,b = missing s x:=⟨_,rfl⟩
 obtain ⟨bu,hbu⟩:∃ b,b = misused s x:=⟨_,rfl⟩
 obtain ⟨nm,hnm⟩:∃ b,b = named s x:=⟨_,rfl⟩
 rw [← hbm] at HMI HMU HNA hr
 rw [← hbu] at HMU HNA hr
 rw [← hnm] at HNA hr
 clear hbm hbu hnm
 obtain ⟨k,n,m,kids⟩:=x
 simp only at hkl hn hm hr HMI HMU HNA ⊢
 obtain ⟨vs,fs,ch⟩:=s
 simp only at HMI HMU HNA hs ⊢
 obtain ⟨nv,hnv⟩:∃ z,z = vs.length:=⟨_,rfl⟩
 obtain ⟨nf,hnf⟩:∃ z,z = fs.length:=⟨_,rfl⟩
 obtain ⟨nk,hnk⟩:∃ z,z = kids.length:=⟨_,rfl⟩
 have hvl:nv≤1000:=by rw [hnv]; exact hs.v.2.2
 have hfl:nf≤1000:=by rw [hnf]; exact hs.f.2.2
 rw [← hnk] at hkl
 obtain ⟨z,hz⟩:∃ z,z = w.heap.size:=⟨_,rfl⟩
 obtain ⟨W1,hW1⟩:∃ W,W = (w.alloc (.cells #[.slice Av nv cv,.slice Af nf cf,.int .i64 ch] 79)).alloc (.cells #[.int .i64 k,.int .i64 n,.int .i64 m,.slice A nk c] 25):=⟨_,rfl⟩
 have hb1:Below w.heap.size w W1:=by rw [hW1]; exact ba (below_new _ _) _
 have ks:Blk W1 z 79 #[.slice Av nv cv,.slice Af nf cf,.int .i64 ch]:=by rw [hW1,hz]; exact (Blk.new _ _ _).alloc _
 have kx:Blk W1 (z + 1) 25 #[.int .i64 k,.int .i64 n,.int .i64 m,.slice A nk c]:=by rw [hW1]; exact Blk.new_at _ _ (by rw [size_alloc,hz]) rfl
 obtain ⟨a0,a1,a2⟩:W1.cell? ⟨z,0,none⟩ = some (.slice Av nv cv)∧W1.cell? ⟨z,1,none⟩ = some (.slice Af nf cf)∧W1.cell? ⟨z,2,none⟩ = some (.int .i64 ch):=⟨ks.cell 0,ks.cell 1,ks.cell 2⟩
 obtain ⟨x0,x1,x2,x3⟩:W1.cell? ⟨z + 1,0,none⟩ = some (.int .i64 k)∧W1.cell? ⟨z + 1,1,none⟩ = some (.int .i64 n)∧W1.cell? ⟨z + 1,2,none⟩ = some (.int .i64 m)∧W1.cell? ⟨z + 1,3,none⟩ = some (.slice A nk c):=⟨kx.cell 0,kx.cell 1,kx.cell 2,kx.cell 3⟩
 have hs1:=hs.next hb1
 have hz2:(w.alloc (.cells #[.slice Av nv cv,.slice Af nf cf,.int .i64 ch] 79)).heap.size = z + 1:=by rw [size_alloc,hz]
 have HZ2:=Lib.hid hz2
 have HW1:=Lib.hid hW1
 have HZ:=Lib.hid hz
 have HB1:=Lib.hid hb1
 have HNV:=Lib.hid hnv
 have HNF:=Lib.hid hnf
 have HNK:=Lib.hid hnk
 have HS:=Lib.hid hs1
 have HKL:Hid (kids.length = nk):=Lib.hid hnk.symm
 rw [← hnv,← hnf,← hnk]
 clear hz2 hW1 hz hb1 ks kx hs hs1
 rw [← HNV.out,← HNF.out,← HNK.out] at HMI HMU HNA
 clear hnv hnf hnk HS
 have HK:Hid (∀ W,Below W1.heap.size W1 W→(W.cell? ⟨z,0,none⟩ = some (.slice Av nv cv)∧W.cell? ⟨z,1,none⟩ = some (.slice Af nf cf)∧W.cell? ⟨z,2,none⟩ = some (.int .i64 ch))∧(W.cell? ⟨z + 1,0,none⟩ = some (.int .i64 k)∧W.cell? ⟨z + 1,1,none⟩ = some (.int .i64 n)∧W.cell? ⟨z + 1,2,none⟩ = some (.int .i64 m)∧W.cell? ⟨z + 1,3,none⟩ = some (.slice A nk c))):=Lib.hid fun W hb=>by
  have e:∀ (g i:Nat) (v:Value),W1.cell? ⟨g,i,none⟩ = some v→W.cell? ⟨g,i,none⟩ = some v:=fun g i v h=>(hb.cell (p:=⟨g,i,none⟩) (block_lt_of_cell h)).trans h
  exact ⟨⟨e _ _ _ a0,e _ _ _ a1,e _ _ _ a2⟩,e _ _ _ x0,e _ _ _ x1,e _ _ _ x2,e _ _ _ x3⟩
 by_cases g1:k = 5∨k = 10
 ·have HR:Hid (r = 1):=Lib.hid (by rw [hr,if_pos g1])
  clear hr hn HMI HMU HNA
  rcases g1 with rfl | rfl
  all_goals
   go_enter Tryd.func65,Tryd.ntmps65
   go_upto_region 1 with fail
   try rw [HZ2.out]
   rw [← HW1.out]
   try rw [← HZ.out]
   go_wp2_with fail
   go_ret
   exact ⟨ret_i HR.out.symm,HB1.out⟩
 by_cases g2:k = 9
 ·subst g2
  by_cases h10:10≤n
  ·have HR:Hid (r = 1):=Lib.hid (by rw [hr,if_neg g1,if_pos rfl,if_pos h10])
   clear hr hn HMI HMU HNA g1
   go_enter Tryd.func65,Tryd.ntmps65
   go_upto_region 1 with fail
   try rw [HZ2.out]
   rw [← HW1.out]
   try rw [← HZ.out]
   go_wp2_with fail
   go_ret
   exact ⟨ret_i HR.out.symm,HB1.out⟩
  ·have HR:Hid (r = 0):=Lib.hid (by rw [hr,if_neg g1,if_pos rfl,if_neg h10])
   clear hr hn HMI HMU HNA g1
   go_enter Tryd.func65,Tryd.ntmps65
   go_upto_region 1 with fail
   try rw [HZ2.out]
   rw [← HW1.out]
   try rw [← HZ.out]
   go_wp2_with fail
   go_ret
   exact ⟨ret_i HR.out.symm,HB1.out⟩
 by_cases g3:k = 6∨k = 8
 ·rw [if_neg g1,if_neg g2,if_pos g3] at hr
  cases bm with
  | true =>
   have HR:Hid (r = -1):=Lib.hid (by rw [hr]; rfl)
   clear hr hn HMU HNA g1 g2
   rcases g3 with rfl | rfl
   all_goals
    go_enter Tryd.func65,Tryd.ntmps65
    go_upto_region 1 with fail
    try rw [HZ2.out]
    rw [← HW1.out]
    try rw [← HZ.out]
    go_wp2_with (go_at_call 82; refine (HMI.out _ HB1.out).mono ?_; rintro e w2 ⟨rfl,hb2⟩; have HB2:=Lib.hid (bt HB1.out hb2); clear hb2)
    go_ret
    exact ⟨ret_i HR.out.symm,HB2.out⟩
  | false =>
   have HMU2:=Lib.hid (HMU.out rfl)
   cases bu with
   | true =>
    have HR:Hid (r = -1):=Lib.hid (by rw [hr]; rfl)
    clear hr hn HMU HNA g1 g2
    rcases g3 with rfl | rfl
    all_goals
     go_enter Tryd.func65,Tryd.ntmps65
     go_upto_region 1 with fail
     try rw [HZ2.out]
     rw [← HW1.out]
     try rw [← HZ.out]
     go_wp2_with (first
      | (go_at_call 82; refine (HMI.out _ HB1.out).mono ?_; rintro e w2 ⟨rfl,hb2⟩; have HB2:=Lib.hid (bt HB1.out hb2); clear a0 a1 a2 x0 x1 x2 x3; obtain ⟨⟨a0,a1,a2⟩,x0,x1,x2,x3⟩:=HK.out _ hb2; clear hb2)
      | (go_at_call 83; refine (HMU2.out _ HB2.out).mono ?_; rintro e w3 ⟨rfl,hb3⟩; have HB3:=Lib.hid (bt HB2.out hb3); clear hb3))
     go_ret
     exact ⟨ret_i HR.out.symm,HB3.out⟩
   | false =>
    have HNA2:=Lib.hid (HNA.out g3 rfl rfl)
    have HR:Hid (r = nm):=Lib.hid (by rw [hr]; rfl)
    clear hr hn HMU HNA g1 g2
    rcases g3 with rfl | rfl
    all_goals
     go_enter Tryd.func65,Tryd.ntmps65
     go_upto_region 1 with fail
     try rw [HZ2.out]
     rw [← HW1.out]
     try rw [← HZ.out]
     go_wp2_with (first
      | (go_at_call 82; refine (HMI.out _ HB1.out).mono ?_; rintro e w2 ⟨rfl,hb2⟩; have HB2:=Lib.hid (bt HB1.out hb2); have HB12:=Lib.hid hb2; clear a0 a1 a2 x0 x1 x2 x3; obtain ⟨⟨a0,a1,a2⟩,x0,x1,x2,x3⟩:=HK.out _ hb2; clear hb2)
      | (go_at_call 83; refine (HMU2.out _ HB2.out).mono ?_; rintro e w3 ⟨rfl,hb3⟩; have HB3:=Lib.hid (bt HB2.out hb3); clear a0 a1 a2 x0 x1 x2 x3; obtain ⟨⟨a0,a1,a2⟩,x0,x1,x2,x3⟩:=HK.out _ (bt HB12.out hb3); clear hb3)
      | (go_at_call 84; refine (HNA2.out _ HB3.out).mono ?_; rintro e w4 ⟨rfl,hb4⟩; have HB4:=Lib.hid (bt HB3.out hb4); clear hb4))
     go_ret
     exact ⟨ret_i HR.out.symm,HB4.out⟩
 ·have HR:Hid (r = 0):=Lib.hid (by rw [hr,if_neg g1,if_neg g2,if_neg g3])
  have e5:(k == 5) = false:=by rw [beq_eq_false_iff_ne]; omega
  have e10:(k == 10) = false:=by rw [beq_eq_false_iff_ne]; omega
  have e9:(k == 9) = false:=by rw [beq_eq_false_iff_ne]; omega
  have e6:(k == 6) = false:=by rw [beq_eq_false_iff_ne]; omega
  have e8:(k == 8) = false:=by rw [beq_eq_false_iff_ne]; omega
  clear hr hn HMI HMU HNA g1 g2 g3
  go_enter Tryd.func65,Tryd.ntmps65
  go_upto_region 1 with fail
  try rw [HZ2.out]
  rw [← HW1.out]
  try rw [← HZ.out]
  go_wp2_with fail
  go_ret
  exact ⟨ret_i HR.out.symm,HB1.out⟩
end Go.Proofs.YtkkenbalpnmfmaaDoor

namespace Go.Proofs.YtkkenbalpnmfmaaDoor
open Go.RowKit WM TR TY

theorem int_infoY:(Tryd.prog.info? 3).map (fun i=>(i.zero,i.size,i.bytes)) = some (some (.int .i64 0),1,8):=by kernel_rfl
theorem vi_oneY (l:List Int):∀ u ∈ vi l,u.oneCell' = true:=by
 intro u hu
 simp only [vi,List.mem_map] at hu
 obtain ⟨c,_,rfl⟩:=hu
 rfl
theorem vi_appY (l m:List Int):vi (l ++ m) = vi l ++ vi m:=by simp [vi]
theorem own_lowerY {w:World} {base B':Nat} {e:TypeId} {size n:Nat} {v:Value} {xs:List Value} (h:w.ownsRow base e size v n xs) (hb:B'≤base):w.ownsRow B' e size v n xs :=
 ⟨h.1,h.2.imp id fun ⟨g,cap,cur,h1,h2,h3⟩=>⟨g,cap,cur,h1,Nat.le_trans hb h2,h3⟩⟩
theorem below_grY {a w w':World} {o:Obj} {row:Option Nat} (hb:Below a.heap.size a w) (h:(w.alloc o).grownBy w' row) (hr:∀ b,row = some b→a.heap.size≤b):Below a.heap.size a w' :=
 ⟨h.os.trans hb.os,h.tape.trans hb.tape,h.output.trans hb.output,by have:=h.size; rw [size_alloc] at this; have:=hb.size; omega,fun i hi=>(h.block i (by rw [size_alloc]; have:=hb.size; omega) (fun e=>by have:=hr i e.symm; omega)).trans ((below_new w o).block i (Nat.lt_of_lt_of_le hi hb.size) |>.trans (hb.block i hi))⟩

set_option maxRecDepth 100000 in
set_option maxHeartbeats 8000000 in
theorem params_is (s : Sc) (f : Int) (d : Nat) (Av Af : Option Addr) (cv cf : Nat) (w : World) (hs : ScR w d s Av cv Af cf) (hf0 : 0 ≤ f) (hf : f < s.funs.length) (h0 : 0 ≤ (tAt s.funs f).n) (h1 : (tAt s.funs f).n ≤ (tAt s.funs f).kids.length) (hkl : (tAt s.funs f).kids.length ≤ 1000) :
  Calls Tryd.prog 105 #[.agg #[.slice Av s.vars.length cv,.slice Af s.funs.length cf,.int .i64 s.ch],.int .i64 f] w fun e w'=>∃ A c,e = .returned (.slice A (TY.params s f).length c)∧w'.ownsRow w.heap.size 3 1 (.slice A (TY.params s f).length c) (TY.params s f).length (vi (TY.params s f))∧Below w.heap.size w w':=by
 obtain ⟨j0,hj,hy0,hy1,hy2⟩:=info_parts int_infoY
 obtain ⟨vs,fs,ch⟩:=s
 simp only at hf h0 h1 hkl hs ⊢
 obtain ⟨nv,hnv⟩:∃ z,z = vs.length:=⟨_,rfl⟩
 obtain ⟨nf,hnf⟩:∃ z,z = fs.length:=⟨_,rfl⟩
 have hfl:nf≤1000:=by rw [hnf]; exact hs.f.2.2
 obtain ⟨j,rfl⟩:=Int.eq_ofNat_of_zero_le hf0
 obtain ⟨u,hu⟩:∃ u,fs[j]? = some u:=⟨_,List.getElem?_eq_getElem (by omega)⟩
 have hta:=tAt_get (n:=(j:Int)) rfl hu
 rw [hta] at h0 h1 hkl
 have hps:TY.params ⟨vs,fs,ch⟩ (j:Int) = (u.kids.take u.n.toNat).map (·.k):=by unfold TY.params; simp only [hta]
 obtain ⟨pl,hpl⟩:∃ pl,pl = TY.params ⟨vs,fs,ch⟩ (j:Int):=⟨_,rfl⟩
 rw [← hpl] at hps ⊢
 obtain ⟨z,hz⟩:∃ z,z = w.heap.size:=⟨_,rfl⟩
 obtain ⟨W1,hW1⟩:∃ W,W = w.alloc (.cells #[.slice Av nv cv,.slice Af nf cf,.int .i64 ch] 79):=⟨_,rfl⟩
 have hb1:Below w.heap.size w W1:=by rw [hW1]; exact below_new _ _
 have ks:Blk W1 z 79 #[.slice Av nv cv,.slice Af nf cf,.int .i64 ch]:=by rw [hW1,hz]; exact Blk.new _ _ _
 have a1:W1.cell? ⟨z,1,none⟩ = some (.slice Af nf cf):=ks.cell 1
 have hs1:=hs.next hb1
 obtain ⟨b,off,A',c',hAf,_,hc,hru⟩:=hs1.f.at_ hu
 replace hAf:Af = some ⟨b,off,none⟩:=hAf
 subst hAf
 have hcap:=hru.cap
 obtain ⟨uk,un,um,ukids⟩:=u
 simp only at h0 h1 hkl hps hcap
 obtain ⟨p,rfl⟩:=Int.eq_ofNat_of_zero_le h0
 obtain ⟨nu,hnu⟩:∃ q,q = ukids.length:=⟨_,rfl⟩
 rw [← hnu] at h1 hkl hcap
 have hc1:=hc 1 _ rfl
 have hc3:=hc 3 _ rfl
 have u1:W1.cell? ⟨b,off + j * 4 + 1,none⟩ = some (.int .i64 (p:Int)):=hc1
 have u3:W1.cell? ⟨b,off + j * 4 + 3,none⟩ = some (.slice A' nu c'):=by rw [hnu]; exact hc3
 have hjb:(0:Int)≤(j:Int)∧(j:Int) < (nf:Int):=⟨by omega,by omega⟩
 have hpn:p≤nu:=by omega
 have hcut:=cutN A' nu c' p (by omega)
 obtain ⟨A2,hA2⟩:∃ A2,A2 = (if c' = 0 then A' else A'.map (·.add 0)):=⟨_,rfl⟩
 rw [← hA2] at hcut
 have hpl2:pl.length = p:=by rw [hps,List.length_map,List.length_take,Int.toNat_natCast]; omega
 have HKD:Hid (∀ (i:Nat),i < p→∃ (b2 off2:Nat) (v:T) (A3:Option Addr) (c3:Nat),ukids[i]? = some v∧A2 = some ⟨b2,off2,none⟩∧∀ W,Below W1.heap.size W1 W→∀ i' x,(nd v A3 c3)[i']? = some x→W.cell? ⟨b2,off2 + i * 4 + i',none⟩ = some x):=Lib.hid fun i hi=>by
  cases d with
  | zero=>exact hru.elim
  | succ d =>
   obtain ⟨v,hv⟩:∃ v,ukids[i]? = some v:=⟨_,List.getElem?_eq_getElem (by omega)⟩
   obtain ⟨b2,off2,A3,c3,hA3,hlt3,hc3',_⟩:=hru.kid hv
   refine ⟨b2,off2,v,A3,c3,hv,?_,fun W hb i' x hx=>(hb.cell (p:=⟨b2,_,none⟩) hlt3).trans (hc3' i' x hx)⟩
   rw [hA2,hA3]
   split <;> simp [Addr.add]
 have HPS:Hid (pl = ((ukids.take p).map (·.k))):=Lib.hid (by rw [hps,Int.toNat_natCast])
 have HPL:=Lib.hid hpl2
 have HW1:=Lib.hid hW1
 have HZ:=Lib.hid hz
 have HB1:=Lib.hid hb1
 rw [← hnv,← hnf]
 rw [hpl2]
 clear hA2 hps hpl hpl2 hW1 hz hb1 ks hs hs1 hc hc1 hc3 hru hu hta hnu hnv hnf hf hf0 h0 h1
 go_enter Tryd.func105,Tryd.ntmps105
 go_upto_region 2 with fail
 rw [← HW1.out]
 try rw [← HZ.out]
 go_quiet (fail)
 all_goals
  go_upto_region 3 with fail
  generalize hV:W1.drewN _ = V
  have HV:Hid (Below W1.heap.size W1 V):=Lib.hid (by rw [← hV]; exact drewB (Below.refl _ _))
  have HBV:Hid (Below w.heap.size w V):=Lib.hid (bt HB1.out HV.out)
  clear hV u1 u3 a1 hcut hjb
  go_loopw [5,22] (fun s5 s22 wr=>∃ (i:Nat) (A5:Option Addr) (c5:Nat),i≤p∧s22 = .int .i64 i∧s5 = .slice A5 i c5∧Hid (wr.ownsRow V.heap.size 3 1 (.slice A5 i c5) i (vi (pl.take i))∧Below V.heap.size V wr)) (fun _ s22 _=>p - (intOf s22).toNat)
  case atStart=>exact ⟨0,none,0,Nat.zero_le _,rfl,rfl,World.ownsRow_nil _ _ _ _,Below.refl _ _⟩
  case round =>
   obtain ⟨i,A5,c5,hip,rfl,rfl,HI⟩:=hrel
   by_cases hlt:i < p
   ·obtain ⟨b2,off2,v,A3,c3,hv,hA2,hcv0⟩:=HKD.out i hlt
    subst hA2
    have hcv:=hcv0 wr (bt HV.out HI.out.2)
    obtain ⟨vk,vn,vm,vkids⟩:=v
    obtain ⟨nvk,hnvk⟩:∃ q,q = vkids.length:=⟨_,rfl⟩
    obtain ⟨v0,v1,v2,v3⟩:wr.cell? ⟨b2,off2 + i * 4,none⟩ = some (.int .i64 vk)∧wr.cell? ⟨b2,off2 + i * 4 + 1,none⟩ = some (.int .i64 vn)∧wr.cell? ⟨b2,off2 + i * 4 + 2,none⟩ = some (.int .i64 vm)∧wr.cell? ⟨b2,off2 + i * 4 + 3,none⟩ = some (.slice A3 nvk c3):=⟨hcv 0 _ rfl,hcv 1 _ rfl,hcv 2 _ rfl,by rw [hnvk]; exact hcv 3 _ rfl⟩
    have hib:(0:Int)≤(i:Int)∧(i:Int) < (p:Int):=⟨by omega,by omega⟩
    have HTK:Hid (pl.take (i + 1) = pl.take i ++ [vk]):=Lib.hid (by
     have h1:pl[i]? = some vk:=by rw [HPS.out,List.getElem?_map,List.getElem?_take,if_pos hlt,hv]; rfl
     rw [List.take_add_one,h1]; rfl)
    clear hv hcv hcv0 hnvk
    go_upto_region 5 with fail
    obtain ⟨W4,hW4⟩:∃ W,W = wr.alloc (.cells #[.int .i64 vk,.int .i64 vn,.int .i64 vm,.slice A3 nvk c3] 25):=⟨_,rfl⟩
    obtain ⟨g8,hg8⟩:∃ z,z = wr.heap.size:=⟨_,rfl⟩
    have k8:Blk W4 g8 25 #[.int .i64 vk,.int .i64 vn,.int .i64 vm,.slice A3 nvk c3]:=by rw [hW4,hg8]; exact Blk.new _ _ _
    have hb4:Below wr.heap.size wr W4:=by rw [hW4]; exact below_new _ _
    rw [← hW4,← hg8]
    have y0:W4.cell? ⟨g8,0,none⟩ = some (.int .i64 vk):=k8.cell 0
    have HB4:=Lib.hid (bt HI.out.2 hb4)
    have HO4:=Lib.hid (ownsRow_below HI.out.1 hb4)
    clear hW4 hg8 k8 hb4 v0 v1 v2 v3 hib
    go_wp2_with (at_builtin; go_loud (refine wpList_append_any _ rfl (.tmp 26) (.tmp 29) 22 rfl V.heap.size 3 j0 _ 1 8 Tryd.underlying22 hj hy0 hy1 hy2 rfl (by omega) (.slice A5 i c5) i _ rfl (HO4.out.alloc _) _ (some ⟨W4.heap.size,0,none⟩) 1 1 (vi [vk]) rfl (Reads.of_own (own_lit (w:=W4) (base:=W4.heap.size) (e:=3) (size:=1) (xs:=vi [vk]) (n:=1) (Nat.le_refl _) rfl (len_le (by omega)))) (vi_oneY _) (len_le (by omega)) (by omega) (by have:=HB4.out.size; rw [size_alloc]; omega) ?_; intro v4 w4 hown4 hgrow4 _; obtain ⟨A7,c7,rfl,_⟩:=own_len hown4; have HN4:Hid (w4.ownsRow V.heap.size 3 1 (.slice A7 (i + 1) c7) (i + 1) (vi (pl.take (i + 1)))∧Below V.heap.size V w4):=Lib.hid ⟨by rw [HTK.out,vi_appY]; exact hown4,below_grY HB4.out hgrow4 fun b e=>(HO4.out.lt b e).1⟩; clear hown4 hgrow4))
    go_roundw
    case rel=>exact ⟨i + 1,A7,c7,by omega,by go_num,rfl,HN4.out.1,HN4.out.2⟩
    case measure=>simp [intOf]; omega
   ·have hie:i = p:=by omega
    subst hie
    go_wp2_with fail
    go_ret
    have h:=HI.out.1
    rw [List.take_of_length_le (by rw [HPL.out]; exact Nat.le_refl _)] at h
    exact ⟨A5,c5,rfl,own_lowerY h HBV.out.size,bt HBV.out HI.out.2⟩
end Go.Proofs.YtkkenbalpnmfmaaDoor

namespace Go.Proofs.YtkkenbalpnmfmaaDoor.TY
open TR
theorem fitB_true (s:Sc):∀ (kids:List T) (l:List Int),(∀ (j:Nat) (u:T) (k:Int),kids[j]? = some u→l[j]? = some k→fit1 s u k = true)→fitB s kids l = true
 | [],_,_=>by simp [fitB]
 | _ :: _,[],_=>by simp [fitB]
 | u :: kids,k :: l,h=>by
  have h1:=h 0 u k rfl rfl
  have h2:=fitB_true s kids l fun j v q hv hq=>h (j + 1) v q (by simpa using hv) (by simpa using hq)
  unfold fitB at h2 ⊢
  rw [List.zipWith_cons_cons,List.all_cons,h2,h1]
  rfl
theorem fitB_false (s:Sc):∀ (kids:List T) (l:List Int) (j:Nat) (u:T) (k:Int),kids[j]? = some u→l[j]? = some k→fit1 s u k = false→fitB s kids l = false
 | [],_,j,_,_,h,_,_=>by simp at h
 | _ :: _,[],j,_,_,_,h,_=>by simp at h
 | v :: kids,q :: l,0,u,k,h1,h2,h3=>by
  simp only [List.getElem?_cons_zero,Option.some.injEq] at h1 h2
  subst h1 h2
  unfold fitB
  rw [List.zipWith_cons_cons,List.all_cons,h3]
  rfl
 | v :: kids,q :: l,j + 1,u,k,h1,h2,h3=>by
  have:=fitB_false s kids l j u k (by simpa using h1) (by simpa using h2) h3
  unfold fitB at this ⊢
  rw [List.zipWith_cons_cons,List.all_cons,this,Bool.and_false]
end Go.Proofs.YtkkenbalpnmfmaaDoor.TY
namespace Go.Proofs.YtkkenbalpnmfmaaDoor
open Go.RowKit WM TR TY

theorem vi_getY {l:List Int} {i:Nat} {x:Int} (h:l[i]? = some x):(vi l)[i]? = some (.int .i64 x):=by simp [vi,h]
def AOk (u:T):Prop:=(u.k≠4→0≤u.n)∧0≤u.m∧u.kids.length≤1000000
set_option maxRecDepth 100000 in
set_option maxHeartbeats 8000000 in
theorem fit_is (s : Sc) (kids : List T) (l : List Int) (d d' : Nat) (Av Af Ak B : Option Addr) (cv cf ck cb : Nat) (w : World) (hs : ScR w d s Av cv Af cf) (hk : Nds w (Lt w.heap.size) d' kids Ak ck) (hl : Reads w w.heap.size 1 B l.length (vi l)) (hle : l.length ≤ kids.length) (hok : ∀ u ∈ kids, AOk u) :
  Calls Tryd.prog 104 #[.agg #[.slice Av s.vars.length cv,.slice Af s.funs.length cf,.int .i64 s.ch],.slice Ak kids.length ck,.slice B l.length cb] w fun e w'=>e = .returned (.bool (fitB s kids l))∧Below w.heap.size w w':=by
 obtain ⟨nv,hnv⟩:∃ z,z = s.vars.length:=⟨_,rfl⟩
 obtain ⟨nf,hnf⟩:∃ z,z = s.funs.length:=⟨_,rfl⟩
 obtain ⟨nk,hnk⟩:∃ z,z = kids.length:=⟨_,rfl⟩
 obtain ⟨nl,hnl⟩:∃ z,z = l.length:=⟨_,rfl⟩
 obtain ⟨ch,hch⟩:∃ z,z = s.ch:=⟨_,rfl⟩
 have hkl:nk≤1000:=by rw [hnk]; exact hk.2.2
 have hle':nl≤nk:=by omega
 obtain ⟨z,hz⟩:∃ z,z = w.heap.size:=⟨_,rfl⟩
 obtain ⟨W1,hW1⟩:∃ W,W = w.alloc (.cells #[.slice Av nv cv,.slice Af nf cf,.int .i64 ch] 79):=⟨_,rfl⟩
 have hb1:Below w.heap.size w W1:=by rw [hW1]; exact below_new _ _
 have ks:Blk W1 z 79 #[.slice Av nv cv,.slice Af nf cf,.int .i64 ch]:=by rw [hW1,hz]; exact Blk.new _ _ _
 have HTY:Hid (∀ (u:T) (A:Option Addr) (c:Nat) (W:World),u ∈ kids→Below W1.heap.size W1 W→Calls Tryd.prog 65 #[.agg #[.slice Av nv cv,.slice Af nf cf,.int .i64 ch],.agg #[.int .i64 u.k,.int .i64 u.n,.int .i64 u.m,.slice A u.kids.length c]] W fun e w'=>e = .returned (.int .i64 (typeOf s u))∧Below W.heap.size W w'):=Lib.hid fun u A c W hu hb=>by
  have h:=typeOf_is s u d A Av Af c cv cf W ((hs.next hb1).next hb) (hok u hu).2.2 (hok u hu).1 (hok u hu).2.1
  rw [← hnv,← hnf,← hch] at h
  exact h
 have HK:=Lib.hid (hk.next hb1)
 have HL:=Lib.hid ((hl.below hb1).more hb1.size)
 have HSC:Hid (∀ W,Below W1.heap.size W1 W→W.cell? ⟨z,0,none⟩ = some (.slice Av nv cv)∧W.cell? ⟨z,1,none⟩ = some (.slice Af nf cf)∧W.cell? ⟨z,2,none⟩ = some (.int .i64 ch)):=Lib.hid fun W hb=>⟨(ks.below hb ks.lt).cell 0,(ks.below hb ks.lt).cell 1,(ks.below hb ks.lt).cell 2⟩
 have HW1:=Lib.hid hW1
 have HZ:=Lib.hid hz
 have HB1:=Lib.hid hb1
 have HNK:=Lib.hid hnk
 have HNL:=Lib.hid hnl
 obtain ⟨r,hr⟩:∃ r,r = fitB s kids l:=⟨_,rfl⟩
 have HR:=Lib.hid hr
 rw [← hr,← hnv,← hnf,← hnk,← hnl,← hch]
 clear hnv hnf hnk hnl hch hW1 hz hb1 ks hs hk hl hok hr hle
 go_enter Tryd.func104,Tryd.ntmps104
 go_upto_region 1 with fail
 rw [← HW1.out]
 try rw [← HZ.out]
 go_upto_region 2 with fail
 go_loopw [12] (fun s12 wr=>∃ i:Nat,i≤nl∧s12 = .int .i64 i∧Hid (Below W1.heap.size W1 wr∧∀ (j:Nat) (u:T) (k:Int),j < i→kids[j]? = some u→l[j]? = some k→fit1 s u k = true)) (fun s12 _=>nl - (intOf s12).toNat)
 case atStart=>exact ⟨0,Nat.zero_le _,rfl,Below.refl _ _,fun j u k hj=>by omega⟩
 case round =>
  obtain ⟨i,hil,rfl,HI⟩:=hrel
  by_cases hlt:i < nl
  ·obtain ⟨u,hu⟩:∃ u,kids[i]? = some u:=⟨_,List.getElem?_eq_getElem (by rw [← HNK.out]; omega)⟩
   obtain ⟨q,hq⟩:∃ q,l[i]? = some q:=⟨_,List.getElem?_eq_getElem (by rw [← HNL.out]; exact hlt)⟩
   obtain ⟨b,off,A',c',hAk,hltb,hc,_⟩:=HK.out.at_ hu
   subst hAk
   obtain ⟨bl,ol,hB,_,hcl⟩:=HL.out.lit (by rw [← HNL.out]; omega)
   subst hB
   have q0:wr.cell? ⟨bl,ol + i,none⟩ = some (.int .i64 q):=by
    have h1:=hcl i _ (vi_getY hq)
    exact (HI.out.1.cell (p:=⟨bl,ol + i,none⟩) (block_lt_of_cell h1)).trans h1
   obtain ⟨nu,hnu⟩:∃ z,z = u.kids.length:=⟨_,rfl⟩
   have HCE:Hid (∀ W,Below W1.heap.size W1 W→(W.cell? ⟨z,0,none⟩ = some (.slice Av nv cv)∧W.cell? ⟨z,1,none⟩ = some (.slice Af nf cf)∧W.cell? ⟨z,2,none⟩ = some (.int .i64 ch))∧(W.cell? ⟨b,off + i * 4,none⟩ = some (.int .i64 u.k)∧W.cell? ⟨b,off + i * 4 + 1,none⟩ = some (.int .i64 u.n)∧W.cell? ⟨b,off + i * 4 + 2,none⟩ = some (.int .i64 u.m)∧W.cell? ⟨b,off + i * 4 + 3,none⟩ = some (.slice A' nu c'))):=Lib.hid fun W hb=>by
    have e:∀ i' v,(nd u A' c')[i']? = some v→W.cell? ⟨b,off + i * 4 + i',none⟩ = some v:=fun i' v hv=>(hb.cell (p:=⟨b,_,none⟩) hltb).trans (hc i' v hv)
    exact ⟨HSC.out W hb,e 0 _ rfl,e 1 _ rfl,e 2 _ rfl,by rw [hnu]; exact e 3 _ rfl⟩
   obtain ⟨ty,hty⟩:∃ ty,typeOf s u = ty:=⟨_,rfl⟩
   have HT1:Hid (∀ W,Below W1.heap.size W1 W→Calls Tryd.prog 65 #[.agg #[.slice Av nv cv,.slice Af nf cf,.int .i64 ch],.agg #[.int .i64 u.k,.int .i64 u.n,.int .i64 u.m,.slice A' nu c']] W fun e w'=>e = .returned (.int .i64 ty)∧Below W.heap.size W w'):=Lib.hid fun W hb=>by
    have h:=HTY.out u A' c' W (List.mem_of_getElem? hu) hb
    rw [← hnu,hty] at h
    exact h
   have HF1:Hid (fit1 s u q = (ty == q || ty == -1)):=Lib.hid (by unfold fit1; rw [hty])
   have HU:=Lib.hid hu
   have HQ:=Lib.hid hq
   have hib:(0:Int)≤(i:Int)∧(i:Int) < (nk:Int):=⟨by omega,by omega⟩
   have hib2:(0:Int)≤(i:Int)∧(i:Int) < (nl:Int):=⟨by omega,by omega⟩
   obtain ⟨uk,huk⟩:∃ z,z = u.k:=⟨_,rfl⟩
   obtain ⟨un,hun⟩:∃ z,z = u.n:=⟨_,rfl⟩
   obtain ⟨um,hum⟩:∃ z,z = u.m:=⟨_,rfl⟩
   rw [← huk,← hun,← hum] at HCE HT1
   have hbc:Below W1.heap.size W1 wr.drew:=HI.out.1.drew
   clear hc hltb hcl hnu hty hu hq huk hun hum
   go_upto_region 4 with fail
   clear q0
   go_cut [9] from 17 to 22 (fun s9 wv=>∃ (V4:World),V4 = wv∧s9 = .int .i64 ty∧Hid (Below W1.heap.size W1 V4))
   case first =>
    refine wp_region_noPanic ?_
    go_region_held2 (fun W=>(W.cell? ⟨z,0,none⟩ = some (.slice Av nv cv)∧W.cell? ⟨z,1,none⟩ = some (.slice Af nf cf)∧W.cell? ⟨z,2,none⟩ = some (.int .i64 ch))∧(W.cell? ⟨b,off + i * 4,none⟩ = some (.int .i64 uk)∧W.cell? ⟨b,off + i * 4 + 1,none⟩ = some (.int .i64 un)∧W.cell? ⟨b,off + i * 4 + 2,none⟩ = some (.int .i64 um)∧W.cell? ⟨b,off + i * 4 + 3,none⟩ = some (.slice A' nu c')))
     (exact HCE.out _ hbc)
     (first
     | (go_at_call 65; (with_reducible refine (HT1.out _ hbc).mono ?_); rintro e w11 ⟨rfl,hb11⟩; replace hbc:=bt hbc hb11; clear hb11))
    all_goals
     refine NoPanic.normal ?_
     go_wp2_with fail
     go_meet
     exact ⟨_,rfl,rfl,hbc⟩
   case rest =>
   obtain ⟨V4,hV4,rfl,HB4⟩:=hcut
   subst hV4
   clear hbc HT1 HCE
   by_cases h1:ty = q
   ·have e1:(ty != q) = false:=by rw [bne_eq_false_iff_eq]; exact h1
    have HF2:Hid (fit1 s u q = true):=Lib.hid (by rw [HF1.out]; simp [h1])
    clear h1
    go_wp2_with fail
    go_roundw
    case rel=>exact ⟨i + 1,by omega,by go_num,HB4.out,fun j v p hj hv hp=>by
     by_cases hji:j < i
     ·exact HI.out.2 j v p hji hv hp
     ·have:j = i:=by omega
      subst this
      rw [HU.out] at hv; rw [HQ.out] at hp
      cases hv; cases hp
      exact HF2.out⟩
    case measure=>simp [intOf]; omega
   ·have e1:(ty != q) = true:=by rw [bne_iff_ne]; exact h1
    by_cases h2:ty = -1
    ·have e2:(ty != -1) = false:=by rw [bne_eq_false_iff_eq]; exact h2
     have HF2:Hid (fit1 s u q = true):=Lib.hid (by rw [HF1.out]; simp [h2])
     clear h1 h2
     go_wp2_with fail
     go_roundw
     case rel=>exact ⟨i + 1,by omega,by go_num,HB4.out,fun j v p hj hv hp=>by
      by_cases hji:j < i
      ·exact HI.out.2 j v p hji hv hp
      ·have:j = i:=by omega
       subst this
       rw [HU.out] at hv; rw [HQ.out] at hp
       cases hv; cases hp
       exact HF2.out⟩
     case measure=>simp [intOf]; omega
    ·have e2:(ty != -1) = true:=by rw [bne_iff_ne]; exact h2
     have HF2:Hid (r = false):=Lib.hid (by rw [HR.out]; exact fitB_false s kids l i u q HU.out HQ.out (by rw [HF1.out]; simp [h1,h2]))
     clear h1 h2
     go_wp2_with fail
     go_ret
     exact ⟨ret_b HF2.out.symm,bt HB1.out HB4.out⟩
  ·have hie:i = nl:=by omega
   subst hie
   have HF2:Hid (r = true):=Lib.hid (by
    rw [HR.out]
    refine fitB_true s kids l fun j v p hv hp=>HI.out.2 j v p ?_ hv hp
    have:=(List.getElem?_eq_some_iff.1 hp).1
    rw [← HNL.out] at this
    exact this)
   go_wp2_with fail
   go_ret
   exact ⟨ret_b HF2.out.symm,bt HB1.out HI.out.1⟩
end Go.Proofs.YtkkenbalpnmfmaaDoor
