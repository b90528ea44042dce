/- Texts joined. -/
import Derived.Test.YtkkenbalpnmfmaaDoorH40
set_option linter.unusedVariables false
namespace Go.Proofs.YtkkenbalpnmfmaaDoor
open Go.RowKit WM TR TY

set_option maxRecDepth 100000 in
set_option maxHeartbeats 8000000 in
theorem isRecord_is (d:Nat) (u:T) (A:Option Addr) (c:Nat) (w:World) (hr:Rep w (Lt w.heap.size) (d + 1) u (nd u A c)):Calls Tryd.prog 58 #[.agg #[.int .i64 u.k,.int .i64 u.n,.int .i64 u.m,.slice A u.kids.length c]] w fun e w'=>e = .returned (.bool (isRec u))∧Below w.heap.size w w':=by
 obtain ⟨nk,hnk⟩:∃ z,z = u.kids.length:=⟨_,rfl⟩
 obtain ⟨k,hk⟩:∃ z,z = u.k:=⟨_,rfl⟩
 obtain ⟨n,hn⟩:∃ z,z = u.n:=⟨_,rfl⟩
 obtain ⟨m,hm⟩:∃ z,z = u.m:=⟨_,rfl⟩
 obtain ⟨z,hz⟩:∃ z,z = w.heap.size:=⟨_,rfl⟩
 obtain ⟨b1,h1⟩:∃ b,(k != 3) = b:=⟨_,rfl⟩
 obtain ⟨b2,h2⟩:∃ b,(n != 0) = b:=⟨_,rfl⟩
 obtain ⟨b3,h3⟩:∃ b,(m != 0) = b:=⟨_,rfl⟩
 obtain ⟨b4,h4⟩:∃ b,((nk:Int) == 0) = b:=⟨_,rfl⟩
 obtain ⟨b5,h5⟩:∃ b,decide ((3:Int) < (nk:Int)) = b:=⟨_,rfl⟩
 obtain ⟨W1,hW1⟩:∃ W,W = w.alloc (.cells #[.int .i64 k,.int .i64 n,.int .i64 m,.slice A nk c] 25):=⟨_,rfl⟩
 have hb1:Below w.heap.size w W1:=by rw [hW1]; exact below_new _ _
 have k1:Blk W1 z 25 #[.int .i64 k,.int .i64 n,.int .i64 m,.slice A nk c]:=by rw [hW1,hz]; exact Blk.new _ _ _
 obtain ⟨y0,y1,y2,y3⟩:W1.cell? ⟨z,0,none⟩ = some (.int .i64 k)∧W1.cell? ⟨z,1,none⟩ = some (.int .i64 n)∧W1.cell? ⟨z,2,none⟩ = some (.int .i64 m)∧W1.cell? ⟨z,3,none⟩ = some (.slice A nk c):=⟨k1.cell 0,k1.cell 1,k1.cell 2,k1.cell 3⟩
 obtain ⟨r,hrr⟩:∃ r,r = isRec u:=⟨_,rfl⟩
 have HR:Hid (r = ((!b1 && (!b2 && (!b3 && (!b4 && !b5)))) && u.kids.all single)):=Lib.hid (by rw [hrr]; unfold isRec recHead; rw [← hk,← hn,← hm,← hnk,h1,h2,h3,h4,h5])
 have hnk3:b5 = false→nk≤3:=fun h=>by rw [h] at h5; have:=of_decide_eq_false h5; omega
 have HN3:=Lib.hid hnk3
 have HW1:=Lib.hid hW1
 have HZ:=Lib.hid hz
 have HB1:=Lib.hid hb1
 have HRU:=Lib.hid (rep_next hr hb1)
 have HNK:=Lib.hid hnk
 rw [← hk,← hn,← hm,← hnk,← hrr]
 clear hk hn hm hnk hrr hW1 hz hb1 k1 hr hnk3
 cases b1
 case true =>
  go_enter Tryd.func58,Tryd.ntmps58
  go_upto_region 1 with fail
  rw [← HW1.out]
  try rw [← HZ.out]
  go_wp2_with fail
  go_ret
  exact ⟨ret_b (by rw [HR.out]; rfl),HB1.out⟩
 cases b2
 case true =>
  go_enter Tryd.func58,Tryd.ntmps58
  go_upto_region 1 with fail
  rw [← HW1.out]
  try rw [← HZ.out]
  go_wp2_with fail
  go_ret
  exact ⟨ret_b (by rw [HR.out]; rfl),HB1.out⟩
 cases b3
 case true =>
  go_enter Tryd.func58,Tryd.ntmps58
  go_upto_region 1 with fail
  rw [← HW1.out]
  try rw [← HZ.out]
  go_wp2_with fail
  go_ret
  exact ⟨ret_b (by rw [HR.out]; rfl),HB1.out⟩
 cases b4
 case true =>
  go_enter Tryd.func58,Tryd.ntmps58
  go_upto_region 1 with fail
  rw [← HW1.out]
  try rw [← HZ.out]
  go_wp2_with fail
  go_ret
  exact ⟨ret_b (by rw [HR.out]; rfl),HB1.out⟩
 cases b5
 case true =>
  go_enter Tryd.func58,Tryd.ntmps58
  go_upto_region 1 with fail
  rw [← HW1.out]
  try rw [← HZ.out]
  go_wp2_with fail
  go_ret
  exact ⟨ret_b (by rw [HR.out]; rfl),HB1.out⟩
 have hnk3:=HN3.out rfl
 have HR2:Hid (r = u.kids.all single):=Lib.hid (by rw [HR.out]; simp)
 go_enter Tryd.func58,Tryd.ntmps58
 go_upto_region 1 with fail
 rw [← HW1.out]
 try rw [← HZ.out]
 go_upto_region 4 with fail
 clear y0 y1 y2 y3 h1 h2 h3 h4 h5
 go_loopw [33] (fun i wr=>∃ j:Nat,j≤nk∧i = .int .i64 j∧Hid (Below W1.heap.size W1 wr∧∀ (i:Nat) (v:T),i < j→u.kids[i]? = some v→single v = true)) (fun i _=>nk - (intOf i).toNat)
 case atStart=>exact ⟨0,Nat.zero_le _,rfl,Below.refl _ _,fun i v h=>absurd h (Nat.not_lt_zero _)⟩
 case round =>
  obtain ⟨j,hj,rfl,HI⟩:=hrel
  by_cases hlt:j < nk
  ·obtain ⟨v,hv⟩:∃ v,u.kids[j]? = some v:=⟨_,List.getElem?_eq_getElem (by rw [← HNK.out]; exact hlt)⟩
   obtain ⟨b,off,A',c',hA,hbl,hc,_⟩:=HRU.out.kid hv
   subst hA
   have hcu:∀ i x,(nd v A' c')[i]? = some x→wr.cell? ⟨b,off + j * 4 + i,none⟩ = some x:=fun i x hx=>(HI.out.1.cell (p:=⟨b,_,none⟩) hbl).trans (hc i x hx)
   obtain ⟨nv,hnv⟩:∃ q,q = v.kids.length:=⟨_,rfl⟩
   obtain ⟨vk,hvk⟩:∃ z,z = v.k:=⟨_,rfl⟩
   obtain ⟨vn,hvn⟩:∃ z,z = v.n:=⟨_,rfl⟩
   obtain ⟨vm,hvm⟩:∃ z,z = v.m:=⟨_,rfl⟩
   obtain ⟨v0,v1,v2,v3⟩:wr.cell? ⟨b,off + j * 4,none⟩ = some (.int .i64 vk)∧wr.cell? ⟨b,off + j * 4 + 1,none⟩ = some (.int .i64 vn)∧wr.cell? ⟨b,off + j * 4 + 2,none⟩ = some (.int .i64 vm)∧wr.cell? ⟨b,off + j * 4 + 3,none⟩ = some (.slice A' nv c'):=⟨by rw [hvk]; exact hcu 0 _ rfl,by rw [hvn]; exact hcu 1 _ rfl,by rw [hvm]; exact hcu 2 _ rfl,by rw [hnv]; exact hcu 3 _ rfl⟩
   have hib:(0:Int)≤(j:Int)∧(j:Int) < (nk:Int):=⟨by omega,by omega⟩
   obtain ⟨sv,hsv⟩:∃ sv,single v = sv:=⟨_,rfl⟩
   have HSI:Hid (∀ W,Calls Tryd.prog 56 #[.agg #[.int .i64 vk,.int .i64 vn,.int .i64 vm,.slice A' nv c']] W fun e w'=>e = .returned (.bool sv)∧Below W.heap.size W w'):=Lib.hid fun W=>by
    have h:=isSingle_is v A' c' W
    rw [hsv,← hnv,← hvk,← hvn,← hvm] at h
    exact h
   have HV:=Lib.hid hv
   have HSV:=Lib.hid hsv
   clear hcu hc hnv hvk hvn hvm hsv hv hbl
   go_upto_region 6 with fail
   obtain ⟨V1,hV1⟩:∃ Z,Z = wr.alloc (.cells #[.int .i64 vk,.int .i64 vn,.int .i64 vm,.slice A' nv c'] 25):=⟨_,rfl⟩
   obtain ⟨g4,hg4⟩:∃ z,z = wr.heap.size:=⟨_,rfl⟩
   have k4:Blk V1 g4 25 #[.int .i64 vk,.int .i64 vn,.int .i64 vm,.slice A' nv c']:=by rw [hV1,hg4]; exact Blk.new _ _ _
   have hb4:Below wr.heap.size wr V1:=by rw [hV1]; exact below_new _ _
   rw [← hV1,← hg4]
   have HBV:Hid (Below W1.heap.size W1 V1):=Lib.hid (bt HI.out.1 hb4)
   obtain ⟨x0,x1,x2,x3⟩:V1.cell? ⟨g4,0,none⟩ = some (.int .i64 vk)∧V1.cell? ⟨g4,1,none⟩ = some (.int .i64 vn)∧V1.cell? ⟨g4,2,none⟩ = some (.int .i64 vm)∧V1.cell? ⟨g4,3,none⟩ = some (.slice A' nv c'):=⟨k4.cell 0,k4.cell 1,k4.cell 2,k4.cell 3⟩
   clear hV1 hg4 k4 hb4 v0 v1 v2 v3 hib
   cases sv with
   | true =>
    go_wp2_with (go_at_call 56; refine (HSI.out _).mono ?_; rintro e w5 ⟨rfl,hb5⟩; have HB5:=Lib.hid (bt HBV.out hb5); clear hb5)
    go_roundw
    case rel=>exact ⟨j + 1,by omega,by go_num,HB5.out,fun i x hi hx=>by
     by_cases hij:i < j
     ·exact HI.out.2 i x hij hx
     ·have:i = j:=by omega
      subst this
      rw [HV.out] at hx
      cases hx
      exact HSV.out⟩
    case measure=>simp [intOf]; omega
   | false =>
    have HR3:Hid (r = false):=Lib.hid (by
     rw [HR2.out,List.all_eq_false]
     exact ⟨v,List.mem_of_getElem? HV.out,by rw [HSV.out]; simp⟩)
    go_wp2_with (go_at_call 56; refine (HSI.out _).mono ?_; rintro e w5 ⟨rfl,hb5⟩; have HB5:=Lib.hid (bt HBV.out hb5); clear hb5)
    go_ret
    exact ⟨ret_b (by rw [HR3.out]),bt HB1.out HB5.out⟩
  ·have hjn:j = nk:=by omega
   have HR3:Hid (r = true):=Lib.hid (by
    rw [HR2.out,List.all_eq_true]
    intro x hx
    obtain ⟨i,hi⟩:=List.mem_iff_getElem?.1 hx
    exact HI.out.2 i x (by have:=(List.getElem?_eq_some_iff.1 hi).1; have:=HNK.out; omega) hi)
   clear hjn
   go_wp2_with fail
   go_ret
   exact ⟨ret_b (by rw [HR3.out]),bt HB1.out HI.out.1⟩

set_option maxRecDepth 100000 in
set_option maxHeartbeats 8000000 in
theorem words_is (d:Nat) (u:T) (A:Option Addr) (c:Nat) (w:World) (hr:Rep w (Lt w.heap.size) (d + 1) u (nd u A c)):Calls Tryd.prog 23 #[.agg #[.int .i64 u.k,.int .i64 u.n,.int .i64 u.m,.slice A u.kids.length c]] w fun e w'=>e = .returned (.int .i64 (words u))∧Below w.heap.size w w':=by
 obtain ⟨nk,hnk⟩:∃ z,z = u.kids.length:=⟨_,rfl⟩
 obtain ⟨k,hk⟩:∃ z,z = u.k:=⟨_,rfl⟩
 obtain ⟨n,hn⟩:∃ z,z = u.n:=⟨_,rfl⟩
 obtain ⟨m,hm⟩:∃ z,z = u.m:=⟨_,rfl⟩
 obtain ⟨z,hz⟩:∃ z,z = w.heap.size:=⟨_,rfl⟩
 obtain ⟨W1,hW1⟩:∃ W,W = w.alloc (.cells #[.int .i64 k,.int .i64 n,.int .i64 m,.slice A nk c] 25):=⟨_,rfl⟩
 have hb1:Below w.heap.size w W1:=by rw [hW1]; exact below_new _ _
 have k1:Blk W1 z 25 #[.int .i64 k,.int .i64 n,.int .i64 m,.slice A nk c]:=by rw [hW1,hz]; exact Blk.new _ _ _
 have HK:Hid (∀ W,Below W1.heap.size W1 W→W.cell? ⟨z,0,none⟩ = some (.int .i64 k)∧W.cell? ⟨z,1,none⟩ = some (.int .i64 n)∧W.cell? ⟨z,2,none⟩ = some (.int .i64 m)∧W.cell? ⟨z,3,none⟩ = some (.slice A nk c)):=Lib.hid fun W hb=>by
  have e:=k1.below hb k1.lt
  exact ⟨e.cell 0,e.cell 1,e.cell 2,e.cell 3⟩
 obtain ⟨y0,y1,y2,y3⟩:=HK.out W1 (Below.refl _ _)
 obtain ⟨s,hs⟩:∃ s,single u = s:=⟨_,rfl⟩
 obtain ⟨a,ha⟩:∃ a,isArr u = a:=⟨_,rfl⟩
 obtain ⟨q,hq⟩:∃ q,isRec u = q:=⟨_,rfl⟩
 obtain ⟨r,hrr⟩:∃ r,r = words u:=⟨_,rfl⟩
 have HR:Hid (r = if s = true then 1 else if a = true then n else if q = true then (nk:Int) else -1):=Lib.hid (by rw [hrr]; unfold words; rw [hs,ha,hq,← hn,← hnk])
 have HRU:=rep_next hr hb1
 have HS:Hid (∀ W,Below W1.heap.size W1 W→Calls Tryd.prog 56 #[.agg #[.int .i64 k,.int .i64 n,.int .i64 m,.slice A nk c]] W fun e w'=>e = .returned (.bool s)∧Below W.heap.size W w'):=Lib.hid fun W _=>by
  have h:=isSingle_is u A c W
  rw [hs,← hnk,← hk,← hn,← hm] at h
  exact h
 have HA:Hid (∀ W,Below W1.heap.size W1 W→Calls Tryd.prog 57 #[.agg #[.int .i64 k,.int .i64 n,.int .i64 m,.slice A nk c]] W fun e w'=>e = .returned (.bool a)∧Below W.heap.size W w'):=Lib.hid fun W _=>by
  have h:=isArray_is u A c W
  rw [ha,← hnk,← hk,← hn,← hm] at h
  exact h
 have HQ:Hid (∀ W,Below W1.heap.size W1 W→Calls Tryd.prog 58 #[.agg #[.int .i64 k,.int .i64 n,.int .i64 m,.slice A nk c]] W fun e w'=>e = .returned (.bool q)∧Below W.heap.size W w'):=Lib.hid fun W hb=>by
  have h:=isRecord_is d u A c W (rep_next HRU hb)
  rw [hq,← hnk,← hk,← hn,← hm] at h
  exact h
 have HW1:=Lib.hid hW1
 have HZ:=Lib.hid hz
 have HB1:=Lib.hid hb1
 rw [← hk,← hn,← hm,← hnk,← hrr]
 clear hk hn hm hnk hrr hW1 hz hb1 k1 hr hs ha hq HRU
 cases s <;> cases a <;> cases q
 all_goals
  go_enter Tryd.func23,Tryd.ntmps23
  go_upto_region 1 with fail
  rw [← HW1.out]
  try rw [← HZ.out]
  go_wp2_with (first
   | (go_at_call 56; refine (HS.out _ (Below.refl _ _)).mono ?_; rintro e w2 ⟨rfl,hb2⟩; have HB:=Lib.hid hb2; clear hb2 y0 y1 y2 y3; obtain ⟨y0,y1,y2,y3⟩:=HK.out _ HB.out)
   | (go_at_call 57; refine (HA.out _ HB.out).mono ?_; rintro e w3 ⟨rfl,hb3⟩; replace HB:=Lib.hid (bt HB.out hb3); clear hb3 y0 y1 y2 y3; obtain ⟨y0,y1,y2,y3⟩:=HK.out _ HB.out)
   | (go_at_call 58; refine (HQ.out _ HB.out).mono ?_; rintro e w4 ⟨rfl,hb4⟩; replace HB:=Lib.hid (bt HB.out hb4); clear hb4 y0 y1 y2 y3; obtain ⟨y0,y1,y2,y3⟩:=HK.out _ HB.out))
  go_ret
  exact ⟨ret_i (by rw [HR.out]; rfl),bt HB1.out HB.out⟩
end Go.Proofs.YtkkenbalpnmfmaaDoor
