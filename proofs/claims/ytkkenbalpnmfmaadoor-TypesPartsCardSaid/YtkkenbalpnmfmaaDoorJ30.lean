/- Texts joined. -/
import Derived.Test.YtkkenbalpnmfmaaDoorJ29
import Derived.Test.YtkkenbalpnmfmaaDoorJ08
set_option linter.unusedVariables false
namespace Go.Proofs.YtkkenbalpnmfmaaDoor.TR
noncomputable def fitsB (t:T):Bool:=@decide (Fits t) (Classical.propDecidable _)
theorem fitsB_true {t:T} (h:Fits t):fitsB t = true:=by unfold fitsB; simpa using h
theorem fitsB_false {t:T} (h:¬ Fits t):fitsB t = false:=by unfold fitsB; simpa using h
theorem fitsB_iff {t:T}:fitsB t = true↔Fits t:=by unfold fitsB; simp
end Go.Proofs.YtkkenbalpnmfmaaDoor.TR
namespace Go.Proofs.YtkkenbalpnmfmaaDoor
open Go.RowKit WM TR

theorem row_vals (k:Int):rowV (shRow k) = [.int .u8 (sf k 0),.int .i8 (sf k 1),.int .i8 (sf k 2),.int .i8 (sf k 3),.int .i8 (sf k 4),.int .i8 (sf k 5),.int .u8 (sf k 6),.int .i8 (sf k 7)]:=by
 have h:(shRow k).map (·.1) = [IntKind.u8,.i8,.i8,.i8,.i8,.i8,.u8,.i8]∧(shRow k).length = 8:=by
  by_cases hk:k < 0∨30≤k
  ·rw [shRow_out hk]; exact ⟨rfl,rfl⟩
  ·obtain ⟨j,rfl⟩:=Int.eq_ofNat_of_zero_le (show 0≤k by omega)
   have h:∀ j,j < 30→(shRow (j:Nat)).map (·.1) = [IntKind.u8,.i8,.i8,.i8,.i8,.i8,.u8,.i8]∧(shRow (j:Nat)).length = 8:=by decide +kernel
   exact h j (by omega)
 obtain ⟨x0,x1,x2,x3,x4,x5,x6,x7,e⟩:=list8 _ h.2
 have h1:=h.1
 rw [e] at h1
 simp only [List.map_cons,List.map_nil,List.cons.injEq,and_true] at h1
 obtain ⟨e0,e1,e2,e3,e4,e5,e6,e7⟩:=h1
 unfold sf
 rw [e]
 simp only [rowV,List.map_cons,List.map_nil,List.getElem?_cons_zero,List.getElem?_cons_succ,e0,e1,e2,e3,e4,e5,e6,e7]
theorem row_bounds (k:Int):(-8≤sf k 1∧sf k 1≤1)∧(0≤sf k 2∧sf k 2≤13)∧(0≤sf k 3∧sf k 3≤2)∧(0≤sf k 4∧sf k 4≤2)∧(0≤sf k 5∧sf k 5≤8)∧(0≤sf k 7∧sf k 7≤2):=by
 by_cases hk:k < 0∨30≤k
 ·have e : ∀ i, sf k i ≤ 0 ∧ 0 ≤ sf k i := fun i => by
   unfold sf
   rw [shRow_out hk]
   match i with
   | 0 | 1 | 2 | 3 | 4 | 5 | 6 | 7=>exact ⟨Int.le_refl _,Int.le_refl _⟩
   | i + 8=>exact ⟨Int.le_refl _,Int.le_refl _⟩
  have e1:=e 1; have e2:=e 2; have e3:=e 3; have e4:=e 4; have e5:=e 5; have e7:=e 7
  omega
 ·obtain ⟨j,rfl⟩:=Int.eq_ofNat_of_zero_le (show 0≤k by omega)
  have h:∀ j,j < 30→(-8≤sf (j:Nat) 1∧sf (j:Nat) 1≤1)∧(0≤sf (j:Nat) 2∧sf (j:Nat) 2≤13)∧(0≤sf (j:Nat) 3∧sf (j:Nat) 3≤2)∧(0≤sf (j:Nat) 4∧sf (j:Nat) 4≤2)∧(0≤sf (j:Nat) 5∧sf (j:Nat) 5≤8)∧(0≤sf (j:Nat) 7∧sf (j:Nat) 7≤2):=by decide +kernel
  exact h j (by omega)

set_option maxRecDepth 100000 in
set_option maxHeartbeats 8000000 in
theorem fits_is (d : Nat) (t : T) (S : Nat → Prop) (A : Option Addr) (c : Nat) (w : World) (ht : Rep w S d t (nd t A c)) (hin : In S w.heap.size) (hst : size t ≤ 1000000) (hT : ST w) (hg : 0 < w.heap.size) :
  Calls Tryd.prog 50 #[.agg #[.int .i64 t.k,.int .i64 t.n,.int .i64 t.m,.slice A t.kids.length c]] w fun e w'=>e = .returned (.bool (fitsB t))∧Below w.heap.size w w':=by
 cases d with
 | zero=>exact ht.elim
 | succ d =>
 obtain ⟨r,hr⟩:∃ r,fitsB t = r:=⟨_,rfl⟩
 rw [hr]
 have hkl:t.kids.length≤1000000:=by have:=kids_lt t; omega
 obtain ⟨l,hl⟩:∃ l,l = t.kids.length:=⟨_,rfl⟩
 obtain ⟨hb1,hb2,hb3,hb4,hb5,hb7⟩:=row_bounds t.k
 have hrg:=ht.range
 obtain ⟨s0,h0⟩:∃ s,sf t.k 0 = s:=⟨_,rfl⟩
 obtain ⟨s1,h1⟩:∃ s,sf t.k 1 = s:=⟨_,rfl⟩
 obtain ⟨s2,h2⟩:∃ s,sf t.k 2 = s:=⟨_,rfl⟩
 obtain ⟨s3,h3⟩:∃ s,sf t.k 3 = s:=⟨_,rfl⟩
 obtain ⟨s4,h4⟩:∃ s,sf t.k 4 = s:=⟨_,rfl⟩
 obtain ⟨s5,h5⟩:∃ s,sf t.k 5 = s:=⟨_,rfl⟩
 obtain ⟨s6,h6⟩:∃ s,sf t.k 6 = s:=⟨_,rfl⟩
 obtain ⟨s7,h7⟩:∃ s,sf t.k 7 = s:=⟨_,rfl⟩
 obtain ⟨tk,htk⟩:∃ x,x = t.k:=⟨_,rfl⟩
 obtain ⟨tn,htn⟩:∃ x,x = t.n:=⟨_,rfl⟩
 obtain ⟨tm,htm⟩:∃ x,x = t.m:=⟨_,rfl⟩
 have HRV:Hid (rowV (shRow tk) = [.int .u8 s0,.int .i8 s1,.int .i8 s2,.int .i8 s3,.int .i8 s4,.int .i8 s5,.int .u8 s6,.int .i8 s7]):=Lib.hid (by rw [htk,row_vals,h0,h1,h2,h3,h4,h5,h6,h7])
 rw [h1] at hb1; rw [h2] at hb2; rw [h3] at hb3; rw [h4] at hb4; rw [h5] at hb5; rw [h7] at hb7
 obtain ⟨PR,hPR⟩:∃ x,x = params t:=⟨_,rfl⟩
 have HFN:Hid (FitsN t↔(s1≤tn∧tn≤s2∧0≤tm∧tm≤s3)∧(max s4 PR≤(l:Int) - s7∧(l:Int) - s7≤s5)):=Lib.hid (by
  unfold FitsN listed
  rw [← hPR,← hl,← htn,← htm,h1,h2,h3,h4,h5,h7])
 have HWS:Hid (∀ i:Nat,wantS t i = if (i:Int) < PR then 1 else if (l:Int) - s7≤i then 8 else s6):=Lib.hid (fun i=>by
  unfold wantS listed
  rw [← hPR,← hl,h6,h7])
 have HPR:Hid (PR = if tk = 26 then tn else 0):=Lib.hid (by rw [hPR,htk,htn]; rfl)
 have hrg2:inRange tn∧inRange tm:=by rw [htn,htm]; exact hrg.2
 rw [← hl,← htk,← htn,← htm]
 rw [← hl] at hkl
 have HT:=Lib.hid ht
 have HI:=Lib.hid hin
 have HL:=Lib.hid hl
 have HST:=Lib.hid hst
 have HR:=Lib.hid hr
 have HG:=Lib.hid hg
 have HTB:=Lib.hid hT
 have hn1:=hrg2.1.1; have hn2:=hrg2.1.2; have hm1:=hrg2.2.1; have hm2:=hrg2.2.2
 have w1:IntKind.i64.wrap s1 = s1:=by rw [IntKind.wrap_i64]; omega
 have w2:IntKind.i64.wrap s2 = s2:=by rw [IntKind.wrap_i64]; omega
 have w3:IntKind.i64.wrap s3 = s3:=by rw [IntKind.wrap_i64]; omega
 have w4:IntKind.i64.wrap s4 = s4:=by rw [IntKind.wrap_i64]; omega
 have w5:IntKind.i64.wrap s5 = s5:=by rw [IntKind.wrap_i64]; omega
 have w7:IntKind.i64.wrap s7 = s7:=by rw [IntKind.wrap_i64]; omega
 have wL:IntKind.i64.wrap ((l:Int) - s7) = (l:Int) - s7:=by rw [IntKind.wrap_i64]; omega
 clear ht hin hl hst hr hg hT hrg hrg2 h0 h1 h2 h3 h4 h5 h6 h7 htk htn htm hPR
 go_enter Tryd.func50,Tryd.ntmps50
 go_upto_region 1 with fail
 obtain ⟨W1,hW1⟩:∃ W1,W1 = w.alloc (.cells #[.int .i64 tk,.int .i64 tn,.int .i64 tm,.slice A l c] 25):=⟨_,rfl⟩
 obtain ⟨b0,hb0⟩:∃ b,b = w.heap.size:=⟨_,rfl⟩
 have HB1:Hid (Below w.heap.size w W1):=Lib.hid (by rw [hW1]; exact below_new _ _)
 have hx1:Blk W1 b0 25 #[.int .i64 tk,.int .i64 tn,.int .i64 tm,.slice A l c]:=by rw [hW1,hb0]; exact Blk.new _ _ _
 have HX1:=Lib.hid hx1
 have k0:=hx1.cell 0; have k1:=hx1.cell 1; have k2:=hx1.cell 2; have k3:=hx1.cell 3
 simp only [List.getElem?_toArray,List.getElem?_cons_zero,List.getElem?_cons_succ] at k0 k1 k2 k3
 rw [← hW1,← hb0]
 have HB0:=Lib.hid hb0
 have HSO:Hid (Calls Tryd.prog 48 #[.int .i64 tk] W1 fun e w'=>e = .returned (.agg #[.int .u8 s0,.int .i8 s1,.int .i8 s2,.int .i8 s3,.int .i8 s4,.int .i8 s5,.int .u8 s6,.int .i8 s7])∧Below W1.heap.size W1 w'):=Lib.hid (by
  have h:=shapeOf_is tk W1 (HTB.out.below HB1.out HG.out) (Nat.lt_of_lt_of_le HG.out HB1.out.size)
  rw [HRV.out] at h
  exact h)
 clear hW1 hx1 hb0
 go_upto_region 2 with (first
  | (go_at_call 48; refine HSO.out.mono ?_; rintro e v2 ⟨rfl,hbv⟩; have HBV:=Lib.hid hbv; clear hbv))
 obtain ⟨W3,hW3⟩:∃ W3,W3 = v2.alloc (.cells #[.int .u8 s0,.int .i8 s1,.int .i8 s2,.int .i8 s3,.int .i8 s4,.int .i8 s5,.int .u8 s6,.int .i8 s7] 68):=⟨_,rfl⟩
 obtain ⟨b3,hb3'⟩:∃ b,b = v2.heap.size:=⟨_,rfl⟩
 have HB13:Hid (Below W1.heap.size W1 W3):=Lib.hid (by rw [hW3]; exact ba HBV.out _)
 have hx3:Blk W3 b0 25 #[.int .i64 tk,.int .i64 tn,.int .i64 tm,.slice A l c]:=HX1.out.below HB13.out HX1.out.lt
 have hy3:Blk W3 b3 68 #[.int .u8 s0,.int .i8 s1,.int .i8 s2,.int .i8 s3,.int .i8 s4,.int .i8 s5,.int .u8 s6,.int .i8 s7]:=by rw [hW3,hb3']; exact Blk.new _ _ _
 have HX3:=Lib.hid hx3
 have HY3:=Lib.hid hy3
 clear k0 k1 k2 k3
 have k0:=hx3.cell 0; have k1:=hx3.cell 1; have k2:=hx3.cell 2; have k3:=hx3.cell 3
 have y1:=hy3.cell 1; have y2:=hy3.cell 2; have y3:=hy3.cell 3; have y4:=hy3.cell 4; have y5:=hy3.cell 5; have y6:=hy3.cell 6; have y7:=hy3.cell 7
 simp only [List.getElem?_toArray,List.getElem?_cons_zero,List.getElem?_cons_succ] at k0 k1 k2 k3 y1 y2 y3 y4 y5 y6 y7
 rw [← hW3,← hb3']
 have HW3:Hid (Below w.heap.size w W3):=Lib.hid (bt HB1.out HB13.out)
 clear hW3 hb3' hx3 hy3 HSO

 by_cases c1:tn < s1
 ·have d1:decide (tn < s1) = true:=by simpa using c1
  have HF:Hid (false = r):=Lib.hid (by rw [← HR.out]; exact (fitsB_false (fun h=>by have h1:=HFN.out.1 h.1; omega)).symm)
  go_wp2_with fail
  go_ret
  exact ⟨ret_b HF.out,HW3.out⟩

 have d1:decide (tn < s1) = false:=by simpa using c1
 by_cases c2:s2 < tn
 ·have d2:decide (s2 < tn) = true:=by simpa using c2
  have HF:Hid (false = r):=Lib.hid (by rw [← HR.out]; exact (fitsB_false (fun h=>by have h1:=HFN.out.1 h.1; omega)).symm)
  go_wp2_with fail
  go_ret
  exact ⟨ret_b HF.out,HW3.out⟩

 have d2:decide (s2 < tn) = false:=by simpa using c2
 by_cases c3:tm < 0
 ·have d3:decide (tm < 0) = true:=by simpa using c3
  have HF:Hid (false = r):=Lib.hid (by rw [← HR.out]; exact (fitsB_false (fun h=>by have h1:=HFN.out.1 h.1; omega)).symm)
  go_wp2_with fail
  go_ret
  exact ⟨ret_b HF.out,HW3.out⟩

 have d3:decide (tm < 0) = false:=by simpa using c3
 by_cases c4:s3 < tm
 ·have d4:decide (s3 < tm) = true:=by simpa using c4
  have HF:Hid (false = r):=Lib.hid (by rw [← HR.out]; exact (fitsB_false (fun h=>by have h1:=HFN.out.1 h.1; omega)).symm)
  go_wp2_with fail
  go_ret
  exact ⟨ret_b HF.out,HW3.out⟩

 have d4:decide (s3 < tm) = false:=by simpa using c4
 have hpr:(tk = 26∧PR = tn)∨(tk≠26∧PR = 0):=by
  have h:=HPR.out
  by_cases h26:tk = 26
  ·rw [if_pos h26] at h; exact .inl ⟨h26,h⟩
  ·rw [if_neg h26] at h; exact .inr ⟨h26,h⟩
 have hprb:-9223372036854775808≤PR∧PR≤9223372036854775807:=by rcases hpr with ⟨_,h⟩ | ⟨_,h⟩ <;> omega
 go_upto_region 4 with fail
 go_cut [4] from 39 to 43 (fun s4v wv=>W3 = wv∧s4v = .int .i64 0)
 case first =>
  go_wp2_with fail
  go_meet
  exact ⟨rfl,rfl⟩
 case rest =>
 obtain ⟨hwc,rfl⟩:=hcut
 subst hwc
 rename_i hK
 refine hK _ _ ?_
 go_step
 go_cut [4] from 39 to 43 (fun s4v wv=>W3 = wv∧s4v = .int .i64 PR)
 case first =>
  rcases hpr with ⟨h26,rfl⟩ | ⟨h26,rfl⟩
  ·have e26:(tk == 26) = true:=by simpa using h26
   clear h26
   go_wp2_with fail
   go_meet
   exact ⟨rfl,rfl⟩
  ·have e26:(tk == 26) = false:=by simpa using h26
   clear h26
   go_wp2_with fail
   go_meet
   exact ⟨rfl,rfl⟩
 case rest =>
 obtain ⟨hwc,rfl⟩:=hcut
 subst hwc
 clear hpr hK
 go_upto_region 8 with fail
 obtain ⟨BD,hBD⟩:∃ x:Bool,x = (decide ((l:Int) - s7 < max s4 PR) || decide (s5 < (l:Int) - s7)):=⟨_,rfl⟩
 have HBD:=Lib.hid hBD
 go_cut [64] from 51 to 64 (fun s64 wv=>W3 = wv∧s64 = .bool BD)
 case first =>
  by_cases hmx:s4 < PR
  ·have m1:decide (s4 < PR) = true:=by simpa using hmx
   have m2:max s4 PR = PR:=by omega
   rw [m2] at hBD
   by_cases c5:(l:Int) - s7 < PR
   ·have d5:decide ((l:Int) - s7 < PR) = true:=by simpa using c5
    rw [d5] at hBD
    have hb:BD = true:=hBD
    subst hb
    clear hBD
    go_wp2_with fail
    go_meet
    exact ⟨rfl,rfl⟩
   ·have d5:decide ((l:Int) - s7 < PR) = false:=by simpa using c5
    rw [d5,Bool.false_or] at hBD
    subst hBD
    go_wp2_with fail
    go_meet
    exact ⟨rfl,rfl⟩
  ·have m1:decide (s4 < PR) = false:=by simpa using hmx
   have m2:max s4 PR = s4:=by omega
   rw [m2] at hBD
   by_cases c5:(l:Int) - s7 < s4
   ·have d5:decide ((l:Int) - s7 < s4) = true:=by simpa using c5
    rw [d5] at hBD
    have hb:BD = true:=hBD
    subst hb
    clear hBD
    go_wp2_with fail
    go_meet
    exact ⟨rfl,rfl⟩
   ·have d5:decide ((l:Int) - s7 < s4) = false:=by simpa using c5
    rw [d5,Bool.false_or] at hBD
    subst hBD
    go_wp2_with fail
    go_meet
    exact ⟨rfl,rfl⟩
 case rest =>
 obtain ⟨hwc,rfl⟩:=hcut
 subst hwc
 clear hBD
 cases BD with
 | true =>
  have HF:Hid (false = r):=Lib.hid (by
   rw [← HR.out]
   exact (fitsB_false (fun h=>by
    have h1:=HFN.out.1 h.1
    have h2:=HBD.out
    rw [eq_comm,Bool.or_eq_true,decide_eq_true_eq,decide_eq_true_eq] at h2
    omega)).symm)
  go_wp2_with fail
  go_ret
  exact ⟨ret_b HF.out,HW3.out⟩
 | false =>
 have HOK:Hid (FitsN t):=Lib.hid (HFN.out.2 (by have h2:=HBD.out; rw [eq_comm,Bool.or_eq_false_iff,decide_eq_false_iff_not,decide_eq_false_iff_not] at h2; omega))
 go_wp2_with fail
 go_loopw [68] (fun i wr=>∃ j:Nat,j≤l∧i = .int .i64 j∧Hid ((∀ (i:Nat) (u:T),i < j→t.kids[i]? = some u→meets (sf u.k 0) (wantS t i) = true)∧Below W3.heap.size W3 wr)) (fun i _=>l - (intOf i).toNat)
 case atStart=>exact ⟨0,Nat.zero_le _,rfl,fun i u h=>absurd h (Nat.not_lt_zero i),Below.refl _ _⟩
 case round =>
  obtain ⟨j,hj,rfl,HH⟩:=hrel
  have hxr:=HX3.out.below HH.out.2 HX3.out.lt
  have hyr:=HY3.out.below HH.out.2 HY3.out.lt
  have HBR:Hid (Below w.heap.size w wr):=Lib.hid (bt HW3.out HH.out.2)
  have HYR:=Lib.hid hyr
  clear hxr hyr
  by_cases hlt:j < l
  ·obtain ⟨u,hu⟩:∃ u,t.kids[j]? = some u:=⟨_,List.getElem?_eq_getElem (by rw [← HL.out]; exact hlt)⟩
   obtain ⟨b2,o2,A2,c2',hA2,hs2,hc2,hru⟩:=HT.out.kid hu
   subst hA2
   have HU:=Lib.hid hu
   have HC:Hid (∀ i z,([.int .i64 u.k,.int .i64 u.n,.int .i64 u.m,.slice A2 u.kids.length c2']:List Value)[i]? = some z→wr.cell? ⟨b2,o2 + j * 4 + i,none⟩ = some z):=Lib.hid (fun i z hz=>(HBR.out.cell (p:=⟨b2,o2 + j * 4 + i,none⟩) (HI.out _ hs2)).trans (hc2 i z hz))
   have hjl:(0:Int)≤j∧(j:Int) < l:=⟨by omega,by omega⟩
   obtain ⟨uk,huk⟩:∃ x,x = u.k:=⟨_,rfl⟩
   obtain ⟨q0,hq0⟩:∃ x,x = sf uk 0:=⟨_,rfl⟩
   have HQ:Hid (q0 = sf u.k 0):=Lib.hid (by rw [hq0,huk])
   have HRVu:Hid (∃ z1 z2 z3 z4 z5 z6 z7,rowV (shRow uk) = [.int .u8 q0,z1,z2,z3,z4,z5,z6,z7]):=Lib.hid (by rw [row_vals,← hq0]; exact ⟨_,_,_,_,_,_,_,rfl⟩)
   rw [← huk] at HC
   obtain ⟨z1,z2,z3,z4,z5,z6,z7,hz⟩:=HRVu.out
   have HZ:=Lib.hid hz
   obtain ⟨W5,hW5⟩:∃ W5,W5 = wr.alloc (.cells #[.int .i64 uk,.int .i64 u.n,.int .i64 u.m,.slice A2 u.kids.length c2'] 25):=⟨_,rfl⟩
   have HB5:Hid (Below wr.heap.size wr W5):=Lib.hid (by rw [hW5]; exact below_new _ _)
   have hx5:Blk W5 wr.heap.size 25 #[.int .i64 uk,.int .i64 u.n,.int .i64 u.m,.slice A2 u.kids.length c2']:=by rw [hW5]; exact Blk.new _ _ _
   have HX5:=Lib.hid hx5
   have y56:=HYR.out.cell 6
   simp only [List.getElem?_toArray,List.getElem?_cons_zero,List.getElem?_cons_succ] at y56
   have hlt3:=HYR.out.lt
   have HW5:=Lib.hid hW5
   have HBW5:Hid (Below w.heap.size w W5):=Lib.hid (bt HBR.out HB5.out)
   have HSO:Hid (Calls Tryd.prog 48 #[.int .i64 uk] W5 fun e w'=>e = .returned (.agg #[.int .u8 q0,z1,z2,z3,z4,z5,z6,z7])∧Below W5.heap.size W5 w'):=Lib.hid (by
    have h:=shapeOf_is uk W5 (HTB.out.below HBW5.out HG.out) (Nat.lt_of_lt_of_le HG.out HBW5.out.size)
    rw [HZ.out] at h
    exact h)
   have hfl:∀ W:World,(Instr.field 68 (.agg #[.int .u8 q0,z1,z2,z3,z4,z5,z6,z7]) 0).run Tryd.prog W = .ok (.int .u8 q0) W:=fun W=>by kernel_rfl
   clear hu hs2 hc2 hru hz HRVu hW5 hx5 hq0 huk
   have hcase:((j:Int) < PR∧wantS t j = 1)∨(¬ (j:Int) < PR∧(l:Int) - s7≤j∧wantS t j = 8)∨(¬ (j:Int) < PR∧¬ (l:Int) - s7≤j∧wantS t j = s6):=by
    have h:=HWS.out j
    by_cases e1:(j:Int) < PR
    ·rw [if_pos e1] at h; exact .inl ⟨e1,h⟩
    ·rw [if_neg e1] at h
     by_cases e2:(l:Int) - s7≤j
     ·rw [if_pos e2] at h; exact .inr (.inl ⟨e1,e2,h⟩)
     ·rw [if_neg e2] at h; exact .inr (.inr ⟨e1,e2,h⟩)

   rcases hcase with ⟨e1,hwt⟩ | ⟨e1,e2,hwt⟩ | ⟨e1,e2,hwt⟩
   ·have g1:decide ((j:Int) < PR) = true:=by simpa using e1
    obtain ⟨BT,hBT⟩:∃ x,bits .and .u8 q0 1 = x:=⟨_,rfl⟩
    have HM:Hid (meets (sf u.k 0) (wantS t j) = (BT != 0)):=Lib.hid (by rw [hwt,← HQ.out]; unfold meets; rw [hBT])
    clear hwt
    by_cases hz0:BT = 0
    ·have hz1:(BT == 0) = true:=by simpa using hz0
     have HF:Hid (false = r):=Lib.hid (by
      rw [← HR.out]
      exact (fitsB_false (fun h=>by
       have h1:=h.2 j u HU.out
       rw [HM.out,hz0] at h1
       cases h1)).symm)
     clear hz0
     go_wp2_with (first
      | (refine wpList_load_mid rfl 25 (.tmp 71) rfl b2 (o2 + j * 4) rfl [.int .i64 uk,.int .i64 u.n,.int .i64 u.m,.slice A2 u.kids.length c2'] _ HC.out Tryd.underlying25 rfl (by rw [size_node]; rfl) ?_)
      | (go_at_call 48; rw [← HW5.out]; refine HSO.out.mono ?_; rintro e v6 ⟨rfl,hb6⟩; have HB6:=Lib.hid (bt HBW5.out hb6); clear hb6))
     go_ret
     exact ⟨ret_b HF.out,HB6.out⟩
    ·have hz1:(BT == 0) = false:=by simpa using hz0
     have HNX:Hid (∀ (i:Nat) (v:T),i < j + 1→t.kids[i]? = some v→meets (sf v.k 0) (wantS t i) = true):=Lib.hid (fun i v hi hv=>by
      rcases Nat.lt_succ_iff_lt_or_eq.1 hi with h | rfl
      ·exact HH.out.1 i v h hv
      ·rw [HU.out] at hv
       cases hv
       rw [HM.out]; simpa using hz0)
     clear hz0
     go_wp2_with (first
      | (refine wpList_load_mid rfl 25 (.tmp 71) rfl b2 (o2 + j * 4) rfl [.int .i64 uk,.int .i64 u.n,.int .i64 u.m,.slice A2 u.kids.length c2'] _ HC.out Tryd.underlying25 rfl (by rw [size_node]; rfl) ?_)
      | (go_at_call 48; rw [← HW5.out]; refine HSO.out.mono ?_; rintro e v6 ⟨rfl,hb6⟩; have HB6:=Lib.hid (bt (bt HH.out.2 HB5.out) hb6); clear hb6))
     go_roundw
     case rel=>exact ⟨j + 1,by omega,by go_num,HNX.out,HB6.out⟩
     case measure=>simp [intOf]; omega
   ·have g1:decide ((j:Int) < PR) = false:=by simpa using e1
    have g2:decide ((l:Int) - s7≤(j:Int)) = true:=by simpa using e2
    obtain ⟨BT,hBT⟩:∃ x,bits .and .u8 q0 8 = x:=⟨_,rfl⟩
    have HM:Hid (meets (sf u.k 0) (wantS t j) = (BT != 0)):=Lib.hid (by rw [hwt,← HQ.out]; unfold meets; rw [hBT])
    clear hwt
    by_cases hz0:BT = 0
    ·have hz1:(BT == 0) = true:=by simpa using hz0
     have HF:Hid (false = r):=Lib.hid (by
      rw [← HR.out]
      exact (fitsB_false (fun h=>by
       have h1:=h.2 j u HU.out
       rw [HM.out,hz0] at h1
       cases h1)).symm)
     clear hz0
     go_wp2_with (first
      | (refine wpList_load_mid rfl 25 (.tmp 71) rfl b2 (o2 + j * 4) rfl [.int .i64 uk,.int .i64 u.n,.int .i64 u.m,.slice A2 u.kids.length c2'] _ HC.out Tryd.underlying25 rfl (by rw [size_node]; rfl) ?_)
      | (go_at_call 48; rw [← HW5.out]; refine HSO.out.mono ?_; rintro e v6 ⟨rfl,hb6⟩; have HB6:=Lib.hid (bt HBW5.out hb6); clear hb6))
     go_ret
     exact ⟨ret_b HF.out,HB6.out⟩
    ·have hz1:(BT == 0) = false:=by simpa using hz0
     have HNX:Hid (∀ (i:Nat) (v:T),i < j + 1→t.kids[i]? = some v→meets (sf v.k 0) (wantS t i) = true):=Lib.hid (fun i v hi hv=>by
      rcases Nat.lt_succ_iff_lt_or_eq.1 hi with h | rfl
      ·exact HH.out.1 i v h hv
      ·rw [HU.out] at hv
       cases hv
       rw [HM.out]; simpa using hz0)
     clear hz0
     go_wp2_with (first
      | (refine wpList_load_mid rfl 25 (.tmp 71) rfl b2 (o2 + j * 4) rfl [.int .i64 uk,.int .i64 u.n,.int .i64 u.m,.slice A2 u.kids.length c2'] _ HC.out Tryd.underlying25 rfl (by rw [size_node]; rfl) ?_)
      | (go_at_call 48; rw [← HW5.out]; refine HSO.out.mono ?_; rintro e v6 ⟨rfl,hb6⟩; have HB6:=Lib.hid (bt (bt HH.out.2 HB5.out) hb6); clear hb6))
     go_roundw
     case rel=>exact ⟨j + 1,by omega,by go_num,HNX.out,HB6.out⟩
     case measure=>simp [intOf]; omega
   ·have g1:decide ((j:Int) < PR) = false:=by simpa using e1
    have g2:decide ((l:Int) - s7≤(j:Int)) = false:=by simpa using e2
    obtain ⟨BT,hBT⟩:∃ x,bits .and .u8 q0 s6 = x:=⟨_,rfl⟩
    have HM:Hid (meets (sf u.k 0) (wantS t j) = (BT != 0)):=Lib.hid (by rw [hwt,← HQ.out]; unfold meets; rw [hBT])
    clear hwt
    by_cases hz0:BT = 0
    ·have hz1:(BT == 0) = true:=by simpa using hz0
     have HF:Hid (false = r):=Lib.hid (by
      rw [← HR.out]
      exact (fitsB_false (fun h=>by
       have h1:=h.2 j u HU.out
       rw [HM.out,hz0] at h1
       cases h1)).symm)
     clear hz0
     go_wp2_with (first
      | (refine wpList_load_mid rfl 25 (.tmp 71) rfl b2 (o2 + j * 4) rfl [.int .i64 uk,.int .i64 u.n,.int .i64 u.m,.slice A2 u.kids.length c2'] _ HC.out Tryd.underlying25 rfl (by rw [size_node]; rfl) ?_)
      | (go_at_call 48; rw [← HW5.out]; refine HSO.out.mono ?_; rintro e v6 ⟨rfl,hb6⟩; have HB6:=Lib.hid (bt HBW5.out hb6); clear hb6))
     go_ret
     exact ⟨ret_b HF.out,HB6.out⟩
    ·have hz1:(BT == 0) = false:=by simpa using hz0
     have HNX:Hid (∀ (i:Nat) (v:T),i < j + 1→t.kids[i]? = some v→meets (sf v.k 0) (wantS t i) = true):=Lib.hid (fun i v hi hv=>by
      rcases Nat.lt_succ_iff_lt_or_eq.1 hi with h | rfl
      ·exact HH.out.1 i v h hv
      ·rw [HU.out] at hv
       cases hv
       rw [HM.out]; simpa using hz0)
     clear hz0
     go_wp2_with (first
      | (refine wpList_load_mid rfl 25 (.tmp 71) rfl b2 (o2 + j * 4) rfl [.int .i64 uk,.int .i64 u.n,.int .i64 u.m,.slice A2 u.kids.length c2'] _ HC.out Tryd.underlying25 rfl (by rw [size_node]; rfl) ?_)
      | (go_at_call 48; rw [← HW5.out]; refine HSO.out.mono ?_; rintro e v6 ⟨rfl,hb6⟩; have HB6:=Lib.hid (bt (bt HH.out.2 HB5.out) hb6); clear hb6))
     go_roundw
     case rel=>exact ⟨j + 1,by omega,by go_num,HNX.out,HB6.out⟩
     case measure=>simp [intOf]; omega
  ·have HF : Hid (true = r) := Lib.hid (by
    rw [← HR.out]
    exact (fitsB_true ⟨HOK.out,fun i v hv=>HH.out.1 i v (by have:=(List.getElem?_eq_some_iff.1 hv).1; rw [← HL.out] at this; omega) hv⟩).symm)
   go_wp2_with fail
   go_ret
   exact ⟨ret_b HF.out,HBR.out⟩
end Go.Proofs.YtkkenbalpnmfmaaDoor
