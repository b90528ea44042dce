/- Texts joined. -/
import Derived.Test.YtkkenbalpnmfmaaDoorJ37
import Derived.Test.YtkkenbalpnmfmaaDoorJ20
import Derived.Test.YtkkenbalpnmfmaaDoorJ32
import Derived.Test.YtkkenbalpnmfmaaDoorJ11
import Derived.Test.YtkkenbalpnmfmaaDoorJ35
import Derived.Test.YtkkenbalpnmfmaaDoorJ33
set_option linter.unusedVariables false
namespace Go.Proofs.YtkkenbalpnmfmaaDoor
open Go.RowKit WM TR TY


end Go.Proofs.YtkkenbalpnmfmaaDoor

namespace Go.Proofs.YtkkenbalpnmfmaaDoor
open Go.RowKit WM TR TY


theorem fitB_bad {s:Sc}:∀ (l:List T) (ks:List Int) (i:Nat) (y:T) (kd:Int),l[i]? = some y→ks[i]? = some kd→fit1 s y kd = false→fitB s l ks = false
 | [],_,_,_,_,hy,_,_=>by simp at hy
 | _ :: _,[],_,_,_,_,hk,_=>by simp at hk
 | u :: l,k :: ks,0,y,kd,hy,hk,hf=>by
  simp at hy hk; subst hy; subst hk
  unfold fitB; rw [List.zipWith_cons_cons,List.all_cons,hf]; rfl
 | u :: l,k :: ks,i + 1,y,kd,hy,hk,hf=>by
  have h2:=fitB_bad l ks i y kd (by simpa using hy) (by simpa using hk) hf
  unfold fitB at h2 ⊢
  rw [List.zipWith_cons_cons,List.all_cons,h2,Bool.and_false]

theorem errOf_bad {s:Sc} {x y:T} {i:Nat} {kd:Int} (hy:x.kids[i]? = some y) (hk:(ndR s x).2[i]? = some kd) (hf:fit1 s y kd = false):errOf s x = 12:=by
 unfold errOf ndR at *
 cases hm:missing s x
 ·cases hu:misused s x
  ·simp only [hm,hu,Bool.false_eq_true,if_false,Bool.false_or] at hk ⊢
   rw [fitB_bad x.kids _ i y kd hy hk hf]; rfl
  ·simp [hm,hu] at hk
 ·simp [hm] at hk

end Go.Proofs.YtkkenbalpnmfmaaDoor

namespace Go.Proofs.YtkkenbalpnmfmaaDoor
open Go.RowKit WM TR TY









end Go.Proofs.YtkkenbalpnmfmaaDoor

namespace Go.Proofs.YtkkenbalpnmfmaaDoor
open Go.RowKit WM TR TY

theorem nds_new {w : World} {d : Nat} {ts : List T} {xs : List Value} (h : Reps w (Lt w.heap.size) d ts xs) (hl : ts.length ≤ 1000) :
  Nds (w.alloc (.cells xs.toArray 25)) (Lt (w.alloc (.cells xs.toArray 25)).heap.size) d ts (some ⟨w.heap.size,0,none⟩) ts.length:=by
 have ho:=own_lit (w:=w) (base:=w.heap.size) (e:=25) (size:=4) (xs:=xs) (n:=ts.length) (Nat.le_refl _) h.1 (len_le (by omega))
 have hb:=below_new w (.cells xs.toArray 25)
 refine ⟨⟨xs,(Rd.of_own ho).mono fun b hb=>hb.2,(h.keep fun b hb'=>hb.block b hb').mono fun b (hb':b < w.heap.size)=>Nat.lt_of_lt_of_le hb' hb.size⟩,Nat.le_refl _,hl⟩
def NrY (r B:Nat) (b:Nat):Prop:=b < B∧b≠r
theorem nds_newN {r : Nat} {w : World} {d : Nat} {ts : List T} {xs : List Value} (h : Reps w (NrY r w.heap.size) d ts xs) (hr : r < w.heap.size) (hl : ts.length ≤ 1000) :
  Nds (w.alloc (.cells xs.toArray 25)) (NrY r (w.alloc (.cells xs.toArray 25)).heap.size) d ts (some ⟨w.heap.size,0,none⟩) ts.length:=by
 have ho:=own_lit (w:=w) (base:=w.heap.size) (e:=25) (size:=4) (xs:=xs) (n:=ts.length) (Nat.le_refl _) h.1 (len_le (by omega))
 have hb:=below_new w (.cells xs.toArray 25)
 refine ⟨⟨xs,(Rd.of_own ho).mono fun b hb=>⟨hb.2,by omega⟩,(h.keep fun b hb'=>hb.block b hb'.1).mono fun b hb'=>⟨Nat.lt_of_lt_of_le hb'.1 hb.size,hb'.2⟩⟩,Nat.le_refl _,hl⟩
theorem rep_nextN {r:Nat} {w w':World} {d:Nat} {t:T} {cs:List Value} (h:Rep w (NrY r w.heap.size) d t cs) (hb:Below w.heap.size w w'):Rep w' (NrY r w'.heap.size) d t cs :=
 (h.keep fun b hb'=>hb.block b hb'.1).mono fun b hb'=>⟨Nat.lt_of_lt_of_le hb'.1 hb.size,hb'.2⟩
theorem Nds.rep {w:World} {S:Nat→Prop} {d:Nat} {ts:List T} {A:Option Addr} {c:Nat} (h:Nds w S d ts A c) {k n m:Int} (hk:inRange k) (hn:inRange n) (hm:inRange m):Rep w S (d + 1) ⟨k,n,m,ts⟩ (nd ⟨k,n,m,ts⟩ A c):=by
 obtain ⟨⟨xs,h1,h2⟩,h3,_⟩:=h
 exact Rep.mk hk hn hm h3 h1 h2
set_option maxHeartbeats 4000000 in
theorem node_is (k n:Int) (A:Option Addr) (l c:Nat) (w:World):Calls Tryd.prog 46 #[.int .i64 k,.int .i64 n,.slice A l c] w fun e w'=>e = .returned (.agg #[.int .i64 k,.int .i64 n,.int .i64 0,.slice A l c])∧Below w.heap.size w w':=by
 go_enter Tryd.func46,Tryd.ntmps46
 go_upto_region 1 with fail
 obtain ⟨W1,hW1⟩:∃ W,W = w.alloc (.cells #[.int .i64 0,.int .i64 0,.int .i64 0,.slice none 0 0] 25):=⟨_,rfl⟩
 obtain ⟨z,hz⟩:∃ z,z = w.heap.size:=⟨_,rfl⟩
 have hb1:Below w.heap.size w W1:=by rw [hW1]; exact below_new _ _
 have k1:Blk W1 z 25 #[.int .i64 0,.int .i64 0,.int .i64 0,.slice none 0 0]:=by rw [hW1,hz]; exact Blk.new _ _ _
 rw [← hW1,← hz]
 obtain ⟨y0,y1,y2,y3⟩:W1.cell? ⟨z,0,none⟩ = some (.int .i64 0)∧W1.cell? ⟨z,1,none⟩ = some (.int .i64 0)∧W1.cell? ⟨z,2,none⟩ = some (.int .i64 0)∧W1.cell? ⟨z,3,none⟩ = some (.slice none 0 0):=⟨k1.cell 0,k1.cell 1,k1.cell 2,k1.cell 3⟩
 obtain ⟨f0,f1,f2,f3⟩:W1.frozen? ⟨z,0,none⟩ = false∧W1.frozen? ⟨z,1,none⟩ = false∧W1.frozen? ⟨z,2,none⟩ = false∧W1.frozen? ⟨z,3,none⟩ = false:=⟨k1.frozen 0,k1.frozen 1,k1.frozen 2,k1.frozen 3⟩
 have HK:=Lib.hid k1
 have HB:=Lib.hid hb1
 have HZ:=Lib.hid hz
 clear hW1 hz k1 hb1
 go_wp2_with fail
 have hzz:=HZ.out
 obtain ⟨W5,hW5⟩:∃ W,W = (((W1.setCell ⟨z,0,none⟩ (.int .i64 k)).setCell ⟨z,1,none⟩ (.int .i64 n)).setCell ⟨z,2,none⟩ (.int .i64 0)).setCell ⟨z,3,none⟩ (.slice A l c):=⟨_,rfl⟩
 rw [← hW5]
 have k5:Blk W5 z 25 #[.int .i64 k,.int .i64 n,.int .i64 0,.slice A l c]:=by
  rw [hW5]
  have h:=(((HK.out.set_ 0 (.int .i64 k)).set_ 1 (.int .i64 n)).set_ 2 (.int .i64 0)).set_ 3 (.slice A l c)
  simpa using h
 have hb5:Below w.heap.size w W5:=by
  rw [hW5]
  exact (((HB.out.setCell (by show w.heap.size≤z; omega) _).setCell (by show w.heap.size≤z; omega) _).setCell (by show w.heap.size≤z; omega) _).setCell (by show w.heap.size≤z; omega) _
 have r0:W5.cell? ⟨z,0,none⟩ = some (.int .i64 k):=k5.cell 0
 have r1:W5.cell? ⟨z,1,none⟩ = some (.int .i64 n):=k5.cell 1
 have r2:W5.cell? ⟨z,2,none⟩ = some (.int .i64 0):=k5.cell 2
 have r3:W5.cell? ⟨z,3,none⟩ = some (.slice A l c):=k5.cell 3
 refine bodyPost_ret (v:=.agg #[.int .i64 k,.int .i64 n,.int .i64 0,.slice A l c]) (by simp [results,Tryd.results46,go_sem,r0,r1,r2,r3]) rfl ⟨rfl,hb5⟩
def exB (x:T):T:=⟨13,0,0,[x]⟩
def exF (x:T):T:=⟨26,1,0,[⟨0,0,0,[]⟩,⟨2,2,0,[]⟩,exB x]⟩
def exT (x:T):T:=⟨27,0,0,[exF x]⟩
theorem in_sm {k:Int} (h0:-100≤k) (h1:k≤100):inRange k:=⟨by omega,by omega⟩
set_option maxRecDepth 100000 in
set_option maxHeartbeats 8000000 in
theorem example_is (d:Nat) (x:T) (A:Option Addr) (c:Nat) (w:World) (hr:Rep w (Lt w.heap.size) (d + 1) x (nd x A c)):Calls Tryd.prog 47 #[.agg #[.int .i64 x.k,.int .i64 x.n,.int .i64 x.m,.slice A x.kids.length c]] w fun e w'=>∃ A' c',e = .returned (.agg #[.int .i64 (exT x).k,.int .i64 (exT x).n,.int .i64 (exT x).m,.slice A' (exT x).kids.length c'])∧Rep w' (Lt w'.heap.size) (d + 4) (exT x) (nd (exT x) A' c')∧Below w.heap.size w w':=by
 obtain ⟨nk,hnk⟩:∃ z,z = x.kids.length:=⟨_,rfl⟩
 obtain ⟨k,hk⟩:∃ z,z = x.k:=⟨_,rfl⟩
 obtain ⟨n,hn⟩:∃ z,z = x.n:=⟨_,rfl⟩
 obtain ⟨m,hm⟩:∃ z,z = x.m:=⟨_,rfl⟩
 obtain ⟨z,hz⟩:∃ z,z = w.heap.size:=⟨_,rfl⟩
 obtain ⟨W1,hW1⟩:∃ W,W = (w.alloc (.cells #[.int .i64 k,.int .i64 n,.int .i64 m,.slice A nk c] 25)).alloc (.cells #[.int .i64 0,.int .i64 0,.int .i64 0,.slice none 0 0] 25):=⟨_,rfl⟩
 have hb1:Below w.heap.size w W1:=by rw [hW1]; exact ba (below_new _ _) _
 have k0:Blk W1 z 25 #[.int .i64 k,.int .i64 n,.int .i64 m,.slice A nk c]:=by rw [hW1,hz]; exact (Blk.new _ _ _).alloc _
 have k1:Blk W1 (z + 1) 25 #[.int .i64 0,.int .i64 0,.int .i64 0,.slice none 0 0]:=by rw [hW1]; exact Blk.new_at _ _ (by rw [size_alloc,hz]) rfl
 obtain ⟨y0,y1,y2,y3⟩:W1.cell? ⟨z,0,none⟩ = some (.int .i64 k)∧W1.cell? ⟨z,1,none⟩ = some (.int .i64 n)∧W1.cell? ⟨z,2,none⟩ = some (.int .i64 m)∧W1.cell? ⟨z,3,none⟩ = some (.slice A nk c):=⟨k0.cell 0,k0.cell 1,k0.cell 2,k0.cell 3⟩
 obtain ⟨V2,hV2⟩:∃ W,W = W1.alloc (.cells #[.int .i64 k,.int .i64 n,.int .i64 m,.slice A nk c] 25):=⟨_,rfl⟩
 obtain ⟨ga,hga⟩:∃ z,z = W1.heap.size:=⟨_,rfl⟩
 have hbV:Below W1.heap.size W1 V2:=by rw [hV2]; exact below_new _ _
 have hrB:Rep V2 (NrY (z + 1) V2.heap.size) (d + 2) (exB x) (nd (exB x) (some ⟨ga,0,none⟩) 1):=by
  have h:=(nds_newN (r:=z + 1) (Reps.one ((hr.keep fun b hb=>hb1.block b hb).mono fun b (hb:b < w.heap.size)=>⟨Nat.lt_of_lt_of_le hb hb1.size,by omega⟩)) k1.lt (by simp)).rep (k:=13) (n:=0) (m:=0) (in_sm (by omega) (by omega)) (in_sm (by omega) (by omega)) (in_sm (by omega) (by omega))
  have e:(nd x A c).toArray = #[.int .i64 k,.int .i64 n,.int .i64 m,.slice A nk c]:=by rw [hk,hn,hm,hnk]; rfl
  rw [e,← hV2,← hga] at h
  exact h
 have HRB:=Lib.hid hrB
 have HW1:=Lib.hid hW1
 have HV2:=Lib.hid hV2
 have HGA:=Lib.hid hga
 have HBV:=Lib.hid hbV
 have HZ:=Lib.hid hz
 have HB1:=Lib.hid hb1
 have HK1:=Lib.hid k1
 rw [← hnk,← hk,← hn,← hm]
 clear hnk hk hn hm hz hW1 hb1 k0 k1 hV2 hga hbV hrB hr
 go_enter Tryd.func47,Tryd.ntmps47
 go_upto_region 1 with fail
 rw [← HW1.out]
 try rw [← HZ.out]
 go_upto_region 2 with (go_at_call 46; rw [← HV2.out,← HGA.out]; refine (node_is _ _ _ _ _ _).mono ?_; rintro e w3 ⟨rfl,hb3⟩; have HB3:=Lib.hid hb3; clear hb3)
 clear y0 y1 y2 y3
 obtain ⟨V4,hV4⟩:∃ W,W = w3.alloc (.cells #[.int .i64 13,.int .i64 0,.int .i64 0,.slice (some ⟨ga,0,none⟩) 1 1] 25):=⟨_,rfl⟩
 obtain ⟨g3,hg3⟩:∃ z,z = w3.heap.size:=⟨_,rfl⟩
 rw [← hV4,← hg3]
 have k3:Blk V4 g3 25 #[.int .i64 13,.int .i64 0,.int .i64 0,.slice (some ⟨ga,0,none⟩) 1 1]:=by rw [hV4,hg3]; exact Blk.new _ _ _
 obtain ⟨y0,y1,y2,y3⟩:V4.cell? ⟨g3,0,none⟩ = some (.int .i64 13)∧V4.cell? ⟨g3,1,none⟩ = some (.int .i64 0)∧V4.cell? ⟨g3,2,none⟩ = some (.int .i64 0)∧V4.cell? ⟨g3,3,none⟩ = some (.slice (some ⟨ga,0,none⟩) 1 1):=⟨k3.cell 0,k3.cell 1,k3.cell 2,k3.cell 3⟩
 have HB14:Hid (Below W1.heap.size W1 V4):=Lib.hid (bt HBV.out (bt HB3.out (by rw [hV4]; exact below_new _ _)))
 have hrB4:Rep V4 (NrY (z + 1) V4.heap.size) (d + 2) (exB x) (nd (exB x) (some ⟨ga,0,none⟩) 1):=rep_nextN HRB.out (bt HB3.out (by rw [hV4]; exact below_new _ _))
 obtain ⟨V5,hV5⟩:∃ W,W = V4.alloc (.cells #[.int .i64 0,.int .i64 0,.int .i64 0,.slice none 0 0,.int .i64 2,.int .i64 2,.int .i64 0,.slice none 0 0,.int .i64 13,.int .i64 0,.int .i64 0,.slice (some ⟨ga,0,none⟩) 1 1] 25):=⟨_,rfl⟩
 obtain ⟨gb,hgb⟩:∃ z,z = V4.heap.size:=⟨_,rfl⟩
 have hrF:Rep V5 (NrY (z + 1) V5.heap.size) (d + 3) (exF x) (nd (exF x) (some ⟨gb,0,none⟩) 3):=by
  have hl0:Rep V4 (NrY (z + 1) V4.heap.size) (d + 2) ⟨0,0,0,[]⟩ (nd ⟨0,0,0,[]⟩ none 0):=Rep.leaf (in_sm (by omega) (by omega)) (in_sm (by omega) (by omega)) (in_sm (by omega) (by omega)) (d + 1) 0
  have hl2:Rep V4 (NrY (z + 1) V4.heap.size) (d + 2) ⟨2,2,0,[]⟩ (nd ⟨2,2,0,[]⟩ none 0):=Rep.leaf (in_sm (by omega) (by omega)) (in_sm (by omega) (by omega)) (in_sm (by omega) (by omega)) (d + 1) 0
  have h:=(nds_newN (((Reps.one hl0).snoc hl2).snoc hrB4) (HK1.out.below HB14.out HK1.out.lt).lt (by simp)).rep (k:=26) (n:=1) (m:=0) (in_sm (by omega) (by omega)) (in_sm (by omega) (by omega)) (in_sm (by omega) (by omega))
  have e:(((nd ⟨0,0,0,[]⟩ none 0) ++ (nd ⟨2,2,0,[]⟩ none 0)) ++ (nd (exB x) (some ⟨ga,0,none⟩) 1)).toArray = #[.int .i64 0,.int .i64 0,.int .i64 0,.slice none 0 0,.int .i64 2,.int .i64 2,.int .i64 0,.slice none 0 0,.int .i64 13,.int .i64 0,.int .i64 0,.slice (some ⟨ga,0,none⟩) 1 1]:=rfl
  rw [e,← hV5,← hgb] at h
  exact h
 have HRF:=Lib.hid hrF
 have HV5:=Lib.hid hV5
 have HGB:=Lib.hid hgb
 have HB45:Hid (Below V4.heap.size V4 V5):=Lib.hid (by rw [hV5]; exact below_new _ _)
 clear hV4 hg3 k3 hrB4 hV5 hgb hrF
 go_upto_region 3 with (go_at_call 46; rw [← HV5.out,← HGB.out]; refine (node_is _ _ _ _ _ _).mono ?_; rintro e w6 ⟨rfl,hb6⟩; have HB6:=Lib.hid hb6; clear hb6)
 clear y0 y1 y2 y3
 obtain ⟨V7,hV7⟩:∃ W,W = w6.alloc (.cells #[.int .i64 26,.int .i64 1,.int .i64 0,.slice (some ⟨gb,0,none⟩) 3 3] 25):=⟨_,rfl⟩
 obtain ⟨g6,hg6⟩:∃ z,z = w6.heap.size:=⟨_,rfl⟩
 rw [← hV7,← hg6]
 have k6:Blk V7 g6 25 #[.int .i64 26,.int .i64 1,.int .i64 0,.slice (some ⟨gb,0,none⟩) 3 3]:=by rw [hV7,hg6]; exact Blk.new _ _ _
 obtain ⟨y0,y1,y2,y3⟩:V7.cell? ⟨g6,0,none⟩ = some (.int .i64 26)∧V7.cell? ⟨g6,1,none⟩ = some (.int .i64 1)∧V7.cell? ⟨g6,2,none⟩ = some (.int .i64 0)∧V7.cell? ⟨g6,3,none⟩ = some (.slice (some ⟨gb,0,none⟩) 3 3):=⟨k6.cell 0,k6.cell 1,k6.cell 2,k6.cell 3⟩
 have hb57:Below V5.heap.size V5 V7:=bt HB6.out (by rw [hV7]; exact below_new _ _)
 have HB17:Hid (Below W1.heap.size W1 V7):=Lib.hid (bt HB14.out (bt HB45.out hb57))
 have hrF7:=rep_nextN HRF.out hb57
 obtain ⟨V8,hV8⟩:∃ W,W = V7.alloc (.cells #[.int .i64 26,.int .i64 1,.int .i64 0,.slice (some ⟨gb,0,none⟩) 3 3] 25):=⟨_,rfl⟩
 obtain ⟨gc,hgc⟩:∃ z,z = V7.heap.size:=⟨_,rfl⟩
 have hrT:Rep V8 (NrY (z + 1) V8.heap.size) (d + 4) (exT x) (nd (exT x) (some ⟨gc,0,none⟩) 1):=by
  have h:=(nds_newN (Reps.one hrF7) (HK1.out.below HB17.out HK1.out.lt).lt (by simp)).rep (k:=27) (n:=0) (m:=0) (in_sm (by omega) (by omega)) (in_sm (by omega) (by omega)) (in_sm (by omega) (by omega))
  have e:(nd (exF x) (some ⟨gb,0,none⟩) 3).toArray = #[.int .i64 26,.int .i64 1,.int .i64 0,.slice (some ⟨gb,0,none⟩) 3 3]:=rfl
  rw [e,← hV8,← hgc] at h
  exact h
 have HRT:=Lib.hid hrT
 have HV8:=Lib.hid hV8
 have HGC:=Lib.hid hgc
 have HB78:Hid (Below V7.heap.size V7 V8):=Lib.hid (by rw [hV8]; exact below_new _ _)
 clear hV7 hg6 k6 hrF7 hV8 hgc hrT hb57
 go_wp2_with (go_at_call 46; rw [← HV8.out,← HGC.out]; refine (node_is _ _ _ _ _ _).mono ?_; rintro e w9 ⟨rfl,hb9⟩; have HB9:=Lib.hid hb9; have HB19:=Lib.hid (bt HB17.out (bt HB78.out hb9)); have HK9:=Lib.hid (HK1.out.below HB19.out HK1.out.lt); clear hb9; obtain ⟨z0,z1,z2,z3⟩:w9.cell? ⟨z + 1,0,none⟩ = some (.int .i64 0)∧w9.cell? ⟨z + 1,1,none⟩ = some (.int .i64 0)∧w9.cell? ⟨z + 1,2,none⟩ = some (.int .i64 0)∧w9.cell? ⟨z + 1,3,none⟩ = some (.slice none 0 0):=⟨HK9.out.cell 0,HK9.out.cell 1,HK9.out.cell 2,HK9.out.cell 3⟩; obtain ⟨f0,f1,f2,f3⟩:w9.frozen? ⟨z + 1,0,none⟩ = false∧w9.frozen? ⟨z + 1,1,none⟩ = false∧w9.frozen? ⟨z + 1,2,none⟩ = false∧w9.frozen? ⟨z + 1,3,none⟩ = false:=⟨HK9.out.frozen 0,HK9.out.frozen 1,HK9.out.frozen 2,HK9.out.frozen 3⟩)
 have hzz:=HZ.out
 obtain ⟨X,hX⟩:∃ W,W = (((w9.setCell ⟨z + 1,0,none⟩ (.int .i64 27)).setCell ⟨z + 1,1,none⟩ (.int .i64 0)).setCell ⟨z + 1,2,none⟩ (.int .i64 0)).setCell ⟨z + 1,3,none⟩ (.slice (some ⟨gc,0,none⟩) 1 1):=⟨_,rfl⟩
 rw [← hX]
 have kX:Blk X (z + 1) 25 #[.int .i64 27,.int .i64 0,.int .i64 0,.slice (some ⟨gc,0,none⟩) 1 1]:=by
  rw [hX]
  have h:=(((HK9.out.set_ 0 (.int .i64 27)).set_ 1 (.int .i64 0)).set_ 2 (.int .i64 0)).set_ 3 (.slice (some ⟨gc,0,none⟩) 1 1)
  simpa using h
 have hb9:=bt HB1.out HB19.out
 have hbX:Below w.heap.size w X:=by
  rw [hX]
  exact (((hb9.setCell (by show w.heap.size≤z + 1; omega) _).setCell (by show w.heap.size≤z + 1; omega) _).setCell (by show w.heap.size≤z + 1; omega) _).setCell (by show w.heap.size≤z + 1; omega) _
 have hsX:X.heap.size = w9.heap.size:=by rw [hX,World.size_setCell,World.size_setCell,World.size_setCell,World.size_setCell]
 have hrX:Rep X (Lt X.heap.size) (d + 4) (exT x) (nd (exT x) (some ⟨gc,0,none⟩) 1):=by
  have h:=rep_nextN HRT.out HB9.out
  have hno:¬ NrY (z + 1) w9.heap.size (z + 1):=fun h=>h.2 rfl
  have h2:=h.keep (((((Keeps.refl _ w9).setCell (p:=⟨z + 1,0,none⟩) hno (.int .i64 27)).setCell (p:=⟨z + 1,1,none⟩) hno (.int .i64 0)).setCell (p:=⟨z + 1,2,none⟩) hno (.int .i64 0)).setCell (p:=⟨z + 1,3,none⟩) hno (.slice (some ⟨gc,0,none⟩) 1 1))
  rw [← hX] at h2
  exact h2.mono fun b hb=>by show b < X.heap.size; rw [hsX]; exact hb.1
 have r0:X.cell? ⟨z + 1,0,none⟩ = some (.int .i64 27):=kX.cell 0
 have r1:X.cell? ⟨z + 1,1,none⟩ = some (.int .i64 0):=kX.cell 1
 have r2:X.cell? ⟨z + 1,2,none⟩ = some (.int .i64 0):=kX.cell 2
 have r3:X.cell? ⟨z + 1,3,none⟩ = some (.slice (some ⟨gc,0,none⟩) 1 1):=kX.cell 3
 refine bodyPost_ret (v:=.agg #[.int .i64 27,.int .i64 0,.int .i64 0,.slice (some ⟨gc,0,none⟩) 1 1]) (by simp [results,Tryd.results47,go_sem,r0,r1,r2,r3]) rfl ⟨some ⟨gc,0,none⟩,1,rfl,hrX,hbX⟩
end Go.Proofs.YtkkenbalpnmfmaaDoor

namespace Go.Proofs.YtkkenbalpnmfmaaDoor
open Go.RowKit WM TR TY

def wk (j:Nat):Int:=[19,13,26,27].getD j 0
def wrapN:Nat→T→T
 | 0,e=>e
 | j + 1,e=>⟨wk j,0,0,[wrapN j e]⟩
theorem wrap_size (e:T):∀ j,size (wrapN j e) = size e + j
 | 0=>rfl
 | j + 1=>by
  have h:=wrap_size e j
  rw [size_eq]
  simp [wrapN,h]
  omega
theorem wk_in (j:Nat):inRange (wk j):=by
 unfold wk
 match j with
 | 0=>exact in_sm (by decide) (by decide)
 | 1=>exact in_sm (by decide) (by decide)
 | 2=>exact in_sm (by decide) (by decide)
 | 3=>exact in_sm (by decide) (by decide)
 | _ + 4=>exact (in_sm (by decide) (by decide):inRange (0:Int))
set_option maxRecDepth 100000 in
set_option maxHeartbeats 8000000 in
theorem isExpr_is (d : Nat) (x : T) (A : Option Addr) (c : Nat) (w : World) (hr : Rep w (Lt w.heap.size) d x (nd x A c)) (hsz : size x ≤ 100000) (hT : ST w) (hg : 0 < w.heap.size) :
  Calls Tryd.prog 62 #[.agg #[.int .i64 x.k,.int .i64 x.n,.int .i64 x.m,.slice A x.kids.length c]] w fun e w'=>e = .returned (.bool (isProg (wrapN 4 x)))∧Below w.heap.size w w':=by
 obtain ⟨z,hz⟩:∃ z,z = w.heap.size:=⟨_,rfl⟩
 obtain ⟨nk,hnk⟩:∃ z,z = x.kids.length:=⟨_,rfl⟩
 obtain ⟨k,hk⟩:∃ z,z = x.k:=⟨_,rfl⟩
 obtain ⟨n,hn⟩:∃ z,z = x.n:=⟨_,rfl⟩
 obtain ⟨m,hm⟩:∃ z,z = x.m:=⟨_,rfl⟩
 obtain ⟨W1,hW1⟩:∃ W,W = ((w.alloc (.cells #[.int .i64 k,.int .i64 n,.int .i64 m,.slice A nk c] 25)).alloc (.cells #[.int .i64 k,.int .i64 n,.int .i64 m,.slice A nk c] 25)).alloc (.cells #[.int .i64 19,.int .i64 13,.int .i64 26,.int .i64 27] 3):=⟨_,rfl⟩
 obtain ⟨g1,hg1⟩:∃ z,z = w.heap.size + 1:=⟨_,rfl⟩
 obtain ⟨g2,hg2⟩:∃ z,z = w.heap.size + 1 + 1:=⟨_,rfl⟩
 have hb1:Below w.heap.size w W1:=by rw [hW1]; exact ba (ba (below_new _ _) _) _
 have k1:Blk W1 g1 25 (nd x A c).toArray:=by
  have e:(nd x A c).toArray = #[.int .i64 k,.int .i64 n,.int .i64 m,.slice A nk c]:=by rw [hk,hn,hm,hnk]; rfl
  rw [e,hW1]; exact (Blk.new_at _ _ (by rw [size_alloc,hg1]) rfl).alloc _
 have k2:Blk W1 g2 3 #[.int .i64 19,.int .i64 13,.int .i64 26,.int .i64 27]:=by rw [hW1]; exact Blk.new_at _ _ (by rw [size_alloc,size_alloc,hg2]) rfl
 have hr1:Rep W1 (NrY g1 W1.heap.size) d x (nd x A c):=(hr.keep fun b hb=>hb1.block b hb).mono fun b (hb:b < w.heap.size)=>⟨Nat.lt_of_lt_of_le hb hb1.size,by omega⟩
 have HW1:=Lib.hid hW1
 have HZ:=Lib.hid hz
 have HB1:=Lib.hid hb1
 have HG1:=Lib.hid hg1
 have HG2:=Lib.hid hg2
 have HK1:=Lib.hid k1
 have HK2:=Lib.hid k2
 have HR1:=Lib.hid hr1
 have HT:=Lib.hid hT
 have HG:=Lib.hid hg
 have HSZ:=Lib.hid hsz
 rw [← hnk,← hk,← hn,← hm]
 clear hz hnk hk hn hm hW1 hg1 hg2 hb1 k1 k2 hr1 hr hT hg hsz
 go_enter Tryd.func62,Tryd.ntmps62
 go_upto_region 3 with fail
 rw [← HW1.out,← HG2.out,← HG1.out]
 try rw [← HZ.out]
 go_loopw [9] (fun i wr=>∃ (j:Nat) (A5:Option Addr) (c5:Nat),j≤4∧i = .int .i64 j∧Hid (Below w.heap.size w wr)∧Hid (Blk wr g1 25 (nd (wrapN j x) A5 c5).toArray)∧Hid (Rep wr (NrY g1 wr.heap.size) (d + j) (wrapN j x) (nd (wrapN j x) A5 c5))∧Hid (Blk wr g2 3 #[.int .i64 19,.int .i64 13,.int .i64 26,.int .i64 27])) (fun i _=>4 - (intOf i).toNat)
 case atStart=>exact ⟨0,A,c,by omega,rfl,HB1,HK1,HR1,HK2⟩
 case round =>
  obtain ⟨j,A5,c5,hj,rfl,HB5,HK5,HR5,HI5⟩:=hrel
  obtain ⟨t,ht⟩:∃ t,t = wrapN j x:=⟨_,rfl⟩
  rw [← ht] at HK5 HR5
  obtain ⟨tk,htk⟩:∃ z,z = t.k:=⟨_,rfl⟩
  obtain ⟨tn,htn⟩:∃ z,z = t.n:=⟨_,rfl⟩
  obtain ⟨tm,htm⟩:∃ z,z = t.m:=⟨_,rfl⟩
  obtain ⟨nt,hnt⟩:∃ z,z = t.kids.length:=⟨_,rfl⟩
  have ecs:(nd t A5 c5).toArray = #[.int .i64 tk,.int .i64 tn,.int .i64 tm,.slice A5 nt c5]:=by rw [htk,htn,htm,hnt]; rfl
  have hk5:=HK5.out
  rw [ecs] at hk5
  obtain ⟨y0,y1,y2,y3⟩:wr.cell? ⟨g1,0,none⟩ = some (.int .i64 tk)∧wr.cell? ⟨g1,1,none⟩ = some (.int .i64 tn)∧wr.cell? ⟨g1,2,none⟩ = some (.int .i64 tm)∧wr.cell? ⟨g1,3,none⟩ = some (.slice A5 nt c5):=⟨hk5.cell 0,hk5.cell 1,hk5.cell 2,hk5.cell 3⟩
  obtain ⟨f0,f1,f2,f3⟩:wr.frozen? ⟨g1,0,none⟩ = false∧wr.frozen? ⟨g1,1,none⟩ = false∧wr.frozen? ⟨g1,2,none⟩ = false∧wr.frozen? ⟨g1,3,none⟩ = false:=⟨hk5.frozen 0,hk5.frozen 1,hk5.frozen 2,hk5.frozen 3⟩
  have HK6:=Lib.hid hk5
  have HECS:=Lib.hid ecs
  have HTT:=Lib.hid ht
  have HTK:=Lib.hid htk
  have HTN:=Lib.hid htn
  have HTM:=Lib.hid htm
  have HNT:=Lib.hid hnt
  clear ht htk htn htm hnt ecs hk5
  by_cases hlt:j < 4
  ·obtain ⟨q,hq⟩:∃ q,q = wk j:=⟨_,rfl⟩
   have q0:wr.cell? ⟨g2,j,none⟩ = some (.int .i64 q):=by
    rw [HI5.out.cell j,hq]
    have:j = 0∨j = 1∨j = 2∨j = 3:=by omega
    rcases this with rfl | rfl | rfl | rfl <;> rfl
   have HQ:=Lib.hid hq
   have hib:(0:Int)≤(j:Int)∧(j:Int) < 4:=⟨by omega,by omega⟩
   have ka:=HK6.out.alloc (.cells #[.int .i64 tk,.int .i64 tn,.int .i64 tm,.slice A5 nt c5] 25)
   obtain ⟨x0,x1,x2,x3⟩:(wr.alloc (.cells #[.int .i64 tk,.int .i64 tn,.int .i64 tm,.slice A5 nt c5] 25)).cell? ⟨g1,0,none⟩ = some (.int .i64 tk)∧(wr.alloc (.cells #[.int .i64 tk,.int .i64 tn,.int .i64 tm,.slice A5 nt c5] 25)).cell? ⟨g1,1,none⟩ = some (.int .i64 tn)∧(wr.alloc (.cells #[.int .i64 tk,.int .i64 tn,.int .i64 tm,.slice A5 nt c5] 25)).cell? ⟨g1,2,none⟩ = some (.int .i64 tm)∧(wr.alloc (.cells #[.int .i64 tk,.int .i64 tn,.int .i64 tm,.slice A5 nt c5] 25)).cell? ⟨g1,3,none⟩ = some (.slice A5 nt c5):=⟨ka.cell 0,ka.cell 1,ka.cell 2,ka.cell 3⟩
   obtain ⟨e0,e1,e2,e3⟩:(wr.alloc (.cells #[.int .i64 tk,.int .i64 tn,.int .i64 tm,.slice A5 nt c5] 25)).frozen? ⟨g1,0,none⟩ = false∧(wr.alloc (.cells #[.int .i64 tk,.int .i64 tn,.int .i64 tm,.slice A5 nt c5] 25)).frozen? ⟨g1,1,none⟩ = false∧(wr.alloc (.cells #[.int .i64 tk,.int .i64 tn,.int .i64 tm,.slice A5 nt c5] 25)).frozen? ⟨g1,2,none⟩ = false∧(wr.alloc (.cells #[.int .i64 tk,.int .i64 tn,.int .i64 tm,.slice A5 nt c5] 25)).frozen? ⟨g1,3,none⟩ = false:=⟨ka.frozen 0,ka.frozen 1,ka.frozen 2,ka.frozen 3⟩
   clear hq ka
   go_upto_region 6 with fail
   obtain ⟨V,hV⟩:∃ V,V = wr.alloc (.cells #[.int .i64 tk,.int .i64 tn,.int .i64 tm,.slice A5 nt c5] 25):=⟨_,rfl⟩
   obtain ⟨g,hg⟩:∃ g,g = wr.heap.size:=⟨_,rfl⟩
   obtain ⟨X,hX⟩:∃ W,W = (((V.setCell ⟨g1,0,none⟩ (.int .i64 q)).setCell ⟨g1,1,none⟩ (.int .i64 0)).setCell ⟨g1,2,none⟩ (.int .i64 0)).setCell ⟨g1,3,none⟩ (.slice (some ⟨g,0,none⟩) 1 1):=⟨_,rfl⟩
   rw [← hV,← hg,← hX]
   have hbV:Below wr.heap.size wr V:=by rw [hV]; exact below_new _ _
   have hg1:=HG1.out
   have hg2:=HG2.out
   have hsX:X.heap.size = V.heap.size:=by rw [hX,World.size_setCell,World.size_setCell,World.size_setCell,World.size_setCell]
   have hsV:V.heap.size = g + 1:=by rw [hV,size_alloc,hg]
   have kV:Blk V g1 25 #[.int .i64 tk,.int .i64 tn,.int .i64 tm,.slice A5 nt c5]:=by rw [hV]; exact HK6.out.alloc _
   have hes:(nd (wrapN (j + 1) x) (some ⟨g,0,none⟩) 1).toArray = #[.int .i64 q,.int .i64 0,.int .i64 0,.slice (some ⟨g,0,none⟩) 1 1]:=by rw [HQ.out]; rfl
   have kX:Blk X g1 25 (nd (wrapN (j + 1) x) (some ⟨g,0,none⟩) 1).toArray:=by
    rw [hes,hX]
    have h:=(((kV.set_ 0 (.int .i64 q)).set_ 1 (.int .i64 0)).set_ 2 (.int .i64 0)).set_ 3 (.slice (some ⟨g,0,none⟩) 1 1)
    simpa using h
   have hbX:Below w.heap.size w X:=by
    rw [hX]
    exact ((((bt HB5.out hbV).setCell (by show w.heap.size≤g1; omega) _).setCell (by show w.heap.size≤g1; omega) _).setCell (by show w.heap.size≤g1; omega) _).setCell (by show w.heap.size≤g1; omega) _
   have hrV:Rep V (NrY g1 V.heap.size) (d + j + 1) (wrapN (j + 1) x) (nd (wrapN (j + 1) x) (some ⟨g,0,none⟩) 1):=by
    have h:=(nds_newN (Reps.one HR5.out) HK6.out.lt (by simp)).rep (k:=wk j) (n:=0) (m:=0) (wk_in j) (in_sm (by omega) (by omega)) (in_sm (by omega) (by omega))
    rw [HECS.out,← hV,← hg] at h
    rw [HTT.out] at h
    exact h
   have hrX:Rep X (NrY g1 X.heap.size) (d + (j + 1)) (wrapN (j + 1) x) (nd (wrapN (j + 1) x) (some ⟨g,0,none⟩) 1):=by
    have hno:¬ NrY g1 V.heap.size g1:=fun h=>h.2 rfl
    have h2:=hrV.keep (((((Keeps.refl _ V).setCell (p:=⟨g1,0,none⟩) hno (.int .i64 q)).setCell (p:=⟨g1,1,none⟩) hno (.int .i64 0)).setCell (p:=⟨g1,2,none⟩) hno (.int .i64 0)).setCell (p:=⟨g1,3,none⟩) hno (.slice (some ⟨g,0,none⟩) 1 1))
    rw [← hX] at h2
    rw [hsX]
    exact h2
   have kI:Blk X g2 3 #[.int .i64 19,.int .i64 13,.int .i64 26,.int .i64 27]:=by
    have h:X.heap[g2]? = V.heap[g2]?:=by
     rw [hX]
     have hne:g2≠g1:=by omega
     rw [Below.heap_setCell _ ⟨g1,3,none⟩ _ g2 hne,Below.heap_setCell _ ⟨g1,2,none⟩ _ g2 hne,Below.heap_setCell _ ⟨g1,1,none⟩ _ g2 hne,Below.heap_setCell _ ⟨g1,0,none⟩ _ g2 hne]
    exact h.trans (by rw [hV]; exact HI5.out.alloc _)
   have H1:=Lib.hid hbX
   have H2:=Lib.hid kX
   have H3:=Lib.hid hrX
   have H4:=Lib.hid kI
   clear hV hg hX hbV hg1 hg2 hsX hsV kV hes kX hbX hrV hrX kI x0 x1 x2 x3 e0 e1 e2 e3 y0 y1 y2 y3 f0 f1 f2 f3 q0
   go_wp2_with fail
   go_roundw
   case rel=>exact ⟨j + 1,some ⟨g,0,none⟩,1,by omega,by go_num,H1,H2,H3,H4⟩
   case measure=>simp [intOf]; omega
  ·have hj4:j = 4:=by omega
   have HVAL:Hid (Calls Tryd.prog 18 #[.agg #[.int .i64 tk,.int .i64 tn,.int .i64 tm,.slice A5 nt c5]] wr fun e w'=>e = .returned (.bool (isProg (wrapN 4 x)))∧Below wr.heap.size wr w'):=Lib.hid (by
    have ht:t = wrapN 4 x:=by rw [HTT.out,hj4]
    have h:=tvalid_is (d + j) t _ A5 c5 wr HR5.out (fun b hb=>hb.1) (by rw [ht,wrap_size]; have:=HSZ.out; omega) (HT.out.below HB5.out HG.out) (Nat.lt_of_lt_of_le HG.out HB5.out.size)
    rw [← HTK.out,← HTN.out,← HTM.out,← HNT.out,ht] at h
    exact h)
   clear hj4
   go_wp2_with (go_at_call 18; refine HVAL.out.mono ?_; rintro e w6 ⟨rfl,hb6⟩; have HB6:=Lib.hid (bt HB5.out hb6); clear hb6)
   go_ret
   exact ⟨rfl,HB6.out⟩
end Go.Proofs.YtkkenbalpnmfmaaDoor
