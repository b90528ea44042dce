/- Texts joined. -/
import Derived.Test.YtkkenbalpnmfmaaDoorH26
import Derived.Test.YtkkenbalpnmfmaaDoorH11
import Derived.Test.YtkkenbalpnmfmaaDoorH12
import Derived.Deep.CutRange
set_option linter.unusedVariables false
namespace Go.Proofs.YtkkenbalpnmfmaaDoor
open Go.RowKit WM TR

structure Acc2 (a a':Nat) (l l':Int) (s m:Nat):Prop where
 lo:a≤a'
 hi:a'≤a + 3 * s
 left:l'≤l - s
 left2:l - 2 * s≤l'
 bound:(s:Int)≤m + 4 * (max l 0 - max l' 0)
theorem Acc.two {a a':Nat} {l l':Int} {s m:Nat} (h:Acc a a' l l' s m):Acc2 a a' l l' s m:=by
 obtain ⟨h1,h2,h3,h4⟩:=h
 exact ⟨h1,h2,by omega,by omega,h4⟩
theorem Acc2.nil (a:Nat) (l:Int):Acc2 a a l l 0 0:=(Acc.nil a l).two
theorem Acc2.add {a b c:Nat} {l m n:Int} {s t p q:Nat} (h:Acc2 a b l m s p) (k:Acc2 b c m n t q):Acc2 a c l n (s + t) (p + q):=by
 obtain ⟨h1,h2,h3,h4,h5⟩:=h
 obtain ⟨k1,k2,k3,k4,k5⟩:=k
 exact ⟨by omega,by omega,by omega,by omega,by omega⟩

def GStmtPost (L:List Int) (A:Option Addr) (c g e a:Nat) (l:Int) (w:World) (x:Ending) (w':World):Prop :=
 ∃ t A' c' a' l', x = .returned (.agg #[.int .i64 t.k, .int .i64 t.n, .int .i64 t.m, .slice A' t.kids.length c']) ∧ isStmt t = true ∧
   Rep w' (fun b=>w.heap.size≤b∧b < w'.heap.size) (4 + e) t (nd t A' c')∧Blk w' g 60 (mkc A L.length c a' l')∧w.grownBy w' (some g)∧Acc2 a a' l l' (size t) 0
def GStmtC (L:List Int) (S:Nat→Prop) (A:Option Addr) (c g e:Nat):Prop :=
 ∀ (a:Nat) (l:Int) (w:World),Blk w g 60 (mkc A L.length c a l)→In S w.heap.size→Rd w S 1 A L.length (vi L)→a + 30000 * e + 90000≤900000→-900000 + 30000 * (e:Int) + 90000≤l→l≤1000→1≤l →
  ∀ D:Int,D + 1 = (e:Int)→Calls Tryd.prog 69 #[.pointer (some ⟨g,0,none⟩),.int .i64 D] w (GStmtPost L A c g e a l w)
def GBlockPost (L:List Int) (A:Option Addr) (c g e a:Nat) (l:Int) (w:World) (x:Ending) (w':World):Prop :=
 ∃ t A' c' a' l', x = .returned (.agg #[.int .i64 t.k, .int .i64 t.n, .int .i64 t.m, .slice A' t.kids.length c']) ∧ isBlock t = true ∧
   Rep w' (fun b=>w.heap.size≤b∧b < w'.heap.size) (5 + e) t (nd t A' c')∧Blk w' g 60 (mkc A L.length c a' l')∧w.grownBy w' (some g)∧Acc2 a a' l l' (size t) 1∧a' + 1≤a + 3 * size t∧l - 2 * size t + 1≤l'
def GBlockC (L:List Int) (S:Nat→Prop) (A:Option Addr) (c g e:Nat):Prop :=
 ∀ (a:Nat) (l:Int) (w:World),Blk w g 60 (mkc A L.length c a l)→In S w.heap.size→Rd w S 1 A L.length (vi L)→a + 30000 * e + 105000≤900000→-900000 + 30000 * (e:Int) + 105000≤l→l≤1000 →
  ∀ D:Int,D = (e:Int)→Calls Tryd.prog 43 #[.pointer (some ⟨g,0,none⟩),.int .i64 D] w (GBlockPost L A c g e a l w)

theorem GStmtPost.fin {L : List Int} {A : Option Addr} {c g e a a' R : Nat} {l l' : Int} {w V : World} {r c' : Nat} {t : T} {A' : Option Addr} (hr : r = w.heap.size) (hgr : g < r) (he : isStmt t = true) (hR : R ≤ 4 + e) (hk : Rep V (fun b => r < b ∧ b < V.heap.size) R t (nd t A' c'))
  (hm:Blk V g 60 (mkc A L.length c a' l')) (hg:w.grownBy V (some g)) (hacc:Acc2 a a' l l' (size t) 0) (v0 v1 v2 v3:Value) :
  GStmtPost L A c g e a l w (.returned (.agg #[.int .i64 t.k,.int .i64 t.n,.int .i64 t.m,.slice A' t.kids.length c'])) ((((V.setCell ⟨r,0,none⟩ v0).setCell ⟨r,1,none⟩ v1).setCell ⟨r,2,none⟩ v2).setCell ⟨r,3,none⟩ v3):=by
 have h4:=gw4 V r v0 v1 v2 v3
 refine ⟨t,A',c',a',l',rfl,he,((put4_rep hk (fun h=>by omega) _ _ _ _).mono fun b hb=>?_).deeper hR,hm.gw h4.1 (by omega),?_,hacc⟩
 ·rw [h4.2]; exact ⟨by omega,hb.2⟩
 ·exact gw_setCell (gw_setCell (gw_setCell (gw_setCell hg (.inr (Nat.le_of_eq hr.symm)) _) (.inr (Nat.le_of_eq hr.symm)) _) (.inr (Nat.le_of_eq hr.symm)) _) (.inr (Nat.le_of_eq hr.symm)) _
theorem acc2_leaf (a b:Nat) (l:Int) (t:T) (hs:size t = 1) (h1:a≤b) (h2:b≤a + 3) (hl:1≤l):Acc2 a b l (l - 1) (size t) 0:=by
 rw [hs]; exact ⟨h1,by omega,by omega,by omega,by omega⟩
theorem acc2_node (a b b':Nat) (l l':Int) (k n m:Int) (ts:List T) (j:Nat) (h:Acc2 b b' (l - 1) l' ((ts.map size).sum) j) (hj:j≤3) (h1:a≤b) (h2:b≤a + 3) (hl:1≤l):Acc2 a b' l l' (size ⟨k,n,m,ts⟩) 0:=by
 obtain ⟨h3,h4,h5,h6,h7⟩:=h
 have hs:size ⟨k,n,m,ts⟩ = 1 + (ts.map size).sum:=size_eq _
 rw [hs]
 exact ⟨by omega,by omega,by omega,by omega,by omega⟩
theorem acc2_block (a b b':Nat) (l l':Int) (t:T) (h:Acc2 b b' (l - 1) l' (size t) 1) (h1:a≤b) (h2:b≤a + 1) (hl:1≤l) (h3:l - 1 - 2 * (size t) + 1≤l') (h4:b' + 1≤b + 3 * size t):Acc2 a b' l l' (size t) 0:=by
 obtain ⟨k3,k4,k5,k6,k7⟩:=h
 exact ⟨by omega,by omega,by omega,by omega,by omega⟩

attribute [local go_sem ↓ high] shutB2 shutB3
attribute [local go_sem] run_bs2 run_bs3

set_option maxRecDepth 100000 in
set_option maxHeartbeats 8000000 in
theorem gstmt_step (L:List Int) (S:Nat→Prop) (A:Option Addr) (c g d:Nat) (hr:∀ x ∈ L,inRange x) (hl:L.length≤9223372036854775807) (hS:∀ b,S b→b≠g) (hE:∀ e,d = e + 2→GBlockC L S A c g e∧GBlockC L S A c g (e + 1)):GStmtC L S A c g d:=by
 intro a l w hm hin hL ha hla hl2 hl1 D hD
 have HE:=Lib.hid hE
 have HRL:=Lib.hid hr
 have HLL:=Lib.hid hl
 have HS:=Lib.hid hS
 have HI:=Lib.hid hin
 have HL:=Lib.hid hL
 have HD:=Lib.hid hD
 obtain ⟨x0,hx0⟩:∃ x,numAt L a 14 = x:=⟨_,rfl⟩
 have hxb:=numAt_le (L:=L) (a:=a) (n:=14) (by omega)
 rw [hx0] at hxb
 have HX0:=Lib.hid hx0
 have htm:x0.tmod 8 = x0 % 8:=Int.tmod_eq_emod_of_nonneg hxb.1
 have hb4:0≤x0.tmod 8∧x0.tmod 8 < 8:=by rw [htm]; omega
 obtain ⟨r,hrr⟩:∃ r,r = w.heap.size:=⟨_,rfl⟩
 have hgr:g < r:=by rw [hrr]; exact hm.lt
 have HRR:=Lib.hid hrr
 have HM:=Lib.hid hm
 go_enter Tryd.func69,Tryd.ntmps69
 go_upto_region 1 with fail
 obtain ⟨W1,hW1⟩:∃ W1,W1 = w.alloc (.cells #[.int .i64 0,.int .i64 0,.int .i64 0,.slice none 0 0] 25):=⟨_,rfl⟩
 have HM1:Hid (Blk W1 g 60 (mkc A L.length c a l)):=Lib.hid (by rw [hW1]; exact hm.below (below_new _ _) hm.lt)
 have HZ1:Hid (Blk W1 r 25 #[.int .i64 0,.int .i64 0,.int .i64 0,.slice none 0 0]):=Lib.hid (by rw [hW1,hrr]; exact Blk.new _ _ _)
 have HG1:Hid (w.grownBy W1 (some g)):=Lib.hid (by rw [hW1]; exact gw_alloc (gw_refl w g) _)
 have HSZ1:Hid (W1.heap.size = r + 1):=Lib.hid (by rw [hW1,hrr]; exact size_alloc _ _)
 rw [← hW1,← hrr]
 clear htm hW1 hrr hm hin hL hE hr hl hS hD hx0
 go_upto_region 2 with (first
  | (go_at_call 42; refine (num_is L S A c g _ _ _ _ HM1.out HS.out (HL.out.keep (Keeps.gw HG1.out HI.out HS.out)) HRL.out (by omega) HLL.out (by omega)).mono ?_; rintro e w2 ⟨rfl,hm2,hg2⟩; rw [HX0.out]))
 have h2:=hm2.cell 2
 have f2:=hm2.frozen 2
 simp only [mkc,List.getElem?_toArray,List.getElem?_cons_zero,List.getElem?_cons_succ] at h2
 have HM2:=Lib.hid hm2
 have HG2:=Lib.hid hg2
 clear hm2 hg2
 go_cut [5] from 8 to 14 (fun s5 wv=>∃ V:World,V = wv∧s5 = .int .i64 x0∧Hid (Blk V g 60 (mkc A L.length c (a + 1) (l - 1))∧W1.grownBy V (some g)))
 case first =>
  have hlw:IntKind.i64.wrap (l - 1) = l - 1:=by rw [IntKind.wrap_i64]; omega
  go_wp2_with fail
  go_meet
  exact ⟨_,rfl,rfl,HM2.out.set_ 2 _,gw_setCell HG2.out (.inl rfl) _⟩
 case rest =>
 obtain ⟨V,hV,rfl,HV⟩:=hcut
 subst hV
 clear h2 f2
 have h2:=HV.out.1.cell 2
 simp only [mkc,List.getElem?_toArray,List.getElem?_cons_zero,List.getElem?_cons_succ] at h2
 rename_i hK
 refine hK _ _ ?_
 go_step
 go_cut [5] from 15 to 25 (fun s5 wv=>∃ (xx:Int),wv = V∧s5 = .int .i64 xx∧Hid (0≤xx∧xx < 14∧(8≤xx→2≤d)))
 case first =>
  have hD:=HD.out
  by_cases hd0:D≤0
  ·have hdd:decide (D≤0) = true:=by simpa using hd0
   have hmod:IntKind.i64.wrap (x0.tmod 8) = x0.tmod 8:=by rw [IntKind.wrap_i64]; omega
   clear hD
   go_wp2_with fail
   go_meet
   exact ⟨_,rfl,rfl,by omega,by omega,by omega⟩
  ·have hdd:decide (D≤0) = false:=by simp; omega
   by_cases hl0:l - 1≤0
   ·have hld:decide (l - 1≤0) = true:=by simpa using hl0
    have hmod:IntKind.i64.wrap (x0.tmod 8) = x0.tmod 8:=by rw [IntKind.wrap_i64]; omega
    have hD2:=Lib.hid hD
    clear hD hd0
    go_wp2_with fail
    go_meet
    exact ⟨_,rfl,rfl,by omega,by omega,by omega⟩
   ·have hld:decide (l - 1≤0) = false:=by simp; omega
    have hD2:=Lib.hid hD
    have hd1:0 < D:=by omega
    have hl1:0 < l - 1:=by omega
    clear hD hd0
    go_wp2_with fail
    go_meet
    exact ⟨_,rfl,rfl,hxb.1,hxb.2,fun _=>by have:=hD2.out; omega⟩
 case rest =>
 obtain ⟨xx,hVV,rfl,HXX⟩:=hcut
 subst hVV
 obtain ⟨hx1,hx2,hx3⟩:=HXX.out
 have HMV:=Lib.hid HV.out.1
 have HZV:=Lib.hid (HZ1.out.gw HV.out.2 (by omega))
 have HGV:=Lib.hid (gw_trans HG1.out HV.out.2)
 have z0:=HZV.out.cell 0; have z1:=HZV.out.cell 1; have z2:=HZV.out.cell 2; have z3:=HZV.out.cell 3; have f0:=HZV.out.frozen 0; have f1:=HZV.out.frozen 1; have f2:=HZV.out.frozen 2; have f3:=HZV.out.frozen 3; simp only [List.getElem?_toArray,List.getElem?_cons_zero,List.getElem?_cons_succ] at z0 z1 z2 z3
 have hb6:=numAt_le (L:=L) (a:=a + 1) (n:=6) (by omega)
 have hb3:=numAt_le (L:=L) (a:=a + 1) (n:=3) (by omega)
 have hc3:=numAt_le (L:=L) (a:=a + 2) (n:=3) (by omega)
 have hc4:=numAt_le (L:=L) (a:=a + 2) (n:=4) (by omega)
 have HB:=Lib.hid (And.intro hb6 (And.intro hb3 (And.intro hc3 hc4)))
 have hcases:xx = 0∨xx = 1∨xx = 2∨xx = 3∨xx = 4∨xx = 5∨xx = 6∨xx = 7∨xx = 8∨xx = 9∨xx = 10∨xx = 11∨xx = 12∨xx = 13:=by omega
 clear hb6 hb3 hc3 hc4 hx1 hx2 h2
 rcases hcases with rfl | rfl | rfl | rfl | rfl | rfl | rfl | rfl | rfl | rfl | rfl | rfl | rfl | rfl
 ·clear hx3
  go_wp2_with (first
   | (go_at_call 94; go_loud (refine (some_is L S A c g 2 HS.out (gexpr_is L S A c g HRL.out HLL.out HS.out 2) 1 _ _ _ HMV.out (HI.out.more HGV.out.size) (HL.out.keep (Keeps.gw HGV.out HI.out HS.out)) (by omega) (by omega) (by omega) (by omega) _ rfl).mono ?_; rintro e w9 ⟨ts,A9,c9,a9,l9,xs,rfl,hc9,hlen,hall,hrd,hrs,hm9,hg9,hacc9⟩; have HRW:=Lib.hid HZV.out.lt; have HC9:=Lib.hid hc9; have HLEN:=Lib.hid hlen; have HALL:=Lib.hid hall; have HRD:=Lib.hid hrd; have HRS:=Lib.hid hrs; have HAC:=Lib.hid hacc9; replace HGV:=Lib.hid (gw_trans HGV.out hg9); replace HZV:=Lib.hid (HZV.out.gw hg9 (by omega)); replace HMV:=Lib.hid hm9; clear hc9 hlen hall hrd hrs hm9 hg9 hacc9; clear z0 z1 z2 z3 f0 f1 f2 f3; have z0:=HZV.out.cell 0; have z1:=HZV.out.cell 1; have z2:=HZV.out.cell 2; have z3:=HZV.out.cell 3; have f0:=HZV.out.frozen 0; have f1:=HZV.out.frozen 1; have f2:=HZV.out.frozen 2; have f3:=HZV.out.frozen 3; simp only [List.getElem?_toArray,List.getElem?_cons_zero,List.getElem?_cons_succ] at z0 z1 z2 z3))
   | (go_at_call 42; go_loud (refine (num_is L S A c g _ _ _ _ HMV.out HS.out (HL.out.keep (Keeps.gw HGV.out HI.out HS.out)) HRL.out (by omega) HLL.out (by omega)).mono ?_; rintro e w2 ⟨rfl,hm9,hg9⟩; (try rw [HKC.out]); replace HGV:=Lib.hid (gw_trans HGV.out hg9); replace HZV:=Lib.hid (HZV.out.gw hg9 (by omega)); replace HMV:=Lib.hid hm9; clear hm9 hg9; clear z0 z1 z2 z3 f0 f1 f2 f3; have z0:=HZV.out.cell 0; have z1:=HZV.out.cell 1; have z2:=HZV.out.cell 2; have z3:=HZV.out.cell 3; have f0:=HZV.out.frozen 0; have f1:=HZV.out.frozen 1; have f2:=HZV.out.frozen 2; have f3:=HZV.out.frozen 3; simp only [List.getElem?_toArray,List.getElem?_cons_zero,List.getElem?_cons_succ] at z0 z1 z2 z3)))
  obtain ⟨hb6,hb3,hc3,hc4⟩:=HB.out
  refine bodyPost_ret (v:=.agg #[.int .i64 14,.int .i64 (numAt L (a + 1) 6),.int .i64 (0),.slice A9 ts.length c9]) (by simp [results,Tryd.results69,go_sem,z0,z1,z2,z3,HLEN.out]) rfl (GStmtPost.fin (t:=⟨14,numAt L (a + 1) 6,0,ts⟩) (A':=A9) (c':=c9) (a':=a9) (l':=l9) (R:=2 + 1 + 1) HRR.out hgr ?_ (by omega) ((Rep.mk (by unfold inRange; omega) (by unfold inRange; omega) (by unfold inRange; omega) (by rw [HLEN.out]; exact HC9.out) (by rw [HLEN.out]; exact HRD.out.mono fun b hb=>⟨Nat.lt_of_lt_of_le HRW.out hb.1,hb.2⟩) (HRS.out.mono fun b hb=>⟨Nat.lt_of_lt_of_le HRW.out hb.1,hb.2⟩))) HMV.out HGV.out (acc2_node a (a + 1 + 1) a9 l l9 _ _ _ ts _ HAC.out.two (by omega) (by omega) (by omega) (by omega)) _ _ _ _)
  have hal:(ts.map isExpr).all id = true:=by rw [List.all_map]; exact HALL.out
  rw [isStmt_eq]
  simp only [stmtOf,hal]
  simp [btw,HLEN.out] <;> omega
 ·clear hx3
  go_wp2_with (first
   | (go_at_call 94; go_loud (refine (some_is L S A c g 2 HS.out (gexpr_is L S A c g HRL.out HLL.out HS.out 2) 1 _ _ _ HMV.out (HI.out.more HGV.out.size) (HL.out.keep (Keeps.gw HGV.out HI.out HS.out)) (by omega) (by omega) (by omega) (by omega) _ rfl).mono ?_; rintro e w9 ⟨ts,A9,c9,a9,l9,xs,rfl,hc9,hlen,hall,hrd,hrs,hm9,hg9,hacc9⟩; have HRW:=Lib.hid HZV.out.lt; have HC9:=Lib.hid hc9; have HLEN:=Lib.hid hlen; have HALL:=Lib.hid hall; have HRD:=Lib.hid hrd; have HRS:=Lib.hid hrs; have HAC:=Lib.hid hacc9; replace HGV:=Lib.hid (gw_trans HGV.out hg9); replace HZV:=Lib.hid (HZV.out.gw hg9 (by omega)); replace HMV:=Lib.hid hm9; clear hc9 hlen hall hrd hrs hm9 hg9 hacc9; clear z0 z1 z2 z3 f0 f1 f2 f3; have z0:=HZV.out.cell 0; have z1:=HZV.out.cell 1; have z2:=HZV.out.cell 2; have z3:=HZV.out.cell 3; have f0:=HZV.out.frozen 0; have f1:=HZV.out.frozen 1; have f2:=HZV.out.frozen 2; have f3:=HZV.out.frozen 3; simp only [List.getElem?_toArray,List.getElem?_cons_zero,List.getElem?_cons_succ] at z0 z1 z2 z3))
   | (go_at_call 42; go_loud (refine (num_is L S A c g _ _ _ _ HMV.out HS.out (HL.out.keep (Keeps.gw HGV.out HI.out HS.out)) HRL.out (by omega) HLL.out (by omega)).mono ?_; rintro e w2 ⟨rfl,hm9,hg9⟩; (try rw [HKC.out]); replace HGV:=Lib.hid (gw_trans HGV.out hg9); replace HZV:=Lib.hid (HZV.out.gw hg9 (by omega)); replace HMV:=Lib.hid hm9; clear hm9 hg9; clear z0 z1 z2 z3 f0 f1 f2 f3; have z0:=HZV.out.cell 0; have z1:=HZV.out.cell 1; have z2:=HZV.out.cell 2; have z3:=HZV.out.cell 3; have f0:=HZV.out.frozen 0; have f1:=HZV.out.frozen 1; have f2:=HZV.out.frozen 2; have f3:=HZV.out.frozen 3; simp only [List.getElem?_toArray,List.getElem?_cons_zero,List.getElem?_cons_succ] at z0 z1 z2 z3)))
  obtain ⟨hb6,hb3,hc3,hc4⟩:=HB.out
  refine bodyPost_ret (v:=.agg #[.int .i64 19,.int .i64 (0),.int .i64 (0),.slice A9 ts.length c9]) (by simp [results,Tryd.results69,go_sem,z0,z1,z2,z3,HLEN.out]) rfl (GStmtPost.fin (t:=⟨19,0,0,ts⟩) (A':=A9) (c':=c9) (a':=a9) (l':=l9) (R:=2 + 1 + 1) HRR.out hgr ?_ (by omega) ((Rep.mk (by unfold inRange; omega) (by unfold inRange; omega) (by unfold inRange; omega) (by rw [HLEN.out]; exact HC9.out) (by rw [HLEN.out]; exact HRD.out.mono fun b hb=>⟨Nat.lt_of_lt_of_le HRW.out hb.1,hb.2⟩) (HRS.out.mono fun b hb=>⟨Nat.lt_of_lt_of_le HRW.out hb.1,hb.2⟩))) HMV.out HGV.out (acc2_node a (a + 0 + 1) a9 l l9 _ _ _ ts _ HAC.out.two (by omega) (by omega) (by omega) (by omega)) _ _ _ _)
  have hal:(ts.map isExpr).all id = true:=by rw [List.all_map]; exact HALL.out
  rw [isStmt_eq]
  simp only [stmtOf,hal]
  simp [btw,HLEN.out] <;> omega
 ·clear hx3
  go_wp2_with (first
   | (go_at_call 94; go_loud (refine (some_is L S A c g 1 HS.out (gexpr_is L S A c g HRL.out HLL.out HS.out 1) 1 _ _ _ HMV.out (HI.out.more HGV.out.size) (HL.out.keep (Keeps.gw HGV.out HI.out HS.out)) (by omega) (by omega) (by omega) (by omega) _ rfl).mono ?_; rintro e w9 ⟨ts,A9,c9,a9,l9,xs,rfl,hc9,hlen,hall,hrd,hrs,hm9,hg9,hacc9⟩; have HRW:=Lib.hid HZV.out.lt; have HC9:=Lib.hid hc9; have HLEN:=Lib.hid hlen; have HALL:=Lib.hid hall; have HRD:=Lib.hid hrd; have HRS:=Lib.hid hrs; have HAC:=Lib.hid hacc9; replace HGV:=Lib.hid (gw_trans HGV.out hg9); replace HZV:=Lib.hid (HZV.out.gw hg9 (by omega)); replace HMV:=Lib.hid hm9; clear hc9 hlen hall hrd hrs hm9 hg9 hacc9; clear z0 z1 z2 z3 f0 f1 f2 f3; have z0:=HZV.out.cell 0; have z1:=HZV.out.cell 1; have z2:=HZV.out.cell 2; have z3:=HZV.out.cell 3; have f0:=HZV.out.frozen 0; have f1:=HZV.out.frozen 1; have f2:=HZV.out.frozen 2; have f3:=HZV.out.frozen 3; simp only [List.getElem?_toArray,List.getElem?_cons_zero,List.getElem?_cons_succ] at z0 z1 z2 z3))
   | (go_at_call 42; go_loud (refine (num_is L S A c g _ _ _ _ HMV.out HS.out (HL.out.keep (Keeps.gw HGV.out HI.out HS.out)) HRL.out (by omega) HLL.out (by omega)).mono ?_; rintro e w2 ⟨rfl,hm9,hg9⟩; (try rw [HKC.out]); replace HGV:=Lib.hid (gw_trans HGV.out hg9); replace HZV:=Lib.hid (HZV.out.gw hg9 (by omega)); replace HMV:=Lib.hid hm9; clear hm9 hg9; clear z0 z1 z2 z3 f0 f1 f2 f3; have z0:=HZV.out.cell 0; have z1:=HZV.out.cell 1; have z2:=HZV.out.cell 2; have z3:=HZV.out.cell 3; have f0:=HZV.out.frozen 0; have f1:=HZV.out.frozen 1; have f2:=HZV.out.frozen 2; have f3:=HZV.out.frozen 3; simp only [List.getElem?_toArray,List.getElem?_cons_zero,List.getElem?_cons_succ] at z0 z1 z2 z3)))
  obtain ⟨hb6,hb3,hc3,hc4⟩:=HB.out
  refine bodyPost_ret (v:=.agg #[.int .i64 20,.int .i64 (0),.int .i64 (0),.slice A9 ts.length c9]) (by simp [results,Tryd.results69,go_sem,z0,z1,z2,z3,HLEN.out]) rfl (GStmtPost.fin (t:=⟨20,0,0,ts⟩) (A':=A9) (c':=c9) (a':=a9) (l':=l9) (R:=1 + 1 + 1) HRR.out hgr ?_ (by omega) ((Rep.mk (by unfold inRange; omega) (by unfold inRange; omega) (by unfold inRange; omega) (by rw [HLEN.out]; exact HC9.out) (by rw [HLEN.out]; exact HRD.out.mono fun b hb=>⟨Nat.lt_of_lt_of_le HRW.out hb.1,hb.2⟩) (HRS.out.mono fun b hb=>⟨Nat.lt_of_lt_of_le HRW.out hb.1,hb.2⟩))) HMV.out HGV.out (acc2_node a (a + 0 + 1) a9 l l9 _ _ _ ts _ HAC.out.two (by omega) (by omega) (by omega) (by omega)) _ _ _ _)
  have hal:(ts.map isExpr).all id = true:=by rw [List.all_map]; exact HALL.out
  rw [isStmt_eq]
  simp only [stmtOf,hal]
  simp [btw,HLEN.out] <;> omega
 ·clear hx3
  go_wp2_with (first
   | (go_at_call 94; go_loud (refine (some_is L S A c g 2 HS.out (gexpr_is L S A c g HRL.out HLL.out HS.out 2) 1 _ _ _ HMV.out (HI.out.more HGV.out.size) (HL.out.keep (Keeps.gw HGV.out HI.out HS.out)) (by omega) (by omega) (by omega) (by omega) _ rfl).mono ?_; rintro e w9 ⟨ts,A9,c9,a9,l9,xs,rfl,hc9,hlen,hall,hrd,hrs,hm9,hg9,hacc9⟩; have HRW:=Lib.hid HZV.out.lt; have HC9:=Lib.hid hc9; have HLEN:=Lib.hid hlen; have HALL:=Lib.hid hall; have HRD:=Lib.hid hrd; have HRS:=Lib.hid hrs; have HAC:=Lib.hid hacc9; replace HGV:=Lib.hid (gw_trans HGV.out hg9); replace HZV:=Lib.hid (HZV.out.gw hg9 (by omega)); replace HMV:=Lib.hid hm9; clear hc9 hlen hall hrd hrs hm9 hg9 hacc9; clear z0 z1 z2 z3 f0 f1 f2 f3; have z0:=HZV.out.cell 0; have z1:=HZV.out.cell 1; have z2:=HZV.out.cell 2; have z3:=HZV.out.cell 3; have f0:=HZV.out.frozen 0; have f1:=HZV.out.frozen 1; have f2:=HZV.out.frozen 2; have f3:=HZV.out.frozen 3; simp only [List.getElem?_toArray,List.getElem?_cons_zero,List.getElem?_cons_succ] at z0 z1 z2 z3))
   | (go_at_call 42; go_loud (refine (num_is L S A c g _ _ _ _ HMV.out HS.out (HL.out.keep (Keeps.gw HGV.out HI.out HS.out)) HRL.out (by omega) HLL.out (by omega)).mono ?_; rintro e w2 ⟨rfl,hm9,hg9⟩; (try rw [HKC.out]); replace HGV:=Lib.hid (gw_trans HGV.out hg9); replace HZV:=Lib.hid (HZV.out.gw hg9 (by omega)); replace HMV:=Lib.hid hm9; clear hm9 hg9; clear z0 z1 z2 z3 f0 f1 f2 f3; have z0:=HZV.out.cell 0; have z1:=HZV.out.cell 1; have z2:=HZV.out.cell 2; have z3:=HZV.out.cell 3; have f0:=HZV.out.frozen 0; have f1:=HZV.out.frozen 1; have f2:=HZV.out.frozen 2; have f3:=HZV.out.frozen 3; simp only [List.getElem?_toArray,List.getElem?_cons_zero,List.getElem?_cons_succ] at z0 z1 z2 z3)))
  obtain ⟨hb6,hb3,hc3,hc4⟩:=HB.out
  refine bodyPost_ret (v:=.agg #[.int .i64 22,.int .i64 (numAt L (a + 1) 3),.int .i64 (0),.slice A9 ts.length c9]) (by simp [results,Tryd.results69,go_sem,z0,z1,z2,z3,HLEN.out]) rfl (GStmtPost.fin (t:=⟨22,numAt L (a + 1) 3,0,ts⟩) (A':=A9) (c':=c9) (a':=a9) (l':=l9) (R:=2 + 1 + 1) HRR.out hgr ?_ (by omega) ((Rep.mk (by unfold inRange; omega) (by unfold inRange; omega) (by unfold inRange; omega) (by rw [HLEN.out]; exact HC9.out) (by rw [HLEN.out]; exact HRD.out.mono fun b hb=>⟨Nat.lt_of_lt_of_le HRW.out hb.1,hb.2⟩) (HRS.out.mono fun b hb=>⟨Nat.lt_of_lt_of_le HRW.out hb.1,hb.2⟩))) HMV.out HGV.out (acc2_node a (a + 1 + 1) a9 l l9 _ _ _ ts _ HAC.out.two (by omega) (by omega) (by omega) (by omega)) _ _ _ _)
  have hal:(ts.map isExpr).all id = true:=by rw [List.all_map]; exact HALL.out
  rw [isStmt_eq]
  simp only [stmtOf,hal]
  simp [btw,HLEN.out] <;> omega
 ·clear hx3
  go_wp2_with (first
   | (go_at_call 94; go_loud (refine (some_is L S A c g 2 HS.out (gexpr_is L S A c g HRL.out HLL.out HS.out 2) 1 _ _ _ HMV.out (HI.out.more HGV.out.size) (HL.out.keep (Keeps.gw HGV.out HI.out HS.out)) (by omega) (by omega) (by omega) (by omega) _ rfl).mono ?_; rintro e w9 ⟨ts,A9,c9,a9,l9,xs,rfl,hc9,hlen,hall,hrd,hrs,hm9,hg9,hacc9⟩; have HRW:=Lib.hid HZV.out.lt; have HC9:=Lib.hid hc9; have HLEN:=Lib.hid hlen; have HALL:=Lib.hid hall; have HRD:=Lib.hid hrd; have HRS:=Lib.hid hrs; have HAC:=Lib.hid hacc9; replace HGV:=Lib.hid (gw_trans HGV.out hg9); replace HZV:=Lib.hid (HZV.out.gw hg9 (by omega)); replace HMV:=Lib.hid hm9; clear hc9 hlen hall hrd hrs hm9 hg9 hacc9; clear z0 z1 z2 z3 f0 f1 f2 f3; have z0:=HZV.out.cell 0; have z1:=HZV.out.cell 1; have z2:=HZV.out.cell 2; have z3:=HZV.out.cell 3; have f0:=HZV.out.frozen 0; have f1:=HZV.out.frozen 1; have f2:=HZV.out.frozen 2; have f3:=HZV.out.frozen 3; simp only [List.getElem?_toArray,List.getElem?_cons_zero,List.getElem?_cons_succ] at z0 z1 z2 z3))
   | (go_at_call 42; go_loud (refine (num_is L S A c g _ _ _ _ HMV.out HS.out (HL.out.keep (Keeps.gw HGV.out HI.out HS.out)) HRL.out (by omega) HLL.out (by omega)).mono ?_; rintro e w2 ⟨rfl,hm9,hg9⟩; (try rw [HKC.out]); replace HGV:=Lib.hid (gw_trans HGV.out hg9); replace HZV:=Lib.hid (HZV.out.gw hg9 (by omega)); replace HMV:=Lib.hid hm9; clear hm9 hg9; clear z0 z1 z2 z3 f0 f1 f2 f3; have z0:=HZV.out.cell 0; have z1:=HZV.out.cell 1; have z2:=HZV.out.cell 2; have z3:=HZV.out.cell 3; have f0:=HZV.out.frozen 0; have f1:=HZV.out.frozen 1; have f2:=HZV.out.frozen 2; have f3:=HZV.out.frozen 3; simp only [List.getElem?_toArray,List.getElem?_cons_zero,List.getElem?_cons_succ] at z0 z1 z2 z3)))
  obtain ⟨hb6,hb3,hc3,hc4⟩:=HB.out
  refine bodyPost_ret (v:=.agg #[.int .i64 24,.int .i64 (0),.int .i64 (0),.slice A9 ts.length c9]) (by simp [results,Tryd.results69,go_sem,z0,z1,z2,z3,HLEN.out]) rfl (GStmtPost.fin (t:=⟨24,0,0,ts⟩) (A':=A9) (c':=c9) (a':=a9) (l':=l9) (R:=2 + 1 + 1) HRR.out hgr ?_ (by omega) ((Rep.mk (by unfold inRange; omega) (by unfold inRange; omega) (by unfold inRange; omega) (by rw [HLEN.out]; exact HC9.out) (by rw [HLEN.out]; exact HRD.out.mono fun b hb=>⟨Nat.lt_of_lt_of_le HRW.out hb.1,hb.2⟩) (HRS.out.mono fun b hb=>⟨Nat.lt_of_lt_of_le HRW.out hb.1,hb.2⟩))) HMV.out HGV.out (acc2_node a (a + 0 + 1) a9 l l9 _ _ _ ts _ HAC.out.two (by omega) (by omega) (by omega) (by omega)) _ _ _ _)
  have hal:(ts.map isExpr).all id = true:=by rw [List.all_map]; exact HALL.out
  rw [isStmt_eq]
  simp only [stmtOf,hal]
  simp [btw,HLEN.out] <;> omega
 ·clear hx3
  go_wp2_with (first
   | (go_at_call 94; go_loud (refine (some_is L S A c g 1 HS.out (gexpr_is L S A c g HRL.out HLL.out HS.out 1) 2 _ _ _ HMV.out (HI.out.more HGV.out.size) (HL.out.keep (Keeps.gw HGV.out HI.out HS.out)) (by omega) (by omega) (by omega) (by omega) _ rfl).mono ?_; rintro e w9 ⟨ts,A9,c9,a9,l9,xs,rfl,hc9,hlen,hall,hrd,hrs,hm9,hg9,hacc9⟩; have HRW:=Lib.hid HZV.out.lt; have HC9:=Lib.hid hc9; have HLEN:=Lib.hid hlen; have HALL:=Lib.hid hall; have HRD:=Lib.hid hrd; have HRS:=Lib.hid hrs; have HAC:=Lib.hid hacc9; replace HGV:=Lib.hid (gw_trans HGV.out hg9); replace HZV:=Lib.hid (HZV.out.gw hg9 (by omega)); replace HMV:=Lib.hid hm9; clear hc9 hlen hall hrd hrs hm9 hg9 hacc9; clear z0 z1 z2 z3 f0 f1 f2 f3; have z0:=HZV.out.cell 0; have z1:=HZV.out.cell 1; have z2:=HZV.out.cell 2; have z3:=HZV.out.cell 3; have f0:=HZV.out.frozen 0; have f1:=HZV.out.frozen 1; have f2:=HZV.out.frozen 2; have f3:=HZV.out.frozen 3; simp only [List.getElem?_toArray,List.getElem?_cons_zero,List.getElem?_cons_succ] at z0 z1 z2 z3))
   | (go_at_call 42; go_loud (refine (num_is L S A c g _ _ _ _ HMV.out HS.out (HL.out.keep (Keeps.gw HGV.out HI.out HS.out)) HRL.out (by omega) HLL.out (by omega)).mono ?_; rintro e w2 ⟨rfl,hm9,hg9⟩; (try rw [HKC.out]); replace HGV:=Lib.hid (gw_trans HGV.out hg9); replace HZV:=Lib.hid (HZV.out.gw hg9 (by omega)); replace HMV:=Lib.hid hm9; clear hm9 hg9; clear z0 z1 z2 z3 f0 f1 f2 f3; have z0:=HZV.out.cell 0; have z1:=HZV.out.cell 1; have z2:=HZV.out.cell 2; have z3:=HZV.out.cell 3; have f0:=HZV.out.frozen 0; have f1:=HZV.out.frozen 1; have f2:=HZV.out.frozen 2; have f3:=HZV.out.frozen 3; simp only [List.getElem?_toArray,List.getElem?_cons_zero,List.getElem?_cons_succ] at z0 z1 z2 z3)))
  obtain ⟨hb6,hb3,hc3,hc4⟩:=HB.out
  refine bodyPost_ret (v:=.agg #[.int .i64 15,.int .i64 (numAt L (a + 1) 6),.int .i64 (0),.slice A9 ts.length c9]) (by simp [results,Tryd.results69,go_sem,z0,z1,z2,z3,HLEN.out]) rfl (GStmtPost.fin (t:=⟨15,numAt L (a + 1) 6,0,ts⟩) (A':=A9) (c':=c9) (a':=a9) (l':=l9) (R:=1 + 1 + 1) HRR.out hgr ?_ (by omega) ((Rep.mk (by unfold inRange; omega) (by unfold inRange; omega) (by unfold inRange; omega) (by rw [HLEN.out]; exact HC9.out) (by rw [HLEN.out]; exact HRD.out.mono fun b hb=>⟨Nat.lt_of_lt_of_le HRW.out hb.1,hb.2⟩) (HRS.out.mono fun b hb=>⟨Nat.lt_of_lt_of_le HRW.out hb.1,hb.2⟩))) HMV.out HGV.out (acc2_node a (a + 1 + 1) a9 l l9 _ _ _ ts _ HAC.out.two (by omega) (by omega) (by omega) (by omega)) _ _ _ _)
  have hal:(ts.map isExpr).all id = true:=by rw [List.all_map]; exact HALL.out
  rw [isStmt_eq]
  simp only [stmtOf,hal]
  simp [btw,HLEN.out] <;> omega
 ·clear hx3
  go_wp2_with (first
   | (go_at_call 94; go_loud (refine (some_is L S A c g 2 HS.out (gexpr_is L S A c g HRL.out HLL.out HS.out 2) 1 _ _ _ HMV.out (HI.out.more HGV.out.size) (HL.out.keep (Keeps.gw HGV.out HI.out HS.out)) (by omega) (by omega) (by omega) (by omega) _ rfl).mono ?_; rintro e w9 ⟨ts,A9,c9,a9,l9,xs,rfl,hc9,hlen,hall,hrd,hrs,hm9,hg9,hacc9⟩; have HRW:=Lib.hid HZV.out.lt; have HC9:=Lib.hid hc9; have HLEN:=Lib.hid hlen; have HALL:=Lib.hid hall; have HRD:=Lib.hid hrd; have HRS:=Lib.hid hrs; have HAC:=Lib.hid hacc9; replace HGV:=Lib.hid (gw_trans HGV.out hg9); replace HZV:=Lib.hid (HZV.out.gw hg9 (by omega)); replace HMV:=Lib.hid hm9; clear hc9 hlen hall hrd hrs hm9 hg9 hacc9; clear z0 z1 z2 z3 f0 f1 f2 f3; have z0:=HZV.out.cell 0; have z1:=HZV.out.cell 1; have z2:=HZV.out.cell 2; have z3:=HZV.out.cell 3; have f0:=HZV.out.frozen 0; have f1:=HZV.out.frozen 1; have f2:=HZV.out.frozen 2; have f3:=HZV.out.frozen 3; simp only [List.getElem?_toArray,List.getElem?_cons_zero,List.getElem?_cons_succ] at z0 z1 z2 z3))
   | (go_at_call 42; go_loud (refine (num_is L S A c g _ _ _ _ HMV.out HS.out (HL.out.keep (Keeps.gw HGV.out HI.out HS.out)) HRL.out (by omega) HLL.out (by omega)).mono ?_; rintro e w2 ⟨rfl,hm9,hg9⟩; (try rw [HKC.out]); replace HGV:=Lib.hid (gw_trans HGV.out hg9); replace HZV:=Lib.hid (HZV.out.gw hg9 (by omega)); replace HMV:=Lib.hid hm9; clear hm9 hg9; clear z0 z1 z2 z3 f0 f1 f2 f3; have z0:=HZV.out.cell 0; have z1:=HZV.out.cell 1; have z2:=HZV.out.cell 2; have z3:=HZV.out.cell 3; have f0:=HZV.out.frozen 0; have f1:=HZV.out.frozen 1; have f2:=HZV.out.frozen 2; have f3:=HZV.out.frozen 3; simp only [List.getElem?_toArray,List.getElem?_cons_zero,List.getElem?_cons_succ] at z0 z1 z2 z3)))
  obtain ⟨hb6,hb3,hc3,hc4⟩:=HB.out
  refine bodyPost_ret (v:=.agg #[.int .i64 16,.int .i64 (numAt L (a + 1) 6),.int .i64 (numAt L (a + 2) 3),.slice A9 ts.length c9]) (by simp [results,Tryd.results69,go_sem,z0,z1,z2,z3,HLEN.out]) rfl (GStmtPost.fin (t:=⟨16,numAt L (a + 1) 6,numAt L (a + 2) 3,ts⟩) (A':=A9) (c':=c9) (a':=a9) (l':=l9) (R:=2 + 1 + 1) HRR.out hgr ?_ (by omega) ((Rep.mk (by unfold inRange; omega) (by unfold inRange; omega) (by unfold inRange; omega) (by rw [HLEN.out]; exact HC9.out) (by rw [HLEN.out]; exact HRD.out.mono fun b hb=>⟨Nat.lt_of_lt_of_le HRW.out hb.1,hb.2⟩) (HRS.out.mono fun b hb=>⟨Nat.lt_of_lt_of_le HRW.out hb.1,hb.2⟩))) HMV.out HGV.out (acc2_node a (a + 2 + 1) a9 l l9 _ _ _ ts _ HAC.out.two (by omega) (by omega) (by omega) (by omega)) _ _ _ _)
  have hal:(ts.map isExpr).all id = true:=by rw [List.all_map]; exact HALL.out
  rw [isStmt_eq]
  simp only [stmtOf,hal]
  simp [btw,HLEN.out] <;> omega
 ·clear hx3
  go_wp2_with (first
   | (go_at_call 42; go_loud (refine (num_is L S A c g _ _ _ _ HMV.out HS.out (HL.out.keep (Keeps.gw HGV.out HI.out HS.out)) HRL.out (by omega) HLL.out (by omega)).mono ?_; rintro e w2 ⟨rfl,hm9,hg9⟩; (try rw [HKC.out]); replace HGV:=Lib.hid (gw_trans HGV.out hg9); replace HZV:=Lib.hid (HZV.out.gw hg9 (by omega)); replace HMV:=Lib.hid hm9; clear hm9 hg9; clear z0 z1 z2 z3 f0 f1 f2 f3; have z0:=HZV.out.cell 0; have z1:=HZV.out.cell 1; have z2:=HZV.out.cell 2; have z3:=HZV.out.cell 3; have f0:=HZV.out.frozen 0; have f1:=HZV.out.frozen 1; have f2:=HZV.out.frozen 2; have f3:=HZV.out.frozen 3; simp only [List.getElem?_toArray,List.getElem?_cons_zero,List.getElem?_cons_succ] at z0 z1 z2 z3)))
  obtain ⟨hb6,hb3,hc3,hc4⟩:=HB.out
  refine bodyPost_ret (v:=.agg #[.int .i64 25,.int .i64 (0),.int .i64 (0),.slice none 0 0]) (by simp [results,Tryd.results69,go_sem,z0,z1,z2,z3]) rfl (GStmtPost.fin (t:=⟨25,0,0,[]⟩) (A':=none) (c':=0) (a':=a + 0 + 1) (l':=l - 1) (R:=0 + 1) HRR.out hgr ?_ (by omega) (Rep.leaf (by unfold inRange; omega) (by unfold inRange; omega) (by unfold inRange; omega) _ _) HMV.out HGV.out (acc2_leaf _ _ _ _ (by rw [size_eq]; rfl) (by omega) (by omega) (by omega)) _ _ _ _)
  rw [isStmt_eq]
  simp [stmtOf,btw]
 ·clear hx3
  obtain ⟨kc,hkc⟩:∃ kc:Nat,numAt L (a + 2) 4 = (kc:Int):=⟨(numAt L (a + 2) 4).toNat,by have:=HB.out.2.2.2; omega⟩
  have hkc3:kc≤3:=by have:=HB.out.2.2.2; omega
  have HKC:=Lib.hid hkc
  clear hkc
  go_wp2_with (first
   | (go_at_call 94; go_loud (refine (some_is L S A c g 1 HS.out (gexpr_is L S A c g HRL.out HLL.out HS.out 1) kc _ _ _ HMV.out (HI.out.more HGV.out.size) (HL.out.keep (Keeps.gw HGV.out HI.out HS.out)) (by omega) (by omega) (by omega) (by omega) _ rfl).mono ?_; rintro e w9 ⟨ts,A9,c9,a9,l9,xs,rfl,hc9,hlen,hall,hrd,hrs,hm9,hg9,hacc9⟩; have HRW:=Lib.hid HZV.out.lt; have HC9:=Lib.hid hc9; have HLEN:=Lib.hid hlen; have HALL:=Lib.hid hall; have HRD:=Lib.hid hrd; have HRS:=Lib.hid hrs; have HAC:=Lib.hid hacc9; replace HGV:=Lib.hid (gw_trans HGV.out hg9); replace HZV:=Lib.hid (HZV.out.gw hg9 (by omega)); replace HMV:=Lib.hid hm9; clear hc9 hlen hall hrd hrs hm9 hg9 hacc9; clear z0 z1 z2 z3 f0 f1 f2 f3; have z0:=HZV.out.cell 0; have z1:=HZV.out.cell 1; have z2:=HZV.out.cell 2; have z3:=HZV.out.cell 3; have f0:=HZV.out.frozen 0; have f1:=HZV.out.frozen 1; have f2:=HZV.out.frozen 2; have f3:=HZV.out.frozen 3; simp only [List.getElem?_toArray,List.getElem?_cons_zero,List.getElem?_cons_succ] at z0 z1 z2 z3))
   | (go_at_call 42; go_loud (refine (num_is L S A c g _ _ _ _ HMV.out HS.out (HL.out.keep (Keeps.gw HGV.out HI.out HS.out)) HRL.out (by omega) HLL.out (by omega)).mono ?_; rintro e w2 ⟨rfl,hm9,hg9⟩; (try rw [HKC.out]); replace HGV:=Lib.hid (gw_trans HGV.out hg9); replace HZV:=Lib.hid (HZV.out.gw hg9 (by omega)); replace HMV:=Lib.hid hm9; clear hm9 hg9; clear z0 z1 z2 z3 f0 f1 f2 f3; have z0:=HZV.out.cell 0; have z1:=HZV.out.cell 1; have z2:=HZV.out.cell 2; have z3:=HZV.out.cell 3; have f0:=HZV.out.frozen 0; have f1:=HZV.out.frozen 1; have f2:=HZV.out.frozen 2; have f3:=HZV.out.frozen 3; simp only [List.getElem?_toArray,List.getElem?_cons_zero,List.getElem?_cons_succ] at z0 z1 z2 z3)))
  obtain ⟨hb6,hb3,hc3,hc4⟩:=HB.out
  refine bodyPost_ret (v:=.agg #[.int .i64 23,.int .i64 (numAt L (a + 1) 6),.int .i64 (0),.slice A9 ts.length c9]) (by simp [results,Tryd.results69,go_sem,z0,z1,z2,z3,HLEN.out]) rfl (GStmtPost.fin (t:=⟨23,numAt L (a + 1) 6,0,ts⟩) (A':=A9) (c':=c9) (a':=a9) (l':=l9) (R:=1 + 1 + 1) HRR.out hgr ?_ (by omega) ((Rep.mk (by unfold inRange; omega) (by unfold inRange; omega) (by unfold inRange; omega) (by rw [HLEN.out]; exact HC9.out) (by rw [HLEN.out]; exact HRD.out.mono fun b hb=>⟨Nat.lt_of_lt_of_le HRW.out hb.1,hb.2⟩) (HRS.out.mono fun b hb=>⟨Nat.lt_of_lt_of_le HRW.out hb.1,hb.2⟩))) HMV.out HGV.out (acc2_node a (a + 2 + 1) a9 l l9 _ _ _ ts _ HAC.out.two (by omega) (by omega) (by omega) (by omega)) _ _ _ _)
  have hal:(ts.map isExpr).all id = true:=by rw [List.all_map]; exact HALL.out
  rw [isStmt_eq]
  simp only [stmtOf,hal]
  simp [btw,HLEN.out] <;> omega
 ·have hd2:=hx3 (by omega)
  clear hx3
  obtain ⟨dd,hdd⟩:∃ dd,d = dd + 2:=⟨d - 2,by omega⟩
  subst hdd
  have HBB:Hid (GBlockC L S A c g dd):=Lib.hid (HE.out dd rfl).1
  have HDE:Hid (D - 1 = (dd:Int)):=Lib.hid (by have:=HD.out; omega)
  have hDw:IntKind.i64.wrap (D - 1) = D - 1:=by rw [IntKind.wrap_i64]; have:=HD.out; omega
  go_wp2_with (first
   | (go_at_call 43; have hm:=HK2; clear hm; go_loud (refine (HBB.out _ _ _ HMV.out (HI.out.more HGV.out.size) (HL.out.keep (Keeps.gw HGV.out HI.out HS.out)) (by have q1:=HC1.out; cases q1; have q2:=HC2.out; cases q2; omega) (by have q1:=HC1.out; cases q1; have q2:=HC2.out; cases q2; omega) (by have q1:=HC1.out; cases q1; have q2:=HC2.out; cases q2; omega) _ HDE.out).mono ?_; rintro e w9 ⟨t3,A3,c3,a3,l3,rfl,he1,hr1,hm9,hg9,hacc1,hx1,hx2⟩; have HRW:=HZV.out.lt; have HK3:Hid (Kid r w9 (5 + dd) t3 A3 c3):=Lib.hid (hr1.mono fun b hb=>⟨Nat.lt_of_lt_of_le HRW hb.1,hb.2⟩); have HE3:=Lib.hid he1; have HC3:=Lib.hid hacc1; replace HK1:=Lib.hid (HK1.out.gw hg9 hgr); replace HK2:=Lib.hid (HK2.out.gw hg9 hgr); replace HGV:=Lib.hid (gw_trans HGV.out hg9); replace HZV:=Lib.hid (HZV.out.gw hg9 (by omega)); replace HMV:=Lib.hid hm9; clear HRW he1 hr1 hm9 hg9 hacc1 hx1 hx2; have HZA:=Lib.hid (HZV.out.alloc (.cells #[.int .i64 t1.k,.int .i64 t1.n,.int .i64 t1.m,.slice A1 t1.kids.length c1,.int .i64 t2.k,.int .i64 t2.n,.int .i64 t2.m,.slice A2 t2.kids.length c2,.int .i64 t3.k,.int .i64 t3.n,.int .i64 t3.m,.slice A3 t3.kids.length c3] 25)); clear z0 z1 z2 z3 f0 f1 f2 f3; have z0:=HZA.out.cell 0; have z1:=HZA.out.cell 1; have z2:=HZA.out.cell 2; have z3:=HZA.out.cell 3; have f0:=HZA.out.frozen 0; have f1:=HZA.out.frozen 1; have f2:=HZA.out.frozen 2; have f3:=HZA.out.frozen 3; simp only [List.getElem?_toArray,List.getElem?_cons_zero,List.getElem?_cons_succ] at z0 z1 z2 z3))
   | (go_at_call 43; have hm:=HK1; clear hm; go_loud (refine (HBB.out _ _ _ HMV.out (HI.out.more HGV.out.size) (HL.out.keep (Keeps.gw HGV.out HI.out HS.out)) (by have q1:=HC1.out; cases q1; omega) (by have q1:=HC1.out; cases q1; omega) (by have q1:=HC1.out; cases q1; omega) _ HDE.out).mono ?_; rintro e w9 ⟨t2,A2,c2,a2,l2,rfl,he1,hr1,hm9,hg9,hacc1,hx1,hx2⟩; have HRW:=HZV.out.lt; have HK2:Hid (Kid r w9 (5 + dd) t2 A2 c2):=Lib.hid (hr1.mono fun b hb=>⟨Nat.lt_of_lt_of_le HRW hb.1,hb.2⟩); have HE2:=Lib.hid he1; have HC2:=Lib.hid hacc1; replace HK1:=Lib.hid (HK1.out.gw hg9 hgr); replace HGV:=Lib.hid (gw_trans HGV.out hg9); replace HZV:=Lib.hid (HZV.out.gw hg9 (by omega)); replace HMV:=Lib.hid hm9; clear HRW he1 hr1 hm9 hg9 hacc1 hx1 hx2; clear z0 z1 z2 z3 f0 f1 f2 f3; have z0:=HZV.out.cell 0; have z1:=HZV.out.cell 1; have z2:=HZV.out.cell 2; have z3:=HZV.out.cell 3; have f0:=HZV.out.frozen 0; have f1:=HZV.out.frozen 1; have f2:=HZV.out.frozen 2; have f3:=HZV.out.frozen 3; simp only [List.getElem?_toArray,List.getElem?_cons_zero,List.getElem?_cons_succ] at z0 z1 z2 z3))
   | (go_at_call 95; go_loud (refine (gexpr_is L S A c g HRL.out HLL.out HS.out 2 _ _ _ HMV.out (HI.out.more HGV.out.size) (HL.out.keep (Keeps.gw HGV.out HI.out HS.out)) (by omega) (by omega) (by omega) 2 rfl).mono ?_; rintro e w9 ⟨t1,A1,c1,a1,l1,rfl,he1,hr1,hm9,hg9,hacc1⟩; have HRW:=HZV.out.lt; have HK1:Hid (Kid r w9 3 t1 A1 c1):=Lib.hid (hr1.mono fun b hb=>⟨Nat.lt_of_lt_of_le HRW hb.1,hb.2⟩); have HE1:=Lib.hid he1; have HC1:=Lib.hid hacc1.two; replace HGV:=Lib.hid (gw_trans HGV.out hg9); replace HZV:=Lib.hid (HZV.out.gw hg9 (by omega)); replace HMV:=Lib.hid hm9; clear HRW he1 hr1 hm9 hg9 hacc1; clear z0 z1 z2 z3 f0 f1 f2 f3; have z0:=HZV.out.cell 0; have z1:=HZV.out.cell 1; have z2:=HZV.out.cell 2; have z3:=HZV.out.cell 3; have f0:=HZV.out.frozen 0; have f1:=HZV.out.frozen 1; have f2:=HZV.out.frozen 2; have f3:=HZV.out.frozen 3; simp only [List.getElem?_toArray,List.getElem?_cons_zero,List.getElem?_cons_succ] at z0 z1 z2 z3))
   | (go_at_call 42; go_loud (refine (num_is L S A c g _ _ _ _ HMV.out HS.out (HL.out.keep (Keeps.gw HGV.out HI.out HS.out)) HRL.out (by omega) HLL.out (by omega)).mono ?_; rintro e w2 ⟨rfl,hm9,hg9⟩; (try rw [HKC.out]); replace HGV:=Lib.hid (gw_trans HGV.out hg9); replace HZV:=Lib.hid (HZV.out.gw hg9 (by omega)); replace HMV:=Lib.hid hm9; clear hm9 hg9; clear z0 z1 z2 z3 f0 f1 f2 f3; have z0:=HZV.out.cell 0; have z1:=HZV.out.cell 1; have z2:=HZV.out.cell 2; have z3:=HZV.out.cell 3; have f0:=HZV.out.frozen 0; have f1:=HZV.out.frozen 1; have f2:=HZV.out.frozen 2; have f3:=HZV.out.frozen 3; simp only [List.getElem?_toArray,List.getElem?_cons_zero,List.getElem?_cons_succ] at z0 z1 z2 z3)))
  obtain ⟨hb6,hb3,hc3,hc4⟩:=HB.out
  have hkr:=kids_row HZV.out.lt (Reps.snoc (Reps.snoc (Reps.one (HK1.out.deeper (show _≤5 + dd by omega))) HK2.out) HK3.out)
  refine bodyPost_ret (v:=.agg #[.int .i64 17,.int .i64 (0),.int .i64 (0),.slice (some ⟨w9.heap.size,0,none⟩) 3 3]) (by simp [results,Tryd.results69,go_sem,z0,z1,z2,z3]) rfl (GStmtPost.fin (t:=⟨17,0,0,[t1,t2,t3]⟩) (A':=_) (c':=3) (a':=a3) (l':=l3) (R:=5 + dd + 1) HRR.out hgr ?_ (by omega) (Rep.mk (by unfold inRange; omega) (by unfold inRange; omega) (by unfold inRange; omega) (Nat.le_refl _) hkr.1 hkr.2) (HMV.out.alloc _) (gw_alloc HGV.out _) (acc2_node a (a + 0 + 1) a3 l l3 _ _ _ [t1,t2,t3] 3 (by have h:=((HC1.out).add HC2.out).add HC3.out; simpa [Nat.add_assoc] using h) (by omega) (by omega) (by omega) (by omega)) _ _ _ _)
  rw [isStmt_eq]
  simp [stmtOf,btw,kidB,HE1.out,HE2.out,HE3.out] <;> omega
 ·have hd2:=hx3 (by omega)
  clear hx3
  obtain ⟨dd,hdd⟩:∃ dd,d = dd + 2:=⟨d - 2,by omega⟩
  subst hdd
  have HBB:Hid (GBlockC L S A c g dd):=Lib.hid (HE.out dd rfl).1
  have HDE:Hid (D - 1 = (dd:Int)):=Lib.hid (by have:=HD.out; omega)
  have hDw:IntKind.i64.wrap (D - 1) = D - 1:=by rw [IntKind.wrap_i64]; have:=HD.out; omega
  go_wp2_with (first
   | (go_at_call 43; have hm:=HK2; clear hm; go_loud (refine (HBB.out _ _ _ HMV.out (HI.out.more HGV.out.size) (HL.out.keep (Keeps.gw HGV.out HI.out HS.out)) (by have q1:=HC1.out; cases q1; have q2:=HC2.out; cases q2; omega) (by have q1:=HC1.out; cases q1; have q2:=HC2.out; cases q2; omega) (by have q1:=HC1.out; cases q1; have q2:=HC2.out; cases q2; omega) _ HDE.out).mono ?_; rintro e w9 ⟨t3,A3,c3,a3,l3,rfl,he1,hr1,hm9,hg9,hacc1,hx1,hx2⟩; have HRW:=HZV.out.lt; have HK3:Hid (Kid r w9 (5 + dd) t3 A3 c3):=Lib.hid (hr1.mono fun b hb=>⟨Nat.lt_of_lt_of_le HRW hb.1,hb.2⟩); have HE3:=Lib.hid he1; have HC3:=Lib.hid hacc1; replace HK1:=Lib.hid (HK1.out.gw hg9 hgr); replace HK2:=Lib.hid (HK2.out.gw hg9 hgr); replace HGV:=Lib.hid (gw_trans HGV.out hg9); replace HZV:=Lib.hid (HZV.out.gw hg9 (by omega)); replace HMV:=Lib.hid hm9; clear HRW he1 hr1 hm9 hg9 hacc1 hx1 hx2; have HZA:=Lib.hid (HZV.out.alloc (.cells #[.int .i64 t1.k,.int .i64 t1.n,.int .i64 t1.m,.slice A1 t1.kids.length c1,.int .i64 t2.k,.int .i64 t2.n,.int .i64 t2.m,.slice A2 t2.kids.length c2,.int .i64 t3.k,.int .i64 t3.n,.int .i64 t3.m,.slice A3 t3.kids.length c3] 25)); clear z0 z1 z2 z3 f0 f1 f2 f3; have z0:=HZA.out.cell 0; have z1:=HZA.out.cell 1; have z2:=HZA.out.cell 2; have z3:=HZA.out.cell 3; have f0:=HZA.out.frozen 0; have f1:=HZA.out.frozen 1; have f2:=HZA.out.frozen 2; have f3:=HZA.out.frozen 3; simp only [List.getElem?_toArray,List.getElem?_cons_zero,List.getElem?_cons_succ] at z0 z1 z2 z3))
   | (go_at_call 43; have hm:=HK1; clear hm; go_loud (refine (HBB.out _ _ _ HMV.out (HI.out.more HGV.out.size) (HL.out.keep (Keeps.gw HGV.out HI.out HS.out)) (by have q1:=HC1.out; cases q1; omega) (by have q1:=HC1.out; cases q1; omega) (by have q1:=HC1.out; cases q1; omega) _ HDE.out).mono ?_; rintro e w9 ⟨t2,A2,c2,a2,l2,rfl,he1,hr1,hm9,hg9,hacc1,hx1,hx2⟩; have HRW:=HZV.out.lt; have HK2:Hid (Kid r w9 (5 + dd) t2 A2 c2):=Lib.hid (hr1.mono fun b hb=>⟨Nat.lt_of_lt_of_le HRW hb.1,hb.2⟩); have HE2:=Lib.hid he1; have HC2:=Lib.hid hacc1; replace HK1:=Lib.hid (HK1.out.gw hg9 hgr); replace HGV:=Lib.hid (gw_trans HGV.out hg9); replace HZV:=Lib.hid (HZV.out.gw hg9 (by omega)); replace HMV:=Lib.hid hm9; clear HRW he1 hr1 hm9 hg9 hacc1 hx1 hx2; clear z0 z1 z2 z3 f0 f1 f2 f3; have z0:=HZV.out.cell 0; have z1:=HZV.out.cell 1; have z2:=HZV.out.cell 2; have z3:=HZV.out.cell 3; have f0:=HZV.out.frozen 0; have f1:=HZV.out.frozen 1; have f2:=HZV.out.frozen 2; have f3:=HZV.out.frozen 3; simp only [List.getElem?_toArray,List.getElem?_cons_zero,List.getElem?_cons_succ] at z0 z1 z2 z3))
   | (go_at_call 95; go_loud (refine (gexpr_is L S A c g HRL.out HLL.out HS.out 2 _ _ _ HMV.out (HI.out.more HGV.out.size) (HL.out.keep (Keeps.gw HGV.out HI.out HS.out)) (by omega) (by omega) (by omega) 2 rfl).mono ?_; rintro e w9 ⟨t1,A1,c1,a1,l1,rfl,he1,hr1,hm9,hg9,hacc1⟩; have HRW:=HZV.out.lt; have HK1:Hid (Kid r w9 3 t1 A1 c1):=Lib.hid (hr1.mono fun b hb=>⟨Nat.lt_of_lt_of_le HRW hb.1,hb.2⟩); have HE1:=Lib.hid he1; have HC1:=Lib.hid hacc1.two; replace HGV:=Lib.hid (gw_trans HGV.out hg9); replace HZV:=Lib.hid (HZV.out.gw hg9 (by omega)); replace HMV:=Lib.hid hm9; clear HRW he1 hr1 hm9 hg9 hacc1; clear z0 z1 z2 z3 f0 f1 f2 f3; have z0:=HZV.out.cell 0; have z1:=HZV.out.cell 1; have z2:=HZV.out.cell 2; have z3:=HZV.out.cell 3; have f0:=HZV.out.frozen 0; have f1:=HZV.out.frozen 1; have f2:=HZV.out.frozen 2; have f3:=HZV.out.frozen 3; simp only [List.getElem?_toArray,List.getElem?_cons_zero,List.getElem?_cons_succ] at z0 z1 z2 z3))
   | (go_at_call 42; go_loud (refine (num_is L S A c g _ _ _ _ HMV.out HS.out (HL.out.keep (Keeps.gw HGV.out HI.out HS.out)) HRL.out (by omega) HLL.out (by omega)).mono ?_; rintro e w2 ⟨rfl,hm9,hg9⟩; (try rw [HKC.out]); replace HGV:=Lib.hid (gw_trans HGV.out hg9); replace HZV:=Lib.hid (HZV.out.gw hg9 (by omega)); replace HMV:=Lib.hid hm9; clear hm9 hg9; clear z0 z1 z2 z3 f0 f1 f2 f3; have z0:=HZV.out.cell 0; have z1:=HZV.out.cell 1; have z2:=HZV.out.cell 2; have z3:=HZV.out.cell 3; have f0:=HZV.out.frozen 0; have f1:=HZV.out.frozen 1; have f2:=HZV.out.frozen 2; have f3:=HZV.out.frozen 3; simp only [List.getElem?_toArray,List.getElem?_cons_zero,List.getElem?_cons_succ] at z0 z1 z2 z3)))
  obtain ⟨hb6,hb3,hc3,hc4⟩:=HB.out
  have hkr:=kids_row HZV.out.lt (Reps.snoc (Reps.snoc (Reps.one (HK1.out.deeper (show _≤5 + dd by omega))) HK2.out) HK3.out)
  refine bodyPost_ret (v:=.agg #[.int .i64 17,.int .i64 (0),.int .i64 (0),.slice (some ⟨w9.heap.size,0,none⟩) 3 3]) (by simp [results,Tryd.results69,go_sem,z0,z1,z2,z3]) rfl (GStmtPost.fin (t:=⟨17,0,0,[t1,t2,t3]⟩) (A':=_) (c':=3) (a':=a3) (l':=l3) (R:=5 + dd + 1) HRR.out hgr ?_ (by omega) (Rep.mk (by unfold inRange; omega) (by unfold inRange; omega) (by unfold inRange; omega) (Nat.le_refl _) hkr.1 hkr.2) (HMV.out.alloc _) (gw_alloc HGV.out _) (acc2_node a (a + 0 + 1) a3 l l3 _ _ _ [t1,t2,t3] 3 (by have h:=((HC1.out).add HC2.out).add HC3.out; simpa [Nat.add_assoc] using h) (by omega) (by omega) (by omega) (by omega)) _ _ _ _)
  rw [isStmt_eq]
  simp [stmtOf,btw,kidB,HE1.out,HE2.out,HE3.out] <;> omega
 ·have hd2:=hx3 (by omega)
  clear hx3
  obtain ⟨dd,hdd⟩:∃ dd,d = dd + 2:=⟨d - 2,by omega⟩
  subst hdd
  have HBB:Hid (GBlockC L S A c g dd):=Lib.hid (HE.out dd rfl).1
  have HDE:Hid (D - 1 = (dd:Int)):=Lib.hid (by have:=HD.out; omega)
  have hDw:IntKind.i64.wrap (D - 1) = D - 1:=by rw [IntKind.wrap_i64]; have:=HD.out; omega
  go_wp2_with (first
   | (go_at_call 43; have hm:=HK1; clear hm; go_loud (refine (HBB.out _ _ _ HMV.out (HI.out.more HGV.out.size) (HL.out.keep (Keeps.gw HGV.out HI.out HS.out)) (by have q1:=HC1.out; cases q1; omega) (by have q1:=HC1.out; cases q1; omega) (by have q1:=HC1.out; cases q1; omega) _ HDE.out).mono ?_; rintro e w9 ⟨t2,A2,c2,a2,l2,rfl,he1,hr1,hm9,hg9,hacc1,hx1,hx2⟩; have HRW:=HZV.out.lt; have HK2:Hid (Kid r w9 (5 + dd) t2 A2 c2):=Lib.hid (hr1.mono fun b hb=>⟨Nat.lt_of_lt_of_le HRW hb.1,hb.2⟩); have HE2:=Lib.hid he1; have HC2:=Lib.hid hacc1; replace HK1:=Lib.hid (HK1.out.gw hg9 hgr); replace HGV:=Lib.hid (gw_trans HGV.out hg9); replace HZV:=Lib.hid (HZV.out.gw hg9 (by omega)); replace HMV:=Lib.hid hm9; clear HRW he1 hr1 hm9 hg9 hacc1 hx1 hx2; have HZA:=Lib.hid (HZV.out.alloc (.cells #[.int .i64 t1.k,.int .i64 t1.n,.int .i64 t1.m,.slice A1 t1.kids.length c1,.int .i64 t2.k,.int .i64 t2.n,.int .i64 t2.m,.slice A2 t2.kids.length c2] 25)); clear z0 z1 z2 z3 f0 f1 f2 f3; have z0:=HZA.out.cell 0; have z1:=HZA.out.cell 1; have z2:=HZA.out.cell 2; have z3:=HZA.out.cell 3; have f0:=HZA.out.frozen 0; have f1:=HZA.out.frozen 1; have f2:=HZA.out.frozen 2; have f3:=HZA.out.frozen 3; simp only [List.getElem?_toArray,List.getElem?_cons_zero,List.getElem?_cons_succ] at z0 z1 z2 z3))
   | (go_at_call 95; go_loud (refine (gexpr_is L S A c g HRL.out HLL.out HS.out 2 _ _ _ HMV.out (HI.out.more HGV.out.size) (HL.out.keep (Keeps.gw HGV.out HI.out HS.out)) (by omega) (by omega) (by omega) 2 rfl).mono ?_; rintro e w9 ⟨t1,A1,c1,a1,l1,rfl,he1,hr1,hm9,hg9,hacc1⟩; have HRW:=HZV.out.lt; have HK1:Hid (Kid r w9 3 t1 A1 c1):=Lib.hid (hr1.mono fun b hb=>⟨Nat.lt_of_lt_of_le HRW hb.1,hb.2⟩); have HE1:=Lib.hid he1; have HC1:=Lib.hid hacc1.two; replace HGV:=Lib.hid (gw_trans HGV.out hg9); replace HZV:=Lib.hid (HZV.out.gw hg9 (by omega)); replace HMV:=Lib.hid hm9; clear HRW he1 hr1 hm9 hg9 hacc1; clear z0 z1 z2 z3 f0 f1 f2 f3; have z0:=HZV.out.cell 0; have z1:=HZV.out.cell 1; have z2:=HZV.out.cell 2; have z3:=HZV.out.cell 3; have f0:=HZV.out.frozen 0; have f1:=HZV.out.frozen 1; have f2:=HZV.out.frozen 2; have f3:=HZV.out.frozen 3; simp only [List.getElem?_toArray,List.getElem?_cons_zero,List.getElem?_cons_succ] at z0 z1 z2 z3))
   | (go_at_call 42; go_loud (refine (num_is L S A c g _ _ _ _ HMV.out HS.out (HL.out.keep (Keeps.gw HGV.out HI.out HS.out)) HRL.out (by omega) HLL.out (by omega)).mono ?_; rintro e w2 ⟨rfl,hm9,hg9⟩; (try rw [HKC.out]); replace HGV:=Lib.hid (gw_trans HGV.out hg9); replace HZV:=Lib.hid (HZV.out.gw hg9 (by omega)); replace HMV:=Lib.hid hm9; clear hm9 hg9; clear z0 z1 z2 z3 f0 f1 f2 f3; have z0:=HZV.out.cell 0; have z1:=HZV.out.cell 1; have z2:=HZV.out.cell 2; have z3:=HZV.out.cell 3; have f0:=HZV.out.frozen 0; have f1:=HZV.out.frozen 1; have f2:=HZV.out.frozen 2; have f3:=HZV.out.frozen 3; simp only [List.getElem?_toArray,List.getElem?_cons_zero,List.getElem?_cons_succ] at z0 z1 z2 z3)))
  obtain ⟨hb6,hb3,hc3,hc4⟩:=HB.out
  have hkr:=kids_row HZV.out.lt (Reps.snoc (Reps.one (HK1.out.deeper (show _≤5 + dd by omega))) HK2.out)
  refine bodyPost_ret (v:=.agg #[.int .i64 18,.int .i64 (0),.int .i64 (0),.slice (some ⟨w9.heap.size,0,none⟩) 2 2]) (by simp [results,Tryd.results69,go_sem,z0,z1,z2,z3]) rfl (GStmtPost.fin (t:=⟨18,0,0,[t1,t2]⟩) (A':=_) (c':=2) (a':=a2) (l':=l2) (R:=5 + dd + 1) HRR.out hgr ?_ (by omega) (Rep.mk (by unfold inRange; omega) (by unfold inRange; omega) (by unfold inRange; omega) (Nat.le_refl _) hkr.1 hkr.2) (HMV.out.alloc _) (gw_alloc HGV.out _) (acc2_node a (a + 0 + 1) a2 l l2 _ _ _ [t1,t2] 2 (by have h:=(HC1.out).add HC2.out; simpa [Nat.add_assoc] using h) (by omega) (by omega) (by omega) (by omega)) _ _ _ _)
  rw [isStmt_eq]
  simp [stmtOf,btw,kidB,HE1.out,HE2.out] <;> omega
 ·have hd2:=hx3 (by omega)
  clear hx3
  obtain ⟨dd,hdd⟩:∃ dd,d = dd + 2:=⟨d - 2,by omega⟩
  subst hdd
  have HBB:Hid (GBlockC L S A c g dd):=Lib.hid (HE.out dd rfl).1
  have HDE:Hid (D - 1 = (dd:Int)):=Lib.hid (by have:=HD.out; omega)
  have hDw:IntKind.i64.wrap (D - 1) = D - 1:=by rw [IntKind.wrap_i64]; have:=HD.out; omega
  go_wp2_with (first
   | (go_at_call 43; have hm:=HK1; clear hm; go_loud (refine (HBB.out _ _ _ HMV.out (HI.out.more HGV.out.size) (HL.out.keep (Keeps.gw HGV.out HI.out HS.out)) (by have q1:=HC1.out; cases q1; omega) (by have q1:=HC1.out; cases q1; omega) (by have q1:=HC1.out; cases q1; omega) _ HDE.out).mono ?_; rintro e w9 ⟨t2,A2,c2,a2,l2,rfl,he1,hr1,hm9,hg9,hacc1,hx1,hx2⟩; have HRW:=HZV.out.lt; have HK2:Hid (Kid r w9 (5 + dd) t2 A2 c2):=Lib.hid (hr1.mono fun b hb=>⟨Nat.lt_of_lt_of_le HRW hb.1,hb.2⟩); have HE2:=Lib.hid he1; have HC2:=Lib.hid hacc1; replace HK1:=Lib.hid (HK1.out.gw hg9 hgr); replace HGV:=Lib.hid (gw_trans HGV.out hg9); replace HZV:=Lib.hid (HZV.out.gw hg9 (by omega)); replace HMV:=Lib.hid hm9; clear HRW he1 hr1 hm9 hg9 hacc1 hx1 hx2; have HZA:=Lib.hid (HZV.out.alloc (.cells #[.int .i64 t1.k,.int .i64 t1.n,.int .i64 t1.m,.slice A1 t1.kids.length c1,.int .i64 t2.k,.int .i64 t2.n,.int .i64 t2.m,.slice A2 t2.kids.length c2] 25)); clear z0 z1 z2 z3 f0 f1 f2 f3; have z0:=HZA.out.cell 0; have z1:=HZA.out.cell 1; have z2:=HZA.out.cell 2; have z3:=HZA.out.cell 3; have f0:=HZA.out.frozen 0; have f1:=HZA.out.frozen 1; have f2:=HZA.out.frozen 2; have f3:=HZA.out.frozen 3; simp only [List.getElem?_toArray,List.getElem?_cons_zero,List.getElem?_cons_succ] at z0 z1 z2 z3))
   | (go_at_call 43; go_loud (refine (HBB.out _ _ _ HMV.out (HI.out.more HGV.out.size) (HL.out.keep (Keeps.gw HGV.out HI.out HS.out)) (by omega) (by omega) (by omega) _ HDE.out).mono ?_; rintro e w9 ⟨t1,A1,c1,a1,l1,rfl,he1,hr1,hm9,hg9,hacc1,hx1,hx2⟩; have HRW:=HZV.out.lt; have HK1:Hid (Kid r w9 (5 + dd) t1 A1 c1):=Lib.hid (hr1.mono fun b hb=>⟨Nat.lt_of_lt_of_le HRW hb.1,hb.2⟩); have HE1:=Lib.hid he1; have HC1:=Lib.hid hacc1; replace HGV:=Lib.hid (gw_trans HGV.out hg9); replace HZV:=Lib.hid (HZV.out.gw hg9 (by omega)); replace HMV:=Lib.hid hm9; clear HRW he1 hr1 hm9 hg9 hacc1 hx1 hx2; clear z0 z1 z2 z3 f0 f1 f2 f3; have z0:=HZV.out.cell 0; have z1:=HZV.out.cell 1; have z2:=HZV.out.cell 2; have z3:=HZV.out.cell 3; have f0:=HZV.out.frozen 0; have f1:=HZV.out.frozen 1; have f2:=HZV.out.frozen 2; have f3:=HZV.out.frozen 3; simp only [List.getElem?_toArray,List.getElem?_cons_zero,List.getElem?_cons_succ] at z0 z1 z2 z3))
   | (go_at_call 42; go_loud (refine (num_is L S A c g _ _ _ _ HMV.out HS.out (HL.out.keep (Keeps.gw HGV.out HI.out HS.out)) HRL.out (by omega) HLL.out (by omega)).mono ?_; rintro e w2 ⟨rfl,hm9,hg9⟩; (try rw [HKC.out]); replace HGV:=Lib.hid (gw_trans HGV.out hg9); replace HZV:=Lib.hid (HZV.out.gw hg9 (by omega)); replace HMV:=Lib.hid hm9; clear hm9 hg9; clear z0 z1 z2 z3 f0 f1 f2 f3; have z0:=HZV.out.cell 0; have z1:=HZV.out.cell 1; have z2:=HZV.out.cell 2; have z3:=HZV.out.cell 3; have f0:=HZV.out.frozen 0; have f1:=HZV.out.frozen 1; have f2:=HZV.out.frozen 2; have f3:=HZV.out.frozen 3; simp only [List.getElem?_toArray,List.getElem?_cons_zero,List.getElem?_cons_succ] at z0 z1 z2 z3)))
  obtain ⟨hb6,hb3,hc3,hc4⟩:=HB.out
  have hkr:=kids_row HZV.out.lt (Reps.snoc (Reps.one (HK1.out.deeper (show _≤5 + dd by omega))) HK2.out)
  refine bodyPost_ret (v:=.agg #[.int .i64 21,.int .i64 (numAt L (a + 1) 6),.int .i64 (0),.slice (some ⟨w9.heap.size,0,none⟩) 2 2]) (by simp [results,Tryd.results69,go_sem,z0,z1,z2,z3]) rfl (GStmtPost.fin (t:=⟨21,numAt L (a + 1) 6,0,[t1,t2]⟩) (A':=_) (c':=2) (a':=a2) (l':=l2) (R:=5 + dd + 1) HRR.out hgr ?_ (by omega) (Rep.mk (by unfold inRange; omega) (by unfold inRange; omega) (by unfold inRange; omega) (Nat.le_refl _) hkr.1 hkr.2) (HMV.out.alloc _) (gw_alloc HGV.out _) (acc2_node a (a + 1 + 1) a2 l l2 _ _ _ [t1,t2] 2 (by have h:=(HC1.out).add HC2.out; simpa [Nat.add_assoc] using h) (by omega) (by omega) (by omega) (by omega)) _ _ _ _)
  rw [isStmt_eq]
  simp [stmtOf,btw,kidB,HE1.out,HE2.out] <;> omega
 ·have hd2:=hx3 (by omega)
  clear hx3
  obtain ⟨dd,hdd⟩:∃ dd,d = dd + 2:=⟨d - 2,by omega⟩
  subst hdd
  have HBB:Hid (GBlockC L S A c g (dd + 1)):=Lib.hid (HE.out dd rfl).2
  have HDE:Hid (D = ((dd + 1:Nat):Int)):=Lib.hid (by have:=HD.out; omega)
  go_wp2_with (first
   | (go_at_call 43; go_loud (refine (HBB.out _ _ _ HMV.out (HI.out.more HGV.out.size) (HL.out.keep (Keeps.gw HGV.out HI.out HS.out)) (by omega) (by omega) (by omega) _ HDE.out).mono ?_; rintro e w9 ⟨t1,A1,c1,a1,l1,rfl,he1,hr1,hm9,hg9,hacc1,hx1,hx2⟩; have HRW:=HZV.out.lt; have HK1:Hid (Kid r w9 (5 + (dd + 1)) t1 A1 c1):=Lib.hid (hr1.mono fun b hb=>⟨Nat.lt_of_lt_of_le HRW hb.1,hb.2⟩); have HE1:=Lib.hid he1; have HC1:=Lib.hid hacc1; have HC2:=Lib.hid hx1; have HC3:=Lib.hid hx2; replace HGV:=Lib.hid (gw_trans HGV.out hg9); replace HZV:=Lib.hid (HZV.out.gw hg9 (by omega)); replace HMV:=Lib.hid hm9; clear HRW he1 hr1 hm9 hg9 hacc1 hx1 hx2; clear z0 z1 z2 z3 f0 f1 f2 f3; have z0:=HZV.out.cell 0; have z1:=HZV.out.cell 1; have z2:=HZV.out.cell 2; have z3:=HZV.out.cell 3; have f0:=HZV.out.frozen 0; have f1:=HZV.out.frozen 1; have f2:=HZV.out.frozen 2; have f3:=HZV.out.frozen 3; simp only [List.getElem?_toArray,List.getElem?_cons_zero,List.getElem?_cons_succ] at z0 z1 z2 z3)))
  refine bodyPost_ret (v:=.agg #[.int .i64 t1.k,.int .i64 t1.n,.int .i64 t1.m,.slice A1 t1.kids.length c1]) (by simp [results,Tryd.results69,go_sem,z0,z1,z2,z3]) rfl (GStmtPost.fin (t:=t1) (A':=A1) (c':=c1) (a':=a1) (l':=l1) (R:=5 + (dd + 1)) HRR.out hgr ?_ (by omega) HK1.out HMV.out HGV.out (acc2_block a (a + 1) a1 l l1 t1 HC1.out (by omega) (by omega) (by omega) (by have:=HC3.out; omega) (by have:=HC2.out; omega)) _ _ _ _)
  have h:=HE1.out
  rw [isBlock,Bool.and_eq_true] at h
  exact h.2
end Go.Proofs.YtkkenbalpnmfmaaDoor
