/- Texts joined. -/
import Derived.Test.YtkkenbalpnmfmaaDoorH11
set_option linter.unusedVariables false
namespace Go.Proofs.YtkkenbalpnmfmaaDoor
open Go.RowKit WM TR

set_option maxRecDepth 100000 in
set_option maxHeartbeats 16000000 in
theorem stmt_step (d:Nat) (ihb1:BlockC (d + 1)) (ihb:BlockC d):StmtC (d + 1):=by
 intro t S A c w ht hin hst
 have hkl:t.kids.length≤1000000:=by have:=kids_lt t; omega
 obtain ⟨r,hr⟩:∃ r,isStmt t = r:=⟨_,rfl⟩
 rw [hr]
 obtain ⟨k,n,m,kids⟩:=t
 obtain ⟨l,hl⟩:∃ l,l = kids.length:=⟨_,rfl⟩
 simp only at hkl ⊢
 rw [← hl] at hkl ⊢
 have HT:=Lib.hid ht
 have HI:=Lib.hid hin
 have HL:=Lib.hid hl
 have HST:=Lib.hid hst
 have HBL : Hid (∀ W, Below w.heap.size w W → Calls Tryd.prog 75 #[.agg #[.int .i64 k, .int .i64 n, .int .i64 m, .slice A l c]] W fun e w' => ∃ g, isBlock ⟨k, n, m, kids⟩ = g ∧ e = .returned (.bool g) ∧ Below W.heap.size W w') := Lib.hid (fun W hW => by
   rw [hl]
   exact (ihb1 ⟨k,n,m,kids⟩ S A c W (ht.later hin hW) (hin.more hW.size) hst).mono fun e w' h=>⟨_,rfl,h.1,h.2⟩)
 have HBT : Hid (∀ (W : World) (a b x y : Int), Calls Tryd.prog 51 #[.agg #[.int .i64 k, .int .i64 n, .int .i64 m, .slice A l c], .int .i64 a, .int .i64 b, .int .i64 x, .int .i64 y] W fun e w' => ∃ f, btw ⟨k, n, m, kids⟩ a b x y = f ∧ e = .returned (.bool f) ∧ Below W.heap.size W w') := Lib.hid (fun W a b x y => by
   rw [hl]
   exact (between_is ⟨k,n,m,kids⟩ A c W hst a b x y).mono fun e w' h=>⟨_,rfl,h.1,h.2⟩)
 have HEX : Hid (∀ W, Below w.heap.size w W → Calls Tryd.prog 103 #[.slice A l c] W fun e w' => ∃ g, kids.all isExpr = g ∧ e = .returned (.bool g) ∧ Below W.heap.size W w') := Lib.hid (fun W hW => by
   rw [hl]
   exact (exprs_is d ⟨k,n,m,kids⟩ S A c W (ht.later hin hW) (hin.more hW.size) hst).mono fun e w' h=>⟨_,rfl,h.1,h.2⟩)
 have hall:(kids.map isExpr).all id = kids.all isExpr:=by rw [List.all_map]; rfl
 clear ht hin hl hst ihb1
 by_cases h13:k = 13
 ·have HR:Hid (isBlock ⟨k,n,m,kids⟩ = r):=Lib.hid (by rw [isBlock,hr]; simp [h13])
  subst h13
  clear hr hall HEX HBT
  go_enter Tryd.func97,Tryd.ntmps97
  go_wp2_with (go_at_call 75; refine (HBL.out _ (below_new _ _)).mono ?_; rintro e w1 ⟨f,hf,rfl,hbw⟩; have HX:=Lib.hid (hf.symm.trans HR.out); have HB1:=Lib.hid (bt (below_new _ _) hbw); clear hf hbw)
  go_ret
  exact ⟨ret_b HX.out,HB1.out⟩
 rw [isStmt_eq] at hr
 by_cases hk:k = 14∨k = 15∨k = 16∨k = 19∨k = 20∨k = 24∨k = 22∨k = 23
 ·clear h13 HT HBL HST
  rcases hk with rfl | rfl | rfl | rfl | rfl | rfl | rfl | rfl
  all_goals
   go_enter Tryd.func97,Tryd.ntmps97
   go_wp2_with (first
    | (go_at_call 51; refine (HBT.out _ _ _ _ _).mono ?_; rintro e w1 ⟨f,hf,rfl,hbw⟩; have HX:Hid ((f && kids.all isExpr) = r):=Lib.hid (by rw [← hf,← hall]; simpa only [stmtOf,Int.reduceEq,if_false,if_true,or_true,true_or,or_false,false_or] using hr); have HB1:Hid (Below w.heap.size w w1):=Lib.hid (bt (below_new _ _) hbw); have k3:w1.cell? ⟨w.heap.size,3,none⟩ = some (.slice A l c):=(hbw.cell (p:=⟨w.heap.size,3,none⟩) (Blk.new w _ _).lt).trans ((Blk.new w _ _).cell 3); clear hf hbw hr)
    | (go_at_call 103; refine (HEX.out _ HB1.out).mono ?_; rintro e w2 ⟨g,hg,rfl,hbw2⟩; have HG:=Lib.hid hg; have HB2:=Lib.hid (bt HB1.out hbw2); clear hg hbw2))
   all_goals
    go_ret
    first
     | exact ⟨ret_b (by rw [← HX.out,← HG.out]; simp [*]),HB2.out⟩
     | exact ⟨ret_b (by rw [← HX.out]; simp [*]),HB1.out⟩
 by_cases hk3:k = 17∨k = 18∨k = 21
 ·clear hk h13 hall HEX HBL
  rcases hk3 with rfl | rfl | rfl
  ·obtain ⟨bv,hbv⟩:∃ bv,btw ⟨17,n,m,kids⟩ 0 0 3 3 = bv:=⟨_,rfl⟩
   have hr2:(bv && kidB (kids.map isExpr) 0 && kidB (kids.map isBlock) 1 && kidB (kids.map isBlock) 2) = r:=by
    rw [← hbv,← hr]
    simp [stmtOf,Bool.and_assoc]
   cases bv with
   | false =>
    have HR:Hid (false = r):=Lib.hid (by rw [← hr2]; rfl)
    have HBV:=Lib.hid hbv
    clear hr hr2 hbv HT
    go_enter Tryd.func97,Tryd.ntmps97
    go_wp2_with (first | (go_at_call 51; refine (HBT.out _ _ _ _ _).mono ?_; rintro e w1 ⟨f,hf,rfl,hbw⟩; have hff:f = false:=hf.symm.trans HBV.out; subst hff; have HB1:Hid (Below w.heap.size w w1):=Lib.hid (bt (below_new _ _) hbw); have k3:w1.cell? ⟨w.heap.size,3,none⟩ = some (.slice A l c):=((Blk.new w 25 #[.int .i64 17,.int .i64 n,.int .i64 m,.slice A l c]).below hbw (Blk.new _ _ _).lt).cell 3; clear hf hbw))
    go_ret
    exact ⟨ret_b HR.out,HB1.out⟩
   | true =>
    have hlen:kids.length = 3:=by
     have h:=hbv
     simp [btw] at h
     omega
    obtain ⟨u1,u2,u3,hkk⟩:∃ u1 u2 u3,kids = [u1,u2,u3]:=by
     match kids,hlen with
     | [u1,u2,u3],_=>exact ⟨u1,u2,u3,rfl⟩
    subst hkk
    obtain ⟨g1,o1,A1,c1,hA1,hs1,hc1,hrep1⟩:=HT.out.kid (j:=0) (u:=u1) rfl
    obtain ⟨g2,o2,A2,c2,hA2,hs2,hc2,hrep2⟩:=HT.out.kid (j:=1) (u:=u2) rfl
    obtain ⟨g3,o3,A3,c3,hA3,hs3,hc3,hrep3⟩:=HT.out.kid (j:=2) (u:=u3) rfl
    subst hA1
    injection hA2 with q2; injection q2 with q2a q2b; subst q2a; subst q2b
    injection hA3 with q3; injection q3 with q3a q3b; subst q3a; subst q3b
    have hg1:=HI.out _ hs1
    have HSU1:size u1≤1000000:=by have h1:=size_kid (t:=⟨17,n,m,[u1,u2,u3]⟩) (j:=0) (u:=u1) rfl; have:=HST.out; omega
    obtain ⟨x1,hx1⟩:∃ x,isExpr u1 = x:=⟨_,rfl⟩
    have F1:Hid (∀ W,Below w.heap.size w W→Calls Tryd.prog 102 #[.agg #[.int .i64 u1.k,.int .i64 u1.n,.int .i64 u1.m,.slice A1 u1.kids.length c1]] W fun e w'=>e = .returned (.bool x1)∧Below W.heap.size W w'):=Lib.hid (fun W hW=>by rw [← hx1]; exact expr_is d u1 S A1 c1 W (hrep1.later HI.out hW) (HI.out.more hW.size) HSU1)
    have HQ1:Hid (∀ W,Below w.heap.size w W→W.cell? ⟨g1,o1,none⟩ = some (.int .i64 u1.k)∧W.cell? ⟨g1,o1 + 1,none⟩ = some (.int .i64 u1.n)∧W.cell? ⟨g1,o1 + 2,none⟩ = some (.int .i64 u1.m)∧W.cell? ⟨g1,o1 + 3,none⟩ = some (.slice A1 u1.kids.length c1)):=Lib.hid (fun W hW=>by
     have h:=fun (i:Nat) (z:Value) (hz:(nd u1 A1 c1)[i]? = some z)=>(hW.cell (p:=⟨g1,o1 + 0 * 4 + i,none⟩) hg1).trans (hc1 i z hz)
     exact ⟨h 0 _ rfl,h 1 _ rfl,h 2 _ rfl,h 3 _ rfl⟩)
    have HC1:Hid (∀ W,Below w.heap.size w W→∀ i z,([.int .i64 u1.k,.int .i64 u1.n,.int .i64 u1.m,.slice A1 u1.kids.length c1]:List Value)[i]? = some z→W.cell? ⟨g1,o1 + 0 + i,none⟩ = some z):=Lib.hid (fun W hW i z hz=>by
     have h:=(hW.cell (p:=⟨g1,o1 + 0 * 4 + i,none⟩) hg1).trans (hc1 i z hz)
     exact h)
    have HSU2:size u2≤1000000:=by have h1:=size_kid (t:=⟨17,n,m,[u1,u2,u3]⟩) (j:=1) (u:=u2) rfl; have:=HST.out; omega
    obtain ⟨x2,hx2⟩:∃ x,isBlock u2 = x:=⟨_,rfl⟩
    have F2:Hid (∀ W,Below w.heap.size w W→Calls Tryd.prog 75 #[.agg #[.int .i64 u2.k,.int .i64 u2.n,.int .i64 u2.m,.slice A2 u2.kids.length c2]] W fun e w'=>e = .returned (.bool x2)∧Below W.heap.size W w'):=Lib.hid (fun W hW=>by rw [← hx2]; exact ihb u2 S A2 c2 W (hrep2.later HI.out hW) (HI.out.more hW.size) HSU2)
    have HQ2:Hid (∀ W,Below w.heap.size w W→W.cell? ⟨g1,o1 + 4,none⟩ = some (.int .i64 u2.k)∧W.cell? ⟨g1,o1 + 5,none⟩ = some (.int .i64 u2.n)∧W.cell? ⟨g1,o1 + 6,none⟩ = some (.int .i64 u2.m)∧W.cell? ⟨g1,o1 + 7,none⟩ = some (.slice A2 u2.kids.length c2)):=Lib.hid (fun W hW=>by
     have h:=fun (i:Nat) (z:Value) (hz:(nd u2 A2 c2)[i]? = some z)=>(hW.cell (p:=⟨g1,o1 + 1 * 4 + i,none⟩) hg1).trans (hc2 i z hz)
     exact ⟨h 0 _ rfl,h 1 _ rfl,h 2 _ rfl,h 3 _ rfl⟩)
    have HC2:Hid (∀ W,Below w.heap.size w W→∀ i z,([.int .i64 u2.k,.int .i64 u2.n,.int .i64 u2.m,.slice A2 u2.kids.length c2]:List Value)[i]? = some z→W.cell? ⟨g1,o1 + 4 + i,none⟩ = some z):=Lib.hid (fun W hW i z hz=>by
     have h:=(hW.cell (p:=⟨g1,o1 + 1 * 4 + i,none⟩) hg1).trans (hc2 i z hz)
     exact h)
    have HSU3:size u3≤1000000:=by have h1:=size_kid (t:=⟨17,n,m,[u1,u2,u3]⟩) (j:=2) (u:=u3) rfl; have:=HST.out; omega
    obtain ⟨x3,hx3⟩:∃ x,isBlock u3 = x:=⟨_,rfl⟩
    have F3:Hid (∀ W,Below w.heap.size w W→Calls Tryd.prog 75 #[.agg #[.int .i64 u3.k,.int .i64 u3.n,.int .i64 u3.m,.slice A3 u3.kids.length c3]] W fun e w'=>e = .returned (.bool x3)∧Below W.heap.size W w'):=Lib.hid (fun W hW=>by rw [← hx3]; exact ihb u3 S A3 c3 W (hrep3.later HI.out hW) (HI.out.more hW.size) HSU3)
    have HQ3:Hid (∀ W,Below w.heap.size w W→W.cell? ⟨g1,o1 + 8,none⟩ = some (.int .i64 u3.k)∧W.cell? ⟨g1,o1 + 9,none⟩ = some (.int .i64 u3.n)∧W.cell? ⟨g1,o1 + 10,none⟩ = some (.int .i64 u3.m)∧W.cell? ⟨g1,o1 + 11,none⟩ = some (.slice A3 u3.kids.length c3)):=Lib.hid (fun W hW=>by
     have h:=fun (i:Nat) (z:Value) (hz:(nd u3 A3 c3)[i]? = some z)=>(hW.cell (p:=⟨g1,o1 + 2 * 4 + i,none⟩) hg1).trans (hc3 i z hz)
     exact ⟨h 0 _ rfl,h 1 _ rfl,h 2 _ rfl,h 3 _ rfl⟩)
    have HC3:Hid (∀ W,Below w.heap.size w W→∀ i z,([.int .i64 u3.k,.int .i64 u3.n,.int .i64 u3.m,.slice A3 u3.kids.length c3]:List Value)[i]? = some z→W.cell? ⟨g1,o1 + 8 + i,none⟩ = some z):=Lib.hid (fun W hW i z hz=>by
     have h:=(hW.cell (p:=⟨g1,o1 + 2 * 4 + i,none⟩) hg1).trans (hc3 i z hz)
     exact h)
    have HR:Hid ((x1 && x2 && x3) = r):=Lib.hid (by
     rw [← hr2,← hx1,← hx2,← hx3]
     simp [kidB])
    have HL3:Hid (l = 3):=Lib.hid HL.out
    have hl3:l = 3:=HL.out
    have HBV:=Lib.hid hbv
    clear hr hr2 hbv hlen HT HL HST hs1 hc1 hrep1 hx1 HSU1 hs2 hc2 hrep2 hx2 HSU2 hs3 hc3 hrep3 hx3 HSU3
    subst hl3
    have hca:(x1 = false)∨(x1 = true∧x2 = false)∨(x1 = true∧x2 = true∧x3 = false)∨(x1 = true∧x2 = true∧x3 = true):=by
     cases x1 <;> cases x2 <;> cases x3 <;> simp
    rcases hca with rfl | ⟨rfl,rfl⟩ | ⟨rfl,rfl,rfl⟩ | ⟨rfl,rfl,rfl⟩
    all_goals
     go_enter Tryd.func97,Tryd.ntmps97
     go_wp2_with (first
      | (go_at_call 51; refine (HBT.out _ _ _ _ _).mono ?_; rintro e w1 ⟨f,hf,rfl,hbw⟩; have hff:f = true:=hf.symm.trans HBV.out; subst hff; have HB1:Hid (Below w.heap.size w w1):=Lib.hid (bt (below_new _ _) hbw); have k3:w1.cell? ⟨w.heap.size,3,none⟩ = some (.slice (some ⟨g1,o1,none⟩) 3 c):=((Blk.new w 25 #[.int .i64 17,.int .i64 n,.int .i64 m,.slice (some ⟨g1,o1,none⟩) 3 c]).below hbw (Blk.new _ _ _).lt).cell 3; clear hf hbw; obtain ⟨v0,v1,v2,v3⟩:=HQ1.out _ HB1.out)
      | (refine wpList_load_mid rfl 25 (.tmp 16) rfl g1 (o1 + 0) rfl [.int .i64 u1.k,.int .i64 u1.n,.int .i64 u1.m,.slice A1 u1.kids.length c1] _ (HC1.out _ HB1.out) Tryd.underlying25 rfl (by rw [size_node]; rfl) ?_)
      | (refine wpList_load_mid rfl 25 (.tmp 23) rfl g1 (o1 + 4) rfl [.int .i64 u2.k,.int .i64 u2.n,.int .i64 u2.m,.slice A2 u2.kids.length c2] _ (HC2.out _ HB1.out) Tryd.underlying25 rfl (by rw [size_node]; rfl) ?_)
      | (refine wpList_load_mid rfl 25 (.tmp 30) rfl g1 (o1 + 8) rfl [.int .i64 u3.k,.int .i64 u3.n,.int .i64 u3.m,.slice A3 u3.kids.length c3] _ (HC3.out _ HB1.out) Tryd.underlying25 rfl (by rw [size_node]; rfl) ?_)
      | (go_at_call 75; have hm:=mk2; refine (F3.out _ HB1.out).mono ?_; rintro e w2 ⟨rfl,hbw⟩; have k3':=(hbw.cell (p:=⟨w.heap.size,3,none⟩) (block_lt_of_cell k3)).trans k3; clear k3; have k3:=k3'; clear k3'; replace HB1:=Lib.hid (bt HB1.out hbw); clear hbw; clear v0 v1 v2 v3; have mk3:True:=trivial)
      | (go_at_call 75; have hm:=mk1; refine (F2.out _ HB1.out).mono ?_; rintro e w2 ⟨rfl,hbw⟩; have k3':=(hbw.cell (p:=⟨w.heap.size,3,none⟩) (block_lt_of_cell k3)).trans k3; clear k3; have k3:=k3'; clear k3'; replace HB1:=Lib.hid (bt HB1.out hbw); clear hbw; clear v0 v1 v2 v3; obtain ⟨v0,v1,v2,v3⟩:=HQ3.out _ HB1.out; have mk2:True:=trivial)
      | (go_at_call 102; refine (F1.out _ HB1.out).mono ?_; rintro e w2 ⟨rfl,hbw⟩; have k3':=(hbw.cell (p:=⟨w.heap.size,3,none⟩) (block_lt_of_cell k3)).trans k3; clear k3; have k3:=k3'; clear k3'; replace HB1:=Lib.hid (bt HB1.out hbw); clear hbw; clear v0 v1 v2 v3; obtain ⟨v0,v1,v2,v3⟩:=HQ2.out _ HB1.out; have mk1:True:=trivial))
     go_ret
     exact ⟨ret_b (by rw [← HR.out]; rfl),HB1.out⟩
  ·obtain ⟨bv,hbv⟩:∃ bv,btw ⟨18,n,m,kids⟩ 0 0 2 2 = bv:=⟨_,rfl⟩
   have hr2:(bv && kidB (kids.map isExpr) 0 && kidB (kids.map isBlock) 1) = r:=by
    rw [← hbv,← hr]
    simp [stmtOf,Bool.and_assoc]
   cases bv with
   | false =>
    have HR:Hid (false = r):=Lib.hid (by rw [← hr2]; rfl)
    have HBV:=Lib.hid hbv
    clear hr hr2 hbv HT
    go_enter Tryd.func97,Tryd.ntmps97
    go_wp2_with (first | (go_at_call 51; refine (HBT.out _ _ _ _ _).mono ?_; rintro e w1 ⟨f,hf,rfl,hbw⟩; have hff:f = false:=hf.symm.trans HBV.out; subst hff; have HB1:Hid (Below w.heap.size w w1):=Lib.hid (bt (below_new _ _) hbw); have k3:w1.cell? ⟨w.heap.size,3,none⟩ = some (.slice A l c):=((Blk.new w 25 #[.int .i64 18,.int .i64 n,.int .i64 m,.slice A l c]).below hbw (Blk.new _ _ _).lt).cell 3; clear hf hbw))
    go_ret
    exact ⟨ret_b HR.out,HB1.out⟩
   | true =>
    have hlen:kids.length = 2:=by
     have h:=hbv
     simp [btw] at h
     omega
    obtain ⟨u1,u2,hkk⟩:∃ u1 u2,kids = [u1,u2]:=by
     match kids,hlen with
     | [u1,u2],_=>exact ⟨u1,u2,rfl⟩
    subst hkk
    obtain ⟨g1,o1,A1,c1,hA1,hs1,hc1,hrep1⟩:=HT.out.kid (j:=0) (u:=u1) rfl
    obtain ⟨g2,o2,A2,c2,hA2,hs2,hc2,hrep2⟩:=HT.out.kid (j:=1) (u:=u2) rfl
    subst hA1
    injection hA2 with q2; injection q2 with q2a q2b; subst q2a; subst q2b
    have hg1:=HI.out _ hs1
    have HSU1:size u1≤1000000:=by have h1:=size_kid (t:=⟨18,n,m,[u1,u2]⟩) (j:=0) (u:=u1) rfl; have:=HST.out; omega
    obtain ⟨x1,hx1⟩:∃ x,isExpr u1 = x:=⟨_,rfl⟩
    have F1:Hid (∀ W,Below w.heap.size w W→Calls Tryd.prog 102 #[.agg #[.int .i64 u1.k,.int .i64 u1.n,.int .i64 u1.m,.slice A1 u1.kids.length c1]] W fun e w'=>e = .returned (.bool x1)∧Below W.heap.size W w'):=Lib.hid (fun W hW=>by rw [← hx1]; exact expr_is d u1 S A1 c1 W (hrep1.later HI.out hW) (HI.out.more hW.size) HSU1)
    have HQ1:Hid (∀ W,Below w.heap.size w W→W.cell? ⟨g1,o1,none⟩ = some (.int .i64 u1.k)∧W.cell? ⟨g1,o1 + 1,none⟩ = some (.int .i64 u1.n)∧W.cell? ⟨g1,o1 + 2,none⟩ = some (.int .i64 u1.m)∧W.cell? ⟨g1,o1 + 3,none⟩ = some (.slice A1 u1.kids.length c1)):=Lib.hid (fun W hW=>by
     have h:=fun (i:Nat) (z:Value) (hz:(nd u1 A1 c1)[i]? = some z)=>(hW.cell (p:=⟨g1,o1 + 0 * 4 + i,none⟩) hg1).trans (hc1 i z hz)
     exact ⟨h 0 _ rfl,h 1 _ rfl,h 2 _ rfl,h 3 _ rfl⟩)
    have HC1:Hid (∀ W,Below w.heap.size w W→∀ i z,([.int .i64 u1.k,.int .i64 u1.n,.int .i64 u1.m,.slice A1 u1.kids.length c1]:List Value)[i]? = some z→W.cell? ⟨g1,o1 + 0 + i,none⟩ = some z):=Lib.hid (fun W hW i z hz=>by
     have h:=(hW.cell (p:=⟨g1,o1 + 0 * 4 + i,none⟩) hg1).trans (hc1 i z hz)
     exact h)
    have HSU2:size u2≤1000000:=by have h1:=size_kid (t:=⟨18,n,m,[u1,u2]⟩) (j:=1) (u:=u2) rfl; have:=HST.out; omega
    obtain ⟨x2,hx2⟩:∃ x,isBlock u2 = x:=⟨_,rfl⟩
    have F2:Hid (∀ W,Below w.heap.size w W→Calls Tryd.prog 75 #[.agg #[.int .i64 u2.k,.int .i64 u2.n,.int .i64 u2.m,.slice A2 u2.kids.length c2]] W fun e w'=>e = .returned (.bool x2)∧Below W.heap.size W w'):=Lib.hid (fun W hW=>by rw [← hx2]; exact ihb u2 S A2 c2 W (hrep2.later HI.out hW) (HI.out.more hW.size) HSU2)
    have HQ2:Hid (∀ W,Below w.heap.size w W→W.cell? ⟨g1,o1 + 4,none⟩ = some (.int .i64 u2.k)∧W.cell? ⟨g1,o1 + 5,none⟩ = some (.int .i64 u2.n)∧W.cell? ⟨g1,o1 + 6,none⟩ = some (.int .i64 u2.m)∧W.cell? ⟨g1,o1 + 7,none⟩ = some (.slice A2 u2.kids.length c2)):=Lib.hid (fun W hW=>by
     have h:=fun (i:Nat) (z:Value) (hz:(nd u2 A2 c2)[i]? = some z)=>(hW.cell (p:=⟨g1,o1 + 1 * 4 + i,none⟩) hg1).trans (hc2 i z hz)
     exact ⟨h 0 _ rfl,h 1 _ rfl,h 2 _ rfl,h 3 _ rfl⟩)
    have HC2:Hid (∀ W,Below w.heap.size w W→∀ i z,([.int .i64 u2.k,.int .i64 u2.n,.int .i64 u2.m,.slice A2 u2.kids.length c2]:List Value)[i]? = some z→W.cell? ⟨g1,o1 + 4 + i,none⟩ = some z):=Lib.hid (fun W hW i z hz=>by
     have h:=(hW.cell (p:=⟨g1,o1 + 1 * 4 + i,none⟩) hg1).trans (hc2 i z hz)
     exact h)
    have HR:Hid ((x1 && x2) = r):=Lib.hid (by
     rw [← hr2,← hx1,← hx2]
     simp [kidB])
    have HL3:Hid (l = 2):=Lib.hid HL.out
    have hl3:l = 2:=HL.out
    have HBV:=Lib.hid hbv
    clear hr hr2 hbv hlen HT HL HST hs1 hc1 hrep1 hx1 HSU1 hs2 hc2 hrep2 hx2 HSU2
    subst hl3
    have hca:(x1 = false)∨(x1 = true∧x2 = false)∨(x1 = true∧x2 = true):=by
     cases x1 <;> cases x2 <;> simp
    rcases hca with rfl | ⟨rfl,rfl⟩ | ⟨rfl,rfl⟩
    all_goals
     go_enter Tryd.func97,Tryd.ntmps97
     go_wp2_with (first
      | (go_at_call 51; refine (HBT.out _ _ _ _ _).mono ?_; rintro e w1 ⟨f,hf,rfl,hbw⟩; have hff:f = true:=hf.symm.trans HBV.out; subst hff; have HB1:Hid (Below w.heap.size w w1):=Lib.hid (bt (below_new _ _) hbw); have k3:w1.cell? ⟨w.heap.size,3,none⟩ = some (.slice (some ⟨g1,o1,none⟩) 2 c):=((Blk.new w 25 #[.int .i64 18,.int .i64 n,.int .i64 m,.slice (some ⟨g1,o1,none⟩) 2 c]).below hbw (Blk.new _ _ _).lt).cell 3; clear hf hbw; obtain ⟨v0,v1,v2,v3⟩:=HQ1.out _ HB1.out)
      | (refine wpList_load_mid rfl 25 (.tmp 41) rfl g1 (o1 + 0) rfl [.int .i64 u1.k,.int .i64 u1.n,.int .i64 u1.m,.slice A1 u1.kids.length c1] _ (HC1.out _ HB1.out) Tryd.underlying25 rfl (by rw [size_node]; rfl) ?_)
      | (refine wpList_load_mid rfl 25 (.tmp 48) rfl g1 (o1 + 4) rfl [.int .i64 u2.k,.int .i64 u2.n,.int .i64 u2.m,.slice A2 u2.kids.length c2] _ (HC2.out _ HB1.out) Tryd.underlying25 rfl (by rw [size_node]; rfl) ?_)
      | (go_at_call 75; have hm:=mk1; refine (F2.out _ HB1.out).mono ?_; rintro e w2 ⟨rfl,hbw⟩; have k3':=(hbw.cell (p:=⟨w.heap.size,3,none⟩) (block_lt_of_cell k3)).trans k3; clear k3; have k3:=k3'; clear k3'; replace HB1:=Lib.hid (bt HB1.out hbw); clear hbw; clear v0 v1 v2 v3; have mk2:True:=trivial)
      | (go_at_call 102; refine (F1.out _ HB1.out).mono ?_; rintro e w2 ⟨rfl,hbw⟩; have k3':=(hbw.cell (p:=⟨w.heap.size,3,none⟩) (block_lt_of_cell k3)).trans k3; clear k3; have k3:=k3'; clear k3'; replace HB1:=Lib.hid (bt HB1.out hbw); clear hbw; clear v0 v1 v2 v3; obtain ⟨v0,v1,v2,v3⟩:=HQ2.out _ HB1.out; have mk1:True:=trivial))
     go_ret
     exact ⟨ret_b (by rw [← HR.out]; rfl),HB1.out⟩
  ·obtain ⟨bv,hbv⟩:∃ bv,btw ⟨21,n,m,kids⟩ 5 0 2 2 = bv:=⟨_,rfl⟩
   have hr2:(bv && kidB (kids.map isBlock) 0 && kidB (kids.map isBlock) 1) = r:=by
    rw [← hbv,← hr]
    simp [stmtOf,Bool.and_assoc]
   cases bv with
   | false =>
    have HR:Hid (false = r):=Lib.hid (by rw [← hr2]; rfl)
    have HBV:=Lib.hid hbv
    clear hr hr2 hbv HT
    go_enter Tryd.func97,Tryd.ntmps97
    go_wp2_with (first | (go_at_call 51; refine (HBT.out _ _ _ _ _).mono ?_; rintro e w1 ⟨f,hf,rfl,hbw⟩; have hff:f = false:=hf.symm.trans HBV.out; subst hff; have HB1:Hid (Below w.heap.size w w1):=Lib.hid (bt (below_new _ _) hbw); have k3:w1.cell? ⟨w.heap.size,3,none⟩ = some (.slice A l c):=((Blk.new w 25 #[.int .i64 21,.int .i64 n,.int .i64 m,.slice A l c]).below hbw (Blk.new _ _ _).lt).cell 3; clear hf hbw))
    go_ret
    exact ⟨ret_b HR.out,HB1.out⟩
   | true =>
    have hlen:kids.length = 2:=by
     have h:=hbv
     simp [btw] at h
     omega
    obtain ⟨u1,u2,hkk⟩:∃ u1 u2,kids = [u1,u2]:=by
     match kids,hlen with
     | [u1,u2],_=>exact ⟨u1,u2,rfl⟩
    subst hkk
    obtain ⟨g1,o1,A1,c1,hA1,hs1,hc1,hrep1⟩:=HT.out.kid (j:=0) (u:=u1) rfl
    obtain ⟨g2,o2,A2,c2,hA2,hs2,hc2,hrep2⟩:=HT.out.kid (j:=1) (u:=u2) rfl
    subst hA1
    injection hA2 with q2; injection q2 with q2a q2b; subst q2a; subst q2b
    have hg1:=HI.out _ hs1
    have HSU1:size u1≤1000000:=by have h1:=size_kid (t:=⟨21,n,m,[u1,u2]⟩) (j:=0) (u:=u1) rfl; have:=HST.out; omega
    obtain ⟨x1,hx1⟩:∃ x,isBlock u1 = x:=⟨_,rfl⟩
    have F1:Hid (∀ W,Below w.heap.size w W→Calls Tryd.prog 75 #[.agg #[.int .i64 u1.k,.int .i64 u1.n,.int .i64 u1.m,.slice A1 u1.kids.length c1]] W fun e w'=>e = .returned (.bool x1)∧Below W.heap.size W w'):=Lib.hid (fun W hW=>by rw [← hx1]; exact ihb u1 S A1 c1 W (hrep1.later HI.out hW) (HI.out.more hW.size) HSU1)
    have HQ1:Hid (∀ W,Below w.heap.size w W→W.cell? ⟨g1,o1,none⟩ = some (.int .i64 u1.k)∧W.cell? ⟨g1,o1 + 1,none⟩ = some (.int .i64 u1.n)∧W.cell? ⟨g1,o1 + 2,none⟩ = some (.int .i64 u1.m)∧W.cell? ⟨g1,o1 + 3,none⟩ = some (.slice A1 u1.kids.length c1)):=Lib.hid (fun W hW=>by
     have h:=fun (i:Nat) (z:Value) (hz:(nd u1 A1 c1)[i]? = some z)=>(hW.cell (p:=⟨g1,o1 + 0 * 4 + i,none⟩) hg1).trans (hc1 i z hz)
     exact ⟨h 0 _ rfl,h 1 _ rfl,h 2 _ rfl,h 3 _ rfl⟩)
    have HC1:Hid (∀ W,Below w.heap.size w W→∀ i z,([.int .i64 u1.k,.int .i64 u1.n,.int .i64 u1.m,.slice A1 u1.kids.length c1]:List Value)[i]? = some z→W.cell? ⟨g1,o1 + 0 + i,none⟩ = some z):=Lib.hid (fun W hW i z hz=>by
     have h:=(hW.cell (p:=⟨g1,o1 + 0 * 4 + i,none⟩) hg1).trans (hc1 i z hz)
     exact h)
    have HSU2:size u2≤1000000:=by have h1:=size_kid (t:=⟨21,n,m,[u1,u2]⟩) (j:=1) (u:=u2) rfl; have:=HST.out; omega
    obtain ⟨x2,hx2⟩:∃ x,isBlock u2 = x:=⟨_,rfl⟩
    have F2:Hid (∀ W,Below w.heap.size w W→Calls Tryd.prog 75 #[.agg #[.int .i64 u2.k,.int .i64 u2.n,.int .i64 u2.m,.slice A2 u2.kids.length c2]] W fun e w'=>e = .returned (.bool x2)∧Below W.heap.size W w'):=Lib.hid (fun W hW=>by rw [← hx2]; exact ihb u2 S A2 c2 W (hrep2.later HI.out hW) (HI.out.more hW.size) HSU2)
    have HQ2:Hid (∀ W,Below w.heap.size w W→W.cell? ⟨g1,o1 + 4,none⟩ = some (.int .i64 u2.k)∧W.cell? ⟨g1,o1 + 5,none⟩ = some (.int .i64 u2.n)∧W.cell? ⟨g1,o1 + 6,none⟩ = some (.int .i64 u2.m)∧W.cell? ⟨g1,o1 + 7,none⟩ = some (.slice A2 u2.kids.length c2)):=Lib.hid (fun W hW=>by
     have h:=fun (i:Nat) (z:Value) (hz:(nd u2 A2 c2)[i]? = some z)=>(hW.cell (p:=⟨g1,o1 + 1 * 4 + i,none⟩) hg1).trans (hc2 i z hz)
     exact ⟨h 0 _ rfl,h 1 _ rfl,h 2 _ rfl,h 3 _ rfl⟩)
    have HC2:Hid (∀ W,Below w.heap.size w W→∀ i z,([.int .i64 u2.k,.int .i64 u2.n,.int .i64 u2.m,.slice A2 u2.kids.length c2]:List Value)[i]? = some z→W.cell? ⟨g1,o1 + 4 + i,none⟩ = some z):=Lib.hid (fun W hW i z hz=>by
     have h:=(hW.cell (p:=⟨g1,o1 + 1 * 4 + i,none⟩) hg1).trans (hc2 i z hz)
     exact h)
    have HR:Hid ((x1 && x2) = r):=Lib.hid (by
     rw [← hr2,← hx1,← hx2]
     simp [kidB])
    have HL3:Hid (l = 2):=Lib.hid HL.out
    have hl3:l = 2:=HL.out
    have HBV:=Lib.hid hbv
    clear hr hr2 hbv hlen HT HL HST hs1 hc1 hrep1 hx1 HSU1 hs2 hc2 hrep2 hx2 HSU2
    subst hl3
    have hca:(x1 = false)∨(x1 = true∧x2 = false)∨(x1 = true∧x2 = true):=by
     cases x1 <;> cases x2 <;> simp
    rcases hca with rfl | ⟨rfl,rfl⟩ | ⟨rfl,rfl⟩
    all_goals
     go_enter Tryd.func97,Tryd.ntmps97
     go_wp2_with (first
      | (go_at_call 51; refine (HBT.out _ _ _ _ _).mono ?_; rintro e w1 ⟨f,hf,rfl,hbw⟩; have hff:f = true:=hf.symm.trans HBV.out; subst hff; have HB1:Hid (Below w.heap.size w w1):=Lib.hid (bt (below_new _ _) hbw); have k3:w1.cell? ⟨w.heap.size,3,none⟩ = some (.slice (some ⟨g1,o1,none⟩) 2 c):=((Blk.new w 25 #[.int .i64 21,.int .i64 n,.int .i64 m,.slice (some ⟨g1,o1,none⟩) 2 c]).below hbw (Blk.new _ _ _).lt).cell 3; clear hf hbw; obtain ⟨v0,v1,v2,v3⟩:=HQ1.out _ HB1.out)
      | (refine wpList_load_mid rfl 25 (.tmp 59) rfl g1 (o1 + 0) rfl [.int .i64 u1.k,.int .i64 u1.n,.int .i64 u1.m,.slice A1 u1.kids.length c1] _ (HC1.out _ HB1.out) Tryd.underlying25 rfl (by rw [size_node]; rfl) ?_)
      | (refine wpList_load_mid rfl 25 (.tmp 66) rfl g1 (o1 + 4) rfl [.int .i64 u2.k,.int .i64 u2.n,.int .i64 u2.m,.slice A2 u2.kids.length c2] _ (HC2.out _ HB1.out) Tryd.underlying25 rfl (by rw [size_node]; rfl) ?_)
      | (go_at_call 75; have hm:=mk1; refine (F2.out _ HB1.out).mono ?_; rintro e w2 ⟨rfl,hbw⟩; have k3':=(hbw.cell (p:=⟨w.heap.size,3,none⟩) (block_lt_of_cell k3)).trans k3; clear k3; have k3:=k3'; clear k3'; replace HB1:=Lib.hid (bt HB1.out hbw); clear hbw; clear v0 v1 v2 v3; have mk2:True:=trivial)
      | (go_at_call 75; refine (F1.out _ HB1.out).mono ?_; rintro e w2 ⟨rfl,hbw⟩; have k3':=(hbw.cell (p:=⟨w.heap.size,3,none⟩) (block_lt_of_cell k3)).trans k3; clear k3; have k3:=k3'; clear k3'; replace HB1:=Lib.hid (bt HB1.out hbw); clear hbw; clear v0 v1 v2 v3; obtain ⟨v0,v1,v2,v3⟩:=HQ2.out _ HB1.out; have mk1:True:=trivial))
     go_ret
     exact ⟨ret_b (by rw [← HR.out]; rfl),HB1.out⟩
 ·have hx : stmtOf ⟨k, n, m, kids⟩ (kids.map isExpr) (kids.map isBlock) (kids.map isStmt) = (k == 25 && btw ⟨k, n, m, kids⟩ 0 0 0 0) := by
   have a1:¬ k = 13∧¬ k = 17∧¬ k = 18∧¬ k = 21∧¬ k = 14∧¬ k = 15∧¬ k = 16∧¬ (k = 19∨k = 20∨k = 24)∧¬ k = 22∧¬ k = 23:=by omega
   obtain ⟨q1,q2,q3,q4,q5,q6,q7,q8,q9,q10⟩:=a1
   rw [stmtOf,if_neg q1,if_neg q2,if_neg q3,if_neg q4,if_neg q5,if_neg q6,if_neg q7,if_neg q8,if_neg q9,if_neg q10]
  have HR:Hid ((k == 25 && btw ⟨k,n,m,kids⟩ 0 0 0 0) = r):=Lib.hid (by rw [← hx,← hr])
  have a1:¬ k = 13:=by omega
  have a2:¬ k = 17:=by omega
  have a3:¬ k = 18:=by omega
  have a4:¬ k = 21:=by omega
  have a5:¬ k = 14:=by omega
  have a6:¬ k = 15:=by omega
  have a7:¬ k = 16:=by omega
  have a8:¬ k = 19:=by omega
  have a9:¬ k = 20:=by omega
  have a10:¬ k = 24:=by omega
  have a11:¬ k = 22:=by omega
  have a12:¬ k = 23:=by omega
  clear hr hx hk hk3 HBL HEX HT h13
  by_cases h25:k = 25
  ·subst h25
   go_enter Tryd.func97,Tryd.ntmps97
   go_wp2_with (go_at_call 51; refine (HBT.out _ _ _ _ _).mono ?_; rintro e w1 ⟨f,hf,rfl,hbw⟩; have HX:Hid (f = r):=Lib.hid (by rw [← hf]; simpa using HR.out); have HB1:Hid (Below w.heap.size w w1):=Lib.hid (bt (below_new _ _) hbw); clear hf hbw)
   go_ret
   exact ⟨ret_b HX.out,HB1.out⟩
  ·have HF:Hid (false = r):=Lib.hid (by rw [← HR.out]; simp [h25])
   go_enter Tryd.func97,Tryd.ntmps97
   go_wp2_with fail
   go_ret
   exact ⟨ret_b HF.out,below_new _ _⟩
end Go.Proofs.YtkkenbalpnmfmaaDoor
