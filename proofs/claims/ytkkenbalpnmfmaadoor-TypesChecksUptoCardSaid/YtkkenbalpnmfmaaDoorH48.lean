/- Texts joined. -/
import Derived.Test.YtkkenbalpnmfmaaDoorH40
import Derived.Test.YtkkenbalpnmfmaaDoorH36
import Derived.Test.YtkkenbalpnmfmaaDoorH43
import Derived.Test.YtkkenbalpnmfmaaDoorH46
import Derived.Test.YtkkenbalpnmfmaaDoorH47
import Derived.Test.YtkkenbalpnmfmaaDoorH07
import Derived.Test.YtkkenbalpnmfmaaDoorH23
import Derived.Deep.RegionWith
import Derived.Deep.RegionHeld2
set_option linter.unusedVariables false
namespace Go.Proofs.YtkkenbalpnmfmaaDoor
open Go.RowKit WM TR TY

theorem shutB6N (parts:Array (Nat × Value)):Instr.buildSlice 23 6 parts = bsN 6 parts:=rfl
set_option maxRecDepth 100000 in
theorem run_bs6N (W:World) (a1 a2 a3 a4 b1 b2 b3 b4 c1 c2 c3 c4 d1 d2 d3 d4 e1 e2 e3 e4 f1 f2 f3 f4:Value):(bsN 6 #[(0,.agg #[a1,a2,a3,a4]),(1,.agg #[b1,b2,b3,b4]),(2,.agg #[c1,c2,c3,c4]),(3,.agg #[d1,d2,d3,d4]),(4,.agg #[e1,e2,e3,e4]),(5,.agg #[f1,f2,f3,f4])]).run Tryd.prog W = .ok (.slice (some ⟨W.heap.size,0,none⟩) 6 6) (W.alloc (.cells #[a1,a2,a3,a4,b1,b2,b3,b4,c1,c2,c3,c4,d1,d2,d3,d4,e1,e2,e3,e4,f1,f2,f3,f4] 25)):=by kernel_rfl
attribute [local go_sem ↓ high] shutB6N
theorem inr_wrap (x:Int):inRange (wrap64 x):=by
  first
    | (unfold wrap64 inRange; omega)
    | (have h : wrap64 x = IntKind.i64.wrap x := by first | rfl | exact (IntKind.wrap_i64 x).symm
       rw [h,IntKind.wrap_i64]; unfold inRange; omega)
structure EYc (W:World) (ba_ i:Nat) (y:T) (Ay:Option Addr) (cy D:Nat):Prop where
  cell:∀ j v,(nd y Ay cy)[j]? = some v→W.cell? ⟨ba_,i * 4 + j,none⟩ = some v
  rep:Rep W (Lt W.heap.size) D y (nd y Ay cy)
  size:size y≤1000000
set_option maxRecDepth 100000 in
set_option maxHeartbeats 16000000 in
theorem types_checks_is (HM : MadeC) (L M : List Int) (A B : Option Addr) (c cb : Nat) (con at_ how by_ : Int) (x : T) (Ax : Option Addr) (cx Dx : Nat) (wz : World) (hL : Rd wz (Lt wz.heap.size) 1 A L.length (vi L)) (hM : Rd wz (Lt wz.heap.size) 1 B M.length (vi M)) (hrL : ∀ x ∈ L, inRange x) (hrM : ∀ x ∈ M, inRange x) (hlL : L.length ≤ 9223372036854775807) (hlM : M.length ≤ 9223372036854775807) (ha : inRange at_) (hh : inRange how) (hy : inRange by_)
    (hX:Rep wz (Lt wz.heap.size) Dx x (nd x Ax cx)) (hsX:size x≤1000000) (hT:ST wz) (hg:0 < wz.heap.size) :
    Calls Tryd.prog 3 #[.slice A L.length c,.slice B M.length cb,.int .i64 con,.int .i64 at_,.int .i64 how,.int .i64 by_,.agg #[.int .i64 x.k,.int .i64 x.n,.int .i64 x.m,.slice Ax x.kids.length cx]] wz fun e w'=>e = .returned (.bool true)∧Below wz.heap.size wz w':=by
  obtain ⟨nx,hnx⟩:∃ n,n = x.kids.length:=⟨_,rfl⟩
  obtain ⟨xk,hxk⟩:∃ z,z = x.k:=⟨_,rfl⟩
  obtain ⟨xn,hxn⟩:∃ z,z = x.n:=⟨_,rfl⟩
  obtain ⟨xm,hxm⟩:∃ z,z = x.m:=⟨_,rfl⟩
  have HXX:Hid (x.kids.length = nx∧x.k = xk∧x.n = xn∧x.m = xm):=Lib.hid ⟨hnx.symm,hxk.symm,hxn.symm,hxm.symm⟩
  obtain ⟨gx,hgx⟩:∃ g,g = wz.heap.size:=⟨_,rfl⟩
  obtain ⟨W0,hW0⟩:∃ W,W = wz.alloc (.cells #[.int .i64 xk,.int .i64 xn,.int .i64 xm,.slice Ax nx cx] 25):=⟨_,rfl⟩
  have hb0:Below wz.heap.size wz W0:=by rw [hW0]; exact below_new _ _
  have HKX:Hid (Blk W0 gx 25 #[.int .i64 xk,.int .i64 xn,.int .i64 xm,.slice Ax nx cx]):=Lib.hid (by rw [hW0,hgx]; exact Blk.new _ _ _)
  have HP:Hid (Calls Tryd.prog 10 #[.slice A L.length c,.int .i64 con] W0 (FinePost false W0)):=Lib.hid (lawProg_is HM L (Lt W0.heap.size) A c con W0 ((hL.keep (Keeps.below (In.lt _) hb0)).mono fun b hb=>Nat.lt_of_lt_of_le hb hb0.size) (In.lt _) hrL hlL)
  have HPR:Hid (∀ W,Below wz.heap.size wz W→Calls Tryd.prog 12 #[.slice B M.length cb] W (ProgPost W)):=Lib.hid fun W hb=>program_is M (Lt wz.heap.size) B cb W (hM.keep (Keeps.below (In.lt _) hb)) ((In.lt _).more hb.size) hrM hlM
  have HTR:Hid (∀ W,Below wz.heap.size wz W→Calls Tryd.prog 13 #[.slice B M.length cb] W fun e w'=>∃ (v:T) (A':Option Addr) (c':Nat),e = .returned (.agg #[.int .i64 v.k,.int .i64 v.n,.int .i64 v.m,.slice A' v.kids.length c'])∧size v≤4096∧Rep w' (fun b=>W.heap.size≤b∧b < w'.heap.size) 6 v (nd v A' c')∧Below W.heap.size W w'):=Lib.hid fun W hb=>(Tree_is M (Lt wz.heap.size) B cb W (hM.keep (Keeps.below (In.lt _) hb)) ((In.lt _).more hb.size) hrM hlM).mono fun e w' ⟨A',c',h1,h2,h3⟩=>⟨genTree M,A',c',h1,genTree_size M,h2,h3⟩
  have HT:=Lib.hid hT
  have HG:=Lib.hid hg
  have HRR:=Lib.hid (And.intro ha (And.intro hh hy))
  have HRX:=Lib.hid (And.intro hX hsX)
  have HB0:=Lib.hid hb0
  have HW0:=Lib.hid hW0
  have HGX:=Lib.hid hgx
  obtain ⟨nl,hnl⟩:∃ z,z = L.length:=⟨_,rfl⟩
  obtain ⟨nm,hnm⟩:∃ z,z = M.length:=⟨_,rfl⟩
  rw [← hnl] at HP ⊢
  rw [← hnm] at HPR HTR ⊢
  rw [← hnx,← hxk,← hxn,← hxm]
  clear hL hM hrL hrM hlL hlM hT hg hnl hnm HM ha hh hy hnx hxk hxn hxm hX hsX hb0 hW0 hgx
  go_enter Tryd.func3,Tryd.ntmps3
  go_upto_region 1 with fail
  rw [← HW0.out]
  try rw [← HGX.out]
  go_upto_region 2 with (go_at_call 10; refine HP.out.mono ?_; rintro e V ⟨p,A1,c1,rfl,hf,hc,hp,hv⟩; have HF:=Lib.hid hf; have HR:=Lib.hid hp; have HV:=Lib.hid hv; clear hf hc hp hv)
  obtain ⟨np,hnp⟩:∃ n,n = p.kids.length:=⟨_,rfl⟩
  obtain ⟨pk,hpk⟩:∃ z,z = p.k:=⟨_,rfl⟩
  obtain ⟨pn,hpn⟩:∃ z,z = p.n:=⟨_,rfl⟩
  obtain ⟨pm,hpm⟩:∃ z,z = p.m:=⟨_,rfl⟩
  have HPP:Hid (p.kids.length = np∧p.k = pk∧p.n = pn∧p.m = pm):=Lib.hid ⟨hnp.symm,hpk.symm,hpn.symm,hpm.symm⟩
  rw [← hnp,← hpk,← hpn,← hpm]
  obtain ⟨gp,hgp⟩:∃ g,g = V.heap.size:=⟨_,rfl⟩
  obtain ⟨W1,hW1⟩:∃ W,W = V.alloc (.cells #[.int .i64 pk,.int .i64 pn,.int .i64 pm,.slice A1 np c1] 25):=⟨_,rfl⟩
  have hb01:Below W0.heap.size W0 W1:=by rw [hW1]; exact HV.out.alloc HV.out.size _
  have HB1:Hid (Below wz.heap.size wz W1):=Lib.hid (bt HB0.out hb01)
  have HKX1:=Lib.hid (HKX.out.below hb01 HKX.out.lt)
  have HK1:Hid (Blk W1 gp 25 #[.int .i64 pk,.int .i64 pn,.int .i64 pm,.slice A1 np c1]):=Lib.hid (by rw [hW1,hgp]; exact Blk.new _ _ _)
  have HRP:Hid (Rep W1 (Lt W1.heap.size) 14 p (nd p A1 c1)):=Lib.hid (by
    rw [hW1]
    exact (HR.out.keep (Keeps.below (fun b hb=>hb.2) (below_new _ _))).mono fun b hb=>by show b < _; rw [size_alloc]; have:=hb.2; omega)
  rw [← hW1,← hgp]
  have HSP:Hid (∀ W,Below W1.heap.size W1 W→Calls Tryd.prog 11 #[.agg #[.int .i64 pk,.int .i64 pn,.int .i64 pm,.slice A1 np c1],.int .i64 at_,.int .i64 how,.int .i64 by_] W (SpPost p W)):=Lib.hid fun W hb=>by
    have h:=spoilt_is 14 p A1 c1 at_ how by_ W (rep_next HRP.out hb) (by have:=HF.out.size; omega) HRR.out.1 HRR.out.2.1 HRR.out.2.2
    rw [HPP.out.1,HPP.out.2.1,HPP.out.2.2.1,HPP.out.2.2.2] at h
    exact h
  obtain ⟨x0,x1,x2,x3⟩:W1.cell? ⟨gp,0,none⟩ = some (.int .i64 pk)∧W1.cell? ⟨gp,1,none⟩ = some (.int .i64 pn)∧W1.cell? ⟨gp,2,none⟩ = some (.int .i64 pm)∧W1.cell? ⟨gp,3,none⟩ = some (.slice A1 np c1):=⟨HK1.out.cell 0,HK1.out.cell 1,HK1.out.cell 2,HK1.out.cell 3⟩
  clear hnp hpk hpn hpm hW1 hgp HV HR HP hb01
  go_upto_region 3 with (go_at_call 11; refine (HSP.out _ (Below.refl _ _)).mono ?_; rintro e w2 ⟨q,Aq,cq,Dq,rfl,hsq,hrq,hb2⟩; have HSQ:=Lib.hid hsq; have HRQ:=Lib.hid hrq; have HB2:=Lib.hid hb2; clear hsq hrq hb2)
  clear x0 x1 x2 x3
  obtain ⟨nq,hnq⟩:∃ n,n = q.kids.length:=⟨_,rfl⟩
  obtain ⟨qk,hqk⟩:∃ z,z = q.k:=⟨_,rfl⟩
  obtain ⟨qn,hqn⟩:∃ z,z = q.n:=⟨_,rfl⟩
  obtain ⟨qm,hqm⟩:∃ z,z = q.m:=⟨_,rfl⟩
  have HQQ:Hid (q.kids.length = nq∧q.k = qk∧q.n = qn∧q.m = qm):=Lib.hid ⟨hnq.symm,hqk.symm,hqn.symm,hqm.symm⟩
  rw [← hnq,← hqk,← hqn,← hqm]
  obtain ⟨gq,hgq⟩:∃ g,g = w2.heap.size:=⟨_,rfl⟩
  obtain ⟨W2,hW2⟩:∃ W,W = w2.alloc (.cells #[.int .i64 qk,.int .i64 qn,.int .i64 qm,.slice Aq nq cq] 25):=⟨_,rfl⟩
  have hb2n:Below w2.heap.size w2 W2:=by rw [hW2]; exact below_new _ _
  have HB12:Hid (Below W1.heap.size W1 W2):=Lib.hid (bt HB2.out hb2n)
  have HKQ:Hid (Blk W2 gq 25 #[.int .i64 qk,.int .i64 qn,.int .i64 qm,.slice Aq nq cq]):=Lib.hid (by rw [hW2,hgq]; exact Blk.new _ _ _)
  have HRQ2:Hid (Rep W2 (Lt W2.heap.size) Dq q (nd q Aq cq)):=Lib.hid (rep_next HRQ.out hb2n)
  rw [← hW2,← hgq]
  have HSQ6:Hid (size q≤483):=Lib.hid (by have h1:=HSQ.out; have h2:=HF.out.size; omega)
  have HSP2:Hid (∀ (W:World) (z:Int),inRange z→Below W2.heap.size W2 W→Calls Tryd.prog 11 #[.agg #[.int .i64 qk,.int .i64 qn,.int .i64 qm,.slice Aq nq cq],.int .i64 by_,.int .i64 z,.int .i64 at_] W (SpPost q W)):=Lib.hid fun W z hz hb=>by
    have h:=spoilt_is Dq q Aq cq by_ z at_ W (rep_next HRQ2.out hb) (by have:=HSQ6.out; omega) HRR.out.2.2 hz HRR.out.1
    rw [HQQ.out.1,HQQ.out.2.1,HQQ.out.2.2.1,HQQ.out.2.2.2] at h
    exact h
  obtain ⟨x0,x1,x2,x3⟩:W2.cell? ⟨gq,0,none⟩ = some (.int .i64 qk)∧W2.cell? ⟨gq,1,none⟩ = some (.int .i64 qn)∧W2.cell? ⟨gq,2,none⟩ = some (.int .i64 qm)∧W2.cell? ⟨gq,3,none⟩ = some (.slice Aq nq cq):=⟨HKQ.out.cell 0,HKQ.out.cell 1,HKQ.out.cell 2,HKQ.out.cell 3⟩
  obtain ⟨h7,hh7⟩:∃ z,z = wrap64 (how.tdiv 7):=⟨_,rfl⟩
  have HI7:Hid (inRange h7):=Lib.hid (by rw [hh7]; exact inr_wrap _)
  have HH7:=Lib.hid hh7
  clear hnq hqk hqn hqm hW2 hgq hb2n HSP hh7
  go_upto_region 4 with (go_at_call 11; rw [← HH7.out]; refine (HSP2.out _ _ HI7.out (Below.refl _ _)).mono ?_; rintro e w3 ⟨r,Ar,cr,Dr,rfl,hsq,hrq,hb2⟩; have HSR:=Lib.hid hsq; have HRr:=Lib.hid hrq; have HB3:=Lib.hid hb2; clear hsq hrq hb2)
  clear x0 x1 x2 x3
  obtain ⟨nr,hnr⟩:∃ n,n = r.kids.length:=⟨_,rfl⟩
  obtain ⟨rk,hrk⟩:∃ z,z = r.k:=⟨_,rfl⟩
  obtain ⟨rn,hrn⟩:∃ z,z = r.n:=⟨_,rfl⟩
  obtain ⟨rm,hrm⟩:∃ z,z = r.m:=⟨_,rfl⟩
  have HRRr:Hid (r.kids.length = nr∧r.k = rk∧r.n = rn∧r.m = rm):=Lib.hid ⟨hnr.symm,hrk.symm,hrn.symm,hrm.symm⟩
  rw [← hnr,← hrk,← hrn,← hrm]
  obtain ⟨gr,hgr⟩:∃ g,g = w3.heap.size:=⟨_,rfl⟩
  obtain ⟨W3,hW3⟩:∃ W,W = w3.alloc (.cells #[.int .i64 rk,.int .i64 rn,.int .i64 rm,.slice Ar nr cr] 25):=⟨_,rfl⟩
  have hb3n:Below w3.heap.size w3 W3:=by rw [hW3]; exact below_new _ _
  have HB23:Hid (Below W2.heap.size W2 W3):=Lib.hid (bt HB3.out hb3n)
  have HKR:Hid (Blk W3 gr 25 #[.int .i64 rk,.int .i64 rn,.int .i64 rm,.slice Ar nr cr]):=Lib.hid (by rw [hW3,hgr]; exact Blk.new _ _ _)
  have HRr2:Hid (Rep W3 (Lt W3.heap.size) Dr r (nd r Ar cr)):=Lib.hid (rep_next HRr.out hb3n)
  rw [← hW3,← hgr]
  have HB13:Hid (Below W1.heap.size W1 W3):=Lib.hid (bt HB12.out HB23.out)
  have HBz3:Hid (Below wz.heap.size wz W3):=Lib.hid (bt HB1.out HB13.out)
  have HCL:Hid (∀ W,Below W3.heap.size W3 W→(W.cell? ⟨gp,0,none⟩ = some (.int .i64 pk)∧W.cell? ⟨gp,1,none⟩ = some (.int .i64 pn)∧W.cell? ⟨gp,2,none⟩ = some (.int .i64 pm)∧W.cell? ⟨gp,3,none⟩ = some (.slice A1 np c1))∧(W.cell? ⟨gq,0,none⟩ = some (.int .i64 qk)∧W.cell? ⟨gq,1,none⟩ = some (.int .i64 qn)∧W.cell? ⟨gq,2,none⟩ = some (.int .i64 qm)∧W.cell? ⟨gq,3,none⟩ = some (.slice Aq nq cq))∧(W.cell? ⟨gr,0,none⟩ = some (.int .i64 rk)∧W.cell? ⟨gr,1,none⟩ = some (.int .i64 rn)∧W.cell? ⟨gr,2,none⟩ = some (.int .i64 rm)∧W.cell? ⟨gr,3,none⟩ = some (.slice Ar nr cr))∧(W.cell? ⟨gx,0,none⟩ = some (.int .i64 xk)∧W.cell? ⟨gx,1,none⟩ = some (.int .i64 xn)∧W.cell? ⟨gx,2,none⟩ = some (.int .i64 xm)∧W.cell? ⟨gx,3,none⟩ = some (.slice Ax nx cx))):=Lib.hid fun W hb=>by
    have e1:=HK1.out.below (bt HB13.out hb) HK1.out.lt
    have e2:=HKQ.out.below (bt HB23.out hb) HKQ.out.lt
    have e3:=HKR.out.below hb HKR.out.lt
    have e4:=HKX1.out.below (bt HB13.out hb) HKX1.out.lt
    exact ⟨⟨e1.cell 0,e1.cell 1,e1.cell 2,e1.cell 3⟩,⟨e2.cell 0,e2.cell 1,e2.cell 2,e2.cell 3⟩,⟨e3.cell 0,e3.cell 1,e3.cell 2,e3.cell 3⟩,e4.cell 0,e4.cell 1,e4.cell 2,e4.cell 3⟩
  have HSR6:Hid (size r≤967):=Lib.hid (by have h1:=HSR.out; have h2:=HSQ6.out; omega)
  clear hnr hrk hrn hrm hW3 hgr hb3n HSP2 HH7 HI7
  refine wp_region_held_drew (S:=fun W=>Below W3.heap.size W3 W) (by kernel_rfl) (Below.refl _ _).drew (fun hS0=>?_)
  refine wpAnyH_take (i:=0) (v:=?_) rfl (by kernel_rfl) (by kernel_rfl) (by kernel_rfl) (fun _ _ _ h=>h) (Or.inl ⟨by rfl,?_⟩) hS0 ?_; rotate_left; (intro w hSw; (try dsimp only at hSw); obtain ⟨⟨e0,e1,e2,e3⟩,⟨e4,e5,e6,e7⟩,⟨e8,e9,e10,e11⟩,e12,e13,e14,e15⟩:=HCL.out w hSw; go_simp; try with_reducible rfl)
  refine wpAnyH_take (i:=1) (v:=?_) rfl (by kernel_rfl) (by kernel_rfl) (by kernel_rfl) (fun _ _ _ h=>h) (Or.inl ⟨by rfl,?_⟩) hS0 ?_; rotate_left; (intro w hSw; (try dsimp only at hSw); obtain ⟨⟨e0,e1,e2,e3⟩,⟨e4,e5,e6,e7⟩,⟨e8,e9,e10,e11⟩,e12,e13,e14,e15⟩:=HCL.out w hSw; go_simp; try with_reducible rfl)
  refine wpAnyH_take (i:=2) (v:=?_) rfl (by kernel_rfl) (by kernel_rfl) (by kernel_rfl) (fun _ _ _ h=>h) (Or.inl ⟨by rfl,?_⟩) hS0 ?_; rotate_left; (intro w hSw; (try dsimp only at hSw); obtain ⟨⟨e0,e1,e2,e3⟩,⟨e4,e5,e6,e7⟩,⟨e8,e9,e10,e11⟩,e12,e13,e14,e15⟩:=HCL.out w hSw; go_simp; try with_reducible rfl)
  refine wpAnyH_take (i:=3) (v:=?_) rfl (by kernel_rfl) (by kernel_rfl) (by kernel_rfl) (fun _ _ _ h=>h) (Or.inl ⟨by rfl,?_⟩) hS0 ?_; rotate_left; (intro w hSw; (try dsimp only at hSw); go_simp; try with_reducible rfl)
  refine wpAnyH_take (i:=5) (v:=?_) rfl (by kernel_rfl) (by kernel_rfl) (by kernel_rfl) (fun _ _ _ h=>h) (Or.inl ⟨by rfl,?_⟩) hS0 ?_; rotate_left; (intro w hSw; (try dsimp only at hSw); go_simp; try with_reducible rfl)
  refine wpAnyH_take (i:=7) (v:=?_) rfl (by kernel_rfl) (by kernel_rfl) (by kernel_rfl) (fun _ _ _ h=>h) (Or.inl ⟨by rfl,?_⟩) hS0 ?_; rotate_left; (intro w hSw; (try dsimp only at hSw); obtain ⟨⟨e0,e1,e2,e3⟩,⟨e4,e5,e6,e7⟩,⟨e8,e9,e10,e11⟩,e12,e13,e14,e15⟩:=HCL.out w hSw; go_simp; try with_reducible rfl)
  conv=>arg 8; simp [go_sem]
  conv=>arg 7; simp
  obtain ⟨w,hw⟩:∃ w,w = W3.drew:=⟨_,rfl⟩
  have hS:Below W3.heap.size W3 w:=by rw [hw]; exact hS0
  rw [← hw]
  clear hw hS0
  refine wpAnyH_ready (rs:=[4]) (by kernel_rfl) (by simp) ?_
  refine AllReadyH.cons rfl (fun K hK=>?_) AllReadyH.nil
  go_simp
  go_at_call 12
  refine (HPR.out _ (bt HBz3.out hS)).mono ?_
  rintro e w5 ⟨s,As,cs,rfl,his,hrs,hb5⟩
  try go_simp
  have hS5:=bt hS hb5
  refine hK.out _ _ hS5 (fun _=>?_)
  have HIS:=Lib.hid his
  have HRS:=Lib.hid hrs
  clear hK K his hrs hb5
  refine wpAnyH_ready (rs:=[6]) (by kernel_rfl) (by simp) ?_
  refine AllReadyH.cons rfl (fun K hK=>?_) AllReadyH.nil
  go_simp
  go_at_call 13
  refine (HTR.out _ (bt HBz3.out hS5)).mono ?_
  rintro e w6 ⟨v,Av,cv,rfl,hsv,hrv,hb6⟩
  have HSV:=Lib.hid hsv
  try go_simp
  have hS6:=bt hS5 hb6
  refine hK.out _ _ hS6 (fun _=>?_)
  clear hK K hsv
  obtain ⟨ba_,hba⟩:∃ z,z = w6.heap.size:=⟨_,rfl⟩
  obtain ⟨W4,hW4⟩:∃ W,W = w6.alloc (.cells #[.int .i64 pk,.int .i64 pn,.int .i64 pm,.slice A1 np c1,.int .i64 qk,.int .i64 qn,.int .i64 qm,.slice Aq nq cq,.int .i64 rk,.int .i64 rn,.int .i64 rm,.slice Ar nr cr,.int .i64 s.k,.int .i64 s.n,.int .i64 s.m,.slice As s.kids.length cs,.int .i64 v.k,.int .i64 v.n,.int .i64 v.m,.slice Av v.kids.length cv,.int .i64 xk,.int .i64 xn,.int .i64 xm,.slice Ax nx cx] 25):=⟨_,rfl⟩
  have r34:(bsN 6 #[(0,.agg #[.int .i64 pk,.int .i64 pn,.int .i64 pm,.slice A1 np c1]),(1,.agg #[.int .i64 qk,.int .i64 qn,.int .i64 qm,.slice Aq nq cq]),(2,.agg #[.int .i64 rk,.int .i64 rn,.int .i64 rm,.slice Ar nr cr]),(3,.agg #[.int .i64 s.k,.int .i64 s.n,.int .i64 s.m,.slice As s.kids.length cs]),(4,.agg #[.int .i64 v.k,.int .i64 v.n,.int .i64 v.m,.slice Av v.kids.length cv]),(5,.agg #[.int .i64 xk,.int .i64 xn,.int .i64 xm,.slice Ax nx cx])]).run Tryd.prog w6 = .ok (.slice (some ⟨ba_,0,none⟩) 6 6) W4:=by rw [hW4,hba]; exact run_bs6N w6 _ _ _ _ _ _ _ _ _ _ _ _ _ _ _ _ _ _ _ _ _ _ _ _
  have k34:Blk W4 ba_ 25 #[.int .i64 pk,.int .i64 pn,.int .i64 pm,.slice A1 np c1,.int .i64 qk,.int .i64 qn,.int .i64 qm,.slice Aq nq cq,.int .i64 rk,.int .i64 rn,.int .i64 rm,.slice Ar nr cr,.int .i64 s.k,.int .i64 s.n,.int .i64 s.m,.slice As s.kids.length cs,.int .i64 v.k,.int .i64 v.n,.int .i64 v.m,.slice Av v.kids.length cv,.int .i64 xk,.int .i64 xn,.int .i64 xm,.slice Ax nx cx]:=by rw [hW4,hba]; exact Blk.new _ _ _
  have hb64:Below w6.heap.size w6 W4:=by rw [hW4]; exact below_new _ _
  have hS4:=bt hS6 hb64
  have HY:Hid (∀ i,i < 6→∃ (y:T) (Ay:Option Addr) (cy D:Nat),EYc W4 ba_ i y Ay cy D):=Lib.hid (by
    intro i hi6
    have h6:i = 0∨i = 1∨i = 2∨i = 3∨i = 4∨i = 5:=by omega
    rcases h6 with rfl | rfl | rfl | rfl | rfl | rfl
    · refine ⟨p,A1,c1,14,fun j y hy=>?_,rep_next HRP.out (bt HB13.out hS4),by have:=HF.out.size; omega⟩
      rw [k34.cell]
      have e:nd p A1 c1 = [.int .i64 pk,.int .i64 pn,.int .i64 pm,.slice A1 np c1]:=by unfold nd; rw [HPP.out.1,HPP.out.2.1,HPP.out.2.2.1,HPP.out.2.2.2]
      rw [e] at hy
      match j,hy with | 0,hy=>exact hy | 1,hy=>exact hy | 2,hy=>exact hy | 3,hy=>exact hy
    · refine ⟨q,Aq,cq,Dq,fun j y hy=>?_,rep_next HRQ2.out (bt HB23.out hS4),by have:=HSQ6.out; omega⟩
      rw [k34.cell]
      have e:nd q Aq cq = [.int .i64 qk,.int .i64 qn,.int .i64 qm,.slice Aq nq cq]:=by unfold nd; rw [HQQ.out.1,HQQ.out.2.1,HQQ.out.2.2.1,HQQ.out.2.2.2]
      rw [e] at hy
      match j,hy with | 0,hy=>exact hy | 1,hy=>exact hy | 2,hy=>exact hy | 3,hy=>exact hy
    · refine ⟨r,Ar,cr,Dr,fun j y hy=>?_,rep_next HRr2.out hS4,by have:=HSR6.out; omega⟩
      rw [k34.cell]
      have e:nd r Ar cr = [.int .i64 rk,.int .i64 rn,.int .i64 rm,.slice Ar nr cr]:=by unfold nd; rw [HRRr.out.1,HRRr.out.2.1,HRRr.out.2.2.1,HRRr.out.2.2.2]
      rw [e] at hy
      match j,hy with | 0,hy=>exact hy | 1,hy=>exact hy | 2,hy=>exact hy | 3,hy=>exact hy
    · refine ⟨s,As,cs,11,fun j y hy=>?_,rep_next (HRS.out.mono fun b hb=>hb.2) (bt hb6 hb64),by have:=HIS.out.2.2.1; omega⟩
      rw [k34.cell]
      match j,hy with | 0,hy=>exact hy | 1,hy=>exact hy | 2,hy=>exact hy | 3,hy=>exact hy
    · refine ⟨v,Av,cv,6,fun j y hy=>?_,rep_next (hrv.mono fun b hb=>hb.2) hb64,by have:=HSV.out; omega⟩
      rw [k34.cell]
      match j,hy with | 0,hy=>exact hy | 1,hy=>exact hy | 2,hy=>exact hy | 3,hy=>exact hy
    · refine ⟨x,Ax,cx,Dx,fun j y hy=>?_,rep_next HRX.out.1 (bt HBz3.out hS4),HRX.out.2⟩
      rw [k34.cell]
      have e:nd x Ax cx = [.int .i64 xk,.int .i64 xn,.int .i64 xm,.slice Ax nx cx]:=by unfold nd; rw [HXX.out.1,HXX.out.2.1,HXX.out.2.2.1,HXX.out.2.2.2]
      rw [e] at hy
      match j,hy with | 0,hy=>exact hy | 1,hy=>exact hy | 2,hy=>exact hy | 3,hy=>exact hy)
  have HB4:Hid (Below wz.heap.size wz W4):=Lib.hid (bt HBz3.out hS4)
  have HB34:Hid (Below W3.heap.size W3 W4):=Lib.hid hS4
  clear hba hW4 k34 hb64 hrv hb6 hS6 hS5
  refine wpAnyH_ready (rs:=[8]) (by kernel_rfl) (by simp) ?_
  refine AllReadyH.cons rfl (fun K hK=>?_) AllReadyH.nil
  go_simp
  refine hK.out _ _ hS4 (fun _=>?_)
  clear hK K r34
  refine wpAnyH_ready (rs:=[9]) (by kernel_rfl) (by simp) ?_
  refine AllReadyH.cons rfl (fun K hK=>?_) AllReadyH.nil
  go_simp
  refine hK.out _ _ hS4 (fun _=>?_)
  clear hK K
  refine wpAnyH_done (by kernel_rfl) ?_ _
  clear hS4 hS
  have HBX:Hid (∀ W,Below W4.heap.size W4 W→ST W∧0 < W.heap.size):=Lib.hid fun W hb=>by
    have h:=bt HB4.out hb
    exact ⟨HT.out.below h HG.out,Nat.lt_of_lt_of_le HG.out h.size⟩
  go_wp2_with fail
  go_loopw [19] (fun i wr=>∃ (kk:Nat),i = .int .i64 (kk:Int)∧kk≤6∧Hid (Below W4.heap.size W4 wr)) (fun i _=>6 - (intOf i).toNat)
  case atStart=>exact ⟨0,rfl,by omega,Below.refl _ _⟩
  case round =>
    obtain ⟨kk,rfl,hk6,HBR⟩:=hrel
    obtain ⟨Wi,hWi⟩:∃ W,W = wr:=⟨_,rfl⟩
    subst hWi
    by_cases hlt:kk < 6
    · have hlt2:(kk:Int) < 6:=by omega
      have hdk:decide (kk < 6) = true:=by simpa using hlt
      have hkb2:(0:Int)≤(kk:Int)∧(kk:Int) < 6:=⟨by omega,hlt2⟩
      obtain ⟨y,Ay,cy,D,hey⟩:=HY.out kk hlt
      have HEY:=Lib.hid hey
      obtain ⟨yk,hyk⟩:∃ z,z = y.k:=⟨_,rfl⟩
      obtain ⟨yn,hyn⟩:∃ z,z = y.n:=⟨_,rfl⟩
      obtain ⟨ym,hym⟩:∃ z,z = y.m:=⟨_,rfl⟩
      obtain ⟨yl,hyl⟩:∃ z,z = y.kids.length:=⟨_,rfl⟩
      obtain ⟨sz,hsz⟩:∃ z,z = size y:=⟨_,rfl⟩
      have hsz6:sz≤1000000:=by rw [hsz]; exact hey.size
      have hbl:ba_ < W4.heap.size:=block_lt_of_cell (hey.cell 0 _ rfl)
      have HCY:Hid (∀ W,Below W4.heap.size W4 W→W.cell? ⟨ba_,kk * 4,none⟩ = some (.int .i64 yk)∧W.cell? ⟨ba_,kk * 4 + 1,none⟩ = some (.int .i64 yn)∧W.cell? ⟨ba_,kk * 4 + 2,none⟩ = some (.int .i64 ym)∧W.cell? ⟨ba_,kk * 4 + 3,none⟩ = some (.slice Ay yl cy)):=Lib.hid fun W hb=>by
        have e:∀ j v,(nd y Ay cy)[j]? = some v→W.cell? ⟨ba_,kk * 4 + j,none⟩ = some v:=fun j v hv=>(hb.cell (p:=⟨ba_,kk * 4 + j,none⟩) hbl).trans (hey.cell j v hv)
        exact ⟨by rw [hyk]; exact e 0 _ rfl,by rw [hyn]; exact e 1 _ rfl,by rw [hym]; exact e 2 _ rfl,by rw [hyl]; exact e 3 _ rfl⟩
      have HSI:Hid (∀ W,Below W4.heap.size W4 W→Calls Tryd.prog 14 #[.agg #[.int .i64 yk,.int .i64 yn,.int .i64 ym,.slice Ay yl cy]] W fun e w'=>e = .returned (.int .i64 (sz:Int))∧Below W.heap.size W w'):=Lib.hid fun W hb=>by
        rw [hyk,hyn,hym,hyl,hsz]
        exact rsize_is D y (Lt W.heap.size) Ay cy W (rep_next hey.rep hb) (In.lt _) hey.size
      by_cases h400:sz≤400
      · have HSA : Hid (∀ W, Below W4.heap.size W4 W → Calls Tryd.prog 15 #[.agg #[.int .i64 yk, .int .i64 yn, .int .i64 ym, .slice Ay yl cy]] W fun e w' => e = .returned (.bool true) ∧ Below W.heap.size W w') := Lib.hid fun W hb => by
          rw [hyk,hyn,hym,hyl]
          exact same_is 400 y Ay cy W ((rep_next hey.rep hb).tight (by have:=depth_le_size y; omega)) (by omega) hey.size (HBX.out W hb).1 (HBX.out W hb).2
        have hd4:decide ((sz:Int)≤400) = true:=by simp; omega
        clear hey hyk hyn hym hyl hbl hsz
        obtain ⟨z0,z1,z2,z3⟩:=HCY.out Wi HBR.out
        go_wp2_with (first
          | (go_at_call 14; refine (HSI.out Wi HBR.out).mono ?_; rintro e wv ⟨rfl,hbv⟩; have HBV1:=Lib.hid (bt HBR.out hbv); obtain ⟨y0,y1,y2,y3⟩:=HCY.out _ HBV1.out; clear hbv)
          | (go_at_call 15; refine (HSA.out _ HBV1.out).mono ?_; rintro e wv2 ⟨rfl,hbv⟩; have HBV2:=Lib.hid (bt HBV1.out hbv); clear hbv))
        go_roundw
        case rel=>exact ⟨kk + 1,by go_num,by omega,HBV2.out⟩
        case measure=>simp [intOf]; omega
      · have hd4:decide ((sz:Int)≤400) = false:=by simp; omega
        clear hey hyk hyn hym hyl hbl hsz
        obtain ⟨z0,z1,z2,z3⟩:=HCY.out Wi HBR.out
        go_wp2_with (go_at_call 14; refine (HSI.out Wi HBR.out).mono ?_; rintro e wv ⟨rfl,hbv⟩; have HBV1:=Lib.hid (bt HBR.out hbv); clear hbv)
        go_roundw
        case rel=>exact ⟨kk + 1,by go_num,by omega,HBV1.out⟩
        case measure=>simp [intOf]; omega
    · have hdk:decide (kk < 6) = false:=by simpa using hlt
      obtain ⟨⟨e0,e1,e2,e3⟩,_⟩:=HCL.out _ (bt HB34.out HBR.out)
      have HIS2:Hid (Calls Tryd.prog 16 #[.agg #[.int .i64 pk,.int .i64 pn,.int .i64 pm,.slice A1 np c1],.slice none 0 0,.int .i64 0] Wi fun e w'=>e = .returned (.bool true)∧Below Wi.heap.size Wi w'):=Lib.hid (by
        have h:=is_is 13 p A1 c1 [] none 0 0 Wi (rep_next HRP.out (bt HB13.out (bt HB34.out HBR.out))) (by omega) (by have:=HF.out.size; omega) (HBX.out _ HBR.out).1 (HBX.out _ HBR.out).2 (reads_nil _ _) (by simp) (by rw [HF.out.chk]; simp) true (by rw [HF.out.chk]; simp)
        rw [HPP.out.1,HPP.out.2.1,HPP.out.2.2.1,HPP.out.2.2.2] at h
        exact h)
      go_wp2_with (first
        | (go_at_call 16; refine HIS2.out.mono ?_; rintro e wy ⟨rfl,hby⟩; have HBY:=Lib.hid (bt HBR.out hby); clear hby)
        | (go_at_call 17; refine (lives_is _ (HBX.out _ HBY.out).1 (HBX.out _ HBY.out).2).mono ?_; rintro e wl ⟨rfl,hbl⟩; have HBL:=Lib.hid (bt HBY.out hbl); clear hbl))
      go_ret
      exact ⟨rfl,bt HB4.out HBL.out⟩
end Go.Proofs.YtkkenbalpnmfmaaDoor
