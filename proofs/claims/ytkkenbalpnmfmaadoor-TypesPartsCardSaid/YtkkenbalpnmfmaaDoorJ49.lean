/- Texts joined. -/
import Derived.Test.YtkkenbalpnmfmaaDoorJ40
import Derived.Test.YtkkenbalpnmfmaaDoorJ36
import Derived.Test.YtkkenbalpnmfmaaDoorJ42
import Derived.Test.YtkkenbalpnmfmaaDoorJ43
import Derived.Test.YtkkenbalpnmfmaaDoorJ45
import Derived.Test.YtkkenbalpnmfmaaDoorJ48
import Derived.Test.YtkkenbalpnmfmaaDoorJ37
import Derived.Deep.RegionWith
import Derived.Deep.RegionHeld2
set_option linter.unusedVariables false
namespace Go.Proofs.YtkkenbalpnmfmaaDoor
open Go.RowKit WM TR TY

theorem cutKI (b o n c k:Nat) (hk:k≤c) (hc:c≠0):∀ W:World,(Instr.sliceAt 22 (.slice (some ⟨b,o,none⟩) n c) none (some (.int .i64 (k:Int))) none).run Tryd.prog W = .ok (.slice (some ⟨b,o,none⟩) k c) W:=by
 intro W
 rw [run_sliceAt_slice W 22 _ _ _ _ ints_slice,run_slice_h W 22 (some ⟨b,o,none⟩) n c ints_slice .i64 k (by omega) (by omega),ints_elem,size3]
 simp [sliced,hc,Addr.add]
theorem rd_head {w:World} {S:Nat→Prop} {A:Option Addr} {n k:Nat} {l:List Int} (h:Rd w S 1 A n (vi l)) (hk:k≤n):Rd w S 1 A k (vi (l.take k)):=by
 have hl:l.length = n:=by have:=h.1; simpa [vi] using this
 refine ⟨by simp [vi]; omega,fun hn=>?_⟩
 obtain ⟨ad,hA,hs,hc⟩:=h.2 (by omega)
 refine ⟨ad,hA,hs,fun j u hu=>hc j u ?_⟩
 unfold vi at hu ⊢
 rw [List.map_take,List.getElem?_take] at hu
 split at hu
 ·exact hu
 ·cases hu
set_option maxRecDepth 100000 in
set_option maxHeartbeats 16000000 in
theorem types_parts_is (HM : MadeC) (L M : List Int) (A B : Option Addr) (c cb : Nat) (con at_ : Int) (wz : World) (hL : Rd wz (Lt wz.heap.size) 1 A L.length (vi L)) (hM : Rd wz (Lt wz.heap.size) 1 B M.length (vi M)) (hrL : ∀ x ∈ L, inRange x) (hrM : ∀ x ∈ M, inRange x) (hlL : L.length ≤ 9223372036854775807) (hlM : M.length ≤ 9223372036854775807) (ha : inRange at_) (hT : ST wz) (hg : 0 < wz.heap.size) :
  Calls Tryd.prog 6 #[.slice A L.length c,.int .i64 con,.int .i64 at_,.slice B M.length cb] wz fun e w'=>e = .returned (.bool true)∧Below wz.heap.size wz w':=by
 have HP:Hid (Calls Tryd.prog 10 #[.slice A L.length c,.int .i64 con] wz (FinePost false wz)):=Lib.hid (lawProg_is HM L (Lt wz.heap.size) A c con wz hL (In.lt _) hrL hlL)
 have HM2:=Lib.hid (And.intro hM (And.intro hrM hlM))
 have HT:=Lib.hid hT
 have HG:=Lib.hid hg
 have HAT0:=Lib.hid ha
 obtain ⟨nl,hnl⟩:∃ z,z = L.length:=⟨_,rfl⟩
 obtain ⟨nm,hnm⟩:∃ z,z = M.length:=⟨_,rfl⟩
 have HNM:Hid (M.length = nm):=Lib.hid hnm.symm
 rw [← hnl] at HP ⊢
 rw [← hnm]
 clear hL hM hrL hrM hlL hlM hT hg hnl hnm HM ha
 go_enter Tryd.func6,Tryd.ntmps6
 go_upto_region 2 with (go_at_call 10; refine HP.out.mono ?_; rintro e V ⟨p,A1,c1,rfl,hf,hc,hp,hv⟩; have HF:=Lib.hid hf; have HR:=Lib.hid hp; have HV:=Lib.hid hv; clear hf hc hp hv)
 obtain ⟨np,hnp⟩:∃ n,n = p.kids.length:=⟨_,rfl⟩
 obtain ⟨pk,hpk⟩:∃ z,z = p.k:=⟨_,rfl⟩
 obtain ⟨pn,hpn⟩:∃ z,z = p.n:=⟨_,rfl⟩
 obtain ⟨pm,hpm⟩:∃ z,z = p.m:=⟨_,rfl⟩
 have HPP:Hid (p.kids.length = np∧p.k = pk∧p.n = pn∧p.m = pm):=Lib.hid ⟨hnp.symm,hpk.symm,hpn.symm,hpm.symm⟩
 rw [← hnp,← hpk,← hpn,← hpm]
 obtain ⟨gp,hgp⟩:∃ g,g = V.heap.size:=⟨_,rfl⟩
 obtain ⟨W1,hW1⟩:∃ W,W = V.alloc (.cells #[.int .i64 pk,.int .i64 pn,.int .i64 pm,.slice A1 np c1] 25):=⟨_,rfl⟩
 have HB1:Hid (Below wz.heap.size wz W1):=Lib.hid (by rw [hW1]; exact HV.out.alloc HV.out.size _)
 have HK1:Hid (Blk W1 gp 25 #[.int .i64 pk,.int .i64 pn,.int .i64 pm,.slice A1 np c1]):=Lib.hid (by rw [hW1,hgp]; exact Blk.new _ _ _)
 have HRP:Hid (Rep W1 (Lt W1.heap.size) 14 p (nd p A1 c1)):=Lib.hid (by
  rw [hW1]
  exact (HR.out.keep (Keeps.below (fun b hb=>hb.2) (below_new _ _))).mono fun b hb=>by show b < _; rw [size_alloc]; have:=hb.2; omega)
 rw [← hW1,← hgp]
 have HPA:Hid (Calls Tryd.prog 26 #[.agg #[.int .i64 pk,.int .i64 pn,.int .i64 pm,.slice A1 np c1]] W1 (PathsPost p W1)):=Lib.hid (by
  have h:=tpaths_is 14 p (Lt W1.heap.size) A1 c1 W1 HRP.out (In.lt _) (by have:=HF.out.size; omega)
  rw [HPP.out.1,HPP.out.2.1,HPP.out.2.2.1,HPP.out.2.2.2] at h
  exact h)
 have HCL:Hid (∀ W,Below W1.heap.size W1 W→W.cell? ⟨gp,0,none⟩ = some (.int .i64 pk)∧W.cell? ⟨gp,1,none⟩ = some (.int .i64 pn)∧W.cell? ⟨gp,2,none⟩ = some (.int .i64 pm)∧W.cell? ⟨gp,3,none⟩ = some (.slice A1 np c1)):=Lib.hid fun W hb=>by
  have e1:=HK1.out.below hb HK1.out.lt
  exact ⟨e1.cell 0,e1.cell 1,e1.cell 2,e1.cell 3⟩
 obtain ⟨x0,x1,x2,x3⟩:=HCL.out W1 (Below.refl _ _)
 obtain ⟨sz,hsz⟩:∃ z,z = size p:=⟨_,rfl⟩
 have hsz0:0 < sz:=by rw [hsz]; exact size_pos p
 have hsz2:sz≤241:=by rw [hsz]; exact HF.out.size
 have HSZ:Hid ((paths p).length = sz):=Lib.hid (by rw [paths_length,hsz])
 have hszn:((sz:Int) == 0) = false:=by rw [beq_eq_false_iff_ne]; omega
 have HSE:=Lib.hid hsz
 clear hnp hpk hpn hpm hW1 hgp HV HR HP hsz
 go_upto_region 5 with (go_at_call 26; refine HPA.out.mono ?_; rintro e w2 ⟨A2,c2,rfl,hc2,hps2,hb2⟩; rw [← HSE.out]; have HPS:=Lib.hid hps2; have HB2:=Lib.hid hb2; clear hc2 hps2 hb2)
 clear x0 x1 x2 x3 hszn
 go_wp2_with fail
 have HBX:Hid (∀ W,Below w2.heap.size w2 W→ST W∧0 < W.heap.size):=Lib.hid fun W hb=>by
  have h:=bt HB1.out (bt HB2.out hb)
  exact ⟨HT.out.below h HG.out,Nat.lt_of_lt_of_le HG.out h.size⟩
 go_loopw [11] (fun i wr=>∃ j:Nat,i = .int .i64 (j:Int)∧j≤sz∧Hid (Below w2.heap.size w2 wr)) (fun i _=>sz - (intOf i).toNat)
 case atStart=>exact ⟨0,rfl,Nat.zero_le _,Below.refl _ _⟩
 case round =>
  obtain ⟨j,rfl,hj,HBR⟩:=hrel
  obtain ⟨Wk,hWk⟩:∃ W,W = wr:=⟨_,rfl⟩
  subst hWk
  have HB1k:Hid (Below W1.heap.size W1 Wk):=Lib.hid (bt HB2.out HBR.out)
  by_cases hlt:j < sz
  ·have hdj:decide (j < sz) = true:=by simpa using hlt
   have HAR:Hid (∀ W,Calls Tryd.prog 21 #[.int .i64 at_,.int .i64 (sz:Int)] W fun e w'=>e = .returned (.int .i64 (arnd at_ sz))∧W = w'):=Lib.hid fun W=>around_is at_ sz HAT0.out (by omega) W
   obtain ⟨a0,ha0⟩:∃ a0:Nat,(a0:Int) = arnd at_ (sz:Int):=⟨(arnd at_ (sz:Int)).toNat,by have:=arnd_le (x:=at_) (n:=(sz:Int)) (by omega); omega⟩
   have ha1:a0 < sz:=by have:=arnd_le (x:=at_) (n:=(sz:Int)) (by omega); omega
   rw [← ha0] at HAR
   obtain ⟨jj,hjj⟩:∃ jj,jj = (a0 + j) % sz:=⟨_,rfl⟩
   have hjl:jj < sz:=by rw [hjj]; exact Nat.mod_lt _ hsz0
   have htm:((a0:Int) + (j:Int)).tmod (sz:Int) = (jj:Int):=by rw [hjj]; rw [Int.tmod_eq_emod_of_nonneg (by omega)]; norm_cast
   have hszz:¬ (sz:Int) = 0:=by omega
   have hij:(0:Int)≤(jj:Int)∧(jj:Int) < (sz:Int):=⟨by omega,by omega⟩
   obtain ⟨q,hq⟩:∃ q,(paths p)[jj]? = some q:=⟨_,List.getElem?_eq_getElem (by rw [HSZ.out]; exact hjl)⟩
   have hqm:=List.mem_of_getElem? hq
   obtain ⟨x,hx⟩:=at_some p q hqm
   obtain ⟨bP,oP,Aq,cq,hA,hbl,hcell,hcc,hrd⟩:=Ps.at_ HPS.out hq
   subst hA
   have hq6:q.length≤1000000:=Nat.le_trans (path_le p q hqm) (by have:=HF.out.size; omega)
   have hx0:Wk.cell? ⟨bP,oP + jj,none⟩ = some (.slice Aq q.length cq):=(HBR.out.cell (p:=⟨bP,oP + jj,none⟩) hbl.2).trans hcell
   have HRD:Hid (∀ W,Below Wk.heap.size Wk W→Rd W (Lt w2.heap.size) 1 Aq q.length (vi q)):=Lib.hid fun W hb=>(hrd.mono fun b h=>h.2).keep (Keeps.below (fun b h=>h) (bt HBR.out hb))
   obtain ⟨ql,hql⟩:∃ z,z = q.length:=⟨_,rfl⟩
   have HQL:=Lib.hid hql
   have hql6:ql≤1000000:=by omega
   have HCC:Hid (ql≤cq):=Lib.hid (by rw [hql]; exact hcc)
   rw [← hql] at HRD hx0
   obtain ⟨xk,hxk⟩:∃ z,z = x.k:=⟨_,rfl⟩
   obtain ⟨xn,hxn⟩:∃ z,z = x.n:=⟨_,rfl⟩
   obtain ⟨xm,hxm⟩:∃ z,z = x.m:=⟨_,rfl⟩
   obtain ⟨xl,hxl⟩:∃ z,z = x.kids.length:=⟨_,rfl⟩
   have HXX:Hid (xk = x.k∧xn = x.n∧xm = x.m∧xl = x.kids.length):=Lib.hid ⟨hxk,hxn,hxm,hxl⟩
   have HAT:Hid (∀ W,Below Wk.heap.size Wk W→Calls Tryd.prog 27 #[.agg #[.int .i64 pk,.int .i64 pn,.int .i64 pm,.slice A1 np c1],.slice Aq ql cq] W fun e w'=>∃ A' c' D,e = .returned (.tuple #[.agg #[.int .i64 xk,.int .i64 xn,.int .i64 xm,.slice A' xl c'],.bool true])∧Rep w' (Lt w'.heap.size) D x (nd x A' c')∧Below W.heap.size W w'):=Lib.hid fun W hb=>by
    have h:=tat_is 14 p (Lt W.heap.size) (Lt w2.heap.size) A1 c1 W q Aq cq (rep_next HRP.out (bt HB1k.out hb)) (by rw [← HQL.out]; exact HRD.out W hb) (In.lt _) (fun b hb2=>Nat.lt_of_lt_of_le hb2 (Nat.le_trans HBR.out.size hb.size)) (by have:=HF.out.size; omega) (by rw [← HQL.out]; exact HCC.out) (by rw [← HQL.out]; omega)
    rw [HPP.out.1,HPP.out.2.1,HPP.out.2.2.1,HPP.out.2.2.2,← HQL.out] at h
    refine h.mono ?_
    rintro e w' ⟨u',A',c',D,hu',rfl,hr',hb'⟩
    rw [hx] at hu' ⊢
    obtain rfl:x = u':=hu'
    exact ⟨A',c',D,by rw [HXX.out.1,HXX.out.2.1,HXX.out.2.2.1,HXX.out.2.2.2]; rfl,hr'.mono fun b hb2=>hb2.2,hb'⟩
   have HX:=Lib.hid hx
   have HQM:=Lib.hid hqm
   obtain ⟨d0,d1,d2,d3⟩:=HCL.out _ HB1k.out
   clear hq hqm hbl hcell hcc hrd hql hq6 hx hxk hxn hxm hxl ha0 hjj
   go_upto_region 9 with (go_at_call 21; refine (HAR.out _).mono ?_; rintro e w7 ⟨rfl,hw7⟩; subst hw7)
   clear htm hij hjl HAR
   go_upto_region 10 with (go_at_call 27; refine (HAT.out _ (Below.refl _ _)).mono ?_; rintro e w9 ⟨A9,c9,D9,rfl,hr9,hb9⟩; have HR9:=Lib.hid hr9; have HB9:=Lib.hid hb9; clear hr9 hb9)
   obtain ⟨gx,hgx⟩:∃ g,g = w9.heap.size:=⟨_,rfl⟩
   obtain ⟨W9,hW9⟩:∃ W,W = w9.alloc (.cells #[.int .i64 xk,.int .i64 xn,.int .i64 xm,.slice A9 xl c9] 25):=⟨_,rfl⟩
   have hb9n:Below w9.heap.size w9 W9:=by rw [hW9]; exact below_new _ _
   have HBk9:Hid (Below Wk.heap.size Wk W9):=Lib.hid (bt HB9.out hb9n)
   have HKX:Hid (Blk W9 gx 25 #[.int .i64 xk,.int .i64 xn,.int .i64 xm,.slice A9 xl c9]):=Lib.hid (by rw [hW9,hgx]; exact Blk.new _ _ _)
   have HRX:Hid (Rep W9 (Lt W9.heap.size) D9 x (nd x A9 c9)):=Lib.hid (rep_next HR9.out hb9n)
   rw [← hW9,← hgx]
   clear hW9 hgx hb9n d0 d1 d2 d3 hx0 HAT HR9 HB9
   by_cases h3:ql < 3
   ·have hd3:decide ((ql:Int) < 3) = true:=by simp; omega
    go_wp2_with fail
    go_roundw
    case rel=>exact ⟨j + 1,by go_num,by omega,bt HBR.out HBk9.out⟩
    case measure=>simp [intOf]; omega
   ·have hd3:decide ((ql:Int) < 3) = false:=by simp; omega
    have HRE:Hid (Calls Tryd.prog 28 #[.agg #[.int .i64 xk,.int .i64 xn,.int .i64 xm,.slice A9 xl c9]] W9 fun e w'=>e = .returned (.bool (isEx x.k))∧Below W9.heap.size W9 w'):=Lib.hid (by
     rw [HXX.out.1,HXX.out.2.1,HXX.out.2.2.1]
     exact rexpr_is x A9 xl c9 W9)
    obtain ⟨ex,hex⟩:∃ b,b = isEx x.k:=⟨_,rfl⟩
    rw [← hex] at HRE
    have HEX:=Lib.hid hex
    clear hex
    obtain ⟨s0,s1,s2,s3⟩:W9.cell? ⟨gx,0,none⟩ = some (.int .i64 xk)∧W9.cell? ⟨gx,1,none⟩ = some (.int .i64 xn)∧W9.cell? ⟨gx,2,none⟩ = some (.int .i64 xm)∧W9.cell? ⟨gx,3,none⟩ = some (.slice A9 xl c9):=⟨HKX.out.cell 0,HKX.out.cell 1,HKX.out.cell 2,HKX.out.cell 3⟩
    cases ex with
    | false =>
     go_wp2_with (go_at_call 28; refine HRE.out.mono ?_; rintro e w10 ⟨rfl,hb10⟩; have HB10:=Lib.hid (bt HBk9.out hb10); clear hb10)
     go_roundw
     case rel=>exact ⟨j + 1,by go_num,by omega,bt HBR.out HB10.out⟩
     case measure=>simp [intOf]; omega
    | true =>
     obtain ⟨k,u,blk,i,b,hpl⟩:=pl_of HF.out.prog HX.out (by rw [← HQL.out]; omega) HEX.out.symm
     have HPL:=Lib.hid hpl
     have hprep:=put_prep (blk':=blk) HF.out hpl HEX.out.symm
     obtain ⟨ty,hty⟩:∃ ty,ty = typeOf (scO p u) x:=⟨_,rfl⟩
     have hty01:ty = 0∨ty = 1:=by rw [hty]; exact hprep.2.2.2.2.1
     have HTY:=Lib.hid hty
     have hes:=es_sub blk x (es_at _ _ _ hpl.at_ HEX.out.symm)
     have hdx:depth x≤14:=by
      have h1:=hes.2.1
      have h2:=depth_mem (List.mem_of_getElem? hpl.bl)
      have h3:=depth_mem (List.mem_of_getElem? hpl.hu)
      have h4:=HRP.out.depth_le
      omega
     have hsx:size x≤241:=by
      have h1:=hes.1
      have h2:=size_mem (List.mem_of_getElem? hpl.bl)
      have h3:=size_mem (List.mem_of_getElem? hpl.hu)
      have h4:=HF.out.size
      omega
     have HRX14:Hid (Rep W9 (Lt W9.heap.size) 14 x (nd x A9 c9)):=Lib.hid (HRX.out.tight hdx)
     have HB19:Hid (Below W1.heap.size W1 W9):=Lib.hid (bt HB1k.out HBk9.out)
     have HBX9:Hid (∀ W,Below W9.heap.size W9 W→ST W∧0 < W.heap.size):=Lib.hid fun W hb=>HBX.out W (bt HBR.out (bt HBk9.out hb))
     have HOF:Hid (∀ W,Below W9.heap.size W9 W→Calls Tryd.prog 29 #[.agg #[.int .i64 pk,.int .i64 pn,.int .i64 pm,.slice A1 np c1],.int .i64 (k:Int),.agg #[.int .i64 xk,.int .i64 xn,.int .i64 xm,.slice A9 xl c9]] W fun e w'=>e = .returned (.tuple #[.agg #[.int .i64 ty,.int .i64 0,.int .i64 0,.slice none 0 0],.int .i64 0])∧Below W.heap.size W w'):=Lib.hid fun W hb=>by
      have h:=of_is 13 p x (k:Int) A1 A9 c1 c9 W (rep_next HRP.out (bt HB19.out hb)) (rep_next HRX14.out hb) (by omega) (by have:=HF.out.size; omega) (by omega) (HBX9.out W hb).1 (HBX9.out W hb).2
      rw [of_pl HF.out HPL.out HEX.out.symm,HPP.out.1,HPP.out.2.1,HPP.out.2.2.1,HPP.out.2.2.2,← HTY.out] at h
      rw [HXX.out.1,HXX.out.2.1,HXX.out.2.2.1,HXX.out.2.2.2]
      exact h
     have HANY:Hid (∀ (W:World) (kd:Int),(kd == 0 || kd == 1) = true→Below W9.heap.size W9 W→Calls Tryd.prog 30 #[.agg #[.int .i64 pk,.int .i64 pn,.int .i64 pm,.slice A1 np c1],.int .i64 (k:Int),.int .i64 kd,.slice B nm cb] W fun e w'=>∃ (y:T) (A':Option Addr) (c':Nat),e = .returned (.agg #[.int .i64 y.k,.int .i64 y.n,.int .i64 y.m,.slice A' y.kids.length c'])∧GE (scO p u) y kd∧size y≤7∧Rep w' (fun b=>W.heap.size≤b∧b < w'.heap.size) 3 y (nd y A' c')∧Below W.heap.size W w'):=Lib.hid fun W kd hk hb=>by
      have hbz:=bt HB1.out (bt HB19.out hb)
      have h:=any_is p u k A1 B c1 cb M kd W HF.out HPL.out.hu (rep_next HRP.out (bt HB19.out hb)) ((HM2.out.1.keep (Keeps.below (In.lt _) hbz)).mono fun b hb2=>Nat.lt_of_lt_of_le hb2 hbz.size) HM2.out.2.1 HM2.out.2.2 (by simpa using hk)
      rw [HPP.out.1,HPP.out.2.1,HPP.out.2.2.1,HPP.out.2.2.2,HNM.out] at h
      exact h
     have hrdk:=HRD.out W9 HBk9.out
     obtain ⟨bq,oq,hAq,hbq,hcq⟩:=hrdk.lit (by omega)
     subst hAq
     have hbq9:bq < W9.heap.size:=Nat.lt_of_lt_of_le hbq (Nat.le_trans HBR.out.size HBk9.out.size)
     have HPC:Hid (∀ W,Below W9.heap.size W9 W→W.cell? ⟨bq,oq,none⟩ = some (.int .i64 (k:Int))):=Lib.hid fun W hb=>(hb.cell (p:=⟨bq,oq,none⟩) hbq9).trans (hcq 0 _ (by rw [hpl.hq]; rfl))
     have HSET:Hid (∀ (W:World) (y:T) (Ay:Option Addr) (cy Dy:Nat),Below W9.heap.size W9 W→Rep W (Lt W.heap.size) Dy y (nd y Ay cy)→size y≤7→Calls Tryd.prog 31 #[.agg #[.int .i64 pk,.int .i64 pn,.int .i64 pm,.slice A1 np c1],.slice (some ⟨bq,oq,none⟩) ql cq,.agg #[.int .i64 y.k,.int .i64 y.n,.int .i64 y.m,.slice Ay y.kids.length cy]] W fun e w'=>∃ (p1:T) (A':Option Addr) (c' D:Nat),e = .returned (.tuple #[.agg #[.int .i64 p1.k,.int .i64 p1.n,.int .i64 p1.m,.slice A' p1.kids.length c'],.int .i64 0])∧(∃ blk',set? (i :: b) blk y = some blk'∧p1 = putP p u blk' k)∧size p1≤300∧Rep w' (Lt w'.heap.size) D p1 (nd p1 A' c')∧Below W.heap.size W w'):=Lib.hid fun W y Ay cy Dy hb hry hsy=>by
      obtain ⟨blk',hs1,hs2⟩:=pl_set (y:=y) HPL.out
      have h:=tset_is 14 Dy p y (Lt W.heap.size) (Lt w2.heap.size) (Lt W.heap.size) A1 Ay c1 cy W q (some ⟨bq,oq,none⟩) cq (rep_next HRP.out (bt HB19.out hb)) hry (by rw [← HQL.out]; exact HRD.out W (bt HBk9.out hb)) (In.lt _) (In.lt _) (fun b hb2=>Nat.lt_of_lt_of_le hb2 (Nat.le_trans HBR.out.size (Nat.le_trans HBk9.out.size hb.size))) (by have:=HF.out.size; omega) (by omega) (by rw [← HQL.out]; exact HCC.out) (by rw [← HQL.out]; omega)
      rw [HPP.out.1,HPP.out.2.1,HPP.out.2.2.1,HPP.out.2.2.2,← HQL.out] at h
      refine h.mono fun e w' hm=>?_
      rw [hs2] at hm
      obtain ⟨A',c',D,he,hr',hb'⟩:=hm.some_
      have hsz1:=set_size y q p _ hs2
      exact ⟨_,A',c',D,he,⟨blk',hs1,rfl⟩,by have:=HF.out.size; show size (putP p u blk' k)≤300; have h9:size (putP p u blk' k)≤size p + size y:=hsz1; omega,hr'.mono fun b hb2=>hb2.2,hb'⟩
     have hcqq:cq≠0:=by have:=HCC.out; omega
     have HHD:Hid (∀ W,Below W9.heap.size W9 W→Reads W W.heap.size 1 (some ⟨bq,oq,none⟩) (q.dropLast).length (vi q.dropLast)):=Lib.hid fun W hb=>by
      have h:=rd_head (HRD.out W (bt HBk9.out hb)) (k:=ql - 1) (by omega)
      have e:q.dropLast = q.take (ql - 1):=by rw [List.dropLast_eq_take,HQL.out]
      have e2:(q.dropLast).length = ql - 1:=by rw [List.length_dropLast,HQL.out]
      rw [e2,e]
      exact (h.mono (S':=Lt W.heap.size) fun b hb2=>Nat.lt_of_lt_of_le hb2 (Nat.le_trans HBR.out.size (Nat.le_trans HBk9.out.size hb.size))).reads (In.lt _)
     have HDL:Hid ((q.dropLast).length = ql - 1):=Lib.hid (by rw [List.length_dropLast,HQL.out])
     obtain ⟨d0,d1,d2,d3⟩:=HCL.out _ HB19.out
     have hq0:=HPC.out _ (Below.refl _ _)
     have hql0:(0:Int) < (ql:Int):=by omega
     clear hpl hprep hty hes hdx hsx hrdk hbq hcq HRX
     go_upto_region 13 with (go_at_call 28; refine HRE.out.mono ?_; rintro e w10 ⟨rfl,hb10⟩; have HB10:=Lib.hid hb10; have hq1:=HPC.out _ hb10; obtain ⟨v0,v1,v2,v3⟩:=HCL.out _ (bt HB19.out hb10); have hk10:=HKX.out.below hb10 HKX.out.lt; have t0:=hk10.cell 0; have t1:=hk10.cell 1; have t2:=hk10.cell 2; have t3:=hk10.cell 3; simp only [List.getElem?_toArray,List.getElem?_cons_zero,List.getElem?_cons_succ] at t0 t1 t2 t3; clear hb10 hk10)
     go_upto_region 14 with (go_at_call 29; refine (HOF.out _ HB10.out).mono ?_; rintro e w11 ⟨rfl,hb11⟩; have HB11:=Lib.hid (bt HB10.out hb11); clear hb11)
     obtain ⟨gt,hgt⟩:∃ g,g = w11.heap.size:=⟨_,rfl⟩
     obtain ⟨W11,hW11⟩:∃ W,W = w11.alloc (.cells #[.int .i64 ty,.int .i64 0,.int .i64 0,.slice none 0 0] 25):=⟨_,rfl⟩
     have HB11n:Hid (Below W9.heap.size W9 W11):=Lib.hid (by rw [hW11]; exact bt HB11.out (below_new _ _))
     have HKT:Hid (Blk W11 gt 25 #[.int .i64 ty,.int .i64 0,.int .i64 0,.slice none 0 0]):=Lib.hid (by rw [hW11,hgt]; exact Blk.new _ _ _)
     rw [← hW11,← hgt]
     clear hW11 hgt d0 d1 d2 d3 hq0 hq1 v0 v1 v2 v3 t0 t1 t2 t3 s0 s1 s2 s3 HB11 HB10 HRE HOF
     have HTC:Hid (∀ W,Below W11.heap.size W11 W→(W.cell? ⟨gt,0,none⟩ = some (.int .i64 ty))∧(W.cell? ⟨gp,0,none⟩ = some (.int .i64 pk)∧W.cell? ⟨gp,1,none⟩ = some (.int .i64 pn)∧W.cell? ⟨gp,2,none⟩ = some (.int .i64 pm)∧W.cell? ⟨gp,3,none⟩ = some (.slice A1 np c1))):=Lib.hid fun W hb=>⟨(HKT.out.below hb HKT.out.lt).cell 0,HCL.out _ (bt HB19.out (bt HB11n.out hb))⟩
     obtain ⟨tc,d0,d1,d2,d3⟩:=HTC.out _ (Below.refl _ _)
     rcases hty01 with hty | hty
     all_goals
      subst hty
      go_upto_region 17 with (go_at_call 30; refine (HANY.out _ _ ?hk HB11n.out).mono ?_; (case hk=>decide); rintro e w12 ⟨y1,A12,c12,rfl,hge,hsy,hry,hb⟩; have HGE1:=Lib.hid hge; have HSY1:=Lib.hid hsy; have HRY1:=Lib.hid hry; have HB12:=Lib.hid hb; clear hge hsy hry hb)
      clear tc d0 d1 d2 d3
      obtain ⟨g1,hg1⟩:∃ g,g = w12.heap.size:=⟨_,rfl⟩
      obtain ⟨W12,hW12⟩:∃ W,W = w12.alloc (.cells #[.int .i64 y1.k,.int .i64 y1.n,.int .i64 y1.m,.slice A12 y1.kids.length c12] 25):=⟨_,rfl⟩
      have hb12n:Below w12.heap.size w12 W12:=by rw [hW12]; exact below_new _ _
      have HB12n:Hid (Below W11.heap.size W11 W12):=Lib.hid (bt HB12.out hb12n)
      have HK12:Hid (Blk W12 g1 25 #[.int .i64 y1.k,.int .i64 y1.n,.int .i64 y1.m,.slice A12 y1.kids.length c12]):=Lib.hid (by rw [hW12,hg1]; exact Blk.new _ _ _)
      have HR12:Hid (Rep W12 (Lt W12.heap.size) 3 y1 (nd y1 A12 c12)):=Lib.hid (rep_next (HRY1.out.mono fun b hb=>hb.2) hb12n)
      rw [← hW12,← hg1]
      clear hW12 hg1 hb12n HRY1 HB12
      obtain ⟨tc,d0,d1,d2,d3⟩:=HTC.out _ HB12n.out
      go_upto_region 18 with (go_at_call 30; refine (HANY.out _ _ ?hk (bt HB11n.out HB12n.out)).mono ?_; (case hk=>decide); rintro e w13 ⟨y2,A13,c13,rfl,hge,hsy,hry,hb⟩; have HGE2:=Lib.hid hge; have HSY2:=Lib.hid hsy; have HRY2:=Lib.hid hry; have HB13:=Lib.hid hb; clear hge hsy hry hb)
      clear tc d0 d1 d2 d3
      obtain ⟨g2,hg2⟩:∃ g,g = w13.heap.size:=⟨_,rfl⟩
      obtain ⟨W13,hW13⟩:∃ W,W = w13.alloc (.cells #[.int .i64 y2.k,.int .i64 y2.n,.int .i64 y2.m,.slice A13 y2.kids.length c13] 25):=⟨_,rfl⟩
      have hb13n:Below w13.heap.size w13 W13:=by rw [hW13]; exact below_new _ _
      have HB13n:Hid (Below W12.heap.size W12 W13):=Lib.hid (bt HB13.out hb13n)
      have HK13:Hid (Blk W13 g2 25 #[.int .i64 y2.k,.int .i64 y2.n,.int .i64 y2.m,.slice A13 y2.kids.length c13]):=Lib.hid (by rw [hW13,hg2]; exact Blk.new _ _ _)
      have HR13:Hid (Rep W13 (Lt W13.heap.size) 3 y2 (nd y2 A13 c13)):=Lib.hid (rep_next (HRY2.out.mono fun b hb=>hb.2) hb13n)
      rw [← hW13,← hg2]
      clear hW13 hg2 hb13n HRY2 HB13
      have HB113:Hid (Below W11.heap.size W11 W13):=Lib.hid (bt HB12n.out HB13n.out)
      obtain ⟨tc,d0,d1,d2,d3⟩:=HTC.out _ HB113.out
      have hk:=HK12.out.below HB13n.out HK12.out.lt
      have z0:=hk.cell 0; have z1:=hk.cell 1; have z2:=hk.cell 2; have z3:=hk.cell 3
      simp only [List.getElem?_toArray,List.getElem?_cons_zero,List.getElem?_cons_succ] at z0 z1 z2 z3
      clear hk
      go_upto_region 19 with (go_at_call 31; refine (HSET.out _ y1 A12 c12 3 (bt HB11n.out HB113.out) (rep_next HR12.out HB13n.out) HSY1.out).mono ?_; rintro e w14 ⟨p1,Ap,cp,Dp,rfl,hp1,hs1,hrp,hb⟩; have HP1:=Lib.hid hp1; have HS1:=Lib.hid hs1; have HRP1:=Lib.hid hrp; have HB14:=Lib.hid hb; clear hp1 hs1 hrp hb)
      clear tc d0 d1 d2 d3 z0 z1 z2 z3
      obtain ⟨g3,hg3⟩:∃ g,g = w14.heap.size:=⟨_,rfl⟩
      obtain ⟨W14,hW14⟩:∃ W,W = w14.alloc (.cells #[.int .i64 p1.k,.int .i64 p1.n,.int .i64 p1.m,.slice Ap p1.kids.length cp] 25):=⟨_,rfl⟩
      have hb14n:Below w14.heap.size w14 W14:=by rw [hW14]; exact below_new _ _
      have HB14n:Hid (Below W13.heap.size W13 W14):=Lib.hid (bt HB14.out hb14n)
      have HK14:Hid (Blk W14 g3 25 #[.int .i64 p1.k,.int .i64 p1.n,.int .i64 p1.m,.slice Ap p1.kids.length cp]):=Lib.hid (by rw [hW14,hg3]; exact Blk.new _ _ _)
      have HR14:Hid (Rep W14 (Lt W14.heap.size) Dp p1 (nd p1 Ap cp)):=Lib.hid (rep_next HRP1.out hb14n)
      rw [← hW14,← hg3]
      clear hW14 hg3 hb14n HRP1 HB14
      have HB114:Hid (Below W11.heap.size W11 W14):=Lib.hid (bt HB113.out HB14n.out)
      obtain ⟨tc,d0,d1,d2,d3⟩:=HTC.out _ HB114.out
      have hk:=HK13.out.below HB14n.out HK13.out.lt
      have z0:=hk.cell 0; have z1:=hk.cell 1; have z2:=hk.cell 2; have z3:=hk.cell 3
      simp only [List.getElem?_toArray,List.getElem?_cons_zero,List.getElem?_cons_succ] at z0 z1 z2 z3
      clear hk
      go_upto_region 20 with (go_at_call 31; refine (HSET.out _ y2 A13 c13 3 (bt HB11n.out HB114.out) (rep_next HR13.out HB14n.out) HSY2.out).mono ?_; rintro e w15 ⟨p2,Aq,c15,Dq,rfl,hp1,hs1,hrp,hb⟩; have HP2:=Lib.hid hp1; have HS2:=Lib.hid hs1; have HRP2:=Lib.hid hrp; have HB15:=Lib.hid hb; clear hp1 hs1 hrp hb)
      clear tc d0 d1 d2 d3 z0 z1 z2 z3
      obtain ⟨g4,hg4⟩:∃ g,g = w15.heap.size:=⟨_,rfl⟩
      obtain ⟨W15,hW15⟩:∃ W,W = w15.alloc (.cells #[.int .i64 p2.k,.int .i64 p2.n,.int .i64 p2.m,.slice Aq p2.kids.length c15] 25):=⟨_,rfl⟩
      have hb15n:Below w15.heap.size w15 W15:=by rw [hW15]; exact below_new _ _
      have HB15n:Hid (Below W14.heap.size W14 W15):=Lib.hid (bt HB15.out hb15n)
      have HK15:Hid (Blk W15 g4 25 #[.int .i64 p2.k,.int .i64 p2.n,.int .i64 p2.m,.slice Aq p2.kids.length c15]):=Lib.hid (by rw [hW15,hg4]; exact Blk.new _ _ _)
      have HR15:Hid (Rep W15 (Lt W15.heap.size) Dq p2 (nd p2 Aq c15)):=Lib.hid (rep_next HRP2.out hb15n)
      rw [← hW15,← hg4]
      clear hW15 hg4 hb15n HRP2 HB15
      go_upto_region 22 with fail
      have HB9f:Hid (∀ W,Below W15.heap.size W15 W→Below W9.heap.size W9 W):=Lib.hid fun W hb=>bt HB11n.out (bt HB114.out (bt HB15n.out hb))
      have HC1:Hid (isProg p1 = true→chk p1 = ([],0)):=Lib.hid fun hq=>by
       obtain ⟨blk',hs,e⟩:=HP1.out
       rw [e] at hq ⊢
       exact part_ok HF.out HPL.out HEX.out.symm (by rw [← HTY.out]; exact HGE1.out) hs hq
      have HC2:Hid (isProg p2 = true→chk p2 = (q.dropLast,12)):=Lib.hid fun hq=>by
       obtain ⟨blk',hs,e⟩:=HP2.out
       rw [e] at hq ⊢
       exact part_bad HF.out HPL.out HEX.out.symm HGE2.out (by decide) (by rw [← HTY.out]; decide) hs hq
      obtain ⟨v1,hv1⟩:∃ v,v = isProg p1:=⟨_,rfl⟩
      obtain ⟨v2,hv2⟩:∃ v,v = isProg p2:=⟨_,rfl⟩
      have HR1f:Hid (∀ W,Below W15.heap.size W15 W→Rep W (Lt W.heap.size) 301 p1 (nd p1 Ap cp)):=Lib.hid fun W hb=>(rep_next (rep_next HR14.out HB15n.out) hb).tight (by have h1:=depth_le_size p1; have h2:=HS1.out; omega)
      have HR2f:Hid (∀ W,Below W15.heap.size W15 W→Rep W (Lt W.heap.size) 301 p2 (nd p2 Aq c15)):=Lib.hid fun W hb=>(rep_next HR15.out hb).tight (by have h1:=depth_le_size p2; have h2:=HS2.out; omega)
      have HV1:Hid (∀ W,Below W15.heap.size W15 W→Calls Tryd.prog 18 #[.agg #[.int .i64 p1.k,.int .i64 p1.n,.int .i64 p1.m,.slice Ap p1.kids.length cp]] W fun e w'=>e = .returned (.bool v1)∧Below W.heap.size W w'):=Lib.hid fun W hb=>by
       rw [hv1]
       exact tvalid_is 301 p1 (Lt W.heap.size) Ap cp W (HR1f.out W hb) (In.lt _) (by have:=HS1.out; omega) (HBX9.out W (HB9f.out W hb)).1 (HBX9.out W (HB9f.out W hb)).2
      have HV2:Hid (∀ W,Below W15.heap.size W15 W→Calls Tryd.prog 18 #[.agg #[.int .i64 p2.k,.int .i64 p2.n,.int .i64 p2.m,.slice Aq p2.kids.length c15]] W fun e w'=>e = .returned (.bool v2)∧Below W.heap.size W w'):=Lib.hid fun W hb=>by
       rw [hv2]
       exact tvalid_is 301 p2 (Lt W.heap.size) Aq c15 W (HR2f.out W hb) (In.lt _) (by have:=HS2.out; omega) (HBX9.out W (HB9f.out W hb)).1 (HBX9.out W (HB9f.out W hb)).2
      obtain ⟨q1,hq1⟩:∃ q1,q1 = ql - 1:=⟨_,rfl⟩
      have HI1:Hid (v1 = true→∀ W,Below W15.heap.size W15 W→Calls Tryd.prog 16 #[.agg #[.int .i64 p1.k,.int .i64 p1.n,.int .i64 p1.m,.slice Ap p1.kids.length cp],.slice none 0 0,.int .i64 0] W fun e w'=>e = .returned (.bool true)∧Below W.heap.size W w'):=Lib.hid fun h1 W hb=>by
       have hc:=HC1.out (hv1.symm.trans h1)
       exact is_is 300 p1 Ap cp [] none 0 0 W (HR1f.out W hb) (by omega) (by have:=HS1.out; omega) (HBX9.out W (HB9f.out W hb)).1 (HBX9.out W (HB9f.out W hb)).2 (reads_nil _ _) (by simp) (by rw [hc]; simp) true (by rw [hc]; simp)
      have HI2:Hid (v2 = true→∀ W,Below W15.heap.size W15 W→Calls Tryd.prog 16 #[.agg #[.int .i64 p2.k,.int .i64 p2.n,.int .i64 p2.m,.slice Aq p2.kids.length c15],.slice (some ⟨bq,oq,none⟩) q1 cq,.int .i64 12] W fun e w'=>e = .returned (.bool true)∧Below W.heap.size W w'):=Lib.hid fun h1 W hb=>by
       have hc:=HC2.out (hv2.symm.trans h1)
       rw [hq1,← HDL.out]
       exact is_is 300 p2 Aq c15 q.dropLast (some ⟨bq,oq,none⟩) cq 12 W (HR2f.out W hb) (by omega) (by have:=HS2.out; omega) (HBX9.out W (HB9f.out W hb)).1 (HBX9.out W (HB9f.out W hb)).2 (HHD.out W (HB9f.out W hb)) (by rw [HDL.out]; omega) (by rw [hc,HDL.out]; omega) true (by rw [hc]; simp)
      have hnum:IntKind.i64.wrap ((ql:Int) - 1) = (q1:Int):=by rw [IntKind.wrap_i64]; omega
      have hqw:IntKind.i64.wrap (q1:Int) = (q1:Int):=by rw [IntKind.wrap_i64]; omega
      have hqc:(0:Int)≤(q1:Int)∧(q1:Int)≤(cq:Int):=⟨by omega,by have:=HCC.out; omega⟩
      have hcut:=cutKI bq oq ql cq q1 (by have:=HCC.out; omega) hcqq
      have HL:Hid (∀ W,Below W15.heap.size W15 W→((W.cell? ⟨g3,0,none⟩ = some (.int .i64 p1.k)∧W.cell? ⟨g3,1,none⟩ = some (.int .i64 p1.n)∧W.cell? ⟨g3,2,none⟩ = some (.int .i64 p1.m)∧W.cell? ⟨g3,3,none⟩ = some (.slice Ap p1.kids.length cp))∧(W.cell? ⟨g4,0,none⟩ = some (.int .i64 p2.k)∧W.cell? ⟨g4,1,none⟩ = some (.int .i64 p2.n)∧W.cell? ⟨g4,2,none⟩ = some (.int .i64 p2.m)∧W.cell? ⟨g4,3,none⟩ = some (.slice Aq p2.kids.length c15)))):=Lib.hid fun W hb=>by
       have e1:=HK14.out.below (bt HB15n.out hb) HK14.out.lt
       have e2:=HK15.out.below hb HK15.out.lt
       exact ⟨⟨e1.cell 0,e1.cell 1,e1.cell 2,e1.cell 3⟩,e2.cell 0,e2.cell 1,e2.cell 2,e2.cell 3⟩
      clear hq1 hv1 hv2
      cases v1 <;> cases v2
      ·refine wp_region_held_drew (S:=fun W=>Below W15.heap.size W15 W) (by kernel_rfl) (Below.refl _ _).drew (fun hS=>?_)
       refine wpAnyH_take (i:=0) (v:=?_) rfl (by kernel_rfl) (by kernel_rfl) (by kernel_rfl) (fun _ _ _ h=>h) (Or.inl ⟨by kernel_rfl,?_⟩) hS ?_; rotate_left; (intro w hSw; (try dsimp only at hSw); obtain ⟨⟨e0,e1,e2,e3⟩,_⟩:=HL.out w hSw; go_simp; try with_reducible rfl)
       refine wpAnyH_ready (rs:=[1]) (by kernel_rfl) (by simp) ?_
       refine AllReadyH.cons rfl (fun K hK=>?_) AllReadyH.nil
       go_simp
       go_at_call 18
       refine (HV1.out _ hS).mono ?_
       rintro e w16 ⟨rfl,hb16⟩
       try go_simp
       replace hS:=bt hS hb16
       clear hb16
       refine hK.out _ _ hS (fun _=>?_)
       clear hK K
       refine wpAnyH_take (i:=2) (v:=?_) rfl (by kernel_rfl) (by kernel_rfl) (by kernel_rfl) (fun _ _ _ h=>h) (Or.inl ⟨by kernel_rfl,?_⟩) hS ?_; rotate_left; (intro w hSw; (try dsimp only at hSw); go_simp; try with_reducible rfl)
       refine wpAnyH_take (i:=3) (v:=undef) rfl (by kernel_rfl) (by kernel_rfl) (by kernel_rfl) (fun _ _ _ h=>h) (Or.inr ⟨by kernel_rfl,rfl⟩) hS ?_
       refine wpAnyH_ready (rs:=[4]) (by kernel_rfl) (by simp) ?_
       refine AllReadyH.cons rfl (fun K hK=>?_) AllReadyH.nil
       go_simp
       refine hK.out _ _ hS (fun _=>?_)
       clear hK K
       refine wpAnyH_take (i:=5) (v:=undef) rfl (by kernel_rfl) (by kernel_rfl) (by kernel_rfl) (fun _ _ _ h=>h) (Or.inr ⟨by kernel_rfl,rfl⟩) hS ?_
       refine wpAnyH_take (i:=6) (v:=?_) rfl (by kernel_rfl) (by kernel_rfl) (by kernel_rfl) (fun _ _ _ h=>h) (Or.inl ⟨by kernel_rfl,?_⟩) hS ?_; rotate_left; (intro w hSw; (try dsimp only at hSw); go_simp; try with_reducible rfl)
       refine wpAnyH_take (i:=7) (v:=?_) rfl (by kernel_rfl) (by kernel_rfl) (by kernel_rfl) (fun _ _ _ h=>h) (Or.inl ⟨by kernel_rfl,?_⟩) hS ?_; rotate_left; (intro w hSw; (try dsimp only at hSw); go_simp; try with_reducible rfl)
       refine wpAnyH_take (i:=8) (v:=?_) rfl (by kernel_rfl) (by kernel_rfl) (by kernel_rfl) (fun _ _ _ h=>h) (Or.inl ⟨by kernel_rfl,?_⟩) hS ?_; rotate_left; (intro w hSw; (try dsimp only at hSw); obtain ⟨_,e0,e1,e2,e3⟩:=HL.out w hSw; go_simp; try with_reducible rfl)
       refine wpAnyH_ready (rs:=[9]) (by kernel_rfl) (by simp) ?_
       refine AllReadyH.cons rfl (fun K hK=>?_) AllReadyH.nil
       go_simp
       go_at_call 18
       refine (HV2.out _ hS).mono ?_
       rintro e w16 ⟨rfl,hb16⟩
       try go_simp
       replace hS:=bt hS hb16
       clear hb16
       refine hK.out _ _ hS (fun _=>?_)
       clear hK K
       refine wpAnyH_take (i:=10) (v:=?_) rfl (by kernel_rfl) (by kernel_rfl) (by kernel_rfl) (fun _ _ _ h=>h) (Or.inl ⟨by kernel_rfl,?_⟩) hS ?_; rotate_left; (intro w hSw; (try dsimp only at hSw); go_simp; try with_reducible rfl)
       refine wpAnyH_take (i:=11) (v:=undef) rfl (by kernel_rfl) (by kernel_rfl) (by kernel_rfl) (fun _ _ _ h=>h) (Or.inr ⟨by kernel_rfl,rfl⟩) hS ?_
       refine wpAnyH_take (i:=12) (v:=undef) rfl (by kernel_rfl) (by kernel_rfl) (by kernel_rfl) (fun _ _ _ h=>h) (Or.inr ⟨by kernel_rfl,rfl⟩) hS ?_
       refine wpAnyH_take (i:=13) (v:=undef) rfl (by kernel_rfl) (by kernel_rfl) (by kernel_rfl) (fun _ _ _ h=>h) (Or.inr ⟨by kernel_rfl,rfl⟩) hS ?_
       refine wpAnyH_take (i:=14) (v:=undef) rfl (by kernel_rfl) (by kernel_rfl) (by kernel_rfl) (fun _ _ _ h=>h) (Or.inr ⟨by kernel_rfl,rfl⟩) hS ?_
       refine wpAnyH_take (i:=15) (v:=undef) rfl (by kernel_rfl) (by kernel_rfl) (by kernel_rfl) (fun _ _ _ h=>h) (Or.inr ⟨by kernel_rfl,rfl⟩) hS ?_
       refine wpAnyH_take (i:=16) (v:=undef) rfl (by kernel_rfl) (by kernel_rfl) (by kernel_rfl) (fun _ _ _ h=>h) (Or.inr ⟨by kernel_rfl,rfl⟩) hS ?_
       refine wpAnyH_ready (rs:=[17]) (by kernel_rfl) (by simp) ?_
       refine AllReadyH.cons rfl (fun K hK=>?_) AllReadyH.nil
       go_simp
       refine hK.out _ _ hS (fun _=>?_)
       clear hK K
       refine wpAnyH_take (i:=18) (v:=undef) rfl (by kernel_rfl) (by kernel_rfl) (by kernel_rfl) (fun _ _ _ h=>h) (Or.inr ⟨by kernel_rfl,rfl⟩) hS ?_
       refine wpAnyH_take (i:=19) (v:=?_) rfl (by kernel_rfl) (by kernel_rfl) (by kernel_rfl) (fun _ _ _ h=>h) (Or.inl ⟨by kernel_rfl,?_⟩) hS ?_; rotate_left; (intro w hSw; (try dsimp only at hSw); go_simp; try with_reducible rfl)
       refine wpAnyH_take (i:=20) (v:=?_) rfl (by kernel_rfl) (by kernel_rfl) (by kernel_rfl) (fun _ _ _ h=>h) (Or.inl ⟨by kernel_rfl,?_⟩) hS ?_; rotate_left; (intro w hSw; (try dsimp only at hSw); go_simp; try with_reducible rfl)
       refine wpAnyH_done (by kernel_rfl) ?_ _
       have HB2k:=Lib.hid hS
       clear hS
       go_wp2_with (go_at_call 17; refine (lives_is _ (HBX9.out _ (HB9f.out _ HB2k.out)).1 (HBX9.out _ (HB9f.out _ HB2k.out)).2).mono ?_; rintro e wl ⟨rfl,hbl⟩; have HBL:=Lib.hid (bt HB19.out (bt HB11n.out (bt HB114.out (bt HB15n.out (bt HB2k.out hbl))))); clear hbl)
       go_ret
       exact ⟨rfl,bt HB1.out HBL.out⟩
      ·refine wp_region_held_drew (S:=fun W=>Below W15.heap.size W15 W) (by kernel_rfl) (Below.refl _ _).drew (fun hS=>?_)
       refine wpAnyH_take (i:=0) (v:=?_) rfl (by kernel_rfl) (by kernel_rfl) (by kernel_rfl) (fun _ _ _ h=>h) (Or.inl ⟨by kernel_rfl,?_⟩) hS ?_; rotate_left; (intro w hSw; (try dsimp only at hSw); obtain ⟨⟨e0,e1,e2,e3⟩,_⟩:=HL.out w hSw; go_simp; try with_reducible rfl)
       refine wpAnyH_ready (rs:=[1]) (by kernel_rfl) (by simp) ?_
       refine AllReadyH.cons rfl (fun K hK=>?_) AllReadyH.nil
       go_simp
       go_at_call 18
       refine (HV1.out _ hS).mono ?_
       rintro e w16 ⟨rfl,hb16⟩
       try go_simp
       replace hS:=bt hS hb16
       clear hb16
       refine hK.out _ _ hS (fun _=>?_)
       clear hK K
       refine wpAnyH_take (i:=2) (v:=?_) rfl (by kernel_rfl) (by kernel_rfl) (by kernel_rfl) (fun _ _ _ h=>h) (Or.inl ⟨by kernel_rfl,?_⟩) hS ?_; rotate_left; (intro w hSw; (try dsimp only at hSw); go_simp; try with_reducible rfl)
       refine wpAnyH_take (i:=3) (v:=undef) rfl (by kernel_rfl) (by kernel_rfl) (by kernel_rfl) (fun _ _ _ h=>h) (Or.inr ⟨by kernel_rfl,rfl⟩) hS ?_
       refine wpAnyH_ready (rs:=[4]) (by kernel_rfl) (by simp) ?_
       refine AllReadyH.cons rfl (fun K hK=>?_) AllReadyH.nil
       go_simp
       refine hK.out _ _ hS (fun _=>?_)
       clear hK K
       refine wpAnyH_take (i:=5) (v:=undef) rfl (by kernel_rfl) (by kernel_rfl) (by kernel_rfl) (fun _ _ _ h=>h) (Or.inr ⟨by kernel_rfl,rfl⟩) hS ?_
       refine wpAnyH_take (i:=6) (v:=?_) rfl (by kernel_rfl) (by kernel_rfl) (by kernel_rfl) (fun _ _ _ h=>h) (Or.inl ⟨by kernel_rfl,?_⟩) hS ?_; rotate_left; (intro w hSw; (try dsimp only at hSw); go_simp; try with_reducible rfl)
       refine wpAnyH_take (i:=7) (v:=?_) rfl (by kernel_rfl) (by kernel_rfl) (by kernel_rfl) (fun _ _ _ h=>h) (Or.inl ⟨by kernel_rfl,?_⟩) hS ?_; rotate_left; (intro w hSw; (try dsimp only at hSw); go_simp; try with_reducible rfl)
       refine wpAnyH_take (i:=8) (v:=?_) rfl (by kernel_rfl) (by kernel_rfl) (by kernel_rfl) (fun _ _ _ h=>h) (Or.inl ⟨by kernel_rfl,?_⟩) hS ?_; rotate_left; (intro w hSw; (try dsimp only at hSw); obtain ⟨_,e0,e1,e2,e3⟩:=HL.out w hSw; go_simp; try with_reducible rfl)
       refine wpAnyH_ready (rs:=[9]) (by kernel_rfl) (by simp) ?_
       refine AllReadyH.cons rfl (fun K hK=>?_) AllReadyH.nil
       go_simp
       go_at_call 18
       refine (HV2.out _ hS).mono ?_
       rintro e w16 ⟨rfl,hb16⟩
       try go_simp
       replace hS:=bt hS hb16
       clear hb16
       refine hK.out _ _ hS (fun _=>?_)
       clear hK K
       refine wpAnyH_take (i:=10) (v:=?_) rfl (by kernel_rfl) (by kernel_rfl) (by kernel_rfl) (fun _ _ _ h=>h) (Or.inl ⟨by kernel_rfl,?_⟩) hS ?_; rotate_left; (intro w hSw; (try dsimp only at hSw); go_simp; try with_reducible rfl)
       refine wpAnyH_take (i:=11) (v:=?_) rfl (by kernel_rfl) (by kernel_rfl) (by kernel_rfl) (fun _ _ _ h=>h) (Or.inl ⟨by kernel_rfl,?_⟩) hS ?_; rotate_left; (intro w hSw; (try dsimp only at hSw); obtain ⟨_,e0,e1,e2,e3⟩:=HL.out w hSw; go_simp; try with_reducible rfl)
       refine wpAnyH_take (i:=12) (v:=?_) rfl (by kernel_rfl) (by kernel_rfl) (by kernel_rfl) (fun _ _ _ h=>h) (Or.inl ⟨by kernel_rfl,?_⟩) hS ?_; rotate_left; (intro w hSw; (try dsimp only at hSw); go_simp; try with_reducible rfl)
       refine wpAnyH_take (i:=13) (v:=?_) rfl (by kernel_rfl) (by kernel_rfl) (by kernel_rfl) (fun _ _ _ h=>h) (Or.inl ⟨by kernel_rfl,?_⟩) hS ?_; rotate_left; (intro w hSw; (try dsimp only at hSw); go_simp; try with_reducible rfl)
       refine wpAnyH_take (i:=14) (v:=?_) rfl (by kernel_rfl) (by kernel_rfl) (by kernel_rfl) (fun _ _ _ h=>h) (Or.inl ⟨by kernel_rfl,?_⟩) hS ?_; rotate_left; (intro w hSw; (try dsimp only at hSw); go_simp; try with_reducible rfl)
       refine wpAnyH_take (i:=15) (v:=?_) rfl (by kernel_rfl) (by kernel_rfl) (by kernel_rfl) (fun _ _ _ h=>h) (Or.inl ⟨by kernel_rfl,?_⟩) hS ?_; rotate_left; (intro w hSw; (try dsimp only at hSw); go_simp; try with_reducible rfl)
       refine wpAnyH_take (i:=16) (v:=?_) rfl (by kernel_rfl) (by kernel_rfl) (by kernel_rfl) (fun _ _ _ h=>h) (Or.inl ⟨by kernel_rfl,?_⟩) hS ?_; rotate_left; (intro w hSw; (try dsimp only at hSw); go_simp; try with_reducible rfl)
       refine wpAnyH_ready (rs:=[17]) (by kernel_rfl) (by simp) ?_
       refine AllReadyH.cons rfl (fun K hK=>?_) AllReadyH.nil
       go_simp
       go_at_call 16
       refine (HI2.out rfl _ hS).mono ?_
       rintro e w16 ⟨rfl,hb16⟩
       try go_simp
       replace hS:=bt hS hb16
       clear hb16
       refine hK.out _ _ hS (fun _=>?_)
       clear hK K
       refine wpAnyH_take (i:=18) (v:=?_) rfl (by kernel_rfl) (by kernel_rfl) (by kernel_rfl) (fun _ _ _ h=>h) (Or.inl ⟨by kernel_rfl,?_⟩) hS ?_; rotate_left; (intro w hSw; (try dsimp only at hSw); go_simp; try with_reducible rfl)
       refine wpAnyH_take (i:=19) (v:=?_) rfl (by kernel_rfl) (by kernel_rfl) (by kernel_rfl) (fun _ _ _ h=>h) (Or.inl ⟨by kernel_rfl,?_⟩) hS ?_; rotate_left; (intro w hSw; (try dsimp only at hSw); go_simp; try with_reducible rfl)
       refine wpAnyH_take (i:=20) (v:=?_) rfl (by kernel_rfl) (by kernel_rfl) (by kernel_rfl) (fun _ _ _ h=>h) (Or.inl ⟨by kernel_rfl,?_⟩) hS ?_; rotate_left; (intro w hSw; (try dsimp only at hSw); go_simp; try with_reducible rfl)
       refine wpAnyH_done (by kernel_rfl) ?_ _
       have HB2k:=Lib.hid hS
       clear hS
       go_wp2_with (go_at_call 17; refine (lives_is _ (HBX9.out _ (HB9f.out _ HB2k.out)).1 (HBX9.out _ (HB9f.out _ HB2k.out)).2).mono ?_; rintro e wl ⟨rfl,hbl⟩; have HBL:=Lib.hid (bt HB19.out (bt HB11n.out (bt HB114.out (bt HB15n.out (bt HB2k.out hbl))))); clear hbl)
       go_ret
       exact ⟨rfl,bt HB1.out HBL.out⟩
      ·refine wp_region_held_drew (S:=fun W=>Below W15.heap.size W15 W) (by kernel_rfl) (Below.refl _ _).drew (fun hS=>?_)
       refine wpAnyH_take (i:=0) (v:=?_) rfl (by kernel_rfl) (by kernel_rfl) (by kernel_rfl) (fun _ _ _ h=>h) (Or.inl ⟨by kernel_rfl,?_⟩) hS ?_; rotate_left; (intro w hSw; (try dsimp only at hSw); obtain ⟨⟨e0,e1,e2,e3⟩,_⟩:=HL.out w hSw; go_simp; try with_reducible rfl)
       refine wpAnyH_ready (rs:=[1]) (by kernel_rfl) (by simp) ?_
       refine AllReadyH.cons rfl (fun K hK=>?_) AllReadyH.nil
       go_simp
       go_at_call 18
       refine (HV1.out _ hS).mono ?_
       rintro e w16 ⟨rfl,hb16⟩
       try go_simp
       replace hS:=bt hS hb16
       clear hb16
       refine hK.out _ _ hS (fun _=>?_)
       clear hK K
       refine wpAnyH_take (i:=2) (v:=?_) rfl (by kernel_rfl) (by kernel_rfl) (by kernel_rfl) (fun _ _ _ h=>h) (Or.inl ⟨by kernel_rfl,?_⟩) hS ?_; rotate_left; (intro w hSw; (try dsimp only at hSw); go_simp; try with_reducible rfl)
       refine wpAnyH_take (i:=3) (v:=?_) rfl (by kernel_rfl) (by kernel_rfl) (by kernel_rfl) (fun _ _ _ h=>h) (Or.inl ⟨by kernel_rfl,?_⟩) hS ?_; rotate_left; (intro w hSw; (try dsimp only at hSw); obtain ⟨⟨e0,e1,e2,e3⟩,_⟩:=HL.out w hSw; go_simp; try with_reducible rfl)
       refine wpAnyH_ready (rs:=[4]) (by kernel_rfl) (by simp) ?_
       refine AllReadyH.cons rfl (fun K hK=>?_) AllReadyH.nil
       go_simp
       go_at_call 16
       refine (HI1.out rfl _ hS).mono ?_
       rintro e w16 ⟨rfl,hb16⟩
       try go_simp
       replace hS:=bt hS hb16
       clear hb16
       refine hK.out _ _ hS (fun _=>?_)
       clear hK K
       refine wpAnyH_take (i:=5) (v:=?_) rfl (by kernel_rfl) (by kernel_rfl) (by kernel_rfl) (fun _ _ _ h=>h) (Or.inl ⟨by kernel_rfl,?_⟩) hS ?_; rotate_left; (intro w hSw; (try dsimp only at hSw); go_simp; try with_reducible rfl)
       refine wpAnyH_take (i:=6) (v:=?_) rfl (by kernel_rfl) (by kernel_rfl) (by kernel_rfl) (fun _ _ _ h=>h) (Or.inl ⟨by kernel_rfl,?_⟩) hS ?_; rotate_left; (intro w hSw; (try dsimp only at hSw); go_simp; try with_reducible rfl)
       refine wpAnyH_take (i:=7) (v:=?_) rfl (by kernel_rfl) (by kernel_rfl) (by kernel_rfl) (fun _ _ _ h=>h) (Or.inl ⟨by kernel_rfl,?_⟩) hS ?_; rotate_left; (intro w hSw; (try dsimp only at hSw); go_simp; try with_reducible rfl)
       refine wpAnyH_take (i:=8) (v:=?_) rfl (by kernel_rfl) (by kernel_rfl) (by kernel_rfl) (fun _ _ _ h=>h) (Or.inl ⟨by kernel_rfl,?_⟩) hS ?_; rotate_left; (intro w hSw; (try dsimp only at hSw); obtain ⟨_,e0,e1,e2,e3⟩:=HL.out w hSw; go_simp; try with_reducible rfl)
       refine wpAnyH_ready (rs:=[9]) (by kernel_rfl) (by simp) ?_
       refine AllReadyH.cons rfl (fun K hK=>?_) AllReadyH.nil
       go_simp
       go_at_call 18
       refine (HV2.out _ hS).mono ?_
       rintro e w16 ⟨rfl,hb16⟩
       try go_simp
       replace hS:=bt hS hb16
       clear hb16
       refine hK.out _ _ hS (fun _=>?_)
       clear hK K
       refine wpAnyH_take (i:=10) (v:=?_) rfl (by kernel_rfl) (by kernel_rfl) (by kernel_rfl) (fun _ _ _ h=>h) (Or.inl ⟨by kernel_rfl,?_⟩) hS ?_; rotate_left; (intro w hSw; (try dsimp only at hSw); go_simp; try with_reducible rfl)
       refine wpAnyH_take (i:=11) (v:=undef) rfl (by kernel_rfl) (by kernel_rfl) (by kernel_rfl) (fun _ _ _ h=>h) (Or.inr ⟨by kernel_rfl,rfl⟩) hS ?_
       refine wpAnyH_take (i:=12) (v:=undef) rfl (by kernel_rfl) (by kernel_rfl) (by kernel_rfl) (fun _ _ _ h=>h) (Or.inr ⟨by kernel_rfl,rfl⟩) hS ?_
       refine wpAnyH_take (i:=13) (v:=undef) rfl (by kernel_rfl) (by kernel_rfl) (by kernel_rfl) (fun _ _ _ h=>h) (Or.inr ⟨by kernel_rfl,rfl⟩) hS ?_
       refine wpAnyH_take (i:=14) (v:=undef) rfl (by kernel_rfl) (by kernel_rfl) (by kernel_rfl) (fun _ _ _ h=>h) (Or.inr ⟨by kernel_rfl,rfl⟩) hS ?_
       refine wpAnyH_take (i:=15) (v:=undef) rfl (by kernel_rfl) (by kernel_rfl) (by kernel_rfl) (fun _ _ _ h=>h) (Or.inr ⟨by kernel_rfl,rfl⟩) hS ?_
       refine wpAnyH_take (i:=16) (v:=undef) rfl (by kernel_rfl) (by kernel_rfl) (by kernel_rfl) (fun _ _ _ h=>h) (Or.inr ⟨by kernel_rfl,rfl⟩) hS ?_
       refine wpAnyH_ready (rs:=[17]) (by kernel_rfl) (by simp) ?_
       refine AllReadyH.cons rfl (fun K hK=>?_) AllReadyH.nil
       go_simp
       refine hK.out _ _ hS (fun _=>?_)
       clear hK K
       refine wpAnyH_take (i:=18) (v:=undef) rfl (by kernel_rfl) (by kernel_rfl) (by kernel_rfl) (fun _ _ _ h=>h) (Or.inr ⟨by kernel_rfl,rfl⟩) hS ?_
       refine wpAnyH_take (i:=19) (v:=?_) rfl (by kernel_rfl) (by kernel_rfl) (by kernel_rfl) (fun _ _ _ h=>h) (Or.inl ⟨by kernel_rfl,?_⟩) hS ?_; rotate_left; (intro w hSw; (try dsimp only at hSw); go_simp; try with_reducible rfl)
       refine wpAnyH_take (i:=20) (v:=?_) rfl (by kernel_rfl) (by kernel_rfl) (by kernel_rfl) (fun _ _ _ h=>h) (Or.inl ⟨by kernel_rfl,?_⟩) hS ?_; rotate_left; (intro w hSw; (try dsimp only at hSw); go_simp; try with_reducible rfl)
       refine wpAnyH_done (by kernel_rfl) ?_ _
       have HB2k:=Lib.hid hS
       clear hS
       go_wp2_with (go_at_call 17; refine (lives_is _ (HBX9.out _ (HB9f.out _ HB2k.out)).1 (HBX9.out _ (HB9f.out _ HB2k.out)).2).mono ?_; rintro e wl ⟨rfl,hbl⟩; have HBL:=Lib.hid (bt HB19.out (bt HB11n.out (bt HB114.out (bt HB15n.out (bt HB2k.out hbl))))); clear hbl)
       go_ret
       exact ⟨rfl,bt HB1.out HBL.out⟩
      ·refine wp_region_held_drew (S:=fun W=>Below W15.heap.size W15 W) (by kernel_rfl) (Below.refl _ _).drew (fun hS=>?_)
       refine wpAnyH_take (i:=0) (v:=?_) rfl (by kernel_rfl) (by kernel_rfl) (by kernel_rfl) (fun _ _ _ h=>h) (Or.inl ⟨by kernel_rfl,?_⟩) hS ?_; rotate_left; (intro w hSw; (try dsimp only at hSw); obtain ⟨⟨e0,e1,e2,e3⟩,_⟩:=HL.out w hSw; go_simp; try with_reducible rfl)
       refine wpAnyH_ready (rs:=[1]) (by kernel_rfl) (by simp) ?_
       refine AllReadyH.cons rfl (fun K hK=>?_) AllReadyH.nil
       go_simp
       go_at_call 18
       refine (HV1.out _ hS).mono ?_
       rintro e w16 ⟨rfl,hb16⟩
       try go_simp
       replace hS:=bt hS hb16
       clear hb16
       refine hK.out _ _ hS (fun _=>?_)
       clear hK K
       refine wpAnyH_take (i:=2) (v:=?_) rfl (by kernel_rfl) (by kernel_rfl) (by kernel_rfl) (fun _ _ _ h=>h) (Or.inl ⟨by kernel_rfl,?_⟩) hS ?_; rotate_left; (intro w hSw; (try dsimp only at hSw); go_simp; try with_reducible rfl)
       refine wpAnyH_take (i:=3) (v:=?_) rfl (by kernel_rfl) (by kernel_rfl) (by kernel_rfl) (fun _ _ _ h=>h) (Or.inl ⟨by kernel_rfl,?_⟩) hS ?_; rotate_left; (intro w hSw; (try dsimp only at hSw); obtain ⟨⟨e0,e1,e2,e3⟩,_⟩:=HL.out w hSw; go_simp; try with_reducible rfl)
       refine wpAnyH_ready (rs:=[4]) (by kernel_rfl) (by simp) ?_
       refine AllReadyH.cons rfl (fun K hK=>?_) AllReadyH.nil
       go_simp
       go_at_call 16
       refine (HI1.out rfl _ hS).mono ?_
       rintro e w16 ⟨rfl,hb16⟩
       try go_simp
       replace hS:=bt hS hb16
       clear hb16
       refine hK.out _ _ hS (fun _=>?_)
       clear hK K
       refine wpAnyH_take (i:=5) (v:=?_) rfl (by kernel_rfl) (by kernel_rfl) (by kernel_rfl) (fun _ _ _ h=>h) (Or.inl ⟨by kernel_rfl,?_⟩) hS ?_; rotate_left; (intro w hSw; (try dsimp only at hSw); go_simp; try with_reducible rfl)
       refine wpAnyH_take (i:=6) (v:=?_) rfl (by kernel_rfl) (by kernel_rfl) (by kernel_rfl) (fun _ _ _ h=>h) (Or.inl ⟨by kernel_rfl,?_⟩) hS ?_; rotate_left; (intro w hSw; (try dsimp only at hSw); go_simp; try with_reducible rfl)
       refine wpAnyH_take (i:=7) (v:=?_) rfl (by kernel_rfl) (by kernel_rfl) (by kernel_rfl) (fun _ _ _ h=>h) (Or.inl ⟨by kernel_rfl,?_⟩) hS ?_; rotate_left; (intro w hSw; (try dsimp only at hSw); go_simp; try with_reducible rfl)
       refine wpAnyH_take (i:=8) (v:=?_) rfl (by kernel_rfl) (by kernel_rfl) (by kernel_rfl) (fun _ _ _ h=>h) (Or.inl ⟨by kernel_rfl,?_⟩) hS ?_; rotate_left; (intro w hSw; (try dsimp only at hSw); obtain ⟨_,e0,e1,e2,e3⟩:=HL.out w hSw; go_simp; try with_reducible rfl)
       refine wpAnyH_ready (rs:=[9]) (by kernel_rfl) (by simp) ?_
       refine AllReadyH.cons rfl (fun K hK=>?_) AllReadyH.nil
       go_simp
       go_at_call 18
       refine (HV2.out _ hS).mono ?_
       rintro e w16 ⟨rfl,hb16⟩
       try go_simp
       replace hS:=bt hS hb16
       clear hb16
       refine hK.out _ _ hS (fun _=>?_)
       clear hK K
       refine wpAnyH_take (i:=10) (v:=?_) rfl (by kernel_rfl) (by kernel_rfl) (by kernel_rfl) (fun _ _ _ h=>h) (Or.inl ⟨by kernel_rfl,?_⟩) hS ?_; rotate_left; (intro w hSw; (try dsimp only at hSw); go_simp; try with_reducible rfl)
       refine wpAnyH_take (i:=11) (v:=?_) rfl (by kernel_rfl) (by kernel_rfl) (by kernel_rfl) (fun _ _ _ h=>h) (Or.inl ⟨by kernel_rfl,?_⟩) hS ?_; rotate_left; (intro w hSw; (try dsimp only at hSw); obtain ⟨_,e0,e1,e2,e3⟩:=HL.out w hSw; go_simp; try with_reducible rfl)
       refine wpAnyH_take (i:=12) (v:=?_) rfl (by kernel_rfl) (by kernel_rfl) (by kernel_rfl) (fun _ _ _ h=>h) (Or.inl ⟨by kernel_rfl,?_⟩) hS ?_; rotate_left; (intro w hSw; (try dsimp only at hSw); go_simp; try with_reducible rfl)
       refine wpAnyH_take (i:=13) (v:=?_) rfl (by kernel_rfl) (by kernel_rfl) (by kernel_rfl) (fun _ _ _ h=>h) (Or.inl ⟨by kernel_rfl,?_⟩) hS ?_; rotate_left; (intro w hSw; (try dsimp only at hSw); go_simp; try with_reducible rfl)
       refine wpAnyH_take (i:=14) (v:=?_) rfl (by kernel_rfl) (by kernel_rfl) (by kernel_rfl) (fun _ _ _ h=>h) (Or.inl ⟨by kernel_rfl,?_⟩) hS ?_; rotate_left; (intro w hSw; (try dsimp only at hSw); go_simp; try with_reducible rfl)
       refine wpAnyH_take (i:=15) (v:=?_) rfl (by kernel_rfl) (by kernel_rfl) (by kernel_rfl) (fun _ _ _ h=>h) (Or.inl ⟨by kernel_rfl,?_⟩) hS ?_; rotate_left; (intro w hSw; (try dsimp only at hSw); go_simp; try with_reducible rfl)
       refine wpAnyH_take (i:=16) (v:=?_) rfl (by kernel_rfl) (by kernel_rfl) (by kernel_rfl) (fun _ _ _ h=>h) (Or.inl ⟨by kernel_rfl,?_⟩) hS ?_; rotate_left; (intro w hSw; (try dsimp only at hSw); go_simp; try with_reducible rfl)
       refine wpAnyH_ready (rs:=[17]) (by kernel_rfl) (by simp) ?_
       refine AllReadyH.cons rfl (fun K hK=>?_) AllReadyH.nil
       go_simp
       go_at_call 16
       refine (HI2.out rfl _ hS).mono ?_
       rintro e w16 ⟨rfl,hb16⟩
       try go_simp
       replace hS:=bt hS hb16
       clear hb16
       refine hK.out _ _ hS (fun _=>?_)
       clear hK K
       refine wpAnyH_take (i:=18) (v:=?_) rfl (by kernel_rfl) (by kernel_rfl) (by kernel_rfl) (fun _ _ _ h=>h) (Or.inl ⟨by kernel_rfl,?_⟩) hS ?_; rotate_left; (intro w hSw; (try dsimp only at hSw); go_simp; try with_reducible rfl)
       refine wpAnyH_take (i:=19) (v:=?_) rfl (by kernel_rfl) (by kernel_rfl) (by kernel_rfl) (fun _ _ _ h=>h) (Or.inl ⟨by kernel_rfl,?_⟩) hS ?_; rotate_left; (intro w hSw; (try dsimp only at hSw); go_simp; try with_reducible rfl)
       refine wpAnyH_take (i:=20) (v:=?_) rfl (by kernel_rfl) (by kernel_rfl) (by kernel_rfl) (fun _ _ _ h=>h) (Or.inl ⟨by kernel_rfl,?_⟩) hS ?_; rotate_left; (intro w hSw; (try dsimp only at hSw); go_simp; try with_reducible rfl)
       refine wpAnyH_done (by kernel_rfl) ?_ _
       have HB2k:=Lib.hid hS
       clear hS
       go_wp2_with (go_at_call 17; refine (lives_is _ (HBX9.out _ (HB9f.out _ HB2k.out)).1 (HBX9.out _ (HB9f.out _ HB2k.out)).2).mono ?_; rintro e wl ⟨rfl,hbl⟩; have HBL:=Lib.hid (bt HB19.out (bt HB11n.out (bt HB114.out (bt HB15n.out (bt HB2k.out hbl))))); clear hbl)
       go_ret
       exact ⟨rfl,bt HB1.out HBL.out⟩
  ·have hdj:decide (j < sz) = false:=by simpa using hlt
   go_wp2_with (go_at_call 17; refine (lives_is _ (HBX.out _ HBR.out).1 (HBX.out _ HBR.out).2).mono ?_; rintro e wl ⟨rfl,hbl⟩; have HBL:=Lib.hid (bt HB1k.out hbl); clear hbl)
   go_ret
   exact ⟨rfl,bt HB1.out HBL.out⟩
end Go.Proofs.YtkkenbalpnmfmaaDoor
