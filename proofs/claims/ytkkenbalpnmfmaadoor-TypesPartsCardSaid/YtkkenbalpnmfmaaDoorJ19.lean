/- Texts joined. -/
import Derived.Test.YtkkenbalpnmfmaaDoorJ18
import Derived.Deep.RegionHeld2
set_option linter.unusedVariables false
namespace Go.Proofs.YtkkenbalpnmfmaaDoor
open Go.RowKit WM TR TY

set_option maxRecDepth 100000 in
set_option maxHeartbeats 100000000 in
theorem made_is (L : List Int) (S : Nat → Prop) (A : Option Addr) (c : Nat) (con : Bool) (w : World) (hL : Rd w S 1 A L.length (vi L)) (hin : In S w.heap.size) (hr : ∀ x ∈ L, inRange x) (hl : L.length ≤ 9223372036854775807) :
  Calls Tryd.prog 68 #[.slice A L.length c,.bool con] w (MadePost con w):=by
 obtain ⟨i0,hi,hz0,hz1,hz2⟩:=info_parts node_info
 have HL:=Lib.hid hL
 have HI:=Lib.hid hin
 have HRL:=Lib.hid hr
 have HLL:=Lib.hid hl
 obtain ⟨r,hrr⟩:∃ r,r = w.heap.size:=⟨_,rfl⟩
 have HRR:=Lib.hid hrr
 obtain ⟨g,hgg⟩:∃ g,g = r + 1:=⟨_,rfl⟩
 have HGG:=Lib.hid hgg
 obtain ⟨W1,hW1⟩:∃ W1,W1 = (w.alloc (.cells #[.int .i64 0,.int .i64 0,.int .i64 0,.slice none 0 0] 25)).alloc (.cells #[.slice A L.length c,.int .i64 0,.int .i64 32,.int .i64 0,.int .i64 0,.int .i64 0,.slice none 0 0,.int .i64 0,.bool con] 83):=⟨_,rfl⟩
 have HW1:=Lib.hid hW1
 have HB1:Hid (Below w.heap.size w W1):=Lib.hid (by rw [hW1]; exact ba (below_new _ _) _)
 have HK1:Hid (Blk W1 g 83 #[.slice A L.length c,.int .i64 0,.int .i64 32,.int .i64 0,.int .i64 0,.int .i64 0,.slice none 0 0,.int .i64 0,.bool con]):=Lib.hid (by rw [hW1,hgg,hrr]; exact blk_new2 _ _ _ _)
 have HZ1:Hid (Blk W1 r 25 #[.int .i64 0,.int .i64 0,.int .i64 0,.slice none 0 0]):=Lib.hid (by rw [hW1,hrr]; exact blk_new3 _ _ _ _)
 have HSZ1:Hid (W1.heap.size = g + 1):=Lib.hid (by rw [hW1,hgg,hrr]; simp)
 have hrg:r < g:=by omega
 clear hrr hW1 hL hin hr hl hgg
 go_enter Tryd.func68,Tryd.ntmps68
 have x3:=HK1.out.cell 3
 have y3:=HK1.out.frozen 3
 simp only [List.getElem?_toArray,List.getElem?_cons_zero,List.getElem?_cons_succ] at x3
 go_upto_region 2 with fail
 rw [← HW1.out,← HRR.out,← HGG.out]
 obtain ⟨W2,hW2⟩:∃ W,W = W1.setCell ⟨g,3,none⟩ (.int .i64 27):=⟨_,rfl⟩
 have HW2:=Lib.hid hW2
 have HM2:Hid (Mk (mP L A c 0 [] none 0 0 con g S none 0) 0 32 W2):=Lib.hid (by rw [hW2]; have h:=HK1.out.set_ 3 (.int .i64 27); simpa [Mk,Par.cells,mP,pOf] using h)
 have HB2:Hid (Below w.heap.size w W2):=Lib.hid (by rw [hW2]; exact HB1.out.setCell (by show w.heap.size≤g; have:=HRR.out; omega) _)
 have HZ2:Hid (Blk W2 r 25 #[.int .i64 0,.int .i64 0,.int .i64 0,.slice none 0 0]):=Lib.hid (by rw [hW2]; exact HZ1.out.gw (gw_setCell (gw_refl W1 g) (.inl rfl) _) (by omega))
 have HSZ2:Hid (W2.heap.size = g + 1):=Lib.hid (by rw [hW2,World.size_setCell]; exact HSZ1.out)
 have HN2:Hid (∀ N fs AP cP F vA vc,Nx (mP L A c N fs AP cP F con g S vA vc) W2):=Lib.hid fun N fs AP cP F vA vc=>⟨HL.out.keep (Keeps.below HI.out HB2.out),HRL.out,HLL.out,fun b hb=>by have:=HI.out b hb; have:=HRR.out; show b≠g; omega,HI.out.more HB2.out.size⟩
 clear hW2
 go_cut [] from 16 to 19 (fun wv=>W2 = wv)
 case first =>
  go_wp2_with fail
  go_meet
  exact HW2.out
 case rest =>
 have hwc:W2 = wc:=hcut
 subst hwc
 rename_i hK
 refine hK _ _ ?_
 clear hK
 go_step
 clear x3 y3 HK1 HZ1 HB1 HSZ1 HW2
 go_cut [] from 20 to 30 (fun wv=>∃ (V:World) (N:Int) (a:Nat) (l:Int),V = wv∧Hid (0≤N∧N≤2∧(con = true→1≤N)∧a≤1∧32≤l∧l≤36∧Mk (mP L A c N [] none 0 0 con g S none 0) a l V∧W2.grownBy V (some g)))
 case first =>
  cases con with
  | false =>
   go_wp2_with fail
   go_meet
   exact ⟨_,0,0,32,rfl,by omega,by omega,by simp,by omega,by omega,by omega,HM2.out,gw_refl _ _⟩
  | true =>
   obtain ⟨q,HQ,hq2⟩:=zletter (L:=L) 0 2 (by omega)
   have hqw:IntKind.i64.wrap (1 + (q:Int)) = 1 + (q:Int):=by rw [IntKind.wrap_i64]; omega
   go_wp2_with (go_at_call 86; refine (drawM 2 HM2.out (HN2.out 0 [] none 0 0 none 0) (by omega) (by omega)).mono ?_; rintro e w3 ⟨rfl,hm2,hg2⟩; rw [HQ.out]; have HM3:=Lib.hid hm2.cs; have HG3:=Lib.hid hg2; have c4:=HM3.out.cell 4; have f4:=HM3.out.frozen 4; have c2:=HM3.out.cell 2; have f2:=HM3.out.frozen 2; simp only [List.getElem?_toArray,List.getElem?_cons_zero,List.getElem?_cons_succ] at c4 c2; clear hm2 hg2)
   go_meet
   exact ⟨_,1 + q,1,36,rfl,by omega,by omega,fun _=>by omega,by omega,by omega,by omega,by
    have h:=(HM3.out.set_ 4 (.int .i64 (1 + (q:Int)))).set_ 2 (.int .i64 36)
    exact Mk.of (by simpa using h),gw_setCell (gw_setCell HG3.out (.inl rfl) _) (.inl rfl) _⟩
 case rest =>
 obtain ⟨V,N,a,l,hwc,HV⟩:=hcut
 subst hwc
 have HNB:Hid (0≤N∧N≤2∧(con = true→1≤N)):=Lib.hid ⟨HV.out.1,HV.out.2.1,HV.out.2.2.1⟩
 have ha:a≤1:=HV.out.2.2.2.1
 have hl32:32≤l∧l≤36:=⟨HV.out.2.2.2.2.1,HV.out.2.2.2.2.2.1⟩
 have HMV:=Lib.hid HV.out.2.2.2.2.2.2.1
 have HGV:=Lib.hid HV.out.2.2.2.2.2.2.2
 clear HV HM2
 obtain ⟨q,HQ,hq3⟩:=zletter (L:=L) a 3 (by omega)
 obtain ⟨n,hn⟩:∃ n:Nat,n = 1 + q:=⟨_,rfl⟩
 have hnw:IntKind.i64.wrap (1 + (q:Int)) = (n:Int):=by rw [IntKind.wrap_i64]; omega
 have hn3:1≤n∧n≤3:=by omega
 clear hn
 go_upto_region 7 with (go_at_call 86; refine (drawM 3 HMV.out ((HN2.out N [] none 0 0 none 0).gw HGV.out) (by omega) (by omega)).mono ?_; rintro e w3 ⟨rfl,hm2,hg2⟩; rw [HQ.out]; have HM3:=Lib.hid hm2; have HG3:=Lib.hid (gw_trans HGV.out hg2); clear hm2 hg2)
 try rw [hnw]
 clear hnw
 go_wp2_with fail
 go_loopw [7] (fun i wr=>∃ (fs:List FI) (AP:Option Addr) (cP a':Nat) (l':Int),i = .int .i64 (fs.length:Int)∧fs.length≤n∧Hid (Mk (mP L A c N fs AP cP 0 con g S none 0) a' l' wr∧P2 g 12 wr AP cP fs∧W2.grownBy wr (some g)∧(∀ f ∈ fs,FIOk f∧f.blk = nilB)∧l - 20 * fs.length≤l'∧l'≤l∧a'≤5 + 200 * fs.length)) (fun i _=>n - (intOf i).toNat)
 case atStart=>exact ⟨[],none,0,a + 1,l,rfl,Nat.zero_le _,HM3.out,⟨by simp,⟨[],World.ownsRow_nil _ _ _ _,fun j f hj=>by simp at hj⟩,fun f hf=>by simp at hf,fun j f hj=>by simp at hj,fun f hf=>by simp at hf⟩,HG3.out,fun f hf=>by simp at hf,by simp,by omega,by simp; omega⟩
 case round =>
  obtain ⟨fs,AP,cP,a',l',rfl,hfn,HRW⟩:=hrel
  obtain ⟨j,hj⟩:∃ j,j = fs.length:=⟨_,rfl⟩
  have HJ:=Lib.hid hj
  rw [← hj] at hfn ⊢
  have hall:l - 20 * j≤l'∧l'≤l∧a'≤5 + 200 * j:=by rw [hj]; exact HRW.out.2.2.2.2
  clear hj
  obtain ⟨W0,hW0⟩:∃ W,W = wr:=⟨_,rfl⟩
  subst hW0
  by_cases hlt:j < n
  ·have hlt2:(j:Int) < n:=by omega
   have hd0:decide (j < n) = true:=by simpa using hlt
   obtain ⟨np,HNP,hnp3⟩:=zletter (L:=L) a' 3 (by omega)
   have hnp2:np≤2:=by omega
   go_upto_region 11 with (go_at_call 86; refine (drawM 3 HRW.out.1 ((HN2.out N fs AP cP 0 none 0).gw HRW.out.2.2.1) (by omega) (by omega)).mono ?_; rintro e w9 ⟨rfl,hm2,hg2⟩; rw [HNP.out]; have HMr:=Lib.hid hm2; have HGr:=Lib.hid (gw_trans HRW.out.2.2.1 hg2); have HPr:=Lib.hid (HRW.out.2.1.gw hg2); clear hm2 hg2)
   obtain ⟨Wr,hWr⟩:∃ W,W = w9:=⟨_,rfl⟩
   subst hWr
   have HFr:=Lib.hid HRW.out.2.2.2.1
   clear HRW
   obtain ⟨pxs,hrow,hprop⟩:=HPr.out.row
   rw [← HJ.out] at hrow
   have HROW:=Lib.hid hrow
   have HPROP:=Lib.hid hprop
   have hgr:g < Wr.heap.size:=HMr.out.lt
   have hvP:∀ b,(Value.slice AP j cP).ownBlock = some b→g + 1≤b∧b < Wr.heap.size:=hrow.lt
   have HVP:=Lib.hid hvP
   clear hrow hprop hvP
   have HMd:Hid (Mk (mP L A c N fs AP cP 0 con g S none 0) (a' + 1) l' Wr.drew):=Lib.hid HMr.out.drew
   have hb0:Wr.grownBy Wr.drew (some g):=gw_drew (gw_refl _ _)
   have HVC:Hid (∀ W,Wr.grownBy W (some g)→Mk (mP L A c N fs AP cP 0 con g S none 0) (a' + 1) l' W→Calls Tryd.prog 92 #[.pointer (some ⟨g,0,none⟩),.int .i64 (np:Int)] W (VarsPost (mP L A c N fs AP cP 0 con g S none 0) np (a' + 1) l' W)):=Lib.hid fun W hg hm=>variables_is (mP L A c N fs AP cP 0 con g S none 0) np (a' + 1) l' W hm (((HN2.out N fs AP cP 0 none 0).gw HGr.out).gw hg) hnp2 (by omega) (by omega) (by omega)
   have d6:Wr.drew.cell? ⟨g,6,none⟩ = some (.slice AP j cP):=by have h:=HMr.out.cs.drew.cell 6; rw [← HJ.out] at h; exact h
   have c6r:Wr.cell? ⟨g,6,none⟩ = some (.slice AP j cP):=d6
   have hjb:(0:Int)≤(j:Int)∧(j:Int) < (j:Int) + 1:=⟨by omega,by omega⟩
   obtain ⟨i0,hi,hz0,hz1,hz2⟩:=info_parts node_info
   refine wp_region_any (by kernel_rfl) ?_
   try (change wpAny _ _ _ _ _ _ _ (World.drew _))
   refine wpAny_take (i:=0) (v:=?_) rfl (by kernel_rfl) (by kernel_rfl) (by kernel_rfl) (fun _ _ _ h=>h) (Or.inl ⟨by rfl,?_⟩) ?_; rotate_left; (intro w; go_simp; try with_reducible rfl)
   refine wpAny_take (i:=1) (v:=?_) rfl (by kernel_rfl) (by kernel_rfl) (by kernel_rfl) (fun _ _ _ h=>h) (Or.inl ⟨by rfl,?_⟩) ?_; rotate_left; (intro w; go_simp; try with_reducible rfl)
   refine wpAny_take (i:=2) (v:=?_) rfl (by kernel_rfl) (by kernel_rfl) (by kernel_rfl) (fun _ _ _ h=>h) (Or.inl ⟨by rfl,?_⟩) ?_; rotate_left; (intro w; go_simp; try with_reducible rfl)
   refine wpAny_take (i:=3) (v:=?_) rfl (by kernel_rfl) (by kernel_rfl) (by kernel_rfl) (fun _ _ _ h=>h) (Or.inl ⟨by rfl,?_⟩) ?_; rotate_left; (intro w; go_simp; try with_reducible rfl)
   refine wpAny_take (i:=5) (v:=?_) rfl (by kernel_rfl) (by kernel_rfl) (by kernel_rfl) (fun _ _ _ h=>h) (Or.inl ⟨by rfl,?_⟩) ?_; rotate_left; (intro w; go_simp; try with_reducible rfl)
   refine wpAny_take (i:=6) (v:=?_) rfl (by kernel_rfl) (by kernel_rfl) (by kernel_rfl) (fun _ _ _ h=>h) (Or.inl ⟨by rfl,?_⟩) ?_; rotate_left; (intro w; go_simp; try with_reducible rfl)
   refine wpAny_take (i:=7) (v:=?_) rfl (by kernel_rfl) (by kernel_rfl) (by kernel_rfl) (fun _ _ _ h=>h) (Or.inl ⟨by rfl,?_⟩) ?_; rotate_left; (intro w; go_simp; try with_reducible rfl)
   refine wpAny_take (i:=9) (v:=?_) rfl (by kernel_rfl) (by kernel_rfl) (by kernel_rfl) (fun _ _ _ h=>h) (Or.inl ⟨by rfl,?_⟩) ?_; rotate_left; (intro w; go_simp; try with_reducible rfl)
   conv=>arg 7; simp [go_sem]
   conv=>arg 6; simp
   refine wpAny_key 7 #[true,true,true,true,true,true,true,true,true,true,true,true,true,true,true,false,false,false,false,false,false,false] (fun a0 a w=>∃ (b51 b55:Nat) (V w3:World) (ts:List T) (At:Option Addr) (ct:Nat) (xs:List Value) (a3:Nat) (b5 c5:Nat) (w5:World),a = (Act.put (Act.put (Act.put (Act.put (Act.put (Act.put (Act.put a0 (some 45) (.slice AP j cP)) (some 54) (.int .i64 (j:Int))) (some 49) (.slice At ts.length ct)) (some 51) (.slice (some ⟨b51,0,none⟩) 1 1)) (some 52) (.slice (some ⟨b5,0,none⟩) (ts.length + 1) c5)) (some 53) (.agg #[.int .i64 26,.int .i64 (np:Int),.int .i64 0,.slice (some ⟨b5,0,none⟩) (ts.length + 1) c5])) (some 55) (.slice (some ⟨b55,0,none⟩) 1 1))∧Md1 (mP L A c N fs AP cP 0 con g S none 0) np (a' + 1 + 1) l' Wr V w3 ts At ct xs a3∧Md2 (mP L A c N fs AP cP 0 con g S none 0) np l' Wr V w3 ts At ct xs a3 b5 c5 w5∧Below w5.heap.size w5 w∧Blk w b55 25 (nd zeroT none 0).toArray) ?_ (fun k0=>?_)
   ·rintro a w ⟨b51,b55,V,w3,ts,At,ct,xs,a3,b5,c5,w5,rfl,h1,h2,hb,k55⟩
    have hGW:Wr.grownBy w (some g):=md2_gw h2 hb
    refine wpAny_ready (rs:=[15]) (by kernel_rfl) (by simp) ?_
    refine AllReady.cons rfl (fun K hK=>?_) AllReady.nil
    refine step_append_any _ rfl (.tmp 45) (.tmp 55) 23 rfl (g + 1) 25 i0 _ 4 48 Tryd.underlying23 hi hz0 hz1 hz2 rfl (by decide) (.slice AP j cP) j pxs (by kernel_rfl) (HROW.out.kept hGW (.inr fun e=>by have:=(HROW.out.lt _ e).1; omega)) (b55 + 1) (some ⟨b55,0,none⟩) 1 1 (nd zeroT none 0) (by kernel_rfl) (lit_reads k55) (nd_one zeroT none 0) (len_le (by omega)) (by omega) (by have:=hGW.size; omega) ?_
    intro v7 w7 hown7 hgrow7 hnew7; obtain ⟨p7,c7,hv7,_⟩:=hown7.form (by omega); subst hv7
    have hg7':=gw_of_row hb hgrow7
    have hn7:some p7 = (Value.slice AP j cP).ownBlock∨w5.heap.size≤p7:=by
     rcases hnew7 with h | h
     ·exact .inl h
     ·right; have h2':p7 = _:=Option.some.inj h; rw [h2']; exact hb.size
    have hm7:Mk (mP L A c N fs AP cP 0 con g S none 0) a3 (l' - ((ts.map size).sum:Nat)) w7:=Blk.grown h2.mkr hg7' (fun e=>by have:=(HVP.out _ e.symm).1; exact absurd this (by show ¬ g + 1≤g; omega))
    obtain ⟨q1,q2,q3,q4⟩:=made_push (L:=L) (S:=S) (A:=A) (c:=c) (con:=con) (N:=N) (W2:=W2) HPr.out HJ.out HROW.out HPROP.out hgr h1.rv h1.tl hnp2 h1.vs h2.gw h2.own h2.new h2.rs hown7 hg7' hn7 (Mk.cs hm7) HFr.out HGr.out HSZ2.out
    have c67:=(Mk.cs hm7).cell 6; have f67:=(Mk.cs hm7).frozen 6; rw [← HJ.out] at c67
    simp only [List.getElem?_toArray,List.getElem?_cons_zero,List.getElem?_cons_succ] at c67
    obtain ⟨⟨q70,q71,q72,q73⟩,q74,q75,q76,q77⟩:=own_cells4 (q:=j * 4) hown7 HROW.out.1
    have hp7:=(hown7.lt p7 rfl).1
    have hne7:¬ p7 = g:=by omega
    have hne8:¬ g = p7:=by omega
    refine hK _ _ ?_
    clear hK K
    have Q1:=Lib.hid q1; have Q2:=Lib.hid q2; have Q3:=Lib.hid q3; have Q4:=Lib.hid q4
    have H1:=Lib.hid h1
    clear q1 q2 q3 q4 hown7 hgrow7 hnew7 hg7' hm7 hp7 hn7 hGW h2 hb h1 k55
    refine wpAny_take (i:=16) (v:=?_) rfl (by kernel_rfl) (by kernel_rfl) (by kernel_rfl) (fun _ _ _ h=>h) (Or.inl ⟨by rfl,?_⟩) ?_; rotate_left; (intro w; go_simp; try with_reducible rfl)
    refine wpAny_take (i:=18) (v:=?_) rfl (by kernel_rfl) (by kernel_rfl) (by kernel_rfl) (fun _ _ _ h=>h) (Or.inl ⟨by rfl,?_⟩) ?_; rotate_left; (intro w; go_simp; try with_reducible rfl)
    refine wpAny_take (i:=19) (v:=?_) rfl (by kernel_rfl) (by kernel_rfl) (by kernel_rfl) (fun _ _ _ h=>h) (Or.inl ⟨by rfl,?_⟩) ?_; rotate_left; (intro w; go_simp; try with_reducible rfl)
    refine wpAny_take (i:=20) (v:=?_) rfl (by kernel_rfl) (by kernel_rfl) (by kernel_rfl) (fun _ _ _ h=>h) (Or.inl ⟨by rfl,?_⟩) ?_; rotate_left; (intro w; go_simp; try with_reducible rfl)
    conv=>arg 7; simp [go_sem]
    refine wpAny_key 0 #[true,true,true,true,true,true,true,true,true,true,true,true,true,true,true,true,true,true,true,true,true,true] (fun a0 a w=>a = a0∧w = (((((w7.setCell ⟨p7,j * 4,none⟩ (.int .i64 26)).setCell ⟨p7,j * 4 + 1,none⟩ (.int .i64 (np:Int))).setCell ⟨p7,j * 4 + 2,none⟩ (.int .i64 0)).setCell ⟨p7,j * 4 + 3,none⟩ (.slice (some ⟨b5,0,none⟩) (ts.length + 1) c5)).setCell ⟨g,6,none⟩ (.slice (some ⟨p7,0,none⟩) (j + 1) c7))) ?_ (fun k0=>?_)
    ·rintro a w ⟨rfl,rfl⟩
     refine wpAny_done (by kernel_rfl) ?_ _
     go_wp2_with fail
     go_roundw
     case rel =>
      have h1:=H1.out
      have hb1:=h1.rv.cap
      have hb2:=h1.rv.hi
      have hb3:=h1.rv.lo
      have hb4:=h1.tl
      exact ⟨fs ++ [⟨np,ts,nilB,b5,c5⟩],some ⟨p7,0,none⟩,c7,a3,_,by rw [List.length_append,← HJ.out]; go_num,by rw [List.length_append,← HJ.out]; exact hlt,Q1.out,Q2.out,Q3.out,Q4.out,by rw [List.length_append,← HJ.out]; simp only [List.length_cons,List.length_nil]; omega,by omega,by rw [List.length_append,← HJ.out]; simp only [List.length_cons,List.length_nil]; omega⟩
     case measure=>simp [intOf]; omega
    have KF:=Lib.hid k0
    clear k0
    refine wpAny_ready (rs:=[17,21]) (by kernel_rfl) (by simp) ?_
    refine AllReady.cons rfl (fun K hK=>?_) ?_
    ·go_simp
     refine hK _ _ ?_
     clear hK K
     refine wpAny_ready (rs:=[21]) (by kernel_rfl) (by simp) ?_
     refine AllReady.cons rfl (fun K hK=>?_) AllReady.nil
     go_simp
     refine hK _ _ ?_
     exact KF.out _ _ ⟨by kernel_rfl,by with_reducible rfl⟩
    refine AllReady.cons rfl (fun K hK=>?_) AllReady.nil
    go_simp
    refine hK _ _ ?_
    clear hK K
    refine wpAny_ready (rs:=[17]) (by kernel_rfl) (by simp) ?_
    refine AllReady.cons rfl (fun K hK=>?_) AllReady.nil
    go_simp
    refine hK _ _ ?_
    exact KF.out _ _ ⟨by kernel_rfl,by rw [setCell_comm _ ⟨g,6,none⟩ ⟨p7,j * 4,none⟩ _ _ hne8,setCell_comm _ ⟨g,6,none⟩ ⟨p7,j * 4 + 1,none⟩ _ _ hne8,setCell_comm _ ⟨g,6,none⟩ ⟨p7,j * 4 + 2,none⟩ _ _ hne8,setCell_comm _ ⟨g,6,none⟩ ⟨p7,j * 4 + 3,none⟩ _ _ hne8]⟩
   have K2111:=Lib.hid k0
   clear k0
   refine wpAny_key 8 #[true,true,true,true,true,true,true,true,true,true,true,true,true,true,false,false,false,false,false,false,false,false] (fun a0 a w=>∃ (b51 b55:Nat) (V w3:World) (ts:List T) (At:Option Addr) (ct:Nat) (xs:List Value) (a3:Nat) (b5 c5:Nat) (w5:World),a = (Act.put (Act.put (Act.put (Act.put (Act.put (Act.put a0 (some 45) (.slice AP j cP)) (some 54) (.int .i64 (j:Int))) (some 49) (.slice At ts.length ct)) (some 51) (.slice (some ⟨b51,0,none⟩) 1 1)) (some 52) (.slice (some ⟨b5,0,none⟩) (ts.length + 1) c5)) (some 53) (.agg #[.int .i64 26,.int .i64 (np:Int),.int .i64 0,.slice (some ⟨b5,0,none⟩) (ts.length + 1) c5]))∧Md1 (mP L A c N fs AP cP 0 con g S none 0) np (a' + 1 + 1) l' Wr V w3 ts At ct xs a3∧Md2 (mP L A c N fs AP cP 0 con g S none 0) np l' Wr V w3 ts At ct xs a3 b5 c5 w5∧Below w5.heap.size w5 w) ?_ (fun k0=>?_)
   ·rintro a w ⟨b51,b55,V,w3,ts,At,ct,xs,a3,b5,c5,w5,rfl,h1,h2,hb⟩
    refine wpAny_ready (rs:=[14]) (by kernel_rfl) (by simp) ?_
    refine AllReady.cons rfl (fun K hK=>?_) ?_
    ·go_simp
     refine hK _ _ ?_
     clear hK K
     exact K2111.out _ _ ⟨b51,w.heap.size,V,w3,ts,At,ct,xs,a3,b5,c5,w5,by kernel_rfl,h1,h2,ba hb _,Blk.new_at _ _ rfl rfl⟩
    exact AllReady.nil
   have K2110:=Lib.hid k0
   clear k0
   refine wpAny_key 9 #[true,true,true,true,true,true,true,true,true,true,true,false,false,true,true,false,false,false,false,false,false,false] (fun a0 a w=>∃ (b51 b55:Nat) (V w3:World) (ts:List T) (At:Option Addr) (ct:Nat) (xs:List Value) (a3:Nat),a = (Act.put (Act.put (Act.put (Act.put (Act.put a0 (some 45) (.slice AP j cP)) (some 54) (.int .i64 (j:Int))) (some 49) (.slice At ts.length ct)) (some 51) (.slice (some ⟨b51,0,none⟩) 1 1)) (some 55) (.slice (some ⟨b55,0,none⟩) 1 1))∧Md1 (mP L A c N fs AP cP 0 con g S none 0) np (a' + 1 + 1) l' Wr V w3 ts At ct xs a3∧Below w3.heap.size w3 w∧Blk w b51 25 (nd nilB none 0).toArray∧Blk w b55 25 (nd zeroT none 0).toArray∧(Value.slice At ts.length ct).ownBlock≠some b55) ?_ (fun k0=>?_)
   ·rintro a w ⟨b51,b55,V,w3,ts,At,ct,xs,a3,rfl,h1,hb,k51,k55,n55⟩
    refine wpAny_ready (rs:=[11]) (by kernel_rfl) (by simp) ?_
    refine AllReady.cons rfl (fun K hK=>?_) ?_
    ·have t5:=h1.tl
     refine step_append_any _ rfl (.tmp 49) (.tmp 51) 23 rfl V.heap.size 25 i0 _ 4 48 Tryd.underlying23 hi hz0 hz1 hz2 rfl (by decide) (.slice At ts.length ct) ts.length xs (by kernel_rfl) (md1_own h1 hb) (b51 + 1) (some ⟨b51,0,none⟩) 1 1 (nd nilB none 0) (by kernel_rfl) (lit_reads k51) (nd_one nilB none 0) (len_le (by omega)) (by omega) (md1_size h1 hb) ?_
     intro v5 w5 hown5 hgrow5 hnew5; obtain ⟨b5,c5,hv5,_⟩:=hown5.form (by omega); subst hv5
     refine hK _ _ ?_
     clear hK K
     refine wpAny_take (i:=12) (v:=.agg #[.int .i64 26,.int .i64 (np:Int),.int .i64 0,.slice (some ⟨b5,0,none⟩) (ts.length + 1) c5]) rfl (by kernel_rfl) (by kernel_rfl) (by kernel_rfl) (fun _ _ _ h=>h) (Or.inl ⟨by rfl,by intro w; go_simp⟩) ?_
     exact K2111.out _ _ ⟨b51,b55,V,w3,ts,At,ct,xs,a3,b5,c5,w5,by kernel_rfl,h1,md2_of h1 hb hgr hown5 hgrow5 hnew5,Below.refl _ _,Blk.grown k55 hgrow5 (fun e=>n55 e.symm)⟩
    exact AllReady.nil
   have K1111:=Lib.hid k0
   clear k0
   refine wpAny_key 9 #[true,true,true,true,false,true,true,true,true,true,true,true,true,false,true,false,false,false,false,false,false,false] (fun a0 a w=>∃ (b51 b55:Nat) (V w3:World) (ts:List T) (At:Option Addr) (ct:Nat) (xs:List Value) (a3:Nat) (b5 c5:Nat) (w5:World),a = (Act.put (Act.put (Act.put (Act.put (Act.put a0 (some 49) (.slice At ts.length ct)) (some 51) (.slice (some ⟨b51,0,none⟩) 1 1)) (some 52) (.slice (some ⟨b5,0,none⟩) (ts.length + 1) c5)) (some 53) (.agg #[.int .i64 26,.int .i64 (np:Int),.int .i64 0,.slice (some ⟨b5,0,none⟩) (ts.length + 1) c5])) (some 55) (.slice (some ⟨b55,0,none⟩) 1 1))∧Md1 (mP L A c N fs AP cP 0 con g S none 0) np (a' + 1 + 1) l' Wr V w3 ts At ct xs a3∧Md2 (mP L A c N fs AP cP 0 con g S none 0) np l' Wr V w3 ts At ct xs a3 b5 c5 w5∧Below w5.heap.size w5 w∧Blk w b55 25 (nd zeroT none 0).toArray) ?_ (fun k0=>?_)
   ·rintro a w ⟨b51,b55,V,w3,ts,At,ct,xs,a3,b5,c5,w5,rfl,h1,h2,hb,k55⟩
    have c6:=(md2_mk h2 hb).c6 HJ.out
    refine wpAny_ready (rs:=[4]) (by kernel_rfl) (by simp) ?_
    refine AllReady.cons rfl (fun K hK=>?_) ?_
    ·go_simp
     refine hK _ _ ?_
     clear hK K
     refine wpAny_take (i:=13) (v:=.int .i64 (j:Int)) rfl (by kernel_rfl) (by kernel_rfl) (by kernel_rfl) (fun _ _ _ h=>h) (Or.inl ⟨by rfl,by intro w; go_simp⟩) ?_
     exact K2111.out _ _ ⟨b51,b55,V,w3,ts,At,ct,xs,a3,b5,c5,w5,by kernel_rfl,h1,h2,hb,k55⟩
    exact AllReady.nil
   have K2101:=Lib.hid k0
   clear k0
   refine wpAny_key 10 #[true,true,true,true,true,true,true,true,false,true,true,false,false,true,true,false,false,false,false,false,false,false] (fun a0 a w=>∃ (b51 b55:Nat),a = (Act.put (Act.put (Act.put (Act.put a0 (some 45) (.slice AP j cP)) (some 54) (.int .i64 (j:Int))) (some 51) (.slice (some ⟨b51,0,none⟩) 1 1)) (some 55) (.slice (some ⟨b55,0,none⟩) 1 1))∧Wr.grownBy w (some g)∧Mk (mP L A c N fs AP cP 0 con g S none 0) (a' + 1) l' w∧Blk w b51 25 (nd nilB none 0).toArray∧g < b51∧Blk w b55 25 (nd zeroT none 0).toArray∧g < b55) ?_ (fun k0=>?_)
   ·rintro a w ⟨b51,b55,rfl,hG,hM,k51,g51,k55,g55⟩
    refine wpAny_ready (rs:=[8]) (by kernel_rfl) (by simp) ?_
    refine AllReady.cons rfl (fun K hK=>?_) ?_
    ·go_simp
     go_at_call 92
     refine (HVC.out _ hG hM).mono ?_
     rintro e w3 ⟨V,ts,At,ct,xs,a3,rfl,hgV,hrow3,hlo3,hhi3,hct3⟩
     try go_simp
     refine hK _ _ ?_
     clear hK K
     exact K1111.out _ _ ⟨b51,b55,V,w3,ts,At,ct,xs,a3,by kernel_rfl,md1_of hG hgV hrow3 hlo3 hhi3 hct3 hnp2,Below.refl _ _,(md1_old hgV hrow3 k51 g51).1,(md1_old hgV hrow3 k55 g55).1,(md1_old hgV hrow3 k55 g55).2⟩
    exact AllReady.nil
   have K0111:=Lib.hid k0
   clear k0
   refine wpAny_key 10 #[true,true,true,true,true,true,true,true,true,true,false,false,false,true,true,false,false,false,false,false,false,false] (fun a0 a w=>∃ (b51 b55:Nat) (V w3:World) (ts:List T) (At:Option Addr) (ct:Nat) (xs:List Value) (a3:Nat),a = (Act.put (Act.put (Act.put (Act.put a0 (some 45) (.slice AP j cP)) (some 54) (.int .i64 (j:Int))) (some 49) (.slice At ts.length ct)) (some 55) (.slice (some ⟨b55,0,none⟩) 1 1))∧Md1 (mP L A c N fs AP cP 0 con g S none 0) np (a' + 1 + 1) l' Wr V w3 ts At ct xs a3∧Below w3.heap.size w3 w∧Blk w b55 25 (nd zeroT none 0).toArray∧(Value.slice At ts.length ct).ownBlock≠some b55) ?_ (fun k0=>?_)
   ·rintro a w ⟨b51,b55,V,w3,ts,At,ct,xs,a3,rfl,h1,hb,k55,n55⟩
    refine wpAny_ready (rs:=[10]) (by kernel_rfl) (by simp) ?_
    refine AllReady.cons rfl (fun K hK=>?_) ?_
    ·go_simp
     refine hK _ _ ?_
     clear hK K
     exact K1111.out _ _ ⟨w.heap.size,b55,V,w3,ts,At,ct,xs,a3,by kernel_rfl,h1,ba hb _,Blk.new_at _ _ rfl rfl,Blk.alloc k55 _,n55⟩
    exact AllReady.nil
   have K1011:=Lib.hid k0
   clear k0
   refine wpAny_key 10 #[true,true,true,true,true,true,true,true,true,true,true,false,false,true,false,false,false,false,false,false,false,false] (fun a0 a w=>∃ (b51 b55:Nat) (V w3:World) (ts:List T) (At:Option Addr) (ct:Nat) (xs:List Value) (a3:Nat),a = (Act.put (Act.put (Act.put (Act.put a0 (some 45) (.slice AP j cP)) (some 54) (.int .i64 (j:Int))) (some 49) (.slice At ts.length ct)) (some 51) (.slice (some ⟨b51,0,none⟩) 1 1))∧Md1 (mP L A c N fs AP cP 0 con g S none 0) np (a' + 1 + 1) l' Wr V w3 ts At ct xs a3∧Below w3.heap.size w3 w∧Blk w b51 25 (nd nilB none 0).toArray) ?_ (fun k0=>?_)
   ·rintro a w ⟨b51,b55,V,w3,ts,At,ct,xs,a3,rfl,h1,hb,k51⟩
    refine wpAny_ready (rs:=[11,14]) (by kernel_rfl) (by simp) ?_
    refine AllReady.cons rfl (fun K hK=>?_) ?_
    ·have t5:=h1.tl
     refine step_append_any _ rfl (.tmp 49) (.tmp 51) 23 rfl V.heap.size 25 i0 _ 4 48 Tryd.underlying23 hi hz0 hz1 hz2 rfl (by decide) (.slice At ts.length ct) ts.length xs (by kernel_rfl) (md1_own h1 hb) (b51 + 1) (some ⟨b51,0,none⟩) 1 1 (nd nilB none 0) (by kernel_rfl) (lit_reads k51) (nd_one nilB none 0) (len_le (by omega)) (by omega) (md1_size h1 hb) ?_
     intro v5 w5 hown5 hgrow5 hnew5; obtain ⟨b5,c5,hv5,_⟩:=hown5.form (by omega); subst hv5
     refine hK _ _ ?_
     clear hK K
     refine wpAny_take (i:=12) (v:=.agg #[.int .i64 26,.int .i64 (np:Int),.int .i64 0,.slice (some ⟨b5,0,none⟩) (ts.length + 1) c5]) rfl (by kernel_rfl) (by kernel_rfl) (by kernel_rfl) (fun _ _ _ h=>h) (Or.inl ⟨by rfl,by intro w; go_simp⟩) ?_
     exact K2110.out _ _ ⟨b51,b55,V,w3,ts,At,ct,xs,a3,b5,c5,w5,by kernel_rfl,h1,md2_of h1 hb hgr hown5 hgrow5 hnew5,Below.refl _ _⟩
    refine AllReady.cons rfl (fun K hK=>?_) ?_
    ·go_simp
     refine hK _ _ ?_
     clear hK K
     exact K1111.out _ _ ⟨b51,w.heap.size,V,w3,ts,At,ct,xs,a3,by kernel_rfl,h1,ba hb _,Blk.alloc k51 _,Blk.new_at _ _ rfl rfl,md1_new h1 hb⟩
    exact AllReady.nil
   have K1110:=Lib.hid k0
   clear k0
   refine wpAny_key 10 #[true,true,true,true,false,true,true,true,true,true,true,true,true,false,false,false,false,false,false,false,false,false] (fun a0 a w=>∃ (b51 b55:Nat) (V w3:World) (ts:List T) (At:Option Addr) (ct:Nat) (xs:List Value) (a3:Nat) (b5 c5:Nat) (w5:World),a = (Act.put (Act.put (Act.put (Act.put a0 (some 49) (.slice At ts.length ct)) (some 51) (.slice (some ⟨b51,0,none⟩) 1 1)) (some 52) (.slice (some ⟨b5,0,none⟩) (ts.length + 1) c5)) (some 53) (.agg #[.int .i64 26,.int .i64 (np:Int),.int .i64 0,.slice (some ⟨b5,0,none⟩) (ts.length + 1) c5]))∧Md1 (mP L A c N fs AP cP 0 con g S none 0) np (a' + 1 + 1) l' Wr V w3 ts At ct xs a3∧Md2 (mP L A c N fs AP cP 0 con g S none 0) np l' Wr V w3 ts At ct xs a3 b5 c5 w5∧Below w5.heap.size w5 w) ?_ (fun k0=>?_)
   ·rintro a w ⟨b51,b55,V,w3,ts,At,ct,xs,a3,b5,c5,w5,rfl,h1,h2,hb⟩
    have c6:=(md2_mk h2 hb).c6 HJ.out
    refine wpAny_ready (rs:=[4,14]) (by kernel_rfl) (by simp) ?_
    refine AllReady.cons rfl (fun K hK=>?_) ?_
    ·go_simp
     refine hK _ _ ?_
     clear hK K
     refine wpAny_take (i:=13) (v:=.int .i64 (j:Int)) rfl (by kernel_rfl) (by kernel_rfl) (by kernel_rfl) (fun _ _ _ h=>h) (Or.inl ⟨by rfl,by intro w; go_simp⟩) ?_
     exact K2110.out _ _ ⟨b51,b55,V,w3,ts,At,ct,xs,a3,b5,c5,w5,by kernel_rfl,h1,h2,hb⟩
    refine AllReady.cons rfl (fun K hK=>?_) ?_
    ·go_simp
     refine hK _ _ ?_
     clear hK K
     exact K2101.out _ _ ⟨b51,w.heap.size,V,w3,ts,At,ct,xs,a3,b5,c5,w5,by kernel_rfl,h1,h2,ba hb _,Blk.new_at _ _ rfl rfl⟩
    exact AllReady.nil
   have K2100:=Lib.hid k0
   clear k0
   refine wpAny_key 11 #[true,true,true,true,true,true,true,true,false,true,false,false,false,true,true,false,false,false,false,false,false,false] (fun a0 a w=>∃ (b51 b55:Nat),a = (Act.put (Act.put (Act.put a0 (some 45) (.slice AP j cP)) (some 54) (.int .i64 (j:Int))) (some 55) (.slice (some ⟨b55,0,none⟩) 1 1))∧Wr.grownBy w (some g)∧Mk (mP L A c N fs AP cP 0 con g S none 0) (a' + 1) l' w∧Blk w b55 25 (nd zeroT none 0).toArray∧g < b55) ?_ (fun k0=>?_)
   ·rintro a w ⟨b51,b55,rfl,hG,hM,k55,g55⟩
    refine wpAny_ready (rs:=[8,10]) (by kernel_rfl) (by simp) ?_
    refine AllReady.cons rfl (fun K hK=>?_) ?_
    ·go_simp
     go_at_call 92
     refine (HVC.out _ hG hM).mono ?_
     rintro e w3 ⟨V,ts,At,ct,xs,a3,rfl,hgV,hrow3,hlo3,hhi3,hct3⟩
     try go_simp
     refine hK _ _ ?_
     clear hK K
     exact K1011.out _ _ ⟨b51,b55,V,w3,ts,At,ct,xs,a3,by kernel_rfl,md1_of hG hgV hrow3 hlo3 hhi3 hct3 hnp2,Below.refl _ _,(md1_old hgV hrow3 k55 g55).1,(md1_old hgV hrow3 k55 g55).2⟩
    refine AllReady.cons rfl (fun K hK=>?_) ?_
    ·go_simp
     refine hK _ _ ?_
     clear hK K
     exact K0111.out _ _ ⟨w.heap.size,b55,by kernel_rfl,gw_alloc hG _,hM.allocW _,Blk.new_at _ _ rfl rfl,Nat.lt_of_lt_of_le hgr hG.size,Blk.alloc k55 _,g55⟩
    exact AllReady.nil
   have K0011:=Lib.hid k0
   clear k0
   refine wpAny_key 11 #[true,true,true,true,true,true,true,true,false,true,true,false,false,true,false,false,false,false,false,false,false,false] (fun a0 a w=>∃ (b51 b55:Nat),a = (Act.put (Act.put (Act.put a0 (some 45) (.slice AP j cP)) (some 54) (.int .i64 (j:Int))) (some 51) (.slice (some ⟨b51,0,none⟩) 1 1))∧Wr.grownBy w (some g)∧Mk (mP L A c N fs AP cP 0 con g S none 0) (a' + 1) l' w∧Blk w b51 25 (nd nilB none 0).toArray∧g < b51) ?_ (fun k0=>?_)
   ·rintro a w ⟨b51,b55,rfl,hG,hM,k51,g51⟩
    refine wpAny_ready (rs:=[8,14]) (by kernel_rfl) (by simp) ?_
    refine AllReady.cons rfl (fun K hK=>?_) ?_
    ·go_simp
     go_at_call 92
     refine (HVC.out _ hG hM).mono ?_
     rintro e w3 ⟨V,ts,At,ct,xs,a3,rfl,hgV,hrow3,hlo3,hhi3,hct3⟩
     try go_simp
     refine hK _ _ ?_
     clear hK K
     exact K1110.out _ _ ⟨b51,b55,V,w3,ts,At,ct,xs,a3,by kernel_rfl,md1_of hG hgV hrow3 hlo3 hhi3 hct3 hnp2,Below.refl _ _,(md1_old hgV hrow3 k51 g51).1⟩
    refine AllReady.cons rfl (fun K hK=>?_) ?_
    ·go_simp
     refine hK _ _ ?_
     clear hK K
     exact K0111.out _ _ ⟨b51,w.heap.size,by kernel_rfl,gw_alloc hG _,hM.allocW _,Blk.alloc k51 _,g51,Blk.new_at _ _ rfl rfl,Nat.lt_of_lt_of_le hgr hG.size⟩
    exact AllReady.nil
   have K0110:=Lib.hid k0
   clear k0
   refine wpAny_key 11 #[true,true,true,true,true,true,true,true,true,true,false,false,false,true,false,false,false,false,false,false,false,false] (fun a0 a w=>∃ (b51 b55:Nat) (V w3:World) (ts:List T) (At:Option Addr) (ct:Nat) (xs:List Value) (a3:Nat),a = (Act.put (Act.put (Act.put a0 (some 45) (.slice AP j cP)) (some 54) (.int .i64 (j:Int))) (some 49) (.slice At ts.length ct))∧Md1 (mP L A c N fs AP cP 0 con g S none 0) np (a' + 1 + 1) l' Wr V w3 ts At ct xs a3∧Below w3.heap.size w3 w) ?_ (fun k0=>?_)
   ·rintro a w ⟨b51,b55,V,w3,ts,At,ct,xs,a3,rfl,h1,hb⟩
    refine wpAny_ready (rs:=[10,14]) (by kernel_rfl) (by simp) ?_
    refine AllReady.cons rfl (fun K hK=>?_) ?_
    ·go_simp
     refine hK _ _ ?_
     clear hK K
     exact K1110.out _ _ ⟨w.heap.size,b55,V,w3,ts,At,ct,xs,a3,by kernel_rfl,h1,ba hb _,Blk.new_at _ _ rfl rfl⟩
    refine AllReady.cons rfl (fun K hK=>?_) ?_
    ·go_simp
     refine hK _ _ ?_
     clear hK K
     exact K1011.out _ _ ⟨b51,w.heap.size,V,w3,ts,At,ct,xs,a3,by kernel_rfl,h1,ba hb _,Blk.new_at _ _ rfl rfl,md1_new h1 hb⟩
    exact AllReady.nil
   have K1010:=Lib.hid k0
   clear k0
   refine wpAny_key 11 #[true,true,true,true,false,true,true,true,true,true,true,false,false,false,true,false,false,false,false,false,false,false] (fun a0 a w=>∃ (b51 b55:Nat) (V w3:World) (ts:List T) (At:Option Addr) (ct:Nat) (xs:List Value) (a3:Nat),a = (Act.put (Act.put (Act.put a0 (some 49) (.slice At ts.length ct)) (some 51) (.slice (some ⟨b51,0,none⟩) 1 1)) (some 55) (.slice (some ⟨b55,0,none⟩) 1 1))∧Md1 (mP L A c N fs AP cP 0 con g S none 0) np (a' + 1 + 1) l' Wr V w3 ts At ct xs a3∧Below w3.heap.size w3 w∧Blk w b51 25 (nd nilB none 0).toArray∧Blk w b55 25 (nd zeroT none 0).toArray∧(Value.slice At ts.length ct).ownBlock≠some b55) ?_ (fun k0=>?_)
   ·rintro a w ⟨b51,b55,V,w3,ts,At,ct,xs,a3,rfl,h1,hb,k51,k55,n55⟩
    have c6:=(md1_mk h1 hb).c6 HJ.out
    refine wpAny_ready (rs:=[4,11]) (by kernel_rfl) (by simp) ?_
    refine AllReady.cons rfl (fun K hK=>?_) ?_
    ·go_simp
     refine hK _ _ ?_
     clear hK K
     refine wpAny_take (i:=13) (v:=.int .i64 (j:Int)) rfl (by kernel_rfl) (by kernel_rfl) (by kernel_rfl) (fun _ _ _ h=>h) (Or.inl ⟨by rfl,by intro w; go_simp⟩) ?_
     exact K1111.out _ _ ⟨b51,b55,V,w3,ts,At,ct,xs,a3,by kernel_rfl,h1,hb,k51,k55,n55⟩
    refine AllReady.cons rfl (fun K hK=>?_) ?_
    ·have t5:=h1.tl
     refine step_append_any _ rfl (.tmp 49) (.tmp 51) 23 rfl V.heap.size 25 i0 _ 4 48 Tryd.underlying23 hi hz0 hz1 hz2 rfl (by decide) (.slice At ts.length ct) ts.length xs (by kernel_rfl) (md1_own h1 hb) (b51 + 1) (some ⟨b51,0,none⟩) 1 1 (nd nilB none 0) (by kernel_rfl) (lit_reads k51) (nd_one nilB none 0) (len_le (by omega)) (by omega) (md1_size h1 hb) ?_
     intro v5 w5 hown5 hgrow5 hnew5; obtain ⟨b5,c5,hv5,_⟩:=hown5.form (by omega); subst hv5
     refine hK _ _ ?_
     clear hK K
     refine wpAny_take (i:=12) (v:=.agg #[.int .i64 26,.int .i64 (np:Int),.int .i64 0,.slice (some ⟨b5,0,none⟩) (ts.length + 1) c5]) rfl (by kernel_rfl) (by kernel_rfl) (by kernel_rfl) (fun _ _ _ h=>h) (Or.inl ⟨by rfl,by intro w; go_simp⟩) ?_
     exact K2101.out _ _ ⟨b51,b55,V,w3,ts,At,ct,xs,a3,b5,c5,w5,by kernel_rfl,h1,md2_of h1 hb hgr hown5 hgrow5 hnew5,Below.refl _ _,Blk.grown k55 hgrow5 (fun e=>n55 e.symm)⟩
    exact AllReady.nil
   have K1101:=Lib.hid k0
   clear k0
   refine wpAny_key 12 #[true,true,true,true,true,true,true,true,false,true,false,false,false,true,false,false,false,false,false,false,false,false] (fun a0 a w=>∃ (b51 b55:Nat),a = (Act.put (Act.put a0 (some 45) (.slice AP j cP)) (some 54) (.int .i64 (j:Int)))∧Wr.grownBy w (some g)∧Mk (mP L A c N fs AP cP 0 con g S none 0) (a' + 1) l' w) ?_ (fun k0=>?_)
   ·rintro a w ⟨b51,b55,rfl,hG,hM⟩
    refine wpAny_ready (rs:=[8,10,14]) (by kernel_rfl) (by simp) ?_
    refine AllReady.cons rfl (fun K hK=>?_) ?_
    ·go_simp
     go_at_call 92
     refine (HVC.out _ hG hM).mono ?_
     rintro e w3 ⟨V,ts,At,ct,xs,a3,rfl,hgV,hrow3,hlo3,hhi3,hct3⟩
     try go_simp
     refine hK _ _ ?_
     clear hK K
     exact K1010.out _ _ ⟨b51,b55,V,w3,ts,At,ct,xs,a3,by kernel_rfl,md1_of hG hgV hrow3 hlo3 hhi3 hct3 hnp2,Below.refl _ _⟩
    refine AllReady.cons rfl (fun K hK=>?_) ?_
    ·go_simp
     refine hK _ _ ?_
     clear hK K
     exact K0110.out _ _ ⟨w.heap.size,b55,by kernel_rfl,gw_alloc hG _,hM.allocW _,Blk.new_at _ _ rfl rfl,Nat.lt_of_lt_of_le hgr hG.size⟩
    refine AllReady.cons rfl (fun K hK=>?_) ?_
    ·go_simp
     refine hK _ _ ?_
     clear hK K
     exact K0011.out _ _ ⟨b51,w.heap.size,by kernel_rfl,gw_alloc hG _,hM.allocW _,Blk.new_at _ _ rfl rfl,Nat.lt_of_lt_of_le hgr hG.size⟩
    exact AllReady.nil
   have K0010:=Lib.hid k0
   clear k0
   refine wpAny_key 12 #[true,true,true,true,false,true,true,true,false,true,true,false,false,false,true,false,false,false,false,false,false,false] (fun a0 a w=>∃ (b51 b55:Nat),a = (Act.put (Act.put a0 (some 51) (.slice (some ⟨b51,0,none⟩) 1 1)) (some 55) (.slice (some ⟨b55,0,none⟩) 1 1))∧Wr.grownBy w (some g)∧Mk (mP L A c N fs AP cP 0 con g S none 0) (a' + 1) l' w∧Blk w b51 25 (nd nilB none 0).toArray∧g < b51∧Blk w b55 25 (nd zeroT none 0).toArray∧g < b55) ?_ (fun k0=>?_)
   ·rintro a w ⟨b51,b55,rfl,hG,hM,k51,g51,k55,g55⟩
    have c6:=hM.c6 HJ.out
    refine wpAny_ready (rs:=[4,8]) (by kernel_rfl) (by simp) ?_
    refine AllReady.cons rfl (fun K hK=>?_) ?_
    ·go_simp
     refine hK _ _ ?_
     clear hK K
     refine wpAny_take (i:=13) (v:=.int .i64 (j:Int)) rfl (by kernel_rfl) (by kernel_rfl) (by kernel_rfl) (fun _ _ _ h=>h) (Or.inl ⟨by rfl,by intro w; go_simp⟩) ?_
     exact K0111.out _ _ ⟨b51,b55,by kernel_rfl,hG,hM,k51,g51,k55,g55⟩
    refine AllReady.cons rfl (fun K hK=>?_) ?_
    ·go_simp
     go_at_call 92
     refine (HVC.out _ hG hM).mono ?_
     rintro e w3 ⟨V,ts,At,ct,xs,a3,rfl,hgV,hrow3,hlo3,hhi3,hct3⟩
     try go_simp
     refine hK _ _ ?_
     clear hK K
     exact K1101.out _ _ ⟨b51,b55,V,w3,ts,At,ct,xs,a3,by kernel_rfl,md1_of hG hgV hrow3 hlo3 hhi3 hct3 hnp2,Below.refl _ _,(md1_old hgV hrow3 k51 g51).1,(md1_old hgV hrow3 k55 g55).1,(md1_old hgV hrow3 k55 g55).2⟩
    exact AllReady.nil
   have K0101:=Lib.hid k0
   clear k0
   refine wpAny_key 12 #[true,true,true,true,false,true,true,true,true,true,false,false,false,false,true,false,false,false,false,false,false,false] (fun a0 a w=>∃ (b51 b55:Nat) (V w3:World) (ts:List T) (At:Option Addr) (ct:Nat) (xs:List Value) (a3:Nat),a = (Act.put (Act.put a0 (some 49) (.slice At ts.length ct)) (some 55) (.slice (some ⟨b55,0,none⟩) 1 1))∧Md1 (mP L A c N fs AP cP 0 con g S none 0) np (a' + 1 + 1) l' Wr V w3 ts At ct xs a3∧Below w3.heap.size w3 w∧Blk w b55 25 (nd zeroT none 0).toArray∧(Value.slice At ts.length ct).ownBlock≠some b55) ?_ (fun k0=>?_)
   ·rintro a w ⟨b51,b55,V,w3,ts,At,ct,xs,a3,rfl,h1,hb,k55,n55⟩
    have c6:=(md1_mk h1 hb).c6 HJ.out
    refine wpAny_ready (rs:=[4,10]) (by kernel_rfl) (by simp) ?_
    refine AllReady.cons rfl (fun K hK=>?_) ?_
    ·go_simp
     refine hK _ _ ?_
     clear hK K
     refine wpAny_take (i:=13) (v:=.int .i64 (j:Int)) rfl (by kernel_rfl) (by kernel_rfl) (by kernel_rfl) (fun _ _ _ h=>h) (Or.inl ⟨by rfl,by intro w; go_simp⟩) ?_
     exact K1011.out _ _ ⟨b51,b55,V,w3,ts,At,ct,xs,a3,by kernel_rfl,h1,hb,k55,n55⟩
    refine AllReady.cons rfl (fun K hK=>?_) ?_
    ·go_simp
     refine hK _ _ ?_
     clear hK K
     exact K1101.out _ _ ⟨w.heap.size,b55,V,w3,ts,At,ct,xs,a3,by kernel_rfl,h1,ba hb _,Blk.new_at _ _ rfl rfl,Blk.alloc k55 _,n55⟩
    exact AllReady.nil
   have K1001:=Lib.hid k0
   clear k0
   refine wpAny_key 12 #[true,true,true,true,false,true,true,true,true,true,true,false,false,false,false,false,false,false,false,false,false,false] (fun a0 a w=>∃ (b51 b55:Nat) (V w3:World) (ts:List T) (At:Option Addr) (ct:Nat) (xs:List Value) (a3:Nat),a = (Act.put (Act.put a0 (some 49) (.slice At ts.length ct)) (some 51) (.slice (some ⟨b51,0,none⟩) 1 1))∧Md1 (mP L A c N fs AP cP 0 con g S none 0) np (a' + 1 + 1) l' Wr V w3 ts At ct xs a3∧Below w3.heap.size w3 w∧Blk w b51 25 (nd nilB none 0).toArray) ?_ (fun k0=>?_)
   ·rintro a w ⟨b51,b55,V,w3,ts,At,ct,xs,a3,rfl,h1,hb,k51⟩
    have c6:=(md1_mk h1 hb).c6 HJ.out
    refine wpAny_ready (rs:=[4,11,14]) (by kernel_rfl) (by simp) ?_
    refine AllReady.cons rfl (fun K hK=>?_) ?_
    ·go_simp
     refine hK _ _ ?_
     clear hK K
     refine wpAny_take (i:=13) (v:=.int .i64 (j:Int)) rfl (by kernel_rfl) (by kernel_rfl) (by kernel_rfl) (fun _ _ _ h=>h) (Or.inl ⟨by rfl,by intro w; go_simp⟩) ?_
     exact K1110.out _ _ ⟨b51,b55,V,w3,ts,At,ct,xs,a3,by kernel_rfl,h1,hb,k51⟩
    refine AllReady.cons rfl (fun K hK=>?_) ?_
    ·have t5:=h1.tl
     refine step_append_any _ rfl (.tmp 49) (.tmp 51) 23 rfl V.heap.size 25 i0 _ 4 48 Tryd.underlying23 hi hz0 hz1 hz2 rfl (by decide) (.slice At ts.length ct) ts.length xs (by kernel_rfl) (md1_own h1 hb) (b51 + 1) (some ⟨b51,0,none⟩) 1 1 (nd nilB none 0) (by kernel_rfl) (lit_reads k51) (nd_one nilB none 0) (len_le (by omega)) (by omega) (md1_size h1 hb) ?_
     intro v5 w5 hown5 hgrow5 hnew5; obtain ⟨b5,c5,hv5,_⟩:=hown5.form (by omega); subst hv5
     refine hK _ _ ?_
     clear hK K
     refine wpAny_take (i:=12) (v:=.agg #[.int .i64 26,.int .i64 (np:Int),.int .i64 0,.slice (some ⟨b5,0,none⟩) (ts.length + 1) c5]) rfl (by kernel_rfl) (by kernel_rfl) (by kernel_rfl) (fun _ _ _ h=>h) (Or.inl ⟨by rfl,by intro w; go_simp⟩) ?_
     exact K2100.out _ _ ⟨b51,b55,V,w3,ts,At,ct,xs,a3,b5,c5,w5,by kernel_rfl,h1,md2_of h1 hb hgr hown5 hgrow5 hnew5,Below.refl _ _⟩
    refine AllReady.cons rfl (fun K hK=>?_) ?_
    ·go_simp
     refine hK _ _ ?_
     clear hK K
     exact K1101.out _ _ ⟨b51,w.heap.size,V,w3,ts,At,ct,xs,a3,by kernel_rfl,h1,ba hb _,Blk.alloc k51 _,Blk.new_at _ _ rfl rfl,md1_new h1 hb⟩
    exact AllReady.nil
   have K1100:=Lib.hid k0
   clear k0
   refine wpAny_key 13 #[true,true,true,true,false,true,true,true,false,true,false,false,false,false,true,false,false,false,false,false,false,false] (fun a0 a w=>∃ (b51 b55:Nat),a = (Act.put a0 (some 55) (.slice (some ⟨b55,0,none⟩) 1 1))∧Wr.grownBy w (some g)∧Mk (mP L A c N fs AP cP 0 con g S none 0) (a' + 1) l' w∧Blk w b55 25 (nd zeroT none 0).toArray∧g < b55) ?_ (fun k0=>?_)
   ·rintro a w ⟨b51,b55,rfl,hG,hM,k55,g55⟩
    have c6:=hM.c6 HJ.out
    refine wpAny_ready (rs:=[4,8,10]) (by kernel_rfl) (by simp) ?_
    refine AllReady.cons rfl (fun K hK=>?_) ?_
    ·go_simp
     refine hK _ _ ?_
     clear hK K
     refine wpAny_take (i:=13) (v:=.int .i64 (j:Int)) rfl (by kernel_rfl) (by kernel_rfl) (by kernel_rfl) (fun _ _ _ h=>h) (Or.inl ⟨by rfl,by intro w; go_simp⟩) ?_
     exact K0011.out _ _ ⟨b51,b55,by kernel_rfl,hG,hM,k55,g55⟩
    refine AllReady.cons rfl (fun K hK=>?_) ?_
    ·go_simp
     go_at_call 92
     refine (HVC.out _ hG hM).mono ?_
     rintro e w3 ⟨V,ts,At,ct,xs,a3,rfl,hgV,hrow3,hlo3,hhi3,hct3⟩
     try go_simp
     refine hK _ _ ?_
     clear hK K
     exact K1001.out _ _ ⟨b51,b55,V,w3,ts,At,ct,xs,a3,by kernel_rfl,md1_of hG hgV hrow3 hlo3 hhi3 hct3 hnp2,Below.refl _ _,(md1_old hgV hrow3 k55 g55).1,(md1_old hgV hrow3 k55 g55).2⟩
    refine AllReady.cons rfl (fun K hK=>?_) ?_
    ·go_simp
     refine hK _ _ ?_
     clear hK K
     exact K0101.out _ _ ⟨w.heap.size,b55,by kernel_rfl,gw_alloc hG _,hM.allocW _,Blk.new_at _ _ rfl rfl,Nat.lt_of_lt_of_le hgr hG.size,Blk.alloc k55 _,g55⟩
    exact AllReady.nil
   have K0001:=Lib.hid k0
   clear k0
   refine wpAny_key 13 #[true,true,true,true,false,true,true,true,false,true,true,false,false,false,false,false,false,false,false,false,false,false] (fun a0 a w=>∃ (b51 b55:Nat),a = (Act.put a0 (some 51) (.slice (some ⟨b51,0,none⟩) 1 1))∧Wr.grownBy w (some g)∧Mk (mP L A c N fs AP cP 0 con g S none 0) (a' + 1) l' w∧Blk w b51 25 (nd nilB none 0).toArray∧g < b51) ?_ (fun k0=>?_)
   ·rintro a w ⟨b51,b55,rfl,hG,hM,k51,g51⟩
    have c6:=hM.c6 HJ.out
    refine wpAny_ready (rs:=[4,8,14]) (by kernel_rfl) (by simp) ?_
    refine AllReady.cons rfl (fun K hK=>?_) ?_
    ·go_simp
     refine hK _ _ ?_
     clear hK K
     refine wpAny_take (i:=13) (v:=.int .i64 (j:Int)) rfl (by kernel_rfl) (by kernel_rfl) (by kernel_rfl) (fun _ _ _ h=>h) (Or.inl ⟨by rfl,by intro w; go_simp⟩) ?_
     exact K0110.out _ _ ⟨b51,b55,by kernel_rfl,hG,hM,k51,g51⟩
    refine AllReady.cons rfl (fun K hK=>?_) ?_
    ·go_simp
     go_at_call 92
     refine (HVC.out _ hG hM).mono ?_
     rintro e w3 ⟨V,ts,At,ct,xs,a3,rfl,hgV,hrow3,hlo3,hhi3,hct3⟩
     try go_simp
     refine hK _ _ ?_
     clear hK K
     exact K1100.out _ _ ⟨b51,b55,V,w3,ts,At,ct,xs,a3,by kernel_rfl,md1_of hG hgV hrow3 hlo3 hhi3 hct3 hnp2,Below.refl _ _,(md1_old hgV hrow3 k51 g51).1⟩
    refine AllReady.cons rfl (fun K hK=>?_) ?_
    ·go_simp
     refine hK _ _ ?_
     clear hK K
     exact K0101.out _ _ ⟨b51,w.heap.size,by kernel_rfl,gw_alloc hG _,hM.allocW _,Blk.alloc k51 _,g51,Blk.new_at _ _ rfl rfl,Nat.lt_of_lt_of_le hgr hG.size⟩
    exact AllReady.nil
   have K0100:=Lib.hid k0
   clear k0
   refine wpAny_key 13 #[true,true,true,true,false,true,true,true,true,true,false,false,false,false,false,false,false,false,false,false,false,false] (fun a0 a w=>∃ (b51 b55:Nat) (V w3:World) (ts:List T) (At:Option Addr) (ct:Nat) (xs:List Value) (a3:Nat),a = (Act.put a0 (some 49) (.slice At ts.length ct))∧Md1 (mP L A c N fs AP cP 0 con g S none 0) np (a' + 1 + 1) l' Wr V w3 ts At ct xs a3∧Below w3.heap.size w3 w) ?_ (fun k0=>?_)
   ·rintro a w ⟨b51,b55,V,w3,ts,At,ct,xs,a3,rfl,h1,hb⟩
    have c6:=(md1_mk h1 hb).c6 HJ.out
    refine wpAny_ready (rs:=[4,10,14]) (by kernel_rfl) (by simp) ?_
    refine AllReady.cons rfl (fun K hK=>?_) ?_
    ·go_simp
     refine hK _ _ ?_
     clear hK K
     refine wpAny_take (i:=13) (v:=.int .i64 (j:Int)) rfl (by kernel_rfl) (by kernel_rfl) (by kernel_rfl) (fun _ _ _ h=>h) (Or.inl ⟨by rfl,by intro w; go_simp⟩) ?_
     exact K1010.out _ _ ⟨b51,b55,V,w3,ts,At,ct,xs,a3,by kernel_rfl,h1,hb⟩
    refine AllReady.cons rfl (fun K hK=>?_) ?_
    ·go_simp
     refine hK _ _ ?_
     clear hK K
     exact K1100.out _ _ ⟨w.heap.size,b55,V,w3,ts,At,ct,xs,a3,by kernel_rfl,h1,ba hb _,Blk.new_at _ _ rfl rfl⟩
    refine AllReady.cons rfl (fun K hK=>?_) ?_
    ·go_simp
     refine hK _ _ ?_
     clear hK K
     exact K1001.out _ _ ⟨b51,w.heap.size,V,w3,ts,At,ct,xs,a3,by kernel_rfl,h1,ba hb _,Blk.new_at _ _ rfl rfl,md1_new h1 hb⟩
    exact AllReady.nil
   have K1000:=Lib.hid k0
   clear k0
   obtain ⟨w,hw⟩:∃ w,w = Wr.drew:=⟨_,rfl⟩
   have hG:Wr.grownBy w (some g):=by rw [hw]; exact hb0
   have hM:Mk (mP L A c N fs AP cP 0 con g S none 0) (a' + 1) l' w:=by rw [hw]; exact HMd.out
   have c6:=hM.c6 HJ.out
   have b51:Nat:=0
   have b55:Nat:=0
   rw [← hw]
   clear hw
   refine wpAny_ready (rs:=[4,8,10,14]) (by kernel_rfl) (by simp) ?_
   refine AllReady.cons rfl (fun K hK=>?_) ?_
   ·go_simp
    refine hK _ _ ?_
    clear hK K
    refine wpAny_take (i:=13) (v:=.int .i64 (j:Int)) rfl (by kernel_rfl) (by kernel_rfl) (by kernel_rfl) (fun _ _ _ h=>h) (Or.inl ⟨by rfl,by intro w; go_simp⟩) ?_
    exact K0010.out _ _ ⟨b51,b55,by kernel_rfl,hG,hM⟩
   refine AllReady.cons rfl (fun K hK=>?_) ?_
   ·go_simp
    go_at_call 92
    refine (HVC.out _ hG hM).mono ?_
    rintro e w3 ⟨V,ts,At,ct,xs,a3,rfl,hgV,hrow3,hlo3,hhi3,hct3⟩
    try go_simp
    refine hK _ _ ?_
    clear hK K
    exact K1000.out _ _ ⟨b51,b55,V,w3,ts,At,ct,xs,a3,by kernel_rfl,md1_of hG hgV hrow3 hlo3 hhi3 hct3 hnp2,Below.refl _ _⟩
   refine AllReady.cons rfl (fun K hK=>?_) ?_
   ·go_simp
    refine hK _ _ ?_
    clear hK K
    exact K0100.out _ _ ⟨w.heap.size,b55,by kernel_rfl,gw_alloc hG _,hM.allocW _,Blk.new_at _ _ rfl rfl,Nat.lt_of_lt_of_le hgr hG.size⟩
   refine AllReady.cons rfl (fun K hK=>?_) ?_
   ·go_simp
    refine hK _ _ ?_
    clear hK K
    exact K0001.out _ _ ⟨b51,w.heap.size,by kernel_rfl,gw_alloc hG _,hM.allocW _,Blk.new_at _ _ rfl rfl,Nat.lt_of_lt_of_le hgr hG.size⟩
   exact AllReady.nil
  ·-- the blocks
   have hjn:j = n:=by omega
   have HJN:=Lib.hid hjn
   have hd0:decide (j < n) = false:=by simpa using hlt
   clear hjn hfn
   obtain ⟨pb,hpb⟩:∃ pb,AP = some ⟨pb,0,none⟩:=by
    obtain ⟨xs,h1,_⟩:=HRW.out.2.1.row
    obtain ⟨pb,cap,hv,_⟩:=h1.form (by have:=HJ.out; have:=HJN.out; omega)
    injection hv with hA
    exact ⟨pb,hA⟩
   subst hpb
   have HM0:=Lib.hid HRW.out.1.cs
   have HP0:=Lib.hid HRW.out.2.1
   have HG0:=Lib.hid HRW.out.2.2.1
   have HF0:=Lib.hid HRW.out.2.2.2.1
   have hj3:1≤j∧j≤3:=by have:=HJN.out; omega
   have c2:=HM0.out.cell 2
   have f2:=HM0.out.frozen 2
   simp only [List.getElem?_toArray,List.getElem?_cons_zero,List.getElem?_cons_succ] at c2
   have hw2:IntKind.i64.wrap (2 * (n:Int)) = 2 * (n:Int):=by rw [IntKind.wrap_i64]; omega
   obtain ⟨al,hal⟩:∃ z:Int,z = l' - 2 * (n:Int):=⟨_,rfl⟩
   have hw3:IntKind.i64.wrap (l' - 2 * (n:Int)) = al:=by rw [IntKind.wrap_i64]; omega
   have halb:-34≤al∧al≤34:=by have:=HJN.out; omega
   obtain ⟨W3,hW3⟩:∃ W,W = W0.setCell ⟨g,2,none⟩ (.int .i64 al):=⟨_,rfl⟩
   have HM3':Hid (Mk (mP L A c N fs (some ⟨pb,0,none⟩) cP 0 con g S none 0) a' al W3):=Lib.hid (by rw [hW3]; exact Mk.of (by have h:=HM0.out.set_ 2 (.int .i64 al); simpa using h))
   have HG3':Hid (W2.grownBy W3 (some g)):=Lib.hid (by rw [hW3]; exact gw_setCell HG0.out (.inl rfl) _)
   have HP3:Hid (P2 g 12 W3 (some ⟨pb,0,none⟩) cP fs):=Lib.hid (by rw [hW3]; exact HP0.out.gw (gw_setCell (gw_refl W0 g) (.inl rfl) _))
   have HW3:=Lib.hid hW3
   clear hW3 hal
   go_upto_region 13 with fail
   try rw [hw3]
   rw [← HW3.out]
   clear c2 f2 hw2 hw3
   have c2:=HM3'.out.cs.cell 2
   simp only [List.getElem?_toArray,List.getElem?_cons_zero,List.getElem?_cons_succ] at c2
   go_wp2_with fail
   clear c2 HRW HM0 HP0 HG0 HW3
   go_loopw [10] (fun i wr=>∃ (k F:Nat) (fs':List FI) (a2:Nat) (l2:Int),i = .int .i64 (k:Int)∧k≤n∧Hid (fs'.length = n∧Mk (mP L A c N fs' (some ⟨pb,0,none⟩) cP F con g S none 0) a2 l2 wr∧P2 g 12 wr (some ⟨pb,0,none⟩) cP fs'∧W2.grownBy wr (some g)∧(∀ f ∈ fs',FIOk f)∧(∀ (i:Nat) (f:FI),fs'[i]? = some f→i < k→GB (scO (pOf N fs') f.t) f.blk)∧a2≤700 + 400 * k)) (fun i _=>n - (intOf i).toNat)
   case atStart=>exact ⟨0,0,fs,a',al,rfl,Nat.zero_le _,by have:=HJ.out; have:=HJN.out; omega,HM3'.out,HP3.out,HG3'.out,fun f hf=>(HF0.out f hf).1,fun i f hi h=>absurd h (by omega),by omega⟩
   case round =>
    obtain ⟨k,F,fs2,a2,l2,rfl,hkn,HK⟩:=hrel
    obtain ⟨Wk,hWk⟩:∃ W,W = wr:=⟨_,rfl⟩
    subst hWk
    have HMk:=Lib.hid HK.out.2.1.cs
    have HPk:=Lib.hid HK.out.2.2.1
    have HGk:=Lib.hid HK.out.2.2.2.1
    have HLk:=Lib.hid HK.out.1
    have ha2:a2≤700 + 400 * k:=HK.out.2.2.2.2.2.2
    by_cases hk:k < n
    ·have hk2:(k:Int) < (n:Int):=by omega
     have hdk:decide (k < n) = true:=by simpa using hk
     have hkb:(0:Int)≤(k:Int)∧(k:Int) < (n:Int):=⟨by omega,hk2⟩
     have c2:=HMk.out.cell 2; have f2:=HMk.out.frozen 2; have c7:=HMk.out.cell 7; have f7:=HMk.out.frozen 7; have c6:=HMk.out.cell 6
     simp only [List.getElem?_toArray,List.getElem?_cons_zero,List.getElem?_cons_succ] at c2 c7 c6
     rw [HLk.out] at c6
     obtain ⟨f,hf⟩:∃ f,fs2[k]? = some f:=⟨_,List.getElem?_eq_getElem (by rw [HLk.out]; exact hk)⟩
     have HF:=Lib.hid hf
     have hfo:=HK.out.2.2.2.2.1 f (List.mem_of_getElem? hf)
     obtain ⟨q,hq⟩:∃ q,q = f.tys.length:=⟨_,rfl⟩
     have hq5:q≤5:=by have:=hfo.hi; have:=hfo.np; omega
     have HQ:=Lib.hid hq
     have HROW:Hid (∀ W,Wk.grownBy W (some g)→W.cell? ⟨pb,k * 4 + 3,none⟩ = some (.slice (some ⟨f.b,0,none⟩) (q + 1) f.c)):=Lib.hid fun W hg=>by
      obtain ⟨xs,h1,h2⟩:=(HPk.out.gw hg).row
      have h3:=h2 k f hf
      have h4:=h1.cellAt (k * 4 + 3) (by rw [HLk.out]; omega)
      rw [h4]
      have h5:((xs.drop (k * 4)).take 4)[3]? = some (.slice (some ⟨f.b,0,none⟩) f.t.kids.length f.c):=by rw [h3]; rfl
      rw [List.getElem?_take,if_pos (by omega),List.getElem?_drop] at h5
      rw [h5,f.len,hq]
     have HFRZ:Hid (∀ W,Wk.grownBy W (some g)→∀ i,W.frozen? ⟨f.b,i,none⟩ = false):=Lib.hid fun W hg i=>by
      obtain ⟨zs,A',c',h1,_⟩:=(HPk.out.gw hg).fn k f hf
      exact h1.frozenAt i
     have HCEL:Hid (∀ W,Wk.grownBy W (some g)→∃ o0 o1 o2 o3,W.cell? ⟨f.b,q * 4,none⟩ = some o0∧W.cell? ⟨f.b,q * 4 + 1,none⟩ = some o1∧W.cell? ⟨f.b,q * 4 + 2,none⟩ = some o2∧W.cell? ⟨f.b,q * 4 + 3,none⟩ = some o3):=Lib.hid fun W hg=>by
      obtain ⟨zs,A',c',h1,h2,_⟩:=(HPk.out.gw hg).fn k f hf
      rw [← hq] at h1
      have hz:zs.length = q * 4:=by have:=h2.1; rw [hq]; exact this
      have e:∀ i z,(nd f.blk A' c')[i]? = some z→W.cell? ⟨f.b,q * 4 + i,none⟩ = some z:=fun i z hi=>by
       have hi4:i < 4:=(List.getElem?_eq_some_iff.1 hi).1
       rw [h1.cellAt (q * 4 + i) (by omega),List.getElem?_append_right (by omega),show q * 4 + i - zs.length = i by omega]; exact hi
      exact ⟨_,_,_,_,e 0 _ rfl,e 1 _ rfl,e 2 _ rfl,e 3 _ rfl⟩
     obtain ⟨td,htd,htd1,htd2⟩:=tdiv_spec al ((n:Int) + 1) (by omega)
     have hnw1:IntKind.i64.wrap ((n:Int) + 1) = (n:Int) + 1:=by rw [IntKind.wrap_i64]; omega
     have hnw0:IntKind.i64.wrap ((n:Int) - 1) = (n:Int) - 1:=by rw [IntKind.wrap_i64]; omega
     have hne:¬ ((n:Int) + 1 = 0):=by omega
     have hnn:n = 1∨n = 2∨n = 3:=by omega
     have htdb:-34≤td∧td≤34:=by
      rcases hnn with rfl | rfl | rfl <;> by_cases h0:0≤al
      all_goals first | (have:=htd1 h0; omega) | (have:=htd2 (by omega); omega)
     have htw:IntKind.i64.wrap (al.tdiv ((n:Int) + 1)) = td:=by rw [htd,IntKind.wrap_i64]; omega
     obtain ⟨mu,hmu⟩:∃ z:Int,z = ((n:Int) - 1) * td:=⟨_,rfl⟩
     have hmub:-68≤mu∧mu≤68:=by rcases hnn with rfl | rfl | rfl <;> (rw [hmu]; omega)
     have hmw:IntKind.i64.wrap (((n:Int) - 1) * td) = mu:=by rw [← hmu,IntKind.wrap_i64]; omega
     have hl0w:IntKind.i64.wrap (al - mu) = al - mu:=by rw [IntKind.wrap_i64]; omega
     have hl0b:-110≤al - mu∧al - mu≤36:=by
      refine ⟨by omega,?_⟩
      rcases hnn with rfl | rfl | rfl <;> by_cases h0:0≤al
      all_goals first | (have:=htd1 h0; rw [hmu]; omega) | (have:=htd2 (by omega); rw [hmu]; omega)
     obtain ⟨W5,hW5⟩:∃ W,W = (Wk.setCell ⟨g,7,none⟩ (.int .i64 (k:Int))).setCell ⟨g,2,none⟩ (.int .i64 td):=⟨_,rfl⟩
     have HM5:Hid (Mk (mP L A c N fs2 (some ⟨pb,0,none⟩) cP k con g S none 0) a2 td W5):=Lib.hid (by rw [hW5]; exact Mk.of (by have h:=(HMk.out.set_ 7 (.int .i64 (k:Int))).set_ 2 (.int .i64 td); simpa using h))
     have HG5:Hid (Wk.grownBy W5 (some g)):=Lib.hid (by rw [hW5]; exact gw_setCell (gw_setCell (gw_refl Wk g) (.inl rfl) _) (.inl rfl) _)
     have HW5:=Lib.hid hW5
     have HBLK:Hid (∀ (W:World) (l4:Int),Wk.grownBy W (some g)→Mk (mP L A c N fs2 (some ⟨pb,0,none⟩) cP k con g S none 0) a2 l4 W→-200≤l4→l4≤36→Calls Tryd.prog 93 #[.pointer (some ⟨g,0,none⟩),.int .i64 3,.int .i64 4] W fun e w'=>∃ (t:T) (A':Option Addr) (c' a':Nat),e = .returned (.agg #[.int .i64 t.k,.int .i64 t.n,.int .i64 t.m,.slice A' t.kids.length c'])∧GB (scO (pOf N fs2) f.t) t∧Rep w' (fun b=>W.heap.size≤b∧b < w'.heap.size) 12 t (nd t A' c')∧Blk w' g 83 #[.slice A L.length c,.int .i64 (a':Int),.int .i64 (l4 - size t),.int .i64 27,.int .i64 N,.int .i64 0,.slice (some ⟨pb,0,none⟩) fs2.length cP,.int .i64 (k:Int),.bool con]∧W.grownBy w' (some g)∧a'≤a2 + 400∧size t≤59):=Lib.hid fun W l4 hg hm4 h4 h5 =>
      block_call HN2.out HGk.out HNB.out HPk.out hf HLk.out (by omega) HK.out.2.2.2.2.1 hg hm4 h4 h5 (by omega)
     have HKD:=Lib.hid HK.out.2.2.2.2.1
     have HKG:=Lib.hid HK.out.2.2.2.2.2.1
     clear hW5 hf hq htd htd1 htd2 hmu hnn HK hfo
     go_upto_region 19 with fail
     rw [← HW5.out]
     clear c2 f2 c7 f7 c6 HW5
     by_cases hk0:k = 0
     ·subst hk0
      have e2:=HM5.out.cs.cell 2; have g2:=HM5.out.cs.frozen 2
      simp only [List.getElem?_toArray,List.getElem?_cons_zero,List.getElem?_cons_succ] at e2
      obtain ⟨W6,hW6⟩:∃ W,W = W5.setCell ⟨g,2,none⟩ (.int .i64 (al - mu)):=⟨_,rfl⟩
      have HM6:Hid (Mk (mP L A c N fs2 (some ⟨pb,0,none⟩) cP 0 con g S none 0) a2 (al - mu) W6):=Lib.hid (by rw [hW6]; exact Mk.of (by have h:=HM5.out.cs.set_ 2 (.int .i64 (al - mu)); simpa using h))
      have HG6:Hid (Wk.grownBy W6 (some g)):=Lib.hid (by rw [hW6]; exact gw_setCell HG5.out (.inl rfl) _)
      have HW6:=Lib.hid hW6
      clear hW6
      go_upto_region 21 with fail
      rw [← HW6.out]
      clear e2 g2 HW6
      have HR6:Hid (Wk.grownBy W6 (some g)):=HG6
      have hrow:=HROW.out _ HR6.out
      simp only [Nat.zero_mul,Nat.zero_add] at hrow
      have c6:=HM6.out.cs.cell 6
      simp only [List.getElem?_toArray,List.getElem?_cons_zero,List.getElem?_cons_succ] at c6
      rw [HLk.out] at c6
      have hqw:IntKind.i64.wrap (((q:Int) + 1) - 1) = (q:Int):=by rw [IntKind.wrap_i64]; omega
      have hqb:(0:Int)≤(q:Int)∧(q:Int) < (q:Int) + 1:=⟨by omega,by omega⟩
      go_wp2_with (go_at_call 93; refine (HBLK.out _ (al - mu) HR6.out HM6.out (by omega) (by omega)).mono ?_; rintro e w8 ⟨t,A8,c8,a8,rfl,hgb,hrep,hm8,hg8,h1,h2⟩; have HGB:=Lib.hid hgb; have HRP:=Lib.hid hrep; have HM8:=Lib.hid hm8; have HG8:=Lib.hid (gw_trans HR6.out hg8); have HG8':=Lib.hid hg8; have HA8:=Lib.hid (And.intro h1 h2); obtain ⟨o0,o1,o2,o3,d0,d1,d2,d3⟩:=HCEL.out _ HG8.out; have g0:=HFRZ.out _ HG8.out (q * 4); have g1:=HFRZ.out _ HG8.out (q * 4 + 1); have g2:=HFRZ.out _ HG8.out (q * 4 + 2); have g3:=HFRZ.out _ HG8.out (q * 4 + 3); clear hgb hrep hm8 hg8 h1 h2)
      go_roundw
      case rel =>
       have hr:=made_next HPk.out HG8.out HR6.out.size HF.out HRP.out HM8.out HGB.out HKD.out HKG.out HA8.out.2 (vA:=none) (vc:=0) (S:=S)
       rw [← HQ.out] at hr
       exact ⟨0 + 1,0,fs2.set 0 ⟨f.np,f.tys,t,f.b,f.c⟩,a8,_,by go_num,by omega,by rw [List.length_set]; exact HLk.out,hr.1,hr.2.1,gw_row (gw_trans HGk.out HG8.out) hr.2.2.1 (fun b hb=>by rw [← Option.some.inj hb]; have:=(HPk.out.lt (List.mem_of_getElem? HF.out)).1; have:=HSZ2.out; omega),hr.2.2.2.1,hr.2.2.2.2,by have:=HA8.out.1; omega⟩
      case measure=>simp [intOf]; omega
     ·have hkd:decide (k = 0) = false:=by simpa using hk0
      go_upto_region 21 with fail
      have HR6:Hid (Wk.grownBy W5 (some g)):=HG5
      have hrow:=HROW.out _ HR6.out
      have c6:=HM5.out.cs.cell 6
      simp only [List.getElem?_toArray,List.getElem?_cons_zero,List.getElem?_cons_succ] at c6
      rw [HLk.out] at c6
      have hqw:IntKind.i64.wrap (((q:Int) + 1) - 1) = (q:Int):=by rw [IntKind.wrap_i64]; omega
      have hqb:(0:Int)≤(q:Int)∧(q:Int) < (q:Int) + 1:=⟨by omega,by omega⟩
      go_wp2_with (go_at_call 93; refine (HBLK.out _ (td) HR6.out HM5.out (by omega) (by omega)).mono ?_; rintro e w8 ⟨t,A8,c8,a8,rfl,hgb,hrep,hm8,hg8,h1,h2⟩; have HGB:=Lib.hid hgb; have HRP:=Lib.hid hrep; have HM8:=Lib.hid hm8; have HG8:=Lib.hid (gw_trans HR6.out hg8); have HG8':=Lib.hid hg8; have HA8:=Lib.hid (And.intro h1 h2); obtain ⟨o0,o1,o2,o3,d0,d1,d2,d3⟩:=HCEL.out _ HG8.out; have g0:=HFRZ.out _ HG8.out (q * 4); have g1:=HFRZ.out _ HG8.out (q * 4 + 1); have g2:=HFRZ.out _ HG8.out (q * 4 + 2); have g3:=HFRZ.out _ HG8.out (q * 4 + 3); clear hgb hrep hm8 hg8 h1 h2)
      go_roundw
      case rel =>
       have hr:=made_next HPk.out HG8.out HR6.out.size HF.out HRP.out HM8.out HGB.out HKD.out HKG.out HA8.out.2 (vA:=none) (vc:=0) (S:=S)
       rw [← HQ.out] at hr
       exact ⟨k + 1,k,fs2.set k ⟨f.np,f.tys,t,f.b,f.c⟩,a8,_,by go_num,by omega,by rw [List.length_set]; exact HLk.out,hr.1,hr.2.1,gw_row (gw_trans HGk.out HG8.out) hr.2.2.1 (fun b hb=>by rw [← Option.some.inj hb]; have:=(HPk.out.lt (List.mem_of_getElem? HF.out)).1; have:=HSZ2.out; omega),hr.2.2.2.1,hr.2.2.2.2,by have:=HA8.out.1; omega⟩
      case measure=>simp [intOf]; omega
    ·have HKN:Hid (k = n):=Lib.hid (by omega)
     have hdk:decide (k < n) = false:=by simpa using hk
     have c3:=HMk.out.cell 3; have c4:=HMk.out.cell 4; have c5:=HMk.out.cell 5; have c6:=HMk.out.cell 6
     simp only [List.getElem?_toArray,List.getElem?_cons_zero,List.getElem?_cons_succ] at c3 c4 c5 c6
     rw [HLk.out] at c6
     have HZk:Hid (Blk Wk r 25 #[.int .i64 0,.int .i64 0,.int .i64 0,.slice none 0 0]):=Lib.hid (HZ2.out.gw HGk.out (by omega))
     have r0:=HZk.out.cell 0; have r1:=HZk.out.cell 1; have r2:=HZk.out.cell 2; have r3:=HZk.out.cell 3; have f0:=HZk.out.frozen 0; have f1:=HZk.out.frozen 1; have f2:=HZk.out.frozen 2; have f3:=HZk.out.frozen 3
     simp only [List.getElem?_toArray,List.getElem?_cons_zero,List.getElem?_cons_succ] at r0 r1 r2 r3
     have HKD:=Lib.hid HK.out.2.2.2.2.1
     have HKG:=Lib.hid HK.out.2.2.2.2.2.1
     clear HK
     go_wp2_with fail
     refine bodyPost_ret (v:=.agg #[.int .i64 27,.int .i64 N,.int .i64 0,.slice (some ⟨pb,0,none⟩) n cP]) (by simp [results,Tryd.results68,go_sem,r0,r1,r2,r3]) rfl ?_
     have hlk:=HLk.out
     have hn3':=hj3
     have hjn':=HJN.out
     refine ⟨N,fs2,some ⟨pb,0,none⟩,cP,by rw [hlk],HNB.out.1,HNB.out.2.1,HNB.out.2.2,by omega,by omega,fun f hf=>⟨HKD.out f hf,?_⟩,?_,?_⟩
     ·obtain ⟨i,hi⟩:=List.mem_iff_getElem?.1 hf
      exact HKG.out i f hi (by have:=(List.getElem?_eq_some_iff.1 hi).1; have:=HKN.out; omega)
     ·have hnds:=HPk.out.nds (by omega)
      obtain ⟨⟨xs,h1,h2⟩,h3,h4⟩:=hnds
      have hrep:Rep Wk (fun x=>g < x∧x < Wk.heap.size) 14 (pOf N fs2) (nd (pOf N fs2) (some ⟨pb,0,none⟩) cP):=Rep.mk (small (by omega) (by omega)) (small (by have:=HNB.out.1; omega) (by have:=HNB.out.2.1; omega)) (small (by omega) (by omega)) h3 h1 h2
      refine (put4_rep hrep (r:=r) (fun h=>by have:=h.1; omega) _ _ _ _).mono fun b hb=>?_
      rw [(gw4 _ _ _ _ _ _).2]
      exact ⟨by have:=hb.1; have:=HRR.out; omega,hb.2⟩
     ·exact put4_below (HB2.out.grown HGk.out HB2.out.size (fun k hk=>by have:=Option.some.inj hk; have:=HRR.out; omega)) _ _ _ _ (by have:=HRR.out; omega)
end Go.Proofs.YtkkenbalpnmfmaaDoor
