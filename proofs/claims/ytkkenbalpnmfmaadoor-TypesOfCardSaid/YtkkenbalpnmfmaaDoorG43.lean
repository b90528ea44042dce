/- Texts joined. -/
import Derived.Test.YtkkenbalpnmfmaaDoorG42
set_option linter.unusedVariables false
namespace Go.Proofs.YtkkenbalpnmfmaaDoor
open Go.RowKit WM TR TY

theorem of_eq {p x:T} (hp:isProg p = true) (hw:isProg (wrapN 4 x) = true) (f:Int):ofK p f x = ofR p f x:=by
 unfold ofK ofR
 rw [if_neg (by simp [hp]),if_neg (by simp [hw])]
theorem ofR_range {p x:T} (hp:isProg p = true) (hf:Fit x) (f:Int):(ofR p f x).1 = 0∨(ofR p f x).1 = 1:=by
 have hpp:IsProg p:=by unfold isProg at hp; simpa using hp
 unfold ofR
 by_cases h1:f < 0∨(p.kids.length:Int)≤f
 ·rw [if_pos h1]; exact .inl rfl
 ·rw [if_neg h1]
  obtain ⟨j,hj⟩:∃ j:Nat,f = (j:Int):=⟨f.toNat,by omega⟩
  obtain ⟨u,hu⟩:∃ u,p.kids[j]? = some u:=⟨_,List.getElem?_eq_getElem (by omega)⟩
  have hfu:IsFun u:=by have h:=hpp.2.2.2.2 j u hu; unfold isFun at h; simpa using h
  rw [hj,tAt_j hu]
  by_cases h2:(firstW (scO p u) x).2 = 0
  ·rw [if_neg (by simpa using h2)]; exact type_range01 hfu hf h2
  ·rw [if_pos h2]; exact .inl rfl
set_option maxRecDepth 100000 in
set_option maxHeartbeats 16000000 in
theorem sameOf_is (y : T) (ff : Nat) (f : Int) (Ay : Option Addr) (cy : Nat) (w : World) (hiy : isProg y = true) (hff : ff < y.kids.length) (hry : Rep w (Lt w.heap.size) 1000 y (nd y Ay cy)) (hST : ST w) (hG : 0 < w.heap.size) :
  Calls Tryd.prog 20 #[.agg #[.int .i64 y.k,.int .i64 y.n,.int .i64 y.m,.slice Ay y.kids.length cy],.int .i64 (ff:Int),.int .i64 f] w fun e w'=>e = .returned (.bool true)∧Below w.heap.size w w':=by
 have hyy:IsProg y:=by unfold isProg at hiy; simpa using hiy
 have hsy:size y≤256:=hyy.2.2.1
 obtain ⟨u,hu⟩:∃ u,y.kids[ff]? = some u:=⟨_,List.getElem?_eq_getElem hff⟩
 have hpku:=prog_kid hiy (List.mem_of_getElem? hu)
 obtain ⟨x,hx⟩:∃ x,u.kids[u.kids.length - 1]? = some x:=⟨_,List.getElem?_eq_getElem (by have h1:=hpku.n0; have h2:=hpku.n1; omega)⟩
 have hsx:size x≤256:=by have h1:=size_kid hu; have h2:=size_kid hx; omega
 obtain ⟨yk,hyk⟩:∃ z,z = y.k:=⟨_,rfl⟩
 obtain ⟨yn,hyn⟩:∃ z,z = y.n:=⟨_,rfl⟩
 obtain ⟨ym,hym⟩:∃ z,z = y.m:=⟨_,rfl⟩
 obtain ⟨yl,hyl⟩:∃ z,z = y.kids.length:=⟨_,rfl⟩
 obtain ⟨z,hz⟩:∃ z,z = w.heap.size:=⟨_,rfl⟩
 obtain ⟨W1,hW1⟩:∃ W,W = w.alloc (.cells #[.int .i64 yk,.int .i64 yn,.int .i64 ym,.slice Ay yl cy] 25):=⟨_,rfl⟩
 have hb1:Below w.heap.size w W1:=by rw [hW1]; exact below_new _ _
 have kp:Blk W1 z 25 #[.int .i64 yk,.int .i64 yn,.int .i64 ym,.slice Ay yl cy]:=by rw [hW1,hz]; exact Blk.new _ _ _
 have hry1:=rep_next hry hb1
 have HCY:Hid (∀ W,Below W1.heap.size W1 W→W.cell? ⟨z,0,none⟩ = some (.int .i64 yk)∧W.cell? ⟨z,1,none⟩ = some (.int .i64 yn)∧W.cell? ⟨z,2,none⟩ = some (.int .i64 ym)∧W.cell? ⟨z,3,none⟩ = some (.slice Ay yl cy)):=Lib.hid fun W hb=>by
  have e1:=kp.below hb kp.lt
  exact ⟨e1.cell 0,e1.cell 1,e1.cell 2,e1.cell 3⟩
 have HBX:Hid (∀ W,Below W1.heap.size W1 W→ST W∧0 < W.heap.size):=Lib.hid fun W hb=>by
  have h:=bt hb1 hb
  exact ⟨hST.below h hG,Nat.lt_of_lt_of_le hG h.size⟩
 have HBO:Hid (∀ W,Below W1.heap.size W1 W→Calls Tryd.prog 32 #[.agg #[.int .i64 yk,.int .i64 yn,.int .i64 ym,.slice Ay yl cy],.int .i64 (ff:Int)] W fun e w'=>∃ A' c',e = .returned (.agg #[.int .i64 x.k,.int .i64 x.n,.int .i64 x.m,.slice A' x.kids.length c'])∧Rep w' (Lt W1.heap.size) 998 x (nd x A' c')∧Below W.heap.size W w'):=Lib.hid fun W hb=>by
  rw [hyk,hyn,hym,hyl]
  exact rbody_is 998 y u x (Lt W1.heap.size) Ay cy ff W (hry1.keep (Keeps.below (In.lt _) hb)) ((In.lt _).more hb.size) hu hx (by have h1:=kids_lt y; omega) (by have:=hpku.len; omega)
 have HYY:Hid (y.k = yk∧y.n = yn∧y.m = ym∧y.kids.length = yl):=Lib.hid ⟨hyk.symm,hyn.symm,hym.symm,hyl.symm⟩
 have HRY:=Lib.hid hry1
 have HSX:=Lib.hid hsx
 have HSY:=Lib.hid hsy
 have HUX:=Lib.hid (And.intro hu hx)
 have HIY:=Lib.hid hiy
 have HB1:=Lib.hid hb1
 have HW1:=Lib.hid hW1
 have HZ:=Lib.hid hz
 have HSAME:Hid (∀ W:World,∀ r1:Int,inRange r1→Calls Tryd.prog 55 #[.agg #[.int .i64 r1,.int .i64 0,.int .i64 0,.slice none 0 0],.agg #[.int .i64 r1,.int .i64 0,.int .i64 0,.slice none 0 0]] W fun e w'=>e = .returned (.bool true)∧Below W.heap.size W w'):=Lib.hid fun W r1 hr=>by
  have i0:inRange 0:=small (by omega) (by omega)
  have h:Rep W (Lt W.heap.size) 1 ⟨r1,0,0,[]⟩ (nd ⟨r1,0,0,[]⟩ none 0):=Rep.leaf hr i0 i0 0 0
  exact same_is 1 ⟨r1,0,0,[]⟩ ⟨r1,0,0,[]⟩ (Lt W.heap.size) none none 0 0 W h h (In.lt _) (by rw [size1]; omega) (by rw [size1]; omega) true (by rw [cmp_self]; simp)
 rw [← hyk,← hyn,← hym,← hyl]
 clear hyy hsy hu hpku hx hsx hyk hyn hym hyl hz hW1 hb1 kp hry hry1 hST hG hiy hff
 go_enter Tryd.func20,Tryd.ntmps20
 go_upto_region 1 with fail
 rw [← HW1.out,← HZ.out]
 obtain ⟨z0,z1,z2,z3⟩:=HCY.out W1 (Below.refl _ _)
 go_upto_region 2 with (first
  | (go_at_call 32; refine (HBO.out _ (Below.refl _ _)).mono ?_; rintro e wb ⟨Ab,cb2,rfl,hrb,hbb⟩; have HRB:=Lib.hid hrb; have HBB:=Lib.hid hbb; clear hrb hbb)
  | (go_at_call 36; refine (exprsL_is 998 x (Lt W1.heap.size) Ab cb2 _ HRB.out ((In.lt _).more HBB.out.size) (by have:=HSX.out; omega)).mono ?_; rintro e w5 ⟨Ae,ce,xs,rfl,hown,hreps,hb5⟩; have HOE:=Lib.hid hown; have HRE:=Lib.hid hreps; have HB5:=Lib.hid (bt HBB.out hb5); clear hown hreps hb5))
 clear z0 z1 z2 z3
 obtain ⟨ne,hne⟩:∃ n,n = (es x).length:=⟨_,rfl⟩
 have HNE:=Lib.hid hne
 rw [← hne] at HOE ⊢
 clear hne
 go_wp2_with fail
 go_loopw [8] (fun i wr=>∃ (k3:Nat),k3≤ne∧i = .int .i64 (k3:Int)∧Hid (Below w5.heap.size w5 wr)) (fun i _=>ne - (intOf i).toNat)
 case atStart=>exact ⟨0,Nat.zero_le _,rfl,Below.refl _ _⟩
 case round =>
  obtain ⟨k3,hk3n,rfl,HBE⟩:=hrel
  obtain ⟨Wk,hWk⟩:∃ W,W = wr:=⟨_,rfl⟩
  subst hWk
  have HBK:Hid (Below W1.heap.size W1 Wk):=Lib.hid (bt HB5.out HBE.out)
  by_cases hkn:k3 < ne
  ·have hkn2:(k3:Int) < (ne:Int):=by omega
   have hdn:decide (k3 < ne) = true:=by simpa using hkn
   by_cases hk40:k3 < 40
   ·have hk402:(k3:Int) < 40:=by omega
    have hd40:decide (k3 < 40) = true:=by simpa using hk40
    obtain ⟨ex,hex⟩:∃ ex,(es x)[k3]? = some ex:=⟨_,List.getElem?_eq_getElem (by rw [← HNE.out]; exact hkn)⟩
    have hexm:=List.mem_of_getElem? hex
    obtain ⟨hwr,hfe⟩:=es_body HIY.out (List.mem_of_getElem? HUX.out.1) HUX.out.2 hexm
    have hes:=es_sub x ex hexm
    obtain ⟨be,cape,hve,hbe,hbel⟩:=HOE.out.form (by omega)
    have hA:Ae = some ⟨be,0,none⟩:=by injection hve
    subst hA
    have hre:=HRE.out.2 k3 ex hex
    obtain ⟨A9,c9,hnd9,_⟩:=hre.form
    rw [hnd9] at hre
    obtain ⟨ek,hek⟩:∃ z,z = ex.k:=⟨_,rfl⟩
    obtain ⟨en,hen⟩:∃ z,z = ex.n:=⟨_,rfl⟩
    obtain ⟨em,hem⟩:∃ z,z = ex.m:=⟨_,rfl⟩
    obtain ⟨el,hel⟩:∃ z,z = ex.kids.length:=⟨_,rfl⟩
    have HCE:Hid (∀ W,Below w5.heap.size w5 W→W.cell? ⟨be,k3 * 4,none⟩ = some (.int .i64 ek)∧W.cell? ⟨be,k3 * 4 + 1,none⟩ = some (.int .i64 en)∧W.cell? ⟨be,k3 * 4 + 2,none⟩ = some (.int .i64 em)∧W.cell? ⟨be,k3 * 4 + 3,none⟩ = some (.slice A9 el c9)):=Lib.hid fun W hb=>by
     have e:∀ i v,(nd ex A9 c9)[i]? = some v→W.cell? ⟨be,k3 * 4 + i,none⟩ = some v:=fun i v hv=>by
      have hi4:i < 4:=(List.getElem?_eq_some_iff.1 hv).1
      rw [hb.cell (p:=⟨be,k3 * 4 + i,none⟩) hbel,HOE.out.cellAt (k3 * 4 + i) (by omega)]
      rw [← hnd9,List.getElem?_take,if_pos hi4,List.getElem?_drop] at hv
      exact hv
     exact ⟨by rw [hek]; exact e 0 _ rfl,by rw [hen]; exact e 1 _ rfl,by rw [hem]; exact e 2 _ rfl,by rw [hel]; exact e 3 _ rfl⟩
    obtain ⟨r1,hr1⟩:∃ z,z = (ofR y f ex).1:=⟨_,rfl⟩
    obtain ⟨r2,hr2⟩:∃ z,z = (ofR y f ex).2:=⟨_,rfl⟩
    have hx9:∀ W,Below Wk.heap.size Wk W→Rep W (Lt W.heap.size) 1000 ex (nd ex A9 c9):=fun W hb =>
     ((hre.keep (Keeps.below (fun b (h:b < W1.heap.size)=>Nat.lt_of_lt_of_le h HB5.out.size) (HBE.out.trans (hb.mono HBE.out.size)))).mono fun b (h:b < W1.heap.size)=>Nat.lt_of_lt_of_le h (bt HBK.out hb).size).deeper (by omega)
    have hr1r:inRange r1:=by
     rw [hr1]
     rcases ofR_range HIY.out hfe f with h | h <;> rw [h] <;> exact small (by omega) (by omega)
    have HOF:Hid (∀ W,Below Wk.heap.size Wk W→Calls Tryd.prog 29 #[.agg #[.int .i64 yk,.int .i64 yn,.int .i64 ym,.slice Ay yl cy],.int .i64 f,.agg #[.int .i64 ek,.int .i64 en,.int .i64 em,.slice A9 el c9]] W fun e w'=>e = .returned (.tuple #[.agg #[.int .i64 r1,.int .i64 0,.int .i64 0,.slice none 0 0],.int .i64 r2])∧Below W.heap.size W w'):=Lib.hid fun W hb=>by
     have hbW:=bt HBK.out hb
     have h:=of_is 999 y ex f Ay A9 cy c9 W (rep_next HRY.out hbW) (hx9 W hb) (by omega) (by have:=HSY.out; omega) (by have h1:=hes.1; have h2:=HSX.out; omega) (HBX.out W hbW).1 (HBX.out W hbW).2
     rw [HYY.out.1,HYY.out.2.1,HYY.out.2.2.1,HYY.out.2.2.2,← hek,← hen,← hem,← hel,of_eq HIY.out hwr f,← hr1,← hr2] at h
     exact h
    have HRF0:Hid (∀ W,Below Wk.heap.size Wk W→Calls Tryd.prog 54 #[.agg #[.int .i64 yk,.int .i64 yn,.int .i64 ym,.slice Ay yl cy],.int .i64 f,.agg #[.int .i64 ek,.int .i64 en,.int .i64 em,.slice A9 el c9]] W fun e w'=>e = .returned (.tuple #[.agg #[.int .i64 r1,.int .i64 0,.int .i64 0,.slice none 0 0],.int .i64 r2])∧Below W.heap.size W w'):=Lib.hid fun W hb=>by
     have hbW:=bt HBK.out hb
     have h:=rof_is 997 1000 y ex f Ay A9 cy c9 W (rep_next HRY.out hbW) HIY.out (hx9 W hb) hfe hes.2.2.1 (by have h1:=hes.1; have h2:=HSX.out; omega)
     rw [HYY.out.1,HYY.out.2.1,HYY.out.2.2.1,HYY.out.2.2.2,← hek,← hen,← hem,← hel,← hr1,← hr2] at h
     exact h
    have HSM:=Lib.hid (fun W=>HSAME.out W r1 hr1r)
    have hbn:(0:Int)≤(k3:Int)∧(k3:Int) < (ne:Int):=⟨by omega,hkn2⟩
    clear hex hexm hwr hfe hes hve hbe hbel hre hnd9 hek hen hem hel hr1 hr2 hx9 hr1r HSAME
    have HSAME:=HSM
    go_upto_region 5 with fail
    refine wp_region_held_drew (S:=fun W=>Below Wk.heap.size Wk W) (by kernel_rfl) (Below.refl _ _).drew (fun hS0=>?_)
    refine wpAnyH_take (i:=0) (v:=?_) rfl (by kernel_rfl) (by kernel_rfl) (by kernel_rfl) (fun _ _ _ h=>h) (Or.inl ⟨by rfl,?_⟩) hS0 ?_; rotate_left; (intro w hSw; (try dsimp only at hSw); obtain ⟨z0,z1,z2,z3⟩:=HCY.out w (HBK.out.trans (hSw.mono HBK.out.size)); obtain ⟨v0,v1,v2,v3⟩:=HCE.out w (HBE.out.trans (hSw.mono HBE.out.size)); go_simp; try with_reducible rfl)
    refine wpAnyH_take (i:=1) (v:=?_) rfl (by kernel_rfl) (by kernel_rfl) (by kernel_rfl) (fun _ _ _ h=>h) (Or.inl ⟨by rfl,?_⟩) hS0 ?_; rotate_left; (intro w hSw; (try dsimp only at hSw); go_simp; try with_reducible rfl)
    refine wpAnyH_take (i:=2) (v:=?_) rfl (by kernel_rfl) (by kernel_rfl) (by kernel_rfl) (fun _ _ _ h=>h) (Or.inl ⟨by rfl,?_⟩) hS0 ?_; rotate_left; (intro w hSw; (try dsimp only at hSw); go_simp; try with_reducible rfl)
    refine wpAnyH_take (i:=3) (v:=?_) rfl (by kernel_rfl) (by kernel_rfl) (by kernel_rfl) (fun _ _ _ h=>h) (Or.inl ⟨by rfl,?_⟩) hS0 ?_; rotate_left; (intro w hSw; (try dsimp only at hSw); go_simp; try with_reducible rfl)
    refine wpAnyH_take (i:=4) (v:=?_) rfl (by kernel_rfl) (by kernel_rfl) (by kernel_rfl) (fun _ _ _ h=>h) (Or.inl ⟨by rfl,?_⟩) hS0 ?_; rotate_left; (intro w hSw; (try dsimp only at hSw); go_simp; try with_reducible rfl)
    refine wpAnyH_take (i:=5) (v:=?_) rfl (by kernel_rfl) (by kernel_rfl) (by kernel_rfl) (fun _ _ _ h=>h) (Or.inl ⟨by rfl,?_⟩) hS0 ?_; rotate_left; (intro w hSw; (try dsimp only at hSw); obtain ⟨z0,z1,z2,z3⟩:=HCY.out w (HBK.out.trans (hSw.mono HBK.out.size)); obtain ⟨v0,v1,v2,v3⟩:=HCE.out w (HBE.out.trans (hSw.mono HBE.out.size)); go_simp; try with_reducible rfl)
    conv=>arg 8; simp [go_sem]
    conv=>arg 7; simp
    refine wpAnyH_key 2 #[true,true,true,true,true,true,true,true,true,true,true,false,false] (fun a0 a w=>∃ b21:Nat,a = (Act.put (Act.put (Act.put (Act.put (Act.put a0 (some 34) (.tuple #[.agg #[.int .i64 r1,.int .i64 0,.int .i64 0,.slice none 0 0],.int .i64 r2])) (some 27) (.tuple #[.agg #[.int .i64 r1,.int .i64 0,.int .i64 0,.slice none 0 0],.int .i64 r2])) (some 35) (.agg #[.int .i64 r1,.int .i64 0,.int .i64 0,.slice none 0 0])) (some 36) (.int .i64 r2)) (some 9) (.pointer (some ⟨b21,0,none⟩)))∧Below Wk.heap.size Wk w∧Blk w b21 25 #[.int .i64 0,.int .i64 0,.int .i64 0,.slice none 0 0]∧Wk.heap.size≤b21) ?_ (fun k0=>?_)
    ·rintro a w ⟨b21,rfl,hB,hk,hle⟩
     have c0:=hk.cell 0; have c1:=hk.cell 1; have c2:=hk.cell 2; have c3:=hk.cell 3; have f0:=hk.frozen 0; have f1:=hk.frozen 1; have f2:=hk.frozen 2; have f3:=hk.frozen 3
     simp only [List.getElem?_toArray,List.getElem?_cons_zero,List.getElem?_cons_succ] at c0 c1 c2 c3
     refine wpAnyH_ready (rs:=[11]) (by kernel_rfl) (by simp) ?_
     refine AllReadyH.cons rfl (fun K hK=>?_) AllReadyH.nil
     go_simp
     have hB7:Below Wk.heap.size Wk ((((w.setCell ⟨b21,0,none⟩ (.int .i64 r1)).setCell ⟨b21,1,none⟩ (.int .i64 0)).setCell ⟨b21,2,none⟩ (.int .i64 0)).setCell ⟨b21,3,none⟩ (.slice none 0 0)):=put4_below hB _ _ _ _ hle
     have hk7:Blk ((((w.setCell ⟨b21,0,none⟩ (.int .i64 r1)).setCell ⟨b21,1,none⟩ (.int .i64 0)).setCell ⟨b21,2,none⟩ (.int .i64 0)).setCell ⟨b21,3,none⟩ (.slice none 0 0)) b21 25 #[.int .i64 r1,.int .i64 0,.int .i64 0,.slice none 0 0]:=by
      have h:=(((hk.set_ 0 (.int .i64 r1)).set_ 1 (.int .i64 0)).set_ 2 (.int .i64 0)).set_ 3 (.slice none 0 0)
      simpa using h
     refine hK.out _ _ hB7 (fun _=>?_)
     obtain ⟨W9,hW7⟩:∃ W,W = ((((w.setCell ⟨b21,0,none⟩ (.int .i64 r1)).setCell ⟨b21,1,none⟩ (.int .i64 0)).setCell ⟨b21,2,none⟩ (.int .i64 0)).setCell ⟨b21,3,none⟩ (.slice none 0 0)):=⟨_,rfl⟩
     rw [← hW7] at hB7 hk7 ⊢
     clear hK K hW7 c0 c1 c2 c3 f0 f1 f2 f3 hB hk hle
     refine wpAnyH_ready (rs:=[12]) (by kernel_rfl) (by simp) ?_
     refine AllReadyH.cons rfl (fun K hK=>?_) AllReadyH.nil
     go_simp
     refine hK.out _ _ hB7 (fun _=>?_)
     clear hK K
     refine wpAnyH_done (by kernel_rfl) ?_ _
     obtain ⟨b9,hbx⟩:∃ z,z = b21:=⟨_,rfl⟩
     rw [← hbx] at hk7 ⊢
     clear hbx
     have HW9:=Lib.hid hB7
     have HKW9:=Lib.hid hk7
     clear hB7 hk7
     have HBE9:Hid (Below w5.heap.size w5 W9):=Lib.hid (bt HBE.out HW9.out)
     have HBK9:Hid (Below W1.heap.size W1 W9):=Lib.hid (bt HBK.out HW9.out)
     go_upto_region 6 with fail
     refine wp_region_held_drew (S:=fun W=>Below W9.heap.size W9 W) (by kernel_rfl) (Below.refl _ _).drew (fun hS0=>?_)
     refine wpAnyH_take (i:=0) (v:=?_) rfl (by kernel_rfl) (by kernel_rfl) (by kernel_rfl) (fun _ _ _ h=>h) (Or.inl ⟨by rfl,?_⟩) hS0 ?_; rotate_left; (intro w hSw; (try dsimp only at hSw); obtain ⟨z0,z1,z2,z3⟩:=HCY.out w (HBK9.out.trans (hSw.mono HBK9.out.size)); obtain ⟨v0,v1,v2,v3⟩:=HCE.out w (HBE9.out.trans (hSw.mono HBE9.out.size)); go_simp; try with_reducible rfl)
     refine wpAnyH_take (i:=1) (v:=?_) rfl (by kernel_rfl) (by kernel_rfl) (by kernel_rfl) (fun _ _ _ h=>h) (Or.inl ⟨by rfl,?_⟩) hS0 ?_; rotate_left; (intro w hSw; (try dsimp only at hSw); go_simp; try with_reducible rfl)
     refine wpAnyH_take (i:=2) (v:=?_) rfl (by kernel_rfl) (by kernel_rfl) (by kernel_rfl) (fun _ _ _ h=>h) (Or.inl ⟨by rfl,?_⟩) hS0 ?_; rotate_left; (intro w hSw; (try dsimp only at hSw); go_simp; try with_reducible rfl)
     refine wpAnyH_take (i:=3) (v:=?_) rfl (by kernel_rfl) (by kernel_rfl) (by kernel_rfl) (fun _ _ _ h=>h) (Or.inl ⟨by rfl,?_⟩) hS0 ?_; rotate_left; (intro w hSw; (try dsimp only at hSw); go_simp; try with_reducible rfl)
     refine wpAnyH_take (i:=4) (v:=?_) rfl (by kernel_rfl) (by kernel_rfl) (by kernel_rfl) (fun _ _ _ h=>h) (Or.inl ⟨by rfl,?_⟩) hS0 ?_; rotate_left; (intro w hSw; (try dsimp only at hSw); go_simp; try with_reducible rfl)
     refine wpAnyH_take (i:=5) (v:=?_) rfl (by kernel_rfl) (by kernel_rfl) (by kernel_rfl) (fun _ _ _ h=>h) (Or.inl ⟨by rfl,?_⟩) hS0 ?_; rotate_left; (intro w hSw; (try dsimp only at hSw); obtain ⟨z0,z1,z2,z3⟩:=HCY.out w (HBK9.out.trans (hSw.mono HBK9.out.size)); obtain ⟨v0,v1,v2,v3⟩:=HCE.out w (HBE9.out.trans (hSw.mono HBE9.out.size)); go_simp; try with_reducible rfl)
     conv=>arg 8; simp [go_sem]
     conv=>arg 7; simp
     refine wpAnyH_key 2 #[true,true,true,true,true,true,true,true,true,true,true,false,false] (fun a0 a w=>∃ b21:Nat,a = (Act.put (Act.put (Act.put (Act.put (Act.put a0 (some 44) (.tuple #[.agg #[.int .i64 r1,.int .i64 0,.int .i64 0,.slice none 0 0],.int .i64 r2])) (some 37) (.tuple #[.agg #[.int .i64 r1,.int .i64 0,.int .i64 0,.slice none 0 0],.int .i64 r2])) (some 45) (.agg #[.int .i64 r1,.int .i64 0,.int .i64 0,.slice none 0 0])) (some 46) (.int .i64 r2)) (some 11) (.pointer (some ⟨b21,0,none⟩)))∧Below W9.heap.size W9 w∧Blk w b21 25 #[.int .i64 0,.int .i64 0,.int .i64 0,.slice none 0 0]∧W9.heap.size≤b21) ?_ (fun k0=>?_)
     ·rintro a w ⟨b21,rfl,hB,hk,hle⟩
      have c0:=hk.cell 0; have c1:=hk.cell 1; have c2:=hk.cell 2; have c3:=hk.cell 3; have f0:=hk.frozen 0; have f1:=hk.frozen 1; have f2:=hk.frozen 2; have f3:=hk.frozen 3
      simp only [List.getElem?_toArray,List.getElem?_cons_zero,List.getElem?_cons_succ] at c0 c1 c2 c3
      refine wpAnyH_ready (rs:=[11]) (by kernel_rfl) (by simp) ?_
      refine AllReadyH.cons rfl (fun K hK=>?_) AllReadyH.nil
      go_simp
      have hB7:Below W9.heap.size W9 ((((w.setCell ⟨b21,0,none⟩ (.int .i64 r1)).setCell ⟨b21,1,none⟩ (.int .i64 0)).setCell ⟨b21,2,none⟩ (.int .i64 0)).setCell ⟨b21,3,none⟩ (.slice none 0 0)):=put4_below hB _ _ _ _ hle
      have hk7:Blk ((((w.setCell ⟨b21,0,none⟩ (.int .i64 r1)).setCell ⟨b21,1,none⟩ (.int .i64 0)).setCell ⟨b21,2,none⟩ (.int .i64 0)).setCell ⟨b21,3,none⟩ (.slice none 0 0)) b21 25 #[.int .i64 r1,.int .i64 0,.int .i64 0,.slice none 0 0]:=by
       have h:=(((hk.set_ 0 (.int .i64 r1)).set_ 1 (.int .i64 0)).set_ 2 (.int .i64 0)).set_ 3 (.slice none 0 0)
       simpa using h
      refine hK.out _ _ hB7 (fun _=>?_)
      obtain ⟨W11,hW7⟩:∃ W,W = ((((w.setCell ⟨b21,0,none⟩ (.int .i64 r1)).setCell ⟨b21,1,none⟩ (.int .i64 0)).setCell ⟨b21,2,none⟩ (.int .i64 0)).setCell ⟨b21,3,none⟩ (.slice none 0 0)):=⟨_,rfl⟩
      rw [← hW7] at hB7 hk7 ⊢
      clear hK K hW7 c0 c1 c2 c3 f0 f1 f2 f3 hB hk hle
      refine wpAnyH_ready (rs:=[12]) (by kernel_rfl) (by simp) ?_
      refine AllReadyH.cons rfl (fun K hK=>?_) AllReadyH.nil
      go_simp
      refine hK.out _ _ hB7 (fun _=>?_)
      clear hK K
      refine wpAnyH_done (by kernel_rfl) ?_ _
      obtain ⟨b11,hbx⟩:∃ z,z = b21:=⟨_,rfl⟩
      rw [← hbx] at hk7 ⊢
      clear hbx
      have HW11:=Lib.hid hB7
      have HKW11:=Lib.hid hk7
      clear hB7 hk7
      have HB11:Hid (Below w5.heap.size w5 W11):=Lib.hid (bt (bt HBE.out HW9.out) HW11.out)
      have hk9:=HKW9.out.below HW11.out HKW9.out.lt
      have d0:=hk9.cell 0; have d1:=hk9.cell 1; have d2:=hk9.cell 2; have d3:=hk9.cell 3
      have e0:=HKW11.out.cell 0; have e1:=HKW11.out.cell 1; have e2:=HKW11.out.cell 2; have e3:=HKW11.out.cell 3
      simp only [List.getElem?_toArray,List.getElem?_cons_zero,List.getElem?_cons_succ] at d0 d1 d2 d3 e0 e1 e2 e3
      clear hk9
      go_wp2_with (go_at_call 55; refine (HSAME.out _).mono ?_; rintro e w12 ⟨rfl,hb12⟩; have HB12:=Lib.hid (bt HB11.out hb12); clear hb12)
      go_roundw
      case rel=>exact ⟨k3 + 1,by omega,by go_num,HB12.out⟩
      case measure=>simp [intOf]; omega
     have KJ:=Lib.hid k0
     clear k0
     obtain ⟨w,hw⟩:∃ w,w = W9.drew:=⟨_,rfl⟩
     have hS:Below W9.heap.size W9 w:=by rw [hw]; exact hS0
     rw [← hw]
     clear hw hS0
     refine wpAnyH_ready (rs:=[6,10]) (by kernel_rfl) (by simp) ?_
     refine AllReadyH.cons rfl (fun K hK=>?_) ?_
     ·go_simp
      go_at_call 54
      refine (HRF0.out _ (bt HW9.out hS)).mono ?_
      rintro e w8 ⟨rfl,hb8⟩
      try go_simp
      have hS8:=bt hS hb8
      refine hK.out _ _ hS8 (fun _=>?_)
      clear hK K
      refine wpAnyH_take (i:=7) (v:=?_) rfl (by kernel_rfl) (by kernel_rfl) (by kernel_rfl) (fun _ _ _ h=>h) (Or.inl ⟨by rfl,?_⟩) hS8 ?_; rotate_left; (intro w hSw; (try dsimp only at hSw); go_simp; try with_reducible rfl)
      refine wpAnyH_take (i:=8) (v:=?_) rfl (by kernel_rfl) (by kernel_rfl) (by kernel_rfl) (fun _ _ _ h=>h) (Or.inl ⟨by rfl,?_⟩) hS8 ?_; rotate_left; (intro w hSw; (try dsimp only at hSw); go_simp; try with_reducible rfl)
      refine wpAnyH_take (i:=9) (v:=?_) rfl (by kernel_rfl) (by kernel_rfl) (by kernel_rfl) (fun _ _ _ h=>h) (Or.inl ⟨by rfl,?_⟩) hS8 ?_; rotate_left; (intro w hSw; (try dsimp only at hSw); go_simp; try with_reducible rfl)
      refine wpAnyH_ready (rs:=[10]) (by kernel_rfl) (by simp) ?_
      refine AllReadyH.cons rfl (fun K hK=>?_) AllReadyH.nil
      go_simp
      refine hK.out _ _ (ba hS8 _) (fun _=>?_)
      exact KJ.out _ _ ⟨w8.heap.size,by kernel_rfl,ba hS8 _,Blk.new_at _ _ rfl rfl,hS8.size⟩
     refine AllReadyH.cons rfl (fun K hK=>?_) AllReadyH.nil
     go_simp
     have hS9:=ba hS (.cells #[.int .i64 0,.int .i64 0,.int .i64 0,.slice none 0 0] 25)
     refine hK.out _ _ hS9 (fun _=>?_)
     clear hK K
     refine wpAnyH_ready (rs:=[6]) (by kernel_rfl) (by simp) ?_
     refine AllReadyH.cons rfl (fun K hK=>?_) AllReadyH.nil
     go_simp
     go_at_call 54
     refine (HRF0.out _ (bt HW9.out hS9)).mono ?_
     rintro e w8 ⟨rfl,hb8⟩
     try go_simp
     have hS8:=bt hS9 hb8
     refine hK.out _ _ hS8 (fun _=>?_)
     clear hK K
     refine wpAnyH_take (i:=7) (v:=?_) rfl (by kernel_rfl) (by kernel_rfl) (by kernel_rfl) (fun _ _ _ h=>h) (Or.inl ⟨by rfl,?_⟩) hS8 ?_; rotate_left; (intro w hSw; (try dsimp only at hSw); go_simp; try with_reducible rfl)
     refine wpAnyH_take (i:=8) (v:=?_) rfl (by kernel_rfl) (by kernel_rfl) (by kernel_rfl) (fun _ _ _ h=>h) (Or.inl ⟨by rfl,?_⟩) hS8 ?_; rotate_left; (intro w hSw; (try dsimp only at hSw); go_simp; try with_reducible rfl)
     refine wpAnyH_take (i:=9) (v:=?_) rfl (by kernel_rfl) (by kernel_rfl) (by kernel_rfl) (fun _ _ _ h=>h) (Or.inl ⟨by rfl,?_⟩) hS8 ?_; rotate_left; (intro w hSw; (try dsimp only at hSw); go_simp; try with_reducible rfl)
     exact KJ.out _ _ ⟨w.heap.size,by kernel_rfl,hS8,(Blk.new_at w 25 rfl (show (#[.int .i64 0,.int .i64 0,.int .i64 0,.slice none 0 0]:Array Value) = #[.int .i64 0,.int .i64 0,.int .i64 0,.slice none 0 0] from rfl)).below hb8 (by rw [size_alloc]; omega),hS.size⟩
    have KJ:=Lib.hid k0
    clear k0
    obtain ⟨w,hw⟩:∃ w,w = Wk.drew:=⟨_,rfl⟩
    have hS:Below Wk.heap.size Wk w:=by rw [hw]; exact hS0
    rw [← hw]
    clear hw hS0
    refine wpAnyH_ready (rs:=[6,10]) (by kernel_rfl) (by simp) ?_
    refine AllReadyH.cons rfl (fun K hK=>?_) ?_
    ·go_simp
     go_at_call 29
     refine (HOF.out _ hS).mono ?_
     rintro e w8 ⟨rfl,hb8⟩
     try go_simp
     have hS8:=bt hS hb8
     refine hK.out _ _ hS8 (fun _=>?_)
     clear hK K
     refine wpAnyH_take (i:=7) (v:=?_) rfl (by kernel_rfl) (by kernel_rfl) (by kernel_rfl) (fun _ _ _ h=>h) (Or.inl ⟨by rfl,?_⟩) hS8 ?_; rotate_left; (intro w hSw; (try dsimp only at hSw); go_simp; try with_reducible rfl)
     refine wpAnyH_take (i:=8) (v:=?_) rfl (by kernel_rfl) (by kernel_rfl) (by kernel_rfl) (fun _ _ _ h=>h) (Or.inl ⟨by rfl,?_⟩) hS8 ?_; rotate_left; (intro w hSw; (try dsimp only at hSw); go_simp; try with_reducible rfl)
     refine wpAnyH_take (i:=9) (v:=?_) rfl (by kernel_rfl) (by kernel_rfl) (by kernel_rfl) (fun _ _ _ h=>h) (Or.inl ⟨by rfl,?_⟩) hS8 ?_; rotate_left; (intro w hSw; (try dsimp only at hSw); go_simp; try with_reducible rfl)
     refine wpAnyH_ready (rs:=[10]) (by kernel_rfl) (by simp) ?_
     refine AllReadyH.cons rfl (fun K hK=>?_) AllReadyH.nil
     go_simp
     refine hK.out _ _ (ba hS8 _) (fun _=>?_)
     exact KJ.out _ _ ⟨w8.heap.size,by kernel_rfl,ba hS8 _,Blk.new_at _ _ rfl rfl,hS8.size⟩
    refine AllReadyH.cons rfl (fun K hK=>?_) AllReadyH.nil
    go_simp
    have hS9:=ba hS (.cells #[.int .i64 0,.int .i64 0,.int .i64 0,.slice none 0 0] 25)
    refine hK.out _ _ hS9 (fun _=>?_)
    clear hK K
    refine wpAnyH_ready (rs:=[6]) (by kernel_rfl) (by simp) ?_
    refine AllReadyH.cons rfl (fun K hK=>?_) AllReadyH.nil
    go_simp
    go_at_call 29
    refine (HOF.out _ hS9).mono ?_
    rintro e w8 ⟨rfl,hb8⟩
    try go_simp
    have hS8:=bt hS9 hb8
    refine hK.out _ _ hS8 (fun _=>?_)
    clear hK K
    refine wpAnyH_take (i:=7) (v:=?_) rfl (by kernel_rfl) (by kernel_rfl) (by kernel_rfl) (fun _ _ _ h=>h) (Or.inl ⟨by rfl,?_⟩) hS8 ?_; rotate_left; (intro w hSw; (try dsimp only at hSw); go_simp; try with_reducible rfl)
    refine wpAnyH_take (i:=8) (v:=?_) rfl (by kernel_rfl) (by kernel_rfl) (by kernel_rfl) (fun _ _ _ h=>h) (Or.inl ⟨by rfl,?_⟩) hS8 ?_; rotate_left; (intro w hSw; (try dsimp only at hSw); go_simp; try with_reducible rfl)
    refine wpAnyH_take (i:=9) (v:=?_) rfl (by kernel_rfl) (by kernel_rfl) (by kernel_rfl) (fun _ _ _ h=>h) (Or.inl ⟨by rfl,?_⟩) hS8 ?_; rotate_left; (intro w hSw; (try dsimp only at hSw); go_simp; try with_reducible rfl)
    exact KJ.out _ _ ⟨w.heap.size,by kernel_rfl,hS8,(Blk.new_at w 25 rfl (show (#[.int .i64 0,.int .i64 0,.int .i64 0,.slice none 0 0]:Array Value) = #[.int .i64 0,.int .i64 0,.int .i64 0,.slice none 0 0] from rfl)).below hb8 (by rw [size_alloc]; omega),hS.size⟩
   ·have hd40:decide (k3 < 40) = false:=by simpa using hk40
    go_wp2_with fail
    go_ret
    exact ⟨rfl,bt HB1.out HBK.out⟩
  ·have hdn:decide (k3 < ne) = false:=by simpa using hkn
   go_wp2_with fail
   go_ret
   exact ⟨rfl,bt HB1.out HBK.out⟩
end Go.Proofs.YtkkenbalpnmfmaaDoor
