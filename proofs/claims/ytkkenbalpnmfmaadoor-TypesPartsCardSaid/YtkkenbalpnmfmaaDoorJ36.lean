/- Texts joined. -/
import Derived.Test.YtkkenbalpnmfmaaDoorJ33
import Derived.Test.YtkkenbalpnmfmaaDoorJ35
import Derived.Deep.RegionHeld3
import Derived.Test.YtkkenbalpnmfmaaDoorJ18
import Derived.Test.YtkkenbalpnmfmaaDoorJ19
import Derived.Test.YtkkenbalpnmfmaaDoorJ11
import Derived.Test.YtkkenbalpnmfmaaDoorJ10
set_option linter.unusedVariables false
namespace Go.Proofs.YtkkenbalpnmfmaaDoor
open Go.RowKit WM TR TY

def chkL (p:T):List T→Nat→List Int × Int
 | [],_=>([],0)
 | u :: l,i=>if (firstW (scO p u) u).2≠0 then ((i:Int) :: (firstW (scO p u) u).1,(firstW (scO p u) u).2) else chkL p l (i + 1)
noncomputable def chk (p:T):List Int × Int:=if isProg p = true then chkL p p.kids 0 else ([],2)
theorem chkL_drop (p:T) {l:List T} {j:Nat} {u:T} (h:l[j]? = some u):chkL p (l.drop j) j = if (firstW (scO p u) u).2≠0 then ((j:Int) :: (firstW (scO p u) u).1,(firstW (scO p u) u).2) else chkL p (l.drop (j + 1)) (j + 1):=by
 obtain ⟨h1,h2⟩:=List.getElem?_eq_some_iff.1 h
 rw [List.drop_eq_getElem_cons h1,chkL,h2]
theorem chkL_end (p:T) {l:List T} {j:Nat} (h:l.length≤j):chkL p (l.drop j) j = ([],0):=by
 rw [List.drop_eq_nil_of_le h,chkL]
theorem Nds.deeper {w:World} {S:Nat→Prop} {d d':Nat} {ts:List T} {A:Option Addr} {c:Nat} (h:Nds w S d ts A c) (hd:d≤d'):Nds w S d' ts A c:=by
 obtain ⟨⟨xs,h1,h2⟩,h3⟩:=h
 exact ⟨⟨xs,h1,h2.1,fun i u hu=>(h2.2 i u hu).deeper hd⟩,h3⟩
structure PKid (u:T):Prop where
 fit:Fit u
 n0:0≤u.n
 n1:u.n≤(u.kids.length:Int) - 1
 len:u.kids.length≤10
theorem prog_kid {p:T} (h:isProg p = true) {u:T} (hu:u ∈ p.kids):PKid u:=by
 have hp:IsProg p:=by unfold isProg at h; simpa using h
 have hf:=((prog_iff p).1 hp).2.2.2
 obtain ⟨i,hi⟩:=List.mem_iff_getElem?.1 hu
 have h2:IsFun u:=by have h3:=hp.2.2.2.2 i u hi; unfold isFun at h3; simpa using h3
 have hno:=nok_of (hf.kids u hu)
 exact ⟨hf.kids u hu,hno.n (by have:=h2.1; omega),hno.par h2.1,hno.len⟩
theorem prog_fok {p:T} (h:isProg p = true):FOk p.kids:=fun f hf=>by
 have k:=prog_kid h hf
 exact ⟨k.n0,by have:=k.n1; omega,by have:=k.len; omega⟩
theorem firstL_len (s:Sc) (D:Nat):∀ (l:List T) (i:Nat),(∀ u ∈ l,(firstW s u).1.length≤D)→(firstL s l i).1.length≤D + 1
 | [],_,_=>by rw [firstL]; exact Nat.zero_le _
 | u :: l,i,h=>by
  rw [firstL]
  split
  ·have:=h u (List.mem_cons_self ..)
   simp only [List.length_cons]; omega
  ·exact firstL_len s D l (i + 1) fun v hv=>h v (List.mem_cons_of_mem _ hv)
theorem firstW_len (s:Sc) {w:World} {S:Nat→Prop}:∀ (D:Nat) (x:T) (cs:List Value),Rep w S D x cs→(firstW s x).1.length≤D
 | 0,_,_,h=>h.elim
 | D + 1,x,cs,h=>by
  rw [firstW_eq]
  split
  ·exact Nat.zero_le _
  ·refine firstL_len s D _ _ fun u hu=>?_
   obtain ⟨A,c,rfl,_⟩:=h.form
   obtain ⟨xs,_,hrs⟩:=h.kids
   obtain ⟨i,hi⟩:=List.mem_iff_getElem?.1 hu
   exact firstW_len s D u _ (hrs.2 i u hi)
def ChkPost (p:T) (w:World) (e:Ending) (w':World):Prop :=
 ∃ A' c',e = .returned (.tuple #[.slice A' (chk p).1.length c',.int .i64 (chk p).2])∧(Reads w' w'.heap.size 1 A' (chk p).1.length (vi (chk p).1)∧(chk p).1.length≤c')∧Below w.heap.size w w'
theorem reads_nil (w:World) (B:Nat):Reads w B 1 none 0 []:=⟨rfl,fun h=>absurd h (by omega)⟩

set_option maxRecDepth 100000 in
set_option maxHeartbeats 16000000 in
theorem check_is (d : Nat) (p : T) (A : Option Addr) (c : Nat) (w : World) (hr : Rep w (Lt w.heap.size) (d + 1) p (nd p A c)) (hD : d ≤ 1000) (hsz : size p ≤ 1000000) (hT : ST w) (hg : 0 < w.heap.size) :
  Calls Tryd.prog 33 #[.agg #[.int .i64 p.k,.int .i64 p.n,.int .i64 p.m,.slice A p.kids.length c]] w (ChkPost p w):=by
 obtain ⟨z,hz⟩:∃ z,z = w.heap.size:=⟨_,rfl⟩
 obtain ⟨nk,hnk⟩:∃ z,z = p.kids.length:=⟨_,rfl⟩
 obtain ⟨k,hk⟩:∃ z,z = p.k:=⟨_,rfl⟩
 obtain ⟨n,hn⟩:∃ z,z = p.n:=⟨_,rfl⟩
 obtain ⟨m,hm⟩:∃ z,z = p.m:=⟨_,rfl⟩
 obtain ⟨W1,hW1⟩:∃ W,W = w.alloc (.cells #[.int .i64 k,.int .i64 n,.int .i64 m,.slice A nk c] 25):=⟨_,rfl⟩
 have hb1:Below w.heap.size w W1:=by rw [hW1]; exact below_new _ _
 have k1:Blk W1 z 25 #[.int .i64 k,.int .i64 n,.int .i64 m,.slice A nk c]:=by rw [hW1,hz]; exact Blk.new _ _ _
 obtain ⟨y0,y1,y2,y3⟩:W1.cell? ⟨z,0,none⟩ = some (.int .i64 k)∧W1.cell? ⟨z,1,none⟩ = some (.int .i64 n)∧W1.cell? ⟨z,2,none⟩ = some (.int .i64 m)∧W1.cell? ⟨z,3,none⟩ = some (.slice A nk c):=⟨k1.cell 0,k1.cell 1,k1.cell 2,k1.cell 3⟩
 have hr1:=rep_next hr hb1
 obtain ⟨v,hv⟩:∃ v,v = isProg p:=⟨_,rfl⟩
 have HVAL:Hid (Calls Tryd.prog 18 #[.agg #[.int .i64 k,.int .i64 n,.int .i64 m,.slice A nk c]] W1 fun e w'=>e = .returned (.bool v)∧Below W1.heap.size W1 w'):=Lib.hid (by
  have h:=tvalid_is (d + 1) p _ A c W1 hr1 (In.lt _) hsz (hT.below hb1 hg) (Nat.lt_of_lt_of_le hg hb1.size)
  rw [← hv,← hnk,← hk,← hn,← hm] at h
  exact h)
 have HW1:=Lib.hid hW1
 have HZ:=Lib.hid hz
 have HB1:=Lib.hid hb1
 have HK1:=Lib.hid k1
 have HR1:=Lib.hid hr1
 have HNK:=Lib.hid hnk
 have HK:=Lib.hid hk
 have HN:=Lib.hid hn
 have HM:=Lib.hid hm
 have HCH:Hid (chk p = if v = true then chkL p p.kids 0 else ([],2)):=Lib.hid (by unfold chk; rw [hv])
 have HV:=Lib.hid hv
 rw [← hnk,← hk,← hn,← hm]
 clear hr hsz hT hg hz hnk hk hn hm hW1 hb1 k1 hr1 hv
 cases v with
 | false =>
  have HC:Hid (chk p = ([],2)):=Lib.hid (by rw [HCH.out]; rfl)
  go_enter Tryd.func33,Tryd.ntmps33
  go_upto_region 1 with fail
  rw [← HW1.out]
  try rw [← HZ.out]
  go_wp2_with (go_at_call 18; refine HVAL.out.mono ?_; rintro e w2 ⟨rfl,hb2⟩; have HB2:=Lib.hid (bt HB1.out hb2); clear hb2 y0 y1 y2 y3)
  refine bodyPost_ret (v:=.tuple #[.slice none 0 0,.int .i64 2]) (by simp [results,Tryd.results33,go_sem]) rfl ?_
  unfold ChkPost
  rw [HC.out]
  exact ⟨none,0,rfl,⟨reads_nil _ _,Nat.le_refl _⟩,HB2.out⟩
 | true =>
  have HC:Hid (chk p = chkL p p.kids 0):=Lib.hid (by rw [HCH.out]; rfl)
  obtain ⟨xs,hrd,hrs⟩:=HR1.out.kids
  have hkl:p.kids.length≤1000:=by
   have h:=HV.out.symm
   have hp:IsProg p:=by unfold isProg at h; simpa using h
   have:=(nok_of ((prog_iff p).1 hp).2.2.2).len
   omega
  have HND:Hid (Nds W1 (Lt W1.heap.size) (d + 1) p.kids A c):=Lib.hid (Nds.deeper (d:=d) ⟨⟨xs,hrd,hrs⟩,HR1.out.cap,hkl⟩ (by omega))
  have HND0:Hid (Nds W1 (Lt W1.heap.size) d p.kids A c):=Lib.hid ⟨⟨xs,hrd,hrs⟩,HR1.out.cap,hkl⟩
  have hnk1:nk≤1000:=by rw [HNK.out]; exact hkl
  clear hrd hrs hkl
  go_enter Tryd.func33,Tryd.ntmps33
  go_upto_region 1 with fail
  rw [← HW1.out]
  try rw [← HZ.out]
  go_upto_region 4 with (go_at_call 18; refine HVAL.out.mono ?_; rintro e w2 ⟨rfl,hb2⟩; have HB2:=Lib.hid hb2; clear hb2 y0 y1 y2 y3; have y3:=(HK1.out.below HB2.out HK1.out.lt).cell 3)
  clear y3
  go_loopw [14] (fun i wr=>∃ j:Nat,j≤nk∧i = .int .i64 j∧Hid (Below W1.heap.size W1 wr)∧Hid (chk p = chkL p (p.kids.drop j) j)) (fun i _=>nk - (intOf i).toNat)
  case atStart=>exact ⟨0,Nat.zero_le _,rfl,HB2,by rw [List.drop_zero]; exact HC⟩
  case round =>
   obtain ⟨j,hj,rfl,HBR,HCR⟩:=hrel
   by_cases hlt:j < nk
   ·obtain ⟨u,hu⟩:∃ u,p.kids[j]? = some u:=⟨_,List.getElem?_eq_getElem (by rw [← HNK.out]; exact hlt)⟩
    obtain ⟨b,off,A',c',hA,hbl,hc,hru⟩:=HND0.out.at_ hu
    subst hA
    have hcu:∀ i v,(nd u A' c')[i]? = some v→wr.cell? ⟨b,off + j * 4 + i,none⟩ = some v:=fun i v hv=>(HBR.out.cell (p:=⟨b,_,none⟩) hbl).trans (hc i v hv)
    obtain ⟨nu,hnu⟩:∃ q,q = u.kids.length:=⟨_,rfl⟩
    obtain ⟨v0,v1,v2,v3⟩:wr.cell? ⟨b,off + j * 4,none⟩ = some (.int .i64 u.k)∧wr.cell? ⟨b,off + j * 4 + 1,none⟩ = some (.int .i64 u.n)∧wr.cell? ⟨b,off + j * 4 + 2,none⟩ = some (.int .i64 u.m)∧wr.cell? ⟨b,off + j * 4 + 3,none⟩ = some (.slice A' nu c'):=⟨hcu 0 _ rfl,hcu 1 _ rfl,hcu 2 _ rfl,by rw [hnu]; exact hcu 3 _ rfl⟩
    have hib:(0:Int)≤(j:Int)∧(j:Int) < (nk:Int):=⟨by omega,by omega⟩
    have hkid:=prog_kid HV.out.symm (List.mem_of_getElem? hu)
    obtain ⟨r,hr⟩:∃ r,r = firstW (scO p u) u:=⟨_,rfl⟩
    have HSO:Hid (∀ W,Below W1.heap.size W1 W→Calls Tryd.prog 63 #[.agg #[.int .i64 k,.int .i64 n,.int .i64 m,.slice (some ⟨b,off,none⟩) nk c],.int .i64 (j:Int)] W fun e w'=>∃ A' c',e = .returned (.agg #[.slice A' (scO p u).vars.length c',.slice (some ⟨b,off,none⟩) nk c,.int .i64 n])∧ScR w' (d + 1) (scO p u) A' c' (some ⟨b,off,none⟩) c∧Below W.heap.size W w'):=Lib.hid fun W hb=>by
     have h:=scopeOf_is p u j d _ c W (HND.out.next hb) hu ⟨by have:=hkid.n0; have:=hkid.n1; omega,by have:=hkid.len; omega⟩
     have e1:(scO p u).funs.length = nk:=HNK.out.symm
     have e2:(scO p u).ch = n:=HN.out.symm
     rw [e1,e2,← HNK.out,← HK.out,← HN.out,← HM.out] at h
     exact h
    have HFW:Hid (∀ W A2 c2,Below W1.heap.size W1 W→ScR W (d + 1) (scO p u) A2 c2 (some ⟨b,off,none⟩) c→Calls Tryd.prog 64 #[.agg #[.slice A2 (scO p u).vars.length c2,.slice (some ⟨b,off,none⟩) nk c,.int .i64 n],.agg #[.int .i64 u.k,.int .i64 u.n,.int .i64 u.m,.slice A' nu c']] W fun e w'=>∃ A' c',e = .returned (.tuple #[.slice A' r.1.length c',.int .i64 r.2])∧w'.ownsRow W.heap.size 3 1 (.slice A' r.1.length c') r.1.length (vi r.1)∧Below W.heap.size W w'):=Lib.hid fun W A2 c2 hb hs=>by
     have h:=firstWrong_is (scO p u) u (d + 1) d A2 _ A' c2 c c' W hs (rep_next hru hb) hkid.fit hD (prog_fok HV.out.symm)
     have e1:(scO p u).funs.length = nk:=HNK.out.symm
     have e2:(scO p u).ch = n:=HN.out.symm
     rw [e1,e2,← hnu,← hr] at h
     exact h
    have HLN:Hid (r.1.length≤1000):=Lib.hid (by rw [hr]; exact Nat.le_trans (firstW_len _ _ _ _ hru) hD)
    have HCX:Hid (chk p = if r.2≠0 then ((j:Int) :: r.1,r.2) else chkL p (p.kids.drop (j + 1)) (j + 1)):=Lib.hid (by rw [HCR.out,chkL_drop p hu,hr])
    obtain ⟨uk,huk⟩:∃ z,z = u.k:=⟨_,rfl⟩
    obtain ⟨un,hun⟩:∃ z,z = u.n:=⟨_,rfl⟩
    obtain ⟨um,hum⟩:∃ z,z = u.m:=⟨_,rfl⟩
    obtain ⟨nv,hnv⟩:∃ z,z = (scO p u).vars.length:=⟨_,rfl⟩
    rw [← huk,← hun,← hum,← hnv] at HFW
    rw [← huk] at v0
    rw [← hun] at v1
    rw [← hum] at v2
    rw [← hnv] at HSO
    obtain ⟨l,er⟩:=r
    simp only at HFW HCX HLN
    obtain ⟨nl,hnl⟩:∃ q,q = l.length:=⟨_,rfl⟩
    rw [← hnl] at HFW
    have HNL:=Lib.hid hnl
    obtain ⟨s,hs⟩:∃ s,s = scO p u:=⟨_,rfl⟩
    rw [← hs] at HFW HSO
    clear hcu hnu hkid hru hc hbl hu hr huk hun hum hnv hnl hs
    go_upto_region 6 with fail
    obtain ⟨V1,hV1⟩:∃ Z,Z = wr.alloc (.cells #[.int .i64 uk,.int .i64 un,.int .i64 um,.slice A' nu c'] 25):=⟨_,rfl⟩
    obtain ⟨g5,hg5⟩:∃ z,z = wr.heap.size:=⟨_,rfl⟩
    have k5:Blk V1 g5 25 #[.int .i64 uk,.int .i64 un,.int .i64 um,.slice A' nu c']:=by rw [hV1,hg5]; exact Blk.new _ _ _
    have hb5:Below wr.heap.size wr V1:=by rw [hV1]; exact below_new _ _
    rw [← hV1,← hg5]
    have HBV:Hid (Below W1.heap.size W1 V1):=Lib.hid (bt HBR.out hb5)
    have kz:=HK1.out.below HBV.out HK1.out.lt
    have HCE:Hid (∀ W,Below V1.heap.size V1 W→(W.cell? ⟨z,0,none⟩ = some (.int .i64 k)∧W.cell? ⟨z,1,none⟩ = some (.int .i64 n)∧W.cell? ⟨z,2,none⟩ = some (.int .i64 m)∧W.cell? ⟨z,3,none⟩ = some (.slice (some ⟨b,off,none⟩) nk c))∧(W.cell? ⟨g5,0,none⟩ = some (.int .i64 uk)∧W.cell? ⟨g5,1,none⟩ = some (.int .i64 un)∧W.cell? ⟨g5,2,none⟩ = some (.int .i64 um)∧W.cell? ⟨g5,3,none⟩ = some (.slice A' nu c'))):=Lib.hid fun W hb=>by
     have e1:=kz.below hb kz.lt
     have e2:=k5.below hb k5.lt
     exact ⟨⟨e1.cell 0,e1.cell 1,e1.cell 2,e1.cell 3⟩,e2.cell 0,e2.cell 1,e2.cell 2,e2.cell 3⟩
    have hbc:Below V1.heap.size V1 V1.drew:=(Below.refl _ _).drew
    clear hV1 hg5 k5 hb5 kz v0 v1 v2 v3 hib
    go_cut [6,7] from 20 to 26 (fun s6 s7 wv=>∃ (V4:World) (A7:Option Addr) (c7:Nat),V4 = wv∧s6 = .slice A7 nl c7∧s7 = .int .i64 er∧Hid (Below V1.heap.size V1 V4∧Reads V4 V4.heap.size 1 A7 nl (vi l)))
    case first =>
     refine wp_region_noPanic ?_
     go_region_held2 (fun W=>(W.cell? ⟨z,0,none⟩ = some (.int .i64 k)∧W.cell? ⟨z,1,none⟩ = some (.int .i64 n)∧W.cell? ⟨z,2,none⟩ = some (.int .i64 m)∧W.cell? ⟨z,3,none⟩ = some (.slice (some ⟨b,off,none⟩) nk c))∧(W.cell? ⟨g5,0,none⟩ = some (.int .i64 uk)∧W.cell? ⟨g5,1,none⟩ = some (.int .i64 un)∧W.cell? ⟨g5,2,none⟩ = some (.int .i64 um)∧W.cell? ⟨g5,3,none⟩ = some (.slice A' nu c')))
      (exact HCE.out _ hbc)
      (first
      | (go_at_call 63; (with_reducible refine (HSO.out _ (bt HBV.out hbc)).mono ?_); rintro e w11 ⟨A2,c2,rfl,hsc,hb11⟩; replace hbc:=bt hbc hb11; have HSC:=Lib.hid hsc; clear hb11 hsc)
      | (go_at_call 64; (with_reducible refine (HFW.out _ _ _ (bt HBV.out hbc) HSC.out).mono ?_); rintro e w12 ⟨A7,c7,rfl,hown,hb12⟩; replace hbc:=bt hbc hb12; have HO:=Lib.hid hown; clear hb12 hown))
     all_goals
      refine NoPanic.normal ?_
      go_wp2_with fail
      go_meet
      exact ⟨_,_,_,rfl,rfl,rfl,hbc,Reads.of_own HO.out⟩
    case rest =>
    obtain ⟨V4,A7,c7,hV4,rfl,rfl,HB4⟩:=hcut
    subst hV4
    clear hbc HSO HFW HCE
    have HBF:=Lib.hid (bt HBV.out HB4.out.1)
    by_cases he:er = 0
    ·have he2:(er != 0) = false:=by rw [bne_eq_false_iff_eq]; exact he
     have HX:Hid (chk p = chkL p (p.kids.drop (j + 1)) (j + 1)):=Lib.hid (by rw [HCX.out,if_neg (by simpa using he)])
     clear he
     go_wp2_with fail
     go_roundw
     case rel=>exact ⟨j + 1,by omega,by go_num,HBF,HX⟩
     case measure=>simp [intOf]; omega
    ·have he2:(er != 0) = true:=by rw [bne_iff_ne]; exact he
     have HX:Hid (chk p = ((j:Int) :: l,er)):=Lib.hid (by rw [HCX.out,if_pos he])
     clear he
     have hbA:=below_new V4 (.cells #[.int .i64 (j:Int)] 3)
     have hbB:=ba hbA (.cells #[.slice (some ⟨V4.heap.size,0,none⟩) 1 1,.slice A7 nl c7] 22)
     have HCAT:Hid (Calls Tryd.prog 67 #[.slice (some ⟨V4.heap.size + 1,0,none⟩) 2 2] ((V4.alloc (.cells #[.int .i64 (j:Int)] 3)).alloc (.cells #[.slice (some ⟨V4.heap.size,0,none⟩) 1 1,.slice A7 nl c7] 22)) fun e w'=>∃ A c,e = .returned (.slice A (nl + 1) c)∧(Reads w' w'.heap.size 1 A (nl + 1) (vi ((j:Int) :: l))∧nl + 1≤c)∧Below V4.heap.size V4 w'):=Lib.hid (by
      have hra:Reads ((V4.alloc (.cells #[.int .i64 (j:Int)] 3)).alloc (.cells #[.slice (some ⟨V4.heap.size,0,none⟩) 1 1,.slice A7 nl c7] 22)) ((V4.alloc (.cells #[.int .i64 (j:Int)] 3)).alloc (.cells #[.slice (some ⟨V4.heap.size,0,none⟩) 1 1,.slice A7 nl c7] 22)).heap.size 1 (some ⟨V4.heap.size,0,none⟩) 1 (vi [(j:Int)]) :=
       Reads.of_own (ownsRow_below (own_lit (w:=V4) (base:=V4.heap.size) (e:=3) (size:=1) (xs:=vi [(j:Int)]) (n:=1) (Nat.le_refl _) rfl (len_le (by omega))) (below_new _ _))
      have hrb:=(HB4.out.2.below hbB).more hbB.size
      have hlen:nl≤100000000:=by have:=HLN.out; rw [← HNL.out] at this; omega
      have h:=concatI_is [(j:Int)] l (V4.heap.size + 1) (some ⟨V4.heap.size,0,none⟩) A7 1 c7 _ (Blk.new_at _ _ (by rw [size_alloc]) (by rw [← HNL.out]; rfl)) hra (by rw [← HNL.out]; exact hrb) (by simp) (by simp) (by rw [← HNL.out]; exact hlen)
      refine h.mono ?_
      rintro e w9 ⟨A9,c9,rfl,hown,hb9⟩
      have e9:([(j:Int)] ++ l).length = nl + 1:=by rw [List.length_append,← HNL.out]; simp; omega
      rw [e9] at hown ⊢
      exact ⟨A9,c9,rfl,⟨Reads.of_own hown,by obtain ⟨A0,c0,e0,h0⟩:=own_len hown; injection e0 with _ _ e0; omega⟩,bt hbB hb9⟩)
     clear hbA hbB
     go_wp2_with (go_at_call 67; refine HCAT.out.mono ?_; rintro e w9 ⟨A9,c9,rfl,h1,h2⟩; have HR9:=Lib.hid h1; have HB9:=Lib.hid (bt HBF.out h2); clear h1 h2)
     refine bodyPost_ret (v:=.tuple #[.slice A9 (nl + 1) c9,.int .i64 er]) (by simp [results,Tryd.results33,go_sem]) rfl ?_
     unfold ChkPost
     rw [HX.out]
     have e9:((j:Int) :: l).length = nl + 1:=by rw [List.length_cons,← HNL.out]
     simp only [e9]
     exact ⟨A9,c9,rfl,HR9.out,bt HB1.out HB9.out⟩
   ·have HX:Hid (chk p = ([],0)):=Lib.hid (by rw [HCR.out]; exact chkL_end p (by rw [← HNK.out]; omega))
    go_wp2_with fail
    refine bodyPost_ret (v:=.tuple #[.slice none 0 0,.int .i64 0]) (by simp [results,Tryd.results33,go_sem]) rfl ?_
    unfold ChkPost
    rw [HX.out]
    exact ⟨none,0,rfl,⟨reads_nil _ _,Nat.le_refl _⟩,bt HB1.out HBR.out⟩
end Go.Proofs.YtkkenbalpnmfmaaDoor

namespace Go.Proofs.YtkkenbalpnmfmaaDoor
open Go.RowKit WM TR TY

theorem plain_of {t:T} (h:isPlain t = true):(t.k = 0∨t.k = 1)∧t.kids = []:=by
 unfold isPlain at h
 simp only [Bool.and_eq_true,Bool.or_eq_true,beq_iff_eq,List.length_eq_zero_iff] at h
 exact ⟨h.1.1.1,h.2⟩
theorem plain_ok (s:Sc) {t:T} (h:isPlain t = true):okW s t:=by
 obtain ⟨h1,h2⟩:=plain_of h
 refine (ok_iff s t).2 ⟨?_,fun u hu=>by rw [h2] at hu; simp at hu⟩
 rcases h1 with h1 | h1 <;> simp [errOf,missing,misused,wants,fitB,h1]
theorem type_ok (s:Sc) {t:T} (h:isType t = true):okW s t:=by
 unfold isType at h
 by_cases h2:t.k = 2
 ·rw [if_pos (by simpa using h2)] at h
  simp only [Bool.and_eq_true,beq_iff_eq,List.length_eq_zero_iff] at h
  refine (ok_iff s t).2 ⟨by simp [errOf,missing,misused,wants,fitB,h2],fun u hu=>by rw [h.2] at hu; simp at hu⟩
 ·rw [if_neg (by simpa using h2)] at h
  by_cases h3:t.k = 3
  ·rw [if_pos (by simpa using h3)] at h
   simp only [Bool.and_eq_true] at h
   exact (ok_iff s t).2 ⟨by simp [errOf,missing,misused,wants,fitB,h3],fun u hu=>plain_ok s (List.all_eq_true.1 h.2 u hu)⟩
  ·rw [if_neg (by simpa using h3)] at h
   exact plain_ok s h
theorem FI.isFun {f:FI} (h:FIOk f) (hb:isBlock f.blk = true):isFun f.t = true:=by
 have hl:=f.len
 have h1:=h.np
 have h2:=h.lo
 have h3:=h.hi
 refine isFun_true ⟨rfl,?_,?_,fun i u hi hu=>?_,fun u hu=>?_⟩
 ·unfold btw
  rw [hl]
  show (decide (0≤(f.np:Int)) && decide ((f.np:Int)≤3) && decide (0≤(0:Int)) && decide ((0:Int)≤0) && decide ((1:Int)≤((f.tys.length + 1:Nat):Int)) && decide (((f.tys.length + 1:Nat):Int)≤7)) = true
  simp only [Bool.and_eq_true,decide_eq_true_eq]
  omega
 ·rw [hl]; show (f.np:Int)≤_; omega
 ·rw [hl] at hi
  have hu2:f.tys[i]? = some u:=by
   have:(f.tys ++ [f.blk])[i]? = some u:=hu
   rwa [List.getElem?_append_left (by omega)] at this
  have h4:=h.q i u hu2
  exact ⟨h4.1,fun hn=>h4.2 (by have:(i:Int) < (f.np:Int):=hn; omega)⟩
 ·rw [hl] at hu
  have:(f.tys ++ [f.blk])[f.tys.length + 1 - 1]? = some u:=hu
  rw [Nat.add_sub_cancel,List.getElem?_append_right (Nat.le_refl _)] at this
  simp at this
  rw [← this]; exact hb
theorem FI.ok {f:FI} (s:Sc) (h:FIOk f) (hb:okW s f.blk):okW s f.t:=by
 refine (ok_iff s f.t).2 ⟨by simp [errOf,missing,misused,wants,fitB,FI.t],fun u hu=>?_⟩
 have hu2:u ∈ f.tys ++ [f.blk]:=hu
 rcases List.mem_append.1 hu2 with hu | hu
 ·obtain ⟨i,hi⟩:=List.mem_iff_getElem?.1 hu
  exact type_ok s (h.q i u hi).1
 ·simp at hu; rw [hu]; exact hb
theorem FI.size_le {f:FI} (h:FIOk f):size f.t≤80:=by
 rw [size_eq]
 show 1 + ((f.tys ++ [f.blk]).map size).sum≤80
 rw [List.map_append,List.sum_append]
 have h1:=h.ts
 have h2:=h.sz
 simp only [List.map_cons,List.map_nil,List.sum_cons,List.sum_nil]
 omega
theorem fi_sizes:∀ fs:List FI,(∀ f ∈ fs,FIOk f)→((fs.map FI.t).map size).sum≤fs.length * 80
 | [],_=>by simp
 | f :: fs,h=>by
  have h1:=FI.size_le (h f (List.mem_cons_self ..))
  have h2:=fi_sizes fs fun g hg=>h g (List.mem_cons_of_mem _ hg)
  simp only [List.map_cons,List.sum_cons,List.length_cons]
  omega
theorem chkL_ok (p:T):∀ (l:List T) (i:Nat),(∀ u ∈ l,okW (scO p u) u)→chkL p l i = ([],0)
 | [],_,_=>rfl
 | u :: l,i,h=>by
  have h1:(firstW (scO p u) u).2 = 0:=h u (List.mem_cons_self ..)
  rw [chkL,if_neg (by simpa using h1)]
  exact chkL_ok p l (i + 1) fun v hv=>h v (List.mem_cons_of_mem _ hv)
structure Fine (p:T):Prop where
 prog:isProg p = true
 chk:chk p = ([],0)
 size:size p≤241
 lo:1≤p.kids.length
 hi:p.kids.length≤3
 m0:p.m = 0
 np:∀ u ∈ p.kids,u.n≤2
theorem Fine.k {p:T} (h:Fine p):p.k = 27:=by
 have:=h.prog; unfold isProg at this
 have h2:IsProg p:=by simpa using this
 exact h2.1
theorem fine_of {N:Int} {fs:List FI} (hN:0≤N∧N≤2) (hl:1≤fs.length∧fs.length≤3) (h:∀ f ∈ fs,FIOk f∧GB (scO (pOf N fs) f.t) f.blk) (hd:depth (pOf N fs)≤16):Fine (pOf N fs):=by
 have hlen:(pOf N fs).kids.length = fs.length:=by show (fs.map FI.t).length = _; rw [List.length_map]
 have hs:=fi_sizes fs fun f hf=>(h f hf).1
 have hsz:size (pOf N fs)≤241:=by
  rw [size_eq]
  show 1 + ((fs.map FI.t).map TR.size).sum≤241
  omega
 have hmem:∀ u ∈ (pOf N fs).kids,∃ f ∈ fs,f.t = u:=fun u hu=>by
  have:u ∈ fs.map FI.t:=hu
  simpa using this
 have hp:isProg (pOf N fs) = true:=by
  refine isProg_true ⟨rfl,?_,by omega,hd,fun i u hu=>?_⟩
  ·unfold btw
   rw [hlen]
   show (decide (0≤N) && decide (N≤3) && decide (0≤(0:Int)) && decide ((0:Int)≤0) && decide ((1:Int)≤(fs.length:Int)) && decide ((fs.length:Int)≤6)) = true
   simp only [Bool.and_eq_true,decide_eq_true_eq]
   omega
  ·obtain ⟨f,hf,rfl⟩:=hmem u (List.mem_of_getElem? hu)
   exact FI.isFun (h f hf).1 (h f hf).2.bl
 refine ⟨hp,?_,hsz,by omega,by omega,rfl,fun u hu=>by
  obtain ⟨f,hf,rfl⟩:=hmem u hu
  exact Int.ofNat_le.2 (h f hf).1.np⟩
 unfold chk
 rw [if_pos hp]
 exact chkL_ok _ _ _ fun u hu=>by
  obtain ⟨f,hf,rfl⟩:=hmem u hu
  exact FI.ok _ (h f hf).1 (h f hf).2.ok
def FinePost (con:Bool) (w:World) (e:Ending) (w':World):Prop :=
 ∃ (p:T) (A':Option Addr) (c':Nat),e = .returned (.agg #[.int .i64 p.k,.int .i64 p.n,.int .i64 p.m,.slice A' p.kids.length c'])∧Fine p∧(con = true→1≤p.n)∧Rep w' (fun b=>w.heap.size≤b∧b < w'.heap.size) 14 p (nd p A' c')∧Below w.heap.size w w'
theorem MadePost.fine {con:Bool} {w w':World} {e:Ending} (h:MadePost con w e w'):FinePost con w e w':=by
 obtain ⟨N,fs,A',c',he,h0,h2,hc,h1,h3,hf,hr,hb⟩:=h
 refine ⟨pOf N fs,A',c',?_,fine_of ⟨h0,h2⟩ ⟨h1,h3⟩ hf (Nat.le_trans hr.depth_le (by omega)),hc,hr,hb⟩
 rw [he]
 show _ = Ending.returned (.agg #[.int .i64 27,.int .i64 N,.int .i64 0,.slice A' (fs.map FI.t).length c'])
 rw [List.length_map]
end Go.Proofs.YtkkenbalpnmfmaaDoor

namespace Go.Proofs.YtkkenbalpnmfmaaDoor
open Go.RowKit WM TR TY

def MadeC : Prop := ∀ (L : List Int) (S : Nat → Prop) (A : Option Addr) (c : Nat) (con : Bool) (w : World), Rd w S 1 A L.length (vi L) → In S w.heap.size → (∀ x ∈ L, inRange x) → L.length ≤ 9223372036854775807 →
  Calls Tryd.prog 68 #[.slice A L.length c,.bool con] w (MadePost con w)

theorem FinePost.put {con : Bool} {w W V : World} {p : T} {A' : Option Addr} {c' r : Nat} (hr : r = w.heap.size) (hb : Below w.heap.size w W) (hW : W.heap.size = r + 1) (hf : Fine p) (hc : con = true → 1 ≤ p.n)
  (hp:Rep V (fun b=>W.heap.size≤b∧b < V.heap.size) 14 p (nd p A' c')) (hv:Below W.heap.size W V) (v0 v1 v2 v3:Value) :
  FinePost con w (.returned (.agg #[.int .i64 p.k,.int .i64 p.n,.int .i64 p.m,.slice A' p.kids.length c'])) ((((V.setCell ⟨r,0,none⟩ v0).setCell ⟨r,1,none⟩ v1).setCell ⟨r,2,none⟩ v2).setCell ⟨r,3,none⟩ v3):=by
 refine ⟨p,A',c',rfl,hf,hc,(put4_rep hp (r:=r) (fun h=>by have:=h.1; omega) _ _ _ _).mono fun b hb=>?_,put4_below (hb.trans (hv.mono hb.size)) _ _ _ _ (by omega)⟩
 rw [(gw4 _ _ _ _ _ _).2]
 exact ⟨by have:=hb.1; omega,hb.2⟩

set_option maxRecDepth 100000 in
set_option maxHeartbeats 4000000 in
theorem procs_is (HM : MadeC) (L : List Int) (S : Nat → Prop) (A : Option Addr) (c : Nat) (w : World) (hL : Rd w S 1 A L.length (vi L)) (hin : In S w.heap.size) (hr : ∀ x ∈ L, inRange x) (hl : L.length ≤ 9223372036854775807) :
  Calls Tryd.prog 37 #[.slice A L.length c] w (FinePost true w):=by
 obtain ⟨r,hrr⟩:∃ r,r = w.heap.size:=⟨_,rfl⟩
 obtain ⟨W1,hW1⟩:∃ W1,W1 = w.alloc (.cells #[.int .i64 0,.int .i64 0,.int .i64 0,.slice none 0 0] 25):=⟨_,rfl⟩
 have HB1:Hid (Below w.heap.size w W1):=Lib.hid (by rw [hW1]; exact below_new _ _)
 have HZ1:Hid (Blk W1 r 25 #[.int .i64 0,.int .i64 0,.int .i64 0,.slice none 0 0]):=Lib.hid (by rw [hW1,hrr]; exact Blk.new _ _ _)
 have HS1:Hid (W1.heap.size = r + 1):=Lib.hid (by rw [hW1,hrr,size_alloc])
 have HC1:Hid (Calls Tryd.prog 68 #[.slice A L.length c,.bool true] W1 (MadePost true W1)):=Lib.hid (HM L S A c true W1 (hL.keep (Keeps.below hin HB1.out)) (hin.more HB1.out.size) hr hl)
 have HR:=Lib.hid hrr
 have HW1:=Lib.hid hW1
 clear hL hin hr hl hrr hW1 HM
 go_enter Tryd.func37,Tryd.ntmps37
 go_wp2_with (go_at_call 68; rw [← HW1.out]; refine HC1.out.mono ?_; rintro e V h; obtain ⟨p,A',c',rfl,hf,hc,hp,hv⟩:=h.fine; have HF:=Lib.hid hf; have HC:=Lib.hid hc; have HP:=Lib.hid hp; have HV:=Lib.hid hv; have HZ:=Lib.hid (HZ1.out.below hv (by have:=HS1.out; omega)); rw [← HR.out]; have r0:=HZ.out.cell 0; have r1:=HZ.out.cell 1; have r2:=HZ.out.cell 2; have r3:=HZ.out.cell 3; have f0:=HZ.out.frozen 0; have f1:=HZ.out.frozen 1; have f2:=HZ.out.frozen 2; have f3:=HZ.out.frozen 3; simp only [List.getElem?_toArray,List.getElem?_cons_zero,List.getElem?_cons_succ] at r0 r1 r2 r3; clear hf hc hp hv h)
 refine bodyPost_ret (v:=.agg #[.int .i64 p.k,.int .i64 p.n,.int .i64 p.m,.slice A' p.kids.length c']) (by simp [results,Tryd.results37,go_sem,r0,r1,r2,r3]) rfl ?_
 exact FinePost.put (con:=true) HR.out HB1.out HS1.out HF.out (fun _=>HC.out trivial) HP.out HV.out _ _ _ _

set_option maxRecDepth 100000 in
set_option maxHeartbeats 4000000 in
theorem prog_is (HM : MadeC) (L : List Int) (S : Nat → Prop) (A : Option Addr) (c : Nat) (w : World) (hL : Rd w S 1 A L.length (vi L)) (hin : In S w.heap.size) (hr : ∀ x ∈ L, inRange x) (hl : L.length ≤ 9223372036854775807) :
  Calls Tryd.prog 38 #[.slice A L.length c] w (FinePost false w):=by
 obtain ⟨r,hrr⟩:∃ r,r = w.heap.size:=⟨_,rfl⟩
 obtain ⟨W1,hW1⟩:∃ W1,W1 = w.alloc (.cells #[.int .i64 0,.int .i64 0,.int .i64 0,.slice none 0 0] 25):=⟨_,rfl⟩
 have hb1:Below w.heap.size w W1:=by rw [hW1]; exact below_new _ _
 have HB1:=Lib.hid hb1
 have HZ1:Hid (Blk W1 r 25 #[.int .i64 0,.int .i64 0,.int .i64 0,.slice none 0 0]):=Lib.hid (by rw [hW1,hrr]; exact Blk.new _ _ _)
 have HS1:Hid (W1.heap.size = r + 1):=Lib.hid (by rw [hW1,hrr,size_alloc])
 have hL1:Rd W1 S 1 A L.length (vi L):=hL.keep (Keeps.below hin hb1)
 obtain ⟨cn,hcn⟩:∃ b:Bool,b = (numAt L 0 9 == 8):=⟨_,rfl⟩
 have HC1:Hid (Calls Tryd.prog 68 #[.slice A L.length c,.bool cn] W1 (MadePost cn W1)):=Lib.hid (HM L S A c cn W1 hL1 (hin.more hb1.size) hr hl)
 have HA1:Hid (Calls Tryd.prog 22 #[.slice A L.length c,.int .i64 ((0:Nat):Int),.int .i64 9] W1 fun e w'=>e = .returned (.int .i64 (numAt L 0 9))∧W1 = w'):=Lib.hid (at_is L S A c 0 9 W1 hL1 hr (by omega) hl (by omega))
 have HR:=Lib.hid hrr
 have HW1:=Lib.hid hW1
 have HCN:=Lib.hid hcn
 clear hL hin hr hl hrr hW1 HM hb1 hL1 hcn
 go_enter Tryd.func38,Tryd.ntmps38
 go_wp2_with (first
  | (go_at_call 22; rw [← HW1.out]; refine HA1.out.mono ?_; rintro e V ⟨rfl,rfl⟩)
  | (go_at_call 68; rw [← HCN.out]; refine HC1.out.mono ?_; rintro e V h; obtain ⟨p,A',c',rfl,hf,hc,hp,hv⟩:=h.fine; have HF:=Lib.hid hf; have HP:=Lib.hid hp; have HV:=Lib.hid hv; have HZ:=Lib.hid (HZ1.out.below hv (by have:=HS1.out; omega)); rw [← HR.out]; have r0:=HZ.out.cell 0; have r1:=HZ.out.cell 1; have r2:=HZ.out.cell 2; have r3:=HZ.out.cell 3; have f0:=HZ.out.frozen 0; have f1:=HZ.out.frozen 1; have f2:=HZ.out.frozen 2; have f3:=HZ.out.frozen 3; simp only [List.getElem?_toArray,List.getElem?_cons_zero,List.getElem?_cons_succ] at r0 r1 r2 r3; clear hf hc hp hv h))
 refine bodyPost_ret (v:=.agg #[.int .i64 p.k,.int .i64 p.n,.int .i64 p.m,.slice A' p.kids.length c']) (by simp [results,Tryd.results38,go_sem,r0,r1,r2,r3]) rfl ?_
 exact FinePost.put HR.out HB1.out HS1.out HF.out (fun h=>by simp at h) HP.out HV.out _ _ _ _

set_option maxRecDepth 100000 in
set_option maxHeartbeats 4000000 in
theorem lawProg_is (HM : MadeC) (L : List Int) (S : Nat → Prop) (A : Option Addr) (c : Nat) (z : Int) (w : World) (hL : Rd w S 1 A L.length (vi L)) (hin : In S w.heap.size) (hr : ∀ x ∈ L, inRange x) (hl : L.length ≤ 9223372036854775807) :
  Calls Tryd.prog 10 #[.slice A L.length c,.int .i64 z] w (FinePost false w):=by
 obtain ⟨r,hrr⟩:∃ r,r = w.heap.size:=⟨_,rfl⟩
 obtain ⟨W1,hW1⟩:∃ W1,W1 = w.alloc (.cells #[.int .i64 0,.int .i64 0,.int .i64 0,.slice none 0 0] 25):=⟨_,rfl⟩
 have hb1:Below w.heap.size w W1:=by rw [hW1]; exact below_new _ _
 have HB1:=Lib.hid hb1
 have HZ1:Hid (Blk W1 r 25 #[.int .i64 0,.int .i64 0,.int .i64 0,.slice none 0 0]):=Lib.hid (by rw [hW1,hrr]; exact Blk.new _ _ _)
 have HS1:Hid (W1.heap.size = r + 1):=Lib.hid (by rw [hW1,hrr,size_alloc])
 have hL1:Rd W1 S 1 A L.length (vi L):=hL.keep (Keeps.below hin hb1)
 have HCP:Hid (Calls Tryd.prog 37 #[.slice A L.length c] W1 (FinePost true W1)):=Lib.hid (procs_is HM L S A c W1 hL1 (hin.more hb1.size) hr hl)
 have HCQ:Hid (Calls Tryd.prog 38 #[.slice A L.length c] W1 (FinePost false W1)):=Lib.hid (prog_is HM L S A c W1 hL1 (hin.more hb1.size) hr hl)
 have HR:=Lib.hid hrr
 have HW1:=Lib.hid hW1
 clear hL hin hr hl hrr hW1 HM hb1 hL1
 go_enter Tryd.func10,Tryd.ntmps10
 by_cases h:z.tmod 3 = 0
 ·have hq0:(z.tmod 3 == 0) = true:=by simpa using h
  go_wp2_with (go_at_call 37; rw [← HW1.out]; refine HCP.out.mono ?_; rintro e V ⟨p,A',c',rfl,hf,hc,hp,hv⟩; have HF:=Lib.hid hf; have HP:=Lib.hid hp; have HV:=Lib.hid hv; have HZ:=Lib.hid (HZ1.out.below hv (by have:=HS1.out; omega)); rw [← HR.out]; have r0:=HZ.out.cell 0; have r1:=HZ.out.cell 1; have r2:=HZ.out.cell 2; have r3:=HZ.out.cell 3; have f0:=HZ.out.frozen 0; have f1:=HZ.out.frozen 1; have f2:=HZ.out.frozen 2; have f3:=HZ.out.frozen 3; simp only [List.getElem?_toArray,List.getElem?_cons_zero,List.getElem?_cons_succ] at r0 r1 r2 r3; clear hf hc hp hv)
  refine bodyPost_ret (v:=.agg #[.int .i64 p.k,.int .i64 p.n,.int .i64 p.m,.slice A' p.kids.length c']) (by simp [results,Tryd.results10,go_sem,r0,r1,r2,r3]) rfl ?_
  exact FinePost.put HR.out HB1.out HS1.out HF.out (fun h=>by simp at h) HP.out HV.out _ _ _ _
 ·have hq0:(z.tmod 3 == 0) = false:=by simpa using h
  go_wp2_with (go_at_call 38; rw [← HW1.out]; refine HCQ.out.mono ?_; rintro e V ⟨p,A',c',rfl,hf,hc,hp,hv⟩; have HF:=Lib.hid hf; have HP:=Lib.hid hp; have HV:=Lib.hid hv; have HZ:=Lib.hid (HZ1.out.below hv (by have:=HS1.out; omega)); rw [← HR.out]; have r0:=HZ.out.cell 0; have r1:=HZ.out.cell 1; have r2:=HZ.out.cell 2; have r3:=HZ.out.cell 3; have f0:=HZ.out.frozen 0; have f1:=HZ.out.frozen 1; have f2:=HZ.out.frozen 2; have f3:=HZ.out.frozen 3; simp only [List.getElem?_toArray,List.getElem?_cons_zero,List.getElem?_cons_succ] at r0 r1 r2 r3; clear hf hc hp hv)
  refine bodyPost_ret (v:=.agg #[.int .i64 p.k,.int .i64 p.n,.int .i64 p.m,.slice A' p.kids.length c']) (by simp [results,Tryd.results10,go_sem,r0,r1,r2,r3]) rfl ?_
  exact FinePost.put HR.out HB1.out HS1.out HF.out (fun h=>by simp at h) HP.out HV.out _ _ _ _
end Go.Proofs.YtkkenbalpnmfmaaDoor

namespace Go.Proofs.YtkkenbalpnmfmaaDoor
open Go.RowKit WM TR TY
theorem madeC:MadeC:=fun L S A c con w hL hin hr hl=>made_is L S A c con w hL hin hr hl
end Go.Proofs.YtkkenbalpnmfmaaDoor

namespace Go.Proofs.YtkkenbalpnmfmaaDoor.TY
open TR





end Go.Proofs.YtkkenbalpnmfmaaDoor.TY
namespace Go.Proofs.YtkkenbalpnmfmaaDoor
open Go.RowKit WM TR TY


end Go.Proofs.YtkkenbalpnmfmaaDoor

namespace Go.Proofs.YtkkenbalpnmfmaaDoor.TY
open TR

def rowsF:List T→Nat→List (List Int)
 | [],_=>[]
 | u :: l,i=>((paths u).map fun p=>(i:Int) :: p) ++ rowsF l (i + 1)
theorem rowsF_idx:∀ (l:List T) (i:Nat),(l.mapIdx fun j u=>(paths u).map fun p=>((i + j:Nat):Int) :: p).flatten = rowsF l i
 | [],_=>rfl
 | u :: l,i=>by
  rw [List.mapIdx_cons,List.flatten_cons,rowsF,← rowsF_idx l (i + 1)]
  congr 2
  simp only [Nat.add_comm,Nat.add_left_comm]
theorem paths_F (t:T):paths t = [] :: rowsF t.kids 0:=by
 rw [paths_eq,← rowsF_idx t.kids 0]
 simp only [Nat.zero_add]
theorem at_kid {t u:T} {j:Nat} (b:List Int) (h:t.kids[j]? = some u):at? ((j:Int) :: b) t = at? b u:=by
 rw [at?,if_neg (by omega),Int.toNat_natCast,h]
def First (E:T→Int) (x:T) (r:List Int × Int):Prop :=
 (r = ([],0)∧∀ p ∈ paths x,∀ v,at? p x = some v→E v = 0) ∨
  (r.2≠0∧∃ l1 l2 v,paths x = l1 ++ r.1 :: l2∧(∀ p ∈ l1,∀ v,at? p x = some v→E v = 0)∧at? r.1 x = some v∧E v = r.2)





theorem okW_node {s:Sc}:∀ (p:List Int) (x v:T),okW s x→at? p x = some v→errOf s v = 0
 | [],x,v,h,hv=>by rw [at?] at hv; rw [← Option.some.inj hv]; exact ((ok_iff s x).1 h).1
 | i :: p,x,v,h,hv=>by
  rw [at?] at hv
  split at hv
  ·cases hv
  ·split at hv
   ·cases hv
   ·rename_i u hu
    exact okW_node p u v (((ok_iff s x).1 h).2 u (List.mem_of_getElem? hu)) hv
end Go.Proofs.YtkkenbalpnmfmaaDoor.TY

namespace Go.Proofs.YtkkenbalpnmfmaaDoor.TY
open TR

theorem typeOf_vars {s s':Sc} (h:s'.vars = s.vars) (x:T):typeOf s' x = typeOf s x:=by
 unfold typeOf
 by_cases h6:x.k = 6∨x.k = 8
 ·have hm : missing s' x = missing s x := by
   rcases h6 with h6 | h6 <;> simp [missing,h6,h]
  have hu:misused s' x = misused s x:=by
   rcases h6 with h6 | h6 <;> simp [misused,h6,h]
  have hn:named s' x = named s x:=by simp [named,h]
  rw [hm,hu,hn]
 ·simp [h6]




end Go.Proofs.YtkkenbalpnmfmaaDoor.TY
namespace Go.Proofs.YtkkenbalpnmfmaaDoor
open TR TY








end Go.Proofs.YtkkenbalpnmfmaaDoor

namespace Go.Proofs.YtkkenbalpnmfmaaDoor
open Go.RowKit WM TR TY

def isEx (k:Int):Bool:=decide (4≤k) && decide (k≤12)
set_option maxRecDepth 100000 in
set_option maxHeartbeats 2000000 in
theorem rexpr_is (t : T) (A : Option Addr) (l c : Nat) (w : World) :
  Calls Tryd.prog 28 #[.agg #[.int .i64 t.k,.int .i64 t.n,.int .i64 t.m,.slice A l c]] w fun e w'=>e = .returned (.bool (isEx t.k))∧Below w.heap.size w w':=by
 obtain ⟨r,hr⟩:∃ r,isEx t.k = r:=⟨_,rfl⟩
 rw [hr]
 unfold isEx at hr
 by_cases h4:4≤t.k
 ·by_cases h12:t.k≤12
  ·have HR:Hid (true = r):=Lib.hid (by rw [← hr]; simp [h4,h12])
   clear hr
   go_enter Tryd.func28,Tryd.ntmps28
   go_wp2_with fail
   go_ret
   exact ⟨ret_b HR.out,below_new _ _⟩
  ·have HR:Hid (false = r):=Lib.hid (by rw [← hr]; simp [h12])
   clear hr
   go_enter Tryd.func28,Tryd.ntmps28
   go_wp2_with fail
   go_ret
   exact ⟨ret_b HR.out,below_new _ _⟩
 ·have HR:Hid (false = r):=Lib.hid (by rw [← hr]; simp [h4])
  clear hr
  go_enter Tryd.func28,Tryd.ntmps28
  go_wp2_with fail
  go_ret
  exact ⟨ret_b HR.out,below_new _ _⟩
end Go.Proofs.YtkkenbalpnmfmaaDoor
