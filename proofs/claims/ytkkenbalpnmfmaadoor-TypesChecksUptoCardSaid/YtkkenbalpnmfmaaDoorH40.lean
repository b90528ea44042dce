/- Texts joined. -/
import Derived.Test.YtkkenbalpnmfmaaDoorH34
import Derived.Test.YtkkenbalpnmfmaaDoorH05
import Derived.Test.YtkkenbalpnmfmaaDoorH33
import Derived.Test.YtkkenbalpnmfmaaDoorH39
import Derived.Test.YtkkenbalpnmfmaaDoorH36
import Derived.Test.YtkkenbalpnmfmaaDoorH11
import Derived.Deep.RegionHeld3
set_option linter.unusedVariables false
namespace Go.Proofs.YtkkenbalpnmfmaaDoor
open Go.RowKit WM TR

set_option maxRecDepth 100000 in
set_option maxHeartbeats 4000000 in
theorem paths_is : ∀ (d : Nat) (t : T) (S : Nat → Prop) (A : Option Addr) (c : Nat) (w : World), Rep w S d t (nd t A c) → In S w.heap.size → size t ≤ 1000000 →
  Calls Tryd.prog 39 #[.agg #[.int .i64 t.k,.int .i64 t.n,.int .i64 t.m,.slice A t.kids.length c]] w (PathsPost t w)
 | 0,_,_,_,_,_,h,_,_=>h.elim
 | d + 1,t,S,A,c,w,ht,hin,hst=>by
  have ih:=paths_is d
  obtain ⟨l,hl⟩:∃ l,l = t.kids.length:=⟨_,rfl⟩
  have hkl:t.kids.length≤1000000:=by have:=kids_lt t; omega
  obtain ⟨i0,hi,hz0,hz1,hz2⟩:=info_parts ps_int_info
  obtain ⟨i1,gi,gz0,gz1,gz2⟩:=info_parts ps_ints_info
  rw [← hl] at hkl ⊢
  have HT:=Lib.hid ht
  have HI:=Lib.hid hin
  have HL:=Lib.hid hl
  have HST:=Lib.hid hst
  have HIH:=Lib.hid ih
  clear ht hin hl ih
  go_enter Tryd.func39,Tryd.ntmps39
  go_wp2_with fail
  obtain ⟨W1,hW1⟩:∃ W1,W1 = w.alloc (.cells #[.int .i64 t.k,.int .i64 t.n,.int .i64 t.m,.slice A l c] 25):=⟨_,rfl⟩
  have hz1':W1.heap.size = w.heap.size + 1:=by rw [hW1]; exact size_alloc _ _
  have HB1:Hid (Below w.heap.size w W1):=Lib.hid (by rw [hW1]; exact below_new _ _)
  have HC1:Hid (Blk W1 w.heap.size 25 #[.int .i64 t.k,.int .i64 t.n,.int .i64 t.m,.slice A l c]):=Lib.hid (by rw [hW1]; exact Blk.new w _ _)
  rw [← hW1,← hz1']
  clear hW1
  have HZ1:=Lib.hid hz1'
  clear hz1'
  go_loopw [3,4] (fun s i wr=>∃ (j:Nat) (v:Value) (xs:List Value),j≤l∧v = s∧i = .int .i64 j∧Hid (PSt W1 wr v ([] :: rows t.kids j) xs)) (fun _ i _=>l - (intOf i).toNat)
  case atStart=>exact ⟨0,_,_,Nat.zero_le _,rfl,rfl,PSt.first W1⟩
  case round =>
   obtain ⟨j,v,xs,hj,rfl,rfl,HP⟩:=hrel
   have hBW:Below w.heap.size w wr:=bt HB1.out HP.out.below
   have hc3:wr.cell? ⟨w.heap.size,3,none⟩ = some (.slice A l c):=(HC1.out.below HP.out.below HC1.out.lt).cell 3
   by_cases hlt:j < l
   ·obtain ⟨u,hu⟩:∃ u,t.kids[j]? = some u:=⟨_,List.getElem?_eq_getElem (by rw [← HL.out]; omega)⟩
    have hrr:=HT.out.later HI.out hBW
    obtain ⟨b2,o2,A2,c2,hA2,hb2,hcells,hru⟩:=hrr.kid hu
    subst hA2
    have hsu:=size_kid hu
    obtain ⟨z,hz⟩:∃ z,z = size u:=⟨_,rfl⟩
    have hz3:z≤1000000:=by omega
    have HZ:=Lib.hid hz.symm
    have HNX:=Lib.hid (rows_next hu)
    have HR:=Lib.hid hru
    have HCL:=Lib.hid hcells
    have HIW:Hid (In S wr.heap.size):=Lib.hid (HI.out.more hBW.size)
    have hij:(0:Int)≤j∧(j:Int) < l:=⟨by omega,by omega⟩
    have HRN:Hid ((rows t.kids j).length≤1000000):=Lib.hid (by
     have h1:=rows_length (l:=t.kids) (fun u _=>paths_length u) j (by rw [← HL.out]; omega)
     have h2:=sizes_le t.kids j
     have h3:=size_eq t
     omega)
    have HUL:Hid ((paths u).length = z):=Lib.hid (by rw [paths_length,hz])
    have HUP:Hid (∀ p ∈ paths u,p.length≤1000000):=Lib.hid (fun p hp=>by have:=path_le u p hp; omega)
    have HBW:=Lib.hid hBW
    clear hrr hcells hru hu hsu hz hb2 hBW
    go_wp2_with (first
     | (refine wpList_load_mid rfl 25 (.tmp 18) rfl b2 (o2 + j * 4) rfl [.int .i64 u.k,.int .i64 u.n,.int .i64 u.m,.slice A2 u.kids.length c2] _ HCL.out Tryd.underlying25 rfl (by rw [size_node]; rfl) ?_)
     | (go_at_call 39; refine (HIH.out u S A2 c2 _ HR.out HIW.out (by rw [HZ.out]; exact hz3)).mono ?_; rintro e w5 ⟨A5,c5,rfl,hcap5,hps5,hbw5⟩; rw [HZ.out] at hcap5 ⊢; have HPS:=Lib.hid hps5; have HP5:=Lib.hid (HP.out.later hbw5); have HBW5:=Lib.hid hbw5; have HV5:=Lib.hid HP.out.own.lt; clear hps5 hbw5))
    obtain ⟨B1,hB1⟩:∃ B1,B1 = wr.heap.size:=⟨_,rfl⟩
    obtain ⟨B2,hB2⟩:∃ B2,B2 = w5.heap.size:=⟨_,rfl⟩
    have HPS2:Hid (Ps w5 (fun b=>B1≤b∧b < B2) A5 (paths u)):=by rw [hB1,hB2]; exact HPS
    have HV2:Hid (B2≤w5.heap.size∧∀ b,B1≤b→b < B2→v.ownBlock≠some b):=Lib.hid ⟨by omega,fun b h1 _ e=>by have:=(HV5.out b e).2; omega⟩
    clear hB1 hB2 HPS HV5
    go_loopw [3,6] (fun s i wq=>∃ (k:Nat) (v:Value) (ys:List Value),k≤z∧v = s∧i = .int .i64 k∧Hid (PSt W1 wq v (([] :: rows t.kids j) ++ ((paths u).take k).map (fun p=>(j:Int) :: p)) ys)∧Hid (Keeps (fun b=>B1≤b∧b < B2) w5 wq)∧Hid (B2≤wq.heap.size∧∀ b,B1≤b→b < B2→v.ownBlock≠some b)) (fun _ i _=>z - (intOf i).toNat)
    case atStart=>exact ⟨0,_,xs,Nat.zero_le _,rfl,rfl,by simpa using HP5,Keeps.refl _ _,HV2⟩
    case round =>
     obtain ⟨k,v2,ys,hk,rfl,rfl,HQ,HK,HS⟩:=hrel
     by_cases hlt2:k < z
     ·obtain ⟨p,hp⟩:∃ p,(paths u)[k]? = some p:=⟨_,List.getElem?_eq_getElem (by rw [HUL.out]; exact hlt2)⟩
      have hpl:p.length≤1000000:=HUP.out p (List.mem_of_getElem? hp)
      obtain ⟨b5,o5,A6,c6,hA5,hs5,hc5,_,hr6⟩:=(HPS2.out.keep HK.out).at_ hp
      subst hA5
      have hb5:b5 < wr.heap.size:=Nat.lt_of_lt_of_le hs5.2 HS.out.1
      have hcx:(wr.alloc (.cells #[.int .i64 (j:Int)] 3)).cell? ⟨b5,o5 + k,none⟩ = some (Value.slice A6 p.length c6):=((below_new wr _).cell (p:=⟨b5,o5 + k,none⟩) hb5).trans hc5
      have HIN:Hid (In (fun b=>B1≤b∧b < B2) wr.heap.size):=Lib.hid (fun b hb=>Nat.lt_of_lt_of_le hb.2 HS.out.1)
      have HRD:Hid (Reads (wr.alloc (.cells #[.int .i64 (j:Int)] 3)) (wr.heap.size + 1) 1 A6 p.length (vi p)):=Lib.hid ((hr6.keep (Keeps.below HIN.out (below_new wr _))).reads (HIN.out.more (Nat.le_succ _)))
      obtain ⟨ps,hps⟩:∃ ps,ps = ([] :: rows t.kids j) ++ ((paths u).take k).map (fun p=>(j:Int) :: p):=⟨_,rfl⟩
      have hpsl:ps.length≤2000001:=by
       have h1:=HRN.out
       rw [hps,List.length_append,List.length_cons,List.length_map,List.length_take]
       omega
      have HPE:Hid (([] :: rows t.kids j) ++ ((paths u).take (k + 1)).map (fun p=>(j:Int) :: p) = ps ++ [(j:Int) :: p]):=Lib.hid (by rw [List.take_add_one,hp,hps]; simp)
      have HQ2:Hid (PSt W1 wr v2 ps ys):=by rw [hps]; exact HQ
      have hi1:(0:Int)≤k∧(k:Int) < z:=⟨by omega,by omega⟩
      have hW1:W1.heap.size≤wr.heap.size:=HQ2.out.below.size
      clear HQ hps hp hs5 hc5 hr6
      go_wp2_with (at_builtin; first
       | (refine wpList_append_any _ rfl (.tmp 29) (.tmp 33) 22 rfl wr.heap.size 3 i0 _ 1 8 Tryd.underlying22 hi hz0 hz1 hz2 rfl (by omega) _ _ _ rfl (own_one wr j) _ A6 p.length c6 (vi p) rfl HRD.out (vi_one p) (len_le (by omega)) (by omega) (by simp) ?_; intro v7 w7 hown7 hgrow7 _; obtain ⟨A7,c7,hv7,hcap7⟩:=own_len hown7; subst hv7; have HO7:=Lib.hid hown7; have HB7:Hid (Below wr.heap.size wr w7):=Lib.hid (below_grown hgrow7 (fun b hb=>Nat.le_of_eq (Option.some.inj hb))); have HOW7:Hid ((w7.alloc (.cells #[.slice A7 (1 + p.length) c7] 22)).ownsRow W1.heap.size 22 1 v2 ps.length ys):=Lib.hid (ownsRow_below (ownsRow_below HQ2.out.own HB7.out) (below_new _ _)); clear hown7 hgrow7)
       | (go_loud (refine wpList_append_any _ rfl (.tmp 27) (.tmp 35) 41 rfl W1.heap.size 22 i1 _ 1 24 Tryd.underlying41 gi gz0 gz1 gz2 rfl (by omega) _ _ _ rfl HOW7.out _ (some ⟨w7.heap.size,0,none⟩) 1 1 [.slice A7 (1 + p.length) c7] rfl (ps_reads w7 _) (by simp [Value.oneCell']) (len_le (by omega)) (by omega) (by have:=HB7.out.size; simp; omega) ?_); intro v8 w8 hown8 hgrow8 hnew8; have HO8:=Lib.hid hown8; have HG8:=Lib.hid hgrow8; have HN8:=Lib.hid hnew8; clear hown8 hgrow8 hnew8))
      go_roundw
      case rel =>
       have h7:w7.ownsRow wr.heap.size 3 1 (.slice A7 (1 + p.length) c7) ((j:Int) :: p).length (vi ((j:Int) :: p)):=by
        rw [List.length_cons,Nat.add_comm p.length 1]
        exact HO7.out
       have hs7:=HB7.out.size
       have hs2:=HS.out
       have hs8:=HG8.out.size
       have hsa:=size_alloc w7 (.cells #[.slice A7 (1 + p.length) c7] 22)
       refine ⟨k + 1,v8,ys ++ [.slice A7 (1 + p.length) c7],by omega,rfl,by go_num,?_,?_,?_,?_⟩
       ·rw [HPE.out]
        exact HQ2.out.next h7 HB7.out HO8.out HG8.out HN8.out
       ·refine (((HK.out.trans (Keeps.below HIN.out HB7.out)).trans (Keeps.below (HIN.out.more hs7) (below_new _ _))).grown (HIN.out.more (by omega)) HG8.out ?_)
        intro b hb hS
        exact hs2.2 b hS.1 hS.2 hb
       ·omega
       ·intro b h1 h2 e
        rcases HN8.out with hn | hn
        ·exact hs2.2 b h1 h2 (hn ▸ e)
        ·rw [hn] at e; have:=Option.some.inj e; omega
      case measure=>simp [intOf]; omega
     ·have hkz:k = z:=by omega
      have HQ2:Hid (PSt W1 wr v2 ([] :: rows t.kids (j + 1)) ys):=by
       have h:=HQ.out
       rw [List.take_of_length_le (Nat.le_of_eq (HUL.out.trans hkz.symm)),List.cons_append,← HNX.out] at h
       exact h
      clear HQ hkz
      go_wp2_with fail
      go_roundw
      case rel=>exact ⟨j + 1,_,ys,by omega,rfl,by go_num,HQ2.out⟩
      case measure=>simp [intOf]; omega
   ·have hjl:j = l:=by omega
    have HN:Hid (([] :: rows t.kids j:List (List Int)) = paths t):=Lib.hid (by rw [hjl,HL.out,← paths_rows])
    have HP2:Hid (PSt W1 wr v (paths t) xs):=Lib.hid (by rw [← HN.out]; exact HP.out)
    obtain ⟨A9,c9,hv,hcap⟩:=own_len HP2.out.own
    rw [paths_length] at hv hcap
    subst hv
    have HBW:=Lib.hid hBW
    clear hjl hBW
    go_wp2_with fail
    go_ret
    refine ⟨A9,c9,rfl,hcap,⟨xs,?_,?_⟩,HBW.out⟩
    ·have h:=HP2.out.own
     rw [paths_length] at h ⊢
     exact (Rd.of_own h).mono fun b hb=>⟨by have:=HZ1.out; omega,hb.2⟩
    ·exact (HP2.out.cells.mono fun b hb=>⟨by have:=HZ1.out; omega,hb.2.1⟩).2
end Go.Proofs.YtkkenbalpnmfmaaDoor

namespace Go.Proofs.YtkkenbalpnmfmaaDoor
open Go.RowKit WM TR

set_option maxRecDepth 100000 in
set_option maxHeartbeats 1000000 in
theorem rat_nil (d : Nat) (t : T) (S : Nat → Prop) (A P : Option Addr) (c pc : Nat) (w : World) (ht : Rep w S (d + 1) t (nd t A c)) :
  Calls Tryd.prog 40 #[.agg #[.int .i64 t.k,.int .i64 t.n,.int .i64 t.m,.slice A t.kids.length c],.slice P 0 pc] w fun e w'=>∃ u A' c',(at? [] t).getD zeroT = u∧e = .returned (.tuple #[.agg #[.int .i64 u.k,.int .i64 u.n,.int .i64 u.m,.slice A' u.kids.length c'],.bool (at? [] t).isSome])∧Rep w S (d + 1) u (nd u A' c')∧Below w.heap.size w w':=by
 go_enter Tryd.func40,Tryd.ntmps40
 go_wp2_with fail
 refine bodyPost_ret (v:=.tuple #[.agg #[.int .i64 t.k,.int .i64 t.n,.int .i64 t.m,.slice A t.kids.length c],.bool true]) (by simp [results,Tryd.results40,go_sem]) rfl ⟨t,A,c,rfl,rfl,?_,?_⟩
 ·exact ht
 ·exact ba (below_new _ _) _
attribute [local go_sem ↓] shutN
set_option maxRecDepth 100000 in
set_option maxHeartbeats 2000000 in
theorem rat_is : ∀ (p : List Int) (d : Nat) (t : T) (S : Nat → Prop) (A P : Option Addr) (c pc : Nat) (w : World), Rep w S (d + 1) t (nd t A c) → Rd w S 1 P p.length (vi p) → In S w.heap.size → p.length ≤ pc → size t ≤ 1000000 → p.length ≤ 9223372036854775807 →
  Calls Tryd.prog 40 #[.agg #[.int .i64 t.k,.int .i64 t.n,.int .i64 t.m,.slice A t.kids.length c],.slice P p.length pc] w fun e w'=>∃ u A' c',(at? p t).getD zeroT = u∧e = .returned (.tuple #[.agg #[.int .i64 u.k,.int .i64 u.n,.int .i64 u.m,.slice A' u.kids.length c'],.bool (at? p t).isSome])∧Rep w S (d + 1) u (nd u A' c')∧Below w.heap.size w w':=by
 intro p
 induction p with
 | nil =>
  intro d t S A P c pc w ht _ _ _ _ _
  exact rat_nil d t S A P c pc w ht
 | cons i p ih =>
  intro d t S A P c pc w ht hp hin hpc hst hpl
  have hkl:t.kids.length≤1000000:=by have:=kids_lt t; omega
  obtain ⟨b,off,hP,hbS,hcell⟩:=hp.lit (by simp)
  have hb:b < w.heap.size:=hin b hbS
  subst hP
  have hc0:w.cell? ⟨b,off,none⟩ = some (.int .i64 i):=hcell 0 (.int .i64 i) rfl
  have hcap:=ht.cap
  obtain ⟨n,hn⟩:∃ n,n = p.length:=⟨_,rfl⟩
  obtain ⟨l,hl⟩:∃ l,l = t.kids.length:=⟨_,rfl⟩
  simp only [List.length_cons] at hp hpc hpl ⊢
  rw [← hn] at hp hpc hpl ih ⊢
  rw [← hl] at hkl hcap ⊢
  have HN:=Lib.hid hn
  have HL:=Lib.hid hl
  have HP:=Lib.hid hp
  have HI:=Lib.hid hin
  have HT:=Lib.hid ht
  have HC:=Lib.hid hcell
  clear hn hl hp ht hcell hin
  by_cases hi:i < 0
  ·have hnone:at? (i :: p) t = none:=by unfold at?; rw [if_pos hi]
   rw [hnone]
   have hd:decide (i < 0) = true:=by simpa using hi
   clear hnone
   go_enter Tryd.func40,Tryd.ntmps40
   go_wp2_with fail
   go_quiet (fail)
   go_wp2_with (refine wpList_store_row rfl 25 (.tmp 4) (.tmp 23) rfl (w.heap.size + 1) #[.int .i64 0,.int .i64 0,.int .i64 0,.slice none 0 0] rfl rfl 25 #[.int .i64 0,.int .i64 0,.int .i64 0,.slice none 0 0] ((blk_new2 _ _ _ _).drewN _) (by rw [size_node]; rfl) rfl rfl ?_)
   refine bodyPost_ret (v:=.tuple #[.agg #[.int .i64 0,.int .i64 0,.int .i64 0,.slice none 0 0],.bool false]) (by simp [results,Tryd.results40,go_sem]) rfl ⟨zeroT,none,0,rfl,rfl,Rep.leaf in0 in0 in0 _ _,?_⟩
   exact ((((below_drewN (ba (below_new _ _) _) _).setCell (Nat.le_add_right _ _) _).setCell (Nat.le_add_right _ _) _).setCell (Nat.le_add_right _ _) _).setCell (Nat.le_add_right _ _) _
  ·by_cases hil:i < l
   ·obtain ⟨j,rfl⟩:=Int.eq_ofNat_of_zero_le (show 0≤i by omega)
    have hjl:j < l:=by omega
    obtain ⟨v,hv⟩:∃ v,t.kids[j]? = some v:=⟨_,List.getElem?_eq_getElem (by rw [← HL.out]; exact hjl)⟩
    have hat:at? ((j:Int) :: p) t = at? p v:=by
     rw [at?,if_neg hi]
     simp only [Int.toNat_natCast,hv]
    rw [hat]
    obtain ⟨b1,o1,A1,c1,hA1,hb1,hcl1,hr1⟩:=HT.out.kid hv
    have hsv:size v≤1000000:=by have:=size_kid hv; omega
    have htl:=Rd.cut1 HP.out hpc
    have HR1:=Lib.hid (hr1.deeper (Nat.le_succ d))
    have hb1:=HI.out _ hb1
    have hpc1:n≤pc - 1:=by omega
    have hn1:n≤9223372036854775807:=by omega
    subst hA1
    have hd:decide ((j:Int) < 0) = false:=by simp
    have hd2:decide ((l:Int)≤j) = false:=by simp; omega
    have hc3:(w.alloc (.cells #[.int .i64 t.k,.int .i64 t.n,.int .i64 t.m,.slice (some ⟨b1,o1,none⟩) l c] 25)).cell? ⟨w.heap.size,3,none⟩ = some (.slice (some ⟨b1,o1,none⟩) l c):=(Blk.new w _ _).cell 3
    have hij:(0:Int)≤j∧(j:Int) < l:=⟨by omega,by omega⟩
    have hcut:=cut1 b off (n + 1) pc (by omega)
    obtain ⟨P',hP'⟩:∃ P',P' = (if pc = 1 then some (⟨b,off,none⟩:Addr) else some ⟨b,off + 1,none⟩):=⟨_,rfl⟩
    rw [← hP'] at hcut htl
    have HTL:=Lib.hid htl
    clear hP' htl
    clear hat hi hil hv
    go_enter Tryd.func40,Tryd.ntmps40
    go_wp2_with fail
    go_quiet (fail)
    go_wp2_with fail
    obtain ⟨W2,hW2⟩:∃ W2,W2 = ((w.alloc (.cells #[.int .i64 t.k,.int .i64 t.n,.int .i64 t.m,.slice (some ⟨b1,o1,none⟩) l c] 25)).alloc (.cells #[.int .i64 0,.int .i64 0,.int .i64 0,.slice none 0 0] 25)).drewN nq:=⟨_,rfl⟩
    have HB2:Hid (Below w.heap.size w W2.drew):=Lib.hid (by rw [hW2]; exact (below_drewN (ba (below_new _ _) _) _).drew)
    have HO2:Hid (Blk W2.drew (w.heap.size + 1) 25 #[.int .i64 0,.int .i64 0,.int .i64 0,.slice none 0 0]):=Lib.hid (by rw [hW2]; exact ((blk_new2 _ _ _ _).drewN _).drew)
    have hc3':W2.drew.cell? ⟨w.heap.size,3,none⟩ = some (.slice (some ⟨b1,o1,none⟩) l c):=by rw [hW2]; exact (((blk_new3 _ _ _ _).drewN _).drew).cell 3
    have hc0':W2.drew.cell? ⟨b,off,none⟩ = some (.int .i64 (j:Int)):=(HB2.out.cell (p:=⟨b,off,none⟩) hb).trans hc0
    have hld:(ldN (.pointer (some ⟨b1,o1 + j * 4,none⟩))).run Tryd.prog W2.drew = .ok (.agg #[.int .i64 v.k,.int .i64 v.n,.int .i64 v.m,.slice A1 v.kids.length c1]) W2.drew:=load_nd fun i x hx=>(HB2.out.cell (p:=⟨b1,_,none⟩) hb1).trans (hcl1 i x hx)
    rw [← hW2]
    clear hW2 hc0 hc3
    go_region_with (go_at_call 40; refine (ih d v S A1 _ c1 _ _ ?h1 ?h2 ?h3 hpc1 hsv hn1).mono ?_; (case h1=>exact HR1.out.later HI.out HB2.out); (case h2=>exact HTL.out.keep (Keeps.below HI.out HB2.out)); (case h3=>exact HI.out.more HB2.out.size); rintro e w' ⟨u,A',c',hu,rfl,hru,hbw⟩; have HO3:=Lib.hid (HO2.out.below hbw HO2.out.lt); have g0:=HO3.out.cell 0; have g1:=HO3.out.cell 1; have g2:=HO3.out.cell 2; have g3:=HO3.out.cell 3; have f0:=HO3.out.frozen 0; have f1:=HO3.out.frozen 1; have f2:=HO3.out.frozen 2; have f3:=HO3.out.frozen 3)
    all_goals
     go_wp2_with fail
     refine bodyPost_ret (v:=.tuple #[.agg #[.int .i64 u.k,.int .i64 u.n,.int .i64 u.m,.slice A' u.kids.length c'],.bool (at? p v).isSome]) (by simp [results,Tryd.results40,go_sem,g0,g1,g2,g3]) rfl ⟨u,A',c',hu,rfl,?_,?_⟩
     ·exact hru.keep (fun b hb=>(HB2.out.block b (HI.out b hb)).symm)
     ·exact ((((bt HB2.out hbw).setCell (Nat.le_add_right _ _) _).setCell (Nat.le_add_right _ _) _).setCell (Nat.le_add_right _ _) _).setCell (Nat.le_add_right _ _) _
   ·have hnone : at? (i :: p) t = none := by
     unfold at?
     rw [if_neg hi,List.getElem?_eq_none (by rw [← HL.out]; omega)]
    rw [hnone]
    have hd:decide (i < 0) = false:=by simpa using hi
    have hd2:decide ((l:Int)≤i) = true:=by simpa using hil
    have hcl:(w.alloc (.cells #[.int .i64 t.k,.int .i64 t.n,.int .i64 t.m,.slice A l c] 25)).cell? ⟨w.heap.size,3,none⟩ = some (.slice A l c):=(Blk.new w _ _).cell 3
    clear hnone
    go_enter Tryd.func40,Tryd.ntmps40
    go_wp2_with fail
    go_quiet (fail)
    go_wp2_with (refine wpList_store_row rfl 25 (.tmp 4) (.tmp 23) rfl (w.heap.size + 1) #[.int .i64 0,.int .i64 0,.int .i64 0,.slice none 0 0] rfl rfl 25 #[.int .i64 0,.int .i64 0,.int .i64 0,.slice none 0 0] ((blk_new2 _ _ _ _).drewN _) (by rw [size_node]; rfl) rfl rfl ?_)
    refine bodyPost_ret (v:=.tuple #[.agg #[.int .i64 0,.int .i64 0,.int .i64 0,.slice none 0 0],.bool false]) (by simp [results,Tryd.results40,go_sem]) rfl ⟨zeroT,none,0,rfl,rfl,Rep.leaf in0 in0 in0 _ _,?_⟩
    exact ((((below_drewN (ba (below_new _ _) _) _).setCell (Nat.le_add_right _ _) _).setCell (Nat.le_add_right _ _) _).setCell (Nat.le_add_right _ _) _).setCell (Nat.le_add_right _ _) _
end Go.Proofs.YtkkenbalpnmfmaaDoor

namespace Go.Proofs.YtkkenbalpnmfmaaDoor
open Go.RowKit WM TR TY

set_option maxRecDepth 100000 in
set_option maxHeartbeats 4000000 in
theorem vars_is (p u : T) (j d : Nat) (A : Option Addr) (c : Nat) (w : World) (hnd : Nds w (Lt w.heap.size) (d + 1) p.kids A c) (hu : p.kids[j]? = some u) (hu1 : 1 ≤ u.kids.length ∧ u.kids.length ≤ 1000) :
  Calls Tryd.prog 25 #[.agg #[.int .i64 p.k,.int .i64 p.n,.int .i64 p.m,.slice A p.kids.length c],.int .i64 (j:Int)] w fun e w'=>∃ A' c',e = .returned (.slice A' (scO p u).vars.length c')∧Nds w' (Lt w'.heap.size) (d + 1) (scO p u).vars A' c'∧Below w.heap.size w w':=by
 obtain ⟨b,off,A',c',hA,hbl,hc,hru⟩:=hnd.at_ hu
 subst hA
 have hcap:=hru.cap
 have hjl:j < p.kids.length:=(List.getElem?_eq_some_iff.1 hu).1
 obtain ⟨nk,hnk⟩:∃ z,z = p.kids.length:=⟨_,rfl⟩
 obtain ⟨q,hq⟩:∃ q,u.kids.length = q + 1:=⟨u.kids.length - 1,by omega⟩
 obtain ⟨k,hk⟩:∃ z,z = p.k:=⟨_,rfl⟩
 obtain ⟨n,hn⟩:∃ z,z = p.n:=⟨_,rfl⟩
 obtain ⟨m,hm⟩:∃ z,z = p.m:=⟨_,rfl⟩
 obtain ⟨z,hz⟩:∃ z,z = w.heap.size:=⟨_,rfl⟩
 have hlen:(scO p u).vars.length = q:=by show (u.kids.take (u.kids.length - 1)).length = q; rw [List.length_take]; omega
 have hfun:(scO p u).funs.length = nk:=hnk.symm
 have hch:(scO p u).ch = n:=hn.symm
 have hnum:IntKind.i64.wrap (((q + 1:Nat):Int) - 1) = (q:Int):=by rw [IntKind.wrap_i64]; omega
 have hcut:=cutN A' (q + 1) c' q (by omega)
 have hqw:IntKind.i64.wrap (q:Int) = (q:Int):=by rw [IntKind.wrap_i64]; omega
 have hqc:(0:Int)≤(q:Int)∧(q:Int)≤(c':Int):=⟨by omega,by omega⟩
 obtain ⟨A2,hA2⟩:∃ A2,A2 = (if c' = 0 then A' else A'.map (·.add 0)):=⟨_,rfl⟩
 rw [← hA2] at hcut
 have hv:Nds w (Lt w.heap.size) (d + 1) (scO p u).vars A2 c':=by
  obtain ⟨xs,h1,h2⟩:=hru.kids
  have hA2':A2 = A':=by
   rw [hA2]; split
   ·rfl
   ·cases A' <;> simp [Addr.add]
  rw [hA2']
  refine ⟨⟨xs.take (q * 4),?_,?_⟩,by omega,by omega⟩
  ·rw [hlen]
   refine ⟨by rw [List.length_take,h1.1]; omega,fun hn=>?_⟩
   obtain ⟨ad,e,hb,hcs⟩:=h1.2 (by omega)
   refine ⟨ad,e,hb,fun i v hv=>hcs i v ?_⟩
   rw [List.getElem?_take] at hv
   split at hv
   ·exact hv
   ·cases hv
  ·refine ⟨by rw [List.length_take,hlen,h1.1]; omega,fun i v hv=>?_⟩
   have hi:i < q:=by rw [← hlen]; exact (List.getElem?_eq_some_iff.1 hv).1
   have hv2:u.kids[i]? = some v:=by
    have hv3:(u.kids.take (u.kids.length - 1))[i]? = some v:=hv
    rw [List.getElem?_take] at hv3
    split at hv3
    ·exact hv3
    ·cases hv3
   have h:=h2.2 i v hv2
   have e:((xs.take (q * 4)).drop (i * 4)).take 4 = (xs.drop (i * 4)).take 4:=by
    rw [List.drop_take,List.take_take]; congr 1; omega
   rw [e]
   exact h.deeper (by omega)
 obtain ⟨W1,hW1⟩:∃ W,W = w.alloc (.cells #[.int .i64 k,.int .i64 n,.int .i64 m,.slice (some ⟨b,off,none⟩) nk c] 25):=⟨_,rfl⟩
 have hb1:Below w.heap.size w W1:=by rw [hW1]; exact below_new _ _
 have k0:Blk W1 z 25 #[.int .i64 k,.int .i64 n,.int .i64 m,.slice (some ⟨b,off,none⟩) nk c]:=by rw [hW1,hz]; exact Blk.new _ _ _
 obtain ⟨y1,y3⟩:W1.cell? ⟨z,1,none⟩ = some (.int .i64 n)∧W1.cell? ⟨z,3,none⟩ = some (.slice (some ⟨b,off,none⟩) nk c):=⟨k0.cell 1,k0.cell 3⟩
 have hcu:∀ i v,(nd u A' c')[i]? = some v→W1.cell? ⟨b,off + j * 4 + i,none⟩ = some v:=fun i v hv=>(hb1.cell (p:=⟨b,_,none⟩) hbl).trans (hc i v hv)
 obtain ⟨uk,huk⟩:∃ z,z = u.k:=⟨_,rfl⟩
 obtain ⟨un,hun⟩:∃ z,z = u.n:=⟨_,rfl⟩
 obtain ⟨um,hum⟩:∃ z,z = u.m:=⟨_,rfl⟩
 obtain ⟨v0,v1,v2,v3⟩:W1.cell? ⟨b,off + j * 4,none⟩ = some (.int .i64 uk)∧W1.cell? ⟨b,off + j * 4 + 1,none⟩ = some (.int .i64 un)∧W1.cell? ⟨b,off + j * 4 + 2,none⟩ = some (.int .i64 um)∧W1.cell? ⟨b,off + j * 4 + 3,none⟩ = some (.slice A' (q + 1) c'):=⟨by rw [huk]; exact hcu 0 _ rfl,by rw [hun]; exact hcu 1 _ rfl,by rw [hum]; exact hcu 2 _ rfl,by rw [← hq]; exact hcu 3 _ rfl⟩
 have hjb:(0:Int)≤(j:Int)∧(j:Int) < (nk:Int):=⟨by omega,by omega⟩
 have HV:=Lib.hid hv
 have HF:=Lib.hid hnd
 have HW1:=Lib.hid hW1
 have HZ:=Lib.hid hz
 have HB1:=Lib.hid hb1
 rw [hlen,← hnk,← hk,← hn,← hm]
 clear huk hun hum hcu hv hnd hW1 hz hb1 k0 hlen hfun hch hnk hk hn hm hA2 hcap hq hc hru hu hu1 hjl
 go_enter Tryd.func25,Tryd.ntmps25
 go_upto_region 1 with fail
 rw [← HW1.out]
 try rw [← HZ.out]
 go_upto_region 2 with fail
 obtain ⟨W2,hW2⟩:∃ W,W = W1.alloc (.cells #[.int .i64 uk,.int .i64 un,.int .i64 um,.slice A' (q + 1) c'] 25):=⟨_,rfl⟩
 obtain ⟨g5,hg5⟩:∃ z,z = W1.heap.size:=⟨_,rfl⟩
 have k5:Blk W2 g5 25 #[.int .i64 uk,.int .i64 un,.int .i64 um,.slice A' (q + 1) c']:=by rw [hW2,hg5]; exact Blk.new _ _ _
 have HB2:Hid (Below w.heap.size w W2):=Lib.hid (bt HB1.out (by rw [hW2]; exact below_new _ _))
 rw [← hW2,← hg5]
 have x3:W2.cell? ⟨g5,3,none⟩ = some (.slice A' (q + 1) c'):=k5.cell 3
 clear hW2 hg5 k5 v0 v1 v2 v3 y1 y3
 go_wp2_with fail
 go_ret
 exact ⟨A2,c',rfl,HV.out.next HB2.out,HB2.out⟩
end Go.Proofs.YtkkenbalpnmfmaaDoor

namespace Go.Proofs.YtkkenbalpnmfmaaDoor
open Go.RowKit WM TR TY

theorem at_some (t:T):∀ q ∈ paths t,∃ v,at? q t = some v:=by
 induction h:SizeOf.sizeOf t using Nat.strongRecOn generalizing t with
 | ind n ih =>
  subst h
  intro q hq
  rw [paths_F] at hq
  rcases List.mem_cons.1 hq with rfl | hq
  ·exact ⟨t,by rw [at?]⟩
  ·obtain ⟨k,b,u,g1,g2,g3⟩:=rowsF_mem _ _ _ hq
   rw [Nat.zero_add] at g1
   rw [g1,at_kid b g2]
   exact ih _ (kid_lt (List.mem_of_getElem? g2)) u rfl b g3
theorem path_two {p:T} {q:List Int} (hq:q ∈ paths p) (h:2≤q.length):∃ (k:Nat) (u v:T) (j:Int) (b:List Int),q = (k:Int) :: j :: b∧p.kids[k]? = some u∧at? (j :: b) u = some v∧at? q p = some v:=by
 obtain ⟨v,hv⟩:=at_some p q hq
 rw [paths_F] at hq
 rcases List.mem_cons.1 hq with rfl | hq
 ·simp at h
 obtain ⟨k,b,u,g1,g2,g3⟩:=rowsF_mem _ _ _ hq
 rw [Nat.zero_add] at g1
 cases b with
 | nil=>rw [g1] at h; simp at h
 | cons j b =>
  refine ⟨k,u,v,j,b,g1,g2,?_,hv⟩
  rw [g1,at_kid _ g2] at hv
  exact hv
theorem put4_blkC {w W : World} {g : Nat} {a b c d : Value} (hk : Blk W g 25 #[.int .i64 0, .int .i64 0, .int .i64 0, .slice none 0 0]) (hb : Below w.heap.size w W) (hg : w.heap.size ≤ g) :
  Blk ((((W.setCell ⟨g,0,none⟩ a).setCell ⟨g,1,none⟩ b).setCell ⟨g,2,none⟩ c).setCell ⟨g,3,none⟩ d) g 25 #[a,b,c,d]∧Below w.heap.size w ((((W.setCell ⟨g,0,none⟩ a).setCell ⟨g,1,none⟩ b).setCell ⟨g,2,none⟩ c).setCell ⟨g,3,none⟩ d):=by
 refine ⟨by have h:=(((hk.set_ 0 a).set_ 1 b).set_ 2 c).set_ 3 d; simpa using h,?_⟩
 exact (((hb.setCell (by show w.heap.size≤g; exact hg) _).setCell (by show w.heap.size≤g; exact hg) _).setCell (by show w.heap.size≤g; exact hg) _).setCell (by show w.heap.size≤g; exact hg) _
set_option maxRecDepth 100000 in
set_option maxHeartbeats 16000000 in
theorem rcheck_is (d : Nat) (p : T) (A : Option Addr) (c : Nat) (w : World) (hr : Rep w (Lt w.heap.size) (d + 3) p (nd p A c)) (hsz : size p ≤ 1000000) :
  Calls Tryd.prog 45 #[.agg #[.int .i64 p.k,.int .i64 p.n,.int .i64 p.m,.slice A p.kids.length c]] w (ChkPost p w):=by
 obtain ⟨z,hz⟩:∃ z,z = w.heap.size:=⟨_,rfl⟩
 obtain ⟨pl,hpl⟩:∃ z,z = p.kids.length:=⟨_,rfl⟩
 obtain ⟨pk,hpk⟩:∃ z,z = p.k:=⟨_,rfl⟩
 obtain ⟨pn,hpn⟩:∃ z,z = p.n:=⟨_,rfl⟩
 obtain ⟨pm,hpm⟩:∃ z,z = p.m:=⟨_,rfl⟩
 obtain ⟨W1,hW1⟩:∃ W,W = w.alloc (.cells #[.int .i64 pk,.int .i64 pn,.int .i64 pm,.slice A pl c] 25):=⟨_,rfl⟩
 have hb1:Below w.heap.size w W1:=by rw [hW1]; exact below_new _ _
 have k1:Blk W1 z 25 #[.int .i64 pk,.int .i64 pn,.int .i64 pm,.slice A pl c]:=by rw [hW1,hz]; exact Blk.new _ _ _
 have HCL:Hid (∀ W,Below W1.heap.size W1 W→W.cell? ⟨z,0,none⟩ = some (.int .i64 pk)∧W.cell? ⟨z,1,none⟩ = some (.int .i64 pn)∧W.cell? ⟨z,2,none⟩ = some (.int .i64 pm)∧W.cell? ⟨z,3,none⟩ = some (.slice A pl c)):=Lib.hid fun W hb=>by
  have e:=k1.below hb k1.lt
  exact ⟨e.cell 0,e.cell 1,e.cell 2,e.cell 3⟩
 have hr1:=rep_next hr hb1
 obtain ⟨v,hv⟩:∃ v,v = isProg p:=⟨_,rfl⟩
 have HVAL:Hid (Calls Tryd.prog 19 #[.agg #[.int .i64 pk,.int .i64 pn,.int .i64 pm,.slice A pl c]] W1 fun e w'=>e = .returned (.bool v)∧Below W1.heap.size W1 w'):=Lib.hid (by
  rw [hpk,hpn,hpm,hpl,hv]
  exact valid_is (d + 3) p _ A c W1 hr1 (In.lt _) hsz)
 have HPA:Hid (∀ W,Below W1.heap.size W1 W→Calls Tryd.prog 39 #[.agg #[.int .i64 pk,.int .i64 pn,.int .i64 pm,.slice A pl c]] W (PathsPost p W)):=Lib.hid fun W hb=>by
  rw [hpk,hpn,hpm,hpl]
  exact paths_is (d + 3) p _ A c W (rep_next hr1 hb) (In.lt _) hsz
 have HZB:Hid (z < W1.heap.size):=Lib.hid k1.lt
 have HR1:=Lib.hid hr1
 have HW1:=Lib.hid hW1
 have HZ:=Lib.hid hz
 have HB1:=Lib.hid hb1
 have HV:=Lib.hid hv
 have HSZ:=Lib.hid hsz
 have HPP:Hid (pk = p.k∧pn = p.n∧pm = p.m∧pl = p.kids.length):=Lib.hid ⟨hpk,hpn,hpm,hpl⟩
 rw [← hpl,← hpk,← hpn,← hpm]
 obtain ⟨y0,y1,y2,y3⟩:=HCL.out W1 (Below.refl _ _)
 clear hr hsz hz hpl hpk hpn hpm hW1 hb1 k1 hr1 hv
 cases v with
 | false =>
  have HC:Hid (chk p = ([],2)):=Lib.hid (by unfold chk; rw [if_neg (by rw [← HV.out]; simp)])
  go_enter Tryd.func45,Tryd.ntmps45
  go_upto_region 1 with fail
  rw [← HW1.out]
  try rw [← HZ.out]
  go_wp2_with (go_at_call 19; refine HVAL.out.mono ?_; rintro e w2 ⟨rfl,hb2⟩; have HB2:=Lib.hid (bt HB1.out hb2); clear hb2 y0 y1 y2 y3)
  refine bodyPost_ret (v:=.tuple #[.slice none 0 0,.int .i64 2]) (by simp [results,Tryd.results45,go_sem]) rfl ?_
  unfold ChkPost
  rw [HC.out]
  exact ⟨none,0,rfl,⟨reads_nil _ _,Nat.le_refl _⟩,HB2.out⟩
 | true =>
  have hp:=HV.out.symm
  have hpl9:p.kids.length≤1000:=by
   have hp2:IsProg p:=by unfold isProg at hp; simpa using hp
   have:=(nok_of ((prog_iff p).1 hp2).2.2.2).len
   omega
  have HND:Hid (Nds W1 (Lt W1.heap.size) (d + 2) p.kids A c):=Lib.hid (nds_rep HR1.out hpl9)
  have HP:=Lib.hid hp
  clear hp hpl9
  go_enter Tryd.func45,Tryd.ntmps45
  go_upto_region 1 with fail
  rw [← HW1.out]
  try rw [← HZ.out]
  go_upto_region 5 with (first
   | (go_at_call 19; refine HVAL.out.mono ?_; rintro e w2 ⟨rfl,hb2⟩; have HB2:=Lib.hid hb2; obtain ⟨x0,x1,x2,x3⟩:=HCL.out _ hb2; clear hb2 y0 y1 y2 y3)
   | (go_at_call 39; refine (HPA.out _ HB2.out).mono ?_; rintro e w3 ⟨A3,c3,rfl,hc3,hps3,hb3⟩; have HPS:=Lib.hid hps3; have HB3:=Lib.hid (bt HB2.out hb3); clear hc3 hps3 hb3 x0 x1 x2 x3))
  obtain ⟨n,hn⟩:∃ n,n = size p:=⟨_,rfl⟩
  rw [← hn]
  have HN:Hid ((paths p).length = n):=Lib.hid (by rw [paths_length,hn])
  have hn6:n≤1000000:=by rw [hn]; exact HSZ.out
  clear hn
  go_loopw [5] (fun i wr=>∃ j:Nat,j≤n∧i = .int .i64 (j:Int)∧Hid (Below w3.heap.size w3 wr)∧Hid (∀ (i':Nat) (q':List Int),i' < j→(paths p)[i']? = some q'→errP p q' = 0)) (fun i _=>n - (intOf i).toNat)
  case atStart=>exact ⟨0,Nat.zero_le _,rfl,Below.refl _ _,fun i' _ h=>absurd h (by omega)⟩
  case round =>
   obtain ⟨j,hj,rfl,HBR,HZE⟩:=hrel
   obtain ⟨Wk,hWk⟩:∃ W,W = wr:=⟨_,rfl⟩
   subst hWk
   have HB1k:Hid (Below W1.heap.size W1 Wk):=Lib.hid (bt HB3.out HBR.out)
   by_cases hlt:j < n
   ·have hdj:decide (j < n) = true:=by simpa using hlt
    have hij:(0:Int)≤(j:Int)∧(j:Int) < (n:Int):=⟨by omega,by omega⟩
    obtain ⟨q,hq⟩:∃ q,(paths p)[j]? = some q:=⟨_,List.getElem?_eq_getElem (by rw [HN.out]; exact hlt)⟩
    have hqm:=List.mem_of_getElem? hq
    obtain ⟨bP,oP,Aq,cq,hA,hbl,hcell,hcc,hrd⟩:=Ps.at_ HPS.out hq
    subst hA
    have hq6:q.length≤1000000:=Nat.le_trans (path_le p q hqm) HSZ.out
    have HCQ:Hid (∀ W,Below Wk.heap.size Wk W→W.cell? ⟨bP,oP + j,none⟩ = some (.slice Aq q.length cq)):=Lib.hid fun W hb=>((bt HBR.out hb).cell (p:=⟨bP,oP + j,none⟩) hbl.2).trans hcell
    have HRD:Hid (∀ W,Below Wk.heap.size Wk W→Rd W (Lt w3.heap.size) 1 Aq q.length (vi q)):=Lib.hid fun W hb=>(hrd.mono fun b h=>h.2).keep (Keeps.below (fun b h=>h) (bt HBR.out hb))
    have HNX:Hid (errP p q = 0→∀ (i':Nat) (q':List Int),i' < j + 1→(paths p)[i']? = some q'→errP p q' = 0):=Lib.hid fun h0 i' q' hi hq'=>by
     by_cases h2:i' = j
     ·subst h2
      obtain rfl:q = q':=Option.some.inj (hq.symm.trans hq')
      exact h0
     ·exact HZE.out i' q' (by omega) hq'
    have HBP:Hid (bP < w3.heap.size):=Lib.hid hbl.2
    have HQ:=Lib.hid hq
    have HQM:=Lib.hid hqm
    obtain ⟨ql,hql⟩:∃ z,z = q.length:=⟨_,rfl⟩
    have HQL:=Lib.hid hql
    have hql6:ql≤1000000:=by omega
    have HCC:Hid (ql≤cq):=Lib.hid (by rw [hql]; exact hcc)
    rw [← hql] at HCQ HRD
    have hx0:=HCQ.out _ (Below.refl _ _)
    clear hq hqm hbl hcell hcc hrd hql hq6
    by_cases h2:ql < 2
    ·have h2i:((ql:Int) < 2):=by omega
     have hd2:decide ((2:Int)≤(ql:Int)) = false:=by simp; omega
     have HE0:Hid (errP p q = 0):=Lib.hid (errP_out HP.out HQM.out (.inl (by rw [← HQL.out]; exact h2)))
     go_wp2_with fail
     go_roundw
     case rel=>exact ⟨j + 1,by omega,by go_num,HBR.out,HNX.out HE0.out⟩
     case measure=>simp [intOf]; omega
    ·have hd2:decide ((2:Int)≤(ql:Int)) = true:=by simp; omega
     obtain ⟨k,u,y,j1,b,hqe,hu,hyb,hyp⟩:=path_two HQM.out (by rw [← HQL.out]; omega)
     have hpu:=prog_kid HP.out (List.mem_of_getElem? hu)
     have hu1:1≤u.kids.length∧u.kids.length≤1000:=by have h1:=hpu.n0; have h2:=hpu.n1; have h3:=hpu.len; omega
     have hkl:k < 1000:=by
      have h1:=(List.getElem?_eq_some_iff.1 hu).1
      have h2:=(HND.out).2.2
      omega
     obtain ⟨vk,hvk⟩:∃ z,z = y.k:=⟨_,rfl⟩
     obtain ⟨vn,hvn⟩:∃ z,z = y.n:=⟨_,rfl⟩
     obtain ⟨vm,hvm⟩:∃ z,z = y.m:=⟨_,rfl⟩
     obtain ⟨vl,hvl⟩:∃ z,z = y.kids.length:=⟨_,rfl⟩
     have HVV:Hid (vk = y.k∧vn = y.n∧vm = y.m∧vl = y.kids.length):=Lib.hid ⟨hvk,hvn,hvm,hvl⟩
     have HAT:Hid (∀ W,Below Wk.heap.size Wk W→Calls Tryd.prog 40 #[.agg #[.int .i64 pk,.int .i64 pn,.int .i64 pm,.slice A pl c],.slice Aq ql cq] W fun e w'=>∃ A' c',e = .returned (.tuple #[.agg #[.int .i64 vk,.int .i64 vn,.int .i64 vm,.slice A' vl c'],.bool true])∧Rep w' (Lt Wk.heap.size) (d + 3) y (nd y A' c')∧Below W.heap.size W w'):=Lib.hid fun W hb=>by
      have hrW:Rep W (Lt Wk.heap.size) (d + 3) p (nd p A c):=(HR1.out.keep (Keeps.below (In.lt _) (bt HB1k.out hb))).mono fun b hb2=>Nat.lt_of_lt_of_le hb2 HB1k.out.size
      have hrdW:=(HRD.out W hb).mono (S':=Lt Wk.heap.size) fun b hb2=>Nat.lt_of_lt_of_le hb2 HBR.out.size
      have h:=rat_is q (d + 2) p (Lt Wk.heap.size) A Aq c cq W hrW (by rw [← HQL.out]; exact hrdW) (fun b hb2=>Nat.lt_of_lt_of_le hb2 hb.size) (by rw [← HQL.out]; exact HCC.out) HSZ.out (by rw [← HQL.out]; omega)
      rw [HPP.out.1,HPP.out.2.1,HPP.out.2.2.1,HPP.out.2.2.2,HQL.out]
      refine h.mono ?_
      rintro e w' ⟨u',A',c',hu',rfl,hr',hb'⟩
      rw [hyp] at hu' ⊢
      obtain rfl:y = u':=hu'
      exact ⟨A',c',by rw [HVV.out.1,HVV.out.2.1,HVV.out.2.2.1,HVV.out.2.2.2]; rfl,hr'.keep (Keeps.below (fun b hb2=>Nat.lt_of_lt_of_le hb2 hb.size) hb'),hb'⟩
     obtain ⟨bq,oq,hAq,hbq,hcq⟩:=(HRD.out Wk (Below.refl _ _)).lit (by omega)
     subst hAq
     have HPC:Hid (∀ W,Below Wk.heap.size Wk W→W.cell? ⟨bq,oq,none⟩ = some (.int .i64 (k:Int))∧W.cell? ⟨bq,oq + 1,none⟩ = some (.int .i64 j1)):=Lib.hid fun W hb=>by
      have hlt3:bq < Wk.heap.size:=Nat.lt_of_lt_of_le hbq HBR.out.size
      exact ⟨(hb.cell (p:=⟨bq,oq,none⟩) hlt3).trans (hcq 0 _ (by rw [hqe]; rfl)),(hb.cell (p:=⟨bq,oq + 1,none⟩) hlt3).trans (hcq 1 _ (by rw [hqe]; rfl))⟩
     obtain ⟨nv,hnv⟩:∃ z,z = (scO p u).vars.length:=⟨_,rfl⟩
     have HNV:Hid (nv = u.kids.length - 1):=Lib.hid (by rw [hnv]; show (u.kids.take _).length = _; rw [List.length_take]; omega)
     have hnv9:nv≤1000:=by have:=HNV.out; omega
     have HVA:Hid (∀ W,Below Wk.heap.size Wk W→Calls Tryd.prog 25 #[.agg #[.int .i64 pk,.int .i64 pn,.int .i64 pm,.slice A pl c],.int .i64 (k:Int)] W fun e w'=>∃ A' c',e = .returned (.slice A' nv c')∧Below W.heap.size W w'):=Lib.hid fun W hb=>by
      rw [HPP.out.1,HPP.out.2.1,HPP.out.2.2.1,HPP.out.2.2.2,hnv]
      exact (vars_is p u k (d + 1) A c W (HND.out.next (bt HB1k.out hb)) hu hu1).mono fun e w' ⟨A',c',h1,_,h3⟩=>⟨A',c',h1,h3⟩
     have HQE:=Lib.hid hqe
     have HU:=Lib.hid hu
     have HYB:=Lib.hid hyb
     have HERR:Hid (errP p q = errOf (scO p u) y):=Lib.hid (by rw [hqe]; exact errP_at hu hyb)
     have hz1:z < Wk.heap.size:=Nat.lt_of_lt_of_le HZB.out HB1k.out.size
     have hbp1:bP < Wk.heap.size:=Nat.lt_of_lt_of_le HBP.out HBR.out.size
     obtain ⟨y0,y1,y2,y3⟩:=HCL.out _ HB1k.out
     clear hqe hu hyb hyp hpu hu1 hvk hvn hvm hvl hnv hbq hcq
     go_upto_region 8 with fail
     go_cut [6,7] from 28 to 35 (fun s6 s7 wv=>∃ (V:World) (g:Nat) (A9:Option Addr) (c9:Nat),V = wv∧s6 = .pointer (some ⟨g,0,none⟩)∧s7 = .bool true∧Hid (Below Wk.heap.size Wk V)∧Hid (Blk V g 25 #[.int .i64 vk,.int .i64 vn,.int .i64 vm,.slice A9 vl c9])∧Hid (Rep V (Lt Wk.heap.size) (d + 3) y (nd y A9 c9)))
     case first =>
      have hbd:Below Wk.heap.size Wk Wk.drew:=(Below.refl _ _).drew
      have hba:∀ o,Below Wk.heap.size Wk (Wk.alloc o).drew:=fun o=>((Below.refl Wk.heap.size Wk).alloc (Nat.le_refl _) o).drew
      have HZBK:Hid (Blk ((Wk.alloc (.cells #[.int .i64 0,.int .i64 0,.int .i64 0,.slice none 0 0] 25)).drew) Wk.heap.size 25 #[.int .i64 0,.int .i64 0,.int .i64 0,.slice none 0 0]):=Lib.hid (Blk.new Wk _ _).drew
      go_region_with (first
       | (go_at_call 40; refine (HAT.out _ hbd).mono ?_; rintro e w9 ⟨A9,c9,rfl,hr9,hb9⟩; have HB9:=Lib.hid (bt hbd hb9); have HR9:=Lib.hid hr9; clear hr9 hb9)
       | (go_at_call 40; refine (HAT.out _ (hba (.cells #[.int .i64 0,.int .i64 0,.int .i64 0,.slice none 0 0] 25))).mono ?_; rintro e w9 ⟨A9,c9,rfl,hr9,hb9⟩; have HB9:=Lib.hid (bt (hba (.cells #[.int .i64 0,.int .i64 0,.int .i64 0,.slice none 0 0] 25)) hb9); have HR9:=Lib.hid hr9; have hz:=HZBK.out.below hb9 HZBK.out.lt; have HZ9:=Lib.hid hz; have z0:=hz.cell 0; have z1:=hz.cell 1; have z2:=hz.cell 2; have z3:=hz.cell 3; have f0:=hz.frozen 0; have f1:=hz.frozen 1; have f2:=hz.frozen 2; have f3:=hz.frozen 3; simp only [List.getElem?_toArray,List.getElem?_cons_zero,List.getElem?_cons_succ] at z0 z1 z2 z3; clear hr9 hb9 hz))
      all_goals
       go_wp2_with fail
       go_meet
       first
        | (have hz9:=HZ9.out; exact ⟨_,_,A9,c9,rfl,rfl,rfl,(put4_blkC HZ9.out HB9.out (Nat.le_refl _)).2,(put4_blkC HZ9.out HB9.out (Nat.le_refl _)).1,put4_rep HR9.out (fun h=>absurd h (Nat.lt_irrefl _)) _ _ _ _⟩)
        | exact ⟨_,_,A9,c9,rfl,rfl,rfl,bt HB9.out (below_new _ _),Blk.new _ _ _,HR9.out.keep (Keeps.below (fun b hb2=>Nat.lt_of_lt_of_le hb2 HB9.out.size) (below_new _ _))⟩
     case rest =>
     obtain ⟨V,g,A9,c9,hV,rfl,rfl,HBV,HGV,HRV⟩:=hcut
     subst hV
     clear y0 y1 y2 y3 hx0 hz1 hbp1 HAT
     have hxV:=HCQ.out _ HBV.out
     obtain ⟨q0,q1⟩:=HPC.out _ HBV.out
     have hib0:(0:Int) < (ql:Int):=by omega
     have hib1:(1:Int) < (ql:Int):=by omega
     go_upto_region 10 with fail
     have HEQ:Hid ((decide (j1 = (nv:Int)) = true)↔j1 = ((u.kids.length - 1:Nat):Int)):=Lib.hid (by rw [decide_eq_true_eq,HNV.out])
     obtain ⟨r,hr⟩:∃ r,r = decide (j1 = (nv:Int)):=⟨_,rfl⟩
     have hrb:(j1 == (nv:Int)) = r:=by rw [hr]; by_cases h:j1 = (nv:Int) <;> simp [h]
     rw [← hr] at HEQ
     have HS:Hid (∀ W,Below V.heap.size V W→((W.cell? ⟨z,0,none⟩ = some (.int .i64 pk)∧W.cell? ⟨z,1,none⟩ = some (.int .i64 pn)∧W.cell? ⟨z,2,none⟩ = some (.int .i64 pm)∧W.cell? ⟨z,3,none⟩ = some (.slice A pl c))∧W.cell? ⟨bP,oP + j,none⟩ = some (.slice (some ⟨bq,oq,none⟩) ql cq))∧W.cell? ⟨bq,oq,none⟩ = some (.int .i64 (k:Int))∧W.cell? ⟨bq,oq + 1,none⟩ = some (.int .i64 j1)):=Lib.hid fun W hb=>⟨⟨HCL.out _ (bt HB1k.out (bt HBV.out hb)),HCQ.out _ (bt HBV.out hb)⟩,HPC.out _ (bt HBV.out hb)⟩
     clear hr hxV q0 q1
     refine wp_region_held_drew (S:=fun W=>Below V.heap.size V W) (by kernel_rfl) (Below.refl _ _).drew (fun hS0=>?_)
     refine wpAnyH_take (i:=0) (v:=?_) rfl (by kernel_rfl) (by kernel_rfl) (by kernel_rfl) (fun _ _ _ h=>h) (Or.inl ⟨by rfl,?_⟩) hS0 ?_; rotate_left; (intro w hSw; (try dsimp only at hSw); go_simp; try with_reducible rfl)
     refine wpAnyH_take (i:=1) (v:=?_) rfl (by kernel_rfl) (by kernel_rfl) (by kernel_rfl) (fun _ _ _ h=>h) (Or.inl ⟨by rfl,?_⟩) hS0 ?_; rotate_left; (intro w hSw; (try dsimp only at hSw); go_simp; try with_reducible rfl)
     refine wpAnyH_take (i:=2) (v:=?_) rfl (by kernel_rfl) (by kernel_rfl) (by kernel_rfl) (fun _ _ _ h=>h) (Or.inl ⟨by rfl,?_⟩) hS0 ?_; rotate_left; (intro w hSw; (try dsimp only at hSw); go_simp; try with_reducible rfl)
     refine wpAnyH_take (i:=3) (v:=?_) rfl (by kernel_rfl) (by kernel_rfl) (by kernel_rfl) (fun _ _ _ h=>h) (Or.inl ⟨by rfl,?_⟩) hS0 ?_; rotate_left; (intro w hSw; (try dsimp only at hSw); obtain ⟨⟨⟨e0,e1,e2,e3⟩,e4⟩,e5,e6⟩:=HS.out w hSw; go_simp; try with_reducible rfl)
     refine wpAnyH_take (i:=4) (v:=?_) rfl (by kernel_rfl) (by kernel_rfl) (by kernel_rfl) (fun _ _ _ h=>h) (Or.inl ⟨by rfl,?_⟩) hS0 ?_; rotate_left; (intro w hSw; (try dsimp only at hSw); go_simp; try with_reducible rfl)
     refine wpAnyH_take (i:=5) (v:=?_) rfl (by kernel_rfl) (by kernel_rfl) (by kernel_rfl) (fun _ _ _ h=>h) (Or.inl ⟨by rfl,?_⟩) hS0 ?_; rotate_left; (intro w hSw; (try dsimp only at hSw); obtain ⟨⟨⟨e0,e1,e2,e3⟩,e4⟩,e5,e6⟩:=HS.out w hSw; go_simp; try with_reducible rfl)
     refine wpAnyH_take (i:=6) (v:=?_) rfl (by kernel_rfl) (by kernel_rfl) (by kernel_rfl) (fun _ _ _ h=>h) (Or.inl ⟨by rfl,?_⟩) hS0 ?_; rotate_left; (intro w hSw; (try dsimp only at hSw); obtain ⟨⟨⟨e0,e1,e2,e3⟩,e4⟩,e5,e6⟩:=HS.out w hSw; go_simp; try with_reducible rfl)
     refine wpAnyH_take (i:=7) (v:=?_) rfl (by kernel_rfl) (by kernel_rfl) (by kernel_rfl) (fun _ _ _ h=>h) (Or.inl ⟨by rfl,?_⟩) hS0 ?_; rotate_left; (intro w hSw; (try dsimp only at hSw); go_simp; try with_reducible rfl)
     conv=>arg 8; simp [go_sem]
     conv=>arg 7; simp
     obtain ⟨V1,hV1⟩:∃ w,w = V.drew:=⟨_,rfl⟩
     have hS:Below V.heap.size V V1:=by rw [hV1]; exact hS0
     rw [← hV1]
     clear hV1 hS0
     refine wpAnyH_ready (rs:=[8]) (by kernel_rfl) (by simp) ?_
     refine AllReadyH.cons rfl (fun K hK=>?_) AllReadyH.nil
     go_simp
     go_at_call 25
     refine (HVA.out _ (bt HBV.out hS)).mono ?_
     rintro e V2 ⟨A11,c11,rfl,hb11⟩
     try go_simp
     have hS2:=bt hS hb11
     refine hK.out _ _ hS2 (fun _=>?_)
     clear hK K
     refine wpAnyH_ready (rs:=[9]) (by kernel_rfl) (by simp) ?_
     refine AllReadyH.cons rfl (fun K hK=>?_) AllReadyH.nil
     go_simp
     refine hK.out _ _ hS2 (fun _=>?_)
     clear hK K
     refine wpAnyH_ready (rs:=[10]) (by kernel_rfl) (by simp) ?_
     refine AllReadyH.cons rfl (fun K hK=>?_) AllReadyH.nil
     go_simp
     refine hK.out _ _ hS2 (fun _=>?_)
     clear hK K
     refine wpAnyH_done (by kernel_rfl) ?_ _
     have HB2k:Hid (Below V.heap.size V V2):=Lib.hid hS2
     clear hS hS2 hb11
     clear HS HVA
     have HBW2:Hid (Below Wk.heap.size Wk V2):=Lib.hid (bt HBV.out HB2k.out)
     cases r with
     | false =>
      have HE0:Hid (errP p q = 0):=Lib.hid (errP_out HP.out HQM.out (.inr ⟨k,u,j1,b,HQE.out,HU.out,fun h=>by have:=HEQ.out.2 h; cases this⟩))
      go_wp2_with fail
      go_roundw
      case rel=>exact ⟨j + 1,by omega,by go_num,bt HBR.out HBW2.out,HNX.out HE0.out⟩
      case measure=>simp [intOf]; omega
     | true =>
      have HBD:Hid (Bd y):=Lib.hid (bd_place HP.out HU.out (by rw [← HEQ.out.1 rfl]; exact HYB.out))
      obtain ⟨er,her⟩:∃ er,er = errP p q:=⟨_,rfl⟩
      have HER:=Lib.hid her
      have HWR:Hid (Calls Tryd.prog 70 #[.agg #[.int .i64 pk,.int .i64 pn,.int .i64 pm,.slice A pl c],.int .i64 (k:Int),.agg #[.int .i64 vk,.int .i64 vn,.int .i64 vm,.slice A9 vl c9]] V2 fun e w'=>e = .returned (.int .i64 er)∧Below V2.heap.size V2 w'):=Lib.hid (by
       rw [HPP.out.1,HPP.out.2.1,HPP.out.2.2.1,HPP.out.2.2.2,HVV.out.1,HVV.out.2.1,HVV.out.2.2.1,HVV.out.2.2.2,her,HERR.out]
       exact rwrong_bd p u y k d (d + 3) A A9 c c9 V2 HP.out (HND.out.next (bt HB1k.out HBW2.out)) HU.out HBD.out ((HRV.out.keep (Keeps.below (fun b hb2=>Nat.lt_of_lt_of_le hb2 HBV.out.size) HB2k.out)).mono fun b hb2=>Nat.lt_of_lt_of_le hb2 HBW2.out.size))
      have kG:=HGV.out.below HB2k.out HGV.out.lt
      obtain ⟨g0,g1,g2,g3⟩:V2.cell? ⟨g,0,none⟩ = some (.int .i64 vk)∧V2.cell? ⟨g,1,none⟩ = some (.int .i64 vn)∧V2.cell? ⟨g,2,none⟩ = some (.int .i64 vm)∧V2.cell? ⟨g,3,none⟩ = some (.slice A9 vl c9):=⟨kG.cell 0,kG.cell 1,kG.cell 2,kG.cell 3⟩
      obtain ⟨y0,y1,y2,y3⟩:=HCL.out _ (bt HB1k.out HBW2.out)
      clear her kG
      by_cases he:er = 0
      ·have he2:(er != 0) = false:=by rw [bne_eq_false_iff_eq]; exact he
       have HE0:Hid (errP p q = 0):=Lib.hid (by rw [← HER.out]; exact he)
       clear he
       go_wp2_with (go_at_call 70; refine HWR.out.mono ?_; rintro e w12 ⟨rfl,hb12⟩; have HB12:=Lib.hid (bt HBW2.out hb12); clear hb12)
       go_roundw
       case rel=>exact ⟨j + 1,by omega,by go_num,bt HBR.out HB12.out,HNX.out HE0.out⟩
       case measure=>simp [intOf]; omega
      ·have he2:(er != 0) = true:=by rw [bne_iff_ne]; exact he
       have HX:Hid (chk p = (q,er)):=Lib.hid (by rw [HER.out]; exact chk_by HP.out HQ.out HZE.out (by rw [← HER.out]; exact he))
       clear he
       go_wp2_with (go_at_call 70; refine HWR.out.mono ?_; rintro e w12 ⟨rfl,hb12⟩; have HB12:=Lib.hid (bt HBW2.out hb12); have hx12:=HCQ.out _ HB12.out; clear hb12)
       refine bodyPost_ret (v:=.tuple #[.slice (some ⟨bq,oq,none⟩) ql cq,.int .i64 er]) (by simp [results,Tryd.results45,go_sem]) rfl ?_
       unfold ChkPost
       rw [HX.out]
       refine ⟨_,_,by rw [HQL.out],?_,bt HB1.out (bt HB1k.out HB12.out)⟩
       show Reads _ _ 1 _ q.length (vi q)∧q.length≤cq
       rw [← HQL.out]
       exact ⟨((HRD.out _ HB12.out).mono (S':=Lt w12.heap.size) fun b hb2=>Nat.lt_of_lt_of_le hb2 (Nat.le_trans HBR.out.size HB12.out.size)).reads (In.lt _),HCC.out⟩
   ·have HX:Hid (chk p = ([],0)):=Lib.hid (chk_zero HP.out fun i' q' hq'=>HZE.out i' q' (by have h1:=(List.getElem?_eq_some_iff.1 hq').1; have h2:=HN.out; omega) hq')
    have hdj:decide (j < n) = false:=by simpa using hlt
    go_wp2_with fail
    refine bodyPost_ret (v:=.tuple #[.slice none 0 0,.int .i64 0]) (by simp [results,Tryd.results45,go_sem]) rfl ?_
    unfold ChkPost
    rw [HX.out]
    exact ⟨none,0,rfl,⟨reads_nil _ _,Nat.le_refl _⟩,bt HB1.out HB1k.out⟩
end Go.Proofs.YtkkenbalpnmfmaaDoor

namespace Go.Proofs.YtkkenbalpnmfmaaDoor
open Go.RowKit WM TR TY

set_option maxRecDepth 100000 in
set_option maxHeartbeats 8000000 in
theorem is_is (d : Nat) (p : T) (A : Option Addr) (c : Nat) (place : List Int) (B : Option Addr) (cb : Nat) (want : Int) (w : World) (hr : Rep w (Lt w.heap.size) (d + 1) p (nd p A c)) (hD : d ≤ 1000) (hsz : size p ≤ 1000000) (hT : ST w) (hg : 0 < w.heap.size)
  (hm:Reads w w.heap.size 1 B place.length (vi place)) (hpl:place.length≤1000000) (hcl:(chk p).1.length≤1000000) (r:Bool) (hrr:((chk p).2 == want && decide ((chk p).1 = place)) = r) :
  Calls Tryd.prog 16 #[.agg #[.int .i64 p.k,.int .i64 p.n,.int .i64 p.m,.slice A p.kids.length c],.slice B place.length cb,.int .i64 want] w fun e w'=>e = .returned (.bool r)∧Below w.heap.size w w':=by
 obtain ⟨z,hz⟩:∃ z,z = w.heap.size:=⟨_,rfl⟩
 obtain ⟨nk,hnk⟩:∃ z,z = p.kids.length:=⟨_,rfl⟩
 obtain ⟨k,hk⟩:∃ z,z = p.k:=⟨_,rfl⟩
 obtain ⟨n,hn⟩:∃ z,z = p.n:=⟨_,rfl⟩
 obtain ⟨m,hm'⟩:∃ z,z = p.m:=⟨_,rfl⟩
 obtain ⟨np,hnp⟩:∃ z,z = place.length:=⟨_,rfl⟩
 obtain ⟨W1,hW1⟩:∃ W,W = w.alloc (.cells #[.int .i64 k,.int .i64 n,.int .i64 m,.slice A nk c] 25):=⟨_,rfl⟩
 have hb1:Below w.heap.size w W1:=by rw [hW1]; exact below_new _ _
 have k1:Blk W1 z 25 #[.int .i64 k,.int .i64 n,.int .i64 m,.slice A nk c]:=by rw [hW1,hz]; exact Blk.new _ _ _
 obtain ⟨y0,y1,y2,y3⟩:W1.cell? ⟨z,0,none⟩ = some (.int .i64 k)∧W1.cell? ⟨z,1,none⟩ = some (.int .i64 n)∧W1.cell? ⟨z,2,none⟩ = some (.int .i64 m)∧W1.cell? ⟨z,3,none⟩ = some (.slice A nk c):=⟨k1.cell 0,k1.cell 1,k1.cell 2,k1.cell 3⟩
 obtain ⟨l,hl⟩:∃ l,l = (chk p).1:=⟨_,rfl⟩
 obtain ⟨er,her⟩:∃ er,er = (chk p).2:=⟨_,rfl⟩
 obtain ⟨nl,hnl⟩:∃ nl,nl = l.length:=⟨_,rfl⟩
 have HC:Hid (Calls Tryd.prog 33 #[.agg #[.int .i64 k,.int .i64 n,.int .i64 m,.slice A nk c]] W1 fun e w'=>∃ A' c',e = .returned (.tuple #[.slice A' nl c',.int .i64 er])∧Reads w' w'.heap.size 1 A' nl (vi l)∧Below W1.heap.size W1 w'):=Lib.hid (by
  have h:=check_is d p A c W1 (rep_next hr hb1) hD hsz (hT.below hb1 hg) (Nat.lt_of_lt_of_le hg hb1.size)
  rw [← hnk,← hk,← hn,← hm'] at h
  refine h.mono ?_
  rintro e w' ⟨A',c',h1,h2,h3⟩
  rw [← hl,← her,← hnl] at h1
  rw [← hl,← hnl] at h2
  exact ⟨A',c',h1,h2.1,h3⟩)
 have HS:Hid (∀ (W:World) (A':Option Addr) (c':Nat),Below w.heap.size w W→Reads W W.heap.size 1 A' nl (vi l)→Calls Tryd.prog 35 #[.slice A' nl c',.slice B np cb] W fun e w'=>e = .returned (.bool (decide (l = place)))∧Below W.heap.size W w'):=Lib.hid fun W A' c' hb h1=>by
  rw [hnl] at h1 ⊢
  rw [hnp]
  exact sameInts_is l place (Lt W.heap.size) A' B c' cb W h1 ((hm.below hb).more hb.size) (In.lt _) (by rw [hl]; exact hcl) hpl _ rfl
 have HR:Hid (r = (er == want && decide (l = place))):=Lib.hid (by rw [← hrr,her,hl])
 have HW1:=Lib.hid hW1
 have HZ:=Lib.hid hz
 have HB1:=Lib.hid hb1
 rw [← hnk,← hk,← hn,← hm',← hnp]
 obtain ⟨e1,he1⟩:∃ e1,(er == want) = e1:=⟨_,rfl⟩
 have HE1:=Lib.hid he1
 clear hr hsz hT hg hm hcl hrr hz hnk hk hn hm' hnp hW1 hb1 k1 hl her hnl
 cases e1
 all_goals
  go_enter Tryd.func16,Tryd.ntmps16
  go_upto_region 1 with fail
  rw [← HW1.out]
  try rw [← HZ.out]
  go_wp2_with (first
   | (go_at_call 33; refine HC.out.mono ?_; rintro e w2 ⟨A',c',rfl,h1,h2⟩; have HB2:=Lib.hid (bt HB1.out h2); have HR2:=Lib.hid h1; clear h1 h2 y0 y1 y2 y3)
   | (go_at_call 35; refine (HS.out _ _ _ HB2.out HR2.out).mono ?_; rintro e w3 ⟨rfl,hb3⟩; replace HB2:=Lib.hid (bt HB2.out hb3); clear hb3))
  go_ret
  exact ⟨ret_b (by rw [HR.out,HE1.out]; simp),HB2.out⟩
end Go.Proofs.YtkkenbalpnmfmaaDoor

namespace Go.Proofs.YtkkenbalpnmfmaaDoor
open Go.RowKit WM TR TY

set_option maxRecDepth 100000 in
set_option maxHeartbeats 8000000 in
theorem same_is (d : Nat) (p : T) (A : Option Addr) (c : Nat) (w : World) (hr : Rep w (Lt w.heap.size) (d + 3) p (nd p A c)) (hD : d + 2 ≤ 1000) (hsz : size p ≤ 1000000) (hT : ST w) (hg : 0 < w.heap.size) :
  Calls Tryd.prog 15 #[.agg #[.int .i64 p.k,.int .i64 p.n,.int .i64 p.m,.slice A p.kids.length c]] w fun e w'=>e = .returned (.bool true)∧Below w.heap.size w w':=by
 obtain ⟨z,hz⟩:∃ z,z = w.heap.size:=⟨_,rfl⟩
 obtain ⟨nk,hnk⟩:∃ z,z = p.kids.length:=⟨_,rfl⟩
 obtain ⟨k,hk⟩:∃ z,z = p.k:=⟨_,rfl⟩
 obtain ⟨n,hn⟩:∃ z,z = p.n:=⟨_,rfl⟩
 obtain ⟨m,hm'⟩:∃ z,z = p.m:=⟨_,rfl⟩
 obtain ⟨W1,hW1⟩:∃ W,W = w.alloc (.cells #[.int .i64 k,.int .i64 n,.int .i64 m,.slice A nk c] 25):=⟨_,rfl⟩
 have hb1:Below w.heap.size w W1:=by rw [hW1]; exact below_new _ _
 have k1:Blk W1 z 25 #[.int .i64 k,.int .i64 n,.int .i64 m,.slice A nk c]:=by rw [hW1,hz]; exact Blk.new _ _ _
 have HCL:Hid (∀ W,Below W1.heap.size W1 W→W.cell? ⟨z,0,none⟩ = some (.int .i64 k)∧W.cell? ⟨z,1,none⟩ = some (.int .i64 n)∧W.cell? ⟨z,2,none⟩ = some (.int .i64 m)∧W.cell? ⟨z,3,none⟩ = some (.slice A nk c)):=Lib.hid fun W hb=>by
  have e:=k1.below hb k1.lt
  exact ⟨e.cell 0,e.cell 1,e.cell 2,e.cell 3⟩
 obtain ⟨l,hl⟩:∃ l,l = (chk p).1:=⟨_,rfl⟩
 obtain ⟨er,her⟩:∃ er,er = (chk p).2:=⟨_,rfl⟩
 obtain ⟨nl,hnl⟩:∃ nl,nl = l.length:=⟨_,rfl⟩
 have HC:Hid (∀ W,Below W1.heap.size W1 W→Calls Tryd.prog 33 #[.agg #[.int .i64 k,.int .i64 n,.int .i64 m,.slice A nk c]] W fun e w'=>∃ A' c',e = .returned (.tuple #[.slice A' nl c',.int .i64 er])∧Reads w' w'.heap.size 1 A' nl (vi l)∧Below W.heap.size W w'):=Lib.hid fun W hb=>by
  have h:=check_is (d + 2) p A c W (rep_next hr (bt hb1 hb)) hD hsz (hT.below (bt hb1 hb) hg) (Nat.lt_of_lt_of_le hg (bt hb1 hb).size)
  rw [← hnk,← hk,← hn,← hm'] at h
  refine h.mono ?_
  rintro e w' ⟨A',c',h1,h2,h3⟩
  rw [← hl,← her,← hnl] at h1
  rw [← hl,← hnl] at h2
  exact ⟨A',c',h1,h2.1,h3⟩
 have HCR:Hid (∀ W,Below W1.heap.size W1 W→Calls Tryd.prog 45 #[.agg #[.int .i64 k,.int .i64 n,.int .i64 m,.slice A nk c]] W fun e w'=>∃ A' c',e = .returned (.tuple #[.slice A' nl c',.int .i64 er])∧Reads w' w'.heap.size 1 A' nl (vi l)∧Below W.heap.size W w'):=Lib.hid fun W hb=>by
  have h:=rcheck_is d p A c W (rep_next hr (bt hb1 hb)) hsz
  rw [← hnk,← hk,← hn,← hm'] at h
  refine h.mono ?_
  rintro e w' ⟨A',c',h1,h2,h3⟩
  rw [← hl,← her,← hnl] at h1
  rw [← hl,← hnl] at h2
  exact ⟨A',c',h1,h2.1,h3⟩
 have hll:l.length≤1000000:=by
  rw [hl]
  by_cases hp:isProg p = true
  ·rcases chk_first hp with ⟨h1,_⟩ | ⟨_,l1,l2,e1,_,_⟩
   ·rw [h1]; exact Nat.zero_le _
   ·exact Nat.le_trans (path_le p _ (by rw [e1]; simp)) hsz
  ·unfold chk; rw [if_neg hp]; exact Nat.zero_le _
 have HS:Hid (∀ (W:World) (A' B':Option Addr) (c' d':Nat),Reads W W.heap.size 1 A' nl (vi l)→Reads W W.heap.size 1 B' nl (vi l)→Calls Tryd.prog 35 #[.slice A' nl c',.slice B' nl d'] W fun e w'=>e = .returned (.bool true)∧Below W.heap.size W w'):=Lib.hid fun W A' B' c' d' h1 h2=>by
  rw [hnl] at h1 h2 ⊢
  exact sameInts_is l l (Lt W.heap.size) A' B' c' d' W h1 h2 (In.lt _) hll hll _ (by simp)
 have HW1:=Lib.hid hW1
 have HZ:=Lib.hid hz
 have HB1:=Lib.hid hb1
 rw [← hnk,← hk,← hn,← hm']
 obtain ⟨y0,y1,y2,y3⟩:=HCL.out W1 (Below.refl _ _)
 clear hr hsz hT hg hz hnk hk hn hm' hW1 hb1 k1 hl her hnl hll hD
 go_enter Tryd.func15,Tryd.ntmps15
 go_upto_region 1 with fail
 rw [← HW1.out]
 try rw [← HZ.out]
 go_wp2_with (first
  | (go_at_call 33; refine (HC.out _ (Below.refl _ _)).mono ?_; rintro e w2 ⟨A2,c2,rfl,h1,h2⟩; have HB2:=Lib.hid h2; have HR2:=Lib.hid h1; clear h1 y0 y1 y2 y3; obtain ⟨x0,x1,x2,x3⟩:=HCL.out _ h2; clear h2)
  | (go_at_call 45; refine (HCR.out _ HB2.out).mono ?_; rintro e w3 ⟨A3,c3,rfl,h1,h2⟩; have HB3:=Lib.hid (bt HB1.out (bt HB2.out h2)); have HR3:=Lib.hid h1; have HR2b:=Lib.hid ((HR2.out.below h2).more h2.size); clear h1 h2 x0 x1 x2 x3)
  | (go_at_call 35; refine (HS.out _ _ _ _ _ HR2b.out HR3.out).mono ?_; rintro e w4 ⟨rfl,hb4⟩; have HB4:=Lib.hid (bt HB3.out hb4); clear hb4))
 go_ret
 exact ⟨rfl,HB4.out⟩
end Go.Proofs.YtkkenbalpnmfmaaDoor

namespace Go.Proofs.YtkkenbalpnmfmaaDoor.TY
open TR
def single (u:T):Bool:=scal u.k && (u.n == 0 && (u.m == 0 && ((u.kids.length:Int) == 0)))
def isArr (u:T):Bool:=(u.k == 2) && (decide (1≤u.n) && (decide (u.n≤4) && (u.m == 0 && ((u.kids.length:Int) == 0))))
def recHead (u:T):Bool:=!(u.k != 3) && (!(u.n != 0) && (!(u.m != 0) && (!((u.kids.length:Int) == 0) && !decide ((3:Int) < (u.kids.length:Int)))))
def isRec (u:T):Bool:=recHead u && u.kids.all single
def words (u:T):Int:=if single u then 1 else if isArr u then u.n else if isRec u then u.kids.length else -1
end Go.Proofs.YtkkenbalpnmfmaaDoor.TY
namespace Go.Proofs.YtkkenbalpnmfmaaDoor
open Go.RowKit WM TR TY

set_option maxHeartbeats 4000000 in
theorem isSingle_is (u:T) (A:Option Addr) (c:Nat) (w:World):Calls Tryd.prog 56 #[.agg #[.int .i64 u.k,.int .i64 u.n,.int .i64 u.m,.slice A u.kids.length c]] w fun e w'=>e = .returned (.bool (single u))∧Below w.heap.size w w':=by
 obtain ⟨nk,hnk⟩:∃ z,z = u.kids.length:=⟨_,rfl⟩
 obtain ⟨k,hk⟩:∃ z,z = u.k:=⟨_,rfl⟩
 obtain ⟨n,hn⟩:∃ z,z = u.n:=⟨_,rfl⟩
 obtain ⟨m,hm⟩:∃ z,z = u.m:=⟨_,rfl⟩
 obtain ⟨b1,h1⟩:∃ b,scal k = b:=⟨_,rfl⟩
 obtain ⟨b2,h2⟩:∃ b,(n == 0) = b:=⟨_,rfl⟩
 obtain ⟨b3,h3⟩:∃ b,(m == 0) = b:=⟨_,rfl⟩
 obtain ⟨b4,h4⟩:∃ b,((nk:Int) == 0) = b:=⟨_,rfl⟩
 obtain ⟨r,hr⟩:∃ r,r = single u:=⟨_,rfl⟩
 have HR:Hid (r = (b1 && (b2 && (b3 && b4)))):=Lib.hid (by rw [hr]; unfold single; rw [← hk,← hn,← hm,← hnk,h1,h2,h3,h4])
 have HSC:Hid (∀ W,Calls Tryd.prog 79 #[.int .i64 k] W fun e w'=>e = .returned (.bool b1)∧W = w'):=Lib.hid fun W=>by
  have h:=isScalar_is k W
  rw [h1] at h
  exact h
 rw [← hk,← hn,← hm,← hnk,← hr]
 clear hk hn hm hnk hr h1
 cases b1 <;> cases b2 <;> cases b3 <;> cases b4
 all_goals
  go_enter Tryd.func56,Tryd.ntmps56
  go_wp2_with (go_at_call 79; refine (HSC.out _).mono ?_; rintro e w2 ⟨rfl,rfl⟩)
  go_ret
  exact ⟨ret_b (by rw [HR.out]; rfl),below_new _ _⟩
set_option maxHeartbeats 4000000 in
theorem isArray_is (u:T) (A:Option Addr) (c:Nat) (w:World):Calls Tryd.prog 57 #[.agg #[.int .i64 u.k,.int .i64 u.n,.int .i64 u.m,.slice A u.kids.length c]] w fun e w'=>e = .returned (.bool (isArr u))∧Below w.heap.size w w':=by
 obtain ⟨nk,hnk⟩:∃ z,z = u.kids.length:=⟨_,rfl⟩
 obtain ⟨k,hk⟩:∃ z,z = u.k:=⟨_,rfl⟩
 obtain ⟨n,hn⟩:∃ z,z = u.n:=⟨_,rfl⟩
 obtain ⟨m,hm⟩:∃ z,z = u.m:=⟨_,rfl⟩
 obtain ⟨b1,h1⟩:∃ b,(k == 2) = b:=⟨_,rfl⟩
 obtain ⟨b5,h5⟩:∃ b,decide (1≤n) = b:=⟨_,rfl⟩
 obtain ⟨b2,h2⟩:∃ b,decide (n≤4) = b:=⟨_,rfl⟩
 obtain ⟨b3,h3⟩:∃ b,(m == 0) = b:=⟨_,rfl⟩
 obtain ⟨b4,h4⟩:∃ b,((nk:Int) == 0) = b:=⟨_,rfl⟩
 obtain ⟨r,hr⟩:∃ r,r = isArr u:=⟨_,rfl⟩
 have HR:Hid (r = (b1 && (b5 && (b2 && (b3 && b4))))):=Lib.hid (by rw [hr]; unfold isArr; rw [← hk,← hn,← hm,← hnk,h1,h2,h3,h4,h5])
 rw [← hk,← hn,← hm,← hnk,← hr]
 clear hk hn hm hnk hr
 cases b1 <;> cases b5 <;> cases b2 <;> cases b3 <;> cases b4
 all_goals
  go_enter Tryd.func57,Tryd.ntmps57
  go_wp2_with fail
  go_ret
  exact ⟨ret_b (by rw [HR.out]; rfl),below_new _ _⟩
end Go.Proofs.YtkkenbalpnmfmaaDoor
