/- Texts joined. -/
import Derived.Test.YtkkenbalpnmfmaaDoorH43
import Derived.Deep.DeepCutAuto
import Derived.Deep.RegionHeld2
import Derived.Deep.RegionHeld3
set_option linter.unusedVariables false
namespace Go.Proofs.YtkkenbalpnmfmaaDoor
open Go.RowKit WM TR

theorem below_adrew (w:World) (o:Obj):Below w.heap.size w (w.alloc o).drew:=(below_new w o).drew
theorem undrew {w w':World} (h:Below w.drew.heap.size w.drew w'):Below w.heap.size w w':=bt (a:=w) (w:=w.drew) (Below.refl _ _).drew h
theorem adrew_lt (w:World) (o:Obj):w.heap.size < ((w.alloc o).drew).heap.size:=by
  show w.heap.size < (w.alloc o).heap.size
  rw [size_alloc]; omega
set_option maxRecDepth 100000 in
set_option maxHeartbeats 4000000 in
theorem set_some (j : Nat) (p : List Int) (ih : SetC p) (d dx : Nat) (t x v : T) (S : Nat → Prop) (A P X : Option Addr) (c pc xc n : Nat) (w : World) (hn : n = p.length) (ht : Rep w S (d + 1) t (nd t A c)) (hx : Rep w S dx x (nd x X xc)) (hp : Rd w S 1 P (n + 1) (vi ((j : Int) :: p))) (hin : In S w.heap.size) (hpc : n + 1 ≤ pc) (hst : size t ≤ 1000000) (hpl : n ≤ 9223372036854775807)
    (hv:t.kids[j]? = some v) :
    Calls Tryd.prog 41 #[.agg #[.int .i64 t.k,.int .i64 t.n,.int .i64 t.m,.slice A t.kids.length c],.slice P (n + 1) pc,.agg #[.int .i64 x.k,.int .i64 x.n,.int .i64 x.m,.slice X x.kids.length xc]] w (SetPost (set? ((j:Int) :: p) t x) S w):=by
  obtain ⟨b,off,hP,hbS,hcell⟩:=hp.lit (by omega)
  have hb:b < w.heap.size:=hin b hbS
  subst hP
  have hc0:w.cell? ⟨b,off,none⟩ = some (.int .i64 (j:Int)):=hcell 0 (.int .i64 (j:Int)) rfl
  have hcap:=ht.cap
  obtain ⟨l,hl⟩:∃ l,l = t.kids.length:=⟨_,rfl⟩
  have hkl:t.kids.length≤1000000:=by have:=kids_lt t; omega
  have hjl:j < l:=by rw [hl]; exact (List.getElem?_eq_some_iff.1 hv).1
  rw [← hl] at hcap hkl ⊢
  obtain ⟨b1,o1,A1,c1,hA1,hb1S,hcl1,hr1⟩:=ht.kid hv
  have hb1:=hin _ hb1S
  subst hA1
  have hsv:size v≤1000000:=by have:=size_kid hv; omega
  have htl:=Rd.cut1 hp hpc
  have hcut:=cut1 b off (n + 1) pc (by omega)
  obtain ⟨P',hP'⟩:∃ P',P' = (if pc = 1 then some (⟨b,off,none⟩:Addr) else some ⟨b,off + 1,none⟩):=⟨_,rfl⟩
  rw [← hP'] at hcut htl
  have hpc1:n≤pc - 1:=by omega
  have HTL:=Lib.hid htl
  have HR1:=Lib.hid hr1
  have HX:=Lib.hid hx
  have HT:=Lib.hid ht
  have HI:=Lib.hid hin
  have HV:=Lib.hid hv
  have HL:=Lib.hid hl
  have HN:=Lib.hid hn
  have HIH:Hid (∀ (d dx:Nat) (t x:T) (S:Nat→Prop) (A P X:Option Addr) (c pc xc n:Nat) (w:World),n = p.length→Rep w S d t (nd t A c)→Rep w S dx x (nd x X xc)→Rd w S 1 P n (vi p)→In S w.heap.size→n≤pc→size t≤1000000→n≤9223372036854775807 →
    Calls Tryd.prog 41 #[.agg #[.int .i64 t.k,.int .i64 t.n,.int .i64 t.m,.slice A t.kids.length c],.slice P n pc,.agg #[.int .i64 x.k,.int .i64 x.n,.int .i64 x.m,.slice X x.kids.length xc]] w (SetPost (set? p t x) S w)):=Lib.hid ih
  have hd:decide ((j:Int) < 0) = false:=by simp
  have hd2:decide ((l:Int)≤j) = false:=by simp; omega
  have hij:(0:Int)≤j∧(j:Int) < l:=⟨by omega,by omega⟩
  clear hn hl hp hcell hin ht hx hbS hb1S hv hr1 htl hP' ih
  go_enter Tryd.func41,Tryd.ntmps41
  go_wp2_with fail
  obtain ⟨W1,hW1⟩:∃ W1,W1 = (((w.alloc (.cells #[.int .i64 t.k,.int .i64 t.n,.int .i64 t.m,.slice (some ⟨b1,o1,none⟩) l c] 25)).alloc (.cells #[.int .i64 x.k,.int .i64 x.n,.int .i64 x.m,.slice X x.kids.length xc] 25)).alloc (.cells #[.int .i64 0,.int .i64 0,.int .i64 0,.slice none 0 0] 25)):=⟨_,rfl⟩
  have HB1:Hid (Below w.heap.size w W1):=Lib.hid (by rw [hW1]; exact ba (ba (below_new _ _) _) _)
  have HO1:Hid (Blk W1 (w.heap.size + 1 + 1) 25 #[.int .i64 0,.int .i64 0,.int .i64 0,.slice none 0 0]):=Lib.hid (by rw [hW1]; exact Blk.new_at _ _ (by simp) rfl)
  have HXB1:Hid (Blk W1 (w.heap.size + 1) 25 #[.int .i64 x.k,.int .i64 x.n,.int .i64 x.m,.slice X x.kids.length xc]):=Lib.hid (by rw [hW1]; exact (Blk.new_at _ _ (by simp) rfl).alloc _)
  have HTB1:Hid (Blk W1 w.heap.size 25 #[.int .i64 t.k,.int .i64 t.n,.int .i64 t.m,.slice (some ⟨b1,o1,none⟩) l c]):=Lib.hid (by rw [hW1]; exact ((Blk.new w _ _).alloc _).alloc _)
  have hz1:W1.heap.size = w.heap.size + 3:=by rw [hW1]; simp
  have hc3:W1.cell? ⟨w.heap.size,3,none⟩ = some (.slice (some ⟨b1,o1,none⟩) l c):=HTB1.out.cell 3
  have hc0':W1.cell? ⟨b,off,none⟩ = some (.int .i64 (j:Int)):=(HB1.out.cell (p:=⟨b,off,none⟩) hb).trans hc0
  have hp0:=hc0
  have HP0:=Lib.hid hp0
  rw [← hW1]
  clear hW1 hc0 hp0
  go_quiet (fail)
  go_wp2_with fail
  obtain ⟨W2,hW2⟩:∃ W2,W2 = W1.drewN nq:=⟨_,rfl⟩
  have HB2p:Hid (Below w.heap.size w W2):=Lib.hid (by rw [hW2]; exact below_drewN HB1.out _)
  have HO2p:Hid (Blk W2 (w.heap.size + 1 + 1) 25 #[.int .i64 0,.int .i64 0,.int .i64 0,.slice none 0 0]):=Lib.hid (by rw [hW2]; exact HO1.out.drewN _)
  have HXB2p:Hid (Blk W2 (w.heap.size + 1) 25 #[.int .i64 x.k,.int .i64 x.n,.int .i64 x.m,.slice X x.kids.length xc]):=Lib.hid (by rw [hW2]; exact HXB1.out.drewN _)
  have HTB2p:Hid (Blk W2 w.heap.size 25 #[.int .i64 t.k,.int .i64 t.n,.int .i64 t.m,.slice (some ⟨b1,o1,none⟩) l c]):=Lib.hid (by rw [hW2]; exact HTB1.out.drewN _)
  have hz2:W2.heap.size = w.heap.size + 3:=by rw [hW2]; exact hz1
  rw [← hW2]
  clear hW2 hc3 hc0' HB1 HO1 HXB1 HTB1 hz1
  have HZ2:=Lib.hid hz2
  clear hz2
  have HK : Hid (∀ W', Below W2.heap.size W2 W' → W'.cell? ⟨w.heap.size, 3, none⟩ = some (.slice (some ⟨b1, o1, none⟩) l c) ∧ W'.cell? ⟨b, off, none⟩ = some (.int .i64 (j : Int)) ∧
      W'.cell? ⟨b1,o1 + j * 4,none⟩ = some (.int .i64 v.k)∧W'.cell? ⟨b1,o1 + j * 4 + 1,none⟩ = some (.int .i64 v.n)∧W'.cell? ⟨b1,o1 + j * 4 + 2,none⟩ = some (.int .i64 v.m)∧W'.cell? ⟨b1,o1 + j * 4 + 3,none⟩ = some (.slice A1 v.kids.length c1) ∧
      W'.cell? ⟨w.heap.size + 1,0,none⟩ = some (.int .i64 x.k)∧W'.cell? ⟨w.heap.size + 1,1,none⟩ = some (.int .i64 x.n)∧W'.cell? ⟨w.heap.size + 1,2,none⟩ = some (.int .i64 x.m)∧W'.cell? ⟨w.heap.size + 1,3,none⟩ = some (.slice X x.kids.length xc)):=Lib.hid (fun W' h=>by
    have h':=bt HB2p.out h
    have hx:=HXB2p.out.below h HXB2p.out.lt
    have hkid:=fun (i:Nat) (y:Value) (hy:(nd v A1 c1)[i]? = some y)=>(h'.cell (p:=⟨b1,o1 + j * 4 + i,none⟩) hb1).trans (hcl1 i y hy)
    exact ⟨(HTB2p.out.below h HTB2p.out.lt).cell 3,(h'.cell (p:=⟨b,off,none⟩) hb).trans HP0.out,hkid 0 _ rfl,hkid 1 _ rfl,hkid 2 _ rfl,hkid 3 _ rfl,hx.cell 0,hx.cell 1,hx.cell 2,hx.cell 3⟩)
  have HS:Hid (∀ W',Below W2.heap.size W2 W'→Calls Tryd.prog 41 #[.agg #[.int .i64 v.k,.int .i64 v.n,.int .i64 v.m,.slice A1 v.kids.length c1],.slice P' n (pc - 1),.agg #[.int .i64 x.k,.int .i64 x.n,.int .i64 x.m,.slice X x.kids.length xc]] W' (SetPost (set? p v x) S W')):=Lib.hid (fun W' h=>by
    have h':=bt HB2p.out h
    exact HIH.out d dx v x S A1 P' X c1 (pc - 1) xc n W' HN.out (HR1.out.later HI.out h') (HX.out.later HI.out h') (HTL.out.keep (Keeps.below HI.out h')) (HI.out.more h'.size) hpc1 hsv hpl)
  have hbc:Below W2.heap.size W2 W2.drew:=(Below.refl _ _).drew
  have hmo:Tryd.prog.follows .mixedOrders = true:=by kernel_rfl
  clear hcl1 hb1
  go_cut [8,9] (fun s8 s9 wv=>∃ V:World,V = wv∧SetCut (set? p v x) S (w.heap.size + 3) W2 s8 s9 V)
  case first =>
    refine wp_region_noPanic ?_
    go_region_held2 (fun W'=>W'.cell? ⟨w.heap.size,3,none⟩ = some (.slice (some ⟨b1,o1,none⟩) l c)∧W'.cell? ⟨b,off,none⟩ = some (.int .i64 (j:Int)) ∧
      W'.cell? ⟨b1,o1 + j * 4,none⟩ = some (.int .i64 v.k)∧W'.cell? ⟨b1,o1 + j * 4 + 1,none⟩ = some (.int .i64 v.n)∧W'.cell? ⟨b1,o1 + j * 4 + 2,none⟩ = some (.int .i64 v.m)∧W'.cell? ⟨b1,o1 + j * 4 + 3,none⟩ = some (.slice A1 v.kids.length c1) ∧
      W'.cell? ⟨w.heap.size + 1,0,none⟩ = some (.int .i64 x.k)∧W'.cell? ⟨w.heap.size + 1,1,none⟩ = some (.int .i64 x.n)∧W'.cell? ⟨w.heap.size + 1,2,none⟩ = some (.int .i64 x.m)∧W'.cell? ⟨w.heap.size + 1,3,none⟩ = some (.slice X x.kids.length xc))
      (first | exact HK.out _ hbc | exact HK.out _ (ba hbc _) | exact HK.out _ (below_adrew _ _) | exact HK.out _ (put4_below hbc _ _ _ _))
      (first
      | (go_at_call 41; refine (HS.out _ hbc).mono ?_; rintro e w3 ⟨u,A',c',D,hu,rfl,hru,hbw⟩; replace hbc:=bt hbc hbw)
      | (go_at_call 41; refine (HS.out _ (below_adrew _ _)).mono ?_; rintro e w3 ⟨u,A',c',D,hu,rfl,hru,hbw⟩; have hz0:=(Blk.drew (Blk.new W2 25 #[.int .i64 0,.int .i64 0,.int .i64 0,.slice none 0 0])).below hbw (adrew_lt _ _); replace hbc:=bt (below_adrew _ _) hbw; have z0:=hz0.cell 0; have z1:=hz0.cell 1; have z2:=hz0.cell 2; have z3:=hz0.cell 3; have f0:=hz0.frozen 0; have f1:=hz0.frozen 1; have f2:=hz0.frozen 2; have f3:=hz0.frozen 3))
    all_goals
      refine NoPanic.normal ?_
      go_wp2_with fail
      go_meet
      first
        | exact ⟨_,rfl,SetCut.early (cs:=[.int .i64 0,.int .i64 0,.int .i64 0,.slice none 0 0]) (HI.out.more (Nat.le_add_right _ _)) HZ2.out hu hru (undrew hbw) hz0 rfl⟩
        | exact ⟨_,rfl,SetCut.late (HI.out.more (Nat.le_add_right _ _)) HZ2.out hu hru hbc⟩
  case rest =>
    obtain ⟨wx,hwx,gk,u,A2,c2,D2,rfl,rfl,hu,hbk,hgk,hru,hbw⟩:=hcut
    subst hwx
    have hbw':Below W2.heap.size W2 wx:=by rw [HZ2.out]; exact hbw
    have hO:=HO2p.out.below hbw' HO2p.out.lt
    have hTb:=HTB2p.out.below hbw' HTB2p.out.lt
    have HBX:Hid (Below w.heap.size w wx):=Lib.hid (bt HB2p.out hbw')
    cases ho:set? p v x with
    | none =>
      have hnone:set? ((j:Int) :: p) t x = none:=by
        simp only [set?]
        rw [if_neg (by omega)]
        simp only [Int.toNat_natCast,HV.out,ho]
      have HNO:=Lib.hid hnone
      have hco:codeOf (none:Option T) = 6:=rfl
      rw [hco]
      have r0:=hO.cell 0
      have r1:=hO.cell 1
      have r2:=hO.cell 2
      have r3:=hO.cell 3
      have f0:=hO.frozen 0
      have f1:=hO.frozen 1
      have f2:=hO.frozen 2
      have f3:=hO.frozen 3
      simp only [List.getElem?_toArray,List.getElem?_cons_zero,List.getElem?_cons_succ] at r0 r1 r2 r3
      clear hO hTb hbk hgk hru hbw hbw' hu hbc HK HS hnone hco ho
      go_wp2_with fail
      refine bodyPost_ret (v:=.tuple #[.agg #[.int .i64 0,.int .i64 0,.int .i64 0,.slice none 0 0],.int .i64 6]) (by simp [results,Tryd.results41,go_sem,r0,r1,r2,r3]) rfl ⟨zeroT,none,0,1,by rw [HNO.out]; rfl,by rw [HNO.out]; rfl,Rep.leaf in0 in0 in0 _ _,?_⟩
      exact put4_below HBX.out _ _ _ _ (Nat.le_add_right w.heap.size 2)
    | some v' =>
      have hvu:v' = u:=by rw [← hu,ho]; rfl
      subst hvu
      have HSOME:Hid (set? ((j:Int) :: p) t x = some ⟨t.k,t.n,t.m,t.kids.set j v'⟩):=Lib.hid (by
        simp only [set?]
        rw [if_neg (by omega)]
        simp only [Int.toNat_natCast,HV.out,ho])
      have hco:codeOf (some v') = 0:=rfl
      rw [hco]
      have HTL2:Hid (∀ i z,([.int .i64 t.k,.int .i64 t.n,.int .i64 t.m,.slice (some ⟨b1,o1,none⟩) l c]:List Value)[i]? = some z→wx.cell? ⟨w.heap.size,0 + i,none⟩ = some z):=Lib.hid (fun i z hz=>by
        rw [hTb.cell (0 + i),Nat.zero_add]; simpa using hz)
      have HOX:=Lib.hid hO
      have HTX:=Lib.hid hTb
      have HBK:=Lib.hid hbk
      have HRU:=Lib.hid hru
      have HGK:=Lib.hid hgk
      have HBW:=Lib.hid hbw'
      clear hO hTb hbk hgk hru hbw hbw' hu hbc HK HS hco ho
      go_wp2_with (first
        | (refine wpList_load_mid rfl 25 (.tmp 3) rfl w.heap.size 0 rfl [.int .i64 t.k,.int .i64 t.n,.int .i64 t.m,.slice (some ⟨b1,o1,none⟩) l c] _ HTL2.out Tryd.underlying25 rfl (by rw [size_node]; rfl) ?_))
      have HLT:=Lib.hid (show w.heap.size + 3≤wx.heap.size by have:=HBW.out.size; have:=HZ2.out; omega)
      have HTS:Hid ((t.kids.set j v')[j]? = some v'):=Lib.hid (by rw [List.getElem?_set]; have:=(List.getElem?_eq_some_iff.1 HV.out).1; simp [this])
      have HTN:Hid (∀ m:Nat,m≠j→(t.kids.set j v')[m]? = t.kids[m]?):=Lib.hid (fun m hm=>List.getElem?_set_ne (fun e=>hm e.symm))
      have HTLN:Hid ((t.kids.set j v').length = l):=Lib.hid (by rw [List.length_set,HL.out])
      have HRX:Hid (Rep wx (fun b=>S b∨(w.heap.size + 3≤b∧b < wx.heap.size)) (max d D2) v' (nd v' A2 c2)):=Lib.hid ((HRU.out.mono fun b hb=>by
        rcases hb with hb | hb
        · exact .inl hb
        · exact .inr ⟨hb.1,hb.2.1⟩).deeper (Nat.le_max_right _ _))
      have HRT:Hid (Rep wx (fun b=>S b∨(w.heap.size + 3≤b∧b < wx.heap.size)) (d + 1) t (nd t (some ⟨b1,o1,none⟩) c)):=Lib.hid ((HT.out.later HI.out HBX.out).mono fun b hb=>.inl hb)
      obtain ⟨i0,hi,hz0,hz1,hz2⟩:=info_parts node_info
      clear HRU
      go_loopw [11] (fun i wr=>∃ (m:Nat) (va:Value) (xs:List Value),m≤l∧i = .int .i64 m∧Hid (SetR wx (fun b=>S b∨(w.heap.size + 3≤b∧b < wx.heap.size)) wx.heap.size (max d D2) m t.k t.n t.m (t.kids.set j v') va xs wr)) (fun i _=>l - (intOf i).toNat)
      case atStart=>exact ⟨0,_,_,Nat.zero_le _,rfl,SetR.first wx _ _ t _⟩
      case round =>
        obtain ⟨m,va,xs,hm,rfl,HR⟩:=hrel
        have hbx:=HR.out.1
        have hn3:=HR.out.2.1.cell 3
        have f3:=HR.out.2.1.frozen 3
        simp only [List.getElem?_toArray,List.getElem?_cons_zero,List.getElem?_cons_succ] at hn3
        have hTw:=HTX.out.below hbx HTX.out.lt
        have ht3:=hTw.cell 3
        simp only [List.getElem?_toArray,List.getElem?_cons_zero,List.getElem?_cons_succ] at ht3
        have hp0:wr.cell? ⟨b,off,none⟩ = some (.int .i64 (j:Int)):=((bt HBX.out hbx).cell (p:=⟨b,off,none⟩) hb).trans HP0.out
        have HBR:=Lib.hid hbx
        by_cases hlt:m < l
        · by_cases hmj:m = j
          · subst hmj
            have HGL:Hid (∀ i z,([.int .i64 v'.k,.int .i64 v'.n,.int .i64 v'.m,.slice A2 v'.kids.length c2]:List Value)[i]? = some z→wr.cell? ⟨gk,0 + i,none⟩ = some z):=Lib.hid (fun i z hz=>by
              rw [(HBK.out.below hbx HBK.out.lt).cell (0 + i),Nat.zero_add]; simpa using hz)
            have HOW:Hid ((wr.alloc (.cells #[.int .i64 v'.k,.int .i64 v'.n,.int .i64 v'.m,.slice A2 v'.kids.length c2] 25)).ownsRow (wx.heap.size + 1) 25 4 va m xs):=Lib.hid (HR.out.2.2.1.alloc _)
            have HNS:Hid (wx.heap.size + 1≤(wr.alloc (.cells #[.int .i64 v'.k,.int .i64 v'.n,.int .i64 v'.m,.slice A2 v'.kids.length c2] 25)).heap.size):=Lib.hid (by have:=hbx.size; rw [size_alloc]; omega)
            clear hbx hTw
            go_wp2_with (first
              | (refine wpList_load_mid rfl 25 (.tmp 8) rfl gk 0 rfl [.int .i64 v'.k,.int .i64 v'.n,.int .i64 v'.m,.slice A2 v'.kids.length c2] _ HGL.out Tryd.underlying25 rfl (by rw [size_node]; rfl) ?_)
              | (at_builtin; refine wpList_append_any _ rfl (.tmp 63) (.tmp 65) 23 rfl (wx.heap.size + 1) 25 i0 _ 4 48 Tryd.underlying23 hi hz0 hz1 hz2 rfl (by omega) _ _ _ rfl HOW.out _ (some ⟨wr.heap.size, 0, none⟩) 1 1 (nd v' A2 c2) rfl (reads_nd wr v' A2 c2) (nd_one v' A2 c2) (len_le (by omega)) (by omega) HNS.out ?_
                 intro v4 w4 hown4 hgrow4 hnew4
                 obtain ⟨A4,c4,hv4,hcap4⟩:=own_len hown4
                 subst hv4
                 have HO4:=Lib.hid hown4
                 have HG4:=Lib.hid hgrow4
                 have hNB:=(HR.out.2.1.alloc (.cells #[.int .i64 v'.k,.int .i64 v'.n,.int .i64 v'.m,.slice A2 v'.kids.length c2] 25)).grown hgrow4 (fun e=>by have:=(HR.out.2.2.1.lt _ e.symm).1; omega)
                 have hn44:=hNB.cell 3
                 have f44:=hNB.frozen 3
                 simp only [List.getElem?_toArray,List.getElem?_cons_zero,List.getElem?_cons_succ] at hn44
                 clear hown4 hgrow4 hnew4 hNB))
            go_roundw
            case rel=>exact ⟨m + 1,_,_,by omega,by go_num,SetR.next HR.out (Nat.le_refl _) HTS.out HRX.out (below_new _ _) HO4.out HG4.out⟩
            case measure=>simp [intOf]; omega
          · have hne:((m:Int) == (j:Int)) = false:=by simp; omega
            obtain ⟨km,hkm⟩:∃ km,t.kids[m]? = some km:=⟨_,List.getElem?_eq_getElem (by rw [← HL.out]; exact hlt)⟩
            obtain ⟨b3,o3,Ak,ck,hA3,hS3,hc3,hrk⟩:=HRT.out.kid hkm
            cases hA3
            have hb3:b1 < wx.heap.size:=by
              rcases hS3 with h | h
              · exact Nat.lt_of_lt_of_le (HI.out _ h) HBX.out.size
              · exact h.2
            have HRK:=Lib.hid (hrk.deeper (Nat.le_max_left d D2))
            have HTM:Hid ((t.kids.set j v')[m]? = some km):=Lib.hid (by rw [HTN.out m hmj,hkm])
            have hij2:(0:Int)≤m∧(m:Int) < l:=⟨by omega,by omega⟩
            have HK:Hid (∀ W',Below wx.heap.size wx W'→W'.cell? ⟨w.heap.size,3,none⟩ = some (.slice (some ⟨b1,o1,none⟩) l c)∧W'.cell? ⟨b1,o1 + m * 4,none⟩ = some (.int .i64 km.k)∧W'.cell? ⟨b1,o1 + m * 4 + 1,none⟩ = some (.int .i64 km.n)∧W'.cell? ⟨b1,o1 + m * 4 + 2,none⟩ = some (.int .i64 km.m)∧W'.cell? ⟨b1,o1 + m * 4 + 3,none⟩ = some (.slice Ak km.kids.length ck)):=Lib.hid (fun W' h=>by
              have hk:=fun (i:Nat) (y:Value) (hy:(nd km Ak ck)[i]? = some y)=>(h.cell (p:=⟨b1,o1 + m * 4 + i,none⟩) hb3).trans (hc3 i y hy)
              exact ⟨(HTX.out.below h HTX.out.lt).cell 3,hk 0 _ rfl,hk 1 _ rfl,hk 2 _ rfl,hk 3 _ rfl⟩)
            have hbc:Below wx.heap.size wx wr.drew:=hbx.drew
            have HBA:Hid (Below wx.heap.size wx (wr.alloc (.cells #[.int .i64 km.k,.int .i64 km.n,.int .i64 km.m,.slice Ak km.kids.length ck] 25)).drew):=Lib.hid (ba hbx _).drew
            have hn3d:wr.drew.cell? ⟨wx.heap.size,3,none⟩ = some va:=hn3
            have hn3a:(wr.alloc (.cells #[.int .i64 km.k,.int .i64 km.n,.int .i64 km.m,.slice Ak km.kids.length ck] 25)).drew.cell? ⟨wx.heap.size,3,none⟩ = some va:=by
              have h:=((HR.out.2.1.alloc (.cells #[.int .i64 km.k,.int .i64 km.n,.int .i64 km.m,.slice Ak km.kids.length ck] 25)).drew).cell 3
              simpa using h
            have HOW:Hid ((wr.alloc (.cells #[.int .i64 km.k,.int .i64 km.n,.int .i64 km.m,.slice Ak km.kids.length ck] 25)).drew.ownsRow (wx.heap.size + 1) 25 4 va m xs):=Lib.hid (HR.out.2.2.1.alloc _).drew
            have HNS:Hid (wx.heap.size + 1≤(wr.alloc (.cells #[.int .i64 km.k,.int .i64 km.n,.int .i64 km.m,.slice Ak km.kids.length ck] 25)).drew.heap.size):=Lib.hid (by
              show wx.heap.size + 1≤(wr.alloc (.cells #[.int .i64 km.k,.int .i64 km.n,.int .i64 km.m,.slice Ak km.kids.length ck] 25)).heap.size
              have:=hbx.size; rw [size_alloc]; omega)
            have HRD:Hid (Reads (wr.alloc (.cells #[.int .i64 km.k,.int .i64 km.n,.int .i64 km.m,.slice Ak km.kids.length ck] 25)).drew (wr.heap.size + 1) 4 (some ⟨wr.heap.size,0,none⟩) 1 (nd km Ak ck)):=Lib.hid (reads_nd wr km Ak ck)
            have HNB:Hid (Blk (wr.alloc (.cells #[.int .i64 km.k,.int .i64 km.n,.int .i64 km.m,.slice Ak km.kids.length ck] 25)).drew wx.heap.size 25 #[.int .i64 t.k,.int .i64 t.n,.int .i64 t.m,va]):=Lib.hid (HR.out.2.1.alloc _).drew
            clear hbx hTw hkm hc3 hrk hS3 hn3 f3
            go_wp2_with fail
            obtain ⟨q0,q1,q2,q3,q4⟩:=HK.out _ hbc
            go_region_law
              (first
              | (refine step_append_any _ rfl (.tmp 69) (.tmp 75) 23 rfl (wx.heap.size + 1) 25 i0 _ 4 48 Tryd.underlying23 hi hz0 hz1 hz2 rfl (by omega) _ _ _ rfl HOW.out _ (some ⟨wr.heap.size, 0, none⟩) 1 1 (nd km Ak ck) rfl HRD.out (nd_one km Ak ck) (len_le (by omega)) (by omega) HNS.out ?_
                 intro v4 w4 hown4 hgrow4 hnew4
                 obtain ⟨A4,c4,hv4,hcap4⟩:=own_len hown4
                 subst hv4
                 have HO4:=Lib.hid hown4
                 have HG4:=Lib.hid hgrow4
                 have hb4:Below wx.heap.size wx w4:=SetR.below HR.out (below_adrew wr _) hgrow4
                 have hNB:=HNB.out.grown hgrow4 (fun e=>by have:=(HR.out.2.2.1.lt _ e.symm).1; omega)
                 have hn44:=hNB.cell 3
                 have f44:=hNB.frozen 3
                 simp only [List.getElem?_toArray,List.getElem?_cons_zero,List.getElem?_cons_succ] at hn44
                 clear hown4 hgrow4 hnew4 hNB))
            all_goals
              go_wp2_with fail
              go_roundw
              case rel=>exact ⟨m + 1,_,_,by omega,by go_num,SetR.next HR.out (Nat.le_refl _) HTM.out HRK.out (below_adrew wr _) HO4.out HG4.out⟩
              case measure=>simp [intOf]; omega
        · have hml:m = l:=by omega
          subst hml
          obtain ⟨A',c',hva,hcap⟩:=own_len HR.out.2.2.1
          subst hva
          have hOw:=HOX.out.below hbx HOX.out.lt
          have r0:=hOw.cell 0
          have r1:=hOw.cell 1
          have r2:=hOw.cell 2
          have r3:=hOw.cell 3
          have e0:=hOw.frozen 0
          have e1:=hOw.frozen 1
          have e2:=hOw.frozen 2
          have e3:=hOw.frozen 3
          simp only [List.getElem?_toArray,List.getElem?_cons_zero,List.getElem?_cons_succ] at r0 r1 r2 r3
          have HNL:Hid (∀ i z,([.int .i64 t.k,.int .i64 t.n,.int .i64 t.m,.slice A' m c']:List Value)[i]? = some z→wr.cell? ⟨wx.heap.size,0 + i,none⟩ = some z):=Lib.hid (fun i z hz=>by
            rw [HR.out.2.1.cell (0 + i),Nat.zero_add]; simpa using hz)
          clear hbx hTw hOw hn3 f3
          go_wp2_with (first
            | (refine wpList_load_mid rfl 25 (.tmp 10) rfl wx.heap.size 0 rfl [.int .i64 t.k,.int .i64 t.n,.int .i64 t.m,.slice A' m c'] _ HNL.out Tryd.underlying25 rfl (by rw [size_node]; rfl) ?_))
          refine bodyPost_ret (v:=.tuple #[.agg #[.int .i64 t.k,.int .i64 t.n,.int .i64 t.m,.slice A' m c'],.int .i64 0]) (by simp [results,Tryd.results41,go_sem,r0,r1,r2,r3]) rfl ⟨⟨t.k,t.n,t.m,t.kids.set j v'⟩,A',c',max d D2 + 1,by rw [HSOME.out]; rfl,?_,?_,?_⟩
          · rw [HSOME.out,← HTLN.out]; rfl
          · exact SetR.done HR.out HTLN.out.symm hcap HI.out HT.out.range.1 HT.out.range.2.1 HT.out.range.2.2 HBX.out (by omega) (by omega) HLT.out _ _ _ _
          · exact put4_below (bt HBX.out HR.out.1) _ _ _ _ (Nat.le_add_right w.heap.size 2)
theorem set_is:∀ p,SetC p
  | []=>set_nil
  | i :: p=>fun d dx t x S A P X c pc xc n w hn ht hx hp hin hpc hst hpl=>by
    obtain ⟨n',rfl⟩:∃ n',n = n' + 1:=⟨p.length,by simpa using hn⟩
    have hn':n' = p.length:=by simpa using hn
    cases d with
    | zero=>exact ht.elim
    | succ d =>
      by_cases hno:i < 0∨(t.kids.length:Int)≤i
      · exact set_none i p (d + 1) t x S A P X c pc xc n' w hn' ht hp hin hst (by omega) hno
      · obtain ⟨j,rfl⟩:∃ j:Nat,i = j:=⟨i.toNat,by omega⟩
        obtain ⟨v,hv⟩:∃ v,t.kids[j]? = some v:=⟨_,List.getElem?_eq_getElem (by omega)⟩
        exact set_some j p (set_is p) d dx t x v S A P X c pc xc n' w hn' ht hx hp hin hpc hst (by omega) hv
end Go.Proofs.YtkkenbalpnmfmaaDoor
