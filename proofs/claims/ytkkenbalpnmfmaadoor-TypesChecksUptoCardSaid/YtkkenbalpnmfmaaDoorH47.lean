/- Texts joined. -/
import Derived.Test.YtkkenbalpnmfmaaDoorH28
import Derived.Deep.RegionHeld2
set_option linter.unusedVariables false
namespace Go.Proofs.YtkkenbalpnmfmaaDoor
open Go.RowKit WM TR
attribute [local go_sem ↓ high] shutB2
attribute [local go_sem] run_bs2

def ProgPost (w:World) (e:Ending) (w':World):Prop :=
  ∃ t A' c',e = .returned (.agg #[.int .i64 t.k,.int .i64 t.n,.int .i64 t.m,.slice A' t.kids.length c'])∧IsProg t∧Rep w' (fun b=>w.heap.size≤b∧b < w'.heap.size) 11 t (nd t A' c')∧Below w.heap.size w w'

theorem letter_num {L:List Int} (a:Nat) (n:Int) (hn:0 < n):∃ q:Int,Hid (numAt L a n = q)∧0≤q∧q < n :=
  ⟨_,rfl,(numAt_le (L:=L) (a:=a) hn).1,(numAt_le (L:=L) (a:=a) hn).2⟩
theorem put4_gw {w V : World} {g b : Nat} (h : w.grownBy V (some g)) (hb : w.heap.size ≤ b) (v0 v1 v2 v3 : Value) :
    w.grownBy ((((V.setCell ⟨b,0,none⟩ v0).setCell ⟨b,1,none⟩ v1).setCell ⟨b,2,none⟩ v2).setCell ⟨b,3,none⟩ v3) (some g) :=
  gw_setCell (gw_setCell (gw_setCell (gw_setCell h (.inr hb) _) (.inr hb) _) (.inr hb) _) (.inr hb) _
theorem blk_load {V:World} {b:Nat} {v0 v1 v2 v3:Value} (h:Blk V b 25 #[v0,v1,v2,v3]):∀ i z,([v0,v1,v2,v3]:List Value)[i]? = some z→V.cell? ⟨b,0 + i,none⟩ = some z:=fun i z hz=>by
  rw [h.cell (0 + i),Nat.zero_add]; simpa using hz

structure TypR (L:List Int) (A:Option Addr) (c g tb:Nat) (wi V:World) (t:T) (A':Option Addr) (c' a':Nat) (l:Int):Prop where
  blk:Blk V tb 25 #[.int .i64 t.k,.int .i64 t.n,.int .i64 t.m,.slice A' t.kids.length c']
  rep:Rep V (fun b=>wi.heap.size≤b∧b < V.heap.size) 2 t (nd t A' c')
  mkr:Blk V g 60 (mkc A L.length c a' l)
  grown:wi.grownBy V (some g)
theorem TypR.leaf {L : List Int} {A : Option Addr} {c g tb : Nat} {wi V : World} {k n m : Int} {c' a' : Nat} {l : Int} (hb : Blk V tb 25 #[.int .i64 k, .int .i64 n, .int .i64 m, .slice none 0 c']) (hm : Blk V g 60 (mkc A L.length c a' l)) (hg : wi.grownBy V (some g)) (hk : inRange k) (hn : inRange n) (hm' : inRange m) :
    TypR L A c g tb wi V ⟨k,n,m,[]⟩ none c' a' l:=⟨hb,Rep.leaf hk hn hm' 1 c',hm,hg⟩
theorem in_small {x:Int} (h0:-1000≤x) (h1:x≤1000):inRange x:=by unfold inRange; omega

set_option maxRecDepth 100000 in
set_option maxHeartbeats 16000000 in
theorem program_is (L : List Int) (S : Nat → Prop) (A : Option Addr) (c : Nat) (w : World) (hL : Rd w S 1 A L.length (vi L)) (hin : In S w.heap.size) (hr : ∀ x ∈ L, inRange x) (hl : L.length ≤ 9223372036854775807) :
    Calls Tryd.prog 12 #[.slice A L.length c] w (ProgPost w):=by
  obtain ⟨i0,hi,hz0,hz1,hz2⟩:=info_parts node_info
  have HL:=Lib.hid hL
  have HI:=Lib.hid hin
  have HRL:=Lib.hid hr
  have HLL:=Lib.hid hl
  obtain ⟨r,hrr⟩:∃ r,r = w.heap.size:=⟨_,rfl⟩
  have HRR:=Lib.hid hrr
  obtain ⟨g,hgg⟩:∃ g,g = r + 1:=⟨_,rfl⟩
  obtain ⟨q0,HQ0,hq00,hq01⟩:=letter_num (L:=L) 0 4 (by omega)
  obtain ⟨q1',HQ1',hq10,hq11⟩:=letter_num (L:=L) 1 3 (by omega)
  obtain ⟨q1,hq1⟩:∃ q1:Nat,q1' = (q1:Int):=⟨q1'.toNat,by omega⟩
  subst hq1
  have hq12:q1≤2:=by omega
  clear hL hin hr hl
  go_enter Tryd.func12,Tryd.ntmps12
  go_upto_region 2 with fail
  obtain ⟨W1,hW1⟩:∃ W1,W1 = (w.alloc (.cells #[.int .i64 0,.int .i64 0,.int .i64 0,.slice none 0 0] 25)).alloc (.cells #[.slice A L.length c,.int .i64 0,.int .i64 45] 60):=⟨_,rfl⟩
  have hsz1:W1.heap.size = g + 1:=by rw [hW1,hgg,hrr]; simp
  have HSZ1:=Lib.hid hsz1
  have HB1:Hid (Below w.heap.size w W1):=Lib.hid (by rw [hW1]; exact ba (below_new _ _) _)
  have HM1:Hid (Blk W1 g 60 (mkc A L.length c 0 45)):=Lib.hid (by rw [hW1,hgg,hrr]; exact blk_new2 _ _ _ _)
  have HZ1:Hid (Blk W1 r 25 #[.int .i64 0,.int .i64 0,.int .i64 0,.slice none 0 0]):=Lib.hid (by rw [hW1,hrr]; exact blk_new3 _ _ _ _)
  rw [← hW1,← hrr,← hgg]
  have hrg:r < g:=by omega
  have HS:Hid (∀ b,S b→b≠g):=Lib.hid (fun b hb=>by have:=HI.out b hb; omega)
  have HI1:Hid (In S W1.heap.size):=Lib.hid (HI.out.more HB1.out.size)
  have HL1:Hid (Rd W1 S 1 A L.length (vi L)):=Lib.hid (HL.out.keep (Keeps.below HI.out HB1.out))
  have HGS:Hid (∀ l a W,Blk W g 60 (mkc A L.length c a l)→W1.grownBy W (some g)→a≤1000→-1000≤l→l≤1000→Calls Tryd.prog 43 #[.pointer (some ⟨g,0,none⟩),.int .i64 4] W (GBlockPost L A c g 4 a l W)):=Lib.hid (fun l a W hm hg h1 h2 h3 =>
    (gboth L S A c g HRL.out HLL.out HS.out 4).2 a l W hm (HI1.out.more hg.size) (HL1.out.keep (Keeps.gw hg HI1.out HS.out)) (by omega) (by omega) h3 4 rfl)
  clear hW1 hrr hgg hsz1 HL HI
  go_upto_region 3 with (first
    | (go_at_call 42; refine (num_is L S A c g (0) 45 4 _ HM1.out HS.out (HL1.out.keep (Keeps.gw (gw_refl W1 g) HI1.out HS.out)) HRL.out (by omega) HLL.out (by omega)).mono ?_; rintro e w2 ⟨rfl,hm2,hm2g⟩; rw [HQ0.out]))
  obtain ⟨W2,hW2⟩:∃ W2,W2 = w2.alloc (.cells #[.int .i64 27,.int .i64 q0,.int .i64 0,.slice none 0 0] 25):=⟨_,rfl⟩
  obtain ⟨o,ho⟩:∃ o,o = w2.heap.size:=⟨_,rfl⟩
  have hog:g < o:=by have:=hm2g.size; have:=HSZ1.out; omega
  have HR2:Hid (NodeR L A c g o 10 27 q0 0 W1 W2 (.slice none 0 0) [] [] 1 45):=Lib.hid (by
    have h1:W1.grownBy W2 (some g):=by rw [hW2]; exact gw_alloc hm2g _
    refine NodeR.start (by rw [hW2]; exact hm2.alloc _) h1 (by rw [hW2,ho]; exact Blk.new _ _ _) (by have:=hm2g.size; omega) (by have:=HSZ1.out; omega))
  rw [← hW2,← ho]
  clear hW2 ho hm2 hm2g HM1
  go_upto_region 4 with (first
    | (go_at_call 42; refine (num_is L S A c g (1) 45 3 _ HR2.out.mkr HS.out (HL1.out.keep (Keeps.gw HR2.out.grown HI1.out HS.out)) HRL.out (by omega) HLL.out (by omega)).mono ?_; rintro e w3 ⟨rfl,hm3,hm3g⟩; rw [HQ1'.out]))
  have hnw:IntKind.i64.wrap (1 + (q1:Int)) = ((q1 + 1:Nat):Int):=by rw [IntKind.wrap_i64]; omega
  have HR3:Hid (NodeR L A c g o 10 27 q0 0 W1 w3 (.slice none 0 0) [] [] 2 45∧Funs [] 2 45):=Lib.hid ⟨HR2.out.gw hm3g hm3,Funs.nil⟩
  obtain ⟨n,hn⟩:∃ n:Nat,n = q1 + 1:=⟨_,rfl⟩
  have hn3:n≤3:=by omega
  have HN:=Lib.hid hn
  rw [← hn] at hnw
  clear hm3 hm3g HR2
  go_wp2_with fail
  try rw [hnw]
  go_loopw [6] (fun i wr=>∃ (v:Value) (ts:List T) (xs:List Value) (a':Nat) (l':Int),ts.length≤n∧i = .int .i64 (ts.length:Int)∧Hid (NodeR L A c g o 10 27 q0 0 W1 wr v ts xs a' l'∧Funs ts a' l')) (fun i _=>n - (intOf i).toNat)
  case atStart=>exact ⟨_,[],[],2,45,Nat.zero_le _,rfl,HR3.out⟩
  case round =>
    clear HR3
    obtain ⟨v,ts,xs,a1,l1,hjn,rfl,HR⟩:=hrel
    obtain ⟨W0,hW0⟩:∃ W0,W0 = wr:=⟨_,rfl⟩
    subst hW0
    obtain ⟨j,hj⟩:∃ j,ts.length = j:=⟨_,rfl⟩
    have HTS:=Lib.hid hj
    rw [hj] at hjn ⊢
    clear hj
    have hab:a1≤900∧-600≤l1∧l1≤45:=by
      have h:=HR.out.2
      have h1:=h.sum; have h2:=h.hi; have h3:=h.le; have h4:=h.lo
      rw [HTS.out] at h1 h2
      omega
    obtain ⟨hab1,hab2,hab3⟩:=hab
    by_cases hlt:j < n
    · have hlt2:(j:Int) < n:=by omega
      obtain ⟨N,HN0,hN0,hN1⟩:=letter_num (L:=L) a1 3 (by omega)
      obtain ⟨M,HM0,hM0,hM1⟩:=letter_num (L:=L) (a1 + 1) 3 (by omega)
      go_upto_region 8 with (first
        | (go_at_call 42; refine (num_is L S A c g (a1) l1 3 _ HR.out.1.mkr HS.out (HL1.out.keep (Keeps.gw HR.out.1.grown HI1.out HS.out)) HRL.out (by omega) HLL.out (by omega)).mono ?_; rintro e w4 ⟨rfl,hm4,hm4g⟩; rw [HN0.out]))
      obtain ⟨W4,hW4⟩:∃ W4,W4 = w4.alloc (.cells #[.int .i64 26,.int .i64 N,.int .i64 0,.slice none 0 0] 25):=⟨_,rfl⟩
      obtain ⟨f,hf⟩:∃ f,f = w4.heap.size:=⟨_,rfl⟩
      have hg4':W0.grownBy W4 (some g):=by rw [hW4]; exact gw_alloc hm4g _
      have hWf:W0.heap.size≤f:=by have:=hm4g.size; omega
      have HWF:=Lib.hid hWf
      have hof:o < f:=by have:=HR.out.1.node.lt; omega
      have hgW:g < W0.heap.size:=HR.out.1.mkr.lt
      have HGW:=Lib.hid hgW
      have HF4:Hid (NodeR L A c g f 2 26 N 0 W0 W4 (.slice none 0 0) [] [] (a1 + 1) l1):=Lib.hid
        (NodeR.start (by rw [hW4]; exact hm4.alloc _) hg4' (by rw [hW4,hf]; exact Blk.new _ _ _) hWf hgW)
      rw [← hW4,← hf]
      clear hW4 hf hm4 hm4g hg4' hWf hgW
      have HC:Hid (Calls Tryd.prog 42 #[.pointer (some ⟨g,0,none⟩),.int .i64 3] W4.drew fun e w'=>e = .returned (.int .i64 M)∧Blk w' g 60 (mkc A L.length c (a1 + 1 + 1) l1)∧W4.grownBy w' (some g)):=Lib.hid (by
        refine (num_is L S A c g (a1 + 1) l1 3 _ HF4.out.mkr.drew HS.out (HL1.out.keep (Keeps.gw (gw_drew (gw_trans HR.out.1.grown HF4.out.grown)) HI1.out HS.out)) HRL.out (by omega) HLL.out (by omega)).mono ?_
        rintro e w5 ⟨rfl,h1,h2⟩
        exact ⟨by rw [HM0.out],h1,⟨h2.os,h2.tape,h2.output,h2.size,h2.block⟩⟩)
      have HK:Hid (∀ W',W4.grownBy W' (some g)→W'.cell? ⟨f,1,none⟩ = some (.int .i64 N)):=Lib.hid (fun W' h=>(HF4.out.node.gw h (by omega)).cell 1)
      have hbc:W4.grownBy W4.drew (some g):=gw_drew (gw_refl W4 g)
      refine wp_region_noPanic ?_
      go_region_held2 (fun W'=>W'.cell? ⟨f,1,none⟩ = some (.int .i64 N))
        (exact HK.out _ hbc)
        (first
        | (go_at_call 42; refine HC.out.mono ?_; rintro e w5 ⟨rfl,hm5,hg5⟩; have hbc0:=hbc; clear hbc; have hbc:=hg5; have HM5:=Lib.hid hm5; have HG5:=Lib.hid hg5; clear hm5 hg5))
      all_goals refine NoPanic.normal ?_
      have HR5:Hid (NodeR L A c g f 2 26 N 0 W0 w5 (.slice none 0 0) [] [] (a1 + 2) l1∧Types N []∧a1 + 2≤a1 + 2 + 5 * 0):=Lib.hid ⟨HF4.out.gw HG5.out HM5.out,Types.nil N,by omega⟩
      obtain ⟨Nn,hNn⟩:∃ x:Nat,N + M = (x:Int):=⟨(N + M).toNat,by omega⟩
      have hwN:IntKind.i64.wrap (N + M) = (Nn:Int):=by rw [IntKind.wrap_i64]; omega
      have hNn4:Nn≤4:=by omega
      have hNle:N≤Nn:=by omega
      clear HC HK HF4 HM5 HG5
      go_wp2_with fail
      try rw [hwN]
      try rw [hNn]
      clear hwN
      have HNN:=Lib.hid hNn
      clear hNn
      go_loopw [9] (fun i wr=>∃ (u:Value) (ys:List T) (zs:List Value) (a':Nat),ys.length≤Nn∧i = .int .i64 (ys.length:Int)∧Hid (NodeR L A c g f 2 26 N 0 W0 wr u ys zs a' l1∧Types N ys∧a'≤a1 + 2 + 5 * ys.length)) (fun i _=>Nn - (intOf i).toNat)
      case atStart=>exact ⟨_,[],[],a1 + 2,Nat.zero_le _,rfl,HR5.out⟩
      case round =>
        clear HR5
        obtain ⟨u,ys,zs,a2,hkn,rfl,HY⟩:=hrel
        obtain ⟨Wi,hWi⟩:∃ Wi,Wi = wr:=⟨_,rfl⟩
        subst hWi
        obtain ⟨k,hk⟩:∃ k,ys.length = k:=⟨_,rfl⟩
        have HYS:=Lib.hid hk
        have ha2:a2≤1000 - 10:=by have:=HY.out.2.2; omega
        rw [hk] at hkn ⊢
        clear hk
        have hWiF:W0.heap.size≤Wi.heap.size:=HY.out.1.grown.size
        have HWIF:=Lib.hid hWiF
        clear hWiF
        by_cases hkl:k < Nn
        · have hkl2:(k:Int) < Nn:=by omega
          obtain ⟨b0,HB0,hb00,hb01⟩:=letter_num (L:=L) a2 2 (by omega)
          go_upto_region 13 with (first
            | (go_at_call 42; refine (num_is L S A c g (a2) l1 2 _ HY.out.1.mkr HS.out (HL1.out.keep (Keeps.gw (gw_trans HR.out.1.grown HY.out.1.grown) HI1.out HS.out)) HRL.out (by omega) HLL.out (by omega)).mono ?_; rintro e w6 ⟨rfl,hm6,hm6g⟩; rw [HB0.out]))
          obtain ⟨W6,hW6⟩:∃ W6,W6 = w6.alloc (.cells #[.int .i64 b0,.int .i64 0,.int .i64 0,.slice none 0 0] 25):=⟨_,rfl⟩
          obtain ⟨tb,htb⟩:∃ tb,tb = w6.heap.size:=⟨_,rfl⟩
          have HM6:Hid (Blk W6 g 60 (mkc A L.length c (a2 + 1) l1)):=Lib.hid (by rw [hW6]; exact hm6.alloc _)
          have HG6:Hid (Wi.grownBy W6 (some g)):=Lib.hid (by rw [hW6]; exact gw_alloc hm6g _)
          have HT6:Hid (Blk W6 tb 25 #[.int .i64 b0,.int .i64 0,.int .i64 0,.slice none 0 0]):=Lib.hid (by rw [hW6,htb]; exact Blk.new _ _ _)
          have htbw:Wi.heap.size≤tb:=by have:=hm6g.size; omega
          have HTB:=Lib.hid htbw
          have hftb:f < tb:=by have:=HY.out.1.node.lt; omega
          have hgtb:g < tb:=by omega
          have HF6:Hid (Blk W6 f 25 #[.int .i64 26,.int .i64 N,.int .i64 0,u]):=Lib.hid (HY.out.1.node.gw HG6.out (by omega))
          have n6:=HF6.out.cell 1
          have u6:=HF6.out.cell 3
          simp only [List.getElem?_toArray,List.getElem?_cons_zero,List.getElem?_cons_succ] at n6 u6
          rw [← hW6,← htb]
          clear hW6 htb hm6 hm6g htbw
          by_cases hkN:(k:Int) < N
          · have dN:decide (N≤(k:Int)) = false:=by simp; omega
            have dN2:¬ N≤(k:Int):=by omega
            go_upto_region 17 with fail
            obtain ⟨t,ht⟩:∃ t:T,t = ⟨b0,0,0,[]⟩:=⟨_,rfl⟩
            have HTY:Hid (TypR L A c g tb Wi W6 t none 0 (a2 + 1) l1):=Lib.hid (by rw [ht]; exact TypR.leaf HT6.out HM6.out HG6.out (in_small (by omega) (by omega)) in0 in0)
            have HIT:Hid (isType t = true∧((k:Int) < N→isPlain t = true)∧size t≤3):=Lib.hid (by rw [ht]; exact ⟨plain_type (plainT hb00 hb01),fun _=>plainT hb00 hb01,by rw [leaf_size]; omega⟩)
            have HLD:=Lib.hid (blk_load HTY.out.blk)
            have hk1:((t.k:Int)) = (⟨b0,0,0,[]⟩:T).k:=by rw [ht]
            clear ht
            have HNF:Hid (Blk W6 f 25 #[.int .i64 26,.int .i64 N,.int .i64 0,u]):=Lib.hid (HY.out.1.node.gw HTY.out.grown (by omega))
            have uV:=HNF.out.cell 3
            have fV:=HNF.out.frozen 3
            simp only [List.getElem?_toArray,List.getElem?_cons_zero,List.getElem?_cons_succ] at uV
            have HOW:Hid ((W6.alloc (.cells #[.int .i64 t.k,.int .i64 t.n,.int .i64 t.m,.slice none t.kids.length 0] 25)).ownsRow (f + 1) 25 4 u ys.length zs):=Lib.hid ((HY.out.1.own.kept HTY.out.grown (.inr fun e=>by have:=(HY.out.1.own.lt _ e).1; omega)).alloc _)
            have HFV:Hid (f + 1≤W6.heap.size):=Lib.hid (Nat.succ_le_of_lt HNF.out.lt)
            clear hk1
            go_wp2_with (first
              | (refine wpList_load_mid rfl 25 (.tmp 10) rfl tb 0 rfl [.int .i64 t.k,.int .i64 t.n,.int .i64 t.m,.slice none t.kids.length 0] _ HLD.out Tryd.underlying25 rfl (by rw [size_node]; rfl) ?_)
              | (at_builtin
                 refine wpList_append_any _ rfl (.tmp 72) (.tmp 74) 23 rfl (f + 1) 25 i0 _ 4 48 Tryd.underlying23 hi hz0 hz1 hz2 rfl (by omega) _ ys.length zs rfl HOW.out _ (some ⟨W6.heap.size,0,none⟩) 1 1 (nd t none 0) rfl (reads_nd W6 t none 0) (nd_one t none 0) (len_le (by have:=HYS.out; omega)) (by have:=HYS.out; omega) (by have:=HFV.out; rw [size_alloc]; omega) ?_
                 intro v7 w7 hown7 hgrow7 hnew7; obtain ⟨A7,c7,hv7,_⟩:=own_len hown7; subst hv7
                 have HO7:=Lib.hid hown7; have HG7:=Lib.hid hgrow7; have HN7:=Lib.hid hnew7
                 have HNB:Hid (Blk w7 f 25 #[.int .i64 26,.int .i64 N,.int .i64 0,u]):=Lib.hid ((HNF.out.alloc _).grown hgrow7 (fun e=>by have:=(HY.out.1.own.lt _ e.symm).1; omega))
                 have hn77:=HNB.out.cell 3; have f77:=HNB.out.frozen 3; simp only [List.getElem?_toArray,List.getElem?_cons_zero,List.getElem?_cons_succ] at hn77
                 clear hown7 hgrow7 hnew7))
            go_roundw
            case rel =>
              refine ⟨_,ys ++ [t],zs ++ nd t none 0,a2 + 1,by rw [List.length_append,HYS.out]; show k + 1≤Nn; omega,by rw [List.length_append,HYS.out]; go_num,NodeR.next HY.out.1 HTY.out.rep HTY.out.mkr HTY.out.grown HO7.out HG7.out HN7.out,Types.snoc HY.out.2.1 HIT.out.1 (by rw [HYS.out]; exact HIT.out.2.1) HIT.out.2.2,?_⟩
              have h5:=HY.out.2.2
              rw [List.length_append,List.length_singleton]
              omega
            case measure=>simp [intOf]; omega
          · have dN:decide (N≤(k:Int)) = true:=by simp; omega
            have dN2:N≤(k:Int):=by omega
            obtain ⟨z1,HZ1',hz10,hz11⟩:=letter_num (L:=L) (a2 + 1) 3 (by omega)
            by_cases hzz1:z1 = 0
            · subst hzz1
              obtain ⟨x,HX,hx0,hx1⟩:=letter_num (L:=L) (a2 + 1 + 1) 4 (by omega)
              go_upto_region 14 with (first
                | (go_at_call 42; refine (num_is L S A c g (a2 + 1) l1 3 _ HM6.out HS.out (HL1.out.keep (Keeps.gw (gw_trans (gw_trans HR.out.1.grown HY.out.1.grown) HG6.out) HI1.out HS.out)) HRL.out (by omega) HLL.out (by omega)).mono ?_; rintro e w8 ⟨rfl,hm8,hm8g⟩; rw [HZ1'.out]))
              have HM8:=Lib.hid hm8
              have HG8:Hid (Wi.grownBy w8 (some g)):=Lib.hid (gw_trans HG6.out hm8g)
              have HT8:Hid (Blk w8 tb 25 #[.int .i64 b0,.int .i64 0,.int .i64 0,.slice none 0 0]):=Lib.hid (HT6.out.gw hm8g (by omega))
              have HF8:Hid (Blk w8 f 25 #[.int .i64 26,.int .i64 N,.int .i64 0,u]):=Lib.hid (HF6.out.gw hm8g (by omega))
              clear hm8 hm8g
              have hxw:IntKind.i64.wrap (1 + x) = 1 + x:=by rw [IntKind.wrap_i64]; omega
              go_upto_region 17 with (first
                | (go_at_call 42; refine (num_is L S A c g (a2 + 1 + 1) l1 4 _ HM8.out HS.out (HL1.out.keep (Keeps.gw (gw_trans (gw_trans HR.out.1.grown HY.out.1.grown) HG8.out) HI1.out HS.out)) HRL.out (by omega) HLL.out (by omega)).mono ?_; rintro e w9 ⟨rfl,hm9,hm9g⟩; rw [HX.out]; have HM9:=Lib.hid hm9; have HG9:Hid (Wi.grownBy w9 (some g)):=Lib.hid (gw_trans HG8.out hm9g); have HT9:Hid (Blk w9 tb 25 #[.int .i64 b0,.int .i64 0,.int .i64 0,.slice none 0 0]):=Lib.hid (HT8.out.gw hm9g (by omega)); clear hm9 hm9g; have k0:=HT9.out.cell 0; have k1:=HT9.out.cell 1; have k2:=HT9.out.cell 2; have k3:=HT9.out.cell 3; have e0:=HT9.out.frozen 0; have e1:=HT9.out.frozen 1; have e2:=HT9.out.frozen 2; have e3:=HT9.out.frozen 3; simp only [List.getElem?_toArray,List.getElem?_cons_zero,List.getElem?_cons_succ] at k0 k1 k2 k3))
              obtain ⟨V,hV⟩:∃ V,V = (((w9.setCell ⟨tb,0,none⟩ (.int .i64 2)).setCell ⟨tb,1,none⟩ (.int .i64 (1 + x))).setCell ⟨tb,2,none⟩ (.int .i64 0)).setCell ⟨tb,3,none⟩ (.slice none 0 0):=⟨_,rfl⟩
              have HTV:Hid (Blk V tb 25 #[.int .i64 2,.int .i64 (1 + x),.int .i64 0,.slice none 0 0]):=Lib.hid (by rw [hV]; exact put4_blk HT9.out rfl _ _ _ _)
              have HMV:Hid (Blk V g 60 (mkc A L.length c (a2 + 1 + 1 + 1) l1)):=Lib.hid (by rw [hV]; exact HM9.out.gw (gw4 w9 tb _ _ _ _).1 (by omega))
              have HGV:Hid (Wi.grownBy V (some g)):=Lib.hid (by rw [hV]; exact put4_gw HG9.out HTB.out _ _ _ _)
              rw [← hV]
              clear hV k0 k1 k2 k3 e0 e1 e2 e3
              obtain ⟨t,ht⟩:∃ t:T,t = ⟨2,1 + x,0,[]⟩:=⟨_,rfl⟩
              have HTY:Hid (TypR L A c g tb Wi V t none 0 (a2 + 1 + 1 + 1) l1):=Lib.hid (by rw [ht]; exact TypR.leaf HTV.out HMV.out HGV.out (in_small (by omega) (by omega)) (in_small (by omega) (by omega)) in0)
              have HIT:Hid (isType t = true∧((k:Int) < N→isPlain t = true)∧size t≤3):=Lib.hid (by rw [ht]; exact ⟨arrT hx0 hx1,fun h=>absurd h (by omega),by rw [leaf_size]; omega⟩)
              have HLD:=Lib.hid (blk_load HTY.out.blk)
              have hk1:((t.k:Int)) = (⟨2,1 + x,0,[]⟩:T).k:=by rw [ht]
              clear ht
              have HNF:Hid (Blk V f 25 #[.int .i64 26,.int .i64 N,.int .i64 0,u]):=Lib.hid (HY.out.1.node.gw HTY.out.grown (by omega))
              have uV:=HNF.out.cell 3
              have fV:=HNF.out.frozen 3
              simp only [List.getElem?_toArray,List.getElem?_cons_zero,List.getElem?_cons_succ] at uV
              have HOW:Hid ((V.alloc (.cells #[.int .i64 t.k,.int .i64 t.n,.int .i64 t.m,.slice none t.kids.length 0] 25)).ownsRow (f + 1) 25 4 u ys.length zs):=Lib.hid ((HY.out.1.own.kept HTY.out.grown (.inr fun e=>by have:=(HY.out.1.own.lt _ e).1; omega)).alloc _)
              have HFV:Hid (f + 1≤V.heap.size):=Lib.hid (Nat.succ_le_of_lt HNF.out.lt)
              clear hk1
              go_wp2_with (first
                | (refine wpList_load_mid rfl 25 (.tmp 10) rfl tb 0 rfl [.int .i64 t.k,.int .i64 t.n,.int .i64 t.m,.slice none t.kids.length 0] _ HLD.out Tryd.underlying25 rfl (by rw [size_node]; rfl) ?_)
                | (at_builtin
                   refine wpList_append_any _ rfl (.tmp 72) (.tmp 74) 23 rfl (f + 1) 25 i0 _ 4 48 Tryd.underlying23 hi hz0 hz1 hz2 rfl (by omega) _ ys.length zs rfl HOW.out _ (some ⟨V.heap.size,0,none⟩) 1 1 (nd t none 0) rfl (reads_nd V t none 0) (nd_one t none 0) (len_le (by have:=HYS.out; omega)) (by have:=HYS.out; omega) (by have:=HFV.out; rw [size_alloc]; omega) ?_
                   intro v7 w7 hown7 hgrow7 hnew7; obtain ⟨A7,c7,hv7,_⟩:=own_len hown7; subst hv7
                   have HO7:=Lib.hid hown7; have HG7:=Lib.hid hgrow7; have HN7:=Lib.hid hnew7
                   have HNB:Hid (Blk w7 f 25 #[.int .i64 26,.int .i64 N,.int .i64 0,u]):=Lib.hid ((HNF.out.alloc _).grown hgrow7 (fun e=>by have:=(HY.out.1.own.lt _ e.symm).1; omega))
                   have hn77:=HNB.out.cell 3; have f77:=HNB.out.frozen 3; simp only [List.getElem?_toArray,List.getElem?_cons_zero,List.getElem?_cons_succ] at hn77
                   clear hown7 hgrow7 hnew7))
              go_roundw
              case rel =>
                refine ⟨_,ys ++ [t],zs ++ nd t none 0,a2 + 1 + 1 + 1,by rw [List.length_append,HYS.out]; show k + 1≤Nn; omega,by rw [List.length_append,HYS.out]; go_num,NodeR.next HY.out.1 HTY.out.rep HTY.out.mkr HTY.out.grown HO7.out HG7.out HN7.out,Types.snoc HY.out.2.1 HIT.out.1 (by rw [HYS.out]; exact HIT.out.2.1) HIT.out.2.2,?_⟩
                have h5:=HY.out.2.2
                rw [List.length_append,List.length_singleton]
                omega
              case measure=>simp [intOf]; omega
            · obtain ⟨z2,HZ2',hz20,hz21⟩:=letter_num (L:=L) (a2 + 1 + 1) 3 (by omega)
              have dz1:(z1 == 0) = false:=by simp; exact hzz1
              go_upto_region 15 with (first
                | (go_at_call 42; refine (num_is L S A c g (a2 + 1) l1 3 _ HM6.out HS.out (HL1.out.keep (Keeps.gw (gw_trans (gw_trans HR.out.1.grown HY.out.1.grown) HG6.out) HI1.out HS.out)) HRL.out (by omega) HLL.out (by omega)).mono ?_; rintro e w8 ⟨rfl,hm8,hm8g⟩; rw [HZ1'.out]))
              have HM8:=Lib.hid hm8
              have HG8:Hid (Wi.grownBy w8 (some g)):=Lib.hid (gw_trans HG6.out hm8g)
              have HT8:Hid (Blk w8 tb 25 #[.int .i64 b0,.int .i64 0,.int .i64 0,.slice none 0 0]):=Lib.hid (HT6.out.gw hm8g (by omega))
              have HF8:Hid (Blk w8 f 25 #[.int .i64 26,.int .i64 N,.int .i64 0,u]):=Lib.hid (HF6.out.gw hm8g (by omega))
              clear hm8 hm8g
              have n8:=HF8.out.cell 1
              simp only [List.getElem?_toArray,List.getElem?_cons_zero,List.getElem?_cons_succ] at n8
              by_cases hzz2:z2 = 0
              · subst hzz2
                obtain ⟨x,HX,hx0,hx1⟩:=letter_num (L:=L) (a2 + 1 + 1 + 1) 2 (by omega)
                obtain ⟨y,HY',hy0,hy1⟩:=letter_num (L:=L) (a2 + 1 + 1 + 1 + 1) 2 (by omega)
                go_upto_region 16 with (first
                  | (go_at_call 42; refine (num_is L S A c g (a2 + 1 + 1) l1 3 _ HM8.out HS.out (HL1.out.keep (Keeps.gw (gw_trans (gw_trans HR.out.1.grown HY.out.1.grown) HG8.out) HI1.out HS.out)) HRL.out (by omega) HLL.out (by omega)).mono ?_; rintro e w9 ⟨rfl,hm9,hm9g⟩; rw [HZ2'.out]))
                have HM9:=Lib.hid hm9
                have HG9:Hid (Wi.grownBy w9 (some g)):=Lib.hid (gw_trans HG8.out hm9g)
                have HT9:Hid (Blk w9 tb 25 #[.int .i64 b0,.int .i64 0,.int .i64 0,.slice none 0 0]):=Lib.hid (HT8.out.gw hm9g (by omega))
                have HF9:Hid (Blk w9 f 25 #[.int .i64 26,.int .i64 N,.int .i64 0,u]):=Lib.hid (HF8.out.gw hm9g (by omega))
                clear hm9 hm9g
                go_upto_region 17 with (first
                  | (go_at_call 42; have hmk:=HM10; refine (num_is L S A c g (a2 + 1 + 1 + 1 + 1) l1 2 _ HM10.out HS.out (HL1.out.keep (Keeps.gw (gw_trans (gw_trans HR.out.1.grown HY.out.1.grown) HG10.out) HI1.out HS.out)) HRL.out (by omega) HLL.out (by omega)).mono ?_; rintro e w11 ⟨rfl,hm11,hm11g⟩; rw [HY'.out]; have HM11:=Lib.hid hm11; have HG11:Hid (Wi.grownBy w11 (some g)):=Lib.hid (gw_trans HG10.out hm11g); have HT11:Hid (Blk w11 tb 25 #[.int .i64 b0,.int .i64 0,.int .i64 0,.slice none 0 0]):=Lib.hid (HT10.out.gw hm11g (by omega)); clear hm11 hm11g hmk; have k0:=HT11.out.cell 0; have k1:=HT11.out.cell 1; have k2:=HT11.out.cell 2; have k3:=HT11.out.cell 3; have e0:=HT11.out.frozen 0; have e1:=HT11.out.frozen 1; have e2:=HT11.out.frozen 2; have e3:=HT11.out.frozen 3; have hlt11:=HT11.out.lt; simp only [List.getElem?_toArray,List.getElem?_cons_zero,List.getElem?_cons_succ] at k0 k1 k2 k3)
                  | (go_at_call 42; refine (num_is L S A c g (a2 + 1 + 1 + 1) l1 2 _ HM9.out HS.out (HL1.out.keep (Keeps.gw (gw_trans (gw_trans HR.out.1.grown HY.out.1.grown) HG9.out) HI1.out HS.out)) HRL.out (by omega) HLL.out (by omega)).mono ?_; rintro e w10 ⟨rfl,hm10,hm10g⟩; rw [HX.out]; have HM10:=Lib.hid hm10; have HG10:Hid (Wi.grownBy w10 (some g)):=Lib.hid (gw_trans HG9.out hm10g); have HT10:Hid (Blk w10 tb 25 #[.int .i64 b0,.int .i64 0,.int .i64 0,.slice none 0 0]):=Lib.hid (HT9.out.gw hm10g (by omega)); clear hm10 hm10g))
                obtain ⟨V0,hV0⟩:∃ V,V = (((w11.setCell ⟨tb,0,none⟩ (.int .i64 3)).setCell ⟨tb,1,none⟩ (.int .i64 0)).setCell ⟨tb,2,none⟩ (.int .i64 0)).setCell ⟨tb,3,none⟩ (.slice (some ⟨w11.heap.size,0,none⟩) 2 2):=⟨_,rfl⟩
                have hvs:V0.heap.size = w11.heap.size:=by rw [hV0]; exact (gw4 _ _ _ _ _ _).2
                obtain ⟨V,hV⟩:∃ V,V = V0.alloc (.cells #[.int .i64 x,.int .i64 0,.int .i64 0,.slice none 0 0,.int .i64 y,.int .i64 0,.int .i64 0,.slice none 0 0] 25):=⟨_,rfl⟩
                have HTV:Hid (Blk V tb 25 #[.int .i64 3,.int .i64 0,.int .i64 0,.slice (some ⟨w11.heap.size,0,none⟩) 2 2]):=Lib.hid (by rw [hV,hV0]; exact (put4_blk HT11.out rfl _ _ _ _).alloc _)
                have HMV:Hid (Blk V g 60 (mkc A L.length c (a2 + 1 + 1 + 1 + 1 + 1) l1)):=Lib.hid (by rw [hV,hV0]; exact (HM11.out.gw (gw4 w11 tb _ _ _ _).1 (by omega)).alloc _)
                have HGV:Hid (Wi.grownBy V (some g)):=Lib.hid (by rw [hV,hV0]; exact gw_alloc (put4_gw HG11.out HTB.out _ _ _ _) _)
                have HRV:Hid (Rep V (fun b=>Wi.heap.size≤b∧b < V.heap.size) 2 ⟨3,0,0,[⟨x,0,0,[]⟩,⟨y,0,0,[]⟩]⟩ (nd ⟨3,0,0,[⟨x,0,0,[]⟩,⟨y,0,0,[]⟩]⟩ (some ⟨w11.heap.size,0,none⟩) 2)):=Lib.hid (by
                  refine Rep.mk (k:=3) (n:=0) (m:=0) (ts:=[⟨x,0,0,[]⟩,⟨y,0,0,[]⟩]) (c:=2) (xs:=nd ⟨x,0,0,[]⟩ none 0 ++ nd ⟨y,0,0,[]⟩ none 0) (in_small (by omega) (by omega)) in0 in0 (Nat.le_refl _) ⟨rfl,fun _=>⟨_,rfl,⟨by show Wi.heap.size≤w11.heap.size; exact HG11.out.size,by show w11.heap.size < V.heap.size; rw [hV,size_alloc,hvs]; omega⟩,fun j u hu=>?_⟩⟩ ?_
                  · rw [Addr.add_lit,Nat.zero_add,hV,← hvs,(Blk.new V0 _ _).cell j]
                    simpa [nd] using hu
                  · exact (Reps.one (Rep.leaf (in_small (by omega) (by omega)) in0 in0 0 0)).snoc (Rep.leaf (in_small (by omega) (by omega)) in0 in0 0 0))
                rw [← hV0]
                rw [← hV]
                clear hV hV0 hvs k0 k1 k2 k3 e0 e1 e2 e3
                obtain ⟨t,ht⟩:∃ t:T,t = ⟨3,0,0,[⟨x,0,0,[]⟩,⟨y,0,0,[]⟩]⟩:=⟨_,rfl⟩
                have HTY:Hid (TypR L A c g tb Wi V t (some ⟨w11.heap.size,0,none⟩) 2 (a2 + 1 + 1 + 1 + 1 + 1) l1):=Lib.hid (by rw [ht]; exact ⟨HTV.out,HRV.out,HMV.out,HGV.out⟩)
                have HIT:Hid (isType t = true∧((k:Int) < N→isPlain t = true)∧size t≤3):=Lib.hid (by rw [ht]; exact ⟨recT hx0 hx1 hy0 hy1,fun h=>absurd h (by omega),by rw [rec_size]; omega⟩)
                have HLD:=Lib.hid (blk_load HTY.out.blk)
                have hk1:((t.k:Int)) = (⟨3,0,0,[⟨x,0,0,[]⟩,⟨y,0,0,[]⟩]⟩:T).k:=by rw [ht]
                clear ht
                have HNF:Hid (Blk V f 25 #[.int .i64 26,.int .i64 N,.int .i64 0,u]):=Lib.hid (HY.out.1.node.gw HTY.out.grown (by omega))
                have uV:=HNF.out.cell 3
                have fV:=HNF.out.frozen 3
                simp only [List.getElem?_toArray,List.getElem?_cons_zero,List.getElem?_cons_succ] at uV
                have HOW:Hid ((V.alloc (.cells #[.int .i64 t.k,.int .i64 t.n,.int .i64 t.m,.slice (some ⟨w11.heap.size,0,none⟩) t.kids.length 2] 25)).ownsRow (f + 1) 25 4 u ys.length zs):=Lib.hid ((HY.out.1.own.kept HTY.out.grown (.inr fun e=>by have:=(HY.out.1.own.lt _ e).1; omega)).alloc _)
                have HFV:Hid (f + 1≤V.heap.size):=Lib.hid (Nat.succ_le_of_lt HNF.out.lt)
                clear hk1
                go_wp2_with (first
                  | (refine wpList_load_mid rfl 25 (.tmp 10) rfl tb 0 rfl [.int .i64 t.k,.int .i64 t.n,.int .i64 t.m,.slice (some ⟨w11.heap.size,0,none⟩) t.kids.length 2] _ HLD.out Tryd.underlying25 rfl (by rw [size_node]; rfl) ?_)
                  | (at_builtin
                     refine wpList_append_any _ rfl (.tmp 72) (.tmp 74) 23 rfl (f + 1) 25 i0 _ 4 48 Tryd.underlying23 hi hz0 hz1 hz2 rfl (by omega) _ ys.length zs rfl HOW.out _ (some ⟨V.heap.size,0,none⟩) 1 1 (nd t (some ⟨w11.heap.size,0,none⟩) 2) rfl (reads_nd V t (some ⟨w11.heap.size,0,none⟩) 2) (nd_one t (some ⟨w11.heap.size,0,none⟩) 2) (len_le (by have:=HYS.out; omega)) (by have:=HYS.out; omega) (by have:=HFV.out; rw [size_alloc]; omega) ?_
                     intro v7 w7 hown7 hgrow7 hnew7; obtain ⟨A7,c7,hv7,_⟩:=own_len hown7; subst hv7
                     have HO7:=Lib.hid hown7; have HG7:=Lib.hid hgrow7; have HN7:=Lib.hid hnew7
                     have HNB:Hid (Blk w7 f 25 #[.int .i64 26,.int .i64 N,.int .i64 0,u]):=Lib.hid ((HNF.out.alloc _).grown hgrow7 (fun e=>by have:=(HY.out.1.own.lt _ e.symm).1; omega))
                     have hn77:=HNB.out.cell 3; have f77:=HNB.out.frozen 3; simp only [List.getElem?_toArray,List.getElem?_cons_zero,List.getElem?_cons_succ] at hn77
                     clear hown7 hgrow7 hnew7))
                go_roundw
                case rel =>
                  refine ⟨_,ys ++ [t],zs ++ nd t (some ⟨w11.heap.size,0,none⟩) 2,a2 + 1 + 1 + 1 + 1 + 1,by rw [List.length_append,HYS.out]; show k + 1≤Nn; omega,by rw [List.length_append,HYS.out]; go_num,NodeR.next HY.out.1 HTY.out.rep HTY.out.mkr HTY.out.grown HO7.out HG7.out HN7.out,Types.snoc HY.out.2.1 HIT.out.1 (by rw [HYS.out]; exact HIT.out.2.1) HIT.out.2.2,?_⟩
                  have h5:=HY.out.2.2
                  rw [List.length_append,List.length_singleton]
                  omega
                case measure=>simp [intOf]; omega
              · have dz2:(z2 == 0) = false:=by simp; exact hzz2
                go_upto_region 17 with (first
                  | (go_at_call 42; refine (num_is L S A c g (a2 + 1 + 1) l1 3 _ HM8.out HS.out (HL1.out.keep (Keeps.gw (gw_trans (gw_trans HR.out.1.grown HY.out.1.grown) HG8.out) HI1.out HS.out)) HRL.out (by omega) HLL.out (by omega)).mono ?_; rintro e w9 ⟨rfl,hm9,hm9g⟩; rw [HZ2'.out]))
                have HM9:=Lib.hid hm9
                have HG9:Hid (Wi.grownBy w9 (some g)):=Lib.hid (gw_trans HG8.out hm9g)
                have HT9:Hid (Blk w9 tb 25 #[.int .i64 b0,.int .i64 0,.int .i64 0,.slice none 0 0]):=Lib.hid (HT8.out.gw hm9g (by omega))
                have HF9:Hid (Blk w9 f 25 #[.int .i64 26,.int .i64 N,.int .i64 0,u]):=Lib.hid (HF8.out.gw hm9g (by omega))
                clear hm9 hm9g
                obtain ⟨t,ht⟩:∃ t:T,t = ⟨b0,0,0,[]⟩:=⟨_,rfl⟩
                have HTY:Hid (TypR L A c g tb Wi w9 t none 0 (a2 + 1 + 1 + 1) l1):=Lib.hid (by rw [ht]; exact TypR.leaf HT9.out HM9.out HG9.out (in_small (by omega) (by omega)) in0 in0)
                have HIT:Hid (isType t = true∧((k:Int) < N→isPlain t = true)∧size t≤3):=Lib.hid (by rw [ht]; exact ⟨plain_type (plainT hb00 hb01),fun _=>plainT hb00 hb01,by rw [leaf_size]; omega⟩)
                have HLD:=Lib.hid (blk_load HTY.out.blk)
                have hk1:((t.k:Int)) = (⟨b0,0,0,[]⟩:T).k:=by rw [ht]
                clear ht
                have HNF:Hid (Blk w9 f 25 #[.int .i64 26,.int .i64 N,.int .i64 0,u]):=Lib.hid (HY.out.1.node.gw HTY.out.grown (by omega))
                have uV:=HNF.out.cell 3
                have fV:=HNF.out.frozen 3
                simp only [List.getElem?_toArray,List.getElem?_cons_zero,List.getElem?_cons_succ] at uV
                have HOW:Hid ((w9.alloc (.cells #[.int .i64 t.k,.int .i64 t.n,.int .i64 t.m,.slice none t.kids.length 0] 25)).ownsRow (f + 1) 25 4 u ys.length zs):=Lib.hid ((HY.out.1.own.kept HTY.out.grown (.inr fun e=>by have:=(HY.out.1.own.lt _ e).1; omega)).alloc _)
                have HFV:Hid (f + 1≤w9.heap.size):=Lib.hid (Nat.succ_le_of_lt HNF.out.lt)
                clear hk1
                go_wp2_with (first
                  | (refine wpList_load_mid rfl 25 (.tmp 10) rfl tb 0 rfl [.int .i64 t.k,.int .i64 t.n,.int .i64 t.m,.slice none t.kids.length 0] _ HLD.out Tryd.underlying25 rfl (by rw [size_node]; rfl) ?_)
                  | (at_builtin
                     refine wpList_append_any _ rfl (.tmp 72) (.tmp 74) 23 rfl (f + 1) 25 i0 _ 4 48 Tryd.underlying23 hi hz0 hz1 hz2 rfl (by omega) _ ys.length zs rfl HOW.out _ (some ⟨w9.heap.size,0,none⟩) 1 1 (nd t none 0) rfl (reads_nd w9 t none 0) (nd_one t none 0) (len_le (by have:=HYS.out; omega)) (by have:=HYS.out; omega) (by have:=HFV.out; rw [size_alloc]; omega) ?_
                     intro v7 w7 hown7 hgrow7 hnew7; obtain ⟨A7,c7,hv7,_⟩:=own_len hown7; subst hv7
                     have HO7:=Lib.hid hown7; have HG7:=Lib.hid hgrow7; have HN7:=Lib.hid hnew7
                     have HNB:Hid (Blk w7 f 25 #[.int .i64 26,.int .i64 N,.int .i64 0,u]):=Lib.hid ((HNF.out.alloc _).grown hgrow7 (fun e=>by have:=(HY.out.1.own.lt _ e.symm).1; omega))
                     have hn77:=HNB.out.cell 3; have f77:=HNB.out.frozen 3; simp only [List.getElem?_toArray,List.getElem?_cons_zero,List.getElem?_cons_succ] at hn77
                     clear hown7 hgrow7 hnew7))
                go_roundw
                case rel =>
                  refine ⟨_,ys ++ [t],zs ++ nd t none 0,a2 + 1 + 1 + 1,by rw [List.length_append,HYS.out]; show k + 1≤Nn; omega,by rw [List.length_append,HYS.out]; go_num,NodeR.next HY.out.1 HTY.out.rep HTY.out.mkr HTY.out.grown HO7.out HG7.out HN7.out,Types.snoc HY.out.2.1 HIT.out.1 (by rw [HYS.out]; exact HIT.out.2.1) HIT.out.2.2,?_⟩
                  have h5:=HY.out.2.2
                  rw [List.length_append,List.length_singleton]
                  omega
                case measure=>simp [intOf]; omega
        · have hkN:k = Nn:=by omega
          have HYK:Hid (ys.length = Nn):=Lib.hid (HYS.out.trans hkN)
          have dk:decide ((k:Int) < Nn) = false:=by simp; omega
          have dk2:¬ (k:Int) < Nn:=by omega
          clear hkN hkl
          have HCB:Hid (Calls Tryd.prog 43 #[.pointer (some ⟨g,0,none⟩),.int .i64 4] Wi.drew (GBlockPost L A c g 4 a2 l1 Wi.drew)):=Lib.hid
            (HGS.out l1 a2 Wi.drew HY.out.1.mkr.drew (gw_drew (gw_trans HR.out.1.grown HY.out.1.grown)) (by omega) (by omega) (by omega))
          have HFI:=Lib.hid HY.out.1.node
          have u8:Wi.drew.cell? ⟨f,3,none⟩ = some u:=HFI.out.drew.cell 3
          go_upto_region 18 with fail
          go_region_law (first
            | (refine step_append_any _ rfl (.tmp 78) (.tmp 81) 23 rfl (f + 1) 25 i0 _ 4 48 Tryd.underlying23 hi hz0 hz1 hz2 rfl (by omega) _ ys.length zs rfl HOW3.out _ (some ⟨w3.heap.size, 0, none⟩) 1 1 (nd t A' c') rfl (reads_nd w3 t A' c') (nd_one t A' c') (len_le (by have := HYK.out; omega)) (by have := HYK.out; omega) (by have := HSZ.out; rw [size_alloc]; omega) ?_
               intro v4 w4 hown4 hgrow4 hnew4; obtain ⟨A4,c4,hv4,hcap4⟩:=own_len hown4; subst hv4
               have HO4:=Lib.hid hown4; have HG4:=Lib.hid hgrow4; have HN4:=Lib.hid hnew4; have HCP4:=Lib.hid hcap4
               have HNB:Hid (Blk w4 f 25 #[.int .i64 26,.int .i64 N,.int .i64 0,u]):=Lib.hid ((HN3.out.alloc _).grown hgrow4 (fun e=>by have:=(HY.out.1.own.lt _ e.symm).1; omega))
               have hn44:=HNB.out.cell 3; have f44:=HNB.out.frozen 3; simp only [List.getElem?_toArray,List.getElem?_cons_zero,List.getElem?_cons_succ] at hn44
               clear hown4 hgrow4 hnew4 hcap4)
            | (go_simp; go_at_call 43; refine HCB.out.mono ?_; rintro e1 w3 ⟨t, A', c', a3, l3, rfl, het, hrep3, hm3, hgw3, hacc3, _, _⟩
               have HET:=Lib.hid het; have HRP3:Hid (Rep w3 (fun b=>Wi.heap.size≤b∧b < w3.heap.size) 9 t (nd t A' c')):=Lib.hid hrep3; have HM3:=Lib.hid hm3; have HAC3:=Lib.hid hacc3
               have HW3:Hid (Wi.grownBy w3 (some g)):=Lib.hid ⟨hgw3.os,hgw3.tape,hgw3.output,hgw3.size,hgw3.block⟩
               have HN3:=Lib.hid (HFI.out.gw HW3.out (by omega)); have hn33:=HN3.out.cell 3; simp only [List.getElem?_toArray,List.getElem?_cons_zero,List.getElem?_cons_succ] at hn33
               have HOW3:Hid ((w3.alloc (.cells #[.int .i64 t.k,.int .i64 t.n,.int .i64 t.m,.slice A' t.kids.length c'] 25)).ownsRow (f + 1) 25 4 u ys.length zs):=Lib.hid ((HY.out.1.own.kept HW3.out (.inr fun e=>by have:=(HY.out.1.own.lt _ e).1; omega)).alloc _)
               have hlt3:=HN3.out.lt
               have HSZ:Hid (f + 1≤w3.heap.size):=Lib.hid (Nat.succ_le_of_lt HN3.out.lt)
               clear het hrep3 hm3 hgw3 hacc3))
          all_goals
            obtain ⟨V,hV⟩:∃ V,V = w4.setCell ⟨f,3,none⟩ (.slice A4 (ys.length + 1) c4):=⟨_,rfl⟩
            have HFV:Hid (NodeR L A c g f 9 26 N 0 W0 V (.slice A4 (ys.length + 1) c4) (ys ++ [t]) (zs ++ nd t A' c') a3 l3):=Lib.hid (by rw [hV]; exact NodeR.next (HY.out.1.deeper (by omega)) HRP3.out HM3.out HW3.out HO4.out HG4.out HN4.out)
            obtain ⟨F,hF⟩:∃ F:T,F = ⟨26,N,0,ys ++ [t]⟩:=⟨_,rfl⟩
            have HTYS:Hid (Types N ys∧a2≤a1 + 2 + 5 * ys.length):=Lib.hid HY.out.2
            have hFl:F.kids.length = ys.length + 1:=by rw [hF]; simp
            have hFk:F.k = 26:=by rw [hF]
            have hFn:F.n = N:=by rw [hF]
            have hFm:F.m = 0:=by rw [hF]
            have HRF:Hid (Rep V (fun b=>W0.heap.size≤b∧b < V.heap.size) 10 F (nd F A4 c4)):=Lib.hid (by
              have h:=NodeR.rep (ts:=ys ++ [t]) (A':=A4) (c':=c4) (by rw [List.length_append]; exact HFV.out) (by rw [List.length_append]; exact HCP4.out) (in_small (by omega) (by omega)) (in_small (by omega) (by omega)) in0
              rw [← hF] at h
              exact h.mono fun b hb=>⟨by have:=HWF.out; omega,hb.2⟩)
            have HBF:Hid (Blk V f 25 #[.int .i64 F.k,.int .i64 F.n,.int .i64 F.m,.slice A4 F.kids.length c4]):=Lib.hid (by rw [hFk,hFn,hFm,hFl]; exact HFV.out.node)
            have HFU:Hid (Funs (ts ++ [F]) a3 l3):=Lib.hid (by rw [hF]; exact Funs.snoc HR.out.2 HTYS.out.1 (by omega) (by omega) (by have:=HYK.out; omega) (by have:=HYK.out; omega) HET.out HTYS.out.2 HAC3.out)
            have HLF:=Lib.hid (blk_load HBF.out)
            have HOF:Hid (Blk V o 25 #[.int .i64 27,.int .i64 q0,.int .i64 0,v]):=Lib.hid (HR.out.1.node.gw HFV.out.grown (by omega))
            have oV:=HOF.out.cell 3
            have foV:=HOF.out.frozen 3
            simp only [List.getElem?_toArray,List.getElem?_cons_zero,List.getElem?_cons_succ] at oV
            have HOW:Hid ((V.alloc (.cells #[.int .i64 F.k,.int .i64 F.n,.int .i64 F.m,.slice A4 F.kids.length c4] 25)).ownsRow (o + 1) 25 4 v ts.length xs):=Lib.hid ((HR.out.1.own.kept HFV.out.grown (.inr fun e=>by have:=(HR.out.1.own.lt _ e).1; omega)).alloc _)
            have HOL:Hid (o + 1≤V.heap.size):=Lib.hid (Nat.succ_le_of_lt HOF.out.lt)
            rw [← hV]
            clear hV hF hFl hFk hFn hFm hn44 f44 hn33
            go_wp2_with (first
              | (refine wpList_load_mid rfl 25 (.tmp 7) rfl f 0 rfl [.int .i64 F.k,.int .i64 F.n,.int .i64 F.m,.slice A4 F.kids.length c4] _ HLF.out Tryd.underlying25 rfl (by rw [size_node]; rfl) ?_)
              | (at_builtin
                 refine wpList_append_any _ rfl (.tmp 85) (.tmp 87) 23 rfl (o + 1) 25 i0 _ 4 48 Tryd.underlying23 hi hz0 hz1 hz2 rfl (by omega) _ ts.length xs rfl HOW.out _ (some ⟨V.heap.size,0,none⟩) 1 1 (nd F A4 c4) rfl (reads_nd V F A4 c4) (nd_one F A4 c4) (len_le (by have:=HTS.out; omega)) (by have:=HTS.out; omega) (by have:=HOL.out; rw [size_alloc]; omega) ?_
                 intro v7 w7 hown7 hgrow7 hnew7; obtain ⟨A7,c7,hv7,_⟩:=own_len hown7; subst hv7
                 have HO7:=Lib.hid hown7; have HG7:=Lib.hid hgrow7; have HN7:=Lib.hid hnew7
                 have HNB:Hid (Blk w7 o 25 #[.int .i64 27,.int .i64 q0,.int .i64 0,v]):=Lib.hid ((HOF.out.alloc _).grown hgrow7 (fun e=>by have:=(HR.out.1.own.lt _ e.symm).1; omega))
                 have hn77:=HNB.out.cell 3; have f77:=HNB.out.frozen 3; simp only [List.getElem?_toArray,List.getElem?_cons_zero,List.getElem?_cons_succ] at hn77
                 clear hown7 hgrow7 hnew7))
            go_roundw
            case rel=>exact ⟨_,ts ++ [F],xs ++ nd F A4 c4,a3,l3,by rw [List.length_append,HTS.out]; show j + 1≤n; omega,by rw [List.length_append,HTS.out]; go_num,NodeR.next HR.out.1 HRF.out HFV.out.mkr HFV.out.grown HO7.out HG7.out HN7.out,HFU.out⟩
            case measure=>simp [intOf]; omega
    · have hjn':j = n:=by omega
      obtain ⟨A9,c9,hv,hcap⟩:=own_len HR.out.1.own
      subst hv
      have hz:Blk W0 r 25 #[.int .i64 0,.int .i64 0,.int .i64 0,.slice none 0 0]:=HZ1.out.gw HR.out.1.grown (by omega)
      have HLO:=Lib.hid (blk_load HR.out.1.node)
      have HREP:Hid (Rep W0 (fun b=>o < b∧b < W0.heap.size) 11 ⟨27,q0,0,ts⟩ (nd ⟨27,q0,0,ts⟩ A9 c9)):=Lib.hid (HR.out.1.rep hcap (in_small (by omega) (by omega)) (in_small (by omega) (by omega)) in0)
      have HP:Hid (IsProg ⟨27,q0,0,ts⟩):=Lib.hid (Funs.prog HR.out.2 (by omega) (by omega) (by have:=HTS.out; omega) (by have:=HTS.out; omega) (Nat.le_trans HREP.out.depth_le (by omega))).1
      have HBZ:Hid (Below w.heap.size w W0):=Lib.hid (HB1.out.grown HR.out.1.grown HB1.out.size (fun k hk=>by have:=Option.some.inj hk; have:=HRR.out; omega))
      have z0:=hz.cell 0; have z1:=hz.cell 1; have z2:=hz.cell 2; have z3:=hz.cell 3; have f0:=hz.frozen 0; have f1:=hz.frozen 1; have f2:=hz.frozen 2; have f3:=hz.frozen 3
      simp only [List.getElem?_toArray,List.getElem?_cons_zero,List.getElem?_cons_succ] at z0 z1 z2 z3
      have hjl2:¬ (j:Int) < n:=by omega
      clear hjn' hz hcap hlt
      go_wp2_with (first
        | (refine wpList_load_mid rfl 25 (.tmp 4) rfl o 0 rfl [.int .i64 27,.int .i64 q0,.int .i64 0,.slice A9 ts.length c9] _ HLO.out Tryd.underlying25 rfl (by rw [size_node]; rfl) ?_))
      refine bodyPost_ret (v:=.agg #[.int .i64 27,.int .i64 q0,.int .i64 0,.slice A9 ts.length c9]) (by simp [results,Tryd.results12,go_sem,z0,z1,z2,z3]) rfl ?_
      refine ⟨⟨27,q0,0,ts⟩,A9,c9,rfl,HP.out,(put4_rep HREP.out (fun h=>by have:=h.1; omega) _ _ _ _).mono fun b hb=>?_,put4_below HBZ.out _ _ _ _ (by have:=HRR.out; omega)⟩
      rw [(gw4 _ _ _ _ _ _).2]
      exact ⟨by have:=hb.1; have:=HRR.out; omega,hb.2⟩
end Go.Proofs.YtkkenbalpnmfmaaDoor
