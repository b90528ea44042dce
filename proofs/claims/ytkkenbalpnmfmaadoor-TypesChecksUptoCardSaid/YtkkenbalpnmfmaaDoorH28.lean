/- Texts joined. -/
import Derived.Test.YtkkenbalpnmfmaaDoorH27
import Derived.Test.YtkkenbalpnmfmaaDoorH02
import Derived.Test.YtkkenbalpnmfmaaDoorH24
set_option linter.unusedVariables false
namespace Go.Proofs.YtkkenbalpnmfmaaDoor
open Go.RowKit WM TR

structure BlkR (L:List Int) (A:Option Addr) (c g r gx e a:Nat) (l:Int) (w wr:World) (v:Value) (ts:List T) (xs:List Value) (a':Nat) (l':Int):Prop where
  mkr:Blk wr g 60 (mkc A L.length c a' l')
  grown:w.grownBy wr (some g)
  node:Blk wr gx 25 #[.int .i64 13,.int .i64 0,.int .i64 0,v]
  own:wr.ownsRow (gx + 1) 25 4 v ts.length xs
  reps:Reps wr (fun b=>gx < b∧b < wr.heap.size∧v.ownBlock≠some b) (4 + e) ts xs
  res:Blk wr r 25 #[.int .i64 0,.int .i64 0,.int .i64 0,.slice none 0 0]
  all:ts.all isStmt = true
  acc:Acc2 (a + 1) a' (l - 1) l' ((ts.map size).sum) 0
theorem BlkR.next {L : List Int} {A : Option Addr} {c g r gx e a : Nat} {l : Int} {w wr w3 w4 : World} {v v4 : Value} {ts : List T} {xs : List Value} {a' a2 : Nat} {l' l2 : Int} {t : T} {A' : Option Addr} {c' : Nat} {o : Obj} (hgr : g < r) (hrx : r < gx) (hrw : r = w.heap.size)
    (h:BlkR L A c g r gx e a l w wr v ts xs a' l') (he:isStmt t = true) (hr:Rep w3 (fun b=>wr.heap.size≤b∧b < w3.heap.size) (4 + e) t (nd t A' c')) (hm:Blk w3 g 60 (mkc A L.length c a2 l2)) (hg3:wr.grownBy w3 (some g)) (hacc:Acc2 a' a2 l' l2 (size t) 0)
    (hown4:w4.ownsRow (gx + 1) 25 4 v4 (ts.length + 1) (xs ++ nd t A' c')) (hg4:(w3.alloc o).grownBy w4 v.ownBlock) (hnew:v4.ownBlock = v.ownBlock∨v4.ownBlock = some (w3.alloc o).heap.size) :
    BlkR L A c g r gx e a l w (w4.setCell ⟨gx,3,none⟩ v4) v4 (ts ++ [t]) (xs ++ nd t A' c') a2 l2:=by
  have hv:=h.own.lt
  have hv4:=hown4.lt
  have hs0:=h.grown.size
  have hs3:=hg3.size
  have hs4:=hg4.size
  have hgx:=h.node.lt
  have hsa:(w3.alloc o).heap.size = w3.heap.size + 1:=size_alloc _ _
  have hss:(w4.setCell ⟨gx,3,none⟩ v4).heap.size = w4.heap.size:=World.size_setCell _ _ _
  have keep4:∀ b,b < w3.heap.size→v.ownBlock≠some b→w4.heap[b]? = w3.heap[b]?:=fun b hb hne =>
    (hg4.block b (by omega) (fun e=>hne e.symm)).trans (Below.heap_alloc w3 o b hb)
  have keep:∀ b,b < w3.heap.size→b≠gx→v.ownBlock≠some b→(w4.setCell ⟨gx,3,none⟩ v4).heap[b]? = w3.heap[b]?:=fun b hb hx hne =>
    (Below.heap_setCell w4 ⟨gx,3,none⟩ v4 b hx).trans (keep4 b hb hne)
  have sort:∀ b,b < w3.heap.size→v.ownBlock≠some b→v4.ownBlock≠some b:=fun b hb hne e=>by
    rcases hnew with hn | hn
    · exact hne (hn ▸ e)
    · rw [hn] at e; have:=Option.some.inj e; omega
  refine ⟨?_,?_,?_,?_,?_,?_,by rw [List.all_append,h.all]; simp [he],?_⟩
  · exact (keep g (by omega) (by omega) (fun e=>by have:=(hv g e).1; omega)).trans hm
  · exact gw_setCell (gw_row (gw_alloc (gw_trans h.grown hg3) o) hg4 (fun b hb=>by have:=(hv b hb).1; omega)) (.inr (by show w.heap.size≤gx; omega)) _
  · have h1:Blk w3 gx 25 #[.int .i64 13,.int .i64 0,.int .i64 0,v]:=h.node.gw hg3 (by omega)
    have h2:=((h1.alloc o).grown hg4 (fun e=>by have:=(hv gx e.symm).1; omega)).set_ 3 v4
    simpa using h2
  · rw [List.length_append]
    exact hown4.kept (gw_setCell (g:=gx) (gw_refl w4 gx) (.inl rfl) v4) (.inr fun e=>by have:=(hv4 gx e).1; omega)
  · refine Reps.snoc ((h.reps.keep (w':=w4.setCell ⟨gx,3,none⟩ v4) (fun b hb=>?_)).mono fun b hb=>?_) ((hr.keep (w':=w4.setCell ⟨gx,3,none⟩ v4) (fun b hb=>?_)).mono fun b hb=>?_)
    · exact (keep b (by omega) (by omega) hb.2.2).trans (hg3.block b hb.2.1 (fun e=>by have:=Option.some.inj e; omega))
    · exact ⟨hb.1,by omega,sort b (by omega) hb.2.2⟩
    · exact keep b hb.2 (by omega) (fun e=>by have:=(hv b e).2; omega)
    · have hne:v.ownBlock≠some b:=fun e=>by have:=(hv b e).2; omega
      exact ⟨by omega,by omega,sort b hb.2 hne⟩
  · have h1:Blk w3 r 25 #[.int .i64 0,.int .i64 0,.int .i64 0,.slice none 0 0]:=h.res.gw hg3 (by omega)
    exact (keep r (by omega) (by omega) (fun e=>by have:=(hv r e).1; omega)).trans h1
  · have:=h.acc.add hacc
    simpa using this

set_option maxRecDepth 100000 in
set_option maxHeartbeats 8000000 in
theorem gblock_step (L:List Int) (S:Nat→Prop) (A:Option Addr) (c g d:Nat) (hr:∀ x ∈ L,inRange x) (hl:L.length≤9223372036854775807) (hS:∀ b,S b→b≠g) (hE:GStmtC L S A c g d):GBlockC L S A c g d:=by
  intro a l w hm hin hL ha hla hl2 D hD
  obtain ⟨i0,hi,hz0,hz1,hz2⟩:=info_parts node_info
  have HE:=Lib.hid hE
  have HRL:=Lib.hid hr
  have HLL:=Lib.hid hl
  have HS:=Lib.hid hS
  have HI:=Lib.hid hin
  have HL:=Lib.hid hL
  have HD:=Lib.hid hD
  have hqb:=numAt_le (L:=L) (a:=a) (n:=4) (by omega)
  obtain ⟨q,hq⟩:∃ q:Nat,numAt L a 4 = (q:Int):=⟨(numAt L a 4).toNat,by omega⟩
  have hq3:q≤3:=by omega
  have HQ:=Lib.hid hq
  obtain ⟨r,hrr⟩:∃ r,r = w.heap.size:=⟨_,rfl⟩
  have hgr:g < r:=by rw [hrr]; exact hm.lt
  have HRR:=Lib.hid hrr
  go_enter Tryd.func43,Tryd.ntmps43
  go_upto_region 2 with fail
  obtain ⟨W1,hW1⟩:∃ W1,W1 = (w.alloc (.cells #[.int .i64 0,.int .i64 0,.int .i64 0,.slice none 0 0] 25)).alloc (.cells #[.int .i64 13,.int .i64 0,.int .i64 0,.slice none 0 0] 25):=⟨_,rfl⟩
  have HM1:Hid (Blk W1 g 60 (mkc A L.length c a l)):=Lib.hid (by rw [hW1]; exact hm.below (ba (below_new _ _) _) hm.lt)
  have HZ1:Hid (Blk W1 r 25 #[.int .i64 0,.int .i64 0,.int .i64 0,.slice none 0 0]):=Lib.hid (by rw [hW1,hrr]; exact blk_new3 _ _ _ _)
  have HX1:Hid (Blk W1 (r + 1) 25 #[.int .i64 13,.int .i64 0,.int .i64 0,.slice none 0 0]):=Lib.hid (by rw [hW1,hrr]; exact blk_new2 _ _ _ _)
  have HG1:Hid (w.grownBy W1 (some g)):=Lib.hid (by rw [hW1]; exact gw_alloc (gw_alloc (gw_refl w g) _) _)
  rw [← hW1,← hrr]
  clear hW1 hrr hm hin hL hE hr hl hS hD hq hqb
  go_upto_region 3 with (first
    | (go_at_call 42; refine (num_is L S A c g _ _ _ _ HM1.out HS.out (HL.out.keep (Keeps.gw HG1.out HI.out HS.out)) HRL.out (by omega) HLL.out (by omega)).mono ?_; rintro e w2 ⟨rfl,hm2,hg2⟩; rw [HQ.out]))
  have h2:=hm2.cell 2
  have f2:=hm2.frozen 2
  simp only [mkc,List.getElem?_toArray,List.getElem?_cons_zero,List.getElem?_cons_succ] at h2
  have HM2:=Lib.hid hm2
  have HG2:=Lib.hid hg2
  clear hm2 hg2
  have hlw:IntKind.i64.wrap (l - 1) = l - 1:=by rw [IntKind.wrap_i64]; omega
  go_wp2_with fail
  obtain ⟨W3,hW3⟩:∃ W3,W3 = w2.setCell ⟨g,2,none⟩ (.int .i64 (l - 1)):=⟨_,rfl⟩
  have HG3:Hid (W1.grownBy W3 (some g)):=Lib.hid (by rw [hW3]; exact gw_setCell HG2.out (.inl rfl) _)
  have HR3:Hid (BlkR L A c g r (r + 1) d a l w W3 (.slice none 0 0) [] [] (a + 1) (l - 1)):=Lib.hid
    ⟨by rw [hW3]; exact HM2.out.set_ 2 _,gw_trans HG1.out HG3.out,HX1.out.gw HG3.out (by omega),World.ownsRow_nil _ _ _ _,Reps.nil,HZ1.out.gw HG3.out (by omega),rfl,Acc2.nil _ _⟩
  rw [← hW3]
  clear hW3 h2 f2 hlw
  go_loopw [7] (fun i wr=>∃ (v:Value) (ts:List T) (xs:List Value) (a':Nat) (l':Int),ts.length≤q∧i = .int .i64 (ts.length:Int)∧Hid (BlkR L A c g r (r + 1) d a l w wr v ts xs a' l')) (fun i _=>q - (intOf i).toNat)
  case atStart=>exact ⟨_,[],[],a + 1,l - 1,Nat.zero_le _,rfl,HR3.out⟩
  case round =>
    obtain ⟨v,ts,xs,a1,l1,hjq,rfl,HR⟩:=hrel
    obtain ⟨j,hj⟩:∃ j,ts.length = j:=⟨_,rfl⟩
    have hg2:=HR.out.mkr.cell 2
    have hx3:=HR.out.node.cell 3
    simp only [mkc,List.getElem?_toArray,List.getElem?_cons_zero,List.getElem?_cons_succ] at hg2 hx3
    have HTS:=Lib.hid hj
    rw [hj] at hjq ⊢
    clear hj
    by_cases hcont:j < q∧0 < l1
    · obtain ⟨hlt,hpos⟩:=hcont
      have hlt2:(j:Int) < q:=by omega
      have hacc:=HR.out.acc
      have ha1:a1 + 30000 * d + 90000≤900000:=by cases hacc; omega
      have hl1:-900000 + 30000 * (d:Int) + 90000≤l1:=by cases hacc; omega
      have hl3:l1≤1000:=by cases hacc; omega
      have HC:Hid (Calls Tryd.prog 69 #[.pointer (some ⟨g,0,none⟩),.int .i64 (D - 1)] wr.drew (GStmtPost L A c g d a1 l1 wr.drew)):=Lib.hid (HE.out a1 l1 wr.drew HR.out.mkr.drew (HI.out.more HR.out.grown.size) (HL.out.keep (Keeps.gw (gw_drew HR.out.grown) HI.out HS.out)) ha1 hl1 hl3 (by omega) (D - 1) (by have:=HD.out; omega))
      have hDw:IntKind.i64.wrap (D - 1) = D - 1:=by rw [IntKind.wrap_i64]; have:=HD.out; omega
      have d3:wr.drew.cell? ⟨r + 1,3,none⟩ = some v:=hx3
      clear hacc ha1 hl1 hl3
      go_wp2_with fail
      go_region_law (first
        | (refine step_append_any _ rfl (.tmp 31) (.tmp 36) 23 rfl (r + 1 + 1) 25 i0 _ 4 48 Tryd.underlying23 hi hz0 hz1 hz2 rfl (by omega) _ ts.length xs rfl HOW3.out _ (some ⟨w3.heap.size, 0, none⟩) 1 1 (nd t A' c') rfl (reads_nd w3 t A' c') (nd_one t A' c') (len_le (by have := HTS.out; omega)) (by have := HTS.out; omega) (by have := HSZ.out; rw [size_alloc]; omega) ?_
           intro v4 w4 hown4 hgrow4 hnew4; obtain ⟨A4,c4,hv4,hcap4⟩:=own_len hown4; subst hv4
           have HO4:=Lib.hid hown4; have HG4:=Lib.hid hgrow4; have HN4:=Lib.hid hnew4
           have HNB:Hid (Blk w4 (r + 1) 25 #[.int .i64 13,.int .i64 0,.int .i64 0,v]):=Lib.hid ((HN3.out.alloc _).grown hgrow4 (fun e=>by have:=(HR.out.own.lt _ e.symm).1; omega))
           have hn44:=HNB.out.cell 3; have f44:=HNB.out.frozen 3; simp only [List.getElem?_toArray,List.getElem?_cons_zero,List.getElem?_cons_succ] at hn44
           clear hown4 hgrow4 hnew4)
        | (go_simp; go_at_call 69; refine HC.out.mono ?_; rintro e1 w3 ⟨t, A', c', a2, l2, rfl, het, hrep3, hm3, hgw3, hacc3⟩
           have HET:=Lib.hid het; have HRP3:Hid (Rep w3 (fun b=>wr.heap.size≤b∧b < w3.heap.size) (4 + d) t (nd t A' c')):=Lib.hid hrep3; have HM3:=Lib.hid hm3; have HAC3:=Lib.hid hacc3
           have HW3:Hid (wr.grownBy w3 (some g)):=Lib.hid ⟨hgw3.os,hgw3.tape,hgw3.output,hgw3.size,hgw3.block⟩
           have HN3:=Lib.hid (HR.out.node.gw HW3.out (by omega)); have hn33:=HN3.out.cell 3; simp only [List.getElem?_toArray,List.getElem?_cons_zero,List.getElem?_cons_succ] at hn33
           have HOW3:Hid ((w3.alloc (.cells #[.int .i64 t.k,.int .i64 t.n,.int .i64 t.m,.slice A' t.kids.length c'] 25)).ownsRow (r + 1 + 1) 25 4 v ts.length xs):=Lib.hid ((HR.out.own.kept HW3.out (.inr fun e=>by have:=(HR.out.own.lt _ e).1; omega)).alloc _)
           have hlt3:=HN3.out.lt
           have HSZ:Hid (r + 1 + 1≤w3.heap.size):=Lib.hid (Nat.succ_le_of_lt HN3.out.lt)
           clear het hrep3 hm3 hgw3 hacc3))
      all_goals
        go_wp2_with fail
        go_roundw
        case rel=>exact ⟨_,ts ++ [t],xs ++ nd t A' c',a2,l2,by rw [List.length_append,HTS.out]; show j + 1≤q; omega,by rw [List.length_append,HTS.out]; go_num,BlkR.next hgr (Nat.lt_succ_self r) HRR.out HR.out HET.out HRP3.out HM3.out HW3.out HAC3.out HO4.out HG4.out HN4.out⟩
        case measure=>simp [intOf]; omega
    · obtain ⟨A9,c9,hv,hcap⟩:=own_len HR.out.own
      subst hv
      have hz:=HR.out.res
      have HNL:Hid (∀ i z,([.int .i64 13,.int .i64 0,.int .i64 0,.slice A9 ts.length c9]:List Value)[i]? = some z→wr.cell? ⟨r + 1,0 + i,none⟩ = some z):=Lib.hid (fun i z hz=>by rw [HR.out.node.cell (0 + i),Nat.zero_add]; simpa using hz)
      have z0:=hz.cell 0; have z1:=hz.cell 1; have z2:=hz.cell 2; have z3:=hz.cell 3; have f0:=hz.frozen 0; have f1:=hz.frozen 1; have f2:=hz.frozen 2; have f3:=hz.frozen 3
      simp only [List.getElem?_toArray,List.getElem?_cons_zero,List.getElem?_cons_succ] at z0 z1 z2 z3
      have HCAP:=Lib.hid hcap
      have HFIN:Hid (∀ v0 v1 v2 v3:Value,GBlockPost L A c g d a l w (.returned (.agg #[.int .i64 13,.int .i64 0,.int .i64 0,.slice A9 ts.length c9])) ((((wr.setCell ⟨r,0,none⟩ v0).setCell ⟨r,1,none⟩ v1).setCell ⟨r,2,none⟩ v2).setCell ⟨r,3,none⟩ v3)):=Lib.hid (fun v0 v1 v2 v3=>by
        have h4:=gw4 wr r v0 v1 v2 v3
        have hown:=HR.out.own
        have hreps:=HR.out.reps
        have hs:size ⟨13,0,0,ts⟩ = 1 + (ts.map size).sum:=size_eq _
        have hacc:=HR.out.acc
        have hrl:=HR.out.res.lt
        have hrw:=HRR.out
        have hrep:Rep wr (fun b=>r < b∧b < wr.heap.size) (5 + d) ⟨13,0,0,ts⟩ (nd ⟨13,0,0,ts⟩ A9 c9):=Rep.deeper (d:=4 + d + 1) (by omega) (Rep.mk (by unfold inRange; omega) (by unfold inRange; omega) (by unfold inRange; omega) HCAP.out ((Rd.of_own hown).mono fun b hb=>⟨by have:=hb.1; omega,hb.2⟩) (hreps.mono fun b hb=>⟨by have:=hb.1; omega,hb.2.1⟩))
        refine ⟨⟨13,0,0,ts⟩,A9,c9,a1,l1,rfl,?_,(put4_rep hrep (fun h=>by have:=h.1; omega) _ _ _ _).mono fun b hb=>?_,HR.out.mkr.gw h4.1 (by omega),?_,?_,?_,?_⟩
        · rw [isBlock_eq]
          show (((13:Int) == 13 && btw ⟨13,0,0,ts⟩ 0 0 0 8) && ts.all isStmt) = true
          rw [HR.out.all]
          have:=HTS.out
          simp [btw]
          omega
        · rw [h4.2]; exact ⟨by have:=hb.1; omega,hb.2⟩
        · exact gw_setCell (gw_setCell (gw_setCell (gw_setCell HR.out.grown (.inr (Nat.le_of_eq hrw.symm)) _) (.inr (Nat.le_of_eq hrw.symm)) _) (.inr (Nat.le_of_eq hrw.symm)) _) (.inr (Nat.le_of_eq hrw.symm)) _
        · rw [hs]
          obtain ⟨k3,k4,k5,k6,k7⟩:=hacc
          exact ⟨by omega,by omega,by omega,by omega,by omega⟩
        · rw [hs]; obtain ⟨k3,k4,k5,k6,k7⟩:=hacc; omega
        · rw [hs]; obtain ⟨k3,k4,k5,k6,k7⟩:=hacc; omega)
      clear hz hcap
      by_cases hlt:j < q
      · have hnp:decide (0 < l1) = false:=by simp; omega
        have hnp2:l1≤0:=by omega
        have hlt2:(j:Int) < q:=by omega
        clear hcont
        go_wp2_with (first
          | (refine wpList_load_mid rfl 25 (.tmp 5) rfl (r + 1) 0 rfl [.int .i64 13,.int .i64 0,.int .i64 0,.slice A9 ts.length c9] _ HNL.out Tryd.underlying25 rfl (by rw [size_node]; rfl) ?_))
        refine bodyPost_ret (v:=.agg #[.int .i64 13,.int .i64 0,.int .i64 0,.slice A9 ts.length c9]) (by simp [results,Tryd.results43,go_sem,z0,z1,z2,z3]) rfl ?_
        exact HFIN.out _ _ _ _
      · have hnj:decide ((j:Int) < q) = false:=by simp; omega
        have hnj2:decide (j < q) = false:=by simp; omega
        clear hcont
        go_wp2_with (first
          | (refine wpList_load_mid rfl 25 (.tmp 5) rfl (r + 1) 0 rfl [.int .i64 13,.int .i64 0,.int .i64 0,.slice A9 ts.length c9] _ HNL.out Tryd.underlying25 rfl (by rw [size_node]; rfl) ?_))
        refine bodyPost_ret (v:=.agg #[.int .i64 13,.int .i64 0,.int .i64 0,.slice A9 ts.length c9]) (by simp [results,Tryd.results43,go_sem,z0,z1,z2,z3]) rfl ?_
        exact HFIN.out _ _ _ _
theorem gboth (L:List Int) (S:Nat→Prop) (A:Option Addr) (c g:Nat) (hr:∀ x ∈ L,inRange x) (hl:L.length≤9223372036854775807) (hS:∀ b,S b→b≠g) (d:Nat):GStmtC L S A c g d∧GBlockC L S A c g d:=by
  induction d using Nat.strongRecOn with
  | ind d ih =>
    have h1:GStmtC L S A c g d:=gstmt_step L S A c g d hr hl hS fun e he=>⟨(ih e (by omega)).2,(ih (e + 1) (by omega)).2⟩
    exact ⟨h1,gblock_step L S A c g d hr hl hS h1⟩
end Go.Proofs.YtkkenbalpnmfmaaDoor

namespace Go.Proofs.YtkkenbalpnmfmaaDoor.TR

end Go.Proofs.YtkkenbalpnmfmaaDoor.TR

namespace Go.Proofs.YtkkenbalpnmfmaaDoor
open Go.RowKit WM TR

structure NodeR (L:List Int) (A:Option Addr) (c g gx D:Nat) (k n m:Int) (w wr:World) (v:Value) (ts:List T) (xs:List Value) (a':Nat) (l':Int):Prop where
 mkr:Blk wr g 60 (mkc A L.length c a' l')
 grown:w.grownBy wr (some g)
 node:Blk wr gx 25 #[.int .i64 k,.int .i64 n,.int .i64 m,v]
 own:wr.ownsRow (gx + 1) 25 4 v ts.length xs
 reps:Reps wr (fun b=>gx < b∧b < wr.heap.size∧v.ownBlock≠some b) D ts xs
 lo:w.heap.size≤gx
 gl:g < w.heap.size
section
variable {L:List Int} {A:Option Addr} {c g gx D:Nat} {k n m:Int} {w wr w3 w4:World} {v v4:Value} {ts:List T} {xs:List Value} {a' a2:Nat} {l' l2:Int} {t:T} {A':Option Addr} {c':Nat} {o:Obj}
theorem NodeR.next (h : NodeR L A c g gx D k n m w wr v ts xs a' l') (hr : Rep w3 (fun b => wr.heap.size ≤ b ∧ b < w3.heap.size) D t (nd t A' c')) (hm : Blk w3 g 60 (mkc A L.length c a2 l2)) (hg3 : wr.grownBy w3 (some g))
  (hown4:w4.ownsRow (gx + 1) 25 4 v4 (ts.length + 1) (xs ++ nd t A' c')) (hg4:(w3.alloc o).grownBy w4 v.ownBlock) (hnew:v4.ownBlock = v.ownBlock∨v4.ownBlock = some (w3.alloc o).heap.size) :
  NodeR L A c g gx D k n m w (w4.setCell ⟨gx,3,none⟩ v4) v4 (ts ++ [t]) (xs ++ nd t A' c') a2 l2:=by
 have hv:=h.own.lt
 have hv4:=hown4.lt
 have hlo:=h.lo
 have hmk:=h.gl
 have hs0:=h.grown.size
 have hs3:=hg3.size
 have hs4:=hg4.size
 have hgx:=h.node.lt
 have hsa:(w3.alloc o).heap.size = w3.heap.size + 1:=size_alloc _ _
 have hss:(w4.setCell ⟨gx,3,none⟩ v4).heap.size = w4.heap.size:=World.size_setCell _ _ _
 have keep4:∀ b,b < w3.heap.size→v.ownBlock≠some b→w4.heap[b]? = w3.heap[b]?:=fun b hb hne =>
  (hg4.block b (by omega) (fun e=>hne e.symm)).trans (Below.heap_alloc w3 o b hb)
 have keep:∀ b,b < w3.heap.size→b≠gx→v.ownBlock≠some b→(w4.setCell ⟨gx,3,none⟩ v4).heap[b]? = w3.heap[b]?:=fun b hb hx hne =>
  (Below.heap_setCell w4 ⟨gx,3,none⟩ v4 b hx).trans (keep4 b hb hne)
 have sort:∀ b,b < w3.heap.size→v.ownBlock≠some b→v4.ownBlock≠some b:=fun b hb hne e=>by
  rcases hnew with hn | hn
  ·exact hne (hn ▸ e)
  ·rw [hn] at e; have:=Option.some.inj e; omega
 refine ⟨?_,?_,?_,?_,?_,hlo,hmk⟩
 ·exact (keep g (by omega) (by omega) (fun e=>by have:=(hv g e).1; omega)).trans hm
 ·exact gw_setCell (gw_row (gw_alloc (gw_trans h.grown hg3) o) hg4 (fun b hb=>by have:=(hv b hb).1; omega)) (.inr hlo) _
 ·have h1:Blk w3 gx 25 #[.int .i64 k,.int .i64 n,.int .i64 m,v]:=h.node.gw hg3 (by omega)
  have h2:=((h1.alloc o).grown hg4 (fun e=>by have:=(hv gx e.symm).1; omega)).set_ 3 v4
  simpa using h2
 ·rw [List.length_append]
  exact hown4.kept (gw_setCell (g:=gx) (gw_refl w4 gx) (.inl rfl) v4) (.inr fun e=>by have:=(hv4 gx e).1; omega)
 ·refine Reps.snoc ((h.reps.keep (w':=w4.setCell ⟨gx,3,none⟩ v4) (fun b hb=>?_)).mono fun b hb=>?_) ((hr.keep (w':=w4.setCell ⟨gx,3,none⟩ v4) (fun b hb=>?_)).mono fun b hb=>?_)
  ·exact (keep b (by omega) (by omega) hb.2.2).trans (hg3.block b hb.2.1 (fun e=>by have:=Option.some.inj e; omega))
  ·exact ⟨hb.1,by omega,sort b (by omega) hb.2.2⟩
  ·exact keep b hb.2 (by omega) (fun e=>by have:=(hv b e).2; omega)
  ·have hne:v.ownBlock≠some b:=fun e=>by have:=(hv b e).2; omega
   exact ⟨by omega,by omega,sort b hb.2 hne⟩
theorem NodeR.deeper {D':Nat} (hD:D≤D') (h:NodeR L A c g gx D k n m w wr v ts xs a' l'):NodeR L A c g gx D' k n m w wr v ts xs a' l' :=
 ⟨h.mkr,h.grown,h.node,h.own,h.reps.deeper hD,h.lo,h.gl⟩
theorem NodeR.rep {A' : Option Addr} {c' : Nat} (h : NodeR L A c g gx D k n m w wr (.slice A' ts.length c') ts xs a' l') (hc : ts.length ≤ c') (hk : inRange k) (hn : inRange n) (hm : inRange m) :
  Rep wr (fun b=>gx < b∧b < wr.heap.size) (D + 1) ⟨k,n,m,ts⟩ (nd ⟨k,n,m,ts⟩ A' c') :=
 Rep.mk hk hn hm hc ((Rd.of_own h.own).mono fun b hb=>⟨by have:=hb.1; omega,hb.2⟩) (h.reps.mono fun b hb=>⟨hb.1,hb.2.1⟩)
theorem NodeR.gw (h:NodeR L A c g gx D k n m w wr v ts xs a' l') (hg:wr.grownBy w3 (some g)) (hm:Blk w3 g 60 (mkc A L.length c a2 l2)):NodeR L A c g gx D k n m w w3 v ts xs a2 l2:=by
 have hlo:=h.lo
 have hmk:=h.gl
 have hv:=h.own.lt
 have hs:=hg.size
 refine ⟨hm,gw_trans h.grown hg,h.node.gw hg (by omega),h.own.kept hg (.inr fun e=>by have:=(hv _ e).1; omega),(h.reps.keep (w':=w3) (fun b hb=>hg.block b hb.2.1 (fun e=>by have:=Option.some.inj e; omega))).mono fun b hb=>⟨hb.1,by omega,hb.2.2⟩,hlo,hmk⟩
theorem NodeR.start {a : Nat} {l : Int} (hm : Blk wr g 60 (mkc A L.length c a l)) (hg : w.grownBy wr (some g)) (hn : Blk wr gx 25 #[.int .i64 k, .int .i64 n, .int .i64 m, .slice none 0 0]) (hlo : w.heap.size ≤ gx) (hmk : g < w.heap.size) :
  NodeR L A c g gx D k n m w wr (.slice none 0 0) [] [] a l :=
 ⟨hm,hg,hn,World.ownsRow_nil _ _ _ _,Reps.nil,hlo,hmk⟩
end
end Go.Proofs.YtkkenbalpnmfmaaDoor
namespace Go.Proofs.YtkkenbalpnmfmaaDoor.TR
def Types (N:Int) (ts:List T):Prop:=(∀ (i:Nat) (u:T),ts[i]? = some u→isType u = true∧((i:Int) < N→isPlain u = true))∧(ts.map size).sum≤3 * ts.length
theorem Types.nil (N:Int):Types N []:=⟨fun i u h=>by simp at h,by simp⟩
theorem Types.snoc {N:Int} {ts:List T} {t:T} (h:Types N ts) (h1:isType t = true) (h2:(ts.length:Int) < N→isPlain t = true) (h3:size t≤3):Types N (ts ++ [t]):=by
 refine ⟨fun i u hu=>?_,?_⟩
 ·by_cases hi:i < ts.length
  ·rw [List.getElem?_append_left hi] at hu; exact h.1 i u hu
  ·rw [List.getElem?_append_right (by omega)] at hu
   have hi2:i - ts.length = 0:=by
    have:=(List.getElem?_eq_some_iff.1 hu).1
    simp at this; omega
   rw [hi2] at hu
   simp only [List.getElem?_cons_zero,Option.some.injEq] at hu
   subst hu
   exact ⟨h1, fun hN => h2 (by have : i = ts.length := by omega
                               rw [← this]; exact hN)⟩
 ·have:=h.2
  simp only [List.map_append,List.map_cons,List.map_nil,List.sum_append,List.sum_cons,List.sum_nil,List.length_append,List.length_cons,List.length_nil]
  omega
theorem plainT {q:Int} (h0:0≤q) (h1:q < 2):isPlain ⟨q,0,0,[]⟩ = true:=by
 have:q = 0∨q = 1:=by omega
 rcases this with rfl | rfl <;> rfl
theorem plain_type {t:T} (h:isPlain t = true):isType t = true:=by
 have h':=h
 unfold isPlain at h'
 simp only [Bool.and_eq_true,Bool.or_eq_true,beq_iff_eq] at h'
 unfold isType
 rw [if_neg (by simp; omega),if_neg (by simp; omega)]
 exact h
theorem arrT {q:Int} (h0:0≤q) (h1:q < 4):isType ⟨2,1 + q,0,[]⟩ = true:=by
 simp [isType]; omega
theorem recT {a b:Int} (ha:0≤a) (ha':a < 2) (hb:0≤b) (hb':b < 2):isType ⟨3,0,0,[⟨a,0,0,[]⟩,⟨b,0,0,[]⟩]⟩ = true:=by
 simp [isType,plainT ha ha',plainT hb hb']
theorem leaf_size (k n m:Int):size ⟨k,n,m,[]⟩ = 1:=by rw [size_eq]; rfl
theorem rec_size (a b:Int):size ⟨3,0,0,[⟨a,0,0,[]⟩,⟨b,0,0,[]⟩]⟩ = 3:=by rw [size_eq]; simp [leaf_size]
structure Funs (ts:List T) (a':Nat) (l':Int):Prop where
 all:∀ (i:Nat) (u:T),ts[i]? = some u→isFun u = true
 sum:(((ts.map size).sum:Nat):Int)≤14 * ts.length + 4 * (45 - max l' 0)
 hi:a'≤2 + 30 * ts.length + 3 * (ts.map size).sum
 le:l'≤45
 lo:45 - 2 * (((ts.map size).sum:Nat):Int)≤l'
theorem Funs.nil:Funs [] 2 45:=⟨fun i u h=>by simp at h,by simp; omega,by simp,by omega,by simp⟩
theorem Funs.snoc {ts ys : List T} {N : Int} {b : T} {a a1 a2 : Nat} {l l2 : Int} (h : Funs ts a l) (hy : Types N ys) (hN : 0 ≤ N) (hN2 : N ≤ 3) (hNy : N ≤ ys.length) (hl : ys.length ≤ 4) (hb : isBlock b = true) (ha : a1 ≤ a + 2 + 5 * ys.length)
  (hacc:Acc2 a1 a2 l l2 (size b) 1):Funs (ts ++ [⟨26,N,0,ys ++ [b]⟩]) a2 l2:=by
 obtain ⟨h1,h2,h3,h4,h5⟩:=h
 obtain ⟨k1,k2,k3,k4,k5⟩:=hacc
 have hsz:size ⟨26,N,0,ys ++ [b]⟩ = 1 + (ys.map size).sum + size b:=by
  rw [size_eq]; simp; omega
 have hy2:=hy.2
 refine ⟨fun i u hu=>?_,?_,?_,by omega,?_⟩
 ·by_cases hi:i < ts.length
  ·rw [List.getElem?_append_left hi] at hu; exact h1 i u hu
  ·rw [List.getElem?_append_right (by omega)] at hu
   have hi2:i - ts.length = 0:=by
    have:=(List.getElem?_eq_some_iff.1 hu).1
    simp at this; omega
   rw [hi2] at hu
   simp only [List.getElem?_cons_zero,Option.some.injEq] at hu
   subst hu
   refine isFun_true ⟨rfl,?_,?_,?_,?_⟩
   ·simp [btw]; omega
   ·simp; omega
   ·intro j u hj hu
    simp only [List.length_append,List.length_cons,List.length_nil] at hj
    simp only at hu
    rw [List.getElem?_append_left (by omega)] at hu
    exact hy.1 j u hu
   ·intro u hu
    simp only [List.length_append,List.length_cons,List.length_nil] at hu
    rw [List.getElem?_append_right (by omega)] at hu
    simp at hu
    rw [← hu]; exact hb
 all_goals
  simp only [List.map_append,List.map_cons,List.map_nil,List.sum_append,List.sum_cons,List.sum_nil,List.length_append,List.length_cons,List.length_nil,hsz]
  omega
theorem Funs.prog {ts:List T} {a:Nat} {l n:Int} (h:Funs ts a l) (h0:0≤n) (h3:n≤3) (hl:1≤ts.length) (hl3:ts.length≤3) (hd:depth ⟨27,n,0,ts⟩≤16):IsProg ⟨27,n,0,ts⟩∧size ⟨27,n,0,ts⟩≤256:=by
 have hs:size ⟨27,n,0,ts⟩≤256:=by
  have:=h.sum
  rw [size_eq]
  simp only
  omega
 refine ⟨⟨rfl,?_,hs,hd,h.all⟩,hs⟩
 simp [btw]; omega
end Go.Proofs.YtkkenbalpnmfmaaDoor.TR
