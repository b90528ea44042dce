/- Texts joined. -/
import Derived.Test.YtkkenbalpnmfmaaDoorJ16
set_option linter.unusedVariables false
namespace Go.Proofs.YtkkenbalpnmfmaaDoor
open Go.RowKit WM TR TY

theorem zboth (m:Par) (s:Sc) (Dp:Nat):∀ e,e≤3→SC m s Dp e∧BC m s Dp e
 | 0,_=>by
  have h:=zstmt_step m s Dp 0 (by omega) (fun f hf=>by omega)
  exact ⟨h,zblock_step m s Dp 0 (by omega) h⟩
 | e + 1,he=>by
  have ih:=zboth m s Dp e (by omega)
  have h:=zstmt_step m s Dp (e + 1) he (fun f hf=>by
   obtain rfl:f = e:=by omega
   exact ih)
  exact ⟨h,zblock_step m s Dp (e + 1) he h⟩
structure Nx (m:Par) (w:World):Prop where
 hL:Rd w m.S 1 m.A m.L.length (vi m.L)
 hr:∀ x ∈ m.L,inRange x
 hl:m.L.length≤9223372036854775807
 hS:∀ b,m.S b→b≠m.g
 hin:In m.S w.heap.size
theorem Nx.keep {m:Par} {w w':World} (h:Nx m w) (hk:Keeps m.S w w') (hs:w.heap.size≤w'.heap.size):Nx m w':=⟨h.hL.keep hk,h.hr,h.hl,h.hS,h.hin.more hs⟩
theorem Nx.gw {m:Par} {w w':World} (h:Nx m w) (hg:w.grownBy w' (some m.g)):Nx m w':=h.keep (Keeps.gw hg h.hin h.hS) hg.size
theorem Nx.below {m:Par} {w w':World} (h:Nx m w) (hg:Below w.heap.size w w'):Nx m w':=h.keep (Keeps.below h.hin hg) hg.size

set_option maxRecDepth 100000 in
set_option maxHeartbeats 2000000 in
theorem draw0_is (m : Par) (a : Nat) (l n : Int) (w : World) (hm : Mk m a l w) (hx : Nx m w) (hn : 0 < n) (ha : a ≤ 999999) :
  Calls Tryd.prog 86 #[.pointer (some ⟨m.g,0,none⟩),.int .i64 n] w fun e w'=>e = .returned (.int .i64 (numAt m.L a n))∧Mk m (a + 1) l w'∧w.grownBy w' (some m.g):=by
 have h0:=hm.cell 0
 have h1:=hm.cell 1
 have f1:=hm.frozen 1
 have HG:=Lib.hid hm
 have HX:=Lib.hid hx
 simp only [Par.cells,List.getElem?_toArray,List.getElem?_cons_zero,List.getElem?_cons_succ] at h0 h1
 clear hm hx
 go_enter Tryd.func86,Tryd.ntmps86
 go_wp2_with fail
 obtain ⟨W2,hW2⟩:∃ W2,W2 = w.setCell ⟨m.g,1,none⟩ (.int .i64 ((a:Int) + 1)):=⟨_,rfl⟩
 have HG2:Hid (Mk m (a + 1) l W2):=Lib.hid (by rw [hW2]; exact HG.out.set_ 1 _)
 have HW:Hid (w.grownBy W2 (some m.g)):=Lib.hid (by rw [hW2]; exact gw_setCell (gw_refl w m.g) (.inl rfl) _)
 have HX2:Hid (Nx m W2):=Lib.hid (HX.out.gw HW.out)
 rw [← hW2]
 clear hW2 h0 h1 f1
 have h0:=HG2.out.cell 0
 have h1:=HG2.out.cell 1
 simp only [Par.cells,List.getElem?_toArray,List.getElem?_cons_zero,List.getElem?_cons_succ] at h0 h1
 go_quiet ((go_at_call 22; exact quiet_left (at_is m.L m.S m.A m.c a n _ HX2.out.hL HX2.out.hr hn HX2.out.hl (by omega))))
 go_wp2_with fail
 go_ret
 exact ⟨rfl,HG2.out.drewN _,⟨HW.out.os,HW.out.tape,HW.out.output,HW.out.size,HW.out.block⟩⟩
theorem RowG.step {m : Par} {Q : Nat → T → Prop} {K d a a' a2 : Nat} {l : Int} {w wr w3 : World} {v : Value} {ts : List T} {xs : List Value} (hgl : m.g < w.heap.size) (h : RowG m Q K d a l w wr v ts xs a') (hm : Mk m a2 (l - ((ts.map size).sum : Nat)) w3) (hg : wr.grownBy w3 (some m.g)) (h1 : a' ≤ a2) (h2 : a2 ≤ a + 6 * (ts.map size).sum) :
  RowG m Q K d a l w w3 v ts xs a2:=by
 have hs:=hg.size
 have hs0:=h.grown.size
 refine ⟨hm,gw_trans h.grown hg,h.own.kept hg (.inr fun e=>by have:=(h.own.lt _ e).1; omega),(h.reps.keep (w':=w3) fun b hb=>hg.block b hb.2.1 (fun e=>by have:=Option.some.inj e; omega)).mono fun b hb=>⟨hb.1,by omega,hb.2.2⟩,h.all,by have:=h.lo; omega,h2,h.cap⟩
def VarQ (np:Nat) (i:Nat) (t:T):Prop:=isType t = true∧(i < np→isPlain t = true)
theorem plain_leaf {k:Int} (h:k = 0∨k = 1):isPlain ⟨k,0,0,[]⟩ = true:=by rcases h with rfl | rfl <;> rfl
theorem type_leaf {k:Int} (h:k = 0∨k = 1):isType ⟨k,0,0,[]⟩ = true:=by rcases h with rfl | rfl <;> rfl
theorem type_arr {q:Int} (h0:0≤q) (h1:q < 4):isType ⟨2,1 + q,0,[]⟩ = true:=by simp [isType]; omega
theorem type_rec {ts:List T} (h1:1≤ts.length) (h3:ts.length≤3) (h:∀ t ∈ ts,isPlain t = true):isType ⟨3,0,0,ts⟩ = true:=by
 have h2:ts.all isPlain = true:=List.all_eq_true.2 h
 simp [isType,h2]; omega
def VarsPost (m:Par) (np a:Nat) (l:Int) (w:World) (e:Ending) (w':World):Prop :=
 ∃ (V:World) (ts:List T) (A':Option Addr) (c':Nat) (xs:List Value) (a':Nat),e = .returned (.slice A' ts.length c')∧w.grownBy V (some m.g)∧RowG m (VarQ np) 4 2 (a + 1) l V w' (.slice A' ts.length c') ts xs a'∧np≤ts.length∧ts.length≤np + 3∧ts.length≤c'

set_option maxRecDepth 100000 in
set_option maxHeartbeats 16000000 in
theorem variables_is (m : Par) (np a : Nat) (l : Int) (w : World) (hm : Mk m a l w) (hx : Nx m w) (hnp : np ≤ 2) (ha : a ≤ 900000) (hl0 : -900000 ≤ l) (hl1 : l ≤ 1000) :
  Calls Tryd.prog 92 #[.pointer (some ⟨m.g,0,none⟩),.int .i64 (np:Int)] w (VarsPost m np a l w):=by
 obtain ⟨i0,hi,hz0,hz1,hz2⟩:=info_parts node_info
 have HM1:=Lib.hid hm
 have HX1:=Lib.hid hx
 have HGR:Hid (m.g < w.heap.size):=Lib.hid hm.lt
 obtain ⟨q,HQ,hqn⟩:=zletter (L:=m.L) a 4 (by omega)
 obtain ⟨n,hn⟩:∃ n:Nat,n = np + q:=⟨_,rfl⟩
 have hnw:IntKind.i64.wrap ((np:Int) + (q:Int)) = (n:Int):=by rw [IntKind.wrap_i64]; omega
 have HN:=Lib.hid hn
 have hn5:n≤5:=by omega
 have hq3:q≤3:=by omega
 clear hm hx hn
 go_enter Tryd.func92,Tryd.ntmps92
 go_upto_region 3 with (go_at_call 86; refine (draw0_is m a l 4 _ HM1.out HX1.out (by omega) (by omega)).mono ?_; rintro e w2 ⟨rfl,hm2,hg2⟩; rw [HQ.out]; have HM2:=Lib.hid hm2; have HG2:=Lib.hid hg2; have HX2:=Lib.hid (HX1.out.gw hg2); clear hm2 hg2)
 obtain ⟨V,hV⟩:∃ V,V = w2:=⟨_,rfl⟩
 subst hV
 have HGV:Hid (m.g < V.heap.size):=Lib.hid HM2.out.lt
 go_wp2_with fail
 go_loopw [5,7] (fun s5 s7 wr=>∃ (j:Nat) (v:Value) (ts:List T) (xs:List Value) (a':Nat),j≤n∧v = s5∧s7 = .int .i64 j∧ts.length = j∧Hid (RowG m (VarQ np) 4 2 (a + 1) l V wr v ts xs a')) (fun _ i _=>n - (intOf i).toNat)
 case atStart=>exact ⟨0,_,[],[],a + 1,Nat.zero_le _,rfl,rfl,rfl,RowG.start HM2.out⟩
 case round =>
  obtain ⟨j,v,ts,xs,a',hj,rfl,rfl,hts,HRW⟩:=hrel
  obtain ⟨sm,hsm⟩:∃ sm,sm = (ts.map size).sum:=⟨_,rfl⟩
  have hsm2:sm≤20:=by
   have h1:=HRW.out.cap
   rw [hts,← hsm] at h1
   omega
  have haa:a + 1≤a'∧a'≤a + 1 + 6 * sm:=⟨HRW.out.lo,by rw [hsm]; exact HRW.out.hi⟩
  have HMW:Hid (Mk m a' (l - (sm:Int)) wr):=Lib.hid (by rw [hsm]; exact HRW.out.mkr)
  have HXW:Hid (Nx m wr):=Lib.hid (HX2.out.gw HRW.out.grown)
  have HSM:=Lib.hid hsm
  have HTS:=Lib.hid hts
  clear hsm hts
  obtain ⟨W0,hW0⟩:∃ W,W = wr:=⟨_,rfl⟩
  subst hW0
  by_cases hlt:j < n
  ·have hlt2:(j:Int) < n:=by omega
   have hd0:decide (j < n) = true:=by simpa using hlt
   obtain ⟨x,HX8,hx8⟩:=zletter (L:=m.L) a' 8 (by omega)
   go_upto_region 7 with (go_at_call 86; refine (draw0_is m a' (l - (sm:Int)) 8 _ HMW.out HXW.out (by omega) (by omega)).mono ?_; rintro e w3 ⟨rfl,hm2,hg2⟩; rw [HX8.out]; have HMb:=Lib.hid hm2; have HGb:=Lib.hid hg2; have HXb:=Lib.hid (HXW.out.gw hg2); clear hm2 hg2)
   have hx7:x < 8:=by omega
   by_cases hip:j < np
   ·have hdp:decide (j < np) = true:=by simpa using hip
    obtain rfl | rfl | rfl | rfl | rfl | rfl | rfl | rfl:x = 0∨x = 1∨x = 2∨x = 3∨x = 4∨x = 5∨x = 6∨x = 7:=by omega
    ·-- 0
     go_wp2_with (first
      | (go_at_call 88; refine (mnode_is m (a' + 1) (l - (sm:Int)) (0) (0) _ none 0 0 HMb.out (by omega) (by omega)).mono ?_; rintro e w5 ⟨rfl,hm5,hg5⟩; have HM5:=Lib.hid hm5; have HG5:=Lib.hid (gw_trans HGb.out hg5); have HGn:=Lib.hid hg5; have HOW:Hid ((w5.alloc (.cells #[.int .i64 0,.int .i64 0,.int .i64 0,.slice none 0 0] 25)).ownsRow V.heap.size 25 4 v ts.length xs):=Lib.hid ((HRW.out.own.kept HG5.out (.inr fun e=>by have:=(HRW.out.own.lt _ e).1; have:=HGV.out; omega)).alloc _); clear hm5 hg5)
      | (at_builtin; refine wpList_append_any _ rfl (.tmp 54) (.tmp 57) 23 rfl V.heap.size 25 i0 _ 4 48 Tryd.underlying23 hi hz0 hz1 hz2 rfl (by omega) _ ts.length xs rfl HOW.out _ (some ⟨w5.heap.size,0,none⟩) 1 1 (nd ⟨0,0,0,[]⟩ none 0) rfl (reads_nd w5 ⟨0,0,0,[]⟩ none 0) (nd_one ⟨0,0,0,[]⟩ none 0) (len_le (by have:=HTS.out; omega)) (by have:=HTS.out; omega) (by have:=HRW.out.grown.size; have:=HG5.out.size; rw [size_alloc]; omega) ?_; intro v4 w4 hown4 hgrow4 hnew4; have HO4:=Lib.hid hown4; have HG4:=Lib.hid hgrow4; have HN4:=Lib.hid hnew4; clear hown4 hgrow4 hnew4))
     go_roundw
     case rel =>
      have hsm3:=HSM.out
      exact ⟨j + 1,_,ts ++ [(⟨0,0,0,[]⟩:T)],xs ++ nd ⟨0,0,0,[]⟩ none 0,a' + 1,by omega,rfl,by go_num,by rw [List.length_append,HTS.out]; rfl,RowG.next (t:=⟨0,0,0,[]⟩) (A':=none) (c':=0) (a2:=a' + 1) HGV.out HRW.out (⟨type_leaf (by decide),fun _=>plain_leaf (by decide)⟩) (Rep.leaf (small (by omega) (by omega)) (small (by omega) (by omega)) (small (by omega) (by omega)) 1 0) (by rw [size1,← hsm3]; exact HM5.out) HG5.out (by omega) (by rw [size1]; omega) (by rw [size1]; omega) HO4.out HG4.out HN4.out⟩
     case measure=>simp [intOf]; omega
    ·-- 1
     go_wp2_with (first
      | (go_at_call 88; refine (mnode_is m (a' + 1) (l - (sm:Int)) (0) (0) _ none 0 0 HMb.out (by omega) (by omega)).mono ?_; rintro e w5 ⟨rfl,hm5,hg5⟩; have HM5:=Lib.hid hm5; have HG5:=Lib.hid (gw_trans HGb.out hg5); have HGn:=Lib.hid hg5; have HOW:Hid ((w5.alloc (.cells #[.int .i64 0,.int .i64 0,.int .i64 0,.slice none 0 0] 25)).ownsRow V.heap.size 25 4 v ts.length xs):=Lib.hid ((HRW.out.own.kept HG5.out (.inr fun e=>by have:=(HRW.out.own.lt _ e).1; have:=HGV.out; omega)).alloc _); clear hm5 hg5)
      | (at_builtin; refine wpList_append_any _ rfl (.tmp 54) (.tmp 57) 23 rfl V.heap.size 25 i0 _ 4 48 Tryd.underlying23 hi hz0 hz1 hz2 rfl (by omega) _ ts.length xs rfl HOW.out _ (some ⟨w5.heap.size,0,none⟩) 1 1 (nd ⟨0,0,0,[]⟩ none 0) rfl (reads_nd w5 ⟨0,0,0,[]⟩ none 0) (nd_one ⟨0,0,0,[]⟩ none 0) (len_le (by have:=HTS.out; omega)) (by have:=HTS.out; omega) (by have:=HRW.out.grown.size; have:=HG5.out.size; rw [size_alloc]; omega) ?_; intro v4 w4 hown4 hgrow4 hnew4; have HO4:=Lib.hid hown4; have HG4:=Lib.hid hgrow4; have HN4:=Lib.hid hnew4; clear hown4 hgrow4 hnew4))
     go_roundw
     case rel =>
      have hsm3:=HSM.out
      exact ⟨j + 1,_,ts ++ [(⟨0,0,0,[]⟩:T)],xs ++ nd ⟨0,0,0,[]⟩ none 0,a' + 1,by omega,rfl,by go_num,by rw [List.length_append,HTS.out]; rfl,RowG.next (t:=⟨0,0,0,[]⟩) (A':=none) (c':=0) (a2:=a' + 1) HGV.out HRW.out (⟨type_leaf (by decide),fun _=>plain_leaf (by decide)⟩) (Rep.leaf (small (by omega) (by omega)) (small (by omega) (by omega)) (small (by omega) (by omega)) 1 0) (by rw [size1,← hsm3]; exact HM5.out) HG5.out (by omega) (by rw [size1]; omega) (by rw [size1]; omega) HO4.out HG4.out HN4.out⟩
     case measure=>simp [intOf]; omega
    ·-- 2
     go_wp2_with (first
      | (go_at_call 88; refine (mnode_is m (a' + 1) (l - (sm:Int)) (0) (0) _ none 0 0 HMb.out (by omega) (by omega)).mono ?_; rintro e w5 ⟨rfl,hm5,hg5⟩; have HM5:=Lib.hid hm5; have HG5:=Lib.hid (gw_trans HGb.out hg5); have HGn:=Lib.hid hg5; have HOW:Hid ((w5.alloc (.cells #[.int .i64 0,.int .i64 0,.int .i64 0,.slice none 0 0] 25)).ownsRow V.heap.size 25 4 v ts.length xs):=Lib.hid ((HRW.out.own.kept HG5.out (.inr fun e=>by have:=(HRW.out.own.lt _ e).1; have:=HGV.out; omega)).alloc _); clear hm5 hg5)
      | (at_builtin; refine wpList_append_any _ rfl (.tmp 54) (.tmp 57) 23 rfl V.heap.size 25 i0 _ 4 48 Tryd.underlying23 hi hz0 hz1 hz2 rfl (by omega) _ ts.length xs rfl HOW.out _ (some ⟨w5.heap.size,0,none⟩) 1 1 (nd ⟨0,0,0,[]⟩ none 0) rfl (reads_nd w5 ⟨0,0,0,[]⟩ none 0) (nd_one ⟨0,0,0,[]⟩ none 0) (len_le (by have:=HTS.out; omega)) (by have:=HTS.out; omega) (by have:=HRW.out.grown.size; have:=HG5.out.size; rw [size_alloc]; omega) ?_; intro v4 w4 hown4 hgrow4 hnew4; have HO4:=Lib.hid hown4; have HG4:=Lib.hid hgrow4; have HN4:=Lib.hid hnew4; clear hown4 hgrow4 hnew4))
     go_roundw
     case rel =>
      have hsm3:=HSM.out
      exact ⟨j + 1,_,ts ++ [(⟨0,0,0,[]⟩:T)],xs ++ nd ⟨0,0,0,[]⟩ none 0,a' + 1,by omega,rfl,by go_num,by rw [List.length_append,HTS.out]; rfl,RowG.next (t:=⟨0,0,0,[]⟩) (A':=none) (c':=0) (a2:=a' + 1) HGV.out HRW.out (⟨type_leaf (by decide),fun _=>plain_leaf (by decide)⟩) (Rep.leaf (small (by omega) (by omega)) (small (by omega) (by omega)) (small (by omega) (by omega)) 1 0) (by rw [size1,← hsm3]; exact HM5.out) HG5.out (by omega) (by rw [size1]; omega) (by rw [size1]; omega) HO4.out HG4.out HN4.out⟩
     case measure=>simp [intOf]; omega
    ·-- 3
     go_wp2_with (first
      | (go_at_call 88; refine (mnode_is m (a' + 1) (l - (sm:Int)) (0) (0) _ none 0 0 HMb.out (by omega) (by omega)).mono ?_; rintro e w5 ⟨rfl,hm5,hg5⟩; have HM5:=Lib.hid hm5; have HG5:=Lib.hid (gw_trans HGb.out hg5); have HGn:=Lib.hid hg5; have HOW:Hid ((w5.alloc (.cells #[.int .i64 0,.int .i64 0,.int .i64 0,.slice none 0 0] 25)).ownsRow V.heap.size 25 4 v ts.length xs):=Lib.hid ((HRW.out.own.kept HG5.out (.inr fun e=>by have:=(HRW.out.own.lt _ e).1; have:=HGV.out; omega)).alloc _); clear hm5 hg5)
      | (at_builtin; refine wpList_append_any _ rfl (.tmp 54) (.tmp 57) 23 rfl V.heap.size 25 i0 _ 4 48 Tryd.underlying23 hi hz0 hz1 hz2 rfl (by omega) _ ts.length xs rfl HOW.out _ (some ⟨w5.heap.size,0,none⟩) 1 1 (nd ⟨0,0,0,[]⟩ none 0) rfl (reads_nd w5 ⟨0,0,0,[]⟩ none 0) (nd_one ⟨0,0,0,[]⟩ none 0) (len_le (by have:=HTS.out; omega)) (by have:=HTS.out; omega) (by have:=HRW.out.grown.size; have:=HG5.out.size; rw [size_alloc]; omega) ?_; intro v4 w4 hown4 hgrow4 hnew4; have HO4:=Lib.hid hown4; have HG4:=Lib.hid hgrow4; have HN4:=Lib.hid hnew4; clear hown4 hgrow4 hnew4))
     go_roundw
     case rel =>
      have hsm3:=HSM.out
      exact ⟨j + 1,_,ts ++ [(⟨0,0,0,[]⟩:T)],xs ++ nd ⟨0,0,0,[]⟩ none 0,a' + 1,by omega,rfl,by go_num,by rw [List.length_append,HTS.out]; rfl,RowG.next (t:=⟨0,0,0,[]⟩) (A':=none) (c':=0) (a2:=a' + 1) HGV.out HRW.out (⟨type_leaf (by decide),fun _=>plain_leaf (by decide)⟩) (Rep.leaf (small (by omega) (by omega)) (small (by omega) (by omega)) (small (by omega) (by omega)) 1 0) (by rw [size1,← hsm3]; exact HM5.out) HG5.out (by omega) (by rw [size1]; omega) (by rw [size1]; omega) HO4.out HG4.out HN4.out⟩
     case measure=>simp [intOf]; omega
    ·-- 4
     go_wp2_with (first
      | (go_at_call 88; refine (mnode_is m (a' + 1) (l - (sm:Int)) (1) (0) _ none 0 0 HMb.out (by omega) (by omega)).mono ?_; rintro e w5 ⟨rfl,hm5,hg5⟩; have HM5:=Lib.hid hm5; have HG5:=Lib.hid (gw_trans HGb.out hg5); have HGn:=Lib.hid hg5; have HOW:Hid ((w5.alloc (.cells #[.int .i64 1,.int .i64 0,.int .i64 0,.slice none 0 0] 25)).ownsRow V.heap.size 25 4 v ts.length xs):=Lib.hid ((HRW.out.own.kept HG5.out (.inr fun e=>by have:=(HRW.out.own.lt _ e).1; have:=HGV.out; omega)).alloc _); clear hm5 hg5)
      | (at_builtin; refine wpList_append_any _ rfl (.tmp 62) (.tmp 65) 23 rfl V.heap.size 25 i0 _ 4 48 Tryd.underlying23 hi hz0 hz1 hz2 rfl (by omega) _ ts.length xs rfl HOW.out _ (some ⟨w5.heap.size,0,none⟩) 1 1 (nd ⟨1,0,0,[]⟩ none 0) rfl (reads_nd w5 ⟨1,0,0,[]⟩ none 0) (nd_one ⟨1,0,0,[]⟩ none 0) (len_le (by have:=HTS.out; omega)) (by have:=HTS.out; omega) (by have:=HRW.out.grown.size; have:=HG5.out.size; rw [size_alloc]; omega) ?_; intro v4 w4 hown4 hgrow4 hnew4; have HO4:=Lib.hid hown4; have HG4:=Lib.hid hgrow4; have HN4:=Lib.hid hnew4; clear hown4 hgrow4 hnew4))
     go_roundw
     case rel =>
      have hsm3:=HSM.out
      exact ⟨j + 1,_,ts ++ [(⟨1,0,0,[]⟩:T)],xs ++ nd ⟨1,0,0,[]⟩ none 0,a' + 1,by omega,rfl,by go_num,by rw [List.length_append,HTS.out]; rfl,RowG.next (t:=⟨1,0,0,[]⟩) (A':=none) (c':=0) (a2:=a' + 1) HGV.out HRW.out (⟨type_leaf (by decide),fun _=>plain_leaf (by decide)⟩) (Rep.leaf (small (by omega) (by omega)) (small (by omega) (by omega)) (small (by omega) (by omega)) 1 0) (by rw [size1,← hsm3]; exact HM5.out) HG5.out (by omega) (by rw [size1]; omega) (by rw [size1]; omega) HO4.out HG4.out HN4.out⟩
     case measure=>simp [intOf]; omega
    ·-- 5
     go_wp2_with (first
      | (go_at_call 88; refine (mnode_is m (a' + 1) (l - (sm:Int)) (0) (0) _ none 0 0 HMb.out (by omega) (by omega)).mono ?_; rintro e w5 ⟨rfl,hm5,hg5⟩; have HM5:=Lib.hid hm5; have HG5:=Lib.hid (gw_trans HGb.out hg5); have HGn:=Lib.hid hg5; have HOW:Hid ((w5.alloc (.cells #[.int .i64 0,.int .i64 0,.int .i64 0,.slice none 0 0] 25)).ownsRow V.heap.size 25 4 v ts.length xs):=Lib.hid ((HRW.out.own.kept HG5.out (.inr fun e=>by have:=(HRW.out.own.lt _ e).1; have:=HGV.out; omega)).alloc _); clear hm5 hg5)
      | (at_builtin; refine wpList_append_any _ rfl (.tmp 54) (.tmp 57) 23 rfl V.heap.size 25 i0 _ 4 48 Tryd.underlying23 hi hz0 hz1 hz2 rfl (by omega) _ ts.length xs rfl HOW.out _ (some ⟨w5.heap.size,0,none⟩) 1 1 (nd ⟨0,0,0,[]⟩ none 0) rfl (reads_nd w5 ⟨0,0,0,[]⟩ none 0) (nd_one ⟨0,0,0,[]⟩ none 0) (len_le (by have:=HTS.out; omega)) (by have:=HTS.out; omega) (by have:=HRW.out.grown.size; have:=HG5.out.size; rw [size_alloc]; omega) ?_; intro v4 w4 hown4 hgrow4 hnew4; have HO4:=Lib.hid hown4; have HG4:=Lib.hid hgrow4; have HN4:=Lib.hid hnew4; clear hown4 hgrow4 hnew4))
     go_roundw
     case rel =>
      have hsm3:=HSM.out
      exact ⟨j + 1,_,ts ++ [(⟨0,0,0,[]⟩:T)],xs ++ nd ⟨0,0,0,[]⟩ none 0,a' + 1,by omega,rfl,by go_num,by rw [List.length_append,HTS.out]; rfl,RowG.next (t:=⟨0,0,0,[]⟩) (A':=none) (c':=0) (a2:=a' + 1) HGV.out HRW.out (⟨type_leaf (by decide),fun _=>plain_leaf (by decide)⟩) (Rep.leaf (small (by omega) (by omega)) (small (by omega) (by omega)) (small (by omega) (by omega)) 1 0) (by rw [size1,← hsm3]; exact HM5.out) HG5.out (by omega) (by rw [size1]; omega) (by rw [size1]; omega) HO4.out HG4.out HN4.out⟩
     case measure=>simp [intOf]; omega
    ·-- 6
     go_wp2_with (first
      | (go_at_call 88; refine (mnode_is m (a' + 1) (l - (sm:Int)) (0) (0) _ none 0 0 HMb.out (by omega) (by omega)).mono ?_; rintro e w5 ⟨rfl,hm5,hg5⟩; have HM5:=Lib.hid hm5; have HG5:=Lib.hid (gw_trans HGb.out hg5); have HGn:=Lib.hid hg5; have HOW:Hid ((w5.alloc (.cells #[.int .i64 0,.int .i64 0,.int .i64 0,.slice none 0 0] 25)).ownsRow V.heap.size 25 4 v ts.length xs):=Lib.hid ((HRW.out.own.kept HG5.out (.inr fun e=>by have:=(HRW.out.own.lt _ e).1; have:=HGV.out; omega)).alloc _); clear hm5 hg5)
      | (at_builtin; refine wpList_append_any _ rfl (.tmp 54) (.tmp 57) 23 rfl V.heap.size 25 i0 _ 4 48 Tryd.underlying23 hi hz0 hz1 hz2 rfl (by omega) _ ts.length xs rfl HOW.out _ (some ⟨w5.heap.size,0,none⟩) 1 1 (nd ⟨0,0,0,[]⟩ none 0) rfl (reads_nd w5 ⟨0,0,0,[]⟩ none 0) (nd_one ⟨0,0,0,[]⟩ none 0) (len_le (by have:=HTS.out; omega)) (by have:=HTS.out; omega) (by have:=HRW.out.grown.size; have:=HG5.out.size; rw [size_alloc]; omega) ?_; intro v4 w4 hown4 hgrow4 hnew4; have HO4:=Lib.hid hown4; have HG4:=Lib.hid hgrow4; have HN4:=Lib.hid hnew4; clear hown4 hgrow4 hnew4))
     go_roundw
     case rel =>
      have hsm3:=HSM.out
      exact ⟨j + 1,_,ts ++ [(⟨0,0,0,[]⟩:T)],xs ++ nd ⟨0,0,0,[]⟩ none 0,a' + 1,by omega,rfl,by go_num,by rw [List.length_append,HTS.out]; rfl,RowG.next (t:=⟨0,0,0,[]⟩) (A':=none) (c':=0) (a2:=a' + 1) HGV.out HRW.out (⟨type_leaf (by decide),fun _=>plain_leaf (by decide)⟩) (Rep.leaf (small (by omega) (by omega)) (small (by omega) (by omega)) (small (by omega) (by omega)) 1 0) (by rw [size1,← hsm3]; exact HM5.out) HG5.out (by omega) (by rw [size1]; omega) (by rw [size1]; omega) HO4.out HG4.out HN4.out⟩
     case measure=>simp [intOf]; omega
    ·-- 7
     go_wp2_with (first
      | (go_at_call 88; refine (mnode_is m (a' + 1) (l - (sm:Int)) (0) (0) _ none 0 0 HMb.out (by omega) (by omega)).mono ?_; rintro e w5 ⟨rfl,hm5,hg5⟩; have HM5:=Lib.hid hm5; have HG5:=Lib.hid (gw_trans HGb.out hg5); have HGn:=Lib.hid hg5; have HOW:Hid ((w5.alloc (.cells #[.int .i64 0,.int .i64 0,.int .i64 0,.slice none 0 0] 25)).ownsRow V.heap.size 25 4 v ts.length xs):=Lib.hid ((HRW.out.own.kept HG5.out (.inr fun e=>by have:=(HRW.out.own.lt _ e).1; have:=HGV.out; omega)).alloc _); clear hm5 hg5)
      | (at_builtin; refine wpList_append_any _ rfl (.tmp 54) (.tmp 57) 23 rfl V.heap.size 25 i0 _ 4 48 Tryd.underlying23 hi hz0 hz1 hz2 rfl (by omega) _ ts.length xs rfl HOW.out _ (some ⟨w5.heap.size,0,none⟩) 1 1 (nd ⟨0,0,0,[]⟩ none 0) rfl (reads_nd w5 ⟨0,0,0,[]⟩ none 0) (nd_one ⟨0,0,0,[]⟩ none 0) (len_le (by have:=HTS.out; omega)) (by have:=HTS.out; omega) (by have:=HRW.out.grown.size; have:=HG5.out.size; rw [size_alloc]; omega) ?_; intro v4 w4 hown4 hgrow4 hnew4; have HO4:=Lib.hid hown4; have HG4:=Lib.hid hgrow4; have HN4:=Lib.hid hnew4; clear hown4 hgrow4 hnew4))
     go_roundw
     case rel =>
      have hsm3:=HSM.out
      exact ⟨j + 1,_,ts ++ [(⟨0,0,0,[]⟩:T)],xs ++ nd ⟨0,0,0,[]⟩ none 0,a' + 1,by omega,rfl,by go_num,by rw [List.length_append,HTS.out]; rfl,RowG.next (t:=⟨0,0,0,[]⟩) (A':=none) (c':=0) (a2:=a' + 1) HGV.out HRW.out (⟨type_leaf (by decide),fun _=>plain_leaf (by decide)⟩) (Rep.leaf (small (by omega) (by omega)) (small (by omega) (by omega)) (small (by omega) (by omega)) 1 0) (by rw [size1,← hsm3]; exact HM5.out) HG5.out (by omega) (by rw [size1]; omega) (by rw [size1]; omega) HO4.out HG4.out HN4.out⟩
     case measure=>simp [intOf]; omega
   ·have hdp:decide (j < np) = false:=by simpa using hip
    obtain rfl | rfl | rfl | rfl | rfl | rfl | rfl | rfl:x = 0∨x = 1∨x = 2∨x = 3∨x = 4∨x = 5∨x = 6∨x = 7:=by omega
    ·-- 0
     go_wp2_with (first
      | (go_at_call 88; refine (mnode_is m (a' + 1) (l - (sm:Int)) (0) (0) _ none 0 0 HMb.out (by omega) (by omega)).mono ?_; rintro e w5 ⟨rfl,hm5,hg5⟩; have HM5:=Lib.hid hm5; have HG5:=Lib.hid (gw_trans HGb.out hg5); have HGn:=Lib.hid hg5; have HOW:Hid ((w5.alloc (.cells #[.int .i64 0,.int .i64 0,.int .i64 0,.slice none 0 0] 25)).ownsRow V.heap.size 25 4 v ts.length xs):=Lib.hid ((HRW.out.own.kept HG5.out (.inr fun e=>by have:=(HRW.out.own.lt _ e).1; have:=HGV.out; omega)).alloc _); clear hm5 hg5)
      | (at_builtin; refine wpList_append_any _ rfl (.tmp 54) (.tmp 57) 23 rfl V.heap.size 25 i0 _ 4 48 Tryd.underlying23 hi hz0 hz1 hz2 rfl (by omega) _ ts.length xs rfl HOW.out _ (some ⟨w5.heap.size,0,none⟩) 1 1 (nd ⟨0,0,0,[]⟩ none 0) rfl (reads_nd w5 ⟨0,0,0,[]⟩ none 0) (nd_one ⟨0,0,0,[]⟩ none 0) (len_le (by have:=HTS.out; omega)) (by have:=HTS.out; omega) (by have:=HRW.out.grown.size; have:=HG5.out.size; rw [size_alloc]; omega) ?_; intro v4 w4 hown4 hgrow4 hnew4; have HO4:=Lib.hid hown4; have HG4:=Lib.hid hgrow4; have HN4:=Lib.hid hnew4; clear hown4 hgrow4 hnew4))
     go_roundw
     case rel =>
      have hsm3:=HSM.out
      exact ⟨j + 1,_,ts ++ [(⟨0,0,0,[]⟩:T)],xs ++ nd ⟨0,0,0,[]⟩ none 0,a' + 1,by omega,rfl,by go_num,by rw [List.length_append,HTS.out]; rfl,RowG.next (t:=⟨0,0,0,[]⟩) (A':=none) (c':=0) (a2:=a' + 1) HGV.out HRW.out (⟨type_leaf (by decide),fun _=>plain_leaf (by decide)⟩) (Rep.leaf (small (by omega) (by omega)) (small (by omega) (by omega)) (small (by omega) (by omega)) 1 0) (by rw [size1,← hsm3]; exact HM5.out) HG5.out (by omega) (by rw [size1]; omega) (by rw [size1]; omega) HO4.out HG4.out HN4.out⟩
     case measure=>simp [intOf]; omega
    ·-- 1
     go_wp2_with (first
      | (go_at_call 88; refine (mnode_is m (a' + 1) (l - (sm:Int)) (0) (0) _ none 0 0 HMb.out (by omega) (by omega)).mono ?_; rintro e w5 ⟨rfl,hm5,hg5⟩; have HM5:=Lib.hid hm5; have HG5:=Lib.hid (gw_trans HGb.out hg5); have HGn:=Lib.hid hg5; have HOW:Hid ((w5.alloc (.cells #[.int .i64 0,.int .i64 0,.int .i64 0,.slice none 0 0] 25)).ownsRow V.heap.size 25 4 v ts.length xs):=Lib.hid ((HRW.out.own.kept HG5.out (.inr fun e=>by have:=(HRW.out.own.lt _ e).1; have:=HGV.out; omega)).alloc _); clear hm5 hg5)
      | (at_builtin; refine wpList_append_any _ rfl (.tmp 54) (.tmp 57) 23 rfl V.heap.size 25 i0 _ 4 48 Tryd.underlying23 hi hz0 hz1 hz2 rfl (by omega) _ ts.length xs rfl HOW.out _ (some ⟨w5.heap.size,0,none⟩) 1 1 (nd ⟨0,0,0,[]⟩ none 0) rfl (reads_nd w5 ⟨0,0,0,[]⟩ none 0) (nd_one ⟨0,0,0,[]⟩ none 0) (len_le (by have:=HTS.out; omega)) (by have:=HTS.out; omega) (by have:=HRW.out.grown.size; have:=HG5.out.size; rw [size_alloc]; omega) ?_; intro v4 w4 hown4 hgrow4 hnew4; have HO4:=Lib.hid hown4; have HG4:=Lib.hid hgrow4; have HN4:=Lib.hid hnew4; clear hown4 hgrow4 hnew4))
     go_roundw
     case rel =>
      have hsm3:=HSM.out
      exact ⟨j + 1,_,ts ++ [(⟨0,0,0,[]⟩:T)],xs ++ nd ⟨0,0,0,[]⟩ none 0,a' + 1,by omega,rfl,by go_num,by rw [List.length_append,HTS.out]; rfl,RowG.next (t:=⟨0,0,0,[]⟩) (A':=none) (c':=0) (a2:=a' + 1) HGV.out HRW.out (⟨type_leaf (by decide),fun _=>plain_leaf (by decide)⟩) (Rep.leaf (small (by omega) (by omega)) (small (by omega) (by omega)) (small (by omega) (by omega)) 1 0) (by rw [size1,← hsm3]; exact HM5.out) HG5.out (by omega) (by rw [size1]; omega) (by rw [size1]; omega) HO4.out HG4.out HN4.out⟩
     case measure=>simp [intOf]; omega
    ·-- 2
     go_wp2_with (first
      | (go_at_call 88; refine (mnode_is m (a' + 1) (l - (sm:Int)) (0) (0) _ none 0 0 HMb.out (by omega) (by omega)).mono ?_; rintro e w5 ⟨rfl,hm5,hg5⟩; have HM5:=Lib.hid hm5; have HG5:=Lib.hid (gw_trans HGb.out hg5); have HGn:=Lib.hid hg5; have HOW:Hid ((w5.alloc (.cells #[.int .i64 0,.int .i64 0,.int .i64 0,.slice none 0 0] 25)).ownsRow V.heap.size 25 4 v ts.length xs):=Lib.hid ((HRW.out.own.kept HG5.out (.inr fun e=>by have:=(HRW.out.own.lt _ e).1; have:=HGV.out; omega)).alloc _); clear hm5 hg5)
      | (at_builtin; refine wpList_append_any _ rfl (.tmp 54) (.tmp 57) 23 rfl V.heap.size 25 i0 _ 4 48 Tryd.underlying23 hi hz0 hz1 hz2 rfl (by omega) _ ts.length xs rfl HOW.out _ (some ⟨w5.heap.size,0,none⟩) 1 1 (nd ⟨0,0,0,[]⟩ none 0) rfl (reads_nd w5 ⟨0,0,0,[]⟩ none 0) (nd_one ⟨0,0,0,[]⟩ none 0) (len_le (by have:=HTS.out; omega)) (by have:=HTS.out; omega) (by have:=HRW.out.grown.size; have:=HG5.out.size; rw [size_alloc]; omega) ?_; intro v4 w4 hown4 hgrow4 hnew4; have HO4:=Lib.hid hown4; have HG4:=Lib.hid hgrow4; have HN4:=Lib.hid hnew4; clear hown4 hgrow4 hnew4))
     go_roundw
     case rel =>
      have hsm3:=HSM.out
      exact ⟨j + 1,_,ts ++ [(⟨0,0,0,[]⟩:T)],xs ++ nd ⟨0,0,0,[]⟩ none 0,a' + 1,by omega,rfl,by go_num,by rw [List.length_append,HTS.out]; rfl,RowG.next (t:=⟨0,0,0,[]⟩) (A':=none) (c':=0) (a2:=a' + 1) HGV.out HRW.out (⟨type_leaf (by decide),fun _=>plain_leaf (by decide)⟩) (Rep.leaf (small (by omega) (by omega)) (small (by omega) (by omega)) (small (by omega) (by omega)) 1 0) (by rw [size1,← hsm3]; exact HM5.out) HG5.out (by omega) (by rw [size1]; omega) (by rw [size1]; omega) HO4.out HG4.out HN4.out⟩
     case measure=>simp [intOf]; omega
    ·-- 3
     go_wp2_with (first
      | (go_at_call 88; refine (mnode_is m (a' + 1) (l - (sm:Int)) (0) (0) _ none 0 0 HMb.out (by omega) (by omega)).mono ?_; rintro e w5 ⟨rfl,hm5,hg5⟩; have HM5:=Lib.hid hm5; have HG5:=Lib.hid (gw_trans HGb.out hg5); have HGn:=Lib.hid hg5; have HOW:Hid ((w5.alloc (.cells #[.int .i64 0,.int .i64 0,.int .i64 0,.slice none 0 0] 25)).ownsRow V.heap.size 25 4 v ts.length xs):=Lib.hid ((HRW.out.own.kept HG5.out (.inr fun e=>by have:=(HRW.out.own.lt _ e).1; have:=HGV.out; omega)).alloc _); clear hm5 hg5)
      | (at_builtin; refine wpList_append_any _ rfl (.tmp 54) (.tmp 57) 23 rfl V.heap.size 25 i0 _ 4 48 Tryd.underlying23 hi hz0 hz1 hz2 rfl (by omega) _ ts.length xs rfl HOW.out _ (some ⟨w5.heap.size,0,none⟩) 1 1 (nd ⟨0,0,0,[]⟩ none 0) rfl (reads_nd w5 ⟨0,0,0,[]⟩ none 0) (nd_one ⟨0,0,0,[]⟩ none 0) (len_le (by have:=HTS.out; omega)) (by have:=HTS.out; omega) (by have:=HRW.out.grown.size; have:=HG5.out.size; rw [size_alloc]; omega) ?_; intro v4 w4 hown4 hgrow4 hnew4; have HO4:=Lib.hid hown4; have HG4:=Lib.hid hgrow4; have HN4:=Lib.hid hnew4; clear hown4 hgrow4 hnew4))
     go_roundw
     case rel =>
      have hsm3:=HSM.out
      exact ⟨j + 1,_,ts ++ [(⟨0,0,0,[]⟩:T)],xs ++ nd ⟨0,0,0,[]⟩ none 0,a' + 1,by omega,rfl,by go_num,by rw [List.length_append,HTS.out]; rfl,RowG.next (t:=⟨0,0,0,[]⟩) (A':=none) (c':=0) (a2:=a' + 1) HGV.out HRW.out (⟨type_leaf (by decide),fun _=>plain_leaf (by decide)⟩) (Rep.leaf (small (by omega) (by omega)) (small (by omega) (by omega)) (small (by omega) (by omega)) 1 0) (by rw [size1,← hsm3]; exact HM5.out) HG5.out (by omega) (by rw [size1]; omega) (by rw [size1]; omega) HO4.out HG4.out HN4.out⟩
     case measure=>simp [intOf]; omega
    ·-- 4
     go_wp2_with (first
      | (go_at_call 88; refine (mnode_is m (a' + 1) (l - (sm:Int)) (1) (0) _ none 0 0 HMb.out (by omega) (by omega)).mono ?_; rintro e w5 ⟨rfl,hm5,hg5⟩; have HM5:=Lib.hid hm5; have HG5:=Lib.hid (gw_trans HGb.out hg5); have HGn:=Lib.hid hg5; have HOW:Hid ((w5.alloc (.cells #[.int .i64 1,.int .i64 0,.int .i64 0,.slice none 0 0] 25)).ownsRow V.heap.size 25 4 v ts.length xs):=Lib.hid ((HRW.out.own.kept HG5.out (.inr fun e=>by have:=(HRW.out.own.lt _ e).1; have:=HGV.out; omega)).alloc _); clear hm5 hg5)
      | (at_builtin; refine wpList_append_any _ rfl (.tmp 62) (.tmp 65) 23 rfl V.heap.size 25 i0 _ 4 48 Tryd.underlying23 hi hz0 hz1 hz2 rfl (by omega) _ ts.length xs rfl HOW.out _ (some ⟨w5.heap.size,0,none⟩) 1 1 (nd ⟨1,0,0,[]⟩ none 0) rfl (reads_nd w5 ⟨1,0,0,[]⟩ none 0) (nd_one ⟨1,0,0,[]⟩ none 0) (len_le (by have:=HTS.out; omega)) (by have:=HTS.out; omega) (by have:=HRW.out.grown.size; have:=HG5.out.size; rw [size_alloc]; omega) ?_; intro v4 w4 hown4 hgrow4 hnew4; have HO4:=Lib.hid hown4; have HG4:=Lib.hid hgrow4; have HN4:=Lib.hid hnew4; clear hown4 hgrow4 hnew4))
     go_roundw
     case rel =>
      have hsm3:=HSM.out
      exact ⟨j + 1,_,ts ++ [(⟨1,0,0,[]⟩:T)],xs ++ nd ⟨1,0,0,[]⟩ none 0,a' + 1,by omega,rfl,by go_num,by rw [List.length_append,HTS.out]; rfl,RowG.next (t:=⟨1,0,0,[]⟩) (A':=none) (c':=0) (a2:=a' + 1) HGV.out HRW.out (⟨type_leaf (by decide),fun _=>plain_leaf (by decide)⟩) (Rep.leaf (small (by omega) (by omega)) (small (by omega) (by omega)) (small (by omega) (by omega)) 1 0) (by rw [size1,← hsm3]; exact HM5.out) HG5.out (by omega) (by rw [size1]; omega) (by rw [size1]; omega) HO4.out HG4.out HN4.out⟩
     case measure=>simp [intOf]; omega
    ·-- 5
     obtain ⟨y,HY,hy⟩:=zletter (L:=m.L) (a' + 1) 4 (by omega)
     have hyw:IntKind.i64.wrap (1 + (y:Int)) = 1 + (y:Int):=by rw [IntKind.wrap_i64]; omega
     go_wp2_with (first
      | (go_at_call 86; refine (draw0_is m (a' + 1) (l - (sm:Int)) 4 _ HMb.out HXb.out (by omega) (by omega)).mono ?_; rintro e w4 ⟨rfl,hm2,hg2⟩; rw [HY.out]; have HMc:=Lib.hid hm2; have HGc:=Lib.hid (gw_trans HGb.out hg2); clear hm2 hg2)
      | (go_at_call 88; refine (mnode_is m (a' + 1 + 1) (l - (sm:Int)) (2) ((1 + (y:Int))) _ none 0 0 HMc.out (by omega) (by omega)).mono ?_; rintro e w5 ⟨rfl,hm5,hg5⟩; have HM5:=Lib.hid hm5; have HG5:=Lib.hid (gw_trans HGc.out hg5); have HGn:=Lib.hid hg5; have HOW:Hid ((w5.alloc (.cells #[.int .i64 2,.int .i64 (1 + (y:Int)),.int .i64 0,.slice none 0 0] 25)).ownsRow V.heap.size 25 4 v ts.length xs):=Lib.hid ((HRW.out.own.kept HG5.out (.inr fun e=>by have:=(HRW.out.own.lt _ e).1; have:=HGV.out; omega)).alloc _); clear hm5 hg5)
      | (at_builtin; refine wpList_append_any _ rfl (.tmp 70) (.tmp 76) 23 rfl V.heap.size 25 i0 _ 4 48 Tryd.underlying23 hi hz0 hz1 hz2 rfl (by omega) _ ts.length xs rfl HOW.out _ (some ⟨w5.heap.size,0,none⟩) 1 1 (nd ⟨2,1 + (y:Int),0,[]⟩ none 0) rfl (reads_nd w5 ⟨2,1 + (y:Int),0,[]⟩ none 0) (nd_one ⟨2,1 + (y:Int),0,[]⟩ none 0) (len_le (by have:=HTS.out; omega)) (by have:=HTS.out; omega) (by have:=HRW.out.grown.size; have:=HG5.out.size; rw [size_alloc]; omega) ?_; intro v4 w4 hown4 hgrow4 hnew4; have HO4:=Lib.hid hown4; have HG4:=Lib.hid hgrow4; have HN4:=Lib.hid hnew4; clear hown4 hgrow4 hnew4))
     go_roundw
     case rel =>
      have hsm3:=HSM.out
      exact ⟨j + 1,_,ts ++ [(⟨2,1 + (y:Int),0,[]⟩:T)],xs ++ nd ⟨2,1 + (y:Int),0,[]⟩ none 0,a' + 1 + 1,by omega,rfl,by go_num,by rw [List.length_append,HTS.out]; rfl,RowG.next (t:=⟨2,1 + (y:Int),0,[]⟩) (A':=none) (c':=0) (a2:=a' + 1 + 1) HGV.out HRW.out (⟨type_arr (by omega) (by omega),fun h=>absurd h (by rw [HTS.out]; exact hip)⟩) (Rep.leaf (small (by omega) (by omega)) (small (by omega) (by omega)) (small (by omega) (by omega)) 1 0) (by rw [size1,← hsm3]; exact HM5.out) HG5.out (by omega) (by rw [size1]; omega) (by rw [size1]; omega) HO4.out HG4.out HN4.out⟩
     case measure=>simp [intOf]; omega
    ·-- 6
     obtain ⟨y,HY,hy⟩:=zletter (L:=m.L) (a' + 1) 4 (by omega)
     have hyw:IntKind.i64.wrap (1 + (y:Int)) = 1 + (y:Int):=by rw [IntKind.wrap_i64]; omega
     go_wp2_with (first
      | (go_at_call 86; refine (draw0_is m (a' + 1) (l - (sm:Int)) 4 _ HMb.out HXb.out (by omega) (by omega)).mono ?_; rintro e w4 ⟨rfl,hm2,hg2⟩; rw [HY.out]; have HMc:=Lib.hid hm2; have HGc:=Lib.hid (gw_trans HGb.out hg2); clear hm2 hg2)
      | (go_at_call 88; refine (mnode_is m (a' + 1 + 1) (l - (sm:Int)) (2) ((1 + (y:Int))) _ none 0 0 HMc.out (by omega) (by omega)).mono ?_; rintro e w5 ⟨rfl,hm5,hg5⟩; have HM5:=Lib.hid hm5; have HG5:=Lib.hid (gw_trans HGc.out hg5); have HGn:=Lib.hid hg5; have HOW:Hid ((w5.alloc (.cells #[.int .i64 2,.int .i64 (1 + (y:Int)),.int .i64 0,.slice none 0 0] 25)).ownsRow V.heap.size 25 4 v ts.length xs):=Lib.hid ((HRW.out.own.kept HG5.out (.inr fun e=>by have:=(HRW.out.own.lt _ e).1; have:=HGV.out; omega)).alloc _); clear hm5 hg5)
      | (at_builtin; refine wpList_append_any _ rfl (.tmp 70) (.tmp 76) 23 rfl V.heap.size 25 i0 _ 4 48 Tryd.underlying23 hi hz0 hz1 hz2 rfl (by omega) _ ts.length xs rfl HOW.out _ (some ⟨w5.heap.size,0,none⟩) 1 1 (nd ⟨2,1 + (y:Int),0,[]⟩ none 0) rfl (reads_nd w5 ⟨2,1 + (y:Int),0,[]⟩ none 0) (nd_one ⟨2,1 + (y:Int),0,[]⟩ none 0) (len_le (by have:=HTS.out; omega)) (by have:=HTS.out; omega) (by have:=HRW.out.grown.size; have:=HG5.out.size; rw [size_alloc]; omega) ?_; intro v4 w4 hown4 hgrow4 hnew4; have HO4:=Lib.hid hown4; have HG4:=Lib.hid hgrow4; have HN4:=Lib.hid hnew4; clear hown4 hgrow4 hnew4))
     go_roundw
     case rel =>
      have hsm3:=HSM.out
      exact ⟨j + 1,_,ts ++ [(⟨2,1 + (y:Int),0,[]⟩:T)],xs ++ nd ⟨2,1 + (y:Int),0,[]⟩ none 0,a' + 1 + 1,by omega,rfl,by go_num,by rw [List.length_append,HTS.out]; rfl,RowG.next (t:=⟨2,1 + (y:Int),0,[]⟩) (A':=none) (c':=0) (a2:=a' + 1 + 1) HGV.out HRW.out (⟨type_arr (by omega) (by omega),fun h=>absurd h (by rw [HTS.out]; exact hip)⟩) (Rep.leaf (small (by omega) (by omega)) (small (by omega) (by omega)) (small (by omega) (by omega)) 1 0) (by rw [size1,← hsm3]; exact HM5.out) HG5.out (by omega) (by rw [size1]; omega) (by rw [size1]; omega) HO4.out HG4.out HN4.out⟩
     case measure=>simp [intOf]; omega
    ·-- 7
     obtain ⟨y,HY,hy⟩:=zletter (L:=m.L) (a' + 1) 2 (by omega)
     obtain ⟨kq,HKQ,hkq⟩:=zletter (L:=m.L) (a' + 1 + 1) 3 (by omega)
     have hy2:(y:Int) = 0∨(y:Int) = 1:=by omega
     have HY2:=Lib.hid hy2
     clear hy2
     go_upto_region 10 with (first
      | (have mk:=HMc; go_at_call 88; refine (mnode_is m (a' + 1 + 1) (l - (sm:Int)) ((y:Int)) 0 _ none 0 0 HMc.out (by omega) (by omega)).mono ?_; rintro e w5 ⟨rfl,hm5,hg5⟩; have HMd:=Lib.hid hm5; have HGd:=Lib.hid (gw_trans HGc.out hg5); clear hm5 hg5)
      | (go_at_call 86; refine (draw0_is m (a' + 1) (l - (sm:Int)) 2 _ HMb.out HXb.out (by omega) (by omega)).mono ?_; rintro e w4 ⟨rfl,hm2,hg2⟩; rw [HY.out]; have HMc:=Lib.hid hm2; have HGc:=Lib.hid hg2; clear hm2 hg2))
     obtain ⟨W6,hW6⟩:∃ W,W = w5.alloc (.cells #[.int .i64 (y:Int),.int .i64 0,.int .i64 0,.slice none 0 0] 25):=⟨_,rfl⟩
     have HR6:Hid (RowG m (fun _ t=>isPlain t = true∧size t = 1) 1 1 (a' + 1) (l - (sm:Int)) w3 W6 (.slice (some ⟨w5.heap.size,0,none⟩) 1 1) [⟨y,0,0,[]⟩] (nd ⟨y,0,0,[]⟩ none 0) (a' + 1 + 1)):=Lib.hid (by
      have hs:(([⟨y,0,0,[]⟩]:List T).map size).sum = 1:=by simp [size1]
      refine ⟨by rw [hs,hW6]; exact HMd.out.alloc _,by rw [hW6]; exact gw_alloc HGd.out _,by rw [hW6]; exact own_lit (w:=w5) (xs:=nd ⟨y,0,0,[]⟩ none 0) HGd.out.size rfl (len_le (by omega)),Reps.one (Rep.leaf (small (by omega) (by omega)) (small (by omega) (by omega)) (small (by omega) (by omega)) 0 0),?_,by omega,by rw [hs]; omega,by rw [hs]; simp⟩
      intro i t ht
      cases i with
      | zero=>simp at ht; rw [← ht]; exact ⟨plain_leaf HY2.out,size1 _ _ _⟩
      | succ i=>simp at ht)
     obtain ⟨A6,hA6⟩:∃ A:Option Addr,A = some ⟨w5.heap.size,0,none⟩:=⟨_,rfl⟩
     rw [← hA6] at HR6
     rw [← hW6]
     try rw [← hA6]
     clear hW6 hA6 HMc HGc HMd HGd
     have HMe : Hid (Mk m (a' + 1 + 1) (l - (sm : Int) - 1) W6) := Lib.hid (by have h := HR6.out.mkr; have hs : (([⟨y, 0, 0, []⟩] : List T).map size).sum = 1 := by simp [size1]
                                                                               rw [hs] at h; exact h)
     have HXe:Hid (Nx m W6):=Lib.hid (HXb.out.gw HR6.out.grown)
     go_upto_region 11 with (go_at_call 86; refine (draw0_is m (a' + 1 + 1) (l - (sm:Int) - 1) 3 _ HMe.out HXe.out (by omega) (by omega)).mono ?_; rintro e w7 ⟨rfl,hm2,hg2⟩; rw [HKQ.out]; have HR7:Hid (RowG m (fun _ t=>isPlain t = true∧size t = 1) 1 1 (a' + 1) (l - (sm:Int)) w3 w7 (.slice A6 1 1) [⟨y,0,0,[]⟩] (nd ⟨y,0,0,[]⟩ none 0) (a' + 1 + 1 + 1)):=Lib.hid (RowG.step (by have:=HMb.out.lt; omega) HR6.out (by have hs:(([⟨y,0,0,[]⟩]:List T).map size).sum = 1:=(by simp [size1]); rw [hs]; exact hm2) hg2 (by omega) (by have hs:(([⟨y,0,0,[]⟩]:List T).map size).sum = 1:=(by simp [size1]); rw [hs]; omega)); clear hm2 hg2)
     have hkq2:kq≤2:=by omega
     go_loopw [9,10] (fun s9 s10 wr=>∃ (i:Nat) (u:Value) (us:List T) (ys:List Value) (a2:Nat),i≤2∧u = s9∧s10 = .int .i64 i∧us.length + i≤3∧1≤us.length∧Hid (RowG m (fun _ t=>isPlain t = true∧size t = 1) 1 1 (a' + 1) (l - (sm:Int)) w3 wr u us ys a2)) (fun _ i _=>(intOf i).toNat)
     case atStart=>exact ⟨kq,_,[⟨y,0,0,[]⟩],_,a' + 1 + 1 + 1,hkq2,rfl,rfl,by simp; omega,by simp,HR7.out⟩
     case round =>
      rename World=>wq
      obtain ⟨i,u,us,ys,a2,hi2,rfl,rfl,hus,hus1,HRI⟩:=hrel
      obtain ⟨si,hsi⟩:∃ z,z = (us.map size).sum:=⟨_,rfl⟩
      have hsi3:si≤us.length:=by have h:=HRI.out.cap; rw [← hsi] at h; omega
      have haa2:a' + 1≤a2∧a2≤a' + 1 + 6 * si:=⟨HRI.out.lo,by rw [hsi]; exact HRI.out.hi⟩
      have HMI:Hid (Mk m a2 (l - (sm:Int) - (si:Int)) wq):=Lib.hid (by rw [hsi]; exact HRI.out.mkr)
      have HXI:Hid (Nx m wq):=Lib.hid (HXb.out.gw HRI.out.grown)
      have HSI:=Lib.hid hsi
      clear hsi
      obtain ⟨ul,hul⟩:∃ z,z = us.length:=⟨_,rfl⟩
      have HUL:=Lib.hid hul
      rw [← hul] at hus hus1 hsi3
      clear hul
      by_cases hi0:0 < i
      ·have hdi:decide (0 < i) = true:=by simpa using hi0
       have hiw:IntKind.i64.wrap ((i:Int) - 1) = (i:Int) - 1:=by rw [IntKind.wrap_i64]; omega
       obtain ⟨z,HZ,hz⟩:=zletter (L:=m.L) a2 2 (by omega)
       have hz2:(z:Int) = 0∨(z:Int) = 1:=by omega
       have HZ2:=Lib.hid hz2
       clear hz2
       go_wp2_with (first
        | (go_at_call 86; refine (draw0_is m a2 (l - (sm:Int) - (si:Int)) 2 _ HMI.out HXI.out (by omega) (by omega)).mono ?_; rintro e w4 ⟨rfl,hm2,hg2⟩; rw [HZ.out]; have HMc:=Lib.hid hm2; have HGc:=Lib.hid hg2; clear hm2 hg2)
        | (go_at_call 88; refine (mnode_is m (a2 + 1) (l - (sm:Int) - (si:Int)) ((z:Int)) 0 _ none 0 0 HMc.out (by omega) (by omega)).mono ?_; rintro e w8 ⟨rfl,hm5,hg5⟩; have HM8:=Lib.hid hm5; have HG8:=Lib.hid (gw_trans HGc.out hg5); have HOW:Hid ((w8.alloc (.cells #[.int .i64 (z:Int),.int .i64 0,.int .i64 0,.slice none 0 0] 25)).ownsRow w3.heap.size 25 4 u us.length ys):=Lib.hid ((HRI.out.own.kept HG8.out (.inr fun e=>by have:=(HRI.out.own.lt _ e).1; have:=HMb.out.lt; omega)).alloc _); clear hm5 hg5)
        | (at_builtin; refine wpList_append_any _ rfl (.tmp 38) (.tmp 43) 23 rfl w3.heap.size 25 i0 _ 4 48 Tryd.underlying23 hi hz0 hz1 hz2 rfl (by omega) _ us.length ys rfl HOW.out _ (some ⟨w8.heap.size,0,none⟩) 1 1 (nd ⟨z,0,0,[]⟩ none 0) rfl (reads_nd w8 ⟨z,0,0,[]⟩ none 0) (nd_one ⟨z,0,0,[]⟩ none 0) (len_le (by rw [← HUL.out]; omega)) (by rw [← HUL.out]; omega) (by have:=HRI.out.grown.size; have:=HG8.out.size; rw [size_alloc]; omega) ?_; intro v4 w4 hown4 hgrow4 hnew4; have HO4:=Lib.hid hown4; have HG4:=Lib.hid hgrow4; have HN4:=Lib.hid hnew4; clear hown4 hgrow4 hnew4))
       go_roundw
       case rel =>
        have hsi4:=HSI.out
        have hul4:=HUL.out
        exact ⟨i - 1,_,us ++ [(⟨z,0,0,[]⟩:T)],ys ++ nd ⟨z,0,0,[]⟩ none 0,a2 + 1,by omega,rfl,by go_num,by rw [List.length_append,← hul4]; simp; omega,by rw [List.length_append]; simp,RowG.next (t:=⟨z,0,0,[]⟩) (A':=none) (c':=0) (a2:=a2 + 1) (by have:=HMb.out.lt; omega) HRI.out (⟨plain_leaf HZ2.out,size1 _ _ _⟩) (Rep.leaf (small (by omega) (by omega)) (small (by omega) (by omega)) (small (by omega) (by omega)) 0 0) (by rw [size1,← hsi4]; exact HM8.out) HG8.out (by omega) (by rw [size1]; omega) (by rw [size1]; omega) HO4.out HG4.out HN4.out⟩
       case measure=>simp [intOf]; omega
      ·have hi00:i = 0:=by omega
       subst hi00
       obtain ⟨A9,c9,hv,hcap⟩:=own_len HRI.out.own
       rw [← HUL.out] at hv hcap
       subst hv
       have HCP:=Lib.hid hcap
       clear hcap
       go_wp2_with (first
        | (go_at_call 88; refine (mnode_is m a2 (l - (sm:Int) - (si:Int)) 3 0 _ A9 ul c9 HMI.out (by omega) (by omega)).mono ?_; rintro e w5 ⟨rfl,hm5,hg5⟩; have HM5:=Lib.hid hm5; have HGn:=Lib.hid hg5; have HG5:=Lib.hid (gw_trans (gw_trans HGb.out HRI.out.grown) hg5); have HOW:Hid ((w5.alloc (.cells #[.int .i64 3,.int .i64 0,.int .i64 0,.slice A9 ul c9] 25)).ownsRow V.heap.size 25 4 v ts.length xs):=Lib.hid ((HRW.out.own.kept HG5.out (.inr fun e=>by have:=(HRW.out.own.lt _ e).1; have:=HGV.out; omega)).alloc _); clear hm5 hg5)
        | (at_builtin; refine wpList_append_any _ rfl (.tmp 45) (.tmp 49) 23 rfl V.heap.size 25 i0 _ 4 48 Tryd.underlying23 hi hz0 hz1 hz2 rfl (by omega) _ ts.length xs rfl HOW.out _ (some ⟨w5.heap.size,0,none⟩) 1 1 (nd ⟨3,0,0,us⟩ A9 c9) rfl (by have h:=reads_nd w5 ⟨3,0,0,us⟩ A9 c9; simp only [← HUL.out] at h; exact h) (nd_one ⟨3,0,0,us⟩ A9 c9) (len_le (by have:=HTS.out; omega)) (by have:=HTS.out; omega) (by have:=HRW.out.grown.size; have:=HG5.out.size; rw [size_alloc]; omega) ?_; intro v4 w4 hown4 hgrow4 hnew4; have HO4:=Lib.hid hown4; have HG4:=Lib.hid hgrow4; have HN4:=Lib.hid hnew4; clear hown4 hgrow4 hnew4))
       go_roundw
       case rel =>
        have hsm3:=HSM.out
        have hsi4:=HSI.out
        have hul4:=HUL.out
        have hsz:size ⟨3,0,0,us⟩ = 1 + si:=by rw [sizeK,hsi4]
        have hrep:Rep wq (fun b=>w3.heap.size≤b∧b < wq.heap.size) 2 ⟨3,0,0,us⟩ (nd ⟨3,0,0,us⟩ A9 c9):=RowG.rep (by rw [← hul4]; exact HRI.out) (by rw [← hul4]; exact HCP.out) (small (by omega) (by omega)) (small (by omega) (by omega))
        have hgs:=HGb.out.size
        have hwq:=HRI.out.grown.size
        have hw5:=HGn.out.size
        have hml:=HMb.out.lt
        exact ⟨j + 1, _, ts ++ [(⟨3, 0, 0, us⟩ : T)], xs ++ nd ⟨3, 0, 0, us⟩ A9 c9, a2, by omega, rfl, by go_num, by rw [List.length_append, HTS.out]; rfl, RowG.next (t := ⟨3, 0, 0, us⟩) (A' := A9) (c' := c9) (a2 := a2) HGV.out HRW.out ⟨type_rec (by rw [← hul4]; omega) (by rw [← hul4]; omega) (fun t ht => by
          obtain ⟨i,hi⟩:=List.mem_iff_getElem?.1 ht
          exact (HRI.out.all i t hi).1),fun h=>absurd h (by rw [HTS.out]; exact hip)⟩ ((hrep.keep (w':=w5) fun b hb=>HGn.out.block b hb.2 (fun e=>by have:=Option.some.inj e; omega)).mono fun b hb=>⟨by omega,by omega⟩) (by rw [hsz,← hsm3]; exact (show l - (sm:Int) - ((1 + si:Nat):Int) = l - (sm:Int) - (si:Int) - 1 by push_cast; omega) ▸ HM5.out) HG5.out (by omega) (by rw [hsz]; omega) (by rw [hsz]; omega) HO4.out HG4.out HN4.out⟩
       case measure=>simp [intOf]; omega
  ·have hjn:j = n:=by omega
   subst hjn
   obtain ⟨A9,c9,hv,hcap⟩:=own_len HRW.out.own
   have HN2:=Lib.hid HN.out
   have hts2:=HTS.out
   obtain ⟨kk,hkk⟩:∃ kk,kk = ts.length:=⟨_,rfl⟩
   rw [← hkk] at hv hcap
   subst hv
   have HKK:=Lib.hid hkk
   have HCP:=Lib.hid hcap
   have HJ:Hid (kk = j):=Lib.hid (by omega)
   clear hkk hcap hts2 hlt
   go_wp2_with fail
   go_ret
   have hkk:=HKK.out
   subst hkk
   exact ⟨V,ts,A9,c9,xs,a',rfl,HG2.out,HRW.out,by have:=HN2.out; have:=HJ.out; omega,by have:=HN2.out; have:=HJ.out; omega,HCP.out⟩
end Go.Proofs.YtkkenbalpnmfmaaDoor
