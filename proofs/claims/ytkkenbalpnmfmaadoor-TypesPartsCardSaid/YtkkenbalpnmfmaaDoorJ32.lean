/- Texts joined. -/
import Derived.Test.YtkkenbalpnmfmaaDoorJ20
import Derived.Test.YtkkenbalpnmfmaaDoorJ31
set_option linter.unusedVariables false
namespace Go.Proofs.YtkkenbalpnmfmaaDoor
open Go.RowKit WM TR TY

def FOk (fs:List T):Prop:=∀ f ∈ fs,0≤f.n∧f.n≤(f.kids.length:Int)∧f.kids.length≤1000
theorem params_le (s:Sc) (f:Int):(TY.params s f).length≤(tAt s.funs f).n.toNat:=by
 unfold TY.params
 rw [List.length_map,List.length_take]
 exact Nat.min_le_left _ _
theorem mis_len {s:Sc} {x:T} (h:misused s x = false) (hk:x.k = 11∨x.k = 23):(x.kids.length:Int) = (tAt s.funs x.n).n:=by
 unfold misused at h
 rw [if_neg (by omega),if_neg (by omega),if_neg (by omega),if_neg (by omega),if_pos hk] at h
 simpa using h
theorem tAt_mem {l:List T} {n:Int} (h0:0≤n) (h:n < l.length):tAt l n ∈ l:=by
 obtain ⟨j,rfl⟩:=Int.eq_ofNat_of_zero_le h0
 have hj:j < l.length:=by omega
 rw [tAt_get (n:=(j:Int)) rfl (List.getElem?_eq_getElem hj)]
 exact List.getElem_mem hj
def bs1i (parts:Array (Nat × Value)):Sem Value:=Instr.buildSlice 22 1 parts
theorem shutB1i (parts:Array (Nat × Value)):Instr.buildSlice 22 1 parts = bs1i parts:=rfl
theorem run_bs1i (W:World) (a:Int):(bs1i #[(0,.int .i64 a)]).run Tryd.prog W = .ok (.slice (some ⟨W.heap.size,0,none⟩) 1 1) (W.alloc (.cells #[.int .i64 a] 3)):=by kernel_rfl
attribute [local go_sem ↓ high] shutB1i
attribute [local go_sem] run_bs1i
set_option maxRecDepth 100000 in
set_option maxHeartbeats 16000000 in
theorem kidsFit_is (s : Sc) (x : T) (d d' : Nat) (A Av Af : Option Addr) (c cv cf : Nat) (w : World) (hs : ScR w d s Av cv Af cf) (hnd : Nds w (Lt w.heap.size) d' x.kids A c) (hx : AOk x) (hno : NOk x) (hok : ∀ u ∈ x.kids, AOk u) (hfo : FOk s.funs) (hmis : missing s x = false) (huse : misused s x = false) :
  Calls Tryd.prog 99 #[.agg #[.slice Av s.vars.length cv,.slice Af s.funs.length cf,.int .i64 s.ch],.agg #[.int .i64 x.k,.int .i64 x.n,.int .i64 x.m,.slice A x.kids.length c]] w fun e w'=>e = .returned (.bool (fitB s x.kids (wants s x)))∧Below w.heap.size w w':=by
 obtain ⟨nv,hnv⟩:∃ z,z = s.vars.length:=⟨_,rfl⟩
 obtain ⟨nf,hnf⟩:∃ z,z = s.funs.length:=⟨_,rfl⟩
 obtain ⟨nk,hnk⟩:∃ z,z = x.kids.length:=⟨_,rfl⟩
 obtain ⟨ch,hch⟩:∃ z,z = s.ch:=⟨_,rfl⟩
 obtain ⟨k,hk⟩:∃ z,z = x.k:=⟨_,rfl⟩
 obtain ⟨n,hn⟩:∃ z,z = x.n:=⟨_,rfl⟩
 obtain ⟨m,hm⟩:∃ z,z = x.m:=⟨_,rfl⟩
 have hnkl:nk≤1000000:=by rw [hnk]; exact hx.2.2
 obtain ⟨z,hz⟩:∃ z,z = w.heap.size:=⟨_,rfl⟩
 obtain ⟨W1,hW1⟩:∃ W,W = (w.alloc (.cells #[.slice Av nv cv,.slice Af nf cf,.int .i64 ch] 79)).alloc (.cells #[.int .i64 k,.int .i64 n,.int .i64 m,.slice A nk c] 25):=⟨_,rfl⟩
 have hb1:Below w.heap.size w W1:=by rw [hW1]; exact ba (below_new _ _) _
 have ks:Blk W1 z 79 #[.slice Av nv cv,.slice Af nf cf,.int .i64 ch]:=by rw [hW1,hz]; exact (Blk.new _ _ _).alloc _
 have kx:Blk W1 (z + 1) 25 #[.int .i64 k,.int .i64 n,.int .i64 m,.slice A nk c]:=by rw [hW1]; exact Blk.new_at _ _ (by rw [size_alloc,hz]) rfl
 have HK:Hid (∀ W,Below W1.heap.size W1 W→(W.cell? ⟨z,0,none⟩ = some (.slice Av nv cv)∧W.cell? ⟨z,1,none⟩ = some (.slice Af nf cf)∧W.cell? ⟨z,2,none⟩ = some (.int .i64 ch))∧(W.cell? ⟨z + 1,0,none⟩ = some (.int .i64 k)∧W.cell? ⟨z + 1,1,none⟩ = some (.int .i64 n)∧W.cell? ⟨z + 1,2,none⟩ = some (.int .i64 m)∧W.cell? ⟨z + 1,3,none⟩ = some (.slice A nk c))):=Lib.hid fun W hb=>by
  have e1:=ks.below hb ks.lt
  have e2:=kx.below hb kx.lt
  exact ⟨⟨e1.cell 0,e1.cell 1,e1.cell 2⟩,e2.cell 0,e2.cell 1,e2.cell 2,e2.cell 3⟩
 obtain ⟨⟨a0,a1,a2⟩,x0,x1,x2,x3⟩:=HK.out W1 (Below.refl _ _)
 have hz2:(w.alloc (.cells #[.slice Av nv cv,.slice Af nf cf,.int .i64 ch] 79)).heap.size = z + 1:=by rw [size_alloc,hz]
 have HZ2:=Lib.hid hz2
 have HW1:=Lib.hid hW1
 have HZ:=Lib.hid hz
 have HB1:=Lib.hid hb1
 have HNV:=Lib.hid hnv
 have HNF:=Lib.hid hnf
 have HNK:=Lib.hid hnk
 have HCH:=Lib.hid hch
 have HKK:=Lib.hid hk
 have HNN:=Lib.hid hn
 have HMM:=Lib.hid hm
 have HFT:Hid (∀ (W:World) (l:List Int) (B:Option Addr) (cb:Nat),Below W1.heap.size W1 W→Reads W W.heap.size 1 B l.length (vi l)→l.length≤nk→Calls Tryd.prog 104 #[.agg #[.slice Av nv cv,.slice Af nf cf,.int .i64 ch],.slice A nk c,.slice B l.length cb] W fun e w'=>e = .returned (.bool (fitB s x.kids l))∧Below W.heap.size W w'):=Lib.hid fun W l B cb hb hr hl=>by
  have h:=fit_is s x.kids l d d' Av Af A B cv cf c cb W ((hs.next hb1).next hb) ((hnd.next hb1).next hb) hr (by omega) hok
  rw [← hnv,← hnf,← hnk,← hch] at h
  exact h
 have HNA:Hid ((k = 14∨k = 16)→∀ W,Below W1.heap.size W1 W→Calls Tryd.prog 84 #[.agg #[.slice Av nv cv,.slice Af nf cf,.int .i64 ch],.agg #[.int .i64 k,.int .i64 n,.int .i64 m,.slice A nk c]] W fun e w'=>e = .returned (.int .i64 (named s x))∧Below W.heap.size W w'):=Lib.hid fun hk2 W hb=>by
  have h:=named_is s x d A Av Af c cv cf W ((hs.next hb1).next hb) hx.2.2 (hx.1 (by omega)) hx.2.1 (in_vars hmis (by omega)) (rec_ok hmis huse (by omega))
  rw [← hnv,← hnf,← hnk,← hch,← hk,← hn,← hm] at h
  exact h
 have HPA:Hid ((k = 11∨k = 23)→(TY.params s n).length≤nk∧∀ W,Below W1.heap.size W1 W→Calls Tryd.prog 105 #[.agg #[.slice Av nv cv,.slice Af nf cf,.int .i64 ch],.int .i64 n] W fun e w'=>∃ A c,e = .returned (.slice A (TY.params s n).length c)∧w'.ownsRow W.heap.size 3 1 (.slice A (TY.params s n).length c) (TY.params s n).length (vi (TY.params s n))∧Below W.heap.size W w'):=Lib.hid fun hk2=>by
  have h0:0≤n:=by rw [hn]; exact hx.1 (by omega)
  have h1:n < s.funs.length:=by rw [hn]; exact in_funs hmis (by omega)
  have h2:=hfo _ (tAt_mem h0 h1)
  have h3:=mis_len huse (by omega)
  have h4:=params_le s n
  refine ⟨by rw [← hn] at h3; omega,fun W hb=>?_⟩
  have h:=params_is s n d Av Af cv cf W ((hs.next hb1).next hb) h0 h1 h2.1 h2.2.1 h2.2.2
  rw [← hnv,← hnf,← hch] at h
  exact h
 have hlen:(k = 9∨k = 15→nk = 2)∧(k = 10∨k = 7∨k = 19∨k = 20∨k = 24∨k = 22∨k = 14∨k = 16→nk = 1)∧(k = 17∨k = 18→1≤nk):=⟨fun h=>by rw [hnk]; exact hno.two (by omega),fun h=>by rw [hnk]; exact hno.one (by omega),fun h=>by rw [hnk]; exact hno.some_ (by omega)⟩
 have hn0:True:=trivial
 obtain ⟨r,hr⟩:∃ r,r = fitB s x.kids (wants s x):=⟨_,rfl⟩
 have HR:=Lib.hid hr
 rw [← hr,← hnv,← hnf,← hnk,← hch,← hk,← hn,← hm]
 clear hnv hnf hnk hch hk hn hm hz2 hW1 hz hb1 ks kx hs hnd hx hno hok hfo hmis huse hr
 by_cases g:k = 9
 ·by_cases h11:n≤11
  ·have HR2:Hid (r = fitB s x.kids [0,0]):=Lib.hid (by rw [HR.out]; congr 1; unfold wants; rw [← HKK.out,← HNN.out]; rw [if_pos g,if_pos h11])
   have hreq:=hlen.1 (by omega)
   have HF:Hid (Calls Tryd.prog 104 #[.agg #[.slice Av nv cv,.slice Af nf cf,.int .i64 ch],.slice A nk c,.slice (some ⟨W1.heap.size,0,none⟩) 2 2] (W1.alloc (.cells #[.int .i64 0,.int .i64 0] 3)) fun e w'=>e = .returned (.bool r)∧Below W1.heap.size W1 w'):=Lib.hid (by
    have h:=HFT.out (W1.alloc (.cells #[.int .i64 0,.int .i64 0] 3)) [0,0] (some ⟨W1.heap.size,0,none⟩) 2 (below_new _ _) (Reads.of_own (own_lit (w:=W1) (base:=W1.heap.size) (e:=3) (size:=1) (xs:=vi [0,0]) (n:=2) (Nat.le_refl _) rfl (len_le (by omega)))) (by show 2≤nk; omega)
    refine h.mono fun e w' h2=>⟨by rw [h2.1,HR2.out],bt (below_new _ _) h2.2⟩)
   clear hn0 hlen hreq
   subst g
   all_goals
    go_enter Tryd.func99,Tryd.ntmps99
    go_upto_region 1 with fail
    try rw [HZ2.out]
    rw [← HW1.out]
    try rw [← HZ.out]
    go_wp2_with (first
     | (go_at_call 104; refine HF.out.mono ?_; rintro e w2 ⟨rfl,hb2⟩; have HB2:=Lib.hid (bt HB1.out hb2); clear hb2))
    go_ret
    exact ⟨rfl,HB2.out⟩
 

  ·have HR2:Hid (r = fitB s x.kids [1,1]):=Lib.hid (by rw [HR.out]; congr 1; unfold wants; rw [← HKK.out,← HNN.out]; rw [if_pos g,if_neg h11])
   have hreq:=hlen.1 (by omega)
   have HF:Hid (Calls Tryd.prog 104 #[.agg #[.slice Av nv cv,.slice Af nf cf,.int .i64 ch],.slice A nk c,.slice (some ⟨W1.heap.size,0,none⟩) 2 2] (W1.alloc (.cells #[.int .i64 1,.int .i64 1] 3)) fun e w'=>e = .returned (.bool r)∧Below W1.heap.size W1 w'):=Lib.hid (by
    have h:=HFT.out (W1.alloc (.cells #[.int .i64 1,.int .i64 1] 3)) [1,1] (some ⟨W1.heap.size,0,none⟩) 2 (below_new _ _) (Reads.of_own (own_lit (w:=W1) (base:=W1.heap.size) (e:=3) (size:=1) (xs:=vi [1,1]) (n:=2) (Nat.le_refl _) rfl (len_le (by omega)))) (by show 2≤nk; omega)
    refine h.mono fun e w' h2=>⟨by rw [h2.1,HR2.out],bt (below_new _ _) h2.2⟩)
   clear hn0 hlen hreq
   subst g
   all_goals
    go_enter Tryd.func99,Tryd.ntmps99
    go_upto_region 1 with fail
    try rw [HZ2.out]
    rw [← HW1.out]
    try rw [← HZ.out]
    go_wp2_with (first
     | (go_at_call 104; refine HF.out.mono ?_; rintro e w2 ⟨rfl,hb2⟩; have HB2:=Lib.hid (bt HB1.out hb2); clear hb2))
    go_ret
    exact ⟨rfl,HB2.out⟩
 

 by_cases g':k = 9
 ·exact absurd g' g
 by_cases g:k = 10∨k = 17∨k = 18
 ·have HR2:Hid (r = fitB s x.kids [1]):=Lib.hid (by rw [HR.out]; congr 1; unfold wants; rw [← HKK.out,← HNN.out]; rw [if_neg g',if_pos g])
  have hreq:1≤nk:=by rcases g with h | h | h; (have:=hlen.2.1 (by omega); omega); exact hlen.2.2 (by omega); exact hlen.2.2 (by omega)
  have HF:Hid (Calls Tryd.prog 104 #[.agg #[.slice Av nv cv,.slice Af nf cf,.int .i64 ch],.slice A nk c,.slice (some ⟨W1.heap.size,0,none⟩) 1 1] (W1.alloc (.cells #[.int .i64 1] 3)) fun e w'=>e = .returned (.bool r)∧Below W1.heap.size W1 w'):=Lib.hid (by
   have h:=HFT.out (W1.alloc (.cells #[.int .i64 1] 3)) [1] (some ⟨W1.heap.size,0,none⟩) 1 (below_new _ _) (Reads.of_own (own_lit (w:=W1) (base:=W1.heap.size) (e:=3) (size:=1) (xs:=vi [1]) (n:=1) (Nat.le_refl _) rfl (len_le (by omega)))) (by show 1≤nk; omega)
   refine h.mono fun e w' h2=>⟨by rw [h2.1,HR2.out],bt (below_new _ _) h2.2⟩)
  clear hn0 hlen hreq
  rcases g with rfl | rfl | rfl
  all_goals
   go_enter Tryd.func99,Tryd.ntmps99
   go_upto_region 1 with fail
   try rw [HZ2.out]
   rw [← HW1.out]
   try rw [← HZ.out]
   go_wp2_with (first
    | (go_at_call 104; refine HF.out.mono ?_; rintro e w2 ⟨rfl,hb2⟩; have HB2:=Lib.hid (bt HB1.out hb2); clear hb2))
   go_ret
   exact ⟨rfl,HB2.out⟩
 

 have g2:=g
 clear g
 by_cases g:k = 7∨k = 19∨k = 20∨k = 24∨k = 22
 ·have HR2:Hid (r = fitB s x.kids [0]):=Lib.hid (by rw [HR.out]; congr 1; unfold wants; rw [← HKK.out,← HNN.out]; rw [if_neg g',if_neg g2,if_pos g])
  have hreq:=hlen.2.1 (by omega)
  have HF:Hid (Calls Tryd.prog 104 #[.agg #[.slice Av nv cv,.slice Af nf cf,.int .i64 ch],.slice A nk c,.slice (some ⟨W1.heap.size,0,none⟩) 1 1] (W1.alloc (.cells #[.int .i64 0] 3)) fun e w'=>e = .returned (.bool r)∧Below W1.heap.size W1 w'):=Lib.hid (by
   have h:=HFT.out (W1.alloc (.cells #[.int .i64 0] 3)) [0] (some ⟨W1.heap.size,0,none⟩) 1 (below_new _ _) (Reads.of_own (own_lit (w:=W1) (base:=W1.heap.size) (e:=3) (size:=1) (xs:=vi [0]) (n:=1) (Nat.le_refl _) rfl (len_le (by omega)))) (by show 1≤nk; omega)
   refine h.mono fun e w' h2=>⟨by rw [h2.1,HR2.out],bt (below_new _ _) h2.2⟩)
  clear hn0 hlen hreq
  rcases g with rfl | rfl | rfl | rfl | rfl
  all_goals
   go_enter Tryd.func99,Tryd.ntmps99
   go_upto_region 1 with fail
   try rw [HZ2.out]
   rw [← HW1.out]
   try rw [← HZ.out]
   go_wp2_with (first
    | (go_at_call 104; refine HF.out.mono ?_; rintro e w2 ⟨rfl,hb2⟩; have HB2:=Lib.hid (bt HB1.out hb2); clear hb2))
   go_ret
   exact ⟨rfl,HB2.out⟩
 

 have g3:=g
 clear g
 by_cases g:k = 15
 ·have HR2:Hid (r = fitB s x.kids [0,0]):=Lib.hid (by rw [HR.out]; congr 1; unfold wants; rw [← HKK.out,← HNN.out]; rw [if_neg g',if_neg g2,if_neg g3,if_pos g])
  have hreq:=hlen.1 (by omega)
  have HF:Hid (Calls Tryd.prog 104 #[.agg #[.slice Av nv cv,.slice Af nf cf,.int .i64 ch],.slice A nk c,.slice (some ⟨W1.heap.size,0,none⟩) 2 2] (W1.alloc (.cells #[.int .i64 0,.int .i64 0] 3)) fun e w'=>e = .returned (.bool r)∧Below W1.heap.size W1 w'):=Lib.hid (by
   have h:=HFT.out (W1.alloc (.cells #[.int .i64 0,.int .i64 0] 3)) [0,0] (some ⟨W1.heap.size,0,none⟩) 2 (below_new _ _) (Reads.of_own (own_lit (w:=W1) (base:=W1.heap.size) (e:=3) (size:=1) (xs:=vi [0,0]) (n:=2) (Nat.le_refl _) rfl (len_le (by omega)))) (by show 2≤nk; omega)
   refine h.mono fun e w' h2=>⟨by rw [h2.1,HR2.out],bt (below_new _ _) h2.2⟩)
  clear hn0 hlen hreq
  subst g
  all_goals
   go_enter Tryd.func99,Tryd.ntmps99
   go_upto_region 1 with fail
   try rw [HZ2.out]
   rw [← HW1.out]
   try rw [← HZ.out]
   go_wp2_with (first
    | (go_at_call 104; refine HF.out.mono ?_; rintro e w2 ⟨rfl,hb2⟩; have HB2:=Lib.hid (bt HB1.out hb2); clear hb2))
   go_ret
   exact ⟨rfl,HB2.out⟩
 

 have g4:=g
 clear g
 by_cases g:k = 14∨k = 16
 ·obtain ⟨q,hq⟩:∃ q,q = named s x:=⟨_,rfl⟩
  have HR2:Hid (r = fitB s x.kids [q]):=Lib.hid (by rw [HR.out]; congr 1; unfold wants; rw [← HKK.out,← HNN.out,← hq]; rw [if_neg g',if_neg g2,if_neg g3,if_neg g4,if_pos g])
  have hreq:=hlen.2.1 (by omega)
  have HNA2:Hid (∀ W,Below W1.heap.size W1 W→Calls Tryd.prog 84 #[.agg #[.slice Av nv cv,.slice Af nf cf,.int .i64 ch],.agg #[.int .i64 k,.int .i64 n,.int .i64 m,.slice A nk c]] W fun e w'=>e = .returned (.int .i64 q)∧Below W.heap.size W w'):=Lib.hid (by rw [hq]; exact HNA.out g)
  have HF:Hid (∀ W,Below W1.heap.size W1 W→Calls Tryd.prog 104 #[.agg #[.slice Av nv cv,.slice Af nf cf,.int .i64 ch],.slice A nk c,.slice (some ⟨W.heap.size,0,none⟩) 1 1] (W.alloc (.cells #[.int .i64 q] 3)) fun e w'=>e = .returned (.bool r)∧Below W.heap.size W w'):=Lib.hid fun W hb=>by
   have h:=HFT.out (W.alloc (.cells #[.int .i64 q] 3)) [q] (some ⟨W.heap.size,0,none⟩) 1 (bt hb (below_new _ _)) (Reads.of_own (own_lit (w:=W) (base:=W.heap.size) (e:=3) (size:=1) (xs:=vi [q]) (n:=1) (Nat.le_refl _) rfl (len_le (by omega)))) (by show 1≤nk; omega)
   exact h.mono fun e w' h2=>⟨by rw [h2.1,HR2.out],bt (below_new _ _) h2.2⟩
  have hbc:Below W1.heap.size W1 W1.drew:=(Below.refl _ _).drew
  clear hn0 hlen hq hreq g2 g3 g4 g'
  rcases g with rfl | rfl
  ·
   go_enter Tryd.func99,Tryd.ntmps99
   go_upto_region 1 with fail
   try rw [HZ2.out]
   rw [← HW1.out]
   try rw [← HZ.out]
   go_upto_region 20 with fail
   refine wp_region_noPanic ?_
   go_region_held2 (fun W=>W.cell? ⟨z,0,none⟩ = some (.slice Av nv cv)∧W.cell? ⟨z,1,none⟩ = some (.slice Af nf cf)∧W.cell? ⟨z,2,none⟩ = some (.int .i64 ch)∧W.cell? ⟨z + 1,0,none⟩ = some (.int .i64 14)∧W.cell? ⟨z + 1,1,none⟩ = some (.int .i64 n)∧W.cell? ⟨z + 1,2,none⟩ = some (.int .i64 m)∧W.cell? ⟨z + 1,3,none⟩ = some (.slice A nk c))
    (first
    | exact ⟨(HK.out _ hbc).1.1,(HK.out _ hbc).1.2.1,(HK.out _ hbc).1.2.2,(HK.out _ hbc).2.1,(HK.out _ hbc).2.2.1,(HK.out _ hbc).2.2.2.1,(HK.out _ hbc).2.2.2.2⟩
    | exact ⟨(HK.out _ (ba hbc _)).1.1,(HK.out _ (ba hbc _)).1.2.1,(HK.out _ (ba hbc _)).1.2.2,(HK.out _ (ba hbc _)).2.1,(HK.out _ (ba hbc _)).2.2.1,(HK.out _ (ba hbc _)).2.2.2.1,(HK.out _ (ba hbc _)).2.2.2.2⟩)
    (first
    | (go_at_call 84; (with_reducible refine (HNA2.out _ hbc).mono ?_); rintro e w2 ⟨rfl,hb2⟩; replace hbc:=bt hbc hb2; clear hb2)
    | (go_at_call 104; (with_reducible refine (HF.out _ hbc).mono ?_); rintro e w3 ⟨rfl,hb3⟩; replace hbc:=bt hbc hb3; clear hb3))
   all_goals
    refine NoPanic.normal ?_
    go_wp2_with fail
    go_ret
    exact ⟨rfl,bt HB1.out hbc⟩
  ·
   go_enter Tryd.func99,Tryd.ntmps99
   go_upto_region 1 with fail
   try rw [HZ2.out]
   rw [← HW1.out]
   try rw [← HZ.out]
   go_upto_region 20 with fail
   refine wp_region_noPanic ?_
   go_region_held2 (fun W=>W.cell? ⟨z,0,none⟩ = some (.slice Av nv cv)∧W.cell? ⟨z,1,none⟩ = some (.slice Af nf cf)∧W.cell? ⟨z,2,none⟩ = some (.int .i64 ch)∧W.cell? ⟨z + 1,0,none⟩ = some (.int .i64 16)∧W.cell? ⟨z + 1,1,none⟩ = some (.int .i64 n)∧W.cell? ⟨z + 1,2,none⟩ = some (.int .i64 m)∧W.cell? ⟨z + 1,3,none⟩ = some (.slice A nk c))
    (first
    | exact ⟨(HK.out _ hbc).1.1,(HK.out _ hbc).1.2.1,(HK.out _ hbc).1.2.2,(HK.out _ hbc).2.1,(HK.out _ hbc).2.2.1,(HK.out _ hbc).2.2.2.1,(HK.out _ hbc).2.2.2.2⟩
    | exact ⟨(HK.out _ (ba hbc _)).1.1,(HK.out _ (ba hbc _)).1.2.1,(HK.out _ (ba hbc _)).1.2.2,(HK.out _ (ba hbc _)).2.1,(HK.out _ (ba hbc _)).2.2.1,(HK.out _ (ba hbc _)).2.2.2.1,(HK.out _ (ba hbc _)).2.2.2.2⟩)
    (first
    | (go_at_call 84; (with_reducible refine (HNA2.out _ hbc).mono ?_); rintro e w2 ⟨rfl,hb2⟩; replace hbc:=bt hbc hb2; clear hb2)
    | (go_at_call 104; (with_reducible refine (HF.out _ hbc).mono ?_); rintro e w3 ⟨rfl,hb3⟩; replace hbc:=bt hbc hb3; clear hb3))
   all_goals
    refine NoPanic.normal ?_
    go_wp2_with fail
    go_ret
    exact ⟨rfl,bt HB1.out hbc⟩
 have g5:=g
 clear g
 by_cases g:k = 11∨k = 23
 ·obtain ⟨hpl,hpa⟩:=HPA.out g
  obtain ⟨pl,hpp⟩:∃ pl,pl = TY.params s n:=⟨_,rfl⟩
  rw [← hpp] at hpl hpa
  have HR2:Hid (r = fitB s x.kids pl):=Lib.hid (by rw [HR.out]; congr 1; unfold wants; rw [← HKK.out,← HNN.out,← hpp]; rw [if_neg g',if_neg g2,if_neg g3,if_neg g4,if_neg g5,if_pos g])
  obtain ⟨np,hnp⟩:∃ q,q = pl.length:=⟨_,rfl⟩
  rw [← hnp] at hpl hpa
  have HPA2:=Lib.hid hpa
  have HF:Hid (∀ (W:World) (B:Option Addr) (cb:Nat),Below W1.heap.size W1 W→Reads W W.heap.size 1 B np (vi pl)→Calls Tryd.prog 104 #[.agg #[.slice Av nv cv,.slice Af nf cf,.int .i64 ch],.slice A nk c,.slice B np cb] W fun e w'=>e = .returned (.bool r)∧Below W.heap.size W w'):=Lib.hid fun W B cb hb hr=>by
   have h:=HFT.out W pl B cb hb (by rw [← hnp]; exact hr) (by rw [← hnp]; exact hpl)
   rw [← hnp,← HR2.out] at h
   exact h
  have hbc:Below W1.heap.size W1 W1.drew:=(Below.refl _ _).drew
  clear hn0 hlen hpl hpa hpp hnp g2 g3 g4 g5 g'
  rcases g with rfl | rfl
  all_goals
   go_enter Tryd.func99,Tryd.ntmps99
   go_upto_region 1 with fail
   try rw [HZ2.out]
   rw [← HW1.out]
   try rw [← HZ.out]
   go_upto_region 23 with fail
   refine wp_region_noPanic ?_
   go_region_held2 (fun W=>W.cell? ⟨z,0,none⟩ = some (.slice Av nv cv)∧W.cell? ⟨z,1,none⟩ = some (.slice Af nf cf)∧W.cell? ⟨z,2,none⟩ = some (.int .i64 ch)∧W.cell? ⟨z + 1,1,none⟩ = some (.int .i64 n)∧W.cell? ⟨z + 1,3,none⟩ = some (.slice A nk c))
    (exact ⟨(HK.out _ hbc).1.1,(HK.out _ hbc).1.2.1,(HK.out _ hbc).1.2.2,(HK.out _ hbc).2.2.1,(HK.out _ hbc).2.2.2.2⟩)
    (first
    | (go_at_call 105; (with_reducible refine (HPA2.out _ hbc).mono ?_); rintro e w11 ⟨A5,c5,rfl,ho5,hb11⟩; replace hbc:=bt hbc hb11; have HR5:=Lib.hid (Reads.of_own ho5); clear ho5 hb11)
    | (go_at_call 104; (with_reducible refine (HF.out _ _ _ hbc HR5.out).mono ?_); rintro e w12 ⟨rfl,hb12⟩; replace hbc:=bt hbc hb12; clear hb12))
   all_goals
    refine NoPanic.normal ?_
    go_wp2_with fail
    go_ret
    exact ⟨rfl,bt HB1.out hbc⟩
 ·have HR2 : Hid (r = true) := Lib.hid (by
   rw [HR.out]
   have:wants s x = []:=by unfold wants; rw [← HKK.out,← HNN.out]; rw [if_neg g',if_neg g2,if_neg g3,if_neg g4,if_neg g5,if_neg g]
   rw [this]
   exact fitB_true s x.kids [] fun j u k _ h=>by simp at h)
  have e9:(k == 9) = false:=by rw [beq_eq_false_iff_ne]; omega
  have e10:(k == 10) = false:=by rw [beq_eq_false_iff_ne]; omega
  have e17:(k == 17) = false:=by rw [beq_eq_false_iff_ne]; omega
  have e18:(k == 18) = false:=by rw [beq_eq_false_iff_ne]; omega
  have e7:(k == 7) = false:=by rw [beq_eq_false_iff_ne]; omega
  have e19:(k == 19) = false:=by rw [beq_eq_false_iff_ne]; omega
  have e20:(k == 20) = false:=by rw [beq_eq_false_iff_ne]; omega
  have e24:(k == 24) = false:=by rw [beq_eq_false_iff_ne]; omega
  have e22:(k == 22) = false:=by rw [beq_eq_false_iff_ne]; omega
  have e15:(k == 15) = false:=by rw [beq_eq_false_iff_ne]; omega
  have e14:(k == 14) = false:=by rw [beq_eq_false_iff_ne]; omega
  have e16:(k == 16) = false:=by rw [beq_eq_false_iff_ne]; omega
  have e11:(k == 11) = false:=by rw [beq_eq_false_iff_ne]; omega
  have e23:(k == 23) = false:=by rw [beq_eq_false_iff_ne]; omega
  clear hn0 hlen g g' g2 g3 g4 g5
  go_enter Tryd.func99,Tryd.ntmps99
  go_upto_region 1 with fail
  try rw [HZ2.out]
  rw [← HW1.out]
  try rw [← HZ.out]
  go_wp2_with fail
  go_ret
  exact ⟨ret_b HR2.out.symm,HB1.out⟩
end Go.Proofs.YtkkenbalpnmfmaaDoor
