/- Texts joined. -/
import Derived.Test.YtkkenbalpnmfmaaDoorJ32
import Derived.WalkSmall
import Derived.Laws.EntriesVeiled
import Derived.Lib.AppendZerosOnto
import Derived.Test.YtkkenbalpnmfmaaDoorJ05
set_option linter.unusedVariables false
namespace Go.Proofs.YtkkenbalpnmfmaaDoor
open Go.RowKit WM TR TY

set_option maxRecDepth 100000 in
set_option maxHeartbeats 8000000 in
theorem errorOf_is (s : Sc) (x : T) (d d' : Nat) (A Av Af : Option Addr) (c cv cf : Nat) (w : World) (hs : ScR w d s Av cv Af cf) (hnd : Nds w (Lt w.heap.size) d' x.kids A c) (hx : AOk x) (hno : NOk x) (hok : ∀ u ∈ x.kids, AOk u) (hfo : FOk s.funs) :
  Calls Tryd.prog 81 #[.agg #[.slice Av s.vars.length cv,.slice Af s.funs.length cf,.int .i64 s.ch],.agg #[.int .i64 x.k,.int .i64 x.n,.int .i64 x.m,.slice A x.kids.length c]] w fun e w'=>e = .returned (.int .i64 (errOf s x))∧Below w.heap.size w w':=by
 obtain ⟨nv,hnv⟩:∃ z,z = s.vars.length:=⟨_,rfl⟩
 obtain ⟨nf,hnf⟩:∃ z,z = s.funs.length:=⟨_,rfl⟩
 obtain ⟨nk,hnk⟩:∃ z,z = x.kids.length:=⟨_,rfl⟩
 obtain ⟨ch,hch⟩:∃ z,z = s.ch:=⟨_,rfl⟩
 obtain ⟨k,hk⟩:∃ z,z = x.k:=⟨_,rfl⟩
 obtain ⟨n,hn⟩:∃ z,z = x.n:=⟨_,rfl⟩
 obtain ⟨m,hm⟩:∃ z,z = x.m:=⟨_,rfl⟩
 have hnkl:nk≤1000000:=by rw [hnk]; exact hx.2.2
 obtain ⟨z,hz⟩:∃ z,z = w.heap.size:=⟨_,rfl⟩
 obtain ⟨W1,hW1⟩:∃ W,W = (w.alloc (.cells #[.slice Av nv cv,.slice Af nf cf,.int .i64 ch] 79)).alloc (.cells #[.int .i64 k,.int .i64 n,.int .i64 m,.slice A nk c] 25):=⟨_,rfl⟩
 have hb1:Below w.heap.size w W1:=by rw [hW1]; exact ba (below_new _ _) _
 have ks:Blk W1 z 79 #[.slice Av nv cv,.slice Af nf cf,.int .i64 ch]:=by rw [hW1,hz]; exact (Blk.new _ _ _).alloc _
 have kx:Blk W1 (z + 1) 25 #[.int .i64 k,.int .i64 n,.int .i64 m,.slice A nk c]:=by rw [hW1]; exact Blk.new_at _ _ (by rw [size_alloc,hz]) rfl
 have HK:Hid (∀ W,Below W1.heap.size W1 W→(W.cell? ⟨z,0,none⟩ = some (.slice Av nv cv)∧W.cell? ⟨z,1,none⟩ = some (.slice Af nf cf)∧W.cell? ⟨z,2,none⟩ = some (.int .i64 ch))∧(W.cell? ⟨z + 1,0,none⟩ = some (.int .i64 k)∧W.cell? ⟨z + 1,1,none⟩ = some (.int .i64 n)∧W.cell? ⟨z + 1,2,none⟩ = some (.int .i64 m)∧W.cell? ⟨z + 1,3,none⟩ = some (.slice A nk c))):=Lib.hid fun W hb=>by
  have e1:=ks.below hb ks.lt
  have e2:=kx.below hb kx.lt
  exact ⟨⟨e1.cell 0,e1.cell 1,e1.cell 2⟩,e2.cell 0,e2.cell 1,e2.cell 2,e2.cell 3⟩
 obtain ⟨⟨a0,a1,a2⟩,x0,x1,x2,x3⟩:=HK.out W1 (Below.refl _ _)
 have hz2:(w.alloc (.cells #[.slice Av nv cv,.slice Af nf cf,.int .i64 ch] 79)).heap.size = z + 1:=by rw [size_alloc,hz]
 have HZ2:=Lib.hid hz2
 have HW1:=Lib.hid hW1
 have HZ:=Lib.hid hz
 have HB1:=Lib.hid hb1
 have HNV:=Lib.hid hnv
 have HNF:=Lib.hid hnf
 have HNK:=Lib.hid hnk
 have HCH:=Lib.hid hch
 have HKK:=Lib.hid hk
 have HNN:=Lib.hid hn
 have HMM:=Lib.hid hm
 obtain ⟨bm,hbm⟩:∃ b,b = missing s x:=⟨_,rfl⟩
 obtain ⟨bu,hbu⟩:∃ b,b = misused s x:=⟨_,rfl⟩
 obtain ⟨bf,hbf⟩:∃ b,b = fitB s x.kids (wants s x):=⟨_,rfl⟩
 have HE:Hid (errOf s x = if bm then 5 else if bu || !bf then 12 else 0):=Lib.hid (by unfold errOf; rw [← hbm,← hbu,← hbf])
 have HMI:Hid (∀ W,Below W1.heap.size W1 W→Calls Tryd.prog 82 #[.agg #[.slice Av nv cv,.slice Af nf cf,.int .i64 ch],.agg #[.int .i64 k,.int .i64 n,.int .i64 m,.slice A nk c]] W fun e w'=>e = .returned (.bool bm)∧Below W.heap.size W w'):=Lib.hid fun W hb=>by
  have h:=missing_is s x d A Av Af c cv cf W ((hs.next hb1).next hb) hx.2.2 hx.1 hx.2.1
  rw [← hnv,← hnf,← hnk,← hch,← hk,← hn,← hm,← hbm] at h
  exact h
 have HMU:Hid (bm = false→∀ W,Below W1.heap.size W1 W→Calls Tryd.prog 83 #[.agg #[.slice Av nv cv,.slice Af nf cf,.int .i64 ch],.agg #[.int .i64 k,.int .i64 n,.int .i64 m,.slice A nk c]] W fun e w'=>e = .returned (.bool bu)∧Below W.heap.size W w'):=Lib.hid fun h0 W hb=>by
  have h:=misused_is s x d A Av Af c cv cf W ((hs.next hb1).next hb) hx.2.2 hx.1 hx.2.1 (by rw [← hbm]; exact h0)
  rw [← hnv,← hnf,← hnk,← hch,← hk,← hn,← hm,← hbu] at h
  exact h
 have HKF:Hid (bm = false→bu = false→∀ W,Below W1.heap.size W1 W→Calls Tryd.prog 99 #[.agg #[.slice Av nv cv,.slice Af nf cf,.int .i64 ch],.agg #[.int .i64 k,.int .i64 n,.int .i64 m,.slice A nk c]] W fun e w'=>e = .returned (.bool bf)∧Below W.heap.size W w'):=Lib.hid fun h0 h1 W hb=>by
  have h:=kidsFit_is s x d d' A Av Af c cv cf W ((hs.next hb1).next hb) ((hnd.next hb1).next hb) hx hno hok hfo (by rw [← hbm]; exact h0) (by rw [← hbu]; exact h1)
  rw [← hnv,← hnf,← hnk,← hch,← hk,← hn,← hm,← hbf] at h
  exact h
 obtain ⟨r,hr⟩:∃ r,r = errOf s x:=⟨_,rfl⟩
 rw [← hr] at HE
 rw [← hr,← hnv,← hnf,← hnk,← hch,← hk,← hn,← hm]
 clear hnv hnf hnk hch hk hn hm hz2 hW1 hz hb1 ks kx hs hnd hx hno hok hfo hr hbm hbu hbf
 cases bm with
 | true =>
  have HR:Hid (r = 5):=Lib.hid (by rw [HE.out]; rfl)
  go_enter Tryd.func81,Tryd.ntmps81
  go_upto_region 1 with fail
  try rw [HZ2.out]
  rw [← HW1.out]
  try rw [← HZ.out]
  go_wp2_with (go_at_call 82; refine (HMI.out _ (Below.refl _ _)).mono ?_; rintro e w2 ⟨rfl,hb2⟩; have HB2:=Lib.hid hb2; clear hb2)
  go_ret
  exact ⟨ret_i HR.out.symm,bt HB1.out HB2.out⟩
 | false =>
  have HMU2:=Lib.hid (HMU.out rfl)
  cases bu with
  | true =>
   have HR:Hid (r = 12):=Lib.hid (by rw [HE.out]; rfl)
   go_enter Tryd.func81,Tryd.ntmps81
   go_upto_region 1 with fail
   try rw [HZ2.out]
   rw [← HW1.out]
   try rw [← HZ.out]
   go_wp2_with (first
    | (go_at_call 82; refine (HMI.out _ (Below.refl _ _)).mono ?_; rintro e w2 ⟨rfl,hb2⟩; have HB2:=Lib.hid hb2; clear a0 a1 a2 x0 x1 x2 x3 hb2; obtain ⟨⟨a0,a1,a2⟩,x0,x1,x2,x3⟩:=HK.out _ HB2.out)
    | (go_at_call 83; refine (HMU2.out _ HB2.out).mono ?_; rintro e w3 ⟨rfl,hb3⟩; have HB3:=Lib.hid (bt HB2.out hb3); clear hb3))
   go_ret
   exact ⟨ret_i HR.out.symm,bt HB1.out HB3.out⟩
  | false =>
   have HKF2:=Lib.hid (HKF.out rfl rfl)
   cases bf with
   | true =>
    have HR:Hid (r = 0):=Lib.hid (by rw [HE.out]; rfl)
    go_enter Tryd.func81,Tryd.ntmps81
    go_upto_region 1 with fail
    try rw [HZ2.out]
    rw [← HW1.out]
    try rw [← HZ.out]
    go_wp2_with (first
     | (go_at_call 82; refine (HMI.out _ (Below.refl _ _)).mono ?_; rintro e w2 ⟨rfl,hb2⟩; have HB2:=Lib.hid hb2; clear a0 a1 a2 x0 x1 x2 x3 hb2; obtain ⟨⟨a0,a1,a2⟩,x0,x1,x2,x3⟩:=HK.out _ HB2.out)
     | (go_at_call 83; refine (HMU2.out _ HB2.out).mono ?_; rintro e w3 ⟨rfl,hb3⟩; have HB3:=Lib.hid (bt HB2.out hb3); clear a0 a1 a2 x0 x1 x2 x3 hb3; obtain ⟨⟨a0,a1,a2⟩,x0,x1,x2,x3⟩:=HK.out _ HB3.out)
     | (go_at_call 99; refine (HKF2.out _ HB3.out).mono ?_; rintro e w4 ⟨rfl,hb4⟩; have HB4:=Lib.hid (bt HB3.out hb4); clear hb4))
    go_ret
    exact ⟨ret_i HR.out.symm,bt HB1.out HB4.out⟩
   | false =>
    have HR:Hid (r = 12):=Lib.hid (by rw [HE.out]; rfl)
    go_enter Tryd.func81,Tryd.ntmps81
    go_upto_region 1 with fail
    try rw [HZ2.out]
    rw [← HW1.out]
    try rw [← HZ.out]
    go_wp2_with (first
     | (go_at_call 82; refine (HMI.out _ (Below.refl _ _)).mono ?_; rintro e w2 ⟨rfl,hb2⟩; have HB2:=Lib.hid hb2; clear a0 a1 a2 x0 x1 x2 x3 hb2; obtain ⟨⟨a0,a1,a2⟩,x0,x1,x2,x3⟩:=HK.out _ HB2.out)
     | (go_at_call 83; refine (HMU2.out _ HB2.out).mono ?_; rintro e w3 ⟨rfl,hb3⟩; have HB3:=Lib.hid (bt HB2.out hb3); clear a0 a1 a2 x0 x1 x2 x3 hb3; obtain ⟨⟨a0,a1,a2⟩,x0,x1,x2,x3⟩:=HK.out _ HB3.out)
     | (go_at_call 99; refine (HKF2.out _ HB3.out).mono ?_; rintro e w4 ⟨rfl,hb4⟩; have HB4:=Lib.hid (bt HB3.out hb4); clear hb4))
    go_ret
    exact ⟨ret_i HR.out.symm,bt HB1.out HB4.out⟩
end Go.Proofs.YtkkenbalpnmfmaaDoor

namespace Go.Proofs.YtkkenbalpnmfmaaDoor
open Go.RowKit WM TR TY

theorem aok_of {x:T} (h:NOk x):AOk x:=⟨h.n,h.m,by have:=h.len; omega⟩
structure PW (B gp:Nat) (W0 W:World) (v:Value) (pl:List Int):Prop where
  keep:∀ b,b < B→b≠gp→W.heap[b]? = W0.heap[b]?
  os:W.os = W0.os
  tape:W.tape = W0.tape
  output:W.output = W0.output
  size:B≤W.heap.size
  gp_lt:gp < B
  blk:Blk W gp 22 #[v]
  own:W.ownsRow B 3 1 v pl.length (vi pl)
structure PM (gp:Nat) (W:World) (v:Value) (W':World) (v':Value):Prop where
  size:W.heap.size≤W'.heap.size
  keep:∀ b,b < W.heap.size→b≠gp→v.ownBlock≠some b→W'.heap[b]? = W.heap[b]?
  row:∀ b,v'.ownBlock = some b→v.ownBlock = some b∨W.heap.size≤b
section
variable {B gp:Nat} {W0 W W' W'':World} {v v' v'':Value} {pl:List Int}
theorem PM.trans (h:PM gp W v W' v') (k:PM gp W' v' W'' v''):PM gp W v W'' v'' :=
  ⟨Nat.le_trans h.size k.size,fun b hb h1 h2=>(k.keep b (Nat.lt_of_lt_of_le hb h.size) h1 (fun e=>(h.row b e).elim h2 (fun h3=>by omega))).trans (h.keep b hb h1 h2),
   fun _ hb=>(k.row _ hb).elim (h.row _) (fun h3=>.inr (Nat.le_trans h.size h3))⟩
theorem PM.below (h:Below W.heap.size W W'):PM gp W v W' v:=⟨h.size,fun b hb _ _=>h.block b hb,fun _ hb=>.inl hb⟩
theorem PW.below (h:PW B gp W0 W v pl) (hb:Below W.heap.size W W'):PW B gp W0 W' v pl :=
  ⟨fun b h1 h2=>(hb.block b (Nat.lt_of_lt_of_le h1 h.size)).trans (h.keep b h1 h2),hb.os.trans h.os,hb.tape.trans h.tape,hb.output.trans h.output,Nat.le_trans h.size hb.size,h.gp_lt,h.blk.below hb h.blk.lt,ownsRow_below h.own hb⟩
theorem PW.append (h : PW B gp W0 W v pl) {x : Int} {w3 : World} {v3 : Value} {o : Obj} (hown : w3.ownsRow B 3 1 v3 (pl.length + 1) (vi pl ++ [.int .i64 x])) (hg : (W.alloc o).grownBy w3 v.ownBlock) (hn : v3.ownBlock = v.ownBlock ∨ v3.ownBlock = some (W.alloc o).heap.size) :
    PW B gp W0 (w3.setCell ⟨gp,0,none⟩ v3) v3 (pl ++ [x])∧PM gp W v (w3.setCell ⟨gp,0,none⟩ v3) v3∧w3.cell? ⟨gp,0,none⟩ = some v∧w3.frozen? ⟨gp,0,none⟩ = false:=by
  have hsa:(W.alloc o).heap.size = W.heap.size + 1:=size_alloc _ _
  have hs3:=hg.size
  have hb:=below_new W o
  have hsz:=h.size
  have hgl:=h.gp_lt
  have hv:∀ b,b < B→v.ownBlock≠some b:=fun b hb e=>by have:=(h.own.lt b e).1; omega
  have hB:Blk w3 gp 22 #[v]:=(hg.block gp (by omega) (fun e=>hv _ (by omega) e.symm)).trans (h.blk.alloc o)
  have hsc:(w3.setCell ⟨gp,0,none⟩ v3).heap.size = w3.heap.size:=World.size_setCell _ _ _
  have hkeep:∀ b,b < W.heap.size→b≠gp→v.ownBlock≠some b→(w3.setCell ⟨gp,0,none⟩ v3).heap[b]? = W.heap[b]?:=fun b h1 h2 h3 =>
    (Below.heap_setCell w3 ⟨gp,0,none⟩ v3 b h2).trans ((hg.block b (by omega) (fun e=>h3 e.symm)).trans (hb.block b h1))
  refine ⟨⟨fun b h1 h2=>(hkeep b (by omega) h2 (hv b h1)).trans (h.keep b h1 h2),(hg.os.trans hb.os).trans h.os,(hg.tape.trans hb.tape).trans h.tape,(hg.output.trans hb.output).trans h.output,by omega,hgl,by simpa using hB.set_ 0 v3,?_⟩,⟨by omega,hkeep,fun b e=>?_⟩,hB.cell 0,hB.frozen 0⟩
  · rw [List.length_append,List.length_singleton,vi_appY]
    exact ownsRow_setCell_below hown (by show gp < B; exact hgl) v3
  · rcases hn with hn | hn
    · exact .inl (hn ▸ e)
    · rw [hn] at e; have:=Option.some.inj e; exact .inr (by omega)
theorem PW.pop {g n c : Nat} {x : Int} (h : PW B gp W0 W (.slice (some ⟨g, 0, none⟩) n c) (pl ++ [x])) (hn : n = pl.length + 1) :
    PW B gp W0 (W.setCell ⟨gp,0,none⟩ (.slice (some ⟨g,0,none⟩) pl.length c)) (.slice (some ⟨g,0,none⟩) pl.length c) pl∧PM gp W (.slice (some ⟨g,0,none⟩) n c) (W.setCell ⟨gp,0,none⟩ (.slice (some ⟨g,0,none⟩) pl.length c)) (.slice (some ⟨g,0,none⟩) pl.length c):=by
  subst hn
  have ho:=h.own
  rw [List.length_append,List.length_singleton,vi_appY] at ho
  have hpp:=ownsRow_pop (by simp [vi]) ho
  have hsc:(W.setCell ⟨gp,0,none⟩ (.slice (some ⟨g,0,none⟩) pl.length c)).heap.size = W.heap.size:=World.size_setCell _ _ _
  have hkeep:∀ b,b≠gp→(W.setCell ⟨gp,0,none⟩ (.slice (some ⟨g,0,none⟩) pl.length c)).heap[b]? = W.heap[b]?:=fun b h2=>Below.heap_setCell W ⟨gp,0,none⟩ _ b h2
  have hgl:=h.gp_lt
  exact ⟨⟨fun b h1 h2=>(hkeep b h2).trans (h.keep b h1 h2),h.os,h.tape,h.output,by rw [hsc]; exact h.size,hgl,by simpa using h.blk.set_ 0 (.slice (some ⟨g,0,none⟩) pl.length c),ownsRow_setCell_below hpp (by show gp < B; exact hgl) _⟩,
    ⟨by rw [hsc]; exact Nat.le_refl _,fun b _ h2 _=>hkeep b h2,fun b e=>.inl e⟩⟩
end
def VPost (B gp:Nat) (W0 W:World) (v:Value) (pl:List Int) (r:List Int × Int) (e:Ending) (W':World):Prop :=
  ∃ A' c',e = .returned (.int .i64 r.2)∧PW B gp W0 W' (.slice A' (pl ++ r.1).length c') (pl ++ r.1)∧PM gp W v W' (.slice A' (pl ++ r.1).length c')
def clo (gs gp gv:Nat):Value:=.func (.func 80) #[] #[.pointer (some ⟨gs,0,none⟩),.pointer (some ⟨gp,0,none⟩),.pointer (some ⟨gv,0,none⟩)]
theorem int_infoV:(Tryd.prog.info? 3).map (fun i=>(i.zero,i.size,i.bytes)) = some (some (.int .i64 0),1,8):=by kernel_rfl

theorem firstL_zero (s:Sc):∀ (l:List T) (i:Nat),(firstL s l i).2 = 0→firstL s l i = ([],0)
  | [],_,_=>rfl
  | u :: l,i,h=>by
    rw [firstL] at h ⊢
    split at h
    · next h2=>exact absurd h h2
    · next h2=>rw [if_neg h2]; exact firstL_zero s l (i + 1) h
theorem firstW_zero (s:Sc) (x:T) (h:(firstW s x).2 = 0):(firstW s x).1 = []:=by
  rw [firstW_eq] at h ⊢
  split at h
  · next h2=>exact absurd h h2
  · next h2=>rw [if_neg h2,firstL_zero s _ _ h]
theorem firstL_drop (s:Sc) {l:List T} {j:Nat} {u:T} (h:l[j]? = some u):firstL s (l.drop j) j = if (firstW s u).2≠0 then ((j:Int) :: (firstW s u).1,(firstW s u).2) else firstL s (l.drop (j + 1)) (j + 1):=by
  obtain ⟨h1,h2⟩:=List.getElem?_eq_some_iff.1 h
  rw [List.drop_eq_getElem_cons h1,firstL,h2]
theorem firstL_end (s:Sc) {l:List T} {j:Nat} (h:l.length≤j):firstL s (l.drop j) j = ([],0):=by
  rw [List.drop_eq_nil_of_le h,firstL]
set_option maxRecDepth 100000 in
set_option maxHeartbeats 16000000 in
theorem visitW_is (s : Sc) (d : Nat) (Av Af : Option Addr) (cv cf : Nat) (z0 gs gp gv B : Nat) (W0 : World) (hz0 : z0 ≤ gp) (hgs : gs < B ∧ gs ≠ gp) (hgv : gv < B ∧ gv ≠ gp) (hz0B : z0 ≤ B)
    (ks:Blk W0 gs 79 #[.slice Av s.vars.length cv,.slice Af s.funs.length cf,.int .i64 s.ch]) (kv:W0.cell? ⟨gv,0,none⟩ = some (clo gs gp gv))
    (hv:Nds W0 (Lt z0) d s.vars Av cv) (hf:Nds W0 (Lt z0) d s.funs Af cf) (hfo:FOk s.funs) :
    ∀ (D:Nat) (x:T) (A:Option Addr) (c:Nat) (pl:List Int) (Ap:Option Addr) (cp:Nat) (W:World),Rep W0 (Lt z0) D x (nd x A c)→Fit x→pl.length + D≤1000→PW B gp W0 W (.slice Ap pl.length cp) pl →
      Calls Tryd.prog 80 #[.agg #[.int .i64 x.k,.int .i64 x.n,.int .i64 x.m,.slice A x.kids.length c],.pointer (some ⟨gs,0,none⟩),.pointer (some ⟨gp,0,none⟩),.pointer (some ⟨gv,0,none⟩)] W
        (VPost B gp W0 W (.slice Ap pl.length cp) pl (firstW s x))
  | 0,_,_,_,_,_,_,_,h,_,_,_=>h.elim
  | D + 1,x,A,c,pl,Ap,cp,W,hr,hfit,hD,hpw=>by
    have ih:=visitW_is s d Av Af cv cf z0 gs gp gv B W0 hz0 hgs hgv hz0B ks kv hv hf hfo D
    obtain ⟨j0,hj,hy0,hy1,hy2⟩:=info_parts int_infoV
    have hno:=nok_of hfit
    obtain ⟨xs,hrd,hrs⟩:=hr.kids
    have hcap:=hr.cap
    have hkl:=hno.len
    have hnd0:Nds W0 (Lt z0) D x.kids A c:=⟨⟨xs,hrd,hrs⟩,hcap,by omega⟩
    have hokk:∀ u ∈ x.kids,AOk u:=fun u hu=>aok_of (nok_of (hfit.kids u hu))
    have HKP:Hid (∀ W v pl,PW B gp W0 W v pl→Keeps (Lt z0) W0 W∧∀ b,Lt z0 b→Lt W.heap.size b):=Lib.hid fun W v pl h=>⟨fun b (hb:b < z0)=>h.keep b (by omega) (by omega),fun b (hb:b < z0)=>by have:=h.size; show b < _; omega⟩
    have HER:Hid (∀ W v pl,PW B gp W0 W v pl→Calls Tryd.prog 81 #[.agg #[.slice Av s.vars.length cv,.slice Af s.funs.length cf,.int .i64 s.ch],.agg #[.int .i64 x.k,.int .i64 x.n,.int .i64 x.m,.slice A x.kids.length c]] W fun e w'=>e = .returned (.int .i64 (errOf s x))∧Below W.heap.size W w'):=Lib.hid fun W v pl h=>by
      obtain ⟨h1,h2⟩:=HKP.out W v pl h
      exact errorOf_is s x d D A Av Af c cv cf W ⟨hv.keep h1 h2,hf.keep h1 h2⟩ (hnd0.keep h1 h2) (aok_of hno) hno hokk hfo
    have HSC:Hid (∀ W v pl,PW B gp W0 W v pl→(W.cell? ⟨gs,0,none⟩ = some (.slice Av s.vars.length cv)∧W.cell? ⟨gs,1,none⟩ = some (.slice Af s.funs.length cf)∧W.cell? ⟨gs,2,none⟩ = some (.int .i64 s.ch))∧W.cell? ⟨gv,0,none⟩ = some (clo gs gp gv)):=Lib.hid fun W v pl h=>by
      have e1:=h.keep gs hgs.1 hgs.2
      have e2:=h.keep gv hgv.1 hgv.2
      exact ⟨⟨(World.cell?_of_block e1).trans (ks.cell 0),(World.cell?_of_block e1).trans (ks.cell 1),(World.cell?_of_block e1).trans (ks.cell 2)⟩,(World.cell?_of_block e2).trans kv⟩
    have HKID:Hid (∀ (j:Nat) (u:T),x.kids[j]? = some u→∃ b off A' c',A = some ⟨b,off,none⟩∧Rep W0 (Lt z0) D u (nd u A' c')∧∀ W v pl,PW B gp W0 W v pl→∀ i v,(nd u A' c')[i]? = some v→W.cell? ⟨b,off + j * 4 + i,none⟩ = some v):=Lib.hid fun j u hu=>by
      obtain ⟨b,off,A',c',hA,hb,hc,hru⟩:=hr.kid hu
      refine ⟨b,off,A',c',hA,hru,fun W v pl h i v hv=>?_⟩
      have hb':b < z0:=hb
      exact (World.cell?_of_block (h.keep b (by omega) (by omega))).trans (hc i v hv)
    obtain ⟨nv,hnv⟩:∃ z,z = s.vars.length:=⟨_,rfl⟩
    obtain ⟨nf,hnf⟩:∃ z,z = s.funs.length:=⟨_,rfl⟩
    obtain ⟨nk,hnk⟩:∃ z,z = x.kids.length:=⟨_,rfl⟩
    obtain ⟨ch,hch⟩:∃ z,z = s.ch:=⟨_,rfl⟩
    obtain ⟨k,hk⟩:∃ z,z = x.k:=⟨_,rfl⟩
    obtain ⟨n,hn⟩:∃ z,z = x.n:=⟨_,rfl⟩
    obtain ⟨m,hm⟩:∃ z,z = x.m:=⟨_,rfl⟩
    obtain ⟨np,hnp⟩:∃ z,z = pl.length:=⟨_,rfl⟩
    obtain ⟨er,her⟩:∃ z,z = errOf s x:=⟨_,rfl⟩
    have hnk10:nk≤10:=by rw [hnk]; exact hkl
    have hnp1:np≤1000:=by omega
    have HFW:Hid (firstW s x = if er≠0 then ([],er) else firstL s x.kids 0):=Lib.hid (by rw [firstW_eq,her])
    rw [← hnv,← hnf,← hnk,← hch,← hk,← hn,← hm,← her] at HER
    rw [← hnv,← hnf,← hch] at HSC
    rw [← hnp] at hpw
    obtain ⟨W1,hW1⟩:∃ Z,Z = W.alloc (.cells #[.int .i64 k,.int .i64 n,.int .i64 m,.slice A nk c] 25):=⟨_,rfl⟩
    obtain ⟨g4,hg4⟩:∃ z,z = W.heap.size:=⟨_,rfl⟩
    have hb1:Below W.heap.size W W1:=by rw [hW1]; exact below_new _ _
    have k4:Blk W1 g4 25 #[.int .i64 k,.int .i64 n,.int .i64 m,.slice A nk c]:=by rw [hW1,hg4]; exact Blk.new _ _ _
    have HP1:=Lib.hid (hpw.below hb1)
    have HM1:Hid (PM gp W (.slice Ap np cp) W1 (.slice Ap np cp)):=Lib.hid (PM.below hb1)
    obtain ⟨y0,y1,y2,y3⟩:W1.cell? ⟨g4,0,none⟩ = some (.int .i64 k)∧W1.cell? ⟨g4,1,none⟩ = some (.int .i64 n)∧W1.cell? ⟨g4,2,none⟩ = some (.int .i64 m)∧W1.cell? ⟨g4,3,none⟩ = some (.slice A nk c):=⟨k4.cell 0,k4.cell 1,k4.cell 2,k4.cell 3⟩
    have HK4:=Lib.hid k4
    obtain ⟨⟨a0,a1,a2⟩,_⟩:=HSC.out W1 _ _ HP1.out
    have HW1:=Lib.hid hW1
    have HG4:=Lib.hid hg4
    have HIH:=Lib.hid ih
    have HFIT:=Lib.hid hfit
    have HNK:=Lib.hid hnk
    have HNP:=Lib.hid hnp
    have HD:=Lib.hid hD
    rw [← hnk,← hk,← hn,← hm,← hnp]
    obtain ⟨Q,hQ⟩:∃ Q,Q = VPost B gp W0 W (.slice Ap np cp) pl (firstW s x):=⟨_,rfl⟩
    rw [← hQ]
    have HQ:=Lib.hid hQ
    clear hnv hnf hnk hch hk hn hm hnp her hW1 hg4 hb1 k4 hpw ih hfit hno hokk hnd0 hrd hrs hcap hkl hr ks kv hv hf hfo hQ hD
    go_enter Tryd.func80,Tryd.ntmps80
    go_upto_region 1 with fail
    rw [← HW1.out,← HG4.out]
    go_upto_region 2 with (go_at_call 81; refine (HER.out _ _ _ HP1.out).mono ?_; rintro e w2 ⟨rfl,hb2⟩; have HP2:=Lib.hid (HP1.out.below hb2); have HM2:Hid (PM gp W (.slice Ap np cp) w2 (.slice Ap np cp)):=Lib.hid (HM1.out.trans (PM.below hb2)); clear y0 y1 y2 y3 a0 a1 a2; have y3:w2.cell? ⟨g4,3,none⟩ = some (.slice A nk c):=(HK4.out.below hb2 HK4.out.lt).cell 3; clear hb2)
    by_cases he:er = 0
    · have he2:(er != 0) = false:=by rw [bne_eq_false_iff_eq]; exact he
      have HFL:Hid (firstW s x = firstL s x.kids 0):=Lib.hid (by rw [HFW.out,if_neg (by simpa using he)])
      clear he
      go_upto_region 5 with fail
      clear y3
      go_loopw [19] (fun i wr=>∃ (j:Nat) (A5:Option Addr) (c5:Nat),j≤nk∧i = .int .i64 j∧Hid (PW B gp W0 wr (.slice A5 np c5) pl)∧Hid (PM gp W (.slice Ap np cp) wr (.slice A5 np c5))∧Hid (firstW s x = firstL s (x.kids.drop j) j)) (fun i _=>nk - (intOf i).toNat)
      case atStart=>exact ⟨0,Ap,cp,Nat.zero_le _,rfl,HP2,HM2,by rw [List.drop_zero]; exact HFL⟩
      case round =>
        clear HP2 HM2 HFL
        obtain ⟨j,A5,c5,hj5,rfl,HP5,HM5,HF5⟩:=hrel
        by_cases hlt:j < nk
        · obtain ⟨u,hu⟩:∃ u,x.kids[j]? = some u:=⟨_,List.getElem?_eq_getElem (by rw [← HNK.out]; exact hlt)⟩
          obtain ⟨b,off,A',c',hA,hru,hcu⟩:=HKID.out j u hu
          subst hA
          have hcv:=hcu wr _ _ HP5.out
          obtain ⟨nu,hnu⟩:∃ q,q = u.kids.length:=⟨_,rfl⟩
          obtain ⟨v0,v1,v2,v3⟩:wr.cell? ⟨b,off + j * 4,none⟩ = some (.int .i64 u.k)∧wr.cell? ⟨b,off + j * 4 + 1,none⟩ = some (.int .i64 u.n)∧wr.cell? ⟨b,off + j * 4 + 2,none⟩ = some (.int .i64 u.m)∧wr.cell? ⟨b,off + j * 4 + 3,none⟩ = some (.slice A' nu c'):=⟨hcv 0 _ rfl,hcv 1 _ rfl,hcv 2 _ rfl,by rw [hnu]; exact hcv 3 _ rfl⟩
          have hib:(0:Int)≤(j:Int)∧(j:Int) < (nk:Int):=⟨by omega,by omega⟩
          have HFD:=Lib.hid (firstL_drop s hu)
          have hfu:=HFIT.out.kids u (List.mem_of_getElem? hu)
          have hl:(pl ++ [(j:Int)]).length = np + 1:=by rw [List.length_append,List.length_singleton,HNP.out]
          have HCALL:Hid (∀ A3 c3 V4,PW B gp W0 V4 (.slice A3 (np + 1) c3) (pl ++ [(j:Int)])→Calls Tryd.prog 80 #[.agg #[.int .i64 u.k,.int .i64 u.n,.int .i64 u.m,.slice A' nu c'],.pointer (some ⟨gs,0,none⟩),.pointer (some ⟨gp,0,none⟩),.pointer (some ⟨gv,0,none⟩)] V4 (VPost B gp W0 V4 (.slice A3 (np + 1) c3) (pl ++ [(j:Int)]) (firstW s u))):=Lib.hid fun A3 c3 V4 h4=>by
            have h:=HIH.out u A' c' (pl ++ [(j:Int)]) A3 c3 V4 hru hfu (by rw [hl]; have:=HD.out; have:=HNP.out; omega)
            rw [hl,← hnu] at h
            exact h h4
          have HL:=Lib.hid hl
          clear hcv hcu hnu hfu hl hru hu
          go_upto_region 7 with fail
          obtain ⟨V1,hV1⟩:∃ Z,Z = wr.alloc (.cells #[.int .i64 u.k,.int .i64 u.n,.int .i64 u.m,.slice A' nu c'] 25):=⟨_,rfl⟩
          obtain ⟨g8,hg8⟩:∃ z,z = wr.heap.size:=⟨_,rfl⟩
          have k8:Blk V1 g8 25 #[.int .i64 u.k,.int .i64 u.n,.int .i64 u.m,.slice A' nu c']:=by rw [hV1,hg8]; exact Blk.new _ _ _
          have hb8:Below wr.heap.size wr V1:=by rw [hV1]; exact below_new _ _
          have HP8:=Lib.hid (HP5.out.below hb8)
          have HM8:Hid (PM gp W (.slice Ap np cp) V1 (.slice A5 np c5)):=Lib.hid (HM5.out.trans (PM.below hb8))
          have HG8:Hid (g8≠gp∧((Value.slice A5 np c5).ownBlock≠some g8)):=Lib.hid ⟨by have:=HP5.out.size; have:=HP5.out.gp_lt; omega,fun e=>by have:=(HP5.out.own.lt _ e).2; omega⟩
          rw [← hV1,← hg8]
          have c0:V1.cell? ⟨gp,0,none⟩ = some (.slice A5 np c5):=HP8.out.blk.cell 0
          have HK8:=Lib.hid k8
          have HO8:Hid ((V1.alloc (.cells #[.int .i64 (j:Int)] 3)).ownsRow B 3 1 (.slice A5 np c5) np (vi pl)):=Lib.hid (by have h:=HP8.out.own; rw [← HNP.out] at h; exact h.alloc _)
          clear hV1 hg8 k8 hb8 v0 v1 v2 v3 hib
          go_upto_region 8 with (at_builtin; go_loud (refine wpList_append_any _ rfl (.tmp 24) (.tmp 26) 22 rfl B 3 j0 _ 1 8 Tryd.underlying22 hj hy0 hy1 hy2 rfl (by omega) (.slice A5 np c5) np _ rfl HO8.out _ (some ⟨V1.heap.size,0,none⟩) 1 1 (vi [(j:Int)]) rfl (Reads.of_own (own_lit (w:=V1) (base:=V1.heap.size) (e:=3) (size:=1) (xs:=vi [(j:Int)]) (n:=1) (Nat.le_refl _) rfl (len_le (by omega)))) (vi_oneY _) (len_le (by omega)) (by omega) (by have:=HP8.out.size; rw [size_alloc]; omega) ?_; intro v4 w4 hown4 hgrow4 hnew4; obtain ⟨A7,c7,rfl,_⟩:=own_len hown4; obtain ⟨h1,h2,hc3,hf3⟩:=HP8.out.append (by rw [← HNP.out]; exact hown4) hgrow4 hnew4; have HP9:=Lib.hid h1; have HM9:Hid (PM gp W (.slice Ap np cp) _ _):=Lib.hid (HM8.out.trans h2); have HK9:=Lib.hid ((h2.keep g8 HK8.out.lt HG8.out.1 HG8.out.2).trans HK8.out); clear h1 h2 hown4 hgrow4 hnew4))
          generalize hV9:w4.setCell ⟨gp,0,none⟩ (.slice A7 (np + 1) c7) = V9 at HP9 HM9 HK9 ⊢
          clear hV9 hc3 hf3 c0 HP8 HM8 HO8 HK8 HG8
          have hk9:Blk V9 g8 25 #[.int .i64 u.k,.int .i64 u.n,.int .i64 u.m,.slice A' nu c']:=HK9.out
          obtain ⟨y0,y1,y2,y3⟩:V9.cell? ⟨g8,0,none⟩ = some (.int .i64 u.k)∧V9.cell? ⟨g8,1,none⟩ = some (.int .i64 u.n)∧V9.cell? ⟨g8,2,none⟩ = some (.int .i64 u.m)∧V9.cell? ⟨g8,3,none⟩ = some (.slice A' nu c'):=⟨hk9.cell 0,hk9.cell 1,hk9.cell 2,hk9.cell 3⟩
          have z0:V9.cell? ⟨gv,0,none⟩ = some (.func (.func 80) #[] #[.pointer (some ⟨gs,0,none⟩),.pointer (some ⟨gp,0,none⟩),.pointer (some ⟨gv,0,none⟩)]):=(HSC.out V9 _ _ HP9.out).2
          clear hk9 HK9
          go_upto_region 9 with (go_at_call 80; refine (HCALL.out _ _ _ HP9.out).mono ?_; rintro e w6 ⟨A6,c6,rfl,h1,h2⟩; have HP6:=Lib.hid h1; have HM6:Hid (PM gp W (.slice Ap np cp) w6 _):=Lib.hid (HM9.out.trans h2); clear h1 h2 y0 y1 y2 y3 z0)
          obtain ⟨q,hq⟩:∃ q,q = firstW s u:=⟨_,rfl⟩
          have HZ:=Lib.hid (firstW_zero s u)
          rw [← hq] at HP6 HM6 HFD HZ ⊢
          obtain ⟨qp,qe⟩:=q
          simp only at HP6 HM6 HFD HZ ⊢
          clear hq HCALL HP9 HM9
          by_cases hqe:qe = 0
          · have hq2:(qe != 0) = false:=by rw [bne_eq_false_iff_eq]; exact hqe
            have hqp:qp = []:=HZ.out hqe
            subst hqp
            simp only [List.append_nil] at HP6 HM6
            rw [HL.out] at HP6 HM6
            have HF6:Hid (firstW s x = firstL s (x.kids.drop (j + 1)) (j + 1)):=Lib.hid (by rw [HF5.out,HFD.out,if_neg (by simpa using hqe)])
            obtain ⟨g,hA6⟩:∃ g,A6 = some ⟨g,0,none⟩:=by
              rcases HP6.out.own.2 with ⟨_,h0⟩ | ⟨g,cap,cur,hv,_⟩
              · rw [List.length_append,List.length_singleton] at h0; omega
              · injection hv with h1; exact ⟨g,h1⟩
            subst hA6
            have HPP:=Lib.hid (HP6.out.pop (by rw [HNP.out]))
            rw [← HNP.out] at HPP
            have hcc:np + 1≤c6:=by
              obtain ⟨A9,c9,e,h9⟩:=own_len HP6.out.own
              rw [List.length_append,List.length_singleton] at e h9
              injection e with _ _ e3
              have:=HNP.out
              omega
            have hce:(0:Int)≤np∧(np:Int)≤c6:=⟨by omega,by omega⟩
            have c0:w6.cell? ⟨gp,0,none⟩ = some (.slice (some ⟨g,0,none⟩) (np + 1) c6):=HP6.out.blk.cell 0
            have f0:w6.frozen? ⟨gp,0,none⟩ = false:=HP6.out.blk.frozen 0
            have HP7:=Lib.hid HPP.out.1
            have HM7:Hid (PM gp W (.slice Ap np cp) _ _):=Lib.hid (HM6.out.trans HPP.out.2)
            clear hqe HPP HP6 HM6 HFD HF5
            go_wp2_with fail
            go_roundw
            case rel=>exact ⟨j + 1,_,_,by omega,by go_num,HP7,HM7,HF6⟩
            case measure=>simp [intOf]; omega
          · have hq2:(qe != 0) = true:=by rw [bne_iff_ne]; exact hqe
            have HFX:Hid (firstW s x = ((j:Int) :: qp,qe)):=Lib.hid (by rw [HF5.out,HFD.out,if_pos hqe])
            clear hqe
            go_wp2_with fail
            try go_ret
            rw [HQ.out]
            unfold VPost
            rw [HFX.out]
            refine ⟨A6,c6,rfl,?_,?_⟩
            · have h:=HP6.out
              rw [List.append_assoc] at h
              exact h
            · have h:=HM6.out
              rw [List.append_assoc] at h
              exact h
        · have hje:j = nk:=by omega
          have HFX:Hid (firstW s x = ([],0)):=Lib.hid (by rw [HF5.out]; exact firstL_end s (by rw [← HNK.out]; omega))
          go_wp2_with fail
          try go_ret
          rw [HQ.out]
          unfold VPost
          rw [HFX.out]
          simp only [List.append_nil]
          exact ⟨A5,c5,rfl,by rw [← HNP.out]; exact HP5.out,by rw [← HNP.out]; exact HM5.out⟩
    · have he2:(er != 0) = true:=by rw [bne_iff_ne]; exact he
      have HFL:Hid (firstW s x = ([],er)):=Lib.hid (by rw [HFW.out,if_pos he])
      clear he
      go_wp2_with fail
      try go_ret
      rw [HQ.out]
      unfold VPost
      rw [HFL.out]
      simp only [List.append_nil]
      exact ⟨Ap,cp,rfl,by rw [← HNP.out]; exact HP2.out,by rw [← HNP.out]; exact HM2.out⟩
end Go.Proofs.YtkkenbalpnmfmaaDoor

namespace Go.Proofs.YtkkenbalpnmfmaaDoor
open Go.RowKit WM TR TY

set_option maxRecDepth 100000 in
set_option maxHeartbeats 4000000 in
theorem firstWrong_is (s : Sc) (x : T) (d D : Nat) (Av Af A : Option Addr) (cv cf c : Nat) (w : World) (hs : ScR w d s Av cv Af cf) (hr : Rep w (Lt w.heap.size) D x (nd x A c)) (hfit : Fit x) (hD : D ≤ 1000) (hfo : FOk s.funs) :
  Calls Tryd.prog 64 #[.agg #[.slice Av s.vars.length cv,.slice Af s.funs.length cf,.int .i64 s.ch],.agg #[.int .i64 x.k,.int .i64 x.n,.int .i64 x.m,.slice A x.kids.length c]] w fun e w'=>∃ A' c',e = .returned (.tuple #[.slice A' (firstW s x).1.length c',.int .i64 (firstW s x).2])∧w'.ownsRow w.heap.size 3 1 (.slice A' (firstW s x).1.length c') (firstW s x).1.length (vi (firstW s x).1)∧Below w.heap.size w w':=by
 obtain ⟨z,hz⟩:∃ z,z = w.heap.size:=⟨_,rfl⟩
 obtain ⟨nv,hnv⟩:∃ z,z = s.vars.length:=⟨_,rfl⟩
 obtain ⟨nf,hnf⟩:∃ z,z = s.funs.length:=⟨_,rfl⟩
 obtain ⟨nk,hnk⟩:∃ z,z = x.kids.length:=⟨_,rfl⟩
 obtain ⟨ch,hch⟩:∃ z,z = s.ch:=⟨_,rfl⟩
 obtain ⟨k,hk⟩:∃ z,z = x.k:=⟨_,rfl⟩
 obtain ⟨n,hn⟩:∃ z,z = x.n:=⟨_,rfl⟩
 obtain ⟨m,hm⟩:∃ z,z = x.m:=⟨_,rfl⟩
 obtain ⟨g1,hg1⟩:∃ z,z = w.heap.size + 1:=⟨_,rfl⟩
 obtain ⟨g2,hg2⟩:∃ z,z = w.heap.size + 1 + 1:=⟨_,rfl⟩
 obtain ⟨g3,hg3⟩:∃ z,z = w.heap.size + 1 + 1 + 1:=⟨_,rfl⟩
 obtain ⟨W0,hW0⟩:∃ W,W = (((w.alloc (.cells #[.slice Av nv cv,.slice Af nf cf,.int .i64 ch] 79)).alloc (.cells #[.int .i64 k,.int .i64 n,.int .i64 m,.slice A nk c] 25)).alloc (.cells #[.slice none 0 0] 22)).alloc (.cells #[clo z g2 g3] 93):=⟨_,rfl⟩
 have hb0:Below w.heap.size w W0:=by rw [hW0]; exact ba (ba (ba (below_new _ _) _) _) _
 have hs0:W0.heap.size = z + 4:=by rw [hW0,size_alloc,size_alloc,size_alloc,size_alloc,hz]
 have hgs:g1 = z + 1∧g2 = z + 2∧g3 = z + 3:=by omega
 have k0':Blk W0 z 79 #[.slice Av nv cv,.slice Af nf cf,.int .i64 ch]:=by rw [hW0,hz]; exact (((Blk.new _ _ _).alloc _).alloc _).alloc _
 have k1':Blk W0 g1 25 #[.int .i64 k,.int .i64 n,.int .i64 m,.slice A nk c]:=by rw [hW0,hg1]; exact ((Blk.new_at _ _ (by rw [size_alloc]) rfl).alloc _).alloc _
 have k2':Blk W0 g2 22 #[.slice none 0 0]:=by rw [hW0,hg2]; exact (Blk.new_at _ _ (by rw [size_alloc,size_alloc]) rfl).alloc _
 have k3:Blk W0 g3 93 #[clo z g2 g3]:=by rw [hW0]; exact Blk.new_at _ _ (by rw [size_alloc,size_alloc,size_alloc]; exact hg3) rfl
 have hk3:W0.cell? ⟨g3,0,none⟩ = some (clo z g2 g3):=k3.cell 0
 have hpw:PW W0.heap.size g2 W0 W0 (.slice none 0 0) []:=⟨fun _ _ _=>rfl,rfl,rfl,rfl,Nat.le_refl _,by omega,k2',World.ownsRow_nil _ _ _ _⟩
 have HCALL:Hid (Calls Tryd.prog 80 #[.agg #[.int .i64 k,.int .i64 n,.int .i64 m,.slice A nk c],.pointer (some ⟨z,0,none⟩),.pointer (some ⟨g2,0,none⟩),.pointer (some ⟨g3,0,none⟩)] W0 (VPost W0.heap.size g2 W0 W0 (.slice none 0 0) [] (firstW s x))):=Lib.hid (by
  rw [hnv,hnf,hch] at k0'
  have hz0:∀ b,Lt w.heap.size b→Lt z b:=fun b h=>by rw [hz]; exact h
  have h:=visitW_is s d Av Af cv cf z z g2 g3 W0.heap.size W0 (by omega) ⟨by omega,by omega⟩ ⟨by omega,by omega⟩ (by omega) k0' hk3 (hs.v.keep (fun b hb=>hb0.block b hb) hz0) (hs.f.keep (fun b hb=>hb0.block b hb) hz0) hfo D x A c [] none 0 W0 ((hr.keep fun b hb=>hb0.block b hb).mono hz0) hfit (by simpa using hD) hpw
  rw [← hnk,← hk,← hn,← hm] at h
  exact h)
 obtain ⟨y0,y1,y2,y3⟩:W0.cell? ⟨g1,0,none⟩ = some (.int .i64 k)∧W0.cell? ⟨g1,1,none⟩ = some (.int .i64 n)∧W0.cell? ⟨g1,2,none⟩ = some (.int .i64 m)∧W0.cell? ⟨g1,3,none⟩ = some (.slice A nk c):=⟨k1'.cell 0,k1'.cell 1,k1'.cell 2,k1'.cell 3⟩
 have z3:W0.cell? ⟨g3,0,none⟩ = some (.func (.func 80) #[] #[.pointer (some ⟨z,0,none⟩),.pointer (some ⟨g2,0,none⟩),.pointer (some ⟨g3,0,none⟩)]):=hk3
 have HW0:Hid (W0 = (((w.alloc (.cells #[.slice Av nv cv,.slice Af nf cf,.int .i64 ch] 79)).alloc (.cells #[.int .i64 k,.int .i64 n,.int .i64 m,.slice A nk c] 25)).alloc (.cells #[.slice none 0 0] 22)).alloc (.cells #[.func (.func 80) #[] #[.pointer (some ⟨w.heap.size,0,none⟩),.pointer (some ⟨w.heap.size + 1 + 1,0,none⟩),.pointer (some ⟨w.heap.size + 1 + 1 + 1,0,none⟩)]] 93)):=Lib.hid (by rw [hW0,hz,hg2,hg3]; rfl)
 have HG1:=Lib.hid hg1
 have HG2:=Lib.hid hg2
 have HG3:=Lib.hid hg3
 have HZ:=Lib.hid hz
 have HS0:=Lib.hid hs0
 have HB0:=Lib.hid hb0
 have HGS:=Lib.hid hgs
 obtain ⟨r,hr⟩:∃ r,r = firstW s x:=⟨_,rfl⟩
 rw [← hnv,← hnf,← hnk,← hch,← hk,← hn,← hm,← hr]
 rw [← hr] at HCALL
 clear hs hfit hnv hnf hnk hch hk hn hm hg1 hg2 hg3 hz k3 hW0 hs0 hk3 hb0 k0' k1' k2' hpw hgs hD hfo
 clear hr
 go_enter Tryd.func64,Tryd.ntmps64
 go_upto_region 4 with fail
 rw [← HW0.out,← HG3.out,← HG2.out,← HG1.out,← HZ.out]
 go_upto_region 5 with (go_at_call 80; go_loud (refine HCALL.out.mono ?_; rintro e w6 ⟨A6,c6,rfl,h1,h2⟩; have HP6:=Lib.hid h1; clear h1 h2 y0 y1 y2 y3 z3; have z2:=HP6.out.blk.cell 0))
 go_wp2_with fail
 refine bodyPost_ret (v:=.tuple #[.slice A6 r.1.length c6,.int .i64 r.2]) (by simp [results,Tryd.results64,go_sem]) rfl ⟨A6,c6,rfl,?_,?_⟩
 ·have h:=own_lowerY HP6.out.own (B':=w.heap.size) (by have:=HS0.out; have:=HZ.out; omega)
  simpa using h
 ·have hp:=HP6.out
  have hb:=HB0.out
  have hgs:=HGS.out
  have hz:=HZ.out
  have hs0:=HS0.out
  exact ⟨hp.os.trans hb.os,hp.tape.trans hb.tape,hp.output.trans hb.output,Nat.le_trans hb.size hp.size,fun b h=>(hp.keep b (by omega) (by omega)).trans (hb.block b h)⟩
set_option maxRecDepth 100000 in
set_option maxHeartbeats 4000000 in
theorem scopeOf_is (p u : T) (j d : Nat) (A : Option Addr) (c : Nat) (w : World) (hnd : Nds w (Lt w.heap.size) (d + 1) p.kids A c) (hu : p.kids[j]? = some u) (hu1 : 1 ≤ u.kids.length ∧ u.kids.length ≤ 1000) :
  Calls Tryd.prog 63 #[.agg #[.int .i64 p.k,.int .i64 p.n,.int .i64 p.m,.slice A p.kids.length c],.int .i64 (j:Int)] w fun e w'=>∃ A' c',e = .returned (.agg #[.slice A' (scO p u).vars.length c',.slice A (scO p u).funs.length c,.int .i64 (scO p u).ch])∧ScR w' (d + 1) (scO p u) A' c' A c∧Below w.heap.size w w':=by
 obtain ⟨b,off,A',c',hA,hbl,hc,hru⟩:=hnd.at_ hu
 subst hA
 have hcap:=hru.cap
 have hjl:j < p.kids.length:=(List.getElem?_eq_some_iff.1 hu).1
 obtain ⟨nk,hnk⟩:∃ z,z = p.kids.length:=⟨_,rfl⟩
 obtain ⟨q,hq⟩:∃ q,u.kids.length = q + 1:=⟨u.kids.length - 1,by omega⟩
 obtain ⟨k,hk⟩:∃ z,z = p.k:=⟨_,rfl⟩
 obtain ⟨n,hn⟩:∃ z,z = p.n:=⟨_,rfl⟩
 obtain ⟨m,hm⟩:∃ z,z = p.m:=⟨_,rfl⟩
 obtain ⟨z,hz⟩:∃ z,z = w.heap.size:=⟨_,rfl⟩
 have hlen:(scO p u).vars.length = q:=by show (u.kids.take (u.kids.length - 1)).length = q; rw [List.length_take]; omega
 have hfun:(scO p u).funs.length = nk:=hnk.symm
 have hch:(scO p u).ch = n:=hn.symm
 have hnum:IntKind.i64.wrap (((q + 1:Nat):Int) - 1) = (q:Int):=by rw [IntKind.wrap_i64]; omega
 have hcut:=cutN A' (q + 1) c' q (by omega)
 have hqw:IntKind.i64.wrap (q:Int) = (q:Int):=by rw [IntKind.wrap_i64]; omega
 have hqc:(0:Int)≤(q:Int)∧(q:Int)≤(c':Int):=⟨by omega,by omega⟩
 obtain ⟨A2,hA2⟩:∃ A2,A2 = (if c' = 0 then A' else A'.map (·.add 0)):=⟨_,rfl⟩
 rw [← hA2] at hcut
 have hv:Nds w (Lt w.heap.size) (d + 1) (scO p u).vars A2 c':=by
  obtain ⟨xs,h1,h2⟩:=hru.kids
  have hA2':A2 = A':=by
   rw [hA2]; split
   ·rfl
   ·cases A' <;> simp [Addr.add]
  rw [hA2']
  refine ⟨⟨xs.take (q * 4),?_,?_⟩,by omega,by omega⟩
  ·rw [hlen]
   refine ⟨by rw [List.length_take,h1.1]; omega,fun hn=>?_⟩
   obtain ⟨ad,e,hb,hcs⟩:=h1.2 (by omega)
   refine ⟨ad,e,hb,fun i v hv=>hcs i v ?_⟩
   rw [List.getElem?_take] at hv
   split at hv
   ·exact hv
   ·cases hv
  ·refine ⟨by rw [List.length_take,hlen,h1.1]; omega,fun i v hv=>?_⟩
   have hi:i < q:=by rw [← hlen]; exact (List.getElem?_eq_some_iff.1 hv).1
   have hv2:u.kids[i]? = some v:=by
    have hv3:(u.kids.take (u.kids.length - 1))[i]? = some v:=hv
    rw [List.getElem?_take] at hv3
    split at hv3
    ·exact hv3
    ·cases hv3
   have h:=h2.2 i v hv2
   have e:((xs.take (q * 4)).drop (i * 4)).take 4 = (xs.drop (i * 4)).take 4:=by
    rw [List.drop_take,List.take_take]; congr 1; omega
   rw [e]
   exact h.deeper (by omega)
 obtain ⟨W1,hW1⟩:∃ W,W = (w.alloc (.cells #[.int .i64 k,.int .i64 n,.int .i64 m,.slice (some ⟨b,off,none⟩) nk c] 25)).alloc (.cells #[.slice none 0 0,.slice none 0 0,.int .i64 0] 79):=⟨_,rfl⟩
 have hb1:Below w.heap.size w W1:=by rw [hW1]; exact ba (below_new _ _) _
 have k0:Blk W1 z 25 #[.int .i64 k,.int .i64 n,.int .i64 m,.slice (some ⟨b,off,none⟩) nk c]:=by rw [hW1,hz]; exact (Blk.new _ _ _).alloc _
 have k1:Blk W1 (z + 1) 79 #[.slice none 0 0,.slice none 0 0,.int .i64 0]:=by rw [hW1]; exact Blk.new_at _ _ (by rw [size_alloc,hz]) rfl
 obtain ⟨s0,s1,s2⟩:W1.cell? ⟨z + 1,0,none⟩ = some (.slice none 0 0)∧W1.cell? ⟨z + 1,1,none⟩ = some (.slice none 0 0)∧W1.cell? ⟨z + 1,2,none⟩ = some (.int .i64 0):=⟨k1.cell 0,k1.cell 1,k1.cell 2⟩
 obtain ⟨f0,f1,f2⟩:W1.frozen? ⟨z + 1,0,none⟩ = false∧W1.frozen? ⟨z + 1,1,none⟩ = false∧W1.frozen? ⟨z + 1,2,none⟩ = false:=⟨k1.frozen 0,k1.frozen 1,k1.frozen 2⟩
 have HK1:=Lib.hid k1
 obtain ⟨y1,y3⟩:W1.cell? ⟨z,1,none⟩ = some (.int .i64 n)∧W1.cell? ⟨z,3,none⟩ = some (.slice (some ⟨b,off,none⟩) nk c):=⟨k0.cell 1,k0.cell 3⟩
 have v3:W1.cell? ⟨b,off + j * 4 + 3,none⟩ = some (.slice A' (q + 1) c'):=by
  rw [← hq]
  exact (hb1.cell (p:=⟨b,_,none⟩) hbl).trans (hc 3 _ rfl)
 have hjb:(0:Int)≤(j:Int)∧(j:Int) < (nk:Int):=⟨by omega,by omega⟩
 have HV:=Lib.hid hv
 have HF:=Lib.hid hnd
 have HW1:=Lib.hid hW1
 have HZ:=Lib.hid hz
 have HB1:=Lib.hid hb1
 rw [hlen,hfun,hch,← hnk,← hk,← hn,← hm]
 clear hv hnd hW1 hz hb1 k0 k1 hlen hfun hch hnk hk hn hm hA2 hcap hq hc hru hu hu1 hjl
 go_enter Tryd.func63,Tryd.ntmps63
 go_upto_region 1 with fail
 rw [← HW1.out]
 try rw [← HZ.out]
 go_upto_region 2 with fail
 go_region
 obtain ⟨W5,hW5⟩:∃ W,W = (((W1.setCell ⟨z + 1,0,none⟩ (.slice A2 q c')).setCell ⟨z + 1,1,none⟩ (.slice (some ⟨b,off,none⟩) nk c)).setCell ⟨z + 1,2,none⟩ (.int .i64 n)).drew:=⟨_,rfl⟩
 rw [← hW5]
 have hzz:=HZ.out
 have k5:Blk W5 (z + 1) 79 #[.slice A2 q c',.slice (some ⟨b,off,none⟩) nk c,.int .i64 n]:=by
  rw [hW5]
  have h:=(((HK1.out.set_ 0 (.slice A2 q c')).set_ 1 (.slice (some ⟨b,off,none⟩) nk c)).set_ 2 (.int .i64 n)).drew
  simpa using h
 have hb5:Below w.heap.size w W5:=by
  rw [hW5]
  exact (((HB1.out.setCell (by show w.heap.size≤z + 1; omega) _).setCell (by show w.heap.size≤z + 1; omega) _).setCell (by show w.heap.size≤z + 1; omega) _).drew
 have r0:W5.cell? ⟨z + 1,0,none⟩ = some (.slice A2 q c'):=k5.cell 0
 have r1:W5.cell? ⟨z + 1,1,none⟩ = some (.slice (some ⟨b,off,none⟩) nk c):=k5.cell 1
 have r2:W5.cell? ⟨z + 1,2,none⟩ = some (.int .i64 n):=k5.cell 2
 have HB5:=Lib.hid hb5
 have HV5:Hid (ScR W5 (d + 1) (scO p u) A2 c' (some ⟨b,off,none⟩) c):=Lib.hid ⟨HV.out.next hb5,HF.out.next hb5⟩
 clear hW5 hb5 k5 hzz s0 s1 s2 f0 f1 f2 y1 y3 v3
 go_wp2_with fail
 refine bodyPost_ret (v:=.agg #[.slice A2 q c',.slice (some ⟨b,off,none⟩) nk c,.int .i64 n]) (by simp [results,Tryd.results63,go_sem,r0,r1,r2]) rfl ⟨A2,c',rfl,HV5.out,HB5.out⟩
end Go.Proofs.YtkkenbalpnmfmaaDoor

namespace Go.Proofs.YtkkenbalpnmfmaaDoor
open Go.RowKit Go.Lib WM TR TY

def apZI (ts:Array TypeId) (t:TypeId) (vs:Array Value):Sem Value:=Builtin.append_ ts t vs
theorem shutApZI (ts:Array TypeId) (t:TypeId) (vs:Array Value):Builtin.append_ ts t vs = apZI ts t vs:=rfl
section
attribute [local go_sem ↓ high] shutApZI
set_option maxHeartbeats 2000000 in
set_option maxRecDepth 100000 in
theorem growI_is (n : Nat) (w : World) (h0 : 0 < n) (hn : n ≤ 1000000000) :
  Calls Tryd.prog 91 #[.slice none 0 0,.int .i64 (n:Int)] w fun e w'=>∃ c,e = .returned (.slice (some ⟨w.heap.size,0,none⟩) 0 c)∧w'.ownsRow w.heap.size 3 1 (.slice (some ⟨w.heap.size,0,none⟩) 0 c) 0 []∧Below w.heap.size w w':=by
 obtain ⟨i0,hi,hz0,hz1,hz2⟩:=info_parts int_infoV
 have h1:¬ ((n:Int) < 0):=by omega
 have h2:decide ((n:Int) < 0) = false:=decide_eq_false h1
 have h3:decide ((0:Int) < (n:Int)) = true:=decide_eq_true (by omega)
 have h4:(0:Int) < (n:Int):=by omega
 go_enter Tryd.func91,Tryd.ntmps91
 obtain ⟨gc,hgc⟩:∃ z,z = grownCap w (0 + n) 0 3:=⟨_,rfl⟩
 have hge:n≤gc:=by rw [hgc]; have:=grownCap_ge w (0 + n) 0 3; omega
 have hle:gc≤maxLen:=by rw [hgc]; exact grownCap_le_maxLen w _ _ _ (len_le (by omega))
 obtain ⟨W2,hW2⟩:∃ W,W = w.drew.alloc (.cells ((#[]:Array Value) ++ Builtin.zeroCells (Value.int .i64 0).cells n ++ Builtin.zeroCells (Value.int .i64 0).cells (grownCap w (0 + n) 0 3 - (0 + n))) 3):=⟨_,rfl⟩
 have hap:(apZI #[22,3] 22 #[.slice none 0 0,.int .i64 (n:Int)]).run Tryd.prog w = .ok (.slice (some ⟨w.heap.size,0,none⟩) n gc) W2:=by
  have hnx:=nextslicecap_le (need:=0 + n) (old:=0) (by omega)
  have h:=run_append_grow_zeros (P:=Tryd.prog) w 22 3 22 3 i0 (.int .i64 0) .i64 .i64 Tryd.underlying22 Tryd.underlying3 hi hz0 none 0 0 [] (run_firstCells_none w.drew i0.size 0 0 0) n h0 (by rw [hz1]; omega) (by omega) (by omega) (by rw [hz2]; omega) (by rw [hz2]; omega)
  rw [hgc,hW2]
  unfold apZI
  simpa using h
 have hown:W2.ownsRow w.heap.size 3 1 (.slice (some ⟨w.heap.size,0,none⟩) 0 gc) 0 []:=by
  refine ⟨rfl,.inr ⟨w.heap.size,gc,(#[]:Array Value) ++ Builtin.zeroCells (Value.int .i64 0).cells n ++ Builtin.zeroCells (Value.int .i64 0).cells (grownCap w (0 + n) 0 3 - (0 + n)),rfl,Nat.le_refl _,?_,Nat.zero_le _,hle,?_,by simp⟩⟩
  ·rw [hW2]
   exact Blk.new w.drew 3 _
  ·rw [← hgc]
   have hs:∀ k,(Builtin.zeroCells (Value.int .i64 0).cells k).size = k:=fun k=>by simp [Builtin.zeroCells,Value.cells]
   simp [hs]
   omega
 have hbw:Below w.heap.size w W2:=by rw [hW2]; exact (Below.refl _ w).drew.trans (below_new w.drew _)
 have hgz:¬ gc = 0:=by omega
 have hgz2:(gc == 0) = false:=by simpa using hgz
 have HOWN:=Lib.hid hown
 have HBW:=Lib.hid hbw
 clear hgc hW2 hown hbw
 go_wp2_with fail
 go_ret
 exact ⟨gc,rfl,HOWN.out,HBW.out⟩
end
theorem below_grI {a w w':World} {row:Option Nat} (hb:Below a.heap.size a w) (h:w.grownBy w' row) (hr:∀ b,row = some b→a.heap.size≤b):Below a.heap.size a w' :=
 ⟨h.os.trans hb.os,h.tape.trans hb.tape,h.output.trans hb.output,Nat.le_trans hb.size h.size,fun i hi=>(h.block i (Nat.lt_of_lt_of_le hi hb.size) (fun e=>by have:=hr i e.symm; omega)).trans (hb.block i hi)⟩
set_option maxHeartbeats 8000000 in
set_option maxRecDepth 100000 in
theorem concatI_is (la lb : List Int) (g : Nat) (Aa Ab : Option Addr) (ca cb : Nat) (w : World) (hg : Blk w g 22 #[.slice Aa la.length ca, .slice Ab lb.length cb]) (ha : Reads w w.heap.size 1 Aa la.length (vi la)) (hb : Reads w w.heap.size 1 Ab lb.length (vi lb)) (h0 : 0 < la.length) (h1 : la.length ≤ 100000000) (h2 : lb.length ≤ 100000000) :
  Calls Tryd.prog 67 #[.slice (some ⟨g,0,none⟩) 2 2] w fun e w'=>∃ A c,e = .returned (.slice A (la ++ lb).length c)∧w'.ownsRow w.heap.size 3 1 (.slice A (la ++ lb).length c) (la ++ lb).length (vi (la ++ lb))∧Below w.heap.size w w':=by
 obtain ⟨i0,hi,hz0,hz1,hz2⟩:=info_parts int_infoV
 obtain ⟨na,hna⟩:∃ z,z = la.length:=⟨_,rfl⟩
 obtain ⟨nb,hnb⟩:∃ z,z = lb.length:=⟨_,rfl⟩
 rw [← hna,← hnb] at hg
 rw [← hna] at ha h0 h1
 rw [← hnb] at hb h2
 obtain ⟨c0,c1⟩:w.cell? ⟨g,0,none⟩ = some (.slice Aa na ca)∧w.cell? ⟨g,1,none⟩ = some (.slice Ab nb cb):=⟨hg.cell 0,hg.cell 1⟩
 have HG:=Lib.hid hg
 have HA:=Lib.hid ha
 have HBB:=Lib.hid hb
 have HNA:=Lib.hid hna
 have HNB:=Lib.hid hnb
 clear hg ha hb hna hnb
 go_enter Tryd.func67,Tryd.ntmps67
 go_upto_region 3 with fail
 have hw1:IntKind.i64.wrap (na:Int) = (na:Int):=by rw [IntKind.wrap_i64]; omega
 have hw2:IntKind.i64.wrap ((na:Int) + (nb:Int)) = ((na + nb:Nat):Int):=by rw [IntKind.wrap_i64]; omega
 have hd1:decide ((na:Int) < 0) = false:=decide_eq_false (by omega)
 have hd2:decide (((na + nb:Nat):Int) < 0) = false:=decide_eq_false (by omega)
 go_loopw [3,11] (fun s i wr=>w = wr∧((i = .int .i64 0∧s = .int .i64 0)∨(i = .int .i64 1∧s = .int .i64 (na:Int))∨(i = .int .i64 2∧s = .int .i64 ((na + nb:Nat):Int)))) (fun _ i _=>2 - (intOf i).toNat)
 case atStart=>exact ⟨rfl,.inl ⟨rfl,rfl⟩⟩
 case round =>
  obtain ⟨rfl,⟨rfl,rfl⟩ | ⟨rfl,rfl⟩ | ⟨rfl,rfl⟩⟩:=hrel
  ·go_wp2_with fail
   go_roundw
   case rel=>exact ⟨trivial,.inr (.inl ⟨by go_num,by go_num⟩)⟩
   case measure=>simp [intOf]
  ·go_wp2_with fail
   go_roundw
   case rel=>exact ⟨trivial,.inr (.inr ⟨by go_num,by go_num⟩)⟩
   case measure=>simp [intOf]
  ·go_upto_region 11 with (go_at_call 91; refine (growI_is (na + nb) _ (by omega) (by omega)).mono ?_; rintro e w1 ⟨gc,rfl,hown,hb1⟩; have HO:=Lib.hid hown; have HB1:=Lib.hid hb1; clear hown hb1)
   clear c0 c1 hw1 hw2 hd1 hd2
   go_loopw [6,27] (fun s i wr=>∃ (A:Option Addr) (c:Nat) (pre:List Int) (np:Nat),s = .slice A np c∧np≤200000000∧((i = .int .i64 0∧Hid (pre = []))∨(i = .int .i64 1∧Hid (pre = la))∨(i = .int .i64 2∧Hid (pre = la ++ lb)))∧Hid (np = pre.length∧wr.ownsRow w.heap.size 3 1 (.slice A np c) np (vi pre)∧Below w.heap.size w wr)) (fun _ i _=>2 - (intOf i).toNat)
   case atStart=>exact ⟨_,gc,[],0,rfl,by omega,.inl ⟨rfl,rfl⟩,rfl,HO.out,HB1.out⟩
   case round =>
    obtain ⟨A,c,pre,np,rfl,hnp,⟨rfl,HP⟩ | ⟨rfl,HP⟩ | ⟨rfl,HP⟩,HI⟩:=hrel
    ·have c0:wr.cell? ⟨g,0,none⟩ = some (.slice Aa na ca):=(HG.out.below HI.out.2.2 HG.out.lt).cell 0
     go_wp2_with (at_builtin; go_loud (refine wpList_append_any _ rfl (.tmp 31) (.tmp 32) 22 rfl w.heap.size 3 i0 _ 1 8 Tryd.underlying22 hi hz0 hz1 hz2 rfl (by omega) (.slice A np c) np (vi pre) rfl HI.out.2.1 w.heap.size Aa na ca (vi la) rfl (HA.out.below HI.out.2.2) (vi_oneY la) (len_le (by omega)) (by omega) HI.out.2.2.size ?_; intro v4 w4 hown4 hgrow4 _; obtain ⟨A4,c4,rfl,_⟩:=own_len hown4; have HN4:Hid (np + na = (pre ++ la).length∧w4.ownsRow w.heap.size 3 1 (.slice A4 (np + na) c4) (np + na) (vi (pre ++ la))∧Below w.heap.size w w4):=Lib.hid ⟨by rw [List.length_append,← HI.out.1,← HNA.out],by rw [vi_append]; exact hown4,below_grI HI.out.2.2 hgrow4 fun b e=>(HI.out.2.1.lt b e).1⟩; clear hown4 hgrow4))
     go_roundw
     case rel=>exact ⟨A4,c4,la,na,by rw [HI.out.1,HP.out]; simp,by omega,.inr (.inl ⟨by go_num,rfl⟩),Lib.hid (by have h:=HN4.out; rw [HI.out.1,HP.out] at h; simpa using h)⟩
     case measure=>simp [intOf]
    ·have c1:wr.cell? ⟨g,1,none⟩ = some (.slice Ab nb cb):=(HG.out.below HI.out.2.2 HG.out.lt).cell 1
     go_wp2_with (at_builtin; go_loud (refine wpList_append_any _ rfl (.tmp 31) (.tmp 32) 22 rfl w.heap.size 3 i0 _ 1 8 Tryd.underlying22 hi hz0 hz1 hz2 rfl (by omega) (.slice A np c) np (vi pre) rfl HI.out.2.1 w.heap.size Ab nb cb (vi lb) rfl (HBB.out.below HI.out.2.2) (vi_oneY lb) (len_le (by omega)) (by omega) HI.out.2.2.size ?_; intro v4 w4 hown4 hgrow4 _; obtain ⟨A4,c4,rfl,_⟩:=own_len hown4; have HN4:Hid (np + nb = (pre ++ lb).length∧w4.ownsRow w.heap.size 3 1 (.slice A4 (np + nb) c4) (np + nb) (vi (pre ++ lb))∧Below w.heap.size w w4):=Lib.hid ⟨by rw [List.length_append,← HI.out.1,← HNB.out],by rw [vi_append]; exact hown4,below_grI HI.out.2.2 hgrow4 fun b e=>(HI.out.2.1.lt b e).1⟩; clear hown4 hgrow4))
     have hnp2:np = na:=by rw [HI.out.1,HP.out,← HNA.out]
     go_roundw
     case rel=>exact ⟨A4,c4,la ++ lb,np + nb,rfl,by omega,.inr (.inr ⟨by go_num,rfl⟩),by have h:=HN4.out; rw [HP.out] at h; exact h⟩
     case measure=>simp [intOf]
    ·go_wp2_with fail
     go_ret
     have h:=HI.out
     rw [HP.out] at h
     obtain ⟨h1,h2,h3⟩:=h
     subst h1
     exact ⟨A,c,rfl,h2,h3⟩
end Go.Proofs.YtkkenbalpnmfmaaDoor

namespace Go.Proofs.YtkkenbalpnmfmaaDoor
open Go.RowKit WM TR

def Ps (w:World) (S:Nat→Prop) (A:Option Addr) (ps:List (List Int)):Prop :=
 ∃ xs,Rd w S 1 A ps.length xs∧∀ (i:Nat) (p:List Int),ps[i]? = some p→∃ A' c',xs[i]? = some (Value.slice A' p.length c')∧p.length≤c'∧Rd w S 1 A' p.length (vi p)
section
variable {w w':World} {S S':Nat→Prop} {A:Option Addr} {ps:List (List Int)}
theorem Ps.keep (h:Ps w S A ps) (hk:Keeps S w w'):Ps w' S A ps:=by
 obtain ⟨xs,h1,h2⟩:=h
 refine ⟨xs,h1.keep hk,fun i p hp=>?_⟩
 obtain ⟨A',c',e,hc,hr⟩:=h2 i p hp
 exact ⟨A',c',e,hc,hr.keep hk⟩
theorem Ps.mono (h:Ps w S A ps) (hS:∀ b,S b→S' b):Ps w S' A ps:=by
 obtain ⟨xs,h1,h2⟩:=h
 refine ⟨xs,h1.mono hS,fun i p hp=>?_⟩
 obtain ⟨A',c',e,hc,hr⟩:=h2 i p hp
 exact ⟨A',c',e,hc,hr.mono hS⟩
theorem Ps.later (h:Ps w S A ps) (hS:In S w.heap.size) (hb:Below w.heap.size w w'):Ps w' S A ps:=h.keep (Keeps.below hS hb)
theorem Ps.at_ (h : Ps w S A ps) {i : Nat} {p : List Int} (hp : ps[i]? = some p) :
  ∃ b off A' c',A = some ⟨b,off,none⟩∧S b∧w.cell? ⟨b,off + i,none⟩ = some (Value.slice A' p.length c')∧p.length≤c'∧Rd w S 1 A' p.length (vi p):=by
 obtain ⟨xs,h1,h2⟩:=h
 have hi:i < ps.length:=(List.getElem?_eq_some_iff.1 hp).1
 obtain ⟨b,off,e,hb,hc⟩:=h1.lit (by omega)
 obtain ⟨A',c',e2,hcap,hr⟩:=h2 i p hp
 exact ⟨b,off,A',c',e,hb,hc i _ e2,hcap,hr⟩
end
end Go.Proofs.YtkkenbalpnmfmaaDoor

namespace Go.Proofs.YtkkenbalpnmfmaaDoor.TR
theorem attach_idx {α:Type} (l:List T) (f:Nat→T→α):(l.attach.mapIdx fun i u=>f i u.1) = l.mapIdx f:=by
 apply List.ext_getElem (by simp)
 intro i h1 h2
 simp
theorem paths_eq (t:T):paths t = [] :: (t.kids.mapIdx fun i u=>(paths u).map fun p=>(i:Int) :: p).flatten:=by
 rw [paths,attach_idx t.kids fun i u=>(paths u).map fun p=>(i:Int) :: p]
def rows (l:List T) (j:Nat):List (List Int):=((l.take j).mapIdx fun i u=>(paths u).map fun p=>(i:Int) :: p).flatten

theorem rows_next {l:List T} {j:Nat} {u:T} (h:l[j]? = some u):rows l (j + 1) = rows l j ++ (paths u).map fun p=>(j:Int) :: p:=by
 have hj:=(List.getElem?_eq_some_iff.1 h).1
 unfold rows
 rw [List.take_add_one,h,Option.toList_some,List.mapIdx_append,List.flatten_append]
 simp [List.length_take,Nat.min_eq_left (Nat.le_of_lt hj)]
theorem paths_rows (t:T):paths t = [] :: rows t.kids t.kids.length:=by rw [paths_eq,rows,List.take_length]
theorem rows_length {l:List T} (h:∀ u ∈ l,(paths u).length = size u):∀ j,j≤l.length→(rows l j).length = sizes l j
 | 0,_=>rfl
 | j + 1,hj=>by
  obtain ⟨u,hu⟩:∃ u,l[j]? = some u:=⟨_,List.getElem?_eq_getElem (by omega)⟩
  rw [rows_next hu,sizes_next hu,List.length_append,List.length_map,rows_length h j (by omega),h u (List.mem_of_getElem? hu)]
theorem paths_length (t:T):(paths t).length = size t:=by
 induction h:SizeOf.sizeOf t using Nat.strongRecOn generalizing t with
 | ind n ih =>
  subst h
  rw [paths_rows,List.length_cons,rows_length (fun u hu=>ih _ (kid_lt hu) u rfl) _ (Nat.le_refl _),size_kids]
  omega
theorem path_lt (t:T):∀ p ∈ paths t,p.length < depth t:=by
 induction h:SizeOf.sizeOf t using Nat.strongRecOn generalizing t with
 | ind n ih =>
  subst h
  intro p hp
  rw [paths_eq] at hp
  rcases List.mem_cons.1 hp with rfl | hp
  ·rw [depth_eq]; simp
  ·obtain ⟨r,hr,hpr⟩:=List.mem_flatten.1 hp
   obtain ⟨i,hi,rfl⟩:=List.mem_mapIdx.1 hr
   obtain ⟨q,hq,rfl⟩:=List.mem_map.1 hpr
   have h1:=ih _ (kid_lt (List.getElem_mem hi)) _ rfl q hq
   have h2:=depth_kid (List.getElem?_eq_getElem hi)
   simp only [List.length_cons]
   omega
theorem path_le (t:T):∀ p ∈ paths t,p.length≤size t:=fun p hp=>by
 have:=path_lt t p hp
 have:=depth_le_size t
 omega
end Go.Proofs.YtkkenbalpnmfmaaDoor.TR
namespace Go.Proofs.YtkkenbalpnmfmaaDoor
open Go.RowKit WM TR

def PsC (w:World) (S:Nat→Prop) (ps:List (List Int)) (xs:List Value):Prop :=
 xs.length = ps.length∧∀ (i:Nat) (p:List Int),ps[i]? = some p→∃ A' c',xs[i]? = some (Value.slice A' p.length c')∧p.length≤c'∧Rd w S 1 A' p.length (vi p)
section
variable {w w':World} {S S':Nat→Prop} {ps:List (List Int)} {xs:List Value}
theorem PsC.keep (h:PsC w S ps xs) (hk:Keeps S w w'):PsC w' S ps xs:=⟨h.1,fun i p hp=>by
 obtain ⟨A',c',e,hc,hr⟩:=h.2 i p hp
 exact ⟨A',c',e,hc,hr.keep hk⟩⟩
theorem PsC.mono (h:PsC w S ps xs) (hS:∀ b,S b→S' b):PsC w S' ps xs:=⟨h.1,fun i p hp=>by
 obtain ⟨A',c',e,hc,hr⟩:=h.2 i p hp
 exact ⟨A',c',e,hc,hr.mono hS⟩⟩
theorem PsC.snoc (h:PsC w S ps xs) {p:List Int} {A':Option Addr} {c':Nat} (hc:p.length≤c') (hr:Rd w S 1 A' p.length (vi p)):PsC w S (ps ++ [p]) (xs ++ [Value.slice A' p.length c']):=by
 refine ⟨by simp [h.1],fun i q hq=>?_⟩
 by_cases hi:i < ps.length
 ·rw [List.getElem?_append_left hi] at hq
  obtain ⟨A2,c2,e,hc2,hr2⟩:=h.2 i q hq
  exact ⟨A2,c2,by rw [List.getElem?_append_left (by rw [h.1]; exact hi)]; exact e,hc2,hr2⟩
 ·rw [List.getElem?_append_right (by omega)] at hq
  have hi2:i - ps.length = 0:=by
   have:=(List.getElem?_eq_some_iff.1 hq).1
   simp at this; omega
  rw [hi2] at hq
  simp only [List.getElem?_cons_zero,Option.some.injEq] at hq
  subst hq
  exact ⟨A',c',by rw [List.getElem?_append_right (by rw [h.1]; omega),h.1,hi2]; rfl,hc,hr⟩
end

structure PSt (W1 wr:World) (v:Value) (ps:List (List Int)) (xs:List Value):Prop where
 own:wr.ownsRow W1.heap.size 22 1 v ps.length xs
 cells:PsC wr (fun b=>W1.heap.size≤b∧b < wr.heap.size∧v.ownBlock≠some b) ps xs
 below:Below W1.heap.size W1 wr
section
variable {W1 wr w1 w2:World} {v v1 v2:Value} {ps:List (List Int)} {xs:List Value} {p:List Int} {o:Obj}
theorem PSt.later (h:PSt W1 wr v ps xs) (hb:Below wr.heap.size wr w1):PSt W1 w1 v ps xs:=by
 refine ⟨ownsRow_below h.own hb,(h.cells.keep fun b hb'=>hb.block b hb'.2.1).mono fun b hb'=>⟨hb'.1,Nat.lt_of_lt_of_le hb'.2.1 hb.size,hb'.2.2⟩,bt h.below hb⟩
theorem PSt.next (h : PSt W1 wr v ps xs) (hown1 : w1.ownsRow wr.heap.size 3 1 v1 p.length (vi p)) (hg1 : Below wr.heap.size wr w1)
  (hown2:w2.ownsRow W1.heap.size 22 1 v2 (ps.length + 1) (xs ++ [v1])) (hg2:(w1.alloc o).grownBy w2 v.ownBlock) (hnew:v2.ownBlock = v.ownBlock∨v2.ownBlock = some (w1.alloc o).heap.size) :
  PSt W1 w2 v2 (ps ++ [p]) (xs ++ [v1]):=by
 have hs1:=h.below.size
 have hs2:=hg1.size
 have hs3:=hg2.size
 have hsa:(w1.alloc o).heap.size = w1.heap.size + 1:=size_alloc _ _
 have hv:=h.own.lt
 have keep:∀ b,b < w1.heap.size→v.ownBlock≠some b→w2.heap[b]? = w1.heap[b]?:=fun b hb hne =>
  (hg2.block b (by omega) (fun e=>hne e.symm)).trans (Below.heap_alloc w1 o b hb)
 have hb1:Below W1.heap.size W1 (w1.alloc o):=ba (bt h.below hg1) o
 have sort:∀ b,b < w1.heap.size→v.ownBlock≠some b→v2.ownBlock≠some b:=fun b hb hne e=>by
  rcases hnew with hn | hn
  ·exact hne (hn ▸ e)
  ·rw [hn] at e; have:=Option.some.inj e; omega
 obtain ⟨A1,c1,rfl,hc1⟩:=own_len hown1
 refine ⟨by rw [List.length_append,List.length_singleton]; exact hown2,?_,?_⟩
 ·refine PsC.snoc ?_ hc1 ?_
  ·refine (h.cells.keep (w':=w2) ?_).mono ?_
   ·intro b hb
    exact (keep b (by omega) hb.2.2).trans (hg1.block b hb.2.1)
   ·intro b hb
    exact ⟨hb.1,by omega,sort b (by omega) hb.2.2⟩
  ·have hne:∀ b,wr.heap.size≤b→v.ownBlock≠some b:=fun b hb e=>by have:=(hv b e).2; omega
   refine Rd.mono ((Rd.of_own hown1).keep (w':=w2) ?_) ?_
   ·intro b hb
    exact keep b hb.2 (hne b hb.1)
   ·intro b hb
    exact ⟨by omega,by omega,sort b hb.2 (hne b hb.1)⟩
 ·exact ⟨hg2.os.trans hb1.os,hg2.tape.trans hb1.tape,hg2.output.trans hb1.output,Nat.le_trans hb1.size hg2.size,fun i hi=>(hg2.block i (Nat.lt_of_lt_of_le hi hb1.size) (fun e=>by have:=(hv i e.symm).1; omega)).trans (hb1.block i hi)⟩
end

def PathsPost (t:T) (w:World) (e:Ending) (w':World):Prop :=
 ∃ A' c',e = .returned (.slice A' (size t) c')∧size t≤c'∧Ps w' (fun b=>w.heap.size≤b∧b < w'.heap.size) A' (paths t)∧Below w.heap.size w w'
end Go.Proofs.YtkkenbalpnmfmaaDoor
