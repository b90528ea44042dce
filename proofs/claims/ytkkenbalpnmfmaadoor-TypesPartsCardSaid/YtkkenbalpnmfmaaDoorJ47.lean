/- Texts joined. -/
import Derived.Test.YtkkenbalpnmfmaaDoorJ44
import Derived.Test.YtkkenbalpnmfmaaDoorJ46
set_option linter.unusedVariables false
namespace Go.Proofs.YtkkenbalpnmfmaaDoor
open Go.RowKit WM TR

def FndL (w:World) (b0 lo hi:Nat) (t:T) (q:List Int) (u:T) (b o:Nat):Prop:=∃ lo' hi' d row,Foc w b0 lo hi t q u b o lo' hi' d row
theorem step_lin (w:World) (b0 lo hi:Nat) (t:T):Step w t (FndL w b0 lo hi t):=by
 rintro q u b o ⟨lo',hi',d,row,h⟩
 obtain ⟨A,c,e,hc⟩:=h.lin.rep.form
 have hcell:∀ i v,(nd u A c)[i]? = some v→w.cell? ⟨b,o + i,none⟩ = some v:=by
  intro i v hv
  rw [h.blk.cell (o + i)]
  rw [← e,List.getElem?_take] at hv
  split at hv
  ·rw [List.getElem?_drop] at hv
   simpa using hv
  ·cases hv
 refine ⟨h.sub,A,c,hcell,fun j k hk=>?_⟩
 cases d with
 | zero=>exact h.lin.elim
 | succ d =>
  obtain ⟨g,c2,lo2,hi2,ys,e2,hf⟩:=h.next hk
  rw [e] at e2
  obtain ⟨rfl,_⟩:=nd_inj e2
  exact ⟨g,0,rfl,by rw [Nat.zero_add]; exact ⟨lo2,hi2,d,ys,hf⟩⟩

def SetMade (o:Option T) (w:World) (e:Ending) (w':World):Prop :=
 ∃ u A' c' D,o.getD zeroT = u∧e = .returned (.tuple #[.agg #[.int .i64 u.k,.int .i64 u.n,.int .i64 u.m,.slice A' u.kids.length c'],.int .i64 (codeOf o)])∧Rep w' (fun b=>w.heap.size≤b∧b < w'.heap.size) D u (nd u A' c')∧Below w.heap.size w w'
theorem set_none_at:∀ (p:List Int) (t x:T),at? p t = none→set? p t x = none
 | [],_,_,h=>by simp [at?] at h
 | i :: p,t,x,h=>by
  simp only [at?,set?] at h ⊢
  split at h
  ·rename_i hi; rw [if_pos hi]
  ·rename_i hi
   rw [if_neg hi]
   cases hk:t.kids[i.toNat]? with
   | none=>rfl
   | some v =>
    rw [hk] at h
    simp only [set_none_at p v x h]

theorem set_back {w W3 w4 W5 w7 w8 : World} {t u x : T} {p : List Int} {b o lo' hi' d' dx c7 : Nat} {A7 : Option Addr} {row cs : List Value} (hf : Foc W5 w4.heap.size W3.heap.size w4.heap.size t p u b o lo' hi' d' row) (hz3 : W3.heap.size = w.heap.size + 3) (hs4 : W3.heap.size ≤ w4.heap.size) (hz5 : W5.heap.size = w4.heap.size + 1)
  (hO:Blk W5 (w.heap.size + 1 + 1) 25 cs.toArray) (hl7:Lin w7 dx W5.heap.size w7.heap.size x (nd x A7 c7)) (hb7:Below W5.heap.size W5 w7) (hw8:w8 = w7.setRow b (seg row o (nd x A7 c7)).toArray) :
  ∃ A9 c9 D9 t9,set? p t x = some t9∧(∀ i y,[Value.int .i64 t9.k,.int .i64 t9.n,.int .i64 t9.m,.slice A9 t9.kids.length c9][i]? = some y→w8.cell? ⟨w4.heap.size,0 + i,none⟩ = some y)∧Rep w8 (fun b=>W3.heap.size≤b∧b < w8.heap.size) D9 t9 (nd t9 A9 c9)∧Below W3.heap.size W5 w8∧Blk w8 (w.heap.size + 1 + 1) 25 cs.toArray:=by
 have hs7:=hb7.size
 have hs8:w8.heap.size = w7.heap.size:=by rw [hw8,size_setRow]
 have hbl:W3.heap.size≤b∧b < W5.heap.size:=by rcases hf.here with h | h <;> omega
 have hblk:Blk w8 b 25 (seg row o (nd x A7 c7)).toArray:=by rw [hw8]; exact (hf.blk.below hb7 hf.blk.lt).setRow _
 have hoth:∀ b',b'≠b→w8.heap[b']? = w7.heap[b']?:=fun b' h=>by rw [hw8]; exact setRow_other _ _ _ b' (Ne.symm h)
 have hfit:=hf.fit
 have hag:∀ q:Addr,(q.block = w4.heap.size∨(W3.heap.size≤q.block∧q.block < w4.heap.size))→¬ (lo'≤q.block∧q.block < hi')→(q.block = b→q.off < o∨o + 4≤q.off)→w8.cell? q = W5.cell? q:=fun q hq _ ho=>by
  have hqlt:q.block < W5.heap.size:=by rcases hq with h | h <;> omega
  by_cases e:q.block = b
  ·have ho':=ho e
   obtain ⟨qb,qo,qs⟩:=q
   simp only at e ho' hqlt
   subst e
   cases qs with
   | none =>
    rw [hblk.cell qo,hf.blk.cell qo]
    simp only [List.getElem?_toArray]
    rw [seg_get (by rw [nd_length]; exact hfit),nd_length]
    rcases ho' with h | h
    ·rw [if_pos h]
    ·rw [if_neg (by omega),if_neg (by omega)]
   | some s =>
    unfold World.cell?
    have h1:w8.heap[qb]? = some (.cells (seg row o (nd x A7 c7)).toArray 25 (0,0)):=hblk
    have h2:W5.heap[qb]? = some (.cells row.toArray 25 (0,0)):=hf.blk
    simp [h1,h2]
  ·exact (World.cell?_of_block (hoth _ e)).trans (hb7.cell hqlt)
 have hcl:∀ i v,(nd x A7 c7)[i]? = some v→w8.cell? ⟨b,o + i,none⟩ = some v:=fun i v hv=>by
  rw [hblk.cell (o + i)]
  have hi4:i < 4:=by have:=(List.getElem?_eq_some_iff.1 hv).1; rw [nd_length] at this; exact this
  simp only [List.getElem?_toArray]
  rw [seg_get (by rw [nd_length]; exact hfit),nd_length,if_neg (by omega),if_pos (by omega),Nat.add_sub_cancel_left]
  exact hv
 have hrx:Rep w8 (fun c=>W5.heap.size≤c∧c < w7.heap.size) dx x (nd x A7 c7):=hl7.rep.keep fun c hc=>hoth c (by omega)
 obtain ⟨cs0,D0,t',hs0,hc0,hr0⟩:=hf.back w8 x (nd x A7 c7) dx _ hag hcl hrx
 obtain ⟨A9,c9,e,_⟩:=hr0.form
 rw [e] at hc0 hr0
 refine ⟨A9,c9,D0,t',hs0,hc0,hr0.mono fun c hc=>?_,?_,(hoth _ (by omega)).trans (hO.below hb7 hO.lt)⟩
 ·rcases hc with hc | hc
  ·exact ⟨hc.1,by omega⟩
  ·exact ⟨by omega,by omega⟩
 ·rw [hw8]
  exact below_setRow (hb7.mono (by omega)) hbl.1 _

set_option maxRecDepth 100000 in
set_option maxHeartbeats 4000000 in
theorem tset_is (d dx : Nat) (t x : T) (S S' Sx : Nat → Prop) (A X : Option Addr) (c xc : Nat) (w : World) (p : List Int) (P : Option Addr) (pc : Nat) (ht : Rep w S d t (nd t A c)) (hx : Rep w Sx dx x (nd x X xc)) (hp : Rd w S' 1 P p.length (vi p)) (hin : In S w.heap.size) (hinx : In Sx w.heap.size) (hin' : In S' w.heap.size) (hst : size t ≤ 1000000) (hsx : size x ≤ 1000000) (hpc : p.length ≤ pc) (hpl : p.length ≤ 9223372036854775807) :
  Calls Tryd.prog 31 #[.agg #[.int .i64 t.k,.int .i64 t.n,.int .i64 t.m,.slice A t.kids.length c],.slice P p.length pc,.agg #[.int .i64 x.k,.int .i64 x.n,.int .i64 x.m,.slice X x.kids.length xc]] w (SetMade (set? p t x) w):=by
 obtain ⟨W3,hW3⟩:∃ W3,W3 = ((w.alloc (.cells #[.int .i64 t.k,.int .i64 t.n,.int .i64 t.m,.slice A t.kids.length c] 25)).alloc (.cells #[.int .i64 x.k,.int .i64 x.n,.int .i64 x.m,.slice X x.kids.length xc] 25)).alloc (.cells #[.int .i64 0,.int .i64 0,.int .i64 0,.slice none 0 0] 25):=⟨_,rfl⟩
 have hz3:W3.heap.size = w.heap.size + 3:=by rw [hW3,size_alloc,size_alloc,size_alloc]
 have hT:Blk W3 w.heap.size 25 #[.int .i64 t.k,.int .i64 t.n,.int .i64 t.m,.slice A t.kids.length c]:=by rw [hW3]; exact ((Blk.new w _ _).alloc _).alloc _
 have hX:Blk W3 (w.heap.size + 1) 25 #[.int .i64 x.k,.int .i64 x.n,.int .i64 x.m,.slice X x.kids.length xc]:=by rw [hW3]; exact (Blk.new_at _ _ (by rw [size_alloc]) rfl).alloc _
 have hO:Blk W3 (w.heap.size + 1 + 1) 25 #[.int .i64 0,.int .i64 0,.int .i64 0,.slice none 0 0]:=by rw [hW3]; exact Blk.new_at _ _ (by rw [size_alloc,size_alloc]) rfl
 have hB:Below w.heap.size w W3:=by rw [hW3]; exact ba (ba (below_new _ _) _) _
 have HC:=Lib.hid (clone_is d t S A c W3 (ht.later hin hB) (hin.more hB.size) hst)
 have HXR:=Lib.hid (hx.later hinx hB)
 have HINX:=Lib.hid (hinx.more hB.size)
 have HP:=Lib.hid (hp.keep (Keeps.below hin' hB))
 have HIN':=Lib.hid (hin'.more hB.size)
 have HT:=Lib.hid hT
 have HX:=Lib.hid hX
 have HO:=Lib.hid hO
 have HB:=Lib.hid hB
 have HZ3:=Lib.hid hz3
 have HW3:=Lib.hid hW3
 have HSX:=Lib.hid hsx
 have HCT:Hid (∀ i y,[Value.int .i64 t.k,.int .i64 t.n,.int .i64 t.m,.slice A t.kids.length c][i]? = some y→W3.cell? ⟨w.heap.size,0 + i,none⟩ = some y):=Lib.hid (fun i y hy=>by rw [hT.cell (0 + i),Nat.zero_add]; simpa using hy)
 clear hW3 hT hX hO hB ht hx hp hin hinx hin' hsx hz3
 go_enter Tryd.func31,Tryd.ntmps31
 go_wp2_with (first
  | (refine wpList_load_mid rfl 25 (.tmp 3) rfl w.heap.size 0 rfl [.int .i64 t.k,.int .i64 t.n,.int .i64 t.m,.slice A t.kids.length c] _ (by rw [← HW3.out]; exact HCT.out) Tryd.underlying25 rfl (by rw [size_node]; rfl) ?_)
  | (go_at_call 61; rw [← HW3.out]; refine HC.out.mono ?_; rintro e w4 ⟨A4,c4,rfl,hl4,hb4⟩; have HL4:=Lib.hid hl4; have HB4:=Lib.hid hb4; clear hl4 hb4)
  | (refine wpList_store_new rfl 25 (.tmp 8) (.tmp 11) rfl w4 _ _ rfl rfl (by rw [size_node]; rfl) rfl rfl ?_))
 have hz3:=HZ3.out
 have hs4:=HB4.out.size
 obtain ⟨W5,hW5⟩:∃ W5,W5 = w4.alloc (.cells #[.int .i64 t.k,.int .i64 t.n,.int .i64 t.m,.slice A4 t.kids.length c4] 25):=⟨_,rfl⟩
 have hz5:W5.heap.size = w4.heap.size + 1:=by rw [hW5,size_alloc]
 have hb5:Below w4.heap.size w4 W5:=by rw [hW5]; exact below_new _ _
 have hR:Blk W5 w4.heap.size 25 (nd t A4 c4).toArray:=by rw [hW5]; exact Blk.new w4 _ _
 have hb35:Below W3.heap.size W3 W5:=bt HB4.out hb5
 have h0:FndL W5 w4.heap.size W3.heap.size w4.heap.size t [] t w4.heap.size 0:=⟨W3.heap.size,w4.heap.size,d,nd t A4 c4,Foc.root hR (HL4.out.keep fun b _ hb=>hb5.block b hb) (by omega)⟩
 have HF:=Lib.hid (find_is W5 t _ (step_lin W5 w4.heap.size W3.heap.size w4.heap.size t) w4.heap.size h0 p S' P pc (HP.out.keep (Keeps.below HIN'.out hb35)) hpc hpl)
 have HO5:=Lib.hid (HO.out.below hb35 HO.out.lt)
 have hX5:=HX.out.below hb35 HX.out.lt
 have HCX:Hid (∀ i y,[Value.int .i64 x.k,.int .i64 x.n,.int .i64 x.m,.slice X x.kids.length xc][i]? = some y→W5.cell? ⟨w.heap.size + 1,0 + i,none⟩ = some y):=Lib.hid (fun i y hy=>by rw [hX5.cell (0 + i),Nat.zero_add]; simpa using hy)
 have HCL:=Lib.hid (clone_is dx x Sx X xc W5 (HXR.out.later HINX.out hb35) (HINX.out.more hb35.size) HSX.out)
 have HB35:=Lib.hid hb35
 rw [← hW5]
 have HZ5:=Lib.hid hz5
 clear hW5 hb5 hR h0 hX5 hb35 hz5 hz3 hs4
 go_wp2_with (first
  | (go_at_call 60; refine HF.out.mono ?_; rintro e w6 ⟨hw6,(⟨hno,rfl⟩ | ⟨u,b,o,⟨lo',hi',d',row,hf⟩,rfl⟩)⟩ <;> subst hw6)
  | (refine wpList_store_row rfl 25 (.tmp 6) (.tmp 16) rfl (w.heap.size + 1 + 1) #[.int .i64 0,.int .i64 0,.int .i64 0,.slice none 0 0] rfl rfl 25 #[.int .i64 0,.int .i64 0,.int .i64 0,.slice none 0 0] HO5.out (by rw [size_node]; rfl) rfl (by simp [Value.oneCell']) ?_)
  | (refine wpList_load_mid rfl 25 (.tmp 5) rfl (w.heap.size + 1) 0 rfl [.int .i64 x.k,.int .i64 x.n,.int .i64 x.m,.slice X x.kids.length xc] _ HCX.out Tryd.underlying25 rfl (by rw [size_node]; rfl) ?_)
  | (go_at_call 61; refine HCL.out.mono ?_; rintro e w7 ⟨A7,c7,rfl,hl7,hb7⟩; have HL7:=Lib.hid hl7; have HB7:=Lib.hid hb7; have HBR:=Lib.hid (hf.blk.below hb7 hf.blk.lt); clear hl7 hb7)
  | (refine wpList_store_seg _ rfl 25 (.tmp 20) (.tmp 19) rfl b o (nd x A7 c7) rfl rfl 25 row HBR.out (by rw [size_node]; rfl) hf.fit (nd_one x A7 c7) ?_; intro w8 hw8; obtain ⟨A9,c9,D9,t9,hs9,hc9,hr9,hb9,ho9⟩:=set_back hf HZ3.out HB4.out.size HZ5.out HO5.out HL7.out HB7.out hw8; have HR9:=Lib.hid hr9; have HB9:=Lib.hid hb9; have HO9:=Lib.hid ho9; have HS9:=Lib.hid hs9; have HC9:=Lib.hid hc9; clear hr9 hb9 ho9 hs9 hc9 hw8)
  | (refine wpList_load_mid rfl 25 (.tmp 8) rfl w4.heap.size 0 rfl [.int .i64 t9.k,.int .i64 t9.n,.int .i64 t9.m,.slice A9 t9.kids.length c9] _ HC9.out Tryd.underlying25 rfl (by rw [size_node]; rfl) ?_)
  | (refine wpList_store_row rfl 25 (.tmp 6) (.tmp 21) rfl (w.heap.size + 1 + 1) #[.int .i64 t9.k,.int .i64 t9.n,.int .i64 t9.m,.slice A9 t9.kids.length c9] rfl rfl 25 #[.int .i64 0,.int .i64 0,.int .i64 0,.slice none 0 0] HO9.out (by rw [size_node]; rfl) rfl (by simp [Value.oneCell']) ?_))
 ·have HR:=Lib.hid (HO5.out.setRow #[.int .i64 0,.int .i64 0,.int .i64 0,.slice none 0 0])
  have r0:=HR.out.cell 0
  have r1:=HR.out.cell 1
  have r2:=HR.out.cell 2
  have r3:=HR.out.cell 3
  simp only [List.getElem?_toArray,List.getElem?_cons_zero,List.getElem?_cons_succ] at r0 r1 r2 r3
  have hsn:=set_none_at p t x hno
  refine bodyPost_ret (v:=.tuple #[.agg #[.int .i64 0,.int .i64 0,.int .i64 0,.slice none 0 0],.int .i64 6]) (by simp [results,Tryd.results31,go_sem,r0,r1,r2,r3]) rfl ⟨zeroT,none,0,1,by rw [hsn]; rfl,by rw [hsn]; rfl,Rep.leaf in0 in0 in0 _ _,below_setRow (bt HB.out HB35.out) (by omega) _⟩
 ·have HR:=Lib.hid (HO9.out.setRow #[.int .i64 t9.k,.int .i64 t9.n,.int .i64 t9.m,.slice A9 t9.kids.length c9])
  have r0:=HR.out.cell 0
  have r1:=HR.out.cell 1
  have r2:=HR.out.cell 2
  have r3:=HR.out.cell 3
  simp only [List.getElem?_toArray,List.getElem?_cons_zero,List.getElem?_cons_succ] at r0 r1 r2 r3
  have hbf:=below_setRow (HB.out.trans ((HB35.out.trans HB9.out).mono HB.out.size)) (show w.heap.size≤w.heap.size + 1 + 1 by omega) #[.int .i64 t9.k,.int .i64 t9.n,.int .i64 t9.m,.slice A9 t9.kids.length c9]
  refine bodyPost_ret (v:=.tuple #[.agg #[.int .i64 t9.k,.int .i64 t9.n,.int .i64 t9.m,.slice A9 t9.kids.length c9],.int .i64 0]) (by simp [results,Tryd.results31,go_sem,r0,r1,r2,r3]) rfl ⟨t9,A9,c9,D9,by rw [HS9.out]; rfl,by rw [HS9.out]; rfl,?_,hbf⟩
  have hz3:=HZ3.out
  refine (HR9.out.keep (w':=w8.setRow (w.heap.size + 1 + 1) #[.int .i64 t9.k,.int .i64 t9.n,.int .i64 t9.m,.slice A9 t9.kids.length c9]) ?_).mono ?_
  ·intro b hb
   exact setRow_other _ _ _ b (by omega)
  ·intro b hb
   exact ⟨by omega,by rw [size_setRow]; exact hb.2⟩
end Go.Proofs.YtkkenbalpnmfmaaDoor
