/- Texts joined. -/
import Derived.Test.YtkkenbalpnmfmaaDoorJ17
set_option linter.unusedVariables false
namespace Go.Proofs.YtkkenbalpnmfmaaDoor
open Go.RowKit WM TR TY

structure FI where
 np:Nat
 tys:List T
 blk:T
 b:Nat
 c:Nat
def FI.t (f:FI):T:=⟨26,f.np,0,f.tys ++ [f.blk]⟩
theorem FI.len (f:FI):f.t.kids.length = f.tys.length + 1:=by show (f.tys ++ [f.blk]).length = _; rw [List.length_append]; rfl
def Far (g:Nat) (W:World) (o:Option Nat) (bs:List Nat) (x:Nat):Prop:=g < x∧x < W.heap.size∧x ∉ bs∧o≠some x
structure P2 (g D:Nat) (W:World) (AP:Option Addr) (cP:Nat) (fs:List FI):Prop where
 nodup:(fs.map FI.b).Nodup
 row:∃ xs,W.ownsRow (g + 1) 25 4 (.slice AP fs.length cP) fs.length xs∧∀ (j:Nat) (f:FI),fs[j]? = some f→(xs.drop (j * 4)).take 4 = nd f.t (some ⟨f.b,0,none⟩) f.c
 pno:∀ f ∈ fs,(Value.slice AP fs.length cP).ownBlock≠some f.b
 fn:∀ (j:Nat) (f:FI),fs[j]? = some f→∃ zs A' c',W.ownsRow (g + 1) 25 4 (.slice (some ⟨f.b,0,none⟩) (f.tys.length + 1) f.c) (f.tys.length + 1) (zs ++ nd f.blk A' c')∧Reps W (Far g W (Value.slice AP fs.length cP).ownBlock (fs.map FI.b)) D f.tys zs∧Rep W (Far g W (Value.slice AP fs.length cP).ownBlock (fs.map FI.b)) D f.blk (nd f.blk A' c')
 rng:∀ f ∈ fs,f.np≤2
theorem P2.lt {g D:Nat} {W:World} {AP:Option Addr} {cP:Nat} {fs:List FI} (h:P2 g D W AP cP fs) {f:FI} (hf:f ∈ fs):g < f.b∧f.b < W.heap.size:=by
 obtain ⟨j,hj⟩:=List.mem_iff_getElem?.1 hf
 obtain ⟨zs,A',c',h1,_⟩:=h.fn j f hj
 have:=h1.lt f.b rfl
 omega
theorem Far.gw {g:Nat} {W W':World} {o:Option Nat} {bs:List Nat} (hg:W.grownBy W' (some g)):Keeps (Far g W o bs) W W':=fun b hb=>hg.block b hb.2.1 (fun e=>by have:=Option.some.inj e; have:=hb.1; omega)
theorem Far.more {g:Nat} {W W':World} {o:Option Nat} {bs:List Nat} (hs:W.heap.size≤W'.heap.size):∀ b,Far g W o bs b→Far g W' o bs b:=fun b hb=>⟨hb.1,by have:=hb.2.1; omega,hb.2.2⟩
theorem P2.gw {g D:Nat} {W W':World} {AP:Option Addr} {cP:Nat} {fs:List FI} (h:P2 g D W AP cP fs) (hg:W.grownBy W' (some g)):P2 g D W' AP cP fs:=by
 obtain ⟨xs,h1,h2⟩:=h.row
 refine ⟨h.nodup,⟨xs,h1.kept hg (.inr fun e=>by have:=(h1.lt _ e).1; omega),h2⟩,h.pno,fun j f hj=>?_,h.rng⟩
 obtain ⟨zs,A',c',k1,k2,k3⟩:=h.fn j f hj
 exact ⟨zs,A',c',k1.kept hg (.inr fun e=>by have:=(k1.lt _ e).1; omega),(k2.keep (Far.gw hg)).mono (Far.more hg.size),(k3.keep (Far.gw hg)).mono (Far.more hg.size)⟩
theorem small3 {f:FI} (h:f.np≤2):inRange (26:Int)∧inRange (f.np:Int)∧inRange (0:Int):=⟨small (by omega) (by omega),small (by omega) (by omega),small (by omega) (by omega)⟩
theorem P2.rep {g D:Nat} {W:World} {AP:Option Addr} {cP:Nat} {fs:List FI} (h:P2 g D W AP cP fs) {j:Nat} {f:FI} (hj:fs[j]? = some f):Rep W (fun x=>g < x∧x < W.heap.size) (D + 1) f.t (nd f.t (some ⟨f.b,0,none⟩) f.c):=by
 obtain ⟨zs,A',c',k1,k2,k3⟩:=h.fn j f hj
 have hr:=small3 (h.rng f (List.mem_of_getElem? hj))
 obtain ⟨A9,c9,hv,hc⟩:=own_len k1
 injection hv with hA hn hcc
 refine Rep.mk (ts:=f.tys ++ [f.blk]) hr.1 hr.2.1 hr.2.2 (by rw [List.length_append]; simp; omega) ?_ ((k2.mono fun b hb=>⟨hb.1,hb.2.1⟩).snoc (k3.mono fun b hb=>⟨hb.1,hb.2.1⟩))
 have:=(Rd.of_own k1).mono (S':=fun x=>g < x∧x < W.heap.size) fun b hb=>⟨by have:=hb.1; omega,hb.2⟩
 rw [List.length_append]; exact this
theorem P2.nds {g D:Nat} {W:World} {AP:Option Addr} {cP:Nat} {fs:List FI} (h:P2 g D W AP cP fs) (hl:fs.length≤1000):Nds W (fun x=>g < x∧x < W.heap.size) (D + 1) (fs.map FI.t) AP cP:=by
 obtain ⟨xs,h1,h2⟩:=h.row
 obtain ⟨A9,c9,hv,hc⟩:=own_len h1
 injection hv with hA hn hcc
 have hlen:(fs.map FI.t).length = fs.length:=List.length_map _
 refine ⟨⟨xs,by rw [hlen]; exact (Rd.of_own h1).mono fun b hb=>⟨by have:=hb.1; omega,hb.2⟩,by rw [hlen,h1.1],fun i u hu=>?_⟩,by rw [hlen]; omega,by rw [hlen]; exact hl⟩
 rw [List.getElem?_map] at hu
 obtain ⟨f,hf,rfl⟩:=Option.map_eq_some_iff.1 hu
 rw [h2 i f hf]
 exact h.rep hf
theorem set_four (zs : List Value) (o0 o1 o2 o3 v0 v1 v2 v3 : Value) (q : Nat) (hq : zs.length = q) :
  ((((zs ++ [o0,o1,o2,o3]).set q v0).set (q + 1) v1).set (q + 2) v2).set (q + 3) v3 = zs ++ [v0,v1,v2,v3]:=by
 subst hq
 simp
theorem own_four {w : World} {base b n c q : Nat} {zs : List Value} {o0 o1 o2 o3 : Value} (h : w.ownsRow base 25 4 (.slice (some ⟨b, 0, none⟩) n c) n (zs ++ [o0, o1, o2, o3])) (hq : zs.length = q) (v0 v1 v2 v3 : Value) :
  ((((w.setCell ⟨b,q,none⟩ v0).setCell ⟨b,q + 1,none⟩ v1).setCell ⟨b,q + 2,none⟩ v2).setCell ⟨b,q + 3,none⟩ v3).ownsRow base 25 4 (.slice (some ⟨b,0,none⟩) n c) n (zs ++ [v0,v1,v2,v3]):=by
 have h1:=((((h.stored q v0).1.stored (q + 1) v1).1.stored (q + 2) v2).1.stored (q + 3) v3).1
 rw [set_four zs o0 o1 o2 o3 v0 v1 v2 v3 q hq] at h1
 exact h1
theorem gwq (w:World) (b q:Nat) (v0 v1 v2 v3:Value):w.grownBy ((((w.setCell ⟨b,q,none⟩ v0).setCell ⟨b,q + 1,none⟩ v1).setCell ⟨b,q + 2,none⟩ v2).setCell ⟨b,q + 3,none⟩ v3) (some b)∧((((w.setCell ⟨b,q,none⟩ v0).setCell ⟨b,q + 1,none⟩ v1).setCell ⟨b,q + 2,none⟩ v2).setCell ⟨b,q + 3,none⟩ v3).heap.size = w.heap.size :=
 ⟨gw_setCell (gw_setCell (gw_setCell (gw_setCell (gw_refl w b) (.inl rfl) _) (.inl rfl) _) (.inl rfl) _) (.inl rfl) _,by simp [World.size_setCell]⟩
theorem P2.put {g D : Nat} {W : World} {AP : Option Addr} {cP : Nat} {fs : List FI} (h : P2 g D W AP cP fs) {i : Nat} {f : FI} (hi : fs[i]? = some f) {t : T} {A' : Option Addr} {c' : Nat} (ht : Rep W (Far g W (Value.slice AP fs.length cP).ownBlock (fs.map FI.b)) D t (nd t A' c')) :
  P2 g D ((((W.setCell ⟨f.b,f.tys.length * 4,none⟩ (.int .i64 t.k)).setCell ⟨f.b,f.tys.length * 4 + 1,none⟩ (.int .i64 t.n)).setCell ⟨f.b,f.tys.length * 4 + 2,none⟩ (.int .i64 t.m)).setCell ⟨f.b,f.tys.length * 4 + 3,none⟩ (.slice A' t.kids.length c')) AP cP (fs.set i ⟨f.np,f.tys,t,f.b,f.c⟩):=by
 obtain ⟨hg,hs⟩:=gwq W f.b (f.tys.length * 4) (.int .i64 t.k) (.int .i64 t.n) (.int .i64 t.m) (.slice A' t.kids.length c')
 generalize hW':((((W.setCell ⟨f.b,f.tys.length * 4,none⟩ (.int .i64 t.k)).setCell ⟨f.b,f.tys.length * 4 + 1,none⟩ (.int .i64 t.n)).setCell ⟨f.b,f.tys.length * 4 + 2,none⟩ (.int .i64 t.m)).setCell ⟨f.b,f.tys.length * 4 + 3,none⟩ (.slice A' t.kids.length c')) = W' at hg hs ⊢
 have hmem:=List.mem_of_getElem? hi
 have hil:i < fs.length:=(List.getElem?_eq_some_iff.1 hi).1
 have hbs:(fs.set i ⟨f.np,f.tys,t,f.b,f.c⟩).map FI.b = fs.map FI.b:=by
  apply List.ext_getElem?
  intro j
  rw [List.getElem?_map,List.getElem?_map,List.getElem?_set]
  by_cases hj:i = j
  ·subst hj; rw [if_pos rfl,hi]; simp [hil]
  ·rw [if_neg hj]
 have hlen:(fs.set i ⟨f.np,f.tys,t,f.b,f.c⟩).length = fs.length:=List.length_set
 have hfar:∀ S:World,∀ x,Far g W (Value.slice AP fs.length cP).ownBlock (fs.map FI.b) x→x≠f.b:=fun _ x hx e=>hx.2.2.1 (by rw [e]; exact List.mem_map_of_mem hmem)
 have hk:Keeps (Far g W (Value.slice AP fs.length cP).ownBlock (fs.map FI.b)) W W':=fun b hb=>hg.block b hb.2.1 (fun e=>hfar W b hb (Option.some.inj e))
 have hm:∀ b,Far g W (Value.slice AP fs.length cP).ownBlock (fs.map FI.b) b→Far g W' (Value.slice AP fs.length cP).ownBlock (fs.map FI.b) b:=Far.more (by omega)
 obtain ⟨xs,h1,h2⟩:=h.row
 refine ⟨by rw [hbs]; exact h.nodup,⟨xs,by rw [hlen]; exact h1.kept hg (.inr (h.pno f hmem)),fun j f' hj=>?_⟩,fun f' hf'=>?_,fun j f' hj=>?_,fun f' hf'=>?_⟩
 ·rw [List.getElem?_set] at hj
  by_cases hij:i = j
  ·subst hij
   rw [if_pos rfl] at hj
   simp [hil] at hj
   subst hj
   rw [h2 i f hi]
   simp [nd,FI.t]
  ·rw [if_neg hij] at hj; exact h2 j f' hj
 ·rw [hlen]
  rcases List.mem_or_eq_of_mem_set hf' with hf' | hf'
  ·exact h.pno f' hf'
  ·rw [hf']; exact h.pno f hmem
 ·rw [hlen,hbs]
  rw [List.getElem?_set] at hj
  by_cases hij:i = j
  ·subst hij
   rw [if_pos rfl] at hj
   simp [hil] at hj
   subst hj
   obtain ⟨zs,A2,c2,k1,k2,k3⟩:=h.fn i f hi
   have hz:zs.length = f.tys.length * 4:=k2.1
   refine ⟨zs,A',c',?_,(k2.keep hk).mono hm,(ht.keep hk).mono hm⟩
   have h4:=own_four (q:=f.tys.length * 4) k1 hz (.int .i64 t.k) (.int .i64 t.n) (.int .i64 t.m) (.slice A' t.kids.length c')
   rw [hW'] at h4
   exact h4
  ·rw [if_neg hij] at hj
   obtain ⟨zs,A2,c2,k1,k2,k3⟩:=h.fn j f' hj
   have hne:f'.b≠f.b:=fun e=>by
    have hnd:=h.nodup
    have e1:(fs.map FI.b)[j]? = some f.b:=by rw [List.getElem?_map,hj]; simp [e]
    have e2:(fs.map FI.b)[i]? = some f.b:=by rw [List.getElem?_map,hi]; rfl
    obtain ⟨j1,e1⟩:=List.getElem?_eq_some_iff.1 e1
    obtain ⟨i1,e2⟩:=List.getElem?_eq_some_iff.1 e2
    have hpw:=List.pairwise_iff_getElem.1 hnd
    rcases Nat.lt_or_gt_of_ne hij with hlt | hlt
    ·exact hpw i j i1 j1 hlt (e2.trans e1.symm)
    ·exact hpw j i j1 i1 hlt (e1.trans e2.symm)
   exact ⟨zs,A2,c2,k1.kept hg (.inr fun e=>hne (Option.some.inj e)),(k2.keep hk).mono hm,(k3.keep hk).mono hm⟩
 ·rcases List.mem_or_eq_of_mem_set hf' with hf' | hf'
  ·exact h.rng f' hf'
  ·rw [hf']; exact h.rng f hmem
end Go.Proofs.YtkkenbalpnmfmaaDoor

namespace Go.Proofs.YtkkenbalpnmfmaaDoor
open Go.RowKit WM TR TY

theorem P2.push {g D : Nat} {W0 X X4 : World} {AP : Option Addr} {cP p4 c4 n : Nat} {fs : List FI} {xs : List Value} {f : FI} {z0 z1 z2 z3 : Value} {A' : Option Addr} {c' : Nat} {zs : List Value}
  (h:P2 g D W0 AP cP fs) (hn:fs.length = n) (hgW:g < W0.heap.size) (hrow:W0.ownsRow (g + 1) 25 4 (.slice AP n cP) n xs) (hprop:∀ (j:Nat) (f:FI),fs[j]? = some f→(xs.drop (j * 4)).take 4 = nd f.t (some ⟨f.b,0,none⟩) f.c)
  (hg0:W0.grownBy X (some g)) (hown4:X4.ownsRow (g + 1) 25 4 (.slice (some ⟨p4,0,none⟩) (n + 1) c4) (n + 1) (xs ++ [z0,z1,z2,z3])) (hg4:X.grownBy X4 (Value.slice AP n cP).ownBlock)
  (hnew:some p4 = (Value.slice AP n cP).ownBlock∨X.heap.size≤p4)
  (hnp:f.np≤2) (hfb:W0.heap.size≤f.b) (hkr:X.ownsRow (g + 1) 25 4 (.slice (some ⟨f.b,0,none⟩) (f.tys.length + 1) f.c) (f.tys.length + 1) (zs ++ nd f.blk A' c'))
  (hrs:Reps X (fun x=>W0.heap.size≤x∧x < X.heap.size∧x≠f.b) D f.tys zs) (hrb:Rep X (fun x=>W0.heap.size≤x∧x < X.heap.size∧x≠f.b) D f.blk (nd f.blk A' c')) (v:Value) :
  P2 g D (((((X4.setCell ⟨p4,n * 4,none⟩ (.int .i64 26)).setCell ⟨p4,n * 4 + 1,none⟩ (.int .i64 (f.np:Int))).setCell ⟨p4,n * 4 + 2,none⟩ (.int .i64 0)).setCell ⟨p4,n * 4 + 3,none⟩ (.slice (some ⟨f.b,0,none⟩) (f.tys.length + 1) f.c)).setCell ⟨g,6,none⟩ v) (some ⟨p4,0,none⟩) c4 (fs ++ [f]):=by
 obtain ⟨hgq,hsq⟩:=gwq X4 p4 (n * 4) (.int .i64 26) (.int .i64 (f.np:Int)) (.int .i64 0) (.slice (some ⟨f.b,0,none⟩) (f.tys.length + 1) f.c)
 have h4:=own_four (q:=n * 4) hown4 (by rw [hrow.1]) (.int .i64 26) (.int .i64 (f.np:Int)) (.int .i64 0) (.slice (some ⟨f.b,0,none⟩) (f.tys.length + 1) f.c)
 generalize ((((X4.setCell ⟨p4,n * 4,none⟩ (.int .i64 26)).setCell ⟨p4,n * 4 + 1,none⟩ (.int .i64 (f.np:Int))).setCell ⟨p4,n * 4 + 2,none⟩ (.int .i64 0)).setCell ⟨p4,n * 4 + 3,none⟩ (.slice (some ⟨f.b,0,none⟩) (f.tys.length + 1) f.c)) = Y at hgq hsq h4 ⊢
 have hs0:=hg0.size
 have hs4:=hg4.size
 have hss:(Y.setCell ⟨g,6,none⟩ v).heap.size = Y.heap.size:=World.size_setCell _ _ _
 have hvP:∀ b,(Value.slice AP n cP).ownBlock = some b→g + 1≤b∧b < W0.heap.size:=hrow.lt
 have hp4:∀ x,x < X.heap.size→(Value.slice AP n cP).ownBlock≠some x→x≠p4:=fun x hx hne e=>by
  rcases hnew with hn | hn
  ·exact hne (by rw [e]; exact hn.symm)
  ·omega
 have hp4g:g < p4∧p4 < X4.heap.size:=by have:=hown4.lt p4 rfl; omega
 have hp4f:p4≠f.b:=fun e=>by
  have hb:=hkr.lt f.b rfl
  rcases hnew with hn | hn
  ·have:=hvP p4 hn.symm; omega
  ·omega
 have key:∀ x,x < X.heap.size→x≠g→(Value.slice AP n cP).ownBlock≠some x→(Y.setCell ⟨g,6,none⟩ v).heap[x]? = X.heap[x]?:=fun x hx hxg hne =>
  (Below.heap_setCell Y ⟨g,6,none⟩ v x hxg).trans ((hgq.block x (by omega) (fun e=>hp4 x hx hne (Option.some.inj e))).trans (hg4.block x (by omega) (fun e=>hne e.symm)))
 have key0:∀ x,x < W0.heap.size→x≠g→(Value.slice AP n cP).ownBlock≠some x→(Y.setCell ⟨g,6,none⟩ v).heap[x]? = W0.heap[x]?:=fun x hx hxg hne =>
  (key x (by omega) hxg hne).trans (hg0.block x hx (fun e=>hxg (Option.some.inj e)))
 have hbs:(fs ++ [f]).map FI.b = fs.map FI.b ++ [f.b]:=by simp
 have hlen:(fs ++ [f]).length = n + 1:=by rw [List.length_append,hn]; rfl
 have hown:(Value.slice (some (⟨p4,0,none⟩:Addr)) (n + 1) c4).ownBlock = some p4:=rfl
 have row_of:∀ (b m c:Nat) (ys:List Value) (Z:World),Z.ownsRow (g + 1) 25 4 (.slice (some ⟨b,0,none⟩) m c) m ys→(Y.setCell ⟨g,6,none⟩ v).heap[b]? = Z.heap[b]?→(Y.setCell ⟨g,6,none⟩ v).ownsRow (g + 1) 25 4 (.slice (some ⟨b,0,none⟩) m c) m ys:=fun b m c ys Z hz hb=>by
  refine ⟨hz.1,?_⟩
  rcases hz.2 with ⟨h',_⟩ | ⟨g',cap',cur,h',hge,hgg,rest⟩
  ·simp at h'
  ·refine .inr ⟨g',cap',cur,h',hge,?_,rest⟩
   simp only [Value.slice.injEq,Option.some.injEq,Addr.mk.injEq,and_true,true_and] at h'
   rw [← h'.1,hb,h'.1]; exact hgg
 have hfl:∀ f' ∈ fs,g < f'.b∧f'.b < W0.heap.size:=fun f' hf'=>h.lt hf'
 have hpn:∀ f' ∈ fs,(Value.slice AP n cP).ownBlock≠some f'.b:=fun f' hf'=>by rw [← hn]; exact h.pno f' hf'
 have hkeep:Keeps (Far g W0 (Value.slice AP fs.length cP).ownBlock (fs.map FI.b)) W0 (Y.setCell ⟨g,6,none⟩ v):=fun x hx=>key0 x hx.2.1 (by have:=hx.1; omega) (by rw [← hn]; exact hx.2.2.2)
 have hfar:∀ x,Far g W0 (Value.slice AP fs.length cP).ownBlock (fs.map FI.b) x→Far g (Y.setCell ⟨g,6,none⟩ v) (some p4) (fs.map FI.b ++ [f.b]) x:=fun x hx=>by
  refine ⟨hx.1,by have:=hx.2.1; omega,fun hm=>?_,fun e=>hp4 x (by have:=hx.2.1; omega) (by rw [← hn]; exact hx.2.2.2) (Option.some.inj e).symm⟩
  rcases List.mem_append.1 hm with hm | hm
  ·exact hx.2.2.1 hm
  ·simp at hm; have:=hx.2.1; omega
 have hkeepN:Keeps (fun x=>W0.heap.size≤x∧x < X.heap.size∧x≠f.b) X (Y.setCell ⟨g,6,none⟩ v):=fun x hx=>key x hx.2.1 (by have:=hx.1; omega) (fun e=>by have:=hvP x e; have:=hx.1; omega)
 have hfarN:∀ x,(W0.heap.size≤x∧x < X.heap.size∧x≠f.b)→Far g (Y.setCell ⟨g,6,none⟩ v) (some p4) (fs.map FI.b ++ [f.b]) x:=fun x hx=>by
  refine ⟨by have:=hx.1; omega,by have:=hx.2.1; omega,fun hm=>?_,fun e=>hp4 x hx.2.1 (fun e=>by have:=hvP x e; have:=hx.1; omega) (Option.some.inj e).symm⟩
  rcases List.mem_append.1 hm with hm | hm
  ·obtain ⟨f',hf',rfl⟩:=List.mem_map.1 hm
   have:=hfl f' hf'; have:=hx.1; omega
  ·simp at hm; exact hx.2.2 hm
 refine ⟨?_,⟨xs ++ [.int .i64 26,.int .i64 (f.np:Int),.int .i64 0,.slice (some ⟨f.b,0,none⟩) (f.tys.length + 1) f.c],by rw [hlen]; exact ownsRow_setCell_below h4 (by show g < g + 1; omega) v,fun j f' hj=>?_⟩,fun f' hf'=>?_,fun j f' hj=>?_,fun f' hf'=>?_⟩
 ·rw [hbs]
  refine List.nodup_append.2 ⟨h.nodup,by simp,fun a ha b hb=>?_⟩
  obtain ⟨f',hf',rfl⟩:=List.mem_map.1 ha
  simp at hb
  have:=hfl f' hf'; omega
 ·by_cases hjn:j < fs.length
  ·rw [List.getElem?_append_left hjn] at hj
   rw [List.drop_append_of_le_length (by rw [hrow.1]; omega),List.take_append_of_le_length (by rw [List.length_drop,hrow.1]; omega)]
   exact hprop j f' hj
  ·rw [List.getElem?_append_right (by omega)] at hj
   have hj0:j - fs.length = 0:=by have:=(List.getElem?_eq_some_iff.1 hj).1; simp at this; omega
   rw [hj0] at hj
   simp at hj
   subst hj
   have hjn2:j * 4 = xs.length:=by rw [hrow.1]; omega
   rw [hjn2,List.drop_left]
   simp [nd,FI.t]
 ·rw [hlen]
  rcases List.mem_append.1 hf' with hf' | hf'
  ·exact fun e=>hp4 f'.b (by have:=hfl f' hf'; omega) (hpn f' hf') (Option.some.inj e).symm
  ·simp at hf'; subst hf'; exact fun e=>hp4f (Option.some.inj e)
 ·rw [hlen,hbs,hown]
  by_cases hjn:j < fs.length
  ·rw [List.getElem?_append_left hjn] at hj
   obtain ⟨zs',A2,c2,k1,k2,k3⟩:=h.fn j f' hj
   have hm:=List.mem_of_getElem? hj
   exact ⟨zs',A2,c2,row_of _ _ _ _ _ k1 (key0 f'.b (hfl f' hm).2 (by have:=hfl f' hm; omega) (hpn f' hm)),(k2.keep hkeep).mono hfar,(k3.keep hkeep).mono hfar⟩
  ·rw [List.getElem?_append_right (by omega)] at hj
   have hj0:j - fs.length = 0:=by have:=(List.getElem?_eq_some_iff.1 hj).1; simp at this; omega
   rw [hj0] at hj
   simp at hj
   subst hj
   exact ⟨zs,A',c',row_of _ _ _ _ _ hkr (key f.b (by have:=hkr.lt f.b rfl; omega) (by omega) (fun e=>by have:=hvP f.b e; omega)),(hrs.keep hkeepN).mono hfarN,(hrb.keep hkeepN).mono hfarN⟩
 ·rcases List.mem_append.1 hf' with hf' | hf'
  ·exact h.rng f' hf'
  ·simp at hf'; subst hf'; exact hnp
theorem lit_reads {w:World} {b:Nat} {t:T} {A:Option Addr} {c:Nat} (h:Blk w b 25 (nd t A c).toArray):Reads w (b + 1) 4 (some ⟨b,0,none⟩) 1 (nd t A c) :=
 ⟨rfl,fun _=>⟨_,rfl,Nat.lt_succ_self _,fun j u hu=>by rw [Addr.add_lit,Nat.zero_add,h.cell]; simpa using hu⟩⟩
theorem gw_of_row {a w w':World} {row:Option Nat} (h:Below a.heap.size a w) (k:w.grownBy w' row):a.grownBy w' row :=
 ⟨k.os.trans h.os,k.tape.trans h.tape,k.output.trans h.output,Nat.le_trans h.size k.size,fun i hi hne=>(k.block i (Nat.lt_of_lt_of_le hi h.size) hne).trans (h.block i hi)⟩
theorem p1_facts {m : Par} {np a a3 n ct : Nat} {l : Int} {Wr V w3 cur w5 : World} {At : Option Addr} {ts : List T} {xs : List Value} (hr : RowG m (VarQ np) 4 2 a l V w3 (.slice At n ct) ts xs a3) (hb : Below w3.heap.size w3 cur) (hg5 : cur.grownBy w5 (Value.slice At n ct).ownBlock) (hW : Wr.grownBy w3 (some m.g)) (hV : Wr.heap.size ≤ V.heap.size) (hgl : m.g < Wr.heap.size) :
  Wr.grownBy w5 (some m.g)∧Mk m a3 (l - ((ts.map size).sum:Nat)) w5∧(∀ b5:Nat,(some b5 = (Value.slice At n ct).ownBlock∨w3.heap.size≤b5)→Reps w5 (fun x=>Wr.heap.size≤x∧x < w5.heap.size∧x≠b5) 12 ts xs)∧(∀ b t cs,Blk cur b t cs→(Value.slice At n ct).ownBlock≠some b→Blk w5 b t cs)∧(∀ b t cs,Blk w3 b t cs∧b < V.heap.size→Blk w5 b t cs):=by
 have hg:w3.grownBy w5 (Value.slice At n ct).ownBlock:=gw_of_row hb hg5
 have hlt:=hr.own.lt
 have hs:=hg.size
 refine ⟨gw_row hW hg fun b e=>by have:=hlt b e; omega,Blk.grown hr.mkr hg (fun e=>by have:=hlt m.g e.symm; omega),fun b5 h5=>?_,fun b t cs hk hne=>Blk.grown hk hg5 (fun e=>hne e.symm),fun b t cs hk=>Blk.grown hk.1 hg (fun e=>by have:=hlt b e.symm; omega)⟩
 refine ((hr.reps.keep (w':=w5) fun b hk=>hg.block b hk.2.1 (fun e=>hk.2.2 e.symm)).mono fun b hk=>⟨by omega,by omega,fun e=>?_⟩).deeper (by omega)
 rcases h5 with h5 | h5
 ·exact hk.2.2 (by rw [e]; exact h5.symm)
 ·omega
theorem own_cells4 {w : World} {base b n c q : Nat} {zs : List Value} {o0 o1 o2 o3 : Value} (h : w.ownsRow base 25 4 (.slice (some ⟨b, 0, none⟩) n c) n (zs ++ [o0, o1, o2, o3])) (hq : zs.length = q) :
  (w.cell? ⟨b,q,none⟩ = some o0∧w.cell? ⟨b,q + 1,none⟩ = some o1∧w.cell? ⟨b,q + 2,none⟩ = some o2∧w.cell? ⟨b,q + 3,none⟩ = some o3)∧(w.frozen? ⟨b,q,none⟩ = false∧w.frozen? ⟨b,q + 1,none⟩ = false∧w.frozen? ⟨b,q + 2,none⟩ = false∧w.frozen? ⟨b,q + 3,none⟩ = false):=by
 have hl:=h.1
 rw [List.length_append] at hl
 simp at hl
 have e:∀ i z,([o0,o1,o2,o3]:List Value)[i]? = some z→w.cell? ⟨b,q + i,none⟩ = some z:=fun i z hi=>by
  have hi4:i < 4:=(List.getElem?_eq_some_iff.1 hi).1
  rw [h.cellAt (q + i) (by omega),List.getElem?_append_right (by omega),show q + i - zs.length = i by omega]; exact hi
 exact ⟨⟨e 0 _ rfl,e 1 _ rfl,e 2 _ rfl,e 3 _ rfl⟩,h.frozenAt _,h.frozenAt _,h.frozenAt _,h.frozenAt _⟩
end Go.Proofs.YtkkenbalpnmfmaaDoor

namespace Go.Proofs.YtkkenbalpnmfmaaDoor
open Go.RowKit WM TR TY

structure Alike (s s':Sc):Prop where
 v:s.vars = s'.vars
 c:s.ch = s'.ch
 l:s.funs.length = s'.funs.length
 n:∀ i,(tAt s.funs i).n = (tAt s'.funs i).n
 p:∀ i,params s i = params s' i
theorem Alike.missing {s s':Sc} (h:Alike s s') (x:T):missing s x = missing s' x:=by
 unfold TY.missing; rw [h.v,h.c,h.l]
theorem Alike.misused {s s':Sc} (h:Alike s s') (x:T):misused s x = misused s' x:=by
 unfold TY.misused; rw [h.v,h.n]
theorem Alike.named {s s':Sc} (h:Alike s s') (x:T):named s x = named s' x:=by
 unfold TY.named; rw [h.v]
theorem Alike.typeOf {s s':Sc} (h:Alike s s') (x:T):typeOf s x = typeOf s' x:=by
 unfold TY.typeOf; rw [h.missing,h.misused,h.named]
theorem Alike.wants {s s':Sc} (h:Alike s s') (x:T):wants s x = wants s' x:=by
 unfold TY.wants; rw [h.named,h.p]
theorem Alike.fit1 {s s':Sc} (h:Alike s s'):fit1 s = fit1 s':=by
 funext u k; unfold TY.fit1; rw [h.typeOf]
theorem Alike.errOf {s s':Sc} (h:Alike s s') (x:T):errOf s x = errOf s' x:=by
 unfold TY.errOf TY.fitB; rw [h.missing,h.misused,h.wants,h.fit1]
theorem Alike.ok {s s':Sc} (h:Alike s s'):∀ (n:Nat) (x:T),TR.size x≤n→okW s x→okW s' x
 | 0,x,hn,_=>by have:=size_pos x; omega
 | n + 1,x,hn,hx=>by
  have h1:=(ok_iff s x).1 hx
  refine (ok_iff s' x).2 ⟨by rw [← h.errOf]; exact h1.1,fun u hu=>?_⟩
  obtain ⟨i,hi⟩:=List.mem_iff_getElem?.1 hu
  have:=size_kid hi
  exact Alike.ok h n u (by omega) (h1.2 u hu)
theorem GB.alike {s s':Sc} {t:T} (h:Alike s s') (hb:GB s t):GB s' t:=⟨hb.bl,h.ok _ t (Nat.le_refl _) hb.ok⟩
theorem vars_of (p:T) (f:FI):(scO p f.t).vars = f.tys:=by
 show (f.tys ++ [f.blk]).take ((f.tys ++ [f.blk]).length - 1) = f.tys
 rw [List.length_append]; simp
theorem kids_take (f:FI) (h:f.np≤f.tys.length):f.t.kids.take f.t.n.toNat = f.tys.take f.np:=by
 show (f.tys ++ [f.blk]).take ((f.np:Int)).toNat = _
 rw [Int.toNat_natCast,List.take_append_of_le_length h]
theorem alike_set {N N' : Int} {fs : List FI} {i : Nat} {f0 f1 f f' : FI} (hN : N = N') (hi : fs[i]? = some f0) (hn : f1.np = f0.np) (ht : f1.tys = f0.tys) (hl : f0.np ≤ f0.tys.length) (hv : f.tys = f'.tys) :
  Alike (scO ⟨27,N,0,fs.map FI.t⟩ f.t) (scO ⟨27,N',0,(fs.set i f1).map FI.t⟩ f'.t):=by
 subst hN
 have hil:i < fs.length:=(List.getElem?_eq_some_iff.1 hi).1
 have key:∀ z:Int,(tAt (fs.map FI.t) z = tAt ((fs.set i f1).map FI.t) z)∨(tAt (fs.map FI.t) z = f0.t∧tAt ((fs.set i f1).map FI.t) z = f1.t):=fun z=>by
  unfold tAt
  rw [List.getD_eq_getElem?_getD,List.getD_eq_getElem?_getD,List.getElem?_map,List.getElem?_map,List.getElem?_set]
  by_cases hz:i = z.toNat
  ·right; rw [if_pos hz,← hz,hi]; simp [hil]
  ·left; rw [if_neg hz]
 refine ⟨by rw [vars_of,vars_of,hv],rfl,by show (fs.map FI.t).length = ((fs.set i f1).map FI.t).length; simp,fun z=>?_,fun z=>?_⟩
 ·show (tAt (fs.map FI.t) z).n = (tAt ((fs.set i f1).map FI.t) z).n
  rcases key z with h | ⟨h1,h2⟩
  ·rw [h]
  ·rw [h1,h2]; show (f0.np:Int) = (f1.np:Int); rw [hn]
 ·show ((tAt (fs.map FI.t) z).kids.take (tAt (fs.map FI.t) z).n.toNat).map (·.k) = ((tAt ((fs.set i f1).map FI.t) z).kids.take (tAt ((fs.set i f1).map FI.t) z).n.toNat).map (·.k)
  rcases key z with h | ⟨h1,h2⟩
  ·rw [h]
  ·rw [h1,h2,kids_take f0 hl,kids_take f1 (by rw [hn,ht]; exact hl),hn,ht]
theorem tdiv_spec (a k:Int) (hk:0 < k):∃ t,a.tdiv k = t∧(0≤a→0≤t∧k * t≤a)∧(a < 0→t≤0∧a≤k * t):=by
 refine ⟨_,rfl,fun h=>⟨Int.tdiv_nonneg h (by omega),?_⟩,fun h=>⟨?_,?_⟩⟩
 ·have h1:=Int.mul_tdiv_add_tmod a k
  have h2:=Int.tmod_nonneg k h
  omega
 ·have e:a = -(-a):=by omega
  rw [e,Int.neg_tdiv]
  have:=Int.tdiv_nonneg (a:=-a) (b:=k) (by omega) (by omega)
  omega
 ·have e:a = -(-a):=by omega
  have h1:=Int.mul_tdiv_add_tmod (-a) k
  have h2:=Int.tmod_nonneg (a:=-a) k (by omega)
  have h3:a.tdiv k = -((-a).tdiv k):=by
   conv=>lhs; rw [e,Int.neg_tdiv]
  rw [h3,Int.mul_neg]
  omega
end Go.Proofs.YtkkenbalpnmfmaaDoor

namespace Go.Proofs.YtkkenbalpnmfmaaDoor
open Go.RowKit WM TR TY

def nilB:T:=⟨13,0,0,[]⟩
structure FIOk (f:FI):Prop where
 np:f.np≤2
 lo:f.np≤f.tys.length
 hi:f.tys.length≤f.np + 3
 q:∀ (i:Nat) (t:T),f.tys[i]? = some t→VarQ f.np i t
 ts:(f.tys.map size).sum≤20
 sz:size f.blk≤59
def pOf (N:Int) (fs:List FI):T:=⟨27,N,0,fs.map FI.t⟩
def mP (L:List Int) (A:Option Addr) (c:Nat) (N:Int) (fs:List FI) (AP:Option Addr) (cP F:Nat) (con:Bool) (g:Nat) (S:Nat→Prop) (vA:Option Addr) (vc:Nat):Par:=⟨L,A,c,pOf N fs,AP,cP,F,con,g,S,vA,vc⟩
def MadePost (con:Bool) (w:World) (e:Ending) (w':World):Prop :=
 ∃ (N:Int) (fs:List FI) (A':Option Addr) (c':Nat),e = .returned (.agg #[.int .i64 27,.int .i64 N,.int .i64 0,.slice A' fs.length c'])∧0≤N∧N≤2∧(con = true→1≤N)∧1≤fs.length∧fs.length≤3∧(∀ f ∈ fs,FIOk f∧GB (scO (pOf N fs) f.t) f.blk) ∧
  Rep w' (fun b=>w.heap.size≤b∧b < w'.heap.size) 14 (pOf N fs) (nd (pOf N fs) A' c')∧Below w.heap.size w w'

theorem drawM {L : List Int} {A : Option Addr} {c : Nat} {N : Int} {fs : List FI} {AP : Option Addr} {cP F : Nat} {con : Bool} {g : Nat} {S : Nat → Prop} {vA : Option Addr} {vc a : Nat} {l : Int} {w : World} (n : Int) (hm : Mk (mP L A c N fs AP cP F con g S vA vc) a l w) (hx : Nx (mP L A c N fs AP cP F con g S vA vc) w) (hn : 0 < n) (ha : a ≤ 999999) :
  Calls Tryd.prog 86 #[.pointer (some ⟨g,0,none⟩),.int .i64 n] w fun e w'=>e = .returned (.int .i64 (numAt L a n))∧Mk (mP L A c N fs AP cP F con g S vA vc) (a + 1) l w'∧w.grownBy w' (some g) :=
 draw0_is (mP L A c N fs AP cP F con g S vA vc) a l n w hm hx hn ha
theorem Mk.cs {L : List Int} {A : Option Addr} {c : Nat} {N : Int} {fs : List FI} {AP : Option Addr} {cP F : Nat} {con : Bool} {g : Nat} {S : Nat → Prop} {vA : Option Addr} {vc a : Nat} {l : Int} {w : World} (hm : Mk (mP L A c N fs AP cP F con g S vA vc) a l w) :
  Blk w g 83 #[.slice A L.length c,.int .i64 (a:Int),.int .i64 l,.int .i64 27,.int .i64 N,.int .i64 0,.slice AP fs.length cP,.int .i64 (F:Int),.bool con]:=by
 have h:=hm
 unfold Mk Par.cells mP pOf at h
 simpa using h
theorem Mk.of {L : List Int} {A : Option Addr} {c : Nat} {N : Int} {fs : List FI} {AP : Option Addr} {cP F : Nat} {con : Bool} {g : Nat} {S : Nat → Prop} {vA : Option Addr} {vc a : Nat} {l : Int} {w : World} (hm : Blk w g 83 #[.slice A L.length c, .int .i64 (a : Int), .int .i64 l, .int .i64 27, .int .i64 N, .int .i64 0, .slice AP fs.length cP, .int .i64 (F : Int), .bool con]) :
  Mk (mP L A c N fs AP cP F con g S vA vc) a l w:=by
 unfold Mk Par.cells mP pOf
 simpa using hm

theorem set_get {fs:List FI} {k:Nat} {f1:FI} {i:Nat} {f:FI} (h:(fs.set k f1)[i]? = some f):(i = k∧f = f1)∨(i≠k∧fs[i]? = some f):=by
 rw [List.getElem?_set] at h
 by_cases hk:k = i
 ·rw [if_pos hk] at h
  split at h
  ·exact .inl ⟨hk.symm,(Option.some.inj h).symm⟩
  ·cases h
 ·rw [if_neg hk] at h; exact .inr ⟨fun e=>hk e.symm,h⟩
theorem type_kind {t:T} (h:isPlain t = true):t.k = 0∨t.k = 1:=by
 unfold isPlain at h
 simp at h
 omega
theorem FIOk.head {f:FI} (h:FIOk f):FHd f.t:=by
 have hl:=f.len
 have h1:=h.np; have h2:=h.lo; have h3:=h.hi
 refine ⟨by show (0:Int)≤(f.np:Int); omega,by show (f.np:Int)≤2; omega,by rw [hl]; show (f.np:Int) + 1≤((f.tys.length + 1:Nat):Int); push_cast; omega,by rw [hl]; omega,fun i x hi hx=>?_⟩
 have hi2:i < f.np:=by have:(i:Int) < (f.np:Int):=hi; omega
 have hx2:(f.tys ++ [f.blk])[i]? = some x:=hx
 rw [List.getElem?_append_left (by omega)] at hx2
 exact type_kind ((h.q i x hx2).2 hi2)
theorem sok_of {N:Int} {fs:List FI} {f:FI} {n:Nat} (hN:0≤N∧N≤2) (hlen:fs.length = n) (hn:1≤n∧n≤3) (hok:∀ f ∈ fs,FIOk f) (hf:f ∈ fs):SOk (scO (pOf N fs) f.t):=by
 have hfo:=hok f hf
 have hv:(scO (pOf N fs) f.t).vars = f.tys:=vars_of _ f
 have hfl:(scO (pOf N fs) f.t).funs.length = n:=by show (fs.map FI.t).length = n; rw [List.length_map,hlen]
 refine ⟨by rw [hv]; have:=hfo.hi; have:=hfo.np; omega,fun u hu=>?_,by rw [hfl]; omega,by rw [hfl]; omega,fun u hu=>?_,hN.1,by show N≤3; omega⟩
 ·rw [hv] at hu
  obtain ⟨i,hi⟩:=List.mem_iff_getElem?.1 hu
  exact (hfo.q i u hi).1
 ·obtain ⟨f',hf',rfl⟩:=List.mem_map.1 (show u ∈ fs.map FI.t from hu)
  exact (hok f' hf').head
theorem block_call {L : List Int} {S : Nat → Prop} {A : Option Addr} {c : Nat} {con : Bool} {N : Int} {fs : List FI} {AP : Option Addr} {cP g k n a2 : Nat} {l4 : Int} {W2 Wk W : World} {f : FI} {vA : Option Addr} {vc : Nat}
  (hn2:∀ N fs AP cP F vA vc,Nx (mP L A c N fs AP cP F con g S vA vc) W2) (hgk:W2.grownBy Wk (some g)) (hnb:0≤N∧N≤2∧(con = true→1≤N)) (hp:P2 g 12 Wk AP cP fs) (hf:fs[k]? = some f) (hlen:fs.length = n) (hn:1≤n∧n≤3) (hok:∀ f ∈ fs,FIOk f)
  (hg:Wk.grownBy W (some g)) (hm:Mk (mP L A c N fs AP cP k con g S vA vc) a2 l4 W) (h4:-200≤l4) (h5:l4≤36) (ha:a2≤100000) :
  Calls Tryd.prog 93 #[.pointer (some ⟨g,0,none⟩),.int .i64 3,.int .i64 4] W fun e w'=>∃ (t:T) (A':Option Addr) (c' a':Nat),e = .returned (.agg #[.int .i64 t.k,.int .i64 t.n,.int .i64 t.m,.slice A' t.kids.length c'])∧GB (scO (pOf N fs) f.t) t∧Rep w' (fun b=>W.heap.size≤b∧b < w'.heap.size) 12 t (nd t A' c')∧Blk w' g 83 #[.slice A L.length c,.int .i64 (a':Int),.int .i64 (l4 - size t),.int .i64 27,.int .i64 N,.int .i64 0,.slice AP fs.length cP,.int .i64 (k:Int),.bool con]∧W.grownBy w' (some g)∧a'≤a2 + 400∧size t≤59:=by
 have hnx:=((hn2 N fs AP cP k vA vc).gw hgk).gw hg
 have hmem:=List.mem_of_getElem? hf
 have hpW:=hp.gw hg
 have hgW:g < W.heap.size:=hm.lt
 have hinS:In (fun b=>S b∨(g < b∧b < W.heap.size)) W.heap.size:=fun b hb=>by
  rcases hb with hb | hb
  ·exact hnx.hin b hb
  ·exact hb.2
 have hnds:Nds W (fun b=>S b∨(g < b∧b < W.heap.size)) 13 (pOf N fs).kids AP cP:=(hpW.nds (by omega)).keep (Keeps.refl _ _) fun b hb=>.inr hb
 have hu:(pOf N fs).kids[k]? = some f.t:=by show (fs.map FI.t)[k]? = some f.t; rw [List.getElem?_map,hf]; rfl
 have hfo:=hok f hmem
 obtain ⟨A2,c2,hV,hC⟩:=zvars_is (pOf N fs) f.t k 12 AP cP (fun b=>S b∨(g < b∧b < W.heap.size)) W hinS hnds hu ⟨by rw [f.len]; omega,by rw [f.len]; have:=hfo.hi; have:=hfo.np; omega⟩
 have hm':Mk (mP L A c N fs AP cP k con g (fun b=>S b∨(g < b∧b < W.heap.size)) A2 c2) a2 l4 W:=Mk.of hm.cs
 have hx:Cx (mP L A c N fs AP cP k con g (fun b=>S b∨(g < b∧b < W.heap.size)) A2 c2) (scO (pOf N fs) f.t) (11 + 1) W :=
  ⟨hnx.hL.mono fun b hb=>.inl hb,hnx.hr,hnx.hl,fun b hb=>by
   rcases hb with hb | hb
   ·exact hnx.hS b hb
   ·show b≠g; have:=hb.1; omega,hinS,hnds,hV,hC,rfl,rfl,sok_of ⟨hnb.1,hnb.2.1⟩ hlen hn hok hmem,hnb.2.2⟩
 have hB:=(zboth (mP L A c N fs AP cP k con g (fun b=>S b∨(g < b∧b < W.heap.size)) A2 c2) (scO (pOf N fs) f.t) 11 3 (by omega)).2 a2 l4 4 W hm' hx (by omega) (by omega) (by omega) (by omega) (by omega)
 refine hB.mono ?_
 rintro e w' ⟨t,A',c',a',rfl,hgb,hrep,hm8,hg8,h1,h2,h3,h6⟩
 have h6':min l4 (-13 - 3 * ((3:Nat):Int)) - 1≤l4 - (size t:Int):=h6
 have hsz:size t≤59:=by
  have e3:((3:Nat):Int) = 3:=rfl
  rw [e3] at h6'
  omega
 exact ⟨t,A',c',a',rfl,hgb,hrep,Mk.cs hm8,hg8,by omega,hsz⟩
theorem made_next {L : List Int} {S : Nat → Prop} {A : Option Addr} {c : Nat} {con : Bool} {N : Int} {fs : List FI} {AP : Option Addr} {cP g k a8 B : Nat} {l8 : Int} {Wk w8 : World} {f : FI} {vA : Option Addr} {vc : Nat} {t : T} {A8 : Option Addr} {c8 : Nat}
  (hp:P2 g 12 Wk AP cP fs) (hg8:Wk.grownBy w8 (some g)) (hle:Wk.heap.size≤B) (hf:fs[k]? = some f) (hrep:Rep w8 (fun b=>B≤b∧b < w8.heap.size) 12 t (nd t A8 c8))
  (hm8:Blk w8 g 83 #[.slice A L.length c,.int .i64 (a8:Int),.int .i64 l8,.int .i64 27,.int .i64 N,.int .i64 0,.slice AP fs.length cP,.int .i64 (k:Int),.bool con]) (hgb:GB (scO (pOf N fs) f.t) t) (hok:∀ f ∈ fs,FIOk f) (hgbs:∀ (i:Nat) (f:FI),fs[i]? = some f→i < k→GB (scO (pOf N fs) f.t) f.blk) (hsz:size t≤59) :
  Mk (mP L A c N (fs.set k ⟨f.np,f.tys,t,f.b,f.c⟩) AP cP k con g S vA vc) a8 l8 ((((w8.setCell ⟨f.b,f.tys.length * 4,none⟩ (.int .i64 t.k)).setCell ⟨f.b,f.tys.length * 4 + 1,none⟩ (.int .i64 t.n)).setCell ⟨f.b,f.tys.length * 4 + 2,none⟩ (.int .i64 t.m)).setCell ⟨f.b,f.tys.length * 4 + 3,none⟩ (.slice A8 t.kids.length c8)) ∧
  P2 g 12 ((((w8.setCell ⟨f.b,f.tys.length * 4,none⟩ (.int .i64 t.k)).setCell ⟨f.b,f.tys.length * 4 + 1,none⟩ (.int .i64 t.n)).setCell ⟨f.b,f.tys.length * 4 + 2,none⟩ (.int .i64 t.m)).setCell ⟨f.b,f.tys.length * 4 + 3,none⟩ (.slice A8 t.kids.length c8)) AP cP (fs.set k ⟨f.np,f.tys,t,f.b,f.c⟩) ∧
  w8.grownBy ((((w8.setCell ⟨f.b,f.tys.length * 4,none⟩ (.int .i64 t.k)).setCell ⟨f.b,f.tys.length * 4 + 1,none⟩ (.int .i64 t.n)).setCell ⟨f.b,f.tys.length * 4 + 2,none⟩ (.int .i64 t.m)).setCell ⟨f.b,f.tys.length * 4 + 3,none⟩ (.slice A8 t.kids.length c8)) (some f.b) ∧
  (∀ f' ∈ fs.set k ⟨f.np,f.tys,t,f.b,f.c⟩,FIOk f')∧(∀ (i:Nat) (f':FI),(fs.set k ⟨f.np,f.tys,t,f.b,f.c⟩)[i]? = some f'→i < k + 1→GB (scO (pOf N (fs.set k ⟨f.np,f.tys,t,f.b,f.c⟩)) f'.t) f'.blk):=by
 have hmem:=List.mem_of_getElem? hf
 have hlt:=hp.lt hmem
 have hgq:=(gwq w8 f.b (f.tys.length * 4) (.int .i64 t.k) (.int .i64 t.n) (.int .i64 t.m) (.slice A8 t.kids.length c8)).1
 have hfo:=hok f hmem
 obtain ⟨xs,hrow,_⟩:=hp.row
 have hfar:∀ b,B≤b∧b < w8.heap.size→Far g w8 (Value.slice AP fs.length cP).ownBlock (fs.map FI.b) b:=fun b hb=>by
  refine ⟨by omega,hb.2,fun hm=>?_,fun e=>by have:=hrow.lt b e; omega⟩
  obtain ⟨f',hf',rfl⟩:=List.mem_map.1 hm
  have:=hp.lt hf'; omega
 refine ⟨Mk.of (by rw [List.length_set]; exact hm8.gw hgq (by omega)),P2.put (hp.gw hg8) hf (hrep.mono hfar),hgq,fun f' hf'=>?_,fun i f' hi hik=>?_⟩
 ·rcases List.mem_or_eq_of_mem_set hf' with hf' | hf'
  ·exact hok f' hf'
  ·rw [hf']; exact ⟨hfo.np,hfo.lo,hfo.hi,hfo.q,hfo.ts,hsz⟩
 ·rcases set_get hi with ⟨rfl,rfl⟩ | ⟨hne,hi'⟩
  ·exact GB.alike (alike_set (f:=f) (f':=⟨f.np,f.tys,t,f.b,f.c⟩) rfl hf rfl rfl hfo.lo rfl) hgb
  ·exact GB.alike (alike_set rfl hf rfl rfl hfo.lo rfl) (hgbs i f' hi' (by omega))
end Go.Proofs.YtkkenbalpnmfmaaDoor

namespace Go.Proofs.YtkkenbalpnmfmaaDoor
open Go.RowKit WM TR TY

theorem row_mono {w:World} {B B':Nat} {e:TypeId} {sz:Nat} {v:Value} {n:Nat} {xs:List Value} (h:w.ownsRow B e sz v n xs) (hb:B'≤B):w.ownsRow B' e sz v n xs :=
 ⟨h.1,h.2.imp id fun ⟨g,cap,cur,e,hg,r⟩=>⟨g,cap,cur,e,Nat.le_trans hb hg,r⟩⟩

theorem made_push {L : List Int} {S : Nat → Prop} {A : Option Addr} {c : Nat} {con : Bool} {N : Int} {fs : List FI} {AP : Option Addr} {cP g j np a1 a3 b5 c5 p7 c7 ct : Nat} {l' : Int} {W2 Wr V w3 w5 w7 : World} {At : Option Addr} {ts : List T} {xs pxs : List Value}
  (hP:P2 g 12 Wr AP cP fs) (hj:j = fs.length) (hrow:Wr.ownsRow (g + 1) 25 4 (.slice AP j cP) j pxs) (hprop:∀ (j:Nat) (f:FI),fs[j]? = some f→(pxs.drop (j * 4)).take 4 = nd f.t (some ⟨f.b,0,none⟩) f.c) (hgr:g < Wr.heap.size)
  (hrv:RowG (mP L A c N fs AP cP 0 con g S none 0) (VarQ np) 4 2 a1 l' V w3 (.slice At ts.length ct) ts xs a3) (htl:np≤ts.length∧ts.length≤np + 3∧ts.length≤ct∧ts.length≤5) (hnp:np≤2) (hVS:Wr.heap.size≤V.heap.size)
  (hX5:Wr.grownBy w5 (some g)) (hO5:w5.ownsRow V.heap.size 25 4 (.slice (some ⟨b5,0,none⟩) (ts.length + 1) c5) (ts.length + 1) (xs ++ nd nilB none 0)) (hN5:some b5 = (Value.slice At ts.length ct).ownBlock∨w3.heap.size≤b5)
  (hRS5:∀ b5:Nat,(some b5 = (Value.slice At ts.length ct).ownBlock∨w3.heap.size≤b5)→Reps w5 (fun x=>Wr.heap.size≤x∧x < w5.heap.size∧x≠b5) 12 ts xs)
  (hO7:w7.ownsRow (g + 1) 25 4 (.slice (some ⟨p7,0,none⟩) (j + 1) c7) (j + 1) (pxs ++ nd zeroT none 0)) (hG7:w5.grownBy w7 (Value.slice AP j cP).ownBlock) (hN7:some p7 = (Value.slice AP j cP).ownBlock∨w5.heap.size≤p7)
  (hM7:Blk w7 g 83 #[.slice A L.length c,.int .i64 (a3:Int),.int .i64 (l' - ((ts.map size).sum:Nat)),.int .i64 27,.int .i64 N,.int .i64 0,.slice AP fs.length cP,.int .i64 ((0:Nat):Int),.bool con])
  (hF:∀ f ∈ fs,FIOk f∧f.blk = nilB) (hW2:W2.grownBy Wr (some g)) (hsz2:W2.heap.size = g + 1) :
  Mk (mP L A c N (fs ++ [⟨np,ts,nilB,b5,c5⟩]) (some ⟨p7,0,none⟩) c7 0 con g S none 0) a3 (l' - ((ts.map size).sum:Nat)) (((((w7.setCell ⟨p7,j * 4,none⟩ (.int .i64 26)).setCell ⟨p7,j * 4 + 1,none⟩ (.int .i64 (np:Int))).setCell ⟨p7,j * 4 + 2,none⟩ (.int .i64 0)).setCell ⟨p7,j * 4 + 3,none⟩ (.slice (some ⟨b5,0,none⟩) (ts.length + 1) c5)).setCell ⟨g,6,none⟩ (.slice (some ⟨p7,0,none⟩) (j + 1) c7)) ∧
  P2 g 12 (((((w7.setCell ⟨p7,j * 4,none⟩ (.int .i64 26)).setCell ⟨p7,j * 4 + 1,none⟩ (.int .i64 (np:Int))).setCell ⟨p7,j * 4 + 2,none⟩ (.int .i64 0)).setCell ⟨p7,j * 4 + 3,none⟩ (.slice (some ⟨b5,0,none⟩) (ts.length + 1) c5)).setCell ⟨g,6,none⟩ (.slice (some ⟨p7,0,none⟩) (j + 1) c7)) (some ⟨p7,0,none⟩) c7 (fs ++ [⟨np,ts,nilB,b5,c5⟩]) ∧
  W2.grownBy (((((w7.setCell ⟨p7,j * 4,none⟩ (.int .i64 26)).setCell ⟨p7,j * 4 + 1,none⟩ (.int .i64 (np:Int))).setCell ⟨p7,j * 4 + 2,none⟩ (.int .i64 0)).setCell ⟨p7,j * 4 + 3,none⟩ (.slice (some ⟨b5,0,none⟩) (ts.length + 1) c5)).setCell ⟨g,6,none⟩ (.slice (some ⟨p7,0,none⟩) (j + 1) c7)) (some g) ∧
  (∀ f ∈ fs ++ [⟨np,ts,nilB,b5,c5⟩],FIOk f∧f.blk = nilB):=by
 have hp7:=hO7.lt p7 rfl
 have hb5:=hO5.lt b5 rfl
 have hlen:(fs ++ [(⟨np,ts,nilB,b5,c5⟩:FI)]).length = j + 1:=by rw [List.length_append,← hj]; rfl
 have hgq:=(gwq w7 p7 (j * 4) (.int .i64 26) (.int .i64 (np:Int)) (.int .i64 0) (.slice (some ⟨b5,0,none⟩) (ts.length + 1) c5)).1
 refine ⟨?_,?_,?_,fun f hf=>?_⟩
 ·refine Mk.of ?_
  rw [hlen]
  have h:=(hM7.gw hgq (by omega)).set_ 6 (.slice (some ⟨p7,0,none⟩) (j + 1) c7)
  simpa using h
 ·exact P2.push (f:=⟨np,ts,nilB,b5,c5⟩) (zs:=xs) (A':=none) (c':=0) hP hj.symm hgr hrow hprop hX5 hO7 hG7 hN7 hnp (by show Wr.heap.size≤b5; omega) (row_mono hO5 (by omega)) (hRS5 b5 hN5) (Rep.leaf (small (by decide) (by decide)) (small (by decide) (by decide)) (small (by decide) (by decide)) 11 0) _
 ·have h1:W2.grownBy w7 (some g):=gw_row (gw_trans hW2 hX5) hG7 fun b e=>by have:=(hrow.lt b e).1; omega
  exact gw_setCell (gw_row h1 hgq fun b e=>by have:=Option.some.inj e; omega) (.inl rfl) _
 ·rcases List.mem_append.1 hf with hf | hf
  ·exact hF f hf
  ·simp at hf
   subst hf
   have hcap:=hrv.cap
   refine ⟨⟨hnp,htl.1,htl.2.1,hrv.all,?_,?_⟩,rfl⟩
   ·show (ts.map size).sum≤20
    omega
   ·show size nilB≤59
    unfold nilB; rw [size1]; omega
end Go.Proofs.YtkkenbalpnmfmaaDoor

namespace Go.Proofs.YtkkenbalpnmfmaaDoor
open Go.RowKit WM TR TY

theorem wpAny_key {P : Program} {md : Region.Mode} {ops : Array Oper} {Q : Exit → Act → World → Prop} {fuel0 : Nat} {L0 : Array Bool} {a0 : Act} {w0 : World} (fuel : Nat) (L : Array Bool) (Inv : Act → Act → World → Prop)
  (key:∀ a w,Inv a0 a w→wpAny P md ops Q fuel L a w) (cont:(∀ a w,Inv a0 a w→wpAny P md ops Q fuel L a w)→wpAny P md ops Q fuel0 L0 a0 w0):wpAny P md ops Q fuel0 L0 a0 w0:=cont key


theorem Mk.belowW {m:Par} {a:Nat} {l:Int} {w w':World} (hm:Mk m a l w) (hb:Below w.heap.size w w'):Mk m a l w':=Blk.below hm hb (Blk.lt hm)
theorem Mk.allocW {m:Par} {a:Nat} {l:Int} {w:World} (hm:Mk m a l w) (o:Obj):Mk m a l (w.alloc o):=Blk.alloc hm o
theorem Mk.c6 {L:List Int} {A:Option Addr} {c:Nat} {N:Int} {fs:List FI} {AP:Option Addr} {cP F:Nat} {con:Bool} {g:Nat} {S:Nat→Prop} {vA:Option Addr} {vc a j:Nat} {l:Int} {w:World} (hm:Mk (mP L A c N fs AP cP F con g S vA vc) a l w) (hj:j = fs.length):w.cell? ⟨g,6,none⟩ = some (.slice AP j cP):=by
 rw [hj]; simpa using (Mk.cs hm).cell 6

structure Md1 (m:Par) (np a:Nat) (l:Int) (Wr V w3:World) (ts:List T) (At:Option Addr) (ct:Nat) (xs:List Value) (a3:Nat):Prop where
 rv:RowG m (VarQ np) 4 2 a l V w3 (.slice At ts.length ct) ts xs a3
 tl:np≤ts.length∧ts.length≤np + 3∧ts.length≤ct∧ts.length≤5
 vs:Wr.heap.size≤V.heap.size
 gw:Wr.grownBy w3 (some m.g)
structure Md2 (m:Par) (np:Nat) (l:Int) (Wr V w3:World) (ts:List T) (At:Option Addr) (ct:Nat) (xs:List Value) (a3 b5 c5:Nat) (w5:World):Prop where
 gw:Wr.grownBy w5 (some m.g)
 mkr:Mk m a3 (l - ((ts.map size).sum:Nat)) w5
 own:w5.ownsRow V.heap.size 25 4 (.slice (some ⟨b5,0,none⟩) (ts.length + 1) c5) (ts.length + 1) (xs ++ nd nilB none 0)
 new:some b5 = (Value.slice At ts.length ct).ownBlock∨w3.heap.size≤b5
 rs:∀ b5:Nat,(some b5 = (Value.slice At ts.length ct).ownBlock∨w3.heap.size≤b5)→Reps w5 (fun x=>Wr.heap.size≤x∧x < w5.heap.size∧x≠b5) 12 ts xs

theorem md1_of {m:Par} {np a:Nat} {l:Int} {Wr w V w3:World} {ts:List T} {At:Option Addr} {ct:Nat} {xs:List Value} {a3:Nat} (hg:Wr.grownBy w (some m.g)) (hgV:w.grownBy V (some m.g)) (hr:RowG m (VarQ np) 4 2 a l V w3 (.slice At ts.length ct) ts xs a3) (h1:np≤ts.length) (h2:ts.length≤np + 3) (h3:ts.length≤ct) (hnp:np≤2):Md1 m np a l Wr V w3 ts At ct xs a3 :=
 ⟨hr,⟨h1,h2,h3,by omega⟩,(gw_trans hg hgV).size,gw_trans (gw_trans hg hgV) hr.grown⟩
theorem md1_old {m:Par} {np a:Nat} {l:Int} {w V w3:World} {ts:List T} {At:Option Addr} {ct:Nat} {xs:List Value} {a3 b:Nat} {t:TypeId} {cs:Array Value} (hgV:w.grownBy V (some m.g)) (hr:RowG m (VarQ np) 4 2 a l V w3 (.slice At ts.length ct) ts xs a3) (hk:Blk w b t cs) (hb:m.g < b):Blk w3 b t cs∧(Value.slice At ts.length ct).ownBlock≠some b :=
 ⟨hk.gw (gw_trans hgV hr.grown) (by omega),fun e=>by have h1:=(hr.own.lt b e).1; have h2:=hk.lt; have h3:=hgV.size; omega⟩
theorem md1_new {m:Par} {np a:Nat} {l:Int} {Wr V w3 w:World} {ts:List T} {At:Option Addr} {ct:Nat} {xs:List Value} {a3:Nat} (h:Md1 m np a l Wr V w3 ts At ct xs a3) (hb:Below w3.heap.size w3 w):(Value.slice At ts.length ct).ownBlock≠some w.heap.size :=
 fun e=>by have h1:=(h.rv.own.lt _ e).2; have h2:=hb.size; omega
theorem md1_mk {m:Par} {np a:Nat} {l:Int} {Wr V w3 w:World} {ts:List T} {At:Option Addr} {ct:Nat} {xs:List Value} {a3:Nat} (h:Md1 m np a l Wr V w3 ts At ct xs a3) (hb:Below w3.heap.size w3 w):Mk m a3 (l - ((ts.map size).sum:Nat)) w:=h.rv.mkr.belowW hb
theorem md1_own {m:Par} {np a:Nat} {l:Int} {Wr V w3 w:World} {ts:List T} {At:Option Addr} {ct:Nat} {xs:List Value} {a3:Nat} (h:Md1 m np a l Wr V w3 ts At ct xs a3) (hb:Below w3.heap.size w3 w):w.ownsRow V.heap.size 25 4 (.slice At ts.length ct) ts.length xs:=ownsRow_below h.rv.own hb
theorem md1_size {m:Par} {np a:Nat} {l:Int} {Wr V w3 w:World} {ts:List T} {At:Option Addr} {ct:Nat} {xs:List Value} {a3:Nat} (h:Md1 m np a l Wr V w3 ts At ct xs a3) (hb:Below w3.heap.size w3 w):V.heap.size≤w.heap.size:=Nat.le_trans h.rv.grown.size hb.size
theorem md2_of {m : Par} {np a : Nat} {l : Int} {Wr V w3 w w5 : World} {ts : List T} {At : Option Addr} {ct : Nat} {xs : List Value} {a3 b5 c5 : Nat} (h : Md1 m np a l Wr V w3 ts At ct xs a3) (hb : Below w3.heap.size w3 w) (hgl : m.g < Wr.heap.size)
  (hown:w5.ownsRow V.heap.size 25 4 (.slice (some ⟨b5,0,none⟩) (ts.length + 1) c5) (ts.length + 1) (xs ++ nd nilB none 0)) (hgr:w.grownBy w5 (Value.slice At ts.length ct).ownBlock) (hn:some b5 = (Value.slice At ts.length ct).ownBlock∨some b5 = some w.heap.size):Md2 m np l Wr V w3 ts At ct xs a3 b5 c5 w5:=by
 have hp1:=p1_facts h.rv hb hgr h.gw h.vs hgl
 refine ⟨hp1.1,hp1.2.1,hown,?_,hp1.2.2.1⟩
 rcases hn with hn | hn
 ·exact .inl hn
 ·right; have h2:b5 = _:=Option.some.inj hn; rw [h2]; exact hb.size
theorem md2_mk {m:Par} {np:Nat} {l:Int} {Wr V w3 w:World} {ts:List T} {At:Option Addr} {ct:Nat} {xs:List Value} {a3 b5 c5:Nat} {w5:World} (h:Md2 m np l Wr V w3 ts At ct xs a3 b5 c5 w5) (hb:Below w5.heap.size w5 w):Mk m a3 (l - ((ts.map size).sum:Nat)) w:=h.mkr.belowW hb
theorem md2_gw {m:Par} {np:Nat} {l:Int} {Wr V w3 w:World} {ts:List T} {At:Option Addr} {ct:Nat} {xs:List Value} {a3 b5 c5:Nat} {w5:World} (h:Md2 m np l Wr V w3 ts At ct xs a3 b5 c5 w5) (hb:Below w5.heap.size w5 w):Wr.grownBy w (some m.g):=gw_below h.gw hb
theorem setCell_comm (w:World) (p q:Addr) (u v:Value) (h:p.block≠q.block):(w.setCell p u).setCell q v = (w.setCell q v).setCell p u:=by
 unfold World.setCell
 congr 1
 refine Array.ext (by simp) fun i h1 h2=>?_
 simp only [Array.getElem_modify]
 by_cases hp:p.block = i <;> by_cases hq:q.block = i
 ·exact absurd (hp.trans hq.symm) h
 all_goals simp [hp,hq]
end Go.Proofs.YtkkenbalpnmfmaaDoor
