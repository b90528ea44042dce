/- Texts joined. -/
import Derived.Test.YtkkenbalpnmfmaaDoorJ27
import Derived.Test.YtkkenbalpnmfmaaDoorJ02
import Derived.Test.YtkkenbalpnmfmaaDoorJ24
set_option linter.unusedVariables false
namespace Go.Proofs.YtkkenbalpnmfmaaDoor
open Go.RowKit WM TR

structure BlkR (L:List Int) (A:Option Addr) (c g r gx e a:Nat) (l:Int) (w wr:World) (v:Value) (ts:List T) (xs:List Value) (a':Nat) (l':Int):Prop where
 mkr:Blk wr g 60 (mkc A L.length c a' l')
 grown:w.grownBy wr (some g)
 node:Blk wr gx 25 #[.int .i64 13,.int .i64 0,.int .i64 0,v]
 own:wr.ownsRow (gx + 1) 25 4 v ts.length xs
 reps:Reps wr (fun b=>gx < b∧b < wr.heap.size∧v.ownBlock≠some b) (4 + e) ts xs
 res:Blk wr r 25 #[.int .i64 0,.int .i64 0,.int .i64 0,.slice none 0 0]
 all:ts.all isStmt = true
 acc:Acc2 (a + 1) a' (l - 1) l' ((ts.map size).sum) 0
theorem BlkR.next {L : List Int} {A : Option Addr} {c g r gx e a : Nat} {l : Int} {w wr w3 w4 : World} {v v4 : Value} {ts : List T} {xs : List Value} {a' a2 : Nat} {l' l2 : Int} {t : T} {A' : Option Addr} {c' : Nat} {o : Obj} (hgr : g < r) (hrx : r < gx) (hrw : r = w.heap.size)
  (h:BlkR L A c g r gx e a l w wr v ts xs a' l') (he:isStmt t = true) (hr:Rep w3 (fun b=>wr.heap.size≤b∧b < w3.heap.size) (4 + e) t (nd t A' c')) (hm:Blk w3 g 60 (mkc A L.length c a2 l2)) (hg3:wr.grownBy w3 (some g)) (hacc:Acc2 a' a2 l' l2 (size t) 0)
  (hown4:w4.ownsRow (gx + 1) 25 4 v4 (ts.length + 1) (xs ++ nd t A' c')) (hg4:(w3.alloc o).grownBy w4 v.ownBlock) (hnew:v4.ownBlock = v.ownBlock∨v4.ownBlock = some (w3.alloc o).heap.size) :
  BlkR L A c g r gx e a l w (w4.setCell ⟨gx,3,none⟩ v4) v4 (ts ++ [t]) (xs ++ nd t A' c') a2 l2:=by
 have hv:=h.own.lt
 have hv4:=hown4.lt
 have hs0:=h.grown.size
 have hs3:=hg3.size
 have hs4:=hg4.size
 have hgx:=h.node.lt
 have hsa:(w3.alloc o).heap.size = w3.heap.size + 1:=size_alloc _ _
 have hss:(w4.setCell ⟨gx,3,none⟩ v4).heap.size = w4.heap.size:=World.size_setCell _ _ _
 have keep4:∀ b,b < w3.heap.size→v.ownBlock≠some b→w4.heap[b]? = w3.heap[b]?:=fun b hb hne =>
  (hg4.block b (by omega) (fun e=>hne e.symm)).trans (Below.heap_alloc w3 o b hb)
 have keep:∀ b,b < w3.heap.size→b≠gx→v.ownBlock≠some b→(w4.setCell ⟨gx,3,none⟩ v4).heap[b]? = w3.heap[b]?:=fun b hb hx hne =>
  (Below.heap_setCell w4 ⟨gx,3,none⟩ v4 b hx).trans (keep4 b hb hne)
 have sort:∀ b,b < w3.heap.size→v.ownBlock≠some b→v4.ownBlock≠some b:=fun b hb hne e=>by
  rcases hnew with hn | hn
  ·exact hne (hn ▸ e)
  ·rw [hn] at e; have:=Option.some.inj e; omega
 refine ⟨?_,?_,?_,?_,?_,?_,by rw [List.all_append,h.all]; simp [he],?_⟩
 ·exact (keep g (by omega) (by omega) (fun e=>by have:=(hv g e).1; omega)).trans hm
 ·exact gw_setCell (gw_row (gw_alloc (gw_trans h.grown hg3) o) hg4 (fun b hb=>by have:=(hv b hb).1; omega)) (.inr (by show w.heap.size≤gx; omega)) _
 ·have h1:Blk w3 gx 25 #[.int .i64 13,.int .i64 0,.int .i64 0,v]:=h.node.gw hg3 (by omega)
  have h2:=((h1.alloc o).grown hg4 (fun e=>by have:=(hv gx e.symm).1; omega)).set_ 3 v4
  simpa using h2
 ·rw [List.length_append]
  exact hown4.kept (gw_setCell (g:=gx) (gw_refl w4 gx) (.inl rfl) v4) (.inr fun e=>by have:=(hv4 gx e).1; omega)
 ·refine Reps.snoc ((h.reps.keep (w':=w4.setCell ⟨gx,3,none⟩ v4) (fun b hb=>?_)).mono fun b hb=>?_) ((hr.keep (w':=w4.setCell ⟨gx,3,none⟩ v4) (fun b hb=>?_)).mono fun b hb=>?_)
  ·exact (keep b (by omega) (by omega) hb.2.2).trans (hg3.block b hb.2.1 (fun e=>by have:=Option.some.inj e; omega))
  ·exact ⟨hb.1,by omega,sort b (by omega) hb.2.2⟩
  ·exact keep b hb.2 (by omega) (fun e=>by have:=(hv b e).2; omega)
  ·have hne:v.ownBlock≠some b:=fun e=>by have:=(hv b e).2; omega
   exact ⟨by omega,by omega,sort b hb.2 hne⟩
 ·have h1:Blk w3 r 25 #[.int .i64 0,.int .i64 0,.int .i64 0,.slice none 0 0]:=h.res.gw hg3 (by omega)
  exact (keep r (by omega) (by omega) (fun e=>by have:=(hv r e).1; omega)).trans h1
 ·have:=h.acc.add hacc
  simpa using this



end Go.Proofs.YtkkenbalpnmfmaaDoor

namespace Go.Proofs.YtkkenbalpnmfmaaDoor.TR

end Go.Proofs.YtkkenbalpnmfmaaDoor.TR

namespace Go.Proofs.YtkkenbalpnmfmaaDoor
open Go.RowKit WM TR

structure NodeR (L:List Int) (A:Option Addr) (c g gx D:Nat) (k n m:Int) (w wr:World) (v:Value) (ts:List T) (xs:List Value) (a':Nat) (l':Int):Prop where
 mkr:Blk wr g 60 (mkc A L.length c a' l')
 grown:w.grownBy wr (some g)
 node:Blk wr gx 25 #[.int .i64 k,.int .i64 n,.int .i64 m,v]
 own:wr.ownsRow (gx + 1) 25 4 v ts.length xs
 reps:Reps wr (fun b=>gx < b∧b < wr.heap.size∧v.ownBlock≠some b) D ts xs
 lo:w.heap.size≤gx
 gl:g < w.heap.size
section
variable {L:List Int} {A:Option Addr} {c g gx D:Nat} {k n m:Int} {w wr w3 w4:World} {v v4:Value} {ts:List T} {xs:List Value} {a' a2:Nat} {l' l2:Int} {t:T} {A':Option Addr} {c':Nat} {o:Obj}
theorem NodeR.next (h : NodeR L A c g gx D k n m w wr v ts xs a' l') (hr : Rep w3 (fun b => wr.heap.size ≤ b ∧ b < w3.heap.size) D t (nd t A' c')) (hm : Blk w3 g 60 (mkc A L.length c a2 l2)) (hg3 : wr.grownBy w3 (some g))
  (hown4:w4.ownsRow (gx + 1) 25 4 v4 (ts.length + 1) (xs ++ nd t A' c')) (hg4:(w3.alloc o).grownBy w4 v.ownBlock) (hnew:v4.ownBlock = v.ownBlock∨v4.ownBlock = some (w3.alloc o).heap.size) :
  NodeR L A c g gx D k n m w (w4.setCell ⟨gx,3,none⟩ v4) v4 (ts ++ [t]) (xs ++ nd t A' c') a2 l2:=by
 have hv:=h.own.lt
 have hv4:=hown4.lt
 have hlo:=h.lo
 have hmk:=h.gl
 have hs0:=h.grown.size
 have hs3:=hg3.size
 have hs4:=hg4.size
 have hgx:=h.node.lt
 have hsa:(w3.alloc o).heap.size = w3.heap.size + 1:=size_alloc _ _
 have hss:(w4.setCell ⟨gx,3,none⟩ v4).heap.size = w4.heap.size:=World.size_setCell _ _ _
 have keep4:∀ b,b < w3.heap.size→v.ownBlock≠some b→w4.heap[b]? = w3.heap[b]?:=fun b hb hne =>
  (hg4.block b (by omega) (fun e=>hne e.symm)).trans (Below.heap_alloc w3 o b hb)
 have keep:∀ b,b < w3.heap.size→b≠gx→v.ownBlock≠some b→(w4.setCell ⟨gx,3,none⟩ v4).heap[b]? = w3.heap[b]?:=fun b hb hx hne =>
  (Below.heap_setCell w4 ⟨gx,3,none⟩ v4 b hx).trans (keep4 b hb hne)
 have sort:∀ b,b < w3.heap.size→v.ownBlock≠some b→v4.ownBlock≠some b:=fun b hb hne e=>by
  rcases hnew with hn | hn
  ·exact hne (hn ▸ e)
  ·rw [hn] at e; have:=Option.some.inj e; omega
 refine ⟨?_,?_,?_,?_,?_,hlo,hmk⟩
 ·exact (keep g (by omega) (by omega) (fun e=>by have:=(hv g e).1; omega)).trans hm
 ·exact gw_setCell (gw_row (gw_alloc (gw_trans h.grown hg3) o) hg4 (fun b hb=>by have:=(hv b hb).1; omega)) (.inr hlo) _
 ·have h1:Blk w3 gx 25 #[.int .i64 k,.int .i64 n,.int .i64 m,v]:=h.node.gw hg3 (by omega)
  have h2:=((h1.alloc o).grown hg4 (fun e=>by have:=(hv gx e.symm).1; omega)).set_ 3 v4
  simpa using h2
 ·rw [List.length_append]
  exact hown4.kept (gw_setCell (g:=gx) (gw_refl w4 gx) (.inl rfl) v4) (.inr fun e=>by have:=(hv4 gx e).1; omega)
 ·refine Reps.snoc ((h.reps.keep (w':=w4.setCell ⟨gx,3,none⟩ v4) (fun b hb=>?_)).mono fun b hb=>?_) ((hr.keep (w':=w4.setCell ⟨gx,3,none⟩ v4) (fun b hb=>?_)).mono fun b hb=>?_)
  ·exact (keep b (by omega) (by omega) hb.2.2).trans (hg3.block b hb.2.1 (fun e=>by have:=Option.some.inj e; omega))
  ·exact ⟨hb.1,by omega,sort b (by omega) hb.2.2⟩
  ·exact keep b hb.2 (by omega) (fun e=>by have:=(hv b e).2; omega)
  ·have hne:v.ownBlock≠some b:=fun e=>by have:=(hv b e).2; omega
   exact ⟨by omega,by omega,sort b hb.2 hne⟩
theorem NodeR.deeper {D':Nat} (hD:D≤D') (h:NodeR L A c g gx D k n m w wr v ts xs a' l'):NodeR L A c g gx D' k n m w wr v ts xs a' l' :=
 ⟨h.mkr,h.grown,h.node,h.own,h.reps.deeper hD,h.lo,h.gl⟩
theorem NodeR.rep {A' : Option Addr} {c' : Nat} (h : NodeR L A c g gx D k n m w wr (.slice A' ts.length c') ts xs a' l') (hc : ts.length ≤ c') (hk : inRange k) (hn : inRange n) (hm : inRange m) :
  Rep wr (fun b=>gx < b∧b < wr.heap.size) (D + 1) ⟨k,n,m,ts⟩ (nd ⟨k,n,m,ts⟩ A' c') :=
 Rep.mk hk hn hm hc ((Rd.of_own h.own).mono fun b hb=>⟨by have:=hb.1; omega,hb.2⟩) (h.reps.mono fun b hb=>⟨hb.1,hb.2.1⟩)
theorem NodeR.gw (h:NodeR L A c g gx D k n m w wr v ts xs a' l') (hg:wr.grownBy w3 (some g)) (hm:Blk w3 g 60 (mkc A L.length c a2 l2)):NodeR L A c g gx D k n m w w3 v ts xs a2 l2:=by
 have hlo:=h.lo
 have hmk:=h.gl
 have hv:=h.own.lt
 have hs:=hg.size
 refine ⟨hm,gw_trans h.grown hg,h.node.gw hg (by omega),h.own.kept hg (.inr fun e=>by have:=(hv _ e).1; omega),(h.reps.keep (w':=w3) (fun b hb=>hg.block b hb.2.1 (fun e=>by have:=Option.some.inj e; omega))).mono fun b hb=>⟨hb.1,by omega,hb.2.2⟩,hlo,hmk⟩
theorem NodeR.start {a : Nat} {l : Int} (hm : Blk wr g 60 (mkc A L.length c a l)) (hg : w.grownBy wr (some g)) (hn : Blk wr gx 25 #[.int .i64 k, .int .i64 n, .int .i64 m, .slice none 0 0]) (hlo : w.heap.size ≤ gx) (hmk : g < w.heap.size) :
  NodeR L A c g gx D k n m w wr (.slice none 0 0) [] [] a l :=
 ⟨hm,hg,hn,World.ownsRow_nil _ _ _ _,Reps.nil,hlo,hmk⟩
end
end Go.Proofs.YtkkenbalpnmfmaaDoor
namespace Go.Proofs.YtkkenbalpnmfmaaDoor.TR
def Types (N:Int) (ts:List T):Prop:=(∀ (i:Nat) (u:T),ts[i]? = some u→isType u = true∧((i:Int) < N→isPlain u = true))∧(ts.map size).sum≤3 * ts.length
theorem Types.nil (N:Int):Types N []:=⟨fun i u h=>by simp at h,by simp⟩
theorem Types.snoc {N:Int} {ts:List T} {t:T} (h:Types N ts) (h1:isType t = true) (h2:(ts.length:Int) < N→isPlain t = true) (h3:size t≤3):Types N (ts ++ [t]):=by
 refine ⟨fun i u hu=>?_,?_⟩
 ·by_cases hi:i < ts.length
  ·rw [List.getElem?_append_left hi] at hu; exact h.1 i u hu
  ·rw [List.getElem?_append_right (by omega)] at hu
   have hi2:i - ts.length = 0:=by
    have:=(List.getElem?_eq_some_iff.1 hu).1
    simp at this; omega
   rw [hi2] at hu
   simp only [List.getElem?_cons_zero,Option.some.injEq] at hu
   subst hu
   exact ⟨h1, fun hN => h2 (by have : i = ts.length := by omega
                               rw [← this]; exact hN)⟩
 ·have:=h.2
  simp only [List.map_append,List.map_cons,List.map_nil,List.sum_append,List.sum_cons,List.sum_nil,List.length_append,List.length_cons,List.length_nil]
  omega

theorem plain_type {t:T} (h:isPlain t = true):isType t = true:=by
 have h':=h
 unfold isPlain at h'
 simp only [Bool.and_eq_true,Bool.or_eq_true,beq_iff_eq] at h'
 unfold isType
 rw [if_neg (by simp; omega),if_neg (by simp; omega)]
 exact h




structure Funs (ts:List T) (a':Nat) (l':Int):Prop where
 all:∀ (i:Nat) (u:T),ts[i]? = some u→isFun u = true
 sum:(((ts.map size).sum:Nat):Int)≤14 * ts.length + 4 * (45 - max l' 0)
 hi:a'≤2 + 30 * ts.length + 3 * (ts.map size).sum
 le:l'≤45
 lo:45 - 2 * (((ts.map size).sum:Nat):Int)≤l'
theorem Funs.nil:Funs [] 2 45:=⟨fun i u h=>by simp at h,by simp; omega,by simp,by omega,by simp⟩
theorem Funs.snoc {ts ys : List T} {N : Int} {b : T} {a a1 a2 : Nat} {l l2 : Int} (h : Funs ts a l) (hy : Types N ys) (hN : 0 ≤ N) (hN2 : N ≤ 3) (hNy : N ≤ ys.length) (hl : ys.length ≤ 4) (hb : isBlock b = true) (ha : a1 ≤ a + 2 + 5 * ys.length)
  (hacc:Acc2 a1 a2 l l2 (size b) 1):Funs (ts ++ [⟨26,N,0,ys ++ [b]⟩]) a2 l2:=by
 obtain ⟨h1,h2,h3,h4,h5⟩:=h
 obtain ⟨k1,k2,k3,k4,k5⟩:=hacc
 have hsz:size ⟨26,N,0,ys ++ [b]⟩ = 1 + (ys.map size).sum + size b:=by
  rw [size_eq]; simp; omega
 have hy2:=hy.2
 refine ⟨fun i u hu=>?_,?_,?_,by omega,?_⟩
 ·by_cases hi:i < ts.length
  ·rw [List.getElem?_append_left hi] at hu; exact h1 i u hu
  ·rw [List.getElem?_append_right (by omega)] at hu
   have hi2:i - ts.length = 0:=by
    have:=(List.getElem?_eq_some_iff.1 hu).1
    simp at this; omega
   rw [hi2] at hu
   simp only [List.getElem?_cons_zero,Option.some.injEq] at hu
   subst hu
   refine isFun_true ⟨rfl,?_,?_,?_,?_⟩
   ·simp [btw]; omega
   ·simp; omega
   ·intro j u hj hu
    simp only [List.length_append,List.length_cons,List.length_nil] at hj
    simp only at hu
    rw [List.getElem?_append_left (by omega)] at hu
    exact hy.1 j u hu
   ·intro u hu
    simp only [List.length_append,List.length_cons,List.length_nil] at hu
    rw [List.getElem?_append_right (by omega)] at hu
    simp at hu
    rw [← hu]; exact hb
 all_goals
  simp only [List.map_append,List.map_cons,List.map_nil,List.sum_append,List.sum_cons,List.sum_nil,List.length_append,List.length_cons,List.length_nil,hsz]
  omega
theorem Funs.prog {ts:List T} {a:Nat} {l n:Int} (h:Funs ts a l) (h0:0≤n) (h3:n≤3) (hl:1≤ts.length) (hl3:ts.length≤3) (hd:depth ⟨27,n,0,ts⟩≤16):IsProg ⟨27,n,0,ts⟩∧size ⟨27,n,0,ts⟩≤256:=by
 have hs:size ⟨27,n,0,ts⟩≤256:=by
  have:=h.sum
  rw [size_eq]
  simp only
  omega
 refine ⟨⟨rfl,?_,hs,hd,h.all⟩,hs⟩
 simp [btw]; omega
end Go.Proofs.YtkkenbalpnmfmaaDoor.TR
