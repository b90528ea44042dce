/- Texts joined. -/
import Derived.Test.YtkkenbalpnmfmaaDoorJ07
import Derived.Test.YtkkenbalpnmfmaaDoorJ11
import Derived.Deep.RegionWith
import Derived.Deep.RegionHeld3
set_option linter.unusedVariables false
namespace Go.Proofs.YtkkenbalpnmfmaaDoor
open Go.RowKit WM TR

structure Acc (a a':Nat) (l l':Int) (s m:Nat):Prop where
 lo:a≤a'
 hi:a'≤a + 3 * s
 left:l' = l - s
 bound:(s:Int)≤m + 4 * (max l 0 - max l' 0)
theorem Acc.nil (a:Nat) (l:Int):Acc a a l l 0 0:=⟨Nat.le_refl _,by omega,by omega,by omega⟩
theorem Acc.add {a b c:Nat} {l m n:Int} {s t p q:Nat} (h:Acc a b l m s p) (k:Acc b c m n t q):Acc a c l n (s + t) (p + q):=by
 obtain ⟨h1,h2,h3,h4⟩:=h
 obtain ⟨k1,k2,k3,k4⟩:=k
 exact ⟨by omega,by omega,by omega,by omega⟩

def GExprPost (L:List Int) (A:Option Addr) (c g d a:Nat) (l:Int) (w:World) (e:Ending) (w':World):Prop :=
 ∃ t A' c' a' l', e = .returned (.agg #[.int .i64 t.k, .int .i64 t.n, .int .i64 t.m, .slice A' t.kids.length c']) ∧ isExpr t = true ∧
   Rep w' (fun b=>w.heap.size≤b∧b < w'.heap.size) (d + 1) t (nd t A' c')∧Blk w' g 60 (mkc A L.length c a' l')∧w.grownBy w' (some g)∧Acc a a' l l' (size t) 1


structure SomeR (L:List Int) (A:Option Addr) (c g d a:Nat) (l:Int) (w wr:World) (v:Value) (ts:List T) (xs:List Value) (a':Nat) (l':Int):Prop where
 mkr:Blk wr g 60 (mkc A L.length c a' l')
 grown:w.grownBy wr (some g)
 own:wr.ownsRow w.heap.size 25 4 v ts.length xs
 reps:Reps wr (fun b=>w.heap.size≤b∧b < wr.heap.size∧v.ownBlock≠some b) (d + 1) ts xs
 all:ts.all isExpr = true
 acc:Acc a a' l l' ((ts.map size).sum) ts.length
theorem SomeR.next {L : List Int} {A : Option Addr} {c g d a : Nat} {l : Int} {w wr w3 w4 : World} {v v4 : Value} {ts : List T} {xs : List Value} {a' a2 : Nat} {l' l2 : Int} {t : T} {A' : Option Addr} {c' : Nat} {o : Obj} (hg : g < w.heap.size)
  (h:SomeR L A c g d a l w wr v ts xs a' l') (he:isExpr t = true) (hr:Rep w3 (fun b=>wr.heap.size≤b∧b < w3.heap.size) (d + 1) t (nd t A' c')) (hm:Blk w3 g 60 (mkc A L.length c a2 l2)) (hg3:wr.grownBy w3 (some g)) (hacc:Acc a' a2 l' l2 (size t) 1)
  (hown4:w4.ownsRow w.heap.size 25 4 v4 (ts.length + 1) (xs ++ nd t A' c')) (hg4:(w3.alloc o).grownBy w4 v.ownBlock) (hnew:v4.ownBlock = v.ownBlock∨v4.ownBlock = some (w3.alloc o).heap.size) :
  SomeR L A c g d a l w w4 v4 (ts ++ [t]) (xs ++ nd t A' c') a2 l2:=by
 have hv:=h.own.lt
 have hs0:=h.grown.size
 have hs3:=hg3.size
 have hs4:=hg4.size
 have hsa:(w3.alloc o).heap.size = w3.heap.size + 1:=size_alloc _ _
 have keep:∀ b,b < w3.heap.size→v.ownBlock≠some b→w4.heap[b]? = w3.heap[b]?:=fun b hb hne =>
  (hg4.block b (by omega) (fun e=>hne e.symm)).trans (Below.heap_alloc w3 o b hb)
 have sort:∀ b,b < w3.heap.size→v.ownBlock≠some b→v4.ownBlock≠some b:=fun b hb hne e=>by
  rcases hnew with hn | hn
  ·exact hne (hn ▸ e)
  ·rw [hn] at e; have:=Option.some.inj e; omega
 refine ⟨?_,?_,by rw [List.length_append]; exact hown4,?_,by rw [List.all_append,h.all]; simp [he],?_⟩
 ·exact (keep g (by have:=hm.lt; omega) (fun e=>by have:=(hv g e).1; omega)).trans hm
 ·exact gw_row (gw_alloc (gw_trans h.grown hg3) o) hg4 (fun b hb=>(hv b hb).1)
 ·refine Reps.snoc ((h.reps.keep (w':=w4) (fun b hb=>?_)).mono fun b hb=>?_) ((hr.keep (w':=w4) (fun b hb=>?_)).mono fun b hb=>?_)
  ·exact (keep b (by omega) hb.2.2).trans (hg3.block b hb.2.1 (fun e=>by have:=Option.some.inj e; omega))
  ·exact ⟨hb.1,by omega,sort b (by omega) hb.2.2⟩
  ·exact keep b hb.2 (fun e=>by have:=(hv b e).2; omega)
  ·have hne:v.ownBlock≠some b:=fun e=>by have:=(hv b e).2; omega
   exact ⟨by omega,by omega,sort b hb.2 hne⟩
 ·have:=h.acc.add hacc
  simpa using this


end Go.Proofs.YtkkenbalpnmfmaaDoor
