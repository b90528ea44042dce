/- Texts joined. -/
import Derived.Test.YtkkenbalpnmfmaaDoorJ05
import Derived.Deep.RegionLaw
import Derived.LoopTactic
import Derived.Outline
set_option linter.unusedVariables false
namespace Go.Proofs.YtkkenbalpnmfmaaDoor
open Go.RowKit WM TR

theorem node_info:(Tryd.prog.info? 25).map (fun i=>(i.zero,i.size,i.bytes)) = some (some (.agg #[.int .i64 0,.int .i64 0,.int .i64 0,.slice none 0 0]),4,48):=by kernel_rfl

section
variable {a w w':World} {g:Nat}
theorem gw_refl (w:World) (g:Nat):w.grownBy w (some g):=World.grownBy.refl w _
theorem gw_trans (h:a.grownBy w (some g)) (k:w.grownBy w' (some g)):a.grownBy w' (some g) :=
 ⟨k.os.trans h.os,k.tape.trans h.tape,k.output.trans h.output,Nat.le_trans h.size k.size,fun i hi hne=>(k.block i (Nat.lt_of_lt_of_le hi h.size) hne).trans (h.block i hi hne)⟩
theorem gw_below (h:a.grownBy w (some g)) (k:Below w.heap.size w w'):a.grownBy w' (some g) :=
 ⟨k.os.trans h.os,k.tape.trans h.tape,k.output.trans h.output,Nat.le_trans h.size k.size,fun i hi hne=>(k.block i (Nat.lt_of_lt_of_le hi h.size)).trans (h.block i hi hne)⟩
theorem gw_alloc (h:a.grownBy w (some g)) (o:Obj):a.grownBy (w.alloc o) (some g):=gw_below h (below_new w o)
theorem gw_drew (h:a.grownBy w (some g)):a.grownBy w.drew (some g):=⟨h.os,h.tape,h.output,h.size,h.block⟩

theorem gw_setCell (h:a.grownBy w (some g)) {p:Addr} (hp:p.block = g∨a.heap.size≤p.block) (u:Value):a.grownBy (w.setCell p u) (some g) :=
 ⟨h.os,h.tape,h.output,by rw [World.size_setCell]; exact h.size,fun i hi hne=>(Below.heap_setCell w p u i (fun e=>by rcases hp with hp | hp; exact hne (by rw [e,hp]); omega)).trans (h.block i hi hne)⟩
theorem gw_row (h:a.grownBy w (some g)) {row:Option Nat} (k:w.grownBy w' row) (hr:∀ b,row = some b→a.heap.size≤b):a.grownBy w' (some g) :=
 ⟨k.os.trans h.os,k.tape.trans h.tape,k.output.trans h.output,Nat.le_trans h.size k.size,fun i hi hne=>(k.block i (Nat.lt_of_lt_of_le hi h.size) (fun e=>by have:=hr i e.symm; omega)).trans (h.block i hi hne)⟩
theorem Keeps.gw {S:Nat→Prop} (h:a.grownBy w (some g)) (hS:In S a.heap.size) (hg:∀ b,S b→b≠g):Keeps S a w:=fun b hb=>h.block b (hS b hb) (fun e=>hg b hb (Option.some.inj e))
theorem Blk.gw {t:TypeId} {cs:Array Value} {b:Nat} (hb:Blk a b t cs) (h:a.grownBy w (some g)) (hne:b≠g):Blk w b t cs:=(h.block b hb.lt (fun e=>hne (Option.some.inj e))).trans hb
end



structure TreeR (L:List Int) (S:Nat→Prop) (A:Option Addr) (c g d:Nat) (w:World) (gn:Nat) (K k n m:Int) (fin:List T × Nat × Int) (j:Nat) (wr:World):Prop where
 ex:∃ (ts:List T) (a:Nat) (l:Int) (v:Value) (xs:List Value),ts.length = j∧kidsLoop (mkT L d) (K.toNat - j) ts a l = fin∧a + 4 * (4 ^ d * (K.toNat - j))≤900000∧-900000 + ((4 ^ d * (K.toNat - j):Nat):Int)≤l∧l≤1000000 ∧
  Blk wr g 60 (mkc A L.length c a l)∧Blk wr gn 25 #[.int .i64 k,.int .i64 n,.int .i64 m,v]∧wr.ownsRow (gn + 1) 25 4 v ts.length xs∧Reps wr (fun b=>gn < b∧b < wr.heap.size∧v.ownBlock≠some b) d ts xs
 res:Blk wr w.heap.size 25 #[.int .i64 0,.int .i64 0,.int .i64 0,.slice none 0 0]
 grown:w.grownBy wr (some g)

theorem reads_nd (w:World) (t:T) (A:Option Addr) (c:Nat):Reads (w.alloc (.cells #[.int .i64 t.k,.int .i64 t.n,.int .i64 t.m,.slice A t.kids.length c] 25)) (w.heap.size + 1) 4 (some ⟨w.heap.size,0,none⟩) 1 (nd t A c) :=
 ⟨rfl,fun _=>⟨_,rfl,Nat.lt_succ_self _,cells_new w (nd t A c) 25⟩⟩
theorem nd_one (t:T) (A:Option Addr) (c:Nat):∀ u ∈ nd t A c,u.oneCell' = true:=by
 intro u hu
 simp only [nd,List.mem_cons,List.not_mem_nil,or_false] at hu
 rcases hu with rfl | rfl | rfl | rfl <;> rfl
theorem TreeR.next {L : List Int} {S : Nat → Prop} {A : Option Addr} {c g d : Nat} {w : World} {gn : Nat} {K k n m : Int} {fin : List T × Nat × Int} {j : Nat} {wr : World}
  {ts:List T} {a:Nat} {l:Int} {v:Value} {xs:List Value} (hg:g < w.heap.size) (hgn:w.heap.size < gn)
  (hts:ts.length = j) (hfin:kidsLoop (mkT L d) (K.toNat - j) ts a l = fin) (hab:a + 4 * (4 ^ d * (K.toNat - j))≤900000) (hlb:-900000 + ((4 ^ d * (K.toNat - j):Nat):Int)≤l) (hlu:l≤1000000)
  (hgnl:gn < wr.heap.size) (hnode:Blk wr gn 25 #[.int .i64 k,.int .i64 n,.int .i64 m,v]) (hown:wr.ownsRow (gn + 1) 25 4 v ts.length xs) (hreps:Reps wr (fun b=>gn < b∧b < wr.heap.size∧v.ownBlock≠some b) d ts xs)
  (hres:Blk wr w.heap.size 25 #[.int .i64 0,.int .i64 0,.int .i64 0,.slice none 0 0]) (hgrow:w.grownBy wr (some g)) (hjK:(j:Int) < K) (hl0:0 < l)
  {w3 w4:World} {A':Option Addr} {c':Nat} {v4:Value} (hrep:Rep w3 (fun b=>wr.heap.size≤b∧b < w3.heap.size) d (mkT L d a l).1 (nd (mkT L d a l).1 A' c')) (hg3:Blk w3 g 60 (mkc A L.length c (mkT L d a l).2.1 (mkT L d a l).2.2)) (hgw3:wr.grownBy w3 (some g))
  {o:Obj} (hown4:w4.ownsRow (gn + 1) 25 4 v4 (ts.length + 1) (xs ++ nd (mkT L d a l).1 A' c')) (hgw4:(w3.alloc o).grownBy w4 v.ownBlock) (hnew:v4.ownBlock = v.ownBlock∨v4.ownBlock = some (w3.alloc o).heap.size) :
  TreeR L S A c g d w gn K k n m fin (j + 1) (w4.setCell ⟨gn,3,none⟩ v4):=by
 have hmade:=mkT_made L d
 have hsz:=hmade.size a l
 have hat:=hmade.at_ a l
 have hleft:=hmade.left a l
 have hK1:K.toNat - j = (K.toNat - (j + 1)) + 1:=by omega
 have hpow:4 ^ d * (K.toNat - j) = 4 ^ d * (K.toNat - (j + 1)) + 4 ^ d:=by rw [hK1,Nat.mul_succ]
 have hvlt:∀ b,v.ownBlock = some b→gn + 1≤b∧b < wr.heap.size:=hown.lt
 have hv4:∀ b,v4.ownBlock = some b→gn + 1≤b∧b < w4.heap.size:=hown4.lt
 have hs3:=hgw3.size
 have hs5:(w3.alloc o).heap.size = w3.heap.size + 1:=size_alloc _ _
 have hs4:=hgw4.size
 have hsc:(w4.setCell ⟨gn,3,none⟩ v4).heap.size = w4.heap.size:=World.size_setCell _ _ _
 have keep:∀ b,b < w3.heap.size→b≠gn→v.ownBlock≠some b→(w4.setCell ⟨gn,3,none⟩ v4).heap[b]? = w3.heap[b]?:=by
  intro b hb hne hvb
  rw [Below.heap_setCell w4 ⟨gn,3,none⟩ v4 b hne,hgw4.block b (by omega) (fun e=>hvb e.symm)]
  exact Below.heap_alloc w3 o b hb
 have hvg:v.ownBlock≠some g:=fun e=>by have:=(hvlt g e).1; omega
 have hvgn:v.ownBlock≠some gn:=fun e=>by have:=(hvlt gn e).1; omega
 have hvr:v.ownBlock≠some w.heap.size:=fun e=>by have:=(hvlt _ e).1; omega
 refine ⟨⟨ts ++ [(mkT L d a l).1],(mkT L d a l).2.1,(mkT L d a l).2.2,v4,xs ++ nd (mkT L d a l).1 A' c',by simp [hts],?_,?_,?_,?_,?_,?_,?_,?_⟩,?_,?_⟩
 ·rw [← hfin,hK1,kidsLoop_next hl0]
 ·rw [hat]; omega
 ·rw [hleft]; omega
 ·rw [hleft]; omega
 ·exact (keep g hg3.lt (by omega) hvg).trans hg3
 ·have h3:Blk w3 gn 25 #[.int .i64 k,.int .i64 n,.int .i64 m,v]:=hnode.gw hgw3 (by omega)
  have h4:Blk w4 gn 25 #[.int .i64 k,.int .i64 n,.int .i64 m,v]:=(h3.alloc o).grown hgw4 (fun e=>hvgn e.symm)
  exact h4.set_ 3 v4
 ·rw [List.length_append,List.length_singleton]
  exact hown4.kept (gw_setCell (g:=gn) (gw_refl w4 gn) (.inl rfl) v4) (.inr fun e=>by have:=(hv4 gn e).1; omega)
 ·refine Reps.snoc ?_ ?_
  ·refine (hreps.keep (w':=w4.setCell ⟨gn,3,none⟩ v4) ?_).mono ?_
   ·intro b hb
    exact (keep b (by omega) (by omega) hb.2.2).trans (hgw3.block b hb.2.1 (fun e=>by have:=Option.some.inj e; omega))
   ·intro b hb
    refine ⟨hb.1,by rw [hsc]; omega,fun e=>?_⟩
    rcases hnew with h | h
    ·exact hb.2.2 (h ▸ e)
    ·rw [h] at e; have:=Option.some.inj e; omega
  ·refine Rep.mono ?_ (hrep.keep (w':=w4.setCell ⟨gn,3,none⟩ v4) ?_)
   ·intro b hb
    refine ⟨by omega,by rw [hsc]; omega,fun e=>?_⟩
    rcases hnew with h | h
    ·have:=(hvlt b (h ▸ e)).2; omega
    ·rw [h] at e; have:=Option.some.inj e; omega
   ·intro b hb
    exact keep b hb.2 (by omega) (fun e=>by have:=(hvlt b e).2; omega)
 ·have hr3:Blk w3 w.heap.size 25 #[.int .i64 0,.int .i64 0,.int .i64 0,.slice none 0 0]:=hres.gw hgw3 (by omega)
  exact (keep _ hr3.lt (by omega) hvr).trans hr3
 ·exact gw_setCell (gw_row (gw_alloc (gw_trans hgrow hgw3) o) hgw4 (fun b hb=>by have:=(hvlt b hb).1; omega)) (.inr (by show w.heap.size≤gn; omega)) _

theorem TreeR.done {L : List Int} {A : Option Addr} {c g d : Nat} {w : World} {gn : Nat} {k n m : Int} {wr W' : World} {ts : List T} {a : Nat} {l : Int} {A' : Option Addr} {c' : Nat} {xs : List Value}
  (hg:g < w.heap.size) (hgn:w.heap.size < gn) (hgb:Blk wr g 60 (mkc A L.length c a l)) (hown:wr.ownsRow (gn + 1) 25 4 (.slice A' ts.length c') ts.length xs)
  (hreps:Reps wr (fun b=>gn < b∧b < wr.heap.size∧(Value.slice A' ts.length c').ownBlock≠some b) d ts xs) (hgrow:w.grownBy wr (some g)) (hk:inRange k) (hn:inRange n) (hm:inRange m) (hc:ts.length≤c')
  (hW:wr.grownBy W' (some w.heap.size)) (hs:W'.heap.size = wr.heap.size) :
  Rep W' (fun b=>w.heap.size≤b∧b < W'.heap.size) (d + 1) ⟨k,n,m,ts⟩ (nd ⟨k,n,m,ts⟩ A' c')∧Blk W' g 60 (mkc A L.length c a l)∧w.grownBy W' (some g):=by
 refine ⟨Rep.mk hk hn hm hc (xs:=xs) ?_ ?_,hgb.gw hW (by omega),gw_row hgrow hW (fun b hb=>by have:=Option.some.inj hb; omega)⟩
 ·have h:=Rd.of_own (hown.kept hW (.inr fun e=>by have:=(hown.lt _ e).1; omega))
  exact h.mono fun b hb=>⟨by omega,hb.2⟩
 ·refine (hreps.keep (w':=W') ?_).mono ?_
  ·intro b hb
   exact hW.block b hb.2.1 (fun e=>by have:=Option.some.inj e; omega)
  ·intro b hb
   exact ⟨by omega,by omega⟩
theorem gw4 (wr:World) (r:Nat) (v0 v1 v2 v3:Value):wr.grownBy ((((wr.setCell ⟨r,0,none⟩ v0).setCell ⟨r,1,none⟩ v1).setCell ⟨r,2,none⟩ v2).setCell ⟨r,3,none⟩ v3) (some r)∧((((wr.setCell ⟨r,0,none⟩ v0).setCell ⟨r,1,none⟩ v1).setCell ⟨r,2,none⟩ v2).setCell ⟨r,3,none⟩ v3).heap.size = wr.heap.size :=
 ⟨gw_setCell (gw_setCell (gw_setCell (gw_setCell (gw_refl wr r) (.inl rfl) _) (.inl rfl) _) (.inl rfl) _) (.inl rfl) _,by simp [World.size_setCell]⟩



end Go.Proofs.YtkkenbalpnmfmaaDoor
