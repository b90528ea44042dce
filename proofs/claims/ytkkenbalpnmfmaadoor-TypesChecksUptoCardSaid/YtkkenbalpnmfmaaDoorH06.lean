/- Texts joined. -/
import Derived.Test.YtkkenbalpnmfmaaDoorH05
import Derived.Deep.RegionLaw
import Derived.LoopTactic
import Derived.Outline
set_option linter.unusedVariables false
namespace Go.Proofs.YtkkenbalpnmfmaaDoor
open Go.RowKit WM TR

theorem node_info:(Tryd.prog.info? 25).map (fun i=>(i.zero,i.size,i.bytes)) = some (some (.agg #[.int .i64 0,.int .i64 0,.int .i64 0,.slice none 0 0]),4,48):=by kernel_rfl

section
variable {a w w':World} {g:Nat}
theorem gw_refl (w:World) (g:Nat):w.grownBy w (some g):=World.grownBy.refl w _
theorem gw_trans (h:a.grownBy w (some g)) (k:w.grownBy w' (some g)):a.grownBy w' (some g) :=
 ⟨k.os.trans h.os,k.tape.trans h.tape,k.output.trans h.output,Nat.le_trans h.size k.size,fun i hi hne=>(k.block i (Nat.lt_of_lt_of_le hi h.size) hne).trans (h.block i hi hne)⟩
theorem gw_below (h:a.grownBy w (some g)) (k:Below w.heap.size w w'):a.grownBy w' (some g) :=
 ⟨k.os.trans h.os,k.tape.trans h.tape,k.output.trans h.output,Nat.le_trans h.size k.size,fun i hi hne=>(k.block i (Nat.lt_of_lt_of_le hi h.size)).trans (h.block i hi hne)⟩
theorem gw_alloc (h:a.grownBy w (some g)) (o:Obj):a.grownBy (w.alloc o) (some g):=gw_below h (below_new w o)
theorem gw_drew (h:a.grownBy w (some g)):a.grownBy w.drew (some g):=⟨h.os,h.tape,h.output,h.size,h.block⟩

theorem gw_setCell (h:a.grownBy w (some g)) {p:Addr} (hp:p.block = g∨a.heap.size≤p.block) (u:Value):a.grownBy (w.setCell p u) (some g) :=
 ⟨h.os,h.tape,h.output,by rw [World.size_setCell]; exact h.size,fun i hi hne=>(Below.heap_setCell w p u i (fun e=>by rcases hp with hp | hp; exact hne (by rw [e,hp]); omega)).trans (h.block i hi hne)⟩
theorem gw_row (h:a.grownBy w (some g)) {row:Option Nat} (k:w.grownBy w' row) (hr:∀ b,row = some b→a.heap.size≤b):a.grownBy w' (some g) :=
 ⟨k.os.trans h.os,k.tape.trans h.tape,k.output.trans h.output,Nat.le_trans h.size k.size,fun i hi hne=>(k.block i (Nat.lt_of_lt_of_le hi h.size) (fun e=>by have:=hr i e.symm; omega)).trans (h.block i hi hne)⟩
theorem Keeps.gw {S:Nat→Prop} (h:a.grownBy w (some g)) (hS:In S a.heap.size) (hg:∀ b,S b→b≠g):Keeps S a w:=fun b hb=>h.block b (hS b hb) (fun e=>hg b hb (Option.some.inj e))
theorem Blk.gw {t:TypeId} {cs:Array Value} {b:Nat} (hb:Blk a b t cs) (h:a.grownBy w (some g)) (hne:b≠g):Blk w b t cs:=(h.block b hb.lt (fun e=>hne (Option.some.inj e))).trans hb
end

def TreePost (L:List Int) (A:Option Addr) (c g d a:Nat) (left:Int) (w:World) (e:Ending) (w':World):Prop :=
 ∃ t A' c', (mkT L (d + 1) a left).1 = t ∧ e = .returned (.agg #[.int .i64 t.k, .int .i64 t.n, .int .i64 t.m, .slice A' t.kids.length c']) ∧
   Rep w' (fun b=>w.heap.size≤b∧b < w'.heap.size) (d + 1) t (nd t A' c')∧Blk w' g 60 (mkc A L.length c (mkT L (d + 1) a left).2.1 (mkT L (d + 1) a left).2.2)∧w.grownBy w' (some g)
def TreeC (L:List Int) (S:Nat→Prop) (A:Option Addr) (c g d:Nat):Prop :=
 ∀ (a:Nat) (left:Int) (w:World),Blk w g 60 (mkc A L.length c a left)→In S w.heap.size→Rd w S 1 A L.length (vi L)→a + 4 * 4 ^ (d + 1)≤900000→-900000 + ((4 ^ (d + 1):Nat):Int)≤left→left≤1000000 →
  ∀ D:Int,D = (d:Int) + 1→Calls Tryd.prog 44 #[.pointer (some ⟨g,0,none⟩),.int .i64 D] w (TreePost L A c g d a left w)

structure TreeR (L:List Int) (S:Nat→Prop) (A:Option Addr) (c g d:Nat) (w:World) (gn:Nat) (K k n m:Int) (fin:List T × Nat × Int) (j:Nat) (wr:World):Prop where
 ex:∃ (ts:List T) (a:Nat) (l:Int) (v:Value) (xs:List Value),ts.length = j∧kidsLoop (mkT L d) (K.toNat - j) ts a l = fin∧a + 4 * (4 ^ d * (K.toNat - j))≤900000∧-900000 + ((4 ^ d * (K.toNat - j):Nat):Int)≤l∧l≤1000000 ∧
  Blk wr g 60 (mkc A L.length c a l)∧Blk wr gn 25 #[.int .i64 k,.int .i64 n,.int .i64 m,v]∧wr.ownsRow (gn + 1) 25 4 v ts.length xs∧Reps wr (fun b=>gn < b∧b < wr.heap.size∧v.ownBlock≠some b) d ts xs
 res:Blk wr w.heap.size 25 #[.int .i64 0,.int .i64 0,.int .i64 0,.slice none 0 0]
 grown:w.grownBy wr (some g)

theorem reads_nd (w:World) (t:T) (A:Option Addr) (c:Nat):Reads (w.alloc (.cells #[.int .i64 t.k,.int .i64 t.n,.int .i64 t.m,.slice A t.kids.length c] 25)) (w.heap.size + 1) 4 (some ⟨w.heap.size,0,none⟩) 1 (nd t A c) :=
 ⟨rfl,fun _=>⟨_,rfl,Nat.lt_succ_self _,cells_new w (nd t A c) 25⟩⟩
theorem nd_one (t:T) (A:Option Addr) (c:Nat):∀ u ∈ nd t A c,u.oneCell' = true:=by
 intro u hu
 simp only [nd,List.mem_cons,List.not_mem_nil,or_false] at hu
 rcases hu with rfl | rfl | rfl | rfl <;> rfl
theorem TreeR.next {L : List Int} {S : Nat → Prop} {A : Option Addr} {c g d : Nat} {w : World} {gn : Nat} {K k n m : Int} {fin : List T × Nat × Int} {j : Nat} {wr : World}
  {ts:List T} {a:Nat} {l:Int} {v:Value} {xs:List Value} (hg:g < w.heap.size) (hgn:w.heap.size < gn)
  (hts:ts.length = j) (hfin:kidsLoop (mkT L d) (K.toNat - j) ts a l = fin) (hab:a + 4 * (4 ^ d * (K.toNat - j))≤900000) (hlb:-900000 + ((4 ^ d * (K.toNat - j):Nat):Int)≤l) (hlu:l≤1000000)
  (hgnl:gn < wr.heap.size) (hnode:Blk wr gn 25 #[.int .i64 k,.int .i64 n,.int .i64 m,v]) (hown:wr.ownsRow (gn + 1) 25 4 v ts.length xs) (hreps:Reps wr (fun b=>gn < b∧b < wr.heap.size∧v.ownBlock≠some b) d ts xs)
  (hres:Blk wr w.heap.size 25 #[.int .i64 0,.int .i64 0,.int .i64 0,.slice none 0 0]) (hgrow:w.grownBy wr (some g)) (hjK:(j:Int) < K) (hl0:0 < l)
  {w3 w4:World} {A':Option Addr} {c':Nat} {v4:Value} (hrep:Rep w3 (fun b=>wr.heap.size≤b∧b < w3.heap.size) d (mkT L d a l).1 (nd (mkT L d a l).1 A' c')) (hg3:Blk w3 g 60 (mkc A L.length c (mkT L d a l).2.1 (mkT L d a l).2.2)) (hgw3:wr.grownBy w3 (some g))
  {o:Obj} (hown4:w4.ownsRow (gn + 1) 25 4 v4 (ts.length + 1) (xs ++ nd (mkT L d a l).1 A' c')) (hgw4:(w3.alloc o).grownBy w4 v.ownBlock) (hnew:v4.ownBlock = v.ownBlock∨v4.ownBlock = some (w3.alloc o).heap.size) :
  TreeR L S A c g d w gn K k n m fin (j + 1) (w4.setCell ⟨gn,3,none⟩ v4):=by
 have hmade:=mkT_made L d
 have hsz:=hmade.size a l
 have hat:=hmade.at_ a l
 have hleft:=hmade.left a l
 have hK1:K.toNat - j = (K.toNat - (j + 1)) + 1:=by omega
 have hpow:4 ^ d * (K.toNat - j) = 4 ^ d * (K.toNat - (j + 1)) + 4 ^ d:=by rw [hK1,Nat.mul_succ]
 have hvlt:∀ b,v.ownBlock = some b→gn + 1≤b∧b < wr.heap.size:=hown.lt
 have hv4:∀ b,v4.ownBlock = some b→gn + 1≤b∧b < w4.heap.size:=hown4.lt
 have hs3:=hgw3.size
 have hs5:(w3.alloc o).heap.size = w3.heap.size + 1:=size_alloc _ _
 have hs4:=hgw4.size
 have hsc:(w4.setCell ⟨gn,3,none⟩ v4).heap.size = w4.heap.size:=World.size_setCell _ _ _
 have keep:∀ b,b < w3.heap.size→b≠gn→v.ownBlock≠some b→(w4.setCell ⟨gn,3,none⟩ v4).heap[b]? = w3.heap[b]?:=by
  intro b hb hne hvb
  rw [Below.heap_setCell w4 ⟨gn,3,none⟩ v4 b hne,hgw4.block b (by omega) (fun e=>hvb e.symm)]
  exact Below.heap_alloc w3 o b hb
 have hvg:v.ownBlock≠some g:=fun e=>by have:=(hvlt g e).1; omega
 have hvgn:v.ownBlock≠some gn:=fun e=>by have:=(hvlt gn e).1; omega
 have hvr:v.ownBlock≠some w.heap.size:=fun e=>by have:=(hvlt _ e).1; omega
 refine ⟨⟨ts ++ [(mkT L d a l).1],(mkT L d a l).2.1,(mkT L d a l).2.2,v4,xs ++ nd (mkT L d a l).1 A' c',by simp [hts],?_,?_,?_,?_,?_,?_,?_,?_⟩,?_,?_⟩
 ·rw [← hfin,hK1,kidsLoop_next hl0]
 ·rw [hat]; omega
 ·rw [hleft]; omega
 ·rw [hleft]; omega
 ·exact (keep g hg3.lt (by omega) hvg).trans hg3
 ·have h3:Blk w3 gn 25 #[.int .i64 k,.int .i64 n,.int .i64 m,v]:=hnode.gw hgw3 (by omega)
  have h4:Blk w4 gn 25 #[.int .i64 k,.int .i64 n,.int .i64 m,v]:=(h3.alloc o).grown hgw4 (fun e=>hvgn e.symm)
  exact h4.set_ 3 v4
 ·rw [List.length_append,List.length_singleton]
  exact hown4.kept (gw_setCell (g:=gn) (gw_refl w4 gn) (.inl rfl) v4) (.inr fun e=>by have:=(hv4 gn e).1; omega)
 ·refine Reps.snoc ?_ ?_
  ·refine (hreps.keep (w':=w4.setCell ⟨gn,3,none⟩ v4) ?_).mono ?_
   ·intro b hb
    exact (keep b (by omega) (by omega) hb.2.2).trans (hgw3.block b hb.2.1 (fun e=>by have:=Option.some.inj e; omega))
   ·intro b hb
    refine ⟨hb.1,by rw [hsc]; omega,fun e=>?_⟩
    rcases hnew with h | h
    ·exact hb.2.2 (h ▸ e)
    ·rw [h] at e; have:=Option.some.inj e; omega
  ·refine Rep.mono ?_ (hrep.keep (w':=w4.setCell ⟨gn,3,none⟩ v4) ?_)
   ·intro b hb
    refine ⟨by omega,by rw [hsc]; omega,fun e=>?_⟩
    rcases hnew with h | h
    ·have:=(hvlt b (h ▸ e)).2; omega
    ·rw [h] at e; have:=Option.some.inj e; omega
   ·intro b hb
    exact keep b hb.2 (by omega) (fun e=>by have:=(hvlt b e).2; omega)
 ·have hr3:Blk w3 w.heap.size 25 #[.int .i64 0,.int .i64 0,.int .i64 0,.slice none 0 0]:=hres.gw hgw3 (by omega)
  exact (keep _ hr3.lt (by omega) hvr).trans hr3
 ·exact gw_setCell (gw_row (gw_alloc (gw_trans hgrow hgw3) o) hgw4 (fun b hb=>by have:=(hvlt b hb).1; omega)) (.inr (by show w.heap.size≤gn; omega)) _

theorem TreeR.done {L : List Int} {A : Option Addr} {c g d : Nat} {w : World} {gn : Nat} {k n m : Int} {wr W' : World} {ts : List T} {a : Nat} {l : Int} {A' : Option Addr} {c' : Nat} {xs : List Value}
  (hg:g < w.heap.size) (hgn:w.heap.size < gn) (hgb:Blk wr g 60 (mkc A L.length c a l)) (hown:wr.ownsRow (gn + 1) 25 4 (.slice A' ts.length c') ts.length xs)
  (hreps:Reps wr (fun b=>gn < b∧b < wr.heap.size∧(Value.slice A' ts.length c').ownBlock≠some b) d ts xs) (hgrow:w.grownBy wr (some g)) (hk:inRange k) (hn:inRange n) (hm:inRange m) (hc:ts.length≤c')
  (hW:wr.grownBy W' (some w.heap.size)) (hs:W'.heap.size = wr.heap.size) :
  Rep W' (fun b=>w.heap.size≤b∧b < W'.heap.size) (d + 1) ⟨k,n,m,ts⟩ (nd ⟨k,n,m,ts⟩ A' c')∧Blk W' g 60 (mkc A L.length c a l)∧w.grownBy W' (some g):=by
 refine ⟨Rep.mk hk hn hm hc (xs:=xs) ?_ ?_,hgb.gw hW (by omega),gw_row hgrow hW (fun b hb=>by have:=Option.some.inj hb; omega)⟩
 ·have h:=Rd.of_own (hown.kept hW (.inr fun e=>by have:=(hown.lt _ e).1; omega))
  exact h.mono fun b hb=>⟨by omega,hb.2⟩
 ·refine (hreps.keep (w':=W') ?_).mono ?_
  ·intro b hb
   exact hW.block b hb.2.1 (fun e=>by have:=Option.some.inj e; omega)
  ·intro b hb
   exact ⟨by omega,by omega⟩
theorem gw4 (wr:World) (r:Nat) (v0 v1 v2 v3:Value):wr.grownBy ((((wr.setCell ⟨r,0,none⟩ v0).setCell ⟨r,1,none⟩ v1).setCell ⟨r,2,none⟩ v2).setCell ⟨r,3,none⟩ v3) (some r)∧((((wr.setCell ⟨r,0,none⟩ v0).setCell ⟨r,1,none⟩ v1).setCell ⟨r,2,none⟩ v2).setCell ⟨r,3,none⟩ v3).heap.size = wr.heap.size :=
 ⟨gw_setCell (gw_setCell (gw_setCell (gw_setCell (gw_refl wr r) (.inl rfl) _) (.inl rfl) _) (.inl rfl) _) (.inl rfl) _,by simp [World.size_setCell]⟩

set_option maxRecDepth 100000 in
set_option maxHeartbeats 4000000 in
theorem tree_step (L:List Int) (S:Nat→Prop) (A:Option Addr) (c g d:Nat) (hr:∀ x ∈ L,inRange x) (hl:L.length≤9223372036854775807) (hS:∀ b,S b→b≠g) (ih:∀ e,d = e + 1→TreeC L S A c g e):TreeC L S A c g d:=by
 intro a left w hg hin hL ha hl1 hl2 D hD
 have hp4:0 < 4 ^ (d + 1):=Nat.pow_pos (by decide)
 have ha2:a≤899996:=by omega
 have hl3:-900000≤left - 1:=by omega
 have h0:=hg.cell 0
 have h1:=hg.cell 1
 have h2:=hg.cell 2
 have f2:=hg.frozen 2
 simp only [mkc,List.getElem?_toArray,List.getElem?_cons_zero,List.getElem?_cons_succ] at h0 h1 h2
 have hglt:=hg.lt
 have HA:=Lib.hid ha
 have HL1:=Lib.hid hl1
 have HG:=Lib.hid hg
 have HL:=Lib.hid hL
 have HS:=Lib.hid hS
 have HI:=Lib.hid hin
 have HIH:=Lib.hid ih
 have HD:=Lib.hid hD
 have hD0:1≤D:=by omega
 have hDu:D≤900000:=by have:=@Nat.lt_pow_self (d + 1) 4 (by decide); omega
 clear hg hL hS hin ha hl1 hp4 ih hD
 have b1:=@numAt_le L a 32 (by omega)
 have b2:=@numAt_le L (a + 1) 19 (by omega)
 have b3:=@numAt_le L (a + 1 + 1) 5 (by omega)
 have b4:=@numAt_le L (a + 1 + 1 + 1) 4 (by omega)
 go_enter Tryd.func44,Tryd.ntmps44
 go_wp2_with fail
 obtain ⟨W1,hW1⟩:∃ W1,W1 = (w.setCell ⟨g,2,none⟩ (.int .i64 (left - 1))).alloc (.cells #[.int .i64 0,.int .i64 0,.int .i64 0,.slice none 0 0] 25):=⟨_,rfl⟩
 have HG1:Hid (Blk W1 g 60 (mkc A L.length c a (left - 1))):=Lib.hid (by rw [hW1]; exact (HG.out.set_ 2 _).alloc _)
 have HW1:Hid (w.grownBy W1 (some g)):=Lib.hid (by rw [hW1]; exact gw_alloc (gw_setCell (gw_refl w g) (.inl rfl) _) _)
 have HO1:Hid (Blk W1 w.heap.size 25 #[.int .i64 0,.int .i64 0,.int .i64 0,.slice none 0 0]):=Lib.hid (by rw [hW1]; exact Blk.new_at _ _ (by rw [World.size_setCell]) rfl)
 have HLL:Hid (∀ W,w.grownBy W (some g)→Rd W S 1 A L.length (vi L)):=Lib.hid (fun W h=>HL.out.keep (Keeps.gw h HI.out HS.out))
 rw [← hW1]
 clear hW1 h0 h1 h2 f2
 refine (num_is L S A c g a (left - 1) 32 W1 HG1.out HS.out (HLL.out W1 HW1.out) hr (by omega) hl (by omega)).mono ?_
 rintro e w1 ⟨rfl,hg1,hw1⟩
 have HG2:=Lib.hid hg1
 have HW2:=Lib.hid (gw_trans HW1.out hw1)
 have HO2:=Lib.hid (HO1.out.gw hw1 (by omega))
 clear hg1 hw1
 go_wp2_with fail
 refine (num_is L S A c g (a + 1) (left - 1) 19 w1 HG2.out HS.out (HLL.out w1 HW2.out) hr (by omega) hl (by omega)).mono ?_
 rintro e w2 ⟨rfl,hg1,hw1⟩
 have HG3:=Lib.hid hg1
 have HW3:=Lib.hid (gw_trans HW2.out hw1)
 have HO3:=Lib.hid (HO2.out.gw hw1 (by omega))
 clear hg1 hw1
 go_wp2_with fail
 refine (num_is L S A c g (a + 1 + 1) (left - 1) 5 w2 HG3.out HS.out (HLL.out w2 HW3.out) hr (by omega) hl (by omega)).mono ?_
 rintro e w3 ⟨rfl,hg1,hw1⟩
 have HG4:=Lib.hid hg1
 have HW4:=Lib.hid (gw_trans HW3.out hw1)
 have HO4:=Lib.hid (HO3.out.gw hw1 (by omega))
 clear hg1 hw1
 go_wp2_with fail
 obtain ⟨k,hk⟩:∃ k,k = numAt L a 32 - 1:=⟨_,rfl⟩
 obtain ⟨n,hn⟩:∃ n,n = numAt L (a + 1) 19 - 9:=⟨_,rfl⟩
 obtain ⟨m,hm⟩:∃ m,m = numAt L (a + 1 + 1) 5 - 1:=⟨_,rfl⟩
 have hin1:inRange k∧inRange n∧inRange m:=by unfold inRange; omega
 rw [← hk,← hn,← hm]
 obtain ⟨W4,hW4⟩:∃ W4,W4 = w3.alloc (.cells #[.int .i64 k,.int .i64 n,.int .i64 m,.slice none 0 0] 25):=⟨_,rfl⟩
 have HG5:Hid (Blk W4 g 60 (mkc A L.length c (a + 1 + 1 + 1) (left - 1))):=Lib.hid (by rw [hW4]; exact HG4.out.alloc _)
 have HW5:Hid (w.grownBy W4 (some g)):=Lib.hid (by rw [hW4]; exact gw_alloc HW4.out _)
 have HO5:Hid (Blk W4 w.heap.size 25 #[.int .i64 0,.int .i64 0,.int .i64 0,.slice none 0 0]):=Lib.hid (by rw [hW4]; exact HO4.out.alloc _)
 have HN5:Hid (Blk W4 w3.heap.size 25 #[.int .i64 k,.int .i64 n,.int .i64 m,.slice none 0 0]):=Lib.hid (by rw [hW4]; exact Blk.new _ _ _)
 have hgn:w.heap.size < w3.heap.size:=HO4.out.lt
 obtain ⟨gn,hgn2⟩:∃ gn,gn = w3.heap.size:=⟨_,rfl⟩
 rw [← hW4,← hgn2]
 rw [← hgn2] at HN5 hgn
 clear hW4 hgn2
 refine (num_is L S A c g (a + 1 + 1 + 1) (left - 1) 4 W4 HG5.out HS.out (HLL.out W4 HW5.out) hr (by omega) hl (by omega)).mono ?_
 rintro e w5 ⟨rfl,hg1,hw1⟩
 have HG6:=Lib.hid hg1
 have HW6:=Lib.hid (gw_trans HW5.out hw1)
 have HO6:=Lib.hid (HO5.out.gw hw1 (by omega))
 have HN6:=Lib.hid (HN5.out.gw hw1 (by omega))
 clear hg1 hw1 HG1 HG2 HG3 HG4 HG5 HW1 HW2 HW3 HW4 HW5 HO1 HO2 HO3 HO4 HO5 HN5
 go_wp2_with fail
 obtain ⟨i0,hi,hz0,hz1,hz2⟩:=info_parts node_info
 obtain ⟨q,hq⟩:∃ q,q = numAt L (a + 1 + 1 + 1) 4:=⟨_,rfl⟩
 rw [← hq]
 rw [← hq] at b4
 obtain ⟨K,hK⟩:∃ K:Int,K = if d = 0 then 0 else q:=⟨_,rfl⟩
 obtain ⟨fin,hfin⟩:∃ fin,fin = kidsLoop (mkT L d) K.toNat [] (a + 4) (left - 1):=⟨_,rfl⟩
 have hKq:0≤K∧K≤3:=by rw [hK]; split <;> omega
 have hmk:mkT L (d + 1) a left = (⟨k,n,m,fin.1⟩,fin.2.1,fin.2.2):=by
  simp only [mkT]
  rw [hfin,hK,hq,hk,hn,hm]
  split <;> rfl
 have hp:4 ^ (d + 1) = 4 * 4 ^ d:=by rw [Nat.pow_succ]; omega
 have HMK:=Lib.hid hmk
 have HFIN:=Lib.hid hfin
 have HKK:=Lib.hid hK
 have HP:=Lib.hid hp
 clear hmk hfin hK hp hk hn hm hq b1 b2 b3
 go_loopw [7] (fun i wr=>∃ j:Nat,i = .int .i64 j∧(j:Int)≤K∧Hid (TreeR L S A c g d w gn K k n m fin j wr)) (fun i _=>4 - (intOf i).toNat)
 case atStart=>
  refine ⟨0,rfl,hKq.1,⟨⟨[],a + 4,left - 1,.slice none 0 0,[],rfl,?_,?_,?_,?_,HG6.out,HN6.out,World.ownsRow_nil _ _ _ _,Reps.nil⟩,HO6.out,HW6.out⟩⟩
  ·exact HFIN.out.symm
  ·have h1:=HA.out
   have h2:=HP.out
   have h3:4 ^ d * K.toNat≤4 ^ d * 3:=Nat.mul_le_mul_left _ (by omega)
   have h4:0 < 4 ^ d:=Nat.pow_pos (by decide)
   rw [Nat.sub_zero]
   omega
  ·have h1:=HL1.out
   have h2:=HP.out
   have h3:4 ^ d * K.toNat≤4 ^ d * 3:=Nat.mul_le_mul_left _ (by omega)
   have h4:0 < 4 ^ d:=Nat.pow_pos (by decide)
   rw [Nat.sub_zero]
   omega
  ·omega
 case round =>
  obtain ⟨j,rfl,hjK,HR⟩:=hrel
  obtain ⟨⟨ts,a1,l1,v,xs,hts,hfin2,hab,hlb,hlu,hg1,hn1,hown,hreps⟩,hres,hgrow⟩:=HR.out
  have HG1:=Lib.hid hg1
  have HN1:=Lib.hid hn1
  have HOW:=Lib.hid hown
  have HRS:=Lib.hid hreps
  have HRES:=Lib.hid hres
  have HGR:=Lib.hid hgrow
  have HTS:=Lib.hid hts
  have HF2:=Lib.hid hfin2
  have HAB:=Lib.hid hab
  have HLB:=Lib.hid hlb
  have hl2:=hg1.cell 2
  have hn3:=hn1.cell 3
  simp only [mkc,List.getElem?_toArray,List.getElem?_cons_zero,List.getElem?_cons_succ] at hl2 hn3
  have hglt1:=hg1.lt
  have hnlt1:=hn1.lt
  have hlow:-900000≤l1:=by omega
  clear hg1 hn1 hown hreps hres hgrow hts hfin2 hab hlb HR
  by_cases hcont:(j:Int) < q∧1 < D∧0 < l1
  ·obtain ⟨c1,c2,c3⟩:=hcont
   obtain ⟨e,he⟩:∃ e,d = e + 1:=by
    have hk:=HKK.out
    have hd:=HD.out
    exact ⟨d - 1,by omega⟩
   have hKq2:K = q:=by
    have hk:=HKK.out
    rw [if_neg (by omega)] at hk
    exact hk
   have hjK2:(j:Int) < K:=by rw [hKq2]; exact c1
   have HC:Hid (∀ (a:Nat) (left:Int) (w:World),Blk w g 60 (mkc A L.length c a left)→In S w.heap.size→Rd w S 1 A L.length (vi L)→a + 4 * 4 ^ (e + 1)≤900000→-900000 + ((4 ^ (e + 1):Nat):Int)≤left→left≤1000000→∀ D:Int,D = (e:Int) + 1→Calls Tryd.prog 44 #[.pointer (some ⟨g,0,none⟩),.int .i64 D] w fun e' w'=>∃ t A' c',(mkT L d a left).1 = t∧e' = .returned (.agg #[.int .i64 t.k,.int .i64 t.n,.int .i64 t.m,.slice A' t.kids.length c'])∧Rep w' (fun b=>w.heap.size≤b∧b < w'.heap.size) d t (nd t A' c')∧Blk w' g 60 (mkc A L.length c (mkT L d a left).2.1 (mkT L d a left).2.2)∧w.grownBy w' (some g)):=Lib.hid (by rw [he]; exact HIH.out e he)
   have HDE:Hid (D - 1 = (e:Int) + 1):=Lib.hid (by have:=HD.out; omega)
   have hdm:4 ^ (e + 1)≤4 ^ d * (K.toNat - j):=by rw [he]; exact Nat.le_mul_of_pos_right _ (by omega)
   have HDM:=Lib.hid hdm
   have HE:=Lib.hid he
   have hDw:IntKind.i64.wrap (D - 1) = D - 1:=by rw [IntKind.wrap_i64]; omega
   clear hdm he hKq2
   go_wp2_with fail
   go_region_law (first
    | (refine step_append_any _ rfl (.tmp 44) (.tmp 49) 23 rfl (gn + 1) 25 i0 _ 4 48 Tryd.underlying23 hi hz0 hz1 hz2 rfl (by omega) _ _ _ rfl HOW3.out _ (some ⟨w3.heap.size,0,none⟩) 1 1 (nd t A' c') rfl (reads_nd w3 t A' c') (nd_one t A' c') (len_le (by have:=HTS.out; omega)) (by have:=HTS.out; omega) (by have:=HSZ.out; simp; omega) ?_; intro v4 w4 hown4 hgrow4 hnew4; obtain ⟨A4,c4,hv4,hcap4⟩:=own_len hown4; subst hv4; have HO4:=Lib.hid hown4; have HG4:=Lib.hid hgrow4; have HN4:=Lib.hid hnew4; have HNB:Hid (Blk w4 gn 25 #[.int .i64 k,.int .i64 n,.int .i64 m,v]):=Lib.hid ((HN3.out.alloc _).grown hgrow4 (fun e=>by have:=(HOW.out.lt _ e.symm).1; omega)); have hn44:=HNB.out.cell 3; have f44:=HNB.out.frozen 3; simp only [List.getElem?_toArray,List.getElem?_cons_zero,List.getElem?_cons_succ] at hn44; clear hown4 hgrow4 hnew4)
    | (go_simp; go_at_call 44; (with_reducible refine (HC.out a1 l1 wr.drew HG1.out.drew ?h1 ?h2 ?h3 ?h4 hlu _ HDE.out).mono ?_); (case h1=>exact HI.out.more HGR.out.size); (case h2=>exact HLL.out wr HGR.out); (case h3=>have:=HDM.out; have:=HAB.out; omega); (case h4=>have:=HDM.out; have:=HLB.out; omega); rintro e1 w3 ⟨t,A',c',ht,rfl,hrep3,hg3,hgw3⟩; have HT:=Lib.hid ht; have HR3:=Lib.hid hrep3; have HG3:=Lib.hid hg3; have HW3:Hid (wr.grownBy w3 (some g)):=Lib.hid ⟨hgw3.os,hgw3.tape,hgw3.output,hgw3.size,hgw3.block⟩; have HN3:=Lib.hid (HN1.out.gw HW3.out (by omega)); have hn33:=HN3.out.cell 3; simp only [List.getElem?_toArray,List.getElem?_cons_zero,List.getElem?_cons_succ] at hn33; have HOW3:Hid ((w3.alloc (.cells #[.int .i64 t.k,.int .i64 t.n,.int .i64 t.m,.slice A' t.kids.length c'] 25)).ownsRow (gn + 1) 25 4 v ts.length xs):=Lib.hid ((HOW.out.kept HW3.out (.inr fun e=>by have:=(HOW.out.lt _ e).1; omega)).alloc _); have hlt3:=HN3.out.lt; have HSZ:Hid (gn + 1≤w3.heap.size):=Lib.hid (Nat.succ_le_of_lt HN3.out.lt); clear ht hrep3 hg3 hgw3))
   all_goals
    go_wp2_with fail
    go_roundw
    case rel =>
     have ht:=HT.out
     subst ht
     exact ⟨j + 1,by go_num,by omega,TreeR.next hglt hgn HTS.out HF2.out HAB.out HLB.out hlu hnlt1 HN1.out HOW.out HRS.out HRES.out HGR.out hjK2 c3 HR3.out HG3.out HW3.out HO4.out HG4.out HN4.out⟩
    case measure=>simp [intOf]; omega
  ·have hstop : fin = (ts, a1, l1) := by
    rw [← HF2.out]
    by_cases h3:0 < l1
    ·have : K.toNat - j = 0 := by
      have hk:=HKK.out
      have hd:=HD.out
      by_cases h0:d = 0
      ·rw [if_pos h0] at hk; omega
      ·rw [if_neg h0] at hk; omega
     rw [this]; rfl
    ·exact kidsLoop_stop h3
   have hmk2:mkT L (d + 1) a left = (⟨k,n,m,ts⟩,a1,l1):=by rw [HMK.out,hstop]
   obtain ⟨A',c',hv,hcap⟩:=own_len HOW.out
   subst hv
   have HM2:=Lib.hid hmk2
   have n0:=HN1.out.cell 0
   have n1:=HN1.out.cell 1
   have n2:=HN1.out.cell 2
   have r0:=HRES.out.cell 0
   have r1:=HRES.out.cell 1
   have r2:=HRES.out.cell 2
   have r3:=HRES.out.cell 3
   have f0:=HRES.out.frozen 0
   have f1:=HRES.out.frozen 1
   have f2:=HRES.out.frozen 2
   have f3:=HRES.out.frozen 3
   simp only [List.getElem?_toArray,List.getElem?_cons_zero,List.getElem?_cons_succ] at n0 n1 n2 r0 r1 r2 r3
   clear hstop hmk2
   by_cases c1:(j:Int) < q
   ·by_cases c2:1 < D
    ·have c3:¬ 0 < l1:=fun h=>hcont ⟨c1,c2,h⟩
     clear hcont
     go_wp2_with fail
     refine bodyPost_ret (v:=.agg #[.int .i64 k,.int .i64 n,.int .i64 m,.slice A' ts.length c']) (by simp [results,Tryd.results44,go_sem,r0,r1,r2,r3]) rfl ⟨⟨k,n,m,ts⟩,A',c',by rw [HM2.out],rfl,?_⟩
     rw [HM2.out]
     exact TreeR.done hglt hgn HG1.out HOW.out HRS.out HGR.out hin1.1 hin1.2.1 hin1.2.2 hcap (gw4 _ _ _ _ _ _).1 (gw4 _ _ _ _ _ _).2
    ·clear hcont
     go_wp2_with fail
     refine bodyPost_ret (v:=.agg #[.int .i64 k,.int .i64 n,.int .i64 m,.slice A' ts.length c']) (by simp [results,Tryd.results44,go_sem,r0,r1,r2,r3]) rfl ⟨⟨k,n,m,ts⟩,A',c',by rw [HM2.out],rfl,?_⟩
     rw [HM2.out]
     exact TreeR.done hglt hgn HG1.out HOW.out HRS.out HGR.out hin1.1 hin1.2.1 hin1.2.2 hcap (gw4 _ _ _ _ _ _).1 (gw4 _ _ _ _ _ _).2
   ·clear hcont
    go_wp2_with fail
    refine bodyPost_ret (v:=.agg #[.int .i64 k,.int .i64 n,.int .i64 m,.slice A' ts.length c']) (by simp [results,Tryd.results44,go_sem,r0,r1,r2,r3]) rfl ⟨⟨k,n,m,ts⟩,A',c',by rw [HM2.out],rfl,?_⟩
    rw [HM2.out]
    exact TreeR.done hglt hgn HG1.out HOW.out HRS.out HGR.out hin1.1 hin1.2.1 hin1.2.2 hcap (gw4 _ _ _ _ _ _).1 (gw4 _ _ _ _ _ _).2
theorem tree_is (L:List Int) (S:Nat→Prop) (A:Option Addr) (c g:Nat) (hr:∀ x ∈ L,inRange x) (hl:L.length≤9223372036854775807) (hS:∀ b,S b→b≠g):∀ d,TreeC L S A c g d
 | 0=>tree_step L S A c g 0 hr hl hS fun e he=>by omega
 | d + 1=>tree_step L S A c g (d + 1) hr hl hS fun e he=>by
  have:e = d:=by omega
  subst this
  exact tree_is L S A c g hr hl hS e
end Go.Proofs.YtkkenbalpnmfmaaDoor
