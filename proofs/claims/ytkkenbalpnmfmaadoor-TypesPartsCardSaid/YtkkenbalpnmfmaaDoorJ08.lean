/- Texts joined. -/
import Derived.Test.YtkkenbalpnmfmaaDoorRows
import Derived.Test.YtkkenbalpnmfmaaDoorJ07
import Derived.ProofKit
import Derived.LaidMore
import Derived.OpenShut
import Derived.ChangeArms
import Derived.Stop.Joined
set_option linter.unusedVariables false
namespace Go.Proofs.YtkkenbalpnmfmaaDoor
open Go.ChangeShapes Go.WideShapes Go.ChangeAt Go.RowKit WM TR

def shapeT:List (List (IntKind × Int)):=[
 [(.u8,1),(.i8,0),(.i8,0),(.i8,0),(.i8,0),(.i8,0),(.u8,0),(.i8,0)],
 [(.u8,1),(.i8,0),(.i8,0),(.i8,0),(.i8,0),(.i8,0),(.u8,0),(.i8,0)],
 [(.u8,2),(.i8,1),(.i8,4),(.i8,0),(.i8,0),(.i8,0),(.u8,0),(.i8,0)],
 [(.u8,2),(.i8,0),(.i8,0),(.i8,0),(.i8,1),(.i8,3),(.u8,1),(.i8,0)],
 [(.u8,4),(.i8,-8),(.i8,7),(.i8,0),(.i8,0),(.i8,0),(.u8,0),(.i8,0)],
 [(.u8,4),(.i8,0),(.i8,1),(.i8,0),(.i8,0),(.i8,0),(.u8,0),(.i8,0)],
 [(.u8,4),(.i8,0),(.i8,5),(.i8,0),(.i8,0),(.i8,0),(.u8,0),(.i8,0)],
 [(.u8,4),(.i8,0),(.i8,5),(.i8,0),(.i8,1),(.i8,1),(.u8,4),(.i8,0)],
 [(.u8,4),(.i8,0),(.i8,5),(.i8,2),(.i8,0),(.i8,0),(.u8,0),(.i8,0)],
 [(.u8,4),(.i8,0),(.i8,13),(.i8,0),(.i8,2),(.i8,2),(.u8,4),(.i8,0)],
 [(.u8,4),(.i8,0),(.i8,0),(.i8,0),(.i8,1),(.i8,1),(.u8,4),(.i8,0)],
 [(.u8,4),(.i8,0),(.i8,5),(.i8,0),(.i8,0),(.i8,3),(.u8,4),(.i8,0)],
 [(.u8,4),(.i8,0),(.i8,2),(.i8,0),(.i8,0),(.i8,0),(.u8,0),(.i8,0)],
 [(.u8,8),(.i8,0),(.i8,0),(.i8,0),(.i8,0),(.i8,8),(.u8,24),(.i8,0)],
 [(.u8,16),(.i8,0),(.i8,5),(.i8,0),(.i8,1),(.i8,1),(.u8,4),(.i8,0)],
 [(.u8,16),(.i8,0),(.i8,5),(.i8,0),(.i8,2),(.i8,2),(.u8,4),(.i8,0)],
 [(.u8,16),(.i8,0),(.i8,5),(.i8,2),(.i8,1),(.i8,1),(.u8,4),(.i8,0)],
 [(.u8,16),(.i8,0),(.i8,0),(.i8,0),(.i8,1),(.i8,1),(.u8,4),(.i8,2)],
 [(.u8,16),(.i8,0),(.i8,0),(.i8,0),(.i8,1),(.i8,1),(.u8,4),(.i8,1)],
 [(.u8,16),(.i8,0),(.i8,0),(.i8,0),(.i8,1),(.i8,1),(.u8,4),(.i8,0)],
 [(.u8,16),(.i8,0),(.i8,0),(.i8,0),(.i8,1),(.i8,1),(.u8,4),(.i8,0)],
 [(.u8,16),(.i8,0),(.i8,5),(.i8,0),(.i8,0),(.i8,0),(.u8,0),(.i8,2)],
 [(.u8,16),(.i8,0),(.i8,2),(.i8,0),(.i8,1),(.i8,1),(.u8,4),(.i8,0)],
 [(.u8,16),(.i8,0),(.i8,5),(.i8,0),(.i8,0),(.i8,3),(.u8,4),(.i8,0)],
 [(.u8,16),(.i8,0),(.i8,0),(.i8,0),(.i8,1),(.i8,1),(.u8,4),(.i8,0)],
 [(.u8,16),(.i8,0),(.i8,0),(.i8,0),(.i8,0),(.i8,0),(.u8,0),(.i8,0)],
 [(.u8,32),(.i8,0),(.i8,3),(.i8,0),(.i8,0),(.i8,6),(.u8,3),(.i8,1)],
 [(.u8,64),(.i8,0),(.i8,3),(.i8,0),(.i8,1),(.i8,6),(.u8,32),(.i8,0)],
 [(.u8,0),(.i8,0),(.i8,0),(.i8,0),(.i8,0),(.i8,0),(.u8,0),(.i8,0)],
 [(.u8,0),(.i8,0),(.i8,0),(.i8,0),(.i8,0),(.i8,0),(.u8,0),(.i8,0)]]
theorem shapes_is:(Rows.laid_scoria_tree_shapes:DataW Unit) = .agg (shapeT.map fun r=>.agg (r.map fun x=>.lit (.int x.1 x.2))):=by kernel_rfl
def ST (w:World):Prop:=∀ (t:Nat) (r:List (IntKind × Int)),shapeT[t]? = some r→∀ (i:Nat) (x:IntKind × Int),r[i]? = some x→w.cell? ⟨0,t * 8 + i,none⟩ = some (.int x.1 x.2)
theorem ST.below {w w':World} {B:Nat} (h:ST w) (hb:Below B w w') (hB:0 < B):ST w':=fun t r hr i x hx=>(hb.cell (p:=⟨0,_,none⟩) hB).trans (h t r hr i x hx)

section
variable {H:Type} {enc:TypeId × Value→H} {w:World} {base:Nat} {spare:Nat→Bool} {held:Bool}
theorem field_at {n : Nat} {fs : Array Field} {cs : List Value} {xs : List (DataW H × List MemPlace)} {i : Nat} {f : Field} {k : IntKind} {a : Int}
  (hf:∀ (i:Nat) (f:Field),fs[i]? = some f→DataW.trod enc Tryd.prog w base spare held n f.type ((cs.drop f.offset).take (Tryd.prog.cellsOf f.type)) = xs[i]?)
  (hfi:fs[i]? = some f) (ho:f.offset = i) (ht:Tryd.prog.underlying f.type = some (.int k)) (hc:Tryd.prog.cellsOf f.type = 1) (hx:(xs.map (·.1))[i]? = some (.lit (.int k a))):cs[i]? = some (.int k a):=by
 have h1:=hf i f hfi
 rw [ho,hc] at h1
 rw [List.getElem?_map] at hx
 cases hxi:xs[i]? with
 | none=>rw [hxi] at hx; cases hx
 | some z =>
  rw [hxi] at h1 hx
  obtain ⟨m,e1,e2,_⟩:=DataW.trod_int ht h1
  rw [e2] at hx
  simp only [Option.map_some,Option.some.injEq,DataW.lit.injEq,Lit.int.injEq,true_and] at hx
  subst hx
  have h4:((cs.drop i).take 1)[0]? = some (.int k m):=by rw [e1]; rfl
  simpa using h4
theorem cells80:Tryd.prog.cellsOf 68 = 8:=by kernel_rfl
theorem row_at {fuel : Nat} {cs : List Value} {x : DataW H × List MemPlace} {r : List (IntKind × Int)} (h : DataW.trod enc Tryd.prog w base spare held fuel 68 cs = some x) (hx : x.1 = .agg (r.map fun x => .lit (.int x.1 x.2)))
  (hr:r.map (·.1) = [.u8,.i8,.i8,.i8,.i8,.i8,.u8,.i8]) (i:Nat) (y:IntKind × Int) (hy:r[i]? = some y):cs[i]? = some (.int y.1 y.2):=by
 obtain ⟨xs,m,_,rfl,_,hn,hf⟩:=DataW.trod_struct Tryd.underlying68 h
 have h2:(xs.map (·.1))[i]? = some (.lit (.int y.1 y.2)):=by
  have:DataW.agg (xs.map (·.1)) = .agg (r.map fun x=>.lit (.int x.1 x.2)):=hx
  injection this with this
  rw [this,List.getElem?_map,hy]
  rfl
 have hk:([IntKind.u8,.i8,.i8,.i8,.i8,.i8,.u8,.i8])[i]? = some y.1:=by rw [← hr,List.getElem?_map,hy]; rfl
 have hi:i < 8:=(List.getElem?_eq_some_iff.1 hk).1
 obtain ⟨k,a⟩:=y
 simp only at hk h2 ⊢
 match i,hi with
 | 0,_ =>
  have e:IntKind.u8 = k:=Option.some.inj hk
  subst e
  exact field_at (i:=0) (k:=.u8) hf rfl rfl Tryd.underlying65 (by kernel_rfl) h2
 | 1,_ =>
  have e:IntKind.i8 = k:=Option.some.inj hk
  subst e
  exact field_at (i:=1) (k:=.i8) hf rfl rfl Tryd.underlying66 (by kernel_rfl) h2
 | 2,_ =>
  have e:IntKind.i8 = k:=Option.some.inj hk
  subst e
  exact field_at (i:=2) (k:=.i8) hf rfl rfl Tryd.underlying66 (by kernel_rfl) h2
 | 3,_ =>
  have e:IntKind.i8 = k:=Option.some.inj hk
  subst e
  exact field_at (i:=3) (k:=.i8) hf rfl rfl Tryd.underlying66 (by kernel_rfl) h2
 | 4,_ =>
  have e:IntKind.i8 = k:=Option.some.inj hk
  subst e
  exact field_at (i:=4) (k:=.i8) hf rfl rfl Tryd.underlying66 (by kernel_rfl) h2
 | 5,_ =>
  have e:IntKind.i8 = k:=Option.some.inj hk
  subst e
  exact field_at (i:=5) (k:=.i8) hf rfl rfl Tryd.underlying66 (by kernel_rfl) h2
 | 6,_ =>
  have e:IntKind.u8 = k:=Option.some.inj hk
  subst e
  exact field_at (i:=6) (k:=.u8) hf rfl rfl Tryd.underlying65 (by kernel_rfl) h2
 | 7,_ =>
  have e:IntKind.i8 = k:=Option.some.inj hk
  subst e
  exact field_at (i:=7) (k:=.i8) hf rfl rfl Tryd.underlying66 (by kernel_rfl) h2
theorem table_of {fuel:Nat} {cs:List Value} {x:DataW H × List MemPlace} (h:DataW.trod enc Tryd.prog w base spare held fuel 88 cs = some x) (hx:x.1 = .agg (shapeT.map fun r=>.agg (r.map fun x=>.lit (.int x.1 x.2)))) (t:Nat) (r:List (IntKind × Int)) (hr:shapeT[t]? = some r) (i:Nat) (y:IntKind × Int) (hy:r[i]? = some y):cs[t * 8 + i]? = some (.int y.1 y.2):=by
 obtain ⟨xs,m,_,rfl,_,hn,hel⟩:=DataW.trod_array Tryd.underlying88 h
 have ht:t < 30:=(List.getElem?_eq_some_iff.1 hr).1
 have he:=hel t ht
 rw [cells80] at he
 have hxt:t < xs.length:=by omega
 rw [List.getElem?_eq_getElem hxt] at he
 have h2:(xs.map (·.1))[t]? = some (.agg (r.map fun x=>.lit (.int x.1 x.2))):=by
  have:DataW.agg (xs.map (·.1)) = .agg (shapeT.map fun r=>.agg (r.map fun x=>.lit (.int x.1 x.2))):=hx
  injection this with this
  rw [this,List.getElem?_map,hr]
  rfl
 rw [List.getElem?_map,List.getElem?_eq_getElem hxt,Option.map_some,Option.some.injEq] at h2
 have hk:r.map (·.1) = [.u8,.i8,.i8,.i8,.i8,.i8,.u8,.i8]:=by
  have:∀ q ∈ shapeT,q.map (·.1) = [IntKind.u8,.i8,.i8,.i8,.i8,.i8,.u8,.i8]:=by decide
  exact this r (List.mem_of_getElem? hr)
 have hi:i < 8:=by
  have h8:r.length = 8:=by have:=congrArg List.length hk; simpa using this
  have:=(List.getElem?_eq_some_iff.1 hy).1
  omega
 have h3:=row_at he h2 hk i y hy
 rw [List.getElem?_take,if_pos hi,List.getElem?_drop] at h3
 exact h3
end
theorem gShapes : Tryd.prog.globalNamed "scoria/tree.shapes" = some 0 := by kernel_rfl
theorem tShapes:(Tryd.prog.globals[0]?).map (·.type) = some 88:=by kernel_rfl
def laidShapes : List (String × DataW Unit) := [("scoria/tree.shapes", Rows.laid_scoria_tree_shapes)]
theorem of_shapes {W:World} (h:laidMetH Tryd.prog laidShapes W):ST W:=by
 rw [MakeChecks.laidMetH_plain _ _ _ (by kernel_rfl)] at h
 obtain ⟨ps,⟨g1,t1,cs1,f1,p1,q1,hg1,ht1,hv1,hd1,_,_⟩,_,_⟩:=h
 obtain rfl:=Option.some.inj (gShapes.symm.trans hg1)
 obtain rfl:=Option.some.inj (tShapes.symm.trans ht1)
 exact fun t r hr i x hx=>(World.var?_cell hg1 hv1 (t * 8 + i)).trans (by simpa using table_of hd1 shapes_is t r hr i x hx)
theorem door_shapes (os:Os) (args:Array Value):laidMetH Tryd.prog laidShapes ((World.doorLaid Tryd.prog 200 os).forCall (fun _ _=>0) ⟨#[],args,[]⟩).memory :=
 laidMetH_of_parts3 (fuel:=8) (laidMet_of_run' 8 (by kernel_rfl) (by kernel_rfl)) (by kernel_rfl) (by kernel_rfl)
theorem sh_own:ownKnob Tryd.prog.godebug = none:=by kernel_rfl
theorem sh_laidOut:laidOutB Tryd.prog = true:=by kernel_rfl

def zeroR:List (IntKind × Int):=[(.u8,0),(.i8,0),(.i8,0),(.i8,0),(.i8,0),(.i8,0),(.u8,0),(.i8,0)]
def shRow (k:Int):List (IntKind × Int):=if k < 0∨30≤k then zeroR else (shapeT[k.toNat]?).getD zeroR
theorem size_shape:(Tryd.prog.info? 68).map (·.size) = some 8:=by kernel_rfl
def rowV (r:List (IntKind × Int)):List Value:=r.map fun x=>.int x.1 x.2

theorem list8 {α:Type} (l:List α) (h:l.length = 8):∃ x0 x1 x2 x3 x4 x5 x6 x7,l = [x0,x1,x2,x3,x4,x5,x6,x7] :=
 match l,h with
 | [x0,x1,x2,x3,x4,x5,x6,x7],_=>⟨x0,x1,x2,x3,x4,x5,x6,x7,rfl⟩
theorem shape_len:∀ r ∈ shapeT,r.length = 8:=by decide

set_option maxRecDepth 100000 in
set_option maxHeartbeats 4000000 in
theorem shapeOf_is (k : Int) (w : World) (hT : ST w) (hg : 0 < w.heap.size) :
  Calls Tryd.prog 48 #[.int .i64 k] w fun e w'=>e = .returned (.agg (rowV (shRow k)).toArray)∧Below w.heap.size w w':=by
 by_cases h1:k < 0
 ·have HZ:Hid (shRow k = zeroR):=Lib.hid (by unfold shRow; rw [if_pos (.inl h1)])
  have hd:decide (k < 0) = true:=by simpa using h1
  clear hT
  have hO:=Blk.new w 68 #[.int .u8 0,.int .i8 0,.int .i8 0,.int .i8 0,.int .i8 0,.int .i8 0,.int .u8 0,.int .i8 0]
  have HO:=Lib.hid hO
  clear hO
  go_enter Tryd.func48,Tryd.ntmps48
  go_wp2_with (refine wpList_store_row rfl 68 (.tmp 2) (.tmp 9) rfl w.heap.size #[.int .u8 0,.int .i8 0,.int .i8 0,.int .i8 0,.int .i8 0,.int .i8 0,.int .u8 0,.int .i8 0] rfl rfl 68 #[.int .u8 0,.int .i8 0,.int .i8 0,.int .i8 0,.int .i8 0,.int .i8 0,.int .u8 0,.int .i8 0] HO.out (by rw [size_shape]; rfl) rfl (by simp [Value.oneCell']) ?_)
  have HR:=Lib.hid (HO.out.setRow #[.int .u8 0,.int .i8 0,.int .i8 0,.int .i8 0,.int .i8 0,.int .i8 0,.int .u8 0,.int .i8 0])
  have r0:=HR.out.cell 0
  have r1:=HR.out.cell 1
  have r2:=HR.out.cell 2
  have r3:=HR.out.cell 3
  have r4:=HR.out.cell 4
  have r5:=HR.out.cell 5
  have r6:=HR.out.cell 6
  have r7:=HR.out.cell 7
  simp only [List.getElem?_toArray,List.getElem?_cons_zero,List.getElem?_cons_succ] at r0 r1 r2 r3 r4 r5 r6 r7
  refine bodyPost_ret (v:=.agg #[.int .u8 0,.int .i8 0,.int .i8 0,.int .i8 0,.int .i8 0,.int .i8 0,.int .u8 0,.int .i8 0]) (by simp [results,Tryd.results48,go_sem,r0,r1,r2,r3,r4,r5,r6,r7]) rfl ⟨by rw [HZ.out]; rfl,below_setRow (below_new _ _) (Nat.le_refl _) _⟩
 ·by_cases h2:30≤k
  ·have HZ:Hid (shRow k = zeroR):=Lib.hid (by unfold shRow; rw [if_pos (.inr h2)])
   have hd:decide (k < 0) = false:=by simpa using h1
   have hd2:decide (30≤k) = true:=by simpa using h2
   clear hT
   have hO:=Blk.new w 68 #[.int .u8 0,.int .i8 0,.int .i8 0,.int .i8 0,.int .i8 0,.int .i8 0,.int .u8 0,.int .i8 0]
   have HO:=Lib.hid hO
   clear hO
   go_enter Tryd.func48,Tryd.ntmps48
   go_wp2_with (refine wpList_store_row rfl 68 (.tmp 2) (.tmp 9) rfl w.heap.size #[.int .u8 0,.int .i8 0,.int .i8 0,.int .i8 0,.int .i8 0,.int .i8 0,.int .u8 0,.int .i8 0] rfl rfl 68 #[.int .u8 0,.int .i8 0,.int .i8 0,.int .i8 0,.int .i8 0,.int .i8 0,.int .u8 0,.int .i8 0] HO.out (by rw [size_shape]; rfl) rfl (by simp [Value.oneCell']) ?_)
   have HR:=Lib.hid (HO.out.setRow #[.int .u8 0,.int .i8 0,.int .i8 0,.int .i8 0,.int .i8 0,.int .i8 0,.int .u8 0,.int .i8 0])
   have r0:=HR.out.cell 0
   have r1:=HR.out.cell 1
   have r2:=HR.out.cell 2
   have r3:=HR.out.cell 3
   have r4:=HR.out.cell 4
   have r5:=HR.out.cell 5
   have r6:=HR.out.cell 6
   have r7:=HR.out.cell 7
   simp only [List.getElem?_toArray,List.getElem?_cons_zero,List.getElem?_cons_succ] at r0 r1 r2 r3 r4 r5 r6 r7
   refine bodyPost_ret (v:=.agg #[.int .u8 0,.int .i8 0,.int .i8 0,.int .i8 0,.int .i8 0,.int .i8 0,.int .u8 0,.int .i8 0]) (by simp [results,Tryd.results48,go_sem,r0,r1,r2,r3,r4,r5,r6,r7]) rfl ⟨by rw [HZ.out]; rfl,below_setRow (below_new _ _) (Nat.le_refl _) _⟩

  ·obtain ⟨j,rfl⟩:=Int.eq_ofNat_of_zero_le (show 0≤k by omega)
   have hj:j < 30:=by omega
   obtain ⟨r,hr⟩:∃ r,shapeT[j]? = some r:=⟨_,List.getElem?_eq_getElem (show j < shapeT.length from hj)⟩
   obtain ⟨x0,x1,x2,x3,x4,x5,x6,x7,rfl⟩:=list8 r (shape_len r (List.mem_of_getElem? hr))
   have HZ:Hid (shRow (j:Int) = [x0,x1,x2,x3,x4,x5,x6,x7]):=Lib.hid (by
    unfold shRow
    rw [if_neg (by omega)]
    simp only [Int.toNat_natCast,hr,Option.getD_some])
   have hd:decide ((j:Int) < 0) = false:=by simp
   have hd2:decide (30≤(j:Int)) = false:=by simp; omega
   have hij:(0:Int)≤j∧(j:Int) < 30:=⟨by omega,by omega⟩
   have hO:=Blk.new w 68 #[.int .u8 0,.int .i8 0,.int .i8 0,.int .i8 0,.int .i8 0,.int .i8 0,.int .u8 0,.int .i8 0]
   have HO:=Lib.hid hO
   have HC:Hid (∀ i y,[Value.int x0.1 x0.2,.int x1.1 x1.2,.int x2.1 x2.2,.int x3.1 x3.2,.int x4.1 x4.2,.int x5.1 x5.2,.int x6.1 x6.2,.int x7.1 x7.2][i]? = some y→(w.alloc (.cells #[.int .u8 0,.int .i8 0,.int .i8 0,.int .i8 0,.int .i8 0,.int .i8 0,.int .u8 0,.int .i8 0] 68)).cell? ⟨0,j * 8 + i,none⟩ = some y):=Lib.hid (fun i y hy=>by
    have e:([x0,x1,x2,x3,x4,x5,x6,x7].map fun x=>Value.int x.1 x.2)[i]? = some y:=hy
    rw [List.getElem?_map] at e
    cases hx:[x0,x1,x2,x3,x4,x5,x6,x7][i]? with
    | none=>rw [hx] at e; cases e
    | some x =>
     rw [hx] at e
     obtain rfl:=Option.some.inj e
     exact ((below_new w _).cell (p:=⟨0,_,none⟩) hg).trans (hT j _ hr i x hx))
   clear hO hr hT hj
   go_enter Tryd.func48,Tryd.ntmps48
   go_wp2_with (first
    | (refine wpList_load_mid rfl 68 (.tmp 11) rfl 0 (j * 8) rfl [.int x0.1 x0.2,.int x1.1 x1.2,.int x2.1 x2.2,.int x3.1 x3.2,.int x4.1 x4.2,.int x5.1 x5.2,.int x6.1 x6.2,.int x7.1 x7.2] _ HC.out Tryd.underlying68 rfl (by rw [size_shape]; rfl) ?_)
    | (refine wpList_store_row rfl 68 (.tmp 2) (.tmp 12) rfl w.heap.size #[.int x0.1 x0.2,.int x1.1 x1.2,.int x2.1 x2.2,.int x3.1 x3.2,.int x4.1 x4.2,.int x5.1 x5.2,.int x6.1 x6.2,.int x7.1 x7.2] rfl rfl 68 #[.int .u8 0,.int .i8 0,.int .i8 0,.int .i8 0,.int .i8 0,.int .i8 0,.int .u8 0,.int .i8 0] HO.out (by rw [size_shape]; rfl) rfl (by simp [Value.oneCell']) ?_))
   have HR:=Lib.hid (HO.out.setRow #[.int x0.1 x0.2,.int x1.1 x1.2,.int x2.1 x2.2,.int x3.1 x3.2,.int x4.1 x4.2,.int x5.1 x5.2,.int x6.1 x6.2,.int x7.1 x7.2])
   have r0:=HR.out.cell 0
   have r1:=HR.out.cell 1
   have r2:=HR.out.cell 2
   have r3:=HR.out.cell 3
   have r4:=HR.out.cell 4
   have r5:=HR.out.cell 5
   have r6:=HR.out.cell 6
   have r7:=HR.out.cell 7
   simp only [List.getElem?_toArray,List.getElem?_cons_zero,List.getElem?_cons_succ] at r0 r1 r2 r3 r4 r5 r6 r7
   refine bodyPost_ret (v:=.agg #[.int x0.1 x0.2,.int x1.1 x1.2,.int x2.1 x2.2,.int x3.1 x3.2,.int x4.1 x4.2,.int x5.1 x5.2,.int x6.1 x6.2,.int x7.1 x7.2]) (by simp [results,Tryd.results48,go_sem,r0,r1,r2,r3,r4,r5,r6,r7]) rfl ⟨by rw [HZ.out]; rfl,below_setRow (below_new _ _) (Nat.le_refl _) _⟩
end Go.Proofs.YtkkenbalpnmfmaaDoor
