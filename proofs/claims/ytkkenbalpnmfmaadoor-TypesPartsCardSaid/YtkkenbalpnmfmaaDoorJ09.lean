/- Texts joined. -/
import Derived.Test.YtkkenbalpnmfmaaDoorJ01
import Derived.ArgAppend
import Derived.Test.YtkkenbalpnmfmaaDoorJ05
import Derived.ProofKit
import Derived.LaidMore
import Derived.ChangeOld
import Derived.OpenShut
import Derived.ChangeMaps5
set_option linter.unusedVariables false
namespace Go.Proofs.YtkkenbalpnmfmaaDoor
open Go.RowKit WM

def IsRow (k:IntKind) (w:World) (a:Option Addr) (len cap:Nat) (zs:List Int):Prop :=
 (a = none∧len = 0∧cap = 0∧zs = []) ∨
 ∃ x,a = some x∧len≤cap∧cap≤maxLen∧zs.length = cap∧(∀ i,i < zs.length→w.cell? (x.add i) = some (.int k (zs.getD i 0)))∧∀ n ∈ zs,(Lit.int k n).wf = true


end Go.Proofs.YtkkenbalpnmfmaaDoor

namespace Go.Proofs.YtkkenbalpnmfmaaDoor
open Go.ChangeShapes Go.WideShapes Go.ChangeAt Go.RowKit WM
set_option maxRecDepth 100000

theorem i64_of2 {n:Int} (h:(Lit.int .i64 n).wf = true):inRange n:=by
 simp [Lit.wf,IntKind.min,IntKind.max,IntKind.bits,IntKind.signed] at h
 unfold inRange
 omega
theorem arg_vi {W : World} {A : Option Addr} {len cap : Nat} {zs : List Int} (hl : len ≤ cap) (hz : zs.length = cap) (h : 0 < len → ∃ x, A = some x ∧ ∀ i, i < zs.length → W.cell? (x.add i) = some (.int .i64 (zs.getD i 0))) (hw : ∀ n ∈ zs, (Lit.int .i64 n).wf = true) :
  ∃ l:List Int,l.length = len∧(∀ x ∈ l,inRange x)∧Reads W W.heap.size 1 A len (vi l):=by
 refine ⟨zs.take len,by simp; omega,fun x hx=>i64_of2 (hw x (List.mem_of_mem_take hx)),by simp [vi]; omega,fun hn=>?_⟩
 obtain ⟨x,rfl,hc⟩:=h hn
 have h0:=hc 0 (by omega)
 refine ⟨x,rfl,?_,fun j u hu=>?_⟩
 ·have:=block_lt_of_cell h0
  rwa [block_of_add] at this
 ·have hj : j < len := by
   have:=(List.getElem?_eq_some_iff.1 hu).1
   simp [vi] at this; omega
  rw [hc j (by omega)]
  have hzj:j < zs.length:=by omega
  unfold vi at hu
  rw [List.getElem?_map,List.getElem?_take,if_pos hj,List.getElem?_eq_getElem hzj] at hu
  simp only [Option.map_some,Option.some.injEq] at hu
  rw [← hu,List.getD_eq_getElem?_getD,List.getElem?_eq_getElem hzj]
  rfl
theorem row_vi {w : World} {a : Option Addr} {len cap : Nat} {zs : List Int} (h : IsRow .i64 w a len cap zs) :
  ∃ l:List Int,l.length = len∧len≤cap∧len≤9223372036854775807∧(∀ x ∈ l,inRange x)∧Reads w w.heap.size 1 a len (vi l):=by
 rcases h with ⟨rfl,rfl,rfl,rfl⟩ | ⟨x,rfl,hl,hm,hz,hc,hw⟩
 ·exact ⟨[],rfl,Nat.le_refl _,by omega,by simp,Reads.none_⟩
 ·obtain ⟨l,h1,h2,h3⟩:=arg_vi (A:=some x) hl hz (fun _=>⟨x,rfl,hc⟩) hw
  exact ⟨l,h1,hl,by unfold maxLen at hm; omega,h2,h3⟩
section
variable {H:Type} {enc:TypeId × Value→H} {w:World} {base b0:Nat} {held:Bool} {v:Value} {d:DataW H} {ps:List MemPlace} {r:Reach}
theorem op_int2 {t:TypeId} {spare:Nat→Bool} (ht:Tryd.prog.underlying t = some (.int .i64)) (hv:Value.okWide Tryd.prog w r b0 t v) (hd:DataW.Trod enc Tryd.prog w base spare held t v d ps):∃ n:Int,v = .int .i64 n∧inRange n:=by
 obtain ⟨n,rfl,rfl,rfl,hw⟩:=open_int ht hv hd
 exact ⟨n,rfl,i64_of2 hw⟩
theorem op_ints {t : TypeId} (ht : Tryd.prog.underlying t = some (.slice 3)) (hv : Value.okWide Tryd.prog w r b0 t v) (hd : DataW.Trod enc Tryd.prog w base (fun _ => true) held t v d ps) :
  ∃ (A:Option Addr) (l:List Int) (cap:Nat),v = .slice A l.length cap∧l.length≤cap∧l.length≤9223372036854775807∧(∀ x ∈ l,inRange x)∧Reads w w.heap.size 1 A l.length (vi l):=by
 obtain ⟨A,len,cap,rfl⟩:=okWide_slice ht hv
 have:∃ zs,IsRow .i64 w A len cap zs:=by
  obtain ⟨fuel,hf⟩:=hd
  rcases open_ints ht Tryd.underlying3 (by kernel_rfl) hf with ⟨hcs,_⟩ | ⟨x,l,c,zs,hcs,_,hl,hm,hz,_,hcell,hwz⟩
  ·simp [Value.cells] at hcs
   obtain ⟨rfl,rfl,rfl⟩:=hcs
   exact ⟨[],.inl ⟨rfl,rfl,rfl,rfl⟩⟩
  ·simp [Value.cells] at hcs
   obtain ⟨rfl,rfl,rfl⟩:=hcs
   exact ⟨zs,.inr ⟨_,rfl,hl,hm,by simpa using hz,hcell,hwz⟩⟩
 obtain ⟨zs,hz⟩:=this
 obtain ⟨l,rfl,h1,h2,h3,h4⟩:=row_vi hz
 exact ⟨A,l,cap,rfl,h1,h2,h3,h4⟩
end
end Go.Proofs.YtkkenbalpnmfmaaDoor
