/- Texts joined. -/
import Derived.Test.YtkkenbalpnmfmaaDoorH01
import Derived.ArgAppend
import Derived.Test.YtkkenbalpnmfmaaDoorH05
import Derived.ProofKit
import Derived.LaidMore
import Derived.ChangeOld
import Derived.OpenShut
import Derived.ChangeMaps5
import Derived.Test.YtkkenbalpnmfmaaDoorH03
import Derived.ChangeArms
import Derived.Deep.Slices
import Derived.WideShapes
import Derived.Test.YtkkenbalpnmfmaaDoorRows
set_option linter.unusedVariables false
namespace Go.Proofs.YtkkenbalpnmfmaaDoor
open Go.RowKit WM

def IsRow (k:IntKind) (w:World) (a:Option Addr) (len cap:Nat) (zs:List Int):Prop :=
 (a = none∧len = 0∧cap = 0∧zs = []) ∨
 ∃ x,a = some x∧len≤cap∧cap≤maxLen∧zs.length = cap∧(∀ i,i < zs.length→w.cell? (x.add i) = some (.int k (zs.getD i 0)))∧∀ n ∈ zs,(Lit.int k n).wf = true


end Go.Proofs.YtkkenbalpnmfmaaDoor

namespace Go.Proofs.YtkkenbalpnmfmaaDoor
open Go.ChangeShapes Go.WideShapes Go.ChangeAt Go.RowKit WM
set_option maxRecDepth 100000

theorem i64_of2 {n:Int} (h:(Lit.int .i64 n).wf = true):inRange n:=by
 simp [Lit.wf,IntKind.min,IntKind.max,IntKind.bits,IntKind.signed] at h
 unfold inRange
 omega
theorem arg_vi {W : World} {A : Option Addr} {len cap : Nat} {zs : List Int} (hl : len ≤ cap) (hz : zs.length = cap) (h : 0 < len → ∃ x, A = some x ∧ ∀ i, i < zs.length → W.cell? (x.add i) = some (.int .i64 (zs.getD i 0))) (hw : ∀ n ∈ zs, (Lit.int .i64 n).wf = true) :
  ∃ l:List Int,l.length = len∧(∀ x ∈ l,inRange x)∧Reads W W.heap.size 1 A len (vi l):=by
 refine ⟨zs.take len,by simp; omega,fun x hx=>i64_of2 (hw x (List.mem_of_mem_take hx)),by simp [vi]; omega,fun hn=>?_⟩
 obtain ⟨x,rfl,hc⟩:=h hn
 have h0:=hc 0 (by omega)
 refine ⟨x,rfl,?_,fun j u hu=>?_⟩
 ·have:=block_lt_of_cell h0
  rwa [block_of_add] at this
 ·have hj : j < len := by
   have:=(List.getElem?_eq_some_iff.1 hu).1
   simp [vi] at this; omega
  rw [hc j (by omega)]
  have hzj:j < zs.length:=by omega
  unfold vi at hu
  rw [List.getElem?_map,List.getElem?_take,if_pos hj,List.getElem?_eq_getElem hzj] at hu
  simp only [Option.map_some,Option.some.injEq] at hu
  rw [← hu,List.getD_eq_getElem?_getD,List.getElem?_eq_getElem hzj]
  rfl
theorem row_vi {w : World} {a : Option Addr} {len cap : Nat} {zs : List Int} (h : IsRow .i64 w a len cap zs) :
  ∃ l:List Int,l.length = len∧len≤cap∧len≤9223372036854775807∧(∀ x ∈ l,inRange x)∧Reads w w.heap.size 1 a len (vi l):=by
 rcases h with ⟨rfl,rfl,rfl,rfl⟩ | ⟨x,rfl,hl,hm,hz,hc,hw⟩
 ·exact ⟨[],rfl,Nat.le_refl _,by omega,by simp,Reads.none_⟩
 ·obtain ⟨l,h1,h2,h3⟩:=arg_vi (A:=some x) hl hz (fun _=>⟨x,rfl,hc⟩) hw
  exact ⟨l,h1,hl,by unfold maxLen at hm; omega,h2,h3⟩
section
variable {H:Type} {enc:TypeId × Value→H} {w:World} {base b0:Nat} {held:Bool} {v:Value} {d:DataW H} {ps:List MemPlace} {r:Reach}
theorem op_int2 {t:TypeId} {spare:Nat→Bool} (ht:Tryd.prog.underlying t = some (.int .i64)) (hv:Value.okWide Tryd.prog w r b0 t v) (hd:DataW.Trod enc Tryd.prog w base spare held t v d ps):∃ n:Int,v = .int .i64 n∧inRange n:=by
 obtain ⟨n,rfl,rfl,rfl,hw⟩:=open_int ht hv hd
 exact ⟨n,rfl,i64_of2 hw⟩
theorem op_ints {t : TypeId} (ht : Tryd.prog.underlying t = some (.slice 3)) (hv : Value.okWide Tryd.prog w r b0 t v) (hd : DataW.Trod enc Tryd.prog w base (fun _ => true) held t v d ps) :
  ∃ (A:Option Addr) (l:List Int) (cap:Nat),v = .slice A l.length cap∧l.length≤cap∧l.length≤9223372036854775807∧(∀ x ∈ l,inRange x)∧Reads w w.heap.size 1 A l.length (vi l):=by
 obtain ⟨A,len,cap,rfl⟩:=okWide_slice ht hv
 have:∃ zs,IsRow .i64 w A len cap zs:=by
  obtain ⟨fuel,hf⟩:=hd
  rcases open_ints ht Tryd.underlying3 (by kernel_rfl) hf with ⟨hcs,_⟩ | ⟨x,l,c,zs,hcs,_,hl,hm,hz,_,hcell,hwz⟩
  ·simp [Value.cells] at hcs
   obtain ⟨rfl,rfl,rfl⟩:=hcs
   exact ⟨[],.inl ⟨rfl,rfl,rfl,rfl⟩⟩
  ·simp [Value.cells] at hcs
   obtain ⟨rfl,rfl,rfl⟩:=hcs
   exact ⟨zs,.inr ⟨_,rfl,hl,hm,by simpa using hz,hcell,hwz⟩⟩
 obtain ⟨zs,hz⟩:=this
 obtain ⟨l,rfl,h1,h2,h3,h4⟩:=row_vi hz
 exact ⟨A,l,cap,rfl,h1,h2,h3,h4⟩
end
end Go.Proofs.YtkkenbalpnmfmaaDoor

namespace Go.Proofs.YtkkenbalpnmfmaaDoor
open Go.ChangeShapes Go.WideShapes Go.ChangeAt Go.RowKit WM TR
set_option maxRecDepth 100000

theorem collectT {α:Type} {p:Nat→α→Prop}:∀ n:Nat,(∀ i,i < n→∃ x,p i x)→∃ l:List α,l.length = n∧∀ i x,l[i]? = some x→p i x:=by
 intro n
 induction n with
 | zero=>intro _; exact ⟨[],rfl,by simp⟩
 | succ n ih =>
  intro h
  obtain ⟨l,h1,h2⟩:=ih (fun i hi=>h i (by omega))
  obtain ⟨x,hx⟩:=h n (by omega)
  refine ⟨l ++ [x],by simp [h1],fun i y hy=>?_⟩
  by_cases hi:i < n
  ·rw [List.getElem?_append_left (by omega)] at hy
   exact h2 i y hy
  ·rw [List.getElem?_append_right (by omega)] at hy
   have h3:i - l.length = 0:=by
    have:=(List.getElem?_eq_some_iff.1 hy).1
    simp at this; omega
   rw [h3] at hy
   simp only [List.getElem?_cons_zero,Option.some.injEq] at hy
   subst hy
   have:i = n:=by omega
   subst this
   exact hx
theorem i64_ofT {n:Int} (h:(Lit.int .i64 n).wf = true):inRange n:=by
 simp [Lit.wf,IntKind.min,IntKind.max,IntKind.bits,IntKind.signed] at h
 unfold inRange
 omega
theorem node_cells4:Tryd.prog.cellsOf 25 = 4:=by kernel_rfl
theorem int_cells1:Tryd.prog.cellsOf 3 = 1:=by kernel_rfl
theorem nodes_cells1:Tryd.prog.cellsOf 23 = 1:=by kernel_rfl
theorem list4 {α:Type} (l:List α) (h:l.length = 4):∃ a b c d,l = [a,b,c,d] :=
 match l,h with
 | [a,b,c,d],_=>⟨a,b,c,d,rfl⟩
section
variable {H:Type} {enc:TypeId × Value→H} {w:World} {base b0:Nat} {held:Bool} {r:Reach}


end
end Go.Proofs.YtkkenbalpnmfmaaDoor

namespace Go.Proofs.YtkkenbalpnmfmaaDoor
open Go.ChangeShapes Go.WideShapes Go.ChangeAt Go.RowKit WM TR
set_option maxRecDepth 100000

section
variable {H:Type} {enc:TypeId × Value→H} {w:World} {base b0:Nat} {held:Bool} {r:Reach}
theorem sum_bulk:∀ (ts:List T) (es:List (DataW H × List MemPlace)),ts.length = es.length→(∀ (i:Nat) (t:T),ts[i]? = some t→∃ y,es[i]? = some y∧2 * size t≤Rows.uptoBulk y.1)→2 * (ts.map size).sum≤Rows.uptoBulkAll (es.map (·.1))
 | [],_,_,_=>by simp
 | t :: ts,[],h,_=>by simp at h
 | t :: ts,e :: es,h,hk=>by
  obtain ⟨y,h1,h2⟩:=hk 0 t rfl
  simp at h1; subst h1
  have h3:=sum_bulk ts es (by simpa using h) fun i u hu=>hk (i + 1) u (by simpa using hu)
  simp only [List.map_cons,List.sum_cons,Rows.uptoBulkAll]
  omega
theorem rep_of_trodB:∀ (fuel:Nat) (cs:List Value) (x:DataW H × List MemPlace),DataW.trod enc Tryd.prog w base (fun _=>true) held fuel 25 cs = some x→∃ t,Rep w (Lt w.heap.size) fuel t cs∧2 * size t≤Rows.uptoBulk x.1:=by
 intro fuel
 induction fuel using Nat.strongRecOn with
 | ind fuel ih =>
  intro cs x h
  obtain ⟨xs,m,hm,rfl,hl,hn,hf⟩:=DataW.trod_struct Tryd.underlying25 h
  rw [node_cells4] at hl
  obtain ⟨v0,v1,v2,v3,rfl⟩:=list4 cs hl
  obtain ⟨y0,y1,y2,y3,rfl⟩:=list4 xs (by rw [hn]; rfl)
  have h0:=hf 0 _ rfl
  have h1:=hf 1 _ rfl
  have h2:=hf 2 _ rfl
  have h3:=hf 3 _ rfl
  obtain ⟨k,e0,hy0,w0⟩:=DataW.trod_int Tryd.underlying3 h0
  obtain ⟨n,e1,hy1,w1⟩:=DataW.trod_int Tryd.underlying3 h1
  obtain ⟨q,e2,hy2,w2⟩:=DataW.trod_int Tryd.underlying3 h2
  have e0':v0 = .int .i64 k:=by simpa [int_cells1] using e0
  have e1':v1 = .int .i64 n:=by simpa [int_cells1] using e1
  have e2':v2 = .int .i64 q:=by simpa [int_cells1] using e2
  subst e0' e1' e2' hm
  rcases DataW.trod_slice Tryd.underlying23 h3 with ⟨hc,hx3⟩ | ⟨a,len,cap,elems,rest,n',hn',hc,hx3,_,hlc,_,hle,hel,_,_⟩
  ·have e3:v3 = .slice none 0 0:=by simpa [nodes_cells1] using hc
   subst e3
   exact ⟨⟨k,n,q,[]⟩,⟨none,0,[],rfl,Nat.zero_le _,⟨i64_ofT w0,i64_ofT w1,i64_ofT w2⟩,Rd.none_,fun i u hu=>by simp at hu⟩,by rw [size_eq,hx3,hy0,hy1,hy2]; simp [Rows.uptoBulk,Rows.uptoBulkAll]⟩
  ·have e3:v3 = .slice (some a) len cap:=by simpa [nodes_cells1] using hc
   subst e3
   rw [node_cells4] at hel
   obtain ⟨ts,hts,hts2⟩:=collectT (p:=fun i t=>∃ cs',(∀ j,j < 4→w.cell? (a.add (i * 4 + j)) = cs'[j]?)∧cs'.length = 4∧Rep w (Lt w.heap.size) n' t cs'∧∃ y,elems[i]? = some y∧2 * size t≤Rows.uptoBulk y.1) len (fun i hi=>by
    have key:=hel i hi
    rw [List.getElem?_eq_getElem (by omega)] at key
    obtain ⟨cs',h1,h2⟩:=Option.bind_eq_some_iff.1 key
    obtain ⟨_,hl4,hcell⟩:=World.cells?_some h1
    obtain ⟨t,ht⟩:=ih n' (by omega) cs' _ h2
    exact ⟨t,cs',fun j hj=>by rw [← add_of_add]; exact hcell j hj,hl4,ht.1,_,List.getElem?_eq_getElem (by omega),ht.2⟩)
   obtain ⟨xs,hxs,hxs2⟩:=collectT (p:=fun j u=>w.cell? (a.add j) = some u) (len * 4) (fun j hj=>by
    have hi:j / 4 < len:=by omega
    obtain ⟨cs',h1,h2,_⟩:=hts2 (j / 4) ts[j / 4] (List.getElem?_eq_getElem (by omega))
    have h3:=h1 (j % 4) (by omega)
    rw [show j / 4 * 4 + j % 4 = j by omega] at h3
    exact ⟨cs'[j % 4]'(by omega),by rw [h3,List.getElem?_eq_getElem (by omega)]⟩)
   subst hts
   refine ⟨⟨k,n,q,ts⟩,⟨some a,cap,xs,rfl,hlc,⟨i64_ofT w0,i64_ofT w1,i64_ofT w2⟩,⟨hxs,fun hp=>⟨a,rfl,?_,hxs2⟩⟩,fun i u hu=>?_⟩,?_⟩
   ·have hp':0 < ts.length:=hp
    have hx0:0 < xs.length:=by rw [hxs]; omega
    have h0:=hxs2 0 xs[0] (List.getElem?_eq_getElem hx0)
    have:=block_lt_of_cell h0
    rw [block_of_add] at this
    exact this
   ·have hi:i < ts.length:=(List.getElem?_eq_some_iff.1 hu).1
    obtain ⟨cs',h1,h2,h4,_⟩:=hts2 i u hu
    have he:(xs.drop (i * 4)).take 4 = cs':=by
     refine List.ext_getElem? fun j=>?_
     by_cases hj:j < 4
     ·rw [List.getElem?_take,if_pos hj,List.getElem?_drop]
      have hlt:i * 4 + j < xs.length:=by rw [hxs]; omega
      have h5:=hxs2 (i * 4 + j) xs[i * 4 + j] (List.getElem?_eq_getElem hlt)
      rw [List.getElem?_eq_getElem hlt,← h5]
      exact h1 j hj
     ·rw [List.getElem?_eq_none (by rw [List.length_take]; omega),List.getElem?_eq_none (by omega)]
    rw [he]
    have hnm:n'≤m:=by omega
    exact h4.deeper hnm
   ·subst hx3
    have h6:=sum_bulk ts elems (by omega) fun i t ht=>by
     obtain ⟨_,_,_,_,h⟩:=hts2 i t ht
     exact h
    rw [size_eq]
    simp only [List.map_cons,List.map_nil,Rows.uptoBulk,Rows.uptoBulkAll]
    omega
theorem op_nodeB {spare : Nat → Bool} {v : Value} {d : DataW H} {ps : List MemPlace} (hsp : spare = fun _ => true) (hv : Value.okWide Tryd.prog w r b0 25 v) (hd : DataW.Trod enc Tryd.prog w base spare held 25 v d ps) :
  ∃ (t:T) (A:Option Addr) (c D:Nat),v = .agg #[.int .i64 t.k,.int .i64 t.n,.int .i64 t.m,.slice A t.kids.length c]∧Rep w (Lt w.heap.size) D t (nd t A c)∧2 * size t≤Rows.uptoBulk d:=by
 subst hsp
 obtain ⟨cs,rfl,hsz⟩:=okWide_struct Tryd.underlying25 hv
 obtain ⟨fuel,hf⟩:=hd
 obtain ⟨t,hr,hb⟩:=rep_of_trodB fuel _ _ hf
 obtain ⟨A,c,he,_⟩:=hr.form
 refine ⟨t,A,c,fuel,?_,by rw [← he]; exact hr,hb⟩
 have h1:cs.toList = nd t A c:=by simpa [Value.cells] using he
 have h2:cs = (nd t A c).toArray:=by rw [← h1]
 rw [h2]
 rfl
theorem bulk_part {d:DataW H} {l:List (DataW H)} (h:d ∈ l):Rows.uptoBulk d≤Rows.uptoBulkAll l:=by
 induction l with
 | nil=>cases h
 | cons x r ih =>
  simp only [Rows.uptoBulkAll]
  rcases List.mem_cons.1 h with rfl | e
  ·omega
  ·have:=ih e; omega
theorem small_part {d:DataW H} {l:List (DataW H)} (hk:Rows.uptoSmall H l = true) (hm:d ∈ l):Rows.uptoBulk d≤1048576:=by
 have h:Rows.uptoBulkAll l≤1048576:=of_decide_eq_true hk
 exact Nat.le_trans (bulk_part hm) h
end
end Go.Proofs.YtkkenbalpnmfmaaDoor
