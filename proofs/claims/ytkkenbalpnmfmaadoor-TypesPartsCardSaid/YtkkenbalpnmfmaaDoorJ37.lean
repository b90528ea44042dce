/- Texts joined. -/
import Derived.Test.YtkkenbalpnmfmaaDoorJ36
import Derived.Test.YtkkenbalpnmfmaaDoorJ31
import Derived.Test.YtkkenbalpnmfmaaDoorJ11
import Derived.BigQuiet
import Derived.Test.YtkkenbalpnmfmaaDoorJ18
import Derived.Deep.RegionHeldLaw
import Derived.RegionTactic
set_option linter.unusedVariables false
namespace Go.Proofs.YtkkenbalpnmfmaaDoor.TY
open TR

structure Ext (s s':Sc):Prop where
 v:∀ (i:Nat) (t:T),s.vars[i]? = some t→s'.vars[i]? = some t
 f:∀ (i:Nat) (u:T),s.funs[i]? = some u→∃ u',s'.funs[i]? = some u'∧u'.n = u.n∧u'.kids.take u.n.toNat = u.kids.take u.n.toNat
 c:s.ch≤s'.ch
theorem tAt_some {l:List T} {n:Int} {t:T} (h:l[n.toNat]? = some t):tAt l n = t:=by
 unfold tAt; rw [List.getD_eq_getElem?_getD,h]; rfl
theorem vars_ext {s s':Sc} (h:Ext s s') {n:Int} (h0:0≤n) (h1:¬ (s.vars.length:Int)≤n):tAt s'.vars n = tAt s.vars n∧¬ (s'.vars.length:Int)≤n:=by
 have hlt:n.toNat < s.vars.length:=by omega
 have e0:=List.getElem?_eq_getElem hlt
 have e:=h.v n.toNat _ e0
 have e2:=(List.getElem?_eq_some_iff.1 e).1
 exact ⟨by rw [tAt_some e,tAt_some e0],by omega⟩
theorem funs_ext {s s':Sc} (h:Ext s s') {n:Int} (h0:0≤n) (h1:¬ (s.funs.length:Int)≤n):(tAt s'.funs n).n = (tAt s.funs n).n∧TY.params s' n = TY.params s n∧¬ (s'.funs.length:Int)≤n:=by
 have hlt:n.toNat < s.funs.length:=by omega
 have e0:=List.getElem?_eq_getElem hlt
 obtain ⟨u',e,e1,e3⟩:=h.f n.toNat _ e0
 have e2:=(List.getElem?_eq_some_iff.1 e).1
 refine ⟨by rw [tAt_some e,tAt_some e0,e1],?_,by omega⟩
 unfold TY.params
 rw [tAt_some e,tAt_some e0,e1,e3]
theorem node_ext {s s' : Sc} (h : Ext s s') {x : T} (hn : NOk x) (hm : missing s x = false) (hu : misused s x = false) :
  missing s' x = false∧misused s' x = false∧typeOf s' x = typeOf s x∧wants s' x = wants s x:=by
 by_cases hv:x.k = 6∨x.k = 7∨x.k = 14∨x.k = 15∨x.k = 21∨x.k = 8∨x.k = 16
 ·have h0:=hn.n (by omega)
  have h1:¬ (s.vars.length:Int)≤x.n:=by
   intro hc
   rcases hv with hk | hk | hk | hk | hk | hk | hk <;> simp [missing,hk] at hm <;> omega
  obtain ⟨e1,e2⟩:=vars_ext h h0 h1
  have em:missing s' x = missing s x:=by rcases hv with hk | hk | hk | hk | hk | hk | hk <;> simp [missing,hk,e1,h1,e2]
  have eu:misused s' x = misused s x:=by rcases hv with hk | hk | hk | hk | hk | hk | hk <;> simp [misused,hk,e1]
  have en:named s' x = named s x:=by unfold named; rw [e1]
  refine ⟨by rw [em]; exact hm,by rw [eu]; exact hu,?_,?_⟩
  ·unfold typeOf; rw [em,eu,en]
  ·rcases hv with hk | hk | hk | hk | hk | hk | hk <;> simp [wants,hk,en]
 ·by_cases hf:x.k = 11∨x.k = 23
  ·have h0:=hn.n (by omega)
   have h1:¬ (s.funs.length:Int)≤x.n:=by
    intro hc
    rcases hf with hk | hk <;> simp [missing,hk] at hm <;> omega
   obtain ⟨e1,e2,e3⟩:=funs_ext h h0 h1
   refine ⟨by rcases hf with hk | hk <;> simp [missing,hk] <;> omega,?_,by rcases hf with hk | hk <;> simp [typeOf,hk],by rcases hf with hk | hk <;> simp [wants,hk,e2]⟩
   rw [← hu]
   rcases hf with hk | hk <;> simp [misused,hk,e1]
  ·have hmis : misused s' x = false := by
    unfold misused
    rw [if_neg (by omega),if_neg (by omega),if_neg (by omega),if_neg (by omega),if_neg (by omega)]
   have hty:typeOf s' x = typeOf s x:=by
    unfold typeOf
    by_cases h5:x.k = 5∨x.k = 10
    ·rw [if_pos h5,if_pos h5]
    ·rw [if_neg h5,if_neg h5]
     by_cases h9:x.k = 9
     ·rw [if_pos h9,if_pos h9]
     ·rw [if_neg h9,if_neg h9,if_neg (by omega),if_neg (by omega)]
   have hwa:wants s' x = wants s x:=by
    have n1:¬ (x.k = 14∨x.k = 16):=by omega
    have n2:¬ (x.k = 11∨x.k = 23):=hf
    unfold wants
    simp only [n1,n2,if_false]
   refine ⟨?_,hmis,hty,hwa⟩
   unfold missing at hm ⊢
   rw [if_neg (by omega),if_neg (by omega),if_neg (by omega)] at hm ⊢
   by_cases hc:x.k = 12∨x.k = 22
   ·rw [if_pos hc] at hm ⊢
    have:=h.c
    simp at hm ⊢
    omega
   ·rw [if_neg hc]
theorem errOf_zero {s:Sc} {x:T} (h:errOf s x = 0):missing s x = false∧misused s x = false∧fitB s x.kids (wants s x) = true:=by
 unfold errOf at h
 cases hm:missing s x
 ·cases hu:misused s x
  ·cases hb:fitB s x.kids (wants s x)
   ·simp [hm,hu,hb] at h
   ·exact ⟨rfl,rfl,rfl⟩
  ·simp [hm,hu] at h
 ·simp [hm] at h
theorem errOf_of {s:Sc} {x:T} (h1:missing s x = false) (h2:misused s x = false) (h3:fitB s x.kids (wants s x) = true):errOf s x = 0:=by
 unfold errOf; simp [h1,h2,h3]
theorem zip_ext {s s':Sc}:∀ (l:List T) (ks:List Int),(∀ u ∈ l,typeOf s' u = typeOf s u)→List.zipWith (fit1 s') l ks = List.zipWith (fit1 s) l ks
 | [],_,_=>by simp
 | _ :: _,[],_=>by simp
 | u :: l,k :: ks,h=>by
  rw [List.zipWith_cons_cons,List.zipWith_cons_cons,zip_ext l ks fun v hv=>h v (List.mem_cons_of_mem _ hv)]
  unfold fit1
  rw [h u (List.mem_cons_self ..)]
theorem okW_ext {s s':Sc} (h:Ext s s') (x:T) (hf:Fit x) (hx:okW s x):okW s' x:=by
 obtain ⟨h1,h2⟩:=(ok_iff s x).1 hx
 refine (ok_iff s' x).2 ⟨?_,fun u hu=>okW_ext h u (hf.kids u hu) (h2 u hu)⟩
 obtain ⟨e1,e2,e3⟩:=errOf_zero h1
 obtain ⟨f1,f2,f3,f4⟩:=node_ext h (nok_of hf) e1 e2
 refine errOf_of f1 f2 ?_
 rw [f4]
 unfold fitB at e3 ⊢
 rw [zip_ext x.kids _ fun u hu=>?_]
 ·exact e3
 ·obtain ⟨g1,g2,_⟩:=errOf_zero ((ok_iff s u).1 (h2 u hu)).1
  exact (node_ext h (nok_of (hf.kids u hu)) g1 g2).2.2.1
 termination_by x
 decreasing_by exact kid_lt hu
end Go.Proofs.YtkkenbalpnmfmaaDoor.TY
namespace Go.Proofs.YtkkenbalpnmfmaaDoor
open TR TY

theorem chk_ofM {q:T} (hq:isProg q = true) (hk:∀ v ∈ q.kids,okW (scO q v) v):chk q = ([],0):=by
 unfold chk; rw [if_pos hq]; exact chkL_ok _ _ _ hk
theorem okW_of_chkL2 (p:T):∀ (l:List T) (i:Nat),(chkL p l i).2 = 0→∀ u ∈ l,okW (scO p u) u
 | [],_,_,u,hu=>by simp at hu
 | y :: l,i,h,u,hu=>by
  rw [chkL] at h
  by_cases hy:(firstW (scO p y) y).2 = 0
  ·rw [if_neg (by simpa using hy)] at h
   rcases List.mem_cons.1 hu with rfl | hu
   ·exact hy
   ·exact okW_of_chkL2 p l (i + 1) h u hu
  ·rw [if_pos hy] at h
   exact absurd h hy
theorem okk_of {p:T} (hp:Fine p):∀ u ∈ p.kids,okW (scO p u) u:=by
 have h:=hp.chk
 unfold chk at h
 rw [if_pos hp.prog] at h
 exact okW_of_chkL2 p p.kids 0 (by rw [h])




end Go.Proofs.YtkkenbalpnmfmaaDoor

namespace Go.Proofs.YtkkenbalpnmfmaaDoor
open Go.RowKit WM TR TY



end Go.Proofs.YtkkenbalpnmfmaaDoor

namespace Go.Proofs.YtkkenbalpnmfmaaDoor
open Go.RowKit WM TR TY


theorem Rep.tight {w:World} {S:Nat→Prop}:∀ {D d:Nat} {t:T} {cs:List Value},Rep w S D t cs→depth t≤d→Rep w S d t cs
 | 0,_,_,_,h,_=>h.elim
 | D + 1,0,t,_,_,hd=>by have:=depth_eq t; omega
 | D + 1,d + 1,t,_,⟨A,c,xs,h1,h2,h3,h4,h5⟩,hd=>⟨A,c,xs,h1,h2,h3,h4,fun i u hu=>Rep.tight (h5 i u hu) (by have:=depth_kid hu; omega)⟩
theorem Reps.app {w:World} {S:Nat→Prop} {d:Nat} {ts us:List T} {xs ys:List Value} (h:Reps w S d ts xs) (k:Reps w S d us ys):Reps w S d (ts ++ us) (xs ++ ys):=by
 refine ⟨by rw [List.length_append,List.length_append,h.1,k.1]; omega,fun i u hu=>?_⟩
 by_cases hi:i < ts.length
 ·rw [List.getElem?_append_left hi] at hu
  have:=h.2 i u hu
  rw [List.drop_append_of_le_length (by rw [h.1]; omega),List.take_append_of_le_length (by rw [List.length_drop,h.1]; omega)]
  exact this
 ·rw [List.getElem?_append_right (by omega)] at hu
  have:=k.2 _ u hu
  have e:(xs ++ ys).drop (i * 4) = ys.drop ((i - ts.length) * 4):=by
   rw [List.drop_append,List.drop_eq_nil_of_le (by rw [h.1]; omega),List.nil_append]
   congr 1
   rw [h.1]; omega
  rw [e]; exact this
structure AR (B0 B D:Nat) (w:World) (v:Value) (ts:List T) (xs:List Value):Prop where
 own:w.ownsRow B 25 4 v ts.length xs
 reps:Reps w (Lt B0) D ts xs
 le:B0≤B
theorem AR.nil {B0 B D:Nat} {w:World} (h:B0≤B):AR B0 B D w (.slice none 0 0) [] []:=⟨World.ownsRow_nil _ _ _ _,Reps.nil,h⟩
theorem AR.later {B0 B D:Nat} {w w':World} {v:Value} {ts:List T} {xs:List Value} (h:AR B0 B D w v ts xs) (hB:B≤w.heap.size) (hb:Below w.heap.size w w'):AR B0 B D w' v ts xs :=
 ⟨ownsRow_below h.own hb,h.reps.keep (Keeps.below (fun b (hb:b < B0)=>by have:=h.le; omega) hb),h.le⟩
theorem below_gwB {B:Nat} {a w w':World} {row:Option Nat} (hb:Below B a w) (h:w.grownBy w' row) (hB:B≤w.heap.size) (hr:∀ b,row = some b→B≤b):Below B a w' :=
 ⟨h.os.trans hb.os,h.tape.trans hb.tape,h.output.trans hb.output,Nat.le_trans hb.size h.size,fun i hi=>(h.block i (Nat.lt_of_lt_of_le hi hB) (fun e=>by have:=hr i e.symm; omega)).trans (hb.block i hi)⟩
theorem AR.put {B0 B D m:Nat} {w w':World} {v v':Value} {ts us:List T} {xs ys:List Value} (h:AR B0 B D w v ts xs) (hB:B≤w.heap.size) (hu:Reps w (Lt B0) D us ys) (hm:us.length = m) (hown:w'.ownsRow B 25 4 v' (ts.length + m) (xs ++ ys)) (hg:w.grownBy w' v.ownBlock):AR B0 B D w' v' (ts ++ us) (xs ++ ys)∧Below B w w':=by
 have hb:Below B w w':=below_gwB (Below.refl _ _) hg hB fun b e=>(h.own.lt b e).1
 exact ⟨⟨by rw [List.length_append,hm]; exact hown,(h.reps.app hu).keep (Keeps.below (fun b (hb:b < B0)=>Nat.lt_of_lt_of_le hb h.le) hb),h.le⟩,hb⟩
theorem AR.rep {B0 B D c:Nat} {w:World} {A:Option Addr} {ts:List T} {xs:List Value} {k n m:Int} (h:AR B0 B D w (.slice A ts.length c) ts xs) (hB:B≤w.heap.size) (hk:inRange k) (hn:inRange n) (hm:inRange m):Rep w (Lt w.heap.size) (D + 1) ⟨k,n,m,ts⟩ (nd ⟨k,n,m,ts⟩ A c):=by
 obtain ⟨A',c',e,hc⟩:=own_len h.own
 injection e with _ _ e3
 exact Rep.mk hk hn hm (by omega) ((Rd.of_own h.own).mono fun b hb=>hb.2) (h.reps.mono fun b (hb:b < B0)=>by have:=h.le; show b < _; omega)
theorem AR.store {B0 B D g i:Nat} {w:World} {v u:Value} {ts:List T} {xs:List Value} (h:AR B0 B D w v ts xs) (h0:B0≤g) (hg:g < B):AR B0 B D (w.setCell ⟨g,i,none⟩ u) v ts xs :=
 ⟨ownsRow_setCell_below h.own hg u,h.reps.keep (Keeps.setCell (Keeps.refl _ _) (fun (hb:g < B0)=>by omega) u),h.le⟩


theorem sum_set (f:T→Nat) (x:T):∀ (l:List T) (k:Nat),((l.set k x).map f).sum≤(l.map f).sum + f x
 | [],_=>by simp
 | a :: l,0=>by simp only [List.set_cons_zero,List.map_cons,List.sum_cons]; omega
 | a :: l,k + 1=>by have:=sum_set f x l k; simp only [List.set_cons_succ,List.map_cons,List.sum_cons]; omega

end Go.Proofs.YtkkenbalpnmfmaaDoor

namespace Go.Proofs.YtkkenbalpnmfmaaDoor
open Go.RowKit WM TR TY

def ndR (s:Sc) (x:T):Int × List Int:=if missing s x = true then (5,[]) else if misused s x = true then (12,[]) else (0,wants s x)






end Go.Proofs.YtkkenbalpnmfmaaDoor

namespace Go.Proofs.YtkkenbalpnmfmaaDoor
open Go.RowKit WM TR TY


end Go.Proofs.YtkkenbalpnmfmaaDoor
