/- Texts joined. -/
import Derived.Test.YtkkenbalpnmfmaaDoorJ02
set_option linter.unusedVariables false
namespace Go.Proofs.YtkkenbalpnmfmaaDoor.TY
open TR

def nilT:T:=⟨0,0,0,[]⟩
structure Sc where
 vars:List T
 funs:List T
 ch:Int
def tAt (l:List T) (n:Int):T:=l.getD n.toNat nilT
def scal (k:Int):Bool:=k == 0 || k == 1
def missing (s:Sc) (x:T):Bool :=
 if x.k = 6∨x.k = 7∨x.k = 14∨x.k = 15∨x.k = 21 then decide ((s.vars.length:Int)≤x.n)
 else if x.k = 8∨x.k = 16 then decide ((s.vars.length:Int)≤x.n) || ((tAt s.vars x.n).k == 3 && decide (((tAt s.vars x.n).kids.length:Int)≤x.m))
 else if x.k = 11∨x.k = 23 then decide ((s.funs.length:Int)≤x.n)
 else if x.k = 12∨x.k = 22 then decide (s.ch≤x.n)
 else false
def misused (s:Sc) (x:T):Bool :=
 if x.k = 6∨x.k = 14 then !scal (tAt s.vars x.n).k
 else if x.k = 7∨x.k = 15 then (tAt s.vars x.n).k != 2
 else if x.k = 8∨x.k = 16 then (tAt s.vars x.n).k != 3
 else if x.k = 21 then (tAt s.vars x.n).k != 0
 else if x.k = 11∨x.k = 23 then (x.kids.length:Int) != (tAt s.funs x.n).n
 else false
def named (s:Sc) (x:T):Int:=if (tAt s.vars x.n).k = 3 then (tAt (tAt s.vars x.n).kids x.m).k else (tAt s.vars x.n).k
def typeOf (s:Sc) (x:T):Int :=
 if x.k = 5∨x.k = 10 then 1
 else if x.k = 9 then (if 10≤x.n then 1 else 0)
 else if x.k = 6∨x.k = 8 then (if missing s x || misused s x then -1 else named s x)
 else 0
def params (s:Sc) (f:Int):List Int:=((tAt s.funs f).kids.take (tAt s.funs f).n.toNat).map (·.k)
def wants (s:Sc) (x:T):List Int :=
 if x.k = 9 then (if x.n≤11 then [0,0] else [1,1])
 else if x.k = 10∨x.k = 17∨x.k = 18 then [1]
 else if x.k = 7∨x.k = 19∨x.k = 20∨x.k = 24∨x.k = 22 then [0]
 else if x.k = 15 then [0,0]
 else if x.k = 14∨x.k = 16 then [named s x]
 else if x.k = 11∨x.k = 23 then params s x.n
 else []
def fit1 (s:Sc) (u:T) (k:Int):Bool:=typeOf s u == k || typeOf s u == -1
def fitB (s:Sc) (kids:List T) (l:List Int):Bool:=(List.zipWith (fit1 s) kids l).all id
def errOf (s:Sc) (x:T):Int :=
 if missing s x then 5 else if misused s x || !fitB s x.kids (wants s x) then 12 else 0
def firstW (s:Sc) (x:T):List Int × Int :=
 if errOf s x≠0 then ([],errOf s x)
 else match (x.kids.attach.zipIdx.map fun (u,i)=>(i,firstW s u.1)).find? (fun r=>r.2.2 != 0) with
  | some r=>((r.1:Int) :: r.2.1,r.2.2)
  | none=>([],0)
 termination_by x
 decreasing_by exact kid_lt u.2
def firstL (s:Sc):List T→Nat→List Int × Int
 | [],_=>([],0)
 | u :: l,i=>if (firstW s u).2≠0 then ((i:Int) :: (firstW s u).1,(firstW s u).2) else firstL s l (i + 1)
theorem find_firstL (s : Sc) : ∀ (l : List T) (i : Nat), (match ((l.zipIdx i).map fun r => (r.2, firstW s r.1)).find? (fun r => r.2.2 != 0) with
  | some r=>((r.1:Int) :: r.2.1,r.2.2)
  | none=>([],0)) = firstL s l i
 | [],i=>rfl
 | u :: l,i=>by
  rw [List.zipIdx_cons,List.map_cons,List.find?_cons,firstL]
  by_cases h:(firstW s u).2 = 0
  ·rw [if_neg (by simpa using h)]
   simp only [h,bne_self_eq_false]
   exact find_firstL s l (i + 1)
  ·rw [if_pos h]
   have:((firstW s u).2 != 0) = true:=by simpa using h
   simp only [this]
theorem firstW_eq (s:Sc) (x:T):firstW s x = if errOf s x≠0 then ([],errOf s x) else firstL s x.kids 0:=by
 rw [firstW]
 split
 ·rfl
 ·have h : x.kids.attach.zipIdx.map (fun r => (r.2, firstW s r.1.1)) = (x.kids.zipIdx 0).map fun r => (r.2, firstW s r.1) := by
   conv=>rhs; rw [← List.attach_map_subtype_val x.kids,List.zipIdx_map,List.map_map]
   rfl
  have h2:=find_firstL s x.kids 0
  rw [← h] at h2
  exact h2

def scO (p:T) (u:T):Sc:=⟨u.kids.take (u.kids.length - 1),p.kids,p.n⟩
end Go.Proofs.YtkkenbalpnmfmaaDoor.TY
