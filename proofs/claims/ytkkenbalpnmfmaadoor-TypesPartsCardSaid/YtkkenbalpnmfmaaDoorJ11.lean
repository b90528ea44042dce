/- Texts joined. -/
import Derived.Test.YtkkenbalpnmfmaaDoorJ05
import Derived.Test.YtkkenbalpnmfmaaDoorJ10
import Derived.BigQuiet
import Derived.Deep.QuietTactic
import Derived.Deep.DeepCutAuto
import Derived.Deep.CutRange
import Derived.Deep.RegionHeld2
import Derived.Test.YtkkenbalpnmfmaaDoorJ07
import Derived.Deep.RegionHeld3
set_option linter.unusedVariables false
namespace Go.Proofs.YtkkenbalpnmfmaaDoor.TR
def isPlain (t:T):Bool:=(t.k == 0 || t.k == 1) && t.n == 0 && t.m == 0 && t.kids.length == 0
def btw (t:T) (most last least kids:Int):Bool:=decide (0≤t.n) && decide (t.n≤most) && decide (0≤t.m) && decide (t.m≤last) && decide (least≤t.kids.length) && decide ((t.kids.length:Int)≤kids)
end Go.Proofs.YtkkenbalpnmfmaaDoor.TR
namespace Go.Proofs.YtkkenbalpnmfmaaDoor
open Go.RowKit WM TR



end Go.Proofs.YtkkenbalpnmfmaaDoor

namespace Go.Proofs.YtkkenbalpnmfmaaDoor.TR
def isType (t:T):Bool :=
 if t.k == 2 then decide (1≤t.n) && decide (t.n≤4) && t.m == 0 && t.kids.length == 0
 else if t.k == 3 then (t.n == 0 && t.m == 0 && decide (1≤t.kids.length) && decide (t.kids.length≤3)) && t.kids.all isPlain
 else isPlain t

end Go.Proofs.YtkkenbalpnmfmaaDoor.TR
namespace Go.Proofs.YtkkenbalpnmfmaaDoor
open Go.RowKit WM TR



end Go.Proofs.YtkkenbalpnmfmaaDoor

namespace Go.Proofs.YtkkenbalpnmfmaaDoor.TR
def exprHead (t:T):Bool :=
 if t.k = 4 then decide (-8≤t.n) && decide (t.n≤7) && t.m == 0 && t.kids.length == 0
 else if t.k = 5 then btw t 1 0 0 0
 else if t.k = 6 then btw t 5 0 0 0
 else if t.k = 7 then btw t 5 0 1 1
 else if t.k = 8 then btw t 5 2 0 0
 else if t.k = 9 then btw t 13 0 2 2
 else if t.k = 10 then btw t 0 0 1 1
 else if t.k = 11 then btw t 5 0 0 3
 else if t.k = 12 then btw t 2 0 0 0
 else false
def isExpr (t:T):Bool:=exprHead t && t.kids.attach.all fun u=>isExpr u.1
 termination_by t
 decreasing_by exact kid_lt u.2
theorem isExpr_eq (t:T):isExpr t = (exprHead t && t.kids.all isExpr):=by
 rw [isExpr]
 congr 1
 simp
end Go.Proofs.YtkkenbalpnmfmaaDoor.TR
namespace Go.Proofs.YtkkenbalpnmfmaaDoor
open Go.RowKit WM TR








end Go.Proofs.YtkkenbalpnmfmaaDoor

namespace Go.Proofs.YtkkenbalpnmfmaaDoor.TR
def kidB (l:List Bool) (i:Nat):Bool:=l[i]?.getD false
def stmtOf (t:T) (ex bl st:List Bool):Bool :=
 if t.k = 13 then btw t 0 0 0 8 && st.all id
 else if t.k = 17 then btw t 0 0 3 3 && kidB ex 0 && kidB bl 1 && kidB bl 2
 else if t.k = 18 then btw t 0 0 2 2 && kidB ex 0 && kidB bl 1
 else if t.k = 21 then btw t 5 0 2 2 && kidB bl 0 && kidB bl 1
 else if t.k = 14 then btw t 5 0 1 1 && ex.all id
 else if t.k = 15 then btw t 5 0 2 2 && ex.all id
 else if t.k = 16 then btw t 5 2 1 1 && ex.all id
 else if t.k = 19∨t.k = 20∨t.k = 24 then btw t 0 0 1 1 && ex.all id
 else if t.k = 22 then btw t 2 0 1 1 && ex.all id
 else if t.k = 23 then btw t 5 0 0 3 && ex.all id
 else t.k == 25 && btw t 0 0 0 0
def isStmt (t:T):Bool:=stmtOf t (t.kids.map isExpr) (t.kids.attach.map fun u=>u.1.k == 13 && isStmt u.1) (t.kids.attach.map fun u=>isStmt u.1)
 termination_by t
 decreasing_by
  ·exact kid_lt u.2
  ·exact kid_lt u.2
def isBlock (t:T):Bool:=t.k == 13 && isStmt t
theorem isStmt_eq (t:T):isStmt t = stmtOf t (t.kids.map isExpr) (t.kids.map isBlock) (t.kids.map isStmt):=by
 rw [isStmt,List.attach_map_val (f:=isStmt)]
 congr 1
 exact List.attach_map_val (f:=isBlock)
theorem isBlock_eq (t:T):isBlock t = ((t.k == 13 && btw t 0 0 0 8) && t.kids.all isStmt):=by
 rw [isBlock]
 by_cases h:t.k = 13
 ·have h1:(t.k == 13) = true:=by rw [h]; rfl
  rw [isStmt_eq,stmtOf,if_pos h,h1,List.all_map,Bool.true_and,Bool.true_and]
  rfl
 ·have h1:(t.k == 13) = false:=by simpa using h
  rw [h1]; rfl
end Go.Proofs.YtkkenbalpnmfmaaDoor.TR
namespace Go.Proofs.YtkkenbalpnmfmaaDoor
open Go.RowKit WM TR




end Go.Proofs.YtkkenbalpnmfmaaDoor

namespace Go.Proofs.YtkkenbalpnmfmaaDoor.TY
open TR

def okW (s:Sc) (x:T):Prop:=(firstW s x).2 = 0
theorem firstL_ok (s:Sc):∀ (l:List T) (i:Nat),(firstL s l i).2 = 0↔∀ u ∈ l,okW s u
 | [],i=>by simp [firstL]
 | u :: l,i=>by
  rw [firstL]
  by_cases h:(firstW s u).2 = 0
  ·rw [if_neg (by simpa using h),firstL_ok s l (i + 1)]
   simp [okW,h]
  ·rw [if_pos h]
   simp [okW,h]
theorem ok_iff (s:Sc) (x:T):okW s x↔errOf s x = 0∧∀ u ∈ x.kids,okW s u:=by
 unfold okW
 rw [firstW_eq]
 by_cases h:errOf s x = 0
 ·rw [if_neg (by simpa using h),firstL_ok]
  simp [h,okW]
 ·rw [if_pos h]
  simp [h]
structure GE (s:Sc) (t:T) (k:Int):Prop where
 ex:isExpr t = true
 ok:okW s t
 ty:typeOf s t = k
structure GS (s:Sc) (t:T):Prop where
 st:isStmt t = true
 ok:okW s t
structure GB (s:Sc) (t:T):Prop where
 bl:isBlock t = true
 ok:okW s t
theorem tAt_of {l:List T} {v:Nat} {u:T} (h:l[v]? = some u):tAt l (v:Int) = u:=by
 unfold tAt
 rw [Int.toNat_natCast,List.getD_eq_getElem?_getD,h]; rfl
theorem len_of {l:List T} {v:Nat} {u:T} (h:l[v]? = some u):v < l.length:=(List.getElem?_eq_some_iff.1 h).1
theorem leaf_ok {s:Sc} {k n m:Int} (h:errOf s ⟨k,n,m,[]⟩ = 0):okW s ⟨k,n,m,[]⟩:=(ok_iff s _).2 ⟨h,fun u hu=>by simp at hu⟩
theorem GE.num {s:Sc} {n:Int} (h0:-8≤n) (h1:n≤7):GE s ⟨4,n,0,[]⟩ 0 :=
 ⟨by rw [isExpr_eq]; simp [exprHead]; omega,leaf_ok (by simp [errOf,missing,misused,wants,fitB]),by simp [typeOf]⟩
theorem GE.truth {s:Sc} {n:Int} (h0:0≤n) (h1:n≤1):GE s ⟨5,n,0,[]⟩ 1 :=
 ⟨by rw [isExpr_eq]; simp [exprHead,btw]; omega,leaf_ok (by simp [errOf,missing,misused,wants,fitB]),by simp [typeOf]⟩
theorem GE.var {s:Sc} {v:Nat} {u:T} {k:Int} (h:s.vars[v]? = some u) (hk:u.k = k) (hk2:k = 0∨k = 1) (hv:s.vars.length≤6):GE s ⟨6,v,0,[]⟩ k:=by
 have h1:=tAt_of h
 have h2:=len_of h
 have h3:¬ ((s.vars.length:Int)≤v):=by omega
 have hs:scal u.k = true:=by rw [hk]; rcases hk2 with rfl | rfl <;> rfl
 refine ⟨by rw [isExpr_eq]; simp [exprHead,btw]; omega,leaf_ok ?_,?_⟩
 ·simp [errOf,missing,misused,wants,fitB,h1,hs]; omega
 ·have h4:scal k = true:=by rw [← hk]; exact hs
  have h5:¬ s.vars.length≤v:=by omega
  simp [typeOf,missing,misused,named,h1,hk,h4,h5]
  omega
theorem GE.field {s:Sc} {v m:Nat} {u y:T} {k:Int} (h:s.vars[v]? = some u) (hu:u.k = 3) (hy:u.kids[m]? = some y) (hk:y.k = k) (hv:s.vars.length≤6) (hm:m≤2):GE s ⟨8,v,m,[]⟩ k:=by
 have h1:=tAt_of h
 have h2:=len_of h
 have h3:=tAt_of hy
 have h4:=len_of hy
 refine ⟨by rw [isExpr_eq]; simp [exprHead,btw]; omega,leaf_ok ?_,?_⟩
 ·simp [errOf,missing,misused,wants,fitB,h1,hu]; omega
 ·simp [typeOf,missing,misused,named,h1,hu,h3,hk]; omega
theorem fit_of {s:Sc} {t:T} {k:Int} (h:GE s t k):fit1 s t k = true:=by unfold fit1; rw [h.ty]; simp
theorem GE.elem {s:Sc} {v:Nat} {u x:T} (h:s.vars[v]? = some u) (hu:u.k = 2) (hx:GE s x 0) (hv:s.vars.length≤6):GE s ⟨7,v,0,[x]⟩ 0:=by
 have h1:=tAt_of h
 have h2:=len_of h
 refine ⟨by rw [isExpr_eq]; simp [exprHead,btw,hx.ex]; omega,(ok_iff s _).2 ⟨?_,fun y hy=>by simp at hy; rw [hy]; exact hx.ok⟩,by simp [typeOf]⟩
 simp [errOf,missing,misused,wants,fitB,h1,hu,fit_of hx]; omega
theorem GE.not {s:Sc} {x:T} (hx:GE s x 1):GE s ⟨10,0,0,[x]⟩ 1:=by
 refine ⟨by rw [isExpr_eq]; simp [exprHead,btw,hx.ex],(ok_iff s _).2 ⟨?_,fun y hy=>by simp at hy; rw [hy]; exact hx.ok⟩,by simp [typeOf]⟩
 simp [errOf,missing,misused,wants,fitB,fit_of hx]
theorem two_ok {s:Sc} {a b:T} (ha:okW s a) (hb:okW s b):∀ y ∈ [a,b],okW s y:=fun y hy=>by
 simp at hy
 rcases hy with rfl | rfl
 ·exact ha
 ·exact hb
theorem GE.bin {s:Sc} {op k k2:Int} {a b:T} (h0:0≤op) (h1:op≤13) (hk:(if op≤11 then 0 else 1) = k) (hk2:(if 10≤op then 1 else 0) = k2) (ha:GE s a k) (hb:GE s b k):GE s ⟨9,op,0,[a,b]⟩ k2:=by
 refine ⟨by rw [isExpr_eq]; simp [exprHead,btw,ha.ex,hb.ex]; omega,(ok_iff s _).2 ⟨?_,two_ok ha.ok hb.ok⟩,by simp [typeOf]; exact hk2⟩
 have hf1:=fit_of ha
 have hf2:=fit_of hb
 by_cases h:op≤11
 ·rw [if_pos h] at hk; subst hk
  simp [errOf,missing,misused,wants,fitB,h,hf1,hf2]
 ·rw [if_neg h] at hk; subst hk
  simp [errOf,missing,misused,wants,fitB,h,hf1,hf2]
theorem GE.recv {s:Sc} {n:Int} (h0:0≤n) (h1:n < s.ch) (h2:s.ch≤3):GE s ⟨12,n,0,[]⟩ 0 :=
 ⟨by rw [isExpr_eq]; simp [exprHead,btw]; omega,leaf_ok (by simp [errOf,missing,misused,wants,fitB]; omega),by simp [typeOf]⟩
def Args (s:Sc) (u:T) (ts:List T):Prop:=∀ (i:Nat) (x y:T),ts[i]? = some x→u.kids[i]? = some y→GE s x y.k
theorem zip_all {s:Sc}:∀ (ts ys:List T),ts.length≤ys.length→(∀ (i:Nat) (x y:T),ts[i]? = some x→ys[i]? = some y→GE s x y.k)→(List.zipWith (fit1 s) ts (ys.map (·.k))).all id = true
 | [],_,_,_=>by simp
 | t :: ts,[],h,_=>by simp at h
 | t :: ts,y :: ys,h,hg=>by
  simp only [List.map_cons,List.zipWith_cons_cons,List.all_cons,Bool.and_eq_true,id]
  refine ⟨fit_of (hg 0 t y rfl rfl),zip_all ts ys (by simpa using h) fun i x z h1 h2=>hg (i + 1) x z (by simpa using h1) (by simpa using h2)⟩
theorem args_fit {s:Sc} {f:Nat} {u:T} {ts:List T} (h:s.funs[f]? = some u) (hl:(ts.length:Int) = u.n) (hn:u.n≤u.kids.length) (ha:Args s u ts):fitB s ts (params s f) = true:=by
 unfold fitB params
 rw [tAt_of h]
 refine zip_all ts (u.kids.take u.n.toNat) (by rw [List.length_take]; omega) fun i x y h1 h2=>?_
 rw [List.getElem?_take] at h2
 split at h2
 ·exact ha i x y h1 h2
 ·cases h2
theorem args_ok {s:Sc} {u:T} {ts:List T} (hl:ts.length≤u.kids.length) (ha:Args s u ts):∀ x ∈ ts,∃ k,GE s x k:=fun x hx=>by
 obtain ⟨i,hi⟩:=List.mem_iff_getElem?.1 hx
 have:=len_of hi
 exact ⟨_,ha i x _ hi (List.getElem?_eq_getElem (by omega))⟩
theorem GE.call {s:Sc} {f:Nat} {u:T} {ts:List T} (h:s.funs[f]? = some u) (hl:(ts.length:Int) = u.n) (hn:u.n≤u.kids.length) (h3:u.n≤3) (hf:s.funs.length≤6) (ha:Args s u ts):GE s ⟨11,f,0,ts⟩ 0:=by
 have h1:=tAt_of h
 have h2:=len_of h
 have h4:=args_fit h hl hn ha
 have h5:=args_ok (by omega) ha
 refine ⟨?_,(ok_iff s _).2 ⟨?_,fun x hx=>by obtain ⟨k,hk⟩:=h5 x hx; exact hk.ok⟩,by simp [typeOf]⟩
 ·rw [isExpr_eq,Bool.and_eq_true]
  refine ⟨by simp [exprHead,btw]; omega,List.all_eq_true.2 fun x hx=>by obtain ⟨k,hk⟩:=h5 x hx; exact hk.ex⟩
 ·simp [errOf,missing,misused,wants,h1,h4,hl]; omega
theorem GS.spawn {s:Sc} {f:Nat} {u:T} {ts:List T} (h:s.funs[f]? = some u) (hl:(ts.length:Int) = u.n) (hn:u.n≤u.kids.length) (h3:u.n≤3) (hf:s.funs.length≤6) (ha:Args s u ts):GS s ⟨23,f,0,ts⟩:=by
 have h1:=tAt_of h
 have h2:=len_of h
 have h4:=args_fit h hl hn ha
 have h5:=args_ok (by omega) ha
 refine ⟨?_,(ok_iff s _).2 ⟨?_,fun x hx=>by obtain ⟨k,hk⟩:=h5 x hx; exact hk.ok⟩⟩
 ·have h6:ts.all isExpr = true:=List.all_eq_true.2 fun x hx=>by obtain ⟨k,hk⟩:=h5 x hx; exact hk.ex
  rw [isStmt_eq]; simp [stmtOf,btw,h6]; omega
 ·simp [errOf,missing,misused,wants,h1,h4,hl]; omega
theorem GB.st {s:Sc} {t:T} (h:GB s t):GS s t:=by
 have h1:=h.bl
 unfold isBlock at h1
 simp only [Bool.and_eq_true] at h1
 exact ⟨h1.2,h.ok⟩
theorem GB.mk' {s:Sc} {ts:List T} (hl:ts.length≤8) (h:∀ u ∈ ts,GS s u):GB s ⟨13,0,0,ts⟩:=by
 refine ⟨?_,(ok_iff s _).2 ⟨by simp [errOf,missing,misused,wants,fitB],fun u hu=>(h u hu).ok⟩⟩
 have h1:ts.all isStmt = true:=List.all_eq_true.2 fun u hu=>(h u hu).st
 rw [isBlock_eq]; simp [btw,h1]; omega
theorem one_ok {s:Sc} {a:T} (ha:okW s a):∀ y ∈ [a],okW s y:=fun y hy=>by simp at hy; rw [hy]; exact ha
theorem GS.set {s:Sc} {v:Nat} {u x:T} {k:Int} (h:s.vars[v]? = some u) (hu:u.k = k) (hk:k = 0∨k = 1) (hx:GE s x k) (hv:s.vars.length≤6):GS s ⟨14,v,0,[x]⟩:=by
 have h1:=tAt_of h
 have h2:=len_of h
 have hs:scal u.k = true:=by rw [hu]; rcases hk with rfl | rfl <;> rfl
 have h3:¬ u.k = 3:=by rw [hu]; omega
 have h4:=fit_of hx
 rw [← hu] at h4
 refine ⟨by rw [isStmt_eq]; simp [stmtOf,btw,hx.ex]; omega,(ok_iff s _).2 ⟨?_,one_ok hx.ok⟩⟩
 simp [errOf,missing,misused,wants,fitB,named,h1,hs,h3,h4]; omega
theorem GS.put {s:Sc} {v:Nat} {u a b:T} (h:s.vars[v]? = some u) (hu:u.k = 2) (ha:GE s a 0) (hb:GE s b 0) (hv:s.vars.length≤6):GS s ⟨15,v,0,[a,b]⟩:=by
 have h1:=tAt_of h
 have h2:=len_of h
 refine ⟨by rw [isStmt_eq]; simp [stmtOf,btw,ha.ex,hb.ex]; omega,(ok_iff s _).2 ⟨?_,two_ok ha.ok hb.ok⟩⟩
 simp [errOf,missing,misused,wants,fitB,h1,hu,fit_of ha,fit_of hb]; omega
theorem GS.fill {s:Sc} {v m:Nat} {u y x:T} {k:Int} (h:s.vars[v]? = some u) (hu:u.k = 3) (hy:u.kids[m]? = some y) (hk:y.k = k) (hx:GE s x k) (hv:s.vars.length≤6) (hm:m≤2):GS s ⟨16,v,m,[x]⟩:=by
 have h1:=tAt_of h
 have h2:=len_of h
 have h3:=tAt_of hy
 have h4:=len_of hy
 refine ⟨by rw [isStmt_eq]; simp [stmtOf,btw,hx.ex]; omega,(ok_iff s _).2 ⟨?_,one_ok hx.ok⟩⟩
 simp [errOf,missing,misused,wants,fitB,named,h1,hu,h3,hk,fit_of hx]; omega
theorem GS.if_ {s:Sc} {c a b:T} (hc:GE s c 1) (ha:GB s a) (hb:GB s b):GS s ⟨17,0,0,[c,a,b]⟩:=by
 refine ⟨by rw [isStmt_eq]; simp [stmtOf,btw,kidB,hc.ex,ha.bl,hb.bl],(ok_iff s _).2 ⟨by simp [errOf,missing,misused,wants,fitB,fit_of hc],fun y hy=>?_⟩⟩
 simp at hy
 rcases hy with rfl | rfl | rfl
 ·exact hc.ok
 ·exact ha.ok
 ·exact hb.ok
theorem GS.while_ {s:Sc} {c a:T} (hc:GE s c 1) (ha:GB s a):GS s ⟨18,0,0,[c,a]⟩ :=
 ⟨by rw [isStmt_eq]; simp [stmtOf,btw,kidB,hc.ex,ha.bl],(ok_iff s _).2 ⟨by simp [errOf,missing,misused,wants,fitB,fit_of hc],two_ok hc.ok ha.ok⟩⟩
theorem GS.try_ {s:Sc} {v:Nat} {u a b:T} (h:s.vars[v]? = some u) (hu:u.k = 0) (ha:GB s a) (hb:GB s b) (hv:s.vars.length≤6):GS s ⟨21,v,0,[a,b]⟩:=by
 have h1:=tAt_of h
 have h2:=len_of h
 refine ⟨by rw [isStmt_eq]; simp [stmtOf,btw,kidB,ha.bl,hb.bl]; omega,(ok_iff s _).2 ⟨?_,two_ok ha.ok hb.ok⟩⟩
 simp [errOf,missing,misused,wants,fitB,h1,hu]; omega
theorem GS.word {s:Sc} {k:Int} {x:T} (hk:k = 19∨k = 20∨k = 24) (hx:GE s x 0):GS s ⟨k,0,0,[x]⟩:=by
 have hf:=fit_of hx
 rcases hk with rfl | rfl | rfl <;>
  exact ⟨by rw [isStmt_eq]; simp [stmtOf,btw,hx.ex],(ok_iff s _).2 ⟨by simp [errOf,missing,misused,wants,fitB,hf],one_ok hx.ok⟩⟩
theorem GS.send {s:Sc} {n:Int} {x:T} (h0:0≤n) (h1:n < s.ch) (h2:s.ch≤3) (hx:GE s x 0):GS s ⟨22,n,0,[x]⟩:=by
 have hf:=fit_of hx
 exact ⟨by rw [isStmt_eq]; simp [stmtOf,btw,hx.ex]; omega,(ok_iff s _).2 ⟨by simp [errOf,missing,misused,wants,fitB,hf]; omega,one_ok hx.ok⟩⟩
theorem GS.skip (s:Sc):GS s ⟨25,0,0,[]⟩ :=
 ⟨by rw [isStmt_eq]; simp [stmtOf,btw],leaf_ok (by simp [errOf,missing,misused,wants,fitB])⟩
structure Cost (a a':Nat) (l l':Int) (s:Nat):Prop where
 lo:a≤a'
 hi:a'≤a + 6 * s
 left:l' = l - s
theorem Cost.nil (a:Nat) (l:Int):Cost a a l l 0:=⟨Nat.le_refl _,by omega,by omega⟩
theorem Cost.add {a b c:Nat} {l m n:Int} {s t:Nat} (h:Cost a b l m s) (k:Cost b c m n t):Cost a c l n (s + t):=by
 obtain ⟨h1,h2,h3⟩:=h
 obtain ⟨k1,k2,k3⟩:=k
 exact ⟨by omega,by omega,by omega⟩
def capE:Nat→Nat
 | 0=>1
 | d + 1=>2 * capE d + 1
theorem capE_pos:∀ d,1≤capE d
 | 0=>Nat.le_refl _
 | d + 1=>by rw [capE]; omega
theorem capE_le (d:Nat):capE d≤capE (d + 1):=by rw [capE]; omega
theorem capE_mono {d e:Nat} (h:d≤e):capE d≤capE e:=by
 induction e with
 | zero=>rw [Nat.le_zero.1 h]; exact Nat.le_refl _
 | succ e ih =>
  by_cases h2:d≤e
  ·exact Nat.le_trans (ih h2) (capE_le e)
  ·rw [show d = e + 1 by omega]; exact Nat.le_refl _
theorem size1 (k n m:Int):size ⟨k,n,m,[]⟩ = 1:=by rw [size_eq]; rfl
theorem sizeK (k n m:Int) (ts:List T):size ⟨k,n,m,ts⟩ = 1 + (ts.map size).sum:=size_eq _
end Go.Proofs.YtkkenbalpnmfmaaDoor.TY

namespace Go.Proofs.YtkkenbalpnmfmaaDoor
open Go.RowKit WM TR TY

theorem reps_at {w : World} {S : Nat → Prop} {d : Nat} {ts : List T} {xs : List Value} {A : Option Addr} (h : Rd w S 4 A ts.length xs) (hr : Reps w S d ts xs) {j : Nat} {u : T} (hu : ts[j]? = some u) :
  ∃ b off A' c',A = some ⟨b,off,none⟩∧S b∧(∀ i v,(nd u A' c')[i]? = some v→w.cell? ⟨b,off + j * 4 + i,none⟩ = some v)∧Rep w S d u (nd u A' c'):=by
 have h0:inRange (0:Int):=⟨by omega,by omega⟩
 exact (Rep.mk (k:=0) (n:=0) (m:=0) (c:=ts.length) h0 h0 h0 (Nat.le_refl _) h hr).kid hu
def Nds (w:World) (S:Nat→Prop) (d:Nat) (ts:List T) (A:Option Addr) (c:Nat):Prop:=(∃ xs,Rd w S 4 A ts.length xs∧Reps w S d ts xs)∧ts.length≤c∧ts.length≤1000
theorem Nds.keep {w w':World} {S S':Nat→Prop} {d:Nat} {ts:List T} {A:Option Addr} {c:Nat} (h:Nds w S d ts A c) (hk:Keeps S w w') (hS:∀ b,S b→S' b):Nds w' S' d ts A c:=by
 obtain ⟨⟨xs,h1,h2⟩,h3⟩:=h
 exact ⟨⟨xs,(h1.keep hk).mono hS,(h2.keep hk).mono hS⟩,h3⟩
theorem Nds.next {w w':World} {d:Nat} {ts:List T} {A:Option Addr} {c:Nat} (h:Nds w (Lt w.heap.size) d ts A c) (hb:Below w.heap.size w w'):Nds w' (Lt w'.heap.size) d ts A c :=
 h.keep (fun b hb'=>hb.block b hb') fun b (hb':b < w.heap.size)=>Nat.lt_of_lt_of_le hb' hb.size
theorem Nds.at_ {w : World} {S : Nat → Prop} {d : Nat} {ts : List T} {A : Option Addr} {c : Nat} (h : Nds w S d ts A c) {j : Nat} {u : T} (hu : ts[j]? = some u) :
  ∃ b off A' c',A = some ⟨b,off,none⟩∧S b∧(∀ i v,(nd u A' c')[i]? = some v→w.cell? ⟨b,off + j * 4 + i,none⟩ = some v)∧Rep w S d u (nd u A' c'):=by
 obtain ⟨⟨xs,h1,h2⟩,_⟩:=h
 exact reps_at h1 h2 hu
structure ScR (w:World) (d:Nat) (s:Sc) (Av:Option Addr) (cv:Nat) (Af:Option Addr) (cf:Nat):Prop where
 v:Nds w (Lt w.heap.size) d s.vars Av cv
 f:Nds w (Lt w.heap.size) d s.funs Af cf
theorem ScR.next {w w':World} {d:Nat} {s:Sc} {Av:Option Addr} {cv:Nat} {Af:Option Addr} {cf:Nat} (h:ScR w d s Av cv Af cf) (hb:Below w.heap.size w w'):ScR w' d s Av cv Af cf:=⟨h.v.next hb,h.f.next hb⟩
theorem rep_next {w w':World} {d:Nat} {t:T} {cs:List Value} (h:Rep w (Lt w.heap.size) d t cs) (hb:Below w.heap.size w w'):Rep w' (Lt w'.heap.size) d t cs :=
 (h.keep fun b hb'=>hb.block b hb').mono fun b (hb':b < w.heap.size)=>Nat.lt_of_lt_of_le hb' hb.size
theorem tAt_get {l:List T} {n:Int} {j:Nat} {u:T} (hn:n = (j:Int)) (hu:l[j]? = some u):tAt l n = u:=by
 unfold tAt
 rw [hn,Int.toNat_natCast,List.getD_eq_getElem?_getD,hu]
 try rfl
set_option maxHeartbeats 1000000 in
theorem isScalar_is (k:Int) (w:World):Calls Tryd.prog 79 #[.int .i64 k] w fun e w'=>e = .returned (.bool (scal k))∧w = w':=by
 have HR:Hid (scal k = (k == 0 || k == 1)):=Lib.hid rfl
 obtain ⟨r,hr⟩:∃ r,r = scal k:=⟨_,rfl⟩
 rw [← hr] at HR ⊢
 clear hr
 go_enter Tryd.func79,Tryd.ntmps79
 go_wp2_with fail
 all_goals
  go_ret
  exact ⟨ret_b (by rw [HR.out]; try simp [*]),rfl⟩
theorem nodes_sliceY:Tryd.prog.underlying 23 = some (.slice (Tryd.prog.elem 23)):=by kernel_rfl
theorem nodes_elemY:Tryd.prog.elem 23 = 25:=by kernel_rfl
theorem size_ndWY (W:World):(sizeOf 25).run Tryd.prog W = .ok 4 W:=by kernel_rfl
theorem cutN (A:Option Addr) (n c k:Nat) (hk:k≤c):∀ W:World,(Instr.sliceAt 23 (.slice A n c) none (some (.int .i64 (k:Int))) none).run Tryd.prog W = .ok (.slice (if c = 0 then A else A.map (·.add 0)) k c) W:=by
 intro W
 rw [run_sliceAt_slice W 23 _ _ _ _ nodes_sliceY,run_slice_h W 23 A n c nodes_sliceY .i64 k (by omega) (by omega),nodes_elemY,size_ndWY]
 simp [sliced]
end Go.Proofs.YtkkenbalpnmfmaaDoor

namespace Go.Proofs.YtkkenbalpnmfmaaDoor
open Go.RowKit WM TR TY

set_option maxRecDepth 100000 in
set_option maxHeartbeats 4000000 in
theorem zvars_is (p u : T) (j d : Nat) (A : Option Addr) (c : Nat) (S : Nat → Prop) (w0 : World) (hin0 : In S w0.heap.size) (hnd0 : Nds w0 S (d + 1) p.kids A c) (hu : p.kids[j]? = some u) (hu1 : 1 ≤ u.kids.length ∧ u.kids.length ≤ 1000) :
  ∃ A2 c2,Nds w0 S (d + 1) (scO p u).vars A2 c2∧∀ w,Keeps S w0 w→In S w.heap.size→Calls Tryd.prog 25 #[.agg #[.int .i64 p.k,.int .i64 p.n,.int .i64 p.m,.slice A p.kids.length c],.int .i64 (j:Int)] w fun e w'=>e = .returned (.slice A2 (scO p u).vars.length c2)∧Below w.heap.size w w':=by
 obtain ⟨b,off,A',c',hA,hbl,hc,hru⟩:=hnd0.at_ hu
 subst hA
 have hcap:=hru.cap
 have hjl:j < p.kids.length:=(List.getElem?_eq_some_iff.1 hu).1
 obtain ⟨nk,hnk⟩:∃ z,z = p.kids.length:=⟨_,rfl⟩
 obtain ⟨q,hq⟩:∃ q,u.kids.length = q + 1:=⟨u.kids.length - 1,by omega⟩
 obtain ⟨k,hk⟩:∃ z,z = p.k:=⟨_,rfl⟩
 obtain ⟨n,hn⟩:∃ z,z = p.n:=⟨_,rfl⟩
 obtain ⟨m,hm⟩:∃ z,z = p.m:=⟨_,rfl⟩
 have hlen:(scO p u).vars.length = q:=by show (u.kids.take (u.kids.length - 1)).length = q; rw [List.length_take]; omega
 have hfun:(scO p u).funs.length = nk:=hnk.symm
 have hch:(scO p u).ch = n:=hn.symm
 have hnum:IntKind.i64.wrap (((q + 1:Nat):Int) - 1) = (q:Int):=by rw [IntKind.wrap_i64]; omega
 have hcut:=cutN A' (q + 1) c' q (by omega)
 have hqw:IntKind.i64.wrap (q:Int) = (q:Int):=by rw [IntKind.wrap_i64]; omega
 have hqc:(0:Int)≤(q:Int)∧(q:Int)≤(c':Int):=⟨by omega,by omega⟩
 obtain ⟨A2,hA2⟩:∃ A2,A2 = (if c' = 0 then A' else A'.map (·.add 0)):=⟨_,rfl⟩
 rw [← hA2] at hcut
 have hv:Nds w0 S (d + 1) (scO p u).vars A2 c':=by
  obtain ⟨xs,h1,h2⟩:=hru.kids
  have hA2':A2 = A':=by
   rw [hA2]; split
   ·rfl
   ·cases A' <;> simp [Addr.add]
  rw [hA2']
  refine ⟨⟨xs.take (q * 4),?_,?_⟩,by omega,by omega⟩
  ·rw [hlen]
   refine ⟨by rw [List.length_take,h1.1]; omega,fun hn=>?_⟩
   obtain ⟨ad,e,hb,hcs⟩:=h1.2 (by omega)
   refine ⟨ad,e,hb,fun i v hv=>hcs i v ?_⟩
   rw [List.getElem?_take] at hv
   split at hv
   ·exact hv
   ·cases hv
  ·refine ⟨by rw [List.length_take,hlen,h1.1]; omega,fun i v hv=>?_⟩
   have hi:i < q:=by rw [← hlen]; exact (List.getElem?_eq_some_iff.1 hv).1
   have hv2:u.kids[i]? = some v:=by
    have hv3:(u.kids.take (u.kids.length - 1))[i]? = some v:=hv
    rw [List.getElem?_take] at hv3
    split at hv3
    ·exact hv3
    ·cases hv3
   have h:=h2.2 i v hv2
   have e:((xs.take (q * 4)).drop (i * 4)).take 4 = (xs.drop (i * 4)).take 4:=by
    rw [List.drop_take,List.take_take]; congr 1; omega
   rw [e]
   exact h.deeper (by omega)
 refine ⟨A2,c',hv,?_⟩
 intro w hkeep hin
 obtain ⟨z,hz⟩:∃ z,z = w.heap.size:=⟨_,rfl⟩
 obtain ⟨W1,hW1⟩:∃ W,W = w.alloc (.cells #[.int .i64 k,.int .i64 n,.int .i64 m,.slice (some ⟨b,off,none⟩) nk c] 25):=⟨_,rfl⟩
 have hb1:Below w.heap.size w W1:=by rw [hW1]; exact below_new _ _
 have k0:Blk W1 z 25 #[.int .i64 k,.int .i64 n,.int .i64 m,.slice (some ⟨b,off,none⟩) nk c]:=by rw [hW1,hz]; exact Blk.new _ _ _
 obtain ⟨y1,y3⟩:W1.cell? ⟨z,1,none⟩ = some (.int .i64 n)∧W1.cell? ⟨z,3,none⟩ = some (.slice (some ⟨b,off,none⟩) nk c):=⟨k0.cell 1,k0.cell 3⟩
 have hcu:∀ i v,(nd u A' c')[i]? = some v→W1.cell? ⟨b,off + j * 4 + i,none⟩ = some v:=fun i v hv=>(hb1.cell (p:=⟨b,_,none⟩) (hin b hbl)).trans ((hkeep.cell (p:=⟨b,_,none⟩) hbl).trans (hc i v hv))
 obtain ⟨uk,huk⟩:∃ z,z = u.k:=⟨_,rfl⟩
 obtain ⟨un,hun⟩:∃ z,z = u.n:=⟨_,rfl⟩
 obtain ⟨um,hum⟩:∃ z,z = u.m:=⟨_,rfl⟩
 obtain ⟨v0,v1,v2,v3⟩:W1.cell? ⟨b,off + j * 4,none⟩ = some (.int .i64 uk)∧W1.cell? ⟨b,off + j * 4 + 1,none⟩ = some (.int .i64 un)∧W1.cell? ⟨b,off + j * 4 + 2,none⟩ = some (.int .i64 um)∧W1.cell? ⟨b,off + j * 4 + 3,none⟩ = some (.slice A' (q + 1) c'):=⟨by rw [huk]; exact hcu 0 _ rfl,by rw [hun]; exact hcu 1 _ rfl,by rw [hum]; exact hcu 2 _ rfl,by rw [← hq]; exact hcu 3 _ rfl⟩
 have hjb:(0:Int)≤(j:Int)∧(j:Int) < (nk:Int):=⟨by omega,by omega⟩
 have HW1:=Lib.hid hW1
 have HZ:=Lib.hid hz
 have HB1:=Lib.hid hb1
 rw [hlen,← hnk,← hk,← hn,← hm]
 clear huk hun hum hcu hv hnd0 hin0 hkeep hin hbl hW1 hz hb1 k0 hlen hfun hch hnk hk hn hm hA2 hcap hq hc hru hu hu1 hjl
 go_enter Tryd.func25,Tryd.ntmps25
 go_upto_region 1 with fail
 rw [← HW1.out]
 try rw [← HZ.out]
 go_upto_region 2 with fail
 obtain ⟨W2,hW2⟩:∃ W,W = W1.alloc (.cells #[.int .i64 uk,.int .i64 un,.int .i64 um,.slice A' (q + 1) c'] 25):=⟨_,rfl⟩
 obtain ⟨g5,hg5⟩:∃ z,z = W1.heap.size:=⟨_,rfl⟩
 have k5:Blk W2 g5 25 #[.int .i64 uk,.int .i64 un,.int .i64 um,.slice A' (q + 1) c']:=by rw [hW2,hg5]; exact Blk.new _ _ _
 have HB2:Hid (Below w.heap.size w W2):=Lib.hid (bt HB1.out (by rw [hW2]; exact below_new _ _))
 rw [← hW2,← hg5]
 have x3:W2.cell? ⟨g5,3,none⟩ = some (.slice A' (q + 1) c'):=k5.cell 3
 clear hW2 hg5 k5 v0 v1 v2 v3 y1 y3
 go_wp2_with fail
 go_ret
 exact ⟨rfl,HB2.out⟩
end Go.Proofs.YtkkenbalpnmfmaaDoor

namespace Go.Proofs.YtkkenbalpnmfmaaDoor
open Go.RowKit WM TR TY

structure Par where
 L:List Int
 A:Option Addr
 c:Nat
 p:T
 AP:Option Addr
 cP:Nat
 F:Nat
 con:Bool
 g:Nat
 S:Nat→Prop
 vA:Option Addr
 vc:Nat
def Par.cells (m:Par) (a:Nat) (l:Int):Array Value :=
 #[.slice m.A m.L.length m.c,.int .i64 (a:Int),.int .i64 l,.int .i64 m.p.k,.int .i64 m.p.n,.int .i64 m.p.m,.slice m.AP m.p.kids.length m.cP,.int .i64 (m.F:Int),.bool m.con]
def Mk (m:Par) (a:Nat) (l:Int) (w:World):Prop:=Blk w m.g 83 (m.cells a l)
structure FHd (u:T):Prop where
 n0:0≤u.n
 n2:u.n≤2
 kl:u.n + 1≤u.kids.length
 k10:u.kids.length≤10
 pl:∀ (i:Nat) (x:T),(i:Int) < u.n→u.kids[i]? = some x→x.k = 0∨x.k = 1
structure SOk (s:Sc):Prop where
 vl:s.vars.length≤6
 vt:∀ u ∈ s.vars,isType u = true
 f1:1≤s.funs.length
 f3:s.funs.length≤6
 ff:∀ u ∈ s.funs,FHd u
 c0:0≤s.ch
 c3:s.ch≤3
structure Cx (m:Par) (s:Sc) (D:Nat) (w:World):Prop where
 hL:Rd w m.S 1 m.A m.L.length (vi m.L)
 hr:∀ x ∈ m.L,inRange x
 hl:m.L.length≤9223372036854775807
 hS:∀ b,m.S b→b≠m.g
 hin:In m.S w.heap.size
 hP:Nds w m.S (D + 1) m.p.kids m.AP m.cP
 hV:Nds w m.S (D + 1) s.vars m.vA m.vc
 hC:∀ W,Keeps m.S w W→In m.S W.heap.size→Calls Tryd.prog 25 #[.agg #[.int .i64 m.p.k,.int .i64 m.p.n,.int .i64 m.p.m,.slice m.AP m.p.kids.length m.cP],.int .i64 (m.F:Int)] W fun e w'=>e = .returned (.slice m.vA s.vars.length m.vc)∧Below W.heap.size W w'
 sf:s.funs = m.p.kids
 sc:s.ch = m.p.n
 ok:SOk s
 con:m.con = true→1≤m.p.n
theorem Cx.keep {m:Par} {s:Sc} {D:Nat} {w w':World} (h:Cx m s D w) (hk:Keeps m.S w w') (hs:w.heap.size≤w'.heap.size):Cx m s D w' :=
 ⟨h.hL.keep hk,h.hr,h.hl,h.hS,h.hin.more hs,h.hP.keep hk fun _ hb=>hb,h.hV.keep hk fun _ hb=>hb,fun W hW hi=>h.hC W (hk.trans hW) hi,h.sf,h.sc,h.ok,h.con⟩
theorem Cx.gw {m:Par} {s:Sc} {D:Nat} {w w':World} (h:Cx m s D w) (hg:w.grownBy w' (some m.g)):Cx m s D w' :=
 h.keep (Keeps.gw hg h.hin h.hS) hg.size
theorem Cx.below {m:Par} {s:Sc} {D:Nat} {w w':World} (h:Cx m s D w) (hg:Below w.heap.size w w'):Cx m s D w' :=
 h.keep (Keeps.below h.hin hg) hg.size
theorem gwb {w w':World} {g:Nat} (h:Below w.heap.size w w'):w.grownBy w' (some g):=⟨h.os,h.tape,h.output,h.size,fun i hi _=>h.block i hi⟩

set_option maxRecDepth 100000 in
set_option maxHeartbeats 2000000 in
theorem draw_is (m : Par) (s : Sc) (D a : Nat) (l n : Int) (w : World) (hm : Mk m a l w) (hx : Cx m s D w) (hn : 0 < n) (ha : a ≤ 999999) :
  Calls Tryd.prog 86 #[.pointer (some ⟨m.g,0,none⟩),.int .i64 n] w fun e w'=>e = .returned (.int .i64 (numAt m.L a n))∧Mk m (a + 1) l w'∧w.grownBy w' (some m.g):=by
 have h0:=hm.cell 0
 have h1:=hm.cell 1
 have f1:=hm.frozen 1
 have HG:=Lib.hid hm
 have HX:=Lib.hid hx
 simp only [Par.cells,List.getElem?_toArray,List.getElem?_cons_zero,List.getElem?_cons_succ] at h0 h1
 clear hm hx
 go_enter Tryd.func86,Tryd.ntmps86
 go_wp2_with fail
 obtain ⟨W2,hW2⟩:∃ W2,W2 = w.setCell ⟨m.g,1,none⟩ (.int .i64 ((a:Int) + 1)):=⟨_,rfl⟩
 have HG2:Hid (Mk m (a + 1) l W2):=Lib.hid (by rw [hW2]; exact HG.out.set_ 1 _)
 have HW:Hid (w.grownBy W2 (some m.g)):=Lib.hid (by rw [hW2]; exact gw_setCell (gw_refl w m.g) (.inl rfl) _)
 have HX2:Hid (Cx m s D W2):=Lib.hid (HX.out.gw HW.out)
 rw [← hW2]
 clear hW2 h0 h1 f1
 have h0:=HG2.out.cell 0
 have h1:=HG2.out.cell 1
 simp only [Par.cells,List.getElem?_toArray,List.getElem?_cons_zero,List.getElem?_cons_succ] at h0 h1
 go_quiet ((go_at_call 22; exact quiet_left (at_is m.L m.S m.A m.c a n _ HX2.out.hL HX2.out.hr hn HX2.out.hl (by omega))))
 go_wp2_with fail
 go_ret
 exact ⟨rfl,HG2.out.drewN _,⟨HW.out.os,HW.out.tape,HW.out.output,HW.out.size,HW.out.block⟩⟩

set_option maxRecDepth 100000 in
set_option maxHeartbeats 2000000 in
theorem mnode_is (m : Par) (a : Nat) (l k n : Int) (w : World) (A : Option Addr) (q c : Nat) (hm : Mk m a l w) (hl0 : -1000000 ≤ l) (hl1 : l ≤ 1000000) :
  Calls Tryd.prog 88 #[.pointer (some ⟨m.g,0,none⟩),.int .i64 k,.int .i64 n,.slice A q c] w fun e w'=>e = .returned (.agg #[.int .i64 k,.int .i64 n,.int .i64 0,.slice A q c])∧Mk m a (l - 1) w'∧w.grownBy w' (some m.g):=by
 obtain ⟨r,hr⟩:∃ r,r = w.heap.size:=⟨_,rfl⟩
 have hgr:m.g < r:=by rw [hr]; exact hm.lt
 have hlw:IntKind.i64.wrap (l - 1) = l - 1:=by rw [IntKind.wrap_i64]; omega
 obtain ⟨W1,hW1⟩:∃ W1,W1 = w.alloc (.cells #[.int .i64 0,.int .i64 0,.int .i64 0,.slice none 0 0] 25):=⟨_,rfl⟩
 have HM1:Hid (Mk m a l W1):=Lib.hid (by rw [hW1]; exact hm.alloc _)
 have HG1:Hid (w.grownBy W1 (some m.g)):=Lib.hid (by rw [hW1]; exact gw_alloc (gw_refl w m.g) _)
 have HR1:Hid (Blk W1 r 25 #[.int .i64 0,.int .i64 0,.int .i64 0,.slice none 0 0]):=Lib.hid (by rw [hW1,hr]; exact Blk.new _ _ _)
 have HR:=Lib.hid hr
 have h2:=HM1.out.cell 2
 have f2:=HM1.out.frozen 2
 simp only [Par.cells,List.getElem?_toArray,List.getElem?_cons_zero,List.getElem?_cons_succ] at h2
 have HW1:=Lib.hid hW1
 clear hr hm hW1
 go_enter Tryd.func88,Tryd.ntmps88
 go_upto_region 1 with fail
 rw [← HW1.out,← HR.out]
 go_upto_region 2 with fail
 obtain ⟨W2,hW2⟩:∃ W2,W2 = W1.setCell ⟨m.g,2,none⟩ (.int .i64 (l - 1)):=⟨_,rfl⟩
 have HM2:Hid (Mk m a (l - 1) W2):=Lib.hid (by rw [hW2]; exact HM1.out.set_ 2 _)
 have HG2:Hid (w.grownBy W2 (some m.g)):=Lib.hid (by rw [hW2]; exact gw_setCell HG1.out (.inl rfl) _)
 have HR2:Hid (Blk W2 r 25 #[.int .i64 0,.int .i64 0,.int .i64 0,.slice none 0 0]):=Lib.hid (by rw [hW2]; exact HR1.out.gw (gw_setCell (gw_refl W1 m.g) (.inl rfl) _) (by omega))
 rw [← hW2]
 clear hW2 h2 f2
 have f0:=HR2.out.frozen 0; have f1:=HR2.out.frozen 1; have f2:=HR2.out.frozen 2; have f3:=HR2.out.frozen 3
 have r0:=HR2.out.cell 0; have r1:=HR2.out.cell 1; have r2:=HR2.out.cell 2; have r3:=HR2.out.cell 3
 simp only [List.getElem?_toArray,List.getElem?_cons_zero,List.getElem?_cons_succ] at r0 r1 r2 r3
 go_wp2_with fail
 refine bodyPost_ret (v:=.agg #[.int .i64 k,.int .i64 n,.int .i64 0,.slice A q c]) (by simp [results,Tryd.results88,go_sem,r0,r1,r2,r3]) rfl ⟨rfl,?_,?_⟩
 ·exact HM2.out.gw (gw4 W2 r _ _ _ _).1 (by omega)
 ·have hle:w.heap.size≤r:=Nat.le_of_eq HR.out.symm
  exact gw_setCell (gw_setCell (gw_setCell (gw_setCell HG2.out (.inr hle) _) (.inr hle) _) (.inr hle) _) (.inr hle) _
end Go.Proofs.YtkkenbalpnmfmaaDoor

namespace Go.Proofs.YtkkenbalpnmfmaaDoor
open Go.RowKit WM TR TY

def PickPost (m:Par) (s:Sc) (k:Int) (a:Nat) (l:Int) (w:World) (e:Ending) (w':World):Prop :=
 ∃ v:Int,e = .returned (.int .i64 v)∧(v = -1∨∃ (j:Nat) (t:T),v = j∧s.vars[j]? = some t∧t.k = k)∧Mk m (a + 1) l w'∧w.grownBy w' (some m.g)

theorem Mk.loadP {m:Par} {a:Nat} {l:Int} {w:World} (h:Mk m a l w):∀ i v,(nd m.p m.AP m.cP)[i]? = some v→w.cell? ⟨m.g,3 + i,none⟩ = some v:=fun i v hv=>by
 rw [h.cell (3 + i)]
 match i,hv with
 | 0,hv=>simpa [Par.cells,nd] using hv
 | 1,hv=>simpa [Par.cells,nd] using hv
 | 2,hv=>simpa [Par.cells,nd] using hv
 | 3,hv=>simpa [Par.cells,nd] using hv
 | i + 4,hv=>simp [nd] at hv

set_option maxRecDepth 100000 in
set_option maxHeartbeats 4000000 in
theorem pick_is (m : Par) (s : Sc) (D a : Nat) (l k : Int) (w : World) (hm : Mk m a l w) (hx : Cx m s D w) (ha : a ≤ 999999) :
  Calls Tryd.prog 89 #[.pointer (some ⟨m.g,0,none⟩),.int .i64 k] w (PickPost m s k a l w):=by
 have HG:=Lib.hid hm
 have HX:=Lib.hid hx
 have hgl:m.g < w.heap.size:=hm.lt
 have LP:Hid (∀ W,Below w.heap.size w W→(Instr.loadAt 25 (.pointer (some ⟨m.g,3,none⟩))).run Tryd.prog W = .ok (.agg #[.int .i64 m.p.k,.int .i64 m.p.n,.int .i64 m.p.m,.slice m.AP m.p.kids.length m.cP]) W):=Lib.hid fun W hb=>load_nd (Mk.loadP (m:=m) (a:=a) (l:=l) (HG.out.below hb hgl))
 have LF:Hid (∀ W,Below w.heap.size w W→(Instr.loadAt 3 (.pointer (some ⟨m.g,7,none⟩))).run Tryd.prog W = .ok (.int .i64 (m.F:Int)) W):=Lib.hid fun W hb=>by
  have h7:=(HG.out.below hb hgl:Mk m a l W).cell 7
  simp only [Par.cells,List.getElem?_toArray,List.getElem?_cons_zero,List.getElem?_cons_succ] at h7
  go_simp
 have HC:Hid (∀ W,Below w.heap.size w W→Calls Tryd.prog 25 #[.agg #[.int .i64 m.p.k,.int .i64 m.p.n,.int .i64 m.p.m,.slice m.AP m.p.kids.length m.cP],.int .i64 (m.F:Int)] W fun e w'=>e = .returned (.slice m.vA s.vars.length m.vc)∧Below w.heap.size w w'):=Lib.hid fun W hb =>
  (HX.out.hC W (Keeps.below HX.out.hin hb) (HX.out.hin.more hb.size)).mono fun e w' ⟨he,hb2⟩=>⟨he,bt hb hb2⟩
 obtain ⟨nv,hnv⟩:∃ nv,nv = s.vars.length:=⟨_,rfl⟩
 have hnv6:nv≤6:=by rw [hnv]; exact hx.ok.vl
 have HNV:=Lib.hid hnv
 rw [← hnv] at HC
 have HGL:=Lib.hid hgl
 clear hm hx hnv hgl
 go_enter Tryd.func89,Tryd.ntmps89
 go_upto_region 1 with fail
 refine wp_region_below w (Below.refl _ _) (by kernel_rfl) (by kernel_rfl) ?_
 iterate 3 go_big_quiet_step ((intro _; rfl))
 refine wpQuiet_load' rfl 25 (.tmp 11) rfl _ rfl (.agg #[.int .i64 m.p.k,.int .i64 m.p.n,.int .i64 m.p.m,.slice m.AP m.p.kids.length m.cP]) LP.out ?_
 go_simp
 iterate 3 go_big_quiet_step ((intro _; rfl))
 refine wpQuiet_load' rfl 3 (.tmp 15) rfl _ rfl (.int .i64 (m.F:Int)) LF.out ?_
 go_simp
 go_big_quiet_step ((intro hw'; exact HC.out _ hw'))
 iterate 1 go_big_quiet_step ((intro _; rfl))
 refine wpQuiet_nil ?_
 intro W2 hb2
 have HM2:Hid (Mk m a l W2):=Lib.hid (HG.out.below hb2 HGL.out)
 have HX2:Hid (Cx m s D W2):=Lib.hid (HX.out.below hb2)
 have HG2:Hid (w.grownBy W2 (some m.g)):=Lib.hid (gwb hb2)
 clear hb2
 obtain ⟨q,hq⟩:∃ q,numAt m.L a 6 = q:=⟨_,rfl⟩
 have hqb:=numAt_le (L:=m.L) (a:=a) (n:=6) (by omega)
 rw [hq] at hqb
 obtain ⟨q',rfl⟩:∃ q':Nat,q = (q':Int):=⟨q.toNat,by omega⟩
 have HQ:=Lib.hid hq
 clear hq
 go_upto_region 3 with (first
  | (go_at_call 86; refine (draw_is m s D a l 6 _ HM2.out HX2.out (by omega) ha).mono ?_; rintro e w3 ⟨rfl,hm3,hg3⟩; rw [HQ.out]; have HM3:=Lib.hid hm3; have HG3:=Lib.hid (gw_trans HG2.out hg3); have HX3:=Lib.hid (HX2.out.gw hg3); clear hm3 hg3))
 have hV:Hid (∀ j t,s.vars[j]? = some t→∃ b off,m.vA = some ⟨b,off,none⟩∧w3.cell? ⟨b,off + j * 4,none⟩ = some (.int .i64 t.k)):=Lib.hid fun j t ht=>by
  obtain ⟨b,off,A',c',hA,hbl,hc,_⟩:=HX3.out.hV.at_ ht
  exact ⟨b,off,hA,hc 0 _ rfl⟩
 go_wp2_with fail
 go_loopw [7] (fun i wr=>∃ j:Nat,j≤nv∧i = .int .i64 j∧wr = w3) (fun i _=>nv - (intOf i).toNat)
 case atStart=>exact ⟨0,Nat.zero_le _,rfl,rfl⟩
 case round =>
  obtain ⟨j,hj,rfl,rfl⟩:=hrel
  by_cases hlt:j < nv
  ·have hlt2:(j:Int) < (nv:Int):=by omega
   have hkn:(q' + j) % nv < nv:=Nat.mod_lt _ (by omega)
   obtain ⟨t,ht⟩:∃ t,s.vars[(q' + j) % nv]? = some t:=⟨_,List.getElem?_eq_getElem (by rw [← HNV.out]; exact hkn)⟩
   obtain ⟨b,off,hA,hcell⟩:=hV.out _ t ht
   have hkb:(0:Int)≤((q':Int) + (j:Int)) % (nv:Int)∧((q':Int) + (j:Int)) % (nv:Int) < (nv:Int):=⟨Int.emod_nonneg _ (by omega),Int.emod_lt_of_pos _ (by omega)⟩
   have hvk:((q':Int) + (j:Int)) % (nv:Int) = (((q' + j) % nv:Nat):Int):=by push_cast; rfl
   have HVK:=Lib.hid hvk
   rw [hA]
   obtain ⟨tk,htk⟩:∃ z,z = t.k:=⟨_,rfl⟩
   rw [← htk] at hcell
   have HTK:=Lib.hid htk
   have HT:=Lib.hid ht
   clear htk ht hvk
   by_cases hkk:tk = k
   ·subst hkk
    go_wp2_with fail
    go_ret
    exact ⟨_,rfl,.inr ⟨(q' + j) % nv,t,HVK.out,HT.out,HTK.out.symm⟩,HM3.out,HG3.out⟩
   ·go_wp2_with fail
    go_roundw
    case rel=>exact ⟨j + 1,by omega,by go_num,trivial⟩
    case measure=>simp [intOf]; omega
  ·have hjn:j = nv:=by omega
   subst hjn
   go_wp2_with fail
   go_ret
   exact ⟨-1,rfl,.inl rfl,HM3.out,HG3.out⟩
end Go.Proofs.YtkkenbalpnmfmaaDoor
