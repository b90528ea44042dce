/- Texts joined. -/
import Derived.Test.YtkkenbalpnmfmaaDoorJ08
import Derived.Test.YtkkenbalpnmfmaaDoorJ24
import Derived.Test.YtkkenbalpnmfmaaDoorJ28
set_option linter.unusedVariables false
namespace Go.Proofs.YtkkenbalpnmfmaaDoor.TR
def sf (k:Int) (i:Nat):Int:=match (shRow k)[i]? with
 | some x=>x.2
 | none=>0
def meets (a b:Int):Bool:=bits .and .u8 a b != 0
def params (t:T):Int:=if t.k = 26 then t.n else 0
def listed (t:T):Int:=(t.kids.length:Int) - sf t.k 7
def wantS (t:T) (i:Nat):Int:=if (i:Int) < params t then 1 else if listed t≤i then 8 else sf t.k 6
def FitsN (t:T):Prop:=(sf t.k 1≤t.n∧t.n≤sf t.k 2∧0≤t.m∧t.m≤sf t.k 3)∧(max (sf t.k 4) (params t)≤listed t∧listed t≤sf t.k 5)
def Fits (t:T):Prop:=FitsN t∧∀ (i:Nat) (u:T),t.kids[i]? = some u→meets (sf u.k 0) (wantS t i) = true
inductive Fit:T→Prop
 | mk (t:T):Fits t→(∀ u,u ∈ t.kids→Fit u)→Fit t
theorem Fit.here {t:T} (h:Fit t):Fits t:=by cases h; assumption
theorem Fit.kids {t:T} (h:Fit t):∀ u,u ∈ t.kids→Fit u:=by cases h; assumption

theorem shRow_out {k:Int} (h:k < 0∨30≤k):shRow k = zeroR:=by unfold shRow; rw [if_pos h]
theorem sf_table (w:Int) (p:Int→Bool) (h:(List.range 30).all (fun j=>meets (sf (j:Nat) 0) w == p (j:Nat)) = true) (hz:meets 0 w = false) (hp:∀ k,k < 0∨30≤k→p k = false) (k:Int):meets (sf k 0) w = p k:=by
 by_cases hk:k < 0∨30≤k
 ·have e:sf k 0 = 0:=by unfold sf; rw [shRow_out hk]; rfl
  rw [e,hz,hp k hk]
 ·obtain ⟨j,rfl⟩:=Int.eq_ofNat_of_zero_le (show 0≤k by omega)
  have:=List.all_eq_true.1 h j (by simp; omega)
  simpa using this

theorem meets1 (k:Int):meets (sf k 0) 1 = true↔0≤k∧k≤1:=by
 have h:=sf_table 1 (fun k=>decide (0≤k) && decide (k≤1)) (by decide +kernel) (by decide +kernel) (fun k hk=>by simp; omega) k
 rw [h]; simp
theorem meets3 (k:Int):meets (sf k 0) 3 = true↔0≤k∧k≤3:=by
 have h:=sf_table 3 (fun k=>decide (0≤k) && decide (k≤3)) (by decide +kernel) (by decide +kernel) (fun k hk=>by simp; omega) k
 rw [h]; simp
theorem meets4 (k:Int):meets (sf k 0) 4 = true↔4≤k∧k≤12:=by
 have h:=sf_table 4 (fun k=>decide (4≤k) && decide (k≤12)) (by decide +kernel) (by decide +kernel) (fun k hk=>by simp; omega) k
 rw [h]; simp
theorem meets8 (k:Int):meets (sf k 0) 8 = true↔13≤k∧k≤13:=by
 have h:=sf_table 8 (fun k=>decide (13≤k) && decide (k≤13)) (by decide +kernel) (by decide +kernel) (fun k hk=>by simp; omega) k
 rw [h]; simp
theorem meets24 (k:Int):meets (sf k 0) 24 = true↔13≤k∧k≤25:=by
 have h:=sf_table 24 (fun k=>decide (13≤k) && decide (k≤25)) (by decide +kernel) (by decide +kernel) (fun k hk=>by simp; omega) k
 rw [h]; simp
theorem meets32 (k:Int):meets (sf k 0) 32 = true↔26≤k∧k≤26:=by
 have h:=sf_table 32 (fun k=>decide (26≤k) && decide (k≤26)) (by decide +kernel) (by decide +kernel) (fun k hk=>by simp; omega) k
 rw [h]; simp
theorem sort64 (k:Int):sf k 0 = 64↔k = 27:=by
 by_cases hk:k < 0∨30≤k
 ·have e:sf k 0 = 0:=by unfold sf; rw [shRow_out hk]; rfl
  rw [e]; omega
 ·obtain ⟨j,rfl⟩:=Int.eq_ofNat_of_zero_le (show 0≤k by omega)
  have h:(List.range 30).all (fun j=>(sf (j:Nat) 0 == 64) == ((j:Int) == 27)) = true:=by decide +kernel
  have:=List.all_eq_true.1 h j (by simp; omega)
  simp only [beq_iff_eq] at this
  rw [Bool.eq_iff_iff] at this
  simpa using this
theorem meets0 (k:Int):meets (sf k 0) 0 = false:=by
 have h:=sf_table 0 (fun _=>false) (by decide +kernel) (by decide +kernel) (fun _ _=>rfl) k
 exact h

theorem row0:sf 0 1 = 0∧sf 0 2 = 0∧sf 0 3 = 0∧sf 0 4 = 0∧sf 0 5 = 0∧sf 0 6 = 0∧sf 0 7 = 0:=by decide +kernel
theorem row1:sf 1 1 = 0∧sf 1 2 = 0∧sf 1 3 = 0∧sf 1 4 = 0∧sf 1 5 = 0∧sf 1 6 = 0∧sf 1 7 = 0:=by decide +kernel
theorem row2:sf 2 1 = 1∧sf 2 2 = 4∧sf 2 3 = 0∧sf 2 4 = 0∧sf 2 5 = 0∧sf 2 6 = 0∧sf 2 7 = 0:=by decide +kernel
theorem row3:sf 3 1 = 0∧sf 3 2 = 0∧sf 3 3 = 0∧sf 3 4 = 1∧sf 3 5 = 3∧sf 3 6 = 1∧sf 3 7 = 0:=by decide +kernel
theorem row4:sf 4 1 = -8∧sf 4 2 = 7∧sf 4 3 = 0∧sf 4 4 = 0∧sf 4 5 = 0∧sf 4 6 = 0∧sf 4 7 = 0:=by decide +kernel
theorem row5:sf 5 1 = 0∧sf 5 2 = 1∧sf 5 3 = 0∧sf 5 4 = 0∧sf 5 5 = 0∧sf 5 6 = 0∧sf 5 7 = 0:=by decide +kernel
theorem row6:sf 6 1 = 0∧sf 6 2 = 5∧sf 6 3 = 0∧sf 6 4 = 0∧sf 6 5 = 0∧sf 6 6 = 0∧sf 6 7 = 0:=by decide +kernel
theorem row7:sf 7 1 = 0∧sf 7 2 = 5∧sf 7 3 = 0∧sf 7 4 = 1∧sf 7 5 = 1∧sf 7 6 = 4∧sf 7 7 = 0:=by decide +kernel
theorem row8:sf 8 1 = 0∧sf 8 2 = 5∧sf 8 3 = 2∧sf 8 4 = 0∧sf 8 5 = 0∧sf 8 6 = 0∧sf 8 7 = 0:=by decide +kernel
theorem row9:sf 9 1 = 0∧sf 9 2 = 13∧sf 9 3 = 0∧sf 9 4 = 2∧sf 9 5 = 2∧sf 9 6 = 4∧sf 9 7 = 0:=by decide +kernel
theorem row10:sf 10 1 = 0∧sf 10 2 = 0∧sf 10 3 = 0∧sf 10 4 = 1∧sf 10 5 = 1∧sf 10 6 = 4∧sf 10 7 = 0:=by decide +kernel
theorem row11:sf 11 1 = 0∧sf 11 2 = 5∧sf 11 3 = 0∧sf 11 4 = 0∧sf 11 5 = 3∧sf 11 6 = 4∧sf 11 7 = 0:=by decide +kernel
theorem row12:sf 12 1 = 0∧sf 12 2 = 2∧sf 12 3 = 0∧sf 12 4 = 0∧sf 12 5 = 0∧sf 12 6 = 0∧sf 12 7 = 0:=by decide +kernel
theorem row13:sf 13 1 = 0∧sf 13 2 = 0∧sf 13 3 = 0∧sf 13 4 = 0∧sf 13 5 = 8∧sf 13 6 = 24∧sf 13 7 = 0:=by decide +kernel
theorem row14:sf 14 1 = 0∧sf 14 2 = 5∧sf 14 3 = 0∧sf 14 4 = 1∧sf 14 5 = 1∧sf 14 6 = 4∧sf 14 7 = 0:=by decide +kernel
theorem row15:sf 15 1 = 0∧sf 15 2 = 5∧sf 15 3 = 0∧sf 15 4 = 2∧sf 15 5 = 2∧sf 15 6 = 4∧sf 15 7 = 0:=by decide +kernel
theorem row16:sf 16 1 = 0∧sf 16 2 = 5∧sf 16 3 = 2∧sf 16 4 = 1∧sf 16 5 = 1∧sf 16 6 = 4∧sf 16 7 = 0:=by decide +kernel
theorem row17:sf 17 1 = 0∧sf 17 2 = 0∧sf 17 3 = 0∧sf 17 4 = 1∧sf 17 5 = 1∧sf 17 6 = 4∧sf 17 7 = 2:=by decide +kernel
theorem row18:sf 18 1 = 0∧sf 18 2 = 0∧sf 18 3 = 0∧sf 18 4 = 1∧sf 18 5 = 1∧sf 18 6 = 4∧sf 18 7 = 1:=by decide +kernel
theorem row19:sf 19 1 = 0∧sf 19 2 = 0∧sf 19 3 = 0∧sf 19 4 = 1∧sf 19 5 = 1∧sf 19 6 = 4∧sf 19 7 = 0:=by decide +kernel
theorem row20:sf 20 1 = 0∧sf 20 2 = 0∧sf 20 3 = 0∧sf 20 4 = 1∧sf 20 5 = 1∧sf 20 6 = 4∧sf 20 7 = 0:=by decide +kernel
theorem row21:sf 21 1 = 0∧sf 21 2 = 5∧sf 21 3 = 0∧sf 21 4 = 0∧sf 21 5 = 0∧sf 21 6 = 0∧sf 21 7 = 2:=by decide +kernel
theorem row22:sf 22 1 = 0∧sf 22 2 = 2∧sf 22 3 = 0∧sf 22 4 = 1∧sf 22 5 = 1∧sf 22 6 = 4∧sf 22 7 = 0:=by decide +kernel
theorem row23:sf 23 1 = 0∧sf 23 2 = 5∧sf 23 3 = 0∧sf 23 4 = 0∧sf 23 5 = 3∧sf 23 6 = 4∧sf 23 7 = 0:=by decide +kernel
theorem row24:sf 24 1 = 0∧sf 24 2 = 0∧sf 24 3 = 0∧sf 24 4 = 1∧sf 24 5 = 1∧sf 24 6 = 4∧sf 24 7 = 0:=by decide +kernel
theorem row25:sf 25 1 = 0∧sf 25 2 = 0∧sf 25 3 = 0∧sf 25 4 = 0∧sf 25 5 = 0∧sf 25 6 = 0∧sf 25 7 = 0:=by decide +kernel
theorem row26:sf 26 1 = 0∧sf 26 2 = 3∧sf 26 3 = 0∧sf 26 4 = 0∧sf 26 5 = 6∧sf 26 6 = 3∧sf 26 7 = 1:=by decide +kernel
theorem row27:sf 27 1 = 0∧sf 27 2 = 3∧sf 27 3 = 0∧sf 27 4 = 1∧sf 27 5 = 6∧sf 27 6 = 32∧sf 27 7 = 0:=by decide +kernel

theorem fitsN_of {k n m : Int} {kids : List T} {a b c e f g B : Int} (hk : k ≠ 26) (r : sf k 1 = a ∧ sf k 2 = b ∧ sf k 3 = c ∧ sf k 4 = e ∧ sf k 5 = f ∧ sf k 6 = g ∧ sf k 7 = B) (he : 0 ≤ e) :
  FitsN ⟨k,n,m,kids⟩↔(a≤n∧n≤b∧0≤m∧m≤c)∧e≤(kids.length:Int) - B∧(kids.length:Int) - B≤f:=by
 obtain ⟨r1,r2,r3,r4,r5,r6,r7⟩:=r
 unfold FitsN params listed
 simp only [if_neg hk,r1,r2,r3,r4,r5,r7]
 omega
theorem want_of {k n m : Int} {kids : List T} {a b c e f g B : Int} (hk : k ≠ 26) (r : sf k 1 = a ∧ sf k 2 = b ∧ sf k 3 = c ∧ sf k 4 = e ∧ sf k 5 = f ∧ sf k 6 = g ∧ sf k 7 = B) (i : Nat) :
  wantS ⟨k,n,m,kids⟩ i = if (kids.length:Int) - B≤i then 8 else g:=by
 obtain ⟨r1,r2,r3,r4,r5,r6,r7⟩:=r
 unfold wantS params listed
 simp only [if_neg hk,r6,r7]
 rw [if_neg (by omega)]
theorem fits_each {k n m : Int} {kids : List T} {a b c e f g : Int} (hk : k ≠ 26) (r : sf k 1 = a ∧ sf k 2 = b ∧ sf k 3 = c ∧ sf k 4 = e ∧ sf k 5 = f ∧ sf k 6 = g ∧ sf k 7 = 0) (he : 0 ≤ e) :
  Fits ⟨k,n,m,kids⟩↔((a≤n∧n≤b∧0≤m∧m≤c)∧e≤(kids.length:Int)∧(kids.length:Int)≤f)∧∀ u ∈ kids,meets (sf u.k 0) g = true:=by
 unfold Fits
 rw [fitsN_of hk r he,Int.sub_zero]
 refine and_congr_right fun _=>⟨fun h u hu=>?_,fun h i u hu=>?_⟩
 ·obtain ⟨i,hi⟩:=List.mem_iff_getElem?.1 hu
  have h1:=h i u hi
  have hlt:i < kids.length:=(List.getElem?_eq_some_iff.1 hi).1
  rw [want_of hk r,Int.sub_zero,if_neg (by omega)] at h1
  exact h1
 ·have hlt:i < kids.length:=(List.getElem?_eq_some_iff.1 hu).1
  rw [want_of hk r,Int.sub_zero,if_neg (by omega)]
  exact h u (List.mem_of_getElem? hu)
theorem fit_iff (t:T):Fit t↔Fits t∧∀ u ∈ t.kids,Fit u:=⟨fun h=>⟨h.here,h.kids⟩,fun h=>.mk t h.1 h.2⟩

structure Agree (t:T):Prop where
 ex:isExpr t = true↔(4≤t.k∧t.k≤12)∧Fit t
 ty:isType t = true↔(0≤t.k∧t.k≤3)∧Fit t
 st:isStmt t = true↔(13≤t.k∧t.k≤25)∧Fit t
theorem plain_iff (t:T):isPlain t = true↔(t.k = 0∨t.k = 1)∧t.n = 0∧t.m = 0∧t.kids = []:=by
 unfold isPlain
 simp
 constructor
 ·rintro ⟨⟨⟨h1,h2⟩,h3⟩,h4⟩; exact ⟨h1,h2,h3,h4⟩
 ·rintro ⟨h1,h2,h3,h4⟩; exact ⟨⟨⟨h1,h2⟩,h3⟩,h4⟩
theorem type_range {t:T} (h:isType t = true):0≤t.k∧t.k≤3:=by
 unfold isType at h
 split at h
 ·rename_i h2; simp at h2; omega
 ·split at h
  ·rename_i h2; simp at h2; omega
  ·have:=((plain_iff t).1 h).1; omega
theorem expr_range {t:T} (h:isExpr t = true):4≤t.k∧t.k≤12:=by
 rw [isExpr_eq] at h
 simp only [Bool.and_eq_true] at h
 have h1:=h.1
 unfold exprHead at h1
 repeat (split at h1; omega)
 cases h1
theorem stmt_range {t:T} (h:isStmt t = true):13≤t.k∧t.k≤25:=by
 rw [isStmt_eq] at h
 unfold stmtOf at h
 repeat (split at h; omega)
 simp at h; omega
theorem list_nil {l:List T} (h:(l.length:Int)≤0):l = []:=List.eq_nil_of_length_eq_zero (by omega)
theorem plain_fit {t:T} (ha:Agree t):isPlain t = true↔(t.k = 0∨t.k = 1)∧Fit t:=by
 constructor
 ·intro h
  have h1:=((plain_iff t).1 h).1
  exact ⟨h1,(ha.ty.1 (plain_type h)).2⟩
 ·rintro ⟨h1,h2⟩
  have h3:=ha.ty.2 ⟨by omega,h2⟩
  unfold isType at h3
  rw [if_neg (by simp; omega),if_neg (by simp; omega)] at h3
  exact h3
theorem block_iff {t:T} (ha:Agree t):isBlock t = true↔t.k = 13∧Fit t:=by
 unfold isBlock
 simp only [Bool.and_eq_true,beq_iff_eq]
 constructor
 ·rintro ⟨h1,h2⟩; exact ⟨h1,(ha.st.1 h2).2⟩
 ·rintro ⟨h1,h2⟩; exact ⟨h1,ha.st.2 ⟨by omega,h2⟩⟩
section
variable {kids:List T} (ih:∀ u ∈ kids,Agree u)
include ih
theorem ex_all:kids.all isExpr = true↔(∀ u ∈ kids,meets (sf u.k 0) 4 = true)∧∀ u ∈ kids,Fit u:=by
 rw [List.all_eq_true]
 refine ⟨fun h=>⟨fun u hu=>(meets4 _).2 ((ih u hu).ex.1 (h u hu)).1,fun u hu=>((ih u hu).ex.1 (h u hu)).2⟩,fun h u hu=>(ih u hu).ex.2 ⟨(meets4 _).1 (h.1 u hu),h.2 u hu⟩⟩
theorem st_all:kids.all isStmt = true↔(∀ u ∈ kids,meets (sf u.k 0) 24 = true)∧∀ u ∈ kids,Fit u:=by
 rw [List.all_eq_true]
 refine ⟨fun h=>⟨fun u hu=>(meets24 _).2 ((ih u hu).st.1 (h u hu)).1,fun u hu=>((ih u hu).st.1 (h u hu)).2⟩,fun h u hu=>(ih u hu).st.2 ⟨(meets24 _).1 (h.1 u hu),h.2 u hu⟩⟩
theorem pl_all:kids.all isPlain = true↔(∀ u ∈ kids,meets (sf u.k 0) 1 = true)∧∀ u ∈ kids,Fit u:=by
 rw [List.all_eq_true]
 refine ⟨fun h=>⟨fun u hu=>(meets1 _).2 (by have:=((plain_fit (ih u hu)).1 (h u hu)).1; omega),fun u hu=>((plain_fit (ih u hu)).1 (h u hu)).2⟩,fun h u hu=>(plain_fit (ih u hu)).2 ⟨by have:=(meets1 _).1 (h.1 u hu); omega,h.2 u hu⟩⟩
end
theorem btw_iff {k n m:Int} {kids:List T} {a b c d:Int}:btw ⟨k,n,m,kids⟩ a b c d = true↔(0≤n∧n≤a∧0≤m∧m≤b)∧c≤(kids.length:Int)∧(kids.length:Int)≤d:=by
 unfold btw
 simp only [Bool.and_eq_true,decide_eq_true_eq]
 omega

theorem ex4 {n m:Int} {kids:List T} (ih:∀ u ∈ kids,Agree u):isExpr ⟨4,n,m,kids⟩ = true↔Fit ⟨4,n,m,kids⟩:=by
 rw [isExpr_eq,fit_iff,fits_each (by omega) row4 (by omega),Bool.and_eq_true]
 simp only [exprHead,if_pos]
 constructor
 ·rintro ⟨h1,h2⟩
  simp only [Bool.and_eq_true,decide_eq_true_eq,beq_iff_eq] at h1
  obtain ⟨⟨⟨h3,h4⟩,h5⟩,h6⟩:=h1
  replace h6:=List.eq_nil_of_length_eq_zero h6
  subst h6
  exact ⟨⟨by simp; omega,by simp⟩,by simp⟩
 ·rintro ⟨⟨h1,h2⟩,h3⟩
  have h4:=list_nil h1.2.2
  subst h4
  exact ⟨by simp; omega,by simp⟩

theorem ex5 {n m:Int} {kids:List T} (ih:∀ u ∈ kids,Agree u):isExpr ⟨5,n,m,kids⟩ = true↔Fit ⟨5,n,m,kids⟩:=by
 rw [isExpr_eq,fit_iff,fits_each (by omega) row5 (by omega),Bool.and_eq_true]
 have hh:exprHead ⟨5,n,m,kids⟩ = btw ⟨5,n,m,kids⟩ 1 0 0 0:=by simp [exprHead]
 rw [hh,btw_iff]
 constructor
 ·rintro ⟨h1,h2⟩
  have h4:=list_nil h1.2.2
  subst h4
  exact ⟨⟨h1,by simp⟩,by simp⟩
 ·rintro ⟨⟨h1,h2⟩,h3⟩
  have h4:=list_nil h1.2.2
  subst h4
  exact ⟨h1,by simp⟩

theorem ex6 {n m:Int} {kids:List T} (ih:∀ u ∈ kids,Agree u):isExpr ⟨6,n,m,kids⟩ = true↔Fit ⟨6,n,m,kids⟩:=by
 rw [isExpr_eq,fit_iff,fits_each (by omega) row6 (by omega),Bool.and_eq_true]
 have hh:exprHead ⟨6,n,m,kids⟩ = btw ⟨6,n,m,kids⟩ 5 0 0 0:=by simp [exprHead]
 rw [hh,btw_iff]
 constructor
 ·rintro ⟨h1,h2⟩
  have h4:=list_nil h1.2.2
  subst h4
  exact ⟨⟨h1,by simp⟩,by simp⟩
 ·rintro ⟨⟨h1,h2⟩,h3⟩
  have h4:=list_nil h1.2.2
  subst h4
  exact ⟨h1,by simp⟩

theorem ex7 {n m:Int} {kids:List T} (ih:∀ u ∈ kids,Agree u):isExpr ⟨7,n,m,kids⟩ = true↔Fit ⟨7,n,m,kids⟩:=by
 rw [isExpr_eq,fit_iff,fits_each (by omega) row7 (by omega),Bool.and_eq_true]
 have hh:exprHead ⟨7,n,m,kids⟩ = btw ⟨7,n,m,kids⟩ 5 0 1 1:=by simp [exprHead]
 rw [hh,btw_iff]
 have h:=ex_all ih
 constructor
 ·rintro ⟨h1,h2⟩; exact ⟨⟨h1,(h.1 h2).1⟩,(h.1 h2).2⟩
 ·rintro ⟨⟨h1,h2⟩,h3⟩; exact ⟨h1,h.2 ⟨h2,h3⟩⟩

theorem ex8 {n m:Int} {kids:List T} (ih:∀ u ∈ kids,Agree u):isExpr ⟨8,n,m,kids⟩ = true↔Fit ⟨8,n,m,kids⟩:=by
 rw [isExpr_eq,fit_iff,fits_each (by omega) row8 (by omega),Bool.and_eq_true]
 have hh:exprHead ⟨8,n,m,kids⟩ = btw ⟨8,n,m,kids⟩ 5 2 0 0:=by simp [exprHead]
 rw [hh,btw_iff]
 constructor
 ·rintro ⟨h1,h2⟩
  have h4:=list_nil h1.2.2
  subst h4
  exact ⟨⟨h1,by simp⟩,by simp⟩
 ·rintro ⟨⟨h1,h2⟩,h3⟩
  have h4:=list_nil h1.2.2
  subst h4
  exact ⟨h1,by simp⟩

theorem ex9 {n m:Int} {kids:List T} (ih:∀ u ∈ kids,Agree u):isExpr ⟨9,n,m,kids⟩ = true↔Fit ⟨9,n,m,kids⟩:=by
 rw [isExpr_eq,fit_iff,fits_each (by omega) row9 (by omega),Bool.and_eq_true]
 have hh:exprHead ⟨9,n,m,kids⟩ = btw ⟨9,n,m,kids⟩ 13 0 2 2:=by simp [exprHead]
 rw [hh,btw_iff]
 have h:=ex_all ih
 constructor
 ·rintro ⟨h1,h2⟩; exact ⟨⟨h1,(h.1 h2).1⟩,(h.1 h2).2⟩
 ·rintro ⟨⟨h1,h2⟩,h3⟩; exact ⟨h1,h.2 ⟨h2,h3⟩⟩

theorem ex10 {n m:Int} {kids:List T} (ih:∀ u ∈ kids,Agree u):isExpr ⟨10,n,m,kids⟩ = true↔Fit ⟨10,n,m,kids⟩:=by
 rw [isExpr_eq,fit_iff,fits_each (by omega) row10 (by omega),Bool.and_eq_true]
 have hh:exprHead ⟨10,n,m,kids⟩ = btw ⟨10,n,m,kids⟩ 0 0 1 1:=by simp [exprHead]
 rw [hh,btw_iff]
 have h:=ex_all ih
 constructor
 ·rintro ⟨h1,h2⟩; exact ⟨⟨h1,(h.1 h2).1⟩,(h.1 h2).2⟩
 ·rintro ⟨⟨h1,h2⟩,h3⟩; exact ⟨h1,h.2 ⟨h2,h3⟩⟩

theorem ex11 {n m:Int} {kids:List T} (ih:∀ u ∈ kids,Agree u):isExpr ⟨11,n,m,kids⟩ = true↔Fit ⟨11,n,m,kids⟩:=by
 rw [isExpr_eq,fit_iff,fits_each (by omega) row11 (by omega),Bool.and_eq_true]
 have hh:exprHead ⟨11,n,m,kids⟩ = btw ⟨11,n,m,kids⟩ 5 0 0 3:=by simp [exprHead]
 rw [hh,btw_iff]
 have h:=ex_all ih
 constructor
 ·rintro ⟨h1,h2⟩; exact ⟨⟨h1,(h.1 h2).1⟩,(h.1 h2).2⟩
 ·rintro ⟨⟨h1,h2⟩,h3⟩; exact ⟨h1,h.2 ⟨h2,h3⟩⟩

theorem ex12 {n m:Int} {kids:List T} (ih:∀ u ∈ kids,Agree u):isExpr ⟨12,n,m,kids⟩ = true↔Fit ⟨12,n,m,kids⟩:=by
 rw [isExpr_eq,fit_iff,fits_each (by omega) row12 (by omega),Bool.and_eq_true]
 have hh:exprHead ⟨12,n,m,kids⟩ = btw ⟨12,n,m,kids⟩ 2 0 0 0:=by simp [exprHead]
 rw [hh,btw_iff]
 constructor
 ·rintro ⟨h1,h2⟩
  have h4:=list_nil h1.2.2
  subst h4
  exact ⟨⟨h1,by simp⟩,by simp⟩
 ·rintro ⟨⟨h1,h2⟩,h3⟩
  have h4:=list_nil h1.2.2
  subst h4
  exact ⟨h1,by simp⟩

theorem ty0 {n m:Int} {kids:List T}:isType ⟨0,n,m,kids⟩ = true↔Fit ⟨0,n,m,kids⟩:=by
 rw [fit_iff,fits_each (by omega) row0 (by omega)]
 have hh:isType ⟨0,n,m,kids⟩ = isPlain ⟨0,n,m,kids⟩:=by simp [isType]
 rw [hh,plain_iff]
 simp only
 constructor
 ·rintro ⟨h1,h2,h3,h4⟩; subst h4; exact ⟨⟨by simp; omega,by simp⟩,by simp⟩
 ·rintro ⟨⟨h1,h2⟩,h3⟩; exact ⟨by simp,by omega,by omega,list_nil h1.2.2⟩

theorem ty1 {n m:Int} {kids:List T}:isType ⟨1,n,m,kids⟩ = true↔Fit ⟨1,n,m,kids⟩:=by
 rw [fit_iff,fits_each (by omega) row1 (by omega)]
 have hh:isType ⟨1,n,m,kids⟩ = isPlain ⟨1,n,m,kids⟩:=by simp [isType]
 rw [hh,plain_iff]
 simp only
 constructor
 ·rintro ⟨h1,h2,h3,h4⟩; subst h4; exact ⟨⟨by simp; omega,by simp⟩,by simp⟩
 ·rintro ⟨⟨h1,h2⟩,h3⟩; exact ⟨by simp,by omega,by omega,list_nil h1.2.2⟩

theorem ty2 {n m:Int} {kids:List T}:isType ⟨2,n,m,kids⟩ = true↔Fit ⟨2,n,m,kids⟩:=by
 rw [fit_iff,fits_each (by omega) row2 (by omega)]
 have hh:isType ⟨2,n,m,kids⟩ = (decide (1≤n) && decide (n≤4) && m == 0 && kids.length == 0):=by simp [isType]
 rw [hh]
 simp only [Bool.and_eq_true,decide_eq_true_eq,beq_iff_eq]
 constructor
 ·rintro ⟨⟨⟨h1,h2⟩,h3⟩,h4⟩
  have h5:=List.eq_nil_of_length_eq_zero h4
  subst h5; exact ⟨⟨by simp; omega,by simp⟩,by simp⟩
 ·rintro ⟨⟨h1,h2⟩,h3⟩; exact ⟨⟨⟨by omega,by omega⟩,by omega⟩,by omega⟩
theorem ty3 {n m:Int} {kids:List T} (ih:∀ u ∈ kids,Agree u):isType ⟨3,n,m,kids⟩ = true↔Fit ⟨3,n,m,kids⟩:=by
 rw [fit_iff,fits_each (by omega) row3 (by omega)]
 have hh:isType ⟨3,n,m,kids⟩ = ((n == 0 && m == 0 && decide (1≤kids.length) && decide (kids.length≤3)) && kids.all isPlain):=by simp [isType]
 rw [hh,Bool.and_eq_true,pl_all ih]
 simp only [Bool.and_eq_true,decide_eq_true_eq,beq_iff_eq]
 constructor
 ·rintro ⟨⟨⟨⟨h1,h2⟩,h3⟩,h4⟩,h5,h6⟩; exact ⟨⟨by omega,h5⟩,h6⟩
 ·rintro ⟨⟨h1,h2⟩,h3⟩; exact ⟨⟨⟨⟨by omega,by omega⟩,by omega⟩,by omega⟩,h2,h3⟩
theorem map_all {f:T→Bool} (l:List T):(l.map f).all id = l.all f:=by rw [List.all_map]; rfl

theorem st14 {n m:Int} {kids:List T} (ih:∀ u ∈ kids,Agree u):isStmt ⟨14,n,m,kids⟩ = true↔Fit ⟨14,n,m,kids⟩:=by
 rw [isStmt_eq,fit_iff,fits_each (by omega) row14 (by omega)]
 have hh:∀ ex bl st,stmtOf ⟨14,n,m,kids⟩ ex bl st = (btw ⟨14,n,m,kids⟩ 5 0 1 1 && ex.all id):=fun ex bl st=>by simp [stmtOf]
 rw [hh,map_all,Bool.and_eq_true,btw_iff]
 have h:=ex_all ih
 constructor
 ·rintro ⟨h1,h2⟩; exact ⟨⟨h1,(h.1 h2).1⟩,(h.1 h2).2⟩
 ·rintro ⟨⟨h1,h2⟩,h3⟩; exact ⟨h1,h.2 ⟨h2,h3⟩⟩

theorem st15 {n m:Int} {kids:List T} (ih:∀ u ∈ kids,Agree u):isStmt ⟨15,n,m,kids⟩ = true↔Fit ⟨15,n,m,kids⟩:=by
 rw [isStmt_eq,fit_iff,fits_each (by omega) row15 (by omega)]
 have hh:∀ ex bl st,stmtOf ⟨15,n,m,kids⟩ ex bl st = (btw ⟨15,n,m,kids⟩ 5 0 2 2 && ex.all id):=fun ex bl st=>by simp [stmtOf]
 rw [hh,map_all,Bool.and_eq_true,btw_iff]
 have h:=ex_all ih
 constructor
 ·rintro ⟨h1,h2⟩; exact ⟨⟨h1,(h.1 h2).1⟩,(h.1 h2).2⟩
 ·rintro ⟨⟨h1,h2⟩,h3⟩; exact ⟨h1,h.2 ⟨h2,h3⟩⟩

theorem st16 {n m:Int} {kids:List T} (ih:∀ u ∈ kids,Agree u):isStmt ⟨16,n,m,kids⟩ = true↔Fit ⟨16,n,m,kids⟩:=by
 rw [isStmt_eq,fit_iff,fits_each (by omega) row16 (by omega)]
 have hh:∀ ex bl st,stmtOf ⟨16,n,m,kids⟩ ex bl st = (btw ⟨16,n,m,kids⟩ 5 2 1 1 && ex.all id):=fun ex bl st=>by simp [stmtOf]
 rw [hh,map_all,Bool.and_eq_true,btw_iff]
 have h:=ex_all ih
 constructor
 ·rintro ⟨h1,h2⟩; exact ⟨⟨h1,(h.1 h2).1⟩,(h.1 h2).2⟩
 ·rintro ⟨⟨h1,h2⟩,h3⟩; exact ⟨h1,h.2 ⟨h2,h3⟩⟩

theorem st19 {n m:Int} {kids:List T} (ih:∀ u ∈ kids,Agree u):isStmt ⟨19,n,m,kids⟩ = true↔Fit ⟨19,n,m,kids⟩:=by
 rw [isStmt_eq,fit_iff,fits_each (by omega) row19 (by omega)]
 have hh:∀ ex bl st,stmtOf ⟨19,n,m,kids⟩ ex bl st = (btw ⟨19,n,m,kids⟩ 0 0 1 1 && ex.all id):=fun ex bl st=>by simp [stmtOf]
 rw [hh,map_all,Bool.and_eq_true,btw_iff]
 have h:=ex_all ih
 constructor
 ·rintro ⟨h1,h2⟩; exact ⟨⟨h1,(h.1 h2).1⟩,(h.1 h2).2⟩
 ·rintro ⟨⟨h1,h2⟩,h3⟩; exact ⟨h1,h.2 ⟨h2,h3⟩⟩

theorem st20 {n m:Int} {kids:List T} (ih:∀ u ∈ kids,Agree u):isStmt ⟨20,n,m,kids⟩ = true↔Fit ⟨20,n,m,kids⟩:=by
 rw [isStmt_eq,fit_iff,fits_each (by omega) row20 (by omega)]
 have hh:∀ ex bl st,stmtOf ⟨20,n,m,kids⟩ ex bl st = (btw ⟨20,n,m,kids⟩ 0 0 1 1 && ex.all id):=fun ex bl st=>by simp [stmtOf]
 rw [hh,map_all,Bool.and_eq_true,btw_iff]
 have h:=ex_all ih
 constructor
 ·rintro ⟨h1,h2⟩; exact ⟨⟨h1,(h.1 h2).1⟩,(h.1 h2).2⟩
 ·rintro ⟨⟨h1,h2⟩,h3⟩; exact ⟨h1,h.2 ⟨h2,h3⟩⟩

theorem st22 {n m:Int} {kids:List T} (ih:∀ u ∈ kids,Agree u):isStmt ⟨22,n,m,kids⟩ = true↔Fit ⟨22,n,m,kids⟩:=by
 rw [isStmt_eq,fit_iff,fits_each (by omega) row22 (by omega)]
 have hh:∀ ex bl st,stmtOf ⟨22,n,m,kids⟩ ex bl st = (btw ⟨22,n,m,kids⟩ 2 0 1 1 && ex.all id):=fun ex bl st=>by simp [stmtOf]
 rw [hh,map_all,Bool.and_eq_true,btw_iff]
 have h:=ex_all ih
 constructor
 ·rintro ⟨h1,h2⟩; exact ⟨⟨h1,(h.1 h2).1⟩,(h.1 h2).2⟩
 ·rintro ⟨⟨h1,h2⟩,h3⟩; exact ⟨h1,h.2 ⟨h2,h3⟩⟩

theorem st23 {n m:Int} {kids:List T} (ih:∀ u ∈ kids,Agree u):isStmt ⟨23,n,m,kids⟩ = true↔Fit ⟨23,n,m,kids⟩:=by
 rw [isStmt_eq,fit_iff,fits_each (by omega) row23 (by omega)]
 have hh:∀ ex bl st,stmtOf ⟨23,n,m,kids⟩ ex bl st = (btw ⟨23,n,m,kids⟩ 5 0 0 3 && ex.all id):=fun ex bl st=>by simp [stmtOf]
 rw [hh,map_all,Bool.and_eq_true,btw_iff]
 have h:=ex_all ih
 constructor
 ·rintro ⟨h1,h2⟩; exact ⟨⟨h1,(h.1 h2).1⟩,(h.1 h2).2⟩
 ·rintro ⟨⟨h1,h2⟩,h3⟩; exact ⟨h1,h.2 ⟨h2,h3⟩⟩

theorem st24 {n m:Int} {kids:List T} (ih:∀ u ∈ kids,Agree u):isStmt ⟨24,n,m,kids⟩ = true↔Fit ⟨24,n,m,kids⟩:=by
 rw [isStmt_eq,fit_iff,fits_each (by omega) row24 (by omega)]
 have hh:∀ ex bl st,stmtOf ⟨24,n,m,kids⟩ ex bl st = (btw ⟨24,n,m,kids⟩ 0 0 1 1 && ex.all id):=fun ex bl st=>by simp [stmtOf]
 rw [hh,map_all,Bool.and_eq_true,btw_iff]
 have h:=ex_all ih
 constructor
 ·rintro ⟨h1,h2⟩; exact ⟨⟨h1,(h.1 h2).1⟩,(h.1 h2).2⟩
 ·rintro ⟨⟨h1,h2⟩,h3⟩; exact ⟨h1,h.2 ⟨h2,h3⟩⟩

theorem st13 {n m:Int} {kids:List T} (ih:∀ u ∈ kids,Agree u):isStmt ⟨13,n,m,kids⟩ = true↔Fit ⟨13,n,m,kids⟩:=by
 rw [isStmt_eq,fit_iff,fits_each (by omega) row13 (by omega)]
 have hh:∀ ex bl st,stmtOf ⟨13,n,m,kids⟩ ex bl st = (btw ⟨13,n,m,kids⟩ 0 0 0 8 && st.all id):=fun ex bl st=>by simp [stmtOf]
 rw [hh,map_all,Bool.and_eq_true,btw_iff]
 have h:=st_all ih
 constructor
 ·rintro ⟨h1,h2⟩; exact ⟨⟨h1,(h.1 h2).1⟩,(h.1 h2).2⟩
 ·rintro ⟨⟨h1,h2⟩,h3⟩; exact ⟨h1,h.2 ⟨h2,h3⟩⟩
theorem st25 {n m:Int} {kids:List T}:isStmt ⟨25,n,m,kids⟩ = true↔Fit ⟨25,n,m,kids⟩:=by
 rw [isStmt_eq,fit_iff,fits_each (by omega) row25 (by omega)]
 have hh:∀ ex bl st,stmtOf ⟨25,n,m,kids⟩ ex bl st = btw ⟨25,n,m,kids⟩ 0 0 0 0:=fun ex bl st=>by simp [stmtOf]
 rw [hh,btw_iff]
 constructor
 ·intro h1
  have h4:=list_nil h1.2.2
  subst h4
  exact ⟨⟨h1,by simp⟩,by simp⟩
 ·rintro ⟨⟨h1,h2⟩,h3⟩; exact h1
theorem fits_blocks {k n m : Int} {kids : List T} {a b c e f g B : Int} (hk : k ≠ 26) (r : sf k 1 = a ∧ sf k 2 = b ∧ sf k 3 = c ∧ sf k 4 = e ∧ sf k 5 = f ∧ sf k 6 = g ∧ sf k 7 = B) (he : 0 ≤ e) :
  Fits ⟨k,n,m,kids⟩↔((a≤n∧n≤b∧0≤m∧m≤c)∧e≤(kids.length:Int) - B∧(kids.length:Int) - B≤f)∧∀ (i:Nat) (u:T),kids[i]? = some u→meets (sf u.k 0) (if (kids.length:Int) - B≤i then 8 else g) = true:=by
 unfold Fits
 rw [fitsN_of hk r he]
 refine and_congr_right fun _=>⟨fun h i u hu=>?_,fun h i u hu=>?_⟩
 ·have h1:=h i u hu
  rw [want_of hk r] at h1
  exact h1
 ·rw [want_of hk r]
  exact h i u hu
theorem two_of {l:List T} (h:l.length = 2):∃ a b,l = [a,b]:=match l,h with
 | [a,b],_=>⟨a,b,rfl⟩
theorem three_of {l:List T} (h:l.length = 3):∃ a b c,l = [a,b,c]:=match l,h with
 | [a,b,c],_=>⟨a,b,c,rfl⟩
theorem ex_at {u:T} (ha:Agree u):isExpr u = true↔meets (sf u.k 0) 4 = true∧Fit u:=by rw [ha.ex,meets4]
theorem bl_at {u:T} (ha:Agree u):isBlock u = true↔meets (sf u.k 0) 8 = true∧Fit u:=by rw [block_iff ha,meets8]; constructor <;> rintro ⟨h1,h2⟩ <;> exact ⟨by omega,h2⟩
theorem st17 {n m:Int} {kids:List T} (ih:∀ u ∈ kids,Agree u):isStmt ⟨17,n,m,kids⟩ = true↔Fit ⟨17,n,m,kids⟩:=by
 rw [isStmt_eq,fit_iff,fits_blocks (by omega) row17 (by omega)]
 have hh:∀ ex bl st,stmtOf ⟨17,n,m,kids⟩ ex bl st = (btw ⟨17,n,m,kids⟩ 0 0 3 3 && kidB ex 0 && kidB bl 1 && kidB bl 2):=fun ex bl st=>by simp [stmtOf]
 rw [hh,Bool.and_eq_true,Bool.and_eq_true,Bool.and_eq_true,btw_iff]
 by_cases hl:kids.length = 3
 ·obtain ⟨a,b,c,rfl⟩:=three_of hl
  have ea:=ex_at (ih a (by simp))
  have eb:=bl_at (ih b (by simp))
  have ec:=bl_at (ih c (by simp))
  simp only [List.map_cons,List.map_nil,kidB,List.getElem?_cons_zero,List.getElem?_cons_succ,Option.getD_some,ea,eb,ec]
  constructor
  ·rintro ⟨⟨⟨h1,h2⟩,h3⟩,h4⟩
   refine ⟨⟨⟨h1.1,by simp,by simp⟩,fun i u hu=>?_⟩,by simp; exact ⟨h2.2,h3.2,h4.2⟩⟩
   match i,hu with
   | 0,hu=>cases hu; exact h2.1
   | 1,hu=>cases hu; exact h3.1
   | 2,hu=>cases hu; exact h4.1
   | i + 3,hu=>simp at hu
  ·rintro ⟨⟨⟨h1,_⟩,h2⟩,h3⟩
   simp only [List.mem_cons,List.not_mem_nil,or_false,forall_eq_or_imp,forall_eq] at h3
   exact ⟨⟨⟨⟨h1,by simp⟩,h2 0 a rfl,h3.1⟩,h2 1 b rfl,h3.2.1⟩,h2 2 c rfl,h3.2.2⟩
 ·constructor
  ·rintro ⟨⟨⟨h1,h2⟩,h3⟩,h4⟩; exact absurd h1.2 (by omega)
  ·rintro ⟨⟨h1,h2⟩,h3⟩; exact absurd h1.2 (by omega)
theorem st18 {n m:Int} {kids:List T} (ih:∀ u ∈ kids,Agree u):isStmt ⟨18,n,m,kids⟩ = true↔Fit ⟨18,n,m,kids⟩:=by
 rw [isStmt_eq,fit_iff,fits_blocks (by omega) row18 (by omega)]
 have hh:∀ ex bl st,stmtOf ⟨18,n,m,kids⟩ ex bl st = (btw ⟨18,n,m,kids⟩ 0 0 2 2 && kidB ex 0 && kidB bl 1):=fun ex bl st=>by simp [stmtOf]
 rw [hh,Bool.and_eq_true,Bool.and_eq_true,btw_iff]
 by_cases hl:kids.length = 2
 ·obtain ⟨a,b,rfl⟩:=two_of hl
  have ea:=ex_at (ih a (by simp))
  have eb:=bl_at (ih b (by simp))
  simp only [List.map_cons,List.map_nil,kidB,List.getElem?_cons_zero,List.getElem?_cons_succ,Option.getD_some,ea,eb]
  constructor
  ·rintro ⟨⟨h1,h2⟩,h3⟩
   refine ⟨⟨⟨h1.1,by simp,by simp⟩,fun i u hu=>?_⟩,by simp; exact ⟨h2.2,h3.2⟩⟩
   match i,hu with
   | 0,hu=>cases hu; exact h2.1
   | 1,hu=>cases hu; exact h3.1
   | i + 2,hu=>simp at hu
  ·rintro ⟨⟨⟨h1,_⟩,h2⟩,h3⟩
   simp only [List.mem_cons,List.not_mem_nil,or_false,forall_eq_or_imp,forall_eq] at h3
   exact ⟨⟨⟨h1,by simp⟩,h2 0 a rfl,h3.1⟩,h2 1 b rfl,h3.2⟩
 ·constructor
  ·rintro ⟨⟨h1,h2⟩,h3⟩; exact absurd h1.2 (by omega)
  ·rintro ⟨⟨h1,h2⟩,h3⟩; exact absurd h1.2 (by omega)
theorem st21 {n m:Int} {kids:List T} (ih:∀ u ∈ kids,Agree u):isStmt ⟨21,n,m,kids⟩ = true↔Fit ⟨21,n,m,kids⟩:=by
 rw [isStmt_eq,fit_iff,fits_blocks (by omega) row21 (by omega)]
 have hh:∀ ex bl st,stmtOf ⟨21,n,m,kids⟩ ex bl st = (btw ⟨21,n,m,kids⟩ 5 0 2 2 && kidB bl 0 && kidB bl 1):=fun ex bl st=>by simp [stmtOf]
 rw [hh,Bool.and_eq_true,Bool.and_eq_true,btw_iff]
 by_cases hl:kids.length = 2
 ·obtain ⟨a,b,rfl⟩:=two_of hl
  have ea:=bl_at (ih a (by simp))
  have eb:=bl_at (ih b (by simp))
  simp only [List.map_cons,List.map_nil,kidB,List.getElem?_cons_zero,List.getElem?_cons_succ,Option.getD_some,ea,eb]
  constructor
  ·rintro ⟨⟨h1,h2⟩,h3⟩
   refine ⟨⟨⟨h1.1,by simp,by simp⟩,fun i u hu=>?_⟩,by simp; exact ⟨h2.2,h3.2⟩⟩
   match i,hu with
   | 0,hu=>cases hu; exact h2.1
   | 1,hu=>cases hu; exact h3.1
   | i + 2,hu=>simp at hu
  ·rintro ⟨⟨⟨h1,_⟩,h2⟩,h3⟩
   simp only [List.mem_cons,List.not_mem_nil,or_false,forall_eq_or_imp,forall_eq] at h3
   exact ⟨⟨⟨h1,by simp⟩,h2 0 a rfl,h3.1⟩,h2 1 b rfl,h3.2⟩
 ·constructor
  ·rintro ⟨⟨h1,h2⟩,h3⟩; exact absurd h1.2 (by omega)
  ·rintro ⟨⟨h1,h2⟩,h3⟩; exact absurd h1.2 (by omega)
theorem agree (t:T):Agree t:=by
 induction h:SizeOf.sizeOf t using Nat.strongRecOn generalizing t with
 | ind s ihs =>
  subst h
  have ih:∀ u ∈ t.kids,Agree u:=fun u hu=>ihs _ (kid_lt hu) u rfl
  clear ihs
  obtain ⟨k,n,m,kids⟩:=t
  simp only at ih
  refine ⟨⟨fun h=>⟨expr_range h,?_⟩,fun ⟨hr,h⟩=>?_⟩,⟨fun h=>⟨type_range h,?_⟩,fun ⟨hr,h⟩=>?_⟩,⟨fun h=>⟨stmt_range h,?_⟩,fun ⟨hr,h⟩=>?_⟩⟩

  ·have hr:=expr_range h
   simp only at hr
   have hk:k = 4∨k = 5∨k = 6∨k = 7∨k = 8∨k = 9∨k = 10∨k = 11∨k = 12:=by omega
   rcases hk with rfl | rfl | rfl | rfl | rfl | rfl | rfl | rfl | rfl
   ·exact (ex4 ih).1 h
   ·exact (ex5 ih).1 h
   ·exact (ex6 ih).1 h
   ·exact (ex7 ih).1 h
   ·exact (ex8 ih).1 h
   ·exact (ex9 ih).1 h
   ·exact (ex10 ih).1 h
   ·exact (ex11 ih).1 h
   ·exact (ex12 ih).1 h
  ·simp only at hr
   have hk:k = 4∨k = 5∨k = 6∨k = 7∨k = 8∨k = 9∨k = 10∨k = 11∨k = 12:=by omega
   rcases hk with rfl | rfl | rfl | rfl | rfl | rfl | rfl | rfl | rfl
   ·exact (ex4 ih).2 h
   ·exact (ex5 ih).2 h
   ·exact (ex6 ih).2 h
   ·exact (ex7 ih).2 h
   ·exact (ex8 ih).2 h
   ·exact (ex9 ih).2 h
   ·exact (ex10 ih).2 h
   ·exact (ex11 ih).2 h
   ·exact (ex12 ih).2 h
  ·have hr:=type_range h
   simp only at hr
   have hk:k = 0∨k = 1∨k = 2∨k = 3:=by omega
   rcases hk with rfl | rfl | rfl | rfl
   ·exact ty0.1 h
   ·exact ty1.1 h
   ·exact ty2.1 h
   ·exact (ty3 ih).1 h
  ·simp only at hr
   have hk:k = 0∨k = 1∨k = 2∨k = 3:=by omega
   rcases hk with rfl | rfl | rfl | rfl
   ·exact ty0.2 h
   ·exact ty1.2 h
   ·exact ty2.2 h
   ·exact (ty3 ih).2 h
  ·have hr:=stmt_range h
   simp only at hr
   have hk:k = 13∨k = 14∨k = 15∨k = 16∨k = 17∨k = 18∨k = 19∨k = 20∨k = 21∨k = 22∨k = 23∨k = 24∨k = 25:=by omega
   rcases hk with rfl | rfl | rfl | rfl | rfl | rfl | rfl | rfl | rfl | rfl | rfl | rfl | rfl
   ·exact (st13 ih).1 h
   ·exact (st14 ih).1 h
   ·exact (st15 ih).1 h
   ·exact (st16 ih).1 h
   ·exact (st17 ih).1 h
   ·exact (st18 ih).1 h
   ·exact (st19 ih).1 h
   ·exact (st20 ih).1 h
   ·exact (st21 ih).1 h
   ·exact (st22 ih).1 h
   ·exact (st23 ih).1 h
   ·exact (st24 ih).1 h
   ·exact st25.1 h
  ·simp only at hr
   have hk:k = 13∨k = 14∨k = 15∨k = 16∨k = 17∨k = 18∨k = 19∨k = 20∨k = 21∨k = 22∨k = 23∨k = 24∨k = 25:=by omega
   rcases hk with rfl | rfl | rfl | rfl | rfl | rfl | rfl | rfl | rfl | rfl | rfl | rfl | rfl
   ·exact (st13 ih).2 h
   ·exact (st14 ih).2 h
   ·exact (st15 ih).2 h
   ·exact (st16 ih).2 h
   ·exact (st17 ih).2 h
   ·exact (st18 ih).2 h
   ·exact (st19 ih).2 h
   ·exact (st20 ih).2 h
   ·exact (st21 ih).2 h
   ·exact (st22 ih).2 h
   ·exact (st23 ih).2 h
   ·exact (st24 ih).2 h
   ·exact st25.2 h

theorem fun_iff (t:T):IsFun t↔t.k = 26∧Fit t:=by
 obtain ⟨k,n,m,kids⟩:=t
 by_cases hk:k = 26
 ·subst hk
  obtain ⟨r1,r2,r3,r4,r5,r6,r7⟩:=row26
  have hN:FitsN ⟨26,n,m,kids⟩↔(0≤n∧n≤3∧0≤m∧m≤0)∧n≤(kids.length:Int) - 1∧(kids.length:Int) - 1≤6:=by
   unfold FitsN params listed
   simp only [if_pos,r1,r2,r3,r4,r5,r7]
   omega
  have hW:∀ i:Nat,wantS ⟨26,n,m,kids⟩ i = if (i:Int) < n then 1 else if (kids.length:Int) - 1≤i then 8 else 3:=fun i=>by
   unfold wantS params listed
   simp only [if_pos,r6,r7]
  unfold IsFun
  rw [fit_iff,btw_iff]
  unfold Fits
  rw [hN]
  simp only [true_and,hW]
  constructor
  ·rintro ⟨h1,h2,h3,h4⟩
   have hlast:∀ i u,kids[i]? = some u→i + 1 < kids.length∨i = kids.length - 1:=fun i u hu=>by
    have:=(List.getElem?_eq_some_iff.1 hu).1; omega
   refine ⟨⟨⟨h1.1,h2,by omega⟩,fun i u hu=>?_⟩,fun u hu=>?_⟩
   ·rcases hlast i u hu with hi | hi
    ·obtain ⟨h5,h6⟩:=h3 i u hi hu
     by_cases hin:(i:Int) < n
     ·rw [if_pos hin,meets1]
      have:=((plain_iff u).1 (h6 hin)).1; omega
     ·rw [if_neg hin,if_neg (by omega),meets3]
      exact type_range h5
    ·rw [if_neg (by omega),if_pos (by omega),meets8]
     have h5:=h4 u (by rw [← hi]; exact hu)
     have:=((block_iff (agree u)).1 h5).1; omega
   ·obtain ⟨i,hi⟩:=List.mem_iff_getElem?.1 hu
    rcases hlast i u hi with hl | hl
    ·exact ((agree u).ty.1 (h3 i u hl hi).1).2
    ·exact ((block_iff (agree u)).1 (h4 u (by rw [← hl]; exact hi))).2
  ·rintro ⟨⟨⟨h1,h2,h3⟩,h4⟩,h5⟩
   refine ⟨⟨h1,by omega,by omega⟩,h2,fun i u hi hu=>?_,fun u hu=>?_⟩
   ·have h6:=h4 i u hu
    have h7:=h5 u (List.mem_of_getElem? hu)
    by_cases hin:(i:Int) < n
    ·rw [if_pos hin,meets1] at h6
     have hp:=(plain_fit (agree u)).2 ⟨by omega,h7⟩
     exact ⟨plain_type hp,fun _=>hp⟩
    ·rw [if_neg hin,if_neg (by omega),meets3] at h6
     exact ⟨(agree u).ty.2 ⟨h6,h7⟩,fun h=>absurd h hin⟩
   ·have hlt:=(List.getElem?_eq_some_iff.1 hu).1
    have h6:=h4 _ u hu
    rw [if_neg (by omega),if_pos (by omega),meets8] at h6
    exact (block_iff (agree u)).2 ⟨by omega,h5 u (List.mem_of_getElem? hu)⟩
 ·constructor
  ·rintro ⟨h,_⟩; exact absurd h hk
  ·rintro ⟨h,_⟩; exact absurd h hk
theorem prog_iff (t:T):IsProg t↔sf t.k 0 = 64∧size t≤256∧depth t≤16∧Fit t:=by
 obtain ⟨k,n,m,kids⟩:=t
 rw [sort64]
 by_cases hk:k = 27
 ·subst hk
  unfold IsProg
  rw [fit_iff,fits_each (by omega) row27 (by omega),btw_iff]
  simp only [true_and]
  constructor
  ·rintro ⟨h1,h2,h3,h4⟩
   have h5:∀ u ∈ kids,u.k = 26∧Fit u:=fun u hu=>by
    obtain ⟨i,hi⟩:=List.mem_iff_getElem?.1 hu
    have h6:=h4 i u hi
    exact (fun_iff u).1 (by unfold isFun at h6; simpa using h6)
   exact ⟨h2,h3,⟨h1,fun u hu=>(meets32 _).2 (by have:=(h5 u hu).1; omega)⟩,fun u hu=>(h5 u hu).2⟩
  ·rintro ⟨h2,h3,⟨h1,h4⟩,h5⟩
   refine ⟨h1,h2,h3,fun i u hu=>isFun_true ((fun_iff u).2 ⟨?_,h5 u (List.mem_of_getElem? hu)⟩)⟩
   have:=(meets32 _).1 (h4 u (List.mem_of_getElem? hu)); omega
 ·constructor
  ·rintro ⟨h,_⟩; exact absurd h hk
  ·rintro ⟨h,_⟩; exact absurd h hk
end Go.Proofs.YtkkenbalpnmfmaaDoor.TR
