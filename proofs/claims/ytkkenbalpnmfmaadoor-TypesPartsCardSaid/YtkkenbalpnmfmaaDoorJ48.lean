/- Texts joined. -/
import Derived.Test.YtkkenbalpnmfmaaDoorJ03
import Derived.Test.YtkkenbalpnmfmaaDoorJ47
import Derived.Test.YtkkenbalpnmfmaaDoorJ05
import Derived.Test.YtkkenbalpnmfmaaDoorJ33
set_option linter.unusedVariables false
namespace Go.Proofs.YtkkenbalpnmfmaaDoor
open Go.RowKit WM TR
theorem Rep.lt {w:World} {S:Nat→Prop} {d:Nat} {t:T} {cs:List Value} (h:Rep w S d t cs) (hin:In S w.heap.size):Rep w (fun b=>b < w.heap.size) d t cs:=h.mono hin


end Go.Proofs.YtkkenbalpnmfmaaDoor

namespace Go.Proofs.YtkkenbalpnmfmaaDoor
open Go.RowKit WM TR

theorem SetMade.some_ {v:T} {w:World} {e:Ending} {w':World} (h:SetMade (some v) w e w'):∃ A' c' D,e = .returned (.tuple #[.agg #[.int .i64 v.k,.int .i64 v.n,.int .i64 v.m,.slice A' v.kids.length c'],.int .i64 0])∧Rep w' (fun b=>w.heap.size≤b∧b < w'.heap.size) D v (nd v A' c')∧Below w.heap.size w w':=by
 obtain ⟨u,A',c',D,rfl,he,hr,hb⟩:=h
 exact ⟨A',c',D,he,hr,hb⟩
theorem SetMade.none_ {w:World} {e:Ending} {w':World} (h:SetMade none w e w'):∃ A' c',e = .returned (.tuple #[.agg #[.int .i64 0,.int .i64 0,.int .i64 0,.slice A' 0 c'],.int .i64 6])∧Below w.heap.size w w':=by
 obtain ⟨u,A',c',D,rfl,he,hr,hb⟩:=h
 exact ⟨A',c',he,hb⟩
end Go.Proofs.YtkkenbalpnmfmaaDoor

namespace Go.Proofs.YtkkenbalpnmfmaaDoor
open Go.RowKit WM TR


attribute [local go_sem ↓] shutN

end Go.Proofs.YtkkenbalpnmfmaaDoor

namespace Go.Proofs.YtkkenbalpnmfmaaDoor
open Go.RowKit WM TR


end Go.Proofs.YtkkenbalpnmfmaaDoor
namespace Go.Proofs.YtkkenbalpnmfmaaDoor.TR


end Go.Proofs.YtkkenbalpnmfmaaDoor.TR

namespace Go.Proofs.YtkkenbalpnmfmaaDoor.TR


theorem at_cons {i:Int} {p:List Int} {t v:T}:at? (i :: p) t = some v↔∃ u,0≤i∧t.kids[i.toNat]? = some u∧at? p u = some v:=by
 simp only [at?]
 by_cases hi:i < 0
 ·rw [if_pos hi]
  constructor
  ·intro h; cases h
  ·rintro ⟨u,h,-⟩; omega
 ·rw [if_neg hi]
  cases hk:t.kids[i.toNat]? with
  | none=>simp
  | some u =>
   constructor
   ·intro h; exact ⟨u,by omega,rfl,h⟩
   ·rintro ⟨u',-,h,h2⟩; cases h; exact h2
theorem set_cons {i:Int} {p:List Int} {t x z:T}:set? (i :: p) t x = some z↔∃ u v,0≤i∧t.kids[i.toNat]? = some u∧set? p u x = some v∧z = ⟨t.k,t.n,t.m,t.kids.set i.toNat v⟩:=by
 simp only [set?]
 by_cases hi:i < 0
 ·rw [if_pos hi]
  constructor
  ·intro h; cases h
  ·rintro ⟨u,v,h,-⟩; omega
 ·rw [if_neg hi]
  cases hk:t.kids[i.toNat]? with
  | none=>simp
  | some u =>
   cases hs:set? p u x with
   | none=>simp [hs]
   | some v =>
    constructor
    ·intro h
     simp only [hs,Option.some.injEq] at h
     exact ⟨u,v,by omega,rfl,hs,h.symm⟩
    ·rintro ⟨u',v',-,h,h2,h3⟩
     cases h
     rw [hs] at h2
     cases h2
     simp only [hs,h3]





theorem sum_set {l:List T} {i:Nat} {u:T} (v:T) (h:l[i]? = some u):((l.set i v).map size).sum + size u = (l.map size).sum + size v:=by
 induction l generalizing i with
 | nil=>simp at h
 | cons a l ih =>
  cases i with
  | zero =>
   simp only [List.getElem?_cons_zero,Option.some.injEq] at h
   subst h
   simp only [List.set_cons_zero,List.map_cons,List.sum_cons]
   omega
  | succ i =>
   rw [List.getElem?_cons_succ] at h
   have:=ih h
   simp only [List.set_cons_succ,List.map_cons,List.sum_cons]
   omega
theorem set_size (x:T):∀ (p:List Int) (t z:T),set? p t x = some z→size z≤size t + size x
 | [],t,z,h=>by simp only [set?,Option.some.injEq] at h; subst h; omega
 | i :: p,t,z,h=>by
  obtain ⟨u,v,hi,hu,hv,rfl⟩:=set_cons.1 h
  have h1:=set_size x p u v hv
  have h2:=sum_set v hu
  rw [size_eq,size_eq t]
  simp only
  omega


end Go.Proofs.YtkkenbalpnmfmaaDoor.TR
