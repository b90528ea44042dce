/- Texts joined. -/
import Derived.Test.YtkkenbalpnmfmaaDoorH03
import Derived.Test.YtkkenbalpnmfmaaDoorH40
import Derived.Test.YtkkenbalpnmfmaaDoorH33
import Derived.Test.YtkkenbalpnmfmaaDoorH02
set_option linter.unusedVariables false
namespace Go.Proofs.YtkkenbalpnmfmaaDoor
open Go.RowKit WM TR
theorem Rep.lt {w:World} {S:Nat→Prop} {d:Nat} {t:T} {cs:List Value} (h:Rep w S d t cs) (hin:In S w.heap.size):Rep w (fun b=>b < w.heap.size) d t cs:=h.mono hin
theorem in_lt (w:World):In (fun b=>b < w.heap.size) w.heap.size:=fun _ h=>h

end Go.Proofs.YtkkenbalpnmfmaaDoor

namespace Go.Proofs.YtkkenbalpnmfmaaDoor
open Go.RowKit WM TR


end Go.Proofs.YtkkenbalpnmfmaaDoor
namespace Go.Proofs.YtkkenbalpnmfmaaDoor.TR


end Go.Proofs.YtkkenbalpnmfmaaDoor.TR

namespace Go.Proofs.YtkkenbalpnmfmaaDoor.TR
theorem rows_get (l:List T) (n:Nat) (q:List Int):∀ j,j≤l.length→(rows l j)[n]? = some q→∃ (i:Nat) (u:T) (p:List Int) (m:Nat),i < j∧l[i]? = some u∧q = (i:Int) :: p∧(paths u)[m]? = some p∧n = sizes l i + m
 | 0,_,h=>by simp [rows_zero] at h
 | j + 1,hj,h=>by
  obtain ⟨u,hu⟩:∃ u,l[j]? = some u:=⟨_,List.getElem?_eq_getElem (by omega)⟩
  have hl:(rows l j).length = sizes l j:=rows_length (fun u _=>paths_length u) j (by omega)
  rw [rows_next hu] at h
  by_cases hn:n < (rows l j).length
  ·rw [List.getElem?_append_left hn] at h
   obtain ⟨i,u',p,m,hi,hrest⟩:=rows_get l n q j (by omega) h
   exact ⟨i,u',p,m,by omega,hrest⟩
  ·rw [List.getElem?_append_right (by omega),List.getElem?_map] at h
   cases hp:(paths u)[n - (rows l j).length]? with
   | none=>simp [hp] at h
   | some p =>
    simp only [hp,Option.map_some,Option.some.injEq] at h
    exact ⟨j,u,p,_,by omega,hu,h.symm,hp,by omega⟩
theorem idx_paths (t:T):∀ (n:Nat) (q:List Int),(paths t)[n]? = some q→idx q t = some n:=by
 induction h:SizeOf.sizeOf t using Nat.strongRecOn generalizing t with
 | ind s ih =>
  subst h
  intro n q hq
  rw [paths_rows] at hq
  cases n with
  | zero =>
   simp only [List.getElem?_cons_zero,Option.some.injEq] at hq
   subst hq
   rfl
  | succ n =>
   rw [List.getElem?_cons_succ] at hq
   obtain ⟨i,u,p,m,hi,hu,rfl,hp,hn⟩:=rows_get _ n q _ (Nat.le_refl _) hq
   have:=ih _ (kid_lt (List.mem_of_getElem? hu)) u rfl m p hp
   simp only [idx]
   rw [if_neg (by omega)]
   simp only [Int.toNat_natCast,hu,this,Option.some.injEq]
   omega
theorem at_cons {i:Int} {p:List Int} {t v:T}:at? (i :: p) t = some v↔∃ u,0≤i∧t.kids[i.toNat]? = some u∧at? p u = some v:=by
 simp only [at?]
 by_cases hi:i < 0
 ·rw [if_pos hi]
  constructor
  ·intro h; cases h
  ·rintro ⟨u,h,-⟩; omega
 ·rw [if_neg hi]
  cases hk:t.kids[i.toNat]? with
  | none=>simp
  | some u =>
   constructor
   ·intro h; exact ⟨u,by omega,rfl,h⟩
   ·rintro ⟨u',-,h,h2⟩; cases h; exact h2
theorem set_cons {i:Int} {p:List Int} {t x z:T}:set? (i :: p) t x = some z↔∃ u v,0≤i∧t.kids[i.toNat]? = some u∧set? p u x = some v∧z = ⟨t.k,t.n,t.m,t.kids.set i.toNat v⟩:=by
 simp only [set?]
 by_cases hi:i < 0
 ·rw [if_pos hi]
  constructor
  ·intro h; cases h
  ·rintro ⟨u,v,h,-⟩; omega
 ·rw [if_neg hi]
  cases hk:t.kids[i.toNat]? with
  | none=>simp
  | some u =>
   cases hs:set? p u x with
   | none=>simp [hs]
   | some v =>
    constructor
    ·intro h
     simp only [hs,Option.some.injEq] at h
     exact ⟨u,v,by omega,rfl,hs,h.symm⟩
    ·rintro ⟨u',v',-,h,h2,h3⟩
     cases h
     rw [hs] at h2
     cases h2
     simp only [hs,h3]
theorem at_of_idx:∀ (p:List Int) (t:T) (n:Nat),idx p t = some n→∃ v,at? p t = some v
 | [],t,_,_=>⟨t,rfl⟩
 | i :: p,t,n,h=>by
  simp only [idx] at h
  by_cases hi:i < 0
  ·rw [if_pos hi] at h; cases h
  ·rw [if_neg hi] at h
   cases hk:t.kids[i.toNat]? with
   | none=>simp [hk] at h
   | some u =>
    simp only [hk] at h
    cases hm:idx p u with
    | none=>simp [hm] at h
    | some m =>
     obtain ⟨v,hv⟩:=at_of_idx p u m hm
     exact ⟨v,at_cons.2 ⟨u,by omega,hk,hv⟩⟩
theorem set_of_at (x:T):∀ (p:List Int) (t v:T),at? p t = some v→∃ z,set? p t x = some z
 | [],_,_,_=>⟨x,rfl⟩
 | i :: p,t,v,h=>by
  obtain ⟨u,hi,hu,hv⟩:=at_cons.1 h
  obtain ⟨z,hz⟩:=set_of_at x p u v hv
  exact ⟨_,set_cons.2 ⟨u,z,hi,hu,hz,rfl⟩⟩



theorem sum_set {l:List T} {i:Nat} {u:T} (v:T) (h:l[i]? = some u):((l.set i v).map size).sum + size u = (l.map size).sum + size v:=by
 induction l generalizing i with
 | nil=>simp at h
 | cons a l ih =>
  cases i with
  | zero =>
   simp only [List.getElem?_cons_zero,Option.some.injEq] at h
   subst h
   simp only [List.set_cons_zero,List.map_cons,List.sum_cons]
   omega
  | succ i =>
   rw [List.getElem?_cons_succ] at h
   have:=ih h
   simp only [List.set_cons_succ,List.map_cons,List.sum_cons]
   omega
theorem set_size (x:T):∀ (p:List Int) (t z:T),set? p t x = some z→size z≤size t + size x
 | [],t,z,h=>by simp only [set?,Option.some.injEq] at h; subst h; omega
 | i :: p,t,z,h=>by
  obtain ⟨u,v,hi,hu,hv,rfl⟩:=set_cons.1 h
  have h1:=set_size x p u v hv
  have h2:=sum_set v hu
  rw [size_eq,size_eq t]
  simp only
  omega


end Go.Proofs.YtkkenbalpnmfmaaDoor.TR

namespace Go.Proofs.YtkkenbalpnmfmaaDoor
open TR
theorem at_size:∀ (p:List Int) (t u:T),at? p t = some u→size u≤size t
 | [],t,u,h=>by simp only [at?,Option.some.injEq] at h; rw [h]; exact Nat.le_refl _
 | i :: p,t,u,h=>by
  simp only [at?] at h
  split at h
  ·cases h
  ·cases hk:t.kids[i.toNat]? with
   | none=>rw [hk] at h; cases h
   | some v =>
    rw [hk] at h
    have:=at_size p v u h
    have:=size_kid hk
    omega

end Go.Proofs.YtkkenbalpnmfmaaDoor
