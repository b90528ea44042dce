/- Texts joined. -/
import Derived.Test.YtkkenbalpnmfmaaDoorJ36
import Derived.Test.YtkkenbalpnmfmaaDoorJ39
import Derived.Test.YtkkenbalpnmfmaaDoorJ13
import Derived.Test.YtkkenbalpnmfmaaDoorJ14
import Derived.Test.YtkkenbalpnmfmaaDoorJ37
import Derived.Test.YtkkenbalpnmfmaaDoorJ11
import Derived.Deep.RegionHeld3
set_option linter.unusedVariables false
namespace Go.Proofs.YtkkenbalpnmfmaaDoor
open Go.RowKit WM TR TY





theorem rowsF_mem:∀ (l:List T) (i:Nat) (q:List Int),q ∈ rowsF l i→∃ k b u,q = ((i + k:Nat):Int) :: b∧l[k]? = some u∧b ∈ paths u
 | [],_,_,h=>by simp [rowsF] at h
 | u :: l,i,q,h=>by
  rw [rowsF] at h
  rcases List.mem_append.1 h with h | h
  ·obtain ⟨r,hr,rfl⟩:=List.mem_map.1 h
   exact ⟨0,r,u,by simp,rfl,hr⟩
  ·obtain ⟨k,b,y,g1,g2,g3⟩:=rowsF_mem l (i + 1) q h
   exact ⟨k + 1,b,y,by rw [g1,Nat.add_right_comm,Nat.add_assoc],g2,g3⟩



structure Bd (x:T):Prop where
 fit:Fit x
 lo:4≤x.k
 hi:x.k≤25
theorem row_sorts {k:Int} (h1:4≤k) (h2:k≤25):sf k 6 = 0∨sf k 6 = 4∨sf k 6 = 24:=by
 obtain ⟨j,rfl⟩:=Int.eq_ofNat_of_zero_le (show 0≤k by omega)
 have h:(List.range 30).all (fun j=>decide (j < 4) || decide (25 < j) || (sf (j:Nat) 6 == 0 || (sf (j:Nat) 6 == 4 || sf (j:Nat) 6 == 24))) = true:=by decide +kernel
 have:=List.all_eq_true.1 h j (by simp; omega)
 simp only [Bool.or_eq_true,decide_eq_true_eq,beq_iff_eq] at this
 omega
theorem Bd.kid {x:T} (h:Bd x) {i:Nat} {v:T} (hv:x.kids[i]? = some v):Bd v∧((i:Int) < listed x→x.k≠13→isEx v.k = true):=by
 have h1:=h.fit.here.2 i v hv
 have hp:TR.params x = 0:=by unfold TR.params; rw [if_neg (by have:=h.hi; omega)]
 unfold wantS at h1
 rw [hp,if_neg (by omega)] at h1
 have hf:=h.fit.kids v (List.mem_of_getElem? hv)
 by_cases hl:listed x≤i
 ·rw [if_pos hl] at h1
  have:=(meets8 v.k).1 h1
  exact ⟨⟨hf,by omega,by omega⟩,fun h=>absurd h (by omega)⟩
 ·rw [if_neg hl] at h1
  rcases row_sorts h.lo h.hi with hs | hs | hs
  ·rw [hs,meets0] at h1; cases h1
  ·rw [hs] at h1
   have:=(meets4 v.k).1 h1
   exact ⟨⟨hf,by omega,by omega⟩,fun _ _=>isEx_iff.2 this⟩
  ·rw [hs] at h1
   have:=(meets24 v.k).1 h1
   refine ⟨⟨hf,by omega,by omega⟩,fun _ h13=>?_⟩
   exfalso
   have h24:∀ k:Int,4≤k→k≤25→k≠13→sf k 6≠24:=fun k g1 g2 g3=>by
    obtain ⟨j,rfl⟩:=Int.eq_ofNat_of_zero_le (show 0≤k by omega)
    have h:(List.range 30).all (fun j=>decide (j = 13) || (decide (j < 4) || decide (25 < j)) || (sf (j:Nat) 6 != 24)) = true:=by decide +kernel
    have:=List.all_eq_true.1 h j (by simp; omega)
    simp only [Bool.or_eq_true,decide_eq_true_eq,bne_iff_ne] at this
    rcases this with (h | h) | h
    ·omega
    ·omega
    ·exact h
   exact h24 x.k h.lo h.hi h13 hs
theorem Bd.at_:∀ (b:List Int) (x v:T),Bd x→at? b x = some v→Bd v
 | [],x,v,h,hv=>by rw [at?] at hv; rw [← Option.some.inj hv]; exact h
 | i :: b,x,v,h,hv=>by
  rw [at?] at hv
  split at hv
  ·cases hv
  ·split at hv
   ·cases hv
   ·rename_i u hu
    exact Bd.at_ b u v (h.kid hu).1 hv



theorem type_at:∀ (b:List Int) (x v:T),Fit x→(0≤x.k∧x.k≤3)→at? b x = some v→0≤v.k∧v.k≤3:=by
 intro b
 induction b with
 | nil=>intro x v _ hx hv; rw [at?] at hv; rw [← Option.some.inj hv]; exact hx
 | cons i b ih =>
  intro x v hx hk hv
  rw [at?] at hv
  split at hv
  ·cases hv
  ·split at hv
   ·cases hv
   ·rename_i y hy
    have h1:=hx.here.2 _ y hy
    have hp:TR.params x = 0:=by unfold TR.params; rw [if_neg (by omega)]
    have hs:sf x.k 7 = 0∧(sf x.k 6 = 0∨sf x.k 6 = 1):=by
     have hc:x.k = 0∨x.k = 1∨x.k = 2∨x.k = 3:=by omega
     rcases hc with e | e | e | e <;> rw [e]
     ·have:=row0; omega
     ·have:=row1; omega
     ·have:=row2; omega
     ·have:=row3; omega
    have hlt:=(List.getElem?_eq_some_iff.1 hy).1
    unfold wantS at h1
    rw [hp,if_neg (by omega),if_neg (by unfold listed; omega)] at h1
    rcases hs.2 with e | e
    ·rw [e,meets0] at h1; cases h1
    ·rw [e] at h1
     have:=(meets1 y.k).1 h1
     exact ih y v (hx.kids y (List.mem_of_getElem? hy)) (by omega) hv

theorem bd_place {p u v:T} (hp:isProg p = true) {k:Nat} (hu:p.kids[k]? = some u) {b:List Int} (hv:at? (((u.kids.length - 1:Nat):Int) :: b) u = some v):Bd v:=by
 have hpp:IsProg p:=by unfold isProg at hp; simpa using hp
 have hfu:IsFun u:=by have h:=hpp.2.2.2.2 k u hu; unfold isFun at h; simpa using h
 rw [at?,if_neg (by omega),Int.toNat_natCast] at hv
 split at hv
 ·cases hv
 ·rename_i t ht
  have h1:=hfu.2.2.2.2 t ht
  unfold isBlock at h1
  simp only [Bool.and_eq_true,beq_iff_eq] at h1
  have h2:=(agree t).st.1 h1.2
  exact Bd.at_ b t v ⟨h2.2,by omega,by omega⟩ hv
theorem at_some (t:T):∀ q ∈ paths t,∃ v,at? q t = some v:=by
 induction h:SizeOf.sizeOf t using Nat.strongRecOn generalizing t with
 | ind n ih =>
  subst h
  intro q hq
  rw [paths_F] at hq
  rcases List.mem_cons.1 hq with rfl | hq
  ·exact ⟨t,by rw [at?]⟩
  ·obtain ⟨k,b,u,g1,g2,g3⟩:=rowsF_mem _ _ _ hq
   rw [Nat.zero_add] at g1
   rw [g1,at_kid b g2]
   exact ih _ (kid_lt (List.mem_of_getElem? g2)) u rfl b g3

end Go.Proofs.YtkkenbalpnmfmaaDoor

namespace Go.Proofs.YtkkenbalpnmfmaaDoor
open Go.RowKit WM TR TY

theorem es_at:∀ (b:List Int) (t x:T),at? b t = some x→isEx x.k = true→x ∈ es t
  | [],t,x,h,hx=>by
    rw [at?] at h
    obtain rfl:=Option.some.inj h
    rw [es_eq,if_pos hx]; simp
  | i :: b,t,x,h,hx=>by
    rw [at?] at h
    split at h
    · cases h
    · split at h
      · cases h
      · rename_i u hu
        rw [es_eq]
        exact List.mem_append_right _ (List.mem_flatten.2 ⟨es u,List.mem_map.2 ⟨u,List.mem_of_getElem? hu,rfl⟩,es_at b u x h hx⟩)
theorem misused_kids (s:Sc) (k n m:Int) {l l':List T} (h:l'.length = l.length):misused s ⟨k,n,m,l'⟩ = misused s ⟨k,n,m,l⟩:=by unfold misused; simp [h]
theorem missing_kids (s:Sc) (k n m:Int) (l l':List T):missing s ⟨k,n,m,l'⟩ = missing s ⟨k,n,m,l⟩:=rfl
theorem typeOf_kids (s:Sc) (k n m:Int) {l l':List T} (h:l'.length = l.length):typeOf s ⟨k,n,m,l'⟩ = typeOf s ⟨k,n,m,l⟩:=by
  unfold typeOf
  rw [misused_kids s k n m h,missing_kids s k n m l l']
  rfl
theorem wants_kids (s:Sc) (k n m:Int) (l l':List T):wants s ⟨k,n,m,l'⟩ = wants s ⟨k,n,m,l⟩:=rfl
theorem ndR_kids (s:Sc) (k n m:Int) {l l':List T} (h:l'.length = l.length):ndR s ⟨k,n,m,l'⟩ = ndR s ⟨k,n,m,l⟩:=by
  unfold ndR
  rw [misused_kids s k n m h,missing_kids s k n m l l',wants_kids s k n m l l']
theorem zip_set {s:Sc} {v v':T} (ht:typeOf s v' = typeOf s v):∀ (l:List T) (i:Nat) (ks:List Int),l[i]? = some v→List.zipWith (fit1 s) (l.set i v') ks = List.zipWith (fit1 s) l ks
  | [],_,_,h=>by simp at h
  | _ :: _,_,[],_=>by simp
  | u :: l,0,k :: ks,h=>by
    simp at h; subst h
    rw [List.set_cons_zero,List.zipWith_cons_cons,List.zipWith_cons_cons]
    unfold fit1; rw [ht]
  | u :: l,i + 1,k :: ks,h=>by
    rw [List.set_cons_succ,List.zipWith_cons_cons,List.zipWith_cons_cons,zip_set ht l i ks (by simpa using h)]
theorem errOf_set {s:Sc} {z v v':T} {i:Nat} (hv:z.kids[i]? = some v) (ht:typeOf s v' = typeOf s v):errOf s ⟨z.k,z.n,z.m,z.kids.set i v'⟩ = errOf s z:=by
  obtain ⟨k,n,m,l⟩:=z
  have hl:(l.set i v').length = l.length:=List.length_set
  unfold errOf
  rw [misused_kids s k n m hl,missing_kids s k n m l _,wants_kids s k n m l _]
  show (if missing s ⟨k,n,m,l⟩ = true then (5:Int) else if (misused s ⟨k,n,m,l⟩ || !fitB s (l.set i v') (wants s ⟨k,n,m,l⟩)) = true then 12 else 0) = _
  have e:fitB s (l.set i v') (wants s ⟨k,n,m,l⟩) = fitB s l (wants s ⟨k,n,m,l⟩):=by unfold fitB; rw [zip_set ht l i _ hv]
  rw [e]
theorem at_cons {i:Int} {b:List Int} {z x:T} (h:at? (i :: b) z = some x):∃ (j:Nat) (v:T),i = (j:Int)∧z.kids[j]? = some v∧at? b v = some x:=by
  rw [at?] at h
  split at h
  · cases h
  · rename_i h0
    split at h
    · cases h
    · rename_i v hv
      exact ⟨i.toNat,v,by omega,hv,h⟩
theorem set_cons {b:List Int} {z v y v':T} {j:Nat} (hv:z.kids[j]? = some v) (hs:set? b v y = some v'):set? ((j:Int) :: b) z y = some ⟨z.k,z.n,z.m,z.kids.set j v'⟩:=by
  rw [set?,if_neg (by omega),Int.toNat_natCast,hv]
  simp only [hs]
theorem set_ex:∀ (b:List Int) (z y x:T),at? b z = some x→∃ z',set? b z y = some z'
  | [],_,y,_,_=>⟨y,rfl⟩
  | i :: b,z,y,x,h=>by
    obtain ⟨j,v,rfl,hv,hx⟩:=at_cons h
    obtain ⟨v',hv'⟩:=set_ex b v y x hx
    exact ⟨_,set_cons hv hv'⟩
theorem inner_type {s:Sc} {b:List Int} {i:Int} {z y x z':T} (h:at? (i :: b) z = some x) (hs:set? (i :: b) z y = some z'):typeOf s z' = typeOf s z∧z'.k = z.k:=by
  obtain ⟨j,v,rfl,hv,hx⟩:=at_cons h
  obtain ⟨v',hv'⟩:=set_ex b v y x hx
  rw [set_cons hv hv'] at hs
  obtain rfl:=Option.some.inj hs
  exact ⟨typeOf_kids s z.k z.n z.m List.length_set,rfl⟩
theorem keep_ok {s:Sc} {x y:T} (ht:typeOf s y = typeOf s x) (hy:okW s y):∀ (b:List Int) (z z':T),at? b z = some x→set? b z y = some z'→okW s z→okW s z'∧typeOf s z' = typeOf s z
  | [],z,z',h,hs,_=>by
    rw [at?] at h
    rw [set?] at hs
    obtain rfl:=Option.some.inj h
    obtain rfl:=Option.some.inj hs
    exact ⟨hy,ht⟩
  | i :: b,z,z',h,hs,hok=>by
    have h2:=(inner_type (s:=s) h hs).1
    obtain ⟨j,v,rfl,hv,hx⟩:=at_cons h
    obtain ⟨v',hv'⟩:=set_ex b v y x hx
    rw [set_cons hv hv'] at hs
    obtain rfl:=Option.some.inj hs
    obtain ⟨h0,hk⟩:=(ok_iff s z).1 hok
    obtain ⟨i1,i2⟩:=keep_ok ht hy b v v' hx hv' (hk v (List.mem_of_getElem? hv))
    refine ⟨(ok_iff s _).2 ⟨by rw [errOf_set hv i2]; exact h0,fun u hu=>?_⟩,h2⟩
    rcases List.mem_or_eq_of_mem_set hu with hu | hu
    · exact hk u hu
    · rw [hu]; exact i1
theorem firstL_set {s:Sc} {v':T} (hv':(firstW s v').2≠0):∀ (l:List T) (j i:Nat),j < l.length→(∀ u ∈ l,okW s u)→firstL s (l.set j v') i = (((i + j:Nat):Int) :: (firstW s v').1,(firstW s v').2)
  | [],_,_,h,_=>by simp at h
  | u :: l,0,i,_,_=>by
    rw [List.set_cons_zero,firstL,if_pos hv']; rfl
  | u :: l,j + 1,i,h,hk=>by
    have hu:(firstW s u).2 = 0:=hk u (List.mem_cons_self ..)
    rw [List.set_cons_succ,firstL,if_neg (by simpa using hu),firstL_set hv' l j (i + 1) (by simpa using h) fun w hw=>hk w (List.mem_cons_of_mem _ hw)]
    rw [Nat.add_right_comm,Nat.add_assoc]
theorem bad_first {s : Sc} {x y : T} {i : Int} : ∀ (c : List Int) (z z' : T), okW s z → at? (c ++ [i]) z = some x → set? (c ++ [i]) z y = some z' →
    (∀ (w:T) (j:Nat),at? c z = some w→i = (j:Int)→w.kids[j]? = some x→∃ kd,(ndR s w).2[j]? = some kd∧fit1 s y kd = false)→firstW s z' = (c,12)
  | [],z,z',_,h,hs,hw=>by
    rw [List.nil_append] at h hs
    obtain ⟨j,v,rfl,hv,hx⟩:=at_cons h
    rw [at?] at hx
    obtain rfl:=Option.some.inj hx
    rw [set_cons (v':=y) hv rfl] at hs
    obtain rfl:=Option.some.inj hs
    obtain ⟨kd,h1,h2⟩:=hw z j rfl rfl hv
    have hlt:=(List.getElem?_eq_some_iff.1 hv).1
    have he:errOf s ⟨z.k,z.n,z.m,z.kids.set j y⟩ = 12:=by
      refine errOf_bad (y:=y) (i:=j) (kd:=kd) ?_ ?_ h2
      · show (z.kids.set j y)[j]? = some y
        rw [List.getElem?_set,if_pos rfl,if_pos hlt]
      · rw [ndR_kids s z.k z.n z.m (l:=z.kids) List.length_set]; exact h1
    rw [firstW_eq,if_pos (by rw [he]; decide),he]
  | i0 :: c,z,z',hok,h,hs,hw=>by
    rw [List.cons_append] at h hs
    obtain ⟨j,v,rfl,hv,hx⟩:=at_cons h
    obtain ⟨v',hv'⟩:=set_ex (c ++ [i]) v y x hx
    rw [set_cons hv hv'] at hs
    obtain rfl:=Option.some.inj hs
    obtain ⟨h0,hk⟩:=(ok_iff s z).1 hok
    have hlt:=(List.getElem?_eq_some_iff.1 hv).1
    have ih:=bad_first c v v' (hk v (List.mem_of_getElem? hv)) hx hv' fun w j' hw' hj' hk'=>hw w j' (by rw [at?,if_neg (by omega),Int.toNat_natCast,hv]; exact hw') hj' hk'
    have ht:typeOf s v' = typeOf s v:=by
      cases c with
      | nil=>exact (inner_type hx hv').1
      | cons _ _=>exact (inner_type hx hv').1
    rw [firstW_eq,if_neg (by rw [errOf_set hv ht,h0]; decide)]
    show firstL s (z.kids.set j v') 0 = _
    have hne:(firstW s v').2≠0:=by rw [ih]; exact (by decide:(12:Int)≠0)
    rw [firstL_set hne z.kids j 0 hlt hk,ih,Nat.zero_add]
theorem wants_at {s:Sc} {y:T} (h:Bd y) (hfo:FOk s.funs) (he:errOf s y = 0) {i:Nat} {v:T} (hv:y.kids[i]? = some v) (hx:isEx v.k = true):∃ kd,(ndR s y).2[i]? = some kd:=by
  obtain ⟨h1,h2,_⟩:=errOf_zero he
  have hno:=nok_of h.fit
  have hlt:=(List.getElem?_eq_some_iff.1 hv).1
  have hlo:=h.lo
  have hhi:=h.hi
  have hvx:=isEx_iff.1 hx
  have hp:TR.params y = 0:=by unfold TR.params; rw [if_neg (by omega)]
  have hw:=h.fit.here.2 i v hv
  have hb:=h.fit.here.1.2
  unfold wantS at hw
  rw [hp,if_neg (by omega)] at hw
  rw [hp] at hb
  have hls:(i:Int) < listed y:=by
    by_cases hl:listed y≤i
    · rw [if_pos hl] at hw
      have:=(meets8 v.k).1 hw
      omega
    · omega
  rw [if_neg (by omega)] at hw
  have key:i < (wants s y).length→∃ kd,(ndR s y).2[i]? = some kd:=fun hi=>by
    unfold ndR
    rw [h1,h2]
    exact ⟨_,List.getElem?_eq_getElem hi⟩
  have hc:(y.k = 4∨y.k = 5∨y.k = 6∨y.k = 8∨y.k = 12∨y.k = 21∨y.k = 25)∨y.k = 13∨(y.k = 11∨y.k = 23)∨y.k = 9∨y.k = 15∨y.k = 7∨y.k = 10∨y.k = 14∨y.k = 16∨y.k = 17∨y.k = 18∨y.k = 19∨y.k = 20∨y.k = 22∨y.k = 24:=by omega
  unfold listed at hb hls
  rcases hc with e | e | e | e | e | e | e | e | e | e | e | e | e | e | e
  · exfalso
    rcases e with e | e | e | e | e | e | e <;> rw [e] at hb hls
    · have:=row4; omega
    · have:=row5; omega
    · have:=row6; omega
    · have:=row8; omega
    · have:=row12; omega
    · have:=row21; omega
    · have:=row25; omega
  · exfalso
    rw [e,row13.2.2.2.2.2.1] at hw
    have:=(meets24 v.k).1 hw
    omega
  · refine key ?_
    have e2:wants s y = TY.params s y.n:=by unfold wants; rcases e with e | e <;> simp [e]
    rw [e2]
    have hn0:=hno.n (by omega)
    have hmn:y.n.toNat < s.funs.length:=by
      unfold missing at h1
      rw [if_neg (by omega),if_neg (by omega),if_pos e] at h1
      simp at h1; omega
    have hmu:(y.kids.length:Int) = (tAt s.funs y.n).n:=by
      unfold misused at h2
      rw [if_neg (by omega),if_neg (by omega),if_neg (by omega),if_neg (by omega),if_pos e] at h2
      simpa using h2
    have e3:=List.getElem?_eq_getElem hmn
    have hf:=hfo _ (List.mem_of_getElem? e3)
    unfold TY.params
    rw [tAt_some e3] at hmu ⊢
    rw [List.length_map,List.length_take]
    omega
  all_goals
    refine key ?_
    rw [e] at hb hls
    have hr:=And.intro row9 (And.intro row15 (And.intro row7 (And.intro row10 (And.intro row14 (And.intro row16 (And.intro row17 (And.intro row18 (And.intro row19 (And.intro row20 (And.intro row22 row24))))))))))
    first
      | (have e2 : (wants s y).length = 2 := by simp [wants, e]; split <;> rfl
         omega)
      | (have e2 : (wants s y).length = 2 := by simp [wants, e]
         omega)
      | (have e2 : (wants s y).length = 1 := by simp [wants, e]
         omega)
structure Pl (p:T) (q:List Int) (x:T) (k:Nat) (u blk:T) (i:Int) (b:List Int):Prop where
  hq:q = (k:Int) :: ((u.kids.length - 1:Nat):Int) :: i :: b
  hu:p.kids[k]? = some u
  bl:u.kids[u.kids.length - 1]? = some blk
  at_:at? (i :: b) blk = some x
theorem pl_of {p x:T} (hp:isProg p = true) {q:List Int} (hx:at? q p = some x) (h3:3≤q.length) (hex:isEx x.k = true):∃ k u blk i b,Pl p q x k u blk i b:=by
  have hpp:IsProg p:=by unfold isProg at hp; simpa using hp
  match q,h3 with
  | k :: j :: i :: b,_ =>
    obtain ⟨k,u,rfl,hu,h1⟩:=at_cons hx
    obtain ⟨j,v,rfl,hv,h2⟩:=at_cons h1
    have hfu:IsFun u:=by have h:=hpp.2.2.2.2 k u hu; unfold isFun at h; simpa using h
    have hlt:=(List.getElem?_eq_some_iff.1 hv).1
    by_cases hj:j = u.kids.length - 1
    · exact ⟨k,u,v,i,b,by rw [hj],hu,by rw [← hj]; exact hv,h2⟩
    · have hty:=(hfu.2.2.2.1 j v (by omega) hv).1
      have hft:=(agree v).ty.1 hty
      have:=type_at (i :: b) v x hft.2 hft.1 h2
      have:=isEx_iff.1 hex
      omega
theorem pl_set {p x y : T} {q : List Int} {k : Nat} {u blk : T} {i : Int} {b : List Int} (h : Pl p q x k u blk i b) :
    ∃ blk',set? (i :: b) blk y = some blk'∧set? q p y = some ⟨p.k,p.n,p.m,p.kids.set k ⟨u.k,u.n,u.m,u.kids.set (u.kids.length - 1) blk'⟩⟩:=by
  obtain ⟨blk',hb⟩:=set_ex (i :: b) blk y x h.at_
  refine ⟨blk',hb,?_⟩
  rw [h.hq]
  exact set_cons h.hu (set_cons h.bl hb)
section
variable {p x y u blk blk':T} {q b:List Int} {k:Nat} {i:Int}
def putP (p u blk':T) (k:Nat):T:=⟨p.k,p.n,p.m,p.kids.set k ⟨u.k,u.n,u.m,u.kids.set (u.kids.length - 1) blk'⟩⟩
def putF (u blk':T):T:=⟨u.k,u.n,u.m,u.kids.set (u.kids.length - 1) blk'⟩
theorem take_set_last (l:List T) (v:T):(l.set (l.length - 1) v).take (l.length - 1) = l.take (l.length - 1):=by
  rw [List.take_set,List.set_eq_of_length_le (by rw [List.length_take]; omega)]
theorem put_funs (hp:Fine p) (hu:p.kids[k]? = some u):∀ (i:Nat) (x:T),p.kids[i]? = some x→∃ u',(putP p u blk' k).kids[i]? = some u'∧u'.n = x.n∧u'.kids.take x.n.toNat = x.kids.take x.n.toNat:=fun i x hx=>by
  have hlt:k < p.kids.length:=(List.getElem?_eq_some_iff.1 hu).1
  show ∃ u',(p.kids.set k _)[i]? = some u'∧_
  by_cases hi:k = i
  · subst hi
    obtain rfl:u = x:=Option.some.inj (hu.symm.trans hx)
    refine ⟨⟨u.k,u.n,u.m,u.kids.set (u.kids.length - 1) blk'⟩,by rw [List.getElem?_set,if_pos rfl,if_pos hlt],rfl,?_⟩
    have h1:=(prog_kid hp.prog (List.mem_of_getElem? hu)).n1
    show (u.kids.set (u.kids.length - 1) blk').take u.n.toNat = _
    rw [List.take_set,List.set_eq_of_length_le (by rw [List.length_take]; omega)]
  · exact ⟨x,by rw [List.getElem?_set,if_neg hi]; exact hx,rfl,rfl⟩
theorem put_ext (hp:Fine p) (hu:p.kids[k]? = some u) (v:T):Ext (scO p v) (scO (putP p u blk' k) v):=⟨fun _ _ hx=>hx,put_funs hp hu,Int.le_refl _⟩
theorem put_vars:(scO (putP p u blk' k) (putF u blk')).vars = (scO p u).vars:=by
  show (u.kids.set (u.kids.length - 1) blk').take ((u.kids.set (u.kids.length - 1) blk').length - 1) = _
  rw [List.length_set]
  exact take_set_last _ _
theorem put_extF (hp:Fine p) (hu:p.kids[k]? = some u):Ext (scO p u) (scO (putP p u blk' k) (putF u blk')):=⟨fun i t hx=>by rw [put_vars]; exact hx,put_funs hp hu,Int.le_refl _⟩
theorem put_prep (hp:Fine p) (h:Pl p q x k u blk i b) (hex:isEx x.k = true):okW (scO p u) blk∧Bd blk∧okW (scO p u) x∧Fit x∧(typeOf (scO p u) x = 0∨typeOf (scO p u) x = 1)∧okW (scO (putP p u blk' k) (putF u blk')) u:=by
  have hmem:=List.mem_of_getElem? h.hu
  have hpp:IsProg p:=by have:=hp.prog; unfold isProg at this; simpa using this
  have hfu:IsFun u:=by have h:=hpp.2.2.2.2 k u h.hu; unfold isFun at h; simpa using h
  have hpk:=prog_kid hp.prog hmem
  have hok:=okk_of hp u hmem
  have hokb:=((ok_iff _ u).1 hok).2 blk (List.mem_of_getElem? h.bl)
  have hbd:Bd blk:=bd_place (b:=[]) hp.prog h.hu (by rw [at?,if_neg (by omega),Int.toNat_natCast,h.bl]; rfl)
  have hes:=es_sub blk x (es_at _ _ _ h.at_ hex)
  have hokx:=hes.2.2.2.2 _ hokb
  have hfx:=hes.2.2.2.1 hbd.fit
  exact ⟨hokb,hbd,hokx,hfx,type_range01 hfu hfx hokx,okW_ext (put_extF hp h.hu) u hpk.fit hok⟩
theorem part_ok (hp:Fine p) (h:Pl p q x k u blk i b) (hex:isEx x.k = true) (hy:GE (scO p u) y (typeOf (scO p u) x)) (hs:set? (i :: b) blk y = some blk') (hq:isProg (putP p u blk' k) = true):chk (putP p u blk' k) = ([],0):=by
  have hmem:=List.mem_of_getElem? h.hu
  obtain ⟨_,_,_,_,_,hu'⟩:=put_prep (blk':=blk') hp h hex
  refine chk_ofM hq fun v hvm=>?_
  rcases List.mem_or_eq_of_mem_set hvm with hv | hv
  · exact okW_ext (put_ext hp h.hu v) v (prog_kid hp.prog hv).fit (okk_of hp v hv)
  · rw [hv]
    have hfy:Fit y:=((agree y).ex.1 hy.ex).2
    have hty:∀ v,typeOf (scO (putP p u blk' k) (putF u blk')) v = typeOf (scO p u) v:=fun v=>typeOf_vars put_vars v
    exact (keep_ok (x:=x) (y:=y) (by rw [hty,hty]; exact hy.ty) (okW_ext (put_extF hp h.hu) y hfy hy.ok) (((u.kids.length - 1:Nat):Int) :: i :: b) u (putF u blk') (by rw [at_kid _ h.bl]; exact h.at_) (set_cons h.bl hs) hu').1
theorem dropLast_snoc (i:Int) (b:List Int):∃ c j,i :: b = c ++ [j]∧(i :: b).dropLast = c:=by
  have h:=List.dropLast_concat_getLast (l:=i :: b) (by simp)
  exact ⟨(i :: b).dropLast,(i :: b).getLast (by simp),h.symm,rfl⟩
theorem chkL_at {p u':T} {r:List Int × Int} (hne:r.2≠0):∀ (l:List T) (k i:Nat),l[k]? = some u'→(∀ (j:Nat) (v:T),j < k→l[j]? = some v→okW (scO p v) v)→firstW (scO p u') u' = r→chkL p l i = (((i + k:Nat):Int) :: r.1,r.2)
  | [],_,_,h,_,_=>by simp at h
  | v :: l,0,i,h,_,hr=>by
    simp at h; subst h
    rw [chkL,hr,if_pos hne]; rfl
  | v :: l,k + 1,i,h,hk,hr=>by
    have hv:(firstW (scO p v) v).2 = 0:=hk 0 v (by omega) rfl
    rw [chkL,if_neg (by simpa using hv),chkL_at hne l k (i + 1) (by simpa using h) (fun j w hj hw=>hk (j + 1) w (by omega) (by simpa using hw)) hr]
    rw [Nat.add_right_comm,Nat.add_assoc]
theorem part_bad (hp:Fine p) (h:Pl p q x k u blk i b) (hex:isEx x.k = true) {ty:Int} (hy:GE (scO p u) y ty) (hty0:ty = 0∨ty = 1) (hne:ty≠typeOf (scO p u) x) (hs:set? (i :: b) blk y = some blk') (hq:isProg (putP p u blk' k) = true):chk (putP p u blk' k) = (q.dropLast,12):=by
  have hmem:=List.mem_of_getElem? h.hu
  have hlt:k < p.kids.length:=(List.getElem?_eq_some_iff.1 h.hu).1
  obtain ⟨hokb,hbd,hokx,hfx,htx,hu'⟩:=put_prep (blk':=blk') hp h hex
  have hty:∀ v,typeOf (scO (putP p u blk' k) (putF u blk')) v = typeOf (scO p u) v:=fun v=>typeOf_vars put_vars v
  obtain ⟨c,j,hc,hd⟩:=dropLast_snoc i b
  have hfo:=prog_fok hq
  have hokb2:okW (scO (putP p u blk' k) (putF u blk')) blk:=((ok_iff _ u).1 hu').2 blk (List.mem_of_getElem? h.bl)
  have h1:firstW (scO (putP p u blk' k) (putF u blk')) (putF u blk') = (((u.kids.length - 1:Nat):Int) :: c,12):=by
    refine bad_first (x:=x) (y:=y) (i:=j) (((u.kids.length - 1:Nat):Int) :: c) u (putF u blk') hu' (by rw [List.cons_append,← hc,at_kid _ h.bl]; exact h.at_) (by rw [List.cons_append,← hc]; exact set_cons h.bl hs) fun w j' hw hj hk=>?_
    rw [at_kid _ h.bl] at hw
    have hbw:=Bd.at_ c blk w hbd hw
    have hew:=okW_node c blk w hokb2 hw
    obtain ⟨kd,hkd⟩:=wants_at hbw hfo hew hk hex
    refine ⟨kd,hkd,?_⟩
    have hfit:fit1 (scO (putP p u blk' k) (putF u blk')) x kd = true:=by
      cases hf:fit1 (scO (putP p u blk' k) (putF u blk')) x kd with
      | true=>rfl
      | false=>have:=errOf_bad hk hkd hf; rw [hew] at this; cases this
    unfold fit1 at hfit ⊢
    rw [hty] at hfit ⊢
    rw [hy.ty]
    simp at hfit ⊢
    omega
  unfold chk
  rw [if_pos hq]
  have h2:=chkL_at (p:=putP p u blk' k) (u':=putF u blk') (r:=(((u.kids.length - 1:Nat):Int) :: c,12)) (show (12:Int)≠0 by decide) (putP p u blk' k).kids k 0 (by show (p.kids.set k _)[k]? = _; rw [List.getElem?_set,if_pos rfl,if_pos hlt]; rfl) (fun j' v hj' hv=>by
    have hv2:(p.kids.set k (putF u blk'))[j']? = some v:=hv
    rw [List.getElem?_set,if_neg (by omega)] at hv2
    have hm:=List.mem_of_getElem? hv2
    exact okW_ext (put_ext hp h.hu v) v (prog_kid hp.prog hm).fit (okk_of hp v hm)) h1
  rw [h2,h.hq,Nat.zero_add,← hd]
  rfl
theorem of_pl (hp:Fine p) (h:Pl p q x k u blk i b) (hex:isEx x.k = true):ofK p (k:Int) x = (typeOf (scO p u) x,0):=by
  obtain ⟨_,_,hokx,_,_,_⟩:=put_prep (blk':=blk) hp h hex
  obtain ⟨hw,_⟩:=es_body hp.prog (List.mem_of_getElem? h.hu) h.bl (es_at _ _ _ h.at_ hex)
  have hlt:=(List.getElem?_eq_some_iff.1 h.hu).1
  unfold ofK
  rw [if_neg (by simp [hp.prog]),if_neg (by simp [hw]),if_neg (by omega),tAt_j h.hu,if_neg (by simpa [okW] using hokx)]
end
end Go.Proofs.YtkkenbalpnmfmaaDoor

namespace Go.Proofs.YtkkenbalpnmfmaaDoor
open Go.RowKit WM TR TY

theorem fine_sok {p u:T} {k:Nat} (hp:Fine p) (hu:p.kids[k]? = some u):SOk (scO p u):=by
 have hpp:IsProg p:=by have:=hp.prog; unfold isProg at this; simpa using this
 have hb:=hpp.2.1
 unfold btw at hb
 simp only [Bool.and_eq_true,decide_eq_true_eq] at hb
 have hfun:∀ (i:Nat) (v:T),p.kids[i]? = some v→IsFun v:=fun i v hv=>by have h:=hpp.2.2.2.2 i v hv; unfold isFun at h; simpa using h
 have hfu:=hfun k u hu
 have hkl:∀ v,IsFun v→(1:Int)≤(v.kids.length:Int)∧(v.kids.length:Int)≤7∧0≤v.n:=fun v hv=>by
  have h:=hv.2.1
  unfold btw at h
  simp only [Bool.and_eq_true,decide_eq_true_eq] at h
  omega
 have h1:=hkl u hfu
 refine ⟨?_,fun t ht=>?_,hp.lo,by show p.kids.length≤6; have:=hp.hi; omega,fun v hv=>?_,by show 0≤p.n; omega,by show p.n≤3; omega⟩
 ·show (u.kids.take (u.kids.length - 1)).length≤6
  rw [List.length_take]; omega
 ·obtain ⟨i,hi⟩:=List.mem_iff_getElem?.1 ht
  have e1:(u.kids.take (u.kids.length - 1))[i]? = some t:=hi
  rw [List.getElem?_take] at e1
  split at e1
  ·exact (hfu.2.2.2.1 i t (by omega) e1).1
  ·cases e1
 ·obtain ⟨i,hi⟩:=List.mem_iff_getElem?.1 (show v ∈ p.kids from hv)
  have hfv:=hfun i v hi
  have h2:=hkl v hfv
  refine ⟨h2.2.2,hp.np v hv,by have:=hfv.2.2.1; omega,by omega,fun j x hj hx=>?_⟩
  have h3:=hfv.2.2.1
  have hpl:=(hfv.2.2.2.1 j x (by omega) hx).2 hj
  exact (plain_of hpl).1
set_option maxRecDepth 100000 in
set_option maxHeartbeats 8000000 in
theorem any_is (p u : T) (k : Nat) (A B : Option Addr) (c cb : Nat) (M : List Int) (kd : Int) (w : World) (hp : Fine p) (hu : p.kids[k]? = some u) (hr : Rep w (Lt w.heap.size) 14 p (nd p A c)) (hM : Rd w (Lt w.heap.size) 1 B M.length (vi M)) (hrM : ∀ x ∈ M, inRange x) (hlM : M.length ≤ 9223372036854775807) (hk : kd = 0 ∨ kd = 1) :
  Calls Tryd.prog 30 #[.agg #[.int .i64 p.k,.int .i64 p.n,.int .i64 p.m,.slice A p.kids.length c],.int .i64 (k:Int),.int .i64 kd,.slice B M.length cb] w fun e w'=>∃ (y:T) (A':Option Addr) (c':Nat),e = .returned (.agg #[.int .i64 y.k,.int .i64 y.n,.int .i64 y.m,.slice A' y.kids.length c'])∧GE (scO p u) y kd∧size y≤7∧Rep w' (fun b=>w.heap.size≤b∧b < w'.heap.size) 3 y (nd y A' c')∧Below w.heap.size w w':=by
 have hsok:=fine_sok hp hu
 have hpk:=prog_kid hp.prog (List.mem_of_getElem? hu)
 have hu1:1≤u.kids.length∧u.kids.length≤1000:=by have h1:=hpk.n0; have h2:=hpk.n1; have h3:=hpk.len; omega
 have hpl9:p.kids.length≤1000:=by have:=hp.hi; omega
 have hnd:Nds w (Lt w.heap.size) 13 p.kids A c:=by
  obtain ⟨xs,h1,h2⟩:=hr.kids
  exact ⟨⟨xs,h1,h2⟩,Rep.cap hr,hpl9⟩
 obtain ⟨vA,vc,hV,hC⟩:=zvars_is p u k 12 A c (Lt w.heap.size) w (In.lt _) hnd hu hu1
 obtain ⟨z,hz⟩:∃ z,z = w.heap.size:=⟨_,rfl⟩
 obtain ⟨z1,hz1⟩:∃ z,z = w.heap.size + 1:=⟨_,rfl⟩
 obtain ⟨g,hg⟩:∃ z,z = w.heap.size + 1 + 1:=⟨_,rfl⟩
 obtain ⟨con,hcon⟩:∃ b,b = decide (0 < p.n):=⟨_,rfl⟩
 obtain ⟨m,hm⟩:∃ m:Par,m = ⟨M,B,cb,p,A,c,k,con,g,Lt w.heap.size,vA,vc⟩:=⟨_,rfl⟩
 obtain ⟨pl,hpl⟩:∃ z,z = p.kids.length:=⟨_,rfl⟩
 obtain ⟨pk,hpk'⟩:∃ z,z = p.k:=⟨_,rfl⟩
 obtain ⟨pn,hpn⟩:∃ z,z = p.n:=⟨_,rfl⟩
 obtain ⟨pm,hpm⟩:∃ z,z = p.m:=⟨_,rfl⟩
 obtain ⟨ml,hml⟩:∃ z,z = M.length:=⟨_,rfl⟩
 obtain ⟨W1,hW1⟩:∃ W,W = (w.alloc (.cells #[.int .i64 pk,.int .i64 pn,.int .i64 pm,.slice A pl c] 25)).alloc (.cells #[.int .i64 0,.int .i64 0,.int .i64 0,.slice none 0 0] 25):=⟨_,rfl⟩
 have hb1:Below w.heap.size w W1:=by rw [hW1]; exact ba (below_new _ _) _
 have k0:Blk W1 z 25 #[.int .i64 pk,.int .i64 pn,.int .i64 pm,.slice A pl c]:=by rw [hW1,hz]; exact (Blk.new _ _ _).alloc _
 have k1:Blk W1 z1 25 #[.int .i64 0,.int .i64 0,.int .i64 0,.slice none 0 0]:=by rw [hW1]; exact Blk.new_at _ _ (by rw [size_alloc,hz1]) rfl
 have hs1:W1.heap.size = g:=by rw [hW1,size_alloc,size_alloc,hg]
 obtain ⟨W3,hW3⟩:∃ W,W = W1.alloc (.cells #[.slice B ml cb,.int .i64 0,.int .i64 8,.int .i64 pk,.int .i64 pn,.int .i64 pm,.slice A pl c,.int .i64 (k:Int),.bool con] 83):=⟨_,rfl⟩
 have hb13:Below W1.heap.size W1 W3:=by rw [hW3]; exact below_new _ _
 have hb3:=bt hb1 hb13
 have kM:Mk m 0 8 W3:=by
  unfold Mk Par.cells
  rw [hm,hW3]
  simp only
  rw [← hml,← hpl,← hpk',← hpn,← hpm,← hs1]
  exact Blk.new _ _ _
 have hcx:Cx m (scO p u) (11 + 1) W3:=by
  rw [hm]
  exact ⟨hM.keep (Keeps.below (In.lt _) hb3),hrM,hlM,fun b hb=>by have:b < w.heap.size:=hb; show b≠g; omega,fun b hb=>Nat.lt_of_lt_of_le hb hb3.size,hnd.keep (Keeps.below (In.lt _) hb3) fun _ hb=>hb,hV.keep (Keeps.below (In.lt _) hb3) fun _ hb=>hb,fun W hW hi=>hC W ((Keeps.below (In.lt _) hb3).trans hW) hi,rfl,rfl,hsok,fun h=>by
   have h2:con = true:=h
   rw [hcon] at h2
   have:=of_decide_eq_true h2
   show (1:Int)≤p.n
   omega⟩
 have hmg:m.g = g:=by rw [hm]
 have HEX:Hid (Calls Tryd.prog 66 #[.pointer (some ⟨g,0,none⟩),.int .i64 kd,.int .i64 2] W3 (EPost 0 m (scO p u) kd 2 0 8 W3)):=Lib.hid (by
  have h:=zexpr_all m (scO p u) 11 2 (by omega) 0 8 kd W3 2 rfl (by omega) kM hcx (by omega) (by omega) (by omega) hk
  rw [hmg] at h
  exact h)
 have HMG:=Lib.hid hmg
 have HB3:=Lib.hid hb3
 have HK1:=Lib.hid (k1.below hb13 k1.lt)
 have HSZ:Hid (z1 < g∧g < W3.heap.size∧w.heap.size≤z1∧w.heap.size≤g):=Lib.hid ⟨by omega,by rw [hW3,size_alloc,hs1]; omega,by omega,by omega⟩
 have HW1:=Lib.hid hW1
 have HW3:=Lib.hid hW3
 have HZ:=Lib.hid (And.intro hz (And.intro hz1 hg))
 have HS1:=Lib.hid hs1
 have hcon2:decide (0 < pn) = con:=by rw [hcon,hpn]
 obtain ⟨y0,y1,y2,y3⟩:W1.cell? ⟨z,0,none⟩ = some (.int .i64 pk)∧W1.cell? ⟨z,1,none⟩ = some (.int .i64 pn)∧W1.cell? ⟨z,2,none⟩ = some (.int .i64 pm)∧W1.cell? ⟨z,3,none⟩ = some (.slice A pl c):=⟨k0.cell 0,k0.cell 1,k0.cell 2,k0.cell 3⟩
 rw [← hml,← hpl,← hpk',← hpn,← hpm]
 clear hsok hpk hu1 hpl9 hnd hV hC hz hz1 hg hcon hm hpl hpk' hpn hpm hml hW1 hb1 k0 k1 hs1 hW3 hb13 hb3 kM hcx hmg hp hu hr hM hrM hlM
 go_enter Tryd.func30,Tryd.ntmps30
 go_upto_region 1 with fail
 rw [← HW1.out,← HZ.out.2.1,← HZ.out.1]
 go_upto_region 2 with fail
 rw [← HW3.out,HS1.out]
 clear y0 y1 y2 y3
 go_wp2_with (go_at_call 66; refine HEX.out.mono ?_; rintro e w5 ⟨y,A5,c5,a5,rfl,hge,hr5,_,hg5,_,_,hcap⟩; rw [HMG.out] at hg5; have HGE:=Lib.hid hge; have HR5:=Lib.hid hr5; have HG5:=Lib.hid hg5; have HCP:=Lib.hid hcap; have hk1:=HK1.out.gw hg5 (by have:=HSZ.out.1; omega); have HK5:=Lib.hid hk1; have r0:=hk1.cell 0; have r1:=hk1.cell 1; have r2:=hk1.cell 2; have r3:=hk1.cell 3; have f0:=hk1.frozen 0; have f1:=hk1.frozen 1; have f2:=hk1.frozen 2; have f3:=hk1.frozen 3; simp only [List.getElem?_toArray,List.getElem?_cons_zero,List.getElem?_cons_succ] at r0 r1 r2 r3; clear hge hr5 hg5 hcap hk1)
 have hbF:Below w.heap.size w w5:=below_gwB HB3.out HG5.out HB3.out.size fun b e=>by
  have h1:=HSZ.out.2.2.2
  have h2:g = b:=by simpa using e
  omega
 refine bodyPost_ret (v:=.agg #[.int .i64 y.k,.int .i64 y.n,.int .i64 y.m,.slice A5 y.kids.length c5]) (by simp [results,Tryd.results30,go_sem,r0,r1,r2,r3]) rfl ⟨y,A5,c5,rfl,HGE.out,HCP.out,?_,?_⟩
 ·refine (put4_rep HR5.out (fun h=>by have h1:=HSZ.out; have h2:=h.1; omega) _ _ _ _).mono fun b hb=>?_
  have h4:=(gw4 w5 z1 (.int .i64 y.k) (.int .i64 y.n) (.int .i64 y.m) (.slice A5 y.kids.length c5)).2
  exact ⟨Nat.le_trans HB3.out.size hb.1,by rw [h4]; exact hb.2⟩
 ·have h1:=HSZ.out.2.2.1
  exact (((hbF.setCell (by show w.heap.size≤z1; exact h1) _).setCell (by show w.heap.size≤z1; exact h1) _).setCell (by show w.heap.size≤z1; exact h1) _).setCell (by show w.heap.size≤z1; exact h1) _
end Go.Proofs.YtkkenbalpnmfmaaDoor

namespace Go.Proofs.YtkkenbalpnmfmaaDoor.TY
open TR
def single (u:T):Bool:=scal u.k && (u.n == 0 && (u.m == 0 && ((u.kids.length:Int) == 0)))
def isArr (u:T):Bool:=(u.k == 2) && (decide (1≤u.n) && (decide (u.n≤4) && (u.m == 0 && ((u.kids.length:Int) == 0))))
def recHead (u:T):Bool:=!(u.k != 3) && (!(u.n != 0) && (!(u.m != 0) && (!((u.kids.length:Int) == 0) && !decide ((3:Int) < (u.kids.length:Int)))))
def isRec (u:T):Bool:=recHead u && u.kids.all single
def words (u:T):Int:=if single u then 1 else if isArr u then u.n else if isRec u then u.kids.length else -1
end Go.Proofs.YtkkenbalpnmfmaaDoor.TY
namespace Go.Proofs.YtkkenbalpnmfmaaDoor
open Go.RowKit WM TR TY

set_option maxHeartbeats 4000000 in
theorem isSingle_is (u:T) (A:Option Addr) (c:Nat) (w:World):Calls Tryd.prog 56 #[.agg #[.int .i64 u.k,.int .i64 u.n,.int .i64 u.m,.slice A u.kids.length c]] w fun e w'=>e = .returned (.bool (single u))∧Below w.heap.size w w':=by
 obtain ⟨nk,hnk⟩:∃ z,z = u.kids.length:=⟨_,rfl⟩
 obtain ⟨k,hk⟩:∃ z,z = u.k:=⟨_,rfl⟩
 obtain ⟨n,hn⟩:∃ z,z = u.n:=⟨_,rfl⟩
 obtain ⟨m,hm⟩:∃ z,z = u.m:=⟨_,rfl⟩
 obtain ⟨b1,h1⟩:∃ b,scal k = b:=⟨_,rfl⟩
 obtain ⟨b2,h2⟩:∃ b,(n == 0) = b:=⟨_,rfl⟩
 obtain ⟨b3,h3⟩:∃ b,(m == 0) = b:=⟨_,rfl⟩
 obtain ⟨b4,h4⟩:∃ b,((nk:Int) == 0) = b:=⟨_,rfl⟩
 obtain ⟨r,hr⟩:∃ r,r = single u:=⟨_,rfl⟩
 have HR:Hid (r = (b1 && (b2 && (b3 && b4)))):=Lib.hid (by rw [hr]; unfold single; rw [← hk,← hn,← hm,← hnk,h1,h2,h3,h4])
 have HSC:Hid (∀ W,Calls Tryd.prog 79 #[.int .i64 k] W fun e w'=>e = .returned (.bool b1)∧W = w'):=Lib.hid fun W=>by
  have h:=isScalar_is k W
  rw [h1] at h
  exact h
 rw [← hk,← hn,← hm,← hnk,← hr]
 clear hk hn hm hnk hr h1
 cases b1 <;> cases b2 <;> cases b3 <;> cases b4
 all_goals
  go_enter Tryd.func56,Tryd.ntmps56
  go_wp2_with (go_at_call 79; refine (HSC.out _).mono ?_; rintro e w2 ⟨rfl,rfl⟩)
  go_ret
  exact ⟨ret_b (by rw [HR.out]; rfl),below_new _ _⟩
set_option maxHeartbeats 4000000 in
theorem isArray_is (u:T) (A:Option Addr) (c:Nat) (w:World):Calls Tryd.prog 57 #[.agg #[.int .i64 u.k,.int .i64 u.n,.int .i64 u.m,.slice A u.kids.length c]] w fun e w'=>e = .returned (.bool (isArr u))∧Below w.heap.size w w':=by
 obtain ⟨nk,hnk⟩:∃ z,z = u.kids.length:=⟨_,rfl⟩
 obtain ⟨k,hk⟩:∃ z,z = u.k:=⟨_,rfl⟩
 obtain ⟨n,hn⟩:∃ z,z = u.n:=⟨_,rfl⟩
 obtain ⟨m,hm⟩:∃ z,z = u.m:=⟨_,rfl⟩
 obtain ⟨b1,h1⟩:∃ b,(k == 2) = b:=⟨_,rfl⟩
 obtain ⟨b5,h5⟩:∃ b,decide (1≤n) = b:=⟨_,rfl⟩
 obtain ⟨b2,h2⟩:∃ b,decide (n≤4) = b:=⟨_,rfl⟩
 obtain ⟨b3,h3⟩:∃ b,(m == 0) = b:=⟨_,rfl⟩
 obtain ⟨b4,h4⟩:∃ b,((nk:Int) == 0) = b:=⟨_,rfl⟩
 obtain ⟨r,hr⟩:∃ r,r = isArr u:=⟨_,rfl⟩
 have HR:Hid (r = (b1 && (b5 && (b2 && (b3 && b4))))):=Lib.hid (by rw [hr]; unfold isArr; rw [← hk,← hn,← hm,← hnk,h1,h2,h3,h4,h5])
 rw [← hk,← hn,← hm,← hnk,← hr]
 clear hk hn hm hnk hr
 cases b1 <;> cases b5 <;> cases b2 <;> cases b3 <;> cases b4
 all_goals
  go_enter Tryd.func57,Tryd.ntmps57
  go_wp2_with fail
  go_ret
  exact ⟨ret_b (by rw [HR.out]; rfl),below_new _ _⟩
end Go.Proofs.YtkkenbalpnmfmaaDoor

namespace Go.Proofs.YtkkenbalpnmfmaaDoor
open Go.RowKit WM TR TY

set_option maxRecDepth 100000 in
set_option maxHeartbeats 8000000 in
theorem isRecord_is (d:Nat) (u:T) (A:Option Addr) (c:Nat) (w:World) (hr:Rep w (Lt w.heap.size) (d + 1) u (nd u A c)):Calls Tryd.prog 58 #[.agg #[.int .i64 u.k,.int .i64 u.n,.int .i64 u.m,.slice A u.kids.length c]] w fun e w'=>e = .returned (.bool (isRec u))∧Below w.heap.size w w':=by
 obtain ⟨nk,hnk⟩:∃ z,z = u.kids.length:=⟨_,rfl⟩
 obtain ⟨k,hk⟩:∃ z,z = u.k:=⟨_,rfl⟩
 obtain ⟨n,hn⟩:∃ z,z = u.n:=⟨_,rfl⟩
 obtain ⟨m,hm⟩:∃ z,z = u.m:=⟨_,rfl⟩
 obtain ⟨z,hz⟩:∃ z,z = w.heap.size:=⟨_,rfl⟩
 obtain ⟨b1,h1⟩:∃ b,(k != 3) = b:=⟨_,rfl⟩
 obtain ⟨b2,h2⟩:∃ b,(n != 0) = b:=⟨_,rfl⟩
 obtain ⟨b3,h3⟩:∃ b,(m != 0) = b:=⟨_,rfl⟩
 obtain ⟨b4,h4⟩:∃ b,((nk:Int) == 0) = b:=⟨_,rfl⟩
 obtain ⟨b5,h5⟩:∃ b,decide ((3:Int) < (nk:Int)) = b:=⟨_,rfl⟩
 obtain ⟨W1,hW1⟩:∃ W,W = w.alloc (.cells #[.int .i64 k,.int .i64 n,.int .i64 m,.slice A nk c] 25):=⟨_,rfl⟩
 have hb1:Below w.heap.size w W1:=by rw [hW1]; exact below_new _ _
 have k1:Blk W1 z 25 #[.int .i64 k,.int .i64 n,.int .i64 m,.slice A nk c]:=by rw [hW1,hz]; exact Blk.new _ _ _
 obtain ⟨y0,y1,y2,y3⟩:W1.cell? ⟨z,0,none⟩ = some (.int .i64 k)∧W1.cell? ⟨z,1,none⟩ = some (.int .i64 n)∧W1.cell? ⟨z,2,none⟩ = some (.int .i64 m)∧W1.cell? ⟨z,3,none⟩ = some (.slice A nk c):=⟨k1.cell 0,k1.cell 1,k1.cell 2,k1.cell 3⟩
 obtain ⟨r,hrr⟩:∃ r,r = isRec u:=⟨_,rfl⟩
 have HR:Hid (r = ((!b1 && (!b2 && (!b3 && (!b4 && !b5)))) && u.kids.all single)):=Lib.hid (by rw [hrr]; unfold isRec recHead; rw [← hk,← hn,← hm,← hnk,h1,h2,h3,h4,h5])
 have hnk3:b5 = false→nk≤3:=fun h=>by rw [h] at h5; have:=of_decide_eq_false h5; omega
 have HN3:=Lib.hid hnk3
 have HW1:=Lib.hid hW1
 have HZ:=Lib.hid hz
 have HB1:=Lib.hid hb1
 have HRU:=Lib.hid (rep_next hr hb1)
 have HNK:=Lib.hid hnk
 rw [← hk,← hn,← hm,← hnk,← hrr]
 clear hk hn hm hnk hrr hW1 hz hb1 k1 hr hnk3
 cases b1
 case true =>
  go_enter Tryd.func58,Tryd.ntmps58
  go_upto_region 1 with fail
  rw [← HW1.out]
  try rw [← HZ.out]
  go_wp2_with fail
  go_ret
  exact ⟨ret_b (by rw [HR.out]; rfl),HB1.out⟩
 cases b2
 case true =>
  go_enter Tryd.func58,Tryd.ntmps58
  go_upto_region 1 with fail
  rw [← HW1.out]
  try rw [← HZ.out]
  go_wp2_with fail
  go_ret
  exact ⟨ret_b (by rw [HR.out]; rfl),HB1.out⟩
 cases b3
 case true =>
  go_enter Tryd.func58,Tryd.ntmps58
  go_upto_region 1 with fail
  rw [← HW1.out]
  try rw [← HZ.out]
  go_wp2_with fail
  go_ret
  exact ⟨ret_b (by rw [HR.out]; rfl),HB1.out⟩
 cases b4
 case true =>
  go_enter Tryd.func58,Tryd.ntmps58
  go_upto_region 1 with fail
  rw [← HW1.out]
  try rw [← HZ.out]
  go_wp2_with fail
  go_ret
  exact ⟨ret_b (by rw [HR.out]; rfl),HB1.out⟩
 cases b5
 case true =>
  go_enter Tryd.func58,Tryd.ntmps58
  go_upto_region 1 with fail
  rw [← HW1.out]
  try rw [← HZ.out]
  go_wp2_with fail
  go_ret
  exact ⟨ret_b (by rw [HR.out]; rfl),HB1.out⟩
 have hnk3:=HN3.out rfl
 have HR2:Hid (r = u.kids.all single):=Lib.hid (by rw [HR.out]; simp)
 go_enter Tryd.func58,Tryd.ntmps58
 go_upto_region 1 with fail
 rw [← HW1.out]
 try rw [← HZ.out]
 go_upto_region 4 with fail
 clear y0 y1 y2 y3 h1 h2 h3 h4 h5
 go_loopw [33] (fun i wr=>∃ j:Nat,j≤nk∧i = .int .i64 j∧Hid (Below W1.heap.size W1 wr∧∀ (i:Nat) (v:T),i < j→u.kids[i]? = some v→single v = true)) (fun i _=>nk - (intOf i).toNat)
 case atStart=>exact ⟨0,Nat.zero_le _,rfl,Below.refl _ _,fun i v h=>absurd h (Nat.not_lt_zero _)⟩
 case round =>
  obtain ⟨j,hj,rfl,HI⟩:=hrel
  by_cases hlt:j < nk
  ·obtain ⟨v,hv⟩:∃ v,u.kids[j]? = some v:=⟨_,List.getElem?_eq_getElem (by rw [← HNK.out]; exact hlt)⟩
   obtain ⟨b,off,A',c',hA,hbl,hc,_⟩:=HRU.out.kid hv
   subst hA
   have hcu:∀ i x,(nd v A' c')[i]? = some x→wr.cell? ⟨b,off + j * 4 + i,none⟩ = some x:=fun i x hx=>(HI.out.1.cell (p:=⟨b,_,none⟩) hbl).trans (hc i x hx)
   obtain ⟨nv,hnv⟩:∃ q,q = v.kids.length:=⟨_,rfl⟩
   obtain ⟨vk,hvk⟩:∃ z,z = v.k:=⟨_,rfl⟩
   obtain ⟨vn,hvn⟩:∃ z,z = v.n:=⟨_,rfl⟩
   obtain ⟨vm,hvm⟩:∃ z,z = v.m:=⟨_,rfl⟩
   obtain ⟨v0,v1,v2,v3⟩:wr.cell? ⟨b,off + j * 4,none⟩ = some (.int .i64 vk)∧wr.cell? ⟨b,off + j * 4 + 1,none⟩ = some (.int .i64 vn)∧wr.cell? ⟨b,off + j * 4 + 2,none⟩ = some (.int .i64 vm)∧wr.cell? ⟨b,off + j * 4 + 3,none⟩ = some (.slice A' nv c'):=⟨by rw [hvk]; exact hcu 0 _ rfl,by rw [hvn]; exact hcu 1 _ rfl,by rw [hvm]; exact hcu 2 _ rfl,by rw [hnv]; exact hcu 3 _ rfl⟩
   have hib:(0:Int)≤(j:Int)∧(j:Int) < (nk:Int):=⟨by omega,by omega⟩
   obtain ⟨sv,hsv⟩:∃ sv,single v = sv:=⟨_,rfl⟩
   have HSI:Hid (∀ W,Calls Tryd.prog 56 #[.agg #[.int .i64 vk,.int .i64 vn,.int .i64 vm,.slice A' nv c']] W fun e w'=>e = .returned (.bool sv)∧Below W.heap.size W w'):=Lib.hid fun W=>by
    have h:=isSingle_is v A' c' W
    rw [hsv,← hnv,← hvk,← hvn,← hvm] at h
    exact h
   have HV:=Lib.hid hv
   have HSV:=Lib.hid hsv
   clear hcu hc hnv hvk hvn hvm hsv hv hbl
   go_upto_region 6 with fail
   obtain ⟨V1,hV1⟩:∃ Z,Z = wr.alloc (.cells #[.int .i64 vk,.int .i64 vn,.int .i64 vm,.slice A' nv c'] 25):=⟨_,rfl⟩
   obtain ⟨g4,hg4⟩:∃ z,z = wr.heap.size:=⟨_,rfl⟩
   have k4:Blk V1 g4 25 #[.int .i64 vk,.int .i64 vn,.int .i64 vm,.slice A' nv c']:=by rw [hV1,hg4]; exact Blk.new _ _ _
   have hb4:Below wr.heap.size wr V1:=by rw [hV1]; exact below_new _ _
   rw [← hV1,← hg4]
   have HBV:Hid (Below W1.heap.size W1 V1):=Lib.hid (bt HI.out.1 hb4)
   obtain ⟨x0,x1,x2,x3⟩:V1.cell? ⟨g4,0,none⟩ = some (.int .i64 vk)∧V1.cell? ⟨g4,1,none⟩ = some (.int .i64 vn)∧V1.cell? ⟨g4,2,none⟩ = some (.int .i64 vm)∧V1.cell? ⟨g4,3,none⟩ = some (.slice A' nv c'):=⟨k4.cell 0,k4.cell 1,k4.cell 2,k4.cell 3⟩
   clear hV1 hg4 k4 hb4 v0 v1 v2 v3 hib
   cases sv with
   | true =>
    go_wp2_with (go_at_call 56; refine (HSI.out _).mono ?_; rintro e w5 ⟨rfl,hb5⟩; have HB5:=Lib.hid (bt HBV.out hb5); clear hb5)
    go_roundw
    case rel=>exact ⟨j + 1,by omega,by go_num,HB5.out,fun i x hi hx=>by
     by_cases hij:i < j
     ·exact HI.out.2 i x hij hx
     ·have:i = j:=by omega
      subst this
      rw [HV.out] at hx
      cases hx
      exact HSV.out⟩
    case measure=>simp [intOf]; omega
   | false =>
    have HR3:Hid (r = false):=Lib.hid (by
     rw [HR2.out,List.all_eq_false]
     exact ⟨v,List.mem_of_getElem? HV.out,by rw [HSV.out]; simp⟩)
    go_wp2_with (go_at_call 56; refine (HSI.out _).mono ?_; rintro e w5 ⟨rfl,hb5⟩; have HB5:=Lib.hid (bt HBV.out hb5); clear hb5)
    go_ret
    exact ⟨ret_b (by rw [HR3.out]),bt HB1.out HB5.out⟩
  ·have hjn:j = nk:=by omega
   have HR3:Hid (r = true):=Lib.hid (by
    rw [HR2.out,List.all_eq_true]
    intro x hx
    obtain ⟨i,hi⟩:=List.mem_iff_getElem?.1 hx
    exact HI.out.2 i x (by have:=(List.getElem?_eq_some_iff.1 hi).1; have:=HNK.out; omega) hi)
   clear hjn
   go_wp2_with fail
   go_ret
   exact ⟨ret_b (by rw [HR3.out]),bt HB1.out HI.out.1⟩

set_option maxRecDepth 100000 in
set_option maxHeartbeats 8000000 in
theorem words_is (d:Nat) (u:T) (A:Option Addr) (c:Nat) (w:World) (hr:Rep w (Lt w.heap.size) (d + 1) u (nd u A c)):Calls Tryd.prog 23 #[.agg #[.int .i64 u.k,.int .i64 u.n,.int .i64 u.m,.slice A u.kids.length c]] w fun e w'=>e = .returned (.int .i64 (words u))∧Below w.heap.size w w':=by
 obtain ⟨nk,hnk⟩:∃ z,z = u.kids.length:=⟨_,rfl⟩
 obtain ⟨k,hk⟩:∃ z,z = u.k:=⟨_,rfl⟩
 obtain ⟨n,hn⟩:∃ z,z = u.n:=⟨_,rfl⟩
 obtain ⟨m,hm⟩:∃ z,z = u.m:=⟨_,rfl⟩
 obtain ⟨z,hz⟩:∃ z,z = w.heap.size:=⟨_,rfl⟩
 obtain ⟨W1,hW1⟩:∃ W,W = w.alloc (.cells #[.int .i64 k,.int .i64 n,.int .i64 m,.slice A nk c] 25):=⟨_,rfl⟩
 have hb1:Below w.heap.size w W1:=by rw [hW1]; exact below_new _ _
 have k1:Blk W1 z 25 #[.int .i64 k,.int .i64 n,.int .i64 m,.slice A nk c]:=by rw [hW1,hz]; exact Blk.new _ _ _
 have HK:Hid (∀ W,Below W1.heap.size W1 W→W.cell? ⟨z,0,none⟩ = some (.int .i64 k)∧W.cell? ⟨z,1,none⟩ = some (.int .i64 n)∧W.cell? ⟨z,2,none⟩ = some (.int .i64 m)∧W.cell? ⟨z,3,none⟩ = some (.slice A nk c)):=Lib.hid fun W hb=>by
  have e:=k1.below hb k1.lt
  exact ⟨e.cell 0,e.cell 1,e.cell 2,e.cell 3⟩
 obtain ⟨y0,y1,y2,y3⟩:=HK.out W1 (Below.refl _ _)
 obtain ⟨s,hs⟩:∃ s,single u = s:=⟨_,rfl⟩
 obtain ⟨a,ha⟩:∃ a,isArr u = a:=⟨_,rfl⟩
 obtain ⟨q,hq⟩:∃ q,isRec u = q:=⟨_,rfl⟩
 obtain ⟨r,hrr⟩:∃ r,r = words u:=⟨_,rfl⟩
 have HR:Hid (r = if s = true then 1 else if a = true then n else if q = true then (nk:Int) else -1):=Lib.hid (by rw [hrr]; unfold words; rw [hs,ha,hq,← hn,← hnk])
 have HRU:=rep_next hr hb1
 have HS:Hid (∀ W,Below W1.heap.size W1 W→Calls Tryd.prog 56 #[.agg #[.int .i64 k,.int .i64 n,.int .i64 m,.slice A nk c]] W fun e w'=>e = .returned (.bool s)∧Below W.heap.size W w'):=Lib.hid fun W _=>by
  have h:=isSingle_is u A c W
  rw [hs,← hnk,← hk,← hn,← hm] at h
  exact h
 have HA:Hid (∀ W,Below W1.heap.size W1 W→Calls Tryd.prog 57 #[.agg #[.int .i64 k,.int .i64 n,.int .i64 m,.slice A nk c]] W fun e w'=>e = .returned (.bool a)∧Below W.heap.size W w'):=Lib.hid fun W _=>by
  have h:=isArray_is u A c W
  rw [ha,← hnk,← hk,← hn,← hm] at h
  exact h
 have HQ:Hid (∀ W,Below W1.heap.size W1 W→Calls Tryd.prog 58 #[.agg #[.int .i64 k,.int .i64 n,.int .i64 m,.slice A nk c]] W fun e w'=>e = .returned (.bool q)∧Below W.heap.size W w'):=Lib.hid fun W hb=>by
  have h:=isRecord_is d u A c W (rep_next HRU hb)
  rw [hq,← hnk,← hk,← hn,← hm] at h
  exact h
 have HW1:=Lib.hid hW1
 have HZ:=Lib.hid hz
 have HB1:=Lib.hid hb1
 rw [← hk,← hn,← hm,← hnk,← hrr]
 clear hk hn hm hnk hrr hW1 hz hb1 k1 hr hs ha hq HRU
 cases s <;> cases a <;> cases q
 all_goals
  go_enter Tryd.func23,Tryd.ntmps23
  go_upto_region 1 with fail
  rw [← HW1.out]
  try rw [← HZ.out]
  go_wp2_with (first
   | (go_at_call 56; refine (HS.out _ (Below.refl _ _)).mono ?_; rintro e w2 ⟨rfl,hb2⟩; have HB:=Lib.hid hb2; clear hb2 y0 y1 y2 y3; obtain ⟨y0,y1,y2,y3⟩:=HK.out _ HB.out)
   | (go_at_call 57; refine (HA.out _ HB.out).mono ?_; rintro e w3 ⟨rfl,hb3⟩; replace HB:=Lib.hid (bt HB.out hb3); clear hb3 y0 y1 y2 y3; obtain ⟨y0,y1,y2,y3⟩:=HK.out _ HB.out)
   | (go_at_call 58; refine (HQ.out _ HB.out).mono ?_; rintro e w4 ⟨rfl,hb4⟩; replace HB:=Lib.hid (bt HB.out hb4); clear hb4 y0 y1 y2 y3; obtain ⟨y0,y1,y2,y3⟩:=HK.out _ HB.out))
  go_ret
  exact ⟨ret_i (by rw [HR.out]; rfl),bt HB1.out HB.out⟩
end Go.Proofs.YtkkenbalpnmfmaaDoor
