/- Texts joined. -/
set_option linter.unusedVariables false
namespace Go.Proofs.YtkkenbalpnmfmaaDoor.TR

structure T where
 mk ::
 k:Int
 n:Int
 m:Int
 kids:List T

theorem kid_lt {t u:T} (h:u ∈ t.kids):sizeOf u < sizeOf t:=by
 cases t
 have:=List.sizeOf_lt_of_mem h
 simp only [T.mk.sizeOf_spec]
 simp only at this
 omega

def size (t:T):Nat:=1 + (t.kids.attach.map fun u=>size u.1).sum
 termination_by t
 decreasing_by exact kid_lt u.2
def depth (t:T):Nat:=(t.kids.attach.map fun u=>depth u.1).foldr max 0 + 1
 termination_by t
 decreasing_by exact kid_lt u.2
theorem size_eq (t:T):size t = 1 + (t.kids.map size).sum:=by
 rw [size,List.attach_map_val (f:=size)]
theorem depth_eq (t:T):depth t = (t.kids.map depth).foldr max 0 + 1:=by
 rw [depth,List.attach_map_val (f:=depth)]
theorem size_pos (t:T):0 < size t:=by rw [size_eq]; omega
def sizes (l:List T) (j:Nat):Nat:=((l.take j).map size).sum

theorem sizes_next {l:List T} {j:Nat} {u:T} (h:l[j]? = some u):sizes l (j + 1) = sizes l j + size u:=by
 unfold sizes
 rw [List.take_add_one,h]; simp
theorem sizes_all (l:List T):sizes l l.length = (l.map size).sum:=by unfold sizes; rw [List.take_length]
theorem sizes_le (l:List T) (j:Nat):sizes l j≤(l.map size).sum:=by
 unfold sizes
 have h:(l.map size).sum = ((l.take j).map size).sum + ((l.drop j).map size).sum:=by
  rw [← List.sum_append,← List.map_append,List.take_append_drop]
 omega
theorem size_kids (t:T):size t = 1 + sizes t.kids t.kids.length:=by rw [size_eq,sizes_all]
theorem size_kid {t u:T} {j:Nat} (h:t.kids[j]? = some u):size u < size t:=by
 have h1:=sizes_next h
 have h2:=sizes_le t.kids (j + 1)
 rw [size_eq t]; omega
theorem sum_ge:∀ l:List T,l.length≤(l.map size).sum
 | []=>by simp
 | x :: l=>by
  have:=sum_ge l
  have:=size_pos x
  simp only [List.length_cons,List.map_cons,List.sum_cons]; omega
theorem kids_lt (t:T):t.kids.length < size t:=by
 have:=sum_ge t.kids
 rw [size_eq]; omega
def depths (l:List T) (j:Nat):Nat:=((l.take j).map depth).foldr max 0
theorem foldr_max (l:List Nat) (a:Nat):l.foldr max a = max (l.foldr max 0) a:=by
 induction l with
 | nil=>simp
 | cons x l ih=>simp only [List.foldr_cons,ih]; omega
theorem depths_next {l:List T} {j:Nat} {u:T} (h:l[j]? = some u):depths l (j + 1) = max (depths l j) (depth u):=by
 unfold depths
 rw [List.take_add_one,h]
 simp only [Option.toList_some,List.map_append,List.map_cons,List.map_nil,List.foldr_append,List.foldr_cons,List.foldr_nil]
 rw [foldr_max]; omega
theorem depths_all (l:List T):depths l l.length = (l.map depth).foldr max 0:=by unfold depths; rw [List.take_length]
theorem depth_kids (t:T):depth t = depths t.kids t.kids.length + 1:=by rw [depth_eq,depths_all]
theorem foldr_max_mem {l:List Nat} {x:Nat} (h:x ∈ l):x≤l.foldr max 0:=by
 induction l with
 | nil=>cases h
 | cons y l ih =>
  simp only [List.foldr_cons]
  rcases List.mem_cons.1 h with rfl | h
  ·omega
  ·have:=ih h; omega
theorem depth_kid {t u:T} {j:Nat} (h:t.kids[j]? = some u):depth u < depth t:=by
 rw [depth_eq t]
 have:depth u ∈ t.kids.map depth:=List.mem_map.2 ⟨u,List.mem_of_getElem? h,rfl⟩
 have:=foldr_max_mem this
 omega

theorem depth_le_size (t:T):depth t≤size t:=by
 induction h:sizeOf t using Nat.strongRecOn generalizing t with
 | ind n ih =>
  subst h
  rw [depth_eq,size_eq]
  have:∀ l:List T,(∀ u ∈ l,depth u≤size u)→(l.map depth).foldr max 0≤(l.map size).sum:=by
   intro l
   induction l with
   | nil=>intro _; simp
   | cons x l ihl =>
    intro hl
    have h1:=hl x (List.mem_cons_self ..)
    have h2:=ihl fun u hu=>hl u (List.mem_cons_of_mem _ hu)
    simp only [List.map_cons,List.foldr_cons,List.sum_cons]
    omega
  have:=this t.kids fun u hu=>ih _ (kid_lt hu) u rfl
  omega






















def at?:List Int→T→Option T
 | [],t=>some t
 | i :: p,t=>if i < 0 then none else match t.kids[i.toNat]? with
  | none=>none
  | some u=>at? p u

def set?:List Int→T→T→Option T
 | [],_,x=>some x
 | i :: p,t,x=>if i < 0 then none else match t.kids[i.toNat]? with
  | none=>none
  | some u=>match set? p u x with
   | none=>none
   | some v=>some ⟨t.k,t.n,t.m,t.kids.set i.toNat v⟩
def paths (t:T):List (List Int):=[] :: (t.kids.attach.mapIdx fun i u=>(paths u.1).map fun p=>(i:Int) :: p).flatten
 termination_by t
 decreasing_by exact kid_lt u.2
end Go.Proofs.YtkkenbalpnmfmaaDoor.TR
