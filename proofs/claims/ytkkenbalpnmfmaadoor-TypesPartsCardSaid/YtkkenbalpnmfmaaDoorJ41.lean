/- Texts joined. -/
import Derived.Test.YtkkenbalpnmfmaaDoorJ39
import Derived.Test.YtkkenbalpnmfmaaDoorJ40
set_option linter.unusedVariables false
namespace Go.Proofs.YtkkenbalpnmfmaaDoor.TY
open TR
instance (t:T):Decidable (FitsN t):=by unfold FitsN; infer_instance
def fitC:Nat→T→Bool
 | 0,_=>false
 | f + 1,t=>decide (FitsN t) && (t.kids.zipIdx.all fun r=>meets (sf r.1.k 0) (wantS t r.2)) && t.kids.all (fitC f)
theorem fitC_of:∀ (f:Nat) (t:T),fitC f t = true→Fit t
 | 0,_,h=>by simp [fitC] at h
 | f + 1,t,h=>by
  rw [fitC,Bool.and_eq_true,Bool.and_eq_true] at h
  obtain ⟨⟨h1,h2⟩,h3⟩:=h
  refine Fit.mk t ⟨of_decide_eq_true h1,fun i u hu=>?_⟩ fun u hu=>fitC_of f u (List.all_eq_true.1 h3 u hu)
  exact List.all_eq_true.1 h2 (u,i) (by rw [List.mem_zipIdx_iff_getElem?]; exact hu)
def goL (g:T→Option (List Int × Int)):List T→Nat→Option (List Int × Int)
 | [],_=>some ([],0)
 | u :: l,i=>match g u with
  | none=>none
  | some r=>if r.2≠0 then some ((i:Int) :: r.1,r.2) else goL g l (i + 1)
def firstF:Nat→Sc→T→Option (List Int × Int)
 | 0,_,_=>none
 | f + 1,s,x=>if errOf s x≠0 then some ([],errOf s x) else goL (firstF f s) x.kids 0
theorem goL_eq (g:T→Option (List Int × Int)) (s:Sc) (hg:∀ u r,g u = some r→firstW s u = r):∀ (l:List T) (i:Nat) (r:List Int × Int),goL g l i = some r→firstL s l i = r
 | [],i,r,h=>by rw [goL] at h; rw [firstL]; exact Option.some.inj h
 | u :: l,i,r,h=>by
  rw [goL] at h
  rw [firstL]
  cases hu:g u with
  | none=>rw [hu] at h; cases h
  | some q =>
   rw [hu] at h
   rw [hg u q hu]
   simp only at h
   by_cases hq:q.2≠0
   ·rw [if_pos hq] at h ⊢; exact Option.some.inj h
   ·rw [if_neg hq] at h ⊢; exact goL_eq g s hg l (i + 1) r h
theorem firstF_eq (s:Sc):∀ (f:Nat) (x:T) (r:List Int × Int),firstF f s x = some r→firstW s x = r
 | 0,_,_,h=>by cases h
 | f + 1,x,r,h=>by
  rw [firstF] at h
  rw [firstW_eq]
  by_cases he:errOf s x≠0
  ·rw [if_pos he] at h ⊢; exact Option.some.inj h
  ·rw [if_neg he] at h ⊢; exact goL_eq _ s (fun u q hq=>firstF_eq s f u q hq) _ _ _ h
def vT:T:=⟨6,0,0,[]⟩
def elT:T:=⟨7,1,0,[vT]⟩
end Go.Proofs.YtkkenbalpnmfmaaDoor.TY
namespace Go.Proofs.YtkkenbalpnmfmaaDoor
open Go.RowKit WM TR TY
theorem prog_of {t:T} (h0:t.k = 27) (h1:size t≤256) (h2:depth t≤16) (h3:fitC 9 t = true):isProg t = true:=by
 refine isProg_true ((prog_iff t).2 ⟨(sort64 _).2 h0,h1,h2,fitC_of 9 t h3⟩)
theorem chk_of {p u:T} (hk:p.kids = [u]) (hp:isProg p = true) (r:List Int × Int) (h:firstF 9 (scO p u) u = some r):chk p = if r.2≠0 then (0 :: r.1,r.2) else ([],0):=by
 unfold chk
 rw [if_pos hp,hk,chkL,firstF_eq _ _ _ _ h]
 split
 ·rfl
 ·rw [chkL]
theorem ex_prog {x:T} (h1:size x≤100) (h2:depth x≤10) (h3:fitC 9 (exT x) = true):isProg (exT x) = true:=by
 refine prog_of rfl ?_ ?_ h3
 ·simp [size_eq,exT,exF,exB]; rw [← size_eq]; omega
 ·have hl:∀ k n:Int,depth ⟨k,n,0,[]⟩ = 1:=fun k n=>by rw [depth_eq]; rfl
  have hb:depth (exB x) = max (depth x) 0 + 1:=by rw [depth_eq]; rfl
  have hf:depth (exF x) = max 1 (max 1 (max (depth (exB x)) 0)) + 1:=by rw [depth_eq]; show (max (depth ⟨0,0,0,[]⟩) (max (depth ⟨2,2,0,[]⟩) (max (depth (exB x)) 0))) + 1 = _; rw [hl,hl]
  have ht:depth (exT x) = max (depth (exF x)) 0 + 1:=by rw [depth_eq]; rfl
  omega
theorem chk_ex {x:T} (h1:size x≤100) (h2:depth x≤10) (h3:fitC 9 (exT x) = true) (r:List Int × Int) (h:firstF 9 (scO (exT x) (exF x)) (exF x) = some r):chk (exT x) = if r.2≠0 then (0 :: r.1,r.2) else ([],0) :=
 chk_of rfl (ex_prog h1 h2 h3) r h
theorem chk0:chk (exT ⟨14,0,0,[elT]⟩) = ([],0):=chk_ex (by simp [size_eq,elT,vT]) (by simp [depth_eq,elT,vT]) (by decide +kernel) ([],0) (by decide +kernel)
theorem chk1:chk (exT ⟨14,1,0,[⟨4,3,0,[]⟩]⟩) = ([0,2,0],12):=chk_ex (by simp [size_eq]) (by simp [depth_eq]) (by decide +kernel) ([2,0],12) (by decide +kernel)
theorem chk2:chk (exT ⟨14,0,0,[⟨6,2,0,[]⟩]⟩) = ([0,2,0,0],5):=chk_ex (by simp [size_eq]) (by simp [depth_eq]) (by decide +kernel) ([2,0,0],5) (by decide +kernel)
theorem chk3:chk (exT ⟨14,0,0,[⟨5,1,0,[]⟩]⟩) = ([0,2,0],12):=chk_ex (by simp [size_eq]) (by simp [depth_eq]) (by decide +kernel) ([2,0],12) (by decide +kernel)
theorem chk4:chk (exT ⟨24,0,0,[⟨12,0,0,[]⟩]⟩) = ([0,2,0,0],5):=chk_ex (by simp [size_eq]) (by simp [depth_eq]) (by decide +kernel) ([2,0,0],5) (by decide +kernel)
theorem wrap_prog:isProg (wrapN 4 elT) = true:=prog_of rfl (by simp [size_eq,wrapN,elT,vT]) (by simp [depth_eq,wrapN,elT,vT]) (by decide +kernel)
theorem fine_prog:isProg (exT ⟨14,0,0,[elT]⟩) = true:=ex_prog (by simp [size_eq,elT,vT]) (by simp [depth_eq,elT,vT]) (by decide +kernel)
theorem of0:ofK (exT ⟨14,0,0,[elT]⟩) 0 elT = (0,0):=by
 unfold ofK
 rw [fine_prog,wrap_prog,if_neg (by simp),if_neg (by simp),if_neg (by decide)]
 rw [firstF_eq _ 9 elT ([],0) (by decide +kernel),if_neg (by simp)]
 have h:typeOf (scO (exT ⟨14,0,0,[elT]⟩) (tAt (exT ⟨14,0,0,[elT]⟩).kids 0)) elT = 0:=by decide +kernel
 rw [h]
theorem of1:ofK (exT ⟨14,0,0,[elT]⟩) 1 elT = (0,5):=by
 unfold ofK
 rw [fine_prog,wrap_prog,if_neg (by simp),if_neg (by simp),if_pos (by decide)]
theorem words0:words ⟨2,3,0,[]⟩ = 3:=by decide +kernel
theorem words1:words vT = -1:=by decide +kernel
end Go.Proofs.YtkkenbalpnmfmaaDoor
