/- Texts joined. -/
import Derived.Test.YtkkenbalpnmfmaaDoorJ02
set_option linter.unusedVariables false
namespace Go.Proofs.YtkkenbalpnmfmaaDoor.TR

def arnd (x n:Int):Int:=(if x < 0 then -(x + 1) else x) % n
def numAt (L:List Int) (at_:Nat) (n:Int):Int:=match L[at_]? with
 | none=>0
 | some x=>arnd x n
theorem arnd_le {x n:Int} (hn:0 < n):0≤arnd x n∧arnd x n < n:=by
 unfold arnd
 exact ⟨Int.emod_nonneg _ (by omega),Int.emod_lt_of_pos _ hn⟩
theorem numAt_le {L:List Int} {a:Nat} {n:Int} (hn:0 < n):0≤numAt L a n∧numAt L a n < n:=by
 unfold numAt
 split
 ·exact ⟨by omega,hn⟩
 ·exact arnd_le hn

def kidsLoop (f:Nat→Int→T × Nat × Int):Nat→List T→Nat→Int→List T × Nat × Int
 | 0,ts,a,l=>(ts,a,l)
 | c + 1,ts,a,l=>if 0 < l then kidsLoop f c (ts ++ [(f a l).1]) (f a l).2.1 (f a l).2.2 else (ts,a,l)
theorem kidsLoop_next {f:Nat→Int→T × Nat × Int} {c:Nat} {ts:List T} {a:Nat} {l:Int} (hl:0 < l):kidsLoop f (c + 1) ts a l = kidsLoop f c (ts ++ [(f a l).1]) (f a l).2.1 (f a l).2.2:=by
 rw [kidsLoop,if_pos hl]
theorem kidsLoop_stop {f:Nat→Int→T × Nat × Int} {c:Nat} {ts:List T} {a:Nat} {l:Int} (hl:¬ 0 < l):kidsLoop f c ts a l = (ts,a,l):=by
 cases c with
 | zero=>rfl
 | succ c=>rw [kidsLoop,if_neg hl]
def mkT (L:List Int):Nat→Nat→Int→T × Nat × Int
 | 0,a,l=>(⟨numAt L a 32 - 1,numAt L (a + 1) 19 - 9,numAt L (a + 2) 5 - 1,[]⟩,a + 4,l - 1)
 | d + 1,a,l =>
  let s:=kidsLoop (mkT L d) (if d = 0 then 0 else (numAt L (a + 3) 4).toNat) [] (a + 4) (l - 1)
  (⟨numAt L a 32 - 1,numAt L (a + 1) 19 - 9,numAt L (a + 2) 5 - 1,s.1⟩,s.2.1,s.2.2)
structure Made (f:Nat→Int→T × Nat × Int) (b:Nat):Prop where
 size:∀ a l,size (f a l).1≤b
 at_:∀ a l,(f a l).2.1 = a + 4 * TR.size (f a l).1
 left:∀ a l,(f a l).2.2 = l - TR.size (f a l).1
theorem kidsLoop_facts {f : Nat → Int → T × Nat × Int} {b : Nat} (hf : Made f b) : ∀ (c : Nat) (ts : List T) (a : Nat) (l : Int), ∃ us, (kidsLoop f c ts a l).1 = ts ++ us ∧ us.length ≤ c ∧ (us.map size).sum ≤ c * b ∧
  (kidsLoop f c ts a l).2.1 = a + 4 * (us.map size).sum∧(kidsLoop f c ts a l).2.2 = l - ((us.map size).sum:Nat)∧∀ u ∈ us,∃ a l,u = (f a l).1:=by
 intro c
 induction c with
 | zero=>intro ts a l; exact ⟨[],by simp [kidsLoop],by simp,by simp,by simp [kidsLoop],by simp [kidsLoop],by simp⟩
 | succ c ih =>
  intro ts a l
  by_cases hl:0 < l
  ·rw [kidsLoop_next hl]
   obtain ⟨us,h1,h2,h3,h4,h5,h6⟩:=ih (ts ++ [(f a l).1]) (f a l).2.1 (f a l).2.2
   have hs:=hf.size a l
   have ha:=hf.at_ a l
   have hle:=hf.left a l
   refine ⟨(f a l).1 :: us,by rw [h1,List.append_assoc]; rfl,by simp; omega,?_,?_,?_,?_⟩
   ·simp only [List.map_cons,List.sum_cons]
    rw [Nat.add_mul]; omega
   ·rw [h4,ha]; simp only [List.map_cons,List.sum_cons]; omega
   ·rw [h5,hle]; simp only [List.map_cons,List.sum_cons]; omega
   ·intro u hu
    rcases List.mem_cons.1 hu with rfl | hu
    ·exact ⟨a,l,rfl⟩
    ·exact h6 u hu
  ·rw [kidsLoop_stop hl]
   exact ⟨[],by simp,by simp,by simp,by simp,by simp,by simp⟩
theorem mkT_made (L:List Int):∀ d,Made (mkT L d) (4 ^ d)
 | 0=>⟨fun a l=>by simp [mkT,size_eq],fun a l=>by simp [mkT,size_eq],fun a l=>by simp [mkT,size_eq]⟩
 | d + 1=>by
  have h:=kidsLoop_facts (mkT_made L d)
  have hc:∀ a,(if d = 0 then 0 else (numAt L (a + 3) 4).toNat)≤3:=by
   intro a
   have:=@numAt_le L (a + 3) 4 (by omega)
   split <;> omega
  have key:∀ a l,∃ us:List T,mkT L (d + 1) a l = (⟨numAt L a 32 - 1,numAt L (a + 1) 19 - 9,numAt L (a + 2) 5 - 1,us⟩,a + 4 + 4 * (us.map size).sum,l - 1 - ((us.map size).sum:Nat))∧(us.map size).sum≤3 * 4 ^ d:=by
   intro a l
   obtain ⟨us,h1,h2,h3,h4,h5,_⟩:=h (if d = 0 then 0 else (numAt L (a + 3) 4).toNat) [] (a + 4) (l - 1)
   refine ⟨us,?_,Nat.le_trans h3 (Nat.mul_le_mul_right _ (hc a))⟩
   simp only [mkT]
   rw [h1,h4,h5]; rfl
  have hp:4 ^ (d + 1) = 4 * 4 ^ d:=by rw [Nat.pow_succ]; omega
  have hq:0 < 4 ^ d:=Nat.pow_pos (by decide)
  refine ⟨fun a l=>?_,fun a l=>?_,fun a l=>?_⟩
  ·obtain ⟨us,e,hs⟩:=key a l
   rw [e,size_eq]; simp only; omega
  ·obtain ⟨us,e,hs⟩:=key a l
   rw [e,size_eq]; simp only; omega
  ·obtain ⟨us,e,hs⟩:=key a l
   rw [e,size_eq]; simp only; omega


end Go.Proofs.YtkkenbalpnmfmaaDoor.TR
