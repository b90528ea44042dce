/- Texts joined. -/
import Derived.Test.YtkkenbalpnmfmaaDoorRows
import Derived.Test.YtkkenbalpnmfmaaDoorJ01
import Derived.Test.YtkkenbalpnmfmaaDoorJ02
set_option linter.unusedVariables false
namespace Go.Proofs.YtkkenbalpnmfmaaDoor
open Go.RowKit WM TR

def Rd (w:World) (S:Nat→Prop) (size:Nat) (A:Option Addr) (n:Nat) (xs:List Value):Prop :=
 xs.length = n * size∧(0 < n→∃ ad,A = some ad∧S ad.block∧∀ j u,xs[j]? = some u→w.cell? (ad.add j) = some u)
def Keeps (S:Nat→Prop) (w w':World):Prop:=∀ b,S b→w'.heap[b]? = w.heap[b]?

def Lt (B b:Nat):Prop:=b < B
def In (S:Nat→Prop) (B:Nat):Prop:=∀ b,S b→b < B

theorem In.lt (B:Nat):In (Lt B) B:=fun _ h=>h
theorem In.more {S:Nat→Prop} {B B':Nat} (h:In S B) (hB:B≤B'):In S B':=fun b hb=>Nat.lt_of_lt_of_le (h b hb) hB

theorem Keeps.below {S:Nat→Prop} {B:Nat} {w w':World} (hS:In S B) (h:Below B w w'):Keeps S w w':=fun b hb=>h.block b (hS b hb)
theorem Keeps.refl (S:Nat→Prop) (w:World):Keeps S w w:=fun _ _=>rfl
theorem Keeps.trans {S:Nat→Prop} {a b c:World} (h:Keeps S a b) (k:Keeps S b c):Keeps S a c:=fun i hi=>(k i hi).trans (h i hi)
theorem Keeps.setCell {S:Nat→Prop} {a w:World} (h:Keeps S a w) {p:Addr} (hp:¬ S p.block) (u:Value):Keeps S a (w.setCell p u) :=
 fun i hi=>(Below.heap_setCell w p u i (fun e=>hp (by rw [← e]; exact hi))).trans (h i hi)
theorem Keeps.setRow {S:Nat→Prop} {a w:World} (h:Keeps S a w) {g:Nat} (hp:¬ S g) (cs:Array Value):Keeps S a (w.setRow g cs) :=
 fun i hi=>(setRow_other w g cs i (fun e=>hp (by rw [e]; exact hi))).trans (h i hi)
theorem Keeps.grown {S:Nat→Prop} {a w w':World} (h:Keeps S a w) (hS:In S w.heap.size) {row:Option Nat} (hg:w.grownBy w' row) (hr:∀ g,row = some g→¬ S g):Keeps S a w' :=
 fun i hi=>(hg.block i (hS i hi) (fun e=>hr i e.symm hi)).trans (h i hi)
theorem Keeps.cell {S:Nat→Prop} {w w':World} (h:Keeps S w w') {p:Addr} (hp:S p.block):w'.cell? p = w.cell? p:=World.cell?_of_block (h _ hp)

section
variable {w w':World} {S S':Nat→Prop} {size n:Nat} {A:Option Addr} {xs:List Value}
theorem Rd.none_:Rd w S size A 0 []:=⟨by simp,fun h=>absurd h (by omega)⟩
theorem Rd.keep (h:Rd w S size A n xs) (hk:Keeps S w w'):Rd w' S size A n xs :=
 ⟨h.1,fun hn=>by
  obtain ⟨ad,e,hb,hc⟩:=h.2 hn
  exact ⟨ad,e,hb,fun j u hu=>(hk.cell (by rw [block_of_add]; exact hb)).trans (hc j u hu)⟩⟩
theorem Rd.mono (h:Rd w S size A n xs) (hS:∀ b,S b→S' b):Rd w S' size A n xs :=
 ⟨h.1,fun hn=>by
  obtain ⟨ad,e,hb,hc⟩:=h.2 hn
  exact ⟨ad,e,hS _ hb,hc⟩⟩
theorem Rd.of_reads {B:Nat} (h:Reads w B size A n xs):Rd w (Lt B) size A n xs:=h
theorem Rd.reads {B:Nat} (h:Rd w S size A n xs) (hS:In S B):Reads w B size A n xs :=
 ⟨h.1,fun hn=>by
  obtain ⟨ad,e,hb,hc⟩:=h.2 hn
  exact ⟨ad,e,hS _ hb,hc⟩⟩
theorem Rd.lit (h : Rd w S size A n xs) (hn : 0 < n * size) :
  ∃ b off,A = some ⟨b,off,none⟩∧S b∧∀ j u,xs[j]? = some u→w.cell? ⟨b,off + j,none⟩ = some u:=by
 have hp:0 < n:=Nat.pos_of_mul_pos_right hn
 obtain ⟨ad,rfl,hb,hc⟩:=h.2 hp
 obtain ⟨b,off,spot⟩:=ad
 have hl:0 < xs.length:=by have:=h.1; omega
 have h0:=hc 0 xs[0] (List.getElem?_eq_getElem hl)
 have hs:spot = none:=by simpa [Addr.add] using World.cell?_spot h0
 subst hs
 exact ⟨b,off,rfl,hb,fun j u hu=>by have:=hc j u hu; rwa [Addr.add_lit] at this⟩
theorem Rd.of_own {base:Nat} {e:TypeId} {c:Nat} (h:w.ownsRow base e size (.slice A n c) n xs):Rd w (fun b=>base≤b∧b < w.heap.size) size A n xs:=by
 refine ⟨h.1,fun hn=>?_⟩
 obtain ⟨g,cap,hv,hb,hlt⟩:=h.form hn
 have hA:A = some ⟨g,0,none⟩:=by injection hv
 subst hA
 exact ⟨_,rfl,⟨hb,hlt⟩,h.cells (g:=g) rfl⟩
end

def nd (t:T) (A:Option Addr) (c:Nat):List Value:=[.int .i64 t.k,.int .i64 t.n,.int .i64 t.m,.slice A t.kids.length c]
def Rep (w:World) (S:Nat→Prop):Nat→T→List Value→Prop
 | 0,_,_=>False
 | d + 1,t,cs=>∃ A c xs,cs = nd t A c∧t.kids.length≤c∧(inRange t.k∧inRange t.n∧inRange t.m)∧Rd w S 4 A t.kids.length xs∧∀ i u,t.kids[i]? = some u→Rep w S d u ((xs.drop (i * 4)).take 4)
def Reps (w:World) (S:Nat→Prop) (d:Nat) (ts:List T) (xs:List Value):Prop:=xs.length = ts.length * 4∧∀ i u,ts[i]? = some u→Rep w S d u ((xs.drop (i * 4)).take 4)

section
variable {w w':World} {S S':Nat→Prop} {d d':Nat} {t:T} {cs:List Value}
theorem Rep.keep (hk:Keeps S w w'):∀ {d:Nat} {t:T} {cs:List Value},Rep w S d t cs→Rep w' S d t cs
 | 0,_,_,h=>h
 | _ + 1,_,_,⟨A,c,xs,h1,h2,h3,h4,h5⟩=>⟨A,c,xs,h1,h2,h3,h4.keep hk,fun i u hu=>Rep.keep hk (h5 i u hu)⟩
theorem Rep.mono (hS:∀ b,S b→S' b):∀ {d:Nat} {t:T} {cs:List Value},Rep w S d t cs→Rep w S' d t cs
 | 0,_,_,h=>h
 | _ + 1,_,_,⟨A,c,xs,h1,h2,h3,h4,h5⟩=>⟨A,c,xs,h1,h2,h3,h4.mono hS,fun i u hu=>Rep.mono hS (h5 i u hu)⟩
theorem Rep.below {B:Nat} (h:Rep w S d t cs) (hS:In S B) (hb:Below B w w'):Rep w' S d t cs:=h.keep (Keeps.below hS hb)
theorem Rep.later (h:Rep w S d t cs) (hS:In S w.heap.size) (hb:Below w.heap.size w w'):Rep w' S d t cs:=h.keep (Keeps.below hS hb)
theorem Rep.deeper:∀ {d d':Nat} {t:T} {cs:List Value},d≤d'→Rep w S d t cs→Rep w S d' t cs
 | 0,_,_,_,_,h=>h.elim
 | d + 1,0,_,_,hd,_=>by omega
 | d + 1,d' + 1,_,_,hd,⟨A,c,xs,h1,h2,h3,h4,h5⟩=>⟨A,c,xs,h1,h2,h3,h4,fun i u hu=>Rep.deeper (by omega) (h5 i u hu)⟩
theorem Rep.form (h:Rep w S d t cs):∃ A c,cs = nd t A c∧t.kids.length≤c:=by
 cases d with
 | zero=>exact h.elim
 | succ d=>obtain ⟨A,c,xs,h1,h2,_⟩:=h; exact ⟨A,c,h1,h2⟩
theorem Rep.range (h:Rep w S d t cs):inRange t.k∧inRange t.n∧inRange t.m:=by
 cases d with
 | zero=>exact h.elim
 | succ d=>obtain ⟨A,c,xs,_,_,h3,_⟩:=h; exact h3
theorem nd_inj {A A':Option Addr} {c c':Nat} (h:nd t A c = nd t A' c'):A = A'∧c = c':=by
 simp only [nd,List.cons.injEq,Value.slice.injEq,true_and,and_true] at h
 exact h
theorem Rep.cap {A:Option Addr} {c:Nat} (h:Rep w S d t (nd t A c)):t.kids.length≤c:=by
 obtain ⟨A',c',e,hc⟩:=h.form
 have:=(nd_inj e).2
 omega
theorem Rep.depth_le:∀ {d:Nat} {t:T} {cs:List Value},Rep w S d t cs→depth t≤d
 | 0,_,_,h=>h.elim
 | d + 1,t,_,⟨A,c,xs,h1,h2,h3,h4,h5⟩=>by
  rw [depth_eq]
  have:∀ l:List T,(∀ u ∈ l,depth u≤d)→(l.map depth).foldr max 0≤d:=by
   intro l
   induction l with
   | nil=>intro _; simp
   | cons x l ih =>
    intro hl
    have h1:=hl x (List.mem_cons_self ..)
    have h2:=ih fun u hu=>hl u (List.mem_cons_of_mem _ hu)
    simp only [List.map_cons,List.foldr_cons]; omega
  have:=this t.kids fun u hu=>by
   obtain ⟨i,hi⟩:=List.mem_iff_getElem?.1 hu
   exact Rep.depth_le (h5 i u hi)
  omega
theorem Rep.kids {A:Option Addr} {c:Nat} (h:Rep w S (d + 1) t (nd t A c)):∃ xs,Rd w S 4 A t.kids.length xs∧Reps w S d t.kids xs:=by
 obtain ⟨A2,c2,xs,h1,h2,h3,h4,h5⟩:=h
 obtain ⟨rfl,rfl⟩:=nd_inj h1
 exact ⟨xs,h4,h4.1,h5⟩
theorem Rep.kid {A : Option Addr} {c : Nat} (h : Rep w S (d + 1) t (nd t A c)) {j : Nat} {u : T} (hu : t.kids[j]? = some u) :
  ∃ b off A' c',A = some ⟨b,off,none⟩∧S b∧(∀ i v,(nd u A' c')[i]? = some v→w.cell? ⟨b,off + j * 4 + i,none⟩ = some v)∧Rep w S d u (nd u A' c'):=by
 obtain ⟨A2,c2,xs,h1,h2,h3,h4,h5⟩:=h
 obtain ⟨rfl,rfl⟩:=nd_inj h1
 have hj:j < t.kids.length:=(List.getElem?_eq_some_iff.1 hu).1
 obtain ⟨b,off,e,hb,hc⟩:=h4.lit (by omega)
 have hr:=h5 j u hu
 obtain ⟨A',c',e2,_⟩:=hr.form
 refine ⟨b,off,A',c',e,hb,fun i v hv=>?_,by rw [← e2]; exact hr⟩
 rw [← e2,List.getElem?_take] at hv
 split at hv
 ·rw [List.getElem?_drop] at hv
  have:=hc _ _ hv
  rwa [← Nat.add_assoc] at this
 ·cases hv
theorem Rep.leaf {k n m:Int} (hk:inRange k) (hn:inRange n) (hm:inRange m) (d:Nat) (c:Nat):Rep w S (d + 1) ⟨k,n,m,[]⟩ (nd ⟨k,n,m,[]⟩ none c) :=
 ⟨none,c,[],rfl,Nat.zero_le _,⟨hk,hn,hm⟩,Rd.none_,fun i u hu=>by simp at hu⟩
theorem Rep.mk {k n m:Int} {ts:List T} (hk:inRange k) (hn:inRange n) (hm:inRange m) {A:Option Addr} {c:Nat} {xs:List Value} (hc:ts.length≤c) (hr:Rd w S 4 A ts.length xs) (hs:Reps w S d ts xs):Rep w S (d + 1) ⟨k,n,m,ts⟩ (nd ⟨k,n,m,ts⟩ A c) :=
 ⟨A,c,xs,rfl,hc,⟨hk,hn,hm⟩,hr,hs.2⟩

theorem Reps.keep {ts:List T} {xs:List Value} (h:Reps w S d ts xs) (hk:Keeps S w w'):Reps w' S d ts xs:=⟨h.1,fun i u hu=>(h.2 i u hu).keep hk⟩
theorem Reps.mono {ts:List T} {xs:List Value} (h:Reps w S d ts xs) (hS:∀ b,S b→S' b):Reps w S' d ts xs:=⟨h.1,fun i u hu=>(h.2 i u hu).mono hS⟩
theorem Reps.deeper {ts:List T} {xs:List Value} (hd:d≤d') (h:Reps w S d ts xs):Reps w S d' ts xs:=⟨h.1,fun i u hu=>(h.2 i u hu).deeper hd⟩
theorem Reps.nil:Reps w S d [] []:=⟨rfl,fun i u hu=>by simp at hu⟩
theorem nd_length (t:T) (A:Option Addr) (c:Nat):(nd t A c).length = 4:=rfl
theorem Rep.length (h:Rep w S d t cs):cs.length = 4:=by
 obtain ⟨A,c,e,_⟩:=h.form
 rw [e]; rfl
theorem Reps.snoc {ts:List T} {xs:List Value} (h:Reps w S d ts xs) (hr:Rep w S d t cs):Reps w S d (ts ++ [t]) (xs ++ cs):=by
 have hl:=hr.length
 refine ⟨by rw [List.length_append,List.length_append,h.1,hl,List.length_singleton]; omega,fun i u hu=>?_⟩
 by_cases hi:i < ts.length
 ·rw [List.getElem?_append_left hi] at hu
  have:=h.2 i u hu
  rw [List.drop_append_of_le_length (by rw [h.1]; omega),List.take_append_of_le_length (by rw [List.length_drop,h.1]; omega)]
  exact this
 ·rw [List.getElem?_append_right (by omega)] at hu
  have hi2:i - ts.length = 0:=by
   have:=(List.getElem?_eq_some_iff.1 hu).1
   simp at this; omega
  rw [hi2] at hu
  simp only [List.getElem?_cons_zero,Option.some.injEq] at hu
  subst hu
  have hie:i = ts.length:=by omega
  subst hie
  rw [← h.1,List.drop_left,← hl,List.take_length]
  exact hr
theorem Reps.one (hr:Rep w S d t cs):Reps w S d [t] cs:=by
 have:=Reps.nil.snoc hr
 simpa using this
end
end Go.Proofs.YtkkenbalpnmfmaaDoor
