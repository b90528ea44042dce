/- Texts joined. -/
import Derived.Test.YtkkenbalpnmfmaaDoorJ02
import Derived.Test.YtkkenbalpnmfmaaDoorJ07
import Derived.Test.YtkkenbalpnmfmaaDoorJ01
import Derived.Test.YtkkenbalpnmfmaaDoorJ05
import Derived.OwnWalk
set_option linter.unusedVariables false
namespace Go.Proofs.YtkkenbalpnmfmaaDoor
open TR
theorem at_size:∀ (p:List Int) (t u:T),at? p t = some u→size u≤size t
 | [],t,u,h=>by simp only [at?,Option.some.injEq] at h; rw [h]; exact Nat.le_refl _
 | i :: p,t,u,h=>by
  simp only [at?] at h
  split at h
  ·cases h
  ·cases hk:t.kids[i.toNat]? with
   | none=>rw [hk] at h; cases h
   | some v =>
    rw [hk] at h
    have:=at_size p v u h
    have:=size_kid hk
    omega

end Go.Proofs.YtkkenbalpnmfmaaDoor

namespace Go.Proofs.YtkkenbalpnmfmaaDoor.TR
theorem at_snoc (q:List Int) (j:Nat):∀ (t u:T),at? q t = some u→at? (q ++ [(j:Int)]) t = u.kids[j]?:=by
 induction q with
 | nil =>
  intro t u h
  simp only [at?,Option.some.injEq] at h
  subst h
  simp only [List.nil_append,at?]
  rw [if_neg (by omega)]
  simp only [Int.toNat_natCast]
  cases t.kids[j]? <;> rfl
 | cons i q ih =>
  intro t u h
  simp only [List.cons_append,at?] at h ⊢
  split at h
  ·cases h
  ·rename_i hi
   rw [if_neg hi]
   cases hk:t.kids[i.toNat]? with
   | none=>rw [hk] at h; cases h
   | some v=>rw [hk] at h; exact ih v u h
theorem set_snoc (q:List Int) (j:Nat) (x k:T):∀ (t u:T),at? q t = some u→u.kids[j]? = some k→set? (q ++ [(j:Int)]) t x = set? q t ⟨u.k,u.n,u.m,u.kids.set j x⟩:=by
 induction q with
 | nil =>
  intro t u h hk
  simp only [at?,Option.some.injEq] at h
  subst h
  simp only [List.nil_append,set?]
  rw [if_neg (by omega)]
  simp only [Int.toNat_natCast,hk]
 | cons i q ih =>
  intro t u h hk
  simp only [List.cons_append,at?,set?] at h ⊢
  split at h
  ·cases h
  ·rename_i hi
   rw [if_neg hi,if_neg hi]
   cases hv:t.kids[i.toNat]? with
   | none=>simp [hv] at h
   | some v =>
    rw [hv] at h
    have e:=ih v u h hk
    simp only [e]
end Go.Proofs.YtkkenbalpnmfmaaDoor.TR
namespace Go.Proofs.YtkkenbalpnmfmaaDoor
open Go.RowKit WM TR

def Lin (w:World):Nat→Nat→Nat→T→List Value→Prop
 | 0,_,_,_,_=>False
 | d + 1, lo, hi, t, cs => ∃ (A : Option Addr) (c g : Nat) (ys : List Value) (iv : Nat → Nat), cs = nd t A c ∧ t.kids.length ≤ c ∧ (inRange t.k ∧ inRange t.n ∧ inRange t.m) ∧ ys.length = t.kids.length * 4 ∧
   (0 < t.kids.length→A = some ⟨g,0,none⟩∧Blk w g 25 ys.toArray∧lo≤g∧g < iv 0)∧lo≤iv 0∧iv t.kids.length≤hi∧(∀ i,iv i≤iv (i + 1)) ∧
   ∀ i u,t.kids[i]? = some u→Lin w d (iv i) (iv (i + 1)) u ((ys.drop (i * 4)).take 4)
theorem iv_le {iv:Nat→Nat} (h:∀ i,iv i≤iv (i + 1)) {i j:Nat} (hij:i≤j):iv i≤iv j:=by
 induction hij with
 | refl=>exact Nat.le_refl _
 | step _ ih=>exact Nat.le_trans ih (h _)
section
variable {w w':World}
theorem Lin.keep:∀ {d lo hi:Nat} {t:T} {cs:List Value},(∀ b,lo≤b→b < hi→w'.heap[b]? = w.heap[b]?)→Lin w d lo hi t cs→Lin w' d lo hi t cs
 | 0,_,_,_,_,_,h=>h
 | d + 1,lo,hi,t,cs,hk,⟨A,c,g,ys,iv,h1,h2,h3,h4,h5,h6,h7,h8,h9⟩=>by
  refine ⟨A,c,g,ys,iv,h1,h2,h3,h4,fun hl=>?_,h6,h7,h8,fun i u hu=>?_⟩
  ·obtain ⟨e,hb,hlo,hg⟩:=h5 hl
   have:=iv_le h8 (Nat.zero_le t.kids.length)
   exact ⟨e,(hk g hlo (by omega)).trans hb,hlo,hg⟩
  ·have hi':=(List.getElem?_eq_some_iff.1 hu).1
   have e1:=iv_le h8 (Nat.zero_le i)
   have e2:=iv_le h8 (show i + 1≤t.kids.length by omega)
   exact Lin.keep (fun b hb1 hb2=>hk b (by omega) (by omega)) (h9 i u hu)
theorem Lin.mono:∀ {d lo hi lo' hi':Nat} {t:T} {cs:List Value},lo'≤lo→hi≤hi'→Lin w d lo hi t cs→Lin w d lo' hi' t cs
 | 0,_,_,_,_,_,_,_,_,h=>h
 | _ + 1,_,_,_,_,_,_,hl,hh,⟨A,c,g,ys,iv,h1,h2,h3,h4,h5,h6,h7,h8,h9⟩ =>
  ⟨A,c,g,ys,iv,h1,h2,h3,h4,fun h=>(let ⟨e,hb,hlo,hg⟩:=h5 h; ⟨e,hb,Nat.le_trans hl hlo,hg⟩),Nat.le_trans hl h6,Nat.le_trans h7 hh,h8,h9⟩
theorem Lin.rep:∀ {d lo hi:Nat} {t:T} {cs:List Value},Lin w d lo hi t cs→Rep w (fun b=>lo≤b∧b < hi) d t cs
 | 0,_,_,_,_,h=>h
 | d + 1,lo,hi,t,cs,⟨A,c,g,ys,iv,h1,h2,h3,h4,h5,h6,h7,h8,h9⟩=>by
  refine ⟨A,c,ys,h1,h2,h3,⟨h4,fun hl=>?_⟩,fun i u hu=>?_⟩
  ·obtain ⟨e,hb,hlo,hg⟩:=h5 hl
   have:=iv_le h8 (Nat.zero_le t.kids.length)
   refine ⟨_,e,⟨hlo,by show g < hi; omega⟩,fun j v hv=>?_⟩
   rw [Addr.add_lit,Nat.zero_add]
   exact (hb.cell j).trans (by simpa using hv)
  ·have hi':=(List.getElem?_eq_some_iff.1 hu).1
   have e1:=iv_le h8 (Nat.zero_le i)
   have e2:=iv_le h8 (show i + 1≤t.kids.length by omega)
   exact (Lin.rep (h9 i u hu)).mono fun b hb=>⟨by omega,by omega⟩
theorem Lin.length {d lo hi:Nat} {t:T} {cs:List Value} (h:Lin w d lo hi t cs):cs.length = 4:=h.rep.length
end
def Lins (w:World) (d lo hi:Nat) (ts:List T) (ys:List Value):Prop :=
 ys.length = ts.length * 4∧∃ iv:Nat→Nat,lo≤iv 0∧iv ts.length≤hi∧(∀ i,iv i≤iv (i + 1))∧∀ i u,ts[i]? = some u→Lin w d (iv i) (iv (i + 1)) u ((ys.drop (i * 4)).take 4)
section
variable {w w':World} {d lo hi:Nat} {ts:List T} {ys cs:List Value} {t:T}
theorem Lins.nil (h:lo≤hi):Lins w d lo hi [] []:=⟨rfl,fun _=>lo,Nat.le_refl _,h,fun _=>Nat.le_refl _,fun i u hu=>by simp at hu⟩
theorem Lins.keep (h:Lins w d lo hi ts ys) (hk:∀ b,lo≤b→b < hi→w'.heap[b]? = w.heap[b]?):Lins w' d lo hi ts ys:=by
 obtain ⟨h1,iv,h2,h3,h4,h5⟩:=h
 refine ⟨h1,iv,h2,h3,h4,fun i u hu=>?_⟩
 have hi':=(List.getElem?_eq_some_iff.1 hu).1
 have e1:=iv_le h4 (Nat.zero_le i)
 have e2:=iv_le h4 (show i + 1≤ts.length by omega)
 exact (h5 i u hu).keep fun b hb1 hb2=>hk b (by omega) (by omega)
theorem Lins.snoc {hi2:Nat} (h:Lins w d lo hi ts ys) (hr:Lin w d hi hi2 t cs) (hh:hi≤hi2):Lins w d lo hi2 (ts ++ [t]) (ys ++ cs):=by
 obtain ⟨h1,iv,h2,h3,h4,h5⟩:=h
 have hl:=hr.length
 refine ⟨by rw [List.length_append,List.length_append,h1,hl,List.length_singleton]; omega,fun i=>if i≤ts.length then iv i else hi2,by simpa using h2,?_,fun i=>?_,fun i u hu=>?_⟩
 ·rw [List.length_append,List.length_singleton]
  show (if ts.length + 1≤ts.length then _ else hi2)≤hi2
  rw [if_neg (by omega)]
  exact Nat.le_refl _
 ·show (if i≤ts.length then iv i else hi2)≤(if i + 1≤ts.length then iv (i + 1) else hi2)
  by_cases h6:i + 1≤ts.length
  ·rw [if_pos (by omega),if_pos h6]; exact h4 i
  ·rw [if_neg h6]
   split
   ·have:=iv_le h4 (show i≤ts.length by assumption); omega
   ·exact Nat.le_refl _
 ·show Lin w d (if i≤ts.length then iv i else hi2) (if i + 1≤ts.length then iv (i + 1) else hi2) u _
  by_cases hi3:i < ts.length
  ·rw [List.getElem?_append_left hi3] at hu
   rw [if_pos (by omega),if_pos (by omega),List.drop_append_of_le_length (by rw [h1]; omega),List.take_append_of_le_length (by rw [List.length_drop,h1]; omega)]
   exact h5 i u hu
  ·rw [List.getElem?_append_right (by omega)] at hu
   have hi2':i - ts.length = 0:=by
    have:=(List.getElem?_eq_some_iff.1 hu).1
    simp at this; omega
   rw [hi2'] at hu
   simp only [List.getElem?_cons_zero,Option.some.injEq] at hu
   subst hu
   have hie:i = ts.length:=by omega
   subst hie
   rw [if_pos (Nat.le_refl _),if_neg (by omega),← h1,List.drop_left,← hl,List.take_length]
   exact hr.mono h3 (Nat.le_refl _)
theorem Lin.mk {k n m:Int} (hk:inRange k∧inRange n∧inRange m) {g c:Nat} (hc:ts.length≤c) (hb:Blk w g 25 ys.toArray) (hlo:lo≤g) (hs:Lins w d (g + 1) hi ts ys):Lin w (d + 1) lo hi ⟨k,n,m,ts⟩ (nd ⟨k,n,m,ts⟩ (some ⟨g,0,none⟩) c):=by
 obtain ⟨h1,iv,h2,h3,h4,h5⟩:=hs
 exact ⟨_,c,g,ys,iv,rfl,hc,hk,h1,fun _=>⟨rfl,hb,hlo,by omega⟩,by omega,h3,h4,h5⟩
theorem Lin.leaf {k n m:Int} (hk:inRange k∧inRange n∧inRange m) (c:Nat) (h:lo≤hi):Lin w (d + 1) lo hi ⟨k,n,m,[]⟩ (nd ⟨k,n,m,[]⟩ none c) :=
 ⟨none,c,0,[],fun _=>lo,rfl,Nat.zero_le _,hk,rfl,fun h=>absurd h (by simp),Nat.le_refl _,h,fun _=>Nat.le_refl _,fun i u hu=>by simp at hu⟩
end

theorem Rd.cells {w w':World} {S:Nat→Prop} {size n:Nat} {A:Option Addr} {xs:List Value} (hk:∀ p:Addr,S p.block→w'.cell? p = w.cell? p) (h:Rd w S size A n xs):Rd w' S size A n xs :=
 ⟨h.1,fun hn=>by
  obtain ⟨ad,e,hb,hc⟩:=h.2 hn
  exact ⟨ad,e,hb,fun j u hu=>(hk (ad.add j) (by rw [block_of_add]; exact hb)).trans (hc j u hu)⟩⟩
theorem Rep.cells {w w':World} {S:Nat→Prop} (hk:∀ p:Addr,S p.block→w'.cell? p = w.cell? p):∀ {d:Nat} {t:T} {cs:List Value},Rep w S d t cs→Rep w' S d t cs
 | 0,_,_,h=>h
 | _ + 1,_,_,⟨A,c,xs,h1,h2,h3,h4,h5⟩=>⟨A,c,xs,h1,h2,h3,Rd.cells hk h4,fun i u hu=>Rep.cells hk (h5 i u hu)⟩

structure Foc (w:World) (b0 lo hi:Nat) (t:T) (q:List Int) (u:T) (b o lo' hi' d:Nat) (row:List Value):Prop where
 sub:at? q t = some u
 blk:Blk w b 25 row.toArray
 fit:o + 4≤row.length
 lin:Lin w d lo' hi' u ((row.drop o).take 4)
 here:b = b0∨(lo≤b∧b < hi)
 out:¬ (lo'≤b∧b < hi')
 low:lo≤lo'
 high:hi'≤hi
 back:∀ (w2:World) (x:T) (cs:List Value) (D:Nat) (S:Nat→Prop),
  (∀ p:Addr,(p.block = b0∨(lo≤p.block∧p.block < hi))→¬ (lo'≤p.block∧p.block < hi')→(p.block = b→p.off < o∨o + 4≤p.off)→w2.cell? p = w.cell? p) →
  (∀ i v,cs[i]? = some v→w2.cell? ⟨b,o + i,none⟩ = some v)→Rep w2 S D x cs →
  ∃ cs0 D0 t',set? q t x = some t'∧(∀ i v,cs0[i]? = some v→w2.cell? ⟨b0,0 + i,none⟩ = some v)∧Rep w2 (fun c=>(lo≤c∧c < hi)∨S c) D0 t' cs0
theorem Foc.root {w:World} {b0 lo hi d:Nat} {t:T} {A:Option Addr} {c:Nat} (hb:Blk w b0 25 (nd t A c).toArray) (hl:Lin w d lo hi t (nd t A c)) (ho:¬ (lo≤b0∧b0 < hi)):Foc w b0 lo hi t [] t b0 0 lo hi d (nd t A c) :=
 ⟨rfl,hb,Nat.le_refl _,by simpa [nd] using hl,.inl rfl,ho,Nat.le_refl _,Nat.le_refl _,fun w2 x cs D S _ hc hr=>⟨cs,D,x,rfl,hc,hr.mono fun b hb=>.inr hb⟩⟩
theorem seg_get {l:List Value} {o:Nat} {cs:List Value} (hf:o + cs.length≤l.length) (i:Nat):(seg l o cs)[i]? = if i < o then l[i]? else if i < o + cs.length then cs[i - o]? else l[i]?:=by
 unfold seg
 rw [List.append_assoc]
 by_cases h1:i < o
 ·rw [if_pos h1,List.getElem?_append_left (by rw [List.length_take]; omega),List.getElem?_take,if_pos h1]
 ·rw [if_neg h1,List.getElem?_append_right (by rw [List.length_take]; omega),List.length_take,Nat.min_eq_left (by omega)]
  by_cases h2:i < o + cs.length
  ·rw [if_pos h2,List.getElem?_append_left (by omega)]
  ·rw [if_neg h2,List.getElem?_append_right (by omega),List.getElem?_drop]
   congr 1
   omega
theorem Foc.next {w : World} {b0 lo hi : Nat} {t : T} {q : List Int} {u k : T} {b o lo' hi' d : Nat} {row : List Value} (h : Foc w b0 lo hi t q u b o lo' hi' (d + 1) row) {j : Nat} (hk : u.kids[j]? = some k) :
  ∃ (g c lo2 hi2:Nat) (ys:List Value),(row.drop o).take 4 = nd u (some ⟨g,0,none⟩) c∧Foc w b0 lo hi t (q ++ [(j:Int)]) k g (j * 4) lo2 hi2 d ys:=by
 obtain ⟨A,c,g,ys,iv,h1,h2,h3,h4,h5,h6,h7,h8,h9⟩:=h.lin
 have hj:=(List.getElem?_eq_some_iff.1 hk).1
 obtain ⟨rfl,hb,hlo,hg⟩:=h5 (by omega)
 have e1:=iv_le h8 (Nat.zero_le j)
 have e2:=iv_le h8 (show j + 1≤u.kids.length by omega)
 have e3:=h8 j
 have hlow:=h.low
 have hhigh:=h.high
 have hout:=h.out
 refine ⟨g,c,iv j,iv (j + 1),ys,h1,?_⟩
 refine ⟨by rw [at_snoc q j t u h.sub,hk],hb,by rw [h4]; omega,h9 j k hk,.inr ⟨by omega,by omega⟩,by omega,by omega,by omega,?_⟩
 intro w2 x cs D S hw hc hr
 have hcl:=hr.length
 have hgb:g≠b:=fun e=>hout ⟨by omega,by omega⟩
 have hxs:∀ i v,(nd u (some ⟨g,0,none⟩) c)[i]? = some v→w2.cell? ⟨b,o + i,none⟩ = some v:=by
  intro i v hv
  rw [hw ⟨b,o + i,none⟩ h.here (by show ¬ (iv j≤b∧b < iv (j + 1)); omega) (fun e=>absurd e.symm hgb),h.blk.cell (o + i)]
  rw [← h1,List.getElem?_take] at hv
  split at hv
  ·rw [List.getElem?_drop] at hv
   simpa using hv
  ·cases hv
 have hsl:(seg ys (j * 4) cs).length = ys.length:=seg_length (by rw [hcl,h4]; omega)
 have hrow:∀ i v,(seg ys (j * 4) cs)[i]? = some v→w2.cell? ⟨g,i,none⟩ = some v:=by
  intro i v hv
  rw [seg_get (by rw [hcl,h4]; omega)] at hv
  have keep:(i < j * 4∨j * 4 + 4≤i)→ys[i]? = some v→w2.cell? ⟨g,i,none⟩ = some v:=fun ho hy=>by
   rw [hw ⟨g,i,none⟩ (.inr ⟨by show lo≤g; omega,by show g < hi; omega⟩) (by show ¬ (iv j≤g∧g < iv (j + 1)); omega) (fun _=>ho),hb.cell i]
   simpa using hy
  split at hv
  ·exact keep (.inl (by assumption)) hv
  ·split at hv
   ·have:=hc (i - j * 4) v hv
    have e:j * 4 + (i - j * 4) = i:=by omega
    rwa [e] at this
   ·exact keep (.inr (by rw [hcl] at *; omega)) hv
 have hnd:nd u (some ⟨g,0,none⟩) c = nd ⟨u.k,u.n,u.m,u.kids.set j x⟩ (some ⟨g,0,none⟩) c:=by simp [nd]
 have hrep:∃ D2,Rep w2 (fun c=>(lo'≤c∧c < hi')∨S c) D2 ⟨u.k,u.n,u.m,u.kids.set j x⟩ (nd u (some ⟨g,0,none⟩) c):=by
  refine ⟨max d D + 1,some ⟨g,0,none⟩,c,seg ys (j * 4) cs,hnd,by simpa using h2,h3,⟨by rw [hsl,h4,List.length_set],fun _=>⟨_,rfl,.inl ⟨hlo,by show g < hi'; omega⟩,fun i v hv=>?_⟩⟩,?_⟩
  ·rw [Addr.add_lit,Nat.zero_add]
   exact hrow i v hv
  ·intro i v hv
   rw [List.getElem?_set] at hv
   by_cases hij:j = i
   ·subst hij
    rw [if_pos rfl,if_pos hj] at hv
    have e:=Option.some.inj hv
    subst e
    have e:((seg ys (j * 4) cs).drop (j * 4)).take 4 = cs:=by
     apply List.ext_getElem?
     intro i
     rw [List.getElem?_take]
     by_cases hi4:i < 4
     ·rw [if_pos hi4,List.getElem?_drop,seg_get (by rw [hcl,h4]; omega),if_neg (by omega),if_pos (by omega)]
      congr 1
      omega
     ·rw [if_neg hi4,List.getElem?_eq_none (by omega)]
    rw [e]
    exact (hr.mono fun b hb=>.inr hb).deeper (Nat.le_max_right _ _)
   ·rw [if_neg hij] at hv
    have hi':=(List.getElem?_eq_some_iff.1 hv).1
    have f1:=iv_le h8 (Nat.zero_le i)
    have f2:=iv_le h8 (show i + 1≤u.kids.length by omega)
    have f3:i < j∨j < i:=by omega
    have f4:i < j→iv (i + 1)≤iv j:=fun h=>iv_le h8 h
    have f5:j < i→iv (j + 1)≤iv i:=fun h=>iv_le h8 h
    have e:((seg ys (j * 4) cs).drop (i * 4)).take 4 = (ys.drop (i * 4)).take 4:=by
     apply List.ext_getElem?
     intro n
     rw [List.getElem?_take,List.getElem?_take]
     by_cases hn4:n < 4
     ·rw [if_pos hn4,if_pos hn4,List.getElem?_drop,List.getElem?_drop,seg_get (by rw [hcl,h4]; omega)]
      rcases f3 with hlt | hlt
      ·rw [if_pos (by omega)]
      ·rw [if_neg (by omega),if_neg (by omega)]
     ·rw [if_neg hn4,if_neg hn4]
    rw [e]
    have hl:=(h9 i v hv).rep
    refine Rep.deeper (Nat.le_max_left d D) (Rep.mono (S:=fun b=>iv i≤b∧b < iv (i + 1)) (fun b hb=>.inl ⟨by omega,by omega⟩) ?_)
    refine Rep.cells ?_ hl
    intro p hp
    refine hw p (.inr ⟨by omega,by omega⟩) ?_ (fun e=>?_)
    ·rcases f3 with hlt | hlt
     ·have:=f4 hlt; omega
     ·have:=f5 hlt; omega
    ·omega
 obtain ⟨D2,hrep⟩:=hrep
 have hw3:∀ p:Addr,(p.block = b0∨(lo≤p.block∧p.block < hi))→¬ (lo'≤p.block∧p.block < hi')→(p.block = b→p.off < o∨o + 4≤p.off)→w2.cell? p = w.cell? p:=fun p hp hn _ =>
  hw p hp (fun e=>hn ⟨by omega,by omega⟩) (fun e=>absurd ⟨by omega,by omega⟩ hn)
 obtain ⟨cs0,D0,t',hs0,hc0,hr0⟩:=h.back w2 ⟨u.k,u.n,u.m,u.kids.set j x⟩ (nd u (some ⟨g,0,none⟩) c) D2 _ hw3 hxs hrep
 ·refine ⟨cs0,D0,t',by rw [set_snoc q j x k t u h.sub hk]; exact hs0,hc0,hr0.mono fun b hb=>?_⟩
  rcases hb with hb | hb | hb
  ·exact .inl hb
  ·exact .inl ⟨by omega,by omega⟩
  ·exact .inr hb
end Go.Proofs.YtkkenbalpnmfmaaDoor

namespace Go.Proofs.YtkkenbalpnmfmaaDoor
open Go.RowKit WM

theorem below_none {w w':World} (h:w.grownBy w' none):Below w.heap.size w w':=⟨h.os,h.tape,h.output,h.size,fun i hi=>h.block i hi (fun e=>nomatch e)⟩
end Go.Proofs.YtkkenbalpnmfmaaDoor

namespace Go.Proofs.YtkkenbalpnmfmaaDoor
open Go.RowKit WM TR

theorem own_blk_of {w:World} {base:Nat} {e:TypeId} {size g n:Nat} {xs:List Value} (h:w.ownsRow base e size (.slice (some ⟨g,0,none⟩) n n) n xs):Blk w g e xs.toArray:=by
 obtain ⟨h1,h2⟩:=h
 rcases h2 with ⟨h0,_⟩ | ⟨g',cap',cur,hv,hg,hh,hn,hcap,hsz,htake⟩
 ·cases h0
 ·cases hv
  have e:cur.toList = xs:=by rw [← htake,List.take_of_length_le (by rw [Array.length_toList,hsz]; exact Nat.le_refl _)]
  have e2:cur = xs.toArray:=by rw [← e]
  rw [← e2]
  exact hh
theorem Lins.put {w w' : World} {d j lo hi hi2 : Nat} {l : List T} {u : T} {ys cs : List Value} (h : Lins w d lo hi (l.take j) (ys.take (j * 4))) (hu : l[j]? = some u) (hl : ys.length = l.length * 4) (hk : ∀ b, lo ≤ b → b < hi → w'.heap[b]? = w.heap[b]?) (hr : Lin w' d hi hi2 u cs) (hh : hi ≤ hi2) :
  (seg ys (j * 4) cs).length = l.length * 4∧Lins w' d lo hi2 (l.take (j + 1)) ((seg ys (j * 4) cs).take ((j + 1) * 4)):=by
 have hj:=(List.getElem?_eq_some_iff.1 hu).1
 have h4:=hr.length
 have hsl:(seg ys (j * 4) cs).length = l.length * 4:=by rw [seg_length (by rw [h4,hl]; omega),hl]
 refine ⟨hsl,?_⟩
 have e:(seg ys (j * 4) cs).take ((j + 1) * 4) = ys.take (j * 4) ++ cs:=by
  unfold seg
  have hl1:(ys.take (j * 4) ++ cs).length = (j + 1) * 4:=by rw [List.length_append,List.length_take,h4,hl]; omega
  rw [List.take_append_of_le_length (by omega),List.take_of_length_le (by omega)]
 rw [e,List.take_add_one,hu]
 exact (h.keep hk).snoc hr hh
def MadeL (t:T) (d:Nat) (w:World) (e:Ending) (w':World):Prop :=
 ∃ A' c',e = .returned (.agg #[.int .i64 t.k,.int .i64 t.n,.int .i64 t.m,.slice A' t.kids.length c'])∧Lin w' d w.heap.size w'.heap.size t (nd t A' c')∧Below w.heap.size w w'

set_option maxRecDepth 100000 in
set_option maxHeartbeats 4000000 in
theorem clone_is : ∀ (d : Nat) (t : T) (S : Nat → Prop) (A : Option Addr) (c : Nat) (w : World), Rep w S d t (nd t A c) → In S w.heap.size → size t ≤ 1000000 →
  Calls Tryd.prog 61 #[.agg #[.int .i64 t.k,.int .i64 t.n,.int .i64 t.m,.slice A t.kids.length c]] w (MadeL t d w)
 | 0,_,_,_,_,_,h,_,_=>h.elim
 | d + 1,t,S,A,c,w,ht,hin,hst=>by
  have ih:=clone_is d
  obtain ⟨len,hl⟩:∃ l,l = t.kids.length:=⟨_,rfl⟩
  have hkl:t.kids.length≤1000000:=by have:=kids_lt t; omega
  obtain ⟨i0,hi,hz0,hz1,hz2⟩:=info_parts node_info
  rw [← hl] at hkl ⊢
  have hrg:=ht.range
  have HRG:=Lib.hid hrg
  have HT:=Lib.hid ht
  have HI:=Lib.hid hin
  have HL:=Lib.hid hl
  have HST:=Lib.hid hst
  have HIH:=Lib.hid ih
  clear ht hin hl ih hrg
  by_cases h0:len = 0
  ·subst h0
   have hk0:t.kids = []:=List.eq_nil_of_length_eq_zero HL.out.symm
   have HK:=Lib.hid hk0
   clear hk0
   go_enter Tryd.func61,Tryd.ntmps61
   go_wp2_with fail
   obtain ⟨W2,hW2⟩:∃ W2,W2 = (w.alloc (.cells #[.int .i64 t.k,.int .i64 t.n,.int .i64 t.m,.slice A 0 c] 25)).alloc (.cells #[.int .i64 0,.int .i64 0,.int .i64 0,.slice none 0 0] 25):=⟨_,rfl⟩
   have hz2':W2.heap.size = w.heap.size + 2:=by rw [hW2,size_alloc,size_alloc]
   have hX:Blk W2 w.heap.size 25 #[.int .i64 t.k,.int .i64 t.n,.int .i64 t.m,.slice A 0 c]:=by rw [hW2]; exact blk_new3 _ _ _ _
   have hO:Blk W2 (w.heap.size + 1) 25 #[.int .i64 0,.int .i64 0,.int .i64 0,.slice none 0 0]:=by rw [hW2]; exact blk_new2 _ _ _ _
   have HB:Hid (Below w.heap.size w W2):=Lib.hid (by rw [hW2]; exact ba (below_new _ _) _)
   rw [← hW2]
   clear hW2
   have HX:=Lib.hid hX
   have HO:=Lib.hid hO
   have HZ2:=Lib.hid hz2'
   clear hX hO hz2'
   go_loopw [17] (fun i wr=>i = .int .i64 0∧Hid (wr = W2)) (fun _ _=>0)
   case atStart=>exact ⟨rfl,rfl⟩
   case round =>
    obtain ⟨rfl,HE⟩:=hrel
    have hwr:=HE.out
    subst hwr
    have hX:=HX.out
    have hx3:=hX.cell 3
    have hf3:=hX.frozen 3
    have hX2:=hX.set_ 3 (.slice none 0 0)
    simp only [List.setIfInBounds_toArray,List.set_cons_succ,List.set_cons_zero] at hX2
    have hO2:=HO.out.far (p:=⟨w.heap.size,3,none⟩) (by show w.heap.size + 1≠w.heap.size; omega) (.slice none 0 0)
    have HX2:=Lib.hid hX2
    have HO2:=Lib.hid hO2
    clear hX hX2 hO2
    go_wp2_with (first
     | (refine wpList_load_mid rfl 25 (.tmp 1) rfl w.heap.size 0 rfl [.int .i64 t.k,.int .i64 t.n,.int .i64 t.m,.slice none 0 0] _ (fun i y hy=>by rw [HX2.out.cell (0 + i),Nat.zero_add]; simpa using hy) Tryd.underlying25 rfl (by rw [size_node]; rfl) ?_)
     | (refine wpList_store_row rfl 25 (.tmp 2) (.tmp 30) rfl (w.heap.size + 1) #[.int .i64 t.k,.int .i64 t.n,.int .i64 t.m,.slice none 0 0] rfl rfl 25 #[.int .i64 0,.int .i64 0,.int .i64 0,.slice none 0 0] HO2.out (by rw [size_node]; rfl) rfl (by simp [Value.oneCell']) ?_))
    have HR:=Lib.hid (HO2.out.setRow #[.int .i64 t.k,.int .i64 t.n,.int .i64 t.m,.slice none 0 0])
    have r0:=HR.out.cell 0
    have r1:=HR.out.cell 1
    have r2:=HR.out.cell 2
    have r3:=HR.out.cell 3
    simp only [List.getElem?_toArray,List.getElem?_cons_zero,List.getElem?_cons_succ] at r0 r1 r2 r3
    refine bodyPost_ret (v:=.agg #[.int .i64 t.k,.int .i64 t.n,.int .i64 t.m,.slice none 0 0]) (by simp [results,Tryd.results61,go_sem,r0,r1,r2,r3]) rfl ⟨none,0,by rw [HK.out]; rfl,⟨none,0,0,[],fun _=>w.heap.size,rfl,by rw [HK.out]; exact Nat.le_refl _,HRG.out,by rw [HK.out]; rfl,fun h=>absurd h (by rw [HK.out]; exact Nat.lt_irrefl _),Nat.le_refl _,?_,fun _=>Nat.le_refl _,fun i u hu=>by rw [HK.out] at hu; simp at hu⟩,?_⟩
    ·exact (below_setRow (HB.out.setCell (Nat.le_refl _) _) (Nat.le_succ _) _).size
    exact below_setRow (HB.out.setCell (Nat.le_refl _) _) (Nat.le_succ _) _
  ·have hpos:0 < len:=by omega
   go_enter Tryd.func61,Tryd.ntmps61
   go_wp2_with (refine wpList_make_full _ rfl (.tmp 12) (.tmp 12) 23 rfl (w.heap.size + 2) 25 i0 _ 4 Tryd.underlying23 hi hz0 hz1 .i64 .i64 _ _ len rfl rfl rfl rfl (by rw [hz2]; omega) (len_le (by omega)) (by simp) ?_; intro w3 hown3 hgrow3; have hb3:=below_none hgrow3; have hX3:=(blk_new3 _ _ _ _).below hb3 (blk_new3 _ _ _ _).lt; have hO3:=(blk_new2 _ _ _ _).below hb3 (blk_new2 _ _ _ _).lt; have hc3:=hX3.cell 3; have HX3:=Lib.hid hX3; have HO3:=Lib.hid hO3; have HOW3:=Lib.hid hown3; have HB3:Hid (Below w.heap.size w w3):=Lib.hid (bt (ba (below_new _ _) _) hb3); clear hX3 hO3 hown3 hgrow3 hb3)
   have hys0:=own_blk_of HOW3.out
   have hyl0:=HOW3.out.1
   simp only [size_alloc] at hys0
   obtain ⟨ys0,hys⟩:∃ ys0,ys0 = (madeCells (Value.agg #[.int .i64 0,.int .i64 0,.int .i64 0,.slice none 0 0]).cells (len * 4)).toList:=⟨_,rfl⟩
   rw [← hys] at hys0 hyl0
   have HYS:=Lib.hid hys0
   clear HOW3 hys hys0 hc3
   have hw3:w.heap.size + 2 < w3.heap.size:=HYS.out.lt
   go_loopw [17] (fun i wr=>∃ (j:Nat) (ys:List Value),j≤len∧i = .int .i64 j∧Hid (Blk wr (w.heap.size + 2) 25 ys.toArray)∧Hid (ys.length = len * 4)∧Hid (Lins wr d (w.heap.size + 2 + 1) wr.heap.size (t.kids.take j) (ys.take (j * 4)))∧Hid (Below (w.heap.size + 2) w3 wr)) (fun i _=>len - (intOf i).toNat)
   case atStart=>exact ⟨0,ys0,Nat.zero_le _,rfl,HYS,hyl0,by rw [Nat.zero_mul]; exact Lins.nil hw3,Below.refl _ _⟩
   case round =>
    clear HYS
    obtain ⟨j,ys,hj,rfl,HY,HYL,HR,HBW⟩:=hrel
    have hsz:=HBW.out.size
    by_cases hlt:j < len
    ·obtain ⟨u,hu⟩:∃ u,t.kids[j]? = some u:=⟨_,List.getElem?_eq_getElem (by rw [← HL.out]; exact hlt)⟩
     obtain ⟨b,off,A',c',hA,hb,hcells,hru⟩:=HT.out.kid hu
     subst hA
     have hbw:b < w.heap.size:=HI.out b hb
     have hBW:Below w.heap.size w wr:=HB3.out.trans (HBW.out.mono (Nat.le_add_right _ _))
     have HCL:Hid (∀ i y,(nd u A' c')[i]? = some y→wr.cell? ⟨b,off + j * 4 + i,none⟩ = some y):=Lib.hid (fun i y hy=>(hBW.cell (p:=⟨b,_,none⟩) hbw).trans (hcells i y hy))
     have hbx:=below_new wr (.cells #[.int .i64 u.k,.int .i64 u.n,.int .i64 u.m,.slice A' u.kids.length c'] 25)
     have HC6:Hid (∀ i y,[Value.int .i64 u.k,.int .i64 u.n,.int .i64 u.m,.slice A' u.kids.length c'][i]? = some y→(wr.alloc (.cells #[.int .i64 u.k,.int .i64 u.n,.int .i64 u.m,.slice A' u.kids.length c'] 25)).cell? ⟨wr.heap.size,0 + i,none⟩ = some y):=Lib.hid (fun i y hy=>by
      rw [(Blk.new wr 25 #[.int .i64 u.k,.int .i64 u.n,.int .i64 u.m,.slice A' u.kids.length c']).cell (0 + i),Nat.zero_add]; simpa using hy)
     have hsu:=size_kid hu
     have HCA:=Lib.hid (HIH.out u S A' c' (wr.alloc (.cells #[.int .i64 u.k,.int .i64 u.n,.int .i64 u.m,.slice A' u.kids.length c'] 25)) ((hru.later HI.out hBW).keep (Keeps.below (HI.out.more hBW.size) hbx)) (HI.out.more (Nat.le_trans hBW.size hbx.size)) (by have:=HST.out; omega))
     have HBX:=Lib.hid hbx
     have HU:=Lib.hid hu
     have hij:(0:Int)≤j∧(j:Int) < len:=⟨by omega,by omega⟩
     clear hcells hru hu hsu hbx hb
     go_wp2_with (first
      | (refine wpList_load_mid rfl 25 (.tmp 20) rfl b (off + j * 4) rfl [.int .i64 u.k,.int .i64 u.n,.int .i64 u.m,.slice A' u.kids.length c'] _ HCL.out Tryd.underlying25 rfl (by rw [size_node]; rfl) ?_)
      | (refine wpList_store_new rfl 25 (.tmp 5) (.tmp 21) rfl wr _ _ rfl rfl (by rw [size_node]; rfl) rfl rfl ?_)
      | (refine wpList_load_mid rfl 25 (.tmp 5) rfl wr.heap.size 0 rfl [.int .i64 u.k,.int .i64 u.n,.int .i64 u.m,.slice A' u.kids.length c'] _ HC6.out Tryd.underlying25 rfl (by rw [size_node]; rfl) ?_)
      | (go_at_call 61; refine HCA.out.mono ?_; rintro e w5 ⟨A5,c5,rfl,hr5,hb5⟩; have HR5:=Lib.hid hr5; have HB5:=Lib.hid hb5; have HY5:=Lib.hid ((HY.out.below HBX.out HY.out.lt).below hb5 (Nat.lt_of_lt_of_le HY.out.lt HBX.out.size)); clear hr5 hb5)
      | (refine wpList_store_seg _ rfl 25 (.tmp 26) (.tmp 25) rfl (w.heap.size + 2) (j * 4) (nd u A5 c5) rfl rfl 25 ys HY5.out (by rw [size_node]; rfl) (by rw [nd_length,HYL.out]; omega) (nd_one u A5 c5) ?_; intro w6 hw6; have HW6:=Lib.hid hw6; clear hw6))
     have hsx:=size_alloc wr (.cells #[.int .i64 u.k,.int .i64 u.n,.int .i64 u.m,.slice A' u.kids.length c'] 25)
     have hs5:=HB5.out.size
     have hs6:w6.heap.size = w5.heap.size:=by rw [HW6.out,size_setRow]
     have hk:∀ b,w.heap.size + 2 + 1≤b→b < wr.heap.size→w6.heap[b]? = wr.heap[b]?:=fun b hb1 hb2=>by
      rw [HW6.out]
      exact (setRow_other w5 _ _ b (by omega)).trans ((HB5.out.block b (by omega)).trans (HBX.out.block b hb2))
     have hr6:Lin w6 d wr.heap.size w6.heap.size u (nd u A5 c5):=by
      refine Lin.mono (by omega) (Nat.le_of_eq hs6.symm) (Lin.keep (w:=w5) ?_ HR5.out)
      intro b hb1 hb2
      rw [HW6.out]
      exact setRow_other w5 _ _ b (by omega)
     obtain ⟨hp1,hp2⟩:=Lins.put HR.out HU.out (by rw [HYL.out,HL.out]) hk hr6 (by omega)
     go_roundw
     case rel =>
      refine ⟨j + 1,seg ys (j * 4) (nd u A5 c5),by omega,by go_num,by rw [HW6.out]; exact HY5.out.setRow _,by rw [HL.out]; exact hp1,hp2,?_⟩
      have h5:Below (w.heap.size + 2) w3 w5:=(HBW.out.trans (HBX.out.mono (by omega))).trans (HB5.out.mono (by omega))
      rw [HW6.out]
      exact below_setRow h5 (Nat.le_refl _) _
     case measure=>simp [intOf]; omega
    ·have hjl:j = len:=by omega
     have hX:=HX3.out.below HBW.out (Nat.lt_add_of_pos_right (by omega))
     have hO:=HO3.out.below HBW.out (Nat.lt_succ_self _)
     have hx3:=hX.cell 3
     have hf3:=hX.frozen 3
     have hX2:=hX.set_ 3 (.slice (some ⟨w.heap.size + 1 + 1,0,none⟩) len len)
     simp only [List.setIfInBounds_toArray,List.set_cons_succ,List.set_cons_zero] at hX2
     have hO2:=hO.far (p:=⟨w.heap.size,3,none⟩) (by show w.heap.size + 1≠w.heap.size; omega) (.slice (some ⟨w.heap.size + 1 + 1,0,none⟩) len len)
     have HX2:=Lib.hid hX2
     have HO2:=Lib.hid hO2
     have hrs:Lins wr d (w.heap.size + 2 + 1) wr.heap.size t.kids ys:=by
      have h:=HR.out
      rw [hjl,HL.out,List.take_length,List.take_of_length_le (by rw [HYL.out,HL.out]; exact Nat.le_refl _)] at h
      exact h
     have HRS:=Lib.hid hrs
     clear hX hX2 hO hO2 hjl hrs
     go_wp2_with (first
      | (refine wpList_load_mid rfl 25 (.tmp 1) rfl w.heap.size 0 rfl [.int .i64 t.k,.int .i64 t.n,.int .i64 t.m,.slice (some ⟨w.heap.size + 1 + 1,0,none⟩) len len] _ (fun i y hy=>by rw [HX2.out.cell (0 + i),Nat.zero_add]; simpa using hy) Tryd.underlying25 rfl (by rw [size_node]; rfl) ?_)
      | (refine wpList_store_row rfl 25 (.tmp 2) (.tmp 30) rfl (w.heap.size + 1) #[.int .i64 t.k,.int .i64 t.n,.int .i64 t.m,.slice (some ⟨w.heap.size + 1 + 1,0,none⟩) len len] rfl rfl 25 #[.int .i64 0,.int .i64 0,.int .i64 0,.slice none 0 0] HO2.out (by rw [size_node]; rfl) rfl (by simp [Value.oneCell']) ?_))
     have HRW:=Lib.hid (HO2.out.setRow #[.int .i64 t.k,.int .i64 t.n,.int .i64 t.m,.slice (some ⟨w.heap.size + 1 + 1,0,none⟩) len len])
     have r0:=HRW.out.cell 0
     have r1:=HRW.out.cell 1
     have r2:=HRW.out.cell 2
     have r3:=HRW.out.cell 3
     simp only [List.getElem?_toArray,List.getElem?_cons_zero,List.getElem?_cons_succ] at r0 r1 r2 r3
     have hfs:((wr.setCell ⟨w.heap.size,3,none⟩ (.slice (some ⟨w.heap.size + 1 + 1,0,none⟩) len len)).setRow (w.heap.size + 1) #[.int .i64 t.k,.int .i64 t.n,.int .i64 t.m,.slice (some ⟨w.heap.size + 1 + 1,0,none⟩) len len]).heap.size = wr.heap.size:=by
      rw [size_setRow]
      show (wr.heap.modify _ _).size = _
      rw [Array.size_modify]
     have hkf:Keeps (fun b=>w.heap.size + 2≤b∧b < wr.heap.size) wr ((wr.setCell ⟨w.heap.size,3,none⟩ (.slice (some ⟨w.heap.size + 1 + 1,0,none⟩) len len)).setRow (w.heap.size + 1) #[.int .i64 t.k,.int .i64 t.n,.int .i64 t.m,.slice (some ⟨w.heap.size + 1 + 1,0,none⟩) len len]):=fun b hb =>
      (setRow_other _ _ _ b (by omega)).trans (Below.heap_setCell wr ⟨w.heap.size,3,none⟩ _ b (by show b≠w.heap.size; omega))
     refine bodyPost_ret (v:=.agg #[.int .i64 t.k,.int .i64 t.n,.int .i64 t.m,.slice (some ⟨w.heap.size + 1 + 1,0,none⟩) len len]) (by simp [results,Tryd.results61,go_sem,r0,r1,r2,r3]) rfl ⟨some ⟨w.heap.size + 1 + 1,0,none⟩,len,by rw [← HL.out],?_,?_⟩
     ·have hm:=Lin.mk (w:=(wr.setCell ⟨w.heap.size,3,none⟩ (.slice (some ⟨w.heap.size + 1 + 1,0,none⟩) len len)).setRow (w.heap.size + 1) #[.int .i64 t.k,.int .i64 t.n,.int .i64 t.m,.slice (some ⟨w.heap.size + 1 + 1,0,none⟩) len len]) (ts:=t.kids) (lo:=w.heap.size) (hi:=wr.heap.size) (c:=len) HRG.out (by rw [HL.out]; exact Nat.le_refl _) ((hkf (w.heap.size + 2) ⟨Nat.le_refl _,HY.out.lt⟩).trans HY.out) (Nat.le_add_right _ _) (HRS.out.keep fun b hb1 hb2=>hkf b ⟨by omega,hb2⟩)
      rw [hfs]
      exact hm
     ·exact below_setRow ((HB3.out.trans (HBW.out.mono (Nat.le_add_right _ _))).setCell (Nat.le_refl _) _) (Nat.le_succ _) _
theorem MadeL.made {t:T} {d:Nat} {w w':World} {e:Ending} (h:MadeL t d w e w'):MadeT t d w e w':=by
 obtain ⟨A',c',he,hl,hb⟩:=h
 exact ⟨A',c',he,hl.rep,hb⟩
end Go.Proofs.YtkkenbalpnmfmaaDoor

namespace Go.Proofs.YtkkenbalpnmfmaaDoor.TR
theorem at_none (q r:List Int) (i:Int):∀ (t u:T),at? q t = some u→(i < 0∨(u.kids.length:Int)≤i)→at? (q ++ i :: r) t = none:=by
 induction q with
 | nil =>
  intro t u h hi
  simp only [at?,Option.some.injEq] at h
  subst h
  simp only [List.nil_append,at?]
  rcases hi with hi | hi
  ·rw [if_pos hi]
  ·by_cases h0:i < 0
   ·rw [if_pos h0]
   ·rw [if_neg h0,List.getElem?_eq_none (by omega)]
 | cons i' q ih =>
  intro t u h hi
  simp only [List.cons_append,at?] at h ⊢
  split at h
  ·cases h
  ·rename_i hi'
   rw [if_neg hi']
   cases hk:t.kids[i'.toNat]? with
   | none=>rfl
   | some v=>rw [hk] at h; exact ih v u h hi
end Go.Proofs.YtkkenbalpnmfmaaDoor.TR
namespace Go.Proofs.YtkkenbalpnmfmaaDoor
open Go.RowKit WM TR

theorem split_at {α:Type} {l:List α} {k:Nat} {x:α} (h:l[k]? = some x):l = l.take k ++ x :: l.drop (k + 1):=by
 obtain ⟨hk,e⟩:=List.getElem?_eq_some_iff.1 h
 have h1:=List.drop_eq_getElem_cons hk
 rw [e] at h1
 rw [← h1,List.take_append_drop]

def Step (w:World) (t:T) (Fnd:List Int→T→Nat→Nat→Prop):Prop :=
 ∀ q u b o,Fnd q u b o→at? q t = some u∧∃ A c,(∀ i v,(nd u A c)[i]? = some v→w.cell? ⟨b,o + i,none⟩ = some v) ∧
  ∀ (j:Nat) k,u.kids[j]? = some k→∃ g off,A = some ⟨g,off,none⟩∧Fnd (q ++ [(j:Int)]) k g (off + j * 4)

def FindPost (t:T) (p:List Int) (Fnd:List Int→T→Nat→Nat→Prop) (w:World) (e:Ending) (w':World):Prop :=
 w = w'∧((at? p t = none∧e = .returned (.pointer none))∨∃ u b o,Fnd p u b o∧e = .returned (.pointer (some ⟨b,o,none⟩)))

set_option maxRecDepth 100000 in
set_option maxHeartbeats 4000000 in
theorem find_is (w : World) (t : T) (Fnd : List Int → T → Nat → Nat → Prop) (hst : Step w t Fnd) (b0 : Nat) (h0 : Fnd [] t b0 0) (p : List Int) (S : Nat → Prop) (P : Option Addr) (pc : Nat) (hp : Rd w S 1 P p.length (vi p)) (hpc : p.length ≤ pc) (hpl : p.length ≤ 9223372036854775807) :
  Calls Tryd.prog 60 #[.pointer (some ⟨b0,0,none⟩),.slice P p.length pc] w (FindPost t p Fnd w):=by
 obtain ⟨n,hn⟩:∃ n,n = p.length:=⟨_,rfl⟩
 have HP:=Lib.hid hp
 have HN:=Lib.hid hn
 have HST:=Lib.hid hst
 have H0:=Lib.hid h0
 rw [← hn] at hpc hpl ⊢
 clear hp hn hst h0
 go_enter Tryd.func60,Tryd.ntmps60
 go_wp2_with fail
 go_loopw [0,9] (fun x i wr=>∃ (k:Nat) (u:T) (b o:Nat),k≤n∧x = .pointer (some ⟨b,o,none⟩)∧i = .int .i64 k∧Hid (Fnd (p.take k) u b o)∧Hid (wr = w)) (fun _ i _=>n - (intOf i).toNat)
 case atStart=>exact ⟨0,t,b0,0,Nat.zero_le _,rfl,rfl,by rw [List.take_zero]; exact H0,rfl⟩
 case round =>
  obtain ⟨k,u,b,o,hk,rfl,rfl,HF,HW⟩:=hrel
  by_cases hlt:k < n
  ·obtain ⟨i,hi⟩:∃ i,p[k]? = some i:=⟨_,List.getElem?_eq_getElem (by rw [← HN.out]; exact hlt)⟩
   obtain ⟨bp,op,hP,_,hcell⟩:=HP.out.lit (by rw [← HN.out]; omega)
   subst hP
   have hw:=HW.out
   subst hw
   have hci:wr.cell? ⟨bp,op + k,none⟩ = some (.int .i64 i):=hcell k _ (by simp [vi,hi])
   obtain ⟨hat,A,c,hcs,hkid⟩:=HST.out _ _ _ _ HF.out
   have hc3:wr.cell? ⟨b,o + 3,none⟩ = some (.slice A u.kids.length c):=hcs 3 _ rfl
   have hpk:=split_at hi
   have hij:(0:Int)≤k∧(k:Int) < n:=⟨by omega,by omega⟩
   obtain ⟨len,hlen⟩:∃ len,len = u.kids.length:=⟨_,rfl⟩
   have HLEN:=Lib.hid hlen
   rw [← hlen] at hc3
   have HPK:=Lib.hid hpk
   have HAT:=Lib.hid hat
   have HKD:=Lib.hid hkid
   have HI:=Lib.hid hi
   clear hcs hkid hat hpk hlen hi hcell
   by_cases hneg:i < 0
   ·have hnone:at? p t = none:=by rw [HPK.out]; exact at_none _ _ _ _ _ HAT.out (.inl hneg)
    have HNO:=Lib.hid hnone
    have hd:decide (i < 0) = true:=by simpa using hneg
    clear hnone
    go_wp2_with fail
    go_ret
    exact ⟨rfl,.inl ⟨HNO.out,rfl⟩⟩
   ·by_cases hge:(len:Int)≤i
    ·have hnone:at? p t = none:=by rw [HPK.out]; exact at_none _ _ _ _ _ HAT.out (.inr (by rw [← HLEN.out]; exact hge))
     have HNO:=Lib.hid hnone
     have hd:decide (i < 0) = false:=by simpa using hneg
     have hd2:decide ((len:Int)≤i) = true:=by simpa using hge
     clear hnone
     go_wp2_with fail
     go_ret
     exact ⟨rfl,.inl ⟨HNO.out,rfl⟩⟩
    ·obtain ⟨j,rfl⟩:=Int.eq_ofNat_of_zero_le (show 0≤i by omega)
     obtain ⟨k2,hk2⟩:∃ k2,u.kids[j]? = some k2:=⟨_,List.getElem?_eq_getElem (by rw [← HLEN.out]; omega)⟩
     obtain ⟨g,off,hA,hf2⟩:=HKD.out j k2 hk2
     subst hA
     have hd:decide ((j:Int) < 0) = false:=by simp
     have hd2:decide ((len:Int)≤j) = false:=by simp; omega
     have hjj:(0:Int)≤j∧(j:Int) < len:=⟨by omega,by omega⟩
     have HF2:Hid (Fnd (p.take (k + 1)) k2 g (off + j * 4)):=Lib.hid (by rw [List.take_add_one,HI.out]; exact hf2)
     clear hf2 hk2
     go_wp2_with fail
     go_roundw
     case rel=>exact ⟨k + 1,k2,g,off + j * 4,by omega,rfl,by go_num,HF2.out,by first | exact Lib.hid rfl | exact Lib.hid trivial⟩
     case measure=>simp [intOf]; omega
  ·have hkn:k = n:=by omega
   have HF2:Hid (Fnd p u b o):=Lib.hid (by
    have h:=HF.out
    rw [hkn,HN.out,List.take_length] at h
    exact h)
   clear hkn HF
   go_wp2_with fail
   go_ret
   exact ⟨HW.out.symm,.inr ⟨u,b,o,HF2.out,rfl⟩⟩
end Go.Proofs.YtkkenbalpnmfmaaDoor

namespace Go.Proofs.YtkkenbalpnmfmaaDoor
open Go.RowKit WM TR

def FndR (w:World) (S:Nat→Prop) (t:T) (q:List Int) (u:T) (b o:Nat):Prop :=
 at? q t = some u∧∃ A c D,(∀ i v,(nd u A c)[i]? = some v→w.cell? ⟨b,o + i,none⟩ = some v)∧Rep w S D u (nd u A c)
theorem step_rep (w:World) (S:Nat→Prop) (t:T):Step w t (FndR w S t):=by
 rintro q u b o ⟨h1,A,c,D,hc,hr⟩
 refine ⟨h1,A,c,hc,fun j k hk=>?_⟩
 cases D with
 | zero=>exact hr.elim
 | succ D =>
  obtain ⟨g,off,A',c',hA,_,hcl,hrk⟩:=hr.kid hk
  exact ⟨g,off,hA,by rw [at_snoc q j t u h1,hk],A',c',D,hcl,hrk⟩

def AtMade (o:Option T) (w:World) (e:Ending) (w':World):Prop :=
 ∃ u A' c' D,o.getD zeroT = u∧e = .returned (.tuple #[.agg #[.int .i64 u.k,.int .i64 u.n,.int .i64 u.m,.slice A' u.kids.length c'],.bool o.isSome])∧Rep w' (fun b=>w.heap.size≤b∧b < w'.heap.size) D u (nd u A' c')∧Below w.heap.size w w'
end Go.Proofs.YtkkenbalpnmfmaaDoor
