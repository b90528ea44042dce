/- Texts joined. -/
import Derived.RangeFuncNested
import Derived.RangeFuncBound
import Derived.RangeFuncCalls
import Derived.RangeFuncLeaves
import Derived.WalkKit
import Derived.Test.YtkkenbalpnmfmaaDoorJ33
import Derived.WalkSmall
import Derived.OwnWalkIn
import Derived.TacticsInMore
import Derived.Deep.MidRow
import Derived.Deep.RegionHeldLaw
import Derived.OrdersIn
import Derived.Test.YtkkenbalpnmfmaaDoorJ05
import Derived.Laws.EntriesVeiled
import Derived.Shelf.Abstract
set_option linter.unusedVariables false
namespace Go.Proofs.YtkkenbalpnmfmaaDoor
open Go.RowKit

structure Stay (S:Nat→Prop) (W W':World):Prop where
  os:W'.os = W.os
  tape:W'.tape = W.tape
  output:W'.output = W.output
  size:W.heap.size≤W'.heap.size
  same:∀ b,S b→W'.heap[b]? = W.heap[b]?
structure Mov (S:Nat→Prop) (W:World) (S':Nat→Prop) (W':World):Prop where
  os:W'.os = W.os
  tape:W'.tape = W.tape
  output:W'.output = W.output
  size:W.heap.size≤W'.heap.size
  same:∀ b,b < W.heap.size→¬ S b→W'.heap[b]? = W.heap[b]?
  more:∀ b,S b→S' b
  new:∀ b,S' b→S b∨(W.heap.size≤b∧b < W'.heap.size)
structure Off (l:Nat) (W W':World):Prop where
  os:W'.os = W.os
  tape:W'.tape = W.tape
  output:W'.output = W.output
  size:W'.heap.size = W.heap.size
  same:∀ b,b≠l→W'.heap[b]? = W.heap[b]?

theorem Mov.refl (S:Nat→Prop) (W:World):Mov S W S W:=⟨rfl,rfl,rfl,Nat.le_refl _,fun _ _ _=>rfl,fun _ h=>h,fun _ h=>.inl h⟩
theorem Mov.trans {S S' S'':Nat→Prop} {A B C:World} (h:Mov S A S' B) (k:Mov S' B S'' C):Mov S A S'' C :=
  ⟨k.os.trans h.os,k.tape.trans h.tape,k.output.trans h.output,Nat.le_trans h.size k.size,
   fun b hb hn=>(k.same b (Nat.lt_of_lt_of_le hb h.size) (fun h'=>(h.new b h').elim hn (fun h2=>by omega))).trans (h.same b hb hn),
   fun b hb=>k.more b (h.more b hb),
   fun b hb=>(k.new b hb).elim (fun h'=>(h.new b h').imp id (fun h2=>⟨h2.1,Nat.lt_of_lt_of_le h2.2 k.size⟩)) (fun h2=>.inr ⟨Nat.le_trans h.size h2.1,h2.2⟩)⟩
theorem Mov.in_ {S S':Nat→Prop} {A B:World} (h:Mov S A S' B) (hS:∀ b,S b→b < A.heap.size):∀ b,S' b→b < B.heap.size :=
  fun b hb=>(h.new b hb).elim (fun h'=>Nat.lt_of_lt_of_le (hS b h') h.size) (fun h2=>h2.2)
theorem Mov.below {S S':Nat→Prop} {A B:World} {n:Nat} (h:Mov S A S' B) (hn:n≤A.heap.size) (hS:∀ b,S b→n≤b):Below n A B :=
  ⟨h.os,h.tape,h.output,h.size,fun b hb=>h.same b (by omega) (fun h'=>by have:=hS b h'; omega)⟩
theorem Mov.of_below {S:Nat→Prop} {A B:World} (h:Below A.heap.size A B):Mov S A S B :=
  ⟨h.os,h.tape,h.output,h.size,fun b hb _=>h.block b hb,fun _ hb=>hb,fun _ hb=>.inl hb⟩
theorem Mov.own {S:Nat→Prop} {A B:World} (h:Below A.heap.size A B):Mov S A (fun b=>S b∨(A.heap.size≤b∧b < B.heap.size)) B :=
  ⟨h.os,h.tape,h.output,h.size,fun b hb _=>h.block b hb,fun _ hb=>.inl hb,fun _ hb=>hb⟩
theorem Mov.setCell {S:Nat→Prop} (A:World) (p:Addr) (u:Value) (hp:S p.block):Mov S A S (A.setCell p u) :=
  ⟨rfl,rfl,rfl,by show A.heap.size≤(A.heap.modify _ _).size; rw [Array.size_modify]; exact Nat.le_refl _,
   fun b _ hn=>Below.heap_setCell A p u b (fun e=>hn (by rw [e]; exact hp)),fun _ h=>h,fun _ h=>.inl h⟩
theorem Stay.sub {S S':Nat→Prop} {A B:World} (h:Stay S A B) (hs:∀ b,S' b→S b):Stay S' A B:=⟨h.os,h.tape,h.output,h.size,fun b hb=>h.same b (hs b hb)⟩
theorem Stay.cell {S:Nat→Prop} {A B:World} (h:Stay S A B) {p:Addr} (hp:S p.block):B.cell? p = A.cell? p:=World.cell?_of_block (h.same _ hp)
theorem Stay.frozen {S:Nat→Prop} {A B:World} (h:Stay S A B) {p:Addr} (hp:S p.block):B.frozen? p = A.frozen? p:=World.frozen?_of_block (h.same _ hp)
theorem Off.putObj (W:World) (l:Nat) (o:Obj):Off l W (W.putObj l o):=⟨rfl,rfl,rfl,by simp,fun _ hb=>World.putObj_heap_other hb⟩
theorem Off.mov {l:Nat} {S:Nat→Prop} {A B:World} (h:Off l A B) (hl:S l):Mov S A S B :=
  ⟨h.os,h.tape,h.output,by rw [h.size]; exact Nat.le_refl _,fun b _ hn=>h.same b (fun e=>hn (by rw [e]; exact hl)),fun _ h=>h,fun _ h=>.inl h⟩
theorem Off.stay {l:Nat} {S:Nat→Prop} {A B:World} (h:Off l A B) (hl:¬ S l):Stay S A B :=
  ⟨h.os,h.tape,h.output,by rw [h.size]; exact Nat.le_refl _,fun b hb=>h.same b (fun e=>hl (by rw [← e]; exact hb))⟩

def Abide {α:Type} (J:List α→(Nat→Prop)→World→Prop):Prop:=∀ pre S W W',J pre S W→Stay S W W'→J pre S W'
def With (S:Nat→Prop) (D b:Nat):Prop:=S b∨b = D∨b = D + 1

def SeqT {α:Type} (F:Fence) (n:Nat) (P:Program) (g:Nat) (lb:Array Value) (R:Nat→Prop) (At:α→Array Value→(Nat→Prop)→World→Prop) (xs:List α) (w:World):Prop :=
  ∀ (l:Nat) (J Jx:List α→(Nat→Prop)→World→Prop) (S:Nat→Prop) (W:World),Below w.heap.size w W→(∀ b,S b→b < W.heap.size∧¬ R b)→Abide J→Abide Jx →
    (∀ pre x vs S1 W1,J pre S1 W1→pre ++ [x] <+: xs→At x vs S1 W1→Mov S W S1 W1→YieldAt F (n - 1) P l vs W1 fun e W' =>
      ∃ S',Mov S1 W1 S' W'∧((e = .returned (.bool true)∧J (pre ++ [x]) S' W')∨(e = .returned (.bool false)∧Jx (pre ++ [x]) S' W'))) →
    J [] S W →
    CallsIn F n P g (#[.func (.yield l) #[] #[]] ++ lb) W fun e W'=>(∃ v,e = .returned v)∧∃ S',Mov S W S' W'∧(J xs S' W'∨∃ pre,pre <+: xs∧Jx pre S' W')

def tPost {α:Type} (I:List α→(Nat→Prop)→World→Prop) (Ix:Code→List α→(Nat→Prop)→World→Prop) (xs:List α) (S:Nat→Prop) (W:World):Exit→Act→World→Prop
  | .normal,_,W'=>∃ S',Mov S W S' W'∧I xs S' W'
  | .ret,_,W'=>∃ S',Mov S W S' W'∧Ix .ret xs S' W'
  | .exit id,_,W'=>∃ S',Mov S W S' W'∧Ix (.exit id) xs S' W'
  | .goto t,_,W'=>∃ S',Mov S W S' W'∧Ix (.goto t) xs S' W'
  | .panic _,_,_=>False
  | .outgrown,_,_=>False

variable {F:Fence} {n:Nat} {P:Program}

theorem wpIn_range_T {α : Type} {g : Operand} {ps : Array Tmp} {assign body : Code} {Q : Exit → Act → World → Prop} {a : Act} {w : World}
    (hro:F.round = none) (h1:1≤n) {gf:Nat} {lb:Array Value} (hg:a.eval g = .func (.func gf) #[] lb) (hFg:F.fn gf) (eg:∀ args w,(callFunc gf args).run P w = .ok (.enter gf args) w)
    {R:Nat→Prop} {At:α→Array Value→(Nat→Prop)→World→Prop} {xs:List α} {w0:World} (hseq:SeqT F (n - 1) P gf lb R At xs w0) (hb0:Below w0.heap.size w0 w)
    (hps:∀ x vs S W,At x vs S W→vs.size = ps.size) (hR:∀ b,R b→b < w.heap.size)
    (I:List α→(Nat→Prop)→World→Prop) (Ix:Code→List α→(Nat→Prop)→World→Prop) (hI:Abide I) (hIx:∀ c,Abide (Ix c))
    (S0:Nat→Prop) (hS0:∀ b,S0 b→b < w.heap.size∧¬ R b) (h0:I [] S0 w)
    (hround:∀ (pre:List α) (x:α) (vs:Array Value) (S:Nat→Prop) (W:World),I pre S W→pre ++ [x] <+: xs→At x vs (With S w.heap.size) W→Mov S0 w S W→w.heap.size + 1 < W.heap.size→¬ S w.heap.size→¬ S (w.heap.size + 1) →
      assign.wpIn (F.inRound (w.heap.size + 1)) (n - 1 - 1) P (Exit.then (fun a1 W1=>∃ S1,Mov S W S1 W1∧∀ W2,Off (w.heap.size + 1) W1 W2→body.wpIn (F.inRound (w.heap.size + 1)) (n - 1 - 1) P (tPost I Ix (pre ++ [x]) S1 W2) a1 W2) (fun _ _ _=>False))
        { tmps:=(ps.zip vs).foldl (fun t (p,v)=>t.setIfInBounds p v) a.tmps,defers:=[] } W)
    (hdone:∀ (S:Nat→Prop) (W:World),Mov S0 w S W→¬ S w.heap.size→I xs S W→W.heap[w.heap.size]? = some (.deferred (some []))→Q .normal { a with defers:={ target:=.collected w.heap.size,args:=#[] } :: a.defers } W)
    (hstop:∀ (c:Code) (pre:List α) (S:Nat→Prop) (W:World),Mov S0 w S W→¬ S w.heap.size→pre <+: xs→Ix c pre S W→W.heap[w.heap.size]? = some (.deferred (some []))→c.wpIn F n P Q { a with defers:={ target:=.collected w.heap.size,args:=#[] } :: a.defers } W) :
    (Code.rangeFunc g ps assign body).wpIn F n P Q a w:=by
  refine wpIn_rangeFunc ?_
  intro fn hfn
  rw [hro]
  obtain ⟨rec,hrec⟩:∃ rec:LoopState→Option Code→Loop,rec = fun st pe=>{ state:=st,pending:=pe,fn,tmps:=a.tmps,params:=ps,assign,body,defers:=w.heap.size }:=⟨_,rfl⟩
  obtain ⟨W1,hW1⟩:∃ W1,(w.alloc (.deferred (some []))).alloc (.loop (rec .ready none)) = W1:=⟨_,rfl⟩
  have hL1:W1.heap[w.heap.size + 1]? = some (.loop (rec .ready none)):=by
    rw [← hW1]; have:=World.alloc_heap_new (w.alloc (.deferred (some []))) (.loop (rec .ready none)); rwa [World.size_alloc] at this
  have hK1:W1.heap[w.heap.size]? = some (.deferred (some [])):=by
    rw [← hW1]; exact (Below.heap_alloc _ _ _ (by simp)).trans (World.alloc_heap_new w _)
  have hB1:Below w.heap.size w W1:=by
    rw [← hW1]; exact ((Below.refl _ w).alloc (Nat.le_refl _) _).alloc (by simp) _
  have hz1:W1.heap.size = w.heap.size + 2:=by rw [← hW1]; simp
  have hI1:I [] S0 W1:=hI _ _ _ _ h0 ⟨hB1.os,hB1.tape,hB1.output,hB1.size,fun b hb=>hB1.block b (hS0 b hb).1⟩
  have hb1:Below w0.heap.size w0 W1:=hb0.trans (hB1.mono hb0.size)
  have hm1:Mov (With S0 w.heap.size) w (With S0 w.heap.size) W1:=Mov.of_below hB1
  have hcut:∀ (S:Nat→Prop) (W:World),¬ S w.heap.size→¬ S (w.heap.size + 1)→Mov (With S0 w.heap.size) W1 (With S w.heap.size) W→Mov S0 w S W:=fun S W hn1 hn2 hm =>
    ⟨hm.os.trans hB1.os,hm.tape.trans hB1.tape,hm.output.trans hB1.output,Nat.le_trans hB1.size hm.size,
     fun b hb hn=>(hm.same b (by omega) (fun h=>by rcases h with h | h | h; exact hn h; omega; omega)).trans (hB1.block b hb),
     fun b hb=>by
       rcases hm.more b (.inl hb) with h | h | h
       · exact h
       · have:=(hS0 b hb).1; omega
       · have:=(hS0 b hb).1; omega,
     fun b hb=>by
       rcases hm.new b (.inl hb) with (h | h | h) | h
       · exact .inl h
       · subst h; exact absurd hb hn1
       · subst h; exact absurd hb hn2
       · exact .inr ⟨by omega,h.2⟩⟩
  refine ⟨w.heap.size + 1,[{ target:=.collected w.heap.size,args:=#[] }],W1,{ target:=.fn (.func gf) lb,args:=#[.func (.yield (w.heap.size + 1)) #[] #[]] },W1,gf,
    #[.func (.yield (w.heap.size + 1)) #[] #[]] ++ lb,W1,?_,?_,?_,?_,fun _=>h1,?_⟩
  · rw [← hW1,hrec]; exact run_enterLoop_outer _ _ _ _ _
  · simp only [resolve,hg]
    simp [go_sem]
  · intro f' hf'; simp [Target.leads] at hf'; subst hf'; exact hFg
  · simp [invoke,go_sem,eg]
  · refine (hseq (w.heap.size + 1)
      (fun pre Si W=>∃ S,Si = With S w.heap.size∧¬ S w.heap.size∧¬ S (w.heap.size + 1)∧I pre S W∧W.heap[w.heap.size + 1]? = some (.loop (rec .ready none))∧W.heap[w.heap.size]? = some (.deferred (some [])))
      (fun pre Si W=>∃ S c,Si = With S w.heap.size∧¬ S w.heap.size∧¬ S (w.heap.size + 1)∧Ix c pre S W∧W.heap[w.heap.size + 1]? = some (.loop (rec .done (some c)))∧W.heap[w.heap.size]? = some (.deferred (some [])))
      (With S0 w.heap.size) W1 hb1 ?_ ?_ ?_ ?_ ?_).mono ?_
    · rintro b (h | h | h)
      · exact ⟨by have:=(hS0 b h).1; omega,(hS0 b h).2⟩
      · exact ⟨by omega,fun hr=>by have:=hR b hr; omega⟩
      · exact ⟨by omega,fun hr=>by have:=hR b hr; omega⟩
    · rintro pre Si A B ⟨S,rfl,hn1,hn2,hi,hl,hk⟩ hst
      exact ⟨S,rfl,hn1,hn2,hI _ _ _ _ hi (hst.sub (fun b hb=>.inl hb)),(hst.same _ (.inr (.inr rfl))).trans hl,(hst.same _ (.inr (.inl rfl))).trans hk⟩
    · rintro pre Si A B ⟨S,c,rfl,hn1,hn2,hi,hl,hk⟩ hst
      exact ⟨S,c,rfl,hn1,hn2,hIx c _ _ _ _ hi (hst.sub (fun b hb=>.inl hb)),(hst.same _ (.inr (.inr rfl))).trans hl,(hst.same _ (.inr (.inl rfl))).trans hk⟩
    · -- ONE ROUND
      rintro pre x vs Si W ⟨S,rfl,hn1,hn2,hi,hl,hk⟩ hpre hat hmw
      have hlt:w.heap.size + 1 < W.heap.size:=(Array.getElem?_eq_some_iff.1 hl).1
      have hy:=run_yield (P:=P) (args:=vs) hl (by rw [hrec]; exact hps x vs _ _ hat)
      rw [hrec] at hy
      have hm0:Mov S0 w S W:=hcut S W hn1 hn2 hmw
      refine ⟨fn,_,assign,body,hy,roundIn_of_wpIn hfn (wpIn_mono (hround pre x vs S W hi hpre hat hm0 hlt hn1 hn2) ?_)⟩
      clear hy
      rintro e a1 Wa hp
      cases e with
      | normal =>
        obtain ⟨S1,hma,hbody⟩:=hp
        have hn1a:¬ S1 w.heap.size:=fun h=>(hma.new _ h).elim hn1 (fun h2=>by omega)
        have hn2a:¬ S1 (w.heap.size + 1):=fun h=>(hma.new _ h).elim hn2 (fun h2=>by omega)
        replace hl:=(hma.same _ (by omega) hn2).trans hl
        replace hk:=(hma.same _ (by omega) hn1).trans hk
        have hlta:w.heap.size + 1 < Wa.heap.size:=(Array.getElem?_eq_some_iff.1 hl).1
        refine ⟨_,run_beginRound hl (by rw [hrec]),?_⟩
        have hoff:=Off.putObj Wa (w.heap.size + 1) (.loop { rec .ready none with state:=.busy })
        have hl2:(Wa.putObj (w.heap.size + 1) (.loop { rec .ready none with state:=.busy })).heap[w.heap.size + 1]? = some (.loop { rec .ready none with state:=.busy }):=World.putObj_heap_same hlta
        have hk2:(Wa.putObj (w.heap.size + 1) (.loop { rec .ready none with state:=.busy })).heap[w.heap.size]? = some (.deferred (some [])):=(World.putObj_heap_other (by omega)).trans hk
        refine wpIn_mono (hbody _ hoff) ?_
        obtain ⟨W2,hW2⟩:∃ W2,Wa.putObj (w.heap.size + 1) (.loop { rec .ready none with state:=.busy }) = W2:=⟨_,rfl⟩
        rw [hW2] at hoff hl2 hk2 ⊢
        have hsz2:=hoff.size
        have fin : ∀ (jump : Option Code) (S2 : Nat → Prop) (W3 : World), Mov S1 W2 S2 W3 → ∃ W4,
            (Instr.endRound (w.heap.size + 1) jump).run P W3 = .ok (.bool jump.isNone) W4∧¬ S2 w.heap.size∧¬ S2 (w.heap.size + 1)∧Stay S2 W3 W4∧Mov (With S w.heap.size) W (With S2 w.heap.size) W4 ∧
            W4.heap[w.heap.size + 1]? = some (.loop (rec (if jump.isNone then .ready else .done) jump)) ∧
            W4.heap[w.heap.size]? = some (.deferred (some [])):=fun jump S2 W3 hm3=>by
          have hn1b:¬ S2 w.heap.size:=fun h=>(hm3.new _ h).elim hn1a (fun h2=>by omega)
          have hn2b:¬ S2 (w.heap.size + 1):=fun h=>(hm3.new _ h).elim hn2a (fun h2=>by omega)
          have hl3:=(hm3.same _ (by omega) hn2a).trans hl2
          have hk3:=(hm3.same _ (by omega) hn1a).trans hk2
          have hlt3:=(Array.getElem?_eq_some_iff.1 hl3).1
          obtain ⟨W4,hrun,hoff4,hnew⟩:∃ W4,(Instr.endRound (w.heap.size + 1) jump).run P W3 = .ok (.bool jump.isNone) W4∧Off (w.heap.size + 1) W3 W4∧W4.heap[w.heap.size + 1]? = some (.loop (rec (if jump.isNone then .ready else .done) jump)) :=
            ⟨_,run_endRound (P:=P) jump hl3,Off.putObj _ _ _,by rw [World.putObj_heap_same hlt3,hrec]⟩
          have hz4:=hoff4.size
          refine ⟨W4,hrun,hn1b,hn2b,hoff4.stay hn2b,?_,hnew,(hoff4.same _ (by omega)).trans hk3⟩
          · have hw3:=hm3.size
            have hwa:=hma.size
            refine ⟨hoff4.os.trans (hm3.os.trans (hoff.os.trans hma.os)),hoff4.tape.trans (hm3.tape.trans (hoff.tape.trans hma.tape)),hoff4.output.trans (hm3.output.trans (hoff.output.trans hma.output)),by omega,fun b hb hn=>?_,fun b hb=>?_,fun b hb=>?_⟩
            · have hnS:¬ S b:=fun h=>hn (.inl h)
              have hnl:b≠w.heap.size + 1:=fun h=>hn (.inr (.inr h))
              exact (hoff4.same b hnl).trans ((hm3.same b (by omega) (fun h=>(hma.new b h).elim hnS (fun h2=>by omega))).trans ((hoff.same b hnl).trans (hma.same b hb hnS)))
            · rcases hb with h | h
              · exact .inl (hm3.more b (hma.more b h))
              · exact .inr h
            · rcases hb with h | h
              · rcases hm3.new b h with h | h
                · rcases hma.new b h with h | h
                  · exact .inl (.inl h)
                  · exact .inr ⟨h.1,by omega⟩
                · exact .inr ⟨by omega,by omega⟩
              · exact .inl (.inr h)
        rintro e a3 W3 hp
        cases e with
        | normal =>
          obtain ⟨S2,hm3,hi3⟩:=hp
          obtain ⟨W4,hr,hb1,hb2,hst,hm,hl4,hk4⟩:=fin none S2 W3 hm3
          exact ⟨_,W4,hr,With S2 w.heap.size,hm,.inl ⟨rfl,S2,rfl,hb1,hb2,hI _ _ _ _ hi3 hst,hl4,hk4⟩⟩
        | ret =>
          obtain ⟨S2,hm3,hi3⟩:=hp
          obtain ⟨W4,hr,hb1,hb2,hst,hm,hl4,hk4⟩:=fin (some .ret) S2 W3 hm3
          exact ⟨_,W4,hr,With S2 w.heap.size,hm,.inr ⟨rfl,S2,.ret,rfl,hb1,hb2,hIx _ _ _ _ _ hi3 hst,hl4,hk4⟩⟩
        | exit id =>
          obtain ⟨S2,hm3,hi3⟩:=hp
          obtain ⟨W4,hr,hb1,hb2,hst,hm,hl4,hk4⟩:=fin (some (.exit id)) S2 W3 hm3
          exact ⟨_,W4,hr,With S2 w.heap.size,hm,.inr ⟨rfl,S2,.exit id,rfl,hb1,hb2,hIx _ _ _ _ _ hi3 hst,hl4,hk4⟩⟩
        | goto t =>
          obtain ⟨S2,hm3,hi3⟩:=hp
          obtain ⟨W4,hr,hb1,hb2,hst,hm,hl4,hk4⟩:=fin (some (.goto t)) S2 W3 hm3
          exact ⟨_,W4,hr,With S2 w.heap.size,hm,.inr ⟨rfl,S2,.goto t,rfl,hb1,hb2,hIx _ _ _ _ _ hi3 hst,hl4,hk4⟩⟩
        | panic ch=>exact hp.elim
        | outgrown=>exact hp.elim
      | exit id=>exact hp.elim
      | goto t=>exact hp.elim
      | ret=>exact hp.elim
      | panic ch=>exact hp.elim
      | outgrown=>exact hp.elim
    · exact ⟨S0,rfl,fun h=>by have:=(hS0 _ h).1; omega,fun h=>by have:=(hS0 _ h).1; omega,hI1,hL1,hK1⟩
    · -- BEHIND THE ITERATOR
      rintro e W2 ⟨⟨v,rfl⟩,S',hm,(⟨S,rfl,hn1,hn2,hi,hl,hk⟩ | ⟨pre,hSp,S,c,rfl,hn1,hn2,hi,hl,hk⟩)⟩
      · have hm0:=hcut S W2 hn1 hn2 hm
        have hoff:=Off.putObj W2 (w.heap.size + 1) (.loop { rec .ready none with state:=.exhausted })
        have hz:=hoff.size
        refine ⟨none,_,by have:=run_endLoop (P:=P) hl (by rw [hrec]; simp); rw [hrec] at this; exact this,hdone S _ ?_ hn1 (hI _ _ _ _ hi (by rw [hrec] at hoff; exact hoff.stay hn2)) ((World.putObj_heap_other (by omega)).trans hk)⟩
        rw [hrec] at hoff hz
        exact ⟨hoff.os.trans hm0.os,hoff.tape.trans hm0.tape,hoff.output.trans hm0.output,by rw [hz]; exact hm0.size,fun b hb hn=>(hoff.same b (by omega)).trans (hm0.same b hb hn),hm0.more,fun b hb=>by rw [hz]; exact hm0.new b hb⟩
      · have hm0:=hcut S W2 hn1 hn2 hm
        have hoff:=Off.putObj W2 (w.heap.size + 1) (.loop { rec .done (some c) with state:=.exhausted })
        have hz:=hoff.size
        refine ⟨some c,_,by have:=run_endLoop (P:=P) hl (by rw [hrec]; simp); rw [hrec] at this; exact this,hstop c pre S _ ?_ hn1 hSp (hIx c _ _ _ _ hi (by rw [hrec] at hoff; exact hoff.stay hn2)) ((World.putObj_heap_other (by omega)).trans hk)⟩
        rw [hrec] at hoff hz
        exact ⟨hoff.os.trans hm0.os,hoff.tape.trans hm0.tape,hoff.output.trans hm0.output,by rw [hz]; exact hm0.size,fun b hb hn=>(hoff.same b (by omega)).trans (hm0.same b hb hn),hm0.more,fun b hb=>by rw [hz]; exact hm0.new b hb⟩

theorem YieldAt.deep {m:Nat} (m':Nat) {l:Nat} {args:Array Value} {W:World} {R:Ending→World→Prop} (h:YieldAt Fence.wide m P l args W R):YieldAt Fence.wide m' P l args W R:=by
  obtain ⟨fn,tmps,assign,body,hy,hR⟩:=h
  exact ⟨fn,tmps,assign,body,hy,hR.1,fun c cs _=>hR.2 c cs (fun d h=>by cases h)⟩
end Go.Proofs.YtkkenbalpnmfmaaDoor

namespace Go.Proofs.YtkkenbalpnmfmaaDoor.TR
def walk (p:List Int) (t:T):List (List Int × T):=(p,t) :: (t.kids.attach.mapIdx fun i u=>walk (p ++ [(i:Int)]) u.1).flatten
  termination_by t
  decreasing_by exact kid_lt u.2
theorem walk_eq (p:List Int) (t:T):walk p t = (p,t) :: (t.kids.mapIdx fun i u=>walk (p ++ [(i:Int)]) u).flatten:=by
  rw [walk,attach_idx t.kids fun i u=>walk (p ++ [(i:Int)]) u]
def walks (p:List Int) (l:List T) (j:Nat):List (List Int × T):=((l.take j).mapIdx fun i u=>walk (p ++ [(i:Int)]) u).flatten
theorem walks_zero (p:List Int) (l:List T):walks p l 0 = []:=rfl
theorem walks_next {p:List Int} {l:List T} {j:Nat} {u:T} (h:l[j]? = some u):walks p l (j + 1) = walks p l j ++ walk (p ++ [(j:Int)]) u:=by
  have hj:=(List.getElem?_eq_some_iff.1 h).1
  unfold walks
  rw [List.take_add_one,h,Option.toList_some,List.mapIdx_append,List.flatten_append]
  simp [List.length_take,Nat.min_eq_left (Nat.le_of_lt hj)]
theorem walk_walks (p:List Int) (t:T):walk p t = (p,t) :: walks p t.kids t.kids.length:=by rw [walk_eq,walks,List.take_length]
theorem walks_take (p:List Int) (l:List T) (j:Nat):walks p l j <+: walks p l l.length:=by
  by_cases h:j≤l.length
  · induction hk:l.length - j generalizing j with
    | zero=>rw [show j = l.length by omega]; exact List.prefix_refl _
    | succ k ih =>
      obtain ⟨u,hu⟩:∃ u,l[j]? = some u:=⟨_,List.getElem?_eq_getElem (by omega)⟩
      exact List.IsPrefix.trans ⟨_,(walks_next hu).symm⟩ (ih (j + 1) (by omega) (by omega))
  · unfold walks
    rw [List.take_of_length_le (by omega),List.take_of_length_le (Nat.le_refl _)]
    exact List.prefix_refl _
end Go.Proofs.YtkkenbalpnmfmaaDoor.TR
namespace Go.Proofs.YtkkenbalpnmfmaaDoor
open Go.RowKit WM TR

def AtT (x:List Int × T) (vs:Array Value) (S:Nat→Prop) (W:World):Prop :=
  ∃ A c B d k,vs = #[.slice A x.1.length c,.agg #[.int .i64 x.2.k,.int .i64 x.2.n,.int .i64 x.2.m,.slice B x.2.kids.length d]]∧x.1.length≤c ∧
    Rd W (fun b=>b < W.heap.size∧¬ S b) 1 A x.1.length (vi x.1)∧Rep W (fun b=>b < W.heap.size∧¬ S b) k x.2 (nd x.2 B d)

theorem ownsRow_same {w w':World} {base:Nat} {e:TypeId} {size:Nat} {v:Value} {n:Nat} {xs:List Value} (h:w.ownsRow base e size v n xs) (hb:∀ g,v.ownBlock = some g→w'.heap[g]? = w.heap[g]?):w'.ownsRow base e size v n xs:=by
  obtain ⟨h1,h2⟩:=h
  refine ⟨h1,h2.imp id ?_⟩
  rintro ⟨g,cap,cur,rfl,hg,hh,rest⟩
  exact ⟨g,cap,cur,rfl,hg,(hb g rfl).trans hh,rest⟩

structure VSt (z l:Nat) (S0:Nat→Prop) (W0:World) (S:Nat→Prop) (W:World) (v:Value) (p:List Int):Prop where
  mov:Mov S0 W0 S W
  y:W.cell? ⟨z,0,none⟩ = some (.func (.yield l) #[] #[])
  pl:Blk W (z + 1) 22 #[v]
  vf:W.cell? ⟨z + 2,0,none⟩ = some (.func (.func 72) #[] #[.pointer (some ⟨z,0,none⟩),.pointer (some ⟨z + 1,0,none⟩),.pointer (some ⟨z + 2,0,none⟩)])
  own:W.ownsRow (z + 3) 3 1 v p.length (vi p)
  out:∀ b,S b→b < z∨z + 3≤b
  row:∀ g,v.ownBlock = some g→¬ S g
  three:z + 3≤W.heap.size

structure VMv (z:Nat) (S:Nat→Prop) (W:World) (v:Value) (S':Nat→Prop) (W':World) (v':Value):Prop where
  os:W'.os = W.os
  tape:W'.tape = W.tape
  output:W'.output = W.output
  size:W.heap.size≤W'.heap.size
  same:∀ b,b < W.heap.size→¬ S b→b≠z + 1→v.ownBlock≠some b→W'.heap[b]? = W.heap[b]?
  more:∀ b,S b→S' b
  new:∀ b,S' b→S b∨(W.heap.size≤b∧b < W'.heap.size)
  row:v'.ownBlock = v.ownBlock∨∀ g,v'.ownBlock = some g→W.heap.size≤g

section
variable {z l:Nat} {S0 S S' S'':Nat→Prop} {W0 W W' W'':World} {v v' v'':Value} {p p':List Int}
theorem VMv.refl (z:Nat) (S:Nat→Prop) (W:World) (v:Value):VMv z S W v S W v:=⟨rfl,rfl,rfl,Nat.le_refl _,fun _ _ _ _ _=>rfl,fun _ h=>h,fun _ h=>.inl h,.inl rfl⟩
theorem VMv.trans (h:VMv z S W v S' W' v') (k:VMv z S' W' v' S'' W'' v''):VMv z S W v S'' W'' v'' :=
  ⟨k.os.trans h.os,k.tape.trans h.tape,k.output.trans h.output,Nat.le_trans h.size k.size,
   fun b hb hn h1 h2=>(k.same b (Nat.lt_of_lt_of_le hb h.size) (fun h'=>(h.new b h').elim hn (fun h2=>by omega)) h1
     (fun e=>h.row.elim (fun hr=>h2 (hr ▸ e)) (fun hr=>by have:=hr b e; omega))).trans (h.same b hb hn h1 h2),
   fun b hb=>k.more b (h.more b hb),
   fun b hb=>(k.new b hb).elim (fun h'=>(h.new b h').imp id (fun h2=>⟨h2.1,Nat.lt_of_lt_of_le h2.2 k.size⟩)) (fun h2=>.inr ⟨Nat.le_trans h.size h2.1,h2.2⟩),
   k.row.elim (fun hk=>hk ▸ h.row) (fun hk=>.inr fun g hg=>Nat.le_trans h.size (hk g hg))⟩
theorem VMv.of_mov (h:Mov S W S' W'):VMv z S W v S' W' v:=⟨h.os,h.tape,h.output,h.size,fun b hb hn _ _=>h.same b hb hn,h.more,h.new,.inl rfl⟩
abbrev OMv (z:Nat) (W:World) (v:Value) (W':World) (v':Value):Prop:=VMv z (fun _=>False) W v (fun _=>False) W' v'
theorem OMv.mk (ho : W'.os = W.os) (ht : W'.tape = W.tape) (hp : W'.output = W.output) (hs : W.heap.size ≤ W'.heap.size) (hk : ∀ b, b < W.heap.size → b ≠ z + 1 → v.ownBlock ≠ some b → W'.heap[b]? = W.heap[b]?)
    (hr:v'.ownBlock = v.ownBlock∨∀ g,v'.ownBlock = some g→W.heap.size≤g):OMv z W v W' v' :=
  ⟨ho,ht,hp,hs,fun b hb _ h1 h2=>hk b hb h1 h2,fun _ h=>h,fun _ h=>.inl h,hr⟩
theorem OMv.lift (S:Nat→Prop) (h:OMv z W v W' v'):VMv z S W v S W' v' :=
  ⟨h.os,h.tape,h.output,h.size,fun b hb _ h1 h2=>h.same b hb (fun h=>h) h1 h2,fun _ h=>h,fun _ h=>.inl h,h.row⟩
theorem OMv.below (h:Below W.heap.size W W'):OMv z W v W' v:=OMv.mk h.os h.tape h.output h.size (fun b hb _ _=>h.block b hb) (.inl rfl)
theorem VSt.in_ (h:VSt z l S0 W0 S W v p) (hS0:∀ b,S0 b→b < W0.heap.size):∀ b,S b→b < W.heap.size:=h.mov.in_ hS0
theorem VSt.out1 (h:VSt z l S0 W0 S W v p):¬ S (z + 1):=fun h'=>(h.out _ h').elim (by omega) (by omega)
theorem VSt.mov_of (h:VSt z l S0 W0 S W v p) (hz:z = W0.heap.size) (k:VMv z S W v S' W' v'):Mov S0 W0 S' W' :=
  ⟨k.os.trans h.mov.os,k.tape.trans h.mov.tape,k.output.trans h.mov.output,Nat.le_trans h.mov.size k.size,
   fun b hb hn=>(k.same b (Nat.lt_of_lt_of_le hb h.mov.size) (fun h'=>(h.mov.new b h').elim hn (fun h2=>by omega)) (by omega) (fun e=>by have:=(h.own.lt b e).1; omega)).trans (h.mov.same b hb hn),
   fun b hb=>k.more b (h.mov.more b hb),
   fun b hb=>(k.new b hb).elim (fun h'=>(h.mov.new b h').imp id (fun h2=>⟨h2.1,Nat.lt_of_lt_of_le h2.2 k.size⟩)) (fun h2=>.inr ⟨Nat.le_trans h.mov.size h2.1,h2.2⟩)⟩
theorem VSt.round (h:VSt z l S0 W0 S W v p) (hm:Mov S W S' W'):VSt z l S0 W0 S' W' v p:=by
  have ht:=h.three
  have hn:∀ b,z≤b→b < z + 3→¬ S b:=fun b h1 h2 h'=>(h.out b h').elim (by omega) (by omega)
  refine ⟨h.mov.trans hm,?_,?_,?_,?_,?_,?_,Nat.le_trans ht hm.size⟩
  · exact (World.cell?_of_block (hm.same z (by omega) (hn z (by omega) (by omega)))).trans h.y
  · exact (hm.same (z + 1) (by omega) (hn _ (by omega) (by omega))).trans h.pl
  · exact (World.cell?_of_block (hm.same (z + 2) (by omega) (hn _ (by omega) (by omega)))).trans h.vf
  · exact ownsRow_same h.own fun g hg=>hm.same g (h.own.lt g hg).2 (h.row g hg)
  · exact fun b hb=>(hm.new b hb).elim (h.out b) (fun h2=>.inr (by omega))
  · exact fun g hg h'=>(hm.new g h').elim (h.row g hg) (fun h2=>by have:=(h.own.lt g hg).2; omega)
theorem VSt.step (h : VSt z l S0 W0 S W v p) (hz : z = W0.heap.size) (hS0 : ∀ b, S0 b → b < W0.heap.size) (k : OMv z W v W' v') (hb : Blk W' (z + 1) 22 #[v']) (ho : W'.ownsRow (z + 3) 3 1 v' p'.length (vi p')) :
    VSt z l S0 W0 S W' v' p'∧Stay S W W':=by
  have ht:=h.three
  have hS:=h.in_ hS0
  have hn:∀ b,z≤b→b < z + 3→¬ S b:=fun b h1 h2 h'=>(h.out b h').elim (by omega) (by omega)
  have hv:∀ b,b < z + 3→v.ownBlock≠some b:=fun b hb e=>by have:=(h.own.lt b e).1; omega
  refine ⟨⟨h.mov_of hz (k.lift S),?_,hb,?_,ho,h.out,?_,Nat.le_trans ht k.size⟩,?_⟩
  · exact (World.cell?_of_block (k.same z (by omega) (fun h=>h) (by omega) (hv z (by omega)))).trans h.y
  · exact (World.cell?_of_block (k.same (z + 2) (by omega) (fun h=>h) (by omega) (hv _ (by omega)))).trans h.vf
  · intro g hg h'
    rcases k.row with hr | hr
    · exact h.row g (hr ▸ hg) h'
    · have:=hr g hg
      have:=hS g h'
      omega
  · -- the caller's own blocks stay: those of S are neither the place's box nor its row
    exact ⟨k.os,k.tape,k.output,k.size,fun b hb=>k.same b (hS b hb) (fun h=>h) (fun e=>h.out1 (e ▸ hb)) (fun e=>h.row b e hb)⟩
theorem VSt.append (h : VSt z l S0 W0 S W v p) {x : Int} {w3 : World} {v3 : Value} {o : Obj} (hown : w3.ownsRow (z + 3) 3 1 v3 (p.length + 1) (vi p ++ [.int .i64 x])) (hg : (W.alloc o).grownBy w3 v.ownBlock)
    (hn:v3.ownBlock = v.ownBlock∨v3.ownBlock = some (W.alloc o).heap.size) :
    OMv z W v (w3.setCell ⟨z + 1,0,none⟩ v3) v3∧Blk (w3.setCell ⟨z + 1,0,none⟩ v3) (z + 1) 22 #[v3]∧(w3.setCell ⟨z + 1,0,none⟩ v3).ownsRow (z + 3) 3 1 v3 (p ++ [x]).length (vi (p ++ [x])):=by
  have ht:=h.three
  have hsa:(W.alloc o).heap.size = W.heap.size + 1:=size_alloc _ _
  have hs3:=hg.size
  have hb:=below_new W o
  have hv:∀ b,b < z + 3→v.ownBlock≠some b:=fun b hb e=>by have:=(h.own.lt b e).1; omega
  have hB:Blk w3 (z + 1) 22 #[v]:=(hg.block (z + 1) (by omega) (fun e=>hv _ (by omega) e.symm)).trans (h.pl.alloc o)
  refine ⟨OMv.mk (hg.os.trans hb.os) (hg.tape.trans hb.tape) (hg.output.trans hb.output) ?_ ?_ ?_,?_,?_⟩
  · have:(w3.setCell ⟨z + 1,0,none⟩ v3).heap.size = w3.heap.size:=by show (w3.heap.modify _ _).size = _; rw [Array.size_modify]
    omega
  · intro b hb1 hb2 hb3
    exact (Below.heap_setCell w3 ⟨z + 1,0,none⟩ v3 b hb2).trans ((hg.block b (by omega) (fun e=>hb3 e.symm)).trans (hb.block b hb1))
  · rcases hn with hn | hn
    · exact .inl hn
    · exact .inr fun g hg'=>by rw [hn] at hg'; have:=Option.some.inj hg'; omega
  · simpa using hB.set_ 0 v3
  · rw [List.length_append,List.length_singleton,vi_append]
    exact ownsRow_setCell_below hown (by show z + 1 < z + 3; omega) v3
theorem VSt.boxed (h:VSt z l S0 W0 S W v p) {w3:World} {o:Obj} (hg:(W.alloc o).grownBy w3 v.ownBlock):w3.cell? ⟨z + 1,0,none⟩ = some v∧w3.frozen? ⟨z + 1,0,none⟩ = false:=by
  have ht:=h.three
  have hsa:(W.alloc o).heap.size = W.heap.size + 1:=size_alloc _ _
  have hv:∀ b,b < z + 3→v.ownBlock≠some b:=fun b hb e=>by have:=(h.own.lt b e).1; omega
  have hB:Blk w3 (z + 1) 22 #[v]:=(hg.block (z + 1) (by omega) (fun e=>hv _ (by omega) e.symm)).trans (h.pl.alloc o)
  exact ⟨hB.cell 0,hB.frozen 0⟩
theorem VSt.store {g n c : Nat} {x : Int} (h : VSt z l S0 W0 S W (.slice (some ⟨g, 0, none⟩) n c) (p ++ [x])) (hn : n = p.length + 1) (y : Int) :
    OMv z W (.slice (some ⟨g,0,none⟩) n c) (W.setCell ⟨g,p.length,none⟩ (.int .i64 y)) (.slice (some ⟨g,0,none⟩) n c)∧Blk (W.setCell ⟨g,p.length,none⟩ (.int .i64 y)) (z + 1) 22 #[.slice (some ⟨g,0,none⟩) n c] ∧
      (W.setCell ⟨g,p.length,none⟩ (.int .i64 y)).ownsRow (z + 3) 3 1 (.slice (some ⟨g,0,none⟩) n c) (p ++ [y]).length (vi (p ++ [y])):=by
  subst hn
  have ho:=h.own
  have hlt:=ho.lt g rfl
  rw [List.length_append,List.length_singleton] at ho
  have hst:=(ho.stored p.length (.int .i64 y)).1
  refine ⟨OMv.mk rfl rfl rfl ?_ ?_ (.inl rfl),h.pl.far (by show z + 1≠g; omega) _,?_⟩
  · show W.heap.size≤(W.heap.modify _ _).size; rw [Array.size_modify]; exact Nat.le_refl _
  · intro b _ _ hb
    exact Below.heap_setCell W _ _ b (fun e=>hb (by rw [e]; rfl))
  · have e : (vi (p ++ [x])).set p.length (.int .i64 y) = vi (p ++ [y]) := by
      rw [vi_append,vi_append,List.set_append_right _ _ (by rw [vi_length]; exact Nat.le_refl _),vi_length,Nat.sub_self]; rfl
    rw [e] at hst
    rw [List.length_append,List.length_singleton]
    exact hst
theorem VSt.pop {g n c : Nat} {x : Int} (h : VSt z l S0 W0 S W (.slice (some ⟨g, 0, none⟩) n c) (p ++ [x])) (hn : n = p.length + 1) :
    OMv z W (.slice (some ⟨g,0,none⟩) n c) (W.setCell ⟨z + 1,0,none⟩ (.slice (some ⟨g,0,none⟩) p.length c)) (.slice (some ⟨g,0,none⟩) p.length c) ∧
      Blk (W.setCell ⟨z + 1,0,none⟩ (.slice (some ⟨g,0,none⟩) p.length c)) (z + 1) 22 #[.slice (some ⟨g,0,none⟩) p.length c] ∧
      (W.setCell ⟨z + 1,0,none⟩ (.slice (some ⟨g,0,none⟩) p.length c)).ownsRow (z + 3) 3 1 (.slice (some ⟨g,0,none⟩) p.length c) p.length (vi p):=by
  subst hn
  have ho:=h.own
  rw [List.length_append,List.length_singleton,vi_append] at ho
  have hpp:=ownsRow_pop (by rw [vi_length,Nat.mul_one]) ho
  refine ⟨OMv.mk rfl rfl rfl ?_ ?_ (.inl rfl),by simpa using h.pl.set_ 0 (.slice (some ⟨g,0,none⟩) p.length c),ownsRow_setCell_below hpp (by show z + 1 < z + 3; omega) _⟩
  · show W.heap.size≤(W.heap.modify _ _).size; rw [Array.size_modify]; exact Nat.le_refl _
  · intro b _ hb _
    exact Below.heap_setCell W _ _ b hb
theorem Rd.of_own_out {w : World} {base : Nat} {e : TypeId} {size n c : Nat} {A : Option Addr} {xs : List Value} (h : w.ownsRow base e size (.slice A n c) n xs) (hr : ∀ g, (Value.slice A n c).ownBlock = some g → ¬ S g) :
    Rd w (fun b=>b < w.heap.size∧¬ S b) size A n xs:=by
  refine ⟨h.1,fun hn=>?_⟩
  obtain ⟨g,cap,hv,hb,hlt⟩:=h.form hn
  have hA:A = some ⟨g,0,none⟩:=by injection hv
  subst hA
  exact ⟨_,rfl,⟨hlt,hr g rfl⟩,h.cells (g:=g) rfl⟩
end
end Go.Proofs.YtkkenbalpnmfmaaDoor

namespace Go.Proofs.YtkkenbalpnmfmaaDoor
open Go.RowKit

theorem wpListIn_value {F : Fence} {n : Nat} {P : Program} {w w' : World} {ops : Array Oper} {rest : List Oper} {o : Oper} {a : Act} {Q : Exit → Act → World → Prop}
  (hg:o.guard = none) (hnd:∀ c,o.op≠.defer c) (hab:o.about P w a.eval = none) (v:Value) (hrun:(execOp a.eval o).run P w = .ok (.value v) w') (h:wpListIn F n P ops Q rest (a.put o.dst v) w'):wpListIn F n P ops Q (o :: rest) a w:=by
 refine wpListIn_plain hg fun K hK=>?_
 unfold Oper.wpIn
 refine ⟨fun f hf=>absurd hf (by rw [hab]; exact fun h=>nomatch h),?_⟩
 rw [Oper.semAt_plain F _ _ hnd,hrun]
 exact hK _ _ h
theorem wpListIn_load_mid {F : Fence} {n : Nat} {P : Program} {w : World} {ops : Array Oper} {rest : List Oper} {op : Oper} {a : Act} {Q : Exit → Act → World → Prop} (hgd : op.guard = none) (ty : TypeId) (x : Operand) (ho : op.op = .load ty x)
  (b o:Nat) (hx:a.eval x = .pointer (some ⟨b,o,none⟩)) (cs:List Value) (d:TypeDesc) (hc:w.rangeAt b o cs)
  (hu:P.underlying ty = some d) (hd:d.isRow = true) (hi:(P.info? ty).map (·.size) = some cs.length)
  (h:wpListIn F n P ops Q rest (a.put op.dst (.agg cs.toArray)) w):wpListIn F n P ops Q (op :: rest) a w :=
 wpListIn_value hgd (fun c=>by rw [ho]; intro h; cases h) (by simp [Oper.about,ho]) (.agg cs.toArray) (by
  unfold execOp
  simp only [ho,hx,Instr.loadAt,Instr.sureAddr,Sem.run_bind,Sem.run_pure,Result.andThen_ok,run_loadVar_mid w b o ty cs d hc hu hd hi]) h

/-! What is shown of an operation or a region without a fence serves in a round of a loop over an iterator. -/
section
variable {P:Program} {ops:Array Oper} {Q:Exit→Act→World→Prop} {n l:Nat}








end
end Go.Proofs.YtkkenbalpnmfmaaDoor

namespace Go.Proofs.YtkkenbalpnmfmaaDoor
open Go.RowKit WM TR

theorem ps_int_info:(Tryd.prog.info? 3).map (fun i=>(i.zero,i.size,i.bytes)) = some (some (.int .i64 0),1,8):=by kernel_rfl
theorem ps_ints_info:(Tryd.prog.info? 22).map (fun i=>(i.zero,i.size,i.bytes)) = some (some (.slice none 0 0),1,24):=by kernel_rfl
theorem ps_reads (w:World) (v:Value):Reads (w.alloc (.cells #[v] 22)) (w.heap.size + 1) 1 (some ⟨w.heap.size,0,none⟩) 1 [v] :=
 ⟨rfl,fun _=>⟨_,rfl,Nat.lt_succ_self _,cells_new w [v] 22⟩⟩
theorem vi_one (l:List Int):∀ u ∈ vi l,u.oneCell' = true:=by
 intro u hu
 obtain ⟨x,_,rfl⟩:=List.mem_map.1 hu
 rfl

theorem below_grown {w w':World} {o:Obj} {row:Option Nat} (h:(w.alloc o).grownBy w' row) (hr:∀ b,row = some b→w.heap.size≤b):Below w.heap.size w w' :=
 have hb:=below_new w o
 ⟨h.os.trans hb.os,h.tape.trans hb.tape,h.output.trans hb.output,Nat.le_trans hb.size h.size,fun i hi=>(h.block i (Nat.lt_of_lt_of_le hi hb.size) (fun e=>by have:=hr i e.symm; omega)).trans (hb.block i hi)⟩

theorem PSt.first (w:World):PSt w (w.alloc (.cells #[.slice none 0 0] 22)) (.slice (some ⟨w.heap.size,0,none⟩) 1 1) [[]] [.slice none 0 0]:=by
 refine ⟨own_lit (xs:=[.slice none 0 0]) (n:=1) (Nat.le_refl _) rfl (len_le (by omega)),⟨rfl,fun i p hp=>?_⟩,below_new _ _⟩
 have hi:i = 0:=by
  have:=(List.getElem?_eq_some_iff.1 hp).1
  simp at this; omega
 subst hi
 simp only [List.getElem?_cons_zero,Option.some.injEq] at hp
 subst hp
 exact ⟨none,0,rfl,Nat.le_refl _,Rd.none_⟩

end Go.Proofs.YtkkenbalpnmfmaaDoor

namespace Go.Proofs.YtkkenbalpnmfmaaDoor
open Go.RowKit WM TR

def VisPost (z l:Nat) (S0:Nat→Prop) (W0:World) (J Jx:List (List Int × T)→(Nat→Prop)→World→Prop) (pre:List (List Int × T)) (p:List Int) (t:T) (S:Nat→Prop) (W:World) (v:Value) (e:Ending) (W':World):Prop :=
 ∃ S' v',VMv z S W v S' W' v'∧((e = .returned (.bool true)∧J (pre ++ walk p t) S' W'∧VSt z l S0 W0 S' W' v' p)∨(e = .returned (.bool false)∧∃ q,q <+: walk p t∧Jx (pre ++ q) S' W'))

theorem pre_snoc {α:Type} {a b c:List α} {x:α} (h:a ++ (x :: b) <+: c):a ++ [x] <+: c:=by
 refine List.IsPrefix.trans ⟨b,?_⟩ h
 simp

set_option maxRecDepth 100000 in
set_option maxHeartbeats 4000000 in
theorem visit_is (l z m : Nat) (xs : List (List Int × T)) (J Jx : List (List Int × T) → (Nat → Prop) → World → Prop) (S0 : Nat → Prop) (W0 : World) (hz : z = W0.heap.size) (hS0 : ∀ b, S0 b → b < W0.heap.size) (hJ : Abide J) (hJx : Abide Jx)
  (Tr:Nat→Prop) (hTr:∀ b,Tr b→b < W0.heap.size∧¬ S0 b)
  (hY:∀ pre x vs S1 W1,J pre S1 W1→pre ++ [x] <+: xs→AtT x vs S1 W1→Mov S0 W0 S1 W1→YieldAt Fence.wide m Tryd.prog l vs W1 fun e W' =>
   ∃ S',Mov S1 W1 S' W'∧((e = .returned (.bool true)∧J (pre ++ [x]) S' W')∨(e = .returned (.bool false)∧Jx (pre ++ [x]) S' W'))) :
  ∀ (d:Nat) (t:T) (A:Option Addr) (c:Nat) (S:Nat→Prop) (W:World) (v:Value) (p:List Int) (pre:List (List Int × T)),Rep W0 Tr d t (nd t A c)→VSt z l S0 W0 S W v p→J pre S W→pre ++ walk p t <+: xs→size t≤1000000→p.length + depth t≤1000000 →
  Calls Tryd.prog 72 #[.agg #[.int .i64 t.k,.int .i64 t.n,.int .i64 t.m,.slice A t.kids.length c],.pointer (some ⟨z,0,none⟩),.pointer (some ⟨z + 1,0,none⟩),.pointer (some ⟨z + 2,0,none⟩)] W
   (VisPost z l S0 W0 J Jx pre p t S W v)
 | 0,_,_,_,_,_,_,_,_,h,_,_,_,_,_=>h.elim
 | d + 1,t,A,c,S,W,v,p,pre,ht,hst,hj,hpre,hsz,hdp=>by
  have ih:=visit_is l z m xs J Jx S0 W0 hz hS0 hJ hJx Tr hTr hY d
  obtain ⟨len,hlen⟩:∃ len,len = t.kids.length:=⟨_,rfl⟩
  have hkl:t.kids.length≤1000000:=by have:=kids_lt t; omega
  have hcap:=ht.cap
  obtain ⟨i0,hi,hz0,hz1,hz2⟩:=info_parts ps_int_info
  rw [← hlen] at hkl hcap ⊢
  obtain ⟨W1,hW1⟩:∃ W1,W1 = W.alloc (.cells #[.int .i64 t.k,.int .i64 t.n,.int .i64 t.m,.slice A len c] 25):=⟨_,rfl⟩
  have hBX:Blk W1 W.heap.size 25 #[.int .i64 t.k,.int .i64 t.n,.int .i64 t.m,.slice A len c]:=by rw [hW1]; exact Blk.new W _ _
  have hb1:Below W.heap.size W W1:=by rw [hW1]; exact below_new _ _
  have hs1:W1.heap.size = W.heap.size + 1:=by rw [hW1]; exact size_alloc _ _
  have hin:=hst.in_ hS0
  have hm1:OMv z W v W1 v:=OMv.below hb1
  obtain ⟨hst1,hsy1⟩:=hst.step hz hS0 hm1 (hst.pl.below hb1 hst.pl.lt) (ownsRow_below hst.own hb1)
  have hj1:J pre S W1:=hJ _ _ _ _ hj hsy1
  rw [walk_walks] at hpre
  have hat:AtT (p,t) #[v,.agg #[.int .i64 t.k,.int .i64 t.n,.int .i64 t.m,.slice A len c]] S W1:=by
   obtain ⟨A',c',rfl,hc'⟩:=own_len hst1.own
   refine ⟨A',c',A,c,d + 1,by rw [hlen],hc',?_,?_⟩
   ·exact Rd.of_own_out hst1.own hst1.row
   ·refine (ht.keep ?_).mono ?_
    ·intro b hb
     exact (hst1.mov.same b (hTr b hb).1 (hTr b hb).2)
    ·intro b hb
     exact ⟨Nat.lt_of_lt_of_le (hTr b hb).1 hst1.mov.size,fun h=>(hst1.mov.new b h).elim (hTr b hb).2 (fun h2=>by have:=(hTr b hb).1; omega)⟩
  obtain ⟨fn,tmps,assign,body,hy,hR⟩:=YieldAt.deep (9 - 1) (hY pre (p,t) _ S W1 hj1 (pre_snoc hpre) hat hst1.mov)
  have hcy:=hst1.y
  have hcp:W1.cell? ⟨z + 1,0,none⟩ = some v:=hst1.pl.cell 0
  have HZ:=Lib.hid hz
  have HLEN:=Lib.hid hlen
  have HIH:=Lib.hid ih
  have HP:=Lib.hid hpre
  have HT:=Lib.hid ht
  have HS1:=Lib.hid hst1
  have HBX:=Lib.hid hBX
  have HM1:=Lib.hid hm1
  have HJ:=Lib.hid hJ
  have HTR:=Lib.hid hTr
  have HIN:=Lib.hid hin
  have HVL:Hid (∀ g,v.ownBlock = some g→g < W.heap.size):=Lib.hid (fun g hg=>(hst.own.lt g hg).2)
  have HZW:Hid (z + 3≤W.heap.size):=Lib.hid hst.three
  have HS0:=Lib.hid hS0
  have hcx:∀ i x,[Value.int .i64 t.k,.int .i64 t.n,.int .i64 t.m,.slice A len c][i]? = some x→W1.cell? ⟨W.heap.size,0 + i,none⟩ = some x:=fun i x hx=>by
   have h:=HBX.out.cell (0 + i)
   rw [h,Nat.zero_add]; simpa using hx
  have HCX:=Lib.hid hcx
  clear hcx hin hS0
  clear hz hlen ih hpre ht hst hst1 hsy1 hBX hm1 hat hY hTr hJx hJ
  go_enter Tryd.func72,Tryd.ntmps72
  apply wp_seq_k
  intro K0 hK0
  replace hK0:=Lib.hid hK0
  go_wp2
  refine hK0.out _ _ ?_
  clear hK0
  rw [← hW1]
  have HW1:=Lib.hid hW1
  clear hW1
  apply wp_seq_k
  intro K1 hK1
  apply wp_seq_k
  intro K2 hK2
  refine (wpIn_wide (n:=9)).1 ?_
  gi_wp2_with (first
   | (refine wpListIn_load_mid rfl 25 (.tmp 4) rfl W.heap.size 0 rfl [.int .i64 t.k,.int .i64 t.n,.int .i64 t.m,.slice A len c] _ HCX.out Tryd.underlying25 rfl (by rw [size_node]; rfl) ?_)
   | ((try refine ⟨fun h=>(by cases h),?_⟩); refine hR.mono ?_; clear hR; rintro e W2 ⟨S2,hm2,(⟨rfl,hj2⟩ | ⟨rfl,hx2⟩)⟩))
  ·-- the round goes on
   have hst2:=HS1.out.round hm2
   have hW12:VMv z S W v S2 W2 v:=(HM1.out.lift S).trans (VMv.of_mov hm2)
   have hBX2:Blk W2 W.heap.size 25 #[.int .i64 t.k,.int .i64 t.n,.int .i64 t.m,.slice A len c]:=(hm2.same _ (by omega) (fun h=>Nat.lt_irrefl _ (HIN.out _ h))).trans HBX.out
   have hcp2:W2.cell? ⟨z + 1,0,none⟩ = some v:=hst2.pl.cell 0
   have HOWN:Hid ((W2.alloc (.cells #[.int .i64 0] 3)).ownsRow (z + 3) 3 1 v p.length (vi p)):=Lib.hid (ownsRow_below hst2.own (below_new _ _))
   have h3:=hst2.three
   have HS2:=Lib.hid hst2
   have HW12:=Lib.hid hW12
   have HB2:=Lib.hid hBX2
   have hpl:p.length≤1000000:=by omega
   clear hst2 hW12 hBX2 hj1 hm2 hcy hcp hy
   go_wp2_with (at_builtin; refine wpList_append_any _ rfl (.tmp 14) (.tmp 15) 22 rfl (z + 3) 3 i0 _ 1 8 Tryd.underlying22 hi hz0 hz1 hz2 rfl (by omega) _ _ _ rfl HOWN.out _ (some ⟨W2.heap.size,0,none⟩) 1 1 [.int .i64 0] rfl (Rd.reads (S:=fun b=>b < W2.heap.size + 1) ⟨rfl,fun _=>⟨_,rfl,Nat.lt_succ_self _,one_new W2 _ _⟩⟩ (fun _ h=>h)) (int_one _ _) (len_le (by omega)) (by omega) (by simp; omega) ?_; intro v3 w3 hown3 hgrow3 hnew3; obtain ⟨hc3,hf3⟩:=HS2.out.boxed hgrow3; obtain ⟨A3,c3,rfl,hcap3⟩:=own_len hown3; have HO3:=Lib.hid hown3; have HG3:Hid ((W2.alloc (.cells #[.int .i64 0] 3)).grownBy w3 v.ownBlock):=Lib.hid hgrow3; have HN3:Hid ((Value.slice A3 (p.length + 1) c3).ownBlock = v.ownBlock∨(Value.slice A3 (p.length + 1) c3).ownBlock = some (W2.alloc (.cells #[.int .i64 0] 3)).heap.size):=Lib.hid hnew3; clear hown3 hgrow3 hnew3; have HA4:=Lib.hid (HS2.out.append HO3.out HG3.out HN3.out); have HX4:Hid (Blk (w3.setCell ⟨z + 1,0,none⟩ (.slice A3 (p.length + 1) c3)) W.heap.size 25 #[.int .i64 t.k,.int .i64 t.n,.int .i64 t.m,.slice A len c]):=Lib.hid ((HA4.out.1.same _ HB2.out.lt (fun h=>h) (by have:=HZW.out; omega) (fun e=>Nat.lt_irrefl _ (HVL.out _ e))).trans HB2.out); have hc4:=HX4.out.cell 3; have hc4p:(w3.setCell ⟨z + 1,0,none⟩ (.slice A3 (p.length + 1) c3)).cell? ⟨z + 1,0,none⟩ = some (.slice A3 (p.length + 1) c3):=HA4.out.2.1.cell 0)
   have hst4:=HS2.out.step HZ.out HS0.out HA4.out.1 HA4.out.2.1 HA4.out.2.2
   have HJ4:Hid (J (pre ++ (p,t) :: walks p t.kids 0) S2 (w3.setCell ⟨z + 1,0,none⟩ (.slice A3 (p.length + 1) c3))):=Lib.hid (by rw [walks_zero]; exact HJ.out _ _ _ _ hj2 hst4.2)
   have HM4:Hid (VMv z S W v S2 (w3.setCell ⟨z + 1,0,none⟩ (.slice A3 (p.length + 1) c3)) (.slice A3 (p.length + 1) c3)):=Lib.hid (HW12.out.trans (HA4.out.1.lift S2))
   have HS4:=Lib.hid hst4.1
   clear hst4 hc4 hc4p hc3 hf3 hj2 hcp2 HX4 HA4 HO3 HG3 HN3 HOWN HB2 HS2 HW12 h3
   go_loopw [23] (fun i wr=>∃ (j:Nat) (S':Nat→Prop) (v':Value) (x:Int),j≤len∧i = .int .i64 j∧Hid (VMv z S W v S' wr v')∧Hid (VSt z l S0 W0 S' wr v' (p ++ [x]))∧Hid (J (pre ++ (p,t) :: walks p t.kids j) S' wr)) (fun i _=>len - (intOf i).toNat)
   case atStart=>exact ⟨0,S2,_,0,Nat.zero_le _,rfl,HM4,HS4,HJ4⟩
   case round =>
    clear HM4 HS4 HJ4
    obtain ⟨j,S5,v5,x,hj,rfl,HM,HST,HJ5⟩:=hrel
    obtain ⟨g,c5,hv5⟩:=ownsRow_succ (by have h:=HST.out.own; rw [List.length_append,List.length_singleton] at h; exact h)
    subst hv5
    by_cases hlt:j < len
    ·obtain ⟨u,hu⟩:∃ u,t.kids[j]? = some u:=⟨_,List.getElem?_eq_getElem (by rw [← HLEN.out]; exact hlt)⟩
     obtain ⟨b,off,A',c',hA,hb,hcells,hru⟩:=HT.out.kid hu
     subst hA
     have HCL:Hid (∀ i y,(nd u A' c')[i]? = some y→wr.cell? ⟨b,off + j * 4 + i,none⟩ = some y):=Lib.hid (fun i y hy=>(World.cell?_of_block (HST.out.mov.same b (HTR.out b hb).1 (HTR.out b hb).2)).trans (hcells i y hy))
     have hb5:=below_new wr (.cells #[.int .i64 u.k,.int .i64 u.n,.int .i64 u.m,.slice A' u.kids.length c'] 25)
     have hm5:OMv z wr (.slice (some ⟨g,0,none⟩) (p.length + 1) c5) (wr.alloc (.cells #[.int .i64 u.k,.int .i64 u.n,.int .i64 u.m,.slice A' u.kids.length c'] 25)) (.slice (some ⟨g,0,none⟩) (p.length + 1) c5):=OMv.below hb5
     obtain ⟨hst5,hsy5⟩:=HST.out.step HZ.out HS0.out hm5 (HST.out.pl.below hb5 HST.out.pl.lt) (ownsRow_below HST.out.own hb5)
     have hj5:=HJ.out _ _ _ _ HJ5.out hsy5
     have hc5p:=hst5.pl.cell 0
     have ho5:=hst5.own
     rw [List.length_append,List.length_singleton] at ho5
     have hc5g:=(ho5.cellAt p.length (by omega)).trans (by rw [vi_append,List.getElem?_append_right (by rw [vi_length]; exact Nat.le_refl _),vi_length,Nat.sub_self]; rfl:(vi (p ++ [x]))[p.length]? = some (.int .i64 x))
     have hf5g:=ho5.frozenAt p.length
     have h56:=hst5.store rfl (j:Int)
     obtain ⟨hst6,hsy6⟩:=hst5.step HZ.out HS0.out h56.1 h56.2.1 h56.2.2
     have hj6:=HJ.out _ _ _ _ hj5 hsy6
     have hm6:VMv z S W v S5 _ _:=HM.out.trans ((hm5.lift S5).trans (h56.1.lift S5))
     have hc6v:=hst6.vf
     have hX6:=(Blk.new wr 25 #[.int .i64 u.k,.int .i64 u.n,.int .i64 u.m,.slice A' u.kids.length c']).far (p:=⟨g,p.length,none⟩) (by have:=(HST.out.own.lt g rfl).2; show wr.heap.size≠g; omega) (.int .i64 (j:Int))
     have HC6:Hid (∀ i y,[Value.int .i64 u.k,.int .i64 u.n,.int .i64 u.m,.slice A' u.kids.length c'][i]? = some y→((wr.alloc (.cells #[.int .i64 u.k,.int .i64 u.n,.int .i64 u.m,.slice A' u.kids.length c'] 25)).setCell ⟨g,p.length,none⟩ (.int .i64 (j:Int))).cell? ⟨wr.heap.size,0 + i,none⟩ = some y):=Lib.hid (fun i y hy=>by
      have h:=hX6.cell (0 + i)
      rw [h,Nat.zero_add]; simpa using hy)
     have hpre6:(pre ++ (p,t) :: walks p t.kids j) ++ walk (p ++ [(j:Int)]) u <+: xs:=by
      refine List.IsPrefix.trans ?_ HP.out
      have e:(pre ++ (p,t) :: walks p t.kids j) ++ walk (p ++ [(j:Int)]) u = pre ++ (p,t) :: walks p t.kids (j + 1):=by rw [walks_next hu]; simp
      rw [e]
      exact (List.prefix_append_right_inj pre).2 ((List.prefix_cons_inj _).2 (walks_take p t.kids (j + 1)))
     have hsu:=size_kid hu
     have hdu:=depth_kid hu
     have HIH6:=Lib.hid (HIH.out u A' c' S5 _ _ (p ++ [(j:Int)]) _ hru hst6 hj6 hpre6 (by omega) (by rw [List.length_append,List.length_singleton]; omega))
     have HM6:=Lib.hid hm6
     have HWN:=Lib.hid (walks_next (p:=p) hu)
     have hij:(0:Int)≤p.length∧(p.length:Int) < ((p.length + 1:Nat):Int):=⟨by omega,by omega⟩
     have hjj:(0:Int)≤j∧(j:Int) < len:=⟨by omega,by omega⟩
     clear hst5 hsy5 hj5 ho5 h56 hst6 hsy6 hj6 hm6 hX6 hpre6 hsu hdu hru hcells hb hm5 hb5
     go_wp2_with (first
      | (refine wpList_load_mid rfl 25 (.tmp 26) rfl b (off + j * 4) rfl [.int .i64 u.k,.int .i64 u.n,.int .i64 u.m,.slice A' u.kids.length c'] _ HCL.out Tryd.underlying25 rfl (by rw [size_node]; rfl) ?_)
      | (refine wpList_store_new rfl 25 (.tmp 8) (.tmp 27) rfl wr _ _ rfl rfl (by rw [size_node]; rfl) rfl rfl ?_)
      | (refine wpList_load_mid rfl 25 (.tmp 8) rfl wr.heap.size 0 rfl [.int .i64 u.k,.int .i64 u.n,.int .i64 u.m,.slice A' u.kids.length c'] _ HC6.out Tryd.underlying25 rfl (by rw [size_node]; rfl) ?_)
      | (go_at_call 72; refine HIH6.out.mono ?_; rintro e w7 ⟨S7,v7,hm7,(⟨rfl,hj7,hst7⟩ | ⟨rfl,q,hq,hx7⟩)⟩))
     ·go_roundw
      case rel=>exact ⟨j + 1,S7,v7,j,by omega,by go_num,HM6.out.trans hm7,hst7,by rw [HWN.out]; exact Lib.hid (by simpa using hj7)⟩
      case measure=>simp [intOf]; omega
     ·go_ret
      refine ⟨S7,v7,HM6.out.trans hm7,.inr ⟨rfl,(p,t) :: (walks p t.kids j ++ q),?_,by simpa using hx7⟩⟩
      rw [walk_walks]
      refine (List.prefix_cons_inj _).2 (List.IsPrefix.trans ?_ (walks_take p t.kids (j + 1)))
      rw [HWN.out]
      exact (List.prefix_append_right_inj _).2 hq
    ·have hjl:j = len:=by omega
     have hcp:=HST.out.pl.cell 0
     have hfp:=HST.out.pl.frozen 0
     have hpp:=HST.out.pop rfl
     obtain ⟨hst9,hsy9⟩:=HST.out.step HZ.out HS0.out hpp.1 hpp.2.1 hpp.2.2
     have hj9:J (pre ++ walk p t) S5 _:=HJ.out _ _ _ _ (by rw [walk_walks,← HLEN.out,← hjl]; exact HJ5.out) hsy9
     have HJ9:=Lib.hid hj9
     have HS9:=Lib.hid hst9
     have HM9:Hid (VMv z S W v S5 _ _):=Lib.hid (HM.out.trans (hpp.1.lift S5))
     have hcc:p.length + 1≤c5:=by
      obtain ⟨A9,c9,e,h9⟩:=own_len HST.out.own
      rw [List.length_append,List.length_singleton] at e h9
      have:=congrArg (fun v=>match v with | Value.slice _ _ c=>c | _=>0) e
      simp only at this
      omega
     have hce:(0:Int)≤p.length∧(p.length:Int)≤c5:=⟨by omega,by omega⟩
     clear hj9 hst9 hsy9 hpp
     go_wp2
     go_ret
     exact ⟨S5,_,HM9.out,.inl ⟨rfl,HJ9.out,HS9.out⟩⟩
  ·go_wp2
   go_ret
   exact ⟨S2,v,(HM1.out.lift S).trans (VMv.of_mov hm2),.inr ⟨rfl,[(p,t)],by rw [walk_walks]; exact ⟨_,rfl⟩,hx2⟩⟩
end Go.Proofs.YtkkenbalpnmfmaaDoor

namespace Go.Proofs.YtkkenbalpnmfmaaDoor
open Go.RowKit WM TR

theorem places_is (k n m : Int) (A : Option Addr) (len c : Nat) (w : World) :
  Calls Tryd.prog 49 #[.agg #[.int .i64 k,.int .i64 n,.int .i64 m,.slice A len c]] w fun e w'=>e = .returned (.func (.func 71) #[] #[.pointer (some ⟨w.heap.size,0,none⟩)])∧w' = w.alloc (.cells #[.int .i64 k,.int .i64 n,.int .i64 m,.slice A len c] 25):=by
 go_enter Tryd.func49,Tryd.ntmps49
 go_wp2
 go_ret
 exact ⟨rfl,rfl⟩

set_option maxRecDepth 100000 in
set_option maxHeartbeats 4000000 in
theorem iter_is (n d B : Nat) (t : T) (A : Option Addr) (c : Nat) (Tr : Nat → Prop) (w : World) (ht : Rep w Tr d t (nd t A c)) (hB : Blk w B 25 #[.int .i64 t.k, .int .i64 t.n, .int .i64 t.m, .slice A t.kids.length c]) (hTr : ∀ b, Tr b → b < w.heap.size)
  (hsz:size t≤1000000) :
  SeqT Fence.wide n Tryd.prog 71 #[.pointer (some ⟨B,0,none⟩)] (fun b=>Tr b∨b = B) AtT (walk [] t) w:=by
 intro l J Jx S W hW hS hJ hJx hY h0
 refine callsIn_wide.2 ?_
 simp only [List.append_toArray,List.nil_append,List.cons_append]
 have ht2:Rep W Tr d t (nd t A c):=ht.later hTr hW
 have hB2:=hB.below hW hB.lt
 have hBS:¬ S B:=fun h=>(hS B h).2 (.inr rfl)
 obtain ⟨W3,hW3⟩:∃ W3,W3 = ((W.alloc (.cells #[.func (.yield l) #[] #[]] 89)).alloc (.cells #[.slice none 0 0] 22)).alloc (.cells #[.func (.func 72) #[] #[.pointer (some ⟨W.heap.size,0,none⟩),.pointer (some ⟨W.heap.size + 1,0,none⟩),.pointer (some ⟨W.heap.size + 1 + 1,0,none⟩)]] 30):=⟨_,rfl⟩
 have hz3:W3.heap.size = W.heap.size + 3:=by rw [hW3,size_alloc,size_alloc,size_alloc]
 have hb3:Below W.heap.size W W3:=by rw [hW3]; exact ba (ba (below_new _ _) _) _
 have hblk1:Blk W3 W.heap.size 89 #[.func (.yield l) #[] #[]]:=by rw [hW3]; exact ((Blk.new W _ _).alloc _).alloc _
 have hblk2:Blk W3 (W.heap.size + 1) 22 #[.slice none 0 0]:=by rw [hW3]; exact (Blk.new_at _ _ (by rw [size_alloc]) rfl).alloc _
 have hblk3:Blk W3 (W.heap.size + 2) 30 #[.func (.func 72) #[] #[.pointer (some ⟨W.heap.size,0,none⟩),.pointer (some ⟨W.heap.size + 1,0,none⟩),.pointer (some ⟨W.heap.size + 2,0,none⟩)]]:=by rw [hW3]; exact Blk.new_at _ _ (by rw [size_alloc,size_alloc]) rfl
 have hst:VSt W.heap.size l S W S W3 (.slice none 0 0) [] :=
  ⟨Mov.of_below hb3,hblk1.cell 0,hblk2,hblk3.cell 0,World.ownsRow_nil _ _ _ _,fun b hb=>.inl (hS b hb).1,fun g hg=>(by cases hg),by omega⟩
 have hj:J [] S W3:=hJ _ _ _ _ h0 ⟨hb3.os,hb3.tape,hb3.output,hb3.size,fun b hb=>hb3.block b (hS b hb).1⟩
 have hdt:=depth_le_size t
 have HV:=Lib.hid (visit_is l W.heap.size (n - 1) (walk [] t) J Jx S W rfl (fun b hb=>(hS b hb).1) hJ hJx Tr (fun b hb=>⟨Nat.lt_of_lt_of_le (hTr b hb) hW.size,fun h=>(hS b h).2 (.inl hb)⟩) hY d t A c S W3 (.slice none 0 0) [] [] ht2 hst hj (List.prefix_refl _) hsz (by simp only [List.length_nil]; omega))
 have HST:=Lib.hid hst
 have HX:Hid (∀ i y,[Value.int .i64 t.k,.int .i64 t.n,.int .i64 t.m,.slice A t.kids.length c][i]? = some y→W3.cell? ⟨B,0 + i,none⟩ = some y):=Lib.hid (fun i y hy=>by
  rw [(hB2.below hb3 hB2.lt).cell (0 + i),Nat.zero_add]; simpa using hy)
 have HW3:=Lib.hid hW3
 clear hW3 hY hS hJ hJx h0 ht ht2 hB hB2 hBS hst hj hblk1 hblk2 hblk3 hW hb3 hTr
 go_enter Tryd.func71,Tryd.ntmps71
 go_wp2_with (first
  | (refine wpList_load_mid rfl 25 (.tmp 1) rfl B 0 rfl [.int .i64 t.k,.int .i64 t.n,.int .i64 t.m,.slice A t.kids.length c] _ (by rw [← HW3.out]; exact HX.out) Tryd.underlying25 rfl (by rw [size_node]; rfl) ?_)
  | (go_at_call 72; rw [← HW3.out]; refine HV.out.mono ?_; rintro e W4 ⟨S4,v4,hm4,(⟨rfl,hj4,hst4⟩ | ⟨rfl,q,hq,hx4⟩)⟩))
 ·go_end0
  exact ⟨⟨_,rfl⟩,S4,HST.out.mov_of rfl hm4,.inl (by simpa using hj4)⟩
 ·go_end0
  exact ⟨⟨_,rfl⟩,S4,HST.out.mov_of rfl hm4,.inr ⟨q,hq,by simpa using hx4⟩⟩
end Go.Proofs.YtkkenbalpnmfmaaDoor

namespace Go.Proofs.YtkkenbalpnmfmaaDoor
open Go.RowKit Go.Shelf WM TR
attribute [local go_sem] Oper.semAt_some

theorem zip2 {f:Array Value→Tmp × Value→Array Value} {t:Array Value} {p q:Tmp} {x y:Value}:(Array.zip #[p,q] #[x,y]).foldl f t = f (f t (p,x)) (q,y):=by simp
theorem walk_length:∀ (p:List Int) (t:T),(walk p t).length = size t:=by
 intro p t
 induction h:SizeOf.sizeOf t using Nat.strongRecOn generalizing p t with
 | ind n ih =>
  subst h
  have:∀ j,j≤t.kids.length→(walks p t.kids j).length = sizes t.kids j:=by
   intro j
   induction j with
   | zero=>intro _; rfl
   | succ j ihj =>
    intro hj
    obtain ⟨u,hu⟩:∃ u,t.kids[j]? = some u:=⟨_,List.getElem?_eq_getElem (by omega)⟩
    rw [walks_next hu,sizes_next hu,List.length_append,ihj (by omega),ih _ (kid_lt (List.mem_of_getElem? hu)) _ u rfl]
  rw [walk_walks,List.length_cons,this _ (Nat.le_refl _),size_kids]
  omega
theorem Stay.blk {S:Nat→Prop} {A B:World} (h:Stay S A B) {g:Nat} {t:TypeId} {cs:Array Value} (hb:Blk A g t cs) (hg:S g):Blk B g t cs:=(h.same g hg).trans hb
theorem Off.blk {l:Nat} {A B:World} (h:Off l A B) {g:Nat} {t:TypeId} {cs:Array Value} (hb:Blk A g t cs) (hg:g≠l):Blk B g t cs:=(h.same g hg).trans hb
theorem AtT.size2 {x:List Int × T} {vs:Array Value} {S:Nat→Prop} {W:World} (h:AtT x vs S W):vs.size = 2:=by
 obtain ⟨A,c,B,d,k,rfl,_⟩:=h
 rfl
theorem Mov.ends {S0 S:Nat→Prop} {w0 w W:World} (h:Mov S0 w S W) (h0:Below w0.heap.size w0 w) (hS:∀ b,S0 b→w0.heap.size≤b) (o:Obj):Below w0.heap.size w0 (W.putObj w.heap.size o):=by
 have hb:=h0.trans (h.below h0.size hS)
 have ho:=Off.putObj W w.heap.size o
 exact ⟨ho.os.trans hb.os,ho.tape.trans hb.tape,ho.output.trans hb.output,by rw [ho.size]; exact hb.size,fun b hb'=>(ho.same b (by have:=h0.size; omega)).trans (hb.block b hb')⟩
end Go.Proofs.YtkkenbalpnmfmaaDoor

namespace Go.Proofs.YtkkenbalpnmfmaaDoor
open Go.RowKit Go.Shelf WM TR

def deepest (a:Nat) (pre:List (List Int × T)):Nat:=pre.foldl (fun a x=>max a (1 + x.1.length)) a

theorem deepest_walk (p:List Int) (t:T) (a:Nat):deepest a (walk p t) = max a (p.length + depth t):=by
 induction h:SizeOf.sizeOf t using Nat.strongRecOn generalizing p t a with
 | ind n ih =>
  subst h
  have hj:∀ (a':Nat) j,j≤t.kids.length→p.length + 1≤a'→deepest a' (walks p t.kids j) = max a' (p.length + 1 + depths t.kids j):=by
   intro a' j
   induction j with
   | zero =>
    intro _ h
    have:depths t.kids 0 = 0:=rfl
    rw [walks_zero,this]
    show a' = _
    omega
   | succ j ihj =>
    intro hj ha
    obtain ⟨u,hu⟩:∃ u,t.kids[j]? = some u:=⟨_,List.getElem?_eq_getElem (by omega)⟩
    have h1:deepest a' (walks p t.kids j ++ walk (p ++ [(j:Int)]) u) = deepest (deepest a' (walks p t.kids j)) (walk (p ++ [(j:Int)]) u):=by simp [deepest,List.foldl_append]
    rw [walks_next hu,h1,ihj (by omega) ha,ih _ (kid_lt (List.mem_of_getElem? hu)) _ u _ rfl,depths_next hu,List.length_append,List.length_singleton]
    omega
  rw [walk_walks]
  have h1:deepest a ((p,t) :: walks p t.kids t.kids.length) = deepest (max a (1 + p.length)) (walks p t.kids t.kids.length):=rfl
  rw [h1,hj _ _ (Nat.le_refl _) (by omega),depth_kids]
  omega

end Go.Proofs.YtkkenbalpnmfmaaDoor
namespace Go.Proofs.YtkkenbalpnmfmaaDoor.TR
theorem walk_size (p:List Int) (t:T):∀ x ∈ walk p t,size x.2≤size t:=by
 induction h:SizeOf.sizeOf t using Nat.strongRecOn generalizing p t with
 | ind n ih =>
  subst h
  have hj:∀ j,j≤t.kids.length→∀ x ∈ walks p t.kids j,size x.2≤size t:=by
   intro j
   induction j with
   | zero=>intro _ x hx; rw [walks_zero] at hx; cases hx
   | succ j ihj =>
    intro hj x hx
    obtain ⟨u,hu⟩:∃ u,t.kids[j]? = some u:=⟨_,List.getElem?_eq_getElem (by omega)⟩
    rw [walks_next hu] at hx
    rcases List.mem_append.1 hx with hx | hx
    ·exact ihj (by omega) x hx
    ·have:=ih _ (kid_lt (List.mem_of_getElem? hu)) _ u rfl x hx
     have:=size_kid hu
     omega
  intro x hx
  rw [walk_walks] at hx
  rcases List.mem_cons.1 hx with rfl | hx
  ·exact Nat.le_refl _
  ·exact hj _ (Nat.le_refl _) x hx
end Go.Proofs.YtkkenbalpnmfmaaDoor.TR
