/- Texts joined. -/
import Derived.Test.YtkkenbalpnmfmaaDoorH07
import Derived.Test.YtkkenbalpnmfmaaDoorH11
import Derived.Deep.RegionWith
import Derived.Deep.RegionHeld3
set_option linter.unusedVariables false
namespace Go.Proofs.YtkkenbalpnmfmaaDoor
open Go.RowKit WM TR

structure Acc (a a':Nat) (l l':Int) (s m:Nat):Prop where
  lo:a≤a'
  hi:a'≤a + 3 * s
  left:l' = l - s
  bound:(s:Int)≤m + 4 * (max l 0 - max l' 0)
theorem Acc.nil (a:Nat) (l:Int):Acc a a l l 0 0:=⟨Nat.le_refl _,by omega,by omega,by omega⟩
theorem Acc.add {a b c:Nat} {l m n:Int} {s t p q:Nat} (h:Acc a b l m s p) (k:Acc b c m n t q):Acc a c l n (s + t) (p + q):=by
  obtain ⟨h1,h2,h3,h4⟩:=h
  obtain ⟨k1,k2,k3,k4⟩:=k
  exact ⟨by omega,by omega,by omega,by omega⟩

def GExprPost (L:List Int) (A:Option Addr) (c g d a:Nat) (l:Int) (w:World) (e:Ending) (w':World):Prop :=
  ∃ t A' c' a' l', e = .returned (.agg #[.int .i64 t.k, .int .i64 t.n, .int .i64 t.m, .slice A' t.kids.length c']) ∧ isExpr t = true ∧
      Rep w' (fun b=>w.heap.size≤b∧b < w'.heap.size) (d + 1) t (nd t A' c')∧Blk w' g 60 (mkc A L.length c a' l')∧w.grownBy w' (some g)∧Acc a a' l l' (size t) 1
def GExprC (L:List Int) (S:Nat→Prop) (A:Option Addr) (c g d:Nat):Prop :=
  ∀ (a:Nat) (l:Int) (w:World),Blk w g 60 (mkc A L.length c a l)→In S w.heap.size→Rd w S 1 A L.length (vi L)→a + 20000 * (d + 1)≤900000→-900000 + 20000 * ((d:Int) + 1)≤l→l≤1000 →
    ∀ D:Int,D = (d:Int)→Calls Tryd.prog 95 #[.pointer (some ⟨g,0,none⟩),.int .i64 D] w (GExprPost L A c g d a l w)
def GSomePost (L:List Int) (A:Option Addr) (c g d n a:Nat) (l:Int) (w:World) (e:Ending) (w':World):Prop :=
  ∃ (ts : List T) (A' : Option Addr) (c' a' : Nat) (l' : Int) (xs : List Value), e = .returned (.slice A' n c') ∧ n ≤ c' ∧ ts.length = n ∧ ts.all isExpr = true ∧ Rd w' (fun b => w.heap.size ≤ b ∧ b < w'.heap.size) 4 A' n xs ∧
      Reps w' (fun b=>w.heap.size≤b∧b < w'.heap.size) (d + 1) ts xs∧Blk w' g 60 (mkc A L.length c a' l')∧w.grownBy w' (some g)∧Acc a a' l l' ((ts.map size).sum) n

structure SomeR (L:List Int) (A:Option Addr) (c g d a:Nat) (l:Int) (w wr:World) (v:Value) (ts:List T) (xs:List Value) (a':Nat) (l':Int):Prop where
  mkr:Blk wr g 60 (mkc A L.length c a' l')
  grown:w.grownBy wr (some g)
  own:wr.ownsRow w.heap.size 25 4 v ts.length xs
  reps:Reps wr (fun b=>w.heap.size≤b∧b < wr.heap.size∧v.ownBlock≠some b) (d + 1) ts xs
  all:ts.all isExpr = true
  acc:Acc a a' l l' ((ts.map size).sum) ts.length
theorem SomeR.next {L : List Int} {A : Option Addr} {c g d a : Nat} {l : Int} {w wr w3 w4 : World} {v v4 : Value} {ts : List T} {xs : List Value} {a' a2 : Nat} {l' l2 : Int} {t : T} {A' : Option Addr} {c' : Nat} {o : Obj} (hg : g < w.heap.size)
    (h:SomeR L A c g d a l w wr v ts xs a' l') (he:isExpr t = true) (hr:Rep w3 (fun b=>wr.heap.size≤b∧b < w3.heap.size) (d + 1) t (nd t A' c')) (hm:Blk w3 g 60 (mkc A L.length c a2 l2)) (hg3:wr.grownBy w3 (some g)) (hacc:Acc a' a2 l' l2 (size t) 1)
    (hown4:w4.ownsRow w.heap.size 25 4 v4 (ts.length + 1) (xs ++ nd t A' c')) (hg4:(w3.alloc o).grownBy w4 v.ownBlock) (hnew:v4.ownBlock = v.ownBlock∨v4.ownBlock = some (w3.alloc o).heap.size) :
    SomeR L A c g d a l w w4 v4 (ts ++ [t]) (xs ++ nd t A' c') a2 l2:=by
  have hv:=h.own.lt
  have hs0:=h.grown.size
  have hs3:=hg3.size
  have hs4:=hg4.size
  have hsa:(w3.alloc o).heap.size = w3.heap.size + 1:=size_alloc _ _
  have keep:∀ b,b < w3.heap.size→v.ownBlock≠some b→w4.heap[b]? = w3.heap[b]?:=fun b hb hne =>
    (hg4.block b (by omega) (fun e=>hne e.symm)).trans (Below.heap_alloc w3 o b hb)
  have sort:∀ b,b < w3.heap.size→v.ownBlock≠some b→v4.ownBlock≠some b:=fun b hb hne e=>by
    rcases hnew with hn | hn
    · exact hne (hn ▸ e)
    · rw [hn] at e; have:=Option.some.inj e; omega
  refine ⟨?_,?_,by rw [List.length_append]; exact hown4,?_,by rw [List.all_append,h.all]; simp [he],?_⟩
  · exact (keep g (by have:=hm.lt; omega) (fun e=>by have:=(hv g e).1; omega)).trans hm
  · exact gw_row (gw_alloc (gw_trans h.grown hg3) o) hg4 (fun b hb=>(hv b hb).1)
  · refine Reps.snoc ((h.reps.keep (w':=w4) (fun b hb=>?_)).mono fun b hb=>?_) ((hr.keep (w':=w4) (fun b hb=>?_)).mono fun b hb=>?_)
    · exact (keep b (by omega) hb.2.2).trans (hg3.block b hb.2.1 (fun e=>by have:=Option.some.inj e; omega))
    · exact ⟨hb.1,by omega,sort b (by omega) hb.2.2⟩
    · exact keep b hb.2 (fun e=>by have:=(hv b e).2; omega)
    · have hne:v.ownBlock≠some b:=fun e=>by have:=(hv b e).2; omega
      exact ⟨by omega,by omega,sort b hb.2 hne⟩
  · have:=h.acc.add hacc
    simpa using this

set_option maxRecDepth 100000 in
set_option maxHeartbeats 4000000 in
theorem some_is (L : List Int) (S : Nat → Prop) (A : Option Addr) (c g d : Nat) (hS : ∀ b, S b → b ≠ g) (hE : GExprC L S A c g d) (n a : Nat) (l : Int) (w : World) (hm : Blk w g 60 (mkc A L.length c a l)) (hin : In S w.heap.size) (hL : Rd w S 1 A L.length (vi L)) (hn : n ≤ 3)
    (ha:a + 20000 * (d + 1) + 15000≤900000) (hl:-900000 + 20000 * ((d:Int) + 1) + 15000≤l) (hl2:l≤1000) (D:Int) (hD:D = (d:Int)) :
    Calls Tryd.prog 94 #[.pointer (some ⟨g,0,none⟩),.int .i64 (n:Int),.int .i64 D] w (GSomePost L A c g d n a l w):=by
  obtain ⟨i0,hi,hz0,hz1,hz2⟩:=info_parts node_info
  have HE:=Lib.hid hE
  have HM:=Lib.hid hm
  have HI:=Lib.hid hin
  have HL:=Lib.hid hL
  have HS:=Lib.hid hS
  have HD:=Lib.hid hD
  have HGL:Hid (g < w.heap.size):=Lib.hid hm.lt
  clear hE hm hin hL hS hD
  go_enter Tryd.func94,Tryd.ntmps94
  go_wp2_with fail
  go_loopw [7,8] (fun s i wr=>∃ (j:Nat) (v:Value) (ts:List T) (xs:List Value) (a':Nat) (l':Int),j≤n∧v = s∧i = .int .i64 j∧ts.length = j∧Hid (SomeR L A c g d a l w wr v ts xs a' l')) (fun _ i _=>n - (intOf i).toNat)
  case atStart=>exact ⟨0,_,[],[],a,l,Nat.zero_le _,rfl,rfl,rfl,HM.out,gw_refl w g,World.ownsRow_nil _ _ _ _,Reps.nil,rfl,Acc.nil a l⟩
  case round =>
    obtain ⟨j,v,ts,xs,a',l',hj,rfl,rfl,hts,HR⟩:=hrel
    by_cases hlt:j < n
    · have hlt2:(j:Int) < n:=by omega
      have hacc:=HR.out.acc
      have ha1:a' + 20000 * (d + 1)≤900000:=by obtain ⟨h1,h2,h3,h4⟩:=hacc; omega
      have hl1:-900000 + 20000 * ((d:Int) + 1)≤l':=by obtain ⟨h1,h2,h3,h4⟩:=hacc; omega
      have hl3:l'≤1000:=by obtain ⟨h1,h2,h3,h4⟩:=hacc; omega
      have HC:Hid (Calls Tryd.prog 95 #[.pointer (some ⟨g,0,none⟩),.int .i64 D] wr (GExprPost L A c g d a' l' wr)):=Lib.hid (HE.out a' l' wr HR.out.mkr (HI.out.more HR.out.grown.size) (HL.out.keep (Keeps.gw HR.out.grown HI.out HS.out)) ha1 hl1 hl3 D HD.out)
      have HTS:=Lib.hid hts
      clear hacc ha1 hl1 hl3 hts
      go_wp2_with (first
        | (go_at_call 95; refine HC.out.mono ?_; rintro e w3 ⟨t, A', c', a2, l2, rfl, he, hr3, hm3, hg3, hacc3⟩
           have HE3:=Lib.hid he; have HR3:=Lib.hid hr3; have HM3:=Lib.hid hm3; have HG3:=Lib.hid hg3; have HA3:=Lib.hid hacc3
           have HOW:Hid ((w3.alloc (.cells #[.int .i64 t.k,.int .i64 t.n,.int .i64 t.m,.slice A' t.kids.length c'] 25)).ownsRow w.heap.size 25 4 v ts.length xs):=Lib.hid ((HR.out.own.kept hg3 (.inr fun e=>by have:=(HR.out.own.lt _ e).1; have:=HGL.out; omega)).alloc _)
           clear he hr3 hm3 hg3 hacc3)
        | (at_builtin
           refine wpList_append_any _ rfl (.tmp 14) (.tmp 18) 23 rfl w.heap.size 25 i0 _ 4 48 Tryd.underlying23 hi hz0 hz1 hz2 rfl (by omega) _ ts.length xs rfl HOW.out _ (some ⟨w3.heap.size,0,none⟩) 1 1 (nd t A' c') rfl (reads_nd w3 t A' c') (nd_one t A' c') (len_le (by have:=HTS.out; omega)) (by have:=HTS.out; omega) (by have:=HR.out.grown.size; have:=HG3.out.size; rw [size_alloc]; omega) ?_
           intro v4 w4 hown4 hgrow4 hnew4
           have HO4:=Lib.hid hown4; have HG4:=Lib.hid hgrow4; have HN4:=Lib.hid hnew4
           clear hown4 hgrow4 hnew4))
      go_roundw
      case rel=>exact ⟨j + 1,_,ts ++ [t],xs ++ nd t A' c',a2,l2,by omega,rfl,by go_num,by rw [List.length_append,HTS.out]; rfl,SomeR.next HGL.out HR.out HE3.out HR3.out HM3.out HG3.out HA3.out HO4.out HG4.out HN4.out⟩
      case measure=>simp [intOf]; omega
    · have hjn:j = n:=by omega
      subst hjn
      obtain ⟨A9,c9,hv,hcap⟩:=own_len HR.out.own
      rw [hts] at hv hcap
      subst hv
      have HTS:=Lib.hid hts
      have HCAP:=Lib.hid hcap
      clear hts hcap
      go_wp2_with fail
      go_ret
      exact ⟨ts,A9,c9,a',l',xs,rfl,HCAP.out,HTS.out,HR.out.all,by have h:=HR.out.own; rw [HTS.out] at h; exact Rd.of_own h,HR.out.reps.mono fun b hb=>⟨hb.1,hb.2.1⟩,HR.out.mkr,HR.out.grown,by have h:=HR.out.acc; rw [HTS.out] at h; exact h⟩
end Go.Proofs.YtkkenbalpnmfmaaDoor
