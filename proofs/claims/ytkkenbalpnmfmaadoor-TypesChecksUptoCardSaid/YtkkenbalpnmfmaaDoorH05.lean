/- Texts joined. -/
import Derived.Test.YtkkenbalpnmfmaaDoorH03
import Derived.Test.YtkkenbalpnmfmaaDoorH04
import Derived.LoopTactic
import Derived.WalkLawsBesides
import Derived.Deep.RegionWith
set_option linter.unusedVariables false
namespace Go.Proofs.YtkkenbalpnmfmaaDoor
open Go.RowKit WM TR

theorem ret_i {a b:Int} (h:a = b):Ending.returned (.int .i64 a) = .returned (.int .i64 b):=by rw [h]
theorem ret_b {a b:Bool} (h:a = b):Ending.returned (.bool a) = .returned (.bool b):=by rw [h]
theorem around_is (x n : Int) (hx : inRange x) (hn : 0 < n) (w : World) :
  Calls Tryd.prog 21 #[.int .i64 x,.int .i64 n] w fun e w'=>e = .returned (.int .i64 (arnd x n))∧w = w':=by
 unfold inRange at hx
 by_cases h:x < 0
 ·have hr:arnd x n = (-(x + 1)) % n:=by unfold arnd; rw [if_pos h]
  rw [hr]
  clear hr
  go_enter Tryd.func21,Tryd.ntmps21
  go_wp2
  go_ret
  exact ⟨ret_i (by rw [← Int.neg_tmod,Int.tmod_eq_emod_of_nonneg (by omega)]),rfl⟩
 ·have hr:arnd x n = x % n:=by unfold arnd; rw [if_neg h]
  rw [hr]
  clear hr
  go_enter Tryd.func21,Tryd.ntmps21
  go_wp2
  go_ret
  exact ⟨rfl,rfl⟩

set_option maxRecDepth 100000 in
set_option maxHeartbeats 1000000 in
theorem at_is (L : List Int) (S : Nat → Prop) (A : Option Addr) (c : Nat) (i : Nat) (n : Int) (w : World) (hL : Rd w S 1 A L.length (vi L)) (hr : ∀ x ∈ L, inRange x) (hn : 0 < n) (hl : L.length ≤ 9223372036854775807) (hi : i ≤ 1000000) :
  Calls Tryd.prog 22 #[.slice A L.length c,.int .i64 (i:Int),.int .i64 n] w fun e w'=>e = .returned (.int .i64 (numAt L i n))∧w = w':=by
 obtain ⟨l,hl2⟩:∃ l,l = L.length:=⟨_,rfl⟩
 rw [← hl2] at hL hl ⊢
 by_cases h:i < l
 ·obtain ⟨x,hx⟩:∃ x,L[i]? = some x:=⟨_,List.getElem?_eq_getElem (by rw [← hl2]; exact h)⟩
  have hnum:numAt L i n = arnd x n:=by unfold numAt; rw [hx]
  have hxr:=hr x (List.mem_of_getElem? hx)
  obtain ⟨b,off,hA,_,hc⟩:=hL.lit (by omega)
  subst hA
  have hcell:=hc i _ (vi_get hx)
  have HX:=Lib.hid hxr
  rw [hnum]
  clear hc hnum hx hxr hr hL hl2
  go_enter Tryd.func22,Tryd.ntmps22
  go_wp2_with (go_at_call 21; refine (around_is x n HX.out hn _).mono ?_; rintro e w' ⟨rfl,rfl⟩)
  go_ret
  exact ⟨rfl,rfl⟩
 ·have hnum:numAt L i n = 0:=by unfold numAt; rw [List.getElem?_eq_none (by omega)]
  rw [hnum]
  clear hnum hr hL hl2
  go_enter Tryd.func22,Tryd.ntmps22
  go_wp2_with fail
  go_ret
  exact ⟨rfl,rfl⟩

end Go.Proofs.YtkkenbalpnmfmaaDoor

namespace Go.Proofs.YtkkenbalpnmfmaaDoor
open Go.RowKit WM TR

theorem size_node:(Tryd.prog.info? 25).map (·.size) = some 4:=by kernel_rfl


end Go.Proofs.YtkkenbalpnmfmaaDoor

namespace Go.Proofs.YtkkenbalpnmfmaaDoor
open Go.RowKit WM TR

def mkc (A:Option Addr) (l c:Nat) (a:Nat) (left:Int):Array Value:=#[.slice A l c,.int .i64 (a:Int),.int .i64 left]

set_option maxRecDepth 100000 in
set_option maxHeartbeats 1000000 in
theorem num_is (L : List Int) (S : Nat → Prop) (A : Option Addr) (c : Nat) (g a : Nat) (left n : Int) (w : World) (hg : Blk w g 60 (mkc A L.length c a left)) (hS : ∀ b, S b → b ≠ g) (hL : Rd w S 1 A L.length (vi L)) (hr : ∀ x ∈ L, inRange x)
  (hn:0 < n) (hl:L.length≤9223372036854775807) (ha:a≤999999) :
  Calls Tryd.prog 42 #[.pointer (some ⟨g,0,none⟩),.int .i64 n] w fun e w'=>e = .returned (.int .i64 (numAt L a n))∧Blk w' g 60 (mkc A L.length c (a + 1) left)∧w.grownBy w' (some g):=by
 have h0:=hg.cell 0
 have h1:=hg.cell 1
 have f1:=hg.frozen 1
 have HG:=Lib.hid hg
 have HL:=Lib.hid hL
 have HS:=Lib.hid hS
 simp only [mkc,List.getElem?_toArray,List.getElem?_cons_zero,List.getElem?_cons_succ] at h0 h1
 clear hg hL hS
 go_enter Tryd.func42,Tryd.ntmps42
 go_wp2_with fail
 obtain ⟨W2,hW2⟩:∃ W2,W2 = w.setCell ⟨g,1,none⟩ (.int .i64 ((a:Int) + 1)):=⟨_,rfl⟩
 have HG2:Hid (Blk W2 g 60 (mkc A L.length c (a + 1) left)):=Lib.hid (by rw [hW2]; exact HG.out.set_ 1 _)
 have HW:Hid (w.grownBy W2 (some g)):=Lib.hid (by rw [hW2]; exact ⟨rfl,rfl,rfl,by simp,fun k _ hk=>Below.heap_setCell w ⟨g,1,none⟩ _ k (fun e=>hk (by rw [e]))⟩)
 have HL2:Hid (Rd W2 S 1 A L.length (vi L)):=Lib.hid (HL.out.keep (by rw [hW2]; exact (Keeps.refl S w).setCell (fun h=>HS.out _ h rfl) _))
 rw [← hW2]
 clear hW2 h0 h1 f1
 have h0:=HG2.out.cell 0
 have h1:=HG2.out.cell 1
 simp only [mkc,List.getElem?_toArray,List.getElem?_cons_zero,List.getElem?_cons_succ] at h0 h1
 go_quiet ((go_at_call 22; exact quiet_left (at_is L S A c a n _ HL2.out hr hn hl (by omega))))
 go_wp2_with fail
 go_ret
 exact ⟨rfl,HG2.out.drewN _,⟨HW.out.os,HW.out.tape,HW.out.output,HW.out.size,HW.out.block⟩⟩
end Go.Proofs.YtkkenbalpnmfmaaDoor

namespace Go.Proofs.YtkkenbalpnmfmaaDoor
open Go.RowKit WM TR

theorem in0:inRange 0:=by unfold inRange; omega
theorem ints_slice:Tryd.prog.underlying 22 = some (.slice (Tryd.prog.elem 22)):=by kernel_rfl
theorem ints_elem:Tryd.prog.elem 22 = 3:=by kernel_rfl
theorem size3 (W:World):(sizeOf 3).run Tryd.prog W = .ok 1 W:=by kernel_rfl
theorem cut1 (b off n c:Nat) (hn:1≤n):∀ W:World,(Instr.sliceAt 22 (.slice (some ⟨b,off,none⟩) n c) (some (.int .i64 1)) none none).run Tryd.prog W = .ok (.slice (if c = 1 then some ⟨b,off,none⟩ else some ⟨b,off + 1,none⟩) (n - 1) (c - 1)) W:=by
 intro W
 rw [run_sliceAt_slice W 22 _ _ _ _ ints_slice,run_slice_l W 22 (some ⟨b,off,none⟩) n c ints_slice .i64 1 (by omega) (by omega),ints_elem,size3]
 by_cases h:c = 1
 ·subst h; simp [sliced]
 ·simp [sliced,h,Addr.add]
theorem Rd.cut1 {w : World} {S : Nat → Prop} {b off n c : Nat} {i : Int} {p : List Int} (h : Rd w S 1 (some ⟨b, off, none⟩) (n + 1) (vi (i :: p))) (hc : n + 1 ≤ c) :
  Rd w S 1 (if c = 1 then some ⟨b,off,none⟩ else some ⟨b,off + 1,none⟩) n (vi p):=by
 refine ⟨by have:=h.1; simp [vi] at this ⊢; omega,fun hn=>?_⟩
 obtain ⟨ad,e,hb,hcell⟩:=h.2 (by omega)
 injection e with e
 subst e
 rw [if_neg (by omega)]
 refine ⟨_,rfl,hb,fun j u hu=>?_⟩
 have:=hcell (j + 1) u (by simpa [vi] using hu)
 rw [Addr.add_lit] at this ⊢
 rwa [show off + 1 + j = off + (j + 1) by omega]

set_option maxRecDepth 100000 in
set_option maxHeartbeats 1000000 in
theorem sameInts_is (l m : List Int) (S : Nat → Prop) (A B : Option Addr) (c c' : Nat) (w : World) (hl : Rd w S 1 A l.length (vi l)) (hm : Rd w S 1 B m.length (vi m)) (hin : In S w.heap.size) (hll : l.length ≤ 1000000) (hml : m.length ≤ 1000000) (r : Bool) (hr : decide (l = m) = r) :
  Calls Tryd.prog 35 #[.slice A l.length c,.slice B m.length c'] w fun e w'=>e = .returned (.bool r)∧Below w.heap.size w w':=by
 obtain ⟨a,ha⟩:∃ a,a = l.length:=⟨_,rfl⟩
 obtain ⟨b,hb⟩:∃ b,b = m.length:=⟨_,rfl⟩
 rw [← ha] at hl hll ⊢
 rw [← hb] at hm hml ⊢
 have HA:=Lib.hid ha
 have HB:=Lib.hid hb
 have HL:=Lib.hid hl
 have HM:=Lib.hid hm
 have HI:=Lib.hid hin
 have HR:=Lib.hid hr
 clear ha hb hl hm hin hr
 by_cases hab:a = b
 ·have hne:((a:Int) != b) = false:=by rw [hab]; simp
  have HAB:=Lib.hid hab
  have hab2:a≤b:=by omega
  clear hab
  go_enter Tryd.func35,Tryd.ntmps35
  go_wp2_with fail
  go_loopw [5] (fun i wr=>∃ j:Nat,j≤a∧i = .int .i64 j∧Hid (l.take j = m.take j)∧Hid (Below w.heap.size w wr)) (fun i _=>a - (intOf i).toNat)
  case atStart=>exact ⟨0,Nat.zero_le _,rfl,by simp [Hid],Below.refl _ _⟩
  case round =>
   obtain ⟨j,hj,rfl,HE,HBW⟩:=hrel
   by_cases hlt:j < a
   ·obtain ⟨x,hx⟩:∃ x,l[j]? = some x:=⟨_,List.getElem?_eq_getElem (by rw [← HA.out]; exact hlt)⟩
    obtain ⟨y,hy⟩:∃ y,m[j]? = some y:=⟨_,List.getElem?_eq_getElem (by rw [← HB.out]; omega)⟩
    obtain ⟨g1,o1,hA1,hs1,hc1⟩:=HL.out.lit (by omega)
    obtain ⟨g2,o2,hA2,hs2,hc2⟩:=HM.out.lit (by omega)
    subst hA1 hA2
    have hcx:=(HBW.out.cell (p:=⟨g1,o1 + j,none⟩) (HI.out _ hs1)).trans (hc1 j _ (vi_get hx))
    have hcy:=(HBW.out.cell (p:=⟨g2,o2 + j,none⟩) (HI.out _ hs2)).trans (hc2 j _ (vi_get hy))
    have hi1:(0:Int)≤j∧(j:Int) < a:=⟨by omega,by omega⟩
    have hi2:(0:Int)≤j∧(j:Int) < b:=⟨by omega,by omega⟩
    by_cases hxy:x = y
    ·have hnn:(x != y) = false:=by rw [hxy]; simp
     have HE2:Hid (l.take (j + 1) = m.take (j + 1)):=Lib.hid (by rw [List.take_add_one,List.take_add_one,HE.out,hx,hy,hxy])
     clear hx hy hc1 hc2 hs1 hs2 hxy
     go_wp2_with fail
     go_quiet (fail)
     go_wp2_with fail
     go_roundw
     case rel=>exact ⟨j + 1,by omega,by go_num,HE2.out,below_drewN HBW.out _⟩
     case measure=>simp [intOf]; omega
    ·have hnn:(x != y) = true:=by simpa using hxy
     have HF:Hid (false = r):=Lib.hid (by
      rw [← HR.out]
      symm
      rw [decide_eq_false_iff_not]
      intro e
      rw [e,hy] at hx
      exact hxy (Option.some.inj hx).symm)
     clear hx hy hc1 hc2 hs1 hs2 hxy
     go_wp2_with fail
     go_quiet (fail)
     go_wp2_with fail
     go_ret
     exact ⟨ret_b HF.out,below_drewN HBW.out _⟩
   ·have HF : Hid (true = r) := Lib.hid (by
     rw [← HR.out]
     symm
     rw [decide_eq_true_eq]
     have h:=HE.out
     rwa [List.take_of_length_le (by rw [← HA.out]; omega),List.take_of_length_le (by rw [← HB.out,← HAB.out]; omega)] at h)
    go_wp2_with fail
    go_ret
    exact ⟨ret_b HF.out,HBW.out⟩
 ·have hne:((a:Int) != b) = true:=by simp; omega
  have HF:Hid (false = r):=Lib.hid (by
   rw [← HR.out]
   symm
   rw [decide_eq_false_iff_not]
   intro e
   exact hab (by rw [HA.out,HB.out,e]))
  clear hab
  go_enter Tryd.func35,Tryd.ntmps35
  go_wp2_with fail
  go_ret
  exact ⟨ret_b HF.out,Below.refl _ _⟩
end Go.Proofs.YtkkenbalpnmfmaaDoor

namespace Go.Proofs.YtkkenbalpnmfmaaDoor
open Go.RowKit WM TR

def zeroT:T:=⟨0,0,0,[]⟩
def ldN (v:Value):Sem Value:=Instr.loadAt 25 v
theorem shutN (v:Value):Instr.loadAt 25 v = ldN v:=rfl
theorem load_nd {W : World} {b o : Nat} {t : T} {A : Option Addr} {c : Nat} (h : ∀ i v, (nd t A c)[i]? = some v → W.cell? ⟨b, o + i, none⟩ = some v) :
  (ldN (.pointer (some ⟨b,o,none⟩))).run Tryd.prog W = .ok (.agg #[.int .i64 t.k,.int .i64 t.n,.int .i64 t.m,.slice A t.kids.length c]) W :=
 run_loadAt_mid W b o 25 (nd t A c) _ h Tryd.underlying25 rfl (by rw [size_node]; rfl)

end Go.Proofs.YtkkenbalpnmfmaaDoor
