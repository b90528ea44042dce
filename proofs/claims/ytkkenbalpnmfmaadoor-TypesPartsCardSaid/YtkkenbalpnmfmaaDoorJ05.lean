/- Texts joined. -/
import Derived.Test.YtkkenbalpnmfmaaDoorJ03
import Derived.Test.YtkkenbalpnmfmaaDoorJ04
import Derived.LoopTactic
import Derived.WalkLawsBesides
import Derived.Deep.RegionWith
set_option linter.unusedVariables false
namespace Go.Proofs.YtkkenbalpnmfmaaDoor
open Go.RowKit WM TR

theorem ret_i {a b:Int} (h:a = b):Ending.returned (.int .i64 a) = .returned (.int .i64 b):=by rw [h]
theorem ret_b {a b:Bool} (h:a = b):Ending.returned (.bool a) = .returned (.bool b):=by rw [h]
theorem around_is (x n : Int) (hx : inRange x) (hn : 0 < n) (w : World) :
  Calls Tryd.prog 21 #[.int .i64 x,.int .i64 n] w fun e w'=>e = .returned (.int .i64 (arnd x n))∧w = w':=by
 unfold inRange at hx
 by_cases h:x < 0
 ·have hr:arnd x n = (-(x + 1)) % n:=by unfold arnd; rw [if_pos h]
  rw [hr]
  clear hr
  go_enter Tryd.func21,Tryd.ntmps21
  go_wp2
  go_ret
  exact ⟨ret_i (by rw [← Int.neg_tmod,Int.tmod_eq_emod_of_nonneg (by omega)]),rfl⟩
 ·have hr:arnd x n = x % n:=by unfold arnd; rw [if_neg h]
  rw [hr]
  clear hr
  go_enter Tryd.func21,Tryd.ntmps21
  go_wp2
  go_ret
  exact ⟨rfl,rfl⟩

set_option maxRecDepth 100000 in
set_option maxHeartbeats 1000000 in
theorem at_is (L : List Int) (S : Nat → Prop) (A : Option Addr) (c : Nat) (i : Nat) (n : Int) (w : World) (hL : Rd w S 1 A L.length (vi L)) (hr : ∀ x ∈ L, inRange x) (hn : 0 < n) (hl : L.length ≤ 9223372036854775807) (hi : i ≤ 1000000) :
  Calls Tryd.prog 22 #[.slice A L.length c,.int .i64 (i:Int),.int .i64 n] w fun e w'=>e = .returned (.int .i64 (numAt L i n))∧w = w':=by
 obtain ⟨l,hl2⟩:∃ l,l = L.length:=⟨_,rfl⟩
 rw [← hl2] at hL hl ⊢
 by_cases h:i < l
 ·obtain ⟨x,hx⟩:∃ x,L[i]? = some x:=⟨_,List.getElem?_eq_getElem (by rw [← hl2]; exact h)⟩
  have hnum:numAt L i n = arnd x n:=by unfold numAt; rw [hx]
  have hxr:=hr x (List.mem_of_getElem? hx)
  obtain ⟨b,off,hA,_,hc⟩:=hL.lit (by omega)
  subst hA
  have hcell:=hc i _ (vi_get hx)
  have HX:=Lib.hid hxr
  rw [hnum]
  clear hc hnum hx hxr hr hL hl2
  go_enter Tryd.func22,Tryd.ntmps22
  go_wp2_with (go_at_call 21; refine (around_is x n HX.out hn _).mono ?_; rintro e w' ⟨rfl,rfl⟩)
  go_ret
  exact ⟨rfl,rfl⟩
 ·have hnum:numAt L i n = 0:=by unfold numAt; rw [List.getElem?_eq_none (by omega)]
  rw [hnum]
  clear hnum hr hL hl2
  go_enter Tryd.func22,Tryd.ntmps22
  go_wp2_with fail
  go_ret
  exact ⟨rfl,rfl⟩

end Go.Proofs.YtkkenbalpnmfmaaDoor

namespace Go.Proofs.YtkkenbalpnmfmaaDoor
open Go.RowKit WM TR

theorem size_node:(Tryd.prog.info? 25).map (·.size) = some 4:=by kernel_rfl


end Go.Proofs.YtkkenbalpnmfmaaDoor

namespace Go.Proofs.YtkkenbalpnmfmaaDoor
open Go.RowKit WM TR

def mkc (A:Option Addr) (l c:Nat) (a:Nat) (left:Int):Array Value:=#[.slice A l c,.int .i64 (a:Int),.int .i64 left]


end Go.Proofs.YtkkenbalpnmfmaaDoor

namespace Go.Proofs.YtkkenbalpnmfmaaDoor
open Go.RowKit WM TR

theorem in0:inRange 0:=by unfold inRange; omega
theorem ints_slice:Tryd.prog.underlying 22 = some (.slice (Tryd.prog.elem 22)):=by kernel_rfl
theorem ints_elem:Tryd.prog.elem 22 = 3:=by kernel_rfl
theorem size3 (W:World):(sizeOf 3).run Tryd.prog W = .ok 1 W:=by kernel_rfl


set_option maxRecDepth 100000 in
set_option maxHeartbeats 1000000 in
theorem sameInts_is (l m : List Int) (S : Nat → Prop) (A B : Option Addr) (c c' : Nat) (w : World) (hl : Rd w S 1 A l.length (vi l)) (hm : Rd w S 1 B m.length (vi m)) (hin : In S w.heap.size) (hll : l.length ≤ 1000000) (hml : m.length ≤ 1000000) (r : Bool) (hr : decide (l = m) = r) :
  Calls Tryd.prog 35 #[.slice A l.length c,.slice B m.length c'] w fun e w'=>e = .returned (.bool r)∧Below w.heap.size w w':=by
 obtain ⟨a,ha⟩:∃ a,a = l.length:=⟨_,rfl⟩
 obtain ⟨b,hb⟩:∃ b,b = m.length:=⟨_,rfl⟩
 rw [← ha] at hl hll ⊢
 rw [← hb] at hm hml ⊢
 have HA:=Lib.hid ha
 have HB:=Lib.hid hb
 have HL:=Lib.hid hl
 have HM:=Lib.hid hm
 have HI:=Lib.hid hin
 have HR:=Lib.hid hr
 clear ha hb hl hm hin hr
 by_cases hab:a = b
 ·have hne:((a:Int) != b) = false:=by rw [hab]; simp
  have HAB:=Lib.hid hab
  have hab2:a≤b:=by omega
  clear hab
  go_enter Tryd.func35,Tryd.ntmps35
  go_wp2_with fail
  go_loopw [5] (fun i wr=>∃ j:Nat,j≤a∧i = .int .i64 j∧Hid (l.take j = m.take j)∧Hid (Below w.heap.size w wr)) (fun i _=>a - (intOf i).toNat)
  case atStart=>exact ⟨0,Nat.zero_le _,rfl,by simp [Hid],Below.refl _ _⟩
  case round =>
   obtain ⟨j,hj,rfl,HE,HBW⟩:=hrel
   by_cases hlt:j < a
   ·obtain ⟨x,hx⟩:∃ x,l[j]? = some x:=⟨_,List.getElem?_eq_getElem (by rw [← HA.out]; exact hlt)⟩
    obtain ⟨y,hy⟩:∃ y,m[j]? = some y:=⟨_,List.getElem?_eq_getElem (by rw [← HB.out]; omega)⟩
    obtain ⟨g1,o1,hA1,hs1,hc1⟩:=HL.out.lit (by omega)
    obtain ⟨g2,o2,hA2,hs2,hc2⟩:=HM.out.lit (by omega)
    subst hA1 hA2
    have hcx:=(HBW.out.cell (p:=⟨g1,o1 + j,none⟩) (HI.out _ hs1)).trans (hc1 j _ (vi_get hx))
    have hcy:=(HBW.out.cell (p:=⟨g2,o2 + j,none⟩) (HI.out _ hs2)).trans (hc2 j _ (vi_get hy))
    have hi1:(0:Int)≤j∧(j:Int) < a:=⟨by omega,by omega⟩
    have hi2:(0:Int)≤j∧(j:Int) < b:=⟨by omega,by omega⟩
    by_cases hxy:x = y
    ·have hnn:(x != y) = false:=by rw [hxy]; simp
     have HE2:Hid (l.take (j + 1) = m.take (j + 1)):=Lib.hid (by rw [List.take_add_one,List.take_add_one,HE.out,hx,hy,hxy])
     clear hx hy hc1 hc2 hs1 hs2 hxy
     go_wp2_with fail
     go_quiet (fail)
     go_wp2_with fail
     go_roundw
     case rel=>exact ⟨j + 1,by omega,by go_num,HE2.out,below_drewN HBW.out _⟩
     case measure=>simp [intOf]; omega
    ·have hnn:(x != y) = true:=by simpa using hxy
     have HF:Hid (false = r):=Lib.hid (by
      rw [← HR.out]
      symm
      rw [decide_eq_false_iff_not]
      intro e
      rw [e,hy] at hx
      exact hxy (Option.some.inj hx).symm)
     clear hx hy hc1 hc2 hs1 hs2 hxy
     go_wp2_with fail
     go_quiet (fail)
     go_wp2_with fail
     go_ret
     exact ⟨ret_b HF.out,below_drewN HBW.out _⟩
   ·have HF : Hid (true = r) := Lib.hid (by
     rw [← HR.out]
     symm
     rw [decide_eq_true_eq]
     have h:=HE.out
     rwa [List.take_of_length_le (by rw [← HA.out]; omega),List.take_of_length_le (by rw [← HB.out,← HAB.out]; omega)] at h)
    go_wp2_with fail
    go_ret
    exact ⟨ret_b HF.out,HBW.out⟩
 ·have hne:((a:Int) != b) = true:=by simp; omega
  have HF:Hid (false = r):=Lib.hid (by
   rw [← HR.out]
   symm
   rw [decide_eq_false_iff_not]
   intro e
   exact hab (by rw [HA.out,HB.out,e]))
  clear hab
  go_enter Tryd.func35,Tryd.ntmps35
  go_wp2_with fail
  go_ret
  exact ⟨ret_b HF.out,Below.refl _ _⟩
end Go.Proofs.YtkkenbalpnmfmaaDoor

namespace Go.Proofs.YtkkenbalpnmfmaaDoor
open Go.RowKit WM TR

def zeroT:T:=⟨0,0,0,[]⟩
def ldN (v:Value):Sem Value:=Instr.loadAt 25 v
theorem shutN (v:Value):Instr.loadAt 25 v = ldN v:=rfl
theorem load_nd {W : World} {b o : Nat} {t : T} {A : Option Addr} {c : Nat} (h : ∀ i v, (nd t A c)[i]? = some v → W.cell? ⟨b, o + i, none⟩ = some v) :
  (ldN (.pointer (some ⟨b,o,none⟩))).run Tryd.prog W = .ok (.agg #[.int .i64 t.k,.int .i64 t.n,.int .i64 t.m,.slice A t.kids.length c]) W :=
 run_loadAt_mid W b o 25 (nd t A c) _ h Tryd.underlying25 rfl (by rw [size_node]; rfl)

end Go.Proofs.YtkkenbalpnmfmaaDoor
