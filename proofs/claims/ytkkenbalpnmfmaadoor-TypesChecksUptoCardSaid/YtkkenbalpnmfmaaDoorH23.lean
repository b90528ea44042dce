/- Texts joined. -/
import Derived.Test.YtkkenbalpnmfmaaDoorH05
set_option linter.unusedVariables false
namespace Go.Proofs.YtkkenbalpnmfmaaDoor
open Go.RowKit WM TR


set_option maxRecDepth 100000 in
set_option maxHeartbeats 1000000 in
theorem rsize_is : ∀ (d : Nat) (t : T) (S : Nat → Prop) (A : Option Addr) (c : Nat) (w : World), Rep w S d t (nd t A c) → In S w.heap.size → size t ≤ 1000000 →
  Calls Tryd.prog 14 #[.agg #[.int .i64 t.k,.int .i64 t.n,.int .i64 t.m,.slice A t.kids.length c]] w fun e w'=>e = .returned (.int .i64 (size t:Int))∧Below w.heap.size w w':=by
 intro d
 induction d with
 | zero=>intro t S A c w h; exact h.elim
 | succ d ih =>
  intro t S A c w h hin hs
  obtain ⟨len,hlen⟩:∃ len,len = t.kids.length:=⟨_,rfl⟩
  have hsz:=size_kids t
  have hcap:=h.cap
  have hl6:=kids_lt t
  rw [← hlen] at hsz hcap hl6 ⊢
  have hl6:len≤1000000:=by omega
  have hle:=sizes_le t.kids
  have hse:=size_eq t
  have H:=Lib.hid h
  have HI:=Lib.hid hin
  have HLEN:=Lib.hid hlen
  have HSZ:=Lib.hid hsz
  have HLE:=Lib.hid hle
  have HSE:=Lib.hid hse
  have HS:=Lib.hid hs
  clear h hin hlen hsz hle hse hs
  go_enter Tryd.func14,Tryd.ntmps14
  go_wp2_with fail
  obtain ⟨W0,hW0⟩:∃ W0,W0 = w.alloc (.cells #[.int .i64 t.k,.int .i64 t.n,.int .i64 t.m,.slice A len c] 25):=⟨_,rfl⟩
  have HC3:Hid (W0.cell? ⟨w.heap.size,3,none⟩ = some (.slice A len c)):=Lib.hid (by rw [hW0]; exact (Blk.new w _ _).cell 3)
  have HB0:Hid (Below w.heap.size w W0):=Lib.hid (by rw [hW0]; exact below_new _ _)
  have hz0:w.heap.size < W0.heap.size:=by rw [hW0,size_alloc]; omega
  rw [← hW0]
  clear hW0
  go_loopw [3,4] (fun s i wr=>∃ j:Nat,j≤len∧i = .int .i64 j∧s = .int .i64 ((1 + sizes t.kids j:Nat):Int)∧Hid (Below W0.heap.size W0 wr)) (fun _ i _=>len - (intOf i).toNat)
  case atStart=>exact ⟨0,Nat.zero_le _,rfl,rfl,Below.refl _ _⟩
  case round =>
   obtain ⟨j,hj,rfl,rfl,HB⟩:=hrel
   have hc3:=(HB.out.cell (p:=⟨w.heap.size,3,none⟩) hz0).trans HC3.out
   have hle:=HLE.out j
   have hs:=HS.out
   have hse:=HSE.out
   obtain ⟨Z,hS⟩:∃ Z,Z = 1 + sizes t.kids j:=⟨_,rfl⟩
   have hS2:Z≤1000000:=by omega
   rw [← hS]
   by_cases hlt:j < len
   ·obtain ⟨u,hu⟩:∃ u,t.kids[j]? = some u:=⟨_,List.getElem?_eq_getElem (by rw [← HLEN.out]; exact hlt)⟩
    have hr:=(H.out.later HI.out HB0.out).later (HI.out.more (Nat.le_of_lt hz0)) HB.out
    obtain ⟨b,off,A',c',hA,hb,hcells,hru⟩:=hr.kid hu
    subst hA
    have hnx:=sizes_next hu
    have hsu:=size_kid hu
    obtain ⟨z,hz⟩:∃ z,z = size u:=⟨_,rfl⟩
    have hz2:z≤1000000:=by omega
    have HZ:=Lib.hid hz.symm
    have HN:Hid (1 + sizes t.kids (j + 1) = Z + z):=Lib.hid (by rw [hS,hz,hnx]; omega)
    have HR:=Lib.hid hru
    have HIR:Hid (In S wr.heap.size):=Lib.hid (HI.out.more (Nat.le_trans (Nat.le_of_lt hz0) HB.out.size))
    have HCL:=Lib.hid hcells
    have hcap2:=hcap
    clear hr hcells hru hu hnx hsu hse hs hle hS hz
    go_wp2_with (first
     | (refine wpList_load_mid rfl 25 (.tmp 16) rfl b (off + j * 4) rfl [.int .i64 u.k,.int .i64 u.n,.int .i64 u.m,.slice A' u.kids.length c'] _ HCL.out Tryd.underlying25 rfl (by rw [size_node]; rfl) ?_)
     | (go_at_call 14; refine (ih u S A' c' _ HR.out HIR.out (by rw [HZ.out]; exact hz2)).mono ?_; rintro e w' ⟨rfl,hbw⟩; rw [HZ.out]))
    go_roundw
    case rel=>exact ⟨j + 1,by omega,by go_num,by rw [HN.out]; go_num,bt HB.out hbw⟩
    case measure=>simp [intOf]; omega
   ·have hjl:j = len:=by omega
    have hfin:Z = size t:=by rw [hS,HSZ.out,hjl]
    have HF:=Lib.hid hfin
    clear hfin hjl hS hse hs hle
    go_wp2_with fail
    go_ret
    exact ⟨ret_i (by rw [HF.out]),bt HB0.out HB.out⟩
set_option maxRecDepth 100000 in
set_option maxHeartbeats 1000000 in
theorem rdepth_is : ∀ (d : Nat) (t : T) (S : Nat → Prop) (A : Option Addr) (c : Nat) (w : World), Rep w S d t (nd t A c) → In S w.heap.size → size t ≤ 1000000 →
  Calls Tryd.prog 52 #[.agg #[.int .i64 t.k,.int .i64 t.n,.int .i64 t.m,.slice A t.kids.length c]] w fun e w'=>e = .returned (.int .i64 (depth t:Int))∧Below w.heap.size w w':=by
 intro d
 induction d with
 | zero=>intro t S A c w h; exact h.elim
 | succ d ih =>
  intro t S A c w h hin hs
  obtain ⟨len,hlen⟩:∃ len,len = t.kids.length:=⟨_,rfl⟩
  have hsz:=depth_kids t
  have hcap:=h.cap
  have hl6:=kids_lt t
  rw [← hlen] at hsz hcap hl6 ⊢
  have hl6:len≤1000000:=by omega
  have hle:=depths_le t.kids
  have hse:=depth_eq t
  have hds:=depth_le_size t
  have H:=Lib.hid h
  have HI:=Lib.hid hin
  have HLEN:=Lib.hid hlen
  have HSZ:=Lib.hid hsz
  have HLE:=Lib.hid hle
  have HSE:=Lib.hid hse
  have HDS:=Lib.hid hds
  have HS:=Lib.hid hs
  clear h hin hlen hsz hle hse hs hds
  go_enter Tryd.func52,Tryd.ntmps52
  go_wp2_with fail
  obtain ⟨W0,hW0⟩:∃ W0,W0 = w.alloc (.cells #[.int .i64 t.k,.int .i64 t.n,.int .i64 t.m,.slice A len c] 25):=⟨_,rfl⟩
  have HC3:Hid (W0.cell? ⟨w.heap.size,3,none⟩ = some (.slice A len c)):=Lib.hid (by rw [hW0]; exact (Blk.new w _ _).cell 3)
  have HB0:Hid (Below w.heap.size w W0):=Lib.hid (by rw [hW0]; exact below_new _ _)
  have hz0:w.heap.size < W0.heap.size:=by rw [hW0,size_alloc]; omega
  rw [← hW0]
  clear hW0
  go_loopw [3,4] (fun s i wr=>∃ j:Nat,j≤len∧i = .int .i64 j∧s = .int .i64 ((depths t.kids j:Nat):Int)∧Hid (Below W0.heap.size W0 wr)) (fun _ i _=>len - (intOf i).toNat)
  case atStart=>exact ⟨0,Nat.zero_le _,rfl,rfl,Below.refl _ _⟩
  case round =>
   obtain ⟨j,hj,rfl,rfl,HB⟩:=hrel
   have hc3:=(HB.out.cell (p:=⟨w.heap.size,3,none⟩) hz0).trans HC3.out
   have hle:=HLE.out j
   have hs:=HS.out
   have hse:=HSE.out
   have hds:=HDS.out
   obtain ⟨Z,hS⟩:∃ Z,Z = depths t.kids j:=⟨_,rfl⟩
   have hS2:Z≤1000000:=by omega
   rw [← hS]
   by_cases hlt:j < len
   ·obtain ⟨u,hu⟩:∃ u,t.kids[j]? = some u:=⟨_,List.getElem?_eq_getElem (by rw [← HLEN.out]; exact hlt)⟩
    have hr:=(H.out.later HI.out HB0.out).later (HI.out.more (Nat.le_of_lt hz0)) HB.out
    obtain ⟨b,off,A',c',hA,hb,hcells,hru⟩:=hr.kid hu
    subst hA
    have hnx:=depths_next hu
    have hsu:=size_kid hu
    have hdu:=depth_le_size u
    obtain ⟨z,hz⟩:∃ z,z = depth u:=⟨_,rfl⟩
    have hz2:z≤1000000:=by omega
    have HZ:=Lib.hid hz.symm
    have HN:Hid (depths t.kids (j + 1) = max Z z):=Lib.hid (by rw [hS,hz,hnx])
    have HSU:Hid (size u≤1000000):=Lib.hid (by omega)
    have HR:=Lib.hid hru
    have HIR:Hid (In S wr.heap.size):=Lib.hid (HI.out.more (Nat.le_trans (Nat.le_of_lt hz0) HB.out.size))
    have HCL:=Lib.hid hcells
    have hcap2:=hcap
    clear hr hcells hru hu hnx hsu hse hs hle hS hz hdu hds
    go_wp2_with (first
     | (refine wpList_load_mid rfl 25 (.tmp 16) rfl b (off + j * 4) rfl [.int .i64 u.k,.int .i64 u.n,.int .i64 u.m,.slice A' u.kids.length c'] _ HCL.out Tryd.underlying25 rfl (by rw [size_node]; rfl) ?_)
     | (go_at_call 52; refine (ih u S A' c' _ HR.out HIR.out HSU.out).mono ?_; rintro e w' ⟨rfl,hbw⟩; rw [HZ.out]))
    go_roundw
    case rel=>exact ⟨j + 1,by omega,by go_num,by rw [HN.out]; go_num,bt HB.out hbw⟩
    case measure=>simp [intOf]; omega
   ·have hjl:j = len:=by omega
    have hfin:Z + 1 = depth t:=by rw [hS,HSZ.out,hjl]
    have HF:=Lib.hid hfin
    clear hfin hjl hS hse hs hle hds
    go_wp2_with fail
    go_ret
    exact ⟨ret_i (by rw [← HF.out]; go_num),bt HB0.out HB.out⟩
end Go.Proofs.YtkkenbalpnmfmaaDoor
