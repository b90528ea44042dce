/- Texts joined. -/
import Derived.Test.YtkkenbalpnmfmaaDoorJ44
set_option linter.unusedVariables false
namespace Go.Proofs.YtkkenbalpnmfmaaDoor
open Go.RowKit WM TR

set_option maxRecDepth 100000 in
set_option maxHeartbeats 4000000 in
theorem tat_is (d : Nat) (t : T) (S S' : Nat → Prop) (A : Option Addr) (c : Nat) (w : World) (p : List Int) (P : Option Addr) (pc : Nat) (ht : Rep w S d t (nd t A c)) (hp : Rd w S' 1 P p.length (vi p)) (hin : In S w.heap.size) (hin' : In S' w.heap.size) (hst : size t ≤ 1000000) (hpc : p.length ≤ pc) (hpl : p.length ≤ 9223372036854775807) :
  Calls Tryd.prog 27 #[.agg #[.int .i64 t.k,.int .i64 t.n,.int .i64 t.m,.slice A t.kids.length c],.slice P p.length pc] w (AtMade (at? p t) w):=by
 obtain ⟨len,hlen⟩:∃ len,len = t.kids.length:=⟨_,rfl⟩
 obtain ⟨W2,hW2⟩:∃ W2,W2 = (w.alloc (.cells #[.int .i64 t.k,.int .i64 t.n,.int .i64 t.m,.slice A len c] 25)).alloc (.cells #[.int .i64 0,.int .i64 0,.int .i64 0,.slice none 0 0] 25):=⟨_,rfl⟩
 have hz2:W2.heap.size = w.heap.size + 2:=by rw [hW2,size_alloc,size_alloc]
 have hX:Blk W2 w.heap.size 25 #[.int .i64 t.k,.int .i64 t.n,.int .i64 t.m,.slice A len c]:=by rw [hW2]; exact blk_new3 _ _ _ _
 have hO:Blk W2 (w.heap.size + 1) 25 #[.int .i64 0,.int .i64 0,.int .i64 0,.slice none 0 0]:=by rw [hW2]; exact blk_new2 _ _ _ _
 have hB:Below w.heap.size w W2:=by rw [hW2]; exact ba (below_new _ _) _
 have ht2:=ht.later hin hB
 have h0:FndR W2 S t [] t w.heap.size 0:=⟨rfl,A,c,d,fun i v hv=>by
  rw [hX.cell (0 + i),Nat.zero_add,hlen]; simpa [nd] using hv,ht2⟩
 have HF:=Lib.hid (find_is W2 t (FndR W2 S t) (step_rep W2 S t) w.heap.size h0 p S' P pc (hp.keep (Keeps.below hin' hB)) hpc hpl)
 have HW2:=Lib.hid hW2
 have HIN:Hid (In S W2.heap.size):=Lib.hid (hin.more (by omega))
 have HST:=Lib.hid hst
 have HO:=Lib.hid hO
 have HB:=Lib.hid hB
 have HZ2:=Lib.hid hz2
 rw [← hlen]
 have HLEN:=Lib.hid hlen
 clear hW2 hX hO hB ht2 h0 ht hp hst hlen hin hin' hz2
 go_enter Tryd.func27,Tryd.ntmps27
 go_wp2_with (first
  | (go_at_call 60; rw [← HW2.out]; refine HF.out.mono ?_; rintro e w3 ⟨hw3,(⟨hno,rfl⟩ | ⟨u,b,o,⟨hat,A3,c3,D3,hcs,hru⟩,rfl⟩)⟩ <;> subst hw3)
  | (refine wpList_store_row rfl 25 (.tmp 4) (.tmp 11) rfl (w.heap.size + 1) #[.int .i64 0,.int .i64 0,.int .i64 0,.slice none 0 0] rfl rfl 25 #[.int .i64 0,.int .i64 0,.int .i64 0,.slice none 0 0] HO.out (by rw [size_node]; rfl) rfl (by simp [Value.oneCell']) ?_)
  | (refine wpList_load_mid rfl 25 (.tmp 13) rfl b o rfl [.int .i64 u.k,.int .i64 u.n,.int .i64 u.m,.slice A3 u.kids.length c3] _ hcs Tryd.underlying25 rfl (by rw [size_node]; rfl) ?_)
  | (go_at_call 61; refine (clone_is D3 u S A3 c3 W2 hru HIN.out (Nat.le_trans (at_size p t u hat) HST.out)).mono ?_; rintro e w5 ⟨A5,c5,rfl,hl5,hb5⟩; have HL5:=Lib.hid hl5; have HB5:=Lib.hid hb5; have HO5:=Lib.hid (HO.out.below hb5 HO.out.lt); clear hl5 hb5)
  | (refine wpList_store_row rfl 25 (.tmp 4) (.tmp 15) rfl (w.heap.size + 1) #[.int .i64 u.k,.int .i64 u.n,.int .i64 u.m,.slice A5 u.kids.length c5] rfl rfl 25 #[.int .i64 0,.int .i64 0,.int .i64 0,.slice none 0 0] HO5.out (by rw [size_node]; rfl) rfl (by simp [Value.oneCell']) ?_))
 ·have HR:=Lib.hid (HO.out.setRow #[.int .i64 0,.int .i64 0,.int .i64 0,.slice none 0 0])
  have r0:=HR.out.cell 0
  have r1:=HR.out.cell 1
  have r2:=HR.out.cell 2
  have r3:=HR.out.cell 3
  simp only [List.getElem?_toArray,List.getElem?_cons_zero,List.getElem?_cons_succ] at r0 r1 r2 r3
  refine bodyPost_ret (v:=.tuple #[.agg #[.int .i64 0,.int .i64 0,.int .i64 0,.slice none 0 0],.bool false]) (by simp [results,Tryd.results27,go_sem,r0,r1,r2,r3]) rfl ⟨zeroT,none,0,1,by rw [hno]; rfl,by rw [hno]; rfl,Rep.leaf in0 in0 in0 _ _,below_setRow HB.out (Nat.le_succ _) _⟩
 ·have HR:=Lib.hid (HO5.out.setRow #[.int .i64 u.k,.int .i64 u.n,.int .i64 u.m,.slice A5 u.kids.length c5])
  have r0:=HR.out.cell 0
  have r1:=HR.out.cell 1
  have r2:=HR.out.cell 2
  have r3:=HR.out.cell 3
  simp only [List.getElem?_toArray,List.getElem?_cons_zero,List.getElem?_cons_succ] at r0 r1 r2 r3
  have hbf:=below_setRow (bt HB.out HB5.out) (Nat.le_succ w.heap.size) #[.int .i64 u.k,.int .i64 u.n,.int .i64 u.m,.slice A5 u.kids.length c5]
  refine bodyPost_ret (v:=.tuple #[.agg #[.int .i64 u.k,.int .i64 u.n,.int .i64 u.m,.slice A5 u.kids.length c5],.bool true]) (by simp [results,Tryd.results27,go_sem,r0,r1,r2,r3]) rfl ⟨u,A5,c5,D3,by rw [hat]; rfl,by rw [hat]; rfl,?_,hbf⟩
  have hz2:=HZ2.out
  refine (HL5.out.rep.keep (w':=w5.setRow (w.heap.size + 1) #[.int .i64 u.k,.int .i64 u.n,.int .i64 u.m,.slice A5 u.kids.length c5]) ?_).mono ?_
  ·intro b hb
   exact setRow_other _ _ _ b (by omega)
  ·intro b hb
   exact ⟨by omega,by rw [size_setRow]; exact hb.2⟩
end Go.Proofs.YtkkenbalpnmfmaaDoor
