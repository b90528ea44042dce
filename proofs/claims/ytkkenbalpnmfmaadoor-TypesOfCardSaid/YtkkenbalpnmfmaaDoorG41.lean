/- Texts joined. -/
import Derived.Test.YtkkenbalpnmfmaaDoorG40
import Derived.Test.YtkkenbalpnmfmaaDoorG11
import Derived.Test.YtkkenbalpnmfmaaDoorG38
import Derived.Test.YtkkenbalpnmfmaaDoorG36
import Derived.Test.YtkkenbalpnmfmaaDoorG39
import Derived.Test.YtkkenbalpnmfmaaDoorG23
set_option linter.unusedVariables false
namespace Go.Proofs.YtkkenbalpnmfmaaDoor
open Go.RowKit WM TR TY


theorem firstL_snoc (s:Sc) (u:T):∀ (l:List T) (i:Nat),(firstL s l i).2 = 0→(firstL s (l ++ [u]) i).2 = (firstW s u).2
 | [],i,_=>by
  rw [List.nil_append,firstL]
  by_cases h:(firstW s u).2≠0
  ·rw [if_pos h]
  ·rw [if_neg h]; simp at h; rw [h]; rfl
 | v :: l,i,h=>by
  rw [firstL] at h
  rw [List.cons_append,firstL]
  by_cases hv:(firstW s v).2≠0
  ·rw [if_pos hv] at h; exact absurd h hv
  ·rw [if_neg hv] at h ⊢; exact firstL_snoc s u l _ h
theorem firstL_pre (s:Sc) (m:List T):∀ (l:List T) (i:Nat),(firstL s l i).2≠0→(firstL s (l ++ m) i).2 = (firstL s l i).2
 | [],_,h=>absurd rfl h
 | v :: l,i,h=>by
  rw [firstL] at h ⊢
  rw [List.cons_append,firstL]
  by_cases hv:(firstW s v).2≠0
  ·rw [if_pos hv,if_pos hv]
  ·rw [if_neg hv] at h ⊢
   rw [if_neg hv]; exact firstL_pre s m l _ h
def errAt (s:Sc) (y:T) (i:Nat):Int:=if errOf s y≠0 then errOf s y else (firstL s (y.kids.take i) 0).2
theorem errAt_0 (s:Sc) (y:T):errAt s y 0 = errOf s y:=by
 unfold errAt
 by_cases h:errOf s y≠0
 ·rw [if_pos h]
 ·rw [if_neg h]; simp at h; rw [h]; rfl
theorem errAt_next {s:Sc} {y u:T} {i:Nat} (hu:y.kids[i]? = some u) (h:errAt s y i = 0):errAt s y (i + 1) = (firstW s u).2:=by
 unfold errAt at h ⊢
 by_cases he:errOf s y≠0
 ·rw [if_pos he] at h; exact absurd h he
 ·rw [if_neg he] at h ⊢
  rw [List.take_add_one,hu]
  exact firstL_snoc s u _ _ h
theorem errAt_end (s:Sc) (y:T) {i:Nat} (h:y.kids.length≤i∨errAt s y i≠0):errAt s y i = (firstW s y).2:=by
 rw [firstW_eq]
 unfold errAt at h ⊢
 by_cases he:errOf s y≠0
 ·rw [if_pos he,if_pos he]
 ·rw [if_neg he] at h ⊢
  rw [if_neg he]
  rcases h with h | h
  ·rw [List.take_of_length_le h]
  ·have h2:=firstL_pre s (y.kids.drop i) _ _ h
   rw [List.take_append_drop] at h2
   exact h2.symm
set_option maxRecDepth 100000 in
set_option maxHeartbeats 8000000 in
theorem rfirst_is (p : T) (s : Sc) (j : Nat) (A : Option Addr) (c : Nat) (w0 : World) (P : T → Prop) (hP : ∀ y, P y → ∀ v ∈ y.kids, P v)
  (hW:∀ (W:World) (y:T) (Ay:Option Addr) (cy D:Nat),Below w0.heap.size w0 W→P y→Rep W (Lt W.heap.size) D y (nd y Ay cy)→Calls Tryd.prog 70 #[.agg #[.int .i64 p.k,.int .i64 p.n,.int .i64 p.m,.slice A p.kids.length c],.int .i64 (j:Int),.agg #[.int .i64 y.k,.int .i64 y.n,.int .i64 y.m,.slice Ay y.kids.length cy]] W fun e w'=>e = .returned (.int .i64 (errOf s y))∧Below W.heap.size W w') :
  ∀ (D:Nat) (y:T) (Ay:Option Addr) (cy:Nat) (w:World),Below w0.heap.size w0 w→P y→y.kids.length≤1000→(∀ v ∈ y.kids,v.kids.length≤1000)→size y≤1000→Rep w (Lt w.heap.size) D y (nd y Ay cy) →
  Calls Tryd.prog 76 #[.agg #[.int .i64 p.k,.int .i64 p.n,.int .i64 p.m,.slice A p.kids.length c],.int .i64 (j:Int),.agg #[.int .i64 y.k,.int .i64 y.n,.int .i64 y.m,.slice Ay y.kids.length cy]] w fun e w'=>e = .returned (.int .i64 (firstW s y).2)∧Below w.heap.size w w':=by
 intro D
 induction D with
 | zero=>intro y Ay cy w _ _ _ _ _ h; exact h.elim
 | succ D ih =>
 intro y Ay cy w hb0 hPy hyl9 _ hsz hry
 have HWR:=Lib.hid (fun W (hb:Below w.heap.size w W)=>hW W y Ay cy (D + 1) (hb0.trans (hb.mono hb0.size)) hPy (rep_next hry hb))
 have HIH:=Lib.hid ih
 have HPK:=Lib.hid (hP y hPy)
 have HB0:=Lib.hid hb0
 have HRY:=Lib.hid hry
 have HSZ:=Lib.hid hsz
 obtain ⟨k,hk⟩:∃ z,z = y.k:=⟨_,rfl⟩
 obtain ⟨n,hn⟩:∃ z,z = y.n:=⟨_,rfl⟩
 obtain ⟨m,hm⟩:∃ z,z = y.m:=⟨_,rfl⟩
 obtain ⟨ly,hly⟩:∃ z,z = y.kids.length:=⟨_,rfl⟩
 obtain ⟨pk,hpk⟩:∃ z,z = p.k:=⟨_,rfl⟩
 obtain ⟨pn,hpn⟩:∃ z,z = p.n:=⟨_,rfl⟩
 obtain ⟨pm,hpm⟩:∃ z,z = p.m:=⟨_,rfl⟩
 obtain ⟨pl,hpl⟩:∃ z,z = p.kids.length:=⟨_,rfl⟩
 obtain ⟨eo,heo⟩:∃ z,z = errOf s y:=⟨_,rfl⟩
 obtain ⟨ef,hef⟩:∃ z,z = (firstW s y).2:=⟨_,rfl⟩
 rw [← hk,← hn,← hm,← hly,← hpk,← hpn,← hpm,← hpl,← heo] at HWR
 rw [← hpk,← hpn,← hpm,← hpl] at HIH
 rw [← hk,← hn,← hm,← hly,← hpk,← hpn,← hpm,← hpl,← hef]
 have hly9:ly≤1000:=by omega
 obtain ⟨z,hz⟩:∃ z,z = w.heap.size:=⟨_,rfl⟩
 obtain ⟨z2,hz2⟩:∃ z,z = w.heap.size + 1:=⟨_,rfl⟩
 obtain ⟨W1,hW1⟩:∃ W,W = (w.alloc (.cells #[.int .i64 pk,.int .i64 pn,.int .i64 pm,.slice A pl c] 25)).alloc (.cells #[.int .i64 k,.int .i64 n,.int .i64 m,.slice Ay ly cy] 25):=⟨_,rfl⟩
 have hb1:Below w.heap.size w W1:=by rw [hW1]; exact ba (below_new _ _) _
 have kp:Blk W1 z 25 #[.int .i64 pk,.int .i64 pn,.int .i64 pm,.slice A pl c]:=by rw [hW1,hz]; exact (Blk.new _ _ _).alloc _
 have kx:Blk W1 z2 25 #[.int .i64 k,.int .i64 n,.int .i64 m,.slice Ay ly cy]:=by rw [hW1]; exact Blk.new_at _ _ (by rw [size_alloc,hz2]) rfl
 have HCL:Hid (∀ W,Below W1.heap.size W1 W→(W.cell? ⟨z,0,none⟩ = some (.int .i64 pk)∧W.cell? ⟨z,1,none⟩ = some (.int .i64 pn)∧W.cell? ⟨z,2,none⟩ = some (.int .i64 pm)∧W.cell? ⟨z,3,none⟩ = some (.slice A pl c))∧(W.cell? ⟨z2,0,none⟩ = some (.int .i64 k)∧W.cell? ⟨z2,1,none⟩ = some (.int .i64 n)∧W.cell? ⟨z2,2,none⟩ = some (.int .i64 m)∧W.cell? ⟨z2,3,none⟩ = some (.slice Ay ly cy))):=Lib.hid fun W hb=>by
  have e1:=kp.below hb kp.lt
  have e2:=kx.below hb kx.lt
  exact ⟨⟨e1.cell 0,e1.cell 1,e1.cell 2,e1.cell 3⟩,e2.cell 0,e2.cell 1,e2.cell 2,e2.cell 3⟩
 obtain ⟨⟨p0,p1,p2,p3⟩,x0,x1,x2,x3⟩:=HCL.out W1 (Below.refl _ _)
 have HB1:=Lib.hid hb1
 have HW1:=Lib.hid hW1
 have HZ:=Lib.hid (And.intro hz hz2)
 have HEE:=Lib.hid (And.intro heo (And.intro hef hly))
 clear hW hP hb0 hPy hyl9 hsz hry ih hk hn hm hly hpk hpn hpm hpl heo hef hz hz2 hW1 hb1 kp kx
 go_enter Tryd.func76,Tryd.ntmps76
 go_upto_region 1 with fail
 rw [← HW1.out]
 rw [← HZ.out.2,← HZ.out.1]
 go_upto_region 2 with (go_at_call 70; refine (HWR.out _ HB1.out).mono ?_; rintro e w2 ⟨rfl,hb5⟩; have HB5:=Lib.hid hb5; clear hb5)
 clear p0 p1 p2 p3 x0 x1 x2 x3
 go_wp2_with fail
 go_loopw [7,8] (fun ev iv wr=>∃ (i:Nat) (er:Int),iv = .int .i64 (i:Int)∧ev = .int .i64 er∧i≤ly∧Hid (er = errAt s y i)∧Hid (Below w2.heap.size w2 wr)) (fun _ iv _=>ly - (intOf iv).toNat)
 case atStart=>exact ⟨0,eo,rfl,rfl,Nat.zero_le _,by rw [errAt_0]; exact HEE.out.1,Below.refl _ _⟩
 case round =>
  obtain ⟨i,er,rfl,rfl,hil,HER,HBR⟩:=hrel
  obtain ⟨Wk,hWk⟩:∃ W,W = wr:=⟨_,rfl⟩
  subst hWk
  have HBW1:Hid (Below W1.heap.size W1 Wk):=Lib.hid (bt HB5.out HBR.out)
  have HBW:Hid (Below w.heap.size w Wk):=Lib.hid (bt HB1.out HBW1.out)
  obtain ⟨⟨p0,p1,p2,p3⟩,x0,x1,x2,x3⟩:=HCL.out Wk HBW1.out
  by_cases hlt:i < ly
  ·have hdi:decide (i < ly) = true:=by simpa using hlt
   by_cases h0:er = 0
   ·obtain ⟨v,hv⟩:∃ v,y.kids[i]? = some v:=⟨_,List.getElem?_eq_getElem (by rw [← HEE.out.2.2]; exact hlt)⟩
    have hvm:=List.mem_of_getElem? hv
    obtain ⟨b,o,Av,cv,hA,hb,hcl,hrv⟩:=(rep_next HRY.out HBW.out).kid hv
    subst hA
    have hsv:=size_kid hv
    have hkv:∀ t:T,t.kids.length≤size t:=fun t=>by have:=kids_lt t; omega
    obtain ⟨vk,hvk⟩:∃ z,z = v.k:=⟨_,rfl⟩
    obtain ⟨vn,hvn⟩:∃ z,z = v.n:=⟨_,rfl⟩
    obtain ⟨vm,hvm2⟩:∃ z,z = v.m:=⟨_,rfl⟩
    obtain ⟨vl,hvl⟩:∃ z,z = v.kids.length:=⟨_,rfl⟩
    obtain ⟨ev,hev⟩:∃ z,z = (firstW s v).2:=⟨_,rfl⟩
    have HCY:Hid (∀ W,Below Wk.heap.size Wk W→W.cell? ⟨b,o + i * 4,none⟩ = some (.int .i64 vk)∧W.cell? ⟨b,o + i * 4 + 1,none⟩ = some (.int .i64 vn)∧W.cell? ⟨b,o + i * 4 + 2,none⟩ = some (.int .i64 vm)∧W.cell? ⟨b,o + i * 4 + 3,none⟩ = some (.slice Av vl cv)):=Lib.hid fun W hb2=>by
     have e:∀ j v',(nd v Av cv)[j]? = some v'→W.cell? ⟨b,o + i * 4 + j,none⟩ = some v':=fun j v' hv'=>(hb2.cell (p:=⟨b,o + i * 4 + j,none⟩) hb).trans (hcl j v' hv')
     exact ⟨by rw [hvk]; exact e 0 _ rfl,by rw [hvn]; exact e 1 _ rfl,by rw [hvm2]; exact e 2 _ rfl,by rw [hvl]; exact e 3 _ rfl⟩
    have HFV:Hid (∀ W,Below Wk.heap.size Wk W→Calls Tryd.prog 76 #[.agg #[.int .i64 pk,.int .i64 pn,.int .i64 pm,.slice A pl c],.int .i64 (j:Int),.agg #[.int .i64 vk,.int .i64 vn,.int .i64 vm,.slice Av vl cv]] W fun e w'=>e = .returned (.int .i64 ev)∧Below W.heap.size W w'):=Lib.hid fun W hb2=>by
     rw [hvk,hvn,hvm2,hvl,hev]
     exact HIH.out v Av cv W (HB0.out.trans ((bt HBW.out hb2).mono HB0.out.size)) (HPK.out v hvm) (by have:=hkv v; have:=HSZ.out; omega) (fun t ht=>by have h1:=hkv t; obtain ⟨i2,hi2⟩:=List.mem_iff_getElem?.1 ht; have h2:=size_kid hi2; have:=HSZ.out; omega) (by have:=HSZ.out; omega) (rep_next hrv hb2)
    have HNX:Hid (ev = errAt s y (i + 1)):=Lib.hid (by rw [hev]; exact (errAt_next hv (by rw [← HER.out]; exact h0)).symm)
    have hib:(0:Int)≤(i:Int)∧(i:Int) < (ly:Int):=⟨by omega,by omega⟩
    subst h0
    clear hcl hb hrv hvm hsv hkv hvk hvn hvm2 hvl hev hv
    go_upto_region 5 with fail
    clear p0 p1 p2 p3 x0 x1 x2 x3
    refine wp_region_held_drew (S:=fun W=>Below Wk.heap.size Wk W) (by kernel_rfl) (Below.refl _ _).drew (fun hS0=>?_)
    refine wpAnyH_take (i:=0) (v:=?_) rfl (by kernel_rfl) (by kernel_rfl) (by kernel_rfl) (fun _ _ _ h=>h) (Or.inl ⟨by rfl,?_⟩) hS0 ?_; rotate_left; (intro w hSw; (try dsimp only at hSw); obtain ⟨⟨z0,z1,z2,z3⟩,z4,z5,z6,z7⟩:=HCL.out w (bt HBW1.out hSw); obtain ⟨v0,v1,v2,v3⟩:=HCY.out w hSw; go_simp; try with_reducible rfl)
    refine wpAnyH_take (i:=1) (v:=?_) rfl (by kernel_rfl) (by kernel_rfl) (by kernel_rfl) (fun _ _ _ h=>h) (Or.inl ⟨by rfl,?_⟩) hS0 ?_; rotate_left; (intro w hSw; (try dsimp only at hSw); go_simp; try with_reducible rfl)
    refine wpAnyH_take (i:=2) (v:=?_) rfl (by kernel_rfl) (by kernel_rfl) (by kernel_rfl) (fun _ _ _ h=>h) (Or.inl ⟨by rfl,?_⟩) hS0 ?_; rotate_left; (intro w hSw; (try dsimp only at hSw); go_simp; try with_reducible rfl)
    refine wpAnyH_take (i:=3) (v:=?_) rfl (by kernel_rfl) (by kernel_rfl) (by kernel_rfl) (fun _ _ _ h=>h) (Or.inl ⟨by rfl,?_⟩) hS0 ?_; rotate_left; (intro w hSw; (try dsimp only at hSw); obtain ⟨⟨z0,z1,z2,z3⟩,z4,z5,z6,z7⟩:=HCL.out w (bt HBW1.out hSw); obtain ⟨v0,v1,v2,v3⟩:=HCY.out w hSw; go_simp; try with_reducible rfl)
    refine wpAnyH_take (i:=4) (v:=?_) rfl (by kernel_rfl) (by kernel_rfl) (by kernel_rfl) (fun _ _ _ h=>h) (Or.inl ⟨by rfl,?_⟩) hS0 ?_; rotate_left; (intro w hSw; (try dsimp only at hSw); go_simp; try with_reducible rfl)
    refine wpAnyH_take (i:=5) (v:=?_) rfl (by kernel_rfl) (by kernel_rfl) (by kernel_rfl) (fun _ _ _ h=>h) (Or.inl ⟨by rfl,?_⟩) hS0 ?_; rotate_left; (intro w hSw; (try dsimp only at hSw); go_simp; try with_reducible rfl)
    refine wpAnyH_take (i:=6) (v:=?_) rfl (by kernel_rfl) (by kernel_rfl) (by kernel_rfl) (fun _ _ _ h=>h) (Or.inl ⟨by rfl,?_⟩) hS0 ?_; rotate_left; (intro w hSw; (try dsimp only at hSw); obtain ⟨⟨z0,z1,z2,z3⟩,z4,z5,z6,z7⟩:=HCL.out w (bt HBW1.out hSw); obtain ⟨v0,v1,v2,v3⟩:=HCY.out w hSw; go_simp; try with_reducible rfl)
    conv=>arg 8; simp [go_sem]
    conv=>arg 7; simp
    obtain ⟨w8,hw8⟩:∃ w,w = Wk.drew:=⟨_,rfl⟩
    have hS:Below Wk.heap.size Wk w8:=by rw [hw8]; exact hS0
    rw [← hw8]
    clear hw8 hS0
    refine wpAnyH_ready (rs:=[7]) (by kernel_rfl) (by simp) ?_
    refine AllReadyH.cons rfl (fun K hK=>?_) AllReadyH.nil
    go_simp
    go_at_call 76
    refine (HFV.out _ hS).mono ?_
    rintro e w9 ⟨rfl,hb9⟩
    try go_simp
    have hS9:=bt hS hb9
    refine hK.out _ _ hS9 (fun _=>?_)
    clear hK K
    refine wpAnyH_ready (rs:=[8]) (by kernel_rfl) (by simp) ?_
    refine AllReadyH.cons rfl (fun K hK=>?_) AllReadyH.nil
    go_simp
    refine hK.out _ _ hS9 (fun _=>?_)
    clear hK K
    refine wpAnyH_done (by kernel_rfl) ?_ _
    have HB9:Hid (Below w2.heap.size w2 w9):=Lib.hid (bt HBR.out hS9)
    clear hS9 hS hb9
    go_wp2_with fail
    go_roundw
    case rel=>exact ⟨i + 1,ev,by go_num,rfl,by omega,HNX.out,HB9.out⟩
    case measure=>simp [intOf]; omega
   ·have hne:(er == 0) = false:=by simpa using h0
    have HEF:Hid (ef = er):=Lib.hid (by rw [HEE.out.2.1,HER.out]; exact (errAt_end s y (.inr (by rw [← HER.out]; exact h0))).symm)
    clear h0
    go_wp2_with fail
    go_ret
    exact ⟨ret_i HEF.out.symm,HBW.out⟩
  ·have hdi:decide (i < ly) = false:=by simpa using hlt
   have HEF:Hid (ef = er):=Lib.hid (by rw [HEE.out.2.1,HER.out]; exact (errAt_end s y (.inl (by rw [← HEE.out.2.2]; omega))).symm)
   go_wp2_with fail
   go_ret
   exact ⟨ret_i HEF.out.symm,HBW.out⟩
end Go.Proofs.YtkkenbalpnmfmaaDoor

namespace Go.Proofs.YtkkenbalpnmfmaaDoor
open Go.RowKit WM TR TY

theorem nds_new {w : World} {d : Nat} {ts : List T} {xs : List Value} (h : Reps w (Lt w.heap.size) d ts xs) (hl : ts.length ≤ 1000) :
  Nds (w.alloc (.cells xs.toArray 25)) (Lt (w.alloc (.cells xs.toArray 25)).heap.size) d ts (some ⟨w.heap.size,0,none⟩) ts.length:=by
 have ho:=own_lit (w:=w) (base:=w.heap.size) (e:=25) (size:=4) (xs:=xs) (n:=ts.length) (Nat.le_refl _) h.1 (len_le (by omega))
 have hb:=below_new w (.cells xs.toArray 25)
 refine ⟨⟨xs,(Rd.of_own ho).mono fun b hb=>hb.2,(h.keep fun b hb'=>hb.block b hb').mono fun b (hb':b < w.heap.size)=>Nat.lt_of_lt_of_le hb' hb.size⟩,Nat.le_refl _,hl⟩
def NrY (r B:Nat) (b:Nat):Prop:=b < B∧b≠r
theorem nds_newN {r : Nat} {w : World} {d : Nat} {ts : List T} {xs : List Value} (h : Reps w (NrY r w.heap.size) d ts xs) (hr : r < w.heap.size) (hl : ts.length ≤ 1000) :
  Nds (w.alloc (.cells xs.toArray 25)) (NrY r (w.alloc (.cells xs.toArray 25)).heap.size) d ts (some ⟨w.heap.size,0,none⟩) ts.length:=by
 have ho:=own_lit (w:=w) (base:=w.heap.size) (e:=25) (size:=4) (xs:=xs) (n:=ts.length) (Nat.le_refl _) h.1 (len_le (by omega))
 have hb:=below_new w (.cells xs.toArray 25)
 refine ⟨⟨xs,(Rd.of_own ho).mono fun b hb=>⟨hb.2,by omega⟩,(h.keep fun b hb'=>hb.block b hb'.1).mono fun b hb'=>⟨Nat.lt_of_lt_of_le hb'.1 hb.size,hb'.2⟩⟩,Nat.le_refl _,hl⟩
theorem rep_nextN {r:Nat} {w w':World} {d:Nat} {t:T} {cs:List Value} (h:Rep w (NrY r w.heap.size) d t cs) (hb:Below w.heap.size w w'):Rep w' (NrY r w'.heap.size) d t cs :=
 (h.keep fun b hb'=>hb.block b hb'.1).mono fun b hb'=>⟨Nat.lt_of_lt_of_le hb'.1 hb.size,hb'.2⟩
theorem Nds.rep {w:World} {S:Nat→Prop} {d:Nat} {ts:List T} {A:Option Addr} {c:Nat} (h:Nds w S d ts A c) {k n m:Int} (hk:inRange k) (hn:inRange n) (hm:inRange m):Rep w S (d + 1) ⟨k,n,m,ts⟩ (nd ⟨k,n,m,ts⟩ A c):=by
 obtain ⟨⟨xs,h1,h2⟩,h3,_⟩:=h
 exact Rep.mk hk hn hm h3 h1 h2
set_option maxHeartbeats 4000000 in
theorem node_is (k n:Int) (A:Option Addr) (l c:Nat) (w:World):Calls Tryd.prog 46 #[.int .i64 k,.int .i64 n,.slice A l c] w fun e w'=>e = .returned (.agg #[.int .i64 k,.int .i64 n,.int .i64 0,.slice A l c])∧Below w.heap.size w w':=by
 go_enter Tryd.func46,Tryd.ntmps46
 go_upto_region 1 with fail
 obtain ⟨W1,hW1⟩:∃ W,W = w.alloc (.cells #[.int .i64 0,.int .i64 0,.int .i64 0,.slice none 0 0] 25):=⟨_,rfl⟩
 obtain ⟨z,hz⟩:∃ z,z = w.heap.size:=⟨_,rfl⟩
 have hb1:Below w.heap.size w W1:=by rw [hW1]; exact below_new _ _
 have k1:Blk W1 z 25 #[.int .i64 0,.int .i64 0,.int .i64 0,.slice none 0 0]:=by rw [hW1,hz]; exact Blk.new _ _ _
 rw [← hW1,← hz]
 obtain ⟨y0,y1,y2,y3⟩:W1.cell? ⟨z,0,none⟩ = some (.int .i64 0)∧W1.cell? ⟨z,1,none⟩ = some (.int .i64 0)∧W1.cell? ⟨z,2,none⟩ = some (.int .i64 0)∧W1.cell? ⟨z,3,none⟩ = some (.slice none 0 0):=⟨k1.cell 0,k1.cell 1,k1.cell 2,k1.cell 3⟩
 obtain ⟨f0,f1,f2,f3⟩:W1.frozen? ⟨z,0,none⟩ = false∧W1.frozen? ⟨z,1,none⟩ = false∧W1.frozen? ⟨z,2,none⟩ = false∧W1.frozen? ⟨z,3,none⟩ = false:=⟨k1.frozen 0,k1.frozen 1,k1.frozen 2,k1.frozen 3⟩
 have HK:=Lib.hid k1
 have HB:=Lib.hid hb1
 have HZ:=Lib.hid hz
 clear hW1 hz k1 hb1
 go_wp2_with fail
 have hzz:=HZ.out
 obtain ⟨W5,hW5⟩:∃ W,W = (((W1.setCell ⟨z,0,none⟩ (.int .i64 k)).setCell ⟨z,1,none⟩ (.int .i64 n)).setCell ⟨z,2,none⟩ (.int .i64 0)).setCell ⟨z,3,none⟩ (.slice A l c):=⟨_,rfl⟩
 rw [← hW5]
 have k5:Blk W5 z 25 #[.int .i64 k,.int .i64 n,.int .i64 0,.slice A l c]:=by
  rw [hW5]
  have h:=(((HK.out.set_ 0 (.int .i64 k)).set_ 1 (.int .i64 n)).set_ 2 (.int .i64 0)).set_ 3 (.slice A l c)
  simpa using h
 have hb5:Below w.heap.size w W5:=by
  rw [hW5]
  exact (((HB.out.setCell (by show w.heap.size≤z; omega) _).setCell (by show w.heap.size≤z; omega) _).setCell (by show w.heap.size≤z; omega) _).setCell (by show w.heap.size≤z; omega) _
 have r0:W5.cell? ⟨z,0,none⟩ = some (.int .i64 k):=k5.cell 0
 have r1:W5.cell? ⟨z,1,none⟩ = some (.int .i64 n):=k5.cell 1
 have r2:W5.cell? ⟨z,2,none⟩ = some (.int .i64 0):=k5.cell 2
 have r3:W5.cell? ⟨z,3,none⟩ = some (.slice A l c):=k5.cell 3
 refine bodyPost_ret (v:=.agg #[.int .i64 k,.int .i64 n,.int .i64 0,.slice A l c]) (by simp [results,Tryd.results46,go_sem,r0,r1,r2,r3]) rfl ⟨rfl,hb5⟩
def exB (x:T):T:=⟨13,0,0,[x]⟩
def exF (x:T):T:=⟨26,1,0,[⟨0,0,0,[]⟩,⟨2,2,0,[]⟩,exB x]⟩
def exT (x:T):T:=⟨27,0,0,[exF x]⟩
theorem in_sm {k:Int} (h0:-100≤k) (h1:k≤100):inRange k:=⟨by omega,by omega⟩
set_option maxRecDepth 100000 in
set_option maxHeartbeats 8000000 in
theorem example_is (d:Nat) (x:T) (A:Option Addr) (c:Nat) (w:World) (hr:Rep w (Lt w.heap.size) (d + 1) x (nd x A c)):Calls Tryd.prog 47 #[.agg #[.int .i64 x.k,.int .i64 x.n,.int .i64 x.m,.slice A x.kids.length c]] w fun e w'=>∃ A' c',e = .returned (.agg #[.int .i64 (exT x).k,.int .i64 (exT x).n,.int .i64 (exT x).m,.slice A' (exT x).kids.length c'])∧Rep w' (Lt w'.heap.size) (d + 4) (exT x) (nd (exT x) A' c')∧Below w.heap.size w w':=by
 obtain ⟨nk,hnk⟩:∃ z,z = x.kids.length:=⟨_,rfl⟩
 obtain ⟨k,hk⟩:∃ z,z = x.k:=⟨_,rfl⟩
 obtain ⟨n,hn⟩:∃ z,z = x.n:=⟨_,rfl⟩
 obtain ⟨m,hm⟩:∃ z,z = x.m:=⟨_,rfl⟩
 obtain ⟨z,hz⟩:∃ z,z = w.heap.size:=⟨_,rfl⟩
 obtain ⟨W1,hW1⟩:∃ W,W = (w.alloc (.cells #[.int .i64 k,.int .i64 n,.int .i64 m,.slice A nk c] 25)).alloc (.cells #[.int .i64 0,.int .i64 0,.int .i64 0,.slice none 0 0] 25):=⟨_,rfl⟩
 have hb1:Below w.heap.size w W1:=by rw [hW1]; exact ba (below_new _ _) _
 have k0:Blk W1 z 25 #[.int .i64 k,.int .i64 n,.int .i64 m,.slice A nk c]:=by rw [hW1,hz]; exact (Blk.new _ _ _).alloc _
 have k1:Blk W1 (z + 1) 25 #[.int .i64 0,.int .i64 0,.int .i64 0,.slice none 0 0]:=by rw [hW1]; exact Blk.new_at _ _ (by rw [size_alloc,hz]) rfl
 obtain ⟨y0,y1,y2,y3⟩:W1.cell? ⟨z,0,none⟩ = some (.int .i64 k)∧W1.cell? ⟨z,1,none⟩ = some (.int .i64 n)∧W1.cell? ⟨z,2,none⟩ = some (.int .i64 m)∧W1.cell? ⟨z,3,none⟩ = some (.slice A nk c):=⟨k0.cell 0,k0.cell 1,k0.cell 2,k0.cell 3⟩
 obtain ⟨V2,hV2⟩:∃ W,W = W1.alloc (.cells #[.int .i64 k,.int .i64 n,.int .i64 m,.slice A nk c] 25):=⟨_,rfl⟩
 obtain ⟨ga,hga⟩:∃ z,z = W1.heap.size:=⟨_,rfl⟩
 have hbV:Below W1.heap.size W1 V2:=by rw [hV2]; exact below_new _ _
 have hrB:Rep V2 (NrY (z + 1) V2.heap.size) (d + 2) (exB x) (nd (exB x) (some ⟨ga,0,none⟩) 1):=by
  have h:=(nds_newN (r:=z + 1) (Reps.one ((hr.keep fun b hb=>hb1.block b hb).mono fun b (hb:b < w.heap.size)=>⟨Nat.lt_of_lt_of_le hb hb1.size,by omega⟩)) k1.lt (by simp)).rep (k:=13) (n:=0) (m:=0) (in_sm (by omega) (by omega)) (in_sm (by omega) (by omega)) (in_sm (by omega) (by omega))
  have e:(nd x A c).toArray = #[.int .i64 k,.int .i64 n,.int .i64 m,.slice A nk c]:=by rw [hk,hn,hm,hnk]; rfl
  rw [e,← hV2,← hga] at h
  exact h
 have HRB:=Lib.hid hrB
 have HW1:=Lib.hid hW1
 have HV2:=Lib.hid hV2
 have HGA:=Lib.hid hga
 have HBV:=Lib.hid hbV
 have HZ:=Lib.hid hz
 have HB1:=Lib.hid hb1
 have HK1:=Lib.hid k1
 rw [← hnk,← hk,← hn,← hm]
 clear hnk hk hn hm hz hW1 hb1 k0 k1 hV2 hga hbV hrB hr
 go_enter Tryd.func47,Tryd.ntmps47
 go_upto_region 1 with fail
 rw [← HW1.out]
 try rw [← HZ.out]
 go_upto_region 2 with (go_at_call 46; rw [← HV2.out,← HGA.out]; refine (node_is _ _ _ _ _ _).mono ?_; rintro e w3 ⟨rfl,hb3⟩; have HB3:=Lib.hid hb3; clear hb3)
 clear y0 y1 y2 y3
 obtain ⟨V4,hV4⟩:∃ W,W = w3.alloc (.cells #[.int .i64 13,.int .i64 0,.int .i64 0,.slice (some ⟨ga,0,none⟩) 1 1] 25):=⟨_,rfl⟩
 obtain ⟨g3,hg3⟩:∃ z,z = w3.heap.size:=⟨_,rfl⟩
 rw [← hV4,← hg3]
 have k3:Blk V4 g3 25 #[.int .i64 13,.int .i64 0,.int .i64 0,.slice (some ⟨ga,0,none⟩) 1 1]:=by rw [hV4,hg3]; exact Blk.new _ _ _
 obtain ⟨y0,y1,y2,y3⟩:V4.cell? ⟨g3,0,none⟩ = some (.int .i64 13)∧V4.cell? ⟨g3,1,none⟩ = some (.int .i64 0)∧V4.cell? ⟨g3,2,none⟩ = some (.int .i64 0)∧V4.cell? ⟨g3,3,none⟩ = some (.slice (some ⟨ga,0,none⟩) 1 1):=⟨k3.cell 0,k3.cell 1,k3.cell 2,k3.cell 3⟩
 have HB14:Hid (Below W1.heap.size W1 V4):=Lib.hid (bt HBV.out (bt HB3.out (by rw [hV4]; exact below_new _ _)))
 have hrB4:Rep V4 (NrY (z + 1) V4.heap.size) (d + 2) (exB x) (nd (exB x) (some ⟨ga,0,none⟩) 1):=rep_nextN HRB.out (bt HB3.out (by rw [hV4]; exact below_new _ _))
 obtain ⟨V5,hV5⟩:∃ W,W = V4.alloc (.cells #[.int .i64 0,.int .i64 0,.int .i64 0,.slice none 0 0,.int .i64 2,.int .i64 2,.int .i64 0,.slice none 0 0,.int .i64 13,.int .i64 0,.int .i64 0,.slice (some ⟨ga,0,none⟩) 1 1] 25):=⟨_,rfl⟩
 obtain ⟨gb,hgb⟩:∃ z,z = V4.heap.size:=⟨_,rfl⟩
 have hrF:Rep V5 (NrY (z + 1) V5.heap.size) (d + 3) (exF x) (nd (exF x) (some ⟨gb,0,none⟩) 3):=by
  have hl0:Rep V4 (NrY (z + 1) V4.heap.size) (d + 2) ⟨0,0,0,[]⟩ (nd ⟨0,0,0,[]⟩ none 0):=Rep.leaf (in_sm (by omega) (by omega)) (in_sm (by omega) (by omega)) (in_sm (by omega) (by omega)) (d + 1) 0
  have hl2:Rep V4 (NrY (z + 1) V4.heap.size) (d + 2) ⟨2,2,0,[]⟩ (nd ⟨2,2,0,[]⟩ none 0):=Rep.leaf (in_sm (by omega) (by omega)) (in_sm (by omega) (by omega)) (in_sm (by omega) (by omega)) (d + 1) 0
  have h:=(nds_newN (((Reps.one hl0).snoc hl2).snoc hrB4) (HK1.out.below HB14.out HK1.out.lt).lt (by simp)).rep (k:=26) (n:=1) (m:=0) (in_sm (by omega) (by omega)) (in_sm (by omega) (by omega)) (in_sm (by omega) (by omega))
  have e:(((nd ⟨0,0,0,[]⟩ none 0) ++ (nd ⟨2,2,0,[]⟩ none 0)) ++ (nd (exB x) (some ⟨ga,0,none⟩) 1)).toArray = #[.int .i64 0,.int .i64 0,.int .i64 0,.slice none 0 0,.int .i64 2,.int .i64 2,.int .i64 0,.slice none 0 0,.int .i64 13,.int .i64 0,.int .i64 0,.slice (some ⟨ga,0,none⟩) 1 1]:=rfl
  rw [e,← hV5,← hgb] at h
  exact h
 have HRF:=Lib.hid hrF
 have HV5:=Lib.hid hV5
 have HGB:=Lib.hid hgb
 have HB45:Hid (Below V4.heap.size V4 V5):=Lib.hid (by rw [hV5]; exact below_new _ _)
 clear hV4 hg3 k3 hrB4 hV5 hgb hrF
 go_upto_region 3 with (go_at_call 46; rw [← HV5.out,← HGB.out]; refine (node_is _ _ _ _ _ _).mono ?_; rintro e w6 ⟨rfl,hb6⟩; have HB6:=Lib.hid hb6; clear hb6)
 clear y0 y1 y2 y3
 obtain ⟨V7,hV7⟩:∃ W,W = w6.alloc (.cells #[.int .i64 26,.int .i64 1,.int .i64 0,.slice (some ⟨gb,0,none⟩) 3 3] 25):=⟨_,rfl⟩
 obtain ⟨g6,hg6⟩:∃ z,z = w6.heap.size:=⟨_,rfl⟩
 rw [← hV7,← hg6]
 have k6:Blk V7 g6 25 #[.int .i64 26,.int .i64 1,.int .i64 0,.slice (some ⟨gb,0,none⟩) 3 3]:=by rw [hV7,hg6]; exact Blk.new _ _ _
 obtain ⟨y0,y1,y2,y3⟩:V7.cell? ⟨g6,0,none⟩ = some (.int .i64 26)∧V7.cell? ⟨g6,1,none⟩ = some (.int .i64 1)∧V7.cell? ⟨g6,2,none⟩ = some (.int .i64 0)∧V7.cell? ⟨g6,3,none⟩ = some (.slice (some ⟨gb,0,none⟩) 3 3):=⟨k6.cell 0,k6.cell 1,k6.cell 2,k6.cell 3⟩
 have hb57:Below V5.heap.size V5 V7:=bt HB6.out (by rw [hV7]; exact below_new _ _)
 have HB17:Hid (Below W1.heap.size W1 V7):=Lib.hid (bt HB14.out (bt HB45.out hb57))
 have hrF7:=rep_nextN HRF.out hb57
 obtain ⟨V8,hV8⟩:∃ W,W = V7.alloc (.cells #[.int .i64 26,.int .i64 1,.int .i64 0,.slice (some ⟨gb,0,none⟩) 3 3] 25):=⟨_,rfl⟩
 obtain ⟨gc,hgc⟩:∃ z,z = V7.heap.size:=⟨_,rfl⟩
 have hrT:Rep V8 (NrY (z + 1) V8.heap.size) (d + 4) (exT x) (nd (exT x) (some ⟨gc,0,none⟩) 1):=by
  have h:=(nds_newN (Reps.one hrF7) (HK1.out.below HB17.out HK1.out.lt).lt (by simp)).rep (k:=27) (n:=0) (m:=0) (in_sm (by omega) (by omega)) (in_sm (by omega) (by omega)) (in_sm (by omega) (by omega))
  have e:(nd (exF x) (some ⟨gb,0,none⟩) 3).toArray = #[.int .i64 26,.int .i64 1,.int .i64 0,.slice (some ⟨gb,0,none⟩) 3 3]:=rfl
  rw [e,← hV8,← hgc] at h
  exact h
 have HRT:=Lib.hid hrT
 have HV8:=Lib.hid hV8
 have HGC:=Lib.hid hgc
 have HB78:Hid (Below V7.heap.size V7 V8):=Lib.hid (by rw [hV8]; exact below_new _ _)
 clear hV7 hg6 k6 hrF7 hV8 hgc hrT hb57
 go_wp2_with (go_at_call 46; rw [← HV8.out,← HGC.out]; refine (node_is _ _ _ _ _ _).mono ?_; rintro e w9 ⟨rfl,hb9⟩; have HB9:=Lib.hid hb9; have HB19:=Lib.hid (bt HB17.out (bt HB78.out hb9)); have HK9:=Lib.hid (HK1.out.below HB19.out HK1.out.lt); clear hb9; obtain ⟨z0,z1,z2,z3⟩:w9.cell? ⟨z + 1,0,none⟩ = some (.int .i64 0)∧w9.cell? ⟨z + 1,1,none⟩ = some (.int .i64 0)∧w9.cell? ⟨z + 1,2,none⟩ = some (.int .i64 0)∧w9.cell? ⟨z + 1,3,none⟩ = some (.slice none 0 0):=⟨HK9.out.cell 0,HK9.out.cell 1,HK9.out.cell 2,HK9.out.cell 3⟩; obtain ⟨f0,f1,f2,f3⟩:w9.frozen? ⟨z + 1,0,none⟩ = false∧w9.frozen? ⟨z + 1,1,none⟩ = false∧w9.frozen? ⟨z + 1,2,none⟩ = false∧w9.frozen? ⟨z + 1,3,none⟩ = false:=⟨HK9.out.frozen 0,HK9.out.frozen 1,HK9.out.frozen 2,HK9.out.frozen 3⟩)
 have hzz:=HZ.out
 obtain ⟨X,hX⟩:∃ W,W = (((w9.setCell ⟨z + 1,0,none⟩ (.int .i64 27)).setCell ⟨z + 1,1,none⟩ (.int .i64 0)).setCell ⟨z + 1,2,none⟩ (.int .i64 0)).setCell ⟨z + 1,3,none⟩ (.slice (some ⟨gc,0,none⟩) 1 1):=⟨_,rfl⟩
 rw [← hX]
 have kX:Blk X (z + 1) 25 #[.int .i64 27,.int .i64 0,.int .i64 0,.slice (some ⟨gc,0,none⟩) 1 1]:=by
  rw [hX]
  have h:=(((HK9.out.set_ 0 (.int .i64 27)).set_ 1 (.int .i64 0)).set_ 2 (.int .i64 0)).set_ 3 (.slice (some ⟨gc,0,none⟩) 1 1)
  simpa using h
 have hb9:=bt HB1.out HB19.out
 have hbX:Below w.heap.size w X:=by
  rw [hX]
  exact (((hb9.setCell (by show w.heap.size≤z + 1; omega) _).setCell (by show w.heap.size≤z + 1; omega) _).setCell (by show w.heap.size≤z + 1; omega) _).setCell (by show w.heap.size≤z + 1; omega) _
 have hsX:X.heap.size = w9.heap.size:=by rw [hX,World.size_setCell,World.size_setCell,World.size_setCell,World.size_setCell]
 have hrX:Rep X (Lt X.heap.size) (d + 4) (exT x) (nd (exT x) (some ⟨gc,0,none⟩) 1):=by
  have h:=rep_nextN HRT.out HB9.out
  have hno:¬ NrY (z + 1) w9.heap.size (z + 1):=fun h=>h.2 rfl
  have h2:=h.keep (((((Keeps.refl _ w9).setCell (p:=⟨z + 1,0,none⟩) hno (.int .i64 27)).setCell (p:=⟨z + 1,1,none⟩) hno (.int .i64 0)).setCell (p:=⟨z + 1,2,none⟩) hno (.int .i64 0)).setCell (p:=⟨z + 1,3,none⟩) hno (.slice (some ⟨gc,0,none⟩) 1 1))
  rw [← hX] at h2
  exact h2.mono fun b hb=>by show b < X.heap.size; rw [hsX]; exact hb.1
 have r0:X.cell? ⟨z + 1,0,none⟩ = some (.int .i64 27):=kX.cell 0
 have r1:X.cell? ⟨z + 1,1,none⟩ = some (.int .i64 0):=kX.cell 1
 have r2:X.cell? ⟨z + 1,2,none⟩ = some (.int .i64 0):=kX.cell 2
 have r3:X.cell? ⟨z + 1,3,none⟩ = some (.slice (some ⟨gc,0,none⟩) 1 1):=kX.cell 3
 refine bodyPost_ret (v:=.agg #[.int .i64 27,.int .i64 0,.int .i64 0,.slice (some ⟨gc,0,none⟩) 1 1]) (by simp [results,Tryd.results47,go_sem,r0,r1,r2,r3]) rfl ⟨some ⟨gc,0,none⟩,1,rfl,hrX,hbX⟩
end Go.Proofs.YtkkenbalpnmfmaaDoor

namespace Go.Proofs.YtkkenbalpnmfmaaDoor
open Go.RowKit WM TR TY

def wk (j:Nat):Int:=[19,13,26,27].getD j 0
def wrapN:Nat→T→T
 | 0,e=>e
 | j + 1,e=>⟨wk j,0,0,[wrapN j e]⟩
theorem wrap_size (e:T):∀ j,size (wrapN j e) = size e + j
 | 0=>rfl
 | j + 1=>by
  have h:=wrap_size e j
  rw [size_eq]
  simp [wrapN,h]
  omega
theorem wk_in (j:Nat):inRange (wk j):=by
 unfold wk
 match j with
 | 0=>exact in_sm (by decide) (by decide)
 | 1=>exact in_sm (by decide) (by decide)
 | 2=>exact in_sm (by decide) (by decide)
 | 3=>exact in_sm (by decide) (by decide)
 | _ + 4=>exact (in_sm (by decide) (by decide):inRange (0:Int))
set_option maxRecDepth 100000 in
set_option maxHeartbeats 8000000 in
theorem isExpr_is (d : Nat) (x : T) (A : Option Addr) (c : Nat) (w : World) (hr : Rep w (Lt w.heap.size) d x (nd x A c)) (hsz : size x ≤ 100000) (hT : ST w) (hg : 0 < w.heap.size) :
  Calls Tryd.prog 62 #[.agg #[.int .i64 x.k,.int .i64 x.n,.int .i64 x.m,.slice A x.kids.length c]] w fun e w'=>e = .returned (.bool (isProg (wrapN 4 x)))∧Below w.heap.size w w':=by
 obtain ⟨z,hz⟩:∃ z,z = w.heap.size:=⟨_,rfl⟩
 obtain ⟨nk,hnk⟩:∃ z,z = x.kids.length:=⟨_,rfl⟩
 obtain ⟨k,hk⟩:∃ z,z = x.k:=⟨_,rfl⟩
 obtain ⟨n,hn⟩:∃ z,z = x.n:=⟨_,rfl⟩
 obtain ⟨m,hm⟩:∃ z,z = x.m:=⟨_,rfl⟩
 obtain ⟨W1,hW1⟩:∃ W,W = ((w.alloc (.cells #[.int .i64 k,.int .i64 n,.int .i64 m,.slice A nk c] 25)).alloc (.cells #[.int .i64 k,.int .i64 n,.int .i64 m,.slice A nk c] 25)).alloc (.cells #[.int .i64 19,.int .i64 13,.int .i64 26,.int .i64 27] 3):=⟨_,rfl⟩
 obtain ⟨g1,hg1⟩:∃ z,z = w.heap.size + 1:=⟨_,rfl⟩
 obtain ⟨g2,hg2⟩:∃ z,z = w.heap.size + 1 + 1:=⟨_,rfl⟩
 have hb1:Below w.heap.size w W1:=by rw [hW1]; exact ba (ba (below_new _ _) _) _
 have k1:Blk W1 g1 25 (nd x A c).toArray:=by
  have e:(nd x A c).toArray = #[.int .i64 k,.int .i64 n,.int .i64 m,.slice A nk c]:=by rw [hk,hn,hm,hnk]; rfl
  rw [e,hW1]; exact (Blk.new_at _ _ (by rw [size_alloc,hg1]) rfl).alloc _
 have k2:Blk W1 g2 3 #[.int .i64 19,.int .i64 13,.int .i64 26,.int .i64 27]:=by rw [hW1]; exact Blk.new_at _ _ (by rw [size_alloc,size_alloc,hg2]) rfl
 have hr1:Rep W1 (NrY g1 W1.heap.size) d x (nd x A c):=(hr.keep fun b hb=>hb1.block b hb).mono fun b (hb:b < w.heap.size)=>⟨Nat.lt_of_lt_of_le hb hb1.size,by omega⟩
 have HW1:=Lib.hid hW1
 have HZ:=Lib.hid hz
 have HB1:=Lib.hid hb1
 have HG1:=Lib.hid hg1
 have HG2:=Lib.hid hg2
 have HK1:=Lib.hid k1
 have HK2:=Lib.hid k2
 have HR1:=Lib.hid hr1
 have HT:=Lib.hid hT
 have HG:=Lib.hid hg
 have HSZ:=Lib.hid hsz
 rw [← hnk,← hk,← hn,← hm]
 clear hz hnk hk hn hm hW1 hg1 hg2 hb1 k1 k2 hr1 hr hT hg hsz
 go_enter Tryd.func62,Tryd.ntmps62
 go_upto_region 3 with fail
 rw [← HW1.out,← HG2.out,← HG1.out]
 try rw [← HZ.out]
 go_loopw [9] (fun i wr=>∃ (j:Nat) (A5:Option Addr) (c5:Nat),j≤4∧i = .int .i64 j∧Hid (Below w.heap.size w wr)∧Hid (Blk wr g1 25 (nd (wrapN j x) A5 c5).toArray)∧Hid (Rep wr (NrY g1 wr.heap.size) (d + j) (wrapN j x) (nd (wrapN j x) A5 c5))∧Hid (Blk wr g2 3 #[.int .i64 19,.int .i64 13,.int .i64 26,.int .i64 27])) (fun i _=>4 - (intOf i).toNat)
 case atStart=>exact ⟨0,A,c,by omega,rfl,HB1,HK1,HR1,HK2⟩
 case round =>
  obtain ⟨j,A5,c5,hj,rfl,HB5,HK5,HR5,HI5⟩:=hrel
  obtain ⟨t,ht⟩:∃ t,t = wrapN j x:=⟨_,rfl⟩
  rw [← ht] at HK5 HR5
  obtain ⟨tk,htk⟩:∃ z,z = t.k:=⟨_,rfl⟩
  obtain ⟨tn,htn⟩:∃ z,z = t.n:=⟨_,rfl⟩
  obtain ⟨tm,htm⟩:∃ z,z = t.m:=⟨_,rfl⟩
  obtain ⟨nt,hnt⟩:∃ z,z = t.kids.length:=⟨_,rfl⟩
  have ecs:(nd t A5 c5).toArray = #[.int .i64 tk,.int .i64 tn,.int .i64 tm,.slice A5 nt c5]:=by rw [htk,htn,htm,hnt]; rfl
  have hk5:=HK5.out
  rw [ecs] at hk5
  obtain ⟨y0,y1,y2,y3⟩:wr.cell? ⟨g1,0,none⟩ = some (.int .i64 tk)∧wr.cell? ⟨g1,1,none⟩ = some (.int .i64 tn)∧wr.cell? ⟨g1,2,none⟩ = some (.int .i64 tm)∧wr.cell? ⟨g1,3,none⟩ = some (.slice A5 nt c5):=⟨hk5.cell 0,hk5.cell 1,hk5.cell 2,hk5.cell 3⟩
  obtain ⟨f0,f1,f2,f3⟩:wr.frozen? ⟨g1,0,none⟩ = false∧wr.frozen? ⟨g1,1,none⟩ = false∧wr.frozen? ⟨g1,2,none⟩ = false∧wr.frozen? ⟨g1,3,none⟩ = false:=⟨hk5.frozen 0,hk5.frozen 1,hk5.frozen 2,hk5.frozen 3⟩
  have HK6:=Lib.hid hk5
  have HECS:=Lib.hid ecs
  have HTT:=Lib.hid ht
  have HTK:=Lib.hid htk
  have HTN:=Lib.hid htn
  have HTM:=Lib.hid htm
  have HNT:=Lib.hid hnt
  clear ht htk htn htm hnt ecs hk5
  by_cases hlt:j < 4
  ·obtain ⟨q,hq⟩:∃ q,q = wk j:=⟨_,rfl⟩
   have q0:wr.cell? ⟨g2,j,none⟩ = some (.int .i64 q):=by
    rw [HI5.out.cell j,hq]
    have:j = 0∨j = 1∨j = 2∨j = 3:=by omega
    rcases this with rfl | rfl | rfl | rfl <;> rfl
   have HQ:=Lib.hid hq
   have hib:(0:Int)≤(j:Int)∧(j:Int) < 4:=⟨by omega,by omega⟩
   have ka:=HK6.out.alloc (.cells #[.int .i64 tk,.int .i64 tn,.int .i64 tm,.slice A5 nt c5] 25)
   obtain ⟨x0,x1,x2,x3⟩:(wr.alloc (.cells #[.int .i64 tk,.int .i64 tn,.int .i64 tm,.slice A5 nt c5] 25)).cell? ⟨g1,0,none⟩ = some (.int .i64 tk)∧(wr.alloc (.cells #[.int .i64 tk,.int .i64 tn,.int .i64 tm,.slice A5 nt c5] 25)).cell? ⟨g1,1,none⟩ = some (.int .i64 tn)∧(wr.alloc (.cells #[.int .i64 tk,.int .i64 tn,.int .i64 tm,.slice A5 nt c5] 25)).cell? ⟨g1,2,none⟩ = some (.int .i64 tm)∧(wr.alloc (.cells #[.int .i64 tk,.int .i64 tn,.int .i64 tm,.slice A5 nt c5] 25)).cell? ⟨g1,3,none⟩ = some (.slice A5 nt c5):=⟨ka.cell 0,ka.cell 1,ka.cell 2,ka.cell 3⟩
   obtain ⟨e0,e1,e2,e3⟩:(wr.alloc (.cells #[.int .i64 tk,.int .i64 tn,.int .i64 tm,.slice A5 nt c5] 25)).frozen? ⟨g1,0,none⟩ = false∧(wr.alloc (.cells #[.int .i64 tk,.int .i64 tn,.int .i64 tm,.slice A5 nt c5] 25)).frozen? ⟨g1,1,none⟩ = false∧(wr.alloc (.cells #[.int .i64 tk,.int .i64 tn,.int .i64 tm,.slice A5 nt c5] 25)).frozen? ⟨g1,2,none⟩ = false∧(wr.alloc (.cells #[.int .i64 tk,.int .i64 tn,.int .i64 tm,.slice A5 nt c5] 25)).frozen? ⟨g1,3,none⟩ = false:=⟨ka.frozen 0,ka.frozen 1,ka.frozen 2,ka.frozen 3⟩
   clear hq ka
   go_upto_region 6 with fail
   obtain ⟨V,hV⟩:∃ V,V = wr.alloc (.cells #[.int .i64 tk,.int .i64 tn,.int .i64 tm,.slice A5 nt c5] 25):=⟨_,rfl⟩
   obtain ⟨g,hg⟩:∃ g,g = wr.heap.size:=⟨_,rfl⟩
   obtain ⟨X,hX⟩:∃ W,W = (((V.setCell ⟨g1,0,none⟩ (.int .i64 q)).setCell ⟨g1,1,none⟩ (.int .i64 0)).setCell ⟨g1,2,none⟩ (.int .i64 0)).setCell ⟨g1,3,none⟩ (.slice (some ⟨g,0,none⟩) 1 1):=⟨_,rfl⟩
   rw [← hV,← hg,← hX]
   have hbV:Below wr.heap.size wr V:=by rw [hV]; exact below_new _ _
   have hg1:=HG1.out
   have hg2:=HG2.out
   have hsX:X.heap.size = V.heap.size:=by rw [hX,World.size_setCell,World.size_setCell,World.size_setCell,World.size_setCell]
   have hsV:V.heap.size = g + 1:=by rw [hV,size_alloc,hg]
   have kV:Blk V g1 25 #[.int .i64 tk,.int .i64 tn,.int .i64 tm,.slice A5 nt c5]:=by rw [hV]; exact HK6.out.alloc _
   have hes:(nd (wrapN (j + 1) x) (some ⟨g,0,none⟩) 1).toArray = #[.int .i64 q,.int .i64 0,.int .i64 0,.slice (some ⟨g,0,none⟩) 1 1]:=by rw [HQ.out]; rfl
   have kX:Blk X g1 25 (nd (wrapN (j + 1) x) (some ⟨g,0,none⟩) 1).toArray:=by
    rw [hes,hX]
    have h:=(((kV.set_ 0 (.int .i64 q)).set_ 1 (.int .i64 0)).set_ 2 (.int .i64 0)).set_ 3 (.slice (some ⟨g,0,none⟩) 1 1)
    simpa using h
   have hbX:Below w.heap.size w X:=by
    rw [hX]
    exact ((((bt HB5.out hbV).setCell (by show w.heap.size≤g1; omega) _).setCell (by show w.heap.size≤g1; omega) _).setCell (by show w.heap.size≤g1; omega) _).setCell (by show w.heap.size≤g1; omega) _
   have hrV:Rep V (NrY g1 V.heap.size) (d + j + 1) (wrapN (j + 1) x) (nd (wrapN (j + 1) x) (some ⟨g,0,none⟩) 1):=by
    have h:=(nds_newN (Reps.one HR5.out) HK6.out.lt (by simp)).rep (k:=wk j) (n:=0) (m:=0) (wk_in j) (in_sm (by omega) (by omega)) (in_sm (by omega) (by omega))
    rw [HECS.out,← hV,← hg] at h
    rw [HTT.out] at h
    exact h
   have hrX:Rep X (NrY g1 X.heap.size) (d + (j + 1)) (wrapN (j + 1) x) (nd (wrapN (j + 1) x) (some ⟨g,0,none⟩) 1):=by
    have hno:¬ NrY g1 V.heap.size g1:=fun h=>h.2 rfl
    have h2:=hrV.keep (((((Keeps.refl _ V).setCell (p:=⟨g1,0,none⟩) hno (.int .i64 q)).setCell (p:=⟨g1,1,none⟩) hno (.int .i64 0)).setCell (p:=⟨g1,2,none⟩) hno (.int .i64 0)).setCell (p:=⟨g1,3,none⟩) hno (.slice (some ⟨g,0,none⟩) 1 1))
    rw [← hX] at h2
    rw [hsX]
    exact h2
   have kI:Blk X g2 3 #[.int .i64 19,.int .i64 13,.int .i64 26,.int .i64 27]:=by
    have h:X.heap[g2]? = V.heap[g2]?:=by
     rw [hX]
     have hne:g2≠g1:=by omega
     rw [Below.heap_setCell _ ⟨g1,3,none⟩ _ g2 hne,Below.heap_setCell _ ⟨g1,2,none⟩ _ g2 hne,Below.heap_setCell _ ⟨g1,1,none⟩ _ g2 hne,Below.heap_setCell _ ⟨g1,0,none⟩ _ g2 hne]
    exact h.trans (by rw [hV]; exact HI5.out.alloc _)
   have H1:=Lib.hid hbX
   have H2:=Lib.hid kX
   have H3:=Lib.hid hrX
   have H4:=Lib.hid kI
   clear hV hg hX hbV hg1 hg2 hsX hsV kV hes kX hbX hrV hrX kI x0 x1 x2 x3 e0 e1 e2 e3 y0 y1 y2 y3 f0 f1 f2 f3 q0
   go_wp2_with fail
   go_roundw
   case rel=>exact ⟨j + 1,some ⟨g,0,none⟩,1,by omega,by go_num,H1,H2,H3,H4⟩
   case measure=>simp [intOf]; omega
  ·have hj4:j = 4:=by omega
   have HVAL:Hid (Calls Tryd.prog 18 #[.agg #[.int .i64 tk,.int .i64 tn,.int .i64 tm,.slice A5 nt c5]] wr fun e w'=>e = .returned (.bool (isProg (wrapN 4 x)))∧Below wr.heap.size wr w'):=Lib.hid (by
    have ht:t = wrapN 4 x:=by rw [HTT.out,hj4]
    have h:=tvalid_is (d + j) t _ A5 c5 wr HR5.out (fun b hb=>hb.1) (by rw [ht,wrap_size]; have:=HSZ.out; omega) (HT.out.below HB5.out HG.out) (Nat.lt_of_lt_of_le HG.out HB5.out.size)
    rw [← HTK.out,← HTN.out,← HTM.out,← HNT.out,ht] at h
    exact h)
   clear hj4
   go_wp2_with (go_at_call 18; refine HVAL.out.mono ?_; rintro e w6 ⟨rfl,hb6⟩; have HB6:=Lib.hid (bt HB5.out hb6); clear hb6)
   go_ret
   exact ⟨rfl,HB6.out⟩
end Go.Proofs.YtkkenbalpnmfmaaDoor

namespace Go.Proofs.YtkkenbalpnmfmaaDoor
open Go.RowKit WM TR TY

noncomputable def ofK (p:T) (f:Int) (x:T):Int × Int :=
 if isProg p = false then (0,2) else if isProg (wrapN 4 x) = false then (0,2)
 else if f < 0∨(p.kids.length:Int)≤f then (0,5)
 else if (firstW (scO p (tAt p.kids f)) x).2≠0 then (0,(firstW (scO p (tAt p.kids f)) x).2) else (typeOf (scO p (tAt p.kids f)) x,0)
theorem put4_of {w W X : World} {g : Nat} {v0 v1 v2 v3 : Value} (hk : Blk W g 25 #[.int .i64 0, .int .i64 0, .int .i64 0, .slice none 0 0]) (hb : Below w.heap.size w W) (hg : w.heap.size ≤ g) (hX : X = (((W.setCell ⟨g, 0, none⟩ v0).setCell ⟨g, 1, none⟩ v1).setCell ⟨g, 2, none⟩ v2).setCell ⟨g, 3, none⟩ v3) :
  (X.cell? ⟨g,0,none⟩ = some v0∧X.cell? ⟨g,1,none⟩ = some v1∧X.cell? ⟨g,2,none⟩ = some v2∧X.cell? ⟨g,3,none⟩ = some v3)∧Below w.heap.size w X:=by
 have kX:Blk X g 25 #[v0,v1,v2,v3]:=by
  rw [hX]
  have h:=(((hk.set_ 0 v0).set_ 1 v1).set_ 2 v2).set_ 3 v3
  simpa using h
 refine ⟨⟨kX.cell 0,kX.cell 1,kX.cell 2,kX.cell 3⟩,?_⟩
 rw [hX]
 exact (((hb.setCell (by show w.heap.size≤g; exact hg) _).setCell (by show w.heap.size≤g; exact hg) _).setCell (by show w.heap.size≤g; exact hg) _).setCell (by show w.heap.size≤g; exact hg) _
theorem tAt_j {l:List T} {j:Nat} {u:T} (h:l[j]? = some u):tAt l (j:Int) = u:=tAt_get rfl h
theorem expr_fit {x:T} (h:isProg (wrapN 4 x) = true):Fit x:=by
 have hp:IsProg (wrapN 4 x):=by unfold isProg at h; simpa using h
 have hf:=((prog_iff _).1 hp).2.2.2
 have h3:Fit (wrapN 3 x):=hf.kids _ (by simp [wrapN])
 have h2:Fit (wrapN 2 x):=h3.kids _ (by simp [wrapN])
 have h1:Fit (wrapN 1 x):=h2.kids _ (by simp [wrapN])
 exact h1.kids _ (by simp [wrapN])

set_option maxRecDepth 100000 in
set_option maxHeartbeats 16000000 in
theorem of_is (d : Nat) (p x : T) (f : Int) (A Ae : Option Addr) (c ce : Nat) (w : World) (hr : Rep w (Lt w.heap.size) (d + 1) p (nd p A c)) (hx : Rep w (Lt w.heap.size) (d + 1) x (nd x Ae ce)) (hD : d < 1000) (hsz : size p ≤ 1000000) (hsx : size x ≤ 100000) (hT : ST w) (hg : 0 < w.heap.size) :
  Calls Tryd.prog 29 #[.agg #[.int .i64 p.k,.int .i64 p.n,.int .i64 p.m,.slice A p.kids.length c],.int .i64 f,.agg #[.int .i64 x.k,.int .i64 x.n,.int .i64 x.m,.slice Ae x.kids.length ce]] w fun e w'=>e = .returned (.tuple #[.agg #[.int .i64 (ofK p f x).1,.int .i64 0,.int .i64 0,.slice none 0 0],.int .i64 (ofK p f x).2])∧Below w.heap.size w w':=by
 obtain ⟨z,hz⟩:∃ z,z = w.heap.size:=⟨_,rfl⟩
 obtain ⟨g1,hg1⟩:∃ z,z = w.heap.size + 1:=⟨_,rfl⟩
 obtain ⟨g2,hg2⟩:∃ z,z = w.heap.size + 1 + 1:=⟨_,rfl⟩
 obtain ⟨nk,hnk⟩:∃ z,z = p.kids.length:=⟨_,rfl⟩
 obtain ⟨k,hk⟩:∃ z,z = p.k:=⟨_,rfl⟩
 obtain ⟨n,hn⟩:∃ z,z = p.n:=⟨_,rfl⟩
 obtain ⟨m,hm⟩:∃ z,z = p.m:=⟨_,rfl⟩
 obtain ⟨ne,hne⟩:∃ z,z = x.kids.length:=⟨_,rfl⟩
 obtain ⟨ek,hek⟩:∃ z,z = x.k:=⟨_,rfl⟩
 obtain ⟨en,hen⟩:∃ z,z = x.n:=⟨_,rfl⟩
 obtain ⟨em,hem⟩:∃ z,z = x.m:=⟨_,rfl⟩
 obtain ⟨W1,hW1⟩:∃ W,W = ((w.alloc (.cells #[.int .i64 k,.int .i64 n,.int .i64 m,.slice A nk c] 25)).alloc (.cells #[.int .i64 ek,.int .i64 en,.int .i64 em,.slice Ae ne ce] 25)).alloc (.cells #[.int .i64 0,.int .i64 0,.int .i64 0,.slice none 0 0] 25):=⟨_,rfl⟩
 have hb1:Below w.heap.size w W1:=by rw [hW1]; exact ba (ba (below_new _ _) _) _
 have k0:Blk W1 z 25 #[.int .i64 k,.int .i64 n,.int .i64 m,.slice A nk c]:=by rw [hW1,hz]; exact ((Blk.new _ _ _).alloc _).alloc _
 have k1:Blk W1 g1 25 #[.int .i64 ek,.int .i64 en,.int .i64 em,.slice Ae ne ce]:=by rw [hW1]; exact (Blk.new_at _ _ (by rw [size_alloc,hg1]) rfl).alloc _
 have k2:Blk W1 g2 25 #[.int .i64 0,.int .i64 0,.int .i64 0,.slice none 0 0]:=by rw [hW1]; exact Blk.new_at _ _ (by rw [size_alloc,size_alloc,hg2]) rfl
 have HKC:Hid (∀ W,Below W1.heap.size W1 W→(W.cell? ⟨z,0,none⟩ = some (.int .i64 k)∧W.cell? ⟨z,1,none⟩ = some (.int .i64 n)∧W.cell? ⟨z,2,none⟩ = some (.int .i64 m)∧W.cell? ⟨z,3,none⟩ = some (.slice A nk c))∧(W.cell? ⟨g1,0,none⟩ = some (.int .i64 ek)∧W.cell? ⟨g1,1,none⟩ = some (.int .i64 en)∧W.cell? ⟨g1,2,none⟩ = some (.int .i64 em)∧W.cell? ⟨g1,3,none⟩ = some (.slice Ae ne ce))∧(W.cell? ⟨g2,0,none⟩ = some (.int .i64 0)∧W.cell? ⟨g2,1,none⟩ = some (.int .i64 0)∧W.cell? ⟨g2,2,none⟩ = some (.int .i64 0)∧W.cell? ⟨g2,3,none⟩ = some (.slice none 0 0))∧(W.frozen? ⟨g2,0,none⟩ = false∧W.frozen? ⟨g2,1,none⟩ = false∧W.frozen? ⟨g2,2,none⟩ = false∧W.frozen? ⟨g2,3,none⟩ = false)):=Lib.hid fun W hb=>by
  have e0:=k0.below hb k0.lt
  have e1:=k1.below hb k1.lt
  have e2:=k2.below hb k2.lt
  exact ⟨⟨e0.cell 0,e0.cell 1,e0.cell 2,e0.cell 3⟩,⟨e1.cell 0,e1.cell 1,e1.cell 2,e1.cell 3⟩,⟨e2.cell 0,e2.cell 1,e2.cell 2,e2.cell 3⟩,e2.frozen 0,e2.frozen 1,e2.frozen 2,e2.frozen 3⟩
 obtain ⟨⟨y0,y1,y2,y3⟩,⟨x0,x1,x2,x3⟩,⟨u0,u1,u2,u3⟩,f0,f1,f2,f3⟩:=HKC.out W1 (Below.refl _ _)
 obtain ⟨vp,hvp⟩:∃ v,v = isProg p:=⟨_,rfl⟩
 obtain ⟨ve,hve⟩:∃ v,v = isProg (wrapN 4 x):=⟨_,rfl⟩
 have HVP:Hid (∀ W,Below W1.heap.size W1 W→Calls Tryd.prog 18 #[.agg #[.int .i64 k,.int .i64 n,.int .i64 m,.slice A nk c]] W fun e w'=>e = .returned (.bool vp)∧Below W.heap.size W w'):=Lib.hid fun W hb=>by
  have hbw:=bt hb1 hb
  have h:=tvalid_is (d + 1) p _ A c W (rep_next hr hbw) (In.lt _) hsz (hT.below hbw hg) (Nat.lt_of_lt_of_le hg hbw.size)
  rw [← hvp,← hnk,← hk,← hn,← hm] at h
  exact h
 have HVE:Hid (∀ W,Below W1.heap.size W1 W→Calls Tryd.prog 62 #[.agg #[.int .i64 ek,.int .i64 en,.int .i64 em,.slice Ae ne ce]] W fun e w'=>e = .returned (.bool ve)∧Below W.heap.size W w'):=Lib.hid fun W hb=>by
  have hbw:=bt hb1 hb
  have h:=isExpr_is (d + 1) x Ae ce W (rep_next hx hbw) hsx (hT.below hbw hg) (Nat.lt_of_lt_of_le hg hbw.size)
  rw [← hve,← hne,← hek,← hen,← hem] at h
  exact h
 obtain ⟨rk,hrk⟩:∃ z,z = (ofK p f x).1:=⟨_,rfl⟩
 obtain ⟨re,hre⟩:∃ z,z = (ofK p f x).2:=⟨_,rfl⟩
 have HO:Hid ((rk,re) = if vp = false then (0,2) else if ve = false then (0,2) else if f < 0∨(nk:Int)≤f then (0,5) else if (firstW (scO p (tAt p.kids f)) x).2≠0 then (0,(firstW (scO p (tAt p.kids f)) x).2) else (typeOf (scO p (tAt p.kids f)) x,0)):=Lib.hid (by rw [hrk,hre,hvp,hve,hnk]; rfl)
 have HW1:=Lib.hid hW1
 have HZ:=Lib.hid hz
 have HG1:=Lib.hid hg1
 have HG2:=Lib.hid hg2
 have HB1:=Lib.hid hb1
 have HK2:=Lib.hid k2
 have HRP:=Lib.hid (rep_next hr hb1)
 have HRX:=Lib.hid (rep_next hx hb1)
 have HNK:=Lib.hid hnk
 have HK:=Lib.hid hk
 have HN:=Lib.hid hn
 have HM:=Lib.hid hm
 have HNE:=Lib.hid hne
 have HEK:=Lib.hid hek
 have HEN:=Lib.hid hen
 have HEM:=Lib.hid hem
 have HV:=Lib.hid hvp
 have HE:=Lib.hid hve
 have HD:=Lib.hid hD
 rw [← hnk,← hk,← hn,← hm,← hne,← hek,← hen,← hem,← hrk,← hre]
 clear hz hg1 hg2 hnk hk hn hm hne hek hen hem hW1 hb1 k0 k1 k2 hvp hve hrk hre hr hx hsz hsx hT hg hD
 cases vp
 case false =>
  have HO2:Hid (rk = 0∧re = 2):=Lib.hid (by have h:=HO.out; rw [if_pos rfl] at h; injection h with h1 h2; exact ⟨h1,h2⟩)
  go_enter Tryd.func29,Tryd.ntmps29
  go_upto_region 1 with fail
  rw [← HW1.out,← HG2.out,← HG1.out]
  try rw [← HZ.out]
  go_wp2_with (go_at_call 18; refine (HVP.out _ (Below.refl _ _)).mono ?_; rintro e w2 ⟨rfl,hb2⟩; have HB:=Lib.hid hb2; clear hb2 y0 y1 y2 y3 x0 x1 x2 x3 u0 u1 u2 u3 f0 f1 f2 f3; obtain ⟨⟨y0,y1,y2,y3⟩,⟨x0,x1,x2,x3⟩,⟨u0,u1,u2,u3⟩,f0,f1,f2,f3⟩:=HKC.out _ HB.out)
  obtain ⟨X,hX⟩:∃ X,X = (((w2.setCell ⟨g2,0,none⟩ (.int .i64 0)).setCell ⟨g2,1,none⟩ (.int .i64 0)).setCell ⟨g2,2,none⟩ (.int .i64 0)).setCell ⟨g2,3,none⟩ (.slice none 0 0):=⟨_,rfl⟩
  rw [← hX]
  obtain ⟨⟨r0,r1,r2,r3⟩,hbX⟩:=put4_of (HK2.out.below HB.out HK2.out.lt) (bt HB1.out HB.out) (by have:=HG2.out; omega) hX
  refine bodyPost_ret (v:=.tuple #[.agg #[.int .i64 0,.int .i64 0,.int .i64 0,.slice none 0 0],.int .i64 2]) (by simp [results,Tryd.results29,go_sem,r0,r1,r2,r3]) rfl ⟨?_,hbX⟩
  rw [HO2.out.1,HO2.out.2]
 cases ve
 case false =>
  have HO2:Hid (rk = 0∧re = 2):=Lib.hid (by have h:=HO.out; rw [if_neg (by simp),if_pos rfl] at h; injection h with h1 h2; exact ⟨h1,h2⟩)
  go_enter Tryd.func29,Tryd.ntmps29
  go_upto_region 1 with fail
  rw [← HW1.out,← HG2.out,← HG1.out]
  try rw [← HZ.out]
  go_wp2_with (first
   | (go_at_call 18; refine (HVP.out _ (Below.refl _ _)).mono ?_; rintro e w2 ⟨rfl,hb2⟩; have HB:=Lib.hid hb2; clear hb2 y0 y1 y2 y3 x0 x1 x2 x3 u0 u1 u2 u3 f0 f1 f2 f3; obtain ⟨⟨y0,y1,y2,y3⟩,⟨x0,x1,x2,x3⟩,⟨u0,u1,u2,u3⟩,f0,f1,f2,f3⟩:=HKC.out _ HB.out)
   | (go_at_call 62; refine (HVE.out _ HB.out).mono ?_; rintro e w3 ⟨rfl,hb3⟩; replace HB:=Lib.hid (bt HB.out hb3); clear hb3 y0 y1 y2 y3 x0 x1 x2 x3 u0 u1 u2 u3 f0 f1 f2 f3; obtain ⟨⟨y0,y1,y2,y3⟩,⟨x0,x1,x2,x3⟩,⟨u0,u1,u2,u3⟩,f0,f1,f2,f3⟩:=HKC.out _ HB.out))
  obtain ⟨X,hX⟩:∃ X,X = (((w3.setCell ⟨g2,0,none⟩ (.int .i64 0)).setCell ⟨g2,1,none⟩ (.int .i64 0)).setCell ⟨g2,2,none⟩ (.int .i64 0)).setCell ⟨g2,3,none⟩ (.slice none 0 0):=⟨_,rfl⟩
  rw [← hX]
  obtain ⟨⟨r0,r1,r2,r3⟩,hbX⟩:=put4_of (HK2.out.below HB.out HK2.out.lt) (bt HB1.out HB.out) (by have:=HG2.out; omega) hX
  refine bodyPost_ret (v:=.tuple #[.agg #[.int .i64 0,.int .i64 0,.int .i64 0,.slice none 0 0],.int .i64 2]) (by simp [results,Tryd.results29,go_sem,r0,r1,r2,r3]) rfl ⟨?_,hbX⟩
  rw [HO2.out.1,HO2.out.2]
 have HO1:Hid ((rk,re) = if f < 0∨(nk:Int)≤f then (0,5) else if (firstW (scO p (tAt p.kids f)) x).2≠0 then (0,(firstW (scO p (tAt p.kids f)) x).2) else (typeOf (scO p (tAt p.kids f)) x,0)):=Lib.hid (by have h:=HO.out; rw [if_neg (by simp),if_neg (by simp)] at h; exact h)
 by_cases hf0:f < 0
 ·have hd0:decide (f < 0) = true:=decide_eq_true hf0
  have HO2:Hid (rk = 0∧re = 5):=Lib.hid (by have h:=HO.out; clear h; have h:=HO1.out; rw [if_pos (.inl hf0)] at h; injection h with h1 h2; exact ⟨h1,h2⟩)
  go_enter Tryd.func29,Tryd.ntmps29
  go_upto_region 1 with fail
  rw [← HW1.out,← HG2.out,← HG1.out]
  try rw [← HZ.out]
  go_wp2_with (first
   | (go_at_call 18; refine (HVP.out _ (Below.refl _ _)).mono ?_; rintro e w2 ⟨rfl,hb2⟩; have HB:=Lib.hid hb2; clear hb2 y0 y1 y2 y3 x0 x1 x2 x3 u0 u1 u2 u3 f0 f1 f2 f3; obtain ⟨⟨y0,y1,y2,y3⟩,⟨x0,x1,x2,x3⟩,⟨u0,u1,u2,u3⟩,f0,f1,f2,f3⟩:=HKC.out _ HB.out)
   | (go_at_call 62; refine (HVE.out _ HB.out).mono ?_; rintro e w3 ⟨rfl,hb3⟩; replace HB:=Lib.hid (bt HB.out hb3); clear hb3 y0 y1 y2 y3 x0 x1 x2 x3 u0 u1 u2 u3 f0 f1 f2 f3; obtain ⟨⟨y0,y1,y2,y3⟩,⟨x0,x1,x2,x3⟩,⟨u0,u1,u2,u3⟩,f0,f1,f2,f3⟩:=HKC.out _ HB.out))
  obtain ⟨X,hX⟩:∃ X,X = (((w3.setCell ⟨g2,0,none⟩ (.int .i64 0)).setCell ⟨g2,1,none⟩ (.int .i64 0)).setCell ⟨g2,2,none⟩ (.int .i64 0)).setCell ⟨g2,3,none⟩ (.slice none 0 0):=⟨_,rfl⟩
  rw [← hX]
  obtain ⟨⟨r0,r1,r2,r3⟩,hbX⟩:=put4_of (HK2.out.below HB.out HK2.out.lt) (bt HB1.out HB.out) (by have:=HG2.out; omega) hX
  refine bodyPost_ret (v:=.tuple #[.agg #[.int .i64 0,.int .i64 0,.int .i64 0,.slice none 0 0],.int .i64 5]) (by simp [results,Tryd.results29,go_sem,r0,r1,r2,r3]) rfl ⟨?_,hbX⟩
  rw [HO2.out.1,HO2.out.2]
 have hd0:decide (f < 0) = false:=decide_eq_false hf0
 by_cases hf1:(nk:Int)≤f
 ·have hd1:decide ((nk:Int)≤f) = true:=decide_eq_true hf1
  have HO2:Hid (rk = 0∧re = 5):=Lib.hid (by have h:=HO.out; clear h; have h:=HO1.out; rw [if_pos (.inr hf1)] at h; injection h with h1 h2; exact ⟨h1,h2⟩)
  go_enter Tryd.func29,Tryd.ntmps29
  go_upto_region 1 with fail
  rw [← HW1.out,← HG2.out,← HG1.out]
  try rw [← HZ.out]
  go_wp2_with (first
   | (go_at_call 18; refine (HVP.out _ (Below.refl _ _)).mono ?_; rintro e w2 ⟨rfl,hb2⟩; have HB:=Lib.hid hb2; clear hb2 y0 y1 y2 y3 x0 x1 x2 x3 u0 u1 u2 u3 f0 f1 f2 f3; obtain ⟨⟨y0,y1,y2,y3⟩,⟨x0,x1,x2,x3⟩,⟨u0,u1,u2,u3⟩,f0,f1,f2,f3⟩:=HKC.out _ HB.out)
   | (go_at_call 62; refine (HVE.out _ HB.out).mono ?_; rintro e w3 ⟨rfl,hb3⟩; replace HB:=Lib.hid (bt HB.out hb3); clear hb3 y0 y1 y2 y3 x0 x1 x2 x3 u0 u1 u2 u3 f0 f1 f2 f3; obtain ⟨⟨y0,y1,y2,y3⟩,⟨x0,x1,x2,x3⟩,⟨u0,u1,u2,u3⟩,f0,f1,f2,f3⟩:=HKC.out _ HB.out))
  obtain ⟨X,hX⟩:∃ X,X = (((w3.setCell ⟨g2,0,none⟩ (.int .i64 0)).setCell ⟨g2,1,none⟩ (.int .i64 0)).setCell ⟨g2,2,none⟩ (.int .i64 0)).setCell ⟨g2,3,none⟩ (.slice none 0 0):=⟨_,rfl⟩
  rw [← hX]
  obtain ⟨⟨r0,r1,r2,r3⟩,hbX⟩:=put4_of (HK2.out.below HB.out HK2.out.lt) (bt HB1.out HB.out) (by have:=HG2.out; omega) hX
  refine bodyPost_ret (v:=.tuple #[.agg #[.int .i64 0,.int .i64 0,.int .i64 0,.slice none 0 0],.int .i64 5]) (by simp [results,Tryd.results29,go_sem,r0,r1,r2,r3]) rfl ⟨?_,hbX⟩
  rw [HO2.out.1,HO2.out.2]
 have hd1:decide ((nk:Int)≤f) = false:=decide_eq_false hf1
 obtain ⟨j,rfl⟩:=Int.eq_ofNat_of_zero_le (show 0≤f by omega)
 obtain ⟨u,hu⟩:∃ u,p.kids[j]? = some u:=⟨_,List.getElem?_eq_getElem (by rw [← HNK.out]; omega)⟩
 obtain ⟨s,hs⟩:∃ s,s = scO p u:=⟨_,rfl⟩
 obtain ⟨q,hq⟩:∃ q,q = firstW s x:=⟨_,rfl⟩
 have HO3:Hid ((rk,re) = if q.2≠0 then (0,q.2) else (typeOf s x,0)):=Lib.hid (by have h:=HO1.out; rw [if_neg (by omega),tAt_j hu,← hs,← hq] at h; exact h)
 have hkid:=prog_kid HV.out.symm (List.mem_of_getElem? hu)
 have hfx:=expr_fit HE.out.symm
 have hnd:Nds W1 (Lt W1.heap.size) (d + 1) p.kids A c:=by
  obtain ⟨xs,hrd,hrs⟩:=HRP.out.kids
  have h:=HV.out.symm
  have hp:IsProg p:=by unfold isProg at h; simpa using h
  have:=(nok_of ((prog_iff p).1 hp).2.2.2).len
  exact Nds.deeper (d:=d) ⟨⟨xs,hrd,hrs⟩,HRP.out.cap,by omega⟩ (by omega)
 have e1:s.funs.length = nk:=by rw [hs]; exact HNK.out.symm
 have e2:s.ch = n:=by rw [hs]; exact HN.out.symm
 have HSO:Hid (∀ W,Below W1.heap.size W1 W→Calls Tryd.prog 63 #[.agg #[.int .i64 k,.int .i64 n,.int .i64 m,.slice A nk c],.int .i64 (j:Int)] W fun e w'=>∃ A' c',e = .returned (.agg #[.slice A' s.vars.length c',.slice A nk c,.int .i64 n])∧ScR w' (d + 1) s A' c' A c∧Below W.heap.size W w'):=Lib.hid fun W hb=>by
  have h:=scopeOf_is p u j d A c W (hnd.next hb) hu ⟨by have:=hkid.n0; have:=hkid.n1; omega,by have:=hkid.len; omega⟩
  rw [← hs,e1,e2,← HNK.out,← HK.out,← HN.out,← HM.out] at h
  exact h
 have HFW:Hid (∀ W A2 c2,Below W1.heap.size W1 W→ScR W (d + 1) s A2 c2 A c→Calls Tryd.prog 64 #[.agg #[.slice A2 s.vars.length c2,.slice A nk c,.int .i64 n],.agg #[.int .i64 ek,.int .i64 en,.int .i64 em,.slice Ae ne ce]] W fun e w'=>∃ A' c',e = .returned (.tuple #[.slice A' q.1.length c',.int .i64 q.2])∧Below W.heap.size W w'):=Lib.hid fun W A2 c2 hb hsc=>by
  have h:=firstWrong_is s x (d + 1) (d + 1) A2 A Ae c2 c ce W hsc (rep_next HRX.out hb) hfx (by have:=HD.out; omega) (by rw [hs]; exact prog_fok HV.out.symm)
  rw [e1,e2,← hq,← HNE.out,← HEK.out,← HEN.out,← HEM.out] at h
  refine h.mono ?_
  rintro e w' ⟨A',c',h1,_,h3⟩
  exact ⟨A',c',h1,h3⟩
 have HTY:Hid (∀ W A2 c2,Below W1.heap.size W1 W→ScR W (d + 1) s A2 c2 A c→Calls Tryd.prog 65 #[.agg #[.slice A2 s.vars.length c2,.slice A nk c,.int .i64 n],.agg #[.int .i64 ek,.int .i64 en,.int .i64 em,.slice Ae ne ce]] W fun e w'=>e = .returned (.int .i64 (typeOf s x))∧Below W.heap.size W w'):=Lib.hid fun W A2 c2 hb hsc=>by
  have ho:=aok_of (nok_of hfx)
  have h:=typeOf_is s x (d + 1) Ae A2 A ce c2 c W hsc ho.2.2 ho.1 ho.2.1
  rw [e1,e2,← HNE.out,← HEK.out,← HEN.out,← HEM.out] at h
  exact h
 obtain ⟨nv,hnv⟩:∃ z,z = s.vars.length:=⟨_,rfl⟩
 obtain ⟨ty,hty⟩:∃ z,z = typeOf s x:=⟨_,rfl⟩
 rw [← hnv] at HSO HFW HTY
 rw [← hty] at HTY HO3
 obtain ⟨ql,er⟩:=q
 simp only at HFW HO3
 obtain ⟨nq,hnq⟩:∃ z,z = ql.length:=⟨_,rfl⟩
 rw [← hnq] at HFW
 have hjb:(0:Int)≤(j:Int)∧(j:Int) < (nk:Int):=⟨by omega,by omega⟩
 clear hs hq hkid hfx hnd e1 e2 hnv hty hnq hu
 by_cases he:er = 0
 ·have he2:(er != 0) = false:=by rw [bne_eq_false_iff_eq]; exact he
  have HO2:Hid (rk = ty∧re = 0):=Lib.hid (by have h:=HO.out; clear h; have h:=HO3.out; rw [if_neg (by simpa using he)] at h; injection h with h1 h2; exact ⟨h1,h2⟩)
  clear he
  go_enter Tryd.func29,Tryd.ntmps29
  go_upto_region 1 with fail
  rw [← HW1.out,← HG2.out,← HG1.out]
  try rw [← HZ.out]
  go_upto_region 6 with (first
   | (go_at_call 18; refine (HVP.out _ (Below.refl _ _)).mono ?_; rintro e w2 ⟨rfl,hb2⟩; have HB:=Lib.hid hb2; clear hb2 y0 y1 y2 y3 x0 x1 x2 x3 u0 u1 u2 u3 f0 f1 f2 f3; obtain ⟨⟨y0,y1,y2,y3⟩,⟨x0,x1,x2,x3⟩,⟨u0,u1,u2,u3⟩,f0,f1,f2,f3⟩:=HKC.out _ HB.out)
   | (go_at_call 62; refine (HVE.out _ HB.out).mono ?_; rintro e w3 ⟨rfl,hb3⟩; replace HB:=Lib.hid (bt HB.out hb3); clear hb3 y0 y1 y2 y3 x0 x1 x2 x3 u0 u1 u2 u3 f0 f1 f2 f3; obtain ⟨⟨y0,y1,y2,y3⟩,⟨x0,x1,x2,x3⟩,⟨u0,u1,u2,u3⟩,f0,f1,f2,f3⟩:=HKC.out _ HB.out)
   | (go_at_call 63; refine (HSO.out _ HB.out).mono ?_; rintro e w4 ⟨A2,c2,rfl,hsc,hb4⟩; replace HB:=Lib.hid (bt HB.out hb4); have HSC:=Lib.hid hsc; clear hb4 hsc y0 y1 y2 y3 x0 x1 x2 x3 u0 u1 u2 u3 f0 f1 f2 f3))
  obtain ⟨W5,hW5⟩:∃ W,W = w4.alloc (.cells #[.slice A2 nv c2,.slice A nk c,.int .i64 n] 79):=⟨_,rfl⟩
  obtain ⟨g8,hg8⟩:∃ z,z = w4.heap.size:=⟨_,rfl⟩
  have k8:Blk W5 g8 79 #[.slice A2 nv c2,.slice A nk c,.int .i64 n]:=by rw [hW5,hg8]; exact Blk.new _ _ _
  have hb45:Below w4.heap.size w4 W5:=by rw [hW5]; exact below_new _ _
  rw [← hW5,← hg8]
  replace HB:=Lib.hid (bt HB.out hb45)
  have HSC5:=Lib.hid (HSC.out.next hb45)
  have HK8:=Lib.hid k8
  obtain ⟨s0,s1,s2⟩:W5.cell? ⟨g8,0,none⟩ = some (.slice A2 nv c2)∧W5.cell? ⟨g8,1,none⟩ = some (.slice A nk c)∧W5.cell? ⟨g8,2,none⟩ = some (.int .i64 n):=⟨k8.cell 0,k8.cell 1,k8.cell 2⟩
  obtain ⟨⟨y0,y1,y2,y3⟩,⟨x0,x1,x2,x3⟩,⟨u0,u1,u2,u3⟩,f0,f1,f2,f3⟩:=HKC.out _ HB.out
  clear hW5 hg8 k8 hb45
  go_wp2_with (first
   | (go_at_call 64; refine (HFW.out _ _ _ HB.out HSC5.out).mono ?_; rintro e w6 ⟨A6,c6,rfl,hb6⟩; replace HB:=Lib.hid (bt HB.out hb6); have HSC6:=Lib.hid (HSC5.out.next hb6); have HK86:=Lib.hid (HK8.out.below hb6 HK8.out.lt); clear hb6 s0 s1 s2 y0 y1 y2 y3 x0 x1 x2 x3 u0 u1 u2 u3 f0 f1 f2 f3; obtain ⟨⟨y0,y1,y2,y3⟩,⟨x0,x1,x2,x3⟩,⟨u0,u1,u2,u3⟩,f0,f1,f2,f3⟩:=HKC.out _ HB.out; obtain ⟨s0,s1,s2⟩:w6.cell? ⟨g8,0,none⟩ = some (.slice A2 nv c2)∧w6.cell? ⟨g8,1,none⟩ = some (.slice A nk c)∧w6.cell? ⟨g8,2,none⟩ = some (.int .i64 n):=⟨HK86.out.cell 0,HK86.out.cell 1,HK86.out.cell 2⟩)
   | (go_at_call 65; refine (HTY.out _ _ _ HB.out HSC6.out).mono ?_; rintro e w7 ⟨rfl,hb7⟩; replace HB:=Lib.hid (bt HB.out hb7); clear hb7 s0 s1 s2 y0 y1 y2 y3 x0 x1 x2 x3 u0 u1 u2 u3 f0 f1 f2 f3; obtain ⟨⟨y0,y1,y2,y3⟩,⟨x0,x1,x2,x3⟩,⟨u0,u1,u2,u3⟩,f0,f1,f2,f3⟩:=HKC.out _ HB.out))
  obtain ⟨X,hX⟩:∃ X,X = (((w7.setCell ⟨g2,0,none⟩ (.int .i64 ty)).setCell ⟨g2,1,none⟩ (.int .i64 0)).setCell ⟨g2,2,none⟩ (.int .i64 0)).setCell ⟨g2,3,none⟩ (.slice none 0 0):=⟨_,rfl⟩
  rw [← hX]
  obtain ⟨⟨r0,r1,r2,r3⟩,hbX⟩:=put4_of (HK2.out.below HB.out HK2.out.lt) (bt HB1.out HB.out) (by have:=HG2.out; omega) hX
  refine bodyPost_ret (v:=.tuple #[.agg #[.int .i64 ty,.int .i64 0,.int .i64 0,.slice none 0 0],.int .i64 0]) (by simp [results,Tryd.results29,go_sem,r0,r1,r2,r3]) rfl ⟨?_,hbX⟩
  rw [HO2.out.1,HO2.out.2]
 ·have he2:(er != 0) = true:=by rw [bne_iff_ne]; exact he
  have HO2:Hid (rk = 0∧re = er):=Lib.hid (by have h:=HO.out; clear h; have h:=HO3.out; rw [if_pos he] at h; injection h with h1 h2; exact ⟨h1,h2⟩)
  clear he
  go_enter Tryd.func29,Tryd.ntmps29
  go_upto_region 1 with fail
  rw [← HW1.out,← HG2.out,← HG1.out]
  try rw [← HZ.out]
  go_upto_region 6 with (first
   | (go_at_call 18; refine (HVP.out _ (Below.refl _ _)).mono ?_; rintro e w2 ⟨rfl,hb2⟩; have HB:=Lib.hid hb2; clear hb2 y0 y1 y2 y3 x0 x1 x2 x3 u0 u1 u2 u3 f0 f1 f2 f3; obtain ⟨⟨y0,y1,y2,y3⟩,⟨x0,x1,x2,x3⟩,⟨u0,u1,u2,u3⟩,f0,f1,f2,f3⟩:=HKC.out _ HB.out)
   | (go_at_call 62; refine (HVE.out _ HB.out).mono ?_; rintro e w3 ⟨rfl,hb3⟩; replace HB:=Lib.hid (bt HB.out hb3); clear hb3 y0 y1 y2 y3 x0 x1 x2 x3 u0 u1 u2 u3 f0 f1 f2 f3; obtain ⟨⟨y0,y1,y2,y3⟩,⟨x0,x1,x2,x3⟩,⟨u0,u1,u2,u3⟩,f0,f1,f2,f3⟩:=HKC.out _ HB.out)
   | (go_at_call 63; refine (HSO.out _ HB.out).mono ?_; rintro e w4 ⟨A2,c2,rfl,hsc,hb4⟩; replace HB:=Lib.hid (bt HB.out hb4); have HSC:=Lib.hid hsc; clear hb4 hsc y0 y1 y2 y3 x0 x1 x2 x3 u0 u1 u2 u3 f0 f1 f2 f3))
  obtain ⟨W5,hW5⟩:∃ W,W = w4.alloc (.cells #[.slice A2 nv c2,.slice A nk c,.int .i64 n] 79):=⟨_,rfl⟩
  obtain ⟨g8,hg8⟩:∃ z,z = w4.heap.size:=⟨_,rfl⟩
  have k8:Blk W5 g8 79 #[.slice A2 nv c2,.slice A nk c,.int .i64 n]:=by rw [hW5,hg8]; exact Blk.new _ _ _
  have hb45:Below w4.heap.size w4 W5:=by rw [hW5]; exact below_new _ _
  rw [← hW5,← hg8]
  replace HB:=Lib.hid (bt HB.out hb45)
  have HSC5:=Lib.hid (HSC.out.next hb45)
  have HK8:=Lib.hid k8
  obtain ⟨s0,s1,s2⟩:W5.cell? ⟨g8,0,none⟩ = some (.slice A2 nv c2)∧W5.cell? ⟨g8,1,none⟩ = some (.slice A nk c)∧W5.cell? ⟨g8,2,none⟩ = some (.int .i64 n):=⟨k8.cell 0,k8.cell 1,k8.cell 2⟩
  obtain ⟨⟨y0,y1,y2,y3⟩,⟨x0,x1,x2,x3⟩,⟨u0,u1,u2,u3⟩,f0,f1,f2,f3⟩:=HKC.out _ HB.out
  clear hW5 hg8 k8 hb45
  go_wp2_with (go_at_call 64; refine (HFW.out _ _ _ HB.out HSC5.out).mono ?_; rintro e w6 ⟨A6,c6,rfl,hb6⟩; replace HB:=Lib.hid (bt HB.out hb6); have HSC6:=Lib.hid (HSC5.out.next hb6); have HK86:=Lib.hid (HK8.out.below hb6 HK8.out.lt); clear hb6 s0 s1 s2 y0 y1 y2 y3 x0 x1 x2 x3 u0 u1 u2 u3 f0 f1 f2 f3; obtain ⟨⟨y0,y1,y2,y3⟩,⟨x0,x1,x2,x3⟩,⟨u0,u1,u2,u3⟩,f0,f1,f2,f3⟩:=HKC.out _ HB.out; obtain ⟨s0,s1,s2⟩:w6.cell? ⟨g8,0,none⟩ = some (.slice A2 nv c2)∧w6.cell? ⟨g8,1,none⟩ = some (.slice A nk c)∧w6.cell? ⟨g8,2,none⟩ = some (.int .i64 n):=⟨HK86.out.cell 0,HK86.out.cell 1,HK86.out.cell 2⟩)
  obtain ⟨X,hX⟩:∃ X,X = (((w6.setCell ⟨g2,0,none⟩ (.int .i64 0)).setCell ⟨g2,1,none⟩ (.int .i64 0)).setCell ⟨g2,2,none⟩ (.int .i64 0)).setCell ⟨g2,3,none⟩ (.slice none 0 0):=⟨_,rfl⟩
  rw [← hX]
  obtain ⟨⟨r0,r1,r2,r3⟩,hbX⟩:=put4_of (HK2.out.below HB.out HK2.out.lt) (bt HB1.out HB.out) (by have:=HG2.out; omega) hX
  refine bodyPost_ret (v:=.tuple #[.agg #[.int .i64 0,.int .i64 0,.int .i64 0,.slice none 0 0],.int .i64 er]) (by simp [results,Tryd.results29,go_sem,r0,r1,r2,r3]) rfl ⟨?_,hbX⟩
  rw [HO2.out.1,HO2.out.2]
end Go.Proofs.YtkkenbalpnmfmaaDoor
