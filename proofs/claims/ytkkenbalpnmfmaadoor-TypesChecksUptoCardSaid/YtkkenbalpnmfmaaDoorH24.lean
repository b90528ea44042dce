/- Texts joined. -/
import Derived.Test.YtkkenbalpnmfmaaDoorH22
import Derived.Test.YtkkenbalpnmfmaaDoorH23
set_option linter.unusedVariables false
namespace Go.Proofs.YtkkenbalpnmfmaaDoor.TR
def IsProg (t:T):Prop:=t.k = 27∧btw t 3 0 1 6 = true∧size t≤256∧depth t≤16∧∀ (i:Nat) (u:T),t.kids[i]? = some u→isFun u = true
noncomputable def isProg (t:T):Bool:=@decide (IsProg t) (Classical.propDecidable _)
theorem isProg_true {t:T} (h:IsProg t):isProg t = true:=by unfold isProg; simpa using h
theorem isProg_false {t:T} (h:¬ IsProg t):isProg t = false:=by unfold isProg; simpa using h
end Go.Proofs.YtkkenbalpnmfmaaDoor.TR
namespace Go.Proofs.YtkkenbalpnmfmaaDoor
open Go.RowKit WM TR

set_option maxRecDepth 100000 in
set_option maxHeartbeats 8000000 in
theorem valid_is (d : Nat) (t : T) (S : Nat → Prop) (A : Option Addr) (c : Nat) (w : World) (ht : Rep w S d t (nd t A c)) (hin : In S w.heap.size) (hst : size t ≤ 1000000) :
    Calls Tryd.prog 19 #[.agg #[.int .i64 t.k,.int .i64 t.n,.int .i64 t.m,.slice A t.kids.length c]] w fun e w'=>e = .returned (.bool (isProg t))∧Below w.heap.size w w':=by
  cases d with
  | zero=>exact ht.elim
  | succ d =>
  obtain ⟨r,hr⟩:∃ r,isProg t = r:=⟨_,rfl⟩
  rw [hr]
  have hkl:t.kids.length≤1000000:=by have:=kids_lt t; omega
  obtain ⟨l,hl⟩:∃ l,l = t.kids.length:=⟨_,rfl⟩
  obtain ⟨sz,hsz⟩:∃ s,size t = s:=⟨_,rfl⟩
  obtain ⟨dp,hdp⟩:∃ s,depth t = s:=⟨_,rfl⟩
  have HBT : Hid (∀ (W : World) (a b x y : Int), Calls Tryd.prog 51 #[.agg #[.int .i64 t.k, .int .i64 t.n, .int .i64 t.m, .slice A l c], .int .i64 a, .int .i64 b, .int .i64 x, .int .i64 y] W fun e w' => e = .returned (.bool (btw t a b x y)) ∧ Below W.heap.size W w') := Lib.hid (fun W a b x y => by
      rw [hl]; exact between_is t A c W hst a b x y)
  have HSZ : Hid (∀ W : World, Below w.heap.size w W → Calls Tryd.prog 14 #[.agg #[.int .i64 t.k, .int .i64 t.n, .int .i64 t.m, .slice A l c]] W fun e w' => e = .returned (.int .i64 (sz : Int)) ∧ Below W.heap.size W w') := Lib.hid (fun W hW => by
      rw [hl,← hsz]; exact rsize_is (d + 1) t S A c W (ht.later hin hW) (hin.more hW.size) hst)
  have HDP : Hid (∀ W : World, Below w.heap.size w W → Calls Tryd.prog 52 #[.agg #[.int .i64 t.k, .int .i64 t.n, .int .i64 t.m, .slice A l c]] W fun e w' => e = .returned (.int .i64 (dp : Int)) ∧ Below W.heap.size W w') := Lib.hid (fun W hW => by
      rw [hl,← hdp]; exact rdepth_is (d + 1) t S A c W (ht.later hin hW) (hin.more hW.size) hst)
  rw [← hl] at hkl ⊢
  have HT:=Lib.hid ht
  have HI:=Lib.hid hin
  have HL:=Lib.hid hl
  have HST:=Lib.hid hst
  have HR:=Lib.hid hr
  have HS:=Lib.hid hsz
  have HD:=Lib.hid hdp
  clear ht hin hl hst hr hsz hdp
  by_cases hk:t.k = 27
  · obtain ⟨bv,hbv⟩:∃ bv,btw t 3 0 1 6 = bv:=⟨_,rfl⟩
    have HBV:=Lib.hid hbv
    have hkb:(t.k != 27) = false:=by simp [hk]
    have HKK:=Lib.hid hk
    clear hk
    have hca:bv = false∨(bv = true∧256 < sz)∨(bv = true∧sz≤256∧16 < dp)∨(bv = true∧sz≤256∧dp≤16):=by
      cases bv
      · exact .inl rfl
      · by_cases h1:sz≤256
        · by_cases h2:dp≤16
          · exact .inr (.inr (.inr ⟨rfl,h1,h2⟩))
          · exact .inr (.inr (.inl ⟨rfl,h1,by omega⟩))
        · exact .inr (.inl ⟨rfl,by omega⟩)
    clear hbv
    go_enter Tryd.func19,Tryd.ntmps19
    by_cases hgood:bv = true∧sz≤256∧dp≤16
    · obtain ⟨rfl,h1,h2⟩:=hgood
      have d1:decide ((256:Int) < sz) = false:=by simp; omega
      have d2:decide ((16:Int) < dp) = false:=by simp; omega
      have d3:decide (256 < sz) = false:=by simp; omega
      have d4:decide (16 < dp) = false:=by simp; omega
      have HG:=Lib.hid (And.intro h1 h2)
      clear hca h1 h2
      go_wp2_with (first
        | (refine wpList_load_mid rfl 25 (.tmp 1) rfl w.heap.size 0 rfl [.int .i64 t.k,.int .i64 t.n,.int .i64 t.m,.slice A l c] _ HN.out Tryd.underlying25 rfl (by rw [size_node]; rfl) ?_)
        | (go_at_call 52; refine (HDP.out _ HB2.out).mono ?_; rintro e w3 ⟨rfl,hbw⟩; have HB3:=Lib.hid (bt HB2.out hbw); have hb3:=XB.out.below hbw XB.out.lt; have XB3:=Lib.hid hb3; clear k0 k1 k2 k3; clear hbw hb3)
        | (go_at_call 14; refine (HSZ.out _ HB1.out).mono ?_; rintro e w2 ⟨rfl,hbw⟩; have HB2:=Lib.hid (bt HB1.out hbw); have hb2:=XB.out.below hbw XB.out.lt; clear XB; have XB:=Lib.hid hb2; clear k0 k1 k2 k3; have k0:=hb2.cell 0; have k1:=hb2.cell 1; have k2:=hb2.cell 2; have k3:=hb2.cell 3; simp only [List.getElem?_toArray,List.getElem?_cons_zero,List.getElem?_cons_succ] at k0 k1 k2 k3; clear hbw hb2)
        | (go_at_call 51; refine (HBT.out _ _ _ _ _).mono ?_; rintro e w1 ⟨rfl, hbw⟩; rw [HBV.out]; have HB1 : Hid (Below w.heap.size w w1) := Lib.hid (bt (below_new _ _) hbw)
           have hb:=((Blk.new w 25 #[.int .i64 t.k,.int .i64 t.n,.int .i64 t.m,.slice A l c]).below hbw (Blk.new _ _ _).lt)
           have XB:=Lib.hid hb
           have k0:=hb.cell 0; have k1:=hb.cell 1; have k2:=hb.cell 2; have k3:=hb.cell 3
           simp only [List.getElem?_toArray,List.getElem?_cons_zero,List.getElem?_cons_succ] at k0 k1 k2 k3
           clear hbw hb))
      go_loopw [3] (fun i wr=>∃ j:Nat,j≤l∧i = .int .i64 j∧Hid ((∀ (i:Nat) (u:T),i < j→t.kids[i]? = some u→isFun u = true)∧Below w3.heap.size w3 wr)) (fun i _=>l - (intOf i).toNat)
      case atStart=>exact ⟨0,Nat.zero_le _,rfl,fun i u h=>absurd h (Nat.not_lt_zero i),Below.refl _ _⟩
      case round =>
        obtain ⟨j,hj,rfl,HH⟩:=hrel
        have hb:=XB3.out.below HH.out.2 XB3.out.lt
        have k3:=hb.cell 3
        simp only [List.getElem?_toArray,List.getElem?_cons_zero,List.getElem?_cons_succ] at k3
        have HBR:Hid (Below w.heap.size w wr):=Lib.hid (bt HB3.out HH.out.2)
        clear hb
        by_cases hlt:j < l
        · obtain ⟨u,hu⟩:∃ u,t.kids[j]? = some u:=⟨_,List.getElem?_eq_getElem (by rw [← HL.out]; exact hlt)⟩
          obtain ⟨b2,o2,A2,c2,hA2,hs2,hc2,hru⟩:=HT.out.kid hu
          subst hA2
          have hsu:=size_kid hu
          have HSU:Hid (size u≤1000000):=Lib.hid (by have:=HST.out; omega)
          have HU:=Lib.hid hu
          have HC:Hid (∀ i z,([.int .i64 u.k,.int .i64 u.n,.int .i64 u.m,.slice A2 u.kids.length c2]:List Value)[i]? = some z→wr.cell? ⟨b2,o2 + j * 4 + i,none⟩ = some z):=Lib.hid (fun i z hz=>(HBR.out.cell (p:=⟨b2,o2 + j * 4 + i,none⟩) (HI.out _ hs2)).trans (hc2 i z hz))
          have HRU:=Lib.hid hru
          have hjl:(0:Int)≤j∧(j:Int) < l:=⟨by omega,by omega⟩
          obtain ⟨x,hx⟩:∃ x,isFun u = x:=⟨_,rfl⟩
          have HX:=Lib.hid hx
          have FF:Hid (Calls Tryd.prog 53 #[.agg #[.int .i64 u.k,.int .i64 u.n,.int .i64 u.m,.slice A2 u.kids.length c2]] wr fun e w'=>e = .returned (.bool x)∧Below wr.heap.size wr w'):=Lib.hid (by rw [← hx]; exact fun_is d u S A2 c2 wr (HRU.out.later HI.out HBR.out) (HI.out.more HBR.out.size) HSU.out)
          clear hu hs2 hc2 hru hsu hx
          cases x with
          | false =>
            have HF:Hid (false = r):=Lib.hid (by
              rw [← HR.out]
              exact (isProg_false (fun h=>by have h5:=h.2.2.2.2 j u HU.out; rw [HX.out] at h5; cases h5)).symm)
            go_wp2_with (first
              | (refine wpList_load_mid rfl 25 (.tmp 32) rfl b2 (o2 + j * 4) rfl [.int .i64 u.k,.int .i64 u.n,.int .i64 u.m,.slice A2 u.kids.length c2] _ HC.out Tryd.underlying25 rfl (by rw [size_node]; rfl) ?_)
              | (go_at_call 53; refine FF.out.mono ?_; rintro e w4 ⟨rfl,hbw⟩; have HB4:=Lib.hid (bt HBR.out hbw); clear hbw))
            go_ret
            exact ⟨ret_b HF.out,HB4.out⟩
          | true =>
            have HNX:Hid (∀ (i:Nat) (v:T),i < j + 1→t.kids[i]? = some v→isFun v = true):=Lib.hid (fun i v hi hv=>by
              rcases Nat.lt_succ_iff_lt_or_eq.1 hi with h | rfl
              · exact HH.out.1 i v h hv
              · rw [HU.out] at hv
                cases hv
                exact HX.out)
            go_wp2_with (first
              | (refine wpList_load_mid rfl 25 (.tmp 32) rfl b2 (o2 + j * 4) rfl [.int .i64 u.k,.int .i64 u.n,.int .i64 u.m,.slice A2 u.kids.length c2] _ HC.out Tryd.underlying25 rfl (by rw [size_node]; rfl) ?_)
              | (go_at_call 53; refine FF.out.mono ?_; rintro e w4 ⟨rfl,hbw⟩; have HB4:=Lib.hid (bt HH.out.2 hbw); clear hbw))
            go_roundw
            case rel=>exact ⟨j + 1,by omega,by go_num,HNX.out,HB4.out⟩
            case measure=>simp [intOf]; omega
        · have HF : Hid (true = r) := Lib.hid (by
            rw [← HR.out]
            exact (isProg_true ⟨HKK.out,HBV.out,by rw [HS.out]; exact HG.out.1,by rw [HD.out]; exact HG.out.2,fun i v hv=>HH.out.1 i v (by have:=(List.getElem?_eq_some_iff.1 hv).1; rw [← HL.out] at this; omega) hv⟩).symm)
          go_wp2_with fail
          go_ret
          exact ⟨ret_b HF.out,HBR.out⟩
    · have HF : Hid (false = r) := Lib.hid (by
        rw [← HR.out]
        refine (isProg_false (fun h=>hgood ⟨?_,?_,?_⟩)).symm
        · rw [← HBV.out]; exact h.2.1
        · rw [← HS.out]; exact h.2.2.1
        · rw [← HD.out]; exact h.2.2.2.1)
      rcases hca with rfl | ⟨rfl,h1⟩ | ⟨rfl,h1,h2⟩ | h
      · clear hgood
        go_wp2_with (first
          | (go_at_call 51; refine (HBT.out _ _ _ _ _).mono ?_; rintro e w1 ⟨rfl, hbw⟩; rw [HBV.out]; have HB1 : Hid (Below w.heap.size w w1) := Lib.hid (bt (below_new _ _) hbw)
             have hb:=((Blk.new w 25 #[.int .i64 t.k,.int .i64 t.n,.int .i64 t.m,.slice A l c]).below hbw (Blk.new _ _ _).lt)
             have XB:=Lib.hid hb
             have k0:=hb.cell 0; have k1:=hb.cell 1; have k2:=hb.cell 2; have k3:=hb.cell 3
             simp only [List.getElem?_toArray,List.getElem?_cons_zero,List.getElem?_cons_succ] at k0 k1 k2 k3
             clear hbw hb))
        go_ret
        exact ⟨ret_b HF.out,HB1.out⟩
      · have d1:decide ((256:Int) < sz) = true:=by simp; omega
        have d3:decide (256 < sz) = true:=by simp; omega
        clear hgood
        go_wp2_with (first
          | (go_at_call 14; refine (HSZ.out _ HB1.out).mono ?_; rintro e w2 ⟨rfl,hbw⟩; have HB2:=Lib.hid (bt HB1.out hbw); have hb2:=XB.out.below hbw XB.out.lt; clear XB; have XB:=Lib.hid hb2; clear k0 k1 k2 k3; have k0:=hb2.cell 0; have k1:=hb2.cell 1; have k2:=hb2.cell 2; have k3:=hb2.cell 3; simp only [List.getElem?_toArray,List.getElem?_cons_zero,List.getElem?_cons_succ] at k0 k1 k2 k3; clear hbw hb2)
          | (go_at_call 51; refine (HBT.out _ _ _ _ _).mono ?_; rintro e w1 ⟨rfl, hbw⟩; rw [HBV.out]; have HB1 : Hid (Below w.heap.size w w1) := Lib.hid (bt (below_new _ _) hbw)
             have hb:=((Blk.new w 25 #[.int .i64 t.k,.int .i64 t.n,.int .i64 t.m,.slice A l c]).below hbw (Blk.new _ _ _).lt)
             have XB:=Lib.hid hb
             have k0:=hb.cell 0; have k1:=hb.cell 1; have k2:=hb.cell 2; have k3:=hb.cell 3
             simp only [List.getElem?_toArray,List.getElem?_cons_zero,List.getElem?_cons_succ] at k0 k1 k2 k3
             clear hbw hb))
        go_ret
        exact ⟨ret_b HF.out,HB2.out⟩
      · have d1:decide ((256:Int) < sz) = false:=by simp; omega
        have d3:decide (256 < sz) = false:=by simp; omega
        have d2:decide ((16:Int) < dp) = true:=by simp; omega
        have d4:decide (16 < dp) = true:=by simp; omega
        clear hgood
        go_wp2_with (first
          | (go_at_call 52; refine (HDP.out _ HB2.out).mono ?_; rintro e w3 ⟨rfl,hbw⟩; have HB3:=Lib.hid (bt HB2.out hbw); clear hbw)
          | (go_at_call 14; refine (HSZ.out _ HB1.out).mono ?_; rintro e w2 ⟨rfl,hbw⟩; have HB2:=Lib.hid (bt HB1.out hbw); have hb2:=XB.out.below hbw XB.out.lt; clear XB; have XB:=Lib.hid hb2; clear k0 k1 k2 k3; have k0:=hb2.cell 0; have k1:=hb2.cell 1; have k2:=hb2.cell 2; have k3:=hb2.cell 3; simp only [List.getElem?_toArray,List.getElem?_cons_zero,List.getElem?_cons_succ] at k0 k1 k2 k3; clear hbw hb2)
          | (go_at_call 51; refine (HBT.out _ _ _ _ _).mono ?_; rintro e w1 ⟨rfl, hbw⟩; rw [HBV.out]; have HB1 : Hid (Below w.heap.size w w1) := Lib.hid (bt (below_new _ _) hbw)
             have hb:=((Blk.new w 25 #[.int .i64 t.k,.int .i64 t.n,.int .i64 t.m,.slice A l c]).below hbw (Blk.new _ _ _).lt)
             have XB:=Lib.hid hb
             have k0:=hb.cell 0; have k1:=hb.cell 1; have k2:=hb.cell 2; have k3:=hb.cell 3
             simp only [List.getElem?_toArray,List.getElem?_cons_zero,List.getElem?_cons_succ] at k0 k1 k2 k3
             clear hbw hb))
        go_ret
        exact ⟨ret_b HF.out,HB3.out⟩
      · exact absurd h hgood
  · have HF:Hid (false = r):=Lib.hid (by rw [← HR.out]; exact (isProg_false (fun h=>hk h.1)).symm)
    have hkb:(t.k != 27) = true:=by simp [hk]
    clear hk
    go_enter Tryd.func19,Tryd.ntmps19
    go_wp2_with fail
    go_ret
    exact ⟨ret_b HF.out,below_new _ _⟩
end Go.Proofs.YtkkenbalpnmfmaaDoor
