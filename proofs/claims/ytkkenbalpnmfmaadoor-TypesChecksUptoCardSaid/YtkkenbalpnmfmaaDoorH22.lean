/- Texts joined. -/
import Derived.Test.YtkkenbalpnmfmaaDoorH21
set_option linter.unusedVariables false
namespace Go.Proofs.YtkkenbalpnmfmaaDoor.TR
def IsFun (t:T):Prop :=
  t.k = 26∧btw t 3 0 1 7 = true∧t.n≤(t.kids.length:Int) - 1∧(∀ (i:Nat) (u:T),i + 1 < t.kids.length→t.kids[i]? = some u→isType u = true∧((i:Int) < t.n→isPlain u = true))∧(∀ u,t.kids[t.kids.length - 1]? = some u→isBlock u = true)
noncomputable def isFun (t:T):Bool:=@decide (IsFun t) (Classical.propDecidable _)
theorem isFun_true {t:T} (h:IsFun t):isFun t = true:=by unfold isFun; simpa using h
theorem isFun_false {t:T} (h:¬ IsFun t):isFun t = false:=by unfold isFun; simpa using h
end Go.Proofs.YtkkenbalpnmfmaaDoor.TR
namespace Go.Proofs.YtkkenbalpnmfmaaDoor
open Go.RowKit WM TR

theorem stmt_block:∀ d,StmtC d∧BlockC d
  | 0=>⟨fun _ _ _ _ _ h=>h.elim,fun _ _ _ _ _ h=>h.elim⟩
  | d + 1=>by
    have ih:=stmt_block d
    have hb:=block_step d ih.1
    exact ⟨stmt_step d hb ih.2,hb⟩

set_option maxRecDepth 100000 in
set_option maxHeartbeats 8000000 in
theorem fun_is (d : Nat) (t : T) (S : Nat → Prop) (A : Option Addr) (c : Nat) (w : World) (ht : Rep w S d t (nd t A c)) (hin : In S w.heap.size) (hst : size t ≤ 1000000) :
    Calls Tryd.prog 53 #[.agg #[.int .i64 t.k,.int .i64 t.n,.int .i64 t.m,.slice A t.kids.length c]] w fun e w'=>e = .returned (.bool (isFun t))∧Below w.heap.size w w':=by
  cases d with
  | zero=>exact ht.elim
  | succ d =>
  obtain ⟨r,hr⟩:∃ r,isFun t = r:=⟨_,rfl⟩
  rw [hr]
  have hkl:t.kids.length≤1000000:=by have:=kids_lt t; omega
  obtain ⟨l,hl⟩:∃ l,l = t.kids.length:=⟨_,rfl⟩
  have hrng:=ht.range
  have HBT : Hid (∀ (W : World) (a b x y : Int), Calls Tryd.prog 51 #[.agg #[.int .i64 t.k, .int .i64 t.n, .int .i64 t.m, .slice A l c], .int .i64 a, .int .i64 b, .int .i64 x, .int .i64 y] W fun e w' => e = .returned (.bool (btw t a b x y)) ∧ Below W.heap.size W w') := Lib.hid (fun W a b x y => by
      rw [hl]; exact between_is t A c W hst a b x y)
  rw [← hl] at hkl ⊢
  have HT:=Lib.hid ht
  have HI:=Lib.hid hin
  have HL:=Lib.hid hl
  have HST:=Lib.hid hst
  have HR:=Lib.hid hr
  clear ht hin hl hst hr
  by_cases hk:t.k = 26
  · obtain ⟨bv,hbv⟩:∃ bv,btw t 3 0 1 7 = bv:=⟨_,rfl⟩
    have HBV:=Lib.hid hbv
    have hkb:(t.k != 26) = false:=by simp [hk]
    have HKK:=Lib.hid hk
    clear hk
    cases bv with
    | false =>
      have HF:Hid (false = r):=Lib.hid (by rw [← HR.out]; exact (isFun_false (fun h=>by have:=h.2.1; rw [hbv] at this; cases this)).symm)
      clear hbv
      go_enter Tryd.func53,Tryd.ntmps53
      go_wp2_with (go_at_call 51; refine (HBT.out _ _ _ _ _).mono ?_; rintro e w1 ⟨rfl,hbw⟩; rw [HBV.out]; have HB1:Hid (Below w.heap.size w w1):=Lib.hid (bt (below_new _ _) hbw); clear hbw)
      go_ret
      exact ⟨ret_b HF.out,HB1.out⟩
    | true =>
      have hl1:1≤l:=by
        have h:=hbv
        simp [btw] at h
        rw [← HL.out] at h
        omega
      clear hbv
      have hsub:IntKind.i64.wrap ((l:Int) - 1) = (l:Int) - 1:=by rw [IntKind.wrap_i64]; omega
      have BETW:True:=trivial
      by_cases hn:(l:Int) - 1 < t.n
      · have HF:Hid (false = r):=Lib.hid (by rw [← HR.out]; exact (isFun_false (fun h=>by have:=h.2.2.1; rw [← HL.out] at this; omega)).symm)
        have hnd:decide ((l:Int) - 1 < t.n) = true:=by simpa using hn
        go_enter Tryd.func53,Tryd.ntmps53
        go_wp2_with (go_at_call 51; refine (HBT.out _ _ _ _ _).mono ?_; rintro e w1 ⟨rfl, hbw⟩; rw [HBV.out]; have HB1 : Hid (Below w.heap.size w w1) := Lib.hid (bt (below_new _ _) hbw)
                     have hb:=((Blk.new w 25 #[.int .i64 t.k,.int .i64 t.n,.int .i64 t.m,.slice A l c]).below hbw (Blk.new _ _ _).lt)
                     have k1:=hb.cell 1; have k3:=hb.cell 3
                     simp only [List.getElem?_toArray,List.getElem?_cons_zero,List.getElem?_cons_succ] at k1 k3
                     clear hbw hb)
        go_ret
        exact ⟨ret_b HF.out,HB1.out⟩
      · have hnd:decide ((l:Int) - 1 < t.n) = false:=by simp; omega
        have HNN:Hid (t.n≤(l:Int) - 1):=Lib.hid (by omega)
        clear hn
        go_enter Tryd.func53,Tryd.ntmps53
        go_wp2_with (go_at_call 51; refine (HBT.out _ _ _ _ _).mono ?_; rintro e w1 ⟨rfl, hbw⟩; rw [HBV.out]; have HB1 : Hid (Below w.heap.size w w1) := Lib.hid (bt (below_new _ _) hbw)
                     have hb:=((Blk.new w 25 #[.int .i64 t.k,.int .i64 t.n,.int .i64 t.m,.slice A l c]).below hbw (Blk.new _ _ _).lt)
                     have XB:=Lib.hid hb
                     have k1:=hb.cell 1; have k3:=hb.cell 3
                     simp only [List.getElem?_toArray,List.getElem?_cons_zero,List.getElem?_cons_succ] at k1 k3
                     clear hbw hb)
        clear k1 k3 hnd
        go_loopw [3] (fun i wr=>∃ j:Nat,j≤l - 1∧i = .int .i64 j∧Hid ((∀ (i:Nat) (u:T),i < j→t.kids[i]? = some u→isType u = true∧((i:Int) < t.n→isPlain u = true))∧Below w1.heap.size w1 wr)) (fun i _=>l - 1 - (intOf i).toNat)
        case atStart=>exact ⟨0,Nat.zero_le _,rfl,fun i u h=>absurd h (Nat.not_lt_zero i),Below.refl _ _⟩
        case round =>
          obtain ⟨j,hj,rfl,HH⟩:=hrel
          have hb:=XB.out.below HH.out.2 XB.out.lt
          have k1:=hb.cell 1; have k3:=hb.cell 3
          simp only [List.getElem?_toArray,List.getElem?_cons_zero,List.getElem?_cons_succ] at k1 k3
          have XBr:=Lib.hid hb
          have HBR:Hid (Below w.heap.size w wr):=Lib.hid (bt HB1.out HH.out.2)
          obtain ⟨u,hu⟩:∃ u,t.kids[j]? = some u:=⟨_,List.getElem?_eq_getElem (by rw [← HL.out]; omega)⟩
          obtain ⟨b2,o2,A2,c2,hA2,hs2,hc2,hru⟩:=HT.out.kid hu
          subst hA2
          have hsu:=size_kid hu
          have HSU:Hid (size u≤1000000):=Lib.hid (by have:=HST.out; omega)
          have HU:=Lib.hid hu
          have HQ:Hid (∀ W,Below w.heap.size w W→W.cell? ⟨b2,o2 + j * 4,none⟩ = some (.int .i64 u.k)∧W.cell? ⟨b2,o2 + j * 4 + 1,none⟩ = some (.int .i64 u.n)∧W.cell? ⟨b2,o2 + j * 4 + 2,none⟩ = some (.int .i64 u.m)∧W.cell? ⟨b2,o2 + j * 4 + 3,none⟩ = some (.slice A2 u.kids.length c2)):=Lib.hid (fun W hW=>by
            have h:=fun (i:Nat) (z:Value) (hz:(nd u A2 c2)[i]? = some z)=>(hW.cell (p:=⟨b2,o2 + j * 4 + i,none⟩) (HI.out _ hs2)).trans (hc2 i z hz)
            exact ⟨h 0 _ rfl,h 1 _ rfl,h 2 _ rfl,h 3 _ rfl⟩)
          have HC:Hid (∀ i z,([.int .i64 u.k,.int .i64 u.n,.int .i64 u.m,.slice A2 u.kids.length c2]:List Value)[i]? = some z→wr.cell? ⟨b2,o2 + j * 4 + i,none⟩ = some z):=Lib.hid (fun i z hz=>(HBR.out.cell (p:=⟨b2,o2 + j * 4 + i,none⟩) (HI.out _ hs2)).trans (hc2 i z hz))
          have HRU:=Lib.hid hru
          clear hu hs2 hc2 hru hsu hb
          by_cases hlt:j < l - 1
          · have hjl:(0:Int)≤j∧(j:Int) < l:=⟨by omega,by omega⟩
            have hjd:decide ((j:Int) < (l:Int) - 1) = true:=by simp; omega
            obtain ⟨x,hx⟩:∃ x,isType u = x:=⟨_,rfl⟩
            obtain ⟨y,hy⟩:∃ y,isPlain u = y:=⟨_,rfl⟩
            have HX:=Lib.hid hx
            have HY:=Lib.hid hy
            have FT:Hid (∀ W,Below w.heap.size w W→Calls Tryd.prog 73 #[.agg #[.int .i64 u.k,.int .i64 u.n,.int .i64 u.m,.slice A2 u.kids.length c2]] W fun e w'=>e = .returned (.bool x)∧Below W.heap.size W w'):=Lib.hid (fun W hW=>by rw [← hx]; exact type_is d u S A2 c2 W (HRU.out.later HI.out hW) (HI.out.more hW.size) HSU.out)
            have FP:Hid (∀ W,Below w.heap.size w W→Calls Tryd.prog 74 #[.agg #[.int .i64 u.k,.int .i64 u.n,.int .i64 u.m,.slice A2 u.kids.length c2]] W fun e w'=>e = .returned (.bool y)∧Below W.heap.size W w'):=Lib.hid (fun W hW=>by rw [← hy]; exact plain_is u A2 c2 W HSU.out)
            clear hx hy
            by_cases hbad:x = false∨((j:Int) < t.n∧y = false)
            · have HF : Hid (false = r) := Lib.hid (by
                rw [← HR.out]
                refine (isFun_false (fun h=>?_)).symm
                have h4:=h.2.2.2.1 j u (by rw [← HL.out]; omega) HU.out
                rw [HX.out,HY.out] at h4
                rcases hbad with rfl | ⟨h5,rfl⟩
                · cases h4.1
                · cases h4.2 h5)
              rcases hbad with rfl | ⟨h5,rfl⟩
              · go_wp2_with (first
                  | (refine wpList_load_mid rfl 25 (.tmp 32) rfl b2 (o2 + j * 4) rfl [.int .i64 u.k,.int .i64 u.n,.int .i64 u.m,.slice A2 u.kids.length c2] _ HC.out Tryd.underlying25 rfl (by rw [size_node]; rfl) ?_)
                  | (go_at_call 73; refine (FT.out _ HBR.out).mono ?_; rintro e w2 ⟨rfl,hbw⟩; have HB2:=Lib.hid (bt HBR.out hbw); clear hbw))
                go_ret
                exact ⟨ret_b HF.out,HB2.out⟩
              · cases x with
                | false =>
                  go_wp2_with (first
                    | (refine wpList_load_mid rfl 25 (.tmp 32) rfl b2 (o2 + j * 4) rfl [.int .i64 u.k,.int .i64 u.n,.int .i64 u.m,.slice A2 u.kids.length c2] _ HC.out Tryd.underlying25 rfl (by rw [size_node]; rfl) ?_)
                    | (go_at_call 73; refine (FT.out _ HBR.out).mono ?_; rintro e w2 ⟨rfl,hbw⟩; have HB2:=Lib.hid (bt HBR.out hbw); clear hbw))
                  go_ret
                  exact ⟨ret_b HF.out,HB2.out⟩
                | true =>
                  have hd5:decide ((j:Int) < t.n) = true:=by simpa using h5
                  go_wp2_with (first
                    | (refine wpList_load_mid rfl 25 (.tmp 32) rfl b2 (o2 + j * 4) rfl [.int .i64 u.k,.int .i64 u.n,.int .i64 u.m,.slice A2 u.kids.length c2] _ HC.out Tryd.underlying25 rfl (by rw [size_node]; rfl) ?_)
                    | (go_at_call 73; refine (FT.out _ HBR.out).mono ?_; rintro e w2 ⟨rfl, hbw⟩; have HB2 := Lib.hid (bt HBR.out hbw)
                       have hb2:=XBr.out.below hbw XBr.out.lt
                       clear k1 k3
                       have k1:=hb2.cell 1; have k3:=hb2.cell 3
                       simp only [List.getElem?_toArray,List.getElem?_cons_zero,List.getElem?_cons_succ] at k1 k3
                       obtain ⟨v0,v1,v2,v3⟩:=HQ.out _ HB2.out
                       clear hbw hb2)
                    | (go_at_call 74; refine (FP.out _ HB2.out).mono ?_; rintro e w3 ⟨rfl,hbw⟩; have HB3:=Lib.hid (bt HB2.out hbw); clear hbw))
                  go_ret
                  exact ⟨ret_b HF.out,HB3.out⟩
            · obtain ⟨hx1, hy1⟩ : x = true ∧ ((j : Int) < t.n → y = true) := by
                cases x
                · exact absurd (.inl rfl) hbad
                · exact ⟨rfl,fun h=>by cases y; exact absurd (.inr ⟨h,rfl⟩) hbad; rfl⟩
              subst hx1
              have HNX:Hid (∀ (i:Nat) (v:T),i < j + 1→t.kids[i]? = some v→isType v = true∧((i:Int) < t.n→isPlain v = true)):=Lib.hid (fun i v hi hv=>by
                rcases Nat.lt_succ_iff_lt_or_eq.1 hi with h | rfl
                · exact HH.out.1 i v h hv
                · rw [HU.out] at hv
                  cases hv
                  exact ⟨HX.out,fun h=>by rw [HY.out]; exact hy1 h⟩)
              clear hbad
              by_cases h5:(j:Int) < t.n
              · have hd5:decide ((j:Int) < t.n) = true:=by simpa using h5
                have hyt:=hy1 h5
                subst hyt
                clear hy1
                go_wp2_with (first
                  | (refine wpList_load_mid rfl 25 (.tmp 32) rfl b2 (o2 + j * 4) rfl [.int .i64 u.k,.int .i64 u.n,.int .i64 u.m,.slice A2 u.kids.length c2] _ HC.out Tryd.underlying25 rfl (by rw [size_node]; rfl) ?_)
                  | (go_at_call 73; refine (FT.out _ HBR.out).mono ?_; rintro e w2 ⟨rfl, hbw⟩; have HB2 := Lib.hid (bt HBR.out hbw)
                     have HW2:=Lib.hid (bt HH.out.2 hbw)
                     have hb2:=XBr.out.below hbw XBr.out.lt
                     clear k1 k3
                     have k1:=hb2.cell 1; have k3:=hb2.cell 3
                     simp only [List.getElem?_toArray,List.getElem?_cons_zero,List.getElem?_cons_succ] at k1 k3
                     obtain ⟨v0,v1,v2,v3⟩:=HQ.out _ HB2.out
                     clear hbw hb2)
                  | (go_at_call 74; refine (FP.out _ HB2.out).mono ?_; rintro e w3 ⟨rfl,hbw⟩; have HW3:=Lib.hid (bt HW2.out hbw); clear hbw))
                go_roundw
                case rel=>exact ⟨j + 1,by omega,by go_num,HNX.out,HW3.out⟩
                case measure=>simp [intOf]; omega
              · have hd5:decide ((j:Int) < t.n) = false:=by simp; omega
                clear hy1 h5
                go_wp2_with (first
                  | (refine wpList_load_mid rfl 25 (.tmp 32) rfl b2 (o2 + j * 4) rfl [.int .i64 u.k,.int .i64 u.n,.int .i64 u.m,.slice A2 u.kids.length c2] _ HC.out Tryd.underlying25 rfl (by rw [size_node]; rfl) ?_)
                  | (go_at_call 73; refine (FT.out _ HBR.out).mono ?_; rintro e w2 ⟨rfl, hbw⟩; have HB2 := Lib.hid (bt HBR.out hbw)
                     have HW2:=Lib.hid (bt HH.out.2 hbw)
                     have hb2:=XBr.out.below hbw XBr.out.lt
                     clear k1 k3
                     have k1:=hb2.cell 1; have k3:=hb2.cell 3
                     simp only [List.getElem?_toArray,List.getElem?_cons_zero,List.getElem?_cons_succ] at k1 k3
                     clear hbw hb2))
                go_roundw
                case rel=>exact ⟨j + 1,by omega,by go_num,HNX.out,HW2.out⟩
                case measure=>simp [intOf]; omega
          · have hjl:j = l - 1:=by omega
            have hjd:decide ((j:Int) < (l:Int) - 1) = false:=by simp; omega
            obtain ⟨x,hx⟩:∃ x,isBlock u = x:=⟨_,rfl⟩
            have FB:Hid (∀ W,Below w.heap.size w W→Calls Tryd.prog 75 #[.agg #[.int .i64 u.k,.int .i64 u.n,.int .i64 u.m,.slice A2 u.kids.length c2]] W fun e w'=>e = .returned (.bool x)∧Below W.heap.size W w'):=Lib.hid (fun W hW=>by rw [← hx]; exact (stmt_block d).2 u S A2 c2 W (HRU.out.later HI.out hW) (HI.out.more hW.size) HSU.out)
            have HF:Hid (x = r):=Lib.hid (by
              rw [← HR.out,← hx]
              cases hb:isBlock u with
              | true=>exact (isFun_true ⟨HKK.out,HBV.out,by rw [← HL.out]; exact HNN.out,fun i v hi hv=>HH.out.1 i v (by rw [← HL.out] at hi; omega) hv,fun v hv=>by rw [← HL.out,← hjl,HU.out] at hv; cases hv; exact hb⟩).symm
              | false=>exact (isFun_false (fun h=>by have h6:=h.2.2.2.2 u (by rw [← HL.out,← hjl]; exact HU.out); rw [hb] at h6; cases h6)).symm)
            have hle:(l:Int) - 1 = (j:Int):=by omega
            have hjr:(0:Int)≤j∧(j:Int) < l:=⟨by omega,by omega⟩
            have HLE:=Lib.hid hle
            have hsub2:IntKind.i64.wrap ((l:Int) - 1) = (j:Int):=by rw [hsub]; exact hle
            clear hx hlt hsub hle hjl hj
            go_wp2_with (first
              | (refine wpList_load_mid rfl 25 (.tmp 57) rfl b2 (o2 + j * 4) rfl [.int .i64 u.k,.int .i64 u.n,.int .i64 u.m,.slice A2 u.kids.length c2] _ HC.out Tryd.underlying25 rfl (by rw [size_node]; rfl) ?_)
              | (go_at_call 75; refine (FB.out _ HBR.out).mono ?_; rintro e w2 ⟨rfl,hbw⟩; have HB2:=Lib.hid (bt HBR.out hbw); clear hbw))
            go_ret
            exact ⟨ret_b HF.out,HB2.out⟩
  · have HF:Hid (false = r):=Lib.hid (by rw [← HR.out]; exact (isFun_false (fun h=>hk h.1)).symm)
    have hkb:(t.k != 26) = true:=by simp [hk]
    clear hk
    go_enter Tryd.func53,Tryd.ntmps53
    go_wp2_with fail
    go_ret
    exact ⟨ret_b HF.out,below_new _ _⟩
end Go.Proofs.YtkkenbalpnmfmaaDoor
