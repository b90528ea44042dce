/-
  THE WALK of HashOfSeparates.
-/
import Derived.Test.YtaoegpmjogladaaDoorG27
import Derived.BigQuiet
set_option linter.unusedVariables false
namespace Go.Proofs.YtaoegpmjogladaaDoor
open Go.RowKit WM
attribute [local go_sem ↓] shut16

set_option maxRecDepth 100000 in
set_option maxHeartbeats 8000000 in
theorem walkSep (c0 c1 : UInt8) (A B : Option Addr) (l m : List ByteArray) (ca cb : Nat) (w : World) (hA : Reads w w.heap.size 1 A l.length (ss l)) (hB : Reads w w.heap.size 1 B m.length (ss m)) (hn : l.length ≤ 9223372036854775807) (hm : m.length ≤ 9223372036854775807) (hk : KT 0 w) :
    Calls Tryd.prog 3 #[.agg #[.int .u8 (c0.toNat : Int), .int .u8 (c1.toNat : Int)], .slice A l.length ca, .slice B m.length cb] w fun e w' => e = .returned (.bool true) ∧ Below w.heap.size w w' := by
  have HA := Lib.hid hA
  have HB := Lib.hid hB
  have HK := Lib.hid hk
  clear hk hA hB
  obtain ⟨w0, hw0⟩ : ∃ W, W = w.alloc (.cells #[.int .u8 (c0.toNat : Int), .int .u8 (c1.toNat : Int)] 22) := ⟨_, rfl⟩
  have HB0 : Hid (Below w.heap.size w w0) := by rw [hw0]; exact below_new _ _
  have HP0 : Hid (Blk w0 w.heap.size 22 #[.int .u8 (c0.toNat : Int), .int .u8 (c1.toNat : Int)]) := by rw [hw0]; exact Blk.new w _ _
  go_enter Tryd.func3, Tryd.ntmps3
  go_wp2_with (first
    | (go_at_call 10; rw [← hw0]; clear hw0; refine (sanity _ (HK.out.below HB0.out)).mono ?_; rintro e w1 ⟨rfl, hb1⟩; have HB1 := Lib.hid (bt HB0.out hb1); have HP1 := Lib.hid (blk_past hb1 HP0.out); clear hb1 HB0 HP0))
  have h0 := few A l ca w1 ((HA.out.below HB1.out).more HB1.out.size) hn
  refine h0.mono ?_
  clear h0
  rintro e w2 ⟨r, rfl, hr, hb2⟩
  have HB2 := Lib.hid (bt HB1.out hb2)
  have HP2 := Lib.hid (blk_past hb2 HP1.out)
  have HR := Lib.hid hr
  clear hb2 hr HB1 HP1
  cases r
  · go_wp2
    go_ret
    exact ⟨rfl, HB2.out⟩
  · have HFL := Lib.hid (HR.out rfl)
    go_wp2_with fail
    have h0 := few B m cb w2 ((HB.out.below HB2.out).more HB2.out.size) hm
    refine h0.mono ?_
    clear h0
    rintro e w3 ⟨r, rfl, hr, hb3⟩
    have HB3 := Lib.hid (bt HB2.out hb3)
    have HP3 := Lib.hid (blk_past hb3 HP2.out)
    have HR2 := Lib.hid hr
    clear hb3 hr HB2 HP2
    cases r
    · go_wp2_with fail
      go_ret
      exact ⟨rfl, HB3.out⟩
    · have HFM := Lib.hid (HR2.out rfl)
      have hq : decide (c0 = c1) = true ∨ decide (c0 = c1) = false := by cases decide (c0 = c1) <;> simp
      have g0 := Blk.cell HP3.out 0
      have g1 := Blk.cell HP3.out 1
      simp only [List.getElem?_toArray, List.getElem?_cons_zero, List.getElem?_cons_succ] at g0 g1
      have hl12 : l.length ≤ 12 := HFL.out.1
      have hm12 : m.length ≤ 12 := HFM.out.1
      have he := u8_beq c0 c1
      have hee : ((l.length : Int) == (m.length : Int)) = decide (l.length = m.length) := by rw [Bool.eq_iff_iff]; simp; omega
      obtain ⟨x, y, d, e, gx, gy, hS⟩ := sep_make c0 c1 l m HFL.out HFM.out
      have HS := Lib.hid hS
      have HSD := Lib.hid (size16 hS.dl)
      have HSE := Lib.hid (size16 hS.el)
      clear hS
      rcases hq with hq | hq
      all_goals
        rw [hq] at he
        go_wp2
        clear g0 g1
        go_loopw [8, 9] (fun s' i' wr => ∃ (k : Nat) (s : Bool), k ≤ l.length ∧ i' = .int .i64 k ∧ s' = .bool s ∧ Hid ((s = true → Alike2 c0 c1 l m k) ∧ (s = false → ¬ (c0 = c1 ∧ l = m)) ∧ Below w3.heap.size w3 wr)) (fun _ i' _ => l.length - (intOf i').toNat)
        case atStart =>
          have h00 := alike_start c0 c1 l m _ rfl
          exact ⟨0, _, by omega, rfl, by first | (rw [hq]; simp; done) | (rw [hq]; rfl), h00.1, h00.2, Below.refl _ _⟩
        case round =>
          clear hee he hq
          obtain ⟨k, s, hk, rfl, rfl, hh⟩ := hrel
          by_cases hgo : k < l.length ∧ s = true
          · obtain ⟨hlt, rfl⟩ := hgo
            have hal := hh.out.1 rfl
            have hml : k < m.length := by have := hal.2.1; omega
            obtain ⟨b1, o1, rfl, _, hcell⟩ := (HA.out.below (bt HB3.out hh.out.2.2)).lit (by omega)
            have cx := hcell k _ (ss_get l k hlt)
            obtain ⟨b2, o2, rfl, _, hcell2⟩ := (HB.out.below (bt HB3.out hh.out.2.2)).lit (by omega)
            have cy := hcell2 k _ (ss_get m k hml)
            have HAL := Lib.hid (alike_next hal hlt hml _ rfl)
            obtain ⟨s1, hs1⟩ : ∃ s, s = l[k] := ⟨_, rfl⟩
            obtain ⟨s2, hs2⟩ : ∃ s, s = m[k] := ⟨_, rfl⟩
            rw [← hs1] at cx HAL
            rw [← hs2] at cy HAL
            have hsq := toList_beq s1 s2
            clear hcell hcell2 hs1 hs2 hal
            go_wp2
            go_quiet (fail)
            go_wp2
            go_roundw
            case rel => exact ⟨k + 1, decide (s1 = s2), by omega, by go_num, rfl, HAL.out.1, HAL.out.2, below_drewN hh.out.2.2 _⟩
            case measure => simp [intOf]; omega
          · have HBr := Lib.hid (bt HB3.out hh.out.2.2)
            have HPr := Lib.hid (blk_past hh.out.2.2 HP3.out)
            have HAr := Lib.hid ((HA.out.below HBr.out).more HBr.out.size)
            have HBBr := Lib.hid ((HB.out.below HBr.out).more HBr.out.size)
            have gr := Blk.cell HPr.out 0
            simp only [List.getElem?_toArray, List.getElem?_cons_zero] at gr
            have h80 := c0.toNat_lt
            have h81 := c1.toNat_lt
            cases s with
            | true =>
              have hge : l.length ≤ k := by
                by_cases h : k < l.length
                · exact absurd ⟨h, rfl⟩ hgo
                · omega
              have HEQ := Lib.hid (HS.out.same (alike_end (hh.out.1 rfl) hge))
              clear hh hgo
              go_wp2_with (first
                | (go_at_call 12; ((with_reducible refine (input_x (c0.toNat : Int) A l ca wr HAr.out HFL.out x HS.out.hx).mono ?_); rintro e4 w4 ⟨Ax, cx, rfl, hrx, hb4⟩); have HB4 := Lib.hid (bt HBr.out hb4); have hg4 := Blk.cell (blk_past hb4 HPr.out) 1; simp only [List.getElem?_toArray, List.getElem?_cons_zero, List.getElem?_cons_succ] at hg4; have HRX := Lib.hid hrx; have HBB4 := Lib.hid ((HBBr.out.below hb4).more hb4.size); clear hb4 hrx)
                | (go_at_call 12; ((with_reducible refine (input_x (c1.toNat : Int) B m cb w4 HBB4.out HFM.out y HS.out.hy).mono ?_); rintro e5 w5 ⟨Ay, cy, rfl, hry, hb5⟩); have HB5 := Lib.hid (bt HB4.out hb5); have HRX5 := Lib.hid (HRX.out.below hb5); have HRY := Lib.hid hry; have hcx := conv_str (c := cx) HRX5.out; have hcy := conv_str (c := cy) HRY.out; rw [← HEQ.out] at hcy; clear hb5 hry))
              go_ret
              exact ⟨rfl, HB5.out⟩
            | false =>
              have HNE := Lib.hid (HS.out.other (hh.out.2.1 rfl))
              clear hh
              have hz29 := Tryd.zero29
              have HSX : Hid ((Tryd.prog.info? 31).map (·.size) = some (bs gx).toArray.size) := by show _ = _; rw [Tryd.size31]; simp [bs, HS.out.gxl]
              have HSY : Hid ((Tryd.prog.info? 31).map (·.size) = some (bs gy).toArray.size) := by show _ = _; rw [Tryd.size31]; simp [bs, HS.out.gyl]
              have hlk : k < l.length ∨ l.length ≤ k := by omega
              rcases hlk with hlk | hlk
              all_goals
                clear hgo
                go_wp2_with (first
                  | (go_at_call 12; ((with_reducible refine (input_x (c0.toNat : Int) A l ca wr HAr.out HFL.out x HS.out.hx).mono ?_); rintro e4 w4 ⟨Ax, cx, rfl, hrx, hb4⟩); have HB4 := Lib.hid (bt HBr.out hb4); have HP4 := Lib.hid (blk_past hb4 HPr.out); have hg4 := Blk.cell HP4.out 1; simp only [List.getElem?_toArray, List.getElem?_cons_zero, List.getElem?_cons_succ] at hg4; have HRX := Lib.hid hrx; have HBB4 := Lib.hid ((HBBr.out.below hb4).more hb4.size); have HAA4 := Lib.hid ((HAr.out.below hb4).more hb4.size); clear hb4 hrx)
                  | (go_at_call 12; ((with_reducible refine (input_x (c1.toNat : Int) B m cb w4 HBB4.out HFM.out y HS.out.hy).mono ?_); rintro e5 w5 ⟨Ay, cy, rfl, hry, hb5⟩); have HB5 := Lib.hid (bt HB4.out hb5); have HP5 := Lib.hid (blk_past hb5 HP4.out); have HRX5 := Lib.hid ((HRX.out.below hb5).more hb5.size); have HRY5 := Lib.hid hry; have HAA5 := Lib.hid ((HAA4.out.below hb5).more hb5.size); have HBB5 := Lib.hid ((HBB4.out.below hb5).more hb5.size); have hg5 := Blk.cell HP5.out 0; simp only [List.getElem?_toArray, List.getElem?_cons_zero] at hg5; clear hb5 hry)
                  | (go_at_call 13; ((with_reducible refine (of_is (c0.toNat : Int) A l ca w5 (HK.out.below HB5.out) HAA5.out HFL.out d HS.out.hd).mono ?_); rintro e6 w6 ⟨rfl, hb6⟩); have HB6 := Lib.hid (bt HB5.out hb6); have HP6 := Lib.hid (blk_past hb6 HP5.out); have HRX6 := Lib.hid ((HRX5.out.below hb6).more hb6.size); have HRY6 := Lib.hid ((HRY5.out.below hb6).more hb6.size); have HBB6 := Lib.hid ((HBB5.out.below hb6).more hb6.size); clear hb6)
                  | (refine wpList_store_row rfl 29 (.tmp 12) (.tmp 81) rfl w6.heap.size (bs d).toArray rfl rfl 29 _ (Blk.new w6 29 _) HSD.out (by rw [sz16 HS.out.dl, sz16 z16_length]) (all_oneCell_toArray (bs_one _)) ?_
                     generalize hw7 : World.setRow (World.alloc w6 _) _ _ = w7
                     have hb7 : Below w6.heap.size w6 w7 := by rw [← hw7]; exact below_setRow (below_new _ _) (Nat.le_refl _) _
                     have HG7 : Hid (Blk w7 w6.heap.size 29 (bs d).toArray) := by rw [← hw7]; exact (Blk.new w6 29 _).setRow _
                     have HB7 := Lib.hid (bt HB6.out hb7)
                     have HP7 := Lib.hid (blk_past hb7 HP6.out)
                     have HRX7 := Lib.hid ((HRX6.out.below hb7).more hb7.size)
                     have HRY7 := Lib.hid ((HRY6.out.below hb7).more hb7.size)
                     have HBB7 := Lib.hid ((HBB6.out.below hb7).more hb7.size)
                     have hg7 := Blk.cell HP7.out 1; simp only [List.getElem?_toArray, List.getElem?_cons_zero, List.getElem?_cons_succ] at hg7
                     clear hw7 hb7)
                  | (go_at_call 13; ((with_reducible refine (of_is (c1.toNat : Int) B m cb w7 (HK.out.below HB7.out) HBB7.out HFM.out e HS.out.he).mono ?_); rintro e8 w8 ⟨rfl, hb8⟩); have HB8 := Lib.hid (bt HB7.out hb8); have HG8 := Lib.hid (blk_past hb8 HG7.out); have HRX8 := Lib.hid ((HRX7.out.below hb8).more hb8.size); have HRY8 := Lib.hid ((HRY7.out.below hb8).more hb8.size); clear hb8)
                  | (refine wpList_store_row rfl 29 (.tmp 13) (.tmp 86) rfl w8.heap.size (bs e).toArray rfl rfl 29 _ (Blk.new w8 29 _) HSE.out (by rw [sz16 HS.out.el, sz16 z16_length]) (all_oneCell_toArray (bs_one _)) ?_
                     generalize hw9 : World.setRow (World.alloc w8 _) _ _ = w9
                     have hb9 : Below w8.heap.size w8 w9 := by rw [← hw9]; exact below_setRow (below_new _ _) (Nat.le_refl _) _
                     have HH9 : Hid (Blk w9 w8.heap.size 29 (bs e).toArray) := by rw [← hw9]; exact (Blk.new w8 29 _).setRow _
                     have HB9 := Lib.hid (bt HB8.out hb9)
                     have HG9 := Lib.hid (blk_past hb9 HG8.out)
                     have HRX9 := Lib.hid ((HRX8.out.below hb9).more hb9.size)
                     have HRY9 := Lib.hid ((HRY8.out.below hb9).more hb9.size)
                     clear hw9 hb9)
                  | (go_at_call 14; ((with_reducible refine (hsum_l Ax x cx w9 (HK.out.below HB9.out) HRX9.out (by have := HS.out.xs; omega) gx HS.out.hgx).mono ?_); rintro e10 w10 ⟨rfl, hb10⟩); have HB10 := Lib.hid (bt HB9.out hb10); have HG10 := Lib.hid (blk_past hb10 HG9.out); have HH10 := Lib.hid (blk_past hb10 HH9.out); have HRX10 := Lib.hid ((HRX9.out.below hb10).more hb10.size); have HRY10 := Lib.hid ((HRY9.out.below hb10).more hb10.size); clear hb10)
                  | (refine wpList_store_row rfl 31 (.tmp 14) (.tmp 88) rfl w10.heap.size (bs gx).toArray rfl rfl 31 _ (Blk.new w10 31 _) HSX.out (by simp [bs, HS.out.gxl]) (all_oneCell_toArray (bs_one _)) ?_
                     generalize hw11 : World.setRow (World.alloc w10 _) _ _ = w11
                     have hb11 : Below w10.heap.size w10 w11 := by rw [← hw11]; exact below_setRow (below_new _ _) (Nat.le_refl _) _
                     have HI11 : Hid (Blk w11 w10.heap.size 31 (bs gx).toArray) := by rw [← hw11]; exact (Blk.new w10 31 _).setRow _
                     have HB11 := Lib.hid (bt HB10.out hb11)
                     have HG11 := Lib.hid (blk_past hb11 HG10.out)
                     have HH11 := Lib.hid (blk_past hb11 HH10.out)
                     have HRX11 := Lib.hid ((HRX10.out.below hb11).more hb11.size)
                     have HRY11 := Lib.hid ((HRY10.out.below hb11).more hb11.size)
                     clear hw11 hb11)
                  | (go_at_call 14; ((with_reducible refine (hsum_l Ay y cy w11 (HK.out.below HB11.out) HRY11.out (by have := HS.out.ys; omega) gy HS.out.hgy).mono ?_); rintro e12 w12 ⟨rfl, hb12⟩); have HB12 := Lib.hid (bt HB11.out hb12); have HG12 := Lib.hid (blk_past hb12 HG11.out); have HH12 := Lib.hid (blk_past hb12 HH11.out); have HI12 := Lib.hid (blk_past hb12 HI11.out); have HRX12 := Lib.hid ((HRX11.out.below hb12).more hb12.size); have HRY12 := Lib.hid ((HRY11.out.below hb12).more hb12.size); clear hb12)
                  | (refine wpList_store_row rfl 31 (.tmp 15) (.tmp 90) rfl w12.heap.size (bs gy).toArray rfl rfl 31 _ (Blk.new w12 31 _) HSY.out (by simp [bs, HS.out.gyl]) (all_oneCell_toArray (bs_one _)) ?_
                     generalize hw13 : World.setRow (World.alloc w12 _) _ _ = w13
                     have hb13 : Below w12.heap.size w12 w13 := by rw [← hw13]; exact below_setRow (below_new _ _) (Nat.le_refl _) _
                     have HJ13 : Hid (Blk w13 w12.heap.size 31 (bs gy).toArray) := by rw [← hw13]; exact (Blk.new w12 31 _).setRow _
                     have HB13 := Lib.hid (bt HB12.out hb13)
                     have HG13 := Lib.hid (blk_past hb13 HG12.out)
                     have HH13 := Lib.hid (blk_past hb13 HH12.out)
                     have HI13 := Lib.hid (blk_past hb13 HI12.out)
                     have HRX13 := Lib.hid ((HRX12.out.below hb13).more hb13.size)
                     have HRY13 := Lib.hid ((HRY12.out.below hb13).more hb13.size)
                     clear hw13 hb13))
                obtain ⟨q6, hq6⟩ : ∃ q, q = w6.heap.size := ⟨_, rfl⟩
                obtain ⟨q8, hq8⟩ : ∃ q, q = w8.heap.size := ⟨_, rfl⟩
                obtain ⟨q10, hq10⟩ : ∃ q, q = w10.heap.size := ⟨_, rfl⟩
                obtain ⟨q12, hq12⟩ : ∃ q, q = w12.heap.size := ⟨_, rfl⟩
                rw [← hq6] at HG13
                rw [← hq8] at HH13
                rw [← hq10] at HI13
                rw [← hq12] at HJ13
                rw [← hq6, ← hq8, ← hq10, ← hq12]
                clear hq6 hq8 hq10 hq12 hlk hk gr hg4 hg5 hg7 HG12 HH12 HI12 HRX12 HRY12 HB12 HG11 HH11 HI11 HRX11 HRY11 HB11 HG10 HH10 HRX10 HRY10 HB10 HG9 HH9 HRX9 HRY9 HB9 HG8 HRX8 HRY8 HB8 HG7 HRX7 HRY7 HBB7 HP7 HB7 HRX6 HRY6 HBB6 HP6 HB6 HRX5 HRY5 HBB5 HAA5 HP5 HB5 HRX HBB4 HAA4 HP4 HB4 HAr HBBr HPr HBr
                go_loopw [16, 17] (fun s' i' wr => ∃ i : Nat, i ≤ 16 ∧ i' = .int .i64 i ∧ s' = .bool (decide (gx.take i = gy.take i)) ∧ Hid (Below w13.heap.size w13 wr)) (fun _ i' _ => 16 - (intOf i').toNat)
                case atStart => exact ⟨0, by omega, rfl, rfl, Below.refl _ _⟩
                case round =>
                  obtain ⟨i, hi, rfl, rfl, hh⟩ := hrel
                  by_cases hlt : i < 16
                  · have hxl := HS.out.gxl
                    have hyl := HS.out.gyl
                    obtain ⟨u, hu⟩ : ∃ u, u = gx[i]'(by omega) := ⟨_, rfl⟩
                    obtain ⟨v, hv⟩ : ∃ v, v = gy[i]'(by omega) := ⟨_, rfl⟩
                    have cx := (Blk.cell (blk_past hh.out HI13.out) i).trans (by simpa using bs_get gx i (by omega))
                    have cy := (Blk.cell (blk_past hh.out HJ13.out) i).trans (by simpa using bs_get gy i (by omega))
                    have htd := take_dec gx gy i (by omega) (by omega)
                    rw [← hu] at cx htd
                    rw [← hv] at cy htd
                    have huv := u8_beq u v
                    obtain ⟨b, hb⟩ : ∃ b, b = decide (gx.take i = gy.take i) := ⟨_, rfl⟩
                    rw [← hb] at htd ⊢
                    have HTD := Lib.hid htd
                    clear htd hb hu hv hxl hyl
                    cases b
                    all_goals
                      go_wp2
                      go_quiet (fail)
                      go_wp2
                      go_roundw
                      case rel => exact ⟨i + 1, by omega, by go_num, by rw [HTD.out]; first | rfl | simp, below_drewN hh.out _⟩
                      case measure => simp [intOf]; omega
                  · have hie : i = 16 := by omega
                    obtain ⟨q, hq⟩ : ∃ q, q = decide (d = e) := ⟨_, rfl⟩
                    have hc : decide (gx.take i = gy.take i) = q := by rw [hie, hq, HS.out.d16, HS.out.e16]
                    have heq := fun W => eq44 d e HS.out.dl HS.out.el W
                    rw [← hq] at heq
                    rw [hc]
                    have la := load16 (blk_past hh.out HG13.out) HS.out.dl
                    have lb := load16 (blk_past hh.out HH13.out) HS.out.el
                    have hcx := conv_str (c := cx) (HRX13.out.below hh.out)
                    have hcy := conv_str (c := cy) (HRY13.out.below hh.out)
                    have hsne : ((str x).toList == (str y).toList) = false := by rw [toList_beq]; exact decide_eq_false HNE.out
                    have HBE := Lib.hid (bt HB13.out hh.out)
                    have hge : 16 ≤ i := by omega
                    clear hie hc hq hlt hi hh
                    cases q
                    all_goals
                      go_wp2
                      go_ret
                      exact ⟨rfl, HBE.out⟩

theorem walkSepD (d : List UInt8) (A B : Option Addr) (l m : List ByteArray) (ca cb : Nat) (w : World) (hd : d.length = 2) (hA : Reads w w.heap.size 1 A l.length (ss l)) (hB : Reads w w.heap.size 1 B m.length (ss m)) (hn : l.length ≤ 9223372036854775807) (hm : m.length ≤ 9223372036854775807) (hk : KT 0 w) :
    Calls Tryd.prog 3 #[.agg (bs d).toArray, .slice A l.length ca, .slice B m.length cb] w fun e w' => e = .returned (.bool true) ∧ Below w.heap.size w w' := by
  match d, hd with
  | [c0, c1], _ => exact walkSep c0 c1 A B l m ca cb w hA hB hn hm hk
end Go.Proofs.YtaoegpmjogladaaDoor
