/-
  scoriaref02.Short and scoriaref02.Of.
-/
import Derived.Test.YtgabmipakocheaaDoorRMac
import Derived.Test.YtgabmipakocheaaDoorFew
namespace Go.Proofs.YtgabmipakocheaaDoor
open Go.RowKit WM

def sh (x : List UInt8) (i : Nat) : List UInt8 := x.take i ++ List.replicate (16 - i) 0
theorem sh_length (x : List UInt8) (i : Nat) (hx : x.length = 32) (h : i ≤ 16) : (sh x i).length = 16 := by
  simp [sh]; omega
theorem sh_get (x : List UInt8) (i : Nat) (hx : x.length = 32) (h : i < 16) : (sh x i)[i]? = some 0 := by
  unfold sh
  rw [List.getElem?_append_right (by simp; omega), List.getElem?_replicate, if_pos (by simp; omega)]
theorem sh_step (x : List UInt8) (i : Nat) (hx : x.length = 32) (h : i < 16) : (sh x i).set i (x[i]'(by omega)) = sh x (i + 1) := by
  unfold sh
  have hl : (x.take i).length = i := by simp; omega
  rw [List.set_append_right _ _ (by omega), hl, Nat.sub_self, show 16 - i = (16 - (i + 1)) + 1 by omega, List.replicate_succ, List.set_cons_zero, List.take_succ_eq_append_getElem (show i < x.length by omega), List.append_assoc]
  rfl
theorem sh_done (x : List UInt8) : sh x 16 = x.take 16 := by simp [sh]

set_option maxRecDepth 100000 in
set_option maxHeartbeats 1600000 in
theorem short (A : Option Addr) (m : List UInt8) (n c : Nat) (w : World) (hn : n = m.length) (hk : KT 0 w) (ha : Reads w w.heap.size 1 A n (bs m)) (hm : m.length ≤ 1099511627776) :
    Calls Tryd.prog 33 #[.slice A n c] w fun e w' => e = .returned (.agg (bs ((sha m).take 16)).toArray) ∧ Below w.heap.size w w' := by
  obtain ⟨x, hx⟩ : ∃ x, x = sha m := ⟨_, rfl⟩
  have hxl : x.length = 32 := by rw [hx]; rfl
  rw [← hx]
  have hs24 : (Tryd.prog.info? 24).map (·.size) = some (bs x).toArray.size := by rw [Tryd.size24]; simp [bs, hxl]
  have hs44 : (Tryd.prog.info? 44).map (·.size) = some (bs (x.take 16)).toArray.size := by rw [Tryd.size44]; simp [bs, hxl]
  have hs44z : (Tryd.prog.info? 44).map (·.size) = some (bs (List.replicate 16 0)).toArray.size := by rw [Tryd.size44]; simp [bs]
  have HX := Lib.hid hx
  have HXL := Lib.hid hxl
  have HS24 := Lib.hid hs24
  have HS44 := Lib.hid hs44
  have HS44Z := Lib.hid hs44z
  have HK := Lib.hid hk
  have HA := Lib.hid ha
  have HN := Lib.hid hn
  have HM := Lib.hid hm
  clear hx hxl hs24 hs44 hs44z hk ha hn hm
  go_enter Tryd.func33, Tryd.ntmps33
  go_wp2_with fail
  generalize hw0 : World.alloc w _ = w0
  have HB0 : Hid (Below w.heap.size w w0) := by rw [← hw0]; exact below_new _ _
  have HO0 : Hid (Blk w0 w.heap.size 44 (bs (List.replicate 16 0)).toArray) := by rw [← hw0]; exact Blk.new_at w 44 rfl (by kernel_rfl)
  clear hw0
  have h0 := rsum_n A m n c w0 HN.out (HK.out.below HB0.out) ((HA.out.below HB0.out).more HB0.out.size) HM.out x HX.out.symm
  refine h0.mono ?_
  clear h0
  rintro e w1 ⟨rfl, hb1⟩
  have HB1 := Lib.hid (bt HB0.out hb1)
  have HO1 := Lib.hid (blk_past hb1 HO0.out)
  clear hb1
  go_wp2_with (first
    | (refine wpList_store_row rfl 24 (.tmp 3) (.tmp 7) rfl w1.heap.size (bs x).toArray rfl rfl 24 _ (Blk.new w1 24 _) HS24.out (by simp [bs, HXL.out]) (all_oneCell_toArray (bs_one _)) ?_
       generalize hw2 : World.setRow (World.alloc w1 _) _ _ = w2
       have HX2 : Hid (Blk w2 w1.heap.size 24 (bs x).toArray) := by rw [← hw2]; exact (Blk.new w1 24 _).setRow _
       have HO2 : Hid (Blk w2 w.heap.size 44 (bs (List.replicate 16 0)).toArray) := by rw [← hw2]; exact (HO1.out.alloc _).setRow_far (by have := HO1.out.lt; omega) _
       have HB2 : Hid (Below w.heap.size w w2) := by rw [← hw2]; exact below_setRow (ba HB1.out _) HB1.out.size _
       clear hw2)
    | (refine wpList_store_row rfl 44 (.tmp 4) (.tmp 8) rfl w2.heap.size (bs (List.replicate 16 0)).toArray rfl rfl 44 _ (Blk.new w2 44 _) HS44Z.out (by simp [bs]) (all_oneCell_toArray (bs_one _)) ?_
       generalize hw3 : World.setRow (World.alloc w2 _) _ _ = w3
       have HX3 : Hid (Blk w3 w1.heap.size 24 (bs x).toArray) := by rw [← hw3]; exact (HX2.out.alloc _).setRow_far (by have := HX2.out.lt; omega) _
       have HO3 : Hid (Blk w3 w.heap.size 44 (bs (List.replicate 16 0)).toArray) := by rw [← hw3]; exact (HO2.out.alloc _).setRow_far (by have := HO2.out.lt; omega) _
       have HZ3 : Hid (Blk w3 w2.heap.size 44 (bs (sh x 0)).toArray) := by rw [← hw3]; exact (Blk.new w2 44 _).setRow _
       have HB3 : Hid (Below w.heap.size w w3) := by rw [← hw3]; exact below_setRow (ba HB2.out _) HB2.out.size _
       clear hw3))
  have hq1 : w1.heap.size < w2.heap.size := HX2.out.lt
  have hq2 : w.heap.size < w1.heap.size := HO1.out.lt
  obtain ⟨g3, hg3⟩ : ∃ g, g = w1.heap.size := ⟨_, rfl⟩
  obtain ⟨g4, hg4⟩ : ∃ g, g = w2.heap.size := ⟨_, rfl⟩
  rw [← hg3] at HX3 hq1 hq2 ⊢
  rw [← hg4] at HZ3 hq1 ⊢
  clear hg3 hg4 HX2 HO2 HB2 HO1 HB1 HO0 HB0
  go_loopw [5] (fun i' wr => ∃ i : Nat, i ≤ 16 ∧ i' = .int .i64 i ∧ Hid (Blk wr g4 44 (bs (sh x i)).toArray ∧ Blk wr g3 24 (bs x).toArray ∧ Blk wr w.heap.size 44 (bs (List.replicate 16 0)).toArray ∧ Below w.heap.size w wr)) (fun i' _ => 16 - (intOf i').toNat)
  case atStart => exact ⟨0, by omega, rfl, HZ3.out, HX3.out, HO3.out, HB3.out⟩
  case round =>
    clear HZ3 HX3 HO3 HB3
    obtain ⟨i, hi16, rfl, hh⟩ := hrel
    by_cases hlt : i < 16
    · have hix : i < x.length := by have := HXL.out; omega
      obtain ⟨b, hb⟩ : ∃ b, b = x[i] := ⟨_, rfl⟩
      have hc1 : wr.cell? ⟨g3, i, none⟩ = some (.int .u8 (b.toNat : Int)) := (Blk.cell hh.out.2.1 i).trans (by rw [hb]; simpa using bs_get x i hix)
      have hc2 : wr.cell? ⟨g4, i, none⟩ = some (.int .u8 ((0 : UInt8).toNat : Int)) := (Blk.cell hh.out.1 i).trans (by simpa using bs_get' (sh_get x i HXL.out hlt))
      have hf := Blk.frozen hh.out.1 i
      have HST : Hid ((sh x i).set i b = sh x (i + 1)) := by rw [hb]; exact sh_step x i HXL.out hlt
      clear hb
      go_wp2
      go_roundw
      case rel => exact ⟨i + 1, by omega, by go_num, by rw [← HST.out]; exact blk_setB hh.out.1 i b, hh.out.2.1.far (by simp; omega) _, hh.out.2.2.1.far (by simp; omega) _, hh.out.2.2.2.setCell (by simp; omega) _⟩
      case measure => simp [intOf]; omega
    · have hie : i = 16 := by omega
      have hz : Blk wr g4 44 (bs (x.take 16)).toArray := by
        have := hh.out.1
        rwa [hie, sh_done] at this
      have HZ := Lib.hid hz
      have hge : 16 ≤ i := by omega
      clear hlt hi16 hie hz
      go_wp2_with (first
        | (refine wpList_load_row rfl 44 (.tmp 4) rfl g4 rfl 44 (bs (x.take 16)).toArray (0, 0) _ HZ.out Tryd.underlying44 rfl HS44.out ?_)
        | (refine wpList_store_row rfl 44 (.tmp 2) (.tmp 18) rfl w.heap.size (bs (x.take 16)).toArray rfl rfl 44 _ hh.out.2.2.1 HS44.out (by simp [bs, HXL.out]) (all_oneCell_toArray (bs_one _)) ?_))
      exact bodyPost_ret (results_cell_row Tryd.results33 _ _ w.heap.size 44 (bs (x.take 16)).toArray (0, 0) _ rfl (hh.out.2.2.1.setRow _) Tryd.underlying44 rfl HS44.out) rfl ⟨rfl, below_setRow hh.out.2.2.2 (Nat.le_refl _) _⟩

set_option maxRecDepth 100000 in
set_option maxHeartbeats 1600000 in
theorem rof (t : Int) (A : Option Addr) (l : List ByteArray) (c : Nat) (w : World) (hk : KT 0 w) (ha : Reads w w.heap.size 1 A l.length (ss l)) (hl : (encP l).length ≤ 137438953472) (hn : l.length ≤ 137438953472) :
    Calls Tryd.prog 22 #[.int .i64 t, .slice A l.length c] w fun e w' => e = .returned (.agg (bs (ofB t l)).toArray) ∧ Below w.heap.size w w' := by
  have hs44 : (Tryd.prog.info? 44).map (·.size) = some (bs (ofB t l)).toArray.size := by rw [Tryd.size44]; simp [bs, ofB, sha_length]
  have hil : (inputOf t l).length ≤ 1099511627776 := by show (encP l).length + 1 ≤ _; omega
  have HS44 := Lib.hid hs44
  have HIL := Lib.hid hil
  have HK := Lib.hid hk
  have HA := Lib.hid ha
  clear hs44 hil hk ha
  go_enter Tryd.func22, Tryd.ntmps22
  go_wp2_with fail
  generalize hw0 : World.alloc w _ = w0
  have HB0 : Hid (Below w.heap.size w w0) := by rw [← hw0]; exact below_new _ _
  have HO0 : Hid (Blk w0 w.heap.size 44 (bs (List.replicate 16 0)).toArray) := by rw [← hw0]; exact Blk.new_at w 44 rfl (by kernel_rfl)
  clear hw0
  have h0 := input t A l c w0 ((HA.out.below HB0.out).more HB0.out.size) hl hn
  refine h0.mono ?_
  clear h0
  rintro e w1 ⟨v, rfl, hown, hb1⟩
  have HB1 := Lib.hid (bt HB0.out hb1)
  have HO1 := Lib.hid (blk_past hb1 HO0.out)
  obtain ⟨n, hnn⟩ : ∃ n, n = (inputOf t l).length := ⟨_, rfl⟩
  rw [← hnn] at hown
  have HN := Lib.hid hnn
  obtain ⟨A1, c1, hv, _⟩ := own_len hown
  subst hv
  have HR1 := Lib.hid (Reads.of_own hown)
  clear hb1 hnn hown
  go_wp2_with (first
    | (go_at_call 33; have h1 := short A1 (inputOf t l) n c1 w1 HN.out (HK.out.below HB1.out) HR1.out HIL.out; refine h1.mono ?_; clear h1; rintro e w2 ⟨rfl, hb2⟩; have HB2 := Lib.hid (bt HB1.out hb2); have HO2 := Lib.hid (blk_past hb2 HO1.out); clear hb2)
    | (refine wpList_store_row rfl 44 (.tmp 4) (.tmp 8) rfl w.heap.size (bs (ofB t l)).toArray rfl rfl 44 _ HO2.out HS44.out (by simp [bs, ofB, sha_length]) (all_oneCell_toArray (bs_one _)) ?_))
  exact bodyPost_ret (results_cell_row Tryd.results22 _ _ w.heap.size 44 (bs (ofB t l)).toArray (0, 0) _ rfl (HO2.out.setRow _) Tryd.underlying44 rfl HS44.out) rfl ⟨rfl, below_setRow HB2.out (Nat.le_refl _) _⟩
end Go.Proofs.YtgabmipakocheaaDoor
