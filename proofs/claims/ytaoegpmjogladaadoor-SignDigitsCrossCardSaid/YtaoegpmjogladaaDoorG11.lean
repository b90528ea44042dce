/-
  The sanity check of the laws.
-/
import Derived.Test.YtaoegpmjogladaaDoorG10
import Derived.Lib.SlBytesConst
namespace Go.Proofs.YtaoegpmjogladaaDoor
open Go.RowKit WM

theorem equal_true (a : ByteArray) (w : World) (ha : a.size ≤ 140737488355328) : Calls Tryd.prog 31 #[.string a, .string a] w fun e w' => e = .returned (.bool true) ∧ Below w.heap.size w w' :=
  (equal a a w ha ha).mono fun _ _ ⟨he, m, hm⟩ => ⟨by rw [he, decide_eq_true rfl], by rw [hm]; exact below_drewN (Below.refl _ _) m⟩
theorem equal_false (a b : ByteArray) (w : World) (ha : a.size ≤ 140737488355328) (hb : b.size ≤ 140737488355328) (h : a ≠ b) : Calls Tryd.prog 31 #[.string a, .string b] w fun e w' => e = .returned (.bool false) ∧ Below w.heap.size w w' :=
  (equal a b w ha hb).mono fun _ _ ⟨he, m, hm⟩ => ⟨by rw [he, decide_eq_false h], by rw [hm]; exact below_drewN (Below.refl _ _) m⟩
theorem lit_reads' (w : World) (xs : List Value) (cs : Array Value) (t : TypeId) (n : Nat) (h : xs.length = n) (hcs : cs = xs.toArray) : Reads (w.alloc (.cells cs t)) (w.alloc (.cells cs t)).heap.size 1 (some ⟨w.heap.size, 0, none⟩) n xs := by
  subst hcs
  exact ⟨by omega, fun _ => ⟨_, rfl, by simp, cells_new w xs t⟩⟩
theorem lit_reads_mark (w : World) (xs : List Value) (cs : Array Value) (t : TypeId) (n : Nat) (fr : Nat × Nat) (h : xs.length = n) (hcs : cs = xs.toArray) : Reads (w.alloc (.cells cs t fr)) (w.alloc (.cells cs t fr)).heap.size 1 (some ⟨w.heap.size, 0, none⟩) n xs := by
  subst hcs
  refine ⟨by omega, fun _ => ⟨_, rfl, by simp, fun j u hu => ?_⟩⟩
  have e : (⟨w.heap.size, 0, none⟩ : Addr).add j = ⟨w.heap.size, j, none⟩ := by unfold Addr.add; split <;> simp_all
  rw [e, World.cell?_alloc_mark]
  simpa using hu
theorem shut24 (v : Value) : Instr.loadAt 31 v = ldS 31 v := rfl
theorem shut44 (v : Value) : Instr.loadAt 29 v = ldS 29 v := rfl
theorem load24 {W : World} {g : Nat} {x : List UInt8} (hb : Blk W g 31 (bs x).toArray) (h0 : x.length = 32) : (ldS 31 (.pointer (some ⟨g, 0, none⟩))).run Tryd.prog W = .ok (.agg (bs x).toArray) W := by
  unfold ldS
  simp only [Instr.loadAt, Instr.sureAddr, Sem.run_bind, Sem.run_pure, Result.andThen_ok]
  exact run_loadVar_row W g 31 31 _ (0, 0) _ hb Tryd.underlying31 rfl (by rw [Tryd.size31]; simp [bs, h0])
theorem load44 {W : World} {g : Nat} {x : List UInt8} (hb : Blk W g 29 (bs x).toArray) (h0 : x.length = 16) : (ldS 29 (.pointer (some ⟨g, 0, none⟩))).run Tryd.prog W = .ok (.agg (bs x).toArray) W := by
  unfold ldS
  simp only [Instr.loadAt, Instr.sureAddr, Sem.run_bind, Sem.run_pure, Result.andThen_ok]
  exact run_loadVar_row W g 29 29 _ (0, 0) _ hb Tryd.underlying29 rfl (by rw [Tryd.size29]; simp [bs, h0])
attribute [local go_sem ↓] shut24 shut44
theorem ne_of_data {a b : ByteArray} (h : a.data ≠ b.data) : a ≠ b := fun e => h (by rw [e])

set_option maxRecDepth 100000 in
set_option maxHeartbeats 4000000 in
theorem sanity (w : World) (hk : KT 0 w) : Calls Tryd.prog 10 #[] w fun e w' => e = .returned (.bool true) ∧ Below w.heap.size w w' := by
  have HK := Lib.hid hk
  obtain ⟨X, hX⟩ : ∃ X, X = sha [97, 98, 99] := ⟨_, rfl⟩
  have hXl : X.length = 32 := by rw [hX]; rfl
  have hXs : str (hexB (str X).data.toList) = ⟨#[98, 97, 55, 56, 49, 54, 98, 102, 56, 102, 48, 49, 99, 102, 101, 97, 52, 49, 52, 49, 52, 48, 100, 101, 53, 100, 97, 101, 50, 50, 50, 51, 98, 48, 48, 51, 54, 49, 97, 51, 57, 54, 49, 55, 55, 97, 57, 99, 98, 52, 49, 48, 102, 102, 54, 49, 102, 50, 48, 48, 49, 53, 97, 100]⟩ := by rw [hX]; exact exAbc
  obtain ⟨MM, hMM⟩ : ∃ MM, MM = macB [74, 101, 102, 101] [119, 104, 97, 116, 32, 100, 111, 32, 121, 97, 32, 119, 97, 110, 116, 32, 102, 111, 114, 32, 110, 111, 116, 104, 105, 110, 103, 63] := ⟨_, rfl⟩
  have hMs : str (hexB (str MM).data.toList) = ⟨#[53, 98, 100, 99, 99, 49, 52, 54, 98, 102, 54, 48, 55, 53, 52, 101, 54, 97, 48, 52, 50, 52, 50, 54, 48, 56, 57, 53, 55, 53, 99, 55, 53, 97, 48, 48, 51, 102, 48, 56, 57, 100, 50, 55, 51, 57, 56, 51, 57, 100, 101, 99, 53, 56, 98, 57, 54, 52, 101, 99, 51, 56, 52, 51]⟩ := by rw [hMM]; exact exMac
  have hMl : MM.length = 32 := by rw [hMM]; rfl
  obtain ⟨D, hD⟩ : ∃ D, D = ofB 8 [⟨#[97]⟩, ⟨#[]⟩] := ⟨_, rfl⟩
  have hDs : str (hexB (str D).data.toList) = ⟨#[51, 54, 99, 100, 53, 48, 56, 53, 48, 51, 50, 57, 102, 56, 56, 52, 48, 54, 101, 51, 49, 98, 98, 56, 97, 55, 100, 56, 102, 98, 54, 50]⟩ := by rw [hD]; exact exOf
  have hDl : D.length = 16 := by rw [hD]; rfl
  have h24 : (Tryd.prog.info? 31).map (·.size) = some (bs X).toArray.size := by rw [Tryd.size31]; simp [bs, hXl]
  have h44 : (Tryd.prog.info? 29).map (·.size) = some (bs D).toArray.size := by rw [Tryd.size29]; simp [bs, hDl]
  have hle : ([97, 98, 99] : List UInt8).length = 3 := rfl
  have e6 : sha (([] ++ (⟨#[97]⟩ : ByteArray).data.toList) ++ (⟨#[98, 99]⟩ : ByteArray).data.toList) = X := by rw [hX]; rfl
  have H24 := Lib.hid h24
  have H44 := Lib.hid h44
  have HX := Lib.hid hX
  have HXL := Lib.hid hXl
  have HXS := Lib.hid hXs
  have HMM := Lib.hid hMM
  have HMS := Lib.hid hMs
  have HML := Lib.hid hMl
  have HD := Lib.hid hD
  have HDS := Lib.hid hDs
  have HDL := Lib.hid hDl
  have E6 := Lib.hid e6
  have heq := eq24 X X hXl hXl
  rw [decide_eq_true rfl] at heq
  have hin : (encP [⟨#[97]⟩, ⟨#[]⟩]).length ≤ 137438953472 := by
    have := exIn
    unfold inputOf at this
    injection this with _ this
    rw [this]; decide
  have HIN := Lib.hid hin
  have hcv := Go.Lib.run_convert_bytes_const (P := Tryd.prog) w 26 5 #[.int .u8 97, .int .u8 98, .int .u8 99] 3 3 Tryd.underlying26 Tryd.underlying5
  clear hk hX hXl hXs hMM hMs hMl hD hDs hDl h24 h44 hle e6 hin
  go_enter Tryd.func10, Tryd.ntmps10
  go_wp2_with (first
    | (go_at_call 14; refine (hsum (some ⟨w.heap.size, 0, none⟩) [97, 98, 99] 3 _ (HK.out.below (below_new _ _)) (lit_reads_mark w (bs [97, 98, 99]) _ 5 3 _ rfl rfl) (by decide)).mono ?_; rintro e w1 ⟨rfl, hb1⟩; have HD1 := Lib.hid (bt (below_new _ _) hb1); rw [← HX.out]; clear hb1)
    | (refine wpList_store_row rfl 31 (.tmp 1) (.tmp 9) rfl w1.heap.size (bs X).toArray rfl rfl 31 _ (Blk.new w1 31 _) H24.out (by simp [bs, HXL.out]) (all_oneCell_toArray (bs_one _)) ?_
       generalize hw2 : World.setRow (World.alloc w1 _) _ _ = w2
       have HG2 : Hid (Blk w2 w1.heap.size 31 (bs X).toArray) := by rw [← hw2]; exact (Blk.new w1 31 _).setRow _
       have HD2 : Hid (Below w.heap.size w w2) := by rw [← hw2]; exact below_setRow (ba HD1.out _) HD1.out.size _
       clear hw2)
    | (go_at_call 27; refine (begin_ _).mono ?_; rintro e w3 ⟨cs3, rfl, hr3, hb3⟩; have HR3 := Lib.hid hr3; have HD3 := Lib.hid (bt HD2.out hb3); have HG3 := Lib.hid (blk_past hb3 HG2.out); clear hr3 hb3)
    | (go_at_call 28; ((with_reducible refine (add [] cs3 ⟨#[97]⟩ _ (HK.out.below HD3.out) HR3.out (by decide)).mono ?_); rintro e w4 ⟨cs4, rfl, hr4, hb4⟩); have HR4 := Lib.hid hr4; have HD4 := Lib.hid (bt HD3.out hb4); have HG4 := Lib.hid (blk_past hb4 HG3.out); clear hr4 hb4)
    | (go_at_call 28; ((with_reducible refine (add ([] ++ (⟨#[97]⟩ : ByteArray).data.toList) cs4 ⟨#[98, 99]⟩ _ (HK.out.below HD4.out) HR4.out (by decide)).mono ?_); rintro e w5 ⟨cs5, rfl, hr5, hb5⟩); have HR5 := Lib.hid hr5; have HD5 := Lib.hid (bt HD4.out hb5); have HG5 := Lib.hid (blk_past hb5 HG4.out); clear hr5 hb5)
    | (go_at_call 29; ((with_reducible refine (ssum _ cs5 _ (HK.out.below HD5.out) HR5.out (by decide)).mono ?_); rintro e w6 ⟨rfl, hb6⟩); rw [E6.out]; have HD6 := Lib.hid (bt HD5.out hb6); have HG6 := Lib.hid (blk_past hb6 HG5.out); clear hb6)
    | (refine wpList_store_row rfl 31 (.tmp 2) (.tmp 13) rfl w6.heap.size (bs X).toArray rfl rfl 31 _ (Blk.new w6 31 _) H24.out (by simp [bs, HXL.out]) (all_oneCell_toArray (bs_one _)) ?_
       generalize hw7 : World.setRow (World.alloc w6 _) _ _ = w7
       have HG7 : Hid (Blk w7 w1.heap.size 31 (bs X).toArray) := by rw [← hw7]; exact (HG6.out.alloc _).setRow_far (by have := HG6.out.lt; omega) _
       have HJ7 : Hid (Blk w7 w6.heap.size 31 (bs X).toArray) := by rw [← hw7]; exact (Blk.new w6 31 _).setRow _
       have HD7 : Hid (Below w.heap.size w w7) := by rw [← hw7]; exact below_setRow (ba HD6.out _) HD6.out.size _
       clear hw7)
    | (go_at_call 13; refine (of_ 8 (some ⟨w7.heap.size, 0, none⟩) [⟨#[97]⟩, ⟨#[]⟩] 2 _ (HK.out.below (ba HD7.out _)) (lit_reads' w7 (ss [⟨#[97]⟩, ⟨#[]⟩]) _ 9 2 rfl rfl) HIN.out (by decide)).mono ?_; rintro e w8 ⟨rfl, hb8⟩; have HD8 := Lib.hid (bt (ba HD7.out _) hb8); have HG8 := Lib.hid (blk_past hb8 (HG7.out.alloc _)); have HJ8 := Lib.hid (blk_past hb8 (HJ7.out.alloc _)); rw [← HD.out]; clear hb8)
    | (refine wpList_store_row rfl 29 (.tmp 3) (.tmp 15) rfl w8.heap.size (bs D).toArray rfl rfl 29 _ (Blk.new w8 29 _) H44.out (by simp [bs, HDL.out]) (all_oneCell_toArray (bs_one _)) ?_
       generalize hw9 : World.setRow (World.alloc w8 _) _ _ = w9
       have HG9 : Hid (Blk w9 w1.heap.size 31 (bs X).toArray) := by rw [← hw9]; exact (HG8.out.alloc _).setRow_far (by have := HG8.out.lt; omega) _
       have HJ9 : Hid (Blk w9 w6.heap.size 31 (bs X).toArray) := by rw [← hw9]; exact (HJ8.out.alloc _).setRow_far (by have := HJ8.out.lt; omega) _
       have HL9 : Hid (Blk w9 w8.heap.size 29 (bs D).toArray) := by rw [← hw9]; exact (Blk.new w8 29 _).setRow _
       have HD9 : Hid (Below w.heap.size w w9) := by rw [← hw9]; exact below_setRow (ba HD8.out _) HD8.out.size _
       clear hw9)
    | (go_at_call 30; refine (mac ⟨#[74, 101, 102, 101]⟩ ⟨#[119, 104, 97, 116, 32, 100, 111, 32, 121, 97, 32, 119, 97, 110, 116, 32, 102, 111, 114, 32, 110, 111, 116, 104, 105, 110, 103, 63]⟩ _ (HK.out.below HD9.out) (by decide) (by decide)).mono ?_; rintro e w10 ⟨rfl, hb10⟩; have HD10 := Lib.hid (bt HD9.out hb10); have HG10 := Lib.hid (blk_past hb10 HG9.out); have HJ10 := Lib.hid (blk_past hb10 HJ9.out); have HL10 := Lib.hid (blk_past hb10 HL9.out); rw [show macB (⟨#[74, 101, 102, 101]⟩ : ByteArray).data.toList (⟨#[119, 104, 97, 116, 32, 100, 111, 32, 121, 97, 32, 119, 97, 110, 116, 32, 102, 111, 114, 32, 110, 111, 116, 104, 105, 110, 103, 63]⟩ : ByteArray).data.toList = MM from HMM.out.symm]; clear hb10)
    | (go_at_call 31; ((with_reducible refine (equal_true ⟨#[97, 98]⟩ _ (by decide)).mono ?_); rintro e w11 ⟨rfl, hb11⟩); have HD11 := Lib.hid (bt HD10.out hb11); have HG11 := Lib.hid (blk_past hb11 HG10.out); have HJ11 := Lib.hid (blk_past hb11 HJ10.out); have HL11 := Lib.hid (blk_past hb11 HL10.out); clear hb11)
    | (go_at_call 31; ((with_reducible refine (equal_false ⟨#[97, 98]⟩ ⟨#[97, 99]⟩ _ (by decide) (by decide) (ne_of_data (by decide))).mono ?_); rintro e w12 ⟨rfl, hb12⟩); have HD12 := Lib.hid (bt HD11.out hb12); have HG12 := Lib.hid (blk_past hb12 HG11.out); have HJ12 := Lib.hid (blk_past hb12 HJ11.out); have HL12 := Lib.hid (blk_past hb12 HL11.out); clear hb12)
    | (go_at_call 31; ((with_reducible refine (equal_false ⟨#[]⟩ ⟨#[97]⟩ _ (by decide) (by decide) (ne_of_data (by decide))).mono ?_); rintro e w13 ⟨rfl, hb13⟩); have HD13 := Lib.hid (bt HD12.out hb13); have HG13 := Lib.hid (blk_past hb13 HG12.out); have HJ13 := Lib.hid (blk_past hb13 HJ12.out); have HL13 := Lib.hid (blk_past hb13 HL12.out); clear hb13)
    | (refine wpList_load_row rfl 31 (.tmp 1) rfl w1.heap.size rfl 31 (bs X).toArray (0, 0) _ HG13.out Tryd.underlying31 rfl H24.out ?_)
    | (go_at_call 33; refine (bytes32 X HXL.out _).mono ?_; rintro e w14 ⟨rfl, hb14⟩; have HD14 := Lib.hid (bt HD13.out hb14); have HG14 := Lib.hid (blk_past hb14 HG13.out); have HJ14 := Lib.hid (blk_past hb14 HJ13.out); have HL14 := Lib.hid (blk_past hb14 HL13.out); clear hb14)
    | (go_at_call 32; ((with_reducible refine (hex (str X) (by rw [str_size, HXL.out]; decide) _).mono ?_); rintro e w15 ⟨rfl, hb15⟩); rw [HXS.out]; have HD15 := Lib.hid (bt HD14.out hb15); have HG15 := Lib.hid (blk_past hb15 HG14.out); have HJ15 := Lib.hid (blk_past hb15 HJ14.out); have HL15 := Lib.hid (blk_past hb15 HL14.out); have hld1 := load24 HG15.out HXL.out; have hld2 := load24 HJ15.out HXL.out; have heq15 := eq24 X X HXL.out HXL.out w15; rw [decide_eq_true rfl] at heq15; clear hb15)
    | (go_at_call 32; ((with_reducible refine (hex (str MM) (by rw [str_size, HML.out]; decide) _).mono ?_); rintro e w16 ⟨rfl, hb16⟩); rw [HMS.out]; have HD16 := Lib.hid (bt HD15.out hb16); have HL16 := Lib.hid (blk_past hb16 HL15.out); have hld3 := load44 HL16.out HDL.out; clear hb16)
    | (go_at_call 34; refine (text16 D HDL.out _).mono ?_; rintro e w17 ⟨rfl, hb17⟩; have HD17 := Lib.hid (bt HD16.out hb17); clear hb17)
    | (go_at_call 32; ((with_reducible refine (hex (str D) (by rw [str_size, HDL.out]; decide) _).mono ?_); rintro e w18 ⟨rfl, hb18⟩); rw [HDS.out]; have HD18 := Lib.hid (bt HD17.out hb18); clear hb18))
  go_ret
  exact ⟨rfl, HD18.out⟩
end Go.Proofs.YtaoegpmjogladaaDoor
