/-
  THE SANITY CHECK answers true, and turns nothing that was there.
-/
import Derived.Test.YtlemelfepalnfaaSan
import Derived.Outline
namespace Go.Proofs.Ytlemelfepalnfaa
open Go.RowKit WM

theorem san_digests2 (w : World) (o : Obj) : Calls Try.prog 22 #[.slice (some ⟨w.heap.size + 1, 0, none⟩) 1 1] ((w.alloc o).alloc (.cells #[.int .u8 1, .int .u8 2, .int .u8 0, .int .u8 0, .int .u8 0, .int .u8 0, .int .u8 0, .int .u8 0, .int .u8 0, .int .u8 0, .int .u8 0, .int .u8 0, .int .u8 0, .int .u8 0, .int .u8 0, .int .u8 0] 57)) fun e w' =>
    ∃ A c, e = .returned (.slice A 18 c) ∧ Reads w' w'.heap.size 1 A 18 (bs (129 :: 1 :: dex)) ∧ 18 ≤ c ∧ Below w.heap.size w w' ∧ w'.heap[w.heap.size]? = some o := by
  have h := san_digests (w.alloc o)
  rw [World.size_alloc] at h
  exact h.mono fun _ _ ⟨A, c, he, ho, hc, hb⟩ => ⟨A, c, he, ho, hc, below_then (below_new w o) (by rw [World.size_alloc]; exact hb), by rw [hb.block _ (by omega)]; exact heap_alloc_new w o⟩

theorem cells16 {w : World} {g : Nat} (h : w.heap[g]? = some (.cells #[.int .u8 1, .int .u8 2, .int .u8 0, .int .u8 0, .int .u8 0, .int .u8 0, .int .u8 0, .int .u8 0, .int .u8 0, .int .u8 0, .int .u8 0, .int .u8 0, .int .u8 0, .int .u8 0, .int .u8 0, .int .u8 0] 57 (0, 0))) :
    w.cell? ⟨g, 0, none⟩ = some (.int .u8 1) ∧ w.cell? ⟨g, 1, none⟩ = some (.int .u8 2) ∧ w.cell? ⟨g, 2, none⟩ = some (.int .u8 0) ∧ w.cell? ⟨g, 3, none⟩ = some (.int .u8 0) ∧ w.cell? ⟨g, 4, none⟩ = some (.int .u8 0) ∧ w.cell? ⟨g, 5, none⟩ = some (.int .u8 0) ∧ w.cell? ⟨g, 6, none⟩ = some (.int .u8 0) ∧ w.cell? ⟨g, 7, none⟩ = some (.int .u8 0) ∧ w.cell? ⟨g, 8, none⟩ = some (.int .u8 0) ∧ w.cell? ⟨g, 9, none⟩ = some (.int .u8 0) ∧ w.cell? ⟨g, 10, none⟩ = some (.int .u8 0) ∧ w.cell? ⟨g, 11, none⟩ = some (.int .u8 0) ∧ w.cell? ⟨g, 12, none⟩ = some (.int .u8 0) ∧ w.cell? ⟨g, 13, none⟩ = some (.int .u8 0) ∧ w.cell? ⟨g, 14, none⟩ = some (.int .u8 0) ∧ w.cell? ⟨g, 15, none⟩ = some (.int .u8 0) := by
  refine ⟨?_, ?_, ?_, ?_, ?_, ?_, ?_, ?_, ?_, ?_, ?_, ?_, ?_, ?_, ?_, ?_⟩ <;> (rw [cell_of_row _ _ _ _ _ _ h]; rfl)

set_option maxRecDepth 1000000 in
set_option maxHeartbeats 16000000 in
theorem sanity (w : World) : Calls Try.prog 12 #[] w fun e w' => e = .returned (.bool true) ∧ Below w.heap.size w w' := by
  go_enter Try.func12, Try.ntmps12
  go_wp2_with fail
  refine (san_getInt _ [130, 1, 0, 9] _ 4 (.tuple #[.int .i64 256, .int .i64 3, .int .i64 0]) rfl rfl rfl (by omega)).mono ?_
  rintro e w1 ⟨rfl, hb1⟩
  have HB1 := Lib.hid hb1
  clear hb1
  go_wp2_with fail
  refine (san_getInt _ [130, 1] _ 2 (.tuple #[.int .i64 0, .int .i64 0, .int .i64 3]) rfl rfl rfl (by omega)).mono ?_
  rintro e w2 ⟨rfl, hb2⟩
  have HB2 := Lib.hid (below_then HB1.out hb2)
  clear hb2 HB1
  go_wp2_with fail
  refine (san_getInt _ [129, 0] _ 2 (.tuple #[.int .i64 0, .int .i64 0, .int .i64 2]) rfl rfl rfl (by omega)).mono ?_
  rintro e w3 ⟨rfl, hb3⟩
  have HB3 := Lib.hid (below_then HB2.out hb3)
  clear hb3 HB2
  go_wp2_with fail
  refine (san_getBytes _ [129, 2, 97, 98, 7] _ 5 (.tuple #[.string ⟨#[97, 98]⟩, .int .i64 4, .int .i64 0]) rfl rfl rfl (by omega)).mono ?_
  rintro e w4 ⟨rfl, hb4⟩
  have HB4 := Lib.hid (below_then HB3.out hb4)
  clear hb4 HB3
  go_wp2_with fail
  refine (san_getInts _).mono ?_
  rintro e w5 ⟨Al, cl, rfl, hl, hb5⟩
  have HL := Lib.hid hl
  have HB5 := Lib.hid (below_then HB4.out hb5)
  clear hb5 hl HB4
  go_wp2_with fail
  refine (san_digests2 _ _).mono ?_
  rintro e w6 ⟨Ad, cd, rfl, hd, hcd, hb6, hblk⟩
  have HL_6 := Lib.hid (HL.out.later hb6)
  have HE := Lib.hid hd
  have HK := Lib.hid hblk
  have HB6 := Lib.hid (below_then HB5.out hb6)
  clear hb6 HL hd hblk HB5
  go_wp2_with fail
  refine (san_getDigests _ Ad cd HE.out hcd).mono ?_
  rintro e w7 ⟨Ag, cg, rfl, hg, hb7⟩
  have HL_6_7 := Lib.hid (HL_6.out.later hb7)
  have HK_7 := Lib.hid ((hb7.block _ (lt_of_block HK.out)).trans HK.out)
  have HG := Lib.hid hg
  have HB7 := Lib.hid (below_then HB6.out hb7)
  clear hb7 HL_6 HE HK hg HB6
  go_wp2_with fail
  refine (san_getStrings _).mono ?_
  rintro e w8 ⟨At, ct, rfl, ht, hb8⟩
  have HL_6_7_8 := Lib.hid (HL_6_7.out.later hb8)
  have HK_7_8 := Lib.hid ((hb8.block _ (lt_of_block HK_7.out)).trans HK_7.out)
  have HG_8 := Lib.hid (HG.out.later hb8)
  have HT := Lib.hid ht
  have HB8 := Lib.hid (below_then HB7.out hb8)
  clear hb8 HL_6_7 HK_7 HG ht HB7
  go_wp2_with fail
  refine (san_sameTexts _ At ct HT.out).mono ?_
  rintro e w9 ⟨rfl, hb9⟩
  have HL_6_7_8_9 := Lib.hid (HL_6_7_8.out.later hb9)
  have HK_7_8_9 := Lib.hid ((hb9.block _ (lt_of_block HK_7_8.out)).trans HK_7_8.out)
  have HG_8_9 := Lib.hid (HG_8.out.later hb9)
  have HB9 := Lib.hid (below_then HB8.out hb9)
  clear hb9 HL_6_7_8 HK_7_8 HG_8 HT HB8
  go_wp2_with fail
  refine (san_strings _).mono ?_
  rintro e w10 ⟨As, cs, rfl, hs, hb10⟩
  have HL_6_7_8_9_10 := Lib.hid (HL_6_7_8_9.out.later hb10)
  have HK_7_8_9_10 := Lib.hid ((hb10.block _ (lt_of_block HK_7_8_9.out)).trans HK_7_8_9.out)
  have HG_8_9_10 := Lib.hid (HG_8_9.out.later hb10)
  have HS := Lib.hid hs
  have HB10 := Lib.hid (below_then HB9.out hb10)
  clear hb10 HL_6_7_8_9 HK_7_8_9 HG_8_9 hs HB9
  go_wp2_with fail
  refine (san_same _ As 6 cs [129, 2, 128, 129, 1, 97] _ HS.out rfl rfl (by omega)).mono ?_
  rintro e w11 ⟨rfl, hb11⟩
  have HL_6_7_8_9_10_11 := Lib.hid (HL_6_7_8_9_10.out.later hb11)
  have HK_7_8_9_10_11 := Lib.hid ((hb11.block _ (lt_of_block HK_7_8_9_10.out)).trans HK_7_8_9_10.out)
  have HG_8_9_10_11 := Lib.hid (HG_8_9_10.out.later hb11)
  have HB11 := Lib.hid (below_then HB10.out hb11)
  clear hb11 HL_6_7_8_9_10 HK_7_8_9_10 HG_8_9_10 HS HB10
  go_wp2_with fail
  refine (san_encInt _).mono ?_
  rintro e w12 ⟨Ai, ci, rfl, hi, hb12⟩
  have HL_6_7_8_9_10_11_12 := Lib.hid (HL_6_7_8_9_10_11.out.later hb12)
  have HK_7_8_9_10_11_12 := Lib.hid ((hb12.block _ (lt_of_block HK_7_8_9_10_11.out)).trans HK_7_8_9_10_11.out)
  have HG_8_9_10_11_12 := Lib.hid (HG_8_9_10_11.out.later hb12)
  have HI := Lib.hid hi
  have HB12 := Lib.hid (below_then HB11.out hb12)
  clear hb12 HL_6_7_8_9_10_11 HK_7_8_9_10_11 HG_8_9_10_11 hi HB11
  go_wp2_with fail
  refine (san_same _ Ai 3 ci [125, 254, 255] _ HI.out rfl rfl (by omega)).mono ?_
  rintro e w13 ⟨rfl, hb13⟩
  have HL_6_7_8_9_10_11_12_13 := Lib.hid (HL_6_7_8_9_10_11_12.out.later hb13)
  have HK_7_8_9_10_11_12_13 := Lib.hid ((hb13.block _ (lt_of_block HK_7_8_9_10_11_12.out)).trans HK_7_8_9_10_11_12.out)
  have HG_8_9_10_11_12_13 := Lib.hid (HG_8_9_10_11_12.out.later hb13)
  have HB13 := Lib.hid (below_then HB12.out hb13)
  clear hb13 HL_6_7_8_9_10_11_12 HK_7_8_9_10_11_12 HG_8_9_10_11_12 HI HB12
  go_wp2_with fail
  refine (san_sameInts _ Al cl HL_6_7_8_9_10_11_12_13.out).mono ?_
  rintro e w14 ⟨rfl, hb14⟩
  have HK_7_8_9_10_11_12_13_14 := Lib.hid ((hb14.block _ (lt_of_block HK_7_8_9_10_11_12_13.out)).trans HK_7_8_9_10_11_12_13.out)
  have HG_8_9_10_11_12_13_14 := Lib.hid (HG_8_9_10_11_12_13.out.later hb14)
  have HB14 := Lib.hid (below_then HB13.out hb14)
  clear hb14 HL_6_7_8_9_10_11_12_13 HK_7_8_9_10_11_12_13 HG_8_9_10_11_12_13 HB13
  go_wp2_with fail
  refine (san_encBytes _).mono ?_
  rintro e w15 ⟨Ab, cb, rfl, hbb, hb15⟩
  have HK_7_8_9_10_11_12_13_14_15 := Lib.hid ((hb15.block _ (lt_of_block HK_7_8_9_10_11_12_13_14.out)).trans HK_7_8_9_10_11_12_13_14.out)
  have HG_8_9_10_11_12_13_14_15 := Lib.hid (HG_8_9_10_11_12_13_14.out.later hb15)
  have HBB := Lib.hid hbb
  have HB15 := Lib.hid (below_then HB14.out hb15)
  clear hb15 HK_7_8_9_10_11_12_13_14 HG_8_9_10_11_12_13_14 hbb HB14
  go_wp2_with fail
  refine (san_same _ Ab 4 cb [129, 2, 97, 98] _ HBB.out rfl rfl (by omega)).mono ?_
  rintro e w16 ⟨rfl, hb16⟩
  have HK_7_8_9_10_11_12_13_14_15_16 := Lib.hid ((hb16.block _ (lt_of_block HK_7_8_9_10_11_12_13_14_15.out)).trans HK_7_8_9_10_11_12_13_14_15.out)
  have HG_8_9_10_11_12_13_14_15_16 := Lib.hid (HG_8_9_10_11_12_13_14_15.out.later hb16)
  have HB16 := Lib.hid (below_then HB15.out hb16)
  clear hb16 HK_7_8_9_10_11_12_13_14_15 HG_8_9_10_11_12_13_14_15 HBB HB15
  go_wp2_with fail
  refine (san_ints _).mono ?_
  rintro e w17 ⟨An, cn, rfl, hn, hb17⟩
  have HK_7_8_9_10_11_12_13_14_15_16_17 := Lib.hid ((hb17.block _ (lt_of_block HK_7_8_9_10_11_12_13_14_15_16.out)).trans HK_7_8_9_10_11_12_13_14_15_16.out)
  have HG_8_9_10_11_12_13_14_15_16_17 := Lib.hid (HG_8_9_10_11_12_13_14_15_16.out.later hb17)
  have HN := Lib.hid hn
  have HB17 := Lib.hid (below_then HB16.out hb17)
  clear hb17 HK_7_8_9_10_11_12_13_14_15_16 HG_8_9_10_11_12_13_14_15_16 hn HB16
  go_wp2_with fail
  refine (san_same _ An 5 cn [129, 2, 129, 1, 127] _ HN.out rfl rfl (by omega)).mono ?_
  rintro e w18 ⟨rfl, hb18⟩
  have HK_7_8_9_10_11_12_13_14_15_16_17_18 := Lib.hid ((hb18.block _ (lt_of_block HK_7_8_9_10_11_12_13_14_15_16_17.out)).trans HK_7_8_9_10_11_12_13_14_15_16_17.out)
  have HG_8_9_10_11_12_13_14_15_16_17_18 := Lib.hid (HG_8_9_10_11_12_13_14_15_16_17.out.later hb18)
  have HB18 := Lib.hid (below_then HB17.out hb18)
  clear hb18 HK_7_8_9_10_11_12_13_14_15_16_17 HG_8_9_10_11_12_13_14_15_16_17 HN HB17
  obtain ⟨k0, k1, k2, k3, k4, k5, k6, k7, k8, k9, ka, kb, kc, kd, ke, kf⟩ := cells16 HK_7_8_9_10_11_12_13_14_15_16_17_18.out
  go_wp2_with fail
  refine (san_sameDigests _ Ag cg HG_8_9_10_11_12_13_14_15_16_17_18.out).mono ?_
  rintro e w19 ⟨rfl, hb19⟩
  have HB19 := Lib.hid (below_then HB18.out hb19)
  clear hb19 HK_7_8_9_10_11_12_13_14_15_16_17_18 HG_8_9_10_11_12_13_14_15_16_17_18 HB18
  clear k0 k1 k2 k3 k4 k5 k6 k7 k8 k9 ka kb kc kd ke kf
  go_wp2_with fail
  go_ret
  exact ⟨rfl, HB19.out⟩
end Go.Proofs.Ytlemelfepalnfaa
