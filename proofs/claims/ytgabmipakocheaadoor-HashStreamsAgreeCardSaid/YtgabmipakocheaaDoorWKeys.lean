/-
  THE WALK of HashMacKeys.
-/
import Derived.Test.YtgabmipakocheaaDoorWEq
namespace Go.Proofs.YtgabmipakocheaaDoor
open Go.RowKit WM

theorem macB_long (key t : List UInt8) (h : 64 < key.length) : macB (sha key) t = macB key t := by
  have e1 : keyOf key = sha key := by unfold keyOf; rw [if_pos h]
  have e2 : keyOf (sha key) = sha key := by unfold keyOf; rw [if_neg (by rw [sha_length]; omega)]
  unfold macB
  rw [e1, e2]
theorem macB_short (key t : List UInt8) (h : key.length < 64) : macB (key ++ [0]) t = macB key t := by
  have e1 : keyOf key = key := by unfold keyOf; rw [if_neg (by omega)]
  have e2 : keyOf (key ++ [0]) = key ++ [0] := by unfold keyOf; rw [if_neg (by simp; omega)]
  have e3 : kpad (key ++ [0]) = kpad key := by
    unfold kpad
    rw [List.append_assoc, show 64 - key.length = (64 - (key ++ [(0 : UInt8)]).length) + 1 by simp; omega, List.replicate_succ]
    rfl
  unfold macB
  rw [e1, e2, e3]
theorem macB_length (key t : List UInt8) : (macB key t).length = 32 := rfl
theorem mac_is (key text : ByteArray) (w : World) (hk : KT 1 w) (hkl : key.size ≤ 137438953472) (htl : text.size ≤ 137438953472) (S : ByteArray) (h : str (macB key.data.toList text.data.toList) = S) :
    Calls Tryd.prog 18 #[.string key, .string text] w fun e w' => e = .returned (.string S) ∧ Below w.heap.size w w' :=
  (mac key text w hk hkl htl).mono fun _ _ ⟨he, hb⟩ => ⟨by rw [he, h], hb⟩

set_option maxRecDepth 100000 in
set_option maxHeartbeats 1600000 in
theorem walkKeys (a0 a1 : ByteArray) (w : World) (hk : KT 1 w) :
    Calls Tryd.prog 6 #[.string a0, .string a1] w fun e w' => e = .returned (.bool true) ∧ Below w.heap.size w w' := by
  have HK := Lib.hid hk
  clear hk
  by_cases ha : 400 < a0.size
  · go_enter Tryd.func6, Tryd.ntmps6
    go_wp2_with (go_at_call 10; refine (sanity _ HK.out).mono ?_; rintro e w1 ⟨rfl, hb1⟩; have HB1 := Lib.hid hb1; clear hb1)
    go_ret
    exact ⟨rfl, HB1.out⟩
  · by_cases hb : 400 < a1.size
    · go_enter Tryd.func6, Tryd.ntmps6
      go_wp2_with (go_at_call 10; refine (sanity _ HK.out).mono ?_; rintro e w1 ⟨rfl, hb1⟩; have HB1 := Lib.hid hb1; clear hb1)
      go_ret
      exact ⟨rfl, HB1.out⟩
    · obtain ⟨S, hS⟩ : ∃ S, S = str (macB a0.data.toList a1.data.toList) := ⟨_, rfl⟩
      have hS32 : S.size = 32 := by rw [hS, str_size, macB_length]
      have HS := Lib.hid hS
      have hl := size_list a0
      clear hS
      by_cases h64 : 64 < a0.size
      · have e1 : str (macB (str (sha a0.data.toList)).data.toList a1.data.toList) = S := by rw [str_list, macB_long _ _ (by omega), HS.out]
        have HE := Lib.hid e1
        have hz : (str (sha a0.data.toList)).size = 32 := by rw [str_size, sha_length]
        have HZ := Lib.hid hz
        clear e1 hz
        go_enter Tryd.func6, Tryd.ntmps6
        go_wp2_with (first
          | (go_at_call 10; refine (sanity _ HK.out).mono ?_; rintro e w1 ⟨rfl, hb1⟩; have HB1 := Lib.hid hb1; clear hb1)
          | (go_at_call 18; ((with_reducible refine (mac_is a0 a1 _ (HK.out.below HB1.out) (by omega) (by omega) S HS.out.symm).mono ?_); rintro e w2 ⟨rfl, hb2⟩); have HB2 := Lib.hid (bt HB1.out hb2); clear hb2)
          | (with_reducible refine wpList_bytes_of rfl (.tmp 24) rfl a0 rfl ?_; intro A3 c3 w3 hr3 hb3; have HR3 := Lib.hid hr3; have HB3 := Lib.hid (bt HB2.out hb3); clear hr3 hb3)
          | (go_at_call 11; refine (hsum_of A3 a0 c3 _ (HK.out.below HB3.out) HR3.out (by omega)).mono ?_; rintro e w4 ⟨rfl, hb4⟩; have HB4 := Lib.hid (bt HB3.out hb4); clear hb4)
          | (go_at_call 20; refine (bytes32 (sha a0.data.toList) (sha_length _) _).mono ?_; rintro e w5 ⟨rfl, hb5⟩; have HB5 := Lib.hid (bt HB4.out hb5); clear hb5)
          | (go_at_call 18; ((with_reducible refine (mac_is (str (sha a0.data.toList)) a1 _ (HK.out.below HB5.out) (by rw [HZ.out]; decide) (by omega) S HE.out).mono ?_); rintro e w6 ⟨rfl, hb6⟩); have HB6 := Lib.hid (bt HB5.out hb6); clear hb6))
        go_ret
        exact ⟨rfl, HB6.out⟩
      · by_cases h63 : a0.size < 64
        · have e1 : str (macB (a0 ++ (⟨#[0]⟩ : ByteArray)).data.toList a1.data.toList) = S := by
            have e0 : (a0 ++ (⟨#[0]⟩ : ByteArray)).data.toList = a0.data.toList ++ [0] := by simp
            rw [HS.out, e0, macB_short _ _ (by omega)]
          have HE := Lib.hid e1
          have hz : (a0 ++ (⟨#[0]⟩ : ByteArray)).size ≤ 137438953472 := by rw [ByteArray.size_append]; show a0.size + 1 ≤ _; omega
          have HZ := Lib.hid hz
          clear e1 hz
          go_enter Tryd.func6, Tryd.ntmps6
          go_wp2_with (first
            | (go_at_call 10; refine (sanity _ HK.out).mono ?_; rintro e w1 ⟨rfl, hb1⟩; have HB1 := Lib.hid hb1; clear hb1)
            | (go_at_call 18; ((with_reducible refine (mac_is a0 a1 _ (HK.out.below HB1.out) (by omega) (by omega) S HS.out.symm).mono ?_); rintro e w2 ⟨rfl, hb2⟩); have HB2 := Lib.hid (bt HB1.out hb2); clear hb2)
            | (go_at_call 18; ((with_reducible refine (mac_is (a0 ++ (⟨#[0]⟩ : ByteArray)) a1 _ (HK.out.below HB2.out) HZ.out (by omega) S HE.out).mono ?_); rintro e w6 ⟨rfl, hb6⟩); have HB6 := Lib.hid (bt HB2.out hb6); clear hb6))
          go_ret
          exact ⟨rfl, HB6.out⟩
        · go_enter Tryd.func6, Tryd.ntmps6
          go_wp2_with (first
            | (go_at_call 10; refine (sanity _ HK.out).mono ?_; rintro e w1 ⟨rfl, hb1⟩; have HB1 := Lib.hid hb1; clear hb1)
            | (go_at_call 18; ((with_reducible refine (mac_is a0 a1 _ (HK.out.below HB1.out) (by omega) (by omega) S HS.out.symm).mono ?_); rintro e w2 ⟨rfl, hb2⟩); have HB2 := Lib.hid (bt HB1.out hb2); clear hb2))
          go_ret
          exact ⟨by simp, HB2.out⟩
end Go.Proofs.YtgabmipakocheaaDoor
