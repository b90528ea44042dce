/-
  scoriaref02.padKey and scoriaref02.Mac.
-/
import Derived.Test.YtgabmipakocheaaDoorWSum
import Derived.Test.YtgabmipakocheaaDoorArgs
namespace Go.Proofs.YtgabmipakocheaaDoor
open Go.RowKit

theorem kpad_lo {k : List UInt8} {i : Nat} (h : i < k.length) : (kpad k)[i]? = some k[i] := by
  unfold kpad
  rw [List.getElem?_append_left h, List.getElem?_eq_getElem h]
theorem kpad_hi {k : List UInt8} {i : Nat} (h : ¬ i < k.length) (hi : i < 64) : (kpad k)[i]? = some 0 := by
  unfold kpad
  rw [List.getElem?_append_right (by omega), List.getElem?_replicate, if_pos (by omega)]
theorem xorl_take {c b : UInt8} {l : List UInt8} {i : Nat} (h : l[i]? = some b) : (xorl c l).take (i + 1) = (xorl c l).take i ++ [b ^^^ c] := by
  unfold xorl
  rw [List.take_add_one, List.getElem?_map, h]; rfl

set_option maxRecDepth 100000 in
set_option maxHeartbeats 1600000 in
theorem padKey (key : ByteArray) (c : UInt8) (z : Int) (hz : z = (c.toNat : Int)) (w : World) (hk : KT 0 w) (hkl : key.size ≤ 137438953472) :
    Calls Tryd.prog 31 #[.string key, .int .u8 z] w fun e w' => ∃ v, e = .returned v ∧ w'.ownsRow w.heap.size 5 1 v (xorl c (kpad (keyOf key.data.toList))).length (bs (xorl c (kpad (keyOf key.data.toList)))) ∧ Below w.heap.size w w' := by
  have HK := Lib.hid hk
  have HZ := Lib.hid hz
  clear hk hz
  obtain ⟨i0, hi, hz0, hz1, hz2⟩ := info_parts Tryd.info5
  obtain ⟨kk, hkk⟩ : ∃ kk, kk = keyOf key.data.toList := ⟨_, rfl⟩
  have hk64 : kk.length ≤ 64 := by rw [hkk]; exact keyOf_le _
  rw [← hkk]
  have HKK := Lib.hid hkk
  obtain ⟨xp, hxp⟩ : ∃ xp, xp = xorl c (kpad kk) := ⟨_, rfl⟩
  have hxl : xp.length = 64 := by rw [hxp]; unfold xorl; rw [List.length_map]; exact kpad_length hk64
  rw [← hxp]
  have HXP := Lib.hid hxp
  have HXLP := Lib.hid hxl
  clear hkk hxp hxl
  go_enter Tryd.func31, Tryd.ntmps31
  go_upto_if 12 with fail
  go_cut [5] (fun s5 wx => ∃ ks : ByteArray, s5 = .string ks ∧ Hid (ks.data.toList = kk ∧ Below w.heap.size w wx))
  case first =>
    by_cases hlong : 64 < key.size
    · have hkey : kk = sha key.data.toList := by
        rw [HKK.out, keyOf, if_pos]
        rw [size_list]; exact hlong
      have HKEY := Lib.hid hkey
      have HKSZ : Hid (key.data.toList.length ≤ 1099511627776) := by
        show key.data.toList.length ≤ 1099511627776
        rw [size_list]; omega
      have hxl : kk.length = 32 := by rw [hkey]; rfl
      have HXL := Lib.hid hxl
      clear hkey hxl
      go_wp2_with (first
        | (with_reducible refine wpList_bytes_of rfl (.tmp 13) rfl key rfl ?_; intro A2 c2 w2 hr2 hb2; have HR2 := Lib.hid hr2; have HB2 := Lib.hid hb2; clear hr2 hb2)
        | (go_at_call 12; refine (rsum_of A2 key c2 _ (HK.out.below HB2.out) HR2.out HKSZ.out kk HKEY.out.symm).mono ?_; rintro e w3 ⟨rfl, hb3⟩; have HB3 := Lib.hid (bt HB2.out hb3); clear hb3)
        | (go_at_call 20; refine (bytes32 kk HXL.out _).mono ?_; rintro e w4 ⟨rfl, hb4⟩; have HB4 := Lib.hid (bt HB3.out hb4); clear hb4))
      go_meet
      exact ⟨_, rfl, rfl, HB4.out⟩
    · have hlf : ¬ 64 < (key.size : Int) := by omega
      have hkey : kk = key.data.toList := by
        rw [HKK.out, keyOf, if_neg]
        rw [size_list]; exact hlong
      have HKEY := Lib.hid hkey
      clear hkey
      go_wp2_with fail
      go_meet
      exact ⟨_, rfl, HKEY.out.symm, Below.refl _ _⟩
  case rest =>
    obtain ⟨ks, rfl, hh⟩ := hcut
    have hks : ks.size = kk.length := by rw [← size_list, hh.out.1]
    have HKS := Lib.hid hks
    have hks64 : ks.size ≤ 64 := by omega
    clear hks
    have HH := Lib.hid hh
    clear hh
    go_wp2
    go_loopw [6, 7] (fun a v wr => ∃ i : Nat, i ≤ 64 ∧ v = .int .i64 i ∧ Hid (wr.ownsRow w.heap.size 5 1 a (xp.take i).length (bs (xp.take i)) ∧ Below w.heap.size w wr)) (fun _ v _ => 64 - (intOf v).toNat)
    case atStart => exact ⟨0, by omega, rfl, World.ownsRow_nil _ _ _ _, HH.out.out.2⟩
    case round =>
      obtain ⟨i, hi64, rfl, hh⟩ := hrel
      have hs4 := hh.out.2.size
      by_cases hlt : i < 64
      · have hpl : (xp.take i).length ≤ 64 := by rw [List.length_take]; omega
        by_cases hin : i < ks.size
        · have hks2 : ks[i] = kk[i]'(by rw [← HKS.out]; exact hin) := by
            have := HH.out.out.1
            subst this
            rfl
          have HS : Hid (xp.take (i + 1) = xp.take i ++ [ks[i] ^^^ c]) := by
            rw [HXP.out, hks2]; exact xorl_take (kpad_lo _)
          clear hks2
          go_wp2_with (at_builtin; refine wpList_append_own _ rfl (.tmp 28) (.tmp 32) 22 rfl w.heap.size 5 i0 (.int .u8 0) 1 1 Tryd.underlying22 hi hz0 hz1 hz2 rfl (by decide) _ _ _ rfl (hh.out.1.alloc _) ⟨wr.heap.size, 0, none⟩ 1 1 [.int .u8 _] rfl rfl (one_new _ _ _) (int_one _ _) (len_le (by omega)) (by omega) (by simp; omega) ?_; intro v4 w4 hown4 hgrow4 _; have HO4 := Lib.hid hown4; have HG4 := Lib.hid hgrow4; clear hown4 hgrow4)
          go_roundw
          case rel =>
            refine ⟨i + 1, by omega, by go_num, by rw [HS.out]; exact own_push HO4.out (by rw [HZ.out]; exact xor_byte _ _), (hh.out.2.alloc (by omega) _).grown HG4.out (by simp; omega) (fun k hk => by have := (hh.out.1.lt k hk).1; omega)⟩
          case measure => simp [intOf]; omega
        · have hin2 : (ks.size : Int) ≤ (i : Int) := by omega
          have HS : Hid (xp.take (i + 1) = xp.take i ++ [0 ^^^ c]) := by
            rw [HXP.out]; exact xorl_take (kpad_hi (by rw [← HKS.out]; exact hin) hlt)
          go_wp2_with (at_builtin; refine wpList_append_own _ rfl (.tmp 28) (.tmp 32) 22 rfl w.heap.size 5 i0 (.int .u8 0) 1 1 Tryd.underlying22 hi hz0 hz1 hz2 rfl (by decide) _ _ _ rfl (hh.out.1.alloc _) ⟨wr.heap.size, 0, none⟩ 1 1 [.int .u8 _] rfl rfl (one_new _ _ _) (int_one _ _) (len_le (by omega)) (by omega) (by simp; omega) ?_; intro v4 w4 hown4 hgrow4 _; have HO4 := Lib.hid hown4; have HG4 := Lib.hid hgrow4; clear hown4 hgrow4)
          go_roundw
          case rel =>
            refine ⟨i + 1, by omega, by go_num, by rw [HS.out]; exact own_push HO4.out (by rw [HZ.out]; exact xor_byte 0 _), (hh.out.2.alloc (by omega) _).grown HG4.out (by simp; omega) (fun k hk => by have := (hh.out.1.lt k hk).1; omega)⟩
          case measure => simp [intOf]; omega
      · have hie : i = 64 := by omega
        have HI := Lib.hid hie
        have hge : 64 ≤ i := by omega
        clear hlt hi64 hie
        have hown : wr.ownsRow w.heap.size 5 1 u6 xp.length (bs xp) := by
          have := hh.out.1
          rwa [HI.out, List.take_of_length_le (by rw [HXLP.out]; exact Nat.le_refl _)] at this
        have HOWN := Lib.hid hown
        clear hown
        go_wp2
        go_ret
        exact ⟨_, rfl, HOWN.out, hh.out.2⟩
end Go.Proofs.YtgabmipakocheaaDoor
