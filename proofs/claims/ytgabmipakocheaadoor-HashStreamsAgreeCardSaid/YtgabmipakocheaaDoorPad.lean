/-
  scoriaref02.padded.
-/
import Derived.Test.YtgabmipakocheaaDoorRow
import Derived.Test.YtgabmipakocheaaDoorPadLem
namespace Go.Proofs.YtgabmipakocheaaDoor
open Go.RowKit

set_option maxHeartbeats 1000000 in
theorem padded (A : Option Addr) (m : List UInt8) (c : Nat) (w : World) (ha : Reads w w.heap.size 1 A m.length (bs m)) (hm : m.length ≤ 1099511627776) :
    Calls Tryd.prog 27 #[.slice A m.length c] w fun e w' => ∃ v, e = .returned v ∧ w'.ownsRow w.heap.size 5 1 v (pad m).length (bs (pad m)) ∧ Below w.heap.size w w' := by
  obtain ⟨i0, hi, hz0, hz1, hz2⟩ := info_parts Tryd.info5
  have HA := Lib.hid ha
  clear ha
  have h0 : (w.alloc (.cells #[] 5)).ownsRow w.heap.size 5 1 (.slice (some ⟨w.heap.size, 0, none⟩) 0 0) 0 [] := World.ownsRow_lit w #[] 0 (Nat.le_refl _) (len_le (by omega)) rfl
  have H0 := Lib.hid h0
  clear h0
  go_enter Tryd.func27, Tryd.ntmps27
  go_wp2_with (first
    | (at_builtin; refine wpList_append_any _ rfl (.tmp 6) (.tmp 7) _ rfl w.heap.size 5 i0 (.int .u8 0) 1 1 Tryd.underlying22 hi hz0 hz1 hz2 rfl (by omega) _ _ _ rfl H0.out w.heap.size A m.length c (bs m) rfl (HA.out.below (below_new w _)) (bs_one _) (len_le (by omega)) (by omega) (by simp) ?_; intro v1 w1 hown1 hgrow1 _; have HO1 := Lib.hid (own_nil hown1); have HB1 := Lib.hid ((below_new w _).grown hgrow1 (by simp) (fun k hk => (H0.out.lt k hk).1)); clear hown1 hgrow1)
    | (at_builtin; refine wpList_append_own _ rfl (.tmp 9) (.tmp 10) 22 rfl w.heap.size 5 i0 (.int .u8 0) 1 1 Tryd.underlying22 hi hz0 hz1 hz2 rfl (by decide) _ _ _ rfl (HO1.out.alloc _) ⟨w1.heap.size, 0, none⟩ 1 1 [.int .u8 128] rfl rfl (one_new _ _ _) (int_one _ _) (len_le (by omega)) (by omega) (by have := HB1.out.size; simp; omega) ?_; intro v2 w2 hown2 hgrow2 _; have HO2 := Lib.hid hown2; have HB2 := Lib.hid ((HB1.out.alloc HB1.out.size _).grown hgrow2 (by have := HB1.out.size; simp; omega) (fun k hk => (HO1.out.lt k hk).1)); clear hown2 hgrow2))
  have e2 : w2.ownsRow w.heap.size 5 1 v2 (padTo m 0).length (bs (padTo m 0)) := own_next (p := m) (q := [128]) HO2.out (by simp [padTo])
  have HE2 := Lib.hid e2
  clear e2 HO1 HB1 HO2
  go_loopw [3] (fun a wr => ∃ j : Nat, j ≤ zeros m.length ∧ Hid (wr.ownsRow w.heap.size 5 1 a (padTo m j).length (bs (padTo m j))) ∧ Hid (Below w.heap.size w wr)) (fun a _ => m.length + 1 + zeros m.length - lenOf a)
  case atStart => exact ⟨0, Nat.zero_le _, HE2, HB2⟩
  case round =>
    clear HE2 HB2
    rename_i v0
    obtain ⟨j, hj, HO, HB⟩ := hrel
    have hz := zeros_lt m.length
    have hpl := padTo_length m j
    obtain ⟨A2, c2, hv, hc2⟩ := own_len HO.out
    subst hv
    obtain ⟨k, hk⟩ : ∃ k, k = (padTo m j).length := ⟨_, rfl⟩
    have hkk : k = m.length + 1 + j := by omega
    have HK := Lib.hid hk
    have hs3 := HB.out.size
    have h56 := zeros_least m.length j
    have h57 := zeros_end m.length
    rw [← hk] at HO hc2 ⊢
    by_cases hlt : j < zeros m.length
    · have hne : ((k : Int) % 64 == 56) = false := by
        have := h56 hlt
        simp; omega
      have hne2 : ((k : Int) % 64 != 56) = true := by
        have := h56 hlt
        simp; omega
      have hkl : k ≤ 2199023255552 := by omega
      have HKK := Lib.hid hkk
      clear h56 h57 hk hkk hpl
      go_wp2_with (at_builtin; refine wpList_append_own _ rfl (.tmp 16) (.tmp 17) 22 rfl w.heap.size 5 i0 (.int .u8 0) 1 1 Tryd.underlying22 hi hz0 hz1 hz2 rfl (by decide) _ _ _ rfl (HO.out.alloc _) ⟨wr.heap.size, 0, none⟩ 1 1 [.int .u8 0] rfl rfl (one_new _ _ _) (int_one _ _) (len_le (by omega)) (by omega) (by simp; omega) ?_; intro v4 w4 hown4 hgrow4 _; have HO4 := Lib.hid hown4; have HB4 := Lib.hid ((HB.out.alloc hs3 _).grown hgrow4 (by simp; omega) (fun k hk => (HO.out.lt k hk).1)); clear hown4 hgrow4)
      go_roundw
      case rel => exact ⟨j + 1, by omega, by rw [padTo_succ]; rw [HK.out] at HO4; exact own_push HO4.out rfl, HB4⟩
      case measure =>
        obtain ⟨A4, c4, rfl, _⟩ := own_len HO4.out
        simp only [lenOf]
        have := HKK.out
        omega
    · have hje : j = zeros m.length := by omega
      have hne : ((k : Int) % 64 == 56) = true := by simp; omega
      have hne2 : ((k : Int) % 64 != 56) = false := by simp; omega
      have hkl : k ≤ 2199023255552 := by omega
      have HKK := Lib.hid hkk
      have HJ := Lib.hid hje
      clear h56 h57 hk hkk hpl hlt hj hje
      have e8 : IntKind.u64.wrap (8 * (m.length : Int)) = 8 * (m.length : Int) := by simp [IntKind.wrap, IntKind.bits, IntKind.signed]; omega
      have HO5 : Hid (wr.ownsRow w.heap.size 5 1 (.slice A2 k c2) (padTo m (zeros m.length) ++ (len8 (8 * m.length)).take 0).length (bs (padTo m (zeros m.length) ++ (len8 (8 * m.length)).take 0))) := by
        have h := HO.out
        rw [HJ.out] at h
        simp only [List.take_zero, List.append_nil]
        rw [← HJ.out, ← HK.out, HJ.out]
        exact h
      clear HO
      obtain ⟨wo, hwo⟩ : ∃ wo : World, wo = wr := ⟨_, rfl⟩
      subst hwo
      go_wp2
      go_loopw [3, 5] (fun a v wr => ∃ i : Nat, i ≤ 8 ∧ v = .int .i64 i ∧ Hid (wr.ownsRow w.heap.size 5 1 a (padTo m (zeros m.length) ++ (len8 (8 * m.length)).take i).length (bs (padTo m (zeros m.length) ++ (len8 (8 * m.length)).take i))) ∧ Hid (Below w.heap.size w wr)) (fun _ v _ => 8 - (intOf v).toNat)
      case atStart => exact ⟨0, Nat.zero_le _, rfl, HO5, HB⟩
      case round =>
        clear HO5 HB
        obtain ⟨i, hi8, rfl, HO, HB⟩ := hrel
        have hs4 := HB.out.size
        by_cases hlt : i < 8
        · have hpl : (padTo m (zeros m.length) ++ (len8 (8 * m.length)).take i).length ≤ 2199023255552 := by
            rw [List.length_append, padTo_length, List.length_take]; omega
          have HS := Lib.hid (len8_succ (8 * m.length) i hlt)
          have a0 : 0 ≤ 56 - 8 * (i : Int) := by omega
          have a1 : IntKind.i64.wrap (8 * (i : Int)) = 8 * (i : Int) := IntWalk.i64_in _ (by omega)
          have a2 : IntKind.i64.wrap (56 - 8 * (i : Int)) = 56 - 8 * (i : Int) := IntWalk.i64_in _ (by omega)
          have a3 : (56 - 8 * (i : Int)).toNat = 56 - 8 * i := by omega
          obtain ⟨y, hy⟩ : ∃ y : Int, y = 8 * (m.length : Int) / 2 ^ (56 - 8 * i) % 256 := ⟨_, rfl⟩
          have hyb : y = ((UInt8.ofNat (8 * m.length / 2 ^ (56 - 8 * i))).toNat : Int) := by rw [byte_val, hy]; simp
          have HY := Lib.hid hy
          have HYB := Lib.hid hyb
          clear hy hyb
          go_wp2_with (at_builtin; rw [← HY.out]; refine wpList_append_own _ rfl (.tmp 27) (.tmp 34) 22 rfl w.heap.size 5 i0 (.int .u8 0) 1 1 Tryd.underlying22 hi hz0 hz1 hz2 rfl (by decide) _ _ _ rfl (HO.out.alloc _) ⟨wr.heap.size, 0, none⟩ 1 1 [.int .u8 y] rfl rfl (one_new _ _ _) (int_one _ _) (len_le (by omega)) (by omega) (by simp; omega) ?_; intro v4 w4 hown4 hgrow4 _; have HO4 := Lib.hid hown4; have HB4 := Lib.hid ((HB.out.alloc hs4 _).grown hgrow4 (by simp; omega) (fun k hk => (HO.out.lt k hk).1)); clear hown4 hgrow4)
          go_roundw
          case rel => exact ⟨i + 1, by omega, by go_num, by rw [HS.out, ← List.append_assoc]; exact own_push HO4.out HYB.out, HB4⟩
          case measure => simp [intOf]; omega
        · have hie : i = 8 := by omega
          have HI := Lib.hid hie
          have hge2 : 8 ≤ i := by omega
          clear hlt hi8 hie
          go_wp2
          go_ret
          have h := HO.out
          rw [HI.out, List.take_of_length_le (by rw [len8_length]; omega), ← pad_eq] at h
          exact ⟨_, rfl, h, HB.out⟩
end Go.Proofs.YtgabmipakocheaaDoor
