/-
  THE WALK of SignVerifiesAsSpecified.
-/
import Derived.Test.YtaoegpmjogladaaDoorG33
set_option linter.unusedVariables false
namespace Go.Proofs.YtaoegpmjogladaaDoor
open Go.RowKit WM

/-- P3.4: what Verify answers. -/
def verB (p : List UInt8) (h : Int) (m sg : ByteArray) : Int × Int :=
  if 0 ≤ h ∧ h ≤ 6 then
    match gInt sg.data.toList with
    | .more => (0, 3)
    | .form => (0, 2)
    | .ok n u =>
      if n < 0 ∨ ((2 ^ h.toNat : Nat) : Int) ≤ n ∨ sg.size - u ≠ (68 + h.toNat) * 16 then (0, 2)
      else if backB p h.toNat n.toNat m (sg.data.toList.drop u) = p then (n, 0) else (0, 10)
  else (0, 1)

theorem gInt_used {sg : ByteArray} {n : Int} {u : Nat} (h : gInt sg.data.toList = .ok n u) : u ≤ sg.size := by
  obtain ⟨_, t, e, hu⟩ := gInt_ok h
  have := congrArg List.length e
  rw [size_list, List.length_append] at this
  omega

theorem verB_sign (p : List UInt8) (h : Int) (m sg : ByteArray) (w : World) (hk : KT 0 w) (hp : p.length = 16) (hm : m.size ≤ 1048576) (hl : sg.size ≤ 1000000) (x e : Int) (hv : verB p h m sg = (x, e)) :
    Calls Tryd.prog 24 #[.agg (bs p).toArray, .int .i64 h, .string m, .string sg] w fun r w' => r = .returned (.tuple #[.int .i64 x, .int .i64 e]) ∧ Below w.heap.size w w' := by
  unfold verB at hv
  by_cases hh : 0 ≤ h ∧ h ≤ 6
  · rw [if_pos hh] at hv
    cases hg : gInt sg.data.toList with
    | more =>
      rw [hg] at hv
      cases hv
      exact verify_more p h m sg w hh.1 hh.2 hm hl hg
    | form =>
      rw [hg] at hv
      cases hv
      exact verify_form p h m sg w hh.1 hh.2 hm hl hg
    | ok n u =>
      rw [hg] at hv
      obtain ⟨k, rfl⟩ := Int.eq_ofNat_of_zero_le hh.1
      have hu := gInt_used hg
      simp only [Int.ofNat_eq_natCast, Int.toNat_natCast] at hv ⊢
      by_cases hb : n < 0 ∨ ((2 ^ k : Nat) : Int) ≤ n ∨ sg.size - u ≠ (68 + k) * 16
      · rw [if_pos hb] at hv
        cases hv
        exact verify_bad p k n u m sg w (by omega) hm hl hg hu hb
      · rw [if_neg hb] at hv
        obtain ⟨i, rfl⟩ := Int.eq_ofNat_of_zero_le (show 0 ≤ n by omega)
        simp only [Int.ofNat_eq_natCast, Int.toNat_natCast] at hv hg hb ⊢
        have hm1 := verify_main p k i u m sg w hk hp (by omega) (Int.ofNat_lt.1 (by omega)) hm hl hg hu (by omega)
        by_cases hd : backB p k i m (sg.data.toList.drop u) = p
        · rw [if_pos hd] at hv
          cases hv
          have := hm1 true (decide_eq_true hd)
          simpa using this
        · rw [if_neg hd] at hv
          cases hv
          have := hm1 false (decide_eq_false hd)
          simpa using this
  · rw [if_neg hh] at hv
    cases hv
    exact verify_arg p h m sg w hh

theorem verB_ref (p : List UInt8) (h : Int) (m sg : ByteArray) (w : World) (hk : KT 1 w) (hp : p.length = 16) (hm : m.size ≤ 1048576) (hl : sg.size ≤ 1000000) (x e : Int) (hv : verB p h m sg = (x, e)) :
    Calls Tryd.prog 25 #[.agg (bs p).toArray, .int .i64 h, .string m, .string sg] w fun r w' => r = .returned (.tuple #[.int .i64 x, .int .i64 e]) ∧ Below w.heap.size w w' := by
  unfold verB at hv
  by_cases hh : 0 ≤ h ∧ h ≤ 6
  · rw [if_pos hh] at hv
    cases hg : gInt sg.data.toList with
    | more =>
      rw [hg] at hv
      cases hv
      exact rverify_none p h m sg w hh.1 hh.2 hm hl _ 3 rfl hg rfl
    | form =>
      rw [hg] at hv
      cases hv
      exact rverify_none p h m sg w hh.1 hh.2 hm hl _ 2 rfl hg rfl
    | ok n u =>
      rw [hg] at hv
      obtain ⟨k, rfl⟩ := Int.eq_ofNat_of_zero_le hh.1
      have hu := gInt_used hg
      simp only [Int.ofNat_eq_natCast, Int.toNat_natCast] at hv ⊢
      by_cases hb : n < 0 ∨ ((2 ^ k : Nat) : Int) ≤ n ∨ sg.size - u ≠ (68 + k) * 16
      · rw [if_pos hb] at hv
        cases hv
        exact rverify_bad p k n u m sg w (by omega) hm hl hg hu hb
      · rw [if_neg hb] at hv
        obtain ⟨i, rfl⟩ := Int.eq_ofNat_of_zero_le (show 0 ≤ n by omega)
        simp only [Int.ofNat_eq_natCast, Int.toNat_natCast] at hv hg hb ⊢
        have hm1 := rverify_main p k i u m sg w hk hp (by omega) (Int.ofNat_lt.1 (by omega)) hm hl hg hu (by omega)
        by_cases hd : backB p k i m (sg.data.toList.drop u) = p
        · rw [if_pos hd] at hv
          cases hv
          have := hm1 true (decide_eq_true hd)
          simpa using this
        · rw [if_neg hd] at hv
          cases hv
          have := hm1 false (decide_eq_false hd)
          simpa using this
  · rw [if_neg hh] at hv
    cases hv
    exact rverify_arg p h m sg w hh

set_option maxRecDepth 100000 in
set_option maxHeartbeats 2000000 in
theorem walkVer (p : List UInt8) (h : Int) (m sg : ByteArray) (w : World) (hp : p.length = 16) (hc : KT 1 w) (hk : KT 0 w) :
    Calls Tryd.prog 6 #[.agg (bs p).toArray, .int .i64 h, .string m, .string sg] w fun e w' => e = .returned (.bool true) ∧ Below w.heap.size w w' := by
  have HK := Lib.hid hk
  have HC := Lib.hid hc
  have HSP := Lib.hid (size16 hp)
  have HP := Lib.hid hp
  clear hk hc hp
  obtain ⟨w0, hw0⟩ : ∃ W, W = w.alloc (.cells (bs p).toArray 29) := ⟨_, rfl⟩
  have HB0 : Hid (Below w.heap.size w w0) := by rw [hw0]; exact below_new _ _
  have HP0 : Hid (Blk w0 w.heap.size 29 (bs p).toArray) := by rw [hw0]; exact Blk.new w _ _
  by_cases hbig : 200 < m.size
  · go_enter Tryd.func6, Tryd.ntmps6
    go_wp2_with (go_at_call 15; rw [← hw0]; clear hw0; refine (sanity3 _ (HK.out.below HB0.out)).mono ?_; rintro e w1 ⟨rfl, hb1⟩; have HB1 := Lib.hid (bt HB0.out hb1); clear hb1)
    go_ret
    exact ⟨rfl, HB1.out⟩
  · by_cases hbg2 : 1400 < sg.size
    · go_enter Tryd.func6, Tryd.ntmps6
      go_wp2_with (go_at_call 15; rw [← hw0]; clear hw0; refine (sanity3 _ (HK.out.below HB0.out)).mono ?_; rintro e w1 ⟨rfl, hb1⟩; have HB1 := Lib.hid (bt HB0.out hb1); clear hb1)
      go_ret
      exact ⟨rfl, HB1.out⟩
    · obtain ⟨x, e, hv⟩ : ∃ x e, verB p h m sg = (x, e) := ⟨_, _, rfl⟩
      have HV := Lib.hid hv
      clear hv
      have hxx : (x == x) = true := by simp
      have hee : (e == e) = true := by simp
      go_enter Tryd.func6, Tryd.ntmps6
      go_wp2_with (first
        | (go_at_call 15; rw [← hw0]; clear hw0; refine (sanity3 _ (HK.out.below HB0.out)).mono ?_; rintro r w1 ⟨rfl, hb1⟩; have HB1 := Lib.hid (bt HB0.out hb1); have HP1 := Lib.hid (blk_past hb1 HP0.out); clear hb1)
        | (refine wpList_load_row rfl 29 (.tmp 4) rfl w.heap.size rfl 29 (bs p).toArray (0, 0) _ HP1.out Tryd.underlying29 rfl HSP.out ?_)
        | (go_at_call 24; refine (verB_sign p h m sg _ (HK.out.below HB1.out) HP.out (by omega) (by omega) x e HV.out).mono ?_; rintro r w2 ⟨rfl, hb2⟩; have HB2 := Lib.hid (bt HB1.out hb2); have HP2 := Lib.hid (blk_past hb2 HP1.out); clear hb2)
        | (refine wpList_load_row rfl 29 (.tmp 4) rfl w.heap.size rfl 29 (bs p).toArray (0, 0) _ HP2.out Tryd.underlying29 rfl HSP.out ?_)
        | (go_at_call 25; refine (verB_ref p h m sg _ (HC.out.below HB2.out) HP.out (by omega) (by omega) x e HV.out).mono ?_; rintro r w3 ⟨rfl, hb3⟩; have HB3 := Lib.hid (bt HB2.out hb3); clear hb3))
      go_ret
      exact ⟨rfl, HB3.out⟩
end Go.Proofs.YtaoegpmjogladaaDoor
