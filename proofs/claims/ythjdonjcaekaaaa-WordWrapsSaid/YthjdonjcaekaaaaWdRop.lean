/-
  The specification of word: Op.
-/
import Derived.Test.YthjdonjcaekaaaaWdBit
import Derived.Test.YthjdonjcaekaaaaWdFns
namespace Go.Proofs.Ythjdonjcaekaaaa
open Go.RowKit WD

theorem two_ret2 {r c : Int} {r' c' : Int} (h1 : r = r') (h2 : c = c') : Ending.returned (.tuple #[.int .i64 r, .int .i64 c]) = .returned (.tuple #[.int .i64 r', .int .i64 c']) := by rw [h1, h2]
theorem mod_of {a b : Int} : a - b * a.tdiv b = a.tmod b := by have := Int.tmod_add_mul_tdiv a b; omega
theorem mul_div_le {a b : Int} (ha : isWord a) (hb : isWord b) : -8 ≤ b * a.tdiv b ∧ b * a.tdiv b ≤ 8 := by
  have := by_words2 (p := fun a b => decide (-8 ≤ b * a.tdiv b ∧ b * a.tdiv b ≤ 8)) (by decide +kernel) ha hb
  simpa using this
theorem half_le {a : Int} (ha : isWord a) (n : Nat) : isWord (a / 2 ^ n) := by
  unfold isWord at *
  have hp : (0 : Int) < 2 ^ n := Int.pow_pos (by decide)
  constructor
  · rw [Int.le_ediv_iff_mul_le hp]
    have : (1 : Int) ≤ 2 ^ n := hp
    omega
  · have h7 : a / 2 ^ n ≤ 7 / 2 ^ n := Int.ediv_le_ediv hp ha.2
    exact Int.le_trans h7 (Int.ediv_le_self _ (by decide))
/-- How far a shift goes. -/
theorem cnt (b : Int) : ∃ n : Nat, n ≤ 3 ∧ bts b % 4 = (n : Int) ∧ two (bts b % 4) = 2 ^ n := by
  have h := bts_le b
  exact ⟨(bts b % 4).toNat, by omega, by omega, rfl⟩

section
variable (x y : Int) (w : World)
set_option maxRecDepth 100000 in
set_option maxHeartbeats 1000000 in
theorem rop_add : Calls Try.prog 17 #[.int .i64 0, .int .i64 x, .int .i64 y] w fun e w' => e = .returned (.tuple #[.int .i64 (opR 0 x y), .int .i64 (opC 0 y)]) ∧ w = w' := by
  obtain ⟨a, ha⟩ : ∃ a, a = wrp x := ⟨_, rfl⟩
  obtain ⟨b, hb⟩ : ∃ b, b = wrp y := ⟨_, rfl⟩
  have hwa : isWord a := by rw [ha]; exact wrp_word x
  have hwb : isWord b := by rw [hb]; exact wrp_word y
  have HWA := Lib.hid hwa
  have HWB := Lib.hid hwb
  have HA := Lib.hid ha.symm
  have HB := Lib.hid hb.symm
  unfold isWord at hwa hwb
  have hc : opC 0 y = 0 := by unfold opC exc; rw [if_neg (by omega)]
  have hr : opR 0 x y = wrp (a + b) := by unfold opR res; rw [← ha, ← hb]; rfl
  rw [hc]
  have HR := Lib.hid hr
  clear ha hb hc hr
  go_enter Try.func17, Try.ntmps17
  go_wp2_with (first
    | (go_at_call_of 11 (Value.int .i64 x); refine (rwrap_is _ _).mono ?_; rintro e w' ⟨rfl, rfl⟩; rw [HA.out])
    | (go_at_call_of 11 (Value.int .i64 y); refine (rwrap_is _ _).mono ?_; rintro e w' ⟨rfl, rfl⟩; rw [HB.out])
    | (go_at_call 11; refine (rwrap_is _ _).mono ?_; rintro e w' ⟨rfl, rfl⟩))
  go_ret2
  exact ⟨two_ret2 HR.out.symm rfl, rfl⟩
set_option maxRecDepth 100000 in
set_option maxHeartbeats 1000000 in
theorem rop_sub : Calls Try.prog 17 #[.int .i64 1, .int .i64 x, .int .i64 y] w fun e w' => e = .returned (.tuple #[.int .i64 (opR 1 x y), .int .i64 (opC 1 y)]) ∧ w = w' := by
  obtain ⟨a, ha⟩ : ∃ a, a = wrp x := ⟨_, rfl⟩
  obtain ⟨b, hb⟩ : ∃ b, b = wrp y := ⟨_, rfl⟩
  have hwa : isWord a := by rw [ha]; exact wrp_word x
  have hwb : isWord b := by rw [hb]; exact wrp_word y
  have HWA := Lib.hid hwa
  have HWB := Lib.hid hwb
  have HA := Lib.hid ha.symm
  have HB := Lib.hid hb.symm
  unfold isWord at hwa hwb
  have hc : opC 1 y = 0 := by unfold opC exc; rw [if_neg (by omega)]
  have hr : opR 1 x y = wrp (a - b) := by unfold opR res; rw [← ha, ← hb]; rfl
  rw [hc]
  have HR := Lib.hid hr
  clear ha hb hc hr
  go_enter Try.func17, Try.ntmps17
  go_wp2_with (first
    | (go_at_call_of 11 (Value.int .i64 x); refine (rwrap_is _ _).mono ?_; rintro e w' ⟨rfl, rfl⟩; rw [HA.out])
    | (go_at_call_of 11 (Value.int .i64 y); refine (rwrap_is _ _).mono ?_; rintro e w' ⟨rfl, rfl⟩; rw [HB.out])
    | (go_at_call 11; refine (rwrap_is _ _).mono ?_; rintro e w' ⟨rfl, rfl⟩))
  go_ret2
  exact ⟨two_ret2 HR.out.symm rfl, rfl⟩
set_option maxRecDepth 100000 in
set_option maxHeartbeats 1000000 in
theorem rop_mul : Calls Try.prog 17 #[.int .i64 2, .int .i64 x, .int .i64 y] w fun e w' => e = .returned (.tuple #[.int .i64 (opR 2 x y), .int .i64 (opC 2 y)]) ∧ w = w' := by
  obtain ⟨a, ha⟩ : ∃ a, a = wrp x := ⟨_, rfl⟩
  obtain ⟨b, hb⟩ : ∃ b, b = wrp y := ⟨_, rfl⟩
  have hwa : isWord a := by rw [ha]; exact wrp_word x
  have hwb : isWord b := by rw [hb]; exact wrp_word y
  have HWA := Lib.hid hwa
  have HWB := Lib.hid hwb
  have HA := Lib.hid ha.symm
  have HB := Lib.hid hb.symm
  unfold isWord at hwa hwb
  have hc : opC 2 y = 0 := by unfold opC exc; rw [if_neg (by omega)]
  have hr : opR 2 x y = wrp (a * b) := by unfold opR res; rw [← ha, ← hb]; rfl
  have hm := mul_le HWA.out HWB.out
  have hmw : IntKind.i64.wrap (a * b) = a * b := by rw [IntKind.wrap_i64]; omega
  rw [hc]
  have HR := Lib.hid hr
  clear ha hb hc hr
  go_enter Try.func17, Try.ntmps17
  go_wp2_with (first
    | (go_at_call_of 11 (Value.int .i64 x); refine (rwrap_is _ _).mono ?_; rintro e w' ⟨rfl, rfl⟩; rw [HA.out])
    | (go_at_call_of 11 (Value.int .i64 y); refine (rwrap_is _ _).mono ?_; rintro e w' ⟨rfl, rfl⟩; rw [HB.out])
    | (go_at_call 11; refine (rwrap_is _ _).mono ?_; rintro e w' ⟨rfl, rfl⟩))
  go_ret2
  exact ⟨two_ret2 HR.out.symm rfl, rfl⟩
set_option maxRecDepth 100000 in
set_option maxHeartbeats 1000000 in
theorem rop_div_no (h0 : wrp y = 0) : Calls Try.prog 17 #[.int .i64 3, .int .i64 x, .int .i64 y] w fun e w' => e = .returned (.tuple #[.int .i64 (opR 3 x y), .int .i64 (opC 3 y)]) ∧ w = w' := by
  have hc : opC 3 y = 2 := by unfold opC exc; rw [h0]; rfl
  have hr : opR 3 x y = 0 := by unfold opR; rw [h0]; rfl
  rw [hc, hr]
  have H0 := Lib.hid h0
  clear hc hr h0
  go_enter Try.func17, Try.ntmps17
  go_wp2_with (first
    | (go_at_call_of 11 (Value.int .i64 x); refine (rwrap_is _ _).mono ?_; rintro e w' ⟨rfl, rfl⟩)
    | (go_at_call_of 11 (Value.int .i64 y); refine (rwrap_is _ _).mono ?_; rintro e w' ⟨rfl, rfl⟩; rw [H0.out]))
  go_ret2
  exact ⟨rfl, rfl⟩
set_option maxRecDepth 100000 in
set_option maxHeartbeats 1000000 in
theorem rop_div (h0 : wrp y ≠ 0) : Calls Try.prog 17 #[.int .i64 3, .int .i64 x, .int .i64 y] w fun e w' => e = .returned (.tuple #[.int .i64 (opR 3 x y), .int .i64 (opC 3 y)]) ∧ w = w' := by
  obtain ⟨a, ha⟩ : ∃ a, a = wrp x := ⟨_, rfl⟩
  obtain ⟨b, hb⟩ : ∃ b, b = wrp y := ⟨_, rfl⟩
  have hwa : isWord a := by rw [ha]; exact wrp_word x
  have hwb : isWord b := by rw [hb]; exact wrp_word y
  have HWA := Lib.hid hwa
  have HWB := Lib.hid hwb
  have HA := Lib.hid ha.symm
  have HB := Lib.hid hb.symm
  unfold isWord at hwa hwb
  have hc : opC 3 y = 0 := by unfold opC exc; rw [if_neg (fun h => h0 h.2)]
  have hb0 : b ≠ 0 := by rw [hb]; exact h0
  have hz : (b == 0) = false := beq_eq_false_iff_ne.2 hb0
  have hd := div_le HWA.out HWB.out
  have hm := mul_div_le HWA.out HWB.out
  have hmw : IntKind.i64.wrap (b * a.tdiv b) = b * a.tdiv b := by rw [IntKind.wrap_i64]; omega
  have HMO := Lib.hid (mod_of (a := a) (b := b))
  have HB0 := Lib.hid hb0
  clear h0
  have hr : opR 3 x y = wrp (a.tdiv b) := by unfold opR res; rw [← ha, ← hb]; simp [hb0]
  rw [hc]
  have HR := Lib.hid hr
  clear ha hb hc hr
  go_enter Try.func17, Try.ntmps17
  go_wp2_with (first
    | (go_at_call_of 11 (Value.int .i64 x); refine (rwrap_is _ _).mono ?_; rintro e w' ⟨rfl, rfl⟩; rw [HA.out])
    | (go_at_call_of 11 (Value.int .i64 y); refine (rwrap_is _ _).mono ?_; rintro e w' ⟨rfl, rfl⟩; rw [HB.out])
    | (go_at_call 22; refine (quot_is _ _ HWA.out HWB.out HB0.out _).mono ?_; rintro e w' ⟨rfl, rfl⟩)
    | (go_at_call 11; refine (rwrap_is _ _).mono ?_; rintro e w' ⟨rfl, rfl⟩))
  go_ret2
  exact ⟨two_ret2 HR.out.symm rfl, rfl⟩
set_option maxRecDepth 100000 in
set_option maxHeartbeats 1000000 in
theorem rop_mod_no (h0 : wrp y = 0) : Calls Try.prog 17 #[.int .i64 4, .int .i64 x, .int .i64 y] w fun e w' => e = .returned (.tuple #[.int .i64 (opR 4 x y), .int .i64 (opC 4 y)]) ∧ w = w' := by
  have hc : opC 4 y = 2 := by unfold opC exc; rw [h0]; rfl
  have hr : opR 4 x y = 0 := by unfold opR; rw [h0]; rfl
  rw [hc, hr]
  have H0 := Lib.hid h0
  clear hc hr h0
  go_enter Try.func17, Try.ntmps17
  go_wp2_with (first
    | (go_at_call_of 11 (Value.int .i64 x); refine (rwrap_is _ _).mono ?_; rintro e w' ⟨rfl, rfl⟩)
    | (go_at_call_of 11 (Value.int .i64 y); refine (rwrap_is _ _).mono ?_; rintro e w' ⟨rfl, rfl⟩; rw [H0.out]))
  go_ret2
  exact ⟨rfl, rfl⟩
set_option maxRecDepth 100000 in
set_option maxHeartbeats 1000000 in
theorem rop_mod (h0 : wrp y ≠ 0) : Calls Try.prog 17 #[.int .i64 4, .int .i64 x, .int .i64 y] w fun e w' => e = .returned (.tuple #[.int .i64 (opR 4 x y), .int .i64 (opC 4 y)]) ∧ w = w' := by
  obtain ⟨a, ha⟩ : ∃ a, a = wrp x := ⟨_, rfl⟩
  obtain ⟨b, hb⟩ : ∃ b, b = wrp y := ⟨_, rfl⟩
  have hwa : isWord a := by rw [ha]; exact wrp_word x
  have hwb : isWord b := by rw [hb]; exact wrp_word y
  have HWA := Lib.hid hwa
  have HWB := Lib.hid hwb
  have HA := Lib.hid ha.symm
  have HB := Lib.hid hb.symm
  unfold isWord at hwa hwb
  have hc : opC 4 y = 0 := by unfold opC exc; rw [if_neg (fun h => h0 h.2)]
  have hb0 : b ≠ 0 := by rw [hb]; exact h0
  have hz : (b == 0) = false := beq_eq_false_iff_ne.2 hb0
  have hd := div_le HWA.out HWB.out
  have hm := mul_div_le HWA.out HWB.out
  have hmw : IntKind.i64.wrap (b * a.tdiv b) = b * a.tdiv b := by rw [IntKind.wrap_i64]; omega
  have HMO := Lib.hid (mod_of (a := a) (b := b))
  have HB0 := Lib.hid hb0
  clear h0
  have hr : opR 4 x y = wrp (a.tmod b) := by unfold opR res; rw [← ha, ← hb]; simp [hb0]
  rw [hc]
  have HR := Lib.hid hr
  clear ha hb hc hr
  go_enter Try.func17, Try.ntmps17
  go_wp2_with (first
    | (go_at_call_of 11 (Value.int .i64 x); refine (rwrap_is _ _).mono ?_; rintro e w' ⟨rfl, rfl⟩; rw [HA.out])
    | (go_at_call_of 11 (Value.int .i64 y); refine (rwrap_is _ _).mono ?_; rintro e w' ⟨rfl, rfl⟩; rw [HB.out])
    | (go_at_call 22; refine (quot_is _ _ HWA.out HWB.out HB0.out _).mono ?_; rintro e w' ⟨rfl, rfl⟩)
    | (go_at_call 11; refine (rwrap_is _ _).mono ?_; rintro e w' ⟨rfl, rfl⟩))
  go_ret2
  exact ⟨two_ret2 (by rw [HR.out, ← HMO.out]) rfl, rfl⟩
set_option maxRecDepth 100000 in
set_option maxHeartbeats 1000000 in
theorem rop_and : Calls Try.prog 17 #[.int .i64 5, .int .i64 x, .int .i64 y] w fun e w' => e = .returned (.tuple #[.int .i64 (opR 5 x y), .int .i64 (opC 5 y)]) ∧ w = w' := by
  obtain ⟨a, ha⟩ : ∃ a, a = wrp x := ⟨_, rfl⟩
  obtain ⟨b, hb⟩ : ∃ b, b = wrp y := ⟨_, rfl⟩
  have hwa : isWord a := by rw [ha]; exact wrp_word x
  have hwb : isWord b := by rw [hb]; exact wrp_word y
  have HWA := Lib.hid hwa
  have HWB := Lib.hid hwb
  have HA := Lib.hid ha.symm
  have HB := Lib.hid hb.symm
  unfold isWord at hwa hwb
  have hc : opC 5 y = 0 := by unfold opC exc; rw [if_neg (by omega)]
  have hr : opR 5 x y = comb Nat.land a b := by unfold opR res; rw [← ha, ← hb]; rfl
  rw [hc]
  have HR := Lib.hid hr
  clear ha hb hc hr
  go_enter Try.func17, Try.ntmps17
  go_wp2_with (first
    | (go_at_call_of 11 (Value.int .i64 x); refine (rwrap_is _ _).mono ?_; rintro e w' ⟨rfl, rfl⟩; rw [HA.out])
    | (go_at_call_of 11 (Value.int .i64 y); refine (rwrap_is _ _).mono ?_; rintro e w' ⟨rfl, rfl⟩; rw [HB.out])
    | (go_at_call 23; refine (bitwise_is a b false false true (both3 false false true) rfl rfl rfl rfl _).mono ?_; rintro e w' ⟨rfl, rfl⟩; rw [sumTo_and HWA.out HWB.out]))
  go_ret2
  exact ⟨two_ret2 HR.out.symm rfl, rfl⟩
set_option maxRecDepth 100000 in
set_option maxHeartbeats 1000000 in
theorem rop_or : Calls Try.prog 17 #[.int .i64 6, .int .i64 x, .int .i64 y] w fun e w' => e = .returned (.tuple #[.int .i64 (opR 6 x y), .int .i64 (opC 6 y)]) ∧ w = w' := by
  obtain ⟨a, ha⟩ : ∃ a, a = wrp x := ⟨_, rfl⟩
  obtain ⟨b, hb⟩ : ∃ b, b = wrp y := ⟨_, rfl⟩
  have hwa : isWord a := by rw [ha]; exact wrp_word x
  have hwb : isWord b := by rw [hb]; exact wrp_word y
  have HWA := Lib.hid hwa
  have HWB := Lib.hid hwb
  have HA := Lib.hid ha.symm
  have HB := Lib.hid hb.symm
  unfold isWord at hwa hwb
  have hc : opC 6 y = 0 := by unfold opC exc; rw [if_neg (by omega)]
  have hr : opR 6 x y = comb Nat.lor a b := by unfold opR res; rw [← ha, ← hb]; rfl
  rw [hc]
  have HR := Lib.hid hr
  clear ha hb hc hr
  go_enter Try.func17, Try.ntmps17
  go_wp2_with (first
    | (go_at_call_of 11 (Value.int .i64 x); refine (rwrap_is _ _).mono ?_; rintro e w' ⟨rfl, rfl⟩; rw [HA.out])
    | (go_at_call_of 11 (Value.int .i64 y); refine (rwrap_is _ _).mono ?_; rintro e w' ⟨rfl, rfl⟩; rw [HB.out])
    | (go_at_call 23; refine (bitwise_is a b true true true (both3 true true true) rfl rfl rfl rfl _).mono ?_; rintro e w' ⟨rfl, rfl⟩; rw [sumTo_or HWA.out HWB.out]))
  go_ret2
  exact ⟨two_ret2 HR.out.symm rfl, rfl⟩
set_option maxRecDepth 100000 in
set_option maxHeartbeats 1000000 in
theorem rop_xor : Calls Try.prog 17 #[.int .i64 7, .int .i64 x, .int .i64 y] w fun e w' => e = .returned (.tuple #[.int .i64 (opR 7 x y), .int .i64 (opC 7 y)]) ∧ w = w' := by
  obtain ⟨a, ha⟩ : ∃ a, a = wrp x := ⟨_, rfl⟩
  obtain ⟨b, hb⟩ : ∃ b, b = wrp y := ⟨_, rfl⟩
  have hwa : isWord a := by rw [ha]; exact wrp_word x
  have hwb : isWord b := by rw [hb]; exact wrp_word y
  have HWA := Lib.hid hwa
  have HWB := Lib.hid hwb
  have HA := Lib.hid ha.symm
  have HB := Lib.hid hb.symm
  unfold isWord at hwa hwb
  have hc : opC 7 y = 0 := by unfold opC exc; rw [if_neg (by omega)]
  have hr : opR 7 x y = comb Nat.xor a b := by unfold opR res; rw [← ha, ← hb]; rfl
  rw [hc]
  have HR := Lib.hid hr
  clear ha hb hc hr
  go_enter Try.func17, Try.ntmps17
  go_wp2_with (first
    | (go_at_call_of 11 (Value.int .i64 x); refine (rwrap_is _ _).mono ?_; rintro e w' ⟨rfl, rfl⟩; rw [HA.out])
    | (go_at_call_of 11 (Value.int .i64 y); refine (rwrap_is _ _).mono ?_; rintro e w' ⟨rfl, rfl⟩; rw [HB.out])
    | (go_at_call 23; refine (bitwise_is a b true true false (both3 true true false) rfl rfl rfl rfl _).mono ?_; rintro e w' ⟨rfl, rfl⟩; rw [sumTo_xor HWA.out HWB.out]))
  go_ret2
  exact ⟨two_ret2 HR.out.symm rfl, rfl⟩
set_option maxRecDepth 100000 in
set_option maxHeartbeats 1000000 in
theorem rop_shl : Calls Try.prog 17 #[.int .i64 8, .int .i64 x, .int .i64 y] w fun e w' => e = .returned (.tuple #[.int .i64 (opR 8 x y), .int .i64 (opC 8 y)]) ∧ w = w' := by
  obtain ⟨a, ha⟩ : ∃ a, a = wrp x := ⟨_, rfl⟩
  obtain ⟨b, hb⟩ : ∃ b, b = wrp y := ⟨_, rfl⟩
  have hwa : isWord a := by rw [ha]; exact wrp_word x
  have hwb : isWord b := by rw [hb]; exact wrp_word y
  have HWA := Lib.hid hwa
  have HWB := Lib.hid hwb
  have HA := Lib.hid ha.symm
  have HB := Lib.hid hb.symm
  unfold isWord at hwa hwb
  have hc : opC 8 y = 0 := by unfold opC exc; rw [if_neg (by omega)]
  have hr : opR 8 x y = wrp (a * two (bts b % 4)) := by unfold opR res; rw [← ha, ← hb]; rfl
  obtain ⟨n, hn, hn1, hn2⟩ := cnt b
  have HN1 := Lib.hid hn1
  have HN2 := Lib.hid hn2
  have hb15 := bts_le b
  clear hn1 hn2
  rw [hc]
  have HR := Lib.hid hr
  clear ha hb hc hr
  go_enter Try.func17, Try.ntmps17
  go_wp2_with (first
    | (go_at_call_of 11 (Value.int .i64 x); refine (rwrap_is _ _).mono ?_; rintro e w' ⟨rfl, rfl⟩; rw [HA.out])
    | (go_at_call_of 11 (Value.int .i64 y); refine (rwrap_is _ _).mono ?_; rintro e w' ⟨rfl, rfl⟩; rw [HB.out])
    | (go_at_call 12; refine (rbits_is _ _).mono ?_; rintro e w' ⟨rfl, rfl⟩)
    | (go_at_call 24; rw [HN1.out]; refine (doubled_is a n HWA.out hn _).mono ?_; rintro e w' ⟨rfl, rfl⟩))
  go_ret2
  exact ⟨two_ret2 (by rw [HR.out, HN2.out]) rfl, rfl⟩
set_option maxRecDepth 100000 in
set_option maxHeartbeats 1000000 in
theorem rop_shr : Calls Try.prog 17 #[.int .i64 9, .int .i64 x, .int .i64 y] w fun e w' => e = .returned (.tuple #[.int .i64 (opR 9 x y), .int .i64 (opC 9 y)]) ∧ w = w' := by
  obtain ⟨a, ha⟩ : ∃ a, a = wrp x := ⟨_, rfl⟩
  obtain ⟨b, hb⟩ : ∃ b, b = wrp y := ⟨_, rfl⟩
  have hwa : isWord a := by rw [ha]; exact wrp_word x
  have hwb : isWord b := by rw [hb]; exact wrp_word y
  have HWA := Lib.hid hwa
  have HWB := Lib.hid hwb
  have HA := Lib.hid ha.symm
  have HB := Lib.hid hb.symm
  unfold isWord at hwa hwb
  have hc : opC 9 y = 0 := by unfold opC exc; rw [if_neg (by omega)]
  have hr : opR 9 x y = a / two (bts b % 4) := by unfold opR res; rw [← ha, ← hb]; rfl
  obtain ⟨n, hn, hn1, hn2⟩ := cnt b
  have HN1 := Lib.hid hn1
  have HN2 := Lib.hid hn2
  have hb15 := bts_le b
  clear hn1 hn2
  rw [hc]
  have HR := Lib.hid hr
  clear ha hb hc hr
  go_enter Try.func17, Try.ntmps17
  go_wp2_with (first
    | (go_at_call_of 11 (Value.int .i64 x); refine (rwrap_is _ _).mono ?_; rintro e w' ⟨rfl, rfl⟩; rw [HA.out])
    | (go_at_call_of 11 (Value.int .i64 y); refine (rwrap_is _ _).mono ?_; rintro e w' ⟨rfl, rfl⟩; rw [HB.out])
    | (go_at_call 12; refine (rbits_is _ _).mono ?_; rintro e w' ⟨rfl, rfl⟩)
    | (go_at_call 25; rw [HN1.out]; refine (halved_is a n HWA.out hn _).mono ?_; rintro e w' ⟨rfl, rfl⟩))
  go_ret2
  exact ⟨two_ret2 (by rw [HR.out, HN2.out]) rfl, rfl⟩
set_option maxRecDepth 100000 in
set_option maxHeartbeats 1000000 in
theorem rop_less : Calls Try.prog 17 #[.int .i64 10, .int .i64 x, .int .i64 y] w fun e w' => e = .returned (.tuple #[.int .i64 (opR 10 x y), .int .i64 (opC 10 y)]) ∧ w = w' := by
  obtain ⟨a, ha⟩ : ∃ a, a = wrp x := ⟨_, rfl⟩
  obtain ⟨b, hb⟩ : ∃ b, b = wrp y := ⟨_, rfl⟩
  have hwa : isWord a := by rw [ha]; exact wrp_word x
  have hwb : isWord b := by rw [hb]; exact wrp_word y
  have HWA := Lib.hid hwa
  have HWB := Lib.hid hwb
  have HA := Lib.hid ha.symm
  have HB := Lib.hid hb.symm
  unfold isWord at hwa hwb
  have hc : opC 10 y = 0 := by unfold opC exc; rw [if_neg (by omega)]
  have hr : opR 10 x y = num (decide (a < b)) := by unfold opR res; rw [← ha, ← hb]; rfl
  rw [hc]
  have HR := Lib.hid hr
  clear ha hb hc hr
  go_enter Try.func17, Try.ntmps17
  go_wp2_with (first
    | (go_at_call_of 11 (Value.int .i64 x); refine (rwrap_is _ _).mono ?_; rintro e w' ⟨rfl, rfl⟩; rw [HA.out])
    | (go_at_call_of 11 (Value.int .i64 y); refine (rwrap_is _ _).mono ?_; rintro e w' ⟨rfl, rfl⟩; rw [HB.out])
    | (go_at_call 26; refine (rnumber_is _ _).mono ?_; rintro e w' ⟨rfl, rfl⟩))
  go_ret2
  exact ⟨two_ret2 HR.out.symm rfl, rfl⟩
set_option maxRecDepth 100000 in
set_option maxHeartbeats 1000000 in
theorem rop_same : Calls Try.prog 17 #[.int .i64 11, .int .i64 x, .int .i64 y] w fun e w' => e = .returned (.tuple #[.int .i64 (opR 11 x y), .int .i64 (opC 11 y)]) ∧ w = w' := by
  obtain ⟨a, ha⟩ : ∃ a, a = wrp x := ⟨_, rfl⟩
  obtain ⟨b, hb⟩ : ∃ b, b = wrp y := ⟨_, rfl⟩
  have hwa : isWord a := by rw [ha]; exact wrp_word x
  have hwb : isWord b := by rw [hb]; exact wrp_word y
  have HWA := Lib.hid hwa
  have HWB := Lib.hid hwb
  have HA := Lib.hid ha.symm
  have HB := Lib.hid hb.symm
  unfold isWord at hwa hwb
  have hc : opC 11 y = 0 := by unfold opC exc; rw [if_neg (by omega)]
  have hr : opR 11 x y = num (decide (a = b)) := by unfold opR res; rw [← ha, ← hb]; rfl
  rw [hc]
  have HR := Lib.hid hr
  clear ha hb hc hr
  go_enter Try.func17, Try.ntmps17
  go_wp2_with (first
    | (go_at_call_of 11 (Value.int .i64 x); refine (rwrap_is _ _).mono ?_; rintro e w' ⟨rfl, rfl⟩; rw [HA.out])
    | (go_at_call_of 11 (Value.int .i64 y); refine (rwrap_is _ _).mono ?_; rintro e w' ⟨rfl, rfl⟩; rw [HB.out])
    | (go_at_call 26; refine (rnumber_is _ _).mono ?_; rintro e w' ⟨rfl, rfl⟩))
  go_ret2
  exact ⟨two_ret2 HR.out.symm rfl, rfl⟩
set_option maxRecDepth 100000 in
set_option maxHeartbeats 1000000 in
theorem rop_both : Calls Try.prog 17 #[.int .i64 12, .int .i64 x, .int .i64 y] w fun e w' => e = .returned (.tuple #[.int .i64 (opR 12 x y), .int .i64 (opC 12 y)]) ∧ w = w' := by
  obtain ⟨a, ha⟩ : ∃ a, a = wrp x := ⟨_, rfl⟩
  obtain ⟨b, hb⟩ : ∃ b, b = wrp y := ⟨_, rfl⟩
  have hwa : isWord a := by rw [ha]; exact wrp_word x
  have hwb : isWord b := by rw [hb]; exact wrp_word y
  have HWA := Lib.hid hwa
  have HWB := Lib.hid hwb
  have HA := Lib.hid ha.symm
  have HB := Lib.hid hb.symm
  unfold isWord at hwa hwb
  have hc : opC 12 y = 0 := by unfold opC exc; rw [if_neg (by omega)]
  have hr : opR 12 x y = num (decide (a ≠ 0 ∧ b ≠ 0)) := by unfold opR res; rw [← ha, ← hb]; rfl
  rw [hc]
  have HR := Lib.hid hr
  clear ha hb hc hr
  by_cases h1 : a = 0
  all_goals by_cases h2 : b = 0
  all_goals
    go_enter Try.func17, Try.ntmps17
    go_wp2_with (first
      | (go_at_call_of 11 (Value.int .i64 x); refine (rwrap_is _ _).mono ?_; rintro e w' ⟨rfl, rfl⟩; rw [HA.out])
      | (go_at_call_of 11 (Value.int .i64 y); refine (rwrap_is _ _).mono ?_; rintro e w' ⟨rfl, rfl⟩; rw [HB.out])
      | (go_at_call 26; refine (rnumber_is _ _).mono ?_; rintro e w' ⟨rfl, rfl⟩))
    go_ret2
    exact ⟨two_ret2 (by rw [HR.out]; exact congrArg num (a₂ := decide (a ≠ 0 ∧ b ≠ 0)) (by rw [Bool.eq_iff_iff]; simp [h1, h2])) rfl, rfl⟩
set_option maxRecDepth 100000 in
set_option maxHeartbeats 1000000 in
theorem rop_some : Calls Try.prog 17 #[.int .i64 13, .int .i64 x, .int .i64 y] w fun e w' => e = .returned (.tuple #[.int .i64 (opR 13 x y), .int .i64 (opC 13 y)]) ∧ w = w' := by
  obtain ⟨a, ha⟩ : ∃ a, a = wrp x := ⟨_, rfl⟩
  obtain ⟨b, hb⟩ : ∃ b, b = wrp y := ⟨_, rfl⟩
  have hwa : isWord a := by rw [ha]; exact wrp_word x
  have hwb : isWord b := by rw [hb]; exact wrp_word y
  have HWA := Lib.hid hwa
  have HWB := Lib.hid hwb
  have HA := Lib.hid ha.symm
  have HB := Lib.hid hb.symm
  unfold isWord at hwa hwb
  have hc : opC 13 y = 0 := by unfold opC exc; rw [if_neg (by omega)]
  have hr : opR 13 x y = num (decide (a ≠ 0 ∨ b ≠ 0)) := by unfold opR res; rw [← ha, ← hb]; rfl
  rw [hc]
  have HR := Lib.hid hr
  clear ha hb hc hr
  by_cases h1 : a = 0
  all_goals by_cases h2 : b = 0
  all_goals
    go_enter Try.func17, Try.ntmps17
    go_wp2_with (first
      | (go_at_call_of 11 (Value.int .i64 x); refine (rwrap_is _ _).mono ?_; rintro e w' ⟨rfl, rfl⟩; rw [HA.out])
      | (go_at_call_of 11 (Value.int .i64 y); refine (rwrap_is _ _).mono ?_; rintro e w' ⟨rfl, rfl⟩; rw [HB.out])
      | (go_at_call 26; refine (rnumber_is _ _).mono ?_; rintro e w' ⟨rfl, rfl⟩))
    go_ret2
    exact ⟨two_ret2 (by rw [HR.out]; exact congrArg num (a₂ := decide (a ≠ 0 ∨ b ≠ 0)) (by rw [Bool.eq_iff_iff]; simp [h1, h2])) rfl, rfl⟩
theorem rop_no (op : Int) (h : ¬ (0 ≤ op ∧ op < 14)) : Calls Try.prog 17 #[.int .i64 op, .int .i64 x, .int .i64 y] w fun e w' => e = .returned (.tuple #[.int .i64 (opR op x y), .int .i64 (opC op y)]) ∧ w = w' := by
  have hr : opR op x y = 0 := by
    unfold opR res
    repeat rw [if_neg (by omega)]
  have hc : opC op y = 0 := by unfold opC exc; rw [if_neg (by omega)]
  rw [hr, hc]
  have e0 : (op == 0) = false := beq_eq_false_iff_ne.2 (by omega)
  have e1 : (op == 1) = false := beq_eq_false_iff_ne.2 (by omega)
  have e2 : (op == 2) = false := beq_eq_false_iff_ne.2 (by omega)
  have e3 : (op == 3) = false := beq_eq_false_iff_ne.2 (by omega)
  have e4 : (op == 4) = false := beq_eq_false_iff_ne.2 (by omega)
  have e5 : (op == 5) = false := beq_eq_false_iff_ne.2 (by omega)
  have e6 : (op == 6) = false := beq_eq_false_iff_ne.2 (by omega)
  have e7 : (op == 7) = false := beq_eq_false_iff_ne.2 (by omega)
  have e8 : (op == 8) = false := beq_eq_false_iff_ne.2 (by omega)
  have e9 : (op == 9) = false := beq_eq_false_iff_ne.2 (by omega)
  have e10 : (op == 10) = false := beq_eq_false_iff_ne.2 (by omega)
  have e11 : (op == 11) = false := beq_eq_false_iff_ne.2 (by omega)
  have e12 : (op == 12) = false := beq_eq_false_iff_ne.2 (by omega)
  have e13 : (op == 13) = false := beq_eq_false_iff_ne.2 (by omega)
  clear h hr hc
  go_enter Try.func17, Try.ntmps17
  go_wp2_with (go_at_call 11; refine (rwrap_is _ _).mono ?_; rintro e w' ⟨rfl, rfl⟩)
  go_ret2
  exact ⟨rfl, rfl⟩
end

/-- The specification's Op, whatever the operation and the operands. -/
theorem rop_is (op x y : Int) (w : World) : Calls Try.prog 17 #[.int .i64 op, .int .i64 x, .int .i64 y] w fun e w' => e = .returned (.tuple #[.int .i64 (opR op x y), .int .i64 (opC op y)]) ∧ w = w' := by
  by_cases h : 0 ≤ op ∧ op < 14
  · have : op = 0 ∨ op = 1 ∨ op = 2 ∨ op = 3 ∨ op = 4 ∨ op = 5 ∨ op = 6 ∨ op = 7 ∨ op = 8 ∨ op = 9 ∨ op = 10 ∨ op = 11 ∨ op = 12 ∨ op = 13 := by omega
    rcases this with rfl | rfl | rfl | rfl | rfl | rfl | rfl | rfl | rfl | rfl | rfl | rfl | rfl | rfl
    · exact rop_add x y w
    · exact rop_sub x y w
    · exact rop_mul x y w
    · by_cases h0 : wrp y = 0
      · exact rop_div_no x y w h0
      · exact rop_div x y w h0
    · by_cases h0 : wrp y = 0
      · exact rop_mod_no x y w h0
      · exact rop_mod x y w h0
    · exact rop_and x y w
    · exact rop_or x y w
    · exact rop_xor x y w
    · exact rop_shl x y w
    · exact rop_shr x y w
    · exact rop_less x y w
    · exact rop_same x y w
    · exact rop_both x y w
    · exact rop_some x y w
  · exact rop_no x y w op h
end Go.Proofs.Ythjdonjcaekaaaa
