/-
  word: the functions of the table.
-/
import Derived.Test.YthjdonjcaekaaaaWdFn
namespace Go.Proofs.Ythjdonjcaekaaaa
open Go.RowKit WD

/-- What the table's function of an operation returns for two words: a number with the word of the result. -/
def raw (op a b : Int) : Int :=
  if op = 0 then a + b else if op = 1 then a - b else if op = 2 then a * b
  else if op = 3 then a.tdiv b else if op = 4 then a.tmod b
  else if op = 5 then bits .and .i64 a b else if op = 6 then bits .or .i64 a b else if op = 7 then bits .xor .i64 a b
  else if op = 8 then a * two (bts b % 4) else if op = 9 then a / two (bts b % 4)
  else if op = 10 then num (decide (a < b)) else if op = 11 then num (decide (a = b)) else if op = 12 then num (decide (a ≠ 0 ∧ b ≠ 0)) else num (decide (a ≠ 0 ∨ b ≠ 0))

section
variable (a b : Int) (w : World)
theorem f_add (ha : isWord a) (hb : isWord b) : Calls Try.prog 27 #[.int .i64 a, .int .i64 b] w fun e w' => e = .returned (.int .i64 (raw 0 a b)) ∧ w = w' := by
  unfold isWord at ha hb
  go_enter Try.func27, Try.ntmps27
  go_wp2
  go_ret
  exact ⟨rfl, rfl⟩
theorem f_sub (ha : isWord a) (hb : isWord b) : Calls Try.prog 28 #[.int .i64 a, .int .i64 b] w fun e w' => e = .returned (.int .i64 (raw 1 a b)) ∧ w = w' := by
  unfold isWord at ha hb
  go_enter Try.func28, Try.ntmps28
  go_wp2
  go_ret
  exact ⟨rfl, rfl⟩
theorem mul_le {a b : Int} (ha : isWord a) (hb : isWord b) : -56 ≤ a * b ∧ a * b ≤ 64 := by
  have := by_words2 (p := fun a b => decide (-56 ≤ a * b ∧ a * b ≤ 64)) (by decide +kernel) ha hb
  simpa using this
theorem f_mul (ha : isWord a) (hb : isWord b) : Calls Try.prog 29 #[.int .i64 a, .int .i64 b] w fun e w' => e = .returned (.int .i64 (raw 2 a b)) ∧ w = w' := by
  have h := mul_le ha hb
  have hw : IntKind.i64.wrap (a * b) = a * b := by rw [IntKind.wrap_i64]; omega
  go_enter Try.func29, Try.ntmps29
  go_wp2
  go_ret
  exact ⟨rfl, rfl⟩
theorem div_le {a b : Int} (ha : isWord a) (hb : isWord b) : -8 ≤ a.tdiv b ∧ a.tdiv b ≤ 8 := by
  have := by_words2 (p := fun a b => decide (-8 ≤ a.tdiv b ∧ a.tdiv b ≤ 8)) (by decide +kernel) ha hb
  simpa using this
theorem wrap64_small {n : Int} (h0 : -1000000 ≤ n) (h1 : n ≤ 1000000) : wrap64 n = n := IntWalk.wrap64_in n ⟨by omega, by omega⟩
theorem f_div (ha : isWord a) (hb : isWord b) (h0 : b ≠ 0) : Calls Try.prog 30 #[.int .i64 a, .int .i64 b] w fun e w' => e = .returned (.int .i64 (raw 3 a b)) ∧ w = w' := by
  have h := div_le ha hb
  go_enter Try.func30, Try.ntmps30
  go_wp2
  go_ret
  exact ⟨rfl, rfl⟩
theorem f_mod (h0 : b ≠ 0) : Calls Try.prog 31 #[.int .i64 a, .int .i64 b] w fun e w' => e = .returned (.int .i64 (raw 4 a b)) ∧ w = w' := by
  go_enter Try.func31, Try.ntmps31
  go_wp2
  go_ret
  exact ⟨rfl, rfl⟩
theorem f_and : Calls Try.prog 32 #[.int .i64 a, .int .i64 b] w fun e w' => e = .returned (.int .i64 (raw 5 a b)) ∧ w = w' := by
  go_enter Try.func32, Try.ntmps32
  go_wp2
  go_ret
  exact ⟨rfl, rfl⟩
theorem f_or : Calls Try.prog 33 #[.int .i64 a, .int .i64 b] w fun e w' => e = .returned (.int .i64 (raw 6 a b)) ∧ w = w' := by
  go_enter Try.func33, Try.ntmps33
  go_wp2
  go_ret
  exact ⟨rfl, rfl⟩
theorem f_xor : Calls Try.prog 34 #[.int .i64 a, .int .i64 b] w fun e w' => e = .returned (.int .i64 (raw 7 a b)) ∧ w = w' := by
  go_enter Try.func34, Try.ntmps34
  go_wp2
  go_ret
  exact ⟨rfl, rfl⟩
theorem shl_of {k : Int} (ha : isWord a) (h0 : 0 ≤ k) (h1 : k < 4) : IntKind.i64.wrap (a * 2 ^ min k.toNat IntKind.i64.bits) = a * two k := by
  have : k = 0 ∨ k = 1 ∨ k = 2 ∨ k = 3 := by omega
  unfold isWord at ha
  rcases this with rfl | rfl | rfl | rfl <;> (rw [IntKind.wrap_i64]; simp [two, IntKind.bits]; omega)
theorem shr_of {k : Int} (h0 : 0 ≤ k) (h1 : k < 4) : a / 2 ^ min k.toNat IntKind.i64.bits = a / two k := by
  have : k = 0 ∨ k = 1 ∨ k = 2 ∨ k = 3 := by omega
  rcases this with rfl | rfl | rfl | rfl <;> rfl
theorem f_shl (ha : isWord a) : Calls Try.prog 35 #[.int .i64 a, .int .i64 b] w fun e w' => e = .returned (.int .i64 (raw 8 a b)) ∧ w = w' := by
  have hk : 0 ≤ bts b % 4 ∧ bts b % 4 < 4 := by have := bts_le b; omega
  have hs := shl_of a ha hk.1 hk.2
  obtain ⟨k, hk2⟩ : ∃ k, k = bts b % 4 := ⟨_, rfl⟩
  have HK := Lib.hid hk2
  rw [← hk2] at hk hs
  clear hk2
  obtain ⟨hk0, hk1⟩ := hk
  go_enter Try.func35, Try.ntmps35
  go_wp2_with (go_at_call 36; refine (shift_is _ _).mono ?_; rintro e w' ⟨rfl, rfl⟩; rw [← HK.out])
  go_ret
  refine ⟨ret_i (b := raw 8 a b) ?_, rfl⟩
  have e : raw 8 a b = a * two k := by rw [HK.out]; rfl
  have hp : min k.toNat IntKind.i64.bits = k.toNat := by simp [IntKind.bits]; omega
  rw [e, ← hs, hp]
  exact (IntWalk.i64_left _).symm
theorem f_shr : Calls Try.prog 37 #[.int .i64 a, .int .i64 b] w fun e w' => e = .returned (.int .i64 (raw 9 a b)) ∧ w = w' := by
  have hk : 0 ≤ bts b % 4 ∧ bts b % 4 < 4 := by have := bts_le b; omega
  have hs := shr_of a hk.1 hk.2
  obtain ⟨k, hk2⟩ : ∃ k, k = bts b % 4 := ⟨_, rfl⟩
  have HK := Lib.hid hk2
  rw [← hk2] at hk hs
  clear hk2
  obtain ⟨hk0, hk1⟩ := hk
  go_enter Try.func37, Try.ntmps37
  go_wp2_with (go_at_call 36; refine (shift_is _ _).mono ?_; rintro e w' ⟨rfl, rfl⟩; rw [← HK.out])
  go_ret
  exact ⟨by simp only [raw]; rw [← HK.out]; rfl, rfl⟩
theorem f_less : Calls Try.prog 38 #[.int .i64 a, .int .i64 b] w fun e w' => e = .returned (.int .i64 (raw 10 a b)) ∧ w = w' := by
  go_enter Try.func38, Try.ntmps38
  go_wp2_with (go_at_call 39; refine (number_is _ _).mono ?_; rintro e w' ⟨rfl, rfl⟩)
  go_ret
  exact ⟨rfl, rfl⟩
theorem f_same : Calls Try.prog 40 #[.int .i64 a, .int .i64 b] w fun e w' => e = .returned (.int .i64 (raw 11 a b)) ∧ w = w' := by
  go_enter Try.func40, Try.ntmps40
  go_wp2_with (go_at_call 39; refine (number_is _ _).mono ?_; rintro e w' ⟨rfl, rfl⟩)
  go_ret
  exact ⟨rfl, rfl⟩
theorem f_both : Calls Try.prog 41 #[.int .i64 a, .int .i64 b] w fun e w' => e = .returned (.int .i64 (raw 12 a b)) ∧ w = w' := by
  by_cases h1 : a = 0
  all_goals by_cases h2 : b = 0
  all_goals
    go_enter Try.func41, Try.ntmps41
    go_wp2_with (go_at_call 39; refine (number_is _ _).mono ?_; rintro e w' ⟨rfl, rfl⟩)
    go_ret
    exact ⟨ret_i (congrArg num (a₂ := decide (a ≠ 0 ∧ b ≠ 0)) (by rw [Bool.eq_iff_iff]; simp [h1, h2])), rfl⟩
theorem f_some : Calls Try.prog 42 #[.int .i64 a, .int .i64 b] w fun e w' => e = .returned (.int .i64 (raw 13 a b)) ∧ w = w' := by
  by_cases h1 : a = 0
  all_goals by_cases h2 : b = 0
  all_goals
    go_enter Try.func42, Try.ntmps42
    go_wp2_with (go_at_call 39; refine (number_is _ _).mono ?_; rintro e w' ⟨rfl, rfl⟩)
    go_ret
    exact ⟨ret_i (congrArg num (a₂ := decide (a ≠ 0 ∨ b ≠ 0)) (by rw [Bool.eq_iff_iff]; simp [h1, h2])), rfl⟩
end
end Go.Proofs.Ythjdonjcaekaaaa
