/-
  The specification of word: Wrap, Bits, Truth, Number, quotient, bitwise, doubled, halved.
-/
import Derived.Test.YthjdonjcaekaaaaWdFn
import Derived.LoopTactic
namespace Go.Proofs.Ythjdonjcaekaaaa
open Go.RowKit WD

theorem tmod_bd (n : Int) : -15 ≤ n.tmod 16 ∧ n.tmod 16 ≤ 15 ∧ n.tmod 16 % 16 = n % 16 := by
  rcases Int.le_total 0 n with h | h
  · rw [Int.tmod_eq_emod_of_nonneg h]; omega
  · obtain ⟨m, rfl⟩ : ∃ m : Int, n = -m := ⟨-n, by omega⟩
    rw [Int.neg_tmod, Int.tmod_eq_emod_of_nonneg (by omega)]; omega
theorem rwrap_is (n : Int) (w : World) :
    Calls Try.prog 11 #[.int .i64 n] w fun e w' => e = .returned (.int .i64 (wrp n)) ∧ w = w' := by
  obtain ⟨h1, h2, h3⟩ := tmod_bd n
  have hw : (n.tmod 16 < -8 → wrp n = n.tmod 16 + 16) ∧ (7 < n.tmod 16 → wrp n = n.tmod 16 - 16) ∧ (¬ n.tmod 16 < -8 → ¬ 7 < n.tmod 16 → wrp n = n.tmod 16) := by unfold wrp; omega
  obtain ⟨a1, a2, a3⟩ := hw
  have A1 := Lib.hid a1
  have A2 := Lib.hid a2
  have A3 := Lib.hid a3
  clear a1 a2 a3 h3
  by_cases c1 : n.tmod 16 < -8
  · go_enter Try.func11, Try.ntmps11
    go_wp2
    go_ret
    exact ⟨ret_i (A1.out c1).symm, rfl⟩
  · by_cases c2 : 7 < n.tmod 16
    · go_enter Try.func11, Try.ntmps11
      go_wp2
      go_ret
      exact ⟨ret_i (A2.out c2).symm, rfl⟩
    · go_enter Try.func11, Try.ntmps11
      go_wp2
      go_ret
      exact ⟨ret_i (A3.out c1 c2).symm, rfl⟩
theorem rbits_is (n : Int) (w : World) :
    Calls Try.prog 12 #[.int .i64 n] w fun e w' => e = .returned (.int .i64 (bts n)) ∧ w = w' := by
  have hb := wrp_le n
  have hr : (wrp n + 16) % 16 = bts n := by unfold wrp bts; omega
  have HR := Lib.hid hr
  clear hr
  go_enter Try.func12, Try.ntmps12
  go_wp2_with (go_at_call 11; refine (rwrap_is _ _).mono ?_; rintro e w' ⟨rfl, rfl⟩)
  go_ret
  exact ⟨ret_i HR.out, rfl⟩
theorem rtruth_is (op : Int) (w : World) :
    Calls Try.prog 14 #[.int .i64 op] w fun e w' => e = .returned (.bool (tru op)) ∧ w = w' := by
  by_cases h1 : op = 10
  · subst h1
    go_enter Try.func14, Try.ntmps14
    go_wp2
    go_ret
    exact ⟨rfl, rfl⟩
  · by_cases h2 : op = 11
    · subst h2
      go_enter Try.func14, Try.ntmps14
      go_wp2
      go_ret
      exact ⟨rfl, rfl⟩
    · by_cases h3 : op = 12
      · subst h3
        go_enter Try.func14, Try.ntmps14
        go_wp2
        go_ret
        exact ⟨rfl, rfl⟩
      · have e1 : (op == 10) = false := beq_eq_false_iff_ne.2 h1
        have e2 : (op == 11) = false := beq_eq_false_iff_ne.2 h2
        have e3 : (op == 12) = false := beq_eq_false_iff_ne.2 h3
        have hr : (op == 13) = tru op := by
          rw [Bool.eq_iff_iff]; unfold tru
          simp [h1, h2, h3]
        have HR := Lib.hid hr
        clear hr h1 h2 h3
        go_enter Try.func14, Try.ntmps14
        go_wp2
        go_ret
        exact ⟨ret_b HR.out, rfl⟩
theorem rnumber_is (b : Bool) (w : World) :
    Calls Try.prog 26 #[.bool b] w fun e w' => e = .returned (.int .i64 (num b)) ∧ w = w' := by
  cases b
  all_goals
    go_enter Try.func26, Try.ntmps26
    go_wp2
    go_ret
    exact ⟨rfl, rfl⟩

theorem quot_pos (a b : Int) (ha : 0 ≤ a) (ha2 : a ≤ 8) (hb : 0 < b) (hb2 : b ≤ 8) (w : World) :
    Calls Try.prog 22 #[.int .i64 a, .int .i64 b] w fun e w' => e = .returned (.int .i64 (a.tdiv b)) ∧ w = w' := by
  have hq : a.tdiv b = a / b := Int.tdiv_eq_ediv_of_nonneg ha
  rw [hq]
  clear hq
  go_enter Try.func22, Try.ntmps22
  go_wp2_with fail
  go_loop [0, 5] (fun x n => ∃ (y : Int) (k : Nat), 0 ≤ y ∧ y ≤ 8 ∧ (k : Int) + y ≤ 8 ∧ y + k * b = a ∧ x = .int .i64 y ∧ n = .int .i64 k) (fun x _ => (intOf x).toNat)
  case atStart => exact ⟨a, 0, ha, ha2, by omega, by simp, rfl, rfl⟩
  case round =>
    obtain ⟨y, k, hy, hy2, hk, he, rfl, rfl⟩ := hrel
    have HE := Lib.hid he
    clear he
    by_cases hlt : b ≤ y
    · go_wp2_with fail
      go_round
      case rel => exact ⟨y - b, k + 1, by omega, by omega, by omega, by have := HE.out; rw [Int.natCast_add, Int.add_mul]; omega, by go_num, by go_num⟩
      case measure => simp [intOf]; omega
    · go_wp2_with fail
      go_ret
      refine ⟨ret_i ?_, rfl⟩
      have := HE.out
      rw [← this, Int.add_mul_ediv_right _ _ (by omega), Int.ediv_eq_zero_of_lt hy (by omega), Int.zero_add]
theorem quot_nonneg (a b : Int) (ha : 0 ≤ a) (ha2 : a ≤ 8) (hb : -8 ≤ b) (hb2 : b ≤ 8) (h0 : b ≠ 0) (w : World) :
    Calls Try.prog 22 #[.int .i64 a, .int .i64 b] w fun e w' => e = .returned (.int .i64 (a.tdiv b)) ∧ w = w' := by
  by_cases hp : 0 < b
  · exact quot_pos a b ha ha2 hp hb2 w
  · have hn : b < 0 := by omega
    have hq : -(a.tdiv (-b)) = a.tdiv b := by rw [Int.tdiv_neg, Int.neg_neg]
    have hd : 0 ≤ a.tdiv (-b) ∧ a.tdiv (-b) ≤ 8 := by
      rw [Int.tdiv_eq_ediv_of_nonneg ha]
      exact ⟨Int.ediv_nonneg ha (by omega), Int.le_trans (Int.ediv_le_self _ ha) ha2⟩
    have HQ := Lib.hid hq
    clear hq
    obtain ⟨d1, d2⟩ := hd
    go_enter Try.func22, Try.ntmps22
    go_wp2_with (go_at_call 22; refine (quot_pos a (-b) ha ha2 (by omega) (by omega) _).mono ?_; rintro e w' ⟨rfl, rfl⟩)
    go_ret
    exact ⟨ret_i (IntWalk.wrap64_in _ ⟨by have := HQ.out; omega, by have := HQ.out; omega⟩), rfl⟩
theorem quot_is (a b : Int) (ha : isWord a) (hb : isWord b) (h0 : b ≠ 0) (w : World) :
    Calls Try.prog 22 #[.int .i64 a, .int .i64 b] w fun e w' => e = .returned (.int .i64 (a.tdiv b)) ∧ w = w' := by
  unfold isWord at ha hb
  by_cases hp : 0 ≤ a
  · exact quot_nonneg a b hp (by omega) (by omega) (by omega) h0 w
  · have hn : a < 0 := by omega
    have hq : -((-a).tdiv b) = a.tdiv b := by rw [Int.neg_tdiv, Int.neg_neg]
    have hd : -8 ≤ (-a).tdiv b ∧ (-a).tdiv b ≤ 8 := by
      have := by_words2 (p := fun a b => decide (-8 ≤ (-a).tdiv b ∧ (-a).tdiv b ≤ 8)) (by decide +kernel) (a := a) (b := b) ha hb
      simpa using this
    have HQ := Lib.hid hq
    clear hq
    obtain ⟨d1, d2⟩ := hd
    go_enter Try.func22, Try.ntmps22
    go_wp2_with (go_at_call 22; refine (quot_nonneg (-a) b (by omega) (by omega) (by omega) (by omega) h0 _).mono ?_; rintro e w' ⟨rfl, rfl⟩)
    go_ret
    exact ⟨ret_i (IntWalk.wrap64_in _ ⟨by have := HQ.out; omega, by have := HQ.out; omega⟩), rfl⟩

theorem dbl_next (a : Int) (k : Nat) : wrp (wrp (a * 2 ^ k) + wrp (a * 2 ^ k)) = wrp (a * 2 ^ (k + 1)) := by
  rw [Int.pow_succ, ← Int.mul_assoc]
  unfold wrp; omega
theorem doubled_is (a : Int) (n : Nat) (ha : isWord a) (hn : n ≤ 3) (w : World) :
    Calls Try.prog 24 #[.int .i64 a, .int .i64 (n : Int)] w fun e w' => e = .returned (.int .i64 (wrp (a * 2 ^ n))) ∧ w = w' := by
  have hs : a = wrp (a * 2 ^ 0) := by rw [Int.pow_zero, Int.mul_one, wrp_of ha]
  have HS := Lib.hid hs
  clear hs
  go_enter Try.func24, Try.ntmps24
  go_wp2_with fail
  go_loop [0, 5] (fun x i => ∃ k : Nat, k ≤ n ∧ i = .int .i64 k ∧ x = .int .i64 (wrp (a * 2 ^ k))) (fun _ i => n - (intOf i).toNat)
  case atStart => exact ⟨0, Nat.zero_le _, rfl, by rw [← HS.out]⟩
  case round =>
    obtain ⟨k, hk, rfl, rfl⟩ := hrel
    have hx := wrp_le (a * 2 ^ k)
    have hd := dbl_next a k
    have HD := Lib.hid hd
    clear hd
    by_cases hlt : k < n
    · go_wp2_with (go_at_call 11; refine (rwrap_is _ _).mono ?_; rintro e w' ⟨rfl, rfl⟩)
      go_round
      case rel => exact ⟨k + 1, by omega, by go_num, by rw [HD.out]⟩
      case measure => simp [intOf]; omega
    · have hkn : k = n := by omega
      go_wp2_with fail
      go_ret
      exact ⟨rfl, rfl⟩
theorem halved_is (a : Int) (n : Nat) (ha : isWord a) (hn : n ≤ 3) (w : World) :
    Calls Try.prog 25 #[.int .i64 a, .int .i64 (n : Int)] w fun e w' => e = .returned (.int .i64 (a / 2 ^ n)) ∧ w = w' := by
  unfold isWord at ha
  go_enter Try.func25, Try.ntmps25
  go_wp2_with fail
  go_loop [0, 5] (fun x i => ∃ (k : Nat) (y : Int), k ≤ n ∧ -8 ≤ y ∧ y ≤ 7 ∧ y = a / 2 ^ k ∧ i = .int .i64 k ∧ x = .int .i64 y) (fun _ i => n - (intOf i).toNat)
  case atStart => exact ⟨0, a, Nat.zero_le _, by omega, by omega, by simp, rfl, rfl⟩
  case round =>
    obtain ⟨k, y, hk, h1, h2, hy, rfl, rfl⟩ := hrel
    have hd : y / 2 = a / 2 ^ (k + 1) := by rw [hy, Int.ediv_ediv_of_nonneg (Int.pow_nonneg (by decide)), ← Int.pow_succ]
    have HD := Lib.hid hd
    have HY := Lib.hid hy
    clear hd hy
    by_cases hlt : k < n
    · by_cases hneg : y < 0
      · go_wp2_with fail
        go_round
        case rel => exact ⟨k + 1, y / 2, by omega, by omega, by omega, HD.out, by go_num, by congr 1; omega⟩
        case measure => simp [intOf]; omega
      · go_wp2_with fail
        go_round
        case rel => exact ⟨k + 1, y / 2, by omega, by omega, by omega, HD.out, by go_num, by congr 1⟩
        case measure => simp [intOf]; omega
    · have hkn : k = n := by omega
      go_wp2_with fail
      go_ret
      exact ⟨ret_i (by rw [HY.out, hkn]), rfl⟩
end Go.Proofs.Ythjdonjcaekaaaa
