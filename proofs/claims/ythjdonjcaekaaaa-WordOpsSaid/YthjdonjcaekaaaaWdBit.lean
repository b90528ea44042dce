/-
  The specification of word: bitwise.
-/
import Derived.Test.YthjdonjcaekaaaaWdRef
import Derived.Deep.RegionWith
namespace Go.Proofs.Ythjdonjcaekaaaa
open Go.RowKit WD

/-- The bits of two numbers, combined, those below the k-th. -/
def sumTo (f : Bool → Bool → Bool) (X Y : Nat) : Nat → Nat
  | 0 => 0
  | k + 1 => sumTo f X Y k + if f (decide (X / 2 ^ k % 2 = 1)) (decide (Y / 2 ^ k % 2 = 1)) then 2 ^ k else 0
theorem sumTo_lt (f : Bool → Bool → Bool) (X Y k : Nat) : sumTo f X Y k < 2 ^ k := by
  induction k with
  | zero => simp [sumTo]
  | succ k ih =>
    have : 2 ^ (k + 1) = 2 ^ k + 2 ^ k := by rw [Nat.pow_succ]; omega
    unfold sumTo
    split <;> omega
/-- Which combinations of two bits give 1. -/
def both3 (one two both : Bool) (p q : Bool) : Bool := p && q && both || p && !q && one || !p && q && two
theorem sumTo_and {a b : Int} (ha : isWord a) (hb : isWord b) : wrp (sumTo (both3 false false true) (bts a).toNat (bts b).toNat 4 : Nat) = comb Nat.land a b := by
  have h := by_words2 (p := fun a b => decide (wrp (sumTo (both3 false false true) (bts a).toNat (bts b).toNat 4 : Nat) = comb Nat.land a b)) (by decide +kernel) ha hb
  exact of_decide_eq_true h
theorem sumTo_or {a b : Int} (ha : isWord a) (hb : isWord b) : wrp (sumTo (both3 true true true) (bts a).toNat (bts b).toNat 4 : Nat) = comb Nat.lor a b := by
  have h := by_words2 (p := fun a b => decide (wrp (sumTo (both3 true true true) (bts a).toNat (bts b).toNat 4 : Nat) = comb Nat.lor a b)) (by decide +kernel) ha hb
  exact of_decide_eq_true h
theorem sumTo_xor {a b : Int} (ha : isWord a) (hb : isWord b) : wrp (sumTo (both3 true true false) (bts a).toNat (bts b).toNat 4 : Nat) = comb Nat.xor a b := by
  have h := by_words2 (p := fun a b => decide (wrp (sumTo (both3 true true false) (bts a).toNat (bts b).toNat 4 : Nat) = comb Nat.xor a b)) (by decide +kernel) ha hb
  exact of_decide_eq_true h
theorem sum_yes {f : Bool → Bool → Bool} {X Y k : Nat} {p q : Bool} (hp : decide (X / 2 ^ k % 2 = 1) = p) (hq : decide (Y / 2 ^ k % 2 = 1) = q) (h : f p q = true) : sumTo f X Y (k + 1) = sumTo f X Y k + 2 ^ k := by
  rw [sumTo, hp, hq, if_pos h]
theorem sum_no {f : Bool → Bool → Bool} {X Y k : Nat} {p q : Bool} (hp : decide (X / 2 ^ k % 2 = 1) = p) (hq : decide (Y / 2 ^ k % 2 = 1) = q) (h : ¬ f p q = true) : sumTo f X Y (k + 1) = sumTo f X Y k := by
  rw [sumTo, hp, hq, if_neg h, Nat.add_zero]

/-- The loop's relation, at the bit k. -/
def BitRel (f : Bool → Bool → Bool) (X Y : Nat) (x y s v i : Value) : Prop :=
  ∃ k : Nat, k ≤ 4 ∧ x = .int .i64 ((X / 2 ^ k : Nat) : Int) ∧ y = .int .i64 ((Y / 2 ^ k : Nat) : Int) ∧ s = .int .i64 ((sumTo f X Y k : Nat) : Int) ∧ v = .int .i64 ((2 ^ k : Nat) : Int) ∧ i = .int .i64 (k : Int)
theorem BitRel.step {f : Bool → Bool → Bool} {X Y k x y V S : Nat} (hk : k < 4) (hx : x = X / 2 ^ k) (hy : y = Y / 2 ^ k) (hV : V = 2 ^ k) (hS : sumTo f X Y (k + 1) = S) :
    BitRel f X Y (.int .i64 ((x : Int) / 2)) (.int .i64 ((y : Int) / 2)) (.int .i64 (S : Int)) (.int .i64 ((V : Int) * 2)) (.int .i64 ((k : Int) + 1)) := by
  refine ⟨k + 1, by omega, ?_, ?_, by rw [hS], ?_, by go_num⟩
  · rw [hx, Nat.pow_succ, ← Nat.div_div_eq_div_mul]; go_num
  · rw [hy, Nat.pow_succ, ← Nat.div_div_eq_div_mul]; go_num
  · rw [hV, Nat.pow_succ]; go_num
theorem not_t {b : Bool} (h : b = false) : ¬ b = true := by rw [h]; exact Bool.false_ne_true
theorem BitRel.step_yes {f : Bool → Bool → Bool} {X Y k x y V S : Nat} (hk : k < 4) (hx : x = X / 2 ^ k) (hy : y = Y / 2 ^ k) (hV : V = 2 ^ k) (hS : sumTo f X Y (k + 1) = S + V) :
    BitRel f X Y (.int .i64 ((x : Int) / 2)) (.int .i64 ((y : Int) / 2)) (.int .i64 ((S : Int) + (V : Int))) (.int .i64 ((V : Int) * 2)) (.int .i64 ((k : Int) + 1)) := by
  have h := BitRel.step hk hx hy hV hS
  rwa [Int.natCast_add] at h
theorem rel5 {R : Value → Value → Value → Value → Value → Prop} {a b c d e : Value} (h : R a b c d e) : ∃ u1 u2 u3 u4 u5, R u1 u2 u3 u4 u5 ∧ a = u1 ∧ b = u2 ∧ c = u3 ∧ d = u4 ∧ e = u5 := ⟨_, _, _, _, _, h, rfl, rfl, rfl, rfl, rfl⟩

set_option maxRecDepth 100000 in
set_option maxHeartbeats 4000000 in
theorem bitwise_is (a b : Int) (one two both : Bool) (f : Bool → Bool → Bool) (f11 : f true true = both) (f10 : f true false = one) (f01 : f false true = two) (f00 : f false false = false) (w : World) :
    Calls Try.prog 23 #[.int .i64 a, .int .i64 b, .bool one, .bool two, .bool both] w fun e w' => e = .returned (.int .i64 (wrp (sumTo f (bts a).toNat (bts b).toNat 4 : Nat))) ∧ w = w' := by
  obtain ⟨X, hX⟩ : ∃ X, X = (bts a).toNat := ⟨_, rfl⟩
  obtain ⟨Y, hY⟩ : ∃ Y, Y = (bts b).toNat := ⟨_, rfl⟩
  have hXa : bts a = (X : Int) := by have := bts_le a; omega
  have hYb : bts b = (Y : Int) := by have := bts_le b; omega
  have hX2 : X ≤ 15 := by have := bts_le a; omega
  have hY2 : Y ≤ 15 := by have := bts_le b; omega
  rw [← hX, ← hY]
  have HXA := Lib.hid hXa
  have HYB := Lib.hid hYb
  have F11 := Lib.hid f11
  have F10 := Lib.hid f10
  have F01 := Lib.hid f01
  have F00 := Lib.hid f00
  clear hX hY hXa hYb f11 f10 f01 f00
  go_enter Try.func23, Try.ntmps23
  go_wp2_with (first
    | (go_at_call_of 12 (Value.int .i64 a); refine (rbits_is _ _).mono ?_; rintro e w' ⟨rfl, rfl⟩; rw [HXA.out])
    | (go_at_call_of 12 (Value.int .i64 b); refine (rbits_is _ _).mono ?_; rintro e w' ⟨rfl, rfl⟩; rw [HYB.out]))
  go_loop [11, 12, 13, 14, 15] (fun x y s v i => BitRel f X Y x y s v i) (fun _ _ _ _ i => 4 - (intOf i).toNat)
  case atStart => exact ⟨0, by omega, by simp, by simp, rfl, rfl, rfl⟩
  case round =>
    obtain ⟨k, hk, rfl, rfl, rfl, rfl, rfl⟩ := hrel
    obtain ⟨x, hx⟩ : ∃ x, x = X / 2 ^ k := ⟨_, rfl⟩
    obtain ⟨y, hy⟩ : ∃ y, y = Y / 2 ^ k := ⟨_, rfl⟩
    obtain ⟨V, hV⟩ : ∃ V, V = 2 ^ k := ⟨_, rfl⟩
    obtain ⟨S, hS⟩ : ∃ S, S = sumTo f X Y k := ⟨_, rfl⟩
    rw [← hx, ← hy, ← hV, ← hS]
    have hx2 : x ≤ 15 := by rw [hx]; exact Nat.le_trans (Nat.div_le_self _ _) hX2
    have hy2 : y ≤ 15 := by rw [hy]; exact Nat.le_trans (Nat.div_le_self _ _) hY2
    have hV2 : V ≤ 16 := by rw [hV]; exact Nat.pow_le_pow_right (by decide) hk
    have hS2 : S < V := by rw [hS, hV]; exact sumTo_lt _ _ _ _
    have hyes : ∀ p q, decide (x % 2 = 1) = p → decide (y % 2 = 1) = q → f p q = true → sumTo f X Y (k + 1) = S + V := fun p q h1 h2 h => by rw [sum_yes (by rw [← hx]; exact h1) (by rw [← hy]; exact h2) h, ← hS, ← hV]
    have hno : ∀ p q, decide (x % 2 = 1) = p → decide (y % 2 = 1) = q → ¬ f p q = true → sumTo f X Y (k + 1) = S := fun p q h1 h2 h => by rw [sum_no (by rw [← hx]; exact h1) (by rw [← hy]; exact h2) h, ← hS]
    have HX := Lib.hid hx
    have HY := Lib.hid hy
    have HV := Lib.hid hV
    have HS := Lib.hid hS
    have HYES := Lib.hid hyes
    have HNO := Lib.hid hno
    clear hx hy hV hS hyes hno
    by_cases hlt : k < 4
    · by_cases hp : x % 2 = 1
      · have p1 : ((x : Int) % 2 == 1) = true := by rw [beq_iff_eq]; omega
        have HP : Hid (decide (x % 2 = 1) = true) := Lib.hid (by simpa using hp)
        by_cases hq : y % 2 = 1
        · have q1 : ((y : Int) % 2 == 1) = true := by rw [beq_iff_eq]; omega
          have HQ : Hid (decide (y % 2 = 1) = true) := Lib.hid (by simpa using hq)
          clear hp hq
          go_wp2_with fail
          all_goals
            go_round
            case rel =>
                first
                  | exact rel5 (BitRel.step_yes hlt HX.out HY.out HV.out (HYES.out true true HP.out HQ.out (by rw [F11.out]; first | assumption | exact not_t (by assumption))))
                  | exact BitRel.step_yes hlt HX.out HY.out HV.out (HYES.out true true HP.out HQ.out (by rw [F11.out]; first | assumption | exact not_t (by assumption)))
                  | exact rel5 (BitRel.step (S := S) hlt HX.out HY.out HV.out (HNO.out true true HP.out HQ.out (by rw [F11.out]; first | assumption | exact not_t (by assumption))))
                  | exact BitRel.step (S := S) hlt HX.out HY.out HV.out (HNO.out true true HP.out HQ.out (by rw [F11.out]; first | assumption | exact not_t (by assumption)))
            case measure => simp [intOf]; omega
        · have q1 : ((y : Int) % 2 == 1) = false := by rw [beq_eq_false_iff_ne]; omega
          have HQ : Hid (decide (y % 2 = 1) = false) := Lib.hid (by simpa using hq)
          clear hp hq
          go_wp2_with fail
          all_goals
            go_round
            case rel =>
                first
                  | exact rel5 (BitRel.step_yes hlt HX.out HY.out HV.out (HYES.out true false HP.out HQ.out (by rw [F10.out]; first | assumption | exact not_t (by assumption))))
                  | exact BitRel.step_yes hlt HX.out HY.out HV.out (HYES.out true false HP.out HQ.out (by rw [F10.out]; first | assumption | exact not_t (by assumption)))
                  | exact rel5 (BitRel.step (S := S) hlt HX.out HY.out HV.out (HNO.out true false HP.out HQ.out (by rw [F10.out]; first | assumption | exact not_t (by assumption))))
                  | exact BitRel.step (S := S) hlt HX.out HY.out HV.out (HNO.out true false HP.out HQ.out (by rw [F10.out]; first | assumption | exact not_t (by assumption)))
            case measure => simp [intOf]; omega
      · have p1 : ((x : Int) % 2 == 1) = false := by rw [beq_eq_false_iff_ne]; omega
        have HP : Hid (decide (x % 2 = 1) = false) := Lib.hid (by simpa using hp)
        by_cases hq : y % 2 = 1
        · have q1 : ((y : Int) % 2 == 1) = true := by rw [beq_iff_eq]; omega
          have HQ : Hid (decide (y % 2 = 1) = true) := Lib.hid (by simpa using hq)
          clear hp hq
          go_wp2_with fail
          all_goals
            go_round
            case rel =>
                first
                  | exact rel5 (BitRel.step_yes hlt HX.out HY.out HV.out (HYES.out false true HP.out HQ.out (by rw [F01.out]; first | assumption | exact not_t (by assumption))))
                  | exact BitRel.step_yes hlt HX.out HY.out HV.out (HYES.out false true HP.out HQ.out (by rw [F01.out]; first | assumption | exact not_t (by assumption)))
                  | exact rel5 (BitRel.step (S := S) hlt HX.out HY.out HV.out (HNO.out false true HP.out HQ.out (by rw [F01.out]; first | assumption | exact not_t (by assumption))))
                  | exact BitRel.step (S := S) hlt HX.out HY.out HV.out (HNO.out false true HP.out HQ.out (by rw [F01.out]; first | assumption | exact not_t (by assumption)))
            case measure => simp [intOf]; omega
        · have q1 : ((y : Int) % 2 == 1) = false := by rw [beq_eq_false_iff_ne]; omega
          have HQ : Hid (decide (y % 2 = 1) = false) := Lib.hid (by simpa using hq)
          clear hp hq
          go_wp2_with fail
          all_goals
            go_round
            case rel =>
                first
                | exact rel5 (BitRel.step (S := S) hlt HX.out HY.out HV.out (HNO.out false false HP.out HQ.out (by rw [F00.out]; exact Bool.false_ne_true)))
                | exact BitRel.step (S := S) hlt HX.out HY.out HV.out (HNO.out false false HP.out HQ.out (by rw [F00.out]; exact Bool.false_ne_true))
            case measure => simp [intOf]; omega
    · have hk4 : k = 4 := by omega
      have HK4 := Lib.hid hk4
      clear hk4
      go_wp2_with (go_at_call 11; refine (rwrap_is _ _).mono ?_; rintro e w' ⟨rfl, rfl⟩)
      go_ret
      exact ⟨ret_i (by rw [HS.out, HK4.out]), rfl⟩
end Go.Proofs.Ythjdonjcaekaaaa
