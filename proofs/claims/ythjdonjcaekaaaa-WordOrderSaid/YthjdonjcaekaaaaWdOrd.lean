/-
  The walk of WordOrder.
-/
import Derived.Test.YthjdonjcaekaaaaWdBits
import Derived.LoopTactic
namespace Go.Proofs.Ythjdonjcaekaaaa
open Go.RowKit WD

/-- What the statement asks of the order and of the shifts, of two words. -/
def ordFacts (a b : Int) : Bool :=
  decide (opR 10 a b + opR 10 b a + opR 11 a b = 1) && decide (decide (opR 10 a b = 1) = decide (a < b)) && decide (decide (opR 11 a b = 1) = decide (a = b)) &&
  decide (opR 8 a b = wrp (a * two (bts b % 4))) && decide (a * two (bts b % 4) = opR 8 a b → opR 9 (opR 8 a b) b = a)
theorem ord_facts (a b : Int) : opR 10 a b + opR 10 b a + opR 11 a b = 1 ∧ decide (opR 10 a b = 1) = decide (wrp a < wrp b) ∧ decide (opR 11 a b = 1) = decide (wrp a = wrp b) ∧
    opR 8 a b = wrp (wrp a * two (bts b % 4)) ∧ (wrp a * two (bts b % 4) = opR 8 a b → opR 9 (opR 8 a b) b = wrp a) := by
  have h := by_words2 (p := ordFacts) (by decide +kernel) (wrp_word a) (wrp_word b)
  simp only [ordFacts, Bool.and_eq_true, decide_eq_true_eq, opR_left, opR_right, bts_wrp] at h
  obtain ⟨⟨⟨⟨h1, h2⟩, h3⟩, h4⟩, h5⟩ := h
  exact ⟨h1, h2, h3, h4, h5⟩
theorem pow_le3 (k : Nat) (h : k ≤ 3) : (2 : Int) ^ k ≤ 8 ∧ (1 : Int) ≤ 2 ^ k := by
  have : k = 0 ∨ k = 1 ∨ k = 2 ∨ k = 3 := by omega
  rcases this with rfl | rfl | rfl | rfl <;> decide
theorem opR_truth (op : Int) (h : op = 10 ∨ op = 11) (a b : Int) : 0 ≤ opR op a b ∧ opR op a b ≤ 1 := by
  rcases h with rfl | rfl
  · show 0 ≤ num _ ∧ num _ ≤ 1
    unfold num; split <;> omega
  · show 0 ≤ num _ ∧ num _ ≤ 1
    unfold num; split <;> omega
set_option maxRecDepth 100000 in
set_option maxHeartbeats 4000000 in
theorem walkOrd (a b : Int) (w : World) :
    Calls Try.prog 8 #[.int .i64 a, .int .i64 b] w fun e w' => e = .returned (.bool true) ∧ Below w.heap.size w w' := by
  have HB := Lib.hid (Below.refl w.heap.size w)
  obtain ⟨h1, h2, h3, h4, h5⟩ := ord_facts a b
  obtain ⟨n, hn, hn1, hn2⟩ : ∃ n : Nat, n ≤ 3 ∧ bts b % 4 = (n : Int) ∧ two (bts b % 4) = 2 ^ n := ⟨(bts b % 4).toNat, by have := bts_le b; omega, by have := bts_le b; omega, rfl⟩
  rw [hn2] at h4 h5
  have hb15 := bts_le b
  have g1 := opR_truth 10 (.inl rfl) a b
  have g2 := opR_truth 10 (.inl rfl) b a
  have g3 := opR_truth 11 (.inr rfl) a b
  have e1 : (opR 10 a b + opR 10 b a + opR 11 a b != 1) = false := by rw [h1]; rfl
  have e2 : (opR 10 a b == 1) = decide (wrp a < wrp b) := h2
  have e3 : (opR 11 a b == 1) = (wrp a == wrp b) := h3
  have hx := wrp_le a
  have HN1 := Lib.hid hn1
  have H4 := Lib.hid h4
  have H5 := Lib.hid h5
  clear h1 h2 h3 h4 h5 hn1 hn2
  go_enter Try.func8, Try.ntmps8
  go_wp2_with (first
    | (go_at_call 18; refine (of_is _ _ _ _).mono ?_; rintro e w' ⟨rfl, hb⟩; replace HB := Lib.hid (bt HB.out hb))
    | (go_at_call 9; refine (wrap_is _ _).mono ?_; rintro e w' ⟨rfl, rfl⟩))
  go_loop [7, 8] (fun x i => ∃ k : Nat, k ≤ n ∧ i = .int .i64 k ∧ x = .int .i64 (2 ^ k)) (fun _ i => n - (intOf i).toNat)
  case atStart => exact ⟨0, Nat.zero_le _, rfl, rfl⟩
  case round =>
    obtain ⟨k, hk, rfl, rfl⟩ := hrel
    have hp := pow_le3 k (by omega)
    by_cases hlt : k < n
    · have hn1 := HN1.out
      go_wp2_with (go_at_call 10; refine (bits_is _ _).mono ?_; rintro e w' ⟨rfl, rfl⟩)
      go_round
      case rel => exact ⟨k + 1, by omega, by go_num, by rw [Int.pow_succ]⟩
      case measure => simp [intOf]; omega
    · obtain rfl : k = n := by omega
      have hn1 := HN1.out
      obtain ⟨p, hp2⟩ : ∃ p : Int, p = 2 ^ k := ⟨_, rfl⟩
      have hpx : -64 ≤ wrp a * p ∧ wrp a * p ≤ 56 := by
        have hk3 : p = 1 ∨ p = 2 ∨ p = 4 ∨ p = 8 := by
          have : k = 0 ∨ k = 1 ∨ k = 2 ∨ k = 3 := by omega
          rcases this with rfl | rfl | rfl | rfl
          · exact .inl hp2
          · exact .inr (.inl hp2)
          · exact .inr (.inr (.inl hp2))
          · exact .inr (.inr (.inr hp2))
        rcases hk3 with rfl | rfl | rfl | rfl <;> omega
      have hpw : IntKind.i64.wrap (wrp a * p) = wrp a * p := by rw [IntKind.wrap_i64]; omega
      rw [← hp2] at H4 H5 ⊢
      have h4 := H4.out
      have h5 : wrp a * p = wrp (wrp a * p) → opR 9 (wrp (wrp a * p)) b = wrp a := by have := H5.out; rwa [h4] at this
      have H6 := Lib.hid h5
      clear h5 hp2 hp hlt hk
      by_cases hpe : wrp a * p = wrp (wrp a * p)
      · have h7 := H6.out hpe
        have h8 : (wrp a * p != wrp (wrp a * p)) = false := by rw [← hpe]; simp
        have h9 : (opR 9 (wrp (wrp a * p)) b == wrp a) = true := beq_iff_eq.2 h7
        clear hpe h7
        go_wp2_with (first
          | (go_at_call 18; refine (of_is _ _ _ _).mono ?_; rintro e w' ⟨rfl, hb⟩; replace HB := Lib.hid (bt HB.out hb))
          | (go_at_call 9; refine (wrap_is _ _).mono ?_; rintro e w' ⟨rfl, rfl⟩)
          | (go_at_call 10; refine (bits_is _ _).mono ?_; rintro e w' ⟨rfl, rfl⟩)
          | (go_at_call 15; refine (lives_is _).mono ?_; rintro e w' ⟨rfl, hb⟩; replace HB := Lib.hid (bt HB.out hb)))
        go_ret
        exact ⟨rfl, HB.out⟩
      · have h8 : (wrp a * p != wrp (wrp a * p)) = true := by simpa using hpe
        clear hpe
        go_wp2_with (first
          | (go_at_call 18; refine (of_is _ _ _ _).mono ?_; rintro e w' ⟨rfl, hb⟩; replace HB := Lib.hid (bt HB.out hb))
          | (go_at_call 9; refine (wrap_is _ _).mono ?_; rintro e w' ⟨rfl, rfl⟩)
          | (go_at_call 10; refine (bits_is _ _).mono ?_; rintro e w' ⟨rfl, rfl⟩)
          | (go_at_call 15; refine (lives_is _).mono ?_; rintro e w' ⟨rfl, hb⟩; replace HB := Lib.hid (bt HB.out hb)))
        go_ret
        exact ⟨rfl, HB.out⟩
end Go.Proofs.Ythjdonjcaekaaaa
