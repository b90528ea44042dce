/-
  The walk of WordRing.
-/
import Derived.Test.YthjdonjcaekaaaaWdBits
namespace Go.Proofs.Ythjdonjcaekaaaa
open Go.RowKit WD

/-- What the statement asks of a ring, of three words. -/
def ringFacts (a b c : Int) : Bool :=
  decide (opR 0 a b = opR 0 b a) && decide (opR 0 (opR 0 a b) c = opR 0 a (opR 0 b c)) && decide (opR 2 a b = opR 2 b a) && decide (opR 2 (opR 2 a b) c = opR 2 a (opR 2 b c)) &&
  decide (opR 2 a (opR 0 b c) = opR 0 (opR 2 a b) (opR 2 a c)) && decide (opR 1 (opR 0 a b) b = wrp a) && decide (opR 0 (opR 1 a b) b = wrp a) && decide (opR 1 a a = 0)
theorem ring_facts (a b c : Int) : opR 0 a b = opR 0 b a ∧ opR 0 (opR 0 a b) c = opR 0 a (opR 0 b c) ∧ opR 2 a b = opR 2 b a ∧ opR 2 (opR 2 a b) c = opR 2 a (opR 2 b c) ∧
    opR 2 a (opR 0 b c) = opR 0 (opR 2 a b) (opR 2 a c) ∧ opR 1 (opR 0 a b) b = wrp a ∧ opR 0 (opR 1 a b) b = wrp a ∧ opR 1 a a = 0 := by
  have h := by_words3 (p := ringFacts) (by decide +kernel) (wrp_word a) (wrp_word b) (wrp_word c)
  simp only [ringFacts, Bool.and_eq_true, decide_eq_true_eq, opR_left, opR_right, wrp_wrp] at h
  obtain ⟨⟨⟨⟨⟨⟨⟨h1, h2⟩, h3⟩, h4⟩, h5⟩, h6⟩, h7⟩, h8⟩ := h
  exact ⟨h1, h2, h3, h4, h5, h6, h7, h8⟩
set_option maxRecDepth 100000 in
set_option maxHeartbeats 4000000 in
theorem walkRing (a b c : Int) (w : World) :
    Calls Try.prog 5 #[.int .i64 a, .int .i64 b, .int .i64 c] w fun e w' => e = .returned (.bool true) ∧ Below w.heap.size w w' := by
  have HB := Lib.hid (Below.refl w.heap.size w)
  obtain ⟨h1, h2, h3, h4, h5, h6, h7, h8⟩ := ring_facts a b c
  have e1 : (opR 0 a b != opR 0 b a) = false := by rw [h1]; simp
  have e2 : (opR 0 (opR 0 a b) c != opR 0 a (opR 0 b c)) = false := by rw [h2]; simp
  have e3 : (opR 2 a b != opR 2 b a) = false := by rw [h3]; simp
  have e4 : (opR 2 (opR 2 a b) c != opR 2 a (opR 2 b c)) = false := by rw [h4]; simp
  have e5 : (opR 2 a (opR 0 b c) == opR 0 (opR 2 a b) (opR 2 a c)) = true := beq_iff_eq.2 h5
  have e6 : (opR 1 (opR 0 a b) b == wrp a) = true := beq_iff_eq.2 h6
  have e7 : (opR 0 (opR 1 a b) b == wrp a) = true := beq_iff_eq.2 h7
  have e8 : (opR 1 a a == 0) = true := beq_iff_eq.2 h8
  clear h1 h2 h3 h4 h5 h6 h7 h8
  go_enter Try.func5, Try.ntmps5
  go_wp2_with fail
  go_loopw [7] (fun x wr => Hid (Below w.heap.size w wr) ∧ (x = .int .i64 0 ∨ x = .int .i64 2 ∨ x = .int .i64 4)) (fun x _ => (4 - intOf x).toNat)
  case atStart => exact ⟨Below.refl _ _, .inl rfl⟩
  case round =>
    obtain ⟨HB, rfl | rfl | rfl⟩ := hrel
    · go_wp2_with (go_at_call 18; refine (of_is _ _ _ _).mono ?_; rintro e w' ⟨rfl, hb⟩; replace HB := Lib.hid (bt HB.out hb))
      go_roundw
      case rel => exact ⟨HB, .inr (.inl rfl)⟩
      case measure => simp [intOf]
    · go_wp2_with (go_at_call 18; refine (of_is _ _ _ _).mono ?_; rintro e w' ⟨rfl, hb⟩; replace HB := Lib.hid (bt HB.out hb))
      go_roundw
      case rel => exact ⟨HB, .inr (.inr rfl)⟩
      case measure => simp [intOf]
    · go_wp2_with (first
        | (go_at_call 18; refine (of_is _ _ _ _).mono ?_; rintro e w' ⟨rfl, hb⟩; replace HB := Lib.hid (bt HB.out hb))
        | (go_at_call 9; refine (wrap_is _ _).mono ?_; rintro e w' ⟨rfl, rfl⟩)
        | (go_at_call 15; refine (lives_is _).mono ?_; rintro e w' ⟨rfl, hb⟩; replace HB := Lib.hid (bt HB.out hb)))
      go_ret
      exact ⟨rfl, HB.out⟩
end Go.Proofs.Ythjdonjcaekaaaa
