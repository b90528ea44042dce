/-
  The walk of WordBits.
-/
import Derived.Test.YthjdonjcaekaaaaWdLive
namespace Go.Proofs.Ythjdonjcaekaaaa
open Go.RowKit WD

theorem opR_words (op a b : Int) : opR op a b = opR op (wrp a) (wrp b) := by unfold opR; rw [wrp_wrp, wrp_wrp]
/-- What the statement asks of the bits, of two words. -/
def bitFacts (a b : Int) : Bool :=
  decide (opR 7 a b = opR 1 (opR 6 a b) (opR 5 a b)) && decide (opR 0 (opR 7 a b) (opR 2 (opR 5 a b) 2) = opR 0 a b) && decide (opR 1 (-1) a = opR 7 a (-1)) &&
  decide (opR 5 a a = wrp a) && decide (opR 6 a a = wrp a) && decide (opR 7 (opR 7 a b) b = wrp a) && decide (opR 7 (opR 5 a b) (-1) = opR 6 (opR 7 a (-1)) (opR 7 b (-1)))
theorem opR_left (op a b : Int) : opR op (wrp a) b = opR op a b := by unfold opR; rw [wrp_wrp]
theorem opR_right (op a b : Int) : opR op a (wrp b) = opR op a b := by unfold opR; rw [wrp_wrp]
theorem bit_facts (a b : Int) : opR 7 a b = opR 1 (opR 6 a b) (opR 5 a b) ∧ opR 0 (opR 7 a b) (opR 2 (opR 5 a b) 2) = opR 0 a b ∧ opR 1 (-1) a = opR 7 a (-1) ∧
    opR 5 a a = wrp a ∧ opR 6 a a = wrp a ∧ opR 7 (opR 7 a b) b = wrp a ∧ opR 7 (opR 5 a b) (-1) = opR 6 (opR 7 a (-1)) (opR 7 b (-1)) := by
  have h := by_words2 (p := bitFacts) (by decide +kernel) (wrp_word a) (wrp_word b)
  simp only [bitFacts, Bool.and_eq_true, decide_eq_true_eq, opR_left, opR_right, wrp_wrp] at h
  obtain ⟨⟨⟨⟨⟨⟨h1, h2⟩, h3⟩, h4⟩, h5⟩, h6⟩, h7⟩ := h
  exact ⟨h1, h2, h3, h4, h5, h6, h7⟩
set_option maxRecDepth 100000 in
set_option maxHeartbeats 4000000 in
theorem walkBits (a b : Int) (w : World) :
    Calls Try.prog 7 #[.int .i64 a, .int .i64 b] w fun e w' => e = .returned (.bool true) ∧ Below w.heap.size w w' := by
  have HB := Lib.hid (Below.refl w.heap.size w)
  obtain ⟨h1, h2, h3, h4, h5, h6, h7⟩ := bit_facts a b
  have e1 : (opR 7 a b == opR 1 (opR 6 a b) (opR 5 a b)) = true := beq_iff_eq.2 h1
  have e2 : (opR 0 (opR 7 a b) (opR 2 (opR 5 a b) 2) == opR 0 a b) = true := beq_iff_eq.2 h2
  have e3 : (opR 1 (-1) a == opR 7 a (-1)) = true := beq_iff_eq.2 h3
  have e4 : (opR 5 a a == wrp a) = true := beq_iff_eq.2 h4
  have e5 : (opR 6 a a == wrp a) = true := beq_iff_eq.2 h5
  have e6 : (opR 7 (opR 7 a b) b == wrp a) = true := beq_iff_eq.2 h6
  have e7 : (opR 7 (opR 5 a b) (-1) == opR 6 (opR 7 a (-1)) (opR 7 b (-1))) = true := beq_iff_eq.2 h7
  clear h1 h2 h3 h4 h5 h6 h7
  go_enter Try.func7, Try.ntmps7
  go_wp2_with (first
    | (go_at_call 18; refine (of_is _ _ _ _).mono ?_; rintro e w' ⟨rfl, hb⟩; replace HB := Lib.hid (bt HB.out hb))
    | (go_at_call 9; refine (wrap_is _ _).mono ?_; rintro e w' ⟨rfl, rfl⟩)
    | (go_at_call 15; refine (lives_is _).mono ?_; rintro e w' ⟨rfl, hb⟩; replace HB := Lib.hid (bt HB.out hb)))
  go_ret
  exact ⟨rfl, HB.out⟩
end Go.Proofs.Ythjdonjcaekaaaa
