/-
  The statements' own helpers: of, is, lives.
-/
import Derived.Test.YthjdonjcaekaaaaWdOp
namespace Go.Proofs.Ythjdonjcaekaaaa
open Go.RowKit WD

theorem of_is (op a b : Int) (w : World) :
    Calls Try.prog 18 #[.int .i64 op, .int .i64 a, .int .i64 b] w fun e w' => e = .returned (.int .i64 (opR op a b)) ∧ Below w.heap.size w w' := by
  go_enter Try.func18, Try.ntmps18
  go_wp2_with (go_at_call 16; refine (op_is _ _ _ _).mono ?_; rintro e w' ⟨rfl, hb⟩)
  go_ret
  exact ⟨rfl, hb⟩
theorem is_true (op a b want : Int) (h1 : opR op a b = want) (h2 : opC op b = 0) (w : World) :
    Calls Try.prog 21 #[.int .i64 op, .int .i64 a, .int .i64 b, .int .i64 want] w fun e w' => e = .returned (.bool true) ∧ Below w.heap.size w w' := by
  have H1 := Lib.hid h1
  have H2 := Lib.hid h2
  clear h1 h2
  go_enter Try.func21, Try.ntmps21
  go_wp2_with (go_at_call 16; refine (op_is _ _ _ _).mono ?_; rintro e w' ⟨rfl, hb⟩; rw [H1.out, H2.out])
  go_ret
  exact ⟨rfl, hb⟩
set_option maxRecDepth 100000 in
set_option maxHeartbeats 4000000 in
theorem lives_is (w : World) :
    Calls Try.prog 15 #[] w fun e w' => e = .returned (.bool true) ∧ Below w.heap.size w w' := by
  have e1 : opR 3 3 0 = 0 := by decide
  have e2 : opC 3 0 = 2 := by decide
  have e3 : wrp 8 = -8 := by decide
  have e4 : bts (-1) = 15 := by decide
  have HB := Lib.hid (Below.refl w.heap.size w)
  go_enter Try.func15, Try.ntmps15
  go_wp2_with (first
    | (go_at_call 21; refine (is_true _ _ _ _ (by decide) (by decide) _).mono ?_; rintro e w' ⟨rfl, hb⟩; replace HB := Lib.hid (bt HB.out hb))
    | (go_at_call 16; refine (op_is _ _ _ _).mono ?_; rintro e w' ⟨rfl, hb⟩; rw [e1, e2]; replace HB := Lib.hid (bt HB.out hb))
    | (go_at_call 9; refine (wrap_is _ _).mono ?_; rintro e w' ⟨rfl, rfl⟩; rw [e3])
    | (go_at_call 10; refine (bits_is _ _).mono ?_; rintro e w' ⟨rfl, rfl⟩; rw [e4]))
  go_ret
  exact ⟨rfl, HB.out⟩
end Go.Proofs.Ythjdonjcaekaaaa
