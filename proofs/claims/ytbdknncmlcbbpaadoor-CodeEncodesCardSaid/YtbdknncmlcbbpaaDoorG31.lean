/-
  MATHEMATICS OF THE BYTES OF CODE.
-/
import Derived.Test.YtbdknncmlcbbpaaDoorG01
import Derived.Test.YtbdknncmlcbbpaaDoorG02
set_option linter.unusedVariables false
namespace Go.Proofs.YtbdknncmlcbbpaaDoor
open WM KM

/-- The operands of instructions, one after the other. -/
def flatI (l : List Ins) : List Int := l.flatMap fun x => [x.op, x.a, x.b]
theorem flatI_length (l : List Ins) : (flatI l).length = 3 * l.length := by
  induction l with
  | nil => rfl
  | cons x l ih =>
    have : flatI (x :: l) = [x.op, x.a, x.b] ++ flatI l := by simp [flatI]
    rw [this, List.length_append, ih]
    simp
    omega
theorem flatI_append (l m : List Ins) : flatI (l ++ m) = flatI l ++ flatI m := by simp [flatI]
def encF (f : KM.Fn) : List UInt8 := encL enc [f.p, f.w] ++ encL enc (flatI f.body)
def encK (ch : Int) (fs : List KM.Fn) : List UInt8 := (enc ch ++ enc (fs.length : Int)) ++ fs.flatMap encF
theorem encs_le (l : List Int) (h : ∀ x ∈ l, inRange x) : (l.flatMap enc).length ≤ 9 * l.length := by
  induction l with
  | nil => simp
  | cons x l ih =>
    have h1 := ih fun y hy => h y (by simp [hy])
    have h2 := (enc_len (h x (by simp))).2
    rw [List.flatMap_cons, List.length_append, List.length_cons]
    omega
theorem encL_le (l : List Int) (h : ∀ x ∈ l, inRange x) (hl : l.length ≤ 9000000000) : (encL enc l).length ≤ 9 + 9 * l.length := by
  have h1 := encs_le l h
  have h2 := (enc_len (n := (l.length : Int)) ⟨by omega, by omega⟩).2
  unfold encL
  rw [List.length_append]
  omega
end Go.Proofs.YtbdknncmlcbbpaaDoor
