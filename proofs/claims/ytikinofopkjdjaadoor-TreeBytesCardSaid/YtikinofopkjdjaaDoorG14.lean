/-
  ALL THREE LISTED TABLES, opened: the round constants of package hash and of its reference, and the shapes of package tree.
-/
import Derived.Test.YtikinofopkjdjaaDoorG13
set_option linter.unusedVariables false
namespace Go.Proofs.YtikinofopkjdjaaDoor
open Go.ChangeShapes Go.WideShapes Go.ChangeAt Go.RowKit

theorem constants_is : (Rows.laid_scoria_scoriaref02_constants : DataW Unit) = kData := by kernel_rfl
theorem gConst : Tryd.prog.globalNamed "scoria/scoriaref02.constants" = some 3 := by kernel_rfl
theorem tConst : (Tryd.prog.globals[3]?).map (·.type) = some 180 := by kernel_rfl
def laidThree : List (String × DataW Unit) := [("scoria/scoriaref02.constants", Rows.laid_scoria_scoriaref02_constants), ("scoria/hash.rounds", Rows.laid_scoria_hash_rounds), ("scoria/tree.shapes", Rows.laid_scoria_tree_shapes)]
theorem of_three {W : World} (h : laidMetH Tryd.prog laidThree W) : KT 2 W ∧ KT 3 W ∧ ST W := by
  rw [MakeChecks.laidMetH_plain _ _ _ (by kernel_rfl)] at h
  obtain ⟨ps, ⟨g2, t2, cs2, f2, p2, q2, hg2, ht2, hv2, hd2, ⟨g0, t0, cs0, f0, p0, q0, hg0, ht0, hv0, hd0, ⟨g1, t1, cs1, f1, p1, q1, hg1, ht1, hv1, hd1, _, _⟩, _⟩, _⟩, _, _⟩ := h
  obtain rfl := Option.some.inj (gRounds.symm.trans hg0)
  obtain rfl := Option.some.inj (gConst.symm.trans hg2)
  obtain rfl := Option.some.inj (gShapes.symm.trans hg1)
  obtain rfl := Option.some.inj (tRounds.symm.trans ht0)
  obtain rfl := Option.some.inj (tConst.symm.trans ht2)
  obtain rfl := Option.some.inj (tShapes.symm.trans ht1)
  exact ⟨fun t ht => (World.var?_cell hg0 hv0 t).trans (by simpa using table_at hd0 rounds_is t ht), fun t ht => (World.var?_cell hg2 hv2 t).trans (by simpa using table_at hd2 constants_is t ht), fun t r hr i x hx => (World.var?_cell hg1 hv1 (t * 8 + i)).trans (by simpa using table_of hd1 shapes_is t r hr i x hx)⟩
/-- The door's own heap meets the condition. -/
theorem door_three (os : Os) (args : Array Value) : laidMetH Tryd.prog laidThree ((World.doorLaid Tryd.prog 200 os).forCall (fun _ _ => 0) ⟨#[], args, []⟩).memory :=
  laidMetH_of_parts3 (fuel := 8) (laidMet_of_run' 8 (by kernel_rfl) (by kernel_rfl)) (by kernel_rfl) (by kernel_rfl)
end Go.Proofs.YtikinofopkjdjaaDoor
