/-
  BOTH LISTED TABLES, opened: the round constants of package hash and the shapes of package tree.
-/
import Derived.Test.YtikinofopkjdjaaDoorG09
import Derived.Test.YtikinofopkjdjaaDoorG12
import Derived.ProofKit
import Derived.LaidMore
import Derived.OpenShut
import Derived.Stop.Joined
set_option linter.unusedVariables false
namespace Go.Proofs.YtikinofopkjdjaaDoor
open Go.ChangeShapes Go.WideShapes Go.ChangeAt Go.RowKit

def kData {H : Type} : DataW H := .agg (kTab.map fun k => .lit (.int .u32 (k.toNat : Int)))
theorem rounds_is : (Rows.laid_scoria_hash_rounds : DataW Unit) = kData := by kernel_rfl
theorem Tryd.cells112 : Tryd.prog.cellsOf 112 = 1 := by kernel_rfl

section
variable {H : Type} {enc : TypeId × Value → H} {w : World} {base : Nat} {spare : Nat → Bool} {held : Bool}
theorem table_at {fuel : Nat} {cs : List Value} {x : DataW H × List MemPlace} (h : DataW.trod enc Tryd.prog w base spare held fuel 180 cs = some x) (hx : x.1 = kData) (t : Nat) (ht : t < 64) : cs[t]? = some (W32 (kTab.getD t 0#32)) := by
  obtain ⟨xs, m, _, rfl, _, hn, hel⟩ := DataW.trod_array Tryd.underlying180 h
  have he := hel t ht
  rw [Tryd.cells112, Nat.mul_one] at he
  have hxt : t < xs.length := by omega
  rw [List.getElem?_eq_getElem hxt] at he
  obtain ⟨k, e1, e2, _⟩ := DataW.trod_int Tryd.underlying112 he
  have hk64 : t < kTab.length := ht
  have h2 : (xs.map (·.1))[t]? = (kTab.map fun k => (DataW.lit (.int .u32 (k.toNat : Int)) : DataW H))[t]? := by
    have : DataW.agg (xs.map (·.1)) = kData := hx
    unfold kData at this
    injection this with this
    rw [this]
  rw [List.getElem?_map, List.getElem?_map, List.getElem?_eq_getElem hxt, List.getElem?_eq_getElem hk64, Option.map_some, Option.map_some, e2] at h2
  simp only [Option.some.injEq, DataW.lit.injEq, Lit.int.injEq, true_and] at h2
  have h3 : cs[t]? = some (.int .u32 k) := by
    have h4 : ((cs.drop t).take 1)[0]? = some (.int .u32 k) := by rw [e1]; rfl
    simpa using h4
  rw [h3, h2]
  congr 3
  rw [List.getD_eq_getElem?_getD, List.getElem?_eq_getElem hk64]; rfl
end

theorem gRounds : Tryd.prog.globalNamed "scoria/hash.rounds" = some 2 := by kernel_rfl
theorem tRounds : (Tryd.prog.globals[2]?).map (·.type) = some 180 := by kernel_rfl
def laidTwo : List (String × DataW Unit) := [("scoria/hash.rounds", Rows.laid_scoria_hash_rounds), ("scoria/tree.shapes", Rows.laid_scoria_tree_shapes)]
theorem of_two {W : World} (h : laidMetH Tryd.prog laidTwo W) : KT 2 W ∧ ST W := by
  rw [MakeChecks.laidMetH_plain _ _ _ (by kernel_rfl)] at h
  obtain ⟨ps, ⟨g0, t0, cs0, f0, p0, q0, hg0, ht0, hv0, hd0, ⟨g1, t1, cs1, f1, p1, q1, hg1, ht1, hv1, hd1, _, _⟩, _⟩, _, _⟩ := h
  obtain rfl := Option.some.inj (gRounds.symm.trans hg0)
  obtain rfl := Option.some.inj (gShapes.symm.trans hg1)
  obtain rfl := Option.some.inj (tRounds.symm.trans ht0)
  obtain rfl := Option.some.inj (tShapes.symm.trans ht1)
  exact ⟨fun t ht => (World.var?_cell hg0 hv0 t).trans (by simpa using table_at hd0 rounds_is t ht), fun t r hr i x hx => (World.var?_cell hg1 hv1 (t * 8 + i)).trans (by simpa using table_of hd1 shapes_is t r hr i x hx)⟩
/-- The door's own heap meets the condition. -/
theorem door_two (os : Os) (args : Array Value) : laidMetH Tryd.prog laidTwo ((World.doorLaid Tryd.prog 200 os).forCall (fun _ _ => 0) ⟨#[], args, []⟩).memory :=
  laidMetH_of_parts3 (fuel := 8) (laidMet_of_run' 8 (by kernel_rfl) (by kernel_rfl)) (by kernel_rfl) (by kernel_rfl)
end Go.Proofs.YtikinofopkjdjaaDoor
