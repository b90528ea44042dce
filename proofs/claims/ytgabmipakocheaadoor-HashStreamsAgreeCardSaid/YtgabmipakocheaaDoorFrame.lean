/-
  THE LISTED TABLES, opened: what the laws' rows lay, as the walks want it.
-/
import Derived.Test.YtgabmipakocheaaDoorRows
import Derived.Test.YtgabmipakocheaaDoorComp
import Derived.ProofKit
import Derived.LaidMore
import Derived.OpenShut
import Derived.Stop.Joined
namespace Go.Proofs.YtgabmipakocheaaDoor
open Go.ChangeShapes Go.WideShapes Go.ChangeAt Go.RowKit

def kData {H : Type} : DataW H := .agg (kTab.map fun k => .lit (.int .u32 (k.toNat : Int)))
theorem rounds_is : (Rows.laid_scoria_hash_rounds : DataW Unit) = kData := by kernel_rfl
theorem constants_is : (Rows.laid_scoria_scoriaref02_constants : DataW Unit) = kData := by kernel_rfl
theorem Tryd.cells29 : Tryd.prog.cellsOf 29 = 1 := by kernel_rfl

section
variable {H : Type} {enc : TypeId × Value → H} {w : World} {base : Nat} {spare : Nat → Bool} {held : Bool}
theorem table_at {fuel : Nat} {cs : List Value} {x : DataW H × List MemPlace} (h : DataW.trod enc Tryd.prog w base spare held fuel 54 cs = some x) (hx : x.1 = kData) (t : Nat) (ht : t < 64) : cs[t]? = some (W32 (kTab.getD t 0#32)) := by
  obtain ⟨xs, m, _, rfl, _, hn, hel⟩ := DataW.trod_array Tryd.underlying54 h
  have he := hel t ht
  rw [Tryd.cells29, Nat.mul_one] at he
  have hxt : t < xs.length := by omega
  rw [List.getElem?_eq_getElem hxt] at he
  obtain ⟨k, e1, e2, _⟩ := DataW.trod_int Tryd.underlying29 he
  have hk64 : t < kTab.length := ht
  have h2 : (xs.map (·.1))[t]? = (kTab.map fun k => (DataW.lit (.int .u32 (k.toNat : Int)) : DataW H))[t]? := by
    have : DataW.agg (xs.map (·.1)) = kData := hx
    unfold kData at this
    injection this with this
    rw [this]
  rw [List.getElem?_map, List.getElem?_map, List.getElem?_eq_getElem hxt, List.getElem?_eq_getElem hk64, Option.map_some, Option.map_some, e2] at h2
  simp only [Option.some.injEq, DataW.lit.injEq, Lit.int.injEq, true_and] at h2
  have h3 : cs[t]? = some (.int .u32 k) := by
    have h4 : ((cs.drop t).take 1)[0]? = some (.int .u32 k) := by rw [e1]; rfl
    simpa using h4
  rw [h3, h2]
  congr 3
  rw [List.getD_eq_getElem?_getD, List.getElem?_eq_getElem hk64]; rfl
end

theorem gConst : Tryd.prog.globalNamed "scoria/scoriaref02.constants" = some 0 := by kernel_rfl
theorem gRounds : Tryd.prog.globalNamed "scoria/hash.rounds" = some 1 := by kernel_rfl
theorem tConst : (Tryd.prog.globals[0]?).map (·.type) = some 54 := by kernel_rfl
theorem tRounds : (Tryd.prog.globals[1]?).map (·.type) = some 54 := by kernel_rfl

def laidBoth : List (String × DataW Unit) := [("scoria/scoriaref02.constants", Rows.laid_scoria_scoriaref02_constants), ("scoria/hash.rounds", Rows.laid_scoria_hash_rounds)]
def laidOne : List (String × DataW Unit) := [("scoria/hash.rounds", Rows.laid_scoria_hash_rounds)]

theorem of_both {W : World} (h : laidMetH Tryd.prog laidBoth W) : KT 0 W ∧ KT 1 W := by
  rw [MakeChecks.laidMetH_plain _ _ _ (by kernel_rfl)] at h
  obtain ⟨ps, ⟨g0, t0, cs0, f0, p0, q0, hg0, ht0, hv0, hd0, ⟨g1, t1, cs1, f1, p1, q1, hg1, ht1, hv1, hd1, _, _⟩, _⟩, _, _⟩ := h
  obtain rfl := Option.some.inj (gConst.symm.trans hg0)
  obtain rfl := Option.some.inj (gRounds.symm.trans hg1)
  obtain rfl := Option.some.inj (tConst.symm.trans ht0)
  obtain rfl := Option.some.inj (tRounds.symm.trans ht1)
  exact ⟨fun t ht => (World.var?_cell hg0 hv0 t).trans (by simpa using table_at hd0 constants_is t ht), fun t ht => (World.var?_cell hg1 hv1 t).trans (by simpa using table_at hd1 rounds_is t ht)⟩
theorem of_one {W : World} (h : laidMetH Tryd.prog laidOne W) : KT 1 W := by
  rw [MakeChecks.laidMetH_plain _ _ _ (by kernel_rfl)] at h
  obtain ⟨ps, ⟨g1, t1, cs1, f1, p1, q1, hg1, ht1, hv1, hd1, _, _⟩, _, _⟩ := h
  obtain rfl := Option.some.inj (gRounds.symm.trans hg1)
  obtain rfl := Option.some.inj (tRounds.symm.trans ht1)
  exact fun t ht => (World.var?_cell hg1 hv1 t).trans (by simpa using table_at hd1 rounds_is t ht)

/-- The door's own heap meets both conditions. -/
theorem door_both (os : Os) (args : Array Value) : laidMetH Tryd.prog laidBoth ((World.doorLaid Tryd.prog 19 os).forCall (fun _ _ => 0) ⟨#[], args, []⟩).memory :=
  laidMetH_of_parts3 (fuel := 8) (laidMet_of_run' 8 (by kernel_rfl) (by kernel_rfl)) (by kernel_rfl) (by kernel_rfl)
theorem door_one (os : Os) (args : Array Value) : laidMetH Tryd.prog laidOne ((World.doorLaid Tryd.prog 19 os).forCall (fun _ _ => 0) ⟨#[], args, []⟩).memory :=
  laidMetH_of_parts3 (fuel := 8) (laidMet_of_run' 8 (by kernel_rfl) (by kernel_rfl)) (by kernel_rfl) (by kernel_rfl)
theorem own : ownKnob Tryd.prog.godebug = none := by kernel_rfl
theorem laidOut : laidOutB Tryd.prog = true := by kernel_rfl
end Go.Proofs.YtgabmipakocheaaDoor
