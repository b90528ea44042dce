/-
  FOR THE LAWS: an argument of strings, as a list.
-/
import Derived.Test.YtgabmipakocheaaDoorOf
import Derived.ArgAppend
namespace Go.Proofs.YtgabmipakocheaaDoor
open Go.RowKit WM

theorem arg_strs {W : World} {a : Addr} {len cap : Nat} {zs : List ByteArray} (hl : len ≤ cap) (hz : zs.length = cap) (hc : ∀ i, i < zs.length → W.cell? (a.add i) = some (.string (zs.getD i ByteArray.empty))) :
    (zs.take len).length = len ∧ Reads W W.heap.size 1 (some a) len (ss (zs.take len)) := by
  refine ⟨by simp; omega, by simp [ss]; omega, fun hn => ⟨a, rfl, ?_, fun j u hu => ?_⟩⟩
  · have := block_lt_of_cell (hc 0 (by omega))
    rwa [block_of_add] at this
  · have hj : j < len := by
      have := (List.getElem?_eq_some_iff.1 hu).1
      simp [ss] at this; omega
    have hzj : j < zs.length := by omega
    rw [hc j hzj]
    unfold ss at hu
    rw [List.getElem?_map, List.getElem?_take, if_pos hj, List.getElem?_eq_getElem hzj] at hu
    simp only [Option.map_some, Option.some.injEq] at hu
    rw [← hu, List.getD_eq_getElem?_getD, List.getElem?_eq_getElem hzj]
    rfl
end Go.Proofs.YtgabmipakocheaaDoor
