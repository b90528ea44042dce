/-
  The table of shapes lies in the heap.
-/
import Derived.Test.YtlffmfdjifgfgaaDoorG08
import Derived.Test.YtlffmfdjifgfgaaDoorG41
import Derived.Test.YtlffmfdjifgfgaaDoorG47
set_option linter.unusedVariables false
namespace Go.Proofs.YtlffmfdjifgfgaaDoor
open Go.RowKit WM TR
theorem st_ltY {w : World} (h : ST w) : 0 < w.heap.size := by
  have := h 0 _ rfl 0 _ rfl
  exact block_lt_of_cell this
end Go.Proofs.YtlffmfdjifgfgaaDoor

/-
  The law TypesLess.
-/
namespace Go.Proofs.YtlffmfdjifgfgaaDoor
open Go.RowKit WM TR TY
theorem less_law (L : List Int) (A : Option Addr) (c : Nat) (way : Int) (w : World) (hL : Rd w (Lt w.heap.size) 1 A L.length (vi L)) (hrL : ∀ x ∈ L, inRange x) (hlL : L.length ≤ 9223372036854775807) (hT : ST w) (hg : 0 < w.heap.size) :
    Calls Tryd.prog 8 #[.slice A L.length c, .int .i64 way] w fun e w' => e = .returned (.bool true) ∧ Below w.heap.size w w' :=
  types_less_is madeC L A c way w hL hrL hlL hT hg
end Go.Proofs.YtlffmfdjifgfgaaDoor
