/- Texts joined. -/
import Derived.Test.YtkkenbalpnmfmaaDoorJ08
import Derived.Test.YtkkenbalpnmfmaaDoorJ36
import Derived.Test.YtkkenbalpnmfmaaDoorJ49
set_option linter.unusedVariables false
namespace Go.Proofs.YtkkenbalpnmfmaaDoor
open Go.RowKit WM TR
theorem st_ltY {w:World} (h:ST w):0 < w.heap.size:=by
 have:=h 0 _ rfl 0 _ rfl
 exact block_lt_of_cell this
end Go.Proofs.YtkkenbalpnmfmaaDoor

namespace Go.Proofs.YtkkenbalpnmfmaaDoor
open Go.RowKit WM TR TY
theorem parts_law (L M : List Int) (A B : Option Addr) (c cb : Nat) (con at_ : Int) (w : World) (hL : Rd w (Lt w.heap.size) 1 A L.length (vi L)) (hM : Rd w (Lt w.heap.size) 1 B M.length (vi M)) (hrL : ∀ x ∈ L, inRange x) (hrM : ∀ x ∈ M, inRange x) (hlL : L.length ≤ 9223372036854775807) (hlM : M.length ≤ 9223372036854775807) (ha : inRange at_) (hT : ST w) (hg : 0 < w.heap.size) :
  Calls Tryd.prog 6 #[.slice A L.length c,.int .i64 con,.int .i64 at_,.slice B M.length cb] w fun e w'=>e = .returned (.bool true)∧Below w.heap.size w w' :=
 types_parts_is madeC L M A B c cb con at_ w hL hM hrL hrM hlL hlM ha hT hg
end Go.Proofs.YtkkenbalpnmfmaaDoor
