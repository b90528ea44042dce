/- Texts joined. -/
import Derived.Test.YtkkenbalpnmfmaaDoorH08
import Derived.Test.YtkkenbalpnmfmaaDoorH36
import Derived.Test.YtkkenbalpnmfmaaDoorH48
set_option linter.unusedVariables false
namespace Go.Proofs.YtkkenbalpnmfmaaDoor
open Go.RowKit WM TR
theorem st_ltY {w:World} (h:ST w):0 < w.heap.size:=by
 have:=h 0 _ rfl 0 _ rfl
 exact block_lt_of_cell this
end Go.Proofs.YtkkenbalpnmfmaaDoor

namespace Go.Proofs.YtkkenbalpnmfmaaDoor
open Go.RowKit WM TR TY
theorem checks_law (L M : List Int) (A B : Option Addr) (c cb : Nat) (con at_ how by_ : Int) (x : T) (Ax : Option Addr) (cx Dx : Nat) (w : World) (hL : Rd w (Lt w.heap.size) 1 A L.length (vi L)) (hM : Rd w (Lt w.heap.size) 1 B M.length (vi M)) (hrL : ∀ x ∈ L, inRange x) (hrM : ∀ x ∈ M, inRange x) (hlL : L.length ≤ 9223372036854775807) (hlM : M.length ≤ 9223372036854775807) (ha : inRange at_) (hh : inRange how) (hy : inRange by_)
  (hX:Rep w (Lt w.heap.size) Dx x (nd x Ax cx)) (hsX:size x≤1000000) (hT:ST w) (hg:0 < w.heap.size) :
  Calls Tryd.prog 3 #[.slice A L.length c,.slice B M.length cb,.int .i64 con,.int .i64 at_,.int .i64 how,.int .i64 by_,.agg #[.int .i64 x.k,.int .i64 x.n,.int .i64 x.m,.slice Ax x.kids.length cx]] w fun e w'=>e = .returned (.bool true)∧Below w.heap.size w w' :=
 types_checks_is madeC L M A B c cb con at_ how by_ x Ax cx Dx w hL hM hrL hrM hlL hlM ha hh hy hX hsX hT hg
end Go.Proofs.YtkkenbalpnmfmaaDoor
