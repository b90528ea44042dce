/-
  word: the table of the operations, as the program builds it.
-/
import Derived.Test.YthjdonjcaekaaaaWdFns
import Derived.Test.YthjdonjcaekaaaaGen
namespace Go.Proofs.Ythjdonjcaekaaaa
open Go.RowKit WD

/-- A row of the table: is the result a truth value, is there none for the divisor 0, and the function. -/
def rowA (t d : Bool) (f : FuncId) : Array Value := #[.bool t, .bool d, .func (.func f) #[] #[]]
/-- The rows. -/
def rowOf : Nat → Array Value
  | 0 => rowA false false 27
  | 1 => rowA false false 28
  | 2 => rowA false false 29
  | 3 => rowA false true 30
  | 4 => rowA false true 31
  | 5 => rowA false false 32
  | 6 => rowA false false 33
  | 7 => rowA false false 34
  | 8 => rowA false false 35
  | 9 => rowA false false 37
  | 10 => rowA true false 38
  | 11 => rowA true false 40
  | 12 => rowA true false 41
  | _ => rowA true false 42
def tabA : Array Value := ((List.range 14).flatMap fun k => (rowOf k).toList).toArray
def zeroRow : Array Value := #[.bool false, .bool false, .nilFunc]
def zeroTab : Array Value := ((List.range 14).flatMap fun _ => zeroRow.toList).toArray

theorem zero_tab (W : World) : (zeroValue 34).run Try.prog W = .ok (.agg zeroTab) W := by kernel_rfl
theorem build_row (f : FuncId) (W : World) : (Instr.build 33 #[(2, .func (.func f) #[] #[])]).run Try.prog W = .ok (.agg (rowA false false f)) W := by kernel_rfl
theorem build_div (f : FuncId) (W : World) : (Instr.build 33 #[(1, .bool true), (2, .func (.func f) #[] #[])]).run Try.prog W = .ok (.agg (rowA false true f)) W := by kernel_rfl
theorem build_tru (f : FuncId) (W : World) : (Instr.build 33 #[(0, .bool true), (2, .func (.func f) #[] #[])]).run Try.prog W = .ok (.agg (rowA true false f)) W := by kernel_rfl
theorem build_tab (W : World) : (Instr.build 34 #[(0, .agg (rowA false false 27)), (1, .agg (rowA false false 28)), (2, .agg (rowA false false 29)),
    (3, .agg (rowA false true 30)), (4, .agg (rowA false true 31)), (5, .agg (rowA false false 32)), (6, .agg (rowA false false 33)),
    (7, .agg (rowA false false 34)), (8, .agg (rowA false false 35)), (9, .agg (rowA false false 37)), (10, .agg (rowA true false 38)),
    (11, .agg (rowA true false 40)), (12, .agg (rowA true false 41)), (13, .agg (rowA true false 42))]).run Try.prog W = .ok (.agg tabA) W := by kernel_rfl
theorem size_tab : (Try.prog.info? 34).map (·.size) = some tabA.size := by kernel_rfl
theorem one_tab : tabA.all (·.oneCell') = true := by kernel_rfl

/-- 'build', kept shut. -/
def bld (t : TypeId) (parts : Array (Nat × Value)) : Sem Value := Instr.build t parts
theorem shut_bld (t : TypeId) (parts : Array (Nat × Value)) : Instr.build t parts = bld t parts := rfl

set_option maxRecDepth 100000 in
set_option maxHeartbeats 1000000 in
theorem operations_is (w : World) :
    Calls Try.prog 20 #[] w fun e w' => e = .returned (.agg tabA) ∧ Below w.heap.size w w' := by
  have hz := zero_tab
  have h1 := fun f W => (show (bld 33 #[(2, .func (.func f) #[] #[])]).run Try.prog W = _ from build_row f W)
  have h2 := fun f W => (show (bld 33 #[(1, .bool true), (2, .func (.func f) #[] #[])]).run Try.prog W = _ from build_div f W)
  have h3 := fun f W => (show (bld 33 #[(0, .bool true), (2, .func (.func f) #[] #[])]).run Try.prog W = _ from build_tru f W)
  have h4 := fun W => (show (bld 34 _).run Try.prog W = _ from build_tab W)
  go_enter Try.func20, Try.ntmps20
  go_wp2_with (refine wpList_store_row rfl 34 (.tmp 0) (.tmp 15) rfl w.heap.size tabA rfl rfl 34 zeroTab (Blk.new w _ _) size_tab rfl one_tab ?_)
  refine bodyPost_ret (results_cell_row Try.results20 _ _ w.heap.size 34 tabA (0, 0) _ rfl ((Blk.new w 34 zeroTab).setRow _) Try.underlying34 rfl size_tab) rfl ⟨rfl, below_setRow (below_new _ _) (Nat.le_refl _) _⟩
end Go.Proofs.Ythjdonjcaekaaaa
