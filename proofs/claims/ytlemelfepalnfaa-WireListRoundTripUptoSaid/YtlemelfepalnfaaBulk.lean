/-
  FOR THE LAWS THAT HOLD UP TO A BULK: what the bound says of slices of strings and of the rest.
-/
import Derived.Test.YtlemelfepalnfaaRows
import Derived.Test.YtlemelfepalnfaaHelpD
import Derived.Test.YtlemelfepalnfaaHelpE
namespace Go.Proofs.Ytlemelfepalnfaa
open Go.RowKit Go.ChangeShapes Go.WideShapes Go.Deep

section
variable {H : Type}
theorem bulk_part {d : DataW H} {l : List (DataW H)} (h : d ∈ l) : Rows.uptoBulk d ≤ Rows.uptoBulkAll l := by
  induction l with
  | nil => cases h
  | cons x r ih =>
    simp only [Rows.uptoBulkAll]
    rcases List.mem_cons.1 h with rfl | e
    · omega
    · have := ih e; omega
theorem bulk_strs (vs : List ByteArray) : Rows.uptoBulkAll (strs (H := H) vs) = vs.length + total vs := by
  induction vs with
  | nil => simp [strs, Rows.uptoBulkAll, total]
  | cons a vs ih =>
    have e : a.data.toList.length = a.size := by rw [Array.length_toList]; rfl
    simp only [strs] at ih
    simp only [strs, List.map_cons, Rows.uptoBulkAll, Rows.uptoBulk, ih, List.length_cons, total, List.sum_cons, e]
    omega
/-- The strings of a slice: how many, and of how many bytes in all. -/
theorem small_strs {l : List (DataW H)} {vs us : List ByteArray} (hk : Rows.uptoSmall H l = true) (hm : DataW.slice (strs vs) (strs us) ∈ l) : vs.length + total vs ≤ 1048576 := by
  have h : Rows.uptoBulkAll l ≤ 1048576 := of_decide_eq_true hk
  have h1 := bulk_part hm
  simp only [Rows.uptoBulk, bulk_strs] at h1
  omega
end
end Go.Proofs.Ytlemelfepalnfaa
