/-
  The examples of the sanity check, computed by the kernel.
-/
import Derived.Test.YtgabmipakocheaaDoorMac
import Derived.Test.YtgabmipakocheaaDoorHex
import Derived.Test.YtgabmipakocheaaDoorEq
import Derived.Test.YtgabmipakocheaaDoorArrEq
namespace Go.Proofs.YtgabmipakocheaaDoor
open Go.RowKit WM

theorem exAbc : str (hexB (sha [97, 98, 99])) = ⟨#[98, 97, 55, 56, 49, 54, 98, 102, 56, 102, 48, 49, 99, 102, 101, 97, 52, 49, 52, 49, 52, 48, 100, 101, 53, 100, 97, 101, 50, 50, 50, 51, 98, 48, 48, 51, 54, 49, 97, 51, 57, 54, 49, 55, 55, 97, 57, 99, 98, 52, 49, 48, 102, 102, 54, 49, 102, 50, 48, 48, 49, 53, 97, 100]⟩ := by kernel_rfl
theorem exMac : str (hexB (macB [74, 101, 102, 101] [119, 104, 97, 116, 32, 100, 111, 32, 121, 97, 32, 119, 97, 110, 116, 32, 102, 111, 114, 32, 110, 111, 116, 104, 105, 110, 103, 63])) = ⟨#[53, 98, 100, 99, 99, 49, 52, 54, 98, 102, 54, 48, 55, 53, 52, 101, 54, 97, 48, 52, 50, 52, 50, 54, 48, 56, 57, 53, 55, 53, 99, 55, 53, 97, 48, 48, 51, 102, 48, 56, 57, 100, 50, 55, 51, 57, 56, 51, 57, 100, 101, 99, 53, 56, 98, 57, 54, 52, 101, 99, 51, 56, 52, 51]⟩ := by kernel_rfl
theorem exIn : inputOf 8 [⟨#[97]⟩, ⟨#[]⟩] = [8, 129, 1, 97, 128] := by
  have e1 : enc 1 = [129, 1] := by rw [enc_pos (by omega)]; simp [digs]
  have e0 : enc 0 = [128] := by rw [enc_pos (by omega)]; simp [digs]
  have t8 : tagB 8 = 8 := by rfl
  unfold inputOf encP
  simp only [List.flatMap_cons, List.flatMap_nil, encB, t8]
  simp [e1, e0]
theorem exOf : str (hexB (ofB 8 [⟨#[97]⟩, ⟨#[]⟩])) = ⟨#[51, 54, 99, 100, 53, 48, 56, 53, 48, 51, 50, 57, 102, 56, 56, 52, 48, 54, 101, 51, 49, 98, 98, 56, 97, 55, 100, 56, 102, 98, 54, 50]⟩ := by
  unfold ofB
  rw [exIn]
  kernel_rfl
end Go.Proofs.YtgabmipakocheaaDoor
