/-
  The padded message, as plain mathematics.
-/
import Derived.Test.YtgabmipakocheaaDoorShaLem
namespace Go.Proofs.YtgabmipakocheaaDoor

theorem zeros_end (n : Nat) : (n + 1 + zeros n) % 64 = 56 := by unfold zeros; omega
theorem zeros_least (n j : Nat) (h : j < zeros n) : (n + 1 + j) % 64 ≠ 56 := by unfold zeros at h; omega
theorem zeros_lt (n : Nat) : zeros n < 64 := by unfold zeros; omega
theorem len8_length (n : Nat) : (len8 n).length = 8 := rfl
theorem pad_length (m : List UInt8) : (pad m).length = m.length + 1 + zeros m.length + 8 := by
  simp [pad, len8_length]; omega
theorem pad_blocks (m : List UInt8) : (pad m).length = 64 * ((pad m).length / 64) := by
  have h := zeros_end m.length
  rw [pad_length]; omega
/-- The message, the byte 128, and j zeros. -/
def padTo (m : List UInt8) (j : Nat) : List UInt8 := m ++ 128 :: List.replicate j 0
theorem padTo_length (m : List UInt8) (j : Nat) : (padTo m j).length = m.length + 1 + j := by simp [padTo]; omega
theorem padTo_succ (m : List UInt8) (j : Nat) : padTo m (j + 1) = padTo m j ++ [0] := by
  simp [padTo, List.replicate_succ']
theorem pad_eq (m : List UInt8) : pad m = padTo m (zeros m.length) ++ len8 (8 * m.length) := by simp [pad, padTo]
theorem len8_get (n i : Nat) (h : i < 8) : (len8 n)[i]'(by rw [len8_length]; exact h) = UInt8.ofNat (n / 2 ^ (56 - 8 * i)) := by
  have : i = 0 ∨ i = 1 ∨ i = 2 ∨ i = 3 ∨ i = 4 ∨ i = 5 ∨ i = 6 ∨ i = 7 := by omega
  rcases this with rfl | rfl | rfl | rfl | rfl | rfl | rfl | rfl <;> simp [len8]
theorem len8_succ (n i : Nat) (h : i < 8) : (len8 n).take (i + 1) = (len8 n).take i ++ [UInt8.ofNat (n / 2 ^ (56 - 8 * i))] := by
  rw [List.take_succ_eq_append_getElem (by rw [len8_length]; exact h), len8_get n i h]
theorem byte_val (n : Nat) : ((UInt8.ofNat n).toNat : Int) = (n : Int) % 256 := by
  rw [UInt8.toNat_ofNat']; omega
end Go.Proofs.YtgabmipakocheaaDoor
