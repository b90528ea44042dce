/-
  WORDS OF 32 BITS as values, and what the model's operations on them are.
-/
import Derived.Test.YtgabmipakocheaaDoorRows
import Derived.Test.YtgabmipakocheaaDoorWords
import Derived.Outline
import Derived.Test.YtgabmipakocheaaDoorSha
import Derived.Deep.QuietTactic
import Derived.BigQuiet
namespace Go.Proofs.YtgabmipakocheaaDoor
open Go.RowKit

/-- A word as a value. -/
abbrev W32 (x : BitVec 32) : Value := .int .u32 (x.toNat : Int)

theorem ofNat_toNat32 (x : BitVec 32) : BitVec.ofInt 32 (x.toNat : Int) = x := by
  rw [BitVec.ofInt_natCast]; simp
theorem wrap_toNat32 (x : BitVec 32) : IntKind.u32.wrap (x.toNat : Int) = x.toNat := by
  rw [IntKind.wrap_u32]
  have := x.isLt
  omega
theorem xor32 (x y : BitVec 32) : bits .xor .u32 (x.toNat : Int) (y.toNat : Int) = ((x ^^^ y).toNat : Int) := by
  simp only [bits]
  rw [show BitVec.ofInt IntKind.u32.bits (x.toNat : Int) = x from ofNat_toNat32 x, show BitVec.ofInt IntKind.u32.bits (y.toNat : Int) = y from ofNat_toNat32 y]
  exact wrap_toNat32 _
theorem and32 (x y : BitVec 32) : bits .and .u32 (x.toNat : Int) (y.toNat : Int) = ((x &&& y).toNat : Int) := by
  simp only [bits]
  rw [show BitVec.ofInt IntKind.u32.bits (x.toNat : Int) = x from ofNat_toNat32 x, show BitVec.ofInt IntKind.u32.bits (y.toNat : Int) = y from ofNat_toNat32 y]
  exact wrap_toNat32 _
theorem or32 (x y : BitVec 32) : bits .or .u32 (x.toNat : Int) (y.toNat : Int) = ((x ||| y).toNat : Int) := by
  simp only [bits]
  rw [show BitVec.ofInt IntKind.u32.bits (x.toNat : Int) = x from ofNat_toNat32 x, show BitVec.ofInt IntKind.u32.bits (y.toNat : Int) = y from ofNat_toNat32 y]
  exact wrap_toNat32 _
theorem xor_ones (y : BitVec 32) : BitVec.allOnes 32 ^^^ y = ~~~y := by
  rw [BitVec.xor_comm, BitVec.xor_allOnes]
theorem not32 (y : BitVec 32) : bits .xor .u32 4294967295 (y.toNat : Int) = ((~~~y).toNat : Int) := by
  have h := xor32 (BitVec.allOnes 32) y
  rw [xor_ones] at h
  exact h
theorem not32' (y : BitVec 32) : bits .xor .u32 (y.toNat : Int) 4294967295 = ((~~~y).toNat : Int) := by
  have h := xor32 y (BitVec.allOnes 32)
  rw [BitVec.xor_allOnes] at h
  exact h
theorem add32 (x y : BitVec 32) : IntKind.u32.wrap ((x.toNat : Int) + (y.toNat : Int)) = ((x + y).toNat : Int) := by
  rw [IntKind.wrap_u32, BitVec.toNat_add]; omega
theorem shr32 (x : BitVec 32) (n : Nat) : (x.toNat : Int) / 2 ^ n = ((x >>> n).toNat : Int) := by
  rw [BitVec.toNat_ushiftRight, Nat.shiftRight_eq_div_pow]; simp
theorem shl32 (x : BitVec 32) (n : Nat) : IntKind.u32.wrap ((x.toNat : Int) * 2 ^ n) = ((x <<< n).toNat : Int) := by
  rw [IntKind.wrap_u32, BitVec.toNat_shiftLeft, Nat.shiftLeft_eq]; simp

theorem add32' (x y : BitVec 32) : ((x.toNat : Int) + (y.toNat : Int)) % 4294967296 = ((x + y).toNat : Int) := by
  rw [BitVec.toNat_add]; omega
theorem shl32' (x : BitVec 32) (n : Nat) : (x.toNat : Int) * 2 ^ n % 4294967296 = ((x <<< n).toNat : Int) := by
  rw [BitVec.toNat_shiftLeft, Nat.shiftLeft_eq]; simp
theorem ror_eq (x : BitVec 32) (n : Nat) : bits .or .u32 ((x.toNat : Int) / 2 ^ n) ((x.toNat : Int) * 2 ^ (32 - n) % 4294967296) = ((ror x n).toNat : Int) := by
  rw [shr32, shl32', or32]; rfl
theorem ror_eq' (x : BitVec 32) (n : Nat) : bits .or .u32 ((x.toNat : Int) * 2 ^ (32 - n) % 4294967296) ((x.toNat : Int) / 2 ^ n) = ((ror x n).toNat : Int) := by
  rw [shr32, shl32', or32, BitVec.or_comm]; rfl
theorem ret_int {k : IntKind} {a b : Int} (h : a = b) : Ending.returned (.int k a) = .returned (.int k b) := by rw [h]

set_option maxHeartbeats 400000 in
theorem rotr_ref (x : BitVec 32) (n : Nat) (h1 : 1 ≤ n) (h2 : n ≤ 31) (w : World) :
    Calls Tryd.prog 29 #[W32 x, .int .i64 (n : Int)] w fun e w' => e = .returned (W32 (ror x n)) ∧ ∃ m, w' = w.drewN m := by
  have a1 : (0 : Int) ≤ 32 - n := by omega
  have a2 : IntKind.i64.wrap (32 - (n : Int)) = 32 - (n : Int) := IntWalk.i64_in _ (by omega)
  go_enter Tryd.func29, Tryd.ntmps29
  go_wp2
  go_quiet (fail)
  go_wp2
  go_ret
  exact ⟨ret_int (ror_eq x n), _, rfl⟩
theorem mask31 (n : Nat) (h1 : 1 ≤ n) (h2 : n ≤ 31) : bits .and .u64 (IntKind.u64.wrap (-(n : Int))) 31 = 32 - (n : Int) := by
  have e : IntKind.u64.wrap (-(n : Int)) = ((18446744073709551616 - n : Nat) : Int) := by
    simp [IntKind.wrap, IntKind.bits, IntKind.signed]; omega
  rw [e]
  have h := bits_mask .u64 64 (Nat.le_refl _) (fun n h0 h1 => by simp [IntKind.wrap, IntKind.bits, IntKind.signed]; omega) 5 (by omega) ((18446744073709551616 - n : Nat) : Int) (by omega) (by omega)
  have e5 : (2 : Int) ^ 5 - 1 = 31 := by decide
  rw [e5] at h
  rw [h]
  omega
set_option maxHeartbeats 400000 in
theorem rotl (x : BitVec 32) (n : Nat) (h1 : 1 ≤ n) (h2 : n ≤ 31) (w : World) :
    Calls Tryd.prog 39 #[W32 x, .int .i64 (-(n : Int))] w fun e w' => e = .returned (W32 (ror x n)) ∧ w = w' := by
  have hm := mask31 n h1 h2
  go_enter Tryd.func39, Tryd.ntmps39
  go_wp2
  go_ret
  exact ⟨ret_int (by rw [show 32 - (32 - n) = n by omega]; exact ror_eq' x n), rfl⟩
set_option maxHeartbeats 400000 in
theorem rotr (x : BitVec 32) (n : Nat) (h1 : 1 ≤ n) (h2 : n ≤ 31) (w : World) :
    Calls Tryd.prog 36 #[W32 x, .int .i64 (n : Int)] w fun e w' => e = .returned (W32 (ror x n)) ∧ w = w' := by
  go_enter Tryd.func36, Tryd.ntmps36
  go_wp2_with (go_at_call 39; refine (rotl x n h1 h2 _).mono ?_; rintro e w' ⟨rfl, rfl⟩)
  go_ret
  exact ⟨rfl, rfl⟩
/-- Both, at a literal. -/
theorem rotrI (x : BitVec 32) (m : Int) (h1 : 1 ≤ m) (h2 : m ≤ 31) (w : World) :
    Calls Tryd.prog 36 #[W32 x, .int .i64 m] w fun e w' => e = .returned (W32 (ror x m.toNat)) ∧ w = w' := by
  obtain ⟨n, rfl⟩ := Int.eq_ofNat_of_zero_le (show 0 ≤ m by omega)
  simpa using rotr x n (by omega) (by omega) w
theorem rotrI_ref (x : BitVec 32) (m : Int) (h1 : 1 ≤ m) (h2 : m ≤ 31) (w : World) :
    Calls Tryd.prog 29 #[W32 x, .int .i64 m] w fun e w' => e = .returned (W32 (ror x m.toNat)) ∧ ∃ m, w' = w.drewN m := by
  obtain ⟨n, rfl⟩ := Int.eq_ofNat_of_zero_le (show 0 ≤ m by omega)
  simpa using rotr_ref x n (by omega) (by omega) w
end Go.Proofs.YtgabmipakocheaaDoor
