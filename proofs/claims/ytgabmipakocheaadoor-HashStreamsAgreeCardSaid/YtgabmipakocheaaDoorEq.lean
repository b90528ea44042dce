/-
  hash.Equal.
-/
import Derived.Test.YtgabmipakocheaaDoorMem
namespace Go.Proofs.YtgabmipakocheaaDoor
open Go.RowKit

/-- The first k bytes are the same exactly if d is 0. -/
def Alike (a b : ByteArray) (k d : Nat) : Prop := d < 256 ∧ (d = 0 ↔ ∀ i (h1 : i < a.size) (h2 : i < b.size), i < k → a[i] = b[i])
theorem or_zero (a b : Nat) : a ||| b = 0 ↔ a = 0 ∧ b = 0 := by
  constructor
  · intro h
    constructor
    · have h1 : a ≤ a ||| b := Nat.left_le_or
      omega
    · have h1 : b ≤ a ||| b := Nat.right_le_or
      omega
  · rintro ⟨rfl, rfl⟩; rfl
theorem xor_zero (a b : Nat) : a ^^^ b = 0 ↔ a = b := by
  constructor
  · intro h
    have : (a ^^^ b) ^^^ b = 0 ^^^ b := by rw [h]
    rwa [Nat.xor_assoc, Nat.xor_self, Nat.xor_zero, Nat.zero_xor] at this
  · rintro rfl; exact Nat.xor_self a
theorem Alike.step {a b : ByteArray} {k d : Nat} (h : Alike a b k d) (h1 : k < a.size) (h2 : k < b.size) : Alike a b (k + 1) (d ||| (a[k].toNat ^^^ b[k].toNat)) := by
  have ha := a[k].toNat_lt
  have hb := b[k].toNat_lt
  refine ⟨Nat.or_lt_two_pow (n := 8) h.1 (Nat.xor_lt_two_pow (by omega) (by omega)), ?_⟩
  rw [or_zero, xor_zero, h.2]
  constructor
  · rintro ⟨h3, h4⟩ i g1 g2 hi
    by_cases hik : i = k
    · subst hik; exact UInt8.toNat_inj.1 h4
    · exact h3 i g1 g2 (by omega)
  · intro h3
    exact ⟨fun i g1 g2 hi => h3 i g1 g2 (by omega), by rw [h3 k h1 h2 (by omega)]⟩
theorem alike_val {a b : UInt8} {d : Nat} (hd : d < 256) : bits .or .u8 (d : Int) (bits .xor .u8 (a.toNat : Int) (b.toNat : Int)) = ((d ||| (a.toNat ^^^ b.toNat) : Nat) : Int) := by
  have ha := a.toNat_lt
  have hb := b.toNat_lt
  rw [u8_xor_nat _ _ ha hb, u8_or_nat _ _ hd (Nat.xor_lt_two_pow (n := 8) (by omega) (by omega))]
theorem Alike.done {a b : ByteArray} {d : Nat} (hs : a.size = b.size) (h : Alike a b a.size d) : (d = 0) ↔ a = b := by
  rw [h.2]
  constructor
  · intro h3
    exact ByteArray.ext_getElem hs fun i g1 g2 => h3 i g1 g2 g1
  · rintro rfl i g1 g2 _; rfl

set_option maxHeartbeats 1000000 in
theorem equal (a b : ByteArray) (w : World) (ha : a.size ≤ 140737488355328) (hb : b.size ≤ 140737488355328) :
    Calls Tryd.prog 24 #[.string a, .string b] w fun e w' => e = .returned (.bool (decide (a = b))) ∧ ∃ m, w' = w.drewN m := by
  by_cases hs : a.size = b.size
  · have HS := Lib.hid hs
    have h1 : ((a.size : Int) != (b.size : Int)) = false := by simp [hs]
    have hab : a.size ≤ b.size := by omega
    clear hs
    go_enter Tryd.func24, Tryd.ntmps24
    go_wp2
    go_loopw [5, 14] (fun d' i' wr => ∃ (k d : Nat), k ≤ a.size ∧ i' = .int .i64 k ∧ d' = .int .u8 d ∧ Hid (Alike a b k d ∧ ∃ m, wr = w.drewN m)) (fun _ i' _ => a.size - (intOf i').toNat)
    case atStart => exact ⟨0, 0, by omega, rfl, rfl, ⟨by omega, by simp⟩, 0, rfl⟩
    case round =>
      obtain ⟨k, d, hk, rfl, rfl, hh⟩ := hrel
      by_cases hlt : k < a.size
      · have hlb : k < b.size := by omega
        go_wp2
        go_quiet (fail)
        go_wp2
        go_roundw
        case rel =>
          obtain ⟨q, hq⟩ := hh.out.2
          exact ⟨k + 1, _, by omega, by go_num, by rw [alike_val hh.out.1.1], hh.out.1.step hlt hlb, q + nq, by rw [hq, World.drewN_drewN]⟩
        case measure => simp [intOf]; omega
      · go_wp2
        go_ret
        obtain rfl : k = a.size := by omega
        have hd := Alike.done HS.out hh.out.1
        refine ⟨?_, hh.out.2⟩
        show Ending.returned (Value.bool ((d : Int) == 0)) = _
        congr 2
        rw [Bool.eq_iff_iff]
        simp only [beq_iff_eq, decide_eq_true_eq]
        exact ⟨fun h => hd.1 (by omega), fun h => by have := hd.2 h; omega⟩
  · have h1 : ((a.size : Int) != (b.size : Int)) = true := by simp; omega
    have hne : a ≠ b := by rintro rfl; exact hs rfl
    have HN := Lib.hid hne
    clear hs hne
    go_enter Tryd.func24, Tryd.ntmps24
    go_wp2
    go_ret
    refine ⟨?_, 0, rfl⟩
    show Ending.returned (Value.bool false) = _
    congr 2
    exact (decide_eq_false HN.out).symm
end Go.Proofs.YtgabmipakocheaaDoor
