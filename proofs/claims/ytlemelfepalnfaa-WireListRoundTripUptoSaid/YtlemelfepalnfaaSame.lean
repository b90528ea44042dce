/-
  THE COMPARISONS of the reference package, each by its contract, at equal lists: Same, SameInts, SameTexts.
-/
import Derived.Test.YtlemelfepalnfaaCut
import Derived.Deep.QuietTactic
import Derived.BigQuiet
import Derived.Outline
namespace Go.Proofs.Ytlemelfepalnfaa
open Go.RowKit WM

theorem below_drewN {B : Nat} {a w : World} (h : Below B a w) (n : Nat) : Below B a (w.drewN n) := ⟨h.os, h.tape, h.output, h.size, h.block⟩
theorem wf_i64 {n : Int} (h : inRange n) : (Lit.int .i64 n).wf = true := WalkArith.wf_i64 (by obtain ⟨h1, h2⟩ := h; omega)

set_option maxHeartbeats 400000 in
theorem same (B1 B2 : Nat) (A1 A2 : Option Addr) (c1 c2 : Nat) (l : List UInt8) (w : World) (h1 : Reads w B1 1 A1 l.length (bs l)) (h2 : Reads w B2 1 A2 l.length (bs l)) (hl : l.length ≤ 140737488355328) :
    Calls Try.prog 13 #[.slice A1 l.length c1, .slice A2 l.length c2] w fun e w' => e = .returned (.bool true) ∧ Below w.heap.size w w' := by
  have H1 := Lib.hid h1
  have H2 := Lib.hid h2
  clear h1 h2
  go_enter Try.func13, Try.ntmps13
  go_wp2
  go_loopw [5] (fun i wr => ∃ k m : Nat, k ≤ l.length ∧ i = .int .i64 k ∧ wr = w.drewN m) (fun i _ => l.length - (intOf i).toNat)
  case atStart => exact ⟨0, 0, Nat.zero_le _, rfl, rfl⟩
  case round =>
    obtain ⟨k, m, hk, rfl, rfl⟩ := hrel
    by_cases hlt : k < l.length
    · obtain ⟨b1, off1, rfl, _, hc1⟩ := H1.out.lit (by omega)
      obtain ⟨b2, off2, rfl, _, hc2⟩ := H2.out.lit (by omega)
      have hx1 := hc1 k _ (bs_get l k hlt)
      have hx2 := hc2 k _ (bs_get l k hlt)
      obtain ⟨x, hx⟩ : ∃ x, x = l[k].toNat := ⟨_, rfl⟩
      rw [← hx] at hx1 hx2
      clear hc1 hc2 hx
      have hk1 : (k : Int) < (l.length : Int) := by omega
      go_wp2
      go_quiet (fail)
      go_wp2
      go_roundw
      case rel => exact ⟨k + 1, _, by omega, by go_num, rfl⟩
      case measure => simp [intOf]; omega
    · obtain rfl : k = l.length := by omega
      go_wp2
      go_ret
      exact ⟨rfl, below_drewN (Below.refl _ _) _⟩

set_option maxHeartbeats 400000 in
theorem sameInts (B1 B2 : Nat) (A1 A2 : Option Addr) (c1 c2 : Nat) (l : List Int) (w : World) (h1 : Reads w B1 1 A1 l.length (is l)) (h2 : Reads w B2 1 A2 l.length (is l)) (hl : l.length ≤ 140737488355328) :
    Calls Try.prog 30 #[.slice A1 l.length c1, .slice A2 l.length c2] w fun e w' => e = .returned (.bool true) ∧ Below w.heap.size w w' := by
  have H1 := Lib.hid h1
  have H2 := Lib.hid h2
  clear h1 h2
  go_enter Try.func30, Try.ntmps30
  go_wp2
  go_loopw [5] (fun i wr => ∃ k m : Nat, k ≤ l.length ∧ i = .int .i64 k ∧ wr = w.drewN m) (fun i _ => l.length - (intOf i).toNat)
  case atStart => exact ⟨0, 0, Nat.zero_le _, rfl, rfl⟩
  case round =>
    obtain ⟨k, m, hk, rfl, rfl⟩ := hrel
    by_cases hlt : k < l.length
    · obtain ⟨b1, off1, rfl, _, hc1⟩ := H1.out.lit (by omega)
      obtain ⟨b2, off2, rfl, _, hc2⟩ := H2.out.lit (by omega)
      have hx1 := hc1 k _ (is_get l k hlt)
      have hx2 := hc2 k _ (is_get l k hlt)
      obtain ⟨x, hx⟩ : ∃ x, x = l[k] := ⟨_, rfl⟩
      rw [← hx] at hx1 hx2
      clear hc1 hc2 hx
      have hk1 : (k : Int) < (l.length : Int) := by omega
      go_wp2
      go_quiet (fail)
      go_wp2
      go_roundw
      case rel => exact ⟨k + 1, _, by omega, by go_num, rfl⟩
      case measure => simp [intOf]; omega
    · obtain rfl : k = l.length := by omega
      go_wp2
      go_ret
      exact ⟨rfl, below_drewN (Below.refl _ _) _⟩

set_option maxHeartbeats 400000 in
theorem sameTexts (B1 B2 : Nat) (A1 A2 : Option Addr) (c1 c2 : Nat) (l : List ByteArray) (w : World) (h1 : Reads w B1 1 A1 l.length (ss l)) (h2 : Reads w B2 1 A2 l.length (ss l)) (hl : l.length ≤ 140737488355328) :
    Calls Try.prog 33 #[.slice A1 l.length c1, .slice A2 l.length c2] w fun e w' => e = .returned (.bool true) ∧ Below w.heap.size w w' := by
  have H1 := Lib.hid h1
  have H2 := Lib.hid h2
  clear h1 h2
  go_enter Try.func33, Try.ntmps33
  go_wp2
  go_loopw [5] (fun i wr => ∃ k m : Nat, k ≤ l.length ∧ i = .int .i64 k ∧ wr = w.drewN m) (fun i _ => l.length - (intOf i).toNat)
  case atStart => exact ⟨0, 0, Nat.zero_le _, rfl, rfl⟩
  case round =>
    obtain ⟨k, m, hk, rfl, rfl⟩ := hrel
    by_cases hlt : k < l.length
    · obtain ⟨b1, off1, rfl, _, hc1⟩ := H1.out.lit (by omega)
      obtain ⟨b2, off2, rfl, _, hc2⟩ := H2.out.lit (by omega)
      have hx1 := hc1 k _ (ss_get l k hlt)
      have hx2 := hc2 k _ (ss_get l k hlt)
      obtain ⟨x, hx⟩ : ∃ x, x = l[k] := ⟨_, rfl⟩
      rw [← hx] at hx1 hx2
      clear hc1 hc2 hx
      have hk1 : (k : Int) < (l.length : Int) := by omega
      go_wp2
      go_quiet (fail)
      go_wp2
      go_roundw
      case rel => exact ⟨k + 1, _, by omega, by go_num, rfl⟩
      case measure => simp [intOf]; omega
    · obtain rfl : k = l.length := by omega
      go_wp2
      go_ret
      exact ⟨rfl, below_drewN (Below.refl _ _) _⟩

end Go.Proofs.Ytlemelfepalnfaa
