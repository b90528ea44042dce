/-
  scoriaref02.Joined.
-/
import Derived.Test.YtgabmipakocheaaDoorFew
namespace Go.Proofs.YtgabmipakocheaaDoor
open Go.RowKit WM

def joinP (l : List ByteArray) : List UInt8 := l.flatMap fun s => s.data.toList
theorem joinP_succ (l : List ByteArray) (k : Nat) (h : k < l.length) : joinP (l.take (k + 1)) = joinP (l.take k) ++ l[k].data.toList := by
  unfold joinP
  rw [List.take_succ_eq_append_getElem h, List.flatMap_append]; simp
theorem joinP_le (l : List ByteArray) (k : Nat) : (joinP (l.take k)).length ≤ (joinP l).length := by
  have : joinP l = joinP (l.take k) ++ joinP (l.drop k) := by
    unfold joinP
    rw [← List.flatMap_append, List.take_append_drop]
  rw [this, List.length_append]; omega
theorem str_add (x : List UInt8) (s : ByteArray) : str x ++ s = str (x ++ s.data.toList) := by
  apply ByteArray.ext
  simp [str]

set_option maxRecDepth 100000 in
set_option maxHeartbeats 1600000 in
theorem joined (A : Option Addr) (l : List ByteArray) (c : Nat) (w : World) (ha : Reads w w.heap.size 1 A l.length (ss l)) (hn : l.length ≤ 137438953472) (hj : (joinP l).length ≤ 137438953472) :
    Calls Tryd.prog 16 #[.slice A l.length c] w fun e w' => e = .returned (.string (str (joinP l))) ∧ Below w.heap.size w w' := by
  have HA := Lib.hid ha
  clear ha
  go_enter Tryd.func16, Tryd.ntmps16
  go_wp2
  go_loopw [3, 4] (fun a i' wr => ∃ k : Nat, k ≤ l.length ∧ a = .string (str (joinP (l.take k))) ∧ i' = .int .i64 k ∧ Hid (Below w.heap.size w wr)) (fun _ i' _ => l.length - (intOf i').toNat)
  case atStart => exact ⟨0, by omega, rfl, rfl, Below.refl _ _⟩
  case round =>
    obtain ⟨k, hk, rfl, rfl, hh⟩ := hrel
    by_cases hlt : k < l.length
    · obtain ⟨b, off, rfl, _, hcell⟩ := (HA.out.below hh.out).lit (by omega)
      obtain ⟨s, hs⟩ : ∃ s, s = l[k] := ⟨_, rfl⟩
      have hc := hcell k _ (ss_get l k hlt)
      rw [← hs] at hc
      have hj2 := joinP_succ l k hlt
      rw [← hs] at hj2
      have hle := joinP_le l (k + 1)
      rw [hj2, List.length_append, size_list] at hle
      have hsz : (str (joinP (l.take k))).size + s.size ≤ 140737488355328 := by rw [str_size]; omega
      have HJ := Lib.hid hj2
      clear hcell hs hj2 hle
      go_wp2
      go_roundw
      case rel => exact ⟨k + 1, by omega, by rw [HJ.out, ← str_add], by go_num, hh.out⟩
      case measure => simp [intOf]; omega
    · have hke : k = l.length := by omega
      have hz : str (joinP (l.take k)) = str (joinP l) := by rw [hke, List.take_of_length_le (Nat.le_refl _)]
      have HZ := Lib.hid hz
      have hge : l.length ≤ k := by omega
      clear hlt hk hke hz
      go_wp2
      go_ret
      exact ⟨by rw [HZ.out]; rfl, hh.out⟩
end Go.Proofs.YtgabmipakocheaaDoor
