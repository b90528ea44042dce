/-
  How a stream's end leads to the padded message.
-/
import Derived.Test.YtdhmaopodcccmaaDoorG37
set_option linter.unusedVariables false
namespace Go.Proofs.YtdhmaopodcccmaaDoor
open Go.RowKit

theorem sha_hv (m : List UInt8) : sha m = outB (hv (pad m)) := rfl
/-- The message with all of its padding but the last zeros and the length, the held bytes behind it zero. -/
structure Pre (m M held : List UInt8) : Prop where
  holds : Holds M held
  fits : M.length % 64 ≤ 56
  rest : pad m = M ++ (List.replicate (56 - M.length % 64) 0 ++ len8 (8 * m.length))
  zero : held.drop (M.length % 64) = List.replicate (64 - M.length % 64) 0

theorem clear_zero {held : List UInt8} {e : Nat} (hs : held.length = 64) (he : e ≤ 64) : (hput held e (List.replicate (64 - e) 0)).drop e = List.replicate (64 - e) 0 := by
  unfold hput
  rw [List.append_assoc, List.drop_append, List.drop_eq_nil_of_le (by simp; omega), List.length_take, Nat.min_eq_left (by omega), Nat.sub_self, List.drop_zero, List.nil_append, List.drop_eq_nil_of_le (by simp; omega), List.append_nil]
theorem pre_short {m held : List UInt8} (h : Holds (m ++ [128]) held) (hf : (m ++ [128]).length % 64 ≤ 56) : Pre m (m ++ [128]) (hput held ((m ++ [128]).length % 64) (List.replicate (64 - (m ++ [128]).length % 64) 0)) := by
  have hs := h.size
  refine ⟨⟨hput_length hs (by simp; omega), ?_⟩, hf, ?_, clear_zero hs (by omega)⟩
  · rw [← h.tail]
    unfold hput
    rw [List.append_assoc, List.take_append_of_le_length (by simp; omega), List.take_take, Nat.min_self]
  · have hz : zeros m.length = 56 - (m ++ [(128 : UInt8)]).length % 64 := by
      simp only [List.length_append, List.length_cons, List.length_nil] at hf ⊢
      unfold zeros; omega
    rw [← hz]
    simp [pad]
theorem pre_long {m held : List UInt8} (h : Holds (m ++ [128]) held) (hf : 56 < (m ++ [128]).length % 64) :
    Pre m (m ++ [128] ++ List.replicate (64 - (m ++ [128]).length % 64) (0 : UInt8)) (List.replicate 64 0) ∧
    hv (m ++ [128] ++ List.replicate (64 - (m ++ [128]).length % 64) (0 : UInt8)) = comp (hv (m ++ [128])) (hput held ((m ++ [128]).length % 64) (List.replicate (64 - (m ++ [128]).length % 64) (0 : UInt8))) := by
  have hx := holds_full h (xs := List.replicate (64 - (m ++ [128]).length % 64) (0 : UInt8)) (by simp; omega)
  have hl : (m ++ [(128 : UInt8)] ++ List.replicate (64 - (m ++ [(128 : UInt8)]).length % 64) (0 : UInt8)).length % 64 = 0 := by
    rw [List.length_append, List.length_replicate]; omega
  refine ⟨⟨⟨List.length_replicate, ?_⟩, by omega, ?_, ?_⟩, hx.2⟩
  · rw [hl, List.take_zero, List.drop_eq_nil_of_le (by omega)]
  · have hz : zeros m.length = (64 - (m ++ [(128 : UInt8)]).length % 64) + 56 := by
      simp only [List.length_append, List.length_cons, List.length_nil] at hf ⊢
      unfold zeros; omega
    rw [hl, pad, hz, ← List.replicate_append_replicate]
    simp
  · rw [hl]; rfl
/-- The held bytes with the last i bytes of the length. -/
def hlen (held : List UInt8) (n i : Nat) : List UInt8 := held.take (64 - i) ++ (len8 n).drop (8 - i)
theorem hlen_length {held : List UInt8} {n i : Nat} (hs : held.length = 64) (hi : i ≤ 8) : (hlen held n i).length = 64 := by
  simp [hlen, len8_length]; omega
theorem hlen_zero {held : List UInt8} {n : Nat} (hs : held.length = 64) : hlen held n 0 = held := by
  unfold hlen
  rw [List.drop_eq_nil_of_le (by rw [len8_length]; omega), List.append_nil, List.take_of_length_le (by omega)]
theorem hlen_step {held : List UInt8} {n i : Nat} (hs : held.length = 64) (hi : i < 8) : (hlen held n i).set (63 - i) (UInt8.ofNat (n / 2 ^ (8 * i))) = hlen held n (i + 1) := by
  have hg := len8_get n (7 - i) (by omega)
  rw [show 56 - 8 * (7 - i) = 8 * i by omega] at hg
  rw [← hg]
  unfold hlen
  rw [List.set_append_left _ _ (by simp; omega)]
  have e1 : (held.take (64 - i)).set (63 - i) ((len8 n)[7 - i]'(by rw [len8_length]; omega)) = held.take (63 - i) ++ [(len8 n)[7 - i]'(by rw [len8_length]; omega)] := by
    have h64 : 64 - i = (63 - i) + 1 := by omega
    rw [h64, List.take_succ_eq_append_getElem (by omega), List.set_append_right _ _ (by simp; omega)]
    have : 63 - i - (held.take (63 - i)).length = 0 := by simp; omega
    rw [this]; rfl
  have e2 : (len8 n).drop (8 - (i + 1)) = (len8 n)[7 - i]'(by rw [len8_length]; omega) :: (len8 n).drop (8 - i) := by
    rw [show 8 - (i + 1) = 7 - i by omega, List.drop_eq_getElem_cons (by rw [len8_length]; omega), show 7 - i + 1 = 8 - i by omega]
  rw [e1, e2, show 64 - (i + 1) = 63 - i by omega]
  simp
theorem pre_done {m M held : List UInt8} (h : Pre m M held) : comp (hv M) (hlen held (8 * m.length) 8) = hv (pad m) := by
  have hs := h.holds.size
  have hf := h.fits
  have hx := holds_full h.holds (xs := List.replicate (56 - M.length % 64) 0 ++ len8 (8 * m.length)) (by simp [len8_length]; omega)
  rw [h.rest, hx.2]
  congr 1
  unfold hlen hput
  have e0 : held = held.take (M.length % 64) ++ List.replicate (64 - M.length % 64) 0 := by rw [← h.zero, List.take_append_drop]
  have e1 : held.take (64 - 8) = held.take (M.length % 64) ++ List.replicate (56 - M.length % 64) 0 := by
    conv => lhs; rw [e0]
    rw [List.take_append, List.take_of_length_le (by simp; omega), List.length_take, Nat.min_eq_left (by omega), List.take_replicate]
    congr 2
    omega
  rw [e1, List.drop_eq_nil_of_le (show held.length ≤ _ by simp [len8_length]; omega), List.append_nil]
  simp
theorem stCells_set {v : St} {held : List UInt8} {n : Nat} (j : Nat) (c : UInt8) (hh : held.length = 64) (hj : j < 64) : (stCells v held n).set (8 + j) (.int .u8 (c.toNat : Int)) = stCells v (held.set j c) n := by
  have hw : (ws v.list).length = 8 := by rw [ws_length]; rfl
  unfold stCells
  rw [List.append_assoc, List.set_append_right _ _ (by omega), hw, show 8 + j - 8 = j by omega, List.set_append_left _ _ (by rw [bs_length]; omega), bs_set, List.append_assoc]
end Go.Proofs.YtdhmaopodcccmaaDoor
