/-
  A STREAM as the cells of its value, and what it stands for.
-/
import Derived.Test.YtgabmipakocheaaDoorOut
namespace Go.Proofs.YtgabmipakocheaaDoor
open Go.RowKit

theorem blockOf_append (m t : List UInt8) (k : Nat) (h : 64 * (k + 1) ≤ m.length) : blockOf (m ++ t) k = blockOf m k := by
  unfold blockOf
  rw [List.drop_append_of_le_length (by omega), List.take_append_of_le_length (by simp; omega)]
theorem hvn_append (m t : List UInt8) : ∀ n : Nat, 64 * n ≤ m.length → hvn (m ++ t) n = hvn m n
  | 0, _ => rfl
  | n + 1, h => by rw [hvn_succ, hvn_succ, hvn_append m t n (by omega), blockOf_append m t n h]

/-- The held bytes with others laid into them. -/
def hput (held : List UInt8) (r : Nat) (xs : List UInt8) : List UInt8 := held.take r ++ xs ++ held.drop (r + xs.length)
theorem hput_length {held : List UInt8} {r : Nat} {xs : List UInt8} (hh : held.length = 64) (h : r + xs.length ≤ 64) : (hput held r xs).length = 64 := by
  simp [hput]; omega

def stCells (v : St) (held : List UInt8) (n : Nat) : List Value := ws v.list ++ bs held ++ [.int .u64 (n : Int)]
theorem stCells_length {v : St} {held : List UInt8} {n : Nat} (hh : held.length = 64) : (stCells v held n).length = 73 := by
  simp [stCells, ws, bs, St.list, hh]
theorem stCells_one (v : St) (held : List UInt8) (n : Nat) : ∀ u ∈ stCells v held n, u.oneCell' = true := by
  intro u hu
  simp only [stCells, List.mem_append, List.mem_singleton] at hu
  rcases hu with (hu | hu) | rfl
  · exact ws_one _ u hu
  · exact bs_one _ u hu
  · rfl
theorem stCells_held {v : St} {held : List UInt8} {n r : Nat} {xs : List UInt8} (hh : held.length = 64) (h : r + xs.length ≤ 64) : seg (stCells v held n) (8 + r) (bs xs) = stCells v (hput held r xs) n := by
  have hw : (ws v.list).length = 8 := by rw [ws_length]; rfl
  unfold seg stCells hput
  have e1 : (ws v.list ++ bs held ++ [Value.int .u64 (n : Int)]).take (8 + r) = ws v.list ++ bs (held.take r) := by
    rw [List.append_assoc, List.take_append, hw, List.take_of_length_le (by omega), show 8 + r - 8 = r by omega, List.take_append_of_le_length (by rw [bs_length]; omega), bs_take]
  have e2 : (ws v.list ++ bs held ++ [Value.int .u64 (n : Int)]).drop (8 + r + (bs xs).length) = bs (held.drop (r + xs.length)) ++ [Value.int .u64 (n : Int)] := by
    rw [List.append_assoc, List.drop_append, hw, List.drop_eq_nil_of_le (by omega), bs_length, show 8 + r + xs.length - 8 = r + xs.length by omega, List.drop_append_of_le_length (by rw [bs_length]; omega), bs_drop]; rfl
  rw [e1, e2, bs_append, bs_append]
  simp
theorem stCells_val {v v' : St} {held : List UInt8} {n : Nat} : seg (stCells v held n) 0 (ws v'.list) = stCells v' held n := by
  have hw : (ws v.list).length = 8 := by rw [ws_length]; rfl
  have hw' : (ws v'.list).length = 8 := by rw [ws_length]; rfl
  unfold seg stCells
  rw [hw', List.append_assoc (ws v.list), List.drop_append, List.drop_eq_nil_of_le (by omega), hw]
  simp
theorem stCells_len {v : St} {held : List UInt8} {n k : Nat} (hh : held.length = 64) : (stCells v held n).set 72 (.int .u64 (k : Int)) = stCells v held k := by
  have hw : (ws v.list ++ bs held).length = 72 := by simp [ws, bs, St.list, hh]
  unfold stCells
  rw [List.set_append_right _ _ (by omega), hw]
  simp
theorem stCells_72 {v : St} {held : List UInt8} {n : Nat} (hh : held.length = 64) : (stCells v held n)[72]? = some (.int .u64 (n : Int)) := by
  have hw : (ws v.list ++ bs held).length = 72 := by simp [ws, bs, St.list, hh]
  unfold stCells
  rw [List.getElem?_append_right (by omega), hw]
  rfl
theorem stCells_get_val {v : St} {held : List UInt8} {n : Nat} (j : Nat) (hj : j < 8) : (stCells v held n)[j]? = some (W32 (v.at j)) := by
  have hw : (ws v.list).length = 8 := by rw [ws_length]; rfl
  unfold stCells
  rw [List.append_assoc, List.getElem?_append_left (by omega)]
  exact ws_get (by rw [← St.tab]; exact tab8_get _ _ hj)
theorem stCells_get_held {v : St} {held : List UInt8} {n : Nat} (hh : held.length = 64) (j : Nat) (hj : j < 64) : (stCells v held n)[8 + j]? = some (.int .u8 ((held[j]'(by omega)).toNat : Int)) := by
  have hw : (ws v.list).length = 8 := by rw [ws_length]; rfl
  unfold stCells
  rw [List.append_assoc, List.getElem?_append_right (by omega), hw, show 8 + j - 8 = j by omega, List.getElem?_append_left (by rw [bs_length]; omega)]
  exact bs_get _ _ (by omega)
theorem stCells_take {v : St} {held : List UInt8} {n : Nat} : ((stCells v held n).drop 0).take 8 = ws v.list := by
  have hw : (ws v.list).length = 8 := by rw [ws_length]; rfl
  unfold stCells
  rw [List.drop_zero, List.append_assoc, List.take_append_of_le_length (by omega), List.take_of_length_le (by omega)]
theorem stCells_mid {v : St} {held : List UInt8} {n : Nat} (hh : held.length = 64) : ((stCells v held n).drop 8).take 64 = bs held := by
  have hw : (ws v.list).length = 8 := by rw [ws_length]; rfl
  unfold stCells
  rw [List.append_assoc, List.drop_append, hw, List.drop_eq_nil_of_le (by omega), List.nil_append, Nat.sub_self, List.drop_zero, List.take_append_of_le_length (by rw [bs_length]; omega), List.take_of_length_le (by rw [bs_length]; omega)]

/-- The hash value of the whole blocks of a message. -/
def hv (m : List UInt8) : St := hvn m (m.length / 64)
/-- The held bytes begin with what follows the whole blocks. -/
structure Holds (m held : List UInt8) : Prop where
  size : held.length = 64
  tail : held.take (m.length % 64) = m.drop (64 * (m.length / 64))
/-- The cells stand for the message m. -/
def Rep (m : List UInt8) (cs : List Value) : Prop := ∃ held, Holds m held ∧ cs = stCells (hv m) held m.length

theorem holds_step {m held xs : List UInt8} (h : Holds m held) (hx : m.length % 64 + xs.length < 64) : Holds (m ++ xs) (hput held (m.length % 64) xs) ∧ hv (m ++ xs) = hv m := by
  have hs := h.size
  have hl : (m ++ xs).length = m.length + xs.length := List.length_append
  have e1 : (m ++ xs).length / 64 = m.length / 64 := by omega
  have e2 : (m ++ xs).length % 64 = m.length % 64 + xs.length := by omega
  refine ⟨⟨hput_length hs (by omega), ?_⟩, ?_⟩
  · rw [e1, e2, List.drop_append_of_le_length (by omega), ← h.tail, hput, List.take_append_of_le_length (by simp; omega), List.take_of_length_le (by simp; omega)]
  · unfold hv
    rw [e1, hvn_append _ _ _ (by omega)]
theorem holds_full {m held xs : List UInt8} (h : Holds m held) (hx : m.length % 64 + xs.length = 64) : Holds (m ++ xs) (hput held (m.length % 64) xs) ∧ hv (m ++ xs) = comp (hv m) (hput held (m.length % 64) xs) := by
  have hs := h.size
  have hl : (m ++ xs).length = m.length + xs.length := List.length_append
  have e1 : (m ++ xs).length / 64 = m.length / 64 + 1 := by omega
  have e2 : (m ++ xs).length % 64 = 0 := by omega
  refine ⟨⟨hput_length hs (by omega), ?_⟩, ?_⟩
  · rw [e2, List.take_zero, e1, List.drop_eq_nil_of_le (by omega)]
  · unfold hv
    rw [e1, hvn_succ, hvn_append _ _ _ (by omega)]
    congr 1
    unfold blockOf
    rw [List.drop_append_of_le_length (by omega), ← h.tail, List.take_of_length_le (by simp; omega), hput, List.drop_eq_nil_of_le (show held.length ≤ m.length % 64 + xs.length by omega), List.append_nil]
theorem rep_begin : Rep [] (stCells iv (List.replicate 64 0) 0) := ⟨_, ⟨rfl, rfl⟩, rfl⟩
end Go.Proofs.YtgabmipakocheaaDoor
