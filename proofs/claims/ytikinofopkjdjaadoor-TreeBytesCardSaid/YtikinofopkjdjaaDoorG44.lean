/-
  Strings of bytes: string(b).
-/
import Derived.Test.YtikinofopkjdjaaDoorG43
import Derived.Laws.BytesString
import Derived.Laws.BytesArg
set_option linter.unusedVariables false
namespace Go.Proofs.YtikinofopkjdjaaDoor
open Go.RowKit

def str (m : List UInt8) : ByteArray := ⟨m.toArray⟩
theorem str_list (m : List UInt8) : (str m).data.toList = m := rfl
theorem str_size (m : List UInt8) : (str m).size = m.length := by simp [str, ByteArray.size]
/-- 'string(b)' -/
theorem conv_str {A : Option Addr} {m : List UInt8} {c B : Nat} {W : World} (h : Reads W B 1 A m.length (bs m)) : (convert 23 9 (.slice A m.length c)).run Tryd.prog W = .ok (.string (str m)) W := by
  rcases A with _ | ad
  · have hm : m = [] := by
      rcases Nat.eq_zero_or_pos m.length with h0 | h0
      · exact List.eq_nil_of_length_eq_zero h0
      · obtain ⟨ad, h1, _⟩ := h.2 h0; cases h1
    subst hm
    exact run_convert_bytes_nil W 23 5 Tryd.underlying23 Tryd.underlying5 _ _ 9 Tryd.underlying9
  · have e : bs m = (m.map fun x : UInt8 => (x.toNat : Int)).map (Value.int .u8) := by simp [bs]
    have hl : (loadCells ad m.length).run Tryd.prog W = .ok ((m.map fun x : UInt8 => (x.toNat : Int)).map (Value.int .u8)).toArray W := by
      have := run_loadCells_list (P := Tryd.prog) W ad (bs m) (fun j v hv => by
        have hn : 0 < m.length := by
          have := (List.getElem?_eq_some_iff.1 hv).1
          rw [bs_length] at this; omega
        obtain ⟨ad', h1, _, hc⟩ := h.2 hn
        injection h1 with h1
        subst h1
        exact hc j v hv)
      rw [bs_length] at this
      rw [this, e]
    rw [run_convert_bytes_string W 23 9 5 _ _ _ Tryd.underlying23 Tryd.underlying5 Tryd.underlying9, run_bytesToString W ad m.length c _ hl, foldl_push_bytes]
    congr 2
    unfold str
    congr 1
    apply Array.ext'
    have e2 : (fun n : Int => UInt8.ofNat n.toNat) ∘ (fun x : UInt8 => (x.toNat : Int)) = id := by funext x; simp
    simp [e2]
theorem store_bytes {w : World} {g : Nat} {t : TypeId} {cs : Array Value} {l : List UInt8} (h : Blk w g t cs) (hs : cs.size = l.length) :
    (storeCells ⟨g, 0, none⟩ (bs l)).run Tryd.prog w = .ok () (w.setRow g (bs l).toArray) := by
  have := run_storeCells_from (P := Tryd.prog) g t (bs l) 0 cs w h (by rw [bs_length]; omega) (bs_one l)
  simpa using this
end Go.Proofs.YtikinofopkjdjaaDoor
