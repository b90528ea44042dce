/-
  FOR THE LAWS: an argument of bytes, as a list.
-/
import Derived.Test.YtgabmipakocheaaDoorWords
import Derived.ArgAppend
namespace Go.Proofs.YtgabmipakocheaaDoor
open Go.RowKit WM

def IsRow (k : IntKind) (w : World) (a : Option Addr) (len cap : Nat) (zs : List Int) : Prop :=
  (a = none ∧ len = 0 ∧ cap = 0 ∧ zs = []) ∨
  ∃ x, a = some x ∧ len ≤ cap ∧ cap ≤ maxLen ∧ zs.length = cap ∧ (∀ i, i < zs.length → w.cell? (x.add i) = some (.int k (zs.getD i 0))) ∧ ∀ n ∈ zs, (Lit.int k n).wf = true
theorem arg_bytes {W : World} {A : Option Addr} {len cap : Nat} {zs : List Int} (hl : len ≤ cap) (hz : zs.length = cap) (h : 0 < len → ∃ x, A = some x ∧ ∀ i, i < zs.length → W.cell? (x.add i) = some (.int .u8 (zs.getD i 0))) (hw : ∀ n ∈ zs, (Lit.int .u8 n).wf = true) :
    ∃ l : List UInt8, l.length = len ∧ Reads W W.heap.size 1 A len (bs l) := by
  refine ⟨(zs.take len).map fun z => UInt8.ofNat z.toNat, by simp; omega, by simp [bs_length]; omega, fun hn => ?_⟩
  obtain ⟨x, rfl, hc⟩ := h hn
  have h0 := hc 0 (by omega)
  refine ⟨x, rfl, ?_, fun j u hu => ?_⟩
  · have := block_lt_of_cell h0
    rwa [block_of_add] at this
  · have hj : j < len := by
      have := (List.getElem?_eq_some_iff.1 hu).1
      simp [bs_length] at this; omega
    rw [hc j (by omega)]
    have hzj : j < zs.length := by omega
    have hm := hw _ (List.getElem_mem hzj)
    have hb : 0 ≤ zs[j] ∧ zs[j] < 256 := by simp [Lit.wf, IntKind.min, IntKind.max, IntKind.bits, IntKind.signed] at hm; omega
    unfold bs at hu
    rw [List.getElem?_map, List.getElem?_map, List.getElem?_take, if_pos hj, List.getElem?_eq_getElem hzj] at hu
    simp only [Option.map_some, Option.some.injEq] at hu
    rw [← hu, List.getD_eq_getElem?_getD, List.getElem?_eq_getElem hzj]
    simp [UInt8.toNat_ofNat']
    omega

theorem row_bytes {w : World} {a : Option Addr} {len cap : Nat} {zs : List Int} (h : (a = none ∧ len = 0 ∧ cap = 0 ∧ zs = []) ∨ ∃ x, a = some x ∧ len ≤ cap ∧ cap ≤ maxLen ∧ zs.length = cap ∧ (∀ i, i < zs.length → w.cell? (x.add i) = some (.int .u8 (zs.getD i 0))) ∧ ∀ n ∈ zs, (Lit.int .u8 n).wf = true) :
    ∃ l : List UInt8, l.length = len ∧ len ≤ cap ∧ len ≤ 9223372036854775807 ∧ Reads w w.heap.size 1 a len (bs l) := by
  rcases h with ⟨rfl, rfl, rfl, rfl⟩ | ⟨x, rfl, hl, hm, hz, hc, hw⟩
  · exact ⟨[], rfl, Nat.le_refl _, by omega, Reads.none_⟩
  · obtain ⟨l, h1, h2⟩ := arg_bytes (A := some x) hl hz (fun _ => ⟨x, rfl, hc⟩) hw
    exact ⟨l, h1, hl, by unfold maxLen at hm; omega, h2⟩
end Go.Proofs.YtgabmipakocheaaDoor
