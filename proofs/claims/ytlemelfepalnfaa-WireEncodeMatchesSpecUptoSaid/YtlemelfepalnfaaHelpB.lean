/-
  FOR THE LAWS: a slice of integers that came in, as a list.
-/
import Derived.Test.YtlemelfepalnfaaHelp
namespace Go.Proofs.Ytlemelfepalnfaa
open Go.RowKit WM

theorem arg_ints {W : World} {A : Option Addr} {len cap : Nat} {zs : List Int} (hl : len ≤ cap) (hz : zs.length = cap) (h : 0 < len → ∃ x, A = some x ∧ ∀ i, i < zs.length → W.cell? (x.add i) = some (.int .i64 (zs.getD i 0))) (hw : ∀ n ∈ zs, (Lit.int .i64 n).wf = true) :
    ∃ l : List Int, l.length = len ∧ (∀ x ∈ l, inRange x) ∧ Reads W W.heap.size 1 A len (is l) := by
  refine ⟨zs.take len, by simp; omega, fun x hx => range_i64 (hw x (List.mem_of_mem_take hx)), by simp [is]; omega, fun hn => ?_⟩
  obtain ⟨x, rfl, hc⟩ := h hn
  have h0 := hc 0 (by omega)
  refine ⟨x, rfl, ?_, fun j u hu => ?_⟩
  · have := block_lt_of_cell h0
    rwa [block_of_add] at this
  · have hj : j < len := by
      have := (List.getElem?_eq_some_iff.1 hu).1
      simp [is] at this; omega
    rw [hc j (by omega)]
    have hzj : j < zs.length := by omega
    unfold is at hu
    rw [List.getElem?_map, List.getElem?_take, if_pos hj, List.getElem?_eq_getElem hzj] at hu
    simp only [Option.map_some, Option.some.injEq] at hu
    rw [← hu, List.getD_eq_getElem?_getD, List.getElem?_eq_getElem hzj]
    rfl
theorem row_ints {w : World} {a : Option Addr} {len cap : Nat} {zs : List Int} (h : (a = none ∧ len = 0 ∧ cap = 0 ∧ zs = []) ∨ ∃ x, a = some x ∧ len ≤ cap ∧ cap ≤ maxLen ∧ zs.length = cap ∧ (∀ i, i < zs.length → w.cell? (x.add i) = some (.int .i64 (zs.getD i 0))) ∧ ∀ n ∈ zs, (Lit.int .i64 n).wf = true) :
    ∃ l : List Int, l.length = len ∧ len ≤ cap ∧ (∀ x ∈ l, inRange x) ∧ Reads w w.heap.size 1 a len (is l) := by
  rcases h with ⟨rfl, rfl, rfl, rfl⟩ | ⟨x, rfl, hl, hm, hz, hc, hw⟩
  · exact ⟨[], rfl, Nat.le_refl _, by simp, Reads.none_⟩
  · obtain ⟨l, h1, h2, h3⟩ := arg_ints (A := some x) hl hz (fun _ => ⟨x, rfl, hc⟩) hw
    exact ⟨l, h1, hl, h2, h3⟩
end Go.Proofs.Ytlemelfepalnfaa
