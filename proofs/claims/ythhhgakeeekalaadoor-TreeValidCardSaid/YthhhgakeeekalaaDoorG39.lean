/-
  Rows of trees.
-/
import Derived.Test.YthhhgakeeekalaaDoorG24
set_option linter.unusedVariables false
namespace Go.Proofs.YthhhgakeeekalaaDoor
open Go.RowKit WM TR

/-- A row of trees, below the world's end. -/
def RowT (w : World) (g o : Nat) (ts : List T) : Prop :=
  g < w.heap.size ∧ ∀ (i : Nat) (t : T), ts[i]? = some t → ∃ A c D, (∀ (j : Nat) (v : Value), (nd t A c)[j]? = some v → w.cell? ⟨g, o + i * 4 + j, none⟩ = some v) ∧ Rep w (fun b => b < w.heap.size) D t (nd t A c)
theorem row_nd {w : World} {g o i c : Nat} {t : T} {A : Option Addr} (h : w.cell? ⟨g, o + i * 4, none⟩ = some (.int .i64 t.k) ∧ w.cell? ⟨g, o + i * 4 + 1, none⟩ = some (.int .i64 t.n) ∧ w.cell? ⟨g, o + i * 4 + 2, none⟩ = some (.int .i64 t.m) ∧ w.cell? ⟨g, o + i * 4 + 3, none⟩ = some (.slice A t.kids.length c)) :
    ∀ j v, (nd t A c)[j]? = some v → w.cell? ⟨g, o + i * 4 + j, none⟩ = some v := fun j v hv => by
  match j, hv with
  | 0, hv => cases hv; exact h.1
  | 1, hv => cases hv; exact h.2.1
  | 2, hv => cases hv; exact h.2.2.1
  | 3, hv => cases hv; exact h.2.2.2
  | j + 4, hv => simp [nd] at hv

theorem rowT_of {w : World} {D : Nat} {ts : List T} {xs : List Value} (h : Reps w (fun b => b < w.heap.size) D ts xs) : RowT (w.alloc (.cells xs.toArray 25)) w.heap.size 0 ts := by
  have hB := Blk.new w 25 xs.toArray
  have hk := h.keep (Keeps.below (in_lt w) (below_new w (.cells xs.toArray 25)))
  refine ⟨hB.lt, fun i t ht => ?_⟩
  have hr := hk.2 i t ht
  obtain ⟨A, c, e, hc⟩ := hr.form
  refine ⟨A, c, D, fun j v hv => ?_, ?_⟩
  · rw [← e, List.getElem?_take] at hv
    split at hv
    · rw [List.getElem?_drop] at hv
      rw [hB.cell, Nat.zero_add]
      simpa using hv
    · cases hv
  · rw [e] at hr
    exact hr.mono fun q (hq : q < w.heap.size) => Nat.lt_of_lt_of_le hq (below_new w _).size
end Go.Proofs.YthhhgakeeekalaaDoor
