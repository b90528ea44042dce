/-
  The reference's read, plain mathematics: without the limit of six bytes a kid the same trees are read.
-/
import Derived.Test.YtikinofopkjdjaaDoorG25
set_option linter.unusedVariables false
namespace Go.Proofs.YtikinofopkjdjaaDoor.TR
open WM
theorem manyD_six {d : Nat} {l : List UInt8} (hl : l.length ≤ 1000000) : ∀ (c u : Nat) (ts : List T) (v : Nat), manyD (decD d) l c u = some (ts, v) → u + 6 * c ≤ v
  | 0, u, ts, v, h => by
    simp only [manyD, Option.some.injEq, Prod.mk.injEq] at h
    omega
  | c + 1, u, ts, v, h => by
    simp only [manyD] at h
    cases hx : decD d (l.drop u) with
    | none => rw [hx] at h; cases h
    | some x =>
      obtain ⟨t, k⟩ := x
      rw [hx] at h
      simp only at h
      obtain ⟨r, hr, hk, hok, _⟩ := dec_sound d _ t k (by rw [List.length_drop]; omega) hx
      have h6 := encT_len hok
      cases hy : manyD (decD d) l c (u + k) with
      | none => rw [hy] at h; cases h
      | some y =>
        obtain ⟨rs, v'⟩ := y
        rw [hy] at h
        simp only [Option.some.injEq, Prod.mk.injEq] at h
        have := manyD_six hl c (u + k) rs v' hy
        omega
/-- Where the number of kids is not negative, the limit is no limit. -/
theorem bodyD_any {d : Nat} {l : List UInt8} {u : Nat} {k n m q : Int} (h0 : 0 ≤ q) (hu : u ≤ l.length) (hl : l.length ≤ 1000000) : bodyD (decD d) l u [k, n, m, q] = match manyD (decD d) l q.toNat u with
    | none => none
    | some (ts, v) => some (⟨k, n, m, ts⟩, v) := by
  rw [bodyD_four]
  by_cases h : q < 0 ∨ (((l.length - u) / 6 : Nat) : Int) < q
  · rw [if_pos h]
    cases hm : manyD (decD d) l q.toNat u with
    | none => rfl
    | some y =>
      obtain ⟨ts, v⟩ := y
      exfalso
      have h1 := manyD_six hl _ _ _ _ hm
      have h2 := manyD_le (fun l t k h => decD_le d l t k h) l _ _ _ _ hu hm
      omega
  · rw [if_neg h]
    cases manyD (decD d) l q.toNat u with
    | none => rfl
    | some y => rfl
end Go.Proofs.YtikinofopkjdjaaDoor.TR
namespace Go.Proofs.YtikinofopkjdjaaDoor
open Go.RowKit WM TR
/-- What read leaves: where there is no tree, some node, and -1. -/
def ReadPost (d : Nat) (o : Option (T × Nat)) (w : World) (e : Ending) (w' : World) : Prop :=
  match o with
  | none => ∃ (x1 x2 x3 : Int) (A' : Option Addr) (l' c' : Nat), e = .returned (.tuple #[.agg #[.int .i64 x1, .int .i64 x2, .int .i64 x3, .slice A' l' c'], .int .i64 (-1)]) ∧ Below w.heap.size w w'
  | some (t, u) => ∃ A' c', e = .returned (.tuple #[.agg #[.int .i64 t.k, .int .i64 t.n, .int .i64 t.m, .slice A' t.kids.length c'], .int .i64 (u : Int)]) ∧ Rep w' (fun b => w.heap.size ≤ b ∧ b < w'.heap.size) d t (nd t A' c') ∧ Below w.heap.size w w'
end Go.Proofs.YtikinofopkjdjaaDoor
