/-
  MATHEMATICS OF A FURTHER FUNCTION: it changes neither whether code is valid nor the heights of the others.
-/
import Derived.Test.YtdhmaopodcccmaaDoorG24
set_option linter.unusedVariables false
namespace Go.Proofs.YtdhmaopodcccmaaDoor
open Go.RowKit WM TR KM

/-- The further function. -/
def push1 (v : Int) : KM.Fn := ⟨0, 0, [⟨0, v, 0⟩, ⟨10, 0, 0⟩]⟩
theorem v16 {v : Int} (h : -8 ≤ v ∧ v ≤ 7) : v = -8 ∨ v = -7 ∨ v = -6 ∨ v = -5 ∨ v = -4 ∨ v = -3 ∨ v = -2 ∨ v = -1 ∨ v = 0 ∨ v = 1 ∨ v = 2 ∨ v = 3 ∨ v = 4 ∨ v = 5 ∨ v = 6 ∨ v = 7 := by omega
set_option maxRecDepth 100000 in
theorem hts_push1 {v : Int} (h : -8 ≤ v ∧ v ≤ 7) : hts [⟨0, v, 0⟩, ⟨10, 0, 0⟩] = some [0, 1] := by
  rcases v16 h with rfl | rfl | rfl | rfl | rfl | rfl | rfl | rfl | rfl | rfl | rfl | rfl | rfl | rfl | rfl | rfl <;> decide +kernel
theorem idx_more {a : Int} {n : Nat} (h : a ≠ n) : idxB a ((n + 1 : Nat) : Int) = idxB a n := by
  unfold idxB witB
  rw [Bool.eq_iff_iff]
  simp only [Bool.and_eq_true, decide_eq_true_eq]
  omega
theorem right_more (ch : Int) (fs : List KM.Fn) (g : KM.Fn) (wd : Int) (nb : Nat) (x : Ins) (h : (x.op = 9 ∨ x.op = 16) → x.a ≠ fs.length) : rightB ch (fs ++ [g]) wd nb x = rightB ch fs wd nb x := by
  by_cases hc : x.op = 9 ∨ x.op = 16
  · have hne := h hc
    have h1 : idxB x.a ((fs ++ [g]).length : Nat) = idxB x.a fs.length := by
      rw [List.length_append]; exact idx_more hne
    have h2 : idxB x.a fs.length = true → pOf (fs ++ [g]) x.a = pOf fs x.a := fun hi => by
      unfold idxB witB at hi
      simp only [Bool.and_eq_true, decide_eq_true_eq] at hi
      unfold pOf
      rw [List.getElem?_append_left (by omega)]
    have h3 : ((idxB x.a (fs ++ [g]).length && x.b == pOf (fs ++ [g]) x.a) && witB x.b 0 3) = ((idxB x.a fs.length && x.b == pOf fs x.a) && witB x.b 0 3) := by
      rw [h1]
      cases hi : idxB x.a fs.length with
      | false => rfl
      | true => rw [h2 hi]
    unfold rightB
    rcases hc with hc | hc <;> rw [hc] <;> simpa using h3
  · unfold rightB
    have e1 : (x.op = 9 ∨ x.op = 16) = False := by simp [hc]
    simp only [e1, if_false]
theorem hOf_more {ch : Int} {fs : List KM.Fn} (g : KM.Fn) {f : KM.Fn} (h : ∀ x ∈ f.body, (x.op = 9 ∨ x.op = 16) → x.a ≠ fs.length) : hOf ch (fs ++ [g]) f = hOf ch fs f := by
  have e : f.body.all (rightB ch (fs ++ [g]) f.w f.body.length) = f.body.all (rightB ch fs f.w f.body.length) := by
    rw [Bool.eq_iff_iff]
    simp only [List.all_eq_true]
    constructor
    · intro h1 x hx; rw [← right_more ch fs g f.w _ x (h x hx)]; exact h1 x hx
    · intro h1 x hx; rw [right_more ch fs g f.w _ x (h x hx)]; exact h1 x hx
  unfold hOf
  rw [e]
theorem hOf_push1 (ch : Int) (fs : List KM.Fn) {v : Int} (h : -8 ≤ v ∧ v ≤ 7) : hOf ch fs (push1 v) = some [0, 1] := by
  have h0 : witB v (-8) 7 = true := by unfold witB; simp [h]
  have h1 : (push1 v).body.all (rightB ch fs (push1 v).w (push1 v).body.length) = true := by
    simp [push1, rightB, h0]
  unfold hOf
  rw [h1]
  rw [if_pos (by simp [push1, witB])]
  exact hts_push1 h
theorem bound_more (ch : Int) {n : Nat} (h : 1 ≤ n ∧ n < 6) : boundB ch (n + 1) = boundB ch n := by
  have h1 : witB ((n + 1 : Nat) : Int) 1 6 = true := by unfold witB; simp; omega
  have h2 : witB (n : Int) 1 6 = true := by unfold witB; simp; omega
  unfold boundB
  rw [h1, h2]
theorem val_more (ch : Int) (fs : List KM.Fn) {v : Int} (hv : -8 ≤ v ∧ v ≤ 7) (hn : 1 ≤ fs.length ∧ fs.length < 6) (h : ∀ f ∈ fs, ∀ x ∈ f.body, (x.op = 9 ∨ x.op = 16) → x.a ≠ fs.length) : valB ch (fs ++ [push1 v]) = valB ch fs := by
  have e : (fs ++ [push1 v]).all (fun f => (hOf ch (fs ++ [push1 v]) f).isSome) = fs.all (fun f => (hOf ch fs f).isSome) := by
    rw [List.all_append]
    have h1 : [push1 v].all (fun f => (hOf ch (fs ++ [push1 v]) f).isSome) = true := by simp [hOf_push1 ch _ hv]
    rw [h1, Bool.and_true, Bool.eq_iff_iff]
    simp only [List.all_eq_true]
    constructor
    · intro h1 f hf; rw [← hOf_more (push1 v) (h f hf)]; exact h1 f hf
    · intro h1 f hf; rw [hOf_more (push1 v) (h f hf)]; exact h1 f hf
  unfold valB
  rw [e, List.length_append, List.length_singleton, bound_more ch hn]
theorem at_more (ch : Int) (fs : List KM.Fn) (v : Int) (hn : 1 ≤ fs.length ∧ fs.length < 6) (h : ∀ f ∈ fs, ∀ x ∈ f.body, (x.op = 9 ∨ x.op = 16) → x.a ≠ fs.length) {i : Nat} (hi : i < fs.length) : hAt ch (fs ++ [push1 v]) i = hAt ch fs i := by
  have h1 : idxB (i : Int) ((fs ++ [push1 v]).length : Nat) = true := by
    rw [List.length_append, List.length_singleton]; unfold idxB witB; simp; omega
  have h2 : idxB (i : Int) (fs.length : Nat) = true := by unfold idxB witB; simp; omega
  have h3 : (fs ++ [push1 v])[(i : Int).toNat]? = fs[(i : Int).toNat]? := List.getElem?_append_left (by simpa using hi)
  unfold hAt
  rw [h1, h2, h3, List.length_append, List.length_singleton, bound_more ch hn]
  split
  · cases hf : fs[(i : Int).toNat]? with
    | none => rfl
    | some f => exact hOf_more _ (h f (List.mem_of_getElem? hf))
  · rfl
end Go.Proofs.YtdhmaopodcccmaaDoor
