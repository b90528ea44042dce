/-
  A small fact of lists of trees.
-/
import Derived.Test.YthhhgakeeekalaaDoorG03
set_option linter.unusedVariables false
namespace Go.Proofs.YthhhgakeeekalaaDoor.TR
theorem foldr_le {f : T → Nat} {m : Nat} : ∀ l : List T, (∀ u ∈ l, f u ≤ m) → (l.map f).foldr max 0 ≤ m
  | [], _ => by simp
  | x :: l, h => by
    have h1 := h x (List.mem_cons_self ..)
    have h2 := foldr_le l fun u hu => h u (List.mem_cons_of_mem _ hu)
    simp only [List.map_cons, List.foldr_cons]; omega
end Go.Proofs.YthhhgakeeekalaaDoor.TR
