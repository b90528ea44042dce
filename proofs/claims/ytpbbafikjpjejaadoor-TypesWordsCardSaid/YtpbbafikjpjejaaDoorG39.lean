/-
  How many words: in the order in which the reference asks.
-/
import Derived.Test.YtpbbafikjpjejaaDoorG35
set_option linter.unusedVariables false
namespace Go.Proofs.YtpbbafikjpjejaaDoor.TY
open TR
theorem words_pure (k n m L : Int) (al : Bool) (hL : 0 ≤ L) :
    (if ((k == 0 || k == 1) && (n == 0 && (m == 0 && L == 0))) = true then 1
     else if ((k == 2) && (decide (1 ≤ n) && (decide (n ≤ 4) && (m == 0 && L == 0)))) = true then n
     else if ((!(k != 3) && (!(n != 0) && (!(m != 0) && (!(L == 0) && !decide (3 < L))))) && al) = true then L else -1)
    = if (m != 0) = true then -1
      else if (k == 0 || k == 1) = true then (if (n == 0 && L == 0) = true then 1 else -1)
      else if (k == 2) = true then (if (decide (1 ≤ n) && decide (n ≤ 4) && (L == 0)) = true then n else -1)
      else if (k == 3) = true then (if (n != 0 || decide (3 < L)) = true then -1 else if al = true then (if decide (0 < L) = true then L else -1) else -1)
      else -1 := by
  by_cases hm : m = 0
  · subst hm
    by_cases h0 : k = 0
    · subst h0; simp
    by_cases h1 : k = 1
    · subst h1; simp
    by_cases h2 : k = 2
    · subst h2; simp [and_assoc]
    by_cases h3 : k = 3
    · subst h3
      by_cases hn : n = 0
      · subst hn
        by_cases hl : L = 0
        · subst hl; simp
        · have : 0 < L := by omega
          cases al <;> by_cases h4 : 3 < L <;> simp [*] <;> omega
      · simp [hn]
    · simp [h0, h1, h2, h3]
  · simp [hm]
theorem words_eq (u : T) : words u = if (u.m != 0) = true then -1
      else if (u.k == 0 || u.k == 1) = true then (if (u.n == 0 && (u.kids.length : Int) == 0) = true then 1 else -1)
      else if (u.k == 2) = true then (if (decide (1 ≤ u.n) && decide (u.n ≤ 4) && ((u.kids.length : Int) == 0)) = true then u.n else -1)
      else if (u.k == 3) = true then (if (u.n != 0 || decide ((3 : Int) < (u.kids.length : Int))) = true then -1 else if u.kids.all single = true then (if decide ((0 : Int) < (u.kids.length : Int)) = true then (u.kids.length : Int) else -1) else -1)
      else -1 := by
  rw [← words_pure u.k u.n u.m (u.kids.length : Int) (u.kids.all single) (by omega)]
  rfl
theorem single_words (v : T) : single v = ((words v == 1) && (v.k == 0 || v.k == 1)) := by
  rw [words_eq]
  unfold single scal
  generalize (v.kids.length : Int) = L
  generalize v.kids.all single = al
  obtain ⟨k, n, m, kids⟩ := v
  simp only
  by_cases h0 : k = 0
  · subst h0
    by_cases hm : m = 0 <;> by_cases hn : n = 0 <;> by_cases hl : L = 0 <;> simp [hm, hn, hl]
  by_cases h1 : k = 1
  · subst h1
    by_cases hm : m = 0 <;> by_cases hn : n = 0 <;> by_cases hl : L = 0 <;> simp [hm, hn, hl]
  · have e0 : (k == 0) = false := by simpa using h0
    have e1 : (k == 1) = false := by simpa using h1
    simp only [e0, e1, Bool.or_self, Bool.false_and, Bool.and_false]
end Go.Proofs.YtpbbafikjpjejaaDoor.TY
