/-
  SHA-256 as plain mathematics: the words of a block, built byte by byte.
-/
import Derived.Test.YthhhgakeeekalaaDoorG20
set_option linter.unusedVariables false
namespace Go.Proofs.YthhhgakeeekalaaDoor

theorem fold4_snoc (l : List UInt8) (c : UInt8) : fold4 (l ++ [c]) = fold4 l <<< 8 ||| BitVec.ofNat 32 c.toNat := by simp [fold4]

/-- The part of word j that the first i bytes make. -/
def pw (b : List UInt8) (i j : Nat) : BitVec 32 := fold4 (((b.take i).drop (4 * j)).take 4)
theorem pw_zero (b : List UInt8) (j : Nat) : pw b 0 j = 0#32 := by simp [pw, fold4]
theorem pw_full (b : List UInt8) (hb : b.length = 64) (j : Nat) : pw b 64 j = word b j := by
  unfold pw word; rw [List.take_of_length_le (show b.length ≤ 64 by omega)]
theorem pw_step (b : List UInt8) (i : Nat) (hi : i < b.length) (j : Nat) :
    pw b (i + 1) j = if j = i / 4 then pw b i (i / 4) <<< 8 ||| BitVec.ofNat 32 b[i].toNat else pw b i j := by
  unfold pw
  rw [List.take_succ_eq_append_getElem hi]
  have hl : (b.take i).length = i := by simp; omega
  by_cases h1 : 4 * j ≤ i
  · rw [List.drop_append_of_le_length (by omega)]
    by_cases h2 : i - 4 * j < 4
    · have hj : j = i / 4 := by omega
      subst hj
      rw [if_pos rfl, List.take_of_length_le (show (List.drop (4 * (i / 4)) (List.take i b) ++ [b[i]]).length ≤ 4 by simp; omega), fold4_snoc, List.take_of_length_le (show (List.drop (4 * (i / 4)) (List.take i b)).length ≤ 4 by simp; omega)]
    · rw [if_neg (by omega), List.take_append_of_le_length (by simp; omega)]
  · rw [if_neg (by omega), List.drop_eq_nil_of_le (by simp; omega), List.drop_eq_nil_of_le (by simp; omega)]

theorem wrev_length (b : List UInt8) (n : Nat) : (wrev b n).length = 16 + n := by
  induction n with
  | zero => rfl
  | succ n ih => simp [wrev, ih]; omega
theorem wrev_zero (b : List UInt8) (j : Nat) (hj : j < 16) : (wrev b 0).getD (15 - j) 0#32 = word b j := by
  have : j = 0 ∨ j = 1 ∨ j = 2 ∨ j = 3 ∨ j = 4 ∨ j = 5 ∨ j = 6 ∨ j = 7 ∨ j = 8 ∨ j = 9 ∨ j = 10 ∨ j = 11 ∨ j = 12 ∨ j = 13 ∨ j = 14 ∨ j = 15 := by omega
  rcases this with h | h | h | h | h | h | h | h | h | h | h | h | h | h | h | h <;> subst h <;> rfl

/-- The first t words are known. -/
def Known (b : List UInt8) (t : Nat) (g : Nat → BitVec 32) : Prop := ∀ j, j < t → g j = (wrev b (t - 16)).getD (t - 1 - j) 0#32
theorem known_start (b : List UInt8) (g : Nat → BitVec 32) (h : ∀ j, j < 16 → g j = word b j) : Known b 16 g := fun j hj => by
  rw [h j hj]
  exact (wrev_zero b j hj).symm
theorem known_next {b : List UInt8} {t : Nat} {g : Nat → BitVec 32} (ht : 16 ≤ t) (h : Known b t g) {x : BitVec 32} (hx : x = g (t - 16) + sig0 (g (t - 15)) + g (t - 7) + sig1 (g (t - 2))) :
    Known b (t + 1) (fun j => if j = t then x else g j) := fun j hj => by
  have e : t + 1 - 16 = (t - 16) + 1 := by omega
  rw [e, wrev]
  show (if j = t then x else g j) = _
  by_cases hjt : j = t
  · subst hjt
    rw [if_pos rfl, hx, h _ (by omega), h _ (by omega), h _ (by omega), h _ (by omega)]
    have e0 : j + 1 - 1 - j = 0 := by omega
    have e1 : j - 1 - (j - 16) = 15 := by omega
    have e2 : j - 1 - (j - 15) = 14 := by omega
    have e3 : j - 1 - (j - 7) = 6 := by omega
    have e4 : j - 1 - (j - 2) = 1 := by omega
    rw [e0, e1, e2, e3, e4]
    rfl
  · rw [if_neg hjt, h j (by omega)]
    have e5 : t + 1 - 1 - j = (t - 1 - j) + 1 := by omega
    rw [e5]
    rfl
theorem known_done {b : List UInt8} {g : Nat → BitVec 32} (h : Known b 64 g) (j : Nat) (hj : j < 64) : g j = wAt b j := h j hj

def tab (g : Nat → BitVec 32) : List (BitVec 32) := (List.range 64).map g
theorem tab_length (g : Nat → BitVec 32) : (tab g).length = 64 := by simp [tab]
theorem tab_get (g : Nat → BitVec 32) (i : Nat) (hi : i < 64) : (tab g)[i]? = some (g i) := by simp [tab, hi]
theorem tab_set (g : Nat → BitVec 32) (i : Nat) (x : BitVec 32) : (tab g).set i x = tab (fun j => if j = i then x else g j) := by
  apply List.ext_getElem?
  intro k
  by_cases hk : k < 64
  · rw [List.getElem?_set, tab_get _ _ hk, tab_get _ _ hk, tab_length]
    by_cases h : i = k
    · subst h; simp [hk]
    · rw [if_neg h, if_neg (by omega)]
  · rw [List.getElem?_eq_none (by simp [tab]; omega), List.getElem?_eq_none (by simp [tab]; omega)]
theorem tab_congr {g g' : Nat → BitVec 32} (h : ∀ j, j < 64 → g j = g' j) : tab g = tab g' := by
  unfold tab
  apply List.map_congr_left
  intro j hj
  exact h j (by simpa using hj)
end Go.Proofs.YthhhgakeeekalaaDoor
