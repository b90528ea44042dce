/-
  WORDS OF FOUR BITS, plain mathematics: the word of a number, its bits, and each operation's result; what holds for all words holds if it does for each of the sixteen.
-/
namespace Go.Proofs.Ythjdonjcaekaaaa.WD

/-- The word of a number: from -8 to 7. -/
def wrp (n : Int) : Int := (n + 8) % 16 - 8
/-- The number from 0 to 15 with the bits of a number's word. -/
def bts (n : Int) : Int := n % 16
/-- A truth value. -/
def num (b : Bool) : Int := if b then 1 else 0
/-- The words. -/
def isWord (n : Int) : Prop := -8 ≤ n ∧ n ≤ 7
def allWords : List Int := [-8, -7, -6, -5, -4, -3, -2, -1, 0, 1, 2, 3, 4, 5, 6, 7]

theorem wrp_word (n : Int) : isWord (wrp n) := by unfold isWord wrp; omega
theorem wrp_of {n : Int} (h : isWord n) : wrp n = n := by unfold isWord at h; unfold wrp; omega
theorem wrp_wrp (n : Int) : wrp (wrp n) = wrp n := wrp_of (wrp_word n)
theorem bts_wrp (n : Int) : bts (wrp n) = bts n := by unfold wrp bts; omega
theorem bts_le (n : Int) : 0 ≤ bts n ∧ bts n ≤ 15 := by unfold bts; omega
theorem wrp_le (n : Int) : -8 ≤ wrp n ∧ wrp n ≤ 7 := by unfold wrp; omega
theorem wrp_bts (n : Int) : wrp (bts n) = wrp n := by unfold wrp bts; omega
theorem wrp_low (n : Int) (h : bts n ≤ 7) : wrp n = bts n := by unfold wrp; unfold bts at *; omega
theorem wrp_high (n : Int) (h : 7 < bts n) : wrp n = bts n - 16 := by unfold wrp; unfold bts at *; omega

theorem word_mem {n : Int} (h : isWord n) : n ∈ allWords := by
  unfold isWord at h
  have : n = -8 ∨ n = -7 ∨ n = -6 ∨ n = -5 ∨ n = -4 ∨ n = -3 ∨ n = -2 ∨ n = -1 ∨ n = 0 ∨ n = 1 ∨ n = 2 ∨ n = 3 ∨ n = 4 ∨ n = 5 ∨ n = 6 ∨ n = 7 := by omega
  rcases this with h | h | h | h | h | h | h | h | h | h | h | h | h | h | h | h <;> subst h <;> decide
/-- What holds for each of the sixteen words holds for every word. -/
theorem by_words1 {p : Int → Bool} (h : allWords.all p = true) {a : Int} (ha : isWord a) : p a = true := List.all_eq_true.1 h a (word_mem ha)
theorem by_words2 {p : Int → Int → Bool} (h : (allWords.all fun a => allWords.all (p a)) = true) {a b : Int} (ha : isWord a) (hb : isWord b) : p a b = true :=
  by_words1 (by_words1 h ha) hb
theorem by_words3 {p : Int → Int → Int → Bool} (h : (allWords.all fun a => allWords.all fun b => allWords.all (p a b)) = true) {a b c : Int} (ha : isWord a) (hb : isWord b) (hc : isWord c) : p a b c = true :=
  by_words1 (by_words2 h ha hb) hc

/-- The bits of two words, combined. -/
def comb (f : Nat → Nat → Nat) (a b : Int) : Int := wrp (f (bts a).toNat (bts b).toNat : Nat)
/-- A power of two. -/
def two (k : Int) : Int := 2 ^ k.toNat
/-- The result of an operation for two words. -/
def res (op a b : Int) : Int :=
  if op = 0 then wrp (a + b) else if op = 1 then wrp (a - b) else if op = 2 then wrp (a * b)
  else if op = 3 then (if b = 0 then 0 else wrp (a.tdiv b)) else if op = 4 then (if b = 0 then 0 else wrp (a.tmod b))
  else if op = 5 then comb Nat.land a b else if op = 6 then comb Nat.lor a b else if op = 7 then comb Nat.xor a b
  else if op = 8 then wrp (a * two (bts b % 4)) else if op = 9 then a / two (bts b % 4)
  else if op = 10 then num (decide (a < b)) else if op = 11 then num (decide (a = b)) else if op = 12 then num (decide (a ≠ 0 ∧ b ≠ 0)) else if op = 13 then num (decide (a ≠ 0 ∨ b ≠ 0)) else 0
/-- The code of an operation for two words. -/
def exc (op b : Int) : Int := if (op = 3 ∨ op = 4) ∧ b = 0 then 2 else 0
/-- What Op answers. -/
def opR (op a b : Int) : Int := res op (wrp a) (wrp b)
def opC (op b : Int) : Int := exc op (wrp b)
/-- What Truth answers. -/
def tru (op : Int) : Bool := decide (op = 10 ∨ op = 11 ∨ op = 12 ∨ op = 13)
end Go.Proofs.Ythjdonjcaekaaaa.WD
