/-
  SHA-256 as plain mathematics: words of 32 bits, blocks as lists of bytes.
-/
import Derived.Test.YtbdknncmlcbbpaaDoorRows
import Derived.Test.YtbdknncmlcbbpaaDoorG01
import Derived.Outline
import Derived.Deep.QuietTactic
import Derived.BigQuiet
import Derived.Test.YtbdknncmlcbbpaaDoorG03
import Derived.Laws.CopyRow
import Derived.Deep.RegionWith
import Derived.StillTailTactics
set_option linter.unusedVariables false
namespace Go.Proofs.YtbdknncmlcbbpaaDoor

/-- x rotated right. -/
def ror (x : BitVec 32) (n : Nat) : BitVec 32 := x >>> n ||| x <<< (32 - n)

/-- The words k(0) to k(63). -/
def kTab : List (BitVec 32) := [
  1116352408#32, 1899447441#32, 3049323471#32, 3921009573#32, 961987163#32, 1508970993#32, 2453635748#32, 2870763221#32,
  3624381080#32, 310598401#32, 607225278#32, 1426881987#32, 1925078388#32, 2162078206#32, 2614888103#32, 3248222580#32,
  3835390401#32, 4022224774#32, 264347078#32, 604807628#32, 770255983#32, 1249150122#32, 1555081692#32, 1996064986#32,
  2554220882#32, 2821834349#32, 2952996808#32, 3210313671#32, 3336571891#32, 3584528711#32, 113926993#32, 338241895#32,
  666307205#32, 773529912#32, 1294757372#32, 1396182291#32, 1695183700#32, 1986661051#32, 2177026350#32, 2456956037#32,
  2730485921#32, 2820302411#32, 3259730800#32, 3345764771#32, 3516065817#32, 3600352804#32, 4094571909#32, 275423344#32,
  430227734#32, 506948616#32, 659060556#32, 883997877#32, 958139571#32, 1322822218#32, 1537002063#32, 1747873779#32,
  1955562222#32, 2024104815#32, 2227730452#32, 2361852424#32, 2428436474#32, 2756734187#32, 3204031479#32, 3329325298#32]

/-- The eight variables, and the eight words of the hash value. -/
structure St where
  a : BitVec 32
  b : BitVec 32
  c : BitVec 32
  d : BitVec 32
  e : BitVec 32
  f : BitVec 32
  g : BitVec 32
  h : BitVec 32

def St.list (s : St) : List (BitVec 32) := [s.a, s.b, s.c, s.d, s.e, s.f, s.g, s.h]
def St.add (s t : St) : St := ⟨s.a + t.a, s.b + t.b, s.c + t.c, s.d + t.d, s.e + t.e, s.f + t.f, s.g + t.g, s.h + t.h⟩
def iv : St := ⟨1779033703#32, 3144134277#32, 1013904242#32, 2773480762#32, 1359893119#32, 2600822924#32, 528734635#32, 1541459225#32⟩

/-- One word, the most significant byte first. -/
def fold4 (l : List UInt8) : BitVec 32 := l.foldl (fun x c => x <<< 8 ||| BitVec.ofNat 32 c.toNat) 0#32
def word (b : List UInt8) (j : Nat) : BitVec 32 := fold4 ((b.drop (4 * j)).take 4)
def sig0 (x : BitVec 32) : BitVec 32 := ror x 7 ^^^ ror x 18 ^^^ x >>> 3
def sig1 (x : BitVec 32) : BitVec 32 := ror x 17 ^^^ ror x 19 ^^^ x >>> 10
/-- The words, the last one first. -/
def nxt (l : List (BitVec 32)) : BitVec 32 := l.getD 15 0#32 + sig0 (l.getD 14 0#32) + l.getD 6 0#32 + sig1 (l.getD 1 0#32)
def wrev (b : List UInt8) : Nat → List (BitVec 32)
  | 0 => [word b 15, word b 14, word b 13, word b 12, word b 11, word b 10, word b 9, word b 8, word b 7, word b 6, word b 5, word b 4, word b 3, word b 2, word b 1, word b 0]
  | n + 1 => nxt (wrev b n) :: wrev b n
def wAt (b : List UInt8) (t : Nat) : BitVec 32 := (wrev b 48).getD (63 - t) 0#32

def xOf (s : St) (k w : BitVec 32) : BitVec 32 := s.h + (ror s.e 6 ^^^ ror s.e 11 ^^^ ror s.e 25) + (s.e &&& s.f ^^^ ~~~s.e &&& s.g) + k + w
def yOf (s : St) : BitVec 32 := (ror s.a 2 ^^^ ror s.a 13 ^^^ ror s.a 22) + (s.a &&& s.b ^^^ s.a &&& s.c ^^^ s.b &&& s.c)
def rnd (s : St) (k w : BitVec 32) : St := ⟨xOf s k w + yOf s, s.a, s.b, s.c, s.d + xOf s k w, s.e, s.f, s.g⟩
def rnds (v : St) (b : List UInt8) : Nat → St
  | 0 => v
  | t + 1 => rnd (rnds v b t) (kTab.getD t 0#32) (wAt b t)
/-- What a block makes of a hash value. -/
def comp (v : St) (b : List UInt8) : St := v.add (rnds v b 64)

def blockOf (m : List UInt8) (n : Nat) : List UInt8 := (m.drop (64 * n)).take 64
/-- The hash value behind the first n blocks of a message. -/
def hvn (m : List UInt8) : Nat → St
  | 0 => iv
  | n + 1 => comp (hvn m n) (blockOf m n)

def len8 (n : Nat) : List UInt8 := [UInt8.ofNat (n / 2 ^ 56), UInt8.ofNat (n / 2 ^ 48), UInt8.ofNat (n / 2 ^ 40), UInt8.ofNat (n / 2 ^ 32), UInt8.ofNat (n / 2 ^ 24), UInt8.ofNat (n / 2 ^ 16), UInt8.ofNat (n / 2 ^ 8), UInt8.ofNat n]
def zeros (m : Nat) : Nat := (119 - m % 64) % 64
def pad (m : List UInt8) : List UInt8 := m ++ 128 :: (List.replicate (zeros m.length) 0 ++ len8 (8 * m.length))
def outB (v : St) : List UInt8 := (List.range 32).map fun i => UInt8.ofNat ((v.list.getD (i / 4) 0#32) >>> (24 - 8 * (i % 4))).toNat
def sha (m : List UInt8) : List UInt8 := outB (hvn (pad m) ((pad m).length / 64))
end Go.Proofs.YtbdknncmlcbbpaaDoor

/-
  WORDS OF 32 BITS as values, and what the model's operations on them are.
-/
namespace Go.Proofs.YtbdknncmlcbbpaaDoor
open Go.RowKit

/-- A word as a value. -/
abbrev W32 (x : BitVec 32) : Value := .int .u32 (x.toNat : Int)

theorem ofNat_toNat32 (x : BitVec 32) : BitVec.ofInt 32 (x.toNat : Int) = x := by
  rw [BitVec.ofInt_natCast]; simp
theorem wrap_toNat32 (x : BitVec 32) : IntKind.u32.wrap (x.toNat : Int) = x.toNat := by
  rw [IntKind.wrap_u32]
  have := x.isLt
  omega
theorem xor32 (x y : BitVec 32) : bits .xor .u32 (x.toNat : Int) (y.toNat : Int) = ((x ^^^ y).toNat : Int) := by
  simp only [bits]
  rw [show BitVec.ofInt IntKind.u32.bits (x.toNat : Int) = x from ofNat_toNat32 x, show BitVec.ofInt IntKind.u32.bits (y.toNat : Int) = y from ofNat_toNat32 y]
  exact wrap_toNat32 _
theorem and32 (x y : BitVec 32) : bits .and .u32 (x.toNat : Int) (y.toNat : Int) = ((x &&& y).toNat : Int) := by
  simp only [bits]
  rw [show BitVec.ofInt IntKind.u32.bits (x.toNat : Int) = x from ofNat_toNat32 x, show BitVec.ofInt IntKind.u32.bits (y.toNat : Int) = y from ofNat_toNat32 y]
  exact wrap_toNat32 _
theorem or32 (x y : BitVec 32) : bits .or .u32 (x.toNat : Int) (y.toNat : Int) = ((x ||| y).toNat : Int) := by
  simp only [bits]
  rw [show BitVec.ofInt IntKind.u32.bits (x.toNat : Int) = x from ofNat_toNat32 x, show BitVec.ofInt IntKind.u32.bits (y.toNat : Int) = y from ofNat_toNat32 y]
  exact wrap_toNat32 _
theorem xor_ones (y : BitVec 32) : BitVec.allOnes 32 ^^^ y = ~~~y := by
  rw [BitVec.xor_comm, BitVec.xor_allOnes]
theorem not32 (y : BitVec 32) : bits .xor .u32 4294967295 (y.toNat : Int) = ((~~~y).toNat : Int) := by
  have h := xor32 (BitVec.allOnes 32) y
  rw [xor_ones] at h
  exact h
theorem not32' (y : BitVec 32) : bits .xor .u32 (y.toNat : Int) 4294967295 = ((~~~y).toNat : Int) := by
  have h := xor32 y (BitVec.allOnes 32)
  rw [BitVec.xor_allOnes] at h
  exact h
theorem add32 (x y : BitVec 32) : IntKind.u32.wrap ((x.toNat : Int) + (y.toNat : Int)) = ((x + y).toNat : Int) := by
  rw [IntKind.wrap_u32, BitVec.toNat_add]; omega
theorem shr32 (x : BitVec 32) (n : Nat) : (x.toNat : Int) / 2 ^ n = ((x >>> n).toNat : Int) := by
  rw [BitVec.toNat_ushiftRight, Nat.shiftRight_eq_div_pow]; simp
theorem shl32 (x : BitVec 32) (n : Nat) : IntKind.u32.wrap ((x.toNat : Int) * 2 ^ n) = ((x <<< n).toNat : Int) := by
  rw [IntKind.wrap_u32, BitVec.toNat_shiftLeft, Nat.shiftLeft_eq]; simp

theorem add32' (x y : BitVec 32) : ((x.toNat : Int) + (y.toNat : Int)) % 4294967296 = ((x + y).toNat : Int) := by
  rw [BitVec.toNat_add]; omega
theorem shl32' (x : BitVec 32) (n : Nat) : (x.toNat : Int) * 2 ^ n % 4294967296 = ((x <<< n).toNat : Int) := by
  rw [BitVec.toNat_shiftLeft, Nat.shiftLeft_eq]; simp
theorem ror_eq (x : BitVec 32) (n : Nat) : bits .or .u32 ((x.toNat : Int) / 2 ^ n) ((x.toNat : Int) * 2 ^ (32 - n) % 4294967296) = ((ror x n).toNat : Int) := by
  rw [shr32, shl32', or32]; rfl
theorem ror_eq' (x : BitVec 32) (n : Nat) : bits .or .u32 ((x.toNat : Int) * 2 ^ (32 - n) % 4294967296) ((x.toNat : Int) / 2 ^ n) = ((ror x n).toNat : Int) := by
  rw [shr32, shl32', or32, BitVec.or_comm]; rfl
theorem ret_int {k : IntKind} {a b : Int} (h : a = b) : Ending.returned (.int k a) = .returned (.int k b) := by rw [h]

set_option maxHeartbeats 400000 in
theorem rotr_ref (x : BitVec 32) (n : Nat) (h1 : 1 ≤ n) (h2 : n ≤ 31) (w : World) :
    Calls Tryd.prog 92 #[W32 x, .int .i64 (n : Int)] w fun e w' => e = .returned (W32 (ror x n)) ∧ ∃ m, w' = w.drewN m := by
  have a1 : (0 : Int) ≤ 32 - n := by omega
  have a2 : IntKind.i64.wrap (32 - (n : Int)) = 32 - (n : Int) := IntWalk.i64_in _ (by omega)
  go_enter Tryd.func92, Tryd.ntmps92
  go_wp2
  go_quiet (fail)
  go_wp2
  go_ret
  exact ⟨ret_int (ror_eq x n), _, rfl⟩
theorem mask31 (n : Nat) (h1 : 1 ≤ n) (h2 : n ≤ 31) : bits .and .u64 (IntKind.u64.wrap (-(n : Int))) 31 = 32 - (n : Int) := by
  have e : IntKind.u64.wrap (-(n : Int)) = ((18446744073709551616 - n : Nat) : Int) := by
    simp [IntKind.wrap, IntKind.bits, IntKind.signed]; omega
  rw [e]
  have h := bits_mask .u64 64 (Nat.le_refl _) (fun n h0 h1 => by simp [IntKind.wrap, IntKind.bits, IntKind.signed]; omega) 5 (by omega) ((18446744073709551616 - n : Nat) : Int) (by omega) (by omega)
  have e5 : (2 : Int) ^ 5 - 1 = 31 := by decide
  rw [e5] at h
  rw [h]
  omega
set_option maxHeartbeats 400000 in
theorem rotl (x : BitVec 32) (n : Nat) (h1 : 1 ≤ n) (h2 : n ≤ 31) (w : World) :
    Calls Tryd.prog 94 #[W32 x, .int .i64 (-(n : Int))] w fun e w' => e = .returned (W32 (ror x n)) ∧ w = w' := by
  have hm := mask31 n h1 h2
  go_enter Tryd.func94, Tryd.ntmps94
  go_wp2
  go_ret
  exact ⟨ret_int (by rw [show 32 - (32 - n) = n by omega]; exact ror_eq' x n), rfl⟩
set_option maxHeartbeats 400000 in
theorem rotr (x : BitVec 32) (n : Nat) (h1 : 1 ≤ n) (h2 : n ≤ 31) (w : World) :
    Calls Tryd.prog 87 #[W32 x, .int .i64 (n : Int)] w fun e w' => e = .returned (W32 (ror x n)) ∧ w = w' := by
  go_enter Tryd.func87, Tryd.ntmps87
  go_wp2_with (go_at_call 94; refine (rotl x n h1 h2 _).mono ?_; rintro e w' ⟨rfl, rfl⟩)
  go_ret
  exact ⟨rfl, rfl⟩
/-- Both, at a literal. -/
theorem rotrI (x : BitVec 32) (m : Int) (h1 : 1 ≤ m) (h2 : m ≤ 31) (w : World) :
    Calls Tryd.prog 87 #[W32 x, .int .i64 m] w fun e w' => e = .returned (W32 (ror x m.toNat)) ∧ w = w' := by
  obtain ⟨n, rfl⟩ := Int.eq_ofNat_of_zero_le (show 0 ≤ m by omega)
  simpa using rotr x n (by omega) (by omega) w
theorem rotrI_ref (x : BitVec 32) (m : Int) (h1 : 1 ≤ m) (h2 : m ≤ 31) (w : World) :
    Calls Tryd.prog 92 #[W32 x, .int .i64 m] w fun e w' => e = .returned (W32 (ror x m.toNat)) ∧ ∃ m, w' = w.drewN m := by
  obtain ⟨n, rfl⟩ := Int.eq_ofNat_of_zero_le (show 0 ≤ m by omega)
  simpa using rotr_ref x n (by omega) (by omega) w
end Go.Proofs.YtbdknncmlcbbpaaDoor

/-
  MEMORY: arrays by value, and parts of a block that is known whole.
-/
namespace Go.Proofs.YtbdknncmlcbbpaaDoor
open Go.RowKit

def ws (l : List (BitVec 32)) : List Value := l.map W32
theorem ws_length (l : List (BitVec 32)) : (ws l).length = l.length := by simp [ws]
theorem ws_get {l : List (BitVec 32)} {i : Nat} {x : BitVec 32} (h : l[i]? = some x) : (ws l)[i]? = some (W32 x) := by simp [ws, h]
theorem ws_one (l : List (BitVec 32)) : ∀ u ∈ ws l, u.oneCell' = true := by
  intro u hu
  simp only [ws, List.mem_map] at hu
  obtain ⟨x, _, rfl⟩ := hu
  rfl
theorem ws_set (l : List (BitVec 32)) (i : Nat) (x : BitVec 32) : (ws l).set i (W32 x) = ws (l.set i x) := by simp [ws, List.map_set]

theorem Tryd.size85 : (Tryd.prog.info? 85).map (·.size) = some 64 := by kernel_rfl
theorem Tryd.size137 : (Tryd.prog.info? 137).map (·.size) = some 64 := by kernel_rfl
theorem Tryd.size84 : (Tryd.prog.info? 84).map (·.size) = some 8 := by kernel_rfl
theorem Tryd.size92 : (Tryd.prog.info? 92).map (·.size) = some 32 := by kernel_rfl
theorem Tryd.size88 : (Tryd.prog.info? 88).map (·.size) = some 73 := by kernel_rfl
theorem Tryd.size37 : (Tryd.prog.info? 37).map (·.size) = some 16 := by kernel_rfl
theorem Tryd.sz5 (W : World) : (sizeOf 5).run Tryd.prog W = .ok 1 W := by kernel_rfl
theorem Tryd.sz83 (W : World) : (sizeOf 83).run Tryd.prog W = .ok 1 W := by kernel_rfl

section
variable {w w' : World} {g : Nat} {t : TypeId} {cs : Array Value}
end
section
variable {P : Program} (w : World)
end
end Go.Proofs.YtbdknncmlcbbpaaDoor

/-
  SHA-256 as plain mathematics: the words of a block, built byte by byte.
-/
namespace Go.Proofs.YtbdknncmlcbbpaaDoor

theorem fold4_snoc (l : List UInt8) (c : UInt8) : fold4 (l ++ [c]) = fold4 l <<< 8 ||| BitVec.ofNat 32 c.toNat := by simp [fold4]

/-- The part of word j that the first i bytes make. -/
def pw (b : List UInt8) (i j : Nat) : BitVec 32 := fold4 (((b.take i).drop (4 * j)).take 4)
theorem pw_zero (b : List UInt8) (j : Nat) : pw b 0 j = 0#32 := by simp [pw, fold4]
theorem pw_full (b : List UInt8) (hb : b.length = 64) (j : Nat) : pw b 64 j = word b j := by
  unfold pw word; rw [List.take_of_length_le (show b.length ≤ 64 by omega)]
theorem pw_step (b : List UInt8) (i : Nat) (hi : i < b.length) (j : Nat) :
    pw b (i + 1) j = if j = i / 4 then pw b i (i / 4) <<< 8 ||| BitVec.ofNat 32 b[i].toNat else pw b i j := by
  unfold pw
  rw [List.take_succ_eq_append_getElem hi]
  have hl : (b.take i).length = i := by simp; omega
  by_cases h1 : 4 * j ≤ i
  · rw [List.drop_append_of_le_length (by omega)]
    by_cases h2 : i - 4 * j < 4
    · have hj : j = i / 4 := by omega
      subst hj
      rw [if_pos rfl, List.take_of_length_le (show (List.drop (4 * (i / 4)) (List.take i b) ++ [b[i]]).length ≤ 4 by simp; omega), fold4_snoc, List.take_of_length_le (show (List.drop (4 * (i / 4)) (List.take i b)).length ≤ 4 by simp; omega)]
    · rw [if_neg (by omega), List.take_append_of_le_length (by simp; omega)]
  · rw [if_neg (by omega), List.drop_eq_nil_of_le (by simp; omega), List.drop_eq_nil_of_le (by simp; omega)]

theorem wrev_length (b : List UInt8) (n : Nat) : (wrev b n).length = 16 + n := by
  induction n with
  | zero => rfl
  | succ n ih => simp [wrev, ih]; omega
theorem wrev_zero (b : List UInt8) (j : Nat) (hj : j < 16) : (wrev b 0).getD (15 - j) 0#32 = word b j := by
  have : j = 0 ∨ j = 1 ∨ j = 2 ∨ j = 3 ∨ j = 4 ∨ j = 5 ∨ j = 6 ∨ j = 7 ∨ j = 8 ∨ j = 9 ∨ j = 10 ∨ j = 11 ∨ j = 12 ∨ j = 13 ∨ j = 14 ∨ j = 15 := by omega
  rcases this with h | h | h | h | h | h | h | h | h | h | h | h | h | h | h | h <;> subst h <;> rfl

/-- The first t words are known. -/
def Known (b : List UInt8) (t : Nat) (g : Nat → BitVec 32) : Prop := ∀ j, j < t → g j = (wrev b (t - 16)).getD (t - 1 - j) 0#32
theorem known_start (b : List UInt8) (g : Nat → BitVec 32) (h : ∀ j, j < 16 → g j = word b j) : Known b 16 g := fun j hj => by
  rw [h j hj]
  exact (wrev_zero b j hj).symm
theorem known_next {b : List UInt8} {t : Nat} {g : Nat → BitVec 32} (ht : 16 ≤ t) (h : Known b t g) {x : BitVec 32} (hx : x = g (t - 16) + sig0 (g (t - 15)) + g (t - 7) + sig1 (g (t - 2))) :
    Known b (t + 1) (fun j => if j = t then x else g j) := fun j hj => by
  have e : t + 1 - 16 = (t - 16) + 1 := by omega
  rw [e, wrev]
  show (if j = t then x else g j) = _
  by_cases hjt : j = t
  · subst hjt
    rw [if_pos rfl, hx, h _ (by omega), h _ (by omega), h _ (by omega), h _ (by omega)]
    have e0 : j + 1 - 1 - j = 0 := by omega
    have e1 : j - 1 - (j - 16) = 15 := by omega
    have e2 : j - 1 - (j - 15) = 14 := by omega
    have e3 : j - 1 - (j - 7) = 6 := by omega
    have e4 : j - 1 - (j - 2) = 1 := by omega
    rw [e0, e1, e2, e3, e4]
    rfl
  · rw [if_neg hjt, h j (by omega)]
    have e5 : t + 1 - 1 - j = (t - 1 - j) + 1 := by omega
    rw [e5]
    rfl
theorem known_done {b : List UInt8} {g : Nat → BitVec 32} (h : Known b 64 g) (j : Nat) (hj : j < 64) : g j = wAt b j := h j hj

def tab (g : Nat → BitVec 32) : List (BitVec 32) := (List.range 64).map g
theorem tab_length (g : Nat → BitVec 32) : (tab g).length = 64 := by simp [tab]
theorem tab_get (g : Nat → BitVec 32) (i : Nat) (hi : i < 64) : (tab g)[i]? = some (g i) := by simp [tab, hi]
theorem tab_set (g : Nat → BitVec 32) (i : Nat) (x : BitVec 32) : (tab g).set i x = tab (fun j => if j = i then x else g j) := by
  apply List.ext_getElem?
  intro k
  by_cases hk : k < 64
  · rw [List.getElem?_set, tab_get _ _ hk, tab_get _ _ hk, tab_length]
    by_cases h : i = k
    · subst h; simp [hk]
    · rw [if_neg h, if_neg (by omega)]
  · rw [List.getElem?_eq_none (by simp [tab]; omega), List.getElem?_eq_none (by simp [tab]; omega)]
theorem tab_congr {g g' : Nat → BitVec 32} (h : ∀ j, j < 64 → g j = g' j) : tab g = tab g' := by
  unfold tab
  apply List.map_congr_left
  intro j hj
  exact h j (by simpa using hj)
end Go.Proofs.YtbdknncmlcbbpaaDoor
