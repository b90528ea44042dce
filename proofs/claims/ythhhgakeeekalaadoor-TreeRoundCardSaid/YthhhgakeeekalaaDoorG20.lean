/-
  SHA-256 as plain mathematics: words of 32 bits, blocks as lists of bytes.
-/
import Derived.Test.YthhhgakeeekalaaDoorRows
import Derived.Test.YthhhgakeeekalaaDoorG02
import Derived.Outline
import Derived.Deep.QuietTactic
import Derived.BigQuiet
import Derived.Laws.CopyRow
import Derived.Deep.RegionWith
import Derived.StillTailTactics
import Derived.Laws.IdiomStrings
set_option linter.unusedVariables false
namespace Go.Proofs.YthhhgakeeekalaaDoor

/-- x rotated right. -/
def ror (x : BitVec 32) (n : Nat) : BitVec 32 := x >>> n ||| x <<< (32 - n)

/-- The words k(0) to k(63). -/
def kTab : List (BitVec 32) := [
  1116352408#32, 1899447441#32, 3049323471#32, 3921009573#32, 961987163#32, 1508970993#32, 2453635748#32, 2870763221#32,
  3624381080#32, 310598401#32, 607225278#32, 1426881987#32, 1925078388#32, 2162078206#32, 2614888103#32, 3248222580#32,
  3835390401#32, 4022224774#32, 264347078#32, 604807628#32, 770255983#32, 1249150122#32, 1555081692#32, 1996064986#32,
  2554220882#32, 2821834349#32, 2952996808#32, 3210313671#32, 3336571891#32, 3584528711#32, 113926993#32, 338241895#32,
  666307205#32, 773529912#32, 1294757372#32, 1396182291#32, 1695183700#32, 1986661051#32, 2177026350#32, 2456956037#32,
  2730485921#32, 2820302411#32, 3259730800#32, 3345764771#32, 3516065817#32, 3600352804#32, 4094571909#32, 275423344#32,
  430227734#32, 506948616#32, 659060556#32, 883997877#32, 958139571#32, 1322822218#32, 1537002063#32, 1747873779#32,
  1955562222#32, 2024104815#32, 2227730452#32, 2361852424#32, 2428436474#32, 2756734187#32, 3204031479#32, 3329325298#32]

/-- The eight variables, and the eight words of the hash value. -/
structure St where
  a : BitVec 32
  b : BitVec 32
  c : BitVec 32
  d : BitVec 32
  e : BitVec 32
  f : BitVec 32
  g : BitVec 32
  h : BitVec 32

def St.list (s : St) : List (BitVec 32) := [s.a, s.b, s.c, s.d, s.e, s.f, s.g, s.h]
def St.add (s t : St) : St := ⟨s.a + t.a, s.b + t.b, s.c + t.c, s.d + t.d, s.e + t.e, s.f + t.f, s.g + t.g, s.h + t.h⟩
def iv : St := ⟨1779033703#32, 3144134277#32, 1013904242#32, 2773480762#32, 1359893119#32, 2600822924#32, 528734635#32, 1541459225#32⟩

/-- One word, the most significant byte first. -/
def fold4 (l : List UInt8) : BitVec 32 := l.foldl (fun x c => x <<< 8 ||| BitVec.ofNat 32 c.toNat) 0#32
def word (b : List UInt8) (j : Nat) : BitVec 32 := fold4 ((b.drop (4 * j)).take 4)
def sig0 (x : BitVec 32) : BitVec 32 := ror x 7 ^^^ ror x 18 ^^^ x >>> 3
def sig1 (x : BitVec 32) : BitVec 32 := ror x 17 ^^^ ror x 19 ^^^ x >>> 10
/-- The words, the last one first. -/
def nxt (l : List (BitVec 32)) : BitVec 32 := l.getD 15 0#32 + sig0 (l.getD 14 0#32) + l.getD 6 0#32 + sig1 (l.getD 1 0#32)
def wrev (b : List UInt8) : Nat → List (BitVec 32)
  | 0 => [word b 15, word b 14, word b 13, word b 12, word b 11, word b 10, word b 9, word b 8, word b 7, word b 6, word b 5, word b 4, word b 3, word b 2, word b 1, word b 0]
  | n + 1 => nxt (wrev b n) :: wrev b n
def wAt (b : List UInt8) (t : Nat) : BitVec 32 := (wrev b 48).getD (63 - t) 0#32

def xOf (s : St) (k w : BitVec 32) : BitVec 32 := s.h + (ror s.e 6 ^^^ ror s.e 11 ^^^ ror s.e 25) + (s.e &&& s.f ^^^ ~~~s.e &&& s.g) + k + w
def yOf (s : St) : BitVec 32 := (ror s.a 2 ^^^ ror s.a 13 ^^^ ror s.a 22) + (s.a &&& s.b ^^^ s.a &&& s.c ^^^ s.b &&& s.c)
def rnd (s : St) (k w : BitVec 32) : St := ⟨xOf s k w + yOf s, s.a, s.b, s.c, s.d + xOf s k w, s.e, s.f, s.g⟩
def rnds (v : St) (b : List UInt8) : Nat → St
  | 0 => v
  | t + 1 => rnd (rnds v b t) (kTab.getD t 0#32) (wAt b t)
/-- What a block makes of a hash value. -/
def comp (v : St) (b : List UInt8) : St := v.add (rnds v b 64)

def blockOf (m : List UInt8) (n : Nat) : List UInt8 := (m.drop (64 * n)).take 64
/-- The hash value behind the first n blocks of a message. -/
def hvn (m : List UInt8) : Nat → St
  | 0 => iv
  | n + 1 => comp (hvn m n) (blockOf m n)

def len8 (n : Nat) : List UInt8 := [UInt8.ofNat (n / 2 ^ 56), UInt8.ofNat (n / 2 ^ 48), UInt8.ofNat (n / 2 ^ 40), UInt8.ofNat (n / 2 ^ 32), UInt8.ofNat (n / 2 ^ 24), UInt8.ofNat (n / 2 ^ 16), UInt8.ofNat (n / 2 ^ 8), UInt8.ofNat n]
def zeros (m : Nat) : Nat := (119 - m % 64) % 64
def pad (m : List UInt8) : List UInt8 := m ++ 128 :: (List.replicate (zeros m.length) 0 ++ len8 (8 * m.length))
def outB (v : St) : List UInt8 := (List.range 32).map fun i => UInt8.ofNat ((v.list.getD (i / 4) 0#32) >>> (24 - 8 * (i % 4))).toNat
def sha (m : List UInt8) : List UInt8 := outB (hvn (pad m) ((pad m).length / 64))
end Go.Proofs.YthhhgakeeekalaaDoor

/-
  WORDS OF 32 BITS as values, and what the model's operations on them are.
-/
namespace Go.Proofs.YthhhgakeeekalaaDoor
open Go.RowKit

/-- A word as a value. -/
abbrev W32 (x : BitVec 32) : Value := .int .u32 (x.toNat : Int)

theorem ofNat_toNat32 (x : BitVec 32) : BitVec.ofInt 32 (x.toNat : Int) = x := by
  rw [BitVec.ofInt_natCast]; simp
theorem wrap_toNat32 (x : BitVec 32) : IntKind.u32.wrap (x.toNat : Int) = x.toNat := by
  rw [IntKind.wrap_u32]
  have := x.isLt
  omega
theorem xor32 (x y : BitVec 32) : bits .xor .u32 (x.toNat : Int) (y.toNat : Int) = ((x ^^^ y).toNat : Int) := by
  simp only [bits]
  rw [show BitVec.ofInt IntKind.u32.bits (x.toNat : Int) = x from ofNat_toNat32 x, show BitVec.ofInt IntKind.u32.bits (y.toNat : Int) = y from ofNat_toNat32 y]
  exact wrap_toNat32 _
theorem and32 (x y : BitVec 32) : bits .and .u32 (x.toNat : Int) (y.toNat : Int) = ((x &&& y).toNat : Int) := by
  simp only [bits]
  rw [show BitVec.ofInt IntKind.u32.bits (x.toNat : Int) = x from ofNat_toNat32 x, show BitVec.ofInt IntKind.u32.bits (y.toNat : Int) = y from ofNat_toNat32 y]
  exact wrap_toNat32 _
theorem or32 (x y : BitVec 32) : bits .or .u32 (x.toNat : Int) (y.toNat : Int) = ((x ||| y).toNat : Int) := by
  simp only [bits]
  rw [show BitVec.ofInt IntKind.u32.bits (x.toNat : Int) = x from ofNat_toNat32 x, show BitVec.ofInt IntKind.u32.bits (y.toNat : Int) = y from ofNat_toNat32 y]
  exact wrap_toNat32 _
theorem xor_ones (y : BitVec 32) : BitVec.allOnes 32 ^^^ y = ~~~y := by
  rw [BitVec.xor_comm, BitVec.xor_allOnes]
theorem not32 (y : BitVec 32) : bits .xor .u32 4294967295 (y.toNat : Int) = ((~~~y).toNat : Int) := by
  have h := xor32 (BitVec.allOnes 32) y
  rw [xor_ones] at h
  exact h
theorem not32' (y : BitVec 32) : bits .xor .u32 (y.toNat : Int) 4294967295 = ((~~~y).toNat : Int) := by
  have h := xor32 y (BitVec.allOnes 32)
  rw [BitVec.xor_allOnes] at h
  exact h
theorem add32 (x y : BitVec 32) : IntKind.u32.wrap ((x.toNat : Int) + (y.toNat : Int)) = ((x + y).toNat : Int) := by
  rw [IntKind.wrap_u32, BitVec.toNat_add]; omega
theorem shr32 (x : BitVec 32) (n : Nat) : (x.toNat : Int) / 2 ^ n = ((x >>> n).toNat : Int) := by
  rw [BitVec.toNat_ushiftRight, Nat.shiftRight_eq_div_pow]; simp
theorem shl32 (x : BitVec 32) (n : Nat) : IntKind.u32.wrap ((x.toNat : Int) * 2 ^ n) = ((x <<< n).toNat : Int) := by
  rw [IntKind.wrap_u32, BitVec.toNat_shiftLeft, Nat.shiftLeft_eq]; simp

theorem add32' (x y : BitVec 32) : ((x.toNat : Int) + (y.toNat : Int)) % 4294967296 = ((x + y).toNat : Int) := by
  rw [BitVec.toNat_add]; omega
theorem shl32' (x : BitVec 32) (n : Nat) : (x.toNat : Int) * 2 ^ n % 4294967296 = ((x <<< n).toNat : Int) := by
  rw [BitVec.toNat_shiftLeft, Nat.shiftLeft_eq]; simp
theorem ror_eq (x : BitVec 32) (n : Nat) : bits .or .u32 ((x.toNat : Int) / 2 ^ n) ((x.toNat : Int) * 2 ^ (32 - n) % 4294967296) = ((ror x n).toNat : Int) := by
  rw [shr32, shl32', or32]; rfl
theorem ror_eq' (x : BitVec 32) (n : Nat) : bits .or .u32 ((x.toNat : Int) * 2 ^ (32 - n) % 4294967296) ((x.toNat : Int) / 2 ^ n) = ((ror x n).toNat : Int) := by
  rw [shr32, shl32', or32, BitVec.or_comm]; rfl
theorem ret_int {k : IntKind} {a b : Int} (h : a = b) : Ending.returned (.int k a) = .returned (.int k b) := by rw [h]

set_option maxHeartbeats 400000 in
theorem rotr_ref (x : BitVec 32) (n : Nat) (h1 : 1 ≤ n) (h2 : n ≤ 31) (w : World) :
    Calls Tryd.prog 120 #[W32 x, .int .i64 (n : Int)] w fun e w' => e = .returned (W32 (ror x n)) ∧ ∃ m, w' = w.drewN m := by
  have a1 : (0 : Int) ≤ 32 - n := by omega
  have a2 : IntKind.i64.wrap (32 - (n : Int)) = 32 - (n : Int) := IntWalk.i64_in _ (by omega)
  go_enter Tryd.func120, Tryd.ntmps120
  go_wp2
  go_quiet (fail)
  go_wp2
  go_ret
  exact ⟨ret_int (ror_eq x n), _, rfl⟩
theorem mask31 (n : Nat) (h1 : 1 ≤ n) (h2 : n ≤ 31) : bits .and .u64 (IntKind.u64.wrap (-(n : Int))) 31 = 32 - (n : Int) := by
  have e : IntKind.u64.wrap (-(n : Int)) = ((18446744073709551616 - n : Nat) : Int) := by
    simp [IntKind.wrap, IntKind.bits, IntKind.signed]; omega
  rw [e]
  have h := bits_mask .u64 64 (Nat.le_refl _) (fun n h0 h1 => by simp [IntKind.wrap, IntKind.bits, IntKind.signed]; omega) 5 (by omega) ((18446744073709551616 - n : Nat) : Int) (by omega) (by omega)
  have e5 : (2 : Int) ^ 5 - 1 = 31 := by decide
  rw [e5] at h
  rw [h]
  omega
set_option maxHeartbeats 400000 in
theorem rotl (x : BitVec 32) (n : Nat) (h1 : 1 ≤ n) (h2 : n ≤ 31) (w : World) :
    Calls Tryd.prog 121 #[W32 x, .int .i64 (-(n : Int))] w fun e w' => e = .returned (W32 (ror x n)) ∧ w = w' := by
  have hm := mask31 n h1 h2
  go_enter Tryd.func121, Tryd.ntmps121
  go_wp2
  go_ret
  exact ⟨ret_int (by rw [show 32 - (32 - n) = n by omega]; exact ror_eq' x n), rfl⟩
set_option maxHeartbeats 400000 in
theorem rotr (x : BitVec 32) (n : Nat) (h1 : 1 ≤ n) (h2 : n ≤ 31) (w : World) :
    Calls Tryd.prog 109 #[W32 x, .int .i64 (n : Int)] w fun e w' => e = .returned (W32 (ror x n)) ∧ w = w' := by
  go_enter Tryd.func109, Tryd.ntmps109
  go_wp2_with (go_at_call 121; refine (rotl x n h1 h2 _).mono ?_; rintro e w' ⟨rfl, rfl⟩)
  go_ret
  exact ⟨rfl, rfl⟩
/-- Both, at a literal. -/
theorem rotrI (x : BitVec 32) (m : Int) (h1 : 1 ≤ m) (h2 : m ≤ 31) (w : World) :
    Calls Tryd.prog 109 #[W32 x, .int .i64 m] w fun e w' => e = .returned (W32 (ror x m.toNat)) ∧ w = w' := by
  obtain ⟨n, rfl⟩ := Int.eq_ofNat_of_zero_le (show 0 ≤ m by omega)
  simpa using rotr x n (by omega) (by omega) w
theorem rotrI_ref (x : BitVec 32) (m : Int) (h1 : 1 ≤ m) (h2 : m ≤ 31) (w : World) :
    Calls Tryd.prog 120 #[W32 x, .int .i64 m] w fun e w' => e = .returned (W32 (ror x m.toNat)) ∧ ∃ m, w' = w.drewN m := by
  obtain ⟨n, rfl⟩ := Int.eq_ofNat_of_zero_le (show 0 ≤ m by omega)
  simpa using rotr_ref x n (by omega) (by omega) w
end Go.Proofs.YthhhgakeeekalaaDoor

/-
  MEMORY: arrays by value, and parts of a block that is known whole.
-/
namespace Go.Proofs.YthhhgakeeekalaaDoor
open Go.RowKit

def ws (l : List (BitVec 32)) : List Value := l.map W32
theorem ws_length (l : List (BitVec 32)) : (ws l).length = l.length := by simp [ws]
theorem ws_get {l : List (BitVec 32)} {i : Nat} {x : BitVec 32} (h : l[i]? = some x) : (ws l)[i]? = some (W32 x) := by simp [ws, h]
theorem ws_one (l : List (BitVec 32)) : ∀ u ∈ ws l, u.oneCell' = true := by
  intro u hu
  simp only [ws, List.mem_map] at hu
  obtain ⟨x, _, rfl⟩ := hu
  rfl
theorem ws_set (l : List (BitVec 32)) (i : Nat) (x : BitVec 32) : (ws l).set i (W32 x) = ws (l.set i x) := by simp [ws, List.map_set]

theorem Tryd.size93 : (Tryd.prog.info? 93).map (·.size) = some 64 := by kernel_rfl
theorem Tryd.size127 : (Tryd.prog.info? 127).map (·.size) = some 64 := by kernel_rfl
theorem Tryd.size92 : (Tryd.prog.info? 92).map (·.size) = some 8 := by kernel_rfl
theorem Tryd.size100 : (Tryd.prog.info? 100).map (·.size) = some 32 := by kernel_rfl
theorem Tryd.size96 : (Tryd.prog.info? 96).map (·.size) = some 73 := by kernel_rfl
theorem Tryd.size40 : (Tryd.prog.info? 40).map (·.size) = some 16 := by kernel_rfl
theorem Tryd.sz5 (W : World) : (sizeOf 5).run Tryd.prog W = .ok 1 W := by kernel_rfl
theorem Tryd.sz91 (W : World) : (sizeOf 91).run Tryd.prog W = .ok 1 W := by kernel_rfl

section
variable {w w' : World} {g : Nat} {t : TypeId} {cs : Array Value}
end
section
variable {P : Program} (w : World)
end
end Go.Proofs.YthhhgakeeekalaaDoor

/-
  ROWS of bytes that a call makes.
-/
namespace Go.Proofs.YthhhgakeeekalaaDoor
open Go.RowKit

theorem Tryd.info5 : (Tryd.prog.info? 5).map (fun i => (i.zero, i.size, i.bytes)) = some (some (.int .u8 0), 1, 1) := by kernel_rfl
theorem strCells_eq (s : ByteArray) : Lib.strCells s = bs s.data.toList := rfl
theorem own_push {w : World} {B : Nat} {v : Value} {l : List UInt8} {x : Int} {c : UInt8} (h : w.ownsRow B 5 1 v (l.length + 1) (bs l ++ [.int .u8 x])) (hx : x = (c.toNat : Int)) : w.ownsRow B 5 1 v (l ++ [c]).length (bs (l ++ [c])) := by
  subst hx
  rw [bs_append, List.length_append]
  exact h
theorem own_next {w : World} {B : Nat} {v : Value} {p q r : List UInt8} (h : w.ownsRow B 5 1 v (p.length + q.length) (bs p ++ bs q)) (e : r = p ++ q) : w.ownsRow B 5 1 v r.length (bs r) := by
  rw [← bs_append, ← List.length_append] at h
  subst e; exact h
/-- '[]byte(s)' -/
theorem wpList_bytes_of {ops : Array Oper} {rest : List Oper} {o : Oper} {a : Act} {w : World} {Q : Exit → Act → World → Prop} (hgd : o.guard = none) (x : Operand) (ho : o.op = .convert 9 36 x) (s : ByteArray) (hx : a.eval x = .string s)
    (h : ∀ A c w', Reads w' w'.heap.size 1 A s.size (bs s.data.toList) → Below w.heap.size w w' → wpList Tryd.prog ops Q rest (a.put o.dst (.slice A s.size c)) w') : wpList Tryd.prog ops Q (o :: rest) a w := by
  refine wpList_plain hgd fun K hK => ?_
  have hr := run_bytes_of_string (P := Tryd.prog) w 9 36 5 s Tryd.underlying9 Tryd.underlying36 Tryd.underlying5
  unfold Oper.wp execOp
  simp only [ho, hx, Sem.run_bind, hr, Result.andThen_ok]
  refine hK _ _ (h _ _ _ ⟨by simp [bs_length], fun hn => ⟨_, rfl, ?_, fun j u hu => ?_⟩⟩ ?_)
  · rw [World.size_alloc]
    show w.heap.size < w.heap.size + 1
    omega
  · have hj : j < s.data.size := by
      have := (List.getElem?_eq_some_iff.1 hu).1
      rw [bs_length] at this; simpa using this
    rw [Addr.add_lit, Nat.zero_add]
    have h1 := World.cell?_alloc_mark w.drew (bytesRow s (grownCap w s.size 0 5)) 5 ((bytesRow s (grownCap w s.size 0 5)).size, (bytesRow s (grownCap w s.size 0 5)).size + 1) j
    refine Eq.trans h1 ?_
    rw [bytesRow_at s _ j hj, ← hu, bs_get _ j (by simpa using hj)]
    simp
  · exact ((Below.refl w.heap.size w).drew).alloc (Nat.le_refl _) _
end Go.Proofs.YthhhgakeeekalaaDoor

/-
  THE ENCODERS OF PACKAGE wire, each by its contract: appendInt, Int.
-/
namespace Go.Proofs.YthhhgakeeekalaaDoor
open Go.RowKit WM


/-- What the loop of appendInt has laid: the cells from f on are the digits. -/
def DLaid (mk : UInt8 → UInt8) (h0 m0 : Nat) (w wr : World) (m f : Nat) : Prop :=
  ∃ ds : List UInt8, digs m0 = digs m ++ ds ∧ f + ds.length = 8 ∧ Below h0 w wr ∧ h0 < wr.heap.size ∧
  ∃ L : List Value, wr.heap[h0]? = some (.cells L.toArray 125 (0, 0)) ∧ L.length = 8 ∧ L.drop f = bs (ds.map mk)

theorem dlaid_start (mk : UInt8 → UInt8) (m0 : Nat) (w : World) :
    DLaid mk w.heap.size m0 w (w.alloc (.cells #[.int .u8 0, .int .u8 0, .int .u8 0, .int .u8 0, .int .u8 0, .int .u8 0, .int .u8 0, .int .u8 0] 125)) m0 8 :=
  ⟨[], by simp, by simp, (Below.refl _ _).alloc (Nat.le_refl _) _, by simp, [.int .u8 0, .int .u8 0, .int .u8 0, .int .u8 0, .int .u8 0, .int .u8 0, .int .u8 0, .int .u8 0], heap_alloc_new w _, rfl, rfl⟩

section
variable {mk : UInt8 → UInt8} {h0 m0 : Nat} {w wr : World} {m f : Nat}
theorem DLaid.pos (h : DLaid mk h0 m0 w wr m f) (hm0 : m0 < 2 ^ 63) (hm : 0 < m) : 1 ≤ f := by
  obtain ⟨ds, h1, h2, _⟩ := h
  have h3 := dig8 m0 hm0
  rw [h1, digs_pos hm] at h3
  simp at h3
  omega
theorem DLaid.cell (h : DLaid mk h0 m0 w wr m f) (k : Nat) (hk : k < 8) : ∃ u, wr.cell? ⟨h0, k, none⟩ = some u ∧ wr.frozen? ⟨h0, k, none⟩ = false := by
  obtain ⟨ds, _, _, _, _, L, h6, h7, _⟩ := h
  exact ⟨L[k]'(by omega), by rw [Blk.cell h6 k]; simp [List.getElem?_eq_getElem (show k < L.length by omega)], Blk.frozen h6 k⟩
theorem DLaid.step (h : DLaid mk h0 m0 w wr m f) (hf : 1 ≤ f) (hm : 0 < m) (x : Value) (hx : x = .int .u8 ((mk (UInt8.ofNat (m % 256))).toNat : Int)) :
    DLaid mk h0 m0 w (wr.setCell ⟨h0, f - 1, none⟩ x) (m / 256) (f - 1) := by
  obtain ⟨ds, h1, h2, h3, h4, L, h6, h7, h8⟩ := h
  refine ⟨UInt8.ofNat (m % 256) :: ds, by rw [h1, digs_pos hm]; simp, by simp; omega, h3.setCell (Nat.le_refl _) _, by simpa [World.setCell] using h4, L.set (f - 1) x, ?_, by simpa using h7, ?_⟩
  · have := Blk.set_ h6 (f - 1) x
    simpa [Blk] using this
  · rw [List.map_cons, bs_cons, ← h8, List.drop_eq_getElem_cons (by simp; omega), List.getElem_set_self, hx]
    congr 1
    rw [List.drop_set_of_lt (by omega)]
    congr 1
    omega
theorem DLaid.done (h : DLaid mk h0 m0 w wr 0 f) : f + (digs m0).length = 8 ∧ Below h0 w wr ∧ h0 < wr.heap.size ∧ ∀ j u, (bs ((digs m0).map mk))[j]? = some u → wr.cell? ⟨h0, f + j, none⟩ = some u := by
  obtain ⟨ds, h1, h2, h3, h4, L, h6, h7, h8⟩ := h
  rw [digs_zero, List.nil_append] at h1
  refine ⟨by rw [h1]; exact h2, h3, h4, fun j u hu => ?_⟩
  rw [h1, ← h8, List.getElem?_drop] at hu
  rw [Blk.cell h6]
  simpa using hu
end

theorem Tryd.len125 : Tryd.prog.arrayLen 125 = 8 := by kernel_rfl
theorem Tryd.elem125 : Tryd.prog.elem 125 = 5 := by kernel_rfl
theorem Tryd.arr125 : Tryd.prog.underlying 125 = some (.array (Tryd.prog.arrayLen 125) (Tryd.prog.elem 125)) := by kernel_rfl
theorem Tryd.siz5 (W : World) : (sizeOf 5).run Tryd.prog W = .ok 1 W := by kernel_rfl
theorem slice66 (h0 f : Nat) (hf : f ≤ 8) : ∃ A : Option Addr, A = (if 8 = f then some ⟨h0, 0, none⟩ else some ⟨h0, f, none⟩) ∧
    ∀ W : World, (Instr.sliceAt 125 (.pointer (some ⟨h0, 0, none⟩)) (some (.int .i64 (f : Int))) none none).run Tryd.prog W = .ok (.slice A (8 - f) (8 - f)) W := by
  refine ⟨_, rfl, fun W => ?_⟩
  rw [run_sliceAt_array_l W 125 ⟨h0, 0, none⟩ Tryd.arr125 .i64 f (by omega) (by rw [Tryd.len125]; omega), Tryd.elem125, Tryd.siz5, Tryd.len125]
  simp [slicedAt, Addr.add]
  by_cases h : 8 = f
  · simp [h]
  · simp [h]
    intro h2; rw [h2]

theorem dig_reads {wr w1 : World} {h0 f : Nat} {o : Obj} {row : Option Nat} {ds : List Value} {A : Option Addr} (h3 : h0 < wr.heap.size) (hc : ∀ j u, ds[j]? = some u → wr.cell? ⟨h0, f + j, none⟩ = some u)
    (hl : ds.length = 8 - f) (hg : (wr.alloc o).grownBy w1 row) (hrow : ∀ k, row = some k → k < h0) (hA : A = (if 8 = f then some ⟨h0, 0, none⟩ else some ⟨h0, f, none⟩)) (_hf : f ≤ 8) : Reads w1 (h0 + 1) 1 A (8 - f) ds := by
  refine ⟨by omega, fun hn => ⟨⟨h0, f, none⟩, by rw [hA, if_neg (by omega)], by simp, fun j u hu => ?_⟩⟩
  have h1 := hc j u hu
  have h2 : (wr.alloc o).cell? ⟨h0, f + j, none⟩ = some u := by rw [World.cell?_alloc_lt _ _ _ (by simpa using h3)]; exact h1
  rw [Addr.add_lit, World.cell?_of_block (hg.block h0 (by simp; omega) (by intro e; have := hrow _ e.symm; omega))]
  exact h2

theorem enc_cells (n f : Nat) (hr : (n : Int) ≤ 9223372036854775807) (h1 : f + (digs n).length ≤ 8) (h2 : 8 ≤ f + (digs n).length) : bs (enc (n : Int)) = .int .u8 (136 - (f : Int)) :: bs ((digs n).map id) := by
  rw [enc_pos (by omega), bs_cons, List.map_id, Int.toNat_natCast]
  congr 2
  rw [UInt8.toNat_ofNat']; omega
theorem enc_size (n f : Nat) (hr : (n : Int) ≤ 9223372036854775807) (h1 : f + (digs n).length ≤ 8) (h2 : 8 ≤ f + (digs n).length) : (enc (n : Int)).length = 1 + (8 - f) := by
  rw [enc_pos (by omega), Int.toNat_natCast]; simp; omega
theorem neg_toNat (n : Nat) : (-1 - (-1 - (n : Int))).toNat = n := by omega
theorem enc_cells_neg (n f : Nat) (hr : (n : Int) ≤ 9223372036854775807) (h1 : f + (digs n).length ≤ 8) (h2 : 8 ≤ f + (digs n).length) : bs (enc (-1 - (n : Int))) = .int .u8 (255 - (136 - (f : Int))) :: bs ((digs n).map flip) := by
  rw [enc_neg (by omega), bs_cons, neg_toNat]
  congr 2
  rw [UInt8.toNat_ofNat']; omega
theorem enc_size_neg (n f : Nat) (hr : (n : Int) ≤ 9223372036854775807) (h1 : f + (digs n).length ≤ 8) (h2 : 8 ≤ f + (digs n).length) : (enc (-1 - (n : Int))).length = 1 + (8 - f) := by
  rw [enc_neg (by omega), neg_toNat]; simp; omega


theorem app_end {B len : Nat} {xs ds es : List Value} {v v1 v2 : Value} {w wr w1 w2 : World} {o : Obj} {x : Value} {f n : Nat} (hB : B ≤ w.heap.size) (hb : Below w.heap.size w wr) (hv : ∀ k, v.ownBlock = some k → B ≤ k ∧ k < w.heap.size)
    (h1 : w1.ownsRow B 5 1 v1 (len + 1) (xs ++ [x])) (g1 : (wr.alloc o).grownBy w1 v.ownBlock) (h2 : w2.ownsRow B 5 1 v2 (len + 1 + (8 - f)) (xs ++ [x] ++ ds)) (g2 : w1.grownBy w2 v1.ownBlock) (he : es = x :: ds) (hn : n = 1 + (8 - f)) :
    w2.ownsRow B 5 1 v2 (len + n) (xs ++ es) ∧ Below B w w2 := by
  subst he hn
  have hs := hb.size
  have hs1 := g1.size
  simp only [World.size_alloc] at hs1
  refine ⟨by simpa [Nat.add_assoc] using h2, ?_⟩
  have c1 : Below B w (wr.alloc o) := (hb.mono hB).alloc (by omega) o
  have c2 : Below B w w1 := c1.grown g1 (by simp; omega) (fun k hk => (hv k hk).1)
  exact c2.grown g2 (by omega) (fun k hk => (h1.lt k hk).1)

set_option maxHeartbeats 400000 in
theorem appIntP (B : Nat) (v : Value) (len : Nat) (xs : List Value) (n : Nat) (w : World) (hown : w.ownsRow B 5 1 v len xs) (hB : B ≤ w.heap.size) (hr : (n : Int) ≤ 9223372036854775807) (hlen : len ≤ 140737488000000) :
    Calls Tryd.prog 88 #[v, .int .i64 (n : Int)] w fun e w' => ∃ v', e = .returned v' ∧ w'.ownsRow B 5 1 v' (len + (enc (n : Int)).length) (xs ++ bs (enc (n : Int))) ∧ Below B w w' := by
  have hn : decide ((n : Int) < 0) = false := by simp
  go_enter Tryd.func88, Tryd.ntmps88
  go_wp2
  go_step3
  go_wp2
  go_step3
  go_wp2
  go_loopw [5, 8] (fun a b wr => ∃ (m f : Nat), a = .int .u64 m ∧ b = .int .i64 f ∧ f ≤ 8 ∧ m < 18446744073709551616 ∧ DLaid id w.heap.size n w wr m f) (fun a _ _ => (intOf a).toNat)
  case atStart => exact ⟨n, 8, rfl, rfl, by omega, by omega, dlaid_start _ _ _⟩
  case round =>
    obtain ⟨m, f, rfl, rfl, hf8, hm64, hl⟩ := hrel
    by_cases hm : m = 0
    · subst hm
      obtain ⟨hd1, hd2, hd3, hd4⟩ := hl.done
      have hd5 := hd2.size
      have HO := Lib.hid (ownsRow_below hown hd2)
      have HC := Lib.hid hd4
      have HB := Lib.hid hd2
      have HV := Lib.hid hown.lt
      obtain ⟨A, hA, hsl⟩ := slice66 w.heap.size f hf8
      have HA := Lib.hid hA
      clear hA
      have hd6 : f + (digs n).length ≤ 8 := by omega
      have hd7 : 8 ≤ f + (digs n).length := by omega
      clear hl hd1 hd2 hd4 hown
      obtain ⟨i0, hi, hz0, hz1, hz2⟩ := info_parts Tryd.info5
      have hx0 : bits .xor .u8 (136 - (f : Int)) 0 = (136 - (f : Int)) := xor0 _ (by omega) (by omega)
      go_wp2_with (first
        | (at_builtin; refine wpList_append_own _ rfl (.tmp 29) (.tmp 35) 36 rfl B 5 i0 (.int .u8 0) 1 1 Tryd.underlying36 hi hz0 hz1 hz2 rfl (by decide) v len xs rfl (HO.out.alloc _) ⟨wr.heap.size, 0, none⟩ 1 1 [.int .u8 ((136 - (f : Int)))] rfl rfl (one_new _ _ _) (int_one _ _) (len_le (by omega)) (by omega) (by simp; omega) ?_; intro v1 w1 hown1 hgrow1 _; have HO1 := Lib.hid hown1; have HG1 := Lib.hid hgrow1; have HS1 := Lib.hid (size_after hgrow1 (show B ≤ wr.heap.size by omega)); clear hown1 hgrow1)
        | (at_builtin; refine wpList_append_any _ rfl (.tmp 37) (.tmp 39) _ rfl B 5 i0 (.int .u8 0) 1 1 Tryd.underlying36 hi hz0 hz1 hz2 rfl (by omega) v1 (len + 1) (xs ++ [.int .u8 ((136 - (f : Int)))]) rfl HO1.out (w.heap.size + 1) A (8 - f) (8 - f) (bs ((digs n).map id)) rfl (dig_reads hd3 HC.out (by simp [bs_length]; omega) HG1.out (fun k hk => (HV.out k hk).2) HA.out hf8) (bs_one _) (len_le (by omega)) (by omega) HS1.out ?_; intro v2 w2 hown2 hgrow2 hat2; have HO2 := Lib.hid hown2; have HG2 := Lib.hid hgrow2; clear hown2 hgrow2 hat2))
      rw [Exit.noGoto_ret]
      go_ret
      exact ⟨v2, rfl, app_end hB HB.out HV.out HO1.out HG1.out HO2.out HG2.out (enc_cells n f hr hd6 hd7) (enc_size n f hr hd6 hd7)⟩
    · have hf1 := hl.pos (by omega) (by omega)
      have hm' : ((m : Int) == 0) = false := by simp; omega
      obtain ⟨u, hcell, hfree⟩ := hl.cell (f - 1) (by omega)
      have hx : bits .xor .u8 ((m : Int) % 256) 0 = (m : Int) % 256 := xor0 _ (by omega) (by omega)
      have hs := hl.step hf1 (by omega) (.int .u8 ((m : Int) % 256)) (by simp)
      have HS := Lib.hid hs
      clear hs hl
      go_wp2
      go_roundw
      case rel => exact ⟨m / 256, f - 1, by go_num, by go_num, by omega, by omega, HS.out⟩
      case measure => simp [intOf]; omega

set_option maxHeartbeats 400000 in
theorem appIntN (B : Nat) (v : Value) (len : Nat) (xs : List Value) (n : Nat) (w : World) (hown : w.ownsRow B 5 1 v len xs) (hB : B ≤ w.heap.size) (hr : (n : Int) ≤ 9223372036854775807) (hlen : len ≤ 140737488000000) :
    Calls Tryd.prog 88 #[v, .int .i64 (-1 - (n : Int))] w fun e w' => ∃ v', e = .returned v' ∧ w'.ownsRow B 5 1 v' (len + (enc (-1 - (n : Int))).length) (xs ++ bs (enc (-1 - (n : Int)))) ∧ Below B w w' := by
  have hn : decide ((-1 - (n : Int)) < 0) = true := by simp; omega
  go_enter Tryd.func88, Tryd.ntmps88
  go_wp2
  go_step3
  go_wp2
  go_step3
  go_wp2
  go_loopw [5, 8] (fun a b wr => ∃ (m f : Nat), a = .int .u64 m ∧ b = .int .i64 f ∧ f ≤ 8 ∧ m < 18446744073709551616 ∧ DLaid flip w.heap.size n w wr m f) (fun a _ _ => (intOf a).toNat)
  case atStart => exact ⟨n, 8, by go_num, rfl, by omega, by omega, dlaid_start _ _ _⟩
  case round =>
    obtain ⟨m, f, rfl, rfl, hf8, hm64, hl⟩ := hrel
    by_cases hm : m = 0
    · subst hm
      obtain ⟨hd1, hd2, hd3, hd4⟩ := hl.done
      have hd5 := hd2.size
      have HO := Lib.hid (ownsRow_below hown hd2)
      have HC := Lib.hid hd4
      have HB := Lib.hid hd2
      have HV := Lib.hid hown.lt
      obtain ⟨A, hA, hsl⟩ := slice66 w.heap.size f hf8
      have HA := Lib.hid hA
      clear hA
      have hd6 : f + (digs n).length ≤ 8 := by omega
      have hd7 : 8 ≤ f + (digs n).length := by omega
      clear hl hd1 hd2 hd4 hown
      obtain ⟨i0, hi, hz0, hz1, hz2⟩ := info_parts Tryd.info5
      have hx0 : bits .xor .u8 (136 - (f : Int)) 255 = 255 - (136 - (f : Int)) := xor255 _ (by omega) (by omega)
      go_wp2_with (first
        | (at_builtin; refine wpList_append_own _ rfl (.tmp 29) (.tmp 35) 36 rfl B 5 i0 (.int .u8 0) 1 1 Tryd.underlying36 hi hz0 hz1 hz2 rfl (by decide) v len xs rfl (HO.out.alloc _) ⟨wr.heap.size, 0, none⟩ 1 1 [.int .u8 (255 - (136 - (f : Int)))] rfl rfl (one_new _ _ _) (int_one _ _) (len_le (by omega)) (by omega) (by simp; omega) ?_; intro v1 w1 hown1 hgrow1 _; have HO1 := Lib.hid hown1; have HG1 := Lib.hid hgrow1; have HS1 := Lib.hid (size_after hgrow1 (show B ≤ wr.heap.size by omega)); clear hown1 hgrow1)
        | (at_builtin; refine wpList_append_any _ rfl (.tmp 37) (.tmp 39) _ rfl B 5 i0 (.int .u8 0) 1 1 Tryd.underlying36 hi hz0 hz1 hz2 rfl (by omega) v1 (len + 1) (xs ++ [.int .u8 (255 - (136 - (f : Int)))]) rfl HO1.out (w.heap.size + 1) A (8 - f) (8 - f) (bs ((digs n).map flip)) rfl (dig_reads hd3 HC.out (by simp [bs_length]; omega) HG1.out (fun k hk => (HV.out k hk).2) HA.out hf8) (bs_one _) (len_le (by omega)) (by omega) HS1.out ?_; intro v2 w2 hown2 hgrow2 hat2; have HO2 := Lib.hid hown2; have HG2 := Lib.hid hgrow2; clear hown2 hgrow2 hat2))
      rw [Exit.noGoto_ret]
      go_ret
      exact ⟨v2, rfl, app_end hB HB.out HV.out HO1.out HG1.out HO2.out HG2.out (enc_cells_neg n f hr hd6 hd7) (enc_size_neg n f hr hd6 hd7)⟩
    · have hf1 := hl.pos (by omega) (by omega)
      have hm' : ((m : Int) == 0) = false := by simp; omega
      obtain ⟨u, hcell, hfree⟩ := hl.cell (f - 1) (by omega)
      have hx : bits .xor .u8 ((m : Int) % 256) 255 = 255 - (m : Int) % 256 := xor255 _ (by omega) (by omega)
      have hs := hl.step hf1 (by omega) (.int .u8 (255 - (m : Int) % 256)) (by simp [flip_toNat]; omega)
      have HS := Lib.hid hs
      clear hs hl
      go_wp2
      go_roundw
      case rel => exact ⟨m / 256, f - 1, by go_num, by go_num, by omega, by omega, HS.out⟩
      case measure => simp [intOf]; omega

theorem appInt (B : Nat) (v : Value) (len : Nat) (xs : List Value) (n : Int) (w : World) (hown : w.ownsRow B 5 1 v len xs) (hB : B ≤ w.heap.size) (hr : inRange n) (hlen : len ≤ 140737488000000) :
    Calls Tryd.prog 88 #[v, .int .i64 n] w fun e w' => ∃ v', e = .returned v' ∧ w'.ownsRow B 5 1 v' (len + (enc n).length) (xs ++ bs (enc n)) ∧ Below B w w' := by
  obtain ⟨h1, h2⟩ := hr
  by_cases h : 0 ≤ n
  · obtain ⟨m, rfl⟩ := Int.eq_ofNat_of_zero_le h
    exact appIntP B v len xs m w hown hB h2 hlen
  · obtain ⟨m, hm⟩ : ∃ m : Nat, n = -1 - (m : Int) := ⟨(-1 - n).toNat, by omega⟩
    subst hm
    exact appIntN B v len xs m w hown hB (by omega) hlen

/-- A slice value that the call has made: its cells, and that what was there before it is as it was. -/
theorem own_form {w : World} {B : Nat} {e : TypeId} {size : Nat} {v : Value} {n : Nat} {xs : List Value} (h : w.ownsRow B e size v n xs) : ∃ A c, v = .slice A n c ∧ n ≤ c := by
  rcases h.2 with ⟨rfl, rfl⟩ | ⟨g, cap, cur, rfl, _, _, h, _⟩
  · exact ⟨none, 0, rfl, Nat.le_refl _⟩
  · exact ⟨_, cap, rfl, h⟩

theorem encB_cells (s : ByteArray) (xs : List Value) : xs ++ bs (enc (s.size : Int)) ++ Lib.strCells s = xs ++ bs (encB s.data.toList) := by
  rw [strCells_eq]; unfold encB; rw [bs_append, List.append_assoc]; simp
theorem encB_size (s : ByteArray) (len : Nat) : len + (enc (s.size : Int)).length + s.size = len + (encB s.data.toList).length := by
  unfold encB; simp; omega

set_option maxHeartbeats 400000 in
theorem appBytes (B : Nat) (v : Value) (len : Nat) (xs : List Value) (s : ByteArray) (w : World) (hown : w.ownsRow B 5 1 v len xs) (hB : B ≤ w.heap.size) (hlen : len + s.size ≤ 140737487999900) :
    Calls Tryd.prog 94 #[v, .string s] w fun e w' => ∃ v', e = .returned v' ∧ w'.ownsRow B 5 1 v' (len + (encB s.data.toList).length) (xs ++ bs (encB s.data.toList)) ∧ Below B w w' := by
  have hr : inRange (s.size : Int) := ⟨by omega, by omega⟩
  have h9 := (enc_len hr).2
  obtain ⟨i0, hi, hz0, hz1, hz2⟩ := info_parts Tryd.info5
  go_enter Tryd.func94, Tryd.ntmps94
  go_wp2_with (first
    | (go_at_call 88; refine (appInt B v len xs _ _ hown hB hr (by omega)).mono ?_; rintro e w1 ⟨v1, rfl, hown1, hb1⟩; have HO1 := Lib.hid hown1; have HB1 := Lib.hid hb1; have hs1 := hb1.size; clear hown1 hb1)
    | (at_builtin; refine Lib.wpList_append_own_string _ rfl (.tmp 8) (.tmp 9) 36 9 rfl B 5 i0 Tryd.underlying36 Tryd.underlying9 hi hz0 hz1 hz2 v1 _ _ rfl HO1.out s rfl (len_le (by omega)) (by omega) (by omega) ?_; intro v2 w2 hown2 hgrow2 _; have HO2 := Lib.hid hown2; have HG2 := Lib.hid hgrow2; clear hown2 hgrow2))
  go_ret
  have h2 := HO2.out
  rw [encB_cells, encB_size] at h2
  exact ⟨v2, rfl, h2, HB1.out.grown HG2.out (by omega) (fun k hk => (HO1.out.lt k hk).1)⟩

theorem encBytes (s : ByteArray) (w : World) (hs : s.size ≤ 140737487999900) :
    Calls Tryd.prog 68 #[.string s] w fun e w' => ∃ A c, e = .returned (.slice A (encB s.data.toList).length c) ∧ w'.ownsRow w.heap.size 5 1 (.slice A (encB s.data.toList).length c) (encB s.data.toList).length (bs (encB s.data.toList)) ∧ Below w.heap.size w w' := by
  go_enter Tryd.func68, Tryd.ntmps68
  go_wp2_with (go_at_call 94; refine (appBytes w.heap.size _ 0 [] s _ (World.ownsRow_nil _ _ _ _) (Nat.le_refl _) (by omega)).mono ?_; rintro e w' ⟨v', rfl, hown, hb⟩; have HO := Lib.hid (own_nil hown); have HB := Lib.hid hb; clear hown hb)
  go_ret
  have h1 := HO.out
  obtain ⟨A, c, rfl, _⟩ := own_form h1
  exact ⟨A, c, rfl, h1, HB.out⟩
end Go.Proofs.YthhhgakeeekalaaDoor
