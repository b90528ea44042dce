/-
  SHA-256 as plain mathematics: words of 32 bits, blocks as lists of bytes.
-/
namespace Go.Proofs.YtgabmipakocheaaDoor

/-- x rotated right. -/
def ror (x : BitVec 32) (n : Nat) : BitVec 32 := x >>> n ||| x <<< (32 - n)

/-- The words k(0) to k(63). -/
def kTab : List (BitVec 32) := [
  1116352408#32, 1899447441#32, 3049323471#32, 3921009573#32, 961987163#32, 1508970993#32, 2453635748#32, 2870763221#32,
  3624381080#32, 310598401#32, 607225278#32, 1426881987#32, 1925078388#32, 2162078206#32, 2614888103#32, 3248222580#32,
  3835390401#32, 4022224774#32, 264347078#32, 604807628#32, 770255983#32, 1249150122#32, 1555081692#32, 1996064986#32,
  2554220882#32, 2821834349#32, 2952996808#32, 3210313671#32, 3336571891#32, 3584528711#32, 113926993#32, 338241895#32,
  666307205#32, 773529912#32, 1294757372#32, 1396182291#32, 1695183700#32, 1986661051#32, 2177026350#32, 2456956037#32,
  2730485921#32, 2820302411#32, 3259730800#32, 3345764771#32, 3516065817#32, 3600352804#32, 4094571909#32, 275423344#32,
  430227734#32, 506948616#32, 659060556#32, 883997877#32, 958139571#32, 1322822218#32, 1537002063#32, 1747873779#32,
  1955562222#32, 2024104815#32, 2227730452#32, 2361852424#32, 2428436474#32, 2756734187#32, 3204031479#32, 3329325298#32]

/-- The eight variables, and the eight words of the hash value. -/
structure St where
  a : BitVec 32
  b : BitVec 32
  c : BitVec 32
  d : BitVec 32
  e : BitVec 32
  f : BitVec 32
  g : BitVec 32
  h : BitVec 32

def St.list (s : St) : List (BitVec 32) := [s.a, s.b, s.c, s.d, s.e, s.f, s.g, s.h]
def St.add (s t : St) : St := ⟨s.a + t.a, s.b + t.b, s.c + t.c, s.d + t.d, s.e + t.e, s.f + t.f, s.g + t.g, s.h + t.h⟩
def iv : St := ⟨1779033703#32, 3144134277#32, 1013904242#32, 2773480762#32, 1359893119#32, 2600822924#32, 528734635#32, 1541459225#32⟩

/-- One word, the most significant byte first. -/
def fold4 (l : List UInt8) : BitVec 32 := l.foldl (fun x c => x <<< 8 ||| BitVec.ofNat 32 c.toNat) 0#32
def word (b : List UInt8) (j : Nat) : BitVec 32 := fold4 ((b.drop (4 * j)).take 4)
def sig0 (x : BitVec 32) : BitVec 32 := ror x 7 ^^^ ror x 18 ^^^ x >>> 3
def sig1 (x : BitVec 32) : BitVec 32 := ror x 17 ^^^ ror x 19 ^^^ x >>> 10
/-- The words, the last one first. -/
def nxt (l : List (BitVec 32)) : BitVec 32 := l.getD 15 0#32 + sig0 (l.getD 14 0#32) + l.getD 6 0#32 + sig1 (l.getD 1 0#32)
def wrev (b : List UInt8) : Nat → List (BitVec 32)
  | 0 => [word b 15, word b 14, word b 13, word b 12, word b 11, word b 10, word b 9, word b 8, word b 7, word b 6, word b 5, word b 4, word b 3, word b 2, word b 1, word b 0]
  | n + 1 => nxt (wrev b n) :: wrev b n
def wAt (b : List UInt8) (t : Nat) : BitVec 32 := (wrev b 48).getD (63 - t) 0#32

def xOf (s : St) (k w : BitVec 32) : BitVec 32 := s.h + (ror s.e 6 ^^^ ror s.e 11 ^^^ ror s.e 25) + (s.e &&& s.f ^^^ ~~~s.e &&& s.g) + k + w
def yOf (s : St) : BitVec 32 := (ror s.a 2 ^^^ ror s.a 13 ^^^ ror s.a 22) + (s.a &&& s.b ^^^ s.a &&& s.c ^^^ s.b &&& s.c)
def rnd (s : St) (k w : BitVec 32) : St := ⟨xOf s k w + yOf s, s.a, s.b, s.c, s.d + xOf s k w, s.e, s.f, s.g⟩
def rnds (v : St) (b : List UInt8) : Nat → St
  | 0 => v
  | t + 1 => rnd (rnds v b t) (kTab.getD t 0#32) (wAt b t)
/-- What a block makes of a hash value. -/
def comp (v : St) (b : List UInt8) : St := v.add (rnds v b 64)

def blockOf (m : List UInt8) (n : Nat) : List UInt8 := (m.drop (64 * n)).take 64
/-- The hash value behind the first n blocks of a message. -/
def hvn (m : List UInt8) : Nat → St
  | 0 => iv
  | n + 1 => comp (hvn m n) (blockOf m n)

def len8 (n : Nat) : List UInt8 := [UInt8.ofNat (n / 2 ^ 56), UInt8.ofNat (n / 2 ^ 48), UInt8.ofNat (n / 2 ^ 40), UInt8.ofNat (n / 2 ^ 32), UInt8.ofNat (n / 2 ^ 24), UInt8.ofNat (n / 2 ^ 16), UInt8.ofNat (n / 2 ^ 8), UInt8.ofNat n]
def zeros (m : Nat) : Nat := (119 - m % 64) % 64
def pad (m : List UInt8) : List UInt8 := m ++ 128 :: (List.replicate (zeros m.length) 0 ++ len8 (8 * m.length))
def outB (v : St) : List UInt8 := (List.range 32).map fun i => UInt8.ofNat ((v.list.getD (i / 4) 0#32) >>> (24 - 8 * (i % 4))).toNat
def sha (m : List UInt8) : List UInt8 := outB (hvn (pad m) ((pad m).length / 64))
end Go.Proofs.YtgabmipakocheaaDoor
