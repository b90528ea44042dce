/-
  The laws' seed.
-/
import Derived.Test.YtaoegpmjogladaaDoorG18
import Derived.Test.YtaoegpmjogladaaDoorG02
import Derived.Test.YtaoegpmjogladaaDoorG11
set_option linter.unusedVariables false
namespace Go.Proofs.YtaoegpmjogladaaDoor
open Go.RowKit WM

theorem make32 (W : World) : (Instr.makeSlice 26 (.int .i64 32) (.int .i64 32)).run Tryd.prog W = .ok (.slice (some ⟨W.heap.size, 0, none⟩) 32 32) (W.alloc (.cells (bs (List.replicate 32 0)).toArray 5)) := by kernel_rfl
def seedTo (c : UInt8) (k : Nat) : List UInt8 := List.replicate k c ++ List.replicate (32 - k) 0
theorem seedTo_step (c : UInt8) (k : Nat) (h : k < 32) : (seedTo c k).set k c = seedTo c (k + 1) := by
  unfold seedTo
  rw [List.set_append_right _ _ (by simp), List.length_replicate, Nat.sub_self, show 32 - k = (32 - (k + 1)) + 1 by omega, List.replicate_succ, List.set_cons_zero, List.replicate_succ', List.append_assoc]
  rfl
set_option maxRecDepth 100000 in
set_option maxHeartbeats 1000000 in
theorem seedF (c : UInt8) (w : World) : Calls Tryd.prog 26 #[.int .u8 (c.toNat : Int)] w fun e w' => e = .returned (.string (str (List.replicate 32 c))) ∧ Below w.heap.size w w' := by
  have hmk := make32
  have hc := c.toNat_lt
  go_enter Tryd.func26, Tryd.ntmps26
  go_wp2
  go_loopw [4] (fun i' wr => ∃ k : Nat, k ≤ 32 ∧ i' = .int .i64 k ∧ Hid (Blk wr w.heap.size 5 (bs (seedTo c k)).toArray ∧ Below w.heap.size w wr)) (fun i' _ => 32 - (intOf i').toNat)
  case atStart => exact ⟨0, by omega, rfl, Blk.new_at w 5 rfl (by kernel_rfl), below_new _ _⟩
  case round =>
    obtain ⟨k, hk, rfl, hh⟩ := hrel
    by_cases hlt : k < 32
    · have hlen : k < (seedTo c k).length := by simp [seedTo]; omega
      obtain ⟨z, hz⟩ : ∃ z : Int, wr.cell? ⟨w.heap.size, k, none⟩ = some (.int .u8 z) := ⟨_, (Blk.cell hh.out.1 k).trans (by simpa using bs_get _ k hlen)⟩
      have hfree := Blk.frozen hh.out.1 k
      have hst := blk_setB hh.out.1 k c
      rw [seedTo_step c k hlt] at hst
      have HST := Lib.hid hst
      clear hst hlen
      go_wp2
      go_roundw
      case rel => exact ⟨k + 1, by omega, by go_num, HST.out, hh.out.2.setCell (by simp) _⟩
      case measure => simp [intOf]; omega
    · have hke : k = 32 := by omega
      have hb := hh.out.1
      rw [hke, show seedTo c 32 = List.replicate 32 c by simp [seedTo]] at hb
      have hcv := conv_arr (n := 32) hb (by simp)
      have hge : 32 ≤ k := by omega
      clear hlt hk hke hb
      go_wp2
      go_ret
      exact ⟨rfl, hh.out.2⟩
end Go.Proofs.YtaoegpmjogladaaDoor

/-
  SHA-256 over natural numbers, for the kernel to compute with; it is the one of the proofs.
-/
namespace Go.Proofs.YtaoegpmjogladaaDoor

structure N8 where
  a : Nat
  b : Nat
  c : Nat
  d : Nat
  e : Nat
  f : Nat
  g : Nat
  h : Nat
def ad (x y : Nat) : Nat := Nat.mod (Nat.add x y) 4294967296
def rorN (x n : Nat) : Nat := Nat.lor (Nat.shiftRight x n) (Nat.mod (Nat.shiftLeft x (Nat.sub 32 n)) 4294967296)
def sig0N (x : Nat) : Nat := Nat.xor (Nat.xor (rorN x 7) (rorN x 18)) (Nat.shiftRight x 3)
def sig1N (x : Nat) : Nat := Nat.xor (Nat.xor (rorN x 17) (rorN x 19)) (Nat.shiftRight x 10)
def nx (w0 w1 w9 w14 : Nat) : Nat := ad (ad (ad w0 (sig0N w1)) w9) (sig1N w14)
/-- n words from sixteen on. -/
noncomputable def extN (n : Nat) : Nat → Nat → Nat → Nat → Nat → Nat → Nat → Nat → Nat → Nat → Nat → Nat → Nat → Nat → Nat → Nat → List Nat :=
  Nat.rec (motive := fun _ => Nat → Nat → Nat → Nat → Nat → Nat → Nat → Nat → Nat → Nat → Nat → Nat → Nat → Nat → Nat → Nat → List Nat) (fun _ _ _ _ _ _ _ _ _ _ _ _ _ _ _ _ => [])
    (fun _ r a b c d e f g h i j k l m o p q => a :: r b c d e f g h i j k l m o p q (nx a b j p)) n
def w4 (a b c d : Nat) : Nat := ad (Nat.mul (ad (Nat.mul (ad (Nat.mul (ad 0 a) 256) b) 256) c) 256) d
def wordsN : List Nat → List Nat
  | a :: b :: c :: d :: t => w4 a b c d :: wordsN t
  | _ => []
noncomputable def fromN : List Nat → List Nat
  | [a, b, c, d, e, f, g, h, i, j, k, l, m, o, p, q] => extN 64 a b c d e f g h i j k l m o p q
  | _ => []
noncomputable def blockN (b : List Nat) : List Nat := fromN (wordsN b)
def xN (s : N8) (k w : Nat) : Nat := ad (ad (ad (ad s.h (Nat.xor (Nat.xor (rorN s.e 6) (rorN s.e 11)) (rorN s.e 25))) (Nat.xor (Nat.land s.e s.f) (Nat.land (Nat.sub 4294967295 s.e) s.g))) k) w
def yN (s : N8) : Nat := ad (Nat.xor (Nat.xor (rorN s.a 2) (rorN s.a 13)) (rorN s.a 22)) (Nat.xor (Nat.xor (Nat.land s.a s.b) (Nat.land s.a s.c)) (Nat.land s.b s.c))
def rndN (s : N8) (k w : Nat) : N8 := ⟨ad (xN s k w) (yN s), s.a, s.b, s.c, ad s.d (xN s k w), s.e, s.f, s.g⟩
def kN : List Nat := [
  1116352408, 1899447441, 3049323471, 3921009573, 961987163, 1508970993, 2453635748, 2870763221,
  3624381080, 310598401, 607225278, 1426881987, 1925078388, 2162078206, 2614888103, 3248222580,
  3835390401, 4022224774, 264347078, 604807628, 770255983, 1249150122, 1555081692, 1996064986,
  2554220882, 2821834349, 2952996808, 3210313671, 3336571891, 3584528711, 113926993, 338241895,
  666307205, 773529912, 1294757372, 1396182291, 1695183700, 1986661051, 2177026350, 2456956037,
  2730485921, 2820302411, 3259730800, 3345764771, 3516065817, 3600352804, 4094571909, 275423344,
  430227734, 506948616, 659060556, 883997877, 958139571, 1322822218, 1537002063, 1747873779,
  1955562222, 2024104815, 2227730452, 2361852424, 2428436474, 2756734187, 3204031479, 3329325298]
def runN : List Nat → List Nat → N8 → N8
  | k :: ks, w :: ws, s => runN ks ws (rndN s k w)
  | _, _, s => s
def addN (v s : N8) : N8 := ⟨ad v.a s.a, ad v.b s.b, ad v.c s.c, ad v.d s.d, ad v.e s.e, ad v.f s.f, ad v.g s.g, ad v.h s.h⟩
noncomputable def compN (v : N8) (b : List Nat) : N8 := addN v (runN kN (blockN b) v)
def ivN : N8 := ⟨1779033703, 3144134277, 1013904242, 2773480762, 1359893119, 2600822924, 528734635, 1541459225⟩
noncomputable def hvN (m : List Nat) : Nat → N8
  | 0 => ivN
  | n + 1 => compN (hvN m n) ((m.drop (64 * n)).take 64)
def len8N (n : Nat) : List Nat := [n / 2 ^ 56 % 256, n / 2 ^ 48 % 256, n / 2 ^ 40 % 256, n / 2 ^ 32 % 256, n / 2 ^ 24 % 256, n / 2 ^ 16 % 256, n / 2 ^ 8 % 256, n % 256]
def padN (m : List Nat) : List Nat := m ++ 128 :: (List.replicate (zeros m.length) 0 ++ len8N (8 * m.length))
def four (x : Nat) : List Nat := [Nat.mod (Nat.shiftRight x 24) 256, Nat.mod (Nat.shiftRight x 16) 256, Nat.mod (Nat.shiftRight x 8) 256, Nat.mod x 256]
def outN (v : N8) : List Nat := four v.a ++ (four v.b ++ (four v.c ++ (four v.d ++ (four v.e ++ (four v.f ++ (four v.g ++ four v.h))))))
noncomputable def shaN (m : List Nat) : List Nat := outN (hvN (padN m) ((padN m).length / 64))

/-! It is the same -/
def toN (s : St) : N8 := ⟨s.a.toNat, s.b.toNat, s.c.toNat, s.d.toNat, s.e.toNat, s.f.toNat, s.g.toNat, s.h.toNat⟩
theorem ad_N (x y : BitVec 32) : (x + y).toNat = ad x.toNat y.toNat := by rw [BitVec.toNat_add]; rfl
theorem ror_N (x : BitVec 32) (n : Nat) : (ror x n).toNat = rorN x.toNat n := by
  unfold ror rorN
  rw [BitVec.toNat_or, BitVec.toNat_ushiftRight, BitVec.toNat_shiftLeft]; rfl
theorem xor_N (x y : BitVec 32) : (x ^^^ y).toNat = Nat.xor x.toNat y.toNat := by rw [BitVec.toNat_xor]; rfl
theorem and_N (x y : BitVec 32) : (x &&& y).toNat = Nat.land x.toNat y.toNat := by rw [BitVec.toNat_and]; rfl
theorem not_N (x : BitVec 32) : (~~~x).toNat = Nat.sub 4294967295 x.toNat := by rw [BitVec.toNat_not]; rfl
theorem shr_N (x : BitVec 32) (n : Nat) : (x >>> n).toNat = Nat.shiftRight x.toNat n := by rw [BitVec.toNat_ushiftRight]; rfl
theorem sig0_N (x : BitVec 32) : (sig0 x).toNat = sig0N x.toNat := by unfold sig0 sig0N; rw [xor_N, xor_N, ror_N, ror_N, shr_N]
theorem sig1_N (x : BitVec 32) : (sig1 x).toNat = sig1N x.toNat := by unfold sig1 sig1N; rw [xor_N, xor_N, ror_N, ror_N, shr_N]
theorem xOf_N (s : St) (k w : BitVec 32) : (xOf s k w).toNat = xN (toN s) k.toNat w.toNat := by
  unfold xOf xN toN
  rw [ad_N, ad_N, ad_N, ad_N, xor_N, xor_N, ror_N, ror_N, ror_N, xor_N, and_N, and_N, not_N]
theorem yOf_N (s : St) : (yOf s).toNat = yN (toN s) := by
  unfold yOf yN toN
  rw [ad_N, xor_N, xor_N, ror_N, ror_N, ror_N, xor_N, xor_N, and_N, and_N, and_N]
theorem rnd_N (s : St) (k w : BitVec 32) : toN (rnd s k w) = rndN (toN s) k.toNat w.toNat := by
  unfold rnd rndN
  rw [← xOf_N, ← yOf_N, ← ad_N]
  show (⟨_, _, _, _, (s.d + xOf s k w).toNat, _, _, _⟩ : N8) = ⟨_, _, _, _, ad s.d.toNat (xOf s k w).toNat, _, _, _⟩
  rw [ad_N]; rfl
theorem add_N (v s : St) : toN (v.add s) = addN (toN v) (toN s) := by
  unfold St.add addN toN
  simp only [ad_N]
/-- The rounds as a run over two lists. -/
theorem run_N (v : St) (b : List UInt8) : ∀ (n t : Nat), t + n = 64 → runN (kN.drop t) (((List.range n).map fun j => (wAt b (t + j)).toNat)) (toN (rnds v b t)) = toN (rnds v b 64)
  | 0, t, h => by
    obtain rfl : t = 64 := by omega
    rfl
  | n + 1, t, h => by
    have hk : t < kN.length := by show t < 64; omega
    have hkt : kN[t] = (kTab.getD t 0#32).toNat := by
      have : ∀ x : Fin 64, kN[x.val]'x.isLt = (kTab.getD x.val 0#32).toNat := by decide
      exact this ⟨t, by omega⟩
    have ih := run_N v b n (t + 1) (by omega)
    rw [List.drop_eq_getElem_cons hk, hkt, List.range_succ_eq_map, List.map_cons, List.map_map]
    have e : ((fun j => (wAt b (t + j)).toNat) ∘ Nat.succ) = fun j => (wAt b (t + 1 + j)).toNat := by
      funext j
      simp only [Function.comp]
      congr 2; omega
    rw [e]
    show runN _ _ (rndN _ _ _) = _
    rw [Nat.add_zero, ← rnd_N]
    exact ih
theorem wrev_later (b : List UInt8) (n k : Nat) : ∀ m, (wrev b (n + m)).getD (m + k) 0#32 = (wrev b n).getD k 0#32
  | 0 => by rw [Nat.add_zero, Nat.zero_add]
  | m + 1 => by
    rw [show n + (m + 1) = n + m + 1 by omega, wrev, show m + 1 + k = (m + k) + 1 by omega]
    exact wrev_later b n k m
theorem wAt_word (b : List UInt8) (t : Nat) (h : t < 16) : wAt b t = word b t := by
  unfold wAt
  have := wrev_later b 0 (15 - t) 48
  rw [Nat.zero_add, show 48 + (15 - t) = 63 - t by omega] at this
  rw [this, wrev_zero b t h]
theorem wAt_next (b : List UInt8) (t : Nat) (h : t + 16 < 64) : wAt b (t + 16) = wAt b t + sig0 (wAt b (t + 1)) + wAt b (t + 9) + sig1 (wAt b (t + 14)) := by
  have e0 := wrev_later b (t + 1) 0 (47 - t)
  have e1 := wrev_later b t 15 (48 - t)
  have e2 := wrev_later b t 14 (48 - t)
  have e3 := wrev_later b t 6 (48 - t)
  have e4 := wrev_later b t 1 (48 - t)
  rw [show t + 1 + (47 - t) = 48 by omega, Nat.add_zero] at e0
  rw [show t + (48 - t) = 48 by omega] at e1 e2 e3 e4
  unfold wAt
  rw [show 63 - (t + 16) = 47 - t by omega, e0, show 63 - t = 48 - t + 15 by omega, e1, show 63 - (t + 1) = 48 - t + 14 by omega, e2, show 63 - (t + 9) = 48 - t + 6 by omega, e3,
    show 63 - (t + 14) = 48 - t + 1 by omega, e4]
  rfl
theorem ext_N (b : List UInt8) (f : Nat → Nat) (hf : ∀ t, t < 64 → f t = (wAt b t).toNat) (hn : ∀ t, f (t + 16) = nx (f t) (f (t + 1)) (f (t + 9)) (f (t + 14))) :
    ∀ (n t : Nat), extN n (f t) (f (t + 1)) (f (t + 2)) (f (t + 3)) (f (t + 4)) (f (t + 5)) (f (t + 6)) (f (t + 7)) (f (t + 8)) (f (t + 9)) (f (t + 10)) (f (t + 11)) (f (t + 12)) (f (t + 13)) (f (t + 14)) (f (t + 15)) = (List.range n).map fun j => f (t + j)
  | 0, t => rfl
  | n + 1, t => by
    have ih := ext_N b f hf hn n (t + 1)
    rw [List.range_succ_eq_map, List.map_cons, List.map_map]
    have e : ((fun j => f (t + j)) ∘ Nat.succ) = fun j => f (t + 1 + j) := by
      funext j
      simp only [Function.comp]
      congr 1; omega
    rw [e, ← ih]
    show _ :: extN n _ _ _ _ _ _ _ _ _ _ _ _ _ _ _ _ = _
    rw [← hn t]
    simp only [Nat.add_assoc, Nat.add_zero, Nat.reduceAdd]
/-- The words, and on for ever. -/
def wN (b : List UInt8) : Nat → Nat
  | 0 => (wAt b 0).toNat
  | 1 => (wAt b 1).toNat
  | 2 => (wAt b 2).toNat
  | 3 => (wAt b 3).toNat
  | 4 => (wAt b 4).toNat
  | 5 => (wAt b 5).toNat
  | 6 => (wAt b 6).toNat
  | 7 => (wAt b 7).toNat
  | 8 => (wAt b 8).toNat
  | 9 => (wAt b 9).toNat
  | 10 => (wAt b 10).toNat
  | 11 => (wAt b 11).toNat
  | 12 => (wAt b 12).toNat
  | 13 => (wAt b 13).toNat
  | 14 => (wAt b 14).toNat
  | 15 => (wAt b 15).toNat
  | t + 16 => nx (wN b t) (wN b (t + 1)) (wN b (t + 9)) (wN b (t + 14))
theorem wN_eq (b : List UInt8) (t : Nat) (h : t < 64) : wN b t = (wAt b t).toNat := by
  induction t using Nat.strongRecOn with
  | ind t ih =>
    by_cases h16 : t < 16
    · have : t = 0 ∨ t = 1 ∨ t = 2 ∨ t = 3 ∨ t = 4 ∨ t = 5 ∨ t = 6 ∨ t = 7 ∨ t = 8 ∨ t = 9 ∨ t = 10 ∨ t = 11 ∨ t = 12 ∨ t = 13 ∨ t = 14 ∨ t = 15 := by omega
      rcases this with h | h | h | h | h | h | h | h | h | h | h | h | h | h | h | h <;> subst h <;> simp [wN]
    · obtain ⟨s, rfl⟩ : ∃ s, t = s + 16 := ⟨t - 16, by omega⟩
      rw [wN, ih s (by omega) (by omega), ih (s + 1) (by omega) (by omega), ih (s + 9) (by omega) (by omega), ih (s + 14) (by omega) (by omega), wAt_next b s h, ad_N, ad_N, ad_N, sig0_N, sig1_N]
      rfl
theorem shl8_N (x : BitVec 32) (c : UInt8) : (x <<< 8 ||| BitVec.ofNat 32 c.toNat).toNat = ad (Nat.mul x.toNat 256) c.toNat := by
  have hc := c.toNat_lt
  have hx := x.isLt
  rw [BitVec.toNat_or, BitVec.toNat_shiftLeft, BitVec.toNat_ofNat, Nat.mod_eq_of_lt (show c.toNat < 2 ^ 32 by omega)]
  have e1 : x.toNat <<< 8 % 2 ^ 32 = (x.toNat % 2 ^ 24) <<< 8 := by rw [Nat.shiftLeft_eq, Nat.shiftLeft_eq]; omega
  rw [e1, ← Nat.shiftLeft_add_eq_or_of_lt (show c.toNat < 2 ^ 8 by omega), Nat.shiftLeft_eq]
  show _ = (x.toNat * 256 + c.toNat) % 4294967296
  omega
theorem fold4_N (a b c d : UInt8) : (fold4 [a, b, c, d]).toNat = w4 a.toNat b.toNat c.toNat d.toNat := by
  unfold fold4 w4
  simp only [List.foldl_cons, List.foldl_nil]
  rw [shl8_N, shl8_N, shl8_N, shl8_N]
  rfl
theorem words_N : ∀ (n : Nat) (b : List UInt8), b.length = 4 * n → wordsN (b.map (·.toNat)) = (List.range n).map fun j => (word b j).toNat
  | 0, b, h => by
    obtain rfl : b = [] := List.eq_nil_of_length_eq_zero (by omega)
    rfl
  | n + 1, p :: q :: r :: s :: b, h => by
    have ih := words_N n b (by simp at h; omega)
    show w4 p.toNat q.toNat r.toNat s.toNat :: wordsN (b.map (·.toNat)) = _
    rw [ih, List.range_succ_eq_map, List.map_cons, List.map_map]
    congr 1
    · rw [← fold4_N]; rfl
  | _ + 1, [], h => by simp at h
  | _ + 1, [_], h => by simp at h; omega
  | _ + 1, [_, _], h => by simp at h; omega
  | _ + 1, [_, _, _], h => by simp at h; omega
theorem block_N (b : List UInt8) (h : b.length = 64) : blockN (b.map (·.toNat)) = (List.range 64).map fun j => (wAt b j).toNat := by
  unfold blockN
  rw [words_N 16 b (by omega)]
  have e : ((List.range 16).map fun j => (word b j).toNat) = [wN b 0, wN b 1, wN b 2, wN b 3, wN b 4, wN b 5, wN b 6, wN b 7, wN b 8, wN b 9, wN b 10, wN b 11, wN b 12, wN b 13, wN b 14, wN b 15] := by
    have : ((List.range 16).map fun j => (word b j).toNat) = (List.range 16).map (wN b) := by
      apply List.map_congr_left
      intro j hj
      rw [List.mem_range] at hj
      rw [wN_eq b j (by omega), wAt_word b j hj]
    rw [this]
    rfl
  rw [e]
  show extN 64 _ _ _ _ _ _ _ _ _ _ _ _ _ _ _ _ = _
  have := ext_N b (wN b) (fun t ht => wN_eq b t ht) (fun t => by rw [wN]) 64 0
  simp only [Nat.zero_add] at this
  rw [this]
  apply List.map_congr_left
  intro j hj
  rw [List.mem_range] at hj
  exact wN_eq b j hj
theorem comp_N (v : St) (b : List UInt8) (h : b.length = 64) : toN (comp v b) = compN (toN v) (b.map (·.toNat)) := by
  unfold comp compN
  rw [add_N, block_N b h]
  have := run_N v b 64 0 rfl
  simp only [List.drop_zero, Nat.zero_add] at this
  rw [← this]
  rfl
theorem hv_N (m : List UInt8) : ∀ n, 64 * n ≤ m.length → toN (hvn m n) = hvN (m.map (·.toNat)) n
  | 0, _ => rfl
  | n + 1, h => by
    have hb : (blockOf m n).length = 64 := by unfold blockOf; rw [List.length_take, List.length_drop]; omega
    rw [hvn, comp_N _ _ hb, hv_N m n (by omega), hvN]
    unfold blockOf
    rw [List.map_take, List.map_drop]
theorem ofNat_N (n : Nat) : (UInt8.ofNat n).toNat = n % 256 := by rw [UInt8.toNat_ofNat']
theorem pad_N (m : List UInt8) : (pad m).map (·.toNat) = padN (m.map (·.toNat)) := by
  unfold pad padN
  rw [List.map_append, List.map_cons, List.map_append, List.map_replicate, List.length_map]
  congr 3
theorem out_N (v : St) : (outB v).map (·.toNat) = outN (toN v) := by
  have e : ∀ (x : BitVec 32) (k : Nat), (UInt8.ofNat (x >>> k).toNat).toNat = Nat.mod (Nat.shiftRight x.toNat k) 256 := fun x k => by rw [ofNat_N, shr_N]; rfl
  have e0 : ∀ (x : BitVec 32), (UInt8.ofNat (x >>> 0).toNat).toNat = Nat.mod x.toNat 256 := fun x => by rw [e]; rfl
  show [_, _, _, _, _, _, _, _, _, _, _, _, _, _, _, _, _, _, _, _, _, _, _, _, _, _, _, _, _, _, _, _] = [_, _, _, _, _, _, _, _, _, _, _, _, _, _, _, _, _, _, _, _, _, _, _, _, _, _, _, _, _, _, _, _]
  unfold toN
  congr 1
theorem sha_N (m : List UInt8) : (sha m).map (·.toNat) = shaN (m.map (·.toNat)) := by
  have hl : 64 * ((pad m).length / 64) ≤ (pad m).length := Nat.mul_div_le _ _
  unfold sha shaN
  rw [out_N, hv_N (pad m) _ hl, pad_N, ← pad_N, List.length_map]
end Go.Proofs.YtaoegpmjogladaaDoor

/-
  Digests, codes and signatures over natural numbers, for the kernel to compute with.
-/
namespace Go.Proofs.YtaoegpmjogladaaDoor
open Go.RowKit WM

def nat (l : List UInt8) : List Nat := l.map (·.toNat)
theorem nat_inj {a b : List UInt8} (h : nat a = nat b) : a = b := by
  unfold nat at h
  have hi : Function.Injective (fun c : UInt8 => c.toNat) := fun x y e => UInt8.toNat_inj.1 e
  exact (List.map_inj_right hi).1 h
theorem nat_append (a b : List UInt8) : nat (a ++ b) = nat a ++ nat b := by simp [nat]
theorem nat_length (a : List UInt8) : (nat a).length = a.length := by simp [nat]
theorem nat_take (a : List UInt8) (n : Nat) : nat (a.take n) = (nat a).take n := by simp [nat, List.map_take]

def encN (n : Nat) : List Nat := cond (Nat.beq n 0) [128] (cond (Nat.ble n 255) [129, n] [130, Nat.div n 256, Nat.mod n 256])
theorem enc_N (n : Nat) (h : n < 65536) : nat (enc (n : Int)) = encN n := by
  rw [enc_pos (by omega), Int.toNat_natCast]
  by_cases h0 : n = 0
  · subst h0; rw [digs_zero]; rfl
  · by_cases h1 : n ≤ 255
    · have e : digs n = [UInt8.ofNat n] := by rw [digs_pos (by omega), show n / 256 = 0 by omega, digs_zero, Nat.mod_eq_of_lt (by omega)]; rfl
      rw [e]
      have b0 : Nat.beq n 0 = false := by
        cases hb : Nat.beq n 0
        · rfl
        · exact absurd (Nat.eq_of_beq_eq_true hb) h0
      have b1 : Nat.ble n 255 = true := Nat.ble_eq_true_of_le h1
      unfold encN
      rw [b0, b1]
      show [_, (UInt8.ofNat n).toNat] = [129, n]
      rw [ofNat_N, Nat.mod_eq_of_lt (by omega)]
      rfl
    · have e : digs n = [UInt8.ofNat (n / 256), UInt8.ofNat (n % 256)] := by
        rw [digs_pos (by omega), digs_pos (show 0 < n / 256 by omega), show n / 256 / 256 = 0 by omega, digs_zero, Nat.mod_eq_of_lt (show n / 256 < 256 by omega)]; rfl
      rw [e]
      have b0 : Nat.beq n 0 = false := by
        cases hb : Nat.beq n 0
        · rfl
        · exact absurd (Nat.eq_of_beq_eq_true hb) h0
      have b1 : Nat.ble n 255 = false := by
        cases hb : Nat.ble n 255
        · rfl
        · exact absurd (Nat.le_of_ble_eq_true hb) h1
      unfold encN
      rw [b0, b1]
      show [_, (UInt8.ofNat (n / 256)).toNat, (UInt8.ofNat (n % 256)).toNat] = [130, n / 256, n % 256]
      rw [ofNat_N, ofNat_N, Nat.mod_eq_of_lt (show n / 256 < 256 by omega), Nat.mod_mod]
      rfl
def encBN (s : List Nat) : List Nat := encN s.length ++ s
theorem encB_N (s : List UInt8) (h : s.length < 65536) : nat (encB s) = encBN (nat s) := by
  unfold encB encBN
  rw [nat_append, enc_N _ h, nat_length]
def partsN : List (List Nat) → List Nat
  | [] => []
  | p :: t => encBN p ++ partsN t
noncomputable def ofN (t : Nat) (l : List (List Nat)) : List Nat := (shaN (t :: partsN l)).take 16
theorem encP_N : ∀ (l : List (List UInt8)), (∀ p ∈ l, p.length < 65536) → nat (encP (l.map str)) = partsN (l.map nat)
  | [], _ => rfl
  | p :: t, h => by
    have ih := encP_N t (fun q hq => h q (List.mem_cons_of_mem _ hq))
    have e : encP ((p :: t).map str) = encB p ++ encP (t.map str) := by unfold encP; rw [List.map_cons, List.flatMap_cons, str_list]
    rw [e, nat_append, encB_N p (h p (List.mem_cons_self ..)), ih]; rfl
theorem of_N (t : Nat) (ht : t < 256) (l : List (List UInt8)) (h : ∀ p ∈ l, p.length < 65536) : nat (ofB (t : Int) (l.map str)) = ofN t (l.map nat) := by
  unfold ofB ofN inputOf
  rw [nat_take]
  unfold nat
  rw [sha_N, List.map_cons]
  have e : (tagB (t : Int)).toNat = t := by have := tagB_val (t : Int); omega
  rw [e]
  have := encP_N l h
  unfold nat at this
  rw [this]

def encIN (l : List Nat) : List Nat := encN l.length ++ l.flatMap encN
theorem encI_N (l : List Nat) (hl : l.length < 65536) (h : ∀ x ∈ l, x < 65536) : nat (encI (l.map fun x : Nat => (x : Int))) = encIN l := by
  unfold encI encL encIN
  rw [nat_append, List.length_map, enc_N _ hl]
  congr 1
  induction l with
  | nil => rfl
  | cons x t ih =>
    rw [List.map_cons, List.flatMap_cons, List.flatMap_cons, nat_append, enc_N x (h x (List.mem_cons_self ..)), ih (by simp at hl; omega) (fun y hy => h y (List.mem_cons_of_mem _ hy))]
def kpadN (k : List Nat) : List Nat := k ++ List.replicate (64 - k.length) 0
noncomputable def macN (key text : List Nat) : List Nat := shaN ((kpadN key).map (fun x => Nat.xor x 92) ++ shaN ((kpadN key).map (fun x => Nat.xor x 54) ++ text))
theorem xorl_N (c : UInt8) (l : List UInt8) : nat (xorl c l) = (nat l).map (fun x => Nat.xor x c.toNat) := by
  unfold nat xorl
  rw [List.map_map, List.map_map]
  apply List.map_congr_left
  intro x _
  simp only [Function.comp]
  rw [UInt8.toNat_xor]; rfl
theorem mac_N (key text : List UInt8) (hk : key.length ≤ 64) : nat (macB key text) = macN (nat key) (nat text) := by
  have e1 : keyOf key = key := by unfold keyOf; rw [if_neg (by omega)]
  have e2 : nat (kpad key) = kpadN (nat key) := by
    unfold kpad kpadN
    rw [nat_append, nat_length]
    congr 1
    unfold nat
    rw [List.map_replicate]; rfl
  have s1 : ∀ m, nat (sha m) = shaN (nat m) := fun m => sha_N m
  unfold macB macN
  rw [e1, s1, nat_append, s1, nat_append, xorl_N, xorl_N, e2]
  rfl
noncomputable def startN (seed : List Nat) (i c : Nat) : List Nat := (macN seed ([99, 104, 97, 105, 110] ++ encIN [i, c])).take 16
theorem start_N (seed : List UInt8) (i c : Nat) (hs : seed.length ≤ 64) (hi : i < 65536) (hc : c < 65536) : nat (startB seed i c) = startN (nat seed) i c := by
  unfold startB startN chainText
  rw [nat_take, mac_N _ _ hs, nat_append]
  have := encI_N [i, c] (show 2 < 65536 by decide) (by intro x hx; simp at hx; omega)
  rw [← this]
  rfl
noncomputable def stepN (i c t : Nat) (v : List Nat) : List Nat := ofN 7 [encIN [i, c, t], v]
theorem step_N (i c t : Nat) (v : List UInt8) (hi : i < 65536) (hc : c < 65536) (ht : t < 65536) (hv : v.length < 65536) : nat (stepB i c t v) = stepN i c t (nat v) := by
  have hle := encI_3_le (i := (i : Int)) (c := (c : Int)) (t := (t : Int)) ⟨by omega, by omega⟩ ⟨by omega, by omega⟩ ⟨by omega, by omega⟩
  have h1 := of_N 7 (by decide) [encI [(i : Int), (c : Int), (t : Int)], v] (by
    intro p hp
    simp only [List.mem_cons, List.not_mem_nil, or_false] at hp
    rcases hp with rfl | rfl
    · omega
    · exact hv)
  have h2 := encI_N [i, c, t] (show 3 < 65536 by decide) (by intro x hx; simp at hx; omega)
  unfold stepB stepN
  rw [← h2]
  exact h1
noncomputable def advN (i c : Nat) (a : Nat) (n : Nat) (v : List Nat) : List Nat := Nat.rec v (fun k r => stepN i c (Nat.add a k) r) n
theorem adv_N (i c a : Nat) (hi : i < 65536) (hc : c < 65536) : ∀ (n : Nat) (v : List UInt8), v.length = 16 → a + n < 65536 → nat (advB i c a n v) = advN i c a n (nat v)
  | 0, _, _, _ => rfl
  | n + 1, v, hv, h => by
    have ih := adv_N i c a hi hc n v hv (by omega)
    show nat (stepB i c ((a + n : Nat) : Int) (advB i c a n v)) = stepN i c (a + n) (advN i c a n (nat v))
    rw [step_N i c (a + n) _ hi hc (by omega) (by rw [advB_16 _ _ _ _ _ hv]; decide), ih]
noncomputable def leafN (vs : List Nat) : List Nat := ofN 9 [ofN 11 [vs]]
def catN (f : Nat → List Nat) : Nat → Nat → List Nat
  | _, 0 => []
  | c, n + 1 => f c ++ catN f (c + 1) n
theorem catB_N (f : Nat → List UInt8) (g : Nat → List Nat) (h : ∀ c, c < 68 → nat (f c) = g c) : nat (catB f 68) = catN g 0 68 := by
  have : ∀ (n c : Nat), c + n ≤ 68 → nat (((List.range n).map (fun j => c + j)).flatMap f) = catN g c n := by
    intro n
    induction n with
    | zero => intro c _; rfl
    | succ n ih =>
      intro c hc
      rw [List.range_succ_eq_map, List.map_cons, List.map_map, List.flatMap_cons, nat_append]
      have e : ((fun j => c + j) ∘ Nat.succ) = fun j => (c + 1) + j := by funext j; simp only [Function.comp]; omega
      rw [e, ih (c + 1) (by omega), Nat.add_zero, h c (by omega)]; rfl
  have h0 := this 68 0 (by omega)
  have e0 : (List.range 68).map (fun j => 0 + j) = List.range 68 := by
    conv => rhs; rw [← List.map_id (List.range 68)]
    apply List.map_congr_left
    intro j _; simp
  rw [e0] at h0
  exact h0
theorem leaf_N (f : Nat → List UInt8) (h16 : ∀ c, (f c).length = 16) (g : Nat → List Nat) (h : ∀ c, c < 68 → nat (f c) = g c) : nat (leafB f) = leafN (catN g 0 68) := by
  have hl : (catB f 68).length = 1088 := catB_length f h16 68
  have h1 := of_N 11 (by decide) [catB f 68] (by intro p hp; simp at hp; rw [hp, hl]; decide)
  have h2 := of_N 9 (by decide) [ofB 11 [str (catB f 68)]] (by intro p hp; simp at hp; rw [hp, ofB_16]; decide)
  have h3 := catB_N f g h
  unfold leafB leafN
  rw [← h3]
  simp only [List.map_cons, List.map_nil] at h1 h2
  rw [show ((11 : Nat) : Int) = 11 from rfl] at h1
  rw [show ((9 : Nat) : Int) = 9 from rfl] at h2
  rw [h2, h1]
theorem over_N (a b : List UInt8) (ha : a.length = 16) (hb : b.length = 16) : nat (overB a b) = ofN 10 [nat a, nat b] := by
  have h1 := of_N 10 (by decide) [a, b] (by intro p hp; simp at hp; rcases hp with rfl | rfl <;> omega)
  exact h1
theorem digest_N (p : List UInt8) (i : Nat) (m : List UInt8) (hp : p.length = 16) (hi : i < 65536) (hm : m.length < 65536) : nat (digestB p i (str m)) = ofN 12 [nat p, encN i, nat m] := by
  have he := (enc_len (n := (i : Int)) ⟨by omega, by omega⟩).2
  have h1 := of_N 12 (by decide) [p, enc (i : Int), m] (by intro q hq; simp at hq; rcases hq with rfl | rfl | rfl <;> omega)
  simp only [List.map_cons, List.map_nil] at h1
  rw [enc_N i hi] at h1
  exact h1
end Go.Proofs.YtaoegpmjogladaaDoor

/-
  What Sign makes leads back to the root: plain mathematics.
-/
namespace Go.Proofs.YtaoegpmjogladaaDoor
open Go.RowKit WM

/-- What stands behind the index in a signature. -/
def restB (seed : List UInt8) (h i : Nat) (ds : List Nat) : List UInt8 := catB (valueB seed i ds) 68 ++ (pathB seed i h).flatten
theorem sigB_rest (seed : List UInt8) (h i : Nat) (m : ByteArray) : sigB seed h i m = enc (i : Int) ++ restB seed h i (digitsB (digestB (rootB seed h) i m)) := by
  unfold sigB restB
  rw [List.append_assoc]
theorem valueB_len (seed : List UInt8) (i : Nat) (ds : List Nat) (c : Nat) : (valueB seed i ds c).length = 16 := advB_16 _ _ _ _ _ (startB_16 _ _ _)
theorem pathB_len (seed : List UInt8) (i h : Nat) : ∀ x ∈ pathB seed i h, x.length = 16 := by
  intro x hx
  simp only [pathB, List.mem_map] at hx
  obtain ⟨l, _, rfl⟩ := hx
  exact nodeB_16 _ _ _
theorem flat_len16 : ∀ (K : List (List UInt8)), (∀ x ∈ K, x.length = 16) → K.flatten.length = 16 * K.length
  | [], _ => rfl
  | x :: K, h => by
    rw [List.flatten_cons, List.length_append, flat_len16 K (fun y hy => h y (List.mem_cons_of_mem _ hy)), h x (List.mem_cons_self ..), List.length_cons]; omega
theorem restB_len (seed : List UInt8) (h i : Nat) (ds : List Nat) : (restB seed h i ds).length = (68 + h) * 16 := by
  unfold restB
  rw [List.length_append, catB_length _ (valueB_len _ _ _), flat_len16 _ (pathB_len _ _ _)]
  simp [pathB]; omega
/-- The parts of values laid one behind the other. -/
theorem part_cat (f : Nat → List UInt8) (hf : ∀ c, (f c).length = 16) (t : List UInt8) : ∀ (n c : Nat), c < n → partB (catB f n ++ t) c = f c := by
  intro n
  induction n generalizing t with
  | zero => intro c h; omega
  | succ n ih =>
    intro c hc
    rw [catB_succ, List.append_assoc]
    by_cases h : c < n
    · exact ih (f n ++ t) c h
    · obtain rfl : c = n := by omega
      have hl := catB_length f hf c
      unfold partB
      rw [List.drop_append, List.drop_eq_nil_of_le (by omega), List.nil_append, show 16 * c - (catB f c).length = 0 by omega, List.drop_zero, List.take_append_of_le_length (by rw [hf]; omega), List.take_of_length_le (by rw [hf]; omega)]
theorem part_flat : ∀ (K : List (List UInt8)), (∀ x ∈ K, x.length = 16) → ∀ (l : Nat) (hl : l < K.length), partB K.flatten l = K[l]
  | [], _, l, hl => by simp at hl
  | x :: K, h, 0, _ => by
    have hx : x.length = 16 := h x (List.mem_cons_self ..)
    unfold partB
    rw [List.flatten_cons, Nat.mul_zero, List.drop_zero, List.take_append_of_le_length (by omega), List.take_of_length_le (by omega)]; rfl
  | x :: K, h, l + 1, hl => by
    have hx : x.length = 16 := h x (List.mem_cons_self ..)
    have ih := part_flat K (fun y hy => h y (List.mem_cons_of_mem _ hy)) l (by simpa using hl)
    unfold partB at ih ⊢
    rw [List.flatten_cons, List.drop_append, List.drop_eq_nil_of_le (by omega), List.nil_append, show 16 * (l + 1) - x.length = 16 * l by omega, ih]; rfl
theorem part_value (seed : List UInt8) (h i : Nat) (ds : List Nat) (c : Nat) (hc : c < 68) : partB (restB seed h i ds) c = valueB seed i ds c := part_cat _ (valueB_len _ _ _) _ 68 c hc
theorem part_path (seed : List UInt8) (h i : Nat) (ds : List Nat) (l : Nat) (hl : l < h) : partB (restB seed h i ds) (68 + l) = nodeB seed l (besideN (i >>> l)) := by
  have hp : (pathB seed i h).length = h := by simp [pathB]
  have h1 := part_flat (pathB seed i h) (pathB_len _ _ _) l (by omega)
  have hl2 := catB_length (valueB seed i ds) (valueB_len _ _ _) 68
  unfold partB at h1 ⊢
  unfold restB
  rw [List.drop_append, List.drop_eq_nil_of_le (by omega), List.nil_append, show 16 * (68 + l) - (catB (valueB seed i ds) 68).length = 16 * l by omega, h1]
  simp [pathB]
theorem advB_add (i c : Int) (a m n : Nat) (v : List UInt8) : advB i c (a + m) n (advB i c a m v) = advB i c a (m + n) v := by
  induction n with
  | zero => rfl
  | succ n ih =>
    show stepB i c ((a + m + n : Nat) : Int) (advB i c (a + m) n (advB i c a m v)) = stepB i c ((a + (m + n) : Nat) : Int) (advB i c a (m + n) v)
    rw [ih, Nat.add_assoc]
theorem end_value (seed : List UInt8) (h i : Nat) (ds : List Nat) (c : Nat) (hc : c < 68) (h3 : ds.getD c 0 ≤ 3) : endB (restB seed h i ds) i ds c = topB seed i c := by
  unfold endB topB
  rw [part_value seed h i ds c hc]
  unfold valueB
  have := advB_add i c 0 (ds.getD c 0) (3 - ds.getD c 0) (startB seed i c)
  rw [Nat.zero_add, show ds.getD c 0 + (3 - ds.getD c 0) = 3 by omega] at this
  exact this
theorem beside_of (k : Nat) (h : k < 64) : besideN k = if k % 2 = 1 then k - 1 else k + 1 := by
  have : ∀ x : Fin 64, besideN x.val = if x.val % 2 = 1 then x.val - 1 else x.val + 1 := by decide +kernel
  exact this ⟨k, h⟩
theorem parent_node (seed : List UInt8) (l k : Nat) (h : k < 64) : parentB (nodeB seed l k) (nodeB seed l (besideN k)) k = nodeB seed (l + 1) (k / 2) := by
  rw [beside_of k h]
  unfold parentB
  show _ = overB (nodeB seed l (2 * (k / 2))) (nodeB seed l (2 * (k / 2) + 1))
  by_cases ho : k % 2 = 1
  · rw [if_pos ho, if_pos ho, show 2 * (k / 2) = k - 1 by omega, show k - 1 + 1 = k by omega]
  · rw [if_neg ho, if_neg ho, show 2 * (k / 2) = k by omega]
theorem way_node (seed : List UInt8) (h i : Nat) (ds : List Nat) (hi : i < 64) : ∀ l, l ≤ h → wayB (restB seed h i ds) i (nodeB seed 0 i) l = nodeB seed l (i >>> l)
  | 0, _ => rfl
  | l + 1, hl => by
    have hk : i >>> l < 64 := by rw [Nat.shiftRight_eq_div_pow]; exact Nat.lt_of_le_of_lt (Nat.div_le_self _ _) hi
    rw [wayB, way_node seed h i ds hi l (by omega), part_path seed h i ds l (by omega), parent_node seed l _ hk, Nat.shiftRight_succ]
/-- P3.5. -/
theorem back_sig (seed : List UInt8) (h i : Nat) (m : ByteArray) (h6 : h ≤ 6) (hi : i < 2 ^ h) :
    backB (rootB seed h) h i m (restB seed h i (digitsB (digestB (rootB seed h) i m))) = rootB seed h := by
  have h64 : 2 ^ h ≤ 2 ^ 6 := Nat.pow_le_pow_right (by omega) h6
  unfold backB
  have e : leafB (endB (restB seed h i (digitsB (digestB (rootB seed h) i m))) i (digitsB (digestB (rootB seed h) i m))) = nodeB seed 0 i := by
    show ofB 9 [str (ofB 11 [str (catB _ 68)])] = ofB 9 [str (ofB 11 [str (catB _ 68)])]
    rw [catB_congr (fun c hc => end_value seed h i _ c hc (digitsB_getD _ _))]
  rw [e, way_node seed h i _ (by omega) h (Nat.le_refl _)]
  have : i >>> h = 0 := by rw [Nat.shiftRight_eq_div_pow]; exact Nat.div_eq_of_lt hi
  rw [this]; rfl
theorem sigB_get (seed : List UInt8) (h i : Nat) (m : ByteArray) (hi : i < 65536) (t : List UInt8) : gInt (sigB seed h i m ++ t) = .ok (i : Int) (enc (i : Int)).length := by
  rw [sigB_rest, List.append_assoc]
  exact gInt_enc ⟨by omega, by omega⟩ _
theorem sigB_len (seed : List UInt8) (h i : Nat) (m : ByteArray) : (sigB seed h i m).length = (enc (i : Int)).length + (68 + h) * 16 := by
  rw [sigB_rest, List.length_append, restB_len]
theorem sigB_drop (seed : List UInt8) (h i : Nat) (m : ByteArray) : (sigB seed h i m).drop (enc (i : Int)).length = restB seed h i (digitsB (digestB (rootB seed h) i m)) := by
  rw [sigB_rest, List.drop_left]
end Go.Proofs.YtaoegpmjogladaaDoor
