/-
  THE CONTRACTS of the package at the inputs of the sanity check.
-/
import Derived.Test.YtlemelfepalnfaaGets
namespace Go.Proofs.Ytlemelfepalnfaa
open Go.RowKit WM

theorem Reads.later {w w' : World} {s n : Nat} {A : Option Addr} {xs : List Value} (h : Reads w w.heap.size s A n xs) (hb : Below w.heap.size w w') : Reads w' w'.heap.size s A n xs :=
  (h.below hb).more hb.size
theorem below_then {a b c : World} (h : Below a.heap.size a b) (k : Below b.heap.size b c) : Below a.heap.size a c := h.trans (k.mono h.size)
theorem below_new (w : World) (o : Obj) : Below w.heap.size w (w.alloc o) := (Below.refl _ _).alloc (Nat.le_refl _) o

/-- A slice over a block that was made last. -/
theorem lit_reads (w : World) (xs : List Value) (t : TypeId) (s n : Nat) (h : xs.length = n * s) : Reads (w.alloc (.cells xs.toArray t)) (w.alloc (.cells xs.toArray t)).heap.size s (some ⟨w.heap.size, 0, none⟩) n xs :=
  ⟨h, fun _ => ⟨_, rfl, by simp, cells_new w xs t⟩⟩

theorem san_getInt (w : World) (l : List UInt8) (cs : Array Value) (n : Nat) (r : Value) (hcs : (bs l).toArray = cs) (hn : l.length = n) (hr : dInt (gInt l) = r) (hl : n ≤ 1000) :
    Calls Try.prog 24 #[.slice (some ⟨w.heap.size, 0, none⟩) n n] (w.alloc (.cells cs 5)) fun e w' => e = .returned r ∧ Below w.heap.size w w' := by
  subst hcs hn hr
  exact (getInt _ _ _ l _ (lit_reads w (bs l) 5 1 l.length (by simp [bs_length])) (Nat.le_refl _) (by omega)).mono fun _ _ ⟨he, hw⟩ => ⟨he, hw ▸ below_new w _⟩
theorem san_getBytes (w : World) (l : List UInt8) (cs : Array Value) (n : Nat) (r : Value) (hcs : (bs l).toArray = cs) (hn : l.length = n) (hr : dStr (gBytes l) = r) (hl : n ≤ 1000) :
    Calls Try.prog 26 #[.slice (some ⟨w.heap.size, 0, none⟩) n n] (w.alloc (.cells cs 5)) fun e w' => e = .returned r ∧ Below w.heap.size w w' := by
  subst hcs hn hr
  exact (getBytes _ _ _ l _ (lit_reads w (bs l) 5 1 l.length (by simp [bs_length])) (Nat.le_refl _) (by omega)).mono fun _ _ ⟨he, hw⟩ => ⟨he, hw ▸ below_new w _⟩

theorem ints_flat (xs : List Int) : xs.flatMap (fun x => [Value.int .i64 x]) = is xs := by
  induction xs with
  | nil => rfl
  | cons x xs ih => rw [List.flatMap_cons, ih]; rfl
theorem strs_flat (xs : List (List UInt8)) : xs.flatMap (fun x => [Value.string ⟨x.toArray⟩]) = ss (xs.map fun x => ⟨x.toArray⟩) := by
  induction xs with
  | nil => rfl
  | cons x xs ih => rw [List.flatMap_cons, ih]; rfl
theorem digs_flat (xs : List (List UInt8)) : xs.flatMap (fun x => bs x) = dg xs := by
  induction xs with
  | nil => rfl
  | cons x xs ih => rw [List.flatMap_cons, ih]; simp [dg, bs_append]

/-- The three list decoders, where they succeed, over a slice that reads. -/
theorem getInts_ok (A : Option Addr) (c : Nat) (l : List UInt8) (w : World) (ha : Reads w w.heap.size 1 A l.length (bs l)) (hlc : l.length ≤ c) (hl : l.length ≤ 1000000) (xs : List Int) (u : Nat) (h : gElems 1 gInt l = .ok xs u) :
    Calls Try.prog 28 #[.slice A l.length c] w fun e w' => ∃ A c, e = .returned (.tuple #[.slice A xs.length c, .int .i64 (u : Int), .int .i64 0]) ∧ Reads w' w'.heap.size 1 A xs.length (is xs) ∧ Below w.heap.size w w' := by
  have hc := getInts A c l w ha hlc hl
  rw [h] at hc
  exact hc.mono fun _ _ ⟨A, c, he, ho, hb⟩ => ⟨A, c, he, by have := Reads.of_own ho; rwa [ints_flat] at this, hb⟩
theorem getStrings_ok (A : Option Addr) (c : Nat) (l : List UInt8) (w : World) (ha : Reads w w.heap.size 1 A l.length (bs l)) (hlc : l.length ≤ c) (hl : l.length ≤ 1000000) (xs : List (List UInt8)) (u : Nat) (h : gElems 1 gBytes l = .ok xs u) :
    Calls Try.prog 31 #[.slice A l.length c] w fun e w' => ∃ A c, e = .returned (.tuple #[.slice A xs.length c, .int .i64 (u : Int), .int .i64 0]) ∧ Reads w' w'.heap.size 1 A xs.length (ss (xs.map fun x => ⟨x.toArray⟩)) ∧ Below w.heap.size w w' := by
  have hc := getStrings A c l w ha hlc hl
  rw [h] at hc
  exact hc.mono fun _ _ ⟨A, c, he, ho, hb⟩ => ⟨A, c, he, by have := Reads.of_own ho; rwa [strs_flat] at this, hb⟩
theorem getDigests_ok (A : Option Addr) (c : Nat) (l : List UInt8) (w : World) (ha : Reads w w.heap.size 1 A l.length (bs l)) (hlc : l.length ≤ c) (hl : l.length ≤ 1000000) (xs : List (List UInt8)) (u : Nat) (h : gElems 16 gDig l = .ok xs u) :
    Calls Try.prog 34 #[.slice A l.length c] w fun e w' => ∃ A c, e = .returned (.tuple #[.slice A xs.length c, .int .i64 (u : Int), .int .i64 0]) ∧ Reads w' w'.heap.size 16 A xs.length (dg xs) ∧ Below w.heap.size w w' := by
  have hc := getDigests A c l w ha hlc hl
  rw [h] at hc
  exact hc.mono fun _ _ ⟨A, c, he, ho, hb⟩ => ⟨A, c, he, by have := Reads.of_own ho; rwa [digs_flat] at this, hb⟩

theorem enc_pos1 : enc 1 = [129, 1] := by rw [enc_pos (by omega)]; simp [digs]
theorem enc_pos0 : enc 0 = [128] := by rw [enc_pos (by omega)]; simp [digs]
theorem enc_pos2 : enc 2 = [129, 2] := by rw [enc_pos (by omega)]; simp [digs]
theorem enc_neg1 : enc (-1) = [127] := by rw [enc_neg (by omega)]; simp [digs]
theorem enc_neg257 : enc (-257) = [125, 254, 255] := by rw [enc_neg (by omega)]; simp [digs, WM.flip]
theorem ex_ints : encL enc [1, -1] = [129, 2, 129, 1, 127] := by
  show enc ((2 : Nat) : Int) ++ [1, -1].flatMap enc = _
  rw [List.flatMap_cons, List.flatMap_cons, List.flatMap_nil, enc_pos1, enc_neg1]
  show enc 2 ++ _ = _
  rw [enc_pos2]; rfl
theorem ex_bytes : encB [97, 98] = [129, 2, 97, 98] := by
  show enc 2 ++ _ = _
  rw [enc_pos2]; rfl
theorem ex_strings : encS [⟨#[]⟩, ⟨#[97]⟩] = [129, 2, 128, 129, 1, 97] := by
  show enc 2 ++ ((enc 0 ++ []) ++ ((enc 1 ++ [97]) ++ [])) = _
  rw [enc_pos2, enc_pos0, enc_pos1]; rfl
def dex : List UInt8 := [1, 2, 0, 0, 0, 0, 0, 0, 0, 0, 0, 0, 0, 0, 0, 0]
theorem ex_digests : encL id [dex] = 129 :: 1 :: dex := by
  show enc 1 ++ (dex ++ []) = _
  rw [enc_pos1]; rfl
theorem ex_getInts : gElems 1 gInt [129, 2, 129, 1, 127] = .ok [1, -1] 5 := by rfl
theorem ex_getStrings : gElems 1 gBytes [129, 2, 128, 129, 1, 97, 5] = .ok [[], [97]] 6 := by rfl
theorem ex_getDigests : gElems 16 gDig (129 :: 1 :: dex) = .ok [dex] 18 := by rfl

/-! AT EACH CALL OF THE SANITY CHECK: the argument is a slice over the block that was made last. -/
theorem san_getInts (w : World) : Calls Try.prog 28 #[.slice (some ⟨w.heap.size, 0, none⟩) 5 5] (w.alloc (.cells #[.int .u8 129, .int .u8 2, .int .u8 129, .int .u8 1, .int .u8 127] 5)) fun e w' =>
    ∃ A c, e = .returned (.tuple #[.slice A 2 c, .int .i64 5, .int .i64 0]) ∧ Reads w' w'.heap.size 1 A 2 (is [1, -1]) ∧ Below w.heap.size w w' :=
  (getInts_ok _ 5 [129, 2, 129, 1, 127] _ (lit_reads w (bs [129, 2, 129, 1, 127]) 5 1 5 rfl) (Nat.le_refl _) (by decide) _ _ ex_getInts).mono fun _ _ ⟨A, c, he, ho, hb⟩ => ⟨A, c, he, ho, below_then (below_new w _) hb⟩
theorem san_getStrings (w : World) : Calls Try.prog 31 #[.slice (some ⟨w.heap.size, 0, none⟩) 7 7] (w.alloc (.cells #[.int .u8 129, .int .u8 2, .int .u8 128, .int .u8 129, .int .u8 1, .int .u8 97, .int .u8 5] 5)) fun e w' =>
    ∃ A c, e = .returned (.tuple #[.slice A 2 c, .int .i64 6, .int .i64 0]) ∧ Reads w' w'.heap.size 1 A 2 (ss [⟨#[]⟩, ⟨#[97]⟩]) ∧ Below w.heap.size w w' :=
  (getStrings_ok _ 7 [129, 2, 128, 129, 1, 97, 5] _ (lit_reads w (bs [129, 2, 128, 129, 1, 97, 5]) 5 1 7 rfl) (Nat.le_refl _) (by decide) _ _ ex_getStrings).mono fun _ _ ⟨A, c, he, ho, hb⟩ => ⟨A, c, he, ho, below_then (below_new w _) hb⟩
theorem san_digests (w : World) : Calls Try.prog 22 #[.slice (some ⟨w.heap.size, 0, none⟩) 1 1] (w.alloc (.cells (bs dex).toArray 57)) fun e w' =>
    ∃ A c, e = .returned (.slice A 18 c) ∧ Reads w' w'.heap.size 1 A 18 (bs (129 :: 1 :: dex)) ∧ 18 ≤ c ∧ Below w.heap.size w w' :=
  (encDigests _ [dex] 1 _ (lit_reads w (dg [dex]) 57 16 1 rfl) (by simp [dex]) (by decide)).mono fun _ _ ⟨A, c, he, ho, hb⟩ => by
    rw [ex_digests] at he ho
    obtain ⟨A2, c2, e2, h2⟩ := own_form ho
    injection e2 with e3 e4 e5
    subst e3 e5
    exact ⟨A, c, he, Reads.of_own ho, h2, below_then (below_new w _) hb⟩
theorem san_getDigests (w : World) (A : Option Addr) (c : Nat) (h : Reads w w.heap.size 1 A 18 (bs (129 :: 1 :: dex))) (hc : 18 ≤ c) : Calls Try.prog 34 #[.slice A 18 c] w fun e w' =>
    ∃ A c, e = .returned (.tuple #[.slice A 1 c, .int .i64 18, .int .i64 0]) ∧ Reads w' w'.heap.size 16 A 1 (dg [dex]) ∧ Below w.heap.size w w' :=
  getDigests_ok A c (129 :: 1 :: dex) w h hc (by decide) _ _ ex_getDigests
theorem san_strings (w : World) : Calls Try.prog 20 #[.slice (some ⟨w.heap.size, 0, none⟩) 2 2] (w.alloc (.cells #[.string ⟨#[]⟩, .string ⟨#[97]⟩] 9)) fun e w' =>
    ∃ A c, e = .returned (.slice A 6 c) ∧ Reads w' w'.heap.size 1 A 6 (bs [129, 2, 128, 129, 1, 97]) ∧ Below w.heap.size w w' :=
  (encStrings _ [⟨#[]⟩, ⟨#[97]⟩] 2 _ (lit_reads w (ss [⟨#[]⟩, ⟨#[97]⟩]) 9 1 2 rfl) (by rw [ex_strings]; decide) (by decide)).mono fun _ _ ⟨A, c, he, ho, hb⟩ => by
    rw [ex_strings] at he ho
    exact ⟨A, c, he, Reads.of_own ho, below_then (below_new w _) hb⟩
theorem san_ints (w : World) : Calls Try.prog 18 #[.slice (some ⟨w.heap.size, 0, none⟩) 2 2] (w.alloc (.cells #[.int .i64 1, .int .i64 (-1)] 3)) fun e w' =>
    ∃ A c, e = .returned (.slice A 5 c) ∧ Reads w' w'.heap.size 1 A 5 (bs [129, 2, 129, 1, 127]) ∧ Below w.heap.size w w' :=
  (encInts _ [1, -1] 2 _ (lit_reads w (is [1, -1]) 3 1 2 rfl) (by intro x hx; simp at hx; rcases hx with rfl | rfl <;> exact ⟨by omega, by omega⟩) (by rw [ex_ints]; decide) (by decide)).mono fun _ _ ⟨A, c, he, ho, hb⟩ => by
    rw [ex_ints] at he ho
    exact ⟨A, c, he, Reads.of_own ho, below_then (below_new w _) hb⟩
theorem san_encInt (w : World) : Calls Try.prog 14 #[.int .i64 (-257)] w fun e w' => ∃ A c, e = .returned (.slice A 3 c) ∧ Reads w' w'.heap.size 1 A 3 (bs [125, 254, 255]) ∧ Below w.heap.size w w' :=
  (encInt (-257) w ⟨by omega, by omega⟩).mono fun _ _ ⟨A, c, he, ho, hb⟩ => by
    rw [enc_neg257] at he ho
    exact ⟨A, c, he, Reads.of_own ho, hb⟩
theorem san_encBytes (w : World) : Calls Try.prog 16 #[.string ⟨#[97, 98]⟩] w fun e w' => ∃ A c, e = .returned (.slice A 4 c) ∧ Reads w' w'.heap.size 1 A 4 (bs [129, 2, 97, 98]) ∧ Below w.heap.size w w' :=
  (encBytes ⟨#[97, 98]⟩ w (by decide)).mono fun _ _ ⟨A, c, he, ho, hb⟩ => by
    have e : encB (⟨#[97, 98]⟩ : ByteArray).data.toList = [129, 2, 97, 98] := ex_bytes
    rw [e] at he ho
    exact ⟨A, c, he, Reads.of_own ho, hb⟩
/-- Same, SameInts, SameTexts, SameDigests at a slice that reads as the literal behind it. -/
theorem san_same (w : World) (A : Option Addr) (n c : Nat) (l : List UInt8) (cs : Array Value) (h : Reads w w.heap.size 1 A n (bs l)) (hcs : (bs l).toArray = cs) (hn : l.length = n) (hl : n ≤ 1000) :
    Calls Try.prog 13 #[.slice A n c, .slice (some ⟨w.heap.size, 0, none⟩) n n] (w.alloc (.cells cs 5)) fun e w' => e = .returned (.bool true) ∧ Below w.heap.size w w' := by
  subst hcs hn
  exact (same _ _ A _ c _ l _ (h.later (below_new w _)) (lit_reads w (bs l) 5 1 l.length (by simp [bs_length])) (by omega)).mono fun _ _ ⟨he, hb⟩ => ⟨he, below_then (below_new w _) hb⟩
theorem san_sameInts (w : World) (A : Option Addr) (c : Nat) (h : Reads w w.heap.size 1 A 2 (is [1, -1])) :
    Calls Try.prog 30 #[.slice A 2 c, .slice (some ⟨w.heap.size, 0, none⟩) 2 2] (w.alloc (.cells #[.int .i64 1, .int .i64 (-1)] 3)) fun e w' => e = .returned (.bool true) ∧ Below w.heap.size w w' :=
  (sameInts _ _ A _ c _ [1, -1] _ (h.later (below_new w _)) (lit_reads w (is [1, -1]) 3 1 2 rfl) (by decide)).mono fun _ _ ⟨he, hb⟩ => ⟨he, below_then (below_new w _) hb⟩
theorem san_sameTexts (w : World) (A : Option Addr) (c : Nat) (h : Reads w w.heap.size 1 A 2 (ss [⟨#[]⟩, ⟨#[97]⟩])) :
    Calls Try.prog 33 #[.slice A 2 c, .slice (some ⟨w.heap.size, 0, none⟩) 2 2] (w.alloc (.cells #[.string ⟨#[]⟩, .string ⟨#[97]⟩] 9)) fun e w' => e = .returned (.bool true) ∧ Below w.heap.size w w' :=
  (sameTexts _ _ A _ c _ [⟨#[]⟩, ⟨#[97]⟩] _ (h.later (below_new w _)) (lit_reads w (ss [⟨#[]⟩, ⟨#[97]⟩]) 9 1 2 rfl) (by decide)).mono fun _ _ ⟨he, hb⟩ => ⟨he, below_then (below_new w _) hb⟩
theorem san_sameDigests (w : World) (A : Option Addr) (c : Nat) (h : Reads w w.heap.size 16 A 1 (dg [dex])) :
    Calls Try.prog 36 #[.slice A 1 c, .slice (some ⟨w.heap.size, 0, none⟩) 1 1] (w.alloc (.cells (bs dex).toArray 57)) fun e w' => e = .returned (.bool true) ∧ Below w.heap.size w w' :=
  (sameDigests _ _ A _ c _ [dex] _ (h.later (below_new w _)) (lit_reads w (dg [dex]) 57 16 1 rfl) (by decide) (by simp [dex])).mono fun _ _ ⟨he, hb⟩ => ⟨he, below_then (below_new w _) hb⟩
end Go.Proofs.Ytlemelfepalnfaa
