/-
  THE PLAIN MATHEMATICS of the order: the encodings of integers, compared byte by byte, have the integers' order; none is a prefix of another.
-/
import Derived.Test.YtlemelfepalnfaaMath
import GoSem.Op.String
namespace Go.Proofs.Ytlemelfepalnfaa.WM
open Go.Op (bytesLess)

theorem val_cons (c : UInt8) (t : List UInt8) : val (c :: t) = c.toNat * 256 ^ t.length + val t := by
  have h : ∀ (t : List UInt8) (a : Nat), t.foldl (fun m d => m * 256 + d.toNat) a = a * 256 ^ t.length + val t := by
    intro t
    induction t with
    | nil => intro a; simp [val]
    | cons d t ih =>
      intro a
      have e : val (d :: t) = t.foldl (fun m d => m * 256 + d.toNat) d.toNat := by simp [val]
      rw [e, List.foldl_cons, ih, ih, List.length_cons, Nat.pow_succ, Nat.add_mul, Nat.mul_comm (256 ^ t.length) 256, Nat.mul_assoc, Nat.add_assoc]
  have e : val (c :: t) = t.foldl (fun m d => m * 256 + d.toNat) c.toNat := by simp [val]
  rw [e, h]

theorem less_val : ∀ (a b : List UInt8), a.length = b.length → bytesLess a b = decide (val a < val b) := by
  intro a
  induction a with
  | nil => intro b h; have : b = [] := List.eq_nil_of_length_eq_zero h.symm; subst this; simp [bytesLess, val]
  | cons c x ih =>
    intro b h
    match b, h with
    | d :: y, h =>
      have hl : x.length = y.length := by simpa using h
      simp only [bytesLess]
      rw [ih y hl, val_cons, val_cons, hl]
      have hx := val_lt x
      have hy := val_lt y
      rw [hl] at hx
      rcases Nat.lt_trichotomy c.toNat d.toNat with h1 | h1 | h1
      · have : (c.toNat + 1) * 256 ^ y.length ≤ d.toNat * 256 ^ y.length := Nat.mul_le_mul_right _ h1
        rw [Nat.add_mul] at this
        have h2 : c < d := UInt8.lt_iff_toNat_lt.2 h1
        simp [h2]; omega
      · have h2 : c = d := UInt8.toNat_inj.1 h1
        subst h2
        simp [UInt8.lt_irrefl]
      · have : (d.toNat + 1) * 256 ^ y.length ≤ c.toNat * 256 ^ y.length := Nat.mul_le_mul_right _ h1
        rw [Nat.add_mul] at this
        have h2 : ¬ c < d := fun e => by have := UInt8.lt_iff_toNat_lt.1 e; omega
        have h3 : (c == d) = false := by simp; intro e; subst e; omega
        simp [h2, h3]; omega

theorem less_head {c d : UInt8} {x y : List UInt8} (h : c.toNat < d.toNat) : bytesLess (c :: x) (d :: y) = true := by
  have h2 : c < d := UInt8.lt_iff_toNat_lt.2 h
  simp [bytesLess, h2]
theorem less_head_no {c d : UInt8} {x y : List UInt8} (h : d.toNat < c.toNat) : bytesLess (c :: x) (d :: y) = false := by
  have h2 : ¬ c < d := fun e => by have := UInt8.lt_iff_toNat_lt.1 e; omega
  have h3 : (c == d) = false := by simp; intro e; subst e; omega
  simp [bytesLess, h2, h3]
theorem less_same {c : UInt8} {x y : List UInt8} : bytesLess (c :: x) (c :: y) = bytesLess x y := by simp [bytesLess, UInt8.lt_irrefl]

theorem flip_val : ∀ (a b : List UInt8), a.length = b.length → decide (val (a.map flip) < val (b.map flip)) = decide (val b < val a) := by
  have h : ∀ a : List UInt8, val (a.map flip) + val a + 1 = 256 ^ a.length := by
    intro a
    induction a with
    | nil => simp [val]
    | cons c t ih =>
      rw [List.map_cons, val_cons, val_cons, flip_toNat, List.length_map, List.length_cons, Nat.pow_succ]
      have hc := c.toNat_lt
      have e : (255 - c.toNat) * 256 ^ t.length + c.toNat * 256 ^ t.length = 255 * 256 ^ t.length := by rw [← Nat.add_mul]; congr 1; omega
      omega
  intro a b hl
  have ha := h a
  have hb := h b
  rw [hl] at ha
  simp; omega

theorem digs_low {m : Nat} (h : 0 < m) : 256 ^ ((digs m).length - 1) ≤ m := by
  obtain ⟨c, t, e, hc⟩ := head_digs m h
  have h1 := val_digs m
  rw [e, val_cons] at h1
  have hc0 : c.toNat ≠ 0 := fun e => hc (UInt8.toNat_inj.1 (by simpa using e))
  rw [e]
  have : 1 * 256 ^ t.length ≤ c.toNat * 256 ^ t.length := Nat.mul_le_mul_right _ (by omega)
  simp only [List.length_cons, Nat.add_sub_cancel]
  omega
theorem digs_len_lt {m n : Nat} (h : (digs m).length < (digs n).length) : m < n := by
  have h0 : 0 < n := by
    rcases Nat.eq_zero_or_pos n with e | e
    · subst e; rw [digs_zero] at h; simp at h
    · exact e
  have h1 := digs_low h0
  have h2 := val_lt (digs m)
  rw [val_digs] at h2
  have h3 : 256 ^ (digs m).length ≤ 256 ^ ((digs n).length - 1) := Nat.pow_le_pow_right (by omega) (by omega)
  omega

/-- P1.7: the order. -/
theorem less_enc {m n : Int} (hm : inRange m) (hn : inRange n) : bytesLess (enc m) (enc n) = decide (m < n) := by
  obtain ⟨m1, m2⟩ := hm
  obtain ⟨n1, n2⟩ := hn
  by_cases h1 : 0 ≤ m <;> by_cases h2 : 0 ≤ n
  · rw [enc_pos h1, enc_pos h2]
    have a8 := dig8 m.toNat (by omega)
    have b8 := dig8 n.toNat (by omega)
    rcases Nat.lt_trichotomy (digs m.toNat).length (digs n.toNat).length with h | h | h
    · rw [less_head (by rw [UInt8.toNat_ofNat', UInt8.toNat_ofNat']; omega)]
      have := digs_len_lt h
      simp; omega
    · rw [h, less_same, less_val _ _ h, val_digs, val_digs]
      simp; omega
    · rw [less_head_no (by rw [UInt8.toNat_ofNat', UInt8.toNat_ofNat']; omega)]
      have := digs_len_lt h
      simp; omega
  · rw [enc_pos h1, enc_neg (by omega)]
    have a8 := dig8 m.toNat (by omega)
    have b8 := dig8 (-1 - n).toNat (by omega)
    rw [less_head_no (by rw [UInt8.toNat_ofNat', UInt8.toNat_ofNat']; omega)]
    simp; omega
  · rw [enc_neg (by omega), enc_pos h2]
    have a8 := dig8 (-1 - m).toNat (by omega)
    have b8 := dig8 n.toNat (by omega)
    rw [less_head (by rw [UInt8.toNat_ofNat', UInt8.toNat_ofNat']; omega)]
    simp; omega
  · rw [enc_neg (by omega), enc_neg (by omega)]
    have a8 := dig8 (-1 - m).toNat (by omega)
    have b8 := dig8 (-1 - n).toNat (by omega)
    rcases Nat.lt_trichotomy (digs (-1 - m).toNat).length (digs (-1 - n).toNat).length with h | h | h
    · rw [less_head_no (by rw [UInt8.toNat_ofNat', UInt8.toNat_ofNat']; omega)]
      have := digs_len_lt h
      simp; omega
    · rw [h, less_same, less_val _ _ (by simp [h]), flip_val _ _ h, val_digs, val_digs]
      simp; omega
    · rw [less_head (by rw [UInt8.toNat_ofNat', UInt8.toNat_ofNat']; omega)]
      have := digs_len_lt h
      simp; omega

/-- P1.6: none is a prefix of another. -/
theorem enc_prefix {m n : Int} (hm : inRange m) (hn : inRange n) (k : Nat) (hk : k = min (enc m).length (enc n).length) (h : (enc m).take k = (enc n).take k) : m = n := by
  have key : ∀ {m n : Int}, inRange m → inRange n → (enc m).length ≤ (enc n).length → (enc m).take (enc m).length = (enc n).take (enc m).length → m = n := by
    intro m n hm hn hl h
    rw [List.take_length] at h
    have e : enc m ++ (enc n).drop (enc m).length = enc n := by
      have := List.take_append_drop (enc m).length (enc n)
      rwa [← h] at this
    have h1 := gInt_enc hm ((enc n).drop (enc m).length)
    rw [e] at h1
    have h2 := gInt_enc hn []
    rw [List.append_nil, h1] at h2
    injection h2
  by_cases hl : (enc m).length ≤ (enc n).length
  · rw [Nat.min_eq_left hl] at hk
    subst hk
    exact key hm hn hl h
  · rw [Nat.min_eq_right (by omega)] at hk
    subst hk
    exact (key hn hm (by omega) h.symm).symm
theorem enc_inj {m n : Int} (hm : inRange m) (hn : inRange n) (h : enc m = enc n) : m = n :=
  enc_prefix hm hn _ rfl (by rw [h])
end Go.Proofs.Ytlemelfepalnfaa.WM
