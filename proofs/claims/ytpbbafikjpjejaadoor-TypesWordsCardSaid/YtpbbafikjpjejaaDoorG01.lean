/-
  THE PLAIN MATHEMATICS of the encodings of layer 1: digits in base 256, the encoding of an integer and its decoding, of strings and of lists; that decoding undoes encoding, that what is decoded is an encoding, that a proper prefix is incomplete. Nothing here speaks of the program.
-/
set_option linter.unusedVariables false
namespace Go.Proofs.YtpbbafikjpjejaaDoor.WM

/-- The digits of a number in base 256, the greatest first. -/
def digs (m : Nat) : List UInt8 := if _h : m = 0 then [] else digs (m / 256) ++ [UInt8.ofNat (m % 256)]
  decreasing_by omega

/-- The number that the digits say. -/
def val (l : List UInt8) : Nat := l.foldl (fun m d => m * 256 + d.toNat) 0

theorem digs_zero : digs 0 = [] := by rw [digs]; simp
theorem digs_pos {m : Nat} (h : 0 < m) : digs m = digs (m / 256) ++ [UInt8.ofNat (m % 256)] := by
  rw [digs]; simp [show m ≠ 0 by omega]

theorem val_snoc (l : List UInt8) (c : UInt8) : val (l ++ [c]) = val l * 256 + c.toNat := by
  simp [val]

theorem val_digs (m : Nat) : val (digs m) = m := by
  induction m using Nat.strongRecOn with
  | ind m ih =>
    by_cases h : m = 0
    · subst h; rw [digs_zero]; rfl
    · rw [digs_pos (by omega), val_snoc, ih _ (by omega)]
      have : (UInt8.ofNat (m % 256)).toNat = m % 256 := by simp
      omega

theorem len_digs_le (k m : Nat) (h : m < 256 ^ k) : (digs m).length ≤ k := by
  induction k generalizing m with
  | zero => have : m = 0 := by simpa using h
            subst this; rw [digs_zero]; simp
  | succ k ih =>
    by_cases h0 : m = 0
    · subst h0; rw [digs_zero]; simp
    · rw [digs_pos (by omega)]
      have := ih (m / 256) (by rw [Nat.pow_succ] at h; omega)
      simp; omega

theorem head_digs (m : Nat) (h : 0 < m) : ∃ c t, digs m = c :: t ∧ c ≠ 0 := by
  induction m using Nat.strongRecOn with
  | ind m ih =>
    rw [digs_pos h]
    by_cases h1 : m / 256 = 0
    · rw [h1, digs_zero]
      refine ⟨_, _, rfl, ?_⟩
      intro h2
      have := congrArg UInt8.toNat h2
      simp at this
      omega
    · obtain ⟨c, t, e, hc⟩ := ih (m / 256) (by omega) (by omega)
      rw [e]
      exact ⟨c, _, rfl, hc⟩

theorem foldl_ge (l : List UInt8) (a : Nat) : a * 256 ^ l.length ≤ l.foldl (fun m d => m * 256 + d.toNat) a := by
  induction l generalizing a with
  | nil => simp
  | cons c t ih =>
    simp only [List.length_cons, List.foldl_cons, Nat.pow_succ]
    have h1 := ih (a * 256 + c.toNat)
    have h2 : a * 256 * 256 ^ t.length ≤ (a * 256 + c.toNat) * 256 ^ t.length := Nat.mul_le_mul_right _ (by omega)
    have h3 : a * (256 ^ t.length * 256) = a * 256 * 256 ^ t.length := by rw [Nat.mul_comm (256 ^ t.length) 256, Nat.mul_assoc]
    omega

theorem val_lt (l : List UInt8) : val l < 256 ^ l.length := by
  have : ∀ (l : List UInt8) (a : Nat), l.foldl (fun m d => m * 256 + d.toNat) a < (a + 1) * 256 ^ l.length := by
    intro l
    induction l with
    | nil => intro a; simp
    | cons c t ih =>
      intro a
      simp only [List.length_cons, List.foldl_cons, Nat.pow_succ]
      have h1 := ih (a * 256 + c.toNat)
      have hc : c.toNat < 256 := c.toNat_lt
      have h2 : (a * 256 + c.toNat + 1) * 256 ^ t.length ≤ ((a + 1) * 256) * 256 ^ t.length := Nat.mul_le_mul_right _ (by omega)
      have h3 : (a + 1) * (256 ^ t.length * 256) = (a + 1) * 256 * 256 ^ t.length := by rw [Nat.mul_comm (256 ^ t.length) 256, Nat.mul_assoc]
      omega
  simpa [val] using this l 0

/-- Digits without a leading zero are those of their number. -/
theorem digs_val (l : List UInt8) (h : ∀ c, l.head? = some c → c ≠ 0) : digs (val l) = l := by
  induction hn : l.length generalizing l with
  | zero => have : l = [] := List.eq_nil_of_length_eq_zero hn
            subst this; exact digs_zero
  | succ n ih =>
    obtain ⟨t, c, rfl⟩ : ∃ t c, l = t ++ [c] := ⟨l.dropLast, l.getLast (by intro e; subst e; simp at hn), (List.dropLast_concat_getLast _).symm⟩
    have hpos : 0 < val (t ++ [c]) := by
      rw [val_snoc]
      cases t with
      | nil => have := h c rfl
               have : c.toNat ≠ 0 := fun e => this (UInt8.toNat_inj.1 (by simpa using e))
               omega
      | cons d t =>
        have hd : d ≠ 0 := h d rfl
        have : d.toNat ≠ 0 := fun e => hd (UInt8.toNat_inj.1 (by simpa using e))
        have h1 : d.toNat * 256 ^ t.length ≤ val (d :: t) := by
          have := foldl_ge t d.toNat
          simpa [val] using this
        have h2 : 1 ≤ 256 ^ t.length := Nat.one_le_pow _ _ (by omega)
        have h3 : 1 * 1 ≤ d.toNat * 256 ^ t.length := Nat.mul_le_mul (by omega) h2
        omega
    rw [digs_pos hpos, val_snoc]
    have hc : c.toNat < 256 := c.toNat_lt
    rw [show (val t * 256 + c.toNat) / 256 = val t by omega, show (val t * 256 + c.toNat) % 256 = c.toNat by omega]
    rw [ih t (fun d hd => h d (by cases t with | nil => simp at hd | cons x y => simpa using hd)) (by simp at hn; omega)]
    simp

def flip (c : UInt8) : UInt8 := UInt8.ofNat (255 - c.toNat)
theorem flip_toNat (c : UInt8) : (flip c).toNat = 255 - c.toNat := by
  unfold flip; have := c.toNat_lt; rw [UInt8.toNat_ofNat']; omega
theorem flip_flip (c : UInt8) : flip (flip c) = c := by
  apply UInt8.toNat_inj.1
  rw [flip_toNat, flip_toNat]; have := c.toNat_lt; omega
theorem map_flip_flip (l : List UInt8) : (l.map flip).map flip = l := by
  rw [List.map_map]; conv => rhs; rw [← List.map_id l]
  apply List.map_congr_left; intro c _; simp [flip_flip]

/-- The encoding of an integer (P1.1). -/
def enc (n : Int) : List UInt8 :=
  if 0 ≤ n then UInt8.ofNat (128 + (digs n.toNat).length) :: digs n.toNat
  else UInt8.ofNat (127 - (digs (-1 - n).toNat).length) :: (digs (-1 - n).toNat).map flip

inductive Dec (α : Type) where
  | more : Dec α
  | form : Dec α
  | ok (x : α) (used : Nat) : Dec α

def kOf (c : UInt8) : Nat := if 128 ≤ c.toNat then c.toNat - 128 else 127 - c.toNat
def unm (c : UInt8) (l : List UInt8) : List UInt8 := if 128 ≤ c.toNat then l else l.map flip
def sgn (c : UInt8) (m : Nat) : Int := if 128 ≤ c.toNat then (m : Int) else -1 - (m : Int)

/-- P1.2: decoding an integer at the beginning. -/
def gInt : List UInt8 → Dec Int
  | [] => .more
  | c :: t =>
    if 8 < kOf c then .form
    else if t.length < kOf c then .more
    else if (unm c (t.take (kOf c))).head? = some 0 then .form
    else if 2 ^ 63 ≤ val (unm c (t.take (kOf c))) then .form
    else .ok (sgn c (val (unm c (t.take (kOf c))))) (kOf c + 1)

def inRange (n : Int) : Prop := -9223372036854775808 ≤ n ∧ n ≤ 9223372036854775807

theorem dig8 (m : Nat) (h : m < 2 ^ 63) : (digs m).length ≤ 8 := len_digs_le 8 m (by omega)

theorem enc_pos {n : Int} (h : 0 ≤ n) : enc n = UInt8.ofNat (128 + (digs n.toNat).length) :: digs n.toNat := by rw [enc, if_pos h]
theorem enc_neg {n : Int} (h : n < 0) : enc n = UInt8.ofNat (127 - (digs (-1 - n).toNat).length) :: (digs (-1 - n).toNat).map flip := by rw [enc, if_neg (by omega)]

theorem enc_len {n : Int} (hr : inRange n) : 1 ≤ (enc n).length ∧ (enc n).length ≤ 9 := by
  obtain ⟨h1, h2⟩ := hr
  by_cases h : 0 ≤ n
  · rw [enc_pos h]; have := dig8 n.toNat (by omega); simp; omega
  · rw [enc_neg (by omega)]; have := dig8 (-1 - n).toNat (by omega); simp; omega

theorem head_digs_ne (m : Nat) : (digs m).head? ≠ some 0 := by
  by_cases h : m = 0
  · subst h; rw [digs_zero]; simp
  · obtain ⟨c, t, e, hc⟩ := head_digs m (by omega)
    rw [e]; simpa using hc

theorem gInt_enc {n : Int} (hr : inRange n) (t : List UInt8) : gInt (enc n ++ t) = .ok n (enc n).length := by
  obtain ⟨h1, h2⟩ := hr
  by_cases h : 0 ≤ n
  · rw [enc_pos h]
    have h8 := dig8 n.toNat (by omega)
    have hc : (UInt8.ofNat (128 + (digs n.toNat).length)).toNat = 128 + (digs n.toNat).length := by rw [UInt8.toNat_ofNat']; omega
    have hk : kOf (UInt8.ofNat (128 + (digs n.toNat).length)) = (digs n.toNat).length := by unfold kOf; rw [hc, if_pos (by omega)]; omega
    have hu : ∀ l, unm (UInt8.ofNat (128 + (digs n.toNat).length)) l = l := fun l => by unfold unm; rw [hc, if_pos (by omega)]
    simp only [List.cons_append, gInt, hk, hu]
    rw [if_neg (by omega), if_neg (by simp), List.take_left, if_neg (head_digs_ne _), val_digs, if_neg (by omega)]
    unfold sgn; rw [hc, if_pos (by omega)]
    simp; omega
  · rw [enc_neg (by omega)]
    have h8 := dig8 (-1 - n).toNat (by omega)
    have hc : (UInt8.ofNat (127 - (digs (-1 - n).toNat).length)).toNat = 127 - (digs (-1 - n).toNat).length := by rw [UInt8.toNat_ofNat']; omega
    have hk : kOf (UInt8.ofNat (127 - (digs (-1 - n).toNat).length)) = (digs (-1 - n).toNat).length := by unfold kOf; rw [hc, if_neg (by omega)]; omega
    have hu : ∀ l, unm (UInt8.ofNat (127 - (digs (-1 - n).toNat).length)) l = l.map flip := fun l => by unfold unm; rw [hc, if_neg (by omega)]
    simp only [List.cons_append, gInt, hk, hu]
    rw [if_neg (by omega), if_neg (by simp), List.take_left' (by simp), map_flip_flip, if_neg (head_digs_ne _), val_digs, if_neg (by omega)]
    unfold sgn; rw [hc, if_neg (by omega)]
    simp; omega

theorem gInt_ok {l : List UInt8} {n : Int} {u : Nat} (h : gInt l = .ok n u) : inRange n ∧ ∃ t, l = enc n ++ t ∧ u = (enc n).length := by
  match l, h with
  | c :: t, h =>
    simp only [gInt] at h
    split at h
    · cases h
    split at h
    · cases h
    split at h
    · cases h
    split at h
    · cases h
    rename_i h1 h2 h3 h4
    injection h with hn hu
    have hlen : (t.take (kOf c)).length = kOf c := by simp; omega
    have hc := c.toNat_lt
    by_cases hs : 128 ≤ c.toNat
    · simp only [unm, sgn, hs, if_true] at h3 h4 hn
      have hd := digs_val (t.take (kOf c)) (fun d hd e => h3 (by rw [hd, e]))
      have hn0 : n.toNat = val (t.take (kOf c)) := by omega
      have hk : kOf c = c.toNat - 128 := by unfold kOf; rw [if_pos hs]
      have he : enc n = c :: t.take (kOf c) := by
        have hcc : UInt8.ofNat (128 + (c.toNat - 128)) = c := by
          apply UInt8.toNat_inj.1
          rw [UInt8.toNat_ofNat']; omega
        rw [enc_pos (by omega), hn0, hd, hlen, hk, hcc]
      refine ⟨⟨by omega, by omega⟩, t.drop (kOf c), ?_, ?_⟩
      · rw [he]; simp
      · rw [he]; simp; omega
    · simp only [unm, sgn, hs, if_false] at h3 h4 hn
      have hd := digs_val ((t.take (kOf c)).map flip) (fun d hd e => h3 (by rw [hd, e]))
      have hn0 : (-1 - n).toNat = val ((t.take (kOf c)).map flip) := by omega
      have hk : kOf c = 127 - c.toNat := by unfold kOf; rw [if_neg hs]
      have he : enc n = c :: t.take (kOf c) := by
        have hcc : UInt8.ofNat (127 - (127 - c.toNat)) = c := by
          apply UInt8.toNat_inj.1
          rw [UInt8.toNat_ofNat']; omega
        rw [enc_neg (by omega), hn0, hd, map_flip_flip, List.length_map, hlen, hk, hcc]
      refine ⟨⟨by omega, by omega⟩, t.drop (kOf c), ?_, ?_⟩
      · rw [he]; simp
      · rw [he]; simp; omega

theorem gInt_more {n : Int} (hr : inRange n) {p q : List UInt8} (h : p ++ q = enc n) (hq : q ≠ []) : gInt p = .more := by
  match p, h with
  | [], _ => rfl
  | c :: t, h =>
    have h0 := gInt_enc hr []
    have hq' : 0 < q.length := by cases q; exact absurd rfl hq; simp
    rw [List.append_nil, ← h, List.cons_append] at h0
    simp only [gInt] at h0 ⊢
    split at h0
    · cases h0
    rename_i h1
    rw [if_neg h1]
    split at h0
    · cases h0
    split at h0
    · cases h0
    split at h0
    · cases h0
    injection h0 with _ hu
    rw [if_pos]
    simp at hu
    omega

/-- P1.3 to P1.5: a length, where each element takes at least 'least' bytes. -/
def gLen (least : Nat) (l : List UInt8) : Dec Nat :=
  match gInt l with
  | .ok n u => if n < 0 then .form else if (((l.length - u) / least : Nat) : Int) < n then .more else .ok n.toNat u
  | .more => .more
  | .form => .form

def gBytes (l : List UInt8) : Dec (List UInt8) :=
  match gLen 1 l with
  | .ok n u => .ok ((l.drop u).take n) (u + n)
  | .more => .more
  | .form => .form

def gMany {α : Type} (g : List UInt8 → Dec α) : Nat → List UInt8 → Dec (List α)
  | 0, _ => .ok [] 0
  | n + 1, l => match g l with
    | .ok x u => (match gMany g n (l.drop u) with
      | .ok xs v => .ok (x :: xs) (u + v)
      | .more => .more
      | .form => .form)
    | .more => .more
    | .form => .form

def gElems {α : Type} (least : Nat) (g : List UInt8 → Dec α) (l : List UInt8) : Dec (List α) :=
  match gLen least l with
  | .ok n u => (match gMany g n (l.drop u) with
    | .ok xs v => .ok xs (u + v)
    | .more => .more
    | .form => .form)
  | .more => .more
  | .form => .form

def gDig (l : List UInt8) : Dec (List UInt8) := .ok (l.take 16) 16

def encB (s : List UInt8) : List UInt8 := enc s.length ++ s
def encL {α : Type} (e : α → List UInt8) (l : List α) : List UInt8 := enc l.length ++ l.flatMap e

theorem gLen_enc {least m : Nat} (hm : (m : Int) ≤ 9223372036854775807) (hl : 0 < least) {t : List UInt8} (ht : m * least ≤ t.length) : gLen least (enc m ++ t) = .ok m (enc m).length := by
  unfold gLen
  rw [gInt_enc ⟨by omega, hm⟩]
  simp only []
  have h1 : m ≤ t.length / least := (Nat.le_div_iff_mul_le hl).2 ht
  rw [if_neg (by omega), if_neg]
  · simp
  · simp; omega

theorem gLen_ok {least m u : Nat} {l : List UInt8} (h : gLen least l = .ok m u) (hl : 0 < least) : (m : Int) ≤ 9223372036854775807 ∧ ∃ t, l = enc m ++ t ∧ u = (enc m).length ∧ m * least ≤ t.length := by
  unfold gLen at h
  split at h
  · rename_i n v hg
    split at h
    · cases h
    split at h
    · cases h
    injection h with h1 h2
    subst h2
    obtain ⟨hr, t, e, hu⟩ := gInt_ok hg
    have hn : (m : Int) = n := by omega
    rw [← hn] at e hu hr
    refine ⟨hr.2, t, e, hu, ?_⟩
    rename_i hlt
    have : m ≤ (l.length - v) / least := by omega
    have h3 := (Nat.le_div_iff_mul_le hl).1 this
    rw [e, hu, List.length_append] at h3
    omega
  · cases h
  · cases h

theorem gBytes_enc {s : List UInt8} (hs : (s.length : Int) ≤ 9223372036854775807) (t : List UInt8) : gBytes (encB s ++ t) = .ok s (encB s).length := by
  unfold gBytes encB
  rw [List.append_assoc, gLen_enc hs (by omega) (by simp)]
  simp

theorem gBytes_ok {l s : List UInt8} {u : Nat} (h : gBytes l = .ok s u) : (s.length : Int) ≤ 9223372036854775807 ∧ ∃ t, l = encB s ++ t ∧ u = (encB s).length := by
  unfold gBytes at h
  split at h
  · rename_i n v hg
    injection h with h1 h2
    obtain ⟨hr, t, e, hu, ht⟩ := gLen_ok hg (by omega)
    rw [e, hu, List.drop_left] at h1
    have hl : s.length = n := by rw [← h1, List.length_take]; omega
    refine ⟨by rw [hl]; exact hr, t.drop n, ?_, ?_⟩
    · unfold encB; rw [hl, List.append_assoc, ← h1, List.take_append_drop]; exact e
    · unfold encB; rw [hl, ← h2, hu, List.length_append, hl]
  · cases h
  · cases h

theorem gLen_more {least m : Nat} (hm : (m : Int) ≤ 9223372036854775807) (hl : 0 < least) {body p q : List UInt8} (_hb : m * least ≤ body.length) (h : p ++ q = enc m ++ body) :
    gLen least p = .more ∨ ∃ r, p = enc m ++ r ∧ gLen least p = .ok m (enc m).length ∧ r ++ q = body := by
  by_cases hlt : p.length < (enc m).length
  · left
    have hp : p ++ (enc m).drop p.length = enc m := by
      have h1 : (p ++ q).take p.length = (enc m ++ body).take p.length := by rw [h]
      rw [List.take_left, List.take_append_of_le_length (by omega)] at h1
      conv => lhs; rw [h1]
      rw [List.length_take, Nat.min_eq_left (by omega)]
      exact List.take_append_drop _ _
    unfold gLen
    rw [gInt_more ⟨by omega, hm⟩ hp (by intro e; have := congrArg List.length e; simp at this; omega)]
  · have h1 : (p ++ q).take (enc m).length = (enc m ++ body).take (enc m).length := by rw [h]
    rw [List.take_left, List.take_append_of_le_length (by omega)] at h1
    have hp : p = enc m ++ p.drop (enc m).length := by
      conv => lhs; rw [← List.take_append_drop (enc m).length p, h1]
    by_cases hd : m * least ≤ (p.drop (enc m).length).length
    · right
      refine ⟨p.drop (enc m).length, hp, ?_, ?_⟩
      · have := gLen_enc hm hl hd
        rw [← hp] at this; exact this
      · rw [hp, List.append_assoc] at h
        exact List.append_cancel_left h
    · left
      unfold gLen
      have := gInt_enc (n := (m : Int)) ⟨by omega, hm⟩ (p.drop (enc m).length)
      rw [← hp] at this
      rw [this]
      simp only []
      rw [if_neg (by omega), if_pos]
      have h3 : ¬ m ≤ (p.length - (enc m).length) / least := by
        rw [Nat.le_div_iff_mul_le hl]; simpa using hd
      omega

theorem gBytes_more {s p q : List UInt8} (hs : (s.length : Int) ≤ 9223372036854775807) (h : p ++ q = encB s) (hq : q ≠ []) : gBytes p = .more := by
  unfold gBytes
  rcases gLen_more (least := 1) hs (by omega) (by simp) h with e | ⟨r, e, e2, hr⟩
  · rw [e]
  · exfalso
    obtain ⟨_, t, ht, _, hlen⟩ := gLen_ok e2 (by omega)
    have h1 : r = t := List.append_cancel_left (e.symm.trans ht)
    have h2 := congrArg List.length hr
    have h3 : 0 < q.length := by cases q; exact absurd rfl hq; simp
    rw [List.length_append, h1] at h2
    omega

section
variable {α : Type} {g : List UInt8 → Dec α} {e : α → List UInt8}

theorem gMany_enc {xs : List α} (h : ∀ x ∈ xs, ∀ t, g (e x ++ t) = .ok x (e x).length) (t : List UInt8) : gMany g xs.length (xs.flatMap e ++ t) = .ok xs (xs.flatMap e).length := by
  induction xs with
  | nil => simp [gMany]
  | cons x xs ih =>
    simp only [List.length_cons, gMany, List.flatMap_cons, List.append_assoc]
    rw [h x (by simp)]
    simp only [List.drop_left]
    rw [ih (fun y hy => h y (by simp [hy]))]
    simp

theorem gMany_ok (h : ∀ l x u, g l = .ok x u → ∃ t, l = e x ++ t ∧ u = (e x).length) : ∀ (n : Nat) (l : List UInt8) (xs : List α) (u : Nat), gMany g n l = .ok xs u → xs.length = n ∧ ∃ t, l = xs.flatMap e ++ t ∧ u = (xs.flatMap e).length := by
  intro n
  induction n with
  | zero => intro l xs u hg; simp [gMany] at hg; obtain ⟨rfl, rfl⟩ := hg; simp
  | succ n ih =>
    intro l xs u hg
    simp only [gMany] at hg
    split at hg
    · rename_i x v hx
      split at hg
      · rename_i ys v2 hy
        injection hg with h1 h2
        subst h1 h2
        obtain ⟨t, e1, e2⟩ := h _ _ _ hx
        rw [e1, e2, List.drop_left] at hy
        obtain ⟨hl, t2, e3, e4⟩ := ih _ _ _ hy
        refine ⟨by simp [hl], t2, ?_, ?_⟩
        · rw [e1, e3]; simp
        · simp [e2, e4]
      · cases hg
      · cases hg
    · cases hg
    · cases hg

theorem gMany_more {xs : List α} (h1 : ∀ x ∈ xs, ∀ t, g (e x ++ t) = .ok x (e x).length) (h2 : ∀ x ∈ xs, ∀ p q, p ++ q = e x → q ≠ [] → g p = .more) :
    ∀ {p q : List UInt8}, p ++ q = xs.flatMap e → q ≠ [] → gMany g xs.length p = .more := by
  induction xs with
  | nil => intro p q h hq; simp at h; exact absurd h.2 hq
  | cons x xs ih =>
    intro p q h hq
    simp only [List.length_cons, gMany]
    rw [List.flatMap_cons] at h
    by_cases hlt : p.length < (e x).length
    · have hp : p ++ (e x).drop p.length = e x := by
        have h1 : (p ++ q).take p.length = (e x ++ xs.flatMap e).take p.length := by rw [h]
        rw [List.take_left, List.take_append_of_le_length (by omega)] at h1
        conv => lhs; rw [h1]
        rw [List.length_take, Nat.min_eq_left (by omega)]
        exact List.take_append_drop _ _
      rw [h2 x (by simp) _ _ hp (by intro e; have := congrArg List.length e; simp at this; omega)]
    · have h3 : (p ++ q).take (e x).length = (e x ++ xs.flatMap e).take (e x).length := by rw [h]
      rw [List.take_left, List.take_append_of_le_length (by omega)] at h3
      have hp : p = e x ++ p.drop (e x).length := by
        conv => lhs; rw [← List.take_append_drop (e x).length p, h3]
      have h4 := h
      rw [hp, List.append_assoc] at h4
      have h5 := List.append_cancel_left h4
      have h6 := h1 x (by simp) (p.drop (e x).length)
      rw [← hp] at h6
      rw [h6]
      simp only []
      rw [ih (fun y hy => h1 y (by simp [hy])) (fun y hy => h2 y (by simp [hy])) h5 hq]

theorem flat_len {least : Nat} {xs : List α} (h : ∀ x ∈ xs, least ≤ (e x).length) : xs.length * least ≤ (xs.flatMap e).length := by
  induction xs with
  | nil => simp
  | cons x xs ih =>
    have h1 := ih (fun y hy => h y (by simp [hy]))
    have h2 := h x (by simp)
    simp only [List.length_cons, List.flatMap_cons, List.length_append, Nat.add_mul]
    omega

theorem gElems_enc {least : Nat} (hl : 0 < least) {xs : List α} (hn : (xs.length : Int) ≤ 9223372036854775807) (hle : ∀ x ∈ xs, least ≤ (e x).length)
    (h : ∀ x ∈ xs, ∀ t, g (e x ++ t) = .ok x (e x).length) (t : List UInt8) : gElems least g (encL e xs ++ t) = .ok xs (encL e xs).length := by
  unfold gElems encL
  rw [List.append_assoc, gLen_enc hn hl (by have := flat_len hle; rw [List.length_append]; omega)]
  simp only [List.drop_left]
  rw [gMany_enc h]
  simp

theorem gElems_ok {least : Nat} (hl : 0 < least) (h : ∀ l x u, g l = .ok x u → ∃ t, l = e x ++ t ∧ u = (e x).length) {l : List UInt8} {xs : List α} {u : Nat} (hg : gElems least g l = .ok xs u) :
    (xs.length : Int) ≤ 9223372036854775807 ∧ ∃ t, l = encL e xs ++ t ∧ u = (encL e xs).length := by
  unfold gElems at hg
  split at hg
  · rename_i n v hv
    split at hg
    · rename_i ys v2 hy
      injection hg with h1 h2
      subst h1 h2
      obtain ⟨hr, t, e1, e2, _⟩ := gLen_ok hv hl
      rw [e1, e2, List.drop_left] at hy
      obtain ⟨hn, t2, e3, e4⟩ := gMany_ok h _ _ _ _ hy
      refine ⟨by rw [hn]; exact hr, t2, ?_, ?_⟩
      · unfold encL; rw [hn, e1, e3]; simp
      · unfold encL; rw [hn, e2, e4]; simp
    · cases hg
    · cases hg
  · cases hg
  · cases hg

theorem gElems_more {least : Nat} (hl : 0 < least) {xs : List α} (hn : (xs.length : Int) ≤ 9223372036854775807) (hle : ∀ x ∈ xs, least ≤ (e x).length)
    (h1 : ∀ x ∈ xs, ∀ t, g (e x ++ t) = .ok x (e x).length) (h2 : ∀ x ∈ xs, ∀ p q, p ++ q = e x → q ≠ [] → g p = .more)
    {p q : List UInt8} (h : p ++ q = encL e xs) (hq : q ≠ []) : gElems least g p = .more := by
  unfold gElems
  rcases gLen_more hn hl (flat_len hle) h with e1 | ⟨r, e1, e2, hr⟩
  · rw [e1]
  · rw [e2]
    simp only []
    rw [e1, List.drop_left, gMany_more h1 h2 hr hq]
end

end Go.Proofs.YtpbbafikjpjejaaDoor.WM
