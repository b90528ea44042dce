/- Texts joined. -/
import Derived.WalkKit
import Derived.WalkSpells
import Derived.Lib.Hide
import Derived.Laws.OwnMore
import Derived.Deep.AppendLies
import Derived.Deep.Draws
import Derived.Laws.Rows
import Derived.Maps.AppendAt
import Derived.RegionTactic
import Derived.OwnWalk
import Derived.Laws.BitsAllLaws
import Derived.Lib.AppendStr
import Derived.Deep.MidRow
import Derived.Deep.WholeRow
import Derived.Laws.CopyRow
import Derived.Laws.IdiomStrings
import Derived.Deep.RegionWith
import Derived.StillTailTactics
import Derived.Deep.QuietTactic
import Derived.BigQuiet
set_option linter.unusedVariables false
namespace Go.Proofs.YtlffmfdjifgfgaaDoor.WM

def digs (m : Nat) : List UInt8 := if _h : m = 0 then [] else digs (m / 256) ++ [UInt8.ofNat (m % 256)]
  decreasing_by omega

def val (l : List UInt8) : Nat := l.foldl (fun m d => m * 256 + d.toNat) 0

theorem digs_zero : digs 0 = [] := by rw [digs]; simp
theorem digs_pos {m : Nat} (h : 0 < m) : digs m = digs (m / 256) ++ [UInt8.ofNat (m % 256)] := by
  rw [digs]; simp [show m ≠ 0 by omega]

theorem val_snoc (l : List UInt8) (c : UInt8) : val (l ++ [c]) = val l * 256 + c.toNat := by
  simp [val]

theorem val_digs (m : Nat) : val (digs m) = m := by
  induction m using Nat.strongRecOn with
  | ind m ih =>
    by_cases h : m = 0
    · subst h; rw [digs_zero]; rfl
    · rw [digs_pos (by omega), val_snoc, ih _ (by omega)]
      have : (UInt8.ofNat (m % 256)).toNat = m % 256 := by simp
      omega

theorem len_digs_le (k m : Nat) (h : m < 256 ^ k) : (digs m).length ≤ k := by
  induction k generalizing m with
  | zero => have : m = 0 := by simpa using h
            subst this; rw [digs_zero]; simp
  | succ k ih =>
    by_cases h0 : m = 0
    · subst h0; rw [digs_zero]; simp
    · rw [digs_pos (by omega)]
      have := ih (m / 256) (by rw [Nat.pow_succ] at h; omega)
      simp; omega

theorem head_digs (m : Nat) (h : 0 < m) : ∃ c t, digs m = c :: t ∧ c ≠ 0 := by
  induction m using Nat.strongRecOn with
  | ind m ih =>
    rw [digs_pos h]
    by_cases h1 : m / 256 = 0
    · rw [h1, digs_zero]
      refine ⟨_, _, rfl, ?_⟩
      intro h2
      have := congrArg UInt8.toNat h2
      simp at this
      omega
    · obtain ⟨c, t, e, hc⟩ := ih (m / 256) (by omega) (by omega)
      rw [e]
      exact ⟨c, _, rfl, hc⟩

theorem foldl_ge (l : List UInt8) (a : Nat) : a * 256 ^ l.length ≤ l.foldl (fun m d => m * 256 + d.toNat) a := by
  induction l generalizing a with
  | nil => simp
  | cons c t ih =>
    simp only [List.length_cons, List.foldl_cons, Nat.pow_succ]
    have h1 := ih (a * 256 + c.toNat)
    have h2 : a * 256 * 256 ^ t.length ≤ (a * 256 + c.toNat) * 256 ^ t.length := Nat.mul_le_mul_right _ (by omega)
    have h3 : a * (256 ^ t.length * 256) = a * 256 * 256 ^ t.length := by rw [Nat.mul_comm (256 ^ t.length) 256, Nat.mul_assoc]
    omega

theorem val_lt (l : List UInt8) : val l < 256 ^ l.length := by
  have : ∀ (l : List UInt8) (a : Nat), l.foldl (fun m d => m * 256 + d.toNat) a < (a + 1) * 256 ^ l.length := by
    intro l
    induction l with
    | nil => intro a; simp
    | cons c t ih =>
      intro a
      simp only [List.length_cons, List.foldl_cons, Nat.pow_succ]
      have h1 := ih (a * 256 + c.toNat)
      have hc : c.toNat < 256 := c.toNat_lt
      have h2 : (a * 256 + c.toNat + 1) * 256 ^ t.length ≤ ((a + 1) * 256) * 256 ^ t.length := Nat.mul_le_mul_right _ (by omega)
      have h3 : (a + 1) * (256 ^ t.length * 256) = (a + 1) * 256 * 256 ^ t.length := by rw [Nat.mul_comm (256 ^ t.length) 256, Nat.mul_assoc]
      omega
  simpa [val] using this l 0

theorem digs_val (l : List UInt8) (h : ∀ c, l.head? = some c → c ≠ 0) : digs (val l) = l := by
  induction hn : l.length generalizing l with
  | zero => have : l = [] := List.eq_nil_of_length_eq_zero hn
            subst this; exact digs_zero
  | succ n ih =>
    obtain ⟨t, c, rfl⟩ : ∃ t c, l = t ++ [c] := ⟨l.dropLast, l.getLast (by intro e; subst e; simp at hn), (List.dropLast_concat_getLast _).symm⟩
    have hpos : 0 < val (t ++ [c]) := by
      rw [val_snoc]
      cases t with
      | nil => have := h c rfl
               have : c.toNat ≠ 0 := fun e => this (UInt8.toNat_inj.1 (by simpa using e))
               omega
      | cons d t =>
        have hd : d ≠ 0 := h d rfl
        have : d.toNat ≠ 0 := fun e => hd (UInt8.toNat_inj.1 (by simpa using e))
        have h1 : d.toNat * 256 ^ t.length ≤ val (d :: t) := by
          have := foldl_ge t d.toNat
          simpa [val] using this
        have h2 : 1 ≤ 256 ^ t.length := Nat.one_le_pow _ _ (by omega)
        have h3 : 1 * 1 ≤ d.toNat * 256 ^ t.length := Nat.mul_le_mul (by omega) h2
        omega
    rw [digs_pos hpos, val_snoc]
    have hc : c.toNat < 256 := c.toNat_lt
    rw [show (val t * 256 + c.toNat) / 256 = val t by omega, show (val t * 256 + c.toNat) % 256 = c.toNat by omega]
    rw [ih t (fun d hd => h d (by cases t with | nil => simp at hd | cons x y => simpa using hd)) (by simp at hn; omega)]
    simp

def flip (c : UInt8) : UInt8 := UInt8.ofNat (255 - c.toNat)
theorem flip_toNat (c : UInt8) : (flip c).toNat = 255 - c.toNat := by
  unfold flip; have := c.toNat_lt; rw [UInt8.toNat_ofNat']; omega
theorem flip_flip (c : UInt8) : flip (flip c) = c := by
  apply UInt8.toNat_inj.1
  rw [flip_toNat, flip_toNat]; have := c.toNat_lt; omega
theorem map_flip_flip (l : List UInt8) : (l.map flip).map flip = l := by
  rw [List.map_map]; conv => rhs; rw [← List.map_id l]
  apply List.map_congr_left; intro c _; simp [flip_flip]

def enc (n : Int) : List UInt8 :=
  if 0 ≤ n then UInt8.ofNat (128 + (digs n.toNat).length) :: digs n.toNat
  else UInt8.ofNat (127 - (digs (-1 - n).toNat).length) :: (digs (-1 - n).toNat).map flip

inductive Dec (α : Type) where
  | more : Dec α
  | form : Dec α
  | ok (x : α) (used : Nat) : Dec α

def kOf (c : UInt8) : Nat := if 128 ≤ c.toNat then c.toNat - 128 else 127 - c.toNat
def unm (c : UInt8) (l : List UInt8) : List UInt8 := if 128 ≤ c.toNat then l else l.map flip
def sgn (c : UInt8) (m : Nat) : Int := if 128 ≤ c.toNat then (m : Int) else -1 - (m : Int)

def gInt : List UInt8 → Dec Int
  | [] => .more
  | c :: t =>
    if 8 < kOf c then .form
    else if t.length < kOf c then .more
    else if (unm c (t.take (kOf c))).head? = some 0 then .form
    else if 2 ^ 63 ≤ val (unm c (t.take (kOf c))) then .form
    else .ok (sgn c (val (unm c (t.take (kOf c))))) (kOf c + 1)

def inRange (n : Int) : Prop := -9223372036854775808 ≤ n ∧ n ≤ 9223372036854775807

theorem dig8 (m : Nat) (h : m < 2 ^ 63) : (digs m).length ≤ 8 := len_digs_le 8 m (by omega)

theorem enc_pos {n : Int} (h : 0 ≤ n) : enc n = UInt8.ofNat (128 + (digs n.toNat).length) :: digs n.toNat := by rw [enc, if_pos h]
theorem enc_neg {n : Int} (h : n < 0) : enc n = UInt8.ofNat (127 - (digs (-1 - n).toNat).length) :: (digs (-1 - n).toNat).map flip := by rw [enc, if_neg (by omega)]

theorem enc_len {n : Int} (hr : inRange n) : 1 ≤ (enc n).length ∧ (enc n).length ≤ 9 := by
  obtain ⟨h1, h2⟩ := hr
  by_cases h : 0 ≤ n
  · rw [enc_pos h]; have := dig8 n.toNat (by omega); simp; omega
  · rw [enc_neg (by omega)]; have := dig8 (-1 - n).toNat (by omega); simp; omega

theorem head_digs_ne (m : Nat) : (digs m).head? ≠ some 0 := by
  by_cases h : m = 0
  · subst h; rw [digs_zero]; simp
  · obtain ⟨c, t, e, hc⟩ := head_digs m (by omega)
    rw [e]; simpa using hc

theorem gInt_enc {n : Int} (hr : inRange n) (t : List UInt8) : gInt (enc n ++ t) = .ok n (enc n).length := by
  obtain ⟨h1, h2⟩ := hr
  by_cases h : 0 ≤ n
  · rw [enc_pos h]
    have h8 := dig8 n.toNat (by omega)
    have hc : (UInt8.ofNat (128 + (digs n.toNat).length)).toNat = 128 + (digs n.toNat).length := by rw [UInt8.toNat_ofNat']; omega
    have hk : kOf (UInt8.ofNat (128 + (digs n.toNat).length)) = (digs n.toNat).length := by unfold kOf; rw [hc, if_pos (by omega)]; omega
    have hu : ∀ l, unm (UInt8.ofNat (128 + (digs n.toNat).length)) l = l := fun l => by unfold unm; rw [hc, if_pos (by omega)]
    simp only [List.cons_append, gInt, hk, hu]
    rw [if_neg (by omega), if_neg (by simp), List.take_left, if_neg (head_digs_ne _), val_digs, if_neg (by omega)]
    unfold sgn; rw [hc, if_pos (by omega)]
    simp; omega
  · rw [enc_neg (by omega)]
    have h8 := dig8 (-1 - n).toNat (by omega)
    have hc : (UInt8.ofNat (127 - (digs (-1 - n).toNat).length)).toNat = 127 - (digs (-1 - n).toNat).length := by rw [UInt8.toNat_ofNat']; omega
    have hk : kOf (UInt8.ofNat (127 - (digs (-1 - n).toNat).length)) = (digs (-1 - n).toNat).length := by unfold kOf; rw [hc, if_neg (by omega)]; omega
    have hu : ∀ l, unm (UInt8.ofNat (127 - (digs (-1 - n).toNat).length)) l = l.map flip := fun l => by unfold unm; rw [hc, if_neg (by omega)]
    simp only [List.cons_append, gInt, hk, hu]
    rw [if_neg (by omega), if_neg (by simp), List.take_left' (by simp), map_flip_flip, if_neg (head_digs_ne _), val_digs, if_neg (by omega)]
    unfold sgn; rw [hc, if_neg (by omega)]
    simp; omega

theorem gInt_ok {l : List UInt8} {n : Int} {u : Nat} (h : gInt l = .ok n u) : inRange n ∧ ∃ t, l = enc n ++ t ∧ u = (enc n).length := by
  match l, h with
  | c :: t, h =>
    simp only [gInt] at h
    split at h
    · cases h
    split at h
    · cases h
    split at h
    · cases h
    split at h
    · cases h
    rename_i h1 h2 h3 h4
    injection h with hn hu
    have hlen : (t.take (kOf c)).length = kOf c := by simp; omega
    have hc := c.toNat_lt
    by_cases hs : 128 ≤ c.toNat
    · simp only [unm, sgn, hs, if_true] at h3 h4 hn
      have hd := digs_val (t.take (kOf c)) (fun d hd e => h3 (by rw [hd, e]))
      have hn0 : n.toNat = val (t.take (kOf c)) := by omega
      have hk : kOf c = c.toNat - 128 := by unfold kOf; rw [if_pos hs]
      have he : enc n = c :: t.take (kOf c) := by
        have hcc : UInt8.ofNat (128 + (c.toNat - 128)) = c := by
          apply UInt8.toNat_inj.1
          rw [UInt8.toNat_ofNat']; omega
        rw [enc_pos (by omega), hn0, hd, hlen, hk, hcc]
      refine ⟨⟨by omega, by omega⟩, t.drop (kOf c), ?_, ?_⟩
      · rw [he]; simp
      · rw [he]; simp; omega
    · simp only [unm, sgn, hs, if_false] at h3 h4 hn
      have hd := digs_val ((t.take (kOf c)).map flip) (fun d hd e => h3 (by rw [hd, e]))
      have hn0 : (-1 - n).toNat = val ((t.take (kOf c)).map flip) := by omega
      have hk : kOf c = 127 - c.toNat := by unfold kOf; rw [if_neg hs]
      have he : enc n = c :: t.take (kOf c) := by
        have hcc : UInt8.ofNat (127 - (127 - c.toNat)) = c := by
          apply UInt8.toNat_inj.1
          rw [UInt8.toNat_ofNat']; omega
        rw [enc_neg (by omega), hn0, hd, map_flip_flip, List.length_map, hlen, hk, hcc]
      refine ⟨⟨by omega, by omega⟩, t.drop (kOf c), ?_, ?_⟩
      · rw [he]; simp
      · rw [he]; simp; omega

theorem gInt_more {n : Int} (hr : inRange n) {p q : List UInt8} (h : p ++ q = enc n) (hq : q ≠ []) : gInt p = .more := by
  match p, h with
  | [], _ => rfl
  | c :: t, h =>
    have h0 := gInt_enc hr []
    have hq' : 0 < q.length := by cases q; exact absurd rfl hq; simp
    rw [List.append_nil, ← h, List.cons_append] at h0
    simp only [gInt] at h0 ⊢
    split at h0
    · cases h0
    rename_i h1
    rw [if_neg h1]
    split at h0
    · cases h0
    split at h0
    · cases h0
    split at h0
    · cases h0
    injection h0 with _ hu
    rw [if_pos]
    simp at hu
    omega

def gLen (least : Nat) (l : List UInt8) : Dec Nat :=
  match gInt l with
  | .ok n u => if n < 0 then .form else if (((l.length - u) / least : Nat) : Int) < n then .more else .ok n.toNat u
  | .more => .more
  | .form => .form

def gBytes (l : List UInt8) : Dec (List UInt8) :=
  match gLen 1 l with
  | .ok n u => .ok ((l.drop u).take n) (u + n)
  | .more => .more
  | .form => .form

def gMany {α : Type} (g : List UInt8 → Dec α) : Nat → List UInt8 → Dec (List α)
  | 0, _ => .ok [] 0
  | n + 1, l => match g l with
    | .ok x u => (match gMany g n (l.drop u) with
      | .ok xs v => .ok (x :: xs) (u + v)
      | .more => .more
      | .form => .form)
    | .more => .more
    | .form => .form

def gElems {α : Type} (least : Nat) (g : List UInt8 → Dec α) (l : List UInt8) : Dec (List α) :=
  match gLen least l with
  | .ok n u => (match gMany g n (l.drop u) with
    | .ok xs v => .ok xs (u + v)
    | .more => .more
    | .form => .form)
  | .more => .more
  | .form => .form

def gDig (l : List UInt8) : Dec (List UInt8) := .ok (l.take 16) 16

def encB (s : List UInt8) : List UInt8 := enc s.length ++ s
def encL {α : Type} (e : α → List UInt8) (l : List α) : List UInt8 := enc l.length ++ l.flatMap e

theorem gLen_enc {least m : Nat} (hm : (m : Int) ≤ 9223372036854775807) (hl : 0 < least) {t : List UInt8} (ht : m * least ≤ t.length) : gLen least (enc m ++ t) = .ok m (enc m).length := by
  unfold gLen
  rw [gInt_enc ⟨by omega, hm⟩]
  simp only []
  have h1 : m ≤ t.length / least := (Nat.le_div_iff_mul_le hl).2 ht
  rw [if_neg (by omega), if_neg]
  · simp
  · simp; omega

theorem gLen_ok {least m u : Nat} {l : List UInt8} (h : gLen least l = .ok m u) (hl : 0 < least) : (m : Int) ≤ 9223372036854775807 ∧ ∃ t, l = enc m ++ t ∧ u = (enc m).length ∧ m * least ≤ t.length := by
  unfold gLen at h
  split at h
  · rename_i n v hg
    split at h
    · cases h
    split at h
    · cases h
    injection h with h1 h2
    subst h2
    obtain ⟨hr, t, e, hu⟩ := gInt_ok hg
    have hn : (m : Int) = n := by omega
    rw [← hn] at e hu hr
    refine ⟨hr.2, t, e, hu, ?_⟩
    rename_i hlt
    have : m ≤ (l.length - v) / least := by omega
    have h3 := (Nat.le_div_iff_mul_le hl).1 this
    rw [e, hu, List.length_append] at h3
    omega
  · cases h
  · cases h

theorem gBytes_enc {s : List UInt8} (hs : (s.length : Int) ≤ 9223372036854775807) (t : List UInt8) : gBytes (encB s ++ t) = .ok s (encB s).length := by
  unfold gBytes encB
  rw [List.append_assoc, gLen_enc hs (by omega) (by simp)]
  simp

theorem gBytes_ok {l s : List UInt8} {u : Nat} (h : gBytes l = .ok s u) : (s.length : Int) ≤ 9223372036854775807 ∧ ∃ t, l = encB s ++ t ∧ u = (encB s).length := by
  unfold gBytes at h
  split at h
  · rename_i n v hg
    injection h with h1 h2
    obtain ⟨hr, t, e, hu, ht⟩ := gLen_ok hg (by omega)
    rw [e, hu, List.drop_left] at h1
    have hl : s.length = n := by rw [← h1, List.length_take]; omega
    refine ⟨by rw [hl]; exact hr, t.drop n, ?_, ?_⟩
    · unfold encB; rw [hl, List.append_assoc, ← h1, List.take_append_drop]; exact e
    · unfold encB; rw [hl, ← h2, hu, List.length_append, hl]
  · cases h
  · cases h

theorem gLen_more {least m : Nat} (hm : (m : Int) ≤ 9223372036854775807) (hl : 0 < least) {body p q : List UInt8} (_hb : m * least ≤ body.length) (h : p ++ q = enc m ++ body) :
    gLen least p = .more ∨ ∃ r, p = enc m ++ r ∧ gLen least p = .ok m (enc m).length ∧ r ++ q = body := by
  by_cases hlt : p.length < (enc m).length
  · left
    have hp : p ++ (enc m).drop p.length = enc m := by
      have h1 : (p ++ q).take p.length = (enc m ++ body).take p.length := by rw [h]
      rw [List.take_left, List.take_append_of_le_length (by omega)] at h1
      conv => lhs; rw [h1]
      rw [List.length_take, Nat.min_eq_left (by omega)]
      exact List.take_append_drop _ _
    unfold gLen
    rw [gInt_more ⟨by omega, hm⟩ hp (by intro e; have := congrArg List.length e; simp at this; omega)]
  · have h1 : (p ++ q).take (enc m).length = (enc m ++ body).take (enc m).length := by rw [h]
    rw [List.take_left, List.take_append_of_le_length (by omega)] at h1
    have hp : p = enc m ++ p.drop (enc m).length := by
      conv => lhs; rw [← List.take_append_drop (enc m).length p, h1]
    by_cases hd : m * least ≤ (p.drop (enc m).length).length
    · right
      refine ⟨p.drop (enc m).length, hp, ?_, ?_⟩
      · have := gLen_enc hm hl hd
        rw [← hp] at this; exact this
      · rw [hp, List.append_assoc] at h
        exact List.append_cancel_left h
    · left
      unfold gLen
      have := gInt_enc (n := (m : Int)) ⟨by omega, hm⟩ (p.drop (enc m).length)
      rw [← hp] at this
      rw [this]
      simp only []
      rw [if_neg (by omega), if_pos]
      have h3 : ¬ m ≤ (p.length - (enc m).length) / least := by
        rw [Nat.le_div_iff_mul_le hl]; simpa using hd
      omega

theorem gBytes_more {s p q : List UInt8} (hs : (s.length : Int) ≤ 9223372036854775807) (h : p ++ q = encB s) (hq : q ≠ []) : gBytes p = .more := by
  unfold gBytes
  rcases gLen_more (least := 1) hs (by omega) (by simp) h with e | ⟨r, e, e2, hr⟩
  · rw [e]
  · exfalso
    obtain ⟨_, t, ht, _, hlen⟩ := gLen_ok e2 (by omega)
    have h1 : r = t := List.append_cancel_left (e.symm.trans ht)
    have h2 := congrArg List.length hr
    have h3 : 0 < q.length := by cases q; exact absurd rfl hq; simp
    rw [List.length_append, h1] at h2
    omega

section
variable {α : Type} {g : List UInt8 → Dec α} {e : α → List UInt8}

theorem gMany_enc {xs : List α} (h : ∀ x ∈ xs, ∀ t, g (e x ++ t) = .ok x (e x).length) (t : List UInt8) : gMany g xs.length (xs.flatMap e ++ t) = .ok xs (xs.flatMap e).length := by
  induction xs with
  | nil => simp [gMany]
  | cons x xs ih =>
    simp only [List.length_cons, gMany, List.flatMap_cons, List.append_assoc]
    rw [h x (by simp)]
    simp only [List.drop_left]
    rw [ih (fun y hy => h y (by simp [hy]))]
    simp

theorem gMany_ok (h : ∀ l x u, g l = .ok x u → ∃ t, l = e x ++ t ∧ u = (e x).length) : ∀ (n : Nat) (l : List UInt8) (xs : List α) (u : Nat), gMany g n l = .ok xs u → xs.length = n ∧ ∃ t, l = xs.flatMap e ++ t ∧ u = (xs.flatMap e).length := by
  intro n
  induction n with
  | zero => intro l xs u hg; simp [gMany] at hg; obtain ⟨rfl, rfl⟩ := hg; simp
  | succ n ih =>
    intro l xs u hg
    simp only [gMany] at hg
    split at hg
    · rename_i x v hx
      split at hg
      · rename_i ys v2 hy
        injection hg with h1 h2
        subst h1 h2
        obtain ⟨t, e1, e2⟩ := h _ _ _ hx
        rw [e1, e2, List.drop_left] at hy
        obtain ⟨hl, t2, e3, e4⟩ := ih _ _ _ hy
        refine ⟨by simp [hl], t2, ?_, ?_⟩
        · rw [e1, e3]; simp
        · simp [e2, e4]
      · cases hg
      · cases hg
    · cases hg
    · cases hg

theorem gMany_more {xs : List α} (h1 : ∀ x ∈ xs, ∀ t, g (e x ++ t) = .ok x (e x).length) (h2 : ∀ x ∈ xs, ∀ p q, p ++ q = e x → q ≠ [] → g p = .more) :
    ∀ {p q : List UInt8}, p ++ q = xs.flatMap e → q ≠ [] → gMany g xs.length p = .more := by
  induction xs with
  | nil => intro p q h hq; simp at h; exact absurd h.2 hq
  | cons x xs ih =>
    intro p q h hq
    simp only [List.length_cons, gMany]
    rw [List.flatMap_cons] at h
    by_cases hlt : p.length < (e x).length
    · have hp : p ++ (e x).drop p.length = e x := by
        have h1 : (p ++ q).take p.length = (e x ++ xs.flatMap e).take p.length := by rw [h]
        rw [List.take_left, List.take_append_of_le_length (by omega)] at h1
        conv => lhs; rw [h1]
        rw [List.length_take, Nat.min_eq_left (by omega)]
        exact List.take_append_drop _ _
      rw [h2 x (by simp) _ _ hp (by intro e; have := congrArg List.length e; simp at this; omega)]
    · have h3 : (p ++ q).take (e x).length = (e x ++ xs.flatMap e).take (e x).length := by rw [h]
      rw [List.take_left, List.take_append_of_le_length (by omega)] at h3
      have hp : p = e x ++ p.drop (e x).length := by
        conv => lhs; rw [← List.take_append_drop (e x).length p, h3]
      have h4 := h
      rw [hp, List.append_assoc] at h4
      have h5 := List.append_cancel_left h4
      have h6 := h1 x (by simp) (p.drop (e x).length)
      rw [← hp] at h6
      rw [h6]
      simp only []
      rw [ih (fun y hy => h1 y (by simp [hy])) (fun y hy => h2 y (by simp [hy])) h5 hq]

theorem flat_len {least : Nat} {xs : List α} (h : ∀ x ∈ xs, least ≤ (e x).length) : xs.length * least ≤ (xs.flatMap e).length := by
  induction xs with
  | nil => simp
  | cons x xs ih =>
    have h1 := ih (fun y hy => h y (by simp [hy]))
    have h2 := h x (by simp)
    simp only [List.length_cons, List.flatMap_cons, List.length_append, Nat.add_mul]
    omega

theorem gElems_enc {least : Nat} (hl : 0 < least) {xs : List α} (hn : (xs.length : Int) ≤ 9223372036854775807) (hle : ∀ x ∈ xs, least ≤ (e x).length)
    (h : ∀ x ∈ xs, ∀ t, g (e x ++ t) = .ok x (e x).length) (t : List UInt8) : gElems least g (encL e xs ++ t) = .ok xs (encL e xs).length := by
  unfold gElems encL
  rw [List.append_assoc, gLen_enc hn hl (by have := flat_len hle; rw [List.length_append]; omega)]
  simp only [List.drop_left]
  rw [gMany_enc h]
  simp

theorem gElems_ok {least : Nat} (hl : 0 < least) (h : ∀ l x u, g l = .ok x u → ∃ t, l = e x ++ t ∧ u = (e x).length) {l : List UInt8} {xs : List α} {u : Nat} (hg : gElems least g l = .ok xs u) :
    (xs.length : Int) ≤ 9223372036854775807 ∧ ∃ t, l = encL e xs ++ t ∧ u = (encL e xs).length := by
  unfold gElems at hg
  split at hg
  · rename_i n v hv
    split at hg
    · rename_i ys v2 hy
      injection hg with h1 h2
      subst h1 h2
      obtain ⟨hr, t, e1, e2, _⟩ := gLen_ok hv hl
      rw [e1, e2, List.drop_left] at hy
      obtain ⟨hn, t2, e3, e4⟩ := gMany_ok h _ _ _ _ hy
      refine ⟨by rw [hn]; exact hr, t2, ?_, ?_⟩
      · unfold encL; rw [hn, e1, e3]; simp
      · unfold encL; rw [hn, e2, e4]; simp
    · cases hg
    · cases hg
  · cases hg
  · cases hg

theorem gElems_more {least : Nat} (hl : 0 < least) {xs : List α} (hn : (xs.length : Int) ≤ 9223372036854775807) (hle : ∀ x ∈ xs, least ≤ (e x).length)
    (h1 : ∀ x ∈ xs, ∀ t, g (e x ++ t) = .ok x (e x).length) (h2 : ∀ x ∈ xs, ∀ p q, p ++ q = e x → q ≠ [] → g p = .more)
    {p q : List UInt8} (h : p ++ q = encL e xs) (hq : q ≠ []) : gElems least g p = .more := by
  unfold gElems
  rcases gLen_more hn hl (flat_len hle) h with e1 | ⟨r, e1, e2, hr⟩
  · rw [e1]
  · rw [e2]
    simp only []
    rw [e1, List.drop_left, gMany_more h1 h2 hr hq]
end

end Go.Proofs.YtlffmfdjifgfgaaDoor.WM

namespace Go.Proofs.YtlffmfdjifgfgaaDoor
open Go.RowKit WM

theorem block_of_add (a : Addr) (n : Nat) : (a.add n).block = a.block := by unfold Addr.add; split <;> rfl
theorem add_of_add (a : Addr) (i j : Nat) : (a.add i).add j = a.add (i + j) := by
 unfold Addr.add
 by_cases hi : i = 0 <;> by_cases hj : j = 0 <;> simp [hi, hj, Nat.add_assoc]

def Reads (w : World) (B size : Nat) (A : Option Addr) (n : Nat) (xs : List Value) : Prop :=
 xs.length = n * size ∧ (0 < n → ∃ ad, A = some ad ∧ ad.block < B ∧ ∀ j u, xs[j]? = some u → w.cell? (ad.add j) = some u)

section
variable {w w' : World} {B B' size n : Nat} {A : Option Addr} {xs : List Value}
theorem Reads.none_ : Reads w B size A 0 [] := ⟨by simp, fun h => absurd h (by omega)⟩
theorem Reads.at_ {k : Nat} (h : Reads w B 1 A n xs) (hk : k < n) : ∃ ad u, A = some ad ∧ ad.block < B ∧ xs[k]? = some u ∧ w.cell? (ad.add k) = some u := by
 obtain ⟨ad, e, hb, hc⟩ := h.2 (by omega)
 have hl : k < xs.length := by have := h.1; omega
 exact ⟨ad, xs[k], e, hb, List.getElem?_eq_getElem hl, hc k _ (List.getElem?_eq_getElem hl)⟩
theorem Reads.keep (h : Reads w B size A n xs) (hk : ∀ p : Addr, p.block < B → w'.cell? p = w.cell? p) : Reads w' B size A n xs :=
 ⟨h.1, fun hn => by
  obtain ⟨ad, e, hb, hc⟩ := h.2 hn
  exact ⟨ad, e, hb, fun j u hu => (hk _ (by rw [block_of_add]; exact hb)).trans (hc j u hu)⟩⟩
theorem Reads.more (h : Reads w B size A n xs) (hB : B ≤ B') : Reads w B' size A n xs :=
 ⟨h.1, fun hn => by
  obtain ⟨ad, e, hb, hc⟩ := h.2 hn
  exact ⟨ad, e, by omega, hc⟩⟩
theorem Reads.below (h : Reads w B size A n xs) (hb : Below B w w') : Reads w' B size A n xs := h.keep fun _ hp => hb.cell hp
theorem Reads.drew (h : Reads w B size A n xs) : Reads w.drew B size A n xs := h
theorem Reads.drewN (h : Reads w B size A n xs) (k : Nat) : Reads (w.drewN k) B size A n xs := h
theorem Reads.alloc (h : Reads w B size A n xs) (hB : B ≤ w.heap.size) (o : Obj) : Reads (w.alloc o) B size A n xs := h.keep fun p hp => World.cell?_alloc_lt w o p (by omega)
theorem Reads.setCell (h : Reads w B size A n xs) {p : Addr} (hB : B ≤ p.block) (u : Value) : Reads (w.setCell p u) B size A n xs :=
 h.keep fun q hq => World.cell?_setCell_other w p q u (fun e => by subst e; omega)
theorem Reads.grown (h : Reads w B size A n xs) {row : Option Nat} (hg : w.grownBy w' row) (hB : B ≤ w.heap.size) (hr : ∀ g, row = some g → B ≤ g) : Reads w' B size A n xs :=
 h.keep fun p hp => World.cell?_of_block (hg.block p.block (by omega) (fun e => by have := hr _ e.symm; omega))
theorem Reads.cut (h : Reads w B size A n xs) {k cap : Nat} (hk : k ≤ n) (hc : n ≤ cap) :
  Reads w B size (if cap = k then A else A.map (·.add (k * size))) (n - k) (xs.drop (k * size)) := by
 refine ⟨by rw [List.length_drop, h.1, Nat.sub_mul], fun hn => ?_⟩
 obtain ⟨ad, rfl, hb, hcell⟩ := h.2 (by omega)
 rw [if_neg (by omega)]
 refine ⟨ad.add (k * size), rfl, by rw [block_of_add]; exact hb, fun j u hu => ?_⟩
 rw [add_of_add]
 exact hcell _ u (by rw [← hu, List.getElem?_drop])
theorem Reads.of_own {base : Nat} {e : TypeId} {c : Nat} (h : w.ownsRow base e size (.slice A n c) n xs) : Reads w w.heap.size size A n xs := by
 refine ⟨h.1, fun hn => ?_⟩
 obtain ⟨g, cap, hv, _, hlt⟩ := h.form hn
 have hA : A = some ⟨g, 0, none⟩ := by injection hv
 subst hA
 exact ⟨_, rfl, hlt, h.cells (g := g) rfl⟩
end

def Blk (w : World) (g : Nat) (t : TypeId) (cs : Array Value) : Prop := w.heap[g]? = some (.cells cs t (0, 0))

section
variable {w w' : World} {g : Nat} {t : TypeId} {cs : Array Value}
theorem Blk.lt (h : Blk w g t cs) : g < w.heap.size := by
 rcases Nat.lt_or_ge g w.heap.size with hlt | hge
 ·exact hlt
 ·unfold Blk at h; rw [Array.getElem?_eq_none hge] at h; cases h
theorem Blk.cell (h : Blk w g t cs) (i : Nat) : w.cell? ⟨g, i, none⟩ = cs[i]? := cell_of_row w g i cs t (0, 0) h
theorem Blk.frozen (h : Blk w g t cs) (i : Nat) : w.frozen? ⟨g, i, none⟩ = false := by
 unfold Blk at h
 simp [World.frozen?, h]
theorem Blk.new (w : World) (t : TypeId) (cs : Array Value) : Blk (w.alloc (.cells cs t)) w.heap.size t cs := heap_alloc_new w _
theorem Blk.drew (h : Blk w g t cs) : Blk w.drew g t cs := h
theorem Blk.drewN (h : Blk w g t cs) (n : Nat) : Blk (w.drewN n) g t cs := h
theorem Blk.alloc (h : Blk w g t cs) (o : Obj) : Blk (w.alloc o) g t cs := (Below.heap_alloc w o g h.lt).trans h
theorem Blk.set_ (h : Blk w g t cs) (i : Nat) (u : Value) : Blk (w.setCell ⟨g, i, none⟩ u) g t (cs.setIfInBounds i u) := by
 unfold Blk at h ⊢
 simp [World.setCell, Array.getElem?_modify, h]
theorem Blk.far (h : Blk w g t cs) {p : Addr} (hp : g ≠ p.block) (u : Value) : Blk (w.setCell p u) g t cs := (Below.heap_setCell w p u g hp).trans h
theorem Blk.below {B : Nat} (h : Blk w g t cs) (hb : Below B w w') (hg : g < B) : Blk w' g t cs := (hb.block g hg).trans h
theorem Blk.grown {row : Option Nat} (h : Blk w g t cs) (hb : w.grownBy w' row) (hg : some g ≠ row) : Blk w' g t cs := (hb.block g h.lt hg).trans h
theorem Blk.ne_ {g' : Nat} {t' : TypeId} {cs' : Array Value} (h : Blk w g t cs) (h' : Blk w g' t' cs') (hne : t ≠ t') : g ≠ g' := by
 rintro rfl
 unfold Blk at h h'
 rw [h] at h'
 injection h' with h'
 injection h' with _ ht
 exact hne ht
theorem own_blk_ne {base : Nat} {e : TypeId} {size n : Nat} {v : Value} {xs : List Value} (h : w.ownsRow base e size v n xs) (hg : Blk w g t cs) (hne : e ≠ t) : v.ownBlock ≠ some g := by
 rcases h.2 with ⟨rfl, _⟩ | ⟨g', cap, cur, rfl, _, hh, _⟩
 ·simp [Value.ownBlock]
 ·intro he
  have : g' = g := by simpa [Value.ownBlock] using he
  subst this
  exact Blk.ne_ (t := e) hh hg hne rfl
end

section
variable {P : Program} (w : World)

theorem run_append_of_nil (base : Nat) (t ty e : TypeId) (i : TypeInfo) (size : Nat) (ht : P.underlying t = some (.slice e)) (hi : P.info? e = some i)
  (v : Value) (n : Nat) (xs : List Value) (hown : w.ownsRow base e size v n xs) (c : Nat) : (Builtin.append_ #[t, t] ty #[v, .slice none 0 c]).run P w = .ok v w := by
 rcases hown.2 with ⟨rfl, rfl⟩ | ⟨g, cap, cur, rfl, _, _, hnc, _⟩
 ·simp [Builtin.append_, run_underlying ht, sizeOf, typeInfo, hi, Builtin.lenOf, Builtin.firstCells]
 ·simp [Builtin.append_, run_underlying ht, sizeOf, typeInfo, hi, Builtin.lenOf, Builtin.firstCells, hnc, storeCells]

theorem run_append_any (base : Nat) (t ty e : TypeId) (i : TypeInfo) (z : Value) (size bytes : Nat) (ht : P.underlying t = some (.slice e)) (hi : P.info? e = some i) (hz : i.zero = some z)
  (hsize : i.size = size) (hby : i.bytes = bytes) (hzs : z.cells.size = size) (hsz : 0 < size)
  (v : Value) (n : Nat) (xs : List Value) (hown : w.ownsRow base e size v n xs)
  (B : Nat) (A : Option Addr) (m c : Nat) (news : List Value) (hr : Reads w B size A m news) (h1 : ∀ u ∈ news, u.oneCell' = true)
  (h63 : n + m ≤ maxLen) (hbytes : (n + m) * bytes ≤ 140737488355328) (hbase : base ≤ w.heap.size) :
  ∃ v' w', (Builtin.append_ #[t, t] ty #[v, .slice A m c]).run P w = .ok v' w' ∧ w'.ownsRow base e size v' (n + m) (xs ++ news) ∧ w.grownBy w' v.ownBlock ∧
   (v'.ownBlock = v.ownBlock ∨ v'.ownBlock = some w.heap.size) := by
 rcases A with _ | ad
 ·have hm : m = 0 := by
   rcases Nat.eq_zero_or_pos m with h0 | h0
   ·exact h0
   ·obtain ⟨ad, h, _⟩ := hr.2 h0
    cases h
  subst hm
  have hn : news = [] := List.eq_nil_of_length_eq_zero (by simpa using hr.1)
  subst hn
  exact ⟨v, w, run_append_of_nil w base t ty e i size ht hi v n xs hown c, by simpa using hown, World.grownBy.refl w _, .inl rfl⟩
 ·have hcells : ∀ j u, news[j]? = some u → w.cell? (ad.add j) = some u := by
   intro j u hu
   rcases Nat.eq_zero_or_pos m with h0 | h0
   ·subst h0
    have hn : news = [] := List.eq_nil_of_length_eq_zero (by simpa using hr.1)
    subst hn
    simp at hu
   ·obtain ⟨ad', h, _, hc⟩ := hr.2 h0
    injection h with h
    subst h
    exact hc j u hu
  obtain ⟨v', w', hrun, h2, h3, _, h5⟩ := run_append_own_at (P := P) w base t ty e i z size bytes ht hi hz hsize hby hzs hsz v n xs hown ad m c news hr.1 hcells h1 h63 hbytes hbase
  exact ⟨v', w', hrun, h2, h3, h5⟩

theorem wp_append_any {o : Oper} {a : Act} {K : Act → World → Prop} {Q : Exit → Act → World → Prop} (s x : Operand) (t : TypeId)
  (ho : o.op = .call { callee := .builtin .append, args := #[s, x], argTypes := #[t, t] })
  (base : Nat) (e : TypeId) (i : TypeInfo) (z : Value) (size bytes : Nat) (ht : P.underlying t = some (.slice e)) (hi : P.info? e = some i) (hz : i.zero = some z)
  (hsize : i.size = size) (hby : i.bytes = bytes) (hzs : z.cells.size = size) (hsz : 0 < size)
  (v : Value) (n : Nat) (xs : List Value) (hs : a.eval s = v) (hown : w.ownsRow base e size v n xs)
  (B : Nat) (A : Option Addr) (m c : Nat) (news : List Value) (hx : a.eval x = .slice A m c) (hr : Reads w B size A m news) (h1 : ∀ u ∈ news, u.oneCell' = true)
  (h63 : n + m ≤ maxLen) (hbytes : (n + m) * bytes ≤ 140737488355328) (hbase : base ≤ w.heap.size)
  (h : ∀ v' w', w'.ownsRow base e size v' (n + m) (xs ++ news) → w.grownBy w' v.ownBlock → (v'.ownBlock = v.ownBlock ∨ v'.ownBlock = some w.heap.size) → K (a.put o.dst v') w') : o.wp P a w K Q := by
 obtain ⟨v', w', hrun, h2, h3, h4⟩ := run_append_any (P := P) w base t o.type e i z size bytes ht hi hz hsize hby hzs hsz v n xs hown B A m c news hr h1 h63 hbytes hbase
 unfold Oper.wp execOp
 simp only [ho, resolve, invoke, builtin, Sem.run_bind, Sem.run_pure, Result.andThen_ok, List.map_toArray, List.map_cons, List.map_nil, hs, hx, hrun]
 exact h v' w' h2 h3 h4

theorem wpList_append_any {ops : Array Oper} {rest : List Oper} {o : Oper} {a : Act} {Q : Exit → Act → World → Prop} (hgd : o.guard = none) (s x : Operand) (t : TypeId)
  (ho : o.op = .call { callee := .builtin .append, args := #[s, x], argTypes := #[t, t] })
  (base : Nat) (e : TypeId) (i : TypeInfo) (z : Value) (size bytes : Nat) (ht : P.underlying t = some (.slice e)) (hi : P.info? e = some i) (hz : i.zero = some z)
  (hsize : i.size = size) (hby : i.bytes = bytes) (hzs : z.cells.size = size) (hsz : 0 < size)
  (v : Value) (n : Nat) (xs : List Value) (hs : a.eval s = v) (hown : w.ownsRow base e size v n xs)
  (B : Nat) (A : Option Addr) (m c : Nat) (news : List Value) (hx : a.eval x = .slice A m c) (hr : Reads w B size A m news) (h1 : ∀ u ∈ news, u.oneCell' = true)
  (h63 : n + m ≤ maxLen) (hbytes : (n + m) * bytes ≤ 140737488355328) (hbase : base ≤ w.heap.size)
  (h : ∀ v' w', w'.ownsRow base e size v' (n + m) (xs ++ news) → w.grownBy w' v.ownBlock → (v'.ownBlock = v.ownBlock ∨ v'.ownBlock = some w.heap.size) → wpList P ops Q rest (a.put o.dst v') w') : wpList P ops Q (o :: rest) a w :=
 wpList_plain hgd fun _ hK => wp_append_any w s x t ho base e i z size bytes ht hi hz hsize hby hzs hsz v n xs hs hown B A m c news hx hr h1 h63 hbytes hbase fun v' w' h2 h3 h4 => hK _ _ (h v' w' h2 h3 h4)

theorem step_append_any {ops : Array Oper} {o : Oper} {a : Act} {K : Act → World → Prop} {Q : Exit → Act → World → Prop} {E : Prop} (hgd : o.guard = none) (s x : Operand) (t : TypeId)
  (ho : o.op = .call { callee := .builtin .append, args := #[s, x], argTypes := #[t, t] })
  (base : Nat) (e : TypeId) (i : TypeInfo) (z : Value) (size bytes : Nat) (ht : P.underlying t = some (.slice e)) (hi : P.info? e = some i) (hz : i.zero = some z)
  (hsize : i.size = size) (hby : i.bytes = bytes) (hzs : z.cells.size = size) (hsz : 0 < size)
  (v : Value) (n : Nat) (xs : List Value) (hs : a.eval s = v) (hown : w.ownsRow base e size v n xs)
  (B : Nat) (A : Option Addr) (m c : Nat) (news : List Value) (hx : a.eval x = .slice A m c) (hr : Reads w B size A m news) (h1 : ∀ u ∈ news, u.oneCell' = true)
  (h63 : n + m ≤ maxLen) (hbytes : (n + m) * bytes ≤ 140737488355328) (hbase : base ≤ w.heap.size)
  (h : ∀ v' w', w'.ownsRow base e size v' (n + m) (xs ++ news) → w.grownBy w' v.ownBlock → (v'.ownBlock = v.ownBlock ∨ v'.ownBlock = some w.heap.size) → K (a.put o.dst v') w') :
  if Region.wanted o (yielded ops a.tmps) = true then Oper.wp P o a w K Q else E := by
 have hw : Region.wanted o (yielded ops a.tmps) = true := by simp [Region.wanted, hgd]
 rw [if_pos hw]
 exact wp_append_any w s x t ho base e i z size bytes ht hi hz hsize hby hzs hsz v n xs hs hown B A m c news hx hr h1 h63 hbytes hbase h
end

def bs (l : List UInt8) : List Value := l.map fun c => Value.int .u8 (c.toNat : Int)
theorem bs_length (l : List UInt8) : (bs l).length = l.length := by simp [bs]
theorem bs_append (a b : List UInt8) : bs (a ++ b) = bs a ++ bs b := by simp [bs]
theorem bs_cons (c : UInt8) (b : List UInt8) : bs (c :: b) = .int .u8 (c.toNat : Int) :: bs b := rfl
theorem bs_one (l : List UInt8) : ∀ u ∈ bs l, u.oneCell' = true := by
 intro u hu
 simp only [bs, List.mem_map] at hu
 obtain ⟨c, _, rfl⟩ := hu
 rfl
theorem bs_get (l : List UInt8) (k : Nat) (h : k < l.length) : (bs l)[k]? = some (.int .u8 (l[k].toNat : Int)) := by
 simp [bs, List.getElem?_map, List.getElem?_eq_getElem h]
theorem bs_drop (l : List UInt8) (k : Nat) : (bs l).drop k = bs (l.drop k) := by simp [bs, List.map_drop]
theorem bs_take (l : List UInt8) (k : Nat) : (bs l).take k = bs (l.take k) := by simp [bs, List.map_take]

theorem ownsRow_below {w w' : World} {base : Nat} {e : TypeId} {size : Nat} {v : Value} {n : Nat} {xs : List Value} (h : w.ownsRow base e size v n xs) (hb : Below w.heap.size w w') : w'.ownsRow base e size v n xs := by
 have hg : w.grownBy w' none := ⟨hb.os, hb.tape, hb.output, hb.size, fun i hi _ => hb.block i hi⟩
 refine h.kept hg ?_
 cases v.ownBlock <;> simp
theorem ownsRow_base {w : World} {base base' : Nat} {e : TypeId} {size : Nat} {v : Value} {n : Nat} {xs : List Value} (h : w.ownsRow base e size v n xs) (hb : base' ≤ base) : w.ownsRow base' e size v n xs := by
 obtain ⟨h1, h2⟩ := h
 refine ⟨h1, ?_⟩
 rcases h2 with h2 | ⟨g, cap, cur, hv, hg, r⟩
 ·exact .inl h2
 ·exact .inr ⟨g, cap, cur, hv, by omega, r⟩
theorem one_new (w : World) (x : Value) (t : TypeId) : ∀ j u, [x][j]? = some u → (w.alloc (.cells #[x] t)).cell? ((⟨w.heap.size, 0, none⟩ : Addr).add j) = some u := by
 intro j u hj
 match j, hj with
 | 0, hj =>
  simp at hj; subst hj
  rw [show ((⟨w.heap.size, 0, none⟩ : Addr).add 0) = ⟨w.heap.size, 0, none⟩ from rfl, World.cell?_alloc_at _ _ _ _ rfl]
  rfl
theorem int_one (k : IntKind) (a : Int) : ∀ u ∈ [Value.int k a], u.oneCell' = true := by
 intro u hu; simp at hu; subst hu; rfl
theorem len_le {a : Nat} (h : a ≤ 140737488355328) : a ≤ maxLen := by unfold maxLen; omega

theorem Reads.lit {w : World} {B size n : Nat} {A : Option Addr} {xs : List Value} (h : Reads w B size A n xs) (hn : 0 < n * size) :
  ∃ b off, A = some ⟨b, off, none⟩ ∧ b < B ∧ ∀ j u, xs[j]? = some u → w.cell? ⟨b, off + j, none⟩ = some u := by
 have hp : 0 < n := Nat.pos_of_mul_pos_right hn
 obtain ⟨ad, rfl, hb, hc⟩ := h.2 hp
 obtain ⟨b, off, spot⟩ := ad
 have hl : 0 < xs.length := by have := h.1; omega
 have h0 := hc 0 xs[0] (List.getElem?_eq_getElem hl)
 have hs : spot = none := by simpa [Addr.add] using World.cell?_spot h0
 subst hs
 exact ⟨b, off, rfl, hb, fun j u hu => by have := hc j u hu; rwa [Addr.add_lit] at this⟩

theorem wpList_store_new {P : Program} {ops : Array Oper} {rest : List Oper} {op : Oper} {a : Act} {Q : Exit → Act → World → Prop} (hgd : op.guard = none) (ty : TypeId) (x y : Operand) (ho : op.op = .store ty x y)
  (w : World) (c c' : Array Value) (hx : a.eval x = .pointer (some ⟨w.heap.size, 0, none⟩)) (hy : a.eval y = .agg c') (hi : (P.info? ty).map (·.size) = some c'.size) (hs : c.size = c'.size) (h1 : c'.all (·.oneCell') = true)
  (h : wpList P ops Q rest (a.put op.dst undef) (w.alloc (.cells c' ty))) : wpList P ops Q (op :: rest) a (w.alloc (.cells c ty)) := by
 refine wpList_plain hgd fun K hK => ?_
 unfold Oper.wp execOp
 simp only [ho, hx, hy, Sem.run_bind, Sem.run_pure, Result.andThen_ok, run_storeAt_new w ty c c' hi hs h1]
 exact hK _ _ h

theorem cells_new (w : World) (cs : List Value) (t : TypeId) : ∀ j u, cs[j]? = some u → (w.alloc (.cells cs.toArray t)).cell? ((⟨w.heap.size, 0, none⟩ : Addr).add j) = some u := by
 intro j u hu
 rw [Addr.add_lit, cell_of_row _ _ _ cs.toArray t (0, 0) (heap_alloc_last w _)]
 simpa using hu

theorem xor0 (a : Int) (h1 : 0 ≤ a) (h2 : a < 256) : bits .xor .u8 a 0 = a := by
 rw [u8_xor a 0 h1 h2 (by omega) (by omega)]
 simp; omega
theorem nat_xor255 (a : Nat) (h : a < 256) : a ^^^ 255 = 255 - a := by
 have : ∀ x : Fin 256, x.val ^^^ 255 = 255 - x.val := by decide +kernel
 exact this ⟨a, h⟩
theorem xor255 (a : Int) (h1 : 0 ≤ a) (h2 : a < 256) : bits .xor .u8 a 255 = 255 - a := by
 rw [u8_xor a 255 h1 h2 (by omega) (by omega)]
 have := nat_xor255 a.toNat (by omega)
 rw [show (255 : Int).toNat = 255 from rfl, this]; omega
end Go.Proofs.YtlffmfdjifgfgaaDoor

namespace Go.Proofs.YtlffmfdjifgfgaaDoor
open Go.RowKit

theorem size_alloc (w : World) (o : Obj) : (w.alloc o).heap.size = w.heap.size + 1 := by simp
theorem below_drewN {B : Nat} {a w : World} (h : Below B a w) (n : Nat) : Below B a (w.drewN n) := ⟨h.os, h.tape, h.output, h.size, h.block⟩
theorem quiet_add {P : Program} {f : FuncId} {args : Array Value} {w : World} {a n : Nat} {v : Value}
  (h : Calls P f args (w.drewN (a + n)) fun e w' => e = .returned v ∧ ∃ m, w' = (w.drewN (a + n)).drewN m) :
  Calls P f args (w.drewN (a + n)) fun e w'' => e = .returned v ∧ ∃ m, w'' = w.drewN (a + m) :=
 h.mono fun _ _ ⟨he, m, hm⟩ => ⟨he, n + m, by rw [hm, World.drewN_drewN, Nat.add_assoc]⟩
theorem quiet_add_left {P : Program} {f : FuncId} {args : Array Value} {w : World} {a n : Nat} {v : Value}
  (h : Calls P f args (w.drewN (a + n)) fun e w' => e = .returned v ∧ w.drewN (a + n) = w') :
  Calls P f args (w.drewN (a + n)) fun e w'' => e = .returned v ∧ ∃ m, w'' = w.drewN (a + m) :=
 h.mono fun _ _ ⟨he, hm⟩ => ⟨he, n, hm.symm⟩
theorem quiet_left {P : Program} {f : FuncId} {args : Array Value} {w : World} {n : Nat} {v : Value}
  (h : Calls P f args (w.drewN n) fun e w' => e = .returned v ∧ w.drewN n = w') : Calls P f args (w.drewN n) fun e w'' => e = .returned v ∧ ∃ m, w'' = w.drewN m :=
 h.mono fun _ _ ⟨he, hm⟩ => ⟨he, n, hm.symm⟩
section
variable {w w' : World} {g : Nat} {t : TypeId} {cs : Array Value}
theorem Blk.setRow (h : Blk w g t cs) (cs' : Array Value) : Blk (w.setRow g cs') g t cs' := setRow_heap w g cs cs' t _ h
theorem Blk.setRow_far {g' : Nat} (h : Blk w g t cs) (hne : g ≠ g') (cs' : Array Value) : Blk (w.setRow g' cs') g t cs := by
 unfold Blk at h ⊢
 unfold World.setRow
 simp only
 rw [Array.getElem?_modify, if_neg (by omega)]
 exact h
end
theorem setRow_other (w : World) (g' : Nat) (cs : Array Value) (g : Nat) (hne : g' ≠ g) : (w.setRow g' cs).heap[g]? = w.heap[g]? := by
 unfold World.setRow
 simp only
 rw [Array.getElem?_modify, if_neg hne]
theorem below_setRow {B g : Nat} {a w : World} (h : Below B a w) (hg : B ≤ g) (cs : Array Value) : Below B a (w.setRow g cs) :=
 ⟨h.os, h.tape, h.output, by rw [size_setRow]; exact h.size, fun i hi => by
  have : (w.setRow g cs).heap[i]? = w.heap[i]? := by
   unfold World.setRow
   simp only
   rw [Array.getElem?_modify, if_neg (by omega)]
  rw [this]
  exact h.block i hi⟩
def seg (cs : List Value) (o : Nat) (vs : List Value) : List Value := cs.take o ++ vs ++ cs.drop (o + vs.length)
theorem seg_length {cs : List Value} {o : Nat} {vs : List Value} (h : o + vs.length ≤ cs.length) : (seg cs o vs).length = cs.length := by
 simp [seg]; omega
section
variable {P : Program} (w : World)
theorem run_index_arr (t e : TypeId) (n : Nat) (cs : List Value) (i : Nat) (u : Value) (ht : P.underlying t = some (.array n e)) (h1 : ∀ W, (sizeOf e).run P W = .ok 1 W) (ha : ∀ W, (isAgg e).run P W = .ok false W) (hi : i < n) (hu : cs[i]? = some u) :
  (Instr.index t (.agg cs.toArray) (.int .i64 (i : Int))).run P w = .ok u w := by
 have hil : i < cs.length := (List.getElem?_eq_some_iff.1 hu).1
 have hv : cs[i] = u := (List.getElem?_eq_some_iff.1 hu).2
 have c1 : (0 : Int) ≤ i ∧ (i : Int) < n := ⟨by omega, by omega⟩
 simp only [Instr.index, asIntOf, Sem.run_bind, Sem.run_pure, Result.andThen_ok, run_underlying ht]
 rw [if_pos c1]
 simp [part, Sem.run_bind, h1, ha, hv, hil]
theorem wpList_store_seg {ops : Array Oper} {rest : List Oper} {op : Oper} {a : Act} {Q : Exit → Act → World → Prop} (hgd : op.guard = none) (ty : TypeId) (x y : Operand) (ho : op.op = .store ty x y)
  (g o : Nat) (vs : List Value) (hx : a.eval x = .pointer (some ⟨g, o, none⟩)) (hy : a.eval y = .agg vs.toArray)
  (t : TypeId) (cs : List Value) (hg : Blk w g t cs.toArray) (hi : (P.info? ty).map (·.size) = some vs.length) (hfit : o + vs.length ≤ cs.length) (h1 : ∀ v ∈ vs, v.oneCell' = true)
  (h : ∀ w1, w1 = w.setRow g (seg cs o vs).toArray → wpList P ops Q rest (a.put op.dst undef) w1) : wpList P ops Q (op :: rest) a w := by
 refine wpList_plain hgd fun _ hK => ?_
 have hst := run_storeCells_at P g o t vs 0 cs.toArray w hg (by simpa using hfit) h1
 have hr : (storeVar ty ⟨g, o, none⟩ (.agg vs.toArray)).run P w = .ok () (w.setRow g (seg cs o vs).toArray) := by
  cases hq : P.info? ty with
  | none => simp [hq] at hi
  | some i =>
   have hs : i.size = vs.length := by simpa [hq] using hi
   simp only [Nat.add_zero] at hst
   simp [storeVar, sizeOf, typeInfo, hq, Value.cells, hs, hst, seg]
 unfold Oper.wp execOp
 simp only [ho, hx, hy, Instr.storeAt, Instr.sureAddr, Sem.run_bind, Sem.run_pure, Result.andThen_ok, hr]
 exact hK _ _ (h _ rfl)
theorem wpList_load_seg {ops : Array Oper} {rest : List Oper} {op : Oper} {a : Act} {Q : Exit → Act → World → Prop} (hgd : op.guard = none) (ty : TypeId) (x : Operand) (ho : op.op = .load ty x)
  (g o n : Nat) (hx : a.eval x = .pointer (some ⟨g, o, none⟩)) (t : TypeId) (cs : List Value) (d : TypeDesc) (hg : Blk w g t cs.toArray)
  (hu : P.underlying ty = some d) (hd : d.isRow = true) (hi : (P.info? ty).map (·.size) = some n) (hfit : o + n ≤ cs.length)
  (h : wpList P ops Q rest (a.put op.dst (.agg ((cs.drop o).take n).toArray)) w) : wpList P ops Q (op :: rest) a w :=
 wpList_load_mid hgd ty x ho g o hx ((cs.drop o).take n) d (fun j v hv => by
  rw [Blk.cell hg]
  simp only [List.getElem?_toArray]
  rw [List.getElem?_take] at hv
  split at hv
  ·rw [List.getElem?_drop] at hv; exact hv
  ·cases hv) hu hd (by rw [hi]; simp; omega) h
theorem wpList_clear_seg {ops : Array Oper} {rest : List Oper} {op : Oper} {a : Act} {Q : Exit → Act → World → Prop} (hgd : op.guard = none) (x : Operand) (ty e : TypeId)
  (ho : op.op = .call { callee := .builtin .clear, args := #[x], argTypes := #[ty] }) (ht : P.underlying ty = some (.slice e)) (z : Value) (hz : ∀ W, (zeroValue e).run P W = .ok z W) (hz1 : z.cells = #[z]) (hzo : z.oneCell' = true)
  (g o n c : Nat) (hx : a.eval x = .slice (some ⟨g, o, none⟩) n c) (t : TypeId) (cs : List Value) (hg : Blk w g t cs.toArray) (hfit : o + n ≤ cs.length)
  (h : ∀ w1, w1 = w.setRow g (seg cs o (List.replicate n z)).toArray → wpList P ops Q rest (a.put op.dst (.tuple #[])) w1) : wpList P ops Q (op :: rest) a w := by
 refine wpList_plain hgd fun _ hK => ?_
 have hst := run_storeCells_at P g o t (List.replicate n z) 0 cs.toArray w hg (by simpa using hfit) (fun v hv => by rw [List.mem_replicate] at hv; rw [hv.2]; exact hzo)
 simp only [Nat.add_zero] at hst
 have hr : (Builtin.clear_ #[ty] op.type #[.slice (some ⟨g, o, none⟩) n c]).run P w = .ok (.tuple #[]) (w.setRow g (seg cs o (List.replicate n z)).toArray) := by
  cases n with
  | zero =>
   have e : w.setRow g (seg cs o (List.replicate 0 z)).toArray = w := by
    simp only [List.replicate, seg, List.append_nil, List.length_nil, Nat.add_zero, List.take_append_drop]
    exact setRow_self w g _ t _ hg
   rw [e]
   simp [Builtin.clear_, run_underlying ht]
  | succ m =>
   have hz2 : (Builtin.zeroCells z.cells (m + 1)).toList = List.replicate (m + 1) z := by
    apply List.ext_getElem?
    intro k
    rw [hz1]
    simp only [Builtin.zeroCells, Array.getElem?_toList, Array.getElem?_map, List.getElem?_replicate]
    by_cases hk : k < m + 1
    ·have e : (Array.range ((m + 1) * #[z].size))[k]? = some k := by simp [hk]
     rw [e, if_pos hk]
     simp
     have : k % 1 = 0 := by omega
     simp [this]
    ·have e : (Array.range ((m + 1) * #[z].size))[k]? = none := by simp; omega
     rw [e, if_neg hk]; rfl
   simp [Builtin.clear_, run_underlying ht, Sem.run_bind, hz, hz2, hst, seg]
 unfold Oper.wp execOp
 simp only [ho, resolve, invoke, builtin, Sem.run_bind, Sem.run_pure, Result.andThen_ok, List.map_toArray, List.map_cons, List.map_nil, hx, hr]
 exact hK _ _ (h _ rfl)
end
theorem own_nil {w : World} {B : Nat} {e : TypeId} {size : Nat} {v : Value} {n : Nat} {xs : List Value} (h : w.ownsRow B e size v (0 + n) ([] ++ xs)) : w.ownsRow B e size v n xs := by
 rwa [Nat.zero_add, List.nil_append] at h
theorem Reads.later {w w' : World} {s n : Nat} {A : Option Addr} {xs : List Value} (h : Reads w w.heap.size s A n xs) (hb : Below w.heap.size w w') : Reads w' w'.heap.size s A n xs :=
 (h.below hb).more hb.size
theorem below_then {a b c : World} (h : Below a.heap.size a b) (k : Below b.heap.size b c) : Below a.heap.size a c := h.trans (k.mono h.size)
theorem below_new (w : World) (o : Obj) : Below w.heap.size w (w.alloc o) := (Below.refl _ _).alloc (Nat.le_refl _) o
theorem size_after {wr w1 : World} {o : Obj} {row : Option Nat} {B : Nat} (hg : (wr.alloc o).grownBy w1 row) (hB : B ≤ wr.heap.size) : B ≤ w1.heap.size := by
 have h1 := hg.size
 rw [size_alloc] at h1
 omega
def lenOf : Value → Nat
 | .slice _ n _ => n
 | _ => 0
theorem own_len {w : World} {B : Nat} {e : TypeId} {size n : Nat} {v : Value} {xs : List Value} (h : w.ownsRow B e size v n xs) : ∃ A c, v = .slice A n c ∧ n ≤ c := by
 rcases h.2 with ⟨rfl, rfl⟩ | ⟨g, cap, cur, rfl, _, _, hc, _⟩
 ·exact ⟨none, 0, rfl, Nat.le_refl _⟩
 ·exact ⟨_, _, rfl, hc⟩
theorem Blk.new_at (w : World) (t : TypeId) {n : Nat} {cs cs' : Array Value} (hn : n = w.heap.size) (h : cs = cs') : Blk (w.alloc (.cells cs t)) n t cs' := by
 subst hn h; exact Blk.new w t _
theorem blk_new (w : World) (t : TypeId) (cs : Array Value) : Blk (w.alloc (.cells cs t)) w.heap.size t cs := Blk.new w t cs
theorem blk_new2 (w : World) (o : Obj) (t : TypeId) (cs : Array Value) : Blk ((w.alloc o).alloc (.cells cs t)) (w.heap.size + 1) t cs := Blk.new_at _ t (by rw [size_alloc]) rfl
theorem blk_new3 (w : World) (o : Obj) (t : TypeId) (cs : Array Value) : Blk ((w.alloc (.cells cs t)).alloc o) w.heap.size t cs := (Blk.new w t cs).alloc o
theorem blk_past {w w' : World} {g : Nat} {t : TypeId} {cs : Array Value} (hb : Below w.heap.size w w') (h : Blk w g t cs) : Blk w' g t cs := h.below hb h.lt
theorem bt {a w w1 : World} (h : Below a.heap.size a w) (hb : Below w.heap.size w w1) : Below a.heap.size a w1 := h.trans (hb.mono h.size)
theorem ba {a w : World} (h : Below a.heap.size a w) (o : Obj) : Below a.heap.size a (w.alloc o) := h.alloc h.size o
theorem wp_region_below {P : Program} {id : Nat} {Q : Exit → Act → World → Prop} {a : Act} {w : World} {l : List Oper} (w0 : World) (hw : Below w0.heap.size w0 w) (hm : P.follows .mixedOrders = true) (hB : Region.lexB .any l.toArray = true)
  (h : wpQuiet P l.toArray (fun w' => Below w0.heap.size w0 w') (fun a' => ∀ w', Below w0.heap.size w0 w' → Q .normal a' w') l a) : (Code.region id l.toArray true).wp P Q a w :=
 wp_region_quiet (C := fun w' => Below w0.heap.size w0 w') hm hB hw.drew (by simpa using h)
theorem wpQuiet_load' {P : Program} {ops : Array Oper} {C : World → Prop} {Q : Act → Prop} {a : Act} {o : Oper} {rest : List Oper} (hw : Region.wanted o (yielded ops a.tmps) = true) (ty : TypeId) (x : Operand) (ho : o.op = .load ty x) (ad : Addr) (hx : a.eval x = .pointer (some ad))
  (v : Value) (hrun : ∀ w, C w → (Instr.loadAt ty (.pointer (some ad))).run P w = .ok v w) (h : wpQuiet P ops C Q rest (a.put o.dst v)) : wpQuiet P ops C Q (o :: rest) a := by
 unfold wpQuiet
 rw [if_pos hw]
 refine ⟨v, fun w hc => ?_, h⟩
 unfold Oper.quietAt execOp
 simp only [ho, hx, Sem.run_bind, hrun w hc, Result.andThen_ok]
 exact ⟨rfl, rfl⟩
theorem own_lit {w : World} {base : Nat} {e : TypeId} {size n : Nat} {xs : List Value} (hb : base ≤ w.heap.size) (hl : xs.length = n * size) (hm : n ≤ maxLen) : (w.alloc (.cells xs.toArray e)).ownsRow base e size (.slice (some ⟨w.heap.size, 0, none⟩) n n) n xs :=
 ⟨hl, .inr ⟨w.heap.size, n, xs.toArray, rfl, hb, heap_alloc_new w _, Nat.le_refl _, hm, by simpa using hl, by simp [← hl]⟩⟩
def vi (l : List Int) : List Value := l.map (Value.int .i64)
theorem vi_append (a b : List Int) : vi (a ++ b) = vi a ++ vi b := by simp [vi]
theorem vi_length (l : List Int) : (vi l).length = l.length := by simp [vi]
theorem vi_get {l : List Int} {k : Nat} {x : Int} (h : l[k]? = some x) : (vi l)[k]? = some (.int .i64 x) := by simp [vi, h]
end Go.Proofs.YtlffmfdjifgfgaaDoor
