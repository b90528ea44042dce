/-
  FOR THE LAWS: what each decoder answers, whatever it is: an error, or a value whose encoding is what was consumed.
-/
import Derived.Test.YtlemelfepalnfaaHelpB
namespace Go.Proofs.Ytlemelfepalnfaa
open Go.RowKit WM

section
variable {α : Type} {g : List UInt8 → Dec α}
theorem gMany_all {p : α → Prop} (h : ∀ l x u, g l = .ok x u → p x) : ∀ (n : Nat) (l : List UInt8) (xs : List α) (u : Nat), gMany g n l = .ok xs u → ∀ x ∈ xs, p x := by
  intro n
  induction n with
  | zero => intro l xs u hg; simp [gMany] at hg; obtain ⟨rfl, _⟩ := hg; simp
  | succ n ih =>
    intro l xs u hg
    simp only [gMany] at hg
    split at hg
    · rename_i x v hx
      split at hg
      · rename_i ys v2 hy
        injection hg with h1 _
        subst h1
        intro y hy2
        rcases List.mem_cons.1 hy2 with rfl | hy2
        · exact h _ _ _ hx
        · exact ih _ _ _ hy y hy2
      · cases hg
      · cases hg
    · cases hg
    · cases hg
theorem gElems_all {p : α → Prop} (h : ∀ l x u, g l = .ok x u → p x) {least : Nat} {l : List UInt8} {xs : List α} {u : Nat} (hg : gElems least g l = .ok xs u) : ∀ x ∈ xs, p x := by
  unfold gElems at hg
  split at hg
  · split at hg
    · rename_i ys v2 hy
      injection hg with h1 _
      subst h1
      exact gMany_all h _ _ _ _ hy
    · cases hg
    · cases hg
  · cases hg
  · cases hg
end

theorem gMany_dig : ∀ (n : Nat) (l : List UInt8) (xs : List (List UInt8)) (u : Nat), n * 16 ≤ l.length → gMany gDig n l = .ok xs u → xs.length = n ∧ (∀ x ∈ xs, x.length = 16) ∧ ∃ t, l = xs.flatMap id ++ t ∧ u = (xs.flatMap id).length := by
  intro n
  induction n with
  | zero => intro l xs u _ hg; simp [gMany] at hg; obtain ⟨rfl, rfl⟩ := hg; simp
  | succ n ih =>
    intro l xs u hl hg
    have hx : gDig l = .ok (l.take 16) 16 := rfl
    simp only [gMany, hx] at hg
    split at hg
    · rename_i ys v2 hy
      injection hg with h1 h2
      subst h1 h2
      obtain ⟨h3, h4, t, h5, h6⟩ := ih _ _ _ (by rw [List.length_drop]; omega) hy
      have h16 : (l.take 16).length = 16 := by rw [List.length_take]; omega
      refine ⟨by simp [h3], ?_, t, ?_, ?_⟩
      · intro x hx
        rcases List.mem_cons.1 hx with rfl | hx
        · exact h16
        · exact h4 x hx
      · rw [List.flatMap_cons, List.append_assoc, ← h5]; exact (List.take_append_drop 16 l).symm
      · rw [List.flatMap_cons, List.length_append, h6]; simp only [id]; omega
    · cases hg
    · cases hg
theorem gElems_dig {l : List UInt8} {xs : List (List UInt8)} {u : Nat} (hg : gElems 16 gDig l = .ok xs u) : (∀ x ∈ xs, x.length = 16) ∧ ∃ t, l = encL id xs ++ t ∧ u = (encL id xs).length := by
  unfold gElems at hg
  split at hg
  · rename_i n v hv
    split at hg
    · rename_i ys v2 hy
      injection hg with h1 h2
      subst h1 h2
      obtain ⟨hr, t, e1, e2, hlt⟩ := gLen_ok hv (by omega)
      rw [e1, e2, List.drop_left] at hy
      obtain ⟨h3, h4, t2, h5, h6⟩ := gMany_dig _ _ _ _ hlt hy
      refine ⟨h4, t2, ?_, ?_⟩
      · unfold encL; rw [h3, e1, h5]; simp
      · unfold encL; rw [h3, e2, h6]; simp
    · cases hg
    · cases hg
  · cases hg
  · cases hg

def Eats (l x : List UInt8) (u e : Int) : Prop := e ≠ 0 ∨ (e = 0 ∧ ∃ t, l = x ++ t ∧ u = x.length)
theorem Eats.no {l x : List UInt8} {u e : Int} (h : e ≠ 0) : Eats l x u e := .inl h
theorem Eats.len {l x t : List UInt8} (h : l = x ++ t) : x.length ≤ l.length := by rw [h, List.length_append]; omega

theorem getInt_any {B : Nat} {A : Option Addr} {c : Nat} {l : List UInt8} {w : World} (ha : Reads w B 1 A l.length (bs l)) (hlc : l.length ≤ c) (hl : l.length ≤ 140737488355328) :
    Calls Try.prog 24 #[.slice A l.length c] w fun e w' => ∃ n u k, e = .returned (.tuple #[.int .i64 n, .int .i64 u, .int .i64 k]) ∧ inRange n ∧ Eats l (enc n) u k ∧ w = w' := by
  refine (getInt B A c l w ha hlc hl).mono fun e w' ⟨he, hw⟩ => ?_
  cases hg : gInt l with
  | more => rw [hg] at he; exact ⟨0, 0, 3, he, ⟨by omega, by omega⟩, .no (by omega), hw⟩
  | form => rw [hg] at he; exact ⟨0, 0, 2, he, ⟨by omega, by omega⟩, .no (by omega), hw⟩
  | ok n u =>
    rw [hg] at he
    obtain ⟨hr, t, h1, h2⟩ := gInt_ok hg
    exact ⟨n, u, 0, he, hr, .inr ⟨rfl, t, h1, by omega⟩, hw⟩
theorem getBytes_any {B : Nat} {A : Option Addr} {c : Nat} {l : List UInt8} {w : World} (ha : Reads w B 1 A l.length (bs l)) (hlc : l.length ≤ c) (hl : l.length ≤ 1000000) :
    Calls Try.prog 26 #[.slice A l.length c] w fun e w' => ∃ (s : ByteArray) (u k : Int), e = .returned (.tuple #[.string s, .int .i64 u, .int .i64 k]) ∧ s.size ≤ 1000000 ∧ Eats l (encB s.data.toList) u k ∧ w = w' := by
  refine (getBytes B A c l w ha hlc (by omega)).mono fun e w' ⟨he, hw⟩ => ?_
  cases hg : gBytes l with
  | more => rw [hg] at he; exact ⟨⟨#[]⟩, 0, 3, he, by decide, .no (by omega), hw⟩
  | form => rw [hg] at he; exact ⟨⟨#[]⟩, 0, 2, he, by decide, .no (by omega), hw⟩
  | ok s u =>
    rw [hg] at he
    obtain ⟨_, t, h1, h2⟩ := gBytes_ok hg
    refine ⟨⟨s.toArray⟩, u, 0, he, ?_, .inr ⟨rfl, t, h1, by rw [h2]⟩, hw⟩
    have h3 := Eats.len h1
    unfold encB at h3
    rw [List.length_append] at h3
    show s.toArray.size ≤ _
    simp; omega
theorem getInts_any {A : Option Addr} {c : Nat} {l : List UInt8} {w : World} (ha : Reads w w.heap.size 1 A l.length (bs l)) (hlc : l.length ≤ c) (hl : l.length ≤ 1000000) :
    Calls Try.prog 28 #[.slice A l.length c] w fun e w' => ∃ A2 c2 xs u k, e = .returned (.tuple #[.slice A2 (List.length xs) c2, .int .i64 u, .int .i64 k]) ∧ Reads w' w'.heap.size 1 A2 xs.length (is xs) ∧ (∀ x ∈ xs, inRange x) ∧ (encL enc xs).length ≤ 1000010 ∧ xs.length ≤ 1000000 ∧ Eats l (encL enc xs) u k ∧ Below w.heap.size w w' := by
  refine (getInts A c l w ha hlc hl).mono fun e w' h => ?_
  cases hg : gElems 1 gInt l with
  | more => rw [hg] at h; exact ⟨none, 0, [], 0, 3, h.1, Reads.none_, by simp, by simp [encL, enc_pos0], by simp, .no (by omega), h.2⟩
  | form => rw [hg] at h; exact ⟨none, 0, [], 0, 2, h.1, Reads.none_, by simp, by simp [encL, enc_pos0], by simp, .no (by omega), h.2⟩
  | ok xs u =>
    rw [hg] at h
    obtain ⟨A2, c2, he, ho, hb⟩ := h
    obtain ⟨_, t, h1, h2⟩ := gElems_ok (e := enc) (by omega) (fun l x u h => (gInt_ok h).2) hg
    have h3 := Eats.len h1
    have hr := gElems_all (p := inRange) (fun l x u h => (gInt_ok h).1) hg
    have h4 := flat_len (e := enc) (least := 1) (fun x hx => (enc_len (hr x hx)).1)
    refine ⟨A2, c2, xs, u, 0, he, by have := Reads.of_own ho; rwa [ints_flat] at this, hr, by omega, ?_, .inr ⟨rfl, t, h1, by rw [h2]⟩, hb⟩
    unfold encL at h3
    rw [List.length_append] at h3
    omega
theorem encS_map (xs : List (List UInt8)) : encS (xs.map fun x => ⟨x.toArray⟩) = encL encB xs := by
  unfold encS encL
  rw [List.length_map, List.flatMap_map]
theorem getStrings_any {A : Option Addr} {c : Nat} {l : List UInt8} {w : World} (ha : Reads w w.heap.size 1 A l.length (bs l)) (hlc : l.length ≤ c) (hl : l.length ≤ 1000000) :
    Calls Try.prog 31 #[.slice A l.length c] w fun e w' => ∃ A2 c2 xs u k, e = .returned (.tuple #[.slice A2 (List.length xs) c2, .int .i64 u, .int .i64 k]) ∧ Reads w' w'.heap.size 1 A2 xs.length (ss xs) ∧ (encS xs).length ≤ 1000010 ∧ xs.length ≤ 1000000 ∧ Eats l (encS xs) u k ∧ Below w.heap.size w w' := by
  refine (getStrings A c l w ha hlc hl).mono fun e w' h => ?_
  cases hg : gElems 1 gBytes l with
  | more => rw [hg] at h; exact ⟨none, 0, [], 0, 3, h.1, Reads.none_, by simp [encS, encL, enc_pos0], by simp, .no (by omega), h.2⟩
  | form => rw [hg] at h; exact ⟨none, 0, [], 0, 2, h.1, Reads.none_, by simp [encS, encL, enc_pos0], by simp, .no (by omega), h.2⟩
  | ok xs u =>
    rw [hg] at h
    obtain ⟨A2, c2, he, ho, hb⟩ := h
    obtain ⟨_, t, h1, h2⟩ := gElems_ok (e := encB) (by omega) (fun l x u h => (gBytes_ok h).2) hg
    have h3 := Eats.len h1
    have h0 := gElems_all (p := fun x => (x.length : Int) ≤ 9223372036854775807) (fun l x u h => (gBytes_ok h).1) hg
    have h4 := flat_len (e := encB) (least := 1) (fun x hx => by
      have := (enc_len (n := (x.length : Int)) ⟨by omega, h0 x hx⟩).1
      unfold encB; rw [List.length_append]; omega)
    refine ⟨A2, c2, xs.map fun x => ⟨x.toArray⟩, u, 0, by rw [List.length_map]; exact he, by have := Reads.of_own ho; rw [strs_flat] at this; rwa [List.length_map], by rw [encS_map]; omega, ?_, .inr ⟨rfl, t, by rw [encS_map]; exact h1, by rw [encS_map, h2]⟩, hb⟩
    unfold encL at h3
    rw [List.length_append] at h3
    rw [List.length_map]
    omega
theorem getDigests_any {A : Option Addr} {c : Nat} {l : List UInt8} {w : World} (ha : Reads w w.heap.size 1 A l.length (bs l)) (hlc : l.length ≤ c) (hl : l.length ≤ 1000000) :
    Calls Try.prog 34 #[.slice A l.length c] w fun e w' => ∃ A2 c2 xs u k, e = .returned (.tuple #[.slice A2 (List.length xs) c2, .int .i64 u, .int .i64 k]) ∧ Reads w' w'.heap.size 16 A2 xs.length (dg xs) ∧ (∀ x ∈ xs, x.length = 16) ∧ xs.length ≤ 1000000 ∧ Eats l (encL id xs) u k ∧ Below w.heap.size w w' := by
  refine (getDigests A c l w ha hlc hl).mono fun e w' h => ?_
  cases hg : gElems 16 gDig l with
  | more => rw [hg] at h; exact ⟨none, 0, [], 0, 3, h.1, Reads.none_, by simp, by simp, .no (by omega), h.2⟩
  | form => rw [hg] at h; exact ⟨none, 0, [], 0, 2, h.1, Reads.none_, by simp, by simp, .no (by omega), h.2⟩
  | ok xs u =>
    rw [hg] at h
    obtain ⟨A2, c2, he, ho, hb⟩ := h
    obtain ⟨h16, t, h1, h2⟩ := gElems_dig hg
    have h3 := Eats.len h1
    have h4 := flat_len (e := (id : List UInt8 → List UInt8)) (least := 16) (xs := xs) (fun x hx => by have := h16 x hx; simp only [id]; omega)
    refine ⟨A2, c2, xs, u, 0, he, by have := Reads.of_own ho; rwa [digs_flat] at this, h16, ?_, .inr ⟨rfl, t, h1, by rw [h2]⟩, hb⟩
    unfold encL at h3
    rw [List.length_append] at h3
    omega
end Go.Proofs.Ytlemelfepalnfaa
