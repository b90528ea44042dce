/-
  MATHEMATICS OF READING CODE: what is written is read, and nothing else.
-/
import Derived.Test.YtbdknncmlcbbpaaDoorG31
import Derived.Test.YtbdknncmlcbbpaaDoorG07
set_option linter.unusedVariables false
namespace Go.Proofs.YtbdknncmlcbbpaaDoor
open WM KM

theorem gMany_in : ∀ (n : Nat) (l : List UInt8) (xs : List Int) (u : Nat), gMany gInt n l = .ok xs u → ∀ x ∈ xs, inRange x
  | 0, l, xs, u, h => by
    rw [gMany] at h
    injection h with h1 h2
    subst h1
    intro x hx
    cases hx
  | n + 1, l, xs, u, h => by
    rw [gMany] at h
    split at h
    · rename_i y v hy
      split at h
      · rename_i ys v2 hys
        injection h with h1 h2
        subst h1
        intro x hx
        rcases List.mem_cons.1 hx with rfl | hx
        · exact (gInt_ok hy).1
        · exact gMany_in n _ _ _ hys x hx
      · cases h
      · cases h
    · cases h
    · cases h
/-- The integers at the beginning of bytes. -/
def dInts (l : List UInt8) : Dec (List Int) := gElems 1 gInt l
theorem dInts_enc {xs : List Int} (h : ∀ x ∈ xs, inRange x) (hn : (xs.length : Int) ≤ 9223372036854775807) (t : List UInt8) : dInts (encL enc xs ++ t) = .ok xs (encL enc xs).length :=
  gElems_enc (by omega) hn (fun x hx => (enc_len (h x hx)).1) (fun x hx t => gInt_enc (h x hx) t) t
theorem dInts_ok {l : List UInt8} {xs : List Int} {u : Nat} (h : dInts l = .ok xs u) : (∀ x ∈ xs, inRange x) ∧ (xs.length : Int) ≤ 9223372036854775807 ∧ ∃ t, l = encL enc xs ++ t ∧ u = (encL enc xs).length := by
  refine ⟨?_, gElems_ok (by omega) (fun l x u hg => (gInt_ok hg).2) h⟩
  unfold dInts gElems at h
  split at h
  · split at h
    · rename_i hy
      injection h with h1 h2
      subst h1
      exact gMany_in _ _ _ _ hy
    · cases h
    · cases h
  · cases h
  · cases h
/-- Integers as instructions. -/
def trip : List Int → List Ins
  | a :: b :: c :: t => ⟨a, b, c⟩ :: trip t
  | _ => []
theorem trip_flat : ∀ l : List Ins, trip (flatI l) = l
  | [] => rfl
  | x :: l => by
    have : flatI (x :: l) = x.op :: x.a :: x.b :: flatI l := by simp [flatI]
    rw [this, trip, trip_flat l]
theorem flat_trip : ∀ l : List Int, l.length % 3 = 0 → flatI (trip l) = l
  | [], _ => rfl
  | [_], h => by simp at h
  | [_, _], h => by simp at h
  | a :: b :: c :: t, h => by
    have : flatI (⟨a, b, c⟩ :: trip t) = a :: b :: c :: flatI (trip t) := by simp [flatI]
    rw [trip, this, flat_trip t (by simp only [List.length_cons] at h; omega)]
theorem trip_ok : ∀ l : List Int, (∀ x ∈ l, inRange x) → ∀ y ∈ trip l, okI y
  | [], _, y, hy => by simp [trip] at hy
  | [_], _, y, hy => by simp [trip] at hy
  | [_, _], _, y, hy => by simp [trip] at hy
  | a :: b :: c :: t, h, y, hy => by
    rw [trip] at hy
    rcases List.mem_cons.1 hy with rfl | hy
    · exact ⟨h a (by simp), h b (by simp), h c (by simp)⟩
    · exact trip_ok t (fun x hx => h x (by simp [hx])) y hy
/-- A function whose numbers are there. -/
structure FOk (f : KM.Fn) : Prop where
  p : inRange f.p
  w : inRange f.w
  ok : ∀ x ∈ f.body, okI x
  len : ((flatI f.body).length : Int) ≤ 9223372036854775807
theorem FOk.head {f : KM.Fn} (h : FOk f) : ∀ x ∈ [f.p, f.w], inRange x := fun x hx => by
  simp only [List.mem_cons, List.not_mem_nil, or_false] at hx
  rcases hx with rfl | rfl
  · exact h.p
  · exact h.w
theorem FOk.flat {f : KM.Fn} (h : FOk f) : ∀ x ∈ flatI f.body, inRange x := fun x hx => by
  obtain ⟨y, hy, hx⟩ := List.mem_flatMap.1 hx
  have := h.ok y hy
  simp only [List.mem_cons, List.not_mem_nil, or_false] at hx
  rcases hx with rfl | rfl | rfl
  · exact this.1
  · exact this.2.1
  · exact this.2.2
/-- A function at the beginning of bytes. -/
def dFun (b : List UInt8) : Option (KM.Fn × Nat) :=
  match dInts b with
  | .ok [p, w] u => (match dInts (b.drop u) with
    | .ok bd m => if bd.length % 3 = 0 then some (⟨p, w, trip bd⟩, u + m) else none
    | _ => none)
  | _ => none
theorem dFun_enc {f : KM.Fn} (h : FOk f) (t : List UInt8) : dFun (encF f ++ t) = some (f, (encF f).length) := by
  have h1 : dInts (encF f ++ t) = .ok [f.p, f.w] (encL enc [f.p, f.w]).length := by
    rw [encF, List.append_assoc]
    exact dInts_enc h.head (by simp) _
  have h2 : dInts ((encF f ++ t).drop (encL enc [f.p, f.w]).length) = .ok (flatI f.body) (encL enc (flatI f.body)).length := by
    rw [encF, List.append_assoc, List.drop_left]
    exact dInts_enc h.flat h.len _
  unfold dFun
  rw [h1]
  simp only []
  rw [h2]
  simp only []
  rw [if_pos (by rw [flatI_length]; omega), trip_flat, encF, List.length_append]
theorem dFun_ok {b : List UInt8} {f : KM.Fn} {u : Nat} (h : dFun b = some (f, u)) : FOk f ∧ ∃ t, b = encF f ++ t ∧ u = (encF f).length := by
  unfold dFun at h
  split at h
  · rename_i p w v h1
    split at h
    · rename_i bd m h2
      split at h
      · rename_i hm
        injection h with h
        injection h with h3 h4
        subst h3 h4
        obtain ⟨r1, _, t1, e1, e2⟩ := dInts_ok h1
        rw [e1, e2, List.drop_left] at h2
        obtain ⟨r2, l2, t2, e3, e4⟩ := dInts_ok h2
        refine ⟨⟨r1 p (by simp), r1 w (by simp), trip_ok bd r2, by show ((flatI (trip bd)).length : Int) ≤ _; rw [flat_trip bd hm]; exact l2⟩, t2, ?_, ?_⟩
        · rw [e1, e3]
          simp only [encF, flat_trip bd hm, List.append_assoc]
        · rw [e2, e4]
          simp only [encF, flat_trip bd hm, List.length_append]
      · cases h
    · cases h
  · cases h
/-- Functions at the beginning of bytes. -/
def dFuns : Nat → List UInt8 → Option (List KM.Fn × Nat)
  | 0, _ => some ([], 0)
  | n + 1, b => match dFun b with
    | none => none
    | some (f, u) => (match dFuns n (b.drop u) with
      | none => none
      | some (fs, m) => some (f :: fs, u + m))
theorem dFuns_enc : ∀ (fs : List KM.Fn), (∀ f ∈ fs, FOk f) → ∀ t, dFuns fs.length (fs.flatMap encF ++ t) = some (fs, (fs.flatMap encF).length)
  | [], _, t => rfl
  | f :: fs, h, t => by
    have h1 := dFun_enc (h f (by simp)) (fs.flatMap encF ++ t)
    have h2 := dFuns_enc fs (fun g hg => h g (by simp [hg])) t
    rw [List.length_cons, dFuns, List.flatMap_cons, List.append_assoc, h1]
    simp only [List.drop_left]
    rw [h2]
    simp
theorem dFuns_ok : ∀ (n : Nat) (b : List UInt8) (fs : List KM.Fn) (u : Nat), dFuns n b = some (fs, u) → fs.length = n ∧ (∀ f ∈ fs, FOk f) ∧ ∃ t, b = fs.flatMap encF ++ t ∧ u = (fs.flatMap encF).length
  | 0, b, fs, u, h => by
    rw [dFuns] at h
    injection h with h
    injection h with h1 h2
    subst h1 h2
    exact ⟨rfl, fun f hf => (by cases hf), b, by simp, by simp⟩
  | n + 1, b, fs, u, h => by
    rw [dFuns] at h
    split at h
    · cases h
    · rename_i f v h1
      split at h
      · cases h
      · rename_i gs m h2
        injection h with h
        injection h with h3 h4
        subst h3 h4
        obtain ⟨r1, t1, e1, e2⟩ := dFun_ok h1
        rw [e1, e2, List.drop_left] at h2
        obtain ⟨hl, r2, t2, e3, e4⟩ := dFuns_ok n _ _ _ h2
        refine ⟨by rw [List.length_cons, hl], fun g hg => ?_, t2, ?_, ?_⟩
        · rcases List.mem_cons.1 hg with rfl | hg
          · exact r1
          · exact r2 g hg
        · rw [e1, e3]; simp
        · rw [e2, e4]; simp
/-- A code at the beginning of bytes. -/
def dCode (b : List UInt8) : Option (Int × List KM.Fn × Nat) :=
  match gInt b with
  | .ok ch u => (match gInt (b.drop u) with
    | .ok n m => if 0 ≤ n then (match dFuns n.toNat (b.drop (u + m)) with
      | some (fs, k) => some (ch, fs, u + m + k)
      | none => none) else none
    | _ => none)
  | _ => none
structure COk (ch : Int) (fs : List KM.Fn) : Prop where
  ch : inRange ch
  len : inRange (fs.length : Int)
  all : ∀ f ∈ fs, FOk f
theorem dCode_enc {ch : Int} {fs : List KM.Fn} (h : COk ch fs) (t : List UInt8) : dCode (encK ch fs ++ t) = some (ch, fs, (encK ch fs).length) := by
  have h1 : gInt (encK ch fs ++ t) = .ok ch (enc ch).length := by
    rw [encK, List.append_assoc, List.append_assoc]
    exact gInt_enc h.ch _
  have h2 : gInt ((encK ch fs ++ t).drop (enc ch).length) = .ok (fs.length : Int) (enc (fs.length : Int)).length := by
    rw [encK, List.append_assoc, List.append_assoc, List.drop_left]
    exact gInt_enc h.len _
  have h3 : (encK ch fs ++ t).drop ((enc ch).length + (enc (fs.length : Int)).length) = fs.flatMap encF ++ t := by
    rw [encK, ← List.length_append, List.append_assoc, List.drop_left]
  unfold dCode
  rw [h1]
  simp only []
  rw [h2]
  simp only []
  rw [if_pos (by omega), h3, Int.toNat_natCast, dFuns_enc fs h.all t]
  simp only [encK, List.length_append]
theorem dCode_ok {b : List UInt8} {ch : Int} {fs : List KM.Fn} {u : Nat} (h : dCode b = some (ch, fs, u)) : COk ch fs ∧ ∃ t, b = encK ch fs ++ t ∧ u = (encK ch fs).length := by
  unfold dCode at h
  split at h
  · rename_i c v h1
    split at h
    · rename_i n m h2
      split at h
      · rename_i h0
        split at h
        · rename_i gs k h3
          injection h with h
          injection h with h4 h5
          injection h5 with h5 h6
          subst h4 h5 h6
          obtain ⟨r1, t1, e1, e2⟩ := gInt_ok h1
          rw [e1, e2, List.drop_left] at h2
          obtain ⟨r2, t2, e3, e4⟩ := gInt_ok h2
          have e5 : b.drop (v + m) = t2 := by
            rw [e1, e3, e2, e4, ← List.length_append, ← List.append_assoc, List.drop_left]
          rw [e5] at h3
          obtain ⟨hl, r3, t3, e6, e7⟩ := dFuns_ok _ _ _ _ h3
          have e8 : (gs.length : Int) = n := by rw [hl]; omega
          refine ⟨⟨r1, by rw [e8]; exact r2, r3⟩, t3, ?_, ?_⟩
          · rw [e1, e3, e6, encK, e8]; simp
          · rw [e2, e4, e7, encK, e8]; simp only [List.length_append]
        · cases h
      · cases h
    · cases h
  · cases h
/-- The same bytes are the same code. -/
theorem encK_inj {ch ch' : Int} {fs gs : List KM.Fn} (h : COk ch fs) (h' : COk ch' gs) (e : encK ch fs = encK ch' gs) : ch = ch' ∧ fs = gs := by
  have h1 := dCode_enc h []
  have h2 := dCode_enc h' []
  rw [e, h2] at h1
  injection h1 with h1
  injection h1 with h3 h4
  injection h4 with h4 h5
  exact ⟨h3.symm, h4.symm⟩
/-- No beginning of a code's bytes is a code. -/
theorem dCode_cut {ch : Int} {fs : List KM.Fn} (h : COk ch fs) {p q : List UInt8} (e : p ++ q = encK ch fs) (hq : q ≠ []) : dCode p = none := by
  cases hp : dCode p with
  | none => rfl
  | some r =>
    exfalso
    obtain ⟨c, gs, u⟩ := r
    obtain ⟨r1, t, e1, e2⟩ := dCode_ok hp
    have h1 := dCode_enc h []
    have h2 := dCode_enc r1 (t ++ q)
    rw [List.append_nil, ← e, e1, List.append_assoc, h2] at h1
    injection h1 with h1
    injection h1 with h3 h4
    injection h4 with h4 h5
    rw [List.length_append, List.length_append] at h5
    have : q.length = 0 := by omega
    exact hq (List.eq_nil_of_length_eq_zero this)
end Go.Proofs.YtbdknncmlcbbpaaDoor
