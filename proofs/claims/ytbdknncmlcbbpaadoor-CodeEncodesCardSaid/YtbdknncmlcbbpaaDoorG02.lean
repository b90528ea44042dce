/-
  CODE, plain mathematics: instructions, shapes, and how they are spread; what is so of the heights that are found.
-/
import Derived.Test.YtbdknncmlcbbpaaDoorG01
set_option linter.unusedVariables false
namespace Go.Proofs.YtbdknncmlcbbpaaDoor.KM
open Go.RowKit

structure Ins where
  op : Int
  a : Int
  b : Int
structure Fn where
  p : Int
  w : Int
  body : List Ins
structure Co where
  ch : Int
  fs : List Fn
/-- A shape: the height, and the numbers of the handlers at each height. -/
structure Sh where
  h : Int
  l : List Int

def sameS (s t : Sh) : Bool := s.h == t.h && decide (s.l = t.l)
theorem sameS_iff {s t : Sh} : sameS s t = true ↔ s = t := by
  cases s; cases t
  simp [sameS]
def zs33 : List Int := List.replicate 33 0
def noS : Sh := ⟨-1, zs33⟩
def zeroS : Sh := ⟨0, zs33⟩
/-- What the instructions do: pops, pops B more, pushes, ends. -/
def eff : List (Int × Bool × Int × Bool) :=
  [(0, false, 1, false), (0, false, 1, false), (1, false, 0, false), (1, false, 1, false), (2, false, 0, false), (2, false, 1, false), (1, false, 1, false), (0, false, 0, true), (1, false, 0, false), (0, true, 1, false),
   (1, false, 0, true), (1, false, 0, true), (0, false, 0, false), (0, false, 0, false), (1, false, 0, false), (0, false, 1, false), (0, true, 0, false), (1, false, 0, false), (1, false, 0, false)]
def effAt (op : Int) : Int × Bool × Int × Bool := (eff[op.toNat]?).getD (0, false, 0, false)
def pops (x : Ins) : Int := (effAt x.op).1 + if (effAt x.op).2.1 then x.b else 0
def pushes (x : Ins) : Int := (effAt x.op).2.2.1
def ends (x : Ins) : Bool := (effAt x.op).2.2.2
def floorAt (l : List Int) : Nat → Nat
  | 0 => 0
  | h + 1 => if (l[h + 1]?).getD 0 = 0 then floorAt l h else h + 1
theorem floorAt_le (l : List Int) : ∀ h, floorAt l h ≤ h
  | 0 => Nat.le_refl _
  | h + 1 => by
    unfold floorAt
    split
    · have := floorAt_le l h; omega
    · omega
def at16 (l : List Int) (i : Nat) : Int := (l[i]?).getD 0
def after (x : Ins) (s : Sh) : Option Sh :=
  if s.h - pops x < (floorAt s.l s.h.toNat : Int) then none else
  if s.h - pops x + pushes x > 32 then none else
  if x.op = 12 then some ⟨s.h - pops x + pushes x, s.l.set (s.h - pops x + pushes x).toNat (IntKind.i16.wrap (at16 s.l (s.h - pops x + pushes x).toNat + 1))⟩ else
  if x.op = 13 then (if at16 s.l (floorAt s.l s.h.toNat) = 0 then none else some ⟨s.h - pops x + pushes x, s.l.set (floorAt s.l s.h.toNat) (IntKind.i16.wrap (at16 s.l (floorAt s.l s.h.toNat) - 1))⟩) else
  some ⟨s.h - pops x + pushes x, s.l⟩
theorem after_h {x : Ins} {s t : Sh} (h : after x s = some t) : t.h = s.h - pops x + pushes x ∧ t.h ≤ 32 ∧ 0 ≤ s.h - pops x ∧ t.l.length = s.l.length := by
  unfold after at h
  have hf : (0 : Int) ≤ (floorAt s.l s.h.toNat : Int) := by omega
  split at h
  · cases h
  · split at h
    · cases h
    · split at h
      · cases h; exact ⟨rfl, by dsimp only; omega, by omega, by simp⟩
      · split at h
        · split at h
          · cases h
          · cases h; exact ⟨rfl, by dsimp only; omega, by omega, by simp⟩
        · cases h; exact ⟨rfl, by dsimp only; omega, by omega, rfl⟩

theorem effAt_nn (op : Int) : 0 ≤ (effAt op).1 ∧ 0 ≤ (effAt op).2.2.1 := by
  have h : ∀ k : Nat, 0 ≤ ((eff[k]?).getD (0, false, 0, false)).1 ∧ 0 ≤ ((eff[k]?).getD (0, false, 0, false)).2.2.1 := by
    intro k
    by_cases hk : k < 19
    · have : ∀ k : Fin 19, 0 ≤ ((eff[k.1]?).getD (0, false, 0, false)).1 ∧ 0 ≤ ((eff[k.1]?).getD (0, false, 0, false)).2.2.1 := by decide
      exact this ⟨k, hk⟩
    · have hl : eff.length = 19 := rfl
      rw [List.getElem?_eq_none (by omega)]; decide
  exact h op.toNat
theorem pushes_nn (x : Ins) : 0 ≤ pushes x := (effAt_nn x.op).2
/-- The state of the spreading. -/
structure St where
  ok : Bool
  sh : List Sh
  wk : List Nat
def shAt (l : List Sh) (i : Nat) : Sh := (l[i]?).getD noS
def insAt (l : List Ins) (i : Nat) : Ins := (l[i]?).getD ⟨0, 0, 0⟩
/-- A shape given to an instruction. -/
def give (sh : List Sh) (wk : List Nat) (at_ : Nat) (s : Sh) : St :=
  if at_ = sh.length then ⟨false, sh, wk⟩ else
  if (shAt sh at_).h = -1 then ⟨true, sh.set at_ s, wk ++ [at_]⟩ else ⟨sameS (shAt sh at_) s, sh, wk⟩
/-- A shape given, if all is right so far. -/
def giveIf (b : Bool) (st : St) (at_ : Nat) (s : Sh) : St := if b && st.ok then give st.sh st.wk at_ s else st
def one (body : List Ins) (sh : List Sh) (wk : List Nat) : St :=
  match wk.getLast? with
  | none => ⟨true, sh, wk⟩
  | some i =>
    match after (insAt body i) (shAt sh i) with
    | none => ⟨false, sh, wk.dropLast⟩
    | some t =>
      giveIf (decide ((insAt body i).op = 12)) (giveIf (decide ((insAt body i).op = 7 ∨ (insAt body i).op = 8)) (giveIf (!ends (insAt body i)) ⟨true, sh, wk.dropLast⟩ (i + 1) t) (insAt body i).a.toNat t) (insAt body i).a.toNat (shAt sh i)
def more (st : St) : Bool := st.ok && !st.wk.isEmpty
def run (body : List Ins) : Nat → St → St
  | 0, st => st
  | n + 1, st => if more st then run body n (one body st.sh st.wk) else st
def start (n : Nat) : St := give (List.replicate n noS) [] 0 zeroS
def hts (body : List Ins) : Option (List Int) :=
  let st := run body (body.length + 1) (start body.length)
  if st.ok then some (st.sh.map (·.h)) else none

/-- Shapes that have not been given yet. -/
def unk : List Sh → Nat
  | [] => 0
  | s :: l => (if s.h = -1 then 1 else 0) + unk l
theorem unk_replicate : ∀ n, unk (List.replicate n noS) = n
  | 0 => rfl
  | n + 1 => by
    have h : noS.h = -1 := rfl
    rw [List.replicate_succ, unk, unk_replicate n, if_pos h]; omega
theorem unk_set : ∀ (l : List Sh) (i : Nat) (s : Sh), i < l.length → (shAt l i).h = -1 → s.h ≠ -1 → unk (l.set i s) + 1 = unk l
  | [], i, s, h, _, _ => by simp at h
  | t :: l, 0, s, _, h, hs => by
    have ht : t.h = -1 := by simpa [shAt] using h
    rw [List.set_cons_zero, unk, unk, if_neg hs, if_pos ht]; omega
  | t :: l, i + 1, s, hi, h, hs => by
    have := unk_set l i s (by simpa using hi) (by simpa [shAt] using h) hs
    rw [List.set_cons_succ, unk, unk]; omega
def mu (st : St) : Nat := unk st.sh + st.wk.length

theorem run_stop {body : List Ins} {st : St} (h : more st = false) : ∀ n, run body n st = st
  | 0 => rfl
  | n + 1 => by rw [run, h]; rfl

/-- What holds of each shape. -/
def Good (s : Sh) : Prop := (s.h = -1 ∨ 0 ≤ s.h ∧ s.h ≤ 32) ∧ s.l.length = 33
theorem good_no : Good noS := ⟨.inl rfl, by simp [noS, zs33]⟩
theorem good_zero : Good zeroS := ⟨.inr ⟨by simp [zeroS], by simp [zeroS]⟩, by simp [zeroS, zs33]⟩
structure Wf (n : Nat) (st : St) : Prop where
  len : st.sh.length = n
  good : ∀ i, Good (shAt st.sh i)
  work : ∀ i ∈ st.wk, i < n ∧ (shAt st.sh i).h ≠ -1
theorem shAt_set {l : List Sh} {i : Nat} {s : Sh} (hi : i < l.length) (j : Nat) : shAt (l.set i s) j = if j = i then s else shAt l j := by
  unfold shAt
  by_cases h : j = i
  · subst h; rw [if_pos rfl, List.getElem?_set_self hi]; rfl
  · rw [if_neg h, List.getElem?_set_ne (by omega)]
/-- What giving does. -/
structure GiveOk (n : Nat) (st : St) (i : Nat) (s : Sh) (st' : St) : Prop where
  wf : Wf n st'
  mu_ : mu st' = mu st
  keep : ∀ j, (shAt st.sh j).h ≠ -1 → shAt st'.sh j = shAt st.sh j
  got : st'.ok = true → i < n ∧ shAt st'.sh i = s
  fresh : ∀ j, (shAt st'.sh j).h ≠ -1 → (shAt st.sh j).h ≠ -1 ∨ j ∈ st'.wk
  work : ∀ j ∈ st.wk, j ∈ st'.wk
theorem give_wf {n : Nat} {st : St} (h : Wf n st) {i : Nat} {s : Sh} (hi : i ≤ n) (hs : 0 ≤ s.h ∧ s.h ≤ 32) (hl : s.l.length = 33) : GiveOk n st i s (give st.sh st.wk i s) := by
  unfold give
  rw [h.len]
  split
  · exact ⟨⟨h.len, h.good, h.work⟩, rfl, fun _ _ => rfl, fun e => (by cases e), fun j hj => .inl hj, fun j hj => hj⟩
  · next hne =>
    have hin : i < st.sh.length := by rw [h.len]; omega
    split
    · next hu =>
      have hsn : s.h ≠ -1 := by omega
      refine ⟨⟨by simpa using h.len, fun j => ?_, fun j hj => ?_⟩, ?_, fun j hj => ?_, fun _ => ⟨by omega, ?_⟩, fun j hj => ?_, fun j hj => List.mem_append_left _ hj⟩
      · show Good (shAt (st.sh.set i s) j)
        rw [shAt_set hin]
        split
        · exact ⟨.inr hs, hl⟩
        · exact h.good j
      · show j < n ∧ (shAt (st.sh.set i s) j).h ≠ -1
        rw [shAt_set hin]
        rcases List.mem_append.1 hj with hj | hj
        · obtain ⟨h1, h2⟩ := h.work j hj
          refine ⟨h1, ?_⟩
          split
          · exact hsn
          · exact h2
        · have hji : j = i := by simpa using hj
          rw [if_pos hji]
          exact ⟨by omega, hsn⟩
      · show unk (st.sh.set i s) + (st.wk ++ [i]).length = unk st.sh + st.wk.length
        have := unk_set st.sh i s hin hu hsn
        rw [List.length_append, List.length_singleton]; omega
      · show shAt (st.sh.set i s) j = _
        rw [shAt_set hin, if_neg (fun e => by subst e; exact hj hu)]
      · show shAt (st.sh.set i s) i = s
        rw [shAt_set hin, if_pos rfl]
      · by_cases hji : j = i
        · right; subst hji; exact List.mem_append_right _ (List.mem_singleton.2 rfl)
        · left
          have h2 : (shAt (st.sh.set i s) j).h ≠ -1 := hj
          rwa [shAt_set hin, if_neg hji] at h2
    · exact ⟨⟨h.len, h.good, h.work⟩, rfl, fun _ _ => rfl, fun e => ⟨by omega, sameS_iff.1 e⟩, fun j hj => .inl hj, fun j hj => hj⟩
theorem GiveOk.self {n : Nat} {st : St} (h : Wf n st) {i : Nat} {s : Sh} (hg : st.ok = true → i < n ∧ shAt st.sh i = s) : GiveOk n st i s st :=
  ⟨h, rfl, fun _ _ => rfl, hg, fun _ hj => .inl hj, fun _ hj => hj⟩
/-- An instruction whose shapes are given. -/
def Closed (n : Nat) (body : List Ins) (sh : List Sh) (i : Nat) : Prop :=
  ∃ t, after (insAt body i) (shAt sh i) = some t ∧ (ends (insAt body i) = false → i + 1 < n ∧ shAt sh (i + 1) = t) ∧ ((insAt body i).op = 7 ∨ (insAt body i).op = 8 → (insAt body i).a.toNat < n ∧ shAt sh (insAt body i).a.toNat = t) ∧
    ((insAt body i).op = 12 → (insAt body i).a.toNat < n ∧ shAt sh (insAt body i).a.toNat = shAt sh i)
/-- All that has a shape, and is not to be done, is closed. -/
def Inv (n : Nat) (body : List Ins) (st : St) : Prop := ∀ j, (shAt st.sh j).h ≠ -1 → j ∈ st.wk ∨ Closed n body st.sh j
theorem Closed.keep {n : Nat} {body : List Ins} {sh sh' : List Sh} {i : Nat} (h : Closed n body sh i) (hi : (shAt sh i).h ≠ -1) (hg : ∀ j, 0 ≤ (shAt sh j).h ∨ (shAt sh j).h = -1) (hk : ∀ j, (shAt sh j).h ≠ -1 → shAt sh' j = shAt sh j) : Closed n body sh' i := by
  obtain ⟨t, h1, h2, h3, h4⟩ := h
  have e := hk i hi
  have ht : 0 ≤ t.h → ∀ j, shAt sh j = t → shAt sh' j = t := fun h0 j hj => by rw [hk j (by rw [hj]; omega), hj]
  refine ⟨t, by rw [e]; exact h1, fun a => ?_, fun a => ?_, fun a => ?_⟩
  · obtain ⟨b1, b2⟩ := h2 a
    refine ⟨b1, ?_⟩
    rcases hg (i + 1) with h0 | h0
    · rw [b2] at h0; exact ht h0 _ b2
    · have a1 := after_h h1
      rw [b2] at h0
      have : 0 ≤ pushes (insAt body i) := pushes_nn _
      omega
  · obtain ⟨b1, b2⟩ := h3 a
    refine ⟨b1, ?_⟩
    have a1 := after_h h1
    have : 0 ≤ pushes (insAt body i) := pushes_nn _
    exact ht (by omega) _ b2
  · obtain ⟨b1, b2⟩ := h4 a
    refine ⟨b1, ?_⟩
    rw [e, hk _ (by rw [b2]; exact hi), b2]
structure GiveIf (n : Nat) (b : Bool) (st : St) (i : Nat) (s : Sh) (st' : St) : Prop where
  wf : Wf n st'
  mu_ : mu st' = mu st
  keep : ∀ j, (shAt st.sh j).h ≠ -1 → shAt st'.sh j = shAt st.sh j
  got : st'.ok = true → st.ok = true ∧ (b = true → i < n ∧ shAt st'.sh i = s)
  fresh : ∀ j, (shAt st'.sh j).h ≠ -1 → (shAt st.sh j).h ≠ -1 ∨ j ∈ st'.wk
  work : ∀ j ∈ st.wk, j ∈ st'.wk
theorem giveIf_ok {n : Nat} {st : St} (h : Wf n st) (b : Bool) {i : Nat} {s : Sh} (hi : b = true → i ≤ n) (hs : 0 ≤ s.h ∧ s.h ≤ 32) (hl : s.l.length = 33) : GiveIf n b st i s (giveIf b st i s) := by
  unfold giveIf
  split
  · next hb =>
    rw [Bool.and_eq_true] at hb
    have g := give_wf h (hi hb.1) hs hl
    exact ⟨g.wf, g.mu_, g.keep, fun e => ⟨hb.2, fun _ => g.got e⟩, g.fresh, g.work⟩
  · next hb =>
    refine ⟨h, rfl, fun _ _ => rfl, fun e => ⟨e, fun e2 => ?_⟩, fun _ hj => .inl hj, fun _ hj => hj⟩
    rw [e, e2] at hb; simp at hb
/-- Operands that name instructions name those of the body. -/
def Named (n : Nat) (body : List Ins) : Prop := ∀ i < n, (insAt body i).op = 7 ∨ (insAt body i).op = 8 ∨ (insAt body i).op = 12 → 0 ≤ (insAt body i).a ∧ (insAt body i).a.toNat < n
theorem one_ok {n : Nat} {body : List Ins} {st : St} (h : Wf n st) (hr : Named n body) (hw : st.wk ≠ []) :
    Wf n (one body st.sh st.wk) ∧ mu (one body st.sh st.wk) + 1 = mu st ∧ (∀ j, (shAt st.sh j).h ≠ -1 → shAt (one body st.sh st.wk).sh j = shAt st.sh j) ∧ (Inv n body st → (one body st.sh st.wk).ok = true → Inv n body (one body st.sh st.wk)) := by
  obtain ⟨ys, i, hys⟩ : ∃ ys i, st.wk = ys ++ [i] := ⟨_, _, (List.dropLast_concat_getLast hw).symm⟩
  obtain ⟨hi, hk⟩ := h.work i (by rw [hys]; simp)
  have hw1 : Wf n ⟨true, st.sh, ys⟩ := ⟨h.len, h.good, fun j hj => h.work j (by rw [hys]; exact List.mem_append_left _ hj)⟩
  have hm1 : mu ⟨true, st.sh, ys⟩ + 1 = mu st := by
    unfold mu; rw [hys, List.length_append, List.length_singleton]; rfl
  have hgi := h.good i
  have hg0 : 0 ≤ (shAt st.sh i).h ∧ (shAt st.sh i).h ≤ 32 := by
    rcases hgi.1 with h0 | h0
    · exact absurd h0 hk
    · exact h0
  unfold one
  rw [hys, List.getLast?_append, List.getLast?_singleton, List.dropLast_concat]
  simp only [Option.some_or]
  cases ha : after (insAt body i) (shAt st.sh i) with
  | none => exact ⟨⟨h.len, h.good, hw1.work⟩, hm1, fun _ _ => rfl, fun _ e => (by cases e)⟩
  | some t =>
    simp only
    obtain ⟨a1, a2, a3, a4⟩ := after_h ha
    have hpn := pushes_nn (insAt body i)
    have ht : 0 ≤ t.h ∧ t.h ≤ 32 := ⟨by omega, a2⟩
    have htl : t.l.length = 33 := by rw [a4]; exact hgi.2
    have g1 := giveIf_ok hw1 (!ends (insAt body i)) (i := i + 1) (fun _ => by omega) ht htl
    generalize giveIf (!ends (insAt body i)) ⟨true, st.sh, ys⟩ (i + 1) t = s1 at g1 ⊢
    have g2 := giveIf_ok g1.wf (decide ((insAt body i).op = 7 ∨ (insAt body i).op = 8)) (i := (insAt body i).a.toNat) (fun e => by
      have := hr i hi (by have := of_decide_eq_true e; omega); omega) ht htl
    generalize giveIf (decide ((insAt body i).op = 7 ∨ (insAt body i).op = 8)) s1 (insAt body i).a.toNat t = s2 at g2 ⊢
    have g3 := giveIf_ok g2.wf (decide ((insAt body i).op = 12)) (i := (insAt body i).a.toNat) (fun e => by
      have := hr i hi (by have := of_decide_eq_true e; omega); omega) hg0 hgi.2
    generalize giveIf (decide ((insAt body i).op = 12)) s2 (insAt body i).a.toNat (shAt st.sh i) = s3 at g3 ⊢
    have tn : t.h ≠ -1 := by omega
    have k12 : ∀ j, (shAt st.sh j).h ≠ -1 → shAt s2.sh j = shAt st.sh j := fun j hj => by
      have e1 : shAt s1.sh j = shAt st.sh j := g1.keep j hj
      rw [g2.keep j (by rw [e1]; exact hj), e1]
    have k13 : ∀ j, (shAt st.sh j).h ≠ -1 → shAt s3.sh j = shAt st.sh j := fun j hj => by
      rw [g3.keep j (by rw [k12 j hj]; exact hj), k12 j hj]
    refine ⟨g3.wf, by rw [g3.mu_, g2.mu_, g1.mu_]; exact hm1, k13, fun hinv hok j hj => ?_⟩
    obtain ⟨o2, c3⟩ := g3.got hok
    obtain ⟨o1, c2⟩ := g2.got o2
    obtain ⟨_, c1⟩ := g1.got o1
    rcases g3.fresh j hj with h2 | h2
    · rcases g2.fresh j h2 with h1 | h1
      · rcases g1.fresh j h1 with h0 | h0
        · have h0' : (shAt st.sh j).h ≠ -1 := h0
          rcases hinv j h0' with hm | hc
          · rw [hys] at hm
            rcases List.mem_append.1 hm with hm | hm
            · exact .inl (g3.work j (g2.work j (g1.work j hm)))
            · right
              have hji : j = i := by simpa using hm
              subst hji
              refine ⟨t, by rw [k13 j h0']; exact ha, fun e => ?_, fun e => ?_, fun e => ?_⟩
              · obtain ⟨b1, b2⟩ := c1 (by rw [e]; rfl)
                have e2 : shAt s2.sh (j + 1) = t := by rw [g2.keep _ (by rw [b2]; exact tn), b2]
                exact ⟨b1, by rw [g3.keep _ (by rw [e2]; exact tn), e2]⟩
              · obtain ⟨b1, b2⟩ := c2 (decide_eq_true e)
                exact ⟨b1, by rw [g3.keep _ (by rw [b2]; exact tn), b2]⟩
              · obtain ⟨b1, b2⟩ := c3 (decide_eq_true e)
                exact ⟨b1, by rw [b2, k13 j h0']⟩
          · right
            refine hc.keep h0' (fun q => ?_) k13
            rcases (h.good q).1 with h3 | h3
            · exact .inr h3
            · exact .inl h3.1
        · exact .inl (g3.work j (g2.work j h0))
      · exact .inl (g3.work j h1)
    · exact .inl h2
theorem run_ok {n : Nat} {body : List Ins} (hr : Named n body) : ∀ (k : Nat) (st : St), Wf n st → mu st ≤ k → (st.ok = true → Inv n body st) →
    Wf n (run body k st) ∧ more (run body k st) = false ∧ ((run body k st).ok = true → Inv n body (run body k st)) ∧ ∀ j, (shAt st.sh j).h ≠ -1 → shAt (run body k st).sh j = shAt st.sh j
  | 0, st, h, hm, hi => by
    refine ⟨h, ?_, hi, fun _ _ => rfl⟩
    have : st.wk = [] := List.eq_nil_of_length_eq_zero (by unfold mu at hm; omega)
    show more st = false
    unfold more; rw [this]; simp
  | k + 1, st, h, hm, hi => by
    rw [run]
    by_cases hmo : more st = true
    · rw [if_pos hmo]
      have hmo2 := hmo
      unfold more at hmo2
      rw [Bool.and_eq_true] at hmo2
      obtain ⟨o1, o2, o3, o4⟩ := one_ok h hr (body := body) (fun e => by rw [e] at hmo2; simp at hmo2)
      obtain ⟨r1, r2, r3, r4⟩ := run_ok hr k _ o1 (by omega) (o4 (hi hmo2.1))
      exact ⟨r1, r2, r3, fun j hj => by rw [r4 j (by rw [o3 j hj]; exact hj), o3 j hj]⟩
    · rw [if_neg hmo]
      exact ⟨h, by simpa using hmo, hi, fun _ _ => rfl⟩
theorem shAt_rep (n j : Nat) : shAt (List.replicate n noS) j = noS := by
  unfold shAt
  rw [List.getElem?_replicate]
  split <;> rfl
theorem wf_rep (n : Nat) (b : Bool) : Wf n ⟨b, List.replicate n noS, []⟩ :=
  ⟨by simp, fun i => by rw [shAt_rep]; exact good_no, fun i hi => by cases hi⟩
theorem start_ok (n : Nat) : Wf n (start n) ∧ mu (start n) = n ∧ ((start n).ok = true → 0 < n ∧ shAt (start n).sh 0 = zeroS) ∧ ∀ j, (shAt (start n).sh j).h ≠ -1 → j ∈ (start n).wk := by
  have g := give_wf (wf_rep n true) (i := 0) (s := zeroS) (by omega) ⟨by simp [zeroS], by simp [zeroS]⟩ (by simp [zeroS, zs33])
  refine ⟨g.wf, ?_, g.got, fun j hj => ?_⟩
  · have := g.mu_
    rw [show mu (start n) = _ from this]
    show unk (List.replicate n noS) + 0 = n
    rw [unk_replicate]; rfl
  · rcases g.fresh j hj with h | h
    · exact absurd (by show (shAt (List.replicate n noS) j).h = -1; rw [shAt_rep]; rfl) h
    · exact h
def hSt (body : List Ins) : St := run body (body.length + 1) (start body.length)
theorem hSt_ok {body : List Ins} (hr : Named body.length body) : Wf body.length (hSt body) ∧ more (hSt body) = false ∧ ((hSt body).ok = true → Inv body.length body (hSt body)) ∧ ∀ j, (shAt (start body.length).sh j).h ≠ -1 → shAt (hSt body).sh j = shAt (start body.length).sh j := by
  obtain ⟨s1, s2, s3, s4⟩ := start_ok body.length
  exact run_ok hr _ _ s1 (by omega) fun _ j hj => .inl (s4 j hj)
/-- A run that is under way. -/
theorem run_from {body : List Ins} {k : Nat} {st : St} (h : more st = true) (hk : mu st ≤ k) (hw : st.wk ≠ []) : ∃ k', k = k' + 1 ∧ run body k st = run body k' (one body st.sh st.wk) := by
  have : 0 < mu st := by unfold mu; have := List.length_pos_iff.2 hw; omega
  refine ⟨k - 1, by omega, ?_⟩
  obtain ⟨k', rfl⟩ : ∃ k', k = k' + 1 := ⟨k - 1, by omega⟩
  rw [run, if_pos h]; rfl
theorem map_h (l : List Sh) (i : Nat) (h : i < l.length) : (l.map (·.h))[i]? = some (shAt l i).h := by
  rw [List.getElem?_map, shAt, List.getElem?_eq_getElem h]; rfl
/-- What is so of the heights. -/
theorem hts_steps {body : List Ins} {hs : List Int} (hr : Named body.length body) (h : hts body = some hs) :
    hs.length = body.length ∧ 0 < body.length ∧ hs[0]? = some 0 ∧ ∀ k, k < body.length → ∃ v, hs[k]? = some v ∧ (v = -1 ∨ 0 ≤ v ∧ v ≤ 32 ∧ pops (insAt body k) ≤ v ∧
      (ends (insAt body k) = false → k + 1 < body.length ∧ hs[k + 1]? = some (v - pops (insAt body k) + pushes (insAt body k))) ∧
      ((insAt body k).op = 7 ∨ (insAt body k).op = 8 → (insAt body k).a.toNat < body.length ∧ hs[(insAt body k).a.toNat]? = some (v - pops (insAt body k) + pushes (insAt body k))) ∧
      ((insAt body k).op = 12 → (insAt body k).a.toNat < body.length ∧ hs[(insAt body k).a.toNat]? = some v)) := by
  obtain ⟨w1, w2, w3, w4⟩ := hSt_ok hr
  obtain ⟨s1, s2, s3, s4⟩ := start_ok body.length
  have hok : (hSt body).ok = true ∧ hs = (hSt body).sh.map (·.h) := by
    unfold hts at h
    show (run _ _ _).ok = true ∧ hs = (run _ _ _).sh.map _
    simp only at h
    split at h
    · next e => cases h; exact ⟨e, rfl⟩
    · cases h
  obtain ⟨ho, rfl⟩ := hok
  have hwk : (hSt body).wk = [] := by
    unfold more at w2
    rw [ho] at w2
    simpa using w2
  have hst : (start body.length).ok = true := by
    by_cases e : (start body.length).ok = true
    · exact e
    · have : hSt body = start body.length := run_stop (by unfold more; simp [e]) _
      rw [this] at ho
      exact absurd ho e
  obtain ⟨hn, hz⟩ := s3 hst
  have hz2 : shAt (hSt body).sh 0 = zeroS := by rw [w4 0 (by rw [hz]; decide), hz]
  refine ⟨by rw [List.length_map, w1.len], hn, ?_, fun k hk => ⟨_, map_h _ _ (by rw [w1.len]; exact hk), ?_⟩⟩
  · rw [map_h _ _ (by rw [w1.len]; exact hn), hz2]; rfl
  · by_cases hu : (shAt (hSt body).sh k).h = -1
    · exact .inl hu
    · right
      rcases w3 ho k hu with hm | ⟨t, c1, c2, c3, c4⟩
      · rw [hwk] at hm; cases hm
      · obtain ⟨a1, a2, a3, a4⟩ := after_h c1
        have g : 0 ≤ (shAt (hSt body).sh k).h ∧ (shAt (hSt body).sh k).h ≤ 32 := by
          rcases (w1.good k).1 with h0 | h0
          · exact absurd h0 hu
          · exact h0
        refine ⟨g.1, g.2, by omega, fun e => ?_, fun e => ?_, fun e => ?_⟩
        · obtain ⟨b1, b2⟩ := c2 e
          exact ⟨b1, by rw [map_h _ _ (by rw [w1.len]; exact b1), b2, a1]⟩
        · obtain ⟨b1, b2⟩ := c3 e
          exact ⟨b1, by rw [map_h _ _ (by rw [w1.len]; exact b1), b2, a1]⟩
        · obtain ⟨b1, b2⟩ := c4 e
          exact ⟨b1, by rw [map_h _ _ (by rw [w1.len]; exact b1), b2]⟩
end Go.Proofs.YtbdknncmlcbbpaaDoor.KM
