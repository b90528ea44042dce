/-
  The reference's Plain, between.
-/
import Derived.Test.YthhhgakeeekalaaDoorG06
import Derived.Test.YthhhgakeeekalaaDoorG08
import Derived.Deep.RegionWith
import Derived.Deep.RegionHeld3
set_option linter.unusedVariables false
namespace Go.Proofs.YthhhgakeeekalaaDoor.TR
/-- A plain type. -/
def isPlain (t : T) : Bool := (t.k == 0 || t.k == 1) && t.n == 0 && t.m == 0 && t.kids.length == 0
/-- The numbers and the kids' number lie in ranges. -/
def btw (t : T) (most last least kids : Int) : Bool := decide (0 ≤ t.n) && decide (t.n ≤ most) && decide (0 ≤ t.m) && decide (t.m ≤ last) && decide (least ≤ t.kids.length) && decide ((t.kids.length : Int) ≤ kids)
end Go.Proofs.YthhhgakeeekalaaDoor.TR
namespace Go.Proofs.YthhhgakeeekalaaDoor
open Go.RowKit WM TR

set_option maxRecDepth 100000 in
set_option maxHeartbeats 2000000 in
theorem plain_is (t : T) (A : Option Addr) (c : Nat) (w : World) (hst : size t ≤ 1000000) :
    Calls Tryd.prog 85 #[.agg #[.int .i64 t.k, .int .i64 t.n, .int .i64 t.m, .slice A t.kids.length c]] w fun e w' => e = .returned (.bool (isPlain t)) ∧ Below w.heap.size w w' := by
  have hkl : t.kids.length ≤ 1000000 := by have := kids_lt t; omega
  obtain ⟨k, n, m, kids⟩ := t
  simp only at hkl ⊢
  have HR : Hid (isPlain ⟨k, n, m, kids⟩ = ((k == 0 || k == 1) && n == 0 && m == 0 && ((kids.length : Int) == 0))) := Lib.hid (by simp [isPlain]; rw [Bool.eq_iff_iff]; simp)
  obtain ⟨l, hl⟩ : ∃ l, l = kids.length := ⟨_, rfl⟩
  rw [← hl] at hkl HR ⊢
  obtain ⟨r, hr⟩ : ∃ r, r = isPlain ⟨k, n, m, kids⟩ := ⟨_, rfl⟩
  rw [← hr] at HR ⊢
  clear hl hr hst
  go_enter Tryd.func85, Tryd.ntmps85
  go_wp2_with fail
  all_goals
    go_ret
    exact ⟨ret_b (by rw [HR.out]; simp [*]), below_new _ _⟩

set_option maxRecDepth 100000 in
set_option maxHeartbeats 4000000 in
theorem between_is (t : T) (A : Option Addr) (c : Nat) (w : World) (hst : size t ≤ 1000000) (most last least most2 : Int) :
    Calls Tryd.prog 56 #[.agg #[.int .i64 t.k, .int .i64 t.n, .int .i64 t.m, .slice A t.kids.length c], .int .i64 most, .int .i64 last, .int .i64 least, .int .i64 most2] w fun e w' => e = .returned (.bool (btw t most last least most2)) ∧ Below w.heap.size w w' := by
  have hkl : t.kids.length ≤ 1000000 := by have := kids_lt t; omega
  obtain ⟨k, n, m, kids⟩ := t
  simp only at hkl ⊢
  have HR : Hid (btw ⟨k, n, m, kids⟩ most last least most2 = (decide (0 ≤ n) && decide (n ≤ most) && decide (0 ≤ m) && decide (m ≤ last) && decide (least ≤ kids.length) && decide ((kids.length : Int) ≤ most2))) := Lib.hid rfl
  obtain ⟨l, hl⟩ : ∃ l, l = kids.length := ⟨_, rfl⟩
  rw [← hl] at hkl HR ⊢
  obtain ⟨r, hr⟩ : ∃ r, r = btw ⟨k, n, m, kids⟩ most last least most2 := ⟨_, rfl⟩
  rw [← hr] at HR ⊢
  clear hl hr hst
  go_enter Tryd.func56, Tryd.ntmps56
  go_wp2_with fail
  all_goals
    go_ret
    exact ⟨ret_b (by rw [HR.out]; simp [*] <;> omega), below_new _ _⟩
end Go.Proofs.YthhhgakeeekalaaDoor

/-
  The reference's Type.
-/
namespace Go.Proofs.YthhhgakeeekalaaDoor.TR
/-- A type. -/
def isType (t : T) : Bool :=
  if t.k == 2 then decide (1 ≤ t.n) && decide (t.n ≤ 4) && t.m == 0 && t.kids.length == 0
  else if t.k == 3 then (t.n == 0 && t.m == 0 && decide (1 ≤ t.kids.length) && decide (t.kids.length ≤ 3)) && t.kids.all isPlain
  else isPlain t
theorem all_next {α : Type} {l : List α} {j : Nat} {u : α} (f : α → Bool) (h : l[j]? = some u) : (l.take (j + 1)).all f = ((l.take j).all f && f u) := by
  rw [List.take_add_one, h]; simp
end Go.Proofs.YthhhgakeeekalaaDoor.TR
namespace Go.Proofs.YthhhgakeeekalaaDoor
open Go.RowKit WM TR

theorem box_facts (w : World) (a b m : Value) (A : Option Addr) (l c : Nat) : ∃ W1, W1 = w.alloc (.cells #[a, b, m, .slice A l c] 25) ∧ Hid (Below w.heap.size w W1) ∧ Hid (w.heap.size < W1.heap.size ∧ W1.cell? ⟨w.heap.size, 3, none⟩ = some (.slice A l c)) :=
  ⟨_, rfl, below_new _ _, ⟨(Blk.new w _ _).lt, (Blk.new w _ _).cell 3⟩⟩

set_option maxRecDepth 100000 in
set_option maxHeartbeats 4000000 in
theorem type_is (d : Nat) (t : T) (S : Nat → Prop) (A : Option Addr) (c : Nat) (w : World) (ht : Rep w S d t (nd t A c)) (hin : In S w.heap.size) (hst : size t ≤ 1000000) :
    Calls Tryd.prog 84 #[.agg #[.int .i64 t.k, .int .i64 t.n, .int .i64 t.m, .slice A t.kids.length c]] w fun e w' => e = .returned (.bool (isType t)) ∧ Below w.heap.size w w' := by
  cases d with
  | zero => exact ht.elim
  | succ d =>
  have hkl : t.kids.length ≤ 1000000 := by have := kids_lt t; omega
  obtain ⟨l, hl⟩ : ∃ l, l = t.kids.length := ⟨_, rfl⟩
  obtain ⟨r, hr⟩ : ∃ r, isType t = r := ⟨_, rfl⟩
  have HR : Hid ((if t.k == 2 then decide (1 ≤ t.n) && decide (t.n ≤ 4) && t.m == 0 && ((l : Int) == 0)
  else if t.k == 3 then (t.n == 0 && t.m == 0 && decide ((1 : Int) ≤ l) && decide ((l : Int) ≤ 3)) && t.kids.all isPlain
  else isPlain t) = r) := Lib.hid (by
    rw [← hr, isType, hl]
    congr 1
    · congr 1
      rw [Bool.eq_iff_iff]; simp
    · congr 1
      congr 1
      congr 1
      · congr 1
        rw [Bool.eq_iff_iff]; simp; omega
      · rw [Bool.eq_iff_iff]; simp; omega)
  rw [hr, ← hl]
  rw [← hl] at hkl
  clear hr
  have HT := Lib.hid ht
  have HI := Lib.hid hin
  have HL := Lib.hid hl
  have HST := Lib.hid hst
  clear ht hin hl
  by_cases h2 : t.k = 2
  · have HR2 : Hid ((decide (1 ≤ t.n) && decide (t.n ≤ 4) && t.m == 0 && ((l : Int) == 0)) = r) := Lib.hid (by have := HR.out; rwa [if_pos (by rw [h2]; rfl)] at this)
    go_enter Tryd.func84, Tryd.ntmps84
    go_wp2_with fail
    all_goals
      go_ret
      exact ⟨ret_b (by rw [← HR2.out]; simp [*] <;> omega), below_new _ _⟩
  · by_cases h3 : t.k = 3
    · have HR2 : Hid (((t.n == 0 && t.m == 0 && decide ((1 : Int) ≤ l) && decide ((l : Int) ≤ 3)) && t.kids.all isPlain) = r) := Lib.hid (by have := HR.out; rwa [if_neg (by simpa using h2), if_pos (by rw [h3]; rfl)] at this)
      obtain ⟨f0, hf0⟩ : ∃ f0, f0 = (t.n == 0 && t.m == 0 && decide ((1 : Int) ≤ l) && decide ((l : Int) ≤ 3)) := ⟨_, rfl⟩
      have HR3 : Hid ((f0 && t.kids.all isPlain) = r) := Lib.hid (by rw [hf0]; exact HR2.out)
      have HF0 := Lib.hid hf0
      clear HR HR2 hf0
      go_enter Tryd.func84, Tryd.ntmps84
      go_wp2_with fail
      all_goals
        first
          | (obtain ⟨W1, hW1, HB1, HC1⟩ := box_facts w (.int .i64 3) (.int .i64 t.n) (.int .i64 t.m) A l c; rw [← hW1])
          | (obtain ⟨W1, hW1, HB1, HC1⟩ := box_facts w (.int .i64 3) (.int .i64 0) (.int .i64 t.m) A l c; rw [← hW1])
          | (obtain ⟨W1, hW1, HB1, HC1⟩ := box_facts w (.int .i64 3) (.int .i64 0) (.int .i64 0) A l c; rw [← hW1])
        clear hW1
        go_loopw [3, 4] (fun s i wr => ∃ (j : Nat) (f : Bool), j ≤ l ∧ i = .int .i64 j ∧ s = .bool f ∧ Hid (f = (f0 && (t.kids.take j).all isPlain)) ∧ Hid (Below W1.heap.size W1 wr)) (fun _ i _ => l - (intOf i).toNat)
        case atStart => exact ⟨0, _, Nat.zero_le _, rfl, rfl, by rw [HF0.out]; simp [*, Hid] <;> omega, Below.refl _ _⟩
        case round =>
          obtain ⟨j, f, hj, rfl, rfl, HF, HB⟩ := hrel
          have hBW : Below w.heap.size w wr := bt HB1.out HB.out
          have hc3 : wr.cell? ⟨w.heap.size, 3, none⟩ = some (.slice A l c) := (HB.out.cell (p := ⟨w.heap.size, 3, none⟩) HC1.out.1).trans HC1.out.2
          by_cases hlt : j < l
          · try (exfalso; omega)
            all_goals
              obtain ⟨u, hu⟩ : ∃ u, t.kids[j]? = some u := ⟨_, List.getElem?_eq_getElem (by rw [← HL.out]; omega)⟩
              have hrr := HT.out.later HI.out hBW
              obtain ⟨b2, o2, A2, c2, hA2, hb2, hcells, hru⟩ := hrr.kid hu
              subst hA2
              have HSU : Hid (size u ≤ 1000000) := Lib.hid (by have := size_kid hu; have := HST.out; omega)
              have HCL := Lib.hid hcells
              have HAN : Hid ((f0 && (t.kids.take (j + 1)).all isPlain) = (f && isPlain u)) := Lib.hid (by rw [all_next isPlain hu, ← Bool.and_assoc, ← HF.out])
              have hij : (0 : Int) ≤ j ∧ (j : Int) < l := ⟨by omega, by omega⟩
              have k0 : wr.cell? ⟨b2, o2 + j * 4, none⟩ = some (.int .i64 u.k) := hcells 0 _ rfl
              have k1 : wr.cell? ⟨b2, o2 + j * 4 + 1, none⟩ = some (.int .i64 u.n) := hcells 1 _ rfl
              have k2 : wr.cell? ⟨b2, o2 + j * 4 + 2, none⟩ = some (.int .i64 u.m) := hcells 2 _ rfl
              have k3 : wr.cell? ⟨b2, o2 + j * 4 + 3, none⟩ = some (.slice A2 u.kids.length c2) := hcells 3 _ rfl
              clear hrr hcells hru hu hb2 hBW HCL
              cases f with
              | false =>
                go_wp2_with fail
                go_roundw
                case rel => exact ⟨j + 1, false, by omega, by go_num, rfl, by rw [HAN.out]; rfl, HB.out⟩
                case measure => simp [intOf]; omega
              | true =>
                go_wp2_with (go_at_call 85; refine (plain_is u A2 c2 _ HSU.out).mono ?_; rintro e w' ⟨rfl, hbw⟩)
                go_roundw
                case rel => exact ⟨j + 1, isPlain u, by omega, by go_num, rfl, by rw [HAN.out]; rfl, bt HB.out hbw⟩
                case measure => simp [intOf]; omega
          · have hjl : j = t.kids.length := by rw [← HL.out]; omega
            have HF2 : Hid (f = r) := Lib.hid (by rw [← HR3.out, HF.out, hjl, List.take_length])
            have HBW := Lib.hid hBW
            clear hjl hBW
            go_wp2_with fail
            go_ret
            exact ⟨ret_b HF2.out, HBW.out⟩
    · have HR2 : Hid (isPlain t = r) := Lib.hid (by have := HR.out; rwa [if_neg (by simpa using h2), if_neg (by simpa using h3)] at this)
      go_enter Tryd.func84, Tryd.ntmps84
      go_wp2_with (go_at_call 85; rw [HL.out]; refine (plain_is t A c _ HST.out).mono ?_; rintro e w' ⟨rfl, hbw⟩; rw [HR2.out])
      go_ret
      exact ⟨rfl, bt (below_new _ _) hbw⟩
end Go.Proofs.YthhhgakeeekalaaDoor

/-
  The reference's Expr, exprs.
-/
namespace Go.Proofs.YthhhgakeeekalaaDoor.TR
/-- What is asked of an expression's own numbers. -/
def exprHead (t : T) : Bool :=
  if t.k = 4 then decide (-8 ≤ t.n) && decide (t.n ≤ 7) && t.m == 0 && t.kids.length == 0
  else if t.k = 5 then btw t 1 0 0 0
  else if t.k = 6 then btw t 5 0 0 0
  else if t.k = 7 then btw t 5 0 1 1
  else if t.k = 8 then btw t 5 2 0 0
  else if t.k = 9 then btw t 13 0 2 2
  else if t.k = 10 then btw t 0 0 1 1
  else if t.k = 11 then btw t 5 0 0 3
  else if t.k = 12 then btw t 2 0 0 0
  else false
/-- An expression. -/
def isExpr (t : T) : Bool := exprHead t && t.kids.attach.all fun u => isExpr u.1
  termination_by t
  decreasing_by exact kid_lt u.2
theorem isExpr_eq (t : T) : isExpr t = (exprHead t && t.kids.all isExpr) := by
  rw [isExpr]
  congr 1
  simp
end Go.Proofs.YthhhgakeeekalaaDoor.TR
namespace Go.Proofs.YthhhgakeeekalaaDoor
open Go.RowKit WM TR

def ExprC (d : Nat) : Prop := ∀ (t : T) (S : Nat → Prop) (A : Option Addr) (c : Nat) (w : World), Rep w S d t (nd t A c) → In S w.heap.size → size t ≤ 1000000 →
  Calls Tryd.prog 116 #[.agg #[.int .i64 t.k, .int .i64 t.n, .int .i64 t.m, .slice A t.kids.length c]] w fun e w' => e = .returned (.bool (isExpr t)) ∧ Below w.heap.size w w'
def ExprsC (d : Nat) : Prop := ∀ (t : T) (S : Nat → Prop) (A : Option Addr) (c : Nat) (w : World), Rep w S (d + 1) t (nd t A c) → In S w.heap.size → size t ≤ 1000000 →
  Calls Tryd.prog 117 #[.slice A t.kids.length c] w fun e w' => e = .returned (.bool (t.kids.all isExpr)) ∧ Below w.heap.size w w'

set_option maxRecDepth 100000 in
set_option maxHeartbeats 4000000 in
theorem exprs_step (d : Nat) (ih : ExprC d) : ExprsC d := by
  intro t S A c w ht hin hst
  have hkl : t.kids.length ≤ 1000000 := by have := kids_lt t; omega
  obtain ⟨l, hl⟩ : ∃ l, l = t.kids.length := ⟨_, rfl⟩
  obtain ⟨r, hr⟩ : ∃ r, t.kids.all isExpr = r := ⟨_, rfl⟩
  rw [hr, ← hl]
  rw [← hl] at hkl
  have HT := Lib.hid ht
  have HI := Lib.hid hin
  have HL := Lib.hid hl
  have HST := Lib.hid hst
  have HR := Lib.hid hr
  have HIH : Hid (∀ (t : T) (S : Nat → Prop) (A : Option Addr) (c : Nat) (w : World), Rep w S d t (nd t A c) → In S w.heap.size → size t ≤ 1000000 →
    Calls Tryd.prog 116 #[.agg #[.int .i64 t.k, .int .i64 t.n, .int .i64 t.m, .slice A t.kids.length c]] w fun e w' => e = .returned (.bool (isExpr t)) ∧ Below w.heap.size w w') := Lib.hid ih
  clear ht hin hl hr ih
  go_enter Tryd.func117, Tryd.ntmps117
  go_wp2_with fail
  go_loopw [3] (fun i wr => ∃ j : Nat, j ≤ l ∧ i = .int .i64 j ∧ Hid ((t.kids.take j).all isExpr = true) ∧ Hid (Below w.heap.size w wr)) (fun i _ => l - (intOf i).toNat)
  case atStart => exact ⟨0, Nat.zero_le _, rfl, by simp [Hid], Below.refl _ _⟩
  case round =>
    obtain ⟨j, hj, rfl, HE, HB⟩ := hrel
    by_cases hlt : j < l
    · obtain ⟨u, hu⟩ : ∃ u, t.kids[j]? = some u := ⟨_, List.getElem?_eq_getElem (by rw [← HL.out]; omega)⟩
      have hrr := HT.out.later HI.out HB.out
      obtain ⟨b2, o2, A2, c2, hA2, hb2, hcells, hru⟩ := hrr.kid hu
      subst hA2
      have HSU : Hid (size u ≤ 1000000) := Lib.hid (by have := size_kid hu; have := HST.out; omega)
      have HAN : Hid ((t.kids.take (j + 1)).all isExpr = isExpr u) := Lib.hid (by rw [all_next isExpr hu, HE.out, Bool.true_and])
      have HUM : Hid (u ∈ t.kids) := Lib.hid (List.mem_of_getElem? hu)
      have hij : (0 : Int) ≤ j ∧ (j : Int) < l := ⟨by omega, by omega⟩
      have HRU := Lib.hid hru
      have HIW : Hid (In S wr.heap.size) := Lib.hid (HI.out.more HB.out.size)
      have k0 : wr.cell? ⟨b2, o2 + j * 4, none⟩ = some (.int .i64 u.k) := hcells 0 _ rfl
      have k1 : wr.cell? ⟨b2, o2 + j * 4 + 1, none⟩ = some (.int .i64 u.n) := hcells 1 _ rfl
      have k2 : wr.cell? ⟨b2, o2 + j * 4 + 2, none⟩ = some (.int .i64 u.m) := hcells 2 _ rfl
      have k3 : wr.cell? ⟨b2, o2 + j * 4 + 3, none⟩ = some (.slice A2 u.kids.length c2) := hcells 3 _ rfl
      clear hrr hcells hru hu hb2
      obtain ⟨q, hq⟩ : ∃ q, isExpr u = q := ⟨_, rfl⟩
      have HQ := Lib.hid hq
      clear hq
      cases q with
      | true =>
        go_wp2_with (go_at_call 116; refine (HIH.out u S A2 c2 _ HRU.out HIW.out HSU.out).mono ?_; rintro e w' ⟨rfl, hbw⟩; rw [HQ.out])
        go_roundw
        case rel => exact ⟨j + 1, by omega, by go_num, by rw [HAN.out]; exact HQ.out, bt HB.out hbw⟩
        case measure => simp [intOf]; omega
      | false =>
        have HF : Hid (false = r) := Lib.hid (by
          rw [← HR.out]
          symm
          rw [List.all_eq_false]
          exact ⟨u, HUM.out, by rw [HQ.out]; simp⟩)
        go_wp2_with (go_at_call 116; refine (HIH.out u S A2 c2 _ HRU.out HIW.out HSU.out).mono ?_; rintro e w' ⟨rfl, hbw⟩; rw [HQ.out])
        go_ret
        exact ⟨ret_b HF.out, bt HB.out hbw⟩
    · have HF : Hid (true = r) := Lib.hid (by
        have h := HE.out
        rw [List.take_of_length_le (by rw [← HL.out]; omega)] at h
        rw [← HR.out, h])
      go_wp2_with fail
      go_ret
      exact ⟨ret_b HF.out, HB.out⟩

set_option maxRecDepth 100000 in
set_option maxHeartbeats 8000000 in
theorem expr_step (d : Nat) (ih : ExprsC d) : ExprC (d + 1) := by
  intro t S A c w ht hin hst
  have hkl : t.kids.length ≤ 1000000 := by have := kids_lt t; omega
  obtain ⟨r, hr⟩ : ∃ r, isExpr t = r := ⟨_, rfl⟩
  rw [hr]
  rw [isExpr_eq] at hr
  obtain ⟨k, n, m, kids⟩ := t
  obtain ⟨l, hl⟩ : ∃ l, l = kids.length := ⟨_, rfl⟩
  simp only at hkl ⊢
  rw [← hl] at hkl ⊢
  have HT := Lib.hid ht
  have HI := Lib.hid hin
  have HL := Lib.hid hl
  have HST := Lib.hid hst
  have HIH : Hid (∀ (t : T) (S : Nat → Prop) (A : Option Addr) (c : Nat) (w : World), Rep w S (d + 1) t (nd t A c) → In S w.heap.size → size t ≤ 1000000 →
    Calls Tryd.prog 117 #[.slice A t.kids.length c] w fun e w' => e = .returned (.bool (t.kids.all isExpr)) ∧ Below w.heap.size w w') := Lib.hid ih
  clear ht hin hl hst ih
  by_cases h4 : k = 4
  · subst h4
    have HR : Hid ((decide (-8 ≤ n) && decide (n ≤ 7) && m == 0 && ((l : Int) == 0)) = r) := Lib.hid (by
      rw [← hr, exprHead, if_pos rfl, HL.out]
      by_cases hz : kids = []
      · subst hz; simp
      · have h1 : kids.length ≠ 0 := fun e => hz (List.eq_nil_of_length_eq_zero e)
        have h2 : ((kids.length : Int) == 0) = false := by simp; exact hz
        have h3 : (kids.length == 0) = false := by simp; exact hz
        simp only [h2, h3, Bool.and_false, Bool.false_and])
    clear hr HIH
    go_enter Tryd.func116, Tryd.ntmps116
    go_wp2_with fail
    all_goals
      go_ret
      exact ⟨ret_b (by rw [← HR.out]; simp [*] <;> omega), below_new _ _⟩
  · have HBT : Hid (∀ (W : World) (a b x y : Int), Calls Tryd.prog 56 #[.agg #[.int .i64 k, .int .i64 n, .int .i64 m, .slice A l c], .int .i64 a, .int .i64 b, .int .i64 x, .int .i64 y] W fun e w' => ∃ f, btw ⟨k, n, m, kids⟩ a b x y = f ∧ e = .returned (.bool f) ∧ Below W.heap.size W w') := Lib.hid (fun W a b x y => by
      rw [HL.out]
      exact (between_is ⟨k, n, m, kids⟩ A c W HST.out a b x y).mono fun e w' h => ⟨_, rfl, h.1, h.2⟩)
    have HEX : Hid (∀ W, Below w.heap.size w W → Calls Tryd.prog 117 #[.slice A l c] W fun e w' => ∃ g, kids.all isExpr = g ∧ e = .returned (.bool g) ∧ Below W.heap.size W w') := Lib.hid (fun W hW => by
      rw [HL.out]
      exact (HIH.out ⟨k, n, m, kids⟩ S A c W (HT.out.later HI.out hW) (HI.out.more hW.size) HST.out).mono fun e w' h => ⟨_, rfl, h.1, h.2⟩)
    by_cases hk : 5 ≤ k ∧ k ≤ 12
    · have hk2 : k = 5 ∨ k = 6 ∨ k = 7 ∨ k = 8 ∨ k = 9 ∨ k = 10 ∨ k = 11 ∨ k = 12 := by omega
      clear hk h4 HT HIH HST
      rcases hk2 with rfl | rfl | rfl | rfl | rfl | rfl | rfl | rfl
      all_goals
        go_enter Tryd.func116, Tryd.ntmps116
        go_wp2_with (first
          | (go_at_call 56; refine (HBT.out _ _ _ _ _).mono ?_; rintro e w1 ⟨f, hf, rfl, hbw⟩; have HX : Hid ((f && kids.all isExpr) = r) := Lib.hid (by rw [← hf]; simpa [exprHead] using hr); have HB1 : Hid (Below w.heap.size w w1) := Lib.hid (bt (below_new _ _) hbw); have k3 : w1.cell? ⟨w.heap.size, 3, none⟩ = some (.slice A l c) := (hbw.cell (p := ⟨w.heap.size, 3, none⟩) (Blk.new w _ _).lt).trans ((Blk.new w _ _).cell 3); clear hf hbw hr)
          | (go_at_call 117; refine (HEX.out _ HB1.out).mono ?_; rintro e w2 ⟨g, hg, rfl, hbw2⟩; have HG := Lib.hid hg; have HB2 := Lib.hid (bt HB1.out hbw2); clear hg hbw2))
        all_goals
          go_ret
          first
            | exact ⟨ret_b (by rw [← HX.out, ← HG.out]; simp [*]), HB2.out⟩
            | exact ⟨ret_b (by rw [← HX.out]; simp [*]), HB1.out⟩
    · have HR : Hid (false = r) := Lib.hid (by
        rw [← hr, exprHead, if_neg h4, if_neg (by show ¬ k = 5; omega), if_neg (by show ¬ k = 6; omega), if_neg (by show ¬ k = 7; omega), if_neg (by show ¬ k = 8; omega), if_neg (by show ¬ k = 9; omega), if_neg (by show ¬ k = 10; omega), if_neg (by show ¬ k = 11; omega), if_neg (by show ¬ k = 12; omega)]
        rfl)
      have h5 : ¬ k = 5 := by omega
      have h6 : ¬ k = 6 := by omega
      have h7 : ¬ k = 7 := by omega
      have h8 : ¬ k = 8 := by omega
      have h9 : ¬ k = 9 := by omega
      have h10 : ¬ k = 10 := by omega
      have h11 : ¬ k = 11 := by omega
      have h12 : ¬ k = 12 := by omega
      clear hr hk HIH HBT HEX
      go_enter Tryd.func116, Tryd.ntmps116
      go_wp2_with fail
      go_ret
      exact ⟨ret_b HR.out, below_new _ _⟩
theorem exprC : ∀ d, ExprC d
  | 0 => fun _ _ _ _ _ h _ _ => h.elim
  | d + 1 => expr_step d (exprs_step d (exprC d))
theorem expr_is (d : Nat) (t : T) (S : Nat → Prop) (A : Option Addr) (c : Nat) (w : World) (ht : Rep w S d t (nd t A c)) (hin : In S w.heap.size) (hst : size t ≤ 1000000) :
    Calls Tryd.prog 116 #[.agg #[.int .i64 t.k, .int .i64 t.n, .int .i64 t.m, .slice A t.kids.length c]] w fun e w' => e = .returned (.bool (isExpr t)) ∧ Below w.heap.size w w' := exprC d t S A c w ht hin hst
theorem exprs_is (d : Nat) (t : T) (S : Nat → Prop) (A : Option Addr) (c : Nat) (w : World) (ht : Rep w S (d + 1) t (nd t A c)) (hin : In S w.heap.size) (hst : size t ≤ 1000000) :
    Calls Tryd.prog 117 #[.slice A t.kids.length c] w fun e w' => e = .returned (.bool (t.kids.all isExpr)) ∧ Below w.heap.size w w' := exprs_step d (exprC d) t S A c w ht hin hst
end Go.Proofs.YthhhgakeeekalaaDoor

/-
  The generator of expressions: (*maker).some and (*maker).expr make some well formed expressions, not larger than the budget bears.
-/
namespace Go.Proofs.YthhhgakeeekalaaDoor
open Go.RowKit WM TR

/-- What s nodes cost: numbers (a to a'), budget (l to l'). -/
structure Acc (a a' : Nat) (l l' : Int) (s m : Nat) : Prop where
  lo : a ≤ a'
  hi : a' ≤ a + 3 * s
  left : l' = l - s
  bound : (s : Int) ≤ m + 4 * (max l 0 - max l' 0)
theorem Acc.nil (a : Nat) (l : Int) : Acc a a l l 0 0 := ⟨Nat.le_refl _, by omega, by omega, by omega⟩
theorem Acc.add {a b c : Nat} {l m n : Int} {s t p q : Nat} (h : Acc a b l m s p) (k : Acc b c m n t q) : Acc a c l n (s + t) (p + q) := by
  obtain ⟨h1, h2, h3, h4⟩ := h
  obtain ⟨k1, k2, k3, k4⟩ := k
  exact ⟨by omega, by omega, by omega, by omega⟩

/-- What expr leaves. -/
def GExprPost (L : List Int) (A : Option Addr) (c g d a : Nat) (l : Int) (w : World) (e : Ending) (w' : World) : Prop :=
  ∃ t A' c' a' l', e = .returned (.agg #[.int .i64 t.k, .int .i64 t.n, .int .i64 t.m, .slice A' t.kids.length c']) ∧ isExpr t = true ∧
      Rep w' (fun b => w.heap.size ≤ b ∧ b < w'.heap.size) (d + 1) t (nd t A' c') ∧ Blk w' g 59 (mkc A L.length c a' l') ∧ w.grownBy w' (some g) ∧ Acc a a' l l' (size t) 1
/-- The contract of expr at depth d. -/
def GExprC (L : List Int) (S : Nat → Prop) (A : Option Addr) (c g d : Nat) : Prop :=
  ∀ (a : Nat) (l : Int) (w : World), Blk w g 59 (mkc A L.length c a l) → In S w.heap.size → Rd w S 1 A L.length (vi L) → a + 20000 * (d + 1) ≤ 900000 → -900000 + 20000 * ((d : Int) + 1) ≤ l → l ≤ 1000 →
    ∀ D : Int, D = (d : Int) → Calls Tryd.prog 102 #[.pointer (some ⟨g, 0, none⟩), .int .i64 D] w (GExprPost L A c g d a l w)
/-- What some leaves. -/
def GSomePost (L : List Int) (A : Option Addr) (c g d n a : Nat) (l : Int) (w : World) (e : Ending) (w' : World) : Prop :=
  ∃ (ts : List T) (A' : Option Addr) (c' a' : Nat) (l' : Int) (xs : List Value), e = .returned (.slice A' n c') ∧ n ≤ c' ∧ ts.length = n ∧ ts.all isExpr = true ∧ Rd w' (fun b => w.heap.size ≤ b ∧ b < w'.heap.size) 4 A' n xs ∧
      Reps w' (fun b => w.heap.size ≤ b ∧ b < w'.heap.size) (d + 1) ts xs ∧ Blk w' g 59 (mkc A L.length c a' l') ∧ w.grownBy w' (some g) ∧ Acc a a' l l' ((ts.map size).sum) n

/-- At the head of a round of some. -/
structure SomeR (L : List Int) (A : Option Addr) (c g d a : Nat) (l : Int) (w wr : World) (v : Value) (ts : List T) (xs : List Value) (a' : Nat) (l' : Int) : Prop where
  mkr : Blk wr g 59 (mkc A L.length c a' l')
  grown : w.grownBy wr (some g)
  own : wr.ownsRow w.heap.size 25 4 v ts.length xs
  reps : Reps wr (fun b => w.heap.size ≤ b ∧ b < wr.heap.size ∧ v.ownBlock ≠ some b) (d + 1) ts xs
  all : ts.all isExpr = true
  acc : Acc a a' l l' ((ts.map size).sum) ts.length
theorem SomeR.next {L : List Int} {A : Option Addr} {c g d a : Nat} {l : Int} {w wr w3 w4 : World} {v v4 : Value} {ts : List T} {xs : List Value} {a' a2 : Nat} {l' l2 : Int} {t : T} {A' : Option Addr} {c' : Nat} {o : Obj} (hg : g < w.heap.size)
    (h : SomeR L A c g d a l w wr v ts xs a' l') (he : isExpr t = true) (hr : Rep w3 (fun b => wr.heap.size ≤ b ∧ b < w3.heap.size) (d + 1) t (nd t A' c')) (hm : Blk w3 g 59 (mkc A L.length c a2 l2)) (hg3 : wr.grownBy w3 (some g)) (hacc : Acc a' a2 l' l2 (size t) 1)
    (hown4 : w4.ownsRow w.heap.size 25 4 v4 (ts.length + 1) (xs ++ nd t A' c')) (hg4 : (w3.alloc o).grownBy w4 v.ownBlock) (hnew : v4.ownBlock = v.ownBlock ∨ v4.ownBlock = some (w3.alloc o).heap.size) :
    SomeR L A c g d a l w w4 v4 (ts ++ [t]) (xs ++ nd t A' c') a2 l2 := by
  have hv := h.own.lt
  have hs0 := h.grown.size
  have hs3 := hg3.size
  have hs4 := hg4.size
  have hsa : (w3.alloc o).heap.size = w3.heap.size + 1 := size_alloc _ _
  have keep : ∀ b, b < w3.heap.size → v.ownBlock ≠ some b → w4.heap[b]? = w3.heap[b]? := fun b hb hne =>
    (hg4.block b (by omega) (fun e => hne e.symm)).trans (Below.heap_alloc w3 o b hb)
  have sort : ∀ b, b < w3.heap.size → v.ownBlock ≠ some b → v4.ownBlock ≠ some b := fun b hb hne e => by
    rcases hnew with hn | hn
    · exact hne (hn ▸ e)
    · rw [hn] at e; have := Option.some.inj e; omega
  refine ⟨?_, ?_, by rw [List.length_append]; exact hown4, ?_, by rw [List.all_append, h.all]; simp [he], ?_⟩
  · exact (keep g (by have := hm.lt; omega) (fun e => by have := (hv g e).1; omega)).trans hm
  · exact gw_row (gw_alloc (gw_trans h.grown hg3) o) hg4 (fun b hb => (hv b hb).1)
  · refine Reps.snoc ((h.reps.keep (w' := w4) (fun b hb => ?_)).mono fun b hb => ?_) ((hr.keep (w' := w4) (fun b hb => ?_)).mono fun b hb => ?_)
    · exact (keep b (by omega) hb.2.2).trans (hg3.block b hb.2.1 (fun e => by have := Option.some.inj e; omega))
    · exact ⟨hb.1, by omega, sort b (by omega) hb.2.2⟩
    · exact keep b hb.2 (fun e => by have := (hv b e).2; omega)
    · have hne : v.ownBlock ≠ some b := fun e => by have := (hv b e).2; omega
      exact ⟨by omega, by omega, sort b hb.2 hne⟩
  · have := h.acc.add hacc
    simpa using this

set_option maxRecDepth 100000 in
set_option maxHeartbeats 4000000 in
theorem some_is (L : List Int) (S : Nat → Prop) (A : Option Addr) (c g d : Nat) (hS : ∀ b, S b → b ≠ g) (hE : GExprC L S A c g d) (n a : Nat) (l : Int) (w : World) (hm : Blk w g 59 (mkc A L.length c a l)) (hin : In S w.heap.size) (hL : Rd w S 1 A L.length (vi L)) (hn : n ≤ 3)
    (ha : a + 20000 * (d + 1) + 15000 ≤ 900000) (hl : -900000 + 20000 * ((d : Int) + 1) + 15000 ≤ l) (hl2 : l ≤ 1000) (D : Int) (hD : D = (d : Int)) :
    Calls Tryd.prog 101 #[.pointer (some ⟨g, 0, none⟩), .int .i64 (n : Int), .int .i64 D] w (GSomePost L A c g d n a l w) := by
  obtain ⟨i0, hi, hz0, hz1, hz2⟩ := info_parts node_info
  have HE := Lib.hid hE
  have HM := Lib.hid hm
  have HI := Lib.hid hin
  have HL := Lib.hid hL
  have HS := Lib.hid hS
  have HD := Lib.hid hD
  have HGL : Hid (g < w.heap.size) := Lib.hid hm.lt
  clear hE hm hin hL hS hD
  go_enter Tryd.func101, Tryd.ntmps101
  go_wp2_with fail
  go_loopw [7, 8] (fun s i wr => ∃ (j : Nat) (v : Value) (ts : List T) (xs : List Value) (a' : Nat) (l' : Int), j ≤ n ∧ v = s ∧ i = .int .i64 j ∧ ts.length = j ∧ Hid (SomeR L A c g d a l w wr v ts xs a' l')) (fun _ i _ => n - (intOf i).toNat)
  case atStart => exact ⟨0, _, [], [], a, l, Nat.zero_le _, rfl, rfl, rfl, HM.out, gw_refl w g, World.ownsRow_nil _ _ _ _, Reps.nil, rfl, Acc.nil a l⟩
  case round =>
    obtain ⟨j, v, ts, xs, a', l', hj, rfl, rfl, hts, HR⟩ := hrel
    by_cases hlt : j < n
    · have hlt2 : (j : Int) < n := by omega
      have hacc := HR.out.acc
      have ha1 : a' + 20000 * (d + 1) ≤ 900000 := by obtain ⟨h1, h2, h3, h4⟩ := hacc; omega
      have hl1 : -900000 + 20000 * ((d : Int) + 1) ≤ l' := by obtain ⟨h1, h2, h3, h4⟩ := hacc; omega
      have hl3 : l' ≤ 1000 := by obtain ⟨h1, h2, h3, h4⟩ := hacc; omega
      have HC : Hid (Calls Tryd.prog 102 #[.pointer (some ⟨g, 0, none⟩), .int .i64 D] wr (GExprPost L A c g d a' l' wr)) := Lib.hid (HE.out a' l' wr HR.out.mkr (HI.out.more HR.out.grown.size) (HL.out.keep (Keeps.gw HR.out.grown HI.out HS.out)) ha1 hl1 hl3 D HD.out)
      have HTS := Lib.hid hts
      clear hacc ha1 hl1 hl3 hts
      go_wp2_with (first
        | (go_at_call 102; refine HC.out.mono ?_; rintro e w3 ⟨t, A', c', a2, l2, rfl, he, hr3, hm3, hg3, hacc3⟩
           have HE3 := Lib.hid he; have HR3 := Lib.hid hr3; have HM3 := Lib.hid hm3; have HG3 := Lib.hid hg3; have HA3 := Lib.hid hacc3
           have HOW : Hid ((w3.alloc (.cells #[.int .i64 t.k, .int .i64 t.n, .int .i64 t.m, .slice A' t.kids.length c'] 25)).ownsRow w.heap.size 25 4 v ts.length xs) := Lib.hid ((HR.out.own.kept hg3 (.inr fun e => by have := (HR.out.own.lt _ e).1; have := HGL.out; omega)).alloc _)
           clear he hr3 hm3 hg3 hacc3)
        | (at_builtin
           refine wpList_append_any _ rfl (.tmp 14) (.tmp 18) 23 rfl w.heap.size 25 i0 _ 4 48 Tryd.underlying23 hi hz0 hz1 hz2 rfl (by omega) _ ts.length xs rfl HOW.out _ (some ⟨w3.heap.size, 0, none⟩) 1 1 (nd t A' c') rfl (reads_nd w3 t A' c') (nd_one t A' c') (len_le (by have := HTS.out; omega)) (by have := HTS.out; omega) (by have := HR.out.grown.size; have := HG3.out.size; rw [size_alloc]; omega) ?_
           intro v4 w4 hown4 hgrow4 hnew4
           have HO4 := Lib.hid hown4; have HG4 := Lib.hid hgrow4; have HN4 := Lib.hid hnew4
           clear hown4 hgrow4 hnew4))
      go_roundw
      case rel => exact ⟨j + 1, _, ts ++ [t], xs ++ nd t A' c', a2, l2, by omega, rfl, by go_num, by rw [List.length_append, HTS.out]; rfl, SomeR.next HGL.out HR.out HE3.out HR3.out HM3.out HG3.out HA3.out HO4.out HG4.out HN4.out⟩
      case measure => simp [intOf]; omega
    · have hjn : j = n := by omega
      subst hjn
      obtain ⟨A9, c9, hv, hcap⟩ := own_len HR.out.own
      rw [hts] at hv hcap
      subst hv
      have HTS := Lib.hid hts
      have HCAP := Lib.hid hcap
      clear hts hcap
      go_wp2_with fail
      go_ret
      exact ⟨ts, A9, c9, a', l', xs, rfl, HCAP.out, HTS.out, HR.out.all, by have h := HR.out.own; rw [HTS.out] at h; exact Rd.of_own h, HR.out.reps.mono fun b hb => ⟨hb.1, hb.2.1⟩, HR.out.mkr, HR.out.grown, by have h := HR.out.acc; rw [HTS.out] at h; exact h⟩
end Go.Proofs.YthhhgakeeekalaaDoor
