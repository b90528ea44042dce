/-
  The reference's Expr, exprs.
-/
import Derived.Test.YtpbbafikjpjejaaDoorG12
set_option linter.unusedVariables false
namespace Go.Proofs.YtpbbafikjpjejaaDoor.TR
/-- What is asked of an expression's own numbers. -/
def exprHead (t : T) : Bool :=
  if t.k = 4 then decide (-8 ≤ t.n) && decide (t.n ≤ 7) && t.m == 0 && t.kids.length == 0
  else if t.k = 5 then btw t 1 0 0 0
  else if t.k = 6 then btw t 5 0 0 0
  else if t.k = 7 then btw t 5 0 1 1
  else if t.k = 8 then btw t 5 2 0 0
  else if t.k = 9 then btw t 13 0 2 2
  else if t.k = 10 then btw t 0 0 1 1
  else if t.k = 11 then btw t 5 0 0 3
  else if t.k = 12 then btw t 2 0 0 0
  else false
/-- An expression. -/
def isExpr (t : T) : Bool := exprHead t && t.kids.attach.all fun u => isExpr u.1
  termination_by t
  decreasing_by exact kid_lt u.2
theorem isExpr_eq (t : T) : isExpr t = (exprHead t && t.kids.all isExpr) := by
  rw [isExpr]
  congr 1
  simp
end Go.Proofs.YtpbbafikjpjejaaDoor.TR
namespace Go.Proofs.YtpbbafikjpjejaaDoor
open Go.RowKit WM TR

def ExprC (d : Nat) : Prop := ∀ (t : T) (S : Nat → Prop) (A : Option Addr) (c : Nat) (w : World), Rep w S d t (nd t A c) → In S w.heap.size → size t ≤ 1000000 →
  Calls Tryd.prog 102 #[.agg #[.int .i64 t.k, .int .i64 t.n, .int .i64 t.m, .slice A t.kids.length c]] w fun e w' => e = .returned (.bool (isExpr t)) ∧ Below w.heap.size w w'
def ExprsC (d : Nat) : Prop := ∀ (t : T) (S : Nat → Prop) (A : Option Addr) (c : Nat) (w : World), Rep w S (d + 1) t (nd t A c) → In S w.heap.size → size t ≤ 1000000 →
  Calls Tryd.prog 103 #[.slice A t.kids.length c] w fun e w' => e = .returned (.bool (t.kids.all isExpr)) ∧ Below w.heap.size w w'

set_option maxRecDepth 100000 in
set_option maxHeartbeats 4000000 in
theorem exprs_step (d : Nat) (ih : ExprC d) : ExprsC d := by
  intro t S A c w ht hin hst
  have hkl : t.kids.length ≤ 1000000 := by have := kids_lt t; omega
  obtain ⟨l, hl⟩ : ∃ l, l = t.kids.length := ⟨_, rfl⟩
  obtain ⟨r, hr⟩ : ∃ r, t.kids.all isExpr = r := ⟨_, rfl⟩
  rw [hr, ← hl]
  rw [← hl] at hkl
  have HT := Lib.hid ht
  have HI := Lib.hid hin
  have HL := Lib.hid hl
  have HST := Lib.hid hst
  have HR := Lib.hid hr
  have HIH : Hid (∀ (t : T) (S : Nat → Prop) (A : Option Addr) (c : Nat) (w : World), Rep w S d t (nd t A c) → In S w.heap.size → size t ≤ 1000000 →
    Calls Tryd.prog 102 #[.agg #[.int .i64 t.k, .int .i64 t.n, .int .i64 t.m, .slice A t.kids.length c]] w fun e w' => e = .returned (.bool (isExpr t)) ∧ Below w.heap.size w w') := Lib.hid ih
  clear ht hin hl hr ih
  go_enter Tryd.func103, Tryd.ntmps103
  go_wp2_with fail
  go_loopw [3] (fun i wr => ∃ j : Nat, j ≤ l ∧ i = .int .i64 j ∧ Hid ((t.kids.take j).all isExpr = true) ∧ Hid (Below w.heap.size w wr)) (fun i _ => l - (intOf i).toNat)
  case atStart => exact ⟨0, Nat.zero_le _, rfl, by simp [Hid], Below.refl _ _⟩
  case round =>
    obtain ⟨j, hj, rfl, HE, HB⟩ := hrel
    by_cases hlt : j < l
    · obtain ⟨u, hu⟩ : ∃ u, t.kids[j]? = some u := ⟨_, List.getElem?_eq_getElem (by rw [← HL.out]; omega)⟩
      have hrr := HT.out.later HI.out HB.out
      obtain ⟨b2, o2, A2, c2, hA2, hb2, hcells, hru⟩ := hrr.kid hu
      subst hA2
      have HSU : Hid (size u ≤ 1000000) := Lib.hid (by have := size_kid hu; have := HST.out; omega)
      have HAN : Hid ((t.kids.take (j + 1)).all isExpr = isExpr u) := Lib.hid (by rw [all_next isExpr hu, HE.out, Bool.true_and])
      have HUM : Hid (u ∈ t.kids) := Lib.hid (List.mem_of_getElem? hu)
      have hij : (0 : Int) ≤ j ∧ (j : Int) < l := ⟨by omega, by omega⟩
      have HRU := Lib.hid hru
      have HIW : Hid (In S wr.heap.size) := Lib.hid (HI.out.more HB.out.size)
      have k0 : wr.cell? ⟨b2, o2 + j * 4, none⟩ = some (.int .i64 u.k) := hcells 0 _ rfl
      have k1 : wr.cell? ⟨b2, o2 + j * 4 + 1, none⟩ = some (.int .i64 u.n) := hcells 1 _ rfl
      have k2 : wr.cell? ⟨b2, o2 + j * 4 + 2, none⟩ = some (.int .i64 u.m) := hcells 2 _ rfl
      have k3 : wr.cell? ⟨b2, o2 + j * 4 + 3, none⟩ = some (.slice A2 u.kids.length c2) := hcells 3 _ rfl
      clear hrr hcells hru hu hb2
      obtain ⟨q, hq⟩ : ∃ q, isExpr u = q := ⟨_, rfl⟩
      have HQ := Lib.hid hq
      clear hq
      cases q with
      | true =>
        go_wp2_with (go_at_call 102; refine (HIH.out u S A2 c2 _ HRU.out HIW.out HSU.out).mono ?_; rintro e w' ⟨rfl, hbw⟩; rw [HQ.out])
        go_roundw
        case rel => exact ⟨j + 1, by omega, by go_num, by rw [HAN.out]; exact HQ.out, bt HB.out hbw⟩
        case measure => simp [intOf]; omega
      | false =>
        have HF : Hid (false = r) := Lib.hid (by
          rw [← HR.out]
          symm
          rw [List.all_eq_false]
          exact ⟨u, HUM.out, by rw [HQ.out]; simp⟩)
        go_wp2_with (go_at_call 102; refine (HIH.out u S A2 c2 _ HRU.out HIW.out HSU.out).mono ?_; rintro e w' ⟨rfl, hbw⟩; rw [HQ.out])
        go_ret
        exact ⟨ret_b HF.out, bt HB.out hbw⟩
    · have HF : Hid (true = r) := Lib.hid (by
        have h := HE.out
        rw [List.take_of_length_le (by rw [← HL.out]; omega)] at h
        rw [← HR.out, h])
      go_wp2_with fail
      go_ret
      exact ⟨ret_b HF.out, HB.out⟩

set_option maxRecDepth 100000 in
set_option maxHeartbeats 8000000 in
theorem expr_step (d : Nat) (ih : ExprsC d) : ExprC (d + 1) := by
  intro t S A c w ht hin hst
  have hkl : t.kids.length ≤ 1000000 := by have := kids_lt t; omega
  obtain ⟨r, hr⟩ : ∃ r, isExpr t = r := ⟨_, rfl⟩
  rw [hr]
  rw [isExpr_eq] at hr
  obtain ⟨k, n, m, kids⟩ := t
  obtain ⟨l, hl⟩ : ∃ l, l = kids.length := ⟨_, rfl⟩
  simp only at hkl ⊢
  rw [← hl] at hkl ⊢
  have HT := Lib.hid ht
  have HI := Lib.hid hin
  have HL := Lib.hid hl
  have HST := Lib.hid hst
  have HIH : Hid (∀ (t : T) (S : Nat → Prop) (A : Option Addr) (c : Nat) (w : World), Rep w S (d + 1) t (nd t A c) → In S w.heap.size → size t ≤ 1000000 →
    Calls Tryd.prog 103 #[.slice A t.kids.length c] w fun e w' => e = .returned (.bool (t.kids.all isExpr)) ∧ Below w.heap.size w w') := Lib.hid ih
  clear ht hin hl hst ih
  by_cases h4 : k = 4
  · subst h4
    have HR : Hid ((decide (-8 ≤ n) && decide (n ≤ 7) && m == 0 && ((l : Int) == 0)) = r) := Lib.hid (by
      rw [← hr, exprHead, if_pos rfl, HL.out]
      by_cases hz : kids = []
      · subst hz; simp
      · have h1 : kids.length ≠ 0 := fun e => hz (List.eq_nil_of_length_eq_zero e)
        have h2 : ((kids.length : Int) == 0) = false := by simp; exact hz
        have h3 : (kids.length == 0) = false := by simp; exact hz
        simp only [h2, h3, Bool.and_false, Bool.false_and])
    clear hr HIH
    go_enter Tryd.func102, Tryd.ntmps102
    go_wp2_with fail
    all_goals
      go_ret
      exact ⟨ret_b (by rw [← HR.out]; simp [*] <;> omega), below_new _ _⟩
  · have HBT : Hid (∀ (W : World) (a b x y : Int), Calls Tryd.prog 51 #[.agg #[.int .i64 k, .int .i64 n, .int .i64 m, .slice A l c], .int .i64 a, .int .i64 b, .int .i64 x, .int .i64 y] W fun e w' => ∃ f, btw ⟨k, n, m, kids⟩ a b x y = f ∧ e = .returned (.bool f) ∧ Below W.heap.size W w') := Lib.hid (fun W a b x y => by
      rw [HL.out]
      exact (between_is ⟨k, n, m, kids⟩ A c W HST.out a b x y).mono fun e w' h => ⟨_, rfl, h.1, h.2⟩)
    have HEX : Hid (∀ W, Below w.heap.size w W → Calls Tryd.prog 103 #[.slice A l c] W fun e w' => ∃ g, kids.all isExpr = g ∧ e = .returned (.bool g) ∧ Below W.heap.size W w') := Lib.hid (fun W hW => by
      rw [HL.out]
      exact (HIH.out ⟨k, n, m, kids⟩ S A c W (HT.out.later HI.out hW) (HI.out.more hW.size) HST.out).mono fun e w' h => ⟨_, rfl, h.1, h.2⟩)
    by_cases hk : 5 ≤ k ∧ k ≤ 12
    · have hk2 : k = 5 ∨ k = 6 ∨ k = 7 ∨ k = 8 ∨ k = 9 ∨ k = 10 ∨ k = 11 ∨ k = 12 := by omega
      clear hk h4 HT HIH HST
      rcases hk2 with rfl | rfl | rfl | rfl | rfl | rfl | rfl | rfl
      all_goals
        go_enter Tryd.func102, Tryd.ntmps102
        go_wp2_with (first
          | (go_at_call 51; refine (HBT.out _ _ _ _ _).mono ?_; rintro e w1 ⟨f, hf, rfl, hbw⟩; have HX : Hid ((f && kids.all isExpr) = r) := Lib.hid (by rw [← hf]; simpa [exprHead] using hr); have HB1 : Hid (Below w.heap.size w w1) := Lib.hid (bt (below_new _ _) hbw); have k3 : w1.cell? ⟨w.heap.size, 3, none⟩ = some (.slice A l c) := (hbw.cell (p := ⟨w.heap.size, 3, none⟩) (Blk.new w _ _).lt).trans ((Blk.new w _ _).cell 3); clear hf hbw hr)
          | (go_at_call 103; refine (HEX.out _ HB1.out).mono ?_; rintro e w2 ⟨g, hg, rfl, hbw2⟩; have HG := Lib.hid hg; have HB2 := Lib.hid (bt HB1.out hbw2); clear hg hbw2))
        all_goals
          go_ret
          first
            | exact ⟨ret_b (by rw [← HX.out, ← HG.out]; simp [*]), HB2.out⟩
            | exact ⟨ret_b (by rw [← HX.out]; simp [*]), HB1.out⟩
    · have HR : Hid (false = r) := Lib.hid (by
        rw [← hr, exprHead, if_neg h4, if_neg (by show ¬ k = 5; omega), if_neg (by show ¬ k = 6; omega), if_neg (by show ¬ k = 7; omega), if_neg (by show ¬ k = 8; omega), if_neg (by show ¬ k = 9; omega), if_neg (by show ¬ k = 10; omega), if_neg (by show ¬ k = 11; omega), if_neg (by show ¬ k = 12; omega)]
        rfl)
      have h5 : ¬ k = 5 := by omega
      have h6 : ¬ k = 6 := by omega
      have h7 : ¬ k = 7 := by omega
      have h8 : ¬ k = 8 := by omega
      have h9 : ¬ k = 9 := by omega
      have h10 : ¬ k = 10 := by omega
      have h11 : ¬ k = 11 := by omega
      have h12 : ¬ k = 12 := by omega
      clear hr hk HIH HBT HEX
      go_enter Tryd.func102, Tryd.ntmps102
      go_wp2_with fail
      go_ret
      exact ⟨ret_b HR.out, below_new _ _⟩
theorem exprC : ∀ d, ExprC d
  | 0 => fun _ _ _ _ _ h _ _ => h.elim
  | d + 1 => expr_step d (exprs_step d (exprC d))
theorem expr_is (d : Nat) (t : T) (S : Nat → Prop) (A : Option Addr) (c : Nat) (w : World) (ht : Rep w S d t (nd t A c)) (hin : In S w.heap.size) (hst : size t ≤ 1000000) :
    Calls Tryd.prog 102 #[.agg #[.int .i64 t.k, .int .i64 t.n, .int .i64 t.m, .slice A t.kids.length c]] w fun e w' => e = .returned (.bool (isExpr t)) ∧ Below w.heap.size w w' := exprC d t S A c w ht hin hst
theorem exprs_is (d : Nat) (t : T) (S : Nat → Prop) (A : Option Addr) (c : Nat) (w : World) (ht : Rep w S (d + 1) t (nd t A c)) (hin : In S w.heap.size) (hst : size t ≤ 1000000) :
    Calls Tryd.prog 103 #[.slice A t.kids.length c] w fun e w' => e = .returned (.bool (t.kids.all isExpr)) ∧ Below w.heap.size w w' := exprs_step d (exprC d) t S A c w ht hin hst
end Go.Proofs.YtpbbafikjpjejaaDoor

/-
  The reference's Block.
-/
namespace Go.Proofs.YtpbbafikjpjejaaDoor.TR
/-- Is the kid with a number so? -/
def kidB (l : List Bool) (i : Nat) : Bool := l[i]?.getD false
/-- A statement; its kids' answers are given: those of expressions, of blocks, of statements. -/
def stmtOf (t : T) (ex bl st : List Bool) : Bool :=
  if t.k = 13 then btw t 0 0 0 8 && st.all id
  else if t.k = 17 then btw t 0 0 3 3 && kidB ex 0 && kidB bl 1 && kidB bl 2
  else if t.k = 18 then btw t 0 0 2 2 && kidB ex 0 && kidB bl 1
  else if t.k = 21 then btw t 5 0 2 2 && kidB bl 0 && kidB bl 1
  else if t.k = 14 then btw t 5 0 1 1 && ex.all id
  else if t.k = 15 then btw t 5 0 2 2 && ex.all id
  else if t.k = 16 then btw t 5 2 1 1 && ex.all id
  else if t.k = 19 ∨ t.k = 20 ∨ t.k = 24 then btw t 0 0 1 1 && ex.all id
  else if t.k = 22 then btw t 2 0 1 1 && ex.all id
  else if t.k = 23 then btw t 5 0 0 3 && ex.all id
  else t.k == 25 && btw t 0 0 0 0
def isStmt (t : T) : Bool := stmtOf t (t.kids.map isExpr) (t.kids.attach.map fun u => u.1.k == 13 && isStmt u.1) (t.kids.attach.map fun u => isStmt u.1)
  termination_by t
  decreasing_by
    · exact kid_lt u.2
    · exact kid_lt u.2
def isBlock (t : T) : Bool := t.k == 13 && isStmt t
theorem isStmt_eq (t : T) : isStmt t = stmtOf t (t.kids.map isExpr) (t.kids.map isBlock) (t.kids.map isStmt) := by
  rw [isStmt, List.attach_map_val (f := isStmt)]
  congr 1
  exact List.attach_map_val (f := isBlock)
theorem isBlock_eq (t : T) : isBlock t = ((t.k == 13 && btw t 0 0 0 8) && t.kids.all isStmt) := by
  rw [isBlock]
  by_cases h : t.k = 13
  · have h1 : (t.k == 13) = true := by rw [h]; rfl
    rw [isStmt_eq, stmtOf, if_pos h, h1, List.all_map, Bool.true_and, Bool.true_and]
    rfl
  · have h1 : (t.k == 13) = false := by simpa using h
    rw [h1]; rfl
end Go.Proofs.YtpbbafikjpjejaaDoor.TR
namespace Go.Proofs.YtpbbafikjpjejaaDoor
open Go.RowKit WM TR

def StmtC (d : Nat) : Prop := ∀ (t : T) (S : Nat → Prop) (A : Option Addr) (c : Nat) (w : World), Rep w S d t (nd t A c) → In S w.heap.size → size t ≤ 1000000 →
  Calls Tryd.prog 97 #[.agg #[.int .i64 t.k, .int .i64 t.n, .int .i64 t.m, .slice A t.kids.length c]] w fun e w' => e = .returned (.bool (isStmt t)) ∧ Below w.heap.size w w'
def BlockC (d : Nat) : Prop := ∀ (t : T) (S : Nat → Prop) (A : Option Addr) (c : Nat) (w : World), Rep w S d t (nd t A c) → In S w.heap.size → size t ≤ 1000000 →
  Calls Tryd.prog 75 #[.agg #[.int .i64 t.k, .int .i64 t.n, .int .i64 t.m, .slice A t.kids.length c]] w fun e w' => e = .returned (.bool (isBlock t)) ∧ Below w.heap.size w w'

set_option maxRecDepth 100000 in
set_option maxHeartbeats 8000000 in
theorem block_step (d : Nat) (ih : StmtC d) : BlockC (d + 1) := by
  intro t S A c w ht hin hst
  have hkl : t.kids.length ≤ 1000000 := by have := kids_lt t; omega
  obtain ⟨r, hr⟩ : ∃ r, isBlock t = r := ⟨_, rfl⟩
  rw [hr]
  rw [isBlock_eq] at hr
  obtain ⟨k, n, m, kids⟩ := t
  obtain ⟨l, hl⟩ : ∃ l, l = kids.length := ⟨_, rfl⟩
  simp only at hkl hr ⊢
  rw [← hl] at hkl ⊢
  have HT := Lib.hid ht
  have HI := Lib.hid hin
  have HL := Lib.hid hl
  have HST := Lib.hid hst
  have HR := Lib.hid hr
  have HIH : Hid (∀ (t : T) (S : Nat → Prop) (A : Option Addr) (c : Nat) (w : World), Rep w S d t (nd t A c) → In S w.heap.size → size t ≤ 1000000 →
    Calls Tryd.prog 97 #[.agg #[.int .i64 t.k, .int .i64 t.n, .int .i64 t.m, .slice A t.kids.length c]] w fun e w' => e = .returned (.bool (isStmt t)) ∧ Below w.heap.size w w') := Lib.hid ih
  clear ht hin hl hst ih hr
  by_cases hk : k = 13
  · subst hk
    have HBT : Hid (∀ (W : World) (a b x y : Int), Calls Tryd.prog 51 #[.agg #[.int .i64 13, .int .i64 n, .int .i64 m, .slice A l c], .int .i64 a, .int .i64 b, .int .i64 x, .int .i64 y] W fun e w' => ∃ f, btw ⟨13, n, m, kids⟩ a b x y = f ∧ e = .returned (.bool f) ∧ Below W.heap.size W w') := Lib.hid (fun W a b x y => by
      rw [HL.out]
      exact (between_is ⟨13, n, m, kids⟩ A c W HST.out a b x y).mono fun e w' h => ⟨_, rfl, h.1, h.2⟩)
    go_enter Tryd.func75, Tryd.ntmps75
    go_wp2_with (go_at_call 51; refine (HBT.out _ _ _ _ _).mono ?_; rintro e w1 ⟨f, hf, rfl, hbw⟩; have HX : Hid ((f && kids.all isStmt) = r) := Lib.hid (by rw [← hf]; have := HR.out; simpa using this); have HB1 : Hid (Below w.heap.size w w1) := Lib.hid (bt (below_new _ _) hbw); have HC1 : Hid (w.heap.size < w1.heap.size ∧ w1.cell? ⟨w.heap.size, 3, none⟩ = some (.slice A l c)) := Lib.hid ⟨Nat.lt_of_lt_of_le (Blk.new w _ _).lt hbw.size, (hbw.cell (p := ⟨w.heap.size, 3, none⟩) (Blk.new w _ _).lt).trans ((Blk.new w _ _).cell 3)⟩; clear hf hbw HBT HR; cases f)
    · go_ret
      exact ⟨ret_b (by rw [← HX.out]; rfl), HB1.out⟩
    · have HX2 : Hid (kids.all isStmt = r) := Lib.hid HX.out
      clear HX
      go_wp2_with fail
      go_loopw [3] (fun i wr => ∃ j : Nat, j ≤ l ∧ i = .int .i64 j ∧ Hid ((kids.take j).all isStmt = true) ∧ Hid (Below w1.heap.size w1 wr)) (fun i _ => l - (intOf i).toNat)
      case atStart => exact ⟨0, Nat.zero_le _, rfl, by simp [Hid], Below.refl _ _⟩
      case round =>
        obtain ⟨j, hj, rfl, HE, HB⟩ := hrel
        have hBW : Below w.heap.size w wr := bt HB1.out HB.out
        have hc3 : wr.cell? ⟨w.heap.size, 3, none⟩ = some (.slice A l c) := (HB.out.cell (p := ⟨w.heap.size, 3, none⟩) HC1.out.1).trans HC1.out.2
        by_cases hlt : j < l
        · obtain ⟨u, hu⟩ : ∃ u, kids[j]? = some u := ⟨_, List.getElem?_eq_getElem (by rw [← HL.out]; omega)⟩
          have hrr := HT.out.later HI.out hBW
          obtain ⟨b2, o2, A2, c2, hA2, hb2, hcells, hru⟩ := hrr.kid (t := ⟨13, n, m, kids⟩) hu
          subst hA2
          have HSU : Hid (size u ≤ 1000000) := Lib.hid (by have := size_kid (t := ⟨13, n, m, kids⟩) hu; have := HST.out; omega)
          have HAN : Hid ((kids.take (j + 1)).all isStmt = isStmt u) := Lib.hid (by rw [all_next isStmt hu, HE.out, Bool.true_and])
          have HUM : Hid (u ∈ kids) := Lib.hid (List.mem_of_getElem? hu)
          have hij : (0 : Int) ≤ j ∧ (j : Int) < l := ⟨by omega, by omega⟩
          have HRU := Lib.hid hru
          have HIW : Hid (In S wr.heap.size) := Lib.hid (HI.out.more hBW.size)
          have HBW := Lib.hid hBW
          have k0 : wr.cell? ⟨b2, o2 + j * 4, none⟩ = some (.int .i64 u.k) := hcells 0 _ rfl
          have k1 : wr.cell? ⟨b2, o2 + j * 4 + 1, none⟩ = some (.int .i64 u.n) := hcells 1 _ rfl
          have k2 : wr.cell? ⟨b2, o2 + j * 4 + 2, none⟩ = some (.int .i64 u.m) := hcells 2 _ rfl
          have k3 : wr.cell? ⟨b2, o2 + j * 4 + 3, none⟩ = some (.slice A2 u.kids.length c2) := hcells 3 _ rfl
          clear hrr hcells hru hu hb2 hBW
          obtain ⟨q, hq⟩ : ∃ q, isStmt u = q := ⟨_, rfl⟩
          have HQ := Lib.hid hq
          clear hq
          cases q with
          | true =>
            go_wp2_with (go_at_call 97; refine (HIH.out u S A2 c2 _ HRU.out HIW.out HSU.out).mono ?_; rintro e w' ⟨rfl, hbw⟩; rw [HQ.out])
            go_roundw
            case rel => exact ⟨j + 1, by omega, by go_num, by rw [HAN.out]; exact HQ.out, bt HB.out hbw⟩
            case measure => simp [intOf]; omega
          | false =>
            have HF : Hid (false = r) := Lib.hid (by
              rw [← HX2.out]
              symm
              rw [List.all_eq_false]
              exact ⟨u, HUM.out, by rw [HQ.out]; simp⟩)
            go_wp2_with (go_at_call 97; refine (HIH.out u S A2 c2 _ HRU.out HIW.out HSU.out).mono ?_; rintro e w' ⟨rfl, hbw⟩; rw [HQ.out])
            go_ret
            exact ⟨ret_b HF.out, bt HBW.out hbw⟩
        · have HF : Hid (true = r) := Lib.hid (by
            have h := HE.out
            rw [List.take_of_length_le (by rw [← HL.out]; omega)] at h
            rw [← HX2.out, h])
          have HBW := Lib.hid hBW
          clear hBW
          go_wp2_with fail
          go_ret
          exact ⟨ret_b HF.out, HBW.out⟩
  · have HF : Hid (false = r) := Lib.hid (by rw [← HR.out]; simp [hk])
    clear HR HIH
    go_enter Tryd.func75, Tryd.ntmps75
    go_wp2_with fail
    go_ret
    exact ⟨ret_b HF.out, below_new _ _⟩
end Go.Proofs.YtpbbafikjpjejaaDoor
