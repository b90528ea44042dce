/-
  word: Truth, Op.
-/
import Derived.Test.YthjdonjcaekaaaaWdTab
import Derived.Laws.EntriesVeiled
namespace Go.Proofs.Ythjdonjcaekaaaa
open Go.RowKit WD

theorem index_tab : ∀ (k : Nat) (_ : k < 14) (W : World), (Instr.index 34 (.agg tabA) (.int .i64 (k : Int))).run Try.prog W = .ok (.agg (rowOf k)) W
  | 0, _, W => by kernel_rfl
  | 1, _, W => by kernel_rfl
  | 2, _, W => by kernel_rfl
  | 3, _, W => by kernel_rfl
  | 4, _, W => by kernel_rfl
  | 5, _, W => by kernel_rfl
  | 6, _, W => by kernel_rfl
  | 7, _, W => by kernel_rfl
  | 8, _, W => by kernel_rfl
  | 9, _, W => by kernel_rfl
  | 10, _, W => by kernel_rfl
  | 11, _, W => by kernel_rfl
  | 12, _, W => by kernel_rfl
  | 13, _, W => by kernel_rfl
/-- Which operations give a truth value, which divide. -/
def trK (k : Nat) : Bool := decide (10 ≤ k)
def dvK (k : Nat) : Bool := decide (k = 3 ∨ k = 4)
def fnK (k : Nat) : FuncId := match k with
  | 0 => 27 | 1 => 28 | 2 => 29 | 3 => 30 | 4 => 31 | 5 => 32 | 6 => 33
  | 7 => 34 | 8 => 35 | 9 => 37 | 10 => 38 | 11 => 40 | 12 => 41 | _ => 42
theorem row_of (k : Nat) (hk : k < 14) : rowOf k = #[.bool (trK k), .bool (dvK k), .func (.func (fnK k)) #[] #[]] := by
  have : k = 0 ∨ k = 1 ∨ k = 2 ∨ k = 3 ∨ k = 4 ∨ k = 5 ∨ k = 6 ∨ k = 7 ∨ k = 8 ∨ k = 9 ∨ k = 10 ∨ k = 11 ∨ k = 12 ∨ k = 13 := by omega
  rcases this with rfl | rfl | rfl | rfl | rfl | rfl | rfl | rfl | rfl | rfl | rfl | rfl | rfl | rfl <;> rfl
theorem field_tru (k : Nat) (hk : k < 14) (W : World) : (Instr.field 33 (.agg (rowOf k)) 0).run Try.prog W = .ok (.bool (trK k)) W := by
  rw [row_of k hk]; kernel_rfl

set_option maxHeartbeats 1000000 in
theorem truth_is (op : Int) (w : World) :
    Calls Try.prog 13 #[.int .i64 op] w fun e w' => e = .returned (.bool (tru op)) ∧ Below w.heap.size w w' := by
  by_cases h : 0 ≤ op ∧ op < 14
  · obtain ⟨k, rfl⟩ := Int.eq_ofNat_of_zero_le h.1
    have hk : k < 14 := by omega
    have ho : isOp (k : Int) = true := by unfold isOp; rw [decide_eq_true_eq]; exact h
    have hi := index_tab k hk
    have hf := field_tru k hk
    have hr : trK k = tru (k : Int) := by unfold trK tru; rw [decide_eq_decide]; omega
    have HR := Lib.hid hr
    clear hr h
    go_enter Try.func13, Try.ntmps13
    go_wp2_with (first
      | (go_at_call 19; refine (isOperation_is _ _).mono ?_; rintro e w' ⟨rfl, rfl⟩; rw [ho])
      | (go_at_call 20; refine (operations_is _).mono ?_; rintro e w' ⟨rfl, hb⟩))
    go_ret
    exact ⟨ret_b HR.out, hb⟩
  · have ho : isOp op = false := by unfold isOp; rw [decide_eq_false_iff_not]; exact h
    have hr : tru op = false := by unfold tru; rw [decide_eq_false_iff_not]; omega
    have HR := Lib.hid hr
    clear hr h
    go_enter Try.func13, Try.ntmps13
    go_wp2_with (first
      | (go_at_call 19; refine (isOperation_is _ _).mono ?_; rintro e w' ⟨rfl, rfl⟩; rw [ho]))
    go_ret
    exact ⟨ret_b HR.out.symm, Below.refl _ _⟩

/-- The table's functions give numbers with the word of the result. -/
theorem raw_res (k : Nat) (hk : k < 14) {a b : Int} (ha : isWord a) (hb : isWord b) (h0 : (k = 3 ∨ k = 4) → b ≠ 0) : wrp (raw k a b) = res k a b := by
  have h := by_words2 (p := fun a b => decide (∀ k : Nat, k < 14 → (((k = 3 ∨ k = 4) → b ≠ 0) → wrp (raw k a b) = res k a b))) (by decide +kernel) ha hb
  exact of_decide_eq_true h k hk h0
theorem two_ret {r c : Int} {r' c' : Int} (h1 : r = r') (h2 : c = c') : Ending.returned (.tuple #[.int .i64 r, .int .i64 c]) = .returned (.tuple #[.int .i64 r', .int .i64 c']) := by rw [h1, h2]
theorem op_no (op a b : Int) (h : ¬ (0 ≤ op ∧ op < 14)) (w : World) :
    Calls Try.prog 16 #[.int .i64 op, .int .i64 a, .int .i64 b] w fun e w' => e = .returned (.tuple #[.int .i64 (opR op a b), .int .i64 (opC op b)]) ∧ Below w.heap.size w w' := by
  have ho : isOp op = false := by unfold isOp; rw [decide_eq_false_iff_not]; exact h
  have hr : opR op a b = 0 := by
    unfold opR res
    repeat rw [if_neg (by omega)]
  have hc : opC op b = 0 := by unfold opC exc; rw [if_neg (by omega)]
  rw [hr, hc]
  clear h hr hc
  go_enter Try.func16, Try.ntmps16
  go_wp2_with (first
    | (go_at_call 19; refine (isOperation_is _ _).mono ?_; rintro e w' ⟨rfl, rfl⟩; rw [ho]))
  go_ret2
  exact ⟨rfl, Below.refl _ _⟩

set_option maxRecDepth 100000 in
set_option maxHeartbeats 1000000 in
theorem op_add (a b : Int) (w : World) :
    Calls Try.prog 16 #[.int .i64 0, .int .i64 a, .int .i64 b] w fun e w' => e = .returned (.tuple #[.int .i64 (opR 0 a b), .int .i64 (opC 0 b)]) ∧ Below w.heap.size w w' := by
  have hc : opC 0 b = 0 := by unfold opC exc; rw [if_neg (by omega)]
  rw [hc]
  clear hc
  have ho : isOp 0 = true := rfl
  have hi : ∀ W, (Instr.index 34 (.agg tabA) (.int .i64 0)).run Try.prog W = .ok (.agg #[.bool false, .bool false, .func (.func 27) #[] #[]]) W := index_tab 0 (by decide)
  go_enter Try.func16, Try.ntmps16
  go_wp2_with (first
    | (go_at_call 19; refine (isOperation_is _ _).mono ?_; rintro e w' ⟨rfl, rfl⟩; rw [ho])
    | (go_at_call 20; refine (operations_is _).mono ?_; rintro e w' ⟨rfl, hb⟩)
    | (go_at_call 9; refine (wrap_is _ _).mono ?_; rintro e w' ⟨rfl, rfl⟩)
    | (go_at_call 27; refine (f_add _ _ _ (wrp_word _) (wrp_word _)).mono ?_; rintro e w' ⟨rfl, rfl⟩))
  go_ret2
  exact ⟨two_ret (raw_res 0 (by decide) (wrp_word a) (wrp_word b) (by omega)) rfl, hb.alloc hb.size _⟩
set_option maxRecDepth 100000 in
set_option maxHeartbeats 1000000 in
theorem op_sub (a b : Int) (w : World) :
    Calls Try.prog 16 #[.int .i64 1, .int .i64 a, .int .i64 b] w fun e w' => e = .returned (.tuple #[.int .i64 (opR 1 a b), .int .i64 (opC 1 b)]) ∧ Below w.heap.size w w' := by
  have hc : opC 1 b = 0 := by unfold opC exc; rw [if_neg (by omega)]
  rw [hc]
  clear hc
  have ho : isOp 1 = true := rfl
  have hi : ∀ W, (Instr.index 34 (.agg tabA) (.int .i64 1)).run Try.prog W = .ok (.agg #[.bool false, .bool false, .func (.func 28) #[] #[]]) W := index_tab 1 (by decide)
  go_enter Try.func16, Try.ntmps16
  go_wp2_with (first
    | (go_at_call 19; refine (isOperation_is _ _).mono ?_; rintro e w' ⟨rfl, rfl⟩; rw [ho])
    | (go_at_call 20; refine (operations_is _).mono ?_; rintro e w' ⟨rfl, hb⟩)
    | (go_at_call 9; refine (wrap_is _ _).mono ?_; rintro e w' ⟨rfl, rfl⟩)
    | (go_at_call 28; refine (f_sub _ _ _ (wrp_word _) (wrp_word _)).mono ?_; rintro e w' ⟨rfl, rfl⟩))
  go_ret2
  exact ⟨two_ret (raw_res 1 (by decide) (wrp_word a) (wrp_word b) (by omega)) rfl, hb.alloc hb.size _⟩
set_option maxRecDepth 100000 in
set_option maxHeartbeats 1000000 in
theorem op_mul (a b : Int) (w : World) :
    Calls Try.prog 16 #[.int .i64 2, .int .i64 a, .int .i64 b] w fun e w' => e = .returned (.tuple #[.int .i64 (opR 2 a b), .int .i64 (opC 2 b)]) ∧ Below w.heap.size w w' := by
  have hc : opC 2 b = 0 := by unfold opC exc; rw [if_neg (by omega)]
  rw [hc]
  clear hc
  have ho : isOp 2 = true := rfl
  have hi : ∀ W, (Instr.index 34 (.agg tabA) (.int .i64 2)).run Try.prog W = .ok (.agg #[.bool false, .bool false, .func (.func 29) #[] #[]]) W := index_tab 2 (by decide)
  go_enter Try.func16, Try.ntmps16
  go_wp2_with (first
    | (go_at_call 19; refine (isOperation_is _ _).mono ?_; rintro e w' ⟨rfl, rfl⟩; rw [ho])
    | (go_at_call 20; refine (operations_is _).mono ?_; rintro e w' ⟨rfl, hb⟩)
    | (go_at_call 9; refine (wrap_is _ _).mono ?_; rintro e w' ⟨rfl, rfl⟩)
    | (go_at_call 29; refine (f_mul _ _ _ (wrp_word _) (wrp_word _)).mono ?_; rintro e w' ⟨rfl, rfl⟩))
  go_ret2
  exact ⟨two_ret (raw_res 2 (by decide) (wrp_word a) (wrp_word b) (by omega)) rfl, hb.alloc hb.size _⟩
set_option maxRecDepth 100000 in
set_option maxHeartbeats 1000000 in
theorem op_div_no (a b : Int) (h0 : wrp b = 0) (w : World) :
    Calls Try.prog 16 #[.int .i64 3, .int .i64 a, .int .i64 b] w fun e w' => e = .returned (.tuple #[.int .i64 (opR 3 a b), .int .i64 (opC 3 b)]) ∧ Below w.heap.size w w' := by
  have hc : opC 3 b = 2 := by unfold opC exc; rw [h0]; rfl
  have hr : opR 3 a b = 0 := by unfold opR; rw [h0]; rfl
  rw [hc, hr]
  have H0 := Lib.hid h0
  clear hc hr h0
  have ho : isOp 3 = true := rfl
  have hi : ∀ W, (Instr.index 34 (.agg tabA) (.int .i64 3)).run Try.prog W = .ok (.agg #[.bool false, .bool true, .func (.func 30) #[] #[]]) W := index_tab 3 (by decide)
  go_enter Try.func16, Try.ntmps16
  go_wp2_with (first
    | (go_at_call 19; refine (isOperation_is _ _).mono ?_; rintro e w' ⟨rfl, rfl⟩; rw [ho])
    | (go_at_call 20; refine (operations_is _).mono ?_; rintro e w' ⟨rfl, hb⟩)
    | (go_at_call_of 9 (Value.int .i64 a); refine (wrap_is _ _).mono ?_; rintro e w' ⟨rfl, rfl⟩)
    | (go_at_call_of 9 (Value.int .i64 b); refine (wrap_is _ _).mono ?_; rintro e w' ⟨rfl, rfl⟩; rw [H0.out]))
  go_ret2
  exact ⟨rfl, hb.alloc hb.size _⟩
set_option maxRecDepth 100000 in
set_option maxHeartbeats 1000000 in
theorem op_div (a b : Int) (h0 : wrp b ≠ 0) (w : World) :
    Calls Try.prog 16 #[.int .i64 3, .int .i64 a, .int .i64 b] w fun e w' => e = .returned (.tuple #[.int .i64 (opR 3 a b), .int .i64 (opC 3 b)]) ∧ Below w.heap.size w w' := by
  have hc : opC 3 b = 0 := by unfold opC exc; rw [if_neg (fun h => h0 h.2)]
  have H0 := Lib.hid h0
  have hz : (wrp b == 0) = false := beq_eq_false_iff_ne.2 h0
  clear h0
  rw [hc]
  clear hc
  have ho : isOp 3 = true := rfl
  have hi : ∀ W, (Instr.index 34 (.agg tabA) (.int .i64 3)).run Try.prog W = .ok (.agg #[.bool false, .bool true, .func (.func 30) #[] #[]]) W := index_tab 3 (by decide)
  go_enter Try.func16, Try.ntmps16
  go_wp2_with (first
    | (go_at_call 19; refine (isOperation_is _ _).mono ?_; rintro e w' ⟨rfl, rfl⟩; rw [ho])
    | (go_at_call 20; refine (operations_is _).mono ?_; rintro e w' ⟨rfl, hb⟩)
    | (go_at_call 9; refine (wrap_is _ _).mono ?_; rintro e w' ⟨rfl, rfl⟩)
    | (go_at_call 30; refine (f_div _ _ _ (wrp_word _) (wrp_word _) H0.out).mono ?_; rintro e w' ⟨rfl, rfl⟩))
  go_ret2
  exact ⟨two_ret (raw_res 3 (by decide) (wrp_word a) (wrp_word b) (fun _ => H0.out)) rfl, hb.alloc hb.size _⟩
set_option maxRecDepth 100000 in
set_option maxHeartbeats 1000000 in
theorem op_mod_no (a b : Int) (h0 : wrp b = 0) (w : World) :
    Calls Try.prog 16 #[.int .i64 4, .int .i64 a, .int .i64 b] w fun e w' => e = .returned (.tuple #[.int .i64 (opR 4 a b), .int .i64 (opC 4 b)]) ∧ Below w.heap.size w w' := by
  have hc : opC 4 b = 2 := by unfold opC exc; rw [h0]; rfl
  have hr : opR 4 a b = 0 := by unfold opR; rw [h0]; rfl
  rw [hc, hr]
  have H0 := Lib.hid h0
  clear hc hr h0
  have ho : isOp 4 = true := rfl
  have hi : ∀ W, (Instr.index 34 (.agg tabA) (.int .i64 4)).run Try.prog W = .ok (.agg #[.bool false, .bool true, .func (.func 31) #[] #[]]) W := index_tab 4 (by decide)
  go_enter Try.func16, Try.ntmps16
  go_wp2_with (first
    | (go_at_call 19; refine (isOperation_is _ _).mono ?_; rintro e w' ⟨rfl, rfl⟩; rw [ho])
    | (go_at_call 20; refine (operations_is _).mono ?_; rintro e w' ⟨rfl, hb⟩)
    | (go_at_call_of 9 (Value.int .i64 a); refine (wrap_is _ _).mono ?_; rintro e w' ⟨rfl, rfl⟩)
    | (go_at_call_of 9 (Value.int .i64 b); refine (wrap_is _ _).mono ?_; rintro e w' ⟨rfl, rfl⟩; rw [H0.out]))
  go_ret2
  exact ⟨rfl, hb.alloc hb.size _⟩
set_option maxRecDepth 100000 in
set_option maxHeartbeats 1000000 in
theorem op_mod (a b : Int) (h0 : wrp b ≠ 0) (w : World) :
    Calls Try.prog 16 #[.int .i64 4, .int .i64 a, .int .i64 b] w fun e w' => e = .returned (.tuple #[.int .i64 (opR 4 a b), .int .i64 (opC 4 b)]) ∧ Below w.heap.size w w' := by
  have hc : opC 4 b = 0 := by unfold opC exc; rw [if_neg (fun h => h0 h.2)]
  have H0 := Lib.hid h0
  have hz : (wrp b == 0) = false := beq_eq_false_iff_ne.2 h0
  clear h0
  rw [hc]
  clear hc
  have ho : isOp 4 = true := rfl
  have hi : ∀ W, (Instr.index 34 (.agg tabA) (.int .i64 4)).run Try.prog W = .ok (.agg #[.bool false, .bool true, .func (.func 31) #[] #[]]) W := index_tab 4 (by decide)
  go_enter Try.func16, Try.ntmps16
  go_wp2_with (first
    | (go_at_call 19; refine (isOperation_is _ _).mono ?_; rintro e w' ⟨rfl, rfl⟩; rw [ho])
    | (go_at_call 20; refine (operations_is _).mono ?_; rintro e w' ⟨rfl, hb⟩)
    | (go_at_call 9; refine (wrap_is _ _).mono ?_; rintro e w' ⟨rfl, rfl⟩)
    | (go_at_call 31; refine (f_mod _ _ _ H0.out).mono ?_; rintro e w' ⟨rfl, rfl⟩))
  go_ret2
  exact ⟨two_ret (raw_res 4 (by decide) (wrp_word a) (wrp_word b) (fun _ => H0.out)) rfl, hb.alloc hb.size _⟩
set_option maxRecDepth 100000 in
set_option maxHeartbeats 1000000 in
theorem op_and (a b : Int) (w : World) :
    Calls Try.prog 16 #[.int .i64 5, .int .i64 a, .int .i64 b] w fun e w' => e = .returned (.tuple #[.int .i64 (opR 5 a b), .int .i64 (opC 5 b)]) ∧ Below w.heap.size w w' := by
  have hc : opC 5 b = 0 := by unfold opC exc; rw [if_neg (by omega)]
  rw [hc]
  clear hc
  have ho : isOp 5 = true := rfl
  have hi : ∀ W, (Instr.index 34 (.agg tabA) (.int .i64 5)).run Try.prog W = .ok (.agg #[.bool false, .bool false, .func (.func 32) #[] #[]]) W := index_tab 5 (by decide)
  go_enter Try.func16, Try.ntmps16
  go_wp2_with (first
    | (go_at_call 19; refine (isOperation_is _ _).mono ?_; rintro e w' ⟨rfl, rfl⟩; rw [ho])
    | (go_at_call 20; refine (operations_is _).mono ?_; rintro e w' ⟨rfl, hb⟩)
    | (go_at_call 9; refine (wrap_is _ _).mono ?_; rintro e w' ⟨rfl, rfl⟩)
    | (go_at_call 32; refine (f_and _ _ _).mono ?_; rintro e w' ⟨rfl, rfl⟩))
  go_ret2
  exact ⟨two_ret (raw_res 5 (by decide) (wrp_word a) (wrp_word b) (by omega)) rfl, hb.alloc hb.size _⟩
set_option maxRecDepth 100000 in
set_option maxHeartbeats 1000000 in
theorem op_or (a b : Int) (w : World) :
    Calls Try.prog 16 #[.int .i64 6, .int .i64 a, .int .i64 b] w fun e w' => e = .returned (.tuple #[.int .i64 (opR 6 a b), .int .i64 (opC 6 b)]) ∧ Below w.heap.size w w' := by
  have hc : opC 6 b = 0 := by unfold opC exc; rw [if_neg (by omega)]
  rw [hc]
  clear hc
  have ho : isOp 6 = true := rfl
  have hi : ∀ W, (Instr.index 34 (.agg tabA) (.int .i64 6)).run Try.prog W = .ok (.agg #[.bool false, .bool false, .func (.func 33) #[] #[]]) W := index_tab 6 (by decide)
  go_enter Try.func16, Try.ntmps16
  go_wp2_with (first
    | (go_at_call 19; refine (isOperation_is _ _).mono ?_; rintro e w' ⟨rfl, rfl⟩; rw [ho])
    | (go_at_call 20; refine (operations_is _).mono ?_; rintro e w' ⟨rfl, hb⟩)
    | (go_at_call 9; refine (wrap_is _ _).mono ?_; rintro e w' ⟨rfl, rfl⟩)
    | (go_at_call 33; refine (f_or _ _ _).mono ?_; rintro e w' ⟨rfl, rfl⟩))
  go_ret2
  exact ⟨two_ret (raw_res 6 (by decide) (wrp_word a) (wrp_word b) (by omega)) rfl, hb.alloc hb.size _⟩
set_option maxRecDepth 100000 in
set_option maxHeartbeats 1000000 in
theorem op_xor (a b : Int) (w : World) :
    Calls Try.prog 16 #[.int .i64 7, .int .i64 a, .int .i64 b] w fun e w' => e = .returned (.tuple #[.int .i64 (opR 7 a b), .int .i64 (opC 7 b)]) ∧ Below w.heap.size w w' := by
  have hc : opC 7 b = 0 := by unfold opC exc; rw [if_neg (by omega)]
  rw [hc]
  clear hc
  have ho : isOp 7 = true := rfl
  have hi : ∀ W, (Instr.index 34 (.agg tabA) (.int .i64 7)).run Try.prog W = .ok (.agg #[.bool false, .bool false, .func (.func 34) #[] #[]]) W := index_tab 7 (by decide)
  go_enter Try.func16, Try.ntmps16
  go_wp2_with (first
    | (go_at_call 19; refine (isOperation_is _ _).mono ?_; rintro e w' ⟨rfl, rfl⟩; rw [ho])
    | (go_at_call 20; refine (operations_is _).mono ?_; rintro e w' ⟨rfl, hb⟩)
    | (go_at_call 9; refine (wrap_is _ _).mono ?_; rintro e w' ⟨rfl, rfl⟩)
    | (go_at_call 34; refine (f_xor _ _ _).mono ?_; rintro e w' ⟨rfl, rfl⟩))
  go_ret2
  exact ⟨two_ret (raw_res 7 (by decide) (wrp_word a) (wrp_word b) (by omega)) rfl, hb.alloc hb.size _⟩
set_option maxRecDepth 100000 in
set_option maxHeartbeats 1000000 in
theorem op_shl (a b : Int) (w : World) :
    Calls Try.prog 16 #[.int .i64 8, .int .i64 a, .int .i64 b] w fun e w' => e = .returned (.tuple #[.int .i64 (opR 8 a b), .int .i64 (opC 8 b)]) ∧ Below w.heap.size w w' := by
  have hc : opC 8 b = 0 := by unfold opC exc; rw [if_neg (by omega)]
  rw [hc]
  clear hc
  have ho : isOp 8 = true := rfl
  have hi : ∀ W, (Instr.index 34 (.agg tabA) (.int .i64 8)).run Try.prog W = .ok (.agg #[.bool false, .bool false, .func (.func 35) #[] #[]]) W := index_tab 8 (by decide)
  go_enter Try.func16, Try.ntmps16
  go_wp2_with (first
    | (go_at_call 19; refine (isOperation_is _ _).mono ?_; rintro e w' ⟨rfl, rfl⟩; rw [ho])
    | (go_at_call 20; refine (operations_is _).mono ?_; rintro e w' ⟨rfl, hb⟩)
    | (go_at_call 9; refine (wrap_is _ _).mono ?_; rintro e w' ⟨rfl, rfl⟩)
    | (go_at_call 35; refine (f_shl _ _ _ (wrp_word _)).mono ?_; rintro e w' ⟨rfl, rfl⟩))
  go_ret2
  exact ⟨two_ret (raw_res 8 (by decide) (wrp_word a) (wrp_word b) (by omega)) rfl, hb.alloc hb.size _⟩
set_option maxRecDepth 100000 in
set_option maxHeartbeats 1000000 in
theorem op_shr (a b : Int) (w : World) :
    Calls Try.prog 16 #[.int .i64 9, .int .i64 a, .int .i64 b] w fun e w' => e = .returned (.tuple #[.int .i64 (opR 9 a b), .int .i64 (opC 9 b)]) ∧ Below w.heap.size w w' := by
  have hc : opC 9 b = 0 := by unfold opC exc; rw [if_neg (by omega)]
  rw [hc]
  clear hc
  have ho : isOp 9 = true := rfl
  have hi : ∀ W, (Instr.index 34 (.agg tabA) (.int .i64 9)).run Try.prog W = .ok (.agg #[.bool false, .bool false, .func (.func 37) #[] #[]]) W := index_tab 9 (by decide)
  go_enter Try.func16, Try.ntmps16
  go_wp2_with (first
    | (go_at_call 19; refine (isOperation_is _ _).mono ?_; rintro e w' ⟨rfl, rfl⟩; rw [ho])
    | (go_at_call 20; refine (operations_is _).mono ?_; rintro e w' ⟨rfl, hb⟩)
    | (go_at_call 9; refine (wrap_is _ _).mono ?_; rintro e w' ⟨rfl, rfl⟩)
    | (go_at_call 37; refine (f_shr _ _ _).mono ?_; rintro e w' ⟨rfl, rfl⟩))
  go_ret2
  exact ⟨two_ret (raw_res 9 (by decide) (wrp_word a) (wrp_word b) (by omega)) rfl, hb.alloc hb.size _⟩
set_option maxRecDepth 100000 in
set_option maxHeartbeats 1000000 in
theorem op_less (a b : Int) (w : World) :
    Calls Try.prog 16 #[.int .i64 10, .int .i64 a, .int .i64 b] w fun e w' => e = .returned (.tuple #[.int .i64 (opR 10 a b), .int .i64 (opC 10 b)]) ∧ Below w.heap.size w w' := by
  have hc : opC 10 b = 0 := by unfold opC exc; rw [if_neg (by omega)]
  rw [hc]
  clear hc
  have ho : isOp 10 = true := rfl
  have hi : ∀ W, (Instr.index 34 (.agg tabA) (.int .i64 10)).run Try.prog W = .ok (.agg #[.bool true, .bool false, .func (.func 38) #[] #[]]) W := index_tab 10 (by decide)
  go_enter Try.func16, Try.ntmps16
  go_wp2_with (first
    | (go_at_call 19; refine (isOperation_is _ _).mono ?_; rintro e w' ⟨rfl, rfl⟩; rw [ho])
    | (go_at_call 20; refine (operations_is _).mono ?_; rintro e w' ⟨rfl, hb⟩)
    | (go_at_call 9; refine (wrap_is _ _).mono ?_; rintro e w' ⟨rfl, rfl⟩)
    | (go_at_call 38; refine (f_less _ _ _).mono ?_; rintro e w' ⟨rfl, rfl⟩))
  go_ret2
  exact ⟨two_ret (raw_res 10 (by decide) (wrp_word a) (wrp_word b) (by omega)) rfl, hb.alloc hb.size _⟩
set_option maxRecDepth 100000 in
set_option maxHeartbeats 1000000 in
theorem op_same (a b : Int) (w : World) :
    Calls Try.prog 16 #[.int .i64 11, .int .i64 a, .int .i64 b] w fun e w' => e = .returned (.tuple #[.int .i64 (opR 11 a b), .int .i64 (opC 11 b)]) ∧ Below w.heap.size w w' := by
  have hc : opC 11 b = 0 := by unfold opC exc; rw [if_neg (by omega)]
  rw [hc]
  clear hc
  have ho : isOp 11 = true := rfl
  have hi : ∀ W, (Instr.index 34 (.agg tabA) (.int .i64 11)).run Try.prog W = .ok (.agg #[.bool true, .bool false, .func (.func 40) #[] #[]]) W := index_tab 11 (by decide)
  go_enter Try.func16, Try.ntmps16
  go_wp2_with (first
    | (go_at_call 19; refine (isOperation_is _ _).mono ?_; rintro e w' ⟨rfl, rfl⟩; rw [ho])
    | (go_at_call 20; refine (operations_is _).mono ?_; rintro e w' ⟨rfl, hb⟩)
    | (go_at_call 9; refine (wrap_is _ _).mono ?_; rintro e w' ⟨rfl, rfl⟩)
    | (go_at_call 40; refine (f_same _ _ _).mono ?_; rintro e w' ⟨rfl, rfl⟩))
  go_ret2
  exact ⟨two_ret (raw_res 11 (by decide) (wrp_word a) (wrp_word b) (by omega)) rfl, hb.alloc hb.size _⟩
set_option maxRecDepth 100000 in
set_option maxHeartbeats 1000000 in
theorem op_both (a b : Int) (w : World) :
    Calls Try.prog 16 #[.int .i64 12, .int .i64 a, .int .i64 b] w fun e w' => e = .returned (.tuple #[.int .i64 (opR 12 a b), .int .i64 (opC 12 b)]) ∧ Below w.heap.size w w' := by
  have hc : opC 12 b = 0 := by unfold opC exc; rw [if_neg (by omega)]
  rw [hc]
  clear hc
  have ho : isOp 12 = true := rfl
  have hi : ∀ W, (Instr.index 34 (.agg tabA) (.int .i64 12)).run Try.prog W = .ok (.agg #[.bool true, .bool false, .func (.func 41) #[] #[]]) W := index_tab 12 (by decide)
  go_enter Try.func16, Try.ntmps16
  go_wp2_with (first
    | (go_at_call 19; refine (isOperation_is _ _).mono ?_; rintro e w' ⟨rfl, rfl⟩; rw [ho])
    | (go_at_call 20; refine (operations_is _).mono ?_; rintro e w' ⟨rfl, hb⟩)
    | (go_at_call 9; refine (wrap_is _ _).mono ?_; rintro e w' ⟨rfl, rfl⟩)
    | (go_at_call 41; refine (f_both _ _ _).mono ?_; rintro e w' ⟨rfl, rfl⟩))
  go_ret2
  exact ⟨two_ret (raw_res 12 (by decide) (wrp_word a) (wrp_word b) (by omega)) rfl, hb.alloc hb.size _⟩
set_option maxRecDepth 100000 in
set_option maxHeartbeats 1000000 in
theorem op_some (a b : Int) (w : World) :
    Calls Try.prog 16 #[.int .i64 13, .int .i64 a, .int .i64 b] w fun e w' => e = .returned (.tuple #[.int .i64 (opR 13 a b), .int .i64 (opC 13 b)]) ∧ Below w.heap.size w w' := by
  have hc : opC 13 b = 0 := by unfold opC exc; rw [if_neg (by omega)]
  rw [hc]
  clear hc
  have ho : isOp 13 = true := rfl
  have hi : ∀ W, (Instr.index 34 (.agg tabA) (.int .i64 13)).run Try.prog W = .ok (.agg #[.bool true, .bool false, .func (.func 42) #[] #[]]) W := index_tab 13 (by decide)
  go_enter Try.func16, Try.ntmps16
  go_wp2_with (first
    | (go_at_call 19; refine (isOperation_is _ _).mono ?_; rintro e w' ⟨rfl, rfl⟩; rw [ho])
    | (go_at_call 20; refine (operations_is _).mono ?_; rintro e w' ⟨rfl, hb⟩)
    | (go_at_call 9; refine (wrap_is _ _).mono ?_; rintro e w' ⟨rfl, rfl⟩)
    | (go_at_call 42; refine (f_some _ _ _).mono ?_; rintro e w' ⟨rfl, rfl⟩))
  go_ret2
  exact ⟨two_ret (raw_res 13 (by decide) (wrp_word a) (wrp_word b) (by omega)) rfl, hb.alloc hb.size _⟩

/-- Op, whatever the operation and the operands. -/
theorem op_is (op a b : Int) (w : World) :
    Calls Try.prog 16 #[.int .i64 op, .int .i64 a, .int .i64 b] w fun e w' => e = .returned (.tuple #[.int .i64 (opR op a b), .int .i64 (opC op b)]) ∧ Below w.heap.size w w' := by
  by_cases h : 0 ≤ op ∧ op < 14
  · have : op = 0 ∨ op = 1 ∨ op = 2 ∨ op = 3 ∨ op = 4 ∨ op = 5 ∨ op = 6 ∨ op = 7 ∨ op = 8 ∨ op = 9 ∨ op = 10 ∨ op = 11 ∨ op = 12 ∨ op = 13 := by omega
    rcases this with rfl | rfl | rfl | rfl | rfl | rfl | rfl | rfl | rfl | rfl | rfl | rfl | rfl | rfl
    · exact op_add a b w
    · exact op_sub a b w
    · exact op_mul a b w
    · by_cases h0 : wrp b = 0
      · exact op_div_no a b h0 w
      · exact op_div a b h0 w
    · by_cases h0 : wrp b = 0
      · exact op_mod_no a b h0 w
      · exact op_mod a b h0 w
    · exact op_and a b w
    · exact op_or a b w
    · exact op_xor a b w
    · exact op_shl a b w
    · exact op_shr a b w
    · exact op_less a b w
    · exact op_same a b w
    · exact op_both a b w
    · exact op_some a b w
  · exact op_no op a b h w
end Go.Proofs.Ythjdonjcaekaaaa
