/-
  The walk of WordDivides.
-/
import Derived.Test.YthjdonjcaekaaaaWdLive
import Derived.WalkLawsBesides
namespace Go.Proofs.Ythjdonjcaekaaaa
open Go.RowKit WD

/-- Quotient and rest, for two words. -/
theorem div_facts {x y : Int} (hx : isWord x) (hy : isWord y) (h0 : y ≠ 0) : opR 0 (opR 2 y (res 3 x y)) (res 4 x y) = x ∧ (res 4 x y = 0 ∨ decide (res 4 x y < 0) = decide (x < 0)) ∧ max (res 4 x y) (-(res 4 x y)) < max y (-y) ∧ -8 ≤ res 4 x y ∧ res 4 x y ≤ 7 ∧ -8 ≤ res 3 x y ∧ res 3 x y ≤ 7 := by
  have h := by_words2 (p := fun x y => decide (y ≠ 0 → opR 0 (opR 2 y (res 3 x y)) (res 4 x y) = x ∧ (res 4 x y = 0 ∨ decide (res 4 x y < 0) = decide (x < 0)) ∧ max (res 4 x y) (-(res 4 x y)) < max y (-y) ∧ -8 ≤ res 4 x y ∧ res 4 x y ≤ 7 ∧ -8 ≤ res 3 x y ∧ res 3 x y ≤ 7)) (by decide +kernel) hx hy
  exact of_decide_eq_true h h0
set_option maxRecDepth 100000 in
set_option maxHeartbeats 4000000 in
theorem walkDiv (a b : Int) (w : World) :
    Calls Try.prog 6 #[.int .i64 a, .int .i64 b] w fun e w' => e = .returned (.bool true) ∧ Below w.heap.size w w' := by
  have HB := Lib.hid (Below.refl w.heap.size w)
  by_cases h0 : wrp b = 0
  · have hc3 : opC 3 b = 2 := by unfold opC exc; rw [h0]; rfl
    have hc4 : opC 4 b = 2 := by unfold opC exc; rw [h0]; rfl
    have hr3 : opR 3 a b = 0 := by unfold opR; rw [h0]; rfl
    have hr4 : opR 4 a b = 0 := by unfold opR; rw [h0]; rfl
    go_enter Try.func6, Try.ntmps6
    go_wp2_with (first
      | (go_at_call 16; refine (op_is _ _ _ _).mono ?_; rintro e w' ⟨rfl, hb⟩; (first | rw [hr3, hc3] | rw [hr4, hc4]); replace HB := Lib.hid (bt HB.out hb))
      | (go_at_call 9; refine (wrap_is _ _).mono ?_; rintro e w' ⟨rfl, rfl⟩)
      | (go_at_call 15; refine (lives_is _).mono ?_; rintro e w' ⟨rfl, hb⟩; replace HB := Lib.hid (bt HB.out hb)))
    go_ret
    exact ⟨rfl, HB.out⟩
  · have hc3 : opC 3 b = 0 := by unfold opC exc; rw [if_neg (fun h => h0 h.2)]
    have hc4 : opC 4 b = 0 := by unfold opC exc; rw [if_neg (fun h => h0 h.2)]
    obtain ⟨q, hq⟩ : ∃ q, q = opR 3 a b := ⟨_, rfl⟩
    obtain ⟨r, hr⟩ : ∃ r, r = opR 4 a b := ⟨_, rfl⟩
    obtain ⟨f1, f2, f3, f4, f5, f6, f7⟩ := div_facts (wrp_word a) (wrp_word b) h0
    have hm : opR 2 b q = opR 2 (wrp b) q := by unfold opR; rw [wrp_wrp]
    rw [show res 3 (wrp a) (wrp b) = q from hq.symm] at f1 f6 f7
    rw [show res 4 (wrp a) (wrp b) = r from hr.symm] at f1 f2 f3 f4 f5
    rw [← hm] at f1
    obtain ⟨x, hx⟩ : ∃ x, x = wrp a := ⟨_, rfl⟩
    obtain ⟨y, hy⟩ : ∃ y, y = wrp b := ⟨_, rfl⟩
    rw [← hx] at f1 f2
    rw [← hy] at f3 h0
    have hxw := wrp_le a
    have hyw := wrp_le b
    rw [← hx] at hxw
    rw [← hy] at hyw
    have HX := Lib.hid hx.symm
    have HY := Lib.hid hy.symm
    have HQ := Lib.hid hq.symm
    have HR := Lib.hid hr.symm
    have hyz : (y == 0) = false := beq_eq_false_iff_ne.2 h0
    have F2 := Lib.hid f2
    have F1 := Lib.hid f1
    clear hx hy hq hr hm f1 f2 h0
    rcases Classical.em (r = 0) with rfl | hr0
    all_goals
      go_enter Try.func6, Try.ntmps6
      go_wp2_with (first
        | (go_at_call 16; refine (op_is _ _ _ _).mono ?_; rintro e w' ⟨rfl, hb⟩; (first | rw [HQ.out, hc3] | rw [HR.out, hc4]); replace HB := Lib.hid (bt HB.out hb))
        | (go_at_call_of 9 (Value.int .i64 a); refine (wrap_is _ _).mono ?_; rintro e w' ⟨rfl, rfl⟩; rw [HX.out])
        | (go_at_call_of 9 (Value.int .i64 b); refine (wrap_is _ _).mono ?_; rintro e w' ⟨rfl, rfl⟩; rw [HY.out])
        | (go_at_call_of 18 (Value.int .i64 b); refine (of_is _ _ _ _).mono ?_; rintro e w' ⟨rfl, hb⟩; replace HB := Lib.hid (bt HB.out hb))
        | (go_at_call_of 18 (Value.int .i64 (opR 2 b q)); refine (of_is _ _ _ _).mono ?_; rintro e w' ⟨rfl, hb⟩; rw [F1.out]; replace HB := Lib.hid (bt HB.out hb))
        | (go_at_call 15; refine (lives_is _).mono ?_; rintro e w' ⟨rfl, hb⟩; replace HB := Lib.hid (bt HB.out hb)))
      all_goals first
        | (go_ret; exact ⟨rfl, HB.out⟩)
        | (exfalso; have h2 := F2.out; rw [decide_eq_decide] at h2; omega)
end Go.Proofs.Ythjdonjcaekaaaa
