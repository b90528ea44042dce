/-
  The maker of code: value, by cases.
-/
import Derived.Test.YtbdknncmlcbbpaaDoorG07
set_option linter.unusedVariables false
namespace Go.Proofs.YtbdknncmlcbbpaaDoor
open Go.RowKit WM TR KM

/-- What value and step leave. -/
def VPost (m : Nat) (g : Nat) (fx : Fx) (b : Nat) (l : Int) (a : Nat) (w : World) (e : Ending) (w' : World) : Prop :=
  ∃ v' body' a' l', e = .returned (.tuple #[]) ∧ MkR w' g fx v' body' a' l' ∧ Below g w w' ∧ Cost m b l a body'.length l' a'
/-- The contract of value, for budgets up to a number. -/
def ValC (g : Nat) (fx : Fx) (L ps : List Int) (n : Nat) : Prop :=
  ∀ (w : World) (v : Option Addr × Nat) (body : List Ins) (a : Nat) (l : Int), MkR w g fx v body a l → FxOk w g fx L ps → l ≤ (n : Int) + 1 → body.length + 10 * l.toNat ≤ 100000 → -100000 ≤ l - 10 * l.toNat → a + 40 * l.toNat ≤ 800000 →
    Calls Tryd.prog 59 #[.pointer (some ⟨g, 0, none⟩)] w (VPost 1 g fx body.length l a w)
theorem VPost.mk_ {m g b a : Nat} {fx : Fx} {l : Int} {w w' : World} {v : Option Addr × Nat} {body : List Ins} {a' x y z : Nat} {l' : Int} (hm : MkR w' g fx v body a' l') (hb : Below g w w') (hc : Cur b (l - 1) a x y z body.length l' a') (h : (2 ≤ l ∧ x ≤ m + 10 ∧ y ≤ m + 9 ∧ z ≤ 40 + 3 * m) ∨ (x ≤ m ∧ y + 1 ≤ m ∧ z ≤ 3 * m)) :
    VPost m g fx b l a w (.returned (.tuple #[])) w' := ⟨v, body, a', l', rfl, hm, hb, hc.fin h⟩
theorem okI_of {o x y : Int} (h1 : inRange o) (h2 : inRange x) (h3 : inRange y) : okI ⟨o, x, y⟩ := ⟨h1, h2, h3⟩
theorem Cur.put' {b0 a0 x y z a : Nat} {l0 l : Int} {body : List Ins} {i : Ins} (h : Cur b0 l0 a0 x y z body.length l a) : Cur b0 l0 a0 (x + 1) y z (body ++ [i]).length l a := by
  rw [List.length_append]; exact h.put
/-- Room for what comes next. -/
theorem Cur.room {b0 a0 x y z b a : Nat} {l0 l : Int} (h : Cur b0 l0 a0 x y z b l a) (hb : b0 + 10 * l0.toNat + x ≤ 100000) {K : Nat} (ha : a0 + 40 * l0.toNat + z ≤ K) {M : Int} (hl : M + (y : Int) ≤ l0 - 10 * l0.toNat) : b + 10 * l.toNat ≤ 100000 ∧ a + 40 * l.toNat ≤ K ∧ M ≤ l - 10 * l.toNat := by
  obtain ⟨h1, h2, h3, h4, h5⟩ := h; omega

set_option maxRecDepth 100000 in
set_option maxHeartbeats 8000000 in
theorem value_step (g : Nat) (fx : Fx) (L ps : List Int) (n : Nat) (hV : ∀ m, n = m + 1 → ValC g fx L ps m) : ValC g fx L ps n := by
  intro w v body a l hm hf hln hb hl ha
  obtain ⟨hch, hwd, hnF⟩ : (0 ≤ fx.ch ∧ fx.ch ≤ 3) ∧ (1 ≤ fx.wd ∧ fx.wd ≤ 100) ∧ (1 ≤ fx.nF ∧ fx.nF ≤ 3) := ⟨hf.ch, hf.wd, hf.nF⟩
  obtain ⟨c0, c1, c3, c4, c6, c7, c8, f4, f7, f8⟩ := hm.cells
  have hlw : IntKind.i64.wrap (l - 1) = l - 1 := by rw [IntKind.wrap_i64]; omega
  have HBN : Hid (body.length + 10 * l.toNat ≤ 100000 ∧ -100000 ≤ l - 10 * l.toNat ∧ a + 40 * l.toNat ≤ 800000) := Lib.hid ⟨hb, hl, ha⟩
  have HM := Lib.hid hm
  have HF := Lib.hid hf
  have HVV := Lib.hid hV
  clear hm hf hV hb hl ha
  go_enter Tryd.func59, Tryd.ntmps59
  go_upto_region 1 with fail
  obtain ⟨W1, hW1⟩ : ∃ W1, W1 = w.setCell ⟨g, 8, none⟩ (.int .i64 (l - 1)) := ⟨_, rfl⟩
  have HMV : Hid (MkR W1 g fx v body a (l - 1)) := Lib.hid (by rw [hW1]; exact HM.out.left_ _)
  have HBV : Hid (Below g w W1) := Lib.hid (by rw [hW1]; exact below_set (Below.refl g w) (Nat.le_refl g) 8 _)
  have HCU : Hid (Cur body.length (l - 1) a 0 0 0 body.length (l - 1) a) := Lib.hid (Cur.zero _ _ _)
  rw [← hW1]
  clear c0 c1 c3 c4 c6 c7 c8 f4 f7 f8 hW1 hlw
  obtain ⟨c0, c1, c3, c4, c6, c7, c8, f4, f7, f8⟩ := HMV.out.cells
  go_upto_region 2 with (first
      | (go_at_call 33; go_loud (refine (pick_is HMV.out (HF.out.next HBV.out) _ (by omega) (by have := HCU.out.at_; have := HBN.out; omega)).mono ?_; rintro e w2 ⟨k, rfl, hk2, hm2, hb2⟩; clear c0 c1 c3 c4 c6 c7 c8 f4 f7 f8; replace HCU := Lib.hid HCU.out.pick; replace HBV := Lib.hid (HBV.out.trans hb2); replace HMV := Lib.hid hm2; clear hm2 hb2; obtain ⟨c0, c1, c3, c4, c6, c7, c8, f4, f7, f8⟩ := HMV.out.cells; have hkk : k < 128 := (by omega); have e1 : IntKind.i64.wrap ((k : Int) - 8) = (k : Int) - 8 := (by rw [IntKind.wrap_i64]; omega); have e2 : IntKind.i64.wrap (1 + (k : Int)) = 1 + (k : Int) := (by rw [IntKind.wrap_i64]; omega); have e3 : IntKind.i64.wrap (fx.wd - (1 + (k : Int))) = fx.wd - (1 + (k : Int)) := (by rw [IntKind.wrap_i64]; omega); have e4 : IntKind.i64.wrap (fx.wd - (1 + (k : Int)) + 1) = fx.wd - (1 + (k : Int)) + 1 := (by rw [IntKind.wrap_i64]; omega))))
  have hk9 : k < 9 := by omega
  clear hk2 e1 e2 e3 e4 hkk
  by_cases hle : l - 1 ≤ 0
  · have hd : decide (l - 1 ≤ 0) = true := decide_eq_true hle
    go_wp2_with (first
        | (go_at_call 33; go_loud (refine (pick_is HMV.out (HF.out.next HBV.out) _ (by omega) (by have := HCU.out.at_; have := HBN.out; omega)).mono ?_; rintro e w2 ⟨k2, rfl, hk2, hm2, hb2⟩; clear c0 c1 c3 c4 c6 c7 c8 f4 f7 f8; replace HCU := Lib.hid HCU.out.pick; replace HBV := Lib.hid (HBV.out.trans hb2); replace HMV := Lib.hid hm2; clear hm2 hb2; obtain ⟨c0, c1, c3, c4, c6, c7, c8, f4, f7, f8⟩ := HMV.out.cells; have hkk : k2 < 128 := (by omega); have e1 : IntKind.i64.wrap ((k2 : Int) - 8) = (k2 : Int) - 8 := (by rw [IntKind.wrap_i64]; omega); have e2 : IntKind.i64.wrap (1 + (k2 : Int)) = 1 + (k2 : Int) := (by rw [IntKind.wrap_i64]; omega); have e3 : IntKind.i64.wrap (fx.wd - (1 + (k2 : Int))) = fx.wd - (1 + (k2 : Int)) := (by rw [IntKind.wrap_i64]; omega); have e4 : IntKind.i64.wrap (fx.wd - (1 + (k2 : Int)) + 1) = fx.wd - (1 + (k2 : Int)) + 1 := (by rw [IntKind.wrap_i64]; omega)))
        | (go_at_call 35; go_loud (refine (put_is3 HMV.out _ _ _ (by unfold inRange; omega) (by unfold inRange; omega) (by unfold inRange; omega) (by have := HCU.out.hi; have := HBN.out; omega)).mono ?_; rintro e w3 ⟨v3, body3, rfl, hl3, hm3, hb3⟩; clear c0 c1 c3 c4 c6 c7 c8 f4 f7 f8; replace HCU := Lib.hid (HCU.out.put2 hl3); replace HBV := Lib.hid (HBV.out.trans hb3); replace HMV := Lib.hid hm3; clear hm3 hb3 hl3; obtain ⟨c0, c1, c3, c4, c6, c7, c8, f4, f7, f8⟩ := HMV.out.cells)))
    (try simp only [Exit.inBlock, Exit.then]); first | (refine bodyPost_ret (results_none rfl _ _ _) rfl ?_) | (refine bodyPost_end (results_none rfl _ _ _) rfl ?_)
    exact VPost.mk_ HMV.out HBV.out HCU.out (.inr ⟨by omega, by omega, by omega⟩)
  · have hd : decide (l - 1 ≤ 0) = false := decide_eq_false hle
    by_cases hk2' : (k : Int) < 2
    · have hd2 : decide ((k : Int) < 2) = true := decide_eq_true hk2'
      go_wp2_with (first
          | (go_at_call 33; go_loud (refine (pick_is HMV.out (HF.out.next HBV.out) _ (by omega) (by have := HCU.out.at_; have := HBN.out; omega)).mono ?_; rintro e w2 ⟨k2, rfl, hk2, hm2, hb2⟩; clear c0 c1 c3 c4 c6 c7 c8 f4 f7 f8; replace HCU := Lib.hid HCU.out.pick; replace HBV := Lib.hid (HBV.out.trans hb2); replace HMV := Lib.hid hm2; clear hm2 hb2; obtain ⟨c0, c1, c3, c4, c6, c7, c8, f4, f7, f8⟩ := HMV.out.cells; have hkk : k2 < 128 := (by omega); have e1 : IntKind.i64.wrap ((k2 : Int) - 8) = (k2 : Int) - 8 := (by rw [IntKind.wrap_i64]; omega); have e2 : IntKind.i64.wrap (1 + (k2 : Int)) = 1 + (k2 : Int) := (by rw [IntKind.wrap_i64]; omega); have e3 : IntKind.i64.wrap (fx.wd - (1 + (k2 : Int))) = fx.wd - (1 + (k2 : Int)) := (by rw [IntKind.wrap_i64]; omega); have e4 : IntKind.i64.wrap (fx.wd - (1 + (k2 : Int)) + 1) = fx.wd - (1 + (k2 : Int)) + 1 := (by rw [IntKind.wrap_i64]; omega)))
          | (go_at_call 35; go_loud (refine (put_is3 HMV.out _ _ _ (by unfold inRange; omega) (by unfold inRange; omega) (by unfold inRange; omega) (by have := HCU.out.hi; have := HBN.out; omega)).mono ?_; rintro e w3 ⟨v3, body3, rfl, hl3, hm3, hb3⟩; clear c0 c1 c3 c4 c6 c7 c8 f4 f7 f8; replace HCU := Lib.hid (HCU.out.put2 hl3); replace HBV := Lib.hid (HBV.out.trans hb3); replace HMV := Lib.hid hm3; clear hm3 hb3 hl3; obtain ⟨c0, c1, c3, c4, c6, c7, c8, f4, f7, f8⟩ := HMV.out.cells)))
      (try simp only [Exit.inBlock, Exit.then]); first | (refine bodyPost_ret (results_none rfl _ _ _) rfl ?_) | (refine bodyPost_end (results_none rfl _ _ _) rfl ?_)
      exact VPost.mk_ HMV.out HBV.out HCU.out (.inl ⟨by omega, by omega, by omega, by omega⟩)
    · have hd2 : decide ((k : Int) < 2) = false := decide_eq_false hk2'
      obtain ⟨m, hm⟩ : ∃ m, n = m + 1 := ⟨n - 1, by omega⟩
      have HV : Hid (ValC g fx L ps m) := Lib.hid (HVV.out m hm)
      subst hm
      have hcs : k = 2 ∨ k = 3 ∨ k = 4 ∨ k = 5 ∨ k = 6 ∨ k = 7 ∨ k = 8 := by omega
      clear hk9
      rcases hcs with rfl | rfl | rfl | rfl | rfl | rfl | rfl
      · clear hk2'
        go_wp2_with (first
          | (go_at_call 33; go_loud (refine (pick_is HMV.out (HF.out.next HBV.out) _ (by omega) (by have := HCU.out.at_; have := HBN.out; omega)).mono ?_; rintro e w2 ⟨k2, rfl, hk2, hm2, hb2⟩; clear c0 c1 c3 c4 c6 c7 c8 f4 f7 f8; replace HCU := Lib.hid HCU.out.pick; replace HBV := Lib.hid (HBV.out.trans hb2); replace HMV := Lib.hid hm2; clear hm2 hb2; obtain ⟨c0, c1, c3, c4, c6, c7, c8, f4, f7, f8⟩ := HMV.out.cells; have hkk : k2 < 128 := (by omega); have e1 : IntKind.i64.wrap ((k2 : Int) - 8) = (k2 : Int) - 8 := (by rw [IntKind.wrap_i64]; omega); have e2 : IntKind.i64.wrap (1 + (k2 : Int)) = 1 + (k2 : Int) := (by rw [IntKind.wrap_i64]; omega); have e3 : IntKind.i64.wrap (fx.wd - (1 + (k2 : Int))) = fx.wd - (1 + (k2 : Int)) := (by rw [IntKind.wrap_i64]; omega); have e4 : IntKind.i64.wrap (fx.wd - (1 + (k2 : Int)) + 1) = fx.wd - (1 + (k2 : Int)) + 1 := (by rw [IntKind.wrap_i64]; omega)))
          | (go_at_call 35; go_loud (refine (put_is3 HMV.out _ _ _ (by unfold inRange; omega) (by unfold inRange; omega) (by unfold inRange; omega) (by have := HCU.out.hi; have := HBN.out; omega)).mono ?_; rintro e w3 ⟨v3, body3, rfl, hl3, hm3, hb3⟩; clear c0 c1 c3 c4 c6 c7 c8 f4 f7 f8; replace HCU := Lib.hid (HCU.out.put2 hl3); replace HBV := Lib.hid (HBV.out.trans hb3); replace HMV := Lib.hid hm3; clear hm3 hb3 hl3; obtain ⟨c0, c1, c3, c4, c6, c7, c8, f4, f7, f8⟩ := HMV.out.cells))
          | (go_at_call 59; go_loud (refine (HV.out _ _ _ _ _ HMV.out (HF.out.next HBV.out) (by have := HCU.out.left; omega) (HCU.out.room (K := 800000) (M := -100000) (by have := HBN.out; omega) (by have := HBN.out; omega) (by have := HBN.out; omega)).1 (HCU.out.room (K := 800000) (M := -100000) (by have := HBN.out; omega) (by have := HBN.out; omega) (by have := HBN.out; omega)).2.2 (HCU.out.room (K := 800000) (M := -100000) (by have := HBN.out; omega) (by have := HBN.out; omega) (by have := HBN.out; omega)).2.1).mono ?_; rintro e w4 ⟨v4, body4, a4, l4, rfl, hm4, hb4, hc4⟩; clear c0 c1 c3 c4 c6 c7 c8 f4 f7 f8; replace HCU := Lib.hid (HCU.out.call hc4); replace HBV := Lib.hid (HBV.out.trans hb4); replace HMV := Lib.hid hm4; clear hm4 hb4 hc4; obtain ⟨c0, c1, c3, c4, c6, c7, c8, f4, f7, f8⟩ := HMV.out.cells)))
        all_goals
          (try simp only [Exit.inBlock, Exit.then]); first | (refine bodyPost_ret (results_none rfl _ _ _) rfl ?_) | (refine bodyPost_end (results_none rfl _ _ _) rfl ?_)
          exact VPost.mk_ HMV.out HBV.out HCU.out (.inl ⟨by omega, by omega, by omega, by omega⟩)
      · clear hk2'
        go_wp2_with (first
          | (go_at_call 33; go_loud (refine (pick_is HMV.out (HF.out.next HBV.out) _ (by omega) (by have := HCU.out.at_; have := HBN.out; omega)).mono ?_; rintro e w2 ⟨k2, rfl, hk2, hm2, hb2⟩; clear c0 c1 c3 c4 c6 c7 c8 f4 f7 f8; replace HCU := Lib.hid HCU.out.pick; replace HBV := Lib.hid (HBV.out.trans hb2); replace HMV := Lib.hid hm2; clear hm2 hb2; obtain ⟨c0, c1, c3, c4, c6, c7, c8, f4, f7, f8⟩ := HMV.out.cells; have hkk : k2 < 128 := (by omega); have e1 : IntKind.i64.wrap ((k2 : Int) - 8) = (k2 : Int) - 8 := (by rw [IntKind.wrap_i64]; omega); have e2 : IntKind.i64.wrap (1 + (k2 : Int)) = 1 + (k2 : Int) := (by rw [IntKind.wrap_i64]; omega); have e3 : IntKind.i64.wrap (fx.wd - (1 + (k2 : Int))) = fx.wd - (1 + (k2 : Int)) := (by rw [IntKind.wrap_i64]; omega); have e4 : IntKind.i64.wrap (fx.wd - (1 + (k2 : Int)) + 1) = fx.wd - (1 + (k2 : Int)) + 1 := (by rw [IntKind.wrap_i64]; omega)))
          | (go_at_call 35; go_loud (refine (put_is3 HMV.out _ _ _ (by unfold inRange; omega) (by unfold inRange; omega) (by unfold inRange; omega) (by have := HCU.out.hi; have := HBN.out; omega)).mono ?_; rintro e w3 ⟨v3, body3, rfl, hl3, hm3, hb3⟩; clear c0 c1 c3 c4 c6 c7 c8 f4 f7 f8; replace HCU := Lib.hid (HCU.out.put2 hl3); replace HBV := Lib.hid (HBV.out.trans hb3); replace HMV := Lib.hid hm3; clear hm3 hb3 hl3; obtain ⟨c0, c1, c3, c4, c6, c7, c8, f4, f7, f8⟩ := HMV.out.cells))
          | (go_at_call 59; go_loud (refine (HV.out _ _ _ _ _ HMV.out (HF.out.next HBV.out) (by have := HCU.out.left; omega) (HCU.out.room (K := 800000) (M := -100000) (by have := HBN.out; omega) (by have := HBN.out; omega) (by have := HBN.out; omega)).1 (HCU.out.room (K := 800000) (M := -100000) (by have := HBN.out; omega) (by have := HBN.out; omega) (by have := HBN.out; omega)).2.2 (HCU.out.room (K := 800000) (M := -100000) (by have := HBN.out; omega) (by have := HBN.out; omega) (by have := HBN.out; omega)).2.1).mono ?_; rintro e w4 ⟨v4, body4, a4, l4, rfl, hm4, hb4, hc4⟩; clear c0 c1 c3 c4 c6 c7 c8 f4 f7 f8; replace HCU := Lib.hid (HCU.out.call hc4); replace HBV := Lib.hid (HBV.out.trans hb4); replace HMV := Lib.hid hm4; clear hm4 hb4 hc4; obtain ⟨c0, c1, c3, c4, c6, c7, c8, f4, f7, f8⟩ := HMV.out.cells)))
        all_goals
          (try simp only [Exit.inBlock, Exit.then]); first | (refine bodyPost_ret (results_none rfl _ _ _) rfl ?_) | (refine bodyPost_end (results_none rfl _ _ _) rfl ?_)
          exact VPost.mk_ HMV.out HBV.out HCU.out (.inl ⟨by omega, by omega, by omega, by omega⟩)
      · clear hk2'
        go_wp2_with (first
          | (go_at_call 33; go_loud (refine (pick_is HMV.out (HF.out.next HBV.out) _ (by omega) (by have := HCU.out.at_; have := HBN.out; omega)).mono ?_; rintro e w2 ⟨k2, rfl, hk2, hm2, hb2⟩; clear c0 c1 c3 c4 c6 c7 c8 f4 f7 f8; replace HCU := Lib.hid HCU.out.pick; replace HBV := Lib.hid (HBV.out.trans hb2); replace HMV := Lib.hid hm2; clear hm2 hb2; obtain ⟨c0, c1, c3, c4, c6, c7, c8, f4, f7, f8⟩ := HMV.out.cells; have hkk : k2 < 128 := (by omega); have e1 : IntKind.i64.wrap ((k2 : Int) - 8) = (k2 : Int) - 8 := (by rw [IntKind.wrap_i64]; omega); have e2 : IntKind.i64.wrap (1 + (k2 : Int)) = 1 + (k2 : Int) := (by rw [IntKind.wrap_i64]; omega); have e3 : IntKind.i64.wrap (fx.wd - (1 + (k2 : Int))) = fx.wd - (1 + (k2 : Int)) := (by rw [IntKind.wrap_i64]; omega); have e4 : IntKind.i64.wrap (fx.wd - (1 + (k2 : Int)) + 1) = fx.wd - (1 + (k2 : Int)) + 1 := (by rw [IntKind.wrap_i64]; omega)))
          | (go_at_call 35; go_loud (refine (put_is3 HMV.out _ _ _ (by unfold inRange; omega) (by unfold inRange; omega) (by unfold inRange; omega) (by have := HCU.out.hi; have := HBN.out; omega)).mono ?_; rintro e w3 ⟨v3, body3, rfl, hl3, hm3, hb3⟩; clear c0 c1 c3 c4 c6 c7 c8 f4 f7 f8; replace HCU := Lib.hid (HCU.out.put2 hl3); replace HBV := Lib.hid (HBV.out.trans hb3); replace HMV := Lib.hid hm3; clear hm3 hb3 hl3; obtain ⟨c0, c1, c3, c4, c6, c7, c8, f4, f7, f8⟩ := HMV.out.cells))
          | (go_at_call 59; go_loud (refine (HV.out _ _ _ _ _ HMV.out (HF.out.next HBV.out) (by have := HCU.out.left; omega) (HCU.out.room (K := 800000) (M := -100000) (by have := HBN.out; omega) (by have := HBN.out; omega) (by have := HBN.out; omega)).1 (HCU.out.room (K := 800000) (M := -100000) (by have := HBN.out; omega) (by have := HBN.out; omega) (by have := HBN.out; omega)).2.2 (HCU.out.room (K := 800000) (M := -100000) (by have := HBN.out; omega) (by have := HBN.out; omega) (by have := HBN.out; omega)).2.1).mono ?_; rintro e w4 ⟨v4, body4, a4, l4, rfl, hm4, hb4, hc4⟩; clear c0 c1 c3 c4 c6 c7 c8 f4 f7 f8; replace HCU := Lib.hid (HCU.out.call hc4); replace HBV := Lib.hid (HBV.out.trans hb4); replace HMV := Lib.hid hm4; clear hm4 hb4 hc4; obtain ⟨c0, c1, c3, c4, c6, c7, c8, f4, f7, f8⟩ := HMV.out.cells)))
        all_goals
          (try simp only [Exit.inBlock, Exit.then]); first | (refine bodyPost_ret (results_none rfl _ _ _) rfl ?_) | (refine bodyPost_end (results_none rfl _ _ _) rfl ?_)
          exact VPost.mk_ HMV.out HBV.out HCU.out (.inl ⟨by omega, by omega, by omega, by omega⟩)
      · clear hk2'
        go_wp2_with (first
          | (go_at_call 33; go_loud (refine (pick_is HMV.out (HF.out.next HBV.out) _ (by omega) (by have := HCU.out.at_; have := HBN.out; omega)).mono ?_; rintro e w2 ⟨k2, rfl, hk2, hm2, hb2⟩; clear c0 c1 c3 c4 c6 c7 c8 f4 f7 f8; replace HCU := Lib.hid HCU.out.pick; replace HBV := Lib.hid (HBV.out.trans hb2); replace HMV := Lib.hid hm2; clear hm2 hb2; obtain ⟨c0, c1, c3, c4, c6, c7, c8, f4, f7, f8⟩ := HMV.out.cells; have hkk : k2 < 128 := (by omega); have e1 : IntKind.i64.wrap ((k2 : Int) - 8) = (k2 : Int) - 8 := (by rw [IntKind.wrap_i64]; omega); have e2 : IntKind.i64.wrap (1 + (k2 : Int)) = 1 + (k2 : Int) := (by rw [IntKind.wrap_i64]; omega); have e3 : IntKind.i64.wrap (fx.wd - (1 + (k2 : Int))) = fx.wd - (1 + (k2 : Int)) := (by rw [IntKind.wrap_i64]; omega); have e4 : IntKind.i64.wrap (fx.wd - (1 + (k2 : Int)) + 1) = fx.wd - (1 + (k2 : Int)) + 1 := (by rw [IntKind.wrap_i64]; omega)))
          | (go_at_call 35; go_loud (refine (put_is3 HMV.out _ _ _ (by unfold inRange; omega) (by unfold inRange; omega) (by unfold inRange; omega) (by have := HCU.out.hi; have := HBN.out; omega)).mono ?_; rintro e w3 ⟨v3, body3, rfl, hl3, hm3, hb3⟩; clear c0 c1 c3 c4 c6 c7 c8 f4 f7 f8; replace HCU := Lib.hid (HCU.out.put2 hl3); replace HBV := Lib.hid (HBV.out.trans hb3); replace HMV := Lib.hid hm3; clear hm3 hb3 hl3; obtain ⟨c0, c1, c3, c4, c6, c7, c8, f4, f7, f8⟩ := HMV.out.cells))
          | (go_at_call 59; go_loud (refine (HV.out _ _ _ _ _ HMV.out (HF.out.next HBV.out) (by have := HCU.out.left; omega) (HCU.out.room (K := 800000) (M := -100000) (by have := HBN.out; omega) (by have := HBN.out; omega) (by have := HBN.out; omega)).1 (HCU.out.room (K := 800000) (M := -100000) (by have := HBN.out; omega) (by have := HBN.out; omega) (by have := HBN.out; omega)).2.2 (HCU.out.room (K := 800000) (M := -100000) (by have := HBN.out; omega) (by have := HBN.out; omega) (by have := HBN.out; omega)).2.1).mono ?_; rintro e w4 ⟨v4, body4, a4, l4, rfl, hm4, hb4, hc4⟩; clear c0 c1 c3 c4 c6 c7 c8 f4 f7 f8; replace HCU := Lib.hid (HCU.out.call hc4); replace HBV := Lib.hid (HBV.out.trans hb4); replace HMV := Lib.hid hm4; clear hm4 hb4 hc4; obtain ⟨c0, c1, c3, c4, c6, c7, c8, f4, f7, f8⟩ := HMV.out.cells)))
        all_goals
          (try simp only [Exit.inBlock, Exit.then]); first | (refine bodyPost_ret (results_none rfl _ _ _) rfl ?_) | (refine bodyPost_end (results_none rfl _ _ _) rfl ?_)
          exact VPost.mk_ HMV.out HBV.out HCU.out (.inl ⟨by omega, by omega, by omega, by omega⟩)
      · clear hk2'
        go_wp2_with (first
          | (go_at_call 33; go_loud (refine (pick_is HMV.out (HF.out.next HBV.out) _ (by omega) (by have := HCU.out.at_; have := HBN.out; omega)).mono ?_; rintro e w2 ⟨k2, rfl, hk2, hm2, hb2⟩; clear c0 c1 c3 c4 c6 c7 c8 f4 f7 f8; replace HCU := Lib.hid HCU.out.pick; replace HBV := Lib.hid (HBV.out.trans hb2); replace HMV := Lib.hid hm2; clear hm2 hb2; obtain ⟨c0, c1, c3, c4, c6, c7, c8, f4, f7, f8⟩ := HMV.out.cells; have hkk : k2 < 128 := (by omega); have e1 : IntKind.i64.wrap ((k2 : Int) - 8) = (k2 : Int) - 8 := (by rw [IntKind.wrap_i64]; omega); have e2 : IntKind.i64.wrap (1 + (k2 : Int)) = 1 + (k2 : Int) := (by rw [IntKind.wrap_i64]; omega); have e3 : IntKind.i64.wrap (fx.wd - (1 + (k2 : Int))) = fx.wd - (1 + (k2 : Int)) := (by rw [IntKind.wrap_i64]; omega); have e4 : IntKind.i64.wrap (fx.wd - (1 + (k2 : Int)) + 1) = fx.wd - (1 + (k2 : Int)) + 1 := (by rw [IntKind.wrap_i64]; omega)))
          | (go_at_call 35; go_loud (refine (put_is3 HMV.out _ _ _ (by unfold inRange; omega) (by unfold inRange; omega) (by unfold inRange; omega) (by have := HCU.out.hi; have := HBN.out; omega)).mono ?_; rintro e w3 ⟨v3, body3, rfl, hl3, hm3, hb3⟩; clear c0 c1 c3 c4 c6 c7 c8 f4 f7 f8; replace HCU := Lib.hid (HCU.out.put2 hl3); replace HBV := Lib.hid (HBV.out.trans hb3); replace HMV := Lib.hid hm3; clear hm3 hb3 hl3; obtain ⟨c0, c1, c3, c4, c6, c7, c8, f4, f7, f8⟩ := HMV.out.cells))
          | (go_at_call 59; go_loud (refine (HV.out _ _ _ _ _ HMV.out (HF.out.next HBV.out) (by have := HCU.out.left; omega) (HCU.out.room (K := 800000) (M := -100000) (by have := HBN.out; omega) (by have := HBN.out; omega) (by have := HBN.out; omega)).1 (HCU.out.room (K := 800000) (M := -100000) (by have := HBN.out; omega) (by have := HBN.out; omega) (by have := HBN.out; omega)).2.2 (HCU.out.room (K := 800000) (M := -100000) (by have := HBN.out; omega) (by have := HBN.out; omega) (by have := HBN.out; omega)).2.1).mono ?_; rintro e w4 ⟨v4, body4, a4, l4, rfl, hm4, hb4, hc4⟩; clear c0 c1 c3 c4 c6 c7 c8 f4 f7 f8; replace HCU := Lib.hid (HCU.out.call hc4); replace HBV := Lib.hid (HBV.out.trans hb4); replace HMV := Lib.hid hm4; clear hm4 hb4 hc4; obtain ⟨c0, c1, c3, c4, c6, c7, c8, f4, f7, f8⟩ := HMV.out.cells)))
        all_goals
          (try simp only [Exit.inBlock, Exit.then]); first | (refine bodyPost_ret (results_none rfl _ _ _) rfl ?_) | (refine bodyPost_end (results_none rfl _ _ _) rfl ?_)
          exact VPost.mk_ HMV.out HBV.out HCU.out (.inl ⟨by omega, by omega, by omega, by omega⟩)
      · clear hk2'
        go_upto_region 24 with (first
          | (go_at_call 33; go_loud (refine (pick_is HMV.out (HF.out.next HBV.out) _ (by omega) (by have := HCU.out.at_; have := HBN.out; omega)).mono ?_; rintro e w2 ⟨k2, rfl, hk2, hm2, hb2⟩; clear c0 c1 c3 c4 c6 c7 c8 f4 f7 f8; replace HCU := Lib.hid HCU.out.pick; replace HBV := Lib.hid (HBV.out.trans hb2); replace HMV := Lib.hid hm2; clear hm2 hb2; obtain ⟨c0, c1, c3, c4, c6, c7, c8, f4, f7, f8⟩ := HMV.out.cells; have hkk : k2 < 128 := (by omega); have e1 : IntKind.i64.wrap ((k2 : Int) - 8) = (k2 : Int) - 8 := (by rw [IntKind.wrap_i64]; omega); have e2 : IntKind.i64.wrap (1 + (k2 : Int)) = 1 + (k2 : Int) := (by rw [IntKind.wrap_i64]; omega); have e3 : IntKind.i64.wrap (fx.wd - (1 + (k2 : Int))) = fx.wd - (1 + (k2 : Int)) := (by rw [IntKind.wrap_i64]; omega); have e4 : IntKind.i64.wrap (fx.wd - (1 + (k2 : Int)) + 1) = fx.wd - (1 + (k2 : Int)) + 1 := (by rw [IntKind.wrap_i64]; omega)))
          | (go_at_call 35; go_loud (refine (put_is3 HMV.out _ _ _ (by unfold inRange; omega) (by unfold inRange; omega) (by unfold inRange; omega) (by have := HCU.out.hi; have := HBN.out; omega)).mono ?_; rintro e w3 ⟨v3, body3, rfl, hl3, hm3, hb3⟩; clear c0 c1 c3 c4 c6 c7 c8 f4 f7 f8; replace HCU := Lib.hid (HCU.out.put2 hl3); replace HBV := Lib.hid (HBV.out.trans hb3); replace HMV := Lib.hid hm3; clear hm3 hb3 hl3; obtain ⟨c0, c1, c3, c4, c6, c7, c8, f4, f7, f8⟩ := HMV.out.cells)))
        obtain ⟨kf, hkf⟩ : ∃ kf : Nat, k2 = kf := ⟨_, rfl⟩
        subst hkf
        obtain ⟨p, hp⟩ : ∃ p, ps[k2]? = some p := ⟨_, List.getElem?_eq_getElem (by rw [HF.out.funs.2.1]; omega)⟩
        have hpb : 0 ≤ p ∧ p ≤ 3 := (HF.out.funs.2.2 k2 p hp).2
        have HROW : Hid (∀ W, Below g w W → W.cell? ⟨fx.bF, fx.oF + k2 * 4, none⟩ = some (.int .i64 p)) := Lib.hid (fun W hb => ((HF.out.next hb).funs.2.2 k2 p hp).1)
        have hkb : (0 : Int) ≤ (k2 : Int) ∧ (k2 : Int) < (fx.nF : Int) := ⟨by omega, hk2⟩
        have HMA := HMV; have HBA := HBV; have HCA := HCU
        clear c0 c1 c3 c4 c6 c7 c8 f4 f7 f8 e1 e2 e3 e4 hp HMV HBV HCU
        go_wp2_with fail
        go_loopw [5] (fun s wr => ∃ (j : Nat) (v' : Option Addr × Nat) (body' : List Ins) (a' : Nat) (l' : Int), (j : Int) ≤ p ∧ s = .int .i64 j ∧ Hid (MkR wr g fx v' body' a' l' ∧ Below g w wr ∧ Cur body.length (l - 1) a j j (2 + 3 * j) body'.length l' a')) (fun s _ => p.toNat - (intOf s).toNat)
        case atStart => exact ⟨0, _, _, _, _, by omega, rfl, HMA.out, HBA.out, HCA.out⟩
        case round =>
          obtain ⟨j, v', body', a', l', hj, rfl, HJ⟩ := hrel
          have HMV := Lib.hid HJ.out.1
          have HBV := Lib.hid HJ.out.2.1
          have HCU := Lib.hid HJ.out.2.2
          have hrow := HROW.out _ HBV.out
          obtain ⟨c0, c1, c3, c4, c6, c7, c8, f4, f7, f8⟩ := HMV.out.cells
          by_cases hlt : (j : Int) < p
          · have hd7 : decide ((j : Int) < p) = true := decide_eq_true hlt
            go_wp2_with (first
              | (go_at_call 33; go_loud (refine (pick_is HMV.out (HF.out.next HBV.out) _ (by omega) (by have := HCU.out.at_; have := HBN.out; omega)).mono ?_; rintro e w2 ⟨k2, rfl, hk2, hm2, hb2⟩; clear c0 c1 c3 c4 c6 c7 c8 f4 f7 f8; replace HCU := Lib.hid HCU.out.pick; replace HBV := Lib.hid (HBV.out.trans hb2); replace HMV := Lib.hid hm2; clear hm2 hb2; obtain ⟨c0, c1, c3, c4, c6, c7, c8, f4, f7, f8⟩ := HMV.out.cells; have hkk : k2 < 128 := (by omega); have e1 : IntKind.i64.wrap ((k2 : Int) - 8) = (k2 : Int) - 8 := (by rw [IntKind.wrap_i64]; omega); have e2 : IntKind.i64.wrap (1 + (k2 : Int)) = 1 + (k2 : Int) := (by rw [IntKind.wrap_i64]; omega); have e3 : IntKind.i64.wrap (fx.wd - (1 + (k2 : Int))) = fx.wd - (1 + (k2 : Int)) := (by rw [IntKind.wrap_i64]; omega); have e4 : IntKind.i64.wrap (fx.wd - (1 + (k2 : Int)) + 1) = fx.wd - (1 + (k2 : Int)) + 1 := (by rw [IntKind.wrap_i64]; omega)))
              | (go_at_call 35; go_loud (refine (put_is3 HMV.out _ _ _ (by unfold inRange; omega) (by unfold inRange; omega) (by unfold inRange; omega) (by have := HCU.out.hi; have := HBN.out; omega)).mono ?_; rintro e w3 ⟨v3, body3, rfl, hl3, hm3, hb3⟩; clear c0 c1 c3 c4 c6 c7 c8 f4 f7 f8; replace HCU := Lib.hid (HCU.out.put2 hl3); replace HBV := Lib.hid (HBV.out.trans hb3); replace HMV := Lib.hid hm3; clear hm3 hb3 hl3; obtain ⟨c0, c1, c3, c4, c6, c7, c8, f4, f7, f8⟩ := HMV.out.cells))
              | (go_at_call 59; go_loud (refine (HV.out _ _ _ _ _ HMV.out (HF.out.next HBV.out) (by have := HCU.out.left; omega) (HCU.out.room (K := 800000) (M := -100000) (by have := HBN.out; omega) (by have := HBN.out; omega) (by have := HBN.out; omega)).1 (HCU.out.room (K := 800000) (M := -100000) (by have := HBN.out; omega) (by have := HBN.out; omega) (by have := HBN.out; omega)).2.2 (HCU.out.room (K := 800000) (M := -100000) (by have := HBN.out; omega) (by have := HBN.out; omega) (by have := HBN.out; omega)).2.1).mono ?_; rintro e w4 ⟨v4, body4, a4, l4, rfl, hm4, hb4, hc4⟩; clear c0 c1 c3 c4 c6 c7 c8 f4 f7 f8; replace HCU := Lib.hid (HCU.out.call hc4); replace HBV := Lib.hid (HBV.out.trans hb4); replace HMV := Lib.hid hm4; clear hm4 hb4 hc4; obtain ⟨c0, c1, c3, c4, c6, c7, c8, f4, f7, f8⟩ := HMV.out.cells)))
            go_roundw
            case rel => exact ⟨j + 1, _, _, _, _, by omega, by go_num, HMV.out, HBV.out, HCU.out⟩
            case measure => simp [intOf]; omega
          · have hd7 : decide ((j : Int) < p) = false := decide_eq_false hlt
            go_wp2_with (first
              | (go_at_call 33; go_loud (refine (pick_is HMV.out (HF.out.next HBV.out) _ (by omega) (by have := HCU.out.at_; have := HBN.out; omega)).mono ?_; rintro e w2 ⟨k2, rfl, hk2, hm2, hb2⟩; clear c0 c1 c3 c4 c6 c7 c8 f4 f7 f8; replace HCU := Lib.hid HCU.out.pick; replace HBV := Lib.hid (HBV.out.trans hb2); replace HMV := Lib.hid hm2; clear hm2 hb2; obtain ⟨c0, c1, c3, c4, c6, c7, c8, f4, f7, f8⟩ := HMV.out.cells; have hkk : k2 < 128 := (by omega); have e1 : IntKind.i64.wrap ((k2 : Int) - 8) = (k2 : Int) - 8 := (by rw [IntKind.wrap_i64]; omega); have e2 : IntKind.i64.wrap (1 + (k2 : Int)) = 1 + (k2 : Int) := (by rw [IntKind.wrap_i64]; omega); have e3 : IntKind.i64.wrap (fx.wd - (1 + (k2 : Int))) = fx.wd - (1 + (k2 : Int)) := (by rw [IntKind.wrap_i64]; omega); have e4 : IntKind.i64.wrap (fx.wd - (1 + (k2 : Int)) + 1) = fx.wd - (1 + (k2 : Int)) + 1 := (by rw [IntKind.wrap_i64]; omega)))
              | (go_at_call 35; go_loud (refine (put_is3 HMV.out _ _ _ (by unfold inRange; omega) (by unfold inRange; omega) (by unfold inRange; omega) (by have := HCU.out.hi; have := HBN.out; omega)).mono ?_; rintro e w3 ⟨v3, body3, rfl, hl3, hm3, hb3⟩; clear c0 c1 c3 c4 c6 c7 c8 f4 f7 f8; replace HCU := Lib.hid (HCU.out.put2 hl3); replace HBV := Lib.hid (HBV.out.trans hb3); replace HMV := Lib.hid hm3; clear hm3 hb3 hl3; obtain ⟨c0, c1, c3, c4, c6, c7, c8, f4, f7, f8⟩ := HMV.out.cells)))
            all_goals
              (try simp only [Exit.inBlock, Exit.then]); first | (refine bodyPost_ret (results_none rfl _ _ _) rfl ?_) | (refine bodyPost_end (results_none rfl _ _ _) rfl ?_)
              exact VPost.mk_ HMV.out HBV.out HCU.out (.inl ⟨by omega, by omega, by omega, by omega⟩)
      · clear hk2'
        by_cases hc0 : fx.ch = 0
        · have hd3 : decide (fx.ch = 0) = true := decide_eq_true hc0
          have hd4 : (fx.ch == 0) = true := by simp [hc0]
          go_wp2_with (first
            | (go_at_call 33; go_loud (refine (pick_is HMV.out (HF.out.next HBV.out) _ (by omega) (by have := HCU.out.at_; have := HBN.out; omega)).mono ?_; rintro e w2 ⟨k2, rfl, hk2, hm2, hb2⟩; clear c0 c1 c3 c4 c6 c7 c8 f4 f7 f8; replace HCU := Lib.hid HCU.out.pick; replace HBV := Lib.hid (HBV.out.trans hb2); replace HMV := Lib.hid hm2; clear hm2 hb2; obtain ⟨c0, c1, c3, c4, c6, c7, c8, f4, f7, f8⟩ := HMV.out.cells; have hkk : k2 < 128 := (by omega); have e1 : IntKind.i64.wrap ((k2 : Int) - 8) = (k2 : Int) - 8 := (by rw [IntKind.wrap_i64]; omega); have e2 : IntKind.i64.wrap (1 + (k2 : Int)) = 1 + (k2 : Int) := (by rw [IntKind.wrap_i64]; omega); have e3 : IntKind.i64.wrap (fx.wd - (1 + (k2 : Int))) = fx.wd - (1 + (k2 : Int)) := (by rw [IntKind.wrap_i64]; omega); have e4 : IntKind.i64.wrap (fx.wd - (1 + (k2 : Int)) + 1) = fx.wd - (1 + (k2 : Int)) + 1 := (by rw [IntKind.wrap_i64]; omega)))
            | (go_at_call 35; go_loud (refine (put_is3 HMV.out _ _ _ (by unfold inRange; omega) (by unfold inRange; omega) (by unfold inRange; omega) (by have := HCU.out.hi; have := HBN.out; omega)).mono ?_; rintro e w3 ⟨v3, body3, rfl, hl3, hm3, hb3⟩; clear c0 c1 c3 c4 c6 c7 c8 f4 f7 f8; replace HCU := Lib.hid (HCU.out.put2 hl3); replace HBV := Lib.hid (HBV.out.trans hb3); replace HMV := Lib.hid hm3; clear hm3 hb3 hl3; obtain ⟨c0, c1, c3, c4, c6, c7, c8, f4, f7, f8⟩ := HMV.out.cells))
            | (go_at_call 59; go_loud (refine (HV.out _ _ _ _ _ HMV.out (HF.out.next HBV.out) (by have := HCU.out.left; omega) (HCU.out.room (K := 800000) (M := -100000) (by have := HBN.out; omega) (by have := HBN.out; omega) (by have := HBN.out; omega)).1 (HCU.out.room (K := 800000) (M := -100000) (by have := HBN.out; omega) (by have := HBN.out; omega) (by have := HBN.out; omega)).2.2 (HCU.out.room (K := 800000) (M := -100000) (by have := HBN.out; omega) (by have := HBN.out; omega) (by have := HBN.out; omega)).2.1).mono ?_; rintro e w4 ⟨v4, body4, a4, l4, rfl, hm4, hb4, hc4⟩; clear c0 c1 c3 c4 c6 c7 c8 f4 f7 f8; replace HCU := Lib.hid (HCU.out.call hc4); replace HBV := Lib.hid (HBV.out.trans hb4); replace HMV := Lib.hid hm4; clear hm4 hb4 hc4; obtain ⟨c0, c1, c3, c4, c6, c7, c8, f4, f7, f8⟩ := HMV.out.cells)))
          all_goals
            (try simp only [Exit.inBlock, Exit.then]); first | (refine bodyPost_ret (results_none rfl _ _ _) rfl ?_) | (refine bodyPost_end (results_none rfl _ _ _) rfl ?_)
            exact VPost.mk_ HMV.out HBV.out HCU.out (.inl ⟨by omega, by omega, by omega, by omega⟩)
        · have hd3 : decide (fx.ch = 0) = false := decide_eq_false hc0
          have hd4 : (fx.ch == 0) = false := by simp [hc0]
          go_wp2_with (first
            | (go_at_call 33; go_loud (refine (pick_is HMV.out (HF.out.next HBV.out) _ (by omega) (by have := HCU.out.at_; have := HBN.out; omega)).mono ?_; rintro e w2 ⟨k2, rfl, hk2, hm2, hb2⟩; clear c0 c1 c3 c4 c6 c7 c8 f4 f7 f8; replace HCU := Lib.hid HCU.out.pick; replace HBV := Lib.hid (HBV.out.trans hb2); replace HMV := Lib.hid hm2; clear hm2 hb2; obtain ⟨c0, c1, c3, c4, c6, c7, c8, f4, f7, f8⟩ := HMV.out.cells; have hkk : k2 < 128 := (by omega); have e1 : IntKind.i64.wrap ((k2 : Int) - 8) = (k2 : Int) - 8 := (by rw [IntKind.wrap_i64]; omega); have e2 : IntKind.i64.wrap (1 + (k2 : Int)) = 1 + (k2 : Int) := (by rw [IntKind.wrap_i64]; omega); have e3 : IntKind.i64.wrap (fx.wd - (1 + (k2 : Int))) = fx.wd - (1 + (k2 : Int)) := (by rw [IntKind.wrap_i64]; omega); have e4 : IntKind.i64.wrap (fx.wd - (1 + (k2 : Int)) + 1) = fx.wd - (1 + (k2 : Int)) + 1 := (by rw [IntKind.wrap_i64]; omega)))
            | (go_at_call 35; go_loud (refine (put_is3 HMV.out _ _ _ (by unfold inRange; omega) (by unfold inRange; omega) (by unfold inRange; omega) (by have := HCU.out.hi; have := HBN.out; omega)).mono ?_; rintro e w3 ⟨v3, body3, rfl, hl3, hm3, hb3⟩; clear c0 c1 c3 c4 c6 c7 c8 f4 f7 f8; replace HCU := Lib.hid (HCU.out.put2 hl3); replace HBV := Lib.hid (HBV.out.trans hb3); replace HMV := Lib.hid hm3; clear hm3 hb3 hl3; obtain ⟨c0, c1, c3, c4, c6, c7, c8, f4, f7, f8⟩ := HMV.out.cells))
            | (go_at_call 59; go_loud (refine (HV.out _ _ _ _ _ HMV.out (HF.out.next HBV.out) (by have := HCU.out.left; omega) (HCU.out.room (K := 800000) (M := -100000) (by have := HBN.out; omega) (by have := HBN.out; omega) (by have := HBN.out; omega)).1 (HCU.out.room (K := 800000) (M := -100000) (by have := HBN.out; omega) (by have := HBN.out; omega) (by have := HBN.out; omega)).2.2 (HCU.out.room (K := 800000) (M := -100000) (by have := HBN.out; omega) (by have := HBN.out; omega) (by have := HBN.out; omega)).2.1).mono ?_; rintro e w4 ⟨v4, body4, a4, l4, rfl, hm4, hb4, hc4⟩; clear c0 c1 c3 c4 c6 c7 c8 f4 f7 f8; replace HCU := Lib.hid (HCU.out.call hc4); replace HBV := Lib.hid (HBV.out.trans hb4); replace HMV := Lib.hid hm4; clear hm4 hb4 hc4; obtain ⟨c0, c1, c3, c4, c6, c7, c8, f4, f7, f8⟩ := HMV.out.cells)))
          all_goals
            (try simp only [Exit.inBlock, Exit.then]); first | (refine bodyPost_ret (results_none rfl _ _ _) rfl ?_) | (refine bodyPost_end (results_none rfl _ _ _) rfl ?_)
            exact VPost.mk_ HMV.out HBV.out HCU.out (.inl ⟨by omega, by omega, by omega, by omega⟩)
theorem value_is (g : Nat) (fx : Fx) (L ps : List Int) : ∀ n, ValC g fx L ps n
  | 0 => value_step g fx L ps 0 fun m h => by omega
  | n + 1 => value_step g fx L ps (n + 1) fun m h => by
    have : m = n := by omega
    subst this
    exact value_is g fx L ps m
end Go.Proofs.YtbdknncmlcbbpaaDoor
