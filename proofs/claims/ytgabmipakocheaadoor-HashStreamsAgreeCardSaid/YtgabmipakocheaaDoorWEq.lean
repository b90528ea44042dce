/-
  THE WALK of HashEqualIsEquality.
-/
import Derived.Test.YtgabmipakocheaaDoorSanity
namespace Go.Proofs.YtgabmipakocheaaDoor
open Go.RowKit WM

theorem decide_swap {α : Type} [DecidableEq α] (a b : α) : decide (b = a) = decide (a = b) := by simp [eq_comm]
theorem toList_beq (a b : ByteArray) : (a.toList == b.toList) = decide (a = b) := by
  have e : a.toList = b.toList ↔ a = b := ⟨fun h => by rw [ByteArray.toList_eq, ByteArray.toList_eq] at h; exact ByteArray.ext (Array.toList_inj.1 h), fun h => by rw [h]⟩
  rw [Bool.eq_iff_iff]; simp [e]
theorem add_nil (a : ByteArray) : a ++ (⟨#[]⟩ : ByteArray) = a := by
  apply ByteArray.ext
  simp

theorem equal_is (a b : ByteArray) (w : World) (ha : a.size ≤ 140737488355328) (hb : b.size ≤ 140737488355328) (r : Bool) (h : decide (a = b) = r) : Calls Tryd.prog 24 #[.string a, .string b] w fun e w' => e = .returned (.bool r) ∧ Below w.heap.size w w' :=
  (equal a b w ha hb).mono fun _ _ ⟨he, m, hm⟩ => ⟨by rw [he, h], by rw [hm]; exact below_drewN (Below.refl _ _) m⟩

set_option maxRecDepth 100000 in
set_option maxHeartbeats 1600000 in
theorem walkEq (a0 a1 : ByteArray) (w : World) (hk : KT 1 w) :
    Calls Tryd.prog 9 #[.string a0, .string a1] w fun e w' => e = .returned (.bool true) ∧ Below w.heap.size w w' := by
  have HK := Lib.hid hk
  clear hk
  by_cases ha : 400 < a0.size
  · go_enter Tryd.func9, Tryd.ntmps9
    go_wp2_with (go_at_call 10; refine (sanity _ HK.out).mono ?_; rintro e w1 ⟨rfl, hb1⟩; have HB1 := Lib.hid hb1; clear hb1)
    go_ret
    exact ⟨rfl, HB1.out⟩
  · by_cases hb : 400 < a1.size
    · go_enter Tryd.func9, Tryd.ntmps9
      go_wp2_with (go_at_call 10; refine (sanity _ HK.out).mono ?_; rintro e w1 ⟨rfl, hb1⟩; have HB1 := Lib.hid hb1; clear hb1)
      go_ret
      exact ⟨rfl, HB1.out⟩
    · obtain ⟨r, hr⟩ : ∃ r, r = decide (a0 = a1) := ⟨_, rfl⟩
      have hq : (a0.toList == a1.toList) = r := by rw [hr]; exact toList_beq a0 a1
      have HR := Lib.hid hr
      clear hr
      go_enter Tryd.func9, Tryd.ntmps9
      go_wp2_with (first
        | (go_at_call 10; refine (sanity _ HK.out).mono ?_; rintro e w1 ⟨rfl, hb1⟩; have HB1 := Lib.hid hb1; clear hb1)
        | (go_at_call 24; ((with_reducible refine (equal_is a0 a1 _ (by omega) (by omega) r HR.out.symm).mono ?_); rintro e w2 ⟨rfl, hb2⟩); have HB2 := Lib.hid (bt HB1.out hb2); clear hb2)
        | (go_at_call 24; ((with_reducible refine (equal_is a1 a0 _ (by omega) (by omega) r (by rw [HR.out]; exact decide_swap a0 a1)).mono ?_); rintro e w3 ⟨rfl, hb3⟩); have HB3 := Lib.hid (bt HB2.out hb3); clear hb3)
        | (go_at_call 24; (try rw [add_nil]); ((with_reducible refine (equal_is a0 a0 _ (by omega) (by omega) true (decide_eq_true rfl)).mono ?_); rintro e w4 ⟨rfl, hb4⟩); have HB4 := Lib.hid (bt HB3.out hb4); clear hb4))
      all_goals go_ret
      all_goals first | exact ⟨rfl, HB4.out⟩ | skip
end Go.Proofs.YtgabmipakocheaaDoor
