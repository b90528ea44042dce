/-
  DIGITS CROSS, as plain mathematics: of two different digests each has a digit that is less than the other's.
-/
import Derived.Test.YtaoegpmjogladaaDoorG21
import Derived.BigQuiet
namespace Go.Proofs.YtaoegpmjogladaaDoor
open Go.RowKit WM

theorem chk_mono : ∀ {X Y : List Nat}, X.length = Y.length → (∀ x ∈ X, x ≤ 3) → (∀ i, i < X.length → Y.getD i 0 ≤ X.getD i 0) → chk X ≤ chk Y ∧ (chk X = chk Y → X = Y)
  | [], [], _, _, _ => ⟨Nat.le_refl _, fun _ => rfl⟩
  | x :: X, y :: Y, hl, h3, h => by
    have h0 : y ≤ x := h 0 (by simp)
    have hx : x ≤ 3 := h3 x (by simp)
    have ih := chk_mono (X := X) (Y := Y) (by simpa using hl) (fun z hz => h3 z (by simp [hz])) (fun i hi => by simpa using h (i + 1) (by simpa using hi))
    have e1 : chk (x :: X) = (3 - x) + chk X := by simp [chk]
    have e2 : chk (y :: Y) = (3 - y) + chk Y := by simp [chk]
    rw [e1, e2]
    refine ⟨by have := ih.1; omega, fun he => ?_⟩
    have := ih.1
    rw [ih.2 (by omega), show x = y by omega]
theorem low4_mono {m n : Nat} (hm : m < 256) (hn : n < 256) (h : ∀ i, i < 4 → (low4 m).getD i 0 ≤ (low4 n).getD i 0) : m ≤ n := by
  have h0 := h 0 (by omega)
  have h1 := h 1 (by omega)
  have h2 := h 2 (by omega)
  have h3 := h 3 (by omega)
  simp only [low4, List.getD_cons_zero, List.getD_cons_succ] at h0 h1 h2 h3
  rw [Nat.mod_eq_of_lt (show m / 64 < 4 by clear h0 h1 h2 h3; omega), Nat.mod_eq_of_lt (show n / 64 < 4 by clear h0 h1 h2 h3; omega)] at h0
  have c0 : m / 64 ≤ n / 64 := h0
  have a2 : n / 64 = n / 16 / 4 := (Nat.div_div_eq_div_mul n 16 4).symm
  have b2 : m / 64 = m / 16 / 4 := (Nat.div_div_eq_div_mul m 16 4).symm
  rw [a2, b2] at c0
  have c1 : m / 16 ≤ n / 16 := by clear h0 h2 h3 a2 b2; omega
  have a1 : n / 16 = n / 4 / 4 := (Nat.div_div_eq_div_mul n 4 4).symm
  have b1 : m / 16 = m / 4 / 4 := (Nat.div_div_eq_div_mul m 4 4).symm
  rw [a1, b1] at c1
  have c2 : m / 4 ≤ n / 4 := by clear h0 h1 h3 a2 b2 a1 b1 c0; omega
  clear h0 h1 h2 a2 b2 a1 b1 c0 c1
  omega
theorem getD_left {a b : List Nat} {i : Nat} (h : i < a.length) : (a ++ b).getD i 0 = a.getD i 0 := by
  rw [List.getD_eq_getElem?_getD, List.getD_eq_getElem?_getD, List.getElem?_append_left h]
theorem getD_right {a b : List Nat} {i : Nat} (h : a.length ≤ i) : (a ++ b).getD i 0 = b.getD (i - a.length) 0 := by
  rw [List.getD_eq_getElem?_getD, List.getD_eq_getElem?_getD, List.getElem?_append_right h]
theorem dig4_inj {a b : UInt8} (h : dig4 a = dig4 b) : a = b := by
  simp only [dig4, List.cons.injEq] at h
  apply UInt8.toNat_inj.1
  omega
theorem own4_inj : ∀ {a b : List UInt8}, a.length = b.length → own4 a = own4 b → a = b
  | [], [], _, _ => rfl
  | x :: a, y :: b, hl, h => by
    have e1 : own4 (x :: a) = dig4 x ++ own4 a := rfl
    have e2 : own4 (y :: b) = dig4 y ++ own4 b := rfl
    rw [e1, e2] at h
    have h1 := List.append_inj h rfl
    rw [dig4_inj h1.1, own4_inj (by simpa using hl) h1.2]
theorem digits_le_eq {a b : List UInt8} (ha : a.length = 16) (hb : b.length = 16) (h : ∀ i, i < 68 → (digitsB b).getD i 0 ≤ (digitsB a).getD i 0) : a = b := by
  have la : (own4 a).length = 64 := by rw [own4_length, ha]
  have lb : (own4 b).length = 64 := by rw [own4_length, hb]
  have ca := chk_le (own4 a)
  have cb := chk_le (own4 b)
  have h1 := chk_mono (X := own4 a) (Y := own4 b) (by rw [la, lb]) (own4_le a) (fun i hi => by
    have := h i (by omega)
    unfold digitsB at this
    rwa [getD_left (by omega), getD_left (by omega)] at this)
  have h2 : chk (own4 b) ≤ chk (own4 a) := low4_mono (by omega) (by omega) (fun i hi => by
    have := h (64 + i) (by omega)
    unfold digitsB at this
    rwa [getD_right (by omega), getD_right (by omega), la, lb, show 64 + i - 64 = i by omega] at this)
  exact own4_inj (by rw [ha, hb]) (h1.2 (by have := h1.1; omega))

/-- Is a place below k where the first list has the lesser number? -/
def lessN (X Y : List Nat) : Nat → Bool
  | 0 => false
  | k + 1 => lessN X Y k || decide (X.getD k 0 < Y.getD k 0)
theorem lessN_none {X Y : List Nat} : ∀ {k : Nat}, lessN X Y k = false → ∀ i, i < k → Y.getD i 0 ≤ X.getD i 0
  | 0, _, i, hi => by omega
  | k + 1, h, i, hi => by
    simp only [lessN, Bool.or_eq_false_iff, decide_eq_false_iff_not] at h
    by_cases hik : i = k
    · subst hik; omega
    · exact lessN_none h.1 i (by omega)
theorem cross {a b : List UInt8} (ha : a.length = 16) (hb : b.length = 16) : a = b ∨ (lessN (digitsB a) (digitsB b) 68 = true ∧ lessN (digitsB b) (digitsB a) 68 = true) := by
  by_cases h : a = b
  · exact .inl h
  · refine .inr ⟨?_, ?_⟩
    · cases hl : lessN (digitsB a) (digitsB b) 68 with
      | true => rfl
      | false => exact absurd (digits_le_eq ha hb (lessN_none hl)) h
    · cases hl : lessN (digitsB b) (digitsB a) 68 with
      | true => rfl
      | false => exact absurd (digits_le_eq hb ha (lessN_none hl)).symm h
end Go.Proofs.YtaoegpmjogladaaDoor

/-
  THE WALK of SignDigitsCross.
-/
namespace Go.Proofs.YtaoegpmjogladaaDoor
open Go.RowKit WM
attribute [local go_sem ↓] shut16

theorem ns_getD (l : List Nat) (k : Nat) (h : k < l.length) : (ns l)[k]? = some (.int .i64 (l.getD k 0 : Int)) := by
  rw [ns_get l k h, List.getD_eq_getElem?_getD, List.getElem?_eq_getElem h]; rfl

theorem signDigits_is (d : List UInt8) (x : List Nat) (hd : d.length = 16) (hx : digitsB d = x) (w : World) :
    Calls Tryd.prog 16 #[.agg (bs d).toArray] w fun e w' => ∃ g, e = .returned (.slice (some ⟨g, 0, none⟩) 68 68) ∧ w.heap.size ≤ g ∧ Blk w' g 67 (ns x).toArray ∧ Below w.heap.size w w' := by
  subst hx
  exact signDigits d hd w

set_option maxRecDepth 100000 in
set_option maxHeartbeats 8000000 in
theorem walkCross (a b : List UInt8) (w : World) (ha : a.length = 16) (hb : b.length = 16) (hk : KT 0 w) :
    Calls Tryd.prog 8 #[.agg (bs a).toArray, .agg (bs b).toArray] w fun e w' => e = .returned (.bool true) ∧ Below w.heap.size w w' := by
  have HSA := Lib.hid (size16 ha)
  have HSB := Lib.hid (size16 hb)
  have HA := Lib.hid ha
  have HB := Lib.hid hb
  have HK := Lib.hid hk
  obtain ⟨x, hx⟩ : ∃ x, x = digitsB a := ⟨_, rfl⟩
  obtain ⟨y, hy⟩ : ∃ y, y = digitsB b := ⟨_, rfl⟩
  have HX := Lib.hid hx
  have HY := Lib.hid hy
  have hxl : x.length = 68 := by rw [hx]; exact digitsB_length ha
  have hyl : y.length = 68 := by rw [hy]; exact digitsB_length hb
  have hcr := cross ha hb
  rw [← hx, ← hy] at hcr
  have HC := Lib.hid hcr
  clear hcr hk hx hy ha hb
  obtain ⟨w0, hw0⟩ : ∃ W, W = (w.alloc (.cells (bs a).toArray 29)).alloc (.cells (bs b).toArray 29) := ⟨_, rfl⟩
  have HB0 : Hid (Below w.heap.size w w0) := by rw [hw0]; exact ba (below_new _ _) _
  have HPA : Hid (Blk w0 w.heap.size 29 (bs a).toArray) := by rw [hw0]; exact (Blk.new w _ _).alloc _
  have HPB : Hid (Blk w0 (w.heap.size + 1) 29 (bs b).toArray) := by rw [hw0]; exact Blk.new_at _ _ (by simp) rfl
  go_enter Tryd.func8, Tryd.ntmps8
  go_wp2_with (first
    | (go_at_call 15; rw [← hw0]; clear hw0; refine (sanity3 _ (HK.out.below HB0.out)).mono ?_; rintro e w1 ⟨rfl, hb1⟩; have HB1 := Lib.hid (bt HB0.out hb1); have HPA1 := Lib.hid (blk_past hb1 HPA.out); have HPB1 := Lib.hid (blk_past hb1 HPB.out); clear hb1 HB0 HPA HPB)
    | (refine wpList_load_row rfl 29 (.tmp 2) rfl w.heap.size rfl 29 (bs a).toArray (0, 0) _ HPA1.out Tryd.underlying29 rfl HSA.out ?_)
    | (go_at_call 16; ((with_reducible refine (signDigits_is a x HA.out HX.out.symm _).mono ?_); rintro e w2 ⟨gx, rfl, hgx, hbx, hb2⟩); have HB2 := Lib.hid (bt HB1.out hb2); have HPA2 := Lib.hid (blk_past hb2 HPA1.out); have HPB2 := Lib.hid (blk_past hb2 HPB1.out); have HBX := Lib.hid hbx; have HGX := Lib.hid (Nat.le_trans HB1.out.size hgx); clear hb2 hbx hgx)
    | (refine wpList_load_row rfl 29 (.tmp 3) rfl (w.heap.size + 1) rfl 29 (bs b).toArray (0, 0) _ HPB2.out Tryd.underlying29 rfl HSB.out ?_)
    | (go_at_call 16; ((with_reducible refine (signDigits_is b y HB.out HY.out.symm _).mono ?_); rintro e w3 ⟨gy, rfl, hgy, hby, hb3⟩); have HB3 := Lib.hid (bt HB2.out hb3); have HPA3 := Lib.hid (blk_past hb3 HPA2.out); have HPB3 := Lib.hid (blk_past hb3 HPB2.out); have HBX3 := Lib.hid (blk_past hb3 HBX.out); have HBY := Lib.hid hby; have HGY := Lib.hid (Nat.le_trans HB2.out.size hgy); clear hb3 hby hgy))
  clear HPA1 HPB1 HPA2 HPB2 HBX HB1 HB2 HX HY
  go_loopw [8, 9, 10] (fun l' m' i' wr => ∃ (k : Nat) (l m : Bool), k ≤ 68 ∧ i' = .int .i64 k ∧ l' = .bool l ∧ m' = .bool m ∧ Hid (lessN x y k = l ∧ lessN y x k = m ∧ Below w3.heap.size w3 wr)) (fun _ _ i' _ => 68 - (intOf i').toNat)
  case atStart => exact ⟨0, false, false, by omega, rfl, rfl, rfl, rfl, rfl, Below.refl _ _⟩
  case round =>
    obtain ⟨k, l, m, hk, rfl, rfl, rfl, hh⟩ := hrel
    by_cases hlt : k < 68
    · have rx : ∀ W, Below w3.heap.size w3 W → (Instr.loadAt 3 (.pointer (some ⟨gx, k, none⟩))).run Tryd.prog W = .ok (.int .i64 (x.getD k 0 : Int)) W := fun W hW => load3 W ((Blk.cell (blk_past hW HBX3.out) k).trans (by simpa using ns_getD x k (by omega)))
      have ry : ∀ W, Below w3.heap.size w3 W → (Instr.loadAt 3 (.pointer (some ⟨gy, k, none⟩))).run Tryd.prog W = .ok (.int .i64 (y.getD k 0 : Int)) W := fun W hW => load3 W ((Blk.cell (blk_past hW HBY.out) k).trans (by simpa using ns_getD y k (by omega)))
      have cx : wr.cell? ⟨gx, k, none⟩ = some (.int .i64 (x.getD k 0 : Int)) := (Blk.cell (blk_past hh.out.2.2 HBX3.out) k).trans (by simpa using ns_getD x k (by omega))
      have cy : wr.cell? ⟨gy, k, none⟩ = some (.int .i64 (y.getD k 0 : Int)) := (Blk.cell (blk_past hh.out.2.2 HBY.out) k).trans (by simpa using ns_getD y k (by omega))
      obtain ⟨u, hu⟩ : ∃ u, u = x.getD k 0 := ⟨_, rfl⟩
      obtain ⟨v, hv⟩ : ∃ v, v = y.getD k 0 := ⟨_, rfl⟩
      rw [← hu] at cx
      rw [← hv] at cy
      have HL : Hid (lessN x y (k + 1) = (l || decide (u < v))) := by show _ = _; rw [lessN, hh.out.1, hu, hv]
      have HM : Hid (lessN y x (k + 1) = (m || decide (v < u))) := by show _ = _; rw [lessN, hh.out.2.1, hu, hv]
      clear hu hv rx ry
      cases l <;> cases m
      all_goals
        go_wp2
        go_quiet (fail)
        go_wp2
        go_quiet (fail)
        go_wp2
        go_roundw
        case rel =>
          refine ⟨k + 1, _, _, by omega, by go_num, rfl, rfl, ?_, ?_, below_drewN hh.out.2.2 _⟩
          · rw [HL.out]; simp
          · rw [HM.out]; simp
        case measure => simp [intOf]; omega
    · have hke : k = 68 := by omega
      obtain ⟨q, hq⟩ : ∃ q, q = decide (a = b) := ⟨_, rfl⟩
      have heq := fun W => eq44 a b HA.out HB.out W
      rw [← hq] at heq
      have hd : q = true ∨ (q = false ∧ l = true ∧ m = true) := by
        have h1 := hh.out.1
        have h2 := hh.out.2.1
        rw [hke] at h1 h2
        rcases HC.out with h | ⟨h3, h4⟩
        · exact .inl (by rw [hq, h]; simp)
        · cases q with
          | true => exact .inl rfl
          | false => exact .inr ⟨rfl, by rw [← h1, h3], by rw [← h2, h4]⟩
      have HPAr := Lib.hid (blk_past hh.out.2.2 HPA3.out)
      have HPBr := Lib.hid (blk_past hh.out.2.2 HPB3.out)
      have HBr := Lib.hid (bt HB3.out hh.out.2.2)
      have hge : 68 ≤ k := by omega
      clear hq hke hlt hk hh
      have la := load16 HPAr.out HA.out
      have lb := load16 HPBr.out HB.out
      rcases hd with rfl | ⟨rfl, rfl, rfl⟩
      all_goals
        go_wp2
        go_ret
        exact ⟨rfl, HBr.out⟩
end Go.Proofs.YtaoegpmjogladaaDoor
