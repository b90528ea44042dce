/-
  THE CLOSURES that decode one element of a list, each by its contract.
-/
import Derived.Test.YtlemelfepalnfaaSameD
namespace Go.Proofs.Ytlemelfepalnfaa
open Go.RowKit WM

/-- What a closure leaves: the error; or the bytes that it took, and the element behind those that were gathered. -/
def CPost {α : Type} (ty el sz B gl : Nat) (cell : α → List Value) (j : Nat) (xs : List Value) (w : World) (d : Dec α) (e : Ending) (w' : World) : Prop :=
  match d with
  | .more => e = .returned (.tuple #[.int .i64 0, .int .i64 3]) ∧ Below B w w'
  | .form => e = .returned (.tuple #[.int .i64 0, .int .i64 2]) ∧ Below B w w'
  | .ok x u => e = .returned (.tuple #[.int .i64 (u : Int), .int .i64 0]) ∧ Below B w w' ∧ ∃ v, w'.heap[gl]? = some (.cells #[v] ty (0, 0)) ∧ w'.ownsRow B el sz v (j + 1) (xs ++ cell x)

theorem Try.info3 : (Try.prog.info? 3).map (fun i => (i.zero, i.size, i.bytes)) = some (some (.int .i64 0), 1, 8) := by kernel_rfl
theorem Try.info9 : (Try.prog.info? 9).map (fun i => (i.zero, i.size, i.bytes)) = some (some (.string ByteArray.empty), 1, 16) := by kernel_rfl

/-- The gathered row behind 'l = append(l, x)', l a captured variable. -/
theorem keep_gathered {w w1 : World} {B gl ty el sz n m : Nat} {v v1 : Value} {xs ys : List Value} {o : Obj} (hv : w.heap[gl]? = some (.cells #[v] ty (0, 0))) (hown : w.ownsRow B el sz v n xs) (hne : el ≠ ty) (hBg : B ≤ gl)
    (hg : (w.alloc o).grownBy w1 v.ownBlock) (h1 : w1.ownsRow B el sz v1 m ys) :
    w1.cell? ⟨gl, 0, none⟩ = some v ∧ w1.frozen? ⟨gl, 0, none⟩ = false ∧ Below B w w1 ∧
      (w1.setCell ⟨gl, 0, none⟩ v1).heap[gl]? = some (.cells #[v1] ty (0, 0)) ∧ (w1.setCell ⟨gl, 0, none⟩ v1).ownsRow B el sz v1 m ys ∧ Below B w (w1.setCell ⟨gl, 0, none⟩ v1) := by
  have hlt := Blk.lt hv
  have hb : B ≤ w.heap.size := by omega
  have hgl : w1.heap[gl]? = some (.cells #[v] ty (0, 0)) := by
    rw [hg.block gl (by simp; omega) (fun e => own_blk_ne hown hv hne e.symm), Below.heap_alloc _ _ _ hlt]
    exact hv
  have hbel : Below B w w1 := ((Below.refl _ _).alloc hb o).grown hg (by simp; omega) (fun k hk => (hown.lt k hk).1)
  refine ⟨cell_of_one hgl, free_of_one hgl, hbel, one_setCell hgl, ?_, hbel.setCell hBg _⟩
  exact ownsRow_setCell_other h1 (own_blk_ne (g := gl) h1 hgl hne) _
/-! THE CLOSURES -/
theorem str_one (s : ByteArray) : ∀ u ∈ [Value.string s], u.oneCell' = true := by
  intro u hu; simp at hu; subst hu; rfl

set_option maxHeartbeats 400000 in
theorem clo43 (B B0 gl : Nat) (A : Option Addr) (c j : Nat) (l : List UInt8) (v : Value) (xs : List Value) (w : World) (ha : Reads w B0 1 A l.length (bs l)) (hlc : l.length ≤ c) (hl : l.length ≤ 1000000)
    (hv : w.heap[gl]? = some (.cells #[v] 22 (0, 0))) (hown : w.ownsRow B 3 1 v j xs) (hj : j ≤ 1000000) (hBg : B ≤ gl) :
    Calls Try.prog 43 #[.slice A l.length c, .pointer (some ⟨gl, 0, none⟩)] w (CPost 22 3 1 B gl (fun x : Int => [.int .i64 x]) j xs w (gInt l)) := by
  have hc := getInt B0 A c l w ha hlc (by omega)
  have hcell := cell_of_one hv
  have hlt := lt_of_block hv
  have HO := Lib.hid hown
  have HV := Lib.hid hv
  have KG := Lib.hid (fun (w1 : World) (o : Obj) (v1 : Value) (m : Nat) (ys : List Value) (hg : (w.alloc o).grownBy w1 v.ownBlock) (h1 : w1.ownsRow B 3 1 v1 m ys) => keep_gathered hv hown (by decide) hBg hg h1)
  obtain ⟨i0, hi, hz0, hz1, hz2⟩ := info_parts Try.info3
  clear ha hv hown
  cases hg : gInt l with
  | more =>
    rw [hg] at hc
    simp only [dInt] at hc
    have HC := Lib.hid hc
    clear hc hg
    go_enter Try.func43, Try.ntmps43
    go_wp2_with (first
      | (go_at_call 24; refine HC.out.mono ?_; rintro e w' ⟨rfl, rfl⟩)
      | (at_builtin; refine wpList_append_own _ rfl (.tmp 14) (.tmp 16) 22 rfl B 3 i0 (.int .i64 0) 1 8 Try.underlying22 hi hz0 hz1 hz2 rfl (by decide) v j xs rfl (HO.out.alloc _) ⟨w.heap.size, 0, none⟩ 1 1 [.int .i64 0] rfl rfl (one_new _ _ _) (int_one _ _) (len_le (by omega)) (by omega) (by simp; omega) ?_; intro v1 w1 hown1 hgrow1 _; obtain ⟨A1, ca1, rfl, _⟩ := own_form hown1; obtain ⟨hk1, hk2, hk3, hk4, hk5, hk6⟩ := KG.out w1 _ _ _ _ hgrow1 hown1; have K4 := Lib.hid hk4; have K5 := Lib.hid hk5; have K6 := Lib.hid hk6; clear hown1 hgrow1 hk3 hk4 hk5 hk6))
    go_ret2
    exact ⟨rfl, K6.out⟩
  | form =>
    rw [hg] at hc
    simp only [dInt] at hc
    have HC := Lib.hid hc
    clear hc hg
    go_enter Try.func43, Try.ntmps43
    go_wp2_with (first
      | (go_at_call 24; refine HC.out.mono ?_; rintro e w' ⟨rfl, rfl⟩)
      | (at_builtin; refine wpList_append_own _ rfl (.tmp 14) (.tmp 16) 22 rfl B 3 i0 (.int .i64 0) 1 8 Try.underlying22 hi hz0 hz1 hz2 rfl (by decide) v j xs rfl (HO.out.alloc _) ⟨w.heap.size, 0, none⟩ 1 1 [.int .i64 0] rfl rfl (one_new _ _ _) (int_one _ _) (len_le (by omega)) (by omega) (by simp; omega) ?_; intro v1 w1 hown1 hgrow1 _; obtain ⟨A1, ca1, rfl, _⟩ := own_form hown1; obtain ⟨hk1, hk2, hk3, hk4, hk5, hk6⟩ := KG.out w1 _ _ _ _ hgrow1 hown1; have K4 := Lib.hid hk4; have K5 := Lib.hid hk5; have K6 := Lib.hid hk6; clear hown1 hgrow1 hk3 hk4 hk5 hk6))
    go_ret2
    exact ⟨rfl, K6.out⟩
  | ok x u =>
    rw [hg] at hc
    simp only [dInt] at hc
    have HC := Lib.hid hc
    clear hc hg
    go_enter Try.func43, Try.ntmps43
    go_wp2_with (first
      | (go_at_call 24; refine HC.out.mono ?_; rintro e w' ⟨rfl, rfl⟩)
      | (at_builtin; refine wpList_append_own _ rfl (.tmp 14) (.tmp 16) 22 rfl B 3 i0 (.int .i64 0) 1 8 Try.underlying22 hi hz0 hz1 hz2 rfl (by decide) v j xs rfl (HO.out.alloc _) ⟨w.heap.size, 0, none⟩ 1 1 [.int .i64 x] rfl rfl (one_new _ _ _) (int_one _ _) (len_le (by omega)) (by omega) (by simp; omega) ?_; intro v1 w1 hown1 hgrow1 _; obtain ⟨A1, ca1, rfl, _⟩ := own_form hown1; obtain ⟨hk1, hk2, hk3, hk4, hk5, hk6⟩ := KG.out w1 _ _ _ _ hgrow1 hown1; have K4 := Lib.hid hk4; have K5 := Lib.hid hk5; have K6 := Lib.hid hk6; clear hown1 hgrow1 hk3 hk4 hk5 hk6))
    go_ret2
    exact ⟨rfl, K6.out, _, K4.out, K5.out⟩

set_option maxHeartbeats 400000 in
theorem clo44 (B B0 gl : Nat) (A : Option Addr) (c j : Nat) (l : List UInt8) (v : Value) (xs : List Value) (w : World) (ha : Reads w B0 1 A l.length (bs l)) (hlc : l.length ≤ c) (hl : l.length ≤ 1000000)
    (hv : w.heap[gl]? = some (.cells #[v] 23 (0, 0))) (hown : w.ownsRow B 9 1 v j xs) (hj : j ≤ 1000000) (hBg : B ≤ gl) :
    Calls Try.prog 44 #[.slice A l.length c, .pointer (some ⟨gl, 0, none⟩)] w (CPost 23 9 1 B gl (fun x : List UInt8 => [.string ⟨x.toArray⟩]) j xs w (gBytes l)) := by
  have hc := getBytes B0 A c l w ha hlc (by omega)
  have hcell := cell_of_one hv
  have hlt := lt_of_block hv
  have HO := Lib.hid hown
  have HV := Lib.hid hv
  have KG := Lib.hid (fun (w1 : World) (o : Obj) (v1 : Value) (m : Nat) (ys : List Value) (hg : (w.alloc o).grownBy w1 v.ownBlock) (h1 : w1.ownsRow B 9 1 v1 m ys) => keep_gathered hv hown (by decide) hBg hg h1)
  obtain ⟨i0, hi, hz0, hz1, hz2⟩ := info_parts Try.info9
  clear ha hv hown
  cases hg : gBytes l with
  | more =>
    rw [hg] at hc
    simp only [dStr] at hc
    have HC := Lib.hid hc
    clear hc hg
    go_enter Try.func44, Try.ntmps44
    go_wp2_with (first
      | (go_at_call 26; refine HC.out.mono ?_; rintro e w' ⟨rfl, rfl⟩)
      | (at_builtin; refine wpList_append_own _ rfl (.tmp 14) (.tmp 16) 23 rfl B 9 i0 (.string ByteArray.empty) 1 16 Try.underlying23 hi hz0 hz1 hz2 rfl (by decide) v j xs rfl (HO.out.alloc _) ⟨w.heap.size, 0, none⟩ 1 1 [.string ⟨#[]⟩] rfl rfl (one_new _ _ _) (str_one _) (len_le (by omega)) (by omega) (by simp; omega) ?_; intro v1 w1 hown1 hgrow1 _; obtain ⟨A1, ca1, rfl, _⟩ := own_form hown1; obtain ⟨hk1, hk2, hk3, hk4, hk5, hk6⟩ := KG.out w1 _ _ _ _ hgrow1 hown1; have K4 := Lib.hid hk4; have K5 := Lib.hid hk5; have K6 := Lib.hid hk6; clear hown1 hgrow1 hk3 hk4 hk5 hk6))
    go_ret2
    exact ⟨rfl, K6.out⟩
  | form =>
    rw [hg] at hc
    simp only [dStr] at hc
    have HC := Lib.hid hc
    clear hc hg
    go_enter Try.func44, Try.ntmps44
    go_wp2_with (first
      | (go_at_call 26; refine HC.out.mono ?_; rintro e w' ⟨rfl, rfl⟩)
      | (at_builtin; refine wpList_append_own _ rfl (.tmp 14) (.tmp 16) 23 rfl B 9 i0 (.string ByteArray.empty) 1 16 Try.underlying23 hi hz0 hz1 hz2 rfl (by decide) v j xs rfl (HO.out.alloc _) ⟨w.heap.size, 0, none⟩ 1 1 [.string ⟨#[]⟩] rfl rfl (one_new _ _ _) (str_one _) (len_le (by omega)) (by omega) (by simp; omega) ?_; intro v1 w1 hown1 hgrow1 _; obtain ⟨A1, ca1, rfl, _⟩ := own_form hown1; obtain ⟨hk1, hk2, hk3, hk4, hk5, hk6⟩ := KG.out w1 _ _ _ _ hgrow1 hown1; have K4 := Lib.hid hk4; have K5 := Lib.hid hk5; have K6 := Lib.hid hk6; clear hown1 hgrow1 hk3 hk4 hk5 hk6))
    go_ret2
    exact ⟨rfl, K6.out⟩
  | ok x u =>
    rw [hg] at hc
    simp only [dStr] at hc
    have HC := Lib.hid hc
    clear hc hg
    go_enter Try.func44, Try.ntmps44
    go_wp2_with (first
      | (go_at_call 26; refine HC.out.mono ?_; rintro e w' ⟨rfl, rfl⟩)
      | (at_builtin; refine wpList_append_own _ rfl (.tmp 14) (.tmp 16) 23 rfl B 9 i0 (.string ByteArray.empty) 1 16 Try.underlying23 hi hz0 hz1 hz2 rfl (by decide) v j xs rfl (HO.out.alloc _) ⟨w.heap.size, 0, none⟩ 1 1 [.string ⟨x.toArray⟩] rfl rfl (one_new _ _ _) (str_one _) (len_le (by omega)) (by omega) (by simp; omega) ?_; intro v1 w1 hown1 hgrow1 _; obtain ⟨A1, ca1, rfl, _⟩ := own_form hown1; obtain ⟨hk1, hk2, hk3, hk4, hk5, hk6⟩ := KG.out w1 _ _ _ _ hgrow1 hown1; have K4 := Lib.hid hk4; have K5 := Lib.hid hk5; have K6 := Lib.hid hk6; clear hown1 hgrow1 hk3 hk4 hk5 hk6))
    go_ret2
    exact ⟨rfl, K6.out, _, K4.out, K5.out⟩
end Go.Proofs.Ytlemelfepalnfaa
