/-
  wire.GetInts, by its contract: what it reads of bytes, and what is wrong with them.
-/
import Derived.Test.YtbdknncmlcbbpaaDoorG36
import Derived.Laws.BytesString
import Derived.OwnWalkIn
import Derived.TacticsInMore
import Derived.Deep.MidRow
import Derived.Deep.RegionHeldLaw
import Derived.OrdersIn
import Derived.RangeFuncBound
set_option linter.unusedVariables false
namespace Go.Proofs.YtbdknncmlcbbpaaDoor
open Go.RowKit WM

def dLen : Dec Nat → Value
  | .more => .tuple #[.int .i64 0, .int .i64 0, .int .i64 3]
  | .form => .tuple #[.int .i64 0, .int .i64 0, .int .i64 2]
  | .ok n u => .tuple #[.int .i64 (n : Int), .int .i64 (u : Int), .int .i64 0]

theorem getLen (B : Nat) (A : Option Addr) (c least : Nat) (l : List UInt8) (w : World) (ha : Reads w B 1 A l.length (bs l)) (hlc : l.length ≤ c) (hl : l.length ≤ 140737488355328) (h0 : 0 < least) (h1 : least ≤ 1000) :
    Calls Tryd.prog 93 #[.slice A l.length c, .int .i64 (least : Int)] w fun e w' => e = .returned (dLen (gLen least l)) ∧ w = w' := by
  have hc := getInt B A c l w ha hlc hl
  cases hg : gInt l with
  | more =>
    have hgl : gLen least l = .more := by unfold gLen; rw [hg]
    rw [hgl]
    rw [hg] at hc
    simp only [dInt] at hc
    have HC := Lib.hid hc
    clear hc ha hg hgl
    go_enter Tryd.func93, Tryd.ntmps93
    go_wp2_with (go_at_call 50; refine HC.out.mono ?_; rintro e w' ⟨rfl, rfl⟩)
    go_ret3
    exact ⟨rfl, rfl⟩
  | form =>
    have hgl : gLen least l = .form := by unfold gLen; rw [hg]
    rw [hgl]
    rw [hg] at hc
    simp only [dInt] at hc
    have HC := Lib.hid hc
    clear hc ha hg hgl
    go_enter Tryd.func93, Tryd.ntmps93
    go_wp2_with (go_at_call 50; refine HC.out.mono ?_; rintro e w' ⟨rfl, rfl⟩)
    go_ret3
    exact ⟨rfl, rfl⟩
  | ok n u =>
    obtain ⟨hr, t, he, hu⟩ := gInt_ok hg
    have hul : u ≤ l.length := by rw [he, hu, List.length_append]; omega
    have h9 := enc_len hr
    rw [← hu] at h9
    obtain ⟨hu1, hu9⟩ := h9
    obtain ⟨hr1, hr2⟩ := hr
    rw [hg] at hc
    simp only [dInt] at hc
    have HC := Lib.hid hc
    have HG := Lib.hid hg
    clear hc ha he hu hg
    by_cases hn : n < 0
    · have hgl : gLen least l = .form := by unfold gLen; rw [HG.out]; simp only []; rw [if_pos hn]
      rw [hgl]
      clear hgl
      go_enter Tryd.func93, Tryd.ntmps93
      go_wp2_with (go_at_call 50; refine HC.out.mono ?_; rintro e w' ⟨rfl, rfl⟩)
      go_ret3
      exact ⟨rfl, rfl⟩
    · obtain ⟨m, rfl⟩ := Int.eq_ofNat_of_zero_le (show 0 ≤ n by omega)
      by_cases hm : (l.length - u) / least < m
      · have hgl : gLen least l = .more := by unfold gLen; rw [HG.out]; simp only []; rw [if_neg hn, if_pos (by omega)]
        rw [hgl]
        have hq : ((l.length : Int) - (u : Int)) / (least : Int) < (m : Int) := by
          rw [show ((l.length : Int) - (u : Int)) = ((l.length - u : Nat) : Int) by omega]; omega
        clear hgl
        go_enter Tryd.func93, Tryd.ntmps93
        go_wp2_with (go_at_call 50; refine HC.out.mono ?_; rintro e w' ⟨rfl, rfl⟩)
        go_ret3
        exact ⟨rfl, rfl⟩
      · have hgl : gLen least l = .ok m u := by unfold gLen; rw [HG.out]; simp only []; rw [if_neg hn, if_neg (by omega)]; simp
        rw [hgl]
        have hq : ¬ ((l.length : Int) - (u : Int)) / (least : Int) < (m : Int) := by
          rw [show ((l.length : Int) - (u : Int)) = ((l.length - u : Nat) : Int) by omega]; omega
        clear hgl
        go_enter Tryd.func93, Tryd.ntmps93
        go_wp2_with (go_at_call 50; refine HC.out.mono ?_; rintro e w' ⟨rfl, rfl⟩)
        go_ret3
        exact ⟨rfl, rfl⟩
theorem reads_part {w : World} {B n c lo m : Nat} {A A' : Option Addr} {xs : List Value} (h : Reads w B 1 A n xs) (hA : A' = (if c = lo then A else A.map (·.add (lo * 1)))) (hm : lo + m ≤ n) (hc : n ≤ c) :
    Reads w B 1 A' m ((xs.drop lo).take m) := by
  have h1 := h.cut (k := lo) (cap := c) (by omega) hc
  rw [← hA] at h1
  refine ⟨by rw [List.length_take, List.length_drop, h.1]; omega, fun hp => ?_⟩
  obtain ⟨ad, e, hb, hcell⟩ := h1.2 (by omega)
  refine ⟨ad, e, hb, fun j u hu => hcell j u ?_⟩
  rw [Nat.mul_one, ← hu, List.getElem?_take, if_pos]
  have := (List.getElem?_eq_some_iff.1 hu).1
  rw [List.length_take] at this
  omega

theorem Tryd.slBytesG : Tryd.prog.underlying 32 = some (.slice (Tryd.prog.elem 32)) := by kernel_rfl
theorem Tryd.elemBytesG : Tryd.prog.elem 32 = 5 := by kernel_rfl
/-- 'b[lo:]' -/
theorem cut_l (A : Option Addr) (n c lo : Nat) (h1 : lo ≤ n) : ∃ A', A' = (if c = lo then A else A.map (·.add (lo * 1))) ∧
    ∀ W : World, (Instr.sliceAt 32 (.slice A n c) (some (.int .i64 (lo : Int))) none none).run Tryd.prog W = .ok (.slice A' (n - lo) (c - lo)) W := by
  refine ⟨_, rfl, fun W => ?_⟩
  rw [run_sliceAt_slice W 32 _ _ _ _ Tryd.slBytesG, run_slice_l W 32 A n c Tryd.slBytesG .i64 lo (by omega) (by omega), Tryd.elemBytesG, Tryd.siz5]
  simp [sliced]

/-- What a closure leaves: the error; or the bytes that it took, and the element behind those that were gathered. -/
def CPost {α : Type} (ty el sz B gl : Nat) (cell : α → List Value) (j : Nat) (xs : List Value) (w : World) (d : Dec α) (e : Ending) (w' : World) : Prop :=
  match d with
  | .more => e = .returned (.tuple #[.int .i64 0, .int .i64 3]) ∧ Below B w w'
  | .form => e = .returned (.tuple #[.int .i64 0, .int .i64 2]) ∧ Below B w w'
  | .ok x u => e = .returned (.tuple #[.int .i64 (u : Int), .int .i64 0]) ∧ Below B w w' ∧ ∃ v, w'.heap[gl]? = some (.cells #[v] ty (0, 0)) ∧ w'.ownsRow B el sz v (j + 1) (xs ++ cell x)

theorem Tryd.info3G : (Tryd.prog.info? 3).map (fun i => (i.zero, i.size, i.bytes)) = some (some (.int .i64 0), 1, 8) := by kernel_rfl
/-- The gathered row behind 'l = append(l, x)', l a captured variable. -/
theorem keep_gathered {w w1 : World} {B gl ty el sz n m : Nat} {v v1 : Value} {xs ys : List Value} {o : Obj} (hv : w.heap[gl]? = some (.cells #[v] ty (0, 0))) (hown : w.ownsRow B el sz v n xs) (hne : el ≠ ty) (hBg : B ≤ gl)
    (hg : (w.alloc o).grownBy w1 v.ownBlock) (h1 : w1.ownsRow B el sz v1 m ys) :
    w1.cell? ⟨gl, 0, none⟩ = some v ∧ w1.frozen? ⟨gl, 0, none⟩ = false ∧ Below B w w1 ∧
      (w1.setCell ⟨gl, 0, none⟩ v1).heap[gl]? = some (.cells #[v1] ty (0, 0)) ∧ (w1.setCell ⟨gl, 0, none⟩ v1).ownsRow B el sz v1 m ys ∧ Below B w (w1.setCell ⟨gl, 0, none⟩ v1) := by
  have hlt := Blk.lt hv
  have hb : B ≤ w.heap.size := by omega
  have hgl : w1.heap[gl]? = some (.cells #[v] ty (0, 0)) := by
    rw [hg.block gl (by simp; omega) (fun e => own_blk_ne hown hv hne e.symm), Below.heap_alloc _ _ _ hlt]
    exact hv
  have hbel : Below B w w1 := ((Below.refl _ _).alloc hb o).grown hg (by simp; omega) (fun k hk => (hown.lt k hk).1)
  refine ⟨cell_of_one hgl, free_of_one hgl, hbel, one_setCell hgl, ?_, hbel.setCell hBg _⟩
  exact ownsRow_setCell_other h1 (own_blk_ne (g := gl) h1 hgl hne) _
set_option maxHeartbeats 400000 in
theorem clo43 (B B0 gl : Nat) (A : Option Addr) (c j : Nat) (l : List UInt8) (v : Value) (xs : List Value) (w : World) (ha : Reads w B0 1 A l.length (bs l)) (hlc : l.length ≤ c) (hl : l.length ≤ 1000000)
    (hv : w.heap[gl]? = some (.cells #[v] 22 (0, 0))) (hown : w.ownsRow B 3 1 v j xs) (hj : j ≤ 1000000) (hBg : B ≤ gl) :
    Calls Tryd.prog 84 #[.slice A l.length c, .pointer (some ⟨gl, 0, none⟩)] w (CPost 22 3 1 B gl (fun x : Int => [.int .i64 x]) j xs w (gInt l)) := by
  have hc := getInt B0 A c l w ha hlc (by omega)
  have hcell := cell_of_one hv
  have hlt := lt_of_block hv
  have HO := Lib.hid hown
  have HV := Lib.hid hv
  have KG := Lib.hid (fun (w1 : World) (o : Obj) (v1 : Value) (m : Nat) (ys : List Value) (hg : (w.alloc o).grownBy w1 v.ownBlock) (h1 : w1.ownsRow B 3 1 v1 m ys) => keep_gathered hv hown (by decide) hBg hg h1)
  obtain ⟨i0, hi, hz0, hz1, hz2⟩ := info_parts Tryd.info3G
  clear ha hv hown
  cases hg : gInt l with
  | more =>
    rw [hg] at hc
    simp only [dInt] at hc
    have HC := Lib.hid hc
    clear hc hg
    go_enter Tryd.func84, Tryd.ntmps84
    go_wp2_with (first
      | (go_at_call 50; refine HC.out.mono ?_; rintro e w' ⟨rfl, rfl⟩)
      | (at_builtin; refine wpList_append_own _ rfl (.tmp 14) (.tmp 16) 22 rfl B 3 i0 (.int .i64 0) 1 8 Tryd.underlying22 hi hz0 hz1 hz2 rfl (by decide) v j xs rfl (HO.out.alloc _) ⟨w.heap.size, 0, none⟩ 1 1 [.int .i64 0] rfl rfl (one_new _ _ _) (int_one _ _) (len_le (by omega)) (by omega) (by simp; omega) ?_; intro v1 w1 hown1 hgrow1 _; obtain ⟨A1, ca1, rfl, _⟩ := own_form hown1; obtain ⟨hk1, hk2, hk3, hk4, hk5, hk6⟩ := KG.out w1 _ _ _ _ hgrow1 hown1; have K4 := Lib.hid hk4; have K5 := Lib.hid hk5; have K6 := Lib.hid hk6; clear hown1 hgrow1 hk3 hk4 hk5 hk6))
    go_ret2
    exact ⟨rfl, K6.out⟩
  | form =>
    rw [hg] at hc
    simp only [dInt] at hc
    have HC := Lib.hid hc
    clear hc hg
    go_enter Tryd.func84, Tryd.ntmps84
    go_wp2_with (first
      | (go_at_call 50; refine HC.out.mono ?_; rintro e w' ⟨rfl, rfl⟩)
      | (at_builtin; refine wpList_append_own _ rfl (.tmp 14) (.tmp 16) 22 rfl B 3 i0 (.int .i64 0) 1 8 Tryd.underlying22 hi hz0 hz1 hz2 rfl (by decide) v j xs rfl (HO.out.alloc _) ⟨w.heap.size, 0, none⟩ 1 1 [.int .i64 0] rfl rfl (one_new _ _ _) (int_one _ _) (len_le (by omega)) (by omega) (by simp; omega) ?_; intro v1 w1 hown1 hgrow1 _; obtain ⟨A1, ca1, rfl, _⟩ := own_form hown1; obtain ⟨hk1, hk2, hk3, hk4, hk5, hk6⟩ := KG.out w1 _ _ _ _ hgrow1 hown1; have K4 := Lib.hid hk4; have K5 := Lib.hid hk5; have K6 := Lib.hid hk6; clear hown1 hgrow1 hk3 hk4 hk5 hk6))
    go_ret2
    exact ⟨rfl, K6.out⟩
  | ok x u =>
    rw [hg] at hc
    simp only [dInt] at hc
    have HC := Lib.hid hc
    clear hc hg
    go_enter Tryd.func84, Tryd.ntmps84
    go_wp2_with (first
      | (go_at_call 50; refine HC.out.mono ?_; rintro e w' ⟨rfl, rfl⟩)
      | (at_builtin; refine wpList_append_own _ rfl (.tmp 14) (.tmp 16) 22 rfl B 3 i0 (.int .i64 0) 1 8 Tryd.underlying22 hi hz0 hz1 hz2 rfl (by decide) v j xs rfl (HO.out.alloc _) ⟨w.heap.size, 0, none⟩ 1 1 [.int .i64 x] rfl rfl (one_new _ _ _) (int_one _ _) (len_le (by omega)) (by omega) (by simp; omega) ?_; intro v1 w1 hown1 hgrow1 _; obtain ⟨A1, ca1, rfl, _⟩ := own_form hown1; obtain ⟨hk1, hk2, hk3, hk4, hk5, hk6⟩ := KG.out w1 _ _ _ _ hgrow1 hown1; have K4 := Lib.hid hk4; have K5 := Lib.hid hk5; have K6 := Lib.hid hk6; clear hown1 hgrow1 hk3 hk4 hk5 hk6))
    go_ret2
    exact ⟨rfl, K6.out, _, K4.out, K5.out⟩

/-- What has been gathered, put before what is still to come. -/
def comb {α : Type} (xs : List α) (u : Nat) : Dec (List α) → Dec (List α)
  | .ok ys k => .ok (xs ++ ys) (u + k)
  | .more => .more
  | .form => .form
theorem comb_more {α : Type} {g : List UInt8 → Dec α} {xs : List α} {u m : Nat} {l : List UInt8} (h : g l = .more) : comb xs u (gMany g (m + 1) l) = .more := by simp only [gMany, h, comb]
theorem comb_form {α : Type} {g : List UInt8 → Dec α} {xs : List α} {u m : Nat} {l : List UInt8} (h : g l = .form) : comb xs u (gMany g (m + 1) l) = .form := by simp only [gMany, h, comb]
theorem comb_ok {α : Type} {g : List UInt8 → Dec α} {xs : List α} {u m k : Nat} {l : List UInt8} {x : α} (h : g (l.drop u) = .ok x k) : comb xs u (gMany g (m + 1) (l.drop u)) = comb (xs ++ [x]) (u + k) (gMany g m (l.drop (u + k))) := by
  simp only [gMany, h, List.drop_drop]
  cases gMany g m (l.drop (u + k)) <;> simp [comb, Nat.add_assoc]
theorem comb_end {α : Type} {g : List UInt8 → Dec α} {xs : List α} {u : Nat} {l : List UInt8} : comb xs u (gMany g 0 l) = .ok xs u := by simp [gMany, comb]
theorem elems_comb {α : Type} {g : List UInt8 → Dec α} {least n u : Nat} {l : List UInt8} (h : gLen least l = .ok n u) : gElems least g l = comb [] u (gMany g n (l.drop u)) := by
  unfold gElems
  rw [h]
  simp only []
  cases gMany g n (l.drop u) <;> simp [comb]

/-- What getElements leaves. -/
def EPost {α : Type} (ty el sz B gl : Nat) (cell : α → List Value) (w : World) (d : Dec (List α)) (e : Ending) (w' : World) : Prop :=
  match d with
  | .more => e = .returned (.tuple #[.int .i64 0, .int .i64 3]) ∧ Below B w w'
  | .form => e = .returned (.tuple #[.int .i64 0, .int .i64 2]) ∧ Below B w w'
  | .ok xs u => e = .returned (.tuple #[.int .i64 (u : Int), .int .i64 0]) ∧ Below B w w' ∧ ∃ v, w'.heap[gl]? = some (.cells #[v] ty (0, 0)) ∧ w'.ownsRow B el sz v xs.length (xs.flatMap cell)

/-- The loop's relation, but for the slots. -/
def EInv {α : Type} (ty el sz B gl n : Nat) (cell : α → List Value) (g : List UInt8 → Dec α) (l : List UInt8) (w : World) (d : Dec (List α)) (j u : Nat) (wr : World) : Prop :=
  ∃ (xs : List α) (v : Value), xs.length = j ∧ d = comb xs u (gMany g (n - j) (l.drop u)) ∧ wr.heap[gl]? = some (.cells #[v] ty (0, 0)) ∧ wr.ownsRow B el sz v j (xs.flatMap cell) ∧ Below B w wr

set_option maxHeartbeats 800000 in
theorem elemsI (B gl : Nat) (A : Option Addr) (c : Nat) (l : List UInt8) (w : World) (ha : Reads w B 1 A l.length (bs l)) (hlc : l.length ≤ c) (hl : l.length ≤ 1000000)
    (hgl : w.heap[gl]? = some (.cells #[.slice none 0 0] 22 (0, 0))) (hBg : B ≤ gl) :
    Calls Tryd.prog 83 #[.slice A l.length c, .int .i64 1, .func (.func 84) #[] #[.pointer (some ⟨gl, 0, none⟩)]] w (EPost 22 3 1 B gl (fun x : Int => [.int .i64 x]) w (gElems 1 gInt l)) := by
  have hc := getLen B A c 1 l w ha hlc (by omega) (by omega) (by omega)
  have hglt := lt_of_block hgl
  cases hg : gLen 1 l with
  | more =>
    have hgl2 : gElems 1 gInt l = .more := by unfold gElems; rw [hg]
    rw [hgl2]
    rw [hg] at hc
    simp only [dLen] at hc
    have HC := Lib.hid hc
    clear hc ha hg hgl2 hgl
    go_enter Tryd.func83, Tryd.ntmps83
    go_wp2_with (go_at_call 93; refine HC.out.mono ?_; rintro e w' ⟨rfl, rfl⟩)
    go_ret2
    exact ⟨rfl, Below.refl _ _⟩
  | form =>
    have hgl2 : gElems 1 gInt l = .form := by unfold gElems; rw [hg]
    rw [hgl2]
    rw [hg] at hc
    simp only [dLen] at hc
    have HC := Lib.hid hc
    clear hc ha hg hgl2 hgl
    go_enter Tryd.func83, Tryd.ntmps83
    go_wp2_with (go_at_call 93; refine HC.out.mono ?_; rintro e w' ⟨rfl, rfl⟩)
    go_ret2
    exact ⟨rfl, Below.refl _ _⟩
  | ok n u0 =>
    obtain ⟨hr, t, he, hu, ht⟩ := gLen_ok hg (by omega)
    have hul : u0 + n * 1 ≤ l.length := by rw [he, hu, List.length_append]; omega
    rw [hg] at hc
    simp only [dLen] at hc
    obtain ⟨d, hd⟩ : ∃ d, d = gElems 1 gInt l := ⟨_, rfl⟩
    rw [← hd]
    have hd2 := hd.trans (elems_comb (g := gInt) hg)
    have HC := Lib.hid hc
    have HA := Lib.hid ha
    have HS := Lib.hid (show EInv 22 3 1 B gl n (fun x : Int => [.int .i64 x]) gInt l w d 0 u0 w from ⟨[], _, rfl, hd2, hgl, World.ownsRow_nil _ _ _ _, Below.refl _ _⟩)
    clear hc ha hg hgl he hu ht hr hd hd2
    go_enter Tryd.func83, Tryd.ntmps83
    go_wp2_with (go_at_call 93; refine HC.out.mono ?_; rintro e w' ⟨rfl, rfl⟩)
    go_loopw [9, 24] (fun a i wr => ∃ j u : Nat, j ≤ n ∧ u ≤ l.length ∧ i = .int .i64 j ∧ a = .int .i64 u ∧ EInv 22 3 1 B gl n (fun x : Int => [.int .i64 x]) gInt l w d j u wr) (fun _ i _ => n - (intOf i).toNat)
    case atStart => exact ⟨0, u0, Nat.zero_le _, by omega, rfl, rfl, HS.out⟩
    case round =>
      obtain ⟨j, u, hj, hu, rfl, rfl, hinv⟩ := hrel
      obtain ⟨xs, v, hxl, hd, hv, hown, hbel⟩ := hinv
      by_cases hlt : j < n
      · obtain ⟨m, hm⟩ : ∃ m, n - j = m + 1 := ⟨n - j - 1, by omega⟩
        rw [hm] at hd
        obtain ⟨A', hA', hcut⟩ := cut_l A l.length c u hu
        have hrd := reads_part (HA.out.below hbel) hA' (show u + (l.length - u) ≤ l.length by omega) hlc
        rw [bs_drop, bs_take, List.take_of_length_le (by simp), show l.length - u = (l.drop u).length by simp] at hrd
        have hcc := clo43 B B gl A' (c - u) j (l.drop u) v _ wr hrd (by simp; omega) (by simp; omega) hv hown (by omega) hBg
        rw [show (l.drop u).length = l.length - u by simp] at hcc
        have HB := Lib.hid hbel
        have HXL := Lib.hid hxl
        have HM := Lib.hid hm
        cases hgr : gInt (l.drop u) with
        | more =>
          rw [hgr] at hcc
          rw [comb_more hgr] at hd
          have HCC := Lib.hid hcc
          subst hd
          clear hcc hrd hA' hv hown hbel hxl hm hgr
          go_wp2_with (go_at_call 84; refine HCC.out.mono ?_; rintro e w2 ⟨rfl, hb2⟩; have HB2 := Lib.hid hb2; clear hb2)
          go_ret2
          exact ⟨rfl, HB.out.trans HB2.out⟩
        | form =>
          rw [hgr] at hcc
          rw [comb_form hgr] at hd
          have HCC := Lib.hid hcc
          subst hd
          clear hcc hrd hA' hv hown hbel hxl hm hgr
          go_wp2_with (go_at_call 84; refine HCC.out.mono ?_; rintro e w2 ⟨rfl, hb2⟩; have HB2 := Lib.hid hb2; clear hb2)
          go_ret2
          exact ⟨rfl, HB.out.trans HB2.out⟩
        | ok x k =>
          rw [hgr] at hcc
          rw [comb_ok hgr] at hd
          have hk : u + k ≤ l.length := by
            obtain ⟨_, t, h1, h2⟩ := gInt_ok hgr
            have h3 := congrArg List.length h1
            rw [List.length_append, List.length_drop] at h3
            omega
          have HCC := Lib.hid hcc
          have HD := Lib.hid hd
          skip
          skip
          clear hcc hrd hA' hv hown hbel hxl hm hgr hd
          go_wp2_with (go_at_call 84; refine HCC.out.mono ?_; rintro e w2 ⟨rfl, hb2, v2, hv2, hown2⟩; have HB2 := Lib.hid hb2; have HV2 := Lib.hid hv2; have HO2 := Lib.hid hown2; clear hb2 hv2 hown2)
          go_roundw
          case rel =>
            refine ⟨j + 1, u + k, by omega, hk, by go_num, by go_num, xs ++ [x], v2, by simp [HXL.out], ?_, HV2.out, ?_, HB.out.trans HB2.out⟩
            · have := HM.out
              rw [show n - (j + 1) = m by omega]; exact HD.out
            · have := HO2.out; simpa using this
          case measure => simp [intOf]; omega
      · obtain rfl : j = n := by omega
        rw [Nat.sub_self, comb_end] at hd
        subst hd
        have HB := Lib.hid hbel
        have HV := Lib.hid hv
        have HO := Lib.hid hown
        have HXL := Lib.hid hxl
        clear hbel hv hown hxl
        go_wp2
        go_ret2
        exact ⟨rfl, HB.out, v, HV.out, by rw [HXL.out]; exact HO.out⟩

def GPost {α : Type} (el sz : Nat) (cell : α → List Value) (w : World) (d : Dec (List α)) (e : Ending) (w' : World) : Prop :=
  match d with
  | .more => e = .returned (.tuple #[.slice none 0 0, .int .i64 0, .int .i64 3]) ∧ Below w.heap.size w w'
  | .form => e = .returned (.tuple #[.slice none 0 0, .int .i64 0, .int .i64 2]) ∧ Below w.heap.size w w'
  | .ok xs u => ∃ A c, e = .returned (.tuple #[.slice A xs.length c, .int .i64 (u : Int), .int .i64 0]) ∧ w'.ownsRow w.heap.size el sz (.slice A xs.length c) xs.length (xs.flatMap cell) ∧ Below w.heap.size w w'

set_option maxHeartbeats 400000 in
theorem getInts (A : Option Addr) (c : Nat) (l : List UInt8) (w : World) (ha : Reads w w.heap.size 1 A l.length (bs l)) (hlc : l.length ≤ c) (hl : l.length ≤ 1000000) :
    Calls Tryd.prog 69 #[.slice A l.length c] w (GPost 3 1 (fun x : Int => [.int .i64 x]) w (gElems 1 gInt l)) := by
  have hc := elemsI w.heap.size w.heap.size A c l (w.alloc (.cells #[.slice none 0 0] 22)) (ha.alloc (Nat.le_refl _) _) hlc hl (heap_alloc_new w _) (Nat.le_refl _)
  have hb0 := (Below.refl w.heap.size w).alloc (Nat.le_refl _) (.cells #[.slice none 0 0] 22)
  have HB0 := Lib.hid hb0
  clear hb0 ha
  cases hg : gElems 1 gInt l with
  | more =>
    rw [hg] at hc
    have HC := Lib.hid hc
    clear hc hg
    go_enter Tryd.func69, Tryd.ntmps69
    go_wp2_with (go_at_call 83; refine HC.out.mono ?_; rintro e w1 ⟨rfl, hb⟩; have HB := Lib.hid hb; clear hb)
    go_ret3
    exact ⟨rfl, HB0.out.trans HB.out⟩
  | form =>
    rw [hg] at hc
    have HC := Lib.hid hc
    clear hc hg
    go_enter Tryd.func69, Tryd.ntmps69
    go_wp2_with (go_at_call 83; refine HC.out.mono ?_; rintro e w1 ⟨rfl, hb⟩; have HB := Lib.hid hb; clear hb)
    go_ret3
    exact ⟨rfl, HB0.out.trans HB.out⟩
  | ok xs u =>
    rw [hg] at hc
    have HC := Lib.hid hc
    clear hc hg
    go_enter Tryd.func69, Tryd.ntmps69
    go_wp2_with (go_at_call 83; refine HC.out.mono ?_; rintro e w1 ⟨rfl, hb, v, hv, hown⟩; obtain ⟨A1, c1, rfl, _⟩ := own_form hown; have hcell := cell_of_one hv; have HB := Lib.hid hb; have HO := Lib.hid hown; clear hb hown hv)
    go_ret3
    exact ⟨A1, c1, rfl, HO.out, HB0.out.trans HB.out⟩

end Go.Proofs.YtbdknncmlcbbpaaDoor

/-
  Laws of the fenced walk that are lacking: a load of a whole row out of the middle of a block; a plain value.
-/
namespace Go.Proofs.YtbdknncmlcbbpaaDoor
open Go.RowKit

theorem wpListIn_value {F : Fence} {n : Nat} {P : Program} {w w' : World} {ops : Array Oper} {rest : List Oper} {o : Oper} {a : Act} {Q : Exit → Act → World → Prop}
    (hg : o.guard = none) (hnd : ∀ c, o.op ≠ .defer c) (hab : o.about P w a.eval = none) (v : Value) (hrun : (execOp a.eval o).run P w = .ok (.value v) w') (h : wpListIn F n P ops Q rest (a.put o.dst v) w') : wpListIn F n P ops Q (o :: rest) a w := by
  refine wpListIn_plain hg fun K hK => ?_
  unfold Oper.wpIn
  refine ⟨fun f hf => absurd hf (by rw [hab]; exact fun h => nomatch h), ?_⟩
  rw [Oper.semAt_plain F _ _ hnd, hrun]
  exact hK _ _ h
theorem wpListIn_load_mid {F : Fence} {n : Nat} {P : Program} {w : World} {ops : Array Oper} {rest : List Oper} {op : Oper} {a : Act} {Q : Exit → Act → World → Prop} (hgd : op.guard = none) (ty : TypeId) (x : Operand) (ho : op.op = .load ty x)
    (b o : Nat) (hx : a.eval x = .pointer (some ⟨b, o, none⟩)) (cs : List Value) (d : TypeDesc) (hc : w.rangeAt b o cs)
    (hu : P.underlying ty = some d) (hd : d.isRow = true) (hi : (P.info? ty).map (·.size) = some cs.length)
    (h : wpListIn F n P ops Q rest (a.put op.dst (.agg cs.toArray)) w) : wpListIn F n P ops Q (op :: rest) a w :=
  wpListIn_value hgd (fun c => by rw [ho]; intro h; cases h) (by simp [Oper.about, ho]) (.agg cs.toArray) (by
    unfold execOp
    simp only [ho, hx, Instr.loadAt, Instr.sureAddr, Sem.run_bind, Sem.run_pure, Result.andThen_ok, run_loadVar_mid w b o ty cs d hc hu hd hi]) h

/-! What is shown of an operation or a region without a fence serves in a round of a loop over an iterator. -/
section
variable {P : Program} {ops : Array Oper} {Q : Exit → Act → World → Prop} {n l : Nat}
theorem wpIn_of_wp {o : Oper} {a : Act} {w : World} {K : Act → World → Prop} (hnd : ∀ c, o.op ≠ .defer c) (h : o.wp P a w K Q) : o.wpIn (Fence.wide.inRound l) n P a w K Q := by
  refine ⟨fun _ _ => trivial, ?_⟩
  rw [Oper.semAt_eq _ _ _ hnd]
  unfold Oper.wp at h
  generalize (execOp a.eval o).run P w = r at h ⊢
  cases r with
  | ok nx w' =>
    cases nx
    case value v => exact h
    case skip => exact h
    case defer d => exact h
    case enter f args => exact ⟨fun hd => (nomatch (show false = true from hd)), (callsIn_wide (n := n - 1)).2 h⟩
    case row row args => exact ⟨fun hd => (nomatch (show false = true from hd)), fun c cs _ => (let ⟨v, w', r, s⟩ := h c cs; ⟨v, w', r, stepsIn_wide.2 s⟩)⟩
    all_goals exact h.elim
  | halt x w' => cases x <;> first | exact h | exact h.elim
theorem wpOpIn_of_wpOp {i : Nat} {K K' : Act → World → Prop} {a : Act} {w : World} (hnd : ∀ (i : Nat) o, ops[i]? = some o → ∀ c, o.op ≠ .defer c) (hQ : ¬ LetsOut Q) (hK : ∀ a w, K a w → K' a w) (h : wpOp P ops Q i K a w) : wpOpIn (Fence.wide.inRound l) n P ops Q i K' a w := by
  unfold wpOp at h
  unfold wpOpIn
  cases ho : ops[i]? with
  | none => rw [ho] at h; exact hK _ _ h
  | some o =>
    rw [ho] at h
    simp only at h ⊢
    split
    · rename_i hw
      rw [if_pos hw] at h
      rcases h with h | h
      · exact Oper.wpIn_mono hK (wpIn_of_wp (hnd i o ho) h)
      · exact absurd h.2 hQ
    · rename_i hw
      rw [if_neg hw] at h
      exact ⟨fun _ _ => trivial, hK _ _ h⟩
theorem wpAnyIn_of_wpAny {md : Region.Mode} (hnd : ∀ (i : Nat) o, ops[i]? = some o → ∀ c, o.op ≠ .defer c) (hQ : ¬ LetsOut Q) : ∀ (fuel : Nat) (listed : Array Bool) (a : Act) (w : World), wpAny P md ops Q fuel listed a w → wpAnyIn (Fence.wide.inRound l) n P md ops Q fuel listed a w
  | 0, _, _, _, h => h
  | fuel + 1, _, _, _, h => ⟨h.1, fun i hi => wpOpIn_of_wpOp hnd hQ (fun a w h => wpAnyIn_of_wpAny hnd hQ fuel _ a w h) (h.2 i hi)⟩
theorem wpListIn_of_wpList (hQ : ¬ LetsOut Q) : ∀ {rest : List Oper} {a : Act} {w : World}, (∀ o ∈ rest, ∀ c, o.op ≠ .defer c) → wpList P ops Q rest a w → wpListIn (Fence.wide.inRound l) n P ops Q rest a w
  | [], _, _, _, h => h
  | o :: rest, a, w, hnd, h => by
    unfold wpList at h
    unfold wpListIn
    split
    · rename_i hw
      rw [if_pos hw] at h
      rcases h with h | h
      · exact Oper.wpIn_mono (fun a w h => wpListIn_of_wpList hQ (fun o ho => hnd o (List.mem_cons_of_mem _ ho)) h) (wpIn_of_wp (hnd o (List.mem_cons_self ..)) h)
      · exact absurd h.2 hQ
    · rename_i hw
      rw [if_neg hw] at h
      exact ⟨fun _ _ => trivial, wpListIn_of_wpList hQ (fun o ho => hnd o (List.mem_cons_of_mem _ ho)) h⟩
/-- No operation is a defer statement. -/
def noDefer (o : Oper) : Bool := match o.op with | .defer _ => false | _ => true
theorem noDefer_all (h : ops.all noDefer = true) : ∀ (i : Nat) o, ops[i]? = some o → ∀ c, o.op ≠ .defer c := fun i o ho c hc => by
  obtain ⟨hi, e⟩ := Array.getElem?_eq_some_iff.1 ho
  have h1 := (Array.all_eq_true.1 h) i hi
  rw [e] at h1
  unfold noDefer at h1
  rw [hc] at h1
  cases h1
/-- A region that draws its order, in a round, by the laws without a fence. -/
theorem wpIn_region_held {S : World → Prop} {id : Nat} {a : Act} {w : World} (hm : P.follows .mixedOrders = true) (hnd : ops.all noDefer = true) (hQ : ¬ LetsOut Q)
    (hS : S w.drew) (h : S w.drew → wpAnyH P .any ops Q S ops.size (Array.replicate ops.size false) a w.drew) : (Code.region id ops true).wpIn (Fence.wide.inRound l) n P Q a w :=
  wpIn_region_any hm (wpAnyIn_of_wpAny (noDefer_all hnd) hQ _ _ _ _ (wpAny_of_held _ _ _ _ (h hS)))
/-- A region in its own order, in a round, by the laws without a fence. -/
theorem wpIn_region_plain {id : Nat} {a : Act} {w : World} (hQ : ¬ LetsOut Q) {rest : List Oper} (hnd : ∀ o ∈ rest, ∀ c, o.op ≠ .defer c) (h : wpList P rest.toArray Q rest a w) : (Code.region id rest.toArray false).wpIn (Fence.wide.inRound l) n P Q a w :=
  wpIn_region_lit (wpListIn_of_wpList hQ hnd h)
end
end Go.Proofs.YtbdknncmlcbbpaaDoor
