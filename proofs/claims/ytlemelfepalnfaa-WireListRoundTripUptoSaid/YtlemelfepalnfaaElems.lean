/-
  wire.getElements at each of its three closures, by its contract; GetInts, GetStrings, GetDigests.
-/
import Derived.Test.YtlemelfepalnfaaCloD
namespace Go.Proofs.Ytlemelfepalnfaa
open Go.RowKit WM

/-- What has been gathered, put before what is still to come. -/
def comb {α : Type} (xs : List α) (u : Nat) : Dec (List α) → Dec (List α)
  | .ok ys k => .ok (xs ++ ys) (u + k)
  | .more => .more
  | .form => .form
theorem comb_more {α : Type} {g : List UInt8 → Dec α} {xs : List α} {u m : Nat} {l : List UInt8} (h : g l = .more) : comb xs u (gMany g (m + 1) l) = .more := by simp only [gMany, h, comb]
theorem comb_form {α : Type} {g : List UInt8 → Dec α} {xs : List α} {u m : Nat} {l : List UInt8} (h : g l = .form) : comb xs u (gMany g (m + 1) l) = .form := by simp only [gMany, h, comb]
theorem comb_ok {α : Type} {g : List UInt8 → Dec α} {xs : List α} {u m k : Nat} {l : List UInt8} {x : α} (h : g (l.drop u) = .ok x k) : comb xs u (gMany g (m + 1) (l.drop u)) = comb (xs ++ [x]) (u + k) (gMany g m (l.drop (u + k))) := by
  simp only [gMany, h, List.drop_drop]
  cases gMany g m (l.drop (u + k)) <;> simp [comb, Nat.add_assoc]
theorem comb_end {α : Type} {g : List UInt8 → Dec α} {xs : List α} {u : Nat} {l : List UInt8} : comb xs u (gMany g 0 l) = .ok xs u := by simp [gMany, comb]
theorem elems_comb {α : Type} {g : List UInt8 → Dec α} {least n u : Nat} {l : List UInt8} (h : gLen least l = .ok n u) : gElems least g l = comb [] u (gMany g n (l.drop u)) := by
  unfold gElems
  rw [h]
  simp only []
  cases gMany g n (l.drop u) <;> simp [comb]

/-- What getElements leaves. -/
def EPost {α : Type} (ty el sz B gl : Nat) (cell : α → List Value) (w : World) (d : Dec (List α)) (e : Ending) (w' : World) : Prop :=
  match d with
  | .more => e = .returned (.tuple #[.int .i64 0, .int .i64 3]) ∧ Below B w w'
  | .form => e = .returned (.tuple #[.int .i64 0, .int .i64 2]) ∧ Below B w w'
  | .ok xs u => e = .returned (.tuple #[.int .i64 (u : Int), .int .i64 0]) ∧ Below B w w' ∧ ∃ v, w'.heap[gl]? = some (.cells #[v] ty (0, 0)) ∧ w'.ownsRow B el sz v xs.length (xs.flatMap cell)

/-- The loop's relation, but for the slots. -/
def EInv {α : Type} (ty el sz B gl n : Nat) (cell : α → List Value) (g : List UInt8 → Dec α) (l : List UInt8) (w : World) (d : Dec (List α)) (j u : Nat) (wr : World) : Prop :=
  ∃ (xs : List α) (v : Value), xs.length = j ∧ d = comb xs u (gMany g (n - j) (l.drop u)) ∧ wr.heap[gl]? = some (.cells #[v] ty (0, 0)) ∧ wr.ownsRow B el sz v j (xs.flatMap cell) ∧ Below B w wr

set_option maxHeartbeats 800000 in
theorem elemsI (B gl : Nat) (A : Option Addr) (c : Nat) (l : List UInt8) (w : World) (ha : Reads w B 1 A l.length (bs l)) (hlc : l.length ≤ c) (hl : l.length ≤ 1000000)
    (hgl : w.heap[gl]? = some (.cells #[.slice none 0 0] 22 (0, 0))) (hBg : B ≤ gl) :
    Calls Try.prog 42 #[.slice A l.length c, .int .i64 1, .func (.func 43) #[] #[.pointer (some ⟨gl, 0, none⟩)]] w (EPost 22 3 1 B gl (fun x : Int => [.int .i64 x]) w (gElems 1 gInt l)) := by
  have hc := getLen B A c 1 l w ha hlc (by omega) (by omega) (by omega)
  have hglt := lt_of_block hgl
  cases hg : gLen 1 l with
  | more =>
    have hgl2 : gElems 1 gInt l = .more := by unfold gElems; rw [hg]
    rw [hgl2]
    rw [hg] at hc
    simp only [dLen] at hc
    have HC := Lib.hid hc
    clear hc ha hg hgl2 hgl
    go_enter Try.func42, Try.ntmps42
    go_wp2_with (go_at_call 40; refine HC.out.mono ?_; rintro e w' ⟨rfl, rfl⟩)
    go_ret2
    exact ⟨rfl, Below.refl _ _⟩
  | form =>
    have hgl2 : gElems 1 gInt l = .form := by unfold gElems; rw [hg]
    rw [hgl2]
    rw [hg] at hc
    simp only [dLen] at hc
    have HC := Lib.hid hc
    clear hc ha hg hgl2 hgl
    go_enter Try.func42, Try.ntmps42
    go_wp2_with (go_at_call 40; refine HC.out.mono ?_; rintro e w' ⟨rfl, rfl⟩)
    go_ret2
    exact ⟨rfl, Below.refl _ _⟩
  | ok n u0 =>
    obtain ⟨hr, t, he, hu, ht⟩ := gLen_ok hg (by omega)
    have hul : u0 + n * 1 ≤ l.length := by rw [he, hu, List.length_append]; omega
    rw [hg] at hc
    simp only [dLen] at hc
    obtain ⟨d, hd⟩ : ∃ d, d = gElems 1 gInt l := ⟨_, rfl⟩
    rw [← hd]
    have hd2 := hd.trans (elems_comb (g := gInt) hg)
    have HC := Lib.hid hc
    have HA := Lib.hid ha
    have HS := Lib.hid (show EInv 22 3 1 B gl n (fun x : Int => [.int .i64 x]) gInt l w d 0 u0 w from ⟨[], _, rfl, hd2, hgl, World.ownsRow_nil _ _ _ _, Below.refl _ _⟩)
    clear hc ha hg hgl he hu ht hr hd hd2
    go_enter Try.func42, Try.ntmps42
    go_wp2_with (go_at_call 40; refine HC.out.mono ?_; rintro e w' ⟨rfl, rfl⟩)
    go_loopw [9, 24] (fun a i wr => ∃ j u : Nat, j ≤ n ∧ u ≤ l.length ∧ i = .int .i64 j ∧ a = .int .i64 u ∧ EInv 22 3 1 B gl n (fun x : Int => [.int .i64 x]) gInt l w d j u wr) (fun _ i _ => n - (intOf i).toNat)
    case atStart => exact ⟨0, u0, Nat.zero_le _, by omega, rfl, rfl, HS.out⟩
    case round =>
      obtain ⟨j, u, hj, hu, rfl, rfl, hinv⟩ := hrel
      obtain ⟨xs, v, hxl, hd, hv, hown, hbel⟩ := hinv
      by_cases hlt : j < n
      · obtain ⟨m, hm⟩ : ∃ m, n - j = m + 1 := ⟨n - j - 1, by omega⟩
        rw [hm] at hd
        obtain ⟨A', hA', hcut⟩ := cut_l A l.length c u hu
        have hrd := reads_part (HA.out.below hbel) hA' (show u + (l.length - u) ≤ l.length by omega) hlc
        rw [bs_drop, bs_take, List.take_of_length_le (by simp), show l.length - u = (l.drop u).length by simp] at hrd
        have hcc := clo43 B B gl A' (c - u) j (l.drop u) v _ wr hrd (by simp; omega) (by simp; omega) hv hown (by omega) hBg
        rw [show (l.drop u).length = l.length - u by simp] at hcc
        have HB := Lib.hid hbel
        have HXL := Lib.hid hxl
        have HM := Lib.hid hm
        cases hgr : gInt (l.drop u) with
        | more =>
          rw [hgr] at hcc
          rw [comb_more hgr] at hd
          have HCC := Lib.hid hcc
          subst hd
          clear hcc hrd hA' hv hown hbel hxl hm hgr
          go_wp2_with (go_at_call 43; refine HCC.out.mono ?_; rintro e w2 ⟨rfl, hb2⟩; have HB2 := Lib.hid hb2; clear hb2)
          go_ret2
          exact ⟨rfl, HB.out.trans HB2.out⟩
        | form =>
          rw [hgr] at hcc
          rw [comb_form hgr] at hd
          have HCC := Lib.hid hcc
          subst hd
          clear hcc hrd hA' hv hown hbel hxl hm hgr
          go_wp2_with (go_at_call 43; refine HCC.out.mono ?_; rintro e w2 ⟨rfl, hb2⟩; have HB2 := Lib.hid hb2; clear hb2)
          go_ret2
          exact ⟨rfl, HB.out.trans HB2.out⟩
        | ok x k =>
          rw [hgr] at hcc
          rw [comb_ok hgr] at hd
          have hk : u + k ≤ l.length := by
            obtain ⟨_, t, h1, h2⟩ := gInt_ok hgr
            have h3 := congrArg List.length h1
            rw [List.length_append, List.length_drop] at h3
            omega
          have HCC := Lib.hid hcc
          have HD := Lib.hid hd
          skip
          skip
          clear hcc hrd hA' hv hown hbel hxl hm hgr hd
          go_wp2_with (go_at_call 43; refine HCC.out.mono ?_; rintro e w2 ⟨rfl, hb2, v2, hv2, hown2⟩; have HB2 := Lib.hid hb2; have HV2 := Lib.hid hv2; have HO2 := Lib.hid hown2; clear hb2 hv2 hown2)
          go_roundw
          case rel =>
            refine ⟨j + 1, u + k, by omega, hk, by go_num, by go_num, xs ++ [x], v2, by simp [HXL.out], ?_, HV2.out, ?_, HB.out.trans HB2.out⟩
            · have := HM.out
              rw [show n - (j + 1) = m by omega]; exact HD.out
            · have := HO2.out; simpa using this
          case measure => simp [intOf]; omega
      · obtain rfl : j = n := by omega
        rw [Nat.sub_self, comb_end] at hd
        subst hd
        have HB := Lib.hid hbel
        have HV := Lib.hid hv
        have HO := Lib.hid hown
        have HXL := Lib.hid hxl
        clear hbel hv hown hxl
        go_wp2
        go_ret2
        exact ⟨rfl, HB.out, v, HV.out, by rw [HXL.out]; exact HO.out⟩

set_option maxHeartbeats 800000 in
theorem elemsS (B gl : Nat) (A : Option Addr) (c : Nat) (l : List UInt8) (w : World) (ha : Reads w B 1 A l.length (bs l)) (hlc : l.length ≤ c) (hl : l.length ≤ 1000000)
    (hgl : w.heap[gl]? = some (.cells #[.slice none 0 0] 23 (0, 0))) (hBg : B ≤ gl) :
    Calls Try.prog 42 #[.slice A l.length c, .int .i64 1, .func (.func 44) #[] #[.pointer (some ⟨gl, 0, none⟩)]] w (EPost 23 9 1 B gl (fun x : List UInt8 => [.string ⟨x.toArray⟩]) w (gElems 1 gBytes l)) := by
  have hc := getLen B A c 1 l w ha hlc (by omega) (by omega) (by omega)
  have hglt := lt_of_block hgl
  cases hg : gLen 1 l with
  | more =>
    have hgl2 : gElems 1 gBytes l = .more := by unfold gElems; rw [hg]
    rw [hgl2]
    rw [hg] at hc
    simp only [dLen] at hc
    have HC := Lib.hid hc
    clear hc ha hg hgl2 hgl
    go_enter Try.func42, Try.ntmps42
    go_wp2_with (go_at_call 40; refine HC.out.mono ?_; rintro e w' ⟨rfl, rfl⟩)
    go_ret2
    exact ⟨rfl, Below.refl _ _⟩
  | form =>
    have hgl2 : gElems 1 gBytes l = .form := by unfold gElems; rw [hg]
    rw [hgl2]
    rw [hg] at hc
    simp only [dLen] at hc
    have HC := Lib.hid hc
    clear hc ha hg hgl2 hgl
    go_enter Try.func42, Try.ntmps42
    go_wp2_with (go_at_call 40; refine HC.out.mono ?_; rintro e w' ⟨rfl, rfl⟩)
    go_ret2
    exact ⟨rfl, Below.refl _ _⟩
  | ok n u0 =>
    obtain ⟨hr, t, he, hu, ht⟩ := gLen_ok hg (by omega)
    have hul : u0 + n * 1 ≤ l.length := by rw [he, hu, List.length_append]; omega
    rw [hg] at hc
    simp only [dLen] at hc
    obtain ⟨d, hd⟩ : ∃ d, d = gElems 1 gBytes l := ⟨_, rfl⟩
    rw [← hd]
    have hd2 := hd.trans (elems_comb (g := gBytes) hg)
    have HC := Lib.hid hc
    have HA := Lib.hid ha
    have HS := Lib.hid (show EInv 23 9 1 B gl n (fun x : List UInt8 => [.string ⟨x.toArray⟩]) gBytes l w d 0 u0 w from ⟨[], _, rfl, hd2, hgl, World.ownsRow_nil _ _ _ _, Below.refl _ _⟩)
    clear hc ha hg hgl he hu ht hr hd hd2
    go_enter Try.func42, Try.ntmps42
    go_wp2_with (go_at_call 40; refine HC.out.mono ?_; rintro e w' ⟨rfl, rfl⟩)
    go_loopw [9, 24] (fun a i wr => ∃ j u : Nat, j ≤ n ∧ u ≤ l.length ∧ i = .int .i64 j ∧ a = .int .i64 u ∧ EInv 23 9 1 B gl n (fun x : List UInt8 => [.string ⟨x.toArray⟩]) gBytes l w d j u wr) (fun _ i _ => n - (intOf i).toNat)
    case atStart => exact ⟨0, u0, Nat.zero_le _, by omega, rfl, rfl, HS.out⟩
    case round =>
      obtain ⟨j, u, hj, hu, rfl, rfl, hinv⟩ := hrel
      obtain ⟨xs, v, hxl, hd, hv, hown, hbel⟩ := hinv
      by_cases hlt : j < n
      · obtain ⟨m, hm⟩ : ∃ m, n - j = m + 1 := ⟨n - j - 1, by omega⟩
        rw [hm] at hd
        obtain ⟨A', hA', hcut⟩ := cut_l A l.length c u hu
        have hrd := reads_part (HA.out.below hbel) hA' (show u + (l.length - u) ≤ l.length by omega) hlc
        rw [bs_drop, bs_take, List.take_of_length_le (by simp), show l.length - u = (l.drop u).length by simp] at hrd
        have hcc := clo44 B B gl A' (c - u) j (l.drop u) v _ wr hrd (by simp; omega) (by simp; omega) hv hown (by omega) hBg
        rw [show (l.drop u).length = l.length - u by simp] at hcc
        have HB := Lib.hid hbel
        have HXL := Lib.hid hxl
        have HM := Lib.hid hm
        cases hgr : gBytes (l.drop u) with
        | more =>
          rw [hgr] at hcc
          rw [comb_more hgr] at hd
          have HCC := Lib.hid hcc
          subst hd
          clear hcc hrd hA' hv hown hbel hxl hm hgr
          go_wp2_with (go_at_call 44; refine HCC.out.mono ?_; rintro e w2 ⟨rfl, hb2⟩; have HB2 := Lib.hid hb2; clear hb2)
          go_ret2
          exact ⟨rfl, HB.out.trans HB2.out⟩
        | form =>
          rw [hgr] at hcc
          rw [comb_form hgr] at hd
          have HCC := Lib.hid hcc
          subst hd
          clear hcc hrd hA' hv hown hbel hxl hm hgr
          go_wp2_with (go_at_call 44; refine HCC.out.mono ?_; rintro e w2 ⟨rfl, hb2⟩; have HB2 := Lib.hid hb2; clear hb2)
          go_ret2
          exact ⟨rfl, HB.out.trans HB2.out⟩
        | ok x k =>
          rw [hgr] at hcc
          rw [comb_ok hgr] at hd
          have hk : u + k ≤ l.length := by
            obtain ⟨_, t, h1, h2⟩ := gBytes_ok hgr
            have h3 := congrArg List.length h1
            rw [List.length_append, List.length_drop] at h3
            omega
          have HCC := Lib.hid hcc
          have HD := Lib.hid hd
          skip
          skip
          clear hcc hrd hA' hv hown hbel hxl hm hgr hd
          go_wp2_with (go_at_call 44; refine HCC.out.mono ?_; rintro e w2 ⟨rfl, hb2, v2, hv2, hown2⟩; have HB2 := Lib.hid hb2; have HV2 := Lib.hid hv2; have HO2 := Lib.hid hown2; clear hb2 hv2 hown2)
          go_roundw
          case rel =>
            refine ⟨j + 1, u + k, by omega, hk, by go_num, by go_num, xs ++ [x], v2, by simp [HXL.out], ?_, HV2.out, ?_, HB.out.trans HB2.out⟩
            · have := HM.out
              rw [show n - (j + 1) = m by omega]; exact HD.out
            · have := HO2.out; simpa using this
          case measure => simp [intOf]; omega
      · obtain rfl : j = n := by omega
        rw [Nat.sub_self, comb_end] at hd
        subst hd
        have HB := Lib.hid hbel
        have HV := Lib.hid hv
        have HO := Lib.hid hown
        have HXL := Lib.hid hxl
        clear hbel hv hown hxl
        go_wp2
        go_ret2
        exact ⟨rfl, HB.out, v, HV.out, by rw [HXL.out]; exact HO.out⟩

set_option maxHeartbeats 800000 in
theorem elemsD (B gl : Nat) (A : Option Addr) (c : Nat) (l : List UInt8) (w : World) (ha : Reads w B 1 A l.length (bs l)) (hlc : l.length ≤ c) (hl : l.length ≤ 1000000)
    (hgl : w.heap[gl]? = some (.cells #[.slice none 0 0] 24 (0, 0))) (hBg : B ≤ gl) :
    Calls Try.prog 42 #[.slice A l.length c, .int .i64 16, .func (.func 45) #[] #[.pointer (some ⟨gl, 0, none⟩)]] w (EPost 24 57 16 B gl (fun x : List UInt8 => bs x) w (gElems 16 gDig l)) := by
  have hc := getLen B A c 16 l w ha hlc (by omega) (by omega) (by omega)
  have hglt := lt_of_block hgl
  cases hg : gLen 16 l with
  | more =>
    have hgl2 : gElems 16 gDig l = .more := by unfold gElems; rw [hg]
    rw [hgl2]
    rw [hg] at hc
    simp only [dLen] at hc
    have HC := Lib.hid hc
    clear hc ha hg hgl2 hgl
    go_enter Try.func42, Try.ntmps42
    go_wp2_with (go_at_call 40; refine HC.out.mono ?_; rintro e w' ⟨rfl, rfl⟩)
    go_ret2
    exact ⟨rfl, Below.refl _ _⟩
  | form =>
    have hgl2 : gElems 16 gDig l = .form := by unfold gElems; rw [hg]
    rw [hgl2]
    rw [hg] at hc
    simp only [dLen] at hc
    have HC := Lib.hid hc
    clear hc ha hg hgl2 hgl
    go_enter Try.func42, Try.ntmps42
    go_wp2_with (go_at_call 40; refine HC.out.mono ?_; rintro e w' ⟨rfl, rfl⟩)
    go_ret2
    exact ⟨rfl, Below.refl _ _⟩
  | ok n u0 =>
    obtain ⟨hr, t, he, hu, ht⟩ := gLen_ok hg (by omega)
    have hul : u0 + n * 16 ≤ l.length := by rw [he, hu, List.length_append]; omega
    rw [hg] at hc
    simp only [dLen] at hc
    obtain ⟨d, hd⟩ : ∃ d, d = gElems 16 gDig l := ⟨_, rfl⟩
    rw [← hd]
    have hd2 := hd.trans (elems_comb (g := gDig) hg)
    have HC := Lib.hid hc
    have HA := Lib.hid ha
    have HS := Lib.hid (show EInv 24 57 16 B gl n (fun x : List UInt8 => bs x) gDig l w d 0 u0 w from ⟨[], _, rfl, hd2, hgl, World.ownsRow_nil _ _ _ _, Below.refl _ _⟩)
    clear hc ha hg hgl he hu ht hr hd hd2
    go_enter Try.func42, Try.ntmps42
    go_wp2_with (go_at_call 40; refine HC.out.mono ?_; rintro e w' ⟨rfl, rfl⟩)
    go_loopw [9, 24] (fun a i wr => ∃ j u : Nat, j ≤ n ∧ u ≤ l.length ∧ i = .int .i64 j ∧ a = .int .i64 u ∧ u + 16 * (n - j) ≤ l.length ∧ EInv 24 57 16 B gl n (fun x : List UInt8 => bs x) gDig l w d j u wr) (fun _ i _ => n - (intOf i).toNat)
    case atStart => exact ⟨0, u0, Nat.zero_le _, by omega, rfl, rfl, by omega, HS.out⟩
    case round =>
      obtain ⟨j, u, hj, hu, rfl, rfl, hx, hinv⟩ := hrel
      obtain ⟨xs, v, hxl, hd, hv, hown, hbel⟩ := hinv
      by_cases hlt : j < n
      · obtain ⟨m, hm⟩ : ∃ m, n - j = m + 1 := ⟨n - j - 1, by omega⟩
        rw [hm] at hd
        obtain ⟨A', hA', hcut⟩ := cut_l A l.length c u hu
        have hrd := reads_part (HA.out.below hbel) hA' (show u + (l.length - u) ≤ l.length by omega) hlc
        rw [bs_drop, bs_take, List.take_of_length_le (by simp), show l.length - u = (l.drop u).length by simp] at hrd
        have hcc := clo45 B gl A' (c - u) j (l.drop u) v _ wr (hrd.more (by have := hbel.size; omega)) (by simp; omega) (by simp; omega) hv hown (by omega) hBg
        rw [show (l.drop u).length = l.length - u by simp] at hcc
        have HB := Lib.hid hbel
        have HXL := Lib.hid hxl
        have HM := Lib.hid hm
        cases hgr : gDig (l.drop u) with
        | more =>
          rw [hgr] at hcc
          rw [comb_more hgr] at hd
          have HCC := Lib.hid hcc
          subst hd
          clear hcc hrd hA' hv hown hbel hxl hm hgr
          go_wp2_with (go_at_call 45; refine HCC.out.mono ?_; rintro e w2 ⟨rfl, hb2⟩; have HB2 := Lib.hid hb2; clear hb2)
          go_ret2
          exact ⟨rfl, HB.out.trans HB2.out⟩
        | form =>
          rw [hgr] at hcc
          rw [comb_form hgr] at hd
          have HCC := Lib.hid hcc
          subst hd
          clear hcc hrd hA' hv hown hbel hxl hm hgr
          go_wp2_with (go_at_call 45; refine HCC.out.mono ?_; rintro e w2 ⟨rfl, hb2⟩; have HB2 := Lib.hid hb2; clear hb2)
          go_ret2
          exact ⟨rfl, HB.out.trans HB2.out⟩
        | ok x k =>
          rw [hgr] at hcc
          rw [comb_ok hgr] at hd
          have hk : u + k ≤ l.length := by
            simp only [gDig] at hgr
            injection hgr with _ h2
            omega
          have HCC := Lib.hid hcc
          have HD := Lib.hid hd
          have hk16 : k = 16 := by simp only [gDig] at hgr; injection hgr with _ h2; exact h2.symm
          subst hk16
          clear hcc hrd hA' hv hown hbel hxl hm hgr hd
          go_wp2_with (go_at_call 45; refine HCC.out.mono ?_; rintro e w2 ⟨rfl, hb2, v2, hv2, hown2⟩; have HB2 := Lib.hid hb2; have HV2 := Lib.hid hv2; have HO2 := Lib.hid hown2; clear hb2 hv2 hown2)
          go_roundw
          case rel =>
            refine ⟨j + 1, u + 16, by omega, hk, by go_num, by go_num, by omega, xs ++ [x], v2, by simp [HXL.out], ?_, HV2.out, ?_, HB.out.trans HB2.out⟩
            · have := HM.out
              rw [show n - (j + 1) = m by omega]; exact HD.out
            · have := HO2.out; simpa using this
          case measure => simp [intOf]; omega
      · obtain rfl : j = n := by omega
        rw [Nat.sub_self, comb_end] at hd
        subst hd
        have HB := Lib.hid hbel
        have HV := Lib.hid hv
        have HO := Lib.hid hown
        have HXL := Lib.hid hxl
        clear hbel hv hown hxl
        go_wp2
        go_ret2
        exact ⟨rfl, HB.out, v, HV.out, by rw [HXL.out]; exact HO.out⟩

end Go.Proofs.Ytlemelfepalnfaa
