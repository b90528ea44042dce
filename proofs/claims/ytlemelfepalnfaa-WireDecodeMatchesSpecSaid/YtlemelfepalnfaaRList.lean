/-
  THE REFERENCE PACKAGE's GetBytes, GetInts, GetStrings, GetDigests, each by its contract.
-/
import Derived.Test.YtlemelfepalnfaaRGets
namespace Go.Proofs.Ytlemelfepalnfaa
open Go.RowKit WM

theorem refGetBytes (A : Option Addr) (c : Nat) (l : List UInt8) (w : World) (ha : Reads w w.heap.size 1 A l.length (bs l)) (hlc : l.length ≤ c) (hl : l.length ≤ 1000000) :
    Calls Try.prog 27 #[.slice A l.length c] w fun e w' => e = .returned (dStr (gBytes l)) ∧ Below w.heap.size w w' := by
  have hc := refCount A c 1 l w ha hlc hl (by omega) (by omega)
  cases hg : gLen 1 l with
  | more =>
    have hgl : gBytes l = .more := by unfold gBytes; rw [hg]
    rw [hgl]
    rw [hg] at hc
    simp only [dLen] at hc
    have HC := Lib.hid hc
    clear hc ha hg hgl
    go_enter Try.func27, Try.ntmps27
    go_wp2_with (go_at_call 41; refine HC.out.mono ?_; rintro e w' ⟨rfl, hb⟩; have HB := Lib.hid hb; clear hb)
    go_ret3
    exact ⟨rfl, HB.out⟩
  | form =>
    have hgl : gBytes l = .form := by unfold gBytes; rw [hg]
    rw [hgl]
    rw [hg] at hc
    simp only [dLen] at hc
    have HC := Lib.hid hc
    clear hc ha hg hgl
    go_enter Try.func27, Try.ntmps27
    go_wp2_with (go_at_call 41; refine HC.out.mono ?_; rintro e w' ⟨rfl, hb⟩; have HB := Lib.hid hb; clear hb)
    go_ret3
    exact ⟨rfl, HB.out⟩
  | ok n u =>
    obtain ⟨hr, t, he, hu, ht⟩ := gLen_ok hg (by omega)
    have hul : u + n ≤ l.length := by rw [he, hu, List.length_append]; omega
    have hgl : gBytes l = .ok ((l.drop u).take n) (u + n) := by unfold gBytes; rw [hg]
    rw [hgl]
    rw [hg] at hc
    simp only [dLen] at hc
    have HC := Lib.hid hc
    obtain ⟨A', hA', hcut⟩ := cut_lh A l.length c u (u + n) (by omega) (by omega)
    obtain ⟨s, hs⟩ : ∃ s, s = (l.drop u).take n := ⟨_, rfl⟩
    have hsl : s.length = n := by rw [hs, List.length_take, List.length_drop]; omega
    have hcv := fun (W : World) (hb : Below w.heap.size w W) => by
      have hr2 := reads_part (ha.below hb) hA' hul hlc
      rw [bs_drop, bs_take, ← hs, ← hsl] at hr2
      have := str_of s (c - u) hr2
      rw [hsl] at this
      exact this
    rw [← hs]
    have HCV := Lib.hid hcv
    rw [show u + n - u = n by omega] at hcut
    push_cast at hcut
    clear hc ha he hu hg hgl hA' ht hr hs hsl hcv
    go_enter Try.func27, Try.ntmps27
    go_wp2_with (go_at_call 41; refine HC.out.mono ?_; rintro e w' ⟨rfl, hb⟩; have hcv1 := HCV.out _ hb; have HB := Lib.hid hb; clear hb)
    go_ret3
    exact ⟨rfl, HB.out⟩

/-- The loop's relation, but for the slots. -/
def RInv {α : Type} (el sz n : Nat) (cell : α → List Value) (g : List UInt8 → Dec α) (l : List UInt8) (w : World) (d : Dec (List α)) (j u : Nat) (v : Value) (wr : World) : Prop :=
  ∃ xs : List α, xs.length = j ∧ d = comb xs u (gMany g (n - j) (l.drop u)) ∧ wr.ownsRow w.heap.size el sz v j (xs.flatMap cell) ∧ Below w.heap.size w wr

set_option maxHeartbeats 1600000 in
theorem refGetInts (A : Option Addr) (c : Nat) (l : List UInt8) (w : World) (ha : Reads w w.heap.size 1 A l.length (bs l)) (hlc : l.length ≤ c) (hl : l.length ≤ 1000000) :
    Calls Try.prog 29 #[.slice A l.length c] w (GPost 3 1 (fun x : Int => [.int .i64 x]) w (gElems 1 gInt l)) := by
  have hc := refCount A c 1 l w ha hlc hl (by omega) (by omega)
  cases hg : gLen 1 l with
  | more =>
    have hgl2 : gElems 1 gInt l = .more := by unfold gElems; rw [hg]
    rw [hgl2]
    rw [hg] at hc
    simp only [dLen] at hc
    have HC := Lib.hid hc
    clear hc ha hg hgl2
    go_enter Try.func29, Try.ntmps29
    go_wp2_with (go_at_call 41; refine HC.out.mono ?_; rintro e w' ⟨rfl, hb⟩; have HB := Lib.hid hb; clear hb)
    go_ret3
    exact ⟨rfl, HB.out⟩
  | form =>
    have hgl2 : gElems 1 gInt l = .form := by unfold gElems; rw [hg]
    rw [hgl2]
    rw [hg] at hc
    simp only [dLen] at hc
    have HC := Lib.hid hc
    clear hc ha hg hgl2
    go_enter Try.func29, Try.ntmps29
    go_wp2_with (go_at_call 41; refine HC.out.mono ?_; rintro e w' ⟨rfl, hb⟩; have HB := Lib.hid hb; clear hb)
    go_ret3
    exact ⟨rfl, HB.out⟩
  | ok n u0 =>
    obtain ⟨hr, t, he, hu, ht⟩ := gLen_ok hg (by omega)
    have hul : u0 + n * 1 ≤ l.length := by rw [he, hu, List.length_append]; omega
    rw [hg] at hc
    simp only [dLen] at hc
    obtain ⟨d, hd⟩ : ∃ d, d = gElems 1 gInt l := ⟨_, rfl⟩
    rw [← hd]
    have HD0 := Lib.hid (hd.trans (elems_comb (g := gInt) hg))
    have HC := Lib.hid hc
    have HA := Lib.hid ha
    obtain ⟨i0, hi, hz0, hz1, hz2⟩ := info_parts Try.info3
    clear hc ha hg he hu ht hr hd
    go_enter Try.func29, Try.ntmps29
    go_wp2_with (go_at_call 41; refine HC.out.mono ?_; rintro e w' ⟨rfl, hb⟩; have HB := Lib.hid hb; clear hb)
    go_loopw [6, 8, 9] (fun a o i wr => ∃ j u : Nat, j ≤ n ∧ u ≤ l.length ∧ i = .int .i64 j ∧ a = .int .i64 u ∧ RInv 3 1 n (fun x : Int => [.int .i64 x]) gInt l w d j u o wr) (fun _ _ i _ => n - (intOf i).toNat)
    case atStart => exact ⟨0, u0, Nat.zero_le _, by omega, rfl, rfl, [], rfl, HD0.out, World.ownsRow_nil _ _ _ _, HB.out⟩
    case round =>
      obtain ⟨j, u, hj, hu, rfl, rfl, hinv⟩ := hrel
      obtain ⟨xs, hxl, hd, hown, hbel⟩ := hinv
      have hsz := hbel.size
      have HO := Lib.hid hown
      have HB1 := Lib.hid hbel
      have HXL := Lib.hid hxl
      clear hown hxl
      by_cases hlt : j < n
      · obtain ⟨m, hm⟩ : ∃ m, n - j = m + 1 := ⟨n - j - 1, by omega⟩
        rw [hm] at hd
        obtain ⟨A', hA', hcut⟩ := cut_l A l.length c u hu
        have hrd := reads_part (HA.out.later hbel) hA' (show u + (l.length - u) ≤ l.length by omega) hlc
        rw [bs_drop, bs_take, List.take_of_length_le (by simp), show l.length - u = (l.drop u).length by simp] at hrd
        have hcc := refGetInt A' (c - u) (l.drop u) wr hrd (by simp; omega) (by simp; omega)
        rw [show (l.drop u).length = l.length - u by simp] at hcc
        have HM := Lib.hid hm
        cases hgr : gInt (l.drop u) with
        | more =>
          rw [hgr] at hcc
          rw [comb_more hgr] at hd
          simp only [dInt] at hcc
          have HCC := Lib.hid hcc
          subst hd
          clear hcc hrd hA' hbel hm hgr
          go_wp2_with (go_at_call 25; refine HCC.out.mono ?_; rintro e w2 ⟨rfl, hb2⟩; have HB2 := Lib.hid hb2; clear hb2)
          go_ret3
          exact ⟨rfl, HB1.out.trans (HB2.out.mono hsz)⟩
        | form =>
          rw [hgr] at hcc
          rw [comb_form hgr] at hd
          simp only [dInt] at hcc
          have HCC := Lib.hid hcc
          subst hd
          clear hcc hrd hA' hbel hm hgr
          go_wp2_with (go_at_call 25; refine HCC.out.mono ?_; rintro e w2 ⟨rfl, hb2⟩; have HB2 := Lib.hid hb2; clear hb2)
          go_ret3
          exact ⟨rfl, HB1.out.trans (HB2.out.mono hsz)⟩
        | ok x k =>
          rw [hgr] at hcc
          rw [comb_ok hgr] at hd
          have hk : u + k ≤ l.length := by
            obtain ⟨_, t, h1, h2⟩ := gInt_ok hgr
            have h3 := congrArg List.length h1
            rw [List.length_append, List.length_drop] at h3
            omega
          simp only [dInt] at hcc
          have HCC := Lib.hid hcc
          have HD := Lib.hid hd
          clear hcc hrd hA' hbel hm hgr hd
          go_wp2_with (first
            | (go_at_call 25; refine HCC.out.mono ?_; rintro e w2 ⟨rfl, hb2⟩; have HB2 := Lib.hid (HB1.out.trans (hb2.mono hsz)); have hs2 := (HB1.out.trans (hb2.mono hsz)).size; have HO2 := Lib.hid (ownsRow_below HO.out hb2); clear hb2)
            | (at_builtin; refine wpList_append_own _ rfl (.tmp 38) (.tmp 40) 22 rfl w.heap.size 3 i0 (.int .i64 0) 1 8 Try.underlying22 hi hz0 hz1 hz2 rfl (by decide) _ _ _ rfl (HO2.out.alloc _) ⟨w2.heap.size, 0, none⟩ 1 1 [.int .i64 x] rfl rfl (one_new _ _ _) (int_one _ _) (len_le (by omega)) (by omega) (by simp; omega) ?_; intro v3 w3 hown3 hgrow3 _; have HO3 := Lib.hid hown3; have HB3 := Lib.hid ((HB2.out.alloc hs2 _).grown hgrow3 (by simp; omega) (fun k hk => (HO2.out.lt k hk).1)); clear hown3 hgrow3))
          go_roundw
          case rel =>
            refine ⟨j + 1, u + k, by omega, hk, by go_num, by go_num, xs ++ [x], by simp [HXL.out], ?_, by have := HO3.out; simpa using this, HB3.out⟩
            have := HM.out
            rw [show n - (j + 1) = m by omega]; exact HD.out
          case measure => simp [intOf]; omega
      · obtain rfl : j = n := by omega
        rw [Nat.sub_self, comb_end] at hd
        subst hd
        obtain ⟨A1, c1, hv, _⟩ := own_form HO.out
        subst hv
        have hxn : xs.length = j := HXL.out
        subst hxn
        clear hbel
        go_wp2
        go_ret3
        exact ⟨A1, c1, rfl, HO.out, HB1.out⟩

set_option maxHeartbeats 1600000 in
theorem refGetStrings (A : Option Addr) (c : Nat) (l : List UInt8) (w : World) (ha : Reads w w.heap.size 1 A l.length (bs l)) (hlc : l.length ≤ c) (hl : l.length ≤ 1000000) :
    Calls Try.prog 32 #[.slice A l.length c] w (GPost 9 1 (fun x : List UInt8 => [.string ⟨x.toArray⟩]) w (gElems 1 gBytes l)) := by
  have hc := refCount A c 1 l w ha hlc hl (by omega) (by omega)
  cases hg : gLen 1 l with
  | more =>
    have hgl2 : gElems 1 gBytes l = .more := by unfold gElems; rw [hg]
    rw [hgl2]
    rw [hg] at hc
    simp only [dLen] at hc
    have HC := Lib.hid hc
    clear hc ha hg hgl2
    go_enter Try.func32, Try.ntmps32
    go_wp2_with (go_at_call 41; refine HC.out.mono ?_; rintro e w' ⟨rfl, hb⟩; have HB := Lib.hid hb; clear hb)
    go_ret3
    exact ⟨rfl, HB.out⟩
  | form =>
    have hgl2 : gElems 1 gBytes l = .form := by unfold gElems; rw [hg]
    rw [hgl2]
    rw [hg] at hc
    simp only [dLen] at hc
    have HC := Lib.hid hc
    clear hc ha hg hgl2
    go_enter Try.func32, Try.ntmps32
    go_wp2_with (go_at_call 41; refine HC.out.mono ?_; rintro e w' ⟨rfl, hb⟩; have HB := Lib.hid hb; clear hb)
    go_ret3
    exact ⟨rfl, HB.out⟩
  | ok n u0 =>
    obtain ⟨hr, t, he, hu, ht⟩ := gLen_ok hg (by omega)
    have hul : u0 + n * 1 ≤ l.length := by rw [he, hu, List.length_append]; omega
    rw [hg] at hc
    simp only [dLen] at hc
    obtain ⟨d, hd⟩ : ∃ d, d = gElems 1 gBytes l := ⟨_, rfl⟩
    rw [← hd]
    have HD0 := Lib.hid (hd.trans (elems_comb (g := gBytes) hg))
    have HC := Lib.hid hc
    have HA := Lib.hid ha
    obtain ⟨i0, hi, hz0, hz1, hz2⟩ := info_parts Try.info9
    clear hc ha hg he hu ht hr hd
    go_enter Try.func32, Try.ntmps32
    go_wp2_with (go_at_call 41; refine HC.out.mono ?_; rintro e w' ⟨rfl, hb⟩; have HB := Lib.hid hb; clear hb)
    go_loopw [6, 8, 9] (fun a o i wr => ∃ j u : Nat, j ≤ n ∧ u ≤ l.length ∧ i = .int .i64 j ∧ a = .int .i64 u ∧ RInv 9 1 n (fun x : List UInt8 => [.string ⟨x.toArray⟩]) gBytes l w d j u o wr) (fun _ _ i _ => n - (intOf i).toNat)
    case atStart => exact ⟨0, u0, Nat.zero_le _, by omega, rfl, rfl, [], rfl, HD0.out, World.ownsRow_nil _ _ _ _, HB.out⟩
    case round =>
      obtain ⟨j, u, hj, hu, rfl, rfl, hinv⟩ := hrel
      obtain ⟨xs, hxl, hd, hown, hbel⟩ := hinv
      have hsz := hbel.size
      have HO := Lib.hid hown
      have HB1 := Lib.hid hbel
      have HXL := Lib.hid hxl
      clear hown hxl
      by_cases hlt : j < n
      · obtain ⟨m, hm⟩ : ∃ m, n - j = m + 1 := ⟨n - j - 1, by omega⟩
        rw [hm] at hd
        obtain ⟨A', hA', hcut⟩ := cut_l A l.length c u hu
        have hrd := reads_part (HA.out.later hbel) hA' (show u + (l.length - u) ≤ l.length by omega) hlc
        rw [bs_drop, bs_take, List.take_of_length_le (by simp), show l.length - u = (l.drop u).length by simp] at hrd
        have hcc := refGetBytes A' (c - u) (l.drop u) wr hrd (by simp; omega) (by simp; omega)
        rw [show (l.drop u).length = l.length - u by simp] at hcc
        have HM := Lib.hid hm
        cases hgr : gBytes (l.drop u) with
        | more =>
          rw [hgr] at hcc
          rw [comb_more hgr] at hd
          simp only [dStr] at hcc
          have HCC := Lib.hid hcc
          subst hd
          clear hcc hrd hA' hbel hm hgr
          go_wp2_with (go_at_call 27; refine HCC.out.mono ?_; rintro e w2 ⟨rfl, hb2⟩; have HB2 := Lib.hid hb2; clear hb2)
          go_ret3
          exact ⟨rfl, HB1.out.trans (HB2.out.mono hsz)⟩
        | form =>
          rw [hgr] at hcc
          rw [comb_form hgr] at hd
          simp only [dStr] at hcc
          have HCC := Lib.hid hcc
          subst hd
          clear hcc hrd hA' hbel hm hgr
          go_wp2_with (go_at_call 27; refine HCC.out.mono ?_; rintro e w2 ⟨rfl, hb2⟩; have HB2 := Lib.hid hb2; clear hb2)
          go_ret3
          exact ⟨rfl, HB1.out.trans (HB2.out.mono hsz)⟩
        | ok x k =>
          rw [hgr] at hcc
          rw [comb_ok hgr] at hd
          have hk : u + k ≤ l.length := by
            obtain ⟨_, t, h1, h2⟩ := gBytes_ok hgr
            have h3 := congrArg List.length h1
            rw [List.length_append, List.length_drop] at h3
            omega
          simp only [dStr] at hcc
          have HCC := Lib.hid hcc
          have HD := Lib.hid hd
          clear hcc hrd hA' hbel hm hgr hd
          go_wp2_with (first
            | (go_at_call 27; refine HCC.out.mono ?_; rintro e w2 ⟨rfl, hb2⟩; have HB2 := Lib.hid (HB1.out.trans (hb2.mono hsz)); have hs2 := (HB1.out.trans (hb2.mono hsz)).size; have HO2 := Lib.hid (ownsRow_below HO.out hb2); clear hb2)
            | (at_builtin; refine wpList_append_own _ rfl (.tmp 38) (.tmp 40) 23 rfl w.heap.size 9 i0 (.string ByteArray.empty) 1 16 Try.underlying23 hi hz0 hz1 hz2 rfl (by decide) _ _ _ rfl (HO2.out.alloc _) ⟨w2.heap.size, 0, none⟩ 1 1 [.string ⟨x.toArray⟩] rfl rfl (one_new _ _ _) (str_one _) (len_le (by omega)) (by omega) (by simp; omega) ?_; intro v3 w3 hown3 hgrow3 _; have HO3 := Lib.hid hown3; have HB3 := Lib.hid ((HB2.out.alloc hs2 _).grown hgrow3 (by simp; omega) (fun k hk => (HO2.out.lt k hk).1)); clear hown3 hgrow3))
          go_roundw
          case rel =>
            refine ⟨j + 1, u + k, by omega, hk, by go_num, by go_num, xs ++ [x], by simp [HXL.out], ?_, by have := HO3.out; simpa using this, HB3.out⟩
            have := HM.out
            rw [show n - (j + 1) = m by omega]; exact HD.out
          case measure => simp [intOf]; omega
      · obtain rfl : j = n := by omega
        rw [Nat.sub_self, comb_end] at hd
        subst hd
        obtain ⟨A1, c1, hv, _⟩ := own_form HO.out
        subst hv
        have hxn : xs.length = j := HXL.out
        subst hxn
        clear hbel
        go_wp2
        go_ret3
        exact ⟨A1, c1, rfl, HO.out, HB1.out⟩

end Go.Proofs.Ytlemelfepalnfaa
