/-
  THE REFERENCE PACKAGE's count, by its contract.
-/
import Derived.Test.YtbdknncmlcbbpaaDoorG40
import Derived.Test.YtbdknncmlcbbpaaDoorG37
set_option linter.unusedVariables false
namespace Go.Proofs.YtbdknncmlcbbpaaDoor
open Go.RowKit WM

theorem refCount (A : Option Addr) (c least : Nat) (l : List UInt8) (w : World) (ha : Reads w w.heap.size 1 A l.length (bs l)) (hlc : l.length ≤ c) (hl : l.length ≤ 1000000) (h0 : 0 < least) (h1 : least ≤ 1000) :
    Calls Tryd.prog 71 #[.slice A l.length c, .int .i64 (least : Int)] w fun e w' => e = .returned (dLen (gLen least l)) ∧ Below w.heap.size w w' := by
  have hc := refGetInt A c l w ha hlc hl
  cases hg : gInt l with
  | more =>
    have hgl : gLen least l = .more := by unfold gLen; rw [hg]
    rw [hgl]
    rw [hg] at hc
    simp only [dInt] at hc
    have HC := Lib.hid hc
    clear hc ha hg hgl
    go_enter Tryd.func71, Tryd.ntmps71
    go_wp2_with (go_at_call 52; refine HC.out.mono ?_; rintro e w' ⟨rfl, hb⟩; have HB := Lib.hid hb; clear hb)
    go_ret3
    exact ⟨rfl, HB.out⟩
  | form =>
    have hgl : gLen least l = .form := by unfold gLen; rw [hg]
    rw [hgl]
    rw [hg] at hc
    simp only [dInt] at hc
    have HC := Lib.hid hc
    clear hc ha hg hgl
    go_enter Tryd.func71, Tryd.ntmps71
    go_wp2_with (go_at_call 52; refine HC.out.mono ?_; rintro e w' ⟨rfl, hb⟩; have HB := Lib.hid hb; clear hb)
    go_ret3
    exact ⟨rfl, HB.out⟩
  | ok n u =>
    obtain ⟨hr, t, he, hu⟩ := gInt_ok hg
    have hul : u ≤ l.length := by rw [he, hu, List.length_append]; omega
    have h9 := enc_len hr
    rw [← hu] at h9
    obtain ⟨hu1, hu9⟩ := h9
    obtain ⟨hr1, hr2⟩ := hr
    rw [hg] at hc
    simp only [dInt] at hc
    have HC := Lib.hid hc
    have HG := Lib.hid hg
    clear hc ha he hu hg
    by_cases hn : n < 0
    · have hgl : gLen least l = .form := by unfold gLen; rw [HG.out]; simp only []; rw [if_pos hn]
      rw [hgl]
      clear hgl
      go_enter Tryd.func71, Tryd.ntmps71
      go_wp2_with (go_at_call 52; refine HC.out.mono ?_; rintro e w' ⟨rfl, hb⟩; have HB := Lib.hid hb; clear hb)
      go_ret3
      exact ⟨rfl, HB.out⟩
    · obtain ⟨m, rfl⟩ := Int.eq_ofNat_of_zero_le (show 0 ≤ n by omega)
      have hdiv := Nat.le_div_iff_mul_le (x := m) (y := l.length - u) h0
      by_cases hm1 : l.length < m
      · have hm : (l.length - u) / least < m := by
          have : (l.length - u) / least ≤ l.length - u := Nat.div_le_self _ _
          omega
        have hgl : gLen least l = .more := by unfold gLen; rw [HG.out]; simp only []; rw [if_neg hn, if_pos (by omega)]
        rw [hgl]
        clear hgl hm hdiv
        go_enter Tryd.func71, Tryd.ntmps71
        go_wp2_with (go_at_call 52; refine HC.out.mono ?_; rintro e w' ⟨rfl, hb⟩; have HB := Lib.hid hb; clear hb)
        go_ret3
        exact ⟨rfl, HB.out⟩
      · obtain ⟨P, hP⟩ : ∃ P, P = m * least := ⟨_, rfl⟩
        have hPb : P ≤ 1000000 * 1000 := by rw [hP]; exact Nat.mul_le_mul (by omega) h1
        have hPi : (m : Int) * (least : Int) = (P : Int) := by rw [hP]; simp
        have hw : IntKind.i64.wrap ((m : Int) * (least : Int)) = (P : Int) := by rw [hPi]; exact IntWalk.i64_in _ (by omega)
        by_cases hm : l.length - u < P
        · have hgl : gLen least l = .more := by
            unfold gLen; rw [HG.out]; simp only []; rw [if_neg hn, if_pos]
            have : ¬ m ≤ (l.length - u) / least := by rw [hdiv]; omega
            omega
          rw [hgl]
          have hq : (l.length : Int) - (u : Int) < (P : Int) := by omega
          clear hgl hdiv hP
          go_enter Tryd.func71, Tryd.ntmps71
          go_wp2_with (go_at_call 52; refine HC.out.mono ?_; rintro e w' ⟨rfl, hb⟩; have HB := Lib.hid hb; clear hb)
          go_ret3
          exact ⟨rfl, HB.out⟩
        · have hgl : gLen least l = .ok m u := by
            unfold gLen; rw [HG.out]; simp only []; rw [if_neg hn, if_neg]
            · simp
            · have : m ≤ (l.length - u) / least := hdiv.2 (by omega)
              omega
          rw [hgl]
          have hq : (P : Int) ≤ (l.length : Int) - (u : Int) := by omega
          clear hgl hdiv hP
          go_enter Tryd.func71, Tryd.ntmps71
          go_wp2_with (go_at_call 52; refine HC.out.mono ?_; rintro e w' ⟨rfl, hb⟩; have HB := Lib.hid hb; clear hb)
          go_ret3
          exact ⟨rfl, HB.out⟩

end Go.Proofs.YtbdknncmlcbbpaaDoor

/-
  THE REFERENCE PACKAGE's GetInts, by its contract.
-/
namespace Go.Proofs.YtbdknncmlcbbpaaDoor
open Go.RowKit WM
/-- The loop's relation, but for the slots. -/
def RInv {α : Type} (el sz n : Nat) (cell : α → List Value) (g : List UInt8 → Dec α) (l : List UInt8) (w : World) (d : Dec (List α)) (j u : Nat) (v : Value) (wr : World) : Prop :=
  ∃ xs : List α, xs.length = j ∧ d = comb xs u (gMany g (n - j) (l.drop u)) ∧ wr.ownsRow w.heap.size el sz v j (xs.flatMap cell) ∧ Below w.heap.size w wr

set_option maxHeartbeats 1600000 in
theorem refGetInts (A : Option Addr) (c : Nat) (l : List UInt8) (w : World) (ha : Reads w w.heap.size 1 A l.length (bs l)) (hlc : l.length ≤ c) (hl : l.length ≤ 1000000) :
    Calls Tryd.prog 53 #[.slice A l.length c] w (GPost 3 1 (fun x : Int => [.int .i64 x]) w (gElems 1 gInt l)) := by
  have hc := refCount A c 1 l w ha hlc hl (by omega) (by omega)
  cases hg : gLen 1 l with
  | more =>
    have hgl2 : gElems 1 gInt l = .more := by unfold gElems; rw [hg]
    rw [hgl2]
    rw [hg] at hc
    simp only [dLen] at hc
    have HC := Lib.hid hc
    clear hc ha hg hgl2
    go_enter Tryd.func53, Tryd.ntmps53
    go_wp2_with (go_at_call 71; refine HC.out.mono ?_; rintro e w' ⟨rfl, hb⟩; have HB := Lib.hid hb; clear hb)
    go_ret3
    exact ⟨rfl, HB.out⟩
  | form =>
    have hgl2 : gElems 1 gInt l = .form := by unfold gElems; rw [hg]
    rw [hgl2]
    rw [hg] at hc
    simp only [dLen] at hc
    have HC := Lib.hid hc
    clear hc ha hg hgl2
    go_enter Tryd.func53, Tryd.ntmps53
    go_wp2_with (go_at_call 71; refine HC.out.mono ?_; rintro e w' ⟨rfl, hb⟩; have HB := Lib.hid hb; clear hb)
    go_ret3
    exact ⟨rfl, HB.out⟩
  | ok n u0 =>
    obtain ⟨hr, t, he, hu, ht⟩ := gLen_ok hg (by omega)
    have hul : u0 + n * 1 ≤ l.length := by rw [he, hu, List.length_append]; omega
    rw [hg] at hc
    simp only [dLen] at hc
    obtain ⟨d, hd⟩ : ∃ d, d = gElems 1 gInt l := ⟨_, rfl⟩
    rw [← hd]
    have HD0 := Lib.hid (hd.trans (elems_comb (g := gInt) hg))
    have HC := Lib.hid hc
    have HA := Lib.hid ha
    obtain ⟨i0, hi, hz0, hz1, hz2⟩ := info_parts Tryd.info3G
    clear hc ha hg he hu ht hr hd
    go_enter Tryd.func53, Tryd.ntmps53
    go_wp2_with (go_at_call 71; refine HC.out.mono ?_; rintro e w' ⟨rfl, hb⟩; have HB := Lib.hid hb; clear hb)
    go_loopw [6, 8, 9] (fun a o i wr => ∃ j u : Nat, j ≤ n ∧ u ≤ l.length ∧ i = .int .i64 j ∧ a = .int .i64 u ∧ RInv 3 1 n (fun x : Int => [.int .i64 x]) gInt l w d j u o wr) (fun _ _ i _ => n - (intOf i).toNat)
    case atStart => exact ⟨0, u0, Nat.zero_le _, by omega, rfl, rfl, [], rfl, HD0.out, World.ownsRow_nil _ _ _ _, HB.out⟩
    case round =>
      obtain ⟨j, u, hj, hu, rfl, rfl, hinv⟩ := hrel
      obtain ⟨xs, hxl, hd, hown, hbel⟩ := hinv
      have hsz := hbel.size
      have HO := Lib.hid hown
      have HB1 := Lib.hid hbel
      have HXL := Lib.hid hxl
      clear hown hxl
      by_cases hlt : j < n
      · obtain ⟨m, hm⟩ : ∃ m, n - j = m + 1 := ⟨n - j - 1, by omega⟩
        rw [hm] at hd
        obtain ⟨A', hA', hcut⟩ := cut_l A l.length c u hu
        have hrd := reads_part (HA.out.later hbel) hA' (show u + (l.length - u) ≤ l.length by omega) hlc
        rw [bs_drop, bs_take, List.take_of_length_le (by simp), show l.length - u = (l.drop u).length by simp] at hrd
        have hcc := refGetInt A' (c - u) (l.drop u) wr hrd (by simp; omega) (by simp; omega)
        rw [show (l.drop u).length = l.length - u by simp] at hcc
        have HM := Lib.hid hm
        cases hgr : gInt (l.drop u) with
        | more =>
          rw [hgr] at hcc
          rw [comb_more hgr] at hd
          simp only [dInt] at hcc
          have HCC := Lib.hid hcc
          subst hd
          clear hcc hrd hA' hbel hm hgr
          go_wp2_with (go_at_call 52; refine HCC.out.mono ?_; rintro e w2 ⟨rfl, hb2⟩; have HB2 := Lib.hid hb2; clear hb2)
          go_ret3
          exact ⟨rfl, HB1.out.trans (HB2.out.mono hsz)⟩
        | form =>
          rw [hgr] at hcc
          rw [comb_form hgr] at hd
          simp only [dInt] at hcc
          have HCC := Lib.hid hcc
          subst hd
          clear hcc hrd hA' hbel hm hgr
          go_wp2_with (go_at_call 52; refine HCC.out.mono ?_; rintro e w2 ⟨rfl, hb2⟩; have HB2 := Lib.hid hb2; clear hb2)
          go_ret3
          exact ⟨rfl, HB1.out.trans (HB2.out.mono hsz)⟩
        | ok x k =>
          rw [hgr] at hcc
          rw [comb_ok hgr] at hd
          have hk : u + k ≤ l.length := by
            obtain ⟨_, t, h1, h2⟩ := gInt_ok hgr
            have h3 := congrArg List.length h1
            rw [List.length_append, List.length_drop] at h3
            omega
          simp only [dInt] at hcc
          have HCC := Lib.hid hcc
          have HD := Lib.hid hd
          clear hcc hrd hA' hbel hm hgr hd
          go_wp2_with (first
            | (go_at_call 52; refine HCC.out.mono ?_; rintro e w2 ⟨rfl, hb2⟩; have HB2 := Lib.hid (HB1.out.trans (hb2.mono hsz)); have hs2 := (HB1.out.trans (hb2.mono hsz)).size; have HO2 := Lib.hid (ownsRow_below HO.out hb2); clear hb2)
            | (at_builtin; refine wpList_append_own _ rfl (.tmp 38) (.tmp 40) 22 rfl w.heap.size 3 i0 (.int .i64 0) 1 8 Tryd.underlying22 hi hz0 hz1 hz2 rfl (by decide) _ _ _ rfl (HO2.out.alloc _) ⟨w2.heap.size, 0, none⟩ 1 1 [.int .i64 x] rfl rfl (one_new _ _ _) (int_one _ _) (len_le (by omega)) (by omega) (by simp; omega) ?_; intro v3 w3 hown3 hgrow3 _; have HO3 := Lib.hid hown3; have HB3 := Lib.hid ((HB2.out.alloc hs2 _).grown hgrow3 (by simp; omega) (fun k hk => (HO2.out.lt k hk).1)); clear hown3 hgrow3))
          go_roundw
          case rel =>
            refine ⟨j + 1, u + k, by omega, hk, by go_num, by go_num, xs ++ [x], by simp [HXL.out], ?_, by have := HO3.out; simpa using this, HB3.out⟩
            have := HM.out
            rw [show n - (j + 1) = m by omega]; exact HD.out
          case measure => simp [intOf]; omega
      · obtain rfl : j = n := by omega
        rw [Nat.sub_self, comb_end] at hd
        subst hd
        obtain ⟨A1, c1, hv, _⟩ := own_form HO.out
        subst hv
        have hxn : xs.length = j := HXL.out
        subst hxn
        clear hbel
        go_wp2
        go_ret3
        exact ⟨A1, c1, rfl, HO.out, HB1.out⟩
end Go.Proofs.YtbdknncmlcbbpaaDoor
