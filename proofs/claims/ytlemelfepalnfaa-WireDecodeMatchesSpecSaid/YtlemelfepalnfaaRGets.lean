/-
  THE REFERENCE PACKAGE's count, GetBytes, GetInts, GetStrings, GetDigests, each by its contract.
-/
import Derived.Test.YtlemelfepalnfaaRGet
namespace Go.Proofs.Ytlemelfepalnfaa
open Go.RowKit WM

theorem refCount (A : Option Addr) (c least : Nat) (l : List UInt8) (w : World) (ha : Reads w w.heap.size 1 A l.length (bs l)) (hlc : l.length ≤ c) (hl : l.length ≤ 1000000) (h0 : 0 < least) (h1 : least ≤ 1000) :
    Calls Try.prog 41 #[.slice A l.length c, .int .i64 (least : Int)] w fun e w' => e = .returned (dLen (gLen least l)) ∧ Below w.heap.size w w' := by
  have hc := refGetInt A c l w ha hlc hl
  cases hg : gInt l with
  | more =>
    have hgl : gLen least l = .more := by unfold gLen; rw [hg]
    rw [hgl]
    rw [hg] at hc
    simp only [dInt] at hc
    have HC := Lib.hid hc
    clear hc ha hg hgl
    go_enter Try.func41, Try.ntmps41
    go_wp2_with (go_at_call 25; refine HC.out.mono ?_; rintro e w' ⟨rfl, hb⟩; have HB := Lib.hid hb; clear hb)
    go_ret3
    exact ⟨rfl, HB.out⟩
  | form =>
    have hgl : gLen least l = .form := by unfold gLen; rw [hg]
    rw [hgl]
    rw [hg] at hc
    simp only [dInt] at hc
    have HC := Lib.hid hc
    clear hc ha hg hgl
    go_enter Try.func41, Try.ntmps41
    go_wp2_with (go_at_call 25; refine HC.out.mono ?_; rintro e w' ⟨rfl, hb⟩; have HB := Lib.hid hb; clear hb)
    go_ret3
    exact ⟨rfl, HB.out⟩
  | ok n u =>
    obtain ⟨hr, t, he, hu⟩ := gInt_ok hg
    have hul : u ≤ l.length := by rw [he, hu, List.length_append]; omega
    have h9 := enc_len hr
    rw [← hu] at h9
    obtain ⟨hu1, hu9⟩ := h9
    obtain ⟨hr1, hr2⟩ := hr
    rw [hg] at hc
    simp only [dInt] at hc
    have HC := Lib.hid hc
    have HG := Lib.hid hg
    clear hc ha he hu hg
    by_cases hn : n < 0
    · have hgl : gLen least l = .form := by unfold gLen; rw [HG.out]; simp only []; rw [if_pos hn]
      rw [hgl]
      clear hgl
      go_enter Try.func41, Try.ntmps41
      go_wp2_with (go_at_call 25; refine HC.out.mono ?_; rintro e w' ⟨rfl, hb⟩; have HB := Lib.hid hb; clear hb)
      go_ret3
      exact ⟨rfl, HB.out⟩
    · obtain ⟨m, rfl⟩ := Int.eq_ofNat_of_zero_le (show 0 ≤ n by omega)
      have hdiv := Nat.le_div_iff_mul_le (x := m) (y := l.length - u) h0
      by_cases hm1 : l.length < m
      · have hm : (l.length - u) / least < m := by
          have : (l.length - u) / least ≤ l.length - u := Nat.div_le_self _ _
          omega
        have hgl : gLen least l = .more := by unfold gLen; rw [HG.out]; simp only []; rw [if_neg hn, if_pos (by omega)]
        rw [hgl]
        clear hgl hm hdiv
        go_enter Try.func41, Try.ntmps41
        go_wp2_with (go_at_call 25; refine HC.out.mono ?_; rintro e w' ⟨rfl, hb⟩; have HB := Lib.hid hb; clear hb)
        go_ret3
        exact ⟨rfl, HB.out⟩
      · obtain ⟨P, hP⟩ : ∃ P, P = m * least := ⟨_, rfl⟩
        have hPb : P ≤ 1000000 * 1000 := by rw [hP]; exact Nat.mul_le_mul (by omega) h1
        have hPi : (m : Int) * (least : Int) = (P : Int) := by rw [hP]; simp
        have hw : IntKind.i64.wrap ((m : Int) * (least : Int)) = (P : Int) := by rw [hPi]; exact IntWalk.i64_in _ (by omega)
        by_cases hm : l.length - u < P
        · have hgl : gLen least l = .more := by
            unfold gLen; rw [HG.out]; simp only []; rw [if_neg hn, if_pos]
            have : ¬ m ≤ (l.length - u) / least := by rw [hdiv]; omega
            omega
          rw [hgl]
          have hq : (l.length : Int) - (u : Int) < (P : Int) := by omega
          clear hgl hdiv hP
          go_enter Try.func41, Try.ntmps41
          go_wp2_with (go_at_call 25; refine HC.out.mono ?_; rintro e w' ⟨rfl, hb⟩; have HB := Lib.hid hb; clear hb)
          go_ret3
          exact ⟨rfl, HB.out⟩
        · have hgl : gLen least l = .ok m u := by
            unfold gLen; rw [HG.out]; simp only []; rw [if_neg hn, if_neg]
            · simp
            · have : m ≤ (l.length - u) / least := hdiv.2 (by omega)
              omega
          rw [hgl]
          have hq : (P : Int) ≤ (l.length : Int) - (u : Int) := by omega
          clear hgl hdiv hP
          go_enter Try.func41, Try.ntmps41
          go_wp2_with (go_at_call 25; refine HC.out.mono ?_; rintro e w' ⟨rfl, hb⟩; have HB := Lib.hid hb; clear hb)
          go_ret3
          exact ⟨rfl, HB.out⟩

end Go.Proofs.Ytlemelfepalnfaa
