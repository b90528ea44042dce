/-
  THE WALK of WireIntRoundTrip, the sanity check by its contract.
-/
import Derived.Test.YtlemelfepalnfaaHelp
namespace Go.Proofs.Ytlemelfepalnfaa
open Go.RowKit WM

def Sane : Prop := ∀ w : World, Calls Try.prog 12 #[] w fun e w' => e = .returned (.bool true) ∧ Below w.heap.size w w'

set_option maxRecDepth 100000 in
set_option maxHeartbeats 400000 in
theorem walkRound (hsan : Sane) (n : Int) (hr : inRange n) (A : Option Addr) (cap : Nat) (l : List UInt8) (w : World) (ha : Reads w w.heap.size 1 A l.length (bs l)) (hm : l.length ≤ 9223372036854775807) :
    Calls Try.prog 6 #[.int .i64 n, .slice A l.length cap] w fun e w' => e = .returned (.bool true) ∧ Below w.heap.size w w' := by
  have HSA := Lib.hid hsan
  have HA := Lib.hid ha
  clear hsan ha
  by_cases hlong : 2000 < l.length
  · go_enter Try.func6, Try.ntmps6
    go_wp2_with (go_at_call 12; refine (HSA.out _).mono ?_; rintro e w' ⟨rfl, hb⟩; have HB := Lib.hid hb; clear hb)
    go_ret
    exact ⟨rfl, HB.out⟩
  · have h9 := enc_len hr
    obtain ⟨h91, h92⟩ := h9
    have hgi := gInt_enc hr l
    obtain ⟨i0, hi, hz0, hz1, hz2⟩ := info_parts Try.info5
    have HR := Lib.hid hr
    have HG := Lib.hid hgi
    clear hgi hr
    go_enter Try.func6, Try.ntmps6
    go_wp2_with fail
    refine (encInt n w HR.out).mono ?_
    rintro e w1 ⟨A1, c1, rfl, hown, hb1⟩
    have hcc := own_cap hown
    obtain ⟨A2, hA2, hcut⟩ := cut_full A1 (enc n).length _ hcc
    have HR1 := Lib.hid (reads_full (Reads.of_own hown) hA2)
    have HL1 := Lib.hid (HA.out.later hb1)
    have HB1 := Lib.hid hb1
    clear hown hb1 hA2
    obtain ⟨k, hk⟩ : ∃ k, k = (enc n).length := ⟨_, rfl⟩
    rw [← hk] at hcut h91 h92 hcc HR1 HG ⊢
    have HK := Lib.hid hk
    clear hk
    have h9b : decide ((k : Int) ≤ 9) = true := by simp; omega
    go_wp2_with (first
      | (at_builtin; refine wpList_append_full _ rfl (.tmp 21) (.tmp 22) 28 rfl 5 i0 (.int .u8 0) 1 1 Try.underlying28 hi hz0 hz1 hz2 rfl (by decide) A2 A k l.length cap (bs (enc n)) (bs l) rfl HR1.out rfl HL1.out (bs_one _) (len_le (by omega)) (by omega) ?_; intro A3 c3 w2 hr2 hc2 hb2; have HR2 := Lib.hid hr2; have HB2 := Lib.hid hb2; clear hr2 hb2)
      | (go_at_call 24; refine (getInt_is (enc n ++ l) (by rw [bs_append]; exact HR2.out) (by rw [List.length_append, HK.out]) hc2 (by omega) HG.out).mono ?_; rintro e w3 ⟨rfl, rfl⟩)
      | (go_at_call 12; refine (HSA.out _).mono ?_; rintro e w' ⟨rfl, hb⟩; have HB := Lib.hid hb; clear hb))
    go_ret
    exact ⟨rfl, below_then (below_then HB1.out HB2.out) HB.out⟩
end Go.Proofs.Ytlemelfepalnfaa
