/-
  THE WALK of WireCanonical, the sanity check by its contract.
-/
import Derived.Test.YtlemelfepalnfaaClo37
import Derived.Test.YtlemelfepalnfaaWRound
namespace Go.Proofs.Ytlemelfepalnfaa
open Go.RowKit WM

set_option maxRecDepth 100000 in
set_option maxHeartbeats 3200000 in
theorem walkCanon (hsan : Sane) (A : Option Addr) (cap : Nat) (l : List UInt8) (w : World) (ha : Reads w w.heap.size 1 A l.length (bs l)) (hlc : l.length ≤ cap) (hm : l.length ≤ 9223372036854775807) :
    Calls Try.prog 7 #[.slice A l.length cap] w fun e w' => e = .returned (.bool true) ∧ Below w.heap.size w w' := by
  have HSA := Lib.hid hsan
  have HA := Lib.hid ha
  have hmf : ∀ (fn : Fn) (first cap : Array Value) (w : World), (Instr.makeFunc fn first cap).run Try.prog w = .ok (.func fn first cap) w := fun _ _ _ _ => rfl
  clear hsan ha
  by_cases hlong : 2000 < l.length
  · go_enter Try.func7, Try.ntmps7
    go_wp2_with (go_at_call 12; refine (HSA.out _).mono ?_; rintro e w' ⟨rfl, hb⟩; have HB := Lib.hid hb; clear hb)
    go_ret
    exact ⟨rfl, below_then (below_new w _) HB.out⟩
  · have HB0 := Lib.hid (below_new w (.cells #[.slice A l.length cap] 28))
    have HA0 := Lib.hid (HA.out.later HB0.out)
    have HK0 := Lib.hid (heap_alloc_new w (.cells #[.slice A l.length cap] 28))
    clear HA
    go_enter Try.func7, Try.ntmps7
    go_wp2_with fail
    refine (getInt_any HA0.out hlc (by omega)).mono ?_
    rintro e w1 ⟨n, u1, k1, rfl, hr1, he1, rfl⟩
    have HE1 := Lib.hid he1
    have HR1 := Lib.hid hr1
    clear he1 hr1
    go_wp2_with fail
    refine (getBytes_any HA0.out hlc (by omega)).mono ?_
    rintro e w2 ⟨s, u2, k2, rfl, hs2, he2, rfl⟩
    have HE2 := Lib.hid he2
    clear he2
    go_wp2_with fail
    refine (getInts_any HA0.out hlc (by omega)).mono ?_
    rintro e w3 ⟨A3, c3, xs3, u3, k3, rfl, hx3, hr3, hl3, hn3, he3, hb1⟩
    have HA1 := Lib.hid (HA0.out.later hb1)
    have HK1 := Lib.hid ((hb1.block _ (lt_of_block HK0.out)).trans HK0.out)
    have hc1 := cell_of_one HK1.out
    have HB1 := Lib.hid (below_then HB0.out hb1)
    have HR3 := Lib.hid hr3
    have HE3 := Lib.hid he3
    have HX1 := Lib.hid hx3
    clear hb1 HA0 HK0 HB0 hr3 he3 hx3
    go_wp2_with fail
    refine (getStrings_any HA1.out hlc (by omega)).mono ?_
    rintro e w4 ⟨A4, c4, xs4, u4, k4, rfl, hx4, hl4, hn4, he4, hb2⟩
    have HA2 := Lib.hid (HA1.out.later hb2)
    have HK2 := Lib.hid ((hb2.block _ (lt_of_block HK1.out)).trans HK1.out)
    have hc2 := cell_of_one HK2.out
    have HX2 := Lib.hid (HX1.out.later hb2)
    have HB2 := Lib.hid (below_then HB1.out hb2)
    have HE4 := Lib.hid he4
    have HY2 := Lib.hid hx4
    clear hb2 hc1 HA1 HK1 HX1 HB1 he4 hx4
    go_wp2_with fail
    refine (getDigests_any HA2.out hlc (by omega)).mono ?_
    rintro e w5 ⟨A5, c5, xs5, u5, k5, rfl, hx5, hr5, hn5, he5, hb3⟩
    have HA3 := Lib.hid (HA2.out.later hb3)
    have HK3 := Lib.hid ((hb3.block _ (lt_of_block HK2.out)).trans HK2.out)
    have hc3 := cell_of_one HK3.out
    have HX3 := Lib.hid (HX2.out.later hb3)
    have HY3 := Lib.hid (HY2.out.later hb3)
    have HB3 := Lib.hid (below_then HB2.out hb3)
    have HR5 := Lib.hid hr5
    have HE5 := Lib.hid he5
    have HZ3 := Lib.hid hx5
    clear hb3 hc2 HA2 HK2 HX2 HY2 HB2 hr5 he5 hx5
    go_wp2_with fail
    refine (HSA.out _).mono ?_
    rintro e w6 ⟨rfl, hb4⟩
    have HA4 := Lib.hid (HA3.out.later hb4)
    have HK4 := Lib.hid ((hb4.block _ (lt_of_block HK3.out)).trans HK3.out)
    have hc4 := cell_of_one HK4.out
    have HX4 := Lib.hid (HX3.out.later hb4)
    have HY4 := Lib.hid (HY3.out.later hb4)
    have HZ4 := Lib.hid (HZ3.out.later hb4)
    have HB4 := Lib.hid (below_then HB3.out hb4)
    clear hb4 hc3 HA3 HK3 HX3 HY3 HZ3 HB3
    go_wp2_with fail
    refine (encInt n _ HR1.out).mono ?_
    rintro e w7 ⟨B1, d1, rfl, ho1, hb5⟩
    have HA5 := Lib.hid (HA4.out.later hb5)
    have HK5 := Lib.hid ((hb5.block _ (lt_of_block HK4.out)).trans HK4.out)
    have hc5 := cell_of_one HK5.out
    have HX5 := Lib.hid (HX4.out.later hb5)
    have HY5 := Lib.hid (HY4.out.later hb5)
    have HZ5 := Lib.hid (HZ4.out.later hb5)
    have HB5 := Lib.hid (below_then HB4.out hb5)
    clear hb5 hc4 HA4 HK4 HX4 HY4 HZ4 HB4
    have HO1 := Lib.hid (Reads.of_own ho1)
    clear ho1
    go_wp2_with fail
    refine (clo37 _ _ _ _ _ _ l (WM.enc n) u1 k1 _ HK5.out HA5.out hlc (by omega) HO1.out HE1.out).mono ?_
    rintro e w8 ⟨rfl, hb6⟩
    have HA6 := Lib.hid (HA5.out.later hb6)
    have HK6 := Lib.hid ((hb6.block _ (lt_of_block HK5.out)).trans HK5.out)
    have hc6 := cell_of_one HK6.out
    have HX6 := Lib.hid (HX5.out.later hb6)
    have HY6 := Lib.hid (HY5.out.later hb6)
    have HZ6 := Lib.hid (HZ5.out.later hb6)
    have HB6 := Lib.hid (below_then HB5.out hb6)
    clear hb6 hc5 HA5 HK5 HX5 HY5 HZ5 HB5
    go_wp2_with fail
    refine (encBytes s _ (by omega)).mono ?_
    rintro e w9 ⟨B2, d2, rfl, ho2, hb7⟩
    have HA7 := Lib.hid (HA6.out.later hb7)
    have HK7 := Lib.hid ((hb7.block _ (lt_of_block HK6.out)).trans HK6.out)
    have hc7 := cell_of_one HK7.out
    have HX7 := Lib.hid (HX6.out.later hb7)
    have HY7 := Lib.hid (HY6.out.later hb7)
    have HZ7 := Lib.hid (HZ6.out.later hb7)
    have HB7 := Lib.hid (below_then HB6.out hb7)
    clear hb7 hc6 HA6 HK6 HX6 HY6 HZ6 HB6
    have HO2 := Lib.hid (Reads.of_own ho2)
    clear ho2
    go_wp2_with fail
    refine (clo37 _ _ _ _ _ _ l (encB s.data.toList) u2 k2 _ HK7.out HA7.out hlc (by omega) HO2.out HE2.out).mono ?_
    rintro e w10 ⟨rfl, hb8⟩
    have HA8 := Lib.hid (HA7.out.later hb8)
    have HK8 := Lib.hid ((hb8.block _ (lt_of_block HK7.out)).trans HK7.out)
    have hc8 := cell_of_one HK8.out
    have HX8 := Lib.hid (HX7.out.later hb8)
    have HY8 := Lib.hid (HY7.out.later hb8)
    have HZ8 := Lib.hid (HZ7.out.later hb8)
    have HB8 := Lib.hid (below_then HB7.out hb8)
    clear hb8 hc7 HA7 HK7 HX7 HY7 HZ7 HB7
    go_wp2_with fail
    refine (encInts A3 xs3 c3 _ HX8.out HR3.out (by omega) (by omega)).mono ?_
    rintro e w11 ⟨B3, d3, rfl, ho3, hb9⟩
    have HA9 := Lib.hid (HA8.out.later hb9)
    have HK9 := Lib.hid ((hb9.block _ (lt_of_block HK8.out)).trans HK8.out)
    have hc9 := cell_of_one HK9.out
    have HX9 := Lib.hid (HX8.out.later hb9)
    have HY9 := Lib.hid (HY8.out.later hb9)
    have HZ9 := Lib.hid (HZ8.out.later hb9)
    have HB9 := Lib.hid (below_then HB8.out hb9)
    clear hb9 hc8 HA8 HK8 HX8 HY8 HZ8 HB8
    have HO3 := Lib.hid (Reads.of_own ho3)
    clear ho3
    go_wp2_with fail
    refine (clo37 _ _ _ _ _ _ l (encL WM.enc xs3) u3 k3 _ HK9.out HA9.out hlc (by omega) HO3.out HE3.out).mono ?_
    rintro e w12 ⟨rfl, hb10⟩
    have HA10 := Lib.hid (HA9.out.later hb10)
    have HK10 := Lib.hid ((hb10.block _ (lt_of_block HK9.out)).trans HK9.out)
    have hc10 := cell_of_one HK10.out
    have HY10 := Lib.hid (HY9.out.later hb10)
    have HZ10 := Lib.hid (HZ9.out.later hb10)
    have HB10 := Lib.hid (below_then HB9.out hb10)
    clear hb10 hc9 HA9 HK9 HY9 HZ9 HB9
    go_wp2_with fail
    refine (encStrings A4 xs4 c4 _ HY10.out (by omega) (by omega)).mono ?_
    rintro e w13 ⟨B4, d4, rfl, ho4, hb11⟩
    have HA11 := Lib.hid (HA10.out.later hb11)
    have HK11 := Lib.hid ((hb11.block _ (lt_of_block HK10.out)).trans HK10.out)
    have hc11 := cell_of_one HK11.out
    have HY11 := Lib.hid (HY10.out.later hb11)
    have HZ11 := Lib.hid (HZ10.out.later hb11)
    have HB11 := Lib.hid (below_then HB10.out hb11)
    clear hb11 hc10 HA10 HK10 HY10 HZ10 HB10
    have HO4 := Lib.hid (Reads.of_own ho4)
    clear ho4
    go_wp2_with fail
    refine (clo37 _ _ _ _ _ _ l (encS xs4) u4 k4 _ HK11.out HA11.out hlc (by omega) HO4.out HE4.out).mono ?_
    rintro e w14 ⟨rfl, hb12⟩
    have HA12 := Lib.hid (HA11.out.later hb12)
    have HK12 := Lib.hid ((hb12.block _ (lt_of_block HK11.out)).trans HK11.out)
    have hc12 := cell_of_one HK12.out
    have HZ12 := Lib.hid (HZ11.out.later hb12)
    have HB12 := Lib.hid (below_then HB11.out hb12)
    clear hb12 hc11 HA11 HK11 HZ11 HB11
    go_wp2_with fail
    refine (encDigests A5 xs5 c5 _ HZ12.out HR5.out (by omega)).mono ?_
    rintro e w15 ⟨B5, d5, rfl, ho5, hb13⟩
    have HA13 := Lib.hid (HA12.out.later hb13)
    have HK13 := Lib.hid ((hb13.block _ (lt_of_block HK12.out)).trans HK12.out)
    have hc13 := cell_of_one HK13.out
    have HZ13 := Lib.hid (HZ12.out.later hb13)
    have HB13 := Lib.hid (below_then HB12.out hb13)
    clear hb13 hc12 HA12 HK12 HZ12 HB12
    have HO5 := Lib.hid (Reads.of_own ho5)
    clear ho5
    go_wp2_with fail
    refine (clo37 _ _ _ _ _ _ l (encL id xs5) u5 k5 _ HK13.out HA13.out hlc (by omega) HO5.out HE5.out).mono ?_
    rintro e w16 ⟨rfl, hb14⟩
    have HA14 := Lib.hid (HA13.out.later hb14)
    have HK14 := Lib.hid ((hb14.block _ (lt_of_block HK13.out)).trans HK13.out)
    have hc14 := cell_of_one HK14.out
    have HB14 := Lib.hid (below_then HB13.out hb14)
    clear hb14 hc13 HA13 HK13 HB13
    go_wp2_with fail
    go_ret
    exact ⟨rfl, HB14.out⟩
end Go.Proofs.Ytlemelfepalnfaa
