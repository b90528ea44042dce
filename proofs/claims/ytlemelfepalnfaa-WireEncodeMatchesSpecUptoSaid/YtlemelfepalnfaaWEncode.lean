/-
  THE WALK of WireEncodeMatchesSpec, the sanity check by its contract.
-/
import Derived.Test.YtlemelfepalnfaaRefs
import Derived.Test.YtlemelfepalnfaaWTrunc
namespace Go.Proofs.Ytlemelfepalnfaa
open Go.RowKit WM

set_option maxRecDepth 1000000 in
set_option maxHeartbeats 16000000 in
theorem walkEncode (hsan : Sane) (n : Int) (hr : inRange n) (s : ByteArray) (hs : s.size ≤ 140737488355328) (Al : Option Addr) (cl : Nat) (l : List Int) (hl : l.length ≤ 140737488355328) (hlr : ∀ x ∈ l, inRange x)
    (Ax : Option Addr) (cx : Nat) (x : List ByteArray) (hxt : x.length + total x ≤ 4611686018427387904) (Ad : Option Addr) (cd : Nat) (d : List (List UInt8)) (hd : d.length ≤ 140737488355328) (h16 : ∀ y ∈ d, y.length = 16) (w : World)
    (ha1 : Reads w w.heap.size 1 Al l.length (is l)) (ha2 : Reads w w.heap.size 1 Ax x.length (ss x)) (ha3 : Reads w w.heap.size 16 Ad d.length (dg d)) :
    Calls Try.prog 3 #[.int .i64 n, .string s, .slice Al l.length cl, .slice Ax x.length cx, .slice Ad d.length cd] w fun e w' => e = .returned (.bool true) ∧ Below w.heap.size w w' := by
  have HSA := Lib.hid hsan
  have HL0 := Lib.hid ha1
  have HX0 := Lib.hid ha2
  have HD0 := Lib.hid ha3
  have HR := Lib.hid hr
  have HLR := Lib.hid hlr
  have H16 := Lib.hid h16
  clear hsan ha1 ha2 ha3 hr hlr h16
  have HF := Lib.hid (few w.heap.size Ax cx x w HX0.out hxt)
  by_cases hb1 : 2000 < s.size + l.length + d.length
  · go_enter Try.func3, Try.ntmps3
    go_wp2_with (go_at_call 12; refine (HSA.out _).mono ?_; rintro e w' ⟨rfl, hb⟩; have HB := Lib.hid hb; clear hb)
    go_ret
    exact ⟨rfl, HB.out⟩
  by_cases hb3 : 2000 < x.length + total x
  · have hdec : decide (x.length + total x ≤ 2000) = false := by simp; omega
    rw [hdec] at HF
    clear hdec
    go_enter Try.func3, Try.ntmps3
    go_wp2_with (first
      | (go_at_call 11; refine HF.out.mono ?_; rintro e w' ⟨rfl, rfl⟩)
      | (go_at_call 12; refine (HSA.out _).mono ?_; rintro e w' ⟨rfl, hb⟩; have HB := Lib.hid hb; clear hb))
    go_ret
    exact ⟨rfl, HB.out⟩
  have hdec : decide (x.length + total x ≤ 2000) = true := by simp; omega
  rw [hdec] at HF
  have e1 := enc_len HR.out
  have e2 := encB_len s hs
  have e3 := encInts_len l HLR.out hl
  have e4 := encS_len x (by omega) (by omega)
  have e5 := encD_len d H16.out hd
  obtain ⟨_, e1⟩ := e1
  clear hdec
  go_enter Try.func3, Try.ntmps3
  go_wp2_with (go_at_call 11; refine HF.out.mono ?_; rintro e w' ⟨rfl, rfl⟩)
  refine (HSA.out _).mono ?_
  rintro e w1 ⟨rfl, hb⟩
  have HL1 := Lib.hid (HL0.out.later hb)
  have HX1 := Lib.hid (HX0.out.later hb)
  have HD1 := Lib.hid (HD0.out.later hb)
  have HB1 := Lib.hid hb
  clear hb HL0 HX0 HD0 HF
  go_wp2_with fail
  refine (encInt n _ HR.out).mono ?_
  rintro e w2 ⟨A0, c0, rfl, ho, hb⟩
  have HP0 := Lib.hid (Reads.of_own ho)
  have HL2 := Lib.hid (HL1.out.later hb)
  have HX2 := Lib.hid (HX1.out.later hb)
  have HD2 := Lib.hid (HD1.out.later hb)
  have HB2 := Lib.hid (below_then HB1.out hb)
  clear hb ho HL1 HX1 HD1 HB1
  go_wp2_with fail
  refine (refInt n _ HR.out).mono ?_
  rintro e w3 ⟨B0, f0, rfl, ho, hb⟩
  have HQ0 := Lib.hid (Reads.of_own ho)
  have HP0' := Lib.hid (HP0.out.later hb)
  have HL3 := Lib.hid (HL2.out.later hb)
  have HX3 := Lib.hid (HX2.out.later hb)
  have HD3 := Lib.hid (HD2.out.later hb)
  have HB3 := Lib.hid (below_then HB2.out hb)
  clear hb ho HP0 HL2 HX2 HD2 HB2
  go_wp2_with fail
  refine (same _ _ A0 B0 c0 f0 (WM.enc n) _ HP0'.out HQ0.out (by omega)).mono ?_
  rintro e w4 ⟨rfl, hb⟩
  have HL4 := Lib.hid (HL3.out.later hb)
  have HX4 := Lib.hid (HX3.out.later hb)
  have HD4 := Lib.hid (HD3.out.later hb)
  have HB4 := Lib.hid (below_then HB3.out hb)
  clear hb HP0' HQ0 HL3 HX3 HD3 HB3
  go_wp2_with fail
  refine (encBytes s _ (by omega)).mono ?_
  rintro e w5 ⟨A1, c1, rfl, ho, hb⟩
  have HP1 := Lib.hid (Reads.of_own ho)
  have HL5 := Lib.hid (HL4.out.later hb)
  have HX5 := Lib.hid (HX4.out.later hb)
  have HD5 := Lib.hid (HD4.out.later hb)
  have HB5 := Lib.hid (below_then HB4.out hb)
  clear hb ho HL4 HX4 HD4 HB4
  go_wp2_with fail
  refine (refBytes s _ (by omega)).mono ?_
  rintro e w6 ⟨B1, f1, rfl, ho, hb⟩
  have HQ1 := Lib.hid (Reads.of_own ho)
  have HP1' := Lib.hid (HP1.out.later hb)
  have HL6 := Lib.hid (HL5.out.later hb)
  have HX6 := Lib.hid (HX5.out.later hb)
  have HD6 := Lib.hid (HD5.out.later hb)
  have HB6 := Lib.hid (below_then HB5.out hb)
  clear hb ho HP1 HL5 HX5 HD5 HB5
  go_wp2_with fail
  refine (same _ _ A1 B1 c1 f1 (encB s.data.toList) _ HP1'.out HQ1.out (by omega)).mono ?_
  rintro e w7 ⟨rfl, hb⟩
  have HL7 := Lib.hid (HL6.out.later hb)
  have HX7 := Lib.hid (HX6.out.later hb)
  have HD7 := Lib.hid (HD6.out.later hb)
  have HB7 := Lib.hid (below_then HB6.out hb)
  clear hb HP1' HQ1 HL6 HX6 HD6 HB6
  go_wp2_with fail
  refine (encInts Al l cl _ HL7.out HLR.out (by omega) (by omega)).mono ?_
  rintro e w8 ⟨A2, c2, rfl, ho, hb⟩
  have HP2 := Lib.hid (Reads.of_own ho)
  have HL8 := Lib.hid (HL7.out.later hb)
  have HX8 := Lib.hid (HX7.out.later hb)
  have HD8 := Lib.hid (HD7.out.later hb)
  have HB8 := Lib.hid (below_then HB7.out hb)
  clear hb ho HL7 HX7 HD7 HB7
  go_wp2_with fail
  refine (refInts Al l cl _ HL8.out HLR.out (by omega) (by omega)).mono ?_
  rintro e w9 ⟨B2, f2, rfl, ho, hb⟩
  have HQ2 := Lib.hid (Reads.of_own ho)
  have HP2' := Lib.hid (HP2.out.later hb)
  have HL9 := Lib.hid (HL8.out.later hb)
  have HX9 := Lib.hid (HX8.out.later hb)
  have HD9 := Lib.hid (HD8.out.later hb)
  have HB9 := Lib.hid (below_then HB8.out hb)
  clear hb ho HP2 HL8 HX8 HD8 HB8
  go_wp2_with fail
  refine (same _ _ A2 B2 c2 f2 (encL WM.enc l) _ HP2'.out HQ2.out (by omega)).mono ?_
  rintro e w10 ⟨rfl, hb⟩
  have HL10 := Lib.hid (HL9.out.later hb)
  have HX10 := Lib.hid (HX9.out.later hb)
  have HD10 := Lib.hid (HD9.out.later hb)
  have HB10 := Lib.hid (below_then HB9.out hb)
  clear hb HP2' HQ2 HL9 HX9 HD9 HB9
  go_wp2_with fail
  refine (encStrings Ax x cx _ HX10.out (by omega) (by omega)).mono ?_
  rintro e w11 ⟨A3, c3, rfl, ho, hb⟩
  have HP3 := Lib.hid (Reads.of_own ho)
  have HL11 := Lib.hid (HL10.out.later hb)
  have HX11 := Lib.hid (HX10.out.later hb)
  have HD11 := Lib.hid (HD10.out.later hb)
  have HB11 := Lib.hid (below_then HB10.out hb)
  clear hb ho HL10 HX10 HD10 HB10
  go_wp2_with fail
  refine (refStrings Ax x cx _ HX11.out (by omega) (by omega)).mono ?_
  rintro e w12 ⟨B3, f3, rfl, ho, hb⟩
  have HQ3 := Lib.hid (Reads.of_own ho)
  have HP3' := Lib.hid (HP3.out.later hb)
  have HL12 := Lib.hid (HL11.out.later hb)
  have HX12 := Lib.hid (HX11.out.later hb)
  have HD12 := Lib.hid (HD11.out.later hb)
  have HB12 := Lib.hid (below_then HB11.out hb)
  clear hb ho HP3 HL11 HX11 HD11 HB11
  go_wp2_with fail
  refine (same _ _ A3 B3 c3 f3 (encS x) _ HP3'.out HQ3.out (by omega)).mono ?_
  rintro e w13 ⟨rfl, hb⟩
  have HL13 := Lib.hid (HL12.out.later hb)
  have HX13 := Lib.hid (HX12.out.later hb)
  have HD13 := Lib.hid (HD12.out.later hb)
  have HB13 := Lib.hid (below_then HB12.out hb)
  clear hb HP3' HQ3 HL12 HX12 HD12 HB12
  go_wp2_with fail
  refine (encDigests Ad d cd _ HD13.out H16.out (by omega)).mono ?_
  rintro e w14 ⟨A4, c4, rfl, ho, hb⟩
  have HP4 := Lib.hid (Reads.of_own ho)
  have HL14 := Lib.hid (HL13.out.later hb)
  have HX14 := Lib.hid (HX13.out.later hb)
  have HD14 := Lib.hid (HD13.out.later hb)
  have HB14 := Lib.hid (below_then HB13.out hb)
  clear hb ho HL13 HX13 HD13 HB13
  go_wp2_with fail
  refine (refDigests Ad d cd _ HD14.out H16.out (by omega)).mono ?_
  rintro e w15 ⟨B4, f4, rfl, ho, hb⟩
  have HQ4 := Lib.hid (Reads.of_own ho)
  have HP4' := Lib.hid (HP4.out.later hb)
  have HL15 := Lib.hid (HL14.out.later hb)
  have HX15 := Lib.hid (HX14.out.later hb)
  have HD15 := Lib.hid (HD14.out.later hb)
  have HB15 := Lib.hid (below_then HB14.out hb)
  clear hb ho HP4 HL14 HX14 HD14 HB14
  go_wp2_with fail
  refine (same _ _ A4 B4 c4 f4 (encL id d) _ HP4'.out HQ4.out (by omega)).mono ?_
  rintro e w16 ⟨rfl, hb⟩
  have HL16 := Lib.hid (HL15.out.later hb)
  have HX16 := Lib.hid (HX15.out.later hb)
  have HD16 := Lib.hid (HD15.out.later hb)
  have HB16 := Lib.hid (below_then HB15.out hb)
  clear hb HP4' HQ4 HL15 HX15 HD15 HB15
  go_wp2_with fail
  go_ret
  exact ⟨rfl, HB16.out⟩
end Go.Proofs.Ytlemelfepalnfaa
