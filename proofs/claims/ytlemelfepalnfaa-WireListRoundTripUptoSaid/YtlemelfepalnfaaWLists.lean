/-
  THE WALK of WireListRoundTrip, the sanity check by its contract.
-/
import Derived.Test.YtlemelfepalnfaaWTrunc
namespace Go.Proofs.Ytlemelfepalnfaa
open Go.RowKit WM

theorem map_back (x : List ByteArray) : (x.map fun s => s.data.toList).map (fun y => (⟨y.toArray⟩ : ByteArray)) = x := by
  rw [List.map_map]
  conv => rhs; rw [← List.map_id x]
  apply List.map_congr_left
  intro s _
  exact str_back s
theorem encS_data (x : List ByteArray) : encS x = encL encB (x.map fun s => s.data.toList) := by unfold encS encL; rw [List.length_map, List.flatMap_map]
theorem gStrs_enc (x : List ByteArray) (hx : x.length ≤ 140737488355328) (hxs : ∀ y ∈ x, y.size ≤ 140737488355328) (t : List UInt8) : gElems 1 gBytes (encS x ++ t) = .ok (x.map fun s => s.data.toList) (encS x).length := by
  rw [encS_data]
  have h : ∀ y ∈ (x.map fun s => s.data.toList), (y.length : Int) ≤ 140737488355328 := by
    intro y hy
    obtain ⟨s, hs, rfl⟩ := List.mem_map.1 hy
    have := hxs s hs
    have e : s.data.toList.length = s.size := by simp
    omega
  exact gElems_enc (by omega) (by rw [List.length_map]; omega) (fun y hy => by
    have := (enc_len (n := (y.length : Int)) ⟨by omega, by have := h y hy; omega⟩).1
    unfold encB; rw [List.length_append]; omega) (fun y hy t => gBytes_enc (by have := h y hy; omega) t) t
theorem gDigs_enc (d : List (List UInt8)) (hd : d.length ≤ 140737488355328) (h16 : ∀ y ∈ d, y.length = 16) (t : List UInt8) : gElems 16 gDig (encL id d ++ t) = .ok d (encL id d).length :=
  gElems_enc (by omega) (by omega) (fun y hy => by have := h16 y hy; simp only [id]; omega) (fun y hy t => by
    have h := h16 y hy
    unfold gDig
    simp only [id]
    rw [List.take_left' h, h]) t

theorem getStrings_is {A : Option Addr} {n c : Nat} {w : World} (L : List UInt8) {x : List ByteArray} {u : Nat} (ha : Reads w w.heap.size 1 A n (bs L)) (hn : L.length = n) (hc : n ≤ c) (hl : n ≤ 1000000) (hg : gElems 1 gBytes L = .ok (x.map fun s => s.data.toList) u) :
    Calls Try.prog 31 #[.slice A n c] w fun e w' => ∃ A c, e = .returned (.tuple #[.slice A x.length c, .int .i64 (u : Int), .int .i64 0]) ∧ Reads w' w'.heap.size 1 A x.length (ss x) ∧ Below w.heap.size w w' := by
  subst hn
  have h := getStrings_ok A c L w ha hc (by omega) _ u hg
  rw [List.length_map, map_back] at h
  exact h
theorem getDigests_is {A : Option Addr} {n c : Nat} {w : World} (L : List UInt8) {d : List (List UInt8)} {u : Nat} (ha : Reads w w.heap.size 1 A n (bs L)) (hn : L.length = n) (hc : n ≤ c) (hl : n ≤ 1000000) (hg : gElems 16 gDig L = .ok d u) :
    Calls Try.prog 34 #[.slice A n c] w fun e w' => ∃ A c, e = .returned (.tuple #[.slice A d.length c, .int .i64 (u : Int), .int .i64 0]) ∧ Reads w' w'.heap.size 16 A d.length (dg d) ∧ Below w.heap.size w w' := by
  subst hn
  exact getDigests_ok A c L w ha hc (by omega) d u hg

set_option maxRecDepth 1000000 in
set_option maxHeartbeats 16000000 in
theorem walkLists (hsan : Sane) (s : ByteArray) (hs : s.size ≤ 140737488355328) (Al : Option Addr) (cl : Nat) (l : List Int) (hl : l.length ≤ 140737488355328) (hlr : ∀ x ∈ l, inRange x)
    (Ax : Option Addr) (cx : Nat) (x : List ByteArray) (hxt : x.length + total x ≤ 4611686018427387904) (Ad : Option Addr) (cd : Nat) (d : List (List UInt8)) (hd : d.length ≤ 140737488355328) (h16 : ∀ y ∈ d, y.length = 16)
    (At : Option Addr) (ct : Nat) (t : List UInt8) (ht : t.length ≤ 140737488355328) (w : World)
    (ha1 : Reads w w.heap.size 1 Al l.length (is l)) (ha2 : Reads w w.heap.size 1 Ax x.length (ss x)) (ha3 : Reads w w.heap.size 16 Ad d.length (dg d)) (ha4 : Reads w w.heap.size 1 At t.length (bs t)) :
    Calls Try.prog 8 #[.string s, .slice Al l.length cl, .slice Ax x.length cx, .slice Ad d.length cd, .slice At t.length ct] w fun e w' => e = .returned (.bool true) ∧ Below w.heap.size w w' := by
  have HSA := Lib.hid hsan
  have HL0 := Lib.hid ha1
  have HX0 := Lib.hid ha2
  have HD0 := Lib.hid ha3
  have HT0 := Lib.hid ha4
  have HLR := Lib.hid hlr
  have H16 := Lib.hid h16
  clear hsan ha1 ha2 ha3 ha4 hlr h16
  have HF := Lib.hid (few w.heap.size Ax cx x w HX0.out hxt)
  by_cases hb1 : 2000 < s.size + l.length + d.length + t.length
  · go_enter Try.func8, Try.ntmps8
    go_wp2_with (go_at_call 12; refine (HSA.out _).mono ?_; rintro e w' ⟨rfl, hb⟩; have HB := Lib.hid hb; clear hb)
    go_ret
    exact ⟨rfl, HB.out⟩
  by_cases hb3 : 2000 < x.length + total x
  · have hdec : decide (x.length + total x ≤ 2000) = false := by simp; omega
    rw [hdec] at HF
    clear hdec
    go_enter Try.func8, Try.ntmps8
    go_wp2_with (first
      | (go_at_call 11; refine HF.out.mono ?_; rintro e w' ⟨rfl, rfl⟩)
      | (go_at_call 12; refine (HSA.out _).mono ?_; rintro e w' ⟨rfl, hb⟩; have HB := Lib.hid hb; clear hb))
    go_ret
    exact ⟨rfl, HB.out⟩
  have hdec : decide (x.length + total x ≤ 2000) = true := by simp; omega
  rw [hdec] at HF
  have e0 := encB_len s hs
  have e1 := encInts_len l HLR.out hl
  have e2 := encD_len d H16.out hd
  have e3 := encS_len x (by omega) (by omega)
  have hxs : ∀ y ∈ x, y.size ≤ 140737488355328 := fun y hy => by have := total_mem x y hy; omega
  have G0 := Lib.hid (gBytes_enc (s := s.data.toList) (by simp; omega) t)
  have G1 := Lib.hid (gInts_enc l HLR.out hl t)
  have G2 := Lib.hid (gDigs_enc d hd H16.out t)
  have G3 := Lib.hid (gStrs_enc x (by omega) hxs t)
  obtain ⟨E0, hE0⟩ : ∃ E, E = encB s.data.toList := ⟨_, rfl⟩
  obtain ⟨E1, hE1⟩ : ∃ E, E = encL WM.enc l := ⟨_, rfl⟩
  obtain ⟨E2, hE2⟩ : ∃ E, E = encL id d := ⟨_, rfl⟩
  obtain ⟨E3, hE3⟩ : ∃ E, E = encS x := ⟨_, rfl⟩
  rw [← hE0] at e0 G0
  rw [← hE1] at e1 G1
  rw [← hE2] at e2 G2
  rw [← hE3] at e3 G3
  have HE0 := Lib.hid hE0
  have HE1 := Lib.hid hE1
  have HE2 := Lib.hid hE2
  have HE3 := Lib.hid hE3
  obtain ⟨i0, hi, hz0, hz1, hz2⟩ := info_parts Try.info5
  clear hE0 hE1 hE2 hE3 hdec hxs
  go_enter Try.func8, Try.ntmps8
  go_wp2_with (go_at_call 11; refine HF.out.mono ?_; rintro e w' ⟨rfl, rfl⟩)
  clear HF
  have HB0 := Lib.hid (Below.refl w.heap.size w)
  refine (encBytes s _ (by omega)).mono ?_
  rw [← HE0.out]
  rintro e w1 ⟨A0, c0, rfl, ho, hb⟩
  obtain ⟨k0, hk0⟩ : ∃ k, k = E0.length := ⟨_, rfl⟩
  rw [← hk0] at ho e0 G0 ⊢
  have hcap0 := own_cap ho
  have HK0 := Lib.hid hk0.symm
  have HR0_1 := Lib.hid (Reads.of_own ho)
  have HL1 := Lib.hid (HL0.out.later hb)
  have HX1 := Lib.hid (HX0.out.later hb)
  have HD1 := Lib.hid (HD0.out.later hb)
  have HT1 := Lib.hid (HT0.out.later hb)
  have HB1 := Lib.hid (below_then HB0.out hb)
  clear hb ho hk0 HL0 HX0 HD0 HT0 HB0
  go_wp2_with fail
  refine (encInts Al l cl _ HL1.out HLR.out (by rw [← HE1.out]; omega) (by omega)).mono ?_
  rw [← HE1.out]
  rintro e w2 ⟨A1, c1, rfl, ho, hb⟩
  obtain ⟨k1, hk1⟩ : ∃ k, k = E1.length := ⟨_, rfl⟩
  rw [← hk1] at ho e1 G1 ⊢
  have hcap1 := own_cap ho
  have HK1 := Lib.hid hk1.symm
  have HR1_2 := Lib.hid (Reads.of_own ho)
  have HL2 := Lib.hid (HL1.out.later hb)
  have HX2 := Lib.hid (HX1.out.later hb)
  have HD2 := Lib.hid (HD1.out.later hb)
  have HT2 := Lib.hid (HT1.out.later hb)
  have HR0_2 := Lib.hid (HR0_1.out.later hb)
  have HB2 := Lib.hid (below_then HB1.out hb)
  clear hb ho hk1 HL1 HX1 HD1 HT1 HR0_1 HB1
  go_wp2_with fail
  refine (encDigests Ad d cd _ HD2.out H16.out (by omega)).mono ?_
  rw [← HE2.out]
  rintro e w3 ⟨A2, c2, rfl, ho, hb⟩
  obtain ⟨k2, hk2⟩ : ∃ k, k = E2.length := ⟨_, rfl⟩
  rw [← hk2] at ho e2 G2 ⊢
  have hcap2 := own_cap ho
  have HK2 := Lib.hid hk2.symm
  have HR2_3 := Lib.hid (Reads.of_own ho)
  have HL3 := Lib.hid (HL2.out.later hb)
  have HX3 := Lib.hid (HX2.out.later hb)
  have HD3 := Lib.hid (HD2.out.later hb)
  have HT3 := Lib.hid (HT2.out.later hb)
  have HR0_3 := Lib.hid (HR0_2.out.later hb)
  have HR1_3 := Lib.hid (HR1_2.out.later hb)
  have HB3 := Lib.hid (below_then HB2.out hb)
  clear hb ho hk2 HL2 HX2 HD2 HT2 HR0_2 HR1_2 HB2
  go_wp2_with fail
  refine (encStrings Ax x cx _ HX3.out (by rw [← HE3.out]; omega) (by omega)).mono ?_
  rw [← HE3.out]
  rintro e w4 ⟨A3, c3, rfl, ho, hb⟩
  obtain ⟨k3, hk3⟩ : ∃ k, k = E3.length := ⟨_, rfl⟩
  rw [← hk3] at ho e3 G3 ⊢
  have hcap3 := own_cap ho
  have HK3 := Lib.hid hk3.symm
  have HR3_4 := Lib.hid (Reads.of_own ho)
  have HL4 := Lib.hid (HL3.out.later hb)
  have HX4 := Lib.hid (HX3.out.later hb)
  have HD4 := Lib.hid (HD3.out.later hb)
  have HT4 := Lib.hid (HT3.out.later hb)
  have HR0_4 := Lib.hid (HR0_3.out.later hb)
  have HR1_4 := Lib.hid (HR1_3.out.later hb)
  have HR2_4 := Lib.hid (HR2_3.out.later hb)
  have HB4 := Lib.hid (below_then HB3.out hb)
  clear hb ho hk3 HL3 HX3 HD3 HT3 HR0_3 HR1_3 HR2_3 HB3
  obtain ⟨D0, hD0, hcut0⟩ := cut_full A0 k0 c0 hcap0
  have HF0 := Lib.hid (reads_full HR0_4.out hD0)
  clear hD0
  go_wp2_with (first
    | (at_builtin; refine wpList_append_full _ rfl (.tmp 59) (.tmp 60) 28 rfl 5 i0 (.int .u8 0) 1 1 Try.underlying28 hi hz0 hz1 hz2 rfl (by decide) D0 At k0 t.length ct (bs E0) (bs t) rfl HF0.out rfl HT4.out (bs_one _) (len_le (by omega)) (by omega) ?_; intro F0 g0 w5 hr hc0 hb; have HQ0 := Lib.hid hr; have HZ := Lib.hid hb; clear hr hb)
    | fail)
  have hb := HZ.out
  have HL5 := Lib.hid (HL4.out.later hb)
  have HX5 := Lib.hid (HX4.out.later hb)
  have HD5 := Lib.hid (HD4.out.later hb)
  have HT5 := Lib.hid (HT4.out.later hb)
  have HR1_5 := Lib.hid (HR1_4.out.later hb)
  have HR2_5 := Lib.hid (HR2_4.out.later hb)
  have HR3_5 := Lib.hid (HR3_4.out.later hb)
  have HB5 := Lib.hid (below_then HB4.out hb)
  clear hb HZ hcut0 HF0 HR0_4 HL4 HX4 HD4 HT4 HR1_4 HR2_4 HR3_4 HB4
  refine (getBytes_is (E0 ++ t) (by rw [bs_append]; exact HQ0.out) (by rw [List.length_append, HK0.out]) hc0 (by omega) G0.out).mono ?_
  rintro e w6 ⟨rfl, rfl⟩
  rw [str_back]
  obtain ⟨D1, hD1, hcut1⟩ := cut_full A1 k1 c1 hcap1
  have HF1 := Lib.hid (reads_full HR1_5.out hD1)
  clear hD1
  go_wp2_with (first
    | (at_builtin; refine wpList_append_full _ rfl (.tmp 72) (.tmp 73) 28 rfl 5 i0 (.int .u8 0) 1 1 Try.underlying28 hi hz0 hz1 hz2 rfl (by decide) D1 At k1 t.length ct (bs E1) (bs t) rfl HF1.out rfl HT5.out (bs_one _) (len_le (by omega)) (by omega) ?_; intro F1 g1 w6 hr hc1 hb; have HQ1 := Lib.hid hr; have HZ := Lib.hid hb; clear hr hb)
    | fail)
  have hb := HZ.out
  have HL6 := Lib.hid (HL5.out.later hb)
  have HX6 := Lib.hid (HX5.out.later hb)
  have HD6 := Lib.hid (HD5.out.later hb)
  have HT6 := Lib.hid (HT5.out.later hb)
  have HR2_6 := Lib.hid (HR2_5.out.later hb)
  have HR3_6 := Lib.hid (HR3_5.out.later hb)
  have HB6 := Lib.hid (below_then HB5.out hb)
  clear hb HZ hcut1 HF1 HR1_5 HL5 HX5 HD5 HT5 HR2_5 HR3_5 HB5
  refine (getInts_is (E1 ++ t) (by rw [bs_append]; exact HQ1.out) (by rw [List.length_append, HK1.out]) hc1 (by omega) G1.out).mono ?_
  rintro e w7 ⟨P1, p1, rfl, hr, hb⟩
  have HV1_7 := Lib.hid hr
  have HL7 := Lib.hid (HL6.out.later hb)
  have HX7 := Lib.hid (HX6.out.later hb)
  have HD7 := Lib.hid (HD6.out.later hb)
  have HT7 := Lib.hid (HT6.out.later hb)
  have HR2_7 := Lib.hid (HR2_6.out.later hb)
  have HR3_7 := Lib.hid (HR3_6.out.later hb)
  have HB7 := Lib.hid (below_then HB6.out hb)
  clear hb hr HQ1 HL6 HX6 HD6 HT6 HR2_6 HR3_6 HB6
  obtain ⟨D2, hD2, hcut2⟩ := cut_full A2 k2 c2 hcap2
  have HF2 := Lib.hid (reads_full HR2_7.out hD2)
  clear hD2
  go_wp2_with (first
    | (at_builtin; refine wpList_append_full _ rfl (.tmp 85) (.tmp 86) 28 rfl 5 i0 (.int .u8 0) 1 1 Try.underlying28 hi hz0 hz1 hz2 rfl (by decide) D2 At k2 t.length ct (bs E2) (bs t) rfl HF2.out rfl HT7.out (bs_one _) (len_le (by omega)) (by omega) ?_; intro F2 g2 w8 hr hc2 hb; have HQ2 := Lib.hid hr; have HZ := Lib.hid hb; clear hr hb)
    | fail)
  have hb := HZ.out
  have HL8 := Lib.hid (HL7.out.later hb)
  have HX8 := Lib.hid (HX7.out.later hb)
  have HD8 := Lib.hid (HD7.out.later hb)
  have HT8 := Lib.hid (HT7.out.later hb)
  have HR3_8 := Lib.hid (HR3_7.out.later hb)
  have HV1_8 := Lib.hid (HV1_7.out.later hb)
  have HB8 := Lib.hid (below_then HB7.out hb)
  clear hb HZ hcut2 HF2 HR2_7 HL7 HX7 HD7 HT7 HR3_7 HV1_7 HB7
  refine (getDigests_is (E2 ++ t) (by rw [bs_append]; exact HQ2.out) (by rw [List.length_append, HK2.out]) hc2 (by omega) G2.out).mono ?_
  rintro e w9 ⟨P2, p2, rfl, hr, hb⟩
  have HV2_9 := Lib.hid hr
  have HL9 := Lib.hid (HL8.out.later hb)
  have HX9 := Lib.hid (HX8.out.later hb)
  have HD9 := Lib.hid (HD8.out.later hb)
  have HT9 := Lib.hid (HT8.out.later hb)
  have HR3_9 := Lib.hid (HR3_8.out.later hb)
  have HV1_9 := Lib.hid (HV1_8.out.later hb)
  have HB9 := Lib.hid (below_then HB8.out hb)
  clear hb hr HQ2 HL8 HX8 HD8 HT8 HR3_8 HV1_8 HB8
  obtain ⟨D3, hD3, hcut3⟩ := cut_full A3 k3 c3 hcap3
  have HF3 := Lib.hid (reads_full HR3_9.out hD3)
  clear hD3
  go_wp2_with (first
    | (at_builtin; refine wpList_append_full _ rfl (.tmp 98) (.tmp 99) 28 rfl 5 i0 (.int .u8 0) 1 1 Try.underlying28 hi hz0 hz1 hz2 rfl (by decide) D3 At k3 t.length ct (bs E3) (bs t) rfl HF3.out rfl HT9.out (bs_one _) (len_le (by omega)) (by omega) ?_; intro F3 g3 w10 hr hc3 hb; have HQ3 := Lib.hid hr; have HZ := Lib.hid hb; clear hr hb)
    | fail)
  have hb := HZ.out
  have HL10 := Lib.hid (HL9.out.later hb)
  have HX10 := Lib.hid (HX9.out.later hb)
  have HD10 := Lib.hid (HD9.out.later hb)
  have HT10 := Lib.hid (HT9.out.later hb)
  have HV1_10 := Lib.hid (HV1_9.out.later hb)
  have HV2_10 := Lib.hid (HV2_9.out.later hb)
  have HB10 := Lib.hid (below_then HB9.out hb)
  clear hb HZ hcut3 HF3 HR3_9 HL9 HX9 HD9 HT9 HV1_9 HV2_9 HB9
  refine (getStrings_is (E3 ++ t) (by rw [bs_append]; exact HQ3.out) (by rw [List.length_append, HK3.out]) hc3 (by omega) G3.out).mono ?_
  rintro e w11 ⟨P3, p3, rfl, hr, hb⟩
  have HV3_11 := Lib.hid hr
  have HL11 := Lib.hid (HL10.out.later hb)
  have HX11 := Lib.hid (HX10.out.later hb)
  have HD11 := Lib.hid (HD10.out.later hb)
  have HT11 := Lib.hid (HT10.out.later hb)
  have HV1_11 := Lib.hid (HV1_10.out.later hb)
  have HV2_11 := Lib.hid (HV2_10.out.later hb)
  have HB11 := Lib.hid (below_then HB10.out hb)
  clear hb hr HQ3 HL10 HX10 HD10 HT10 HV1_10 HV2_10 HB10
  go_wp2_with fail
  refine (HSA.out _).mono ?_
  rintro e w12 ⟨rfl, hb⟩
  have HL12 := Lib.hid (HL11.out.later hb)
  have HX12 := Lib.hid (HX11.out.later hb)
  have HD12 := Lib.hid (HD11.out.later hb)
  have HT12 := Lib.hid (HT11.out.later hb)
  have HV1_12 := Lib.hid (HV1_11.out.later hb)
  have HV2_12 := Lib.hid (HV2_11.out.later hb)
  have HV3_12 := Lib.hid (HV3_11.out.later hb)
  have HB12 := Lib.hid (below_then HB11.out hb)
  clear hb HL11 HX11 HD11 HT11 HV1_11 HV2_11 HV3_11 HB11
  go_wp2_with fail
  refine (sameTexts _ _ P3 Ax p3 cx x _ HV3_12.out HX12.out (by omega)).mono ?_
  rintro e w13 ⟨rfl, hb⟩
  have HL13 := Lib.hid (HL12.out.later hb)
  have HX13 := Lib.hid (HX12.out.later hb)
  have HD13 := Lib.hid (HD12.out.later hb)
  have HT13 := Lib.hid (HT12.out.later hb)
  have HV1_13 := Lib.hid (HV1_12.out.later hb)
  have HV2_13 := Lib.hid (HV2_12.out.later hb)
  have HV3_13 := Lib.hid (HV3_12.out.later hb)
  have HB13 := Lib.hid (below_then HB12.out hb)
  clear hb HL12 HX12 HD12 HT12 HV1_12 HV2_12 HV3_12 HB12
  go_wp2_with fail
  refine (sameInts _ _ P1 Al p1 cl l _ HV1_13.out HL13.out (by omega)).mono ?_
  rintro e w14 ⟨rfl, hb⟩
  have HL14 := Lib.hid (HL13.out.later hb)
  have HX14 := Lib.hid (HX13.out.later hb)
  have HD14 := Lib.hid (HD13.out.later hb)
  have HT14 := Lib.hid (HT13.out.later hb)
  have HV1_14 := Lib.hid (HV1_13.out.later hb)
  have HV2_14 := Lib.hid (HV2_13.out.later hb)
  have HV3_14 := Lib.hid (HV3_13.out.later hb)
  have HB14 := Lib.hid (below_then HB13.out hb)
  clear hb HL13 HX13 HD13 HT13 HV1_13 HV2_13 HV3_13 HB13
  go_wp2_with fail
  refine (sameDigests _ _ P2 Ad p2 cd d _ HV2_14.out HD14.out (by omega) H16.out).mono ?_
  rintro e w15 ⟨rfl, hb⟩
  have HL15 := Lib.hid (HL14.out.later hb)
  have HX15 := Lib.hid (HX14.out.later hb)
  have HD15 := Lib.hid (HD14.out.later hb)
  have HT15 := Lib.hid (HT14.out.later hb)
  have HV1_15 := Lib.hid (HV1_14.out.later hb)
  have HV2_15 := Lib.hid (HV2_14.out.later hb)
  have HV3_15 := Lib.hid (HV3_14.out.later hb)
  have HB15 := Lib.hid (below_then HB14.out hb)
  clear hb HL14 HX14 HD14 HT14 HV1_14 HV2_14 HV3_14 HB14
  go_wp2_with fail
  go_ret
  exact ⟨rfl, HB15.out⟩
end Go.Proofs.Ytlemelfepalnfaa
