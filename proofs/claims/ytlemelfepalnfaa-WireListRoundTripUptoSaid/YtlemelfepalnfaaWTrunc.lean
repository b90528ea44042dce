/-
  THE WALK of WireTruncated, the sanity check by its contract.
-/
import Derived.Test.YtlemelfepalnfaaHelpD
import Derived.Test.YtlemelfepalnfaaWConcat
namespace Go.Proofs.Ytlemelfepalnfaa
open Go.RowKit WM

theorem total_mem (l : List ByteArray) : ∀ x ∈ l, x.size ≤ total l := by
  induction l with
  | nil => simp
  | cons y l ih =>
    intro x hx
    have e : total (y :: l) = y.size + total l := by simp [total]
    rcases List.mem_cons.1 hx with rfl | hx
    · omega
    · have := ih x hx; omega
theorem total_bound (l : List ByteArray) (M : Nat) (h : ∀ x ∈ l, x.size ≤ M) : total l ≤ l.length * M := by
  induction l with
  | nil => simp [total]
  | cons y l ih =>
    have e : total (y :: l) = y.size + total l := by simp [total]
    have h1 := h y (by simp)
    have h2 := ih (fun z hz => h z (by simp [hz]))
    rw [e, List.length_cons, Nat.add_mul]
    omega
theorem encS_len (l : List ByteArray) (hl : l.length ≤ 140737488355328) (ht : total l ≤ 140737488355328) : (encS l).length ≤ 9 + 9 * l.length + total l := by
  unfold encS encL
  rw [List.length_append]
  have h1 := (enc_len (n := (l.length : Int)) ⟨by omega, by omega⟩).2
  have h2 : (l.flatMap fun s => encB s.data.toList).length ≤ 9 * l.length + total l := by
    clear h1 hl
    induction l with
    | nil => simp
    | cons x l ih =>
      have e : total (x :: l) = x.size + total l := by simp [total]
      have h := encB_len x (by omega)
      have := ih (by omega)
      rw [List.flatMap_cons, List.length_append, List.length_cons]
      omega
  omega
theorem encD_len (l : List (List UInt8)) (h16 : ∀ x ∈ l, x.length = 16) (hl : l.length ≤ 140737488355328) : (encL id l).length ≤ 9 + 16 * l.length := by
  unfold encL
  rw [List.length_append]
  have h1 := (enc_len (n := (l.length : Int)) ⟨by omega, by omega⟩).2
  have h2 : (l.flatMap id).length ≤ 16 * l.length := by
    clear h1 hl
    induction l with
    | nil => simp
    | cons x l ih =>
      have h := h16 x (by simp)
      have := ih (fun y hy => h16 y (by simp [hy]))
      rw [List.flatMap_cons, List.length_append, List.length_cons]
      simp only [id]
      omega
  omega

set_option maxRecDepth 1000000 in
set_option maxHeartbeats 16000000 in
theorem walkTrunc (hsan : Sane) (n : Int) (hr : inRange n) (s : ByteArray) (hs : s.size ≤ 140737488355328) (Al : Option Addr) (cl : Nat) (l : List Int) (hl : l.length ≤ 140737488355328) (hlr : ∀ x ∈ l, inRange x)
    (Ax : Option Addr) (cx : Nat) (x : List ByteArray) (hxl : x.length ≤ 140737488355328) (hxs : ∀ y ∈ x, y.size ≤ 140737488355328) (Ad : Option Addr) (cd : Nat) (d : List (List UInt8)) (hd : d.length ≤ 140737488355328) (h16 : ∀ y ∈ d, y.length = 16) (w : World)
    (ha1 : Reads w w.heap.size 1 Al l.length (is l)) (ha2 : Reads w w.heap.size 1 Ax x.length (ss x)) (ha3 : Reads w w.heap.size 16 Ad d.length (dg d)) :
    Calls Try.prog 9 #[.int .i64 n, .string s, .slice Al l.length cl, .slice Ax x.length cx, .slice Ad d.length cd] w fun e w' => e = .returned (.bool true) ∧ Below w.heap.size w w' := by
  have HSA := Lib.hid hsan
  have HL := Lib.hid ha1
  have HX := Lib.hid ha2
  have HD := Lib.hid ha3
  have HR := Lib.hid hr
  have HLR := Lib.hid hlr
  have HXS := Lib.hid hxs
  have H16 := Lib.hid h16
  clear hsan ha1 ha2 ha3 hr hlr hxs h16
  by_cases hb1 : 400 < s.size + 9 * l.length + 16 * d.length
  · go_enter Try.func9, Try.ntmps9
    go_wp2_with (go_at_call 12; refine (HSA.out _).mono ?_; rintro e w' ⟨rfl, hb⟩; have HB := Lib.hid hb; clear hb)
    go_ret
    exact ⟨rfl, HB.out⟩
  by_cases hb2 : 40 < x.length
  · go_enter Try.func9, Try.ntmps9
    go_wp2_with (go_at_call 12; refine (HSA.out _).mono ?_; rintro e w' ⟨rfl, hb⟩; have HB := Lib.hid hb; clear hb)
    go_ret
    exact ⟨rfl, HB.out⟩
  have ht0 := total_bound x 140737488355328 HXS.out
  have HF := Lib.hid (few w.heap.size Ax cx x w HX.out (by omega))
  by_cases hb3 : 2000 < x.length + total x
  · have hdec : decide (x.length + total x ≤ 2000) = false := by simp; omega
    rw [hdec] at HF
    clear hdec
    go_enter Try.func9, Try.ntmps9
    go_wp2_with (first
      | (go_at_call 11; refine HF.out.mono ?_; rintro e w' ⟨rfl, rfl⟩)
      | (go_at_call 12; refine (HSA.out _).mono ?_; rintro e w' ⟨rfl, hb⟩; have HB := Lib.hid hb; clear hb))
    go_ret
    exact ⟨rfl, HB.out⟩
  have hdec : decide (x.length + total x ≤ 2000) = true := by simp; omega
  rw [hdec] at HF
  have e1 := enc_len HR.out
  have e2 := encB_len s hs
  have e3 := encInts_len l HLR.out hl
  have e4 := encS_len x hxl (by omega)
  have e5 := encD_len d H16.out hd
  obtain ⟨E0, hE0⟩ : ∃ E, E = WM.enc n := ⟨_, rfl⟩
  obtain ⟨E1, hE1⟩ : ∃ E, E = encB s.data.toList := ⟨_, rfl⟩
  obtain ⟨E2, hE2⟩ : ∃ E, E = encL WM.enc l := ⟨_, rfl⟩
  obtain ⟨E3, hE3⟩ : ∃ E, E = encS x := ⟨_, rfl⟩
  obtain ⟨E4, hE4⟩ : ∃ E, E = encL id d := ⟨_, rfl⟩
  rw [← hE0] at e1
  rw [← hE1] at e2
  rw [← hE2] at e3
  rw [← hE3] at e4
  rw [← hE4] at e5
  have HE0 := Lib.hid hE0
  have HE1 := Lib.hid hE1
  have HE2 := Lib.hid hE2
  have HE3 := Lib.hid hE3
  have HE4 := Lib.hid hE4
  obtain ⟨_, e1⟩ := e1
  clear hE0 hE1 hE2 hE3 hE4 hdec
  go_enter Try.func9, Try.ntmps9
  go_wp2_with (go_at_call 11; refine HF.out.mono ?_; rintro e w' ⟨rfl, rfl⟩)
  refine (encInt n w HR.out).mono ?_
  rw [← HE0.out]
  rintro e w1 ⟨A0, c0, rfl, ho, hb⟩
  obtain ⟨k0, hk0⟩ : ∃ k, k = E0.length := ⟨_, rfl⟩
  rw [← hk0] at ho e1 ⊢
  have hcap0 := own_cap ho
  have HK0 := Lib.hid hk0.symm
  have HR0_1 := Lib.hid (Reads.of_own ho)
  have HB1 := Lib.hid hb
  clear hb ho hk0 
  go_wp2_with fail
  refine (encBytes s w1 (by omega)).mono ?_
  rw [← HE1.out]
  rintro e w2 ⟨A1, c1, rfl, ho, hb⟩
  obtain ⟨k1, hk1⟩ : ∃ k, k = E1.length := ⟨_, rfl⟩
  rw [← hk1] at ho e2 ⊢
  have hcap1 := own_cap ho
  have HK1 := Lib.hid hk1.symm
  have HR1_2 := Lib.hid (Reads.of_own ho)
  have HR0_2 := Lib.hid (HR0_1.out.later hb)
  have HB2 := Lib.hid (below_then HB1.out hb)
  clear hb ho hk1 HR0_1 HB1
  go_wp2_with fail
  refine (encInts Al l cl w2 (HL.out.later HB2.out) HLR.out (by rw [← HE2.out]; omega) (by omega)).mono ?_
  rw [← HE2.out]
  rintro e w3 ⟨A2, c2, rfl, ho, hb⟩
  obtain ⟨k2, hk2⟩ : ∃ k, k = E2.length := ⟨_, rfl⟩
  rw [← hk2] at ho e3 ⊢
  have hcap2 := own_cap ho
  have HK2 := Lib.hid hk2.symm
  have HR2_3 := Lib.hid (Reads.of_own ho)
  have HR0_3 := Lib.hid (HR0_2.out.later hb)
  have HR1_3 := Lib.hid (HR1_2.out.later hb)
  have HB3 := Lib.hid (below_then HB2.out hb)
  clear hb ho hk2 HR0_2 HR1_2 HB2
  go_wp2_with fail
  refine (encStrings Ax x cx w3 (HX.out.later HB3.out) (by rw [← HE3.out]; omega) (by omega)).mono ?_
  rw [← HE3.out]
  rintro e w4 ⟨A3, c3, rfl, ho, hb⟩
  obtain ⟨k3, hk3⟩ : ∃ k, k = E3.length := ⟨_, rfl⟩
  rw [← hk3] at ho e4 ⊢
  have hcap3 := own_cap ho
  have HK3 := Lib.hid hk3.symm
  have HR3_4 := Lib.hid (Reads.of_own ho)
  have HR0_4 := Lib.hid (HR0_3.out.later hb)
  have HR1_4 := Lib.hid (HR1_3.out.later hb)
  have HR2_4 := Lib.hid (HR2_3.out.later hb)
  have HB4 := Lib.hid (below_then HB3.out hb)
  clear hb ho hk3 HR0_3 HR1_3 HR2_3 HB3
  go_wp2_with fail
  refine (encDigests Ad d cd w4 (HD.out.later HB4.out) H16.out (by omega)).mono ?_
  rw [← HE4.out]
  rintro e w5 ⟨A4, c4, rfl, ho, hb⟩
  obtain ⟨k4, hk4⟩ : ∃ k, k = E4.length := ⟨_, rfl⟩
  rw [← hk4] at ho e5 ⊢
  have hcap4 := own_cap ho
  have HK4 := Lib.hid hk4.symm
  have HR4_5 := Lib.hid (Reads.of_own ho)
  have HR0_5 := Lib.hid (HR0_4.out.later hb)
  have HR1_5 := Lib.hid (HR1_4.out.later hb)
  have HR2_5 := Lib.hid (HR2_4.out.later hb)
  have HR3_5 := Lib.hid (HR3_4.out.later hb)
  have HB5 := Lib.hid (below_then HB4.out hb)
  clear hb ho hk4 HR0_4 HR1_4 HR2_4 HR3_4 HB4
  go_wp2_with fail
  have HK6 := Lib.hid (heap_alloc_new w5 (.cells #[.slice A0 k0 c0, .slice A1 k1 c1, .slice A2 k2 c2, .slice A3 k3 c3, .slice A4 k4 c4] 28))
  have HB6 := Lib.hid (below_then HB5.out (below_new w5 (.cells #[.slice A0 k0 c0, .slice A1 k1 c1, .slice A2 k2 c2, .slice A3 k3 c3, .slice A4 k4 c4] 28)))
  have HR0_6 := Lib.hid (HR0_5.out.later (below_new w5 (.cells #[.slice A0 k0 c0, .slice A1 k1 c1, .slice A2 k2 c2, .slice A3 k3 c3, .slice A4 k4 c4] 28)))
  have HR1_6 := Lib.hid (HR1_5.out.later (below_new w5 (.cells #[.slice A0 k0 c0, .slice A1 k1 c1, .slice A2 k2 c2, .slice A3 k3 c3, .slice A4 k4 c4] 28)))
  have HR2_6 := Lib.hid (HR2_5.out.later (below_new w5 (.cells #[.slice A0 k0 c0, .slice A1 k1 c1, .slice A2 k2 c2, .slice A3 k3 c3, .slice A4 k4 c4] 28)))
  have HR3_6 := Lib.hid (HR3_5.out.later (below_new w5 (.cells #[.slice A0 k0 c0, .slice A1 k1 c1, .slice A2 k2 c2, .slice A3 k3 c3, .slice A4 k4 c4] 28)))
  have HR4_6 := Lib.hid (HR4_5.out.later (below_new w5 (.cells #[.slice A0 k0 c0, .slice A1 k1 c1, .slice A2 k2 c2, .slice A3 k3 c3, .slice A4 k4 c4] 28)))
  clear HB5 HR0_5 HR1_5 HR2_5 HR3_5 HR4_5
  generalize w5.alloc (.cells #[.slice A0 k0 c0, .slice A1 k1 c1, .slice A2 k2 c2, .slice A3 k3 c3, .slice A4 k4 c4] 28) = w6 at HK6 HB6 HR0_6 HR1_6 HR2_6 HR3_6 HR4_6 ⊢
  generalize w5.heap.size = gs at HK6 ⊢
  have T0 := Lib.hid (fun (W : World) (h : Reads W W.heap.size 1 A0 k0 (bs E0)) (i : Nat) (hi : i < k0) => tr_int HR.out (HE0.out ▸ h) (HE0.out ▸ HK0.out) hcap0 i hi)
  have T1 := Lib.hid (fun (W : World) (h : Reads W W.heap.size 1 A1 k1 (bs E1)) (i : Nat) (hi : i < k1) => tr_bytes (by omega) (HE1.out ▸ h) (HE1.out ▸ HK1.out) hcap1 i hi)
  have T2 := Lib.hid (fun (W : World) (h : Reads W W.heap.size 1 A2 k2 (bs E2)) (i : Nat) (hi : i < k2) (h5 : i ≤ 500) => tr_ints HLR.out (by omega) (HE2.out ▸ h) (HE2.out ▸ HK2.out) hcap2 i hi h5)
  have T3 := Lib.hid (fun (W : World) (h : Reads W W.heap.size 1 A3 k3 (bs E3)) (i : Nat) (hi : i < k3) (h5 : i ≤ 500) => tr_strings HXS.out (by omega) (HE3.out ▸ h) (HE3.out ▸ HK3.out) hcap3 i hi h5)
  have T4 := Lib.hid (fun (W : World) (h : Reads W W.heap.size 1 A4 k4 (bs E4)) (i : Nat) (hi : i < k4) (h5 : i ≤ 500) => tr_digests H16.out (by omega) (HE4.out ▸ h) (HE4.out ▸ HK4.out) hcap4 i hi h5)
  clear HL HX HD HF HE0 HE1 HE2 HE3 HE4 HK0 HK1 HK2 HK3 HK4 HR HLR HXS H16
  refine wp_loop_rounds 6 ?_
  have hc0 : w6.cell? ⟨gs, 0, none⟩ = some (.slice A0 k0 c0) := (cell_of_row w6 gs 0 _ _ _ HK6.out).trans rfl
  rw [rounds_succ]
  go_wp2
  go_loopw [57] (fun i wr => ∃ j : Nat, j ≤ k0 ∧ i = .int .i64 j ∧ Hid (Below w6.heap.size w6 wr)) (fun i _ => k0 - (intOf i).toNat)
  case atStart => exact ⟨0, Nat.zero_le _, rfl, Below.refl _ _⟩
  case round =>
    obtain ⟨j, hj, rfl, hbel⟩ := hrel
    clear hc0
    by_cases hlt : j < k0
    · go_wp2_with (go_at_call 24; refine (T0.out _ (HR0_6.out.later hbel.out) j (by omega)).mono ?_; rintro e w' ⟨rfl, hb⟩; have HBQ := Lib.hid hb; clear hb)
      go_roundw
      case rel => exact ⟨j + 1, by omega, by go_num, below_then hbel.out HBQ.out⟩
      case measure => simp [intOf]; omega
    · obtain rfl : j = k0 := by omega
      obtain ⟨W60, hW60⟩ : ∃ W : World, W = wr := ⟨_, rfl⟩
      rw [← hW60] at hbel ⊢
      have HB60 := Lib.hid (below_then HB6.out hbel.out)
      have HK60 := Lib.hid ((hbel.out.block _ (lt_of_block HK6.out)).trans HK6.out)
      have HR1_60 := Lib.hid (HR1_6.out.later hbel.out)
      have HR2_60 := Lib.hid (HR2_6.out.later hbel.out)
      have HR3_60 := Lib.hid (HR3_6.out.later hbel.out)
      have HR4_60 := Lib.hid (HR4_6.out.later hbel.out)
      clear hbel hlt hj hW60 HK6 HB6 HR0_6 HR1_6 HR2_6 HR3_6 HR4_6
      go_wp2
      have hc1 : W60.cell? ⟨gs, 1, none⟩ = some (.slice A1 k1 c1) := (cell_of_row W60 gs 1 _ _ _ HK60.out).trans rfl
      rw [rounds_succ]
      go_wp2
      go_loopw [57] (fun i wr => ∃ j : Nat, j ≤ k1 ∧ i = .int .i64 j ∧ Hid (Below W60.heap.size W60 wr)) (fun i _ => k1 - (intOf i).toNat)
      case atStart => exact ⟨0, Nat.zero_le _, rfl, Below.refl _ _⟩
      case round =>
        obtain ⟨j, hj, rfl, hbel⟩ := hrel
        clear hc1
        by_cases hlt : j < k1
        · go_wp2_with (go_at_call 26; refine (T1.out _ (HR1_60.out.later hbel.out) j (by omega)).mono ?_; rintro e w' ⟨rfl, hb⟩; have HBQ := Lib.hid hb; clear hb)
          go_roundw
          case rel => exact ⟨j + 1, by omega, by go_num, below_then hbel.out HBQ.out⟩
          case measure => simp [intOf]; omega
        · obtain rfl : j = k1 := by omega
          obtain ⟨W601, hW601⟩ : ∃ W : World, W = wr := ⟨_, rfl⟩
          rw [← hW601] at hbel ⊢
          have HB601 := Lib.hid (below_then HB60.out hbel.out)
          have HK601 := Lib.hid ((hbel.out.block _ (lt_of_block HK60.out)).trans HK60.out)
          have HR2_601 := Lib.hid (HR2_60.out.later hbel.out)
          have HR3_601 := Lib.hid (HR3_60.out.later hbel.out)
          have HR4_601 := Lib.hid (HR4_60.out.later hbel.out)
          clear hbel hlt hj hW601 HK60 HB60 HR1_60 HR2_60 HR3_60 HR4_60
          go_wp2
          have hc2 : W601.cell? ⟨gs, 2, none⟩ = some (.slice A2 k2 c2) := (cell_of_row W601 gs 2 _ _ _ HK601.out).trans rfl
          rw [rounds_succ]
          go_wp2
          go_loopw [57] (fun i wr => ∃ j : Nat, j ≤ k2 ∧ i = .int .i64 j ∧ Hid (Below W601.heap.size W601 wr)) (fun i _ => k2 - (intOf i).toNat)
          case atStart => exact ⟨0, Nat.zero_le _, rfl, Below.refl _ _⟩
          case round =>
            obtain ⟨j, hj, rfl, hbel⟩ := hrel
            clear hc2
            by_cases hlt : j < k2
            · go_wp2_with (go_at_call 28; refine (T2.out _ (HR2_601.out.later hbel.out) j (by omega) (by omega)).mono ?_; rintro e w' ⟨rfl, hb⟩; have HBQ := Lib.hid hb; clear hb)
              go_roundw
              case rel => exact ⟨j + 1, by omega, by go_num, below_then hbel.out HBQ.out⟩
              case measure => simp [intOf]; omega
            · obtain rfl : j = k2 := by omega
              obtain ⟨W6012, hW6012⟩ : ∃ W : World, W = wr := ⟨_, rfl⟩
              rw [← hW6012] at hbel ⊢
              have HB6012 := Lib.hid (below_then HB601.out hbel.out)
              have HK6012 := Lib.hid ((hbel.out.block _ (lt_of_block HK601.out)).trans HK601.out)
              have HR3_6012 := Lib.hid (HR3_601.out.later hbel.out)
              have HR4_6012 := Lib.hid (HR4_601.out.later hbel.out)
              clear hbel hlt hj hW6012 HK601 HB601 HR2_601 HR3_601 HR4_601
              go_wp2
              by_cases h3 : 500 < k3
              · have hc3 : W6012.cell? ⟨gs, 3, none⟩ = some (.slice A3 k3 c3) := (cell_of_row W6012 gs 3 _ _ _ HK6012.out).trans rfl
                rw [rounds_succ]
                go_wp2
                go_loopw [57] (fun i wr => ∃ j : Nat, j ≤ 500 ∧ i = .int .i64 j ∧ Hid (Below W6012.heap.size W6012 wr)) (fun i _ => 500 - (intOf i).toNat)
                case atStart => exact ⟨0, Nat.zero_le _, rfl, Below.refl _ _⟩
                case round =>
                  obtain ⟨j, hj, rfl, hbel⟩ := hrel
                  clear hc3
                  by_cases hlt : j < 500
                  · go_wp2_with (go_at_call 31; refine (T3.out _ (HR3_6012.out.later hbel.out) j (by omega) (by omega)).mono ?_; rintro e w' ⟨rfl, hb⟩; have HBQ := Lib.hid hb; clear hb)
                    go_roundw
                    case rel => exact ⟨j + 1, by omega, by go_num, below_then hbel.out HBQ.out⟩
                    case measure => simp [intOf]; omega
                  · obtain rfl : j = 500 := by omega
                    obtain ⟨W60123a, hW60123a⟩ : ∃ W : World, W = wr := ⟨_, rfl⟩
                    rw [← hW60123a] at hbel ⊢
                    have HB60123a := Lib.hid (below_then HB6012.out hbel.out)
                    have HK60123a := Lib.hid ((hbel.out.block _ (lt_of_block HK6012.out)).trans HK6012.out)
                    have HR4_60123a := Lib.hid (HR4_6012.out.later hbel.out)
                    clear hbel hlt hj hW60123a HK6012 HB6012 HR3_6012 HR4_6012
                    go_wp2
                    have hc4 : W60123a.cell? ⟨gs, 4, none⟩ = some (.slice A4 k4 c4) := (cell_of_row W60123a gs 4 _ _ _ HK60123a.out).trans rfl
                    rw [rounds_succ]
                    go_wp2
                    go_loopw [57] (fun i wr => ∃ j : Nat, j ≤ k4 ∧ i = .int .i64 j ∧ Hid (Below W60123a.heap.size W60123a wr)) (fun i _ => k4 - (intOf i).toNat)
                    case atStart => exact ⟨0, Nat.zero_le _, rfl, Below.refl _ _⟩
                    case round =>
                      obtain ⟨j, hj, rfl, hbel⟩ := hrel
                      clear hc4
                      by_cases hlt : j < k4
                      · go_wp2_with (go_at_call 34; refine (T4.out _ (HR4_60123a.out.later hbel.out) j (by omega) (by omega)).mono ?_; rintro e w' ⟨rfl, hb⟩; have HBQ := Lib.hid hb; clear hb)
                        go_roundw
                        case rel => exact ⟨j + 1, by omega, by go_num, below_then hbel.out HBQ.out⟩
                        case measure => simp [intOf]; omega
                      · obtain rfl : j = k4 := by omega
                        obtain ⟨W60123a4, hW60123a4⟩ : ∃ W : World, W = wr := ⟨_, rfl⟩
                        rw [← hW60123a4] at hbel ⊢
                        have HB60123a4 := Lib.hid (below_then HB60123a.out hbel.out)
                        have HK60123a4 := Lib.hid ((hbel.out.block _ (lt_of_block HK60123a.out)).trans HK60123a.out)
                        clear hbel hlt hj hW60123a4 HK60123a HB60123a HR4_60123a
                        go_wp2
                        rw [rounds_succ]
                        go_wp2_with (go_at_call 12; refine (HSA.out _).mono ?_; rintro e w' ⟨rfl, hb⟩; have HBZ := Lib.hid hb; clear hb)
                        go_ret
                        exact ⟨rfl, below_then HB60123a4.out HBZ.out⟩
              · have hc3 : W6012.cell? ⟨gs, 3, none⟩ = some (.slice A3 k3 c3) := (cell_of_row W6012 gs 3 _ _ _ HK6012.out).trans rfl
                rw [rounds_succ]
                go_wp2
                go_loopw [57] (fun i wr => ∃ j : Nat, j ≤ k3 ∧ i = .int .i64 j ∧ Hid (Below W6012.heap.size W6012 wr)) (fun i _ => k3 - (intOf i).toNat)
                case atStart => exact ⟨0, Nat.zero_le _, rfl, Below.refl _ _⟩
                case round =>
                  obtain ⟨j, hj, rfl, hbel⟩ := hrel
                  clear hc3
                  by_cases hlt : j < k3
                  · go_wp2_with (go_at_call 31; refine (T3.out _ (HR3_6012.out.later hbel.out) j (by omega) (by omega)).mono ?_; rintro e w' ⟨rfl, hb⟩; have HBQ := Lib.hid hb; clear hb)
                    go_roundw
                    case rel => exact ⟨j + 1, by omega, by go_num, below_then hbel.out HBQ.out⟩
                    case measure => simp [intOf]; omega
                  · obtain rfl : j = k3 := by omega
                    obtain ⟨W60123, hW60123⟩ : ∃ W : World, W = wr := ⟨_, rfl⟩
                    rw [← hW60123] at hbel ⊢
                    have HB60123 := Lib.hid (below_then HB6012.out hbel.out)
                    have HK60123 := Lib.hid ((hbel.out.block _ (lt_of_block HK6012.out)).trans HK6012.out)
                    have HR4_60123 := Lib.hid (HR4_6012.out.later hbel.out)
                    clear hbel hlt hj hW60123 HK6012 HB6012 HR3_6012 HR4_6012
                    go_wp2
                    have hc4 : W60123.cell? ⟨gs, 4, none⟩ = some (.slice A4 k4 c4) := (cell_of_row W60123 gs 4 _ _ _ HK60123.out).trans rfl
                    rw [rounds_succ]
                    go_wp2
                    go_loopw [57] (fun i wr => ∃ j : Nat, j ≤ k4 ∧ i = .int .i64 j ∧ Hid (Below W60123.heap.size W60123 wr)) (fun i _ => k4 - (intOf i).toNat)
                    case atStart => exact ⟨0, Nat.zero_le _, rfl, Below.refl _ _⟩
                    case round =>
                      obtain ⟨j, hj, rfl, hbel⟩ := hrel
                      clear hc4
                      by_cases hlt : j < k4
                      · go_wp2_with (go_at_call 34; refine (T4.out _ (HR4_60123.out.later hbel.out) j (by omega) (by omega)).mono ?_; rintro e w' ⟨rfl, hb⟩; have HBQ := Lib.hid hb; clear hb)
                        go_roundw
                        case rel => exact ⟨j + 1, by omega, by go_num, below_then hbel.out HBQ.out⟩
                        case measure => simp [intOf]; omega
                      · obtain rfl : j = k4 := by omega
                        obtain ⟨W601234, hW601234⟩ : ∃ W : World, W = wr := ⟨_, rfl⟩
                        rw [← hW601234] at hbel ⊢
                        have HB601234 := Lib.hid (below_then HB60123.out hbel.out)
                        have HK601234 := Lib.hid ((hbel.out.block _ (lt_of_block HK60123.out)).trans HK60123.out)
                        clear hbel hlt hj hW601234 HK60123 HB60123 HR4_60123
                        go_wp2
                        rw [rounds_succ]
                        go_wp2_with (go_at_call 12; refine (HSA.out _).mono ?_; rintro e w' ⟨rfl, hb⟩; have HBZ := Lib.hid hb; clear hb)
                        go_ret
                        exact ⟨rfl, below_then HB601234.out HBZ.out⟩
end Go.Proofs.Ytlemelfepalnfaa
