/-
  scoriaref01.Same and scoriaref01.GetInt, by their contracts.
-/
import Derived.Test.YtbdknncmlcbbpaaDoorG36
import Derived.Test.YtbdknncmlcbbpaaDoorG32
import Derived.Deep.QuietTactic
import Derived.BigQuiet
import Derived.Outline
import Derived.Deep.RegionWith
import Derived.Deep.DeepCutAuto
set_option linter.unusedVariables false
namespace Go.Proofs.YtbdknncmlcbbpaaDoor
open Go.RowKit WM

theorem Tryd.slBytes : Tryd.prog.underlying 32 = some (.slice (Tryd.prog.elem 32)) := by kernel_rfl
theorem Tryd.elemBytes : Tryd.prog.elem 32 = 5 := by kernel_rfl
theorem reads_take {w : World} {B n hi : Nat} {A : Option Addr} {xs : List Value} (h : Reads w B 1 A n xs) (hh : hi ≤ n) : Reads w B 1 A hi (xs.take hi) := by
  refine ⟨by rw [List.length_take, h.1]; omega, fun hn => ?_⟩
  obtain ⟨ad, rfl, hb, hcell⟩ := h.2 (by omega)
  refine ⟨ad, rfl, hb, fun j u hu => hcell j u ?_⟩
  rw [List.getElem?_take] at hu
  split at hu
  · exact hu
  · cases hu

set_option maxHeartbeats 400000 in
theorem same (B1 B2 : Nat) (A1 A2 : Option Addr) (c1 c2 : Nat) (l : List UInt8) (w : World) (h1 : Reads w B1 1 A1 l.length (bs l)) (h2 : Reads w B2 1 A2 l.length (bs l)) (hl : l.length ≤ 140737488355328) :
    Calls Tryd.prog 14 #[.slice A1 l.length c1, .slice A2 l.length c2] w fun e w' => e = .returned (.bool true) ∧ Below w.heap.size w w' := by
  have H1 := Lib.hid h1
  have H2 := Lib.hid h2
  clear h1 h2
  go_enter Tryd.func14, Tryd.ntmps14
  go_wp2
  go_loopw [5] (fun i wr => ∃ k m : Nat, k ≤ l.length ∧ i = .int .i64 k ∧ wr = w.drewN m) (fun i _ => l.length - (intOf i).toNat)
  case atStart => exact ⟨0, 0, Nat.zero_le _, rfl, rfl⟩
  case round =>
    obtain ⟨k, m, hk, rfl, rfl⟩ := hrel
    by_cases hlt : k < l.length
    · obtain ⟨b1, off1, rfl, _, hc1⟩ := H1.out.lit (by omega)
      obtain ⟨b2, off2, rfl, _, hc2⟩ := H2.out.lit (by omega)
      have hx1 := hc1 k _ (bs_get l k hlt)
      have hx2 := hc2 k _ (bs_get l k hlt)
      obtain ⟨x, hx⟩ : ∃ x, x = l[k].toNat := ⟨_, rfl⟩
      rw [← hx] at hx1 hx2
      clear hc1 hc2 hx
      have hk1 : (k : Int) < (l.length : Int) := by omega
      go_wp2
      go_quiet (fail)
      go_wp2
      go_roundw
      case rel => exact ⟨k + 1, _, by omega, by go_num, rfl⟩
      case measure => simp [intOf]; omega
    · obtain rfl : k = l.length := by omega
      go_wp2
      go_ret
      exact ⟨rfl, below_drewN (Below.refl _ _) _⟩

set_option maxHeartbeats 800000 in
theorem sameNe (B1 B2 : Nat) (A1 A2 : Option Addr) (c1 c2 : Nat) (l1 l2 : List UInt8) (w : World) (h1 : Reads w B1 1 A1 l1.length (bs l1)) (h2 : Reads w B2 1 A2 l2.length (bs l2)) (hl1 : l1.length ≤ 140737488355328) (hne : l1 ≠ l2) :
    Calls Tryd.prog 14 #[.slice A1 l1.length c1, .slice A2 l2.length c2] w fun e w' => e = .returned (.bool false) ∧ Below w.heap.size w w' := by
  have H1 := Lib.hid h1
  have H2 := Lib.hid h2
  have HNE := Lib.hid hne
  clear h1 h2 hne
  by_cases hlen : l1.length = l2.length
  · rw [← hlen] at H2 ⊢
    have HLEN := Lib.hid hlen
    clear hlen
    go_enter Tryd.func14, Tryd.ntmps14
    go_wp2
    go_loopw [5] (fun i wr => ∃ k m : Nat, k ≤ l1.length ∧ i = .int .i64 k ∧ wr = w.drewN m ∧ Hid (l1.take k = l2.take k)) (fun i _ => l1.length - (intOf i).toNat)
    case atStart => exact ⟨0, 0, Nat.zero_le _, rfl, rfl, rfl⟩
    case round =>
      obtain ⟨k, m, hk, rfl, rfl, HT⟩ := hrel
      by_cases hlt : k < l1.length
      · have hlt2 : k < l2.length := by rw [← HLEN.out]; exact hlt
        obtain ⟨b1, off1, rfl, _, hc1⟩ := H1.out.lit (by omega)
        obtain ⟨b2, off2, rfl, _, hc2⟩ := H2.out.lit (by omega)
        have hx1 := hc1 k _ (bs_get l1 k hlt)
        have hx2 := hc2 k _ (bs_get l2 k hlt2)
        have HN1 := Lib.hid (List.take_succ_eq_append_getElem hlt)
        have HN2 := Lib.hid (List.take_succ_eq_append_getElem hlt2)
        obtain ⟨x, hx⟩ : ∃ x, x = l1[k] := ⟨_, rfl⟩
        obtain ⟨y, hy⟩ : ∃ y, y = l2[k] := ⟨_, rfl⟩
        rw [← hx] at hx1 HN1
        rw [← hy] at hx2 HN2
        have hk1 : (k : Int) < (l1.length : Int) := by omega
        have hk2 : (k : Int) < (l2.length : Int) := by omega
        clear hc1 hc2 hx hy
        by_cases hxy : x = y
        · subst hxy
          go_wp2
          go_quiet (fail)
          go_wp2
          go_roundw
          case rel => exact ⟨k + 1, _, by omega, by go_num, rfl, by show _ = _; rw [HN1.out, HN2.out, HT.out]⟩
          case measure => simp [intOf]; omega
        · have hne : ((x.toNat : Int) != (y.toNat : Int)) = true := by
            have : x.toNat ≠ y.toNat := fun e => hxy (UInt8.toNat_inj.1 e)
            simp; omega
          have HXY := Lib.hid hxy
          clear hxy
          go_wp2
          go_quiet (fail)
          go_wp2
          go_ret
          exact ⟨rfl, below_drewN (below_drewN (Below.refl _ _) _) _⟩
      · obtain rfl : k = l1.length := by omega
        exfalso
        apply HNE.out
        have h := HT.out
        rw [List.take_length, HLEN.out, List.take_length] at h
        exact h
  · have hne : ((l1.length : Int) != (l2.length : Int)) = true := by simp; omega
    have HLEN := Lib.hid hlen
    clear hlen
    go_enter Tryd.func14, Tryd.ntmps14
    go_wp2
    go_ret
    exact ⟨rfl, Below.refl _ _⟩

theorem gInt_cons {x : UInt8} {t : List UInt8} (h8 : ¬ 8 < kOf x) (hl : ¬ t.length < kOf x) :
    gInt (x :: t) = if (unm x (t.take (kOf x))).head? = some 0 then .form else fits (val (unm x (t.take (kOf x)))) (.ok (sgn x (val (unm x (t.take (kOf x))))) (kOf x + 1)) := by
  simp only [gInt]
  rw [if_neg h8, if_neg hl]
  rfl

/-- Where the number fits, comparing with its encoding tells whether it is accepted. -/
theorem gInt_back {x : UInt8} {t : List UInt8} {n : Int} {v : Nat} (h8 : ¬ 8 < kOf x) (hl : ¬ t.length < kOf x) (hv : v = val (unm x (t.take (kOf x)))) (hv63 : v ≤ 9223372036854775807) (hn : n = sgn x v) :
    (enc n = x :: t.take (kOf x) ∧ gInt (x :: t) = .ok n (kOf x + 1)) ∨ (enc n ≠ x :: t.take (kOf x) ∧ gInt (x :: t) = .form) := by
  have hc := gInt_cons h8 hl
  rw [← hv] at hc
  have hr : inRange n := by subst hn; unfold sgn; split <;> exact ⟨by omega, by omega⟩
  by_cases hz : (unm x (t.take (kOf x))).head? = some 0
  · rw [if_pos hz] at hc
    refine .inr ⟨fun e => ?_, hc⟩
    have h1 := gInt_enc hr (t.drop (kOf x))
    rw [e, List.cons_append, List.take_append_drop, hc] at h1
    cases h1
  · rw [if_neg hz, fits_yes _ _ hv63, ← hn] at hc
    obtain ⟨_, t', e1, e2⟩ := gInt_ok hc
    refine .inl ⟨?_, hc⟩
    have h1 : (x :: t).take (kOf x + 1) = (enc n ++ t').take (kOf x + 1) := by rw [e1]
    rw [e2, List.take_left, ← e2, List.take_succ_cons] at h1
    exact h1.symm

theorem undrew2 {w w' : World} (h : Below w.drew.heap.size w.drew w') : Below w.heap.size w w' := ⟨h.os, h.tape, h.output, h.size, h.block⟩
theorem refIntK {n : Int} {k : Nat} (w : World) (hr : inRange n) (hk : (enc n).length = k) :
    Calls Tryd.prog 44 #[.int .i64 n] w fun e w' => ∃ A c, e = .returned (.slice A k c) ∧ Reads w' w'.heap.size 1 A k (bs (enc n)) ∧ Below w.heap.size w w' := by
  subst hk
  exact (refInt n w hr).mono fun _ _ ⟨A, c, he, ho, hb⟩ => ⟨A, c, he, Reads.of_own ho, hb⟩
theorem sameW {w : World} {A1 A2 : Option Addr} {c1 c2 k : Nat} {l : List UInt8} (h1 : Reads w w.heap.size 1 A1 k (bs l)) (h2 : Reads w w.heap.size 1 A2 k (bs l)) (hk : l.length = k) (hl : k ≤ 1000000) :
    Calls Tryd.prog 14 #[.slice A1 k c1, .slice A2 k c2] w fun e w' => e = .returned (.bool true) ∧ Below w.heap.size w w' := by
  subst hk
  exact same _ _ A1 A2 c1 c2 l w h1 h2 (by omega)
theorem sameNeK {w : World} {A1 A2 : Option Addr} {c1 c2 k1 k2 : Nat} {l1 l2 : List UInt8} (h1 : Reads w w.heap.size 1 A1 k1 (bs l1)) (h2 : Reads w w.heap.size 1 A2 k2 (bs l2)) (hk1 : l1.length = k1) (hk2 : l2.length = k2) (hl : k1 ≤ 1000000) (hne : l1 ≠ l2) :
    Calls Tryd.prog 14 #[.slice A1 k1 c1, .slice A2 k2 c2] w fun e w' => e = .returned (.bool false) ∧ Below w.heap.size w w' := by
  subst hk1 hk2
  exact sameNe _ _ A1 A2 c1 c2 l1 l2 w h1 h2 (by omega) hne

theorem cut_lit (b off N c j : Nat) (h : j + 1 ≤ c) : ∀ W : World, (Instr.sliceAt 32 (.slice (some ⟨b, off, none⟩) N c) none (some (.int .i64 ((j : Int) + 1))) none).run Tryd.prog W = .ok (.slice (some ⟨b, off, none⟩) (j + 1) c) W := by
  intro W
  rw [run_sliceAt_slice W 32 _ _ _ _ Tryd.slBytes, run_slice_h W 32 (some ⟨b, off, none⟩) N c Tryd.slBytes .i64 ((j : Int) + 1) (by omega) (by omega), Tryd.elemBytes, Tryd.siz5]
  have e : ((j : Int) + 1).toNat = j + 1 := by omega
  simp [sliced, e, Addr.add]

theorem val_grow (us : List UInt8) (j : Nat) (h : 36028797018963967 < val (us.take j)) (hj : j < us.length) : 9223372036854775807 < val us := by
  have h0 := foldl_ge (us.drop j) (val (us.take j))
  have e : (us.drop j).foldl (fun m d => m * 256 + d.toNat) (val (us.take j)) = val us := by
    unfold val
    rw [← List.foldl_append, List.take_append_drop]
  rw [e] at h0
  have h1 : 256 ^ 1 ≤ 256 ^ (us.drop j).length := Nat.pow_le_pow_right (by omega) (by rw [List.length_drop]; omega)
  have h2 : (36028797018963967 + 1) * 256 ^ 1 ≤ val (us.take j) * 256 ^ (us.drop j).length := Nat.mul_le_mul h h1
  omega
theorem gInt_great {x : UInt8} {t : List UInt8} (h8 : ¬ 8 < kOf x) (hl : ¬ t.length < kOf x) (hv : 9223372036854775807 < val (unm x (t.take (kOf x)))) : gInt (x :: t) = .form := by
  rw [gInt_cons h8 hl, fits_no _ _ hv]
  simp

set_option maxRecDepth 100000 in
set_option maxHeartbeats 1600000 in
theorem refGetP (b off c : Nat) (x : UInt8) (t : List UInt8) (w : World) (ha : Reads w w.heap.size 1 (some ⟨b, off, none⟩) (x :: t).length (bs (x :: t))) (hlc : (x :: t).length ≤ c) (hl : (x :: t).length ≤ 1000000) (hx : 128 ≤ x.toNat) (hx2 : x.toNat ≤ 136) (hlen : kOf x ≤ t.length) :
    Calls Tryd.prog 52 #[.slice (some ⟨b, off, none⟩) (x :: t).length c] w fun e w' => e = .returned (dInt (gInt (x :: t))) ∧ Below w.heap.size w w' := by
  have hkx : kOf x = x.toNat - 128 := by unfold kOf; rw [if_pos (by omega)]
  have h8 : ¬ 8 < kOf x := by omega
  have hl2 : ¬ t.length < kOf x := by omega
  obtain ⟨us, hus⟩ : ∃ us, us = unm x (t.take (kOf x)) := ⟨_, rfl⟩
  have hus2 : us = (t.take (kOf x)).map id := by rw [hus]; unfold unm; rw [if_pos (by omega)]; simp
  have hul : us.length = kOf x := by rw [hus2, List.length_map, List.length_take]; omega
  have hgr := @gInt_great x t h8 hl2
  have hbk := fun (n : Int) (v : Nat) => @gInt_back x t n v h8 hl2
  rw [← hus] at hgr hbk
  obtain ⟨d, hd⟩ : ∃ d, d = gInt (x :: t) := ⟨_, rfl⟩
  rw [← hd] at hgr hbk ⊢
  obtain ⟨b', off', e1, _, hcell⟩ := ha.lit (by simp)
  injection e1 with e1
  injection e1 with e1 e2
  subst e1 e2
  have hc0 : w.cell? ⟨b, off + 0, none⟩ = some (.int .u8 (x.toNat : Int)) := hcell 0 _ rfl
  rw [Nat.add_zero] at hc0
  have HCT := Lib.hid (fun (j : Nat) (hj : j < t.length) => hcell (j + 1) _ (by rw [bs_cons, List.getElem?_cons_succ]; exact bs_get t j hj))
  have hpr := reads_take ha (show kOf x + 1 ≤ (x :: t).length by simp; omega)
  rw [bs_take, List.take_succ_cons] at hpr
  have HPR := Lib.hid hpr
  have HGR := Lib.hid hgr
  have HBK := Lib.hid hbk
  have HU := Lib.hid hus2
  have HUL := Lib.hid hul
  obtain ⟨z, hz⟩ : ∃ z, z = x.toNat := ⟨_, rfl⟩
  have hsg : ∀ v : Nat, sgn x v = (v : Int) := fun v => by unfold sgn; rw [if_pos (by omega)]
  have HSG := Lib.hid hsg
  obtain ⟨k, hkk⟩ : ∃ k, k = kOf x := ⟨_, rfl⟩
  rw [← hz] at hc0 hx hx2 hkx
  rw [← hkk] at hkx hlen HPR HUL
  have hkk1 : k ≤ 8 := by omega
  have HKK := Lib.hid hkk
  have hkx1 : k ≤ z - 128 := by omega
  have hkx2 : z - 128 ≤ k := by omega
  have hkz : (z : Int) - 128 = (k : Int) := by omega
  obtain ⟨N, hN⟩ : ∃ N, N = (x :: t).length := ⟨_, rfl⟩
  have hN2 : N = t.length + 1 := by rw [hN]; simp
  rw [← hN] at hl hlc ⊢
  have hN3 : t.length + 1 ≤ N := by omega
  have hN4 : ((N : Int) == 0) = false := by simp; omega
  clear ha hcell hpr hgr hbk hus hus2 hul hd hz hsg hkx h8 hl2 hkk hN hN2
  go_enter Tryd.func52, Tryd.ntmps52
  go_wp2
  go_loop [7, 8, 9] (fun m i _ => ∃ j v : Nat, j ≤ k ∧ i = .int .i64 ((j : Int) + 1) ∧ m = .int .i64 v ∧ v ≤ 9223372036854775807 ∧ Hid (v = val (us.take j))) (fun _ i _ => k + 1 - (intOf i).toNat)
  case atStart => exact ⟨0, 0, Nat.zero_le _, by go_num, rfl, by omega, rfl⟩
  case round =>
    obtain ⟨j, v, hj, rfl, rfl, hv63, HV⟩ := hrel
    by_cases hlt : j < k
    · have hjt : j < t.length := by omega
      have hc1 := HCT.out j hjt
      have hju : j < us.length := by rw [HUL.out]; exact hlt
      have hvs := val_succ us j hju
      rw [← HV.out] at hvs
      have huj : us[j].toNat = t[j].toNat := by
        have : us[j]? = some (id t[j]) := by rw [HU.out, List.getElem?_map, List.getElem?_take, if_pos (by rw [← HKK.out]; exact hlt), List.getElem?_eq_getElem hjt]; rfl
        rw [List.getElem?_eq_getElem hju] at this
        rw [Option.some.inj this]; rfl
      rw [huj] at hvs
      have hb2 := t[j].toNat_lt
      obtain ⟨y, hy⟩ : ∃ y, y = t[j].toNat := ⟨_, rfl⟩
      rw [← hy] at hc1 hvs hb2
      have HVS := Lib.hid hvs
      clear hvs huj hy
      by_cases hbig : 36028797018963967 < v
      · have HDF := Lib.hid (HGR.out (val_grow us j (by rw [← HV.out]; exact hbig) hju))
        go_wp2
        go_ret3
        exact ⟨by rw [HDF.out]; rfl, Below.refl _ _⟩
      · go_wp2
        go_round
        case rel => exact ⟨j + 1, v * 256 + y, by omega, by go_num, by go_num, by omega, HVS.out.symm⟩
        case measure => simp [intOf]; omega
    · obtain rfl : j = k := by omega
      have hvv : v = val us := by rw [HV.out, List.take_of_length_le]; rw [HUL.out]; exact Nat.le_refl _
      have hrn : inRange ((v : Int)) := ⟨by omega, by omega⟩
      have HRN := Lib.hid hrn
      have hpre := HBK.out ((v : Int)) v hvv hv63 (HSG.out v).symm
      rw [← HKK.out] at hpre
      have hll : (x :: t.take j).length = j + 1 := by simp; omega
      have HLL := Lib.hid hll
      have HW1 := Lib.hid (IntWalk.i64_in ((j : Int) + 1) (by omega))
      have hjc : (j : Int) + 1 ≤ (c : Int) := by omega
      have hj0 : 0 ≤ (j : Int) + 1 := by omega
      have HTN := Lib.hid (show ((j : Int) + 1).toNat = j + 1 by omega)
      have hj1 : j + 1 ≤ 1000000 := by omega
      clear hvv hrn HV hll
      rcases hpre with ⟨heq, hd⟩ | ⟨hne, hd⟩
      · have HL := Lib.hid (show (enc ((v : Int))).length = j + 1 by rw [heq]; exact HLL.out)
        have HEQ := Lib.hid heq
        have HD := Lib.hid hd
        clear heq hd
        go_wp2
        have hw1 := HW1.out
        have htn := HTN.out
        go_region_with (first
          | (go_at_call 44; refine (refIntK _ HRN.out HL.out).mono ?_; rintro e w1 ⟨A1, c1, rfl, hr1, hb1⟩; have HR1 := Lib.hid hr1; have HB1 := Lib.hid (undrew2 hb1); clear hr1 hb1)
          | (go_at_call 14; refine (sameW HR1.out (HEQ.out ▸ HPR.out.later HB1.out) HL.out hj1).mono ?_; rintro e w2 ⟨rfl, hb2⟩; have HB2 := Lib.hid (below_then HB1.out hb2); clear hb2))
        all_goals
          clear hw1 htn
          go_wp2
          go_ret3
          exact ⟨by rw [HD.out]; exact tup3 rfl (by omega) rfl, HB2.out⟩
      · obtain ⟨k1, hk1⟩ : ∃ k1, k1 = (enc ((v : Int))).length := ⟨_, rfl⟩
        have h9 := (enc_len HRN.out).2
        rw [← hk1] at h9
        have h9m : k1 ≤ 1000000 := by omega
        have HL := Lib.hid hk1.symm
        have HNE := Lib.hid hne
        have HD := Lib.hid hd
        clear hne hd hk1
        go_wp2
        have hw1 := HW1.out
        have htn := HTN.out
        go_region_with (first
          | (go_at_call 44; refine (refIntK _ HRN.out HL.out).mono ?_; rintro e w1 ⟨A1, c1, rfl, hr1, hb1⟩; have HR1 := Lib.hid hr1; have HB1 := Lib.hid (undrew2 hb1); clear hr1 hb1)
          | (go_at_call 14; refine (sameNeK HR1.out (HPR.out.later HB1.out) HL.out HLL.out h9m HNE.out).mono ?_; rintro e w2 ⟨rfl, hb2⟩; have HB2 := Lib.hid (below_then HB1.out hb2); clear hb2))
        all_goals
          clear hw1 htn
          go_wp2
          go_ret3
          exact ⟨by rw [HD.out]; rfl, HB2.out⟩

set_option maxRecDepth 100000 in
set_option maxHeartbeats 1600000 in
theorem refGetN (b off c : Nat) (x : UInt8) (t : List UInt8) (w : World) (ha : Reads w w.heap.size 1 (some ⟨b, off, none⟩) (x :: t).length (bs (x :: t))) (hlc : (x :: t).length ≤ c) (hl : (x :: t).length ≤ 1000000) (hx : 119 ≤ x.toNat) (hx2 : x.toNat ≤ 127) (hlen : kOf x ≤ t.length) :
    Calls Tryd.prog 52 #[.slice (some ⟨b, off, none⟩) (x :: t).length c] w fun e w' => e = .returned (dInt (gInt (x :: t))) ∧ Below w.heap.size w w' := by
  have hkx : kOf x = 127 - x.toNat := by unfold kOf; rw [if_neg (by omega)]
  have h8 : ¬ 8 < kOf x := by omega
  have hl2 : ¬ t.length < kOf x := by omega
  obtain ⟨us, hus⟩ : ∃ us, us = unm x (t.take (kOf x)) := ⟨_, rfl⟩
  have hus2 : us = (t.take (kOf x)).map WM.flip := by rw [hus]; unfold unm; rw [if_neg (by omega)]
  have hul : us.length = kOf x := by rw [hus2, List.length_map, List.length_take]; omega
  have hgr := @gInt_great x t h8 hl2
  have hbk := fun (n : Int) (v : Nat) => @gInt_back x t n v h8 hl2
  rw [← hus] at hgr hbk
  obtain ⟨d, hd⟩ : ∃ d, d = gInt (x :: t) := ⟨_, rfl⟩
  rw [← hd] at hgr hbk ⊢
  obtain ⟨b', off', e1, _, hcell⟩ := ha.lit (by simp)
  injection e1 with e1
  injection e1 with e1 e2
  subst e1 e2
  have hc0 : w.cell? ⟨b, off + 0, none⟩ = some (.int .u8 (x.toNat : Int)) := hcell 0 _ rfl
  rw [Nat.add_zero] at hc0
  have HCT := Lib.hid (fun (j : Nat) (hj : j < t.length) => hcell (j + 1) _ (by rw [bs_cons, List.getElem?_cons_succ]; exact bs_get t j hj))
  have hpr := reads_take ha (show kOf x + 1 ≤ (x :: t).length by simp; omega)
  rw [bs_take, List.take_succ_cons] at hpr
  have HPR := Lib.hid hpr
  have HGR := Lib.hid hgr
  have HBK := Lib.hid hbk
  have HU := Lib.hid hus2
  have HUL := Lib.hid hul
  obtain ⟨z, hz⟩ : ∃ z, z = x.toNat := ⟨_, rfl⟩
  have hsg : ∀ v : Nat, sgn x v = -1 - (v : Int) := fun v => by unfold sgn; rw [if_neg (by omega)]
  have HSG := Lib.hid hsg
  obtain ⟨k, hkk⟩ : ∃ k, k = kOf x := ⟨_, rfl⟩
  rw [← hz] at hc0 hx hx2 hkx
  rw [← hkk] at hkx hlen HPR HUL
  have hkk1 : k ≤ 8 := by omega
  have HKK := Lib.hid hkk
  have hkx1 : k ≤ 127 - z := by omega
  have hkx2 : 127 - z ≤ k := by omega
  have hkz : (127 : Int) - (z : Int) = (k : Int) := by omega
  obtain ⟨N, hN⟩ : ∃ N, N = (x :: t).length := ⟨_, rfl⟩
  have hN2 : N = t.length + 1 := by rw [hN]; simp
  rw [← hN] at hl hlc ⊢
  have hN3 : t.length + 1 ≤ N := by omega
  have hN4 : ((N : Int) == 0) = false := by simp; omega
  clear ha hcell hpr hgr hbk hus hus2 hul hd hz hsg hkx h8 hl2 hkk hN hN2
  go_enter Tryd.func52, Tryd.ntmps52
  go_wp2
  go_loop [7, 8, 9] (fun m i _ => ∃ j v : Nat, j ≤ k ∧ i = .int .i64 ((j : Int) + 1) ∧ m = .int .i64 v ∧ v ≤ 9223372036854775807 ∧ Hid (v = val (us.take j))) (fun _ i _ => k + 1 - (intOf i).toNat)
  case atStart => exact ⟨0, 0, Nat.zero_le _, by go_num, rfl, by omega, rfl⟩
  case round =>
    obtain ⟨j, v, hj, rfl, rfl, hv63, HV⟩ := hrel
    by_cases hlt : j < k
    · have hjt : j < t.length := by omega
      have hc1 := HCT.out j hjt
      have hju : j < us.length := by rw [HUL.out]; exact hlt
      have hvs := val_succ us j hju
      rw [← HV.out] at hvs
      have huj : us[j].toNat = 255 - t[j].toNat := by
        have : us[j]? = some (WM.flip t[j]) := by rw [HU.out, List.getElem?_map, List.getElem?_take, if_pos (by rw [← HKK.out]; exact hlt), List.getElem?_eq_getElem hjt]; rfl
        rw [List.getElem?_eq_getElem hju] at this
        rw [Option.some.inj this]; exact flip_toNat _
      rw [huj] at hvs
      have hb2 := t[j].toNat_lt
      obtain ⟨y, hy⟩ : ∃ y, y = t[j].toNat := ⟨_, rfl⟩
      rw [← hy] at hc1 hvs hb2
      have HVS := Lib.hid hvs
      clear hvs huj hy
      by_cases hbig : 36028797018963967 < v
      · have HDF := Lib.hid (HGR.out (val_grow us j (by rw [← HV.out]; exact hbig) hju))
        go_wp2
        go_ret3
        exact ⟨by rw [HDF.out]; rfl, Below.refl _ _⟩
      · go_wp2
        go_round
        case rel => exact ⟨j + 1, v * 256 + (255 - y), by omega, by go_num, by go_num, by omega, HVS.out.symm⟩
        case measure => simp [intOf]; omega
    · obtain rfl : j = k := by omega
      have hvv : v = val us := by rw [HV.out, List.take_of_length_le]; rw [HUL.out]; exact Nat.le_refl _
      have hrn : inRange (-1 - (v : Int)) := ⟨by omega, by omega⟩
      have HRN := Lib.hid hrn
      have hpre := HBK.out (-1 - (v : Int)) v hvv hv63 (HSG.out v).symm
      rw [← HKK.out] at hpre
      have hll : (x :: t.take j).length = j + 1 := by simp; omega
      have HLL := Lib.hid hll
      have HW1 := Lib.hid (IntWalk.i64_in ((j : Int) + 1) (by omega))
      have hjc : (j : Int) + 1 ≤ (c : Int) := by omega
      have hj0 : 0 ≤ (j : Int) + 1 := by omega
      have HTN := Lib.hid (show ((j : Int) + 1).toNat = j + 1 by omega)
      have hj1 : j + 1 ≤ 1000000 := by omega
      clear hvv hrn HV hll
      rcases hpre with ⟨heq, hd⟩ | ⟨hne, hd⟩
      · have HL := Lib.hid (show (enc (-1 - (v : Int))).length = j + 1 by rw [heq]; exact HLL.out)
        have HEQ := Lib.hid heq
        have HD := Lib.hid hd
        clear heq hd
        go_wp2
        have hw1 := HW1.out
        have htn := HTN.out
        go_region_with (first
          | (go_at_call 44; refine (refIntK _ HRN.out HL.out).mono ?_; rintro e w1 ⟨A1, c1, rfl, hr1, hb1⟩; have HR1 := Lib.hid hr1; have HB1 := Lib.hid (undrew2 hb1); clear hr1 hb1)
          | (go_at_call 14; refine (sameW HR1.out (HEQ.out ▸ HPR.out.later HB1.out) HL.out hj1).mono ?_; rintro e w2 ⟨rfl, hb2⟩; have HB2 := Lib.hid (below_then HB1.out hb2); clear hb2))
        all_goals
          clear hw1 htn
          go_wp2
          go_ret3
          exact ⟨by rw [HD.out]; exact tup3 rfl (by omega) rfl, HB2.out⟩
      · obtain ⟨k1, hk1⟩ : ∃ k1, k1 = (enc (-1 - (v : Int))).length := ⟨_, rfl⟩
        have h9 := (enc_len HRN.out).2
        rw [← hk1] at h9
        have h9m : k1 ≤ 1000000 := by omega
        have HL := Lib.hid hk1.symm
        have HNE := Lib.hid hne
        have HD := Lib.hid hd
        clear hne hd hk1
        go_wp2
        have hw1 := HW1.out
        have htn := HTN.out
        go_region_with (first
          | (go_at_call 44; refine (refIntK _ HRN.out HL.out).mono ?_; rintro e w1 ⟨A1, c1, rfl, hr1, hb1⟩; have HR1 := Lib.hid hr1; have HB1 := Lib.hid (undrew2 hb1); clear hr1 hb1)
          | (go_at_call 14; refine (sameNeK HR1.out (HPR.out.later HB1.out) HL.out HLL.out h9m HNE.out).mono ?_; rintro e w2 ⟨rfl, hb2⟩; have HB2 := Lib.hid (below_then HB1.out hb2); clear hb2))
        all_goals
          clear hw1 htn
          go_wp2
          go_ret3
          exact ⟨by rw [HD.out]; rfl, HB2.out⟩

theorem refGet_nil (A : Option Addr) (c : Nat) (w : World) :
    Calls Tryd.prog 52 #[.slice A 0 c] w fun e w' => e = .returned (.tuple #[.int .i64 0, .int .i64 0, .int .i64 3]) ∧ w = w' := by
  go_enter Tryd.func52, Tryd.ntmps52
  go_wp2
  go_ret3
  exact ⟨rfl, rfl⟩

set_option maxRecDepth 100000 in
theorem refGet_out (b off n c x : Nat) (w : World) (hx : x < 119 ∨ 136 < x) (hx2 : x < 256) (hn : 0 < n) (hnl : n ≤ 140737488355328) (hc : w.cell? ⟨b, off, none⟩ = some (.int .u8 (x : Int))) :
    Calls Tryd.prog 52 #[.slice (some ⟨b, off, none⟩) n c] w fun e w' => e = .returned (.tuple #[.int .i64 0, .int .i64 0, .int .i64 2]) ∧ w = w' := by
  have hn0 : ((n : Int) == 0) = false := by simp; omega
  rcases hx with hx | hx
  · go_enter Tryd.func52, Tryd.ntmps52
    go_wp2
    go_ret3
    exact ⟨rfl, rfl⟩
  · go_enter Tryd.func52, Tryd.ntmps52
    go_wp2
    go_ret3
    exact ⟨rfl, rfl⟩

set_option maxRecDepth 100000 in
theorem refGet_short (b off n c x k : Nat) (w : World) (hx : 119 ≤ x) (hx2 : x ≤ 136) (hk1 : 128 ≤ x → k = x - 128) (hk2 : x < 128 → k = 127 - x) (hn : 0 < n) (hnl : n ≤ 140737488355328) (hlt : n < k + 1) (hc : w.cell? ⟨b, off, none⟩ = some (.int .u8 (x : Int))) :
    Calls Tryd.prog 52 #[.slice (some ⟨b, off, none⟩) n c] w fun e w' => e = .returned (.tuple #[.int .i64 0, .int .i64 0, .int .i64 3]) ∧ w = w' := by
  have hn0 : ((n : Int) == 0) = false := by simp; omega
  by_cases h : x < 128
  · have := hk2 h
    have hlt2 : n < 128 - x := by omega
    clear hk1 hk2 this hlt
    go_enter Tryd.func52, Tryd.ntmps52
    go_wp2
    go_ret3
    exact ⟨rfl, rfl⟩
  · have := hk1 (by omega)
    have hlt2 : n < x - 127 := by omega
    clear hk1 hk2 this hlt
    go_enter Tryd.func52, Tryd.ntmps52
    go_wp2
    go_ret3
    exact ⟨rfl, rfl⟩

theorem refGetInt (A : Option Addr) (c : Nat) (l : List UInt8) (w : World) (ha : Reads w w.heap.size 1 A l.length (bs l)) (hlc : l.length ≤ c) (hl : l.length ≤ 1000000) :
    Calls Tryd.prog 52 #[.slice A l.length c] w fun e w' => e = .returned (dInt (gInt l)) ∧ Below w.heap.size w w' := by
  match l, ha, hlc, hl with
  | [], _, _, _ => exact (refGet_nil A c w).mono fun _ _ ⟨he, hw⟩ => ⟨he, hw ▸ Below.refl _ _⟩
  | x :: t, ha, hlc, hl =>
    obtain ⟨b, off, rfl, _, hcell⟩ := ha.lit (by simp)
    have hc0 : w.cell? ⟨b, off + 0, none⟩ = some (.int .u8 (x.toNat : Int)) := hcell 0 _ rfl
    rw [Nat.add_zero] at hc0
    have hx2 := x.toNat_lt
    have hkP : 128 ≤ x.toNat → kOf x = x.toNat - 128 := fun h => by unfold kOf; rw [if_pos h]
    have hkN : x.toNat < 128 → kOf x = 127 - x.toNat := fun h => by unfold kOf; rw [if_neg (by omega)]
    by_cases ho : x.toNat < 119 ∨ 136 < x.toNat
    · have hg : gInt (x :: t) = .form := by
        simp only [gInt]
        rw [if_pos]
        rcases ho with h | h
        · rw [hkN (by omega)]; omega
        · rw [hkP (by omega)]; omega
      rw [hg]
      exact (refGet_out b off _ c _ w ho hx2 (by simp) (by omega) hc0).mono fun _ _ ⟨he, hw⟩ => ⟨he, hw ▸ Below.refl _ _⟩
    · have h8 : ¬ 8 < kOf x := by
        by_cases h : x.toNat < 128
        · rw [hkN h]; omega
        · rw [hkP (by omega)]; omega
      by_cases hsh : t.length < kOf x
      · have hg : gInt (x :: t) = .more := by simp only [gInt]; rw [if_neg h8, if_pos hsh]
        rw [hg]
        exact (refGet_short b off _ c _ (kOf x) w (by omega) (by omega) hkP hkN (by simp) (by omega) (by simp; omega) hc0).mono fun _ _ ⟨he, hw⟩ => ⟨he, hw ▸ Below.refl _ _⟩
      · by_cases h : x.toNat < 128
        · exact refGetN b off c x t w ha hlc hl (by omega) (by omega) (by omega)
        · exact refGetP b off c x t w ha hlc hl (by omega) (by omega) (by omega)

end Go.Proofs.YtbdknncmlcbbpaaDoor
