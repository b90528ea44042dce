/-
  The law TypesWords: the walk.
-/
import Derived.Test.YtpbbafikjpjejaaDoorG38
import Derived.Test.YtpbbafikjpjejaaDoorG32
import Derived.Test.YtpbbafikjpjejaaDoorG40
import Derived.Test.YtpbbafikjpjejaaDoorG08
import Derived.Test.YtpbbafikjpjejaaDoorG41
import Derived.Test.YtpbbafikjpjejaaDoorG17
import Derived.Deep.RegionWith
set_option linter.unusedVariables false
namespace Go.Proofs.YtpbbafikjpjejaaDoor
open Go.RowKit WM TR TY

theorem rep_oneY {w : World} {S : Nat → Prop} {d : Nat} {t : T} {cs : List Value} (h : Rep w S d t cs) : ∀ v ∈ cs, v.oneCell' = true := by
  obtain ⟨A, c, rfl, _⟩ := h.form
  exact nd_one t A c
theorem reps_oneY {w : World} {S : Nat → Prop} {d : Nat} {ts : List T} {xs : List Value} (h : Reps w S d ts xs) : ∀ v ∈ xs, v.oneCell' = true := by
  intro v hv
  obtain ⟨k, hk⟩ := List.mem_iff_getElem?.1 hv
  have hkl := (List.getElem?_eq_some_iff.1 hk).1
  have hl := h.1
  have hi : k / 4 < ts.length := by omega
  have hr := h.2 (k / 4) ts[k / 4] (List.getElem?_eq_getElem hi)
  refine rep_oneY hr v (List.mem_iff_getElem?.2 ⟨k % 4, ?_⟩)
  rw [List.getElem?_take, if_pos (Nat.mod_lt _ (by omega)), List.getElem?_drop]
  have e : k / 4 * 4 + k % 4 = k := by omega
  rw [e]
  exact hk
theorem reps_appY {w : World} {S : Nat → Prop} {d : Nat} {ts us : List T} {xs ys : List Value} (h : Reps w S d ts xs) (k : Reps w S d us ys) : Reps w S d (ts ++ us) (xs ++ ys) := by
  refine ⟨by rw [List.length_append, List.length_append, h.1, k.1]; omega, fun i u hu => ?_⟩
  by_cases hi : i < ts.length
  · rw [List.getElem?_append_left hi] at hu
    have h2 := h.2 i u hu
    have e : ((xs ++ ys).drop (i * 4)).take 4 = (xs.drop (i * 4)).take 4 := by
      rw [List.drop_append_of_le_length (by rw [h.1]; omega), List.take_append_of_le_length (by rw [List.length_drop, h.1]; omega)]
    rw [e]; exact h2
  · rw [List.getElem?_append_right (by omega)] at hu
    have h2 := k.2 (i - ts.length) u hu
    have e : (xs ++ ys).drop (i * 4) = ys.drop ((i - ts.length) * 4) := by
      rw [List.drop_append, List.drop_eq_nil_of_le (by rw [h.1]; omega), List.nil_append, h.1]
      congr 1; omega
    rw [e]; exact h2
section
attribute [local go_sem ↓ high] shutApN
set_option maxRecDepth 100000 in
set_option maxHeartbeats 32000000 in
theorem types_words_is (L M : List Int) (A B : Option Addr) (c cb : Nat) (t : T) (At : Option Addr) (ct D : Nat) (kind n kids : Int) (w : World) (hL : Rd w (Lt w.heap.size) 1 A L.length (vi L)) (hM : Rd w (Lt w.heap.size) 1 B M.length (vi M)) (hrL : ∀ x ∈ L, inRange x) (hrM : ∀ x ∈ M, inRange x) (hlL : L.length ≤ 9223372036854775807) (hlM : M.length ≤ 9223372036854775807)
    (hr : Rep w (Lt w.heap.size) (D + 1) t (nd t At ct)) (hk : inRange kind) (hn : inRange n) (hki : inRange kids) (hT : ST w) (hg : 0 < w.heap.size) :
    Calls Tryd.prog 5 #[.slice A L.length c, .slice B M.length cb, .agg #[.int .i64 t.k, .int .i64 t.n, .int .i64 t.m, .slice At t.kids.length ct], .int .i64 kind, .int .i64 n, .int .i64 kids] w fun e w' => e = .returned (.bool true) ∧ Below w.heap.size w w' := by
  obtain ⟨nl, hnl⟩ : ∃ z, z = L.length := ⟨_, rfl⟩
  obtain ⟨nm, hnm⟩ : ∃ z, z = M.length := ⟨_, rfl⟩
  obtain ⟨rk, hrk⟩ : ∃ z, z = t.k := ⟨_, rfl⟩
  obtain ⟨rn, hrn⟩ : ∃ z, z = t.n := ⟨_, rfl⟩
  obtain ⟨rm, hrm⟩ : ∃ z, z = t.m := ⟨_, rfl⟩
  obtain ⟨nr, hnr⟩ : ∃ z, z = t.kids.length := ⟨_, rfl⟩
  obtain ⟨z, hz⟩ : ∃ z, z = w.heap.size := ⟨_, rfl⟩
  obtain ⟨W1, hW1⟩ : ∃ W, W = w.alloc (.cells #[.int .i64 rk, .int .i64 rn, .int .i64 rm, .slice At nr ct] 25) := ⟨_, rfl⟩
  have hb1 : Below w.heap.size w W1 := by rw [hW1]; exact below_new _ _
  have k1 : Blk W1 z 25 #[.int .i64 rk, .int .i64 rn, .int .i64 rm, .slice At nr ct] := by rw [hW1, hz]; exact Blk.new _ _ _
  obtain ⟨tk, htk⟩ : ∃ x, x = arnd kind 6 := ⟨_, rfl⟩
  obtain ⟨ta, hta⟩ : ∃ x, x = arnd n 7 := ⟨_, rfl⟩
  obtain ⟨tq, htq⟩ : ∃ x : Nat, (x : Int) = arnd kids 5 := ⟨(arnd kids 5).toNat, by have := (arnd_le (x := kids) (n := 5) (by omega)).1; omega⟩
  have htk1 : 0 ≤ tk ∧ tk < 6 := by rw [htk]; exact arnd_le (by omega)
  have hta1 : 0 ≤ ta ∧ ta < 7 := by rw [hta]; exact arnd_le (by omega)
  have htq1 : tq < 5 := by have := (arnd_le (x := kids) (n := 5) (by omega)).2; omega
  obtain ⟨tn, htn⟩ : ∃ x, x = ta - 1 := ⟨_, rfl⟩
  have hsub : IntKind.i64.wrap (ta - 1) = tn := by rw [IntKind.wrap_i64]; omega
  have HA1 : Hid (∀ W, Calls Tryd.prog 21 #[.int .i64 kind, .int .i64 6] W fun e w' => e = .returned (.int .i64 tk) ∧ W = w') := Lib.hid fun W => by rw [htk]; exact around_is kind 6 hk (by omega) W
  have HA2 : Hid (∀ W, Calls Tryd.prog 21 #[.int .i64 n, .int .i64 7] W fun e w' => e = .returned (.int .i64 ta) ∧ W = w') := Lib.hid fun W => by rw [hta]; exact around_is n 7 hn (by omega) W
  have HA3 : Hid (∀ W, Calls Tryd.prog 21 #[.int .i64 kids, .int .i64 5] W fun e w' => e = .returned (.int .i64 (tq : Int)) ∧ W = w') := Lib.hid fun W => by rw [htq]; exact around_is kids 5 hki (by omega) W
  have HAT : Hid (∀ (W : World) (i : Nat), Below w.heap.size w W → i ≤ 10 → Calls Tryd.prog 22 #[.slice B nm cb, .int .i64 (i : Int), .int .i64 3] W fun e w' => e = .returned (.int .i64 (numAt M i 3)) ∧ W = w') := Lib.hid fun W i hb hi => by
    rw [hnm]
    exact at_is M _ B cb i 3 W (hM.keep fun b hb' => hb.block b hb') hrM (by omega) hlM (by omega)
  have HTR : Hid (∀ W, Below w.heap.size w W → Calls Tryd.prog 13 #[.slice B nm cb] W (MadeT (genTree M) 6 W)) := Lib.hid fun W hb => by
    rw [hnm]
    exact Tree_is M (Lt w.heap.size) B cb W (hM.keep fun b hb' => hb.block b hb') (fun b (hb' : b < w.heap.size) => Nat.lt_of_lt_of_le hb' hb.size) hrM hlM
  have HPR : Hid (∀ W, Below w.heap.size w W → Calls Tryd.prog 12 #[.slice A nl c] W (ProgPost W)) := Lib.hid fun W hb => by
    rw [hnl]
    exact program_is L (Lt w.heap.size) A c W (hL.keep fun b hb' => hb.block b hb') (fun b (hb' : b < w.heap.size) => Nat.lt_of_lt_of_le hb' hb.size) hrL hlL
  have HTN : Hid (inRange tk ∧ inRange tn) := Lib.hid ⟨⟨by omega, by omega⟩, ⟨by omega, by omega⟩⟩
  have HW1 := Lib.hid hW1
  have HZ := Lib.hid hz
  have HB1 := Lib.hid hb1
  have HK1 := Lib.hid k1
  have HRR := Lib.hid (rep_next hr hb1)
  have HT := Lib.hid hT
  have HG := Lib.hid hg
  have HRK := Lib.hid hrk
  have HRN := Lib.hid hrn
  have HRM := Lib.hid hrm
  have HNR := Lib.hid hnr
  rw [← hnl, ← hnm, ← hrk, ← hrn, ← hrm, ← hnr]
  clear hL hM hrL hrM hlL hlM hr hk hn hki hT hg hnl hnm hrk hrn hrm hnr hz hW1 hb1 k1 htk hta htq htn htk1 hta1
  go_enter Tryd.func5, Tryd.ntmps5
  go_upto_region 1 with fail
  rw [← HW1.out]
  try rw [← HZ.out]
  go_upto_region 2 with (first
    | (go_at_call 21; (with_reducible refine (HA1.out _).mono ?_); rintro e w2 ⟨rfl, rfl⟩)
    | (go_at_call 21; (with_reducible refine (HA2.out _).mono ?_); rintro e w2 ⟨rfl, rfl⟩))
  obtain ⟨W2, hW2⟩ : ∃ W, W = W1.alloc (.cells #[.int .i64 tk, .int .i64 tn, .int .i64 0, .slice none 0 0] 25) := ⟨_, rfl⟩
  obtain ⟨gt, hgt⟩ : ∃ g, g = W1.heap.size := ⟨_, rfl⟩
  rw [← hW2, ← hgt]
  have HR2 : Hid (TRow gt tk tn W1 W2 (.slice none 0 0) [] []) := Lib.hid (TRow.start (by rw [hW2]; exact below_new _ _) (by rw [hW2, hgt]; exact Blk.new _ _ _) (by omega))
  clear hW2 hgt hsub
  go_upto_region 3 with fail
  go_loopw [14] (fun i wr => ∃ (v : Value) (ts : List T) (xs : List Value), ts.length ≤ tq ∧ i = .int .i64 (ts.length : Int) ∧ Hid (TRow gt tk tn W1 wr v ts xs)) (fun i _ => tq - (intOf i).toNat)
  case atStart => exact ⟨_, [], [], Nat.zero_le _, rfl, HR2⟩
  case round =>
    clear HR2
    obtain ⟨v, ts, xs, hts, rfl, HR⟩ := hrel
    obtain ⟨j, hj⟩ : ∃ j, j = ts.length := ⟨_, rfl⟩
    obtain ⟨Ax, cx, hv, _⟩ := own_len HR.out.own
    rw [← hj] at hv hts ⊢
    subst hv
    have HJ := Lib.hid hj
    clear hj
    by_cases hlt : j < tq
    · have hc : decide ((j : Int) < (tq : Int)) = true := decide_eq_true (by omega)
      have hc2 : (j : Int) < (tq : Int) := by omega
      go_upto_region 5 with (go_at_call 21; (with_reducible refine (HA3.out _).mono ?_); rintro e w2 ⟨rfl, rfl⟩)
      obtain ⟨a, ha⟩ : ∃ a, a = numAt M j 3 := ⟨_, rfl⟩
      have hai : inRange a := by have := numAt_le (L := M) (a := j) (n := 3) (by omega); rw [← ha] at this; exact ⟨by omega, by omega⟩
      have HCA : Hid (Calls Tryd.prog 22 #[.slice B nm cb, .int .i64 (j : Int), .int .i64 3] wr.drew fun e w' => e = .returned (.int .i64 a) ∧ wr.drew = w') := Lib.hid (by
        rw [ha]
        exact HAT.out wr.drew j (bt HB1.out HR.out.below.drew) (by omega))
      obtain ⟨A9, c9, w9, happ, hO9, hG9⟩ := apN_run (W := wr.drew) a (ho := (show wr.drew.ownsRow (gt + 1) 25 4 (.slice Ax j cx) j xs by rw [HJ.out]; have h := HR.out.own; rw [← HJ.out] at h ⊢; exact h.drew)) (by have := HR.out.node.lt; show gt + 1 ≤ wr.heap.size; omega) (by omega)
      obtain ⟨⟨d3, e3⟩, hn9⟩ := HR.out.next hai (by rw [← HJ.out]; exact hO9) hG9
      have HN9 := Lib.hid hn9
      have x3 : wr.drew.cell? ⟨gt, 3, none⟩ = some (.slice Ax j cx) := HR.out.node.drew.cell 3
      have x3' : ((wr.alloc (.cells #[.int .i64 a, .int .i64 0, .int .i64 0, .slice none 0 0] 25)).drew).cell? ⟨gt, 3, none⟩ = some (.slice Ax j cx) := (HR.out.node.drew.alloc _).cell 3
      replace happ : (apN #[23, 23] 23 #[.slice Ax j cx, .slice (some ⟨wr.heap.size, 0, none⟩) 1 1]).run Tryd.prog ((wr.alloc (.cells #[.int .i64 a, .int .i64 0, .int .i64 0, .slice none 0 0] 25)).drew) = .ok (.slice A9 (j + 1) c9) w9 := happ
      clear hO9 hG9 hn9 ha hai
      go_region_with (go_at_call 22; with_reducible refine HCA.out.mono ?_; rintro e w5 ⟨rfl, rfl⟩)
      all_goals
        clear happ d3 e3 x3 x3' HCA
        go_wp2_with fail
        go_roundw
        case rel => exact ⟨_, ts ++ [⟨a, 0, 0, []⟩], _, by rw [List.length_append, ← HJ.out]; show j + 1 ≤ tq; omega, by rw [List.length_append, ← HJ.out]; go_num, HN9⟩
        case measure => simp [intOf]; omega
    · have hjq : j = tq := by omega
      have hc : decide ((j : Int) < (tq : Int)) = false := decide_eq_false (by omega)
      have hc2 : ¬ (j : Int) < (tq : Int) := by omega
      have HB2 : Hid (Below w.heap.size w wr) := Lib.hid (bt HB1.out HR.out.below)
      have HRT : Hid (Rep wr (Lt wr.heap.size) 2 ⟨tk, tn, 0, ts⟩ (nd ⟨tk, tn, 0, ts⟩ Ax cx)) := Lib.hid (by
        have h := HR.out
        rw [HJ.out] at h
        exact h.rep HTN.out.1 HTN.out.2)
      have kz := HK1.out.below HR.out.below HK1.out.lt
      have HKZ : Hid (Blk wr z 25 #[.int .i64 rk, .int .i64 rn, .int .i64 rm, .slice At nr ct]) := Lib.hid kz
      have HKT : Hid (Blk wr gt 25 #[.int .i64 tk, .int .i64 tn, .int .i64 0, .slice Ax j cx]) := Lib.hid HR.out.node
      obtain ⟨dT, hdT⟩ : ∃ d, d = genTree M := ⟨_, rfl⟩
      have hdl : dT.kids.length ≤ 4096 := by have h1 := kids_lt dT; have h2 := genTree_size M; rw [← hdT] at h2; omega
      have HTR2 : Hid (Calls Tryd.prog 13 #[.slice B nm cb] wr (MadeT dT 6 wr)) := Lib.hid (by rw [hdT]; exact HTR.out wr HB2.out)
      obtain ⟨dk, hdk⟩ : ∃ z, z = dT.k := ⟨_, rfl⟩
      obtain ⟨dn, hdn⟩ : ∃ z, z = dT.n := ⟨_, rfl⟩
      obtain ⟨dm, hdm⟩ : ∃ z, z = dT.m := ⟨_, rfl⟩
      obtain ⟨dl, hdlq⟩ : ∃ z, z = dT.kids.length := ⟨_, rfl⟩
      rw [← hdlq] at hdl
      have HDK := Lib.hid hdk
      have HDN := Lib.hid hdn
      have HDM := Lib.hid hdm
      have HDL := Lib.hid hdlq
      clear kz hdT hdk hdn hdm hdlq hjq
      go_upto_region 7 with (first
        | (go_at_call 21; (with_reducible refine (HA3.out _).mono ?_); rintro e w2 ⟨rfl, rfl⟩)
        | (go_at_call 13; refine HTR2.out.mono ?_; rintro e w5 ⟨Ad, cd, rfl, hr5, hb5⟩; rw [← HDK.out, ← HDN.out, ← HDM.out, ← HDL.out]; have HR5 := Lib.hid hr5; have HB5 := Lib.hid hb5; clear hr5 hb5))
      clear hc hc2
      obtain ⟨W6, hW6⟩ : ∃ W, W = w5.alloc (.cells #[.int .i64 dk, .int .i64 dn, .int .i64 dm, .slice Ad dl cd] 25) := ⟨_, rfl⟩
      obtain ⟨gd, hgd⟩ : ∃ g, g = w5.heap.size := ⟨_, rfl⟩
      have kd : Blk W6 gd 25 #[.int .i64 dk, .int .i64 dn, .int .i64 dm, .slice Ad dl cd] := by rw [hW6, hgd]; exact Blk.new _ _ _
      have hb56 : Below w5.heap.size w5 W6 := by rw [hW6]; exact below_new _ _
      have hbr6 : Below wr.heap.size wr W6 := bt HB5.out hb56
      have kz6 := HKZ.out.below hbr6 HKZ.out.lt
      have kt6 := HKT.out.below hbr6 HKT.out.lt
      rw [← hW6, ← hgd]
      obtain ⟨y0, y1, y2, y3⟩ : W6.cell? ⟨z, 0, none⟩ = some (.int .i64 rk) ∧ W6.cell? ⟨z, 1, none⟩ = some (.int .i64 rn) ∧ W6.cell? ⟨z, 2, none⟩ = some (.int .i64 rm) ∧ W6.cell? ⟨z, 3, none⟩ = some (.slice At nr ct) := ⟨kz6.cell 0, kz6.cell 1, kz6.cell 2, kz6.cell 3⟩
      obtain ⟨x0, x1, x2, x3⟩ : W6.cell? ⟨gt, 0, none⟩ = some (.int .i64 tk) ∧ W6.cell? ⟨gt, 1, none⟩ = some (.int .i64 tn) ∧ W6.cell? ⟨gt, 2, none⟩ = some (.int .i64 0) ∧ W6.cell? ⟨gt, 3, none⟩ = some (.slice Ax j cx) := ⟨kt6.cell 0, kt6.cell 1, kt6.cell 2, kt6.cell 3⟩
      obtain ⟨u0, u1, u2, u3⟩ : W6.cell? ⟨gd, 0, none⟩ = some (.int .i64 dk) ∧ W6.cell? ⟨gd, 1, none⟩ = some (.int .i64 dn) ∧ W6.cell? ⟨gd, 2, none⟩ = some (.int .i64 dm) ∧ W6.cell? ⟨gd, 3, none⟩ = some (.slice Ad dl cd) := ⟨kd.cell 0, kd.cell 1, kd.cell 2, kd.cell 3⟩
      have HKD := Lib.hid kd
      have HBR6 := Lib.hid hbr6
      have HRD6 : Hid (Rep W6 (Lt W6.heap.size) 6 dT (nd dT Ad cd)) := Lib.hid (rep_next (HR5.out.mono fun b hb => hb.2) hb56)
      clear hW6 hgd kd hb56 hbr6 kz6 kt6
      go_upto_region 8 with fail
      obtain ⟨i0, hi, hz0, hz1, hz2⟩ := info_parts node_info
      obtain ⟨xs3, hx3⟩ : ∃ xs, xs = (nd t At ct ++ nd ⟨tk, tn, 0, ts⟩ Ax cx) ++ nd dT Ad cd := ⟨_, rfl⟩
      have hx3a : xs3.toArray = #[.int .i64 rk, .int .i64 rn, .int .i64 rm, .slice At nr ct, .int .i64 tk, .int .i64 tn, .int .i64 0, .slice Ax j cx, .int .i64 dk, .int .i64 dn, .int .i64 dm, .slice Ad dl cd] := by
        rw [hx3, HRK.out, HRN.out, HRM.out, HNR.out, HDK.out, HDN.out, HDM.out, HDL.out, HJ.out]; rfl
      have hrp3 : Reps W6 (Lt W6.heap.size) (D + 7) [t, ⟨tk, tn, 0, ts⟩, dT] xs3 := by
        rw [hx3]
        have h1 := (rep_next HRR.out (bt HR.out.below HBR6.out)).deeper (d' := D + 7) (by omega)
        have h2 := (rep_next HRT.out HBR6.out).deeper (d' := D + 7) (by omega)
        have h3 := HRD6.out.deeper (d' := D + 7) (by omega)
        exact ((Reps.one h1).snoc h2).snoc h3
      obtain ⟨xsd, hrdd, hrpd⟩ := HRD6.out.kids
      rw [← HDL.out] at hrdd
      obtain ⟨gr, hgr⟩ : ∃ g, g = W6.heap.size := ⟨_, rfl⟩
      obtain ⟨W7, hW7⟩ : ∃ W, W = W6.alloc (.cells #[.int .i64 rk, .int .i64 rn, .int .i64 rm, .slice At nr ct, .int .i64 tk, .int .i64 tn, .int .i64 0, .slice Ax j cx, .int .i64 dk, .int .i64 dn, .int .i64 dm, .slice Ad dl cd] 25) := ⟨_, rfl⟩
      have hb67 : Below W6.heap.size W6 W7 := by rw [hW7]; exact below_new _ _
      have HO7 : Hid (W7.ownsRow gr 25 4 (.slice (some ⟨gr, 0, none⟩) 3 3) 3 xs3) := Lib.hid (by
        rw [hW7, hgr, ← hx3a]
        exact own_lit (w := W6) (base := W6.heap.size) (e := 25) (size := 4) (xs := xs3) (n := 3) (Nat.le_refl _) hrp3.1 (len_le (by omega)))
      have HRD7 : Hid (Reads W7 W6.heap.size 4 Ad dl xsd) := Lib.hid (by
        have h : Reads W6 W6.heap.size 4 Ad dl xsd := hrdd
        exact h.below hb67)
      have HX1 := Lib.hid (reps_oneY hrpd)
      have HRP3 := Lib.hid hrp3
      have HRPD := Lib.hid hrpd
      have HB67 := Lib.hid hb67
      have HGR := Lib.hid hgr
      have u3' := (HKD.out.below hb67 HKD.out.lt).cell 3
      have u37 : W7.cell? ⟨gd, 3, none⟩ = some (.slice Ad dl cd) := u3'
      rw [← hW7, ← hgr]
      clear hx3 hx3a hrp3 hrdd hrpd hgr hW7 hb67 u3' y0 y1 y2 y3 x0 x1 x2 x3 u0 u1 u2 u3
      go_upto_region 9 with (at_builtin; go_loud (refine wpList_append_any _ rfl (.tmp 50) (.tmp 52) 23 rfl gr 25 i0 _ 4 48 Tryd.underlying23 hi hz0 hz1 hz2 rfl (by omega) (.slice (some ⟨gr, 0, none⟩) 3 3) 3 xs3 rfl HO7.out W6.heap.size Ad dl cd xsd rfl HRD7.out HX1.out (len_le (by omega)) (by omega) (by have := HB67.out.size; have := HGR.out; omega) ?_; intro v8 w8 hown8 hgrow8 _; obtain ⟨A8, c8, rfl, _⟩ := own_len hown8; have HO8 := Lib.hid hown8; have HB8 : Hid (Below W6.heap.size W6 w8) := Lib.hid (below_grI HB67.out hgrow8 fun b e => by have h1 := (HO7.out.lt b e).1; have h2 := HGR.out; omega); clear hown8 hgrow8))
      clear u37
      obtain ⟨N, hN⟩ : ∃ N, N = 3 + dl := ⟨_, rfl⟩
      have HALL : Hid (Rd w8 (Lt w8.heap.size) 4 A8 N (xs3 ++ xsd) ∧ Reps w8 (Lt w8.heap.size) (D + 7) ([t, ⟨tk, tn, 0, ts⟩, dT] ++ dT.kids) (xs3 ++ xsd) ∧ ([t, ⟨tk, tn, 0, ts⟩, dT] ++ dT.kids).length = N) := Lib.hid (by
        have hk : ∀ b, Lt W6.heap.size b → w8.heap[b]? = W6.heap[b]? := fun b hb => HB8.out.block b hb
        have hm : ∀ b, Lt W6.heap.size b → Lt w8.heap.size b := fun b hb => Nat.lt_of_lt_of_le hb HB8.out.size
        refine ⟨by rw [hN]; exact (Rd.of_own HO8.out).mono fun b hb => hb.2, reps_appY ((HRP3.out.keep hk).mono hm) (((HRPD.out.deeper (by omega)).keep hk).mono hm), by rw [List.length_append, ← HDL.out, hN]; rfl⟩)
      have HB8w : Hid (Below w.heap.size w w8) := Lib.hid (bt HB2.out (bt HBR6.out HB8.out))
      have hNl : N ≤ 5000 := by omega
      rw [← hN]
      clear hN HO7 HRD7 HX1 HRP3 HRPD hi hz0 hz1 hz2
      go_upto_region 10 with fail
      go_loopw [17] (fun i wv => ∃ q : Nat, q ≤ N ∧ i = .int .i64 (q : Int) ∧ Hid (Below w8.heap.size w8 wv)) (fun i _ => N - (intOf i).toNat)
      case atStart => exact ⟨0, Nat.zero_le _, rfl, Below.refl _ _⟩
      case round =>
        obtain ⟨q, hq, rfl, HQ⟩ := hrel
        by_cases hqt : q < N
        · obtain ⟨u, hu⟩ : ∃ u, ([t, ⟨tk, tn, 0, ts⟩, dT] ++ dT.kids)[q]? = some u := ⟨_, List.getElem?_eq_getElem (by rw [HALL.out.2.2]; exact hqt)⟩
          obtain ⟨b, off, A', c', hA, hbl, hc', hru⟩ := reps_at (by rw [HALL.out.2.2]; exact HALL.out.1) HALL.out.2.1 hu
          subst hA
          obtain ⟨nu, hnu⟩ : ∃ x, x = u.kids.length := ⟨_, rfl⟩
          obtain ⟨uk, huk⟩ : ∃ x, x = u.k := ⟨_, rfl⟩
          obtain ⟨un, hun⟩ : ∃ x, x = u.n := ⟨_, rfl⟩
          obtain ⟨um, hum⟩ : ∃ x, x = u.m := ⟨_, rfl⟩
          obtain ⟨ww, hww⟩ : ∃ x, x = words u := ⟨_, rfl⟩
          have HCU : Hid (∀ W, Below w8.heap.size w8 W → W.cell? ⟨b, off + q * 4, none⟩ = some (.int .i64 uk) ∧ W.cell? ⟨b, off + q * 4 + 1, none⟩ = some (.int .i64 un) ∧ W.cell? ⟨b, off + q * 4 + 2, none⟩ = some (.int .i64 um) ∧ W.cell? ⟨b, off + q * 4 + 3, none⟩ = some (.slice A' nu c')) := Lib.hid fun W hb => by
            have e : ∀ i v, (nd u A' c')[i]? = some v → W.cell? ⟨b, off + q * 4 + i, none⟩ = some v := fun i v hv => (hb.cell (p := ⟨b, _, none⟩) hbl).trans (hc' i v hv)
            exact ⟨by rw [huk]; exact e 0 _ rfl, by rw [hun]; exact e 1 _ rfl, by rw [hum]; exact e 2 _ rfl, by rw [hnu]; exact e 3 _ rfl⟩
          have HWA : Hid (∀ W, Below w8.heap.size w8 W → Calls Tryd.prog 23 #[.agg #[.int .i64 uk, .int .i64 un, .int .i64 um, .slice A' nu c']] W fun e w' => e = .returned (.int .i64 ww) ∧ Below W.heap.size W w') := Lib.hid fun W hb => by
            rw [hnu, huk, hun, hum, hww]
            exact words_is (D + 6) u A' c' W (rep_next hru hb)
          have HWB : Hid (∀ W, Below w8.heap.size w8 W → Calls Tryd.prog 24 #[.agg #[.int .i64 uk, .int .i64 un, .int .i64 um, .slice A' nu c']] W fun e w' => e = .returned (.int .i64 ww) ∧ Below W.heap.size W w') := Lib.hid fun W hb => by
            rw [hnu, huk, hun, hum, hww]
            exact rwords_is (D + 7) u A' c' W (rep_next hru hb)
          have hwe : (ww != ww) = false := by simp
          have hib : (0 : Int) ≤ (q : Int) ∧ (q : Int) < (N : Int) := ⟨by omega, by omega⟩
          have hbc : Below w8.heap.size w8 wr.drew := HQ.out.drew
          clear hnu huk hun hum hww hu hbl hc' hru
          go_upto_region 12 with fail
          go_cut [70] from 60 to 70 (fun s70 wx => ∃ V : World, V = wx ∧ s70 = .bool false ∧ Hid (Below w8.heap.size w8 V))
          case first =>
            refine wp_region_noPanic ?_
            go_region_held2 (fun W => W.cell? ⟨b, off + q * 4, none⟩ = some (.int .i64 uk) ∧ W.cell? ⟨b, off + q * 4 + 1, none⟩ = some (.int .i64 un) ∧ W.cell? ⟨b, off + q * 4 + 2, none⟩ = some (.int .i64 um) ∧ W.cell? ⟨b, off + q * 4 + 3, none⟩ = some (.slice A' nu c'))
              (exact HCU.out _ hbc)
              (first
              | (go_at_call 23; (with_reducible refine (HWA.out _ hbc).mono ?_); rintro e w11 ⟨rfl, hb11⟩; replace hbc := bt hbc hb11; clear hb11)
              | (go_at_call 24; (with_reducible refine (HWB.out _ hbc).mono ?_); rintro e w12 ⟨rfl, hb12⟩; replace hbc := bt hbc hb12; clear hb12))
            all_goals
              refine NoPanic.normal ?_
              go_wp2_with fail
              go_meet
              exact ⟨_, rfl, rfl, hbc⟩
          case rest =>
          obtain ⟨V4, hV4, rfl, HB4⟩ := hcut
          subst hV4
          clear hbc HWA HWB HCU hwe
          go_wp2_with fail
          go_roundw
          case rel => exact ⟨q + 1, by omega, by go_num, HB4⟩
          case measure => simp [intOf]; omega
        · clear HALL HO8 HR HRT HKZ HKT HTR2 HRD6 HKD HR5
          have hq2 : ¬ ((q : Int) < (N : Int)) := by omega
          have HB9 : Hid (Below w.heap.size w wr) := Lib.hid (bt HB8w.out HQ.out)
          have HPR2 : Hid (Calls Tryd.prog 12 #[.slice A nl c] wr (ProgPost wr)) := Lib.hid (HPR.out wr HB9.out)
          go_upto_region 15 with (go_at_call 12; refine HPR2.out.mono ?_; rintro e w14 ⟨p, Ap, cp, rfl, hip, hrp, hbp⟩; have HIP := Lib.hid hip; have HRP := Lib.hid hrp; have HBP := Lib.hid hbp; clear hip hrp hbp)
          obtain ⟨nf, hnf⟩ : ∃ x, x = p.kids.length := ⟨_, rfl⟩
          obtain ⟨pk, hpk⟩ : ∃ x, x = p.k := ⟨_, rfl⟩
          obtain ⟨pn, hpn⟩ : ∃ x, x = p.n := ⟨_, rfl⟩
          obtain ⟨pm, hpm⟩ : ∃ x, x = p.m := ⟨_, rfl⟩
          rw [← hnf, ← hpk, ← hpn, ← hpm]
          obtain ⟨W15, hW15⟩ : ∃ W, W = w14.alloc (.cells #[.int .i64 pk, .int .i64 pn, .int .i64 pm, .slice Ap nf cp] 25) := ⟨_, rfl⟩
          obtain ⟨gp, hgp⟩ : ∃ g, g = w14.heap.size := ⟨_, rfl⟩
          have kp : Blk W15 gp 25 #[.int .i64 pk, .int .i64 pn, .int .i64 pm, .slice Ap nf cp] := by rw [hW15, hgp]; exact Blk.new _ _ _
          have hb15 : Below w14.heap.size w14 W15 := by rw [hW15]; exact below_new _ _
          rw [← hW15, ← hgp]
          have HKP : Hid (∀ W, Below W15.heap.size W15 W → W.cell? ⟨gp, 0, none⟩ = some (.int .i64 pk) ∧ W.cell? ⟨gp, 1, none⟩ = some (.int .i64 pn) ∧ W.cell? ⟨gp, 2, none⟩ = some (.int .i64 pm) ∧ W.cell? ⟨gp, 3, none⟩ = some (.slice Ap nf cp)) := Lib.hid fun W hb => by
            have e := kp.below hb kp.lt
            exact ⟨e.cell 0, e.cell 1, e.cell 2, e.cell 3⟩
          have HRP15 : Hid (Rep W15 (Lt W15.heap.size) 11 p (nd p Ap cp)) := Lib.hid (rep_next (HRP.out.mono fun b hb => hb.2) hb15)
          have HBw15 : Hid (Below w.heap.size w W15) := Lib.hid (bt HB9.out (bt HBP.out hb15))
          have HVAL : Hid (∀ W, Below W15.heap.size W15 W → Calls Tryd.prog 19 #[.agg #[.int .i64 pk, .int .i64 pn, .int .i64 pm, .slice Ap nf cp]] W fun e w' => e = .returned (.bool true) ∧ Below W.heap.size W w') := Lib.hid fun W hb => by
            have h := valid_is 11 p _ Ap cp W (rep_next HRP15.out hb) (In.lt _) (by have := HIP.out.2.2.1; omega)
            rw [isProg_true HIP.out, ← hnf, ← hpk, ← hpn, ← hpm] at h
            exact h
          have hnf10 : nf ≤ 10 := by rw [hnf]; exact (nok_of ((prog_iff p).1 HIP.out).2.2.2).len
          have HND : Hid (Nds W15 (Lt W15.heap.size) 11 p.kids Ap cp) := Lib.hid (by
            obtain ⟨xs, h1, h2⟩ := HRP15.out.kids
            exact Nds.deeper (d := 10) ⟨⟨xs, h1, h2⟩, HRP15.out.cap, by omega⟩ (by omega))
          have HVAR : Hid (∀ (f : Nat) (u : T), p.kids[f]? = some u → ∀ W, Below W15.heap.size W15 W → Calls Tryd.prog 25 #[.agg #[.int .i64 pk, .int .i64 pn, .int .i64 pm, .slice Ap nf cp], .int .i64 (f : Int)] W fun e w' => ∃ A' c', e = .returned (.slice A' (scO p u).vars.length c') ∧ Nds w' (Lt w'.heap.size) 11 (scO p u).vars A' c' ∧ Below W.heap.size W w') := Lib.hid fun f u hu W hb => by
            have hkid := prog_kid (isProg_true HIP.out) (List.mem_of_getElem? hu)
            have h := vars_is p u f 10 Ap cp W (HND.out.next hb) hu ⟨by have := hkid.n0; have := hkid.n1; omega, by have := hkid.len; omega⟩
            rw [← hnf, ← hpk, ← hpn, ← hpm] at h
            exact h
          have HNF := Lib.hid hnf
          clear hW15 hgp kp hb15 hnf hpk hpn hpm HRP HBP HPR2 hq2
          go_upto_region 16 with fail
          go_loopw [19] (fun i wv => ∃ f : Nat, f ≤ nf ∧ i = .int .i64 (f : Int) ∧ Hid (Below W15.heap.size W15 wv)) (fun i _ => nf - (intOf i).toNat)
          case atStart => exact ⟨0, Nat.zero_le _, rfl, Below.refl _ _⟩
          case round =>
            obtain ⟨f, hf, rfl, HF⟩ := hrel
            obtain ⟨y0, y1, y2, y3⟩ := HKP.out wr HF.out
            by_cases hft : f < nf
            · obtain ⟨u, hu⟩ : ∃ u, p.kids[f]? = some u := ⟨_, List.getElem?_eq_getElem (by rw [← HNF.out]; exact hft)⟩
              have hfc : (f : Int) < (nf : Int) := by omega
              have hfun : IsFun u := by have h3 := HIP.out.2.2.2.2 f u hu; unfold isFun at h3; simpa using h3
              have HTY : Hid (∀ (i : Nat) (v : T), (scO p u).vars[i]? = some v → 1 ≤ words v ∧ words v ≤ 4) := Lib.hid fun i v hv => vars_types hfun i v hv
              have HV1 := Lib.hid (HVAR.out f u hu)
              obtain ⟨vs, hvs⟩ : ∃ vs, vs = (scO p u).vars := ⟨_, rfl⟩
              rw [← hvs] at HTY HV1
              obtain ⟨nv, hnv⟩ : ∃ x, x = vs.length := ⟨_, rfl⟩
              rw [← hnv] at HV1
              have HNV := Lib.hid hnv
              have hnv10 : nv ≤ 10 := by
                have h1 := (prog_kid (isProg_true HIP.out) (List.mem_of_getElem? hu)).len
                have h2 : (scO p u).vars.length ≤ u.kids.length := by show (u.kids.take _).length ≤ _; rw [List.length_take]; exact Nat.min_le_right _ _
                rw [hnv, hvs]; omega
              clear hu hfun hvs hnv
              go_upto_region 20 with (first
                | (go_at_call 19; (with_reducible refine (HVAL.out _ HF.out).mono ?_); rintro e w16 ⟨rfl, hb16⟩; have HB16 := Lib.hid (bt HF.out hb16); clear hb16 y0 y1 y2 y3; obtain ⟨y0, y1, y2, y3⟩ := HKP.out _ HB16.out)
                | (go_at_call 25; (with_reducible refine (HV1.out _ HB16.out).mono ?_); rintro e w18 ⟨Av, cv, rfl, hnd, hb18⟩; have HNDV := Lib.hid hnd; have HB18 := Lib.hid (bt HB16.out hb18); clear hb18 hnd y0 y1 y2 y3))
              go_loopw [21] (fun i wv => ∃ g : Nat, g ≤ nv ∧ i = .int .i64 (g : Int) ∧ Hid (Below w18.heap.size w18 wv)) (fun i _ => nv - (intOf i).toNat)
              case atStart => exact ⟨0, Nat.zero_le _, rfl, Below.refl _ _⟩
              case round =>
                obtain ⟨g, hg, rfl, HGB⟩ := hrel
                by_cases hgt : g < nv
                · obtain ⟨x, hx⟩ : ∃ x, vs[g]? = some x := ⟨_, List.getElem?_eq_getElem (by rw [← HNV.out]; exact hgt)⟩
                  obtain ⟨b, off, A', c', hA, hbl, hc', hrx⟩ := HNDV.out.at_ hx
                  subst hA
                  have hcx : ∀ i v, (nd x A' c')[i]? = some v → wr.cell? ⟨b, off + g * 4 + i, none⟩ = some v := fun i v hv => (HGB.out.cell (p := ⟨b, _, none⟩) hbl).trans (hc' i v hv)
                  obtain ⟨nx, hnx⟩ : ∃ q, q = x.kids.length := ⟨_, rfl⟩
                  obtain ⟨xk, hxk⟩ : ∃ q, q = x.k := ⟨_, rfl⟩
                  obtain ⟨xn, hxn⟩ : ∃ q, q = x.n := ⟨_, rfl⟩
                  obtain ⟨xm, hxm⟩ : ∃ q, q = x.m := ⟨_, rfl⟩
                  obtain ⟨ww, hww⟩ : ∃ q, q = words x := ⟨_, rfl⟩
                  obtain ⟨v0, v1, v2, v3⟩ : wr.cell? ⟨b, off + g * 4, none⟩ = some (.int .i64 xk) ∧ wr.cell? ⟨b, off + g * 4 + 1, none⟩ = some (.int .i64 xn) ∧ wr.cell? ⟨b, off + g * 4 + 2, none⟩ = some (.int .i64 xm) ∧ wr.cell? ⟨b, off + g * 4 + 3, none⟩ = some (.slice A' nx c') := ⟨by rw [hxk]; exact hcx 0 _ rfl, by rw [hxn]; exact hcx 1 _ rfl, by rw [hxm]; exact hcx 2 _ rfl, by rw [hnx]; exact hcx 3 _ rfl⟩
                  have HWX : Hid (Calls Tryd.prog 23 #[.agg #[.int .i64 xk, .int .i64 xn, .int .i64 xm, .slice A' nx c']] wr fun e w' => e = .returned (.int .i64 ww) ∧ Below wr.heap.size wr w') := Lib.hid (by
                    rw [hnx, hxk, hxn, hxm, hww]
                    exact words_is 10 x A' c' wr (rep_next hrx HGB.out))
                  have hwr := HTY.out g x hx
                  rw [← hww] at hwr
                  have h1 : decide (ww < 1) = false := decide_eq_false (by omega)
                  have h2 : decide ((4 : Int) < ww) = false := decide_eq_false (by omega)
                  have h3 : ¬ ww < 1 := by omega
                  have h4 : ¬ (4 : Int) < ww := by omega
                  have hib : (0 : Int) ≤ (g : Int) ∧ (g : Int) < (nv : Int) := ⟨by omega, by omega⟩
                  have hgi : (g : Int) < (nv : Int) := by omega
                  clear hnx hxk hxn hxm hww hx hrx hbl hc' hcx
                  go_wp2_with (go_at_call 23; (with_reducible refine HWX.out.mono ?_); rintro e w22 ⟨rfl, hb22⟩; have HB22 := Lib.hid (bt HGB.out hb22); clear hb22)
                  go_roundw
                  case rel => exact ⟨g + 1, by omega, by go_num, HB22⟩
                  case measure => simp [intOf]; omega
                · have hgi : ¬ (g : Int) < (nv : Int) := by omega
                  have HBX := Lib.hid (bt HB18.out HGB.out)
                  go_wp2_with fail
                  go_roundw
                  case rel => exact ⟨f + 1, by omega, by go_num, HBX⟩
                  case measure => simp [intOf]; omega
            · have hfc : ¬ ((f : Int) < (nf : Int)) := by omega
              have HBw := Lib.hid (bt HBw15.out HF.out)
              have HLV : Hid (Calls Tryd.prog 17 #[] wr fun e w' => e = .returned (.bool true) ∧ Below wr.heap.size wr w') := Lib.hid (lives_is wr (HT.out.below HBw.out HG.out) (Nat.lt_of_lt_of_le HG.out HBw.out.size))
              go_wp2_with (go_at_call 17; refine HLV.out.mono ?_; rintro e w25 ⟨rfl, hb25⟩; have HB25 := Lib.hid (bt HBw.out hb25); clear hb25)
              go_ret
              exact ⟨rfl, HB25.out⟩
end
theorem st_ltY {w : World} (h : ST w) : 0 < w.heap.size := by
  have := h 0 _ rfl 0 _ rfl
  exact block_lt_of_cell this
theorem types_law (L M : List Int) (A B : Option Addr) (c cb : Nat) (t : T) (At : Option Addr) (ct D : Nat) (kind n kids : Int) (w : World) (hL : Rd w (Lt w.heap.size) 1 A L.length (vi L)) (hM : Rd w (Lt w.heap.size) 1 B M.length (vi M)) (hrL : ∀ x ∈ L, inRange x) (hrM : ∀ x ∈ M, inRange x) (hlL : L.length ≤ 9223372036854775807) (hlM : M.length ≤ 9223372036854775807)
    (hr : Rep w (Lt w.heap.size) D t (nd t At ct)) (hk : inRange kind) (hn : inRange n) (hki : inRange kids) (hT : ST w) (hg : 0 < w.heap.size) :
    Calls Tryd.prog 5 #[.slice A L.length c, .slice B M.length cb, .agg #[.int .i64 t.k, .int .i64 t.n, .int .i64 t.m, .slice At t.kids.length ct], .int .i64 kind, .int .i64 n, .int .i64 kids] w fun e w' => e = .returned (.bool true) ∧ Below w.heap.size w w' := by
  cases D with
  | zero => exact hr.elim
  | succ D => exact types_words_is L M A B c cb t At ct D kind n kids w hL hM hrL hrM hlL hlM hr hk hn hki hT hg
end Go.Proofs.YtpbbafikjpjejaaDoor
