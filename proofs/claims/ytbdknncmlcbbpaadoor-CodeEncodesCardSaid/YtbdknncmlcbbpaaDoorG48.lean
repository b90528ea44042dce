/-
  The walk of CodeEncodes.
-/
import Derived.Test.YtbdknncmlcbbpaaDoorG47
import Derived.Test.YtbdknncmlcbbpaaDoorG19
import Derived.Test.YtbdknncmlcbbpaaDoorG22
import Derived.Deep.QuietTactic
import Derived.BigQuiet
set_option linter.unusedVariables false
namespace Go.Proofs.YtbdknncmlcbbpaaDoor
open Go.RowKit WM TR KM
attribute [local go_sem ↓ high] shutB3k shutB5b shutApB
attribute [local go_sem] run_bs3k run_bs5b

set_option maxRecDepth 100000 in
set_option maxHeartbeats 32000000 in
theorem walkEncodes (A : Option Addr) (l : List Int) (cap : Nat) (A' : Option Addr) (l' : List Int) (cap' : Nat) (i1 i2 i3 : Int) (C : Option Addr) (F : List UInt8) (cf : Nat) (w : World) (hl : l.length ≤ 9223372036854775807) (hw : ∀ x ∈ l, inRange x) (hrd : Reads w w.heap.size 1 A l.length (vi l)) (hl' : l'.length ≤ 9223372036854775807) (hw' : ∀ x ∈ l', inRange x) (hrd' : Reads w w.heap.size 1 A' l'.length (vi l')) (b1 : inRange i1) (b2 : inRange i2) (b3 : inRange i3) (hF : Reads w w.heap.size 1 C F.length (bs F)) (hcf : F.length ≤ cf) (hlF : F.length ≤ 9223372036854775807) (hT : ET w) (hgt : 0 < w.heap.size) (hkt : KT 1 w) (hkc : KT 2 w) :
    Calls Tryd.prog 4 #[.slice A l.length cap, .slice A' l'.length cap', .int .i64 i1, .int .i64 i2, .int .i64 i3, .slice C F.length cf] w fun e w' => e = .returned (.bool true) ∧ Below w.heap.size w w' := by
  have HC := Lib.hid (code_is l (Lt w.heap.size) A cap w (Rd.of_reads hrd) (In.lt _) hw hl)
  have HCM : Hid (∀ W, Below w.heap.size w W → Calls Tryd.prog 8 #[.slice A' l'.length cap'] W (CodePost W)) := Lib.hid fun W hb => code_is l' (Lt w.heap.size) A' cap' W ((Rd.of_reads hrd').keep (Keeps.below (In.lt _) hb)) ((In.lt _).more hb.size) hw' hl'
  have HFW : Hid (∀ W, Below w.heap.size w W → Calls Tryd.prog 22 #[.slice C F.length cf, .int .i64 60] W fun e w' => ∃ A' c', e = .returned (.slice A' (F.take 60).length c') ∧ w'.ownsRow W.heap.size 5 1 (.slice A' (F.take 60).length c') (F.take 60).length (bs (F.take 60)) ∧ Below W.heap.size W w') := Lib.hid (fun W hb => few_is C F cf 60 W ((hF.below hb).more hb.size) hcf hlF (by omega))
  have HT := Lib.hid hT
  have HGT := Lib.hid hgt
  have HKT := Lib.hid hkt
  have HKC := Lib.hid hkc
  have HB1 := Lib.hid b1
  have HB2 := Lib.hid b2
  have HB3 := Lib.hid b3
  obtain ⟨F6, hF6⟩ : ∃ l, F.take 60 = l := ⟨_, rfl⟩
  have hn6 : F6.length ≤ 60 := by rw [← hF6, List.length_take]; omega
  rw [hF6] at HFW
  obtain ⟨n6, hn6e⟩ : ∃ n, F6.length = n := ⟨_, rfl⟩
  rw [hn6e] at HFW hn6
  have HN6 := Lib.hid hn6e
  obtain ⟨nl', hnl'⟩ : ∃ k, k = l'.length := ⟨_, rfl⟩
  obtain ⟨nF, hnF⟩ : ∃ k, k = F.length := ⟨_, rfl⟩
  rw [← hnl'] at HCM ⊢
  rw [← hnF] at HFW ⊢
  clear hF6 hn6e hnl' hnF
  clear hl hw hrd hl' hw' hrd' b1 b2 b3 hT hgt hkt hkc hF hcf hlF
  go_enter Tryd.func4, Tryd.ntmps4
  go_upto_region 2 with (go_at_call 8; refine HC.out.mono ?_; rintro e w1 ⟨ch0, es0, Ac0, cc0, rfl, hco0, hb0, hg0⟩; have HCO0 := Lib.hid hco0; have HBA := Lib.hid hb0; have HG0 := Lib.hid hg0; clear hco0 hb0 hg0)
  obtain ⟨n0, hn0⟩ : ∃ n, n = es0.length := ⟨_, rfl⟩
  obtain ⟨V1, hV1⟩ : ∃ W, W = w1.alloc (.cells #[.int .i64 ch0, .slice Ac0 es0.length cc0] 25) := ⟨_, rfl⟩
  obtain ⟨g13, hg13⟩ : ∃ z, z = w1.heap.size := ⟨_, rfl⟩
  have hbv : Below w.heap.size w V1 := by rw [hV1]; exact ba HBA.out _
  have hcv : CoR V1 (fun b => b < V1.heap.size) Ac0 cc0 es0 := by rw [hV1]; exact (HCO0.out.keep (Keeps.refl _ _) fun b hb => hb.2).next (below_new _ _)
  have kv : Blk V1 g13 25 #[.int .i64 ch0, .slice Ac0 n0 cc0] := by rw [hV1, hg13, hn0]; exact Blk.new _ _ _
  rw [← hV1, ← hg13]
  have hsz0 := encK_le hcv (⟨by have := HG0.out.ch; omega, by have := HG0.out.ch; omega⟩ : inRange ch0) HG0.out.body (by omega)
  have hkc0 : KC V1 ch0 Ac0 n0 cc0 (es0.map Ent.fn) := ⟨⟨es0, rfl, hn0.symm, hcv⟩, ⟨by have := HG0.out.ch; omega, by have := HG0.out.ch; omega⟩, Nat.le_trans hsz0.1 (by
    have h1 := HG0.out.len.2
    have h2 := Nat.mul_le_mul_right (36 + 27 * 2000) h1
    omega)⟩
  have hn0b : n0 ≤ 3 := by rw [hn0]; exact HG0.out.len.2
  have HSP : Hid (Calls Tryd.prog 9 #[.agg #[.int .i64 ch0, .slice Ac0 n0 cc0], .int .i64 i1, .int .i64 i2, .int .i64 i3] V1 (SpoPost 2000 n0 V1)) := Lib.hid (by
    have h := spo_is ch0 es0 Ac0 cc0 i1 i2 i3 2000 V1 hcv (by have := HG0.out.ch; omega) (by have := HG0.out.len; omega) ⟨HG0.out.body, by omega⟩ HB1.out HB2.out HB3.out
    rw [← hn0] at h
    exact h)
  obtain ⟨c0, c1⟩ : V1.cell? ⟨g13, 0, none⟩ = some (.int .i64 ch0) ∧ V1.cell? ⟨g13, 1, none⟩ = some (.slice Ac0 n0 cc0) := ⟨kv.cell 0, kv.cell 1⟩
  have HBV := Lib.hid hbv
  have HKV := Lib.hid kv
  have HKC0 := Lib.hid hkc0
  clear HC hV1 hg13 hbv hcv kv hsz0 hkc0 HCO0 HBA HG0 hn0
  go_upto_region 3 with (go_at_call 9; refine HSP.out.mono ?_; rintro e w2 ⟨ch, es, Ac, cc, rfl, hco, hb2, hch, hel, hbl⟩; have HCO := Lib.hid hco; have HBA := Lib.hid hb2; have HBL := Lib.hid hbl; clear hco hb2 hbl)
  obtain ⟨n, hn⟩ : ∃ n, n = es.length := ⟨_, rfl⟩
  obtain ⟨V2, hV2⟩ : ∃ W, W = w2.alloc (.cells #[.int .i64 ch, .slice Ac es.length cc] 25) := ⟨_, rfl⟩
  obtain ⟨g14, hg14⟩ : ∃ z, z = w2.heap.size := ⟨_, rfl⟩
  have hb12 : Below V1.heap.size V1 V2 := by rw [hV2]; exact ba HBA.out _
  have hcv : CoR V2 (fun b => b < V2.heap.size) Ac cc es := by rw [hV2]; exact (HCO.out.keep (Keeps.refl _ _) fun b hb => hb.2).next (below_new _ _)
  have kv : Blk V2 g14 25 #[.int .i64 ch, .slice Ac n cc] := by rw [hV2, hg14, hn]; exact Blk.new _ _ _
  rw [← hV2, ← hg14]
  have hel2 : es.length ≤ 10 := by omega
  have hir : inRange ch := ⟨by omega, by omega⟩
  have hsz := encK_le hcv hir HBL.out (by omega)
  obtain ⟨fs, hfs⟩ : ∃ fs, fs = es.map Ent.fn := ⟨_, rfl⟩
  have hkcd : KC V2 ch Ac n cc fs := ⟨⟨es, hfs.symm, hn.symm, hcv⟩, hir, Nat.le_trans (by rw [hfs]; exact hsz.1) (by
    have h2 := Nat.mul_le_mul_right (36 + 27 * (2000 + 39)) hel2
    omega)⟩
  obtain ⟨N, hN⟩ : ∃ k, (encK ch fs).length = k := ⟨_, rfl⟩
  have hN0 : 2 ≤ N ∧ N ≤ 600000 := ⟨by rw [← hN, hfs]; exact hsz.2, by rw [← hN]; exact hkcd.sz⟩
  have hn10 : n ≤ 10 := by rw [hn]; exact hel2
  have HKV2 : Hid (∀ W, Below V2.heap.size V2 W → (W.cell? ⟨g13, 0, none⟩ = some (.int .i64 ch0) ∧ W.cell? ⟨g13, 1, none⟩ = some (.slice Ac0 n0 cc0)) ∧ (W.cell? ⟨g14, 0, none⟩ = some (.int .i64 ch) ∧ W.cell? ⟨g14, 1, none⟩ = some (.slice Ac n cc))) := Lib.hid fun W hb => by
    have k1 := HKV.out.below (bt hb12 hb) HKV.out.lt
    have k2 := kv.below hb kv.lt
    exact ⟨⟨k1.cell 0, k1.cell 1⟩, k2.cell 0, k2.cell 1⟩
  have HKCD := Lib.hid hkcd
  have HBV2 := Lib.hid (bt HBV.out hb12)
  have HB12 := Lib.hid hb12
  have HNE := Lib.hid hN
  clear HSP hV2 hg14 hb12 hcv kv hel hel2 hch hir hsz hfs hkcd hN HCO HBA HBL hn c0 c1
  obtain ⟨⟨c0, c1⟩, d0, d1⟩ := HKV2.out V2 (Below.refl _ _)
  have hbc : Below V2.heap.size V2 V2.drew := (Below.refl _ _).drew
  go_cut [15] from 36 to 40 (fun s15 wv => ∃ (V3 : World) (gl : Nat), V3 = wv ∧ s15 = .slice (some ⟨gl, 0, none⟩) 3 3 ∧ Hid (Below V2.heap.size V2 V3 ∧ ∀ k, k < 3 → ∃ (ch : Int) (A : Option Addr) (n c : Nat) (fs : List KM.Fn), n ≤ 1000 ∧ ∀ W, Below V3.heap.size V3 W → W.cell? ⟨gl, k * 2, none⟩ = some (.int .i64 ch) ∧ W.cell? ⟨gl, k * 2 + 1, none⟩ = some (.slice A n c) ∧ KC W ch A n c fs))
  case first =>
    go_region_with (go_at_call 8; refine (HCM.out _ (bt HBV2.out hbc)).mono ?_; rintro e w3 ⟨ch3, es3, Ac3, cc3, rfl, hco3, hb3, hg3⟩; have HCO3 := Lib.hid hco3; have HB3' := Lib.hid (bt hbc hb3); have HG3 := Lib.hid hg3; clear hco3 hb3 hg3 c0 c1 d0 d1; obtain ⟨⟨c0, c1⟩, d0, d1⟩ := HKV2.out _ HB3'.out)
    all_goals
      go_wp2_with fail
      go_meet
      have hkb := Blk.new w3 25 #[.int .i64 ch0, .slice Ac0 n0 cc0, .int .i64 ch, .slice Ac n cc, .int .i64 ch3, .slice Ac3 es3.length cc3]
      have hba := below_new w3 (.cells #[.int .i64 ch0, .slice Ac0 n0 cc0, .int .i64 ch, .slice Ac n cc, .int .i64 ch3, .slice Ac3 es3.length cc3] 25)
      have hb23 := bt HB3'.out hba
      refine ⟨_, _, rfl, rfl, hb23, fun k hk => ?_⟩
      rcases (show k = 0 ∨ k = 1 ∨ k = 2 by omega) with rfl | rfl | rfl
      · exact ⟨ch0, Ac0, n0, cc0, es0.map Ent.fn, by omega, fun W hb => ⟨(hkb.below hb hkb.lt).cell 0, (hkb.below hb hkb.lt).cell 1, HKC0.out.next (bt HB12.out (bt hb23 hb))⟩⟩
      · exact ⟨ch, Ac, n, cc, fs, by omega, fun W hb => ⟨(hkb.below hb hkb.lt).cell 2, (hkb.below hb hkb.lt).cell 3, HKCD.out.next (bt hb23 hb)⟩⟩
      · have hc3 := HG3.out.ch
        have hl3 := HG3.out.len.2
        have hs3 := (encK_le HCO3.out (⟨by omega, by omega⟩ : inRange ch3) HG3.out.body (by omega)).1
        have h2 := Nat.mul_le_mul_right (36 + 27 * 2000) hl3
        have hk3 : KC w3 ch3 Ac3 es3.length cc3 (es3.map Ent.fn) := ⟨⟨es3, rfl, rfl, HCO3.out.keep (Keeps.refl _ _) fun b hb => hb.2⟩, ⟨by omega, by omega⟩, by omega⟩
        exact ⟨ch3, Ac3, es3.length, cc3, es3.map Ent.fn, by omega, fun W hb => ⟨(hkb.below hb hkb.lt).cell 4, (hkb.below hb hkb.lt).cell 5, hk3.next (bt hba hb)⟩⟩
  case rest =>
  obtain ⟨V3, gl, hV3, rfl, HH⟩ := hcut
  subst hV3
  have HB23 := Lib.hid HH.out.1
  have HROW := Lib.hid HH.out.2
  have HKT3 : Hid (∀ W, Below V3.heap.size V3 W → KT 1 W) := Lib.hid fun W hb => HKT.out.below (bt HBV2.out (bt HB23.out hb))
  have HKC3 : Hid (∀ W, Below V3.heap.size V3 W → KT 2 W) := Lib.hid fun W hb => HKC.out.below (bt HBV2.out (bt HB23.out hb))
  clear HH c0 c1 d0 d1 hbc HCM HKC0 HKT HKC
  go_upto_region 5 with fail
  go_loopw [16] (fun s wr => ∃ i : Nat, i ≤ 3 ∧ s = .int .i64 i ∧ Hid (Below V3.heap.size V3 wr)) (fun s _ => 3 - (intOf s).toNat)
  case atStart => exact ⟨0, Nat.zero_le _, rfl, Below.refl _ _⟩
  case round =>
    obtain ⟨i, hi3, rfl, HBi⟩ := hrel
    by_cases hli : i < 3
    · obtain ⟨chi, Ai, ni, ci, fi, hni, hrow⟩ := HROW.out i hli
      have hib : (0 : Int) ≤ (i : Int) ∧ (i : Int) < 3 := ⟨by omega, by omega⟩
      obtain ⟨Ni, hNi⟩ : ∃ k, (encK chi fi).length = k := ⟨_, rfl⟩
      obtain ⟨D, hD⟩ : ∃ D, (bs (digK chi fi)).toArray = D := ⟨_, rfl⟩
      have HNI : Hid (Ni ≤ 600000) := Lib.hid (by rw [← hNi]; exact (hrow _ (Below.refl _ _)).2.2.sz)
      have HRW := Lib.hid hrow
      have FE : Hid (∀ W, Below V3.heap.size V3 W → Calls Tryd.prog 15 #[.agg #[.int .i64 chi, .slice Ai ni ci]] W (EncP Ni (encK chi fi) W)) := Lib.hid fun W hb => (HRW.out W hb).2.2.enc hni hNi
      have FR : Hid (∀ W, Below V3.heap.size V3 W → Calls Tryd.prog 16 #[.agg #[.int .i64 chi, .slice Ai ni ci]] W (EncP Ni (encK chi fi) W)) := Lib.hid fun W hb => (HRW.out W hb).2.2.renc hNi
      have FD : Hid (∀ W, Below V3.heap.size V3 W → Calls Tryd.prog 17 #[.agg #[.int .i64 chi, .slice Ai ni ci]] W fun e w' => e = .returned (.agg D) ∧ Below W.heap.size W w') := Lib.hid fun W hb => by rw [← hD]; exact (HRW.out W hb).2.2.dig hni (HKT3.out W hb)
      have FG : Hid (∀ W, Below V3.heap.size V3 W → Calls Tryd.prog 18 #[.agg #[.int .i64 chi, .slice Ai ni ci]] W fun e w' => e = .returned (.agg D) ∧ Below W.heap.size W w') := Lib.hid fun W hb => by rw [← hD]; exact (HRW.out W hb).2.2.rdig (HKC3.out W hb)
      have FS : Hid (∀ (W : World) (A1 A2 : Option Addr) (c1 c2 : Nat), Reads W W.heap.size 1 A1 Ni (bs (encK chi fi)) → Reads W W.heap.size 1 A2 Ni (bs (encK chi fi)) → Calls Tryd.prog 14 #[.slice A1 Ni c1, .slice A2 Ni c2] W fun e w' => e = .returned (.bool true) ∧ Below W.heap.size W w') := Lib.hid fun W A1 A2 c1 c2 h1 h2 => sameW h1 h2 hNi (by have := HNI.out; omega)
      have hNE : ∀ W : World, (binOp .neq 37 (.agg D) (.agg D)).run Tryd.prog W = .ok (.bool false) W := fun W => by rw [← hD]; exact neqD (digK chi fi) (ofB_len _ _) W
      have HCE : Hid (∀ W, Below V3.heap.size V3 W → W.cell? ⟨gl, i * 2, none⟩ = some (.int .i64 chi) ∧ W.cell? ⟨gl, i * 2 + 1, none⟩ = some (.slice Ai ni ci)) := Lib.hid fun W hb => ⟨(HRW.out W hb).1, (HRW.out W hb).2.1⟩
      have hbc : Below V3.heap.size V3 wr.drew := HBi.out.drew
      clear hrow hNi hD
      go_upto_region 7 with fail
      go_cut [71] from 47 to 71 (fun s71 wv => ∃ (V4 : World), V4 = wv ∧ s71 = .bool false ∧ Hid (Below V3.heap.size V3 V4))
      case first =>
        refine wp_region_noPanic ?_
        go_region_held2 (fun W => W.cell? ⟨gl, i * 2, none⟩ = some (.int .i64 chi) ∧ W.cell? ⟨gl, i * 2 + 1, none⟩ = some (.slice Ai ni ci))
          (exact HCE.out _ hbc)
          (first
          | (go_at_call 15; (with_reducible refine (FE.out _ hbc).mono ?_); rintro e w11 ⟨AY, cY, rfl, hra, _, hb11⟩; (try replace HRB := Lib.hid (fun W' (h' : Below w11.heap.size w11 W') => HRB.out W' (bt hb11 h'))); replace hbc := bt hbc hb11; have HRA := Lib.hid hra; clear hra hb11)
          | (go_at_call 16; (with_reducible refine (FR.out _ hbc).mono ?_); rintro e w12 ⟨AZ, cZ, rfl, hrb, _, hb12⟩; (try replace HRA := Lib.hid (fun W' (h' : Below w12.heap.size w12 W') => HRA.out W' (bt hb12 h'))); replace hbc := bt hbc hb12; have HRB := Lib.hid hrb; clear hrb hb12)
          | (go_at_call 14; (with_reducible refine (FS.out _ _ _ _ _ (HRA.out _ (Below.refl _ _)) (HRB.out _ (Below.refl _ _))).mono ?_); rintro e w13 ⟨rfl, hb13⟩; replace hbc := bt hbc hb13; clear hb13)
          | (go_at_call 17; (with_reducible refine (FD.out _ hbc).mono ?_); rintro e w14 ⟨rfl, hb14⟩; replace hbc := bt hbc hb14; clear hb14)
          | (go_at_call 18; (with_reducible refine (FG.out _ hbc).mono ?_); rintro e w15 ⟨rfl, hb15⟩; replace hbc := bt hbc hb15; clear hb15))
        all_goals
          refine NoPanic.normal ?_
          go_wp2_with fail
          go_meet
          exact ⟨_, rfl, rfl, hbc⟩
      case rest =>
      obtain ⟨V4, hV4, rfl, HB4⟩ := hcut
      subst hV4
      clear FE FR FD FG FS hNE hbc
      go_upto_region 10 with fail
      go_loopw [17] (fun s wr => ∃ k : Nat, k ≤ 3 ∧ s = .int .i64 k ∧ Hid (Below V3.heap.size V3 wr)) (fun s _ => 3 - (intOf s).toNat)
      case atStart => exact ⟨0, Nat.zero_le _, rfl, HB4.out⟩
      case round =>
        obtain ⟨k, hk3, rfl, HBk⟩ := hrel
        by_cases hlk : k < 3
        · obtain ⟨chk, Ak, nk, ck, fk, hnk, hrowk⟩ := HROW.out k hlk
          have hkb : (0 : Int) ≤ (k : Int) ∧ (k : Int) < 3 := ⟨by omega, by omega⟩
          obtain ⟨r, hr⟩ : ∃ r, r = sameK ⟨chi, fi⟩ ⟨chk, fk⟩ := ⟨_, rfl⟩
          have HRWK := Lib.hid hrowk
          have FS1 : Hid (∀ W, Below V3.heap.size V3 W → Calls Tryd.prog 19 #[.agg #[.int .i64 chi, .slice Ai ni ci], .agg #[.int .i64 chk, .slice Ak nk ck]] W fun e w' => e = .returned (.bool r) ∧ Below W.heap.size W w') := Lib.hid fun W hb => by rw [hr]; exact (HRW.out W hb).2.2.same (HRWK.out W hb).2.2
          have FS2 : Hid (∀ W, Below V3.heap.size V3 W → Calls Tryd.prog 20 #[.agg #[.int .i64 chi, .slice Ai ni ci], .agg #[.int .i64 chk, .slice Ak nk ck]] W fun e w' => e = .returned (.bool r) ∧ Below W.heap.size W w') := Lib.hid fun W hb => by rw [hr]; exact (HRW.out W hb).2.2.rsame (HRWK.out W hb).2.2
          have HCK : Hid (∀ W, Below V3.heap.size V3 W → W.cell? ⟨gl, i * 2, none⟩ = some (.int .i64 chi) ∧ W.cell? ⟨gl, i * 2 + 1, none⟩ = some (.slice Ai ni ci) ∧ W.cell? ⟨gl, k * 2, none⟩ = some (.int .i64 chk) ∧ W.cell? ⟨gl, k * 2 + 1, none⟩ = some (.slice Ak nk ck)) := Lib.hid fun W hb => ⟨(HRW.out W hb).1, (HRW.out W hb).2.1, (HRWK.out W hb).1, (HRWK.out W hb).2.1⟩
          have hrr : (r != r) = false := by simp
          have hbc : Below V3.heap.size V3 wr.drew := HBk.out.drew
          clear hrowk hr
          go_upto_region 12 with fail
          go_cut [96] from 78 to 96 (fun s96 wv => ∃ (V5 : World), V5 = wv ∧ s96 = .bool false ∧ Hid (Below V3.heap.size V3 V5))
          case first =>
            refine wp_region_noPanic ?_
            go_region_held2 (fun W => W.cell? ⟨gl, i * 2, none⟩ = some (.int .i64 chi) ∧ W.cell? ⟨gl, i * 2 + 1, none⟩ = some (.slice Ai ni ci) ∧ W.cell? ⟨gl, k * 2, none⟩ = some (.int .i64 chk) ∧ W.cell? ⟨gl, k * 2 + 1, none⟩ = some (.slice Ak nk ck))
              (exact HCK.out _ hbc)
              (first
              | (go_at_call 19; (with_reducible refine (FS1.out _ hbc).mono ?_); rintro e w11 ⟨rfl, hb11⟩; replace hbc := bt hbc hb11; clear hb11)
              | (go_at_call 20; (with_reducible refine (FS2.out _ hbc).mono ?_); rintro e w12 ⟨rfl, hb12⟩; replace hbc := bt hbc hb12; clear hb12))
            all_goals
              refine NoPanic.normal ?_
              go_wp2_with fail
              go_meet
              exact ⟨_, rfl, rfl, hbc⟩
          case rest =>
          obtain ⟨V5, hV5, rfl, HB5⟩ := hcut
          subst hV5
          clear FS1 FS2 hrr hbc HCK
          go_wp2_with fail
          go_roundw
          case rel => exact ⟨k + 1, by omega, by go_num, HB5.out⟩
          case measure => simp [intOf]; omega
        · have hk3e : k = 3 := by omega
          subst hk3e
          clear hk3 hlk
          go_wp2_with fail
          go_roundw
          case rel => exact ⟨i + 1, by omega, by go_num, HBk.out⟩
          case measure => simp [intOf]; omega
    · have hi3e : i = 3 := by omega
      subst hi3e
      clear hi3 hli
      obtain ⟨d0, d1⟩ := (HKV2.out wr (bt HB23.out HBi.out)).2
      have HREN : Hid (Calls Tryd.prog 16 #[.agg #[.int .i64 ch, .slice Ac n cc]] wr (EncP N (encK ch fs) wr)) := Lib.hid ((HKCD.out.next (bt HB23.out HBi.out)).renc HNE.out)
      have HBW0 : Hid (Below w.heap.size w wr) := Lib.hid (bt HBV2.out (bt HB23.out HBi.out))
      clear HROW HKT3 HKC3 HKCD HBi
      go_upto_region 15 with (go_at_call 16; refine HREN.out.mono ?_; rintro e V ⟨AB, cB, rfl, hrb, hob, hbE⟩)
      clear d0 d1 HREN
      obtain ⟨eb, heb⟩ : ∃ x, x = encK ch fs := ⟨_, rfl⟩
      rw [← heb] at hrb hob
      have HEB : Hid (eb.length = N) := Lib.hid (by rw [heb]; exact HNE.out)
      have HRB := Lib.hid hrb
      obtain ⟨_, _, hcB1, hcB⟩ := own_len hob
      cases hcB1
      have HBE : Hid (Below w.heap.size w V) := Lib.hid (bt HBW0.out hbE)
      obtain ⟨hN2, hN6⟩ := hN0
      obtain ⟨bA, oA, hAA, _, _⟩ := (hrb V (Below.refl _ _)).lit (by omega)
      subst hAA
      have har := arnd_le (x := i1) (n := (N : Int)) (by omega)
      obtain ⟨kq, hkq⟩ : ∃ k : Nat, arnd i1 (N : Int) = (k : Int) := ⟨(arnd i1 (N : Int)).toNat, by omega⟩
      have hkN : kq < N := by omega
      have HAR : Hid (∀ W, Calls Tryd.prog 21 #[.int .i64 i1, .int .i64 (N : Int)] W fun e w' => e = .returned (.int .i64 (kq : Int)) ∧ W = w') := Lib.hid (fun W => by rw [← hkq]; exact around_is i1 N HB1.out (by omega) W)
      have HFN : Hid (Calls Tryd.prog 22 #[.slice (some ⟨bA, oA, none⟩) N cB, .int .i64 (N : Int)] V fun e w' => ∃ A' c', e = .returned (.slice A' N c') ∧ w'.ownsRow V.heap.size 5 1 (.slice A' N c') N (bs eb) ∧ Below V.heap.size V w') := Lib.hid (by
        have h := few_is (some ⟨bA, oA, none⟩) eb cB N V (by rw [HEB.out]; exact HRB.out _ (Below.refl _ _)) (by rw [HEB.out]; exact hcB) (by rw [HEB.out]; omega) (by omega)
        rw [List.take_of_length_le (by rw [HEB.out]; exact Nat.le_refl _), HEB.out] at h
        exact h)
      have HCB := Lib.hid hcB
      clear har hkq hob hbE heb hrb HBW0 hcB
      go_upto_region 17 with (first
        | (go_at_call 21; refine (HAR.out _).mono ?_; rintro e w' ⟨rfl, rfl⟩)
        | (go_at_call 22; refine HFN.out.mono ?_; rintro e w4 ⟨A4, c4, rfl, hown4, hb4⟩))
      obtain ⟨x8, hx8⟩ : ∃ x8 : UInt8, (x8.toNat : Int) = i3 % 256 := ⟨UInt8.ofNat (i3 % 256).toNat, by rw [UInt8.toNat_ofNat']; have h1 := Int.emod_nonneg i3 (show (256 : Int) ≠ 0 by decide); have h2 := Int.emod_lt_of_pos i3 (show (0 : Int) < 256 by decide); omega⟩
      obtain ⟨g4, cur4, hA4, hge4, hB4, hcu4, hown5⟩ := own_put hown4 hkN (.int .u8 (x8.toNat : Int))
      obtain ⟨_, _, hc41, hc4⟩ := own_len hown4
      cases hc41
      subst hA4
      rw [bs_set] at hown5
      obtain ⟨z4, hz4⟩ : ∃ z : Int, w4.cell? ⟨g4, kq, none⟩ = some (.int .u8 z) := ⟨_, (hB4.cell kq).trans (hcu4.trans (bs_get _ kq (by rw [HEB.out]; exact hkN)))⟩
      have hfr4 : w4.frozen? ⟨g4, kq, none⟩ = false := hB4.frozen kq
      have hkb : (0 : Int) ≤ (kq : Int) ∧ (kq : Int) < (N : Int) := ⟨by omega, by omega⟩
      obtain ⟨W5, hW5⟩ : ∃ W, W = w4.setCell ⟨g4, kq, none⟩ (.int .u8 (x8.toNat : Int)) := ⟨_, rfl⟩
      have hb5 : Below V.heap.size V W5 := by rw [hW5]; exact hb4.setCell hge4 _
      rw [← hW5] at hown5
      have HB5 := Lib.hid hb5
      have HX2 : Hid (KB W5 (some ⟨g4, 0, none⟩) N c4 (eb.set kq x8)) := Lib.hid ⟨Reads.of_own hown5, by rw [List.length_set]; exact HEB.out, hc4, by omega⟩
      have HW5 := Lib.hid hW5
      have HX8 := Lib.hid hx8
      clear hB4 hcu4 hown5 hown4 hb4 hb5 hW5 hx8 HFN HAR
      go_upto_region 18 with fail
      rw [← HX8.out, ← HW5.out]
      clear hz4 hfr4 HW5 HX8 hkb
      have hct := cut8 (some ⟨bA, oA, none⟩) N cB kq (by have := HCB.out; omega)
      obtain ⟨A9, hA9⟩ : ∃ A9, A9 = (if cB = 0 then (some ⟨bA, oA, none⟩ : Option Addr) else (some ⟨bA, oA, none⟩ : Option Addr).map (·.add 0)) := ⟨_, rfl⟩
      obtain ⟨k1, hk1⟩ : ∃ k, k = kq + 1 := ⟨_, rfl⟩
      have hwk : IntKind.i64.wrap ((kq : Int) + 1) = (k1 : Int) := by rw [IntKind.wrap_i64]; omega
      have hk1N : k1 ≤ N := by omega
      have hct2 := cutB bA oA k1 N cB hk1N HCB.out
      obtain ⟨o2, ho2⟩ : ∃ z, z = (if cB = k1 then oA else oA + k1) := ⟨_, rfl⟩
      obtain ⟨N1, hN1⟩ : ∃ z, z = N - k1 := ⟨_, rfl⟩
      have HRD : Hid (∀ W, Below V.heap.size V W → Reads W W.heap.size 1 (some ⟨bA, o2, none⟩) N1 (bs (eb.drop k1))) := Lib.hid fun W hb => by
        have h := reads_drop (c := cB) (u := k1) (by rw [HEB.out]; exact HRB.out W hb) (by rw [HEB.out]; exact hk1N) (by rw [HEB.out]; exact HCB.out)
        rw [List.length_drop, HEB.out, ← hN1, ← ho2] at h
        exact h
      rw [← hA9] at hct
      rw [← ho2, ← hN1] at hct2
      have HDL : Hid ((eb.drop k1).length = N1) := Lib.hid (by rw [List.length_drop, HEB.out, hN1])
      have HTL : Hid ((eb.take kq).length = kq) := Lib.hid (by rw [List.length_take, HEB.out]; omega)
      have HY0 : Hid (KB W5 (some ⟨bA, oA, none⟩) N cB eb) := Lib.hid ⟨HRB.out _ HB5.out, HEB.out, HCB.out, by omega⟩
      have HY1 : Hid (KB W5 A9 kq cB (eb.take kq)) := Lib.hid ⟨by rw [hA9]; exact reads_cut8 (c := cB) (k := kq) (HRB.out _ HB5.out) (by omega), HTL.out, by have := HCB.out; omega, by omega⟩
      have HF1 : Hid (∀ W, Below W5.heap.size W5 W → Calls Tryd.prog 22 #[.slice (some ⟨bA, oA, none⟩) N cB, .int .i64 (kq : Int)] W fun e w' => ∃ A' c', e = .returned (.slice A' kq c') ∧ w'.ownsRow W.heap.size 5 1 (.slice A' kq c') kq (bs (eb.take kq)) ∧ Below W.heap.size W w') := Lib.hid fun W hb => by
        have h := few_is (some ⟨bA, oA, none⟩) eb cB kq W (by rw [HEB.out]; exact HRB.out _ (bt HB5.out hb)) (by rw [HEB.out]; exact HCB.out) (by rw [HEB.out]; omega) (by omega)
        rw [HTL.out, HEB.out] at h
        exact h
      have HF6 : Hid (∀ W, Below W5.heap.size W5 W → Calls Tryd.prog 22 #[.slice C nF cf, .int .i64 60] W fun e w' => ∃ A' c', e = .returned (.slice A' n6 c') ∧ w'.ownsRow W.heap.size 5 1 (.slice A' n6 c') n6 (bs F6) ∧ Below W.heap.size W w' ∧ KB w' A' n6 c' F6) := Lib.hid fun W hb => by
        refine (HFW.out W (bt HBE.out (bt HB5.out hb))).mono ?_
        rintro e w' ⟨A', c', he, ho, hbw⟩
        obtain ⟨_, _, e1, hc1⟩ := own_len ho
        cases e1
        exact ⟨A', c', he, ho, hbw, Reads.of_own ho, HN6.out, hc1, by omega⟩
      have HRD5 : Hid (∀ W, Below W5.heap.size W5 W → Reads W W.heap.size 1 (some ⟨bA, o2, none⟩) N1 (bs (eb.drop k1))) := Lib.hid fun W hb => HRD.out W (bt HB5.out hb)
      have HB0 : Hid (Below W5.heap.size W5 W5.drew) := Lib.hid (Below.refl _ _).drew
      have hkn1 : kq + N1 ≤ 1000000 := by omega
      have hkn0 : kq + N1 ≤ 600000 := by omega
      clear hA9 hk1 ho2 hN1 HRD hc4
      go_cut [21] from 112 to 127 (fun s21 wv => ∃ (gr : Nat) (ls : List (List UInt8)) (V3 : World), V3 = wv ∧ s21 = .slice (some ⟨gr, 0, none⟩) 5 5 ∧ Hid (RowB V3 gr ls ∧ ls.length = 5 ∧ (∀ l ∈ ls, l.length ≤ 600000) ∧ Below W5.heap.size W5 V3))
      case first =>
        go_region_with (go_at_call 22; first
          | (with_reducible refine (HF1.out _ HBS.out).mono ?_
             rintro e wf ⟨A1, c1, rfl, ho1, hb1⟩
             have h0 := apB_run2 (cb := cB - k1) hb1 ho1 (HRD5.out wf (bt HBS.out hb1)) hkn1 HTL.out HDL.out
             obtain ⟨A3, c3, w3, happ, hk3, hb3, _⟩ := h0
             have HFIN := Lib.hid (And.intro (bt HBS.out hb3) (And.intro hk3 (HK2.out.next hb3)))
             clear ho1 hb1 hk3 hb3)
          | (with_reducible refine (HF1.out _ HB0.out).mono ?_
             rintro e wf ⟨A1, c1, rfl, ho1, hb1⟩
             have h0 := apB_run2 (cb := cB - k1) hb1 ho1 (HRD5.out wf (bt HB0.out hb1)) hkn1 HTL.out HDL.out
             obtain ⟨A3, c3, w3, happ, hk3, hb3, _⟩ := h0
             have HBF := Lib.hid (bt HB0.out hb1)
             have HO1 := Lib.hid ho1
             have HB1f := Lib.hid hb1
             have HB3 := Lib.hid (bt HB0.out hb3)
             have HK3 := Lib.hid hk3
             clear ho1 hb1 hk3 hb3)
          | (with_reducible refine (HF6.out _ HB3.out).mono ?_
             rintro e wg ⟨A2, c2, rfl, ho2, hb2, hk2⟩
             have HFIN := Lib.hid (And.intro (bt HB3.out hb2) (And.intro (HK3.out.next hb2) hk2))
             clear ho2 hb2 hk2)
          | (with_reducible refine (HF6.out _ HBF.out).mono ?_
             rintro e wg ⟨A2, c2, rfl, ho2, hb2, hk2⟩
             have h0 := apB_run2 (cb := cB - k1) (bt HB1f.out hb2) (ownsRow_below HO1.out hb2) (HRD5.out wg (bt HBF.out hb2)) hkn1 HTL.out HDL.out
             clear happ
             obtain ⟨A3, c3, w3, happ, hk3, hb3, hg3⟩ := h0
             have HFIN := Lib.hid (And.intro (bt HB0.out hb3) (And.intro hk3 (hk2.grown ho2 hg3 (fun b e => (HO1.out.lt b e).2))))
             clear ho2 hb2 hk2 hk3 hb3 hg3)
          | (with_reducible refine (HF6.out _ HB0.out).mono ?_
             rintro e wg ⟨A2, c2, rfl, ho2, hb2, hk2⟩
             have HBS := Lib.hid (bt HB0.out hb2)
             have HK2 := Lib.hid hk2
             clear ho2 hb2 hk2))
        all_goals
          go_wp2_with fail
          go_meet
          refine ⟨_, [eb, eb.set kq x8, eb.take kq, eb.take kq ++ eb.drop k1, F6], _, rfl, rfl, ?_, rfl, ?_, ba HFIN.out.1 _⟩
          · exact rowB_of ⟨⟨_, _, _, rfl, HY0.out.next HFIN.out.1⟩, ⟨_, _, _, rfl, HX2.out.next HFIN.out.1⟩, ⟨_, _, _, rfl, HY1.out.next HFIN.out.1⟩, ⟨_, _, _, rfl, HFIN.out.2.1⟩, ⟨_, _, _, rfl, HFIN.out.2.2⟩, trivial⟩
          · intro x hx
            have h1 := HEB.out
            have h2 := HTL.out
            have h3 := HDL.out
            have h4 := HN6.out
            simp only [List.mem_cons, List.not_mem_nil, or_false] at hx
            rcases hx with rfl | rfl | rfl | rfl | rfl
            · omega
            · rw [List.length_set]; omega
            · omega
            · rw [List.length_append]; omega
            · omega
      case rest =>
      obtain ⟨gr, ls, V6, hV6, rfl, HH⟩ := hcut
      subst hV6
      have HBF : Hid (Below w.heap.size w V6) := Lib.hid (bt HBE.out (bt HB5.out HH.out.2.2.2))
      have HLEN : Hid (ls.length = 5) := Lib.hid HH.out.2.1
      have HLE : Hid (∀ l ∈ ls, l.length ≤ 600000) := Lib.hid HH.out.2.2.1
      have HROW : Hid (∀ (i : Nat) (l : List UInt8), ls[i]? = some l → ∃ A n c, (∀ W', Below V6.heap.size V6 W' → W'.cell? ⟨gr, i, none⟩ = some (.slice A n c)) ∧ ∀ W', Below V6.heap.size V6 W' → KB W' A n c l) := Lib.hid (fun i l hl => by
        obtain ⟨hgl, hall⟩ := HH.out.1
        obtain ⟨A, n, c, hc, hk⟩ := hall i l hl
        exact ⟨A, n, c, fun W' h => (h.cell (p := ⟨gr, i, none⟩) hgl).trans hc, fun W' h => hk.next h⟩)
      clear HH hct hct2 HY0 HY1 HF1 HF6 HRD5 HB0 hkn1 hkn0 HDL HTL HX2 HEB HRB HCB HB5 HBE hwk hk1N hkN HFW
      go_upto_region 20 with fail
      go_loopw [22] (fun s wr => ∃ i : Nat, i ≤ 5 ∧ s = .int .i64 i ∧ Hid (Below V6.heap.size V6 wr)) (fun s _ => 5 - (intOf s).toNat)
      case atStart => exact ⟨0, Nat.zero_le _, rfl, Below.refl _ _⟩
      case round =>
        obtain ⟨i, hi5, rfl, HBi⟩ := hrel
        by_cases hli : i < 5
        · obtain ⟨l, hl⟩ : ∃ l, ls[i]? = some l := ⟨_, List.getElem?_eq_getElem (by rw [HLEN.out]; exact hli)⟩
          obtain ⟨Ai, ni, ci, hKi, hBi⟩ := HROW.out i l hl
          have hll := HLE.out l (List.mem_of_getElem? hl)
          have HKI := Lib.hid hKi
          have HKB := Lib.hid hBi
          have hib : (0 : Int) ≤ i ∧ (i : Int) < 5 := ⟨by omega, by omega⟩
          obtain ⟨cd, hcd⟩ : ∃ t, kCh (dCode l) = t := ⟨_, rfl⟩
          obtain ⟨fd, hfd⟩ : ∃ t, kFs (dCode l) = t := ⟨_, rfl⟩
          obtain ⟨u, hu⟩ : ∃ u, kU (dCode l) = u := ⟨_, rfl⟩
          obtain ⟨eo, he⟩ : ∃ eo, kE (dCode l) = eo := ⟨_, rfl⟩
          obtain ⟨nf, hnf⟩ : ∃ k, fd.length = k := ⟨_, rfl⟩
          have hb0 := HBi.out
          have F1 : Hid (∀ W', Below V6.heap.size V6 W' → Calls Tryd.prog 23 #[.slice Ai ni ci] W' fun e w' => ∃ A c, e = .returned (.tuple #[.agg #[.int .i64 cd, .slice A nf c], .int .i64 (u : Int), .int .i64 eo]) ∧ KC w' cd A nf c fd ∧ Below W'.heap.size W' w') := Lib.hid (fun W' h => by
            have hk := HKB.out W' h
            have h1 := codeDec_is Ai ci l W' (by rw [hk.2.1]; exact hk.1) (by have := hk.2; omega) hll
            rw [hk.2.1] at h1
            rw [← hnf, ← hcd, ← hfd, ← hu, ← he]
            exact h1.mono fun e w' h2 => h2.any hll)
          have F2 : Hid (∀ W', Below V6.heap.size V6 W' → Calls Tryd.prog 24 #[.slice Ai ni ci] W' fun e w' => ∃ A c, e = .returned (.tuple #[.agg #[.int .i64 cd, .slice A nf c], .int .i64 (u : Int), .int .i64 eo]) ∧ KC w' cd A nf c fd ∧ Below W'.heap.size W' w') := Lib.hid (fun W' h => by
            have hk := HKB.out W' h
            have h1 := rcodeDec_is Ai ci l W' (by rw [hk.2.1]; exact hk.1) (by have := hk.2; omega) hll
            rw [hk.2.1] at h1
            rw [← hnf, ← hcd, ← hfd, ← hu, ← he]
            exact h1.mono fun e w' h2 => h2.any hll)
          have hee : (eo != eo) = false := by simp
          have huu : ((u : Int) != (u : Int)) = false := by simp
          have hk1 := HKI.out wr HBi.out
          clear hu he hcd hfd hnf hl hll hKi hBi
          go_upto_region 24 with (first
            | (go_at_call 23; refine (F1.out _ hb0).mono ?_; rintro e w1 ⟨A1', c1', rfl, hr1, hb1⟩
               have k8 := Blk.new w1 25 #[.int .i64 cd, .slice A1' nf c1']
               have hy1 := hr1.next (below_new w1 (.cells #[.int .i64 cd, .slice A1' nf c1'] 25))
               have hb2 := bt hb0 (ba hb1 (.cells #[.int .i64 cd, .slice A1' nf c1'] 25))
               have hk2 := HKI.out _ hb2
               clear hr1 hb1)
            | (go_at_call 24; refine (F2.out _ hb2).mono ?_; rintro e w2 ⟨A2', c2', rfl, hr2, hb3⟩
               have hb4 := ba hb3 (.cells #[.int .i64 cd, .slice A2' nf c2'] 25)
               have k9 := Blk.new w2 25 #[.int .i64 cd, .slice A2' nf c2']
               have hy2 := hr2.next (below_new w2 (.cells #[.int .i64 cd, .slice A2' nf c2'] 25))
               replace k8 := k8.below hb4 k8.lt
               replace hy1 := hy1.next hb4
               have hb5 := bt hb2 hb4
               clear hr2 hb3 hb4))
          obtain ⟨g8, hg8⟩ : ∃ g, g = w1.heap.size := ⟨_, rfl⟩
          obtain ⟨g9, hg9⟩ : ∃ g, g = w2.heap.size := ⟨_, rfl⟩
          obtain ⟨W9, hW9⟩ : ∃ W, W = w2.alloc (.cells #[.int .i64 cd, .slice A2' nf c2'] 25) := ⟨_, rfl⟩
          rw [← hW9] at k8 k9 hy1 hy2 hb5 ⊢
          rw [← hg8] at k8 ⊢
          rw [← hg9] at k9 ⊢
          have HB9 := Lib.hid hb5
          obtain ⟨p0, p1⟩ : W9.cell? ⟨g8, 0, none⟩ = some (.int .i64 cd) ∧ W9.cell? ⟨g8, 1, none⟩ = some (.slice A1' nf c1') := ⟨k8.cell 0, k8.cell 1⟩
          obtain ⟨q0, q1⟩ : W9.cell? ⟨g9, 0, none⟩ = some (.int .i64 cd) ∧ W9.cell? ⟨g9, 1, none⟩ = some (.slice A2' nf c2') := ⟨k9.cell 0, k9.cell 1⟩
          have FS : Hid (Calls Tryd.prog 20 #[.agg #[.int .i64 cd, .slice A1' nf c1'], .agg #[.int .i64 cd, .slice A2' nf c2']] W9 fun e w' => e = .returned (.bool true) ∧ Below W9.heap.size W9 w') := Lib.hid (by
            have h := hy1.rsame hy2
            rw [sameK_self] at h
            exact h)
          clear hW9 hg8 hg9 k8 k9 hy1 hy2 hb5 F1 F2 hk1 hk2 hb2 hb0 hib
          go_wp2_with (go_at_call 20; refine FS.out.mono ?_; rintro e w5 ⟨rfl, hb6⟩)
          go_roundw
          case rel => exact ⟨i + 1, by omega, by go_num, bt HB9.out hb6⟩
          case measure => simp [intOf]; omega
        · have hi5e : i = 5 := by omega
          subst hi5e
          have HBZ : Hid (Below w.heap.size w wr) := Lib.hid (bt HBF.out HBi.out)
          have HLV : Hid (Calls Tryd.prog 13 #[] wr fun e w' => e = .returned (.bool true) ∧ Below wr.heap.size wr w') := Lib.hid (lives_is wr (HT.out.below HBZ.out HGT.out) (Nat.lt_of_lt_of_le HGT.out HBZ.out.size))
          clear hi5 hli
          go_wp2_with (go_at_call 13; refine HLV.out.mono ?_; rintro e w9 ⟨rfl, hb9⟩)
          go_ret
          exact ⟨rfl, bt HBZ.out hb9⟩
end Go.Proofs.YtbdknncmlcbbpaaDoor
