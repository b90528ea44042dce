/-
  The walk of CodeBytes.
-/
import Derived.Test.YtdhmaopodcccmaaDoorG54
import Derived.Test.YtdhmaopodcccmaaDoorG23
import Derived.Test.YtdhmaopodcccmaaDoorG27
import Derived.Deep.QuietTactic
import Derived.BigQuiet
set_option linter.unusedVariables false
namespace Go.Proofs.YtdhmaopodcccmaaDoor
open Go.RowKit WM TR KM

set_option maxRecDepth 100000 in
set_option maxHeartbeats 16000000 in
theorem walkBytes (A : Option Addr) (l : List Int) (cap : Nat) (i1 i2 i3 : Int) (C : Option Addr) (F : List UInt8) (cf : Nat) (cut : Int) (w : World) (hl : l.length ≤ 9223372036854775807) (hw : ∀ x ∈ l, inRange x) (hrd : Reads w w.heap.size 1 A l.length (vi l)) (b1 : inRange i1) (b2 : inRange i2) (b3 : inRange i3) (hF : Reads w w.heap.size 1 C F.length (bs F)) (hcf : F.length ≤ cf) (hlF : F.length ≤ 9223372036854775807) (hcu : inRange cut) (hT : ET w) (hgt : 0 < w.heap.size) (hkt : KT 1 w) :
    Calls Tryd.prog 5 #[.slice A l.length cap, .int .i64 i1, .int .i64 i2, .int .i64 i3, .slice C F.length cf, .int .i64 cut] w fun e w' => e = .returned (.bool true) ∧ Below w.heap.size w w' := by
  have HC := Lib.hid (code_is l (Lt w.heap.size) A cap w (Rd.of_reads hrd) (In.lt _) hw hl)
  have HFW : Hid (∀ W, Below w.heap.size w W → Calls Tryd.prog 22 #[.slice C F.length cf, .int .i64 40] W fun e w' => ∃ A' c', e = .returned (.slice A' (F.take 40).length c') ∧ w'.ownsRow W.heap.size 5 1 (.slice A' (F.take 40).length c') (F.take 40).length (bs (F.take 40)) ∧ Below W.heap.size W w') := Lib.hid (fun W hb => few_is C F cf 40 W ((hF.below hb).more hb.size) hcf hlF (by omega))
  have HT := Lib.hid hT
  have HGT := Lib.hid hgt
  have HKT := Lib.hid hkt
  have HCU := Lib.hid hcu
  have HB1 := Lib.hid b1
  have HB2 := Lib.hid b2
  have HB3 := Lib.hid b3
  obtain ⟨i0, hi, hz0, hz1, hz2⟩ := info_parts Tryd.info5
  obtain ⟨F5, hF5⟩ : ∃ l, F.take 40 = l := ⟨_, rfl⟩
  have hn5 : F5.length ≤ 40 := by rw [← hF5, List.length_take]; omega
  rw [hF5] at HFW
  obtain ⟨n5, hn5e⟩ : ∃ n, F5.length = n := ⟨_, rfl⟩
  rw [hn5e] at HFW hn5
  have HN5 := Lib.hid hn5e
  clear hF5 hn5e
  clear hl hw hrd b1 b2 b3 hT hgt hkt hF hcf hlF hcu
  go_enter Tryd.func5, Tryd.ntmps5
  go_upto_region 2 with (first
    | (go_at_call 8; refine HC.out.mono ?_; rintro e w1 ⟨ch0, es0, Ac0, cc0, rfl, hco0, hb0, hg0⟩; have HCO0 := Lib.hid hco0; have HBA := Lib.hid hb0; have HG0 := Lib.hid hg0; clear hco0 hb0 hg0)
    | (go_at_call 9; refine (spo_is ch0 es0 Ac0 cc0 i1 i2 i3 2000 w1 (HCO0.out.keep (Keeps.refl _ _) fun b hb => hb.2) (by have := HG0.out.ch; omega) (by have := HG0.out.len; omega) ⟨HG0.out.body, by omega⟩ HB1.out HB2.out HB3.out).mono ?_; rintro e w2 ⟨ch, es, Ac, cc, rfl, hco, hb2, hch, hel, hbl⟩; have HCO := Lib.hid hco; replace HBA := Lib.hid (bt HBA.out hb2); have HBL := Lib.hid hbl; clear hco hb2 hbl))
  have hel2 : 1 ≤ es.length ∧ es.length ≤ 10 := by have := HG0.out.len; omega
  clear hel HCO0 HG0
  obtain ⟨n, hn⟩ : ∃ n, n = es.length := ⟨_, rfl⟩
  obtain ⟨V, hV⟩ : ∃ V, V = w2.alloc (.cells #[.int .i64 ch, .slice Ac es.length cc] 25) := ⟨_, rfl⟩
  obtain ⟨g9, hg9⟩ : ∃ z, z = w2.heap.size := ⟨_, rfl⟩
  have hbv : Below w.heap.size w V := by rw [hV]; exact ba HBA.out _
  have hcv : CoR V (fun b => b < V.heap.size) Ac cc es := by rw [hV]; exact (HCO.out.keep (Keeps.refl _ _) fun b hb => hb.2).next (below_new _ _)
  have kv : Blk V g9 25 #[.int .i64 ch, .slice Ac n cc] := by rw [hV, hg9, hn]; exact Blk.new _ _ _
  rw [← hV, ← hg9]
  have hir : inRange ch := ⟨by omega, by omega⟩
  have hsz := encK_le hcv hir HBL.out (by omega)
  have hcok := cok_of hcv hir
  have hlen : es.length ≤ 10 := hel2.2
  obtain ⟨fs, hfs⟩ : ∃ fs, fs = es.map Ent.fn := ⟨_, rfl⟩
  obtain ⟨N, hN⟩ : ∃ k, (encK ch fs).length = k := ⟨_, rfl⟩
  rw [← hfs] at hsz hcok
  rw [hN] at hsz
  have hN2 : N ≤ 550908 ∧ 2 ≤ N := by
    refine ⟨Nat.le_trans hsz.1 ?_, hsz.2⟩
    have := Nat.mul_le_mul_right (36 + 27 * (2000 + 39)) hlen
    omega
  have hfl : fs.length = n := by rw [hfs, hn, List.length_map]
  rw [← hn] at hel2 ⊢
  have HN := Lib.hid hn
  have HFS := Lib.hid hfs
  have HFL := Lib.hid hfl
  have HNE := Lib.hid hN
  have HCOK := Lib.hid hcok
  have HBV := Lib.hid hbv
  have HCV := Lib.hid hcv
  have HKV := Lib.hid kv
  have HTV := Lib.hid (HT.out.below hbv HGT.out)
  have HGV : Hid (0 < V.heap.size) := Lib.hid (Nat.lt_of_lt_of_le HGT.out hbv.size)
  have HKK := Lib.hid (HKT.out.below hbv)
  have HIR := Lib.hid hir
  have HFX : Hid (∀ W, Below V.heap.size V W → Calls Tryd.prog 22 #[.slice C F.length cf, .int .i64 40] W fun e w' => ∃ A' c', e = .returned (.slice A' n5 c') ∧ w'.ownsRow W.heap.size 5 1 (.slice A' n5 c') n5 (bs F5) ∧ Below W.heap.size W w') := Lib.hid fun W hb => HFW.out W (bt HBV.out hb)
  obtain ⟨hN1, hN0⟩ := hN2
  obtain ⟨nF, hnF⟩ : ∃ k, k = F.length := ⟨_, rfl⟩
  rw [← hnF] at HFX ⊢
  clear hV hg9 hbv hcv kv HBA HCO HT HGT HKT hn hsz hcok hfs hN hlen hfl HFW hir hnF HC
  have HLIV : Hid (∀ W, Below V.heap.size V W → Calls Tryd.prog 13 #[] W fun e w' => e = .returned (.bool true) ∧ Below W.heap.size W w') := Lib.hid fun W hb => lives_is W (HTV.out.below hb HGV.out) (Nat.lt_of_lt_of_le HGV.out hb.size)
  have c0 : V.cell? ⟨g9, 0, none⟩ = some (.int .i64 ch) := HKV.out.cell 0
  have c1 : V.cell? ⟨g9, 1, none⟩ = some (.slice Ac n cc) := HKV.out.cell 1
  have HENC : Hid (∀ W, Below V.heap.size V W → Calls Tryd.prog 15 #[.agg #[.int .i64 ch, .slice Ac n cc]] W fun e w' => ∃ A c, e = .returned (.slice A N c) ∧ w'.ownsRow W.heap.size 5 1 (.slice A N c) N (bs (encK ch fs)) ∧ Below W.heap.size W w') := Lib.hid fun W hb => by
    have h := codeEnc_is ch es Ac cc W (HCV.out.next hb) HIR.out (by have := HN.out; omega)
    rw [← HN.out, ← HFS.out, HNE.out] at h
    exact h
  go_upto_region 3 with (go_at_call 15; refine (HENC.out _ (Below.refl _ _)).mono ?_; rintro e V1 ⟨AB, cB, rfl, hob, hbE⟩)
  have HBE := Lib.hid hbE
  have HRB : Hid (∀ W', Below V1.heap.size V1 W' → Reads W' W'.heap.size 1 AB N (bs (encK ch fs))) := Lib.hid (fun W' h => ((Reads.of_own hob).below h).more h.size)
  obtain ⟨_, _, hcB1, hcB⟩ := own_len hob
  cases hcB1
  have HCB := Lib.hid hcB
  clear hob hbE hcB c0 c1
  have HFB : Hid (Calls Tryd.prog 22 #[.slice AB N cB, .int .i64 (N : Int)] V1 fun e w' => ∃ A' c', e = .returned (.slice A' N c') ∧ w'.ownsRow V1.heap.size 5 1 (.slice A' N c') N (bs (encK ch fs)) ∧ Below V1.heap.size V1 w') := Lib.hid (by
    have h := few_is AB (encK ch fs) cB N V1 (by rw [HNE.out]; exact HRB.out _ (Below.refl _ _)) (by rw [HNE.out]; exact HCB.out) (by rw [HNE.out]; omega) (by omega)
    rw [List.take_of_length_le (by rw [HNE.out]; exact Nat.le_refl _), HNE.out] at h
    exact h)
  have hNZ : ((N : Int) == 0) = false := by rw [beq_eq_false_iff_ne]; omega
  go_upto_region 5 with fail
  go_upto_region 6 with (first
    | (go_at_call 22; (with_reducible refine HFB.out.mono ?_); rintro e w4 ⟨A4, c4, rfl, ho4, hb4⟩; have HO4 := Lib.hid ho4; have HB4 := Lib.hid hb4; clear ho4 hb4)
    | (go_at_call 22; refine (HFX.out _ (bt HBE.out HB4.out)).mono ?_; rintro e w5 ⟨A5, c5, rfl, ho5, hb5⟩; have HO5 := Lib.hid ho5; have HO4' := Lib.hid (ownsRow_below HO4.out hb5); have HB45 := Lib.hid (bt HB4.out hb5); clear ho5 hb5)
    | (at_builtin; go_loud (refine wpList_append_any _ rfl (.tmp 37) (.tmp 39) _ rfl V1.heap.size 5 i0 (.int .u8 0) 1 1 Tryd.underlying32 hi hz0 hz1 hz2 rfl (by omega) (.slice A4 N c4) N (bs (encK ch fs)) rfl HO4'.out _ A5 n5 c5 (bs F5) rfl (Reads.of_own HO5.out) (bs_one _) (len_le (by omega)) (by omega) HB45.out.size ?_; intro v6 w6 hown6 hg6 _; rw [← bs_append] at hown6; have HB6 : Hid (Below V1.heap.size V1 w6) := Lib.hid (below_grK HB45.out hg6 (fun b e => (HO4'.out.lt b e).1)); obtain ⟨A6, c6, rfl, hc6⟩ := own_len hown6; have HO6 := Lib.hid hown6; have HC6 := Lib.hid hc6; clear hg6 hown6 hc6 HO4 HO5 HO4' HB45 HB4)))
  have HDEC : Hid (Calls Tryd.prog 23 #[.slice A6 (N + n5) c6] w6 fun e w' => ∃ A c es', e = .returned (.tuple #[.agg #[.int .i64 ch, .slice A n c], .int .i64 (N : Int), .int .i64 0]) ∧ es'.map Ent.fn = fs ∧ CoR w' (fun b => b < w'.heap.size) A c es' ∧ Below w6.heap.size w6 w') := Lib.hid (by
    have e : N + n5 = (encK ch fs ++ F5).length := by rw [List.length_append, HNE.out, HN5.out]
    have h := codeDec_is A6 c6 (encK ch fs ++ F5) w6 (by rw [← e]; exact Reads.of_own HO6.out) (by rw [← e]; exact HC6.out) (by rw [← e]; omega)
    unfold DKPost at h
    rw [dCode_enc HCOK.out F5, ← e, HNE.out] at h
    simp only [] at h
    rw [HFL.out] at h
    exact h)
  go_upto_region 7 with (go_at_call 23; refine HDEC.out.mono ?_; rintro e w7 ⟨A7, c7, es7, rfl, hfs7, hco7, hb7⟩)
  obtain ⟨g7, hg7⟩ : ∃ g, g = w7.heap.size := ⟨_, rfl⟩
  obtain ⟨W7, hW7⟩ : ∃ W, W = w7.alloc (.cells #[.int .i64 ch, .slice A7 n c7] 25) := ⟨_, rfl⟩
  have k7 : Blk W7 g7 25 #[.int .i64 ch, .slice A7 n c7] := by rw [hW7, hg7]; exact Blk.new _ _ _
  have hb67 : Below V1.heap.size V1 W7 := by rw [hW7]; exact ba (bt HB6.out hb7) _
  have hco7 : CoR W7 (fun b => b < W7.heap.size) A7 c7 es7 := by rw [hW7]; exact hco7.next (below_new _ _)
  rw [← hW7, ← hg7]
  have hbv7 := bt HBE.out hb67
  have HB7 := Lib.hid hb67
  have HBV7 := Lib.hid hbv7
  have HK9 := Lib.hid (HKV.out.below hbv7 HKV.out.lt)
  have HK7 := Lib.hid k7
  have HCO7 := Lib.hid hco7
  have HE7 : Hid (es7.map Ent.fn = fs) := Lib.hid hfs7
  have HN7 : Hid (n = es7.length) := Lib.hid (by rw [← HFL.out, ← hfs7, List.length_map])
  clear hg7 hW7 k7 hb67 hco7 hb7 hfs7 hbv7 HDEC HO6 HC6 HB6
  obtain ⟨bl, hbl⟩ : ∃ b, b = encK ch fs := ⟨_, rfl⟩
  obtain ⟨st, hst⟩ : ∃ s, str bl = s := ⟨_, rfl⟩
  obtain ⟨D, hD⟩ : ∃ D, (bs (digK ch fs)).toArray = D := ⟨_, rfl⟩
  have hof : ofB 2 [st] = digK ch fs := by rw [← hst, hbl]; rfl
  have hNEQ : ∀ W : World, (binOp .neq 37 (.agg D) (.agg D)).run Tryd.prog W = .ok (.bool false) W := fun W => by
    rw [← hD]; exact neqD (digK ch fs) (ofB_len _ _) W
  have hEl : (encP [st]).length ≤ 137438953472 := by
    rw [← hst, encP_one]
    unfold encB
    rw [List.length_append, hbl, HNE.out]
    have := (enc_len (n := (N : Int)) ⟨by omega, by omega⟩).2
    omega
  have HL : Hid (∀ W, Below W7.heap.size W7 W → (W.cell? ⟨g9, 0, none⟩ = some (.int .i64 ch) ∧ W.cell? ⟨g9, 1, none⟩ = some (.slice Ac n cc) ∧ W.cell? ⟨g7, 0, none⟩ = some (.int .i64 ch) ∧ W.cell? ⟨g7, 1, none⟩ = some (.slice A7 n c7) ∧ (convert 32 9 (.slice AB N cB)).run Tryd.prog W = .ok (.string st) W)) := Lib.hid fun W hb => ⟨(HK9.out.below hb HK9.out.lt).cell 0, (HK9.out.below hb HK9.out.lt).cell 1, (HK7.out.below hb HK7.out.lt).cell 0, (HK7.out.below hb HK7.out.lt).cell 1, by
    have h1 := HRB.out W (bt HB7.out hb)
    rw [← HNE.out, ← hbl] at h1 ⊢
    rw [← hst]
    exact conv_str h1⟩
  have FS : Hid (∀ W, Below W7.heap.size W7 W → Calls Tryd.prog 19 #[.agg #[.int .i64 ch, .slice Ac n cc], .agg #[.int .i64 ch, .slice A7 n c7]] W fun e w' => e = .returned (.bool true) ∧ Below W.heap.size W w') := Lib.hid fun W hb => by
    have h := sameK_is ch ch es es7 Ac A7 cc c7 W (HCV.out.next (bt HBV7.out hb)) (HCO7.out.next hb)
    rw [← HN.out, ← HN7.out, HE7.out, ← HFS.out, show sameK ⟨ch, fs⟩ ⟨ch, fs⟩ = true by simp [sameK]] at h
    exact h
  have FE : Hid (∀ W, Below W7.heap.size W7 W → Calls Tryd.prog 15 #[.agg #[.int .i64 ch, .slice A7 n c7]] W fun e w' => ∃ A c, e = .returned (.slice A N c) ∧ w'.ownsRow W.heap.size 5 1 (.slice A N c) N (bs (encK ch fs)) ∧ Below W.heap.size W w') := Lib.hid fun W hb => by
    have h := codeEnc_is ch es7 A7 c7 W (HCO7.out.next hb) HIR.out (by have := HN7.out; omega)
    rw [← HN7.out, HE7.out, HNE.out] at h
    exact h
  have FB : Hid (∀ (W : World) (AY : Option Addr) (cY : Nat), Below W7.heap.size W7 W → Reads W W.heap.size 1 AY N (bs (encK ch fs)) → Calls Tryd.prog 14 #[.slice AY N cY, .slice AB N cB] W fun e w' => e = .returned (.bool true) ∧ Below W.heap.size W w') := Lib.hid fun W AY cY hb h1 => by
    have h3 := same W.heap.size W.heap.size AY AB cY cB (encK ch fs) W (by rw [HNE.out]; exact h1) (by rw [HNE.out]; exact HRB.out W (bt HB7.out hb)) (by rw [HNE.out]; omega)
    rw [HNE.out] at h3
    exact h3
  have FD : Hid (∀ W, Below W7.heap.size W7 W → Calls Tryd.prog 17 #[.agg #[.int .i64 ch, .slice Ac n cc]] W fun e w' => e = .returned (.agg D) ∧ Below W.heap.size W w') := Lib.hid fun W hb => by
    have h := codeDig_is ch es Ac cc W (HCV.out.next (bt HBV7.out hb)) HIR.out (by have := HN.out; omega) (HKK.out.below (bt HBV7.out hb))
    rw [← HN.out, ← HFS.out, hD] at h
    exact h
  have FO : Hid (∀ (W : World) (b : Nat), Below W7.heap.size W7 W → Reads W W.heap.size 1 (some ⟨b, 0, none⟩) 1 (ss [st]) → Calls Tryd.prog 25 #[.int .i64 2, .slice (some ⟨b, 0, none⟩) 1 1] W fun e w' => e = .returned (.agg D) ∧ Below W.heap.size W w') := Lib.hid (fun W b h h1 => by
    have h2 := of_ 2 (some ⟨b, 0, none⟩) [st] 1 W (HKK.out.below (bt HBV7.out h)) h1 hEl (by simp)
    rw [hof, hD] at h2
    exact h2)
  have hNN : ((N : Int) != (N : Int)) = false := by simp
  have hbc : Below W7.heap.size W7 W7.drew := (Below.refl _ _).drew
  clear hbl hst hD hof hEl hNZ HFB HFX
  go_cut [76] from 47 to 76 (fun s76 wv => ∃ (V2 : World), V2 = wv ∧ s76 = .bool false ∧ Hid (Below W7.heap.size W7 V2))
  case first =>
    refine wp_region_noPanic ?_
    go_region_held2 (fun W => W.cell? ⟨g9, 0, none⟩ = some (.int .i64 ch) ∧ W.cell? ⟨g9, 1, none⟩ = some (.slice Ac n cc) ∧ W.cell? ⟨g7, 0, none⟩ = some (.int .i64 ch) ∧ W.cell? ⟨g7, 1, none⟩ = some (.slice A7 n c7) ∧ (convert 32 9 (.slice AB N cB)).run Tryd.prog W = .ok (.string st) W)
      (first | exact HL.out _ hbc | exact HL.out _ (ba hbc _) | exact HL.out _ (ba (ba hbc _) _))
      (first
      | (go_at_call 19; (with_reducible refine (FS.out _ hbc).mono ?_); rintro e w11 ⟨rfl, hb11⟩; replace hbc := bt hbc hb11; clear hb11)
      | (go_at_call 15; (with_reducible refine (FE.out _ hbc).mono ?_); rintro e w11 ⟨AY, cY, rfl, ho, hb11⟩; replace hbc := bt hbc hb11; have HRY := Lib.hid (Reads.of_own ho); clear ho hb11)
      | (go_at_call 14; (with_reducible refine (FB.out _ _ _ hbc HRY.out).mono ?_); rintro e w12 ⟨rfl, hb12⟩; replace hbc := bt hbc hb12; clear hb12)
      | (go_at_call 17; (with_reducible refine (FD.out _ hbc).mono ?_); rintro e w12 ⟨rfl, hb12⟩; replace hbc := bt hbc hb12; clear hb12)
      | (go_at_call 17; (with_reducible refine (FD.out _ (ba hbc _)).mono ?_); rintro e w12 ⟨rfl, hb12⟩; have hrow := ((kstr1 _ st).below hb12).more hb12.size; replace hbc := bt (ba hbc _) hb12; clear hb12)
      | (go_at_call 25; (with_reducible refine (FO.out _ _ (ba hbc _) (kstr1 _ _)).mono ?_); rintro e w13 ⟨rfl, hb13⟩; replace hbc := bt (ba hbc _) hb13; clear hb13)
      | (go_at_call 25; (with_reducible refine (FO.out _ _ hbc hrow).mono ?_); rintro e w13 ⟨rfl, hb13⟩; replace hbc := bt hbc hb13; clear hb13))
    all_goals
      refine NoPanic.normal ?_
      go_wp2_with fail
      go_meet
      exact ⟨_, rfl, rfl, hbc⟩
  case rest =>
  obtain ⟨V2, hV2, rfl, HBV2⟩ := hcut
  subst hV2
  clear FS FE FB FD FO hNEQ hbc hNN
  have har := arnd_lt (x := cut) (n := (N : Int)) (by omega)
  obtain ⟨kq, hkq⟩ : ∃ k : Nat, arnd cut (N : Int) = (k : Int) := ⟨(arnd cut (N : Int)).toNat, by omega⟩
  have hkN : kq < N := by omega
  have HAR : Hid (∀ W, Calls Tryd.prog 21 #[.int .i64 cut, .int .i64 (N : Int)] W fun e w' => e = .returned (.int .i64 (kq : Int)) ∧ W = w') := Lib.hid (fun W => by rw [← hkq]; exact around_is cut N HCU.out (by omega) W)
  have hc8 := cut8 AB N cB kq (by have := HCB.out; omega)
  obtain ⟨A8, hA8⟩ : ∃ A8, A8 = (if cB = 0 then AB else AB.map (·.add 0)) := ⟨_, rfl⟩
  have HD2 : Hid (∀ W', Below V1.heap.size V1 W' → Calls Tryd.prog 23 #[.slice A8 kq cB] W' fun e w' => e = .returned (.tuple #[.agg #[.int .i64 0, .slice none 0 0], .int .i64 0, .int .i64 2]) ∧ Below W'.heap.size W' w') := Lib.hid (fun W' h => by
    have h1 := reads_cut8 (c := cB) (k := kq) (HRB.out W' h) (by omega)
    have hl : ((encK ch fs).take kq).length = kq := by rw [List.length_take, HNE.out]; omega
    have hd := dCode_cut (p := (encK ch fs).take kq) (q := (encK ch fs).drop kq) HCOK.out (List.take_append_drop _ _) (fun e => by
      have := congrArg List.length e
      rw [List.length_drop, HNE.out, List.length_nil] at this; omega)
    rw [← hA8] at h1
    have h2 := codeDec_is A8 cB ((encK ch fs).take kq) W' (by rw [hl]; exact h1) (by have := HCB.out; omega) (by omega)
    unfold DKPost at h2
    rw [hl, hd] at h2
    exact h2)
  rw [← hA8] at hc8
  clear har hkq hA8
  go_upto_region 9 with fail
  have HB2V : Hid (Below V1.heap.size V1 V2) := Lib.hid (bt HB7.out HBV2.out)
  clear HB7
  go_upto_region 10 with (first
    | (go_at_call 21; refine (HAR.out _).mono ?_; rintro e w' ⟨rfl, rfl⟩)
    | (go_at_call 23; refine (HD2.out _ HB2V.out).mono ?_; rintro e w9 ⟨rfl, hb9⟩))
  have hb29 := bt (bt (bt HBE.out HB2V.out) hb9) (below_new w9 (.cells #[.int .i64 0, .slice none 0 0] 25))
  obtain ⟨W9, hW9⟩ : ∃ W, W = w9.alloc (.cells #[.int .i64 0, .slice none 0 0] 25) := ⟨_, rfl⟩
  rw [← hW9] at hb29 ⊢
  have HB29 := Lib.hid hb29
  have c0 : W9.cell? ⟨g9, 0, none⟩ = some (.int .i64 ch) := (HKV.out.below hb29 HKV.out.lt).cell 0
  have c1 : W9.cell? ⟨g9, 1, none⟩ = some (.slice Ac n cc) := (HKV.out.below hb29 HKV.out.lt).cell 1
  have HE1 : Hid (Below V1.heap.size V1 W9) := Lib.hid (by rw [hW9]; exact bt (bt HB2V.out hb9) (below_new _ _))
  have HSP : Hid (Calls Tryd.prog 9 #[.agg #[.int .i64 ch, .slice Ac n cc], .int .i64 i3, .int .i64 i1, .int .i64 i2] W9 (SpoPost 2039 n W9)) := Lib.hid (by
    have h := spo_is ch es Ac cc i3 i1 i2 2039 W9 (HCV.out.next hb29) hch (by have := HN.out; omega) ⟨HBL.out, by omega⟩ HB3.out HB1.out HB2.out
    rw [← HN.out] at h
    exact h)
  clear hb29 hW9 hb9 HAR HD2 hc8 HB2V HBV2 HK9 HK7 HCO7 HE7 HN7 HBV7 HL
  go_upto_region 11 with (go_at_call 9; refine HSP.out.mono ?_; rintro e w10 ⟨ch2, es2, A10, c10, rfl, hco2, hb10, hch2, hel3, hbl2⟩)
  obtain ⟨g10, hg10⟩ : ∃ g, g = w10.heap.size := ⟨_, rfl⟩
  obtain ⟨n2, hn2⟩ : ∃ k, k = es2.length := ⟨_, rfl⟩
  obtain ⟨W10, hW10⟩ : ∃ W, W = w10.alloc (.cells #[.int .i64 ch2, .slice A10 es2.length c10] 25) := ⟨_, rfl⟩
  have k10 : Blk W10 g10 25 #[.int .i64 ch2, .slice A10 n2 c10] := by rw [hW10, hg10, hn2]; exact Blk.new _ _ _
  have hb10' : Below W9.heap.size W9 W10 := by rw [hW10]; exact ba hb10 _
  have hco10 : CoR W10 (fun b => b < W10.heap.size) A10 c10 es2 := by rw [hW10]; exact (hco2.keep (Keeps.refl _ _) fun b hb => hb.2).next (below_new _ _)
  rw [← hW10, ← hg10]
  rw [← hn2] at hel3 ⊢
  have hir2 : inRange ch2 := ⟨by omega, by omega⟩
  obtain ⟨fs2, hfs2⟩ : ∃ k, k = es2.map Ent.fn := ⟨_, rfl⟩
  have hsz2 := encK_le hco10 hir2 hbl2 (by omega)
  have hcok2 := cok_of hco10 hir2
  rw [← hn2, ← hfs2] at hsz2
  rw [← hfs2] at hcok2
  obtain ⟨N2, hN2⟩ : ∃ k, (encK ch2 fs2).length = k := ⟨_, rfl⟩
  rw [hN2] at hsz2
  have hN2b : N2 ≤ 1000000 := by
    have h1 : n2 ≤ 17 := by omega
    have := Nat.mul_le_mul_right (36 + 27 * (2039 + 39)) h1
    omega
  have hbvx := bt HB29.out hb10'
  have HK9 := Lib.hid (HKV.out.below hbvx HKV.out.lt)
  have HK10 := Lib.hid k10
  have HCO10 := Lib.hid hco10
  have HBVX := Lib.hid hbvx
  have HE10 : Hid (Below V1.heap.size V1 W10) := Lib.hid (bt HE1.out hb10')
  have HN2 := Lib.hid hn2
  have HNE2 := Lib.hid hN2
  have HFS2 := Lib.hid hfs2
  have HCOK2 := Lib.hid hcok2
  have HIR2 := Lib.hid hir2
  clear hg10 hW10 k10 hb10' hco10 hco2 hb10 hbvx hn2 hN2 hfs2 hcok2 hir2 hsz2 hbl2 c0 c1 HSP HE1 HB29
  have HL : Hid (∀ W, Below W10.heap.size W10 W → (W.cell? ⟨g9, 0, none⟩ = some (.int .i64 ch) ∧ W.cell? ⟨g9, 1, none⟩ = some (.slice Ac n cc) ∧ W.cell? ⟨g10, 0, none⟩ = some (.int .i64 ch2) ∧ W.cell? ⟨g10, 1, none⟩ = some (.slice A10 n2 c10))) := Lib.hid fun W hb => ⟨(HK9.out.below hb HK9.out.lt).cell 0, (HK9.out.below hb HK9.out.lt).cell 1, (HK10.out.below hb HK10.out.lt).cell 0, (HK10.out.below hb HK10.out.lt).cell 1⟩
  obtain ⟨r, hr⟩ : ∃ r, r = sameK ⟨ch, fs⟩ ⟨ch2, fs2⟩ := ⟨_, rfl⟩
  have FS : Hid (∀ W, Below W10.heap.size W10 W → Calls Tryd.prog 19 #[.agg #[.int .i64 ch, .slice Ac n cc], .agg #[.int .i64 ch2, .slice A10 n2 c10]] W fun e w' => e = .returned (.bool r) ∧ Below W.heap.size W w') := Lib.hid fun W hb => by
    have h := sameK_is ch ch2 es es2 Ac A10 cc c10 W (HCV.out.next (bt HBVX.out hb)) (HCO10.out.next hb)
    rw [← HN.out, ← HN2.out, ← HFS.out, ← HFS2.out, ← hr] at h
    exact h
  have FE : Hid (∀ W, Below W10.heap.size W10 W → Calls Tryd.prog 15 #[.agg #[.int .i64 ch2, .slice A10 n2 c10]] W fun e w' => ∃ A c, e = .returned (.slice A N2 c) ∧ w'.ownsRow W.heap.size 5 1 (.slice A N2 c) N2 (bs (encK ch2 fs2)) ∧ Below W.heap.size W w') := Lib.hid fun W hb => by
    have h := codeEnc_is ch2 es2 A10 c10 W (HCO10.out.next hb) HIR2.out (by have := HN2.out; omega)
    rw [← HN2.out, ← HFS2.out, HNE2.out] at h
    exact h
  have FB : Hid (∀ (W : World) (AY : Option Addr) (cY : Nat), Below W10.heap.size W10 W → Reads W W.heap.size 1 AY N2 (bs (encK ch2 fs2)) → Calls Tryd.prog 14 #[.slice AB N cB, .slice AY N2 cY] W fun e w' => e = .returned (.bool r) ∧ Below W.heap.size W w') := Lib.hid fun W AY cY hb h1 => by
    rw [hr]
    exact sameKB AB AY cB cY N N2 ch ch2 fs fs2 W (HRB.out W (bt HE10.out hb)) h1 HNE.out HNE2.out (by omega) hN2b HCOK.out HCOK2.out
  have hrr : (r == r) = true := by simp
  have hbc : Below W10.heap.size W10 W10.drew := (Below.refl _ _).drew
  clear hr
  refine wp_region_noPanic ?_
  go_region_held2 (fun W => W.cell? ⟨g9, 0, none⟩ = some (.int .i64 ch) ∧ W.cell? ⟨g9, 1, none⟩ = some (.slice Ac n cc) ∧ W.cell? ⟨g10, 0, none⟩ = some (.int .i64 ch2) ∧ W.cell? ⟨g10, 1, none⟩ = some (.slice A10 n2 c10))
    (exact HL.out _ hbc)
    (first
    | (go_at_call 19; (with_reducible refine (FS.out _ hbc).mono ?_); rintro e w11 ⟨rfl, hb11⟩; replace hbc := bt hbc hb11; clear hb11)
    | (go_at_call 15; (with_reducible refine (FE.out _ hbc).mono ?_); rintro e w11 ⟨AY, cY, rfl, ho, hb11⟩; replace hbc := bt hbc hb11; have HRY := Lib.hid (Reads.of_own ho); clear ho hb11)
    | (go_at_call 14; (with_reducible refine (FB.out _ _ _ hbc HRY.out).mono ?_); rintro e w12 ⟨rfl, hb12⟩; replace hbc := bt hbc hb12; clear hb12)
    | (go_at_call 13; (with_reducible refine (HLIV.out _ (bt HBVX.out hbc)).mono ?_); rintro e w14 ⟨rfl, hb14⟩; replace hbc := bt hbc hb14; clear hb14))
  all_goals
    refine NoPanic.normal ?_
    go_wp2_with fail
    go_ret
    exact ⟨rfl, bt HBV.out (bt HBVX.out hbc)⟩
end Go.Proofs.YtdhmaopodcccmaaDoor
