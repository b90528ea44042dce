/-
  The walk of CodeSteps: each instruction that is reached leads on with the height that follows.
-/
import Derived.Test.YtdhmaopodcccmaaDoorG23
import Derived.Test.YtdhmaopodcccmaaDoorG27
import Derived.Test.YtdhmaopodcccmaaDoorG31
import Derived.Deep.QuietTactic
import Derived.BigQuiet
set_option linter.unusedVariables false
namespace Go.Proofs.YtdhmaopodcccmaaDoor
open Go.RowKit WM TR KM

theorem eff_le (op : Int) : (effAt op).2.2.1 ≤ 1 := by
  have h : ∀ r ∈ eff, r.2.2.1 ≤ 1 := by decide
  unfold effAt
  cases hr : eff[op.toNat]? with
  | none => simp
  | some r => exact h r (List.mem_of_getElem? hr)
theorem val_empty : valB 0 [] = false := by decide
theorem co_empty (w : World) : CoR w (fun b => b < w.heap.size) none 0 [] := ⟨Rd.none_, Nat.le_refl _, by simp, fun e he => (by cases he)⟩
/-- What valid code says of one of its functions. -/
theorem val_hts {ch : Int} {fs : List KM.Fn} (h : valB ch fs = true) {i : Nat} {f : KM.Fn} (hf : fs[i]? = some f) : ∃ hs, hAt ch fs i = some hs ∧ hOf ch fs f = some hs := by
  unfold valB at h
  rw [Bool.and_eq_true, List.all_eq_true] at h
  obtain ⟨hs, hh⟩ := Option.isSome_iff_exists.1 (h.2 f (List.mem_of_getElem? hf))
  have hi : idxB (i : Int) fs.length = true := by
    have := (List.getElem?_eq_some_iff.1 hf).1
    unfold idxB witB
    simp
    omega
  refine ⟨hs, ?_, hh⟩
  unfold hAt
  rw [h.1, hi, Int.toNat_natCast, hf]
  exact hh
theorem hOf_good {ch : Int} {fs : List KM.Fn} {f : KM.Fn} {hs : List Int} (h : hOf ch fs f = some hs) : Good8 f.body ∧ hts f.body = some hs := by
  unfold hOf at h
  split at h
  · rename_i hc
    simp only [Bool.and_eq_true] at hc
    exact ⟨all_good hc.2, h⟩
  · cases h
set_option maxRecDepth 100000 in
set_option maxHeartbeats 16000000 in
theorem walkSteps (A : Option Addr) (l : List Int) (cap : Nat) (i1 i2 i3 : Int) (w : World) (hl : l.length ≤ 9223372036854775807) (hw : ∀ x ∈ l, inRange x) (hrd : Reads w w.heap.size 1 A l.length (vi l)) (b1 : inRange i1) (b2 : inRange i2) (b3 : inRange i3) (hT : ET w) (hgt : 0 < w.heap.size) :
    Calls Tryd.prog 6 #[.slice A l.length cap, .int .i64 i1, .int .i64 i2, .int .i64 i3] w fun e w' => e = .returned (.bool true) ∧ Below w.heap.size w w' := by
  have HC := Lib.hid (code_is l (Lt w.heap.size) A cap w (Rd.of_reads hrd) (In.lt _) hw hl)
  have HT := Lib.hid hT
  have HGT := Lib.hid hgt
  have HB1 := Lib.hid b1
  have HB2 := Lib.hid b2
  have HB3 := Lib.hid b3
  clear hl hw hrd b1 b2 b3 hT hgt
  go_enter Tryd.func6, Tryd.ntmps6
  go_upto_region 2 with (first
    | (go_at_call 8; refine HC.out.mono ?_; rintro e w1 ⟨ch0, es0, Ac0, cc0, rfl, hco0, hb0, hg0⟩; have HCO0 := Lib.hid hco0; have HBA := Lib.hid hb0; have HG0 := Lib.hid hg0; clear hco0 hb0 hg0)
    | (go_at_call 9; refine (spo_is ch0 es0 Ac0 cc0 i1 i2 i3 2000 w1 (HCO0.out.keep (Keeps.refl _ _) fun b hb => hb.2) (by have := HG0.out.ch; omega) (by have := HG0.out.len; omega) ⟨HG0.out.body, by omega⟩ HB1.out HB2.out HB3.out).mono ?_; rintro e w2 ⟨ch, es, Ac, cc, rfl, hco, hb2, hch, hel, hbl⟩; have HCO := Lib.hid hco; replace HBA := Lib.hid (bt HBA.out hb2); clear hco hb2 hbl))
  have hel2 : 1 ≤ es.length ∧ es.length ≤ 10 := by have := HG0.out.len; omega
  clear hel HCO0 HG0 HB1 HB2 HB3
  obtain ⟨n, hn⟩ : ∃ n, n = es.length := ⟨_, rfl⟩
  obtain ⟨V, hV⟩ : ∃ V, V = w2.alloc (.cells #[.int .i64 ch, .slice Ac es.length cc] 25) := ⟨_, rfl⟩
  obtain ⟨g9, hg9⟩ : ∃ z, z = w2.heap.size := ⟨_, rfl⟩
  have hbv : Below w.heap.size w V := by rw [hV]; exact ba HBA.out _
  have hcv : CoR V (fun b => b < V.heap.size) Ac cc es := by rw [hV]; exact (HCO.out.keep (Keeps.refl _ _) fun b hb => hb.2).next (below_new _ _)
  have kv : Blk V g9 25 #[.int .i64 ch, .slice Ac n cc] := by rw [hV, hg9, hn]; exact Blk.new _ _ _
  rw [← hV, ← hg9]
  rw [← hn] at hel2 ⊢
  have HN := Lib.hid hn
  have HBV := Lib.hid hbv
  have HCV := Lib.hid hcv
  have HKV := Lib.hid kv
  have HTV := Lib.hid (HT.out.below hbv HGT.out)
  have HGV : Hid (0 < V.heap.size) := Lib.hid (Nat.lt_of_lt_of_le HGT.out hbv.size)
  clear hV hg9 hbv hcv kv HBA HCO HT HGT hn
  have HLIV : Hid (∀ W, Below V.heap.size V W → Calls Tryd.prog 13 #[] W fun e w' => e = .returned (.bool true) ∧ Below W.heap.size W w') := Lib.hid fun W hb => lives_is W (HTV.out.below hb HGV.out) (Nat.lt_of_lt_of_le HGV.out hb.size)
  have c0 : V.cell? ⟨g9, 0, none⟩ = some (.int .i64 ch) := HKV.out.cell 0
  have c1 : V.cell? ⟨g9, 1, none⟩ = some (.slice Ac n cc) := HKV.out.cell 1
  obtain ⟨vb, hvb⟩ : ∃ b, b = valB ch (es.map Ent.fn) := ⟨_, rfl⟩
  have VC : Hid (∀ W, Below V.heap.size V W → Calls Tryd.prog 10 #[.agg #[.int .i64 ch, .slice Ac n cc]] W fun e w' => e = .returned (.bool vb) ∧ Below W.heap.size W w') := Lib.hid fun W hb => by
    rw [hvb, HN.out]
    exact valid_is ch es Ac cc W hch (HCV.out.next hb) (HTV.out.below hb HGV.out) (Nat.lt_of_lt_of_le HGV.out hb.size)
  have VE : Hid (∀ W, Below V.heap.size V W → Calls Tryd.prog 10 #[.agg #[.int .i64 0, .slice none 0 0]] W fun e w' => e = .returned (.bool false) ∧ Below W.heap.size W w') := Lib.hid fun W hb => by
    rw [← val_empty]
    exact valid_is 0 [] none 0 W (by omega) (co_empty W) (HTV.out.below hb HGV.out) (Nat.lt_of_lt_of_le HGV.out hb.size)
  have HVB := Lib.hid hvb
  clear hvb
  cases vb with
  | false =>
    have HBW : Hid (Below V.heap.size V V) := Lib.hid (Below.refl _ _)
    go_wp2_with (first
      | (go_at_call 10; first | with_reducible refine (VC.out _ HBW.out).mono ?_ | with_reducible refine (VE.out _ HBW.out).mono ?_
         rintro e wn ⟨rfl, hbn⟩
         replace HBW := Lib.hid (bt HBW.out hbn)
         clear hbn)
      | (go_at_call 13; refine (HLIV.out _ HBW.out).mono ?_; rintro e wn ⟨rfl, hbn⟩; replace HBW := Lib.hid (bt HBW.out hbn); clear hbn))
    go_ret
    exact ⟨rfl, bt HBV.out HBW.out⟩
  | true =>
    go_upto_region 5 with (go_at_call 10; refine (VC.out _ (Below.refl _ _)).mono ?_; rintro e w3 ⟨rfl, hb3⟩; have HB3 := Lib.hid hb3; clear hb3)
    clear c0 c1 VC VE
    go_loopw [10] (fun s wr => ∃ i : Nat, i ≤ n ∧ s = .int .i64 i ∧ Hid (Below V.heap.size V wr)) (fun s _ => n - (intOf s).toNat)
    case atStart => exact ⟨0, Nat.zero_le _, rfl, HB3.out⟩
    case round =>
      obtain ⟨i, hin, rfl, HI⟩ := hrel
      have c0 : wr.cell? ⟨g9, 0, none⟩ = some (.int .i64 ch) := (HKV.out.below HI.out HKV.out.lt).cell 0
      have c1 : wr.cell? ⟨g9, 1, none⟩ = some (.slice Ac n cc) := (HKV.out.below HI.out HKV.out.lt).cell 1
      by_cases hlt : i < n
      · have hlt2 : (i : Int) < n := by omega
        have hib : (0 : Int) ≤ (i : Int) ∧ (i : Int) < (n : Int) := ⟨by omega, hlt2⟩
        obtain ⟨en, hen⟩ : ∃ en, es[i]? = some en := ⟨_, List.getElem?_eq_getElem (by rw [← HN.out]; exact hlt)⟩
        obtain ⟨hs, hha, hho⟩ := val_hts (i := i) HVB.out.symm (f := en.fn) (by rw [List.getElem?_map, hen]; rfl)
        obtain ⟨hgood, hhts⟩ := hOf_good hho
        obtain ⟨hlen, hpos⟩ := hOf_ne hho
        have hstep := hts_steps hgood.named hhts
        obtain ⟨aA, oA, hAc, hA1, hA2⟩ := HCV.out.rd.lit (by rw [← HN.out]; omega)
        subst hAc
        obtain ⟨nb, hnb⟩ : ∃ z, z = en.body.length := ⟨_, rfl⟩
        have hee : ∀ j v, (entC en)[j]? = some v → wr.cell? ⟨aA, oA + i * 4 + j, none⟩ = some v := fun j v hv => by
          have h1 := hA2 _ _ (entsC_get es i en hen j v hv)
          rw [← Nat.add_assoc] at h1
          exact (HI.out.cell (p := ⟨aA, oA + i * 4 + j, none⟩) hA1).trans h1
        obtain ⟨f0, f1, f2, f3⟩ : wr.cell? ⟨aA, oA + i * 4, none⟩ = some (.int .i64 en.p) ∧ wr.cell? ⟨aA, oA + i * 4 + 1, none⟩ = some (.int .i64 en.w) ∧ wr.cell? ⟨aA, oA + i * 4 + 2, none⟩ = some (.slice en.A nb en.c) ∧ wr.cell? ⟨aA, oA + i * 4 + 3, none⟩ = some (.slice none 0 0) := ⟨hee 0 _ rfl, hee 1 _ rfl, by rw [hnb]; exact hee 2 _ rfl, hee 3 _ rfl⟩
        have hpos2 : 0 < nb := by rw [hnb]; exact hpos
        have hlen2 : hs.length = nb := by rw [hnb]; exact hlen
        have HBO := Lib.hid (HCV.out.all en (List.mem_of_getElem? hen))
        have hnl : nb ≤ 200000 := by rw [hnb]; exact HBO.out.len
        have HNB := Lib.hid hnb
        have HST := Lib.hid hstep
        have HGOOD := Lib.hid hgood
        have HLEN := Lib.hid hlen2
        have HHT : Hid (∀ W, Below V.heap.size V W → Calls Tryd.prog 26 #[.agg #[.int .i64 ch, .slice (some ⟨aA, oA, none⟩) n cc], .int .i64 (i : Int)] W fun e w' => ∃ gh chh, e = .returned (.slice (some ⟨gh, 0, none⟩) nb chh) ∧ w'.ownsRow W.heap.size 3 1 (.slice (some ⟨gh, 0, none⟩) nb chh) nb (vi hs) ∧ Below W.heap.size W w') := Lib.hid fun W hb => by
          have h := heightsAt_is ch es (some ⟨aA, oA, none⟩) cc i W hch (HCV.out.next hb) (HTV.out.below hb HGV.out) (Nat.lt_of_lt_of_le HGV.out hb.size)
          rw [hha, ← HN.out] at h
          refine h.mono fun e w' h2 => ?_
          obtain ⟨gh, c, h3, h4, h5⟩ := h2.some_ (by omega)
          rw [hlen2] at h3 h4
          exact ⟨gh, c, h3, h4, h5⟩
        clear hA1 hA2 hen hee hho hhts hgood hlen hlen2 hpos hstep hnb hha
        go_upto_region 8 with fail
        obtain ⟨W1, hW1⟩ : ∃ W, W = wr.alloc (.cells #[.int .i64 en.p, .int .i64 en.w, .slice en.A nb en.c, .slice none 0 0] 51) := ⟨_, rfl⟩
        obtain ⟨gf, hgf⟩ : ∃ z, z = wr.heap.size := ⟨_, rfl⟩
        have hbw : Below V.heap.size V W1 := by rw [hW1]; exact ba HI.out _
        have kf : Blk W1 gf 51 #[.int .i64 en.p, .int .i64 en.w, .slice en.A nb en.c, .slice none 0 0] := by rw [hW1, hgf]; exact Blk.new _ _ _
        rw [← hW1, ← hgf]
        clear f0 f1 f2 f3 c0 c1 hW1 hgf
        have c0 : W1.cell? ⟨g9, 0, none⟩ = some (.int .i64 ch) := (HKV.out.below hbw HKV.out.lt).cell 0
        have c1 : W1.cell? ⟨g9, 1, none⟩ = some (.slice (some ⟨aA, oA, none⟩) n cc) := (HKV.out.below hbw HKV.out.lt).cell 1
        have HBW := Lib.hid hbw
        have HKF := Lib.hid kf
        clear hbw kf
        go_upto_region 9 with (go_at_call 26; refine (HHT.out _ HBW.out).mono ?_; rintro e W2 ⟨gh, chh, rfl, hoh, hbh⟩; have HOH := Lib.hid hoh; have HBH := Lib.hid hbh; clear hoh hbh)
        have HCELL : Hid (∀ k v, hs[k]? = some v → W2.cell? ⟨gh, k, none⟩ = some (.int .i64 v)) := Lib.hid fun k v hv => by
          have := HOH.out.cells (g := gh) rfl _ _ (vi_get hv)
          rwa [Addr.add_lit, Nat.zero_add] at this
        have HGHL : Hid (gh < W2.heap.size) := Lib.hid (HOH.out.lt gh rfl).2
        have hh0 : W2.cell? ⟨gh, 0, none⟩ = some (.int .i64 0) := HCELL.out 0 0 HST.out.2.2.1
        have hKF2 := HKF.out.below HBH.out HKF.out.lt
        have x2 : W2.cell? ⟨gf, 2, none⟩ = some (.slice en.A nb en.c) := hKF2.cell 2
        have HKF2 := Lib.hid hKF2
        have HBV2 := Lib.hid (bt HBW.out HBH.out)
        have hnn0 : ((nb : Int) == 0) = false := by rw [beq_eq_false_iff_ne]; omega
        have hnnn : ((nb : Int) != (nb : Int)) = false := by simp
        have hix0 : (0 : Int) < (nb : Int) := by omega
        clear hKF2 c0 c1 HOH HBH HBW HKF
        go_upto_region 12 with fail
        clear hh0 x2 hnn0 hnnn hix0
        go_loopw [13] (fun s wr => ∃ k : Nat, k ≤ nb ∧ s = .int .i64 k ∧ Hid (Below W2.heap.size W2 wr)) (fun s _ => nb - (intOf s).toNat)
        case atStart => exact ⟨0, Nat.zero_le _, rfl, Below.refl _ _⟩
        case round =>
          obtain ⟨k, hkn, rfl, HJ⟩ := hrel
          by_cases hkl : k < nb
          · have hkl2 : (k : Int) < nb := by omega
            have hkb : (0 : Int) ≤ (k : Int) ∧ (k : Int) < (nb : Int) := ⟨by omega, hkl2⟩
            obtain ⟨x, hx⟩ : ∃ x, en.body[k]? = some x := ⟨_, List.getElem?_eq_getElem (by rw [← HNB.out]; exact hkl)⟩
            have hins : insAt en.body k = x := by unfold insAt; rw [hx]; rfl
            obtain ⟨v, hv, hst⟩ := HST.out.2.2.2 k (by show k < en.body.length; rw [← HNB.out]; exact hkl)
            rw [show insAt en.fn.body k = x from hins] at hst
            obtain ⟨aB, oB, hAB, hB1, hB2⟩ := HBO.out.rd.lit (by rw [← HNB.out]; omega)
            have hBV3 : Below V.heap.size V wr := bt HBV2.out HJ.out
            have ee : ∀ j v, (insC x)[j]? = some v → wr.cell? ⟨aB, oB + k * 3 + j, none⟩ = some v := fun j v hv => by
              have h1 := hB2 _ _ (insCs_get en.body k x hx j v hv)
              rw [← Nat.add_assoc] at h1
              exact (hBV3.cell (p := ⟨aB, oB + k * 3 + j, none⟩) hB1).trans h1
            obtain ⟨f0, f1, f2⟩ : wr.cell? ⟨aB, oB + k * 3, none⟩ = some (.int .i64 x.op) ∧ wr.cell? ⟨aB, oB + k * 3 + 1, none⟩ = some (.int .i64 x.a) ∧ wr.cell? ⟨aB, oB + k * 3 + 2, none⟩ = some (.int .i64 x.b) := ⟨ee 0 _ rfl, ee 1 _ rfl, ee 2 _ rfl⟩
            have x2 : wr.cell? ⟨gf, 2, none⟩ = some (.slice (some ⟨aB, oB, none⟩) nb en.c) := by rw [← hAB]; exact (HKF2.out.below HJ.out HKF2.out.lt).cell 2
            have hop : 0 ≤ x.op ∧ x.op < 19 := by
              have := HGOOD.out.op k (by show k < en.body.length; rw [← HNB.out]; exact hkl)
              rwa [show insAt en.fn.body k = x from hins] at this
            have hxb : (effAt x.op).2.1 = true → 0 ≤ x.b ∧ x.b ≤ 3 := by
              have := HGOOD.out.b k (by show k < en.body.length; rw [← HNB.out]; exact hkl)
              rwa [show insAt en.fn.body k = x from hins] at this
            have hnam : x.op = 7 ∨ x.op = 8 ∨ x.op = 12 → 0 ≤ x.a ∧ x.a.toNat < nb := by
              have := HGOOD.out.named k (by show k < en.body.length; rw [← HNB.out]; exact hkl)
              rw [show insAt en.fn.body k = x from hins] at this
              rw [HNB.out]
              exact this
            have HV := Lib.hid hv
            have HSTP := Lib.hid hst
            have HXB := Lib.hid hxb
            have HNAM := Lib.hid hnam
            have HOP := Lib.hid hop
            clear ee hx hB1 hB2 hAB hst hv hins hxb hnam hop hBV3
            go_upto_region 15 with fail
            obtain ⟨W3, hW3⟩ : ∃ W, W = wr.alloc (.cells #[.int .i64 x.op, .int .i64 x.a, .int .i64 x.b] 54) := ⟨_, rfl⟩
            obtain ⟨gx, hgx⟩ : ∃ z, z = wr.heap.size := ⟨_, rfl⟩
            have hb23 : Below W2.heap.size W2 W3 := by rw [hW3]; exact ba HJ.out _
            have kx : Blk W3 gx 54 #[.int .i64 x.op, .int .i64 x.a, .int .i64 x.b] := by rw [hW3, hgx]; exact Blk.new _ _ _
            rw [← hW3, ← hgx]
            have HB23 := Lib.hid hb23
            have HKX := Lib.hid kx
            clear hW3 hgx hb23 kx f0 f1 f2 x2
            have hk3 : W3.cell? ⟨gh, k, none⟩ = some (.int .i64 v) := (HB23.out.cell (p := ⟨gh, k, none⟩) HGHL.out).trans (HCELL.out k v HV.out)
            by_cases hv1 : v = -1
            · subst hv1
              go_wp2_with fail
              go_roundw
              case rel => exact ⟨k + 1, by omega, by go_num, HB23.out⟩
              case measure => simp [intOf]; omega
            · have hvf : (v == -1) = false := by rw [beq_eq_false_iff_ne]; exact hv1
              go_upto_region 16 with fail
              obtain ⟨s1, s2, s3, s4, s5, s6⟩ := HSTP.out.resolve_left hv1
              obtain ⟨pp, hpp⟩ : ∃ z, z = pops x := ⟨_, rfl⟩
              obtain ⟨pu, hpu⟩ : ∃ z, z = pushes x := ⟨_, rfl⟩
              obtain ⟨nx, hnx⟩ : ∃ z, z = v - pp + pu := ⟨_, rfl⟩
              rw [← hpp] at s3
              rw [← hpp, ← hpu, ← hnx] at s4 s5
              have hpp0 : 0 ≤ pp := by
                rw [hpp]
                unfold pops
                have h1 := (effAt_nn x.op).1
                split
                · rename_i h2
                  have := HXB.out h2
                  omega
                · omega
              have hpu0 : 0 ≤ pu ∧ pu ≤ 1 := by rw [hpu]; exact ⟨pushes_nn x, eff_le x.op⟩
              have hw1 : IntKind.i64.wrap (v - pp) = v - pp := by rw [IntKind.wrap_i64]; omega
              have hw2 : IntKind.i64.wrap (v - pp + pu) = nx := by rw [IntKind.wrap_i64]; omega
              have FP : Hid (∀ W, Calls Tryd.prog 27 #[.agg #[.int .i64 x.op, .int .i64 x.a, .int .i64 x.b]] W fun e w' => e = .returned (.int .i64 pp) ∧ Below W.heap.size W w') := Lib.hid fun W => by rw [hpp]; exact rpops_is x HOP.out W
              have FU : Hid (∀ W, Calls Tryd.prog 28 #[.agg #[.int .i64 x.op, .int .i64 x.a, .int .i64 x.b]] W fun e w' => e = .returned (.int .i64 pu) ∧ Below W.heap.size W w') := Lib.hid fun W => by rw [hpu]; exact rpushes_is x HOP.out W
              obtain ⟨eb, heb⟩ : ∃ z, z = ends x := ⟨_, rfl⟩
              rw [← heb] at s4
              have FE : Hid (∀ W, Calls Tryd.prog 29 #[.agg #[.int .i64 x.op, .int .i64 x.a, .int .i64 x.b]] W fun e w' => e = .returned (.bool eb) ∧ Below W.heap.size W w') := Lib.hid fun W => by rw [heb]; exact rends_is x HOP.out W
              have LH : Hid (∀ W, Below W3.heap.size W3 W → (Instr.loadAt 3 (.pointer (some ⟨gh, k, none⟩))).run Tryd.prog W = .ok (.int .i64 v) W) := Lib.hid (fun W h => by have := (h.cell (p := ⟨gh, k, none⟩) (Nat.lt_of_lt_of_le HGHL.out HB23.out.size)).trans hk3; go_simp)
              have LX : Hid (∀ W, Below W3.heap.size W3 W → (Instr.loadAt 54 (.pointer (some ⟨gx, 0, none⟩))).run Tryd.prog W = .ok (.agg #[.int .i64 x.op, .int .i64 x.a, .int .i64 x.b]) W) := Lib.hid (fun W h => load_ins (o := 0) ((HKX.out.below h HKX.out.lt).cell 0) ((HKX.out.below h HKX.out.lt).cell 1) ((HKX.out.below h HKX.out.lt).cell 2))
              have HNX := Lib.hid hnx
              have HS4 := Lib.hid s4
              have HS5 := Lib.hid s5
              have HS6 := Lib.hid s6
              clear hpp hpu hnx heb s4 s5 s6 hk3
              go_cut [15] from 79 to 88 (fun s15 wv => ∃ V4 : World, V4 = wv ∧ s15 = .int .i64 nx ∧ Hid (Below W3.heap.size W3 V4))
              case first =>
                refine wp_region_below W3 (Below.refl _ _) (by kernel_rfl) (by kernel_rfl) ?_
                iterate 3 go_big_quiet_step ((intro _; rfl))
                refine wpQuiet_load' rfl 3 (.tmp 81) rfl _ rfl (.int .i64 v) LH.out ?_
                go_simp
                refine wpQuiet_load' rfl 54 (.tmp 14) rfl _ rfl (.agg #[.int .i64 x.op, .int .i64 x.a, .int .i64 x.b]) LX.out ?_
                go_simp
                go_big_quiet_step ((intro hw'; exact (FP.out _).mono fun e w'' ⟨he, hb⟩ => ⟨he, bt hw' hb⟩))
                go_big_quiet_step ((intro _; rfl))
                refine wpQuiet_load' rfl 54 (.tmp 14) rfl _ rfl (.agg #[.int .i64 x.op, .int .i64 x.a, .int .i64 x.b]) LX.out ?_
                go_simp
                go_big_quiet_step ((intro hw'; exact (FU.out _).mono fun e w'' ⟨he, hb⟩ => ⟨he, bt hw' hb⟩))
                iterate 2 go_big_quiet_step ((intro _; rfl))
                refine wpQuiet_nil ?_
                intro w6 hb6
                go_wp2_with fail
                go_meet
                exact ⟨_, rfl, rfl, hb6⟩
              case rest =>
              obtain ⟨V4, hwc, rfl, hb4⟩ := hcut
              subst hwc
              have HB4 := Lib.hid hb4.out
              have hg1 : decide (v < 0) = false := decide_eq_false (by omega)
              have hg2 : decide (32 < v) = false := decide_eq_false (by omega)
              have hg3 : decide (v < pp) = false := decide_eq_false (by omega)
              have hn1 : ¬ v < 0 := by omega
              have hn2 : ¬ 32 < v := by omega
              have hn3 : ¬ v < pp := by omega
              clear hb4 hw1 hw2 s1 s2 s3
              go_upto_region 17 with fail
              go_cut [130] from 89 to 130 (fun s130 wv => ∃ V5 : World, V5 = wv ∧ s130 = .bool false ∧ Hid (Below W3.heap.size W3 V5))
              case first =>
                cases eb with
                | true =>
                  refine wp_region_below W3 HB4.out (by kernel_rfl) (by kernel_rfl) ?_
                  iterate 3 go_big_quiet_step ((intro _; rfl))
                  refine wpQuiet_load' rfl 3 (.tmp 91) rfl _ rfl (.int .i64 v) LH.out ?_
                  go_simp
                  iterate 5 go_big_quiet_step ((intro _; rfl))
                  refine wpQuiet_load' rfl 3 (.tmp 97) rfl _ rfl (.int .i64 v) LH.out ?_
                  go_simp
                  iterate 6 go_big_quiet_step ((intro _; rfl))
                  refine wpQuiet_load' rfl 3 (.tmp 104) rfl _ rfl (.int .i64 v) LH.out ?_
                  go_simp
                  refine wpQuiet_load' rfl 54 (.tmp 14) rfl _ rfl (.agg #[.int .i64 x.op, .int .i64 x.a, .int .i64 x.b]) LX.out ?_
                  go_simp
                  go_big_quiet_step ((intro hw'; exact (FP.out _).mono fun e w'' ⟨he, hb⟩ => ⟨he, bt hw' hb⟩))
                  iterate 3 go_big_quiet_step ((intro _; rfl))
                  refine wpQuiet_load' rfl 54 (.tmp 14) rfl _ rfl (.agg #[.int .i64 x.op, .int .i64 x.a, .int .i64 x.b]) LX.out ?_
                  go_simp
                  go_big_quiet_step ((intro hw'; exact (FE.out _).mono fun e w'' ⟨he, hb⟩ => ⟨he, bt hw' hb⟩))
                  iterate 18 go_big_quiet_step ((intro _; rfl))
                  refine wpQuiet_nil ?_
                  intro w6 hb6
                  go_wp2_with fail
                  go_meet
                  exact ⟨_, rfl, rfl, hb6⟩
                | false =>
                  obtain ⟨hk1, hk2⟩ := HS4.out rfl
                  have hk1' : k + 1 < nb := by rw [HNB.out]; exact hk1
                  have LN : Hid (∀ W, Below W3.heap.size W3 W → (Instr.loadAt 3 (.pointer (some ⟨gh, k + 1, none⟩))).run Tryd.prog W = .ok (.int .i64 nx) W) := Lib.hid (fun W h => by have := ((bt HB23.out h).cell (p := ⟨gh, k + 1, none⟩) HGHL.out).trans (HCELL.out (k + 1) nx hk2); go_simp)
                  have hwk : IntKind.i64.wrap ((k : Int) + 1) = (k : Int) + 1 := by rw [IntKind.wrap_i64]; omega
                  have hkk : (0 : Int) ≤ (k : Int) + 1 ∧ (k : Int) + 1 < (nb : Int) := ⟨by omega, by omega⟩
                  have hg4 : decide ((nb : Int) ≤ (k : Int) + 1) = false := decide_eq_false (by omega)
                  have hn4 : ¬ (nb : Int) ≤ (k : Int) + 1 := by omega
                  have hxx : (nx != nx) = false := by simp
                  clear hk1 hk2
                  refine wp_region_below W3 HB4.out (by kernel_rfl) (by kernel_rfl) ?_
                  iterate 3 go_big_quiet_step ((intro _; rfl))
                  refine wpQuiet_load' rfl 3 (.tmp 91) rfl _ rfl (.int .i64 v) LH.out ?_
                  go_simp
                  iterate 5 go_big_quiet_step ((intro _; rfl))
                  refine wpQuiet_load' rfl 3 (.tmp 97) rfl _ rfl (.int .i64 v) LH.out ?_
                  go_simp
                  iterate 6 go_big_quiet_step ((intro _; rfl))
                  refine wpQuiet_load' rfl 3 (.tmp 104) rfl _ rfl (.int .i64 v) LH.out ?_
                  go_simp
                  refine wpQuiet_load' rfl 54 (.tmp 14) rfl _ rfl (.agg #[.int .i64 x.op, .int .i64 x.a, .int .i64 x.b]) LX.out ?_
                  go_simp
                  go_big_quiet_step ((intro hw'; exact (FP.out _).mono fun e w'' ⟨he, hb⟩ => ⟨he, bt hw' hb⟩))
                  iterate 3 go_big_quiet_step ((intro _; rfl))
                  refine wpQuiet_load' rfl 54 (.tmp 14) rfl _ rfl (.agg #[.int .i64 x.op, .int .i64 x.a, .int .i64 x.b]) LX.out ?_
                  go_simp
                  go_big_quiet_step ((intro hw'; exact (FE.out _).mono fun e w'' ⟨he, hb⟩ => ⟨he, bt hw' hb⟩))
                  iterate 12 go_big_quiet_step ((intro _; rfl))
                  refine wpQuiet_load' rfl 3 (.tmp 124) rfl _ rfl (.int .i64 nx) LN.out ?_
                  go_simp
                  iterate 5 go_big_quiet_step ((intro _; rfl))
                  refine wpQuiet_nil ?_
                  intro w6 hb6
                  go_wp2_with fail
                  go_meet
                  exact ⟨_, rfl, rfl, hb6⟩
              case rest =>
              obtain ⟨V5, hwc, rfl, hb5⟩ := hcut
              subst hwc
              have HB5 := Lib.hid hb5.out
              have HBR := Lib.hid (bt HB23.out hb5.out)
              have hkx := HKX.out.below hb5.out HKX.out.lt
              obtain ⟨x0, x1⟩ : V5.cell? ⟨gx, 0, none⟩ = some (.int .i64 x.op) ∧ V5.cell? ⟨gx, 1, none⟩ = some (.int .i64 x.a) := ⟨hkx.cell 0, hkx.cell 1⟩
              have hkv : V5.cell? ⟨gh, k, none⟩ = some (.int .i64 v) := (HBR.out.cell (p := ⟨gh, k, none⟩) HGHL.out).trans (HCELL.out k v HV.out)
              clear hb5 hkx hg1 hg2 hg3 hn1 hn2 hn3 hpp0 hpu0 FP FU FE LH LX HS4
              go_upto_region 19 with fail
              by_cases h7 : x.op = 7 ∨ x.op = 8
              · obtain ⟨ha1, ha2⟩ := HNAM.out (by omega)
                obtain ⟨ha3, ha4⟩ := HS5.out h7
                obtain ⟨ak, hak⟩ : ∃ z : Nat, x.a = (z : Int) := ⟨x.a.toNat, by omega⟩
                rw [hak] at x1 ha2 ha4
                rw [Int.toNat_natCast] at ha2 ha4
                have hka : V5.cell? ⟨gh, ak, none⟩ = some (.int .i64 nx) := (HBR.out.cell (p := ⟨gh, ak, none⟩) HGHL.out).trans (HCELL.out ak nx ha4)
                have hab : (0 : Int) ≤ (ak : Int) ∧ (ak : Int) < (nb : Int) := ⟨by omega, by omega⟩
                have p1 : decide ((ak : Int) < 0) = false := decide_eq_false (by omega)
                have p2 : decide ((nb : Int) ≤ (ak : Int)) = false := decide_eq_false (by omega)
                have p3 : ¬ (ak : Int) < 0 := by omega
                have p4 : ¬ (nb : Int) ≤ (ak : Int) := by omega
                have hxx : (nx != nx) = false := by simp
                clear ha1 ha2 ha3 ha4 hak
                rcases h7 with h7 | h7
                · rw [h7] at x0
                  go_quiet (fail)
                  go_wp2_with fail
                  go_roundw
                  case rel => exact ⟨k + 1, by omega, by go_num, below_drewN HBR.out _⟩
                  case measure => simp [intOf]; omega
                · rw [h7] at x0
                  go_quiet (fail)
                  go_wp2_with fail
                  go_roundw
                  case rel => exact ⟨k + 1, by omega, by go_num, below_drewN HBR.out _⟩
                  case measure => simp [intOf]; omega
              · by_cases h12 : x.op = 12
                · obtain ⟨ha1, ha2⟩ := HNAM.out (by omega)
                  obtain ⟨ha3, ha4⟩ := HS6.out h12
                  obtain ⟨ak, hak⟩ : ∃ z : Nat, x.a = (z : Int) := ⟨x.a.toNat, by omega⟩
                  rw [hak] at x1 ha2 ha4
                  rw [Int.toNat_natCast] at ha2 ha4
                  have hka : V5.cell? ⟨gh, ak, none⟩ = some (.int .i64 v) := (HBR.out.cell (p := ⟨gh, ak, none⟩) HGHL.out).trans (HCELL.out ak v ha4)
                  have hab : (0 : Int) ≤ (ak : Int) ∧ (ak : Int) < (nb : Int) := ⟨by omega, by omega⟩
                  have p1 : decide ((ak : Int) < 0) = false := decide_eq_false (by omega)
                  have p2 : decide ((nb : Int) ≤ (ak : Int)) = false := decide_eq_false (by omega)
                  have p3 : ¬ (ak : Int) < 0 := by omega
                  have p4 : ¬ (nb : Int) ≤ (ak : Int) := by omega
                  have hxx : (v != v) = false := by simp
                  clear ha1 ha2 ha3 ha4 hak h7
                  rw [h12] at x0
                  go_quiet (fail)
                  go_wp2_with fail
                  go_roundw
                  case rel => exact ⟨k + 1, by omega, by go_num, below_drewN HBR.out _⟩
                  case measure => simp [intOf]; omega
                · have q7 : (x.op == 7) = false := by rw [beq_eq_false_iff_ne]; omega
                  have q8 : (x.op == 8) = false := by rw [beq_eq_false_iff_ne]; omega
                  have q12 : (x.op == 12) = false := by rw [beq_eq_false_iff_ne]; omega
                  clear h7 h12
                  go_quiet (fail)
                  go_wp2_with fail
                  go_roundw
                  case rel => exact ⟨k + 1, by omega, by go_num, below_drewN HBR.out _⟩
                  case measure => simp [intOf]; omega
          · have hke : k = nb := by omega
            subst hke
            have HBN := Lib.hid (bt HBV2.out HJ.out)
            go_wp2_with fail
            go_roundw
            case rel => exact ⟨i + 1, by omega, by go_num, HBN.out⟩
            case measure => simp [intOf]; omega
      · have hie : i = n := by omega
        subst hie
        go_wp2_with (go_at_call 13; refine (HLIV.out _ HI.out).mono ?_; rintro e w5 ⟨rfl, hb5⟩)
        go_ret
        exact ⟨rfl, bt (bt HBV.out HI.out) hb5⟩
end Go.Proofs.YtdhmaopodcccmaaDoor
