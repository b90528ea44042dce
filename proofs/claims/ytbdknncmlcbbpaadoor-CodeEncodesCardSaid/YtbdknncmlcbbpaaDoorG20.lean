/-
  VALID and Heights, walked.
-/
import Derived.Test.YtbdknncmlcbbpaaDoorG16
import Derived.StillTailTactics
set_option linter.unusedVariables false
namespace Go.Proofs.YtbdknncmlcbbpaaDoor
open Go.RowKit WM TR KM

/-- Whether code can be run. -/
def valB (ch : Int) (fs : List KM.Fn) : Bool := boundB ch fs.length && fs.all (fun f => (hOf ch fs f).isSome)
theorem hOf_ne {ch : Int} {fs : List KM.Fn} {f : KM.Fn} {hs : List Int} (h : hOf ch fs f = some hs) : hs.length = f.body.length ∧ 0 < f.body.length := by
  unfold hOf at h
  split at h
  · rename_i hc
    simp only [Bool.and_eq_true] at hc
    have := hts_steps (all_good hc.2).named h
    exact ⟨this.1, this.2.1⟩
  · cases h
theorem HtsPost.some_ {hs : List Int} {w w' : World} {e : Ending} (h : HtsPost (some hs) w e w') (hl : 0 < hs.length) : ∃ g c, e = .returned (.slice (some ⟨g, 0, none⟩) hs.length c) ∧ w'.ownsRow w.heap.size 3 1 (.slice (some ⟨g, 0, none⟩) hs.length c) hs.length (vi hs) ∧ Below w.heap.size w w' := by
  obtain ⟨A, c, h1, h2, h3⟩ := h
  rcases h2.2 with ⟨hv, hn⟩ | ⟨g, cap, cur, hv, _⟩
  · omega
  · injection hv with e1 e2 e3
    subst e1
    exact ⟨g, c, h1, h2, h3⟩
set_option maxRecDepth 100000 in
set_option maxHeartbeats 16000000 in
theorem valid_is (ch : Int) (es : List Ent) (Ac : Option Addr) (cc : Nat) (w : World) (hch : -1000000 ≤ ch ∧ ch ≤ 1000000)
    (hco : CoR w (fun b => b < w.heap.size) Ac cc es) (hT : ET w) (hgt : 0 < w.heap.size) :
    Calls Tryd.prog 10 #[.agg #[.int .i64 ch, .slice Ac es.length cc]] w fun e w' => e = .returned (.bool (valB ch (es.map Ent.fn))) ∧ Below w.heap.size w w' := by
  obtain ⟨nf, hnf⟩ : ∃ n, es.length = n := ⟨_, rfl⟩
  have hnl : nf ≤ 200000 := by rw [← hnf]; exact hco.len
  obtain ⟨z, hz⟩ : ∃ z, z = w.heap.size := ⟨_, rfl⟩
  obtain ⟨W1, hW1⟩ : ∃ W1, W1 = w.alloc (.cells #[.int .i64 ch, .slice Ac nf cc] 25) := ⟨_, rfl⟩
  have hb1 : Below w.heap.size w W1 := by rw [hW1]; exact below_new _ _
  have k3 : Blk W1 z 25 #[.int .i64 ch, .slice Ac nf cc] := by rw [hW1, hz]; exact Blk.new _ _ _
  obtain ⟨c0, c1⟩ : W1.cell? ⟨z, 0, none⟩ = some (.int .i64 ch) ∧ W1.cell? ⟨z, 1, none⟩ = some (.slice Ac nf cc) := ⟨k3.cell 0, k3.cell 1⟩
  have HB1 := Lib.hid hb1
  have HK3 := Lib.hid k3
  have HNF := Lib.hid hnf
  have HCO := Lib.hid (hco.next hb1)
  have HT := Lib.hid (hT.below hb1 hgt)
  have HGT : Hid (0 < W1.heap.size) := Lib.hid (Nat.lt_of_lt_of_le hgt hb1.size)
  have HW1 := Lib.hid hW1
  have HZ := Lib.hid hz
  obtain ⟨r, hr⟩ : ∃ r, r = valB ch (es.map Ent.fn) := ⟨_, rfl⟩
  rw [← hr, hnf]
  obtain ⟨q, hq⟩ : ∃ q, boundB ch nf = q := ⟨_, rfl⟩
  have HR : Hid (r = (q && es.all (fun e => (hOf ch (es.map Ent.fn) e.fn).isSome))) := Lib.hid (by
    rw [hr, ← hq]; unfold valB
    rw [List.length_map, hnf, List.all_map]; rfl)
  have FB : Hid (Calls Tryd.prog 36 #[.agg #[.int .i64 ch, .slice Ac nf cc]] W1 fun e w' => e = .returned (.bool q) ∧ Below W1.heap.size W1 w') := Lib.hid (by rw [← hq]; exact bounded_is ch Ac nf cc W1)
  clear hb1 k3 hco hW1 hz hT hgt hnf hr hq
  go_enter Tryd.func10, Tryd.ntmps10
  go_upto_region 1 with fail
  rw [← HW1.out]
  try rw [← HZ.out]
  cases q
  · go_wp2_with (go_at_call 36; refine FB.out.mono ?_; rintro e w2 ⟨rfl, hb2⟩)
    go_ret
    exact ⟨by rw [HR.out]; rfl, bt HB1.out hb2⟩
  · go_upto_region 3 with (first | (go_at_call 36; refine FB.out.mono ?_; rintro e w2 ⟨rfl, hb2⟩; clear c0 c1; obtain ⟨c0, c1⟩ : w2.cell? ⟨z, 0, none⟩ = some (.int .i64 ch) ∧ w2.cell? ⟨z, 1, none⟩ = some (.slice Ac nf cc) := ⟨(HK3.out.below hb2 HK3.out.lt).cell 0, (HK3.out.below hb2 HK3.out.lt).cell 1⟩; replace hb2 := Lib.hid hb2))
    go_wp2_with fail
    clear c0 c1
    go_loopw [11] (fun s wr => ∃ i : Nat, i ≤ nf ∧ s = .int .i64 i ∧ Hid (Below W1.heap.size W1 wr ∧ ∀ j e, j < i → es[j]? = some e → (hOf ch (es.map Ent.fn) e.fn).isSome = true)) (fun s _ => nf - (intOf s).toNat)
    case atStart => exact ⟨0, Nat.zero_le _, rfl, hb2.out, fun j e hj => absurd hj (Nat.not_lt_zero j)⟩
    case round =>
      obtain ⟨i, hi, rfl, HI⟩ := hrel
      by_cases hlt : i < nf
      · have hlt2 : (i : Int) < nf := by omega
        have hib : (0 : Int) ≤ (i : Int) ∧ (i : Int) < (nf : Int) := ⟨by omega, hlt2⟩
        obtain ⟨aA, oA, hAc, hA1, hA2⟩ := HCO.out.rd.lit (by rw [HNF.out]; omega)
        subst hAc
        obtain ⟨en, hen⟩ : ∃ en, es[i]? = some en := ⟨_, List.getElem?_eq_getElem (by rw [HNF.out]; exact hlt)⟩
        have hmem : en ∈ es := List.mem_of_getElem? hen
        have ee : ∀ j v, (entC en)[j]? = some v → wr.cell? ⟨aA, oA + i * 4 + j, none⟩ = some v := fun j v hv => by
          have h1 := hA2 _ _ (entsC_get es i en hen j v hv)
          rw [← Nat.add_assoc] at h1
          exact (HI.out.1.cell (p := ⟨aA, oA + i * 4 + j, none⟩) hA1).trans h1
        have HBO := Lib.hid ((HCO.out.all en hmem))
        obtain ⟨i0, i1, i2, i3⟩ : wr.cell? ⟨aA, oA + i * 4, none⟩ = some (.int .i64 en.p) ∧ wr.cell? ⟨aA, oA + i * 4 + 1, none⟩ = some (.int .i64 en.w) ∧ wr.cell? ⟨aA, oA + i * 4 + 2, none⟩ = some (.slice en.A en.body.length en.c) ∧ wr.cell? ⟨aA, oA + i * 4 + 3, none⟩ = some (.slice none 0 0) := ⟨ee 0 _ rfl, ee 1 _ rfl, ee 2 _ rfl, ee 3 _ rfl⟩
        have HEN := Lib.hid hen
        have HMM := Lib.hid hmem
        clear ee hA2 hen hmem
        go_upto_region 6 with fail
        obtain ⟨W6, hW6⟩ : ∃ W6, W6 = wr.alloc (.cells #[.int .i64 en.p, .int .i64 en.w, .slice en.A en.body.length en.c, .slice none 0 0] 51) := ⟨_, rfl⟩
        obtain ⟨y, hy⟩ : ∃ y, y = wr.heap.size := ⟨_, rfl⟩
        have k5 : Blk W6 y 51 #[.int .i64 en.p, .int .i64 en.w, .slice en.A en.body.length en.c, .slice none 0 0] := by rw [hW6, hy]; exact Blk.new _ _ _
        have hb6 : Below W1.heap.size W1 W6 := by rw [hW6]; exact ba HI.out.1 _
        obtain ⟨o, ho⟩ : ∃ o, hOf ch (es.map Ent.fn) en.fn = o := ⟨_, rfl⟩
        have FH : Hid (Calls Tryd.prog 37 #[.agg #[.int .i64 ch, .slice (some ⟨aA, oA, none⟩) nf cc], .agg #[.int .i64 en.p, .int .i64 en.w, .slice en.A en.body.length en.c, .slice none 0 0]] W6 (HtsPost o W6)) := Lib.hid (by
          rw [← ho, ← HNF.out]
          exact heightsOf_is ch es (some ⟨aA, oA, none⟩) cc en W6 hch (HCO.out.next hb6) (HBO.out.next hb6) (HT.out.below hb6 HGT.out) (Nat.lt_of_lt_of_le HGT.out hb6.size))
        obtain ⟨m0, m1, m2, m3⟩ : W6.cell? ⟨y, 0, none⟩ = some (.int .i64 en.p) ∧ W6.cell? ⟨y, 1, none⟩ = some (.int .i64 en.w) ∧ W6.cell? ⟨y, 2, none⟩ = some (.slice en.A en.body.length en.c) ∧ W6.cell? ⟨y, 3, none⟩ = some (.slice none 0 0) := ⟨k5.cell 0, k5.cell 1, k5.cell 2, k5.cell 3⟩
        obtain ⟨a0, a1⟩ : W6.cell? ⟨z, 0, none⟩ = some (.int .i64 ch) ∧ W6.cell? ⟨z, 1, none⟩ = some (.slice (some ⟨aA, oA, none⟩) nf cc) := ⟨(HK3.out.below hb6 HK3.out.lt).cell 0, (HK3.out.below hb6 HK3.out.lt).cell 1⟩
        rw [← hW6, ← hy]
        have HOO := Lib.hid ho
        have HB6 := Lib.hid hb6
        clear k5 hW6 hy ho hb6 i0 i1 i2 i3
        cases o with
        | none =>
          have hrf : r = false := by
            rw [HR.out, Bool.true_and, Bool.eq_false_iff]
            intro hh
            rw [List.all_eq_true] at hh
            have := hh en HMM.out
            rw [HOO.out] at this; cases this
          subst hrf
          have hq : ∀ W : World, (binOp BinOp.eql 22 (.slice none 0 0) (.slice none 0 0)).run Tryd.prog W = .ok (.bool true) W := fun W => by kernel_rfl
          go_wp2_with (go_at_call 37; refine FH.out.mono ?_; rintro e w7 ⟨rfl, hb7⟩)
          go_ret
          exact ⟨rfl, bt HB1.out (bt HB6.out hb7)⟩
        | some hs =>
          have hl := hOf_ne HOO.out
          have HL := Lib.hid hl
          clear hl
          have hq : ∀ (g c : Nat) (W : World), (binOp BinOp.eql 22 (.slice (some ⟨g, 0, none⟩) hs.length c) (.slice none 0 0)).run Tryd.prog W = .ok (.bool false) W := fun g c W => by kernel_rfl
          go_wp2_with (go_at_call 37; refine FH.out.mono ?_; intro e w7 h7; obtain ⟨g7, c7, rfl, _, hb7⟩ := h7.some_ (by have := HL.out; omega); clear h7; replace hb7 := Lib.hid hb7)
          go_roundw
          case rel =>
            refine ⟨i + 1, by omega, by go_num, bt HB6.out hb7.out, fun j e hj he => ?_⟩
            rcases Nat.lt_or_ge j i with h | h
            · exact HI.out.2 j e h he
            · have : j = i := by omega
              subst this
              rw [HEN.out] at he
              injection he with he
              rw [← he, HOO.out]; rfl
          case measure => simp [intOf]; omega
      · have hie : i = nf := by omega
        subst hie
        have hrt : r = true := by
          rw [HR.out, Bool.true_and, List.all_eq_true]
          intro x hx
          obtain ⟨j, hj, rfl⟩ := List.getElem_of_mem hx
          exact HI.out.2 j _ (by rw [← HNF.out]; exact hj) (List.getElem?_eq_getElem hj)
        subst hrt
        go_wp2_with fail
        go_ret
        exact ⟨rfl, bt HB1.out HI.out.1⟩
/-- What Heights answers. -/
def hAt (ch : Int) (fs : List KM.Fn) (f : Int) : Option (List Int) :=
  if boundB ch fs.length && idxB f fs.length then (fs[f.toNat]?).bind (hOf ch fs) else none
set_option maxRecDepth 100000 in
set_option maxHeartbeats 16000000 in
theorem heightsAt_is (ch : Int) (es : List Ent) (Ac : Option Addr) (cc : Nat) (f : Int) (w : World) (hch : -1000000 ≤ ch ∧ ch ≤ 1000000)
    (hco : CoR w (fun b => b < w.heap.size) Ac cc es) (hT : ET w) (hgt : 0 < w.heap.size) :
    Calls Tryd.prog 26 #[.agg #[.int .i64 ch, .slice Ac es.length cc], .int .i64 f] w (HtsPost (hAt ch (es.map Ent.fn) f) w) := by
  obtain ⟨nf, hnf⟩ : ∃ n, es.length = n := ⟨_, rfl⟩
  have hnl : nf ≤ 200000 := by rw [← hnf]; exact hco.len
  obtain ⟨z, hz⟩ : ∃ z, z = w.heap.size := ⟨_, rfl⟩
  obtain ⟨W1, hW1⟩ : ∃ W1, W1 = w.alloc (.cells #[.int .i64 ch, .slice Ac nf cc] 25) := ⟨_, rfl⟩
  have hb1 : Below w.heap.size w W1 := by rw [hW1]; exact below_new _ _
  have k3 : Blk W1 z 25 #[.int .i64 ch, .slice Ac nf cc] := by rw [hW1, hz]; exact Blk.new _ _ _
  obtain ⟨c0, c1⟩ : W1.cell? ⟨z, 0, none⟩ = some (.int .i64 ch) ∧ W1.cell? ⟨z, 1, none⟩ = some (.slice Ac nf cc) := ⟨k3.cell 0, k3.cell 1⟩
  have HB1 := Lib.hid hb1
  have HK3 := Lib.hid k3
  have HNF := Lib.hid hnf
  have HCO := Lib.hid (hco.next hb1)
  have HT := Lib.hid (hT.below hb1 hgt)
  have HGT : Hid (0 < W1.heap.size) := Lib.hid (Nat.lt_of_lt_of_le hgt hb1.size)
  have HW1 := Lib.hid hW1
  have HZ := Lib.hid hz
  obtain ⟨o, ho⟩ : ∃ o, o = hAt ch (es.map Ent.fn) f := ⟨_, rfl⟩
  rw [← ho, hnf]
  obtain ⟨q, hq⟩ : ∃ q, boundB ch nf = q := ⟨_, rfl⟩
  have HO : Hid (o = if q && idxB f nf then ((es.map Ent.fn)[f.toNat]?).bind (hOf ch (es.map Ent.fn)) else none) := Lib.hid (by
    rw [ho, ← hq]; unfold hAt
    rw [List.length_map, hnf])
  have FB : Hid (Calls Tryd.prog 36 #[.agg #[.int .i64 ch, .slice Ac nf cc]] W1 fun e w' => e = .returned (.bool q) ∧ Below W1.heap.size W1 w') := Lib.hid (by rw [← hq]; exact bounded_is ch Ac nf cc W1)
  clear hb1 k3 hco hW1 hz hT hgt hnf ho hq
  go_enter Tryd.func26, Tryd.ntmps26
  go_upto_region 1 with fail
  rw [← HW1.out]
  try rw [← HZ.out]
  cases q
  · have ho : o = none := by rw [HO.out]; rfl
    subst ho
    go_wp2_with (go_at_call 36; refine FB.out.mono ?_; rintro e w2 ⟨rfl, hb2⟩)
    go_ret
    exact ⟨rfl, bt HB1.out hb2⟩
  · cases h1 : idxB f nf
    · have ho : o = none := by rw [HO.out, h1]; rfl
      subst ho
      go_wp2_with (first
        | (go_at_call 36; refine FB.out.mono ?_; rintro e w2 ⟨rfl, hb2⟩; clear c0 c1; have c1 : w2.cell? ⟨z, 1, none⟩ = some (.slice Ac nf cc) := (HK3.out.below hb2 HK3.out.lt).cell 1; replace hb2 := Lib.hid hb2)
        | (go_at_call 58; refine (indexes_is _ _ (by omega) _).mono ?_; rintro e w3 ⟨rfl, hww⟩; rw [hww]; clear hww w3))
      go_ret
      exact ⟨rfl, bt HB1.out hb2.out⟩
    · have hab : 0 ≤ f ∧ f < nf := by unfold idxB witB at h1; simp at h1; omega
      obtain ⟨k, hk⟩ : ∃ k : Nat, f = (k : Int) := ⟨f.toNat, by omega⟩
      subst hk
      have hkn : k < nf := by omega
      obtain ⟨aA, oA, hAc, hA1, hA2⟩ := HCO.out.rd.lit (by rw [HNF.out]; omega)
      subst hAc
      obtain ⟨en, hen⟩ : ∃ en, es[k]? = some en := ⟨_, List.getElem?_eq_getElem (by rw [HNF.out]; exact hkn)⟩
      have hmem : en ∈ es := List.mem_of_getElem? hen
      have HEE : Hid (∀ W, Below W1.heap.size W1 W → ∀ j v, (entC en)[j]? = some v → W.cell? ⟨aA, oA + k * 4 + j, none⟩ = some v) := Lib.hid (fun W h j v hv => by
        have h1 := hA2 _ _ (entsC_get es k en hen j v hv)
        rw [← Nat.add_assoc] at h1
        exact (h.cell (p := ⟨aA, oA + k * 4 + j, none⟩) hA1).trans h1)
      have HBO := Lib.hid ((HCO.out.all en hmem))
      have HOO : Hid (o = hOf ch (es.map Ent.fn) en.fn) := Lib.hid (by rw [HO.out, h1, Int.toNat_natCast, List.getElem?_map, hen]; rfl)
      have hkb : (0 : Int) ≤ (k : Int) ∧ (k : Int) < (nf : Int) := ⟨by omega, by omega⟩
      clear hA2 hen hmem HO hab
      go_upto_region 3 with (first
        | (go_at_call 36; refine FB.out.mono ?_; rintro e w2 ⟨rfl, hb2⟩; clear c0 c1; obtain ⟨c0, c1⟩ : w2.cell? ⟨z, 0, none⟩ = some (.int .i64 ch) ∧ w2.cell? ⟨z, 1, none⟩ = some (.slice (some ⟨aA, oA, none⟩) nf cc) := ⟨(HK3.out.below hb2 HK3.out.lt).cell 0, (HK3.out.below hb2 HK3.out.lt).cell 1⟩; replace hb2 := Lib.hid hb2)
        | (go_at_call 58; refine (indexes_is _ _ (by omega) _).mono ?_; rintro e w3 ⟨rfl, hww⟩; rw [hww]; clear hww w3))
      clear c0 c1
      obtain ⟨Wd, hWd⟩ : ∃ W, W = w2.drew := ⟨_, rfl⟩
      have hb6 : Below W1.heap.size W1 Wd := by rw [hWd]; exact hb2.out.drew
      have FH : Hid (Calls Tryd.prog 37 #[.agg #[.int .i64 ch, .slice (some ⟨aA, oA, none⟩) nf cc], .agg #[.int .i64 en.p, .int .i64 en.w, .slice en.A en.body.length en.c, .slice none 0 0]] Wd (HtsPost o Wd)) := Lib.hid (by
        rw [HOO.out, ← HNF.out]
        exact heightsOf_is ch es (some ⟨aA, oA, none⟩) cc en Wd hch (HCO.out.next hb6) (HBO.out.next hb6) (HT.out.below hb6 HGT.out) (Nat.lt_of_lt_of_le HGT.out hb6.size))
      obtain ⟨i0, i1, i2, i3⟩ : Wd.cell? ⟨aA, oA + k * 4, none⟩ = some (.int .i64 en.p) ∧ Wd.cell? ⟨aA, oA + k * 4 + 1, none⟩ = some (.int .i64 en.w) ∧ Wd.cell? ⟨aA, oA + k * 4 + 2, none⟩ = some (.slice en.A en.body.length en.c) ∧ Wd.cell? ⟨aA, oA + k * 4 + 3, none⟩ = some (.slice none 0 0) := ⟨HEE.out Wd hb6 0 _ rfl, HEE.out Wd hb6 1 _ rfl, HEE.out Wd hb6 2 _ rfl, HEE.out Wd hb6 3 _ rfl⟩
      obtain ⟨a0, a1⟩ : Wd.cell? ⟨z, 0, none⟩ = some (.int .i64 ch) ∧ Wd.cell? ⟨z, 1, none⟩ = some (.slice (some ⟨aA, oA, none⟩) nf cc) := ⟨(HK3.out.below hb6 HK3.out.lt).cell 0, (HK3.out.below hb6 HK3.out.lt).cell 1⟩
      have HB6 := Lib.hid hb6
      clear hb6
      refine wp_region_still_tail 6 (by kernel_rfl) (by kernel_rfl) ?_
      simp only [List.take_succ_cons, List.take_zero, List.drop_succ_cons, List.drop_zero]
      change wpStill _ _ w2.drew (fun a' => wpList _ _ _ _ a' w2.drew) _ _
      rw [← hWd]
      clear hWd
      repeat still_step
      refine wpStill_nil ?_
      clear HOO
      cases o with
      | none =>
        go_wp2_with (go_at_call 37; refine FH.out.mono ?_; rintro e w7 ⟨rfl, hb7⟩)
        go_ret
        exact ⟨rfl, bt HB1.out (bt HB6.out hb7)⟩
      | some hs =>
        go_wp2_with (go_at_call 37; refine FH.out.mono ?_; rintro e w7 ⟨A7, c7, rfl, h7, hb7⟩)
        go_ret
        exact ⟨A7, c7, rfl, own_lower h7 (bt HB1.out HB6.out).size, bt HB1.out (bt HB6.out hb7)⟩
end Go.Proofs.YtbdknncmlcbbpaaDoor
