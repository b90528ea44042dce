/-
  A FUNCTION OF CODE: bounded, heightsOf, Valid, Heights.
-/
import Derived.Test.YtdhmaopodcccmaaDoorG13
import Derived.Test.YtdhmaopodcccmaaDoorG19
set_option linter.unusedVariables false
namespace Go.Proofs.YtdhmaopodcccmaaDoor
open Go.RowKit WM TR KM

theorem BodyR.next {w w' : World} {e : Ent} (h : BodyR w (fun b => b < w.heap.size) e) (hb : Below w.heap.size w w') : BodyR w' (fun b => b < w'.heap.size) e :=
  h.keep (fun b hb' => hb.block b hb') fun b (hb' : b < w.heap.size) => Nat.lt_of_lt_of_le hb' hb.size
theorem HtsPost.trans {o : Option (List Int)} {w w1 w' : World} {e : Ending} (h : HtsPost o w1 e w') (hb : Below w.heap.size w w1) : HtsPost o w e w' := by
  cases o with
  | none => exact ⟨h.1, bt hb h.2⟩
  | some hs =>
    obtain ⟨A, c, h1, h2, h3⟩ := h
    exact ⟨A, c, h1, own_lower h2 hb.size, bt hb h3⟩
/-- The heights of a function of code. -/
def hOf (ch : Int) (fs : List KM.Fn) (f : KM.Fn) : Option (List Int) :=
  if witB f.p 0 3 && witB f.w f.p 24 && witB f.body.length 1 2048 && f.body.all (rightB ch fs f.w f.body.length) then hts f.body else none
theorem right_good {ch : Int} {fs : List KM.Fn} {wd : Int} {nb : Nat} {x : Ins} (h : rightB ch fs wd nb x = true) :
    (0 ≤ x.op ∧ x.op < 19) ∧ ((effAt x.op).2.1 = true → 0 ≤ x.b ∧ x.b ≤ 3) ∧ (x.op = 7 ∨ x.op = 8 ∨ x.op = 12 → 0 ≤ x.a ∧ x.a.toNat < nb) := by
  obtain ⟨op, a, b⟩ := x
  simp only at *
  have hop : 0 ≤ op ∧ op < 19 := by
    unfold rightB at h
    simp only at h
    by_cases h0 : op = 0
    · omega
    · rw [if_neg h0] at h
      by_cases h1 : op = 1 ∨ op = 2
      · omega
      · rw [if_neg h1] at h
        by_cases h2 : op = 3 ∨ op = 4
        · omega
        · rw [if_neg h2] at h
          by_cases h3 : op = 5
          · omega
          · rw [if_neg h3] at h
            by_cases h4 : op = 7 ∨ op = 8
            · omega
            · rw [if_neg h4] at h
              by_cases h5 : op = 9 ∨ op = 16
              · omega
              · rw [if_neg h5] at h
                by_cases h6 : op = 12
                · omega
                · rw [if_neg h6] at h
                  by_cases h7 : op = 14 ∨ op = 15
                  · omega
                  · rw [if_neg h7] at h
                    by_cases h8 : op = 6 ∨ op = 10 ∨ op = 11 ∨ op = 13 ∨ op = 17 ∨ op = 18
                    · omega
                    · rw [if_neg h8] at h; cases h
  refine ⟨hop, fun he => ?_, fun hj => ?_⟩
  · obtain ⟨k, hk⟩ : ∃ k : Nat, op = (k : Int) := ⟨op.toNat, by omega⟩
    subst hk
    have hk2 : k < 19 := by omega
    have hk3 : k = 9 ∨ k = 16 := by
      have hd : ∀ k : Fin 19, (effAt ((k.val : Nat) : Int)).2.1 = true → k.val = 9 ∨ k.val = 16 := by decide
      exact hd ⟨k, hk2⟩ he
    have hb : witB b 0 3 = true := by
      rcases hk3 with rfl | rfl <;> simp [rightB] at h <;> exact h.2
    unfold witB at hb
    simp at hb
    omega
  · have ha : idxB a nb = true := by
      rcases hj with rfl | rfl | rfl <;> simp [rightB] at h <;> exact h.1
    unfold idxB witB at ha
    simp at ha
    omega
theorem all_good {ch : Int} {fs : List KM.Fn} {wd : Int} {body : List Ins} (h : body.all (rightB ch fs wd body.length) = true) : Good8 body := by
  have hg : ∀ i, i < body.length → rightB ch fs wd body.length (insAt body i) = true := by
    intro i hi
    rw [List.all_eq_true] at h
    unfold insAt
    rw [List.getElem?_eq_getElem hi]
    exact h _ (List.getElem_mem hi)
  exact ⟨fun i hi => (right_good (hg i hi)).1, fun i hi => (right_good (hg i hi)).2.1, fun i hi => (right_good (hg i hi)).2.2⟩
/-- Whether nothing is wrong with code that is not about one of its functions. -/
def boundB (ch : Int) (n : Nat) : Bool := witB ch 0 3 && witB n 1 6
theorem bounded_is (ch : Int) (Ac : Option Addr) (nf cc : Nat) (w : World) : Calls Tryd.prog 36 #[.agg #[.int .i64 ch, .slice Ac nf cc]] w fun e w' => e = .returned (.bool (boundB ch nf)) ∧ Below w.heap.size w w' := by
  obtain ⟨z, hz⟩ : ∃ z, z = w.heap.size := ⟨_, rfl⟩
  obtain ⟨W1, hW1⟩ : ∃ W1, W1 = w.alloc (.cells #[.int .i64 ch, .slice Ac nf cc] 25) := ⟨_, rfl⟩
  have k3 : Blk W1 z 25 #[.int .i64 ch, .slice Ac nf cc] := by rw [hW1, hz]; exact Blk.new _ _ _
  obtain ⟨c0, c1⟩ : W1.cell? ⟨z, 0, none⟩ = some (.int .i64 ch) ∧ W1.cell? ⟨z, 1, none⟩ = some (.slice Ac nf cc) := ⟨k3.cell 0, k3.cell 1⟩
  have HB1 : Hid (Below w.heap.size w W1) := Lib.hid (by rw [hW1]; exact below_new _ _)
  have HW1 := Lib.hid hW1
  have HZ := Lib.hid hz
  clear hW1 hz k3
  go_enter Tryd.func36, Tryd.ntmps36
  go_upto_region 1 with fail
  rw [← HW1.out]
  try rw [← HZ.out]
  cases h1 : witB ch 0 3
  · go_wp2_with (go_at_call 60; refine (within_is _ _ _ _).mono ?_; rintro e w2 ⟨rfl, hww⟩; rw [hww]; clear hww w2)
    go_ret
    exact ⟨by simp [boundB, h1], HB1.out⟩
  · go_wp2_with (go_at_call 60; refine (within_is _ _ _ _).mono ?_; rintro e w2 ⟨rfl, hww⟩; rw [hww]; clear hww w2)
    go_ret
    exact ⟨by simp [boundB, h1], HB1.out⟩
set_option maxRecDepth 100000 in
set_option maxHeartbeats 16000000 in
theorem heightsOf_is (ch : Int) (es : List Ent) (Ac : Option Addr) (cc : Nat) (f : Ent) (w : World) (hch : -1000000 ≤ ch ∧ ch ≤ 1000000)
    (hco : CoR w (fun b => b < w.heap.size) Ac cc es) (hbo : BodyR w (fun b => b < w.heap.size) f) (hT : ET w) (hgt : 0 < w.heap.size) :
    Calls Tryd.prog 37 #[.agg #[.int .i64 ch, .slice Ac es.length cc], .agg (entC f).toArray] w (HtsPost (hOf ch (es.map Ent.fn) f.fn) w) := by
  obtain ⟨nf, hnf⟩ : ∃ n, es.length = n := ⟨_, rfl⟩
  obtain ⟨nb, hnb⟩ : ∃ n, f.body.length = n := ⟨_, rfl⟩
  obtain ⟨p, wd, Ab, cb, body⟩ := f
  simp only at hnb
  have hnl : nb ≤ 200000 := by rw [← hnb]; exact hbo.len
  obtain ⟨z, hz⟩ : ∃ z, z = w.heap.size := ⟨_, rfl⟩
  obtain ⟨W1, hW1⟩ : ∃ W1, W1 = (w.alloc (.cells #[.int .i64 ch, .slice Ac nf cc] 25)).alloc (.cells #[.int .i64 p, .int .i64 wd, .slice Ab nb cb, .slice none 0 0] 51) := ⟨_, rfl⟩
  have hb1 : Below w.heap.size w W1 := by rw [hW1]; exact ba (below_new _ _) _
  have k3 : Blk W1 z 25 #[.int .i64 ch, .slice Ac nf cc] := by rw [hW1, hz]; exact (Blk.new _ _ _).alloc _
  have k4 : Blk W1 (z + 1) 51 #[.int .i64 p, .int .i64 wd, .slice Ab nb cb, .slice none 0 0] := by rw [hW1, hz, ← size_alloc w (.cells #[.int .i64 ch, .slice Ac nf cc] 25)]; exact Blk.new _ _ _
  obtain ⟨d0, d1, d2⟩ : W1.cell? ⟨z + 1, 0, none⟩ = some (.int .i64 p) ∧ W1.cell? ⟨z + 1, 1, none⟩ = some (.int .i64 wd) ∧ W1.cell? ⟨z + 1, 2, none⟩ = some (.slice Ab nb cb) := ⟨k4.cell 0, k4.cell 1, k4.cell 2⟩
  have HB1 := Lib.hid hb1
  have HK3 := Lib.hid k3
  have HK4 := Lib.hid k4
  have HNF := Lib.hid hnf
  have HNB := Lib.hid hnb
  have HCO := Lib.hid (hco.next hb1)
  have HBO := Lib.hid (hbo.next hb1)
  have HT := Lib.hid (hT.below hb1 hgt)
  have HGT : Hid (0 < W1.heap.size) := Lib.hid (Nat.lt_of_lt_of_le hgt hb1.size)
  have HW1 := Lib.hid hW1
  have HZ := Lib.hid hz
  obtain ⟨o, ho⟩ : ∃ o, o = hOf ch (es.map Ent.fn) (Ent.fn ⟨p, wd, Ab, cb, body⟩) := ⟨_, rfl⟩
  rw [← ho, hnf]
  have hargs : (entC ⟨p, wd, Ab, cb, body⟩).toArray = #[.int .i64 p, .int .i64 wd, .slice Ab nb cb, .slice none 0 0] := by rw [← hnb]; rfl
  rw [hargs]
  have HO : Hid (o = if witB p 0 3 && witB wd p 24 && witB nb 1 2048 && body.all (rightB ch (es.map Ent.fn) wd nb) then hts body else none) := Lib.hid (by rw [ho, ← hnb]; rfl)
  clear hb1 k3 k4 hco hbo hW1 hz ho hargs hT hgt hnf hnb
  go_enter Tryd.func37, Tryd.ntmps37
  go_upto_region 1 with fail
  have e11 : (w.alloc (.cells #[.int .i64 ch, .slice Ac nf cc] 25)).heap.size = z + 1 := by rw [HZ.out]; simp
  try rw [e11]
  rw [← HW1.out]
  try rw [← HZ.out]
  clear e11
  cases h1 : witB p 0 3
  · have ho : o = none := by rw [HO.out, h1]; rfl
    subst ho
    go_wp2_with (go_at_call 60; refine (within_is _ _ _ _).mono ?_; rintro e w2 ⟨rfl, hww⟩; rw [hww]; clear hww w2)
    go_ret
    exact ⟨rfl, HB1.out⟩
  · cases h2 : witB wd p 24
    · have ho : o = none := by rw [HO.out, h1, h2]; rfl
      subst ho
      go_wp2_with (go_at_call 60; refine (within_is _ _ _ _).mono ?_; rintro e w2 ⟨rfl, hww⟩; rw [hww]; clear hww w2)
      go_ret
      exact ⟨rfl, HB1.out⟩
    · cases h3 : witB nb 1 2048
      · have ho : o = none := by rw [HO.out, h1, h2, h3]; rfl
        subst ho
        go_wp2_with (go_at_call 60; refine (within_is _ _ _ _).mono ?_; rintro e w2 ⟨rfl, hww⟩; rw [hww]; clear hww w2)
        go_ret
        exact ⟨rfl, HB1.out⟩
      · have hwd : 0 ≤ wd ∧ wd ≤ 1000000 := by unfold witB at h1 h2; simp at h1 h2; omega
        have hn1 : 1 ≤ nb ∧ nb ≤ 2048 := by unfold witB at h3; simp at h3; omega
        have HO2 : Hid (o = if body.all (rightB ch (es.map Ent.fn) wd nb) then hts body else none) := Lib.hid (by rw [HO.out, h1, h2, h3]; rfl)
        go_wp2_with (go_at_call 60; refine (within_is _ _ _ _).mono ?_; rintro e w2 ⟨rfl, hww⟩; rw [hww]; clear hww w2)
        clear h1 h2 h3 d0 d1 d2
        go_loopw [29] (fun s wr => ∃ i : Nat, i ≤ nb ∧ s = .int .i64 i ∧ Hid (Below W1.heap.size W1 wr ∧ ∀ j, j < i → rightB ch (es.map Ent.fn) wd nb (insAt body j) = true)) (fun s _ => nb - (intOf s).toNat)
        case atStart => exact ⟨0, Nat.zero_le _, rfl, Below.refl _ _, fun j hj => absurd hj (Nat.not_lt_zero j)⟩
        case round =>
          obtain ⟨i, hi, rfl, HI⟩ := hrel
          by_cases hlt : i < nb
          · have hlt2 : (i : Int) < nb := by omega
            have hib : (0 : Int) ≤ (i : Int) ∧ (i : Int) < (nb : Int) := ⟨by omega, hlt2⟩
            obtain ⟨ab, ob, hAb, hab, hbc⟩ := HBO.out.rd.lit (by show 0 < body.length * 3; rw [HNB.out]; omega)
            simp only at hAb
            subst hAb
            obtain ⟨xi, hxi⟩ : ∃ x, insAt body i = x := ⟨_, rfl⟩
            have hxg : body[i]? = some xi := by rw [← hxi]; unfold insAt; rw [List.getElem?_eq_getElem (by rw [HNB.out]; exact hlt)]; rfl
            have e : ∀ j v, (insC xi)[j]? = some v → wr.cell? ⟨ab, ob + i * 3 + j, none⟩ = some v := fun j v hv => by
              have h1 := hbc _ _ (insCs_get body i xi hxg j v hv)
              rw [← Nat.add_assoc] at h1
              exact (HI.out.1.cell (p := ⟨ab, ob + i * 3 + j, none⟩) hab).trans h1
            obtain ⟨i1, i2, i3⟩ : wr.cell? ⟨ab, ob + i * 3, none⟩ = some (.int .i64 xi.op) ∧ wr.cell? ⟨ab, ob + i * 3 + 1, none⟩ = some (.int .i64 xi.a) ∧ wr.cell? ⟨ab, ob + i * 3 + 2, none⟩ = some (.int .i64 xi.b) := ⟨e 0 _ rfl, e 1 _ rfl, e 2 _ rfl⟩
            have HXI := Lib.hid hxi
            clear hxg e hbc hxi
            go_upto_region 6 with fail
            obtain ⟨W6, hW6⟩ : ∃ W6, W6 = wr.alloc (.cells #[.int .i64 xi.op, .int .i64 xi.a, .int .i64 xi.b] 54) := ⟨_, rfl⟩
            obtain ⟨y, hy⟩ : ∃ y, y = wr.heap.size := ⟨_, rfl⟩
            have k5 : Blk W6 y 54 #[.int .i64 xi.op, .int .i64 xi.a, .int .i64 xi.b] := by rw [hW6, hy]; exact Blk.new _ _ _
            have hb6 : Below W1.heap.size W1 W6 := by rw [hW6]; exact ba HI.out.1 _
            obtain ⟨q, hq⟩ : ∃ q, rightB ch (es.map Ent.fn) wd nb xi = q := ⟨_, rfl⟩
            have FR : Hid (Calls Tryd.prog 61 #[.agg #[.int .i64 ch, .slice Ac nf cc], .agg #[.int .i64 p, .int .i64 wd, .slice (some ⟨ab, ob, none⟩) nb cb, .slice none 0 0], .agg #[.int .i64 xi.op, .int .i64 xi.a, .int .i64 xi.b]] W6 fun e w' => e = .returned (.bool q) ∧ Below W6.heap.size W6 w') := Lib.hid (by
              rw [← hq, ← HNF.out]
              exact right_is ch es Ac cc p wd (some ⟨ab, ob, none⟩) nb cb (.slice none 0 0) xi W6 hch hwd (by omega) (HCO.out.next hb6))
            obtain ⟨m0, m1, m2⟩ : W6.cell? ⟨y, 0, none⟩ = some (.int .i64 xi.op) ∧ W6.cell? ⟨y, 1, none⟩ = some (.int .i64 xi.a) ∧ W6.cell? ⟨y, 2, none⟩ = some (.int .i64 xi.b) := ⟨k5.cell 0, k5.cell 1, k5.cell 2⟩
            obtain ⟨a0, a1⟩ : W6.cell? ⟨z, 0, none⟩ = some (.int .i64 ch) ∧ W6.cell? ⟨z, 1, none⟩ = some (.slice Ac nf cc) := ⟨(HK3.out.below hb6 HK3.out.lt).cell 0, (HK3.out.below hb6 HK3.out.lt).cell 1⟩
            have k4 := HK4.out.below hb6 HK4.out.lt
            obtain ⟨b0, b1, b2, b3⟩ : W6.cell? ⟨z + 1, 0, none⟩ = some (.int .i64 p) ∧ W6.cell? ⟨z + 1, 1, none⟩ = some (.int .i64 wd) ∧ W6.cell? ⟨z + 1, 2, none⟩ = some (.slice (some ⟨ab, ob, none⟩) nb cb) ∧ W6.cell? ⟨z + 1, 3, none⟩ = some (.slice none 0 0) := ⟨k4.cell 0, k4.cell 1, k4.cell 2, k4.cell 3⟩
            rw [← hW6, ← hy]
            have HQ := Lib.hid hq
            have HB6 := Lib.hid hb6
            clear k4 k5 hW6 hy hq hb6 i1 i2 i3
            cases q
            · have ho : o = none := by
                rw [HO2.out, if_neg]
                rw [List.all_eq_true]
                intro hh
                have := hh xi (by rw [← HXI.out]; unfold insAt; rw [List.getElem?_eq_getElem (by rw [HNB.out]; exact hlt)]; exact List.getElem_mem _)
                rw [HQ.out] at this; cases this
              subst ho
              go_wp2_with (go_at_call 61; refine FR.out.mono ?_; rintro e w7 ⟨rfl, hb7⟩)
              go_ret
              exact ⟨rfl, bt HB1.out (bt HB6.out hb7)⟩
            · go_wp2_with (go_at_call 61; refine FR.out.mono ?_; rintro e w7 ⟨rfl, hb7⟩)
              go_roundw
              case rel =>
                refine ⟨i + 1, by omega, by go_num, bt HB6.out hb7, fun j hj => ?_⟩
                rcases Nat.lt_or_ge j i with h | h
                · exact HI.out.2 j h
                · have : j = i := by omega
                  rw [this, HXI.out]; exact HQ.out
              case measure => simp [intOf]; omega
          · have hie : i = nb := by omega
            subst hie
            have hall : body.all (rightB ch (es.map Ent.fn) wd i) = true := by
              rw [List.all_eq_true]
              intro x hx
              obtain ⟨j, hj, rfl⟩ := List.getElem_of_mem hx
              have := HI.out.2 j (by rw [← HNB.out]; exact hj)
              unfold insAt at this
              rw [List.getElem?_eq_getElem hj] at this
              exact this
            have HG : Hid (o = hts body) := Lib.hid (by rw [HO2.out, hall]; rfl)
            have FH : Hid (Calls Tryd.prog 62 #[.slice Ab i cb] wr (HtsPost o wr)) := Lib.hid (by
              rw [HG.out, ← HNB.out]
              exact heights_is body (all_good (by rw [HNB.out]; exact hall)) Ab cb wr (HBO.out.next HI.out.1).rd (by rw [HNB.out]; exact hn1) (HT.out.below HI.out.1 HGT.out) (Nat.lt_of_lt_of_le HGT.out HI.out.1.size))
            have d2 : wr.cell? ⟨z + 1, 2, none⟩ = some (.slice Ab i cb) := (HK4.out.below HI.out.1 HK4.out.lt).cell 2
            clear hall
            clear HO HO2 HG
            cases o with
            | none =>
              go_wp2_with (go_at_call 62; refine FH.out.mono ?_; rintro e w5 ⟨rfl, hb5⟩)
              go_ret
              exact ⟨rfl, bt HB1.out (bt HI.out.1 hb5)⟩
            | some hs =>
              go_wp2_with (go_at_call 62; refine FH.out.mono ?_; rintro e w5 ⟨A5, c5, rfl, h5, hb5⟩)
              go_ret
              exact ⟨A5, c5, rfl, own_lower h5 (bt HB1.out HI.out.1).size, bt HB1.out (bt HI.out.1 hb5)⟩
end Go.Proofs.YtdhmaopodcccmaaDoor
