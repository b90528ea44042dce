/-
  A FUNCTION OF CODE: bounded, heightsOf, Valid, Heights.
-/
import Derived.Test.YtbdknncmlcbbpaaDoorG12
import Derived.Test.YtbdknncmlcbbpaaDoorG15
import Derived.Test.YtbdknncmlcbbpaaDoorG11
set_option linter.unusedVariables false
namespace Go.Proofs.YtbdknncmlcbbpaaDoor
open Go.RowKit WM TR KM

theorem BodyR.next {w w' : World} {e : Ent} (h : BodyR w (fun b => b < w.heap.size) e) (hb : Below w.heap.size w w') : BodyR w' (fun b => b < w'.heap.size) e :=
  h.keep (fun b hb' => hb.block b hb') fun b (hb' : b < w.heap.size) => Nat.lt_of_lt_of_le hb' hb.size
theorem HtsPost.trans {o : Option (List Int)} {w w1 w' : World} {e : Ending} (h : HtsPost o w1 e w') (hb : Below w.heap.size w w1) : HtsPost o w e w' := by
  cases o with
  | none => exact ⟨h.1, bt hb h.2⟩
  | some hs =>
    obtain ⟨A, c, h1, h2, h3⟩ := h
    exact ⟨A, c, h1, own_lower h2 hb.size, bt hb h3⟩
/-- The heights of a function of code. -/
def hOf (ch : Int) (fs : List KM.Fn) (f : KM.Fn) : Option (List Int) :=
  if witB f.p 0 3 && witB f.w f.p 24 && witB f.body.length 1 2048 && f.body.all (rightB ch fs f.w f.body.length) then hts f.body else none
theorem right_good {ch : Int} {fs : List KM.Fn} {wd : Int} {nb : Nat} {x : Ins} (h : rightB ch fs wd nb x = true) :
    (0 ≤ x.op ∧ x.op < 19) ∧ ((effAt x.op).2.1 = true → 0 ≤ x.b ∧ x.b ≤ 3) ∧ (x.op = 7 ∨ x.op = 8 ∨ x.op = 12 → 0 ≤ x.a ∧ x.a.toNat < nb) := by
  obtain ⟨op, a, b⟩ := x
  simp only at *
  have hop : 0 ≤ op ∧ op < 19 := by
    unfold rightB at h
    simp only at h
    by_cases h0 : op = 0
    · omega
    · rw [if_neg h0] at h
      by_cases h1 : op = 1 ∨ op = 2
      · omega
      · rw [if_neg h1] at h
        by_cases h2 : op = 3 ∨ op = 4
        · omega
        · rw [if_neg h2] at h
          by_cases h3 : op = 5
          · omega
          · rw [if_neg h3] at h
            by_cases h4 : op = 7 ∨ op = 8
            · omega
            · rw [if_neg h4] at h
              by_cases h5 : op = 9 ∨ op = 16
              · omega
              · rw [if_neg h5] at h
                by_cases h6 : op = 12
                · omega
                · rw [if_neg h6] at h
                  by_cases h7 : op = 14 ∨ op = 15
                  · omega
                  · rw [if_neg h7] at h
                    by_cases h8 : op = 6 ∨ op = 10 ∨ op = 11 ∨ op = 13 ∨ op = 17 ∨ op = 18
                    · omega
                    · rw [if_neg h8] at h; cases h
  refine ⟨hop, fun he => ?_, fun hj => ?_⟩
  · obtain ⟨k, hk⟩ : ∃ k : Nat, op = (k : Int) := ⟨op.toNat, by omega⟩
    subst hk
    have hk2 : k < 19 := by omega
    have hk3 : k = 9 ∨ k = 16 := by
      have hd : ∀ k : Fin 19, (effAt ((k.val : Nat) : Int)).2.1 = true → k.val = 9 ∨ k.val = 16 := by decide
      exact hd ⟨k, hk2⟩ he
    have hb : witB b 0 3 = true := by
      rcases hk3 with rfl | rfl <;> simp [rightB] at h <;> exact h.2
    unfold witB at hb
    simp at hb
    omega
  · have ha : idxB a nb = true := by
      rcases hj with rfl | rfl | rfl <;> simp [rightB] at h <;> exact h.1
    unfold idxB witB at ha
    simp at ha
    omega
theorem all_good {ch : Int} {fs : List KM.Fn} {wd : Int} {body : List Ins} (h : body.all (rightB ch fs wd body.length) = true) : Good8 body := by
  have hg : ∀ i, i < body.length → rightB ch fs wd body.length (insAt body i) = true := by
    intro i hi
    rw [List.all_eq_true] at h
    unfold insAt
    rw [List.getElem?_eq_getElem hi]
    exact h _ (List.getElem_mem hi)
  exact ⟨fun i hi => (right_good (hg i hi)).1, fun i hi => (right_good (hg i hi)).2.1, fun i hi => (right_good (hg i hi)).2.2⟩
/-- Whether nothing is wrong with code that is not about one of its functions. -/
def boundB (ch : Int) (n : Nat) : Bool := witB ch 0 3 && witB n 1 6
theorem bounded_is (ch : Int) (Ac : Option Addr) (nf cc : Nat) (w : World) : Calls Tryd.prog 36 #[.agg #[.int .i64 ch, .slice Ac nf cc]] w fun e w' => e = .returned (.bool (boundB ch nf)) ∧ Below w.heap.size w w' := by
  obtain ⟨z, hz⟩ : ∃ z, z = w.heap.size := ⟨_, rfl⟩
  obtain ⟨W1, hW1⟩ : ∃ W1, W1 = w.alloc (.cells #[.int .i64 ch, .slice Ac nf cc] 25) := ⟨_, rfl⟩
  have k3 : Blk W1 z 25 #[.int .i64 ch, .slice Ac nf cc] := by rw [hW1, hz]; exact Blk.new _ _ _
  obtain ⟨c0, c1⟩ : W1.cell? ⟨z, 0, none⟩ = some (.int .i64 ch) ∧ W1.cell? ⟨z, 1, none⟩ = some (.slice Ac nf cc) := ⟨k3.cell 0, k3.cell 1⟩
  have HB1 : Hid (Below w.heap.size w W1) := Lib.hid (by rw [hW1]; exact below_new _ _)
  have HW1 := Lib.hid hW1
  have HZ := Lib.hid hz
  clear hW1 hz k3
  go_enter Tryd.func36, Tryd.ntmps36
  go_upto_region 1 with fail
  rw [← HW1.out]
  try rw [← HZ.out]
  cases h1 : witB ch 0 3
  · go_wp2_with (go_at_call 60; refine (within_is _ _ _ _).mono ?_; rintro e w2 ⟨rfl, hww⟩; rw [hww]; clear hww w2)
    go_ret
    exact ⟨by simp [boundB, h1], HB1.out⟩
  · go_wp2_with (go_at_call 60; refine (within_is _ _ _ _).mono ?_; rintro e w2 ⟨rfl, hww⟩; rw [hww]; clear hww w2)
    go_ret
    exact ⟨by simp [boundB, h1], HB1.out⟩
set_option maxRecDepth 100000 in
set_option maxHeartbeats 16000000 in
theorem heightsOf_is (ch : Int) (es : List Ent) (Ac : Option Addr) (cc : Nat) (f : Ent) (w : World) (hch : -1000000 ≤ ch ∧ ch ≤ 1000000)
    (hco : CoR w (fun b => b < w.heap.size) Ac cc es) (hbo : BodyR w (fun b => b < w.heap.size) f) (hT : ET w) (hgt : 0 < w.heap.size) :
    Calls Tryd.prog 37 #[.agg #[.int .i64 ch, .slice Ac es.length cc], .agg (entC f).toArray] w (HtsPost (hOf ch (es.map Ent.fn) f.fn) w) := by
  obtain ⟨nf, hnf⟩ : ∃ n, es.length = n := ⟨_, rfl⟩
  obtain ⟨nb, hnb⟩ : ∃ n, f.body.length = n := ⟨_, rfl⟩
  obtain ⟨p, wd, Ab, cb, body⟩ := f
  simp only at hnb
  have hnl : nb ≤ 200000 := by rw [← hnb]; exact hbo.len
  obtain ⟨z, hz⟩ : ∃ z, z = w.heap.size := ⟨_, rfl⟩
  obtain ⟨W1, hW1⟩ : ∃ W1, W1 = (w.alloc (.cells #[.int .i64 ch, .slice Ac nf cc] 25)).alloc (.cells #[.int .i64 p, .int .i64 wd, .slice Ab nb cb, .slice none 0 0] 51) := ⟨_, rfl⟩
  have hb1 : Below w.heap.size w W1 := by rw [hW1]; exact ba (below_new _ _) _
  have k3 : Blk W1 z 25 #[.int .i64 ch, .slice Ac nf cc] := by rw [hW1, hz]; exact (Blk.new _ _ _).alloc _
  have k4 : Blk W1 (z + 1) 51 #[.int .i64 p, .int .i64 wd, .slice Ab nb cb, .slice none 0 0] := by rw [hW1, hz, ← size_alloc w (.cells #[.int .i64 ch, .slice Ac nf cc] 25)]; exact Blk.new _ _ _
  obtain ⟨d0, d1, d2⟩ : W1.cell? ⟨z + 1, 0, none⟩ = some (.int .i64 p) ∧ W1.cell? ⟨z + 1, 1, none⟩ = some (.int .i64 wd) ∧ W1.cell? ⟨z + 1, 2, none⟩ = some (.slice Ab nb cb) := ⟨k4.cell 0, k4.cell 1, k4.cell 2⟩
  have HB1 := Lib.hid hb1
  have HK3 := Lib.hid k3
  have HK4 := Lib.hid k4
  have HNF := Lib.hid hnf
  have HNB := Lib.hid hnb
  have HCO := Lib.hid (hco.next hb1)
  have HBO := Lib.hid (hbo.next hb1)
  have HT := Lib.hid (hT.below hb1 hgt)
  have HGT : Hid (0 < W1.heap.size) := Lib.hid (Nat.lt_of_lt_of_le hgt hb1.size)
  have HW1 := Lib.hid hW1
  have HZ := Lib.hid hz
  obtain ⟨o, ho⟩ : ∃ o, o = hOf ch (es.map Ent.fn) (Ent.fn ⟨p, wd, Ab, cb, body⟩) := ⟨_, rfl⟩
  rw [← ho, hnf]
  have hargs : (entC ⟨p, wd, Ab, cb, body⟩).toArray = #[.int .i64 p, .int .i64 wd, .slice Ab nb cb, .slice none 0 0] := by rw [← hnb]; rfl
  rw [hargs]
  have HO : Hid (o = if witB p 0 3 && witB wd p 24 && witB nb 1 2048 && body.all (rightB ch (es.map Ent.fn) wd nb) then hts body else none) := Lib.hid (by rw [ho, ← hnb]; rfl)
  clear hb1 k3 k4 hco hbo hW1 hz ho hargs hT hgt hnf hnb
  go_enter Tryd.func37, Tryd.ntmps37
  go_upto_region 1 with fail
  have e11 : (w.alloc (.cells #[.int .i64 ch, .slice Ac nf cc] 25)).heap.size = z + 1 := by rw [HZ.out]; simp
  try rw [e11]
  rw [← HW1.out]
  try rw [← HZ.out]
  clear e11
  cases h1 : witB p 0 3
  · have ho : o = none := by rw [HO.out, h1]; rfl
    subst ho
    go_wp2_with (go_at_call 60; refine (within_is _ _ _ _).mono ?_; rintro e w2 ⟨rfl, hww⟩; rw [hww]; clear hww w2)
    go_ret
    exact ⟨rfl, HB1.out⟩
  · cases h2 : witB wd p 24
    · have ho : o = none := by rw [HO.out, h1, h2]; rfl
      subst ho
      go_wp2_with (go_at_call 60; refine (within_is _ _ _ _).mono ?_; rintro e w2 ⟨rfl, hww⟩; rw [hww]; clear hww w2)
      go_ret
      exact ⟨rfl, HB1.out⟩
    · cases h3 : witB nb 1 2048
      · have ho : o = none := by rw [HO.out, h1, h2, h3]; rfl
        subst ho
        go_wp2_with (go_at_call 60; refine (within_is _ _ _ _).mono ?_; rintro e w2 ⟨rfl, hww⟩; rw [hww]; clear hww w2)
        go_ret
        exact ⟨rfl, HB1.out⟩
      · have hwd : 0 ≤ wd ∧ wd ≤ 1000000 := by unfold witB at h1 h2; simp at h1 h2; omega
        have hn1 : 1 ≤ nb ∧ nb ≤ 2048 := by unfold witB at h3; simp at h3; omega
        have HO2 : Hid (o = if body.all (rightB ch (es.map Ent.fn) wd nb) then hts body else none) := Lib.hid (by rw [HO.out, h1, h2, h3]; rfl)
        go_wp2_with (go_at_call 60; refine (within_is _ _ _ _).mono ?_; rintro e w2 ⟨rfl, hww⟩; rw [hww]; clear hww w2)
        clear h1 h2 h3 d0 d1 d2
        go_loopw [29] (fun s wr => ∃ i : Nat, i ≤ nb ∧ s = .int .i64 i ∧ Hid (Below W1.heap.size W1 wr ∧ ∀ j, j < i → rightB ch (es.map Ent.fn) wd nb (insAt body j) = true)) (fun s _ => nb - (intOf s).toNat)
        case atStart => exact ⟨0, Nat.zero_le _, rfl, Below.refl _ _, fun j hj => absurd hj (Nat.not_lt_zero j)⟩
        case round =>
          obtain ⟨i, hi, rfl, HI⟩ := hrel
          by_cases hlt : i < nb
          · have hlt2 : (i : Int) < nb := by omega
            have hib : (0 : Int) ≤ (i : Int) ∧ (i : Int) < (nb : Int) := ⟨by omega, hlt2⟩
            obtain ⟨ab, ob, hAb, hab, hbc⟩ := HBO.out.rd.lit (by show 0 < body.length * 3; rw [HNB.out]; omega)
            simp only at hAb
            subst hAb
            obtain ⟨xi, hxi⟩ : ∃ x, insAt body i = x := ⟨_, rfl⟩
            have hxg : body[i]? = some xi := by rw [← hxi]; unfold insAt; rw [List.getElem?_eq_getElem (by rw [HNB.out]; exact hlt)]; rfl
            have e : ∀ j v, (insC xi)[j]? = some v → wr.cell? ⟨ab, ob + i * 3 + j, none⟩ = some v := fun j v hv => by
              have h1 := hbc _ _ (insCs_get body i xi hxg j v hv)
              rw [← Nat.add_assoc] at h1
              exact (HI.out.1.cell (p := ⟨ab, ob + i * 3 + j, none⟩) hab).trans h1
            obtain ⟨i1, i2, i3⟩ : wr.cell? ⟨ab, ob + i * 3, none⟩ = some (.int .i64 xi.op) ∧ wr.cell? ⟨ab, ob + i * 3 + 1, none⟩ = some (.int .i64 xi.a) ∧ wr.cell? ⟨ab, ob + i * 3 + 2, none⟩ = some (.int .i64 xi.b) := ⟨e 0 _ rfl, e 1 _ rfl, e 2 _ rfl⟩
            have HXI := Lib.hid hxi
            clear hxg e hbc hxi
            go_upto_region 6 with fail
            obtain ⟨W6, hW6⟩ : ∃ W6, W6 = wr.alloc (.cells #[.int .i64 xi.op, .int .i64 xi.a, .int .i64 xi.b] 54) := ⟨_, rfl⟩
            obtain ⟨y, hy⟩ : ∃ y, y = wr.heap.size := ⟨_, rfl⟩
            have k5 : Blk W6 y 54 #[.int .i64 xi.op, .int .i64 xi.a, .int .i64 xi.b] := by rw [hW6, hy]; exact Blk.new _ _ _
            have hb6 : Below W1.heap.size W1 W6 := by rw [hW6]; exact ba HI.out.1 _
            obtain ⟨q, hq⟩ : ∃ q, rightB ch (es.map Ent.fn) wd nb xi = q := ⟨_, rfl⟩
            have FR : Hid (Calls Tryd.prog 61 #[.agg #[.int .i64 ch, .slice Ac nf cc], .agg #[.int .i64 p, .int .i64 wd, .slice (some ⟨ab, ob, none⟩) nb cb, .slice none 0 0], .agg #[.int .i64 xi.op, .int .i64 xi.a, .int .i64 xi.b]] W6 fun e w' => e = .returned (.bool q) ∧ Below W6.heap.size W6 w') := Lib.hid (by
              rw [← hq, ← HNF.out]
              exact right_is ch es Ac cc p wd (some ⟨ab, ob, none⟩) nb cb (.slice none 0 0) xi W6 hch hwd (by omega) (HCO.out.next hb6))
            obtain ⟨m0, m1, m2⟩ : W6.cell? ⟨y, 0, none⟩ = some (.int .i64 xi.op) ∧ W6.cell? ⟨y, 1, none⟩ = some (.int .i64 xi.a) ∧ W6.cell? ⟨y, 2, none⟩ = some (.int .i64 xi.b) := ⟨k5.cell 0, k5.cell 1, k5.cell 2⟩
            obtain ⟨a0, a1⟩ : W6.cell? ⟨z, 0, none⟩ = some (.int .i64 ch) ∧ W6.cell? ⟨z, 1, none⟩ = some (.slice Ac nf cc) := ⟨(HK3.out.below hb6 HK3.out.lt).cell 0, (HK3.out.below hb6 HK3.out.lt).cell 1⟩
            have k4 := HK4.out.below hb6 HK4.out.lt
            obtain ⟨b0, b1, b2, b3⟩ : W6.cell? ⟨z + 1, 0, none⟩ = some (.int .i64 p) ∧ W6.cell? ⟨z + 1, 1, none⟩ = some (.int .i64 wd) ∧ W6.cell? ⟨z + 1, 2, none⟩ = some (.slice (some ⟨ab, ob, none⟩) nb cb) ∧ W6.cell? ⟨z + 1, 3, none⟩ = some (.slice none 0 0) := ⟨k4.cell 0, k4.cell 1, k4.cell 2, k4.cell 3⟩
            rw [← hW6, ← hy]
            have HQ := Lib.hid hq
            have HB6 := Lib.hid hb6
            clear k4 k5 hW6 hy hq hb6 i1 i2 i3
            cases q
            · have ho : o = none := by
                rw [HO2.out, if_neg]
                rw [List.all_eq_true]
                intro hh
                have := hh xi (by rw [← HXI.out]; unfold insAt; rw [List.getElem?_eq_getElem (by rw [HNB.out]; exact hlt)]; exact List.getElem_mem _)
                rw [HQ.out] at this; cases this
              subst ho
              go_wp2_with (go_at_call 61; refine FR.out.mono ?_; rintro e w7 ⟨rfl, hb7⟩)
              go_ret
              exact ⟨rfl, bt HB1.out (bt HB6.out hb7)⟩
            · go_wp2_with (go_at_call 61; refine FR.out.mono ?_; rintro e w7 ⟨rfl, hb7⟩)
              go_roundw
              case rel =>
                refine ⟨i + 1, by omega, by go_num, bt HB6.out hb7, fun j hj => ?_⟩
                rcases Nat.lt_or_ge j i with h | h
                · exact HI.out.2 j h
                · have : j = i := by omega
                  rw [this, HXI.out]; exact HQ.out
              case measure => simp [intOf]; omega
          · have hie : i = nb := by omega
            subst hie
            have hall : body.all (rightB ch (es.map Ent.fn) wd i) = true := by
              rw [List.all_eq_true]
              intro x hx
              obtain ⟨j, hj, rfl⟩ := List.getElem_of_mem hx
              have := HI.out.2 j (by rw [← HNB.out]; exact hj)
              unfold insAt at this
              rw [List.getElem?_eq_getElem hj] at this
              exact this
            have HG : Hid (o = hts body) := Lib.hid (by rw [HO2.out, hall]; rfl)
            have FH : Hid (Calls Tryd.prog 62 #[.slice Ab i cb] wr (HtsPost o wr)) := Lib.hid (by
              rw [HG.out, ← HNB.out]
              exact heights_is body (all_good (by rw [HNB.out]; exact hall)) Ab cb wr (HBO.out.next HI.out.1).rd (by rw [HNB.out]; exact hn1) (HT.out.below HI.out.1 HGT.out) (Nat.lt_of_lt_of_le HGT.out HI.out.1.size))
            have d2 : wr.cell? ⟨z + 1, 2, none⟩ = some (.slice Ab i cb) := (HK4.out.below HI.out.1 HK4.out.lt).cell 2
            clear hall
            clear HO HO2 HG
            cases o with
            | none =>
              go_wp2_with (go_at_call 62; refine FH.out.mono ?_; rintro e w5 ⟨rfl, hb5⟩)
              go_ret
              exact ⟨rfl, bt HB1.out (bt HI.out.1 hb5)⟩
            | some hs =>
              go_wp2_with (go_at_call 62; refine FH.out.mono ?_; rintro e w5 ⟨A5, c5, rfl, h5, hb5⟩)
              go_ret
              exact ⟨A5, c5, rfl, own_lower h5 (bt HB1.out HI.out.1).size, bt HB1.out (bt HI.out.1 hb5)⟩
end Go.Proofs.YtbdknncmlcbbpaaDoor

/-
  The reference's Copy of code.
-/
namespace Go.Proofs.YtbdknncmlcbbpaaDoor
open Go.RowKit WM TR KM

/-- A function whose instructions lie in a row of one's own. -/
structure OwnB (w : World) (B : Nat) (R : Nat → Prop) (e : Ent) : Prop where
  own : w.ownsRow B 54 3 (.slice e.A e.body.length e.c) e.body.length (insCs e.body)
  sep : ∀ b, (Value.slice e.A e.body.length e.c).ownBlock = some b → R b
  len : e.body.length ≤ 200000
  ok : ∀ x ∈ e.body, okI x
  rp : inRange e.p
  rw_ : inRange e.w
theorem own_keep {w w' : World} {B : Nat} {t : TypeId} {size n : Nat} {v : Value} {xs : List Value} (h : w.ownsRow B t size v n xs) (hk : ∀ b, v.ownBlock = some b → w'.heap[b]? = w.heap[b]?) : w'.ownsRow B t size v n xs := by
  obtain ⟨h1, h2 | ⟨g, cap, cur, hv, hb, hg, rest⟩⟩ := h
  · exact ⟨h1, .inl h2⟩
  · exact ⟨h1, .inr ⟨g, cap, cur, hv, hb, (hk g (by rw [hv]; rfl)).trans hg, rest⟩⟩
theorem OwnB.keep {w w' : World} {B : Nat} {R R' : Nat → Prop} {e : Ent} (h : OwnB w B R e) (hk : ∀ b, R b → w'.heap[b]? = w.heap[b]?) (hR : ∀ b, R b → R' b) : OwnB w' B R' e :=
  ⟨own_keep h.own fun b hb => hk b (h.sep b hb), fun b hb => hR b (h.sep b hb), h.len, h.ok, h.rp, h.rw_⟩
theorem OwnB.body {w : World} {B : Nat} {R : Nat → Prop} {e : Ent} (h : OwnB w B R e) : BodyR w R e := by
  have hr := Rd.of_own h.own
  obtain ⟨_, _, e1, hc⟩ := own_len h.own
  cases e1
  exact ⟨⟨hr.1, fun hn => by obtain ⟨a, ha, _, hcell⟩ := hr.2 hn; exact ⟨a, ha, h.sep a.block (by rw [ha]; rfl), hcell⟩⟩, hc, h.len, h.ok, h.rp, h.rw_⟩
/-- A code whose row of functions is one's own: it can grow, and its cells can be put anew. -/
structure OwnCo (w : World) (B : Nat) (A : Option Addr) (c : Nat) (es : List Ent) : Prop where
  own : w.ownsRow B 51 4 (.slice A es.length c) es.length (entsC es)
  bod : ∀ e ∈ es, OwnB w B (fun b => B ≤ b ∧ b < w.heap.size ∧ (Value.slice A es.length c).ownBlock ≠ some b) e
  len : es.length ≤ 200000
theorem OwnCo.co {w : World} {B : Nat} {A : Option Addr} {c : Nat} {es : List Ent} (h : OwnCo w B A c es) : CoR w (fun b => B ≤ b ∧ b < w.heap.size) A c es := by
  have hr := Rd.of_own h.own
  obtain ⟨_, _, e, hc⟩ := own_len h.own
  cases e
  exact ⟨hr, hc, h.len, fun e he => (h.bod e he).body.keep (Keeps.refl _ _) fun _ hb => ⟨hb.1, hb.2.1⟩⟩
theorem OwnCo.next {w w' : World} {B : Nat} {A : Option Addr} {c : Nat} {es : List Ent} (h : OwnCo w B A c es) (hb : Below w.heap.size w w') : OwnCo w' B A c es :=
  ⟨ownsRow_below h.own hb, fun e he => (h.bod e he).keep (fun b hb' => hb.block b hb'.2.1) (fun _ hb' => ⟨hb'.1, Nat.lt_of_lt_of_le hb'.2.1 hb.size, hb'.2.2⟩), h.len⟩
/-- What Copy leaves. -/
def CopyPost (ch : Int) (es : List Ent) (w : World) (e : Ending) (w' : World) : Prop :=
  ∃ fs A' c', e = .returned (.agg #[.int .i64 ch, .slice A' fs.length c']) ∧ OwnCo w' w.heap.size A' c' fs ∧ Below w.heap.size w w' ∧ fs.map Ent.fn = es.map Ent.fn
/-- The loop. -/
structure Cp (w : World) (B : Nat) (ch : Int) (nf : Nat) (Ac : Option Addr) (cc : Nat) (es : List Ent) (wr : World) (i : Nat) (fs : List Ent) (A1 : Option Addr) (c1 : Nat) : Prop where
  low : B = w.heap.size
  inn : Blk wr B 25 #[.int .i64 ch, .slice Ac nf cc]
  res : Blk wr (B + 1) 25 #[.int .i64 0, .slice none 0 0]
  out : Blk wr (B + 2) 25 #[.int .i64 ch, .slice A1 i c1]
  own : wr.ownsRow (B + 3) 51 4 (.slice A1 i c1) i (entsC fs)
  bod : ∀ e ∈ fs, OwnB wr (B + 3) (fun b => B + 3 ≤ b ∧ b < wr.heap.size ∧ (Value.slice A1 i c1).ownBlock ≠ some b) e
  len : fs.length = i
  map : fs.map Ent.fn = (es.take i).map Ent.fn
  below : Below w.heap.size w wr
theorem Cp.size {w : World} {B : Nat} {ch : Int} {nf : Nat} {Ac : Option Addr} {cc : Nat} {es : List Ent} {wr : World} {i : Nat} {fs : List Ent} {A1 : Option Addr} {c1 : Nat} (h : Cp w B ch nf Ac cc es wr i fs A1 c1) : B + 3 ≤ wr.heap.size := by have := h.out.lt; omega
theorem Cp.next {w : World} {B : Nat} {ch : Int} {nf : Nat} {Ac : Option Addr} {cc : Nat} {es : List Ent} {wr W : World} {i : Nat} {fs : List Ent} {A1 : Option Addr} {c1 : Nat} (h : Cp w B ch nf Ac cc es wr i fs A1 c1) (hb : Below wr.heap.size wr W) : Cp w B ch nf Ac cc es W i fs A1 c1 :=
  ⟨h.low, h.inn.below hb h.inn.lt, h.res.below hb h.res.lt, h.out.below hb h.out.lt, ownsRow_below h.own hb, fun e he => (h.bod e he).keep (fun b hb' => hb.block b hb'.2.1) (fun b hb' => ⟨hb'.1, Nat.lt_of_lt_of_le hb'.2.1 hb.size, hb'.2.2⟩), h.len, h.map, bt h.below hb⟩
theorem Cp.step {w : World} {B : Nat} {ch : Int} {nf : Nat} {Ac : Option Addr} {cc : Nat} {es : List Ent} {wr W8 w4 : World} {i : Nat} {fs : List Ent} {A1 A4 : Option Addr} {c1 c4 : Nat} {o : Obj} {en e' : Ent} (h : Cp w B ch nf Ac cc es wr i fs A1 c1) (h8 : Below wr.heap.size wr W8)
    (hbo : OwnB W8 (B + 3) (fun b => wr.heap.size ≤ b ∧ b < W8.heap.size) e') (hfn : e'.fn = en.fn) (hen : es[i]? = some en)
    (hg : (W8.alloc o).grownBy w4 (Value.slice A1 i c1).ownBlock) (ho : w4.ownsRow (B + 3) 51 4 (.slice A4 (i + 1) c4) (i + 1) (entsC fs ++ entC e'))
    (hn : (Value.slice A4 (i + 1) c4).ownBlock = (Value.slice A1 i c1).ownBlock ∨ (Value.slice A4 (i + 1) c4).ownBlock = some (W8.alloc o).heap.size) :
    Cp w B ch nf Ac cc es (w4.setCell ⟨B + 2, 1, none⟩ (.slice A4 (i + 1) c4)) (i + 1) (fs ++ [e']) A4 c4 := by
  have hk := h.next h8
  have hlt := hk.own.lt
  have hlt0 := h.own.lt
  have hi := (hk.inn.alloc o).grown hg (fun e => by have := (hlt _ e.symm).1; omega)
  have hr := (hk.res.alloc o).grown hg (fun e => by have := (hlt _ e.symm).1; omega)
  have hu := (hk.out.alloc o).grown hg (fun e => by have := (hlt _ e.symm).1; omega)
  have hs := h.size
  have hs8 := h8.size
  have hs4 := hg.size
  rw [size_alloc] at hs4 hn
  have hkeep : ∀ b, b < W8.heap.size → (Value.slice A1 i c1).ownBlock ≠ some b → b ≠ B + 2 → (w4.setCell ⟨B + 2, 1, none⟩ (.slice A4 (i + 1) c4)).heap[b]? = W8.heap[b]? := fun b hb h1 h2 => by
    rw [Below.heap_setCell w4 ⟨B + 2, 1, none⟩ _ b h2]
    exact (hg.block b (by rw [size_alloc]; omega) (fun e => h1 e.symm)).trans ((below_new W8 o).block b hb)
  have hnew : ∀ b, b < W8.heap.size → (Value.slice A1 i c1).ownBlock ≠ some b → (Value.slice A4 (i + 1) c4).ownBlock ≠ some b := fun b hb h1 h2 => by
    rcases hn with h3 | h3
    · exact h1 (h3 ▸ h2)
    · rw [h3] at h2; injection h2 with h2; omega
  have hsz : (w4.setCell ⟨B + 2, 1, none⟩ (.slice A4 (i + 1) c4)).heap.size = w4.heap.size := World.size_setCell _ _ _
  refine ⟨h.low, hi.far (by show B ≠ B + 2; omega) _, hr.far (by show B + 1 ≠ B + 2; omega) _, ?_, ?_, fun e he => ?_, by simp [h.len], ?_, ?_⟩
  · have := hu.set_ 1 (.slice A4 (i + 1) c4)
    simpa using this
  · have h2 := ownsRow_setCell_other ho (a := ⟨B + 2, 1, none⟩) (fun e => by have h3 : B + 3 ≤ B + 2 := (ho.lt _ e).1; omega) (.slice A4 (i + 1) c4)
    rw [entsC_append]
    simpa [entsC] using h2
  · rcases List.mem_append.1 he with he | he
    · exact (hk.bod e he).keep (fun b hb' => hkeep b hb'.2.1 hb'.2.2 (by have := hb'.1; omega)) (fun b hb' => ⟨hb'.1, by rw [hsz]; have := hb'.2.1; omega, hnew b hb'.2.1 hb'.2.2⟩)
    · rw [List.mem_singleton.1 he]
      have hold : ∀ b, wr.heap.size ≤ b → (Value.slice A1 i c1).ownBlock ≠ some b := fun _ hb e => by have := (hlt0 _ e).2; omega
      exact hbo.keep (fun b hb' => hkeep b hb'.2 (hold b hb'.1) (by have := hb'.1; omega)) (fun b hb' => ⟨by have := hb'.1; omega, by rw [hsz]; have := hb'.2; omega, hnew b hb'.2 (hold b hb'.1)⟩)
  · rw [List.map_append, h.map, List.take_add_one, hen, List.map_append]
    simp [hfn]
  · exact below_set (below_row hk.below hg fun b e => by have := (hlt b e).1; have := h.low; omega) (by have := h.low; omega) 1 _
theorem Cp.co {w : World} {B : Nat} {ch : Int} {nf : Nat} {Ac : Option Addr} {cc : Nat} {es : List Ent} {wr : World} {i : Nat} {fs : List Ent} {A1 : Option Addr} {c1 : Nat} (h : Cp w B ch nf Ac cc es wr i fs A1 c1) (hn : i ≤ 200000) : OwnCo wr (B + 3) A1 c1 fs := by
  have hl := h.len
  subst hl
  exact ⟨h.own, h.bod, hn⟩
set_option maxRecDepth 100000 in
set_option maxHeartbeats 8000000 in
theorem copy_is (ch : Int) (es : List Ent) (Ac : Option Addr) (cc : Nat) (w : World) (hco : CoR w (fun b => b < w.heap.size) Ac cc es) :
    Calls Tryd.prog 30 #[.agg #[.int .i64 ch, .slice Ac es.length cc]] w (CopyPost ch es w) := by
  obtain ⟨i0, hi, hz0, hz1, hz2⟩ := info_parts fun_info
  obtain ⟨j0, hj, hy0, hy1, hy2⟩ := info_parts ins_info
  obtain ⟨nf, hnf⟩ : ∃ n, es.length = n := ⟨_, rfl⟩
  have hnl : nf ≤ 200000 := by rw [← hnf]; exact hco.len
  obtain ⟨B, hB⟩ : ∃ B, B = w.heap.size := ⟨_, rfl⟩
  obtain ⟨W1, hW1⟩ : ∃ W1, W1 = ((w.alloc (.cells #[.int .i64 ch, .slice Ac nf cc] 25)).alloc (.cells #[.int .i64 0, .slice none 0 0] 25)).alloc (.cells #[.int .i64 ch, .slice none 0 0] 25) := ⟨_, rfl⟩
  have hC0 : Cp w B ch nf Ac cc es W1 0 [] none 0 := by
    have e2 : w.heap.size + 2 = ((w.alloc (.cells #[.int .i64 ch, .slice Ac nf cc] 25)).alloc (.cells #[.int .i64 0, .slice none 0 0] 25)).heap.size := by simp
    refine ⟨hB, by rw [hW1, hB]; exact ((Blk.new _ _ _).alloc _).alloc _, ?_, ?_, World.ownsRow_nil _ _ _ _, fun e he => (by cases he), rfl, by simp, by rw [hW1]; exact ba (ba (below_new _ _) _) _⟩
    · rw [hW1, hB, ← size_alloc w (.cells #[.int .i64 ch, .slice Ac nf cc] 25)]; exact (Blk.new _ _ _).alloc _
    · rw [hW1, hB, e2]; exact Blk.new _ _ _
  have HC0 := Lib.hid hC0
  have HNF := Lib.hid hnf
  have HCO := Lib.hid hco
  have HB := Lib.hid hB
  have c0 : (w.alloc (.cells #[.int .i64 ch, .slice Ac nf cc] 25)).cell? ⟨w.heap.size, 0, none⟩ = some (.int .i64 ch) := (Blk.new w 25 #[.int .i64 ch, .slice Ac nf cc]).cell 0
  have HW1 := Lib.hid hW1
  obtain ⟨P, hP⟩ : ∃ P, P = CopyPost ch es w := ⟨_, rfl⟩
  rw [← hP, hnf]
  have HP := Lib.hid hP
  clear hC0 hnf hco hW1 hP
  go_enter Tryd.func30, Tryd.ntmps30
  go_upto_region 2 with fail
  have e11 : (w.alloc (.cells #[.int .i64 ch, .slice Ac nf cc] 25)).heap.size = B + 1 := by rw [hB]; simp
  have e12 : ((w.alloc (.cells #[.int .i64 ch, .slice Ac nf cc] 25)).alloc (.cells #[.int .i64 0, .slice none 0 0] 25)).heap.size = B + 2 := by rw [hB]; simp
  try rw [e11]
  try rw [e12]
  rw [← HW1.out]
  try rw [← hB]
  clear e11 e12 hB c0
  go_wp2_with fail
  go_loopw [4] (fun s wr => ∃ (i : Nat) (fs : List Ent) (A1 : Option Addr) (c1 : Nat), i ≤ nf ∧ s = .int .i64 i ∧ Hid (Cp w B ch nf Ac cc es wr i fs A1 c1)) (fun s _ => nf - (intOf s).toNat)
  case atStart => exact ⟨0, [], none, 0, Nat.zero_le _, rfl, HC0.out⟩
  case round =>
    obtain ⟨i, fs, A1, c1, hi', rfl, HI⟩ := hrel
    clear HC0
    have b1 : wr.cell? ⟨B, 1, none⟩ = some (.slice Ac nf cc) := HI.out.inn.cell 1
    by_cases hlt : i < nf
    · have hlt2 : (i : Int) < nf := by omega
      have hib : (0 : Int) ≤ (i : Int) ∧ (i : Int) < (nf : Int) := ⟨by omega, hlt2⟩
      obtain ⟨aA, oA, hAc, hA1, hA2⟩ := HCO.out.rd.lit (by rw [HNF.out]; omega)
      subst hAc
      obtain ⟨en, hen⟩ : ∃ en, es[i]? = some en := ⟨_, List.getElem?_eq_getElem (by rw [HNF.out]; exact hlt)⟩
      have hmem : en ∈ es := List.mem_of_getElem? hen
      have ee : ∀ j v, (entC en)[j]? = some v → wr.cell? ⟨aA, oA + i * 4 + j, none⟩ = some v := fun j v hv => by
        have h1 := hA2 _ _ (entsC_get es i en hen j v hv)
        rw [← Nat.add_assoc] at h1
        exact (HI.out.below.cell (p := ⟨aA, oA + i * 4 + j, none⟩) hA1).trans h1
      obtain ⟨f0, f1, f2, f3⟩ : wr.cell? ⟨aA, oA + i * 4, none⟩ = some (.int .i64 en.p) ∧ wr.cell? ⟨aA, oA + i * 4 + 1, none⟩ = some (.int .i64 en.w) ∧ wr.cell? ⟨aA, oA + i * 4 + 2, none⟩ = some (.slice en.A en.body.length en.c) ∧ wr.cell? ⟨aA, oA + i * 4 + 3, none⟩ = some (.slice none 0 0) := ⟨ee 0 _ rfl, ee 1 _ rfl, ee 2 _ rfl, ee 3 _ rfl⟩
      have HBO := Lib.hid ((HCO.out.all en hmem).next HI.out.below)
      have HEN := Lib.hid hen
      clear ee hA2 hen hmem
      go_upto_region 6 with fail
      obtain ⟨W5, hW5⟩ : ∃ W, W = wr.alloc (.cells #[.int .i64 en.p, .int .i64 en.w, .slice en.A en.body.length en.c, .slice none 0 0] 51) := ⟨_, rfl⟩
      obtain ⟨g, hg⟩ : ∃ g, g = wr.heap.size := ⟨_, rfl⟩
      have k5 : Blk W5 g 51 #[.int .i64 en.p, .int .i64 en.w, .slice en.A en.body.length en.c, .slice none 0 0] := by rw [hW5, hg]; exact Blk.new _ _ _
      have hb5 : Below wr.heap.size wr W5 := by rw [hW5]; exact below_new _ _
      have hs5 : W5.heap.size = g + 1 := by rw [hW5, hg]; simp
      have m2 : (W5.alloc (.cells #[] 54)).cell? ⟨g, 2, none⟩ = some (.slice en.A en.body.length en.c) := (k5.alloc _).cell 2
      rw [← hW5, ← hg]
      have HB5 := Lib.hid hb5
      have HS5 := Lib.hid hs5
      have HG := Lib.hid hg
      have HK5 := Lib.hid k5
      have HB5N := Lib.hid (HBO.out.next hb5)
      clear k5 hW5 hg hb5 hs5 f0 f1 f2 f3 b1
      have hbl := HBO.out.len
      go_upto_region 7 with (at_builtin; go_loud (refine wpList_append_any _ rfl (.tmp 21) (.tmp 23) 49 rfl W5.heap.size 54 j0 _ 3 24 Tryd.underlying49 hj hy0 hy1 hy2 rfl (by omega) _ 0 [] rfl (own_lit (xs := []) (n := 0) (Nat.le_refl _) rfl (len_le (by omega))) _ en.A en.body.length en.c (insCs en.body) rfl ((HB5N.out.next (below_new W5 (.cells #[] 54))).rd.reads (fun _ h => h)) (insCs_one en.body) (len_le (by omega)) (by omega) (by simp) ?_; intro v7 w7 hown7 hgrow7 _; obtain ⟨A7, c7, hv7, hcap7⟩ := own_len hown7; rw [Nat.zero_add] at hv7 hcap7; subst hv7; have hb7 : Below W5.heap.size W5 w7 := (below_row (Below.refl _ _) hgrow7 (fun b hb => Nat.le_of_eq (Option.some.inj hb))); have k7 := HK5.out.below hb7 HK5.out.lt; have f7 := k7.frozen 2; have m7 := k7.cell 2; have HO7 := Lib.hid hown7; have HB7 := Lib.hid hb7; have HK7 := Lib.hid k7; clear hown7 hgrow7 hb7 k7 m2))
      obtain ⟨W8, hW8⟩ : ∃ W, W = w7.setCell ⟨g, 2, none⟩ (.slice A7 en.body.length c7) := ⟨_, rfl⟩
      obtain ⟨e', he'⟩ : ∃ e' : Ent, e' = ⟨en.p, en.w, A7, c7, en.body⟩ := ⟨_, rfl⟩
      have hs8 : W8.heap.size = w7.heap.size := by rw [hW8]; exact World.size_setCell _ _ _
      have hb8 : Below wr.heap.size wr W8 := by rw [hW8]; exact (bt HB5.out HB7.out).setCell (p := ⟨g, 2, none⟩) (Nat.le_of_eq HG.out.symm) _
      have k8 : Blk W8 g 51 #[.int .i64 en.p, .int .i64 en.w, .slice A7 en.body.length c7, .slice none 0 0] := by
        rw [hW8]
        have := HK7.out.set_ 2 (.slice A7 en.body.length c7)
        simpa using this
      have hbo8 : OwnB W8 (B + 3) (fun b => wr.heap.size ≤ b ∧ b < W8.heap.size) e' := by
        rw [he']
        have h7 := HO7.out
        rw [Nat.zero_add, List.nil_append] at h7
        have h8 : W8.ownsRow W5.heap.size 54 3 (.slice A7 en.body.length c7) en.body.length (insCs en.body) := by
          rw [hW8]
          exact ownsRow_setCell_other h7 (a := ⟨g, 2, none⟩) (fun e => by have h3 : W5.heap.size ≤ g := (h7.lt _ e).1; have := HS5.out; omega) _
        exact ⟨own_lower h8 (by have h1 := HI.out.size; have h2 := HB5.out.size; omega), fun b hb => ⟨Nat.le_trans HB5.out.size (h8.lt b hb).1, (h8.lt b hb).2⟩, hbl, HBO.out.ok, HBO.out.rp, HBO.out.rw_⟩
      have hC8 := HI.out.next hb8
      have hfn : e'.fn = en.fn := by rw [he']; rfl
      obtain ⟨n0, n1, n2, n3⟩ : W8.cell? ⟨g, 0, none⟩ = some (.int .i64 en.p) ∧ W8.cell? ⟨g, 1, none⟩ = some (.int .i64 en.w) ∧ W8.cell? ⟨g, 2, none⟩ = some (.slice A7 en.body.length c7) ∧ W8.cell? ⟨g, 3, none⟩ = some (.slice none 0 0) := ⟨k8.cell 0, k8.cell 1, k8.cell 2, k8.cell 3⟩
      have o1 : W8.cell? ⟨B + 2, 1, none⟩ = some (.slice A1 i c1) := hC8.out.cell 1
      rw [← hW8]
      have HC8 := Lib.hid hC8
      have HB8 := Lib.hid hb8
      have HBO8 := Lib.hid hbo8
      have HFN := Lib.hid hfn
      have HE' := Lib.hid he'
      clear hs8 hb8 k8 hbo8 hC8 hfn he' hW8 f7 m7
      go_wp2_with (at_builtin; go_loud (refine wpList_append_any _ rfl (.tmp 27) (.tmp 29) 23 rfl (B + 3) 51 i0 _ 4 64 Tryd.underlying23 hi hz0 hz1 hz2 rfl (by omega) (.slice A1 i c1) i (entsC fs) rfl (HC8.out.own.alloc _) _ (some ⟨W8.heap.size, 0, none⟩) 1 1 (entC ⟨en.p, en.w, A7, c7, en.body⟩) rfl (fun_new W8 ⟨en.p, en.w, A7, c7, en.body⟩) (entC_one _) (len_le (by omega)) (by omega) (by have := HC8.out.size; rw [size_alloc]; omega) ?_; intro v4 w4 hown4 hgrow4 hnew4; obtain ⟨A4, c4, rfl, _⟩ := own_len hown4; have HN4 := Lib.hid (HI.out.step HB8.out HBO8.out HFN.out HEN.out hgrow4 (by rw [HE'.out]; exact hown4) hnew4); have k4 : Blk w4 (B + 2) 25 #[.int .i64 ch, .slice A1 i c1] := (HC8.out.out.alloc _).grown hgrow4 (fun e => by have := (HC8.out.own.lt _ e.symm).1; omega); have x1 := k4.cell 1; have y1 := k4.frozen 1; simp only [List.getElem?_toArray, List.getElem?_cons_zero, List.getElem?_cons_succ] at x1; clear hown4 hgrow4 hnew4 k4))
      go_roundw
      case rel => exact ⟨i + 1, fs ++ [e'], A4, c4, by omega, by go_num, HN4.out⟩
      case measure => simp [intOf]; omega
    · have hie : i = nf := by omega
      subst hie
      have z0 := HI.out.out.cell 0
      have z1 := HI.out.out.cell 1
      have r0 := HI.out.res.cell 0
      have r1 := HI.out.res.cell 1
      have q0 := HI.out.res.frozen 0
      have q1 := HI.out.res.frozen 1
      simp only [List.getElem?_toArray, List.getElem?_cons_zero, List.getElem?_cons_succ] at z0 z1 r0 r1
      have HCF := Lib.hid (HI.out.co hnl)
      go_wp2_with fail
      rw [HP.out]
      refine bodyPost_ret (v := .agg #[.int .i64 ch, .slice A1 i c1]) (by simp [results, Tryd.results30, go_sem, r0, r1]) rfl ⟨fs, A1, c1, by rw [HI.out.len], ?_, ?_, by rw [HI.out.map, ← HNF.out, List.take_length]⟩
      · have hlow := HI.out.low
        have h0 := HCF.out
        have hsz : ∀ (u1 u2 : Value), ((wr.setCell ⟨B + 1, 0, none⟩ u1).setCell ⟨B + 1, 1, none⟩ u2).heap.size = wr.heap.size := fun _ _ => by simp
        refine ⟨?_, fun e he => ?_, h0.len⟩
        · have h1 := ownsRow_setCell_other (ownsRow_setCell_other h0.own (a := ⟨B + 1, 0, none⟩) (fun e => by have h3 : B + 3 ≤ B + 1 := (h0.own.lt _ e).1; omega) (.int .i64 ch)) (a := ⟨B + 1, 1, none⟩) (fun e => by have h3 : B + 3 ≤ B + 1 := (h0.own.lt _ e).1; omega) (.slice A1 i c1)
          exact own_lower h1 (by omega)
        · have h1 := (h0.bod e he).keep (w' := (wr.setCell ⟨B + 1, 0, none⟩ (.int .i64 ch)).setCell ⟨B + 1, 1, none⟩ (.slice A1 i c1)) (R' := fun b => w.heap.size ≤ b ∧ b < ((wr.setCell ⟨B + 1, 0, none⟩ (.int .i64 ch)).setCell ⟨B + 1, 1, none⟩ (.slice A1 i c1)).heap.size ∧ (Value.slice A1 fs.length c1).ownBlock ≠ some b) (fun b hb => by rw [Below.heap_setCell _ ⟨B + 1, 1, none⟩ _ b (by have := hb.1; show b ≠ B + 1; omega), Below.heap_setCell _ ⟨B + 1, 0, none⟩ _ b (by have := hb.1; show b ≠ B + 1; omega)]) (fun b hb => ⟨by have := hb.1; omega, by rw [hsz]; exact hb.2.1, hb.2.2⟩)
          exact ⟨own_lower h1.own (by omega), h1.sep, h1.len, h1.ok, h1.rp, h1.rw_⟩
      · have := HI.out.low
        exact below_set (below_set HI.out.below (by omega) _ _) (by omega) _ _
end Go.Proofs.YtbdknncmlcbbpaaDoor
