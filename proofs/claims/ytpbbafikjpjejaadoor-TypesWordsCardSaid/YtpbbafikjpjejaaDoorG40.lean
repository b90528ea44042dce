/-
  The reference's Words.
-/
import Derived.Test.YtpbbafikjpjejaaDoorG39
import Derived.Deep.RegionHeld3
set_option linter.unusedVariables false
namespace Go.Proofs.YtpbbafikjpjejaaDoor
open Go.RowKit WM TR TY

set_option maxRecDepth 100000 in
set_option maxHeartbeats 16000000 in
theorem rwords_is : ∀ (d : Nat) (u : T) (A : Option Addr) (c : Nat) (w : World), Rep w (Lt w.heap.size) d u (nd u A c) → Calls Tryd.prog 24 #[.agg #[.int .i64 u.k, .int .i64 u.n, .int .i64 u.m, .slice A u.kids.length c]] w fun e w' => e = .returned (.int .i64 (words u)) ∧ Below w.heap.size w w'
  | 0, _, _, _, _, h => h.elim
  | d + 1, u, A, c, w, hr => by
    have ih := rwords_is d
    obtain ⟨nk, hnk⟩ : ∃ z, z = u.kids.length := ⟨_, rfl⟩
    obtain ⟨k, hk⟩ : ∃ z, z = u.k := ⟨_, rfl⟩
    obtain ⟨n, hn⟩ : ∃ z, z = u.n := ⟨_, rfl⟩
    obtain ⟨m, hm⟩ : ∃ z, z = u.m := ⟨_, rfl⟩
    obtain ⟨z, hz⟩ : ∃ z, z = w.heap.size := ⟨_, rfl⟩
    obtain ⟨W1, hW1⟩ : ∃ W, W = w.alloc (.cells #[.int .i64 k, .int .i64 n, .int .i64 m, .slice A nk c] 25) := ⟨_, rfl⟩
    have hb1 : Below w.heap.size w W1 := by rw [hW1]; exact below_new _ _
    have k1 : Blk W1 z 25 #[.int .i64 k, .int .i64 n, .int .i64 m, .slice A nk c] := by rw [hW1, hz]; exact Blk.new _ _ _
    have HK : Hid (∀ W, Below W1.heap.size W1 W → W.cell? ⟨z, 0, none⟩ = some (.int .i64 k) ∧ W.cell? ⟨z, 1, none⟩ = some (.int .i64 n) ∧ W.cell? ⟨z, 2, none⟩ = some (.int .i64 m) ∧ W.cell? ⟨z, 3, none⟩ = some (.slice A nk c)) := Lib.hid fun W hb => by
      have e := k1.below hb k1.lt
      exact ⟨e.cell 0, e.cell 1, e.cell 2, e.cell 3⟩
    obtain ⟨y0, y1, y2, y3⟩ := HK.out W1 (Below.refl _ _)
    obtain ⟨bm, h1⟩ : ∃ b, (m != 0) = b := ⟨_, rfl⟩
    obtain ⟨b0, h2⟩ : ∃ b, (k == 0) = b := ⟨_, rfl⟩
    obtain ⟨b1, h3⟩ : ∃ b, (k == 1) = b := ⟨_, rfl⟩
    obtain ⟨b2, h4⟩ : ∃ b, (k == 2) = b := ⟨_, rfl⟩
    obtain ⟨b3, h5⟩ : ∃ b, (k == 3) = b := ⟨_, rfl⟩
    obtain ⟨bn, h6⟩ : ∃ b, (n == 0) = b := ⟨_, rfl⟩
    obtain ⟨bl, h7⟩ : ∃ b, ((nk : Int) == 0) = b := ⟨_, rfl⟩
    obtain ⟨bp, h8⟩ : ∃ b, decide (1 ≤ n) = b := ⟨_, rfl⟩
    obtain ⟨bq, h9⟩ : ∃ b, decide (n ≤ 4) = b := ⟨_, rfl⟩
    obtain ⟨bx, h10⟩ : ∃ b, (n != 0) = b := ⟨_, rfl⟩
    obtain ⟨by_, h11⟩ : ∃ b, decide ((3 : Int) < (nk : Int)) = b := ⟨_, rfl⟩
    obtain ⟨bz, h12⟩ : ∃ b, decide ((0 : Int) < (nk : Int)) = b := ⟨_, rfl⟩
    obtain ⟨r, hrr⟩ : ∃ r, r = words u := ⟨_, rfl⟩
    have HR : Hid (r = if bm = true then -1 else if (b0 || b1) = true then (if (bn && bl) = true then 1 else -1) else if b2 = true then (if (bp && bq && bl) = true then n else -1) else if b3 = true then (if (bx || by_) = true then -1 else if u.kids.all single = true then (if bz = true then (nk : Int) else -1) else -1) else -1) := Lib.hid (by rw [hrr, words_eq, ← hk, ← hn, ← hm, ← hnk, h1, h2, h3, h4, h5, h6, h7, h8, h9, h10, h11, h12])
    have HN3 : Hid (by_ = false → nk ≤ 3) := Lib.hid fun h => by rw [h] at h11; have := of_decide_eq_false h11; omega
    have HRU := Lib.hid (rep_next hr hb1)
    have HW1 := Lib.hid hW1
    have HZ := Lib.hid hz
    have HB1 := Lib.hid hb1
    have HNK := Lib.hid hnk
    have HIH := Lib.hid ih
    rw [← hk, ← hn, ← hm, ← hnk, ← hrr]
    clear hk hn hm hnk hrr hW1 hz hb1 k1 hr ih
    cases bm
    case true =>
      clear h2 h3 h4 h5 h6 h7 h8 h9 h10 h11 h12
      go_enter Tryd.func24, Tryd.ntmps24
      go_upto_region 1 with fail
      rw [← HW1.out]
      try rw [← HZ.out]
      go_wp2_with fail
      go_ret
      exact ⟨ret_i (by rw [HR.out]; rfl), HB1.out⟩
    cases b0
    case true =>
      cases bn <;> cases bl
      all_goals
        clear h3 h4 h5 h8 h9 h10 h11 h12
        go_enter Tryd.func24, Tryd.ntmps24
        go_upto_region 1 with fail
        rw [← HW1.out]
        try rw [← HZ.out]
        go_wp2_with fail
        go_ret
        exact ⟨ret_i (by rw [HR.out]; rfl), HB1.out⟩
    cases b1
    case true =>
      cases bn <;> cases bl
      all_goals
        clear h4 h5 h8 h9 h10 h11 h12
        go_enter Tryd.func24, Tryd.ntmps24
        go_upto_region 1 with fail
        rw [← HW1.out]
        try rw [← HZ.out]
        go_wp2_with fail
        go_ret
        exact ⟨ret_i (by rw [HR.out]; rfl), HB1.out⟩
    cases b2
    case true =>
      cases bp <;> cases bq <;> cases bl
      all_goals
        clear h5 h6 h10 h11 h12
        go_enter Tryd.func24, Tryd.ntmps24
        go_upto_region 1 with fail
        rw [← HW1.out]
        try rw [← HZ.out]
        go_wp2_with fail
        go_ret
        exact ⟨ret_i (by rw [HR.out]; rfl), HB1.out⟩
    cases b3
    case false =>
      clear h6 h7 h8 h9 h10 h11 h12
      go_enter Tryd.func24, Tryd.ntmps24
      go_upto_region 1 with fail
      rw [← HW1.out]
      try rw [← HZ.out]
      go_wp2_with fail
      go_ret
      exact ⟨ret_i (by rw [HR.out]; rfl), HB1.out⟩
    cases bx
    case true =>
      clear h6 h7 h8 h9 h11 h12
      go_enter Tryd.func24, Tryd.ntmps24
      go_upto_region 1 with fail
      rw [← HW1.out]
      try rw [← HZ.out]
      go_wp2_with fail
      go_ret
      exact ⟨ret_i (by rw [HR.out]; rfl), HB1.out⟩
    cases by_
    case true =>
      clear h6 h7 h8 h9 h12
      go_enter Tryd.func24, Tryd.ntmps24
      go_upto_region 1 with fail
      rw [← HW1.out]
      try rw [← HZ.out]
      go_wp2_with fail
      go_ret
      exact ⟨ret_i (by rw [HR.out]; rfl), HB1.out⟩
    have hnk3 := HN3.out rfl
    have HR2 : Hid (r = if u.kids.all single = true then (if bz = true then (nk : Int) else -1) else -1) := Lib.hid (by rw [HR.out]; rfl)
    clear h6 h7 h8 h9
    go_enter Tryd.func24, Tryd.ntmps24
    go_upto_region 1 with fail
    rw [← HW1.out]
    try rw [← HZ.out]
    go_upto_region 15 with fail
    clear y0 y1 y2 y3 h1 h2 h3 h4 h5 h10 h11
    have HH12 := Lib.hid h12
    clear h12
    go_loopw [3] (fun i wr => ∃ j : Nat, j ≤ nk ∧ i = .int .i64 j ∧ Hid (Below W1.heap.size W1 wr ∧ ∀ (i : Nat) (v : T), i < j → u.kids[i]? = some v → single v = true)) (fun i _ => nk - (intOf i).toNat)
    case atStart => exact ⟨0, Nat.zero_le _, rfl, Below.refl _ _, fun i v h => absurd h (Nat.not_lt_zero _)⟩
    case round =>
      obtain ⟨j, hj, rfl, HI⟩ := hrel
      obtain ⟨y0, y1, y2, y3⟩ := HK.out wr HI.out.1
      by_cases hlt : j < nk
      · obtain ⟨v, hv⟩ : ∃ v, u.kids[j]? = some v := ⟨_, List.getElem?_eq_getElem (by rw [← HNK.out]; exact hlt)⟩
        obtain ⟨b, off, A', c', hA, hbl, hc, hrv⟩ := HRU.out.kid hv
        subst hA
        obtain ⟨nv, hnv⟩ : ∃ q, q = v.kids.length := ⟨_, rfl⟩
        obtain ⟨vk, hvk⟩ : ∃ z, z = v.k := ⟨_, rfl⟩
        obtain ⟨vn, hvn⟩ : ∃ z, z = v.n := ⟨_, rfl⟩
        obtain ⟨vm, hvm⟩ : ∃ z, z = v.m := ⟨_, rfl⟩
        have hcu : ∀ i x, (nd v A' c')[i]? = some x → wr.cell? ⟨b, off + j * 4 + i, none⟩ = some x := fun i x hx => (HI.out.1.cell (p := ⟨b, _, none⟩) hbl).trans (hc i x hx)
        obtain ⟨v0, v1, v2, v3⟩ : wr.cell? ⟨b, off + j * 4, none⟩ = some (.int .i64 vk) ∧ wr.cell? ⟨b, off + j * 4 + 1, none⟩ = some (.int .i64 vn) ∧ wr.cell? ⟨b, off + j * 4 + 2, none⟩ = some (.int .i64 vm) ∧ wr.cell? ⟨b, off + j * 4 + 3, none⟩ = some (.slice A' nv c') := ⟨by rw [hvk]; exact hcu 0 _ rfl, by rw [hvn]; exact hcu 1 _ rfl, by rw [hvm]; exact hcu 2 _ rfl, by rw [hnv]; exact hcu 3 _ rfl⟩
        have hib : (0 : Int) ≤ (j : Int) ∧ (j : Int) < (nk : Int) := ⟨by omega, by omega⟩
        obtain ⟨wv, hwv⟩ : ∃ x, words v = x := ⟨_, rfl⟩
        have HWD : Hid (Calls Tryd.prog 24 #[.agg #[.int .i64 vk, .int .i64 vn, .int .i64 vm, .slice A' nv c']] wr fun e w' => e = .returned (.int .i64 wv) ∧ Below wr.heap.size wr w') := Lib.hid (by
          have h := HIH.out v A' c' wr (rep_next hrv HI.out.1)
          rw [hwv, ← hnv, ← hvk, ← hvn, ← hvm] at h
          exact h)
        obtain ⟨e1, g1⟩ : ∃ b, (wv != 1) = b := ⟨_, rfl⟩
        obtain ⟨e2, g2⟩ : ∃ b, (vk != 0) = b := ⟨_, rfl⟩
        obtain ⟨e3, g3⟩ : ∃ b, (vk != 1) = b := ⟨_, rfl⟩
        have HSV : Hid (single v = !(e1 || (e2 && e3))) := Lib.hid (by rw [single_words, hwv, ← hvk, ← g1, ← g2, ← g3]; simp [bne])
        have HV := Lib.hid hv
        have HGO : Hid (single v = true → ∀ (i : Nat) (x : T), i < j + 1 → u.kids[i]? = some x → single x = true) := Lib.hid fun hs i x hi hx => by
          by_cases hij : i < j
          · exact HI.out.2 i x hij hx
          · have : i = j := by omega
            subst this
            rw [HV.out] at hx
            cases hx
            exact hs
        have HNO : Hid (single v = false → r = -1) := Lib.hid fun hs => by
          have : u.kids.all single = false := by rw [List.all_eq_false]; exact ⟨v, List.mem_of_getElem? HV.out, by rw [hs]; simp⟩
          rw [HR2.out, this]; rfl
        clear hcu hc hnv hvk hvn hvm hwv hv hrv hbl
        cases e1 <;> cases e2 <;> cases e3
        all_goals
          go_wp2_with (go_at_call 24; refine HWD.out.mono ?_; rintro e w5 ⟨rfl, hb5⟩; have HB5 := Lib.hid (bt HI.out.1 hb5); clear hb5)
          first
          | (go_roundw
             case rel => exact ⟨j + 1, by omega, by go_num, HB5.out, HGO.out (by rw [HSV.out]; rfl)⟩
             case measure => simp [intOf]; omega)
          | (go_ret
             exact ⟨ret_i (HNO.out (by rw [HSV.out]; rfl)).symm, bt HB1.out HB5.out⟩)
      · have hjn : j = nk := by omega
        have HAL : Hid (u.kids.all single = true) := Lib.hid (by
          rw [List.all_eq_true]
          intro x hx
          obtain ⟨i, hi⟩ := List.mem_iff_getElem?.1 hx
          exact HI.out.2 i x (by have := (List.getElem?_eq_some_iff.1 hi).1; have := HNK.out; omega) hi)
        have h12 := HH12.out
        by_cases hp : (0 : Int) < (nk : Int)
        · have h13 : decide ((0 : Int) < (nk : Int)) = true := decide_eq_true hp
          have HR3 : Hid (r = (nk : Int)) := Lib.hid (by rw [HR2.out, HAL.out, if_pos rfl, ← h12, h13, if_pos rfl])
          clear h12
          go_wp2_with fail
          go_ret
          exact ⟨ret_i HR3.out.symm, bt HB1.out HI.out.1⟩
        · have h13 : decide ((0 : Int) < (nk : Int)) = false := decide_eq_false hp
          have HR3 : Hid (r = -1) := Lib.hid (by rw [HR2.out, HAL.out, if_pos rfl, ← h12, h13]; rfl)
          clear h12
          go_wp2_with fail
          go_ret
          exact ⟨ret_i HR3.out.symm, bt HB1.out HI.out.1⟩
end Go.Proofs.YtpbbafikjpjejaaDoor
