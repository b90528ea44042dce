/-
  The reference's Decode of code: dCode (written by wip/tools/gen-rkdec.py).
-/
import Derived.Test.YtbdknncmlcbbpaaDoorG39
import Derived.Test.YtbdknncmlcbbpaaDoorG19
import Derived.Test.YtbdknncmlcbbpaaDoorG45
import Derived.BigRegion
set_option linter.unusedVariables false
namespace Go.Proofs.YtbdknncmlcbbpaaDoor
open Go.RowKit WM TR KM

theorem flatI_get : ∀ (l : List Ins) (i : Nat) (x : Ins), l[i]? = some x → (flatI l)[3 * i]? = some x.op ∧ (flatI l)[3 * i + 1]? = some x.a ∧ (flatI l)[3 * i + 2]? = some x.b
  | [], i, x, h => by simp at h
  | y :: l, 0, x, h => by
    simp only [List.getElem?_cons_zero, Option.some.injEq] at h
    subst h
    exact ⟨rfl, rfl, rfl⟩
  | y :: l, i + 1, x, h => by
    have e : flatI (y :: l) = y.op :: y.a :: y.b :: flatI l := by simp [flatI]
    have := flatI_get l i x (by simpa using h)
    rw [e, show 3 * (i + 1) = 3 * i + 1 + 1 + 1 by omega]
    simpa using this
/-- A function while its instructions are read. -/
structure DiR (w4 : World) (gb : Nat) (p q : Int) (V : World) (zs : List Ins) (A : Option Addr) (c : Nat) : Prop where
  low : gb = w4.heap.size
  blk : Blk V gb 51 #[.int .i64 p, .int .i64 q, .slice A zs.length c, .slice none 0 0]
  own : V.ownsRow (gb + 1) 54 3 (.slice A zs.length c) zs.length (insCs zs)
  below : Below w4.heap.size w4 V
theorem DiR.step {w4 : World} {gb : Nat} {p q : Int} {V w7 : World} {zs : List Ins} {A A7 : Option Addr} {c c7 : Nat} {o : Obj} {x : Ins} (h : DiR w4 gb p q V zs A c)
    (hg : (V.drew.alloc o).grownBy w7 (Value.slice A zs.length c).ownBlock) (ho : w7.ownsRow (gb + 1) 54 3 (.slice A7 (zs.length + 1) c7) (zs.length + 1) (insCs zs ++ insC x)) :
    w7.cell? ⟨gb, 2, none⟩ = some (.slice A zs.length c) ∧ w7.frozen? ⟨gb, 2, none⟩ = false ∧ DiR w4 gb p q (w7.setCell ⟨gb, 2, none⟩ (.slice A7 (zs.length + 1) c7)) (zs ++ [x]) A7 c7 := by
  have hlt := h.own.lt
  have hb7 : Blk w7 gb 51 #[.int .i64 p, .int .i64 q, .slice A zs.length c, .slice none 0 0] := (Blk.alloc (show Blk V.drew gb _ _ from h.blk) o).grown hg (fun e => by have := (hlt _ e.symm).1; omega)
  have hll : (zs ++ [x]).length = zs.length + 1 := by simp
  refine ⟨hb7.cell 2, hb7.frozen 2, h.low, ?_, ?_, ?_⟩
  · have := hb7.set_ 2 (.slice A7 (zs.length + 1) c7)
    rw [hll]
    simpa using this
  · have h2 := ownsRow_setCell_other ho (a := ⟨gb, 2, none⟩) (fun e => by have h3 : gb + 1 ≤ gb := (ho.lt _ e).1; omega) (.slice A7 (zs.length + 1) c7)
    rw [hll, insCs_append]
    simpa [insCs] using h2
  · refine below_set (below_row (show Below w4.heap.size w4 V.drew from h.below.drew) hg fun b e => by have := (hlt b e).1; have := h.low; omega) (by have := h.low; omega) 2 _
attribute [local go_sem ↓ high] shutApP shutRem
set_option maxRecDepth 100000 in
set_option maxHeartbeats 16000000 in
theorem rcodeDec_is (A : Option Addr) (c : Nat) (l : List UInt8) (w : World) (ha : Reads w w.heap.size 1 A l.length (bs l)) (hlc : l.length ≤ c) (hl : l.length ≤ 600000) :
    Calls Tryd.prog 24 #[.slice A l.length c] w (DKPost l w) := by
  obtain ⟨i0, hi, hz0, hz1, hz2⟩ := info_parts fun_info
  obtain ⟨j0, gi, gz0, gz1, gz2⟩ := info_parts ins_info
  obtain ⟨nl, hnl⟩ : ∃ z, z = l.length := ⟨_, rfl⟩
  obtain ⟨z, hz⟩ : ∃ z, z = w.heap.size := ⟨_, rfl⟩
  obtain ⟨W1, hW1⟩ : ∃ W, W = w.alloc (.cells #[.int .i64 0, .slice none 0 0] 25) := ⟨_, rfl⟩
  have hb1 : Below w.heap.size w W1 := by rw [hW1]; exact below_new _ _
  have kr : Blk W1 z 25 #[.int .i64 0, .slice none 0 0] := by rw [hW1, hz]; exact Blk.new _ _ _
  have ha1 := (ha.below hb1).more hb1.size
  have hG := refGetInt A c l W1 ha1 hlc (by omega)
  obtain ⟨P, hP⟩ : ∃ P, P = DKPost l w := ⟨_, rfl⟩
  rw [← hP, ← hnl]
  rw [← hnl] at hG
  have hln : nl ≤ 600000 := by rw [hnl]; exact hl
  have hlcn : nl ≤ c := by rw [hnl]; exact hlc
  have HLC := Lib.hid hlc
  have HLL := Lib.hid hl
  have HP := Lib.hid hP
  have HNL := Lib.hid hnl
  have HW1 := Lib.hid hW1
  have HZ := Lib.hid hz
  have HB1 := Lib.hid hb1
  have HKR := Lib.hid kr
  have HA := Lib.hid ha1
  clear hP hW1 hz hb1 kr ha ha1 hnl hlc hl
  go_enter Tryd.func24, Tryd.ntmps24
  go_upto_region 1 with fail
  rw [← HW1.out]
  try rw [← HZ.out]
  cases hd : gInt l with
  | more =>
    rw [hd] at hG
    have HG : Hid (Calls Tryd.prog 52 #[.slice A nl c] W1 fun e w' => e = .returned (.tuple #[.int .i64 0, .int .i64 0, .int .i64 3]) ∧ Below W1.heap.size W1 w') := Lib.hid hG
    have HD : Hid (dCode l = none) := Lib.hid (by unfold dCode; rw [hd])
    clear hd hG
    go_wp2_with (go_at_call 52; refine HG.out.mono ?_; rintro e w2 ⟨rfl, hb2⟩; have k2 := HKR.out.below hb2 HKR.out.lt; have r0 := k2.cell 0; have r1 := k2.cell 1; have q0 := k2.frozen 0; have q1 := k2.frozen 1; simp only [List.getElem?_toArray, List.getElem?_cons_zero, List.getElem?_cons_succ] at r0 r1; have HK2 := Lib.hid k2; have HB2 := Lib.hid (bt HB1.out hb2); have HA2 := Lib.hid ((HA.out.below hb2).more hb2.size); clear k2 hb2)
    obtain ⟨W9, hW9⟩ : ∃ W, W = (w2.setCell ⟨z, 0, none⟩ (.int .i64 0)).setCell ⟨z, 1, none⟩ (.slice none 0 0) := ⟨_, rfl⟩
    obtain ⟨k9, hb9⟩ := dk_err HZ.out HB2.out HK2.out rfl W9 hW9
    rw [← hW9]
    obtain ⟨s0, s1⟩ : W9.cell? ⟨z, 0, none⟩ = some (.int .i64 0) ∧ W9.cell? ⟨z, 1, none⟩ = some (.slice none 0 0) := ⟨k9.cell 0, k9.cell 1⟩
    rw [HP.out]
    refine bodyPost_ret (v := .tuple #[.agg #[.int .i64 0, .slice none 0 0], .int .i64 0, .int .i64 2]) (by simp [results, Tryd.results24, go_sem, s0, s1]) rfl ?_
    unfold DKPost
    rw [HD.out]
    exact ⟨rfl, hb9⟩
  | form =>
    rw [hd] at hG
    have HG : Hid (Calls Tryd.prog 52 #[.slice A nl c] W1 fun e w' => e = .returned (.tuple #[.int .i64 0, .int .i64 0, .int .i64 2]) ∧ Below W1.heap.size W1 w') := Lib.hid hG
    have HD : Hid (dCode l = none) := Lib.hid (by unfold dCode; rw [hd])
    clear hd hG
    go_wp2_with (go_at_call 52; refine HG.out.mono ?_; rintro e w2 ⟨rfl, hb2⟩; have k2 := HKR.out.below hb2 HKR.out.lt; have r0 := k2.cell 0; have r1 := k2.cell 1; have q0 := k2.frozen 0; have q1 := k2.frozen 1; simp only [List.getElem?_toArray, List.getElem?_cons_zero, List.getElem?_cons_succ] at r0 r1; have HK2 := Lib.hid k2; have HB2 := Lib.hid (bt HB1.out hb2); have HA2 := Lib.hid ((HA.out.below hb2).more hb2.size); clear k2 hb2)
    obtain ⟨W9, hW9⟩ : ∃ W, W = (w2.setCell ⟨z, 0, none⟩ (.int .i64 0)).setCell ⟨z, 1, none⟩ (.slice none 0 0) := ⟨_, rfl⟩
    obtain ⟨k9, hb9⟩ := dk_err HZ.out HB2.out HK2.out rfl W9 hW9
    rw [← hW9]
    obtain ⟨s0, s1⟩ : W9.cell? ⟨z, 0, none⟩ = some (.int .i64 0) ∧ W9.cell? ⟨z, 1, none⟩ = some (.slice none 0 0) := ⟨k9.cell 0, k9.cell 1⟩
    rw [HP.out]
    refine bodyPost_ret (v := .tuple #[.agg #[.int .i64 0, .slice none 0 0], .int .i64 0, .int .i64 2]) (by simp [results, Tryd.results24, go_sem, s0, s1]) rfl ?_
    unfold DKPost
    rw [HD.out]
    exact ⟨rfl, hb9⟩
  | ok ch u =>
    rw [hd] at hG
    have HG : Hid (Calls Tryd.prog 52 #[.slice A nl c] W1 fun e w' => e = .returned (.tuple #[.int .i64 ch, .int .i64 (u : Int), .int .i64 0]) ∧ Below W1.heap.size W1 w') := Lib.hid hG
    obtain ⟨hcr, t1, hl1, hu1⟩ := gInt_ok hd
    have hup : 1 ≤ u ∧ u ≤ nl := by
      have h9 := congrArg List.length hl1
      rw [List.length_append, ← hu1, ← HNL.out] at h9
      have h8 := enc_len hcr
      omega
    have HCR := Lib.hid hcr
    have HD1 := Lib.hid hd
    clear hd hG hl1 hu1 hcr
    obtain ⟨bA, oA, hAA, hA1, hA2⟩ := HA.out.lit (by rw [← HNL.out]; omega)
    subst hAA
    clear hA1 hA2
    go_upto_region 4 with (go_at_call 52; refine HG.out.mono ?_; rintro e w2 ⟨rfl, hb2⟩; have k2 := HKR.out.below hb2 HKR.out.lt; have r0 := k2.cell 0; have r1 := k2.cell 1; have q0 := k2.frozen 0; have q1 := k2.frozen 1; simp only [List.getElem?_toArray, List.getElem?_cons_zero, List.getElem?_cons_succ] at r0 r1; have HK2 := Lib.hid k2; have HB2 := Lib.hid (bt HB1.out hb2); have HA2 := Lib.hid ((HA.out.below hb2).more hb2.size); clear k2 hb2)
    have hcut := cutB bA oA u nl c hup.2 hlcn
    have hrd := reads_drop HA2.out (u := u) (by rw [← HNL.out]; exact hup.2) HLC.out
    obtain ⟨o2, ho2⟩ : ∃ z, z = (if c = u then oA else oA + u) := ⟨_, rfl⟩
    rw [← ho2] at hcut hrd
    have hG4 := refGetInt (some ⟨bA, o2, none⟩) (c - u) (l.drop u) w2 hrd (by rw [List.length_drop]; have := HLC.out; omega) (by rw [List.length_drop]; have := HLL.out; omega)
    have hld : (l.drop u).length = nl - u := by rw [List.length_drop, HNL.out]
    rw [hld] at hG4
    clear ho2 hrd
    cases hd4 : gInt (l.drop u) with
    | more =>
      rw [hd4] at hG4
      have HG4 : Hid (Calls Tryd.prog 52 #[.slice (some ⟨bA, o2, none⟩) (nl - u) (c - u)] w2 fun e w' => e = .returned (.tuple #[.int .i64 0, .int .i64 0, .int .i64 3]) ∧ Below w2.heap.size w2 w') := Lib.hid hG4
      have HD : Hid (dCode l = none) := Lib.hid (by unfold dCode; rw [HD1.out]; simp only []; rw [hd4])
      clear hd4 hG4 hld
      go_wp2_with (go_at_call 52; refine HG4.out.mono ?_; rintro e w4 ⟨rfl, hb4⟩; have k4 := HK2.out.below hb4 HK2.out.lt; clear r0 r1 q0 q1; have r0 := k4.cell 0; have r1 := k4.cell 1; have q0 := k4.frozen 0; have q1 := k4.frozen 1; simp only [List.getElem?_toArray, List.getElem?_cons_zero, List.getElem?_cons_succ] at r0 r1; have HK4 := Lib.hid k4; have HB4 := Lib.hid (bt HB2.out hb4); have HA4 := Lib.hid ((HA2.out.below hb4).more hb4.size); clear k4 hb4)
      obtain ⟨W9, hW9⟩ : ∃ W, W = (w4.setCell ⟨z, 0, none⟩ (.int .i64 0)).setCell ⟨z, 1, none⟩ (.slice none 0 0) := ⟨_, rfl⟩
      obtain ⟨k9, hb9⟩ := dk_err HZ.out HB4.out HK4.out rfl W9 hW9
      rw [← hW9]
      obtain ⟨s0, s1⟩ : W9.cell? ⟨z, 0, none⟩ = some (.int .i64 0) ∧ W9.cell? ⟨z, 1, none⟩ = some (.slice none 0 0) := ⟨k9.cell 0, k9.cell 1⟩
      rw [HP.out]
      refine bodyPost_ret (v := .tuple #[.agg #[.int .i64 0, .slice none 0 0], .int .i64 0, .int .i64 2]) (by simp [results, Tryd.results24, go_sem, s0, s1]) rfl ?_
      unfold DKPost
      rw [HD.out]
      exact ⟨rfl, hb9⟩
    | form =>
      rw [hd4] at hG4
      have HG4 : Hid (Calls Tryd.prog 52 #[.slice (some ⟨bA, o2, none⟩) (nl - u) (c - u)] w2 fun e w' => e = .returned (.tuple #[.int .i64 0, .int .i64 0, .int .i64 2]) ∧ Below w2.heap.size w2 w') := Lib.hid hG4
      have HD : Hid (dCode l = none) := Lib.hid (by unfold dCode; rw [HD1.out]; simp only []; rw [hd4])
      clear hd4 hG4 hld
      go_wp2_with (go_at_call 52; refine HG4.out.mono ?_; rintro e w4 ⟨rfl, hb4⟩; have k4 := HK2.out.below hb4 HK2.out.lt; clear r0 r1 q0 q1; have r0 := k4.cell 0; have r1 := k4.cell 1; have q0 := k4.frozen 0; have q1 := k4.frozen 1; simp only [List.getElem?_toArray, List.getElem?_cons_zero, List.getElem?_cons_succ] at r0 r1; have HK4 := Lib.hid k4; have HB4 := Lib.hid (bt HB2.out hb4); have HA4 := Lib.hid ((HA2.out.below hb4).more hb4.size); clear k4 hb4)
      obtain ⟨W9, hW9⟩ : ∃ W, W = (w4.setCell ⟨z, 0, none⟩ (.int .i64 0)).setCell ⟨z, 1, none⟩ (.slice none 0 0) := ⟨_, rfl⟩
      obtain ⟨k9, hb9⟩ := dk_err HZ.out HB4.out HK4.out rfl W9 hW9
      rw [← hW9]
      obtain ⟨s0, s1⟩ : W9.cell? ⟨z, 0, none⟩ = some (.int .i64 0) ∧ W9.cell? ⟨z, 1, none⟩ = some (.slice none 0 0) := ⟨k9.cell 0, k9.cell 1⟩
      rw [HP.out]
      refine bodyPost_ret (v := .tuple #[.agg #[.int .i64 0, .slice none 0 0], .int .i64 0, .int .i64 2]) (by simp [results, Tryd.results24, go_sem, s0, s1]) rfl ?_
      unfold DKPost
      rw [HD.out]
      exact ⟨rfl, hb9⟩
    | ok n m =>
      rw [hd4] at hG4
      have HG4 : Hid (Calls Tryd.prog 52 #[.slice (some ⟨bA, o2, none⟩) (nl - u) (c - u)] w2 fun e w' => e = .returned (.tuple #[.int .i64 n, .int .i64 (m : Int), .int .i64 0]) ∧ Below w2.heap.size w2 w') := Lib.hid hG4
      obtain ⟨hnr, t2, hl2, hu2⟩ := gInt_ok hd4
      have hmp : u + m ≤ nl := by
        have h9 := congrArg List.length hl2
        rw [List.length_append, ← hu2, hld] at h9
        omega
      by_cases hneg : n < 0
      · have hdn : decide (n < 0) = true := decide_eq_true hneg
        have HD : Hid (dCode l = none) := Lib.hid (by unfold dCode; rw [HD1.out]; simp only []; rw [hd4]; simp only []; rw [if_neg (by omega)])
        clear hd4 hG4 hld hl2 hu2
        go_wp2_with (go_at_call 52; refine HG4.out.mono ?_; rintro e w4 ⟨rfl, hb4⟩; have k4 := HK2.out.below hb4 HK2.out.lt; clear r0 r1 q0 q1; have r0 := k4.cell 0; have r1 := k4.cell 1; have q0 := k4.frozen 0; have q1 := k4.frozen 1; simp only [List.getElem?_toArray, List.getElem?_cons_zero, List.getElem?_cons_succ] at r0 r1; have HK4 := Lib.hid k4; have HB4 := Lib.hid (bt HB2.out hb4); have HA4 := Lib.hid ((HA2.out.below hb4).more hb4.size); clear k4 hb4)
        obtain ⟨W9, hW9⟩ : ∃ W, W = (w4.setCell ⟨z, 0, none⟩ (.int .i64 0)).setCell ⟨z, 1, none⟩ (.slice none 0 0) := ⟨_, rfl⟩
        obtain ⟨k9, hb9⟩ := dk_err HZ.out HB4.out HK4.out rfl W9 hW9
        rw [← hW9]
        obtain ⟨s0, s1⟩ : W9.cell? ⟨z, 0, none⟩ = some (.int .i64 0) ∧ W9.cell? ⟨z, 1, none⟩ = some (.slice none 0 0) := ⟨k9.cell 0, k9.cell 1⟩
        rw [HP.out]
        refine bodyPost_ret (v := .tuple #[.agg #[.int .i64 0, .slice none 0 0], .int .i64 0, .int .i64 2]) (by simp [results, Tryd.results24, go_sem, s0, s1]) rfl ?_
        unfold DKPost
        rw [HD.out]
        exact ⟨rfl, hb9⟩
      · obtain ⟨nn, rfl⟩ : ∃ k : Nat, n = (k : Int) := ⟨n.toNat, by omega⟩
        have hdn : decide ((nn : Int) < 0) = false := decide_eq_false hneg
        have HREST := Lib.hid (dCode_rest HD1.out hd4)
        have hwum : IntKind.i64.wrap ((u : Int) + (m : Int)) = ((u + m : Nat) : Int) := by rw [IntKind.wrap_i64]; omega
        obtain ⟨u0, hu0⟩ : ∃ k, k = u + m := ⟨_, rfl⟩
        rw [← hu0] at hwum
        have hu0l : u0 ≤ nl := by rw [hu0]; exact hmp
        have HU0 := Lib.hid hu0
        have HNR := Lib.hid hnr
        clear hd4 hG4 hld hl2 hu2 hu0 hmp hnr
        go_upto_region 9 with (go_at_call 52; refine HG4.out.mono ?_; rintro e w4 ⟨rfl, hb4⟩; have k4 := HK2.out.below hb4 HK2.out.lt; clear r0 r1 q0 q1; have r0 := k4.cell 0; have r1 := k4.cell 1; have q0 := k4.frozen 0; have q1 := k4.frozen 1; simp only [List.getElem?_toArray, List.getElem?_cons_zero, List.getElem?_cons_succ] at r0 r1; have HK4 := Lib.hid k4; have HB4 := Lib.hid (bt HB2.out hb4); have HA4 := Lib.hid ((HA2.out.below hb4).more hb4.size); clear k4 hb4)
        obtain ⟨W2, hW2⟩ : ∃ W, W = w4.alloc (.cells #[.int .i64 ch, .slice none 0 0] 25) := ⟨_, rfl⟩
        obtain ⟨gk, hgk⟩ : ∃ k, k = w4.heap.size := ⟨_, rfl⟩
        have hb12 : Below w4.heap.size w4 W2 := by rw [hW2]; exact below_new _ _
        have hk2 : Blk W2 gk 25 #[.int .i64 ch, .slice none 0 0] := by rw [hW2, hgk]; exact Blk.new _ _ _
        have hinit : DcR w z gk ch W2 [] none 0 #[.int .i64 0, .slice none 0 0] := ⟨HZ.out, by have := HK4.out.lt; omega, HK4.out.below hb12 HK4.out.lt, rfl, hk2, World.ownsRow_nil _ _ _ _, fun e he => (by cases he), bt HB4.out hb12⟩
        rw [← hW2, ← hgk]
        have HINIT := Lib.hid hinit
        have HB12 := Lib.hid hb12
        have HGK := Lib.hid hgk
        clear hW2 hgk hb12 hk2 hinit r0 r1 q0 q1 hcut HG HG4 HA HA2 HB2 HK2 HKR HK4
        go_upto_region 10 with fail
        go_loopw [6, 12] (fun s6 s12 wr => ∃ (uj : Nat) (es : List Ent) (A' : Option Addr) (c' : Nat), es.length ≤ nn ∧ uj ≤ nl ∧ 4 * es.length ≤ uj ∧ s6 = .int .i64 (uj : Int) ∧ s12 = .int .i64 (es.length : Int) ∧ Hid (DcR w z gk ch wr es A' c' #[.int .i64 0, .slice none 0 0] ∧ Below w4.heap.size w4 wr ∧ rest [] u0 (dFuns nn (l.drop u0)) = rest (es.map Ent.fn) uj (dFuns (nn - es.length) (l.drop uj)))) (fun _ s12 _ => nn - (intOf s12).toNat)
        case atStart => exact ⟨u0, [], none, 0, Nat.zero_le _, hu0l, by simp, rfl, rfl, HINIT.out, HB12.out, rfl⟩
        case round =>
          obtain ⟨uj, es, A', c', hen, huj, h4j, rfl, rfl, HI⟩ := hrel
          by_cases hlt : es.length < nn
          · have hlt2 : (es.length : Int) < (nn : Int) := by omega
            have hes : es.length ≤ 150000 := by omega
            have hcutj := cutB bA oA uj nl c huj hlcn
            have hrdj := reads_drop HA4.out (u := uj) (by rw [← HNL.out]; exact huj) HLC.out
            obtain ⟨oj, hoj⟩ : ∃ z, z = (if c = uj then oA else oA + uj) := ⟨_, rfl⟩
            rw [← hoj] at hcutj hrdj
            have hldj : (l.drop uj).length = nl - uj := by rw [List.length_drop, HNL.out]
            have hG := refGetInts (some ⟨bA, oj, none⟩) (c - uj) (l.drop uj) wr ((hrdj.below HI.out.2.1).more HI.out.2.1.size) (by rw [hldj]; omega) (by rw [hldj]; omega)
            rw [hldj] at hG
            clear hrdj hoj
            cases hd1 : dInts (l.drop uj) with
            | more =>
              have hd2 : gElems 1 gInt (l.drop uj) = .more := hd1
              rw [hd2] at hG
              have HG : Hid (Calls Tryd.prog 53 #[.slice (some ⟨bA, oj, none⟩) (nl - uj) (c - uj)] wr fun e w' => e = .returned (.tuple #[.slice none 0 0, .int .i64 0, .int .i64 3]) ∧ Below wr.heap.size wr w') := Lib.hid hG
              have hdf : dFun (l.drop uj) = none := by unfold dFun; rw [hd1]
              have HD : Hid (dCode l = none) := Lib.hid (by rw [HREST.out, ← HU0.out, HI.out.2.2, rest_stop hlt hdf]; rfl)
              clear hd1 hd2 hG hdf hldj
              go_wp2_with (go_at_call 53; refine HG.out.mono ?_; rintro e w5 ⟨rfl, hb5⟩; have k5 := HI.out.1.res.below hb5 HI.out.1.res.lt; have r0 := k5.cell 0; have r1 := k5.cell 1; have q0 := k5.frozen 0; have q1 := k5.frozen 1; simp only [List.getElem?_toArray, List.getElem?_cons_zero, List.getElem?_cons_succ] at r0 r1; have HK5 := Lib.hid k5; have HB5 := Lib.hid (bt HI.out.1.below hb5); have HW5 := Lib.hid (bt HI.out.2.1 hb5); have HO5 := Lib.hid hb5; clear k5 hb5)
              obtain ⟨W9, hW9⟩ : ∃ W, W = (w5.setCell ⟨z, 0, none⟩ (.int .i64 0)).setCell ⟨z, 1, none⟩ (.slice none 0 0) := ⟨_, rfl⟩
              obtain ⟨k9, hb9⟩ := dk_err HZ.out HB5.out HK5.out rfl W9 hW9
              rw [← hW9]
              obtain ⟨s0, s1⟩ : W9.cell? ⟨z, 0, none⟩ = some (.int .i64 0) ∧ W9.cell? ⟨z, 1, none⟩ = some (.slice none 0 0) := ⟨k9.cell 0, k9.cell 1⟩
              rw [HP.out]
              refine bodyPost_ret (v := .tuple #[.agg #[.int .i64 0, .slice none 0 0], .int .i64 0, .int .i64 2]) (by simp [results, Tryd.results24, go_sem, s0, s1]) rfl ?_
              unfold DKPost
              rw [HD.out]
              exact ⟨rfl, hb9⟩
            | form =>
              have hd2 : gElems 1 gInt (l.drop uj) = .form := hd1
              rw [hd2] at hG
              have HG : Hid (Calls Tryd.prog 53 #[.slice (some ⟨bA, oj, none⟩) (nl - uj) (c - uj)] wr fun e w' => e = .returned (.tuple #[.slice none 0 0, .int .i64 0, .int .i64 2]) ∧ Below wr.heap.size wr w') := Lib.hid hG
              have hdf : dFun (l.drop uj) = none := by unfold dFun; rw [hd1]
              have HD : Hid (dCode l = none) := Lib.hid (by rw [HREST.out, ← HU0.out, HI.out.2.2, rest_stop hlt hdf]; rfl)
              clear hd1 hd2 hG hdf hldj
              go_wp2_with (go_at_call 53; refine HG.out.mono ?_; rintro e w5 ⟨rfl, hb5⟩; have k5 := HI.out.1.res.below hb5 HI.out.1.res.lt; have r0 := k5.cell 0; have r1 := k5.cell 1; have q0 := k5.frozen 0; have q1 := k5.frozen 1; simp only [List.getElem?_toArray, List.getElem?_cons_zero, List.getElem?_cons_succ] at r0 r1; have HK5 := Lib.hid k5; have HB5 := Lib.hid (bt HI.out.1.below hb5); have HW5 := Lib.hid (bt HI.out.2.1 hb5); have HO5 := Lib.hid hb5; clear k5 hb5)
              obtain ⟨W9, hW9⟩ : ∃ W, W = (w5.setCell ⟨z, 0, none⟩ (.int .i64 0)).setCell ⟨z, 1, none⟩ (.slice none 0 0) := ⟨_, rfl⟩
              obtain ⟨k9, hb9⟩ := dk_err HZ.out HB5.out HK5.out rfl W9 hW9
              rw [← hW9]
              obtain ⟨s0, s1⟩ : W9.cell? ⟨z, 0, none⟩ = some (.int .i64 0) ∧ W9.cell? ⟨z, 1, none⟩ = some (.slice none 0 0) := ⟨k9.cell 0, k9.cell 1⟩
              rw [HP.out]
              refine bodyPost_ret (v := .tuple #[.agg #[.int .i64 0, .slice none 0 0], .int .i64 0, .int .i64 2]) (by simp [results, Tryd.results24, go_sem, s0, s1]) rfl ?_
              unfold DKPost
              rw [HD.out]
              exact ⟨rfl, hb9⟩
            | ok xs u =>
              have hd2 : gElems 1 gInt (l.drop uj) = .ok xs u := hd1
              rw [hd2] at hG
              obtain ⟨nx, hnx⟩ : ∃ z, z = xs.length := ⟨_, rfl⟩
              have HG : Hid (Calls Tryd.prog 53 #[.slice (some ⟨bA, oj, none⟩) (nl - uj) (c - uj)] wr fun e w' => ∃ A2 c2, e = .returned (.tuple #[.slice A2 nx c2, .int .i64 (u : Int), .int .i64 0]) ∧ w'.ownsRow wr.heap.size 3 1 (.slice A2 nx c2) nx (xs.flatMap fun x : Int => [.int .i64 x]) ∧ Below wr.heap.size wr w') := Lib.hid (by rw [hnx]; exact hG)
              by_cases h2 : nx = 2
              · obtain ⟨p, q, rfl⟩ : ∃ p q, xs = [p, q] := by
                  rw [hnx] at h2
                  rcases xs with _ | ⟨p, _ | ⟨q, _ | ⟨r, t⟩⟩⟩
                  · simp at h2
                  · simp at h2
                  · exact ⟨p, q, rfl⟩
                  · simp at h2
                subst h2
                obtain ⟨hin, _, t1, hl1, hu1⟩ := dInts_ok hd1
                obtain ⟨ua, hua⟩ : ∃ k, k = uj + u := ⟨_, rfl⟩
                have hual : ua ≤ nl := by
                  have h9 := congrArg List.length hl1
                  rw [List.length_append, ← hu1, hldj] at h9
                  omega
                have hdd : (l.drop uj).drop u = l.drop ua := by rw [List.drop_drop, hua]
                have hwua : IntKind.i64.wrap ((uj : Int) + (u : Int)) = (ua : Int) := by rw [IntKind.wrap_i64]; omega
                have HDF1 := Lib.hid hd1
                have HIN := Lib.hid hin
                have HUA := Lib.hid hua
                have HDD := Lib.hid hdd
                clear hd1 hd2 hG hl1 hu1 hin hnx hua hdd hldj
                go_upto_region 16 with (go_at_call 53; refine HG.out.mono ?_; rintro e w5 ⟨A2, c2, rfl, hown2, hb5⟩; have k5 := HI.out.1.res.below hb5 HI.out.1.res.lt; have r0 := k5.cell 0; have r1 := k5.cell 1; have q0 := k5.frozen 0; have q1 := k5.frozen 1; simp only [List.getElem?_toArray, List.getElem?_cons_zero, List.getElem?_cons_succ] at r0 r1; have HK5 := Lib.hid k5; have HB5 := Lib.hid (bt HI.out.1.below hb5); have HW5 := Lib.hid (bt HI.out.2.1 hb5); have HO5 := Lib.hid hb5; have HOW2 := Lib.hid hown2; clear hown2; clear k5 hb5)
                have hcuta := cutB bA oA ua nl c hual hlcn
                have hrda := reads_drop HA4.out (u := ua) (by rw [← HNL.out]; exact hual) HLC.out
                obtain ⟨oa, hoa⟩ : ∃ z, z = (if c = ua then oA else oA + ua) := ⟨_, rfl⟩
                rw [← hoa] at hcuta hrda
                have hlda : (l.drop ua).length = nl - ua := by rw [List.length_drop, HNL.out]
                have hG6 := refGetInts (some ⟨bA, oa, none⟩) (c - ua) (l.drop ua) w5 ((hrda.below HW5.out).more HW5.out.size) (by rw [hlda]; omega) (by rw [hlda]; omega)
                rw [hlda] at hG6
                clear hrda hoa hcutj
                cases hd6 : dInts (l.drop ua) with
                | more =>
                  have hd7 : gElems 1 gInt (l.drop ua) = .more := hd6
                  rw [hd7] at hG6
                  have HG6 : Hid (Calls Tryd.prog 53 #[.slice (some ⟨bA, oa, none⟩) (nl - ua) (c - ua)] w5 fun e w' => e = .returned (.tuple #[.slice none 0 0, .int .i64 0, .int .i64 3]) ∧ Below w5.heap.size w5 w') := Lib.hid hG6
                  have hdf : dFun (l.drop uj) = none := by unfold dFun; rw [HDF1.out]; simp only []; rw [HDD.out, hd6]
                  have HD : Hid (dCode l = none) := Lib.hid (by rw [HREST.out, ← HU0.out, HI.out.2.2, rest_stop hlt hdf]; rfl)
                  clear hd6 hd7 hG6 hdf hlda
                  go_wp2_with (go_at_call 53; refine HG6.out.mono ?_; rintro e w6 ⟨rfl, hb6⟩; have k6 := HK5.out.below hb6 HK5.out.lt; clear r0 r1 q0 q1; have r0 := k6.cell 0; have r1 := k6.cell 1; have q0 := k6.frozen 0; have q1 := k6.frozen 1; simp only [List.getElem?_toArray, List.getElem?_cons_zero, List.getElem?_cons_succ] at r0 r1; have HK6 := Lib.hid k6; have HB6 := Lib.hid (bt HB5.out hb6); have HW6 := Lib.hid (bt HW5.out hb6); have HO6 := Lib.hid (bt HO5.out hb6); have HX6 := Lib.hid hb6; clear k6 hb6)
                  obtain ⟨W9, hW9⟩ : ∃ W, W = (w6.setCell ⟨z, 0, none⟩ (.int .i64 0)).setCell ⟨z, 1, none⟩ (.slice none 0 0) := ⟨_, rfl⟩
                  obtain ⟨k9, hb9⟩ := dk_err HZ.out HB6.out HK6.out rfl W9 hW9
                  rw [← hW9]
                  obtain ⟨s0, s1⟩ : W9.cell? ⟨z, 0, none⟩ = some (.int .i64 0) ∧ W9.cell? ⟨z, 1, none⟩ = some (.slice none 0 0) := ⟨k9.cell 0, k9.cell 1⟩
                  rw [HP.out]
                  refine bodyPost_ret (v := .tuple #[.agg #[.int .i64 0, .slice none 0 0], .int .i64 0, .int .i64 2]) (by simp [results, Tryd.results24, go_sem, s0, s1]) rfl ?_
                  unfold DKPost
                  rw [HD.out]
                  exact ⟨rfl, hb9⟩
                | form =>
                  have hd7 : gElems 1 gInt (l.drop ua) = .form := hd6
                  rw [hd7] at hG6
                  have HG6 : Hid (Calls Tryd.prog 53 #[.slice (some ⟨bA, oa, none⟩) (nl - ua) (c - ua)] w5 fun e w' => e = .returned (.tuple #[.slice none 0 0, .int .i64 0, .int .i64 2]) ∧ Below w5.heap.size w5 w') := Lib.hid hG6
                  have hdf : dFun (l.drop uj) = none := by unfold dFun; rw [HDF1.out]; simp only []; rw [HDD.out, hd6]
                  have HD : Hid (dCode l = none) := Lib.hid (by rw [HREST.out, ← HU0.out, HI.out.2.2, rest_stop hlt hdf]; rfl)
                  clear hd6 hd7 hG6 hdf hlda
                  go_wp2_with (go_at_call 53; refine HG6.out.mono ?_; rintro e w6 ⟨rfl, hb6⟩; have k6 := HK5.out.below hb6 HK5.out.lt; clear r0 r1 q0 q1; have r0 := k6.cell 0; have r1 := k6.cell 1; have q0 := k6.frozen 0; have q1 := k6.frozen 1; simp only [List.getElem?_toArray, List.getElem?_cons_zero, List.getElem?_cons_succ] at r0 r1; have HK6 := Lib.hid k6; have HB6 := Lib.hid (bt HB5.out hb6); have HW6 := Lib.hid (bt HW5.out hb6); have HO6 := Lib.hid (bt HO5.out hb6); have HX6 := Lib.hid hb6; clear k6 hb6)
                  obtain ⟨W9, hW9⟩ : ∃ W, W = (w6.setCell ⟨z, 0, none⟩ (.int .i64 0)).setCell ⟨z, 1, none⟩ (.slice none 0 0) := ⟨_, rfl⟩
                  obtain ⟨k9, hb9⟩ := dk_err HZ.out HB6.out HK6.out rfl W9 hW9
                  rw [← hW9]
                  obtain ⟨s0, s1⟩ : W9.cell? ⟨z, 0, none⟩ = some (.int .i64 0) ∧ W9.cell? ⟨z, 1, none⟩ = some (.slice none 0 0) := ⟨k9.cell 0, k9.cell 1⟩
                  rw [HP.out]
                  refine bodyPost_ret (v := .tuple #[.agg #[.int .i64 0, .slice none 0 0], .int .i64 0, .int .i64 2]) (by simp [results, Tryd.results24, go_sem, s0, s1]) rfl ?_
                  unfold DKPost
                  rw [HD.out]
                  exact ⟨rfl, hb9⟩
                | ok ys m =>
                  have hd7 : gElems 1 gInt (l.drop ua) = .ok ys m := hd6
                  rw [hd7] at hG6
                  obtain ⟨ny, hny⟩ : ∃ z, z = ys.length := ⟨_, rfl⟩
                  have HG6 : Hid (Calls Tryd.prog 53 #[.slice (some ⟨bA, oa, none⟩) (nl - ua) (c - ua)] w5 fun e w' => ∃ A4 c4, e = .returned (.tuple #[.slice A4 ny c4, .int .i64 (m : Int), .int .i64 0]) ∧ w'.ownsRow w5.heap.size 3 1 (.slice A4 ny c4) ny (ys.flatMap fun x : Int => [.int .i64 x]) ∧ Below w5.heap.size w5 w') := Lib.hid (by rw [hny]; exact hG6)
                  have hyl : ny ≤ 600000 ∧ ua + m ≤ nl := by
                    obtain ⟨h1, h2, t2, h3, h4⟩ := dInts_ok hd6
                    have h5 := congrArg List.length h3
                    rw [List.length_append, ← h4, hlda] at h5
                    have h6 : (encL enc ys).length = (enc ((ys.length : Nat) : Int)).length + (ys.flatMap enc).length := by unfold encL; rw [List.length_append]
                    have h7 := flat_len (e := enc) (least := 1) (xs := ys) fun x hx => (enc_len (h1 x hx)).1
                    omega
                  obtain ⟨hyn, hyu⟩ := hyl
                  obtain ⟨rr, hrr, hrun⟩ := run_rem ny
                  by_cases h3 : ny % 3 = 0
                  · have hdf : dFun (l.drop uj) = some (⟨p, q, trip ys⟩, u + m) := by unfold dFun; rw [HDF1.out]; simp only []; rw [HDD.out, hd6]; simp only []; rw [if_pos (by rw [← hny]; exact h3)]
                    have hrm : (rr != 0) = false := by rw [bne_eq_false_iff_eq]; omega
                    have HRN := Lib.hid (HI.out.2.2.trans (rest_next hlt hdf))
                    have HFO := Lib.hid (dFun_pos hdf).1
                    have h4u := (dFun_pos hdf).2.1
                    obtain ⟨ub, hub⟩ : ∃ k, k = ua + m := ⟨_, rfl⟩
                    have hwub : IntKind.i64.wrap ((ua : Int) + (m : Int)) = (ub : Int) := by rw [IntKind.wrap_i64]; omega
                    have hubl : ub ≤ nl := by omega
                    have HUB : Hid (uj + (u + m) = ub) := Lib.hid (by rw [hub, HUA.out, Nat.add_assoc])
                    have h4b : 4 * (es.length + 1) ≤ ub := by have := HUB.out; omega
                    have hflat : flatI (trip ys) = ys := flat_trip ys (by rw [← hny]; exact h3)
                    obtain ⟨zs, hzs⟩ : ∃ z, z = trip ys := ⟨_, rfl⟩
                    obtain ⟨nt, hnt⟩ : ∃ k, k = zs.length := ⟨_, rfl⟩
                    have hnt3 : ny = 3 * nt := by rw [hnt, ← flatI_length, hzs, hflat]; exact hny
                    have hcells : ys.flatMap (fun x : Int => [Value.int .i64 x]) = vi (flatI zs) := by rw [hzs, hflat]; exact flat_vi ys
                    rw [hcells] at HG6
                    rw [← hzs] at HRN HFO
                    have HNT := Lib.hid hnt
                    have HNT3 := Lib.hid hnt3
                    have hntl : nt ≤ 200000 := by omega
                    clear hd6 hd7 hG6 hlda hny h3 hrr hdf hub hflat hzs hnt hnt3 hcells h4u
                    go_upto_region 20 with (go_at_call 53; refine HG6.out.mono ?_; rintro e w6 ⟨A4, c4, rfl, hown4, hb6⟩; have k6 := HK5.out.below hb6 HK5.out.lt; clear r0 r1 q0 q1; have r0 := k6.cell 0; have r1 := k6.cell 1; have q0 := k6.frozen 0; have q1 := k6.frozen 1; simp only [List.getElem?_toArray, List.getElem?_cons_zero, List.getElem?_cons_succ] at r0 r1; have HK6 := Lib.hid k6; have HB6 := Lib.hid (bt HB5.out hb6); have HW6 := Lib.hid (bt HW5.out hb6); have HO6 := Lib.hid (bt HO5.out hb6); have HX6 := Lib.hid hb6; have HOW4 := Lib.hid hown4; clear hown4; clear k6 hb6)
                    obtain ⟨gh, cap2, hv2, _, hlt2g⟩ := HOW2.out.form (by omega)
                    obtain ⟨rfl, rfl⟩ : A2 = some ⟨gh, 0, none⟩ ∧ c2 = cap2 := by injection hv2 with a1 a2 a3; exact ⟨a1, a3⟩
                    have ehd : ∀ i v, ([p, q].flatMap fun x : Int => [Value.int .i64 x])[i]? = some v → w6.cell? ⟨gh, i, none⟩ = some v := fun i v hv => by
                      have h1 := HOW2.out.cells (g := gh) rfl i v hv
                      rw [Addr.add_lit, Nat.zero_add] at h1
                      exact (HX6.out.cell (p := ⟨gh, i, none⟩) hlt2g).trans h1
                    have p0 := ehd 0 _ rfl
                    have p1 := ehd 1 _ rfl
                    have hg6 : gh < w6.heap.size := Nat.lt_of_lt_of_le hlt2g HX6.out.size
                    have hal := below_new w6 (.cells #[.int .i64 0, .int .i64 0, .slice none 0 0, .slice none 0 0] 51)
                    have pa0 := (hal.cell (p := ⟨gh, 0, none⟩) hg6).trans p0
                    have pa1 := (hal.cell (p := ⟨gh, 1, none⟩) hg6).trans p1
                    clear hal ehd hlt2g hrun hrm HG HG6 hcuta r0 r1 q0 q1 hwua hwub hv2
                    go_region
                    obtain ⟨W5, hW5⟩ : ∃ W, W = (w6.alloc (.cells #[.int .i64 p, .int .i64 q, .slice none 0 0, .slice none 0 0] 51)).drew := ⟨_, rfl⟩
                    obtain ⟨gb, hgb⟩ : ∃ z, z = w6.heap.size := ⟨_, rfl⟩
                    have hb65 : Below w6.heap.size w6 W5 := by rw [hW5]; exact (below_new _ _).drew
                    have kb : Blk W5 gb 51 #[.int .i64 p, .int .i64 q, .slice none 0 0, .slice none 0 0] := by
                      have h : Blk (w6.alloc (.cells #[.int .i64 p, .int .i64 q, .slice none 0 0, .slice none 0 0] 51)) gb 51 #[.int .i64 p, .int .i64 q, .slice none 0 0, .slice none 0 0] := by rw [hgb]; exact Blk.new _ _ _
                      rw [hW5]; exact h
                    rw [← hW5, ← hgb]
                    have HDI : Hid (DiR w6 gb p q W5 [] none 0) := Lib.hid ⟨hgb, kb, World.ownsRow_nil _ _ _ _, hb65⟩
                    have HNX : Hid (∀ W8, Below w6.heap.size w6 W8 → Blk W8 gk 25 #[.int .i64 ch, .slice A' es.length c'] ∧ W8.ownsRow (gk + 1) 51 4 (.slice A' es.length c') es.length (entsC es) ∧ gk + 1 ≤ W8.heap.size ∧ Below w4.heap.size w4 W8) := Lib.hid fun W8 hb => by
                      have hb2 := bt HO6.out hb
                      have h1 := HI.out.1.blk.below hb2 HI.out.1.blk.lt
                      exact ⟨h1, ownsRow_below HI.out.1.own hb2, h1.lt, bt HI.out.2.1 hb2⟩
                    have HSTEP : Hid (∀ (W8 w7 : World) (e' : Ent) (o : Obj) (A7 : Option Addr) (c7 : Nat), Below w6.heap.size w6 W8 → BodyR W8 (fun b => w6.heap.size ≤ b ∧ b < W8.heap.size) e' → (W8.alloc o).grownBy w7 (Value.slice A' es.length c').ownBlock → w7.ownsRow (gk + 1) 51 4 (.slice A7 (es.length + 1) c7) (es.length + 1) (entsC es ++ entC e') → ((Value.slice A7 (es.length + 1) c7).ownBlock = (Value.slice A' es.length c').ownBlock ∨ (Value.slice A7 (es.length + 1) c7).ownBlock = some (W8.alloc o).heap.size) → DcR w z gk ch (w7.setCell ⟨gk, 1, none⟩ (.slice A7 (es.length + 1) c7)) (es ++ [e']) A7 c7 #[.int .i64 0, .slice none 0 0]) := Lib.hid fun W8 w7 e' o A7 c7 hb hbo hg ho hn => HI.out.1.step (bt HO6.out hb) (hbo.keep (Keeps.refl _ _) fun b h => ⟨Nat.le_trans HO6.out.size h.1, h.2⟩) hg ho hn
                    obtain ⟨gy, hcy⟩ : ∃ gy, ∀ W8, Below w6.heap.size w6 W8 → ∀ i x, zs[i]? = some x → A4 = some ⟨gy, 0, none⟩ ∧ W8.cell? ⟨gy, 3 * i, none⟩ = some (.int .i64 x.op) ∧ W8.cell? ⟨gy, 3 * i + 1, none⟩ = some (.int .i64 x.a) ∧ W8.cell? ⟨gy, 3 * i + 2, none⟩ = some (.int .i64 x.b) := by
                      by_cases h0 : 0 < ny
                      · obtain ⟨gy, capy, hvy, _, hlty⟩ := HOW4.out.form h0
                        obtain ⟨rfl, rfl⟩ : A4 = some ⟨gy, 0, none⟩ ∧ c4 = capy := by injection hvy with a1 a2 a3; exact ⟨a1, a3⟩
                        refine ⟨gy, fun W8 hb i x hx => ?_⟩
                        have ec : ∀ j v, (vi (flatI zs))[j]? = some v → W8.cell? ⟨gy, j, none⟩ = some v := fun j v hv => by
                          have h1 := HOW4.out.cells (g := gy) rfl j v hv
                          rw [Addr.add_lit, Nat.zero_add] at h1
                          exact (hb.cell (p := ⟨gy, j, none⟩) hlty).trans h1
                        obtain ⟨f0, f1, f2⟩ := flatI_get zs i x hx
                        exact ⟨rfl, ec _ _ (vi_get f0), ec _ _ (vi_get f1), ec _ _ (vi_get f2)⟩
                      · refine ⟨0, fun W8 hb i x hx => ?_⟩
                        have h1 := (List.getElem?_eq_some_iff.1 hx).1
                        have h2 := HNT.out
                        have h3 := HNT3.out
                        omega
                    have HCY := Lib.hid hcy
                    have HGB := Lib.hid hgb
                    clear hW5 hgb hb65 kb p0 p1 pa0 pa1 hg6 hcy
                    go_upto_region 22 with fail
                    go_loopw [20] (fun s20 wr => ∃ (i j : Nat) (Av : Option Addr) (cv : Nat), i ≤ nt ∧ j ≤ 600000 ∧ s20 = .int .i64 (j : Int) ∧ Hid (j = 3 * i ∧ (zs.take i).length = i ∧ DiR w6 gb p q wr (zs.take i) Av cv)) (fun s20 _ => ny - (intOf s20).toNat)
                    case atStart => exact ⟨0, 0, none, 0, Nat.zero_le _, by omega, rfl, rfl, rfl, HDI.out⟩
                    case round =>
                      obtain ⟨i, j, Av, cv, hint, hj6, rfl, HJ⟩ := hrel
                      obtain ⟨j2, hj2⟩ : ∃ k, k = j + 2 := ⟨_, rfl⟩
                      have hwj2 : IntKind.i64.wrap ((j : Int) + 2) = (j2 : Int) := by rw [IntKind.wrap_i64]; omega
                      by_cases hlti : i < nt
                      · obtain ⟨x, hx⟩ : ∃ x, zs[i]? = some x := ⟨_, List.getElem?_eq_getElem (by rw [← HNT.out]; exact hlti)⟩
                        have hj2n : (j2 : Int) < (ny : Int) := by have h1 := HNT3.out; have h2 := HJ.out.1; omega
                        obtain ⟨j1, hj1⟩ : ∃ k, k = j + 1 := ⟨_, rfl⟩
                        have hwj1 : IntKind.i64.wrap ((j : Int) + 1) = (j1 : Int) := by rw [IntKind.wrap_i64]; omega
                        obtain ⟨hA4, x0, x1, x2⟩ := HCY.out wr HJ.out.2.2.below i x hx
                        rw [← HJ.out.1] at x0 x1 x2
                        rw [← hj1] at x1
                        rw [← hj2] at x2
                        subst hA4
                        have hib0 : (0 : Int) ≤ (j : Int) ∧ (j : Int) < (ny : Int) := ⟨by omega, by omega⟩
                        have hib1 : (0 : Int) ≤ (j1 : Int) ∧ (j1 : Int) < (ny : Int) := ⟨by omega, by omega⟩
                        have hib2 : (0 : Int) ≤ (j2 : Int) ∧ (j2 : Int) < (ny : Int) := ⟨by omega, hj2n⟩
                        have HTI : Hid (zs.take (i + 1) = zs.take i ++ [x]) := Lib.hid (by rw [List.take_add_one, hx]; rfl)
                        have hown := HJ.out.2.2.own
                        have hbk := HJ.out.2.2.blk
                        have hs6 : gb + 1 ≤ wr.heap.size := hbk.lt
                        obtain ⟨v7, w7, happ0, hown7, hgrow7, hnew7⟩ := run_append_any (P := Tryd.prog) (wr.drew.alloc (.cells (insC x).toArray 54)) (gb + 1) 49 49 54 j0 _ 3 24 Tryd.underlying49 gi gz0 gz1 gz2 rfl (by omega) (.slice Av (zs.take i).length cv) (zs.take i).length (insCs (zs.take i)) ((show wr.drew.ownsRow _ _ _ _ _ _ from hown).alloc _) _ (some ⟨wr.drew.heap.size, 0, none⟩) 1 1 (insC x) (ins_new wr.drew x) (insC_one x) (len_le (by have := HJ.out.2.1; omega)) (by have := HJ.out.2.1; omega) (by rw [size_alloc]; show gb + 1 ≤ wr.heap.size + 1; omega)
                        obtain ⟨A7, c7, rfl, _⟩ := own_len hown7
                        obtain ⟨y2, z2, hdi7⟩ := HJ.out.2.2.step hgrow7 hown7
                        have happ : (apP #[49, 49] 49 #[.slice Av i cv, .slice (some ⟨wr.heap.size, 0, none⟩) 1 1]).run Tryd.prog (wr.alloc (.cells #[.int .i64 x.op, .int .i64 x.a, .int .i64 x.b] 54)).drew = .ok (.slice A7 (i + 1) c7) w7 := by
                          have h := happ0
                          rw [HJ.out.2.1] at h
                          exact h
                        rw [HJ.out.2.1] at hdi7 hbk y2
                        have hcb : wr.cell? ⟨gb, 2, none⟩ = some (.slice Av i cv) := hbk.cell 2
                        have ub : (wr.alloc (.cells #[.int .i64 x.op, .int .i64 x.a, .int .i64 x.b] 54)).cell? ⟨gb, 2, none⟩ = some (.slice Av i cv) := (hbk.alloc _).cell 2
                        have ud : (wr.alloc (.cells #[.int .i64 x.op, .int .i64 x.a, .int .i64 x.b] 54)).drew.cell? ⟨gb, 2, none⟩ = some (.slice Av i cv) := ub
                        have HN7 : Hid (DiR w6 gb p q (w7.setCell ⟨gb, 2, none⟩ (.slice A7 (i + 1) c7)) (zs.take (i + 1)) A7 c7 ∧ (zs.take (i + 1)).length = i + 1) := Lib.hid ⟨by rw [HTI.out]; exact hdi7, by rw [List.length_take]; have := HNT.out; omega⟩
                        clear happ0 hown7 hgrow7 hnew7 hdi7 hown hbk hx hj1 hj2
                        go_upto_region 24 with fail
                        go_region
                        all_goals
                          go_wp2_with fail
                          go_roundw
                          case rel => exact ⟨i + 1, j + 3, _, _, by omega, by have h1 := HNT3.out; have h2 := HJ.out.1; omega, by go_num, by have h2 := HJ.out.1; omega, HN7.out.2, HN7.out.1⟩
                          case measure => simp [intOf]; omega
                      · have hit : i = nt := by omega
                        have hj2n : ¬ (j2 : Int) < (ny : Int) := by have h1 := HNT3.out; have h2 := HJ.out.1; omega
                        have htk : zs.take i = zs := by rw [hit, HNT.out, List.take_length]
                        have hDI := HJ.out.2.2
                        have hle := HJ.out.2.1
                        rw [htk] at hDI hle
                        obtain ⟨n9, hn9⟩ : ∃ k, k = zs.length := ⟨_, rfl⟩
                        have hn9l : n9 ≤ 200000 := by omega
                        have hbk := hDI.blk
                        have hown := hDI.own
                        rw [← hn9] at hbk hown
                        obtain ⟨y0, y1, y2, y3⟩ : wr.cell? ⟨gb, 0, none⟩ = some (.int .i64 p) ∧ wr.cell? ⟨gb, 1, none⟩ = some (.int .i64 q) ∧ wr.cell? ⟨gb, 2, none⟩ = some (.slice Av n9 cv) ∧ wr.cell? ⟨gb, 3, none⟩ = some (.slice none 0 0) := ⟨hbk.cell 0, hbk.cell 1, hbk.cell 2, hbk.cell 3⟩
                        obtain ⟨hk8, hor8, hsz8, hbw8⟩ := HNX.out wr hDI.below
                        have c1 : wr.cell? ⟨gk, 1, none⟩ = some (.slice A' es.length c') := hk8.cell 1
                        obtain ⟨e', he'⟩ : ∃ e : Ent, e = ⟨p, q, Av, cv, zs⟩ := ⟨_, rfl⟩
                        have hbo : BodyR wr (fun b => w6.heap.size ≤ b ∧ b < wr.heap.size) e' := by
                          have h := hDI.own
                          have hr := Rd.of_own h
                          obtain ⟨_, _, ee, hcp⟩ := own_len h
                          cases ee
                          rw [he']
                          exact ⟨hr.mono fun b hb => ⟨by have := hb.1; have := HGB.out; omega, hb.2⟩, hcp, by show zs.length ≤ _; omega, HFO.out.ok, HFO.out.p, HFO.out.w⟩
                        have HENT : Hid (entC e' = [.int .i64 p, .int .i64 q, .slice Av n9 cv, .slice none 0 0]) := Lib.hid (by rw [he', hn9]; rfl)
                        have HFN : Hid (e'.fn = ⟨p, q, zs⟩) := Lib.hid (by rw [he']; rfl)
                        have HBO := Lib.hid hbo
                        have HDB := Lib.hid hDI.below
                        have HK8 := Lib.hid hk8
                        have HOR := Lib.hid hor8
                        have HBW8 := Lib.hid hbw8
                        have HSZ := Lib.hid hsz8
                        clear hit htk hDI hle hn9 hbk hown hk8 hor8 hsz8 hbw8 he' hbo hj2
                        obtain ⟨v7, w7, happ0, hown7, hgrow7, hnew7⟩ := run_append_any (P := Tryd.prog) (wr.alloc (.cells (entC e').toArray 51)) (gk + 1) 23 23 51 i0 _ 4 64 Tryd.underlying23 hi hz0 hz1 hz2 rfl (by omega) (.slice A' es.length c') es.length (entsC es) (HOR.out.alloc _) _ (some ⟨wr.heap.size, 0, none⟩) 1 1 (entC e') (fun_new wr e') (entC_one _) (len_le (by omega)) (by omega) (by have := HSZ.out; rw [size_alloc]; omega)
                        obtain ⟨A7, c7, rfl, _⟩ := own_len hown7
                        have k7 : Blk w7 gk 25 #[.int .i64 ch, .slice A' es.length c'] := (HK8.out.alloc _).grown hgrow7 (fun e => by have := (HOR.out.lt _ e.symm).1; omega)
                        have x1 := k7.cell 1
                        have z1 := k7.frozen 1
                        simp only [List.getElem?_toArray, List.getElem?_cons_zero, List.getElem?_cons_succ] at x1
                        have HST := Lib.hid (HSTEP.out wr w7 e' _ A7 c7 HDB.out HBO.out hgrow7 hown7 hnew7)
                        have HBN : Hid (Below w4.heap.size w4 (w7.setCell ⟨gk, 1, none⟩ (.slice A7 (es.length + 1) c7))) := Lib.hid (below_set (below_row HBW8.out hgrow7 fun b e => by have h1 := (HOR.out.lt b e).1; have h2 := HGK.out; omega) (Nat.le_of_eq HGK.out.symm) _ _)
                        have c1a : (wr.alloc (.cells #[.int .i64 p, .int .i64 q, .slice Av n9 cv, .slice none 0 0] 51)).cell? ⟨gk, 1, none⟩ = some (.slice A' es.length c') := (HK8.out.alloc _).cell 1
                        have happ : (apP #[23, 23] 23 #[.slice A' es.length c', .slice (some ⟨wr.heap.size, 0, none⟩) 1 1]).run Tryd.prog (wr.alloc (.cells #[.int .i64 p, .int .i64 q, .slice Av n9 cv, .slice none 0 0] 51)) = .ok (.slice A7 (es.length + 1) c7) w7 := by have h := happ0; rw [HENT.out] at h; exact h
                        clear happ0 hown7 hgrow7 hnew7 k7
                        go_wp2_with fail
                        go_roundw
                        case rel => exact ⟨ub, es ++ [e'], A7, c7, by rw [List.length_append]; exact hlt, hubl, by rw [List.length_append]; exact h4b, rfl, by rw [List.length_append]; go_num, HST.out, HBN.out, by have h := HRN.out; rw [HUB.out] at h; rw [List.length_append, List.map_append, List.map_singleton, HFN.out]; exact h⟩
                        case measure => simp [intOf]; omega
                  · have hdf : dFun (l.drop uj) = none := by unfold dFun; rw [HDF1.out]; simp only []; rw [HDD.out, hd6]; simp only []; rw [if_neg (by rw [← hny]; exact h3)]
                    have HD : Hid (dCode l = none) := Lib.hid (by rw [HREST.out, ← HU0.out, HI.out.2.2, rest_stop hlt hdf]; rfl)
                    have hrm : (rr != 0) = true := by rw [bne_iff_ne]; omega
                    clear hd6 hd7 hG6 hdf hlda hny hrr h3
                    go_wp2_with (go_at_call 53; refine HG6.out.mono ?_; rintro e w6 ⟨A4, c4, rfl, _, hb6⟩; have k6 := HK5.out.below hb6 HK5.out.lt; clear r0 r1 q0 q1; have r0 := k6.cell 0; have r1 := k6.cell 1; have q0 := k6.frozen 0; have q1 := k6.frozen 1; simp only [List.getElem?_toArray, List.getElem?_cons_zero, List.getElem?_cons_succ] at r0 r1; have HK6 := Lib.hid k6; have HB6 := Lib.hid (bt HB5.out hb6); have HW6 := Lib.hid (bt HW5.out hb6); have HO6 := Lib.hid (bt HO5.out hb6); have HX6 := Lib.hid hb6; clear k6 hb6)
                    obtain ⟨W9, hW9⟩ : ∃ W, W = (w6.setCell ⟨z, 0, none⟩ (.int .i64 0)).setCell ⟨z, 1, none⟩ (.slice none 0 0) := ⟨_, rfl⟩
                    obtain ⟨k9, hb9⟩ := dk_err HZ.out HB6.out HK6.out rfl W9 hW9
                    rw [← hW9]
                    obtain ⟨s0, s1⟩ : W9.cell? ⟨z, 0, none⟩ = some (.int .i64 0) ∧ W9.cell? ⟨z, 1, none⟩ = some (.slice none 0 0) := ⟨k9.cell 0, k9.cell 1⟩
                    rw [HP.out]
                    refine bodyPost_ret (v := .tuple #[.agg #[.int .i64 0, .slice none 0 0], .int .i64 0, .int .i64 2]) (by simp [results, Tryd.results24, go_sem, s0, s1]) rfl ?_
                    unfold DKPost
                    rw [HD.out]
                    exact ⟨rfl, hb9⟩
              · have hx2 : ((nx : Int) != 2) = true := by simp; omega
                have hdf : dFun (l.drop uj) = none := by
                  unfold dFun
                  rw [hd1]
                  rw [hnx] at h2
                  rcases xs with _ | ⟨p, _ | ⟨q, _ | ⟨r, t⟩⟩⟩
                  · rfl
                  · rfl
                  · simp at h2
                  · rfl
                have HD : Hid (dCode l = none) := Lib.hid (by rw [HREST.out, ← HU0.out, HI.out.2.2, rest_stop hlt hdf]; rfl)
                clear hd1 hd2 hG hdf hldj hnx h2
                go_wp2_with (go_at_call 53; refine HG.out.mono ?_; rintro e w5 ⟨A2, c2, rfl, _, hb5⟩; have k5 := HI.out.1.res.below hb5 HI.out.1.res.lt; have r0 := k5.cell 0; have r1 := k5.cell 1; have q0 := k5.frozen 0; have q1 := k5.frozen 1; simp only [List.getElem?_toArray, List.getElem?_cons_zero, List.getElem?_cons_succ] at r0 r1; have HK5 := Lib.hid k5; have HB5 := Lib.hid (bt HI.out.1.below hb5); have HW5 := Lib.hid (bt HI.out.2.1 hb5); have HO5 := Lib.hid hb5; clear k5 hb5)
                obtain ⟨W9, hW9⟩ : ∃ W, W = (w5.setCell ⟨z, 0, none⟩ (.int .i64 0)).setCell ⟨z, 1, none⟩ (.slice none 0 0) := ⟨_, rfl⟩
                obtain ⟨k9, hb9⟩ := dk_err HZ.out HB5.out HK5.out rfl W9 hW9
                rw [← hW9]
                obtain ⟨s0, s1⟩ : W9.cell? ⟨z, 0, none⟩ = some (.int .i64 0) ∧ W9.cell? ⟨z, 1, none⟩ = some (.slice none 0 0) := ⟨k9.cell 0, k9.cell 1⟩
                rw [HP.out]
                refine bodyPost_ret (v := .tuple #[.agg #[.int .i64 0, .slice none 0 0], .int .i64 0, .int .i64 2]) (by simp [results, Tryd.results24, go_sem, s0, s1]) rfl ?_
                unfold DKPost
                rw [HD.out]
                exact ⟨rfl, hb9⟩
          · have hne : es.length = nn := by omega
            have HD : Hid (dCode l = some (ch, es.map Ent.fn, uj)) := Lib.hid (by
              rw [HREST.out, ← HU0.out, HI.out.2.2, hne, Nat.sub_self]
              simp [dFuns, rest])
            clear hne
            have k1 := HI.out.1.blk
            have kz := HI.out.1.res
            obtain ⟨c0, c1⟩ : wr.cell? ⟨gk, 0, none⟩ = some (.int .i64 ch) ∧ wr.cell? ⟨gk, 1, none⟩ = some (.slice A' es.length c') := ⟨k1.cell 0, k1.cell 1⟩
            obtain ⟨r0, r1⟩ : wr.cell? ⟨z, 0, none⟩ = some (.int .i64 0) ∧ wr.cell? ⟨z, 1, none⟩ = some (.slice none 0 0) := ⟨kz.cell 0, kz.cell 1⟩
            have q0 := kz.frozen 0
            have q1 := kz.frozen 1
            obtain ⟨W9, hW9⟩ : ∃ W, W = (wr.setCell ⟨z, 0, none⟩ (.int .i64 ch)).setCell ⟨z, 1, none⟩ (.slice A' es.length c') := ⟨_, rfl⟩
            have k9 : Blk W9 z 25 #[.int .i64 ch, .slice A' es.length c'] := by
              rw [hW9]
              have := (kz.set_ 0 (.int .i64 ch)).set_ 1 (.slice A' es.length c')
              simpa using this
            have hzw : w.heap.size ≤ z := Nat.le_of_eq HZ.out.symm
            have hb9 : Below w.heap.size w W9 := by rw [hW9]; exact below_set (below_set HI.out.1.below hzw _ _) hzw _ _
            have hco9 : CoR W9 (fun b => b < W9.heap.size) A' c' es := by
              have h := HI.out.1
              have hr := Rd.of_own h.own
              obtain ⟨_, _, ee, hcp⟩ := own_len h.own
              cases ee
              have hzg := h.lt
              have h0 : CoR wr (fun b => gk + 1 ≤ b ∧ b < wr.heap.size) A' c' es := ⟨hr, hcp, by omega, fun e he => (h.bod e he).keep (Keeps.refl _ _) fun _ hb => ⟨hb.1, hb.2.1⟩⟩
              rw [hW9]
              refine h0.keep (Keeps.setCell (Keeps.setCell (Keeps.refl _ _) (fun hh => by have : gk + 1 ≤ z := hh.1; omega) _) (fun hh => by have : gk + 1 ≤ z := hh.1; omega) _) fun b hb => ?_
              simpa using hb.2
            have HW9 := Lib.hid hW9
            have HK9 := Lib.hid k9
            have HB9 := Lib.hid hb9
            have HCO9 := Lib.hid hco9
            clear k1 kz hW9 k9 hb9 hco9 hzw
            go_wp2_with fail
            rw [← HW9.out]
            obtain ⟨s0, s1⟩ : W9.cell? ⟨z, 0, none⟩ = some (.int .i64 ch) ∧ W9.cell? ⟨z, 1, none⟩ = some (.slice A' es.length c') := ⟨HK9.out.cell 0, HK9.out.cell 1⟩
            rw [HP.out]
            refine bodyPost_ret (v := .tuple #[.agg #[.int .i64 ch, .slice A' es.length c'], .int .i64 (uj : Int), .int .i64 0]) (by simp [results, Tryd.results24, go_sem, s0, s1]) rfl ?_
            unfold DKPost
            rw [HD.out]
            exact ⟨A', c', es, by rw [List.length_map], rfl, HCO9.out, HB9.out⟩
end Go.Proofs.YtbdknncmlcbbpaaDoor
