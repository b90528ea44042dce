/-
  Decode of code: dCode.
-/
import Derived.Test.YtbdknncmlcbbpaaDoorG38
set_option linter.unusedVariables false
namespace Go.Proofs.YtbdknncmlcbbpaaDoor
open Go.RowKit WM TR KM

/-- What Decode leaves. -/
def DKPost (l : List UInt8) (w : World) (e : Ending) (w' : World) : Prop :=
  match dCode l with
  | none => e = .returned (.tuple #[.agg #[.int .i64 0, .slice none 0 0], .int .i64 0, .int .i64 2]) ∧ Below w.heap.size w w'
  | some (ch, fs, u) => ∃ A c es, e = .returned (.tuple #[.agg #[.int .i64 ch, .slice A fs.length c], .int .i64 (u : Int), .int .i64 0]) ∧ es.map Ent.fn = fs ∧ CoR w' (fun b => b < w'.heap.size) A c es ∧ Below w.heap.size w w'
/-- The answer's block, emptied. -/
theorem dk_err {w w2 : World} {z : Nat} (hz : z = w.heap.size) (hb2 : Below w.heap.size w w2) {cs : Array Value} (k2 : Blk w2 z 25 cs) (hcs : cs.size = 2) :
    ∀ W9, W9 = (w2.setCell ⟨z, 0, none⟩ (.int .i64 0)).setCell ⟨z, 1, none⟩ (.slice none 0 0) → Blk W9 z 25 #[.int .i64 0, .slice none 0 0] ∧ Below w.heap.size w W9 := by
  intro W9 hW9
  have hw : w.heap.size ≤ z := by omega
  refine ⟨?_, by rw [hW9]; exact below_set (below_set hb2 hw _ _) hw _ _⟩
  rw [hW9]
  have := (k2.set_ 0 (.int .i64 0)).set_ 1 (.slice none 0 0)
  obtain ⟨cs⟩ := cs
  match cs, hcs with
  | [_, _], _ => simpa using this
/-- What is left of the functions. -/
def rest (es : List KM.Fn) (uj : Nat) (o : Option (List KM.Fn × Nat)) : Option (List KM.Fn × Nat) :=
  match o with
  | none => none
  | some (gs, k) => some (es ++ gs, uj + k)
theorem rest_next {es : List KM.Fn} {n uj j u : Nat} {b : List UInt8} {f : KM.Fn} (hj : j < n) (h : dFun (b.drop uj) = some (f, u)) : rest es uj (dFuns (n - j) (b.drop uj)) = rest (es ++ [f]) (uj + u) (dFuns (n - (j + 1)) (b.drop (uj + u))) := by
  rw [show n - j = (n - (j + 1)) + 1 by omega, dFuns, h]
  simp only [List.drop_drop]
  cases dFuns (n - (j + 1)) (b.drop (uj + u)) with
  | none => rfl
  | some r =>
    obtain ⟨gs, k⟩ := r
    simp [rest]
    omega
theorem rest_stop {es : List KM.Fn} {n uj j : Nat} {b : List UInt8} (hj : j < n) (h : dFun (b.drop uj) = none) : rest es uj (dFuns (n - j) (b.drop uj)) = none := by
  rw [show n - j = (n - (j + 1)) + 1 by omega, dFuns, h]
  rfl
theorem dFun_pos {b : List UInt8} {f : KM.Fn} {u : Nat} (h : dFun b = some (f, u)) : FOk f ∧ 4 ≤ u ∧ u ≤ b.length ∧ 3 * f.body.length ≤ b.length := by
  obtain ⟨h1, t, h2, h3⟩ := dFun_ok h
  have h4 := congrArg List.length h2
  rw [List.length_append, ← h3] at h4
  have h5 : (encF f).length = (encL enc [f.p, f.w]).length + ((enc ((flatI f.body).length : Int)).length + ((flatI f.body).flatMap enc).length) := by
    unfold encF encL; rw [List.length_append, List.length_append, List.length_append]
  have h6 := flat_len (e := enc) (least := 1) (xs := flatI f.body) fun x hx => (enc_len (h1.flat x hx)).1
  have h7 := (enc_len (n := ((flatI f.body).length : Int)) ⟨by omega, h1.len⟩).1
  rw [flatI_length] at h6
  have h8 := flat_len (e := enc) (least := 1) (xs := [f.p, f.w]) fun x hx => (enc_len (h1.head x hx)).1
  have h9 := (enc_len (n := (([f.p, f.w] : List Int).length : Int)) ⟨by simp, by simp⟩).1
  have h10 : (encL enc [f.p, f.w]).length = (enc (([f.p, f.w] : List Int).length : Int)).length + ([f.p, f.w].flatMap enc).length := by unfold encL; rw [List.length_append]
  have h11 : ([f.p, f.w] : List Int).length = 2 := rfl
  exact ⟨h1, by omega, by omega, by omega⟩
/-- The loop. -/
structure DcR (w : World) (z gk : Nat) (ch : Int) (wr : World) (es : List Ent) (A : Option Addr) (c : Nat) (cs : Array Value) : Prop where
  low : z = w.heap.size
  lt : z < gk
  res : Blk wr z 25 cs
  sz : cs.size = 2
  blk : Blk wr gk 25 #[.int .i64 ch, .slice A es.length c]
  own : wr.ownsRow (gk + 1) 51 4 (.slice A es.length c) es.length (entsC es)
  bod : ∀ e ∈ es, BodyR wr (fun b => gk + 1 ≤ b ∧ b < wr.heap.size ∧ (Value.slice A es.length c).ownBlock ≠ some b) e
  below : Below w.heap.size w wr
theorem DcR.step {w : World} {z gk : Nat} {ch : Int} {wr W8 w4 : World} {es : List Ent} {A A4 : Option Addr} {c c4 : Nat} {cs : Array Value} {o : Obj} {e' : Ent} (h : DcR w z gk ch wr es A c cs) (h8 : Below wr.heap.size wr W8)
    (hbo : BodyR W8 (fun b => wr.heap.size ≤ b ∧ b < W8.heap.size) e')
    (hg : (W8.alloc o).grownBy w4 (Value.slice A es.length c).ownBlock) (ho : w4.ownsRow (gk + 1) 51 4 (.slice A4 (es.length + 1) c4) (es.length + 1) (entsC es ++ entC e'))
    (hn : (Value.slice A4 (es.length + 1) c4).ownBlock = (Value.slice A es.length c).ownBlock ∨ (Value.slice A4 (es.length + 1) c4).ownBlock = some (W8.alloc o).heap.size) :
    DcR w z gk ch (w4.setCell ⟨gk, 1, none⟩ (.slice A4 (es.length + 1) c4)) (es ++ [e']) A4 c4 cs := by
  have hlt := h.own.lt
  have hgk := h.blk.lt
  have hs8 := h8.size
  have hs4 := hg.size
  rw [size_alloc] at hs4 hn
  have hll : (es ++ [e']).length = es.length + 1 := by simp
  have hkeep : ∀ b, b < W8.heap.size → (Value.slice A es.length c).ownBlock ≠ some b → b ≠ gk → (w4.setCell ⟨gk, 1, none⟩ (.slice A4 (es.length + 1) c4)).heap[b]? = W8.heap[b]? := fun b hb h1 h2 => by
    rw [Below.heap_setCell w4 ⟨gk, 1, none⟩ _ b h2]
    exact (hg.block b (by rw [size_alloc]; omega) (fun e => h1 e.symm)).trans ((below_new W8 o).block b hb)
  have hnew : ∀ b, b < W8.heap.size → (Value.slice A es.length c).ownBlock ≠ some b → (Value.slice A4 (es.length + 1) c4).ownBlock ≠ some b := fun b hb h1 h2 => by
    rcases hn with h3 | h3
    · exact h1 (h3 ▸ h2)
    · rw [h3] at h2; injection h2 with h2; omega
  have hsz : (w4.setCell ⟨gk, 1, none⟩ (.slice A4 (es.length + 1) c4)).heap.size = w4.heap.size := World.size_setCell _ _ _
  have hold : ∀ b, wr.heap.size ≤ b → (Value.slice A es.length c).ownBlock ≠ some b := fun b hb e => by have := (hlt b e).2; omega
  refine ⟨h.low, h.lt, ?_, h.sz, ?_, ?_, fun e he => ?_, ?_⟩
  · exact ((hkeep z (by have := h.res.lt; omega) (fun e => by have := (hlt z e).1; have := h.lt; omega) (by have := h.lt; omega))).trans (h.res.below h8 h.res.lt)
  · have hu : Blk w4 gk 25 #[.int .i64 ch, .slice A es.length c] := ((h.blk.below h8 hgk).alloc o).grown hg (fun e => by have := (hlt _ e.symm).1; omega)
    have := hu.set_ 1 (.slice A4 (es.length + 1) c4)
    rw [hll]
    simpa using this
  · have h2 := ownsRow_setCell_other ho (a := ⟨gk, 1, none⟩) (fun e => by have h3 : gk + 1 ≤ gk := (ho.lt _ e).1; omega) (.slice A4 (es.length + 1) c4)
    rw [hll, entsC_append]
    simpa [entsC] using h2
  · rcases List.mem_append.1 he with he | he
    · refine (h.bod e he).keep (fun b hb' => (hkeep b (by have := hb'.2.1; omega) hb'.2.2 (by have := hb'.1; omega)).trans (h8.block b hb'.2.1)) fun b hb' => ⟨hb'.1, by rw [hsz]; have := hb'.2.1; omega, by rw [hll]; exact hnew b (by have := hb'.2.1; omega) hb'.2.2⟩
    · rw [List.mem_singleton.1 he]
      exact hbo.keep (fun b hb' => hkeep b hb'.2 (hold b hb'.1) (by have := hb'.1; omega)) fun b hb' => ⟨by have := hb'.1; omega, by rw [hsz]; have := hb'.2; omega, by rw [hll]; exact hnew b hb'.2 (hold b hb'.1)⟩
  · have hw : w.heap.size ≤ gk := by have := h.low; have := h.lt; omega
    exact below_set (below_row (bt h.below h8) hg fun b e => by have := (hlt b e).1; omega) hw 1 _
theorem dCode_rest {l : List UInt8} {ch : Int} {u : Nat} {n : Nat} {m : Nat} (h1 : gInt l = .ok ch u) (h2 : gInt (l.drop u) = .ok (n : Int) m) : dCode l = (rest [] (u + m) (dFuns n (l.drop (u + m)))).map fun r => (ch, r.1, r.2) := by
  unfold dCode
  rw [h1]
  simp only []
  rw [h2]
  simp only []
  rw [if_pos (by omega), Int.toNat_natCast]
  cases dFuns n (l.drop (u + m)) with
  | none => rfl
  | some r => rfl
set_option maxRecDepth 100000 in
set_option maxHeartbeats 16000000 in
theorem codeDec_is (A : Option Addr) (c : Nat) (l : List UInt8) (w : World) (ha : Reads w w.heap.size 1 A l.length (bs l)) (hlc : l.length ≤ c) (hl : l.length ≤ 600000) :
    Calls Tryd.prog 23 #[.slice A l.length c] w (DKPost l w) := by
  obtain ⟨i0, hi, hz0, hz1, hz2⟩ := info_parts fun_info
  obtain ⟨nl, hnl⟩ : ∃ z, z = l.length := ⟨_, rfl⟩
  obtain ⟨z, hz⟩ : ∃ z, z = w.heap.size := ⟨_, rfl⟩
  obtain ⟨W1, hW1⟩ : ∃ W, W = w.alloc (.cells #[.int .i64 0, .slice none 0 0] 25) := ⟨_, rfl⟩
  have hb1 : Below w.heap.size w W1 := by rw [hW1]; exact below_new _ _
  have kr : Blk W1 z 25 #[.int .i64 0, .slice none 0 0] := by rw [hW1, hz]; exact Blk.new _ _ _
  have ha1 := (ha.below hb1).more hb1.size
  have hG := getInt W1.heap.size A c l W1 ha1 hlc (by omega)
  obtain ⟨P, hP⟩ : ∃ P, P = DKPost l w := ⟨_, rfl⟩
  rw [← hP, ← hnl]
  rw [← hnl] at hG
  have hln : nl ≤ 600000 := by rw [hnl]; exact hl
  have hlcn : nl ≤ c := by rw [hnl]; exact hlc
  have HLC := Lib.hid hlc
  have HLL := Lib.hid hl
  have HP := Lib.hid hP
  have HNL := Lib.hid hnl
  have HW1 := Lib.hid hW1
  have HZ := Lib.hid hz
  have HB1 := Lib.hid hb1
  have HKR := Lib.hid kr
  have HA := Lib.hid ha1
  clear hP hW1 hz hb1 kr ha ha1 hnl hlc hl
  go_enter Tryd.func23, Tryd.ntmps23
  go_upto_region 1 with fail
  rw [← HW1.out]
  try rw [← HZ.out]
  cases hd : gInt l with
  | more =>
    rw [hd] at hG
    have HG : Hid (Calls Tryd.prog 50 #[.slice A nl c] W1 fun e w' => e = .returned (.tuple #[.int .i64 0, .int .i64 0, .int .i64 3]) ∧ W1 = w') := Lib.hid hG
    have HD : Hid (dCode l = none) := Lib.hid (by unfold dCode; rw [hd])
    clear hd hG
    go_wp2_with (go_at_call 50; refine HG.out.mono ?_; rintro e w2 ⟨rfl, rfl⟩; have k2 := HKR.out; have r0 := k2.cell 0; have r1 := k2.cell 1; have q0 := k2.frozen 0; have q1 := k2.frozen 1; simp only [List.getElem?_toArray, List.getElem?_cons_zero, List.getElem?_cons_succ] at r0 r1; clear k2)
    obtain ⟨W9, hW9⟩ : ∃ W, W = (W1.setCell ⟨z, 0, none⟩ (.int .i64 0)).setCell ⟨z, 1, none⟩ (.slice none 0 0) := ⟨_, rfl⟩
    obtain ⟨k9, hb9⟩ := dk_err HZ.out HB1.out HKR.out rfl W9 hW9
    rw [← hW9]
    obtain ⟨s0, s1⟩ : W9.cell? ⟨z, 0, none⟩ = some (.int .i64 0) ∧ W9.cell? ⟨z, 1, none⟩ = some (.slice none 0 0) := ⟨k9.cell 0, k9.cell 1⟩
    rw [HP.out]
    refine bodyPost_ret (v := .tuple #[.agg #[.int .i64 0, .slice none 0 0], .int .i64 0, .int .i64 2]) (by simp [results, Tryd.results23, go_sem, s0, s1]) rfl ?_
    unfold DKPost
    rw [HD.out]
    exact ⟨rfl, hb9⟩
  | form =>
    rw [hd] at hG
    have HG : Hid (Calls Tryd.prog 50 #[.slice A nl c] W1 fun e w' => e = .returned (.tuple #[.int .i64 0, .int .i64 0, .int .i64 2]) ∧ W1 = w') := Lib.hid hG
    have HD : Hid (dCode l = none) := Lib.hid (by unfold dCode; rw [hd])
    clear hd hG
    go_wp2_with (go_at_call 50; refine HG.out.mono ?_; rintro e w2 ⟨rfl, rfl⟩; have k2 := HKR.out; have r0 := k2.cell 0; have r1 := k2.cell 1; have q0 := k2.frozen 0; have q1 := k2.frozen 1; simp only [List.getElem?_toArray, List.getElem?_cons_zero, List.getElem?_cons_succ] at r0 r1; clear k2)
    obtain ⟨W9, hW9⟩ : ∃ W, W = (W1.setCell ⟨z, 0, none⟩ (.int .i64 0)).setCell ⟨z, 1, none⟩ (.slice none 0 0) := ⟨_, rfl⟩
    obtain ⟨k9, hb9⟩ := dk_err HZ.out HB1.out HKR.out rfl W9 hW9
    rw [← hW9]
    obtain ⟨s0, s1⟩ : W9.cell? ⟨z, 0, none⟩ = some (.int .i64 0) ∧ W9.cell? ⟨z, 1, none⟩ = some (.slice none 0 0) := ⟨k9.cell 0, k9.cell 1⟩
    rw [HP.out]
    refine bodyPost_ret (v := .tuple #[.agg #[.int .i64 0, .slice none 0 0], .int .i64 0, .int .i64 2]) (by simp [results, Tryd.results23, go_sem, s0, s1]) rfl ?_
    unfold DKPost
    rw [HD.out]
    exact ⟨rfl, hb9⟩
  | ok ch u =>
    rw [hd] at hG
    have HG : Hid (Calls Tryd.prog 50 #[.slice A nl c] W1 fun e w' => e = .returned (.tuple #[.int .i64 ch, .int .i64 (u : Int), .int .i64 0]) ∧ W1 = w') := Lib.hid hG
    obtain ⟨hcr, t1, hl1, hu1⟩ := gInt_ok hd
    have hup : 1 ≤ u ∧ u ≤ nl := by
      have h9 := congrArg List.length hl1
      rw [List.length_append, ← hu1, ← HNL.out] at h9
      have h8 := enc_len hcr
      omega
    have HCR := Lib.hid hcr
    have HD1 := Lib.hid hd
    clear hd hG hl1 hu1 hcr
    obtain ⟨bA, oA, hAA, hA1, hA2⟩ := HA.out.lit (by rw [← HNL.out]; omega)
    subst hAA
    have hcut := cutB bA oA u nl c hup.2 hlcn
    have hrd := reads_drop HA.out (u := u) (by rw [← HNL.out]; exact hup.2) HLC.out
    obtain ⟨o2, ho2⟩ : ∃ z, z = (if c = u then oA else oA + u) := ⟨_, rfl⟩
    rw [← ho2] at hcut hrd
    have hG4 := getInt W1.heap.size (some ⟨bA, o2, none⟩) (c - u) (l.drop u) W1 hrd (by rw [List.length_drop]; have := HLC.out; omega) (by rw [List.length_drop]; have := HLL.out; omega)
    have hld : (l.drop u).length = nl - u := by rw [List.length_drop, HNL.out]
    rw [hld] at hG4
    clear ho2 hrd hA1 hA2
    go_upto_region 4 with (go_at_call 50; refine HG.out.mono ?_; rintro e w2 ⟨rfl, rfl⟩; have k2 := HKR.out; have r0 := k2.cell 0; have r1 := k2.cell 1; have q0 := k2.frozen 0; have q1 := k2.frozen 1; simp only [List.getElem?_toArray, List.getElem?_cons_zero, List.getElem?_cons_succ] at r0 r1; clear k2)
    cases hd4 : gInt (l.drop u) with
    | more =>
      rw [hd4] at hG4
      have HG4 : Hid (Calls Tryd.prog 50 #[.slice (some ⟨bA, o2, none⟩) (nl - u) (c - u)] W1 fun e w' => e = .returned (.tuple #[.int .i64 0, .int .i64 0, .int .i64 3]) ∧ W1 = w') := Lib.hid hG4
      have HD : Hid (dCode l = none) := Lib.hid (by unfold dCode; rw [HD1.out]; simp only []; rw [hd4])
      clear hd4 hG4 hld
      go_wp2_with (go_at_call 50; refine HG4.out.mono ?_; rintro e w4 ⟨rfl, rfl⟩)
      obtain ⟨W9, hW9⟩ : ∃ W, W = (W1.setCell ⟨z, 0, none⟩ (.int .i64 0)).setCell ⟨z, 1, none⟩ (.slice none 0 0) := ⟨_, rfl⟩
      obtain ⟨k9, hb9⟩ := dk_err HZ.out HB1.out HKR.out rfl W9 hW9
      rw [← hW9]
      obtain ⟨s0, s1⟩ : W9.cell? ⟨z, 0, none⟩ = some (.int .i64 0) ∧ W9.cell? ⟨z, 1, none⟩ = some (.slice none 0 0) := ⟨k9.cell 0, k9.cell 1⟩
      rw [HP.out]
      refine bodyPost_ret (v := .tuple #[.agg #[.int .i64 0, .slice none 0 0], .int .i64 0, .int .i64 2]) (by simp [results, Tryd.results23, go_sem, s0, s1]) rfl ?_
      unfold DKPost
      rw [HD.out]
      exact ⟨rfl, hb9⟩
    | form =>
      rw [hd4] at hG4
      have HG4 : Hid (Calls Tryd.prog 50 #[.slice (some ⟨bA, o2, none⟩) (nl - u) (c - u)] W1 fun e w' => e = .returned (.tuple #[.int .i64 0, .int .i64 0, .int .i64 2]) ∧ W1 = w') := Lib.hid hG4
      have HD : Hid (dCode l = none) := Lib.hid (by unfold dCode; rw [HD1.out]; simp only []; rw [hd4])
      clear hd4 hG4 hld
      go_wp2_with (go_at_call 50; refine HG4.out.mono ?_; rintro e w4 ⟨rfl, rfl⟩)
      obtain ⟨W9, hW9⟩ : ∃ W, W = (W1.setCell ⟨z, 0, none⟩ (.int .i64 0)).setCell ⟨z, 1, none⟩ (.slice none 0 0) := ⟨_, rfl⟩
      obtain ⟨k9, hb9⟩ := dk_err HZ.out HB1.out HKR.out rfl W9 hW9
      rw [← hW9]
      obtain ⟨s0, s1⟩ : W9.cell? ⟨z, 0, none⟩ = some (.int .i64 0) ∧ W9.cell? ⟨z, 1, none⟩ = some (.slice none 0 0) := ⟨k9.cell 0, k9.cell 1⟩
      rw [HP.out]
      refine bodyPost_ret (v := .tuple #[.agg #[.int .i64 0, .slice none 0 0], .int .i64 0, .int .i64 2]) (by simp [results, Tryd.results23, go_sem, s0, s1]) rfl ?_
      unfold DKPost
      rw [HD.out]
      exact ⟨rfl, hb9⟩
    | ok n m =>
      rw [hd4] at hG4
      have HG4 : Hid (Calls Tryd.prog 50 #[.slice (some ⟨bA, o2, none⟩) (nl - u) (c - u)] W1 fun e w' => e = .returned (.tuple #[.int .i64 n, .int .i64 (m : Int), .int .i64 0]) ∧ W1 = w') := Lib.hid hG4
      obtain ⟨hnr, t2, hl2, hu2⟩ := gInt_ok hd4
      have hmp : u + m ≤ nl := by
        have h9 := congrArg List.length hl2
        rw [List.length_append, ← hu2, hld] at h9
        omega
      by_cases hneg : n < 0
      · have hdn : decide (n < 0) = true := decide_eq_true hneg
        have HD : Hid (dCode l = none) := Lib.hid (by unfold dCode; rw [HD1.out]; simp only []; rw [hd4]; simp only []; rw [if_neg (by omega)])
        clear hd4 hG4 hld hl2 hu2
        go_wp2_with (go_at_call 50; refine HG4.out.mono ?_; rintro e w4 ⟨rfl, rfl⟩)
        obtain ⟨W9, hW9⟩ : ∃ W, W = (W1.setCell ⟨z, 0, none⟩ (.int .i64 0)).setCell ⟨z, 1, none⟩ (.slice none 0 0) := ⟨_, rfl⟩
        obtain ⟨k9, hb9⟩ := dk_err HZ.out HB1.out HKR.out rfl W9 hW9
        rw [← hW9]
        obtain ⟨s0, s1⟩ : W9.cell? ⟨z, 0, none⟩ = some (.int .i64 0) ∧ W9.cell? ⟨z, 1, none⟩ = some (.slice none 0 0) := ⟨k9.cell 0, k9.cell 1⟩
        rw [HP.out]
        refine bodyPost_ret (v := .tuple #[.agg #[.int .i64 0, .slice none 0 0], .int .i64 0, .int .i64 2]) (by simp [results, Tryd.results23, go_sem, s0, s1]) rfl ?_
        unfold DKPost
        rw [HD.out]
        exact ⟨rfl, hb9⟩
      · obtain ⟨nn, rfl⟩ : ∃ k : Nat, n = (k : Int) := ⟨n.toNat, by omega⟩
        have hdn : decide ((nn : Int) < 0) = false := decide_eq_false hneg
        have HREST := Lib.hid (dCode_rest HD1.out hd4)
        have hwum : IntKind.i64.wrap ((u : Int) + (m : Int)) = ((u + m : Nat) : Int) := by rw [IntKind.wrap_i64]; omega
        obtain ⟨u0, hu0⟩ : ∃ k, k = u + m := ⟨_, rfl⟩
        rw [← hu0] at hwum
        have hu0l : u0 ≤ nl := by rw [hu0]; exact hmp
        have HU0 := Lib.hid hu0
        have HNR := Lib.hid hnr
        clear hd4 hG4 hld hl2 hu2 hu0 hmp hnr
        go_upto_region 9 with (go_at_call 50; refine HG4.out.mono ?_; rintro e w4 ⟨rfl, rfl⟩)
        obtain ⟨W2, hW2⟩ : ∃ W, W = W1.alloc (.cells #[.int .i64 ch, .slice none 0 0] 25) := ⟨_, rfl⟩
        obtain ⟨gk, hgk⟩ : ∃ k, k = W1.heap.size := ⟨_, rfl⟩
        have hb12 : Below W1.heap.size W1 W2 := by rw [hW2]; exact below_new _ _
        have hk2 : Blk W2 gk 25 #[.int .i64 ch, .slice none 0 0] := by rw [hW2, hgk]; exact Blk.new _ _ _
        have hinit : DcR w z gk ch W2 [] none 0 #[.int .i64 0, .slice none 0 0] := ⟨HZ.out, by have := HKR.out.lt; omega, HKR.out.below hb12 HKR.out.lt, rfl, hk2, World.ownsRow_nil _ _ _ _, fun e he => (by cases he), bt HB1.out hb12⟩
        rw [← hW2, ← hgk]
        have HINIT := Lib.hid hinit
        have HB12 := Lib.hid hb12
        have HGK := Lib.hid hgk
        clear hW2 hgk hb12 hk2 hinit r0 r1 q0 q1 hcut HG HG4
        go_upto_region 10 with fail
        go_loopw [6, 44] (fun s6 s44 wr => ∃ (uj : Nat) (es : List Ent) (A' : Option Addr) (c' : Nat), es.length ≤ nn ∧ uj ≤ nl ∧ 4 * es.length ≤ uj ∧ s6 = .int .i64 (uj : Int) ∧ s44 = .int .i64 (es.length : Int) ∧ Hid (DcR w z gk ch wr es A' c' #[.int .i64 0, .slice none 0 0] ∧ Below W1.heap.size W1 wr ∧ rest [] u0 (dFuns nn (l.drop u0)) = rest (es.map Ent.fn) uj (dFuns (nn - es.length) (l.drop uj)))) (fun _ s44 _ => nn - (intOf s44).toNat)
        case atStart => exact ⟨u0, [], none, 0, Nat.zero_le _, hu0l, by simp, rfl, rfl, HINIT.out, HB12.out, rfl⟩
        case round =>
          obtain ⟨uj, es, A', c', hen, huj, h4j, rfl, rfl, HI⟩ := hrel
          by_cases hlt : es.length < nn
          · have hlt2 : (es.length : Int) < (nn : Int) := by omega
            have hcutj := cutB bA oA uj nl c huj hlcn
            have hrdj := reads_drop HA.out (u := uj) (by rw [← HNL.out]; exact huj) HLC.out
            obtain ⟨oj, hoj⟩ : ∃ z, z = (if c = uj then oA else oA + uj) := ⟨_, rfl⟩
            rw [← hoj] at hcutj hrdj
            have hldj : (l.drop uj).length = nl - uj := by rw [List.length_drop, HNL.out]
            have hDF := decodeFun_is (some ⟨bA, oj, none⟩) (c - uj) (l.drop uj) wr ((hrdj.below HI.out.2.1).more HI.out.2.1.size) (by rw [hldj]; omega) (by rw [hldj]; omega)
            rw [hldj] at hDF
            have hz' := HI.out.1.res
            cases hdf : dFun (l.drop uj) with
            | none =>
              have HDF : Hid (Calls Tryd.prog 51 #[.slice (some ⟨bA, oj, none⟩) (nl - uj) (c - uj)] wr fun e w' => e = .returned (.tuple #[.agg #[.int .i64 0, .int .i64 0, .slice none 0 0, .slice none 0 0], .int .i64 0, .bool false]) ∧ Below wr.heap.size wr w') := Lib.hid (by have h := hDF; unfold DFPost at h; rw [hdf] at h; exact h)
              have HD : Hid (dCode l = none) := Lib.hid (by rw [HREST.out, ← HU0.out, HI.out.2.2, rest_stop hlt hdf]; rfl)
              clear hDF hdf hrdj hoj hldj hz'
              go_wp2_with (go_at_call 51; refine HDF.out.mono ?_; rintro e w5 ⟨rfl, hb5⟩; have hk5 := (HI.out.1.res.below hb5 HI.out.1.res.lt).alloc (.cells #[.int .i64 0, .int .i64 0, .slice none 0 0, .slice none 0 0] 51); have r0 := hk5.cell 0; have r1 := hk5.cell 1; have q0 := hk5.frozen 0; have q1 := hk5.frozen 1; simp only [List.getElem?_toArray, List.getElem?_cons_zero, List.getElem?_cons_succ] at r0 r1; have HK5 := Lib.hid hk5; have HB5 := Lib.hid (ba (bt HI.out.1.below hb5) (.cells #[.int .i64 0, .int .i64 0, .slice none 0 0, .slice none 0 0] 51)); clear hk5 hb5)
              obtain ⟨W9, hW9⟩ : ∃ W, W = ((w5.alloc (.cells #[.int .i64 0, .int .i64 0, .slice none 0 0, .slice none 0 0] 51)).setCell ⟨z, 0, none⟩ (.int .i64 0)).setCell ⟨z, 1, none⟩ (.slice none 0 0) := ⟨_, rfl⟩
              obtain ⟨k9, hb9⟩ := dk_err HZ.out HB5.out HK5.out rfl W9 hW9
              rw [← hW9]
              obtain ⟨s0, s1⟩ : W9.cell? ⟨z, 0, none⟩ = some (.int .i64 0) ∧ W9.cell? ⟨z, 1, none⟩ = some (.slice none 0 0) := ⟨k9.cell 0, k9.cell 1⟩
              rw [HP.out]
              refine bodyPost_ret (v := .tuple #[.agg #[.int .i64 0, .slice none 0 0], .int .i64 0, .int .i64 2]) (by simp [results, Tryd.results23, go_sem, s0, s1]) rfl ?_
              unfold DKPost
              rw [HD.out]
              exact ⟨rfl, hb9⟩
            | some r =>
              obtain ⟨f, uf⟩ := r
              obtain ⟨hfok, hu4, hul, hfb⟩ := dFun_pos hdf
              rw [hldj] at hul hfb
              obtain ⟨nf, hnf⟩ : ∃ k, k = f.body.length := ⟨_, rfl⟩
              have HDF : Hid (Calls Tryd.prog 51 #[.slice (some ⟨bA, oj, none⟩) (nl - uj) (c - uj)] wr fun e w' => ∃ A5 c5, e = .returned (.tuple #[.agg #[.int .i64 f.p, .int .i64 f.w, .slice A5 nf c5, .slice none 0 0], .int .i64 (uf : Int), .bool true]) ∧ w'.ownsRow wr.heap.size 54 3 (.slice A5 nf c5) nf (insCs f.body) ∧ Below wr.heap.size wr w') := Lib.hid (by have h := hDF; unfold DFPost at h; rw [hdf] at h; rw [hnf]; exact h)
              have HRN := Lib.hid (HI.out.2.2.trans (rest_next hlt hdf))
              have HFO := Lib.hid hfok
              have HNF := Lib.hid hnf
              have hnfl : nf ≤ 200000 := by omega
              have hwu : IntKind.i64.wrap ((uj : Int) + (uf : Int)) = ((uj + uf : Nat) : Int) := by rw [IntKind.wrap_i64]; omega
              clear hDF hdf hrdj hoj hldj hz' hfok hnf hfb
              go_upto_region 14 with (go_at_call 51; refine HDF.out.mono ?_; rintro e w5 ⟨A5, c5, rfl, hown5, hb5⟩; have HO5 := Lib.hid hown5; have HB5 := Lib.hid hb5; clear hown5 hb5)
              obtain ⟨W6, hW6⟩ : ∃ W, W = w5.alloc (.cells #[.int .i64 f.p, .int .i64 f.w, .slice A5 nf c5, .slice none 0 0] 51) := ⟨_, rfl⟩
              obtain ⟨g11, hg11⟩ : ∃ k, k = w5.heap.size := ⟨_, rfl⟩
              have hb56 : Below w5.heap.size w5 W6 := by rw [hW6]; exact below_new _ _
              have hb6 : Below wr.heap.size wr W6 := bt HB5.out hb56
              have k11 : Blk W6 g11 51 #[.int .i64 f.p, .int .i64 f.w, .slice A5 nf c5, .slice none 0 0] := by rw [hW6, hg11]; exact Blk.new _ _ _
              rw [← hW6, ← hg11]
              have kk6 := HI.out.1.blk.below hb6 HI.out.1.blk.lt
              have c1 : W6.cell? ⟨gk, 1, none⟩ = some (.slice A' es.length c') := kk6.cell 1
              obtain ⟨y0, y1, y2, y3⟩ : W6.cell? ⟨g11, 0, none⟩ = some (.int .i64 f.p) ∧ W6.cell? ⟨g11, 1, none⟩ = some (.int .i64 f.w) ∧ W6.cell? ⟨g11, 2, none⟩ = some (.slice A5 nf c5) ∧ W6.cell? ⟨g11, 3, none⟩ = some (.slice none 0 0) := ⟨k11.cell 0, k11.cell 1, k11.cell 2, k11.cell 3⟩
              obtain ⟨e', he'⟩ : ∃ e : Ent, e = ⟨f.p, f.w, A5, c5, f.body⟩ := ⟨_, rfl⟩
              have hbo : BodyR W6 (fun b => wr.heap.size ≤ b ∧ b < W6.heap.size) e' := by
                have h := HO5.out
                rw [HNF.out] at h
                have hr := Rd.of_own h
                obtain ⟨_, _, ee, hcp⟩ := own_len h
                cases ee
                rw [he']
                exact ⟨(hr.keep fun b hb => hb56.block b hb.2).mono fun b hb => ⟨hb.1, Nat.lt_of_lt_of_le hb.2 hb56.size⟩, hcp, by show f.body.length ≤ _; rw [← HNF.out]; exact hnfl, HFO.out.ok, HFO.out.p, HFO.out.w⟩
              have HBO := Lib.hid hbo
              have HB6 := Lib.hid hb6
              have HKK := Lib.hid kk6
              have HE' := Lib.hid he'
              have HENT : Hid (entC e' = [.int .i64 f.p, .int .i64 f.w, .slice A5 nf c5, .slice none 0 0]) := Lib.hid (by rw [he', HNF.out]; rfl)
              have HOR := Lib.hid (ownsRow_below HI.out.1.own hb6)
              have HSZ : Hid (gk + 1 ≤ W6.heap.size) := Lib.hid (by have := kk6.lt; omega)
              have hes : es.length ≤ 150000 := by omega
              clear hW6 hg11 hb56 hb6 k11 kk6 hbo he'
              go_wp2_with (at_builtin; go_loud (refine wpList_append_any _ rfl (.tmp 58) (.tmp 60) 23 rfl (gk + 1) 51 i0 _ 4 64 Tryd.underlying23 hi hz0 hz1 hz2 rfl (by omega) (.slice A' es.length c') es.length (entsC es) rfl (HOR.out.alloc _) _ (some ⟨W6.heap.size, 0, none⟩) 1 1 (entC e') rfl (by have h := fun_new W6 e'; rw [HENT.out] at h ⊢; exact h) (entC_one _) (len_le (by omega)) (by omega) (by have := HSZ.out; rw [size_alloc]; omega) ?_; intro v7 w7 hown7 hgrow7 hnew7; obtain ⟨A7, c7, rfl, _⟩ := own_len hown7; have k7 : Blk w7 gk 25 #[.int .i64 ch, .slice A' es.length c'] := (HKK.out.alloc _).grown hgrow7 (fun e => by have := (HI.out.1.own.lt _ e.symm).1; omega); have x1 := k7.cell 1; have z1 := k7.frozen 1; simp only [List.getElem?_toArray, List.getElem?_cons_zero, List.getElem?_cons_succ] at x1; have HST := Lib.hid (HI.out.1.step HB6.out HBO.out hgrow7 hown7 hnew7); have HBN : Hid (Below W1.heap.size W1 (w7.setCell ⟨gk, 1, none⟩ (.slice A7 (es.length + 1) c7))) := Lib.hid (below_set (below_row (bt HI.out.2.1 HB6.out) hgrow7 fun b e => by have h1 := (HI.out.1.own.lt b e).1; have h2 := HGK.out; omega) (Nat.le_of_eq HGK.out.symm) _ _); clear hown7 hgrow7 hnew7 k7))
              go_roundw
              case rel => exact ⟨uj + uf, es ++ [e'], A7, c7, by rw [List.length_append]; exact hlt, by omega, by rw [List.length_append]; simp; omega, by go_num, by rw [List.length_append]; go_num, HST.out, HBN.out, by have h := HRN.out; rw [List.length_append, List.map_append, List.map_singleton, HE'.out]; exact h⟩
              case measure => simp [intOf]; omega
          · have hne : es.length = nn := by omega
            have HD : Hid (dCode l = some (ch, es.map Ent.fn, uj)) := Lib.hid (by
              rw [HREST.out, ← HU0.out, HI.out.2.2, hne, Nat.sub_self]
              simp [dFuns, rest])
            clear hne
            have k1 := HI.out.1.blk
            have kz := HI.out.1.res
            obtain ⟨c0, c1⟩ : wr.cell? ⟨gk, 0, none⟩ = some (.int .i64 ch) ∧ wr.cell? ⟨gk, 1, none⟩ = some (.slice A' es.length c') := ⟨k1.cell 0, k1.cell 1⟩
            obtain ⟨r0, r1⟩ : wr.cell? ⟨z, 0, none⟩ = some (.int .i64 0) ∧ wr.cell? ⟨z, 1, none⟩ = some (.slice none 0 0) := ⟨kz.cell 0, kz.cell 1⟩
            have q0 := kz.frozen 0
            have q1 := kz.frozen 1
            obtain ⟨W9, hW9⟩ : ∃ W, W = (wr.setCell ⟨z, 0, none⟩ (.int .i64 ch)).setCell ⟨z, 1, none⟩ (.slice A' es.length c') := ⟨_, rfl⟩
            have k9 : Blk W9 z 25 #[.int .i64 ch, .slice A' es.length c'] := by
              rw [hW9]
              have := (kz.set_ 0 (.int .i64 ch)).set_ 1 (.slice A' es.length c')
              simpa using this
            have hzw : w.heap.size ≤ z := Nat.le_of_eq HZ.out.symm
            have hb9 : Below w.heap.size w W9 := by rw [hW9]; exact below_set (below_set HI.out.1.below hzw _ _) hzw _ _
            have hco9 : CoR W9 (fun b => b < W9.heap.size) A' c' es := by
              have h := HI.out.1
              have hr := Rd.of_own h.own
              obtain ⟨_, _, ee, hcp⟩ := own_len h.own
              cases ee
              have hzg := h.lt
              have h0 : CoR wr (fun b => gk + 1 ≤ b ∧ b < wr.heap.size) A' c' es := ⟨hr, hcp, by omega, fun e he => (h.bod e he).keep (Keeps.refl _ _) fun _ hb => ⟨hb.1, hb.2.1⟩⟩
              rw [hW9]
              refine h0.keep (Keeps.setCell (Keeps.setCell (Keeps.refl _ _) (fun hh => by have : gk + 1 ≤ z := hh.1; omega) _) (fun hh => by have : gk + 1 ≤ z := hh.1; omega) _) fun b hb => ?_
              simpa using hb.2
            have HW9 := Lib.hid hW9
            have HK9 := Lib.hid k9
            have HB9 := Lib.hid hb9
            have HCO9 := Lib.hid hco9
            clear k1 kz hW9 k9 hb9 hco9 hzw
            go_wp2_with fail
            rw [← HW9.out]
            obtain ⟨s0, s1⟩ : W9.cell? ⟨z, 0, none⟩ = some (.int .i64 ch) ∧ W9.cell? ⟨z, 1, none⟩ = some (.slice A' es.length c') := ⟨HK9.out.cell 0, HK9.out.cell 1⟩
            rw [HP.out]
            refine bodyPost_ret (v := .tuple #[.agg #[.int .i64 ch, .slice A' es.length c'], .int .i64 (uj : Int), .int .i64 0]) (by simp [results, Tryd.results23, go_sem, s0, s1]) rfl ?_
            unfold DKPost
            rw [HD.out]
            exact ⟨A', c', es, by rw [List.length_map], rfl, HCO9.out, HB9.out⟩
end Go.Proofs.YtbdknncmlcbbpaaDoor
