/-
  SHAPES: after.
-/
import Derived.Test.YtdhmaopodcccmaaDoorG14
set_option linter.unusedVariables false
namespace Go.Proofs.YtdhmaopodcccmaaDoor
open Go.RowKit WM TR KM

/-- A load of a shape, kept shut. -/
def ldS (v : Value) : Sem Value := Instr.loadAt 117 v
theorem shutS (v : Value) : Instr.loadAt 117 v = ldS v := rfl
theorem load_sh {W : World} {b o : Nat} {s : Sh} (hl : s.l.length = 33) (h : ∀ i v, (shC s)[i]? = some v → W.cell? ⟨b, o + i, none⟩ = some v) : (ldS (.pointer (some ⟨b, o, none⟩))).run Tryd.prog W = .ok (.agg (shC s).toArray) W :=
  run_loadAt_mid W b o 117 (shC s) _ h Tryd.underlying117 rfl (by rw [size_sh, shC_length, hl])
theorem Blk.load_sh {W : World} {b : Nat} {s : Sh} (hl : s.l.length = 33) (h : Blk W b 117 (shC s).toArray) : (ldS (.pointer (some ⟨b, 0, none⟩))).run Tryd.prog W = .ok (.agg (shC s).toArray) W :=
  Go.Proofs.YtdhmaopodcccmaaDoor.load_sh hl fun i v hv => by rw [h.cell, Nat.zero_add]; simpa using hv
/-- What after works with. -/
structure AfW (w : World) (B : Nat) (W : World) (s : Sh) (x : Ins) (r : Int × Bool × Int × Bool) : Prop where
  bs : Blk W B 117 (shC s).toArray
  bx : Blk W (B + 1) 54 #[.int .i64 x.op, .int .i64 x.a, .int .i64 x.b]
  br : Blk W (B + 2) 117 (shC zeroS).toArray
  be : Blk W (B + 3) 123 #[.int .i64 r.1, .bool r.2.1, .int .i64 r.2.2.1, .bool r.2.2.2]
  below : Below w.heap.size w W
theorem AfW.next {w : World} {B : Nat} {W W' : World} {s : Sh} {x : Ins} {r : Int × Bool × Int × Bool} (h : AfW w B W s x r) (hb : Below W.heap.size W W') : AfW w B W' s x r :=
  ⟨h.bs.below hb h.bs.lt, h.bx.below hb h.bx.lt, h.br.below hb h.br.lt, h.be.below hb h.be.lt, bt h.below hb⟩
theorem shC_set0 (s : Sh) (v : Int) : (shC s).toArray.setIfInBounds 0 (.int .i64 v) = (shC ⟨v, s.l⟩).toArray := by simp [shC]
theorem shC_set1 (s : Sh) (i : Nat) (v : Int) : (shC s).toArray.setIfInBounds (1 + i) (.int .i16 v) = (shC ⟨s.h, s.l.set i v⟩).toArray := by simp [shC, Nat.add_comm 1 i, List.map_set]
theorem AfW.h {w : World} {B : Nat} {W : World} {s : Sh} {x : Ins} {r : Int × Bool × Int × Bool} (h : AfW w B W s x r) (hw : w.heap.size ≤ B) (v : Int) : AfW w B (W.setCell ⟨B, 0, none⟩ (.int .i64 v)) ⟨v, s.l⟩ x r :=
  ⟨by rw [← shC_set0]; exact h.bs.set_ 0 _, h.bx.far (by show B + 1 ≠ B; omega) _, h.br.far (by show B + 2 ≠ B; omega) _, h.be.far (by show B + 3 ≠ B; omega) _, h.below.setCell (p := ⟨B, 0, none⟩) hw _⟩
theorem AfW.l {w : World} {B : Nat} {W : World} {s : Sh} {x : Ins} {r : Int × Bool × Int × Bool} (h : AfW w B W s x r) (hw : w.heap.size ≤ B) (i : Nat) (v : Int) : AfW w B (W.setCell ⟨B, 1 + i, none⟩ (.int .i16 v)) ⟨s.h, s.l.set i v⟩ x r :=
  ⟨by rw [← shC_set1]; exact h.bs.set_ _ _, h.bx.far (by show B + 1 ≠ B; omega) _, h.br.far (by show B + 2 ≠ B; omega) _, h.be.far (by show B + 3 ≠ B; omega) _, h.below.setCell (p := ⟨B, 1 + i, none⟩) hw _⟩
theorem AfW.cells {w : World} {B : Nat} {W : World} {s : Sh} {x : Ins} {r : Int × Bool × Int × Bool} (h : AfW w B W s x r) :
    W.cell? ⟨B, 0, none⟩ = some (.int .i64 s.h) ∧ W.frozen? ⟨B, 0, none⟩ = false ∧ W.cell? ⟨B + 1, 0, none⟩ = some (.int .i64 x.op) ∧ W.cell? ⟨B + 1, 2, none⟩ = some (.int .i64 x.b) ∧ W.cell? ⟨B + 3, 0, none⟩ = some (.int .i64 r.1) ∧ W.cell? ⟨B + 3, 1, none⟩ = some (.bool r.2.1) ∧ W.cell? ⟨B + 3, 2, none⟩ = some (.int .i64 r.2.2.1) :=
  ⟨by rw [h.bs.cell]; rfl, h.bs.frozen 0, h.bx.cell 0, h.bx.cell 2, h.be.cell 0, h.be.cell 1, h.be.cell 2⟩
theorem AfW.cell1 {w : World} {B : Nat} {W : World} {s : Sh} {x : Ins} {r : Int × Bool × Int × Bool} (h : AfW w B W s x r) (hl : s.l.length = 33) (i : Nat) (hi : i < 33) : W.cell? ⟨B, 1 + i, none⟩ = some (.int .i16 (at16 s.l i)) ∧ W.frozen? ⟨B, 1 + i, none⟩ = false :=
  ⟨by rw [h.bs.cell]; simpa using shC_get s i (by omega), h.bs.frozen _⟩
theorem eff_small (op : Int) : 0 ≤ (effAt op).1 ∧ (effAt op).1 ≤ 2 ∧ 0 ≤ (effAt op).2.2.1 ∧ (effAt op).2.2.1 ≤ 1 := by
  have h : ∀ k : Nat, 0 ≤ ((eff[k]?).getD (0, false, 0, false)).1 ∧ ((eff[k]?).getD (0, false, 0, false)).1 ≤ 2 ∧ 0 ≤ ((eff[k]?).getD (0, false, 0, false)).2.2.1 ∧ ((eff[k]?).getD (0, false, 0, false)).2.2.1 ≤ 1 := by
    intro k
    by_cases hk : k < 19
    · have : ∀ k : Fin 19, 0 ≤ ((eff[k.1]?).getD (0, false, 0, false)).1 ∧ ((eff[k.1]?).getD (0, false, 0, false)).1 ≤ 2 ∧ 0 ≤ ((eff[k.1]?).getD (0, false, 0, false)).2.2.1 ∧ ((eff[k.1]?).getD (0, false, 0, false)).2.2.1 ≤ 1 := by decide
      exact this ⟨k, hk⟩
    · have hl : eff.length = 19 := rfl
      rw [List.getElem?_eq_none (by omega)]; decide
  exact h op.toNat
def AftPost (o : Option Sh) (w : World) (e : Ending) (w' : World) : Prop := e = .returned (.tuple #[.agg (shC (o.getD zeroS)).toArray, .bool o.isSome]) ∧ Below w.heap.size w w'
theorem results_cell_tmp_row {P : Program} {fn : Func} {p u : Tmp} {ty : TypeId} (h : fn.results = #[.cell p ty, .tmp u]) (tmps : Array Value) (w : World) (g : Nat) (t : TypeId) (cs : Array Value) (fr : Nat × Nat) (d : TypeDesc)
    (hp : tmps.getD p undef = .pointer (some ⟨g, 0, none⟩)) (hg : w.heap[g]? = some (.cells cs t fr))
    (hu : P.underlying ty = some d) (hd : (match d with | .struct _ | .array _ _ => true | _ => false) = true) (hi : (P.info? ty).map (·.size) = some cs.size) (v : Value) (hv : tmps.getD u undef = v) :
    (results fn tmps).run P w = .ok (.tuple #[.agg cs, v]) w := by
  have hp' : tmps[p]?.getD undef = .pointer (some ⟨g, 0, none⟩) := by simpa using hp
  have hv' : tmps[u]?.getD undef = v := by simpa using hv
  simp [results, h, hp', hv', asAddr, run_loadVar_row w g t ty cs fr d hg hu hd hi]
attribute [local go_sem ↓] shutS
set_option maxRecDepth 100000 in
set_option maxHeartbeats 8000000 in
theorem after_is (x : Ins) (s : Sh) (hop : 0 ≤ x.op ∧ x.op < 19) (hb : (effAt x.op).2.1 = true → 0 ≤ x.b ∧ x.b ≤ 3) (hs : 0 ≤ s.h ∧ s.h ≤ 32) (hl : s.l.length = 33) (w : World) (hT : ET w) (hg : 0 < w.heap.size) :
    Calls Tryd.prog 77 #[.agg (shC s).toArray, .agg #[.int .i64 x.op, .int .i64 x.a, .int .i64 x.b]] w (AftPost (after x s) w) := by
  obtain ⟨B, hB⟩ : ∃ B, B = w.heap.size := ⟨_, rfl⟩
  obtain ⟨r, hr⟩ : ∃ r, effAt x.op = r := ⟨_, rfl⟩
  obtain ⟨o, ho⟩ : ∃ o : Nat, x.op = (o : Int) := ⟨x.op.toNat, by omega⟩
  have hro : eff[o]? = some r := by
    have h19 : o < eff.length := by show o < 19; omega
    rw [← hr]
    unfold effAt
    rw [ho, Int.toNat_natCast, List.getElem?_eq_getElem h19]; rfl
  obtain ⟨W1, hW1⟩ : ∃ W1, W1 = ((w.alloc (.cells (shC s).toArray 117)).alloc (.cells #[.int .i64 x.op, .int .i64 x.a, .int .i64 x.b] 54)).alloc (.cells (shC zeroS).toArray 117) := ⟨_, rfl⟩
  have hb1 : Below w.heap.size w W1 := by rw [hW1]; exact ba (ba (below_new _ _) _) _
  have e0 := (hT.below hb1 hg) o r hro 0 _ rfl
  have e1 := (hT.below hb1 hg) o r hro 1 _ rfl
  have e2 := (hT.below hb1 hg) o r hro 2 _ rfl
  have e3 := (hT.below hb1 hg) o r hro 3 _ rfl
  rw [Nat.add_zero] at e0
  have hsz1 : W1.heap.size = B + 3 := by rw [hW1, hB]; simp
  have HA : Hid (AfW w B (W1.alloc (.cells #[.int .i64 r.1, .bool r.2.1, .int .i64 r.2.2.1, .bool r.2.2.2] 123)) s x r) := Lib.hid (by
    refine ⟨?_, ?_, ?_, by rw [← hsz1]; exact Blk.new _ _ _, ba hb1 _⟩
    · rw [hW1, hB]; exact (((Blk.new _ _ _).alloc _).alloc _).alloc _
    · rw [hW1, hB, ← size_alloc w (.cells (shC s).toArray 117)]; exact ((Blk.new _ _ _).alloc _).alloc _
    · have : B + 2 = ((w.alloc (.cells (shC s).toArray 117)).alloc (.cells #[.int .i64 x.op, .int .i64 x.a, .int .i64 x.b] 54)).heap.size := by rw [hB]; simp
      rw [hW1, this]; exact (Blk.new _ _ _).alloc _)
  have hob : (0 : Int) ≤ (o : Int) ∧ (o : Int) < 19 := by omega
  have x0 : W1.cell? ⟨B + 1, 0, none⟩ = some (.int .i64 (o : Int)) := by
    have h : Blk W1 (B + 1) 54 #[.int .i64 x.op, .int .i64 x.a, .int .i64 x.b] := by
      rw [hW1, hB, ← size_alloc w (.cells (shC s).toArray 117)]; exact (Blk.new _ _ _).alloc _
    rw [h.cell 0, ← ho]; rfl
  obtain ⟨cs, hcs⟩ : ∃ cs, cs = (shC s).toArray := ⟨_, rfl⟩
  have HCS := Lib.hid hcs
  have HW1 : Hid (W1 = ((w.alloc (.cells cs 117)).alloc (.cells #[.int .i64 (o : Int), .int .i64 x.a, .int .i64 x.b] 54)).alloc (.cells #[.int .i64 0, .int .i16 0, .int .i16 0, .int .i16 0, .int .i16 0, .int .i16 0, .int .i16 0, .int .i16 0, .int .i16 0, .int .i16 0, .int .i16 0, .int .i16 0, .int .i16 0, .int .i16 0, .int .i16 0, .int .i16 0, .int .i16 0, .int .i16 0, .int .i16 0, .int .i16 0, .int .i16 0, .int .i16 0, .int .i16 0, .int .i16 0, .int .i16 0, .int .i16 0, .int .i16 0, .int .i16 0, .int .i16 0, .int .i16 0, .int .i16 0, .int .i16 0, .int .i16 0, .int .i16 0] 117)) := Lib.hid (by rw [hcs, ← ho]; exact hW1)
  have HSZ := Lib.hid hsz1
  have HB := Lib.hid hB
  have HO := Lib.hid ho
  have HR := Lib.hid hr
  have HBB := Lib.hid hb
  have HS := Lib.hid hs
  rw [← hcs, ho]
  clear hcs hr ho hT hg hro hW1 hb1 hsz1 hB hb hs
  go_enter Tryd.func77, Tryd.ntmps77
  go_upto_region 1 with fail
  rw [← HW1.out, ← HB.out, show B + 1 + 1 = B + 2 from rfl]
  go_upto_region 2 with fail
  rw [HSZ.out]
  obtain ⟨W2, hW2⟩ : ∃ W2, W2 = W1.alloc (.cells #[.int .i64 r.1, .bool r.2.1, .int .i64 r.2.2.1, .bool r.2.2.2] 123) := ⟨_, rfl⟩
  rw [← hW2] at HA ⊢
  obtain ⟨fl, hfl⟩ : ∃ fl, floorAt s.l s.h.toNat = fl := ⟨_, rfl⟩
  have HFL : Hid (Calls Tryd.prog 89 #[.agg cs] W2 fun e w' => e = .returned (.int .i64 (fl : Int)) ∧ Below W2.heap.size W2 w') := Lib.hid (by rw [HCS.out, ← hfl]; exact floor_is s HS.out hl W2)
  have hld := Blk.load_sh hl HA.out.bs
  rw [← HCS.out] at hld
  have HFF := Lib.hid hfl
  clear hW2 e0 e1 e2 e3 hob hfl x0
  go_upto_region 3 with (go_at_call 89; refine HFL.out.mono ?_; rintro e w3 ⟨rfl, hb3⟩)
  have HA3 := Lib.hid (HA.out.next hb3)
  clear hld hb3
  obtain ⟨c0, f0, x0, x2, e0, e1, e2⟩ := HA3.out.cells
  rw [HO.out] at x0
  have hrn : 0 ≤ r.1 ∧ r.1 ≤ 2 ∧ 0 ≤ r.2.2.1 ∧ r.2.2.1 ≤ 1 := by rw [← HR.out]; exact eff_small _
  obtain ⟨r1, r2, r3, r4⟩ := r
  simp only at c0 f0 x0 x2 e0 e1 e2 hrn
  have hsh : 0 ≤ s.h ∧ s.h ≤ 32 := HS.out
  have hw4 : IntKind.i64.wrap (s.h - r1) = s.h - r1 := by rw [IntKind.wrap_i64]; omega
  go_upto_region 4 with fail
  obtain ⟨W4, hW4⟩ : ∃ W4, W4 = w3.setCell ⟨B, 0, none⟩ (.int .i64 (s.h - r1)) := ⟨_, rfl⟩
  have HA4 : Hid (AfW w B W4 ⟨s.h - r1, s.l⟩ x (r1, r2, r3, r4)) := Lib.hid (by rw [hW4]; exact HA3.out.h (Nat.le_of_eq HB.out.symm) _)
  rw [← hW4]
  clear hW4 c0 f0 x0 x2 e0 e1 e2 hw4 HA3 HA HFL
  obtain ⟨c0, f0, x0, x2, e0, e1, e2⟩ := HA4.out.cells
  rw [HO.out] at x0
  simp only at c0 f0 x0 x2 e0 e1 e2
  obtain ⟨P, hP⟩ : ∃ P, s.h - pops x = P := ⟨_, rfl⟩
  have hPd : pops x = r1 + if r2 = true then x.b else 0 := by unfold pops; rw [HR.out]
  have HPP := Lib.hid hP
  go_upto_if 21 with fail
  go_cut [7] from 22 to 27 (fun s7 wv => ∃ V : World, V = wv ∧ s7 = .int .i64 (fl : Int) ∧ Hid (AfW w B V ⟨P, s.l⟩ x (r1, r2, r3, r4)))
  case first =>
    cases r2 with
    | false =>
      go_wp2_with fail
      go_meet
      refine ⟨_, rfl, rfl, ?_⟩
      rw [show P = s.h - r1 by rw [← hP, hPd]; simp]
      exact HA4.out
    | true =>
      have hbb := HBB.out (by rw [HR.out])
      have hw5 : IntKind.i64.wrap (s.h - r1 - x.b) = s.h - r1 - x.b := by rw [IntKind.wrap_i64]; omega
      go_wp2_with fail
      go_meet
      refine ⟨_, rfl, rfl, ?_⟩
      rw [show P = s.h - r1 - x.b by rw [← hP, hPd]; simp; omega]
      exact HA4.out.h (Nat.le_of_eq HB.out.symm) _
  case rest =>
  obtain ⟨V, hV, rfl, HAV⟩ := hcut
  subst hV
  clear c0 f0 x0 x2 e0 e1 e2 HA4
  have hPb : -5 ≤ P ∧ P ≤ 32 := by
    rw [← hP, hPd]
    split
    · next e =>
      have hbb := HBB.out (by rw [HR.out]; exact e)
      omega
    · omega
  have HAFD : Hid (after x s = if P < (fl : Int) then none else if P + r3 > 32 then none else if x.op = 12 then some ⟨P + r3, s.l.set (P + r3).toNat (IntKind.i16.wrap (at16 s.l (P + r3).toNat + 1))⟩ else if x.op = 13 then (if at16 s.l fl = 0 then none else some ⟨P + r3, s.l.set fl (IntKind.i16.wrap (at16 s.l fl - 1))⟩) else some ⟨P + r3, s.l⟩) := Lib.hid (by
    unfold after
    rw [hP, HFF.out, show pushes x = r3 by unfold pushes; rw [HR.out]])
  clear hP hPd
  have hflb : fl ≤ 32 := by have := floorAt_le s.l s.h.toNat; have := HFF.out; omega
  obtain ⟨c0, f0, x0, x2, e0, e1, e2⟩ := HAV.out.cells
  rw [HO.out] at x0
  simp only at c0 f0 x0 x2 e0 e1 e2
  by_cases hlt : P < (fl : Int)
  · have HAF : Hid (after x s = none) := Lib.hid (by rw [HAFD.out, if_pos hlt])
    have hd : decide (P < (fl : Int)) = true := decide_eq_true hlt
    go_wp2_with (refine wpList_store_row rfl 117 (.tmp 4) (.tmp 32) rfl (B + 2) (shC zeroS).toArray rfl rfl 117 (shC zeroS).toArray HAV.out.br (by rw [size_sh]; rfl) rfl (all_oneCell_toArray (shC_one zeroS)) ?_)
    refine bodyPost_ret (results_cell_tmp_row Tryd.results77 _ _ (B + 2) 117 (shC zeroS).toArray (0, 0) _ rfl (HAV.out.br.setRow (shC zeroS).toArray) Tryd.underlying117 rfl (by rw [size_sh]; rfl) (.bool false) rfl) rfl ?_
    rw [HAF.out]
    exact ⟨rfl, below_setRow HAV.out.below (by have := HB.out; omega) _⟩
  · have hd : decide (P < (fl : Int)) = false := decide_eq_false hlt
    have hw8 : IntKind.i64.wrap (P + r3) = P + r3 := by rw [IntKind.wrap_i64]; omega
    go_upto_region 9 with fail
    obtain ⟨W9, hW9⟩ : ∃ W9, W9 = V.setCell ⟨B, 0, none⟩ (.int .i64 (P + r3)) := ⟨_, rfl⟩
    have HA9 : Hid (AfW w B W9 ⟨P + r3, s.l⟩ x (r1, r2, r3, r4)) := Lib.hid (by rw [hW9]; exact HAV.out.h (Nat.le_of_eq HB.out.symm) _)
    rw [← hW9]
    clear hW9 c0 f0 x0 x2 e0 e1 e2 hw8 HAV
    obtain ⟨c0, f0, x0, x2, e0, e1, e2⟩ := HA9.out.cells
    rw [HO.out] at x0
    simp only at c0 f0 x0 x2 e0 e1 e2
    obtain ⟨q, hq⟩ : ∃ q, P + r3 = q := ⟨_, rfl⟩
    rw [hq] at c0 HA9 HAFD
    by_cases hgt : 32 < q
    · have HAF : Hid (after x s = none) := Lib.hid (by rw [HAFD.out, if_neg hlt, if_pos hgt])
      have hd9 : decide (q > 32) = true := decide_eq_true hgt
      have hd9' : decide (32 < q) = true := decide_eq_true hgt
      go_wp2_with (refine wpList_store_row rfl 117 (.tmp 4) (.tmp 42) rfl (B + 2) (shC zeroS).toArray rfl rfl 117 (shC zeroS).toArray HA9.out.br (by rw [size_sh]; rfl) rfl (all_oneCell_toArray (shC_one zeroS)) ?_)
      refine bodyPost_ret (results_cell_tmp_row Tryd.results77 _ _ (B + 2) 117 (shC zeroS).toArray (0, 0) _ rfl (HA9.out.br.setRow (shC zeroS).toArray) Tryd.underlying117 rfl (by rw [size_sh]; rfl) (.bool false) rfl) rfl ?_
      rw [HAF.out]
      exact ⟨rfl, below_setRow HA9.out.below (by have := HB.out; omega) _⟩
    · have hd9 : decide (q > 32) = false := decide_eq_false hgt
      have hd9' : decide (32 < q) = false := decide_eq_false hgt
      obtain ⟨k, hk⟩ : ∃ k : Nat, q = (k : Int) := ⟨q.toNat, by omega⟩
      subst hk
      have hk32 : (0 : Int) ≤ (k : Int) ∧ (k : Int) < 33 := by omega
      have hf33 : (0 : Int) ≤ (fl : Int) ∧ (fl : Int) < 33 := by omega
      rw [if_neg hlt, if_neg hgt, Int.toNat_natCast] at HAFD
      by_cases h12 : o = 12
      · subst h12
        have HAF : Hid (after x s = some ⟨(k : Int), s.l.set k (IntKind.i16.wrap (at16 s.l k + 1))⟩) := Lib.hid (by rw [HAFD.out, if_pos (by have := HO.out; omega)])
        obtain ⟨d0, d1⟩ := HA9.out.cell1 hl k (by omega)
        go_upto_region 18 with fail
        obtain ⟨WA, hWA⟩ : ∃ W, W = W9.setCell ⟨B, 1 + k, none⟩ (.int .i16 (IntKind.i16.wrap (at16 s.l k + 1))) := ⟨_, rfl⟩
        have HAA : Hid (AfW w B WA ⟨(k : Int), s.l.set k (IntKind.i16.wrap (at16 s.l k + 1))⟩ x (r1, r2, r3, r4)) := Lib.hid (by rw [hWA]; exact HA9.out.l (Nat.le_of_eq HB.out.symm) _ _)
        rw [← hWA]
        clear hWA
        have hll : (s.l.set k (IntKind.i16.wrap (at16 s.l k + 1))).length = 33 := by rw [List.length_set]; exact hl
        obtain ⟨ts, hts⟩ : ∃ ts, ts = (shC ⟨(k : Int), s.l.set k (IntKind.i16.wrap (at16 s.l k + 1))⟩).toArray := ⟨_, rfl⟩
        have hldt := Blk.load_sh (s := ⟨(k : Int), s.l.set k (IntKind.i16.wrap (at16 s.l k + 1))⟩) hll HAA.out.bs
        rw [← hts] at hldt
        have HTS := Lib.hid hts
        have HSZT : Hid ((Tryd.prog.info? 117).map (·.size) = some ts.size) := Lib.hid (by rw [size_sh, hts, List.size_toArray, shC_length, hll])
        clear hts
        go_wp2_with (refine wpList_store_row rfl 117 (.tmp 4) (.tmp 70) rfl (B + 2) ts rfl rfl 117 (shC zeroS).toArray HAA.out.br (by rw [size_sh, HTS.out, List.size_toArray, shC_length, hll]) (by rw [HTS.out, List.size_toArray, List.size_toArray, shC_length, shC_length, hll]; rfl) (by rw [HTS.out]; exact all_oneCell_toArray (shC_one _)) ?_)
        refine bodyPost_ret (results_cell_tmp_row Tryd.results77 _ _ (B + 2) 117 ts (0, 0) _ rfl (HAA.out.br.setRow ts) Tryd.underlying117 rfl HSZT.out (.bool true) rfl) rfl ?_
        rw [HAF.out, HTS.out]
        exact ⟨rfl, below_setRow HAA.out.below (by have := HB.out; omega) _⟩
      · have h12i : ((o : Int) == 12) = false := by simp; omega
        by_cases h13 : o = 13
        · subst h13
          obtain ⟨d0, d1⟩ := HA9.out.cell1 hl fl (by omega)
          obtain ⟨z, hz⟩ : ∃ z, at16 s.l fl = z := ⟨_, rfl⟩
          rw [hz] at d0 HAFD
          by_cases hz0 : z = 0
          · have HAF : Hid (after x s = none) := Lib.hid (by rw [HAFD.out, if_neg (by have := HO.out; omega), if_pos (by have := HO.out; omega), if_pos hz0])
            have hzz : (z == 0) = true := by simp [hz0]
            go_wp2_with (refine wpList_store_row rfl 117 (.tmp 4) (.tmp 62) rfl (B + 2) (shC zeroS).toArray rfl rfl 117 (shC zeroS).toArray HA9.out.br (by rw [size_sh]; rfl) rfl (all_oneCell_toArray (shC_one zeroS)) ?_)
            refine bodyPost_ret (results_cell_tmp_row Tryd.results77 _ _ (B + 2) 117 (shC zeroS).toArray (0, 0) _ rfl (HA9.out.br.setRow (shC zeroS).toArray) Tryd.underlying117 rfl (by rw [size_sh]; rfl) (.bool false) rfl) rfl ?_
            rw [HAF.out]
            exact ⟨rfl, below_setRow HA9.out.below (by have := HB.out; omega) _⟩
          · have hzz : (z == 0) = false := by simp [hz0]
            have HAF : Hid (after x s = some ⟨(k : Int), s.l.set fl (IntKind.i16.wrap (z - 1))⟩) := Lib.hid (by rw [HAFD.out, if_neg (by have := HO.out; omega), if_pos (by have := HO.out; omega), if_neg hz0])
            go_upto_region 18 with fail
            obtain ⟨WA, hWA⟩ : ∃ W, W = W9.setCell ⟨B, 1 + fl, none⟩ (.int .i16 (IntKind.i16.wrap (z - 1))) := ⟨_, rfl⟩
            have HAA : Hid (AfW w B WA ⟨(k : Int), s.l.set fl (IntKind.i16.wrap (z - 1))⟩ x (r1, r2, r3, r4)) := Lib.hid (by rw [hWA]; exact HA9.out.l (Nat.le_of_eq HB.out.symm) _ _)
            rw [← hWA]
            clear hWA
            have hll : (s.l.set fl (IntKind.i16.wrap (z - 1))).length = 33 := by rw [List.length_set]; exact hl
            obtain ⟨ts, hts⟩ : ∃ ts, ts = (shC ⟨(k : Int), s.l.set fl (IntKind.i16.wrap (z - 1))⟩).toArray := ⟨_, rfl⟩
            have hldt := Blk.load_sh (s := ⟨(k : Int), s.l.set fl (IntKind.i16.wrap (z - 1))⟩) hll HAA.out.bs
            rw [← hts] at hldt
            have HTS := Lib.hid hts
            have HSZT : Hid ((Tryd.prog.info? 117).map (·.size) = some ts.size) := Lib.hid (by rw [size_sh, hts, List.size_toArray, shC_length, hll])
            clear hts
            go_wp2_with (refine wpList_store_row rfl 117 (.tmp 4) (.tmp 70) rfl (B + 2) ts rfl rfl 117 (shC zeroS).toArray HAA.out.br (by rw [size_sh, HTS.out, List.size_toArray, shC_length, hll]) (by rw [HTS.out, List.size_toArray, List.size_toArray, shC_length, shC_length, hll]; rfl) (by rw [HTS.out]; exact all_oneCell_toArray (shC_one _)) ?_)
            refine bodyPost_ret (results_cell_tmp_row Tryd.results77 _ _ (B + 2) 117 ts (0, 0) _ rfl (HAA.out.br.setRow ts) Tryd.underlying117 rfl HSZT.out (.bool true) rfl) rfl ?_
            rw [HAF.out, HTS.out]
            exact ⟨rfl, below_setRow HAA.out.below (by have := HB.out; omega) _⟩
        · have h13i : ((o : Int) == 13) = false := by simp; omega
          have HAF : Hid (after x s = some ⟨(k : Int), s.l⟩) := Lib.hid (by rw [HAFD.out, if_neg (by have := HO.out; omega), if_neg (by have := HO.out; omega)])
          obtain ⟨ts, hts⟩ : ∃ ts, ts = (shC ⟨(k : Int), s.l⟩).toArray := ⟨_, rfl⟩
          have hldt := Blk.load_sh (s := ⟨(k : Int), s.l⟩) hl HA9.out.bs
          rw [← hts] at hldt
          have HTS := Lib.hid hts
          have HSZT : Hid ((Tryd.prog.info? 117).map (·.size) = some ts.size) := Lib.hid (by rw [size_sh, hts, List.size_toArray, shC_length, hl])
          clear hts
          go_wp2_with (refine wpList_store_row rfl 117 (.tmp 4) (.tmp 70) rfl (B + 2) ts rfl rfl 117 (shC zeroS).toArray HA9.out.br (by rw [size_sh, HTS.out, List.size_toArray, shC_length, hl]) (by rw [HTS.out, List.size_toArray, List.size_toArray, shC_length, shC_length, hl]; rfl) (by rw [HTS.out]; exact all_oneCell_toArray (shC_one _)) ?_)
          refine bodyPost_ret (results_cell_tmp_row Tryd.results77 _ _ (B + 2) 117 ts (0, 0) _ rfl (HA9.out.br.setRow ts) Tryd.underlying117 rfl HSZT.out (.bool true) rfl) rfl ?_
          rw [HAF.out, HTS.out]
          exact ⟨rfl, below_setRow HA9.out.below (by have := HB.out; omega) _⟩
end Go.Proofs.YtdhmaopodcccmaaDoor
