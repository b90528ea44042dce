/-
  SHAPES: floor, same, after.
-/
import Derived.Test.YtbdknncmlcbbpaaDoorG07
import Derived.ChangeKeysEq
set_option linter.unusedVariables false
namespace Go.Proofs.YtbdknncmlcbbpaaDoor
open Go.RowKit WM TR KM

def shC (s : Sh) : List Value := .int .i64 s.h :: s.l.map (Value.int .i16)
theorem shC_length (s : Sh) : (shC s).length = s.l.length + 1 := by simp [shC]
theorem shC_one (s : Sh) : ∀ u ∈ shC s, u.oneCell' = true := by
  intro u hu
  rcases List.mem_cons.1 hu with rfl | hu
  · rfl
  · obtain ⟨x, _, rfl⟩ := List.mem_map.1 hu
    rfl
theorem shC_get (s : Sh) (i : Nat) (h : i < s.l.length) : (shC s)[1 + i]? = some (.int .i16 (at16 s.l i)) := by
  unfold shC at16
  rw [Nat.add_comm, List.getElem?_cons_succ, List.getElem?_map, List.getElem?_eq_getElem h]; rfl
theorem size_sh : (Tryd.prog.info? 117).map (·.size) = some 34 := by kernel_rfl

set_option maxRecDepth 100000 in
set_option maxHeartbeats 4000000 in
theorem floor_is (s : Sh) (hs : 0 ≤ s.h ∧ s.h ≤ 32) (hl : s.l.length = 33) (w : World) :
    Calls Tryd.prog 89 #[.agg (shC s).toArray] w fun e w' => e = .returned (.int .i64 (floorAt s.l s.h.toNat : Int)) ∧ Below w.heap.size w w' := by
  obtain ⟨B, hB⟩ : ∃ B, B = w.heap.size := ⟨_, rfl⟩
  obtain ⟨W1, hW1⟩ : ∃ W1, W1 = w.alloc (.cells (shC s).toArray 117) := ⟨_, rfl⟩
  have HK : Hid (∀ i, W1.cell? ⟨B, i, none⟩ = (shC s)[i]?) := Lib.hid (fun i => by rw [hW1, hB, (Blk.new w _ _).cell i]; simp)
  have HB1 : Hid (Below w.heap.size w W1) := Lib.hid (by rw [hW1]; exact below_new _ _)
  obtain ⟨h, hh⟩ : ∃ h : Nat, s.h = (h : Int) := ⟨s.h.toNat, by omega⟩
  have c0 : W1.cell? ⟨B, 0, none⟩ = some (.int .i64 (h : Int)) := by rw [HK.out 0, ← hh]; rfl
  have hh32 : h ≤ 32 := by omega
  have hfl : s.h.toNat = h := by omega
  rw [hfl]
  have HC : Hid (∀ i, i < 33 → W1.cell? ⟨B, 1 + i, none⟩ = some (.int .i16 (at16 s.l i))) := Lib.hid (fun i hi => by rw [HK.out]; exact shC_get s i (by omega))
  have HW1 := Lib.hid hW1
  have HB := Lib.hid hB
  obtain ⟨cs, hcs⟩ : ∃ cs, cs = (shC s).toArray := ⟨_, rfl⟩
  rw [← hcs] at HW1 ⊢
  clear hcs hs hW1 hB hh hfl HK
  go_enter Tryd.func89, Tryd.ntmps89
  go_upto_region 1 with fail
  rw [← HW1.out, ← HB.out]
  go_wp2_with fail
  go_loopw [3] (fun i wr => ∃ k : Nat, k ≤ h ∧ i = .int .i64 k ∧ wr = W1 ∧ Hid (floorAt s.l h = floorAt s.l k)) (fun i _ => (intOf i).toNat)
  case atStart => exact ⟨h, Nat.le_refl _, rfl, rfl, rfl⟩
  case round =>
    obtain ⟨k, hk, rfl, rfl, HF⟩ := hrel
    by_cases hk0 : k = 0
    · subst hk0
      go_wp2_with fail
      go_ret
      exact ⟨by rw [HF.out]; rfl, HB1.out⟩
    · have hk1 : (0 : Int) < k := by omega
      have ck := HC.out k (by omega)
      have hkb : (0 : Int) ≤ (k : Int) ∧ (k : Int) < 33 := ⟨by omega, by omega⟩
      obtain ⟨z, hz⟩ : ∃ z, at16 s.l k = z := ⟨_, rfl⟩
      rw [hz] at ck
      obtain ⟨j, hj⟩ : ∃ j, k = j + 1 := ⟨k - 1, by omega⟩
      by_cases hz0 : z = 0
      · have hzz : (z == 0) = true := by simp [hz0]
        have hwj : IntKind.i64.wrap ((k : Int) - 1) = (j : Int) := by rw [IntKind.wrap_i64]; omega
        have HF2 : Hid (floorAt s.l h = floorAt s.l j) := Lib.hid (by
          rw [HF.out, hj, floorAt, if_pos]
          have := hz; rw [hj, hz0] at this; exact this)
        have HJ := Lib.hid hj
        clear hz hj
        go_wp2_with fail
        go_roundw
        case rel => exact ⟨j, by have := HJ.out; omega, rfl, trivial, HF2.out⟩
        case measure => have := HJ.out; simp [intOf]; omega
      · have hzz : (z == 0) = false := by simp [hz0]
        have HF2 : Hid (floorAt s.l h = k) := Lib.hid (by
          rw [HF.out, hj, floorAt, if_neg]
          intro e; apply hz0; rw [← hz, hj]; exact e)
        clear hz hj
        go_wp2_with fail
        go_ret
        exact ⟨by rw [HF2.out]; rfl, HB1.out⟩
theorem Tryd.under16 : Tryd.prog.underlying 114 = some (.int .i16) := by kernel_rfl
theorem Tryd.plain16 : Tryd.prog.plainKey 114 = true := by kernel_rfl
theorem Tryd.cells16 : Tryd.prog.cellsOf 114 = 1 := by kernel_rfl
theorem info16 : (Tryd.prog.info? 114).map (fun i => (i.zero, i.size, i.bytes)) = some (some (.int .i16 0), 1, 2) := by kernel_rfl
theorem eqItems_16 (x y : List Int) (W : World) : ∀ is : List Nat, (∀ i ∈ is, i < x.length ∧ i < y.length) → (Op.eqItems 9999 114 1 (x.map (Value.int .i16)).toArray (y.map (Value.int .i16)).toArray is).run Tryd.prog W = .ok (is.all fun i => x[i]? == y[i]?) W := by
  intro is
  induction is with
  | nil => intro _; simp [Op.eqItems]
  | cons i is ih =>
    intro h
    obtain ⟨h1, h2⟩ := h i (by simp)
    have hg1 : (x.map (Value.int .i16)).toArray[i * 1]? = some (.int .i16 x[i]) := by rw [Nat.mul_one]; simp [List.getElem?_eq_getElem h1]
    have hg2 : (y.map (Value.int .i16)).toArray[i * 1]? = some (.int .i16 y[i]) := by rw [Nat.mul_one]; simp [List.getElem?_eq_getElem h2]
    have hp1 := run_part_plain (P := Tryd.prog) W Tryd.plain16 hg1
    have hp2 := run_part_plain (P := Tryd.prog) W Tryd.plain16 hg2
    have he := run_equalIn_int (P := Tryd.prog) W 9998 114 .i16 .i16 x[i] y[i] Tryd.under16
    have hxy : (x[i]? == y[i]?) = decide (x[i] = y[i]) := by
      rw [List.getElem?_eq_getElem h1, List.getElem?_eq_getElem h2, Bool.eq_iff_iff]
      simp
    simp only [Op.eqItems, Sem.run_bind, hp1, hp2, Result.andThen_ok, he]
    by_cases heq : x[i] = y[i]
    · have hb : (x[i]? == y[i]?) = true := by rw [hxy]; simpa using heq
      rw [List.all_cons, hb]
      simpa [heq] using ih (fun j hj => h j (by simp [hj]))
    · have hb : (x[i]? == y[i]?) = false := by rw [hxy]; simpa using heq
      rw [List.all_cons, hb]
      simp [heq]
theorem all_eq16 (x y : List Int) (n : Nat) (hx : x.length = n) (hy : y.length = n) : ((List.range n).all fun i => x[i]? == y[i]?) = decide (x = y) := by
  rw [Bool.eq_iff_iff]
  simp only [List.all_eq_true, List.mem_range, beq_iff_eq, decide_eq_true_eq]
  constructor
  · intro h
    apply List.ext_getElem?
    intro i
    by_cases hi : i < n
    · exact h i hi
    · rw [List.getElem?_eq_none (by omega), List.getElem?_eq_none (by omega)]
  · rintro rfl i _; rfl
theorem eq33 (x y : List Int) (hx : x.length = 33) (hy : y.length = 33) (W : World) : (binOp .eql 115 (.agg (x.map (Value.int .i16)).toArray) (.agg (y.map (Value.int .i16)).toArray)).run Tryd.prog W = .ok (.bool (decide (x = y))) W := by
  obtain ⟨i0, hi, _⟩ := info_parts info16
  have h1 := run_equalIn_array (P := Tryd.prog) (w := W) 9999 (x.map (Value.int .i16)).toArray (y.map (Value.int .i16)).toArray Tryd.underlying115 hi
  rw [Tryd.cells16, eqItems_16 x y W _ (fun i hi => by rw [List.mem_range] at hi; omega), all_eq16 x y 33 hx hy] at h1
  simp only [binOp]
  simp [Op.equal, Op.maxDepth, h1]
theorem size_33 : (Tryd.prog.info? 115).map (·.size) = some 33 := by kernel_rfl

/-- A load of the handlers, kept shut. -/
def ld33 (v : Value) : Sem Value := Instr.loadAt 115 v
theorem shut33 (v : Value) : Instr.loadAt 115 v = ld33 v := rfl
attribute [local go_sem ↓] shut33
set_option maxRecDepth 100000 in
set_option maxHeartbeats 4000000 in
theorem same_shape (s t : Sh) (hs : s.l.length = 33) (ht : t.l.length = 33) (w : World) :
    Calls Tryd.prog 76 #[.agg (shC s).toArray, .agg (shC t).toArray] w fun e w' => e = .returned (.bool (sameS s t)) ∧ Below w.heap.size w w' := by
  obtain ⟨B, hB⟩ : ∃ B, B = w.heap.size := ⟨_, rfl⟩
  obtain ⟨W1, hW1⟩ : ∃ W1, W1 = (w.alloc (.cells (shC s).toArray 117)).alloc (.cells (shC t).toArray 117) := ⟨_, rfl⟩
  have hK1 : Blk W1 B 117 (shC s).toArray := by rw [hW1, hB]; exact (Blk.new _ _ _).alloc _
  have hK2 : Blk W1 (B + 1) 117 (shC t).toArray := by rw [hW1, hB, ← size_alloc]; exact Blk.new _ _ _
  have HB1 : Hid (Below w.heap.size w W1) := Lib.hid (by rw [hW1]; exact ba (below_new _ _) _)
  have c0 : W1.cell? ⟨B, 0, none⟩ = some (.int .i64 s.h) := by rw [hK1.cell 0]; rfl
  have d0 : W1.cell? ⟨B + 1, 0, none⟩ = some (.int .i64 t.h) := by rw [hK2.cell 0]; rfl
  have HL1 : Hid (∀ i v, (s.l.map (Value.int .i16))[i]? = some v → W1.cell? ⟨B, 1 + i, none⟩ = some v) := Lib.hid (fun i v hv => by rw [hK1.cell, Nat.add_comm]; simpa [shC] using hv)
  have HL2 : Hid (∀ i v, (t.l.map (Value.int .i16))[i]? = some v → W1.cell? ⟨B + 1, 1 + i, none⟩ = some v) := Lib.hid (fun i v hv => by rw [hK2.cell, Nat.add_comm]; simpa [shC] using hv)
  obtain ⟨X, hX⟩ : ∃ X, X = s.l.map (Value.int .i16) := ⟨_, rfl⟩
  obtain ⟨Y, hY⟩ : ∃ Y, Y = t.l.map (Value.int .i16) := ⟨_, rfl⟩
  have hXl : X.length = 33 := by rw [hX]; simpa using hs
  have hYl : Y.length = 33 := by rw [hY]; simpa using ht
  have HEQ : ∀ W : World, (binOp .eql 115 (.agg X.toArray) (.agg Y.toArray)).run Tryd.prog W = .ok (.bool (decide (s.l = t.l))) W := fun W => by rw [hX, hY]; exact eq33 _ _ hs ht W
  rw [← hX] at HL1
  rw [← hY] at HL2
  have HXL := Lib.hid hXl
  have HYL := Lib.hid hYl
  have HW1 := Lib.hid hW1
  have HB := Lib.hid hB
  have hsm : sameS s t = (s.h == t.h && decide (s.l = t.l)) := rfl
  rw [hsm]
  obtain ⟨b, hb⟩ : ∃ b, decide (s.l = t.l) = b := ⟨_, rfl⟩
  rw [hb] at HEQ ⊢
  obtain ⟨h1, hh1⟩ : ∃ h, s.h = h := ⟨_, rfl⟩
  obtain ⟨h2, hh2⟩ : ∃ h, t.h = h := ⟨_, rfl⟩
  rw [hh1] at c0 ⊢
  rw [hh2] at d0 ⊢
  obtain ⟨cs, hcs⟩ : ∃ cs, cs = (shC s).toArray := ⟨_, rfl⟩
  obtain ⟨ds, hds⟩ : ∃ ds, ds = (shC t).toArray := ⟨_, rfl⟩
  rw [← hcs, ← hds] at HW1 ⊢
  clear hcs hds hs ht hW1 hB hK1 hK2 hX hY hXl hYl hsm hb hh1 hh2
  go_enter Tryd.func76, Tryd.ntmps76
  go_upto_region 1 with fail
  rw [← HW1.out, ← HB.out]
  cases hq : (h1 == h2)
  · go_wp2_with fail
    go_ret
    exact ⟨by rw [hq]; rfl, HB1.out⟩
  · have l1 : (ld33 (.pointer (some ⟨B, 1, none⟩))).run Tryd.prog W1 = .ok (.agg X.toArray) W1 := run_loadAt_mid W1 B 1 115 X _ HL1.out Tryd.underlying115 rfl (by rw [size_33, HXL.out])
    have l2 : (ld33 (.pointer (some ⟨B + 1, 1, none⟩))).run Tryd.prog W1 = .ok (.agg Y.toArray) W1 := run_loadAt_mid W1 (B + 1) 1 115 Y _ HL2.out Tryd.underlying115 rfl (by rw [size_33, HYL.out])
    go_wp2_with fail
    go_ret
    exact ⟨by rw [hq]; cases b <;> rfl, HB1.out⟩
end Go.Proofs.YtbdknncmlcbbpaaDoor

/-
  SHAPES: after.
-/
namespace Go.Proofs.YtbdknncmlcbbpaaDoor
open Go.RowKit WM TR KM

/-- A load of a shape, kept shut. -/
def ldS (v : Value) : Sem Value := Instr.loadAt 117 v
theorem shutS (v : Value) : Instr.loadAt 117 v = ldS v := rfl
theorem load_sh {W : World} {b o : Nat} {s : Sh} (hl : s.l.length = 33) (h : ∀ i v, (shC s)[i]? = some v → W.cell? ⟨b, o + i, none⟩ = some v) : (ldS (.pointer (some ⟨b, o, none⟩))).run Tryd.prog W = .ok (.agg (shC s).toArray) W :=
  run_loadAt_mid W b o 117 (shC s) _ h Tryd.underlying117 rfl (by rw [size_sh, shC_length, hl])
theorem Blk.load_sh {W : World} {b : Nat} {s : Sh} (hl : s.l.length = 33) (h : Blk W b 117 (shC s).toArray) : (ldS (.pointer (some ⟨b, 0, none⟩))).run Tryd.prog W = .ok (.agg (shC s).toArray) W :=
  Go.Proofs.YtbdknncmlcbbpaaDoor.load_sh hl fun i v hv => by rw [h.cell, Nat.zero_add]; simpa using hv
/-- What after works with. -/
structure AfW (w : World) (B : Nat) (W : World) (s : Sh) (x : Ins) (r : Int × Bool × Int × Bool) : Prop where
  bs : Blk W B 117 (shC s).toArray
  bx : Blk W (B + 1) 54 #[.int .i64 x.op, .int .i64 x.a, .int .i64 x.b]
  br : Blk W (B + 2) 117 (shC zeroS).toArray
  be : Blk W (B + 3) 123 #[.int .i64 r.1, .bool r.2.1, .int .i64 r.2.2.1, .bool r.2.2.2]
  below : Below w.heap.size w W
theorem AfW.next {w : World} {B : Nat} {W W' : World} {s : Sh} {x : Ins} {r : Int × Bool × Int × Bool} (h : AfW w B W s x r) (hb : Below W.heap.size W W') : AfW w B W' s x r :=
  ⟨h.bs.below hb h.bs.lt, h.bx.below hb h.bx.lt, h.br.below hb h.br.lt, h.be.below hb h.be.lt, bt h.below hb⟩
theorem shC_set0 (s : Sh) (v : Int) : (shC s).toArray.setIfInBounds 0 (.int .i64 v) = (shC ⟨v, s.l⟩).toArray := by simp [shC]
theorem shC_set1 (s : Sh) (i : Nat) (v : Int) : (shC s).toArray.setIfInBounds (1 + i) (.int .i16 v) = (shC ⟨s.h, s.l.set i v⟩).toArray := by simp [shC, Nat.add_comm 1 i, List.map_set]
theorem AfW.h {w : World} {B : Nat} {W : World} {s : Sh} {x : Ins} {r : Int × Bool × Int × Bool} (h : AfW w B W s x r) (hw : w.heap.size ≤ B) (v : Int) : AfW w B (W.setCell ⟨B, 0, none⟩ (.int .i64 v)) ⟨v, s.l⟩ x r :=
  ⟨by rw [← shC_set0]; exact h.bs.set_ 0 _, h.bx.far (by show B + 1 ≠ B; omega) _, h.br.far (by show B + 2 ≠ B; omega) _, h.be.far (by show B + 3 ≠ B; omega) _, h.below.setCell (p := ⟨B, 0, none⟩) hw _⟩
theorem AfW.l {w : World} {B : Nat} {W : World} {s : Sh} {x : Ins} {r : Int × Bool × Int × Bool} (h : AfW w B W s x r) (hw : w.heap.size ≤ B) (i : Nat) (v : Int) : AfW w B (W.setCell ⟨B, 1 + i, none⟩ (.int .i16 v)) ⟨s.h, s.l.set i v⟩ x r :=
  ⟨by rw [← shC_set1]; exact h.bs.set_ _ _, h.bx.far (by show B + 1 ≠ B; omega) _, h.br.far (by show B + 2 ≠ B; omega) _, h.be.far (by show B + 3 ≠ B; omega) _, h.below.setCell (p := ⟨B, 1 + i, none⟩) hw _⟩
theorem AfW.cells {w : World} {B : Nat} {W : World} {s : Sh} {x : Ins} {r : Int × Bool × Int × Bool} (h : AfW w B W s x r) :
    W.cell? ⟨B, 0, none⟩ = some (.int .i64 s.h) ∧ W.frozen? ⟨B, 0, none⟩ = false ∧ W.cell? ⟨B + 1, 0, none⟩ = some (.int .i64 x.op) ∧ W.cell? ⟨B + 1, 2, none⟩ = some (.int .i64 x.b) ∧ W.cell? ⟨B + 3, 0, none⟩ = some (.int .i64 r.1) ∧ W.cell? ⟨B + 3, 1, none⟩ = some (.bool r.2.1) ∧ W.cell? ⟨B + 3, 2, none⟩ = some (.int .i64 r.2.2.1) :=
  ⟨by rw [h.bs.cell]; rfl, h.bs.frozen 0, h.bx.cell 0, h.bx.cell 2, h.be.cell 0, h.be.cell 1, h.be.cell 2⟩
theorem AfW.cell1 {w : World} {B : Nat} {W : World} {s : Sh} {x : Ins} {r : Int × Bool × Int × Bool} (h : AfW w B W s x r) (hl : s.l.length = 33) (i : Nat) (hi : i < 33) : W.cell? ⟨B, 1 + i, none⟩ = some (.int .i16 (at16 s.l i)) ∧ W.frozen? ⟨B, 1 + i, none⟩ = false :=
  ⟨by rw [h.bs.cell]; simpa using shC_get s i (by omega), h.bs.frozen _⟩
theorem eff_small (op : Int) : 0 ≤ (effAt op).1 ∧ (effAt op).1 ≤ 2 ∧ 0 ≤ (effAt op).2.2.1 ∧ (effAt op).2.2.1 ≤ 1 := by
  have h : ∀ k : Nat, 0 ≤ ((eff[k]?).getD (0, false, 0, false)).1 ∧ ((eff[k]?).getD (0, false, 0, false)).1 ≤ 2 ∧ 0 ≤ ((eff[k]?).getD (0, false, 0, false)).2.2.1 ∧ ((eff[k]?).getD (0, false, 0, false)).2.2.1 ≤ 1 := by
    intro k
    by_cases hk : k < 19
    · have : ∀ k : Fin 19, 0 ≤ ((eff[k.1]?).getD (0, false, 0, false)).1 ∧ ((eff[k.1]?).getD (0, false, 0, false)).1 ≤ 2 ∧ 0 ≤ ((eff[k.1]?).getD (0, false, 0, false)).2.2.1 ∧ ((eff[k.1]?).getD (0, false, 0, false)).2.2.1 ≤ 1 := by decide
      exact this ⟨k, hk⟩
    · have hl : eff.length = 19 := rfl
      rw [List.getElem?_eq_none (by omega)]; decide
  exact h op.toNat
def AftPost (o : Option Sh) (w : World) (e : Ending) (w' : World) : Prop := e = .returned (.tuple #[.agg (shC (o.getD zeroS)).toArray, .bool o.isSome]) ∧ Below w.heap.size w w'
theorem results_cell_tmp_row {P : Program} {fn : Func} {p u : Tmp} {ty : TypeId} (h : fn.results = #[.cell p ty, .tmp u]) (tmps : Array Value) (w : World) (g : Nat) (t : TypeId) (cs : Array Value) (fr : Nat × Nat) (d : TypeDesc)
    (hp : tmps.getD p undef = .pointer (some ⟨g, 0, none⟩)) (hg : w.heap[g]? = some (.cells cs t fr))
    (hu : P.underlying ty = some d) (hd : (match d with | .struct _ | .array _ _ => true | _ => false) = true) (hi : (P.info? ty).map (·.size) = some cs.size) (v : Value) (hv : tmps.getD u undef = v) :
    (results fn tmps).run P w = .ok (.tuple #[.agg cs, v]) w := by
  have hp' : tmps[p]?.getD undef = .pointer (some ⟨g, 0, none⟩) := by simpa using hp
  have hv' : tmps[u]?.getD undef = v := by simpa using hv
  simp [results, h, hp', hv', asAddr, run_loadVar_row w g t ty cs fr d hg hu hd hi]
attribute [local go_sem ↓] shutS
set_option maxRecDepth 100000 in
set_option maxHeartbeats 8000000 in
theorem after_is (x : Ins) (s : Sh) (hop : 0 ≤ x.op ∧ x.op < 19) (hb : (effAt x.op).2.1 = true → 0 ≤ x.b ∧ x.b ≤ 3) (hs : 0 ≤ s.h ∧ s.h ≤ 32) (hl : s.l.length = 33) (w : World) (hT : ET w) (hg : 0 < w.heap.size) :
    Calls Tryd.prog 77 #[.agg (shC s).toArray, .agg #[.int .i64 x.op, .int .i64 x.a, .int .i64 x.b]] w (AftPost (after x s) w) := by
  obtain ⟨B, hB⟩ : ∃ B, B = w.heap.size := ⟨_, rfl⟩
  obtain ⟨r, hr⟩ : ∃ r, effAt x.op = r := ⟨_, rfl⟩
  obtain ⟨o, ho⟩ : ∃ o : Nat, x.op = (o : Int) := ⟨x.op.toNat, by omega⟩
  have hro : eff[o]? = some r := by
    have h19 : o < eff.length := by show o < 19; omega
    rw [← hr]
    unfold effAt
    rw [ho, Int.toNat_natCast, List.getElem?_eq_getElem h19]; rfl
  obtain ⟨W1, hW1⟩ : ∃ W1, W1 = ((w.alloc (.cells (shC s).toArray 117)).alloc (.cells #[.int .i64 x.op, .int .i64 x.a, .int .i64 x.b] 54)).alloc (.cells (shC zeroS).toArray 117) := ⟨_, rfl⟩
  have hb1 : Below w.heap.size w W1 := by rw [hW1]; exact ba (ba (below_new _ _) _) _
  have e0 := (hT.below hb1 hg) o r hro 0 _ rfl
  have e1 := (hT.below hb1 hg) o r hro 1 _ rfl
  have e2 := (hT.below hb1 hg) o r hro 2 _ rfl
  have e3 := (hT.below hb1 hg) o r hro 3 _ rfl
  rw [Nat.add_zero] at e0
  have hsz1 : W1.heap.size = B + 3 := by rw [hW1, hB]; simp
  have HA : Hid (AfW w B (W1.alloc (.cells #[.int .i64 r.1, .bool r.2.1, .int .i64 r.2.2.1, .bool r.2.2.2] 123)) s x r) := Lib.hid (by
    refine ⟨?_, ?_, ?_, by rw [← hsz1]; exact Blk.new _ _ _, ba hb1 _⟩
    · rw [hW1, hB]; exact (((Blk.new _ _ _).alloc _).alloc _).alloc _
    · rw [hW1, hB, ← size_alloc w (.cells (shC s).toArray 117)]; exact ((Blk.new _ _ _).alloc _).alloc _
    · have : B + 2 = ((w.alloc (.cells (shC s).toArray 117)).alloc (.cells #[.int .i64 x.op, .int .i64 x.a, .int .i64 x.b] 54)).heap.size := by rw [hB]; simp
      rw [hW1, this]; exact (Blk.new _ _ _).alloc _)
  have hob : (0 : Int) ≤ (o : Int) ∧ (o : Int) < 19 := by omega
  have x0 : W1.cell? ⟨B + 1, 0, none⟩ = some (.int .i64 (o : Int)) := by
    have h : Blk W1 (B + 1) 54 #[.int .i64 x.op, .int .i64 x.a, .int .i64 x.b] := by
      rw [hW1, hB, ← size_alloc w (.cells (shC s).toArray 117)]; exact (Blk.new _ _ _).alloc _
    rw [h.cell 0, ← ho]; rfl
  obtain ⟨cs, hcs⟩ : ∃ cs, cs = (shC s).toArray := ⟨_, rfl⟩
  have HCS := Lib.hid hcs
  have HW1 : Hid (W1 = ((w.alloc (.cells cs 117)).alloc (.cells #[.int .i64 (o : Int), .int .i64 x.a, .int .i64 x.b] 54)).alloc (.cells #[.int .i64 0, .int .i16 0, .int .i16 0, .int .i16 0, .int .i16 0, .int .i16 0, .int .i16 0, .int .i16 0, .int .i16 0, .int .i16 0, .int .i16 0, .int .i16 0, .int .i16 0, .int .i16 0, .int .i16 0, .int .i16 0, .int .i16 0, .int .i16 0, .int .i16 0, .int .i16 0, .int .i16 0, .int .i16 0, .int .i16 0, .int .i16 0, .int .i16 0, .int .i16 0, .int .i16 0, .int .i16 0, .int .i16 0, .int .i16 0, .int .i16 0, .int .i16 0, .int .i16 0, .int .i16 0] 117)) := Lib.hid (by rw [hcs, ← ho]; exact hW1)
  have HSZ := Lib.hid hsz1
  have HB := Lib.hid hB
  have HO := Lib.hid ho
  have HR := Lib.hid hr
  have HBB := Lib.hid hb
  have HS := Lib.hid hs
  rw [← hcs, ho]
  clear hcs hr ho hT hg hro hW1 hb1 hsz1 hB hb hs
  go_enter Tryd.func77, Tryd.ntmps77
  go_upto_region 1 with fail
  rw [← HW1.out, ← HB.out, show B + 1 + 1 = B + 2 from rfl]
  go_upto_region 2 with fail
  rw [HSZ.out]
  obtain ⟨W2, hW2⟩ : ∃ W2, W2 = W1.alloc (.cells #[.int .i64 r.1, .bool r.2.1, .int .i64 r.2.2.1, .bool r.2.2.2] 123) := ⟨_, rfl⟩
  rw [← hW2] at HA ⊢
  obtain ⟨fl, hfl⟩ : ∃ fl, floorAt s.l s.h.toNat = fl := ⟨_, rfl⟩
  have HFL : Hid (Calls Tryd.prog 89 #[.agg cs] W2 fun e w' => e = .returned (.int .i64 (fl : Int)) ∧ Below W2.heap.size W2 w') := Lib.hid (by rw [HCS.out, ← hfl]; exact floor_is s HS.out hl W2)
  have hld := Blk.load_sh hl HA.out.bs
  rw [← HCS.out] at hld
  have HFF := Lib.hid hfl
  clear hW2 e0 e1 e2 e3 hob hfl x0
  go_upto_region 3 with (go_at_call 89; refine HFL.out.mono ?_; rintro e w3 ⟨rfl, hb3⟩)
  have HA3 := Lib.hid (HA.out.next hb3)
  clear hld hb3
  obtain ⟨c0, f0, x0, x2, e0, e1, e2⟩ := HA3.out.cells
  rw [HO.out] at x0
  have hrn : 0 ≤ r.1 ∧ r.1 ≤ 2 ∧ 0 ≤ r.2.2.1 ∧ r.2.2.1 ≤ 1 := by rw [← HR.out]; exact eff_small _
  obtain ⟨r1, r2, r3, r4⟩ := r
  simp only at c0 f0 x0 x2 e0 e1 e2 hrn
  have hsh : 0 ≤ s.h ∧ s.h ≤ 32 := HS.out
  have hw4 : IntKind.i64.wrap (s.h - r1) = s.h - r1 := by rw [IntKind.wrap_i64]; omega
  go_upto_region 4 with fail
  obtain ⟨W4, hW4⟩ : ∃ W4, W4 = w3.setCell ⟨B, 0, none⟩ (.int .i64 (s.h - r1)) := ⟨_, rfl⟩
  have HA4 : Hid (AfW w B W4 ⟨s.h - r1, s.l⟩ x (r1, r2, r3, r4)) := Lib.hid (by rw [hW4]; exact HA3.out.h (Nat.le_of_eq HB.out.symm) _)
  rw [← hW4]
  clear hW4 c0 f0 x0 x2 e0 e1 e2 hw4 HA3 HA HFL
  obtain ⟨c0, f0, x0, x2, e0, e1, e2⟩ := HA4.out.cells
  rw [HO.out] at x0
  simp only at c0 f0 x0 x2 e0 e1 e2
  obtain ⟨P, hP⟩ : ∃ P, s.h - pops x = P := ⟨_, rfl⟩
  have hPd : pops x = r1 + if r2 = true then x.b else 0 := by unfold pops; rw [HR.out]
  have HPP := Lib.hid hP
  go_upto_if 21 with fail
  go_cut [7] from 22 to 27 (fun s7 wv => ∃ V : World, V = wv ∧ s7 = .int .i64 (fl : Int) ∧ Hid (AfW w B V ⟨P, s.l⟩ x (r1, r2, r3, r4)))
  case first =>
    cases r2 with
    | false =>
      go_wp2_with fail
      go_meet
      refine ⟨_, rfl, rfl, ?_⟩
      rw [show P = s.h - r1 by rw [← hP, hPd]; simp]
      exact HA4.out
    | true =>
      have hbb := HBB.out (by rw [HR.out])
      have hw5 : IntKind.i64.wrap (s.h - r1 - x.b) = s.h - r1 - x.b := by rw [IntKind.wrap_i64]; omega
      go_wp2_with fail
      go_meet
      refine ⟨_, rfl, rfl, ?_⟩
      rw [show P = s.h - r1 - x.b by rw [← hP, hPd]; simp; omega]
      exact HA4.out.h (Nat.le_of_eq HB.out.symm) _
  case rest =>
  obtain ⟨V, hV, rfl, HAV⟩ := hcut
  subst hV
  clear c0 f0 x0 x2 e0 e1 e2 HA4
  have hPb : -5 ≤ P ∧ P ≤ 32 := by
    rw [← hP, hPd]
    split
    · next e =>
      have hbb := HBB.out (by rw [HR.out]; exact e)
      omega
    · omega
  have HAFD : Hid (after x s = if P < (fl : Int) then none else if P + r3 > 32 then none else if x.op = 12 then some ⟨P + r3, s.l.set (P + r3).toNat (IntKind.i16.wrap (at16 s.l (P + r3).toNat + 1))⟩ else if x.op = 13 then (if at16 s.l fl = 0 then none else some ⟨P + r3, s.l.set fl (IntKind.i16.wrap (at16 s.l fl - 1))⟩) else some ⟨P + r3, s.l⟩) := Lib.hid (by
    unfold after
    rw [hP, HFF.out, show pushes x = r3 by unfold pushes; rw [HR.out]])
  clear hP hPd
  have hflb : fl ≤ 32 := by have := floorAt_le s.l s.h.toNat; have := HFF.out; omega
  obtain ⟨c0, f0, x0, x2, e0, e1, e2⟩ := HAV.out.cells
  rw [HO.out] at x0
  simp only at c0 f0 x0 x2 e0 e1 e2
  by_cases hlt : P < (fl : Int)
  · have HAF : Hid (after x s = none) := Lib.hid (by rw [HAFD.out, if_pos hlt])
    have hd : decide (P < (fl : Int)) = true := decide_eq_true hlt
    go_wp2_with (refine wpList_store_row rfl 117 (.tmp 4) (.tmp 32) rfl (B + 2) (shC zeroS).toArray rfl rfl 117 (shC zeroS).toArray HAV.out.br (by rw [size_sh]; rfl) rfl (all_oneCell_toArray (shC_one zeroS)) ?_)
    refine bodyPost_ret (results_cell_tmp_row Tryd.results77 _ _ (B + 2) 117 (shC zeroS).toArray (0, 0) _ rfl (HAV.out.br.setRow (shC zeroS).toArray) Tryd.underlying117 rfl (by rw [size_sh]; rfl) (.bool false) rfl) rfl ?_
    rw [HAF.out]
    exact ⟨rfl, below_setRow HAV.out.below (by have := HB.out; omega) _⟩
  · have hd : decide (P < (fl : Int)) = false := decide_eq_false hlt
    have hw8 : IntKind.i64.wrap (P + r3) = P + r3 := by rw [IntKind.wrap_i64]; omega
    go_upto_region 9 with fail
    obtain ⟨W9, hW9⟩ : ∃ W9, W9 = V.setCell ⟨B, 0, none⟩ (.int .i64 (P + r3)) := ⟨_, rfl⟩
    have HA9 : Hid (AfW w B W9 ⟨P + r3, s.l⟩ x (r1, r2, r3, r4)) := Lib.hid (by rw [hW9]; exact HAV.out.h (Nat.le_of_eq HB.out.symm) _)
    rw [← hW9]
    clear hW9 c0 f0 x0 x2 e0 e1 e2 hw8 HAV
    obtain ⟨c0, f0, x0, x2, e0, e1, e2⟩ := HA9.out.cells
    rw [HO.out] at x0
    simp only at c0 f0 x0 x2 e0 e1 e2
    obtain ⟨q, hq⟩ : ∃ q, P + r3 = q := ⟨_, rfl⟩
    rw [hq] at c0 HA9 HAFD
    by_cases hgt : 32 < q
    · have HAF : Hid (after x s = none) := Lib.hid (by rw [HAFD.out, if_neg hlt, if_pos hgt])
      have hd9 : decide (q > 32) = true := decide_eq_true hgt
      have hd9' : decide (32 < q) = true := decide_eq_true hgt
      go_wp2_with (refine wpList_store_row rfl 117 (.tmp 4) (.tmp 42) rfl (B + 2) (shC zeroS).toArray rfl rfl 117 (shC zeroS).toArray HA9.out.br (by rw [size_sh]; rfl) rfl (all_oneCell_toArray (shC_one zeroS)) ?_)
      refine bodyPost_ret (results_cell_tmp_row Tryd.results77 _ _ (B + 2) 117 (shC zeroS).toArray (0, 0) _ rfl (HA9.out.br.setRow (shC zeroS).toArray) Tryd.underlying117 rfl (by rw [size_sh]; rfl) (.bool false) rfl) rfl ?_
      rw [HAF.out]
      exact ⟨rfl, below_setRow HA9.out.below (by have := HB.out; omega) _⟩
    · have hd9 : decide (q > 32) = false := decide_eq_false hgt
      have hd9' : decide (32 < q) = false := decide_eq_false hgt
      obtain ⟨k, hk⟩ : ∃ k : Nat, q = (k : Int) := ⟨q.toNat, by omega⟩
      subst hk
      have hk32 : (0 : Int) ≤ (k : Int) ∧ (k : Int) < 33 := by omega
      have hf33 : (0 : Int) ≤ (fl : Int) ∧ (fl : Int) < 33 := by omega
      rw [if_neg hlt, if_neg hgt, Int.toNat_natCast] at HAFD
      by_cases h12 : o = 12
      · subst h12
        have HAF : Hid (after x s = some ⟨(k : Int), s.l.set k (IntKind.i16.wrap (at16 s.l k + 1))⟩) := Lib.hid (by rw [HAFD.out, if_pos (by have := HO.out; omega)])
        obtain ⟨d0, d1⟩ := HA9.out.cell1 hl k (by omega)
        go_upto_region 18 with fail
        obtain ⟨WA, hWA⟩ : ∃ W, W = W9.setCell ⟨B, 1 + k, none⟩ (.int .i16 (IntKind.i16.wrap (at16 s.l k + 1))) := ⟨_, rfl⟩
        have HAA : Hid (AfW w B WA ⟨(k : Int), s.l.set k (IntKind.i16.wrap (at16 s.l k + 1))⟩ x (r1, r2, r3, r4)) := Lib.hid (by rw [hWA]; exact HA9.out.l (Nat.le_of_eq HB.out.symm) _ _)
        rw [← hWA]
        clear hWA
        have hll : (s.l.set k (IntKind.i16.wrap (at16 s.l k + 1))).length = 33 := by rw [List.length_set]; exact hl
        obtain ⟨ts, hts⟩ : ∃ ts, ts = (shC ⟨(k : Int), s.l.set k (IntKind.i16.wrap (at16 s.l k + 1))⟩).toArray := ⟨_, rfl⟩
        have hldt := Blk.load_sh (s := ⟨(k : Int), s.l.set k (IntKind.i16.wrap (at16 s.l k + 1))⟩) hll HAA.out.bs
        rw [← hts] at hldt
        have HTS := Lib.hid hts
        have HSZT : Hid ((Tryd.prog.info? 117).map (·.size) = some ts.size) := Lib.hid (by rw [size_sh, hts, List.size_toArray, shC_length, hll])
        clear hts
        go_wp2_with (refine wpList_store_row rfl 117 (.tmp 4) (.tmp 70) rfl (B + 2) ts rfl rfl 117 (shC zeroS).toArray HAA.out.br (by rw [size_sh, HTS.out, List.size_toArray, shC_length, hll]) (by rw [HTS.out, List.size_toArray, List.size_toArray, shC_length, shC_length, hll]; rfl) (by rw [HTS.out]; exact all_oneCell_toArray (shC_one _)) ?_)
        refine bodyPost_ret (results_cell_tmp_row Tryd.results77 _ _ (B + 2) 117 ts (0, 0) _ rfl (HAA.out.br.setRow ts) Tryd.underlying117 rfl HSZT.out (.bool true) rfl) rfl ?_
        rw [HAF.out, HTS.out]
        exact ⟨rfl, below_setRow HAA.out.below (by have := HB.out; omega) _⟩
      · have h12i : ((o : Int) == 12) = false := by simp; omega
        by_cases h13 : o = 13
        · subst h13
          obtain ⟨d0, d1⟩ := HA9.out.cell1 hl fl (by omega)
          obtain ⟨z, hz⟩ : ∃ z, at16 s.l fl = z := ⟨_, rfl⟩
          rw [hz] at d0 HAFD
          by_cases hz0 : z = 0
          · have HAF : Hid (after x s = none) := Lib.hid (by rw [HAFD.out, if_neg (by have := HO.out; omega), if_pos (by have := HO.out; omega), if_pos hz0])
            have hzz : (z == 0) = true := by simp [hz0]
            go_wp2_with (refine wpList_store_row rfl 117 (.tmp 4) (.tmp 62) rfl (B + 2) (shC zeroS).toArray rfl rfl 117 (shC zeroS).toArray HA9.out.br (by rw [size_sh]; rfl) rfl (all_oneCell_toArray (shC_one zeroS)) ?_)
            refine bodyPost_ret (results_cell_tmp_row Tryd.results77 _ _ (B + 2) 117 (shC zeroS).toArray (0, 0) _ rfl (HA9.out.br.setRow (shC zeroS).toArray) Tryd.underlying117 rfl (by rw [size_sh]; rfl) (.bool false) rfl) rfl ?_
            rw [HAF.out]
            exact ⟨rfl, below_setRow HA9.out.below (by have := HB.out; omega) _⟩
          · have hzz : (z == 0) = false := by simp [hz0]
            have HAF : Hid (after x s = some ⟨(k : Int), s.l.set fl (IntKind.i16.wrap (z - 1))⟩) := Lib.hid (by rw [HAFD.out, if_neg (by have := HO.out; omega), if_pos (by have := HO.out; omega), if_neg hz0])
            go_upto_region 18 with fail
            obtain ⟨WA, hWA⟩ : ∃ W, W = W9.setCell ⟨B, 1 + fl, none⟩ (.int .i16 (IntKind.i16.wrap (z - 1))) := ⟨_, rfl⟩
            have HAA : Hid (AfW w B WA ⟨(k : Int), s.l.set fl (IntKind.i16.wrap (z - 1))⟩ x (r1, r2, r3, r4)) := Lib.hid (by rw [hWA]; exact HA9.out.l (Nat.le_of_eq HB.out.symm) _ _)
            rw [← hWA]
            clear hWA
            have hll : (s.l.set fl (IntKind.i16.wrap (z - 1))).length = 33 := by rw [List.length_set]; exact hl
            obtain ⟨ts, hts⟩ : ∃ ts, ts = (shC ⟨(k : Int), s.l.set fl (IntKind.i16.wrap (z - 1))⟩).toArray := ⟨_, rfl⟩
            have hldt := Blk.load_sh (s := ⟨(k : Int), s.l.set fl (IntKind.i16.wrap (z - 1))⟩) hll HAA.out.bs
            rw [← hts] at hldt
            have HTS := Lib.hid hts
            have HSZT : Hid ((Tryd.prog.info? 117).map (·.size) = some ts.size) := Lib.hid (by rw [size_sh, hts, List.size_toArray, shC_length, hll])
            clear hts
            go_wp2_with (refine wpList_store_row rfl 117 (.tmp 4) (.tmp 70) rfl (B + 2) ts rfl rfl 117 (shC zeroS).toArray HAA.out.br (by rw [size_sh, HTS.out, List.size_toArray, shC_length, hll]) (by rw [HTS.out, List.size_toArray, List.size_toArray, shC_length, shC_length, hll]; rfl) (by rw [HTS.out]; exact all_oneCell_toArray (shC_one _)) ?_)
            refine bodyPost_ret (results_cell_tmp_row Tryd.results77 _ _ (B + 2) 117 ts (0, 0) _ rfl (HAA.out.br.setRow ts) Tryd.underlying117 rfl HSZT.out (.bool true) rfl) rfl ?_
            rw [HAF.out, HTS.out]
            exact ⟨rfl, below_setRow HAA.out.below (by have := HB.out; omega) _⟩
        · have h13i : ((o : Int) == 13) = false := by simp; omega
          have HAF : Hid (after x s = some ⟨(k : Int), s.l⟩) := Lib.hid (by rw [HAFD.out, if_neg (by have := HO.out; omega), if_neg (by have := HO.out; omega)])
          obtain ⟨ts, hts⟩ : ∃ ts, ts = (shC ⟨(k : Int), s.l⟩).toArray := ⟨_, rfl⟩
          have hldt := Blk.load_sh (s := ⟨(k : Int), s.l⟩) hl HA9.out.bs
          rw [← hts] at hldt
          have HTS := Lib.hid hts
          have HSZT : Hid ((Tryd.prog.info? 117).map (·.size) = some ts.size) := Lib.hid (by rw [size_sh, hts, List.size_toArray, shC_length, hl])
          clear hts
          go_wp2_with (refine wpList_store_row rfl 117 (.tmp 4) (.tmp 70) rfl (B + 2) ts rfl rfl 117 (shC zeroS).toArray HA9.out.br (by rw [size_sh, HTS.out, List.size_toArray, shC_length, hl]) (by rw [HTS.out, List.size_toArray, List.size_toArray, shC_length, shC_length, hl]; rfl) (by rw [HTS.out]; exact all_oneCell_toArray (shC_one _)) ?_)
          refine bodyPost_ret (results_cell_tmp_row Tryd.results77 _ _ (B + 2) 117 ts (0, 0) _ rfl (HA9.out.br.setRow ts) Tryd.underlying117 rfl HSZT.out (.bool true) rfl) rfl ?_
          rw [HAF.out, HTS.out]
          exact ⟨rfl, below_setRow HA9.out.below (by have := HB.out; omega) _⟩
end Go.Proofs.YtbdknncmlcbbpaaDoor

/-
  HEIGHTS: the state of the spreading in memory; give.
-/
namespace Go.Proofs.YtbdknncmlcbbpaaDoor
open Go.RowKit WM TR KM

/-- Shapes as cells. -/
def shCs : List Sh → List Value
  | [] => []
  | s :: l => shC s ++ shCs l
def All33 (l : List Sh) : Prop := ∀ s ∈ l, s.l.length = 33
theorem shCs_length : ∀ l : List Sh, All33 l → (shCs l).length = l.length * 34
  | [], _ => rfl
  | s :: l, h => by
    rw [shCs, List.length_append, shCs_length l (fun x hx => h x (List.mem_cons_of_mem _ hx)), shC_length, h s (List.mem_cons_self ..), List.length_cons]; omega
theorem shCs_get : ∀ (l : List Sh), All33 l → ∀ (i : Nat) (s : Sh), l[i]? = some s → ∀ j v, (shC s)[j]? = some v → (shCs l)[i * 34 + j]? = some v
  | [], _, i, s, h, _, _, _ => by simp at h
  | t :: l, h33, 0, s, h, j, v, hv => by
    simp only [List.getElem?_cons_zero, Option.some.injEq] at h
    subst h
    have hj := (List.getElem?_eq_some_iff.1 hv).1
    rw [shCs, List.getElem?_append_left (by omega), Nat.zero_mul, Nat.zero_add]
    exact hv
  | t :: l, h33, i + 1, s, h, j, v, hv => by
    have ht : (shC t).length = 34 := by rw [shC_length, h33 t (List.mem_cons_self ..)]
    rw [shCs, List.getElem?_append_right (by omega), ht, show (i + 1) * 34 + j - 34 = i * 34 + j by omega]
    exact shCs_get l (fun x hx => h33 x (List.mem_cons_of_mem _ hx)) i s (by simpa using h) j v hv
/-- Cells put one after the other. -/
def putAll (xs : List Value) : Nat → List Value → List Value
  | _, [] => xs
  | o, v :: r => putAll (xs.set o v) (o + 1) r
theorem putAll_app (a b : List Value) : ∀ (vs : List Value) (o : Nat), putAll (a ++ b) (a.length + o) vs = a ++ putAll b o vs
  | vs, o => by
    induction vs generalizing b o with
    | nil => rfl
    | cons v r ih =>
      rw [putAll, putAll, List.set_append_right _ _ (by omega), show a.length + o - a.length = o by omega]
      exact ih (b.set o v) (o + 1)
theorem putAll_all : ∀ (xs ys vs : List Value), vs.length = xs.length → putAll (xs ++ ys) 0 vs = vs ++ ys
  | [], ys, [], _ => rfl
  | [], ys, v :: vs, h => by simp at h
  | x :: xs, ys, [], h => by simp at h
  | x :: xs, ys, v :: vs, h => by
    show putAll ((x :: (xs ++ ys)).set 0 v) 1 vs = _
    rw [List.set_cons_zero]
    have := putAll_app [v] (xs ++ ys) vs 0
    rw [show ([v] : List Value).length + 0 = 1 from rfl, List.singleton_append] at this
    rw [this, putAll_all xs ys vs (by simpa using h)]; rfl
theorem shCs_put : ∀ (l : List Sh), All33 l → ∀ (i : Nat) (s : Sh), i < l.length → s.l.length = 33 → putAll (shCs l) (i * 34) (shC s) = shCs (l.set i s)
  | [], _, i, s, h, _ => by simp at h
  | t :: l, h33, 0, s, _, hs => by
    rw [shCs, Nat.zero_mul, putAll_all _ _ _ (by rw [shC_length, shC_length, hs, h33 t (List.mem_cons_self ..)])]; rfl
  | t :: l, h33, i + 1, s, h, hs => by
    have ht : (shC t).length = 34 := by rw [shC_length, h33 t (List.mem_cons_self ..)]
    rw [shCs, show (i + 1) * 34 = (shC t).length + i * 34 by rw [ht]; omega, putAll_app, shCs_put l (fun x hx => h33 x (List.mem_cons_of_mem _ hx)) i s (by simpa using h) hs, List.set_cons_succ, shCs]
theorem own_putAll {base : Nat} {e : TypeId} {size n c g : Nat} : ∀ (vs : List Value) (o : Nat) (w : World) (xs : List Value), w.ownsRow base e size (.slice (some ⟨g, 0, none⟩) n c) n xs → (w.setCells g o vs).ownsRow base e size (.slice (some ⟨g, 0, none⟩) n c) n (putAll xs o vs)
  | [], _, _, _, h => h
  | v :: vs, o, _, _, h => own_putAll vs (o + 1) _ _ (h.stored o v).1
theorem setCells_heap (g : Nat) : ∀ (vs : List Value) (o : Nat) (w : World) (b : Nat), b ≠ g → (w.setCells g o vs).heap[b]? = w.heap[b]?
  | [], _, _, _, _ => rfl
  | v :: vs, o, w, b, h => (setCells_heap g vs (o + 1) _ b h).trans (Below.heap_setCell w ⟨g, o, none⟩ v b h)
theorem setCells_size (g : Nat) : ∀ (vs : List Value) (o : Nat) (w : World), (w.setCells g o vs).heap.size = w.heap.size
  | [], _, _ => rfl
  | _ :: vs, o, _ => (setCells_size g vs (o + 1) _).trans (World.size_setCell _ _ _)
theorem below_setCells {B g : Nat} {a : World} (hg : B ≤ g) : ∀ (vs : List Value) (o : Nat) (w : World), Below B a w → Below B a (w.setCells g o vs)
  | [], _, _, h => h
  | v :: vs, o, _, h => below_setCells hg vs (o + 1) _ (h.setCell (p := ⟨g, o, none⟩) hg v)

/-- Blocks below a bound, but three. -/
def KeepX (N a b c : Nat) (w w' : World) : Prop := ∀ i, i < N → i ≠ a → i ≠ b → i ≠ c → w'.heap[i]? = w.heap[i]?
/-- The state of the spreading: the variables body, shapes, work in the blocks bB, bS, bW; the shapes lie in the block aS. -/
structure HtW (B : Nat) (w : World) (bB bS bW aS n : Nat) (vb : Value) (cS : Nat) (st : St) (Aw : Option Addr) (cw : Nat) : Prop where
  blkB : Blk w bB 49 #[vb]
  blkS : Blk w bS 112 #[.slice (some ⟨aS, 0, none⟩) n cS]
  blkW : Blk w bW 22 #[.slice Aw st.wk.length cw]
  ownS : w.ownsRow B 117 34 (.slice (some ⟨aS, 0, none⟩) n cS) n (shCs st.sh)
  ownW : w.ownsRow B 3 1 (.slice Aw st.wk.length cw) st.wk.length (vi (st.wk.map fun i : Nat => (i : Int)))
  a33 : All33 st.sh
  len : st.sh.length = n
  low : B ≤ bB ∧ B ≤ bS ∧ B ≤ bW
theorem tyS : (117 : TypeId) ≠ 22 ∧ (117 : TypeId) ≠ 112 ∧ (117 : TypeId) ≠ 49 ∧ (3 : TypeId) ≠ 22 ∧ (3 : TypeId) ≠ 112 ∧ (3 : TypeId) ≠ 49 ∧ (117 : TypeId) ≠ 3 ∧ (22 : TypeId) ≠ 112 ∧ (22 : TypeId) ≠ 49 ∧ (112 : TypeId) ≠ 49 := by decide
section
variable {B : Nat} {w : World} {bB bS bW aS n : Nat} {vb : Value} {cS : Nat} {st : St} {Aw : Option Addr} {cw : Nat}
theorem HtW.rowS (h : HtW B w bB bS bW aS n vb cS st Aw cw) : ∃ cur, Blk w aS 117 cur ∧ B ≤ aS := by
  rcases h.ownS.2 with ⟨hv, _⟩ | ⟨g, cap, cur, hv, hb, hh, _⟩
  · cases hv
  · injection hv with e1 e2 e3
    injection e1 with e1
    injection e1 with e1
    subst e1
    exact ⟨cur, hh, hb⟩
theorem HtW.neS (h : HtW B w bB bS bW aS n vb cS st Aw cw) : aS ≠ bW ∧ aS ≠ bS ∧ aS ≠ bB ∧ bW ≠ bS ∧ bW ≠ bB := by
  obtain ⟨cur, hc, _⟩ := h.rowS
  obtain ⟨t1, t2, t3, t4, t5, t6, t7, t8, t9, t10⟩ := tyS
  exact ⟨Blk.ne_ hc h.blkW t1, Blk.ne_ hc h.blkS t2, Blk.ne_ hc h.blkB t3, Blk.ne_ h.blkW h.blkS t8, Blk.ne_ h.blkW h.blkB t9⟩
theorem HtW.neW (h : HtW B w bB bS bW aS n vb cS st Aw cw) (b : Nat) (hb : (Value.slice Aw st.wk.length cw).ownBlock = some b) : b ≠ bW ∧ b ≠ bS ∧ b ≠ bB ∧ b ≠ aS := by
  obtain ⟨cur, hc, _⟩ := h.rowS
  obtain ⟨t1, t2, t3, t4, t5, t6, t7, t8, t9, t10⟩ := tyS
  exact ⟨fun e => own_blk_ne h.ownW h.blkW t4 (e ▸ hb), fun e => own_blk_ne h.ownW h.blkS t5 (e ▸ hb), fun e => own_blk_ne h.ownW h.blkB t6 (e ▸ hb), fun e => own_blk_ne h.ownW hc t7.symm (e ▸ hb)⟩
theorem HtW.next {w' : World} (h : HtW B w bB bS bW aS n vb cS st Aw cw) (hb : Below w.heap.size w w') : HtW B w' bB bS bW aS n vb cS st Aw cw :=
  ⟨h.blkB.below hb h.blkB.lt, h.blkS.below hb h.blkS.lt, h.blkW.below hb h.blkW.lt, ownsRow_below h.ownS hb, ownsRow_below h.ownW hb, h.a33, h.len, h.low⟩
/-- A shape, put anew. -/
theorem HtW.put (h : HtW B w bB bS bW aS n vb cS st Aw cw) {i : Nat} (hi : i < n) {s : Sh} (hs : s.l.length = 33) : HtW B (w.setCells aS (i * 34) (shC s)) bB bS bW aS n vb cS ⟨st.ok, st.sh.set i s, st.wk⟩ Aw cw := by
  obtain ⟨n1, n2, n3, n4, n5⟩ := h.neS
  have ho := own_putAll (shC s) (i * 34) w _ h.ownS
  rw [shCs_put st.sh h.a33 i s (by rw [h.len]; exact hi) hs] at ho
  refine ⟨(setCells_heap aS _ _ w bB (Ne.symm n3)).trans h.blkB, (setCells_heap aS _ _ w bS (Ne.symm n2)).trans h.blkS, (setCells_heap aS _ _ w bW (Ne.symm n1)).trans h.blkW, ho, ?_, fun x hx => ?_, by rw [List.length_set]; exact h.len, h.low⟩
  · rcases h.ownW.2 with ⟨hv, hn⟩ | ⟨g, cap, cur, hv, hb, hh, hr⟩
    · exact ⟨h.ownW.1, .inl ⟨hv, hn⟩⟩
    · have hne := (h.neW g (by rw [hv]; rfl)).2.2.2
      exact ⟨h.ownW.1, .inr ⟨g, cap, cur, hv, hb, (setCells_heap aS _ _ w g hne).trans hh, hr⟩⟩
  · rcases List.mem_or_eq_of_mem_set hx with hx | rfl
    · exact h.a33 x hx
    · exact hs
theorem HtW.there (h : HtW B w bB bS bW aS n vb cS st Aw cw) {i : Nat} (hi : i < n) : w.there aS (i * 34) 34 := by
  intro j hj
  have hl := shCs_length st.sh h.a33
  rw [h.len] at hl
  refine ⟨?_, h.ownS.frozenAt _⟩
  have hc := h.ownS.cells (g := aS) rfl (i * 34 + j) _ (List.getElem?_eq_getElem (by rw [hl]; omega))
  rw [Addr.add_lit, Nat.zero_add] at hc
  rw [hc]; rfl
theorem HtW.at_ (h : HtW B w bB bS bW aS n vb cS st Aw cw) {i : Nat} (hi : i < n) : ∀ j v, (shC (shAt st.sh i))[j]? = some v → w.cell? ⟨aS, i * 34 + j, none⟩ = some v := by
  intro j v hv
  have he : st.sh[i]? = some (shAt st.sh i) := by unfold shAt; rw [List.getElem?_eq_getElem (by rw [h.len]; exact hi)]; rfl
  have hc := h.ownS.cells (g := aS) rfl _ _ (shCs_get st.sh h.a33 i _ he j v hv)
  rw [Addr.add_lit, Nat.zero_add] at hc
  exact hc
end
end Go.Proofs.YtbdknncmlcbbpaaDoor
