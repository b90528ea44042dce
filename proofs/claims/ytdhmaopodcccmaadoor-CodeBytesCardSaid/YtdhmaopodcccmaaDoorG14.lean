/-
  SHAPES: floor, same, after.
-/
import Derived.Test.YtdhmaopodcccmaaDoorG08
import Derived.ChangeKeysEq
set_option linter.unusedVariables false
namespace Go.Proofs.YtdhmaopodcccmaaDoor
open Go.RowKit WM TR KM

def shC (s : Sh) : List Value := .int .i64 s.h :: s.l.map (Value.int .i16)
theorem shC_length (s : Sh) : (shC s).length = s.l.length + 1 := by simp [shC]
theorem shC_one (s : Sh) : ∀ u ∈ shC s, u.oneCell' = true := by
  intro u hu
  rcases List.mem_cons.1 hu with rfl | hu
  · rfl
  · obtain ⟨x, _, rfl⟩ := List.mem_map.1 hu
    rfl
theorem shC_get (s : Sh) (i : Nat) (h : i < s.l.length) : (shC s)[1 + i]? = some (.int .i16 (at16 s.l i)) := by
  unfold shC at16
  rw [Nat.add_comm, List.getElem?_cons_succ, List.getElem?_map, List.getElem?_eq_getElem h]; rfl
theorem size_sh : (Tryd.prog.info? 117).map (·.size) = some 34 := by kernel_rfl

set_option maxRecDepth 100000 in
set_option maxHeartbeats 4000000 in
theorem floor_is (s : Sh) (hs : 0 ≤ s.h ∧ s.h ≤ 32) (hl : s.l.length = 33) (w : World) :
    Calls Tryd.prog 89 #[.agg (shC s).toArray] w fun e w' => e = .returned (.int .i64 (floorAt s.l s.h.toNat : Int)) ∧ Below w.heap.size w w' := by
  obtain ⟨B, hB⟩ : ∃ B, B = w.heap.size := ⟨_, rfl⟩
  obtain ⟨W1, hW1⟩ : ∃ W1, W1 = w.alloc (.cells (shC s).toArray 117) := ⟨_, rfl⟩
  have HK : Hid (∀ i, W1.cell? ⟨B, i, none⟩ = (shC s)[i]?) := Lib.hid (fun i => by rw [hW1, hB, (Blk.new w _ _).cell i]; simp)
  have HB1 : Hid (Below w.heap.size w W1) := Lib.hid (by rw [hW1]; exact below_new _ _)
  obtain ⟨h, hh⟩ : ∃ h : Nat, s.h = (h : Int) := ⟨s.h.toNat, by omega⟩
  have c0 : W1.cell? ⟨B, 0, none⟩ = some (.int .i64 (h : Int)) := by rw [HK.out 0, ← hh]; rfl
  have hh32 : h ≤ 32 := by omega
  have hfl : s.h.toNat = h := by omega
  rw [hfl]
  have HC : Hid (∀ i, i < 33 → W1.cell? ⟨B, 1 + i, none⟩ = some (.int .i16 (at16 s.l i))) := Lib.hid (fun i hi => by rw [HK.out]; exact shC_get s i (by omega))
  have HW1 := Lib.hid hW1
  have HB := Lib.hid hB
  obtain ⟨cs, hcs⟩ : ∃ cs, cs = (shC s).toArray := ⟨_, rfl⟩
  rw [← hcs] at HW1 ⊢
  clear hcs hs hW1 hB hh hfl HK
  go_enter Tryd.func89, Tryd.ntmps89
  go_upto_region 1 with fail
  rw [← HW1.out, ← HB.out]
  go_wp2_with fail
  go_loopw [3] (fun i wr => ∃ k : Nat, k ≤ h ∧ i = .int .i64 k ∧ wr = W1 ∧ Hid (floorAt s.l h = floorAt s.l k)) (fun i _ => (intOf i).toNat)
  case atStart => exact ⟨h, Nat.le_refl _, rfl, rfl, rfl⟩
  case round =>
    obtain ⟨k, hk, rfl, rfl, HF⟩ := hrel
    by_cases hk0 : k = 0
    · subst hk0
      go_wp2_with fail
      go_ret
      exact ⟨by rw [HF.out]; rfl, HB1.out⟩
    · have hk1 : (0 : Int) < k := by omega
      have ck := HC.out k (by omega)
      have hkb : (0 : Int) ≤ (k : Int) ∧ (k : Int) < 33 := ⟨by omega, by omega⟩
      obtain ⟨z, hz⟩ : ∃ z, at16 s.l k = z := ⟨_, rfl⟩
      rw [hz] at ck
      obtain ⟨j, hj⟩ : ∃ j, k = j + 1 := ⟨k - 1, by omega⟩
      by_cases hz0 : z = 0
      · have hzz : (z == 0) = true := by simp [hz0]
        have hwj : IntKind.i64.wrap ((k : Int) - 1) = (j : Int) := by rw [IntKind.wrap_i64]; omega
        have HF2 : Hid (floorAt s.l h = floorAt s.l j) := Lib.hid (by
          rw [HF.out, hj, floorAt, if_pos]
          have := hz; rw [hj, hz0] at this; exact this)
        have HJ := Lib.hid hj
        clear hz hj
        go_wp2_with fail
        go_roundw
        case rel => exact ⟨j, by have := HJ.out; omega, rfl, trivial, HF2.out⟩
        case measure => have := HJ.out; simp [intOf]; omega
      · have hzz : (z == 0) = false := by simp [hz0]
        have HF2 : Hid (floorAt s.l h = k) := Lib.hid (by
          rw [HF.out, hj, floorAt, if_neg]
          intro e; apply hz0; rw [← hz, hj]; exact e)
        clear hz hj
        go_wp2_with fail
        go_ret
        exact ⟨by rw [HF2.out]; rfl, HB1.out⟩
theorem Tryd.under16 : Tryd.prog.underlying 114 = some (.int .i16) := by kernel_rfl
theorem Tryd.plain16 : Tryd.prog.plainKey 114 = true := by kernel_rfl
theorem Tryd.cells16 : Tryd.prog.cellsOf 114 = 1 := by kernel_rfl
theorem info16 : (Tryd.prog.info? 114).map (fun i => (i.zero, i.size, i.bytes)) = some (some (.int .i16 0), 1, 2) := by kernel_rfl
theorem eqItems_16 (x y : List Int) (W : World) : ∀ is : List Nat, (∀ i ∈ is, i < x.length ∧ i < y.length) → (Op.eqItems 9999 114 1 (x.map (Value.int .i16)).toArray (y.map (Value.int .i16)).toArray is).run Tryd.prog W = .ok (is.all fun i => x[i]? == y[i]?) W := by
  intro is
  induction is with
  | nil => intro _; simp [Op.eqItems]
  | cons i is ih =>
    intro h
    obtain ⟨h1, h2⟩ := h i (by simp)
    have hg1 : (x.map (Value.int .i16)).toArray[i * 1]? = some (.int .i16 x[i]) := by rw [Nat.mul_one]; simp [List.getElem?_eq_getElem h1]
    have hg2 : (y.map (Value.int .i16)).toArray[i * 1]? = some (.int .i16 y[i]) := by rw [Nat.mul_one]; simp [List.getElem?_eq_getElem h2]
    have hp1 := run_part_plain (P := Tryd.prog) W Tryd.plain16 hg1
    have hp2 := run_part_plain (P := Tryd.prog) W Tryd.plain16 hg2
    have he := run_equalIn_int (P := Tryd.prog) W 9998 114 .i16 .i16 x[i] y[i] Tryd.under16
    have hxy : (x[i]? == y[i]?) = decide (x[i] = y[i]) := by
      rw [List.getElem?_eq_getElem h1, List.getElem?_eq_getElem h2, Bool.eq_iff_iff]
      simp
    simp only [Op.eqItems, Sem.run_bind, hp1, hp2, Result.andThen_ok, he]
    by_cases heq : x[i] = y[i]
    · have hb : (x[i]? == y[i]?) = true := by rw [hxy]; simpa using heq
      rw [List.all_cons, hb]
      simpa [heq] using ih (fun j hj => h j (by simp [hj]))
    · have hb : (x[i]? == y[i]?) = false := by rw [hxy]; simpa using heq
      rw [List.all_cons, hb]
      simp [heq]
theorem all_eq16 (x y : List Int) (n : Nat) (hx : x.length = n) (hy : y.length = n) : ((List.range n).all fun i => x[i]? == y[i]?) = decide (x = y) := by
  rw [Bool.eq_iff_iff]
  simp only [List.all_eq_true, List.mem_range, beq_iff_eq, decide_eq_true_eq]
  constructor
  · intro h
    apply List.ext_getElem?
    intro i
    by_cases hi : i < n
    · exact h i hi
    · rw [List.getElem?_eq_none (by omega), List.getElem?_eq_none (by omega)]
  · rintro rfl i _; rfl
theorem eq33 (x y : List Int) (hx : x.length = 33) (hy : y.length = 33) (W : World) : (binOp .eql 115 (.agg (x.map (Value.int .i16)).toArray) (.agg (y.map (Value.int .i16)).toArray)).run Tryd.prog W = .ok (.bool (decide (x = y))) W := by
  obtain ⟨i0, hi, _⟩ := info_parts info16
  have h1 := run_equalIn_array (P := Tryd.prog) (w := W) 9999 (x.map (Value.int .i16)).toArray (y.map (Value.int .i16)).toArray Tryd.underlying115 hi
  rw [Tryd.cells16, eqItems_16 x y W _ (fun i hi => by rw [List.mem_range] at hi; omega), all_eq16 x y 33 hx hy] at h1
  simp only [binOp]
  simp [Op.equal, Op.maxDepth, h1]
theorem size_33 : (Tryd.prog.info? 115).map (·.size) = some 33 := by kernel_rfl

/-- A load of the handlers, kept shut. -/
def ld33 (v : Value) : Sem Value := Instr.loadAt 115 v
theorem shut33 (v : Value) : Instr.loadAt 115 v = ld33 v := rfl
attribute [local go_sem ↓] shut33
set_option maxRecDepth 100000 in
set_option maxHeartbeats 4000000 in
theorem same_shape (s t : Sh) (hs : s.l.length = 33) (ht : t.l.length = 33) (w : World) :
    Calls Tryd.prog 76 #[.agg (shC s).toArray, .agg (shC t).toArray] w fun e w' => e = .returned (.bool (sameS s t)) ∧ Below w.heap.size w w' := by
  obtain ⟨B, hB⟩ : ∃ B, B = w.heap.size := ⟨_, rfl⟩
  obtain ⟨W1, hW1⟩ : ∃ W1, W1 = (w.alloc (.cells (shC s).toArray 117)).alloc (.cells (shC t).toArray 117) := ⟨_, rfl⟩
  have hK1 : Blk W1 B 117 (shC s).toArray := by rw [hW1, hB]; exact (Blk.new _ _ _).alloc _
  have hK2 : Blk W1 (B + 1) 117 (shC t).toArray := by rw [hW1, hB, ← size_alloc]; exact Blk.new _ _ _
  have HB1 : Hid (Below w.heap.size w W1) := Lib.hid (by rw [hW1]; exact ba (below_new _ _) _)
  have c0 : W1.cell? ⟨B, 0, none⟩ = some (.int .i64 s.h) := by rw [hK1.cell 0]; rfl
  have d0 : W1.cell? ⟨B + 1, 0, none⟩ = some (.int .i64 t.h) := by rw [hK2.cell 0]; rfl
  have HL1 : Hid (∀ i v, (s.l.map (Value.int .i16))[i]? = some v → W1.cell? ⟨B, 1 + i, none⟩ = some v) := Lib.hid (fun i v hv => by rw [hK1.cell, Nat.add_comm]; simpa [shC] using hv)
  have HL2 : Hid (∀ i v, (t.l.map (Value.int .i16))[i]? = some v → W1.cell? ⟨B + 1, 1 + i, none⟩ = some v) := Lib.hid (fun i v hv => by rw [hK2.cell, Nat.add_comm]; simpa [shC] using hv)
  obtain ⟨X, hX⟩ : ∃ X, X = s.l.map (Value.int .i16) := ⟨_, rfl⟩
  obtain ⟨Y, hY⟩ : ∃ Y, Y = t.l.map (Value.int .i16) := ⟨_, rfl⟩
  have hXl : X.length = 33 := by rw [hX]; simpa using hs
  have hYl : Y.length = 33 := by rw [hY]; simpa using ht
  have HEQ : ∀ W : World, (binOp .eql 115 (.agg X.toArray) (.agg Y.toArray)).run Tryd.prog W = .ok (.bool (decide (s.l = t.l))) W := fun W => by rw [hX, hY]; exact eq33 _ _ hs ht W
  rw [← hX] at HL1
  rw [← hY] at HL2
  have HXL := Lib.hid hXl
  have HYL := Lib.hid hYl
  have HW1 := Lib.hid hW1
  have HB := Lib.hid hB
  have hsm : sameS s t = (s.h == t.h && decide (s.l = t.l)) := rfl
  rw [hsm]
  obtain ⟨b, hb⟩ : ∃ b, decide (s.l = t.l) = b := ⟨_, rfl⟩
  rw [hb] at HEQ ⊢
  obtain ⟨h1, hh1⟩ : ∃ h, s.h = h := ⟨_, rfl⟩
  obtain ⟨h2, hh2⟩ : ∃ h, t.h = h := ⟨_, rfl⟩
  rw [hh1] at c0 ⊢
  rw [hh2] at d0 ⊢
  obtain ⟨cs, hcs⟩ : ∃ cs, cs = (shC s).toArray := ⟨_, rfl⟩
  obtain ⟨ds, hds⟩ : ∃ ds, ds = (shC t).toArray := ⟨_, rfl⟩
  rw [← hcs, ← hds] at HW1 ⊢
  clear hcs hds hs ht hW1 hB hK1 hK2 hX hY hXl hYl hsm hb hh1 hh2
  go_enter Tryd.func76, Tryd.ntmps76
  go_upto_region 1 with fail
  rw [← HW1.out, ← HB.out]
  cases hq : (h1 == h2)
  · go_wp2_with fail
    go_ret
    exact ⟨by rw [hq]; rfl, HB1.out⟩
  · have l1 : (ld33 (.pointer (some ⟨B, 1, none⟩))).run Tryd.prog W1 = .ok (.agg X.toArray) W1 := run_loadAt_mid W1 B 1 115 X _ HL1.out Tryd.underlying115 rfl (by rw [size_33, HXL.out])
    have l2 : (ld33 (.pointer (some ⟨B + 1, 1, none⟩))).run Tryd.prog W1 = .ok (.agg Y.toArray) W1 := run_loadAt_mid W1 (B + 1) 1 115 Y _ HL2.out Tryd.underlying115 rfl (by rw [size_33, HYL.out])
    go_wp2_with fail
    go_ret
    exact ⟨by rw [hq]; cases b <;> rfl, HB1.out⟩
end Go.Proofs.YtdhmaopodcccmaaDoor
