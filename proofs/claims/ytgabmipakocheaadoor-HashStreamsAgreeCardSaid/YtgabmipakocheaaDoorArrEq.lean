/-
  THE COMPARISON of arrays of bytes.
-/
import Derived.Test.YtgabmipakocheaaDoorRow
import Derived.ChangeKeysEq
namespace Go.Proofs.YtgabmipakocheaaDoor
open Go.RowKit

theorem Tryd.plain5 : Tryd.prog.plainKey 5 = true := by kernel_rfl
theorem Tryd.cells5 : Tryd.prog.cellsOf 5 = 1 := by kernel_rfl
theorem eqItems_bytes (x y : List UInt8) (W : World) : ∀ is : List Nat, (∀ i ∈ is, i < x.length ∧ i < y.length) → (Op.eqItems 9999 5 1 (bs x).toArray (bs y).toArray is).run Tryd.prog W = .ok (is.all fun i => x[i]? == y[i]?) W := by
  intro is
  induction is with
  | nil => intro _; simp [Op.eqItems]
  | cons i is ih =>
    intro h
    obtain ⟨h1, h2⟩ := h i (by simp)
    have hg1 : (bs x).toArray[i * 1]? = some (.int .u8 (x[i].toNat : Int)) := by rw [Nat.mul_one]; simpa using bs_get x i h1
    have hg2 : (bs y).toArray[i * 1]? = some (.int .u8 (y[i].toNat : Int)) := by rw [Nat.mul_one]; simpa using bs_get y i h2
    have hp1 := run_part_plain (P := Tryd.prog) W Tryd.plain5 hg1
    have hp2 := run_part_plain (P := Tryd.prog) W Tryd.plain5 hg2
    have he := run_equalIn_int (P := Tryd.prog) W 9998 5 .u8 .u8 (x[i].toNat : Int) (y[i].toNat : Int) Tryd.underlying5
    have hxy : (x[i]? == y[i]?) = decide ((x[i].toNat : Int) = (y[i].toNat : Int)) := by
      rw [List.getElem?_eq_getElem h1, List.getElem?_eq_getElem h2, Bool.eq_iff_iff]
      simp only [beq_iff_eq, Option.some.injEq, decide_eq_true_eq]
      exact ⟨fun h => by rw [h], fun h => UInt8.toNat_inj.1 (by omega)⟩
    simp only [Op.eqItems, Sem.run_bind, hp1, hp2, Result.andThen_ok, he]
    by_cases heq : (x[i].toNat : Int) = (y[i].toNat : Int)
    · have hb : (x[i]? == y[i]?) = true := by rw [hxy]; simpa using heq
      rw [List.all_cons, hb]
      simpa [heq] using ih (fun j hj => h j (by simp [hj]))
    · have hb : (x[i]? == y[i]?) = false := by rw [hxy]; simpa using heq
      rw [List.all_cons, hb]
      simp [heq]
theorem all_eq (x y : List UInt8) (n : Nat) (hx : x.length = n) (hy : y.length = n) : ((List.range n).all fun i => x[i]? == y[i]?) = decide (x = y) := by
  rw [Bool.eq_iff_iff]
  simp only [List.all_eq_true, List.mem_range, beq_iff_eq, decide_eq_true_eq]
  constructor
  · intro h
    apply List.ext_getElem?
    intro i
    by_cases hi : i < n
    · exact h i hi
    · rw [List.getElem?_eq_none (by omega), List.getElem?_eq_none (by omega)]
  · rintro rfl i _; rfl
theorem eq24 (x y : List UInt8) (hx : x.length = 32) (hy : y.length = 32) (W : World) : (binOp .eql 24 (.agg (bs x).toArray) (.agg (bs y).toArray)).run Tryd.prog W = .ok (.bool (decide (x = y))) W := by
  obtain ⟨i0, hi, _⟩ := info_parts Tryd.info5
  have h1 := run_equalIn_array (P := Tryd.prog) (w := W) 9999 (bs x).toArray (bs y).toArray Tryd.underlying24 hi
  rw [Tryd.cells5, eqItems_bytes x y W _ (fun i hi => by rw [List.mem_range] at hi; omega), all_eq x y 32 hx hy] at h1
  simp only [binOp]
  simp [Op.equal, Op.maxDepth, h1]
theorem eq44 (x y : List UInt8) (hx : x.length = 16) (hy : y.length = 16) (W : World) : (binOp .eql 44 (.agg (bs x).toArray) (.agg (bs y).toArray)).run Tryd.prog W = .ok (.bool (decide (x = y))) W := by
  obtain ⟨i0, hi, _⟩ := info_parts Tryd.info5
  have h1 := run_equalIn_array (P := Tryd.prog) (w := W) 9999 (bs x).toArray (bs y).toArray Tryd.underlying44 hi
  rw [Tryd.cells5, eqItems_bytes x y W _ (fun i hi => by rw [List.mem_range] at hi; omega), all_eq x y 16 hx hy] at h1
  simp only [binOp]
  simp [Op.equal, Op.maxDepth, h1]
end Go.Proofs.YtgabmipakocheaaDoor
