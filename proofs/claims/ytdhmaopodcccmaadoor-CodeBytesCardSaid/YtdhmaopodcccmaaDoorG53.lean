/-
  A builtin that has written into no elder block.
-/
import Derived.Test.YtdhmaopodcccmaaDoorG02
import Derived.Test.YtdhmaopodcccmaaDoorG52
import Derived.Test.YtdhmaopodcccmaaDoorG37
import Derived.ChangeKeysEq
set_option linter.unusedVariables false
namespace Go.Proofs.YtdhmaopodcccmaaDoor
open Go.RowKit WM

theorem below_none {w w' : World} (h : w.grownBy w' none) : Below w.heap.size w w' := ⟨h.os, h.tape, h.output, h.size, fun i hi => h.block i hi (fun e => nomatch e)⟩
end Go.Proofs.YtdhmaopodcccmaaDoor

/-
  The reference's Few: the first bytes, in a row of its own.
-/
namespace Go.Proofs.YtdhmaopodcccmaaDoor
open Go.RowKit WM

/-- 'b[:k]' -/
theorem cut8 (A : Option Addr) (n c k : Nat) (hk : k ≤ c) : ∀ W : World, (Instr.sliceAt 32 (.slice A n c) none (some (.int .i64 (k : Int))) none).run Tryd.prog W = .ok (.slice (if c = 0 then A else A.map (·.add 0)) k c) W := by
  intro W
  rw [run_sliceAt_slice W 32 _ _ _ _ Tryd.slBytes, run_slice_h W 32 A n c Tryd.slBytes .i64 k (by omega) (by omega), Tryd.elemBytes, Tryd.siz5]
  simp [sliced]
theorem reads_cut8 {w : World} {B n c k : Nat} {A : Option Addr} {l : List UInt8} (h : Reads w B 1 A n (bs l)) (hk : k ≤ n) : Reads w B 1 (if c = 0 then A else A.map (·.add 0)) k (bs (l.take k)) := by
  have h2 := reads_take h hk
  rw [bs_take] at h2
  refine ⟨h2.1, fun hn => ?_⟩
  obtain ⟨ad, e, hb, hc⟩ := h2.2 hn
  subst e
  refine ⟨ad, ?_, hb, hc⟩
  split <;> simp [Addr.add]

set_option maxRecDepth 100000 in
set_option maxHeartbeats 1600000 in
theorem few_is (A : Option Addr) (l : List UInt8) (c m : Nat) (w : World) (ha : Reads w w.heap.size 1 A l.length (bs l)) (hlc : l.length ≤ c) (hn : l.length ≤ 9223372036854775807) (hm : m ≤ 1000000) :
    Calls Tryd.prog 22 #[.slice A l.length c, .int .i64 m] w fun e w' => ∃ A' c', e = .returned (.slice A' (l.take m).length c') ∧ w'.ownsRow w.heap.size 5 1 (.slice A' (l.take m).length c') (l.take m).length (bs (l.take m)) ∧ Below w.heap.size w w' := by
  obtain ⟨i0, hi, hz0, hz1, hz2⟩ := info_parts Tryd.info5
  have e0 : ∀ W : World, W.ownsRow w.heap.size 5 1 (.slice none 0 0) 0 [] := fun W => World.ownsRow_nil _ _ _ _
  have HE := Lib.hid e0
  obtain ⟨n, hnn⟩ : ∃ n, n = (l.take m).length := ⟨_, rfl⟩
  have hn2 : n = min m l.length := by rw [hnn, List.length_take]
  have hn3 : l.take m = l.take n := by
    by_cases h : m ≤ l.length
    · rw [hn2, Nat.min_eq_left h]
    · rw [List.take_of_length_le (by omega), List.take_of_length_le (by omega)]
  rw [← hnn, hn3]
  have hc8 := cut8 A l.length c n (by omega)
  have HR := Lib.hid (reads_cut8 (c := c) (k := n) ha (by omega))
  obtain ⟨A2, hA2⟩ : ∃ A2, A2 = (if c = 0 then A else A.map (·.add 0)) := ⟨_, rfl⟩
  rw [← hA2] at hc8 HR
  obtain ⟨q, hq⟩ : ∃ q, q = l.length := ⟨_, rfl⟩
  rw [← hq] at hc8 hn2 hlc hn ⊢
  have hn10 : n ≤ 1000000 := by omega
  clear ha hA2 e0 hn3 hnn hq
  rcases (show (n = q ∧ q ≤ m) ∨ (n = m ∧ ¬ q ≤ m) by omega) with ⟨rfl, hlm⟩ | ⟨rfl, hlm⟩
  all_goals
    clear hn2
    go_enter Tryd.func22, Tryd.ntmps22
    go_wp2_with (first
      | (at_builtin; refine wpList_append_any _ rfl (.tmp 6) (.tmp 12) _ rfl w.heap.size 5 i0 (.int .u8 0) 1 1 Tryd.underlying32 hi hz0 hz1 hz2 rfl (by omega) _ 0 [] rfl (HE.out w) w.heap.size A2 n c (bs (l.take n)) rfl HR.out (bs_one _) (len_le (by omega)) (by omega) (Nat.le_refl _) ?_; intro v2 w2 hown2 hgrow2 _; have HO2 := Lib.hid hown2; have HG2 : Hid (w.grownBy w2 none) := Lib.hid hgrow2; clear hown2 hgrow2))
    have ho := HO2.out
    rw [Nat.zero_add, List.nil_append] at ho
    obtain ⟨A6, c6, rfl, _⟩ := own_len ho
    go_ret
    exact ⟨_, _, rfl, ho, below_none HG2.out⟩
end Go.Proofs.YtdhmaopodcccmaaDoor

/-
  THE COMPARISON of arrays of bytes.
-/
namespace Go.Proofs.YtdhmaopodcccmaaDoor
open Go.RowKit

theorem Tryd.plain5 : Tryd.prog.plainKey 5 = true := by kernel_rfl
theorem Tryd.cells5 : Tryd.prog.cellsOf 5 = 1 := by kernel_rfl
theorem eqItems_bytes (x y : List UInt8) (W : World) : ∀ is : List Nat, (∀ i ∈ is, i < x.length ∧ i < y.length) → (Op.eqItems 9999 5 1 (bs x).toArray (bs y).toArray is).run Tryd.prog W = .ok (is.all fun i => x[i]? == y[i]?) W := by
  intro is
  induction is with
  | nil => intro _; simp [Op.eqItems]
  | cons i is ih =>
    intro h
    obtain ⟨h1, h2⟩ := h i (by simp)
    have hg1 : (bs x).toArray[i * 1]? = some (.int .u8 (x[i].toNat : Int)) := by rw [Nat.mul_one]; simpa using bs_get x i h1
    have hg2 : (bs y).toArray[i * 1]? = some (.int .u8 (y[i].toNat : Int)) := by rw [Nat.mul_one]; simpa using bs_get y i h2
    have hp1 := run_part_plain (P := Tryd.prog) W Tryd.plain5 hg1
    have hp2 := run_part_plain (P := Tryd.prog) W Tryd.plain5 hg2
    have he := run_equalIn_int (P := Tryd.prog) W 9998 5 .u8 .u8 (x[i].toNat : Int) (y[i].toNat : Int) Tryd.underlying5
    have hxy : (x[i]? == y[i]?) = decide ((x[i].toNat : Int) = (y[i].toNat : Int)) := by
      rw [List.getElem?_eq_getElem h1, List.getElem?_eq_getElem h2, Bool.eq_iff_iff]
      simp only [beq_iff_eq, Option.some.injEq, decide_eq_true_eq]
      exact ⟨fun h => by rw [h], fun h => UInt8.toNat_inj.1 (by omega)⟩
    simp only [Op.eqItems, Sem.run_bind, hp1, hp2, Result.andThen_ok, he]
    by_cases heq : (x[i].toNat : Int) = (y[i].toNat : Int)
    · have hb : (x[i]? == y[i]?) = true := by rw [hxy]; simpa using heq
      rw [List.all_cons, hb]
      simpa [heq] using ih (fun j hj => h j (by simp [hj]))
    · have hb : (x[i]? == y[i]?) = false := by rw [hxy]; simpa using heq
      rw [List.all_cons, hb]
      simp [heq]
theorem all_eq (x y : List UInt8) (n : Nat) (hx : x.length = n) (hy : y.length = n) : ((List.range n).all fun i => x[i]? == y[i]?) = decide (x = y) := by
  rw [Bool.eq_iff_iff]
  simp only [List.all_eq_true, List.mem_range, beq_iff_eq, decide_eq_true_eq]
  constructor
  · intro h
    apply List.ext_getElem?
    intro i
    by_cases hi : i < n
    · exact h i hi
    · rw [List.getElem?_eq_none (by omega), List.getElem?_eq_none (by omega)]
  · rintro rfl i _; rfl
theorem eq24 (x y : List UInt8) (hx : x.length = 32) (hy : y.length = 32) (W : World) : (binOp .eql 92 (.agg (bs x).toArray) (.agg (bs y).toArray)).run Tryd.prog W = .ok (.bool (decide (x = y))) W := by
  obtain ⟨i0, hi, _⟩ := info_parts Tryd.info5
  have h1 := run_equalIn_array (P := Tryd.prog) (w := W) 9999 (bs x).toArray (bs y).toArray Tryd.underlying92 hi
  rw [Tryd.cells5, eqItems_bytes x y W _ (fun i hi => by rw [List.mem_range] at hi; omega), all_eq x y 32 hx hy] at h1
  simp only [binOp]
  simp [Op.equal, Op.maxDepth, h1]
theorem eq44 (x y : List UInt8) (hx : x.length = 16) (hy : y.length = 16) (W : World) : (binOp .eql 37 (.agg (bs x).toArray) (.agg (bs y).toArray)).run Tryd.prog W = .ok (.bool (decide (x = y))) W := by
  obtain ⟨i0, hi, _⟩ := info_parts Tryd.info5
  have h1 := run_equalIn_array (P := Tryd.prog) (w := W) 9999 (bs x).toArray (bs y).toArray Tryd.underlying37 hi
  rw [Tryd.cells5, eqItems_bytes x y W _ (fun i hi => by rw [List.mem_range] at hi; omega), all_eq x y 16 hx hy] at h1
  simp only [binOp]
  simp [Op.equal, Op.maxDepth, h1]
end Go.Proofs.YtdhmaopodcccmaaDoor
