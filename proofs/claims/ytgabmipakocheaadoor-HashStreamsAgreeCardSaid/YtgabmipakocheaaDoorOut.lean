/-
  THE HASH's BYTES, one by one.
-/
import Derived.Test.YtgabmipakocheaaDoorComp
import Derived.Test.YtgabmipakocheaaDoorPad
namespace Go.Proofs.YtgabmipakocheaaDoor
open Go.RowKit

def outAt (v : St) (j : Nat) : UInt8 := UInt8.ofNat ((v.at (j / 4)) >>> (24 - 8 * (j % 4))).toNat
theorem outB_eq (v : St) : outB v = (List.range 32).map (outAt v) := rfl
/-- The first i bytes, and zeros. -/
def outTo (v : St) (i : Nat) : List UInt8 := (List.range 32).map fun j => if j < i then outAt v j else 0
theorem outTo_length (v : St) (i : Nat) : (outTo v i).length = 32 := by simp [outTo]
theorem outTo_zero (v : St) : outTo v 0 = List.replicate 32 0 := rfl
theorem outTo_done (v : St) : outTo v 32 = outB v := by
  rw [outB_eq]
  apply List.map_congr_left
  intro j hj
  rw [if_pos (by simpa using hj)]
theorem outTo_step (v : St) (i : Nat) (hi : i < 32) : (outTo v i).set i (outAt v i) = outTo v (i + 1) := by
  apply List.ext_getElem?
  intro k
  by_cases hk : k < 32
  · rw [List.getElem?_set]
    by_cases h : i = k
    · subst h; simp [outTo, hi]
    · rw [if_neg h]
      simp only [outTo, List.getElem?_map, List.getElem?_range hk, Option.map_some]
      by_cases h2 : k < i
      · simp [h2, show k < i + 1 by omega]
      · simp [h2, show ¬ k < i + 1 by omega]
  · rw [List.getElem?_eq_none (by simp [outTo]; omega), List.getElem?_eq_none (by simp [outTo]; omega)]
theorem outTo_get (v : St) (i : Nat) (hi : i < 32) : (outTo v i)[i]? = some 0 := by simp [outTo, hi]
theorem bs_get' {l : List UInt8} {i : Nat} {c : UInt8} (h : l[i]? = some c) : (bs l)[i]? = some (.int .u8 (c.toNat : Int)) := by simp [bs, h]
theorem bs_set (l : List UInt8) (i : Nat) (x : UInt8) : (bs l).set i (.int .u8 (x.toNat : Int)) = bs (l.set i x) := by simp [bs, List.map_set]
theorem blk_setB {w : World} {g : Nat} {t : TypeId} {l : List UInt8} (h : Blk w g t (bs l).toArray) (i : Nat) (x : UInt8) : Blk (w.setCell ⟨g, i, none⟩ (.int .u8 (x.toNat : Int))) g t (bs (l.set i x)).toArray := by
  have := Blk.set_ h i (.int .u8 (x.toNat : Int))
  simpa [bs, List.map_set] using this
theorem out_val (x : BitVec 32) (n : Nat) : (x.toNat : Int) / 2 ^ n % 256 = ((UInt8.ofNat (x >>> n).toNat).toNat : Int) := by
  rw [byte_val, shr32]
theorem out_byte (v : St) (i n : Nat) (h : n = 24 - 8 * (i % 4)) : ((v.at (i / 4)).toNat : Int) / 2 ^ n % 256 = ((outAt v i).toNat : Int) := by
  rw [out_val, h]; rfl
theorem outB_length (v : St) : (outB v).length = 32 := rfl
theorem sha_length (m : List UInt8) : (sha m).length = 32 := rfl

theorem blockOf_length {m : List UInt8} {n : Nat} (h : 64 * (n + 1) ≤ m.length) : (blockOf m n).length = 64 := by
  simp [blockOf]; omega
theorem blockOf_get {m : List UInt8} {n : Nat} (h : 64 * (n + 1) ≤ m.length) (i : Nat) (hi : i < 64) : (blockOf m n)[i]'(by rw [blockOf_length h]; exact hi) = m[64 * n + i]'(by omega) := by
  simp [blockOf]
theorem hvn_succ (m : List UInt8) (n : Nat) : hvn m (n + 1) = comp (hvn m n) (blockOf m n) := rfl
end Go.Proofs.YtgabmipakocheaaDoor
