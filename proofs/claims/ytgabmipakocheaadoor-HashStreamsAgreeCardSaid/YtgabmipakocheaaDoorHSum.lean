/-
  hash.Sum.
-/
import Derived.Test.YtgabmipakocheaaDoorSSum
import Derived.Laws.BytesString
import Derived.Laws.BytesArg
namespace Go.Proofs.YtgabmipakocheaaDoor
open Go.RowKit

def str (m : List UInt8) : ByteArray := ⟨m.toArray⟩
theorem str_list (m : List UInt8) : (str m).data.toList = m := rfl
theorem str_size (m : List UInt8) : (str m).size = m.length := by simp [str, ByteArray.size]
/-- 'string(b)' -/
theorem conv_str {A : Option Addr} {m : List UInt8} {c B : Nat} {W : World} (h : Reads W B 1 A m.length (bs m)) : (convert 22 9 (.slice A m.length c)).run Tryd.prog W = .ok (.string (str m)) W := by
  rcases A with _ | ad
  · have hm : m = [] := by
      rcases Nat.eq_zero_or_pos m.length with h0 | h0
      · exact List.eq_nil_of_length_eq_zero h0
      · obtain ⟨ad, h1, _⟩ := h.2 h0; cases h1
    subst hm
    exact run_convert_bytes_nil W 22 5 Tryd.underlying22 Tryd.underlying5 _ _ 9 Tryd.underlying9
  · have e : bs m = (m.map fun x : UInt8 => (x.toNat : Int)).map (Value.int .u8) := by simp [bs]
    have hl : (loadCells ad m.length).run Tryd.prog W = .ok ((m.map fun x : UInt8 => (x.toNat : Int)).map (Value.int .u8)).toArray W := by
      have := run_loadCells_list (P := Tryd.prog) W ad (bs m) (fun j v hv => by
        have hn : 0 < m.length := by
          have := (List.getElem?_eq_some_iff.1 hv).1
          rw [bs_length] at this; omega
        obtain ⟨ad', h1, _, hc⟩ := h.2 hn
        injection h1 with h1
        subst h1
        exact hc j v hv)
      rw [bs_length] at this
      rw [this, e]
    rw [run_convert_bytes_string W 22 9 5 _ _ _ Tryd.underlying22 Tryd.underlying5 Tryd.underlying9, run_bytesToString W ad m.length c _ hl, foldl_push_bytes]
    congr 2
    unfold str
    congr 1
    apply Array.ext'
    have e2 : (fun n : Int => UInt8.ofNat n.toNat) ∘ (fun x : UInt8 => (x.toNat : Int)) = id := by funext x; simp
    simp [e2]
theorem store_bytes {w : World} {g : Nat} {t : TypeId} {cs : Array Value} {l : List UInt8} (h : Blk w g t cs) (hs : cs.size = l.length) :
    (storeCells ⟨g, 0, none⟩ (bs l)).run Tryd.prog w = .ok () (w.setRow g (bs l).toArray) := by
  have := run_storeCells_from (P := Tryd.prog) g t (bs l) 0 cs w h (by rw [bs_length]; omega) (bs_one l)
  simpa using this

set_option maxRecDepth 100000 in
set_option maxHeartbeats 2000000 in
theorem hsum (A : Option Addr) (m : List UInt8) (c : Nat) (w : World) (hk : KT 1 w) (ha : Reads w w.heap.size 1 A m.length (bs m)) (hm : m.length ≤ 549755813888) :
    Calls Tryd.prog 11 #[.slice A m.length c] w fun e w' => e = .returned (.agg (bs (sha m)).toArray) ∧ Below w.heap.size w w' := by
  have HA := Lib.hid ha
  have HK := Lib.hid hk
  clear ha hk
  have hcv : ∀ W, Below w.heap.size w W → (convert 22 9 (.slice A m.length c)).run Tryd.prog W = .ok (.string (str m)) W := fun W hW => conv_str (HA.out.below hW)
  have HCV := Lib.hid hcv
  clear hcv
  go_enter Tryd.func11, Tryd.ntmps11
  go_wp2
  obtain ⟨z, hz⟩ : ∃ z : Array Value, z = (bs (List.replicate 32 0)).toArray := ⟨_, rfl⟩
  have hz2 : (#[.int .u8 0, .int .u8 0, .int .u8 0, .int .u8 0, .int .u8 0, .int .u8 0, .int .u8 0, .int .u8 0, .int .u8 0, .int .u8 0, .int .u8 0, .int .u8 0, .int .u8 0, .int .u8 0, .int .u8 0, .int .u8 0, .int .u8 0, .int .u8 0, .int .u8 0, .int .u8 0, .int .u8 0, .int .u8 0, .int .u8 0, .int .u8 0, .int .u8 0, .int .u8 0, .int .u8 0, .int .u8 0, .int .u8 0, .int .u8 0, .int .u8 0, .int .u8 0] : Array Value) = z := by rw [hz]; kernel_rfl
  rw [hz2]
  obtain ⟨w0, hw0⟩ : ∃ w0, w0 = w.alloc (.cells z 24) := ⟨_, rfl⟩
  rw [← hw0]
  have HB0 : Hid (Below w.heap.size w w0) := by rw [hw0]; exact below_new _ _
  have HZ0 : Hid (Blk w0 w.heap.size 24 (bs (List.replicate 32 0)).toArray) := by rw [hw0]; exact Blk.new_at w 24 rfl hz
  clear hw0 hz2 hz
  have hc0 := HCV.out w0 HB0.out
  have hc0' := HCV.out w0.drew HB0.out.drew
  go_region_with (first
    | (go_at_call 14; refine (begin_ _).mono ?_; rintro e w1 ⟨cs1, rfl, hr1, hb1⟩; have HR1 := Lib.hid hr1; have HB1 := Lib.hid (HB0.out.drew.trans (hb1.mono HB0.out.size)); have hc1 := HCV.out w1 HB1.out; have HZ1 := Lib.hid (HZ0.out.drew.below hb1 HZ0.out.lt); clear hr1 hb1)
    | (go_at_call 15; refine (add [] cs1 (str m) _ (HK.out.below HB1.out) HR1.out (by rw [str_size]; simp; omega)).mono ?_; rintro e w2 ⟨cs2, rfl, hr2, hb2⟩; have HR2 := Lib.hid hr2; have HB2 := Lib.hid (HB1.out.trans (hb2.mono HB1.out.size)); have HZ2 := Lib.hid (HZ1.out.below hb2 HZ1.out.lt); clear hr2 hb2)
    | (go_at_call 17; refine (ssum m cs2 _ (HK.out.below HB2.out) HR2.out (by omega)).mono ?_; rintro e w3 ⟨rfl, hb3⟩; have HB3 := Lib.hid (HB2.out.trans (hb3.mono HB2.out.size)); have HZ3 := Lib.hid (HZ2.out.below hb3 HZ2.out.lt); have hst := store_bytes HZ3.out (l := sha m) (by simp [bs, sha_length]); clear hb3))
  all_goals
    go_wp2
    refine bodyPost_ret (results_cell_row Tryd.results11 _ _ w.heap.size 24 (bs (sha m)).toArray (0, 0) _ rfl (HZ3.out.setRow _) Tryd.underlying24 rfl (by rw [Tryd.size24]; simp [bs, sha_length])) rfl ⟨rfl, below_setRow HB3.out (Nat.le_refl _) _⟩
end Go.Proofs.YtgabmipakocheaaDoor
