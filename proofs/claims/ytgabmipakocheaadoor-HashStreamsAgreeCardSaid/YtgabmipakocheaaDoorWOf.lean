/-
  THE WALK of HashOfMatchesSpec.
-/
import Derived.Test.YtgabmipakocheaaDoorShort
import Derived.Laws.Bits128
namespace Go.Proofs.YtgabmipakocheaaDoor
open Go.RowKit WM

theorem i64_and255 (n : Int) : bits .and .i64 n 255 = n % 256 := by
  have h255 : (BitVec.ofInt 64 255).toNat = 2 ^ 8 - 1 := by decide
  have key : (BitVec.ofInt 64 n &&& BitVec.ofInt 64 255).toNat = (n % ((2 ^ 64 : Nat) : Int)).toNat % 2 ^ 8 := by
    rw [BitVec.toNat_and, BitVec.toNat_ofInt, h255, Nat.and_two_pow_sub_one_eq_mod]
  show IntKind.i64.wrap ((BitVec.ofInt 64 n &&& BitVec.ofInt 64 255).toNat : Nat) = n % 256
  rw [key, IntKind.wrap_i64]
  omega
theorem tagB_mod (t : Int) : tagB (t % 256) = tagB t := by unfold tagB; rw [Int.emod_emod]
theorem ofB_mod (t : Int) (l : List ByteArray) : ofB (t % 256) l = ofB t l := by unfold ofB inputOf; rw [tagB_mod]
theorem encB_few (s : ByteArray) (h : s.size ≤ 400) : (encB s.data.toList).length ≤ 409 := by
  have := (enc_len (n := (s.size : Int)) ⟨by omega, by omega⟩).2
  unfold encB
  rw [List.length_append, size_list]; omega
theorem encP_few' (l : List ByteArray) (h : ∀ s ∈ l, s.size ≤ 400) : (encP l).length ≤ 409 * l.length := by
  induction l with
  | nil => simp [encP]
  | cons s l ih =>
    have h1 := encB_few s (h s (by simp))
    have h2 := ih fun s hs => h s (by simp [hs])
    unfold encP at h2 ⊢
    rw [List.flatMap_cons, List.length_append, List.length_cons]
    omega
theorem encP_few {l : List ByteArray} (h : IsFew l) : (encP l).length ≤ 4908 := by
  have := encP_few' l h.2
  have := h.1
  omega
theorem ofB_length (t : Int) (l : List ByteArray) : (ofB t l).length = 16 := by simp [ofB, sha_length]
theorem of_is (t : Int) (A : Option Addr) (l : List ByteArray) (c : Nat) (w : World) (hk : KT 1 w) (ha : Reads w w.heap.size 1 A l.length (ss l)) (h : IsFew l) (d : List UInt8) (hd : ofB t l = d) :
    Calls Tryd.prog 21 #[.int .i64 t, .slice A l.length c] w fun e w' => e = .returned (.agg (bs d).toArray) ∧ Below w.heap.size w w' := by
  subst hd
  exact of_ t A l c w hk ha (by have := encP_few h; omega) (by have := h.1; omega)
theorem rof_is (t : Int) (A : Option Addr) (l : List ByteArray) (c : Nat) (w : World) (hk : KT 0 w) (ha : Reads w w.heap.size 1 A l.length (ss l)) (h : IsFew l) (d : List UInt8) (hd : ofB t l = d) :
    Calls Tryd.prog 22 #[.int .i64 t, .slice A l.length c] w fun e w' => e = .returned (.agg (bs d).toArray) ∧ Below w.heap.size w w' := by
  subst hd
  exact rof t A l c w hk ha (by have := encP_few h; omega) (by have := h.1; omega)
attribute [local go_sem ↓] shut44

set_option maxRecDepth 100000 in
set_option maxHeartbeats 1600000 in
theorem walkOf (t : Int) (A : Option Addr) (l : List ByteArray) (c : Nat) (w : World) (ha : Reads w w.heap.size 1 A l.length (ss l)) (hn : l.length ≤ 9223372036854775807) (hk0 : KT 0 w) (hk : KT 1 w) :
    Calls Tryd.prog 7 #[.int .i64 t, .slice A l.length c] w fun e w' => e = .returned (.bool true) ∧ Below w.heap.size w w' := by
  have HK := Lib.hid hk
  have HK0 := Lib.hid hk0
  have HA := Lib.hid ha
  clear hk hk0 ha
  go_enter Tryd.func7, Tryd.ntmps7
  go_wp2_with (go_at_call 10; refine (sanity _ HK.out).mono ?_; rintro e w1 ⟨rfl, hb1⟩; have HB1 := Lib.hid hb1; clear hb1)
  have h0 := few A l c w1 ((HA.out.below HB1.out).more HB1.out.size) hn
  refine h0.mono ?_
  clear h0
  rintro e w2 ⟨r, rfl, hr, hb2⟩
  have HB2 := Lib.hid (bt HB1.out hb2)
  have HR := Lib.hid hr
  clear hb2 hr
  cases r
  · go_wp2
    go_ret
    exact ⟨rfl, HB2.out⟩
  · have HF := Lib.hid (HR.out rfl)
    obtain ⟨D, hD⟩ : ∃ D, D = ofB t l := ⟨_, rfl⟩
    have hDl : D.length = 16 := by rw [hD]; exact ofB_length t l
    have h44 : (Tryd.prog.info? 44).map (·.size) = some (bs D).toArray.size := by rw [Tryd.size44]; simp [bs, hDl]
    have heq : ∀ W, (binOp .eql 44 (.agg (bs D).toArray) (.agg (bs D).toArray)).run Tryd.prog W = .ok (.bool true) W := fun W => (eq44 D D hDl hDl W).trans (by rw [decide_eq_true rfl])
    have hand : bits .and .i64 t 255 = t % 256 := i64_and255 t
    have HD := Lib.hid hD
    have HDL := Lib.hid hDl
    have H44 := Lib.hid h44
    clear hD hDl h44
    go_wp2_with (first
      | (go_at_call 21; ((with_reducible refine (of_is t A l c w2 (HK.out.below HB2.out) ((HA.out.below HB2.out).more HB2.out.size) HF.out D HD.out.symm).mono ?_); rintro e w3 ⟨rfl, hb3⟩); have HB3 := Lib.hid (bt HB2.out hb3); clear hb3)
      | (refine wpList_store_row rfl 44 (.tmp 6) (.tmp 14) rfl w3.heap.size (bs D).toArray rfl rfl 44 _ (Blk.new w3 44 _) H44.out (by simp [bs, HDL.out]) (all_oneCell_toArray (bs_one _)) ?_
         generalize hw4 : World.setRow (World.alloc w3 _) _ _ = w4
         have HG4 : Hid (Blk w4 w3.heap.size 44 (bs D).toArray) := by rw [← hw4]; exact (Blk.new w3 44 _).setRow _
         have HB4 : Hid (Below w.heap.size w w4) := by rw [← hw4]; exact below_setRow (ba HB3.out _) HB3.out.size _
         clear hw4))
    have h1 := load44 HG4.out HDL.out
    have h2 := load44 HG4.out.drew HDL.out
    go_region_with (first
      | (go_at_call 22; go_loud (refine (rof_is t A l c _ (HK0.out.below HB4.out.drew) ((HA.out.below HB4.out.drew).more HB4.out.size) HF.out D HD.out.symm).mono ?_); rintro e w5 ⟨rfl, hb5⟩; have HB5 := Lib.hid (bt HB4.out.drew hb5); have HG5 := Lib.hid (blk_past hb5 HG4.out.drew); have h5 := load44 HG5.out HDL.out; clear hb5)
      | (go_at_call 21; go_loud (refine (of_is (t % 256) A l c _ (HK.out.below HB5.out) ((HA.out.below HB5.out).more HB5.out.size) HF.out D (by rw [ofB_mod]; exact HD.out.symm)).mono ?_); rintro e w6 ⟨rfl, hb6⟩; have HB6 := Lib.hid (bt HB5.out hb6); have HG6 := Lib.hid (blk_past hb6 HG5.out); have h6 := load44 HG6.out HDL.out; clear hb6))
    all_goals
      go_wp2_with fail
      go_ret
      exact ⟨rfl, HB6.out⟩
end Go.Proofs.YtgabmipakocheaaDoor
