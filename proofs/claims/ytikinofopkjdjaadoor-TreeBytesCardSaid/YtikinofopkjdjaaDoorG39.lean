/-
  The reference's Decode.
-/
import Derived.Test.YtikinofopkjdjaaDoorG37
import Derived.Test.YtikinofopkjdjaaDoorG38
set_option linter.unusedVariables false
namespace Go.Proofs.YtikinofopkjdjaaDoor
open Go.RowKit WM TR

theorem read_all : ∀ d, ReadC d
  | 0 => read_zero
  | d + 1 => read_step d (read_all d)

set_option maxRecDepth 100000 in
set_option maxHeartbeats 4000000 in
theorem rdecode_is (A : Option Addr) (c : Nat) (l : List UInt8) (w : World) (ha : Reads w w.heap.size 1 A l.length (bs l)) (hlc : l.length ≤ c) (hl : l.length ≤ 1000000) :
    Calls Tryd.prog 19 #[.slice A l.length c] w (DecodePost (decD 24 l) w) := by
  obtain ⟨r, hr⟩ : ∃ r, r = w.heap.size := ⟨_, rfl⟩
  have HRR := Lib.hid hr
  obtain ⟨W1, hW1⟩ : ∃ W1, W1 = w.alloc (.cells #[.int .i64 0, .int .i64 0, .int .i64 0, .slice none 0 0] 26) := ⟨_, rfl⟩
  have HZ : Hid (Blk W1 r 26 #[.int .i64 0, .int .i64 0, .int .i64 0, .slice none 0 0]) := Lib.hid (by rw [hW1, hr]; exact Blk.new _ _ _)
  have HB1 : Hid (Below w.heap.size w W1) := Lib.hid (by rw [hW1]; exact below_new _ _)
  have HW1 := Lib.hid hW1
  have hC := read_all 24 A c l W1 ((ha.below HB1.out).more HB1.out.size) hlc hl 24 rfl (by omega)
  obtain ⟨n0, hn0⟩ : ∃ n, n = l.length := ⟨_, rfl⟩
  rw [← hn0] at hC ⊢
  cases hd : decD 24 l with
  | none =>
    rw [hd] at hC
    have HC := Lib.hid hC
    clear hC ha hr hW1 hn0 hlc hl hd
    go_enter Tryd.func19, Tryd.ntmps19
    go_upto_region 1 with fail
    rw [← HW1.out, ← HRR.out]
    go_upto_region 2 with (go_at_call 49; refine HC.out.mono ?_; rintro e w3 ⟨y1, y2, y3, Ay, ly, cy, rfl, hb3⟩; have HZ3 := Lib.hid (HZ.out.below hb3 HZ.out.lt); have HB3 := Lib.hid (bt HB1.out hb3); clear hb3)
    obtain ⟨W4, hW4⟩ : ∃ W, W = w3.alloc (.cells #[.int .i64 y1, .int .i64 y2, .int .i64 y3, .slice Ay ly cy] 26) := ⟨_, rfl⟩
    have hz : Blk W4 r 26 #[.int .i64 0, .int .i64 0, .int .i64 0, .slice none 0 0] := by rw [hW4]; exact HZ3.out.alloc _
    have HB4 : Hid (Below w.heap.size w W4) := Lib.hid (by rw [hW4]; exact ba HB3.out _)
    have z0 := hz.cell 0; have z1 := hz.cell 1; have z2 := hz.cell 2; have z3 := hz.cell 3; have f0 := hz.frozen 0; have f1 := hz.frozen 1; have f2 := hz.frozen 2; have f3 := hz.frozen 3; simp only [List.getElem?_toArray, List.getElem?_cons_zero, List.getElem?_cons_succ] at z0 z1 z2 z3
    rw [← hW4]
    clear hW4 hz
    go_wp2_with fail
    refine bodyPost_ret (v := .tuple #[.agg #[.int .i64 0, .int .i64 0, .int .i64 0, .slice none 0 0], .int .i64 0, .int .i64 2]) (by simp [results, Tryd.results19, go_sem, z0, z1, z2, z3]) rfl ?_
    exact ⟨rfl, put4_below HB4.out _ _ _ _ (by have := HRR.out; omega)⟩
  | some x =>
    obtain ⟨t, u⟩ := x
    rw [hd] at hC
    have HC := Lib.hid hC
    clear hC ha hr hW1 hn0 hlc hl hd
    go_enter Tryd.func19, Tryd.ntmps19
    go_upto_region 1 with fail
    rw [← HW1.out, ← HRR.out]
    go_upto_region 2 with (go_at_call 49; refine HC.out.mono ?_; rintro e w3 ⟨A3, c3, rfl, hr3, hb3⟩; have HR3 := Lib.hid hr3; have HZ3 := Lib.hid (HZ.out.below hb3 HZ.out.lt); have HB3 := Lib.hid hb3; clear hb3 hr3)
    obtain ⟨W4, hW4⟩ : ∃ W, W = w3.alloc (.cells #[.int .i64 t.k, .int .i64 t.n, .int .i64 t.m, .slice A3 t.kids.length c3] 26) := ⟨_, rfl⟩
    obtain ⟨gt, hgt⟩ : ∃ x, x = w3.heap.size := ⟨_, rfl⟩
    have HW34 : Hid (Below w3.heap.size w3 W4) := Lib.hid (by rw [hW4]; exact below_new _ _)
    have HLD : Hid (∀ i z, ([.int .i64 t.k, .int .i64 t.n, .int .i64 t.m, .slice A3 t.kids.length c3] : List Value)[i]? = some z → W4.cell? ⟨gt, 0 + i, none⟩ = some z) := Lib.hid (by
      intro i z hz
      have hb : Blk W4 gt 26 #[.int .i64 t.k, .int .i64 t.n, .int .i64 t.m, .slice A3 t.kids.length c3] := by rw [hW4, hgt]; exact Blk.new _ _ _
      rw [hb.cell (0 + i), Nat.zero_add]; simpa using hz)
    have hz := HZ3.out.below HW34.out HZ3.out.lt
    have z0 := hz.cell 0; have z1 := hz.cell 1; have z2 := hz.cell 2; have z3 := hz.cell 3; have f0 := hz.frozen 0; have f1 := hz.frozen 1; have f2 := hz.frozen 2; have f3 := hz.frozen 3; simp only [List.getElem?_toArray, List.getElem?_cons_zero, List.getElem?_cons_succ] at z0 z1 z2 z3
    have HRW : Hid (Rep W4 (fun b => W1.heap.size ≤ b ∧ b < W4.heap.size) 24 t (nd t A3 c3)) := Lib.hid ((HR3.out.keep (Keeps.below (B := w3.heap.size) (fun b hb => hb.2) HW34.out)).mono fun b hb => ⟨hb.1, Nat.lt_of_lt_of_le hb.2 HW34.out.size⟩)
    have HBW : Hid (Below w.heap.size w W4) := Lib.hid (bt (bt HB1.out HB3.out) HW34.out)
    have HS1 : Hid (r < W1.heap.size) := Lib.hid HZ.out.lt
    have hk0 : decide ((u : Int) < 0) = false := by simp
    rw [← hW4, ← hgt]
    clear hW4 hgt hz
    go_wp2_with (first
      | (refine wpList_load_mid rfl 26 (.tmp 5) rfl gt 0 rfl [.int .i64 t.k, .int .i64 t.n, .int .i64 t.m, .slice A3 t.kids.length c3] _ HLD.out Tryd.underlying26 rfl (by rw [size_node]; rfl) ?_))
    refine bodyPost_ret (v := .tuple #[.agg #[.int .i64 t.k, .int .i64 t.n, .int .i64 t.m, .slice A3 t.kids.length c3], .int .i64 (u : Int), .int .i64 0]) (by simp [results, Tryd.results19, go_sem, z0, z1, z2, z3]) rfl ?_
    refine ⟨A3, c3, rfl, (put4_rep HRW.out (fun h => by have := h.1; have := HS1.out; omega) _ _ _ _).mono fun b hb => ?_, put4_below HBW.out _ _ _ _ (by have := HRR.out; omega)⟩
    rw [(gw4 _ _ _ _ _ _).2]
    exact ⟨by have := hb.1; have := HRR.out; have := HS1.out; omega, hb.2⟩
end Go.Proofs.YtikinofopkjdjaaDoor
