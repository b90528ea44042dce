/-
  The program's Decode.
-/
import Derived.Test.YtikinofopkjdjaaDoorG36
set_option linter.unusedVariables false
namespace Go.Proofs.YtikinofopkjdjaaDoor
open Go.RowKit WM TR

theorem dec_all : ∀ d, DecC d
  | 0 => dec_zero
  | d + 1 => dec_step d (dec_all d)
/-- What Decode leaves. -/
def DecodePost (o : Option (T × Nat)) (w : World) (e : Ending) (w' : World) : Prop :=
  match o with
  | none => e = .returned (.tuple #[.agg #[.int .i64 0, .int .i64 0, .int .i64 0, .slice none 0 0], .int .i64 0, .int .i64 2]) ∧ Below w.heap.size w w'
  | some (t, u) => ∃ A' c', e = .returned (.tuple #[.agg #[.int .i64 t.k, .int .i64 t.n, .int .i64 t.m, .slice A' t.kids.length c'], .int .i64 (u : Int), .int .i64 0]) ∧ Rep w' (fun b => w.heap.size ≤ b ∧ b < w'.heap.size) 24 t (nd t A' c') ∧ Below w.heap.size w w'

set_option maxRecDepth 100000 in
set_option maxHeartbeats 4000000 in
theorem decode_is (A : Option Addr) (c : Nat) (l : List UInt8) (w : World) (ha : Reads w w.heap.size 1 A l.length (bs l)) (hlc : l.length ≤ c) (hl : l.length ≤ 1000000) :
    Calls Tryd.prog 18 #[.slice A l.length c] w (DecodePost (decD 24 l) w) := by
  obtain ⟨r, hr⟩ : ∃ r, r = w.heap.size := ⟨_, rfl⟩
  have HRR := Lib.hid hr
  obtain ⟨W1, hW1⟩ : ∃ W1, W1 = w.alloc (.cells #[.int .i64 0, .int .i64 0, .int .i64 0, .slice none 0 0] 26) := ⟨_, rfl⟩
  have HZ : Hid (Blk W1 r 26 #[.int .i64 0, .int .i64 0, .int .i64 0, .slice none 0 0]) := Lib.hid (by rw [hW1, hr]; exact Blk.new _ _ _)
  have HB1 : Hid (Below w.heap.size w W1) := Lib.hid (by rw [hW1]; exact below_new _ _)
  have HW1 := Lib.hid hW1
  have hC := dec_all 24 A c l W1 ((ha.below HB1.out).more HB1.out.size) hlc hl 24 rfl (by omega)
  obtain ⟨n0, hn0⟩ : ∃ n, n = l.length := ⟨_, rfl⟩
  rw [← hn0] at hC ⊢
  cases hd : decD 24 l with
  | none =>
    rw [hd] at hC
    have HC := Lib.hid hC
    clear hC ha hr hW1 hn0 hlc hl hd
    go_enter Tryd.func18, Tryd.ntmps18
    go_upto_region 1 with fail
    rw [← HW1.out, ← HRR.out]
    go_wp2_with (go_at_call 48; refine HC.out.mono ?_; rintro e w3 ⟨rfl, hb3⟩; have hz := HZ.out.below hb3 HZ.out.lt; have HZ3 := Lib.hid hz; have z0 := hz.cell 0; have z1 := hz.cell 1; have z2 := hz.cell 2; have z3 := hz.cell 3; have f0 := hz.frozen 0; have f1 := hz.frozen 1; have f2 := hz.frozen 2; have f3 := hz.frozen 3; simp only [List.getElem?_toArray, List.getElem?_cons_zero, List.getElem?_cons_succ] at z0 z1 z2 z3; have HB3 := Lib.hid (bt HB1.out hb3); have hr3l := hz.lt; clear hb3 hz)
    obtain ⟨V5, hV5⟩ : ∃ V, V = ((((w3.setCell ⟨r, 0, none⟩ (.int .i64 0)).setCell ⟨r, 1, none⟩ (.int .i64 0)).setCell ⟨r, 2, none⟩ (.int .i64 0)).setCell ⟨r, 3, none⟩ (.slice none 0 0)).alloc (.cells #[.int .i64 0, .int .i64 0, .int .i64 0, .slice none 0 0] 26) := ⟨_, rfl⟩
    have hb5 : Blk V5 r 26 #[.int .i64 0, .int .i64 0, .int .i64 0, .slice none 0 0] := by rw [hV5]; exact (put4_blk HZ3.out rfl _ _ _ _).alloc _
    have hw5 : Below w.heap.size w V5 := by rw [hV5]; exact ba (put4_below HB3.out _ _ _ _ (by have := HRR.out; omega)) _
    have q0 := hb5.cell 0; have q1 := hb5.cell 1; have q2 := hb5.cell 2; have q3 := hb5.cell 3
    simp only [List.getElem?_toArray, List.getElem?_cons_zero, List.getElem?_cons_succ] at q0 q1 q2 q3
    rw [← hV5]
    refine bodyPost_ret (v := .tuple #[.agg #[.int .i64 0, .int .i64 0, .int .i64 0, .slice none 0 0], .int .i64 0, .int .i64 2]) (by simp [results, Tryd.results18, go_sem, q0, q1, q2, q3]) rfl ?_
    exact ⟨rfl, hw5⟩
  | some x =>
    obtain ⟨t, u⟩ := x
    rw [hd] at hC
    have HC := Lib.hid hC
    clear hC ha hr hW1 hn0 hlc hl hd
    go_enter Tryd.func18, Tryd.ntmps18
    go_upto_region 1 with fail
    rw [← HW1.out, ← HRR.out]
    go_upto_region 2 with (go_at_call 48; refine HC.out.mono ?_; rintro e w3 ⟨A3, c3, rfl, hr3, hb3⟩; have HR3 := Lib.hid hr3; have HZ3 := Lib.hid (HZ.out.below hb3 HZ.out.lt); have HB3 := Lib.hid hb3; clear hb3 hr3)
    obtain ⟨W4, hW4⟩ : ∃ W, W = w3.alloc (.cells #[.int .i64 t.k, .int .i64 t.n, .int .i64 t.m, .slice A3 t.kids.length c3] 26) := ⟨_, rfl⟩
    obtain ⟨gt, hgt⟩ : ∃ x, x = w3.heap.size := ⟨_, rfl⟩
    have HW34 : Hid (Below w3.heap.size w3 W4) := Lib.hid (by rw [hW4]; exact below_new _ _)
    have HLD : Hid (∀ i z, ([.int .i64 t.k, .int .i64 t.n, .int .i64 t.m, .slice A3 t.kids.length c3] : List Value)[i]? = some z → W4.cell? ⟨gt, 0 + i, none⟩ = some z) := Lib.hid (by
      intro i z hz
      have hb : Blk W4 gt 26 #[.int .i64 t.k, .int .i64 t.n, .int .i64 t.m, .slice A3 t.kids.length c3] := by rw [hW4, hgt]; exact Blk.new _ _ _
      rw [hb.cell (0 + i), Nat.zero_add]; simpa using hz)
    have hz := HZ3.out.below HW34.out HZ3.out.lt
    have z0 := hz.cell 0; have z1 := hz.cell 1; have z2 := hz.cell 2; have z3 := hz.cell 3; have f0 := hz.frozen 0; have f1 := hz.frozen 1; have f2 := hz.frozen 2; have f3 := hz.frozen 3
    simp only [List.getElem?_toArray, List.getElem?_cons_zero, List.getElem?_cons_succ] at z0 z1 z2 z3
    have HRW : Hid (Rep W4 (fun b => W1.heap.size ≤ b ∧ b < W4.heap.size) 24 t (nd t A3 c3)) := Lib.hid ((HR3.out.keep (Keeps.below (B := w3.heap.size) (fun b hb => hb.2) HW34.out)).mono fun b hb => ⟨hb.1, Nat.lt_of_lt_of_le hb.2 HW34.out.size⟩)
    have HBW : Hid (Below w.heap.size w W4) := Lib.hid (bt (bt HB1.out HB3.out) HW34.out)
    have HS1 : Hid (r < W1.heap.size) := Lib.hid HZ.out.lt
    rw [← hW4, ← hgt]
    clear hW4 hgt hz
    go_wp2_with (first
      | (refine wpList_load_mid rfl 26 (.tmp 5) rfl gt 0 rfl [.int .i64 t.k, .int .i64 t.n, .int .i64 t.m, .slice A3 t.kids.length c3] _ HLD.out Tryd.underlying26 rfl (by rw [size_node]; rfl) ?_))
    refine bodyPost_ret (v := .tuple #[.agg #[.int .i64 t.k, .int .i64 t.n, .int .i64 t.m, .slice A3 t.kids.length c3], .int .i64 (u : Int), .int .i64 0]) (by simp [results, Tryd.results18, go_sem, z0, z1, z2, z3]) rfl ?_
    refine ⟨A3, c3, rfl, (put4_rep HRW.out (fun h => by have := h.1; have := HS1.out; omega) _ _ _ _).mono fun b hb => ?_, put4_below HBW.out _ _ _ _ (by have := HRR.out; omega)⟩
    rw [(gw4 _ _ _ _ _ _).2]
    exact ⟨by have := hb.1; have := HRR.out; have := HS1.out; omega, hb.2⟩
end Go.Proofs.YtikinofopkjdjaaDoor
