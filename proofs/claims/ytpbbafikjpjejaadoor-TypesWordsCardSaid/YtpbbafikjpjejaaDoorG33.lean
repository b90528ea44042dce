/-
  The program's isExpression.
-/
import Derived.Test.YtpbbafikjpjejaaDoorG12
import Derived.Test.YtpbbafikjpjejaaDoorG27
import Derived.Test.YtpbbafikjpjejaaDoorG32
import Derived.Laws.EntriesVeiled
set_option linter.unusedVariables false
namespace Go.Proofs.YtpbbafikjpjejaaDoor
open Go.RowKit WM TR TY

def wk (j : Nat) : Int := [19, 13, 26, 27].getD j 0
/-- The smallest program around an expression, from inside. -/
def wrapN : Nat → T → T
  | 0, e => e
  | j + 1, e => ⟨wk j, 0, 0, [wrapN j e]⟩
theorem wrap_size (e : T) : ∀ j, size (wrapN j e) = size e + j
  | 0 => rfl
  | j + 1 => by
    have h := wrap_size e j
    rw [size_eq]
    simp [wrapN, h]
    omega
theorem wk_in (j : Nat) : inRange (wk j) := by
  unfold wk
  match j with
  | 0 => exact in_sm (by decide) (by decide)
  | 1 => exact in_sm (by decide) (by decide)
  | 2 => exact in_sm (by decide) (by decide)
  | 3 => exact in_sm (by decide) (by decide)
  | _ + 4 => exact (in_sm (by decide) (by decide) : inRange (0 : Int))
set_option maxRecDepth 100000 in
set_option maxHeartbeats 8000000 in
theorem isExpr_is (d : Nat) (x : T) (A : Option Addr) (c : Nat) (w : World) (hr : Rep w (Lt w.heap.size) d x (nd x A c)) (hsz : size x ≤ 100000) (hT : ST w) (hg : 0 < w.heap.size) :
    Calls Tryd.prog 62 #[.agg #[.int .i64 x.k, .int .i64 x.n, .int .i64 x.m, .slice A x.kids.length c]] w fun e w' => e = .returned (.bool (isProg (wrapN 4 x))) ∧ Below w.heap.size w w' := by
  obtain ⟨z, hz⟩ : ∃ z, z = w.heap.size := ⟨_, rfl⟩
  obtain ⟨nk, hnk⟩ : ∃ z, z = x.kids.length := ⟨_, rfl⟩
  obtain ⟨k, hk⟩ : ∃ z, z = x.k := ⟨_, rfl⟩
  obtain ⟨n, hn⟩ : ∃ z, z = x.n := ⟨_, rfl⟩
  obtain ⟨m, hm⟩ : ∃ z, z = x.m := ⟨_, rfl⟩
  obtain ⟨W1, hW1⟩ : ∃ W, W = ((w.alloc (.cells #[.int .i64 k, .int .i64 n, .int .i64 m, .slice A nk c] 25)).alloc (.cells #[.int .i64 k, .int .i64 n, .int .i64 m, .slice A nk c] 25)).alloc (.cells #[.int .i64 19, .int .i64 13, .int .i64 26, .int .i64 27] 3) := ⟨_, rfl⟩
  obtain ⟨g1, hg1⟩ : ∃ z, z = w.heap.size + 1 := ⟨_, rfl⟩
  obtain ⟨g2, hg2⟩ : ∃ z, z = w.heap.size + 1 + 1 := ⟨_, rfl⟩
  have hb1 : Below w.heap.size w W1 := by rw [hW1]; exact ba (ba (below_new _ _) _) _
  have k1 : Blk W1 g1 25 (nd x A c).toArray := by
    have e : (nd x A c).toArray = #[.int .i64 k, .int .i64 n, .int .i64 m, .slice A nk c] := by rw [hk, hn, hm, hnk]; rfl
    rw [e, hW1]; exact (Blk.new_at _ _ (by rw [size_alloc, hg1]) rfl).alloc _
  have k2 : Blk W1 g2 3 #[.int .i64 19, .int .i64 13, .int .i64 26, .int .i64 27] := by rw [hW1]; exact Blk.new_at _ _ (by rw [size_alloc, size_alloc, hg2]) rfl
  have hr1 : Rep W1 (NrY g1 W1.heap.size) d x (nd x A c) := (hr.keep fun b hb => hb1.block b hb).mono fun b (hb : b < w.heap.size) => ⟨Nat.lt_of_lt_of_le hb hb1.size, by omega⟩
  have HW1 := Lib.hid hW1
  have HZ := Lib.hid hz
  have HB1 := Lib.hid hb1
  have HG1 := Lib.hid hg1
  have HG2 := Lib.hid hg2
  have HK1 := Lib.hid k1
  have HK2 := Lib.hid k2
  have HR1 := Lib.hid hr1
  have HT := Lib.hid hT
  have HG := Lib.hid hg
  have HSZ := Lib.hid hsz
  rw [← hnk, ← hk, ← hn, ← hm]
  clear hz hnk hk hn hm hW1 hg1 hg2 hb1 k1 k2 hr1 hr hT hg hsz
  go_enter Tryd.func62, Tryd.ntmps62
  go_upto_region 3 with fail
  rw [← HW1.out, ← HG2.out, ← HG1.out]
  try rw [← HZ.out]
  go_loopw [9] (fun i wr => ∃ (j : Nat) (A5 : Option Addr) (c5 : Nat), j ≤ 4 ∧ i = .int .i64 j ∧ Hid (Below w.heap.size w wr) ∧ Hid (Blk wr g1 25 (nd (wrapN j x) A5 c5).toArray) ∧ Hid (Rep wr (NrY g1 wr.heap.size) (d + j) (wrapN j x) (nd (wrapN j x) A5 c5)) ∧ Hid (Blk wr g2 3 #[.int .i64 19, .int .i64 13, .int .i64 26, .int .i64 27])) (fun i _ => 4 - (intOf i).toNat)
  case atStart => exact ⟨0, A, c, by omega, rfl, HB1, HK1, HR1, HK2⟩
  case round =>
    obtain ⟨j, A5, c5, hj, rfl, HB5, HK5, HR5, HI5⟩ := hrel
    obtain ⟨t, ht⟩ : ∃ t, t = wrapN j x := ⟨_, rfl⟩
    rw [← ht] at HK5 HR5
    obtain ⟨tk, htk⟩ : ∃ z, z = t.k := ⟨_, rfl⟩
    obtain ⟨tn, htn⟩ : ∃ z, z = t.n := ⟨_, rfl⟩
    obtain ⟨tm, htm⟩ : ∃ z, z = t.m := ⟨_, rfl⟩
    obtain ⟨nt, hnt⟩ : ∃ z, z = t.kids.length := ⟨_, rfl⟩
    have ecs : (nd t A5 c5).toArray = #[.int .i64 tk, .int .i64 tn, .int .i64 tm, .slice A5 nt c5] := by rw [htk, htn, htm, hnt]; rfl
    have hk5 := HK5.out
    rw [ecs] at hk5
    obtain ⟨y0, y1, y2, y3⟩ : wr.cell? ⟨g1, 0, none⟩ = some (.int .i64 tk) ∧ wr.cell? ⟨g1, 1, none⟩ = some (.int .i64 tn) ∧ wr.cell? ⟨g1, 2, none⟩ = some (.int .i64 tm) ∧ wr.cell? ⟨g1, 3, none⟩ = some (.slice A5 nt c5) := ⟨hk5.cell 0, hk5.cell 1, hk5.cell 2, hk5.cell 3⟩
    obtain ⟨f0, f1, f2, f3⟩ : wr.frozen? ⟨g1, 0, none⟩ = false ∧ wr.frozen? ⟨g1, 1, none⟩ = false ∧ wr.frozen? ⟨g1, 2, none⟩ = false ∧ wr.frozen? ⟨g1, 3, none⟩ = false := ⟨hk5.frozen 0, hk5.frozen 1, hk5.frozen 2, hk5.frozen 3⟩
    have HK6 := Lib.hid hk5
    have HECS := Lib.hid ecs
    have HTT := Lib.hid ht
    have HTK := Lib.hid htk
    have HTN := Lib.hid htn
    have HTM := Lib.hid htm
    have HNT := Lib.hid hnt
    clear ht htk htn htm hnt ecs hk5
    by_cases hlt : j < 4
    · obtain ⟨q, hq⟩ : ∃ q, q = wk j := ⟨_, rfl⟩
      have q0 : wr.cell? ⟨g2, j, none⟩ = some (.int .i64 q) := by
        rw [HI5.out.cell j, hq]
        have : j = 0 ∨ j = 1 ∨ j = 2 ∨ j = 3 := by omega
        rcases this with rfl | rfl | rfl | rfl <;> rfl
      have HQ := Lib.hid hq
      have hib : (0 : Int) ≤ (j : Int) ∧ (j : Int) < 4 := ⟨by omega, by omega⟩
      have ka := HK6.out.alloc (.cells #[.int .i64 tk, .int .i64 tn, .int .i64 tm, .slice A5 nt c5] 25)
      obtain ⟨x0, x1, x2, x3⟩ : (wr.alloc (.cells #[.int .i64 tk, .int .i64 tn, .int .i64 tm, .slice A5 nt c5] 25)).cell? ⟨g1, 0, none⟩ = some (.int .i64 tk) ∧ (wr.alloc (.cells #[.int .i64 tk, .int .i64 tn, .int .i64 tm, .slice A5 nt c5] 25)).cell? ⟨g1, 1, none⟩ = some (.int .i64 tn) ∧ (wr.alloc (.cells #[.int .i64 tk, .int .i64 tn, .int .i64 tm, .slice A5 nt c5] 25)).cell? ⟨g1, 2, none⟩ = some (.int .i64 tm) ∧ (wr.alloc (.cells #[.int .i64 tk, .int .i64 tn, .int .i64 tm, .slice A5 nt c5] 25)).cell? ⟨g1, 3, none⟩ = some (.slice A5 nt c5) := ⟨ka.cell 0, ka.cell 1, ka.cell 2, ka.cell 3⟩
      obtain ⟨e0, e1, e2, e3⟩ : (wr.alloc (.cells #[.int .i64 tk, .int .i64 tn, .int .i64 tm, .slice A5 nt c5] 25)).frozen? ⟨g1, 0, none⟩ = false ∧ (wr.alloc (.cells #[.int .i64 tk, .int .i64 tn, .int .i64 tm, .slice A5 nt c5] 25)).frozen? ⟨g1, 1, none⟩ = false ∧ (wr.alloc (.cells #[.int .i64 tk, .int .i64 tn, .int .i64 tm, .slice A5 nt c5] 25)).frozen? ⟨g1, 2, none⟩ = false ∧ (wr.alloc (.cells #[.int .i64 tk, .int .i64 tn, .int .i64 tm, .slice A5 nt c5] 25)).frozen? ⟨g1, 3, none⟩ = false := ⟨ka.frozen 0, ka.frozen 1, ka.frozen 2, ka.frozen 3⟩
      clear hq ka
      go_upto_region 6 with fail
      obtain ⟨V, hV⟩ : ∃ V, V = wr.alloc (.cells #[.int .i64 tk, .int .i64 tn, .int .i64 tm, .slice A5 nt c5] 25) := ⟨_, rfl⟩
      obtain ⟨g, hg⟩ : ∃ g, g = wr.heap.size := ⟨_, rfl⟩
      obtain ⟨X, hX⟩ : ∃ W, W = (((V.setCell ⟨g1, 0, none⟩ (.int .i64 q)).setCell ⟨g1, 1, none⟩ (.int .i64 0)).setCell ⟨g1, 2, none⟩ (.int .i64 0)).setCell ⟨g1, 3, none⟩ (.slice (some ⟨g, 0, none⟩) 1 1) := ⟨_, rfl⟩
      rw [← hV, ← hg, ← hX]
      have hbV : Below wr.heap.size wr V := by rw [hV]; exact below_new _ _
      have hg1 := HG1.out
      have hg2 := HG2.out
      have hsX : X.heap.size = V.heap.size := by rw [hX, World.size_setCell, World.size_setCell, World.size_setCell, World.size_setCell]
      have hsV : V.heap.size = g + 1 := by rw [hV, size_alloc, hg]
      have kV : Blk V g1 25 #[.int .i64 tk, .int .i64 tn, .int .i64 tm, .slice A5 nt c5] := by rw [hV]; exact HK6.out.alloc _
      have hes : (nd (wrapN (j + 1) x) (some ⟨g, 0, none⟩) 1).toArray = #[.int .i64 q, .int .i64 0, .int .i64 0, .slice (some ⟨g, 0, none⟩) 1 1] := by rw [HQ.out]; rfl
      have kX : Blk X g1 25 (nd (wrapN (j + 1) x) (some ⟨g, 0, none⟩) 1).toArray := by
        rw [hes, hX]
        have h := (((kV.set_ 0 (.int .i64 q)).set_ 1 (.int .i64 0)).set_ 2 (.int .i64 0)).set_ 3 (.slice (some ⟨g, 0, none⟩) 1 1)
        simpa using h
      have hbX : Below w.heap.size w X := by
        rw [hX]
        exact ((((bt HB5.out hbV).setCell (by show w.heap.size ≤ g1; omega) _).setCell (by show w.heap.size ≤ g1; omega) _).setCell (by show w.heap.size ≤ g1; omega) _).setCell (by show w.heap.size ≤ g1; omega) _
      have hrV : Rep V (NrY g1 V.heap.size) (d + j + 1) (wrapN (j + 1) x) (nd (wrapN (j + 1) x) (some ⟨g, 0, none⟩) 1) := by
        have h := (nds_newN (Reps.one HR5.out) HK6.out.lt (by simp)).rep (k := wk j) (n := 0) (m := 0) (wk_in j) (in_sm (by omega) (by omega)) (in_sm (by omega) (by omega))
        rw [HECS.out, ← hV, ← hg] at h
        rw [HTT.out] at h
        exact h
      have hrX : Rep X (NrY g1 X.heap.size) (d + (j + 1)) (wrapN (j + 1) x) (nd (wrapN (j + 1) x) (some ⟨g, 0, none⟩) 1) := by
        have hno : ¬ NrY g1 V.heap.size g1 := fun h => h.2 rfl
        have h2 := hrV.keep (((((Keeps.refl _ V).setCell (p := ⟨g1, 0, none⟩) hno (.int .i64 q)).setCell (p := ⟨g1, 1, none⟩) hno (.int .i64 0)).setCell (p := ⟨g1, 2, none⟩) hno (.int .i64 0)).setCell (p := ⟨g1, 3, none⟩) hno (.slice (some ⟨g, 0, none⟩) 1 1))
        rw [← hX] at h2
        rw [hsX]
        exact h2
      have kI : Blk X g2 3 #[.int .i64 19, .int .i64 13, .int .i64 26, .int .i64 27] := by
        have h : X.heap[g2]? = V.heap[g2]? := by
          rw [hX]
          have hne : g2 ≠ g1 := by omega
          rw [Below.heap_setCell _ ⟨g1, 3, none⟩ _ g2 hne, Below.heap_setCell _ ⟨g1, 2, none⟩ _ g2 hne, Below.heap_setCell _ ⟨g1, 1, none⟩ _ g2 hne, Below.heap_setCell _ ⟨g1, 0, none⟩ _ g2 hne]
        exact h.trans (by rw [hV]; exact HI5.out.alloc _)
      have H1 := Lib.hid hbX
      have H2 := Lib.hid kX
      have H3 := Lib.hid hrX
      have H4 := Lib.hid kI
      clear hV hg hX hbV hg1 hg2 hsX hsV kV hes kX hbX hrV hrX kI x0 x1 x2 x3 e0 e1 e2 e3 y0 y1 y2 y3 f0 f1 f2 f3 q0
      go_wp2_with fail
      go_roundw
      case rel => exact ⟨j + 1, some ⟨g, 0, none⟩, 1, by omega, by go_num, H1, H2, H3, H4⟩
      case measure => simp [intOf]; omega
    · have hj4 : j = 4 := by omega
      have HVAL : Hid (Calls Tryd.prog 18 #[.agg #[.int .i64 tk, .int .i64 tn, .int .i64 tm, .slice A5 nt c5]] wr fun e w' => e = .returned (.bool (isProg (wrapN 4 x))) ∧ Below wr.heap.size wr w') := Lib.hid (by
        have ht : t = wrapN 4 x := by rw [HTT.out, hj4]
        have h := tvalid_is (d + j) t _ A5 c5 wr HR5.out (fun b hb => hb.1) (by rw [ht, wrap_size]; have := HSZ.out; omega) (HT.out.below HB5.out HG.out) (Nat.lt_of_lt_of_le HG.out HB5.out.size)
        rw [← HTK.out, ← HTN.out, ← HTM.out, ← HNT.out, ht] at h
        exact h)
      clear hj4
      go_wp2_with (go_at_call 18; refine HVAL.out.mono ?_; rintro e w6 ⟨rfl, hb6⟩; have HB6 := Lib.hid (bt HB5.out hb6); clear hb6)
      go_ret
      exact ⟨rfl, HB6.out⟩
end Go.Proofs.YtpbbafikjpjejaaDoor

/-
  The program's firstWrong and scopeOf.
-/
namespace Go.Proofs.YtpbbafikjpjejaaDoor
open Go.RowKit WM TR TY

set_option maxRecDepth 100000 in
set_option maxHeartbeats 4000000 in
theorem firstWrong_is (s : Sc) (x : T) (d D : Nat) (Av Af A : Option Addr) (cv cf c : Nat) (w : World) (hs : ScR w d s Av cv Af cf) (hr : Rep w (Lt w.heap.size) D x (nd x A c)) (hfit : Fit x) (hD : D ≤ 1000) (hfo : FOk s.funs) :
    Calls Tryd.prog 64 #[.agg #[.slice Av s.vars.length cv, .slice Af s.funs.length cf, .int .i64 s.ch], .agg #[.int .i64 x.k, .int .i64 x.n, .int .i64 x.m, .slice A x.kids.length c]] w fun e w' => ∃ A' c', e = .returned (.tuple #[.slice A' (firstW s x).1.length c', .int .i64 (firstW s x).2]) ∧ w'.ownsRow w.heap.size 3 1 (.slice A' (firstW s x).1.length c') (firstW s x).1.length (vi (firstW s x).1) ∧ Below w.heap.size w w' := by
  obtain ⟨z, hz⟩ : ∃ z, z = w.heap.size := ⟨_, rfl⟩
  obtain ⟨nv, hnv⟩ : ∃ z, z = s.vars.length := ⟨_, rfl⟩
  obtain ⟨nf, hnf⟩ : ∃ z, z = s.funs.length := ⟨_, rfl⟩
  obtain ⟨nk, hnk⟩ : ∃ z, z = x.kids.length := ⟨_, rfl⟩
  obtain ⟨ch, hch⟩ : ∃ z, z = s.ch := ⟨_, rfl⟩
  obtain ⟨k, hk⟩ : ∃ z, z = x.k := ⟨_, rfl⟩
  obtain ⟨n, hn⟩ : ∃ z, z = x.n := ⟨_, rfl⟩
  obtain ⟨m, hm⟩ : ∃ z, z = x.m := ⟨_, rfl⟩
  obtain ⟨g1, hg1⟩ : ∃ z, z = w.heap.size + 1 := ⟨_, rfl⟩
  obtain ⟨g2, hg2⟩ : ∃ z, z = w.heap.size + 1 + 1 := ⟨_, rfl⟩
  obtain ⟨g3, hg3⟩ : ∃ z, z = w.heap.size + 1 + 1 + 1 := ⟨_, rfl⟩
  obtain ⟨W0, hW0⟩ : ∃ W, W = (((w.alloc (.cells #[.slice Av nv cv, .slice Af nf cf, .int .i64 ch] 79)).alloc (.cells #[.int .i64 k, .int .i64 n, .int .i64 m, .slice A nk c] 25)).alloc (.cells #[.slice none 0 0] 22)).alloc (.cells #[clo z g2 g3] 93) := ⟨_, rfl⟩
  have hb0 : Below w.heap.size w W0 := by rw [hW0]; exact ba (ba (ba (below_new _ _) _) _) _
  have hs0 : W0.heap.size = z + 4 := by rw [hW0, size_alloc, size_alloc, size_alloc, size_alloc, hz]
  have hgs : g1 = z + 1 ∧ g2 = z + 2 ∧ g3 = z + 3 := by omega
  have k0' : Blk W0 z 79 #[.slice Av nv cv, .slice Af nf cf, .int .i64 ch] := by rw [hW0, hz]; exact (((Blk.new _ _ _).alloc _).alloc _).alloc _
  have k1' : Blk W0 g1 25 #[.int .i64 k, .int .i64 n, .int .i64 m, .slice A nk c] := by rw [hW0, hg1]; exact ((Blk.new_at _ _ (by rw [size_alloc]) rfl).alloc _).alloc _
  have k2' : Blk W0 g2 22 #[.slice none 0 0] := by rw [hW0, hg2]; exact (Blk.new_at _ _ (by rw [size_alloc, size_alloc]) rfl).alloc _
  have k3 : Blk W0 g3 93 #[clo z g2 g3] := by rw [hW0]; exact Blk.new_at _ _ (by rw [size_alloc, size_alloc, size_alloc]; exact hg3) rfl
  have hk3 : W0.cell? ⟨g3, 0, none⟩ = some (clo z g2 g3) := k3.cell 0
  have hpw : PW W0.heap.size g2 W0 W0 (.slice none 0 0) [] := ⟨fun _ _ _ => rfl, rfl, rfl, rfl, Nat.le_refl _, by omega, k2', World.ownsRow_nil _ _ _ _⟩
  have HCALL : Hid (Calls Tryd.prog 80 #[.agg #[.int .i64 k, .int .i64 n, .int .i64 m, .slice A nk c], .pointer (some ⟨z, 0, none⟩), .pointer (some ⟨g2, 0, none⟩), .pointer (some ⟨g3, 0, none⟩)] W0 (VPost W0.heap.size g2 W0 W0 (.slice none 0 0) [] (firstW s x))) := Lib.hid (by
    rw [hnv, hnf, hch] at k0'
    have hz0 : ∀ b, Lt w.heap.size b → Lt z b := fun b h => by rw [hz]; exact h
    have h := visitW_is s d Av Af cv cf z z g2 g3 W0.heap.size W0 (by omega) ⟨by omega, by omega⟩ ⟨by omega, by omega⟩ (by omega) k0' hk3 (hs.v.keep (fun b hb => hb0.block b hb) hz0) (hs.f.keep (fun b hb => hb0.block b hb) hz0) hfo D x A c [] none 0 W0 ((hr.keep fun b hb => hb0.block b hb).mono hz0) hfit (by simpa using hD) hpw
    rw [← hnk, ← hk, ← hn, ← hm] at h
    exact h)
  obtain ⟨y0, y1, y2, y3⟩ : W0.cell? ⟨g1, 0, none⟩ = some (.int .i64 k) ∧ W0.cell? ⟨g1, 1, none⟩ = some (.int .i64 n) ∧ W0.cell? ⟨g1, 2, none⟩ = some (.int .i64 m) ∧ W0.cell? ⟨g1, 3, none⟩ = some (.slice A nk c) := ⟨k1'.cell 0, k1'.cell 1, k1'.cell 2, k1'.cell 3⟩
  have z3 : W0.cell? ⟨g3, 0, none⟩ = some (.func (.func 80) #[] #[.pointer (some ⟨z, 0, none⟩), .pointer (some ⟨g2, 0, none⟩), .pointer (some ⟨g3, 0, none⟩)]) := hk3
  have HW0 : Hid (W0 = (((w.alloc (.cells #[.slice Av nv cv, .slice Af nf cf, .int .i64 ch] 79)).alloc (.cells #[.int .i64 k, .int .i64 n, .int .i64 m, .slice A nk c] 25)).alloc (.cells #[.slice none 0 0] 22)).alloc (.cells #[.func (.func 80) #[] #[.pointer (some ⟨w.heap.size, 0, none⟩), .pointer (some ⟨w.heap.size + 1 + 1, 0, none⟩), .pointer (some ⟨w.heap.size + 1 + 1 + 1, 0, none⟩)]] 93)) := Lib.hid (by rw [hW0, hz, hg2, hg3]; rfl)
  have HG1 := Lib.hid hg1
  have HG2 := Lib.hid hg2
  have HG3 := Lib.hid hg3
  have HZ := Lib.hid hz
  have HS0 := Lib.hid hs0
  have HB0 := Lib.hid hb0
  have HGS := Lib.hid hgs
  obtain ⟨r, hr⟩ : ∃ r, r = firstW s x := ⟨_, rfl⟩
  rw [← hnv, ← hnf, ← hnk, ← hch, ← hk, ← hn, ← hm, ← hr]
  rw [← hr] at HCALL
  clear hs hfit hnv hnf hnk hch hk hn hm hg1 hg2 hg3 hz k3 hW0 hs0 hk3 hb0 k0' k1' k2' hpw hgs hD hfo
  clear hr
  go_enter Tryd.func64, Tryd.ntmps64
  go_upto_region 4 with fail
  rw [← HW0.out, ← HG3.out, ← HG2.out, ← HG1.out, ← HZ.out]
  go_upto_region 5 with (go_at_call 80; go_loud (refine HCALL.out.mono ?_; rintro e w6 ⟨A6, c6, rfl, h1, h2⟩; have HP6 := Lib.hid h1; clear h1 h2 y0 y1 y2 y3 z3; have z2 := HP6.out.blk.cell 0))
  go_wp2_with fail
  refine bodyPost_ret (v := .tuple #[.slice A6 r.1.length c6, .int .i64 r.2]) (by simp [results, Tryd.results64, go_sem]) rfl ⟨A6, c6, rfl, ?_, ?_⟩
  · have h := own_lowerY HP6.out.own (B' := w.heap.size) (by have := HS0.out; have := HZ.out; omega)
    simpa using h
  · have hp := HP6.out
    have hb := HB0.out
    have hgs := HGS.out
    have hz := HZ.out
    have hs0 := HS0.out
    exact ⟨hp.os.trans hb.os, hp.tape.trans hb.tape, hp.output.trans hb.output, Nat.le_trans hb.size hp.size, fun b h => (hp.keep b (by omega) (by omega)).trans (hb.block b h)⟩
/-- The scope of a function. -/
def scO (p : T) (u : T) : Sc := ⟨u.kids.take (u.kids.length - 1), p.kids, p.n⟩
set_option maxRecDepth 100000 in
set_option maxHeartbeats 4000000 in
theorem scopeOf_is (p u : T) (j d : Nat) (A : Option Addr) (c : Nat) (w : World) (hnd : Nds w (Lt w.heap.size) (d + 1) p.kids A c) (hu : p.kids[j]? = some u) (hu1 : 1 ≤ u.kids.length ∧ u.kids.length ≤ 1000) :
    Calls Tryd.prog 63 #[.agg #[.int .i64 p.k, .int .i64 p.n, .int .i64 p.m, .slice A p.kids.length c], .int .i64 (j : Int)] w fun e w' => ∃ A' c', e = .returned (.agg #[.slice A' (scO p u).vars.length c', .slice A (scO p u).funs.length c, .int .i64 (scO p u).ch]) ∧ ScR w' (d + 1) (scO p u) A' c' A c ∧ Below w.heap.size w w' := by
  obtain ⟨b, off, A', c', hA, hbl, hc, hru⟩ := hnd.at_ hu
  subst hA
  have hcap := hru.cap
  have hjl : j < p.kids.length := (List.getElem?_eq_some_iff.1 hu).1
  obtain ⟨nk, hnk⟩ : ∃ z, z = p.kids.length := ⟨_, rfl⟩
  obtain ⟨q, hq⟩ : ∃ q, u.kids.length = q + 1 := ⟨u.kids.length - 1, by omega⟩
  obtain ⟨k, hk⟩ : ∃ z, z = p.k := ⟨_, rfl⟩
  obtain ⟨n, hn⟩ : ∃ z, z = p.n := ⟨_, rfl⟩
  obtain ⟨m, hm⟩ : ∃ z, z = p.m := ⟨_, rfl⟩
  obtain ⟨z, hz⟩ : ∃ z, z = w.heap.size := ⟨_, rfl⟩
  have hlen : (scO p u).vars.length = q := by show (u.kids.take (u.kids.length - 1)).length = q; rw [List.length_take]; omega
  have hfun : (scO p u).funs.length = nk := hnk.symm
  have hch : (scO p u).ch = n := hn.symm
  have hnum : IntKind.i64.wrap (((q + 1 : Nat) : Int) - 1) = (q : Int) := by rw [IntKind.wrap_i64]; omega
  have hcut := cutN A' (q + 1) c' q (by omega)
  have hqw : IntKind.i64.wrap (q : Int) = (q : Int) := by rw [IntKind.wrap_i64]; omega
  have hqc : (0 : Int) ≤ (q : Int) ∧ (q : Int) ≤ (c' : Int) := ⟨by omega, by omega⟩
  obtain ⟨A2, hA2⟩ : ∃ A2, A2 = (if c' = 0 then A' else A'.map (·.add 0)) := ⟨_, rfl⟩
  rw [← hA2] at hcut
  have hv : Nds w (Lt w.heap.size) (d + 1) (scO p u).vars A2 c' := by
    obtain ⟨xs, h1, h2⟩ := hru.kids
    have hA2' : A2 = A' := by
      rw [hA2]; split
      · rfl
      · cases A' <;> simp [Addr.add]
    rw [hA2']
    refine ⟨⟨xs.take (q * 4), ?_, ?_⟩, by omega, by omega⟩
    · rw [hlen]
      refine ⟨by rw [List.length_take, h1.1]; omega, fun hn => ?_⟩
      obtain ⟨ad, e, hb, hcs⟩ := h1.2 (by omega)
      refine ⟨ad, e, hb, fun i v hv => hcs i v ?_⟩
      rw [List.getElem?_take] at hv
      split at hv
      · exact hv
      · cases hv
    · refine ⟨by rw [List.length_take, hlen, h1.1]; omega, fun i v hv => ?_⟩
      have hi : i < q := by rw [← hlen]; exact (List.getElem?_eq_some_iff.1 hv).1
      have hv2 : u.kids[i]? = some v := by
        have hv3 : (u.kids.take (u.kids.length - 1))[i]? = some v := hv
        rw [List.getElem?_take] at hv3
        split at hv3
        · exact hv3
        · cases hv3
      have h := h2.2 i v hv2
      have e : ((xs.take (q * 4)).drop (i * 4)).take 4 = (xs.drop (i * 4)).take 4 := by
        rw [List.drop_take, List.take_take]; congr 1; omega
      rw [e]
      exact h.deeper (by omega)
  obtain ⟨W1, hW1⟩ : ∃ W, W = (w.alloc (.cells #[.int .i64 k, .int .i64 n, .int .i64 m, .slice (some ⟨b, off, none⟩) nk c] 25)).alloc (.cells #[.slice none 0 0, .slice none 0 0, .int .i64 0] 79) := ⟨_, rfl⟩
  have hb1 : Below w.heap.size w W1 := by rw [hW1]; exact ba (below_new _ _) _
  have k0 : Blk W1 z 25 #[.int .i64 k, .int .i64 n, .int .i64 m, .slice (some ⟨b, off, none⟩) nk c] := by rw [hW1, hz]; exact (Blk.new _ _ _).alloc _
  have k1 : Blk W1 (z + 1) 79 #[.slice none 0 0, .slice none 0 0, .int .i64 0] := by rw [hW1]; exact Blk.new_at _ _ (by rw [size_alloc, hz]) rfl
  obtain ⟨s0, s1, s2⟩ : W1.cell? ⟨z + 1, 0, none⟩ = some (.slice none 0 0) ∧ W1.cell? ⟨z + 1, 1, none⟩ = some (.slice none 0 0) ∧ W1.cell? ⟨z + 1, 2, none⟩ = some (.int .i64 0) := ⟨k1.cell 0, k1.cell 1, k1.cell 2⟩
  obtain ⟨f0, f1, f2⟩ : W1.frozen? ⟨z + 1, 0, none⟩ = false ∧ W1.frozen? ⟨z + 1, 1, none⟩ = false ∧ W1.frozen? ⟨z + 1, 2, none⟩ = false := ⟨k1.frozen 0, k1.frozen 1, k1.frozen 2⟩
  have HK1 := Lib.hid k1
  obtain ⟨y1, y3⟩ : W1.cell? ⟨z, 1, none⟩ = some (.int .i64 n) ∧ W1.cell? ⟨z, 3, none⟩ = some (.slice (some ⟨b, off, none⟩) nk c) := ⟨k0.cell 1, k0.cell 3⟩
  have v3 : W1.cell? ⟨b, off + j * 4 + 3, none⟩ = some (.slice A' (q + 1) c') := by
    rw [← hq]
    exact (hb1.cell (p := ⟨b, _, none⟩) hbl).trans (hc 3 _ rfl)
  have hjb : (0 : Int) ≤ (j : Int) ∧ (j : Int) < (nk : Int) := ⟨by omega, by omega⟩
  have HV := Lib.hid hv
  have HF := Lib.hid hnd
  have HW1 := Lib.hid hW1
  have HZ := Lib.hid hz
  have HB1 := Lib.hid hb1
  rw [hlen, hfun, hch, ← hnk, ← hk, ← hn, ← hm]
  clear hv hnd hW1 hz hb1 k0 k1 hlen hfun hch hnk hk hn hm hA2 hcap hq hc hru hu hu1 hjl
  go_enter Tryd.func63, Tryd.ntmps63
  go_upto_region 1 with fail
  rw [← HW1.out]
  try rw [← HZ.out]
  go_upto_region 2 with fail
  go_region
  obtain ⟨W5, hW5⟩ : ∃ W, W = (((W1.setCell ⟨z + 1, 0, none⟩ (.slice A2 q c')).setCell ⟨z + 1, 1, none⟩ (.slice (some ⟨b, off, none⟩) nk c)).setCell ⟨z + 1, 2, none⟩ (.int .i64 n)).drew := ⟨_, rfl⟩
  rw [← hW5]
  have hzz := HZ.out
  have k5 : Blk W5 (z + 1) 79 #[.slice A2 q c', .slice (some ⟨b, off, none⟩) nk c, .int .i64 n] := by
    rw [hW5]
    have h := (((HK1.out.set_ 0 (.slice A2 q c')).set_ 1 (.slice (some ⟨b, off, none⟩) nk c)).set_ 2 (.int .i64 n)).drew
    simpa using h
  have hb5 : Below w.heap.size w W5 := by
    rw [hW5]
    exact (((HB1.out.setCell (by show w.heap.size ≤ z + 1; omega) _).setCell (by show w.heap.size ≤ z + 1; omega) _).setCell (by show w.heap.size ≤ z + 1; omega) _).drew
  have r0 : W5.cell? ⟨z + 1, 0, none⟩ = some (.slice A2 q c') := k5.cell 0
  have r1 : W5.cell? ⟨z + 1, 1, none⟩ = some (.slice (some ⟨b, off, none⟩) nk c) := k5.cell 1
  have r2 : W5.cell? ⟨z + 1, 2, none⟩ = some (.int .i64 n) := k5.cell 2
  have HB5 := Lib.hid hb5
  have HV5 : Hid (ScR W5 (d + 1) (scO p u) A2 c' (some ⟨b, off, none⟩) c) := Lib.hid ⟨HV.out.next hb5, HF.out.next hb5⟩
  clear hW5 hb5 k5 hzz s0 s1 s2 f0 f1 f2 y1 y3 v3
  go_wp2_with fail
  refine bodyPost_ret (v := .agg #[.slice A2 q c', .slice (some ⟨b, off, none⟩) nk c, .int .i64 n]) (by simp [results, Tryd.results63, go_sem, r0, r1, r2]) rfl ⟨A2, c', rfl, HV5.out, HB5.out⟩
end Go.Proofs.YtpbbafikjpjejaaDoor
