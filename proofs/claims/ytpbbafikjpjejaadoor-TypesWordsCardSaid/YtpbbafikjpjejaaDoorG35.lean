/-
  The program's Of (written by wip/tools/gen-yof.py).
-/
import Derived.Test.YtpbbafikjpjejaaDoorG33
import Derived.Test.YtpbbafikjpjejaaDoorG34
import Derived.Test.YtpbbafikjpjejaaDoorG29
import Derived.Test.YtpbbafikjpjejaaDoorG12
import Derived.Deep.RegionHeld3
set_option linter.unusedVariables false
namespace Go.Proofs.YtpbbafikjpjejaaDoor
open Go.RowKit WM TR TY

/-- The kind of the type of an expression in a function, and the error. -/
noncomputable def ofK (p : T) (f : Int) (x : T) : Int × Int :=
  if isProg p = false then (0, 2) else if isProg (wrapN 4 x) = false then (0, 2)
  else if f < 0 ∨ (p.kids.length : Int) ≤ f then (0, 5)
  else if (firstW (scO p (tAt p.kids f)) x).2 ≠ 0 then (0, (firstW (scO p (tAt p.kids f)) x).2) else (typeOf (scO p (tAt p.kids f)) x, 0)
/-- What is left of a node that has been written. -/
theorem put4_of {w W X : World} {g : Nat} {v0 v1 v2 v3 : Value} (hk : Blk W g 25 #[.int .i64 0, .int .i64 0, .int .i64 0, .slice none 0 0]) (hb : Below w.heap.size w W) (hg : w.heap.size ≤ g) (hX : X = (((W.setCell ⟨g, 0, none⟩ v0).setCell ⟨g, 1, none⟩ v1).setCell ⟨g, 2, none⟩ v2).setCell ⟨g, 3, none⟩ v3) :
    (X.cell? ⟨g, 0, none⟩ = some v0 ∧ X.cell? ⟨g, 1, none⟩ = some v1 ∧ X.cell? ⟨g, 2, none⟩ = some v2 ∧ X.cell? ⟨g, 3, none⟩ = some v3) ∧ Below w.heap.size w X := by
  have kX : Blk X g 25 #[v0, v1, v2, v3] := by
    rw [hX]
    have h := (((hk.set_ 0 v0).set_ 1 v1).set_ 2 v2).set_ 3 v3
    simpa using h
  refine ⟨⟨kX.cell 0, kX.cell 1, kX.cell 2, kX.cell 3⟩, ?_⟩
  rw [hX]
  exact (((hb.setCell (by show w.heap.size ≤ g; exact hg) _).setCell (by show w.heap.size ≤ g; exact hg) _).setCell (by show w.heap.size ≤ g; exact hg) _).setCell (by show w.heap.size ≤ g; exact hg) _
theorem tAt_j {l : List T} {j : Nat} {u : T} (h : l[j]? = some u) : tAt l (j : Int) = u := tAt_get rfl h
theorem expr_fit {x : T} (h : isProg (wrapN 4 x) = true) : Fit x := by
  have hp : IsProg (wrapN 4 x) := by unfold isProg at h; simpa using h
  have hf := ((prog_iff _).1 hp).2.2.2
  have h3 : Fit (wrapN 3 x) := hf.kids _ (by simp [wrapN])
  have h2 : Fit (wrapN 2 x) := h3.kids _ (by simp [wrapN])
  have h1 : Fit (wrapN 1 x) := h2.kids _ (by simp [wrapN])
  exact h1.kids _ (by simp [wrapN])

set_option maxRecDepth 100000 in
set_option maxHeartbeats 16000000 in
theorem of_is (d : Nat) (p x : T) (f : Int) (A Ae : Option Addr) (c ce : Nat) (w : World) (hr : Rep w (Lt w.heap.size) (d + 1) p (nd p A c)) (hx : Rep w (Lt w.heap.size) (d + 1) x (nd x Ae ce)) (hD : d < 1000) (hsz : size p ≤ 1000000) (hsx : size x ≤ 100000) (hT : ST w) (hg : 0 < w.heap.size) :
    Calls Tryd.prog 29 #[.agg #[.int .i64 p.k, .int .i64 p.n, .int .i64 p.m, .slice A p.kids.length c], .int .i64 f, .agg #[.int .i64 x.k, .int .i64 x.n, .int .i64 x.m, .slice Ae x.kids.length ce]] w fun e w' => e = .returned (.tuple #[.agg #[.int .i64 (ofK p f x).1, .int .i64 0, .int .i64 0, .slice none 0 0], .int .i64 (ofK p f x).2]) ∧ Below w.heap.size w w' := by
  obtain ⟨z, hz⟩ : ∃ z, z = w.heap.size := ⟨_, rfl⟩
  obtain ⟨g1, hg1⟩ : ∃ z, z = w.heap.size + 1 := ⟨_, rfl⟩
  obtain ⟨g2, hg2⟩ : ∃ z, z = w.heap.size + 1 + 1 := ⟨_, rfl⟩
  obtain ⟨nk, hnk⟩ : ∃ z, z = p.kids.length := ⟨_, rfl⟩
  obtain ⟨k, hk⟩ : ∃ z, z = p.k := ⟨_, rfl⟩
  obtain ⟨n, hn⟩ : ∃ z, z = p.n := ⟨_, rfl⟩
  obtain ⟨m, hm⟩ : ∃ z, z = p.m := ⟨_, rfl⟩
  obtain ⟨ne, hne⟩ : ∃ z, z = x.kids.length := ⟨_, rfl⟩
  obtain ⟨ek, hek⟩ : ∃ z, z = x.k := ⟨_, rfl⟩
  obtain ⟨en, hen⟩ : ∃ z, z = x.n := ⟨_, rfl⟩
  obtain ⟨em, hem⟩ : ∃ z, z = x.m := ⟨_, rfl⟩
  obtain ⟨W1, hW1⟩ : ∃ W, W = ((w.alloc (.cells #[.int .i64 k, .int .i64 n, .int .i64 m, .slice A nk c] 25)).alloc (.cells #[.int .i64 ek, .int .i64 en, .int .i64 em, .slice Ae ne ce] 25)).alloc (.cells #[.int .i64 0, .int .i64 0, .int .i64 0, .slice none 0 0] 25) := ⟨_, rfl⟩
  have hb1 : Below w.heap.size w W1 := by rw [hW1]; exact ba (ba (below_new _ _) _) _
  have k0 : Blk W1 z 25 #[.int .i64 k, .int .i64 n, .int .i64 m, .slice A nk c] := by rw [hW1, hz]; exact ((Blk.new _ _ _).alloc _).alloc _
  have k1 : Blk W1 g1 25 #[.int .i64 ek, .int .i64 en, .int .i64 em, .slice Ae ne ce] := by rw [hW1]; exact (Blk.new_at _ _ (by rw [size_alloc, hg1]) rfl).alloc _
  have k2 : Blk W1 g2 25 #[.int .i64 0, .int .i64 0, .int .i64 0, .slice none 0 0] := by rw [hW1]; exact Blk.new_at _ _ (by rw [size_alloc, size_alloc, hg2]) rfl
  have HKC : Hid (∀ W, Below W1.heap.size W1 W → (W.cell? ⟨z, 0, none⟩ = some (.int .i64 k) ∧ W.cell? ⟨z, 1, none⟩ = some (.int .i64 n) ∧ W.cell? ⟨z, 2, none⟩ = some (.int .i64 m) ∧ W.cell? ⟨z, 3, none⟩ = some (.slice A nk c)) ∧ (W.cell? ⟨g1, 0, none⟩ = some (.int .i64 ek) ∧ W.cell? ⟨g1, 1, none⟩ = some (.int .i64 en) ∧ W.cell? ⟨g1, 2, none⟩ = some (.int .i64 em) ∧ W.cell? ⟨g1, 3, none⟩ = some (.slice Ae ne ce)) ∧ (W.cell? ⟨g2, 0, none⟩ = some (.int .i64 0) ∧ W.cell? ⟨g2, 1, none⟩ = some (.int .i64 0) ∧ W.cell? ⟨g2, 2, none⟩ = some (.int .i64 0) ∧ W.cell? ⟨g2, 3, none⟩ = some (.slice none 0 0)) ∧ (W.frozen? ⟨g2, 0, none⟩ = false ∧ W.frozen? ⟨g2, 1, none⟩ = false ∧ W.frozen? ⟨g2, 2, none⟩ = false ∧ W.frozen? ⟨g2, 3, none⟩ = false)) := Lib.hid fun W hb => by
    have e0 := k0.below hb k0.lt
    have e1 := k1.below hb k1.lt
    have e2 := k2.below hb k2.lt
    exact ⟨⟨e0.cell 0, e0.cell 1, e0.cell 2, e0.cell 3⟩, ⟨e1.cell 0, e1.cell 1, e1.cell 2, e1.cell 3⟩, ⟨e2.cell 0, e2.cell 1, e2.cell 2, e2.cell 3⟩, e2.frozen 0, e2.frozen 1, e2.frozen 2, e2.frozen 3⟩
  obtain ⟨⟨y0, y1, y2, y3⟩, ⟨x0, x1, x2, x3⟩, ⟨u0, u1, u2, u3⟩, f0, f1, f2, f3⟩ := HKC.out W1 (Below.refl _ _)
  obtain ⟨vp, hvp⟩ : ∃ v, v = isProg p := ⟨_, rfl⟩
  obtain ⟨ve, hve⟩ : ∃ v, v = isProg (wrapN 4 x) := ⟨_, rfl⟩
  have HVP : Hid (∀ W, Below W1.heap.size W1 W → Calls Tryd.prog 18 #[.agg #[.int .i64 k, .int .i64 n, .int .i64 m, .slice A nk c]] W fun e w' => e = .returned (.bool vp) ∧ Below W.heap.size W w') := Lib.hid fun W hb => by
    have hbw := bt hb1 hb
    have h := tvalid_is (d + 1) p _ A c W (rep_next hr hbw) (In.lt _) hsz (hT.below hbw hg) (Nat.lt_of_lt_of_le hg hbw.size)
    rw [← hvp, ← hnk, ← hk, ← hn, ← hm] at h
    exact h
  have HVE : Hid (∀ W, Below W1.heap.size W1 W → Calls Tryd.prog 62 #[.agg #[.int .i64 ek, .int .i64 en, .int .i64 em, .slice Ae ne ce]] W fun e w' => e = .returned (.bool ve) ∧ Below W.heap.size W w') := Lib.hid fun W hb => by
    have hbw := bt hb1 hb
    have h := isExpr_is (d + 1) x Ae ce W (rep_next hx hbw) hsx (hT.below hbw hg) (Nat.lt_of_lt_of_le hg hbw.size)
    rw [← hve, ← hne, ← hek, ← hen, ← hem] at h
    exact h
  obtain ⟨rk, hrk⟩ : ∃ z, z = (ofK p f x).1 := ⟨_, rfl⟩
  obtain ⟨re, hre⟩ : ∃ z, z = (ofK p f x).2 := ⟨_, rfl⟩
  have HO : Hid ((rk, re) = if vp = false then (0, 2) else if ve = false then (0, 2) else if f < 0 ∨ (nk : Int) ≤ f then (0, 5) else if (firstW (scO p (tAt p.kids f)) x).2 ≠ 0 then (0, (firstW (scO p (tAt p.kids f)) x).2) else (typeOf (scO p (tAt p.kids f)) x, 0)) := Lib.hid (by rw [hrk, hre, hvp, hve, hnk]; rfl)
  have HW1 := Lib.hid hW1
  have HZ := Lib.hid hz
  have HG1 := Lib.hid hg1
  have HG2 := Lib.hid hg2
  have HB1 := Lib.hid hb1
  have HK2 := Lib.hid k2
  have HRP := Lib.hid (rep_next hr hb1)
  have HRX := Lib.hid (rep_next hx hb1)
  have HNK := Lib.hid hnk
  have HK := Lib.hid hk
  have HN := Lib.hid hn
  have HM := Lib.hid hm
  have HNE := Lib.hid hne
  have HEK := Lib.hid hek
  have HEN := Lib.hid hen
  have HEM := Lib.hid hem
  have HV := Lib.hid hvp
  have HE := Lib.hid hve
  have HD := Lib.hid hD
  rw [← hnk, ← hk, ← hn, ← hm, ← hne, ← hek, ← hen, ← hem, ← hrk, ← hre]
  clear hz hg1 hg2 hnk hk hn hm hne hek hen hem hW1 hb1 k0 k1 k2 hvp hve hrk hre hr hx hsz hsx hT hg hD
  cases vp
  case false =>
    have HO2 : Hid (rk = 0 ∧ re = 2) := Lib.hid (by have h := HO.out; rw [if_pos rfl] at h; injection h with h1 h2; exact ⟨h1, h2⟩)
    go_enter Tryd.func29, Tryd.ntmps29
    go_upto_region 1 with fail
    rw [← HW1.out, ← HG2.out, ← HG1.out]
    try rw [← HZ.out]
    go_wp2_with (go_at_call 18; refine (HVP.out _ (Below.refl _ _)).mono ?_; rintro e w2 ⟨rfl, hb2⟩; have HB := Lib.hid hb2; clear hb2 y0 y1 y2 y3 x0 x1 x2 x3 u0 u1 u2 u3 f0 f1 f2 f3; obtain ⟨⟨y0, y1, y2, y3⟩, ⟨x0, x1, x2, x3⟩, ⟨u0, u1, u2, u3⟩, f0, f1, f2, f3⟩ := HKC.out _ HB.out)
    obtain ⟨X, hX⟩ : ∃ X, X = (((w2.setCell ⟨g2, 0, none⟩ (.int .i64 0)).setCell ⟨g2, 1, none⟩ (.int .i64 0)).setCell ⟨g2, 2, none⟩ (.int .i64 0)).setCell ⟨g2, 3, none⟩ (.slice none 0 0) := ⟨_, rfl⟩
    rw [← hX]
    obtain ⟨⟨r0, r1, r2, r3⟩, hbX⟩ := put4_of (HK2.out.below HB.out HK2.out.lt) (bt HB1.out HB.out) (by have := HG2.out; omega) hX
    refine bodyPost_ret (v := .tuple #[.agg #[.int .i64 0, .int .i64 0, .int .i64 0, .slice none 0 0], .int .i64 2]) (by simp [results, Tryd.results29, go_sem, r0, r1, r2, r3]) rfl ⟨?_, hbX⟩
    rw [HO2.out.1, HO2.out.2]
  cases ve
  case false =>
    have HO2 : Hid (rk = 0 ∧ re = 2) := Lib.hid (by have h := HO.out; rw [if_neg (by simp), if_pos rfl] at h; injection h with h1 h2; exact ⟨h1, h2⟩)
    go_enter Tryd.func29, Tryd.ntmps29
    go_upto_region 1 with fail
    rw [← HW1.out, ← HG2.out, ← HG1.out]
    try rw [← HZ.out]
    go_wp2_with (first
      | (go_at_call 18; refine (HVP.out _ (Below.refl _ _)).mono ?_; rintro e w2 ⟨rfl, hb2⟩; have HB := Lib.hid hb2; clear hb2 y0 y1 y2 y3 x0 x1 x2 x3 u0 u1 u2 u3 f0 f1 f2 f3; obtain ⟨⟨y0, y1, y2, y3⟩, ⟨x0, x1, x2, x3⟩, ⟨u0, u1, u2, u3⟩, f0, f1, f2, f3⟩ := HKC.out _ HB.out)
      | (go_at_call 62; refine (HVE.out _ HB.out).mono ?_; rintro e w3 ⟨rfl, hb3⟩; replace HB := Lib.hid (bt HB.out hb3); clear hb3 y0 y1 y2 y3 x0 x1 x2 x3 u0 u1 u2 u3 f0 f1 f2 f3; obtain ⟨⟨y0, y1, y2, y3⟩, ⟨x0, x1, x2, x3⟩, ⟨u0, u1, u2, u3⟩, f0, f1, f2, f3⟩ := HKC.out _ HB.out))
    obtain ⟨X, hX⟩ : ∃ X, X = (((w3.setCell ⟨g2, 0, none⟩ (.int .i64 0)).setCell ⟨g2, 1, none⟩ (.int .i64 0)).setCell ⟨g2, 2, none⟩ (.int .i64 0)).setCell ⟨g2, 3, none⟩ (.slice none 0 0) := ⟨_, rfl⟩
    rw [← hX]
    obtain ⟨⟨r0, r1, r2, r3⟩, hbX⟩ := put4_of (HK2.out.below HB.out HK2.out.lt) (bt HB1.out HB.out) (by have := HG2.out; omega) hX
    refine bodyPost_ret (v := .tuple #[.agg #[.int .i64 0, .int .i64 0, .int .i64 0, .slice none 0 0], .int .i64 2]) (by simp [results, Tryd.results29, go_sem, r0, r1, r2, r3]) rfl ⟨?_, hbX⟩
    rw [HO2.out.1, HO2.out.2]
  have HO1 : Hid ((rk, re) = if f < 0 ∨ (nk : Int) ≤ f then (0, 5) else if (firstW (scO p (tAt p.kids f)) x).2 ≠ 0 then (0, (firstW (scO p (tAt p.kids f)) x).2) else (typeOf (scO p (tAt p.kids f)) x, 0)) := Lib.hid (by have h := HO.out; rw [if_neg (by simp), if_neg (by simp)] at h; exact h)
  by_cases hf0 : f < 0
  · have hd0 : decide (f < 0) = true := decide_eq_true hf0
    have HO2 : Hid (rk = 0 ∧ re = 5) := Lib.hid (by have h := HO.out; clear h; have h := HO1.out; rw [if_pos (.inl hf0)] at h; injection h with h1 h2; exact ⟨h1, h2⟩)
    go_enter Tryd.func29, Tryd.ntmps29
    go_upto_region 1 with fail
    rw [← HW1.out, ← HG2.out, ← HG1.out]
    try rw [← HZ.out]
    go_wp2_with (first
      | (go_at_call 18; refine (HVP.out _ (Below.refl _ _)).mono ?_; rintro e w2 ⟨rfl, hb2⟩; have HB := Lib.hid hb2; clear hb2 y0 y1 y2 y3 x0 x1 x2 x3 u0 u1 u2 u3 f0 f1 f2 f3; obtain ⟨⟨y0, y1, y2, y3⟩, ⟨x0, x1, x2, x3⟩, ⟨u0, u1, u2, u3⟩, f0, f1, f2, f3⟩ := HKC.out _ HB.out)
      | (go_at_call 62; refine (HVE.out _ HB.out).mono ?_; rintro e w3 ⟨rfl, hb3⟩; replace HB := Lib.hid (bt HB.out hb3); clear hb3 y0 y1 y2 y3 x0 x1 x2 x3 u0 u1 u2 u3 f0 f1 f2 f3; obtain ⟨⟨y0, y1, y2, y3⟩, ⟨x0, x1, x2, x3⟩, ⟨u0, u1, u2, u3⟩, f0, f1, f2, f3⟩ := HKC.out _ HB.out))
    obtain ⟨X, hX⟩ : ∃ X, X = (((w3.setCell ⟨g2, 0, none⟩ (.int .i64 0)).setCell ⟨g2, 1, none⟩ (.int .i64 0)).setCell ⟨g2, 2, none⟩ (.int .i64 0)).setCell ⟨g2, 3, none⟩ (.slice none 0 0) := ⟨_, rfl⟩
    rw [← hX]
    obtain ⟨⟨r0, r1, r2, r3⟩, hbX⟩ := put4_of (HK2.out.below HB.out HK2.out.lt) (bt HB1.out HB.out) (by have := HG2.out; omega) hX
    refine bodyPost_ret (v := .tuple #[.agg #[.int .i64 0, .int .i64 0, .int .i64 0, .slice none 0 0], .int .i64 5]) (by simp [results, Tryd.results29, go_sem, r0, r1, r2, r3]) rfl ⟨?_, hbX⟩
    rw [HO2.out.1, HO2.out.2]
  have hd0 : decide (f < 0) = false := decide_eq_false hf0
  by_cases hf1 : (nk : Int) ≤ f
  · have hd1 : decide ((nk : Int) ≤ f) = true := decide_eq_true hf1
    have HO2 : Hid (rk = 0 ∧ re = 5) := Lib.hid (by have h := HO.out; clear h; have h := HO1.out; rw [if_pos (.inr hf1)] at h; injection h with h1 h2; exact ⟨h1, h2⟩)
    go_enter Tryd.func29, Tryd.ntmps29
    go_upto_region 1 with fail
    rw [← HW1.out, ← HG2.out, ← HG1.out]
    try rw [← HZ.out]
    go_wp2_with (first
      | (go_at_call 18; refine (HVP.out _ (Below.refl _ _)).mono ?_; rintro e w2 ⟨rfl, hb2⟩; have HB := Lib.hid hb2; clear hb2 y0 y1 y2 y3 x0 x1 x2 x3 u0 u1 u2 u3 f0 f1 f2 f3; obtain ⟨⟨y0, y1, y2, y3⟩, ⟨x0, x1, x2, x3⟩, ⟨u0, u1, u2, u3⟩, f0, f1, f2, f3⟩ := HKC.out _ HB.out)
      | (go_at_call 62; refine (HVE.out _ HB.out).mono ?_; rintro e w3 ⟨rfl, hb3⟩; replace HB := Lib.hid (bt HB.out hb3); clear hb3 y0 y1 y2 y3 x0 x1 x2 x3 u0 u1 u2 u3 f0 f1 f2 f3; obtain ⟨⟨y0, y1, y2, y3⟩, ⟨x0, x1, x2, x3⟩, ⟨u0, u1, u2, u3⟩, f0, f1, f2, f3⟩ := HKC.out _ HB.out))
    obtain ⟨X, hX⟩ : ∃ X, X = (((w3.setCell ⟨g2, 0, none⟩ (.int .i64 0)).setCell ⟨g2, 1, none⟩ (.int .i64 0)).setCell ⟨g2, 2, none⟩ (.int .i64 0)).setCell ⟨g2, 3, none⟩ (.slice none 0 0) := ⟨_, rfl⟩
    rw [← hX]
    obtain ⟨⟨r0, r1, r2, r3⟩, hbX⟩ := put4_of (HK2.out.below HB.out HK2.out.lt) (bt HB1.out HB.out) (by have := HG2.out; omega) hX
    refine bodyPost_ret (v := .tuple #[.agg #[.int .i64 0, .int .i64 0, .int .i64 0, .slice none 0 0], .int .i64 5]) (by simp [results, Tryd.results29, go_sem, r0, r1, r2, r3]) rfl ⟨?_, hbX⟩
    rw [HO2.out.1, HO2.out.2]
  have hd1 : decide ((nk : Int) ≤ f) = false := decide_eq_false hf1
  obtain ⟨j, rfl⟩ := Int.eq_ofNat_of_zero_le (show 0 ≤ f by omega)
  obtain ⟨u, hu⟩ : ∃ u, p.kids[j]? = some u := ⟨_, List.getElem?_eq_getElem (by rw [← HNK.out]; omega)⟩
  obtain ⟨s, hs⟩ : ∃ s, s = scO p u := ⟨_, rfl⟩
  obtain ⟨q, hq⟩ : ∃ q, q = firstW s x := ⟨_, rfl⟩
  have HO3 : Hid ((rk, re) = if q.2 ≠ 0 then (0, q.2) else (typeOf s x, 0)) := Lib.hid (by have h := HO1.out; rw [if_neg (by omega), tAt_j hu, ← hs, ← hq] at h; exact h)
  have hkid := prog_kid HV.out.symm (List.mem_of_getElem? hu)
  have hfx := expr_fit HE.out.symm
  have hnd : Nds W1 (Lt W1.heap.size) (d + 1) p.kids A c := by
    obtain ⟨xs, hrd, hrs⟩ := HRP.out.kids
    have h := HV.out.symm
    have hp : IsProg p := by unfold isProg at h; simpa using h
    have := (nok_of ((prog_iff p).1 hp).2.2.2).len
    exact Nds.deeper (d := d) ⟨⟨xs, hrd, hrs⟩, HRP.out.cap, by omega⟩ (by omega)
  have e1 : s.funs.length = nk := by rw [hs]; exact HNK.out.symm
  have e2 : s.ch = n := by rw [hs]; exact HN.out.symm
  have HSO : Hid (∀ W, Below W1.heap.size W1 W → Calls Tryd.prog 63 #[.agg #[.int .i64 k, .int .i64 n, .int .i64 m, .slice A nk c], .int .i64 (j : Int)] W fun e w' => ∃ A' c', e = .returned (.agg #[.slice A' s.vars.length c', .slice A nk c, .int .i64 n]) ∧ ScR w' (d + 1) s A' c' A c ∧ Below W.heap.size W w') := Lib.hid fun W hb => by
    have h := scopeOf_is p u j d A c W (hnd.next hb) hu ⟨by have := hkid.n0; have := hkid.n1; omega, by have := hkid.len; omega⟩
    rw [← hs, e1, e2, ← HNK.out, ← HK.out, ← HN.out, ← HM.out] at h
    exact h
  have HFW : Hid (∀ W A2 c2, Below W1.heap.size W1 W → ScR W (d + 1) s A2 c2 A c → Calls Tryd.prog 64 #[.agg #[.slice A2 s.vars.length c2, .slice A nk c, .int .i64 n], .agg #[.int .i64 ek, .int .i64 en, .int .i64 em, .slice Ae ne ce]] W fun e w' => ∃ A' c', e = .returned (.tuple #[.slice A' q.1.length c', .int .i64 q.2]) ∧ Below W.heap.size W w') := Lib.hid fun W A2 c2 hb hsc => by
    have h := firstWrong_is s x (d + 1) (d + 1) A2 A Ae c2 c ce W hsc (rep_next HRX.out hb) hfx (by have := HD.out; omega) (by rw [hs]; exact prog_fok HV.out.symm)
    rw [e1, e2, ← hq, ← HNE.out, ← HEK.out, ← HEN.out, ← HEM.out] at h
    refine h.mono ?_
    rintro e w' ⟨A', c', h1, _, h3⟩
    exact ⟨A', c', h1, h3⟩
  have HTY : Hid (∀ W A2 c2, Below W1.heap.size W1 W → ScR W (d + 1) s A2 c2 A c → Calls Tryd.prog 65 #[.agg #[.slice A2 s.vars.length c2, .slice A nk c, .int .i64 n], .agg #[.int .i64 ek, .int .i64 en, .int .i64 em, .slice Ae ne ce]] W fun e w' => e = .returned (.int .i64 (typeOf s x)) ∧ Below W.heap.size W w') := Lib.hid fun W A2 c2 hb hsc => by
    have ho := aok_of (nok_of hfx)
    have h := typeOf_is s x (d + 1) Ae A2 A ce c2 c W hsc ho.2.2 ho.1 ho.2.1
    rw [e1, e2, ← HNE.out, ← HEK.out, ← HEN.out, ← HEM.out] at h
    exact h
  obtain ⟨nv, hnv⟩ : ∃ z, z = s.vars.length := ⟨_, rfl⟩
  obtain ⟨ty, hty⟩ : ∃ z, z = typeOf s x := ⟨_, rfl⟩
  rw [← hnv] at HSO HFW HTY
  rw [← hty] at HTY HO3
  obtain ⟨ql, er⟩ := q
  simp only at HFW HO3
  obtain ⟨nq, hnq⟩ : ∃ z, z = ql.length := ⟨_, rfl⟩
  rw [← hnq] at HFW
  have hjb : (0 : Int) ≤ (j : Int) ∧ (j : Int) < (nk : Int) := ⟨by omega, by omega⟩
  clear hs hq hkid hfx hnd e1 e2 hnv hty hnq hu
  by_cases he : er = 0
  · have he2 : (er != 0) = false := by rw [bne_eq_false_iff_eq]; exact he
    have HO2 : Hid (rk = ty ∧ re = 0) := Lib.hid (by have h := HO.out; clear h; have h := HO3.out; rw [if_neg (by simpa using he)] at h; injection h with h1 h2; exact ⟨h1, h2⟩)
    clear he
    go_enter Tryd.func29, Tryd.ntmps29
    go_upto_region 1 with fail
    rw [← HW1.out, ← HG2.out, ← HG1.out]
    try rw [← HZ.out]
    go_upto_region 6 with (first
      | (go_at_call 18; refine (HVP.out _ (Below.refl _ _)).mono ?_; rintro e w2 ⟨rfl, hb2⟩; have HB := Lib.hid hb2; clear hb2 y0 y1 y2 y3 x0 x1 x2 x3 u0 u1 u2 u3 f0 f1 f2 f3; obtain ⟨⟨y0, y1, y2, y3⟩, ⟨x0, x1, x2, x3⟩, ⟨u0, u1, u2, u3⟩, f0, f1, f2, f3⟩ := HKC.out _ HB.out)
      | (go_at_call 62; refine (HVE.out _ HB.out).mono ?_; rintro e w3 ⟨rfl, hb3⟩; replace HB := Lib.hid (bt HB.out hb3); clear hb3 y0 y1 y2 y3 x0 x1 x2 x3 u0 u1 u2 u3 f0 f1 f2 f3; obtain ⟨⟨y0, y1, y2, y3⟩, ⟨x0, x1, x2, x3⟩, ⟨u0, u1, u2, u3⟩, f0, f1, f2, f3⟩ := HKC.out _ HB.out)
      | (go_at_call 63; refine (HSO.out _ HB.out).mono ?_; rintro e w4 ⟨A2, c2, rfl, hsc, hb4⟩; replace HB := Lib.hid (bt HB.out hb4); have HSC := Lib.hid hsc; clear hb4 hsc y0 y1 y2 y3 x0 x1 x2 x3 u0 u1 u2 u3 f0 f1 f2 f3))
    obtain ⟨W5, hW5⟩ : ∃ W, W = w4.alloc (.cells #[.slice A2 nv c2, .slice A nk c, .int .i64 n] 79) := ⟨_, rfl⟩
    obtain ⟨g8, hg8⟩ : ∃ z, z = w4.heap.size := ⟨_, rfl⟩
    have k8 : Blk W5 g8 79 #[.slice A2 nv c2, .slice A nk c, .int .i64 n] := by rw [hW5, hg8]; exact Blk.new _ _ _
    have hb45 : Below w4.heap.size w4 W5 := by rw [hW5]; exact below_new _ _
    rw [← hW5, ← hg8]
    replace HB := Lib.hid (bt HB.out hb45)
    have HSC5 := Lib.hid (HSC.out.next hb45)
    have HK8 := Lib.hid k8
    obtain ⟨s0, s1, s2⟩ : W5.cell? ⟨g8, 0, none⟩ = some (.slice A2 nv c2) ∧ W5.cell? ⟨g8, 1, none⟩ = some (.slice A nk c) ∧ W5.cell? ⟨g8, 2, none⟩ = some (.int .i64 n) := ⟨k8.cell 0, k8.cell 1, k8.cell 2⟩
    obtain ⟨⟨y0, y1, y2, y3⟩, ⟨x0, x1, x2, x3⟩, ⟨u0, u1, u2, u3⟩, f0, f1, f2, f3⟩ := HKC.out _ HB.out
    clear hW5 hg8 k8 hb45
    go_wp2_with (first
      | (go_at_call 64; refine (HFW.out _ _ _ HB.out HSC5.out).mono ?_; rintro e w6 ⟨A6, c6, rfl, hb6⟩; replace HB := Lib.hid (bt HB.out hb6); have HSC6 := Lib.hid (HSC5.out.next hb6); have HK86 := Lib.hid (HK8.out.below hb6 HK8.out.lt); clear hb6 s0 s1 s2 y0 y1 y2 y3 x0 x1 x2 x3 u0 u1 u2 u3 f0 f1 f2 f3; obtain ⟨⟨y0, y1, y2, y3⟩, ⟨x0, x1, x2, x3⟩, ⟨u0, u1, u2, u3⟩, f0, f1, f2, f3⟩ := HKC.out _ HB.out; obtain ⟨s0, s1, s2⟩ : w6.cell? ⟨g8, 0, none⟩ = some (.slice A2 nv c2) ∧ w6.cell? ⟨g8, 1, none⟩ = some (.slice A nk c) ∧ w6.cell? ⟨g8, 2, none⟩ = some (.int .i64 n) := ⟨HK86.out.cell 0, HK86.out.cell 1, HK86.out.cell 2⟩)
      | (go_at_call 65; refine (HTY.out _ _ _ HB.out HSC6.out).mono ?_; rintro e w7 ⟨rfl, hb7⟩; replace HB := Lib.hid (bt HB.out hb7); clear hb7 s0 s1 s2 y0 y1 y2 y3 x0 x1 x2 x3 u0 u1 u2 u3 f0 f1 f2 f3; obtain ⟨⟨y0, y1, y2, y3⟩, ⟨x0, x1, x2, x3⟩, ⟨u0, u1, u2, u3⟩, f0, f1, f2, f3⟩ := HKC.out _ HB.out))
    obtain ⟨X, hX⟩ : ∃ X, X = (((w7.setCell ⟨g2, 0, none⟩ (.int .i64 ty)).setCell ⟨g2, 1, none⟩ (.int .i64 0)).setCell ⟨g2, 2, none⟩ (.int .i64 0)).setCell ⟨g2, 3, none⟩ (.slice none 0 0) := ⟨_, rfl⟩
    rw [← hX]
    obtain ⟨⟨r0, r1, r2, r3⟩, hbX⟩ := put4_of (HK2.out.below HB.out HK2.out.lt) (bt HB1.out HB.out) (by have := HG2.out; omega) hX
    refine bodyPost_ret (v := .tuple #[.agg #[.int .i64 ty, .int .i64 0, .int .i64 0, .slice none 0 0], .int .i64 0]) (by simp [results, Tryd.results29, go_sem, r0, r1, r2, r3]) rfl ⟨?_, hbX⟩
    rw [HO2.out.1, HO2.out.2]
  · have he2 : (er != 0) = true := by rw [bne_iff_ne]; exact he
    have HO2 : Hid (rk = 0 ∧ re = er) := Lib.hid (by have h := HO.out; clear h; have h := HO3.out; rw [if_pos he] at h; injection h with h1 h2; exact ⟨h1, h2⟩)
    clear he
    go_enter Tryd.func29, Tryd.ntmps29
    go_upto_region 1 with fail
    rw [← HW1.out, ← HG2.out, ← HG1.out]
    try rw [← HZ.out]
    go_upto_region 6 with (first
      | (go_at_call 18; refine (HVP.out _ (Below.refl _ _)).mono ?_; rintro e w2 ⟨rfl, hb2⟩; have HB := Lib.hid hb2; clear hb2 y0 y1 y2 y3 x0 x1 x2 x3 u0 u1 u2 u3 f0 f1 f2 f3; obtain ⟨⟨y0, y1, y2, y3⟩, ⟨x0, x1, x2, x3⟩, ⟨u0, u1, u2, u3⟩, f0, f1, f2, f3⟩ := HKC.out _ HB.out)
      | (go_at_call 62; refine (HVE.out _ HB.out).mono ?_; rintro e w3 ⟨rfl, hb3⟩; replace HB := Lib.hid (bt HB.out hb3); clear hb3 y0 y1 y2 y3 x0 x1 x2 x3 u0 u1 u2 u3 f0 f1 f2 f3; obtain ⟨⟨y0, y1, y2, y3⟩, ⟨x0, x1, x2, x3⟩, ⟨u0, u1, u2, u3⟩, f0, f1, f2, f3⟩ := HKC.out _ HB.out)
      | (go_at_call 63; refine (HSO.out _ HB.out).mono ?_; rintro e w4 ⟨A2, c2, rfl, hsc, hb4⟩; replace HB := Lib.hid (bt HB.out hb4); have HSC := Lib.hid hsc; clear hb4 hsc y0 y1 y2 y3 x0 x1 x2 x3 u0 u1 u2 u3 f0 f1 f2 f3))
    obtain ⟨W5, hW5⟩ : ∃ W, W = w4.alloc (.cells #[.slice A2 nv c2, .slice A nk c, .int .i64 n] 79) := ⟨_, rfl⟩
    obtain ⟨g8, hg8⟩ : ∃ z, z = w4.heap.size := ⟨_, rfl⟩
    have k8 : Blk W5 g8 79 #[.slice A2 nv c2, .slice A nk c, .int .i64 n] := by rw [hW5, hg8]; exact Blk.new _ _ _
    have hb45 : Below w4.heap.size w4 W5 := by rw [hW5]; exact below_new _ _
    rw [← hW5, ← hg8]
    replace HB := Lib.hid (bt HB.out hb45)
    have HSC5 := Lib.hid (HSC.out.next hb45)
    have HK8 := Lib.hid k8
    obtain ⟨s0, s1, s2⟩ : W5.cell? ⟨g8, 0, none⟩ = some (.slice A2 nv c2) ∧ W5.cell? ⟨g8, 1, none⟩ = some (.slice A nk c) ∧ W5.cell? ⟨g8, 2, none⟩ = some (.int .i64 n) := ⟨k8.cell 0, k8.cell 1, k8.cell 2⟩
    obtain ⟨⟨y0, y1, y2, y3⟩, ⟨x0, x1, x2, x3⟩, ⟨u0, u1, u2, u3⟩, f0, f1, f2, f3⟩ := HKC.out _ HB.out
    clear hW5 hg8 k8 hb45
    go_wp2_with (go_at_call 64; refine (HFW.out _ _ _ HB.out HSC5.out).mono ?_; rintro e w6 ⟨A6, c6, rfl, hb6⟩; replace HB := Lib.hid (bt HB.out hb6); have HSC6 := Lib.hid (HSC5.out.next hb6); have HK86 := Lib.hid (HK8.out.below hb6 HK8.out.lt); clear hb6 s0 s1 s2 y0 y1 y2 y3 x0 x1 x2 x3 u0 u1 u2 u3 f0 f1 f2 f3; obtain ⟨⟨y0, y1, y2, y3⟩, ⟨x0, x1, x2, x3⟩, ⟨u0, u1, u2, u3⟩, f0, f1, f2, f3⟩ := HKC.out _ HB.out; obtain ⟨s0, s1, s2⟩ : w6.cell? ⟨g8, 0, none⟩ = some (.slice A2 nv c2) ∧ w6.cell? ⟨g8, 1, none⟩ = some (.slice A nk c) ∧ w6.cell? ⟨g8, 2, none⟩ = some (.int .i64 n) := ⟨HK86.out.cell 0, HK86.out.cell 1, HK86.out.cell 2⟩)
    obtain ⟨X, hX⟩ : ∃ X, X = (((w6.setCell ⟨g2, 0, none⟩ (.int .i64 0)).setCell ⟨g2, 1, none⟩ (.int .i64 0)).setCell ⟨g2, 2, none⟩ (.int .i64 0)).setCell ⟨g2, 3, none⟩ (.slice none 0 0) := ⟨_, rfl⟩
    rw [← hX]
    obtain ⟨⟨r0, r1, r2, r3⟩, hbX⟩ := put4_of (HK2.out.below HB.out HK2.out.lt) (bt HB1.out HB.out) (by have := HG2.out; omega) hX
    refine bodyPost_ret (v := .tuple #[.agg #[.int .i64 0, .int .i64 0, .int .i64 0, .slice none 0 0], .int .i64 er]) (by simp [results, Tryd.results29, go_sem, r0, r1, r2, r3]) rfl ⟨?_, hbX⟩
    rw [HO2.out.1, HO2.out.2]
end Go.Proofs.YtpbbafikjpjejaaDoor

/-
  The program's isSingle, isArray, isRecord, Words.
-/
namespace Go.Proofs.YtpbbafikjpjejaaDoor.TY
open TR
def single (u : T) : Bool := scal u.k && (u.n == 0 && (u.m == 0 && ((u.kids.length : Int) == 0)))
def isArr (u : T) : Bool := (u.k == 2) && (decide (1 ≤ u.n) && (decide (u.n ≤ 4) && (u.m == 0 && ((u.kids.length : Int) == 0))))
def recHead (u : T) : Bool := !(u.k != 3) && (!(u.n != 0) && (!(u.m != 0) && (!((u.kids.length : Int) == 0) && !decide ((3 : Int) < (u.kids.length : Int)))))
def isRec (u : T) : Bool := recHead u && u.kids.all single
/-- How many words a value of a type has; -1, if it is no type. -/
def words (u : T) : Int := if single u then 1 else if isArr u then u.n else if isRec u then u.kids.length else -1
end Go.Proofs.YtpbbafikjpjejaaDoor.TY
namespace Go.Proofs.YtpbbafikjpjejaaDoor
open Go.RowKit WM TR TY

set_option maxHeartbeats 4000000 in
theorem isSingle_is (u : T) (A : Option Addr) (c : Nat) (w : World) : Calls Tryd.prog 56 #[.agg #[.int .i64 u.k, .int .i64 u.n, .int .i64 u.m, .slice A u.kids.length c]] w fun e w' => e = .returned (.bool (single u)) ∧ Below w.heap.size w w' := by
  obtain ⟨nk, hnk⟩ : ∃ z, z = u.kids.length := ⟨_, rfl⟩
  obtain ⟨k, hk⟩ : ∃ z, z = u.k := ⟨_, rfl⟩
  obtain ⟨n, hn⟩ : ∃ z, z = u.n := ⟨_, rfl⟩
  obtain ⟨m, hm⟩ : ∃ z, z = u.m := ⟨_, rfl⟩
  obtain ⟨b1, h1⟩ : ∃ b, scal k = b := ⟨_, rfl⟩
  obtain ⟨b2, h2⟩ : ∃ b, (n == 0) = b := ⟨_, rfl⟩
  obtain ⟨b3, h3⟩ : ∃ b, (m == 0) = b := ⟨_, rfl⟩
  obtain ⟨b4, h4⟩ : ∃ b, ((nk : Int) == 0) = b := ⟨_, rfl⟩
  obtain ⟨r, hr⟩ : ∃ r, r = single u := ⟨_, rfl⟩
  have HR : Hid (r = (b1 && (b2 && (b3 && b4)))) := Lib.hid (by rw [hr]; unfold single; rw [← hk, ← hn, ← hm, ← hnk, h1, h2, h3, h4])
  have HSC : Hid (∀ W, Calls Tryd.prog 79 #[.int .i64 k] W fun e w' => e = .returned (.bool b1) ∧ W = w') := Lib.hid fun W => by
    have h := isScalar_is k W
    rw [h1] at h
    exact h
  rw [← hk, ← hn, ← hm, ← hnk, ← hr]
  clear hk hn hm hnk hr h1
  cases b1 <;> cases b2 <;> cases b3 <;> cases b4
  all_goals
    go_enter Tryd.func56, Tryd.ntmps56
    go_wp2_with (go_at_call 79; refine (HSC.out _).mono ?_; rintro e w2 ⟨rfl, rfl⟩)
    go_ret
    exact ⟨ret_b (by rw [HR.out]; rfl), below_new _ _⟩
set_option maxHeartbeats 4000000 in
theorem isArray_is (u : T) (A : Option Addr) (c : Nat) (w : World) : Calls Tryd.prog 57 #[.agg #[.int .i64 u.k, .int .i64 u.n, .int .i64 u.m, .slice A u.kids.length c]] w fun e w' => e = .returned (.bool (isArr u)) ∧ Below w.heap.size w w' := by
  obtain ⟨nk, hnk⟩ : ∃ z, z = u.kids.length := ⟨_, rfl⟩
  obtain ⟨k, hk⟩ : ∃ z, z = u.k := ⟨_, rfl⟩
  obtain ⟨n, hn⟩ : ∃ z, z = u.n := ⟨_, rfl⟩
  obtain ⟨m, hm⟩ : ∃ z, z = u.m := ⟨_, rfl⟩
  obtain ⟨b1, h1⟩ : ∃ b, (k == 2) = b := ⟨_, rfl⟩
  obtain ⟨b5, h5⟩ : ∃ b, decide (1 ≤ n) = b := ⟨_, rfl⟩
  obtain ⟨b2, h2⟩ : ∃ b, decide (n ≤ 4) = b := ⟨_, rfl⟩
  obtain ⟨b3, h3⟩ : ∃ b, (m == 0) = b := ⟨_, rfl⟩
  obtain ⟨b4, h4⟩ : ∃ b, ((nk : Int) == 0) = b := ⟨_, rfl⟩
  obtain ⟨r, hr⟩ : ∃ r, r = isArr u := ⟨_, rfl⟩
  have HR : Hid (r = (b1 && (b5 && (b2 && (b3 && b4))))) := Lib.hid (by rw [hr]; unfold isArr; rw [← hk, ← hn, ← hm, ← hnk, h1, h2, h3, h4, h5])
  rw [← hk, ← hn, ← hm, ← hnk, ← hr]
  clear hk hn hm hnk hr
  cases b1 <;> cases b5 <;> cases b2 <;> cases b3 <;> cases b4
  all_goals
    go_enter Tryd.func57, Tryd.ntmps57
    go_wp2_with fail
    go_ret
    exact ⟨ret_b (by rw [HR.out]; rfl), below_new _ _⟩
end Go.Proofs.YtpbbafikjpjejaaDoor
