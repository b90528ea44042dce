/- Texts joined. -/
import Derived.Test.YtlffmfdjifgfgaaDoorG39
import Derived.Test.YtlffmfdjifgfgaaDoorG23
import Derived.Test.YtlffmfdjifgfgaaDoorG34
import Derived.Test.YtlffmfdjifgfgaaDoorG21
import Derived.Test.YtlffmfdjifgfgaaDoorG11
import Derived.Deep.RegionHeldLaw
import Derived.Test.YtlffmfdjifgfgaaDoorG14
set_option linter.unusedVariables false
namespace Go.Proofs.YtlffmfdjifgfgaaDoor
open Go.RowKit WM TR TY

noncomputable def ofK (p : T) (f : Int) (x : T) : Int × Int :=
 if isProg p = false then (0, 2) else if isProg (wrapN 4 x) = false then (0, 2)
 else if f < 0 ∨ (p.kids.length : Int) ≤ f then (0, 5)
 else if (firstW (scO p (tAt p.kids f)) x).2 ≠ 0 then (0, (firstW (scO p (tAt p.kids f)) x).2) else (typeOf (scO p (tAt p.kids f)) x, 0)
theorem put4_of {w W X : World} {g : Nat} {v0 v1 v2 v3 : Value} (hk : Blk W g 25 #[.int .i64 0, .int .i64 0, .int .i64 0, .slice none 0 0]) (hb : Below w.heap.size w W) (hg : w.heap.size ≤ g) (hX : X = (((W.setCell ⟨g, 0, none⟩ v0).setCell ⟨g, 1, none⟩ v1).setCell ⟨g, 2, none⟩ v2).setCell ⟨g, 3, none⟩ v3) :
  (X.cell? ⟨g, 0, none⟩ = some v0 ∧ X.cell? ⟨g, 1, none⟩ = some v1 ∧ X.cell? ⟨g, 2, none⟩ = some v2 ∧ X.cell? ⟨g, 3, none⟩ = some v3) ∧ Below w.heap.size w X := by
 have kX : Blk X g 25 #[v0, v1, v2, v3] := by
  rw [hX]
  have h := (((hk.set_ 0 v0).set_ 1 v1).set_ 2 v2).set_ 3 v3
  simpa using h
 refine ⟨⟨kX.cell 0, kX.cell 1, kX.cell 2, kX.cell 3⟩, ?_⟩
 rw [hX]
 exact (((hb.setCell (by show w.heap.size ≤ g; exact hg) _).setCell (by show w.heap.size ≤ g; exact hg) _).setCell (by show w.heap.size ≤ g; exact hg) _).setCell (by show w.heap.size ≤ g; exact hg) _
theorem tAt_j {l : List T} {j : Nat} {u : T} (h : l[j]? = some u) : tAt l (j : Int) = u := tAt_get rfl h
theorem expr_fit {x : T} (h : isProg (wrapN 4 x) = true) : Fit x := by
 have hp : IsProg (wrapN 4 x) := by unfold isProg at h; simpa using h
 have hf := ((prog_iff _).1 hp).2.2.2
 have h3 : Fit (wrapN 3 x) := hf.kids _ (by simp [wrapN])
 have h2 : Fit (wrapN 2 x) := h3.kids _ (by simp [wrapN])
 have h1 : Fit (wrapN 1 x) := h2.kids _ (by simp [wrapN])
 exact h1.kids _ (by simp [wrapN])

set_option maxRecDepth 100000 in
set_option maxHeartbeats 16000000 in
theorem of_is (d : Nat) (p x : T) (f : Int) (A Ae : Option Addr) (c ce : Nat) (w : World) (hr : Rep w (Lt w.heap.size) (d + 1) p (nd p A c)) (hx : Rep w (Lt w.heap.size) (d + 1) x (nd x Ae ce)) (hD : d < 1000) (hsz : size p ≤ 1000000) (hsx : size x ≤ 100000) (hT : ST w) (hg : 0 < w.heap.size) :
  Calls Tryd.prog 29 #[.agg #[.int .i64 p.k, .int .i64 p.n, .int .i64 p.m, .slice A p.kids.length c], .int .i64 f, .agg #[.int .i64 x.k, .int .i64 x.n, .int .i64 x.m, .slice Ae x.kids.length ce]] w fun e w' => e = .returned (.tuple #[.agg #[.int .i64 (ofK p f x).1, .int .i64 0, .int .i64 0, .slice none 0 0], .int .i64 (ofK p f x).2]) ∧ Below w.heap.size w w' := by
 obtain ⟨z, hz⟩ : ∃ z, z = w.heap.size := ⟨_, rfl⟩
 obtain ⟨g1, hg1⟩ : ∃ z, z = w.heap.size + 1 := ⟨_, rfl⟩
 obtain ⟨g2, hg2⟩ : ∃ z, z = w.heap.size + 1 + 1 := ⟨_, rfl⟩
 obtain ⟨nk, hnk⟩ : ∃ z, z = p.kids.length := ⟨_, rfl⟩
 obtain ⟨k, hk⟩ : ∃ z, z = p.k := ⟨_, rfl⟩
 obtain ⟨n, hn⟩ : ∃ z, z = p.n := ⟨_, rfl⟩
 obtain ⟨m, hm⟩ : ∃ z, z = p.m := ⟨_, rfl⟩
 obtain ⟨ne, hne⟩ : ∃ z, z = x.kids.length := ⟨_, rfl⟩
 obtain ⟨ek, hek⟩ : ∃ z, z = x.k := ⟨_, rfl⟩
 obtain ⟨en, hen⟩ : ∃ z, z = x.n := ⟨_, rfl⟩
 obtain ⟨em, hem⟩ : ∃ z, z = x.m := ⟨_, rfl⟩
 obtain ⟨W1, hW1⟩ : ∃ W, W = ((w.alloc (.cells #[.int .i64 k, .int .i64 n, .int .i64 m, .slice A nk c] 25)).alloc (.cells #[.int .i64 ek, .int .i64 en, .int .i64 em, .slice Ae ne ce] 25)).alloc (.cells #[.int .i64 0, .int .i64 0, .int .i64 0, .slice none 0 0] 25) := ⟨_, rfl⟩
 have hb1 : Below w.heap.size w W1 := by rw [hW1]; exact ba (ba (below_new _ _) _) _
 have k0 : Blk W1 z 25 #[.int .i64 k, .int .i64 n, .int .i64 m, .slice A nk c] := by rw [hW1, hz]; exact ((Blk.new _ _ _).alloc _).alloc _
 have k1 : Blk W1 g1 25 #[.int .i64 ek, .int .i64 en, .int .i64 em, .slice Ae ne ce] := by rw [hW1]; exact (Blk.new_at _ _ (by rw [size_alloc, hg1]) rfl).alloc _
 have k2 : Blk W1 g2 25 #[.int .i64 0, .int .i64 0, .int .i64 0, .slice none 0 0] := by rw [hW1]; exact Blk.new_at _ _ (by rw [size_alloc, size_alloc, hg2]) rfl
 have HKC : Hid (∀ W, Below W1.heap.size W1 W → (W.cell? ⟨z, 0, none⟩ = some (.int .i64 k) ∧ W.cell? ⟨z, 1, none⟩ = some (.int .i64 n) ∧ W.cell? ⟨z, 2, none⟩ = some (.int .i64 m) ∧ W.cell? ⟨z, 3, none⟩ = some (.slice A nk c)) ∧ (W.cell? ⟨g1, 0, none⟩ = some (.int .i64 ek) ∧ W.cell? ⟨g1, 1, none⟩ = some (.int .i64 en) ∧ W.cell? ⟨g1, 2, none⟩ = some (.int .i64 em) ∧ W.cell? ⟨g1, 3, none⟩ = some (.slice Ae ne ce)) ∧ (W.cell? ⟨g2, 0, none⟩ = some (.int .i64 0) ∧ W.cell? ⟨g2, 1, none⟩ = some (.int .i64 0) ∧ W.cell? ⟨g2, 2, none⟩ = some (.int .i64 0) ∧ W.cell? ⟨g2, 3, none⟩ = some (.slice none 0 0)) ∧ (W.frozen? ⟨g2, 0, none⟩ = false ∧ W.frozen? ⟨g2, 1, none⟩ = false ∧ W.frozen? ⟨g2, 2, none⟩ = false ∧ W.frozen? ⟨g2, 3, none⟩ = false)) := Lib.hid fun W hb => by
  have e0 := k0.below hb k0.lt
  have e1 := k1.below hb k1.lt
  have e2 := k2.below hb k2.lt
  exact ⟨⟨e0.cell 0, e0.cell 1, e0.cell 2, e0.cell 3⟩, ⟨e1.cell 0, e1.cell 1, e1.cell 2, e1.cell 3⟩, ⟨e2.cell 0, e2.cell 1, e2.cell 2, e2.cell 3⟩, e2.frozen 0, e2.frozen 1, e2.frozen 2, e2.frozen 3⟩
 obtain ⟨⟨y0, y1, y2, y3⟩, ⟨x0, x1, x2, x3⟩, ⟨u0, u1, u2, u3⟩, f0, f1, f2, f3⟩ := HKC.out W1 (Below.refl _ _)
 obtain ⟨vp, hvp⟩ : ∃ v, v = isProg p := ⟨_, rfl⟩
 obtain ⟨ve, hve⟩ : ∃ v, v = isProg (wrapN 4 x) := ⟨_, rfl⟩
 have HVP : Hid (∀ W, Below W1.heap.size W1 W → Calls Tryd.prog 18 #[.agg #[.int .i64 k, .int .i64 n, .int .i64 m, .slice A nk c]] W fun e w' => e = .returned (.bool vp) ∧ Below W.heap.size W w') := Lib.hid fun W hb => by
  have hbw := bt hb1 hb
  have h := tvalid_is (d + 1) p _ A c W (rep_next hr hbw) (In.lt _) hsz (hT.below hbw hg) (Nat.lt_of_lt_of_le hg hbw.size)
  rw [← hvp, ← hnk, ← hk, ← hn, ← hm] at h
  exact h
 have HVE : Hid (∀ W, Below W1.heap.size W1 W → Calls Tryd.prog 62 #[.agg #[.int .i64 ek, .int .i64 en, .int .i64 em, .slice Ae ne ce]] W fun e w' => e = .returned (.bool ve) ∧ Below W.heap.size W w') := Lib.hid fun W hb => by
  have hbw := bt hb1 hb
  have h := isExpr_is (d + 1) x Ae ce W (rep_next hx hbw) hsx (hT.below hbw hg) (Nat.lt_of_lt_of_le hg hbw.size)
  rw [← hve, ← hne, ← hek, ← hen, ← hem] at h
  exact h
 obtain ⟨rk, hrk⟩ : ∃ z, z = (ofK p f x).1 := ⟨_, rfl⟩
 obtain ⟨re, hre⟩ : ∃ z, z = (ofK p f x).2 := ⟨_, rfl⟩
 have HO : Hid ((rk, re) = if vp = false then (0, 2) else if ve = false then (0, 2) else if f < 0 ∨ (nk : Int) ≤ f then (0, 5) else if (firstW (scO p (tAt p.kids f)) x).2 ≠ 0 then (0, (firstW (scO p (tAt p.kids f)) x).2) else (typeOf (scO p (tAt p.kids f)) x, 0)) := Lib.hid (by rw [hrk, hre, hvp, hve, hnk]; rfl)
 have HW1 := Lib.hid hW1
 have HZ := Lib.hid hz
 have HG1 := Lib.hid hg1
 have HG2 := Lib.hid hg2
 have HB1 := Lib.hid hb1
 have HK2 := Lib.hid k2
 have HRP := Lib.hid (rep_next hr hb1)
 have HRX := Lib.hid (rep_next hx hb1)
 have HNK := Lib.hid hnk
 have HK := Lib.hid hk
 have HN := Lib.hid hn
 have HM := Lib.hid hm
 have HNE := Lib.hid hne
 have HEK := Lib.hid hek
 have HEN := Lib.hid hen
 have HEM := Lib.hid hem
 have HV := Lib.hid hvp
 have HE := Lib.hid hve
 have HD := Lib.hid hD
 rw [← hnk, ← hk, ← hn, ← hm, ← hne, ← hek, ← hen, ← hem, ← hrk, ← hre]
 clear hz hg1 hg2 hnk hk hn hm hne hek hen hem hW1 hb1 k0 k1 k2 hvp hve hrk hre hr hx hsz hsx hT hg hD
 cases vp
 case false =>
  have HO2 : Hid (rk = 0 ∧ re = 2) := Lib.hid (by have h := HO.out; rw [if_pos rfl] at h; injection h with h1 h2; exact ⟨h1, h2⟩)
  go_enter Tryd.func29, Tryd.ntmps29
  go_upto_region 1 with fail
  rw [← HW1.out, ← HG2.out, ← HG1.out]
  try rw [← HZ.out]
  go_wp2_with (go_at_call 18; refine (HVP.out _ (Below.refl _ _)).mono ?_; rintro e w2 ⟨rfl, hb2⟩; have HB := Lib.hid hb2; clear hb2 y0 y1 y2 y3 x0 x1 x2 x3 u0 u1 u2 u3 f0 f1 f2 f3; obtain ⟨⟨y0, y1, y2, y3⟩, ⟨x0, x1, x2, x3⟩, ⟨u0, u1, u2, u3⟩, f0, f1, f2, f3⟩ := HKC.out _ HB.out)
  obtain ⟨X, hX⟩ : ∃ X, X = (((w2.setCell ⟨g2, 0, none⟩ (.int .i64 0)).setCell ⟨g2, 1, none⟩ (.int .i64 0)).setCell ⟨g2, 2, none⟩ (.int .i64 0)).setCell ⟨g2, 3, none⟩ (.slice none 0 0) := ⟨_, rfl⟩
  rw [← hX]
  obtain ⟨⟨r0, r1, r2, r3⟩, hbX⟩ := put4_of (HK2.out.below HB.out HK2.out.lt) (bt HB1.out HB.out) (by have := HG2.out; omega) hX
  refine bodyPost_ret (v := .tuple #[.agg #[.int .i64 0, .int .i64 0, .int .i64 0, .slice none 0 0], .int .i64 2]) (by simp [results, Tryd.results29, go_sem, r0, r1, r2, r3]) rfl ⟨?_, hbX⟩
  rw [HO2.out.1, HO2.out.2]
 cases ve
 case false =>
  have HO2 : Hid (rk = 0 ∧ re = 2) := Lib.hid (by have h := HO.out; rw [if_neg (by simp), if_pos rfl] at h; injection h with h1 h2; exact ⟨h1, h2⟩)
  go_enter Tryd.func29, Tryd.ntmps29
  go_upto_region 1 with fail
  rw [← HW1.out, ← HG2.out, ← HG1.out]
  try rw [← HZ.out]
  go_wp2_with (first
   | (go_at_call 18; refine (HVP.out _ (Below.refl _ _)).mono ?_; rintro e w2 ⟨rfl, hb2⟩; have HB := Lib.hid hb2; clear hb2 y0 y1 y2 y3 x0 x1 x2 x3 u0 u1 u2 u3 f0 f1 f2 f3; obtain ⟨⟨y0, y1, y2, y3⟩, ⟨x0, x1, x2, x3⟩, ⟨u0, u1, u2, u3⟩, f0, f1, f2, f3⟩ := HKC.out _ HB.out)
   | (go_at_call 62; refine (HVE.out _ HB.out).mono ?_; rintro e w3 ⟨rfl, hb3⟩; replace HB := Lib.hid (bt HB.out hb3); clear hb3 y0 y1 y2 y3 x0 x1 x2 x3 u0 u1 u2 u3 f0 f1 f2 f3; obtain ⟨⟨y0, y1, y2, y3⟩, ⟨x0, x1, x2, x3⟩, ⟨u0, u1, u2, u3⟩, f0, f1, f2, f3⟩ := HKC.out _ HB.out))
  obtain ⟨X, hX⟩ : ∃ X, X = (((w3.setCell ⟨g2, 0, none⟩ (.int .i64 0)).setCell ⟨g2, 1, none⟩ (.int .i64 0)).setCell ⟨g2, 2, none⟩ (.int .i64 0)).setCell ⟨g2, 3, none⟩ (.slice none 0 0) := ⟨_, rfl⟩
  rw [← hX]
  obtain ⟨⟨r0, r1, r2, r3⟩, hbX⟩ := put4_of (HK2.out.below HB.out HK2.out.lt) (bt HB1.out HB.out) (by have := HG2.out; omega) hX
  refine bodyPost_ret (v := .tuple #[.agg #[.int .i64 0, .int .i64 0, .int .i64 0, .slice none 0 0], .int .i64 2]) (by simp [results, Tryd.results29, go_sem, r0, r1, r2, r3]) rfl ⟨?_, hbX⟩
  rw [HO2.out.1, HO2.out.2]
 have HO1 : Hid ((rk, re) = if f < 0 ∨ (nk : Int) ≤ f then (0, 5) else if (firstW (scO p (tAt p.kids f)) x).2 ≠ 0 then (0, (firstW (scO p (tAt p.kids f)) x).2) else (typeOf (scO p (tAt p.kids f)) x, 0)) := Lib.hid (by have h := HO.out; rw [if_neg (by simp), if_neg (by simp)] at h; exact h)
 by_cases hf0 : f < 0
 ·have hd0 : decide (f < 0) = true := decide_eq_true hf0
  have HO2 : Hid (rk = 0 ∧ re = 5) := Lib.hid (by have h := HO.out; clear h; have h := HO1.out; rw [if_pos (.inl hf0)] at h; injection h with h1 h2; exact ⟨h1, h2⟩)
  go_enter Tryd.func29, Tryd.ntmps29
  go_upto_region 1 with fail
  rw [← HW1.out, ← HG2.out, ← HG1.out]
  try rw [← HZ.out]
  go_wp2_with (first
   | (go_at_call 18; refine (HVP.out _ (Below.refl _ _)).mono ?_; rintro e w2 ⟨rfl, hb2⟩; have HB := Lib.hid hb2; clear hb2 y0 y1 y2 y3 x0 x1 x2 x3 u0 u1 u2 u3 f0 f1 f2 f3; obtain ⟨⟨y0, y1, y2, y3⟩, ⟨x0, x1, x2, x3⟩, ⟨u0, u1, u2, u3⟩, f0, f1, f2, f3⟩ := HKC.out _ HB.out)
   | (go_at_call 62; refine (HVE.out _ HB.out).mono ?_; rintro e w3 ⟨rfl, hb3⟩; replace HB := Lib.hid (bt HB.out hb3); clear hb3 y0 y1 y2 y3 x0 x1 x2 x3 u0 u1 u2 u3 f0 f1 f2 f3; obtain ⟨⟨y0, y1, y2, y3⟩, ⟨x0, x1, x2, x3⟩, ⟨u0, u1, u2, u3⟩, f0, f1, f2, f3⟩ := HKC.out _ HB.out))
  obtain ⟨X, hX⟩ : ∃ X, X = (((w3.setCell ⟨g2, 0, none⟩ (.int .i64 0)).setCell ⟨g2, 1, none⟩ (.int .i64 0)).setCell ⟨g2, 2, none⟩ (.int .i64 0)).setCell ⟨g2, 3, none⟩ (.slice none 0 0) := ⟨_, rfl⟩
  rw [← hX]
  obtain ⟨⟨r0, r1, r2, r3⟩, hbX⟩ := put4_of (HK2.out.below HB.out HK2.out.lt) (bt HB1.out HB.out) (by have := HG2.out; omega) hX
  refine bodyPost_ret (v := .tuple #[.agg #[.int .i64 0, .int .i64 0, .int .i64 0, .slice none 0 0], .int .i64 5]) (by simp [results, Tryd.results29, go_sem, r0, r1, r2, r3]) rfl ⟨?_, hbX⟩
  rw [HO2.out.1, HO2.out.2]
 have hd0 : decide (f < 0) = false := decide_eq_false hf0
 by_cases hf1 : (nk : Int) ≤ f
 ·have hd1 : decide ((nk : Int) ≤ f) = true := decide_eq_true hf1
  have HO2 : Hid (rk = 0 ∧ re = 5) := Lib.hid (by have h := HO.out; clear h; have h := HO1.out; rw [if_pos (.inr hf1)] at h; injection h with h1 h2; exact ⟨h1, h2⟩)
  go_enter Tryd.func29, Tryd.ntmps29
  go_upto_region 1 with fail
  rw [← HW1.out, ← HG2.out, ← HG1.out]
  try rw [← HZ.out]
  go_wp2_with (first
   | (go_at_call 18; refine (HVP.out _ (Below.refl _ _)).mono ?_; rintro e w2 ⟨rfl, hb2⟩; have HB := Lib.hid hb2; clear hb2 y0 y1 y2 y3 x0 x1 x2 x3 u0 u1 u2 u3 f0 f1 f2 f3; obtain ⟨⟨y0, y1, y2, y3⟩, ⟨x0, x1, x2, x3⟩, ⟨u0, u1, u2, u3⟩, f0, f1, f2, f3⟩ := HKC.out _ HB.out)
   | (go_at_call 62; refine (HVE.out _ HB.out).mono ?_; rintro e w3 ⟨rfl, hb3⟩; replace HB := Lib.hid (bt HB.out hb3); clear hb3 y0 y1 y2 y3 x0 x1 x2 x3 u0 u1 u2 u3 f0 f1 f2 f3; obtain ⟨⟨y0, y1, y2, y3⟩, ⟨x0, x1, x2, x3⟩, ⟨u0, u1, u2, u3⟩, f0, f1, f2, f3⟩ := HKC.out _ HB.out))
  obtain ⟨X, hX⟩ : ∃ X, X = (((w3.setCell ⟨g2, 0, none⟩ (.int .i64 0)).setCell ⟨g2, 1, none⟩ (.int .i64 0)).setCell ⟨g2, 2, none⟩ (.int .i64 0)).setCell ⟨g2, 3, none⟩ (.slice none 0 0) := ⟨_, rfl⟩
  rw [← hX]
  obtain ⟨⟨r0, r1, r2, r3⟩, hbX⟩ := put4_of (HK2.out.below HB.out HK2.out.lt) (bt HB1.out HB.out) (by have := HG2.out; omega) hX
  refine bodyPost_ret (v := .tuple #[.agg #[.int .i64 0, .int .i64 0, .int .i64 0, .slice none 0 0], .int .i64 5]) (by simp [results, Tryd.results29, go_sem, r0, r1, r2, r3]) rfl ⟨?_, hbX⟩
  rw [HO2.out.1, HO2.out.2]
 have hd1 : decide ((nk : Int) ≤ f) = false := decide_eq_false hf1
 obtain ⟨j, rfl⟩ := Int.eq_ofNat_of_zero_le (show 0 ≤ f by omega)
 obtain ⟨u, hu⟩ : ∃ u, p.kids[j]? = some u := ⟨_, List.getElem?_eq_getElem (by rw [← HNK.out]; omega)⟩
 obtain ⟨s, hs⟩ : ∃ s, s = scO p u := ⟨_, rfl⟩
 obtain ⟨q, hq⟩ : ∃ q, q = firstW s x := ⟨_, rfl⟩
 have HO3 : Hid ((rk, re) = if q.2 ≠ 0 then (0, q.2) else (typeOf s x, 0)) := Lib.hid (by have h := HO1.out; rw [if_neg (by omega), tAt_j hu, ← hs, ← hq] at h; exact h)
 have hkid := prog_kid HV.out.symm (List.mem_of_getElem? hu)
 have hfx := expr_fit HE.out.symm
 have hnd : Nds W1 (Lt W1.heap.size) (d + 1) p.kids A c := by
  obtain ⟨xs, hrd, hrs⟩ := HRP.out.kids
  have h := HV.out.symm
  have hp : IsProg p := by unfold isProg at h; simpa using h
  have := (nok_of ((prog_iff p).1 hp).2.2.2).len
  exact Nds.deeper (d := d) ⟨⟨xs, hrd, hrs⟩, HRP.out.cap, by omega⟩ (by omega)
 have e1 : s.funs.length = nk := by rw [hs]; exact HNK.out.symm
 have e2 : s.ch = n := by rw [hs]; exact HN.out.symm
 have HSO : Hid (∀ W, Below W1.heap.size W1 W → Calls Tryd.prog 63 #[.agg #[.int .i64 k, .int .i64 n, .int .i64 m, .slice A nk c], .int .i64 (j : Int)] W fun e w' => ∃ A' c', e = .returned (.agg #[.slice A' s.vars.length c', .slice A nk c, .int .i64 n]) ∧ ScR w' (d + 1) s A' c' A c ∧ Below W.heap.size W w') := Lib.hid fun W hb => by
  have h := scopeOf_is p u j d A c W (hnd.next hb) hu ⟨by have := hkid.n0; have := hkid.n1; omega, by have := hkid.len; omega⟩
  rw [← hs, e1, e2, ← HNK.out, ← HK.out, ← HN.out, ← HM.out] at h
  exact h
 have HFW : Hid (∀ W A2 c2, Below W1.heap.size W1 W → ScR W (d + 1) s A2 c2 A c → Calls Tryd.prog 64 #[.agg #[.slice A2 s.vars.length c2, .slice A nk c, .int .i64 n], .agg #[.int .i64 ek, .int .i64 en, .int .i64 em, .slice Ae ne ce]] W fun e w' => ∃ A' c', e = .returned (.tuple #[.slice A' q.1.length c', .int .i64 q.2]) ∧ Below W.heap.size W w') := Lib.hid fun W A2 c2 hb hsc => by
  have h := firstWrong_is s x (d + 1) (d + 1) A2 A Ae c2 c ce W hsc (rep_next HRX.out hb) hfx (by have := HD.out; omega) (by rw [hs]; exact prog_fok HV.out.symm)
  rw [e1, e2, ← hq, ← HNE.out, ← HEK.out, ← HEN.out, ← HEM.out] at h
  refine h.mono ?_
  rintro e w' ⟨A', c', h1, _, h3⟩
  exact ⟨A', c', h1, h3⟩
 have HTY : Hid (∀ W A2 c2, Below W1.heap.size W1 W → ScR W (d + 1) s A2 c2 A c → Calls Tryd.prog 65 #[.agg #[.slice A2 s.vars.length c2, .slice A nk c, .int .i64 n], .agg #[.int .i64 ek, .int .i64 en, .int .i64 em, .slice Ae ne ce]] W fun e w' => e = .returned (.int .i64 (typeOf s x)) ∧ Below W.heap.size W w') := Lib.hid fun W A2 c2 hb hsc => by
  have ho := aok_of (nok_of hfx)
  have h := typeOf_is s x (d + 1) Ae A2 A ce c2 c W hsc ho.2.2 ho.1 ho.2.1
  rw [e1, e2, ← HNE.out, ← HEK.out, ← HEN.out, ← HEM.out] at h
  exact h
 obtain ⟨nv, hnv⟩ : ∃ z, z = s.vars.length := ⟨_, rfl⟩
 obtain ⟨ty, hty⟩ : ∃ z, z = typeOf s x := ⟨_, rfl⟩
 rw [← hnv] at HSO HFW HTY
 rw [← hty] at HTY HO3
 obtain ⟨ql, er⟩ := q
 simp only at HFW HO3
 obtain ⟨nq, hnq⟩ : ∃ z, z = ql.length := ⟨_, rfl⟩
 rw [← hnq] at HFW
 have hjb : (0 : Int) ≤ (j : Int) ∧ (j : Int) < (nk : Int) := ⟨by omega, by omega⟩
 clear hs hq hkid hfx hnd e1 e2 hnv hty hnq hu
 by_cases he : er = 0
 ·have he2 : (er != 0) = false := by rw [bne_eq_false_iff_eq]; exact he
  have HO2 : Hid (rk = ty ∧ re = 0) := Lib.hid (by have h := HO.out; clear h; have h := HO3.out; rw [if_neg (by simpa using he)] at h; injection h with h1 h2; exact ⟨h1, h2⟩)
  clear he
  go_enter Tryd.func29, Tryd.ntmps29
  go_upto_region 1 with fail
  rw [← HW1.out, ← HG2.out, ← HG1.out]
  try rw [← HZ.out]
  go_upto_region 6 with (first
   | (go_at_call 18; refine (HVP.out _ (Below.refl _ _)).mono ?_; rintro e w2 ⟨rfl, hb2⟩; have HB := Lib.hid hb2; clear hb2 y0 y1 y2 y3 x0 x1 x2 x3 u0 u1 u2 u3 f0 f1 f2 f3; obtain ⟨⟨y0, y1, y2, y3⟩, ⟨x0, x1, x2, x3⟩, ⟨u0, u1, u2, u3⟩, f0, f1, f2, f3⟩ := HKC.out _ HB.out)
   | (go_at_call 62; refine (HVE.out _ HB.out).mono ?_; rintro e w3 ⟨rfl, hb3⟩; replace HB := Lib.hid (bt HB.out hb3); clear hb3 y0 y1 y2 y3 x0 x1 x2 x3 u0 u1 u2 u3 f0 f1 f2 f3; obtain ⟨⟨y0, y1, y2, y3⟩, ⟨x0, x1, x2, x3⟩, ⟨u0, u1, u2, u3⟩, f0, f1, f2, f3⟩ := HKC.out _ HB.out)
   | (go_at_call 63; refine (HSO.out _ HB.out).mono ?_; rintro e w4 ⟨A2, c2, rfl, hsc, hb4⟩; replace HB := Lib.hid (bt HB.out hb4); have HSC := Lib.hid hsc; clear hb4 hsc y0 y1 y2 y3 x0 x1 x2 x3 u0 u1 u2 u3 f0 f1 f2 f3))
  obtain ⟨W5, hW5⟩ : ∃ W, W = w4.alloc (.cells #[.slice A2 nv c2, .slice A nk c, .int .i64 n] 79) := ⟨_, rfl⟩
  obtain ⟨g8, hg8⟩ : ∃ z, z = w4.heap.size := ⟨_, rfl⟩
  have k8 : Blk W5 g8 79 #[.slice A2 nv c2, .slice A nk c, .int .i64 n] := by rw [hW5, hg8]; exact Blk.new _ _ _
  have hb45 : Below w4.heap.size w4 W5 := by rw [hW5]; exact below_new _ _
  rw [← hW5, ← hg8]
  replace HB := Lib.hid (bt HB.out hb45)
  have HSC5 := Lib.hid (HSC.out.next hb45)
  have HK8 := Lib.hid k8
  obtain ⟨s0, s1, s2⟩ : W5.cell? ⟨g8, 0, none⟩ = some (.slice A2 nv c2) ∧ W5.cell? ⟨g8, 1, none⟩ = some (.slice A nk c) ∧ W5.cell? ⟨g8, 2, none⟩ = some (.int .i64 n) := ⟨k8.cell 0, k8.cell 1, k8.cell 2⟩
  obtain ⟨⟨y0, y1, y2, y3⟩, ⟨x0, x1, x2, x3⟩, ⟨u0, u1, u2, u3⟩, f0, f1, f2, f3⟩ := HKC.out _ HB.out
  clear hW5 hg8 k8 hb45
  go_wp2_with (first
   | (go_at_call 64; refine (HFW.out _ _ _ HB.out HSC5.out).mono ?_; rintro e w6 ⟨A6, c6, rfl, hb6⟩; replace HB := Lib.hid (bt HB.out hb6); have HSC6 := Lib.hid (HSC5.out.next hb6); have HK86 := Lib.hid (HK8.out.below hb6 HK8.out.lt); clear hb6 s0 s1 s2 y0 y1 y2 y3 x0 x1 x2 x3 u0 u1 u2 u3 f0 f1 f2 f3; obtain ⟨⟨y0, y1, y2, y3⟩, ⟨x0, x1, x2, x3⟩, ⟨u0, u1, u2, u3⟩, f0, f1, f2, f3⟩ := HKC.out _ HB.out; obtain ⟨s0, s1, s2⟩ : w6.cell? ⟨g8, 0, none⟩ = some (.slice A2 nv c2) ∧ w6.cell? ⟨g8, 1, none⟩ = some (.slice A nk c) ∧ w6.cell? ⟨g8, 2, none⟩ = some (.int .i64 n) := ⟨HK86.out.cell 0, HK86.out.cell 1, HK86.out.cell 2⟩)
   | (go_at_call 65; refine (HTY.out _ _ _ HB.out HSC6.out).mono ?_; rintro e w7 ⟨rfl, hb7⟩; replace HB := Lib.hid (bt HB.out hb7); clear hb7 s0 s1 s2 y0 y1 y2 y3 x0 x1 x2 x3 u0 u1 u2 u3 f0 f1 f2 f3; obtain ⟨⟨y0, y1, y2, y3⟩, ⟨x0, x1, x2, x3⟩, ⟨u0, u1, u2, u3⟩, f0, f1, f2, f3⟩ := HKC.out _ HB.out))
  obtain ⟨X, hX⟩ : ∃ X, X = (((w7.setCell ⟨g2, 0, none⟩ (.int .i64 ty)).setCell ⟨g2, 1, none⟩ (.int .i64 0)).setCell ⟨g2, 2, none⟩ (.int .i64 0)).setCell ⟨g2, 3, none⟩ (.slice none 0 0) := ⟨_, rfl⟩
  rw [← hX]
  obtain ⟨⟨r0, r1, r2, r3⟩, hbX⟩ := put4_of (HK2.out.below HB.out HK2.out.lt) (bt HB1.out HB.out) (by have := HG2.out; omega) hX
  refine bodyPost_ret (v := .tuple #[.agg #[.int .i64 ty, .int .i64 0, .int .i64 0, .slice none 0 0], .int .i64 0]) (by simp [results, Tryd.results29, go_sem, r0, r1, r2, r3]) rfl ⟨?_, hbX⟩
  rw [HO2.out.1, HO2.out.2]
 ·have he2 : (er != 0) = true := by rw [bne_iff_ne]; exact he
  have HO2 : Hid (rk = 0 ∧ re = er) := Lib.hid (by have h := HO.out; clear h; have h := HO3.out; rw [if_pos he] at h; injection h with h1 h2; exact ⟨h1, h2⟩)
  clear he
  go_enter Tryd.func29, Tryd.ntmps29
  go_upto_region 1 with fail
  rw [← HW1.out, ← HG2.out, ← HG1.out]
  try rw [← HZ.out]
  go_upto_region 6 with (first
   | (go_at_call 18; refine (HVP.out _ (Below.refl _ _)).mono ?_; rintro e w2 ⟨rfl, hb2⟩; have HB := Lib.hid hb2; clear hb2 y0 y1 y2 y3 x0 x1 x2 x3 u0 u1 u2 u3 f0 f1 f2 f3; obtain ⟨⟨y0, y1, y2, y3⟩, ⟨x0, x1, x2, x3⟩, ⟨u0, u1, u2, u3⟩, f0, f1, f2, f3⟩ := HKC.out _ HB.out)
   | (go_at_call 62; refine (HVE.out _ HB.out).mono ?_; rintro e w3 ⟨rfl, hb3⟩; replace HB := Lib.hid (bt HB.out hb3); clear hb3 y0 y1 y2 y3 x0 x1 x2 x3 u0 u1 u2 u3 f0 f1 f2 f3; obtain ⟨⟨y0, y1, y2, y3⟩, ⟨x0, x1, x2, x3⟩, ⟨u0, u1, u2, u3⟩, f0, f1, f2, f3⟩ := HKC.out _ HB.out)
   | (go_at_call 63; refine (HSO.out _ HB.out).mono ?_; rintro e w4 ⟨A2, c2, rfl, hsc, hb4⟩; replace HB := Lib.hid (bt HB.out hb4); have HSC := Lib.hid hsc; clear hb4 hsc y0 y1 y2 y3 x0 x1 x2 x3 u0 u1 u2 u3 f0 f1 f2 f3))
  obtain ⟨W5, hW5⟩ : ∃ W, W = w4.alloc (.cells #[.slice A2 nv c2, .slice A nk c, .int .i64 n] 79) := ⟨_, rfl⟩
  obtain ⟨g8, hg8⟩ : ∃ z, z = w4.heap.size := ⟨_, rfl⟩
  have k8 : Blk W5 g8 79 #[.slice A2 nv c2, .slice A nk c, .int .i64 n] := by rw [hW5, hg8]; exact Blk.new _ _ _
  have hb45 : Below w4.heap.size w4 W5 := by rw [hW5]; exact below_new _ _
  rw [← hW5, ← hg8]
  replace HB := Lib.hid (bt HB.out hb45)
  have HSC5 := Lib.hid (HSC.out.next hb45)
  have HK8 := Lib.hid k8
  obtain ⟨s0, s1, s2⟩ : W5.cell? ⟨g8, 0, none⟩ = some (.slice A2 nv c2) ∧ W5.cell? ⟨g8, 1, none⟩ = some (.slice A nk c) ∧ W5.cell? ⟨g8, 2, none⟩ = some (.int .i64 n) := ⟨k8.cell 0, k8.cell 1, k8.cell 2⟩
  obtain ⟨⟨y0, y1, y2, y3⟩, ⟨x0, x1, x2, x3⟩, ⟨u0, u1, u2, u3⟩, f0, f1, f2, f3⟩ := HKC.out _ HB.out
  clear hW5 hg8 k8 hb45
  go_wp2_with (go_at_call 64; refine (HFW.out _ _ _ HB.out HSC5.out).mono ?_; rintro e w6 ⟨A6, c6, rfl, hb6⟩; replace HB := Lib.hid (bt HB.out hb6); have HSC6 := Lib.hid (HSC5.out.next hb6); have HK86 := Lib.hid (HK8.out.below hb6 HK8.out.lt); clear hb6 s0 s1 s2 y0 y1 y2 y3 x0 x1 x2 x3 u0 u1 u2 u3 f0 f1 f2 f3; obtain ⟨⟨y0, y1, y2, y3⟩, ⟨x0, x1, x2, x3⟩, ⟨u0, u1, u2, u3⟩, f0, f1, f2, f3⟩ := HKC.out _ HB.out; obtain ⟨s0, s1, s2⟩ : w6.cell? ⟨g8, 0, none⟩ = some (.slice A2 nv c2) ∧ w6.cell? ⟨g8, 1, none⟩ = some (.slice A nk c) ∧ w6.cell? ⟨g8, 2, none⟩ = some (.int .i64 n) := ⟨HK86.out.cell 0, HK86.out.cell 1, HK86.out.cell 2⟩)
  obtain ⟨X, hX⟩ : ∃ X, X = (((w6.setCell ⟨g2, 0, none⟩ (.int .i64 0)).setCell ⟨g2, 1, none⟩ (.int .i64 0)).setCell ⟨g2, 2, none⟩ (.int .i64 0)).setCell ⟨g2, 3, none⟩ (.slice none 0 0) := ⟨_, rfl⟩
  rw [← hX]
  obtain ⟨⟨r0, r1, r2, r3⟩, hbX⟩ := put4_of (HK2.out.below HB.out HK2.out.lt) (bt HB1.out HB.out) (by have := HG2.out; omega) hX
  refine bodyPost_ret (v := .tuple #[.agg #[.int .i64 0, .int .i64 0, .int .i64 0, .slice none 0 0], .int .i64 er]) (by simp [results, Tryd.results29, go_sem, r0, r1, r2, r3]) rfl ⟨?_, hbX⟩
  rw [HO2.out.1, HO2.out.2]
end Go.Proofs.YtlffmfdjifgfgaaDoor

namespace Go.Proofs.YtlffmfdjifgfgaaDoor.TY
open TR

structure Ext (s s' : Sc) : Prop where
 v : ∀ (i : Nat) (t : T), s.vars[i]? = some t → s'.vars[i]? = some t
 f : ∀ (i : Nat) (u : T), s.funs[i]? = some u → ∃ u', s'.funs[i]? = some u' ∧ u'.n = u.n ∧ u'.kids.take u.n.toNat = u.kids.take u.n.toNat
 c : s.ch ≤ s'.ch
theorem tAt_some {l : List T} {n : Int} {t : T} (h : l[n.toNat]? = some t) : tAt l n = t := by
 unfold tAt; rw [List.getD_eq_getElem?_getD, h]; rfl
theorem vars_ext {s s' : Sc} (h : Ext s s') {n : Int} (h0 : 0 ≤ n) (h1 : ¬ (s.vars.length : Int) ≤ n) : tAt s'.vars n = tAt s.vars n ∧ ¬ (s'.vars.length : Int) ≤ n := by
 have hlt : n.toNat < s.vars.length := by omega
 have e0 := List.getElem?_eq_getElem hlt
 have e := h.v n.toNat _ e0
 have e2 := (List.getElem?_eq_some_iff.1 e).1
 exact ⟨by rw [tAt_some e, tAt_some e0], by omega⟩
theorem funs_ext {s s' : Sc} (h : Ext s s') {n : Int} (h0 : 0 ≤ n) (h1 : ¬ (s.funs.length : Int) ≤ n) : (tAt s'.funs n).n = (tAt s.funs n).n ∧ TY.params s' n = TY.params s n ∧ ¬ (s'.funs.length : Int) ≤ n := by
 have hlt : n.toNat < s.funs.length := by omega
 have e0 := List.getElem?_eq_getElem hlt
 obtain ⟨u', e, e1, e3⟩ := h.f n.toNat _ e0
 have e2 := (List.getElem?_eq_some_iff.1 e).1
 refine ⟨by rw [tAt_some e, tAt_some e0, e1], ?_, by omega⟩
 unfold TY.params
 rw [tAt_some e, tAt_some e0, e1, e3]
theorem node_ext {s s' : Sc} (h : Ext s s') {x : T} (hn : NOk x) (hm : missing s x = false) (hu : misused s x = false) :
  missing s' x = false ∧ misused s' x = false ∧ typeOf s' x = typeOf s x ∧ wants s' x = wants s x := by
 by_cases hv : x.k = 6 ∨ x.k = 7 ∨ x.k = 14 ∨ x.k = 15 ∨ x.k = 21 ∨ x.k = 8 ∨ x.k = 16
 ·have h0 := hn.n (by omega)
  have h1 : ¬ (s.vars.length : Int) ≤ x.n := by
   intro hc
   rcases hv with hk | hk | hk | hk | hk | hk | hk <;> simp [missing, hk] at hm <;> omega
  obtain ⟨e1, e2⟩ := vars_ext h h0 h1
  have em : missing s' x = missing s x := by rcases hv with hk | hk | hk | hk | hk | hk | hk <;> simp [missing, hk, e1, h1, e2]
  have eu : misused s' x = misused s x := by rcases hv with hk | hk | hk | hk | hk | hk | hk <;> simp [misused, hk, e1]
  have en : named s' x = named s x := by unfold named; rw [e1]
  refine ⟨by rw [em]; exact hm, by rw [eu]; exact hu, ?_, ?_⟩
  ·unfold typeOf; rw [em, eu, en]
  ·rcases hv with hk | hk | hk | hk | hk | hk | hk <;> simp [wants, hk, en]
 ·by_cases hf : x.k = 11 ∨ x.k = 23
  ·have h0 := hn.n (by omega)
   have h1 : ¬ (s.funs.length : Int) ≤ x.n := by
    intro hc
    rcases hf with hk | hk <;> simp [missing, hk] at hm <;> omega
   obtain ⟨e1, e2, e3⟩ := funs_ext h h0 h1
   refine ⟨by rcases hf with hk | hk <;> simp [missing, hk] <;> omega, ?_, by rcases hf with hk | hk <;> simp [typeOf, hk], by rcases hf with hk | hk <;> simp [wants, hk, e2]⟩
   rw [← hu]
   rcases hf with hk | hk <;> simp [misused, hk, e1]
  ·have hmis : misused s' x = false := by
    unfold misused
    rw [if_neg (by omega), if_neg (by omega), if_neg (by omega), if_neg (by omega), if_neg (by omega)]
   have hty : typeOf s' x = typeOf s x := by
    unfold typeOf
    by_cases h5 : x.k = 5 ∨ x.k = 10
    ·rw [if_pos h5, if_pos h5]
    ·rw [if_neg h5, if_neg h5]
     by_cases h9 : x.k = 9
     ·rw [if_pos h9, if_pos h9]
     ·rw [if_neg h9, if_neg h9, if_neg (by omega), if_neg (by omega)]
   have hwa : wants s' x = wants s x := by
    have n1 : ¬ (x.k = 14 ∨ x.k = 16) := by omega
    have n2 : ¬ (x.k = 11 ∨ x.k = 23) := hf
    unfold wants
    simp only [n1, n2, if_false]
   refine ⟨?_, hmis, hty, hwa⟩
   unfold missing at hm ⊢
   rw [if_neg (by omega), if_neg (by omega), if_neg (by omega)] at hm ⊢
   by_cases hc : x.k = 12 ∨ x.k = 22
   ·rw [if_pos hc] at hm ⊢
    have := h.c
    simp at hm ⊢
    omega
   ·rw [if_neg hc]
theorem errOf_zero {s : Sc} {x : T} (h : errOf s x = 0) : missing s x = false ∧ misused s x = false ∧ fitB s x.kids (wants s x) = true := by
 unfold errOf at h
 cases hm : missing s x
 ·cases hu : misused s x
  ·cases hb : fitB s x.kids (wants s x)
   ·simp [hm, hu, hb] at h
   ·exact ⟨rfl, rfl, rfl⟩
  ·simp [hm, hu] at h
 ·simp [hm] at h
theorem errOf_of {s : Sc} {x : T} (h1 : missing s x = false) (h2 : misused s x = false) (h3 : fitB s x.kids (wants s x) = true) : errOf s x = 0 := by
 unfold errOf; simp [h1, h2, h3]
theorem zip_ext {s s' : Sc} : ∀ (l : List T) (ks : List Int), (∀ u ∈ l, typeOf s' u = typeOf s u) → List.zipWith (fit1 s') l ks = List.zipWith (fit1 s) l ks
 | [], _, _ => by simp
 | _ :: _, [], _ => by simp
 | u :: l, k :: ks, h => by
  rw [List.zipWith_cons_cons, List.zipWith_cons_cons, zip_ext l ks fun v hv => h v (List.mem_cons_of_mem _ hv)]
  unfold fit1
  rw [h u (List.mem_cons_self ..)]
theorem okW_ext {s s' : Sc} (h : Ext s s') (x : T) (hf : Fit x) (hx : okW s x) : okW s' x := by
 obtain ⟨h1, h2⟩ := (ok_iff s x).1 hx
 refine (ok_iff s' x).2 ⟨?_, fun u hu => okW_ext h u (hf.kids u hu) (h2 u hu)⟩
 obtain ⟨e1, e2, e3⟩ := errOf_zero h1
 obtain ⟨f1, f2, f3, f4⟩ := node_ext h (nok_of hf) e1 e2
 refine errOf_of f1 f2 ?_
 rw [f4]
 unfold fitB at e3 ⊢
 rw [zip_ext x.kids _ fun u hu => ?_]
 ·exact e3
 ·obtain ⟨g1, g2, _⟩ := errOf_zero ((ok_iff s u).1 (h2 u hu)).1
  exact (node_ext h (nok_of (hf.kids u hu)) g1 g2).2.2.1
 termination_by x
 decreasing_by exact kid_lt hu
end Go.Proofs.YtlffmfdjifgfgaaDoor.TY
namespace Go.Proofs.YtlffmfdjifgfgaaDoor
open TR TY

theorem chk_ofM {q : T} (hq : isProg q = true) (hk : ∀ v ∈ q.kids, okW (scO q v) v) : chk q = ([], 0) := by
 unfold chk; rw [if_pos hq]; exact chkL_ok _ _ _ hk
theorem okW_of_chkL2 (p : T) : ∀ (l : List T) (i : Nat), (chkL p l i).2 = 0 → ∀ u ∈ l, okW (scO p u) u
 | [], _, _, u, hu => by simp at hu
 | y :: l, i, h, u, hu => by
  rw [chkL] at h
  by_cases hy : (firstW (scO p y) y).2 = 0
  ·rw [if_neg (by simpa using hy)] at h
   rcases List.mem_cons.1 hu with rfl | hu
   ·exact hy
   ·exact okW_of_chkL2 p l (i + 1) h u hu
  ·rw [if_pos hy] at h
   exact absurd h hy
theorem okk_of {p : T} (hp : Fine p) : ∀ u ∈ p.kids, okW (scO p u) u := by
 have h := hp.chk
 unfold chk at h
 rw [if_pos hp.prog] at h
 exact okW_of_chkL2 p p.kids 0 (by rw [h])
def moreF (u t b : T) (vs : List T) : T := ⟨26, u.n, 0, (vs ++ [t]) ++ [b]⟩
theorem more_var {p u t b : T} {vs : List T} {k : Nat} (hp : Fine p) (hu : p.kids[k]? = some u) (hv : u.kids = vs ++ [b]) (ht : isType t = true) (hq : isProg ⟨p.k, p.n, p.m, p.kids.set k (moreF u t b vs)⟩ = true) : chk ⟨p.k, p.n, p.m, p.kids.set k (moreF u t b vs)⟩ = ([], 0) := by
 have hmem := List.mem_of_getElem? hu
 have hpk := prog_kid hp.prog hmem
 have hul : u.kids.length = vs.length + 1 := by rw [hv]; simp
 have hlt : k < p.kids.length := (List.getElem?_eq_some_iff.1 hu).1
 have hf : ∀ (i : Nat) (x : T), p.kids[i]? = some x → ∃ u', (p.kids.set k (moreF u t b vs))[i]? = some u' ∧ u'.n = x.n ∧ u'.kids.take x.n.toNat = x.kids.take x.n.toNat := fun i x hx => by
  by_cases hi : k = i
  ·subst hi
   obtain rfl : u = x := Option.some.inj (hu.symm.trans hx)
   refine ⟨moreF u t b vs, by rw [List.getElem?_set, if_pos rfl, if_pos hlt], rfl, ?_⟩
   have h1 := hpk.n1
   show ((vs ++ [t]) ++ [b]).take u.n.toNat = u.kids.take u.n.toNat
   rw [hv, List.append_assoc, List.take_append_of_le_length (by omega), List.take_append_of_le_length (by omega)]
  ·exact ⟨x, by rw [List.getElem?_set, if_neg hi]; exact hx, rfl, rfl⟩
 refine chk_ofM hq fun v hvm => ?_
 rcases List.mem_or_eq_of_mem_set hvm with h | h
 ·exact okW_ext (s := scO p v) (s' := scO ⟨p.k, p.n, p.m, p.kids.set k (moreF u t b vs)⟩ v) ⟨fun i x hx => hx, hf, Int.le_refl _⟩ v (prog_kid hp.prog h).fit (okk_of hp v h)
 ·subst h
  have hext : Ext (scO p u) (scO ⟨p.k, p.n, p.m, p.kids.set k (moreF u t b vs)⟩ (moreF u t b vs)) := by
   refine ⟨fun i x hx => ?_, hf, Int.le_refl _⟩
   have hx2 : (u.kids.take (u.kids.length - 1))[i]? = some x := hx
   rw [hv] at hx2
   simp only [List.length_append, List.length_cons, List.length_nil, Nat.zero_add, Nat.add_sub_cancel, List.take_left] at hx2
   show (((vs ++ [t]) ++ [b]).take (((vs ++ [t]) ++ [b]).length - 1))[i]? = some x
   have hi := (List.getElem?_eq_some_iff.1 hx2).1
   rw [List.getElem?_take, if_pos (by simp; omega), List.append_assoc, List.getElem?_append_left hi]
   exact hx2
  have hok := (ok_iff _ u).1 (okk_of hp u hmem)
  refine (ok_iff _ _).2 ⟨by simp [errOf, missing, misused, wants, fitB, moreF], fun x hx => ?_⟩
  have hx2 : x ∈ (vs ++ [t]) ++ [b] := hx
  rcases List.mem_append.1 hx2 with h1 | h1
  ·rcases List.mem_append.1 h1 with h2 | h2
   ·have h3 : x ∈ u.kids := by rw [hv]; exact List.mem_append_left _ h2
    exact okW_ext hext x (hpk.fit.kids x h3) (hok.2 x h3)
   ·simp at h2; subst h2; exact type_ok _ ht
  ·have h3 : x ∈ u.kids := by rw [hv]; exact List.mem_append_right _ h1
   exact okW_ext hext x (hpk.fit.kids x h3) (hok.2 x h3)
theorem more_fun {p u : T} (hp : Fine p) (hu : u ∈ p.kids) (hq : isProg ⟨p.k, p.n, p.m, p.kids ++ [u]⟩ = true) : chk ⟨p.k, p.n, p.m, p.kids ++ [u]⟩ = ([], 0) := by
 refine chk_ofM hq fun v hvm => ?_
 have hv : v ∈ p.kids := by
  rcases List.mem_append.1 (show v ∈ p.kids ++ [u] from hvm) with h | h
  ·exact h
  ·simp at h; rw [h]; exact hu
 refine okW_ext (s := scO p v) (s' := scO ⟨p.k, p.n, p.m, p.kids ++ [u]⟩ v) ⟨fun i x hx => hx, fun i x hx => ⟨x, ?_, rfl, rfl⟩, Int.le_refl _⟩ v (prog_kid hp.prog hv).fit (okk_of hp v hv)
 show (p.kids ++ [u])[i]? = some x
 have hx2 : p.kids[i]? = some x := hx
 rw [List.getElem?_append_left (List.getElem?_eq_some_iff.1 hx2).1]; exact hx2
theorem more_chan {p : T} (hp : Fine p) (hq : isProg ⟨p.k, p.n + 1, p.m, p.kids⟩ = true) : chk ⟨p.k, p.n + 1, p.m, p.kids⟩ = ([], 0) :=
 chk_ofM hq fun v hv => okW_ext (s := scO p v) (s' := scO ⟨p.k, p.n + 1, p.m, p.kids⟩ v) ⟨fun _ _ hx => hx, fun _ x hx => ⟨x, hx, rfl, rfl⟩, by show p.n ≤ p.n + 1; omega⟩ v (prog_kid hp.prog hv).fit (okk_of hp v hv)
end Go.Proofs.YtlffmfdjifgfgaaDoor

namespace Go.Proofs.YtlffmfdjifgfgaaDoor
open Go.RowKit WM TR TY

def es (t : T) : List T := (if isEx t.k = true then [t] else []) ++ (t.kids.attach.map fun u => es u.1).flatten
 termination_by t
 decreasing_by exact kid_lt u.2
theorem es_eq (t : T) : es t = (if isEx t.k = true then [t] else []) ++ (t.kids.map es).flatten := by
 rw [es]
 congr 2
 exact List.attach_map_val (f := es)
theorem es_mem {t e : T} (h : e ∈ es t) : (e = t ∧ isEx t.k = true) ∨ ∃ u ∈ t.kids, e ∈ es u := by
 rw [es_eq] at h
 rcases List.mem_append.1 h with h | h
 ·by_cases hx : isEx t.k = true
  ·rw [if_pos hx] at h; simp at h; exact .inl ⟨h, hx⟩
  ·rw [if_neg hx] at h; simp at h
 ·obtain ⟨l, hl, he⟩ := List.mem_flatten.1 h
  obtain ⟨u, hu, rfl⟩ := List.mem_map.1 hl
  exact .inr ⟨u, hu, he⟩
theorem es_len (t : T) : (es t).length ≤ size t := by
 rw [es_eq, size_eq, List.length_append]
 have h : ∀ l : List T, (∀ u ∈ l, u ∈ t.kids) → ((l.map es).flatten).length ≤ (l.map size).sum := by
  intro l
  induction l with
  | nil => intro _; simp
  | cons u l ih =>
   intro hl
   have h1 := es_len u
   have h2 := ih fun v hv => hl v (List.mem_cons_of_mem _ hv)
   simp only [List.map_cons, List.flatten_cons, List.length_append, List.sum_cons]
   omega
 have h1 := h t.kids fun u hu => hu
 have h2 : (if isEx t.k = true then [t] else ([] : List T)).length ≤ 1 := by split <;> simp
 omega
 termination_by t
 decreasing_by exact kid_lt (hl u (List.mem_cons_self ..))
theorem depth_mem {t u : T} (h : u ∈ t.kids) : depth u < depth t := by
 obtain ⟨i, hi⟩ := List.mem_iff_getElem?.1 h
 exact depth_kid hi
theorem size_mem {t u : T} (h : u ∈ t.kids) : size u < size t := by
 obtain ⟨i, hi⟩ := List.mem_iff_getElem?.1 h
 exact size_kid hi
theorem es_sub (t e : T) (h : e ∈ es t) : size e ≤ size t ∧ depth e ≤ depth t ∧ isEx e.k = true ∧ (Fit t → Fit e) ∧ (∀ s, okW s t → okW s e) := by
 rcases es_mem h with ⟨rfl, hx⟩ | ⟨u, hu, he⟩
 ·exact ⟨Nat.le_refl _, Nat.le_refl _, hx, id, fun _ h => h⟩
 ·obtain ⟨h1, h2, h3, h4, h5⟩ := es_sub u e he
  have := size_mem hu
  have := depth_mem hu
  exact ⟨by omega, by omega, h3, fun hf => h4 (hf.kids u hu), fun s hs => h5 s (((ok_iff s t).1 hs).2 u hu)⟩
 termination_by t
 decreasing_by exact kid_lt hu
theorem isEx_iff {k : Int} : isEx k = true ↔ 4 ≤ k ∧ k ≤ 12 := by unfold isEx; simp
theorem wrap_ok {e : T} (hk : isEx e.k = true) (hf : Fit e) (hs : size e + 4 ≤ 256) (hd : depth e + 4 ≤ 16) : isProg (wrapN 4 e) = true := by
 have he : isExpr e = true := (agree e).ex.2 ⟨isEx_iff.1 hk, hf⟩
 have h1 : isStmt (wrapN 1 e) = true := by
  rw [isStmt_eq]; simp [wrapN, wk, stmtOf, he, btw]
 have h2 : isBlock (wrapN 2 e) = true := by
  rw [isBlock_eq]
  have hk : (wrapN 2 e).kids = [wrapN 1 e] := rfl
  rw [hk]
  have h1' : isStmt ⟨19, 0, 0, [e]⟩ = true := h1
  simp [btw, wrapN, wk, h1']
 have h3 : isFun (wrapN 3 e) = true := by
  refine isFun_true ⟨rfl, by simp [btw, wrapN, wk], by simp [wrapN, wk], fun i u hi hu => ?_, fun u hu => ?_⟩
  ·have hi2 : i + 1 < 1 := hi
   omega
  ·have hu2 : ([wrapN 2 e] : List T)[1 - 1]? = some u := hu
   simp at hu2
   rw [← hu2]; exact h2
 refine isProg_true ⟨rfl, by simp [btw, wrapN, wk], by rw [wrap_size]; exact hs, ?_, fun i u hu => ?_⟩
 ·have hd1 : ∀ j, depth (wrapN j e) = depth e + j := by
   intro j
   induction j with
   | zero => rfl
   | succ j ih => rw [depth_eq]; simp [wrapN, ih]; omega
  rw [hd1]; exact hd
 ·have hu2 : ([wrapN 3 e] : List T)[i]? = some u := hu
  have hi : i = 0 := by have := (List.getElem?_eq_some_iff.1 hu2).1; simp at this; exact this
  subst hi
  simp at hu2
  rw [← hu2]; exact h3
theorem es_body {p u x e : T} (hp : isProg p = true) (hu : u ∈ p.kids) (hx : u.kids[u.kids.length - 1]? = some x) (he : e ∈ es x) : isProg (wrapN 4 e) = true ∧ Fit e := by
 have hpp : IsProg p := by unfold isProg at hp; simpa using hp
 have hfit := ((prog_iff p).1 hpp).2.2.2
 obtain ⟨i, hi⟩ := List.mem_iff_getElem?.1 hu
 have hfu : IsFun u := by have h := hpp.2.2.2.2 i u hi; unfold isFun at h; simpa using h
 have hb : isBlock x = true := hfu.2.2.2.2 x hx
 have hxm := List.mem_of_getElem? hx
 rw [isBlock_eq] at hb
 simp only [Bool.and_eq_true, beq_iff_eq] at hb
 have hfx : Fit x := (hfit.kids u hu).kids x hxm
 have hfe := (es_sub x e he).2.2.2.1 hfx
 have hke := (es_sub x e he).2.2.1
 rcases es_mem he with ⟨rfl, h⟩ | ⟨v, hv, hev⟩
 ·have := isEx_iff.1 h; omega
 ·have hsv : isStmt v = true := List.all_eq_true.1 hb.2 v hv
  have hkv := ((agree v).st.1 hsv).1
  rcases es_mem hev with ⟨rfl, h⟩ | ⟨v', hv', hev'⟩
  ·have := isEx_iff.1 h; omega
  ·have h := es_sub v' e hev'
   have s1 := size_mem hv'; have s2 := size_mem hv; have s3 := size_mem hxm; have s4 := size_mem hu
   have d1 := depth_mem hv'; have d2 := depth_mem hv; have d3 := depth_mem hxm; have d4 := depth_mem hu
   have hsz := hpp.2.2.1
   have hdp := hpp.2.2.2.1
   exact ⟨wrap_ok hke hfe (by omega) (by omega), hfe⟩
theorem named_range {p u : T} (hfu : IsFun u) {e : T} (hf : Fit e) (hok : okW (scO p u) e) (hk : e.k = 6 ∨ e.k = 8) : named (scO p u) e = 0 ∨ named (scO p u) e = 1 := by
 obtain ⟨h1, h2, _⟩ := errOf_zero ((ok_iff _ e).1 hok).1
 have hno := nok_of hf
 have h0 := hno.n (by omega)
 rcases hk with hk | hk
 ·simp [misused, hk, scal] at h2
  unfold named
  rw [if_neg (by omega)]
  omega
 ·simp [misused, hk] at h2
  simp [missing, hk, h2] at h1
  unfold named
  rw [if_pos h2]
  obtain ⟨hl, hm⟩ := h1
  have hm0 := hno.m
  have hlt : e.n.toNat < (scO p u).vars.length := by omega
  have e0 := List.getElem?_eq_getElem hlt
  rw [tAt_some e0] at hm h2 ⊢
  obtain ⟨t, ht⟩ : ∃ t, t = (scO p u).vars[e.n.toNat] := ⟨_, rfl⟩
  rw [← ht] at hm h2 e0 ⊢
  have hty : isType t = true := by
   have e1 : (u.kids.take (u.kids.length - 1))[e.n.toNat]? = some t := e0
   rw [List.getElem?_take] at e1
   split at e1
   ·rename_i hlt2
    exact (hfu.2.2.2.1 e.n.toNat t (by omega) e1).1
   ·cases e1
  unfold isType at hty
  rw [if_neg (by simp [h2]), if_pos (by simpa using h2)] at hty
  simp only [Bool.and_eq_true] at hty
  have hlt3 : e.m.toNat < t.kids.length := by omega
  have e3 := List.getElem?_eq_getElem hlt3
  rw [tAt_some e3]
  have hpl := List.all_eq_true.1 hty.2 _ (List.mem_of_getElem? e3)
  unfold isPlain at hpl
  simp at hpl
  omega
theorem type_range01 {p u : T} (hfu : IsFun u) {e : T} (hf : Fit e) (hok : okW (scO p u) e) : typeOf (scO p u) e = 0 ∨ typeOf (scO p u) e = 1 := by
 obtain ⟨h1, h2, _⟩ := errOf_zero ((ok_iff _ e).1 hok).1
 unfold typeOf
 by_cases h5 : e.k = 5 ∨ e.k = 10
 ·rw [if_pos h5]; exact .inr rfl
 ·rw [if_neg h5]
  by_cases h9 : e.k = 9
  ·rw [if_pos h9]; split
   ·exact .inr rfl
   ·exact .inl rfl
  ·rw [if_neg h9]
   by_cases h6 : e.k = 6 ∨ e.k = 8
   ·rw [if_pos h6, h1, h2]
    exact named_range hfu hf hok h6
   ·rw [if_neg h6]; exact .inl rfl
theorem of_good {p u x e : T} {f : Nat} (hp : isProg p = true) (hu : p.kids[f]? = some u) (hx : u.kids[u.kids.length - 1]? = some x) (he : e ∈ es x) :
  ((chk p).2 = 0 → (ofK p f e).2 = 0) ∧ ((ofK p f e).2 = 0 → (ofK p f e).1 = 0 ∨ (ofK p f e).1 = 1) := by
 have hum := List.mem_of_getElem? hu
 obtain ⟨hw, hfe⟩ := es_body hp hum hx he
 have hlt := (List.getElem?_eq_some_iff.1 hu).1
 have hpp : IsProg p := by have h := hp; unfold isProg at h; simpa using h
 have hfu : IsFun u := by have h := hpp.2.2.2.2 f u hu; unfold isFun at h; simpa using h
 have e1 : ofK p f e = if (firstW (scO p u) e).2 ≠ 0 then (0, (firstW (scO p u) e).2) else (typeOf (scO p u) e, 0) := by
  unfold ofK
  rw [if_neg (by simp [hp]), if_neg (by simp [hw]), if_neg (by omega), tAt_j hu]
 rw [e1]
 refine ⟨fun hc => ?_, fun h0 => ?_⟩
 ·unfold chk at hc
  rw [if_pos hp] at hc
  have h1 := okW_of_chkL2 p p.kids 0 hc u hum
  have h2 := ((ok_iff _ u).1 h1).2 x (List.mem_of_getElem? hx)
  have h3 : (firstW (scO p u) e).2 = 0 := (es_sub x e he).2.2.2.2 _ h2
  rw [if_neg (by simpa using h3)]
 ·by_cases h3 : (firstW (scO p u) e).2 = 0
  ·rw [if_neg (by simpa using h3)]
   exact type_range01 hfu hfe h3
  ·rw [if_pos h3] at h0
   exact absurd h0 h3
end Go.Proofs.YtlffmfdjifgfgaaDoor

namespace Go.Proofs.YtlffmfdjifgfgaaDoor
open Go.RowKit WM TR TY

theorem wpAnyH_key {P : Program} {md : Region.Mode} {ops : Array Oper} {Q : Exit → Act → World → Prop} {S : World → Prop} {fuel0 : Nat} {L0 : Array Bool} {a0 : Act} {w0 : World} (fuel : Nat) (L : Array Bool) (Inv : Act → Act → World → Prop)
  (key : ∀ a w, Inv a0 a w → wpAnyH P md ops Q S fuel L a w) (cont : (∀ a w, Inv a0 a w → wpAnyH P md ops Q S fuel L a w) → wpAnyH P md ops Q S fuel0 L0 a0 w0) : wpAnyH P md ops Q S fuel0 L0 a0 w0 := cont key

theorem Rep.tight {w : World} {S : Nat → Prop} : ∀ {D d : Nat} {t : T} {cs : List Value}, Rep w S D t cs → depth t ≤ d → Rep w S d t cs
 | 0, _, _, _, h, _ => h.elim
 | D + 1, 0, t, _, _, hd => by have := depth_eq t; omega
 | D + 1, d + 1, t, _, ⟨A, c, xs, h1, h2, h3, h4, h5⟩, hd => ⟨A, c, xs, h1, h2, h3, h4, fun i u hu => Rep.tight (h5 i u hu) (by have := depth_kid hu; omega)⟩
theorem Reps.app {w : World} {S : Nat → Prop} {d : Nat} {ts us : List T} {xs ys : List Value} (h : Reps w S d ts xs) (k : Reps w S d us ys) : Reps w S d (ts ++ us) (xs ++ ys) := by
 refine ⟨by rw [List.length_append, List.length_append, h.1, k.1]; omega, fun i u hu => ?_⟩
 by_cases hi : i < ts.length
 ·rw [List.getElem?_append_left hi] at hu
  have := h.2 i u hu
  rw [List.drop_append_of_le_length (by rw [h.1]; omega), List.take_append_of_le_length (by rw [List.length_drop, h.1]; omega)]
  exact this
 ·rw [List.getElem?_append_right (by omega)] at hu
  have := k.2 _ u hu
  have e : (xs ++ ys).drop (i * 4) = ys.drop ((i - ts.length) * 4) := by
   rw [List.drop_append, List.drop_eq_nil_of_le (by rw [h.1]; omega), List.nil_append]
   congr 1
   rw [h.1]; omega
  rw [e]; exact this
structure AR (B0 B D : Nat) (w : World) (v : Value) (ts : List T) (xs : List Value) : Prop where
 own : w.ownsRow B 25 4 v ts.length xs
 reps : Reps w (Lt B0) D ts xs
 le : B0 ≤ B
theorem AR.nil {B0 B D : Nat} {w : World} (h : B0 ≤ B) : AR B0 B D w (.slice none 0 0) [] [] := ⟨World.ownsRow_nil _ _ _ _, Reps.nil, h⟩
theorem AR.later {B0 B D : Nat} {w w' : World} {v : Value} {ts : List T} {xs : List Value} (h : AR B0 B D w v ts xs) (hB : B ≤ w.heap.size) (hb : Below w.heap.size w w') : AR B0 B D w' v ts xs :=
 ⟨ownsRow_below h.own hb, h.reps.keep (Keeps.below (fun b (hb : b < B0) => by have := h.le; omega) hb), h.le⟩
theorem below_gwB {B : Nat} {a w w' : World} {row : Option Nat} (hb : Below B a w) (h : w.grownBy w' row) (hB : B ≤ w.heap.size) (hr : ∀ b, row = some b → B ≤ b) : Below B a w' :=
 ⟨h.os.trans hb.os, h.tape.trans hb.tape, h.output.trans hb.output, Nat.le_trans hb.size h.size, fun i hi => (h.block i (Nat.lt_of_lt_of_le hi hB) (fun e => by have := hr i e.symm; omega)).trans (hb.block i hi)⟩
theorem AR.put {B0 B D m : Nat} {w w' : World} {v v' : Value} {ts us : List T} {xs ys : List Value} (h : AR B0 B D w v ts xs) (hB : B ≤ w.heap.size) (hu : Reps w (Lt B0) D us ys) (hm : us.length = m) (hown : w'.ownsRow B 25 4 v' (ts.length + m) (xs ++ ys)) (hg : w.grownBy w' v.ownBlock) : AR B0 B D w' v' (ts ++ us) (xs ++ ys) ∧ Below B w w' := by
 have hb : Below B w w' := below_gwB (Below.refl _ _) hg hB fun b e => (h.own.lt b e).1
 exact ⟨⟨by rw [List.length_append, hm]; exact hown, (h.reps.app hu).keep (Keeps.below (fun b (hb : b < B0) => Nat.lt_of_lt_of_le hb h.le) hb), h.le⟩, hb⟩
theorem AR.rep {B0 B D c : Nat} {w : World} {A : Option Addr} {ts : List T} {xs : List Value} {k n m : Int} (h : AR B0 B D w (.slice A ts.length c) ts xs) (hB : B ≤ w.heap.size) (hk : inRange k) (hn : inRange n) (hm : inRange m) : Rep w (Lt w.heap.size) (D + 1) ⟨k, n, m, ts⟩ (nd ⟨k, n, m, ts⟩ A c) := by
 obtain ⟨A', c', e, hc⟩ := own_len h.own
 injection e with _ _ e3
 exact Rep.mk hk hn hm (by omega) ((Rd.of_own h.own).mono fun b hb => hb.2) (h.reps.mono fun b (hb : b < B0) => by have := h.le; show b < _; omega)
theorem AR.store {B0 B D g i : Nat} {w : World} {v u : Value} {ts : List T} {xs : List Value} (h : AR B0 B D w v ts xs) (h0 : B0 ≤ g) (hg : g < B) : AR B0 B D (w.setCell ⟨g, i, none⟩ u) v ts xs :=
 ⟨ownsRow_setCell_below h.own hg u, h.reps.keep (Keeps.setCell (Keeps.refl _ _) (fun (hb : g < B0) => by omega) u), h.le⟩
theorem reps_oneM {w : World} {S : Nat → Prop} {d : Nat} {ts : List T} {xs : List Value} (h : Reps w S d ts xs) : ∀ v ∈ xs, v.oneCell' = true := by
 intro v hv
 obtain ⟨i, hi, rfl⟩ := List.getElem_of_mem hv
 have h1 := h.1
 obtain ⟨u, hu⟩ : ∃ u, ts[i / 4]? = some u := ⟨_, List.getElem?_eq_getElem (by omega)⟩
 obtain ⟨A, c, e, _⟩ := (h.2 _ u hu).form
 have hm : xs[i] ∈ nd u A c := by
  rw [← e]
  refine List.mem_of_getElem? (i := i % 4) ?_
  rw [List.getElem?_take, if_pos (by omega), List.getElem?_drop, show i / 4 * 4 + i % 4 = i by omega]
  exact List.getElem?_eq_getElem hi
 exact nd_one u A c _ hm
theorem int_readsM (w : World) (x : Int) : Reads (w.alloc (.cells #[.int .i64 x] 3)) (w.heap.size + 1) 1 (some ⟨w.heap.size, 0, none⟩) 1 (vi [x]) :=
 ⟨rfl, fun _ => ⟨_, rfl, Nat.lt_succ_self _, fun j u hu => by rw [Addr.add_lit, Nat.zero_add, (Blk.new w _ _).cell, List.getElem?_toArray]; exact hu⟩⟩
theorem sum_set (f : T → Nat) (x : T) : ∀ (l : List T) (k : Nat), ((l.set k x).map f).sum ≤ (l.map f).sum + f x
 | [], _ => by simp
 | a :: l, 0 => by simp only [List.set_cons_zero, List.map_cons, List.sum_cons]; omega
 | a :: l, k + 1 => by have := sum_set f x l k; simp only [List.set_cons_succ, List.map_cons, List.sum_cons]; omega
theorem set_kid {p u x : T} {k : Nat} (hu : p.kids[k]? = some u) : set? [(k : Int)] p x = some ⟨p.k, p.n, p.m, p.kids.set k x⟩ := by
 simp only [set?]
 rw [if_neg (by omega), Int.toNat_natCast, hu]
end Go.Proofs.YtlffmfdjifgfgaaDoor

namespace Go.Proofs.YtlffmfdjifgfgaaDoor
open Go.RowKit WM TR TY

attribute [local go_sem ↓ high] shutApN
theorem apM_run {W : World} {base n c : Nat} {A : Option Addr} {xs : List Value} {B m c2 : Nat} {A2 : Option Addr} {ys : List Value} (ho : W.ownsRow base 25 4 (.slice A n c) n xs) (hr : Reads W B 4 A2 m ys) (h1 : ∀ u ∈ ys, u.oneCell' = true) (hb : base ≤ W.heap.size) (hn : n + m ≤ 1000000) :
  ∃ (A' : Option Addr) (c' : Nat) (w' : World), (apN #[23, 23] 23 #[.slice A n c, .slice A2 m c2]).run Tryd.prog W = .ok (.slice A' (n + m) c') w' ∧ w'.ownsRow base 25 4 (.slice A' (n + m) c') (n + m) (xs ++ ys) ∧ W.grownBy w' (Value.slice A n c).ownBlock := by
 obtain ⟨i0, hi, hz0, hz1, hz2⟩ := info_parts node_info
 obtain ⟨v1, w1, happ, hown, hgrow, _⟩ := run_append_any (P := Tryd.prog) W base 23 23 25 i0 _ 4 48 Tryd.underlying23 hi hz0 hz1 hz2 rfl (by omega) (.slice A n c) n xs ho B A2 m c2 ys hr h1 (len_le (by omega)) (by omega) hb
 obtain ⟨A', c', rfl, _⟩ := own_len hown
 exact ⟨A', c', w1, happ, hown, hgrow⟩
theorem reps_rdB {w : World} {B n c : Nat} {A : Option Addr} {xs : List Value} (h : w.ownsRow B 25 4 (.slice A n c) n xs) : Reads w w.heap.size 4 A n xs :=
 ((Rd.of_own h).mono fun b hb => hb.2).reads (In.lt _)
theorem flat_next {l : List T} {j : Nat} {u : T} (h : l[j]? = some u) : ((l.take (j + 1)).map es).flatten = ((l.take j).map es).flatten ++ es u := by
 rw [List.take_add_one, h]; simp
theorem flat_len (l : List T) (j : Nat) : (((l.take j).map es).flatten).length ≤ (l.map size).sum := by
 induction l generalizing j with
 | nil => simp
 | cons u l ih =>
  cases j with
  | zero => simp
  | succ j =>
   have h1 := es_len u
   have h2 := ih j
   simp only [List.take_succ_cons, List.map_cons, List.flatten_cons, List.length_append, List.sum_cons]
   omega
theorem ap0_run {W : World} (t : T) (A : Option Addr) (c base : Nat) (hb : base ≤ W.heap.size) :
  ∃ (A' : Option Addr) (c' : Nat) (w' : World), (apN #[23, 23] 23 #[.slice none 0 0, .slice (some ⟨W.heap.size, 0, none⟩) 1 1]).run Tryd.prog (W.alloc (.cells #[.int .i64 t.k, .int .i64 t.n, .int .i64 t.m, .slice A t.kids.length c] 25)) = .ok (.slice A' 1 c') w' ∧ w'.ownsRow base 25 4 (.slice A' 1 c') 1 (nd t A c) ∧ (W.alloc (.cells #[.int .i64 t.k, .int .i64 t.n, .int .i64 t.m, .slice A t.kids.length c] 25)).grownBy w' none := by
 obtain ⟨A', c', w', h1, h2, h3⟩ := apM_run (W := W.alloc (.cells #[.int .i64 t.k, .int .i64 t.n, .int .i64 t.m, .slice A t.kids.length c] 25)) (base := base) (n := 0) (c := 0) (A := none) (xs := []) (m := 1) (c2 := 1) (World.ownsRow_nil _ _ _ _) (lit_reads (t := t) (A := A) (c := c) (Blk.new_at _ _ rfl rfl)) (nd_one t A c) (by rw [size_alloc]; omega) (by omega)
 exact ⟨A', c', w', h1, h2, h3⟩
def ExPost (S : Nat → Prop) (d : Nat) (t : T) (w : World) (e : Ending) (w' : World) : Prop :=
 ∃ (A' : Option Addr) (c' : Nat) (xs : List Value), e = .returned (.slice A' (es t).length c') ∧ w'.ownsRow w.heap.size 25 4 (.slice A' (es t).length c') (es t).length xs ∧ Reps w' S d (es t) xs ∧ Below w.heap.size w w'
set_option maxRecDepth 100000 in
set_option maxHeartbeats 8000000 in
theorem exprsL_is : ∀ (d : Nat) (t : T) (S : Nat → Prop) (A : Option Addr) (c : Nat) (w : World), Rep w S d t (nd t A c) → In S w.heap.size → size t ≤ 100000 →
  Calls Tryd.prog 36 #[.agg #[.int .i64 t.k, .int .i64 t.n, .int .i64 t.m, .slice A t.kids.length c]] w (ExPost S d t w) := by
 intro d
 induction d with
 | zero => intro t S A c w h; exact h.elim
 | succ d ih =>
 intro t S A c w ht hin hst
 have hkl : t.kids.length ≤ 100000 := by have := kids_lt t; omega
 obtain ⟨l, hl⟩ : ∃ l, l = t.kids.length := ⟨_, rfl⟩
 rw [← hl] at hkl ⊢
 have HT := Lib.hid ht
 have HI := Lib.hid hin
 have HL := Lib.hid hl
 have HST := Lib.hid hst
 have HIH := Lib.hid ih
 obtain ⟨z, hz⟩ : ∃ z, z = w.heap.size := ⟨_, rfl⟩
 obtain ⟨W0, hW0⟩ : ∃ W0, W0 = w.alloc (.cells #[.int .i64 t.k, .int .i64 t.n, .int .i64 t.m, .slice A l c] 25) := ⟨_, rfl⟩
 have HBK : Hid (Blk W0 z 25 #[.int .i64 t.k, .int .i64 t.n, .int .i64 t.m, .slice A l c]) := Lib.hid (by rw [hW0, hz]; exact Blk.new _ _ _)
 have HB0 : Hid (Below w.heap.size w W0) := Lib.hid (by rw [hW0]; exact below_new _ _)
 have HZ0 : Hid (W0.heap.size = z + 1) := Lib.hid (by rw [hW0, size_alloc, hz])
 have HW0 := Lib.hid hW0
 have HZ := Lib.hid hz
 have HRX : Hid (∀ W, Below W0.heap.size W0 W → Calls Tryd.prog 28 #[.agg #[.int .i64 t.k, .int .i64 t.n, .int .i64 t.m, .slice A l c]] W fun e w' => e = .returned (.bool (isEx t.k)) ∧ Below W.heap.size W w') := Lib.hid fun W _ => rexpr_is t A l c W
 obtain ⟨x0, x1, x2, x3⟩ : W0.cell? ⟨z, 0, none⟩ = some (.int .i64 t.k) ∧ W0.cell? ⟨z, 1, none⟩ = some (.int .i64 t.n) ∧ W0.cell? ⟨z, 2, none⟩ = some (.int .i64 t.m) ∧ W0.cell? ⟨z, 3, none⟩ = some (.slice A l c) := ⟨HBK.out.cell 0, HBK.out.cell 1, HBK.out.cell 2, HBK.out.cell 3⟩
 obtain ⟨b, hb⟩ : ∃ b, b = isEx t.k := ⟨_, rfl⟩
 obtain ⟨pre, hpre⟩ : ∃ p : List T, p = if isEx t.k = true then [t] else [] := ⟨_, rfl⟩
 have hpl : pre.length ≤ 1 := by rw [hpre]; split <;> simp
 have HES : Hid (es t = pre ++ (t.kids.map es).flatten) := Lib.hid (by rw [hpre]; exact es_eq t)
 rw [← hb] at HRX hpre
 have HPRE := Lib.hid hpre
 clear ht hin hl hst ih hW0 hz hpre hb
 go_enter Tryd.func36, Tryd.ntmps36
 have HLOOP : Hid (∀ W, Below W0.heap.size W0 W → W.cell? ⟨z, 3, none⟩ = some (.slice A l c)) := Lib.hid fun W hb => (HBK.out.below hb HBK.out.lt).cell 3
 have HBX : Hid (∀ W, Below W0.heap.size W0 W → (W.cell? ⟨z, 0, none⟩ = some (.int .i64 t.k) ∧ W.cell? ⟨z, 1, none⟩ = some (.int .i64 t.n) ∧ W.cell? ⟨z, 2, none⟩ = some (.int .i64 t.m) ∧ W.cell? ⟨z, 3, none⟩ = some (.slice A l c))) := Lib.hid fun W hb => by
  have h := HBK.out.below hb HBK.out.lt
  exact ⟨h.cell 0, h.cell 1, h.cell 2, h.cell 3⟩
 cases b with
 | false =>
  have hpn : pre = [] := by rw [HPRE.out]; rfl
  go_upto_region 2 with fail
  rw [← HW0.out, ← HZ.out]
  go_wp2_with (go_at_call 28; refine (HRX.out _ (Below.refl _ _)).mono ?_; rintro e w3 ⟨rfl, hb1⟩; have HBW3 := Lib.hid hb1; clear hb1)
  obtain ⟨A3, c3, xs3, hA3, HO3, HR3⟩ : ∃ (A3 : Option Addr) (c3 : Nat) (xs3 : List Value), Value.slice none 0 0 = .slice A3 pre.length c3 ∧ Hid (w3.ownsRow W0.heap.size 25 4 (.slice A3 pre.length c3) pre.length xs3) ∧ Hid (Reps w3 S (d + 1) pre xs3) := by
   rw [hpn]
   exact ⟨none, 0, [], rfl, World.ownsRow_nil _ _ _ _, Reps.nil⟩
  rw [hA3]
  clear hA3 x0 x1 x2 x3 hpn
  go_loopw [3, 4] (fun o i wr => ∃ (j n4 : Nat) (A4 : Option Addr) (c4 : Nat) (ys : List Value), j ≤ l ∧ o = .slice A4 n4 c4 ∧ i = .int .i64 (j : Int) ∧ Hid (n4 = (pre ++ ((t.kids.take j).map es).flatten).length) ∧ Hid (wr.ownsRow W0.heap.size 25 4 (.slice A4 n4 c4) n4 ys) ∧ Hid (Reps wr S (d + 1) (pre ++ ((t.kids.take j).map es).flatten) ys) ∧ Hid (Below W0.heap.size W0 wr)) (fun _ i _ => l - (intOf i).toNat)
  case atStart => exact ⟨0, pre.length, A3, c3, xs3, Nat.zero_le _, rfl, rfl, by simp [Hid], HO3, by simpa [Hid] using HR3.out, HBW3.out⟩
  case round =>
   obtain ⟨j, n4, A4, c4, ys, hj, rfl, rfl, HN4, HO4, HR4, HB4⟩ := hrel
   have hc3 := HLOOP.out _ HB4.out
   by_cases hlt : j < l
   ·obtain ⟨u, hu⟩ : ∃ u, t.kids[j]? = some u := ⟨_, List.getElem?_eq_getElem (by rw [← HL.out]; omega)⟩
    have hBW := bt HB0.out HB4.out
    have hrr := HT.out.later HI.out hBW
    obtain ⟨b2, o2, A2, c2, hA2, hb2, hcells, hru⟩ := hrr.kid hu
    subst hA2
    have HU := Lib.hid hu
    have HSU : Hid (size u ≤ 100000) := Lib.hid (by have := size_kid hu; have := HST.out; omega)
    have HNB : Hid (n4 + (es u).length ≤ 1000000) := Lib.hid (by
     have h1 := flat_len t.kids j
     have h2 := es_len u
     have h3 := HST.out
     rw [size_eq] at h3
     have h4 := HN4.out
     rw [List.length_append] at h4
     have := HSU.out
     omega)
    have hij : (0 : Int) ≤ j ∧ (j : Int) < l := ⟨by omega, by omega⟩
    have hlt2 : (j : Int) < l := by omega
    have hdj : decide (j < l) = true := by simpa using hlt
    have HRU := Lib.hid hru
    have HIW : Hid (In S wr.heap.size) := Lib.hid (HI.out.more hBW.size)
    have k0 : wr.cell? ⟨b2, o2 + j * 4, none⟩ = some (.int .i64 u.k) := hcells 0 _ rfl
    have k1 : wr.cell? ⟨b2, o2 + j * 4 + 1, none⟩ = some (.int .i64 u.n) := hcells 1 _ rfl
    have k2 : wr.cell? ⟨b2, o2 + j * 4 + 2, none⟩ = some (.int .i64 u.m) := hcells 2 _ rfl
    have k3 : wr.cell? ⟨b2, o2 + j * 4 + 3, none⟩ = some (.slice A2 u.kids.length c2) := hcells 3 _ rfl
    clear hrr hcells hru hu hb2 hBW
    obtain ⟨m5, hm5⟩ : ∃ m, m = (es u).length := ⟨_, rfl⟩
    have HM5 := Lib.hid hm5
    clear hm5
    go_wp2_with (go_at_call 36; refine (HIH.out u S A2 c2 _ HRU.out HIW.out HSU.out).mono ?_; rintro e w5 ⟨A5, c5, ys5, rfl, hown5, hreps5, hb5⟩; have HREP5 := Lib.hid hreps5; have HB5 := Lib.hid hb5; obtain ⟨A6, c6, w6, hrun, hown6, hg6⟩ := apM_run (c2 := c5) (ownsRow_below HO4.out hb5) (reps_rdB hown5) (reps_oneM hreps5) (Nat.le_trans HB4.out.size hb5.size) HNB.out; rw [← HM5.out] at hrun hown6 ⊢; have HO6 := Lib.hid hown6; have HG6 := Lib.hid hg6; clear hown5 hreps5 hb5 hown6 hg6)
    go_roundw
    case rel =>
     have hb6 : Below W0.heap.size w5 w6 := below_gwB (Below.refl _ _) HG6.out (Nat.le_trans HB4.out.size HB5.out.size) fun b e => (HO4.out.lt b e).1
     have hzz := HB0.out.size
     have hz1 := HZ0.out
     have hz2 := HZ.out
     have hkS : Keeps S wr w6 := (Keeps.below HIW.out HB5.out).trans (Keeps.below (fun b hb => by have := HI.out b hb; omega) hb6)
     refine ⟨j + 1, n4 + m5, A6, c6, ys ++ ys5, by omega, rfl, by go_num, ?_, HO6, ?_, HB4.out.trans ((HB5.out.mono HB4.out.size).trans hb6)⟩
     ·show n4 + m5 = _
      rw [flat_next HU.out, ← List.append_assoc, List.length_append, ← HN4.out, HM5.out]
     ·show Reps w6 S (d + 1) (pre ++ ((t.kids.take (j + 1)).map es).flatten) (ys ++ ys5)
      rw [flat_next HU.out, ← List.append_assoc]
      exact (HR4.out.keep hkS).app ((HREP5.out.keep (Keeps.below (fun b hb => by have := HI.out b hb; omega) hb6)).deeper (by omega))
    case measure => simp [intOf]; omega
   ·have hjl : j = l := by omega
    have hdj : decide (j < l) = false := by simpa using hlt
    have HBW : Hid (Below w.heap.size w wr) := Lib.hid (bt HB0.out HB4.out)
    have HNE : Hid (n4 = (es t).length) := Lib.hid (by rw [HN4.out, HES.out, hjl, List.take_of_length_le (by rw [← HL.out]; exact Nat.le_refl _)])
    have HRE : Hid (Reps wr S (d + 1) (es t) ys) := Lib.hid (by
     have h := HR4.out
     rw [hjl, List.take_of_length_le (by rw [← HL.out]; exact Nat.le_refl _)] at h
     rw [HES.out]; exact h)
    clear hjl
    go_wp2_with fail
    go_ret
    refine ⟨A4, c4, ys, by rw [HNE.out]; rfl, ?_, HRE.out, HBW.out⟩
    rw [← HNE.out]
    exact ownsRow_base HO4.out HB0.out.size
 | true =>
  have hpn : pre = [t] := by rw [HPRE.out]; rfl
  go_upto_region 2 with fail
  rw [← HW0.out, ← HZ.out]
  go_wp2_with (go_at_call 28; refine (HRX.out _ (Below.refl _ _)).mono ?_; rintro e w2 ⟨rfl, hb1⟩; have HBW2 := Lib.hid hb1; clear hb1; clear x0 x1 x2 x3; obtain ⟨x0, x1, x2, x3⟩ := HBX.out _ HBW2.out; obtain ⟨A3, c3, w3, hrun, hown3, hg3⟩ := ap0_run (W := w2) t A c W0.heap.size (by have := HBW2.out.size; omega); rw [← HL.out] at hrun; have HOW3 := Lib.hid hown3; have HGW3 := Lib.hid hg3; clear hown3 hg3)
  have HBW3 : Hid (Below W0.heap.size W0 w3) := Lib.hid (below_gwB (ba HBW2.out _) HGW3.out (by have := HBW2.out.size; rw [size_alloc]; omega) (fun b e => by cases e))
  have HO3 : Hid (w3.ownsRow W0.heap.size 25 4 (.slice A3 1 c3) 1 (nd t A c)) := HOW3
  have HR3 : Hid (Reps w3 S (d + 1) [t] (nd t A c)) := Lib.hid (Reps.one ((HT.out.keep (Keeps.below HI.out (bt HB0.out HBW3.out)))))
  obtain ⟨xs3, hxs3⟩ : ∃ x, x = nd t A c := ⟨_, rfl⟩
  rw [← hxs3] at HO3 HR3
  have hp1 : pre.length = 1 := by rw [hpn]; rfl
  have hv : Value.slice A3 1 c3 = .slice A3 pre.length c3 := by rw [hp1]
  rw [hv]
  rw [← hp1] at HO3
  rw [← hpn] at HR3
  clear hxs3 HOW3 HGW3 HBW2 x0 x1 x2 x3 hrun hp1 hv hpn
  go_loopw [3, 4] (fun o i wr => ∃ (j n4 : Nat) (A4 : Option Addr) (c4 : Nat) (ys : List Value), j ≤ l ∧ o = .slice A4 n4 c4 ∧ i = .int .i64 (j : Int) ∧ Hid (n4 = (pre ++ ((t.kids.take j).map es).flatten).length) ∧ Hid (wr.ownsRow W0.heap.size 25 4 (.slice A4 n4 c4) n4 ys) ∧ Hid (Reps wr S (d + 1) (pre ++ ((t.kids.take j).map es).flatten) ys) ∧ Hid (Below W0.heap.size W0 wr)) (fun _ i _ => l - (intOf i).toNat)
  case atStart => exact ⟨0, pre.length, A3, c3, xs3, Nat.zero_le _, rfl, rfl, by simp [Hid], HO3, by simpa [Hid] using HR3.out, HBW3.out⟩
  case round =>
   obtain ⟨j, n4, A4, c4, ys, hj, rfl, rfl, HN4, HO4, HR4, HB4⟩ := hrel
   have hc3 := HLOOP.out _ HB4.out
   by_cases hlt : j < l
   ·obtain ⟨u, hu⟩ : ∃ u, t.kids[j]? = some u := ⟨_, List.getElem?_eq_getElem (by rw [← HL.out]; omega)⟩
    have hBW := bt HB0.out HB4.out
    have hrr := HT.out.later HI.out hBW
    obtain ⟨b2, o2, A2, c2, hA2, hb2, hcells, hru⟩ := hrr.kid hu
    subst hA2
    have HU := Lib.hid hu
    have HSU : Hid (size u ≤ 100000) := Lib.hid (by have := size_kid hu; have := HST.out; omega)
    have HNB : Hid (n4 + (es u).length ≤ 1000000) := Lib.hid (by
     have h1 := flat_len t.kids j
     have h2 := es_len u
     have h3 := HST.out
     rw [size_eq] at h3
     have h4 := HN4.out
     rw [List.length_append] at h4
     have := HSU.out
     omega)
    have hij : (0 : Int) ≤ j ∧ (j : Int) < l := ⟨by omega, by omega⟩
    have hlt2 : (j : Int) < l := by omega
    have hdj : decide (j < l) = true := by simpa using hlt
    have HRU := Lib.hid hru
    have HIW : Hid (In S wr.heap.size) := Lib.hid (HI.out.more hBW.size)
    have k0 : wr.cell? ⟨b2, o2 + j * 4, none⟩ = some (.int .i64 u.k) := hcells 0 _ rfl
    have k1 : wr.cell? ⟨b2, o2 + j * 4 + 1, none⟩ = some (.int .i64 u.n) := hcells 1 _ rfl
    have k2 : wr.cell? ⟨b2, o2 + j * 4 + 2, none⟩ = some (.int .i64 u.m) := hcells 2 _ rfl
    have k3 : wr.cell? ⟨b2, o2 + j * 4 + 3, none⟩ = some (.slice A2 u.kids.length c2) := hcells 3 _ rfl
    clear hrr hcells hru hu hb2 hBW
    obtain ⟨m5, hm5⟩ : ∃ m, m = (es u).length := ⟨_, rfl⟩
    have HM5 := Lib.hid hm5
    clear hm5
    go_wp2_with (go_at_call 36; refine (HIH.out u S A2 c2 _ HRU.out HIW.out HSU.out).mono ?_; rintro e w5 ⟨A5, c5, ys5, rfl, hown5, hreps5, hb5⟩; have HREP5 := Lib.hid hreps5; have HB5 := Lib.hid hb5; obtain ⟨A6, c6, w6, hrun, hown6, hg6⟩ := apM_run (c2 := c5) (ownsRow_below HO4.out hb5) (reps_rdB hown5) (reps_oneM hreps5) (Nat.le_trans HB4.out.size hb5.size) HNB.out; rw [← HM5.out] at hrun hown6 ⊢; have HO6 := Lib.hid hown6; have HG6 := Lib.hid hg6; clear hown5 hreps5 hb5 hown6 hg6)
    go_roundw
    case rel =>
     have hb6 : Below W0.heap.size w5 w6 := below_gwB (Below.refl _ _) HG6.out (Nat.le_trans HB4.out.size HB5.out.size) fun b e => (HO4.out.lt b e).1
     have hzz := HB0.out.size
     have hz1 := HZ0.out
     have hz2 := HZ.out
     have hkS : Keeps S wr w6 := (Keeps.below HIW.out HB5.out).trans (Keeps.below (fun b hb => by have := HI.out b hb; omega) hb6)
     refine ⟨j + 1, n4 + m5, A6, c6, ys ++ ys5, by omega, rfl, by go_num, ?_, HO6, ?_, HB4.out.trans ((HB5.out.mono HB4.out.size).trans hb6)⟩
     ·show n4 + m5 = _
      rw [flat_next HU.out, ← List.append_assoc, List.length_append, ← HN4.out, HM5.out]
     ·show Reps w6 S (d + 1) (pre ++ ((t.kids.take (j + 1)).map es).flatten) (ys ++ ys5)
      rw [flat_next HU.out, ← List.append_assoc]
      exact (HR4.out.keep hkS).app ((HREP5.out.keep (Keeps.below (fun b hb => by have := HI.out b hb; omega) hb6)).deeper (by omega))
    case measure => simp [intOf]; omega
   ·have hjl : j = l := by omega
    have hdj : decide (j < l) = false := by simpa using hlt
    have HBW : Hid (Below w.heap.size w wr) := Lib.hid (bt HB0.out HB4.out)
    have HNE : Hid (n4 = (es t).length) := Lib.hid (by rw [HN4.out, HES.out, hjl, List.take_of_length_le (by rw [← HL.out]; exact Nat.le_refl _)])
    have HRE : Hid (Reps wr S (d + 1) (es t) ys) := Lib.hid (by
     have h := HR4.out
     rw [hjl, List.take_of_length_le (by rw [← HL.out]; exact Nat.le_refl _)] at h
     rw [HES.out]; exact h)
    clear hjl
    go_wp2_with fail
    go_ret
    refine ⟨A4, c4, ys, by rw [HNE.out]; rfl, ?_, HRE.out, HBW.out⟩
    rw [← HNE.out]
    exact ownsRow_base HO4.out HB0.out.size
end Go.Proofs.YtlffmfdjifgfgaaDoor
