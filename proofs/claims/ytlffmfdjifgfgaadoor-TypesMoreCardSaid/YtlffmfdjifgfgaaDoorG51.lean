/-
  The law TypesMore: the walk.
-/
import Derived.Test.YtlffmfdjifgfgaaDoorG50
import Derived.Test.YtlffmfdjifgfgaaDoorG41
import Derived.Test.YtlffmfdjifgfgaaDoorG45
import Derived.Test.YtlffmfdjifgfgaaDoorG14
import Derived.Deep.RegionWith
import Derived.Deep.CutRange
import Derived.Test.YtlffmfdjifgfgaaDoorG48
set_option linter.unusedVariables false
namespace Go.Proofs.YtlffmfdjifgfgaaDoor
open Go.RowKit WM TR TY

theorem shutB4 (parts : Array (Nat × Value)) : Instr.buildSlice 23 4 parts = bsN 4 parts := rfl
set_option maxRecDepth 100000 in
theorem run_bs4 (W : World) (a1 a2 a3 a4 b1 b2 b3 b4 c1 c2 c3 c4 d1 d2 d3 d4 : Value) : (bsN 4 #[(0, .agg #[a1, a2, a3, a4]), (1, .agg #[b1, b2, b3, b4]), (2, .agg #[c1, c2, c3, c4]), (3, .agg #[d1, d2, d3, d4])]).run Tryd.prog W = .ok (.slice (some ⟨W.heap.size, 0, none⟩) 4 4) (W.alloc (.cells #[a1, a2, a3, a4, b1, b2, b3, b4, c1, c2, c3, c4, d1, d2, d3, d4] 25)) := by kernel_rfl
attribute [local go_sem ↓ high] shutB2 shutB3 shutB4
set_option maxRecDepth 100000 in
set_option maxHeartbeats 16000000 in
theorem types_more_is (HM : MadeC) (L : List Int) (A : Option Addr) (c : Nat) (way f kind nn : Int) (wz : World) (hL : Rd wz (Lt wz.heap.size) 1 A L.length (vi L)) (hrL : ∀ x ∈ L, inRange x) (hlL : L.length ≤ 9223372036854775807) (hf : inRange f) (hk : inRange kind) (hn : inRange nn) (hT : ST wz) (hg : 0 < wz.heap.size) :
    Calls Tryd.prog 7 #[.slice A L.length c, .int .i64 way, .int .i64 f, .int .i64 kind, .int .i64 nn] wz fun e w' => e = .returned (.bool true) ∧ Below wz.heap.size wz w' := by
  have HP := Lib.hid (lawProg_is HM L (Lt wz.heap.size) A c way wz hL (In.lt _) hrL hlL)
  have HT := Lib.hid hT
  have HG := Lib.hid hg
  have HRF := Lib.hid hf
  have HRK := Lib.hid hk
  have HRN := Lib.hid hn
  obtain ⟨nl, hnl⟩ : ∃ z, z = L.length := ⟨_, rfl⟩
  rw [← hnl] at HP ⊢
  clear hL hrL hlL hT hg hnl HM hf hk hn
  go_enter Tryd.func7, Tryd.ntmps7
  go_upto_region 2 with (go_at_call 10; refine HP.out.mono ?_; rintro e V ⟨p, A1, c1, rfl, hf, hc, hp, hv⟩; have HF := Lib.hid hf; have HR := Lib.hid hp; have HV := Lib.hid hv; clear hf hc hp hv)
  obtain ⟨np, hnp⟩ : ∃ n, n = p.kids.length := ⟨_, rfl⟩
  have hn3 : 1 ≤ np ∧ np ≤ 3 := by have h1 := HF.out.lo; have h2 := HF.out.hi; omega
  have HNP := Lib.hid hnp
  obtain ⟨k, hk⟩ : ∃ k : Nat, (k : Int) = arnd f np := ⟨(arnd f np).toNat, by have := arnd_le (x := f) (n := (np : Int)) (by omega); omega⟩
  have hkn : k < np := by have := arnd_le (x := f) (n := (np : Int)) (by omega); omega
  have HKA := Lib.hid hk
  clear hk
  obtain ⟨pk, hpk⟩ : ∃ z, z = p.k := ⟨_, rfl⟩
  obtain ⟨pn, hpn⟩ : ∃ z, z = p.n := ⟨_, rfl⟩
  obtain ⟨pm, hpm⟩ : ∃ z, z = p.m := ⟨_, rfl⟩
  have HPK := Lib.hid (And.intro hpk (And.intro hpn hpm))
  rw [← hnp, ← hpk, ← hpn, ← hpm]
  obtain ⟨u, hu⟩ : ∃ u, p.kids[k]? = some u := ⟨_, List.getElem?_eq_getElem (by rw [← hnp]; exact hkn)⟩
  have HU := Lib.hid hu
  obtain ⟨gp, hgp⟩ : ∃ g, g = V.heap.size := ⟨_, rfl⟩
  obtain ⟨W1, hW1⟩ : ∃ W, W = V.alloc (.cells #[.int .i64 pk, .int .i64 pn, .int .i64 pm, .slice A1 np c1] 25) := ⟨_, rfl⟩
  have HB1 : Hid (Below wz.heap.size wz W1) := Lib.hid (by rw [hW1]; exact HV.out.alloc HV.out.size _)
  have HK1 : Hid (Blk W1 gp 25 #[.int .i64 pk, .int .i64 pn, .int .i64 pm, .slice A1 np c1]) := Lib.hid (by rw [hW1, hgp]; exact Blk.new _ _ _)
  have hrp : Rep W1 (Lt W1.heap.size) 14 p (nd p A1 c1) := by
    rw [hW1]
    exact (HR.out.keep (Keeps.below (fun b hb => hb.2) (below_new _ _))).mono fun b hb => by show b < _; rw [size_alloc]; have := hb.2; omega
  have HRP := Lib.hid hrp
  rw [← hW1, ← hgp]
  have HW1 := Lib.hid hW1
  have x0 := HK1.out.cell 0; have x1 := HK1.out.cell 1; have x2 := HK1.out.cell 2; have x3 := HK1.out.cell 3
  simp only [List.getElem?_toArray, List.getElem?_cons_zero, List.getElem?_cons_succ] at x0 x1 x2 x3
  clear hnp hpk hpn hpm hW1 hgp hrp hu HV HR HP
  go_upto_region 3 with (go_at_call 21; refine (around_is f np HRF.out (by omega) _).mono ?_; rintro e w3 ⟨rfl, rfl⟩; rw [← HKA.out])
  -- the variable's type
  obtain ⟨kd, hkd⟩ : ∃ k : Nat, (k : Int) = arnd kind 4 := ⟨(arnd kind 4).toNat, by have := arnd_le (x := kind) (n := 4) (by omega); omega⟩
  have hkd4 : kd < 4 := by have := arnd_le (x := kind) (n := 4) (by omega); omega
  obtain ⟨ln, hln⟩ : ∃ k : Nat, (k : Int) = arnd nn 4 := ⟨(arnd nn 4).toNat, by have := arnd_le (x := nn) (n := 4) (by omega); omega⟩
  have hln4 : ln < 4 := by have := arnd_le (x := nn) (n := 4) (by omega); omega
  have HKD := Lib.hid hkd
  have HLN := Lib.hid hln
  clear hkd hln
  obtain ⟨ll, hll⟩ : ∃ z : Int, z = 1 + (ln : Int) := ⟨_, rfl⟩
  have hlw : IntKind.i64.wrap (1 + (ln : Int)) = ll := by rw [IntKind.wrap_i64]; omega
  obtain ⟨g3, hg3⟩ : ∃ g, g = W1.heap.size := ⟨_, rfl⟩
  obtain ⟨W3, hW3⟩ : ∃ W, W = W1.alloc (.cells #[.int .i64 0, .int .i64 0, .int .i64 0, .slice none 0 0, .int .i64 1, .int .i64 0, .int .i64 0, .slice none 0 0] 25) := ⟨_, rfl⟩
  obtain ⟨W4, hW4⟩ : ∃ W, W = W3.alloc (.cells #[.int .i64 0, .int .i64 0, .int .i64 0, .slice none 0 0, .int .i64 1, .int .i64 0, .int .i64 0, .slice none 0 0, .int .i64 2, .int .i64 ll, .int .i64 0, .slice none 0 0, .int .i64 3, .int .i64 0, .int .i64 0, .slice (some ⟨g3, 0, none⟩) 2 2] 25) := ⟨_, rfl⟩
  obtain ⟨g4, hg4⟩ : ∃ g, g = W3.heap.size := ⟨_, rfl⟩
  have r3 : (bsN 2 #[(0, .agg #[.int .i64 0, .int .i64 0, .int .i64 0, .slice none 0 0]), (1, .agg #[.int .i64 1, .int .i64 0, .int .i64 0, .slice none 0 0])]).run Tryd.prog W1 = .ok (.slice (some ⟨g3, 0, none⟩) 2 2) W3 := by rw [hW3, hg3]; exact run_bs2 W1 _ _ _ _ _ _ _ _
  have r4 : (bsN 4 #[(0, .agg #[.int .i64 0, .int .i64 0, .int .i64 0, .slice none 0 0]), (1, .agg #[.int .i64 1, .int .i64 0, .int .i64 0, .slice none 0 0]), (2, .agg #[.int .i64 2, .int .i64 ll, .int .i64 0, .slice none 0 0]), (3, .agg #[.int .i64 3, .int .i64 0, .int .i64 0, .slice (some ⟨g3, 0, none⟩) 2 2])]).run Tryd.prog W3 = .ok (.slice (some ⟨g4, 0, none⟩) 4 4) W4 := by rw [hW4, hg4]; exact run_bs4 W3 _ _ _ _ _ _ _ _ _ _ _ _ _ _ _ _
  have k3 : Blk W3 g3 25 #[.int .i64 0, .int .i64 0, .int .i64 0, .slice none 0 0, .int .i64 1, .int .i64 0, .int .i64 0, .slice none 0 0] := by rw [hW3, hg3]; exact Blk.new _ _ _
  have k4 : Blk W4 g4 25 #[.int .i64 0, .int .i64 0, .int .i64 0, .slice none 0 0, .int .i64 1, .int .i64 0, .int .i64 0, .slice none 0 0, .int .i64 2, .int .i64 ll, .int .i64 0, .slice none 0 0, .int .i64 3, .int .i64 0, .int .i64 0, .slice (some ⟨g3, 0, none⟩) 2 2] := by rw [hW4, hg4]; exact Blk.new _ _ _
  have hb4 : Below W1.heap.size W1 W4 := by rw [hW4, hW3]; exact ba (below_new _ _) _
  have hk34 : Blk W4 g3 25 #[.int .i64 0, .int .i64 0, .int .i64 0, .slice none 0 0, .int .i64 1, .int .i64 0, .int .i64 0, .slice none 0 0] := by rw [hW4]; exact k3.alloc _
  obtain ⟨t, At, ct, ht, hts, hcell, hrt⟩ : ∃ (t : T) (At : Option Addr) (ct : Nat), isType t = true ∧ TR.size t ≤ 9 ∧ (∀ i v, (nd t At ct)[i]? = some v → W4.cell? ⟨g4, kd * 4 + i, none⟩ = some v) ∧ Rep W4 (Lt W4.heap.size) 2 t (nd t At ct) := by
    have i0 : inRange 0 := small (by omega) (by omega)
    have i1 : inRange 1 := small (by omega) (by omega)
    have lf : ∀ a b : Int, inRange a → inRange b → ∀ d, Rep W4 (Lt W4.heap.size) (d + 1) ⟨a, b, 0, []⟩ (nd ⟨a, b, 0, []⟩ none 0) := fun a b ha hb d => Rep.leaf ha hb i0 d 0
    have hc : kd = 0 ∨ kd = 1 ∨ kd = 2 ∨ kd = 3 := by omega
    rcases hc with rfl | rfl | rfl | rfl
    · exact ⟨⟨0, 0, 0, []⟩, none, 0, by decide, by rw [size1]; omega, fun i v hv => by rw [k4.cell]; match i, hv with | 0, hv => exact hv | 1, hv => exact hv | 2, hv => exact hv | 3, hv => exact hv, lf 0 0 i0 i0 1⟩
    · exact ⟨⟨1, 0, 0, []⟩, none, 0, by decide, by rw [size1]; omega, fun i v hv => by rw [k4.cell]; match i, hv with | 0, hv => exact hv | 1, hv => exact hv | 2, hv => exact hv | 3, hv => exact hv, lf 1 0 i1 i0 1⟩
    · exact ⟨⟨2, ll, 0, []⟩, none, 0, by have h : ll = 1 ∨ ll = 2 ∨ ll = 3 ∨ ll = 4 := by omega
                                         rcases h with rfl | rfl | rfl | rfl <;> decide, by rw [size1]; omega, fun i v hv => by rw [k4.cell]; match i, hv with | 0, hv => exact hv | 1, hv => exact hv | 2, hv => exact hv | 3, hv => exact hv, lf 2 ll (small (by omega) (by omega)) (small (by omega) (by omega)) 1⟩
    · refine ⟨⟨3, 0, 0, [⟨0, 0, 0, []⟩, ⟨1, 0, 0, []⟩]⟩, some ⟨g3, 0, none⟩, 2, by decide, by rw [size_eq]; simp [size1], fun i v hv => by rw [k4.cell]; match i, hv with | 0, hv => exact hv | 1, hv => exact hv | 2, hv => exact hv | 3, hv => exact hv, ?_⟩
      refine Rep.mk (small (by omega) (by omega)) i0 i0 (Nat.le_refl _) (xs := nd ⟨0, 0, 0, []⟩ none 0 ++ nd ⟨1, 0, 0, []⟩ none 0) ⟨rfl, fun _ => ⟨_, rfl, hk34.lt, fun j u hu => ?_⟩⟩ ((Reps.one (lf 0 0 i0 i0 0)).snoc (lf 1 0 i1 i0 0))
      rw [Addr.add_lit, Nat.zero_add, hk34.cell, List.getElem?_toArray]
      exact hu
  obtain ⟨gt, hgt⟩ : ∃ g, g = W4.heap.size := ⟨_, rfl⟩
  obtain ⟨W5, hW5⟩ : ∃ W, W = W4.alloc (.cells #[.int .i64 t.k, .int .i64 t.n, .int .i64 t.m, .slice At t.kids.length ct] 25) := ⟨_, rfl⟩
  have y0 : W4.cell? ⟨g4, kd * 4, none⟩ = some (.int .i64 t.k) := hcell 0 _ rfl
  have y1 : W4.cell? ⟨g4, kd * 4 + 1, none⟩ = some (.int .i64 t.n) := hcell 1 _ rfl
  have y2 : W4.cell? ⟨g4, kd * 4 + 2, none⟩ = some (.int .i64 t.m) := hcell 2 _ rfl
  have y3 : W4.cell? ⟨g4, kd * 4 + 3, none⟩ = some (.slice At t.kids.length ct) := hcell 3 _ rfl
  have HK5 : Hid (Blk W5 gt 25 #[.int .i64 t.k, .int .i64 t.n, .int .i64 t.m, .slice At t.kids.length ct]) := Lib.hid (by rw [hW5, hgt]; exact Blk.new _ _ _)
  have HB5 : Hid (Below W1.heap.size W1 W5) := Lib.hid (by rw [hW5]; exact ba hb4 _)
  have HTY := Lib.hid ht
  have HTS := Lib.hid hts
  have HRT : Hid (Rep W5 (Lt W5.heap.size) 2 t (nd t At ct)) := Lib.hid (by
    rw [hW5]
    exact (hrt.keep (Keeps.below (In.lt _) (below_new _ _))).mono fun b hb => by show b < _; rw [size_alloc]; have h : b < W4.heap.size := hb; omega)
  have HW5 := Lib.hid hW5
  have HGT := Lib.hid hgt
  have HG4 : Hid (W1.heap.size ≤ gt) := Lib.hid (by rw [hgt]; exact hb4.size)
  have hkdb : (0 : Int) ≤ (kd : Int) ∧ (kd : Int) < 4 := ⟨by omega, by omega⟩
  clear hg3 hW3 hW4 hg4 k3 k4 hb4 hk34 ht hts hcell hrt hW5 hgt hkd4 hln4 hll
  iterate 12 go_step
  refine (around_is nn 4 HRN.out (by omega) _).mono ?_
  rintro e w3 ⟨rfl, rfl⟩
  rw [← HLN.out]
  go_simp
  rename_i hKK
  refine hKK _ _ ?_
  clear hKK
  iterate 26 go_step
  refine (around_is kind 4 HRK.out (by omega) _).mono ?_
  rintro e w3 ⟨rfl, rfl⟩
  rw [← HKD.out]
  go_simp
  rename_i hKK
  refine hKK _ _ ?_
  clear hKK
  iterate 11 go_step
  go_upto_region 4 with fail
  rw [← HW5.out, ← HGT.out]
  clear r3 r4 y0 y1 y2 y3 hlw
  -- the function that is changed
  have HPP : p.kids.length = np ∧ p.k = pk ∧ p.n = pn ∧ p.m = pm := ⟨HNP.out.symm, HPK.out.1.symm, HPK.out.2.1.symm, HPK.out.2.2.symm⟩
  have hpkid := prog_kid HF.out.prog (List.mem_of_getElem? HU.out)
  have hrp5 : Rep W5 (Lt W1.heap.size) 14 p (nd p A1 c1) := HRP.out.keep (Keeps.below (In.lt _) HB5.out)
  obtain ⟨bk, ok, Au, cu, hA1, hbk, hcu, hru⟩ := hrp5.kid HU.out
  subst hA1
  obtain ⟨ul, hul⟩ : ∃ z, z = u.kids.length := ⟨_, rfl⟩
  have hul1 : 1 ≤ ul ∧ ul ≤ 10 := by have h1 := hpkid.n0; have h2 := hpkid.n1; have h3 := hpkid.len; omega
  obtain ⟨gx, hgx⟩ : ∃ g, g = W5.heap.size := ⟨_, rfl⟩
  obtain ⟨W6, hW6⟩ : ∃ W, W = W5.alloc (.cells #[.int .i64 u.k, .int .i64 u.n, .int .i64 u.m, .slice Au ul cu] 25) := ⟨_, rfl⟩
  have hb56 : Below W5.heap.size W5 W6 := by rw [hW6]; exact below_new _ _
  have HB6 : Hid (Below W1.heap.size W1 W6) := Lib.hid (bt HB5.out hb56)
  have HKX : Hid (Blk W6 gx 25 #[.int .i64 u.k, .int .i64 u.n, .int .i64 u.m, .slice Au ul cu]) := Lib.hid (by rw [hW6, hgx]; exact Blk.new _ _ _)
  have HKT : Hid (Blk W6 gt 25 #[.int .i64 t.k, .int .i64 t.n, .int .i64 t.m, .slice At t.kids.length ct]) := Lib.hid (HK5.out.below hb56 HK5.out.lt)
  have HKP : Hid (Blk W6 gp 25 #[.int .i64 pk, .int .i64 pn, .int .i64 pm, .slice (some ⟨bk, ok, none⟩) np c1]) := Lib.hid (HK1.out.below HB6.out HK1.out.lt)
  have HRT6 : Hid (Rep W6 (Lt W6.heap.size) 2 t (nd t At ct)) := Lib.hid (rep_next HRT.out hb56)
  have HRP6 : Hid (Rep W6 (Lt W6.heap.size) 14 p (nd p (some ⟨bk, ok, none⟩) c1)) := Lib.hid (rep_next HRP.out HB6.out)
  have HRU6 : Hid (Rep W6 (Lt W6.heap.size) 13 u (nd u Au cu)) := Lib.hid ((hru.keep (Keeps.below (fun b (h : b < W1.heap.size) => Nat.lt_of_lt_of_le h HB5.out.size) hb56)).mono fun b (h : b < W1.heap.size) => Nat.lt_of_lt_of_le h HB6.out.size)
  have hND : Nds W6 (Lt W6.heap.size) (12 + 1) p.kids (some ⟨bk, ok, none⟩) c1 := by
    obtain ⟨xs, h1, h2⟩ := HRP6.out.kids
    exact ⟨⟨xs, h1, h2⟩, Rep.cap HRP6.out, by have := HPP.1; omega⟩
  obtain ⟨A2, c2, hNV, hVC⟩ := zvars_is p u k 12 (some ⟨bk, ok, none⟩) c1 (Lt W6.heap.size) W6 (In.lt _) hND HU.out (by omega)
  obtain ⟨vs, hvs⟩ : ∃ vs, vs = (scO p u).vars := ⟨_, rfl⟩
  rw [← hvs] at hNV hVC
  obtain ⟨x, hx⟩ : ∃ x, u.kids[u.kids.length - 1]? = some x := ⟨_, List.getElem?_eq_getElem (by omega)⟩
  have hkx : u.kids = vs ++ [x] := by
    rw [hvs]
    show u.kids = u.kids.take (u.kids.length - 1) ++ [x]
    have h1 := (List.getElem?_eq_some_iff.1 hx)
    rw [← h1.2, List.take_append_getElem h1.1, Nat.sub_add_cancel (by omega), List.take_length]
  obtain ⟨nv, hnv⟩ : ∃ z, z = vs.length := ⟨_, rfl⟩
  have hnv9 : nv ≤ 9 := by have h : u.kids.length = vs.length + 1 := by rw [hkx]; simp
                           omega
  have HKXS := Lib.hid hkx
  rw [← hnv, HPP.1, HPP.2.1, HPP.2.2.1, HPP.2.2.2] at hVC
  have HVC : Hid (∀ W, Below W6.heap.size W6 W → Calls Tryd.prog 25 #[.agg #[.int .i64 pk, .int .i64 pn, .int .i64 pm, .slice (some ⟨bk, ok, none⟩) np c1], .int .i64 (k : Int)] W fun e w' => e = .returned (.slice A2 nv c2) ∧ Below W.heap.size W w') := Lib.hid fun W hb => hVC W (Keeps.below (In.lt _) hb) ((In.lt _).more hb.size)
  have HBC : Hid (∀ W, Below W6.heap.size W6 W → Calls Tryd.prog 32 #[.agg #[.int .i64 pk, .int .i64 pn, .int .i64 pm, .slice (some ⟨bk, ok, none⟩) np c1], .int .i64 (k : Int)] W fun e w' => ∃ A' c', e = .returned (.agg #[.int .i64 x.k, .int .i64 x.n, .int .i64 x.m, .slice A' x.kids.length c']) ∧ Rep w' (Lt W6.heap.size) 12 x (nd x A' c') ∧ Below W.heap.size W w') := Lib.hid fun W hb => by
    have h := rbody_is 12 p u x (Lt W6.heap.size) (some ⟨bk, ok, none⟩) c1 k W (HRP6.out.keep (Keeps.below (In.lt _) hb)) ((In.lt _).more hb.size) HU.out hx (by have := HPP.1; omega) (by omega)
    rw [HPP.1, HPP.2.1, HPP.2.2.1, HPP.2.2.2] at h
    exact h
  obtain ⟨⟨ys, hry, hsy⟩, hncap, _⟩ := hNV
  rw [← hnv] at hry hncap
  have HRY := Lib.hid hry
  have HSY := Lib.hid hsy
  have HNV := Lib.hid hnv
  have HNC := Lib.hid hncap
  have u0 : W5.cell? ⟨bk, ok + k * 4, none⟩ = some (.int .i64 u.k) := hcu 0 _ rfl
  have u1 : W5.cell? ⟨bk, ok + k * 4 + 1, none⟩ = some (.int .i64 u.n) := hcu 1 _ rfl
  have u2 : W5.cell? ⟨bk, ok + k * 4 + 2, none⟩ = some (.int .i64 u.m) := hcu 2 _ rfl
  have u3 : W5.cell? ⟨bk, ok + k * 4 + 3, none⟩ = some (.slice Au ul cu) := by rw [hul]; exact hcu 3 _ rfl
  have p3 : W5.cell? ⟨gp, 3, none⟩ = some (.slice (some ⟨bk, ok, none⟩) np c1) := by exact (HK1.out.below HB5.out HK1.out.lt).cell 3
  have hkb : (0 : Int) ≤ (k : Int) ∧ (k : Int) < (np : Int) := ⟨by omega, by omega⟩
  have HW6 := Lib.hid hW6
  have HGX := Lib.hid hgx
  have HX := Lib.hid hx
  have HUL := Lib.hid hul
  clear x0 x1 x2 x3 hrp5 hcu hru hW6 hgx hb56 hND hVC hvs hkx hx hry hsy hnv hncap hbk hul
  go_upto_region 6 with fail
  rw [← HW6.out, ← HGX.out]
  clear u0 u1 u2 u3 p3
  -- the row of kids
  have HCL : Hid (∀ W, Below W6.heap.size W6 W → (W.cell? ⟨gp, 0, none⟩ = some (.int .i64 pk) ∧ W.cell? ⟨gp, 1, none⟩ = some (.int .i64 pn) ∧ W.cell? ⟨gp, 2, none⟩ = some (.int .i64 pm) ∧ W.cell? ⟨gp, 3, none⟩ = some (.slice (some ⟨bk, ok, none⟩) np c1)) ∧ (W.cell? ⟨gt, 0, none⟩ = some (.int .i64 t.k) ∧ W.cell? ⟨gt, 1, none⟩ = some (.int .i64 t.n) ∧ W.cell? ⟨gt, 2, none⟩ = some (.int .i64 t.m) ∧ W.cell? ⟨gt, 3, none⟩ = some (.slice At t.kids.length ct))) := Lib.hid fun W hb => by
    have e1 := HKP.out.below hb HKP.out.lt
    have e2 := HKT.out.below hb HKT.out.lt
    exact ⟨⟨e1.cell 0, e1.cell 1, e1.cell 2, e1.cell 3⟩, e2.cell 0, e2.cell 1, e2.cell 2, e2.cell 3⟩
  obtain ⟨i0, hi, hz0, hz1, hz2⟩ := info_parts node_info
  refine wp_region_held_drew (S := fun W => Below W6.heap.size W6 W) (by kernel_rfl) (Below.refl _ _).drew (fun hS0 => ?_)
  refine wpAnyH_take (i := 0) (v := ?_) rfl (by kernel_rfl) (by kernel_rfl) (by kernel_rfl) (fun _ _ _ h => h) (Or.inl ⟨by rfl, ?_⟩) hS0 ?_; rotate_left; (intro w hSw; (try dsimp only at hSw); go_simp; try with_reducible rfl)
  refine wpAnyH_take (i := 2) (v := ?_) rfl (by kernel_rfl) (by kernel_rfl) (by kernel_rfl) (fun _ _ _ h => h) (Or.inl ⟨by rfl, ?_⟩) hS0 ?_; rotate_left; (intro w hSw; (try dsimp only at hSw); go_simp; try with_reducible rfl)
  refine wpAnyH_take (i := 9) (v := ?_) rfl (by kernel_rfl) (by kernel_rfl) (by kernel_rfl) (fun _ _ _ h => h) (Or.inl ⟨by rfl, ?_⟩) hS0 ?_; rotate_left; (intro w hSw; (try dsimp only at hSw); go_simp; try with_reducible rfl)
  refine wpAnyH_take (i := 1) (v := ?_) rfl (by kernel_rfl) (by kernel_rfl) (by kernel_rfl) (fun _ _ _ h => h) (Or.inl ⟨by rfl, ?_⟩) hS0 ?_; rotate_left; (intro w hSw; (try dsimp only at hSw); obtain ⟨⟨z0, z1, z2, z3⟩, z4, z5, z6, z7⟩ := HCL.out w hSw; go_simp; try with_reducible rfl)
  refine wpAnyH_take (i := 5) (v := ?_) rfl (by kernel_rfl) (by kernel_rfl) (by kernel_rfl) (fun _ _ _ h => h) (Or.inl ⟨by rfl, ?_⟩) hS0 ?_; rotate_left; (intro w hSw; (try dsimp only at hSw); obtain ⟨⟨z0, z1, z2, z3⟩, z4, z5, z6, z7⟩ := HCL.out w hSw; go_simp; try with_reducible rfl)
  refine wpAnyH_take (i := 8) (v := ?_) rfl (by kernel_rfl) (by kernel_rfl) (by kernel_rfl) (fun _ _ _ h => h) (Or.inl ⟨by rfl, ?_⟩) hS0 ?_; rotate_left; (intro w hSw; (try dsimp only at hSw); obtain ⟨⟨z0, z1, z2, z3⟩, z4, z5, z6, z7⟩ := HCL.out w hSw; go_simp; try with_reducible rfl)
  conv => arg 8; simp [go_sem]
  conv => arg 7; simp
  refine wpAnyH_key 5 #[true, true, true, true, true, true, true, false, true, true, false, false, false, false] (fun a0 a w => ∃ (b7 : Nat) (A5 : Option Addr) (c5 : Nat), a = (Act.put (Act.put (Act.put a0 (some 54) (.slice A2 nv c2)) (some 55) (.slice A5 nv c5)) (some 57) (.slice (some ⟨b7, 0, none⟩) 1 1)) ∧ Below W6.heap.size W6 w ∧ AR W6.heap.size W6.heap.size 13 w (.slice A5 nv c5) vs ys ∧ Blk w b7 25 (nd t At ct).toArray) ?_ (fun k0 => ?_)
  · rintro a w ⟨b7, A5, c5, rfl, hS, h5, k7⟩
    -- + the new variable
    refine wpAnyH_ready (rs := [7]) (by kernel_rfl) (by simp) ?_
    refine AllReadyH.cons rfl (fun K hK => ?_) AllReadyH.nil
    refine step_append_any _ rfl (.tmp 55) (.tmp 57) 23 rfl W6.heap.size 25 i0 _ 4 48 Tryd.underlying23 hi hz0 hz1 hz2 rfl (by decide) (.slice A5 nv c5) nv ys (by kernel_rfl) (by have h := h5.own; rw [← HNV.out] at h; exact h) (b7 + 1) (some ⟨b7, 0, none⟩) 1 1 (nd t At ct) (by kernel_rfl) (lit_reads k7) (nd_one t At ct) (len_le (by omega)) (by omega) hS.size ?_
    intro v8 w8 hown8 hgrow8 hnew8; obtain ⟨A8, c8, hv8, _⟩ := own_len hown8; subst hv8
    have hrt := (HRT6.out.keep (Keeps.below (In.lt _) hS)).deeper (d' := 13) (by omega)
    obtain ⟨h8, hb8⟩ := AR.put h5 hS.size (Reps.one hrt) rfl (by rw [← HNV.out]; exact hown8) hgrow8
    have hS8 := hS.trans hb8
    refine hK.out _ _ hS8 (fun _ => ?_)
    clear hK K k7 h5 hown8 hgrow8 hnew8 hrt hb8
    -- + the block
    refine wpAnyH_ready (rs := [10]) (by kernel_rfl) (by simp) ?_
    refine AllReadyH.cons rfl (fun K hK => ?_) AllReadyH.nil
    go_simp
    go_at_call 32
    refine (HBC.out _ hS8).mono ?_
    rintro e w9 ⟨A9, c9, rfl, hr9, hb9⟩
    try go_simp
    have hS9 := hS8.trans (hb9.mono hS8.size)
    have h9 := h8.later hS8.size hb9
    refine hK.out _ _ hS9 (fun _ => ?_)
    clear hK K h8 hb9
    refine wpAnyH_ready (rs := [11]) (by kernel_rfl) (by simp) ?_
    refine AllReadyH.cons rfl (fun K hK => ?_) AllReadyH.nil
    go_simp
    have k10 : Blk (w9.alloc (.cells #[.int .i64 x.k, .int .i64 x.n, .int .i64 x.m, .slice A9 x.kids.length c9] 25)) w9.heap.size 25 (nd x A9 c9).toArray := Blk.new_at _ _ rfl rfl
    have h10 := h9.later hS9.size (below_new w9 (.cells #[.int .i64 x.k, .int .i64 x.n, .int .i64 x.m, .slice A9 x.kids.length c9] 25))
    have hr10 := hr9.keep (Keeps.below (fun b (h : b < W6.heap.size) => Nat.lt_of_lt_of_le h hS9.size) (below_new w9 (.cells #[.int .i64 x.k, .int .i64 x.n, .int .i64 x.m, .slice A9 x.kids.length c9] 25)))
    have hS10 := ba hS9 (.cells #[.int .i64 x.k, .int .i64 x.n, .int .i64 x.m, .slice A9 x.kids.length c9] 25)
    refine hK.out _ _ hS10 (fun _ => ?_)
    obtain ⟨w10, hw10⟩ : ∃ W, W = w9.alloc (.cells #[.int .i64 x.k, .int .i64 x.n, .int .i64 x.m, .slice A9 x.kids.length c9] 25) := ⟨_, rfl⟩
    obtain ⟨b10, hb10⟩ : ∃ z, z = w9.heap.size := ⟨_, rfl⟩
    rw [← hw10] at k10 h10 hr10 hS10 ⊢
    rw [← hb10] at k10 ⊢
    clear hK K h9 hr9 hw10 hb10
    refine wpAnyH_ready (rs := [12]) (by kernel_rfl) (by simp) ?_
    refine AllReadyH.cons rfl (fun K hK => ?_) AllReadyH.nil
    refine step_append_any _ rfl (.tmp 58) (.tmp 62) 23 rfl W6.heap.size 25 i0 _ 4 48 Tryd.underlying23 hi hz0 hz1 hz2 rfl (by decide) (.slice A8 (nv + 1) c8) (nv + 1) (ys ++ nd t At ct) (by kernel_rfl) (by have h := h10.own; rw [List.length_append, ← HNV.out] at h; exact h) (b10 + 1) (some ⟨b10, 0, none⟩) 1 1 (nd x A9 c9) (by kernel_rfl) (lit_reads k10) (nd_one x A9 c9) (len_le (by omega)) (by omega) hS10.size ?_
    intro v11 w11 hown11 hgrow11 hnew11; obtain ⟨A11, c11, hv11, _⟩ := own_len hown11; subst hv11
    obtain ⟨h11, hb11⟩ := AR.put h10 hS10.size (Reps.one (hr10.deeper (d' := 13) (by omega))) rfl (by rw [List.length_append, ← HNV.out]; exact hown11) hgrow11
    have hS11 := hS10.trans hb11
    refine hK.out _ _ hS11 (fun _ => ?_)
    clear hK K k10 h10 hr10 hown11 hgrow11 hnew11 hb11
    refine wpAnyH_ready (rs := [13]) (by kernel_rfl) (by simp) ?_
    refine AllReadyH.cons rfl (fun K hK => ?_) AllReadyH.nil
    go_simp
    refine hK.out _ _ hS11 (fun _ => ?_)
    clear hK K
    refine wpAnyH_done (by kernel_rfl) ?_ _
    have HS11 := Lib.hid hS11
    have H11 := Lib.hid h11
    clear hS11 h11 hS8 hS9 hS10 hS
    -- region 7: Set
    obtain ⟨xq, hxq⟩ : ∃ z, z = moreF u t x vs := ⟨_, rfl⟩
    obtain ⟨q, hq⟩ : ∃ z : T, z = ⟨p.k, p.n, p.m, p.kids.set k xq⟩ := ⟨_, rfl⟩
    have hur := HRU6.out.range
    have hxl : xq.kids.length = nv + 1 + 1 := by rw [hxq]; show ((vs ++ [t]) ++ [x]).length = _; rw [HNV.out]; simp
    have hszu : size u ≤ 241 := by have h1 := size_kid HU.out; have h2 := HF.out.size; omega
    have hszt : size t ≤ 9 := HTS.out
    have hszx : size xq ≤ 300 := by
      have h1 := size_eq u
      rw [HKXS.out] at h1
      rw [hxq, size_eq]
      show 1 + (((vs ++ [t]) ++ [x]).map TR.size).sum ≤ 300
      simp only [List.map_append, List.map_cons, List.map_nil, List.sum_append, List.sum_cons, List.sum_nil] at h1 ⊢
      omega
    have hrq : Rep w11 (Lt w11.heap.size) 14 xq (nd xq A11 c11) := by
      rw [hxq]
      have h := H11.out
      have e : ((vs ++ [t]) ++ [x]).length = nv + 1 + 1 := by rw [HNV.out]; simp
      rw [← e] at h
      exact h.rep HS11.out.size (small (by omega) (by omega)) hur.2.1 (small (by omega) (by omega))
    obtain ⟨W12, hW12⟩ : ∃ W, W = w11.alloc (.cells #[.int .i64 (k : Int)] 3) := ⟨_, rfl⟩
    obtain ⟨g12, hg12⟩ : ∃ z, z = w11.heap.size := ⟨_, rfl⟩
    have hb12 : Below w11.heap.size w11 W12 := by rw [hW12]; exact below_new _ _
    have HB12 : Hid (Below W6.heap.size W6 W12) := Lib.hid (bt HS11.out hb12)
    have HSET : Hid (Calls Tryd.prog 31 #[.agg #[.int .i64 pk, .int .i64 pn, .int .i64 pm, .slice (some ⟨bk, ok, none⟩) np c1], .slice (some ⟨g12, 0, none⟩) 1 1, .agg #[.int .i64 26, .int .i64 u.n, .int .i64 0, .slice A11 (nv + 1 + 1) c11]] W12 fun e w' => ∃ (Aq : Option Addr) (cq D : Nat), e = .returned (.tuple #[.agg #[.int .i64 q.k, .int .i64 q.n, .int .i64 q.m, .slice Aq q.kids.length cq], .int .i64 0]) ∧ Rep w' (Lt w'.heap.size) D q (nd q Aq cq) ∧ Below W12.heap.size W12 w') := Lib.hid (by
      have hp12 : Rep W12 (Lt W12.heap.size) 14 p (nd p (some ⟨bk, ok, none⟩) c1) := rep_next HRP6.out HB12.out
      have hrd : Rd W12 (Lt W12.heap.size) 1 (some ⟨g12, 0, none⟩) [(k : Int)].length (vi [(k : Int)]) := by rw [hW12, hg12]; exact (Rd.of_reads (int_readsM w11 (k : Int))).mono fun b hb => by show b < _; rw [size_alloc]; exact hb
      have h := tset_is 14 14 p xq (Lt W12.heap.size) (Lt W12.heap.size) (Lt W12.heap.size) (some ⟨bk, ok, none⟩) A11 c1 c11 W12 [(k : Int)] (some ⟨g12, 0, none⟩) 1 hp12 (rep_next hrq hb12) hrd (In.lt _) (In.lt _) (In.lt _) (by have := HF.out.size; omega) (by omega) (by simp) (by simp)
      rw [HPP.1, HPP.2.1, HPP.2.2.1, HPP.2.2.2, hxl] at h
      have e1 : xq.k = 26 ∧ xq.n = u.n ∧ xq.m = 0 := by rw [hxq]; exact ⟨rfl, rfl, rfl⟩
      rw [e1.1, e1.2.1, e1.2.2] at h
      refine h.mono ?_
      rintro e w' ⟨y, Aq, cq, D, hy, he, hr, hb⟩
      rw [set_kid HU.out, ← hq] at hy he
      have hy2 : q = y := hy
      subst hy2
      exact ⟨Aq, cq, D, he, hr.mono fun b hb => hb.2, hb⟩)
    have HXQ := Lib.hid hxq
    have HQ := Lib.hid hq
    have HSZU := Lib.hid hszu
    have HSX := Lib.hid hszx
    obtain ⟨⟨x0, x1, x2, x3⟩, _⟩ := HCL.out W12 HB12.out
    have kx12 := HKX.out.below HB12.out HKX.out.lt
    have v1 : W12.cell? ⟨gx, 1, none⟩ = some (.int .i64 u.n) := kx12.cell 1
    obtain ⟨⟨z0, z1, z2, z3⟩, _⟩ := HCL.out w11 HS11.out
    have r12 : w11.alloc (.cells #[.int .i64 (k : Int)] 3) = W12 := hW12.symm
    have HG12 := Lib.hid hg12
    clear hxq hq hur hxl hszu hszt hszx hrq hW12 hg12 hb12 kx12
    go_upto_region 7 with fail
    repeat go_step
    rw [← HG12.out]
    refine HSET.out.mono ?_
    rintro e w13 ⟨Aq, cq, Dq, rfl, hrq, hb13⟩
    have HRQ := Lib.hid hrq; have HB13 := Lib.hid hb13
    clear hrq hb13
    go_simp
    rename_i hKK
    refine hKK _ _ ?_
    clear hKK
    clear x0 x1 x2 x3 v1 z0 z1 z2 z3 r12 HSET
    obtain ⟨gq, hgq⟩ : ∃ z, z = w13.heap.size := ⟨_, rfl⟩
    obtain ⟨W14, hW14⟩ : ∃ W, W = w13.alloc (.cells #[.int .i64 q.k, .int .i64 q.n, .int .i64 q.m, .slice Aq q.kids.length cq] 25) := ⟨_, rfl⟩
    have hb14 : Below w13.heap.size w13 W14 := by rw [hW14]; exact below_new _ _
    have hb6 : Below W6.heap.size W6 W14 := bt (bt HB12.out HB13.out) hb14
    have HB14 := Lib.hid hb6
    have HKQ : Hid (Blk W14 gq 25 #[.int .i64 q.k, .int .i64 q.n, .int .i64 q.m, .slice Aq q.kids.length cq]) := Lib.hid (by rw [hW14, hgq]; exact Blk.new _ _ _)
    have HRQ14 : Hid (Rep W14 (Lt W14.heap.size) Dq q (nd q Aq cq)) := Lib.hid (rep_next HRQ.out hb14)
    obtain ⟨gr, hgr⟩ : ∃ z, z = W14.heap.size := ⟨_, rfl⟩
    obtain ⟨W15, hW15⟩ : ∃ W, W = W14.alloc (.cells #[.int .i64 pk, .int .i64 pn, .int .i64 pm, .slice (some ⟨bk, ok, none⟩) np c1] 25) := ⟨_, rfl⟩
    have hb15 : Below W14.heap.size W14 W15 := by rw [hW15]; exact below_new _ _
    have HB15 : Hid (Below W6.heap.size W6 W15) := Lib.hid (bt hb6 hb15)
    have HBR : Hid (Below gr W14 W15) := Lib.hid (by rw [hgr]; exact hb15)
    have HKR : Hid (Blk W15 gr 25 #[.int .i64 pk, .int .i64 pn, .int .i64 pm, .slice (some ⟨bk, ok, none⟩) np c1]) := Lib.hid (by rw [hW15, hgr]; exact Blk.new _ _ _)
    have HGR : Hid (W6.heap.size ≤ gr ∧ W15.heap.size = gr + 1 ∧ gr = W14.heap.size ∧ gq < gr) := Lib.hid ⟨by rw [hgr]; exact hb6.size, by rw [hW15, hgr, size_alloc], hgr, by rw [hgr]; exact HKQ.out.lt⟩
    have HW14 := Lib.hid hW14
    have HW15 := Lib.hid hW15
    have HGQ := Lib.hid hgq
    have HGRR := Lib.hid hgr
    obtain ⟨⟨x0, x1, x2, x3⟩, _⟩ := HCL.out W14 hb6
    clear hgq hW14 hb14 hb6 hgr hW15 hb15
    go_upto_region 8 with fail
    rw [← HW14.out, ← HGQ.out]
    go_upto_region 10 with fail
    rw [← HW15.out, ← HGRR.out]
    clear x0 x1 x2 x3
    -- region 10: a function more
    have HGX6 : Hid (gp < W6.heap.size ∧ gx < W6.heap.size ∧ gt < W6.heap.size) := Lib.hid ⟨HKP.out.lt, HKX.out.lt, HKT.out.lt⟩
    have HL2 : Hid (∀ W, Below gr W15 W → W.cell? ⟨gp, 3, none⟩ = some (.slice (some ⟨bk, ok, none⟩) np c1) ∧ (W.cell? ⟨gx, 0, none⟩ = some (.int .i64 u.k) ∧ W.cell? ⟨gx, 1, none⟩ = some (.int .i64 u.n) ∧ W.cell? ⟨gx, 2, none⟩ = some (.int .i64 u.m) ∧ W.cell? ⟨gx, 3, none⟩ = some (.slice Au ul cu))) := Lib.hid fun W hb => by
      have hg := HGR.out
      have h6 := HGX6.out
      have e1 := (HKP.out.below HB15.out HKP.out.lt).below hb (by omega)
      have e2 := (HKX.out.below HB15.out HKX.out.lt).below hb (by omega)
      exact ⟨e1.cell 3, e2.cell 0, e2.cell 1, e2.cell 2, e2.cell 3⟩
    obtain ⟨zs, hrz, hsz⟩ := HRP6.out.kids
    rw [HPP.1] at hrz
    have HRZ : Hid (∀ W, Below gr W15 W → Rd W (Lt gr) 4 (some ⟨bk, ok, none⟩) np zs ∧ Reps W (Lt gr) 13 p.kids zs ∧ Rep W (Lt gr) 13 u (nd u Au cu)) := Lib.hid fun W hb => by
      have hg := HGR.out
      have hk1 : Keeps (Lt W6.heap.size) W6 W15 := Keeps.below (In.lt _) HB15.out
      have hk2 : Keeps (Lt W6.heap.size) W15 W := Keeps.below (fun b (h : b < W6.heap.size) => by omega) hb
      have hm : ∀ b, Lt W6.heap.size b → Lt gr b := fun b (h : b < W6.heap.size) => by show b < gr; omega
      exact ⟨((hrz.keep hk1).keep hk2).mono hm, ((hsz.keep hk1).keep hk2).mono hm, ((HRU6.out.keep hk1).keep hk2).mono hm⟩
    clear hrz hsz
    refine wp_region_held_drew (S := fun W => Below gr W15 W) (by kernel_rfl) (Below.refl _ _).drew (fun hS0 => ?_)
    refine wpAnyH_take (i := 0) (v := ?_) rfl (by kernel_rfl) (by kernel_rfl) (by kernel_rfl) (fun _ _ _ h => h) (Or.inl ⟨by rfl, ?_⟩) hS0 ?_; rotate_left; (intro w hSw; (try dsimp only at hSw); go_simp; try with_reducible rfl)
    refine wpAnyH_take (i := 1) (v := ?_) rfl (by kernel_rfl) (by kernel_rfl) (by kernel_rfl) (fun _ _ _ h => h) (Or.inl ⟨by rfl, ?_⟩) hS0 ?_; rotate_left; (intro w hSw; (try dsimp only at hSw); go_simp; try with_reducible rfl)
    refine wpAnyH_take (i := 2) (v := ?_) rfl (by kernel_rfl) (by kernel_rfl) (by kernel_rfl) (fun _ _ _ h => h) (Or.inl ⟨by rfl, ?_⟩) hS0 ?_; rotate_left; (intro w hSw; (try dsimp only at hSw); obtain ⟨z0, z1, z2, z3, z4⟩ := HL2.out w hSw; go_simp; try with_reducible rfl)
    refine wpAnyH_take (i := 4) (v := ?_) rfl (by kernel_rfl) (by kernel_rfl) (by kernel_rfl) (fun _ _ _ h => h) (Or.inl ⟨by rfl, ?_⟩) hS0 ?_; rotate_left; (intro w hSw; (try dsimp only at hSw); obtain ⟨z0, z1, z2, z3, z4⟩ := HL2.out w hSw; go_simp; try with_reducible rfl)
    conv => arg 8; simp [go_sem]
    conv => arg 7; simp
    have hgle : gr ≤ W15.heap.size := by have := HGR.out; omega
    refine wpAnyH_key 3 #[true, true, true, true, true, true, false, false, false] (fun a0 a w => ∃ (b8 : Nat) (A6 : Option Addr) (c6 : Nat), a = (Act.put (Act.put a0 (some 79) (.slice A6 np c6)) (some 81) (.slice (some ⟨b8, 0, none⟩) 1 1)) ∧ Below W15.heap.size W15 w ∧ AR gr W15.heap.size 13 w (.slice A6 np c6) p.kids zs ∧ Blk w b8 25 (nd u Au cu).toArray) ?_ (fun k0 => ?_)
    · rintro a w ⟨b8, A6, c6, rfl, hB, h6, k8⟩
      refine wpAnyH_ready (rs := [6]) (by kernel_rfl) (by simp) ?_
      refine AllReadyH.cons rfl (fun K hK => ?_) AllReadyH.nil
      have hgl : gr ≤ w.heap.size := Nat.le_trans hgle hB.size
      refine step_append_any _ rfl (.tmp 79) (.tmp 81) 23 rfl W15.heap.size 25 i0 _ 4 48 Tryd.underlying23 hi hz0 hz1 hz2 rfl (by decide) (.slice A6 np c6) np zs (by kernel_rfl) (by have h := h6.own; rw [HPP.1] at h; exact h) (b8 + 1) (some ⟨b8, 0, none⟩) 1 1 (nd u Au cu) (by kernel_rfl) (lit_reads k8) (nd_one u Au cu) (len_le (by omega)) (by omega) hB.size ?_
      intro v20 w20 hown20 hgrow20 hnew20; obtain ⟨A20, c20, hv20, _⟩ := own_len hown20; subst hv20
      obtain ⟨h20, hb20⟩ := AR.put h6 hB.size (Reps.one (HRZ.out w (hB.mono hgle)).2.2) rfl (by rw [HPP.1]; exact hown20) hgrow20
      have hB20 := hB.trans hb20
      refine hK.out _ _ (hB20.mono hgle) (fun hS20 => ?_)
      clear hK K k8 h6 hown20 hgrow20 hnew20 hb20
      refine wpAnyH_take (i := 7) (v := ?_) rfl (by kernel_rfl) (by kernel_rfl) (by kernel_rfl) (fun _ _ _ h => h) (Or.inl ⟨by rfl, ?_⟩) hS20 ?_; rotate_left; (intro w hSw; (try dsimp only at hSw); go_simp; try with_reducible rfl)
      have kr20 := HKR.out.below hB20 HKR.out.lt
      have cr3 := kr20.cell 3; have fr3 := kr20.frozen 3
      simp only [List.getElem?_toArray, List.getElem?_cons_zero, List.getElem?_cons_succ] at cr3
      refine wpAnyH_ready (rs := [8]) (by kernel_rfl) (by simp) ?_
      refine AllReadyH.cons rfl (fun K hK => ?_) AllReadyH.nil
      go_simp
      have hS21 : Below gr W15 (w20.setCell ⟨gr, 3, none⟩ (.slice A20 (np + 1) c20)) := (hB20.mono hgle).setCell (by show gr ≤ gr; omega) _
      refine hK.out _ _ hS21 (fun _ => ?_)
      clear hK K
      refine wpAnyH_done (by kernel_rfl) ?_ _
      obtain ⟨W21, hW21⟩ : ∃ W, W = w20.setCell ⟨gr, 3, none⟩ (.slice A20 (np + 1) c20) := ⟨_, rfl⟩
      have HK21 : Hid (Blk W21 gr 25 #[.int .i64 pk, .int .i64 pn, .int .i64 pm, .slice A20 (np + 1) c20]) := Lib.hid (by rw [hW21]; have h := kr20.set_ 3 (.slice A20 (np + 1) c20); simpa using h)
      have h21 : AR gr W15.heap.size 13 W21 (.slice A20 (np + 1) c20) (p.kids ++ [u]) (zs ++ nd u Au cu) := by rw [hW21]; exact h20.store (Nat.le_refl _) (by have := HGR.out; omega)
      rw [← hW21] at hS21 ⊢
      have HS21 := Lib.hid hS21
      have hsz21 : W15.heap.size ≤ W21.heap.size := by rw [hW21, World.size_setCell]; exact hB20.size
      obtain ⟨r, hr⟩ : ∃ z : T, z = ⟨p.k, p.n, p.m, p.kids ++ [u]⟩ := ⟨_, rfl⟩
      have hrl : r.kids.length = np + 1 := by rw [hr]; show (p.kids ++ [u]).length = _; rw [List.length_append, HPP.1]; rfl
      have HRR : Hid (Rep W21 (Lt W21.heap.size) 14 r (nd r A20 c20)) := Lib.hid (by
        have e : (p.kids ++ [u]).length = np + 1 := by rw [List.length_append, HPP.1]; rfl
        rw [← e] at h21
        have hpr := HRP6.out.range
        rw [hr]
        exact h21.rep hsz21 hpr.1 hpr.2.1 hpr.2.2)
      have HRE := Lib.hid hr
      have HRL := Lib.hid hrl
      have HSZ21 := Lib.hid hsz21
      clear hr hrl hsz21 h21 hS21 hW21 cr3 fr3 kr20 h20 hB20 hS20 hB hgl
      -- a channel more, and the row of the three
      have kp21 := (HKP.out.below HB15.out HKP.out.lt).below HS21.out (by have := HGX6.out; have := HGR.out; omega)
      have x0 := kp21.cell 0; have x1 := kp21.cell 1; have x2 := kp21.cell 2; have x3 := kp21.cell 3
      simp only [List.getElem?_toArray, List.getElem?_cons_zero, List.getElem?_cons_succ] at x0 x1 x2 x3
      obtain ⟨gs, hgs⟩ : ∃ z, z = W21.heap.size := ⟨_, rfl⟩
      obtain ⟨W22, hW22⟩ : ∃ W, W = W21.alloc (.cells #[.int .i64 pk, .int .i64 pn, .int .i64 pm, .slice (some ⟨bk, ok, none⟩) np c1] 25) := ⟨_, rfl⟩
      have hb22 : Below W21.heap.size W21 W22 := by rw [hW22]; exact below_new _ _
      have ks22 : Blk W22 gs 25 #[.int .i64 pk, .int .i64 pn, .int .i64 pm, .slice (some ⟨bk, ok, none⟩) np c1] := by rw [hW22, hgs]; exact Blk.new _ _ _
      have HW22 := Lib.hid hW22
      have HGS := Lib.hid hgs
      have hpn3 : 0 ≤ pn ∧ pn ≤ 3 := by
        have hpp : IsProg p := by have := HF.out.prog; unfold isProg at this; simpa using this
        have h2 := hpp.2.1
        unfold btw at h2
        simp only [Bool.and_eq_true, decide_eq_true_eq] at h2
        have := HPP.2.2.1
        omega
      clear hW22 hgs kp21
      go_upto_region 12 with fail
      rw [← HW22.out, ← HGS.out]
      clear x0 x1 x2 x3
      obtain ⟨pn1, hpn1⟩ : ∃ z, z = pn + 1 := ⟨_, rfl⟩
      have hnw : IntKind.i64.wrap (pn + 1) = pn1 := by rw [IntKind.wrap_i64]; omega
      have s1 : W22.cell? ⟨gs, 1, none⟩ = some (.int .i64 pn) := ks22.cell 1
      have s2 : W22.frozen? ⟨gs, 1, none⟩ = false := ks22.frozen 1
      obtain ⟨W23, hW23⟩ : ∃ W, W = W22.setCell ⟨gs, 1, none⟩ (.int .i64 pn1) := ⟨_, rfl⟩
      have hb23 : Below W21.heap.size W21 W23 := by rw [hW23]; exact hb22.setCell (by show W21.heap.size ≤ gs; rw [HGS.out]; exact Nat.le_refl _) _
      have ks23 : Blk W23 gs 25 #[.int .i64 pk, .int .i64 pn1, .int .i64 pm, .slice (some ⟨bk, ok, none⟩) np c1] := by rw [hW23]; have h := ks22.set_ 1 (.int .i64 pn1); simpa using h
      have kr23 := HK21.out.below hb23 HK21.out.lt
      have hbg : Below gr W14 W23 := (HBR.out.trans HS21.out).trans (hb23.mono (by have := HGR.out; have := HSZ21.out; omega))
      have kq23 := HKQ.out.below hbg HGR.out.2.2.2
      have q0 := kq23.cell 0; have q1 := kq23.cell 1; have q2 := kq23.cell 2; have q3 := kq23.cell 3
      have r0 := kr23.cell 0; have r1 := kr23.cell 1; have r2 := kr23.cell 2; have r3 := kr23.cell 3
      have t0 := ks23.cell 0; have t1 := ks23.cell 1; have t2 := ks23.cell 2; have t3 := ks23.cell 3
      simp only [List.getElem?_toArray, List.getElem?_cons_zero, List.getElem?_cons_succ] at q0 q1 q2 q3 r0 r1 r2 r3 t0 t1 t2 t3
      obtain ⟨ba_, hba⟩ : ∃ z, z = W23.heap.size := ⟨_, rfl⟩
      obtain ⟨W24, hW24⟩ : ∃ W, W = W23.alloc (.cells #[.int .i64 q.k, .int .i64 q.n, .int .i64 q.m, .slice Aq q.kids.length cq, .int .i64 pk, .int .i64 pn, .int .i64 pm, .slice A20 (np + 1) c20, .int .i64 pk, .int .i64 pn1, .int .i64 pm, .slice (some ⟨bk, ok, none⟩) np c1] 25) := ⟨_, rfl⟩
      have r24 : (bsN 3 #[(0, .agg #[.int .i64 q.k, .int .i64 q.n, .int .i64 q.m, .slice Aq q.kids.length cq]), (1, .agg #[.int .i64 pk, .int .i64 pn, .int .i64 pm, .slice A20 (np + 1) c20]), (2, .agg #[.int .i64 pk, .int .i64 pn1, .int .i64 pm, .slice (some ⟨bk, ok, none⟩) np c1])]).run Tryd.prog W23 = .ok (.slice (some ⟨ba_, 0, none⟩) 3 3) W24 := by rw [hW24, hba]; exact run_bs3 W23 _ _ _ _ _ _ _ _ _ _ _ _
      have k24 : Blk W24 ba_ 25 #[.int .i64 q.k, .int .i64 q.n, .int .i64 q.m, .slice Aq q.kids.length cq, .int .i64 pk, .int .i64 pn, .int .i64 pm, .slice A20 (np + 1) c20, .int .i64 pk, .int .i64 pn1, .int .i64 pm, .slice (some ⟨bk, ok, none⟩) np c1] := by rw [hW24, hba]; exact Blk.new _ _ _
      have hb24 : Below W23.heap.size W23 W24 := by rw [hW24]; exact below_new _ _
      have hb2124 : Below W21.heap.size W21 W24 := bt hb23 hb24
      have hbg24 : Below gr W14 W24 := hbg.trans (hb24.mono (by have := HGR.out; have := HSZ21.out; have := hb23.size; omega))
      have HY : Hid (∀ i, i < 3 → ∃ (y : T) (Ay : Option Addr) (cy D : Nat), (∀ j v, (nd y Ay cy)[j]? = some v → W24.cell? ⟨ba_, i * 4 + j, none⟩ = some v) ∧ Rep W24 (Lt W24.heap.size) D y (nd y Ay cy) ∧ size y ≤ 1000 ∧ (isProg y = true → chk y = ([], 0))) := Lib.hid (by
        have hpr := HRP6.out.range
        have hps := HF.out.size
        intro i hi3
        have h3 : i = 0 ∨ i = 1 ∨ i = 2 := by omega
        rcases h3 with rfl | rfl | rfl
        · refine ⟨q, Aq, cq, Dq, fun j v hv => by rw [k24.cell]; match j, hv with | 0, hv => exact hv | 1, hv => exact hv | 2, hv => exact hv | 3, hv => exact hv, ?_, ?_, ?_⟩
          · have h := HRQ14.out
            rw [← HGR.out.2.2.1] at h
            exact (h.keep (Keeps.below (In.lt _) hbg24)).mono fun b (hb : b < gr) => by have := HGR.out; have := HSZ21.out; have := hb2124.size; show b < _; omega
          · have h1 := sum_set TR.size xq p.kids k
            have h2 := size_eq p
            have h3 : size xq ≤ 300 := HSX.out
            rw [HQ.out, size_eq]
            show 1 + ((p.kids.set k xq).map TR.size).sum ≤ 1000
            omega
          · rw [HQ.out, HXQ.out]
            exact more_var HF.out HU.out HKXS.out HTY.out
        · refine ⟨r, A20, c20, 14, fun j v hv => ?_, ?_, ?_, ?_⟩
          · rw [k24.cell]
            have e : nd r A20 c20 = [.int .i64 pk, .int .i64 pn, .int .i64 pm, .slice A20 (np + 1) c20] := by unfold nd; rw [HRL.out, HRE.out]; show [Value.int .i64 p.k, .int .i64 p.n, .int .i64 p.m, _] = _; rw [HPP.2.1, HPP.2.2.1, HPP.2.2.2]
            rw [e] at hv
            match j, hv with | 0, hv => exact hv | 1, hv => exact hv | 2, hv => exact hv | 3, hv => exact hv
          · exact rep_next HRR.out hb2124
          · have h2 := size_eq p
            have h3 := HSZU.out
            rw [HRE.out, size_eq]
            show 1 + ((p.kids ++ [u]).map TR.size).sum ≤ 1000
            rw [List.map_append, List.sum_append]
            simp only [List.map_cons, List.map_nil, List.sum_cons, List.sum_nil]
            omega
          · rw [HRE.out]
            exact more_fun HF.out (List.mem_of_getElem? HU.out)
        · refine ⟨⟨p.k, p.n + 1, p.m, p.kids⟩, some ⟨bk, ok, none⟩, c1, 14, fun j v hv => ?_, ?_, ?_, ?_⟩
          · rw [k24.cell]
            have e : nd ⟨p.k, p.n + 1, p.m, p.kids⟩ (some ⟨bk, ok, none⟩) c1 = [.int .i64 pk, .int .i64 pn1, .int .i64 pm, .slice (some ⟨bk, ok, none⟩) np c1] := by unfold nd; show [Value.int .i64 p.k, .int .i64 (p.n + 1), .int .i64 p.m, .slice _ p.kids.length c1] = _; rw [HPP.1, HPP.2.1, HPP.2.2.1, HPP.2.2.2, hpn1]
            rw [e] at hv
            match j, hv with | 0, hv => exact hv | 1, hv => exact hv | 2, hv => exact hv | 3, hv => exact hv
          · have hrp24 : Rep W24 (Lt W24.heap.size) 14 p (nd p (some ⟨bk, ok, none⟩) c1) := rep_next (rep_next HRP6.out (HB14.out)) (by rw [← HGR.out.2.2.1]; exact hbg24)
            obtain ⟨zs2, h1, h2⟩ := hrp24.kids
            exact Rep.mk hpr.1 (small (by have := HPP.2.2.1; omega) (by have := HPP.2.2.1; omega)) hpr.2.2 hrp24.cap h1 h2
          · rw [size_eq] at hps ⊢
            show 1 + (p.kids.map TR.size).sum ≤ 1000
            omega
          · exact more_chan HF.out)
      have HB24 : Hid (Below wz.heap.size wz W24) := Lib.hid (bt (bt (bt HB1.out HB6.out) (HB15.out.trans (HS21.out.mono HGR.out.1))) hb2124)
      have HW23 := Lib.hid hW23
      have HBA := Lib.hid hba
      have HPN1 := Lib.hid hpn1
      clear hpn1 hb22 ks22 hW23 hb23 ks23 kr23 hbg kq23 hba hW24 k24 hb24 hb2124 hbg24
      go_upto_region 13 with fail
      rw [← HW23.out]
      go_upto_region 14 with fail
      clear q0 q1 q2 q3 r0 r1 r2 r3 t0 t1 t2 t3 r24 s1 s2 hnw
      have HBX : Hid (∀ W, Below W24.heap.size W24 W → ST W ∧ 0 < W.heap.size) := Lib.hid fun W hb => by
        have h := bt HB24.out hb
        exact ⟨HT.out.below h HG.out, Nat.lt_of_lt_of_le HG.out h.size⟩
      go_wp2_with fail
      go_loopw [22] (fun i wr => ∃ (kk : Nat), i = .int .i64 (kk : Int) ∧ kk ≤ 3 ∧ Hid (Below W24.heap.size W24 wr)) (fun i _ => 3 - (intOf i).toNat)
      case atStart => exact ⟨0, rfl, by omega, Below.refl _ _⟩
      case round =>
        obtain ⟨kk, rfl, hk3, HBR2⟩ := hrel
        obtain ⟨Wk, hWk⟩ : ∃ W, W = wr := ⟨_, rfl⟩
        subst hWk
        by_cases hlt : kk < 3
        · have hlt2 : (kk : Int) < 3 := by omega
          have hdk : decide (kk < 3) = true := by simpa using hlt
          have hkb2 : (0 : Int) ≤ (kk : Int) ∧ (kk : Int) < 3 := ⟨by omega, hlt2⟩
          obtain ⟨y, Ay, cy, D, hcell, hry, hsy, hch⟩ := HY.out kk hlt
          obtain ⟨yk, hyk⟩ : ∃ z, z = y.k := ⟨_, rfl⟩
          obtain ⟨yn, hyn⟩ : ∃ z, z = y.n := ⟨_, rfl⟩
          obtain ⟨ym, hym⟩ : ∃ z, z = y.m := ⟨_, rfl⟩
          obtain ⟨yl, hyl⟩ : ∃ z, z = y.kids.length := ⟨_, rfl⟩
          have hbl : ba_ < W24.heap.size := block_lt_of_cell (hcell 0 _ rfl)
          have HCY : Hid (∀ W, Below W24.heap.size W24 W → W.cell? ⟨ba_, kk * 4, none⟩ = some (.int .i64 yk) ∧ W.cell? ⟨ba_, kk * 4 + 1, none⟩ = some (.int .i64 yn) ∧ W.cell? ⟨ba_, kk * 4 + 2, none⟩ = some (.int .i64 ym) ∧ W.cell? ⟨ba_, kk * 4 + 3, none⟩ = some (.slice Ay yl cy)) := Lib.hid fun W hb => by
            have e : ∀ j v, (nd y Ay cy)[j]? = some v → W.cell? ⟨ba_, kk * 4 + j, none⟩ = some v := fun j v hv => (hb.cell (p := ⟨ba_, kk * 4 + j, none⟩) hbl).trans (hcell j v hv)
            exact ⟨by rw [hyk]; exact e 0 _ rfl, by rw [hyn]; exact e 1 _ rfl, by rw [hym]; exact e 2 _ rfl, by rw [hyl]; exact e 3 _ rfl⟩
          have HVAL : Hid (∀ W, Below W24.heap.size W24 W → Calls Tryd.prog 18 #[.agg #[.int .i64 yk, .int .i64 yn, .int .i64 ym, .slice Ay yl cy]] W fun e w' => e = .returned (.bool (isProg y)) ∧ Below W.heap.size W w') := Lib.hid fun W hb => by
            rw [hyk, hyn, hym, hyl]
            exact tvalid_is D y (Lt W.heap.size) Ay cy W (rep_next hry hb) (In.lt _) (by omega) (HBX.out W hb).1 (HBX.out W hb).2
          have HIS : Hid (isProg y = true → ∀ W, Below W24.heap.size W24 W → Calls Tryd.prog 16 #[.agg #[.int .i64 yk, .int .i64 yn, .int .i64 ym, .slice Ay yl cy], .slice none 0 0, .int .i64 0] W fun e w' => e = .returned (.bool true) ∧ Below W.heap.size W w') := Lib.hid fun hv W hb => by
            rw [hyk, hyn, hym, hyl]
            have hpp : IsProg y := by unfold isProg at hv; simpa using hv
            have hd : depth y ≤ 16 := hpp.2.2.2.1
            have hc := hch hv
            exact is_is 15 y Ay cy [] none 0 0 W ((rep_next hry hb).tight (by omega)) (by omega) (by omega) (HBX.out W hb).1 (HBX.out W hb).2 Reads.none_ (by simp) (by rw [hc]; simp) true (by rw [hc]; simp)
          obtain ⟨vb, hvb⟩ : ∃ v, v = isProg y := ⟨_, rfl⟩
          rw [← hvb] at HVAL HIS
          clear hcell hry hsy hch hyk hyn hym hyl hbl hvb
          obtain ⟨z0, z1, z2, z3⟩ := HCY.out Wk HBR2.out
          cases vb with
          | false =>
            go_wp2_with (go_at_call 18; refine (HVAL.out _ HBR2.out).mono ?_; rintro e wv ⟨rfl, hbv⟩; have HBV := Lib.hid hbv; clear hbv)
            go_roundw
            case rel => exact ⟨kk + 1, by go_num, by omega, bt HBR2.out HBV.out⟩
            case measure => simp [intOf]; omega
          | true =>
            go_wp2_with (first
              | (go_at_call 18; refine (HVAL.out _ HBR2.out).mono ?_; rintro e wv ⟨rfl, hbv⟩; have HBV := Lib.hid (bt HBR2.out hbv); obtain ⟨y0, y1, y2, y3⟩ := HCY.out _ HBV.out; clear hbv)
              | (go_at_call 16; refine (HIS.out (by trivial) _ HBV.out).mono ?_; rintro e ws ⟨rfl, hbs⟩; have HBS := Lib.hid (bt HBV.out hbs); clear hbs))
            go_roundw
            case rel => exact ⟨kk + 1, by go_num, by omega, HBS.out⟩
            case measure => simp [intOf]; omega
        · have hdk : decide (kk < 3) = false := by simpa using hlt
          go_wp2_with (go_at_call 17; refine (lives_is _ (HBX.out _ HBR2.out).1 (HBX.out _ HBR2.out).2).mono ?_; rintro e wl ⟨rfl, hbl⟩; have HBL := Lib.hid hbl; clear hbl)
          go_ret
          exact ⟨rfl, bt (bt HB24.out HBR2.out) HBL.out⟩
    have R11 := Lib.hid k0
    clear k0
    refine wpAnyH_key 4 #[true, true, true, true, true, false, false, false, false] (fun a0 a w => ∃ (b8 : Nat) (A6 : Option Addr) (c6 : Nat), a = (Act.put a0 (some 79) (.slice A6 np c6)) ∧ Below W15.heap.size W15 w ∧ AR gr W15.heap.size 13 w (.slice A6 np c6) p.kids zs) ?_ (fun k0 => ?_)
    · rintro a w ⟨b8, A6, c6, rfl, hB, h6⟩
      refine wpAnyH_ready (rs := [5]) (by kernel_rfl) (by simp) ?_
      refine AllReadyH.cons rfl (fun K hK => ?_) ?_
      · go_simp
        refine hK.out _ _ ((ba hB _).mono hgle) (fun _ => ?_)
        exact R11.out _ _ ⟨w.heap.size, A6, c6, by kernel_rfl, ba hB _, h6.later hB.size (below_new _ _), Blk.new_at _ _ rfl (by rw [HUL.out]; rfl)⟩
      exact AllReadyH.nil
    have R10 := Lib.hid k0
    clear k0
    refine wpAnyH_key 4 #[true, true, true, false, true, true, false, false, false] (fun a0 a w => ∃ (b8 : Nat) (A6 : Option Addr) (c6 : Nat), a = (Act.put a0 (some 81) (.slice (some ⟨b8, 0, none⟩) 1 1)) ∧ Below W15.heap.size W15 w ∧ Blk w b8 25 (nd u Au cu).toArray) ?_ (fun k0 => ?_)
    · rintro a w ⟨b8, A6, c6, rfl, hB, k8⟩
      refine wpAnyH_ready (rs := [3]) (by kernel_rfl) (by simp) ?_
      refine AllReadyH.cons rfl (fun K hK => ?_) ?_
      · obtain ⟨hrz, hsz, _⟩ := HRZ.out w (hB.mono hgle)
        have hgl : gr ≤ w.heap.size := Nat.le_trans hgle hB.size
        refine step_append_any _ rfl (.tmp 76) (.tmp 78) 23 rfl W15.heap.size 25 i0 _ 4 48 Tryd.underlying23 hi hz0 hz1 hz2 rfl (by decide) (.slice none 0 0) 0 [] (by kernel_rfl) (World.ownsRow_nil _ _ _ _) gr (some ⟨bk, ok, none⟩) np c1 zs (by kernel_rfl) (hrz.reads (In.lt _)) (reps_oneM hsz) (len_le (by omega)) (by omega) hB.size ?_
        intro v5 w5 hown5 hgrow5 hnew5; obtain ⟨A6, c6, hv5, _⟩ := own_len hown5; subst hv5
        obtain ⟨h6, hb6⟩ := AR.put (AR.nil (B0 := gr) (B := W15.heap.size) (D := 13) (w := w) hgle) hB.size hsz HPP.1 hown5 hgrow5
        simp only [List.nil_append] at h6
        have hn0 : 0 + np = np := Nat.zero_add np
        rw [hn0] at h6 ⊢
        refine hK.out _ _ ((hB.trans hb6).mono hgle) (fun _ => ?_)
        exact R11.out _ _ ⟨b8, A6, c6, by kernel_rfl, hB.trans hb6, h6, Blk.grown k8 hgrow5 (fun e => nomatch e)⟩
      exact AllReadyH.nil
    have R01 := Lib.hid k0
    clear k0
    obtain ⟨w, hw⟩ : ∃ w, w = W15.drew := ⟨_, rfl⟩
    have hB : Below W15.heap.size W15 w := by rw [hw]; exact (Below.refl _ _).drew
    have b8 : Nat := 0
    have A6 : Option Addr := none
    have c6 : Nat := 0
    rw [← hw]
    clear hw hS0
    refine wpAnyH_ready (rs := [3, 5]) (by kernel_rfl) (by simp) ?_
    refine AllReadyH.cons rfl (fun K hK => ?_) ?_
    · obtain ⟨hrz, hsz, _⟩ := HRZ.out w (hB.mono hgle)
      have hgl : gr ≤ w.heap.size := Nat.le_trans hgle hB.size
      refine step_append_any _ rfl (.tmp 76) (.tmp 78) 23 rfl W15.heap.size 25 i0 _ 4 48 Tryd.underlying23 hi hz0 hz1 hz2 rfl (by decide) (.slice none 0 0) 0 [] (by kernel_rfl) (World.ownsRow_nil _ _ _ _) gr (some ⟨bk, ok, none⟩) np c1 zs (by kernel_rfl) (hrz.reads (In.lt _)) (reps_oneM hsz) (len_le (by omega)) (by omega) hB.size ?_
      intro v5 w5 hown5 hgrow5 hnew5; obtain ⟨A6, c6, hv5, _⟩ := own_len hown5; subst hv5
      obtain ⟨h6, hb6⟩ := AR.put (AR.nil (B0 := gr) (B := W15.heap.size) (D := 13) (w := w) hgle) hB.size hsz HPP.1 hown5 hgrow5
      simp only [List.nil_append] at h6
      have hn0 : 0 + np = np := Nat.zero_add np
      rw [hn0] at h6 ⊢
      refine hK.out _ _ ((hB.trans hb6).mono hgle) (fun _ => ?_)
      exact R10.out _ _ ⟨b8, A6, c6, by kernel_rfl, hB.trans hb6, h6⟩
    refine AllReadyH.cons rfl (fun K hK => ?_) ?_
    · go_simp
      refine hK.out _ _ ((ba hB _).mono hgle) (fun _ => ?_)
      exact R01.out _ _ ⟨w.heap.size, A6, c6, by kernel_rfl, ba hB _, Blk.new_at _ _ rfl (by rw [HUL.out]; rfl)⟩
    exact AllReadyH.nil
  have K21 := Lib.hid k0
  clear k0
  refine wpAnyH_key 6 #[true, true, true, true, true, true, false, false, true, true, false, false, false, false] (fun a0 a w => ∃ (b7 : Nat) (A5 : Option Addr) (c5 : Nat), a = (Act.put (Act.put a0 (some 54) (.slice A2 nv c2)) (some 55) (.slice A5 nv c5)) ∧ Below W6.heap.size W6 w ∧ AR W6.heap.size W6.heap.size 13 w (.slice A5 nv c5) vs ys) ?_ (fun k0 => ?_)
  · rintro a w ⟨b7, A5, c5, rfl, hS, h5⟩
    refine wpAnyH_ready (rs := [6]) (by kernel_rfl) (by simp) ?_
    refine AllReadyH.cons rfl (fun K hK => ?_) ?_
    · go_simp
      refine hK.out _ _ (ba hS _) (fun _ => ?_)
      exact K21.out _ _ ⟨w.heap.size, A5, c5, by kernel_rfl, ba hS _, h5.later hS.size (below_new _ _), Blk.new_at _ _ rfl rfl⟩
    exact AllReadyH.nil
  have K20 := Lib.hid k0
  clear k0
  refine wpAnyH_key 6 #[true, true, true, true, false, true, true, false, true, true, false, false, false, false] (fun a0 a w => ∃ (b7 : Nat) (A5 : Option Addr) (c5 : Nat), a = (Act.put (Act.put a0 (some 54) (.slice A2 nv c2)) (some 57) (.slice (some ⟨b7, 0, none⟩) 1 1)) ∧ Below W6.heap.size W6 w ∧ Blk w b7 25 (nd t At ct).toArray) ?_ (fun k0 => ?_)
  · rintro a w ⟨b7, A5, c5, rfl, hS, k7⟩
    refine wpAnyH_ready (rs := [4]) (by kernel_rfl) (by simp) ?_
    refine AllReadyH.cons rfl (fun K hK => ?_) ?_
    · refine step_append_any _ rfl (.tmp 51) (.tmp 54) 23 rfl W6.heap.size 25 i0 _ 4 48 Tryd.underlying23 hi hz0 hz1 hz2 rfl (by decide) (.slice none 0 0) 0 [] (by kernel_rfl) (World.ownsRow_nil _ _ _ _) W6.heap.size A2 nv c2 ys (by kernel_rfl) ((HRY.out.keep (Keeps.below (In.lt _) hS)).reads (In.lt _)) (reps_oneM HSY.out) (len_le (by omega)) (by omega) hS.size ?_
      intro v5 w5 hown5 hgrow5 hnew5; obtain ⟨A5, c5, hv5, _⟩ := own_len hown5; subst hv5
      obtain ⟨h5, hb5⟩ := AR.put (AR.nil (B0 := W6.heap.size) (B := W6.heap.size) (D := 13) (w := w) (Nat.le_refl _)) hS.size (HSY.out.keep (Keeps.below (In.lt _) hS)) HNV.out.symm hown5 hgrow5
      simp only [Nat.zero_add, List.nil_append] at h5
      have hn0 : 0 + nv = nv := Nat.zero_add nv
      rw [hn0]
      refine hK.out _ _ (hS.trans hb5) (fun _ => ?_)
      exact K21.out _ _ ⟨b7, A5, c5, by kernel_rfl, hS.trans hb5, h5, Blk.grown k7 hgrow5 (fun e => nomatch e)⟩
    exact AllReadyH.nil
  have K11 := Lib.hid k0
  clear k0
  refine wpAnyH_key 7 #[true, true, true, true, false, true, false, false, true, true, false, false, false, false] (fun a0 a w => ∃ (b7 : Nat) (A5 : Option Addr) (c5 : Nat), a = (Act.put a0 (some 54) (.slice A2 nv c2)) ∧ Below W6.heap.size W6 w) ?_ (fun k0 => ?_)
  · rintro a w ⟨b7, A5, c5, rfl, hS⟩
    refine wpAnyH_ready (rs := [4, 6]) (by kernel_rfl) (by simp) ?_
    refine AllReadyH.cons rfl (fun K hK => ?_) ?_
    · refine step_append_any _ rfl (.tmp 51) (.tmp 54) 23 rfl W6.heap.size 25 i0 _ 4 48 Tryd.underlying23 hi hz0 hz1 hz2 rfl (by decide) (.slice none 0 0) 0 [] (by kernel_rfl) (World.ownsRow_nil _ _ _ _) W6.heap.size A2 nv c2 ys (by kernel_rfl) ((HRY.out.keep (Keeps.below (In.lt _) hS)).reads (In.lt _)) (reps_oneM HSY.out) (len_le (by omega)) (by omega) hS.size ?_
      intro v5 w5 hown5 hgrow5 hnew5; obtain ⟨A5, c5, hv5, _⟩ := own_len hown5; subst hv5
      obtain ⟨h5, hb5⟩ := AR.put (AR.nil (B0 := W6.heap.size) (B := W6.heap.size) (D := 13) (w := w) (Nat.le_refl _)) hS.size (HSY.out.keep (Keeps.below (In.lt _) hS)) HNV.out.symm hown5 hgrow5
      simp only [Nat.zero_add, List.nil_append] at h5
      have hn0 : 0 + nv = nv := Nat.zero_add nv
      rw [hn0]
      refine hK.out _ _ (hS.trans hb5) (fun _ => ?_)
      exact K20.out _ _ ⟨b7, A5, c5, by kernel_rfl, hS.trans hb5, h5⟩
    refine AllReadyH.cons rfl (fun K hK => ?_) ?_
    · go_simp
      refine hK.out _ _ (ba hS _) (fun _ => ?_)
      exact K11.out _ _ ⟨w.heap.size, A5, c5, by kernel_rfl, ba hS _, Blk.new_at _ _ rfl rfl⟩
    exact AllReadyH.nil
  have K10 := Lib.hid k0
  clear k0
  refine wpAnyH_key 7 #[true, true, true, false, false, true, true, false, true, true, false, false, false, false] (fun a0 a w => ∃ (b7 : Nat) (A5 : Option Addr) (c5 : Nat), a = (Act.put a0 (some 57) (.slice (some ⟨b7, 0, none⟩) 1 1)) ∧ Below W6.heap.size W6 w ∧ Blk w b7 25 (nd t At ct).toArray) ?_ (fun k0 => ?_)
  · rintro a w ⟨b7, A5, c5, rfl, hS, k7⟩
    refine wpAnyH_ready (rs := [3]) (by kernel_rfl) (by simp) ?_
    refine AllReadyH.cons rfl (fun K hK => ?_) ?_
    · go_simp
      go_at_call 25
      refine (HVC.out _ hS).mono ?_
      rintro e w3 ⟨rfl, hb3⟩
      try go_simp
      refine hK.out _ _ (hS.trans (hb3.mono hS.size)) (fun _ => ?_)
      exact K11.out _ _ ⟨b7, A5, c5, by kernel_rfl, hS.trans (hb3.mono hS.size), k7.below hb3 k7.lt⟩
    exact AllReadyH.nil
  have K01 := Lib.hid k0
  clear k0
  obtain ⟨w, hw⟩ : ∃ w, w = W6.drew := ⟨_, rfl⟩
  have hS : Below W6.heap.size W6 w := by rw [hw]; exact hS0
  have b7 : Nat := 0
  have A5 : Option Addr := none
  have c5 : Nat := 0
  rw [← hw]
  clear hw hS0
  refine wpAnyH_ready (rs := [3, 6]) (by kernel_rfl) (by simp) ?_
  refine AllReadyH.cons rfl (fun K hK => ?_) ?_
  · go_simp
    go_at_call 25
    refine (HVC.out _ hS).mono ?_
    rintro e w3 ⟨rfl, hb3⟩
    try go_simp
    refine hK.out _ _ (hS.trans (hb3.mono hS.size)) (fun _ => ?_)
    exact K10.out _ _ ⟨b7, A5, c5, by kernel_rfl, hS.trans (hb3.mono hS.size)⟩
  refine AllReadyH.cons rfl (fun K hK => ?_) ?_
  · go_simp
    refine hK.out _ _ (ba hS _) (fun _ => ?_)
    exact K01.out _ _ ⟨w.heap.size, A5, c5, by kernel_rfl, ba hS _, Blk.new_at _ _ rfl rfl⟩
  exact AllReadyH.nil
end Go.Proofs.YtlffmfdjifgfgaaDoor

/-
  The law TypesMore.
-/
namespace Go.Proofs.YtlffmfdjifgfgaaDoor
open Go.RowKit WM TR TY
theorem more_law (L : List Int) (A : Option Addr) (c : Nat) (way f kind nn : Int) (w : World) (hL : Rd w (Lt w.heap.size) 1 A L.length (vi L)) (hrL : ∀ x ∈ L, inRange x) (hlL : L.length ≤ 9223372036854775807) (hf : inRange f) (hk : inRange kind) (hn : inRange nn) (hT : ST w) (hg : 0 < w.heap.size) :
    Calls Tryd.prog 7 #[.slice A L.length c, .int .i64 way, .int .i64 f, .int .i64 kind, .int .i64 nn] w fun e w' => e = .returned (.bool true) ∧ Below w.heap.size w w' :=
  types_more_is madeC L A c way f kind nn w hL hrL hlL hf hk hn hT hg
end Go.Proofs.YtlffmfdjifgfgaaDoor
