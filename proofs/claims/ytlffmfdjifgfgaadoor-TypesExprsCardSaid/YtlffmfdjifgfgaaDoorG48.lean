/- Texts joined. -/
import Derived.Test.YtlffmfdjifgfgaaDoorG40
import Derived.Test.YtlffmfdjifgfgaaDoorG39
import Derived.Test.YtlffmfdjifgfgaaDoorG41
import Derived.Test.YtlffmfdjifgfgaaDoorG43
import Derived.Test.YtlffmfdjifgfgaaDoorG46
import Derived.Test.YtlffmfdjifgfgaaDoorG47
import Derived.Test.YtlffmfdjifgfgaaDoorG27
import Derived.Deep.RegionWith
import Derived.Deep.RegionHeld2
set_option linter.unusedVariables false
namespace Go.Proofs.YtlffmfdjifgfgaaDoor
open Go.RowKit WM TR TY

attribute [local go_sem ↓ high] shutB3
structure EY (W : World) (ba_ i : Nat) (y : T) (Ay : Option Addr) (cy : Nat) : Prop where
 cell : ∀ j v, (nd y Ay cy)[j]? = some v → W.cell? ⟨ba_, i * 4 + j, none⟩ = some v
 rep : Rep W (Lt W.heap.size) (1000) y (nd y Ay cy)
 size : size y ≤ 999
set_option maxRecDepth 100000 in
set_option maxHeartbeats 16000000 in
theorem types_exprs_is (HM : MadeC) (L M : List Int) (A B : Option Addr) (c cb : Nat) (con at_ how by_ : Int) (wz : World) (hL : Rd wz (Lt wz.heap.size) 1 A L.length (vi L)) (hM : Rd wz (Lt wz.heap.size) 1 B M.length (vi M)) (hrL : ∀ x ∈ L, inRange x) (hrM : ∀ x ∈ M, inRange x) (hlL : L.length ≤ 9223372036854775807) (hlM : M.length ≤ 9223372036854775807) (ha : inRange at_) (hh : inRange how) (hy : inRange by_) (hT : ST wz) (hg : 0 < wz.heap.size) :
  Calls Tryd.prog 9 #[.slice A L.length c, .slice B M.length cb, .int .i64 con, .int .i64 at_, .int .i64 how, .int .i64 by_] wz fun e w' => e = .returned (.bool true) ∧ Below wz.heap.size wz w' := by
 have HP := Lib.hid (lawProg_is HM L (Lt wz.heap.size) A c con wz hL (In.lt _) hrL hlL)
 have HPR : Hid (∀ W, Below wz.heap.size wz W → Calls Tryd.prog 12 #[.slice B M.length cb] W (ProgPost W)) := Lib.hid fun W hb => program_is M (Lt wz.heap.size) B cb W (hM.keep (Keeps.below (In.lt _) hb)) ((In.lt _).more hb.size) hrM hlM
 have HT := Lib.hid hT
 have HG := Lib.hid hg
 have HRR := Lib.hid (And.intro ha (And.intro hh hy))
 obtain ⟨nl, hnl⟩ : ∃ z, z = L.length := ⟨_, rfl⟩
 obtain ⟨nm, hnm⟩ : ∃ z, z = M.length := ⟨_, rfl⟩
 rw [← hnl] at HP ⊢
 rw [← hnm] at HPR ⊢
 clear hL hM hrL hrM hlL hlM hT hg hnl hnm HM ha hh hy
 go_enter Tryd.func9, Tryd.ntmps9
 go_upto_region 2 with (go_at_call 10; refine HP.out.mono ?_; rintro e V ⟨p, A1, c1, rfl, hf, hc, hp, hv⟩; have HF := Lib.hid hf; have HR := Lib.hid hp; have HV := Lib.hid hv; clear hf hc hp hv)
 obtain ⟨np, hnp⟩ : ∃ n, n = p.kids.length := ⟨_, rfl⟩
 obtain ⟨pk, hpk⟩ : ∃ z, z = p.k := ⟨_, rfl⟩
 obtain ⟨pn, hpn⟩ : ∃ z, z = p.n := ⟨_, rfl⟩
 obtain ⟨pm, hpm⟩ : ∃ z, z = p.m := ⟨_, rfl⟩
 have HPP : Hid (p.kids.length = np ∧ p.k = pk ∧ p.n = pn ∧ p.m = pm) := Lib.hid ⟨hnp.symm, hpk.symm, hpn.symm, hpm.symm⟩
 rw [← hnp, ← hpk, ← hpn, ← hpm]
 obtain ⟨gp, hgp⟩ : ∃ g, g = V.heap.size := ⟨_, rfl⟩
 obtain ⟨W1, hW1⟩ : ∃ W, W = V.alloc (.cells #[.int .i64 pk, .int .i64 pn, .int .i64 pm, .slice A1 np c1] 25) := ⟨_, rfl⟩
 have HB1 : Hid (Below wz.heap.size wz W1) := Lib.hid (by rw [hW1]; exact HV.out.alloc HV.out.size _)
 have HK1 : Hid (Blk W1 gp 25 #[.int .i64 pk, .int .i64 pn, .int .i64 pm, .slice A1 np c1]) := Lib.hid (by rw [hW1, hgp]; exact Blk.new _ _ _)
 have hrp : Rep W1 (Lt W1.heap.size) 14 p (nd p A1 c1) := by
  rw [hW1]
  exact (HR.out.keep (Keeps.below (fun b hb => hb.2) (below_new _ _))).mono fun b hb => by show b < _; rw [size_alloc]; have := hb.2; omega
 have HRP := Lib.hid hrp
 rw [← hW1, ← hgp]
 have HCL : Hid (∀ W, Below W1.heap.size W1 W → W.cell? ⟨gp, 0, none⟩ = some (.int .i64 pk) ∧ W.cell? ⟨gp, 1, none⟩ = some (.int .i64 pn) ∧ W.cell? ⟨gp, 2, none⟩ = some (.int .i64 pm) ∧ W.cell? ⟨gp, 3, none⟩ = some (.slice A1 np c1)) := Lib.hid fun W hb => by
  have e1 := HK1.out.below hb HK1.out.lt
  exact ⟨e1.cell 0, e1.cell 1, e1.cell 2, e1.cell 3⟩
 have HSP : Hid (∀ W, Below W1.heap.size W1 W → Calls Tryd.prog 11 #[.agg #[.int .i64 pk, .int .i64 pn, .int .i64 pm, .slice A1 np c1], .int .i64 at_, .int .i64 how, .int .i64 by_] W (SpPost p W)) := Lib.hid fun W hb => by
  have h := spoilt_is 14 p A1 c1 at_ how by_ W (rep_next HRP.out hb) (by have := HF.out.size; omega) HRR.out.1 HRR.out.2.1 HRR.out.2.2
  rw [HPP.out.1, HPP.out.2.1, HPP.out.2.2.1, HPP.out.2.2.2] at h
  exact h
 clear hnp hpk hpn hpm hW1 hgp hrp HV HR HP
 refine wp_region_held_drew (S := fun W => Below W1.heap.size W1 W) (by kernel_rfl) (Below.refl _ _).drew (fun hS0 => ?_)
 refine wpAnyH_take (i := 0) (v := ?_) rfl (by kernel_rfl) (by kernel_rfl) (by kernel_rfl) (fun _ _ _ h => h) (Or.inl ⟨by rfl, ?_⟩) hS0 ?_; rotate_left; (intro w hSw; (try dsimp only at hSw); obtain ⟨z0, z1, z2, z3⟩ := HCL.out w hSw; go_simp; try with_reducible rfl)
 refine wpAnyH_take (i := 1) (v := ?_) rfl (by kernel_rfl) (by kernel_rfl) (by kernel_rfl) (fun _ _ _ h => h) (Or.inl ⟨by rfl, ?_⟩) hS0 ?_; rotate_left; (intro w hSw; (try dsimp only at hSw); obtain ⟨z0, z1, z2, z3⟩ := HCL.out w hSw; go_simp; try with_reducible rfl)
 refine wpAnyH_take (i := 2) (v := ?_) rfl (by kernel_rfl) (by kernel_rfl) (by kernel_rfl) (fun _ _ _ h => h) (Or.inl ⟨by rfl, ?_⟩) hS0 ?_; rotate_left; (intro w hSw; (try dsimp only at hSw); go_simp; try with_reducible rfl)
 refine wpAnyH_take (i := 3) (v := ?_) rfl (by kernel_rfl) (by kernel_rfl) (by kernel_rfl) (fun _ _ _ h => h) (Or.inl ⟨by rfl, ?_⟩) hS0 ?_; rotate_left; (intro w hSw; (try dsimp only at hSw); go_simp; try with_reducible rfl)
 refine wpAnyH_take (i := 4) (v := ?_) rfl (by kernel_rfl) (by kernel_rfl) (by kernel_rfl) (fun _ _ _ h => h) (Or.inl ⟨by rfl, ?_⟩) hS0 ?_; rotate_left; (intro w hSw; (try dsimp only at hSw); go_simp; try with_reducible rfl)
 refine wpAnyH_take (i := 6) (v := ?_) rfl (by kernel_rfl) (by kernel_rfl) (by kernel_rfl) (fun _ _ _ h => h) (Or.inl ⟨by rfl, ?_⟩) hS0 ?_; rotate_left; (intro w hSw; (try dsimp only at hSw); go_simp; try with_reducible rfl)
 conv => arg 8; simp [go_sem]
 conv => arg 7; simp
 obtain ⟨w, hw⟩ : ∃ w, w = W1.drew := ⟨_, rfl⟩
 have hS : Below W1.heap.size W1 w := by rw [hw]; exact hS0
 rw [← hw]
 clear hw hS0
 refine wpAnyH_ready (rs := [5]) (by kernel_rfl) (by simp) ?_
 refine AllReadyH.cons rfl (fun K hK => ?_) AllReadyH.nil
 go_simp
 go_at_call 11
 refine (HSP.out _ hS).mono ?_
 rintro e w2 ⟨q, Aq, cq, Dq, rfl, hsq, hrq, hb2⟩
 try go_simp
 have hS2 := bt hS hb2
 refine hK.out _ _ hS2 (fun _ => ?_)
 have HSQ := Lib.hid hsq
 have HRQ := Lib.hid hrq
 have HS2 := Lib.hid hS2
 clear hK K hsq hrq hb2
 refine wpAnyH_ready (rs := [7]) (by kernel_rfl) (by simp) ?_
 refine AllReadyH.cons rfl (fun K hK => ?_) AllReadyH.nil
 go_simp
 go_at_call 12
 refine (HPR.out _ (bt HB1.out hS2)).mono ?_
 rintro e w3 ⟨r, Ar, cr, rfl, hir, hrr, hb3⟩
 try go_simp
 have hS3 := bt hS2 hb3
 refine hK.out _ _ hS3 (fun _ => ?_)
 clear hK K
 obtain ⟨ba_, hba⟩ : ∃ z, z = w3.heap.size := ⟨_, rfl⟩
 obtain ⟨W4, hW4⟩ : ∃ W, W = w3.alloc (.cells #[.int .i64 pk, .int .i64 pn, .int .i64 pm, .slice A1 np c1, .int .i64 q.k, .int .i64 q.n, .int .i64 q.m, .slice Aq q.kids.length cq, .int .i64 r.k, .int .i64 r.n, .int .i64 r.m, .slice Ar r.kids.length cr] 25) := ⟨_, rfl⟩
 have r34 : (bsN 3 #[(0, .agg #[.int .i64 pk, .int .i64 pn, .int .i64 pm, .slice A1 np c1]), (1, .agg #[.int .i64 q.k, .int .i64 q.n, .int .i64 q.m, .slice Aq q.kids.length cq]), (2, .agg #[.int .i64 r.k, .int .i64 r.n, .int .i64 r.m, .slice Ar r.kids.length cr])]).run Tryd.prog w3 = .ok (.slice (some ⟨ba_, 0, none⟩) 3 3) W4 := by rw [hW4, hba]; exact run_bs3 w3 _ _ _ _ _ _ _ _ _ _ _ _
 have k34 : Blk W4 ba_ 25 #[.int .i64 pk, .int .i64 pn, .int .i64 pm, .slice A1 np c1, .int .i64 q.k, .int .i64 q.n, .int .i64 q.m, .slice Aq q.kids.length cq, .int .i64 r.k, .int .i64 r.n, .int .i64 r.m, .slice Ar r.kids.length cr] := by rw [hW4, hba]; exact Blk.new _ _ _
 have hb34 : Below w3.heap.size w3 W4 := by rw [hW4]; exact below_new _ _
 have hS4 := bt hS3 hb34
 have HY : Hid (∀ i, i < 3 → ∃ (y : T) (Ay : Option Addr) (cy : Nat), EY W4 ba_ i y Ay cy) := Lib.hid (by
  intro i hi3
  have h3 : i = 0 ∨ i = 1 ∨ i = 2 := by omega
  rcases h3 with rfl | rfl | rfl
  ·refine ⟨p, A1, c1, fun j v hv => ?_, (rep_next HRP.out hS4).deeper (by omega), by have := HF.out.size; omega⟩
   rw [k34.cell]
   have e : nd p A1 c1 = [.int .i64 pk, .int .i64 pn, .int .i64 pm, .slice A1 np c1] := by unfold nd; rw [HPP.out.1, HPP.out.2.1, HPP.out.2.2.1, HPP.out.2.2.2]
   rw [e] at hv
   match j, hv with | 0, hv => exact hv | 1, hv => exact hv | 2, hv => exact hv | 3, hv => exact hv
  ·have h1 := HSQ.out
   have h2 := HF.out.size
   refine ⟨q, Aq, cq, fun j v hv => by rw [k34.cell]; match j, hv with | 0, hv => exact hv | 1, hv => exact hv | 2, hv => exact hv | 3, hv => exact hv, (rep_next HRQ.out (bt hb3 hb34)).tight (by have := depth_le_size q; omega), by omega⟩
  ·have h1 := hir.2.2.1
   exact ⟨r, Ar, cr, fun j v hv => by rw [k34.cell]; match j, hv with | 0, hv => exact hv | 1, hv => exact hv | 2, hv => exact hv | 3, hv => exact hv, (rep_next (hrr.mono fun b hb => hb.2) hb34).deeper (by omega), by omega⟩)
 have HB4 : Hid (Below wz.heap.size wz W4) := Lib.hid (bt HB1.out hS4)
 clear hba hW4 k34 hb34 hir hrr hb3 hS3
 refine wpAnyH_ready (rs := [8]) (by kernel_rfl) (by simp) ?_
 refine AllReadyH.cons rfl (fun K hK => ?_) AllReadyH.nil
 go_simp
 refine hK.out _ _ hS4 (fun _ => ?_)
 clear hK K r34
 refine wpAnyH_ready (rs := [9]) (by kernel_rfl) (by simp) ?_
 refine AllReadyH.cons rfl (fun K hK => ?_) AllReadyH.nil
 go_simp
 refine hK.out _ _ hS4 (fun _ => ?_)
 clear hK K
 refine wpAnyH_done (by kernel_rfl) ?_ _
 clear hS4 hS2 hS
 have HBX : Hid (∀ W, Below W4.heap.size W4 W → ST W ∧ 0 < W.heap.size) := Lib.hid fun W hb => by
  have h := bt HB4.out hb
  exact ⟨HT.out.below h HG.out, Nat.lt_of_lt_of_le HG.out h.size⟩
 go_wp2_with fail
 go_loopw [15] (fun i wr => ∃ (kk : Nat), i = .int .i64 (kk : Int) ∧ kk ≤ 3 ∧ Hid (Below W4.heap.size W4 wr)) (fun i _ => 3 - (intOf i).toNat)
 case atStart => exact ⟨0, rfl, by omega, Below.refl _ _⟩
 case round =>
  obtain ⟨kk, rfl, hk3, HBR⟩ := hrel
  obtain ⟨Wi, hWi⟩ : ∃ W, W = wr := ⟨_, rfl⟩
  subst hWi
  by_cases hlt : kk < 3
  ·have hlt2 : (kk : Int) < 3 := by omega
   have hdk : decide (kk < 3) = true := by simpa using hlt
   have hkb2 : (0 : Int) ≤ (kk : Int) ∧ (kk : Int) < 3 := ⟨by omega, hlt2⟩
   obtain ⟨y, Ay, cy, hey⟩ := HY.out kk hlt
   have HEY := Lib.hid hey
   obtain ⟨yk, hyk⟩ : ∃ z, z = y.k := ⟨_, rfl⟩
   obtain ⟨yn, hyn⟩ : ∃ z, z = y.n := ⟨_, rfl⟩
   obtain ⟨ym, hym⟩ : ∃ z, z = y.m := ⟨_, rfl⟩
   obtain ⟨yl, hyl⟩ : ∃ z, z = y.kids.length := ⟨_, rfl⟩
   have hbl : ba_ < W4.heap.size := block_lt_of_cell (hey.cell 0 _ rfl)
   have HCY : Hid (∀ W, Below W4.heap.size W4 W → W.cell? ⟨ba_, kk * 4, none⟩ = some (.int .i64 yk) ∧ W.cell? ⟨ba_, kk * 4 + 1, none⟩ = some (.int .i64 yn) ∧ W.cell? ⟨ba_, kk * 4 + 2, none⟩ = some (.int .i64 ym) ∧ W.cell? ⟨ba_, kk * 4 + 3, none⟩ = some (.slice Ay yl cy)) := Lib.hid fun W hb => by
    have e : ∀ j v, (nd y Ay cy)[j]? = some v → W.cell? ⟨ba_, kk * 4 + j, none⟩ = some v := fun j v hv => (hb.cell (p := ⟨ba_, kk * 4 + j, none⟩) hbl).trans (hey.cell j v hv)
    exact ⟨by rw [hyk]; exact e 0 _ rfl, by rw [hyn]; exact e 1 _ rfl, by rw [hym]; exact e 2 _ rfl, by rw [hyl]; exact e 3 _ rfl⟩
   have HYY : Hid (y.k = yk ∧ y.n = yn ∧ y.m = ym ∧ y.kids.length = yl) := Lib.hid ⟨hyk.symm, hyn.symm, hym.symm, hyl.symm⟩
   obtain ⟨ec, hec⟩ : ∃ z, z = (chk y).2 := ⟨_, rfl⟩
   obtain ⟨lc, hlc⟩ : ∃ z, z = (chk y).1.length := ⟨_, rfl⟩
   have HCHK : Hid (∀ W, Below W4.heap.size W4 W → Calls Tryd.prog 33 #[.agg #[.int .i64 yk, .int .i64 yn, .int .i64 ym, .slice Ay yl cy]] W fun e w' => ∃ A' c', e = .returned (.tuple #[.slice A' lc c', .int .i64 ec]) ∧ Below W.heap.size W w') := Lib.hid fun W hb => by
    rw [hyk, hyn, hym, hyl, hec, hlc]
    refine (check_is 999 y Ay cy W (rep_next hey.rep hb) (by omega) (by have := hey.size; omega) (HBX.out W hb).1 (HBX.out W hb).2).mono ?_
    rintro e w' ⟨A', c', he, _, hb'⟩
    exact ⟨A', c', he, hb'⟩
   obtain ⟨vb, hvb⟩ : ∃ v, v = isProg y := ⟨_, rfl⟩
   have HVAL : Hid (∀ W, Below W4.heap.size W4 W → Calls Tryd.prog 19 #[.agg #[.int .i64 yk, .int .i64 yn, .int .i64 ym, .slice Ay yl cy]] W fun e w' => e = .returned (.bool vb) ∧ Below W.heap.size W w') := Lib.hid fun W hb => by
    rw [hyk, hyn, hym, hyl, hvb]
    exact valid_is 1000 y (Lt W.heap.size) Ay cy W (rep_next hey.rep hb) (In.lt _) (by have := hey.size; omega)
   have HEC := Lib.hid hec
   have HVB := Lib.hid hvb
   clear hey hyk hyn hym hyl hbl hec hlc hvb
   obtain ⟨z0, z1, z2, z3⟩ := HCY.out Wi HBR.out
   by_cases he2 : ec = 2
   ·have hb2 : (ec == 2) = true := by simpa using he2
    go_wp2_with (go_at_call 33; refine (HCHK.out _ HBR.out).mono ?_; rintro e wc ⟨A5, c5, rfl, hbc⟩; have HBC := Lib.hid (bt HBR.out hbc); clear hbc)
    go_roundw
    case rel => exact ⟨kk + 1, by go_num, by omega, HBC.out⟩
    case measure => simp [intOf]; omega
   ·have hb2 : (ec == 2) = false := by simpa using he2
    clear he2
    cases vb with
    | false =>
     go_wp2_with (first
      | (go_at_call 33; refine (HCHK.out _ HBR.out).mono ?_; rintro e wc ⟨A5, c5, rfl, hbc⟩; have HBC := Lib.hid (bt HBR.out hbc); obtain ⟨y0, y1, y2, y3⟩ := HCY.out _ HBC.out; clear hbc)
      | (go_at_call 19; refine (HVAL.out _ HBC.out).mono ?_; rintro e wv ⟨rfl, hbv⟩; have HBV := Lib.hid (bt HBC.out hbv); clear hbv))
     go_roundw
     case rel => exact ⟨kk + 1, by go_num, by omega, HBV.out⟩
     case measure => simp [intOf]; omega
    | true =>
     go_wp2_with (first
      | (go_at_call 33; refine (HCHK.out _ HBR.out).mono ?_; rintro e wc ⟨A5, c5, rfl, hbc⟩; have HBC := Lib.hid (bt HBR.out hbc); obtain ⟨y0, y1, y2, y3⟩ := HCY.out _ HBC.out; clear hbc)
      | (go_at_call 19; refine (HVAL.out _ HBC.out).mono ?_; rintro e wv ⟨rfl, hbv⟩; have HBV := Lib.hid (bt HBC.out hbv); clear hbv))
     clear z0 z1 z2 z3 y0 y1 y2 y3
     have hiy : isProg y = true := HVB.out.symm
     have hyl9 : yl ≤ 999 := by have h1 := kids_lt y; have h2 := HEY.out.size; have h3 := HYY.out.2.2.2; omega
     go_loopw [18] (fun i wr => ∃ (ff : Nat), i = .int .i64 (ff : Int) ∧ ff ≤ yl ∧ Hid (Below W4.heap.size W4 wr)) (fun i _ => yl - (intOf i).toNat)
     case atStart => exact ⟨0, rfl, Nat.zero_le _, HBV.out⟩
     case round =>
      obtain ⟨ff, rfl, hff, HBF⟩ := hrel
      obtain ⟨Wf, hWf⟩ : ∃ W, W = wr := ⟨_, rfl⟩
      subst hWf
      obtain ⟨z0, z1, z2, z3⟩ := HCY.out Wf HBF.out
      by_cases hfl : ff < yl
      ·have hfl2 : (ff : Int) < (yl : Int) := by omega
       have hdf : decide (ff < yl) = true := by simpa using hfl
       obtain ⟨u, hu⟩ : ∃ u, y.kids[ff]? = some u := ⟨_, List.getElem?_eq_getElem (by rw [HYY.out.2.2.2]; exact hfl)⟩
       have hpku := prog_kid hiy (List.mem_of_getElem? hu)
       obtain ⟨x, hx⟩ : ∃ x, u.kids[u.kids.length - 1]? = some x := ⟨_, List.getElem?_eq_getElem (by have h1 := hpku.n0; have h2 := hpku.n1; omega)⟩
       have HU := Lib.hid hu
       have HX := Lib.hid hx
       have HSX : Hid (size x ≤ 999) := Lib.hid (by have h1 := size_kid hu; have h2 := size_kid hx; have h3 := HEY.out.size; omega)
       have HBO : Hid (∀ W, Below W4.heap.size W4 W → Calls Tryd.prog 32 #[.agg #[.int .i64 yk, .int .i64 yn, .int .i64 ym, .slice Ay yl cy], .int .i64 (ff : Int)] W fun e w' => ∃ A' c', e = .returned (.agg #[.int .i64 x.k, .int .i64 x.n, .int .i64 x.m, .slice A' x.kids.length c']) ∧ Rep w' (Lt W4.heap.size) 998 x (nd x A' c') ∧ Below W.heap.size W w') := Lib.hid fun W hb => by
        have h := rbody_is 998 y u x (Lt W4.heap.size) Ay cy ff W (HEY.out.rep.keep (Keeps.below (In.lt _) hb)) ((In.lt _).more hb.size) HU.out HX.out (by have h1 := kids_lt y; have h2 := HEY.out.size; omega) (by have := hpku.len; omega)
        rw [HYY.out.1, HYY.out.2.1, HYY.out.2.2.1, HYY.out.2.2.2] at h
        exact h
       clear hu hx hpku
       go_upto_region 12 with (first
        | (go_at_call 32; refine (HBO.out _ HBF.out).mono ?_; rintro e wb ⟨Ab, cb2, rfl, hrb, hbb⟩; have HRB := Lib.hid hrb; have HBB := Lib.hid (bt HBF.out hbb); clear hrb hbb)
        | (go_at_call 36; refine (exprsL_is 998 x (Lt W4.heap.size) Ab cb2 _ HRB.out ((In.lt _).more HBB.out.size) (by have := HSX.out; omega)).mono ?_; rintro e w5 ⟨Ae, ce, xs, rfl, hown, hreps, hb5⟩; have HOE := Lib.hid hown; have HRE := Lib.hid hreps; have HB5 := Lib.hid (bt HBB.out hb5); clear hown hreps hb5))
       clear z0 z1 z2 z3
       obtain ⟨ne, hne⟩ : ∃ n, n = (es x).length := ⟨_, rfl⟩
       have HNE := Lib.hid hne
       rw [← hne] at HOE ⊢
       clear hne
       go_wp2_with fail
       go_loopw [20] (fun i wr => ∃ (k3 : Nat), k3 ≤ ne ∧ i = .int .i64 (k3 : Int) ∧ Hid (Below w5.heap.size w5 wr)) (fun i _ => ne - (intOf i).toNat)
       case atStart => exact ⟨0, Nat.zero_le _, rfl, Below.refl _ _⟩
       case round =>
        obtain ⟨k3, hk3n, rfl, HBE⟩ := hrel
        obtain ⟨Wk, hWk⟩ : ∃ W, W = wr := ⟨_, rfl⟩
        subst hWk
        have HBK : Hid (Below W4.heap.size W4 Wk) := Lib.hid (bt HB5.out HBE.out)
        by_cases hkn : k3 < ne
        ·have hkn2 : (k3 : Int) < (ne : Int) := by omega
         have hdn : decide (k3 < ne) = true := by simpa using hkn
         by_cases hk60 : k3 < 60
         ·have hk602 : (k3 : Int) < 60 := by omega
          have hd60 : decide (k3 < 60) = true := by simpa using hk60
          obtain ⟨ex, hex⟩ : ∃ ex, (es x)[k3]? = some ex := ⟨_, List.getElem?_eq_getElem (by rw [← HNE.out]; exact hkn)⟩
          obtain ⟨be, cape, hve, hbe, hbel⟩ := HOE.out.form (by omega)
          have hA : Ae = some ⟨be, 0, none⟩ := by injection hve
          subst hA
          have hre := HRE.out.2 k3 ex hex
          obtain ⟨A9, c9, hnd9, _⟩ := hre.form
          rw [hnd9] at hre
          obtain ⟨ek, hek⟩ : ∃ z, z = ex.k := ⟨_, rfl⟩
          obtain ⟨en, hen⟩ : ∃ z, z = ex.n := ⟨_, rfl⟩
          obtain ⟨em, hem⟩ : ∃ z, z = ex.m := ⟨_, rfl⟩
          obtain ⟨el, hel⟩ : ∃ z, z = ex.kids.length := ⟨_, rfl⟩
          have HCE : Hid (∀ W, Below Wk.heap.size Wk W → W.cell? ⟨be, k3 * 4, none⟩ = some (.int .i64 ek) ∧ W.cell? ⟨be, k3 * 4 + 1, none⟩ = some (.int .i64 en) ∧ W.cell? ⟨be, k3 * 4 + 2, none⟩ = some (.int .i64 em) ∧ W.cell? ⟨be, k3 * 4 + 3, none⟩ = some (.slice A9 el c9)) := Lib.hid fun W hb => by
           have hb2 := HBE.out.trans (hb.mono HBE.out.size)
           have e : ∀ i v, (nd ex A9 c9)[i]? = some v → W.cell? ⟨be, k3 * 4 + i, none⟩ = some v := fun i v hv => by
            have hi4 : i < 4 := (List.getElem?_eq_some_iff.1 hv).1
            rw [hb2.cell (p := ⟨be, k3 * 4 + i, none⟩) hbel, HOE.out.cellAt (k3 * 4 + i) (by omega)]
            rw [← hnd9, List.getElem?_take, if_pos hi4, List.getElem?_drop] at hv
            exact hv
           exact ⟨by rw [hek]; exact e 0 _ rfl, by rw [hen]; exact e 1 _ rfl, by rw [hem]; exact e 2 _ rfl, by rw [hel]; exact e 3 _ rfl⟩
          obtain ⟨r1, hr1⟩ : ∃ z, z = (ofK y (ff : Int) ex).1 := ⟨_, rfl⟩
          obtain ⟨r2, hr2⟩ : ∃ z, z = (ofK y (ff : Int) ex).2 := ⟨_, rfl⟩
          have HOF : Hid (∀ W, Below Wk.heap.size Wk W → Calls Tryd.prog 29 #[.agg #[.int .i64 yk, .int .i64 yn, .int .i64 ym, .slice Ay yl cy], .int .i64 (ff : Int), .agg #[.int .i64 ek, .int .i64 en, .int .i64 em, .slice A9 el c9]] W fun e w' => e = .returned (.tuple #[.agg #[.int .i64 r1, .int .i64 0, .int .i64 0, .slice none 0 0], .int .i64 r2]) ∧ Below W.heap.size W w') := Lib.hid fun W hb => by
           have hbW := bt HBK.out hb
           have hx9 : Rep W (Lt W.heap.size) 1000 ex (nd ex A9 c9) := ((hre.keep (Keeps.below (fun b (h : b < W4.heap.size) => Nat.lt_of_lt_of_le h HB5.out.size) (HBE.out.trans (hb.mono HBE.out.size)))).mono fun b (h : b < W4.heap.size) => Nat.lt_of_lt_of_le h hbW.size).deeper (by omega)
           have h := of_is 999 y ex (ff : Int) Ay A9 cy c9 W (rep_next HEY.out.rep hbW) hx9 (by omega) (by have := HEY.out.size; omega) (by have h1 := (es_sub x ex (List.mem_of_getElem? hex)).1; have h2 := HSX.out; omega) (HBX.out W hbW).1 (HBX.out W hbW).2
           rw [HYY.out.1, HYY.out.2.1, HYY.out.2.2.1, HYY.out.2.2.2, ← hek, ← hen, ← hem, ← hel, ← hr1, ← hr2] at h
           exact h
          have HGD : Hid ((ec = 0 → r2 = 0) ∧ (r2 = 0 → r1 = 0 ∨ r1 = 1)) := Lib.hid (by
           have h := of_good hiy HU.out HX.out (List.mem_of_getElem? hex)
           rw [← HEC.out, ← hr1, ← hr2] at h
           exact h)
          have hbn : (0 : Int) ≤ (k3 : Int) ∧ (k3 : Int) < (ne : Int) := ⟨by omega, hkn2⟩
          clear hex hve hbe hbel hre hnd9 hek hen hem hel hr1 hr2
          go_upto_region 15 with fail
          refine wp_region_held_drew (S := fun W => Below Wk.heap.size Wk W) (by kernel_rfl) (Below.refl _ _).drew (fun hS0 => ?_)
          refine wpAnyH_take (i := 0) (v := ?_) rfl (by kernel_rfl) (by kernel_rfl) (by kernel_rfl) (fun _ _ _ h => h) (Or.inl ⟨by rfl, ?_⟩) hS0 ?_; rotate_left; (intro w hSw; (try dsimp only at hSw); go_simp; try with_reducible rfl)
          refine wpAnyH_take (i := 1) (v := ?_) rfl (by kernel_rfl) (by kernel_rfl) (by kernel_rfl) (fun _ _ _ h => h) (Or.inl ⟨by rfl, ?_⟩) hS0 ?_; rotate_left; (intro w hSw; (try dsimp only at hSw); go_simp; try with_reducible rfl)
          refine wpAnyH_take (i := 2) (v := ?_) rfl (by kernel_rfl) (by kernel_rfl) (by kernel_rfl) (fun _ _ _ h => h) (Or.inl ⟨by rfl, ?_⟩) hS0 ?_; rotate_left; (intro w hSw; (try dsimp only at hSw); go_simp; try with_reducible rfl)
          refine wpAnyH_take (i := 3) (v := ?_) rfl (by kernel_rfl) (by kernel_rfl) (by kernel_rfl) (fun _ _ _ h => h) (Or.inl ⟨by rfl, ?_⟩) hS0 ?_; rotate_left; (intro w hSw; (try dsimp only at hSw); obtain ⟨z0, z1, z2, z3⟩ := HCY.out w (HBK.out.trans (hSw.mono HBK.out.size)); obtain ⟨v0, v1, v2, v3⟩ := HCE.out w hSw; go_simp; try with_reducible rfl)
          refine wpAnyH_take (i := 4) (v := ?_) rfl (by kernel_rfl) (by kernel_rfl) (by kernel_rfl) (fun _ _ _ h => h) (Or.inl ⟨by rfl, ?_⟩) hS0 ?_; rotate_left; (intro w hSw; (try dsimp only at hSw); go_simp; try with_reducible rfl)
          refine wpAnyH_take (i := 5) (v := ?_) rfl (by kernel_rfl) (by kernel_rfl) (by kernel_rfl) (fun _ _ _ h => h) (Or.inl ⟨by rfl, ?_⟩) hS0 ?_; rotate_left; (intro w hSw; (try dsimp only at hSw); go_simp; try with_reducible rfl)
          refine wpAnyH_take (i := 6) (v := ?_) rfl (by kernel_rfl) (by kernel_rfl) (by kernel_rfl) (fun _ _ _ h => h) (Or.inl ⟨by rfl, ?_⟩) hS0 ?_; rotate_left; (intro w hSw; (try dsimp only at hSw); go_simp; try with_reducible rfl)
          refine wpAnyH_take (i := 7) (v := ?_) rfl (by kernel_rfl) (by kernel_rfl) (by kernel_rfl) (fun _ _ _ h => h) (Or.inl ⟨by rfl, ?_⟩) hS0 ?_; rotate_left; (intro w hSw; (try dsimp only at hSw); go_simp; try with_reducible rfl)
          refine wpAnyH_take (i := 8) (v := ?_) rfl (by kernel_rfl) (by kernel_rfl) (by kernel_rfl) (fun _ _ _ h => h) (Or.inl ⟨by rfl, ?_⟩) hS0 ?_; rotate_left; (intro w hSw; (try dsimp only at hSw); obtain ⟨z0, z1, z2, z3⟩ := HCY.out w (HBK.out.trans (hSw.mono HBK.out.size)); obtain ⟨v0, v1, v2, v3⟩ := HCE.out w hSw; go_simp; try with_reducible rfl)
          conv => arg 8; simp [go_sem]
          conv => arg 7; simp
          refine wpAnyH_key 2 #[true, true, true, true, true, true, true, true, true, true, true, true, true, true, false, false] (fun a0 a w => ∃ b21 : Nat, a = (Act.put (Act.put (Act.put (Act.put (Act.put a0 (some 96) (.tuple #[.agg #[.int .i64 r1, .int .i64 0, .int .i64 0, .slice none 0 0], .int .i64 r2])) (some 86) (.tuple #[.agg #[.int .i64 r1, .int .i64 0, .int .i64 0, .slice none 0 0], .int .i64 r2])) (some 97) (.agg #[.int .i64 r1, .int .i64 0, .int .i64 0, .slice none 0 0])) (some 98) (.int .i64 r2)) (some 21) (.pointer (some ⟨b21, 0, none⟩))) ∧ Below Wk.heap.size Wk w ∧ Blk w b21 25 #[.int .i64 0, .int .i64 0, .int .i64 0, .slice none 0 0] ∧ Wk.heap.size ≤ b21) ?_ (fun k0 => ?_)
          ·rintro a w ⟨b21, rfl, hB, hk, hle⟩
           have c0 := hk.cell 0; have c1 := hk.cell 1; have c2 := hk.cell 2; have c3 := hk.cell 3; have f0 := hk.frozen 0; have f1 := hk.frozen 1; have f2 := hk.frozen 2; have f3 := hk.frozen 3
           simp only [List.getElem?_toArray, List.getElem?_cons_zero, List.getElem?_cons_succ] at c0 c1 c2 c3
           refine wpAnyH_ready (rs := [14]) (by kernel_rfl) (by simp) ?_
           refine AllReadyH.cons rfl (fun K hK => ?_) AllReadyH.nil
           go_simp
           have hB7 : Below Wk.heap.size Wk ((((w.setCell ⟨b21, 0, none⟩ (.int .i64 r1)).setCell ⟨b21, 1, none⟩ (.int .i64 0)).setCell ⟨b21, 2, none⟩ (.int .i64 0)).setCell ⟨b21, 3, none⟩ (.slice none 0 0)) := put4_below hB _ _ _ _ hle
           have hk7 : Blk ((((w.setCell ⟨b21, 0, none⟩ (.int .i64 r1)).setCell ⟨b21, 1, none⟩ (.int .i64 0)).setCell ⟨b21, 2, none⟩ (.int .i64 0)).setCell ⟨b21, 3, none⟩ (.slice none 0 0)) b21 25 #[.int .i64 r1, .int .i64 0, .int .i64 0, .slice none 0 0] := by
            have h := (((hk.set_ 0 (.int .i64 r1)).set_ 1 (.int .i64 0)).set_ 2 (.int .i64 0)).set_ 3 (.slice none 0 0)
            simpa using h
           refine hK.out _ _ hB7 (fun _ => ?_)
           obtain ⟨W7, hW7⟩ : ∃ W, W = ((((w.setCell ⟨b21, 0, none⟩ (.int .i64 r1)).setCell ⟨b21, 1, none⟩ (.int .i64 0)).setCell ⟨b21, 2, none⟩ (.int .i64 0)).setCell ⟨b21, 3, none⟩ (.slice none 0 0)) := ⟨_, rfl⟩
           rw [← hW7] at hB7 hk7 ⊢
           clear hK K hW7 c0 c1 c2 c3 f0 f1 f2 f3 hB hk hle
           refine wpAnyH_ready (rs := [15]) (by kernel_rfl) (by simp) ?_
           refine AllReadyH.cons rfl (fun K hK => ?_) AllReadyH.nil
           go_simp
           refine hK.out _ _ hB7 (fun _ => ?_)
           clear hK K
           refine wpAnyH_done (by kernel_rfl) ?_ _
           have t0 := hk7.cell 0
           simp only [List.getElem?_toArray, List.getElem?_cons_zero, List.getElem?_cons_succ] at t0
           have HB7 : Hid (Below w5.heap.size w5 W7) := Lib.hid (bt HBE.out hB7)
           clear hk7 hB7
           by_cases h2 : r2 = 0
           ·have h1 := HGD.out.2 h2
            subst h2
            rcases h1 with rfl | rfl
            all_goals
             go_wp2_with fail
             go_roundw
             case rel => exact ⟨k3 + 1, by omega, by go_num, HB7.out⟩
             case measure => simp [intOf]; omega
           ·have h3 : (r2 != 0) = true := by simpa using h2
            have h4 : (r2 == 0) = false := by simpa using h2
            have h5 : (ec == 0) = false := by
             have : ec ≠ 0 := fun h => h2 (HGD.out.1 h)
             simpa using this
            clear h2
            go_wp2_with fail
            go_roundw
            case rel => exact ⟨k3 + 1, by omega, by go_num, HB7.out⟩
            case measure => simp [intOf]; omega
          have KJ := Lib.hid k0
          clear k0
          obtain ⟨w, hw⟩ : ∃ w, w = Wk.drew := ⟨_, rfl⟩
          have hS : Below Wk.heap.size Wk w := by rw [hw]; exact hS0
          rw [← hw]
          clear hw hS0
          refine wpAnyH_ready (rs := [9, 13]) (by kernel_rfl) (by simp) ?_
          refine AllReadyH.cons rfl (fun K hK => ?_) ?_
          ·go_simp
           go_at_call 29
           refine (HOF.out _ hS).mono ?_
           rintro e w8 ⟨rfl, hb8⟩
           try go_simp
           have hS8 := bt hS hb8
           refine hK.out _ _ hS8 (fun _ => ?_)
           clear hK K
           refine wpAnyH_take (i := 10) (v := ?_) rfl (by kernel_rfl) (by kernel_rfl) (by kernel_rfl) (fun _ _ _ h => h) (Or.inl ⟨by rfl, ?_⟩) hS8 ?_; rotate_left; (intro w hSw; (try dsimp only at hSw); go_simp; try with_reducible rfl)
           refine wpAnyH_take (i := 11) (v := ?_) rfl (by kernel_rfl) (by kernel_rfl) (by kernel_rfl) (fun _ _ _ h => h) (Or.inl ⟨by rfl, ?_⟩) hS8 ?_; rotate_left; (intro w hSw; (try dsimp only at hSw); go_simp; try with_reducible rfl)
           refine wpAnyH_take (i := 12) (v := ?_) rfl (by kernel_rfl) (by kernel_rfl) (by kernel_rfl) (fun _ _ _ h => h) (Or.inl ⟨by rfl, ?_⟩) hS8 ?_; rotate_left; (intro w hSw; (try dsimp only at hSw); go_simp; try with_reducible rfl)
           refine wpAnyH_ready (rs := [13]) (by kernel_rfl) (by simp) ?_
           refine AllReadyH.cons rfl (fun K hK => ?_) AllReadyH.nil
           go_simp
           refine hK.out _ _ (ba hS8 _) (fun _ => ?_)
           exact KJ.out _ _ ⟨w8.heap.size, by kernel_rfl, ba hS8 _, Blk.new_at _ _ rfl rfl, hS8.size⟩
          refine AllReadyH.cons rfl (fun K hK => ?_) AllReadyH.nil
          go_simp
          have hS9 := ba hS (.cells #[.int .i64 0, .int .i64 0, .int .i64 0, .slice none 0 0] 25)
          refine hK.out _ _ hS9 (fun _ => ?_)
          clear hK K
          refine wpAnyH_ready (rs := [9]) (by kernel_rfl) (by simp) ?_
          refine AllReadyH.cons rfl (fun K hK => ?_) AllReadyH.nil
          go_simp
          go_at_call 29
          refine (HOF.out _ hS9).mono ?_
          rintro e w8 ⟨rfl, hb8⟩
          try go_simp
          have hS8 := bt hS9 hb8
          refine hK.out _ _ hS8 (fun _ => ?_)
          clear hK K
          refine wpAnyH_take (i := 10) (v := ?_) rfl (by kernel_rfl) (by kernel_rfl) (by kernel_rfl) (fun _ _ _ h => h) (Or.inl ⟨by rfl, ?_⟩) hS8 ?_; rotate_left; (intro w hSw; (try dsimp only at hSw); go_simp; try with_reducible rfl)
          refine wpAnyH_take (i := 11) (v := ?_) rfl (by kernel_rfl) (by kernel_rfl) (by kernel_rfl) (fun _ _ _ h => h) (Or.inl ⟨by rfl, ?_⟩) hS8 ?_; rotate_left; (intro w hSw; (try dsimp only at hSw); go_simp; try with_reducible rfl)
          refine wpAnyH_take (i := 12) (v := ?_) rfl (by kernel_rfl) (by kernel_rfl) (by kernel_rfl) (fun _ _ _ h => h) (Or.inl ⟨by rfl, ?_⟩) hS8 ?_; rotate_left; (intro w hSw; (try dsimp only at hSw); go_simp; try with_reducible rfl)
          exact KJ.out _ _ ⟨w.heap.size, by kernel_rfl, hS8, (Blk.new_at w 25 rfl (show (#[.int .i64 0, .int .i64 0, .int .i64 0, .slice none 0 0] : Array Value) = #[.int .i64 0, .int .i64 0, .int .i64 0, .slice none 0 0] from rfl)).below hb8 (by rw [size_alloc]; omega), hS.size⟩
         ·have hd60 : decide (k3 < 60) = false := by simpa using hk60
          go_wp2_with fail
          go_roundw
          case rel => exact ⟨ff + 1, by go_num, by omega, HBK.out⟩
          case measure => simp [intOf]; omega
        ·have hdn : decide (k3 < ne) = false := by simpa using hkn
         go_wp2_with fail
         go_roundw
         case rel => exact ⟨ff + 1, by go_num, by omega, HBK.out⟩
         case measure => simp [intOf]; omega
      ·have hdf : decide (ff < yl) = false := by simpa using hfl
       go_wp2_with fail
       go_roundw
       case rel => exact ⟨kk + 1, by go_num, by omega, HBF.out⟩
       case measure => simp [intOf]; omega
  ·have hdk : decide (kk < 3) = false := by simpa using hlt
   go_wp2_with (go_at_call 17; refine (lives_is _ (HBX.out _ HBR.out).1 (HBX.out _ HBR.out).2).mono ?_; rintro e wl ⟨rfl, hbl⟩; have HBL := Lib.hid hbl; clear hbl)
   go_ret
   exact ⟨rfl, bt (bt HB4.out HBR.out) HBL.out⟩
end Go.Proofs.YtlffmfdjifgfgaaDoor
