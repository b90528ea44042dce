/-
  The law TypesLess: the walk.
-/
import Derived.Test.YtlffmfdjifgfgaaDoorG42
import Derived.Test.YtlffmfdjifgfgaaDoorG45
import Derived.Test.YtlffmfdjifgfgaaDoorG46
import Derived.Test.YtlffmfdjifgfgaaDoorG05
import Derived.Deep.RegionWith
set_option linter.unusedVariables false
namespace Go.Proofs.YtlffmfdjifgfgaaDoor
open Go.RowKit WM TR TY

theorem put4_belowW {B : Nat} {a w : World} (h : Below B a w) {r : Nat} (v0 v1 v2 v3 : Value) (hr : B ≤ r) :
    Below B a ((((w.setCell ⟨r, 0, none⟩ v0).setCell ⟨r, 1, none⟩ v1).setCell ⟨r, 2, none⟩ v2).setCell ⟨r, 3, none⟩ v3) :=
  (((h.setCell hr _).setCell hr _).setCell hr _).setCell hr _

set_option maxRecDepth 100000 in
set_option maxHeartbeats 16000000 in
theorem types_less_is (HM : MadeC) (L : List Int) (A : Option Addr) (c : Nat) (way : Int) (w : World) (hL : Rd w (Lt w.heap.size) 1 A L.length (vi L)) (hrL : ∀ x ∈ L, inRange x) (hlL : L.length ≤ 9223372036854775807) (hT : ST w) (hg : 0 < w.heap.size) :
    Calls Tryd.prog 8 #[.slice A L.length c, .int .i64 way] w fun e w' => e = .returned (.bool true) ∧ Below w.heap.size w w' := by
  have HP := Lib.hid (lawProg_is HM L (Lt w.heap.size) A c way w hL (In.lt _) hrL hlL)
  have HT := Lib.hid hT
  have HG := Lib.hid hg
  obtain ⟨nl, hnl⟩ : ∃ z, z = L.length := ⟨_, rfl⟩
  rw [← hnl] at HP ⊢
  clear hL hrL hlL hT hg hnl HM
  go_enter Tryd.func8, Tryd.ntmps8
  go_upto_region 2 with (go_at_call 10; refine HP.out.mono ?_; rintro e V ⟨p, A1, c1, rfl, hf, hc, hp, hv⟩; have HF := Lib.hid hf; have HR := Lib.hid hp; have HV := Lib.hid hv; clear hf hc hp hv)
  obtain ⟨n, hn⟩ : ∃ n, n = p.kids.length - 1 := ⟨_, rfl⟩
  have hnk : p.kids.length = n + 1 := by have := HF.out.lo; omega
  have hn2 : n ≤ 2 := by have := HF.out.hi; omega
  have hcap : n + 1 ≤ c1 := by have := Rep.cap HR.out; omega
  obtain ⟨pk, hpk⟩ : ∃ z, z = p.k := ⟨_, rfl⟩
  obtain ⟨pn, hpn⟩ : ∃ z, z = p.n := ⟨_, rfl⟩
  obtain ⟨pm, hpm⟩ : ∃ z, z = p.m := ⟨_, rfl⟩
  obtain ⟨q, hq⟩ : ∃ q, q = lessT p := ⟨_, rfl⟩
  have hql : q.kids.length = n := by rw [hq, lessT_len]; omega
  have hqk : q.k = pk := by rw [hq, hpk]; rfl
  have hqn : q.n = pn := by rw [hq, hpn]; rfl
  have hqm : q.m = pm := by rw [hq, hpm]; rfl
  have HQR : Hid (Rep V (fun b => w.heap.size ≤ b ∧ b < V.heap.size) 14 q [.int .i64 pk, .int .i64 pn, .int .i64 pm, .slice A1 n c1]) := Lib.hid (by
    have h := lessT_rep HR.out
    rw [← hq] at h
    have e : nd q A1 c1 = [.int .i64 pk, .int .i64 pn, .int .i64 pm, .slice A1 n c1] := by unfold nd; rw [hql, hqk, hqn, hqm]
    rw [← e]; exact h)
  have HNK := Lib.hid hnk
  rw [hnk, ← hpk, ← hpn, ← hpm]
  have HQ := Lib.hid hq
  have HQL := Lib.hid hql
  have HQK := Lib.hid (And.intro hqk (And.intro hqn hqm))
  have hnw : IntKind.i64.wrap (((n : Int) + 1) - 1) = (n : Int) := by rw [IntKind.wrap_i64]; omega
  have hnb : (0 : Int) ≤ (n : Int) ∧ (n : Int) ≤ (c1 : Int) := ⟨by omega, by omega⟩
  clear hn hnk hpk hpn hpm hq hql hqk hqn hqm
  go_upto_region 5 with fail
  obtain ⟨g, hgV⟩ : ∃ g, g = V.heap.size + 1 := ⟨_, rfl⟩
  obtain ⟨W1, hW1⟩ : ∃ W, W = (V.alloc (.cells #[.int .i64 pk, .int .i64 pn, .int .i64 pm, .slice A1 (n + 1) c1] 25)).alloc (.cells #[.int .i64 pk, .int .i64 pn, .int .i64 pm, .slice A1 n c1] 25) := ⟨_, rfl⟩
  have hb1 : Below w.heap.size w W1 := by rw [hW1]; exact (HV.out.alloc HV.out.size _).alloc (by rw [size_alloc]; have := HV.out.size; omega) _
  have hbV : Below V.heap.size V W1 := by rw [hW1]; exact ba (below_new _ _) _
  have HK1 : Hid (Blk W1 g 25 #[.int .i64 pk, .int .i64 pn, .int .i64 pm, .slice A1 n c1]) := Lib.hid (by rw [hW1, hgV]; exact blk_new2 _ _ _ _)
  have hrq : Rep W1 (Lt W1.heap.size) 14 q [.int .i64 pk, .int .i64 pn, .int .i64 pm, .slice A1 n c1] := (HQR.out.keep (Keeps.below (fun b hb => hb.2) hbV)).mono fun b hb => Nat.lt_of_lt_of_le hb.2 hbV.size
  have hsz : size q ≤ 1000000 := by
    have h1 := HF.out.size
    have h2 := sizes_le p.kids (p.kids.length - 1)
    rw [HQ.out, size_eq]
    rw [size_eq] at h1
    show 1 + ((p.kids.take (p.kids.length - 1)).map TR.size).sum ≤ 1000000
    unfold sizes at h2
    omega
  have hnd : nd q A1 c1 = [.int .i64 pk, .int .i64 pn, .int .i64 pm, .slice A1 n c1] := by unfold nd; rw [HQL.out, HQK.out.1, HQK.out.2.1, HQK.out.2.2]
  have hRQ : ∀ W, Below W1.heap.size W1 W → Rep W (Lt W1.heap.size) 14 q (nd q A1 c1) := fun W hb => by rw [hnd]; exact hrq.keep (Keeps.below (In.lt _) hb)
  have hSTW : ∀ W, Below W1.heap.size W1 W → ST W ∧ 0 < W.heap.size := fun W hb => by
    have h : Below w.heap.size w W := hb1.trans (hb.mono hb1.size)
    exact ⟨HT.out.below h HG.out, Nat.lt_of_lt_of_le HG.out h.size⟩
  have hagg : Value.agg #[.int .i64 q.k, .int .i64 q.n, .int .i64 q.m, .slice A1 q.kids.length c1] = .agg #[.int .i64 pk, .int .i64 pn, .int .i64 pm, .slice A1 n c1] := by rw [HQL.out, HQK.out.1, HQK.out.2.1, HQK.out.2.2]
  have HCK : Hid (Calls Tryd.prog 33 #[.agg #[.int .i64 pk, .int .i64 pn, .int .i64 pm, .slice A1 n c1]] W1 (ChkPost q W1)) := Lib.hid (by
    rw [← hagg]
    exact check_is 13 q A1 c1 W1 (hRQ W1 (Below.refl _ _)) (by omega) hsz (hSTW W1 (Below.refl _ _)).1 (hSTW W1 (Below.refl _ _)).2)
  have HLV : Hid (∀ W, Below W1.heap.size W1 W → Calls Tryd.prog 17 #[] W fun e w' => e = .returned (.bool true) ∧ Below W.heap.size W w') := Lib.hid fun W hb => lives_is W (hSTW W hb).1 (hSTW W hb).2
  have HCA : Hid (∀ W, Below W1.heap.size W1 W → Calls Tryd.prog 34 #[.agg #[.int .i64 pk, .int .i64 pn, .int .i64 pm, .slice A1 n c1], .int .i64 (n : Int)] W fun e w' => e = .returned (.bool (callsB n q)) ∧ Below W.heap.size W w') := Lib.hid fun W hb => by
    rw [← hagg]
    exact calls_is n 14 q (Lt W1.heap.size) A1 c1 W (hRQ W hb) (fun b h => Nat.lt_of_lt_of_le h hb.size) hsz
  have HAT : Hid (∀ (W : World) (l : List Int) (P : Option Addr) (pc : Nat) (S : Nat → Prop), Below W1.heap.size W1 W → Rd W S 1 P l.length (vi l) → In S W.heap.size → l.length ≤ pc → l.length ≤ 1000000 → Calls Tryd.prog 27 #[.agg #[.int .i64 pk, .int .i64 pn, .int .i64 pm, .slice A1 n c1], .slice P l.length pc] W (AtMade (at? l q) W)) := Lib.hid fun W l P pc S hb hl hin hc hc2 => by
    rw [← hagg]
    exact tat_is 14 q (Lt W1.heap.size) S A1 c1 W l P pc (hRQ W hb) hl (fun b h => Nat.lt_of_lt_of_le h hb.size) hin hsz hc (by omega)
  have HB1 := Lib.hid hb1
  have HW1 := Lib.hid hW1
  have HSZ := Lib.hid hsz
  have HPA : Hid (∀ W, Below W1.heap.size W1 W → Calls Tryd.prog 26 #[.agg #[.int .i64 pk, .int .i64 pn, .int .i64 pm, .slice A1 n c1]] W (PathsPost q W)) := Lib.hid fun W hb => by
    rw [← hagg]
    exact tpaths_is 14 q (Lt W1.heap.size) A1 c1 W (hRQ W hb) (fun b h => Nat.lt_of_lt_of_le h hb.size) hsz
  rw [← hW1, ← hgV]
  have k0 := HK1.out.cell 0
  have k1 := HK1.out.cell 1
  have k2 := HK1.out.cell 2
  have k3 := HK1.out.cell 3
  simp only [List.getElem?_toArray, List.getElem?_cons_zero, List.getElem?_cons_succ] at k0 k1 k2 k3
  clear hgV hW1 hb1 hbV hrq hsz hRQ hSTW hagg hnd hnw hnb
  go_upto_region 6 with (go_at_call 33; refine HCK.out.mono ?_; rintro e V8 ⟨A8, c8, rfl, ⟨hr8, hc8⟩, hb8⟩; have HR8 := Lib.hid hr8; have HB8 := Lib.hid hb8; have HC8 := Lib.hid hc8; clear hr8 hb8 hc8)
  clear k0 k1 k2 k3 HCK
  have hk8 := HK1.out.below HB8.out HK1.out.lt
  have HK8 := Lib.hid hk8
  have k0 := hk8.cell 0
  have k1 := hk8.cell 1
  have k2 := hk8.cell 2
  have k3 := hk8.cell 3
  simp only [List.getElem?_toArray, List.getElem?_cons_zero, List.getElem?_cons_succ] at k0 k1 k2 k3
  clear hk8
  by_cases h0 : n = 0
  · subst h0
    have hch : chk q = ([], 2) := by unfold chk; rw [HQ.out, less_none (by have := HNK.out; omega)]; rfl
    rw [hch]
    go_wp2_with (go_at_call 17; refine (HLV.out _ HB8.out).mono ?_; rintro e w9 ⟨rfl, hb9⟩)
    go_ret
    exact ⟨rfl, HB1.out.trans ((HB8.out.trans (hb9.mono HB8.out.size)).mono HB1.out.size)⟩
  · have hn0 : ((n : Int) == 0) = false := by simp; omega
    have hfirst : First (fun v => if isCallOf (n : Int) v then 5 else 0) q (chk q) := by
      have h2 : 2 ≤ p.kids.length := by have := HNK.out; omega
      have h := less_chk HF.out h2 (less_prog HF.out h2)
      rw [← HQ.out, show p.kids.length - 1 = n by have := HNK.out; omega] at h
      exact h
    rcases hfirst with ⟨hch, hnone⟩ | ⟨hne, l1, l2, v, hps, hl1, hat, hev⟩
    · have hcb : callsB n q = false := by
        cases hh : callsB n q with
        | false => rfl
        | true =>
          obtain ⟨a, ha, v, hv, hv2⟩ := (callsB_iff n q).1 hh
          have := hnone a ha v hv
          simp [hv2] at this
      rw [hch]
      rw [hcb] at HCA
      clear hnone
      go_wp2_with (first
        | (go_at_call 34; refine (HCA.out _ HB8.out).mono ?_; rintro e w9 ⟨rfl, hb9⟩; have HB9 := Lib.hid (HB8.out.trans (hb9.mono HB8.out.size)))
        | (go_at_call 17; refine (HLV.out _ HB9.out).mono ?_; rintro e w10 ⟨rfl, hb10⟩))
      go_ret
      exact ⟨rfl, HB1.out.trans ((HB9.out.trans (hb10.mono HB9.out.size)).mono HB1.out.size)⟩
    · have hcv : isCallOf (n : Int) v = true := by
        cases hh : isCallOf (n : Int) v with
        | true => rfl
        | false => simp [hh] at hev; exact absurd hev.symm hne
      have he8 : (chk q).2 = 5 := by rw [← hev]; simp [hcv]
      obtain ⟨a8, ha8⟩ : ∃ a, a = (chk q).1 := ⟨_, rfl⟩
      obtain ⟨la, hla⟩ : ∃ l, l = a8.length := ⟨_, rfl⟩
      rw [← ha8] at hps hat
      have hcb : callsB n q = true := (callsB_iff n q).2 ⟨a8, by rw [hps]; simp, v, hat, hcv⟩
      have HRA : Hid (Rd V8 (Lt V8.heap.size) 1 A8 a8.length (vi a8)) := Lib.hid (by rw [ha8]; exact Rd.of_reads HR8.out)
      have HLA : Hid (a8.length ≤ c8 ∧ a8.length ≤ 1000000) := Lib.hid ⟨by rw [ha8]; exact HC8.out, Nat.le_trans (path_le q a8 (by rw [hps]; simp)) HSZ.out⟩
      rw [he8, ← ha8, ← hla]
      rw [hcb] at HCA
      have hvn : v.n = (n : Int) := by unfold isCallOf at hcv; simp at hcv; exact hcv.2
      have hvk : v.k = 11 ∨ v.k = 23 := by unfold isCallOf at hcv; simp at hcv; exact hcv.1
      have HPS := Lib.hid hps
      have HL1 := Lib.hid hl1
      have HAV := Lib.hid hat
      have HCV := Lib.hid hcv
      have HVN := Lib.hid hvn
      have HLL := Lib.hid hla
      clear hps hl1 hat hcv hvn hla hcb ha8 he8 hev hne HR8
      rcases hvk with hvk | hvk
      all_goals
        have HVK := Lib.hid hvk
        clear hvk
        go_upto_region 13 with (first
          | (go_at_call 34; refine (HCA.out _ HB8.out).mono ?_; rintro e w9 ⟨rfl, hb9⟩; have HB9 := Lib.hid (HB8.out.trans (hb9.mono HB8.out.size)); have HB89 := Lib.hid hb9; have hk9 := HK1.out.below HB9.out HK1.out.lt; have j0 := hk9.cell 0; have j1 := hk9.cell 1; have j2 := hk9.cell 2; have j3 := hk9.cell 3; simp only [List.getElem?_toArray, List.getElem?_cons_zero, List.getElem?_cons_succ] at j0 j1 j2 j3; clear hk9 hb9)
          | (go_at_call 27; rw [HLL.out]; refine (HAT.out _ a8 A8 c8 (Lt V8.heap.size) HB9.out (HRA.out.keep (Keeps.below (In.lt _) HB89.out)) (fun b h => Nat.lt_of_lt_of_le h HB89.out.size) HLA.out.1 HLA.out.2).mono ?_; rintro e w10 ⟨u, A10, c10, D10, hu, rfl, hr10, hb10⟩; rw [HAV.out] at hu; subst hu; rw [HAV.out, show (some v).getD zeroT = v from rfl, HVK.out, HVN.out]; have HB10 := Lib.hid (HB9.out.trans (hb10.mono HB9.out.size)); have HB810 := Lib.hid (HB89.out.trans (hb10.mono HB89.out.size)); clear hr10 hb10))
        obtain ⟨W10, hW10⟩ : ∃ W, W = w10.alloc (.cells #[.int .i64 v.k, .int .i64 v.n, .int .i64 v.m, .slice A10 v.kids.length c10] 25) := ⟨_, rfl⟩
        have HB10W : Hid (Below W1.heap.size W1 W10) := Lib.hid (by rw [hW10]; exact HB10.out.alloc HB10.out.size _)
        have HB8W : Hid (Below V8.heap.size V8 W10) := Lib.hid (by rw [hW10]; exact HB810.out.alloc HB810.out.size _)
        rw [HVK.out, HVN.out] at hW10
        rw [← hW10]
        clear hW10 j0 j1 j2 j3 k0 k1 k2 k3
        have hk10 := HK1.out.below HB10W.out HK1.out.lt; have i0 := hk10.cell 0; have i1 := hk10.cell 1; have i2 := hk10.cell 2; have i3 := hk10.cell 3; simp only [List.getElem?_toArray, List.getElem?_cons_zero, List.getElem?_cons_succ] at i0 i1 i2 i3; clear hk10
        go_wp2_with (go_at_call 26; refine (HPA.out _ HB10W.out).mono ?_; rintro e w12 ⟨A12, c12, rfl, hc12, hps12, hb12⟩; have HPS12 := Lib.hid hps12; have HB12 := Lib.hid (HB10W.out.trans (hb12.mono HB10W.out.size)); have HB812 := Lib.hid (HB8W.out.trans (hb12.mono HB8W.out.size)); clear hc12 hps12 hb12)
        obtain ⟨ls, hls⟩ : ∃ l, l = size q := ⟨_, rfl⟩
        rw [← hls]
        have HLS : Hid ((paths q).length = ls) := Lib.hid (by rw [paths_length, hls])
        clear hls i0 i1 i2 i3
        go_loopw [13] (fun i wr => ∃ j : Nat, j ≤ l1.length ∧ i = .int .i64 (j : Int) ∧ Hid (Below w12.heap.size w12 wr)) (fun i _ => l1.length + 1 - (intOf i).toNat)
        case atStart => exact ⟨0, Nat.zero_le _, rfl, Below.refl _ _⟩
        case round =>
          obtain ⟨j, hj, rfl, HBR⟩ := hrel
          have hjl : j < (paths q).length := by rw [HPS.out]; simp; omega
          have hjs : j < ls := by rw [← HLS.out]; exact hjl
          have hls6 : ls ≤ 1000000 := by rw [← HLS.out, paths_length]; exact HSZ.out
          obtain ⟨pj, hpj⟩ : ∃ x, (paths q)[j]? = some x := ⟨_, List.getElem?_eq_getElem hjl⟩
          have hpl : pj.length ≤ 1000000 := Nat.le_trans (path_le q pj (List.mem_of_getElem? hpj)) HSZ.out
          have hpsr := HPS12.out.keep (Keeps.below (fun b h => h.2) HBR.out)
          obtain ⟨bP, oP, Aj, cj, hA, hbl, hcell, hcc, hrd⟩ := Ps.at_ hpsr hpj
          subst hA
          have hij : (0 : Int) ≤ (j : Int) ∧ (j : Int) < (ls : Int) := ⟨by omega, by omega⟩
          have hrd12 : ∀ W, Below wr.heap.size wr W → Rd W (Lt W.heap.size) 1 Aj pj.length (vi pj) := fun W hb => (hrd.keep (Keeps.below (fun b h => Nat.lt_of_lt_of_le h.2 HBR.out.size) hb)).mono fun b h => Nat.lt_of_lt_of_le h.2 (Nat.le_trans HBR.out.size hb.size)
          have hra12 : ∀ W, Below wr.heap.size wr W → Rd W (Lt W.heap.size) 1 A8 a8.length (vi a8) := fun W hb => (HRA.out.keep (Keeps.below (In.lt _) (HB812.out.trans ((HBR.out.trans (hb.mono HBR.out.size)).mono HB812.out.size)))).mono fun b h => Nat.lt_of_lt_of_le h (Nat.le_trans HB812.out.size (Nat.le_trans HBR.out.size hb.size))
          have HBW : Hid (∀ W, Below wr.heap.size wr W → Below W1.heap.size W1 W) := Lib.hid fun W hb => HB12.out.trans ((HBR.out.trans (hb.mono HBR.out.size)).mono HB12.out.size)
          have HSI : Hid (∀ r, decide (pj = a8) = r → Calls Tryd.prog 35 #[.slice Aj pj.length cj, .slice A8 a8.length c8] wr fun e w' => e = .returned (.bool r) ∧ Below wr.heap.size wr w') := Lib.hid fun r hr => sameInts_is pj a8 (Lt wr.heap.size) Aj A8 cj c8 wr (hrd12 wr (Below.refl _ _)) (hra12 wr (Below.refl _ _)) (In.lt _) hpl HLA.out.2 r hr
          have HAJ : Hid (∀ W, Below wr.heap.size wr W → Calls Tryd.prog 27 #[.agg #[.int .i64 pk, .int .i64 pn, .int .i64 pm, .slice A1 n c1], .slice Aj pj.length cj] W (AtMade (at? pj q) W)) := Lib.hid fun W hb => HAT.out W pj Aj cj (Lt W.heap.size) (HBW.out W hb) (hrd12 W hb) (In.lt _) hcc hpl
          have HPJ := Lib.hid hpj
          have HBP : Hid (bP < wr.heap.size) := Lib.hid (Nat.lt_of_lt_of_le hbl.2 HBR.out.size)
          have HCE := Lib.hid hcell
          clear hpsr hbl hcc hrd hrd12 hra12 hpl hpj hjl
          by_cases hjl1 : j = l1.length
          · have hpa : pj = a8 := by
              have h := HPJ.out
              rw [HPS.out, hjl1, List.getElem?_append_right (Nat.le_refl _), Nat.sub_self] at h
              exact (Option.some.inj h).symm
            have HSI2 := Lib.hid (HSI.out true (by simpa using hpa))
            clear hpa hjl1
            go_wp2_with (first
              | (go_at_call 35; refine HSI2.out.mono ?_; rintro e w17 ⟨rfl, hb17⟩; have HB17 := Lib.hid (HBW.out _ hb17); clear hb17)
              | (go_at_call 17; refine (HLV.out _ HB17.out).mono ?_; rintro e w18 ⟨rfl, hb18⟩))
            go_ret
            exact ⟨rfl, HB1.out.trans ((HB17.out.trans (hb18.mono HB17.out.size)).mono HB1.out.size)⟩
          · have hpm : pj ∈ l1 := by
              have h := HPJ.out
              rw [HPS.out, List.getElem?_append_left (by omega)] at h
              exact List.mem_of_getElem? h
            have hno : ∀ v', at? pj q = some v' → isCallOf (n : Int) v' = false := fun v' hv' => by
              have h := HL1.out pj hpm v' hv'
              cases hh : isCallOf (n : Int) v' with
              | false => rfl
              | true => simp [hh] at h
            have hpa : pj ≠ a8 := fun e => by
              have h := hno v (by rw [e]; exact HAV.out)
              rw [HCV.out] at h
              cases h
            have HSI2 := Lib.hid (HSI.out false (by simpa using hpa))
            obtain ⟨u0, hu0⟩ : ∃ u, u = (at? pj q).getD zeroT := ⟨_, rfl⟩
            have hu1 : isCallOf (n : Int) u0 = false := by
              rw [hu0]
              cases hh : at? pj q with
              | none => simp [isCallOf, zeroT]
              | some v' => exact hno v' hh
            have HU0 := Lib.hid hu0
            have h3 : (u0.k == 11) = true ∧ (u0.n == (n : Int)) = false ∨ (u0.k == 11) = false ∧ (u0.k == 23) = true ∧ (u0.n == (n : Int)) = false ∨ (u0.k == 11) = false ∧ (u0.k == 23) = false := by
              unfold isCallOf at hu1; simp at hu1; simp; omega
            clear hpm hno hpa hu0 hu1
            go_upto_region 19 with (go_at_call 35; refine HSI2.out.mono ?_; rintro e w17 ⟨rfl, hb17⟩; have HB17 := Lib.hid hb17; clear hb17)
            have hk17 := HK1.out.below (HBW.out _ HB17.out) HK1.out.lt; have d0 := hk17.cell 0; have d1 := hk17.cell 1; have d2 := hk17.cell 2; have d3 := hk17.cell 3; simp only [List.getElem?_toArray, List.getElem?_cons_zero, List.getElem?_cons_succ] at d0 d1 d2 d3; clear hk17
            have hx : w17.cell? ⟨bP, oP + j, none⟩ = some (.slice Aj pj.length cj) := (HB17.out.cell (p := ⟨bP, oP + j, none⟩) HBP.out).trans HCE.out
            have hbd : Below wr.heap.size wr w17.drew := HB17.out.drew
            have hba : ∀ o, Below wr.heap.size wr (w17.alloc o).drew := fun o => (HB17.out.alloc HB17.out.size o).drew
            have HZB : Hid (Blk ((w17.alloc (.cells #[.int .i64 0, .int .i64 0, .int .i64 0, .slice none 0 0] 25)).drew) w17.heap.size 25 #[.int .i64 0, .int .i64 0, .int .i64 0, .slice none 0 0]) := Lib.hid (Blk.new w17 _ _).drew
            have hbp17 : bP < w17.heap.size := Nat.lt_of_lt_of_le HBP.out HB17.out.size
            have hg17 : g < w17.heap.size := Nat.lt_of_lt_of_le HK1.out.lt (HBW.out _ HB17.out).size
            clear HSI HSI2
            rcases h3 with ⟨q11, qn⟩ | ⟨q11, q23, qn⟩ | ⟨q11, q23⟩
            all_goals
              go_region_with (first
                | (go_at_call 27; refine (HAJ.out _ hbd).mono ?_; rintro e w19 ⟨u, A19, c19, D19, hu, rfl, hr19, hb19⟩; obtain rfl : u = u0 := hu.symm.trans HU0.out.symm; have HB19 := Lib.hid (hbd.trans (hb19.mono hbd.size)); clear hu hr19 hb19)
                | (go_at_call 27; refine (HAJ.out _ (hba (.cells #[.int .i64 0, .int .i64 0, .int .i64 0, .slice none 0 0] 25))).mono ?_; rintro e w19 ⟨u, A19, c19, D19, hu, rfl, hr19, hb19⟩; obtain rfl : u = u0 := hu.symm.trans HU0.out.symm; have HB19 := Lib.hid ((hba (.cells #[.int .i64 0, .int .i64 0, .int .i64 0, .slice none 0 0] 25)).trans (hb19.mono (hba (.cells #[.int .i64 0, .int .i64 0, .int .i64 0, .slice none 0 0] 25)).size)); have hz := (HZB.out).below hb19 HZB.out.lt; have z0 := hz.cell 0; have z1 := hz.cell 1; have z2 := hz.cell 2; have z3 := hz.cell 3; have f0 := hz.frozen 0; have f1 := hz.frozen 1; have f2 := hz.frozen 2; have f3 := hz.frozen 3; simp only [List.getElem?_toArray, List.getElem?_cons_zero, List.getElem?_cons_succ] at z0 z1 z2 z3; clear hu hr19 hb19 hz))
              all_goals
                go_wp2_with fail
                go_roundw
                case rel => exact ⟨j + 1, by omega, by go_num, HBR.out.trans (Below.mono (by first | exact HB19.out.alloc HB19.out.size _ | exact put4_belowW HB19.out _ _ _ _ HB17.out.size) HBR.out.size)⟩
                case measure => simp [intOf]; omega
end Go.Proofs.YtlffmfdjifgfgaaDoor
