/- Texts joined. -/
import Derived.Test.YtlffmfdjifgfgaaDoorG36
import Derived.Test.YtlffmfdjifgfgaaDoorG38
import Derived.Deep.RegionHeld3
import Derived.Test.YtlffmfdjifgfgaaDoorG21
import Derived.Test.YtlffmfdjifgfgaaDoorG22
import Derived.Test.YtlffmfdjifgfgaaDoorG11
import Derived.Test.YtlffmfdjifgfgaaDoorG10
set_option linter.unusedVariables false
namespace Go.Proofs.YtlffmfdjifgfgaaDoor
open Go.RowKit WM TR TY

def chkL (p : T) : List T → Nat → List Int × Int
 | [], _ => ([], 0)
 | u :: l, i => if (firstW (scO p u) u).2 ≠ 0 then ((i : Int) :: (firstW (scO p u) u).1, (firstW (scO p u) u).2) else chkL p l (i + 1)
noncomputable def chk (p : T) : List Int × Int := if isProg p = true then chkL p p.kids 0 else ([], 2)
theorem chkL_drop (p : T) {l : List T} {j : Nat} {u : T} (h : l[j]? = some u) : chkL p (l.drop j) j = if (firstW (scO p u) u).2 ≠ 0 then ((j : Int) :: (firstW (scO p u) u).1, (firstW (scO p u) u).2) else chkL p (l.drop (j + 1)) (j + 1) := by
 obtain ⟨h1, h2⟩ := List.getElem?_eq_some_iff.1 h
 rw [List.drop_eq_getElem_cons h1, chkL, h2]
theorem chkL_end (p : T) {l : List T} {j : Nat} (h : l.length ≤ j) : chkL p (l.drop j) j = ([], 0) := by
 rw [List.drop_eq_nil_of_le h, chkL]
theorem Nds.deeper {w : World} {S : Nat → Prop} {d d' : Nat} {ts : List T} {A : Option Addr} {c : Nat} (h : Nds w S d ts A c) (hd : d ≤ d') : Nds w S d' ts A c := by
 obtain ⟨⟨xs, h1, h2⟩, h3⟩ := h
 exact ⟨⟨xs, h1, h2.1, fun i u hu => (h2.2 i u hu).deeper hd⟩, h3⟩
structure PKid (u : T) : Prop where
 fit : Fit u
 n0 : 0 ≤ u.n
 n1 : u.n ≤ (u.kids.length : Int) - 1
 len : u.kids.length ≤ 10
theorem prog_kid {p : T} (h : isProg p = true) {u : T} (hu : u ∈ p.kids) : PKid u := by
 have hp : IsProg p := by unfold isProg at h; simpa using h
 have hf := ((prog_iff p).1 hp).2.2.2
 obtain ⟨i, hi⟩ := List.mem_iff_getElem?.1 hu
 have h2 : IsFun u := by have h3 := hp.2.2.2.2 i u hi; unfold isFun at h3; simpa using h3
 have hno := nok_of (hf.kids u hu)
 exact ⟨hf.kids u hu, hno.n (by have := h2.1; omega), hno.par h2.1, hno.len⟩
theorem prog_fok {p : T} (h : isProg p = true) : FOk p.kids := fun f hf => by
 have k := prog_kid h hf
 exact ⟨k.n0, by have := k.n1; omega, by have := k.len; omega⟩
theorem firstL_len (s : Sc) (D : Nat) : ∀ (l : List T) (i : Nat), (∀ u ∈ l, (firstW s u).1.length ≤ D) → (firstL s l i).1.length ≤ D + 1
 | [], _, _ => by rw [firstL]; exact Nat.zero_le _
 | u :: l, i, h => by
  rw [firstL]
  split
  ·have := h u (List.mem_cons_self ..)
   simp only [List.length_cons]; omega
  ·exact firstL_len s D l (i + 1) fun v hv => h v (List.mem_cons_of_mem _ hv)
theorem firstW_len (s : Sc) {w : World} {S : Nat → Prop} : ∀ (D : Nat) (x : T) (cs : List Value), Rep w S D x cs → (firstW s x).1.length ≤ D
 | 0, _, _, h => h.elim
 | D + 1, x, cs, h => by
  rw [firstW_eq]
  split
  ·exact Nat.zero_le _
  ·refine firstL_len s D _ _ fun u hu => ?_
   obtain ⟨A, c, rfl, _⟩ := h.form
   obtain ⟨xs, _, hrs⟩ := h.kids
   obtain ⟨i, hi⟩ := List.mem_iff_getElem?.1 hu
   exact firstW_len s D u _ (hrs.2 i u hi)
def ChkPost (p : T) (w : World) (e : Ending) (w' : World) : Prop :=
 ∃ A' c', e = .returned (.tuple #[.slice A' (chk p).1.length c', .int .i64 (chk p).2]) ∧ (Reads w' w'.heap.size 1 A' (chk p).1.length (vi (chk p).1) ∧ (chk p).1.length ≤ c') ∧ Below w.heap.size w w'
theorem reads_nil (w : World) (B : Nat) : Reads w B 1 none 0 [] := ⟨rfl, fun h => absurd h (by omega)⟩

set_option maxRecDepth 100000 in
set_option maxHeartbeats 16000000 in
theorem check_is (d : Nat) (p : T) (A : Option Addr) (c : Nat) (w : World) (hr : Rep w (Lt w.heap.size) (d + 1) p (nd p A c)) (hD : d ≤ 1000) (hsz : size p ≤ 1000000) (hT : ST w) (hg : 0 < w.heap.size) :
  Calls Tryd.prog 33 #[.agg #[.int .i64 p.k, .int .i64 p.n, .int .i64 p.m, .slice A p.kids.length c]] w (ChkPost p w) := by
 obtain ⟨z, hz⟩ : ∃ z, z = w.heap.size := ⟨_, rfl⟩
 obtain ⟨nk, hnk⟩ : ∃ z, z = p.kids.length := ⟨_, rfl⟩
 obtain ⟨k, hk⟩ : ∃ z, z = p.k := ⟨_, rfl⟩
 obtain ⟨n, hn⟩ : ∃ z, z = p.n := ⟨_, rfl⟩
 obtain ⟨m, hm⟩ : ∃ z, z = p.m := ⟨_, rfl⟩
 obtain ⟨W1, hW1⟩ : ∃ W, W = w.alloc (.cells #[.int .i64 k, .int .i64 n, .int .i64 m, .slice A nk c] 25) := ⟨_, rfl⟩
 have hb1 : Below w.heap.size w W1 := by rw [hW1]; exact below_new _ _
 have k1 : Blk W1 z 25 #[.int .i64 k, .int .i64 n, .int .i64 m, .slice A nk c] := by rw [hW1, hz]; exact Blk.new _ _ _
 obtain ⟨y0, y1, y2, y3⟩ : W1.cell? ⟨z, 0, none⟩ = some (.int .i64 k) ∧ W1.cell? ⟨z, 1, none⟩ = some (.int .i64 n) ∧ W1.cell? ⟨z, 2, none⟩ = some (.int .i64 m) ∧ W1.cell? ⟨z, 3, none⟩ = some (.slice A nk c) := ⟨k1.cell 0, k1.cell 1, k1.cell 2, k1.cell 3⟩
 have hr1 := rep_next hr hb1
 obtain ⟨v, hv⟩ : ∃ v, v = isProg p := ⟨_, rfl⟩
 have HVAL : Hid (Calls Tryd.prog 18 #[.agg #[.int .i64 k, .int .i64 n, .int .i64 m, .slice A nk c]] W1 fun e w' => e = .returned (.bool v) ∧ Below W1.heap.size W1 w') := Lib.hid (by
  have h := tvalid_is (d + 1) p _ A c W1 hr1 (In.lt _) hsz (hT.below hb1 hg) (Nat.lt_of_lt_of_le hg hb1.size)
  rw [← hv, ← hnk, ← hk, ← hn, ← hm] at h
  exact h)
 have HW1 := Lib.hid hW1
 have HZ := Lib.hid hz
 have HB1 := Lib.hid hb1
 have HK1 := Lib.hid k1
 have HR1 := Lib.hid hr1
 have HNK := Lib.hid hnk
 have HK := Lib.hid hk
 have HN := Lib.hid hn
 have HM := Lib.hid hm
 have HCH : Hid (chk p = if v = true then chkL p p.kids 0 else ([], 2)) := Lib.hid (by unfold chk; rw [hv])
 have HV := Lib.hid hv
 rw [← hnk, ← hk, ← hn, ← hm]
 clear hr hsz hT hg hz hnk hk hn hm hW1 hb1 k1 hr1 hv
 cases v with
 | false =>
  have HC : Hid (chk p = ([], 2)) := Lib.hid (by rw [HCH.out]; rfl)
  go_enter Tryd.func33, Tryd.ntmps33
  go_upto_region 1 with fail
  rw [← HW1.out]
  try rw [← HZ.out]
  go_wp2_with (go_at_call 18; refine HVAL.out.mono ?_; rintro e w2 ⟨rfl, hb2⟩; have HB2 := Lib.hid (bt HB1.out hb2); clear hb2 y0 y1 y2 y3)
  refine bodyPost_ret (v := .tuple #[.slice none 0 0, .int .i64 2]) (by simp [results, Tryd.results33, go_sem]) rfl ?_
  unfold ChkPost
  rw [HC.out]
  exact ⟨none, 0, rfl, ⟨reads_nil _ _, Nat.le_refl _⟩, HB2.out⟩
 | true =>
  have HC : Hid (chk p = chkL p p.kids 0) := Lib.hid (by rw [HCH.out]; rfl)
  obtain ⟨xs, hrd, hrs⟩ := HR1.out.kids
  have hkl : p.kids.length ≤ 1000 := by
   have h := HV.out.symm
   have hp : IsProg p := by unfold isProg at h; simpa using h
   have := (nok_of ((prog_iff p).1 hp).2.2.2).len
   omega
  have HND : Hid (Nds W1 (Lt W1.heap.size) (d + 1) p.kids A c) := Lib.hid (Nds.deeper (d := d) ⟨⟨xs, hrd, hrs⟩, HR1.out.cap, hkl⟩ (by omega))
  have HND0 : Hid (Nds W1 (Lt W1.heap.size) d p.kids A c) := Lib.hid ⟨⟨xs, hrd, hrs⟩, HR1.out.cap, hkl⟩
  have hnk1 : nk ≤ 1000 := by rw [HNK.out]; exact hkl
  clear hrd hrs hkl
  go_enter Tryd.func33, Tryd.ntmps33
  go_upto_region 1 with fail
  rw [← HW1.out]
  try rw [← HZ.out]
  go_upto_region 4 with (go_at_call 18; refine HVAL.out.mono ?_; rintro e w2 ⟨rfl, hb2⟩; have HB2 := Lib.hid hb2; clear hb2 y0 y1 y2 y3; have y3 := (HK1.out.below HB2.out HK1.out.lt).cell 3)
  clear y3
  go_loopw [14] (fun i wr => ∃ j : Nat, j ≤ nk ∧ i = .int .i64 j ∧ Hid (Below W1.heap.size W1 wr) ∧ Hid (chk p = chkL p (p.kids.drop j) j)) (fun i _ => nk - (intOf i).toNat)
  case atStart => exact ⟨0, Nat.zero_le _, rfl, HB2, by rw [List.drop_zero]; exact HC⟩
  case round =>
   obtain ⟨j, hj, rfl, HBR, HCR⟩ := hrel
   by_cases hlt : j < nk
   ·obtain ⟨u, hu⟩ : ∃ u, p.kids[j]? = some u := ⟨_, List.getElem?_eq_getElem (by rw [← HNK.out]; exact hlt)⟩
    obtain ⟨b, off, A', c', hA, hbl, hc, hru⟩ := HND0.out.at_ hu
    subst hA
    have hcu : ∀ i v, (nd u A' c')[i]? = some v → wr.cell? ⟨b, off + j * 4 + i, none⟩ = some v := fun i v hv => (HBR.out.cell (p := ⟨b, _, none⟩) hbl).trans (hc i v hv)
    obtain ⟨nu, hnu⟩ : ∃ q, q = u.kids.length := ⟨_, rfl⟩
    obtain ⟨v0, v1, v2, v3⟩ : wr.cell? ⟨b, off + j * 4, none⟩ = some (.int .i64 u.k) ∧ wr.cell? ⟨b, off + j * 4 + 1, none⟩ = some (.int .i64 u.n) ∧ wr.cell? ⟨b, off + j * 4 + 2, none⟩ = some (.int .i64 u.m) ∧ wr.cell? ⟨b, off + j * 4 + 3, none⟩ = some (.slice A' nu c') := ⟨hcu 0 _ rfl, hcu 1 _ rfl, hcu 2 _ rfl, by rw [hnu]; exact hcu 3 _ rfl⟩
    have hib : (0 : Int) ≤ (j : Int) ∧ (j : Int) < (nk : Int) := ⟨by omega, by omega⟩
    have hkid := prog_kid HV.out.symm (List.mem_of_getElem? hu)
    obtain ⟨r, hr⟩ : ∃ r, r = firstW (scO p u) u := ⟨_, rfl⟩
    have HSO : Hid (∀ W, Below W1.heap.size W1 W → Calls Tryd.prog 63 #[.agg #[.int .i64 k, .int .i64 n, .int .i64 m, .slice (some ⟨b, off, none⟩) nk c], .int .i64 (j : Int)] W fun e w' => ∃ A' c', e = .returned (.agg #[.slice A' (scO p u).vars.length c', .slice (some ⟨b, off, none⟩) nk c, .int .i64 n]) ∧ ScR w' (d + 1) (scO p u) A' c' (some ⟨b, off, none⟩) c ∧ Below W.heap.size W w') := Lib.hid fun W hb => by
     have h := scopeOf_is p u j d _ c W (HND.out.next hb) hu ⟨by have := hkid.n0; have := hkid.n1; omega, by have := hkid.len; omega⟩
     have e1 : (scO p u).funs.length = nk := HNK.out.symm
     have e2 : (scO p u).ch = n := HN.out.symm
     rw [e1, e2, ← HNK.out, ← HK.out, ← HN.out, ← HM.out] at h
     exact h
    have HFW : Hid (∀ W A2 c2, Below W1.heap.size W1 W → ScR W (d + 1) (scO p u) A2 c2 (some ⟨b, off, none⟩) c → Calls Tryd.prog 64 #[.agg #[.slice A2 (scO p u).vars.length c2, .slice (some ⟨b, off, none⟩) nk c, .int .i64 n], .agg #[.int .i64 u.k, .int .i64 u.n, .int .i64 u.m, .slice A' nu c']] W fun e w' => ∃ A' c', e = .returned (.tuple #[.slice A' r.1.length c', .int .i64 r.2]) ∧ w'.ownsRow W.heap.size 3 1 (.slice A' r.1.length c') r.1.length (vi r.1) ∧ Below W.heap.size W w') := Lib.hid fun W A2 c2 hb hs => by
     have h := firstWrong_is (scO p u) u (d + 1) d A2 _ A' c2 c c' W hs (rep_next hru hb) hkid.fit hD (prog_fok HV.out.symm)
     have e1 : (scO p u).funs.length = nk := HNK.out.symm
     have e2 : (scO p u).ch = n := HN.out.symm
     rw [e1, e2, ← hnu, ← hr] at h
     exact h
    have HLN : Hid (r.1.length ≤ 1000) := Lib.hid (by rw [hr]; exact Nat.le_trans (firstW_len _ _ _ _ hru) hD)
    have HCX : Hid (chk p = if r.2 ≠ 0 then ((j : Int) :: r.1, r.2) else chkL p (p.kids.drop (j + 1)) (j + 1)) := Lib.hid (by rw [HCR.out, chkL_drop p hu, hr])
    obtain ⟨uk, huk⟩ : ∃ z, z = u.k := ⟨_, rfl⟩
    obtain ⟨un, hun⟩ : ∃ z, z = u.n := ⟨_, rfl⟩
    obtain ⟨um, hum⟩ : ∃ z, z = u.m := ⟨_, rfl⟩
    obtain ⟨nv, hnv⟩ : ∃ z, z = (scO p u).vars.length := ⟨_, rfl⟩
    rw [← huk, ← hun, ← hum, ← hnv] at HFW
    rw [← huk] at v0
    rw [← hun] at v1
    rw [← hum] at v2
    rw [← hnv] at HSO
    obtain ⟨l, er⟩ := r
    simp only at HFW HCX HLN
    obtain ⟨nl, hnl⟩ : ∃ q, q = l.length := ⟨_, rfl⟩
    rw [← hnl] at HFW
    have HNL := Lib.hid hnl
    obtain ⟨s, hs⟩ : ∃ s, s = scO p u := ⟨_, rfl⟩
    rw [← hs] at HFW HSO
    clear hcu hnu hkid hru hc hbl hu hr huk hun hum hnv hnl hs
    go_upto_region 6 with fail
    obtain ⟨V1, hV1⟩ : ∃ Z, Z = wr.alloc (.cells #[.int .i64 uk, .int .i64 un, .int .i64 um, .slice A' nu c'] 25) := ⟨_, rfl⟩
    obtain ⟨g5, hg5⟩ : ∃ z, z = wr.heap.size := ⟨_, rfl⟩
    have k5 : Blk V1 g5 25 #[.int .i64 uk, .int .i64 un, .int .i64 um, .slice A' nu c'] := by rw [hV1, hg5]; exact Blk.new _ _ _
    have hb5 : Below wr.heap.size wr V1 := by rw [hV1]; exact below_new _ _
    rw [← hV1, ← hg5]
    have HBV : Hid (Below W1.heap.size W1 V1) := Lib.hid (bt HBR.out hb5)
    have kz := HK1.out.below HBV.out HK1.out.lt
    have HCE : Hid (∀ W, Below V1.heap.size V1 W → (W.cell? ⟨z, 0, none⟩ = some (.int .i64 k) ∧ W.cell? ⟨z, 1, none⟩ = some (.int .i64 n) ∧ W.cell? ⟨z, 2, none⟩ = some (.int .i64 m) ∧ W.cell? ⟨z, 3, none⟩ = some (.slice (some ⟨b, off, none⟩) nk c)) ∧ (W.cell? ⟨g5, 0, none⟩ = some (.int .i64 uk) ∧ W.cell? ⟨g5, 1, none⟩ = some (.int .i64 un) ∧ W.cell? ⟨g5, 2, none⟩ = some (.int .i64 um) ∧ W.cell? ⟨g5, 3, none⟩ = some (.slice A' nu c'))) := Lib.hid fun W hb => by
     have e1 := kz.below hb kz.lt
     have e2 := k5.below hb k5.lt
     exact ⟨⟨e1.cell 0, e1.cell 1, e1.cell 2, e1.cell 3⟩, e2.cell 0, e2.cell 1, e2.cell 2, e2.cell 3⟩
    have hbc : Below V1.heap.size V1 V1.drew := (Below.refl _ _).drew
    clear hV1 hg5 k5 hb5 kz v0 v1 v2 v3 hib
    go_cut [6, 7] from 20 to 26 (fun s6 s7 wv => ∃ (V4 : World) (A7 : Option Addr) (c7 : Nat), V4 = wv ∧ s6 = .slice A7 nl c7 ∧ s7 = .int .i64 er ∧ Hid (Below V1.heap.size V1 V4 ∧ Reads V4 V4.heap.size 1 A7 nl (vi l)))
    case first =>
     refine wp_region_noPanic ?_
     go_region_held2 (fun W => (W.cell? ⟨z, 0, none⟩ = some (.int .i64 k) ∧ W.cell? ⟨z, 1, none⟩ = some (.int .i64 n) ∧ W.cell? ⟨z, 2, none⟩ = some (.int .i64 m) ∧ W.cell? ⟨z, 3, none⟩ = some (.slice (some ⟨b, off, none⟩) nk c)) ∧ (W.cell? ⟨g5, 0, none⟩ = some (.int .i64 uk) ∧ W.cell? ⟨g5, 1, none⟩ = some (.int .i64 un) ∧ W.cell? ⟨g5, 2, none⟩ = some (.int .i64 um) ∧ W.cell? ⟨g5, 3, none⟩ = some (.slice A' nu c')))
      (exact HCE.out _ hbc)
      (first
      | (go_at_call 63; (with_reducible refine (HSO.out _ (bt HBV.out hbc)).mono ?_); rintro e w11 ⟨A2, c2, rfl, hsc, hb11⟩; replace hbc := bt hbc hb11; have HSC := Lib.hid hsc; clear hb11 hsc)
      | (go_at_call 64; (with_reducible refine (HFW.out _ _ _ (bt HBV.out hbc) HSC.out).mono ?_); rintro e w12 ⟨A7, c7, rfl, hown, hb12⟩; replace hbc := bt hbc hb12; have HO := Lib.hid hown; clear hb12 hown))
     all_goals
      refine NoPanic.normal ?_
      go_wp2_with fail
      go_meet
      exact ⟨_, _, _, rfl, rfl, rfl, hbc, Reads.of_own HO.out⟩
    case rest =>
    obtain ⟨V4, A7, c7, hV4, rfl, rfl, HB4⟩ := hcut
    subst hV4
    clear hbc HSO HFW HCE
    have HBF := Lib.hid (bt HBV.out HB4.out.1)
    by_cases he : er = 0
    ·have he2 : (er != 0) = false := by rw [bne_eq_false_iff_eq]; exact he
     have HX : Hid (chk p = chkL p (p.kids.drop (j + 1)) (j + 1)) := Lib.hid (by rw [HCX.out, if_neg (by simpa using he)])
     clear he
     go_wp2_with fail
     go_roundw
     case rel => exact ⟨j + 1, by omega, by go_num, HBF, HX⟩
     case measure => simp [intOf]; omega
    ·have he2 : (er != 0) = true := by rw [bne_iff_ne]; exact he
     have HX : Hid (chk p = ((j : Int) :: l, er)) := Lib.hid (by rw [HCX.out, if_pos he])
     clear he
     have hbA := below_new V4 (.cells #[.int .i64 (j : Int)] 3)
     have hbB := ba hbA (.cells #[.slice (some ⟨V4.heap.size, 0, none⟩) 1 1, .slice A7 nl c7] 22)
     have HCAT : Hid (Calls Tryd.prog 67 #[.slice (some ⟨V4.heap.size + 1, 0, none⟩) 2 2] ((V4.alloc (.cells #[.int .i64 (j : Int)] 3)).alloc (.cells #[.slice (some ⟨V4.heap.size, 0, none⟩) 1 1, .slice A7 nl c7] 22)) fun e w' => ∃ A c, e = .returned (.slice A (nl + 1) c) ∧ (Reads w' w'.heap.size 1 A (nl + 1) (vi ((j : Int) :: l)) ∧ nl + 1 ≤ c) ∧ Below V4.heap.size V4 w') := Lib.hid (by
      have hra : Reads ((V4.alloc (.cells #[.int .i64 (j : Int)] 3)).alloc (.cells #[.slice (some ⟨V4.heap.size, 0, none⟩) 1 1, .slice A7 nl c7] 22)) ((V4.alloc (.cells #[.int .i64 (j : Int)] 3)).alloc (.cells #[.slice (some ⟨V4.heap.size, 0, none⟩) 1 1, .slice A7 nl c7] 22)).heap.size 1 (some ⟨V4.heap.size, 0, none⟩) 1 (vi [(j : Int)]) :=
       Reads.of_own (ownsRow_below (own_lit (w := V4) (base := V4.heap.size) (e := 3) (size := 1) (xs := vi [(j : Int)]) (n := 1) (Nat.le_refl _) rfl (len_le (by omega))) (below_new _ _))
      have hrb := (HB4.out.2.below hbB).more hbB.size
      have hlen : nl ≤ 100000000 := by have := HLN.out; rw [← HNL.out] at this; omega
      have h := concatI_is [(j : Int)] l (V4.heap.size + 1) (some ⟨V4.heap.size, 0, none⟩) A7 1 c7 _ (Blk.new_at _ _ (by rw [size_alloc]) (by rw [← HNL.out]; rfl)) hra (by rw [← HNL.out]; exact hrb) (by simp) (by simp) (by rw [← HNL.out]; exact hlen)
      refine h.mono ?_
      rintro e w9 ⟨A9, c9, rfl, hown, hb9⟩
      have e9 : ([(j : Int)] ++ l).length = nl + 1 := by rw [List.length_append, ← HNL.out]; simp; omega
      rw [e9] at hown ⊢
      exact ⟨A9, c9, rfl, ⟨Reads.of_own hown, by obtain ⟨A0, c0, e0, h0⟩ := own_len hown; injection e0 with _ _ e0; omega⟩, bt hbB hb9⟩)
     clear hbA hbB
     go_wp2_with (go_at_call 67; refine HCAT.out.mono ?_; rintro e w9 ⟨A9, c9, rfl, h1, h2⟩; have HR9 := Lib.hid h1; have HB9 := Lib.hid (bt HBF.out h2); clear h1 h2)
     refine bodyPost_ret (v := .tuple #[.slice A9 (nl + 1) c9, .int .i64 er]) (by simp [results, Tryd.results33, go_sem]) rfl ?_
     unfold ChkPost
     rw [HX.out]
     have e9 : ((j : Int) :: l).length = nl + 1 := by rw [List.length_cons, ← HNL.out]
     simp only [e9]
     exact ⟨A9, c9, rfl, HR9.out, bt HB1.out HB9.out⟩
   ·have HX : Hid (chk p = ([], 0)) := Lib.hid (by rw [HCR.out]; exact chkL_end p (by rw [← HNK.out]; omega))
    go_wp2_with fail
    refine bodyPost_ret (v := .tuple #[.slice none 0 0, .int .i64 0]) (by simp [results, Tryd.results33, go_sem]) rfl ?_
    unfold ChkPost
    rw [HX.out]
    exact ⟨none, 0, rfl, ⟨reads_nil _ _, Nat.le_refl _⟩, bt HB1.out HBR.out⟩
end Go.Proofs.YtlffmfdjifgfgaaDoor

namespace Go.Proofs.YtlffmfdjifgfgaaDoor
open Go.RowKit WM TR TY

theorem plain_of {t : T} (h : isPlain t = true) : (t.k = 0 ∨ t.k = 1) ∧ t.kids = [] := by
 unfold isPlain at h
 simp only [Bool.and_eq_true, Bool.or_eq_true, beq_iff_eq, List.length_eq_zero_iff] at h
 exact ⟨h.1.1.1, h.2⟩
theorem plain_ok (s : Sc) {t : T} (h : isPlain t = true) : okW s t := by
 obtain ⟨h1, h2⟩ := plain_of h
 refine (ok_iff s t).2 ⟨?_, fun u hu => by rw [h2] at hu; simp at hu⟩
 rcases h1 with h1 | h1 <;> simp [errOf, missing, misused, wants, fitB, h1]
theorem type_ok (s : Sc) {t : T} (h : isType t = true) : okW s t := by
 unfold isType at h
 by_cases h2 : t.k = 2
 ·rw [if_pos (by simpa using h2)] at h
  simp only [Bool.and_eq_true, beq_iff_eq, List.length_eq_zero_iff] at h
  refine (ok_iff s t).2 ⟨by simp [errOf, missing, misused, wants, fitB, h2], fun u hu => by rw [h.2] at hu; simp at hu⟩
 ·rw [if_neg (by simpa using h2)] at h
  by_cases h3 : t.k = 3
  ·rw [if_pos (by simpa using h3)] at h
   simp only [Bool.and_eq_true] at h
   exact (ok_iff s t).2 ⟨by simp [errOf, missing, misused, wants, fitB, h3], fun u hu => plain_ok s (List.all_eq_true.1 h.2 u hu)⟩
  ·rw [if_neg (by simpa using h3)] at h
   exact plain_ok s h
theorem FI.isFun {f : FI} (h : FIOk f) (hb : isBlock f.blk = true) : isFun f.t = true := by
 have hl := f.len
 have h1 := h.np
 have h2 := h.lo
 have h3 := h.hi
 refine isFun_true ⟨rfl, ?_, ?_, fun i u hi hu => ?_, fun u hu => ?_⟩
 ·unfold btw
  rw [hl]
  show (decide (0 ≤ (f.np : Int)) && decide ((f.np : Int) ≤ 3) && decide (0 ≤ (0 : Int)) && decide ((0 : Int) ≤ 0) && decide ((1 : Int) ≤ ((f.tys.length + 1 : Nat) : Int)) && decide (((f.tys.length + 1 : Nat) : Int) ≤ 7)) = true
  simp only [Bool.and_eq_true, decide_eq_true_eq]
  omega
 ·rw [hl]; show (f.np : Int) ≤ _; omega
 ·rw [hl] at hi
  have hu2 : f.tys[i]? = some u := by
   have : (f.tys ++ [f.blk])[i]? = some u := hu
   rwa [List.getElem?_append_left (by omega)] at this
  have h4 := h.q i u hu2
  exact ⟨h4.1, fun hn => h4.2 (by have : (i : Int) < (f.np : Int) := hn; omega)⟩
 ·rw [hl] at hu
  have : (f.tys ++ [f.blk])[f.tys.length + 1 - 1]? = some u := hu
  rw [Nat.add_sub_cancel, List.getElem?_append_right (Nat.le_refl _)] at this
  simp at this
  rw [← this]; exact hb
theorem FI.ok {f : FI} (s : Sc) (h : FIOk f) (hb : okW s f.blk) : okW s f.t := by
 refine (ok_iff s f.t).2 ⟨by simp [errOf, missing, misused, wants, fitB, FI.t], fun u hu => ?_⟩
 have hu2 : u ∈ f.tys ++ [f.blk] := hu
 rcases List.mem_append.1 hu2 with hu | hu
 ·obtain ⟨i, hi⟩ := List.mem_iff_getElem?.1 hu
  exact type_ok s (h.q i u hi).1
 ·simp at hu; rw [hu]; exact hb
theorem FI.size_le {f : FI} (h : FIOk f) : size f.t ≤ 80 := by
 rw [size_eq]
 show 1 + ((f.tys ++ [f.blk]).map size).sum ≤ 80
 rw [List.map_append, List.sum_append]
 have h1 := h.ts
 have h2 := h.sz
 simp only [List.map_cons, List.map_nil, List.sum_cons, List.sum_nil]
 omega
theorem fi_sizes : ∀ fs : List FI, (∀ f ∈ fs, FIOk f) → ((fs.map FI.t).map size).sum ≤ fs.length * 80
 | [], _ => by simp
 | f :: fs, h => by
  have h1 := FI.size_le (h f (List.mem_cons_self ..))
  have h2 := fi_sizes fs fun g hg => h g (List.mem_cons_of_mem _ hg)
  simp only [List.map_cons, List.sum_cons, List.length_cons]
  omega
theorem chkL_ok (p : T) : ∀ (l : List T) (i : Nat), (∀ u ∈ l, okW (scO p u) u) → chkL p l i = ([], 0)
 | [], _, _ => rfl
 | u :: l, i, h => by
  have h1 : (firstW (scO p u) u).2 = 0 := h u (List.mem_cons_self ..)
  rw [chkL, if_neg (by simpa using h1)]
  exact chkL_ok p l (i + 1) fun v hv => h v (List.mem_cons_of_mem _ hv)
structure Fine (p : T) : Prop where
 prog : isProg p = true
 chk : chk p = ([], 0)
 size : size p ≤ 241
 lo : 1 ≤ p.kids.length
 hi : p.kids.length ≤ 3
 m0 : p.m = 0
theorem Fine.k {p : T} (h : Fine p) : p.k = 27 := by
 have := h.prog; unfold isProg at this
 have h2 : IsProg p := by simpa using this
 exact h2.1
theorem fine_of {N : Int} {fs : List FI} (hN : 0 ≤ N ∧ N ≤ 2) (hl : 1 ≤ fs.length ∧ fs.length ≤ 3) (h : ∀ f ∈ fs, FIOk f ∧ GB (scO (pOf N fs) f.t) f.blk) (hd : depth (pOf N fs) ≤ 16) : Fine (pOf N fs) := by
 have hlen : (pOf N fs).kids.length = fs.length := by show (fs.map FI.t).length = _; rw [List.length_map]
 have hs := fi_sizes fs fun f hf => (h f hf).1
 have hsz : size (pOf N fs) ≤ 241 := by
  rw [size_eq]
  show 1 + ((fs.map FI.t).map TR.size).sum ≤ 241
  omega
 have hmem : ∀ u ∈ (pOf N fs).kids, ∃ f ∈ fs, f.t = u := fun u hu => by
  have : u ∈ fs.map FI.t := hu
  simpa using this
 have hp : isProg (pOf N fs) = true := by
  refine isProg_true ⟨rfl, ?_, by omega, hd, fun i u hu => ?_⟩
  ·unfold btw
   rw [hlen]
   show (decide (0 ≤ N) && decide (N ≤ 3) && decide (0 ≤ (0 : Int)) && decide ((0 : Int) ≤ 0) && decide ((1 : Int) ≤ (fs.length : Int)) && decide ((fs.length : Int) ≤ 6)) = true
   simp only [Bool.and_eq_true, decide_eq_true_eq]
   omega
  ·obtain ⟨f, hf, rfl⟩ := hmem u (List.mem_of_getElem? hu)
   exact FI.isFun (h f hf).1 (h f hf).2.bl
 refine ⟨hp, ?_, hsz, by omega, by omega, rfl⟩
 unfold chk
 rw [if_pos hp]
 exact chkL_ok _ _ _ fun u hu => by
  obtain ⟨f, hf, rfl⟩ := hmem u hu
  exact FI.ok _ (h f hf).1 (h f hf).2.ok
def FinePost (con : Bool) (w : World) (e : Ending) (w' : World) : Prop :=
 ∃ (p : T) (A' : Option Addr) (c' : Nat), e = .returned (.agg #[.int .i64 p.k, .int .i64 p.n, .int .i64 p.m, .slice A' p.kids.length c']) ∧ Fine p ∧ (con = true → 1 ≤ p.n) ∧ Rep w' (fun b => w.heap.size ≤ b ∧ b < w'.heap.size) 14 p (nd p A' c') ∧ Below w.heap.size w w'
theorem MadePost.fine {con : Bool} {w w' : World} {e : Ending} (h : MadePost con w e w') : FinePost con w e w' := by
 obtain ⟨N, fs, A', c', he, h0, h2, hc, h1, h3, hf, hr, hb⟩ := h
 refine ⟨pOf N fs, A', c', ?_, fine_of ⟨h0, h2⟩ ⟨h1, h3⟩ hf (Nat.le_trans hr.depth_le (by omega)), hc, hr, hb⟩
 rw [he]
 show _ = Ending.returned (.agg #[.int .i64 27, .int .i64 N, .int .i64 0, .slice A' (fs.map FI.t).length c'])
 rw [List.length_map]
end Go.Proofs.YtlffmfdjifgfgaaDoor

namespace Go.Proofs.YtlffmfdjifgfgaaDoor
open Go.RowKit WM TR TY

def MadeC : Prop := ∀ (L : List Int) (S : Nat → Prop) (A : Option Addr) (c : Nat) (con : Bool) (w : World), Rd w S 1 A L.length (vi L) → In S w.heap.size → (∀ x ∈ L, inRange x) → L.length ≤ 9223372036854775807 →
  Calls Tryd.prog 68 #[.slice A L.length c, .bool con] w (MadePost con w)

theorem FinePost.put {con : Bool} {w W V : World} {p : T} {A' : Option Addr} {c' r : Nat} (hr : r = w.heap.size) (hb : Below w.heap.size w W) (hW : W.heap.size = r + 1) (hf : Fine p) (hc : con = true → 1 ≤ p.n)
  (hp : Rep V (fun b => W.heap.size ≤ b ∧ b < V.heap.size) 14 p (nd p A' c')) (hv : Below W.heap.size W V) (v0 v1 v2 v3 : Value) :
  FinePost con w (.returned (.agg #[.int .i64 p.k, .int .i64 p.n, .int .i64 p.m, .slice A' p.kids.length c'])) ((((V.setCell ⟨r, 0, none⟩ v0).setCell ⟨r, 1, none⟩ v1).setCell ⟨r, 2, none⟩ v2).setCell ⟨r, 3, none⟩ v3) := by
 refine ⟨p, A', c', rfl, hf, hc, (put4_rep hp (r := r) (fun h => by have := h.1; omega) _ _ _ _).mono fun b hb => ?_, put4_below (hb.trans (hv.mono hb.size)) _ _ _ _ (by omega)⟩
 rw [(gw4 _ _ _ _ _ _).2]
 exact ⟨by have := hb.1; omega, hb.2⟩

set_option maxRecDepth 100000 in
set_option maxHeartbeats 4000000 in
theorem procs_is (HM : MadeC) (L : List Int) (S : Nat → Prop) (A : Option Addr) (c : Nat) (w : World) (hL : Rd w S 1 A L.length (vi L)) (hin : In S w.heap.size) (hr : ∀ x ∈ L, inRange x) (hl : L.length ≤ 9223372036854775807) :
  Calls Tryd.prog 37 #[.slice A L.length c] w (FinePost true w) := by
 obtain ⟨r, hrr⟩ : ∃ r, r = w.heap.size := ⟨_, rfl⟩
 obtain ⟨W1, hW1⟩ : ∃ W1, W1 = w.alloc (.cells #[.int .i64 0, .int .i64 0, .int .i64 0, .slice none 0 0] 25) := ⟨_, rfl⟩
 have HB1 : Hid (Below w.heap.size w W1) := Lib.hid (by rw [hW1]; exact below_new _ _)
 have HZ1 : Hid (Blk W1 r 25 #[.int .i64 0, .int .i64 0, .int .i64 0, .slice none 0 0]) := Lib.hid (by rw [hW1, hrr]; exact Blk.new _ _ _)
 have HS1 : Hid (W1.heap.size = r + 1) := Lib.hid (by rw [hW1, hrr, size_alloc])
 have HC1 : Hid (Calls Tryd.prog 68 #[.slice A L.length c, .bool true] W1 (MadePost true W1)) := Lib.hid (HM L S A c true W1 (hL.keep (Keeps.below hin HB1.out)) (hin.more HB1.out.size) hr hl)
 have HR := Lib.hid hrr
 have HW1 := Lib.hid hW1
 clear hL hin hr hl hrr hW1 HM
 go_enter Tryd.func37, Tryd.ntmps37
 go_wp2_with (go_at_call 68; rw [← HW1.out]; refine HC1.out.mono ?_; rintro e V h; obtain ⟨p, A', c', rfl, hf, hc, hp, hv⟩ := h.fine; have HF := Lib.hid hf; have HC := Lib.hid hc; have HP := Lib.hid hp; have HV := Lib.hid hv; have HZ := Lib.hid (HZ1.out.below hv (by have := HS1.out; omega)); rw [← HR.out]; have r0 := HZ.out.cell 0; have r1 := HZ.out.cell 1; have r2 := HZ.out.cell 2; have r3 := HZ.out.cell 3; have f0 := HZ.out.frozen 0; have f1 := HZ.out.frozen 1; have f2 := HZ.out.frozen 2; have f3 := HZ.out.frozen 3; simp only [List.getElem?_toArray, List.getElem?_cons_zero, List.getElem?_cons_succ] at r0 r1 r2 r3; clear hf hc hp hv h)
 refine bodyPost_ret (v := .agg #[.int .i64 p.k, .int .i64 p.n, .int .i64 p.m, .slice A' p.kids.length c']) (by simp [results, Tryd.results37, go_sem, r0, r1, r2, r3]) rfl ?_
 exact FinePost.put (con := true) HR.out HB1.out HS1.out HF.out (fun _ => HC.out trivial) HP.out HV.out _ _ _ _

set_option maxRecDepth 100000 in
set_option maxHeartbeats 4000000 in
theorem prog_is (HM : MadeC) (L : List Int) (S : Nat → Prop) (A : Option Addr) (c : Nat) (w : World) (hL : Rd w S 1 A L.length (vi L)) (hin : In S w.heap.size) (hr : ∀ x ∈ L, inRange x) (hl : L.length ≤ 9223372036854775807) :
  Calls Tryd.prog 38 #[.slice A L.length c] w (FinePost false w) := by
 obtain ⟨r, hrr⟩ : ∃ r, r = w.heap.size := ⟨_, rfl⟩
 obtain ⟨W1, hW1⟩ : ∃ W1, W1 = w.alloc (.cells #[.int .i64 0, .int .i64 0, .int .i64 0, .slice none 0 0] 25) := ⟨_, rfl⟩
 have hb1 : Below w.heap.size w W1 := by rw [hW1]; exact below_new _ _
 have HB1 := Lib.hid hb1
 have HZ1 : Hid (Blk W1 r 25 #[.int .i64 0, .int .i64 0, .int .i64 0, .slice none 0 0]) := Lib.hid (by rw [hW1, hrr]; exact Blk.new _ _ _)
 have HS1 : Hid (W1.heap.size = r + 1) := Lib.hid (by rw [hW1, hrr, size_alloc])
 have hL1 : Rd W1 S 1 A L.length (vi L) := hL.keep (Keeps.below hin hb1)
 obtain ⟨cn, hcn⟩ : ∃ b : Bool, b = (numAt L 0 9 == 8) := ⟨_, rfl⟩
 have HC1 : Hid (Calls Tryd.prog 68 #[.slice A L.length c, .bool cn] W1 (MadePost cn W1)) := Lib.hid (HM L S A c cn W1 hL1 (hin.more hb1.size) hr hl)
 have HA1 : Hid (Calls Tryd.prog 22 #[.slice A L.length c, .int .i64 ((0 : Nat) : Int), .int .i64 9] W1 fun e w' => e = .returned (.int .i64 (numAt L 0 9)) ∧ W1 = w') := Lib.hid (at_is L S A c 0 9 W1 hL1 hr (by omega) hl (by omega))
 have HR := Lib.hid hrr
 have HW1 := Lib.hid hW1
 have HCN := Lib.hid hcn
 clear hL hin hr hl hrr hW1 HM hb1 hL1 hcn
 go_enter Tryd.func38, Tryd.ntmps38
 go_wp2_with (first
  | (go_at_call 22; rw [← HW1.out]; refine HA1.out.mono ?_; rintro e V ⟨rfl, rfl⟩)
  | (go_at_call 68; rw [← HCN.out]; refine HC1.out.mono ?_; rintro e V h; obtain ⟨p, A', c', rfl, hf, hc, hp, hv⟩ := h.fine; have HF := Lib.hid hf; have HP := Lib.hid hp; have HV := Lib.hid hv; have HZ := Lib.hid (HZ1.out.below hv (by have := HS1.out; omega)); rw [← HR.out]; have r0 := HZ.out.cell 0; have r1 := HZ.out.cell 1; have r2 := HZ.out.cell 2; have r3 := HZ.out.cell 3; have f0 := HZ.out.frozen 0; have f1 := HZ.out.frozen 1; have f2 := HZ.out.frozen 2; have f3 := HZ.out.frozen 3; simp only [List.getElem?_toArray, List.getElem?_cons_zero, List.getElem?_cons_succ] at r0 r1 r2 r3; clear hf hc hp hv h))
 refine bodyPost_ret (v := .agg #[.int .i64 p.k, .int .i64 p.n, .int .i64 p.m, .slice A' p.kids.length c']) (by simp [results, Tryd.results38, go_sem, r0, r1, r2, r3]) rfl ?_
 exact FinePost.put HR.out HB1.out HS1.out HF.out (fun h => by simp at h) HP.out HV.out _ _ _ _

set_option maxRecDepth 100000 in
set_option maxHeartbeats 4000000 in
theorem lawProg_is (HM : MadeC) (L : List Int) (S : Nat → Prop) (A : Option Addr) (c : Nat) (z : Int) (w : World) (hL : Rd w S 1 A L.length (vi L)) (hin : In S w.heap.size) (hr : ∀ x ∈ L, inRange x) (hl : L.length ≤ 9223372036854775807) :
  Calls Tryd.prog 10 #[.slice A L.length c, .int .i64 z] w (FinePost false w) := by
 obtain ⟨r, hrr⟩ : ∃ r, r = w.heap.size := ⟨_, rfl⟩
 obtain ⟨W1, hW1⟩ : ∃ W1, W1 = w.alloc (.cells #[.int .i64 0, .int .i64 0, .int .i64 0, .slice none 0 0] 25) := ⟨_, rfl⟩
 have hb1 : Below w.heap.size w W1 := by rw [hW1]; exact below_new _ _
 have HB1 := Lib.hid hb1
 have HZ1 : Hid (Blk W1 r 25 #[.int .i64 0, .int .i64 0, .int .i64 0, .slice none 0 0]) := Lib.hid (by rw [hW1, hrr]; exact Blk.new _ _ _)
 have HS1 : Hid (W1.heap.size = r + 1) := Lib.hid (by rw [hW1, hrr, size_alloc])
 have hL1 : Rd W1 S 1 A L.length (vi L) := hL.keep (Keeps.below hin hb1)
 have HCP : Hid (Calls Tryd.prog 37 #[.slice A L.length c] W1 (FinePost true W1)) := Lib.hid (procs_is HM L S A c W1 hL1 (hin.more hb1.size) hr hl)
 have HCQ : Hid (Calls Tryd.prog 38 #[.slice A L.length c] W1 (FinePost false W1)) := Lib.hid (prog_is HM L S A c W1 hL1 (hin.more hb1.size) hr hl)
 have HR := Lib.hid hrr
 have HW1 := Lib.hid hW1
 clear hL hin hr hl hrr hW1 HM hb1 hL1
 go_enter Tryd.func10, Tryd.ntmps10
 by_cases h : z.tmod 3 = 0
 ·have hq0 : (z.tmod 3 == 0) = true := by simpa using h
  go_wp2_with (go_at_call 37; rw [← HW1.out]; refine HCP.out.mono ?_; rintro e V ⟨p, A', c', rfl, hf, hc, hp, hv⟩; have HF := Lib.hid hf; have HP := Lib.hid hp; have HV := Lib.hid hv; have HZ := Lib.hid (HZ1.out.below hv (by have := HS1.out; omega)); rw [← HR.out]; have r0 := HZ.out.cell 0; have r1 := HZ.out.cell 1; have r2 := HZ.out.cell 2; have r3 := HZ.out.cell 3; have f0 := HZ.out.frozen 0; have f1 := HZ.out.frozen 1; have f2 := HZ.out.frozen 2; have f3 := HZ.out.frozen 3; simp only [List.getElem?_toArray, List.getElem?_cons_zero, List.getElem?_cons_succ] at r0 r1 r2 r3; clear hf hc hp hv)
  refine bodyPost_ret (v := .agg #[.int .i64 p.k, .int .i64 p.n, .int .i64 p.m, .slice A' p.kids.length c']) (by simp [results, Tryd.results10, go_sem, r0, r1, r2, r3]) rfl ?_
  exact FinePost.put HR.out HB1.out HS1.out HF.out (fun h => by simp at h) HP.out HV.out _ _ _ _
 ·have hq0 : (z.tmod 3 == 0) = false := by simpa using h
  go_wp2_with (go_at_call 38; rw [← HW1.out]; refine HCQ.out.mono ?_; rintro e V ⟨p, A', c', rfl, hf, hc, hp, hv⟩; have HF := Lib.hid hf; have HP := Lib.hid hp; have HV := Lib.hid hv; have HZ := Lib.hid (HZ1.out.below hv (by have := HS1.out; omega)); rw [← HR.out]; have r0 := HZ.out.cell 0; have r1 := HZ.out.cell 1; have r2 := HZ.out.cell 2; have r3 := HZ.out.cell 3; have f0 := HZ.out.frozen 0; have f1 := HZ.out.frozen 1; have f2 := HZ.out.frozen 2; have f3 := HZ.out.frozen 3; simp only [List.getElem?_toArray, List.getElem?_cons_zero, List.getElem?_cons_succ] at r0 r1 r2 r3; clear hf hc hp hv)
  refine bodyPost_ret (v := .agg #[.int .i64 p.k, .int .i64 p.n, .int .i64 p.m, .slice A' p.kids.length c']) (by simp [results, Tryd.results10, go_sem, r0, r1, r2, r3]) rfl ?_
  exact FinePost.put HR.out HB1.out HS1.out HF.out (fun h => by simp at h) HP.out HV.out _ _ _ _
end Go.Proofs.YtlffmfdjifgfgaaDoor

namespace Go.Proofs.YtlffmfdjifgfgaaDoor
open Go.RowKit WM TR TY
theorem madeC : MadeC := fun L S A c con w hL hin hr hl => made_is L S A c con w hL hin hr hl
end Go.Proofs.YtlffmfdjifgfgaaDoor

namespace Go.Proofs.YtlffmfdjifgfgaaDoor
open Go.RowKit WM TR TY

def isEx (k : Int) : Bool := decide (4 ≤ k) && decide (k ≤ 12)
set_option maxRecDepth 100000 in
set_option maxHeartbeats 2000000 in
theorem rexpr_is (t : T) (A : Option Addr) (l c : Nat) (w : World) :
  Calls Tryd.prog 28 #[.agg #[.int .i64 t.k, .int .i64 t.n, .int .i64 t.m, .slice A l c]] w fun e w' => e = .returned (.bool (isEx t.k)) ∧ Below w.heap.size w w' := by
 obtain ⟨r, hr⟩ : ∃ r, isEx t.k = r := ⟨_, rfl⟩
 rw [hr]
 unfold isEx at hr
 by_cases h4 : 4 ≤ t.k
 ·by_cases h12 : t.k ≤ 12
  ·have HR : Hid (true = r) := Lib.hid (by rw [← hr]; simp [h4, h12])
   clear hr
   go_enter Tryd.func28, Tryd.ntmps28
   go_wp2_with fail
   go_ret
   exact ⟨ret_b HR.out, below_new _ _⟩
  ·have HR : Hid (false = r) := Lib.hid (by rw [← hr]; simp [h12])
   clear hr
   go_enter Tryd.func28, Tryd.ntmps28
   go_wp2_with fail
   go_ret
   exact ⟨ret_b HR.out, below_new _ _⟩
 ·have HR : Hid (false = r) := Lib.hid (by rw [← hr]; simp [h4])
  clear hr
  go_enter Tryd.func28, Tryd.ntmps28
  go_wp2_with fail
  go_ret
  exact ⟨ret_b HR.out, below_new _ _⟩
end Go.Proofs.YtlffmfdjifgfgaaDoor

namespace Go.Proofs.YtlffmfdjifgfgaaDoor
open Go.RowKit WM TR TY

theorem nds_new {w : World} {d : Nat} {ts : List T} {xs : List Value} (h : Reps w (Lt w.heap.size) d ts xs) (hl : ts.length ≤ 1000) :
  Nds (w.alloc (.cells xs.toArray 25)) (Lt (w.alloc (.cells xs.toArray 25)).heap.size) d ts (some ⟨w.heap.size, 0, none⟩) ts.length := by
 have ho := own_lit (w := w) (base := w.heap.size) (e := 25) (size := 4) (xs := xs) (n := ts.length) (Nat.le_refl _) h.1 (len_le (by omega))
 have hb := below_new w (.cells xs.toArray 25)
 refine ⟨⟨xs, (Rd.of_own ho).mono fun b hb => hb.2, (h.keep fun b hb' => hb.block b hb').mono fun b (hb' : b < w.heap.size) => Nat.lt_of_lt_of_le hb' hb.size⟩, Nat.le_refl _, hl⟩
def NrY (r B : Nat) (b : Nat) : Prop := b < B ∧ b ≠ r
theorem nds_newN {r : Nat} {w : World} {d : Nat} {ts : List T} {xs : List Value} (h : Reps w (NrY r w.heap.size) d ts xs) (hr : r < w.heap.size) (hl : ts.length ≤ 1000) :
  Nds (w.alloc (.cells xs.toArray 25)) (NrY r (w.alloc (.cells xs.toArray 25)).heap.size) d ts (some ⟨w.heap.size, 0, none⟩) ts.length := by
 have ho := own_lit (w := w) (base := w.heap.size) (e := 25) (size := 4) (xs := xs) (n := ts.length) (Nat.le_refl _) h.1 (len_le (by omega))
 have hb := below_new w (.cells xs.toArray 25)
 refine ⟨⟨xs, (Rd.of_own ho).mono fun b hb => ⟨hb.2, by omega⟩, (h.keep fun b hb' => hb.block b hb'.1).mono fun b hb' => ⟨Nat.lt_of_lt_of_le hb'.1 hb.size, hb'.2⟩⟩, Nat.le_refl _, hl⟩
theorem rep_nextN {r : Nat} {w w' : World} {d : Nat} {t : T} {cs : List Value} (h : Rep w (NrY r w.heap.size) d t cs) (hb : Below w.heap.size w w') : Rep w' (NrY r w'.heap.size) d t cs :=
 (h.keep fun b hb' => hb.block b hb'.1).mono fun b hb' => ⟨Nat.lt_of_lt_of_le hb'.1 hb.size, hb'.2⟩
theorem Nds.rep {w : World} {S : Nat → Prop} {d : Nat} {ts : List T} {A : Option Addr} {c : Nat} (h : Nds w S d ts A c) {k n m : Int} (hk : inRange k) (hn : inRange n) (hm : inRange m) : Rep w S (d + 1) ⟨k, n, m, ts⟩ (nd ⟨k, n, m, ts⟩ A c) := by
 obtain ⟨⟨xs, h1, h2⟩, h3, _⟩ := h
 exact Rep.mk hk hn hm h3 h1 h2
set_option maxHeartbeats 4000000 in
theorem node_is (k n : Int) (A : Option Addr) (l c : Nat) (w : World) : Calls Tryd.prog 46 #[.int .i64 k, .int .i64 n, .slice A l c] w fun e w' => e = .returned (.agg #[.int .i64 k, .int .i64 n, .int .i64 0, .slice A l c]) ∧ Below w.heap.size w w' := by
 go_enter Tryd.func46, Tryd.ntmps46
 go_upto_region 1 with fail
 obtain ⟨W1, hW1⟩ : ∃ W, W = w.alloc (.cells #[.int .i64 0, .int .i64 0, .int .i64 0, .slice none 0 0] 25) := ⟨_, rfl⟩
 obtain ⟨z, hz⟩ : ∃ z, z = w.heap.size := ⟨_, rfl⟩
 have hb1 : Below w.heap.size w W1 := by rw [hW1]; exact below_new _ _
 have k1 : Blk W1 z 25 #[.int .i64 0, .int .i64 0, .int .i64 0, .slice none 0 0] := by rw [hW1, hz]; exact Blk.new _ _ _
 rw [← hW1, ← hz]
 obtain ⟨y0, y1, y2, y3⟩ : W1.cell? ⟨z, 0, none⟩ = some (.int .i64 0) ∧ W1.cell? ⟨z, 1, none⟩ = some (.int .i64 0) ∧ W1.cell? ⟨z, 2, none⟩ = some (.int .i64 0) ∧ W1.cell? ⟨z, 3, none⟩ = some (.slice none 0 0) := ⟨k1.cell 0, k1.cell 1, k1.cell 2, k1.cell 3⟩
 obtain ⟨f0, f1, f2, f3⟩ : W1.frozen? ⟨z, 0, none⟩ = false ∧ W1.frozen? ⟨z, 1, none⟩ = false ∧ W1.frozen? ⟨z, 2, none⟩ = false ∧ W1.frozen? ⟨z, 3, none⟩ = false := ⟨k1.frozen 0, k1.frozen 1, k1.frozen 2, k1.frozen 3⟩
 have HK := Lib.hid k1
 have HB := Lib.hid hb1
 have HZ := Lib.hid hz
 clear hW1 hz k1 hb1
 go_wp2_with fail
 have hzz := HZ.out
 obtain ⟨W5, hW5⟩ : ∃ W, W = (((W1.setCell ⟨z, 0, none⟩ (.int .i64 k)).setCell ⟨z, 1, none⟩ (.int .i64 n)).setCell ⟨z, 2, none⟩ (.int .i64 0)).setCell ⟨z, 3, none⟩ (.slice A l c) := ⟨_, rfl⟩
 rw [← hW5]
 have k5 : Blk W5 z 25 #[.int .i64 k, .int .i64 n, .int .i64 0, .slice A l c] := by
  rw [hW5]
  have h := (((HK.out.set_ 0 (.int .i64 k)).set_ 1 (.int .i64 n)).set_ 2 (.int .i64 0)).set_ 3 (.slice A l c)
  simpa using h
 have hb5 : Below w.heap.size w W5 := by
  rw [hW5]
  exact (((HB.out.setCell (by show w.heap.size ≤ z; omega) _).setCell (by show w.heap.size ≤ z; omega) _).setCell (by show w.heap.size ≤ z; omega) _).setCell (by show w.heap.size ≤ z; omega) _
 have r0 : W5.cell? ⟨z, 0, none⟩ = some (.int .i64 k) := k5.cell 0
 have r1 : W5.cell? ⟨z, 1, none⟩ = some (.int .i64 n) := k5.cell 1
 have r2 : W5.cell? ⟨z, 2, none⟩ = some (.int .i64 0) := k5.cell 2
 have r3 : W5.cell? ⟨z, 3, none⟩ = some (.slice A l c) := k5.cell 3
 refine bodyPost_ret (v := .agg #[.int .i64 k, .int .i64 n, .int .i64 0, .slice A l c]) (by simp [results, Tryd.results46, go_sem, r0, r1, r2, r3]) rfl ⟨rfl, hb5⟩
def exB (x : T) : T := ⟨13, 0, 0, [x]⟩
def exF (x : T) : T := ⟨26, 1, 0, [⟨0, 0, 0, []⟩, ⟨2, 2, 0, []⟩, exB x]⟩
def exT (x : T) : T := ⟨27, 0, 0, [exF x]⟩
theorem in_sm {k : Int} (h0 : -100 ≤ k) (h1 : k ≤ 100) : inRange k := ⟨by omega, by omega⟩
set_option maxRecDepth 100000 in
set_option maxHeartbeats 8000000 in
theorem example_is (d : Nat) (x : T) (A : Option Addr) (c : Nat) (w : World) (hr : Rep w (Lt w.heap.size) (d + 1) x (nd x A c)) : Calls Tryd.prog 47 #[.agg #[.int .i64 x.k, .int .i64 x.n, .int .i64 x.m, .slice A x.kids.length c]] w fun e w' => ∃ A' c', e = .returned (.agg #[.int .i64 (exT x).k, .int .i64 (exT x).n, .int .i64 (exT x).m, .slice A' (exT x).kids.length c']) ∧ Rep w' (Lt w'.heap.size) (d + 4) (exT x) (nd (exT x) A' c') ∧ Below w.heap.size w w' := by
 obtain ⟨nk, hnk⟩ : ∃ z, z = x.kids.length := ⟨_, rfl⟩
 obtain ⟨k, hk⟩ : ∃ z, z = x.k := ⟨_, rfl⟩
 obtain ⟨n, hn⟩ : ∃ z, z = x.n := ⟨_, rfl⟩
 obtain ⟨m, hm⟩ : ∃ z, z = x.m := ⟨_, rfl⟩
 obtain ⟨z, hz⟩ : ∃ z, z = w.heap.size := ⟨_, rfl⟩
 obtain ⟨W1, hW1⟩ : ∃ W, W = (w.alloc (.cells #[.int .i64 k, .int .i64 n, .int .i64 m, .slice A nk c] 25)).alloc (.cells #[.int .i64 0, .int .i64 0, .int .i64 0, .slice none 0 0] 25) := ⟨_, rfl⟩
 have hb1 : Below w.heap.size w W1 := by rw [hW1]; exact ba (below_new _ _) _
 have k0 : Blk W1 z 25 #[.int .i64 k, .int .i64 n, .int .i64 m, .slice A nk c] := by rw [hW1, hz]; exact (Blk.new _ _ _).alloc _
 have k1 : Blk W1 (z + 1) 25 #[.int .i64 0, .int .i64 0, .int .i64 0, .slice none 0 0] := by rw [hW1]; exact Blk.new_at _ _ (by rw [size_alloc, hz]) rfl
 obtain ⟨y0, y1, y2, y3⟩ : W1.cell? ⟨z, 0, none⟩ = some (.int .i64 k) ∧ W1.cell? ⟨z, 1, none⟩ = some (.int .i64 n) ∧ W1.cell? ⟨z, 2, none⟩ = some (.int .i64 m) ∧ W1.cell? ⟨z, 3, none⟩ = some (.slice A nk c) := ⟨k0.cell 0, k0.cell 1, k0.cell 2, k0.cell 3⟩
 obtain ⟨V2, hV2⟩ : ∃ W, W = W1.alloc (.cells #[.int .i64 k, .int .i64 n, .int .i64 m, .slice A nk c] 25) := ⟨_, rfl⟩
 obtain ⟨ga, hga⟩ : ∃ z, z = W1.heap.size := ⟨_, rfl⟩
 have hbV : Below W1.heap.size W1 V2 := by rw [hV2]; exact below_new _ _
 have hrB : Rep V2 (NrY (z + 1) V2.heap.size) (d + 2) (exB x) (nd (exB x) (some ⟨ga, 0, none⟩) 1) := by
  have h := (nds_newN (r := z + 1) (Reps.one ((hr.keep fun b hb => hb1.block b hb).mono fun b (hb : b < w.heap.size) => ⟨Nat.lt_of_lt_of_le hb hb1.size, by omega⟩)) k1.lt (by simp)).rep (k := 13) (n := 0) (m := 0) (in_sm (by omega) (by omega)) (in_sm (by omega) (by omega)) (in_sm (by omega) (by omega))
  have e : (nd x A c).toArray = #[.int .i64 k, .int .i64 n, .int .i64 m, .slice A nk c] := by rw [hk, hn, hm, hnk]; rfl
  rw [e, ← hV2, ← hga] at h
  exact h
 have HRB := Lib.hid hrB
 have HW1 := Lib.hid hW1
 have HV2 := Lib.hid hV2
 have HGA := Lib.hid hga
 have HBV := Lib.hid hbV
 have HZ := Lib.hid hz
 have HB1 := Lib.hid hb1
 have HK1 := Lib.hid k1
 rw [← hnk, ← hk, ← hn, ← hm]
 clear hnk hk hn hm hz hW1 hb1 k0 k1 hV2 hga hbV hrB hr
 go_enter Tryd.func47, Tryd.ntmps47
 go_upto_region 1 with fail
 rw [← HW1.out]
 try rw [← HZ.out]
 go_upto_region 2 with (go_at_call 46; rw [← HV2.out, ← HGA.out]; refine (node_is _ _ _ _ _ _).mono ?_; rintro e w3 ⟨rfl, hb3⟩; have HB3 := Lib.hid hb3; clear hb3)
 clear y0 y1 y2 y3
 obtain ⟨V4, hV4⟩ : ∃ W, W = w3.alloc (.cells #[.int .i64 13, .int .i64 0, .int .i64 0, .slice (some ⟨ga, 0, none⟩) 1 1] 25) := ⟨_, rfl⟩
 obtain ⟨g3, hg3⟩ : ∃ z, z = w3.heap.size := ⟨_, rfl⟩
 rw [← hV4, ← hg3]
 have k3 : Blk V4 g3 25 #[.int .i64 13, .int .i64 0, .int .i64 0, .slice (some ⟨ga, 0, none⟩) 1 1] := by rw [hV4, hg3]; exact Blk.new _ _ _
 obtain ⟨y0, y1, y2, y3⟩ : V4.cell? ⟨g3, 0, none⟩ = some (.int .i64 13) ∧ V4.cell? ⟨g3, 1, none⟩ = some (.int .i64 0) ∧ V4.cell? ⟨g3, 2, none⟩ = some (.int .i64 0) ∧ V4.cell? ⟨g3, 3, none⟩ = some (.slice (some ⟨ga, 0, none⟩) 1 1) := ⟨k3.cell 0, k3.cell 1, k3.cell 2, k3.cell 3⟩
 have HB14 : Hid (Below W1.heap.size W1 V4) := Lib.hid (bt HBV.out (bt HB3.out (by rw [hV4]; exact below_new _ _)))
 have hrB4 : Rep V4 (NrY (z + 1) V4.heap.size) (d + 2) (exB x) (nd (exB x) (some ⟨ga, 0, none⟩) 1) := rep_nextN HRB.out (bt HB3.out (by rw [hV4]; exact below_new _ _))
 obtain ⟨V5, hV5⟩ : ∃ W, W = V4.alloc (.cells #[.int .i64 0, .int .i64 0, .int .i64 0, .slice none 0 0, .int .i64 2, .int .i64 2, .int .i64 0, .slice none 0 0, .int .i64 13, .int .i64 0, .int .i64 0, .slice (some ⟨ga, 0, none⟩) 1 1] 25) := ⟨_, rfl⟩
 obtain ⟨gb, hgb⟩ : ∃ z, z = V4.heap.size := ⟨_, rfl⟩
 have hrF : Rep V5 (NrY (z + 1) V5.heap.size) (d + 3) (exF x) (nd (exF x) (some ⟨gb, 0, none⟩) 3) := by
  have hl0 : Rep V4 (NrY (z + 1) V4.heap.size) (d + 2) ⟨0, 0, 0, []⟩ (nd ⟨0, 0, 0, []⟩ none 0) := Rep.leaf (in_sm (by omega) (by omega)) (in_sm (by omega) (by omega)) (in_sm (by omega) (by omega)) (d + 1) 0
  have hl2 : Rep V4 (NrY (z + 1) V4.heap.size) (d + 2) ⟨2, 2, 0, []⟩ (nd ⟨2, 2, 0, []⟩ none 0) := Rep.leaf (in_sm (by omega) (by omega)) (in_sm (by omega) (by omega)) (in_sm (by omega) (by omega)) (d + 1) 0
  have h := (nds_newN (((Reps.one hl0).snoc hl2).snoc hrB4) (HK1.out.below HB14.out HK1.out.lt).lt (by simp)).rep (k := 26) (n := 1) (m := 0) (in_sm (by omega) (by omega)) (in_sm (by omega) (by omega)) (in_sm (by omega) (by omega))
  have e : (((nd ⟨0, 0, 0, []⟩ none 0) ++ (nd ⟨2, 2, 0, []⟩ none 0)) ++ (nd (exB x) (some ⟨ga, 0, none⟩) 1)).toArray = #[.int .i64 0, .int .i64 0, .int .i64 0, .slice none 0 0, .int .i64 2, .int .i64 2, .int .i64 0, .slice none 0 0, .int .i64 13, .int .i64 0, .int .i64 0, .slice (some ⟨ga, 0, none⟩) 1 1] := rfl
  rw [e, ← hV5, ← hgb] at h
  exact h
 have HRF := Lib.hid hrF
 have HV5 := Lib.hid hV5
 have HGB := Lib.hid hgb
 have HB45 : Hid (Below V4.heap.size V4 V5) := Lib.hid (by rw [hV5]; exact below_new _ _)
 clear hV4 hg3 k3 hrB4 hV5 hgb hrF
 go_upto_region 3 with (go_at_call 46; rw [← HV5.out, ← HGB.out]; refine (node_is _ _ _ _ _ _).mono ?_; rintro e w6 ⟨rfl, hb6⟩; have HB6 := Lib.hid hb6; clear hb6)
 clear y0 y1 y2 y3
 obtain ⟨V7, hV7⟩ : ∃ W, W = w6.alloc (.cells #[.int .i64 26, .int .i64 1, .int .i64 0, .slice (some ⟨gb, 0, none⟩) 3 3] 25) := ⟨_, rfl⟩
 obtain ⟨g6, hg6⟩ : ∃ z, z = w6.heap.size := ⟨_, rfl⟩
 rw [← hV7, ← hg6]
 have k6 : Blk V7 g6 25 #[.int .i64 26, .int .i64 1, .int .i64 0, .slice (some ⟨gb, 0, none⟩) 3 3] := by rw [hV7, hg6]; exact Blk.new _ _ _
 obtain ⟨y0, y1, y2, y3⟩ : V7.cell? ⟨g6, 0, none⟩ = some (.int .i64 26) ∧ V7.cell? ⟨g6, 1, none⟩ = some (.int .i64 1) ∧ V7.cell? ⟨g6, 2, none⟩ = some (.int .i64 0) ∧ V7.cell? ⟨g6, 3, none⟩ = some (.slice (some ⟨gb, 0, none⟩) 3 3) := ⟨k6.cell 0, k6.cell 1, k6.cell 2, k6.cell 3⟩
 have hb57 : Below V5.heap.size V5 V7 := bt HB6.out (by rw [hV7]; exact below_new _ _)
 have HB17 : Hid (Below W1.heap.size W1 V7) := Lib.hid (bt HB14.out (bt HB45.out hb57))
 have hrF7 := rep_nextN HRF.out hb57
 obtain ⟨V8, hV8⟩ : ∃ W, W = V7.alloc (.cells #[.int .i64 26, .int .i64 1, .int .i64 0, .slice (some ⟨gb, 0, none⟩) 3 3] 25) := ⟨_, rfl⟩
 obtain ⟨gc, hgc⟩ : ∃ z, z = V7.heap.size := ⟨_, rfl⟩
 have hrT : Rep V8 (NrY (z + 1) V8.heap.size) (d + 4) (exT x) (nd (exT x) (some ⟨gc, 0, none⟩) 1) := by
  have h := (nds_newN (Reps.one hrF7) (HK1.out.below HB17.out HK1.out.lt).lt (by simp)).rep (k := 27) (n := 0) (m := 0) (in_sm (by omega) (by omega)) (in_sm (by omega) (by omega)) (in_sm (by omega) (by omega))
  have e : (nd (exF x) (some ⟨gb, 0, none⟩) 3).toArray = #[.int .i64 26, .int .i64 1, .int .i64 0, .slice (some ⟨gb, 0, none⟩) 3 3] := rfl
  rw [e, ← hV8, ← hgc] at h
  exact h
 have HRT := Lib.hid hrT
 have HV8 := Lib.hid hV8
 have HGC := Lib.hid hgc
 have HB78 : Hid (Below V7.heap.size V7 V8) := Lib.hid (by rw [hV8]; exact below_new _ _)
 clear hV7 hg6 k6 hrF7 hV8 hgc hrT hb57
 go_wp2_with (go_at_call 46; rw [← HV8.out, ← HGC.out]; refine (node_is _ _ _ _ _ _).mono ?_; rintro e w9 ⟨rfl, hb9⟩; have HB9 := Lib.hid hb9; have HB19 := Lib.hid (bt HB17.out (bt HB78.out hb9)); have HK9 := Lib.hid (HK1.out.below HB19.out HK1.out.lt); clear hb9; obtain ⟨z0, z1, z2, z3⟩ : w9.cell? ⟨z + 1, 0, none⟩ = some (.int .i64 0) ∧ w9.cell? ⟨z + 1, 1, none⟩ = some (.int .i64 0) ∧ w9.cell? ⟨z + 1, 2, none⟩ = some (.int .i64 0) ∧ w9.cell? ⟨z + 1, 3, none⟩ = some (.slice none 0 0) := ⟨HK9.out.cell 0, HK9.out.cell 1, HK9.out.cell 2, HK9.out.cell 3⟩; obtain ⟨f0, f1, f2, f3⟩ : w9.frozen? ⟨z + 1, 0, none⟩ = false ∧ w9.frozen? ⟨z + 1, 1, none⟩ = false ∧ w9.frozen? ⟨z + 1, 2, none⟩ = false ∧ w9.frozen? ⟨z + 1, 3, none⟩ = false := ⟨HK9.out.frozen 0, HK9.out.frozen 1, HK9.out.frozen 2, HK9.out.frozen 3⟩)
 have hzz := HZ.out
 obtain ⟨X, hX⟩ : ∃ W, W = (((w9.setCell ⟨z + 1, 0, none⟩ (.int .i64 27)).setCell ⟨z + 1, 1, none⟩ (.int .i64 0)).setCell ⟨z + 1, 2, none⟩ (.int .i64 0)).setCell ⟨z + 1, 3, none⟩ (.slice (some ⟨gc, 0, none⟩) 1 1) := ⟨_, rfl⟩
 rw [← hX]
 have kX : Blk X (z + 1) 25 #[.int .i64 27, .int .i64 0, .int .i64 0, .slice (some ⟨gc, 0, none⟩) 1 1] := by
  rw [hX]
  have h := (((HK9.out.set_ 0 (.int .i64 27)).set_ 1 (.int .i64 0)).set_ 2 (.int .i64 0)).set_ 3 (.slice (some ⟨gc, 0, none⟩) 1 1)
  simpa using h
 have hb9 := bt HB1.out HB19.out
 have hbX : Below w.heap.size w X := by
  rw [hX]
  exact (((hb9.setCell (by show w.heap.size ≤ z + 1; omega) _).setCell (by show w.heap.size ≤ z + 1; omega) _).setCell (by show w.heap.size ≤ z + 1; omega) _).setCell (by show w.heap.size ≤ z + 1; omega) _
 have hsX : X.heap.size = w9.heap.size := by rw [hX, World.size_setCell, World.size_setCell, World.size_setCell, World.size_setCell]
 have hrX : Rep X (Lt X.heap.size) (d + 4) (exT x) (nd (exT x) (some ⟨gc, 0, none⟩) 1) := by
  have h := rep_nextN HRT.out HB9.out
  have hno : ¬ NrY (z + 1) w9.heap.size (z + 1) := fun h => h.2 rfl
  have h2 := h.keep (((((Keeps.refl _ w9).setCell (p := ⟨z + 1, 0, none⟩) hno (.int .i64 27)).setCell (p := ⟨z + 1, 1, none⟩) hno (.int .i64 0)).setCell (p := ⟨z + 1, 2, none⟩) hno (.int .i64 0)).setCell (p := ⟨z + 1, 3, none⟩) hno (.slice (some ⟨gc, 0, none⟩) 1 1))
  rw [← hX] at h2
  exact h2.mono fun b hb => by show b < X.heap.size; rw [hsX]; exact hb.1
 have r0 : X.cell? ⟨z + 1, 0, none⟩ = some (.int .i64 27) := kX.cell 0
 have r1 : X.cell? ⟨z + 1, 1, none⟩ = some (.int .i64 0) := kX.cell 1
 have r2 : X.cell? ⟨z + 1, 2, none⟩ = some (.int .i64 0) := kX.cell 2
 have r3 : X.cell? ⟨z + 1, 3, none⟩ = some (.slice (some ⟨gc, 0, none⟩) 1 1) := kX.cell 3
 refine bodyPost_ret (v := .agg #[.int .i64 27, .int .i64 0, .int .i64 0, .slice (some ⟨gc, 0, none⟩) 1 1]) (by simp [results, Tryd.results47, go_sem, r0, r1, r2, r3]) rfl ⟨some ⟨gc, 0, none⟩, 1, rfl, hrX, hbX⟩
end Go.Proofs.YtlffmfdjifgfgaaDoor

namespace Go.Proofs.YtlffmfdjifgfgaaDoor
open Go.RowKit WM TR TY

def wk (j : Nat) : Int := [19, 13, 26, 27].getD j 0
def wrapN : Nat → T → T
 | 0, e => e
 | j + 1, e => ⟨wk j, 0, 0, [wrapN j e]⟩
theorem wrap_size (e : T) : ∀ j, size (wrapN j e) = size e + j
 | 0 => rfl
 | j + 1 => by
  have h := wrap_size e j
  rw [size_eq]
  simp [wrapN, h]
  omega
theorem wk_in (j : Nat) : inRange (wk j) := by
 unfold wk
 match j with
 | 0 => exact in_sm (by decide) (by decide)
 | 1 => exact in_sm (by decide) (by decide)
 | 2 => exact in_sm (by decide) (by decide)
 | 3 => exact in_sm (by decide) (by decide)
 | _ + 4 => exact (in_sm (by decide) (by decide) : inRange (0 : Int))
set_option maxRecDepth 100000 in
set_option maxHeartbeats 8000000 in
theorem isExpr_is (d : Nat) (x : T) (A : Option Addr) (c : Nat) (w : World) (hr : Rep w (Lt w.heap.size) d x (nd x A c)) (hsz : size x ≤ 100000) (hT : ST w) (hg : 0 < w.heap.size) :
  Calls Tryd.prog 62 #[.agg #[.int .i64 x.k, .int .i64 x.n, .int .i64 x.m, .slice A x.kids.length c]] w fun e w' => e = .returned (.bool (isProg (wrapN 4 x))) ∧ Below w.heap.size w w' := by
 obtain ⟨z, hz⟩ : ∃ z, z = w.heap.size := ⟨_, rfl⟩
 obtain ⟨nk, hnk⟩ : ∃ z, z = x.kids.length := ⟨_, rfl⟩
 obtain ⟨k, hk⟩ : ∃ z, z = x.k := ⟨_, rfl⟩
 obtain ⟨n, hn⟩ : ∃ z, z = x.n := ⟨_, rfl⟩
 obtain ⟨m, hm⟩ : ∃ z, z = x.m := ⟨_, rfl⟩
 obtain ⟨W1, hW1⟩ : ∃ W, W = ((w.alloc (.cells #[.int .i64 k, .int .i64 n, .int .i64 m, .slice A nk c] 25)).alloc (.cells #[.int .i64 k, .int .i64 n, .int .i64 m, .slice A nk c] 25)).alloc (.cells #[.int .i64 19, .int .i64 13, .int .i64 26, .int .i64 27] 3) := ⟨_, rfl⟩
 obtain ⟨g1, hg1⟩ : ∃ z, z = w.heap.size + 1 := ⟨_, rfl⟩
 obtain ⟨g2, hg2⟩ : ∃ z, z = w.heap.size + 1 + 1 := ⟨_, rfl⟩
 have hb1 : Below w.heap.size w W1 := by rw [hW1]; exact ba (ba (below_new _ _) _) _
 have k1 : Blk W1 g1 25 (nd x A c).toArray := by
  have e : (nd x A c).toArray = #[.int .i64 k, .int .i64 n, .int .i64 m, .slice A nk c] := by rw [hk, hn, hm, hnk]; rfl
  rw [e, hW1]; exact (Blk.new_at _ _ (by rw [size_alloc, hg1]) rfl).alloc _
 have k2 : Blk W1 g2 3 #[.int .i64 19, .int .i64 13, .int .i64 26, .int .i64 27] := by rw [hW1]; exact Blk.new_at _ _ (by rw [size_alloc, size_alloc, hg2]) rfl
 have hr1 : Rep W1 (NrY g1 W1.heap.size) d x (nd x A c) := (hr.keep fun b hb => hb1.block b hb).mono fun b (hb : b < w.heap.size) => ⟨Nat.lt_of_lt_of_le hb hb1.size, by omega⟩
 have HW1 := Lib.hid hW1
 have HZ := Lib.hid hz
 have HB1 := Lib.hid hb1
 have HG1 := Lib.hid hg1
 have HG2 := Lib.hid hg2
 have HK1 := Lib.hid k1
 have HK2 := Lib.hid k2
 have HR1 := Lib.hid hr1
 have HT := Lib.hid hT
 have HG := Lib.hid hg
 have HSZ := Lib.hid hsz
 rw [← hnk, ← hk, ← hn, ← hm]
 clear hz hnk hk hn hm hW1 hg1 hg2 hb1 k1 k2 hr1 hr hT hg hsz
 go_enter Tryd.func62, Tryd.ntmps62
 go_upto_region 3 with fail
 rw [← HW1.out, ← HG2.out, ← HG1.out]
 try rw [← HZ.out]
 go_loopw [9] (fun i wr => ∃ (j : Nat) (A5 : Option Addr) (c5 : Nat), j ≤ 4 ∧ i = .int .i64 j ∧ Hid (Below w.heap.size w wr) ∧ Hid (Blk wr g1 25 (nd (wrapN j x) A5 c5).toArray) ∧ Hid (Rep wr (NrY g1 wr.heap.size) (d + j) (wrapN j x) (nd (wrapN j x) A5 c5)) ∧ Hid (Blk wr g2 3 #[.int .i64 19, .int .i64 13, .int .i64 26, .int .i64 27])) (fun i _ => 4 - (intOf i).toNat)
 case atStart => exact ⟨0, A, c, by omega, rfl, HB1, HK1, HR1, HK2⟩
 case round =>
  obtain ⟨j, A5, c5, hj, rfl, HB5, HK5, HR5, HI5⟩ := hrel
  obtain ⟨t, ht⟩ : ∃ t, t = wrapN j x := ⟨_, rfl⟩
  rw [← ht] at HK5 HR5
  obtain ⟨tk, htk⟩ : ∃ z, z = t.k := ⟨_, rfl⟩
  obtain ⟨tn, htn⟩ : ∃ z, z = t.n := ⟨_, rfl⟩
  obtain ⟨tm, htm⟩ : ∃ z, z = t.m := ⟨_, rfl⟩
  obtain ⟨nt, hnt⟩ : ∃ z, z = t.kids.length := ⟨_, rfl⟩
  have ecs : (nd t A5 c5).toArray = #[.int .i64 tk, .int .i64 tn, .int .i64 tm, .slice A5 nt c5] := by rw [htk, htn, htm, hnt]; rfl
  have hk5 := HK5.out
  rw [ecs] at hk5
  obtain ⟨y0, y1, y2, y3⟩ : wr.cell? ⟨g1, 0, none⟩ = some (.int .i64 tk) ∧ wr.cell? ⟨g1, 1, none⟩ = some (.int .i64 tn) ∧ wr.cell? ⟨g1, 2, none⟩ = some (.int .i64 tm) ∧ wr.cell? ⟨g1, 3, none⟩ = some (.slice A5 nt c5) := ⟨hk5.cell 0, hk5.cell 1, hk5.cell 2, hk5.cell 3⟩
  obtain ⟨f0, f1, f2, f3⟩ : wr.frozen? ⟨g1, 0, none⟩ = false ∧ wr.frozen? ⟨g1, 1, none⟩ = false ∧ wr.frozen? ⟨g1, 2, none⟩ = false ∧ wr.frozen? ⟨g1, 3, none⟩ = false := ⟨hk5.frozen 0, hk5.frozen 1, hk5.frozen 2, hk5.frozen 3⟩
  have HK6 := Lib.hid hk5
  have HECS := Lib.hid ecs
  have HTT := Lib.hid ht
  have HTK := Lib.hid htk
  have HTN := Lib.hid htn
  have HTM := Lib.hid htm
  have HNT := Lib.hid hnt
  clear ht htk htn htm hnt ecs hk5
  by_cases hlt : j < 4
  ·obtain ⟨q, hq⟩ : ∃ q, q = wk j := ⟨_, rfl⟩
   have q0 : wr.cell? ⟨g2, j, none⟩ = some (.int .i64 q) := by
    rw [HI5.out.cell j, hq]
    have : j = 0 ∨ j = 1 ∨ j = 2 ∨ j = 3 := by omega
    rcases this with rfl | rfl | rfl | rfl <;> rfl
   have HQ := Lib.hid hq
   have hib : (0 : Int) ≤ (j : Int) ∧ (j : Int) < 4 := ⟨by omega, by omega⟩
   have ka := HK6.out.alloc (.cells #[.int .i64 tk, .int .i64 tn, .int .i64 tm, .slice A5 nt c5] 25)
   obtain ⟨x0, x1, x2, x3⟩ : (wr.alloc (.cells #[.int .i64 tk, .int .i64 tn, .int .i64 tm, .slice A5 nt c5] 25)).cell? ⟨g1, 0, none⟩ = some (.int .i64 tk) ∧ (wr.alloc (.cells #[.int .i64 tk, .int .i64 tn, .int .i64 tm, .slice A5 nt c5] 25)).cell? ⟨g1, 1, none⟩ = some (.int .i64 tn) ∧ (wr.alloc (.cells #[.int .i64 tk, .int .i64 tn, .int .i64 tm, .slice A5 nt c5] 25)).cell? ⟨g1, 2, none⟩ = some (.int .i64 tm) ∧ (wr.alloc (.cells #[.int .i64 tk, .int .i64 tn, .int .i64 tm, .slice A5 nt c5] 25)).cell? ⟨g1, 3, none⟩ = some (.slice A5 nt c5) := ⟨ka.cell 0, ka.cell 1, ka.cell 2, ka.cell 3⟩
   obtain ⟨e0, e1, e2, e3⟩ : (wr.alloc (.cells #[.int .i64 tk, .int .i64 tn, .int .i64 tm, .slice A5 nt c5] 25)).frozen? ⟨g1, 0, none⟩ = false ∧ (wr.alloc (.cells #[.int .i64 tk, .int .i64 tn, .int .i64 tm, .slice A5 nt c5] 25)).frozen? ⟨g1, 1, none⟩ = false ∧ (wr.alloc (.cells #[.int .i64 tk, .int .i64 tn, .int .i64 tm, .slice A5 nt c5] 25)).frozen? ⟨g1, 2, none⟩ = false ∧ (wr.alloc (.cells #[.int .i64 tk, .int .i64 tn, .int .i64 tm, .slice A5 nt c5] 25)).frozen? ⟨g1, 3, none⟩ = false := ⟨ka.frozen 0, ka.frozen 1, ka.frozen 2, ka.frozen 3⟩
   clear hq ka
   go_upto_region 6 with fail
   obtain ⟨V, hV⟩ : ∃ V, V = wr.alloc (.cells #[.int .i64 tk, .int .i64 tn, .int .i64 tm, .slice A5 nt c5] 25) := ⟨_, rfl⟩
   obtain ⟨g, hg⟩ : ∃ g, g = wr.heap.size := ⟨_, rfl⟩
   obtain ⟨X, hX⟩ : ∃ W, W = (((V.setCell ⟨g1, 0, none⟩ (.int .i64 q)).setCell ⟨g1, 1, none⟩ (.int .i64 0)).setCell ⟨g1, 2, none⟩ (.int .i64 0)).setCell ⟨g1, 3, none⟩ (.slice (some ⟨g, 0, none⟩) 1 1) := ⟨_, rfl⟩
   rw [← hV, ← hg, ← hX]
   have hbV : Below wr.heap.size wr V := by rw [hV]; exact below_new _ _
   have hg1 := HG1.out
   have hg2 := HG2.out
   have hsX : X.heap.size = V.heap.size := by rw [hX, World.size_setCell, World.size_setCell, World.size_setCell, World.size_setCell]
   have hsV : V.heap.size = g + 1 := by rw [hV, size_alloc, hg]
   have kV : Blk V g1 25 #[.int .i64 tk, .int .i64 tn, .int .i64 tm, .slice A5 nt c5] := by rw [hV]; exact HK6.out.alloc _
   have hes : (nd (wrapN (j + 1) x) (some ⟨g, 0, none⟩) 1).toArray = #[.int .i64 q, .int .i64 0, .int .i64 0, .slice (some ⟨g, 0, none⟩) 1 1] := by rw [HQ.out]; rfl
   have kX : Blk X g1 25 (nd (wrapN (j + 1) x) (some ⟨g, 0, none⟩) 1).toArray := by
    rw [hes, hX]
    have h := (((kV.set_ 0 (.int .i64 q)).set_ 1 (.int .i64 0)).set_ 2 (.int .i64 0)).set_ 3 (.slice (some ⟨g, 0, none⟩) 1 1)
    simpa using h
   have hbX : Below w.heap.size w X := by
    rw [hX]
    exact ((((bt HB5.out hbV).setCell (by show w.heap.size ≤ g1; omega) _).setCell (by show w.heap.size ≤ g1; omega) _).setCell (by show w.heap.size ≤ g1; omega) _).setCell (by show w.heap.size ≤ g1; omega) _
   have hrV : Rep V (NrY g1 V.heap.size) (d + j + 1) (wrapN (j + 1) x) (nd (wrapN (j + 1) x) (some ⟨g, 0, none⟩) 1) := by
    have h := (nds_newN (Reps.one HR5.out) HK6.out.lt (by simp)).rep (k := wk j) (n := 0) (m := 0) (wk_in j) (in_sm (by omega) (by omega)) (in_sm (by omega) (by omega))
    rw [HECS.out, ← hV, ← hg] at h
    rw [HTT.out] at h
    exact h
   have hrX : Rep X (NrY g1 X.heap.size) (d + (j + 1)) (wrapN (j + 1) x) (nd (wrapN (j + 1) x) (some ⟨g, 0, none⟩) 1) := by
    have hno : ¬ NrY g1 V.heap.size g1 := fun h => h.2 rfl
    have h2 := hrV.keep (((((Keeps.refl _ V).setCell (p := ⟨g1, 0, none⟩) hno (.int .i64 q)).setCell (p := ⟨g1, 1, none⟩) hno (.int .i64 0)).setCell (p := ⟨g1, 2, none⟩) hno (.int .i64 0)).setCell (p := ⟨g1, 3, none⟩) hno (.slice (some ⟨g, 0, none⟩) 1 1))
    rw [← hX] at h2
    rw [hsX]
    exact h2
   have kI : Blk X g2 3 #[.int .i64 19, .int .i64 13, .int .i64 26, .int .i64 27] := by
    have h : X.heap[g2]? = V.heap[g2]? := by
     rw [hX]
     have hne : g2 ≠ g1 := by omega
     rw [Below.heap_setCell _ ⟨g1, 3, none⟩ _ g2 hne, Below.heap_setCell _ ⟨g1, 2, none⟩ _ g2 hne, Below.heap_setCell _ ⟨g1, 1, none⟩ _ g2 hne, Below.heap_setCell _ ⟨g1, 0, none⟩ _ g2 hne]
    exact h.trans (by rw [hV]; exact HI5.out.alloc _)
   have H1 := Lib.hid hbX
   have H2 := Lib.hid kX
   have H3 := Lib.hid hrX
   have H4 := Lib.hid kI
   clear hV hg hX hbV hg1 hg2 hsX hsV kV hes kX hbX hrV hrX kI x0 x1 x2 x3 e0 e1 e2 e3 y0 y1 y2 y3 f0 f1 f2 f3 q0
   go_wp2_with fail
   go_roundw
   case rel => exact ⟨j + 1, some ⟨g, 0, none⟩, 1, by omega, by go_num, H1, H2, H3, H4⟩
   case measure => simp [intOf]; omega
  ·have hj4 : j = 4 := by omega
   have HVAL : Hid (Calls Tryd.prog 18 #[.agg #[.int .i64 tk, .int .i64 tn, .int .i64 tm, .slice A5 nt c5]] wr fun e w' => e = .returned (.bool (isProg (wrapN 4 x))) ∧ Below wr.heap.size wr w') := Lib.hid (by
    have ht : t = wrapN 4 x := by rw [HTT.out, hj4]
    have h := tvalid_is (d + j) t _ A5 c5 wr HR5.out (fun b hb => hb.1) (by rw [ht, wrap_size]; have := HSZ.out; omega) (HT.out.below HB5.out HG.out) (Nat.lt_of_lt_of_le HG.out HB5.out.size)
    rw [← HTK.out, ← HTN.out, ← HTM.out, ← HNT.out, ht] at h
    exact h)
   clear hj4
   go_wp2_with (go_at_call 18; refine HVAL.out.mono ?_; rintro e w6 ⟨rfl, hb6⟩; have HB6 := Lib.hid (bt HB5.out hb6); clear hb6)
   go_ret
   exact ⟨rfl, HB6.out⟩
end Go.Proofs.YtlffmfdjifgfgaaDoor
