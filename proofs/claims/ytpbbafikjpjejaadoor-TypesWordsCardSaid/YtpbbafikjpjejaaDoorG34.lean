/-
  The program's Check.
-/
import Derived.Test.YtpbbafikjpjejaaDoorG33
import Derived.Test.YtpbbafikjpjejaaDoorG32
import Derived.Test.YtpbbafikjpjejaaDoorG27
import Derived.Deep.RegionHeld3
set_option linter.unusedVariables false
namespace Go.Proofs.YtpbbafikjpjejaaDoor
open Go.RowKit WM TR TY

/-- The first wrong node of the functions of a program from the i-th on. -/
def chkL (p : T) : List T → Nat → List Int × Int
  | [], _ => ([], 0)
  | u :: l, i => if (firstW (scO p u) u).2 ≠ 0 then ((i : Int) :: (firstW (scO p u) u).1, (firstW (scO p u) u).2) else chkL p l (i + 1)
noncomputable def chk (p : T) : List Int × Int := if isProg p = true then chkL p p.kids 0 else ([], 2)
theorem chkL_drop (p : T) {l : List T} {j : Nat} {u : T} (h : l[j]? = some u) : chkL p (l.drop j) j = if (firstW (scO p u) u).2 ≠ 0 then ((j : Int) :: (firstW (scO p u) u).1, (firstW (scO p u) u).2) else chkL p (l.drop (j + 1)) (j + 1) := by
  obtain ⟨h1, h2⟩ := List.getElem?_eq_some_iff.1 h
  rw [List.drop_eq_getElem_cons h1, chkL, h2]
theorem chkL_end (p : T) {l : List T} {j : Nat} (h : l.length ≤ j) : chkL p (l.drop j) j = ([], 0) := by
  rw [List.drop_eq_nil_of_le h, chkL]
theorem Nds.deeper {w : World} {S : Nat → Prop} {d d' : Nat} {ts : List T} {A : Option Addr} {c : Nat} (h : Nds w S d ts A c) (hd : d ≤ d') : Nds w S d' ts A c := by
  obtain ⟨⟨xs, h1, h2⟩, h3⟩ := h
  exact ⟨⟨xs, h1, h2.1, fun i u hu => (h2.2 i u hu).deeper hd⟩, h3⟩
structure PKid (u : T) : Prop where
  fit : Fit u
  n0 : 0 ≤ u.n
  n1 : u.n ≤ (u.kids.length : Int) - 1
  len : u.kids.length ≤ 10
theorem prog_kid {p : T} (h : isProg p = true) {u : T} (hu : u ∈ p.kids) : PKid u := by
  have hp : IsProg p := by unfold isProg at h; simpa using h
  have hf := ((prog_iff p).1 hp).2.2.2
  obtain ⟨i, hi⟩ := List.mem_iff_getElem?.1 hu
  have h2 : IsFun u := by have h3 := hp.2.2.2.2 i u hi; unfold isFun at h3; simpa using h3
  have hno := nok_of (hf.kids u hu)
  exact ⟨hf.kids u hu, hno.n (by have := h2.1; omega), hno.par h2.1, hno.len⟩
theorem prog_fok {p : T} (h : isProg p = true) : FOk p.kids := fun f hf => by
  have k := prog_kid h hf
  exact ⟨k.n0, by have := k.n1; omega, by have := k.len; omega⟩
theorem firstL_len (s : Sc) (D : Nat) : ∀ (l : List T) (i : Nat), (∀ u ∈ l, (firstW s u).1.length ≤ D) → (firstL s l i).1.length ≤ D + 1
  | [], _, _ => by rw [firstL]; exact Nat.zero_le _
  | u :: l, i, h => by
    rw [firstL]
    split
    · have := h u (List.mem_cons_self ..)
      simp only [List.length_cons]; omega
    · exact firstL_len s D l (i + 1) fun v hv => h v (List.mem_cons_of_mem _ hv)
theorem firstW_len (s : Sc) {w : World} {S : Nat → Prop} : ∀ (D : Nat) (x : T) (cs : List Value), Rep w S D x cs → (firstW s x).1.length ≤ D
  | 0, _, _, h => h.elim
  | D + 1, x, cs, h => by
    rw [firstW_eq]
    split
    · exact Nat.zero_le _
    · refine firstL_len s D _ _ fun u hu => ?_
      obtain ⟨A, c, rfl, _⟩ := h.form
      obtain ⟨xs, _, hrs⟩ := h.kids
      obtain ⟨i, hi⟩ := List.mem_iff_getElem?.1 hu
      exact firstW_len s D u _ (hrs.2 i u hi)
/-- What Check leaves. -/
def ChkPost (p : T) (w : World) (e : Ending) (w' : World) : Prop :=
  ∃ A' c', e = .returned (.tuple #[.slice A' (chk p).1.length c', .int .i64 (chk p).2]) ∧ Reads w' w'.heap.size 1 A' (chk p).1.length (vi (chk p).1) ∧ Below w.heap.size w w'
theorem reads_nil (w : World) (B : Nat) : Reads w B 1 none 0 [] := ⟨rfl, fun h => absurd h (by omega)⟩

set_option maxRecDepth 100000 in
set_option maxHeartbeats 16000000 in
theorem check_is (d : Nat) (p : T) (A : Option Addr) (c : Nat) (w : World) (hr : Rep w (Lt w.heap.size) (d + 1) p (nd p A c)) (hD : d ≤ 1000) (hsz : size p ≤ 1000000) (hT : ST w) (hg : 0 < w.heap.size) :
    Calls Tryd.prog 33 #[.agg #[.int .i64 p.k, .int .i64 p.n, .int .i64 p.m, .slice A p.kids.length c]] w (ChkPost p w) := by
  obtain ⟨z, hz⟩ : ∃ z, z = w.heap.size := ⟨_, rfl⟩
  obtain ⟨nk, hnk⟩ : ∃ z, z = p.kids.length := ⟨_, rfl⟩
  obtain ⟨k, hk⟩ : ∃ z, z = p.k := ⟨_, rfl⟩
  obtain ⟨n, hn⟩ : ∃ z, z = p.n := ⟨_, rfl⟩
  obtain ⟨m, hm⟩ : ∃ z, z = p.m := ⟨_, rfl⟩
  obtain ⟨W1, hW1⟩ : ∃ W, W = w.alloc (.cells #[.int .i64 k, .int .i64 n, .int .i64 m, .slice A nk c] 25) := ⟨_, rfl⟩
  have hb1 : Below w.heap.size w W1 := by rw [hW1]; exact below_new _ _
  have k1 : Blk W1 z 25 #[.int .i64 k, .int .i64 n, .int .i64 m, .slice A nk c] := by rw [hW1, hz]; exact Blk.new _ _ _
  obtain ⟨y0, y1, y2, y3⟩ : W1.cell? ⟨z, 0, none⟩ = some (.int .i64 k) ∧ W1.cell? ⟨z, 1, none⟩ = some (.int .i64 n) ∧ W1.cell? ⟨z, 2, none⟩ = some (.int .i64 m) ∧ W1.cell? ⟨z, 3, none⟩ = some (.slice A nk c) := ⟨k1.cell 0, k1.cell 1, k1.cell 2, k1.cell 3⟩
  have hr1 := rep_next hr hb1
  obtain ⟨v, hv⟩ : ∃ v, v = isProg p := ⟨_, rfl⟩
  have HVAL : Hid (Calls Tryd.prog 18 #[.agg #[.int .i64 k, .int .i64 n, .int .i64 m, .slice A nk c]] W1 fun e w' => e = .returned (.bool v) ∧ Below W1.heap.size W1 w') := Lib.hid (by
    have h := tvalid_is (d + 1) p _ A c W1 hr1 (In.lt _) hsz (hT.below hb1 hg) (Nat.lt_of_lt_of_le hg hb1.size)
    rw [← hv, ← hnk, ← hk, ← hn, ← hm] at h
    exact h)
  have HW1 := Lib.hid hW1
  have HZ := Lib.hid hz
  have HB1 := Lib.hid hb1
  have HK1 := Lib.hid k1
  have HR1 := Lib.hid hr1
  have HNK := Lib.hid hnk
  have HK := Lib.hid hk
  have HN := Lib.hid hn
  have HM := Lib.hid hm
  have HCH : Hid (chk p = if v = true then chkL p p.kids 0 else ([], 2)) := Lib.hid (by unfold chk; rw [hv])
  have HV := Lib.hid hv
  rw [← hnk, ← hk, ← hn, ← hm]
  clear hr hsz hT hg hz hnk hk hn hm hW1 hb1 k1 hr1 hv
  cases v with
  | false =>
    have HC : Hid (chk p = ([], 2)) := Lib.hid (by rw [HCH.out]; rfl)
    go_enter Tryd.func33, Tryd.ntmps33
    go_upto_region 1 with fail
    rw [← HW1.out]
    try rw [← HZ.out]
    go_wp2_with (go_at_call 18; refine HVAL.out.mono ?_; rintro e w2 ⟨rfl, hb2⟩; have HB2 := Lib.hid (bt HB1.out hb2); clear hb2 y0 y1 y2 y3)
    refine bodyPost_ret (v := .tuple #[.slice none 0 0, .int .i64 2]) (by simp [results, Tryd.results33, go_sem]) rfl ?_
    unfold ChkPost
    rw [HC.out]
    exact ⟨none, 0, rfl, reads_nil _ _, HB2.out⟩
  | true =>
    have HC : Hid (chk p = chkL p p.kids 0) := Lib.hid (by rw [HCH.out]; rfl)
    obtain ⟨xs, hrd, hrs⟩ := HR1.out.kids
    have hkl : p.kids.length ≤ 1000 := by
      have h := HV.out.symm
      have hp : IsProg p := by unfold isProg at h; simpa using h
      have := (nok_of ((prog_iff p).1 hp).2.2.2).len
      omega
    have HND : Hid (Nds W1 (Lt W1.heap.size) (d + 1) p.kids A c) := Lib.hid (Nds.deeper (d := d) ⟨⟨xs, hrd, hrs⟩, HR1.out.cap, hkl⟩ (by omega))
    have HND0 : Hid (Nds W1 (Lt W1.heap.size) d p.kids A c) := Lib.hid ⟨⟨xs, hrd, hrs⟩, HR1.out.cap, hkl⟩
    have hnk1 : nk ≤ 1000 := by rw [HNK.out]; exact hkl
    clear hrd hrs hkl
    go_enter Tryd.func33, Tryd.ntmps33
    go_upto_region 1 with fail
    rw [← HW1.out]
    try rw [← HZ.out]
    go_upto_region 4 with (go_at_call 18; refine HVAL.out.mono ?_; rintro e w2 ⟨rfl, hb2⟩; have HB2 := Lib.hid hb2; clear hb2 y0 y1 y2 y3; have y3 := (HK1.out.below HB2.out HK1.out.lt).cell 3)
    clear y3
    go_loopw [14] (fun i wr => ∃ j : Nat, j ≤ nk ∧ i = .int .i64 j ∧ Hid (Below W1.heap.size W1 wr) ∧ Hid (chk p = chkL p (p.kids.drop j) j)) (fun i _ => nk - (intOf i).toNat)
    case atStart => exact ⟨0, Nat.zero_le _, rfl, HB2, by rw [List.drop_zero]; exact HC⟩
    case round =>
      obtain ⟨j, hj, rfl, HBR, HCR⟩ := hrel
      by_cases hlt : j < nk
      · obtain ⟨u, hu⟩ : ∃ u, p.kids[j]? = some u := ⟨_, List.getElem?_eq_getElem (by rw [← HNK.out]; exact hlt)⟩
        obtain ⟨b, off, A', c', hA, hbl, hc, hru⟩ := HND0.out.at_ hu
        subst hA
        have hcu : ∀ i v, (nd u A' c')[i]? = some v → wr.cell? ⟨b, off + j * 4 + i, none⟩ = some v := fun i v hv => (HBR.out.cell (p := ⟨b, _, none⟩) hbl).trans (hc i v hv)
        obtain ⟨nu, hnu⟩ : ∃ q, q = u.kids.length := ⟨_, rfl⟩
        obtain ⟨v0, v1, v2, v3⟩ : wr.cell? ⟨b, off + j * 4, none⟩ = some (.int .i64 u.k) ∧ wr.cell? ⟨b, off + j * 4 + 1, none⟩ = some (.int .i64 u.n) ∧ wr.cell? ⟨b, off + j * 4 + 2, none⟩ = some (.int .i64 u.m) ∧ wr.cell? ⟨b, off + j * 4 + 3, none⟩ = some (.slice A' nu c') := ⟨hcu 0 _ rfl, hcu 1 _ rfl, hcu 2 _ rfl, by rw [hnu]; exact hcu 3 _ rfl⟩
        have hib : (0 : Int) ≤ (j : Int) ∧ (j : Int) < (nk : Int) := ⟨by omega, by omega⟩
        have hkid := prog_kid HV.out.symm (List.mem_of_getElem? hu)
        obtain ⟨r, hr⟩ : ∃ r, r = firstW (scO p u) u := ⟨_, rfl⟩
        have HSO : Hid (∀ W, Below W1.heap.size W1 W → Calls Tryd.prog 63 #[.agg #[.int .i64 k, .int .i64 n, .int .i64 m, .slice (some ⟨b, off, none⟩) nk c], .int .i64 (j : Int)] W fun e w' => ∃ A' c', e = .returned (.agg #[.slice A' (scO p u).vars.length c', .slice (some ⟨b, off, none⟩) nk c, .int .i64 n]) ∧ ScR w' (d + 1) (scO p u) A' c' (some ⟨b, off, none⟩) c ∧ Below W.heap.size W w') := Lib.hid fun W hb => by
          have h := scopeOf_is p u j d _ c W (HND.out.next hb) hu ⟨by have := hkid.n0; have := hkid.n1; omega, by have := hkid.len; omega⟩
          have e1 : (scO p u).funs.length = nk := HNK.out.symm
          have e2 : (scO p u).ch = n := HN.out.symm
          rw [e1, e2, ← HNK.out, ← HK.out, ← HN.out, ← HM.out] at h
          exact h
        have HFW : Hid (∀ W A2 c2, Below W1.heap.size W1 W → ScR W (d + 1) (scO p u) A2 c2 (some ⟨b, off, none⟩) c → Calls Tryd.prog 64 #[.agg #[.slice A2 (scO p u).vars.length c2, .slice (some ⟨b, off, none⟩) nk c, .int .i64 n], .agg #[.int .i64 u.k, .int .i64 u.n, .int .i64 u.m, .slice A' nu c']] W fun e w' => ∃ A' c', e = .returned (.tuple #[.slice A' r.1.length c', .int .i64 r.2]) ∧ w'.ownsRow W.heap.size 3 1 (.slice A' r.1.length c') r.1.length (vi r.1) ∧ Below W.heap.size W w') := Lib.hid fun W A2 c2 hb hs => by
          have h := firstWrong_is (scO p u) u (d + 1) d A2 _ A' c2 c c' W hs (rep_next hru hb) hkid.fit hD (prog_fok HV.out.symm)
          have e1 : (scO p u).funs.length = nk := HNK.out.symm
          have e2 : (scO p u).ch = n := HN.out.symm
          rw [e1, e2, ← hnu, ← hr] at h
          exact h
        have HLN : Hid (r.1.length ≤ 1000) := Lib.hid (by rw [hr]; exact Nat.le_trans (firstW_len _ _ _ _ hru) hD)
        have HCX : Hid (chk p = if r.2 ≠ 0 then ((j : Int) :: r.1, r.2) else chkL p (p.kids.drop (j + 1)) (j + 1)) := Lib.hid (by rw [HCR.out, chkL_drop p hu, hr])
        obtain ⟨uk, huk⟩ : ∃ z, z = u.k := ⟨_, rfl⟩
        obtain ⟨un, hun⟩ : ∃ z, z = u.n := ⟨_, rfl⟩
        obtain ⟨um, hum⟩ : ∃ z, z = u.m := ⟨_, rfl⟩
        obtain ⟨nv, hnv⟩ : ∃ z, z = (scO p u).vars.length := ⟨_, rfl⟩
        rw [← huk, ← hun, ← hum, ← hnv] at HFW
        rw [← huk] at v0
        rw [← hun] at v1
        rw [← hum] at v2
        rw [← hnv] at HSO
        obtain ⟨l, er⟩ := r
        simp only at HFW HCX HLN
        obtain ⟨nl, hnl⟩ : ∃ q, q = l.length := ⟨_, rfl⟩
        rw [← hnl] at HFW
        have HNL := Lib.hid hnl
        obtain ⟨s, hs⟩ : ∃ s, s = scO p u := ⟨_, rfl⟩
        rw [← hs] at HFW HSO
        clear hcu hnu hkid hru hc hbl hu hr huk hun hum hnv hnl hs
        go_upto_region 6 with fail
        obtain ⟨V1, hV1⟩ : ∃ Z, Z = wr.alloc (.cells #[.int .i64 uk, .int .i64 un, .int .i64 um, .slice A' nu c'] 25) := ⟨_, rfl⟩
        obtain ⟨g5, hg5⟩ : ∃ z, z = wr.heap.size := ⟨_, rfl⟩
        have k5 : Blk V1 g5 25 #[.int .i64 uk, .int .i64 un, .int .i64 um, .slice A' nu c'] := by rw [hV1, hg5]; exact Blk.new _ _ _
        have hb5 : Below wr.heap.size wr V1 := by rw [hV1]; exact below_new _ _
        rw [← hV1, ← hg5]
        have HBV : Hid (Below W1.heap.size W1 V1) := Lib.hid (bt HBR.out hb5)
        have kz := HK1.out.below HBV.out HK1.out.lt
        have HCE : Hid (∀ W, Below V1.heap.size V1 W → (W.cell? ⟨z, 0, none⟩ = some (.int .i64 k) ∧ W.cell? ⟨z, 1, none⟩ = some (.int .i64 n) ∧ W.cell? ⟨z, 2, none⟩ = some (.int .i64 m) ∧ W.cell? ⟨z, 3, none⟩ = some (.slice (some ⟨b, off, none⟩) nk c)) ∧ (W.cell? ⟨g5, 0, none⟩ = some (.int .i64 uk) ∧ W.cell? ⟨g5, 1, none⟩ = some (.int .i64 un) ∧ W.cell? ⟨g5, 2, none⟩ = some (.int .i64 um) ∧ W.cell? ⟨g5, 3, none⟩ = some (.slice A' nu c'))) := Lib.hid fun W hb => by
          have e1 := kz.below hb kz.lt
          have e2 := k5.below hb k5.lt
          exact ⟨⟨e1.cell 0, e1.cell 1, e1.cell 2, e1.cell 3⟩, e2.cell 0, e2.cell 1, e2.cell 2, e2.cell 3⟩
        have hbc : Below V1.heap.size V1 V1.drew := (Below.refl _ _).drew
        clear hV1 hg5 k5 hb5 kz v0 v1 v2 v3 hib
        go_cut [6, 7] from 20 to 26 (fun s6 s7 wv => ∃ (V4 : World) (A7 : Option Addr) (c7 : Nat), V4 = wv ∧ s6 = .slice A7 nl c7 ∧ s7 = .int .i64 er ∧ Hid (Below V1.heap.size V1 V4 ∧ Reads V4 V4.heap.size 1 A7 nl (vi l)))
        case first =>
          refine wp_region_noPanic ?_
          go_region_held2 (fun W => (W.cell? ⟨z, 0, none⟩ = some (.int .i64 k) ∧ W.cell? ⟨z, 1, none⟩ = some (.int .i64 n) ∧ W.cell? ⟨z, 2, none⟩ = some (.int .i64 m) ∧ W.cell? ⟨z, 3, none⟩ = some (.slice (some ⟨b, off, none⟩) nk c)) ∧ (W.cell? ⟨g5, 0, none⟩ = some (.int .i64 uk) ∧ W.cell? ⟨g5, 1, none⟩ = some (.int .i64 un) ∧ W.cell? ⟨g5, 2, none⟩ = some (.int .i64 um) ∧ W.cell? ⟨g5, 3, none⟩ = some (.slice A' nu c')))
            (exact HCE.out _ hbc)
            (first
            | (go_at_call 63; (with_reducible refine (HSO.out _ (bt HBV.out hbc)).mono ?_); rintro e w11 ⟨A2, c2, rfl, hsc, hb11⟩; replace hbc := bt hbc hb11; have HSC := Lib.hid hsc; clear hb11 hsc)
            | (go_at_call 64; (with_reducible refine (HFW.out _ _ _ (bt HBV.out hbc) HSC.out).mono ?_); rintro e w12 ⟨A7, c7, rfl, hown, hb12⟩; replace hbc := bt hbc hb12; have HO := Lib.hid hown; clear hb12 hown))
          all_goals
            refine NoPanic.normal ?_
            go_wp2_with fail
            go_meet
            exact ⟨_, _, _, rfl, rfl, rfl, hbc, Reads.of_own HO.out⟩
        case rest =>
        obtain ⟨V4, A7, c7, hV4, rfl, rfl, HB4⟩ := hcut
        subst hV4
        clear hbc HSO HFW HCE
        have HBF := Lib.hid (bt HBV.out HB4.out.1)
        by_cases he : er = 0
        · have he2 : (er != 0) = false := by rw [bne_eq_false_iff_eq]; exact he
          have HX : Hid (chk p = chkL p (p.kids.drop (j + 1)) (j + 1)) := Lib.hid (by rw [HCX.out, if_neg (by simpa using he)])
          clear he
          go_wp2_with fail
          go_roundw
          case rel => exact ⟨j + 1, by omega, by go_num, HBF, HX⟩
          case measure => simp [intOf]; omega
        · have he2 : (er != 0) = true := by rw [bne_iff_ne]; exact he
          have HX : Hid (chk p = ((j : Int) :: l, er)) := Lib.hid (by rw [HCX.out, if_pos he])
          clear he
          have hbA := below_new V4 (.cells #[.int .i64 (j : Int)] 3)
          have hbB := ba hbA (.cells #[.slice (some ⟨V4.heap.size, 0, none⟩) 1 1, .slice A7 nl c7] 22)
          have HCAT : Hid (Calls Tryd.prog 67 #[.slice (some ⟨V4.heap.size + 1, 0, none⟩) 2 2] ((V4.alloc (.cells #[.int .i64 (j : Int)] 3)).alloc (.cells #[.slice (some ⟨V4.heap.size, 0, none⟩) 1 1, .slice A7 nl c7] 22)) fun e w' => ∃ A c, e = .returned (.slice A (nl + 1) c) ∧ Reads w' w'.heap.size 1 A (nl + 1) (vi ((j : Int) :: l)) ∧ Below V4.heap.size V4 w') := Lib.hid (by
            have hra : Reads ((V4.alloc (.cells #[.int .i64 (j : Int)] 3)).alloc (.cells #[.slice (some ⟨V4.heap.size, 0, none⟩) 1 1, .slice A7 nl c7] 22)) ((V4.alloc (.cells #[.int .i64 (j : Int)] 3)).alloc (.cells #[.slice (some ⟨V4.heap.size, 0, none⟩) 1 1, .slice A7 nl c7] 22)).heap.size 1 (some ⟨V4.heap.size, 0, none⟩) 1 (vi [(j : Int)]) :=
              Reads.of_own (ownsRow_below (own_lit (w := V4) (base := V4.heap.size) (e := 3) (size := 1) (xs := vi [(j : Int)]) (n := 1) (Nat.le_refl _) rfl (len_le (by omega))) (below_new _ _))
            have hrb := (HB4.out.2.below hbB).more hbB.size
            have hlen : nl ≤ 100000000 := by have := HLN.out; rw [← HNL.out] at this; omega
            have h := concatI_is [(j : Int)] l (V4.heap.size + 1) (some ⟨V4.heap.size, 0, none⟩) A7 1 c7 _ (Blk.new_at _ _ (by rw [size_alloc]) (by rw [← HNL.out]; rfl)) hra (by rw [← HNL.out]; exact hrb) (by simp) (by simp) (by rw [← HNL.out]; exact hlen)
            refine h.mono ?_
            rintro e w9 ⟨A9, c9, rfl, hown, hb9⟩
            have e9 : ([(j : Int)] ++ l).length = nl + 1 := by rw [List.length_append, ← HNL.out]; simp; omega
            rw [e9] at hown ⊢
            exact ⟨A9, c9, rfl, Reads.of_own hown, bt hbB hb9⟩)
          clear hbA hbB
          go_wp2_with (go_at_call 67; refine HCAT.out.mono ?_; rintro e w9 ⟨A9, c9, rfl, h1, h2⟩; have HR9 := Lib.hid h1; have HB9 := Lib.hid (bt HBF.out h2); clear h1 h2)
          refine bodyPost_ret (v := .tuple #[.slice A9 (nl + 1) c9, .int .i64 er]) (by simp [results, Tryd.results33, go_sem]) rfl ?_
          unfold ChkPost
          rw [HX.out]
          have e9 : ((j : Int) :: l).length = nl + 1 := by rw [List.length_cons, ← HNL.out]
          simp only [e9]
          exact ⟨A9, c9, rfl, HR9.out, bt HB1.out HB9.out⟩
      · have HX : Hid (chk p = ([], 0)) := Lib.hid (by rw [HCR.out]; exact chkL_end p (by rw [← HNK.out]; omega))
        go_wp2_with fail
        refine bodyPost_ret (v := .tuple #[.slice none 0 0, .int .i64 0]) (by simp [results, Tryd.results33, go_sem]) rfl ?_
        unfold ChkPost
        rw [HX.out]
        exact ⟨none, 0, rfl, reads_nil _ _, bt HB1.out HBR.out⟩
end Go.Proofs.YtpbbafikjpjejaaDoor
