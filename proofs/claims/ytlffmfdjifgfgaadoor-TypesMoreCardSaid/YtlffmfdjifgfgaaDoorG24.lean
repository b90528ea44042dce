/-
  The program's fit: the first kids have the listed types.
-/
import Derived.Test.YtlffmfdjifgfgaaDoorG23
import Derived.Deep.RegionHeld3
set_option linter.unusedVariables false
namespace Go.Proofs.YtlffmfdjifgfgaaDoor.TY
open TR
theorem fitB_true (s : Sc) : ∀ (kids : List T) (l : List Int), (∀ (j : Nat) (u : T) (k : Int), kids[j]? = some u → l[j]? = some k → fit1 s u k = true) → fitB s kids l = true
  | [], _, _ => by simp [fitB]
  | _ :: _, [], _ => by simp [fitB]
  | u :: kids, k :: l, h => by
    have h1 := h 0 u k rfl rfl
    have h2 := fitB_true s kids l fun j v q hv hq => h (j + 1) v q (by simpa using hv) (by simpa using hq)
    unfold fitB at h2 ⊢
    rw [List.zipWith_cons_cons, List.all_cons, h2, h1]
    rfl
theorem fitB_false (s : Sc) : ∀ (kids : List T) (l : List Int) (j : Nat) (u : T) (k : Int), kids[j]? = some u → l[j]? = some k → fit1 s u k = false → fitB s kids l = false
  | [], _, j, _, _, h, _, _ => by simp at h
  | _ :: _, [], j, _, _, _, h, _ => by simp at h
  | v :: kids, q :: l, 0, u, k, h1, h2, h3 => by
    simp only [List.getElem?_cons_zero, Option.some.injEq] at h1 h2
    subst h1 h2
    unfold fitB
    rw [List.zipWith_cons_cons, List.all_cons, h3]
    rfl
  | v :: kids, q :: l, j + 1, u, k, h1, h2, h3 => by
    have := fitB_false s kids l j u k (by simpa using h1) (by simpa using h2) h3
    unfold fitB at this ⊢
    rw [List.zipWith_cons_cons, List.all_cons, this, Bool.and_false]
end Go.Proofs.YtlffmfdjifgfgaaDoor.TY
namespace Go.Proofs.YtlffmfdjifgfgaaDoor
open Go.RowKit WM TR TY

theorem vi_getY {l : List Int} {i : Nat} {x : Int} (h : l[i]? = some x) : (vi l)[i]? = some (.int .i64 x) := by simp [vi, h]
/-- What a node may be asked for. -/
def AOk (u : T) : Prop := (u.k ≠ 4 → 0 ≤ u.n) ∧ 0 ≤ u.m ∧ u.kids.length ≤ 1000000
set_option maxRecDepth 100000 in
set_option maxHeartbeats 8000000 in
theorem fit_is (s : Sc) (kids : List T) (l : List Int) (d d' : Nat) (Av Af Ak B : Option Addr) (cv cf ck cb : Nat) (w : World) (hs : ScR w d s Av cv Af cf) (hk : Nds w (Lt w.heap.size) d' kids Ak ck) (hl : Reads w w.heap.size 1 B l.length (vi l)) (hle : l.length ≤ kids.length) (hok : ∀ u ∈ kids, AOk u) :
    Calls Tryd.prog 104 #[.agg #[.slice Av s.vars.length cv, .slice Af s.funs.length cf, .int .i64 s.ch], .slice Ak kids.length ck, .slice B l.length cb] w fun e w' => e = .returned (.bool (fitB s kids l)) ∧ Below w.heap.size w w' := by
  obtain ⟨nv, hnv⟩ : ∃ z, z = s.vars.length := ⟨_, rfl⟩
  obtain ⟨nf, hnf⟩ : ∃ z, z = s.funs.length := ⟨_, rfl⟩
  obtain ⟨nk, hnk⟩ : ∃ z, z = kids.length := ⟨_, rfl⟩
  obtain ⟨nl, hnl⟩ : ∃ z, z = l.length := ⟨_, rfl⟩
  obtain ⟨ch, hch⟩ : ∃ z, z = s.ch := ⟨_, rfl⟩
  have hkl : nk ≤ 1000 := by rw [hnk]; exact hk.2.2
  have hle' : nl ≤ nk := by omega
  obtain ⟨z, hz⟩ : ∃ z, z = w.heap.size := ⟨_, rfl⟩
  obtain ⟨W1, hW1⟩ : ∃ W, W = w.alloc (.cells #[.slice Av nv cv, .slice Af nf cf, .int .i64 ch] 79) := ⟨_, rfl⟩
  have hb1 : Below w.heap.size w W1 := by rw [hW1]; exact below_new _ _
  have ks : Blk W1 z 79 #[.slice Av nv cv, .slice Af nf cf, .int .i64 ch] := by rw [hW1, hz]; exact Blk.new _ _ _
  have HTY : Hid (∀ (u : T) (A : Option Addr) (c : Nat) (W : World), u ∈ kids → Below W1.heap.size W1 W → Calls Tryd.prog 65 #[.agg #[.slice Av nv cv, .slice Af nf cf, .int .i64 ch], .agg #[.int .i64 u.k, .int .i64 u.n, .int .i64 u.m, .slice A u.kids.length c]] W fun e w' => e = .returned (.int .i64 (typeOf s u)) ∧ Below W.heap.size W w') := Lib.hid fun u A c W hu hb => by
    have h := typeOf_is s u d A Av Af c cv cf W ((hs.next hb1).next hb) (hok u hu).2.2 (hok u hu).1 (hok u hu).2.1
    rw [← hnv, ← hnf, ← hch] at h
    exact h
  have HK := Lib.hid (hk.next hb1)
  have HL := Lib.hid ((hl.below hb1).more hb1.size)
  have HSC : Hid (∀ W, Below W1.heap.size W1 W → W.cell? ⟨z, 0, none⟩ = some (.slice Av nv cv) ∧ W.cell? ⟨z, 1, none⟩ = some (.slice Af nf cf) ∧ W.cell? ⟨z, 2, none⟩ = some (.int .i64 ch)) := Lib.hid fun W hb => ⟨(ks.below hb ks.lt).cell 0, (ks.below hb ks.lt).cell 1, (ks.below hb ks.lt).cell 2⟩
  have HW1 := Lib.hid hW1
  have HZ := Lib.hid hz
  have HB1 := Lib.hid hb1
  have HNK := Lib.hid hnk
  have HNL := Lib.hid hnl
  obtain ⟨r, hr⟩ : ∃ r, r = fitB s kids l := ⟨_, rfl⟩
  have HR := Lib.hid hr
  rw [← hr, ← hnv, ← hnf, ← hnk, ← hnl, ← hch]
  clear hnv hnf hnk hnl hch hW1 hz hb1 ks hs hk hl hok hr hle
  go_enter Tryd.func104, Tryd.ntmps104
  go_upto_region 1 with fail
  rw [← HW1.out]
  try rw [← HZ.out]
  go_upto_region 2 with fail
  go_loopw [12] (fun s12 wr => ∃ i : Nat, i ≤ nl ∧ s12 = .int .i64 i ∧ Hid (Below W1.heap.size W1 wr ∧ ∀ (j : Nat) (u : T) (k : Int), j < i → kids[j]? = some u → l[j]? = some k → fit1 s u k = true)) (fun s12 _ => nl - (intOf s12).toNat)
  case atStart => exact ⟨0, Nat.zero_le _, rfl, Below.refl _ _, fun j u k hj => by omega⟩
  case round =>
    obtain ⟨i, hil, rfl, HI⟩ := hrel
    by_cases hlt : i < nl
    · obtain ⟨u, hu⟩ : ∃ u, kids[i]? = some u := ⟨_, List.getElem?_eq_getElem (by rw [← HNK.out]; omega)⟩
      obtain ⟨q, hq⟩ : ∃ q, l[i]? = some q := ⟨_, List.getElem?_eq_getElem (by rw [← HNL.out]; exact hlt)⟩
      obtain ⟨b, off, A', c', hAk, hltb, hc, _⟩ := HK.out.at_ hu
      subst hAk
      obtain ⟨bl, ol, hB, _, hcl⟩ := HL.out.lit (by rw [← HNL.out]; omega)
      subst hB
      have q0 : wr.cell? ⟨bl, ol + i, none⟩ = some (.int .i64 q) := by
        have h1 := hcl i _ (vi_getY hq)
        exact (HI.out.1.cell (p := ⟨bl, ol + i, none⟩) (block_lt_of_cell h1)).trans h1
      obtain ⟨nu, hnu⟩ : ∃ z, z = u.kids.length := ⟨_, rfl⟩
      have HCE : Hid (∀ W, Below W1.heap.size W1 W → (W.cell? ⟨z, 0, none⟩ = some (.slice Av nv cv) ∧ W.cell? ⟨z, 1, none⟩ = some (.slice Af nf cf) ∧ W.cell? ⟨z, 2, none⟩ = some (.int .i64 ch)) ∧ (W.cell? ⟨b, off + i * 4, none⟩ = some (.int .i64 u.k) ∧ W.cell? ⟨b, off + i * 4 + 1, none⟩ = some (.int .i64 u.n) ∧ W.cell? ⟨b, off + i * 4 + 2, none⟩ = some (.int .i64 u.m) ∧ W.cell? ⟨b, off + i * 4 + 3, none⟩ = some (.slice A' nu c'))) := Lib.hid fun W hb => by
        have e : ∀ i' v, (nd u A' c')[i']? = some v → W.cell? ⟨b, off + i * 4 + i', none⟩ = some v := fun i' v hv => (hb.cell (p := ⟨b, _, none⟩) hltb).trans (hc i' v hv)
        exact ⟨HSC.out W hb, e 0 _ rfl, e 1 _ rfl, e 2 _ rfl, by rw [hnu]; exact e 3 _ rfl⟩
      obtain ⟨ty, hty⟩ : ∃ ty, typeOf s u = ty := ⟨_, rfl⟩
      have HT1 : Hid (∀ W, Below W1.heap.size W1 W → Calls Tryd.prog 65 #[.agg #[.slice Av nv cv, .slice Af nf cf, .int .i64 ch], .agg #[.int .i64 u.k, .int .i64 u.n, .int .i64 u.m, .slice A' nu c']] W fun e w' => e = .returned (.int .i64 ty) ∧ Below W.heap.size W w') := Lib.hid fun W hb => by
        have h := HTY.out u A' c' W (List.mem_of_getElem? hu) hb
        rw [← hnu, hty] at h
        exact h
      have HF1 : Hid (fit1 s u q = (ty == q || ty == -1)) := Lib.hid (by unfold fit1; rw [hty])
      have HU := Lib.hid hu
      have HQ := Lib.hid hq
      have hib : (0 : Int) ≤ (i : Int) ∧ (i : Int) < (nk : Int) := ⟨by omega, by omega⟩
      have hib2 : (0 : Int) ≤ (i : Int) ∧ (i : Int) < (nl : Int) := ⟨by omega, by omega⟩
      obtain ⟨uk, huk⟩ : ∃ z, z = u.k := ⟨_, rfl⟩
      obtain ⟨un, hun⟩ : ∃ z, z = u.n := ⟨_, rfl⟩
      obtain ⟨um, hum⟩ : ∃ z, z = u.m := ⟨_, rfl⟩
      rw [← huk, ← hun, ← hum] at HCE HT1
      have hbc : Below W1.heap.size W1 wr.drew := HI.out.1.drew
      clear hc hltb hcl hnu hty hu hq huk hun hum
      go_upto_region 4 with fail
      clear q0
      go_cut [9] from 17 to 22 (fun s9 wv => ∃ (V4 : World), V4 = wv ∧ s9 = .int .i64 ty ∧ Hid (Below W1.heap.size W1 V4))
      case first =>
        refine wp_region_noPanic ?_
        go_region_held2 (fun W => (W.cell? ⟨z, 0, none⟩ = some (.slice Av nv cv) ∧ W.cell? ⟨z, 1, none⟩ = some (.slice Af nf cf) ∧ W.cell? ⟨z, 2, none⟩ = some (.int .i64 ch)) ∧ (W.cell? ⟨b, off + i * 4, none⟩ = some (.int .i64 uk) ∧ W.cell? ⟨b, off + i * 4 + 1, none⟩ = some (.int .i64 un) ∧ W.cell? ⟨b, off + i * 4 + 2, none⟩ = some (.int .i64 um) ∧ W.cell? ⟨b, off + i * 4 + 3, none⟩ = some (.slice A' nu c')))
          (exact HCE.out _ hbc)
          (first
          | (go_at_call 65; (with_reducible refine (HT1.out _ hbc).mono ?_); rintro e w11 ⟨rfl, hb11⟩; replace hbc := bt hbc hb11; clear hb11))
        all_goals
          refine NoPanic.normal ?_
          go_wp2_with fail
          go_meet
          exact ⟨_, rfl, rfl, hbc⟩
      case rest =>
      obtain ⟨V4, hV4, rfl, HB4⟩ := hcut
      subst hV4
      clear hbc HT1 HCE
      by_cases h1 : ty = q
      · have e1 : (ty != q) = false := by rw [bne_eq_false_iff_eq]; exact h1
        have HF2 : Hid (fit1 s u q = true) := Lib.hid (by rw [HF1.out]; simp [h1])
        clear h1
        go_wp2_with fail
        go_roundw
        case rel => exact ⟨i + 1, by omega, by go_num, HB4.out, fun j v p hj hv hp => by
          by_cases hji : j < i
          · exact HI.out.2 j v p hji hv hp
          · have : j = i := by omega
            subst this
            rw [HU.out] at hv; rw [HQ.out] at hp
            cases hv; cases hp
            exact HF2.out⟩
        case measure => simp [intOf]; omega
      · have e1 : (ty != q) = true := by rw [bne_iff_ne]; exact h1
        by_cases h2 : ty = -1
        · have e2 : (ty != -1) = false := by rw [bne_eq_false_iff_eq]; exact h2
          have HF2 : Hid (fit1 s u q = true) := Lib.hid (by rw [HF1.out]; simp [h2])
          clear h1 h2
          go_wp2_with fail
          go_roundw
          case rel => exact ⟨i + 1, by omega, by go_num, HB4.out, fun j v p hj hv hp => by
            by_cases hji : j < i
            · exact HI.out.2 j v p hji hv hp
            · have : j = i := by omega
              subst this
              rw [HU.out] at hv; rw [HQ.out] at hp
              cases hv; cases hp
              exact HF2.out⟩
          case measure => simp [intOf]; omega
        · have e2 : (ty != -1) = true := by rw [bne_iff_ne]; exact h2
          have HF2 : Hid (r = false) := Lib.hid (by rw [HR.out]; exact fitB_false s kids l i u q HU.out HQ.out (by rw [HF1.out]; simp [h1, h2]))
          clear h1 h2
          go_wp2_with fail
          go_ret
          exact ⟨ret_b HF2.out.symm, bt HB1.out HB4.out⟩
    · have hie : i = nl := by omega
      subst hie
      have HF2 : Hid (r = true) := Lib.hid (by
        rw [HR.out]
        refine fitB_true s kids l fun j v p hv hp => HI.out.2 j v p ?_ hv hp
        have := (List.getElem?_eq_some_iff.1 hp).1
        rw [← HNL.out] at this
        exact this)
      go_wp2_with fail
      go_ret
      exact ⟨ret_b HF2.out.symm, bt HB1.out HI.out.1⟩
end Go.Proofs.YtlffmfdjifgfgaaDoor
