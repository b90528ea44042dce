/-
  The program's Compare, with the library's cmp.Compare, cmp.Or, slices.CompareFunc at its types.
-/
import Derived.Test.YtikinofopkjdjaaDoorG19
import Derived.Test.YtikinofopkjdjaaDoorG08
import Derived.Deep.RegionHeldLaw
set_option linter.unusedVariables false
namespace Go.Proofs.YtikinofopkjdjaaDoor
open Go.RowKit WM TR

theorem isnan_is (a : Int) (w : World) : Calls Tryd.prog 114 #[.int .i64 a] w fun e w' => e = .returned (.bool false) ∧ w = w' := by
  go_enter Tryd.func114, Tryd.ntmps114
  go_wp2
  go_ret
  exact ⟨rfl, rfl⟩
theorem cmpc_is (a b : Int) (w : World) : Calls Tryd.prog 94 #[.int .i64 a, .int .i64 b] w fun e w' => e = .returned (.int .i64 (sg a b)) ∧ w = w' := by
  rcases Int.lt_trichotomy a b with h | h | h
  · have hs : sg a b = -1 := by unfold sg; rw [if_pos h]
    rw [hs]
    clear hs
    go_enter Tryd.func94, Tryd.ntmps94
    go_wp2_with (go_at_call 114; refine (isnan_is _ _).mono ?_; rintro e w' ⟨rfl, rfl⟩)
    go_ret
    exact ⟨rfl, rfl⟩
  · subst h
    have hs : sg a a = 0 := sg_zero.2 rfl
    rw [hs]
    clear hs
    go_enter Tryd.func94, Tryd.ntmps94
    go_wp2_with (go_at_call 114; refine (isnan_is _ _).mono ?_; rintro e w' ⟨rfl, rfl⟩)
    go_ret
    exact ⟨rfl, rfl⟩
  · have hs : sg a b = 1 := by unfold sg; rw [if_neg (by omega), if_pos h]
    rw [hs]
    clear hs
    go_enter Tryd.func94, Tryd.ntmps94
    go_wp2_with (go_at_call 114; refine (isnan_is _ _).mono ?_; rintro e w' ⟨rfl, rfl⟩)
    go_ret
    exact ⟨rfl, rfl⟩
theorem firstN_drop {l : List Int} {k : Nat} {x : Int} (h : l[k]? = some x) (hx : x = 0) : firstN (l.drop (k + 1)) = firstN (l.drop k) := by
  obtain ⟨hk, e⟩ := List.getElem?_eq_some_iff.1 h
  rw [List.drop_eq_getElem_cons hk, e, firstN, if_pos hx]
theorem firstN_here {l : List Int} {k : Nat} {x : Int} (h : l[k]? = some x) (hx : x ≠ 0) : firstN (l.drop k) = x := by
  obtain ⟨hk, e⟩ := List.getElem?_eq_some_iff.1 h
  rw [List.drop_eq_getElem_cons hk, e, firstN, if_neg hx]
set_option maxHeartbeats 1000000 in
theorem or_is (l : List Int) (S : Nat → Prop) (A : Option Addr) (c : Nat) (w : World) (hl : Rd w S 1 A l.length (vi l)) (hn : l.length ≤ 1000000) :
    Calls Tryd.prog 93 #[.slice A l.length c] w fun e w' => e = .returned (.int .i64 (firstN l)) ∧ w = w' := by
  obtain ⟨n, hn2⟩ : ∃ n, n = l.length := ⟨_, rfl⟩
  have HL := Lib.hid hl
  have HN := Lib.hid hn2
  rw [← hn2] at hn ⊢
  clear hl hn2
  go_enter Tryd.func93, Tryd.ntmps93
  go_wp2_with fail
  go_loopw [8] (fun i wr => ∃ k : Nat, k ≤ n ∧ i = .int .i64 k ∧ Hid (firstN (l.drop k) = firstN l) ∧ Hid (wr = w)) (fun i _ => n - (intOf i).toNat)
  case atStart => exact ⟨0, Nat.zero_le _, rfl, by rw [List.drop_zero]; exact Lib.hid rfl, Lib.hid rfl⟩
  case round =>
    obtain ⟨k, hk, rfl, HF, HW⟩ := hrel
    by_cases hlt : k < n
    · obtain ⟨x, hx⟩ : ∃ x, l[k]? = some x := ⟨_, List.getElem?_eq_getElem (by rw [← HN.out]; exact hlt)⟩
      obtain ⟨b, o, hA, _, hcell⟩ := HL.out.lit (by rw [← HN.out]; omega)
      subst hA
      have hw := HW.out
      subst hw
      have hc : wr.cell? ⟨b, o + k, none⟩ = some (.int .i64 x) := hcell k _ (by simp [vi, hx])
      have hij : (0 : Int) ≤ k ∧ (k : Int) < n := ⟨by omega, by omega⟩
      clear hcell
      by_cases h0 : x = 0
      · have HF2 : Hid (firstN (l.drop (k + 1)) = firstN l) := Lib.hid ((firstN_drop hx h0).trans HF.out)
        subst h0
        clear hx
        go_wp2_with fail
        go_roundw
        case rel => exact ⟨k + 1, by omega, by go_num, HF2.out, by first | exact Lib.hid rfl | exact Lib.hid trivial⟩
        case measure => simp [intOf]; omega
      · have HF2 : Hid (x = firstN l) := Lib.hid ((firstN_here hx h0).symm.trans HF.out)
        have hne : (x != 0) = true := by simpa using h0
        clear hx
        go_wp2_with fail
        go_ret
        exact ⟨ret_i HF2.out, rfl⟩
    · have hkn : k = n := by omega
      have HF2 : Hid ((0 : Int) = firstN l) := Lib.hid (by have h := HF.out; rw [hkn, HN.out, List.drop_length] at h; exact h)
      clear hkn
      go_wp2_with fail
      go_ret
      exact ⟨ret_i HF2.out, HW.out.symm⟩

/-- The contract of Compare at a depth. -/
def CmpC (d : Nat) : Prop := ∀ (a b : T) (S S' : Nat → Prop) (A B : Option Addr) (c c' d' : Nat) (w : World), Rep w S d a (nd a A c) → Rep w S' d' b (nd b B c') → In S w.heap.size → In S' w.heap.size → size a ≤ 1000000 → size b ≤ 1000000 →
  Calls Tryd.prog 53 #[.agg #[.int .i64 a.k, .int .i64 a.n, .int .i64 a.m, .slice A a.kids.length c], .agg #[.int .i64 b.k, .int .i64 b.n, .int .i64 b.m, .slice B b.kids.length c']] w fun e w' => e = .returned (.int .i64 (cmp a b)) ∧ Below w.heap.size w w'

set_option maxRecDepth 100000 in
set_option maxHeartbeats 4000000 in
theorem cmpf_is (d : Nat) (ih : CmpC d) (a b : T) (S S' : Nat → Prop) (A B : Option Addr) (c c' d' : Nat) (w : World) (ha : Rep w S (d + 1) a (nd a A c)) (hb : Rep w S' d' b (nd b B c')) (hin : In S w.heap.size) (hin' : In S' w.heap.size) (hsa : size a ≤ 1000000) (hsb : size b ≤ 1000000) :
    Calls Tryd.prog 95 #[.slice A a.kids.length c, .slice B b.kids.length c', .func (.func 53) #[] #[]] w fun e w' => e = .returned (.int .i64 (cmpFrom a b 0)) ∧ Below w.heap.size w w' := by
  obtain ⟨d2, rfl⟩ : ∃ d2, d' = d2 + 1 := by
    cases d' with
    | zero => exact hb.elim
    | succ d2 => exact ⟨d2, rfl⟩
  have hka : a.kids.length ≤ 1000000 := by have := kids_lt a; omega
  have hkb : b.kids.length ≤ 1000000 := by have := kids_lt b; omega
  obtain ⟨la, hla⟩ : ∃ la, la = a.kids.length := ⟨_, rfl⟩
  obtain ⟨lb, hlb⟩ : ∃ lb, lb = b.kids.length := ⟨_, rfl⟩
  rw [← hla] at hka ⊢
  rw [← hlb] at hkb ⊢
  have HA := Lib.hid ha
  have HB := Lib.hid hb
  have HI := Lib.hid hin
  have HI' := Lib.hid hin'
  have HLA := Lib.hid hla
  have HLB := Lib.hid hlb
  have HIH := Lib.hid ih
  have HSA := Lib.hid hsa
  have HSB := Lib.hid hsb
  clear ha hb hin hin' hla hlb ih hsa hsb
  go_enter Tryd.func95, Tryd.ntmps95
  go_wp2_with fail
  go_loopw [13] (fun i wr => ∃ j : Nat, j ≤ la ∧ j ≤ lb ∧ i = .int .i64 j ∧ Hid (cmpFrom a b j = cmpFrom a b 0) ∧ Hid (Below w.heap.size w wr)) (fun i _ => la - (intOf i).toNat)
  case atStart => exact ⟨0, Nat.zero_le _, Nat.zero_le _, rfl, Lib.hid rfl, Lib.hid (Below.refl _ _)⟩
  case round =>
    obtain ⟨j, hj, hj2, rfl, HF, HW⟩ := hrel
    by_cases hlt : j < la
    · obtain ⟨u, hu⟩ : ∃ u, a.kids[j]? = some u := ⟨_, List.getElem?_eq_getElem (by rw [← HLA.out]; exact hlt)⟩
      have hra := HA.out.later HI.out HW.out
      obtain ⟨b1, o1, A1, c1, hA1, hb1, hcl1, hr1⟩ := hra.kid hu
      subst hA1
      have HCL1 := Lib.hid hcl1
      have hij : (0 : Int) ≤ j ∧ (j : Int) < la := ⟨by omega, by omega⟩
      by_cases hlt2 : j < lb
      · obtain ⟨v, hv⟩ : ∃ v, b.kids[j]? = some v := ⟨_, List.getElem?_eq_getElem (by rw [← HLB.out]; exact hlt2)⟩
        have hrb := HB.out.later HI'.out HW.out
        obtain ⟨b2, o2, A2, c2, hA2, hb2, hcl2, hr2⟩ := hrb.kid hv
        subst hA2
        have hij2 : (0 : Int) ≤ j ∧ (j : Int) < lb := ⟨by omega, by omega⟩
        obtain ⟨W5, hW5⟩ : ∃ W5, W5 = wr.alloc (.cells #[.int .i64 u.k, .int .i64 u.n, .int .i64 u.m, .slice A1 u.kids.length c1] 26) := ⟨_, rfl⟩
        obtain ⟨W6, hW6⟩ : ∃ W6, W6 = W5.alloc (.cells #[.int .i64 v.k, .int .i64 v.n, .int .i64 v.m, .slice A2 v.kids.length c2] 26) := ⟨_, rfl⟩
        have hb5 : Below wr.heap.size wr W5 := by rw [hW5]; exact below_new _ _
        have hb6 : Below wr.heap.size wr W6 := by rw [hW6, hW5]; exact ba (below_new _ _) _
        have hz5 : W5.heap.size = wr.heap.size + 1 := by rw [hW5, size_alloc]
        have hX : Blk W6 wr.heap.size 26 #[.int .i64 u.k, .int .i64 u.n, .int .i64 u.m, .slice A1 u.kids.length c1] := by rw [hW6, hW5]; exact blk_new3 _ _ _ _
        have hY : Blk W6 (wr.heap.size + 1) 26 #[.int .i64 v.k, .int .i64 v.n, .int .i64 v.m, .slice A2 v.kids.length c2] := by rw [hW6, hW5]; exact blk_new2 _ _ _ _
        have HCL2 : Hid (∀ i y, (nd v A2 c2)[i]? = some y → (wr.alloc (.cells #[.int .i64 u.k, .int .i64 u.n, .int .i64 u.m, .slice A1 u.kids.length c1] 26)).cell? ⟨b2, o2 + j * 4 + i, none⟩ = some y) := Lib.hid (fun i y hy => ((below_new wr _).cell (p := ⟨b2, _, none⟩) (Nat.lt_of_lt_of_le (HI'.out b2 hb2) HW.out.size)).trans (hcl2 i y hy))
        have HCX : Hid (∀ i y, [Value.int .i64 u.k, .int .i64 u.n, .int .i64 u.m, .slice A1 u.kids.length c1][i]? = some y → W6.cell? ⟨wr.heap.size, 0 + i, none⟩ = some y) := Lib.hid (fun i y hy => by rw [hX.cell (0 + i), Nat.zero_add]; simpa using hy)
        have HCY : Hid (∀ i y, [Value.int .i64 v.k, .int .i64 v.n, .int .i64 v.m, .slice A2 v.kids.length c2][i]? = some y → W6.cell? ⟨wr.heap.size + 1, 0 + i, none⟩ = some y) := Lib.hid (fun i y hy => by rw [hY.cell (0 + i), Nat.zero_add]; simpa using hy)
        have h1 := size_kid hu
        have h2 := size_kid hv
        have HCA := Lib.hid (HIH.out u v S S' A1 A2 c1 c2 d2 W6 (hr1.keep (Keeps.below (HI.out.more HW.out.size) hb6)) (hr2.keep (Keeps.below (HI'.out.more HW.out.size) hb6)) (HI.out.more (Nat.le_trans HW.out.size hb6.size)) (HI'.out.more (Nat.le_trans HW.out.size hb6.size)) (by have := HSA.out; omega) (by have := HSB.out; omega))
        have HB6 := Lib.hid hb6
        have HW6 : Hid (W6 = (wr.alloc (.cells #[.int .i64 u.k, .int .i64 u.n, .int .i64 u.m, .slice A1 u.kids.length c1] 26)).alloc (.cells #[.int .i64 v.k, .int .i64 v.n, .int .i64 v.m, .slice A2 v.kids.length c2] 26)) := Lib.hid (by rw [hW6, hW5])
        have HNX := Lib.hid (cmpFrom_next hu hv)
        obtain ⟨z, hz⟩ : ∃ z, z = cmp u v := ⟨_, rfl⟩
        have HZ := Lib.hid hz
        clear hra hrb hcl1 hcl2 hr1 hr2 hu hv hb1 hb2 hX hY hb5 hb6 hz5 hW6 hW5 h1 h2 hz
        go_wp2_with (first
          | (refine wpList_load_mid rfl 26 (.tmp 16) rfl b1 (o1 + j * 4) rfl [.int .i64 u.k, .int .i64 u.n, .int .i64 u.m, .slice A1 u.kids.length c1] _ HCL1.out Tryd.underlying26 rfl (by rw [size_node]; rfl) ?_)
          | (refine wpList_store_new rfl 26 (.tmp 8) (.tmp 17) rfl wr _ _ rfl rfl (by rw [size_node]; rfl) rfl rfl ?_)
          | (refine wpList_load_mid rfl 26 (.tmp 24) rfl b2 (o2 + j * 4) rfl [.int .i64 v.k, .int .i64 v.n, .int .i64 v.m, .slice A2 v.kids.length c2] _ HCL2.out Tryd.underlying26 rfl (by rw [size_node]; rfl) ?_)
          | (refine wpList_store_new rfl 26 (.tmp 9) (.tmp 25) rfl _ _ _ rfl rfl (by rw [size_node]; rfl) rfl rfl ?_)
          | (refine wpList_load_mid rfl 26 (.tmp 8) rfl wr.heap.size 0 rfl [.int .i64 u.k, .int .i64 u.n, .int .i64 u.m, .slice A1 u.kids.length c1] _ (by rw [← HW6.out]; exact HCX.out) Tryd.underlying26 rfl (by rw [size_node]; rfl) ?_)
          | (refine wpList_load_mid rfl 26 (.tmp 9) rfl (wr.heap.size + 1) 0 rfl [.int .i64 v.k, .int .i64 v.n, .int .i64 v.m, .slice A2 v.kids.length c2] _ (by rw [← HW6.out]; exact HCY.out) Tryd.underlying26 rfl (by rw [size_node]; rfl) ?_)
          | (go_at_call 53; rw [← HW6.out]; refine HCA.out.mono ?_; rintro e w7 ⟨rfl, hb7⟩; rw [← HZ.out]))
        · rename_i hz
          have hz0 : z ≠ 0 := by simpa using hz
          go_ret
          refine ⟨ret_i ?_, HW.out.trans ((HB6.out.mono HW.out.size).trans (hb7.mono (Nat.le_trans HW.out.size HB6.out.size)))⟩
          rw [← HF.out, HNX.out, ← HZ.out, if_neg hz0]
        · rename_i hz
          have hz0 : z = 0 := by simpa using hz
          go_roundw
          case rel => exact ⟨j + 1, by omega, by omega, by go_num, by rw [← HF.out, HNX.out, ← HZ.out, if_pos hz0]; exact Lib.hid rfl, Lib.hid (HW.out.trans ((HB6.out.mono HW.out.size).trans (hb7.mono (Nat.le_trans HW.out.size HB6.out.size))))⟩
          case measure => simp [intOf]; omega
      · have hjl : j = lb := by omega
        have HF2 : Hid ((1 : Int) = cmpFrom a b 0) := Lib.hid (by
          rw [← HF.out, cmpFrom_end (.inr (by rw [← HLB.out]; omega)), ← HLA.out, ← HLB.out]
          unfold sg
          rw [if_neg (by omega), if_pos (by omega)])
        have hd2 : decide ((lb : Int) ≤ j) = true := by simp; omega
        clear hra hcl1 hr1 hu hb1 hjl
        go_wp2_with (first
          | (refine wpList_load_mid rfl 26 (.tmp 16) rfl b1 (o1 + j * 4) rfl [.int .i64 u.k, .int .i64 u.n, .int .i64 u.m, .slice A1 u.kids.length c1] _ HCL1.out Tryd.underlying26 rfl (by rw [size_node]; rfl) ?_)
          | (refine wpList_store_new rfl 26 (.tmp 8) (.tmp 17) rfl wr _ _ rfl rfl (by rw [size_node]; rfl) rfl rfl ?_))
        go_ret
        exact ⟨ret_i HF2.out, HW.out.alloc HW.out.size _⟩
    · have hjl : j = la := by omega
      have HF2 : Hid (sg la lb = cmpFrom a b 0) := Lib.hid (by rw [← HF.out, cmpFrom_end (.inl (by rw [← HLA.out]; omega)), ← HLA.out, ← HLB.out])
      by_cases hl : la < lb
      · have HF3 : Hid ((-1 : Int) = cmpFrom a b 0) := Lib.hid (by rw [← HF2.out]; unfold sg; rw [if_pos (by omega)])
        clear hjl
        go_wp2_with fail
        go_ret
        exact ⟨ret_i HF3.out, HW.out⟩
      · have HF3 : Hid ((0 : Int) = cmpFrom a b 0) := Lib.hid (by rw [← HF2.out]; unfold sg; rw [if_neg (by omega), if_neg (by omega)])
        clear hjl
        go_wp2_with fail
        go_ret
        exact ⟨ret_i HF3.out, HW.out⟩
theorem b_drew' (w : World) (o : Obj) : Below w.heap.size w (w.alloc o).drew := by
  have h := below_new w o
  exact ⟨h.os, h.tape, h.output, h.size, h.block⟩
theorem cmp_head (a b : T) : cmp a b = if firstN [sg a.k b.k, sg a.n b.n, sg a.m b.m] = 0 then cmpFrom a b 0 else firstN [sg a.k b.k, sg a.n b.n, sg a.m b.m] := by
  by_cases h1 : a.k = b.k
  · by_cases h2 : a.n = b.n
    · by_cases h3 : a.m = b.m
      · rw [if_pos (by simp [firstN, sg_zero.2 h1, sg_zero.2 h2, sg_zero.2 h3]), cmpFrom_zero a b h1 h2 h3]
      · have hs : sg a.m b.m ≠ 0 := fun e => h3 (sg_zero.1 e)
        have e : firstN [sg a.k b.k, sg a.n b.n, sg a.m b.m] = sg a.m b.m := by rw [firstN, if_pos (sg_zero.2 h1), firstN, if_pos (sg_zero.2 h2), firstN, if_neg hs]
        rw [e, if_neg hs, cmp_m h1 h2 h3]
    · have hs : sg a.n b.n ≠ 0 := fun e => h2 (sg_zero.1 e)
      have e : firstN [sg a.k b.k, sg a.n b.n, sg a.m b.m] = sg a.n b.n := by
        rw [firstN, if_pos (sg_zero.2 h1), firstN, if_neg hs]
      rw [e, if_neg hs, cmp_n h1 h2]
  · have hs : sg a.k b.k ≠ 0 := fun e => h1 (sg_zero.1 e)
    have e : firstN [sg a.k b.k, sg a.n b.n, sg a.m b.m] = sg a.k b.k := by rw [firstN, if_neg hs]
    rw [e, if_neg hs, cmp_k h1]

set_option maxRecDepth 100000 in
set_option maxHeartbeats 4000000 in
theorem tcmp_is : ∀ d, CmpC d
  | 0 => fun a b S S' A B c c' d' w h _ _ _ _ _ => h.elim
  | d + 1 => by
    have ih := tcmp_is d
    intro a b S S' A B c c' d' w ha hb hin hin' hsa hsb
    have hmo : Tryd.prog.follows .mixedOrders = true := by kernel_rfl
    obtain ⟨la, hla⟩ : ∃ la, la = a.kids.length := ⟨_, rfl⟩
    obtain ⟨lb, hlb⟩ : ∃ lb, lb = b.kids.length := ⟨_, rfl⟩
    obtain ⟨W2, hW2⟩ : ∃ W2, W2 = (w.alloc (.cells #[.int .i64 a.k, .int .i64 a.n, .int .i64 a.m, .slice A la c] 26)).alloc (.cells #[.int .i64 b.k, .int .i64 b.n, .int .i64 b.m, .slice B lb c'] 26) := ⟨_, rfl⟩
    have hX : Blk W2 w.heap.size 26 #[.int .i64 a.k, .int .i64 a.n, .int .i64 a.m, .slice A la c] := by rw [hW2]; exact blk_new3 _ _ _ _
    have hY : Blk W2 (w.heap.size + 1) 26 #[.int .i64 b.k, .int .i64 b.n, .int .i64 b.m, .slice B lb c'] := by rw [hW2]; exact blk_new2 _ _ _ _
    have hB2 : Below w.heap.size w W2 := by rw [hW2]; exact ba (below_new _ _) _
    have HK : Hid (∀ W', Below W2.heap.size W2 W' → W'.cell? ⟨w.heap.size, 0, none⟩ = some (.int .i64 a.k) ∧ W'.cell? ⟨w.heap.size, 1, none⟩ = some (.int .i64 a.n) ∧ W'.cell? ⟨w.heap.size, 2, none⟩ = some (.int .i64 a.m) ∧
        W'.cell? ⟨w.heap.size + 1, 0, none⟩ = some (.int .i64 b.k) ∧ W'.cell? ⟨w.heap.size + 1, 1, none⟩ = some (.int .i64 b.n) ∧ W'.cell? ⟨w.heap.size + 1, 2, none⟩ = some (.int .i64 b.m)) := Lib.hid (fun W' h =>
      ⟨(hX.below h hX.lt).cell 0, (hX.below h hX.lt).cell 1, (hX.below h hX.lt).cell 2, (hY.below h hY.lt).cell 0, (hY.below h hY.lt).cell 1, (hY.below h hY.lt).cell 2⟩)
    have HX := Lib.hid hX
    have HY := Lib.hid hY
    have HB2 := Lib.hid hB2
    have HF : Hid (∀ W', Below w.heap.size w W' → Calls Tryd.prog 95 #[.slice A la c, .slice B lb c', .func (.func 53) #[] #[]] W' fun e w' => e = .returned (.int .i64 (cmpFrom a b 0)) ∧ Below W'.heap.size W' w') := Lib.hid (fun W' h => by
      rw [hla, hlb]
      exact cmpf_is d ih a b S S' A B c c' d' W' (ha.later hin h) (hb.later hin' h) (hin.more h.size) (hin'.more h.size) hsa hsb)
    have HCM := Lib.hid (cmp_head a b)
    obtain ⟨x, hx⟩ : ∃ x, x = firstN [sg a.k b.k, sg a.n b.n, sg a.m b.m] := ⟨_, rfl⟩
    have HXX := Lib.hid hx
    have HRD : Hid (Rd (W2.alloc (.cells #[.int .i64 (sg a.k b.k), .int .i64 (sg a.n b.n), .int .i64 (sg a.m b.m)] 3)).drew (fun b => b < W2.heap.size + 1) 1 (some ⟨W2.heap.size, 0, none⟩) [sg a.k b.k, sg a.n b.n, sg a.m b.m].length (vi [sg a.k b.k, sg a.n b.n, sg a.m b.m])) :=
      Lib.hid ⟨rfl, fun _ => ⟨_, rfl, Nat.lt_succ_self _, cells_new W2 (vi [sg a.k b.k, sg a.n b.n, sg a.m b.m]) 3⟩⟩
    have hS0 := HK.out _ (Below.refl _ _)
    rw [← hla, ← hlb]
    clear ih ha hb hin hin' hX hY hla hlb hx hB2
    go_enter Tryd.func53, Tryd.ntmps53
    go_wp2_with fail
    rw [← hW2]
    clear hW2
    go_region_held_law (fun W' => W'.cell? ⟨w.heap.size, 0, none⟩ = some (.int .i64 a.k) ∧ W'.cell? ⟨w.heap.size, 1, none⟩ = some (.int .i64 a.n) ∧ W'.cell? ⟨w.heap.size, 2, none⟩ = some (.int .i64 a.m) ∧
        W'.cell? ⟨w.heap.size + 1, 0, none⟩ = some (.int .i64 b.k) ∧ W'.cell? ⟨w.heap.size + 1, 1, none⟩ = some (.int .i64 b.n) ∧ W'.cell? ⟨w.heap.size + 1, 2, none⟩ = some (.int .i64 b.m))
      (first | assumption | exact HK.out _ (Below.refl _ _).drew | exact HK.out _ (b_drew' _ _) | exact HK.out _ (Below.refl _ _))
      (first
        | (go_at_call 94; refine (cmpc_is _ _ _).mono ?_; rintro e w' ⟨rfl, rfl⟩)
        | (go_at_call 93; refine (or_is [sg a.k b.k, sg a.n b.n, sg a.m b.m] (fun b => b < W2.heap.size + 1) (some ⟨W2.heap.size, 0, none⟩) 3 _ HRD.out (by simp)).mono ?_; rintro e w' ⟨rfl, rfl⟩; rw [← HXX.out]))
    obtain ⟨W3, hW3⟩ : ∃ W3, W3 = (W2.alloc (.cells #[.int .i64 (sg a.k b.k), .int .i64 (sg a.n b.n), .int .i64 (sg a.m b.m)] 3)).drew := ⟨_, rfl⟩
    have HB3 : Hid (Below W2.heap.size W2 W3) := Lib.hid (by rw [hW3]; exact b_drew' _ _)
    have hk3 : W3.cell? ⟨w.heap.size, 3, none⟩ = some (.slice A la c) := (HX.out.below HB3.out HX.out.lt).cell 3
    have hk4 : W3.cell? ⟨w.heap.size + 1, 3, none⟩ = some (.slice B lb c') := (HY.out.below HB3.out HY.out.lt).cell 3
    rw [← hW3]
    clear hW3
    have HB3' := Lib.hid (bt HB2.out HB3.out)
    have HCA := Lib.hid (HF.out W3 HB3'.out)
    by_cases hx0 : x = 0
    · have HE : Hid (cmp a b = cmpFrom a b 0) := Lib.hid (by rw [HCM.out, ← HXX.out, if_pos hx0])
      have hne : (x != 0) = false := by simpa using hx0
      clear hx0
      go_wp2_with (go_at_call 95; refine HCA.out.mono ?_; rintro e w5 ⟨rfl, hb5⟩)
      go_ret
      exact ⟨ret_i HE.out.symm, bt HB3'.out hb5⟩
    · have HE : Hid (cmp a b = x) := Lib.hid (by rw [HCM.out, ← HXX.out, if_neg hx0])
      have hne : (x != 0) = true := by simpa using hx0
      clear hx0
      go_wp2_with fail
      go_ret
      exact ⟨ret_i HE.out.symm, HB3'.out⟩
end Go.Proofs.YtikinofopkjdjaaDoor
