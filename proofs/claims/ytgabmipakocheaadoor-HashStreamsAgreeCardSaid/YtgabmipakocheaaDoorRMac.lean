/-
  scoriaref02.Mac, and the walk of HashMacMatchesSpec.
-/
import Derived.Test.YtgabmipakocheaaDoorRKey
import Derived.Test.YtgabmipakocheaaDoorWKeys
namespace Go.Proofs.YtgabmipakocheaaDoor
open Go.RowKit

theorem own_str {w : World} {B : Nat} {v : Value} {l : List UInt8} {s : ByteArray} (h : w.ownsRow B 5 1 v (l.length + s.size) (bs l ++ Lib.strCells s)) : w.ownsRow B 5 1 v (l ++ s.data.toList).length (bs (l ++ s.data.toList)) := by
  rw [bs_append, List.length_append, size_list]
  have e : Lib.strCells s = bs s.data.toList := by
    unfold Lib.strCells bs
    simp
  rw [← e]; exact h

theorem rsum_n (A : Option Addr) (m : List UInt8) (n c : Nat) (w : World) (hn : n = m.length) (hk : KT 0 w) (ha : Reads w w.heap.size 1 A n (bs m)) (hm : m.length ≤ 1099511627776) (x : List UInt8) (hx : sha m = x) :
    Calls Tryd.prog 12 #[.slice A n c] w fun e w' => e = .returned (.agg (bs x).toArray) ∧ Below w.heap.size w w' := by
  subst hn hx
  exact rsum A m c w hk ha hm

set_option maxRecDepth 100000 in
set_option maxHeartbeats 1600000 in
theorem rmac (key text : ByteArray) (w : World) (hk : KT 0 w) (hkl : key.size ≤ 137438953472) (htl : text.size ≤ 137438953472) (S : ByteArray) (hS : str (macB key.data.toList text.data.toList) = S) :
    Calls Tryd.prog 19 #[.string key, .string text] w fun e w' => e = .returned (.string S) ∧ Below w.heap.size w w' := by
  have HK := Lib.hid hk
  clear hk
  obtain ⟨i0, hi, hz0, hz1, hz2⟩ := info_parts Tryd.info5
  obtain ⟨p, hp⟩ : ∃ p, p = xorl 54 (kpad (keyOf key.data.toList)) := ⟨_, rfl⟩
  obtain ⟨q, hq⟩ : ∃ q, q = xorl 92 (kpad (keyOf key.data.toList)) := ⟨_, rfl⟩
  have hpl : p.length = 64 := by rw [hp]; unfold xorl; rw [List.length_map]; exact kpad_length (keyOf_le _)
  have hql : q.length = 64 := by rw [hq]; unfold xorl; rw [List.length_map]; exact kpad_length (keyOf_le _)
  obtain ⟨x, hx⟩ : ∃ x, x = sha (p ++ text.data.toList) := ⟨_, rfl⟩
  have hxl : x.length = 32 := by rw [hx]; rfl
  obtain ⟨y, hy⟩ : ∃ y, y = sha (q ++ x) := ⟨_, rfl⟩
  have hyl : y.length = 32 := by rw [hy]; rfl
  have hyS : str y = S := by rw [← hS, hy, hx, hp, hq]; rfl
  have htt : (p ++ text.data.toList).length ≤ 1099511627776 := by rw [List.length_append, size_list]; omega
  have hqq : (q ++ x).length ≤ 1099511627776 := by rw [List.length_append]; omega
  have hxs : (str x).size = 32 := by rw [str_size, hxl]
  have HP := Lib.hid hp
  have HQ := Lib.hid hq
  have HX := Lib.hid hx
  have HXL := Lib.hid hxl
  have HY := Lib.hid hy
  have HYL := Lib.hid hyl
  have HYS := Lib.hid hyS
  have HTT := Lib.hid htt
  have HQQ := Lib.hid hqq
  have HXS := Lib.hid hxs
  clear hp hq hx hxl hy hyl hyS htt hqq hS hxs
  go_enter Tryd.func19, Tryd.ntmps19
  go_wp2_with (first
    | (go_at_call 31; ((with_reducible refine (padKey key 54 54 rfl w HK.out hkl).mono ?_); rintro e w1 ⟨v1, rfl, hown1, hb1⟩); rw [← HP.out] at hown1; have HO1 := Lib.hid hown1; have HB1 := Lib.hid hb1; have hs1 := hb1.size; clear hown1 hb1)
    | (at_builtin; (refine Lib.wpList_append_own_string _ rfl (.tmp 9) (.tmp 10) 22 9 rfl w.heap.size 5 i0 Tryd.underlying22 Tryd.underlying9 hi hz0 hz1 hz2 v1 _ _ rfl HO1.out text rfl (len_le (by omega)) (by omega) (by omega) ?_); intro v2 w2 hown2 hgrow2 _; have ho2 := own_str hown2; obtain ⟨n2, hn2⟩ : ∃ n, n = (p ++ text.data.toList).length := ⟨_, rfl⟩; rw [← hn2] at ho2; have HN2 := Lib.hid hn2; have HO2 := Lib.hid ho2; clear hn2 ho2; have HB2 := Lib.hid (HB1.out.grown hgrow2 hs1 (fun k hk => (HO1.out.lt k hk).1)); clear hown2 hgrow2; obtain ⟨A2, c2, hv2, _⟩ := own_len HO2.out; subst hv2)
    | (go_at_call 31; ((with_reducible refine (padKey key 92 92 rfl w2 (HK.out.below HB2.out) hkl).mono ?_); rintro e w3 ⟨v3, rfl, hown3, hb3⟩); rw [← HQ.out] at hown3; have HO3 := Lib.hid hown3; have HR3 := Lib.hid (Reads.of_own (ownsRow_below HO2.out hb3)); have HB3 := Lib.hid (bt HB2.out hb3); have hs3 := hb3.size; clear hown3 hb3)
    | (go_at_call 12; ((have h0 := rsum_n A2 (p ++ text.data.toList) n2 c2 w3 HN2.out (HK.out.below HB3.out) HR3.out HTT.out x HX.out.symm; with_reducible refine h0.mono ?_); clear h0; rintro e w4 ⟨rfl, hb4⟩); have HO4 := Lib.hid (ownsRow_below HO3.out hb4); have HB4 := Lib.hid (bt HB3.out hb4); have hs4 := hb4.size; clear hb4)
    | (go_at_call 20; ((with_reducible refine (bytes32 x HXL.out _).mono ?_); rintro e w5 ⟨rfl, hb5⟩); have HO5 := Lib.hid (ownsRow_below HO4.out hb5); have HB5 := Lib.hid (bt HB4.out hb5); have hs5 := hb5.size; clear hb5)
    | (at_builtin; (refine Lib.wpList_append_own_string _ rfl (.tmp 14) (.tmp 17) 22 9 rfl w2.heap.size 5 i0 Tryd.underlying22 Tryd.underlying9 hi hz0 hz1 hz2 v3 _ _ rfl HO5.out (str x) rfl (len_le (by rw [HXS.out]; omega)) (by rw [HXS.out]; omega) (by omega) ?_); intro v6 w6 hown6 hgrow6 _; have ho6 := own_str hown6; obtain ⟨n6, hn6⟩ : ∃ n, n = (q ++ (str x).data.toList).length := ⟨_, rfl⟩; rw [← hn6] at ho6; have HN6 := Lib.hid hn6; have HO6 := Lib.hid ho6; clear hn6 ho6; have HB6 := Lib.hid (HB5.out.grown hgrow6 HB5.out.size (fun k hk => by have := (HO5.out.lt k hk).1; have := HB2.out.size; omega)); clear hown6 hgrow6; obtain ⟨A6, c6, hv6, _⟩ := own_len HO6.out; subst hv6)
    | (go_at_call 12; ((have h0 := rsum_n A6 (q ++ x) n6 c6 w6 HN6.out (HK.out.below HB6.out) (Reads.of_own HO6.out) HQQ.out y HY.out.symm; with_reducible refine h0.mono ?_); clear h0; rintro e w7 ⟨rfl, hb7⟩); have HB7 := Lib.hid (bt HB6.out hb7); clear hb7)
    | (go_at_call 20; ((with_reducible refine (bytes32 y HYL.out _).mono ?_); rintro e w8 ⟨rfl, hb8⟩); rw [HYS.out]; have HB8 := Lib.hid (bt HB7.out hb8); clear hb8))
  go_ret
  exact ⟨rfl, HB8.out⟩

set_option maxRecDepth 100000 in
set_option maxHeartbeats 1600000 in
theorem walkMac (a0 a1 : ByteArray) (w : World) (hk0 : KT 0 w) (hk : KT 1 w) :
    Calls Tryd.prog 5 #[.string a0, .string a1] w fun e w' => e = .returned (.bool true) ∧ Below w.heap.size w w' := by
  have HK := Lib.hid hk
  have HK0 := Lib.hid hk0
  clear hk hk0
  by_cases ha : 400 < a0.size
  · go_enter Tryd.func5, Tryd.ntmps5
    go_wp2_with (go_at_call 10; refine (sanity _ HK.out).mono ?_; rintro e w1 ⟨rfl, hb1⟩; have HB1 := Lib.hid hb1; clear hb1)
    go_ret
    exact ⟨rfl, HB1.out⟩
  · by_cases hb : 400 < a1.size
    · go_enter Tryd.func5, Tryd.ntmps5
      go_wp2_with (go_at_call 10; refine (sanity _ HK.out).mono ?_; rintro e w1 ⟨rfl, hb1⟩; have HB1 := Lib.hid hb1; clear hb1)
      go_ret
      exact ⟨rfl, HB1.out⟩
    · obtain ⟨S, hS⟩ : ∃ S, S = str (macB a0.data.toList a1.data.toList) := ⟨_, rfl⟩
      have HS := Lib.hid hS
      clear hS
      go_enter Tryd.func5, Tryd.ntmps5
      go_wp2_with (first
        | (go_at_call 10; refine (sanity _ HK.out).mono ?_; rintro e w1 ⟨rfl, hb1⟩; have HB1 := Lib.hid hb1; clear hb1)
        | (go_at_call 18; ((with_reducible refine (mac_is a0 a1 _ (HK.out.below HB1.out) (by omega) (by omega) S HS.out.symm).mono ?_); rintro e w2 ⟨rfl, hb2⟩); have HB2 := Lib.hid (bt HB1.out hb2); clear hb2)
        | (go_at_call 19; ((with_reducible refine (rmac a0 a1 _ (HK0.out.below HB2.out) (by omega) (by omega) S HS.out.symm).mono ?_); rintro e w3 ⟨rfl, hb3⟩); have HB3 := Lib.hid (bt HB2.out hb3); clear hb3))
      go_ret
      exact ⟨rfl, HB3.out⟩
end Go.Proofs.YtgabmipakocheaaDoor
