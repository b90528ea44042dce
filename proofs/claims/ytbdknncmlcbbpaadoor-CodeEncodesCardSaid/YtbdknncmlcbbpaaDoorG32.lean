/-
  THE REFERENCE PACKAGE's Int, by its contract.
-/
import Derived.Test.YtbdknncmlcbbpaaDoorG29
import Derived.Test.YtbdknncmlcbbpaaDoorG07
import Derived.Lib.AppendZerosOnto
set_option linter.unusedVariables false
namespace Go.Proofs.YtbdknncmlcbbpaaDoor
open Go.RowKit WM

theorem low_step {m0 m : Nat} {lo : List UInt8} (h : digs m0 = digs m ++ lo.reverse) (hm : 0 < m) : digs m0 = digs (m / 256) ++ (lo ++ [UInt8.ofNat (m % 256)]).reverse := by
  rw [h, digs_pos hm]
  simp
theorem low_done {m0 : Nat} {lo : List UInt8} (h : digs m0 = digs 0 ++ lo.reverse) : lo = (digs m0).reverse := by
  rw [h, digs_zero]; simp
theorem byte_of (m : Nat) : ((UInt8.ofNat (m % 256)).toNat : Int) = (m : Int) % 256 := by
  rw [UInt8.toNat_ofNat']; omega

theorem flip_cell {w : World} {B n : Nat} {v : Value} {xs : List Value} {y : UInt8} (h : w.ownsRow B 5 1 v n (xs ++ [.int .u8 (255 - (y.toNat : Int))])) : w.ownsRow B 5 1 v n (xs ++ bs [WM.flip y]) := by
  have e : ((WM.flip y).toNat : Int) = 255 - (y.toNat : Int) := by rw [flip_toNat]; have := y.toNat_lt; omega
  show w.ownsRow B 5 1 v n (xs ++ [.int .u8 _])
  rw [e]
  exact h
theorem enc_headP {n k : Nat} {w : World} {B : Nat} {v : Value} (hk : k = (digs n).length) (hr : (n : Int) ≤ 9223372036854775807) (h : w.ownsRow B 5 1 v (0 + 1) ([] ++ [.int .u8 (128 + (k : Int))])) :
    w.ownsRow B 5 1 v ((enc (n : Int)).take (1 + 0)).length (bs ((enc (n : Int)).take (1 + 0))) := by
  have h8 := dig8 n (by omega)
  have e : (enc (n : Int)).take (1 + 0) = [UInt8.ofNat (128 + (digs n).length)] := by rw [enc_pos (by omega), Int.toNat_natCast]; rfl
  have e2 : ((UInt8.ofNat (128 + (digs n).length)).toNat : Int) = 128 + (k : Int) := by rw [UInt8.toNat_ofNat']; omega
  rw [e]
  show w.ownsRow B 5 1 v 1 [.int .u8 _]
  rw [e2]
  exact h
theorem enc_headN {n k : Nat} {w : World} {B : Nat} {v : Value} (hk : k = (digs n).length) (hr : (n : Int) ≤ 9223372036854775807) (h : w.ownsRow B 5 1 v (0 + 1) ([] ++ [.int .u8 (127 - (k : Int))])) :
    w.ownsRow B 5 1 v ((enc (-1 - (n : Int))).take (1 + 0)).length (bs ((enc (-1 - (n : Int))).take (1 + 0))) := by
  have h8 := dig8 n (by omega)
  have e : (enc (-1 - (n : Int))).take (1 + 0) = [UInt8.ofNat (127 - (digs n).length)] := by rw [enc_neg (by omega), neg_toNat]; rfl
  have e2 : ((UInt8.ofNat (127 - (digs n).length)).toNat : Int) = 127 - (k : Int) := by rw [UInt8.toNat_ofNat']; omega
  rw [e]
  show w.ownsRow B 5 1 v 1 [.int .u8 _]
  rw [e2]
  exact h
theorem enc_wholeP {n k : Nat} (hk : k = (digs n).length) : (enc (n : Int)).take (1 + k) = enc (n : Int) := by
  rw [enc_pos (by omega), Int.toNat_natCast]
  exact List.take_of_length_le (by simp; omega)
theorem enc_wholeN {n k : Nat} (hk : k = (digs n).length) : (enc (-1 - (n : Int))).take (1 + k) = enc (-1 - (n : Int)) := by
  rw [enc_neg (by omega), neg_toNat]
  exact List.take_of_length_le (by simp; omega)
theorem rev_at {D lo : List UInt8} {k j : Nat} (hlo : lo = D.reverse) (hk : k = D.length) (hj : j ≤ k) (hj0 : 0 < j) (h : j - 1 < lo.length) : D[k - j]? = some lo[j - 1] := by
  subst hlo hk
  rw [List.getElem_reverse]
  rw [List.getElem?_eq_getElem (by omega)]
  congr 2
  omega
theorem take_next (x : UInt8) (D : List UInt8) (i : Nat) (c : UInt8) (h : D[i]? = some c) : (x :: D).take (1 + (i + 1)) = (x :: D).take (1 + i) ++ [c] := by
  rw [show 1 + (i + 1) = (i + 1) + 1 by omega, show 1 + i = i + 1 by omega, List.take_succ_cons, List.take_succ_cons, List.take_add_one, h]
  rfl
theorem enc_nextP {n k j : Nat} {lo : List UInt8} {y : UInt8} (hk : k = (digs n).length) (hlo : lo = (digs n).reverse) (hj : j ≤ k) (hj0 : 0 < j) (hjl : j - 1 < lo.length) (hy : y = lo[j - 1]) (_hr : (n : Int) ≤ 9223372036854775807) :
    (enc (n : Int)).take (1 + (k - (j - 1))) = (enc (n : Int)).take (1 + (k - j)) ++ [y] := by
  rw [enc_pos (by omega), Int.toNat_natCast, show k - (j - 1) = (k - j) + 1 by omega]
  exact take_next _ _ _ _ (by rw [hy]; exact rev_at hlo hk hj hj0 hjl)
theorem enc_nextN {n k j : Nat} {lo : List UInt8} {y : UInt8} (hk : k = (digs n).length) (hlo : lo = (digs n).reverse) (hj : j ≤ k) (hj0 : 0 < j) (hjl : j - 1 < lo.length) (hy : y = lo[j - 1]) (_hr : (n : Int) ≤ 9223372036854775807) :
    (enc (-1 - (n : Int))).take (1 + (k - (j - 1))) = (enc (-1 - (n : Int))).take (1 + (k - j)) ++ [WM.flip y] := by
  rw [enc_neg (by omega), neg_toNat, show k - (j - 1) = (k - j) + 1 by omega]
  exact take_next _ _ _ _ (by rw [List.getElem?_map, rev_at hlo hk hj hj0 hjl, hy]; rfl)

set_option maxHeartbeats 800000 in
set_option maxRecDepth 100000 in
theorem refIntP (n : Nat) (w : World) (hr : (n : Int) ≤ 9223372036854775807) :
    Calls Tryd.prog 44 #[.int .i64 (n : Int)] w fun e w' => ∃ A c, e = .returned (.slice A (enc (n : Int)).length c) ∧ w'.ownsRow w.heap.size 5 1 (.slice A (enc (n : Int)).length c) (enc (n : Int)).length (bs (enc (n : Int))) ∧ Below w.heap.size w w' := by
  have h8 := dig8 n (by omega)
  have hn : decide ((n : Int) < 0) = false := by simp
  have hn2 : decide (0 ≤ (n : Int)) = true := by simp
  obtain ⟨i0, hi, hz0, hz1, hz2⟩ := info_parts Tryd.info5
  go_enter Tryd.func44, Tryd.ntmps44
  go_wp2
  go_loopw [3, 4] (fun a v wr => ∃ (m : Nat) (lo : List UInt8), a = .int .i64 m ∧ (m : Int) ≤ 9223372036854775807 ∧ Hid (wr.ownsRow w.heap.size 5 1 v lo.length (bs lo)) ∧ Hid (digs n = digs m ++ lo.reverse) ∧ Hid (Below w.heap.size w wr)) (fun a _ _ => (intOf a).toNat)
  case atStart => exact ⟨n, [], rfl, by omega, World.ownsRow_nil _ _ _ _, by simp [Hid], Below.refl _ _⟩
  case round =>
    obtain ⟨m, lo, rfl, hm63, HO, HD, HB⟩ := hrel
    have hlo : lo.length ≤ 8 := by
      have := congrArg List.length HD.out
      rw [List.length_append, List.length_reverse] at this; omega
    have hsz := HB.out.size
    by_cases hm : 0 < m
    · go_wp2_with (at_builtin; refine wpList_append_own _ rfl (.tmp 16) (.tmp 20) 32 rfl w.heap.size 5 i0 (.int .u8 0) 1 1 Tryd.underlying32 hi hz0 hz1 hz2 rfl (by decide) _ _ _ rfl (HO.out.alloc _) ⟨wr.heap.size, 0, none⟩ 1 1 [.int .u8 ((m : Int) % 256)] rfl rfl (one_new _ _ _) (int_one _ _) (len_le (by omega)) (by omega) (by simp; omega) ?_; intro v1 w1 hown1 hgrow1 _; have HO1 := Lib.hid hown1; have HB1 := Lib.hid ((HB.out.alloc hsz _).grown hgrow1 (by simp; omega) (fun k hk => (HO.out.lt k hk).1)); clear hown1 hgrow1)
      go_roundw
      case rel => exact ⟨m / 256, lo ++ [UInt8.ofNat (m % 256)], by go_num, by omega, own_push HO1.out (byte_of m).symm, low_step HD.out hm, HB1.out⟩
      case measure => simp [intOf]; omega
    · obtain rfl : m = 0 := by omega
      obtain ⟨wm, rfl⟩ : ∃ W : World, W = wr := ⟨_, rfl⟩
      have hlo2 := low_done HD.out
      obtain ⟨A, c, hv, hc⟩ := own_form HO.out
      subst hv
      have HRD := Lib.hid (Reads.of_own HO.out)
      have hk : lo.length = (digs n).length := by rw [hlo2, List.length_reverse]
      have HLO := Lib.hid hlo2
      obtain ⟨k, hk2⟩ : ∃ k, k = lo.length := ⟨_, rfl⟩
      rw [← hk2] at HRD hc hlo ⊢
      have HK := Lib.hid (hk2.trans hk)
      have hk8 : k ≤ 8 := by omega
      have HB1 := HB
      have HN := Lib.hid (World.ownsRow_nil wm wm.heap.size 5 1)
      clear HO HD HB hlo2 hk hk2 hlo hm hm63
      go_wp2_with (at_builtin; refine wpList_append_own _ rfl (.tmp 28) (.tmp 32) 32 rfl wm.heap.size 5 i0 (.int .u8 0) 1 1 Tryd.underlying32 hi hz0 hz1 hz2 rfl (by decide) (.slice none 0 0) 0 [] rfl (HN.out.alloc _) ⟨wm.heap.size, 0, none⟩ 1 1 [.int .u8 (128 + (k : Int))] rfl rfl (one_new _ _ _) (int_one _ _) (len_le (by omega)) (by omega) (by simp) ?_; intro v1 w1 hown1 hgrow1 _; have HO1 := Lib.hid hown1; have HB2 := Lib.hid (((Below.refl wm.heap.size wm).alloc (Nat.le_refl _) _).grown hgrow1 (by simp) (fun k hk => by simp [Value.ownBlock] at hk)); clear hown1 hgrow1)
      go_loopw [6, 7] (fun o i w2 => ∃ j : Nat, j ≤ k ∧ i = .int .i64 ((j : Int) - 1) ∧ Hid (w2.ownsRow wm.heap.size 5 1 o ((enc (n : Int)).take (1 + (k - j))).length (bs ((enc (n : Int)).take (1 + (k - j))))) ∧ Hid (Below wm.heap.size wm w2)) (fun _ i _ => (intOf i + 1).toNat)
      case atStart =>
        refine ⟨k, Nat.le_refl _, rfl, ?_, HB2.out⟩
        have h1 := HO1.out
        rw [Nat.sub_self]
        exact enc_headP HK.out hr h1
      case round =>
        obtain ⟨j, hj, rfl, HO2, HB3⟩ := hrel
        have hs3 := HB3.out.size
        have hlen2 : ((enc (n : Int)).take (1 + (k - j))).length ≤ 9 := by rw [List.length_take]; omega
        by_cases hj0 : 0 < j
        · obtain ⟨b, off, rfl, hb, hcell⟩ := (HRD.out.below HB3.out).lit (by omega)
          have hjl : j - 1 < lo.length := by rw [HLO.out, List.length_reverse, ← HK.out]; omega
          have hc1 := hcell (j - 1) _ (bs_get lo (j - 1) hjl)
          obtain ⟨y, hy⟩ : ∃ y, y = lo[j - 1] := ⟨_, rfl⟩
          rw [← hy] at hc1
          have hy2 := y.toNat_lt
          have HNX := Lib.hid (enc_nextP (j := j) (lo := lo) (y := y) HK.out HLO.out hj hj0 hjl hy hr)
          clear hcell hy
          go_wp2_with (at_builtin; refine wpList_append_own _ rfl (.tmp 54) (.tmp 56) 32 rfl wm.heap.size 5 i0 (.int .u8 0) 1 1 Tryd.underlying32 hi hz0 hz1 hz2 rfl (by decide) _ _ _ rfl (HO2.out.alloc _) ⟨wr.heap.size, 0, none⟩ 1 1 [.int .u8 ((y.toNat : Int))] rfl rfl (one_new _ _ _) (int_one _ _) (len_le (by omega)) (by omega) (by simp; omega) ?_; intro v3 w3 hown3 hgrow3 _; have HO3 := Lib.hid hown3; have HB4 := Lib.hid ((HB3.out.alloc hs3 _).grown hgrow3 (by simp; omega) (fun k hk => (HO2.out.lt k hk).1)); clear hown3 hgrow3)
          go_roundw
          case rel => exact ⟨j - 1, by omega, by go_num, own_next (q := [y]) HO3.out HNX.out, HB4.out⟩
          case measure => simp [intOf]; omega
        · obtain rfl : j = 0 := by omega
          go_wp2
          go_ret
          have h1 := HO2.out
          rw [Nat.sub_zero, enc_wholeP HK.out] at h1
          obtain ⟨A', c', rfl, _⟩ := own_form h1
          exact ⟨A', c', rfl, ownsRow_base h1 HB1.out.size, HB1.out.trans (HB3.out.mono HB1.out.size)⟩

set_option maxHeartbeats 800000 in
set_option maxRecDepth 100000 in
theorem refIntN (n : Nat) (w : World) (hr : (n : Int) ≤ 9223372036854775807) :
    Calls Tryd.prog 44 #[.int .i64 (-1 - (n : Int))] w fun e w' => ∃ A c, e = .returned (.slice A (enc (-1 - (n : Int))).length c) ∧ w'.ownsRow w.heap.size 5 1 (.slice A (enc (-1 - (n : Int))).length c) (enc (-1 - (n : Int))).length (bs (enc (-1 - (n : Int)))) ∧ Below w.heap.size w w' := by
  have h8 := dig8 n (by omega)
  have hn : decide ((-1 - (n : Int)) < 0) = true := by simp; omega
  have hn2 : decide (0 ≤ (-1 - (n : Int))) = false := by simp; omega
  obtain ⟨i0, hi, hz0, hz1, hz2⟩ := info_parts Tryd.info5
  go_enter Tryd.func44, Tryd.ntmps44
  go_wp2
  go_loopw [3, 4] (fun a v wr => ∃ (m : Nat) (lo : List UInt8), a = .int .i64 m ∧ (m : Int) ≤ 9223372036854775807 ∧ Hid (wr.ownsRow w.heap.size 5 1 v lo.length (bs lo)) ∧ Hid (digs n = digs m ++ lo.reverse) ∧ Hid (Below w.heap.size w wr)) (fun a _ _ => (intOf a).toNat)
  case atStart => exact ⟨n, [], by go_num, by omega, World.ownsRow_nil _ _ _ _, by simp [Hid], Below.refl _ _⟩
  case round =>
    obtain ⟨m, lo, rfl, hm63, HO, HD, HB⟩ := hrel
    have hlo : lo.length ≤ 8 := by
      have := congrArg List.length HD.out
      rw [List.length_append, List.length_reverse] at this; omega
    have hsz := HB.out.size
    by_cases hm : 0 < m
    · go_wp2_with (at_builtin; refine wpList_append_own _ rfl (.tmp 16) (.tmp 20) 32 rfl w.heap.size 5 i0 (.int .u8 0) 1 1 Tryd.underlying32 hi hz0 hz1 hz2 rfl (by decide) _ _ _ rfl (HO.out.alloc _) ⟨wr.heap.size, 0, none⟩ 1 1 [.int .u8 ((m : Int) % 256)] rfl rfl (one_new _ _ _) (int_one _ _) (len_le (by omega)) (by omega) (by simp; omega) ?_; intro v1 w1 hown1 hgrow1 _; have HO1 := Lib.hid hown1; have HB1 := Lib.hid ((HB.out.alloc hsz _).grown hgrow1 (by simp; omega) (fun k hk => (HO.out.lt k hk).1)); clear hown1 hgrow1)
      go_roundw
      case rel => exact ⟨m / 256, lo ++ [UInt8.ofNat (m % 256)], by go_num, by omega, own_push HO1.out (byte_of m).symm, low_step HD.out hm, HB1.out⟩
      case measure => simp [intOf]; omega
    · obtain rfl : m = 0 := by omega
      obtain ⟨wm, rfl⟩ : ∃ W : World, W = wr := ⟨_, rfl⟩
      have hlo2 := low_done HD.out
      obtain ⟨A, c, hv, hc⟩ := own_form HO.out
      subst hv
      have HRD := Lib.hid (Reads.of_own HO.out)
      have hk : lo.length = (digs n).length := by rw [hlo2, List.length_reverse]
      have HLO := Lib.hid hlo2
      obtain ⟨k, hk2⟩ : ∃ k, k = lo.length := ⟨_, rfl⟩
      rw [← hk2] at HRD hc hlo ⊢
      have HK := Lib.hid (hk2.trans hk)
      have hk8 : k ≤ 8 := by omega
      have HB1 := HB
      have HN := Lib.hid (World.ownsRow_nil wm wm.heap.size 5 1)
      clear HO HD HB hlo2 hk hk2 hlo hm hm63
      go_wp2_with (at_builtin; refine wpList_append_own _ rfl (.tmp 34) (.tmp 38) 32 rfl wm.heap.size 5 i0 (.int .u8 0) 1 1 Tryd.underlying32 hi hz0 hz1 hz2 rfl (by decide) (.slice none 0 0) 0 [] rfl (HN.out.alloc _) ⟨wm.heap.size, 0, none⟩ 1 1 [.int .u8 (127 - (k : Int))] rfl rfl (one_new _ _ _) (int_one _ _) (len_le (by omega)) (by omega) (by simp) ?_; intro v1 w1 hown1 hgrow1 _; have HO1 := Lib.hid hown1; have HB2 := Lib.hid (((Below.refl wm.heap.size wm).alloc (Nat.le_refl _) _).grown hgrow1 (by simp) (fun k hk => by simp [Value.ownBlock] at hk)); clear hown1 hgrow1)
      go_loopw [6, 7] (fun o i w2 => ∃ j : Nat, j ≤ k ∧ i = .int .i64 ((j : Int) - 1) ∧ Hid (w2.ownsRow wm.heap.size 5 1 o ((enc (-1 - (n : Int))).take (1 + (k - j))).length (bs ((enc (-1 - (n : Int))).take (1 + (k - j))))) ∧ Hid (Below wm.heap.size wm w2)) (fun _ i _ => (intOf i + 1).toNat)
      case atStart =>
        refine ⟨k, Nat.le_refl _, rfl, ?_, HB2.out⟩
        have h1 := HO1.out
        rw [Nat.sub_self]
        exact enc_headN HK.out hr h1
      case round =>
        obtain ⟨j, hj, rfl, HO2, HB3⟩ := hrel
        have hs3 := HB3.out.size
        have hlen2 : ((enc (-1 - (n : Int))).take (1 + (k - j))).length ≤ 9 := by rw [List.length_take]; omega
        by_cases hj0 : 0 < j
        · obtain ⟨b, off, rfl, hb, hcell⟩ := (HRD.out.below HB3.out).lit (by omega)
          have hjl : j - 1 < lo.length := by rw [HLO.out, List.length_reverse, ← HK.out]; omega
          have hc1 := hcell (j - 1) _ (bs_get lo (j - 1) hjl)
          obtain ⟨y, hy⟩ : ∃ y, y = lo[j - 1] := ⟨_, rfl⟩
          rw [← hy] at hc1
          have hy2 := y.toNat_lt
          have HNX := Lib.hid (enc_nextN (j := j) (lo := lo) (y := y) HK.out HLO.out hj hj0 hjl hy hr)
          clear hcell hy
          go_wp2_with (at_builtin; refine wpList_append_own _ rfl (.tmp 54) (.tmp 56) 32 rfl wm.heap.size 5 i0 (.int .u8 0) 1 1 Tryd.underlying32 hi hz0 hz1 hz2 rfl (by decide) _ _ _ rfl (HO2.out.alloc _) ⟨wr.heap.size, 0, none⟩ 1 1 [.int .u8 (255 - (y.toNat : Int))] rfl rfl (one_new _ _ _) (int_one _ _) (len_le (by omega)) (by omega) (by simp; omega) ?_; intro v3 w3 hown3 hgrow3 _; have HO3 := Lib.hid hown3; have HB4 := Lib.hid ((HB3.out.alloc hs3 _).grown hgrow3 (by simp; omega) (fun k hk => (HO2.out.lt k hk).1)); clear hown3 hgrow3)
          go_roundw
          case rel => exact ⟨j - 1, by omega, by go_num, own_next (q := [WM.flip y]) (flip_cell HO3.out) HNX.out, HB4.out⟩
          case measure => simp [intOf]; omega
        · obtain rfl : j = 0 := by omega
          go_wp2
          go_ret
          have h1 := HO2.out
          rw [Nat.sub_zero, enc_wholeN HK.out] at h1
          obtain ⟨A', c', rfl, _⟩ := own_form h1
          exact ⟨A', c', rfl, ownsRow_base h1 HB1.out.size, HB1.out.trans (HB3.out.mono HB1.out.size)⟩

theorem refInt (n : Int) (w : World) (hr : inRange n) :
    Calls Tryd.prog 44 #[.int .i64 n] w fun e w' => ∃ A c, e = .returned (.slice A (enc n).length c) ∧ w'.ownsRow w.heap.size 5 1 (.slice A (enc n).length c) (enc n).length (bs (enc n)) ∧ Below w.heap.size w w' := by
  obtain ⟨h1, h2⟩ := hr
  by_cases h : 0 ≤ n
  · obtain ⟨m, rfl⟩ := Int.eq_ofNat_of_zero_le h
    exact refIntP m w h2
  · obtain ⟨m, hm⟩ : ∃ m : Nat, n = -1 - (m : Int) := ⟨(-1 - n).toNat, by omega⟩
    subst hm
    exact refIntN m w (by omega)

set_option maxHeartbeats 400000 in
set_option maxRecDepth 100000 in
theorem refBytes (s : ByteArray) (w : World) (hs : s.size ≤ 140737487999900) :
    Calls Tryd.prog 82 #[.string s] w fun e w' => ∃ A c, e = .returned (.slice A (encB s.data.toList).length c) ∧ w'.ownsRow w.heap.size 5 1 (.slice A (encB s.data.toList).length c) (encB s.data.toList).length (bs (encB s.data.toList)) ∧ Below w.heap.size w w' := by
  have hr : inRange (s.size : Int) := ⟨by omega, by omega⟩
  have h9 := (enc_len hr).2
  obtain ⟨i0, hi, hz0, hz1, hz2⟩ := info_parts Tryd.info5
  go_enter Tryd.func82, Tryd.ntmps82
  go_wp2_with (first
    | (go_at_call 44; refine (refInt _ _ hr).mono ?_; rintro e w1 ⟨A1, c1, rfl, hown1, hb1⟩; have HO1 := Lib.hid hown1; have HB1 := Lib.hid hb1; have hs1 := hb1.size; clear hown1 hb1)
    | (with_reducible refine wpList_bytes_of rfl (.tmp 6) rfl s rfl ?_; intro A2 c2 w2 hr2 hb2; have HR2 := Lib.hid hr2; have HB2 := Lib.hid (below_then HB1.out hb2); have HO2 := Lib.hid (ownsRow_below HO1.out hb2); have hs2 := (below_then HB1.out hb2).size; clear hr2 hb2)
    | (at_builtin; refine wpList_append_any _ rfl (.tmp 5) (.tmp 7) _ rfl w.heap.size 5 i0 (.int .u8 0) 1 1 Tryd.underlying32 hi hz0 hz1 hz2 rfl (by omega) _ _ _ rfl HO2.out w2.heap.size A2 s.size c2 (bs s.data.toList) rfl HR2.out (bs_one _) (len_le (by omega)) (by omega) hs2 ?_; intro v3 w3 hown3 hgrow3 _; have HO3 := Lib.hid hown3; have HB3 := Lib.hid (HB2.out.grown hgrow3 hs2 (fun k hk => (HO2.out.lt k hk).1)); clear hown3 hgrow3))
  go_ret
  have h3 := HO3.out
  have e1 := encB_size s 0
  rw [Nat.zero_add, Nat.zero_add] at e1
  have e2 := encB_cells s []
  rw [List.nil_append, List.nil_append, strCells_eq] at e2
  rw [e1, e2] at h3
  obtain ⟨A', c', rfl, _⟩ := own_form h3
  exact ⟨A', c', rfl, h3, HB3.out⟩
end Go.Proofs.YtbdknncmlcbbpaaDoor

/-
  wire.Ints, by its contract (where wire.Int is not at hand).
-/
namespace Go.Proofs.YtbdknncmlcbbpaaDoor
open Go.RowKit WM

/-- Integers, strings and digests as cells. -/
def is (l : List Int) : List Value := l.map (Value.int .i64)
theorem is_get (l : List Int) (k : Nat) (h : k < l.length) : (is l)[k]? = some (.int .i64 l[k]) := by simp [is, List.getElem?_eq_getElem h]
theorem flat_succ {α : Type} (f : α → List UInt8) (l : List α) (k : Nat) (h : k < l.length) (p : List UInt8) : p ++ (l.take (k + 1)).flatMap f = p ++ (l.take k).flatMap f ++ f l[k] := by
  rw [List.take_succ_eq_append_getElem h, List.flatMap_append, ← List.append_assoc, List.flatMap_cons, List.flatMap_nil, List.append_nil]
theorem flat_le {α : Type} (f : α → List UInt8) (l : List α) (k : Nat) : ((l.take k).flatMap f).length ≤ (l.flatMap f).length := by
  conv => rhs; rw [← List.take_append_drop k l, List.flatMap_append, List.length_append]
  omega

set_option maxHeartbeats 800000 in
theorem encInts (A : Option Addr) (l : List Int) (c : Nat) (w : World) (ha : Reads w w.heap.size 1 A l.length (is l)) (hr : ∀ x ∈ l, inRange x) (hb : (encL enc l).length ≤ 140737487999900) (hn : l.length ≤ 140737487999900) :
    Calls Tryd.prog 43 #[.slice A l.length c] w fun e w' => ∃ A c, e = .returned (.slice A (encL enc l).length c) ∧ w'.ownsRow w.heap.size 5 1 (.slice A (encL enc l).length c) (encL enc l).length (bs (encL enc l)) ∧ Below w.heap.size w w' := by
  have hrn : inRange (l.length : Int) := ⟨by omega, by omega⟩
  unfold encL at hb
  rw [List.length_append] at hb
  have HA := Lib.hid ha
  have HR := Lib.hid hr
  clear ha hr
  go_enter Tryd.func43, Tryd.ntmps43
  go_wp2_with (go_at_call 66; refine (appInt w.heap.size _ 0 [] _ _ (World.ownsRow_nil _ _ _ _) (Nat.le_refl _) hrn (by omega)).mono ?_; rintro e w1 ⟨v1, rfl, hown, hb⟩; have HO := Lib.hid (own_nil hown); have HB := Lib.hid hb; clear hown hb)
  go_loopw [3, 11] (fun o i wr => ∃ k : Nat, k ≤ l.length ∧ i = .int .i64 k ∧ wr.ownsRow w.heap.size 5 1 o (enc (l.length : Int) ++ (l.take k).flatMap enc).length (bs (enc (l.length : Int) ++ (l.take k).flatMap enc)) ∧ Below w.heap.size w wr)
    (fun _ i _ => l.length - (intOf i).toNat)
  case atStart => exact ⟨0, Nat.zero_le _, rfl, by simpa using HO.out, HB.out⟩
  case round =>
    obtain ⟨k, hk, rfl, hown, hbel⟩ := hrel
    have HO2 := Lib.hid hown
    have HB2 := Lib.hid hbel
    have hsz := hbel.size
    have hle := flat_le enc l k
    clear hown hbel
    by_cases hlt : k < l.length
    · obtain ⟨ad, u, rfl, _, hx, hcell⟩ := (HA.out.below HB2.out).at_ hlt
      rw [is_get l k hlt] at hx
      obtain rfl := Option.some.inj hx
      have hrk := HR.out _ (List.getElem_mem hlt)
      have hP : (enc (l.length : Int) ++ (l.take k).flatMap enc).length ≤ 140737487999900 := by rw [List.length_append]; omega
      go_wp2_with (go_at_call 66; refine (appInt w.heap.size _ _ _ _ _ HO2.out hsz hrk (by omega)).mono ?_; rintro e w2 ⟨v2, rfl, hown3, hb3⟩; have HO3 := Lib.hid hown3; have HB3 := Lib.hid hb3; clear hown3 hb3)
      go_roundw
      case rel => exact ⟨k + 1, by omega, by go_num, own_next HO3.out (flat_succ enc l k hlt _), HB2.out.trans HB3.out⟩
      case measure => simp [intOf]; omega
    · obtain rfl : k = l.length := by omega
      go_wp2
      go_ret
      have h1 := HO2.out
      rw [List.take_length] at h1
      obtain ⟨A', c', rfl, _⟩ := own_form h1
      exact ⟨A', c', rfl, h1, HB2.out⟩
end Go.Proofs.YtbdknncmlcbbpaaDoor

/-
  wire.Int, by its contract; wire.Ints is in WIntsL.
-/
namespace Go.Proofs.YtbdknncmlcbbpaaDoor
open Go.RowKit WM

theorem encInt (n : Int) (w : World) (hr : inRange n) :
    Calls Tryd.prog 42 #[.int .i64 n] w fun e w' => ∃ A c, e = .returned (.slice A (enc n).length c) ∧ w'.ownsRow w.heap.size 5 1 (.slice A (enc n).length c) (enc n).length (bs (enc n)) ∧ Below w.heap.size w w' := by
  go_enter Tryd.func42, Tryd.ntmps42
  go_wp2_with (go_at_call 66; refine (appInt w.heap.size _ 0 [] n _ (World.ownsRow_nil _ _ _ _) (Nat.le_refl _) hr (by omega)).mono ?_; rintro e w' ⟨v', rfl, hown, hb⟩; have HO := Lib.hid hown; have HB := Lib.hid hb; clear hown hb)
  go_ret
  have h1 := HO.out
  rw [Nat.zero_add, List.nil_append] at h1
  obtain ⟨A, c, rfl, _⟩ := own_form h1
  exact ⟨A, c, rfl, h1, HB.out⟩
end Go.Proofs.YtbdknncmlcbbpaaDoor

/-
  slices.Grow of nothing, slices.Concat of two slices of bytes.
-/
namespace Go.Proofs.YtbdknncmlcbbpaaDoor
open Go.RowKit Go.Lib WM TR KM

theorem u8_info : (Tryd.prog.info? 5).map (fun i => (i.zero, i.size, i.bytes)) = some (some (.int .u8 0), 1, 1) := by kernel_rfl
/-- An append of zeros, kept shut. -/
def apZ (ts : Array TypeId) (t : TypeId) (vs : Array Value) : Sem Value := Builtin.append_ ts t vs
theorem shutApZ (ts : Array TypeId) (t : TypeId) (vs : Array Value) : Builtin.append_ ts t vs = apZ ts t vs := rfl
section
attribute [local go_sem ↓ high] shutApZ
set_option maxHeartbeats 2000000 in
set_option maxRecDepth 100000 in
theorem grow_is (n : Nat) (w : World) (h0 : 0 < n) (hn : n ≤ 1000000000) :
    Calls Tryd.prog 65 #[.slice none 0 0, .int .i64 (n : Int)] w fun e w' => ∃ c, e = .returned (.slice (some ⟨w.heap.size, 0, none⟩) 0 c) ∧ w'.ownsRow w.heap.size 5 1 (.slice (some ⟨w.heap.size, 0, none⟩) 0 c) 0 [] ∧ Below w.heap.size w w' := by
  obtain ⟨i0, hi, hz0, hz1, hz2⟩ := info_parts u8_info
  have h1 : ¬ ((n : Int) < 0) := by omega
  have h2 : decide ((n : Int) < 0) = false := decide_eq_false h1
  have h3 : decide ((0 : Int) < (n : Int)) = true := decide_eq_true (by omega)
  have h4 : (0 : Int) < (n : Int) := by omega
  go_enter Tryd.func65, Tryd.ntmps65
  obtain ⟨gc, hgc⟩ : ∃ z, z = grownCap w (0 + n) 0 5 := ⟨_, rfl⟩
  have hge : n ≤ gc := by rw [hgc]; have := grownCap_ge w (0 + n) 0 5; omega
  have hle : gc ≤ maxLen := by rw [hgc]; exact grownCap_le_maxLen w _ _ _ (len_le (by omega))
  obtain ⟨W2, hW2⟩ : ∃ W, W = w.drew.alloc (.cells ((#[] : Array Value) ++ Builtin.zeroCells (Value.int .u8 0).cells n ++ Builtin.zeroCells (Value.int .u8 0).cells (grownCap w (0 + n) 0 5 - (0 + n))) 5) := ⟨_, rfl⟩
  have hap : (apZ #[32, 3] 32 #[.slice none 0 0, .int .i64 (n : Int)]).run Tryd.prog w = .ok (.slice (some ⟨w.heap.size, 0, none⟩) n gc) W2 := by
    have hnx := nextslicecap_le (need := 0 + n) (old := 0) (by omega)
    have h := run_append_grow_zeros (P := Tryd.prog) w 32 3 32 5 i0 (.int .u8 0) .i64 .i64 Tryd.underlying32 Tryd.underlying3 hi hz0 none 0 0 [] (run_firstCells_none w.drew i0.size 0 0 0) n h0 (by rw [hz1]; omega) (by omega) (by omega) (by rw [hz2]; omega) (by rw [hz2]; omega)
    rw [hgc, hW2]
    unfold apZ
    simpa using h
  have hown : W2.ownsRow w.heap.size 5 1 (.slice (some ⟨w.heap.size, 0, none⟩) 0 gc) 0 [] := by
    refine ⟨rfl, .inr ⟨w.heap.size, gc, (#[] : Array Value) ++ Builtin.zeroCells (Value.int .u8 0).cells n ++ Builtin.zeroCells (Value.int .u8 0).cells (grownCap w (0 + n) 0 5 - (0 + n)), rfl, Nat.le_refl _, ?_, Nat.zero_le _, hle, ?_, by simp⟩⟩
    · rw [hW2]
      exact Blk.new w.drew 5 _
    · rw [← hgc]
      have hs : ∀ k, (Builtin.zeroCells (Value.int .u8 0).cells k).size = k := fun k => by simp [Builtin.zeroCells, Value.cells]
      simp [hs]
      omega
  have hbw : Below w.heap.size w W2 := by rw [hW2]; exact (Below.refl _ w).drew.trans (below_new w.drew _)
  have hgz : ¬ gc = 0 := by omega
  have hgz2 : (gc == 0) = false := by simpa using hgz
  have HOWN := Lib.hid hown
  have HBW := Lib.hid hbw
  clear hgc hW2 hown hbw
  go_wp2_with fail
  go_ret
  exact ⟨gc, rfl, HOWN.out, HBW.out⟩
end
theorem below_grR {a w w' : World} {row : Option Nat} (hb : Below a.heap.size a w) (h : w.grownBy w' row) (hr : ∀ b, row = some b → a.heap.size ≤ b) : Below a.heap.size a w' :=
  ⟨h.os.trans hb.os, h.tape.trans hb.tape, h.output.trans hb.output, Nat.le_trans hb.size h.size, fun i hi => (h.block i (Nat.lt_of_lt_of_le hi hb.size) (fun e => by have := hr i e.symm; omega)).trans (hb.block i hi)⟩
set_option maxHeartbeats 8000000 in
set_option maxRecDepth 100000 in
/-- Two slices of bytes, joined. -/
theorem concat2_is (la lb : List UInt8) (g : Nat) (Aa Ab : Option Addr) (ca cb : Nat) (w : World) (hg : Blk w g 32 #[.slice Aa la.length ca, .slice Ab lb.length cb]) (ha : Reads w w.heap.size 1 Aa la.length (bs la)) (hb : Reads w w.heap.size 1 Ab lb.length (bs lb)) (h0 : 0 < la.length) (h1 : la.length ≤ 100000000) (h2 : lb.length ≤ 100000000) :
    Calls Tryd.prog 41 #[.slice (some ⟨g, 0, none⟩) 2 2] w fun e w' => ∃ A c, e = .returned (.slice A (la ++ lb).length c) ∧ w'.ownsRow w.heap.size 5 1 (.slice A (la ++ lb).length c) (la ++ lb).length (bs (la ++ lb)) ∧ Below w.heap.size w w' := by
  obtain ⟨i0, hi, hz0, hz1, hz2⟩ := info_parts u8_info
  obtain ⟨na, hna⟩ : ∃ z, z = la.length := ⟨_, rfl⟩
  obtain ⟨nb, hnb⟩ : ∃ z, z = lb.length := ⟨_, rfl⟩
  rw [← hna, ← hnb] at hg
  rw [← hna] at ha h0 h1
  rw [← hnb] at hb h2
  obtain ⟨c0, c1⟩ : w.cell? ⟨g, 0, none⟩ = some (.slice Aa na ca) ∧ w.cell? ⟨g, 1, none⟩ = some (.slice Ab nb cb) := ⟨hg.cell 0, hg.cell 1⟩
  have HG := Lib.hid hg
  have HA := Lib.hid ha
  have HBB := Lib.hid hb
  have HNA := Lib.hid hna
  have HNB := Lib.hid hnb
  clear hg ha hb hna hnb
  go_enter Tryd.func41, Tryd.ntmps41
  go_upto_region 3 with fail
  have hw1 : IntKind.i64.wrap (na : Int) = (na : Int) := by rw [IntKind.wrap_i64]; omega
  have hw2 : IntKind.i64.wrap ((na : Int) + (nb : Int)) = ((na + nb : Nat) : Int) := by rw [IntKind.wrap_i64]; omega
  have hd1 : decide ((na : Int) < 0) = false := decide_eq_false (by omega)
  have hd2 : decide (((na + nb : Nat) : Int) < 0) = false := decide_eq_false (by omega)
  go_loopw [3, 11] (fun s i wr => w = wr ∧ ((i = .int .i64 0 ∧ s = .int .i64 0) ∨ (i = .int .i64 1 ∧ s = .int .i64 (na : Int)) ∨ (i = .int .i64 2 ∧ s = .int .i64 ((na + nb : Nat) : Int)))) (fun _ i _ => 2 - (intOf i).toNat)
  case atStart => exact ⟨rfl, .inl ⟨rfl, rfl⟩⟩
  case round =>
    obtain ⟨rfl, ⟨rfl, rfl⟩ | ⟨rfl, rfl⟩ | ⟨rfl, rfl⟩⟩ := hrel
    · go_wp2_with fail
      go_roundw
      case rel => exact ⟨trivial, .inr (.inl ⟨by go_num, by go_num⟩)⟩
      case measure => simp [intOf]
    · go_wp2_with fail
      go_roundw
      case rel => exact ⟨trivial, .inr (.inr ⟨by go_num, by go_num⟩)⟩
      case measure => simp [intOf]
    · go_upto_region 11 with (go_at_call 65; refine (grow_is (na + nb) _ (by omega) (by omega)).mono ?_; rintro e w1 ⟨gc, rfl, hown, hb1⟩; have HO := Lib.hid hown; have HB1 := Lib.hid hb1; clear hown hb1)
      clear c0 c1 hw1 hw2 hd1 hd2
      go_loopw [6, 27] (fun s i wr => ∃ (A : Option Addr) (c : Nat) (pre : List UInt8) (np : Nat), s = .slice A np c ∧ np ≤ 200000000 ∧ ((i = .int .i64 0 ∧ Hid (pre = [])) ∨ (i = .int .i64 1 ∧ Hid (pre = la)) ∨ (i = .int .i64 2 ∧ Hid (pre = la ++ lb))) ∧ Hid (np = pre.length ∧ wr.ownsRow w.heap.size 5 1 (.slice A np c) np (bs pre) ∧ Below w.heap.size w wr)) (fun _ i _ => 2 - (intOf i).toNat)
      case atStart => exact ⟨_, gc, [], 0, rfl, by omega, .inl ⟨rfl, rfl⟩, rfl, HO.out, HB1.out⟩
      case round =>
        obtain ⟨A, c, pre, np, rfl, hnp, ⟨rfl, HP⟩ | ⟨rfl, HP⟩ | ⟨rfl, HP⟩, HI⟩ := hrel
        · have c0 : wr.cell? ⟨g, 0, none⟩ = some (.slice Aa na ca) := (HG.out.below HI.out.2.2 HG.out.lt).cell 0
          go_wp2_with (at_builtin; go_loud (refine wpList_append_any _ rfl (.tmp 31) (.tmp 32) 32 rfl w.heap.size 5 i0 _ 1 1 Tryd.underlying32 hi hz0 hz1 hz2 rfl (by omega) (.slice A np c) np (bs pre) rfl HI.out.2.1 w.heap.size Aa na ca (bs la) rfl (HA.out.below HI.out.2.2) (bs_one la) (len_le (by omega)) (by omega) HI.out.2.2.size ?_; intro v4 w4 hown4 hgrow4 _; obtain ⟨A4, c4, rfl, _⟩ := own_len hown4; have HN4 : Hid (np + na = (pre ++ la).length ∧ w4.ownsRow w.heap.size 5 1 (.slice A4 (np + na) c4) (np + na) (bs (pre ++ la)) ∧ Below w.heap.size w w4) := Lib.hid ⟨by rw [List.length_append, ← HI.out.1, ← HNA.out], by rw [bs_append]; exact hown4, below_grR HI.out.2.2 hgrow4 fun b e => (HI.out.2.1.lt b e).1⟩; clear hown4 hgrow4))
          go_roundw
          case rel => exact ⟨A4, c4, la, na, by rw [HI.out.1, HP.out]; simp, by omega, .inr (.inl ⟨by go_num, rfl⟩), Lib.hid (by have h := HN4.out; rw [HI.out.1, HP.out] at h; simpa using h)⟩
          case measure => simp [intOf]
        · have c1 : wr.cell? ⟨g, 1, none⟩ = some (.slice Ab nb cb) := (HG.out.below HI.out.2.2 HG.out.lt).cell 1
          go_wp2_with (at_builtin; go_loud (refine wpList_append_any _ rfl (.tmp 31) (.tmp 32) 32 rfl w.heap.size 5 i0 _ 1 1 Tryd.underlying32 hi hz0 hz1 hz2 rfl (by omega) (.slice A np c) np (bs pre) rfl HI.out.2.1 w.heap.size Ab nb cb (bs lb) rfl (HBB.out.below HI.out.2.2) (bs_one lb) (len_le (by omega)) (by omega) HI.out.2.2.size ?_; intro v4 w4 hown4 hgrow4 _; obtain ⟨A4, c4, rfl, _⟩ := own_len hown4; have HN4 : Hid (np + nb = (pre ++ lb).length ∧ w4.ownsRow w.heap.size 5 1 (.slice A4 (np + nb) c4) (np + nb) (bs (pre ++ lb)) ∧ Below w.heap.size w w4) := Lib.hid ⟨by rw [List.length_append, ← HI.out.1, ← HNB.out], by rw [bs_append]; exact hown4, below_grR HI.out.2.2 hgrow4 fun b e => (HI.out.2.1.lt b e).1⟩; clear hown4 hgrow4))
          have hnp2 : np = na := by rw [HI.out.1, HP.out, ← HNA.out]
          go_roundw
          case rel => exact ⟨A4, c4, la ++ lb, np + nb, rfl, by omega, .inr (.inr ⟨by go_num, rfl⟩), by have h := HN4.out; rw [HP.out] at h; exact h⟩
          case measure => simp [intOf]
        · go_wp2_with fail
          go_ret
          have h := HI.out
          rw [HP.out] at h
          obtain ⟨h1, h2, h3⟩ := h
          subst h1
          exact ⟨A, c, rfl, h2, h3⟩
end Go.Proofs.YtbdknncmlcbbpaaDoor
