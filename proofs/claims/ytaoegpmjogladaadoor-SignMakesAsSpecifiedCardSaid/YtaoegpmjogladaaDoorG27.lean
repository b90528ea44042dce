/-
  The inputs of Of say which tag and which parts they come from.
-/
import Derived.Test.YtaoegpmjogladaaDoorG07
import Derived.Test.YtaoegpmjogladaaDoorG17
import Derived.Test.YtaoegpmjogladaaDoorG08
import Derived.Test.YtaoegpmjogladaaDoorG03
import Derived.Test.YtaoegpmjogladaaDoorG10
import Derived.Laws.Bits128
import Derived.Test.YtaoegpmjogladaaDoorG19
import Derived.Test.YtaoegpmjogladaaDoorG21
set_option linter.unusedVariables false
namespace Go.Proofs.YtaoegpmjogladaaDoor
open Go.RowKit WM

theorem encB_cons_inj {s t : ByteArray} {a b : List UInt8} (hs : s.size ≤ 9223372036854775807) (ht : t.size ≤ 9223372036854775807) (h : encB s.data.toList ++ a = encB t.data.toList ++ b) : s = t ∧ a = b := by
  have e1 := gBytes_enc (s := s.data.toList) (by rw [Array.length_toList]; show ((s.size : Nat) : Int) ≤ _; omega) a
  have e2 := gBytes_enc (s := t.data.toList) (by rw [Array.length_toList]; show ((t.size : Nat) : Int) ≤ _; omega) b
  rw [h, e2] at e1
  injection e1 with e3 e4
  have hst : s = t := ByteArray.ext (Array.toList_inj.1 e3.symm)
  subst hst
  exact ⟨rfl, List.append_cancel_left h⟩
theorem encB_ne_nil (s : ByteArray) (hs : s.size ≤ 9223372036854775807) : 0 < (encB s.data.toList).length := by
  have := (enc_len (n := ((s.data.toList.length : Nat) : Int)) ⟨by omega, by rw [Array.length_toList]; show ((s.size : Nat) : Int) ≤ _; omega⟩).1
  unfold encB
  rw [List.length_append]; omega
theorem encP_inj : ∀ (l m : List ByteArray), (∀ s ∈ l, s.size ≤ 9223372036854775807) → (∀ s ∈ m, s.size ≤ 9223372036854775807) → encP l = encP m → l = m
  | [], [], _, _, _ => rfl
  | [], s :: m, _, hm, h => by
    have h1 := encB_ne_nil s (hm s (by simp))
    have h2 := congrArg List.length h
    unfold encP at h2
    rw [List.flatMap_cons, List.length_append] at h2
    simp only [List.flatMap_nil, List.length_nil] at h2
    omega
  | s :: l, [], hl, _, h => by
    have h1 := encB_ne_nil s (hl s (by simp))
    have h2 := congrArg List.length h
    unfold encP at h2
    rw [List.flatMap_cons, List.length_append] at h2
    simp only [List.flatMap_nil, List.length_nil] at h2
    omega
  | s :: l, t :: m, hl, hm, h => by
    unfold encP at h
    rw [List.flatMap_cons, List.flatMap_cons] at h
    obtain ⟨e1, e2⟩ := encB_cons_inj (hl s (by simp)) (hm t (by simp)) h
    rw [e1, encP_inj l m (fun x hx => hl x (by simp [hx])) (fun x hx => hm x (by simp [hx])) e2]
/-- Equal inputs: the same tag modulo 256, the same parts. -/
theorem inputOf_inj {t u : Int} {l m : List ByteArray} (hl : ∀ s ∈ l, s.size ≤ 9223372036854775807) (hm : ∀ s ∈ m, s.size ≤ 9223372036854775807) (h : inputOf t l = inputOf u m) : tagB t = tagB u ∧ l = m := by
  unfold inputOf at h
  injection h with h1 h2
  exact ⟨h1, encP_inj l m hl hm h2⟩
end Go.Proofs.YtaoegpmjogladaaDoor

/-
  scoriaref02.Few and scoriaref02.Input.
-/
namespace Go.Proofs.YtaoegpmjogladaaDoor
open Go.RowKit WM

/-- Few: at most twelve, of at most 400 bytes. -/
def IsFew (l : List ByteArray) : Prop := l.length ≤ 12 ∧ ∀ s ∈ l, s.size ≤ 400
theorem few_next {l : List ByteArray} {k : Nat} (h : k < l.length) (h1 : ∀ s ∈ l.take k, s.size ≤ 400) (h2 : l[k].size ≤ 400) : ∀ s ∈ l.take (k + 1), s.size ≤ 400 := by
  intro s hs
  rw [List.take_succ_eq_append_getElem h, List.mem_append] at hs
  rcases hs with hs | hs
  · exact h1 s hs
  · rw [List.mem_singleton] at hs; subst hs; exact h2

set_option maxRecDepth 100000 in
set_option maxHeartbeats 1600000 in
theorem few (A : Option Addr) (l : List ByteArray) (c : Nat) (w : World) (ha : Reads w w.heap.size 1 A l.length (ss l)) (hn : l.length ≤ 9223372036854775807) :
    Calls Tryd.prog 11 #[.slice A l.length c] w fun e w' => ∃ r, e = .returned (.bool r) ∧ (r = true → IsFew l) ∧ Below w.heap.size w w' := by
  have HA := Lib.hid ha
  clear ha
  by_cases h12 : 12 < l.length
  · go_enter Tryd.func11, Tryd.ntmps11
    go_wp2
    go_ret
    exact ⟨false, rfl, fun h => (nomatch h), Below.refl _ _⟩
  · go_enter Tryd.func11, Tryd.ntmps11
    go_wp2
    go_loopw [3] (fun i' wr => ∃ k : Nat, k ≤ l.length ∧ i' = .int .i64 k ∧ Hid ((∀ s ∈ l.take k, s.size ≤ 400) ∧ Below w.heap.size w wr)) (fun i' _ => l.length - (intOf i').toNat)
    case atStart => exact ⟨0, by omega, rfl, by simp, Below.refl _ _⟩
    case round =>
      obtain ⟨k, hk, rfl, hh⟩ := hrel
      by_cases hlt : k < l.length
      · obtain ⟨b, off, rfl, _, hcell⟩ := (HA.out.below hh.out.2).lit (by omega)
        obtain ⟨s, hs⟩ : ∃ s, s = l[k] := ⟨_, rfl⟩
        have hc := hcell k _ (ss_get l k hlt)
        rw [← hs] at hc
        have HS := Lib.hid hs
        clear hcell hs
        by_cases hbig : 400 < s.size
        · go_wp2
          go_ret
          exact ⟨false, rfl, fun h => (nomatch h), hh.out.2⟩
        · go_wp2
          go_roundw
          case rel => exact ⟨k + 1, by omega, by go_num, few_next hlt hh.out.1 (by rw [← HS.out]; omega), hh.out.2⟩
          case measure => simp [intOf]; omega
      · have hke : k = l.length := by omega
        have HKE := Lib.hid hke
        have hge : l.length ≤ k := by omega
        clear hlt hk hke
        go_wp2
        go_ret
        refine ⟨true, rfl, fun _ => ⟨by omega, ?_⟩, hh.out.2⟩
        have := hh.out.1
        rwa [HKE.out, List.take_of_length_le (Nat.le_refl _)] at this

theorem own_app {w : World} {B : Nat} {v : Value} {l m : List UInt8} (h : w.ownsRow B 5 1 v (l.length + m.length) (bs l ++ bs m)) : w.ownsRow B 5 1 v (l ++ m).length (bs (l ++ m)) := own_next h rfl
theorem encP_take_succ (t : UInt8) (l : List ByteArray) (k : Nat) (h : k < l.length) : t :: encP (l.take (k + 1)) = (t :: encP (l.take k)) ++ encB l[k].data.toList := by
  rw [encP_succ l k h]; rfl

set_option maxRecDepth 100000 in
set_option maxHeartbeats 1600000 in
theorem input (t : Int) (A : Option Addr) (l : List ByteArray) (c : Nat) (w : World) (ha : Reads w w.heap.size 1 A l.length (ss l)) (hl : (encP l).length ≤ 137438953472) (hn : l.length ≤ 137438953472) :
    Calls Tryd.prog 12 #[.int .i64 t, .slice A l.length c] w fun e w' => ∃ v, e = .returned v ∧ w'.ownsRow w.heap.size 5 1 v (inputOf t l).length (bs (inputOf t l)) ∧ Below w.heap.size w w' := by
  have HA := Lib.hid ha
  clear ha
  obtain ⟨i0, hi, hz0, hz1, hz2⟩ := info_parts Tryd.info5
  obtain ⟨tb, htb⟩ : ∃ tb, tb = tagB t := ⟨_, rfl⟩
  have htv : (tb.toNat : Int) = t % 256 := by rw [htb]; exact tagB_val t
  have e0 : inputOf t l = tb :: encP l := by rw [htb]; rfl
  rw [e0]
  have HTV := Lib.hid htv
  clear htb htv e0
  go_enter Tryd.func12, Tryd.ntmps12
  go_wp2
  go_loopw [5, 6] (fun a i' wr => ∃ k : Nat, k ≤ l.length ∧ i' = .int .i64 k ∧ Hid (wr.ownsRow w.heap.size 5 1 a (tb :: encP (l.take k)).length (bs (tb :: encP (l.take k))) ∧ Below w.heap.size w wr)) (fun _ i' _ => l.length - (intOf i').toNat)
  case atStart =>
    refine ⟨0, by omega, rfl, ?_, below_new _ _⟩
    have := World.ownsRow_lit (base := w.heap.size) (e := 5) (size := 1) w #[.int .u8 (t % 256)] 1 (Nat.le_refl _) (len_le (by omega)) rfl
    rw [← HTV.out] at this
    first | exact this | (rw [IntKind.wrap_u8, ← HTV.out]; exact this) | (rw [← HTV.out]; exact this)
  case round =>
    obtain ⟨k, hk, rfl, hh⟩ := hrel
    have hsz := hh.out.2.size
    by_cases hlt : k < l.length
    · obtain ⟨b, off, rfl, _, hcell⟩ := (HA.out.below hh.out.2).lit (by omega)
      obtain ⟨s, hs⟩ : ∃ s, s = l[k] := ⟨_, rfl⟩
      have hc := hcell k _ (ss_get l k hlt)
      rw [← hs] at hc
      have HTK := Lib.hid (encP_take_succ tb l k hlt)
      rw [← hs] at HTK
      have hle := encP_le l (k + 1)
      have hle2 : (tb :: encP (l.take (k + 1))).length = (encP (l.take (k + 1))).length + 1 := rfl
      rw [HTK.out, List.length_append] at hle2
      have hsum : (tb :: encP (l.take k)).length + (encB s.data.toList).length ≤ 137438953473 := by omega
      have hss : s.size ≤ 137438953473 := by have := encB_ge s; omega
      have HSUM := Lib.hid hsum
      clear hcell hs hle hle2 hsum
      go_wp2_with (first
        | (go_at_call 35; refine (refBytes s wr (by omega)).mono ?_; rintro e w1 ⟨A1, c1, rfl, hown1, hb1⟩; have HO1 := Lib.hid (ownsRow_below hh.out.1 hb1); have HR1 := Lib.hid (Reads.of_own hown1); have HB1 := Lib.hid (bt hh.out.2 hb1); have hs1 := hb1.size; clear hown1 hb1)
        | (at_builtin; refine wpList_append_any _ rfl (.tmp 16) (.tmp 21) _ rfl w.heap.size 5 i0 (.int .u8 0) 1 1 Tryd.underlying26 hi hz0 hz1 hz2 rfl (by omega) _ _ _ rfl HO1.out w1.heap.size A1 _ c1 (bs (encB s.data.toList)) rfl HR1.out (bs_one _) (len_le (by have := HSUM.out; omega)) (by have := HSUM.out; omega) (by omega) ?_; intro v2 w2 hown2 hgrow2 _; have HO2 := Lib.hid (own_app hown2); have HB2 := Lib.hid (HB1.out.grown hgrow2 HB1.out.size (fun k hk => (HO1.out.lt k hk).1)); clear hown2 hgrow2))
      go_roundw
      case rel => exact ⟨k + 1, by omega, by go_num, by rw [HTK.out]; exact HO2.out, HB2.out⟩
      case measure => simp [intOf]; omega
    · have hke : k = l.length := by omega
      have HKE := Lib.hid hke
      have hge : l.length ≤ k := by omega
      clear hlt hk hke
      have hown : wr.ownsRow w.heap.size 5 1 u5 (tb :: encP l).length (bs (tb :: encP l)) := by
        have := hh.out.1
        rwa [HKE.out, List.take_of_length_le (Nat.le_refl _)] at this
      have HOWN := Lib.hid hown
      clear hown
      go_wp2
      go_ret
      exact ⟨_, rfl, HOWN.out, hh.out.2⟩
end Go.Proofs.YtaoegpmjogladaaDoor

/-
  scoriaref02.padKey and scoriaref02.Mac.
-/
namespace Go.Proofs.YtaoegpmjogladaaDoor
open Go.RowKit

theorem kpad_lo {k : List UInt8} {i : Nat} (h : i < k.length) : (kpad k)[i]? = some k[i] := by
  unfold kpad
  rw [List.getElem?_append_left h, List.getElem?_eq_getElem h]
theorem kpad_hi {k : List UInt8} {i : Nat} (h : ¬ i < k.length) (hi : i < 64) : (kpad k)[i]? = some 0 := by
  unfold kpad
  rw [List.getElem?_append_right (by omega), List.getElem?_replicate, if_pos (by omega)]
theorem xorl_take {c b : UInt8} {l : List UInt8} {i : Nat} (h : l[i]? = some b) : (xorl c l).take (i + 1) = (xorl c l).take i ++ [b ^^^ c] := by
  unfold xorl
  rw [List.take_add_one, List.getElem?_map, h]; rfl

set_option maxRecDepth 100000 in
set_option maxHeartbeats 1600000 in
theorem padKey (key : ByteArray) (c : UInt8) (z : Int) (hz : z = (c.toNat : Int)) (w : World) (hk : KT 1 w) (hkl : key.size ≤ 137438953472) :
    Calls Tryd.prog 75 #[.string key, .int .u8 z] w fun e w' => ∃ v, e = .returned v ∧ w'.ownsRow w.heap.size 5 1 v (xorl c (kpad (keyOf key.data.toList))).length (bs (xorl c (kpad (keyOf key.data.toList)))) ∧ Below w.heap.size w w' := by
  have HK := Lib.hid hk
  have HZ := Lib.hid hz
  clear hk hz
  obtain ⟨i0, hi, hz0, hz1, hz2⟩ := info_parts Tryd.info5
  obtain ⟨kk, hkk⟩ : ∃ kk, kk = keyOf key.data.toList := ⟨_, rfl⟩
  have hk64 : kk.length ≤ 64 := by rw [hkk]; exact keyOf_le _
  rw [← hkk]
  have HKK := Lib.hid hkk
  obtain ⟨xp, hxp⟩ : ∃ xp, xp = xorl c (kpad kk) := ⟨_, rfl⟩
  have hxl : xp.length = 64 := by rw [hxp]; unfold xorl; rw [List.length_map]; exact kpad_length hk64
  rw [← hxp]
  have HXP := Lib.hid hxp
  have HXLP := Lib.hid hxl
  clear hkk hxp hxl
  go_enter Tryd.func75, Tryd.ntmps75
  go_upto_if 12 with fail
  go_cut [5] (fun s5 wx => ∃ ks : ByteArray, s5 = .string ks ∧ Hid (ks.data.toList = kk ∧ Below w.heap.size w wx))
  case first =>
    by_cases hlong : 64 < key.size
    · have hkey : kk = sha key.data.toList := by
        rw [HKK.out, keyOf, if_pos]
        rw [size_list]; exact hlong
      have HKEY := Lib.hid hkey
      have HKSZ : Hid (key.data.toList.length ≤ 1099511627776) := by
        show key.data.toList.length ≤ 1099511627776
        rw [size_list]; omega
      have hxl : kk.length = 32 := by rw [hkey]; rfl
      have HXL := Lib.hid hxl
      clear hkey hxl
      go_wp2_with (first
        | (with_reducible refine wpList_bytes_of rfl (.tmp 13) rfl key rfl ?_; intro A2 c2 w2 hr2 hb2; have HR2 := Lib.hid hr2; have HB2 := Lib.hid hb2; clear hr2 hb2)
        | (go_at_call 76; refine (rsum_of A2 key c2 _ (HK.out.below HB2.out) HR2.out HKSZ.out kk HKEY.out.symm).mono ?_; rintro e w3 ⟨rfl, hb3⟩; have HB3 := Lib.hid (bt HB2.out hb3); clear hb3)
        | (go_at_call 33; refine (bytes32 kk HXL.out _).mono ?_; rintro e w4 ⟨rfl, hb4⟩; have HB4 := Lib.hid (bt HB3.out hb4); clear hb4))
      go_meet
      exact ⟨_, rfl, rfl, HB4.out⟩
    · have hlf : ¬ 64 < (key.size : Int) := by omega
      have hkey : kk = key.data.toList := by
        rw [HKK.out, keyOf, if_neg]
        rw [size_list]; exact hlong
      have HKEY := Lib.hid hkey
      clear hkey
      go_wp2_with fail
      go_meet
      exact ⟨_, rfl, HKEY.out.symm, Below.refl _ _⟩
  case rest =>
    obtain ⟨ks, rfl, hh⟩ := hcut
    have hks : ks.size = kk.length := by rw [← size_list, hh.out.1]
    have HKS := Lib.hid hks
    have hks64 : ks.size ≤ 64 := by omega
    clear hks
    have HH := Lib.hid hh
    clear hh
    go_wp2
    go_loopw [6, 7] (fun a v wr => ∃ i : Nat, i ≤ 64 ∧ v = .int .i64 i ∧ Hid (wr.ownsRow w.heap.size 5 1 a (xp.take i).length (bs (xp.take i)) ∧ Below w.heap.size w wr)) (fun _ v _ => 64 - (intOf v).toNat)
    case atStart => exact ⟨0, by omega, rfl, World.ownsRow_nil _ _ _ _, HH.out.out.2⟩
    case round =>
      obtain ⟨i, hi64, rfl, hh⟩ := hrel
      have hs4 := hh.out.2.size
      by_cases hlt : i < 64
      · have hpl : (xp.take i).length ≤ 64 := by rw [List.length_take]; omega
        by_cases hin : i < ks.size
        · have hks2 : ks[i] = kk[i]'(by rw [← HKS.out]; exact hin) := by
            have := HH.out.out.1
            subst this
            rfl
          have HS : Hid (xp.take (i + 1) = xp.take i ++ [ks[i] ^^^ c]) := by
            rw [HXP.out, hks2]; exact xorl_take (kpad_lo _)
          clear hks2
          go_wp2_with (at_builtin; refine wpList_append_own _ rfl (.tmp 28) (.tmp 32) 26 rfl w.heap.size 5 i0 (.int .u8 0) 1 1 Tryd.underlying26 hi hz0 hz1 hz2 rfl (by decide) _ _ _ rfl (hh.out.1.alloc _) ⟨wr.heap.size, 0, none⟩ 1 1 [.int .u8 _] rfl rfl (one_new _ _ _) (int_one _ _) (len_le (by omega)) (by omega) (by simp; omega) ?_; intro v4 w4 hown4 hgrow4 _; have HO4 := Lib.hid hown4; have HG4 := Lib.hid hgrow4; clear hown4 hgrow4)
          go_roundw
          case rel =>
            refine ⟨i + 1, by omega, by go_num, by rw [HS.out]; exact own_push HO4.out (by rw [HZ.out]; exact xor_byte _ _), (hh.out.2.alloc (by omega) _).grown HG4.out (by simp; omega) (fun k hk => by have := (hh.out.1.lt k hk).1; omega)⟩
          case measure => simp [intOf]; omega
        · have hin2 : (ks.size : Int) ≤ (i : Int) := by omega
          have HS : Hid (xp.take (i + 1) = xp.take i ++ [0 ^^^ c]) := by
            rw [HXP.out]; exact xorl_take (kpad_hi (by rw [← HKS.out]; exact hin) hlt)
          go_wp2_with (at_builtin; refine wpList_append_own _ rfl (.tmp 28) (.tmp 32) 26 rfl w.heap.size 5 i0 (.int .u8 0) 1 1 Tryd.underlying26 hi hz0 hz1 hz2 rfl (by decide) _ _ _ rfl (hh.out.1.alloc _) ⟨wr.heap.size, 0, none⟩ 1 1 [.int .u8 _] rfl rfl (one_new _ _ _) (int_one _ _) (len_le (by omega)) (by omega) (by simp; omega) ?_; intro v4 w4 hown4 hgrow4 _; have HO4 := Lib.hid hown4; have HG4 := Lib.hid hgrow4; clear hown4 hgrow4)
          go_roundw
          case rel =>
            refine ⟨i + 1, by omega, by go_num, by rw [HS.out]; exact own_push HO4.out (by rw [HZ.out]; exact xor_byte 0 _), (hh.out.2.alloc (by omega) _).grown HG4.out (by simp; omega) (fun k hk => by have := (hh.out.1.lt k hk).1; omega)⟩
          case measure => simp [intOf]; omega
      · have hie : i = 64 := by omega
        have HI := Lib.hid hie
        have hge : 64 ≤ i := by omega
        clear hlt hi64 hie
        have hown : wr.ownsRow w.heap.size 5 1 u6 xp.length (bs xp) := by
          have := hh.out.1
          rwa [HI.out, List.take_of_length_le (by rw [HXLP.out]; exact Nat.le_refl _)] at this
        have HOWN := Lib.hid hown
        clear hown
        go_wp2
        go_ret
        exact ⟨_, rfl, HOWN.out, hh.out.2⟩
end Go.Proofs.YtaoegpmjogladaaDoor

/-
  scoriaref02.Mac, and the walk of HashMacMatchesSpec.
-/
namespace Go.Proofs.YtaoegpmjogladaaDoor
open Go.RowKit

theorem own_str {w : World} {B : Nat} {v : Value} {l : List UInt8} {s : ByteArray} (h : w.ownsRow B 5 1 v (l.length + s.size) (bs l ++ Lib.strCells s)) : w.ownsRow B 5 1 v (l ++ s.data.toList).length (bs (l ++ s.data.toList)) := by
  rw [bs_append, List.length_append, size_list]
  have e : Lib.strCells s = bs s.data.toList := by
    unfold Lib.strCells bs
    simp
  rw [← e]; exact h

theorem rsum_n (A : Option Addr) (m : List UInt8) (n c : Nat) (w : World) (hn : n = m.length) (hk : KT 1 w) (ha : Reads w w.heap.size 1 A n (bs m)) (hm : m.length ≤ 1099511627776) (x : List UInt8) (hx : sha m = x) :
    Calls Tryd.prog 76 #[.slice A n c] w fun e w' => e = .returned (.agg (bs x).toArray) ∧ Below w.heap.size w w' := by
  subst hn hx
  exact rsum A m c w hk ha hm

set_option maxRecDepth 100000 in
set_option maxHeartbeats 1600000 in
theorem rmac (key text : ByteArray) (w : World) (hk : KT 1 w) (hkl : key.size ≤ 137438953472) (htl : text.size ≤ 137438953472) (S : ByteArray) (hS : str (macB key.data.toList text.data.toList) = S) :
    Calls Tryd.prog 69 #[.string key, .string text] w fun e w' => e = .returned (.string S) ∧ Below w.heap.size w w' := by
  have HK := Lib.hid hk
  clear hk
  obtain ⟨i0, hi, hz0, hz1, hz2⟩ := info_parts Tryd.info5
  obtain ⟨p, hp⟩ : ∃ p, p = xorl 54 (kpad (keyOf key.data.toList)) := ⟨_, rfl⟩
  obtain ⟨q, hq⟩ : ∃ q, q = xorl 92 (kpad (keyOf key.data.toList)) := ⟨_, rfl⟩
  have hpl : p.length = 64 := by rw [hp]; unfold xorl; rw [List.length_map]; exact kpad_length (keyOf_le _)
  have hql : q.length = 64 := by rw [hq]; unfold xorl; rw [List.length_map]; exact kpad_length (keyOf_le _)
  obtain ⟨x, hx⟩ : ∃ x, x = sha (p ++ text.data.toList) := ⟨_, rfl⟩
  have hxl : x.length = 32 := by rw [hx]; rfl
  obtain ⟨y, hy⟩ : ∃ y, y = sha (q ++ x) := ⟨_, rfl⟩
  have hyl : y.length = 32 := by rw [hy]; rfl
  have hyS : str y = S := by rw [← hS, hy, hx, hp, hq]; rfl
  have htt : (p ++ text.data.toList).length ≤ 1099511627776 := by rw [List.length_append, size_list]; omega
  have hqq : (q ++ x).length ≤ 1099511627776 := by rw [List.length_append]; omega
  have hxs : (str x).size = 32 := by rw [str_size, hxl]
  have HP := Lib.hid hp
  have HQ := Lib.hid hq
  have HX := Lib.hid hx
  have HXL := Lib.hid hxl
  have HY := Lib.hid hy
  have HYL := Lib.hid hyl
  have HYS := Lib.hid hyS
  have HTT := Lib.hid htt
  have HQQ := Lib.hid hqq
  have HXS := Lib.hid hxs
  clear hp hq hx hxl hy hyl hyS htt hqq hS hxs
  go_enter Tryd.func69, Tryd.ntmps69
  go_wp2_with (first
    | (go_at_call 75; ((with_reducible refine (padKey key 54 54 rfl w HK.out hkl).mono ?_); rintro e w1 ⟨v1, rfl, hown1, hb1⟩); rw [← HP.out] at hown1; have HO1 := Lib.hid hown1; have HB1 := Lib.hid hb1; have hs1 := hb1.size; clear hown1 hb1)
    | (at_builtin; (refine Lib.wpList_append_own_string _ rfl (.tmp 9) (.tmp 10) 26 9 rfl w.heap.size 5 i0 Tryd.underlying26 Tryd.underlying9 hi hz0 hz1 hz2 v1 _ _ rfl HO1.out text rfl (len_le (by omega)) (by omega) (by omega) ?_); intro v2 w2 hown2 hgrow2 _; have ho2 := own_str hown2; obtain ⟨n2, hn2⟩ : ∃ n, n = (p ++ text.data.toList).length := ⟨_, rfl⟩; rw [← hn2] at ho2; have HN2 := Lib.hid hn2; have HO2 := Lib.hid ho2; clear hn2 ho2; have HB2 := Lib.hid (HB1.out.grown hgrow2 hs1 (fun k hk => (HO1.out.lt k hk).1)); clear hown2 hgrow2; obtain ⟨A2, c2, hv2, _⟩ := own_len HO2.out; subst hv2)
    | (go_at_call 75; ((with_reducible refine (padKey key 92 92 rfl w2 (HK.out.below HB2.out) hkl).mono ?_); rintro e w3 ⟨v3, rfl, hown3, hb3⟩); rw [← HQ.out] at hown3; have HO3 := Lib.hid hown3; have HR3 := Lib.hid (Reads.of_own (ownsRow_below HO2.out hb3)); have HB3 := Lib.hid (bt HB2.out hb3); have hs3 := hb3.size; clear hown3 hb3)
    | (go_at_call 76; ((have h0 := rsum_n A2 (p ++ text.data.toList) n2 c2 w3 HN2.out (HK.out.below HB3.out) HR3.out HTT.out x HX.out.symm; with_reducible refine h0.mono ?_); clear h0; rintro e w4 ⟨rfl, hb4⟩); have HO4 := Lib.hid (ownsRow_below HO3.out hb4); have HB4 := Lib.hid (bt HB3.out hb4); have hs4 := hb4.size; clear hb4)
    | (go_at_call 33; ((with_reducible refine (bytes32 x HXL.out _).mono ?_); rintro e w5 ⟨rfl, hb5⟩); have HO5 := Lib.hid (ownsRow_below HO4.out hb5); have HB5 := Lib.hid (bt HB4.out hb5); have hs5 := hb5.size; clear hb5)
    | (at_builtin; (refine Lib.wpList_append_own_string _ rfl (.tmp 14) (.tmp 17) 26 9 rfl w2.heap.size 5 i0 Tryd.underlying26 Tryd.underlying9 hi hz0 hz1 hz2 v3 _ _ rfl HO5.out (str x) rfl (len_le (by rw [HXS.out]; omega)) (by rw [HXS.out]; omega) (by omega) ?_); intro v6 w6 hown6 hgrow6 _; have ho6 := own_str hown6; obtain ⟨n6, hn6⟩ : ∃ n, n = (q ++ (str x).data.toList).length := ⟨_, rfl⟩; rw [← hn6] at ho6; have HN6 := Lib.hid hn6; have HO6 := Lib.hid ho6; clear hn6 ho6; have HB6 := Lib.hid (HB5.out.grown hgrow6 HB5.out.size (fun k hk => by have := (HO5.out.lt k hk).1; have := HB2.out.size; omega)); clear hown6 hgrow6; obtain ⟨A6, c6, hv6, _⟩ := own_len HO6.out; subst hv6)
    | (go_at_call 76; ((have h0 := rsum_n A6 (q ++ x) n6 c6 w6 HN6.out (HK.out.below HB6.out) (Reads.of_own HO6.out) HQQ.out y HY.out.symm; with_reducible refine h0.mono ?_); clear h0; rintro e w7 ⟨rfl, hb7⟩); have HB7 := Lib.hid (bt HB6.out hb7); clear hb7)
    | (go_at_call 33; ((with_reducible refine (bytes32 y HYL.out _).mono ?_); rintro e w8 ⟨rfl, hb8⟩); rw [HYS.out]; have HB8 := Lib.hid (bt HB7.out hb8); clear hb8))
  go_ret
  exact ⟨rfl, HB8.out⟩
end Go.Proofs.YtaoegpmjogladaaDoor

/-
  scoriaref02.Short and scoriaref02.Of.
-/
namespace Go.Proofs.YtaoegpmjogladaaDoor
open Go.RowKit WM

def sh (x : List UInt8) (i : Nat) : List UInt8 := x.take i ++ List.replicate (16 - i) 0
theorem sh_length (x : List UInt8) (i : Nat) (hx : x.length = 32) (h : i ≤ 16) : (sh x i).length = 16 := by
  simp [sh]; omega
theorem sh_get (x : List UInt8) (i : Nat) (hx : x.length = 32) (h : i < 16) : (sh x i)[i]? = some 0 := by
  unfold sh
  rw [List.getElem?_append_right (by simp; omega), List.getElem?_replicate, if_pos (by simp; omega)]
theorem sh_step (x : List UInt8) (i : Nat) (hx : x.length = 32) (h : i < 16) : (sh x i).set i (x[i]'(by omega)) = sh x (i + 1) := by
  unfold sh
  have hl : (x.take i).length = i := by simp; omega
  rw [List.set_append_right _ _ (by omega), hl, Nat.sub_self, show 16 - i = (16 - (i + 1)) + 1 by omega, List.replicate_succ, List.set_cons_zero, List.take_succ_eq_append_getElem (show i < x.length by omega), List.append_assoc]
  rfl
theorem sh_done (x : List UInt8) : sh x 16 = x.take 16 := by simp [sh]

set_option maxRecDepth 100000 in
set_option maxHeartbeats 1600000 in
theorem short (A : Option Addr) (m : List UInt8) (n c : Nat) (w : World) (hn : n = m.length) (hk : KT 1 w) (ha : Reads w w.heap.size 1 A n (bs m)) (hm : m.length ≤ 1099511627776) :
    Calls Tryd.prog 70 #[.slice A n c] w fun e w' => e = .returned (.agg (bs ((sha m).take 16)).toArray) ∧ Below w.heap.size w w' := by
  obtain ⟨x, hx⟩ : ∃ x, x = sha m := ⟨_, rfl⟩
  have hxl : x.length = 32 := by rw [hx]; rfl
  rw [← hx]
  have hs24 : (Tryd.prog.info? 31).map (·.size) = some (bs x).toArray.size := by rw [Tryd.size31]; simp [bs, hxl]
  have hs44 : (Tryd.prog.info? 29).map (·.size) = some (bs (x.take 16)).toArray.size := by rw [Tryd.size29]; simp [bs, hxl]
  have hs44z : (Tryd.prog.info? 29).map (·.size) = some (bs (List.replicate 16 0)).toArray.size := by rw [Tryd.size29]; simp [bs]
  have HX := Lib.hid hx
  have HXL := Lib.hid hxl
  have HS24 := Lib.hid hs24
  have HS44 := Lib.hid hs44
  have HS44Z := Lib.hid hs44z
  have HK := Lib.hid hk
  have HA := Lib.hid ha
  have HN := Lib.hid hn
  have HM := Lib.hid hm
  clear hx hxl hs24 hs44 hs44z hk ha hn hm
  go_enter Tryd.func70, Tryd.ntmps70
  go_wp2_with fail
  generalize hw0 : World.alloc w _ = w0
  have HB0 : Hid (Below w.heap.size w w0) := by rw [← hw0]; exact below_new _ _
  have HO0 : Hid (Blk w0 w.heap.size 29 (bs (List.replicate 16 0)).toArray) := by rw [← hw0]; exact Blk.new_at w 29 rfl (by kernel_rfl)
  clear hw0
  have h0 := rsum_n A m n c w0 HN.out (HK.out.below HB0.out) ((HA.out.below HB0.out).more HB0.out.size) HM.out x HX.out.symm
  refine h0.mono ?_
  clear h0
  rintro e w1 ⟨rfl, hb1⟩
  have HB1 := Lib.hid (bt HB0.out hb1)
  have HO1 := Lib.hid (blk_past hb1 HO0.out)
  clear hb1
  go_wp2_with (first
    | (refine wpList_store_row rfl 31 (.tmp 3) (.tmp 7) rfl w1.heap.size (bs x).toArray rfl rfl 31 _ (Blk.new w1 31 _) HS24.out (by simp [bs, HXL.out]) (all_oneCell_toArray (bs_one _)) ?_
       generalize hw2 : World.setRow (World.alloc w1 _) _ _ = w2
       have HX2 : Hid (Blk w2 w1.heap.size 31 (bs x).toArray) := by rw [← hw2]; exact (Blk.new w1 31 _).setRow _
       have HO2 : Hid (Blk w2 w.heap.size 29 (bs (List.replicate 16 0)).toArray) := by rw [← hw2]; exact (HO1.out.alloc _).setRow_far (by have := HO1.out.lt; omega) _
       have HB2 : Hid (Below w.heap.size w w2) := by rw [← hw2]; exact below_setRow (ba HB1.out _) HB1.out.size _
       clear hw2)
    | (refine wpList_store_row rfl 29 (.tmp 4) (.tmp 8) rfl w2.heap.size (bs (List.replicate 16 0)).toArray rfl rfl 29 _ (Blk.new w2 29 _) HS44Z.out (by simp [bs]) (all_oneCell_toArray (bs_one _)) ?_
       generalize hw3 : World.setRow (World.alloc w2 _) _ _ = w3
       have HX3 : Hid (Blk w3 w1.heap.size 31 (bs x).toArray) := by rw [← hw3]; exact (HX2.out.alloc _).setRow_far (by have := HX2.out.lt; omega) _
       have HO3 : Hid (Blk w3 w.heap.size 29 (bs (List.replicate 16 0)).toArray) := by rw [← hw3]; exact (HO2.out.alloc _).setRow_far (by have := HO2.out.lt; omega) _
       have HZ3 : Hid (Blk w3 w2.heap.size 29 (bs (sh x 0)).toArray) := by rw [← hw3]; exact (Blk.new w2 29 _).setRow _
       have HB3 : Hid (Below w.heap.size w w3) := by rw [← hw3]; exact below_setRow (ba HB2.out _) HB2.out.size _
       clear hw3))
  have hq1 : w1.heap.size < w2.heap.size := HX2.out.lt
  have hq2 : w.heap.size < w1.heap.size := HO1.out.lt
  obtain ⟨g3, hg3⟩ : ∃ g, g = w1.heap.size := ⟨_, rfl⟩
  obtain ⟨g4, hg4⟩ : ∃ g, g = w2.heap.size := ⟨_, rfl⟩
  rw [← hg3] at HX3 hq1 hq2 ⊢
  rw [← hg4] at HZ3 hq1 ⊢
  clear hg3 hg4 HX2 HO2 HB2 HO1 HB1 HO0 HB0
  go_loopw [5] (fun i' wr => ∃ i : Nat, i ≤ 16 ∧ i' = .int .i64 i ∧ Hid (Blk wr g4 29 (bs (sh x i)).toArray ∧ Blk wr g3 31 (bs x).toArray ∧ Blk wr w.heap.size 29 (bs (List.replicate 16 0)).toArray ∧ Below w.heap.size w wr)) (fun i' _ => 16 - (intOf i').toNat)
  case atStart => exact ⟨0, by omega, rfl, HZ3.out, HX3.out, HO3.out, HB3.out⟩
  case round =>
    clear HZ3 HX3 HO3 HB3
    obtain ⟨i, hi16, rfl, hh⟩ := hrel
    by_cases hlt : i < 16
    · have hix : i < x.length := by have := HXL.out; omega
      obtain ⟨b, hb⟩ : ∃ b, b = x[i] := ⟨_, rfl⟩
      have hc1 : wr.cell? ⟨g3, i, none⟩ = some (.int .u8 (b.toNat : Int)) := (Blk.cell hh.out.2.1 i).trans (by rw [hb]; simpa using bs_get x i hix)
      have hc2 : wr.cell? ⟨g4, i, none⟩ = some (.int .u8 ((0 : UInt8).toNat : Int)) := (Blk.cell hh.out.1 i).trans (by simpa using bs_get' (sh_get x i HXL.out hlt))
      have hf := Blk.frozen hh.out.1 i
      have HST : Hid ((sh x i).set i b = sh x (i + 1)) := by rw [hb]; exact sh_step x i HXL.out hlt
      clear hb
      go_wp2
      go_roundw
      case rel => exact ⟨i + 1, by omega, by go_num, by rw [← HST.out]; exact blk_setB hh.out.1 i b, hh.out.2.1.far (by simp; omega) _, hh.out.2.2.1.far (by simp; omega) _, hh.out.2.2.2.setCell (by simp; omega) _⟩
      case measure => simp [intOf]; omega
    · have hie : i = 16 := by omega
      have hz : Blk wr g4 29 (bs (x.take 16)).toArray := by
        have := hh.out.1
        rwa [hie, sh_done] at this
      have HZ := Lib.hid hz
      have hge : 16 ≤ i := by omega
      clear hlt hi16 hie hz
      go_wp2_with (first
        | (refine wpList_load_row rfl 29 (.tmp 4) rfl g4 rfl 29 (bs (x.take 16)).toArray (0, 0) _ HZ.out Tryd.underlying29 rfl HS44.out ?_)
        | (refine wpList_store_row rfl 29 (.tmp 2) (.tmp 18) rfl w.heap.size (bs (x.take 16)).toArray rfl rfl 29 _ hh.out.2.2.1 HS44.out (by simp [bs, HXL.out]) (all_oneCell_toArray (bs_one _)) ?_))
      exact bodyPost_ret (results_cell_row Tryd.results70 _ _ w.heap.size 29 (bs (x.take 16)).toArray (0, 0) _ rfl (hh.out.2.2.1.setRow _) Tryd.underlying29 rfl HS44.out) rfl ⟨rfl, below_setRow hh.out.2.2.2 (Nat.le_refl _) _⟩

set_option maxRecDepth 100000 in
set_option maxHeartbeats 1600000 in
theorem rof (t : Int) (A : Option Addr) (l : List ByteArray) (c : Nat) (w : World) (hk : KT 1 w) (ha : Reads w w.heap.size 1 A l.length (ss l)) (hl : (encP l).length ≤ 137438953472) (hn : l.length ≤ 137438953472) :
    Calls Tryd.prog 49 #[.int .i64 t, .slice A l.length c] w fun e w' => e = .returned (.agg (bs (ofB t l)).toArray) ∧ Below w.heap.size w w' := by
  have hs44 : (Tryd.prog.info? 29).map (·.size) = some (bs (ofB t l)).toArray.size := by rw [Tryd.size29]; simp [bs, ofB, sha_length]
  have hil : (inputOf t l).length ≤ 1099511627776 := by show (encP l).length + 1 ≤ _; omega
  have HS44 := Lib.hid hs44
  have HIL := Lib.hid hil
  have HK := Lib.hid hk
  have HA := Lib.hid ha
  clear hs44 hil hk ha
  go_enter Tryd.func49, Tryd.ntmps49
  go_wp2_with fail
  generalize hw0 : World.alloc w _ = w0
  have HB0 : Hid (Below w.heap.size w w0) := by rw [← hw0]; exact below_new _ _
  have HO0 : Hid (Blk w0 w.heap.size 29 (bs (List.replicate 16 0)).toArray) := by rw [← hw0]; exact Blk.new_at w 29 rfl (by kernel_rfl)
  clear hw0
  have h0 := input t A l c w0 ((HA.out.below HB0.out).more HB0.out.size) hl hn
  refine h0.mono ?_
  clear h0
  rintro e w1 ⟨v, rfl, hown, hb1⟩
  have HB1 := Lib.hid (bt HB0.out hb1)
  have HO1 := Lib.hid (blk_past hb1 HO0.out)
  obtain ⟨n, hnn⟩ : ∃ n, n = (inputOf t l).length := ⟨_, rfl⟩
  rw [← hnn] at hown
  have HN := Lib.hid hnn
  obtain ⟨A1, c1, hv, _⟩ := own_len hown
  subst hv
  have HR1 := Lib.hid (Reads.of_own hown)
  clear hb1 hnn hown
  go_wp2_with (first
    | (go_at_call 70; have h1 := short A1 (inputOf t l) n c1 w1 HN.out (HK.out.below HB1.out) HR1.out HIL.out; refine h1.mono ?_; clear h1; rintro e w2 ⟨rfl, hb2⟩; have HB2 := Lib.hid (bt HB1.out hb2); have HO2 := Lib.hid (blk_past hb2 HO1.out); clear hb2)
    | (refine wpList_store_row rfl 29 (.tmp 4) (.tmp 8) rfl w.heap.size (bs (ofB t l)).toArray rfl rfl 29 _ HO2.out HS44.out (by simp [bs, ofB, sha_length]) (all_oneCell_toArray (bs_one _)) ?_))
  exact bodyPost_ret (results_cell_row Tryd.results49 _ _ w.heap.size 29 (bs (ofB t l)).toArray (0, 0) _ rfl (HO2.out.setRow _) Tryd.underlying29 rfl HS44.out) rfl ⟨rfl, below_setRow HB2.out (Nat.le_refl _) _⟩
end Go.Proofs.YtaoegpmjogladaaDoor

/-
  THE WALK of HashOfMatchesSpec.
-/
namespace Go.Proofs.YtaoegpmjogladaaDoor
open Go.RowKit WM

theorem i64_and255 (n : Int) : bits .and .i64 n 255 = n % 256 := by
  have h255 : (BitVec.ofInt 64 255).toNat = 2 ^ 8 - 1 := by decide
  have key : (BitVec.ofInt 64 n &&& BitVec.ofInt 64 255).toNat = (n % ((2 ^ 64 : Nat) : Int)).toNat % 2 ^ 8 := by
    rw [BitVec.toNat_and, BitVec.toNat_ofInt, h255, Nat.and_two_pow_sub_one_eq_mod]
  show IntKind.i64.wrap ((BitVec.ofInt 64 n &&& BitVec.ofInt 64 255).toNat : Nat) = n % 256
  rw [key, IntKind.wrap_i64]
  omega
theorem tagB_mod (t : Int) : tagB (t % 256) = tagB t := by unfold tagB; rw [Int.emod_emod]
theorem ofB_mod (t : Int) (l : List ByteArray) : ofB (t % 256) l = ofB t l := by unfold ofB inputOf; rw [tagB_mod]
theorem encB_few (s : ByteArray) (h : s.size ≤ 400) : (encB s.data.toList).length ≤ 409 := by
  have := (enc_len (n := (s.size : Int)) ⟨by omega, by omega⟩).2
  unfold encB
  rw [List.length_append, size_list]; omega
theorem encP_few' (l : List ByteArray) (h : ∀ s ∈ l, s.size ≤ 400) : (encP l).length ≤ 409 * l.length := by
  induction l with
  | nil => simp [encP]
  | cons s l ih =>
    have h1 := encB_few s (h s (by simp))
    have h2 := ih fun s hs => h s (by simp [hs])
    unfold encP at h2 ⊢
    rw [List.flatMap_cons, List.length_append, List.length_cons]
    omega
theorem encP_few {l : List ByteArray} (h : IsFew l) : (encP l).length ≤ 4908 := by
  have := encP_few' l h.2
  have := h.1
  omega
theorem ofB_length (t : Int) (l : List ByteArray) : (ofB t l).length = 16 := by simp [ofB, sha_length]
theorem of_is (t : Int) (A : Option Addr) (l : List ByteArray) (c : Nat) (w : World) (hk : KT 0 w) (ha : Reads w w.heap.size 1 A l.length (ss l)) (h : IsFew l) (d : List UInt8) (hd : ofB t l = d) :
    Calls Tryd.prog 13 #[.int .i64 t, .slice A l.length c] w fun e w' => e = .returned (.agg (bs d).toArray) ∧ Below w.heap.size w w' := by
  subst hd
  exact of_ t A l c w hk ha (by have := encP_few h; omega) (by have := h.1; omega)
theorem rof_is (t : Int) (A : Option Addr) (l : List ByteArray) (c : Nat) (w : World) (hk : KT 1 w) (ha : Reads w w.heap.size 1 A l.length (ss l)) (h : IsFew l) (d : List UInt8) (hd : ofB t l = d) :
    Calls Tryd.prog 49 #[.int .i64 t, .slice A l.length c] w fun e w' => e = .returned (.agg (bs d).toArray) ∧ Below w.heap.size w w' := by
  subst hd
  exact rof t A l c w hk ha (by have := encP_few h; omega) (by have := h.1; omega)
end Go.Proofs.YtaoegpmjogladaaDoor

/-
  FOR THE WALK of HashOfSeparates.
-/
namespace Go.Proofs.YtaoegpmjogladaaDoor
open Go.RowKit WM

/-- The two inputs have the same tag and the same parts as far as k. -/
def Alike2 (c0 c1 : UInt8) (l m : List ByteArray) (k : Nat) : Prop := c0 = c1 ∧ l.length = m.length ∧ l.take k = m.take k
theorem input_x (t : Int) (A : Option Addr) (l : List ByteArray) (c : Nat) (w : World) (ha : Reads w w.heap.size 1 A l.length (ss l)) (hf : IsFew l) (x : List UInt8) (hx : inputOf t l = x) :
    Calls Tryd.prog 12 #[.int .i64 t, .slice A l.length c] w fun e w' => ∃ Ax cx, e = .returned (.slice Ax x.length cx) ∧ Reads w' w'.heap.size 1 Ax x.length (bs x) ∧ Below w.heap.size w w' := by
  subst hx
  refine (input t A l c w ha (by have := encP_few hf; omega) (by have := hf.1; omega)).mono ?_
  rintro e w' ⟨v, rfl, hown, hb⟩
  obtain ⟨Ax, cx, rfl, _⟩ := own_form hown
  exact ⟨Ax, cx, rfl, Reads.of_own hown, hb⟩
theorem hsum_l (A : Option Addr) (m : List UInt8) (c : Nat) (w : World) (hk : KT 0 w) (ha : Reads w w.heap.size 1 A m.length (bs m)) (hm : m.length ≤ 549755813888) (x : List UInt8) (hx : sha m = x) :
    Calls Tryd.prog 14 #[.slice A m.length c] w fun e w' => e = .returned (.agg (bs x).toArray) ∧ Below w.heap.size w w' := by
  subst hx
  exact hsum A m c w hk ha hm
theorem few_small {l : List ByteArray} (h : IsFew l) : ∀ s ∈ l, s.size ≤ 9223372036854775807 := fun s hs => by have := h.2 s hs; omega
theorem inputOf_few {t : Int} {l : List ByteArray} (h : IsFew l) : (inputOf t l).length ≤ 5000 := by
  have := encP_few h
  unfold inputOf
  simp; omega
theorem u8_cast_inj {a b : UInt8} : ((a.toNat : Int) = (b.toNat : Int)) ↔ a = b := ⟨fun h => UInt8.toNat_inj.1 (by omega), fun h => by rw [h]⟩
theorem u8_beq (a b : UInt8) : ((a.toNat : Int) == (b.toNat : Int)) = decide (a = b) := by
  rw [Bool.eq_iff_iff]; simp [u8_cast_inj]
theorem tagB_u8 (c : UInt8) : tagB (c.toNat : Int) = c := by
  have h := tagB_val (c.toNat : Int)
  have h8 := c.toNat_lt
  apply UInt8.toNat_inj.1
  omega
theorem take_dec (x y : List UInt8) (k : Nat) (hx : k < x.length) (hy : k < y.length) : decide (x.take (k + 1) = y.take (k + 1)) = (decide (x.take k = y.take k) && decide (x[k] = y[k])) := by
  rw [Bool.eq_iff_iff]
  simp only [decide_eq_true_eq, Bool.and_eq_true]
  rw [List.take_succ_eq_append_getElem hx, List.take_succ_eq_append_getElem hy]
  constructor
  · intro h
    have := List.append_inj h (by simp; omega)
    exact ⟨this.1, by simpa using this.2⟩
  · rintro ⟨h1, h2⟩
    rw [h1, h2]
theorem alike_start (c0 c1 : UInt8) (l m : List ByteArray) (s : Bool) (h : s = (decide (c0 = c1) && decide (l.length = m.length))) : (s = true → Alike2 c0 c1 l m 0) ∧ (s = false → ¬ (c0 = c1 ∧ l = m)) := by
  subst h
  simp only [Bool.and_eq_true, decide_eq_true_eq, Bool.and_eq_false_iff, decide_eq_false_iff_not]
  exact ⟨fun h => ⟨h.1, h.2, by simp⟩, fun h h2 => by rcases h with h | h; exact h h2.1; exact h (by rw [h2.2])⟩
theorem alike_next {c0 c1 : UInt8} {l m : List ByteArray} {k : Nat} (h : Alike2 c0 c1 l m k) (hl : k < l.length) (hm : k < m.length) (s : Bool) (hs : s = decide (l[k] = m[k])) : (s = true → Alike2 c0 c1 l m (k + 1)) ∧ (s = false → ¬ (c0 = c1 ∧ l = m)) := by
  subst hs
  simp only [decide_eq_true_eq, decide_eq_false_iff_not]
  refine ⟨fun e => ⟨h.1, h.2.1, ?_⟩, fun e h2 => e ?_⟩
  · rw [List.take_succ_eq_append_getElem hl, List.take_succ_eq_append_getElem hm, h.2.2, e]
  · obtain ⟨_, rfl⟩ := h2; rfl
theorem alike_end {c0 c1 : UInt8} {l m : List ByteArray} {k : Nat} (h : Alike2 c0 c1 l m k) (hk : l.length ≤ k) : c0 = c1 ∧ l = m := by
  obtain ⟨h1, h2, h3⟩ := h
  rw [List.take_of_length_le hk, List.take_of_length_le (by omega)] at h3
  exact ⟨h1, h3⟩
/-- What the law computes, out of the two inputs. -/
structure Sep (c0 c1 : UInt8) (l m : List ByteArray) (x y d e gx gy : List UInt8) : Prop where
  hx : inputOf (c0.toNat : Int) l = x
  hy : inputOf (c1.toNat : Int) m = y
  hd : ofB (c0.toNat : Int) l = d
  he : ofB (c1.toNat : Int) m = e
  hgx : sha x = gx
  hgy : sha y = gy
  d16 : d = gx.take 16
  e16 : e = gy.take 16
  dl : d.length = 16
  el : e.length = 16
  gxl : gx.length = 32
  gyl : gy.length = 32
  xs : x.length ≤ 5000
  ys : y.length ≤ 5000
  same : c0 = c1 ∧ l = m → str x = str y
  other : ¬ (c0 = c1 ∧ l = m) → str x ≠ str y
theorem sep_make (c0 c1 : UInt8) (l m : List ByteArray) (hl : IsFew l) (hm : IsFew m) : ∃ x y d e gx gy, Sep c0 c1 l m x y d e gx gy :=
  ⟨_, _, _, _, _, _, rfl, rfl, rfl, rfl, rfl, rfl, rfl, rfl, ofB_length _ _, ofB_length _ _, sha_length _, sha_length _, inputOf_few hl, inputOf_few hm,
    fun ⟨h1, h2⟩ => by rw [h1, h2], fun h e => h (by
      have e1 : inputOf (c0.toNat : Int) l = inputOf (c1.toNat : Int) m := by
        have := congrArg (fun s : ByteArray => s.data.toList) e
        simpa [str_list] using this
      have := inputOf_inj (few_small hl) (few_small hm) e1
      rw [tagB_u8, tagB_u8] at this
      exact this)⟩
end Go.Proofs.YtaoegpmjogladaaDoor
