/-
  scoriaref02.Few and scoriaref02.Input.
-/
import Derived.Test.YtgabmipakocheaaDoorWSum
import Derived.Test.YtgabmipakocheaaDoorWRef
namespace Go.Proofs.YtgabmipakocheaaDoor
open Go.RowKit WM

/-- Few: at most twelve, of at most 400 bytes. -/
def IsFew (l : List ByteArray) : Prop := l.length ≤ 12 ∧ ∀ s ∈ l, s.size ≤ 400
theorem few_next {l : List ByteArray} {k : Nat} (h : k < l.length) (h1 : ∀ s ∈ l.take k, s.size ≤ 400) (h2 : l[k].size ≤ 400) : ∀ s ∈ l.take (k + 1), s.size ≤ 400 := by
  intro s hs
  rw [List.take_succ_eq_append_getElem h, List.mem_append] at hs
  rcases hs with hs | hs
  · exact h1 s hs
  · rw [List.mem_singleton] at hs; subst hs; exact h2

set_option maxRecDepth 100000 in
set_option maxHeartbeats 1600000 in
theorem few (A : Option Addr) (l : List ByteArray) (c : Nat) (w : World) (ha : Reads w w.heap.size 1 A l.length (ss l)) (hn : l.length ≤ 9223372036854775807) :
    Calls Tryd.prog 13 #[.slice A l.length c] w fun e w' => ∃ r, e = .returned (.bool r) ∧ (r = true → IsFew l) ∧ Below w.heap.size w w' := by
  have HA := Lib.hid ha
  clear ha
  by_cases h12 : 12 < l.length
  · go_enter Tryd.func13, Tryd.ntmps13
    go_wp2
    go_ret
    exact ⟨false, rfl, fun h => (nomatch h), Below.refl _ _⟩
  · go_enter Tryd.func13, Tryd.ntmps13
    go_wp2
    go_loopw [3] (fun i' wr => ∃ k : Nat, k ≤ l.length ∧ i' = .int .i64 k ∧ Hid ((∀ s ∈ l.take k, s.size ≤ 400) ∧ Below w.heap.size w wr)) (fun i' _ => l.length - (intOf i').toNat)
    case atStart => exact ⟨0, by omega, rfl, by simp, Below.refl _ _⟩
    case round =>
      obtain ⟨k, hk, rfl, hh⟩ := hrel
      by_cases hlt : k < l.length
      · obtain ⟨b, off, rfl, _, hcell⟩ := (HA.out.below hh.out.2).lit (by omega)
        obtain ⟨s, hs⟩ : ∃ s, s = l[k] := ⟨_, rfl⟩
        have hc := hcell k _ (ss_get l k hlt)
        rw [← hs] at hc
        have HS := Lib.hid hs
        clear hcell hs
        by_cases hbig : 400 < s.size
        · go_wp2
          go_ret
          exact ⟨false, rfl, fun h => (nomatch h), hh.out.2⟩
        · go_wp2
          go_roundw
          case rel => exact ⟨k + 1, by omega, by go_num, few_next hlt hh.out.1 (by rw [← HS.out]; omega), hh.out.2⟩
          case measure => simp [intOf]; omega
      · have hke : k = l.length := by omega
        have HKE := Lib.hid hke
        have hge : l.length ≤ k := by omega
        clear hlt hk hke
        go_wp2
        go_ret
        refine ⟨true, rfl, fun _ => ⟨by omega, ?_⟩, hh.out.2⟩
        have := hh.out.1
        rwa [HKE.out, List.take_of_length_le (Nat.le_refl _)] at this

theorem own_app {w : World} {B : Nat} {v : Value} {l m : List UInt8} (h : w.ownsRow B 5 1 v (l.length + m.length) (bs l ++ bs m)) : w.ownsRow B 5 1 v (l ++ m).length (bs (l ++ m)) := own_next h rfl
theorem encP_take_succ (t : UInt8) (l : List ByteArray) (k : Nat) (h : k < l.length) : t :: encP (l.take (k + 1)) = (t :: encP (l.take k)) ++ encB l[k].data.toList := by
  rw [encP_succ l k h]; rfl

set_option maxRecDepth 100000 in
set_option maxHeartbeats 1600000 in
theorem input (t : Int) (A : Option Addr) (l : List ByteArray) (c : Nat) (w : World) (ha : Reads w w.heap.size 1 A l.length (ss l)) (hl : (encP l).length ≤ 137438953472) (hn : l.length ≤ 137438953472) :
    Calls Tryd.prog 23 #[.int .i64 t, .slice A l.length c] w fun e w' => ∃ v, e = .returned v ∧ w'.ownsRow w.heap.size 5 1 v (inputOf t l).length (bs (inputOf t l)) ∧ Below w.heap.size w w' := by
  have HA := Lib.hid ha
  clear ha
  obtain ⟨i0, hi, hz0, hz1, hz2⟩ := info_parts Tryd.info5
  obtain ⟨tb, htb⟩ : ∃ tb, tb = tagB t := ⟨_, rfl⟩
  have htv : (tb.toNat : Int) = t % 256 := by rw [htb]; exact tagB_val t
  have e0 : inputOf t l = tb :: encP l := by rw [htb]; rfl
  rw [e0]
  have HTV := Lib.hid htv
  clear htb htv e0
  go_enter Tryd.func23, Tryd.ntmps23
  go_wp2
  go_loopw [5, 6] (fun a i' wr => ∃ k : Nat, k ≤ l.length ∧ i' = .int .i64 k ∧ Hid (wr.ownsRow w.heap.size 5 1 a (tb :: encP (l.take k)).length (bs (tb :: encP (l.take k))) ∧ Below w.heap.size w wr)) (fun _ i' _ => l.length - (intOf i').toNat)
  case atStart =>
    refine ⟨0, by omega, rfl, ?_, below_new _ _⟩
    have := World.ownsRow_lit (base := w.heap.size) (e := 5) (size := 1) w #[.int .u8 (t % 256)] 1 (Nat.le_refl _) (len_le (by omega)) rfl
    rw [← HTV.out] at this
    first | exact this | (rw [IntKind.wrap_u8, ← HTV.out]; exact this) | (rw [← HTV.out]; exact this)
  case round =>
    obtain ⟨k, hk, rfl, hh⟩ := hrel
    have hsz := hh.out.2.size
    by_cases hlt : k < l.length
    · obtain ⟨b, off, rfl, _, hcell⟩ := (HA.out.below hh.out.2).lit (by omega)
      obtain ⟨s, hs⟩ : ∃ s, s = l[k] := ⟨_, rfl⟩
      have hc := hcell k _ (ss_get l k hlt)
      rw [← hs] at hc
      have HTK := Lib.hid (encP_take_succ tb l k hlt)
      rw [← hs] at HTK
      have hle := encP_le l (k + 1)
      have hle2 : (tb :: encP (l.take (k + 1))).length = (encP (l.take (k + 1))).length + 1 := rfl
      rw [HTK.out, List.length_append] at hle2
      have hsum : (tb :: encP (l.take k)).length + (encB s.data.toList).length ≤ 137438953473 := by omega
      have hss : s.size ≤ 137438953473 := by have := encB_ge s; omega
      have HSUM := Lib.hid hsum
      clear hcell hs hle hle2 hsum
      go_wp2_with (first
        | (go_at_call 34; refine (refBytes s wr (by omega)).mono ?_; rintro e w1 ⟨A1, c1, rfl, hown1, hb1⟩; have HO1 := Lib.hid (ownsRow_below hh.out.1 hb1); have HR1 := Lib.hid (Reads.of_own hown1); have HB1 := Lib.hid (bt hh.out.2 hb1); have hs1 := hb1.size; clear hown1 hb1)
        | (at_builtin; refine wpList_append_any _ rfl (.tmp 16) (.tmp 21) _ rfl w.heap.size 5 i0 (.int .u8 0) 1 1 Tryd.underlying22 hi hz0 hz1 hz2 rfl (by omega) _ _ _ rfl HO1.out w1.heap.size A1 _ c1 (bs (encB s.data.toList)) rfl HR1.out (bs_one _) (len_le (by have := HSUM.out; omega)) (by have := HSUM.out; omega) (by omega) ?_; intro v2 w2 hown2 hgrow2 _; have HO2 := Lib.hid (own_app hown2); have HB2 := Lib.hid (HB1.out.grown hgrow2 HB1.out.size (fun k hk => (HO1.out.lt k hk).1)); clear hown2 hgrow2))
      go_roundw
      case rel => exact ⟨k + 1, by omega, by go_num, by rw [HTK.out]; exact HO2.out, HB2.out⟩
      case measure => simp [intOf]; omega
    · have hke : k = l.length := by omega
      have HKE := Lib.hid hke
      have hge : l.length ≤ k := by omega
      clear hlt hk hke
      have hown : wr.ownsRow w.heap.size 5 1 u5 (tb :: encP l).length (bs (tb :: encP l)) := by
        have := hh.out.1
        rwa [HKE.out, List.take_of_length_le (Nat.le_refl _)] at this
      have HOWN := Lib.hid hown
      clear hown
      go_wp2
      go_ret
      exact ⟨_, rfl, HOWN.out, hh.out.2⟩
end Go.Proofs.YtgabmipakocheaaDoor
