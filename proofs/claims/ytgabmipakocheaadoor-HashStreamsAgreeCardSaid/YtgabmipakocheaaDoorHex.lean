/-
  scoriaref02.Bytes32, scoriaref02.Text, scorialaw02.hex.
-/
import Derived.Test.YtgabmipakocheaaDoorHSum
import Derived.Deep.RegionLaw
namespace Go.Proofs.YtgabmipakocheaaDoor
open Go.RowKit

set_option maxRecDepth 100000 in
set_option maxHeartbeats 1000000 in
theorem bytes32 (x : List UInt8) (hx : x.length = 32) (w : World) :
    Calls Tryd.prog 20 #[.agg (bs x).toArray] w fun e w' => e = .returned (.string (str x)) ∧ Below w.heap.size w w' := by
  obtain ⟨i0, hi, hz0, hz1, hz2⟩ := info_parts Tryd.info5
  have HX := Lib.hid hx
  clear hx
  go_enter Tryd.func20, Tryd.ntmps20
  go_wp2
  go_loopw [3, 4] (fun a v wr => ∃ i : Nat, i ≤ 32 ∧ v = .int .i64 i ∧ Hid (wr.ownsRow (w.heap.size + 1) 5 1 a (x.take i).length (bs (x.take i)) ∧ Blk wr w.heap.size 24 (bs x).toArray ∧ Below w.heap.size w wr)) (fun _ v _ => 32 - (intOf v).toNat)
  case atStart => exact ⟨0, by omega, rfl, World.ownsRow_nil _ _ _ _, Blk.new w 24 _, below_new _ _⟩
  case round =>
    obtain ⟨i, hi32, rfl, hh⟩ := hrel
    have hs4 := hh.out.2.1.lt
    by_cases hlt : i < 32
    · have hix : i < x.length := by have := HX.out; omega
      obtain ⟨b, hb⟩ : ∃ b, b = x[i] := ⟨_, rfl⟩
      have hc1 : wr.cell? ⟨w.heap.size, i, none⟩ = some (.int .u8 (b.toNat : Int)) := (Blk.cell hh.out.2.1 i).trans (by rw [hb]; simpa using bs_get x i hix)
      have HS : Hid (x.take (i + 1) = x.take i ++ [b]) := by
        rw [hb]; exact List.take_succ_eq_append_getElem hix
      have hpl : (x.take i).length ≤ 32 := by rw [List.length_take]; omega
      clear hb
      go_wp2_with (at_builtin; refine wpList_append_own _ rfl (.tmp 9) (.tmp 13) 22 rfl (w.heap.size + 1) 5 i0 (.int .u8 0) 1 1 Tryd.underlying22 hi hz0 hz1 hz2 rfl (by decide) _ _ _ rfl (hh.out.1.alloc _) ⟨wr.heap.size, 0, none⟩ 1 1 [.int .u8 (b.toNat : Int)] rfl rfl (one_new _ _ _) (int_one _ _) (len_le (by omega)) (by omega) (by simp; omega) ?_; intro v4 w4 hown4 hgrow4 _; have HO4 := Lib.hid hown4; have HG4 := Lib.hid hgrow4; clear hown4 hgrow4)
      go_roundw
      case rel =>
        refine ⟨i + 1, by omega, by go_num, by rw [HS.out]; exact own_push HO4.out rfl, ?_, (hh.out.2.2.alloc (by omega) _).grown HG4.out (by simp; omega) (fun k hk => by have := (hh.out.1.lt k hk).1; omega)⟩
        exact (hh.out.2.1.alloc _).grown HG4.out (fun e => by have := (hh.out.1.lt _ e.symm).1; omega)
      case measure => simp [intOf]; omega
    · have hie : i = 32 := by omega
      have HI := Lib.hid hie
      have hge : 32 ≤ i := by omega
      clear hlt hi32 hie
      have hown : wr.ownsRow (w.heap.size + 1) 5 1 u3 x.length (bs x) := by
        have := hh.out.1
        rwa [HI.out, List.take_of_length_le (by rw [HX.out]; exact Nat.le_refl _)] at this
      obtain ⟨A, c, hv, _⟩ := own_len hown
      subst hv
      have hcv := conv_str (c := c) (Reads.of_own hown)
      clear hown
      go_wp2
      go_ret
      exact ⟨rfl, hh.out.2.2⟩
set_option maxRecDepth 100000 in
set_option maxHeartbeats 1000000 in
theorem text16 (x : List UInt8) (hx : x.length = 16) (w : World) :
    Calls Tryd.prog 26 #[.agg (bs x).toArray] w fun e w' => e = .returned (.string (str x)) ∧ Below w.heap.size w w' := by
  obtain ⟨i0, hi, hz0, hz1, hz2⟩ := info_parts Tryd.info5
  have HX := Lib.hid hx
  clear hx
  go_enter Tryd.func26, Tryd.ntmps26
  go_wp2
  go_loopw [3, 4] (fun a v wr => ∃ i : Nat, i ≤ 16 ∧ v = .int .i64 i ∧ Hid (wr.ownsRow (w.heap.size + 1) 5 1 a (x.take i).length (bs (x.take i)) ∧ Blk wr w.heap.size 44 (bs x).toArray ∧ Below w.heap.size w wr)) (fun _ v _ => 16 - (intOf v).toNat)
  case atStart => exact ⟨0, by omega, rfl, World.ownsRow_nil _ _ _ _, Blk.new w 44 _, below_new _ _⟩
  case round =>
    obtain ⟨i, hi16, rfl, hh⟩ := hrel
    have hs4 := hh.out.2.1.lt
    by_cases hlt : i < 16
    · have hix : i < x.length := by have := HX.out; omega
      obtain ⟨b, hb⟩ : ∃ b, b = x[i] := ⟨_, rfl⟩
      have hc1 : wr.cell? ⟨w.heap.size, i, none⟩ = some (.int .u8 (b.toNat : Int)) := (Blk.cell hh.out.2.1 i).trans (by rw [hb]; simpa using bs_get x i hix)
      have HS : Hid (x.take (i + 1) = x.take i ++ [b]) := by
        rw [hb]; exact List.take_succ_eq_append_getElem hix
      have hpl : (x.take i).length ≤ 16 := by rw [List.length_take]; omega
      clear hb
      go_wp2_with (at_builtin; refine wpList_append_own _ rfl (.tmp 9) (.tmp 13) 22 rfl (w.heap.size + 1) 5 i0 (.int .u8 0) 1 1 Tryd.underlying22 hi hz0 hz1 hz2 rfl (by decide) _ _ _ rfl (hh.out.1.alloc _) ⟨wr.heap.size, 0, none⟩ 1 1 [.int .u8 (b.toNat : Int)] rfl rfl (one_new _ _ _) (int_one _ _) (len_le (by omega)) (by omega) (by simp; omega) ?_; intro v4 w4 hown4 hgrow4 _; have HO4 := Lib.hid hown4; have HG4 := Lib.hid hgrow4; clear hown4 hgrow4)
      go_roundw
      case rel =>
        refine ⟨i + 1, by omega, by go_num, by rw [HS.out]; exact own_push HO4.out rfl, ?_, (hh.out.2.2.alloc (by omega) _).grown HG4.out (by simp; omega) (fun k hk => by have := (hh.out.1.lt k hk).1; omega)⟩
        exact (hh.out.2.1.alloc _).grown HG4.out (fun e => by have := (hh.out.1.lt _ e.symm).1; omega)
      case measure => simp [intOf]; omega
    · have hie : i = 16 := by omega
      have HI := Lib.hid hie
      have hge : 16 ≤ i := by omega
      clear hlt hi16 hie
      have hown : wr.ownsRow (w.heap.size + 1) 5 1 u3 x.length (bs x) := by
        have := hh.out.1
        rwa [HI.out, List.take_of_length_le (by rw [HX.out]; exact Nat.le_refl _)] at this
      obtain ⟨A, c, hv, _⟩ := own_len hown
      subst hv
      have hcv := conv_str (c := c) (Reads.of_own hown)
      clear hown
      go_wp2
      go_ret
      exact ⟨rfl, hh.out.2.2⟩

/-- The digits of a byte string. -/
def hexD (n : Nat) : UInt8 := if n < 10 then UInt8.ofNat (48 + n) else UInt8.ofNat (87 + n)
def hexB (l : List UInt8) : List UInt8 := l.flatMap fun c => [hexD (c.toNat / 16), hexD (c.toNat % 16)]
theorem hexB_succ (l : List UInt8) (k : Nat) (h : k < l.length) : hexB (l.take (k + 1)) = hexB (l.take k) ++ [hexD (l[k].toNat / 16), hexD (l[k].toNat % 16)] := by
  unfold hexB
  rw [List.take_succ_eq_append_getElem h, List.flatMap_append]; simp
theorem hexB_length (l : List UInt8) : (hexB l).length = 2 * l.length := by
  induction l with
  | nil => rfl
  | cons c l ih =>
    have : hexB (c :: l) = [hexD (c.toNat / 16), hexD (c.toNat % 16)] ++ hexB l := rfl
    rw [this, List.length_append, ih]; simp; omega
theorem index_str (W : World) (s : ByteArray) (k : IntKind) (n : Nat) (c : UInt8) (h : s.data[n]? = some c) :
    (Instr.index 9 (.string s) (.int k (n : Int))).run Tryd.prog W = .ok (.int .u8 (c.toNat : Int)) W := by
  have h2 : s[n]? = some c := h
  have c1 : (0 : Int) ≤ n := by omega
  simp only [Instr.index, asIntOf, Sem.run_bind, Sem.run_pure, Result.andThen_ok, run_underlying Tryd.underlying9]
  rw [if_pos c1]
  simp [h2]
theorem dig_at : ∀ n : Nat, n < 16 → (#[48, 49, 50, 51, 52, 53, 54, 55, 56, 57, 97, 98, 99, 100, 101, 102] : Array UInt8)[n]? = some (hexD n)
  | 0, _ => rfl
  | 1, _ => rfl
  | 2, _ => rfl
  | 3, _ => rfl
  | 4, _ => rfl
  | 5, _ => rfl
  | 6, _ => rfl
  | 7, _ => rfl
  | 8, _ => rfl
  | 9, _ => rfl
  | 10, _ => rfl
  | 11, _ => rfl
  | 12, _ => rfl
  | 13, _ => rfl
  | 14, _ => rfl
  | 15, _ => rfl
  | n + 16, h => by omega
theorem get_dig (n k : Nat) (hn : n = k) (hk : k < 16) (h : n < (⟨#[48, 49, 50, 51, 52, 53, 54, 55, 56, 57, 97, 98, 99, 100, 101, 102]⟩ : ByteArray).size) : (⟨#[48, 49, 50, 51, 52, 53, 54, 55, 56, 57, 97, 98, 99, 100, 101, 102]⟩ : ByteArray)[n]'h = hexD k := by
  subst hn
  have h1 := dig_at n hk
  rw [Array.getElem?_eq_getElem h] at h1
  exact Option.some.inj h1
theorem dig_index (n : Nat) (h : n < 16) (W : World) :
    (Instr.index 9 (.string ⟨#[48, 49, 50, 51, 52, 53, 54, 55, 56, 57, 97, 98, 99, 100, 101, 102]⟩) (.int .u8 (n : Int))).run Tryd.prog W = .ok (.int .u8 ((hexD n).toNat : Int)) W :=
  index_str W ⟨#[48, 49, 50, 51, 52, 53, 54, 55, 56, 57, 97, 98, 99, 100, 101, 102]⟩ .u8 n _ (dig_at n h)
theorem two_reads {w : World} {a b : UInt8} : Reads (w.alloc (.cells #[.int .u8 (a.toNat : Int), .int .u8 (b.toNat : Int)] 5)) (w.heap.size + 1) 1 (some ⟨w.heap.size, 0, none⟩) 2 (bs [a, b]) :=
  ⟨rfl, fun _ => ⟨_, rfl, by simp, fun j u hu => cells_new w (bs [a, b]) 5 j u hu⟩⟩

set_option maxRecDepth 100000 in
set_option maxHeartbeats 1000000 in
theorem hex (s : ByteArray) (hs : s.size ≤ 1000000) (w : World) :
    Calls Tryd.prog 25 #[.string s] w fun e w' => e = .returned (.string (str (hexB s.data.toList))) ∧ Below w.heap.size w w' := by
  obtain ⟨i0, hi, hz0, hz1, hz2⟩ := info_parts Tryd.info5
  have hsz : s.data.toList.length = s.size := by rw [Array.length_toList]; rfl
  have HSZ := Lib.hid hsz
  clear hsz
  go_enter Tryd.func25, Tryd.ntmps25
  go_wp2
  go_loopw [4, 5] (fun a v wr => ∃ i : Nat, i ≤ s.size ∧ v = .int .i64 i ∧ Hid (wr.ownsRow w.heap.size 5 1 a (hexB (s.data.toList.take i)).length (bs (hexB (s.data.toList.take i))) ∧ Below w.heap.size w wr)) (fun _ v _ => s.size - (intOf v).toNat)
  case atStart => exact ⟨0, by omega, rfl, World.ownsRow_nil _ _ _ _, Below.refl _ _⟩
  case round =>
    obtain ⟨i, hi32, rfl, hh⟩ := hrel
    have hs4 := hh.out.2.size
    by_cases hlt : i < s.size
    · obtain ⟨c, hc⟩ : ∃ c, c = s[i] := ⟨_, rfl⟩
      have hcl : c = s.data.toList[i]'(by rw [HSZ.out]; exact hlt) := by rw [hc]; rfl
      have HS : Hid (hexB (s.data.toList.take (i + 1)) = hexB (s.data.toList.take i) ++ [hexD (c.toNat / 16), hexD (c.toNat % 16)]) := by
        rw [hcl]; exact hexB_succ _ _ _
      have hpl : (hexB (s.data.toList.take i)).length ≤ 2000000 := by rw [hexB_length, List.length_take, HSZ.out]; omega
      have hc255 := s[i].toNat_lt
      have q1 : IntKind.u8.wrap ((s[i].toNat : Int) / 16) = (s[i].toNat : Int) / 16 := by rw [IntKind.wrap_u8]; omega
      have p1 : (0 : Int) ≤ (s[i].toNat : Int) / 16 := by omega
      have p2 : (s[i].toNat : Int) / 16 < 16 := by omega
      have p3 : (0 : Int) ≤ (s[i].toNat : Int).tmod 16 := by rw [Int.tmod_eq_emod_of_nonneg (by omega)]; omega
      have p4 : (s[i].toNat : Int).tmod 16 < 16 := by rw [Int.tmod_eq_emod_of_nonneg (by omega)]; omega
      clear hcl
      go_wp2
      go_region_law (refine step_append_any _ rfl (.tmp 12) (.tmp 25) 22 rfl w.heap.size 5 i0 (.int .u8 0) 1 1 Tryd.underlying22 hi hz0 hz1 hz2 rfl (by omega) _ _ _ rfl (hh.out.1.drew.alloc _) (wr.heap.size + 1) (some ⟨wr.heap.size, 0, none⟩) 2 2 _ rfl two_reads (bs_one _) (len_le (by omega)) (by omega) (by simp; omega) ?_; intro v4 w4 hown4 hgrow4 _; have HO4 := Lib.hid hown4; have HG4 := Lib.hid hgrow4; clear hown4 hgrow4)
      all_goals
        go_wp2
        go_roundw
        case rel =>
          refine ⟨i + 1, by omega, by go_num, own_next HO4.out ?_, ((hh.out.2.drew).alloc (by simp; omega) _).grown HG4.out (by simp; omega) (fun k hk => (hh.out.1.lt k hk).1)⟩
          rw [HS.out, hc]
          congr 2
          · exact (get_dig _ (s[i].toNat / 16) (by omega) (by omega) _).symm
          · congr 1
            exact (get_dig _ (s[i].toNat % 16) (by rw [Int.tmod_eq_emod_of_nonneg (by omega)]; omega) (by omega) _).symm
        case measure => simp [intOf]; omega
    · have hie : i = s.size := by omega
      have HI := Lib.hid hie
      have hge : s.size ≤ i := by omega
      clear hlt hi32 hie
      have hown : wr.ownsRow w.heap.size 5 1 u4 (hexB s.data.toList).length (bs (hexB s.data.toList)) := by
        have := hh.out.1
        rwa [HI.out, List.take_of_length_le (by rw [HSZ.out]; exact Nat.le_refl _)] at this
      obtain ⟨A, c, hv, _⟩ := own_len hown
      subst hv
      have hcv := conv_str (c := c) (Reads.of_own hown)
      clear hown
      go_wp2
      go_ret
      exact ⟨rfl, hh.out.2⟩
end Go.Proofs.YtgabmipakocheaaDoor
