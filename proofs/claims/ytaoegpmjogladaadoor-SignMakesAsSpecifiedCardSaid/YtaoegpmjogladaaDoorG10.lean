/-
  scoriaref02.Bytes32, scoriaref02.Text, scorialaw02.hex.
-/
import Derived.Test.YtaoegpmjogladaaDoorG05
import Derived.Deep.RegionLaw
import Derived.Test.YtaoegpmjogladaaDoorG02
import Derived.Test.YtaoegpmjogladaaDoorG03
import Derived.ChangeKeysEq
import Derived.Test.YtaoegpmjogladaaDoorG09
import Derived.Lib.SlBytesConst
namespace Go.Proofs.YtaoegpmjogladaaDoor
open Go.RowKit

set_option maxRecDepth 100000 in
set_option maxHeartbeats 1000000 in
theorem bytes32 (x : List UInt8) (hx : x.length = 32) (w : World) :
    Calls Tryd.prog 33 #[.agg (bs x).toArray] w fun e w' => e = .returned (.string (str x)) ∧ Below w.heap.size w w' := by
  obtain ⟨i0, hi, hz0, hz1, hz2⟩ := info_parts Tryd.info5
  have HX := Lib.hid hx
  clear hx
  go_enter Tryd.func33, Tryd.ntmps33
  go_wp2
  go_loopw [3, 4] (fun a v wr => ∃ i : Nat, i ≤ 32 ∧ v = .int .i64 i ∧ Hid (wr.ownsRow (w.heap.size + 1) 5 1 a (x.take i).length (bs (x.take i)) ∧ Blk wr w.heap.size 31 (bs x).toArray ∧ Below w.heap.size w wr)) (fun _ v _ => 32 - (intOf v).toNat)
  case atStart => exact ⟨0, by omega, rfl, World.ownsRow_nil _ _ _ _, Blk.new w 31 _, below_new _ _⟩
  case round =>
    obtain ⟨i, hi32, rfl, hh⟩ := hrel
    have hs4 := hh.out.2.1.lt
    by_cases hlt : i < 32
    · have hix : i < x.length := by have := HX.out; omega
      obtain ⟨b, hb⟩ : ∃ b, b = x[i] := ⟨_, rfl⟩
      have hc1 : wr.cell? ⟨w.heap.size, i, none⟩ = some (.int .u8 (b.toNat : Int)) := (Blk.cell hh.out.2.1 i).trans (by rw [hb]; simpa using bs_get x i hix)
      have HS : Hid (x.take (i + 1) = x.take i ++ [b]) := by
        rw [hb]; exact List.take_succ_eq_append_getElem hix
      have hpl : (x.take i).length ≤ 32 := by rw [List.length_take]; omega
      clear hb
      go_wp2_with (at_builtin; refine wpList_append_own _ rfl (.tmp 9) (.tmp 13) 26 rfl (w.heap.size + 1) 5 i0 (.int .u8 0) 1 1 Tryd.underlying26 hi hz0 hz1 hz2 rfl (by decide) _ _ _ rfl (hh.out.1.alloc _) ⟨wr.heap.size, 0, none⟩ 1 1 [.int .u8 (b.toNat : Int)] rfl rfl (one_new _ _ _) (int_one _ _) (len_le (by omega)) (by omega) (by simp; omega) ?_; intro v4 w4 hown4 hgrow4 _; have HO4 := Lib.hid hown4; have HG4 := Lib.hid hgrow4; clear hown4 hgrow4)
      go_roundw
      case rel =>
        refine ⟨i + 1, by omega, by go_num, by rw [HS.out]; exact own_push HO4.out rfl, ?_, (hh.out.2.2.alloc (by omega) _).grown HG4.out (by simp; omega) (fun k hk => by have := (hh.out.1.lt k hk).1; omega)⟩
        exact (hh.out.2.1.alloc _).grown HG4.out (fun e => by have := (hh.out.1.lt _ e.symm).1; omega)
      case measure => simp [intOf]; omega
    · have hie : i = 32 := by omega
      have HI := Lib.hid hie
      have hge : 32 ≤ i := by omega
      clear hlt hi32 hie
      have hown : wr.ownsRow (w.heap.size + 1) 5 1 u3 x.length (bs x) := by
        have := hh.out.1
        rwa [HI.out, List.take_of_length_le (by rw [HX.out]; exact Nat.le_refl _)] at this
      obtain ⟨A, c, hv, _⟩ := own_len hown
      subst hv
      have hcv := conv_str (c := c) (Reads.of_own hown)
      clear hown
      go_wp2
      go_ret
      exact ⟨rfl, hh.out.2.2⟩
set_option maxRecDepth 100000 in
set_option maxHeartbeats 1000000 in
theorem text16 (x : List UInt8) (hx : x.length = 16) (w : World) :
    Calls Tryd.prog 34 #[.agg (bs x).toArray] w fun e w' => e = .returned (.string (str x)) ∧ Below w.heap.size w w' := by
  obtain ⟨i0, hi, hz0, hz1, hz2⟩ := info_parts Tryd.info5
  have HX := Lib.hid hx
  clear hx
  go_enter Tryd.func34, Tryd.ntmps34
  go_wp2
  go_loopw [3, 4] (fun a v wr => ∃ i : Nat, i ≤ 16 ∧ v = .int .i64 i ∧ Hid (wr.ownsRow (w.heap.size + 1) 5 1 a (x.take i).length (bs (x.take i)) ∧ Blk wr w.heap.size 29 (bs x).toArray ∧ Below w.heap.size w wr)) (fun _ v _ => 16 - (intOf v).toNat)
  case atStart => exact ⟨0, by omega, rfl, World.ownsRow_nil _ _ _ _, Blk.new w 29 _, below_new _ _⟩
  case round =>
    obtain ⟨i, hi16, rfl, hh⟩ := hrel
    have hs4 := hh.out.2.1.lt
    by_cases hlt : i < 16
    · have hix : i < x.length := by have := HX.out; omega
      obtain ⟨b, hb⟩ : ∃ b, b = x[i] := ⟨_, rfl⟩
      have hc1 : wr.cell? ⟨w.heap.size, i, none⟩ = some (.int .u8 (b.toNat : Int)) := (Blk.cell hh.out.2.1 i).trans (by rw [hb]; simpa using bs_get x i hix)
      have HS : Hid (x.take (i + 1) = x.take i ++ [b]) := by
        rw [hb]; exact List.take_succ_eq_append_getElem hix
      have hpl : (x.take i).length ≤ 16 := by rw [List.length_take]; omega
      clear hb
      go_wp2_with (at_builtin; refine wpList_append_own _ rfl (.tmp 9) (.tmp 13) 26 rfl (w.heap.size + 1) 5 i0 (.int .u8 0) 1 1 Tryd.underlying26 hi hz0 hz1 hz2 rfl (by decide) _ _ _ rfl (hh.out.1.alloc _) ⟨wr.heap.size, 0, none⟩ 1 1 [.int .u8 (b.toNat : Int)] rfl rfl (one_new _ _ _) (int_one _ _) (len_le (by omega)) (by omega) (by simp; omega) ?_; intro v4 w4 hown4 hgrow4 _; have HO4 := Lib.hid hown4; have HG4 := Lib.hid hgrow4; clear hown4 hgrow4)
      go_roundw
      case rel =>
        refine ⟨i + 1, by omega, by go_num, by rw [HS.out]; exact own_push HO4.out rfl, ?_, (hh.out.2.2.alloc (by omega) _).grown HG4.out (by simp; omega) (fun k hk => by have := (hh.out.1.lt k hk).1; omega)⟩
        exact (hh.out.2.1.alloc _).grown HG4.out (fun e => by have := (hh.out.1.lt _ e.symm).1; omega)
      case measure => simp [intOf]; omega
    · have hie : i = 16 := by omega
      have HI := Lib.hid hie
      have hge : 16 ≤ i := by omega
      clear hlt hi16 hie
      have hown : wr.ownsRow (w.heap.size + 1) 5 1 u3 x.length (bs x) := by
        have := hh.out.1
        rwa [HI.out, List.take_of_length_le (by rw [HX.out]; exact Nat.le_refl _)] at this
      obtain ⟨A, c, hv, _⟩ := own_len hown
      subst hv
      have hcv := conv_str (c := c) (Reads.of_own hown)
      clear hown
      go_wp2
      go_ret
      exact ⟨rfl, hh.out.2.2⟩

/-- The digits of a byte string. -/
def hexD (n : Nat) : UInt8 := if n < 10 then UInt8.ofNat (48 + n) else UInt8.ofNat (87 + n)
def hexB (l : List UInt8) : List UInt8 := l.flatMap fun c => [hexD (c.toNat / 16), hexD (c.toNat % 16)]
theorem hexB_succ (l : List UInt8) (k : Nat) (h : k < l.length) : hexB (l.take (k + 1)) = hexB (l.take k) ++ [hexD (l[k].toNat / 16), hexD (l[k].toNat % 16)] := by
  unfold hexB
  rw [List.take_succ_eq_append_getElem h, List.flatMap_append]; simp
theorem hexB_length (l : List UInt8) : (hexB l).length = 2 * l.length := by
  induction l with
  | nil => rfl
  | cons c l ih =>
    have : hexB (c :: l) = [hexD (c.toNat / 16), hexD (c.toNat % 16)] ++ hexB l := rfl
    rw [this, List.length_append, ih]; simp; omega
theorem index_str (W : World) (s : ByteArray) (k : IntKind) (n : Nat) (c : UInt8) (h : s.data[n]? = some c) :
    (Instr.index 9 (.string s) (.int k (n : Int))).run Tryd.prog W = .ok (.int .u8 (c.toNat : Int)) W := by
  have h2 : s[n]? = some c := h
  have c1 : (0 : Int) ≤ n := by omega
  simp only [Instr.index, asIntOf, Sem.run_bind, Sem.run_pure, Result.andThen_ok, run_underlying Tryd.underlying9]
  rw [if_pos c1]
  simp [h2]
theorem dig_at : ∀ n : Nat, n < 16 → (#[48, 49, 50, 51, 52, 53, 54, 55, 56, 57, 97, 98, 99, 100, 101, 102] : Array UInt8)[n]? = some (hexD n)
  | 0, _ => rfl
  | 1, _ => rfl
  | 2, _ => rfl
  | 3, _ => rfl
  | 4, _ => rfl
  | 5, _ => rfl
  | 6, _ => rfl
  | 7, _ => rfl
  | 8, _ => rfl
  | 9, _ => rfl
  | 10, _ => rfl
  | 11, _ => rfl
  | 12, _ => rfl
  | 13, _ => rfl
  | 14, _ => rfl
  | 15, _ => rfl
  | n + 16, h => by omega
theorem get_dig (n k : Nat) (hn : n = k) (hk : k < 16) (h : n < (⟨#[48, 49, 50, 51, 52, 53, 54, 55, 56, 57, 97, 98, 99, 100, 101, 102]⟩ : ByteArray).size) : (⟨#[48, 49, 50, 51, 52, 53, 54, 55, 56, 57, 97, 98, 99, 100, 101, 102]⟩ : ByteArray)[n]'h = hexD k := by
  subst hn
  have h1 := dig_at n hk
  rw [Array.getElem?_eq_getElem h] at h1
  exact Option.some.inj h1
theorem dig_index (n : Nat) (h : n < 16) (W : World) :
    (Instr.index 9 (.string ⟨#[48, 49, 50, 51, 52, 53, 54, 55, 56, 57, 97, 98, 99, 100, 101, 102]⟩) (.int .u8 (n : Int))).run Tryd.prog W = .ok (.int .u8 ((hexD n).toNat : Int)) W :=
  index_str W ⟨#[48, 49, 50, 51, 52, 53, 54, 55, 56, 57, 97, 98, 99, 100, 101, 102]⟩ .u8 n _ (dig_at n h)
theorem two_reads {w : World} {a b : UInt8} : Reads (w.alloc (.cells #[.int .u8 (a.toNat : Int), .int .u8 (b.toNat : Int)] 5)) (w.heap.size + 1) 1 (some ⟨w.heap.size, 0, none⟩) 2 (bs [a, b]) :=
  ⟨rfl, fun _ => ⟨_, rfl, by simp, fun j u hu => cells_new w (bs [a, b]) 5 j u hu⟩⟩

set_option maxRecDepth 100000 in
set_option maxHeartbeats 1000000 in
theorem hex (s : ByteArray) (hs : s.size ≤ 1000000) (w : World) :
    Calls Tryd.prog 32 #[.string s] w fun e w' => e = .returned (.string (str (hexB s.data.toList))) ∧ Below w.heap.size w w' := by
  obtain ⟨i0, hi, hz0, hz1, hz2⟩ := info_parts Tryd.info5
  have hsz : s.data.toList.length = s.size := by rw [Array.length_toList]; rfl
  have HSZ := Lib.hid hsz
  clear hsz
  go_enter Tryd.func32, Tryd.ntmps32
  go_wp2
  go_loopw [4, 5] (fun a v wr => ∃ i : Nat, i ≤ s.size ∧ v = .int .i64 i ∧ Hid (wr.ownsRow w.heap.size 5 1 a (hexB (s.data.toList.take i)).length (bs (hexB (s.data.toList.take i))) ∧ Below w.heap.size w wr)) (fun _ v _ => s.size - (intOf v).toNat)
  case atStart => exact ⟨0, by omega, rfl, World.ownsRow_nil _ _ _ _, Below.refl _ _⟩
  case round =>
    obtain ⟨i, hi32, rfl, hh⟩ := hrel
    have hs4 := hh.out.2.size
    by_cases hlt : i < s.size
    · obtain ⟨c, hc⟩ : ∃ c, c = s[i] := ⟨_, rfl⟩
      have hcl : c = s.data.toList[i]'(by rw [HSZ.out]; exact hlt) := by rw [hc]; rfl
      have HS : Hid (hexB (s.data.toList.take (i + 1)) = hexB (s.data.toList.take i) ++ [hexD (c.toNat / 16), hexD (c.toNat % 16)]) := by
        rw [hcl]; exact hexB_succ _ _ _
      have hpl : (hexB (s.data.toList.take i)).length ≤ 2000000 := by rw [hexB_length, List.length_take, HSZ.out]; omega
      have hc255 := s[i].toNat_lt
      have q1 : IntKind.u8.wrap ((s[i].toNat : Int) / 16) = (s[i].toNat : Int) / 16 := by rw [IntKind.wrap_u8]; omega
      have p1 : (0 : Int) ≤ (s[i].toNat : Int) / 16 := by omega
      have p2 : (s[i].toNat : Int) / 16 < 16 := by omega
      have p3 : (0 : Int) ≤ (s[i].toNat : Int).tmod 16 := by rw [Int.tmod_eq_emod_of_nonneg (by omega)]; omega
      have p4 : (s[i].toNat : Int).tmod 16 < 16 := by rw [Int.tmod_eq_emod_of_nonneg (by omega)]; omega
      clear hcl
      go_wp2
      go_region_law (refine step_append_any _ rfl (.tmp 12) (.tmp 25) 26 rfl w.heap.size 5 i0 (.int .u8 0) 1 1 Tryd.underlying26 hi hz0 hz1 hz2 rfl (by omega) _ _ _ rfl (hh.out.1.drew.alloc _) (wr.heap.size + 1) (some ⟨wr.heap.size, 0, none⟩) 2 2 _ rfl two_reads (bs_one _) (len_le (by omega)) (by omega) (by simp; omega) ?_; intro v4 w4 hown4 hgrow4 _; have HO4 := Lib.hid hown4; have HG4 := Lib.hid hgrow4; clear hown4 hgrow4)
      all_goals
        go_wp2
        go_roundw
        case rel =>
          refine ⟨i + 1, by omega, by go_num, own_next HO4.out ?_, ((hh.out.2.drew).alloc (by simp; omega) _).grown HG4.out (by simp; omega) (fun k hk => (hh.out.1.lt k hk).1)⟩
          rw [HS.out, hc]
          congr 2
          · exact (get_dig _ (s[i].toNat / 16) (by omega) (by omega) _).symm
          · congr 1
            exact (get_dig _ (s[i].toNat % 16) (by rw [Int.tmod_eq_emod_of_nonneg (by omega)]; omega) (by omega) _).symm
        case measure => simp [intOf]; omega
    · have hie : i = s.size := by omega
      have HI := Lib.hid hie
      have hge : s.size ≤ i := by omega
      clear hlt hi32 hie
      have hown : wr.ownsRow w.heap.size 5 1 u4 (hexB s.data.toList).length (bs (hexB s.data.toList)) := by
        have := hh.out.1
        rwa [HI.out, List.take_of_length_le (by rw [HSZ.out]; exact Nat.le_refl _)] at this
      obtain ⟨A, c, hv, _⟩ := own_len hown
      subst hv
      have hcv := conv_str (c := c) (Reads.of_own hown)
      clear hown
      go_wp2
      go_ret
      exact ⟨rfl, hh.out.2⟩
end Go.Proofs.YtaoegpmjogladaaDoor

/-
  hash.Equal.
-/
namespace Go.Proofs.YtaoegpmjogladaaDoor
open Go.RowKit

/-- The first k bytes are the same exactly if d is 0. -/
def Alike (a b : ByteArray) (k d : Nat) : Prop := d < 256 ∧ (d = 0 ↔ ∀ i (h1 : i < a.size) (h2 : i < b.size), i < k → a[i] = b[i])
theorem or_zero (a b : Nat) : a ||| b = 0 ↔ a = 0 ∧ b = 0 := by
  constructor
  · intro h
    constructor
    · have h1 : a ≤ a ||| b := Nat.left_le_or
      omega
    · have h1 : b ≤ a ||| b := Nat.right_le_or
      omega
  · rintro ⟨rfl, rfl⟩; rfl
theorem xor_zero (a b : Nat) : a ^^^ b = 0 ↔ a = b := by
  constructor
  · intro h
    have : (a ^^^ b) ^^^ b = 0 ^^^ b := by rw [h]
    rwa [Nat.xor_assoc, Nat.xor_self, Nat.xor_zero, Nat.zero_xor] at this
  · rintro rfl; exact Nat.xor_self a
theorem Alike.step {a b : ByteArray} {k d : Nat} (h : Alike a b k d) (h1 : k < a.size) (h2 : k < b.size) : Alike a b (k + 1) (d ||| (a[k].toNat ^^^ b[k].toNat)) := by
  have ha := a[k].toNat_lt
  have hb := b[k].toNat_lt
  refine ⟨Nat.or_lt_two_pow (n := 8) h.1 (Nat.xor_lt_two_pow (by omega) (by omega)), ?_⟩
  rw [or_zero, xor_zero, h.2]
  constructor
  · rintro ⟨h3, h4⟩ i g1 g2 hi
    by_cases hik : i = k
    · subst hik; exact UInt8.toNat_inj.1 h4
    · exact h3 i g1 g2 (by omega)
  · intro h3
    exact ⟨fun i g1 g2 hi => h3 i g1 g2 (by omega), by rw [h3 k h1 h2 (by omega)]⟩
theorem alike_val {a b : UInt8} {d : Nat} (hd : d < 256) : bits .or .u8 (d : Int) (bits .xor .u8 (a.toNat : Int) (b.toNat : Int)) = ((d ||| (a.toNat ^^^ b.toNat) : Nat) : Int) := by
  have ha := a.toNat_lt
  have hb := b.toNat_lt
  rw [u8_xor_nat _ _ ha hb, u8_or_nat _ _ hd (Nat.xor_lt_two_pow (n := 8) (by omega) (by omega))]
theorem Alike.done {a b : ByteArray} {d : Nat} (hs : a.size = b.size) (h : Alike a b a.size d) : (d = 0) ↔ a = b := by
  rw [h.2]
  constructor
  · intro h3
    exact ByteArray.ext_getElem hs fun i g1 g2 => h3 i g1 g2 g1
  · rintro rfl i g1 g2 _; rfl

set_option maxHeartbeats 1000000 in
theorem equal (a b : ByteArray) (w : World) (ha : a.size ≤ 140737488355328) (hb : b.size ≤ 140737488355328) :
    Calls Tryd.prog 31 #[.string a, .string b] w fun e w' => e = .returned (.bool (decide (a = b))) ∧ ∃ m, w' = w.drewN m := by
  by_cases hs : a.size = b.size
  · have HS := Lib.hid hs
    have h1 : ((a.size : Int) != (b.size : Int)) = false := by simp [hs]
    have hab : a.size ≤ b.size := by omega
    clear hs
    go_enter Tryd.func31, Tryd.ntmps31
    go_wp2
    go_loopw [5, 14] (fun d' i' wr => ∃ (k d : Nat), k ≤ a.size ∧ i' = .int .i64 k ∧ d' = .int .u8 d ∧ Hid (Alike a b k d ∧ ∃ m, wr = w.drewN m)) (fun _ i' _ => a.size - (intOf i').toNat)
    case atStart => exact ⟨0, 0, by omega, rfl, rfl, ⟨by omega, by simp⟩, 0, rfl⟩
    case round =>
      obtain ⟨k, d, hk, rfl, rfl, hh⟩ := hrel
      by_cases hlt : k < a.size
      · have hlb : k < b.size := by omega
        go_wp2
        go_quiet (fail)
        go_wp2
        go_roundw
        case rel =>
          obtain ⟨q, hq⟩ := hh.out.2
          exact ⟨k + 1, _, by omega, by go_num, by rw [alike_val hh.out.1.1], hh.out.1.step hlt hlb, q + nq, by rw [hq, World.drewN_drewN]⟩
        case measure => simp [intOf]; omega
      · go_wp2
        go_ret
        obtain rfl : k = a.size := by omega
        have hd := Alike.done HS.out hh.out.1
        refine ⟨?_, hh.out.2⟩
        show Ending.returned (Value.bool ((d : Int) == 0)) = _
        congr 2
        rw [Bool.eq_iff_iff]
        simp only [beq_iff_eq, decide_eq_true_eq]
        exact ⟨fun h => hd.1 (by omega), fun h => by have := hd.2 h; omega⟩
  · have h1 : ((a.size : Int) != (b.size : Int)) = true := by simp; omega
    have hne : a ≠ b := by rintro rfl; exact hs rfl
    have HN := Lib.hid hne
    clear hs hne
    go_enter Tryd.func31, Tryd.ntmps31
    go_wp2
    go_ret
    refine ⟨?_, 0, rfl⟩
    show Ending.returned (Value.bool false) = _
    congr 2
    exact (decide_eq_false HN.out).symm
end Go.Proofs.YtaoegpmjogladaaDoor

/-
  THE COMPARISON of arrays of bytes.
-/
namespace Go.Proofs.YtaoegpmjogladaaDoor
open Go.RowKit

theorem Tryd.plain5 : Tryd.prog.plainKey 5 = true := by kernel_rfl
theorem Tryd.cells5 : Tryd.prog.cellsOf 5 = 1 := by kernel_rfl
theorem eqItems_bytes (x y : List UInt8) (W : World) : ∀ is : List Nat, (∀ i ∈ is, i < x.length ∧ i < y.length) → (Op.eqItems 9999 5 1 (bs x).toArray (bs y).toArray is).run Tryd.prog W = .ok (is.all fun i => x[i]? == y[i]?) W := by
  intro is
  induction is with
  | nil => intro _; simp [Op.eqItems]
  | cons i is ih =>
    intro h
    obtain ⟨h1, h2⟩ := h i (by simp)
    have hg1 : (bs x).toArray[i * 1]? = some (.int .u8 (x[i].toNat : Int)) := by rw [Nat.mul_one]; simpa using bs_get x i h1
    have hg2 : (bs y).toArray[i * 1]? = some (.int .u8 (y[i].toNat : Int)) := by rw [Nat.mul_one]; simpa using bs_get y i h2
    have hp1 := run_part_plain (P := Tryd.prog) W Tryd.plain5 hg1
    have hp2 := run_part_plain (P := Tryd.prog) W Tryd.plain5 hg2
    have he := run_equalIn_int (P := Tryd.prog) W 9998 5 .u8 .u8 (x[i].toNat : Int) (y[i].toNat : Int) Tryd.underlying5
    have hxy : (x[i]? == y[i]?) = decide ((x[i].toNat : Int) = (y[i].toNat : Int)) := by
      rw [List.getElem?_eq_getElem h1, List.getElem?_eq_getElem h2, Bool.eq_iff_iff]
      simp only [beq_iff_eq, Option.some.injEq, decide_eq_true_eq]
      exact ⟨fun h => by rw [h], fun h => UInt8.toNat_inj.1 (by omega)⟩
    simp only [Op.eqItems, Sem.run_bind, hp1, hp2, Result.andThen_ok, he]
    by_cases heq : (x[i].toNat : Int) = (y[i].toNat : Int)
    · have hb : (x[i]? == y[i]?) = true := by rw [hxy]; simpa using heq
      rw [List.all_cons, hb]
      simpa [heq] using ih (fun j hj => h j (by simp [hj]))
    · have hb : (x[i]? == y[i]?) = false := by rw [hxy]; simpa using heq
      rw [List.all_cons, hb]
      simp [heq]
theorem all_eq (x y : List UInt8) (n : Nat) (hx : x.length = n) (hy : y.length = n) : ((List.range n).all fun i => x[i]? == y[i]?) = decide (x = y) := by
  rw [Bool.eq_iff_iff]
  simp only [List.all_eq_true, List.mem_range, beq_iff_eq, decide_eq_true_eq]
  constructor
  · intro h
    apply List.ext_getElem?
    intro i
    by_cases hi : i < n
    · exact h i hi
    · rw [List.getElem?_eq_none (by omega), List.getElem?_eq_none (by omega)]
  · rintro rfl i _; rfl
theorem eq24 (x y : List UInt8) (hx : x.length = 32) (hy : y.length = 32) (W : World) : (binOp .eql 31 (.agg (bs x).toArray) (.agg (bs y).toArray)).run Tryd.prog W = .ok (.bool (decide (x = y))) W := by
  obtain ⟨i0, hi, _⟩ := info_parts Tryd.info5
  have h1 := run_equalIn_array (P := Tryd.prog) (w := W) 9999 (bs x).toArray (bs y).toArray Tryd.underlying31 hi
  rw [Tryd.cells5, eqItems_bytes x y W _ (fun i hi => by rw [List.mem_range] at hi; omega), all_eq x y 32 hx hy] at h1
  simp only [binOp]
  simp [Op.equal, Op.maxDepth, h1]
theorem eq44 (x y : List UInt8) (hx : x.length = 16) (hy : y.length = 16) (W : World) : (binOp .eql 29 (.agg (bs x).toArray) (.agg (bs y).toArray)).run Tryd.prog W = .ok (.bool (decide (x = y))) W := by
  obtain ⟨i0, hi, _⟩ := info_parts Tryd.info5
  have h1 := run_equalIn_array (P := Tryd.prog) (w := W) 9999 (bs x).toArray (bs y).toArray Tryd.underlying29 hi
  rw [Tryd.cells5, eqItems_bytes x y W _ (fun i hi => by rw [List.mem_range] at hi; omega), all_eq x y 16 hx hy] at h1
  simp only [binOp]
  simp [Op.equal, Op.maxDepth, h1]
end Go.Proofs.YtaoegpmjogladaaDoor

/-
  The examples of the sanity check, computed by the kernel.
-/
namespace Go.Proofs.YtaoegpmjogladaaDoor
open Go.RowKit WM

theorem exAbc : str (hexB (sha [97, 98, 99])) = ⟨#[98, 97, 55, 56, 49, 54, 98, 102, 56, 102, 48, 49, 99, 102, 101, 97, 52, 49, 52, 49, 52, 48, 100, 101, 53, 100, 97, 101, 50, 50, 50, 51, 98, 48, 48, 51, 54, 49, 97, 51, 57, 54, 49, 55, 55, 97, 57, 99, 98, 52, 49, 48, 102, 102, 54, 49, 102, 50, 48, 48, 49, 53, 97, 100]⟩ := by kernel_rfl
theorem exMac : str (hexB (macB [74, 101, 102, 101] [119, 104, 97, 116, 32, 100, 111, 32, 121, 97, 32, 119, 97, 110, 116, 32, 102, 111, 114, 32, 110, 111, 116, 104, 105, 110, 103, 63])) = ⟨#[53, 98, 100, 99, 99, 49, 52, 54, 98, 102, 54, 48, 55, 53, 52, 101, 54, 97, 48, 52, 50, 52, 50, 54, 48, 56, 57, 53, 55, 53, 99, 55, 53, 97, 48, 48, 51, 102, 48, 56, 57, 100, 50, 55, 51, 57, 56, 51, 57, 100, 101, 99, 53, 56, 98, 57, 54, 52, 101, 99, 51, 56, 52, 51]⟩ := by kernel_rfl
theorem exIn : inputOf 8 [⟨#[97]⟩, ⟨#[]⟩] = [8, 129, 1, 97, 128] := by
  have e1 : enc 1 = [129, 1] := by rw [enc_pos (by omega)]; simp [digs]
  have e0 : enc 0 = [128] := by rw [enc_pos (by omega)]; simp [digs]
  have t8 : tagB 8 = 8 := by rfl
  unfold inputOf encP
  simp only [List.flatMap_cons, List.flatMap_nil, encB, t8]
  simp [e1, e0]
theorem exOf : str (hexB (ofB 8 [⟨#[97]⟩, ⟨#[]⟩])) = ⟨#[51, 54, 99, 100, 53, 48, 56, 53, 48, 51, 50, 57, 102, 56, 56, 52, 48, 54, 101, 51, 49, 98, 98, 56, 97, 55, 100, 56, 102, 98, 54, 50]⟩ := by
  unfold ofB
  rw [exIn]
  kernel_rfl
end Go.Proofs.YtaoegpmjogladaaDoor

/-
  The sanity check of the laws.
-/
namespace Go.Proofs.YtaoegpmjogladaaDoor
open Go.RowKit WM

theorem equal_true (a : ByteArray) (w : World) (ha : a.size ≤ 140737488355328) : Calls Tryd.prog 31 #[.string a, .string a] w fun e w' => e = .returned (.bool true) ∧ Below w.heap.size w w' :=
  (equal a a w ha ha).mono fun _ _ ⟨he, m, hm⟩ => ⟨by rw [he, decide_eq_true rfl], by rw [hm]; exact below_drewN (Below.refl _ _) m⟩
theorem equal_false (a b : ByteArray) (w : World) (ha : a.size ≤ 140737488355328) (hb : b.size ≤ 140737488355328) (h : a ≠ b) : Calls Tryd.prog 31 #[.string a, .string b] w fun e w' => e = .returned (.bool false) ∧ Below w.heap.size w w' :=
  (equal a b w ha hb).mono fun _ _ ⟨he, m, hm⟩ => ⟨by rw [he, decide_eq_false h], by rw [hm]; exact below_drewN (Below.refl _ _) m⟩
theorem lit_reads' (w : World) (xs : List Value) (cs : Array Value) (t : TypeId) (n : Nat) (h : xs.length = n) (hcs : cs = xs.toArray) : Reads (w.alloc (.cells cs t)) (w.alloc (.cells cs t)).heap.size 1 (some ⟨w.heap.size, 0, none⟩) n xs := by
  subst hcs
  exact ⟨by omega, fun _ => ⟨_, rfl, by simp, cells_new w xs t⟩⟩
theorem lit_reads_mark (w : World) (xs : List Value) (cs : Array Value) (t : TypeId) (n : Nat) (fr : Nat × Nat) (h : xs.length = n) (hcs : cs = xs.toArray) : Reads (w.alloc (.cells cs t fr)) (w.alloc (.cells cs t fr)).heap.size 1 (some ⟨w.heap.size, 0, none⟩) n xs := by
  subst hcs
  refine ⟨by omega, fun _ => ⟨_, rfl, by simp, fun j u hu => ?_⟩⟩
  have e : (⟨w.heap.size, 0, none⟩ : Addr).add j = ⟨w.heap.size, j, none⟩ := by unfold Addr.add; split <;> simp_all
  rw [e, World.cell?_alloc_mark]
  simpa using hu
theorem shut24 (v : Value) : Instr.loadAt 31 v = ldS 31 v := rfl
theorem shut44 (v : Value) : Instr.loadAt 29 v = ldS 29 v := rfl
theorem load24 {W : World} {g : Nat} {x : List UInt8} (hb : Blk W g 31 (bs x).toArray) (h0 : x.length = 32) : (ldS 31 (.pointer (some ⟨g, 0, none⟩))).run Tryd.prog W = .ok (.agg (bs x).toArray) W := by
  unfold ldS
  simp only [Instr.loadAt, Instr.sureAddr, Sem.run_bind, Sem.run_pure, Result.andThen_ok]
  exact run_loadVar_row W g 31 31 _ (0, 0) _ hb Tryd.underlying31 rfl (by rw [Tryd.size31]; simp [bs, h0])
theorem load44 {W : World} {g : Nat} {x : List UInt8} (hb : Blk W g 29 (bs x).toArray) (h0 : x.length = 16) : (ldS 29 (.pointer (some ⟨g, 0, none⟩))).run Tryd.prog W = .ok (.agg (bs x).toArray) W := by
  unfold ldS
  simp only [Instr.loadAt, Instr.sureAddr, Sem.run_bind, Sem.run_pure, Result.andThen_ok]
  exact run_loadVar_row W g 29 29 _ (0, 0) _ hb Tryd.underlying29 rfl (by rw [Tryd.size29]; simp [bs, h0])
attribute [local go_sem ↓] shut24 shut44
theorem ne_of_data {a b : ByteArray} (h : a.data ≠ b.data) : a ≠ b := fun e => h (by rw [e])

set_option maxRecDepth 100000 in
set_option maxHeartbeats 4000000 in
theorem sanity (w : World) (hk : KT 0 w) : Calls Tryd.prog 10 #[] w fun e w' => e = .returned (.bool true) ∧ Below w.heap.size w w' := by
  have HK := Lib.hid hk
  obtain ⟨X, hX⟩ : ∃ X, X = sha [97, 98, 99] := ⟨_, rfl⟩
  have hXl : X.length = 32 := by rw [hX]; rfl
  have hXs : str (hexB (str X).data.toList) = ⟨#[98, 97, 55, 56, 49, 54, 98, 102, 56, 102, 48, 49, 99, 102, 101, 97, 52, 49, 52, 49, 52, 48, 100, 101, 53, 100, 97, 101, 50, 50, 50, 51, 98, 48, 48, 51, 54, 49, 97, 51, 57, 54, 49, 55, 55, 97, 57, 99, 98, 52, 49, 48, 102, 102, 54, 49, 102, 50, 48, 48, 49, 53, 97, 100]⟩ := by rw [hX]; exact exAbc
  obtain ⟨MM, hMM⟩ : ∃ MM, MM = macB [74, 101, 102, 101] [119, 104, 97, 116, 32, 100, 111, 32, 121, 97, 32, 119, 97, 110, 116, 32, 102, 111, 114, 32, 110, 111, 116, 104, 105, 110, 103, 63] := ⟨_, rfl⟩
  have hMs : str (hexB (str MM).data.toList) = ⟨#[53, 98, 100, 99, 99, 49, 52, 54, 98, 102, 54, 48, 55, 53, 52, 101, 54, 97, 48, 52, 50, 52, 50, 54, 48, 56, 57, 53, 55, 53, 99, 55, 53, 97, 48, 48, 51, 102, 48, 56, 57, 100, 50, 55, 51, 57, 56, 51, 57, 100, 101, 99, 53, 56, 98, 57, 54, 52, 101, 99, 51, 56, 52, 51]⟩ := by rw [hMM]; exact exMac
  have hMl : MM.length = 32 := by rw [hMM]; rfl
  obtain ⟨D, hD⟩ : ∃ D, D = ofB 8 [⟨#[97]⟩, ⟨#[]⟩] := ⟨_, rfl⟩
  have hDs : str (hexB (str D).data.toList) = ⟨#[51, 54, 99, 100, 53, 48, 56, 53, 48, 51, 50, 57, 102, 56, 56, 52, 48, 54, 101, 51, 49, 98, 98, 56, 97, 55, 100, 56, 102, 98, 54, 50]⟩ := by rw [hD]; exact exOf
  have hDl : D.length = 16 := by rw [hD]; rfl
  have h24 : (Tryd.prog.info? 31).map (·.size) = some (bs X).toArray.size := by rw [Tryd.size31]; simp [bs, hXl]
  have h44 : (Tryd.prog.info? 29).map (·.size) = some (bs D).toArray.size := by rw [Tryd.size29]; simp [bs, hDl]
  have hle : ([97, 98, 99] : List UInt8).length = 3 := rfl
  have e6 : sha (([] ++ (⟨#[97]⟩ : ByteArray).data.toList) ++ (⟨#[98, 99]⟩ : ByteArray).data.toList) = X := by rw [hX]; rfl
  have H24 := Lib.hid h24
  have H44 := Lib.hid h44
  have HX := Lib.hid hX
  have HXL := Lib.hid hXl
  have HXS := Lib.hid hXs
  have HMM := Lib.hid hMM
  have HMS := Lib.hid hMs
  have HML := Lib.hid hMl
  have HD := Lib.hid hD
  have HDS := Lib.hid hDs
  have HDL := Lib.hid hDl
  have E6 := Lib.hid e6
  have heq := eq24 X X hXl hXl
  rw [decide_eq_true rfl] at heq
  have hin : (encP [⟨#[97]⟩, ⟨#[]⟩]).length ≤ 137438953472 := by
    have := exIn
    unfold inputOf at this
    injection this with _ this
    rw [this]; decide
  have HIN := Lib.hid hin
  have hcv := Go.Lib.run_convert_bytes_const (P := Tryd.prog) w 26 5 #[.int .u8 97, .int .u8 98, .int .u8 99] 3 3 Tryd.underlying26 Tryd.underlying5
  clear hk hX hXl hXs hMM hMs hMl hD hDs hDl h24 h44 hle e6 hin
  go_enter Tryd.func10, Tryd.ntmps10
  go_wp2_with (first
    | (go_at_call 14; refine (hsum (some ⟨w.heap.size, 0, none⟩) [97, 98, 99] 3 _ (HK.out.below (below_new _ _)) (lit_reads_mark w (bs [97, 98, 99]) _ 5 3 _ rfl rfl) (by decide)).mono ?_; rintro e w1 ⟨rfl, hb1⟩; have HD1 := Lib.hid (bt (below_new _ _) hb1); rw [← HX.out]; clear hb1)
    | (refine wpList_store_row rfl 31 (.tmp 1) (.tmp 9) rfl w1.heap.size (bs X).toArray rfl rfl 31 _ (Blk.new w1 31 _) H24.out (by simp [bs, HXL.out]) (all_oneCell_toArray (bs_one _)) ?_
       generalize hw2 : World.setRow (World.alloc w1 _) _ _ = w2
       have HG2 : Hid (Blk w2 w1.heap.size 31 (bs X).toArray) := by rw [← hw2]; exact (Blk.new w1 31 _).setRow _
       have HD2 : Hid (Below w.heap.size w w2) := by rw [← hw2]; exact below_setRow (ba HD1.out _) HD1.out.size _
       clear hw2)
    | (go_at_call 27; refine (begin_ _).mono ?_; rintro e w3 ⟨cs3, rfl, hr3, hb3⟩; have HR3 := Lib.hid hr3; have HD3 := Lib.hid (bt HD2.out hb3); have HG3 := Lib.hid (blk_past hb3 HG2.out); clear hr3 hb3)
    | (go_at_call 28; ((with_reducible refine (add [] cs3 ⟨#[97]⟩ _ (HK.out.below HD3.out) HR3.out (by decide)).mono ?_); rintro e w4 ⟨cs4, rfl, hr4, hb4⟩); have HR4 := Lib.hid hr4; have HD4 := Lib.hid (bt HD3.out hb4); have HG4 := Lib.hid (blk_past hb4 HG3.out); clear hr4 hb4)
    | (go_at_call 28; ((with_reducible refine (add ([] ++ (⟨#[97]⟩ : ByteArray).data.toList) cs4 ⟨#[98, 99]⟩ _ (HK.out.below HD4.out) HR4.out (by decide)).mono ?_); rintro e w5 ⟨cs5, rfl, hr5, hb5⟩); have HR5 := Lib.hid hr5; have HD5 := Lib.hid (bt HD4.out hb5); have HG5 := Lib.hid (blk_past hb5 HG4.out); clear hr5 hb5)
    | (go_at_call 29; ((with_reducible refine (ssum _ cs5 _ (HK.out.below HD5.out) HR5.out (by decide)).mono ?_); rintro e w6 ⟨rfl, hb6⟩); rw [E6.out]; have HD6 := Lib.hid (bt HD5.out hb6); have HG6 := Lib.hid (blk_past hb6 HG5.out); clear hb6)
    | (refine wpList_store_row rfl 31 (.tmp 2) (.tmp 13) rfl w6.heap.size (bs X).toArray rfl rfl 31 _ (Blk.new w6 31 _) H24.out (by simp [bs, HXL.out]) (all_oneCell_toArray (bs_one _)) ?_
       generalize hw7 : World.setRow (World.alloc w6 _) _ _ = w7
       have HG7 : Hid (Blk w7 w1.heap.size 31 (bs X).toArray) := by rw [← hw7]; exact (HG6.out.alloc _).setRow_far (by have := HG6.out.lt; omega) _
       have HJ7 : Hid (Blk w7 w6.heap.size 31 (bs X).toArray) := by rw [← hw7]; exact (Blk.new w6 31 _).setRow _
       have HD7 : Hid (Below w.heap.size w w7) := by rw [← hw7]; exact below_setRow (ba HD6.out _) HD6.out.size _
       clear hw7)
    | (go_at_call 13; refine (of_ 8 (some ⟨w7.heap.size, 0, none⟩) [⟨#[97]⟩, ⟨#[]⟩] 2 _ (HK.out.below (ba HD7.out _)) (lit_reads' w7 (ss [⟨#[97]⟩, ⟨#[]⟩]) _ 9 2 rfl rfl) HIN.out (by decide)).mono ?_; rintro e w8 ⟨rfl, hb8⟩; have HD8 := Lib.hid (bt (ba HD7.out _) hb8); have HG8 := Lib.hid (blk_past hb8 (HG7.out.alloc _)); have HJ8 := Lib.hid (blk_past hb8 (HJ7.out.alloc _)); rw [← HD.out]; clear hb8)
    | (refine wpList_store_row rfl 29 (.tmp 3) (.tmp 15) rfl w8.heap.size (bs D).toArray rfl rfl 29 _ (Blk.new w8 29 _) H44.out (by simp [bs, HDL.out]) (all_oneCell_toArray (bs_one _)) ?_
       generalize hw9 : World.setRow (World.alloc w8 _) _ _ = w9
       have HG9 : Hid (Blk w9 w1.heap.size 31 (bs X).toArray) := by rw [← hw9]; exact (HG8.out.alloc _).setRow_far (by have := HG8.out.lt; omega) _
       have HJ9 : Hid (Blk w9 w6.heap.size 31 (bs X).toArray) := by rw [← hw9]; exact (HJ8.out.alloc _).setRow_far (by have := HJ8.out.lt; omega) _
       have HL9 : Hid (Blk w9 w8.heap.size 29 (bs D).toArray) := by rw [← hw9]; exact (Blk.new w8 29 _).setRow _
       have HD9 : Hid (Below w.heap.size w w9) := by rw [← hw9]; exact below_setRow (ba HD8.out _) HD8.out.size _
       clear hw9)
    | (go_at_call 30; refine (mac ⟨#[74, 101, 102, 101]⟩ ⟨#[119, 104, 97, 116, 32, 100, 111, 32, 121, 97, 32, 119, 97, 110, 116, 32, 102, 111, 114, 32, 110, 111, 116, 104, 105, 110, 103, 63]⟩ _ (HK.out.below HD9.out) (by decide) (by decide)).mono ?_; rintro e w10 ⟨rfl, hb10⟩; have HD10 := Lib.hid (bt HD9.out hb10); have HG10 := Lib.hid (blk_past hb10 HG9.out); have HJ10 := Lib.hid (blk_past hb10 HJ9.out); have HL10 := Lib.hid (blk_past hb10 HL9.out); rw [show macB (⟨#[74, 101, 102, 101]⟩ : ByteArray).data.toList (⟨#[119, 104, 97, 116, 32, 100, 111, 32, 121, 97, 32, 119, 97, 110, 116, 32, 102, 111, 114, 32, 110, 111, 116, 104, 105, 110, 103, 63]⟩ : ByteArray).data.toList = MM from HMM.out.symm]; clear hb10)
    | (go_at_call 31; ((with_reducible refine (equal_true ⟨#[97, 98]⟩ _ (by decide)).mono ?_); rintro e w11 ⟨rfl, hb11⟩); have HD11 := Lib.hid (bt HD10.out hb11); have HG11 := Lib.hid (blk_past hb11 HG10.out); have HJ11 := Lib.hid (blk_past hb11 HJ10.out); have HL11 := Lib.hid (blk_past hb11 HL10.out); clear hb11)
    | (go_at_call 31; ((with_reducible refine (equal_false ⟨#[97, 98]⟩ ⟨#[97, 99]⟩ _ (by decide) (by decide) (ne_of_data (by decide))).mono ?_); rintro e w12 ⟨rfl, hb12⟩); have HD12 := Lib.hid (bt HD11.out hb12); have HG12 := Lib.hid (blk_past hb12 HG11.out); have HJ12 := Lib.hid (blk_past hb12 HJ11.out); have HL12 := Lib.hid (blk_past hb12 HL11.out); clear hb12)
    | (go_at_call 31; ((with_reducible refine (equal_false ⟨#[]⟩ ⟨#[97]⟩ _ (by decide) (by decide) (ne_of_data (by decide))).mono ?_); rintro e w13 ⟨rfl, hb13⟩); have HD13 := Lib.hid (bt HD12.out hb13); have HG13 := Lib.hid (blk_past hb13 HG12.out); have HJ13 := Lib.hid (blk_past hb13 HJ12.out); have HL13 := Lib.hid (blk_past hb13 HL12.out); clear hb13)
    | (refine wpList_load_row rfl 31 (.tmp 1) rfl w1.heap.size rfl 31 (bs X).toArray (0, 0) _ HG13.out Tryd.underlying31 rfl H24.out ?_)
    | (go_at_call 33; refine (bytes32 X HXL.out _).mono ?_; rintro e w14 ⟨rfl, hb14⟩; have HD14 := Lib.hid (bt HD13.out hb14); have HG14 := Lib.hid (blk_past hb14 HG13.out); have HJ14 := Lib.hid (blk_past hb14 HJ13.out); have HL14 := Lib.hid (blk_past hb14 HL13.out); clear hb14)
    | (go_at_call 32; ((with_reducible refine (hex (str X) (by rw [str_size, HXL.out]; decide) _).mono ?_); rintro e w15 ⟨rfl, hb15⟩); rw [HXS.out]; have HD15 := Lib.hid (bt HD14.out hb15); have HG15 := Lib.hid (blk_past hb15 HG14.out); have HJ15 := Lib.hid (blk_past hb15 HJ14.out); have HL15 := Lib.hid (blk_past hb15 HL14.out); have hld1 := load24 HG15.out HXL.out; have hld2 := load24 HJ15.out HXL.out; have heq15 := eq24 X X HXL.out HXL.out w15; rw [decide_eq_true rfl] at heq15; clear hb15)
    | (go_at_call 32; ((with_reducible refine (hex (str MM) (by rw [str_size, HML.out]; decide) _).mono ?_); rintro e w16 ⟨rfl, hb16⟩); rw [HMS.out]; have HD16 := Lib.hid (bt HD15.out hb16); have HL16 := Lib.hid (blk_past hb16 HL15.out); have hld3 := load44 HL16.out HDL.out; clear hb16)
    | (go_at_call 34; refine (text16 D HDL.out _).mono ?_; rintro e w17 ⟨rfl, hb17⟩; have HD17 := Lib.hid (bt HD16.out hb17); clear hb17)
    | (go_at_call 32; ((with_reducible refine (hex (str D) (by rw [str_size, HDL.out]; decide) _).mono ?_); rintro e w18 ⟨rfl, hb18⟩); rw [HDS.out]; have HD18 := Lib.hid (bt HD17.out hb18); clear hb18))
  go_ret
  exact ⟨rfl, HD18.out⟩
end Go.Proofs.YtaoegpmjogladaaDoor

/-
  THE WALK of HashEqualIsEquality.
-/
namespace Go.Proofs.YtaoegpmjogladaaDoor
open Go.RowKit WM

theorem decide_swap {α : Type} [DecidableEq α] (a b : α) : decide (b = a) = decide (a = b) := by simp [eq_comm]
theorem toList_beq (a b : ByteArray) : (a.toList == b.toList) = decide (a = b) := by
  have e : a.toList = b.toList ↔ a = b := ⟨fun h => by rw [ByteArray.toList_eq, ByteArray.toList_eq] at h; exact ByteArray.ext (Array.toList_inj.1 h), fun h => by rw [h]⟩
  rw [Bool.eq_iff_iff]; simp [e]
theorem add_nil (a : ByteArray) : a ++ (⟨#[]⟩ : ByteArray) = a := by
  apply ByteArray.ext
  simp

theorem equal_is (a b : ByteArray) (w : World) (ha : a.size ≤ 140737488355328) (hb : b.size ≤ 140737488355328) (r : Bool) (h : decide (a = b) = r) : Calls Tryd.prog 31 #[.string a, .string b] w fun e w' => e = .returned (.bool r) ∧ Below w.heap.size w w' :=
  (equal a b w ha hb).mono fun _ _ ⟨he, m, hm⟩ => ⟨by rw [he, h], by rw [hm]; exact below_drewN (Below.refl _ _) m⟩
end Go.Proofs.YtaoegpmjogladaaDoor

/-
  THE WALK of HashMacKeys.
-/
namespace Go.Proofs.YtaoegpmjogladaaDoor
open Go.RowKit WM

theorem macB_long (key t : List UInt8) (h : 64 < key.length) : macB (sha key) t = macB key t := by
  have e1 : keyOf key = sha key := by unfold keyOf; rw [if_pos h]
  have e2 : keyOf (sha key) = sha key := by unfold keyOf; rw [if_neg (by rw [sha_length]; omega)]
  unfold macB
  rw [e1, e2]
theorem macB_short (key t : List UInt8) (h : key.length < 64) : macB (key ++ [0]) t = macB key t := by
  have e1 : keyOf key = key := by unfold keyOf; rw [if_neg (by omega)]
  have e2 : keyOf (key ++ [0]) = key ++ [0] := by unfold keyOf; rw [if_neg (by simp; omega)]
  have e3 : kpad (key ++ [0]) = kpad key := by
    unfold kpad
    rw [List.append_assoc, show 64 - key.length = (64 - (key ++ [(0 : UInt8)]).length) + 1 by simp; omega, List.replicate_succ]
    rfl
  unfold macB
  rw [e1, e2, e3]
theorem macB_length (key t : List UInt8) : (macB key t).length = 32 := rfl
theorem mac_is (key text : ByteArray) (w : World) (hk : KT 0 w) (hkl : key.size ≤ 137438953472) (htl : text.size ≤ 137438953472) (S : ByteArray) (h : str (macB key.data.toList text.data.toList) = S) :
    Calls Tryd.prog 30 #[.string key, .string text] w fun e w' => e = .returned (.string S) ∧ Below w.heap.size w w' :=
  (mac key text w hk hkl htl).mono fun _ _ ⟨he, hb⟩ => ⟨by rw [he, h], hb⟩
end Go.Proofs.YtaoegpmjogladaaDoor
