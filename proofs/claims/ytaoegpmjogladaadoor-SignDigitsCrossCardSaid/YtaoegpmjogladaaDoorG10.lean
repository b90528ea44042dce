/-
  scoriaref02.Bytes32, scoriaref02.Text, scorialaw02.hex.
-/
import Derived.Test.YtaoegpmjogladaaDoorG05
import Derived.Deep.RegionLaw
import Derived.Test.YtaoegpmjogladaaDoorG02
import Derived.Test.YtaoegpmjogladaaDoorG03
import Derived.ChangeKeysEq
import Derived.Test.YtaoegpmjogladaaDoorG09
namespace Go.Proofs.YtaoegpmjogladaaDoor
open Go.RowKit

set_option maxRecDepth 100000 in
set_option maxHeartbeats 1000000 in
theorem bytes32 (x : List UInt8) (hx : x.length = 32) (w : World) :
    Calls Tryd.prog 33 #[.agg (bs x).toArray] w fun e w' => e = .returned (.string (str x)) ∧ Below w.heap.size w w' := by
  obtain ⟨i0, hi, hz0, hz1, hz2⟩ := info_parts Tryd.info5
  have HX := Lib.hid hx
  clear hx
  go_enter Tryd.func33, Tryd.ntmps33
  go_wp2
  go_loopw [3, 4] (fun a v wr => ∃ i : Nat, i ≤ 32 ∧ v = .int .i64 i ∧ Hid (wr.ownsRow (w.heap.size + 1) 5 1 a (x.take i).length (bs (x.take i)) ∧ Blk wr w.heap.size 31 (bs x).toArray ∧ Below w.heap.size w wr)) (fun _ v _ => 32 - (intOf v).toNat)
  case atStart => exact ⟨0, by omega, rfl, World.ownsRow_nil _ _ _ _, Blk.new w 31 _, below_new _ _⟩
  case round =>
    obtain ⟨i, hi32, rfl, hh⟩ := hrel
    have hs4 := hh.out.2.1.lt
    by_cases hlt : i < 32
    · have hix : i < x.length := by have := HX.out; omega
      obtain ⟨b, hb⟩ : ∃ b, b = x[i] := ⟨_, rfl⟩
      have hc1 : wr.cell? ⟨w.heap.size, i, none⟩ = some (.int .u8 (b.toNat : Int)) := (Blk.cell hh.out.2.1 i).trans (by rw [hb]; simpa using bs_get x i hix)
      have HS : Hid (x.take (i + 1) = x.take i ++ [b]) := by
        rw [hb]; exact List.take_succ_eq_append_getElem hix
      have hpl : (x.take i).length ≤ 32 := by rw [List.length_take]; omega
      clear hb
      go_wp2_with (at_builtin; refine wpList_append_own _ rfl (.tmp 9) (.tmp 13) 26 rfl (w.heap.size + 1) 5 i0 (.int .u8 0) 1 1 Tryd.underlying26 hi hz0 hz1 hz2 rfl (by decide) _ _ _ rfl (hh.out.1.alloc _) ⟨wr.heap.size, 0, none⟩ 1 1 [.int .u8 (b.toNat : Int)] rfl rfl (one_new _ _ _) (int_one _ _) (len_le (by omega)) (by omega) (by simp; omega) ?_; intro v4 w4 hown4 hgrow4 _; have HO4 := Lib.hid hown4; have HG4 := Lib.hid hgrow4; clear hown4 hgrow4)
      go_roundw
      case rel =>
        refine ⟨i + 1, by omega, by go_num, by rw [HS.out]; exact own_push HO4.out rfl, ?_, (hh.out.2.2.alloc (by omega) _).grown HG4.out (by simp; omega) (fun k hk => by have := (hh.out.1.lt k hk).1; omega)⟩
        exact (hh.out.2.1.alloc _).grown HG4.out (fun e => by have := (hh.out.1.lt _ e.symm).1; omega)
      case measure => simp [intOf]; omega
    · have hie : i = 32 := by omega
      have HI := Lib.hid hie
      have hge : 32 ≤ i := by omega
      clear hlt hi32 hie
      have hown : wr.ownsRow (w.heap.size + 1) 5 1 u3 x.length (bs x) := by
        have := hh.out.1
        rwa [HI.out, List.take_of_length_le (by rw [HX.out]; exact Nat.le_refl _)] at this
      obtain ⟨A, c, hv, _⟩ := own_len hown
      subst hv
      have hcv := conv_str (c := c) (Reads.of_own hown)
      clear hown
      go_wp2
      go_ret
      exact ⟨rfl, hh.out.2.2⟩
set_option maxRecDepth 100000 in
set_option maxHeartbeats 1000000 in
theorem text16 (x : List UInt8) (hx : x.length = 16) (w : World) :
    Calls Tryd.prog 34 #[.agg (bs x).toArray] w fun e w' => e = .returned (.string (str x)) ∧ Below w.heap.size w w' := by
  obtain ⟨i0, hi, hz0, hz1, hz2⟩ := info_parts Tryd.info5
  have HX := Lib.hid hx
  clear hx
  go_enter Tryd.func34, Tryd.ntmps34
  go_wp2
  go_loopw [3, 4] (fun a v wr => ∃ i : Nat, i ≤ 16 ∧ v = .int .i64 i ∧ Hid (wr.ownsRow (w.heap.size + 1) 5 1 a (x.take i).length (bs (x.take i)) ∧ Blk wr w.heap.size 29 (bs x).toArray ∧ Below w.heap.size w wr)) (fun _ v _ => 16 - (intOf v).toNat)
  case atStart => exact ⟨0, by omega, rfl, World.ownsRow_nil _ _ _ _, Blk.new w 29 _, below_new _ _⟩
  case round =>
    obtain ⟨i, hi16, rfl, hh⟩ := hrel
    have hs4 := hh.out.2.1.lt
    by_cases hlt : i < 16
    · have hix : i < x.length := by have := HX.out; omega
      obtain ⟨b, hb⟩ : ∃ b, b = x[i] := ⟨_, rfl⟩
      have hc1 : wr.cell? ⟨w.heap.size, i, none⟩ = some (.int .u8 (b.toNat : Int)) := (Blk.cell hh.out.2.1 i).trans (by rw [hb]; simpa using bs_get x i hix)
      have HS : Hid (x.take (i + 1) = x.take i ++ [b]) := by
        rw [hb]; exact List.take_succ_eq_append_getElem hix
      have hpl : (x.take i).length ≤ 16 := by rw [List.length_take]; omega
      clear hb
      go_wp2_with (at_builtin; refine wpList_append_own _ rfl (.tmp 9) (.tmp 13) 26 rfl (w.heap.size + 1) 5 i0 (.int .u8 0) 1 1 Tryd.underlying26 hi hz0 hz1 hz2 rfl (by decide) _ _ _ rfl (hh.out.1.alloc _) ⟨wr.heap.size, 0, none⟩ 1 1 [.int .u8 (b.toNat : Int)] rfl rfl (one_new _ _ _) (int_one _ _) (len_le (by omega)) (by omega) (by simp; omega) ?_; intro v4 w4 hown4 hgrow4 _; have HO4 := Lib.hid hown4; have HG4 := Lib.hid hgrow4; clear hown4 hgrow4)
      go_roundw
      case rel =>
        refine ⟨i + 1, by omega, by go_num, by rw [HS.out]; exact own_push HO4.out rfl, ?_, (hh.out.2.2.alloc (by omega) _).grown HG4.out (by simp; omega) (fun k hk => by have := (hh.out.1.lt k hk).1; omega)⟩
        exact (hh.out.2.1.alloc _).grown HG4.out (fun e => by have := (hh.out.1.lt _ e.symm).1; omega)
      case measure => simp [intOf]; omega
    · have hie : i = 16 := by omega
      have HI := Lib.hid hie
      have hge : 16 ≤ i := by omega
      clear hlt hi16 hie
      have hown : wr.ownsRow (w.heap.size + 1) 5 1 u3 x.length (bs x) := by
        have := hh.out.1
        rwa [HI.out, List.take_of_length_le (by rw [HX.out]; exact Nat.le_refl _)] at this
      obtain ⟨A, c, hv, _⟩ := own_len hown
      subst hv
      have hcv := conv_str (c := c) (Reads.of_own hown)
      clear hown
      go_wp2
      go_ret
      exact ⟨rfl, hh.out.2.2⟩

/-- The digits of a byte string. -/
def hexD (n : Nat) : UInt8 := if n < 10 then UInt8.ofNat (48 + n) else UInt8.ofNat (87 + n)
def hexB (l : List UInt8) : List UInt8 := l.flatMap fun c => [hexD (c.toNat / 16), hexD (c.toNat % 16)]
theorem hexB_succ (l : List UInt8) (k : Nat) (h : k < l.length) : hexB (l.take (k + 1)) = hexB (l.take k) ++ [hexD (l[k].toNat / 16), hexD (l[k].toNat % 16)] := by
  unfold hexB
  rw [List.take_succ_eq_append_getElem h, List.flatMap_append]; simp
theorem hexB_length (l : List UInt8) : (hexB l).length = 2 * l.length := by
  induction l with
  | nil => rfl
  | cons c l ih =>
    have : hexB (c :: l) = [hexD (c.toNat / 16), hexD (c.toNat % 16)] ++ hexB l := rfl
    rw [this, List.length_append, ih]; simp; omega
theorem index_str (W : World) (s : ByteArray) (k : IntKind) (n : Nat) (c : UInt8) (h : s.data[n]? = some c) :
    (Instr.index 9 (.string s) (.int k (n : Int))).run Tryd.prog W = .ok (.int .u8 (c.toNat : Int)) W := by
  have h2 : s[n]? = some c := h
  have c1 : (0 : Int) ≤ n := by omega
  simp only [Instr.index, asIntOf, Sem.run_bind, Sem.run_pure, Result.andThen_ok, run_underlying Tryd.underlying9]
  rw [if_pos c1]
  simp [h2]
theorem dig_at : ∀ n : Nat, n < 16 → (#[48, 49, 50, 51, 52, 53, 54, 55, 56, 57, 97, 98, 99, 100, 101, 102] : Array UInt8)[n]? = some (hexD n)
  | 0, _ => rfl
  | 1, _ => rfl
  | 2, _ => rfl
  | 3, _ => rfl
  | 4, _ => rfl
  | 5, _ => rfl
  | 6, _ => rfl
  | 7, _ => rfl
  | 8, _ => rfl
  | 9, _ => rfl
  | 10, _ => rfl
  | 11, _ => rfl
  | 12, _ => rfl
  | 13, _ => rfl
  | 14, _ => rfl
  | 15, _ => rfl
  | n + 16, h => by omega
theorem get_dig (n k : Nat) (hn : n = k) (hk : k < 16) (h : n < (⟨#[48, 49, 50, 51, 52, 53, 54, 55, 56, 57, 97, 98, 99, 100, 101, 102]⟩ : ByteArray).size) : (⟨#[48, 49, 50, 51, 52, 53, 54, 55, 56, 57, 97, 98, 99, 100, 101, 102]⟩ : ByteArray)[n]'h = hexD k := by
  subst hn
  have h1 := dig_at n hk
  rw [Array.getElem?_eq_getElem h] at h1
  exact Option.some.inj h1
theorem dig_index (n : Nat) (h : n < 16) (W : World) :
    (Instr.index 9 (.string ⟨#[48, 49, 50, 51, 52, 53, 54, 55, 56, 57, 97, 98, 99, 100, 101, 102]⟩) (.int .u8 (n : Int))).run Tryd.prog W = .ok (.int .u8 ((hexD n).toNat : Int)) W :=
  index_str W ⟨#[48, 49, 50, 51, 52, 53, 54, 55, 56, 57, 97, 98, 99, 100, 101, 102]⟩ .u8 n _ (dig_at n h)
theorem two_reads {w : World} {a b : UInt8} : Reads (w.alloc (.cells #[.int .u8 (a.toNat : Int), .int .u8 (b.toNat : Int)] 5)) (w.heap.size + 1) 1 (some ⟨w.heap.size, 0, none⟩) 2 (bs [a, b]) :=
  ⟨rfl, fun _ => ⟨_, rfl, by simp, fun j u hu => cells_new w (bs [a, b]) 5 j u hu⟩⟩

set_option maxRecDepth 100000 in
set_option maxHeartbeats 1000000 in
theorem hex (s : ByteArray) (hs : s.size ≤ 1000000) (w : World) :
    Calls Tryd.prog 32 #[.string s] w fun e w' => e = .returned (.string (str (hexB s.data.toList))) ∧ Below w.heap.size w w' := by
  obtain ⟨i0, hi, hz0, hz1, hz2⟩ := info_parts Tryd.info5
  have hsz : s.data.toList.length = s.size := by rw [Array.length_toList]; rfl
  have HSZ := Lib.hid hsz
  clear hsz
  go_enter Tryd.func32, Tryd.ntmps32
  go_wp2
  go_loopw [4, 5] (fun a v wr => ∃ i : Nat, i ≤ s.size ∧ v = .int .i64 i ∧ Hid (wr.ownsRow w.heap.size 5 1 a (hexB (s.data.toList.take i)).length (bs (hexB (s.data.toList.take i))) ∧ Below w.heap.size w wr)) (fun _ v _ => s.size - (intOf v).toNat)
  case atStart => exact ⟨0, by omega, rfl, World.ownsRow_nil _ _ _ _, Below.refl _ _⟩
  case round =>
    obtain ⟨i, hi32, rfl, hh⟩ := hrel
    have hs4 := hh.out.2.size
    by_cases hlt : i < s.size
    · obtain ⟨c, hc⟩ : ∃ c, c = s[i] := ⟨_, rfl⟩
      have hcl : c = s.data.toList[i]'(by rw [HSZ.out]; exact hlt) := by rw [hc]; rfl
      have HS : Hid (hexB (s.data.toList.take (i + 1)) = hexB (s.data.toList.take i) ++ [hexD (c.toNat / 16), hexD (c.toNat % 16)]) := by
        rw [hcl]; exact hexB_succ _ _ _
      have hpl : (hexB (s.data.toList.take i)).length ≤ 2000000 := by rw [hexB_length, List.length_take, HSZ.out]; omega
      have hc255 := s[i].toNat_lt
      have q1 : IntKind.u8.wrap ((s[i].toNat : Int) / 16) = (s[i].toNat : Int) / 16 := by rw [IntKind.wrap_u8]; omega
      have p1 : (0 : Int) ≤ (s[i].toNat : Int) / 16 := by omega
      have p2 : (s[i].toNat : Int) / 16 < 16 := by omega
      have p3 : (0 : Int) ≤ (s[i].toNat : Int).tmod 16 := by rw [Int.tmod_eq_emod_of_nonneg (by omega)]; omega
      have p4 : (s[i].toNat : Int).tmod 16 < 16 := by rw [Int.tmod_eq_emod_of_nonneg (by omega)]; omega
      clear hcl
      go_wp2
      go_region_law (refine step_append_any _ rfl (.tmp 12) (.tmp 25) 26 rfl w.heap.size 5 i0 (.int .u8 0) 1 1 Tryd.underlying26 hi hz0 hz1 hz2 rfl (by omega) _ _ _ rfl (hh.out.1.drew.alloc _) (wr.heap.size + 1) (some ⟨wr.heap.size, 0, none⟩) 2 2 _ rfl two_reads (bs_one _) (len_le (by omega)) (by omega) (by simp; omega) ?_; intro v4 w4 hown4 hgrow4 _; have HO4 := Lib.hid hown4; have HG4 := Lib.hid hgrow4; clear hown4 hgrow4)
      all_goals
        go_wp2
        go_roundw
        case rel =>
          refine ⟨i + 1, by omega, by go_num, own_next HO4.out ?_, ((hh.out.2.drew).alloc (by simp; omega) _).grown HG4.out (by simp; omega) (fun k hk => (hh.out.1.lt k hk).1)⟩
          rw [HS.out, hc]
          congr 2
          · exact (get_dig _ (s[i].toNat / 16) (by omega) (by omega) _).symm
          · congr 1
            exact (get_dig _ (s[i].toNat % 16) (by rw [Int.tmod_eq_emod_of_nonneg (by omega)]; omega) (by omega) _).symm
        case measure => simp [intOf]; omega
    · have hie : i = s.size := by omega
      have HI := Lib.hid hie
      have hge : s.size ≤ i := by omega
      clear hlt hi32 hie
      have hown : wr.ownsRow w.heap.size 5 1 u4 (hexB s.data.toList).length (bs (hexB s.data.toList)) := by
        have := hh.out.1
        rwa [HI.out, List.take_of_length_le (by rw [HSZ.out]; exact Nat.le_refl _)] at this
      obtain ⟨A, c, hv, _⟩ := own_len hown
      subst hv
      have hcv := conv_str (c := c) (Reads.of_own hown)
      clear hown
      go_wp2
      go_ret
      exact ⟨rfl, hh.out.2⟩
end Go.Proofs.YtaoegpmjogladaaDoor

/-
  hash.Equal.
-/
namespace Go.Proofs.YtaoegpmjogladaaDoor
open Go.RowKit

/-- The first k bytes are the same exactly if d is 0. -/
def Alike (a b : ByteArray) (k d : Nat) : Prop := d < 256 ∧ (d = 0 ↔ ∀ i (h1 : i < a.size) (h2 : i < b.size), i < k → a[i] = b[i])
theorem or_zero (a b : Nat) : a ||| b = 0 ↔ a = 0 ∧ b = 0 := by
  constructor
  · intro h
    constructor
    · have h1 : a ≤ a ||| b := Nat.left_le_or
      omega
    · have h1 : b ≤ a ||| b := Nat.right_le_or
      omega
  · rintro ⟨rfl, rfl⟩; rfl
theorem xor_zero (a b : Nat) : a ^^^ b = 0 ↔ a = b := by
  constructor
  · intro h
    have : (a ^^^ b) ^^^ b = 0 ^^^ b := by rw [h]
    rwa [Nat.xor_assoc, Nat.xor_self, Nat.xor_zero, Nat.zero_xor] at this
  · rintro rfl; exact Nat.xor_self a
theorem Alike.step {a b : ByteArray} {k d : Nat} (h : Alike a b k d) (h1 : k < a.size) (h2 : k < b.size) : Alike a b (k + 1) (d ||| (a[k].toNat ^^^ b[k].toNat)) := by
  have ha := a[k].toNat_lt
  have hb := b[k].toNat_lt
  refine ⟨Nat.or_lt_two_pow (n := 8) h.1 (Nat.xor_lt_two_pow (by omega) (by omega)), ?_⟩
  rw [or_zero, xor_zero, h.2]
  constructor
  · rintro ⟨h3, h4⟩ i g1 g2 hi
    by_cases hik : i = k
    · subst hik; exact UInt8.toNat_inj.1 h4
    · exact h3 i g1 g2 (by omega)
  · intro h3
    exact ⟨fun i g1 g2 hi => h3 i g1 g2 (by omega), by rw [h3 k h1 h2 (by omega)]⟩
theorem alike_val {a b : UInt8} {d : Nat} (hd : d < 256) : bits .or .u8 (d : Int) (bits .xor .u8 (a.toNat : Int) (b.toNat : Int)) = ((d ||| (a.toNat ^^^ b.toNat) : Nat) : Int) := by
  have ha := a.toNat_lt
  have hb := b.toNat_lt
  rw [u8_xor_nat _ _ ha hb, u8_or_nat _ _ hd (Nat.xor_lt_two_pow (n := 8) (by omega) (by omega))]
theorem Alike.done {a b : ByteArray} {d : Nat} (hs : a.size = b.size) (h : Alike a b a.size d) : (d = 0) ↔ a = b := by
  rw [h.2]
  constructor
  · intro h3
    exact ByteArray.ext_getElem hs fun i g1 g2 => h3 i g1 g2 g1
  · rintro rfl i g1 g2 _; rfl

set_option maxHeartbeats 1000000 in
theorem equal (a b : ByteArray) (w : World) (ha : a.size ≤ 140737488355328) (hb : b.size ≤ 140737488355328) :
    Calls Tryd.prog 31 #[.string a, .string b] w fun e w' => e = .returned (.bool (decide (a = b))) ∧ ∃ m, w' = w.drewN m := by
  by_cases hs : a.size = b.size
  · have HS := Lib.hid hs
    have h1 : ((a.size : Int) != (b.size : Int)) = false := by simp [hs]
    have hab : a.size ≤ b.size := by omega
    clear hs
    go_enter Tryd.func31, Tryd.ntmps31
    go_wp2
    go_loopw [5, 14] (fun d' i' wr => ∃ (k d : Nat), k ≤ a.size ∧ i' = .int .i64 k ∧ d' = .int .u8 d ∧ Hid (Alike a b k d ∧ ∃ m, wr = w.drewN m)) (fun _ i' _ => a.size - (intOf i').toNat)
    case atStart => exact ⟨0, 0, by omega, rfl, rfl, ⟨by omega, by simp⟩, 0, rfl⟩
    case round =>
      obtain ⟨k, d, hk, rfl, rfl, hh⟩ := hrel
      by_cases hlt : k < a.size
      · have hlb : k < b.size := by omega
        go_wp2
        go_quiet (fail)
        go_wp2
        go_roundw
        case rel =>
          obtain ⟨q, hq⟩ := hh.out.2
          exact ⟨k + 1, _, by omega, by go_num, by rw [alike_val hh.out.1.1], hh.out.1.step hlt hlb, q + nq, by rw [hq, World.drewN_drewN]⟩
        case measure => simp [intOf]; omega
      · go_wp2
        go_ret
        obtain rfl : k = a.size := by omega
        have hd := Alike.done HS.out hh.out.1
        refine ⟨?_, hh.out.2⟩
        show Ending.returned (Value.bool ((d : Int) == 0)) = _
        congr 2
        rw [Bool.eq_iff_iff]
        simp only [beq_iff_eq, decide_eq_true_eq]
        exact ⟨fun h => hd.1 (by omega), fun h => by have := hd.2 h; omega⟩
  · have h1 : ((a.size : Int) != (b.size : Int)) = true := by simp; omega
    have hne : a ≠ b := by rintro rfl; exact hs rfl
    have HN := Lib.hid hne
    clear hs hne
    go_enter Tryd.func31, Tryd.ntmps31
    go_wp2
    go_ret
    refine ⟨?_, 0, rfl⟩
    show Ending.returned (Value.bool false) = _
    congr 2
    exact (decide_eq_false HN.out).symm
end Go.Proofs.YtaoegpmjogladaaDoor

/-
  THE COMPARISON of arrays of bytes.
-/
namespace Go.Proofs.YtaoegpmjogladaaDoor
open Go.RowKit

theorem Tryd.plain5 : Tryd.prog.plainKey 5 = true := by kernel_rfl
theorem Tryd.cells5 : Tryd.prog.cellsOf 5 = 1 := by kernel_rfl
theorem eqItems_bytes (x y : List UInt8) (W : World) : ∀ is : List Nat, (∀ i ∈ is, i < x.length ∧ i < y.length) → (Op.eqItems 9999 5 1 (bs x).toArray (bs y).toArray is).run Tryd.prog W = .ok (is.all fun i => x[i]? == y[i]?) W := by
  intro is
  induction is with
  | nil => intro _; simp [Op.eqItems]
  | cons i is ih =>
    intro h
    obtain ⟨h1, h2⟩ := h i (by simp)
    have hg1 : (bs x).toArray[i * 1]? = some (.int .u8 (x[i].toNat : Int)) := by rw [Nat.mul_one]; simpa using bs_get x i h1
    have hg2 : (bs y).toArray[i * 1]? = some (.int .u8 (y[i].toNat : Int)) := by rw [Nat.mul_one]; simpa using bs_get y i h2
    have hp1 := run_part_plain (P := Tryd.prog) W Tryd.plain5 hg1
    have hp2 := run_part_plain (P := Tryd.prog) W Tryd.plain5 hg2
    have he := run_equalIn_int (P := Tryd.prog) W 9998 5 .u8 .u8 (x[i].toNat : Int) (y[i].toNat : Int) Tryd.underlying5
    have hxy : (x[i]? == y[i]?) = decide ((x[i].toNat : Int) = (y[i].toNat : Int)) := by
      rw [List.getElem?_eq_getElem h1, List.getElem?_eq_getElem h2, Bool.eq_iff_iff]
      simp only [beq_iff_eq, Option.some.injEq, decide_eq_true_eq]
      exact ⟨fun h => by rw [h], fun h => UInt8.toNat_inj.1 (by omega)⟩
    simp only [Op.eqItems, Sem.run_bind, hp1, hp2, Result.andThen_ok, he]
    by_cases heq : (x[i].toNat : Int) = (y[i].toNat : Int)
    · have hb : (x[i]? == y[i]?) = true := by rw [hxy]; simpa using heq
      rw [List.all_cons, hb]
      simpa [heq] using ih (fun j hj => h j (by simp [hj]))
    · have hb : (x[i]? == y[i]?) = false := by rw [hxy]; simpa using heq
      rw [List.all_cons, hb]
      simp [heq]
theorem all_eq (x y : List UInt8) (n : Nat) (hx : x.length = n) (hy : y.length = n) : ((List.range n).all fun i => x[i]? == y[i]?) = decide (x = y) := by
  rw [Bool.eq_iff_iff]
  simp only [List.all_eq_true, List.mem_range, beq_iff_eq, decide_eq_true_eq]
  constructor
  · intro h
    apply List.ext_getElem?
    intro i
    by_cases hi : i < n
    · exact h i hi
    · rw [List.getElem?_eq_none (by omega), List.getElem?_eq_none (by omega)]
  · rintro rfl i _; rfl
theorem eq24 (x y : List UInt8) (hx : x.length = 32) (hy : y.length = 32) (W : World) : (binOp .eql 31 (.agg (bs x).toArray) (.agg (bs y).toArray)).run Tryd.prog W = .ok (.bool (decide (x = y))) W := by
  obtain ⟨i0, hi, _⟩ := info_parts Tryd.info5
  have h1 := run_equalIn_array (P := Tryd.prog) (w := W) 9999 (bs x).toArray (bs y).toArray Tryd.underlying31 hi
  rw [Tryd.cells5, eqItems_bytes x y W _ (fun i hi => by rw [List.mem_range] at hi; omega), all_eq x y 32 hx hy] at h1
  simp only [binOp]
  simp [Op.equal, Op.maxDepth, h1]
theorem eq44 (x y : List UInt8) (hx : x.length = 16) (hy : y.length = 16) (W : World) : (binOp .eql 29 (.agg (bs x).toArray) (.agg (bs y).toArray)).run Tryd.prog W = .ok (.bool (decide (x = y))) W := by
  obtain ⟨i0, hi, _⟩ := info_parts Tryd.info5
  have h1 := run_equalIn_array (P := Tryd.prog) (w := W) 9999 (bs x).toArray (bs y).toArray Tryd.underlying29 hi
  rw [Tryd.cells5, eqItems_bytes x y W _ (fun i hi => by rw [List.mem_range] at hi; omega), all_eq x y 16 hx hy] at h1
  simp only [binOp]
  simp [Op.equal, Op.maxDepth, h1]
end Go.Proofs.YtaoegpmjogladaaDoor

/-
  The examples of the sanity check, computed by the kernel.
-/
namespace Go.Proofs.YtaoegpmjogladaaDoor
open Go.RowKit WM

theorem exAbc : str (hexB (sha [97, 98, 99])) = ⟨#[98, 97, 55, 56, 49, 54, 98, 102, 56, 102, 48, 49, 99, 102, 101, 97, 52, 49, 52, 49, 52, 48, 100, 101, 53, 100, 97, 101, 50, 50, 50, 51, 98, 48, 48, 51, 54, 49, 97, 51, 57, 54, 49, 55, 55, 97, 57, 99, 98, 52, 49, 48, 102, 102, 54, 49, 102, 50, 48, 48, 49, 53, 97, 100]⟩ := by kernel_rfl
theorem exMac : str (hexB (macB [74, 101, 102, 101] [119, 104, 97, 116, 32, 100, 111, 32, 121, 97, 32, 119, 97, 110, 116, 32, 102, 111, 114, 32, 110, 111, 116, 104, 105, 110, 103, 63])) = ⟨#[53, 98, 100, 99, 99, 49, 52, 54, 98, 102, 54, 48, 55, 53, 52, 101, 54, 97, 48, 52, 50, 52, 50, 54, 48, 56, 57, 53, 55, 53, 99, 55, 53, 97, 48, 48, 51, 102, 48, 56, 57, 100, 50, 55, 51, 57, 56, 51, 57, 100, 101, 99, 53, 56, 98, 57, 54, 52, 101, 99, 51, 56, 52, 51]⟩ := by kernel_rfl
theorem exIn : inputOf 8 [⟨#[97]⟩, ⟨#[]⟩] = [8, 129, 1, 97, 128] := by
  have e1 : enc 1 = [129, 1] := by rw [enc_pos (by omega)]; simp [digs]
  have e0 : enc 0 = [128] := by rw [enc_pos (by omega)]; simp [digs]
  have t8 : tagB 8 = 8 := by rfl
  unfold inputOf encP
  simp only [List.flatMap_cons, List.flatMap_nil, encB, t8]
  simp [e1, e0]
theorem exOf : str (hexB (ofB 8 [⟨#[97]⟩, ⟨#[]⟩])) = ⟨#[51, 54, 99, 100, 53, 48, 56, 53, 48, 51, 50, 57, 102, 56, 56, 52, 48, 54, 101, 51, 49, 98, 98, 56, 97, 55, 100, 56, 102, 98, 54, 50]⟩ := by
  unfold ofB
  rw [exIn]
  kernel_rfl
end Go.Proofs.YtaoegpmjogladaaDoor
