/-
  slices.Chunk of integers by threes: its iterator's contract.
-/
import Derived.Test.YtbdknncmlcbbpaaDoorG34
import Derived.Test.YtbdknncmlcbbpaaDoorG35
import Derived.Test.YtbdknncmlcbbpaaDoorG07
import Derived.WalkSmall
import Derived.Laws.EntriesVeiled
import Derived.Test.YtbdknncmlcbbpaaDoorG32
import Derived.Outline
set_option linter.unusedVariables false
namespace Go.Proofs.YtbdknncmlcbbpaaDoor
open Go.RowKit WM TR KM

theorem chunk_is (A : Option Addr) (n c : Nat) (w : World) :
    Calls Tryd.prog 70 #[.slice A n c, .int .i64 3] w fun e w' => e = .returned (.func (.func 85) #[] #[.pointer (some ⟨w.heap.size, 0, none⟩), .pointer (some ⟨w.heap.size + 1, 0, none⟩)]) ∧ w' = (w.alloc (.cells #[.slice A n c] 22)).alloc (.cells #[.int .i64 3] 3) := by
  go_enter Tryd.func70, Tryd.ntmps70
  go_wp2
  go_ret
  exact ⟨by simp, rfl⟩
/-- What it hands on: three integers, in memory that is not the caller's own. -/
def AtC (x : Ins) (vs : Array Value) (S : Nat → Prop) (W : World) : Prop :=
  ∃ b off, vs = #[.slice (some ⟨b, off, none⟩) 3 3] ∧ b < W.heap.size ∧ ¬ S b ∧ W.cell? ⟨b, off, none⟩ = some (.int .i64 x.op) ∧ W.cell? ⟨b, off + 1, none⟩ = some (.int .i64 x.a) ∧ W.cell? ⟨b, off + 2, none⟩ = some (.int .i64 x.b)
theorem flat_get : ∀ (xs : List Ins) (k : Nat) (x : Ins), xs[k]? = some x → (flatI xs)[3 * k]? = some x.op ∧ (flatI xs)[3 * k + 1]? = some x.a ∧ (flatI xs)[3 * k + 2]? = some x.b
  | [], k, x, h => by simp at h
  | y :: xs, 0, x, h => by
    simp only [List.getElem?_cons_zero, Option.some.injEq] at h
    subst h
    have : flatI (y :: xs) = y.op :: y.a :: y.b :: flatI xs := by simp [flatI]
    rw [this]
    exact ⟨rfl, rfl, rfl⟩
  | y :: xs, k + 1, x, h => by
    have hf : flatI (y :: xs) = y.op :: y.a :: y.b :: flatI xs := by simp [flatI]
    obtain ⟨h1, h2, h3⟩ := flat_get xs k x (by simpa using h)
    rw [hf, show 3 * (k + 1) = 3 * k + 1 + 1 + 1 by omega]
    exact ⟨h1, h2, h3⟩
/-- 's[m:]' and 's[m : m + 3 : m + 3]' -/
theorem cutC (b off m len c : Nat) (h : m < len) (hc : len ≤ c) : ∀ W : World, (Instr.sliceAt 22 (.slice (some ⟨b, off, none⟩) len c) (some (.int .i64 (m : Int))) none none).run Tryd.prog W = .ok (.slice (some ⟨b, off + m, none⟩) (len - m) (c - m)) W := by
  intro W
  rw [run_sliceAt_slice W 22 _ _ _ _ ints_slice, run_slice_l W 22 (some ⟨b, off, none⟩) len c ints_slice .i64 m (by omega) (by omega), ints_elem, size3]
  have h2 : ¬ c = m := by omega
  simp [sliced, h2, Addr.add]
theorem cutC3 (b off m len c : Nat) (h : m + 3 ≤ len) (hc : len ≤ c) : ∀ W : World, (Instr.sliceAt 22 (.slice (some ⟨b, off, none⟩) len c) (some (.int .i64 (m : Int))) (some (.int .i64 ((m : Int) + 3))) (some (.int .i64 ((m : Int) + 3)))).run Tryd.prog W = .ok (.slice (some ⟨b, off + m, none⟩) 3 3) W := by
  intro W
  rw [run_sliceAt_slice W 22 _ _ _ _ ints_slice, run_slice_lhm W 22 (some ⟨b, off, none⟩) len c ints_slice .i64 .i64 .i64 m ((m : Int) + 3) ((m : Int) + 3) (by omega) (by omega) (by omega) (by omega), ints_elem, size3]
  have e1 : ((m : Int) + 3).toNat = m + 3 := by omega
  rw [e1, Int.toNat_natCast]
  simp [sliced, Addr.add]
set_option maxRecDepth 100000 in
set_option maxHeartbeats 4000000 in
theorem citer_is (n B : Nat) (xs : List Ins) (A : Option Addr) (len c : Nat) (Tr : Nat → Prop) (w : World) (hb1 : Blk w B 22 #[.slice A len c]) (hb2 : Blk w (B + 1) 3 #[.int .i64 3]) (hrd : Rd w Tr 1 A len (vi (flatI xs))) (hTr : ∀ b, Tr b → b < w.heap.size) (hlen : len = 3 * xs.length) (hc : len ≤ c) (hl : len ≤ 1000000) :
    SeqT Fence.wide n Tryd.prog 85 #[.pointer (some ⟨B, 0, none⟩), .pointer (some ⟨B + 1, 0, none⟩)] (fun b => Tr b ∨ b = B ∨ b = B + 1) AtC xs w := by
  intro l J Jx S W hW hS hJ hJx hY h0
  refine callsIn_wide.2 ?_
  simp only [List.append_toArray, List.nil_append, List.cons_append]
  have HB1 := Lib.hid (hb1.below hW hb1.lt)
  have HB2 := Lib.hid (hb2.below hW hb2.lt)
  have HRD := Lib.hid (hrd.keep (Keeps.below hTr hW))
  have HTR : Hid (∀ b, Tr b → b < W.heap.size ∧ ¬ S b) := Lib.hid fun b hb => ⟨Nat.lt_of_lt_of_le (hTr b hb) hW.size, fun h => (hS b h).2 (.inl hb)⟩
  have HNB : Hid (¬ S B ∧ ¬ S (B + 1)) := Lib.hid ⟨fun h => (hS B h).2 (.inr (.inl rfl)), fun h => (hS _ h).2 (.inr (.inr rfl))⟩
  have HLEN := Lib.hid hlen
  have HY := Lib.hid hY
  have HJ := Lib.hid hJ
  clear hb1 hb2 hrd hTr hW hS hJx hY hJ hlen
  go_enter Tryd.func85, Tryd.ntmps85
  go_upto_region 1 with fail
  go_loopw [4] (fun i wr => ∃ (k m : Nat) (S' : Nat → Prop), m ≤ len ∧ i = .int .i64 (m : Int) ∧ Hid (m = 3 * k ∧ k ≤ xs.length ∧ Mov S W S' wr ∧ J (xs.take k) S' wr)) (fun i _ => len - (intOf i).toNat)
  case atStart => exact ⟨0, 0, S, Nat.zero_le _, rfl, rfl, Nat.zero_le _, Mov.refl S W, h0⟩
  case round =>
    obtain ⟨k, m, S', hml, rfl, HI⟩ := hrel
    have c1 : wr.cell? ⟨B, 0, none⟩ = some (.slice A len c) := (World.cell?_of_block (HI.out.2.2.1.same B HB1.out.lt HNB.out.1)).trans (HB1.out.cell 0)
    have c2 : wr.cell? ⟨B + 1, 0, none⟩ = some (.int .i64 3) := (World.cell?_of_block (HI.out.2.2.1.same (B + 1) HB2.out.lt HNB.out.2)).trans (HB2.out.cell 0)
    by_cases hlt : m < len
    · have hlt2 : (m : Int) < len := by omega
      obtain ⟨x, hx⟩ : ∃ x, xs[k]? = some x := ⟨_, List.getElem?_eq_getElem (by have h := HI.out.1; have h2 := HLEN.out; omega)⟩
      obtain ⟨b, off, hA, hTb, hcell⟩ := HRD.out.lit (by omega)
      subst hA
      have hm3 : m + 3 ≤ len := by have h := HI.out.1; have h2 := HLEN.out; have := (List.getElem?_eq_some_iff.1 hx).1; omega
      obtain ⟨g1, g2, g3⟩ := flat_get xs k x hx
      have hsame : ∀ p, wr.cell? ⟨b, p, none⟩ = W.cell? ⟨b, p, none⟩ := fun p => World.cell?_of_block (HI.out.2.2.1.same b (HTR.out b hTb).1 (HTR.out b hTb).2)
      have y0 : wr.cell? ⟨b, off + m, none⟩ = some (.int .i64 x.op) := (hsame _).trans (hcell _ _ (vi_get (by rw [HI.out.1]; exact g1)))
      have y1 : wr.cell? ⟨b, off + m + 1, none⟩ = some (.int .i64 x.a) := (hsame _).trans (by rw [Nat.add_assoc]; exact hcell _ _ (vi_get (by rw [HI.out.1]; exact g2)))
      have y2 : wr.cell? ⟨b, off + m + 2, none⟩ = some (.int .i64 x.b) := (hsame _).trans (by rw [Nat.add_assoc]; exact hcell _ _ (vi_get (by rw [HI.out.1]; exact g3)))
      have hat : AtC x #[.slice (some ⟨b, off + m, none⟩) 3 3] S' wr := ⟨b, off + m, rfl, Nat.lt_of_lt_of_le (HTR.out b hTb).1 HI.out.2.2.1.size, fun h => (HI.out.2.2.1.new b h).elim (HTR.out b hTb).2 (fun h2 => by have := (HTR.out b hTb).1; omega), y0, y1, y2⟩
      have hpre : xs.take k ++ [x] <+: xs := by
        have h := List.take_prefix (k + 1) xs
        rw [List.take_add_one, hx] at h
        exact h
      have hcut1 := cutC b off m len c hlt hc
      have hcut3 := cutC3 b off m len c hm3 hc
      have h33 : (3 : Int) ≤ ((len - m : Nat) : Int) := by omega
      have hwm : IntKind.i64.wrap ((m : Int) + 3) = (m : Int) + 3 := by rw [IntKind.wrap_i64]; omega
      go_upto_region 3 with fail
      go_quiet (fail)
      go_upto_region 4 with fail
      obtain ⟨Wq, hWq⟩ : ∃ Wq, Wq = wr.drewN nq := ⟨_, rfl⟩
      have hstay : Stay S' wr Wq := by rw [hWq]; exact ⟨rfl, rfl, rfl, Nat.le_refl _, fun _ _ => rfl⟩
      have hmq : Mov S W S' Wq := by rw [hWq]; exact HI.out.2.2.1.trans (Mov.of_below (below_drewN (Below.refl _ _) _))
      have hJq : J (xs.take k) S' Wq := HJ.out _ _ _ _ HI.out.2.2.2 hstay
      have hatq : AtC x #[.slice (some ⟨b, off + m, none⟩) 3 3] S' Wq := by rw [hWq]; exact hat
      have cq : Wq.cell? ⟨B, 0, none⟩ = some (.slice (some ⟨b, off, none⟩) len c) := by rw [hWq]; exact c1
      obtain ⟨fn, tmps, assign, body, hy, hR⟩ := YieldAt.deep (9 - 1) (HY.out (xs.take k) x _ S' Wq hJq hpre hatq hmq)
      rw [← hWq]
      have HMQ := Lib.hid hmq
      have HTK : Hid (xs.take (k + 1) = xs.take k ++ [x]) := Lib.hid (by rw [List.take_add_one, hx]; rfl)
      have HKX : Hid (k + 1 ≤ xs.length) := Lib.hid (List.getElem?_eq_some_iff.1 hx).1
      have HPRE := Lib.hid hpre
      have HM3 := Lib.hid HI.out.1
      clear hWq hstay hmq hJq hatq hat c1 c2 y0 y1 y2 hsame hcell g1 g2 g3 hx hpre
      refine (wpIn_wide (n := 9)).1 ?_
      gi_wp2_with (((try refine ⟨fun h => (by cases h), ?_⟩); refine hR.mono ?_; clear hR; rintro e W2 ⟨S2, hm2, (⟨rfl, hj2⟩ | ⟨rfl, hx2⟩)⟩))
      · have hmv := HMQ.out.trans hm2
        have c2 : W2.cell? ⟨B + 1, 0, none⟩ = some (.int .i64 3) := (World.cell?_of_block (hmv.same (B + 1) HB2.out.lt HNB.out.2)).trans (HB2.out.cell 0)
        have HMV := Lib.hid hmv
        have HJ2 : Hid (J (xs.take (k + 1)) S2 W2) := Lib.hid (by rw [HTK.out]; exact hj2)
        clear hmv hm2 hj2 hy
        go_wp2_with fail
        go_roundw
        case rel => exact ⟨k + 1, m + 3, S2, by omega, by go_num, by have := HM3.out; omega, HKX.out, HMV.out, HJ2.out⟩
        case measure => simp [intOf]; omega
      · have HMV := Lib.hid (HMQ.out.trans hm2)
        have HX2 : Hid (Jx (xs.take k ++ [x]) S2 W2) := Lib.hid hx2
        clear hm2 hx2 hy
        go_wp2_with fail
        refine bodyPost_ret (results_none rfl _ _ _) rfl ?_
        exact ⟨⟨_, rfl⟩, S2, HMV.out, .inr ⟨_, HPRE.out, HX2.out⟩⟩
    · have hme : m = len := by omega
      subst hme
      go_wp2_with fail
      go_end0
      refine ⟨⟨_, rfl⟩, S', HI.out.2.2.1, .inl ?_⟩
      have h := HI.out.2.2.2
      rw [List.take_of_length_le (by have h1 := HI.out.1; have h2 := HLEN.out; omega)] at h
      exact h
end Go.Proofs.YtbdknncmlcbbpaaDoor

/-
  THE DECODER OF AN INTEGER, wire.GetInt, by its contract.
-/
namespace Go.Proofs.YtbdknncmlcbbpaaDoor
open Go.RowKit WM

def dInt : Dec Int → Value
  | .more => .tuple #[.int .i64 0, .int .i64 0, .int .i64 3]
  | .form => .tuple #[.int .i64 0, .int .i64 0, .int .i64 2]
  | .ok n u => .tuple #[.int .i64 n, .int .i64 (u : Int), .int .i64 0]

theorem getInt_nil (A : Option Addr) (c : Nat) (w : World) :
    Calls Tryd.prog 50 #[.slice A 0 c] w fun e w' => e = .returned (.tuple #[.int .i64 0, .int .i64 0, .int .i64 3]) ∧ w = w' := by
  go_enter Tryd.func50, Tryd.ntmps50
  go_wp2
  go_ret3
  exact ⟨rfl, rfl⟩

theorem tup3 {a b c a' b' c' : Int} (h1 : a = a') (h2 : b = b') (h3 : c = c') : Ending.returned (.tuple #[.int .i64 a, .int .i64 b, .int .i64 c]) = .returned (.tuple #[.int .i64 a', .int .i64 b', .int .i64 c']) := by rw [h1, h2, h3]
theorem val_succ (l : List UInt8) (j : Nat) (h : j < l.length) : val (l.take (j + 1)) = val (l.take j) * 256 + l[j].toNat := by
  rw [List.take_succ_eq_append_getElem h, val_snoc]
theorem val_take_lt (l : List UInt8) (j : Nat) (h : j ≤ 7) : val (l.take j) < 72057594037927936 := by
  have h1 := val_lt (l.take j)
  have h2 : (l.take j).length ≤ 7 := by rw [List.length_take]; omega
  have h3 : 256 ^ (l.take j).length ≤ 256 ^ 7 := Nat.pow_le_pow_right (by omega) h2
  omega
theorem val8_lt (l : List UInt8) (h : l.length ≤ 8) : val l < 18446744073709551616 := by
  have h1 := val_lt l
  have h3 : 256 ^ l.length ≤ 256 ^ 8 := Nat.pow_le_pow_right (by omega) h
  omega
theorem or_join (m d : Nat) (hm : m < 72057594037927936) (hd : d < 256) : bits .or .u64 ((m : Int) * 256) (d : Int) = ((m * 256 + d : Nat) : Int) := by
  rw [show ((m : Int) * 256) = ((m * 256 : Nat) : Int) by omega, u64_or_nat _ _ (by omega) (by omega), nat_join 8 _ _ (by omega) (by omega)]
/-- A number that does not fit is refused. -/
def fits (m : Nat) (d : Dec Int) : Dec Int := if 2 ^ 63 ≤ m then .form else d
theorem fits_no (m : Nat) (d : Dec Int) (h : 9223372036854775807 < m) : fits m d = .form := if_pos (by omega)
theorem fits_yes (m : Nat) (d : Dec Int) (h : m ≤ 9223372036854775807) : fits m d = d := if_neg (by omega)

set_option maxRecDepth 100000 in
theorem getInt_outP (b off n c x : Nat) (w : World) (hx : 136 < x) (hx2 : x < 256) (hn : 0 < n) (hnl : n ≤ 140737488355328) (hc : w.cell? ⟨b, off, none⟩ = some (.int .u8 (x : Int))) :
    Calls Tryd.prog 50 #[.slice (some ⟨b, off, none⟩) n c] w fun e w' => e = .returned (.tuple #[.int .i64 0, .int .i64 0, .int .i64 2]) ∧ w = w' := by
  have hx0 := xor0 x (by omega) (by omega)
  have hn0 : ((n : Int) == 0) = false := by simp; omega
  go_enter Tryd.func50, Tryd.ntmps50
  go_wp2
  go_ret3
  exact ⟨rfl, rfl⟩

set_option maxRecDepth 100000 in
theorem getInt_shortP (b off n c x : Nat) (w : World) (hx : 128 ≤ x) (hx2 : x ≤ 136) (hn : 0 < n) (hnl : n ≤ 140737488355328) (_hnc : n ≤ c) (hlt : n - 1 < (x - 128)) (hc : w.cell? ⟨b, off, none⟩ = some (.int .u8 (x : Int))) :
    Calls Tryd.prog 50 #[.slice (some ⟨b, off, none⟩) n c] w fun e w' => e = .returned (.tuple #[.int .i64 0, .int .i64 0, .int .i64 3]) ∧ w = w' := by
  have hx0 := xor0 x (by omega) (by omega)
  have hn0 : ((n : Int) == 0) = false := by simp; omega
  go_enter Tryd.func50, Tryd.ntmps50
  go_wp2
  all_goals
    go_ret3
    exact ⟨rfl, rfl⟩

set_option maxRecDepth 100000 in
theorem getInt_leadP (b off n c x : Nat) (w : World) (hx : 128 ≤ x) (hx2 : x ≤ 136) (hk : 0 < (x - 128)) (hn : 0 < n) (hnl : n ≤ 140737488355328) (hnc : n ≤ c) (hle : (x - 128) ≤ n - 1) (hc : w.cell? ⟨b, off, none⟩ = some (.int .u8 (x : Int)))
    (hd : w.cell? ⟨b, off + 1, none⟩ = some (.int .u8 0)) :
    Calls Tryd.prog 50 #[.slice (some ⟨b, off, none⟩) n c] w fun e w' => e = .returned (.tuple #[.int .i64 0, .int .i64 0, .int .i64 2]) ∧ w = w' := by
  have hx0 := xor0 x (by omega) (by omega)
  have hn0 : ((n : Int) == 0) = false := by simp; omega
  go_enter Tryd.func50, Tryd.ntmps50
  go_wp2
  go_ret3
  exact ⟨rfl, rfl⟩

set_option maxRecDepth 100000 in
theorem getInt_oneP (b off n c : Nat) (w : World) (hn : 0 < n) (hnl : n ≤ 140737488355328) (_hnc : n ≤ c) (hc : w.cell? ⟨b, off, none⟩ = some (.int .u8 128)) :
    Calls Tryd.prog 50 #[.slice (some ⟨b, off, none⟩) n c] w fun e w' => e = .returned (.tuple #[.int .i64 0, .int .i64 1, .int .i64 0]) ∧ w = w' := by
  have hx0 := xor0 128 (by omega) (by omega)
  have hn0 : ((n : Int) == 0) = false := by simp; omega
  go_enter Tryd.func50, Tryd.ntmps50
  go_wp2
  all_goals
    refine wp_loop_rounds 1 ?_
    rw [rounds_succ]
    go_wp2
    go_ret3
    exact ⟨rfl, rfl⟩

set_option maxRecDepth 100000 in
theorem getInt_loopP (b off n c x : Nat) (rs us : List UInt8) (w : World) (hx : 128 ≤ x) (hx2 : x ≤ 136) (hk : 0 < (x - 128)) (hn : 0 < n) (hnl : n ≤ 140737488355328) (hnc : n ≤ c) (hle : (x - 128) ≤ n - 1) (hc : w.cell? ⟨b, off, none⟩ = some (.int .u8 (x : Int)))
    (hrs : rs.length = (x - 128)) (hus : us = rs.map id) (hcs : ∀ j u, (bs rs)[j]? = some u → w.cell? ⟨b, off + 1 + j, none⟩ = some u) (hz : ∀ z : UInt8, rs.head? = some z → z.toNat ≠ 0) :
    Calls Tryd.prog 50 #[.slice (some ⟨b, off, none⟩) n c] w fun e w' => e = .returned (dInt (fits (val us) (.ok (val us : Int) (rs.length + 1)))) ∧ w = w' := by
  have hx0 := xor0 x (by omega) (by omega)
  have hn0 : ((n : Int) == 0) = false := by simp; omega
  have hr0 : 0 < rs.length := by omega
  have hc1 := hcs 0 _ (bs_get rs 0 hr0)
  have hz1 : ((rs[0].toNat : Int) == 0) = false := by
    have := hz rs[0] (by rw [List.head?_eq_getElem?]; exact List.getElem?_eq_getElem hr0)
    simp; omega
  obtain ⟨z, hzz⟩ : ∃ z, z = rs[0].toNat := ⟨_, rfl⟩
  rw [← hzz] at hc1 hz1
  rw [Nat.add_zero] at hc1
  have HRS := Lib.hid hrs
  have HUS := Lib.hid hus
  have HCS := Lib.hid hcs
  clear hrs hus hcs hzz hz
  go_enter Tryd.func50, Tryd.ntmps50
  go_wp2
  go_loop [8, 10, 46] (fun m _ i => ∃ j v : Nat, j ≤ (x - 128) ∧ i = .int .i64 j ∧ v < 18446744073709551616 ∧ m = .int .u64 v ∧ Hid (v = val (us.take j))) (fun _ _ i => (x - 128) - (intOf i).toNat)
  case atStart => exact ⟨0, 0, Nat.zero_le _, rfl, by omega, rfl, rfl⟩
  case round =>
    obtain ⟨j, v, hj, rfl, hv64, rfl, HV⟩ := hrel
    by_cases hlt : j < (x - 128)
    · have hjr : j < rs.length := by rw [HRS.out]; exact hlt
      have hcell := HCS.out j _ (bs_get rs j hjr)
      have hju : j < us.length := by rw [HUS.out, List.length_map]; exact hjr
      have hv7 : v < 72057594037927936 := by rw [HV.out]; exact val_take_lt us j (by omega)
      have hvs := val_succ us j hju
      rw [← HV.out] at hvs
      have huj : us[j].toNat = rs[j].toNat := by
        have : us[j]? = some (id rs[j]) := by rw [HUS.out, List.getElem?_map, List.getElem?_eq_getElem hjr]; rfl
        rw [List.getElem?_eq_getElem hju] at this
        rw [Option.some.inj this]; rfl
      rw [huj] at hvs
      have hb2 := rs[j].toNat_lt
      obtain ⟨y, hy⟩ : ∃ y, y = rs[j].toNat := ⟨_, rfl⟩
      rw [← hy] at hcell hvs hb2
      have hxy := xor0 y (by omega) (by omega)
      have hor := or_join v y hv7 (by omega)
      have HVS := Lib.hid hvs
      clear hvs huj hy
      go_wp2
      go_round
      case rel => exact ⟨j + 1, v * 256 + y, by omega, by go_num, by omega, by go_num, HVS.out.symm⟩
      case measure => simp [intOf]; omega
    · obtain rfl : j = (x - 128) := by omega
      have hvv : v = val us := by rw [HV.out, List.take_of_length_le]; rw [HUS.out, List.length_map, HRS.out]; exact Nat.le_refl _
      have HVV := Lib.hid hvv
      clear hvv
      by_cases hbig : 9223372036854775807 < v
      all_goals
        go_wp2
        go_ret3
        refine ⟨?_, rfl⟩
        rw [← HVV.out]
        first
          | (rw [fits_no _ _ hbig]; rfl)
          | (rw [fits_yes _ _ (by omega), HRS.out]; exact tup3 (by omega) (by omega) rfl)

set_option maxRecDepth 100000 in
theorem getInt_outN (b off n c x : Nat) (w : World) (hx : x < 119) (_hx2 : x < 256) (hn : 0 < n) (hnl : n ≤ 140737488355328) (hc : w.cell? ⟨b, off, none⟩ = some (.int .u8 (x : Int))) :
    Calls Tryd.prog 50 #[.slice (some ⟨b, off, none⟩) n c] w fun e w' => e = .returned (.tuple #[.int .i64 0, .int .i64 0, .int .i64 2]) ∧ w = w' := by
  have hx0 := xor255 x (by omega) (by omega)
  have hn0 : ((n : Int) == 0) = false := by simp; omega
  go_enter Tryd.func50, Tryd.ntmps50
  go_wp2
  go_ret3
  exact ⟨rfl, rfl⟩

set_option maxRecDepth 100000 in
theorem getInt_shortN (b off n c x : Nat) (w : World) (hx : 119 ≤ x) (hx2 : x ≤ 127) (hn : 0 < n) (hnl : n ≤ 140737488355328) (_hnc : n ≤ c) (hlt : n - 1 < (127 - x)) (hc : w.cell? ⟨b, off, none⟩ = some (.int .u8 (x : Int))) :
    Calls Tryd.prog 50 #[.slice (some ⟨b, off, none⟩) n c] w fun e w' => e = .returned (.tuple #[.int .i64 0, .int .i64 0, .int .i64 3]) ∧ w = w' := by
  have hx0 := xor255 x (by omega) (by omega)
  have hn0 : ((n : Int) == 0) = false := by simp; omega
  go_enter Tryd.func50, Tryd.ntmps50
  go_wp2
  all_goals
    go_ret3
    exact ⟨rfl, rfl⟩

set_option maxRecDepth 100000 in
theorem getInt_leadN (b off n c x : Nat) (w : World) (hx : 119 ≤ x) (hx2 : x ≤ 127) (hk : 0 < (127 - x)) (hn : 0 < n) (hnl : n ≤ 140737488355328) (hnc : n ≤ c) (hle : (127 - x) ≤ n - 1) (hc : w.cell? ⟨b, off, none⟩ = some (.int .u8 (x : Int)))
    (hd : w.cell? ⟨b, off + 1, none⟩ = some (.int .u8 255)) :
    Calls Tryd.prog 50 #[.slice (some ⟨b, off, none⟩) n c] w fun e w' => e = .returned (.tuple #[.int .i64 0, .int .i64 0, .int .i64 2]) ∧ w = w' := by
  have hx0 := xor255 x (by omega) (by omega)
  have hn0 : ((n : Int) == 0) = false := by simp; omega
  go_enter Tryd.func50, Tryd.ntmps50
  go_wp2
  go_ret3
  exact ⟨rfl, rfl⟩

set_option maxRecDepth 100000 in
theorem getInt_oneN (b off n c : Nat) (w : World) (hn : 0 < n) (hnl : n ≤ 140737488355328) (_hnc : n ≤ c) (hc : w.cell? ⟨b, off, none⟩ = some (.int .u8 127)) :
    Calls Tryd.prog 50 #[.slice (some ⟨b, off, none⟩) n c] w fun e w' => e = .returned (.tuple #[.int .i64 (-1), .int .i64 1, .int .i64 0]) ∧ w = w' := by
  have hx0 := xor255 127 (by omega) (by omega)
  have hn0 : ((n : Int) == 0) = false := by simp; omega
  go_enter Tryd.func50, Tryd.ntmps50
  go_wp2
  all_goals
    refine wp_loop_rounds 1 ?_
    rw [rounds_succ]
    go_wp2
    go_ret3
    exact ⟨rfl, rfl⟩

set_option maxRecDepth 100000 in
theorem getInt_loopN (b off n c x : Nat) (rs us : List UInt8) (w : World) (hx : 119 ≤ x) (hx2 : x ≤ 127) (hk : 0 < (127 - x)) (hn : 0 < n) (hnl : n ≤ 140737488355328) (hnc : n ≤ c) (hle : (127 - x) ≤ n - 1) (hc : w.cell? ⟨b, off, none⟩ = some (.int .u8 (x : Int)))
    (hrs : rs.length = (127 - x)) (hus : us = rs.map flip) (hcs : ∀ j u, (bs rs)[j]? = some u → w.cell? ⟨b, off + 1 + j, none⟩ = some u) (hz : ∀ z : UInt8, rs.head? = some z → z.toNat ≠ 255) :
    Calls Tryd.prog 50 #[.slice (some ⟨b, off, none⟩) n c] w fun e w' => e = .returned (dInt (fits (val us) (.ok (-1 - (val us : Int)) (rs.length + 1)))) ∧ w = w' := by
  have hx0 := xor255 x (by omega) (by omega)
  have hn0 : ((n : Int) == 0) = false := by simp; omega
  have hr0 : 0 < rs.length := by omega
  have hc1 := hcs 0 _ (bs_get rs 0 hr0)
  have hz1 : ((rs[0].toNat : Int) == 255) = false := by
    have := hz rs[0] (by rw [List.head?_eq_getElem?]; exact List.getElem?_eq_getElem hr0)
    simp; omega
  obtain ⟨z, hzz⟩ : ∃ z, z = rs[0].toNat := ⟨_, rfl⟩
  rw [← hzz] at hc1 hz1
  rw [Nat.add_zero] at hc1
  have HRS := Lib.hid hrs
  have HUS := Lib.hid hus
  have HCS := Lib.hid hcs
  clear hrs hus hcs hzz hz
  go_enter Tryd.func50, Tryd.ntmps50
  go_wp2
  go_loop [8, 10, 46] (fun m _ i => ∃ j v : Nat, j ≤ (127 - x) ∧ i = .int .i64 j ∧ v < 18446744073709551616 ∧ m = .int .u64 v ∧ Hid (v = val (us.take j))) (fun _ _ i => (127 - x) - (intOf i).toNat)
  case atStart => exact ⟨0, 0, Nat.zero_le _, rfl, by omega, rfl, rfl⟩
  case round =>
    obtain ⟨j, v, hj, rfl, hv64, rfl, HV⟩ := hrel
    by_cases hlt : j < (127 - x)
    · have hjr : j < rs.length := by rw [HRS.out]; exact hlt
      have hcell := HCS.out j _ (bs_get rs j hjr)
      have hju : j < us.length := by rw [HUS.out, List.length_map]; exact hjr
      have hv7 : v < 72057594037927936 := by rw [HV.out]; exact val_take_lt us j (by omega)
      have hvs := val_succ us j hju
      rw [← HV.out] at hvs
      have huj : us[j].toNat = 255 - rs[j].toNat := by
        have : us[j]? = some (flip rs[j]) := by rw [HUS.out, List.getElem?_map, List.getElem?_eq_getElem hjr]; rfl
        rw [List.getElem?_eq_getElem hju] at this
        rw [Option.some.inj this]; exact flip_toNat _
      rw [huj] at hvs
      have hb2 := rs[j].toNat_lt
      obtain ⟨y, hy⟩ : ∃ y, y = rs[j].toNat := ⟨_, rfl⟩
      rw [← hy] at hcell hvs hb2
      have hxy := xor255 y (by omega) (by omega)
      have hor : bits .or .u64 ((v : Int) * 256) (255 - (y : Int)) = (v : Int) * 256 + (255 - (y : Int)) := by
        have h := or_join v (255 - y) hv7 (by omega)
        rw [show (255 - (y : Int)) = ((255 - y : Nat) : Int) by omega, h]
        omega
      have HVS := Lib.hid hvs
      clear hvs huj hy
      go_wp2
      go_round
      case rel => exact ⟨j + 1, v * 256 + (255 - y), by omega, by go_num, by omega, by go_num, HVS.out.symm⟩
      case measure => simp [intOf]; omega
    · obtain rfl : j = (127 - x) := by omega
      have hvv : v = val us := by rw [HV.out, List.take_of_length_le]; rw [HUS.out, List.length_map, HRS.out]; exact Nat.le_refl _
      have HVV := Lib.hid hvv
      clear hvv
      by_cases hbig : 9223372036854775807 < v
      all_goals
        go_wp2
        go_ret3
        refine ⟨?_, rfl⟩
        rw [← HVV.out]
        first
          | (rw [fits_no _ _ hbig]; rfl)
          | (rw [fits_yes _ _ (by omega), HRS.out]; exact tup3 (by omega) (by omega) rfl)

theorem head_take (t : List UInt8) (k : Nat) (hk : 0 < k) : (t.take k).head? = t.head? := by
  cases t with
  | nil => simp
  | cons a t => cases k with
    | zero => omega
    | succ k => rfl

theorem getInt (B : Nat) (A : Option Addr) (c : Nat) (l : List UInt8) (w : World) (ha : Reads w B 1 A l.length (bs l)) (hlc : l.length ≤ c) (hl : l.length ≤ 140737488355328) :
    Calls Tryd.prog 50 #[.slice A l.length c] w fun e w' => e = .returned (dInt (gInt l)) ∧ w = w' := by
  match l, ha, hlc, hl with
  | [], _, _, _ => exact getInt_nil A c w
  | x :: t, ha, hlc, hl =>
    obtain ⟨b, off, rfl, _, hcell⟩ := ha.lit (by simp)
    have hc0 : w.cell? ⟨b, off + 0, none⟩ = some (.int .u8 (x.toNat : Int)) := hcell 0 _ rfl
    rw [Nat.add_zero] at hc0
    have hx2 := x.toNat_lt
    have hn : 0 < (x :: t).length := by simp
    have hlen : (x :: t).length - 1 = t.length := by simp
    have hct : ∀ j u, (bs t)[j]? = some u → w.cell? ⟨b, off + 1 + j, none⟩ = some u := by
      intro j u hu
      have := hcell (j + 1) u (by rw [bs_cons, List.getElem?_cons_succ]; exact hu)
      rwa [show off + (j + 1) = off + 1 + j by omega] at this
    by_cases hbig : 128 ≤ x.toNat
    · have hk : kOf x = x.toNat - 128 := by unfold kOf; rw [if_pos hbig]
      have hu : ∀ l, unm x l = l := fun l => by unfold unm; rw [if_pos hbig]
      have hs : ∀ m, sgn x m = (m : Int) := fun m => by unfold sgn; rw [if_pos hbig]
      by_cases h8 : 136 < x.toNat
      · have hg : gInt (x :: t) = .form := by simp only [gInt]; rw [if_pos (by omega)]
        rw [hg]
        exact getInt_outP b off _ c _ w h8 hx2 hn hl hc0
      by_cases hsh : t.length < kOf x
      · have hg : gInt (x :: t) = .more := by simp only [gInt]; rw [if_neg (by omega), if_pos hsh]
        rw [hg]
        exact getInt_shortP b off _ c _ w hbig (by omega) hn hl hlc (by omega) hc0
      by_cases hk0 : kOf x = 0
      · have hx128 : x.toNat = 128 := by omega
        have hg : gInt (x :: t) = .ok 0 1 := by
          simp only [gInt, hk0, hu, hs, List.take_zero]
          rw [if_neg (by omega), if_neg (by omega), if_neg (by simp), if_neg (by simp [val])]
          rfl
        rw [hg]
        rw [hx128] at hc0
        exact getInt_oneP b off _ c w hn hl hlc hc0
      have hlt : (t.take (kOf x)).length = kOf x := by rw [List.length_take]; omega
      by_cases hz : t.head? = some 0
      · have hg : gInt (x :: t) = .form := by
          simp only [gInt, hu]
          rw [if_neg (by omega), if_neg hsh, if_pos (by rw [head_take _ _ (by omega)]; exact hz)]
        rw [hg]
        have hd := hct 0 (.int .u8 0) (by cases t with | nil => simp at hz | cons a t => simp at hz; subst hz; rfl)
        exact getInt_leadP b off _ c _ w hbig (by omega) (by omega) hn hl hlc (by omega) hc0 (by simpa using hd)
      · have hg : gInt (x :: t) = fits (val (t.take (kOf x))) (.ok (val (t.take (kOf x)) : Int) (kOf x + 1)) := by
          simp only [gInt, hu, hs]
          rw [if_neg (by omega), if_neg hsh, if_neg (by rw [head_take _ _ (by omega)]; exact hz)]
          rfl
        rw [hg]
        have := getInt_loopP b off _ c _ (t.take (kOf x)) (t.take (kOf x)) w hbig (by omega) (by omega) hn hl hlc (by omega) hc0 (by omega) (by simp)
          (fun j u hu => hct j u (by rw [← bs_take] at hu; rw [List.getElem?_take] at hu; split at hu; exact hu; cases hu))
          (fun z hz2 e => hz (by rw [head_take _ _ (by omega)] at hz2; rw [hz2]; congr 1; exact UInt8.toNat_inj.1 e))
        rwa [hlt] at this
    · have hk : kOf x = 127 - x.toNat := by unfold kOf; rw [if_neg hbig]
      have hu : ∀ l, unm x l = l.map flip := fun l => by unfold unm; rw [if_neg hbig]
      have hs : ∀ m, sgn x m = -1 - (m : Int) := fun m => by unfold sgn; rw [if_neg hbig]
      by_cases h8 : x.toNat < 119
      · have hg : gInt (x :: t) = .form := by simp only [gInt]; rw [if_pos (by omega)]
        rw [hg]
        exact getInt_outN b off _ c _ w h8 hx2 hn hl hc0
      by_cases hsh : t.length < kOf x
      · have hg : gInt (x :: t) = .more := by simp only [gInt]; rw [if_neg (by omega), if_pos hsh]
        rw [hg]
        exact getInt_shortN b off _ c _ w (by omega) (by omega) hn hl hlc (by omega) hc0
      by_cases hk0 : kOf x = 0
      · have hx128 : x.toNat = 127 := by omega
        have hg : gInt (x :: t) = .ok (-1) 1 := by
          simp only [gInt, hk0, hu, hs, List.take_zero]
          rw [if_neg (by omega), if_neg (by omega), if_neg (by simp), if_neg (by simp [val])]
          rfl
        rw [hg]
        rw [hx128] at hc0
        exact getInt_oneN b off _ c w hn hl hlc hc0
      have hlt : (t.take (kOf x)).length = kOf x := by rw [List.length_take]; omega
      have hfl : ∀ z : UInt8, flip z = 0 ↔ z.toNat = 255 := fun z => by
        rw [← UInt8.toNat_inj, flip_toNat]; have := z.toNat_lt; simp; omega
      by_cases hz : ∃ z, t.head? = some z ∧ z.toNat = 255
      · obtain ⟨z, hz1, hz2⟩ := hz
        have hg : gInt (x :: t) = .form := by
          simp only [gInt, hu]
          rw [if_neg (by omega), if_neg hsh, if_pos (by rw [List.head?_map, head_take _ _ (by omega), hz1]; simp [hfl, hz2])]
        rw [hg]
        have hd := hct 0 (.int .u8 255) (by cases t with | nil => simp at hz1 | cons a t => simp at hz1; subst hz1; rw [bs_cons, hz2]; rfl)
        exact getInt_leadN b off _ c _ w (by omega) (by omega) (by omega) hn hl hlc (by omega) hc0 (by simpa using hd)
      · have hg : gInt (x :: t) = fits (val ((t.take (kOf x)).map flip)) (.ok (-1 - (val ((t.take (kOf x)).map flip) : Int)) (kOf x + 1)) := by
          simp only [gInt, hu, hs]
          rw [if_neg (by omega), if_neg hsh, if_neg]
          · rfl
          · rw [List.head?_map, head_take _ _ (by omega)]
            intro e
            cases ht : t.head? with
            | none => rw [ht] at e; simp at e
            | some z => rw [ht] at e; simp at e; exact hz ⟨z, ht, (hfl z).1 e⟩
        rw [hg]
        have := getInt_loopN b off _ c _ (t.take (kOf x)) ((t.take (kOf x)).map flip) w (by omega) (by omega) (by omega) hn hl hlc (by omega) hc0 (by omega) rfl
          (fun j u hu => hct j u (by rw [← bs_take] at hu; rw [List.getElem?_take] at hu; split at hu; exact hu; cases hu))
          (fun z hz2 e => hz ⟨z, by rw [head_take _ _ (by omega)] at hz2; exact hz2, e⟩)
        rwa [hlt] at this
end Go.Proofs.YtbdknncmlcbbpaaDoor
