/-
  slices.Repeat of one shape; math/bits.Mul of 1.
-/
import Derived.Test.YtdhmaopodcccmaaDoorG16
import Derived.Laws.MathBits
import Derived.Laws.Bits64b
set_option linter.unusedVariables false
namespace Go.Proofs.YtdhmaopodcccmaaDoor
open Go.RowKit WM TR KM

set_option maxHeartbeats 1000000 in
theorem mul64_one (n : Nat) (hn : n < 4294967296) (w : World) : Calls Tryd.prog 96 #[.int .u64 1, .int .u64 (n : Int)] w fun e w' => e = .returned (.tuple #[.int .u64 0, .int .u64 (n : Int)]) ∧ w = w' := by
  have h1 : bits .and .u64 1 4294967295 = 1 := by kernel_rfl
  have h2 : bits .and .u64 (n : Int) 4294967295 = (n : Int) := by rw [and_low32 _ (by omega) (by omega)]; omega
  have h3 : (n : Int) / 4294967296 = 0 := by omega
  have h4 : IntKind.u64.wrap (n : Int) = (n : Int) := by rw [IntKind.wrap_u64]; omega
  have h5 : bits .and .u64 0 4294967295 = 0 := by kernel_rfl
  go_enter Tryd.func96, Tryd.ntmps96
  go_wp2
  go_ret2
  exact ⟨rfl, rfl⟩
theorem mul_one_ (n : Nat) (hn : n < 4294967296) (w : World) : Calls Tryd.prog 88 #[.int .u64 1, .int .u64 (n : Int)] w fun e w' => e = .returned (.tuple #[.int .u64 0, .int .u64 (n : Int)]) ∧ w = w' := by
  go_enter Tryd.func88, Tryd.ntmps88
  go_wp2_with (go_at_call 96; refine (mul64_one n hn _).mono ?_; rintro e w' ⟨rfl, rfl⟩)
  go_ret2
  exact ⟨rfl, rfl⟩
/-- A copy of wide elements between rows, kept shut. -/
def cpS (ts : Array TypeId) (t : TypeId) (vs : Array Value) : Sem Value := Builtin.copy_ ts t vs
theorem shutCp (ts : Array TypeId) (t : TypeId) (vs : Array Value) : Builtin.copy_ ts t vs = cpS ts t vs := rfl
theorem run_copy_wide {P : Program} (w : World) (dT sT ty elem : TypeId) (k g o dLen dCap : Nat) (a : Addr) (sLen sCap : Nat) (cur : Array Value) (t : TypeId) (cs : List Value)
    (hu : P.underlying dT = some (.slice elem)) (hs : (P.info? elem).map (·.size) = some k)
    (hg : w.heap[g]? = some (.cells cur t (0, 0))) (hn : cs.length = Nat.min sLen dLen * k)
    (hsrc : ∀ j v, cs[j]? = some v → w.cell? (a.add j) = some v) (hfit : o + cs.length ≤ cur.size) (h1 : ∀ v ∈ cs, v.oneCell' = true) :
    (Builtin.copy_ #[dT, sT] ty #[.slice (some ⟨g, o, none⟩) dLen dCap, .slice (some a) sLen sCap]).run P w =
      .ok (goInt (Nat.min sLen dLen : Nat)) (w.setRow g (cur.toList.take o ++ cs ++ cur.toList.drop (o + cs.length)).toArray) := by
  have hl := run_loadCells_list (P := P) w a cs hsrc
  have hst := run_storeCells_at P g o t cs 0 cur w hg (by simpa using hfit) h1
  cases hq : P.info? elem with
  | none => simp [hq] at hs
  | some i =>
    have hi : i.size = k := by simpa [hq] using hs
    simp [Builtin.copy_, run_underlying hu, Builtin.lenOf, Builtin.firstCells, sizeOf, typeInfo, hq, hi, ← hn, hl, hst]
def nos (m : Nat) : List Sh := List.replicate m noS
theorem nos33 (m : Nat) : All33 (nos m) := fun s hs => by rw [List.eq_of_mem_replicate hs]; simp [noS, zs33]
theorem shCs_append : ∀ l m : List Sh, shCs (l ++ m) = shCs l ++ shCs m
  | [], m => rfl
  | x :: l, m => by rw [List.cons_append, shCs, shCs_append l m, shCs, List.append_assoc]
theorem shCs_one : ∀ (l : List Sh), ∀ u ∈ shCs l, u.oneCell' = true
  | [], u, h => by cases h
  | x :: l, u, h => by
    rcases List.mem_append.1 h with h | h
    · exact shC_one x u h
    · exact shCs_one l u h
theorem nos_len (m : Nat) : (shCs (nos m)).length = m * 34 := by rw [shCs_length _ (nos33 m)]; simp [nos]
theorem nos_add (m q : Nat) : shCs (nos (m + q)) = shCs (nos m) ++ shCs (nos q) := by rw [← shCs_append]; unfold nos; rw [List.replicate_append_replicate]
/-- While it is being filled: the first m shapes are there. -/
structure Fil (w : World) (wr : World) (g n m : Nat) (cur : Array Value) : Prop where
  blk : Blk wr g 117 cur
  size : cur.size = n * 34
  head : cur.toList.take (m * 34) = shCs (nos m)
  low : w.heap.size ≤ g
  below : Below w.heap.size w wr
theorem Fil.src {w wr : World} {g n m : Nat} {cur : Array Value} (h : Fil w wr g n m cur) (q : Nat) (hq : q ≤ m) : ∀ j v, (shCs (nos q))[j]? = some v → wr.cell? ((⟨g, 0, none⟩ : Addr).add j) = some v := by
  intro j v hv
  rw [Addr.add_lit, Nat.zero_add, h.blk.cell j]
  obtain ⟨p, rfl⟩ : ∃ p, m = q + p := ⟨m - q, by omega⟩
  have h2 := h.head
  rw [nos_add] at h2
  have h3 : (cur.toList.take ((q + p) * 34))[j]? = some v := by
    rw [h2, List.getElem?_append_left (List.getElem?_eq_some_iff.1 hv).1]; exact hv
  rw [List.getElem?_take] at h3
  split at h3
  · simpa using h3
  · cases h3
theorem Fil.step {w wr : World} {g n m q : Nat} {cur : Array Value} (h : Fil w wr g n m cur) (hq : m + q ≤ n) : Fil w (wr.setRow g (cur.toList.take (m * 34) ++ shCs (nos q) ++ cur.toList.drop (m * 34 + (shCs (nos q)).length)).toArray) g n (m + q) (cur.toList.take (m * 34) ++ shCs (nos q) ++ cur.toList.drop (m * 34 + (shCs (nos q)).length)).toArray := by
  have hl : cur.toList.length = n * 34 := by simpa using h.size
  refine ⟨h.blk.setRow _, ?_, ?_, h.low, below_setRow h.below h.low _⟩
  · rw [List.size_toArray, List.length_append, List.length_append, List.length_take, List.length_drop, nos_len, hl]; omega
  · show List.take _ (_ ++ _ ++ _) = _
    rw [h.head, nos_add, List.take_append_of_le_length (by rw [List.length_append, nos_len, nos_len]; omega), List.take_of_length_le (by rw [List.length_append, nos_len, nos_len]; omega)]
theorem made_sh (n : Nat) (hn : n ≤ 5000) (W : World) : ∃ cur, cur.size = n * 34 ∧ (Instr.makeSlice 112 (.int .i64 (n : Int)) (.int .i64 (n : Int))).run Tryd.prog W = .ok (.slice (some ⟨W.heap.size, 0, none⟩) n n) (W.alloc (.cells cur 117)) := by
  have hinfo : (Tryd.prog.info? 117).map (fun i => (i.zero.isSome, i.size, i.bytes)) = some (true, 34, 80) := by kernel_rfl
  obtain ⟨i, hi, hzz⟩ := Option.map_eq_some_iff.1 hinfo
  simp only [Prod.mk.injEq] at hzz
  obtain ⟨hz, hs, hb⟩ := hzz
  obtain ⟨z, hz⟩ := Option.isSome_iff_exists.1 hz
  have hr := run_make (P := Tryd.prog) W 112 117 i z Tryd.underlying112 hi hz .i64 .i64 (n : Int) (n : Int) (by omega) (Int.le_refl _) (by rw [hb]; omega) (by omega)
  simp only [Int.toNat_natCast, hs] at hr
  exact ⟨_, size_madeCells _ _, hr⟩
theorem cutL (g n m : Nat) (hm : m < n) : ∀ W : World, (Instr.sliceAt 112 (.slice (some ⟨g, 0, none⟩) n n) (some (.int .i64 (m : Int))) none none).run Tryd.prog W = .ok (.slice (some ⟨g, m * 34, none⟩) (n - m) (n - m)) W := by
  intro W
  have he : Tryd.prog.elem 112 = 117 := by kernel_rfl
  have hu : Tryd.prog.underlying 112 = some (.slice (Tryd.prog.elem 112)) := by kernel_rfl
  have h34 : (sizeOf 117).run Tryd.prog W = .ok 34 W := by kernel_rfl
  rw [run_sliceAt_slice W 112 _ _ _ _ hu, run_slice_l W 112 (some ⟨g, 0, none⟩) n n hu .i64 m (by omega) (by omega), he, h34]
  have h2 : ¬ n = m := by omega
  simp [sliced, h2, Addr.add]
  omega
theorem cutH (g n m : Nat) (hm : m ≤ n) (h0 : 0 < n) : ∀ W : World, (Instr.sliceAt 112 (.slice (some ⟨g, 0, none⟩) n n) none (some (.int .i64 (m : Int))) none).run Tryd.prog W = .ok (.slice (some ⟨g, 0, none⟩) m n) W := by
  intro W
  have he : Tryd.prog.elem 112 = 117 := by kernel_rfl
  have hu : Tryd.prog.underlying 112 = some (.slice (Tryd.prog.elem 112)) := by kernel_rfl
  have h34 : (sizeOf 117).run Tryd.prog W = .ok 34 W := by kernel_rfl
  rw [run_sliceAt_slice W 112 _ _ _ _ hu, run_slice_h W 112 (some ⟨g, 0, none⟩) n n hu .i64 m (by omega) (by omega), he, h34]
  have h2 : ¬ n = 0 := by omega
  simp [sliced, h2, Addr.add]
attribute [local go_sem ↓ high] shutCp
set_option maxRecDepth 100000 in
set_option maxHeartbeats 4000000 in
theorem rpt_is (gx n : Nat) (w : World) (hx : Blk w gx 117 (shC noS).toArray) (hn : 1 ≤ n ∧ n ≤ 5000) :
    Calls Tryd.prog 74 #[.slice (some ⟨gx, 0, none⟩) 1 1, .int .i64 (n : Int)] w fun e w' => ∃ g, e = .returned (.slice (some ⟨g, 0, none⟩) n n) ∧ w.heap.size ≤ g ∧ w'.ownsRow w.heap.size 117 34 (.slice (some ⟨g, 0, none⟩) n n) n (shCs (nos n)) ∧ Below w.heap.size w w' := by
  obtain ⟨cur, hcs, hmk⟩ := made_sh n hn.2 w
  have hw1 : IntKind.u64.wrap (n : Int) = (n : Int) := by rw [IntKind.wrap_u64]; omega
  have hw2 : IntKind.i64.wrap (n : Int) = (n : Int) := by rw [IntKind.wrap_i64]; omega
  have hd0 : decide ((n : Int) < 0) = false := by simp
  have hd1 : decide ((n : Int) > 9223372036854775807) = false := by simp; omega
  have HM : Hid (Calls Tryd.prog 88 #[.int .u64 1, .int .u64 (n : Int)] w fun e w' => e = .returned (.tuple #[.int .u64 0, .int .u64 (n : Int)]) ∧ w = w') := Lib.hid (mul_one_ n (by omega) w)
  obtain ⟨g, hg⟩ : ∃ g, g = w.heap.size := ⟨_, rfl⟩
  obtain ⟨W1, hW1⟩ : ∃ W1, W1 = w.alloc (.cells cur 117) := ⟨_, rfl⟩
  have hF0 : Fil w W1 g n 0 cur := ⟨by rw [hW1, hg]; exact Blk.new _ _ _, hcs, rfl, Nat.le_of_eq hg.symm, by rw [hW1]; exact below_new _ _⟩
  have hsrc : ∀ j v, (shCs (nos 1))[j]? = some v → W1.cell? ((⟨gx, 0, none⟩ : Addr).add j) = some v := fun j v hv => by
    have hb := hx.below (w' := W1) (by rw [hW1]; exact below_new _ _) hx.lt
    rw [Addr.add_lit, Nat.zero_add, hb.cell j]
    simpa [nos, shCs] using hv
  have hcp := run_copy_wide (P := Tryd.prog) W1 112 112 3 117 34 g 0 n n ⟨gx, 0, none⟩ 1 1 cur 117 (shCs (nos 1)) Tryd.underlying112 size_sh hF0.blk (by rw [nos_len, show Nat.min 1 n = 1 from Nat.min_eq_left hn.1]) hsrc (by rw [nos_len, hcs]; omega) (shCs_one _)
  have hF1 := hF0.step (q := 1) (by omega)
  rw [show (0 : Nat) * 34 = 0 from rfl] at hF1
  rw [show Nat.min 1 n = 1 from Nat.min_eq_left hn.1] at hcp
  obtain ⟨W2, hW2⟩ : ∃ W2, W2 = W1.setRow g (cur.toList.take 0 ++ shCs (nos 1) ++ cur.toList.drop (0 + (shCs (nos 1)).length)).toArray := ⟨_, rfl⟩
  rw [← hW2] at hcp hF1
  have hcp2 : (cpS #[112, 112] 3 #[.slice (some ⟨g, 0, none⟩) n n, .slice (some ⟨gx, 0, none⟩) 1 1]).run Tryd.prog W1 = .ok (.int .i64 1) W2 := hcp
  have HF1 : Hid (∃ cur1, Fil w W2 g n 1 cur1) := Lib.hid ⟨_, hF1⟩
  rw [← hW1, ← hg] at hmk
  have HGW := Lib.hid hg
  clear hcp hF0 hF1 hW2 hW1 hsrc hx hcs hg
  go_enter Tryd.func74, Tryd.ntmps74
  go_wp2_with (go_at_call 88; refine HM.out.mono ?_; rintro e w' ⟨rfl, rfl⟩)
  go_loopw [8] (fun s wr => ∃ m : Nat, 1 ≤ m ∧ m ≤ n ∧ s = .int .i64 m ∧ Hid (∃ cur1, Fil w wr g n m cur1)) (fun s _ => n - (intOf s).toNat)
  case atStart => exact ⟨1, Nat.le_refl _, hn.1, rfl, HF1.out⟩
  case round =>
    obtain ⟨m, hm1, hmn, rfl, HF⟩ := hrel
    clear HF1 HM hcp2 hmk hw1 hw2 hd0 hd1
    by_cases hlt : m < n
    · have hlt2 : (m : Int) < n := by omega
      obtain ⟨cur1, hF⟩ := HF.out
      have hFd : Fil w wr.drew g n m cur1 := ⟨hF.blk, hF.size, hF.head, hF.low, hF.below.drew⟩
      obtain ⟨q, hq⟩ : ∃ q, Nat.min m (n - m) = q := ⟨_, rfl⟩
      have hqb : 1 ≤ q ∧ q ≤ m ∧ m + q ≤ n := by
        have h1 := Nat.min_le_left m (n - m)
        have h2 := Nat.min_le_right m (n - m)
        have h3 : 1 ≤ Nat.min m (n - m) := Nat.le_min.2 ⟨hm1, by omega⟩
        have e : Nat.min m (n - m) = min m (n - m) := rfl
        omega
      have hcp := run_copy_wide (P := Tryd.prog) wr.drew 112 112 3 117 34 g (m * 34) (n - m) (n - m) ⟨g, 0, none⟩ m n cur1 117 (shCs (nos q)) Tryd.underlying112 size_sh hFd.blk (by rw [nos_len, hq]) (hFd.src q hqb.2.1) (by rw [nos_len, hFd.size]; omega) (shCs_one _)
      have hF2 := hFd.step (q := q) hqb.2.2
      obtain ⟨W5, hW5⟩ : ∃ W5, W5 = wr.drew.setRow g (cur1.toList.take (m * 34) ++ shCs (nos q) ++ cur1.toList.drop (m * 34 + (shCs (nos q)).length)).toArray := ⟨_, rfl⟩
      rw [← hW5] at hcp hF2
      rw [hq] at hcp
      have hcp3 : (cpS #[112, 112] 3 #[.slice (some ⟨g, m * 34, none⟩) (n - m) (n - m), .slice (some ⟨g, 0, none⟩) m n]).run Tryd.prog wr.drew = .ok (.int .i64 (q : Int)) W5 := hcp
      have HF2 : Hid (∃ cur2, Fil w W5 g n (m + q) cur2) := Lib.hid ⟨_, hF2⟩
      have hL := cutL g n m hlt
      have hH := cutH g n m hmn (by omega)
      have hwq : IntKind.i64.wrap ((m : Int) + (q : Int)) = (m : Int) + (q : Int) := by rw [IntKind.wrap_i64]; omega
      clear hcp hF2 hW5 hF hFd hq HF
      go_wp2_with fail
      go_region_with fail
      all_goals
        go_simp
        go_roundw
        case rel => exact ⟨.int .i64 ((m : Int) + (q : Int)), _, _, _, _, _, _, _, _, _, _, _, _, _, ⟨m + q, by omega, hqb.2.2, by go_num, HF2.out⟩, rfl⟩
        case measure => simp [intOf]; omega
    · have hme : m = n := by omega
      subst hme
      go_wp2_with fail
      go_ret
      obtain ⟨cur1, hF⟩ := HF.out
      refine ⟨g, rfl, hF.low, ⟨by rw [nos_len], .inr ⟨g, m, cur1, rfl, hF.low, hF.blk, Nat.le_refl _, by unfold maxLen; omega, hF.size, hF.head⟩⟩, hF.below⟩
end Go.Proofs.YtdhmaopodcccmaaDoor
