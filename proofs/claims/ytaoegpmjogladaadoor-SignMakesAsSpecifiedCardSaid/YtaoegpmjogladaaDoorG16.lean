/-
  The closures of sign.Verify.
-/
import Derived.Test.YtaoegpmjogladaaDoorG15
import Derived.Lib.IndexBytes
import Derived.Test.YtaoegpmjogladaaDoorG08
import Derived.Outline
import Derived.Test.YtaoegpmjogladaaDoorG02
set_option linter.unusedVariables false
namespace Go.Proofs.YtaoegpmjogladaaDoor
open Go.RowKit WM
attribute [local go_sem ↓] shut16

theorem str_drop (s : ByteArray) (k : Nat) : s.extract k s.size = str (s.data.toList.drop k) := by
  apply ByteArray.ext
  apply Array.toList_inj.1
  rw [Lib.extract_to_end]
  simp [str]
theorem strSlice (s : ByteArray) (k : Nat) (z : Int) (hz : z = (k : Int)) (h : k ≤ s.size) (W : World) : (Instr.sliceAt 9 (.string s) (some (.int .i64 z)) none none).run Tryd.prog W = .ok (.string (str (s.data.toList.drop k))) W := by
  subst hz
  go_simp
  exact str_drop s k

set_option maxRecDepth 100000 in
set_option maxHeartbeats 2000000 in
theorem partClo (s : ByteArray) (j gr : Nat) (w : World) (hgr : Blk w gr 9 #[.string s]) (hj : j * 16 + 16 ≤ s.size) (hm : s.size ≤ 1000000) :
    Calls Tryd.prog 52 #[.int .i64 (j : Int), .pointer (some ⟨gr, 0, none⟩)] w fun e w' => e = .returned (.agg (bs (partB s.data.toList j)).toArray) ∧ Below w.heap.size w w' := by
  have hz := Tryd.zero29
  have hsl := strSlice s (16 * j) ((j : Int) * 16) (by omega) (by omega)
  obtain ⟨x, hx⟩ : ∃ x, x = partB s.data.toList j := ⟨_, rfl⟩
  have hdl : (s.data.toList.drop (16 * j)).length = s.size - 16 * j := by rw [List.length_drop, size_list]
  have hxl : x.length = 16 := by rw [hx, partB, List.length_take, hdl]; omega
  rw [← hx]
  have HX := Lib.hid (show (s.data.toList.drop (16 * j)).take 16 = x from hx.symm)
  have HXL := Lib.hid hxl
  have HDL := Lib.hid hdl
  have HS16 := Lib.hid (size16 hxl)
  have hc := one_cell hgr
  have hlt := hgr.lt
  clear hx hxl hdl hgr
  go_enter Tryd.func52, Tryd.ntmps52
  go_wp2_with (first
    | (go_at_call 53; refine (first_is (s.data.toList.drop (16 * j)) (by rw [HDL.out]; omega) (by rw [HDL.out]; omega) x HX.out _).mono ?_; rintro e w1 ⟨rfl, hb1⟩; have HB1 := Lib.hid (bt (below_new _ _) hb1); have HO1 := Lib.hid (blk_past hb1 (Blk.new w 29 _)); clear hb1)
    | (refine wpList_store_row rfl 29 (.tmp 3) (.tmp 8) rfl w.heap.size (bs x).toArray rfl rfl 29 _ HO1.out HS16.out (by rw [sz16 HXL.out, sz16 z16_length]) (all_oneCell_toArray (bs_one _)) ?_))
  refine bodyPost_ret (results_cell_row Tryd.results52 _ _ w.heap.size 29 (bs x).toArray (0, 0) _ rfl (HO1.out.setRow _) Tryd.underlying29 rfl HS16.out) rfl ⟨rfl, below_setRow HB1.out (Nat.le_refl _) _⟩

/-- What the second closure has captured. -/
structure EndAt (s : ByteArray) (ds : List Nat) (i gr gp gi gl : Nat) (w : World) : Prop where
  r : Blk w gr 9 #[.string s]
  p : Blk w gp 85 #[.func (.func 52) #[] #[.pointer (some ⟨gr, 0, none⟩)]]
  i : Blk w gi 3 #[.int .i64 (i : Int)]
  l : Blk w gl 67 (ns ds).toArray
  k : KT 0 w
theorem EndAt.past {s : ByteArray} {ds : List Nat} {i gr gp gi gl : Nat} {w w1 : World} (h : EndAt s ds i gr gp gi gl w) (hb : Below w.heap.size w w1) : EndAt s ds i gr gp gi gl w1 :=
  ⟨blk_past hb h.r, blk_past hb h.p, blk_past hb h.i, blk_past hb h.l, h.k.below hb⟩

set_option maxRecDepth 100000 in
set_option maxHeartbeats 4000000 in
theorem endClo (s : ByteArray) (ds : List Nat) (i c gr gp gi gl : Nat) (w : World) (hw : EndAt s ds i gr gp gi gl w) (hc : c < 68) (hs : 1088 ≤ s.size) (hm : s.size ≤ 1000000) (hi : i ≤ 1000000) (hdl : ds.length = 68) (hd3 : ∀ x ∈ ds, x ≤ 3) :
    Calls Tryd.prog 55 #[.int .i64 (c : Int), .pointer (some ⟨gp, 0, none⟩), .pointer (some ⟨gi, 0, none⟩), .pointer (some ⟨gl, 0, none⟩)] w fun e w' => e = .returned (.agg (bs (endB s.data.toList i ds c)).toArray) ∧ Below w.heap.size w w' := by
  have hz := Tryd.zero29
  obtain ⟨x, hx⟩ : ∃ x, x = partB s.data.toList c := ⟨_, rfl⟩
  have hxl : x.length = 16 := by rw [hx, partB, List.length_take, List.length_drop, size_list]; omega
  obtain ⟨dg, hdg⟩ : ∃ dg, dg = ds.getD c 0 := ⟨_, rfl⟩
  have hdg' : ds[c]? = some dg := by rw [hdg, List.getD_eq_getElem?_getD, List.getElem?_eq_getElem (by omega)]; rfl
  have hdg3 : dg ≤ 3 := hd3 dg (List.mem_of_getElem? hdg')
  obtain ⟨y, hy⟩ : ∃ y, y = endB s.data.toList i ds c := ⟨_, rfl⟩
  have hyl : y.length = 16 := by rw [hy]; exact advB_16 _ _ _ _ _ (by rw [← hx]; exact hxl)
  have hya : advB i c dg (3 - dg) x = y := by rw [hy, hx, hdg]; rfl
  rw [← hy]
  have HX := Lib.hid hx
  have HXL := Lib.hid hxl
  have HYL := Lib.hid hyl
  have HYA := Lib.hid hya
  have HS16 := Lib.hid (size16 hyl)
  have HW := Lib.hid hw
  have HIR := Lib.hid (show inRange (i : Int) from ⟨by omega, by omega⟩)
  have HCR := Lib.hid (show inRange (c : Int) from ⟨by omega, by omega⟩)
  have HDG := Lib.hid (ns_get' hdg')
  clear hw hx hxl hdg hdg' hy hyl hya hdl hd3
  go_enter Tryd.func55, Tryd.ntmps55
  go_wp2
  generalize hw0 : World.alloc _ _ = w0
  have H0 : Hid (Blk w0 w.heap.size 29 (bs z16).toArray ∧ Below w.heap.size w w0) := by
    rw [← hw0]; exact ⟨Blk.new w 29 _, below_new _ _⟩
  clear hw0
  have HW0 := Lib.hid (HW.out.past H0.out.2)
  have ga := one_cell HW0.out.p
  have gb := one_cell HW0.out.i
  have gc := (Blk.cell HW0.out.l c).trans (by simpa using HDG.out)
  have HR1 := Lib.hid (partClo s c gr w0.drew HW0.out.r.drew (by omega) hm)
  have hla : (bs y).length = 16 := by rw [bs_length]; exact HYL.out
  have hon := bs_one y
  have hsd : (Tryd.prog.info? 29).map (·.size) = some (bs y).length := by rw [hla]; exact Tryd.size29
  have hci : (c : Int) < 68 := by omega
  go_region_held3 (fun w' => w'.cell? ⟨gp, 0, none⟩ = some (.func (.func 52) #[] #[.pointer (some ⟨gr, 0, none⟩)]) ∧ w'.cell? ⟨gi, 0, none⟩ = some (.int .i64 (i : Int)) ∧ w'.cell? ⟨gl, c, none⟩ = some (.int .i64 (dg : Int)))
    (first | exact ⟨ga, gb, gc⟩ | exact ⟨ga1, gb1, gc1⟩ | exact ⟨ga2, gb2, gc2⟩ | exact ⟨ga3, gb3, gc3⟩)
    (first
      | (go_at_call 52; ((with_reducible refine HR1.out.mono ?_); rintro e w1 ⟨rfl, hb1⟩); rw [← HX.out]; have HB1 := Lib.hid (bt H0.out.2.drew hb1); have HO1 := Lib.hid (blk_past hb1 H0.out.1.drew); have HW1 := Lib.hid (HW0.out.past (below_then (Below.refl w0.heap.size w0).drew hb1)); have ga1 := one_cell HW1.out.p; have gb1 := one_cell HW1.out.i; have gc1 := (Blk.cell HW1.out.l c).trans (by simpa using HDG.out); have HR2 := Lib.hid (advance x i c dg 3 w1 HW1.out.k HXL.out HIR.out HCR.out (by omega) (by omega)); clear hb1)
      | (go_at_call 44; refine HR2.out.mono ?_; rintro e w2 ⟨rfl, hb2⟩; rw [HYA.out]; have HB2 := Lib.hid (bt HB1.out hb2); have HO2 := Lib.hid (blk_past hb2 HO1.out); have HW2 := Lib.hid (HW1.out.past hb2); have hth := there16 HO2.out z16_length; have HSC := Lib.hid (setCells16 HO2.out z16_length HYL.out); have ga2 := one_cell HW2.out.p; have gb2 := one_cell HW2.out.i; have gc2 := (Blk.cell HW2.out.l c).trans (by simpa using HDG.out); have ga3 := cell_sc HSC.out (one_cell (HW2.out.p.setRow_far (by have := HW.out.p.lt; omega) (bs y).toArray)); have gb3 := cell_sc HSC.out (one_cell (HW2.out.i.setRow_far (by have := HW.out.i.lt; omega) (bs y).toArray)); have gc3 := cell_sc HSC.out ((Blk.cell (HW2.out.l.setRow_far (by have := HW.out.l.lt; omega) (bs y).toArray) c).trans (by simpa using HDG.out)); clear hb2))
  all_goals
    go_wp2_with fail
    rw [HSC.out]
    refine bodyPost_ret (results_cell_row Tryd.results55 _ _ w.heap.size 29 (bs y).toArray (0, 0) _ rfl (HO2.out.setRow _) Tryd.underlying29 rfl HS16.out) rfl ⟨rfl, below_setRow HB2.out (by omega) _⟩
end Go.Proofs.YtaoegpmjogladaaDoor

/-
  THE DECODER OF AN INTEGER, wire.GetInt, by its contract.
-/
namespace Go.Proofs.YtaoegpmjogladaaDoor
open Go.RowKit WM

def dInt : Dec Int → Value
  | .more => .tuple #[.int .i64 0, .int .i64 0, .int .i64 3]
  | .form => .tuple #[.int .i64 0, .int .i64 0, .int .i64 2]
  | .ok n u => .tuple #[.int .i64 n, .int .i64 (u : Int), .int .i64 0]

theorem getInt_nil (A : Option Addr) (c : Nat) (w : World) :
    Calls Tryd.prog 51 #[.slice A 0 c] w fun e w' => e = .returned (.tuple #[.int .i64 0, .int .i64 0, .int .i64 3]) ∧ w = w' := by
  go_enter Tryd.func51, Tryd.ntmps51
  go_wp2
  go_ret3
  exact ⟨rfl, rfl⟩

theorem tup3 {a b c a' b' c' : Int} (h1 : a = a') (h2 : b = b') (h3 : c = c') : Ending.returned (.tuple #[.int .i64 a, .int .i64 b, .int .i64 c]) = .returned (.tuple #[.int .i64 a', .int .i64 b', .int .i64 c']) := by rw [h1, h2, h3]
theorem val_succ (l : List UInt8) (j : Nat) (h : j < l.length) : val (l.take (j + 1)) = val (l.take j) * 256 + l[j].toNat := by
  rw [List.take_succ_eq_append_getElem h, val_snoc]
theorem val_take_lt (l : List UInt8) (j : Nat) (h : j ≤ 7) : val (l.take j) < 72057594037927936 := by
  have h1 := val_lt (l.take j)
  have h2 : (l.take j).length ≤ 7 := by rw [List.length_take]; omega
  have h3 : 256 ^ (l.take j).length ≤ 256 ^ 7 := Nat.pow_le_pow_right (by omega) h2
  omega
theorem val8_lt (l : List UInt8) (h : l.length ≤ 8) : val l < 18446744073709551616 := by
  have h1 := val_lt l
  have h3 : 256 ^ l.length ≤ 256 ^ 8 := Nat.pow_le_pow_right (by omega) h
  omega
theorem or_join (m d : Nat) (hm : m < 72057594037927936) (hd : d < 256) : bits .or .u64 ((m : Int) * 256) (d : Int) = ((m * 256 + d : Nat) : Int) := by
  rw [show ((m : Int) * 256) = ((m * 256 : Nat) : Int) by omega, u64_or_nat _ _ (by omega) (by omega), nat_join 8 _ _ (by omega) (by omega)]
/-- A number that does not fit is refused. -/
def fits (m : Nat) (d : Dec Int) : Dec Int := if 2 ^ 63 ≤ m then .form else d
theorem fits_no (m : Nat) (d : Dec Int) (h : 9223372036854775807 < m) : fits m d = .form := if_pos (by omega)
theorem fits_yes (m : Nat) (d : Dec Int) (h : m ≤ 9223372036854775807) : fits m d = d := if_neg (by omega)

set_option maxRecDepth 100000 in
theorem getInt_outP (b off n c x : Nat) (w : World) (hx : 136 < x) (hx2 : x < 256) (hn : 0 < n) (hnl : n ≤ 140737488355328) (hc : w.cell? ⟨b, off, none⟩ = some (.int .u8 (x : Int))) :
    Calls Tryd.prog 51 #[.slice (some ⟨b, off, none⟩) n c] w fun e w' => e = .returned (.tuple #[.int .i64 0, .int .i64 0, .int .i64 2]) ∧ w = w' := by
  have hx0 := xor0 x (by omega) (by omega)
  have hn0 : ((n : Int) == 0) = false := by simp; omega
  go_enter Tryd.func51, Tryd.ntmps51
  go_wp2
  go_ret3
  exact ⟨rfl, rfl⟩

set_option maxRecDepth 100000 in
theorem getInt_shortP (b off n c x : Nat) (w : World) (hx : 128 ≤ x) (hx2 : x ≤ 136) (hn : 0 < n) (hnl : n ≤ 140737488355328) (_hnc : n ≤ c) (hlt : n - 1 < (x - 128)) (hc : w.cell? ⟨b, off, none⟩ = some (.int .u8 (x : Int))) :
    Calls Tryd.prog 51 #[.slice (some ⟨b, off, none⟩) n c] w fun e w' => e = .returned (.tuple #[.int .i64 0, .int .i64 0, .int .i64 3]) ∧ w = w' := by
  have hx0 := xor0 x (by omega) (by omega)
  have hn0 : ((n : Int) == 0) = false := by simp; omega
  go_enter Tryd.func51, Tryd.ntmps51
  go_wp2
  all_goals
    go_ret3
    exact ⟨rfl, rfl⟩

set_option maxRecDepth 100000 in
theorem getInt_leadP (b off n c x : Nat) (w : World) (hx : 128 ≤ x) (hx2 : x ≤ 136) (hk : 0 < (x - 128)) (hn : 0 < n) (hnl : n ≤ 140737488355328) (hnc : n ≤ c) (hle : (x - 128) ≤ n - 1) (hc : w.cell? ⟨b, off, none⟩ = some (.int .u8 (x : Int)))
    (hd : w.cell? ⟨b, off + 1, none⟩ = some (.int .u8 0)) :
    Calls Tryd.prog 51 #[.slice (some ⟨b, off, none⟩) n c] w fun e w' => e = .returned (.tuple #[.int .i64 0, .int .i64 0, .int .i64 2]) ∧ w = w' := by
  have hx0 := xor0 x (by omega) (by omega)
  have hn0 : ((n : Int) == 0) = false := by simp; omega
  go_enter Tryd.func51, Tryd.ntmps51
  go_wp2
  go_ret3
  exact ⟨rfl, rfl⟩

set_option maxRecDepth 100000 in
theorem getInt_oneP (b off n c : Nat) (w : World) (hn : 0 < n) (hnl : n ≤ 140737488355328) (_hnc : n ≤ c) (hc : w.cell? ⟨b, off, none⟩ = some (.int .u8 128)) :
    Calls Tryd.prog 51 #[.slice (some ⟨b, off, none⟩) n c] w fun e w' => e = .returned (.tuple #[.int .i64 0, .int .i64 1, .int .i64 0]) ∧ w = w' := by
  have hx0 := xor0 128 (by omega) (by omega)
  have hn0 : ((n : Int) == 0) = false := by simp; omega
  go_enter Tryd.func51, Tryd.ntmps51
  go_wp2
  all_goals
    refine wp_loop_rounds 1 ?_
    rw [rounds_succ]
    go_wp2
    go_ret3
    exact ⟨rfl, rfl⟩

set_option maxRecDepth 100000 in
theorem getInt_loopP (b off n c x : Nat) (rs us : List UInt8) (w : World) (hx : 128 ≤ x) (hx2 : x ≤ 136) (hk : 0 < (x - 128)) (hn : 0 < n) (hnl : n ≤ 140737488355328) (hnc : n ≤ c) (hle : (x - 128) ≤ n - 1) (hc : w.cell? ⟨b, off, none⟩ = some (.int .u8 (x : Int)))
    (hrs : rs.length = (x - 128)) (hus : us = rs.map id) (hcs : ∀ j u, (bs rs)[j]? = some u → w.cell? ⟨b, off + 1 + j, none⟩ = some u) (hz : ∀ z : UInt8, rs.head? = some z → z.toNat ≠ 0) :
    Calls Tryd.prog 51 #[.slice (some ⟨b, off, none⟩) n c] w fun e w' => e = .returned (dInt (fits (val us) (.ok (val us : Int) (rs.length + 1)))) ∧ w = w' := by
  have hx0 := xor0 x (by omega) (by omega)
  have hn0 : ((n : Int) == 0) = false := by simp; omega
  have hr0 : 0 < rs.length := by omega
  have hc1 := hcs 0 _ (bs_get rs 0 hr0)
  have hz1 : ((rs[0].toNat : Int) == 0) = false := by
    have := hz rs[0] (by rw [List.head?_eq_getElem?]; exact List.getElem?_eq_getElem hr0)
    simp; omega
  obtain ⟨z, hzz⟩ : ∃ z, z = rs[0].toNat := ⟨_, rfl⟩
  rw [← hzz] at hc1 hz1
  rw [Nat.add_zero] at hc1
  have HRS := Lib.hid hrs
  have HUS := Lib.hid hus
  have HCS := Lib.hid hcs
  clear hrs hus hcs hzz hz
  go_enter Tryd.func51, Tryd.ntmps51
  go_wp2
  go_loop [8, 10, 46] (fun m _ i => ∃ j v : Nat, j ≤ (x - 128) ∧ i = .int .i64 j ∧ v < 18446744073709551616 ∧ m = .int .u64 v ∧ Hid (v = val (us.take j))) (fun _ _ i => (x - 128) - (intOf i).toNat)
  case atStart => exact ⟨0, 0, Nat.zero_le _, rfl, by omega, rfl, rfl⟩
  case round =>
    obtain ⟨j, v, hj, rfl, hv64, rfl, HV⟩ := hrel
    by_cases hlt : j < (x - 128)
    · have hjr : j < rs.length := by rw [HRS.out]; exact hlt
      have hcell := HCS.out j _ (bs_get rs j hjr)
      have hju : j < us.length := by rw [HUS.out, List.length_map]; exact hjr
      have hv7 : v < 72057594037927936 := by rw [HV.out]; exact val_take_lt us j (by omega)
      have hvs := val_succ us j hju
      rw [← HV.out] at hvs
      have huj : us[j].toNat = rs[j].toNat := by
        have : us[j]? = some (id rs[j]) := by rw [HUS.out, List.getElem?_map, List.getElem?_eq_getElem hjr]; rfl
        rw [List.getElem?_eq_getElem hju] at this
        rw [Option.some.inj this]; rfl
      rw [huj] at hvs
      have hb2 := rs[j].toNat_lt
      obtain ⟨y, hy⟩ : ∃ y, y = rs[j].toNat := ⟨_, rfl⟩
      rw [← hy] at hcell hvs hb2
      have hxy := xor0 y (by omega) (by omega)
      have hor := or_join v y hv7 (by omega)
      have HVS := Lib.hid hvs
      clear hvs huj hy
      go_wp2
      go_round
      case rel => exact ⟨j + 1, v * 256 + y, by omega, by go_num, by omega, by go_num, HVS.out.symm⟩
      case measure => simp [intOf]; omega
    · obtain rfl : j = (x - 128) := by omega
      have hvv : v = val us := by rw [HV.out, List.take_of_length_le]; rw [HUS.out, List.length_map, HRS.out]; exact Nat.le_refl _
      have HVV := Lib.hid hvv
      clear hvv
      by_cases hbig : 9223372036854775807 < v
      all_goals
        go_wp2
        go_ret3
        refine ⟨?_, rfl⟩
        rw [← HVV.out]
        first
          | (rw [fits_no _ _ hbig]; rfl)
          | (rw [fits_yes _ _ (by omega), HRS.out]; exact tup3 (by omega) (by omega) rfl)

set_option maxRecDepth 100000 in
theorem getInt_outN (b off n c x : Nat) (w : World) (hx : x < 119) (_hx2 : x < 256) (hn : 0 < n) (hnl : n ≤ 140737488355328) (hc : w.cell? ⟨b, off, none⟩ = some (.int .u8 (x : Int))) :
    Calls Tryd.prog 51 #[.slice (some ⟨b, off, none⟩) n c] w fun e w' => e = .returned (.tuple #[.int .i64 0, .int .i64 0, .int .i64 2]) ∧ w = w' := by
  have hx0 := xor255 x (by omega) (by omega)
  have hn0 : ((n : Int) == 0) = false := by simp; omega
  go_enter Tryd.func51, Tryd.ntmps51
  go_wp2
  go_ret3
  exact ⟨rfl, rfl⟩

set_option maxRecDepth 100000 in
theorem getInt_shortN (b off n c x : Nat) (w : World) (hx : 119 ≤ x) (hx2 : x ≤ 127) (hn : 0 < n) (hnl : n ≤ 140737488355328) (_hnc : n ≤ c) (hlt : n - 1 < (127 - x)) (hc : w.cell? ⟨b, off, none⟩ = some (.int .u8 (x : Int))) :
    Calls Tryd.prog 51 #[.slice (some ⟨b, off, none⟩) n c] w fun e w' => e = .returned (.tuple #[.int .i64 0, .int .i64 0, .int .i64 3]) ∧ w = w' := by
  have hx0 := xor255 x (by omega) (by omega)
  have hn0 : ((n : Int) == 0) = false := by simp; omega
  go_enter Tryd.func51, Tryd.ntmps51
  go_wp2
  all_goals
    go_ret3
    exact ⟨rfl, rfl⟩

set_option maxRecDepth 100000 in
theorem getInt_leadN (b off n c x : Nat) (w : World) (hx : 119 ≤ x) (hx2 : x ≤ 127) (hk : 0 < (127 - x)) (hn : 0 < n) (hnl : n ≤ 140737488355328) (hnc : n ≤ c) (hle : (127 - x) ≤ n - 1) (hc : w.cell? ⟨b, off, none⟩ = some (.int .u8 (x : Int)))
    (hd : w.cell? ⟨b, off + 1, none⟩ = some (.int .u8 255)) :
    Calls Tryd.prog 51 #[.slice (some ⟨b, off, none⟩) n c] w fun e w' => e = .returned (.tuple #[.int .i64 0, .int .i64 0, .int .i64 2]) ∧ w = w' := by
  have hx0 := xor255 x (by omega) (by omega)
  have hn0 : ((n : Int) == 0) = false := by simp; omega
  go_enter Tryd.func51, Tryd.ntmps51
  go_wp2
  go_ret3
  exact ⟨rfl, rfl⟩

set_option maxRecDepth 100000 in
theorem getInt_oneN (b off n c : Nat) (w : World) (hn : 0 < n) (hnl : n ≤ 140737488355328) (_hnc : n ≤ c) (hc : w.cell? ⟨b, off, none⟩ = some (.int .u8 127)) :
    Calls Tryd.prog 51 #[.slice (some ⟨b, off, none⟩) n c] w fun e w' => e = .returned (.tuple #[.int .i64 (-1), .int .i64 1, .int .i64 0]) ∧ w = w' := by
  have hx0 := xor255 127 (by omega) (by omega)
  have hn0 : ((n : Int) == 0) = false := by simp; omega
  go_enter Tryd.func51, Tryd.ntmps51
  go_wp2
  all_goals
    refine wp_loop_rounds 1 ?_
    rw [rounds_succ]
    go_wp2
    go_ret3
    exact ⟨rfl, rfl⟩

set_option maxRecDepth 100000 in
theorem getInt_loopN (b off n c x : Nat) (rs us : List UInt8) (w : World) (hx : 119 ≤ x) (hx2 : x ≤ 127) (hk : 0 < (127 - x)) (hn : 0 < n) (hnl : n ≤ 140737488355328) (hnc : n ≤ c) (hle : (127 - x) ≤ n - 1) (hc : w.cell? ⟨b, off, none⟩ = some (.int .u8 (x : Int)))
    (hrs : rs.length = (127 - x)) (hus : us = rs.map flip) (hcs : ∀ j u, (bs rs)[j]? = some u → w.cell? ⟨b, off + 1 + j, none⟩ = some u) (hz : ∀ z : UInt8, rs.head? = some z → z.toNat ≠ 255) :
    Calls Tryd.prog 51 #[.slice (some ⟨b, off, none⟩) n c] w fun e w' => e = .returned (dInt (fits (val us) (.ok (-1 - (val us : Int)) (rs.length + 1)))) ∧ w = w' := by
  have hx0 := xor255 x (by omega) (by omega)
  have hn0 : ((n : Int) == 0) = false := by simp; omega
  have hr0 : 0 < rs.length := by omega
  have hc1 := hcs 0 _ (bs_get rs 0 hr0)
  have hz1 : ((rs[0].toNat : Int) == 255) = false := by
    have := hz rs[0] (by rw [List.head?_eq_getElem?]; exact List.getElem?_eq_getElem hr0)
    simp; omega
  obtain ⟨z, hzz⟩ : ∃ z, z = rs[0].toNat := ⟨_, rfl⟩
  rw [← hzz] at hc1 hz1
  rw [Nat.add_zero] at hc1
  have HRS := Lib.hid hrs
  have HUS := Lib.hid hus
  have HCS := Lib.hid hcs
  clear hrs hus hcs hzz hz
  go_enter Tryd.func51, Tryd.ntmps51
  go_wp2
  go_loop [8, 10, 46] (fun m _ i => ∃ j v : Nat, j ≤ (127 - x) ∧ i = .int .i64 j ∧ v < 18446744073709551616 ∧ m = .int .u64 v ∧ Hid (v = val (us.take j))) (fun _ _ i => (127 - x) - (intOf i).toNat)
  case atStart => exact ⟨0, 0, Nat.zero_le _, rfl, by omega, rfl, rfl⟩
  case round =>
    obtain ⟨j, v, hj, rfl, hv64, rfl, HV⟩ := hrel
    by_cases hlt : j < (127 - x)
    · have hjr : j < rs.length := by rw [HRS.out]; exact hlt
      have hcell := HCS.out j _ (bs_get rs j hjr)
      have hju : j < us.length := by rw [HUS.out, List.length_map]; exact hjr
      have hv7 : v < 72057594037927936 := by rw [HV.out]; exact val_take_lt us j (by omega)
      have hvs := val_succ us j hju
      rw [← HV.out] at hvs
      have huj : us[j].toNat = 255 - rs[j].toNat := by
        have : us[j]? = some (flip rs[j]) := by rw [HUS.out, List.getElem?_map, List.getElem?_eq_getElem hjr]; rfl
        rw [List.getElem?_eq_getElem hju] at this
        rw [Option.some.inj this]; exact flip_toNat _
      rw [huj] at hvs
      have hb2 := rs[j].toNat_lt
      obtain ⟨y, hy⟩ : ∃ y, y = rs[j].toNat := ⟨_, rfl⟩
      rw [← hy] at hcell hvs hb2
      have hxy := xor255 y (by omega) (by omega)
      have hor : bits .or .u64 ((v : Int) * 256) (255 - (y : Int)) = (v : Int) * 256 + (255 - (y : Int)) := by
        have h := or_join v (255 - y) hv7 (by omega)
        rw [show (255 - (y : Int)) = ((255 - y : Nat) : Int) by omega, h]
        omega
      have HVS := Lib.hid hvs
      clear hvs huj hy
      go_wp2
      go_round
      case rel => exact ⟨j + 1, v * 256 + (255 - y), by omega, by go_num, by omega, by go_num, HVS.out.symm⟩
      case measure => simp [intOf]; omega
    · obtain rfl : j = (127 - x) := by omega
      have hvv : v = val us := by rw [HV.out, List.take_of_length_le]; rw [HUS.out, List.length_map, HRS.out]; exact Nat.le_refl _
      have HVV := Lib.hid hvv
      clear hvv
      by_cases hbig : 9223372036854775807 < v
      all_goals
        go_wp2
        go_ret3
        refine ⟨?_, rfl⟩
        rw [← HVV.out]
        first
          | (rw [fits_no _ _ hbig]; rfl)
          | (rw [fits_yes _ _ (by omega), HRS.out]; exact tup3 (by omega) (by omega) rfl)

theorem head_take (t : List UInt8) (k : Nat) (hk : 0 < k) : (t.take k).head? = t.head? := by
  cases t with
  | nil => simp
  | cons a t => cases k with
    | zero => omega
    | succ k => rfl

theorem getInt (B : Nat) (A : Option Addr) (c : Nat) (l : List UInt8) (w : World) (ha : Reads w B 1 A l.length (bs l)) (hlc : l.length ≤ c) (hl : l.length ≤ 140737488355328) :
    Calls Tryd.prog 51 #[.slice A l.length c] w fun e w' => e = .returned (dInt (gInt l)) ∧ w = w' := by
  match l, ha, hlc, hl with
  | [], _, _, _ => exact getInt_nil A c w
  | x :: t, ha, hlc, hl =>
    obtain ⟨b, off, rfl, _, hcell⟩ := ha.lit (by simp)
    have hc0 : w.cell? ⟨b, off + 0, none⟩ = some (.int .u8 (x.toNat : Int)) := hcell 0 _ rfl
    rw [Nat.add_zero] at hc0
    have hx2 := x.toNat_lt
    have hn : 0 < (x :: t).length := by simp
    have hlen : (x :: t).length - 1 = t.length := by simp
    have hct : ∀ j u, (bs t)[j]? = some u → w.cell? ⟨b, off + 1 + j, none⟩ = some u := by
      intro j u hu
      have := hcell (j + 1) u (by rw [bs_cons, List.getElem?_cons_succ]; exact hu)
      rwa [show off + (j + 1) = off + 1 + j by omega] at this
    by_cases hbig : 128 ≤ x.toNat
    · have hk : kOf x = x.toNat - 128 := by unfold kOf; rw [if_pos hbig]
      have hu : ∀ l, unm x l = l := fun l => by unfold unm; rw [if_pos hbig]
      have hs : ∀ m, sgn x m = (m : Int) := fun m => by unfold sgn; rw [if_pos hbig]
      by_cases h8 : 136 < x.toNat
      · have hg : gInt (x :: t) = .form := by simp only [gInt]; rw [if_pos (by omega)]
        rw [hg]
        exact getInt_outP b off _ c _ w h8 hx2 hn hl hc0
      by_cases hsh : t.length < kOf x
      · have hg : gInt (x :: t) = .more := by simp only [gInt]; rw [if_neg (by omega), if_pos hsh]
        rw [hg]
        exact getInt_shortP b off _ c _ w hbig (by omega) hn hl hlc (by omega) hc0
      by_cases hk0 : kOf x = 0
      · have hx128 : x.toNat = 128 := by omega
        have hg : gInt (x :: t) = .ok 0 1 := by
          simp only [gInt, hk0, hu, hs, List.take_zero]
          rw [if_neg (by omega), if_neg (by omega), if_neg (by simp), if_neg (by simp [val])]
          rfl
        rw [hg]
        rw [hx128] at hc0
        exact getInt_oneP b off _ c w hn hl hlc hc0
      have hlt : (t.take (kOf x)).length = kOf x := by rw [List.length_take]; omega
      by_cases hz : t.head? = some 0
      · have hg : gInt (x :: t) = .form := by
          simp only [gInt, hu]
          rw [if_neg (by omega), if_neg hsh, if_pos (by rw [head_take _ _ (by omega)]; exact hz)]
        rw [hg]
        have hd := hct 0 (.int .u8 0) (by cases t with | nil => simp at hz | cons a t => simp at hz; subst hz; rfl)
        exact getInt_leadP b off _ c _ w hbig (by omega) (by omega) hn hl hlc (by omega) hc0 (by simpa using hd)
      · have hg : gInt (x :: t) = fits (val (t.take (kOf x))) (.ok (val (t.take (kOf x)) : Int) (kOf x + 1)) := by
          simp only [gInt, hu, hs]
          rw [if_neg (by omega), if_neg hsh, if_neg (by rw [head_take _ _ (by omega)]; exact hz)]
          rfl
        rw [hg]
        have := getInt_loopP b off _ c _ (t.take (kOf x)) (t.take (kOf x)) w hbig (by omega) (by omega) hn hl hlc (by omega) hc0 (by omega) (by simp)
          (fun j u hu => hct j u (by rw [← bs_take] at hu; rw [List.getElem?_take] at hu; split at hu; exact hu; cases hu))
          (fun z hz2 e => hz (by rw [head_take _ _ (by omega)] at hz2; rw [hz2]; congr 1; exact UInt8.toNat_inj.1 e))
        rwa [hlt] at this
    · have hk : kOf x = 127 - x.toNat := by unfold kOf; rw [if_neg hbig]
      have hu : ∀ l, unm x l = l.map flip := fun l => by unfold unm; rw [if_neg hbig]
      have hs : ∀ m, sgn x m = -1 - (m : Int) := fun m => by unfold sgn; rw [if_neg hbig]
      by_cases h8 : x.toNat < 119
      · have hg : gInt (x :: t) = .form := by simp only [gInt]; rw [if_pos (by omega)]
        rw [hg]
        exact getInt_outN b off _ c _ w h8 hx2 hn hl hc0
      by_cases hsh : t.length < kOf x
      · have hg : gInt (x :: t) = .more := by simp only [gInt]; rw [if_neg (by omega), if_pos hsh]
        rw [hg]
        exact getInt_shortN b off _ c _ w (by omega) (by omega) hn hl hlc (by omega) hc0
      by_cases hk0 : kOf x = 0
      · have hx128 : x.toNat = 127 := by omega
        have hg : gInt (x :: t) = .ok (-1) 1 := by
          simp only [gInt, hk0, hu, hs, List.take_zero]
          rw [if_neg (by omega), if_neg (by omega), if_neg (by simp), if_neg (by simp [val])]
          rfl
        rw [hg]
        rw [hx128] at hc0
        exact getInt_oneN b off _ c w hn hl hlc hc0
      have hlt : (t.take (kOf x)).length = kOf x := by rw [List.length_take]; omega
      have hfl : ∀ z : UInt8, flip z = 0 ↔ z.toNat = 255 := fun z => by
        rw [← UInt8.toNat_inj, flip_toNat]; have := z.toNat_lt; simp; omega
      by_cases hz : ∃ z, t.head? = some z ∧ z.toNat = 255
      · obtain ⟨z, hz1, hz2⟩ := hz
        have hg : gInt (x :: t) = .form := by
          simp only [gInt, hu]
          rw [if_neg (by omega), if_neg hsh, if_pos (by rw [List.head?_map, head_take _ _ (by omega), hz1]; simp [hfl, hz2])]
        rw [hg]
        have hd := hct 0 (.int .u8 255) (by cases t with | nil => simp at hz1 | cons a t => simp at hz1; subst hz1; rw [bs_cons, hz2]; rfl)
        exact getInt_leadN b off _ c _ w (by omega) (by omega) (by omega) hn hl hlc (by omega) hc0 (by simpa using hd)
      · have hg : gInt (x :: t) = fits (val ((t.take (kOf x)).map flip)) (.ok (-1 - (val ((t.take (kOf x)).map flip) : Int)) (kOf x + 1)) := by
          simp only [gInt, hu, hs]
          rw [if_neg (by omega), if_neg hsh, if_neg]
          · rfl
          · rw [List.head?_map, head_take _ _ (by omega)]
            intro e
            cases ht : t.head? with
            | none => rw [ht] at e; simp at e
            | some z => rw [ht] at e; simp at e; exact hz ⟨z, ht, (hfl z).1 e⟩
        rw [hg]
        have := getInt_loopN b off _ c _ (t.take (kOf x)) ((t.take (kOf x)).map flip) w (by omega) (by omega) (by omega) hn hl hlc (by omega) hc0 (by omega) rfl
          (fun j u hu => hct j u (by rw [← bs_take] at hu; rw [List.getElem?_take] at hu; split at hu; exact hu; cases hu))
          (fun z hz2 e => hz ⟨z, by rw [head_take _ _ (by omega)] at hz2; exact hz2, e⟩)
        rwa [hlt] at this
end Go.Proofs.YtaoegpmjogladaaDoor

/-
  scoriaref02.words: the words of a block, by the reference.
-/
namespace Go.Proofs.YtaoegpmjogladaaDoor
open Go.RowKit

theorem word_val (b : List UInt8) (hb : b.length = 64) (t : Nat) (ht : t < 16) :
    word b t = BitVec.ofNat 32 (b[4 * t]'(by omega)).toNat <<< 24 ||| BitVec.ofNat 32 (b[4 * t + 1]'(by omega)).toNat <<< 16 ||| BitVec.ofNat 32 (b[4 * t + 2]'(by omega)).toNat <<< 8 ||| BitVec.ofNat 32 (b[4 * t + 3]'(by omega)).toNat := by
  have e : (b.drop (4 * t)).take 4 = [b[4 * t]'(by omega), b[4 * t + 1]'(by omega), b[4 * t + 2]'(by omega), b[4 * t + 3]'(by omega)] := by
    apply List.ext_getElem?
    intro j
    rw [List.getElem?_take, List.getElem?_drop]
    rcases j with _ | _ | _ | _ | j
    · simp [List.getElem?_eq_getElem (show 4 * t < b.length by omega)]
    · simp [List.getElem?_eq_getElem (show 4 * t + 1 < b.length by omega)]
    · simp [List.getElem?_eq_getElem (show 4 * t + 2 < b.length by omega)]
    · simp [List.getElem?_eq_getElem (show 4 * t + 3 < b.length by omega)]
    · rw [if_neg (by omega)]; rfl
  unfold word
  rw [e]
  simp only [fold4, List.foldl_cons, List.foldl_nil]
  simp only [BitVec.shiftLeft_or_distrib, ← BitVec.shiftLeft_add]
  simp

theorem cast32 (c : UInt8) : (c.toNat : Int) % 4294967296 = ((BitVec.ofNat 32 c.toNat).toNat : Int) := by
  rw [BitVec.toNat_ofNat]; omega

theorem shl24 (x : BitVec 32) : (x.toNat : Int) * (16777216 : Int) % (4294967296 : Int) = ((x <<< 24).toNat : Int) := shl32' x 24
theorem shl16 (x : BitVec 32) : (x.toNat : Int) * (65536 : Int) % (4294967296 : Int) = ((x <<< 16).toNat : Int) := shl32' x 16
theorem shl8 (x : BitVec 32) : (x.toNat : Int) * (256 : Int) % (4294967296 : Int) = ((x <<< 8).toNat : Int) := shl32' x 8
theorem word_or (p q r s : UInt8) : bits .or .u32 (bits .or .u32 (bits .or .u32 ((p.toNat : Int) % 4294967296 * 16777216 % 4294967296) ((q.toNat : Int) % 4294967296 * 65536 % 4294967296)) ((r.toNat : Int) % 4294967296 * 256 % 4294967296)) ((s.toNat : Int) % 4294967296) =
    ((BitVec.ofNat 32 p.toNat <<< 24 ||| BitVec.ofNat 32 q.toNat <<< 16 ||| BitVec.ofNat 32 r.toNat <<< 8 ||| BitVec.ofNat 32 s.toNat).toNat : Int) := by
  rw [cast32, cast32, cast32, cast32, shl24, shl16, shl8, or32, or32, or32]

set_option maxRecDepth 100000 in
set_option maxHeartbeats 1000000 in
theorem rwords (b : List UInt8) (hb : b.length = 64) (g o c : Nat) (w : World) (hr : ∀ i (h : i < 64), w.cell? ⟨g, o + i, none⟩ = some (.int .u8 ((b[i]'(by omega)).toNat : Int))) :
    Calls Tryd.prog 79 #[.slice (some ⟨g, o, none⟩) 64 c] w fun e w' => e = .returned (.agg (ws (tab (wAt b))).toArray) ∧ Below w.heap.size w w' := by
  have hgl : g < w.heap.size := block_lt_of_cell (hr 0 (by omega))
  have HR := Lib.hid hr
  clear hr
  go_enter Tryd.func79, Tryd.ntmps79
  go_wp2
  go_loopw [4] (fun v wr => ∃ (t : Nat) (f : Nat → BitVec 32), t ≤ 16 ∧ v = .int .i64 t ∧ Hid ((∀ j, j < t → f j = word b j) ∧ Blk wr w.heap.size 100 (ws (tab fun _ => 0#32)).toArray ∧ Blk wr (w.heap.size + 1) 100 (ws (tab f)).toArray ∧ Below w.heap.size w wr)) (fun v _ => 16 - (intOf v).toNat)
  case atStart =>
    refine ⟨0, fun _ => 0#32, by omega, rfl, fun j hj => by omega, ?_, ?_, ((Below.refl _ _).alloc (Nat.le_refl _) _).alloc (by simp) _⟩
    · exact (Blk.new_at _ 100 rfl (by kernel_rfl)).alloc _
    · exact Blk.new_at _ 100 (by simp) (by kernel_rfl)
  case round =>
    obtain ⟨t, f, ht, rfl, hh⟩ := hrel
    by_cases hlt : t < 16
    · have c0 := HR.out (4 * t) (by omega)
      have c1 := HR.out (4 * t + 1) (by omega)
      have c2 := HR.out (4 * t + 2) (by omega)
      have c3 := HR.out (4 * t + 3) (by omega)
      have e0 : IntKind.i64.wrap (4 * (t : Int)) = 4 * (t : Int) := IntWalk.i64_in _ (by omega)
      have e1 : IntKind.i64.wrap (4 * (t : Int) + 1) = 4 * (t : Int) + 1 := IntWalk.i64_in _ (by omega)
      have e2 : IntKind.i64.wrap (4 * (t : Int) + 2) = 4 * (t : Int) + 2 := IntWalk.i64_in _ (by omega)
      have e3 : IntKind.i64.wrap (4 * (t : Int) + 3) = 4 * (t : Int) + 3 := IntWalk.i64_in _ (by omega)
      have n0 : (4 * (t : Int)).toNat = 4 * t := by omega
      have n1 : (4 * (t : Int) + 1).toNat = 4 * t + 1 := by omega
      have n2 : (4 * (t : Int) + 2).toNat = 4 * t + 2 := by omega
      have n3 : (4 * (t : Int) + 3).toNat = 4 * t + 3 := by omega
      have p0 : 0 ≤ 4 * (t : Int) := by omega
      have p1 : 0 ≤ 4 * (t : Int) + 1 := by omega
      have p2 : 0 ≤ 4 * (t : Int) + 2 := by omega
      have p3 : 0 ≤ 4 * (t : Int) + 3 := by omega
      have q0 : 4 * (t : Int) < 64 := by omega
      have q1 : 4 * (t : Int) + 1 < 64 := by omega
      have q2 : 4 * (t : Int) + 2 < 64 := by omega
      have q3 : 4 * (t : Int) + 3 < 64 := by omega
      obtain ⟨w2, hw2⟩ : ∃ w2, w2 = wr.drew := ⟨_, rfl⟩
      have keep : ∀ i, w2.cell? ⟨g, i, none⟩ = w.cell? ⟨g, i, none⟩ := fun i => by rw [hw2]; exact hh.out.2.2.2.cell (p := ⟨g, i, none⟩) hgl
      have d0 := (keep _).trans c0
      have d1 := (keep _).trans c1
      have d2 := (keep _).trans c2
      have d3 := (keep _).trans c3
      have dt : w2.cell? ⟨w.heap.size + 1, t, none⟩ = some (W32 (f t)) := by rw [hw2]; exact (Blk.cell hh.out.2.2.1 t).trans (by simpa using ws_get (tab_get f t (by omega)))
      have dfr : w2.frozen? ⟨w.heap.size + 1, t, none⟩ = false := by rw [hw2]; exact Blk.frozen hh.out.2.2.1 t
      have HH : Hid ((∀ j, j < t → f j = word b j) ∧ Blk w2 w.heap.size 100 (ws (tab fun _ => 0#32)).toArray ∧ Blk w2 (w.heap.size + 1) 100 (ws (tab f)).toArray ∧ Below w.heap.size w w2) := by
        rw [hw2]
        exact ⟨hh.out.1, hh.out.2.1.drew, hh.out.2.2.1.drew, hh.out.2.2.2.drew⟩
      clear keep c0 c1 c2 c3 hh
      have HW2 := Lib.hid hw2
      clear hw2
      go_wp2
      refine wp_region_still_tail 34 (by kernel_rfl) (by kernel_rfl) ?_
      simp only [List.take_succ_cons, List.take_zero, List.drop_succ_cons, List.drop_zero]
      change wpStill _ _ wr.drew (fun a' => wpList _ _ _ _ a' wr.drew) _ _
      rw [← HW2.out]
      repeat still_step
      refine wpStill_nil ?_
      go_wp2
      go_roundw
      case rel =>
        rw [word_or, ← word_val b hb t hlt]
        refine ⟨t + 1, fun j => if j = t then word b t else f j, by omega, by go_num, fun j hj => ?_, HH.out.2.1.far (by simp) _, by rw [← tab_set]; exact blk_set HH.out.2.2.1 t _, HH.out.2.2.2.setCell (by simp) _⟩
        show (if j = t then word b t else f j) = word b j
        by_cases hjt : j = t
        · rw [if_pos hjt, hjt]
        · rw [if_neg hjt]; exact HH.out.1 j (by omega)
      case measure => simp [intOf]; omega
    · have hte : t = 16 := by omega
      have HT := Lib.hid hte
      have hge : 16 ≤ t := by omega
      clear hlt ht hte
      obtain ⟨wo, hwo⟩ : ∃ wo : World, wo = wr := ⟨_, rfl⟩
      subst hwo
      go_wp2
      go_loopw [5] (fun v wr => ∃ (t : Nat) (g : Nat → BitVec 32), 16 ≤ t ∧ t ≤ 64 ∧ v = .int .i64 t ∧ Hid (Known b t g ∧ Blk wr w.heap.size 100 (ws (tab fun _ => 0#32)).toArray ∧ Blk wr (w.heap.size + 1) 100 (ws (tab g)).toArray ∧ Below w.heap.size w wr)) (fun v _ => 64 - (intOf v).toNat)
      case atStart => exact ⟨16, f, by omega, by omega, rfl, known_start b f (fun j hj => hh.out.1 j (by rw [HT.out]; exact hj)), hh.out.2⟩
      case round =>
        clear hh
        obtain ⟨t1, g1, ht0, ht, rfl, hh⟩ := hrel
        by_cases hlt : t1 < 64
        · have c16 := (Blk.cell hh.out.2.2.1 (t1 - 16)).trans (by simpa using ws_get (tab_get g1 (t1 - 16) (by omega)))
          have c15 := (Blk.cell hh.out.2.2.1 (t1 - 15)).trans (by simpa using ws_get (tab_get g1 (t1 - 15) (by omega)))
          have c7 := (Blk.cell hh.out.2.2.1 (t1 - 7)).trans (by simpa using ws_get (tab_get g1 (t1 - 7) (by omega)))
          have c2 := (Blk.cell hh.out.2.2.1 (t1 - 2)).trans (by simpa using ws_get (tab_get g1 (t1 - 2) (by omega)))
          have c0 := (Blk.cell hh.out.2.2.1 t1).trans (by simpa using ws_get (tab_get g1 t1 (by omega)))
          have hfr := Blk.frozen hh.out.2.2.1 t1
          have e16 : IntKind.i64.wrap ((t1 : Int) - 16) = (t1 : Int) - 16 := IntWalk.i64_in _ (by omega)
          have e15 : IntKind.i64.wrap ((t1 : Int) - 15) = (t1 : Int) - 15 := IntWalk.i64_in _ (by omega)
          have e7 : IntKind.i64.wrap ((t1 : Int) - 7) = (t1 : Int) - 7 := IntWalk.i64_in _ (by omega)
          have e2 : IntKind.i64.wrap ((t1 : Int) - 2) = (t1 : Int) - 2 := IntWalk.i64_in _ (by omega)
          have n16 : ((t1 : Int) - 16).toNat = t1 - 16 := by omega
          have n15 : ((t1 : Int) - 15).toNat = t1 - 15 := by omega
          have n7 : ((t1 : Int) - 7).toNat = t1 - 7 := by omega
          have n2 : ((t1 : Int) - 2).toNat = t1 - 2 := by omega
          have r16 : (16 : Int) ≤ (t1 : Int) := by omega
          have r15 : (15 : Int) ≤ (t1 : Int) := by omega
          have r7 : (7 : Int) ≤ (t1 : Int) := by omega
          have r2 : (2 : Int) ≤ (t1 : Int) := by omega
          have p16 : (0 : Int) ≤ (t1 : Int) - 16 := by omega
          have p15 : (0 : Int) ≤ (t1 : Int) - 15 := by omega
          have p7 : (0 : Int) ≤ (t1 : Int) - 7 := by omega
          have p2 : (0 : Int) ≤ (t1 : Int) - 2 := by omega
          have q16 : (t1 : Int) - 16 < 64 := by omega
          have q15 : (t1 : Int) - 15 < 64 := by omega
          have q7 : (t1 : Int) - 7 < 64 := by omega
          have q2 : (t1 : Int) - 2 < 64 := by omega
          go_wp2
          go_quiet ((go_at_call 80; exact Calls.quiet_of (rotrI_ref _ _ (by decide) (by decide) _)))
          go_wp2
          go_quiet ((go_at_call 80; exact quiet_add (rotrI_ref _ _ (by decide) (by decide) _)))
          go_wp2
          rename_i nq0
          obtain ⟨w2, hw2⟩ : ∃ w2, w2 = ((wr.drewN nq0).drewN nq).drew := ⟨_, rfl⟩
          have d16 : w2.cell? ⟨w.heap.size + 1, t1 - 16, none⟩ = some (W32 (g1 (t1 - 16))) := by rw [hw2]; exact c16
          have d7 : w2.cell? ⟨w.heap.size + 1, t1 - 7, none⟩ = some (W32 (g1 (t1 - 7))) := by rw [hw2]; exact c7
          have d0 : w2.cell? ⟨w.heap.size + 1, t1, none⟩ = some (W32 (g1 t1)) := by rw [hw2]; exact c0
          have dfr : w2.frozen? ⟨w.heap.size + 1, t1, none⟩ = false := by rw [hw2]; exact hfr
          have HH : Hid (Known b t1 g1 ∧ Blk w2 w.heap.size 100 (ws (tab fun _ => 0#32)).toArray ∧ Blk w2 (w.heap.size + 1) 100 (ws (tab g1)).toArray ∧ Below w.heap.size w w2) := by
            rw [hw2]
            exact ⟨hh.out.1, ((hh.out.2.1.drewN nq0).drewN nq).drew, ((hh.out.2.2.1.drewN nq0).drewN nq).drew, (below_drewN (below_drewN hh.out.2.2.2 nq0) nq).drew⟩
          refine wp_region_still_tail 14 (by kernel_rfl) (by kernel_rfl) ?_
          simp only [List.take_succ_cons, List.take_zero, List.drop_succ_cons, List.drop_zero]
          change wpStill _ _ ((wr.drewN nq0).drewN nq).drew (fun a' => wpList _ _ _ _ a' ((wr.drewN nq0).drewN nq).drew) _ _
          rw [← hw2]
          clear hw2 hh
          obtain ⟨x, hx⟩ : ∃ x, x = g1 (t1 - 16) + sig0 (g1 (t1 - 15)) + g1 (t1 - 7) + sig1 (g1 (t1 - 2)) := ⟨_, rfl⟩
          have hwx : (x.toNat : Int) = ((g1 (t1 - 16) + sig0 (g1 (t1 - 15)) + g1 (t1 - 7) + sig1 (g1 (t1 - 2))).toNat : Int) := by rw [hx]
          have HX := Lib.hid hx
          have HWX := Lib.hid hwx
          clear hx hwx
          repeat still_step
          refine wpStill_nil ?_
          go_wp2
          go_roundw
          case rel =>
            rw [nxt_val, ← HWX.out]
            exact ⟨t1 + 1, _, by omega, by omega, by go_num, known_next ht0 HH.out.1 HX.out, HH.out.2.1.far (by simp) _, by rw [← tab_set]; exact blk_set HH.out.2.2.1 t1 x, HH.out.2.2.2.setCell (by simp) _⟩
          case measure => simp [intOf]; omega
        · have hte : t1 = 64 := by omega
          have HT2 := Lib.hid hte
          have hge2 : 64 ≤ t1 := by omega
          clear hlt ht hte
          have hl54 : (Tryd.prog.info? 100).map (·.size) = some (ws (tab g1)).toArray.size := by rw [Tryd.size100]; simp [ws, tab]
          have HS54 := Lib.hid hl54
          clear hl54
          go_wp2_with (first
            | (refine wpList_load_row rfl 100 (.tmp 3) rfl (w.heap.size + 1) rfl 100 (ws (tab g1)).toArray (0, 0) _ hh.out.2.2.1 Tryd.underlying100 rfl HS54.out ?_)
            | (refine wpList_store_row rfl 100 (.tmp 2) (.tmp 100) rfl w.heap.size (ws (tab g1)).toArray rfl rfl 100 _ hh.out.2.1 HS54.out (by simp [ws, tab]) (all_oneCell_toArray (ws_one _)) ?_))
          refine bodyPost_ret (results_cell_row Tryd.results79 _ _ w.heap.size 100 (ws (tab g1)).toArray (0, 0) _ rfl (Blk.setRow hh.out.2.1 _) Tryd.underlying100 rfl HS54.out) rfl ⟨?_, below_setRow hh.out.2.2.2 (by omega) _⟩
          rw [tab_congr (known_done (HT2.out ▸ hh.out.1))]
end Go.Proofs.YtaoegpmjogladaaDoor
