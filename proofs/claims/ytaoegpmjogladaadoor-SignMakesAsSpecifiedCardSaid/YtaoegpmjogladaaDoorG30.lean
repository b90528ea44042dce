/-
  scoriaref01.Ints, by its contract.
-/
import Derived.Test.YtaoegpmjogladaaDoorG08
import Derived.Laws.IdiomStrings
import Derived.Test.YtaoegpmjogladaaDoorG23
import Derived.Test.YtaoegpmjogladaaDoorG27
import Derived.Deep.RegionHeld3
set_option linter.unusedVariables false
namespace Go.Proofs.YtaoegpmjogladaaDoor
open Go.RowKit WM

set_option maxHeartbeats 800000 in
theorem refInts (A : Option Addr) (l : List Int) (c : Nat) (w : World) (ha : Reads w w.heap.size 1 A l.length (is l)) (hr : ∀ x ∈ l, inRange x) (hb : (encL enc l).length ≤ 140737487999900) (hn : l.length ≤ 140737487999900) :
    Calls Tryd.prog 74 #[.slice A l.length c] w fun e w' => ∃ A c, e = .returned (.slice A (encL enc l).length c) ∧ w'.ownsRow w.heap.size 5 1 (.slice A (encL enc l).length c) (encL enc l).length (bs (encL enc l)) ∧ Below w.heap.size w w' := by
  have hrn : inRange (l.length : Int) := ⟨by omega, by omega⟩
  unfold encL at hb
  rw [List.length_append] at hb
  obtain ⟨i0, hi, hz0, hz1, hz2⟩ := info_parts Tryd.info5
  have HA := Lib.hid ha
  have HR := Lib.hid hr
  clear ha hr
  go_enter Tryd.func74, Tryd.ntmps74
  go_wp2_with (go_at_call 46; refine (refInt _ _ hrn).mono ?_; rintro e w1 ⟨A1, c1, rfl, hown, hb⟩; have HO := Lib.hid hown; have HB := Lib.hid hb; clear hown hb)
  go_loopw [3, 4] (fun o i wr => ∃ k : Nat, k ≤ l.length ∧ i = .int .i64 k ∧ Hid (wr.ownsRow w.heap.size 5 1 o (enc (l.length : Int) ++ (l.take k).flatMap enc).length (bs (enc (l.length : Int) ++ (l.take k).flatMap enc))) ∧ Hid (Below w.heap.size w wr))
    (fun _ i _ => l.length - (intOf i).toNat)
  case atStart => exact ⟨0, Nat.zero_le _, rfl, by simpa [Hid] using HO.out, HB.out⟩
  case round =>
    obtain ⟨k, hk, rfl, HO2, HB2⟩ := hrel
    have hsz := HB2.out.size
    by_cases hlt : k < l.length
    · have hle := flat_le enc l (k + 1)
      have hle2 := congrArg List.length (flat_succ enc l k hlt (enc (l.length : Int)))
      rw [List.length_append, List.length_append] at hle2
      obtain ⟨ad, u, rfl, _, hx, hcell⟩ := (HA.out.below HB2.out).at_ hlt
      rw [is_get l k hlt] at hx
      obtain rfl := Option.some.inj hx
      have hrk := HR.out _ (List.getElem_mem hlt)
      have HE := Lib.hid (flat_succ enc l k hlt (enc (l.length : Int)))
      obtain ⟨x, hx⟩ : ∃ x, x = l[k] := ⟨_, rfl⟩
      rw [← hx] at hcell hrk hle2 HE
      have HRK := Lib.hid hrk
      have hle3 : (enc (l.length : Int) ++ (l.take k).flatMap enc).length + (enc x).length ≤ 140737487999900 := by omega
      clear hx hrk hle hle2
      go_wp2_with (first
        | (go_at_call 46; refine (refInt x _ HRK.out).mono ?_; rintro e w2 ⟨A2, c2, rfl, hown3, hb3⟩; have HR3 := Lib.hid (Reads.of_own hown3); have HO3 := Lib.hid (ownsRow_below HO2.out hb3); have HB3 := Lib.hid (HB2.out.trans (hb3.mono hsz)); have hs3 := (HB2.out.trans (hb3.mono hsz)).size; clear hown3 hb3)
        | (at_builtin; refine wpList_append_any _ rfl (.tmp 14) (.tmp 19) _ rfl w.heap.size 5 i0 (.int .u8 0) 1 1 Tryd.underlying26 hi hz0 hz1 hz2 rfl (by omega) _ _ _ rfl HO3.out w2.heap.size A2 (enc x).length c2 (bs (enc x)) rfl HR3.out (bs_one _) (len_le (by omega)) (by omega) hs3 ?_; intro v4 w4 hown4 hgrow4 _; have HO4 := Lib.hid hown4; have HB4 := Lib.hid (HB3.out.grown hgrow4 hs3 (fun k hk => (HO3.out.lt k hk).1)); clear hown4 hgrow4))
      go_roundw
      case rel => exact ⟨k + 1, by omega, by go_num, own_next HO4.out HE.out, HB4.out⟩
      case measure => simp [intOf]; omega
    · obtain rfl : k = l.length := by omega
      go_wp2
      go_ret
      have h1 := HO2.out
      rw [List.take_length] at h1
      obtain ⟨A', c', rfl, _⟩ := own_form h1
      exact ⟨A', c', rfl, h1, HB2.out⟩
end Go.Proofs.YtaoegpmjogladaaDoor

/-
  scoriaref03: digest, ints, start, Digest.
-/
namespace Go.Proofs.YtaoegpmjogladaaDoor
open Go.RowKit WM

def partTo (x : List UInt8) (k : Nat) : List UInt8 := x.take k ++ List.replicate (16 - k) 0
theorem partTo_step (x : List UInt8) (k : Nat) (y : UInt8) (h : k < 16) (hx : x.length = 16) (hy : x[k]? = some y) : (partTo x k).set k y = partTo x (k + 1) := by
  obtain rfl : x[k]'(by omega) = y := (List.getElem?_eq_some_iff.1 hy).2
  unfold partTo
  rw [List.set_append_right _ _ (by simp; omega), show k - (x.take k).length = 0 by simp; omega, show 16 - k = (16 - (k + 1)) + 1 by omega, List.replicate_succ, List.set_cons_zero, List.take_succ_eq_append_getElem (by omega), List.append_assoc]
  rfl
theorem partTo_length (x : List UInt8) (k : Nat) (h : k ≤ 16) (hx : x.length = 16) : (partTo x k).length = 16 := by simp [partTo, hx]; omega

set_option maxRecDepth 100000 in
set_option maxHeartbeats 1000000 in
theorem refFirst (s : ByteArray) (hs : 16 ≤ s.size) (x : List UInt8) (hx : s.data.toList.take 16 = x) (w : World) :
    Calls Tryd.prog 58 #[.string s] w fun e w' => e = .returned (.agg (bs x).toArray) ∧ Below w.heap.size w w' := by
  have hxl : x.length = 16 := by rw [← hx, List.length_take, size_list]; omega
  have hxk : ∀ k (h : k < 16), x[k]? = some (s[k]'(by omega)) := by
    intro k h
    subst hx
    rw [List.getElem?_take, if_pos h]
    rw [List.getElem?_eq_getElem (by rw [size_list]; omega)]
    rfl
  have HX := Lib.hid hxk
  have HXL := Lib.hid hxl
  have HS := Lib.hid (size16 hxl)
  have hz := Tryd.zero29
  clear hx hxl hxk
  go_enter Tryd.func58, Tryd.ntmps58
  go_wp2
  go_loopw [4] (fun i' wr => ∃ k : Nat, k ≤ 16 ∧ i' = .int .i64 k ∧ Hid (Blk wr (w.heap.size + 1) 29 (bs (partTo x k)).toArray ∧ Blk wr w.heap.size 29 (bs z16).toArray ∧ Below w.heap.size w wr)) (fun i' _ => 16 - (intOf i').toNat)
  case atStart => exact ⟨0, by omega, rfl, Blk.new_at _ 29 (by simp) rfl, (Blk.new w _ _).alloc _, ba (below_new _ _) _⟩
  case round =>
    obtain ⟨k, hk, rfl, hh⟩ := hrel
    by_cases hlt : k < 16
    · have hks : k < s.size := by omega
      have hpl := partTo_length x k (by omega) HXL.out
      have hfree := Blk.frozen hh.out.1 k
      obtain ⟨z, hz⟩ : ∃ z : Int, wr.cell? ⟨w.heap.size + 1, k, none⟩ = some (.int .u8 z) := ⟨_, (Blk.cell hh.out.1 k).trans (by simpa using bs_get _ k (by omega))⟩
      have hst := blk_setB hh.out.1 k (s[k]'hks)
      rw [partTo_step x k _ hlt HXL.out (HX.out k hlt)] at hst
      have HST := Lib.hid hst
      clear hst hpl
      go_wp2
      go_roundw
      case rel => exact ⟨k + 1, by omega, by go_num, HST.out, hh.out.2.1.far (by simp) _, hh.out.2.2.setCell (by simp) _⟩
      case measure => simp [intOf]; omega
    · have hke : k = 16 := by omega
      have hb := hh.out.1
      rw [hke, show partTo x 16 = x by simp [partTo, List.take_of_length_le (Nat.le_of_eq HXL.out)]] at hb
      have HB := Lib.hid hb
      have hge : 16 ≤ k := by omega
      clear hlt hk hke hb
      go_wp2_with (first
        | (refine wpList_load_row rfl 29 (.tmp 3) rfl (w.heap.size + 1) rfl 29 (bs x).toArray (0, 0) _ HB.out Tryd.underlying29 rfl HS.out ?_)
        | (refine wpList_store_row rfl 29 (.tmp 2) (.tmp 14) rfl w.heap.size (bs x).toArray rfl rfl 29 _ hh.out.2.1 HS.out (by rw [sz16 HXL.out, sz16 z16_length]) (all_oneCell_toArray (bs_one _)) ?_))
      refine bodyPost_ret (results_cell_row Tryd.results58 _ _ w.heap.size 29 (bs x).toArray (0, 0) _ rfl (hh.out.2.1.setRow _) Tryd.underlying29 rfl HS.out) rfl ⟨rfl, below_setRow hh.out.2.2 (Nat.le_refl _) _⟩

theorem refIntsS (l : List Int) (A : Option Addr) (n c : Nat) (w : World) (hn : l.length = n) (ha : Reads w w.heap.size 1 A n (is l)) (hr : ∀ x ∈ l, inRange x) (hb : (encI l).length ≤ 1000) (hl : n ≤ 1000) (p : List UInt8) (hp : encI l = p) :
    Calls Tryd.prog 68 #[.slice A n c] w fun e w' => e = .returned (.string (str p)) ∧ Below w.heap.size w w' := by
  subst hn
  have HA := Lib.hid ha
  have HR := Lib.hid hr
  have HP := Lib.hid hp
  rw [hp] at hb
  clear ha hr hp
  go_enter Tryd.func68, Tryd.ntmps68
  go_wp2_with (go_at_call 74; refine (refInts A l c _ HA.out HR.out (by have := HP.out; unfold encI at this; rw [this]; omega) (by omega)).mono ?_; rintro e w1 ⟨A1, c1, rfl, ho1, hb1⟩; have hpe : encL enc l = p := HP.out; rw [hpe] at ho1 ⊢; have hcv := conv_str (c := c1) (Reads.of_own ho1); have HB1 := Lib.hid hb1; clear ho1 hb1)
  go_ret
  exact ⟨rfl, HB1.out⟩
end Go.Proofs.YtaoegpmjogladaaDoor

/-
  scoriaref03: start, Digest, node, advance.
-/
namespace Go.Proofs.YtaoegpmjogladaaDoor
open Go.RowKit WM
attribute [local go_sem ↓] shut16

theorem rof_n (t : Int) (l : List ByteArray) (A : Option Addr) (n c : Nat) (w : World) (hn : l.length = n) (hk : KT 1 w) (ha : Reads w w.heap.size 1 A n (ss l)) (hl : (encP l).length ≤ 137438953472) (hn2 : n ≤ 137438953472) (d : List UInt8) (hd : ofB t l = d) :
    Calls Tryd.prog 49 #[.int .i64 t, .slice A n c] w fun e w' => e = .returned (.agg (bs d).toArray) ∧ Below w.heap.size w w' := by
  subst hn hd
  exact rof t A l c w hk ha hl hn2

set_option maxRecDepth 100000 in
set_option maxHeartbeats 1000000 in
theorem refStart (seed : ByteArray) (i c : Int) (w : World) (hk : KT 1 w) (hs : seed.size ≤ 1000) (hi : inRange i) (hc : inRange c) (x : List UInt8) (hx : startB seed.data.toList i c = x) :
    Calls Tryd.prog 48 #[.string seed, .int .i64 i, .int .i64 c] w fun e w' => e = .returned (.agg (bs x).toArray) ∧ Below w.heap.size w w' := by
  have hxl : x.length = 16 := by rw [← hx]; exact startB_16 _ _ _
  obtain ⟨m, hm⟩ : ∃ m, m = macB seed.data.toList (chainText i c) := ⟨_, rfl⟩
  have hml : m.length = 32 := by rw [hm]; exact macB_length _ _
  have hmx : m.take 16 = x := by rw [hm, ← hx]; rfl
  have hms : str (macB seed.data.toList ((⟨#[99, 104, 97, 105, 110]⟩ : ByteArray) ++ str (encI [i, c])).data.toList) = str m := by
    rw [hm]
    congr 2
  have hle := encI_2_le hi hc
  obtain ⟨p, hp⟩ : ∃ p, p = encI [i, c] := ⟨_, rfl⟩
  rw [← hp] at hms hle
  have hsz : ((⟨#[99, 104, 97, 105, 110]⟩ : ByteArray).size : Int) + ((str p).size : Int) ≤ 140737488355328 := by rw [str_size]; show (5 : Int) + _ ≤ _; omega
  have HR := Lib.hid (range2 hi hc)
  have HS16 := Lib.hid (size16 hxl)
  have HXL := Lib.hid hxl
  have HMX := Lib.hid hmx
  have HML := Lib.hid hml
  have HMS := Lib.hid hms
  have HK := Lib.hid hk
  have HLE := Lib.hid hle
  have HPE := Lib.hid hp
  have HTL := Lib.hid (show ((⟨#[99, 104, 97, 105, 110]⟩ : ByteArray) ++ str p).size ≤ 137438953472 by rw [ByteArray.size_append, str_size]; show 5 + _ ≤ _; omega)
  have hz := Tryd.zero29
  clear hx hxl hm hml hmx hms hle hk hp
  go_enter Tryd.func48, Tryd.ntmps48
  go_wp2_with (first
    | (go_at_call 68; refine (refIntsS [i, c] (some ⟨w.heap.size + 1, 0, none⟩) 2 2 _ rfl (reads_is (size_alloc _ _).symm rfl rfl) HR.out (by rw [← HPE.out]; have := HLE.out; omega) (by omega) p HPE.out.symm).mono ?_; rintro e w1 ⟨rfl, hb1⟩; have HB1 := Lib.hid (bt (ba (below_new _ _) _) hb1); have HO1 := Lib.hid (blk_past hb1 ((Blk.new w 29 _).alloc _)); clear hb1)
    | (go_at_call 69; refine (rmac seed _ _ (HK.out.below HB1.out) (by omega) HTL.out (str m) HMS.out).mono ?_; rintro e w2 ⟨rfl, hb2⟩; have HB2 := Lib.hid (bt HB1.out hb2); have HO2 := Lib.hid (blk_past hb2 HO1.out); clear hb2)
    | (go_at_call 58; refine (refFirst (str m) (by rw [str_size, HML.out]; decide) x (by rw [str_list]; exact HMX.out) _).mono ?_; rintro e w3 ⟨rfl, hb3⟩; have HB3 := Lib.hid (bt HB2.out hb3); have HO3 := Lib.hid (blk_past hb3 HO2.out); clear hb3)
    | (refine wpList_store_row rfl 29 (.tmp 6) (.tmp 14) rfl w.heap.size (bs x).toArray rfl rfl 29 _ HO3.out HS16.out (by rw [sz16 HXL.out, sz16 z16_length]) (all_oneCell_toArray (bs_one _)) ?_))
  refine bodyPost_ret (results_cell_row Tryd.results48 _ _ w.heap.size 29 (bs x).toArray (0, 0) _ rfl (HO3.out.setRow _) Tryd.underlying29 rfl HS16.out) rfl ⟨rfl, below_setRow HB3.out (Nat.le_refl _) _⟩

set_option maxRecDepth 100000 in
set_option maxHeartbeats 2000000 in
theorem refDigest (p : List UInt8) (i : Int) (m : ByteArray) (w : World) (hk : KT 1 w) (hp : p.length = 16) (hi : inRange i) (hm : m.size ≤ 1048576) (q : List UInt8) (hq : digestB p i m = q) :
    Calls Tryd.prog 23 #[.agg (bs p).toArray, .int .i64 i, .string m] w fun e w' => e = .returned (.agg (bs q).toArray) ∧ Below w.heap.size w w' := by
  have hz := Tryd.zero29
  have HP := Lib.hid hp
  have HK := Lib.hid hk
  have hi9 := (enc_len hi).2
  have hql : q.length = 16 := by rw [← hq]; exact digestB_16 _ _ _
  have hqo : ofB 12 [str p, str (enc i), m] = q := by rw [← hq]; rfl
  have hen := encP_3_le p (enc i) m (by rw [hp]; decide) (by omega) (by omega)
  rw [hp] at hen
  have HEN := Lib.hid (show (encP [str p, str (enc i), m]).length ≤ 137438953472 by omega)
  have HQL := Lib.hid hql
  have HQO := Lib.hid hqo
  have HS16 := Lib.hid (size16 hql)
  have HSP := Lib.hid (size16 hp)
  have HI := Lib.hid hi
  clear hp hk hq hql hqo hen
  go_enter Tryd.func23, Tryd.ntmps23
  go_wp2_with (first
    | (refine wpList_load_row rfl 29 (.tmp 3) rfl w.heap.size rfl 29 (bs p).toArray (0, 0) _ ((Blk.new w 29 _).alloc _) Tryd.underlying29 rfl HSP.out ?_)
    | (go_at_call 34; refine (text16 p HP.out _).mono ?_; rintro e w1 ⟨rfl, hb1⟩; have HB1 := Lib.hid (bt (ba (below_new _ _) _) hb1); have HZ1 := Lib.hid (blk_past hb1 (Blk.new_at _ 29 (size_alloc w _).symm rfl : Blk _ (w.heap.size + 1) 29 (bs z16).toArray)); clear hb1)
    | (go_at_call 46; refine (refInt i _ HI.out).mono ?_; rintro e w2 ⟨A2, c2, rfl, ho2, hb2⟩; have HB2 := Lib.hid (bt HB1.out hb2); have HZ2 := Lib.hid (blk_past hb2 HZ1.out); have hv2 := conv_str (c := c2) (Reads.of_own ho2); clear ho2 hb2)
    | (go_at_call 49; refine (rof_n 12 [str p, str (enc i), m] (some ⟨w2.heap.size, 0, none⟩) 3 3 _ rfl (HK.out.below (ba HB2.out _)) (reads_ss rfl rfl rfl) HEN.out (by decide) q HQO.out).mono ?_; rintro e w3 ⟨rfl, hb3⟩; have HB3 := Lib.hid (bt (ba HB2.out _) hb3); have HZ3 := Lib.hid (blk_past hb3 (HZ2.out.alloc _)); clear hb3)
    | (refine wpList_store_row rfl 29 (.tmp 6) (.tmp 14) rfl (w.heap.size + 1) (bs q).toArray rfl rfl 29 _ HZ3.out HS16.out (by rw [sz16 HQL.out, sz16 z16_length]) (all_oneCell_toArray (bs_one _)) ?_))
  refine bodyPost_ret (results_cell_row Tryd.results23 _ _ (w.heap.size + 1) 29 (bs q).toArray (0, 0) _ rfl (HZ3.out.setRow _) Tryd.underlying29 rfl HS16.out) rfl ⟨rfl, below_setRow HB3.out (by omega) _⟩
end Go.Proofs.YtaoegpmjogladaaDoor

/-
  scoriaref03: node, advance.
-/
namespace Go.Proofs.YtaoegpmjogladaaDoor
open Go.RowKit WM
attribute [local go_sem ↓] shut16

set_option maxRecDepth 100000 in
set_option maxHeartbeats 4000000 in
theorem refNode (a b : List UInt8) (w : World) (hk : KT 1 w) (ha : a.length = 16) (hb : b.length = 16) (q : List UInt8) (hq : overB a b = q) :
    Calls Tryd.prog 59 #[.agg (bs a).toArray, .agg (bs b).toArray] w fun e w' => e = .returned (.agg (bs q).toArray) ∧ Below w.heap.size w w' := by
  have hz := Tryd.zero29
  have hql : q.length = 16 := by rw [← hq]; exact overB_16 _ _
  have hqo : ofB 10 [str a, str b] = q := by rw [← hq]; rfl
  have hen := encP_2_le a b (by rw [ha]; decide) (by rw [hb]; decide)
  rw [ha, hb] at hen
  have HEN := Lib.hid (show (encP [str a, str b]).length ≤ 137438953472 by omega)
  have HQL := Lib.hid hql
  have HQO := Lib.hid hqo
  have HS16 := Lib.hid (size16 hql)
  have HA := Lib.hid ha
  have HB := Lib.hid hb
  have HK := Lib.hid hk
  clear ha hb hk hql hqo hq hen
  go_enter Tryd.func59, Tryd.ntmps59
  go_upto_region 1 with fail
  generalize hw0 : World.alloc _ _ = w0
  have H0 : Hid (Blk w0 w.heap.size 29 (bs a).toArray ∧ Blk w0 (w.heap.size + 1) 29 (bs b).toArray ∧ Blk w0 (w.heap.size + 1 + 1) 29 (bs z16).toArray ∧ Below w.heap.size w w0) := by
    rw [← hw0]
    exact ⟨((Blk.new w 29 _).alloc _).alloc _, (Blk.new_at _ 29 (size_alloc _ _).symm rfl).alloc _, Blk.new_at _ 29 (by simp) rfl, ba (ba (below_new _ _) _) _⟩
  clear hw0
  have a0 := fun (W : World) (g : Nat) (h : Blk W g 29 (bs a).toArray) => load16 h HA.out
  have b0 := fun (W : World) (g : Nat) (h : Blk W g 29 (bs b).toArray) => load16 h HB.out
  have r0 := H0.out.1
  have r1 := H0.out.2.1
  have r4 : ∀ (w : World) g t cs, Blk w.drew g t cs ↔ Blk w g t cs := fun _ _ _ _ => Iff.rfl
  have hlq : (bs q).length = 16 := by rw [bs_length]; exact HQL.out
  go_region_with (first
    | (go_at_call 34; (with_reducible refine (text16 a HA.out _).mono ?_); rintro e w1 ⟨rfl, hb1⟩; have HB1 := Lib.hid (bt H0.out.2.2.2.drew hb1); have s1 := blk_past hb1 H0.out.2.1.drew; have HZ1 := Lib.hid (blk_past hb1 H0.out.2.2.1.drew); clear hb1)
    | (go_at_call 34; (with_reducible refine (text16 b HB.out _).mono ?_); rintro e w2 ⟨rfl, hb2⟩; have HB2 := Lib.hid (bt HB1.out hb2); have HZ2 := Lib.hid (blk_past hb2 HZ1.out); clear hb2)
    | (go_at_call 49; refine (rof_n 10 [str a, str b] (some ⟨w2.heap.size, 0, none⟩) 2 2 _ rfl (HK.out.below (ba HB2.out _)) (reads_ss rfl rfl rfl) HEN.out (by decide) q HQO.out).mono ?_; rintro e w3 ⟨rfl, hb3⟩; have HB3 := Lib.hid (bt (ba HB2.out _) hb3); have HZ3 := Lib.hid (blk_past hb3 (HZ2.out.alloc _)); have hst := store16 HZ3.out z16_length HQL.out; clear hb3))
  all_goals
    go_wp2_with fail
    refine bodyPost_ret (results_cell_row Tryd.results59 _ _ (w.heap.size + 1 + 1) 29 (bs q).toArray (0, 0) _ rfl (HZ3.out.setRow _) Tryd.underlying29 rfl HS16.out) rfl ⟨rfl, below_setRow HB3.out (by omega) _⟩

set_option maxRecDepth 100000 in
set_option maxHeartbeats 4000000 in
theorem refAdvance (v : List UInt8) (i c : Int) (a b : Nat) (w : World) (hk : KT 1 w) (hv : v.length = 16) (hi : inRange i) (hc : inRange c) (ha : a ≤ 1000) (hb : b ≤ 1000) (r : List UInt8) (hr : advB i c a (b - a) v = r) :
    Calls Tryd.prog 47 #[.int .i64 i, .int .i64 c, .int .i64 (a : Int), .int .i64 (b : Int), .agg (bs v).toArray] w fun e w' => e = .returned (.agg (bs r).toArray) ∧ Below w.heap.size w w' := by
  have hz := Tryd.zero29
  have HV := Lib.hid hv
  have HK := Lib.hid hk
  have HRR := Lib.hid hr
  clear hv hk hr
  go_enter Tryd.func47, Tryd.ntmps47
  go_wp2
  go_loopw [11] (fun t' wr => ∃ k : Nat, k ≤ b - a ∧ t' = .int .i64 ((a + k : Nat) : Int) ∧ Hid (Blk wr w.heap.size 29 (bs (advB i c a k v)).toArray ∧ Blk wr (w.heap.size + 1) 29 (bs z16).toArray ∧ Below w.heap.size w wr)) (fun t' _ => b - (intOf t').toNat)
  case atStart => exact ⟨0, by omega, rfl, (Blk.new w 29 _).alloc _, Blk.new_at _ 29 (size_alloc _ _).symm rfl, ba (below_new _ _) _⟩
  case round =>
    obtain ⟨k, hk, rfl, hh⟩ := hrel
    obtain ⟨x, hx⟩ : ∃ x, x = advB i c a k v := ⟨_, rfl⟩
    have hxl : x.length = 16 := by rw [hx]; exact advB_16 _ _ _ _ _ HV.out
    have hs := hh.out.2.2.size
    have HX := Lib.hid hx
    have HXL := Lib.hid hxl
    have hh1 := hh.out
    rw [← hx] at hh1
    have HH := Lib.hid hh1
    clear hh hh1 hx hxl
    by_cases hlt : a + k < b
    · have ht : inRange ((a : Int) + (k : Int)) := ⟨by omega, by omega⟩
      have HR := Lib.hid (range3 hi hc ht)
      have hle := encI_3_le hi hc ht
      obtain ⟨p, hp⟩ : ∃ p, p = encI [i, c, (a : Int) + (k : Int)] := ⟨_, rfl⟩
      rw [← hp] at hle
      obtain ⟨y, hy⟩ : ∃ y, y = stepB i c ((a + k : Nat) : Int) x := ⟨_, rfl⟩
      have hyl : y.length = 16 := by rw [hy]; exact stepB_16 _ _ _ _
      have hyo : ofB 7 [str p, str x] = y := by rw [hy, hp]; rfl
      have hen := encP_2_le p x (by omega) (by rw [HXL.out]; decide)
      rw [HXL.out] at hen
      have HP := Lib.hid hp
      have HLE := Lib.hid hle
      have HEN := Lib.hid (show (encP [str p, str x]).length ≤ 137438953472 by omega)
      have HY := Lib.hid hy
      have HYL := Lib.hid hyl
      have HYO := Lib.hid hyo
      have hly : (bs y).length = 16 := by rw [bs_length]; exact HYL.out
      have x0 := fun (W : World) (h : Blk W w.heap.size 29 (bs x).toArray) => load16 h HXL.out
      have r0 := HH.out.1
      have r4 : ∀ (w : World) g t cs, Blk w.drew g t cs ↔ Blk w g t cs := fun _ _ _ _ => Iff.rfl
      have p1 := @pb1
      clear hle ht hp hy hyl hyo hen
      go_wp2
      go_region_with (first
        | (go_at_call 68; go_loud (refine (refIntsS [i, c, (a : Int) + (k : Int)] (some ⟨wr.heap.size, 0, none⟩) 3 3 (World.drew _) rfl (reads_is rfl rfl rfl).drew HR.out (by rw [← HP.out]; have := HLE.out; omega) (by omega) p HP.out.symm).mono ?_); rintro e w1 ⟨rfl, hb1⟩; have HB1 := Lib.hid (bt (ba HH.out.2.2 _).drew hb1); have s1 := blk_past hb1 (HH.out.1.alloc _).drew; have HZ1 := Lib.hid (blk_past hb1 (HH.out.2.1.alloc _).drew); have HX1 := Lib.hid s1; clear hb1)
        | (go_at_call 34; refine (text16 x HXL.out _).mono ?_; rintro e w2 ⟨rfl, hb2⟩; have HB2 := Lib.hid (bt HB1.out hb2); have HZ2 := Lib.hid (blk_past hb2 HZ1.out); have HX2 := Lib.hid (blk_past hb2 HX1.out); clear hb2)
        | (go_at_call 49; refine (rof_n 7 [str p, str x] (some ⟨w2.heap.size, 0, none⟩) 2 2 _ rfl (HK.out.below (ba HB2.out _)) (reads_ss rfl rfl rfl) HEN.out (by decide) y HYO.out).mono ?_; rintro e w3 ⟨rfl, hb3⟩; have HB3 := Lib.hid (bt (ba HB2.out _) hb3); have HZ3 := Lib.hid (blk_past hb3 (HZ2.out.alloc _)); have HX3 := Lib.hid (blk_past hb3 (HX2.out.alloc _)); have hst := store16 HX3.out HXL.out HYL.out; clear hb3))
      all_goals
        go_wp2_with fail
        go_roundw
        case rel =>
          refine ⟨k + 1, by omega, by go_num, ?_, HZ3.out.setRow_far (by omega) _, below_setRow HB3.out (by omega) _⟩
          rw [advB_succ, ← HX.out, ← HY.out]
          exact HX3.out.setRow _
        case measure => simp [intOf]; omega
    · have hke : k = b - a := by omega
      have HKE := Lib.hid hke
      have hge : b ≤ a + k := by omega
      have HS16 := Lib.hid (size16 HXL.out)
      clear hlt hk hke
      go_wp2_with (first
        | (refine wpList_load_row rfl 29 (.tmp 9) rfl w.heap.size rfl 29 (bs x).toArray (0, 0) _ HH.out.1 Tryd.underlying29 rfl HS16.out ?_)
        | (refine wpList_store_row rfl 29 (.tmp 10) (.tmp 27) rfl (w.heap.size + 1) (bs x).toArray rfl rfl 29 _ HH.out.2.1 HS16.out (by rw [sz16 HXL.out, sz16 z16_length]) (all_oneCell_toArray (bs_one _)) ?_))
      refine bodyPost_ret (results_cell_row Tryd.results47 _ _ (w.heap.size + 1) 29 (bs x).toArray (0, 0) _ rfl (HH.out.2.1.setRow _) Tryd.underlying29 rfl HS16.out) rfl ⟨?_, below_setRow HH.out.2.2 (by omega) _⟩
      rw [← HRR.out, ← HKE.out, HX.out]
end Go.Proofs.YtaoegpmjogladaaDoor
