/-
  scoriaref02.Sum of a part.
-/
import Derived.Test.YtikinofopkjdjaaDoorG48
import Derived.Test.YtikinofopkjdjaaDoorG45
import Derived.Test.YtikinofopkjdjaaDoorG16
import Derived.Test.YtikinofopkjdjaaDoorG46
import Derived.Test.YtikinofopkjdjaaDoorG26
import Derived.Test.YtikinofopkjdjaaDoorG28
import Derived.Test.YtikinofopkjdjaaDoorG30
import Derived.Test.YtikinofopkjdjaaDoorG15
import Derived.ChangeKeysEq
set_option linter.unusedVariables false
namespace Go.Proofs.YtikinofopkjdjaaDoor
open Go.RowKit WM

theorem rsum_n (A : Option Addr) (m : List UInt8) (n c : Nat) (w : World) (hn : n = m.length) (hk : KT 3 w) (ha : Reads w w.heap.size 1 A n (bs m)) (hm : m.length ≤ 1099511627776) (x : List UInt8) (hx : sha m = x) :
    Calls Tryd.prog 110 #[.slice A n c] w fun e w' => e = .returned (.agg (bs x).toArray) ∧ Below w.heap.size w w' := by
  subst hn hx
  exact rsum A m c w hk ha hm
end Go.Proofs.YtikinofopkjdjaaDoor

/-
  scoriaref02.Input.
-/
namespace Go.Proofs.YtikinofopkjdjaaDoor
open Go.RowKit WM

theorem own_app {w : World} {B : Nat} {v : Value} {l m : List UInt8} (h : w.ownsRow B 5 1 v (l.length + m.length) (bs l ++ bs m)) : w.ownsRow B 5 1 v (l ++ m).length (bs (l ++ m)) := own_next h rfl
theorem encP_take_succ (t : UInt8) (l : List ByteArray) (k : Nat) (h : k < l.length) : t :: encP (l.take (k + 1)) = (t :: encP (l.take k)) ++ encB l[k].data.toList := by
  rw [encP_succ l k h]; rfl

set_option maxRecDepth 100000 in
set_option maxHeartbeats 1600000 in
theorem input (t : Int) (A : Option Addr) (l : List ByteArray) (c : Nat) (w : World) (ha : Reads w w.heap.size 1 A l.length (ss l)) (hl : (encP l).length ≤ 137438953472) (hn : l.length ≤ 137438953472) :
    Calls Tryd.prog 88 #[.int .i64 t, .slice A l.length c] w fun e w' => ∃ v, e = .returned v ∧ w'.ownsRow w.heap.size 5 1 v (inputOf t l).length (bs (inputOf t l)) ∧ Below w.heap.size w w' := by
  have HA := Lib.hid ha
  clear ha
  obtain ⟨i0, hi, hz0, hz1, hz2⟩ := info_parts Tryd.info5
  obtain ⟨tb, htb⟩ : ∃ tb, tb = tagB t := ⟨_, rfl⟩
  have htv : (tb.toNat : Int) = t % 256 := by rw [htb]; exact tagB_val t
  have e0 : inputOf t l = tb :: encP l := by rw [htb]; rfl
  rw [e0]
  have HTV := Lib.hid htv
  clear htb htv e0
  go_enter Tryd.func88, Tryd.ntmps88
  go_wp2
  go_loopw [5, 6] (fun a i' wr => ∃ k : Nat, k ≤ l.length ∧ i' = .int .i64 k ∧ Hid (wr.ownsRow w.heap.size 5 1 a (tb :: encP (l.take k)).length (bs (tb :: encP (l.take k))) ∧ Below w.heap.size w wr)) (fun _ i' _ => l.length - (intOf i').toNat)
  case atStart =>
    refine ⟨0, by omega, rfl, ?_, below_new _ _⟩
    have := World.ownsRow_lit (base := w.heap.size) (e := 5) (size := 1) w #[.int .u8 (t % 256)] 1 (Nat.le_refl _) (len_le (by omega)) rfl
    rw [← HTV.out] at this
    first | exact this | (rw [IntKind.wrap_u8, ← HTV.out]; exact this) | (rw [← HTV.out]; exact this)
  case round =>
    obtain ⟨k, hk, rfl, hh⟩ := hrel
    have hsz := hh.out.2.size
    by_cases hlt : k < l.length
    · obtain ⟨b, off, rfl, _, hcell⟩ := (HA.out.below hh.out.2).lit (by omega)
      obtain ⟨s, hs⟩ : ∃ s, s = l[k] := ⟨_, rfl⟩
      have hc := hcell k _ (ss_get l k hlt)
      rw [← hs] at hc
      have HTK := Lib.hid (encP_take_succ tb l k hlt)
      rw [← hs] at HTK
      have hle := encP_le l (k + 1)
      have hle2 : (tb :: encP (l.take (k + 1))).length = (encP (l.take (k + 1))).length + 1 := rfl
      rw [HTK.out, List.length_append] at hle2
      have hsum : (tb :: encP (l.take k)).length + (encB s.data.toList).length ≤ 137438953473 := by omega
      have hss : s.size ≤ 137438953473 := by have := encB_ge s; omega
      have HSUM := Lib.hid hsum
      clear hcell hs hle hle2 hsum
      go_wp2_with (first
        | (go_at_call 111; refine (refBytes s wr (by omega)).mono ?_; rintro e w1 ⟨A1, c1, rfl, hown1, hb1⟩; have HO1 := Lib.hid (ownsRow_below hh.out.1 hb1); have HR1 := Lib.hid (Reads.of_own hown1); have HB1 := Lib.hid (bt hh.out.2 hb1); have hs1 := hb1.size; clear hown1 hb1)
        | (at_builtin; refine wpList_append_any _ rfl (.tmp 16) (.tmp 21) _ rfl w.heap.size 5 i0 (.int .u8 0) 1 1 Tryd.underlying23 hi hz0 hz1 hz2 rfl (by omega) _ _ _ rfl HO1.out w1.heap.size A1 _ c1 (bs (encB s.data.toList)) rfl HR1.out (bs_one _) (len_le (by have := HSUM.out; omega)) (by have := HSUM.out; omega) (by omega) ?_; intro v2 w2 hown2 hgrow2 _; have HO2 := Lib.hid (own_app hown2); have HB2 := Lib.hid (HB1.out.grown hgrow2 HB1.out.size (fun k hk => (HO1.out.lt k hk).1)); clear hown2 hgrow2))
      go_roundw
      case rel => exact ⟨k + 1, by omega, by go_num, by rw [HTK.out]; exact HO2.out, HB2.out⟩
      case measure => simp [intOf]; omega
    · have hke : k = l.length := by omega
      have HKE := Lib.hid hke
      have hge : l.length ≤ k := by omega
      clear hlt hk hke
      have hown : wr.ownsRow w.heap.size 5 1 u5 (tb :: encP l).length (bs (tb :: encP l)) := by
        have := hh.out.1
        rwa [HKE.out, List.take_of_length_le (Nat.le_refl _)] at this
      have HOWN := Lib.hid hown
      clear hown
      go_wp2
      go_ret
      exact ⟨_, rfl, HOWN.out, hh.out.2⟩
end Go.Proofs.YtikinofopkjdjaaDoor

/-
  scoriaref02.Short and scoriaref02.Of.
-/
namespace Go.Proofs.YtikinofopkjdjaaDoor
open Go.RowKit WM

def sh (x : List UInt8) (i : Nat) : List UInt8 := x.take i ++ List.replicate (16 - i) 0
theorem sh_length (x : List UInt8) (i : Nat) (hx : x.length = 32) (h : i ≤ 16) : (sh x i).length = 16 := by
  simp [sh]; omega
theorem sh_get (x : List UInt8) (i : Nat) (hx : x.length = 32) (h : i < 16) : (sh x i)[i]? = some 0 := by
  unfold sh
  rw [List.getElem?_append_right (by simp; omega), List.getElem?_replicate, if_pos (by simp; omega)]
theorem sh_step (x : List UInt8) (i : Nat) (hx : x.length = 32) (h : i < 16) : (sh x i).set i (x[i]'(by omega)) = sh x (i + 1) := by
  unfold sh
  have hl : (x.take i).length = i := by simp; omega
  rw [List.set_append_right _ _ (by omega), hl, Nat.sub_self, show 16 - i = (16 - (i + 1)) + 1 by omega, List.replicate_succ, List.set_cons_zero, List.take_succ_eq_append_getElem (show i < x.length by omega), List.append_assoc]
  rfl
theorem sh_done (x : List UInt8) : sh x 16 = x.take 16 := by simp [sh]

set_option maxRecDepth 100000 in
set_option maxHeartbeats 1600000 in
theorem short (A : Option Addr) (m : List UInt8) (n c : Nat) (w : World) (hn : n = m.length) (hk : KT 3 w) (ha : Reads w w.heap.size 1 A n (bs m)) (hm : m.length ≤ 1099511627776) :
    Calls Tryd.prog 87 #[.slice A n c] w fun e w' => e = .returned (.agg (bs ((sha m).take 16)).toArray) ∧ Below w.heap.size w w' := by
  obtain ⟨x, hx⟩ : ∃ x, x = sha m := ⟨_, rfl⟩
  have hxl : x.length = 32 := by rw [hx]; rfl
  rw [← hx]
  have hs24 : (Tryd.prog.info? 121).map (·.size) = some (bs x).toArray.size := by rw [Tryd.size121]; simp [bs, hxl]
  have hs44 : (Tryd.prog.info? 31).map (·.size) = some (bs (x.take 16)).toArray.size := by rw [Tryd.size31]; simp [bs, hxl]
  have hs44z : (Tryd.prog.info? 31).map (·.size) = some (bs (List.replicate 16 0)).toArray.size := by rw [Tryd.size31]; simp [bs]
  have HX := Lib.hid hx
  have HXL := Lib.hid hxl
  have HS24 := Lib.hid hs24
  have HS44 := Lib.hid hs44
  have HS44Z := Lib.hid hs44z
  have HK := Lib.hid hk
  have HA := Lib.hid ha
  have HN := Lib.hid hn
  have HM := Lib.hid hm
  clear hx hxl hs24 hs44 hs44z hk ha hn hm
  go_enter Tryd.func87, Tryd.ntmps87
  go_wp2_with fail
  generalize hw0 : World.alloc w _ = w0
  have HB0 : Hid (Below w.heap.size w w0) := by rw [← hw0]; exact below_new _ _
  have HO0 : Hid (Blk w0 w.heap.size 31 (bs (List.replicate 16 0)).toArray) := by rw [← hw0]; exact Blk.new_at w 31 rfl (by kernel_rfl)
  clear hw0
  have h0 := rsum_n A m n c w0 HN.out (HK.out.below HB0.out) ((HA.out.below HB0.out).more HB0.out.size) HM.out x HX.out.symm
  refine h0.mono ?_
  clear h0
  rintro e w1 ⟨rfl, hb1⟩
  have HB1 := Lib.hid (bt HB0.out hb1)
  have HO1 := Lib.hid (blk_past hb1 HO0.out)
  clear hb1
  go_wp2_with (first
    | (refine wpList_store_row rfl 121 (.tmp 3) (.tmp 7) rfl w1.heap.size (bs x).toArray rfl rfl 121 _ (Blk.new w1 121 _) HS24.out (by simp [bs, HXL.out]) (all_oneCell_toArray (bs_one _)) ?_
       generalize hw2 : World.setRow (World.alloc w1 _) _ _ = w2
       have HX2 : Hid (Blk w2 w1.heap.size 121 (bs x).toArray) := by rw [← hw2]; exact (Blk.new w1 121 _).setRow _
       have HO2 : Hid (Blk w2 w.heap.size 31 (bs (List.replicate 16 0)).toArray) := by rw [← hw2]; exact (HO1.out.alloc _).setRow_far (by have := HO1.out.lt; omega) _
       have HB2 : Hid (Below w.heap.size w w2) := by rw [← hw2]; exact below_setRow (ba HB1.out _) HB1.out.size _
       clear hw2)
    | (refine wpList_store_row rfl 31 (.tmp 4) (.tmp 8) rfl w2.heap.size (bs (List.replicate 16 0)).toArray rfl rfl 31 _ (Blk.new w2 31 _) HS44Z.out (by simp [bs]) (all_oneCell_toArray (bs_one _)) ?_
       generalize hw3 : World.setRow (World.alloc w2 _) _ _ = w3
       have HX3 : Hid (Blk w3 w1.heap.size 121 (bs x).toArray) := by rw [← hw3]; exact (HX2.out.alloc _).setRow_far (by have := HX2.out.lt; omega) _
       have HO3 : Hid (Blk w3 w.heap.size 31 (bs (List.replicate 16 0)).toArray) := by rw [← hw3]; exact (HO2.out.alloc _).setRow_far (by have := HO2.out.lt; omega) _
       have HZ3 : Hid (Blk w3 w2.heap.size 31 (bs (sh x 0)).toArray) := by rw [← hw3]; exact (Blk.new w2 31 _).setRow _
       have HB3 : Hid (Below w.heap.size w w3) := by rw [← hw3]; exact below_setRow (ba HB2.out _) HB2.out.size _
       clear hw3))
  have hq1 : w1.heap.size < w2.heap.size := HX2.out.lt
  have hq2 : w.heap.size < w1.heap.size := HO1.out.lt
  obtain ⟨g3, hg3⟩ : ∃ g, g = w1.heap.size := ⟨_, rfl⟩
  obtain ⟨g4, hg4⟩ : ∃ g, g = w2.heap.size := ⟨_, rfl⟩
  rw [← hg3] at HX3 hq1 hq2 ⊢
  rw [← hg4] at HZ3 hq1 ⊢
  clear hg3 hg4 HX2 HO2 HB2 HO1 HB1 HO0 HB0
  go_loopw [5] (fun i' wr => ∃ i : Nat, i ≤ 16 ∧ i' = .int .i64 i ∧ Hid (Blk wr g4 31 (bs (sh x i)).toArray ∧ Blk wr g3 121 (bs x).toArray ∧ Blk wr w.heap.size 31 (bs (List.replicate 16 0)).toArray ∧ Below w.heap.size w wr)) (fun i' _ => 16 - (intOf i').toNat)
  case atStart => exact ⟨0, by omega, rfl, HZ3.out, HX3.out, HO3.out, HB3.out⟩
  case round =>
    clear HZ3 HX3 HO3 HB3
    obtain ⟨i, hi16, rfl, hh⟩ := hrel
    by_cases hlt : i < 16
    · have hix : i < x.length := by have := HXL.out; omega
      obtain ⟨b, hb⟩ : ∃ b, b = x[i] := ⟨_, rfl⟩
      have hc1 : wr.cell? ⟨g3, i, none⟩ = some (.int .u8 (b.toNat : Int)) := (Blk.cell hh.out.2.1 i).trans (by rw [hb]; simpa using bs_get x i hix)
      have hc2 : wr.cell? ⟨g4, i, none⟩ = some (.int .u8 ((0 : UInt8).toNat : Int)) := (Blk.cell hh.out.1 i).trans (by simpa using bs_get' (sh_get x i HXL.out hlt))
      have hf := Blk.frozen hh.out.1 i
      have HST : Hid ((sh x i).set i b = sh x (i + 1)) := by rw [hb]; exact sh_step x i HXL.out hlt
      clear hb
      go_wp2
      go_roundw
      case rel => exact ⟨i + 1, by omega, by go_num, by rw [← HST.out]; exact blk_setB hh.out.1 i b, hh.out.2.1.far (by simp; omega) _, hh.out.2.2.1.far (by simp; omega) _, hh.out.2.2.2.setCell (by simp; omega) _⟩
      case measure => simp [intOf]; omega
    · have hie : i = 16 := by omega
      have hz : Blk wr g4 31 (bs (x.take 16)).toArray := by
        have := hh.out.1
        rwa [hie, sh_done] at this
      have HZ := Lib.hid hz
      have hge : 16 ≤ i := by omega
      clear hlt hi16 hie hz
      go_wp2_with (first
        | (refine wpList_load_row rfl 31 (.tmp 4) rfl g4 rfl 31 (bs (x.take 16)).toArray (0, 0) _ HZ.out Tryd.underlying31 rfl HS44.out ?_)
        | (refine wpList_store_row rfl 31 (.tmp 2) (.tmp 18) rfl w.heap.size (bs (x.take 16)).toArray rfl rfl 31 _ hh.out.2.2.1 HS44.out (by simp [bs, HXL.out]) (all_oneCell_toArray (bs_one _)) ?_))
      exact bodyPost_ret (results_cell_row Tryd.results87 _ _ w.heap.size 31 (bs (x.take 16)).toArray (0, 0) _ rfl (hh.out.2.2.1.setRow _) Tryd.underlying31 rfl HS44.out) rfl ⟨rfl, below_setRow hh.out.2.2.2 (Nat.le_refl _) _⟩

set_option maxRecDepth 100000 in
set_option maxHeartbeats 1600000 in
theorem rof (t : Int) (A : Option Addr) (l : List ByteArray) (c : Nat) (w : World) (hk : KT 3 w) (ha : Reads w w.heap.size 1 A l.length (ss l)) (hl : (encP l).length ≤ 137438953472) (hn : l.length ≤ 137438953472) :
    Calls Tryd.prog 47 #[.int .i64 t, .slice A l.length c] w fun e w' => e = .returned (.agg (bs (ofB t l)).toArray) ∧ Below w.heap.size w w' := by
  have hs44 : (Tryd.prog.info? 31).map (·.size) = some (bs (ofB t l)).toArray.size := by rw [Tryd.size31]; simp [bs, ofB, sha_length]
  have hil : (inputOf t l).length ≤ 1099511627776 := by show (encP l).length + 1 ≤ _; omega
  have HS44 := Lib.hid hs44
  have HIL := Lib.hid hil
  have HK := Lib.hid hk
  have HA := Lib.hid ha
  clear hs44 hil hk ha
  go_enter Tryd.func47, Tryd.ntmps47
  go_wp2_with fail
  generalize hw0 : World.alloc w _ = w0
  have HB0 : Hid (Below w.heap.size w w0) := by rw [← hw0]; exact below_new _ _
  have HO0 : Hid (Blk w0 w.heap.size 31 (bs (List.replicate 16 0)).toArray) := by rw [← hw0]; exact Blk.new_at w 31 rfl (by kernel_rfl)
  clear hw0
  have h0 := input t A l c w0 ((HA.out.below HB0.out).more HB0.out.size) hl hn
  refine h0.mono ?_
  clear h0
  rintro e w1 ⟨v, rfl, hown, hb1⟩
  have HB1 := Lib.hid (bt HB0.out hb1)
  have HO1 := Lib.hid (blk_past hb1 HO0.out)
  obtain ⟨n, hnn⟩ : ∃ n, n = (inputOf t l).length := ⟨_, rfl⟩
  rw [← hnn] at hown
  have HN := Lib.hid hnn
  obtain ⟨A1, c1, hv, _⟩ := own_len hown
  subst hv
  have HR1 := Lib.hid (Reads.of_own hown)
  clear hb1 hnn hown
  go_wp2_with (first
    | (go_at_call 87; have h1 := short A1 (inputOf t l) n c1 w1 HN.out (HK.out.below HB1.out) HR1.out HIL.out; refine h1.mono ?_; clear h1; rintro e w2 ⟨rfl, hb2⟩; have HB2 := Lib.hid (bt HB1.out hb2); have HO2 := Lib.hid (blk_past hb2 HO1.out); clear hb2)
    | (refine wpList_store_row rfl 31 (.tmp 4) (.tmp 8) rfl w.heap.size (bs (ofB t l)).toArray rfl rfl 31 _ HO2.out HS44.out (by simp [bs, ofB, sha_length]) (all_oneCell_toArray (bs_one _)) ?_))
  exact bodyPost_ret (results_cell_row Tryd.results47 _ _ w.heap.size 31 (bs (ofB t l)).toArray (0, 0) _ rfl (HO2.out.setRow _) Tryd.underlying31 rfl HS44.out) rfl ⟨rfl, below_setRow HB2.out (Nat.le_refl _) _⟩
end Go.Proofs.YtikinofopkjdjaaDoor

/-
  The reference's Digest.
-/
namespace Go.Proofs.YtikinofopkjdjaaDoor
open Go.RowKit WM TR

set_option maxRecDepth 100000 in
set_option maxHeartbeats 4000000 in
theorem rdigest_is (d : Nat) (t : T) (S : Nat → Prop) (A : Option Addr) (c : Nat) (w : World) (h : Rep w S d t (nd t A c)) (hin : In S w.heap.size) (hs : size t ≤ 10000) (hk : KT 3 w) :
    Calls Tryd.prog 14 #[.agg #[.int .i64 t.k, .int .i64 t.n, .int .i64 t.m, .slice A t.kids.length c]] w fun e w' => e = .returned (.agg (bs (digT t)).toArray) ∧ Below w.heap.size w w' := by
  obtain ⟨n, hn⟩ : ∃ n, t.kids.length = n := ⟨_, rfl⟩
  have hok := h.ok (by omega)
  have hen := encT_small t hok
  have hE : (encP [str (encT t)]).length ≤ 1000000 := by
    rw [encP_str]
    unfold encB
    rw [List.length_append]
    have := (enc_len (n := ((encT t).length : Int)) ⟨by omega, by omega⟩).2
    omega
  obtain ⟨W1, hW1⟩ : ∃ W, W = (w.alloc (.cells #[.int .i64 t.k, .int .i64 t.n, .int .i64 t.m, .slice A n c] 26)).alloc (.cells (bs (List.replicate 16 0)).toArray 31) := ⟨_, rfl⟩
  have hz : W1.heap.size = w.heap.size + 2 := by rw [hW1, size_alloc, size_alloc]
  have hB1 : Below w.heap.size w W1 := by rw [hW1]; exact ba (below_new _ _) _
  have hZ1 : Blk W1 (w.heap.size + 1) 31 (bs (List.replicate 16 0)).toArray := by rw [hW1]; exact Blk.new_at _ _ (by rw [size_alloc]) rfl
  have hZ0 : Blk W1 w.heap.size 26 #[.int .i64 t.k, .int .i64 t.n, .int .i64 t.m, .slice A n c] := by rw [hW1]; exact (Blk.new _ _ _).alloc _
  have hC := rencode_is d t S A c W1 (h.later hin hB1) (hin.more hB1.size) (by omega)
  rw [hn] at hC ⊢
  have HC := Lib.hid hC
  have HK := Lib.hid hk
  have HB1 := Lib.hid hB1
  have HZ1 := Lib.hid hZ1
  have HZ := Lib.hid hz
  have HE := Lib.hid hE
  have HW1 := Lib.hid hW1
  have HLD : Hid (∀ i z, ([.int .i64 t.k, .int .i64 t.n, .int .i64 t.m, .slice A n c] : List Value)[i]? = some z → W1.cell? ⟨w.heap.size, 0 + i, none⟩ = some z) := Lib.hid (by
    intro i z hz
    rw [hZ0.cell (0 + i), Nat.zero_add]; simpa using hz)
  clear h hin hs hk hok hen hE hz hB1 hZ1 hZ0 hC hW1 hn
  go_enter Tryd.func14, Tryd.ntmps14
  go_upto_region 1 with fail
  have e16 : (#[.int .u8 0, .int .u8 0, .int .u8 0, .int .u8 0, .int .u8 0, .int .u8 0, .int .u8 0, .int .u8 0, .int .u8 0, .int .u8 0, .int .u8 0, .int .u8 0, .int .u8 0, .int .u8 0, .int .u8 0, .int .u8 0] : Array Value) = (bs (List.replicate 16 0)).toArray := by kernel_rfl
  rw [e16, ← HW1.out]
  clear e16
  go_wp2_with (first
    | (refine wpList_load_mid rfl 26 (.tmp 1) rfl w.heap.size 0 rfl [.int .i64 t.k, .int .i64 t.n, .int .i64 t.m, .slice A n c] _ HLD.out Tryd.underlying26 rfl (by rw [size_node]; rfl) ?_)
    | (go_at_call 10; go_loud (refine HC.out.mono ?_; rintro e w2 ⟨A2, c2, rfl, ho2, hb2⟩; have hcv := conv_str (c := c2) (Reads.of_own ho2); have HB2 := Lib.hid hb2; clear ho2 hb2))
    | (go_at_call 47; go_loud (have hrd : Reads (w2.alloc (.cells #[.string (str (encT t))] 9)) (w2.alloc (.cells #[.string (str (encT t))] 9)).heap.size 1 (some ⟨w2.heap.size, 0, none⟩) [str (encT t)].length (ss [str (encT t)]) := ⟨rfl, fun _ => ⟨_, rfl, (by rw [size_alloc]; exact Nat.lt_succ_self _), one_new _ _ _⟩⟩; refine (rof 1 _ [str (encT t)] 1 _ (HK.out.below (ba (bt HB1.out HB2.out) _)) hrd (by have := HE.out; omega) (by simp)).mono ?_; rintro e w3 ⟨rfl, hb3⟩; have HB3 := Lib.hid (bt (bt HB1.out HB2.out) (bt (below_new w2 (.cells #[.string (str (encT t))] 9)) hb3)); have HZ3 := Lib.hid ((HZ1.out.below HB2.out HZ1.out.lt).below (bt (below_new w2 (.cells #[.string (str (encT t))] 9)) hb3) (by have := (HZ1.out.below HB2.out HZ1.out.lt).lt; omega)); clear hb3 hrd))
    | (refine wpList_store_row rfl 31 (.tmp 2) (.tmp 7) rfl (w.heap.size + 1) (bs (digT t)).toArray rfl rfl 31 _ HZ3.out (by rw [Tryd.size31]; simp [bs_length, digT_len]) (by simp [bs_length, digT_len]) (all_oneCell_toArray (bs_one _)) ?_))
  refine bodyPost_ret (results_cell_row Tryd.results14 _ _ (w.heap.size + 1) 31 (bs (digT t)).toArray (0, 0) _ rfl (HZ3.out.setRow _) Tryd.underlying31 rfl (by rw [Tryd.size31]; simp [bs_length, digT_len])) rfl ⟨rfl, below_setRow HB3.out (by omega) _⟩
end Go.Proofs.YtikinofopkjdjaaDoor

/-
  The reference's Few: the first bytes, in a row of its own.
-/
namespace Go.Proofs.YtikinofopkjdjaaDoor
open Go.RowKit WM

/-- 'b[:k]' -/
theorem cut8 (A : Option Addr) (n c k : Nat) (hk : k ≤ c) : ∀ W : World, (Instr.sliceAt 23 (.slice A n c) none (some (.int .i64 (k : Int))) none).run Tryd.prog W = .ok (.slice (if c = 0 then A else A.map (·.add 0)) k c) W := by
  intro W
  rw [run_sliceAt_slice W 23 _ _ _ _ Tryd.slBytes, run_slice_h W 23 A n c Tryd.slBytes .i64 k (by omega) (by omega), Tryd.elemBytes, Tryd.siz5]
  simp [sliced]
theorem reads_cut8 {w : World} {B n c k : Nat} {A : Option Addr} {l : List UInt8} (h : Reads w B 1 A n (bs l)) (hk : k ≤ n) : Reads w B 1 (if c = 0 then A else A.map (·.add 0)) k (bs (l.take k)) := by
  have h2 := reads_take h hk
  rw [bs_take] at h2
  refine ⟨h2.1, fun hn => ?_⟩
  obtain ⟨ad, e, hb, hc⟩ := h2.2 hn
  subst e
  refine ⟨ad, ?_, hb, hc⟩
  split <;> simp [Addr.add]

set_option maxRecDepth 100000 in
set_option maxHeartbeats 1600000 in
theorem few_is (A : Option Addr) (l : List UInt8) (c m : Nat) (w : World) (ha : Reads w w.heap.size 1 A l.length (bs l)) (hlc : l.length ≤ c) (hn : l.length ≤ 9223372036854775807) (hm : m ≤ 1000) :
    Calls Tryd.prog 16 #[.slice A l.length c, .int .i64 m] w fun e w' => ∃ A' c', e = .returned (.slice A' (l.take m).length c') ∧ w'.ownsRow w.heap.size 5 1 (.slice A' (l.take m).length c') (l.take m).length (bs (l.take m)) ∧ Below w.heap.size w w' := by
  obtain ⟨i0, hi, hz0, hz1, hz2⟩ := info_parts Tryd.info5
  have e0 : ∀ W : World, W.ownsRow w.heap.size 5 1 (.slice none 0 0) 0 [] := fun W => World.ownsRow_nil _ _ _ _
  have HE := Lib.hid e0
  obtain ⟨n, hnn⟩ : ∃ n, n = (l.take m).length := ⟨_, rfl⟩
  have hn2 : n = min m l.length := by rw [hnn, List.length_take]
  have hn3 : l.take m = l.take n := by
    by_cases h : m ≤ l.length
    · rw [hn2, Nat.min_eq_left h]
    · rw [List.take_of_length_le (by omega), List.take_of_length_le (by omega)]
  rw [← hnn, hn3]
  have hc8 := cut8 A l.length c n (by omega)
  have HR := Lib.hid (reads_cut8 (c := c) (k := n) ha (by omega))
  obtain ⟨A2, hA2⟩ : ∃ A2, A2 = (if c = 0 then A else A.map (·.add 0)) := ⟨_, rfl⟩
  rw [← hA2] at hc8 HR
  obtain ⟨q, hq⟩ : ∃ q, q = l.length := ⟨_, rfl⟩
  rw [← hq] at hc8 hn2 hlc hn ⊢
  have hn10 : n ≤ 1000 := by omega
  clear ha hA2 e0 hn3 hnn hq
  rcases (show (n = q ∧ q ≤ m) ∨ (n = m ∧ ¬ q ≤ m) by omega) with ⟨rfl, hlm⟩ | ⟨rfl, hlm⟩
  all_goals
    clear hn2
    go_enter Tryd.func16, Tryd.ntmps16
    go_wp2_with (first
      | (at_builtin; refine wpList_append_any _ rfl (.tmp 6) (.tmp 12) _ rfl w.heap.size 5 i0 (.int .u8 0) 1 1 Tryd.underlying23 hi hz0 hz1 hz2 rfl (by omega) _ 0 [] rfl (HE.out w) w.heap.size A2 n c (bs (l.take n)) rfl HR.out (bs_one _) (len_le (by omega)) (by omega) (Nat.le_refl _) ?_; intro v2 w2 hown2 hgrow2 _; have HO2 := Lib.hid hown2; have HG2 : Hid (w.grownBy w2 none) := Lib.hid hgrow2; clear hown2 hgrow2))
    have ho := HO2.out
    rw [Nat.zero_add, List.nil_append] at ho
    obtain ⟨A6, c6, rfl, _⟩ := own_len ho
    go_ret
    exact ⟨_, _, rfl, ho, below_none HG2.out⟩
end Go.Proofs.YtikinofopkjdjaaDoor

/-
  THE COMPARISON of arrays of bytes.
-/
namespace Go.Proofs.YtikinofopkjdjaaDoor
open Go.RowKit

theorem Tryd.plain5 : Tryd.prog.plainKey 5 = true := by kernel_rfl
theorem Tryd.cells5 : Tryd.prog.cellsOf 5 = 1 := by kernel_rfl
theorem eqItems_bytes (x y : List UInt8) (W : World) : ∀ is : List Nat, (∀ i ∈ is, i < x.length ∧ i < y.length) → (Op.eqItems 9999 5 1 (bs x).toArray (bs y).toArray is).run Tryd.prog W = .ok (is.all fun i => x[i]? == y[i]?) W := by
  intro is
  induction is with
  | nil => intro _; simp [Op.eqItems]
  | cons i is ih =>
    intro h
    obtain ⟨h1, h2⟩ := h i (by simp)
    have hg1 : (bs x).toArray[i * 1]? = some (.int .u8 (x[i].toNat : Int)) := by rw [Nat.mul_one]; simpa using bs_get x i h1
    have hg2 : (bs y).toArray[i * 1]? = some (.int .u8 (y[i].toNat : Int)) := by rw [Nat.mul_one]; simpa using bs_get y i h2
    have hp1 := run_part_plain (P := Tryd.prog) W Tryd.plain5 hg1
    have hp2 := run_part_plain (P := Tryd.prog) W Tryd.plain5 hg2
    have he := run_equalIn_int (P := Tryd.prog) W 9998 5 .u8 .u8 (x[i].toNat : Int) (y[i].toNat : Int) Tryd.underlying5
    have hxy : (x[i]? == y[i]?) = decide ((x[i].toNat : Int) = (y[i].toNat : Int)) := by
      rw [List.getElem?_eq_getElem h1, List.getElem?_eq_getElem h2, Bool.eq_iff_iff]
      simp only [beq_iff_eq, Option.some.injEq, decide_eq_true_eq]
      exact ⟨fun h => by rw [h], fun h => UInt8.toNat_inj.1 (by omega)⟩
    simp only [Op.eqItems, Sem.run_bind, hp1, hp2, Result.andThen_ok, he]
    by_cases heq : (x[i].toNat : Int) = (y[i].toNat : Int)
    · have hb : (x[i]? == y[i]?) = true := by rw [hxy]; simpa using heq
      rw [List.all_cons, hb]
      simpa [heq] using ih (fun j hj => h j (by simp [hj]))
    · have hb : (x[i]? == y[i]?) = false := by rw [hxy]; simpa using heq
      rw [List.all_cons, hb]
      simp [heq]
theorem all_eq (x y : List UInt8) (n : Nat) (hx : x.length = n) (hy : y.length = n) : ((List.range n).all fun i => x[i]? == y[i]?) = decide (x = y) := by
  rw [Bool.eq_iff_iff]
  simp only [List.all_eq_true, List.mem_range, beq_iff_eq, decide_eq_true_eq]
  constructor
  · intro h
    apply List.ext_getElem?
    intro i
    by_cases hi : i < n
    · exact h i hi
    · rw [List.getElem?_eq_none (by omega), List.getElem?_eq_none (by omega)]
  · rintro rfl i _; rfl
theorem eq24 (x y : List UInt8) (hx : x.length = 32) (hy : y.length = 32) (W : World) : (binOp .eql 121 (.agg (bs x).toArray) (.agg (bs y).toArray)).run Tryd.prog W = .ok (.bool (decide (x = y))) W := by
  obtain ⟨i0, hi, _⟩ := info_parts Tryd.info5
  have h1 := run_equalIn_array (P := Tryd.prog) (w := W) 9999 (bs x).toArray (bs y).toArray Tryd.underlying121 hi
  rw [Tryd.cells5, eqItems_bytes x y W _ (fun i hi => by rw [List.mem_range] at hi; omega), all_eq x y 32 hx hy] at h1
  simp only [binOp]
  simp [Op.equal, Op.maxDepth, h1]
theorem eq44 (x y : List UInt8) (hx : x.length = 16) (hy : y.length = 16) (W : World) : (binOp .eql 31 (.agg (bs x).toArray) (.agg (bs y).toArray)).run Tryd.prog W = .ok (.bool (decide (x = y))) W := by
  obtain ⟨i0, hi, _⟩ := info_parts Tryd.info5
  have h1 := run_equalIn_array (P := Tryd.prog) (w := W) 9999 (bs x).toArray (bs y).toArray Tryd.underlying31 hi
  rw [Tryd.cells5, eqItems_bytes x y W _ (fun i hi => by rw [List.mem_range] at hi; omega), all_eq x y 16 hx hy] at h1
  simp only [binOp]
  simp [Op.equal, Op.maxDepth, h1]
end Go.Proofs.YtikinofopkjdjaaDoor
