/-
  hash.Mac.
-/
import Derived.Test.YtaoegpmjogladaaDoorG07
namespace Go.Proofs.YtaoegpmjogladaaDoor
open Go.RowKit

/-- The key, hashed if it is long. -/
def keyOf (key : List UInt8) : List UInt8 := if 64 < key.length then sha key else key
def kpad (k : List UInt8) : List UInt8 := k ++ List.replicate (64 - k.length) 0
def xorl (c : UInt8) (l : List UInt8) : List UInt8 := l.map (· ^^^ c)
def macB (key text : List UInt8) : List UInt8 := sha (xorl 92 (kpad (keyOf key)) ++ sha (xorl 54 (kpad (keyOf key)) ++ text))
theorem keyOf_le (key : List UInt8) : (keyOf key).length ≤ 64 := by
  unfold keyOf
  split
  · rw [sha_length]; omega
  · omega
theorem kpad_length {k : List UInt8} (h : k.length ≤ 64) : (kpad k).length = 64 := by simp [kpad]; omega
/-- The first i bytes combined with c. -/
def xorTo (c : UInt8) (l : List UInt8) (i : Nat) : List UInt8 := xorl c (l.take i) ++ l.drop i
theorem xorTo_zero (c : UInt8) (l : List UInt8) : xorTo c l 0 = l := by simp [xorTo, xorl]
theorem xorTo_done (c : UInt8) (l : List UInt8) (h : l.length = 64) : xorTo c l 64 = xorl c l := by
  unfold xorTo
  rw [List.take_of_length_le (by omega), List.drop_eq_nil_of_le (by omega), List.append_nil]
theorem xorTo_length (c : UInt8) (l : List UInt8) (i : Nat) : (xorTo c l i).length = l.length := by
  simp [xorTo, xorl]; omega
theorem xorTo_get (c : UInt8) (l : List UInt8) (i : Nat) (h : i < l.length) : (xorTo c l i)[i]? = some l[i] := by
  unfold xorTo
  have hl : (xorl c (l.take i)).length = i := by simp [xorl]; omega
  rw [List.getElem?_append_right (by omega), hl, Nat.sub_self, List.getElem?_drop]
  simp [h]
theorem xorTo_step (c : UInt8) (l : List UInt8) (i : Nat) (h : i < l.length) : (xorTo c l i).set i (l[i] ^^^ c) = xorTo c l (i + 1) := by
  unfold xorTo
  have hl : (xorl c (l.take i)).length = i := by simp [xorl]; omega
  rw [List.set_append_right _ _ (by omega), hl, Nat.sub_self, List.drop_eq_getElem_cons h, List.set_cons_zero, List.take_succ_eq_append_getElem h]
  unfold xorl
  rw [List.map_append]
  simp
theorem xor_byte (a c : UInt8) : bits .xor .u8 (a.toNat : Int) (c.toNat : Int) = ((a ^^^ c).toNat : Int) := by
  rw [u8_xor_nat _ _ a.toNat_lt c.toNat_lt, UInt8.toNat_xor]
theorem slice31z (g : Nat) (W : World) : (Instr.sliceAt 54 (.pointer (some ⟨g, 0, none⟩)) none none none).run Tryd.prog W = .ok (.slice (some ⟨g, 0, none⟩) 64 64) W := by
  have a1 : Tryd.prog.underlying 54 = some (.array (Tryd.prog.arrayLen 54) (Tryd.prog.elem 54)) := by kernel_rfl
  have a2 : Tryd.prog.arrayLen 54 = 64 := by kernel_rfl
  have a3 : Tryd.prog.elem 54 = 5 := by kernel_rfl
  rw [run_sliceAt_array_all W 54 ⟨g, 0, none⟩ a1, a3, Tryd.sz5, a2]
  simp [slicedAt, Addr.add]
/-- 'string(a[:])' of an array of bytes. -/
theorem conv_arr {W : World} {g n : Nat} {t : TypeId} {x : List UInt8} (h : Blk W g t (bs x).toArray) (hx : x.length = n) : (convert 26 9 (.slice (some ⟨g, 0, none⟩) n n)).run Tryd.prog W = .ok (.string (str x)) W := by
  subst hx
  exact conv_str (m := x) (B := g + 1) ⟨by rw [bs_length]; omega, fun _ => ⟨_, rfl, by simp, fun j u hu => by rw [Addr.add_lit, Nat.zero_add, Blk.cell h]; simpa using hu⟩⟩
theorem kpad_seg (k : List UInt8) : seg (bs (List.replicate 64 0)) 0 (bs k) = bs (kpad k) := by
  unfold seg kpad
  rw [List.take_zero, List.nil_append, Nat.zero_add, bs_length, bs_drop, List.drop_replicate, bs_append]

theorem size_list (s : ByteArray) : s.data.toList.length = s.size := by rw [Array.length_toList]; rfl
theorem hsum_of (A : Option Addr) (s : ByteArray) (c : Nat) (w : World) (hk : KT 0 w) (ha : Reads w w.heap.size 1 A s.size (bs s.data.toList)) (hm : s.data.toList.length ≤ 549755813888) :
    Calls Tryd.prog 14 #[.slice A s.size c] w fun e w' => e = .returned (.agg (bs (sha s.data.toList)).toArray) ∧ Below w.heap.size w w' := by
  rw [← size_list] at ha ⊢
  exact hsum A _ c w hk ha hm
/-- What Mac has laid: the two keys, combined. -/
structure MacAt (w wr : World) (I O : Nat) (x y : List UInt8) : Prop where
  inn : Blk wr I 54 (bs x).toArray
  out : Blk wr O 54 (bs y).toArray
  ge : w.heap.size ≤ I
  lt : I < O
  below : Below w.heap.size w wr

theorem MacAt.step {w wr : World} {I O i : Nat} {kp : List UInt8} {b : UInt8} (h : MacAt w wr I O (xorTo 54 kp i) (xorTo 92 kp i)) (hi : i < kp.length) (hb : b = kp[i]) :
    MacAt w ((wr.setCell ⟨I, i, none⟩ (.int .u8 ((b ^^^ 54).toNat : Int))).setCell ⟨O, i, none⟩ (.int .u8 ((b ^^^ 92).toNat : Int))) I O (xorTo 54 kp (i + 1)) (xorTo 92 kp (i + 1)) := by
  have hlt := h.lt
  have hge := h.ge
  subst hb
  refine ⟨?_, ?_, hge, hlt, (h.below.setCell (by simp; omega) _).setCell (by simp; omega) _⟩
  · rw [← xorTo_step 54 kp i hi]
    exact (blk_setB h.inn i _).far (by simp; omega) _
  · rw [← xorTo_step 92 kp i hi]
    exact blk_setB (h.out.far (by simp; omega) _) i _

theorem MacAt.later {w wr w' : World} {I O : Nat} {x y : List UInt8} (h : MacAt w wr I O x y) (hb : Below wr.heap.size wr w') : MacAt w w' I O x y :=
  ⟨blk_past hb h.inn, blk_past hb h.out, h.ge, h.lt, bt h.below hb⟩
theorem MacAt.alloc {w wr : World} {I O : Nat} {x y : List UInt8} (h : MacAt w wr I O x y) (o : Obj) : MacAt w (wr.alloc o) I O x y := h.later (below_new _ _)
theorem MacAt.drew {w wr : World} {I O : Nat} {x y : List UInt8} (h : MacAt w wr I O x y) : MacAt w wr.drew I O x y := h.later (Below.refl _ _).drew
theorem size_drew (w : World) : w.drew.heap.size = w.heap.size := rfl
theorem mac_meet {w X : World} {I O g : Nat} {x y : List UInt8} {cs S : Array Value} (hm : MacAt w X I O x y) (hg : Blk X g 31 cs) (hge : w.heap.size ≤ g) :
    Blk (X.setRow g S) g 31 S ∧ MacAt w (X.setRow g S) I O x y ∧ w.heap.size ≤ g :=
  ⟨hg.setRow _, ⟨hm.inn.setRow_far (hm.inn.ne_ hg (by decide)) _, hm.out.setRow_far (hm.out.ne_ hg (by decide)) _, hm.ge, hm.lt, below_setRow hm.below hge _⟩, hge⟩

set_option maxRecDepth 100000 in
set_option maxHeartbeats 8000000 in
theorem mac (key text : ByteArray) (w : World) (hk : KT 0 w) (hkl : key.size ≤ 137438953472) (htl : text.size ≤ 137438953472) :
    Calls Tryd.prog 30 #[.string key, .string text] w fun e w' => e = .returned (.string (str (macB key.data.toList text.data.toList))) ∧ Below w.heap.size w w' := by
  have HK := Lib.hid hk
  clear hk
  have hsl24 := fun g => slice24 g
  have hsl31 := fun g => slice31z g
  obtain ⟨kk, hkk⟩ : ∃ kk, kk = keyOf key.data.toList := ⟨_, rfl⟩
  have hk64 : kk.length ≤ 64 := by rw [hkk]; exact keyOf_le _
  have HKK := Lib.hid hkk
  clear hkk
  go_enter Tryd.func30, Tryd.ntmps30
  go_upto_if 12 with fail
  go_cut [0] (fun s0 wx => ∃ ks : ByteArray, s0 = .string ks ∧ Hid (ks.data.toList = kk ∧ Below w.heap.size w wx))
  case first =>
    by_cases hlong : 64 < key.size
    · have hkey : kk = sha key.data.toList := by
        rw [HKK.out, keyOf, if_pos]
        rw [size_list]; exact hlong
      obtain ⟨x, hx⟩ : ∃ x, x = sha key.data.toList := ⟨_, rfl⟩
      have hxl : x.length = 32 := by rw [hx]; rfl
      have HX := Lib.hid hx
      have HKEY := Lib.hid hkey
      have HXL := Lib.hid hxl
      have hs24 : (Tryd.prog.info? 31).map (·.size) = some (bs x).toArray.size := by rw [Tryd.size31]; simp [bs, hxl]
      have HS24 := Lib.hid hs24
      clear hkey hx hxl hs24
      have HKSZ : Hid (key.data.toList.length ≤ 549755813888) := by
        show key.data.toList.length ≤ 549755813888
        rw [size_list]; omega
      go_wp2_with (first
        | (with_reducible refine wpList_bytes_of rfl (.tmp 13) rfl key rfl ?_; intro A2 c2 w2 hr2 hb2; have HR2 := Lib.hid hr2; have HB2 := Lib.hid hb2; clear hr2 hb2)
        | (go_at_call 14; refine (hsum_of A2 key c2 _ (HK.out.below HB2.out) HR2.out HKSZ.out).mono ?_; rintro e w3 ⟨rfl, hb3⟩; have HB3 := Lib.hid (below_then HB2.out hb3); rw [← HX.out]; clear hb3)
        | (refine wpList_store_row rfl 31 (.tmp 5) (.tmp 15) rfl w3.heap.size (bs x).toArray rfl rfl 31 _ (Blk.new w3 31 _) HS24.out (by simp [bs, HXL.out]) (all_oneCell_toArray (bs_one _)) ?_
           have hcv := conv_arr (n := 32) ((Blk.new w3 31 #[.int .u8 0, .int .u8 0, .int .u8 0, .int .u8 0, .int .u8 0, .int .u8 0, .int .u8 0, .int .u8 0, .int .u8 0, .int .u8 0, .int .u8 0, .int .u8 0, .int .u8 0, .int .u8 0, .int .u8 0, .int .u8 0, .int .u8 0, .int .u8 0, .int .u8 0, .int .u8 0, .int .u8 0, .int .u8 0, .int .u8 0, .int .u8 0, .int .u8 0, .int .u8 0, .int .u8 0, .int .u8 0, .int .u8 0, .int .u8 0, .int .u8 0, .int .u8 0]).setRow (bs x).toArray) HXL.out))
      go_meet
      exact ⟨_, rfl, by rw [HKEY.out, ← HX.out]; rfl, below_setRow (ba HB3.out _) HB3.out.size _⟩
    · have hlf : ¬ 64 < (key.size : Int) := by omega
      have hkey : kk = key.data.toList := by
        rw [HKK.out, keyOf, if_neg]
        rw [size_list]; exact hlong
      have HKEY := Lib.hid hkey
      clear hkey
      go_wp2_with fail
      go_meet
      exact ⟨_, rfl, HKEY.out.symm, Below.refl _ _⟩
  case rest =>
    obtain ⟨ks, rfl, hh⟩ := hcut
    have hks : ks.size = kk.length := by rw [← size_list, hh.out.1]
    have HKS := Lib.hid hks
    have hks64 : ks.size ≤ 64 := by omega
    clear hks
    obtain ⟨kp, hkp⟩ : ∃ kp, kp = kpad kk := ⟨_, rfl⟩
    have hkpl : kp.length = 64 := by rw [hkp]; exact kpad_length hk64
    have HKP := Lib.hid hkp
    have HKPL := Lib.hid hkpl
    have hs31 : (Tryd.prog.info? 54).map (·.size) = some (bs kp).toArray.size := by rw [Tryd.size54]; simp [bs, hkpl]
    have HS31 := Lib.hid hs31
    clear hkp hkpl hs31
    go_wp2_with (first
      | (refine wpList_copy_str _ rfl (.tmp 18) (.tmp 19) 26 9 5 rfl Tryd.underlying26 Tryd.size5 wc.heap.size 0 64 64 rfl ks rfl ks.size (by omega) 54 (bs (List.replicate 64 0)) (Blk.new_at wc 54 rfl (by kernel_rfl)) (by rw [bs_length]; simp; omega) ?_
         intro w1 hw1
         have HI1 : Hid (Blk w1 wc.heap.size 54 (bs kp).toArray) := by
           rw [hw1, List.take_of_length_le (by rw [size_list]; exact Nat.le_refl _), hh.out.1, kpad_seg, ← HKP.out]
           exact (Blk.new_at wc 54 rfl (by kernel_rfl : _ = (bs (List.replicate 64 0)).toArray)).setRow _
         have HB1 : Hid (Below w.heap.size w w1) := by rw [hw1]; exact below_setRow (ba hh.out.2 _) hh.out.2.size _
         clear hw1)
      | (refine wpList_load_row rfl 54 (.tmp 6) rfl wc.heap.size rfl 54 (bs kp).toArray (0, 0) _ HI1.out Tryd.underlying54 rfl HS31.out ?_)
      | (refine wpList_store_row rfl 54 (.tmp 7) (.tmp 21) rfl w1.heap.size (bs kp).toArray rfl rfl 54 _ (Blk.new w1 54 _) HS31.out (by simp [bs, HKPL.out]) (all_oneCell_toArray (bs_one _)) ?_))
    generalize hwl : World.setRow (World.alloc w1 _) w1.heap.size (bs kp).toArray = wl
    obtain ⟨O, hO⟩ : ∃ O, O = w1.heap.size := ⟨_, rfl⟩
    obtain ⟨I, hI⟩ : ∃ I, I = wc.heap.size := ⟨_, rfl⟩
    have HM : Hid (MacAt w wl I O kp kp) := by
      rw [hO, hI, ← hwl]
      have h1 := HI1.out.lt
      exact ⟨(HI1.out.alloc _).setRow_far (by omega) _, (Blk.new w1 54 _).setRow _, hh.out.2.size, h1, below_setRow (ba HB1.out _) HB1.out.size _⟩
    rw [← hI, ← hO]
    clear hwl HI1 HB1 hh hO hI
    go_loopw [22] (fun i' wr => ∃ i : Nat, i ≤ 64 ∧ i' = .int .i64 i ∧ Hid (MacAt w wr I O (xorTo 54 kp i) (xorTo 92 kp i))) (fun i' _ => 64 - (intOf i').toNat)
    case atStart => exact ⟨0, by omega, rfl, by rw [xorTo_zero, xorTo_zero]; exact HM⟩
    case round =>
      clear HM
      obtain ⟨i, hi, rfl, hh⟩ := hrel
      by_cases hlt : i < 64
      · have hik : i < kp.length := by have := HKPL.out; omega
        obtain ⟨b, hb⟩ : ∃ b, b = kp[i] := ⟨_, rfl⟩
        have hc1 : wr.cell? ⟨I, i, none⟩ = some (.int .u8 (b.toNat : Int)) := (Blk.cell hh.out.inn i).trans (by simpa [hb] using bs_get' (xorTo_get 54 kp i hik))
        have hc2 : wr.cell? ⟨O, i, none⟩ = some (.int .u8 (b.toNat : Int)) := (Blk.cell hh.out.out i).trans (by simpa [hb] using bs_get' (xorTo_get 92 kp i hik))
        have hf1 := Blk.frozen hh.out.inn i
        have hf2 := Blk.frozen hh.out.out i
        have hne : I < O := hh.out.lt
        have HIK := Lib.hid hik
        have HBE := Lib.hid hb
        clear hb
        have x54 : bits .xor .u8 (b.toNat : Int) 54 = ((b ^^^ 54).toNat : Int) := xor_byte b 54
        have x92 : bits .xor .u8 (b.toNat : Int) 92 = ((b ^^^ 92).toNat : Int) := xor_byte b 92
        have X54 := Lib.hid x54
        have X92 := Lib.hid x92
        clear x54 x92
        go_wp2
        go_roundw
        case rel =>
          rw [X54.out, X92.out]
          exact ⟨i + 1, by omega, by go_num, hh.out.step hik HBE.out⟩
        case measure => simp [intOf]; omega
      · have hie : i = 64 := by omega
        have HI := Lib.hid hie
        have hge : 64 ≤ i := by omega
        clear hlt hi hie
        obtain ⟨x, hx⟩ : ∃ x, x = xorl 54 kp := ⟨_, rfl⟩
        obtain ⟨y, hy⟩ : ∃ y, y = xorl 92 kp := ⟨_, rfl⟩
        have HM2 : Hid (MacAt w wr I O x y) := by
          have := hh.out
          rw [HI.out, xorTo_done _ _ HKPL.out, xorTo_done _ _ HKPL.out, ← hx, ← hy] at this
          exact this
        have hxl : x.length = 64 := by rw [hx]; simp [xorl, HKPL.out]
        have hyl : y.length = 64 := by rw [hy]; simp [xorl, HKPL.out]
        have HX := Lib.hid hx
        have HY := Lib.hid hy
        have HXL := Lib.hid hxl
        have HYL := Lib.hid hyl
        clear hh hx hy hxl hyl
        obtain ⟨S, hS⟩ : ∃ S, S = sha (x ++ text.data.toList) := ⟨_, rfl⟩
        have hSl : S.length = 32 := by rw [hS]; rfl
        have HSE := Lib.hid hS
        have HSL := Lib.hid hSl
        clear hS hSl
        go_upto_region 13 with fail
        go_cut [9] (fun s9 wx => ∃ g : Nat, s9 = .pointer (some ⟨g, 0, none⟩) ∧ Hid (Blk wx g 31 (bs S).toArray ∧ MacAt w wx I O x y ∧ w.heap.size ≤ g))
        case first =>
          have hcv0 := conv_arr HM2.out.inn HXL.out
          have hcv1 := conv_arr HM2.out.inn.drew HXL.out
          have hcv : ∀ W, Blk W I 54 (bs x).toArray → (convert 26 9 (.slice (some ⟨I, 0, none⟩) 64 64)).run Tryd.prog W = .ok (.string (str x)) W := fun W h => conv_arr h HXL.out
          have hI0 := HM2.out.inn
          have r1 := @blk_new
          have r4 : ∀ (w : World) g t cs, Blk w.drew g t cs ↔ Blk w g t cs := fun _ _ _ _ => Iff.rfl
          have r5 : ∀ (w : World) g t cs o, Blk w g t cs → Blk (w.alloc o) g t cs := fun _ _ _ _ o h => h.alloc o
          have hbl : (bs S).length = 32 := by rw [bs_length, HSL.out]
          go_region_with (first
            | (go_at_call 27; refine (begin_ _).mono ?_; rintro e w1 ⟨cs1, rfl, hr1, hb1⟩; have HR1 := Lib.hid hr1; have HB1 := Lib.hid hb1
               have hI1 := blk_past hb1 (show Blk _ I 54 (bs x).toArray from by repeat' (first | exact HM2.out.inn | refine Blk.drew ?_ | refine Blk.alloc ?_ _))
               first | (have hz := blk_past hb1 (blk_new _ 31 _)) | (have hz := blk_past hb1 (Blk.drew (blk_new _ 31 _))) | skip
               clear hr1 hb1)
            | (go_at_call 28; ((with_reducible refine (add [] cs1 (str x) _ (HK.out.below (by repeat' (first | exact HM2.out.below | refine Below.drew ?_ | refine bt ?_ HB1.out | refine ba ?_ _))) HR1.out (by rw [str_size, HXL.out]; simp)).mono ?_); rintro e w2 ⟨cs2, rfl, hr2, hb2⟩)
               have HR2 := Lib.hid hr2
               have HB2 := Lib.hid hb2
               first | (have hz := blk_past hb2 (blk_new _ 31 _)) | (have hz := blk_past hb2 (Blk.drew (blk_new _ 31 _))) | (have hz := blk_past hb2 hz) | (have hz := blk_past hb2 (Blk.drew hz)) | skip
               clear hr2 hb2)
            | (go_at_call 28; ((with_reducible refine (add ([] ++ (str x).data.toList) cs2 text _ (HK.out.below (by repeat' (first | exact HM2.out.below | refine Below.drew ?_ | refine bt ?_ HB2.out | refine bt ?_ HB1.out | refine ba ?_ _))) HR2.out (by rw [str_list]; simp [HXL.out]; omega)).mono ?_); rintro e w3 ⟨cs3, rfl, hr3, hb3⟩)
               have HR3 := Lib.hid hr3
               have HB3 := Lib.hid hb3
               first | (have hz := blk_past hb3 (blk_new _ 31 _)) | (have hz := blk_past hb3 (Blk.drew (blk_new _ 31 _))) | (have hz := blk_past hb3 hz) | (have hz := blk_past hb3 (Blk.drew hz)) | skip
               clear hr3 hb3)
            | (go_at_call 29; ((with_reducible refine (ssum (([] ++ (str x).data.toList) ++ text.data.toList) cs3 _ (HK.out.below (by repeat' (first | exact HM2.out.below | refine Below.drew ?_ | refine bt ?_ HB3.out | refine bt ?_ HB2.out | refine bt ?_ HB1.out | refine ba ?_ _))) HR3.out (by rw [str_list, List.length_append, size_list]; simp [HXL.out]; omega)).mono ?_); rintro e w4 ⟨rfl, hb4⟩)
               rw [str_list, List.nil_append, ← HSE.out]
               have HB4 := Lib.hid hb4
               first | (have hz := blk_past hb4 (blk_new _ 31 _)) | (have hz := blk_past hb4 (Blk.drew (blk_new _ 31 _))) | (have hz := blk_past hb4 hz) | (have hz := blk_past hb4 (Blk.drew hz)) | skip
               first | (have hst := store_bytes (l := S) hz (HSL.out ▸ rfl)) | skip
               have hst2 : ∀ z : Array Value, z.size = 32 → (storeCells ⟨w4.heap.size, 0, none⟩ (bs S)).run Tryd.prog (w4.alloc (.cells z 31)) = .ok () ((w4.alloc (.cells z 31)).setRow w4.heap.size (bs S).toArray) := fun z hzs => store_bytes (blk_new w4 31 z) (by rw [hzs, HSL.out])
               clear hb4))
          all_goals
            go_wp2_with fail
            go_meet
            have hs0 := HM2.out.below.size
            have hs1 := HB1.out.size
            have hs2 := HB2.out.size
            have hs3 := HB3.out.size
            have hs4 := HB4.out.size
            simp only [size_alloc, size_drew] at hs0 hs1 hs2 hs3 hs4
            refine ⟨_, rfl, mac_meet ?_ (by first | exact hz | exact Blk.drew hz | exact blk_new _ 31 _) (by omega)⟩
            repeat' (first | exact HM2.out | refine MacAt.drew ?_ | refine MacAt.later ?_ HB4.out | refine MacAt.later ?_ HB3.out | refine MacAt.later ?_ HB2.out | refine MacAt.later ?_ HB1.out | refine MacAt.alloc ?_ _)
        case rest =>
          obtain ⟨g, rfl, hh⟩ := hcut
          obtain ⟨M, hM⟩ : ∃ M, M = sha (y ++ S) := ⟨_, rfl⟩
          have hMl : M.length = 32 := by rw [hM]; rfl
          have hbl : (bs M).length = 32 := by rw [bs_length, hMl]
          have HME := Lib.hid hM
          have HML := Lib.hid hMl
          clear hM hMl
          have o0 := conv_arr hh.out.2.1.out HYL.out
          have o1 := conv_arr hh.out.2.1.out.drew HYL.out
          have s0 := conv_arr hh.out.1 HSL.out
          have s1 := conv_arr hh.out.1.drew HSL.out
          go_wp2
          go_region_with (first
            | (go_at_call 27; refine (begin_ _).mono ?_; rintro e w1 ⟨cs1, rfl, hr1, hb1⟩; have HR1 := Lib.hid hr1; have HB1 := Lib.hid (bt hh.out.2.1.below.drew hb1)
               have HM1 := Lib.hid (hh.out.2.1.drew.later hb1)
               have HG1 := Lib.hid (blk_past hb1 hh.out.1.drew)
               have o2 := conv_arr HM1.out.out HYL.out
               have s2 := conv_arr HG1.out HSL.out
               clear hr1 hb1)
            | (go_at_call 28; ((with_reducible refine (add [] cs1 (str y) _ (HK.out.below HB1.out) HR1.out (by rw [str_size, HYL.out]; simp)).mono ?_); rintro e w2 ⟨cs2, rfl, hr2, hb2⟩)
               have HR2 := Lib.hid hr2
               have HB2 := Lib.hid (bt HB1.out hb2)
               have HG2 := Lib.hid (blk_past hb2 HG1.out)
               have s3 := conv_arr HG2.out HSL.out
               clear hr2 hb2)
            | (go_at_call 28; ((with_reducible refine (add ([] ++ (str y).data.toList) cs2 (str S) _ (HK.out.below HB2.out) HR2.out (by rw [str_list, str_size]; simp [HYL.out, HSL.out])).mono ?_); rintro e w3 ⟨cs3, rfl, hr3, hb3⟩)
               have HR3 := Lib.hid hr3
               have HB3 := Lib.hid (bt HB2.out hb3)
               have HG3 := Lib.hid (blk_past hb3 HG2.out)
               clear hr3 hb3)
            | (go_at_call 29; ((with_reducible refine (ssum (([] ++ (str y).data.toList) ++ (str S).data.toList) cs3 _ (HK.out.below HB3.out) HR3.out (by rw [str_list, str_list]; simp [HYL.out, HSL.out])).mono ?_); rintro e w4 ⟨rfl, hb4⟩)
               rw [str_list, str_list, List.nil_append, ← HME.out]
               have HB4 := Lib.hid (bt HB3.out hb4)
               have HG4 := Lib.hid (blk_past hb4 HG3.out)
               have hst := store_bytes (l := M) HG4.out (by simp [bs_length, HSL.out, HML.out])
               clear hb4))
          all_goals
            have hcf := conv_arr (n := 32) (HG4.out.setRow (bs M).toArray) HML.out
            go_wp2
            go_ret
            refine ⟨?_, below_setRow HB4.out hh.out.2.2 _⟩
            show Ending.returned (Value.string (str M)) = _
            rw [HME.out, HSE.out, HX.out, HY.out, HKP.out, HKK.out]
            rfl
end Go.Proofs.YtaoegpmjogladaaDoor
