/-
  sign.advance.
-/
import Derived.Test.YtaoegpmjogladaaDoorG11
import Derived.Outline
namespace Go.Proofs.YtaoegpmjogladaaDoor
open Go.RowKit WM

theorem advB_succ (i c : Int) (a n : Nat) (v : List UInt8) : advB i c a (n + 1) v = stepB i c ((a + n : Nat) : Int) (advB i c a n v) := rfl
/-- A row of strings just made. -/
theorem reads_ss {w : World} {l : List ByteArray} {cs : Array Value} {n g : Nat} (hg : g = w.heap.size) (h : (ss l).toArray = cs) (hn : l.length = n) : Reads (w.alloc (.cells cs 9)) (w.alloc (.cells cs 9)).heap.size 1 (some ⟨g, 0, none⟩) n (ss l) := by
  subst h hn hg
  exact ⟨by simp [ss], fun _ => ⟨_, rfl, by simp, cells_new w (ss l) 9⟩⟩
theorem of_n (t : Int) (l : List ByteArray) (A : Option Addr) (n c : Nat) (w : World) (hn : l.length = n) (hk : KT 0 w) (ha : Reads w w.heap.size 1 A n (ss l)) (hl : (encP l).length ≤ 137438953472) (hn2 : n ≤ 137438953472) (d : List UInt8) (hd : ofB t l = d) :
    Calls Tryd.prog 13 #[.int .i64 t, .slice A n c] w fun e w' => e = .returned (.agg (bs d).toArray) ∧ Below w.heap.size w w' := by
  subst hn hd
  exact of_ t A l c w hk ha hl hn2

set_option maxRecDepth 100000 in
set_option maxHeartbeats 2000000 in
theorem advance (v : List UInt8) (i c : Int) (a b : Nat) (w : World) (hk : KT 0 w) (hv : v.length = 16) (hi : inRange i) (hc : inRange c) (ha : a ≤ 1000) (hb : b ≤ 1000) :
    Calls Tryd.prog 44 #[.agg (bs v).toArray, .int .i64 i, .int .i64 c, .int .i64 (a : Int), .int .i64 (b : Int)] w fun e w' => e = .returned (.agg (bs (advB i c a (b - a) v)).toArray) ∧ Below w.heap.size w w' := by
  have hz := Tryd.zero29
  have HV := Lib.hid hv
  have HK := Lib.hid hk
  clear hv hk
  go_enter Tryd.func44, Tryd.ntmps44
  go_wp2
  go_loopw [11] (fun t' wr => ∃ k : Nat, k ≤ b - a ∧ t' = .int .i64 ((a + k : Nat) : Int) ∧ Hid (Blk wr w.heap.size 29 (bs (advB i c a k v)).toArray ∧ Blk wr (w.heap.size + 1) 29 (bs z16).toArray ∧ Below w.heap.size w wr)) (fun t' _ => b - (intOf t').toNat)
  case atStart => exact ⟨0, by omega, rfl, (Blk.new w 29 _).alloc _, Blk.new_at _ 29 (size_alloc _ _).symm rfl, ba (below_new _ _) _⟩
  case round =>
    obtain ⟨k, hk, rfl, hh⟩ := hrel
    obtain ⟨x, hx⟩ : ∃ x, x = advB i c a k v := ⟨_, rfl⟩
    have hxl : x.length = 16 := by rw [hx]; exact advB_16 _ _ _ _ _ HV.out
    have hs := hh.out.2.2.size
    have HX := Lib.hid hx
    have HXL := Lib.hid hxl
    have hh1 := hh.out
    rw [← hx] at hh1
    have HH := Lib.hid hh1
    clear hh hh1 hx hxl
    by_cases hlt : a + k < b
    · have ht : inRange ((a + k : Nat) : Int) := ⟨by omega, by omega⟩
      have HR := Lib.hid (range3 hi hc ht)
      have hle := encI_3_le hi hc ht
      have hsl := fun g => slice44 g
      obtain ⟨p, hp⟩ : ∃ p, p = encI [i, c, ((a + k : Nat) : Int)] := ⟨_, rfl⟩
      rw [← hp] at hle
      have HP := Lib.hid hp
      have HLE := Lib.hid hle
      clear hle ht
      go_wp2_with (go_at_call 67; refine (ints_is [i, c, ((a + k : Nat) : Int)] (some ⟨wr.heap.size, 0, none⟩) 3 3 _ rfl (reads_is rfl rfl rfl) HR.out (by rw [← HP.out]; have := HLE.out; omega) (by omega)).mono ?_; rintro e w1 ⟨A1, c1, rfl, hr1, hb1⟩; rw [← hp] at hr1 ⊢; have HB1 := Lib.hid (bt (ba HH.out.2.2 _) hb1); have HO1 := Lib.hid (blk_past hb1 (HH.out.1.alloc _)); have HZ1 := Lib.hid (blk_past hb1 (HH.out.2.1.alloc _)); have HR1 := Lib.hid hr1; clear hr1 hb1 hp)
      obtain ⟨w2, hw2⟩ : ∃ w2, w2 = w1.drew := ⟨_, rfl⟩
      have hB2 : Below w.heap.size w w2 := by rw [hw2]; exact HB1.out.drew
      have hO2 : Blk w2 w.heap.size 29 (bs x).toArray := by rw [hw2]; exact HO1.out.drew
      have hZ2 : Blk w2 (w.heap.size + 1) 29 (bs z16).toArray := by rw [hw2]; exact HZ1.out.drew
      have hc1 : (convert 26 9 (.slice A1 p.length c1)).run Tryd.prog w2 = .ok (.string (str p)) w2 := conv_str (by rw [hw2]; exact HR1.out.drew)
      have hc2 := conv_arr hO2 HXL.out
      have HB2 := Lib.hid hB2
      have HO2 := Lib.hid hO2
      have HZ2 := Lib.hid hZ2
      clear hB2 hO2 hZ2
      obtain ⟨y, hy⟩ : ∃ y, y = stepB i c ((a + k : Nat) : Int) x := ⟨_, rfl⟩
      have hyl : y.length = 16 := by rw [hy]; exact stepB_16 _ _ _ _
      have hyo : ofB 7 [str p, str x] = y := by rw [hy, HP.out]; rfl
      have hen := encP_2_le p x (by have := HLE.out; omega) (by rw [HXL.out]; decide)
      rw [HXL.out] at hen
      have HEN := Lib.hid (show (encP [str p, str x]).length ≤ 137438953472 by have := HLE.out; omega)
      have HY := Lib.hid hy
      have HYL := Lib.hid hyl
      have HYO := Lib.hid hyo
      have HS16 := Lib.hid (size16 hyl)
      clear hy hyl hyo hen
      refine wp_region_still_tail 4 (by kernel_rfl) (by kernel_rfl) ?_
      simp only [List.take_succ_cons, List.take_zero, List.drop_succ_cons, List.drop_zero]
      change wpStill _ _ w1.drew (fun a' => wpList _ _ _ _ a' w1.drew) _ _
      rw [← hw2]
      clear hw2 HB1 HO1 HZ1 HR1
      repeat still_step
      refine wpStill_nil ?_
      go_wp2_with (first
        | (go_at_call 13; refine (of_n 7 [str p, str x] (some ⟨w2.heap.size, 0, none⟩) 2 2 _ rfl (HK.out.below (ba HB2.out _)) (reads_ss rfl rfl rfl) HEN.out (by decide) y HYO.out).mono ?_; rintro e w3 ⟨rfl, hb3⟩; have HB3 := Lib.hid (bt (ba HB2.out _) hb3); have HO3 := Lib.hid (blk_past hb3 (HO2.out.alloc _)); have HZ3 := Lib.hid (blk_past hb3 (HZ2.out.alloc _)); clear hb3)
        | (refine wpList_store_row rfl 29 (.tmp 5) (.tmp 29) rfl w.heap.size (bs y).toArray rfl rfl 29 _ HO3.out HS16.out (by rw [sz16 HXL.out, sz16 HYL.out]) (all_oneCell_toArray (bs_one _)) ?_))
      go_roundw
      case rel =>
        refine ⟨k + 1, by omega, by go_num, ?_, HZ3.out.setRow_far (by omega) _, below_setRow HB3.out (by omega) _⟩
        rw [advB_succ, ← HX.out, ← HY.out]
        exact HO3.out.setRow _
      case measure => simp [intOf]; omega
    · have hke : k = b - a := by omega
      have HKE := Lib.hid hke
      have hge : b ≤ a + k := by omega
      have HS16 := Lib.hid (size16 HXL.out)
      clear hlt hk hke
      go_wp2_with (first
        | (refine wpList_load_row rfl 29 (.tmp 5) rfl w.heap.size rfl 29 (bs x).toArray (0, 0) _ HH.out.1 Tryd.underlying29 rfl HS16.out ?_)
        | (refine wpList_store_row rfl 29 (.tmp 10) (.tmp 30) rfl (w.heap.size + 1) (bs x).toArray rfl rfl 29 _ HH.out.2.1 HS16.out (by rw [sz16 HXL.out, sz16 z16_length]) (all_oneCell_toArray (bs_one _)) ?_))
      refine bodyPost_ret (results_cell_row Tryd.results44 _ _ (w.heap.size + 1) 29 (bs x).toArray (0, 0) _ rfl (HH.out.2.1.setRow _) Tryd.underlying29 rfl HS16.out) rfl ⟨?_, below_setRow HH.out.2.2 (by omega) _⟩
      rw [HX.out, HKE.out]
end Go.Proofs.YtaoegpmjogladaaDoor
