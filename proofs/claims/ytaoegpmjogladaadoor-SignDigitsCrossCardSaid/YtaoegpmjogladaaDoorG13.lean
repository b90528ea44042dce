/-
  sign.advance.
-/
import Derived.Test.YtaoegpmjogladaaDoorG12
import Derived.Outline
namespace Go.Proofs.YtaoegpmjogladaaDoor
open Go.RowKit WM

theorem advB_succ (i c : Int) (a n : Nat) (v : List UInt8) : advB i c a (n + 1) v = stepB i c ((a + n : Nat) : Int) (advB i c a n v) := rfl
/-- A row of strings just made. -/
theorem reads_ss {w : World} {l : List ByteArray} {cs : Array Value} {n g : Nat} (hg : g = w.heap.size) (h : (ss l).toArray = cs) (hn : l.length = n) : Reads (w.alloc (.cells cs 9)) (w.alloc (.cells cs 9)).heap.size 1 (some ⟨g, 0, none⟩) n (ss l) := by
  subst h hn hg
  exact ⟨by simp [ss], fun _ => ⟨_, rfl, by simp, cells_new w (ss l) 9⟩⟩
theorem of_n (t : Int) (l : List ByteArray) (A : Option Addr) (n c : Nat) (w : World) (hn : l.length = n) (hk : KT 0 w) (ha : Reads w w.heap.size 1 A n (ss l)) (hl : (encP l).length ≤ 137438953472) (hn2 : n ≤ 137438953472) (d : List UInt8) (hd : ofB t l = d) :
    Calls Tryd.prog 13 #[.int .i64 t, .slice A n c] w fun e w' => e = .returned (.agg (bs d).toArray) ∧ Below w.heap.size w w' := by
  subst hn hd
  exact of_ t A l c w hk ha hl hn2

set_option maxRecDepth 100000 in
set_option maxHeartbeats 2000000 in
theorem advance (v : List UInt8) (i c : Int) (a b : Nat) (w : World) (hk : KT 0 w) (hv : v.length = 16) (hi : inRange i) (hc : inRange c) (ha : a ≤ 1000) (hb : b ≤ 1000) :
    Calls Tryd.prog 44 #[.agg (bs v).toArray, .int .i64 i, .int .i64 c, .int .i64 (a : Int), .int .i64 (b : Int)] w fun e w' => e = .returned (.agg (bs (advB i c a (b - a) v)).toArray) ∧ Below w.heap.size w w' := by
  have hz := Tryd.zero29
  have HV := Lib.hid hv
  have HK := Lib.hid hk
  clear hv hk
  go_enter Tryd.func44, Tryd.ntmps44
  go_wp2
  go_loopw [11] (fun t' wr => ∃ k : Nat, k ≤ b - a ∧ t' = .int .i64 ((a + k : Nat) : Int) ∧ Hid (Blk wr w.heap.size 29 (bs (advB i c a k v)).toArray ∧ Blk wr (w.heap.size + 1) 29 (bs z16).toArray ∧ Below w.heap.size w wr)) (fun t' _ => b - (intOf t').toNat)
  case atStart => exact ⟨0, by omega, rfl, (Blk.new w 29 _).alloc _, Blk.new_at _ 29 (size_alloc _ _).symm rfl, ba (below_new _ _) _⟩
  case round =>
    obtain ⟨k, hk, rfl, hh⟩ := hrel
    obtain ⟨x, hx⟩ : ∃ x, x = advB i c a k v := ⟨_, rfl⟩
    have hxl : x.length = 16 := by rw [hx]; exact advB_16 _ _ _ _ _ HV.out
    have hs := hh.out.2.2.size
    have HX := Lib.hid hx
    have HXL := Lib.hid hxl
    have hh1 := hh.out
    rw [← hx] at hh1
    have HH := Lib.hid hh1
    clear hh hh1 hx hxl
    by_cases hlt : a + k < b
    · have ht : inRange ((a + k : Nat) : Int) := ⟨by omega, by omega⟩
      have HR := Lib.hid (range3 hi hc ht)
      have hle := encI_3_le hi hc ht
      have hsl := fun g => slice44 g
      obtain ⟨p, hp⟩ : ∃ p, p = encI [i, c, ((a + k : Nat) : Int)] := ⟨_, rfl⟩
      rw [← hp] at hle
      have HP := Lib.hid hp
      have HLE := Lib.hid hle
      clear hle ht
      go_wp2_with (go_at_call 67; refine (ints_is [i, c, ((a + k : Nat) : Int)] (some ⟨wr.heap.size, 0, none⟩) 3 3 _ rfl (reads_is rfl rfl rfl) HR.out (by rw [← HP.out]; have := HLE.out; omega) (by omega)).mono ?_; rintro e w1 ⟨A1, c1, rfl, hr1, hb1⟩; rw [← hp] at hr1 ⊢; have HB1 := Lib.hid (bt (ba HH.out.2.2 _) hb1); have HO1 := Lib.hid (blk_past hb1 (HH.out.1.alloc _)); have HZ1 := Lib.hid (blk_past hb1 (HH.out.2.1.alloc _)); have HR1 := Lib.hid hr1; clear hr1 hb1 hp)
      obtain ⟨w2, hw2⟩ : ∃ w2, w2 = w1.drew := ⟨_, rfl⟩
      have hB2 : Below w.heap.size w w2 := by rw [hw2]; exact HB1.out.drew
      have hO2 : Blk w2 w.heap.size 29 (bs x).toArray := by rw [hw2]; exact HO1.out.drew
      have hZ2 : Blk w2 (w.heap.size + 1) 29 (bs z16).toArray := by rw [hw2]; exact HZ1.out.drew
      have hc1 : (convert 26 9 (.slice A1 p.length c1)).run Tryd.prog w2 = .ok (.string (str p)) w2 := conv_str (by rw [hw2]; exact HR1.out.drew)
      have hc2 := conv_arr hO2 HXL.out
      have HB2 := Lib.hid hB2
      have HO2 := Lib.hid hO2
      have HZ2 := Lib.hid hZ2
      clear hB2 hO2 hZ2
      obtain ⟨y, hy⟩ : ∃ y, y = stepB i c ((a + k : Nat) : Int) x := ⟨_, rfl⟩
      have hyl : y.length = 16 := by rw [hy]; exact stepB_16 _ _ _ _
      have hyo : ofB 7 [str p, str x] = y := by rw [hy, HP.out]; rfl
      have hen := encP_2_le p x (by have := HLE.out; omega) (by rw [HXL.out]; decide)
      rw [HXL.out] at hen
      have HEN := Lib.hid (show (encP [str p, str x]).length ≤ 137438953472 by have := HLE.out; omega)
      have HY := Lib.hid hy
      have HYL := Lib.hid hyl
      have HYO := Lib.hid hyo
      have HS16 := Lib.hid (size16 hyl)
      clear hy hyl hyo hen
      refine wp_region_still_tail 4 (by kernel_rfl) (by kernel_rfl) ?_
      simp only [List.take_succ_cons, List.take_zero, List.drop_succ_cons, List.drop_zero]
      change wpStill _ _ w1.drew (fun a' => wpList _ _ _ _ a' w1.drew) _ _
      rw [← hw2]
      clear hw2 HB1 HO1 HZ1 HR1
      repeat still_step
      refine wpStill_nil ?_
      go_wp2_with (first
        | (go_at_call 13; refine (of_n 7 [str p, str x] (some ⟨w2.heap.size, 0, none⟩) 2 2 _ rfl (HK.out.below (ba HB2.out _)) (reads_ss rfl rfl rfl) HEN.out (by decide) y HYO.out).mono ?_; rintro e w3 ⟨rfl, hb3⟩; have HB3 := Lib.hid (bt (ba HB2.out _) hb3); have HO3 := Lib.hid (blk_past hb3 (HO2.out.alloc _)); have HZ3 := Lib.hid (blk_past hb3 (HZ2.out.alloc _)); clear hb3)
        | (refine wpList_store_row rfl 29 (.tmp 5) (.tmp 29) rfl w.heap.size (bs y).toArray rfl rfl 29 _ HO3.out HS16.out (by rw [sz16 HXL.out, sz16 HYL.out]) (all_oneCell_toArray (bs_one _)) ?_))
      go_roundw
      case rel =>
        refine ⟨k + 1, by omega, by go_num, ?_, HZ3.out.setRow_far (by omega) _, below_setRow HB3.out (by omega) _⟩
        rw [advB_succ, ← HX.out, ← HY.out]
        exact HO3.out.setRow _
      case measure => simp [intOf]; omega
    · have hke : k = b - a := by omega
      have HKE := Lib.hid hke
      have hge : b ≤ a + k := by omega
      have HS16 := Lib.hid (size16 HXL.out)
      clear hlt hk hke
      go_wp2_with (first
        | (refine wpList_load_row rfl 29 (.tmp 5) rfl w.heap.size rfl 29 (bs x).toArray (0, 0) _ HH.out.1 Tryd.underlying29 rfl HS16.out ?_)
        | (refine wpList_store_row rfl 29 (.tmp 10) (.tmp 30) rfl (w.heap.size + 1) (bs x).toArray rfl rfl 29 _ HH.out.2.1 HS16.out (by rw [sz16 HXL.out, sz16 z16_length]) (all_oneCell_toArray (bs_one _)) ?_))
      refine bodyPost_ret (results_cell_row Tryd.results44 _ _ (w.heap.size + 1) 29 (bs x).toArray (0, 0) _ rfl (HH.out.2.1.setRow _) Tryd.underlying29 rfl HS16.out) rfl ⟨?_, below_setRow HH.out.2.2 (by omega) _⟩
      rw [HX.out, HKE.out]
end Go.Proofs.YtaoegpmjogladaaDoor

/-
  sign.parent, sign.Digest.
-/
namespace Go.Proofs.YtaoegpmjogladaaDoor
open Go.RowKit WM

/-- Two digests in blocks of their own. -/
structure Two (w wx : World) (g7 g8 : Nat) (x y : List UInt8) : Prop where
  l : Blk wx g7 29 (bs x).toArray
  r : Blk wx g8 29 (bs y).toArray
  a : Blk wx w.heap.size 29 (bs x).toArray
  o : Blk wx (w.heap.size + 1 + 1) 29 (bs z16).toArray
  below : Below w.heap.size w wx

theorem shut16 (v : Value) : Instr.loadAt 29 v = ldS 29 v := rfl
theorem load16 {W : World} {g : Nat} {x : List UInt8} (hb : Blk W g 29 (bs x).toArray) (h0 : x.length = 16) : (ldS 29 (.pointer (some ⟨g, 0, none⟩))).run Tryd.prog W = .ok (.agg (bs x).toArray) W := by
  unfold ldS
  simp only [Instr.loadAt, Instr.sureAddr, Sem.run_bind, Sem.run_pure, Result.andThen_ok]
  exact run_loadVar_row W g 29 29 _ (0, 0) _ hb Tryd.underlying29 rfl (size16 h0)
theorem store16 {W : World} {g : Nat} {x y : List UInt8} (hb : Blk W g 29 (bs y).toArray) (hy : y.length = 16) (h0 : x.length = 16) : (storeCells ⟨g, 0, none⟩ (bs x)).run Tryd.prog W = .ok () (W.setRow g (bs x).toArray) := by
  have := run_storeCells_from (P := Tryd.prog) g 29 (bs x) 0 _ W hb (by simp [bs, h0, hy]) (bs_one x)
  simpa using this
attribute [local go_sem ↓] shut16
section
variable {w : World} {g : Nat} {t t' : TypeId} {cs cs' c : Array Value} {o o' : Obj}
theorem nb4 : Blk (((w.alloc (.cells cs t)).alloc (.cells cs' t')).setRow w.heap.size c) (w.heap.size + 1) t' cs' := (Blk.new_at _ t' (size_alloc _ _).symm rfl).setRow_far (by omega) _
theorem nb5 : Blk (((w.alloc (.cells cs t)).alloc o).setRow (w.heap.size + 1) c) w.heap.size t cs := ((Blk.new w t cs).alloc _).setRow_far (by omega) _
theorem nb7 : Blk (((w.alloc o).setRow g c).alloc (.cells cs t)) (w.heap.size + 1) t cs := Blk.new_at _ t (by rw [size_setRow, size_alloc]) rfl
theorem fin1 {z1 z2 a b : Array Value} : Blk ((((w.alloc (.cells z1 t)).alloc (.cells z2 t)).setRow w.heap.size a).setRow (w.heap.size + 1) b).drew w.heap.size t a ∧
    Blk ((((w.alloc (.cells z1 t)).alloc (.cells z2 t)).setRow w.heap.size a).setRow (w.heap.size + 1) b).drew (w.heap.size + 1) t b ∧ w.heap.size ≤ w.heap.size ∧ w.heap.size ≤ w.heap.size + 1 ∧ w.heap.size ≠ w.heap.size + 1 ∧
    Below w.heap.size w ((((w.alloc (.cells z1 t)).alloc (.cells z2 t)).setRow w.heap.size a).setRow (w.heap.size + 1) b).drew :=
  ⟨((((Blk.new w t z1).alloc _).setRow a).setRow_far (by omega) _).drew, (((Blk.new_at (w.alloc (.cells z1 t)) t (size_alloc _ _).symm (rfl : z2 = z2)).setRow_far (by omega) _).setRow b).drew, by omega, by omega, by omega,
    (below_setRow (below_setRow (ba (below_new _ _) _) (by omega) _) (by omega) _).drew⟩
theorem fin2 {z1 z2 a b : Array Value} : Blk ((((w.alloc (.cells z1 t)).alloc (.cells z2 t)).setRow (w.heap.size + 1) a).setRow w.heap.size b).drew (w.heap.size + 1) t a ∧
    Blk ((((w.alloc (.cells z1 t)).alloc (.cells z2 t)).setRow (w.heap.size + 1) a).setRow w.heap.size b).drew w.heap.size t b ∧ w.heap.size ≤ w.heap.size + 1 ∧ w.heap.size ≤ w.heap.size ∧ w.heap.size + 1 ≠ w.heap.size ∧
    Below w.heap.size w ((((w.alloc (.cells z1 t)).alloc (.cells z2 t)).setRow (w.heap.size + 1) a).setRow w.heap.size b).drew :=
  ⟨(((Blk.new_at (w.alloc (.cells z1 t)) t (size_alloc _ _).symm (rfl : z2 = z2)).setRow a).setRow_far (by omega) _).drew, ((((Blk.new w t z1).alloc _).setRow_far (by omega) _).setRow b).drew, by omega, by omega, by omega,
    (below_setRow (below_setRow (ba (below_new _ _) _) (by omega) _) (by omega) _).drew⟩
theorem pb1 (h : Blk w g t cs) : Blk (w.alloc o) g t cs := h.alloc _
theorem pb2 (h : Blk w g t cs) : Blk ((w.alloc o).alloc o') g t cs := (h.alloc _).alloc _
theorem pb3 (h : Blk w g t cs) : Blk ((w.alloc o).setRow w.heap.size c) g t cs := (h.alloc _).setRow_far (by have := h.lt; omega) _
theorem pb4 (h : Blk w g t cs) : Blk (((w.alloc o).alloc o').setRow w.heap.size c) g t cs := ((h.alloc _).alloc _).setRow_far (by have := h.lt; omega) _
theorem pb5 (h : Blk w g t cs) : Blk (((w.alloc o).alloc o').setRow (w.heap.size + 1) c) g t cs := ((h.alloc _).alloc _).setRow_far (by have := h.lt; omega) _
theorem pb6 (h : Blk w g t cs) : Blk (((w.alloc o).setRow w.heap.size c).alloc o') g t cs := ((h.alloc _).setRow_far (by have := h.lt; omega) _).alloc _
end

set_option maxRecDepth 100000 in
set_option maxHeartbeats 2000000 in
theorem parent (a b : List UInt8) (k : Nat) (w : World) (hk : KT 0 w) (ha : a.length = 16) (hb : b.length = 16) :
    Calls Tryd.prog 56 #[.agg (bs a).toArray, .agg (bs b).toArray, .int .i64 (k : Int)] w fun e w' => e = .returned (.agg (bs (parentB a b k)).toArray) ∧ Below w.heap.size w w' := by
  have hz := Tryd.zero29
  have HA := Lib.hid ha
  have HB := Lib.hid hb
  have HK := Lib.hid hk
  clear ha hb hk
  go_enter Tryd.func56, Tryd.ntmps56
  go_upto_region 1 with fail
  generalize hw0 : World.alloc _ _ = w0
  have H0 : Hid (Blk w0 w.heap.size 29 (bs a).toArray ∧ Blk w0 (w.heap.size + 1) 29 (bs b).toArray ∧ Blk w0 (w.heap.size + 1 + 1) 29 (bs z16).toArray ∧ Below w.heap.size w w0) := by
    rw [← hw0]
    exact ⟨((Blk.new w 29 _).alloc _).alloc _, (Blk.new_at _ 29 (size_alloc _ _).symm rfl).alloc _, Blk.new_at _ 29 (by simp) rfl, ba (ba (below_new _ _) _) _⟩
  have hs0 : w0.heap.size = w.heap.size + 1 + 1 + 1 := by rw [← hw0]; simp
  have HS0 := Lib.hid hs0
  clear hw0 hs0
  have HLT := Lib.hid H0.out.2.2.1.lt
  go_cut [7, 8] (fun s7 s8 wx => ∃ g7 g8 : Nat, s7 = .pointer (some ⟨g7, 0, none⟩) ∧ s8 = .pointer (some ⟨g8, 0, none⟩) ∧ Hid (Blk wx g7 29 (bs a).toArray ∧ Blk wx g8 29 (bs b).toArray ∧ w0.heap.size ≤ g7 ∧ w0.heap.size ≤ g8 ∧ g7 ≠ g8 ∧ Below w0.heap.size w0 wx))
  case first =>
    have a0 := fun (W : World) (g : Nat) (h : Blk W g 29 (bs a).toArray) => load16 h HA.out
    have b0 := fun (W : World) (g : Nat) (h : Blk W g 29 (bs b).toArray) => load16 h HB.out
    have r0 := H0.out.1
    have r1 := H0.out.2.1
    have r4 : ∀ (w : World) g t cs, Blk w.drew g t cs ↔ Blk w g t cs := fun _ _ _ _ => Iff.rfl
    have r5 : ∀ (w : World) g c, World.setRow (World.drew w) g c = World.drew (World.setRow w g c) := fun _ _ _ => rfl
    have hla : (bs a).length = 16 := by rw [bs_length]; exact HA.out
    have hlb : (bs b).length = 16 := by rw [bs_length]; exact HB.out
    have hlz : (bs z16).length = 16 := rfl
    have sa := fun (W : World) (g : Nat) (h : Blk W g 29 (bs z16).toArray) => store16 h rfl HA.out
    have sb := fun (W : World) (g : Nat) (h : Blk W g 29 (bs z16).toArray) => store16 h rfl HB.out
    have n1 := @blk_new
    have n2 := @blk_new2
    have n3 := @blk_new3
    have n4 := @nb4
    have n5 := @nb5
    have n7 := @nb7
    have p1 := @pb1
    have p2 := @pb2
    have p3 := @pb3
    have p4 := @pb4
    have p5 := @pb5
    have p6 := @pb6
    go_region_with fail
    clear a0 b0 r0 r1 r4 r5 sa sb n1 n2 n3 n4 n5 n7 p1 p2 p3 p4 p5 p6
    all_goals
      go_wp2_with fail
      go_meet
      first | exact ⟨_, _, rfl, rfl, fin1⟩ | exact ⟨_, _, rfl, rfl, fin2⟩
  case rest =>
    obtain ⟨g7, g8, rfl, rfl, hh⟩ := hcut
    have hs0 := HS0.out
    have hlt := HLT.out
    have H1 : Hid (Blk wc g7 29 (bs a).toArray ∧ Blk wc g8 29 (bs b).toArray ∧ g7 ≠ g8 ∧ w.heap.size + 1 + 1 < g7 ∧ w.heap.size + 1 + 1 < g8 ∧ Blk wc w.heap.size 29 (bs a).toArray ∧ Blk wc (w.heap.size + 1) 29 (bs b).toArray ∧ Blk wc (w.heap.size + 1 + 1) 29 (bs z16).toArray ∧ Below w.heap.size w wc) := by
      obtain ⟨h1, h2, h3, h4, h5, h6⟩ := hh.out
      obtain ⟨k1, k2, k3, k4⟩ := H0.out
      exact ⟨h1, h2, h5, by omega, by omega, blk_past h6 k1, blk_past h6 k2, blk_past h6 k3, bt k4 h6⟩
    clear hh H0 hs0 hlt HS0 HLT
    go_upto_if 13 with fail
    go_cut [7] (fun s7 wx => ∃ x y : List UInt8, s7 = .pointer (some ⟨g7, 0, none⟩) ∧ Hid (overB x y = parentB a b k ∧ x.length = 16 ∧ y.length = 16 ∧ Blk wx g7 29 (bs x).toArray ∧ Blk wx g8 29 (bs y).toArray ∧ Blk wx (w.heap.size + 1 + 1) 29 (bs z16).toArray ∧ Below w.heap.size w wx))
    case first =>
      by_cases hodd : k % 2 = 1
      · have hb1 : (((k : Int) % 2) == 1) = true := by simp; omega
        have HP := Lib.hid (show overB b a = parentB a b k by unfold parentB; rw [if_pos hodd])
        clear hodd
        have a0 := fun (W : World) (g : Nat) (h : Blk W g 29 (bs a).toArray) => load16 h HA.out
        have b0 := fun (W : World) (g : Nat) (h : Blk W g 29 (bs b).toArray) => load16 h HB.out
        have s7 := fun (W : World) (h : Blk W g7 29 (bs a).toArray) => store16 h HA.out HB.out
        have s8 := fun (W : World) (h : Blk W g8 29 (bs b).toArray) => store16 h HB.out HA.out
        have r0 := H1.out.2.2.2.2.2.1
        have r1 := H1.out.2.2.2.2.2.2.1
        have q0 := H1.out.1
        have q1 := fun c => H1.out.2.1.setRow_far (fun e => H1.out.2.2.1 e.symm) c
        have q2 := fun c => r0.setRow_far (show w.heap.size ≠ g7 by have := H1.out.2.2.2.1; omega) c
        have q3 := fun c => r1.setRow_far (show w.heap.size + 1 ≠ g7 by have := H1.out.2.2.2.1; omega) c
        have r4 : ∀ (w : World) g t cs, Blk w.drew g t cs ↔ Blk w g t cs := fun _ _ _ _ => Iff.rfl
        have r5 : ∀ (w : World) g c, World.setRow (World.drew w) g c = World.drew (World.setRow w g c) := fun _ _ _ => rfl
        have hla : (bs a).length = 16 := by rw [bs_length]; exact HA.out
        have hlb : (bs b).length = 16 := by rw [bs_length]; exact HB.out
        go_wp2
        go_region_with fail
        clear a0 b0 s7 s8 r0 r1 q0 q1 q2 q3 r4 r5
        all_goals
          go_wp2_with fail
          go_meet
          exact ⟨b, a, rfl, HP.out, HB.out, HA.out, ((H1.out.1.setRow _).setRow_far H1.out.2.2.1 _).drew, ((H1.out.2.1.setRow_far (fun e => H1.out.2.2.1 e.symm) _).setRow _).drew,
            ((H1.out.2.2.2.2.2.2.2.1.setRow_far (by have := H1.out.2.2.2.1; omega) _).setRow_far (by have := H1.out.2.2.2.2.1; omega) _).drew,
            (below_setRow (below_setRow H1.out.2.2.2.2.2.2.2.2 (by have := H1.out.2.2.2.1; omega) _) (by have := H1.out.2.2.2.2.1; omega) _).drew⟩
      · have hb1 : (((k : Int) % 2) == 1) = false := by simp; omega
        have HP := Lib.hid (show overB a b = parentB a b k by unfold parentB; rw [if_neg hodd])
        clear hodd
        go_wp2
        go_meet
        exact ⟨a, b, rfl, HP.out, HA.out, HB.out, H1.out.1, H1.out.2.1, H1.out.2.2.2.2.2.2.2.1, H1.out.2.2.2.2.2.2.2.2⟩
    case rest =>
      clear H1
      obtain ⟨x, y, rfl, hh⟩ := hcut
      obtain ⟨q, hq⟩ : ∃ q, q = overB x y := ⟨_, rfl⟩
      have hql : q.length = 16 := by rw [hq]; exact overB_16 _ _
      have hqo : ofB 10 [str x, str y] = q := by rw [hq]; rfl
      have hen := encP_2_le x y (by rw [hh.out.2.1]; decide) (by rw [hh.out.2.2.1]; decide)
      rw [hh.out.2.1, hh.out.2.2.1] at hen
      have HEN := Lib.hid (show (encP [str x, str y]).length ≤ 137438953472 by omega)
      have HQ := Lib.hid (show q = parentB a b k by rw [hq]; exact hh.out.1)
      have HQL := Lib.hid hql
      have HQO := Lib.hid hqo
      have HS16 := Lib.hid (size16 hql)
      clear hq hql hqo hen
      obtain ⟨w2, hw2⟩ : ∃ w2, w2 = wc.drew := ⟨_, rfl⟩
      have HX2 : Hid (Blk w2 g7 29 (bs x).toArray ∧ Blk w2 g8 29 (bs y).toArray ∧ Blk w2 (w.heap.size + 1 + 1) 29 (bs z16).toArray ∧ Below w.heap.size w w2) := by
        rw [hw2]; exact ⟨hh.out.2.2.2.1.drew, hh.out.2.2.2.2.1.drew, hh.out.2.2.2.2.2.1.drew, hh.out.2.2.2.2.2.2.drew⟩
      have hc1 := conv_arr HX2.out.1 hh.out.2.1
      have hc2 := conv_arr HX2.out.2.1 hh.out.2.2.1
      have hsl := fun g => slice44 g
      go_wp2
      refine wp_region_still_tail 4 (by kernel_rfl) (by kernel_rfl) ?_
      simp only [List.take_succ_cons, List.take_zero, List.drop_succ_cons, List.drop_zero]
      change wpStill _ _ wc.drew (fun a' => wpList _ _ _ _ a' wc.drew) _ _
      rw [← hw2]
      clear hw2 hh
      repeat still_step
      refine wpStill_nil ?_
      go_wp2_with (first
        | (go_at_call 13; refine (of_n 10 [str x, str y] (some ⟨w2.heap.size, 0, none⟩) 2 2 _ rfl (HK.out.below (ba HX2.out.2.2.2 _)) (reads_ss rfl rfl rfl) HEN.out (by decide) q HQO.out).mono ?_; rintro e w3 ⟨rfl, hb3⟩; have HB3 := Lib.hid (bt (ba HX2.out.2.2.2 _) hb3); have HZ3 := Lib.hid (blk_past hb3 (HX2.out.2.2.1.alloc _)); clear hb3)
        | (refine wpList_store_row rfl 29 (.tmp 6) (.tmp 21) rfl (w.heap.size + 1 + 1) (bs q).toArray rfl rfl 29 _ HZ3.out HS16.out (by rw [sz16 HQL.out, sz16 z16_length]) (all_oneCell_toArray (bs_one _)) ?_))
      refine bodyPost_ret (results_cell_row Tryd.results56 _ _ (w.heap.size + 1 + 1) 29 (bs q).toArray (0, 0) _ rfl (HZ3.out.setRow _) Tryd.underlying29 rfl HS16.out) rfl ⟨by rw [HQ.out], below_setRow HB3.out (by omega) _⟩

end Go.Proofs.YtaoegpmjogladaaDoor

/-
  sign.Digest.
-/
namespace Go.Proofs.YtaoegpmjogladaaDoor
open Go.RowKit WM
attribute [local go_sem ↓] shut16

set_option maxRecDepth 100000 in
set_option maxHeartbeats 2000000 in
theorem signDigest (p : List UInt8) (i : Int) (m : ByteArray) (w : World) (hk : KT 0 w) (hp : p.length = 16) (hi : inRange i) (hm : m.size ≤ 1048576) :
    Calls Tryd.prog 22 #[.agg (bs p).toArray, .int .i64 i, .string m] w fun e w' => e = .returned (.agg (bs (digestB p i m)).toArray) ∧ Below w.heap.size w w' := by
  have hz := Tryd.zero29
  have HP := Lib.hid hp
  have HK := Lib.hid hk
  have hi9 := (enc_len hi).2
  obtain ⟨q, hq⟩ : ∃ q, q = digestB p i m := ⟨_, rfl⟩
  have hql : q.length = 16 := by rw [hq]; exact digestB_16 _ _ _
  have hqo : ofB 12 [str p, str (enc i), m] = q := by rw [hq]; rfl
  have hen := encP_3_le p (enc i) m (by rw [hp]; decide) (by omega) (by omega)
  rw [hp] at hen
  have HEN := Lib.hid (show (encP [str p, str (enc i), m]).length ≤ 137438953472 by omega)
  have HQL := Lib.hid hql
  have HQO := Lib.hid hqo
  have HS16 := Lib.hid (size16 hql)
  rw [← hq]
  clear hp hk hq hql hqo hen
  have hsl := fun g => slice44 g
  go_enter Tryd.func22, Tryd.ntmps22
  go_wp2
  generalize hw0 : World.alloc _ _ = w0
  have H0 : Hid (Blk w0 w.heap.size 29 (bs p).toArray ∧ Blk w0 (w.heap.size + 1) 29 (bs z16).toArray ∧ Below w.heap.size w w0) := by
    rw [← hw0]
    exact ⟨(Blk.new w 29 _).alloc _, Blk.new_at _ 29 (size_alloc _ _).symm rfl, ba (below_new _ _) _⟩
  clear hw0
  have hlq : (bs q).length = 16 := by rw [bs_length]; exact HQL.out
  have hc0 := conv_arr H0.out.1 HP.out
  have hc1 := conv_arr H0.out.1.drew HP.out
  go_region_with (first
    | (go_at_call 43; refine (encInt i _ (by assumption)).mono ?_; rintro e w1 ⟨A1, c1, rfl, ho1, hb1⟩; have HB1 := Lib.hid (bt H0.out.2.2.drew hb1); have HP1 := Lib.hid (blk_past hb1 H0.out.1.drew); have HZ1 := Lib.hid (blk_past hb1 H0.out.2.1.drew); have hv1 := conv_str (c := c1) (Reads.of_own ho1); have hv2 := conv_arr HP1.out HP.out; clear ho1 hb1)
    | (go_at_call 13; refine (of_n 12 [str p, str (enc i), m] (some ⟨w1.heap.size, 0, none⟩) 3 3 _ rfl (HK.out.below (ba HB1.out _)) (reads_ss rfl rfl rfl) HEN.out (by decide) q HQO.out).mono ?_; rintro e w3 ⟨rfl, hb3⟩; have HB3 := Lib.hid (bt (ba HB1.out _) hb3); have HZ3 := Lib.hid (blk_past hb3 (HZ1.out.alloc _)); have hst := store16 HZ3.out z16_length HQL.out; clear hb3))
  all_goals
    go_wp2
    refine bodyPost_ret (results_cell_row Tryd.results22 _ _ (w.heap.size + 1) 29 (bs q).toArray (0, 0) _ rfl (HZ3.out.setRow _) Tryd.underlying29 rfl HS16.out) rfl ⟨rfl, below_setRow HB3.out (by omega) _⟩
end Go.Proofs.YtaoegpmjogladaaDoor

/-
  The closures that give the values of a key, and sign.leaf at each of them.
-/
namespace Go.Proofs.YtaoegpmjogladaaDoor
open Go.RowKit WM
attribute [local go_sem ↓] shut16

theorem one_cell {w : World} {g : Nat} {t : TypeId} {v : Value} (h : Blk w g t #[v]) : w.cell? ⟨g, 0, none⟩ = some v := Blk.cell h 0

set_option maxRecDepth 100000 in
set_option maxHeartbeats 2000000 in
theorem topClo (seed : ByteArray) (k c gs gk : Nat) (w : World) (hk : KT 0 w) (hs : seed.size ≤ 1000) (hgs : Blk w gs 9 #[.string seed]) (hgk : Blk w gk 3 #[.int .i64 (k : Int)]) (hkr : k ≤ 1000000) (hc : c ≤ 1000000) :
    Calls Tryd.prog 64 #[.int .i64 (c : Int), .pointer (some ⟨gs, 0, none⟩), .pointer (some ⟨gk, 0, none⟩)] w fun e w' => e = .returned (.agg (bs (topB seed.data.toList k c)).toArray) ∧ Below w.heap.size w w' := by
  have hz := Tryd.zero29
  obtain ⟨x, hx⟩ : ∃ x, x = startB seed.data.toList k c := ⟨_, rfl⟩
  have hxl : x.length = 16 := by rw [hx]; exact startB_16 _ _ _
  obtain ⟨y, hy⟩ : ∃ y, y = topB seed.data.toList k c := ⟨_, rfl⟩
  have hyl : y.length = 16 := by rw [hy]; exact topB_16 _ _ _
  have hya : advB k c 0 (3 - 0) x = y := by rw [hy, hx]; rfl
  have hlq : (bs y).length = 16 := by rw [bs_length]; exact hyl
  rw [← hy]
  have HKR := Lib.hid (show inRange (k : Int) from ⟨by omega, by omega⟩)
  have HCR := Lib.hid (show inRange (c : Int) from ⟨by omega, by omega⟩)
  have HX := Lib.hid hx
  have HXL := Lib.hid hxl
  have HYL := Lib.hid hyl
  have HYA := Lib.hid hya
  have HS16 := Lib.hid (size16 hyl)
  have HK := Lib.hid hk
  have HGS := Lib.hid hgs
  have HGK := Lib.hid hgk
  have hl1 := hgs.lt
  have hl2 := hgk.lt
  clear hx hxl hy hyl hya hk hgs hgk
  go_enter Tryd.func64, Tryd.ntmps64
  go_wp2
  generalize hw0 : World.alloc _ _ = w0
  have H0 : Hid (Blk w0 w.heap.size 29 (bs z16).toArray ∧ Below w.heap.size w w0) := by
    rw [← hw0]; exact ⟨Blk.new w 29 _, below_new _ _⟩
  have g1 := one_cell (HGS.out.below H0.out.2 hl1)
  have g2 := one_cell (HGK.out.below H0.out.2 hl2)
  have g3 := one_cell (HGS.out.below H0.out.2.drew hl1)
  have g4 := one_cell (HGK.out.below H0.out.2.drew hl2)
  clear hw0
  go_region_with (first
    | (go_at_call 45; refine (start seed k c _ (HK.out.below H0.out.2.drew) hs HKR.out HCR.out).mono ?_; rintro e w1 ⟨rfl, hb1⟩; rw [← HX.out]; have HB1 := Lib.hid (bt H0.out.2.drew hb1); have HZ1 := Lib.hid (blk_past hb1 H0.out.1.drew); have g5 := one_cell (HGK.out.below HB1.out hl2); clear hb1)
    | (go_at_call 44; refine (advance x k c 0 3 _ (HK.out.below HB1.out) HXL.out HKR.out HCR.out (by omega) (by omega)).mono ?_; rintro e w3 ⟨rfl, hb3⟩; rw [HYA.out]; have HB3 := Lib.hid (bt HB1.out hb3); have HZ3 := Lib.hid (blk_past hb3 HZ1.out); have hst := store16 HZ3.out z16_length HYL.out; clear hb3))
  all_goals
    go_wp2
    refine bodyPost_ret (results_cell_row Tryd.results64 _ _ w.heap.size 29 (bs y).toArray (0, 0) _ rfl (HZ3.out.setRow _) Tryd.underlying29 rfl HS16.out) rfl ⟨rfl, below_setRow HB3.out (by omega) _⟩
/-- A slice of a whole array of bytes. -/
theorem reads_blkB {w : World} {g B n : Nat} {t : TypeId} {x : List UInt8} (h : Blk w g t (bs x).toArray) (hn : x.length = n) (hB : g < B) : Reads w B 1 (some ⟨g, 0, none⟩) n (bs x) :=
  ⟨by rw [bs_length]; omega, fun _ => ⟨_, rfl, hB, fun j u hu => by rw [Addr.add_lit, Nat.zero_add, Blk.cell h]; simpa using hu⟩⟩
end Go.Proofs.YtaoegpmjogladaaDoor

/-
  sign.leaf at the closure of tree.
-/
namespace Go.Proofs.YtaoegpmjogladaaDoor
open Go.RowKit WM

set_option maxRecDepth 100000 in
set_option maxHeartbeats 2000000 in
theorem leafT (tops : Nat → List UInt8) (ga gb : Nat) (w : World) (hk : KT 0 w) (h16 : ∀ c, (tops c).length = 16)
    (hclo : ∀ (c : Nat) (W : World), c < 68 → Below w.heap.size w W → Calls Tryd.prog 64 #[.int .i64 (c : Int), .pointer (some ⟨ga, 0, none⟩), .pointer (some ⟨gb, 0, none⟩)] W fun e w' => e = .returned (.agg (bs (tops c)).toArray) ∧ Below W.heap.size W w') :
    Calls Tryd.prog 54 #[.func (.func 64) #[] #[.pointer (some ⟨ga, 0, none⟩), .pointer (some ⟨gb, 0, none⟩)]] w fun e w' => e = .returned (.agg (bs (leafB tops)).toArray) ∧ Below w.heap.size w w' := by
  have hz := Tryd.zero29
  obtain ⟨i0, hi, hz0, hz1, hz2⟩ := info_parts Tryd.info5
  obtain ⟨y, hy⟩ : ∃ y, y = ofB 11 [str (catB tops 68)] := ⟨_, rfl⟩
  have hyl : y.length = 16 := by rw [hy]; exact ofB_16 _ _
  obtain ⟨q, hq⟩ : ∃ q, q = leafB tops := ⟨_, rfl⟩
  have hql : q.length = 16 := by rw [hq]; exact leafB_16 _
  have hqy : ofB 9 [str y] = q := by rw [hq, hy]; rfl
  rw [← hq]
  have hcl : (catB tops 68).length = 1088 := catB_length tops h16 68
  have HE1 := Lib.hid (show (encP [str (catB tops 68)]).length ≤ 137438953472 by have := encP_1_le (catB tops 68) (by omega); omega)
  have HE2 := Lib.hid (show (encP [str y]).length ≤ 137438953472 by have := encP_1_le y (by omega); omega)
  have hsl := fun g => slice44 g
  have HY := Lib.hid hy.symm
  have HYL := Lib.hid hyl
  have HQL := Lib.hid hql
  have HQY := Lib.hid hqy
  have HS16 := Lib.hid (size16 hql)
  have HSY := Lib.hid (size16 hyl)
  have HK := Lib.hid hk
  have H16 := Lib.hid h16
  have HC := Lib.hid hclo
  clear hy hyl hq hql hqy hcl hk h16 hclo
  go_enter Tryd.func54, Tryd.ntmps54
  go_wp2
  go_loopw [3, 7] (fun v i' wr => ∃ k : Nat, k ≤ 68 ∧ i' = .int .i64 k ∧ Hid (wr.ownsRow w.heap.size 5 1 v (catB tops k).length (bs (catB tops k)) ∧ Blk wr w.heap.size 29 (bs z16).toArray ∧ Below w.heap.size w wr)) (fun _ i' _ => 68 - (intOf i').toNat)
  case atStart => exact ⟨0, by omega, rfl, World.ownsRow_nil _ _ _ _, Blk.new w 29 _, below_new _ _⟩
  case round =>
    obtain ⟨k, hk, rfl, hh⟩ := hrel
    have hsz := hh.out.2.2.size
    by_cases hlt : k < 68
    · obtain ⟨x, hx⟩ : ∃ x, x = tops k := ⟨_, rfl⟩
      have hxl : x.length = 16 := by rw [hx]; exact H16.out k
      have hck := HC.out k wr hlt hh.out.2.2
      have hcs := catB_succ tops k
      have hcl := catB_length tops H16.out k
      rw [← hx] at hck hcs
      have HCK := Lib.hid hck
      have HCS := Lib.hid hcs
      have HXL := Lib.hid hxl
      have HSX := Lib.hid (size16 hxl)
      clear hx hxl hck hcs
      go_wp2_with (first
        | (go_at_call 64; refine HCK.out.mono ?_; rintro e w1 ⟨rfl, hb1⟩; have HB1 := Lib.hid (bt hh.out.2.2 hb1); have HO1 := Lib.hid (ownsRow_below hh.out.1 hb1); have HZ1 := Lib.hid (blk_past hb1 hh.out.2.1); have hs1 := HB1.out.size; clear hb1)
        | (refine wpList_store_row rfl 29 (.tmp 5) (.tmp 12) rfl w1.heap.size (bs x).toArray rfl rfl 29 _ (Blk.new w1 29 _) HSX.out (by rw [sz16 HXL.out, sz16 z16_length]) (all_oneCell_toArray (bs_one _)) ?_
           generalize hw2 : World.setRow (World.alloc w1 _) _ _ = w2
           have HG2 : Hid (Blk w2 w1.heap.size 29 (bs x).toArray) := by rw [← hw2]; exact (Blk.new w1 29 _).setRow _
           have HZ2 : Hid (Blk w2 w.heap.size 29 (bs z16).toArray) := by rw [← hw2]; exact (HZ1.out.alloc _).setRow_far (by have := HZ1.out.lt; omega) _
           have HB2 : Hid (Below w.heap.size w w2) := by rw [← hw2]; exact below_setRow (ba HB1.out _) hs1 _
           have HO2 : Hid (w2.ownsRow w.heap.size 5 1 u3 (catB tops k).length (bs (catB tops k))) := by rw [← hw2]; exact ownsRow_below HO1.out (below_setRow (below_new _ _) (Nat.le_refl _) _)
           have HS2 : w2.heap.size = w1.heap.size + 1 := by rw [← hw2, size_setRow, size_alloc]
           clear hw2)
        | (at_builtin; refine wpList_append_any _ rfl (.tmp 13) (.tmp 14) _ rfl w.heap.size 5 i0 (.int .u8 0) 1 1 Tryd.underlying26 hi hz0 hz1 hz2 rfl (by omega) _ _ _ rfl HO2.out w2.heap.size (some ⟨w1.heap.size, 0, none⟩) 16 16 (bs x) rfl (reads_blkB HG2.out HXL.out (by omega)) (bs_one _) (len_le (by omega)) (by omega) (by omega) ?_; intro v3 w3 hown3 hgrow3 _; have HO3 := Lib.hid hown3; have HB3 := Lib.hid (HB2.out.grown hgrow3 HB2.out.size (fun k hk => (HO2.out.lt k hk).1)); have HZ3 := Lib.hid (HZ2.out.grown hgrow3 (fun e => own_blk_ne HO2.out HZ2.out (by decide) e.symm)); clear hown3 hgrow3))
      go_roundw
      case rel => exact ⟨k + 1, by omega, by go_num, own_next (by rw [HXL.out]; exact HO3.out) HCS.out, HZ3.out, HB3.out⟩
      case measure => simp [intOf]; omega
    · have hke : k = 68 := by omega
      have hown := hh.out.1
      rw [hke] at hown
      obtain ⟨A4, c4, rfl, _⟩ := own_form hown
      have hcv := conv_str (c := c4) (Reads.of_own hown)
      have hge : 68 ≤ k := by omega
      clear hlt hk hke hown
      have HC1 := Lib.hid (of_n 11 [str (catB tops 68)] (some ⟨wr.heap.size, 0, none⟩) 1 1 (wr.alloc (.cells #[.string (str (catB tops 68))] 9)) rfl (HK.out.below (ba hh.out.2.2 _)) (reads_ss rfl rfl rfl) HE1.out (by decide) y HY.out)
      go_wp2_with (first
        | (go_at_call 13; ((with_reducible refine HC1.out.mono ?_); rintro e w5 ⟨rfl, hb5⟩); have HB5 := Lib.hid (bt (ba hh.out.2.2 _) hb5); have HZ5 := Lib.hid (blk_past hb5 (hh.out.2.1.alloc _)); clear hb5)
        | (refine wpList_store_row rfl 29 (.tmp 6) (.tmp 20) rfl w5.heap.size (bs y).toArray rfl rfl 29 _ (Blk.new w5 29 _) HSY.out (by rw [sz16 HYL.out, sz16 z16_length]) (all_oneCell_toArray (bs_one _)) ?_
           generalize hw6 : World.setRow (World.alloc w5 _) _ _ = w6
           have HG6 : Hid (Blk w6 w5.heap.size 29 (bs y).toArray) := by rw [← hw6]; exact (Blk.new w5 29 _).setRow _
           have HZ6 : Hid (Blk w6 w.heap.size 29 (bs z16).toArray) := by rw [← hw6]; exact (HZ5.out.alloc _).setRow_far (by have := HZ5.out.lt; omega) _
           have HB6 : Hid (Below w.heap.size w w6) := by rw [← hw6]; exact below_setRow (ba HB5.out _) HB5.out.size _
           have hc6 := conv_arr HG6.out HYL.out
           have HC2 := Lib.hid (of_n 9 [str y] (some ⟨w6.heap.size, 0, none⟩) 1 1 (w6.alloc (.cells #[.string (str y)] 9)) rfl (HK.out.below (ba HB6.out _)) (reads_ss rfl rfl rfl) HE2.out (by decide) q HQY.out)
           clear hw6)
        | (go_at_call 13; ((with_reducible refine HC2.out.mono ?_); rintro e w7 ⟨rfl, hb7⟩); have HB7 := Lib.hid (bt (ba HB6.out _) hb7); have HZ7 := Lib.hid (blk_past hb7 (HZ6.out.alloc _)); clear hb7)
        | (refine wpList_store_row rfl 29 (.tmp 2) (.tmp 24) rfl w.heap.size (bs q).toArray rfl rfl 29 _ HZ7.out HS16.out (by rw [sz16 HQL.out, sz16 z16_length]) (all_oneCell_toArray (bs_one _)) ?_))
      refine bodyPost_ret (results_cell_row Tryd.results54 _ _ w.heap.size 29 (bs q).toArray (0, 0) _ rfl (HZ7.out.setRow _) Tryd.underlying29 rfl HS16.out) rfl ⟨rfl, below_setRow HB7.out (by omega) _⟩
end Go.Proofs.YtaoegpmjogladaaDoor

/-
  What the walk of the tree gathers: plain mathematics.
-/
namespace Go.Proofs.YtaoegpmjogladaaDoor
open Go.RowKit WM

/-- The number of the node beside the way, at a level. -/
def sib (i l : Nat) : Nat := i / 2 ^ l ^^^ 1
def putB (seed : List UInt8) (h i l k : Nat) (L : List (List UInt8)) : List (List UInt8) := if l < h ∧ k = sib i l then L.set l (nodeB seed l k) else L
def visitB (seed : List UInt8) (h i : Nat) : Nat → Nat → List (List UInt8) → List (List UInt8)
  | 0, k, L => putB seed h i 0 k L
  | l + 1, k, L => putB seed h i (l + 1) k (visitB seed h i l (2 * k + 1) (visitB seed h i l (2 * k) L))
theorem putB_length (seed : List UInt8) (h i l k : Nat) (L : List (List UInt8)) : (putB seed h i l k L).length = L.length := by
  unfold putB; split <;> simp
theorem visitB_length (seed : List UInt8) (h i : Nat) : ∀ (l k : Nat) (L : List (List UInt8)), (visitB seed h i l k L).length = L.length
  | 0, k, L => putB_length _ _ _ _ _ _
  | l + 1, k, L => by unfold visitB; rw [putB_length, visitB_length seed h i l, visitB_length seed h i l]
theorem putB_16 {seed : List UInt8} {h i l k : Nat} {L : List (List UInt8)} (hL : ∀ x ∈ L, x.length = 16) : ∀ x ∈ putB seed h i l k L, x.length = 16 := by
  unfold putB
  split
  · intro x hx
    rcases List.mem_or_eq_of_mem_set hx with h1 | h1
    · exact hL x h1
    · rw [h1]; exact nodeB_16 _ _ _
  · exact hL
theorem visitB_16 {seed : List UInt8} {h i : Nat} : ∀ (l k : Nat) {L : List (List UInt8)}, (∀ x ∈ L, x.length = 16) → ∀ x ∈ visitB seed h i l k L, x.length = 16
  | 0, _, _, hL => putB_16 hL
  | l + 1, k, _, hL => by
    unfold visitB
    exact putB_16 (visitB_16 l (2 * k + 1) (visitB_16 l (2 * k) hL))
theorem putB_get (seed : List UInt8) (h i l k j : Nat) (L : List (List UInt8)) (hL : L.length = h) :
    (putB seed h i l k L)[j]? = if j = l ∧ j < h ∧ k = sib i l then some (nodeB seed l k) else L[j]? := by
  unfold putB
  by_cases h1 : l < h ∧ k = sib i l
  · rw [if_pos h1, List.getElem?_set]
    by_cases h2 : l = j
    · subst h2
      rw [if_pos rfl, if_pos (by omega), if_pos ⟨rfl, h1.1, h1.2⟩]
    · rw [if_neg h2, if_neg (by omega)]
  · rw [if_neg h1, if_neg (by omega)]
theorem half_of (t d k : Nat) (hd : 0 < d) : (t / d = 2 * k ∨ t / d = 2 * k + 1) ↔ t / (2 * d) = k := by
  rw [Nat.mul_comm 2 d, ← Nat.div_div_eq_div_mul]; omega
theorem visitB_get (seed : List UInt8) (h i j : Nat) : ∀ (l k : Nat) (L : List (List UInt8)), L.length = h →
    (visitB seed h i l k L)[j]? = if j ≤ l ∧ j < h ∧ sib i j / 2 ^ (l - j) = k then some (nodeB seed j (sib i j)) else L[j]?
  | 0, k, L, hL => by
    unfold visitB
    rw [putB_get _ _ _ _ _ _ _ hL]
    by_cases h1 : j = 0 ∧ j < h ∧ k = sib i 0
    · obtain ⟨rfl, h2, h3⟩ := h1
      rw [if_pos ⟨rfl, h2, h3⟩, if_pos ⟨Nat.le_refl _, h2, by simp [h3]⟩, h3]
    · rw [if_neg h1, if_neg]
      rintro ⟨h2, h3, h4⟩
      obtain rfl : j = 0 := by omega
      exact h1 ⟨rfl, h3, by simpa using h4.symm⟩
  | l + 1, k, L, hL => by
    unfold visitB
    have e1 := visitB_length seed h i l (2 * k) L
    have e2 := visitB_length seed h i l (2 * k + 1) (visitB seed h i l (2 * k) L)
    rw [putB_get _ _ _ _ _ _ _ (by omega), visitB_get seed h i j l (2 * k + 1) _ (by omega), visitB_get seed h i j l (2 * k) L hL]
    by_cases hj : j ≤ l
    · rw [if_neg (by omega)]
      have e3 : l + 1 - j = l - j + 1 := by omega
      have e4 : 2 ^ (l + 1 - j) = 2 * 2 ^ (l - j) := by rw [e3, Nat.pow_succ, Nat.mul_comm]
      have e5 := half_of (sib i j) (2 ^ (l - j)) k (Nat.pos_of_ne_zero (by simp))
      rw [e4]
      by_cases hh : j < h
      · by_cases h6 : sib i j / 2 ^ (l - j) = 2 * k + 1
        · rw [if_pos ⟨hj, hh, h6⟩, if_pos ⟨by omega, hh, e5.1 (.inr h6)⟩]
        · rw [if_neg (fun c => h6 c.2.2)]
          by_cases h7 : sib i j / 2 ^ (l - j) = 2 * k
          · rw [if_pos ⟨hj, hh, h7⟩, if_pos ⟨by omega, hh, e5.1 (.inl h7)⟩]
          · rw [if_neg (fun c => h7 c.2.2), if_neg (fun c => (e5.2 c.2.2).elim h7 h6)]
      · rw [if_neg (by omega), if_neg (by omega), if_neg (by omega)]
    · by_cases hj2 : j = l + 1
      · subst hj2
        rw [if_neg (show ¬ (l + 1 ≤ l ∧ _) by omega), if_neg (show ¬ (l + 1 ≤ l ∧ _) by omega)]
        by_cases h8 : l + 1 < h ∧ k = sib i (l + 1)
        · rw [if_pos ⟨rfl, h8.1, h8.2⟩, if_pos ⟨Nat.le_refl _, h8.1, by simp [h8.2]⟩, h8.2]
        · rw [if_neg (fun c => h8 c.2), if_neg]
          rintro ⟨_, h9, h10⟩
          exact h8 ⟨h9, by simpa using h10.symm⟩
      · rw [if_neg (by omega), if_neg (by omega), if_neg (by omega), if_neg (by omega)]
theorem sib_lt {i h j : Nat} (hi : i < 2 ^ h) (hj : j < h) : sib i j < 2 ^ (h - j) := by
  unfold sib
  have h1 : i / 2 ^ j < 2 ^ (h - j) := by
    rw [Nat.div_lt_iff_lt_mul (Nat.pos_of_ne_zero (by simp)), ← Nat.pow_add, Nat.sub_add_cancel (by omega)]; exact hi
  exact Nat.xor_lt_two_pow h1 (Nat.one_lt_two_pow (by omega))
/-- The walk from the root gathers the nodes beside the way. -/
theorem visitB_root (seed : List UInt8) (h i : Nat) (hi : i < 2 ^ h) (L : List (List UInt8)) (hL : L.length = h) : visitB seed h i h 0 L = (List.range h).map fun l => nodeB seed l (sib i l) := by
  apply List.ext_getElem?
  intro j
  rw [visitB_get seed h i j h 0 L hL, List.getElem?_map]
  by_cases hj : j < h
  · rw [if_pos ⟨by omega, hj, Nat.div_eq_of_lt (sib_lt hi hj)⟩, List.getElem?_range hj]; rfl
  · rw [if_neg (by omega), List.getElem?_eq_none (by omega), List.getElem?_eq_none (by simpa using hj)]; rfl
theorem pathB_eq (seed : List UInt8) (i h : Nat) : pathB seed i h = (List.range h).map fun l => nodeB seed l (sib i l) := by
  unfold pathB besideN sib
  simp only [Nat.shiftRight_eq_div_pow]
end Go.Proofs.YtaoegpmjogladaaDoor
