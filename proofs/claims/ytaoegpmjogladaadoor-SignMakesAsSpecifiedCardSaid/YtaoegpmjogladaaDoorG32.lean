/-
  scoriaref03.Verify where it refuses.
-/
import Derived.Test.YtaoegpmjogladaaDoorG30
import Derived.Test.YtaoegpmjogladaaDoorG31
import Derived.Test.YtaoegpmjogladaaDoorG17
set_option linter.unusedVariables false
namespace Go.Proofs.YtaoegpmjogladaaDoor
open Go.RowKit WM

theorem refGetInt_bw (sg : ByteArray) (w : World) (hl : sg.size ≤ 1000000) (d : Dec Int) (hd : gInt sg.data.toList = d) :
    Calls Tryd.prog 57 #[.slice (some ⟨w.heap.size, 0, none⟩) sg.size (bcap w sg)] (bw w sg) fun e w' => e = .returned (dInt d) ∧ Below (bw w sg).heap.size (bw w sg) w' := by
  subst hd
  have := refGetInt (some ⟨w.heap.size, 0, none⟩) (bcap w sg) sg.data.toList (bw w sg) (by rw [size_list]; exact bw_reads w sg) (by rw [size_list]; exact bcap_ge w sg) (by rw [size_list]; omega)
  rwa [size_list] at this
/-- What stands before and behind '[]byte(signature)'. -/
structure RVerAt (p : List UInt8) (sg : ByteArray) (w w1 : World) (c : Nat) (a b e : Int) : Prop where
  conv : (convert 9 26 (.string sg)).run Tryd.prog (w.alloc (.cells (bs p).toArray 29)) = .ok (.slice (some ⟨w.heap.size + 1, 0, none⟩) sg.size c) w1
  get : Calls Tryd.prog 57 #[.slice (some ⟨w.heap.size + 1, 0, none⟩) sg.size c] w1 fun r w' => r = .returned (.tuple #[.int .i64 a, .int .i64 b, .int .i64 e]) ∧ Below w1.heap.size w1 w'
  box : Blk w1 w.heap.size 29 (bs p).toArray
  below : Below w.heap.size w w1
theorem RVerAt.make (p : List UInt8) (sg : ByteArray) (w : World) (hl : sg.size ≤ 1000000) (d : Dec Int) (hd : gInt sg.data.toList = d) (a b e : Int) (hv : dInt d = .tuple #[.int .i64 a, .int .i64 b, .int .i64 e]) :
    ∃ w1 c, RVerAt p sg w w1 c a b e := by
  refine ⟨bw (w.alloc (.cells (bs p).toArray 29)) sg, bcap (w.alloc (.cells (bs p).toArray 29)) sg, ?_, ?_, ?_, ?_⟩
  · rw [conv9, size_alloc]
  · have := refGetInt_bw sg (w.alloc (.cells (bs p).toArray 29)) hl d hd
    rwa [hv, size_alloc] at this
  · exact blk_past (bw_below _ sg) (Blk.new w 29 _)
  · exact bt (below_new w _) (bw_below _ sg)

set_option maxRecDepth 100000 in
theorem rverify_arg (p : List UInt8) (h : Int) (m sg : ByteArray) (w : World) (hn : ¬ (0 ≤ h ∧ h ≤ 6)) :
    Calls Tryd.prog 25 #[.agg (bs p).toArray, .int .i64 h, .string m, .string sg] w fun e w' => e = .returned (.tuple #[.int .i64 0, .int .i64 1]) ∧ Below w.heap.size w w' := by
  by_cases h0 : 0 ≤ h
  · have h6 : 6 < h := by omega
    clear hn
    go_enter Tryd.func25, Tryd.ntmps25
    go_wp2
    go_ret2
    exact ⟨rfl, below_new _ _⟩
  · have h1 : h < 0 := by omega
    clear hn h0
    go_enter Tryd.func25, Tryd.ntmps25
    go_wp2
    go_ret2
    exact ⟨rfl, below_new _ _⟩

set_option maxRecDepth 100000 in
set_option maxHeartbeats 1000000 in
theorem rverify_none (p : List UInt8) (h : Int) (m sg : ByteArray) (w : World) (h0 : 0 ≤ h) (h6 : h ≤ 6) (hm : m.size ≤ 1048576) (hl : sg.size ≤ 1000000) (d : Dec Int) (k : Int) (hk : (k != 0) = true) (hg : gInt sg.data.toList = d) (hv : dInt d = .tuple #[.int .i64 0, .int .i64 0, .int .i64 k]) :
    Calls Tryd.prog 25 #[.agg (bs p).toArray, .int .i64 h, .string m, .string sg] w fun e w' => e = .returned (.tuple #[.int .i64 0, .int .i64 k]) ∧ Below w.heap.size w w' := by
  have hm2 : ¬ (1048576 : Int) < (m.size : Int) := by omega
  have a0 : ¬ h < 0 := by omega
  have a6 : ¬ 6 < h := by omega
  obtain ⟨w1, c, hv⟩ := RVerAt.make p sg w hl _ hg 0 0 k hv
  have HV := Lib.hid hv
  have hcv := hv.conv
  clear hg hv
  go_enter Tryd.func25, Tryd.ntmps25
  go_wp2_with (go_at_call 57; refine HV.out.get.mono ?_; rintro e w2 ⟨rfl, hb2⟩; have HB2 := Lib.hid (bt HV.out.below hb2); clear hb2)
  go_ret2
  exact ⟨rfl, HB2.out⟩

theorem shl1 (h : Nat) (h6 : h ≤ 6) : wrap64 (2 ^ h) = ((2 ^ h : Nat) : Int) := by
  obtain rfl | rfl | rfl | rfl | rfl | rfl | rfl : h = 0 ∨ h = 1 ∨ h = 2 ∨ h = 3 ∨ h = 4 ∨ h = 5 ∨ h = 6 := by omega
  all_goals decide +kernel

set_option maxRecDepth 100000 in
set_option maxHeartbeats 2000000 in
theorem rverify_bad (p : List UInt8) (h : Nat) (n : Int) (u : Nat) (m sg : ByteArray) (w : World) (h6 : h ≤ 6) (hm : m.size ≤ 1048576) (hl : sg.size ≤ 1000000) (hg : gInt sg.data.toList = .ok n u) (hu : u ≤ sg.size)
    (hbad : n < 0 ∨ ((2 ^ h : Nat) : Int) ≤ n ∨ sg.size - u ≠ (68 + h) * 16) :
    Calls Tryd.prog 25 #[.agg (bs p).toArray, .int .i64 (h : Int), .string m, .string sg] w fun e w' => e = .returned (.tuple #[.int .i64 0, .int .i64 2]) ∧ Below w.heap.size w w' := by
  have hm2 : ¬ (1048576 : Int) < (m.size : Int) := by omega
  have a6 : ¬ (6 : Int) < (h : Int) := by omega
  obtain ⟨w1, c, hv⟩ := RVerAt.make p sg w hl _ hg n u 0 rfl
  have HV := Lib.hid hv
  have hcv := hv.conv
  have hsl := strSlice sg u u rfl hu
  have hls : ((str (sg.data.toList.drop u)).size : Int) = ((sg.size - u : Nat) : Int) := by rw [str_size, List.length_drop, size_list]
  obtain ⟨r, hr⟩ : ∃ r, r = str (sg.data.toList.drop u) := ⟨_, rfl⟩
  rw [← hr] at hsl hls
  have hsh := shl1 h h6
  obtain ⟨N, hN⟩ : ∃ N, N = 2 ^ h := ⟨_, rfl⟩
  rw [← hN] at hsh hbad
  by_cases hn0 : n < 0
  · clear hg hv hr hbad hls hN hsh
    go_enter Tryd.func25, Tryd.ntmps25
    go_wp2_with (go_at_call 57; refine HV.out.get.mono ?_; rintro e w2 ⟨rfl, hb2⟩; have HB2 := Lib.hid (bt HV.out.below hb2); clear hb2)
    go_ret2
    exact ⟨rfl, HB2.out⟩
  · by_cases hnN : (N : Int) ≤ n
    · clear hg hv hr hbad hls hN
      go_enter Tryd.func25, Tryd.ntmps25
      go_wp2_with (go_at_call 57; refine HV.out.get.mono ?_; rintro e w2 ⟨rfl, hb2⟩; have HB2 := Lib.hid (bt HV.out.below hb2); clear hb2)
      go_ret2
      exact ⟨rfl, HB2.out⟩
    · have hne : sg.size - u ≠ (68 + h) * 16 := by
        rcases hbad with h1 | h1 | h1
        · omega
        · omega
        · exact h1
      have hnb : ((r.size : Int) != (68 + (h : Int)) * 16) = true := by rw [hls]; simp; omega
      clear hg hv hr hne hbad hls hN
      go_enter Tryd.func25, Tryd.ntmps25
      go_wp2_with (go_at_call 57; refine HV.out.get.mono ?_; rintro e w2 ⟨rfl, hb2⟩; have HB2 := Lib.hid (bt HV.out.below hb2); clear hb2)
      go_ret2
      exact ⟨rfl, HB2.out⟩
end Go.Proofs.YtaoegpmjogladaaDoor

/-
  scoriaref03.leaf.
-/
namespace Go.Proofs.YtaoegpmjogladaaDoor
open Go.RowKit WM
attribute [local go_sem ↓] shut16

theorem str_append (a b : List UInt8) : str a ++ str b = str (a ++ b) := by
  apply ByteArray.ext
  apply Array.toList_inj.1
  simp [str]

set_option maxRecDepth 100000 in
set_option maxHeartbeats 4000000 in
theorem refLeaf (seed : ByteArray) (i : Nat) (w : World) (hk : KT 1 w) (hs : seed.size ≤ 1000) (hi : i ≤ 1000000) (q : List UInt8) (hq : nodeB seed.data.toList 0 i = q) :
    Calls Tryd.prog 65 #[.string seed, .int .i64 (i : Int)] w fun e w' => e = .returned (.agg (bs q).toArray) ∧ Below w.heap.size w w' := by
  have hz := Tryd.zero29
  obtain ⟨f, hf⟩ : ∃ f, f = topB seed.data.toList i := ⟨_, rfl⟩
  have hf16 : ∀ c, (f c).length = 16 := fun c => by rw [hf]; exact topB_16 _ _ _
  obtain ⟨y, hy⟩ : ∃ y, y = ofB 11 [str (catB f 68)] := ⟨_, rfl⟩
  have hyl : y.length = 16 := by rw [hy]; exact ofB_16 _ _
  have hql : q.length = 16 := by rw [← hq]; exact nodeB_16 _ _ _
  have hqy : ofB 9 [str y] = q := by rw [← hq, hy, hf]; rfl
  have hcl : (catB f 68).length = 1088 := catB_length f hf16 68
  have HE1 := Lib.hid (show (encP [str (catB f 68)]).length ≤ 137438953472 by have := encP_1_le (catB f 68) (by omega); omega)
  have HE2 := Lib.hid (show (encP [str y]).length ≤ 137438953472 by have := encP_1_le y (by omega); omega)
  have HF := Lib.hid hf
  have HF16 := Lib.hid hf16
  have HY := Lib.hid hy
  have HYL := Lib.hid hyl
  have HQL := Lib.hid hql
  have HQY := Lib.hid hqy
  have HK := Lib.hid hk
  have HS := Lib.hid hs
  have HSY := Lib.hid (size16 hyl)
  have HSQ := Lib.hid (size16 hql)
  have HIR := Lib.hid (show inRange (i : Int) from ⟨by omega, by omega⟩)
  clear hk hf hf16 hy hyl hql hqy hcl hs hq
  go_enter Tryd.func65, Tryd.ntmps65
  go_wp2
  go_loopw [5, 6] (fun s' c' wr => ∃ k : Nat, k ≤ 68 ∧ c' = .int .i64 k ∧ s' = .string (str (catB f k)) ∧ Hid (Blk wr w.heap.size 29 (bs z16).toArray ∧ Below w.heap.size w wr)) (fun _ c' _ => 68 - (intOf c').toNat)
  case atStart => exact ⟨0, by omega, rfl, rfl, Blk.new w 29 _, below_new _ _⟩
  case round =>
    obtain ⟨k, hk, rfl, rfl, hh⟩ := hrel
    by_cases hlt : k < 68
    · obtain ⟨s, hs⟩ : ∃ s, s = startB seed.data.toList i k := ⟨_, rfl⟩
      obtain ⟨z, hz'⟩ : ∃ z, z = f k := ⟨_, rfl⟩
      have hsl : s.length = 16 := by rw [hs]; exact startB_16 _ _ _
      have hzl : z.length = 16 := by rw [hz']; exact HF16.out k
      have hadv : advB i k 0 (3 - 0) s = z := by rw [hz', HF.out, hs]; rfl
      obtain ⟨a, ha⟩ : ∃ a, a = catB f k := ⟨_, rfl⟩
      have hcs : catB f (k + 1) = a ++ z := by rw [catB_succ, ← ha, ← hz']
      have hal : a.length = 16 * k := by rw [ha]; exact catB_length f HF16.out k
      have hsz : ((str a).size : Int) + ((str z).size : Int) ≤ 140737488355328 := by rw [str_size, str_size, hal, hzl]; omega
      have HKR := Lib.hid (show inRange (k : Int) from ⟨by omega, by omega⟩)
      have HSE := Lib.hid hs.symm
      have HSL := Lib.hid hsl
      have HZL := Lib.hid hzl
      have HAD := Lib.hid hadv
      have HCS := Lib.hid hcs
      rw [← ha]
      clear hs hz' hsl hzl hadv ha hcs hal
      go_wp2_with (first
        | (go_at_call 48; refine (refStart seed i k _ (HK.out.below hh.out.2) HS.out HIR.out HKR.out s HSE.out).mono ?_; rintro e w1 ⟨rfl, hb1⟩; have HB1 := Lib.hid (bt hh.out.2 hb1); have HZ1 := Lib.hid (blk_past hb1 hh.out.1); clear hb1)
        | (go_at_call 47; refine (refAdvance s i k 0 3 _ (HK.out.below HB1.out) HSL.out HIR.out HKR.out (by omega) (by omega) z HAD.out).mono ?_; rintro e w2 ⟨rfl, hb2⟩; have HB2 := Lib.hid (bt HB1.out hb2); have HZ2 := Lib.hid (blk_past hb2 HZ1.out); clear hb2)
        | (go_at_call 34; refine (text16 z HZL.out _).mono ?_; rintro e w3 ⟨rfl, hb3⟩; have HB3 := Lib.hid (bt HB2.out hb3); have HZ3 := Lib.hid (blk_past hb3 HZ2.out); clear hb3))
      go_roundw
      case rel => exact ⟨k + 1, by omega, by go_num, by rw [HCS.out, str_append], HZ3.out, HB3.out⟩
      case measure => simp [intOf]; omega
    · have hke : k = 68 := by omega
      subst hke
      have HC1 := Lib.hid (rof_n 11 [str (catB f 68)] (some ⟨wr.heap.size, 0, none⟩) 1 1 (wr.alloc (.cells #[.string (str (catB f 68))] 9)) rfl (HK.out.below (ba hh.out.2 _)) (reads_ss rfl rfl rfl) HE1.out (by decide) y HY.out.symm)
      clear hlt hk
      go_wp2_with (first
        | (go_at_call 49; ((with_reducible refine HC1.out.mono ?_); rintro e w5 ⟨rfl, hb5⟩); have HB5 := Lib.hid (bt (ba hh.out.2 _) hb5); have HZ5 := Lib.hid (blk_past hb5 (hh.out.1.alloc _)); clear hb5)
        | (refine wpList_store_row rfl 29 (.tmp 7) (.tmp 24) rfl w5.heap.size (bs y).toArray rfl rfl 29 _ (Blk.new w5 29 _) HSY.out (by rw [sz16 HYL.out, sz16 z16_length]) (all_oneCell_toArray (bs_one _)) ?_
           generalize hw6 : World.setRow (World.alloc w5 _) _ _ = w6
           have HG6 : Hid (Blk w6 w5.heap.size 29 (bs y).toArray) := by rw [← hw6]; exact (Blk.new w5 29 _).setRow _
           have HZ6 : Hid (Blk w6 w.heap.size 29 (bs z16).toArray) := by rw [← hw6]; exact (HZ5.out.alloc _).setRow_far (by have := HZ5.out.lt; omega) _
           have HB6 : Hid (Below w.heap.size w w6) := by rw [← hw6]; exact below_setRow (ba HB5.out _) HB5.out.size _
           clear hw6)
        | (refine wpList_load_row rfl 29 (.tmp 7) rfl w5.heap.size rfl 29 (bs y).toArray (0, 0) _ HG6.out Tryd.underlying29 rfl HSY.out ?_)
        | (go_at_call 34; refine (text16 y HYL.out _).mono ?_; rintro e w7 ⟨rfl, hb7⟩; have HB7 := Lib.hid (bt HB6.out hb7); have HZ7 := Lib.hid (blk_past hb7 HZ6.out); have HC2 := Lib.hid (rof_n 9 [str y] (some ⟨w7.heap.size, 0, none⟩) 1 1 (w7.alloc (.cells #[.string (str y)] 9)) rfl (HK.out.below (ba HB7.out _)) (reads_ss rfl rfl rfl) HE2.out (by decide) q HQY.out); clear hb7)
        | (go_at_call 49; ((with_reducible refine HC2.out.mono ?_); rintro e w8 ⟨rfl, hb8⟩); have HB8 := Lib.hid (bt (ba HB7.out _) hb8); have HZ8 := Lib.hid (blk_past hb8 (HZ7.out.alloc _)); clear hb8)
        | (refine wpList_store_row rfl 29 (.tmp 4) (.tmp 28) rfl w.heap.size (bs q).toArray rfl rfl 29 _ HZ8.out HSQ.out (by rw [sz16 HQL.out, sz16 z16_length]) (all_oneCell_toArray (bs_one _)) ?_))
      refine bodyPost_ret (results_cell_row Tryd.results65 _ _ w.heap.size 29 (bs q).toArray (0, 0) _ rfl (HZ8.out.setRow _) Tryd.underlying29 rfl HSQ.out) rfl ⟨rfl, below_setRow HB8.out (Nat.le_refl _) _⟩
end Go.Proofs.YtaoegpmjogladaaDoor
