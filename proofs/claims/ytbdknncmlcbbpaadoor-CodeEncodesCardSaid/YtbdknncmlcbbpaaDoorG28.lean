/-
  (Stream).Sum.
-/
import Derived.Test.YtbdknncmlcbbpaaDoorG27
set_option linter.unusedVariables false
namespace Go.Proofs.YtbdknncmlcbbpaaDoor
open Go.RowKit

theorem slice31all (g : Nat) (W : World) : (Instr.sliceAt 85 (.pointer (some ⟨g, 8, none⟩)) none none none).run Tryd.prog W = .ok (.slice (some ⟨g, 8, none⟩) 64 64) W := by
  have a1 : Tryd.prog.underlying 85 = some (.array (Tryd.prog.arrayLen 85) (Tryd.prog.elem 85)) := by kernel_rfl
  have a2 : Tryd.prog.arrayLen 85 = 64 := by kernel_rfl
  have a3 : Tryd.prog.elem 85 = 5 := by kernel_rfl
  rw [run_sliceAt_array_all W 85 ⟨g, 8, none⟩ a1, a3, Tryd.sz5, a2]
  simp [slicedAt, Addr.add]
theorem Tryd.zero5 (W : World) : (zeroValue 5).run Tryd.prog W = .ok (.int .u8 0) W := by kernel_rfl
theorem clear_all {v : St} {held : List UInt8} {n : Nat} (hs : held.length = 64) : seg (stCells v held n) 8 (bs (List.replicate 64 0)) = stCells v (List.replicate 64 0) n := by
  have h := stCells_held (v := v) (n := n) (r := 0) (xs := List.replicate 64 0) hs (by simp)
  have e : hput held 0 (List.replicate 64 0) = List.replicate 64 0 := by
    unfold hput
    rw [List.take_zero, List.nil_append, List.drop_eq_nil_of_le (by simp; omega), List.append_nil]
  rw [e] at h
  exact h
theorem bs_zeros (n : Nat) : List.replicate n (Value.int .u8 0) = bs (List.replicate n 0) := by simp [bs]

theorem sum_two (w : World) (a b : Obj) : Below w.heap.size w ((w.alloc a).alloc b) := (below_new w a).alloc (by rw [size_alloc]; omega) b
theorem rep_parts {m : List UInt8} {L : Nat} {cs : List Value} (hL : L = m.length) (h : HRep (m ++ (⟨#[128]⟩ : ByteArray).data.toList) cs) :
    ∃ held v, Holds (m ++ [128]) held ∧ v = hv (m ++ [128]) ∧ cs = stCells v held (L + 1) := by
  obtain ⟨held, hh, rfl⟩ := h
  refine ⟨held, _, hh, rfl, ?_⟩
  have : (m ++ (⟨#[128]⟩ : ByteArray).data.toList).length = L + 1 := by rw [hL]; simp
  rw [this]
theorem len_val {m : List UInt8} {L : Nat} (hL : L = m.length) (i : Nat) : (L : Int) * 8 / 2 ^ (8 * i) % 256 = ((UInt8.ofNat (8 * m.length / 2 ^ (8 * i))).toNat : Int) := by
  rw [byte_val, hL, Int.mul_comm]; simp
theorem blk_set_st {w : World} {g : Nat} {v : St} {held : List UInt8} {n : Nat} (h : Blk w g 88 (stCells v held n).toArray) (hh : held.length = 64) (j : Nat) (c : UInt8) (hj : j < 64) :
    Blk (w.setCell ⟨g, 8 + j, none⟩ (.int .u8 (c.toNat : Int))) g 88 (stCells v (held.set j c) n).toArray := by
  have h1 := h.set_ (8 + j) (.int .u8 (c.toNat : Int))
  rw [← stCells_set j c hh hj]
  simpa using h1
/-- What Sum has laid before it writes the length. -/
structure SumAt (w wr : World) (m M held : List UInt8) (n : Nat) : Prop where
  pre : Pre m M held
  blk : Blk wr w.heap.size 88 (stCells (hv M) held n).toArray
  out : Blk wr (w.heap.size + 1) 92 (bs (List.replicate 32 0)).toArray
  below : Below w.heap.size w wr

set_option maxRecDepth 100000 in
set_option maxHeartbeats 2000000 in
theorem ssum (m : List UInt8) (cs : List Value) (w : World) (hk : KT 1 w) (hr : HRep m cs) (hl : m.length ≤ 1099511627776) :
    Calls Tryd.prog 57 #[.agg cs.toArray] w fun e w' => e = .returned (.agg (bs (sha m)).toArray) ∧ Below w.heap.size w w' := by
  obtain ⟨held0, hh0, rfl⟩ := hr
  obtain ⟨L, hL⟩ : ∃ L, L = m.length := ⟨_, rfl⟩
  rw [← hL] at hl ⊢
  obtain ⟨v0, hv0⟩ : ∃ v0, v0 = hv m := ⟨_, rfl⟩
  rw [← hv0]
  have hs73 : (Tryd.prog.info? 88).map (·.size) = some (stCells v0 held0 L).toArray.size := by rw [Tryd.size88]; simp [stCells_length hh0.size]
  have HS73 := Lib.hid hs73
  have C72 : ∀ z : Array Value, ((w.alloc (.cells (stCells v0 held0 L).toArray 88)).alloc (.cells z 92)).cell? ⟨w.heap.size, 72, none⟩ = some (.int .u64 (L : Int)) := fun z =>
    (Blk.cell ((Blk.new w 88 _).alloc _) 72).trans (by simpa using stCells_72 hh0.size)
  have hrep : HRep m (stCells v0 held0 L) := ⟨held0, hh0, by rw [hv0, hL]⟩
  have HREP := Lib.hid hrep
  have HK := Lib.hid hk
  have HL := Lib.hid hL
  have HH0 := Lib.hid hh0
  clear hs73 hrep hk hL hv0 hh0
  have hsl : ∀ W, (Instr.sliceAt 85 (.pointer (some ⟨w.heap.size, 8, none⟩)) (some (.int .u64 (((L : Int) + 1) % 64))) none none).run Tryd.prog W = .ok (.slice (some ⟨w.heap.size, 8 + (L + 1) % 64, none⟩) (64 - (L + 1) % 64) (64 - (L + 1) % 64)) W := fun W => by
    have := slice31 w.heap.size ((L + 1) % 64) (by omega) W
    simpa using this
  have hsa := slice31all w.heap.size
  by_cases he : (L + 1) % 64 ≤ 56
  · have t1 : decide (56 < ((L : Int) + 1) % 64) = false := by simp; omega
    have HE := Lib.hid he
    clear he
    go_enter Tryd.func57, Tryd.ntmps57
    go_wp2_with (first
      | (refine wpList_load_row rfl 88 (.tmp 1) rfl w.heap.size rfl 88 (stCells v0 held0 L).toArray (0, 0) _ ((Blk.new w 88 _).alloc _) Tryd.underlying88 rfl HS73.out ?_)
      | (go_at_call 55
         refine (add m (stCells v0 held0 L) ⟨#[128]⟩ _ (HK.out.below (sum_two w _ _)) HREP.out (by rw [← HL.out]; show L + 1 ≤ _; omega)).mono ?_
         rintro e w1 ⟨cs1, rfl, hrep1, hb1⟩
         obtain ⟨held1, v1, hh1, hv1, hcs1⟩ := rep_parts HL.out hrep1
         subst hcs1
         have HH1 := Lib.hid hh1
         have HV1 := Lib.hid hv1
         have HBK := Lib.hid (Blk.below ((Blk.new w 88 (stCells v0 held0 L).toArray).alloc _) hb1 (by simp only [size_alloc]; omega))
         have HBO := Lib.hid (Blk.below (Blk.new_at (w.alloc (.cells (stCells v0 held0 L).toArray 88)) 92 (n := w.heap.size + 1) (cs' := (bs (List.replicate 32 0)).toArray) (by simp only [size_alloc]) (by kernel_rfl)) hb1 (by simp only [size_alloc]; omega))
         have HB1 := Lib.hid ((sum_two w _ _).trans (hb1.mono (by simp only [size_alloc]; omega)))
         clear hh1 hv1 hrep1 hb1)
      | (refine wpList_store_row rfl 88 (.tmp 1) (.tmp 12) rfl w.heap.size (stCells v1 held1 (L + 1)).toArray rfl rfl 88 _ HBK.out (by rw [Tryd.size88]; simp [stCells_length HH1.out.size]) (by simp [stCells_length HH1.out.size, stCells_length HH0.out.size]) (all_oneCell_toArray (stCells_one _ _ _)) ?_
         generalize hw2 : World.setRow w1 _ _ = w2
         have HBK2 : Hid (Blk w2 w.heap.size 88 (stCells v1 held1 (L + 1)).toArray) := by rw [← hw2]; exact HBK.out.setRow _
         have HBO2 : Hid (Blk w2 (w.heap.size + 1) 92 (bs (List.replicate 32 0)).toArray) := by rw [← hw2]; exact HBO.out.setRow_far (by omega) _
         have HB2 : Hid (Below w.heap.size w w2) := by rw [← hw2]; exact below_setRow HB1.out (Nat.le_refl _) _
         have c72 : w2.cell? ⟨w.heap.size, 72, none⟩ = some (.int .u64 ((L : Int) + 1)) := (Blk.cell HBK2.out 72).trans (by simpa using stCells_72 (v := v1) (n := L + 1) HH1.out.size)
         clear hw2)
      | (refine wpList_clear_seg _ rfl (.tmp 18) 32 5 rfl Tryd.underlying32 (.int .u8 0) Tryd.zero5 rfl rfl w.heap.size (8 + (L + 1) % 64) (64 - (L + 1) % 64) (64 - (L + 1) % 64) rfl 88 _ HBK2.out (by rw [stCells_length HH1.out.size]; omega) ?_
         intro w3 hw3
         have HBK3 : Hid (Blk w3 w.heap.size 88 (stCells v1 (hput held1 ((L + 1) % 64) (List.replicate (64 - (L + 1) % 64) 0)) (L + 1)).toArray) := by
           rw [hw3, bs_zeros, stCells_held HH1.out.size (by simp; omega)]
           exact HBK2.out.setRow _
         have HBO3 : Hid (Blk w3 (w.heap.size + 1) 92 (bs (List.replicate 32 0)).toArray) := by rw [hw3]; exact HBO2.out.setRow_far (by omega) _
         have HB3 : Hid (Below w.heap.size w w3) := by rw [hw3]; exact below_setRow HB2.out (Nat.le_refl _) _
         clear hw3))
    obtain ⟨M, held, HP⟩ : ∃ M held, Hid (SumAt w w3 m M held (L + 1)) := by
      have hl1 : (m ++ [128]).length = L + 1 := by rw [HL.out]; simp
      have hp := pre_short HH1.out (by rw [hl1]; exact HE.out)
      rw [hl1] at hp
      exact ⟨_, _, hp, by rw [← HV1.out]; exact HBK3.out, HBO3.out, HB3.out⟩
    clear HBK HBO HB1 HBK2 HBO2 HB2 c72 HBK3 HBO3 HB3 HH1 HV1 HE t1
    obtain ⟨wl, hwl⟩ : ∃ wl, wl = w3 := ⟨_, rfl⟩
    subst hwl
    go_loopw [29] (fun i' wr => ∃ i : Nat, i ≤ 8 ∧ i' = .int .i64 i ∧ Hid (Blk wr w.heap.size 88 (stCells (hv M) (hlen held (8 * m.length) i) (L + 1)).toArray ∧ Blk wr (w.heap.size + 1) 92 (bs (List.replicate 32 0)).toArray ∧ Below w.heap.size w wr)) (fun i' _ => 8 - (intOf i').toNat)
    case atStart => exact ⟨0, by omega, rfl, by rw [hlen_zero HP.out.pre.holds.size]; exact HP.out.blk, HP.out.out, HP.out.below⟩
    case round =>
      obtain ⟨i, hi8, rfl, hh⟩ := hrel
      have hls : (hlen held (8 * m.length) i).length = 64 := hlen_length HP.out.pre.holds.size hi8
      have HLS := Lib.hid hls
      clear hls
      by_cases hlt : i < 8
      · have hc := (Blk.cell hh.out.1 (8 + (63 - i))).trans (by simpa using stCells_get_held HLS.out (63 - i) (by omega))
        have hf := Blk.frozen hh.out.1 (8 + (63 - i))
        have a1 : IntKind.i64.wrap (8 * (i : Int)) = 8 * (i : Int) := IntWalk.i64_in _ (by omega)
        have a2 : IntKind.i64.wrap (63 - (i : Int)) = 63 - (i : Int) := IntWalk.i64_in _ (by omega)
        have a3 : (63 - (i : Int)).toNat = 63 - i := by omega
        have a4 : (8 * (i : Int)).toNat = 8 * i := by omega
        have a5 : 0 ≤ 63 - (i : Int) := by omega
        go_wp2
        go_roundw
        case rel =>
          rw [len_val HL.out i]
          exact ⟨i + 1, by omega, by go_num, by rw [← hlen_step HP.out.pre.holds.size hlt]; exact blk_set_st hh.out.1 HLS.out (63 - i) _ (by omega), hh.out.2.1.far (by simp) _, hh.out.2.2.setCell (Nat.le_refl _) _⟩
        case measure => simp [intOf]; omega
      · have hie : i = 8 := by omega
        have HI := Lib.hid hie
        have hge : 8 ≤ i := by omega
        clear hlt hi8 hie
        obtain ⟨wo, hwo⟩ : ∃ wo : World, wo = wr := ⟨_, rfl⟩
        subst hwo
        obtain ⟨vM, hvM⟩ : ∃ vM, vM = hv M := ⟨_, rfl⟩
        obtain ⟨hd, hhd⟩ : ∃ hd, hd = hlen held (8 * m.length) i := ⟨_, rfl⟩
        rw [← hvM, ← hhd] at hh
        rw [← hhd] at HLS
        have HVM := Lib.hid hvM
        have HHD := Lib.hid hhd
        clear hvM hhd
        obtain ⟨vF, hvF⟩ : ∃ vF, vF = comp vM hd := ⟨_, rfl⟩
        have HVF := Lib.hid hvF
        clear hvF
        go_wp2_with (first
          | (refine wpList_load_seg _ rfl 84 (.tmp 42) rfl w.heap.size 0 8 rfl 88 _ _ hh.out.1 Tryd.underlying84 rfl Tryd.size84 (by rw [stCells_length HLS.out]; omega) ?_; rw [stCells_take])
          | (refine wpList_load_seg _ rfl 85 (.tmp 44) rfl w.heap.size 8 64 rfl 88 _ _ hh.out.1 Tryd.underlying85 rfl Tryd.size85 (by rw [stCells_length HLS.out]; omega) ?_; rw [stCells_mid HLS.out])
          | (go_at_call 72; refine (compress vM hd HLS.out _ (HK.out.below hh.out.2.2)).mono ?_; rintro e w7 ⟨rfl, hb7⟩; have HB7 := Lib.hid hb7; clear hb7; rw [← HVF.out])
          | (refine wpList_store_seg _ rfl 84 (.tmp 47) (.tmp 46) rfl w.heap.size 0 (ws vF.list) rfl rfl 88 _ (hh.out.1.below HB7.out hh.out.1.lt) Tryd.size84 (by rw [stCells_length HLS.out]; simp [ws, St.list]) (ws_one _) ?_
             intro w8 hw8
             have HB8 : Hid (Blk w8 w.heap.size 88 (stCells vF hd (L + 1)).toArray) := by
               rw [hw8, stCells_val]
               exact (hh.out.1.below HB7.out hh.out.1.lt).setRow _
             have HO8 : Hid (Blk w8 (w.heap.size + 1) 92 (bs (List.replicate 32 0)).toArray) := by rw [hw8]; exact (hh.out.2.1.below HB7.out hh.out.2.1.lt).setRow_far (by omega) _
             have HD8 : Hid (Below w.heap.size w w8) := by rw [hw8]; exact below_setRow (hh.out.2.2.trans (HB7.out.mono hh.out.2.2.size)) (Nat.le_refl _) _
             clear hw8))
        go_loopw [48] (fun i' wr => ∃ i : Nat, i ≤ 32 ∧ i' = .int .i64 i ∧ Hid (Below w8.heap.size w8 wr ∧ Blk wr w8.heap.size 92 (bs (outUp vF i)).toArray)) (fun i' _ => 32 - (intOf i').toNat)
        case atStart => exact ⟨0, by omega, rfl, below_new _ _, Blk.new_at _ 92 rfl (by rw [outUp_zero]; kernel_rfl)⟩
        case round =>
          clear hh
          obtain ⟨i, hi32, rfl, hh⟩ := hrel
          by_cases hlt : i < 32
          · have hc := (Blk.cell (HB8.out.below hh.out.1 HB8.out.lt) (i / 4)).trans (show (stCells vF hd (L + 1)).toArray[i / 4]? = some (W32 (vF.at (i / 4))) by simpa using stCells_get_val (i / 4) (by omega))
            have hc2 := (Blk.cell hh.out.2 i).trans (by simpa using bs_get' (outUp_get vF i hlt))
            have hf := Blk.frozen hh.out.2 i
            have a1 : IntKind.i64.wrap (8 * ((i : Int) % 4)) = 8 * ((i : Int) % 4) := IntWalk.i64_in _ (by omega)
            have a2 : IntKind.i64.wrap (24 - 8 * ((i : Int) % 4)) = 24 - 8 * ((i : Int) % 4) := IntWalk.i64_in _ (by omega)
            have a3 : (24 - 8 * ((i : Int) % 4)).toNat = 24 - 8 * (i % 4) := by omega
            have a4 : 0 ≤ 24 - 8 * ((i : Int) % 4) := by omega
            go_wp2
            go_roundw
            case rel =>
              rw [out_byte vF i _ rfl]
              exact ⟨i + 1, by omega, by go_num, hh.out.1.setCell (Nat.le_refl _) _, by rw [← outUp_step vF i hlt]; exact blk_setB hh.out.2 i _⟩
            case measure => simp [intOf]; omega
          · have hie : i = 32 := by omega
            have HI2 := Lib.hid hie
            have hge2 : 32 ≤ i := by omega
            clear hlt hi32 hie
            have hl24 : (Tryd.prog.info? 92).map (·.size) = some (bs (outUp vF i)).toArray.size := by rw [Tryd.size92]; simp [bs, outUp]
            have HS24 := Lib.hid hl24
            clear hl24
            go_wp2_with (first
              | (refine wpList_load_row rfl 92 (.tmp 6) rfl w8.heap.size rfl 92 (bs (outUp vF i)).toArray (0, 0) _ hh.out.2 Tryd.underlying92 rfl HS24.out ?_)
              | (refine wpList_store_row rfl 92 (.tmp 2) (.tmp 65) rfl (w.heap.size + 1) (bs (outUp vF i)).toArray rfl rfl 92 _ (HO8.out.below hh.out.1 HO8.out.lt) HS24.out (by simp [bs, outUp]) (all_oneCell_toArray (bs_one _)) ?_))
            refine bodyPost_ret (results_cell_row Tryd.results57 _ _ (w.heap.size + 1) 92 (bs (outUp vF i)).toArray (0, 0) _ rfl ((HO8.out.below hh.out.1 HO8.out.lt).setRow _) Tryd.underlying92 rfl HS24.out) rfl ⟨?_, below_setRow (HD8.out.trans (hh.out.1.mono HD8.out.size)) (by omega) _⟩
            rw [HI2.out, outUp_done, sha_hv, HVF.out, HVM.out, HHD.out, HI.out, pre_done HP.out.pre]
  · have t1 : decide (56 < ((L : Int) + 1) % 64) = true := by simp; omega
    have HE := Lib.hid (show 56 < (L + 1) % 64 by omega)
    clear he
    go_enter Tryd.func57, Tryd.ntmps57
    go_wp2_with (first
      | (refine wpList_load_row rfl 88 (.tmp 1) rfl w.heap.size rfl 88 (stCells v0 held0 L).toArray (0, 0) _ ((Blk.new w 88 _).alloc _) Tryd.underlying88 rfl HS73.out ?_)
      | (go_at_call 55
         refine (add m (stCells v0 held0 L) ⟨#[128]⟩ _ (HK.out.below (sum_two w _ _)) HREP.out (by rw [← HL.out]; show L + 1 ≤ _; omega)).mono ?_
         rintro e w1 ⟨cs1, rfl, hrep1, hb1⟩
         obtain ⟨held1, v1, hh1, hv1, hcs1⟩ := rep_parts HL.out hrep1
         subst hcs1
         have HH1 := Lib.hid hh1
         have HV1 := Lib.hid hv1
         have HBK := Lib.hid (Blk.below ((Blk.new w 88 (stCells v0 held0 L).toArray).alloc _) hb1 (by simp only [size_alloc]; omega))
         have HBO := Lib.hid (Blk.below (Blk.new_at (w.alloc (.cells (stCells v0 held0 L).toArray 88)) 92 (n := w.heap.size + 1) (cs' := (bs (List.replicate 32 0)).toArray) (by simp only [size_alloc]) (by kernel_rfl)) hb1 (by simp only [size_alloc]; omega))
         have HB1 := Lib.hid ((sum_two w _ _).trans (hb1.mono (by simp only [size_alloc]; omega)))
         clear hh1 hv1 hrep1 hb1)
      | (refine wpList_store_row rfl 88 (.tmp 1) (.tmp 12) rfl w.heap.size (stCells v1 held1 (L + 1)).toArray rfl rfl 88 _ HBK.out (by rw [Tryd.size88]; simp [stCells_length HH1.out.size]) (by simp [stCells_length HH1.out.size, stCells_length HH0.out.size]) (all_oneCell_toArray (stCells_one _ _ _)) ?_
         generalize hw2 : World.setRow w1 _ _ = w2
         have HBK2 : Hid (Blk w2 w.heap.size 88 (stCells v1 held1 (L + 1)).toArray) := by rw [← hw2]; exact HBK.out.setRow _
         have HBO2 : Hid (Blk w2 (w.heap.size + 1) 92 (bs (List.replicate 32 0)).toArray) := by rw [← hw2]; exact HBO.out.setRow_far (by omega) _
         have HB2 : Hid (Below w.heap.size w w2) := by rw [← hw2]; exact below_setRow HB1.out (Nat.le_refl _) _
         have c72 : w2.cell? ⟨w.heap.size, 72, none⟩ = some (.int .u64 ((L : Int) + 1)) := (Blk.cell HBK2.out 72).trans (by simpa using stCells_72 (v := v1) (n := L + 1) HH1.out.size)
         clear hw2)
      | (refine wpList_clear_seg _ rfl (.tmp 18) 32 5 rfl Tryd.underlying32 (.int .u8 0) Tryd.zero5 rfl rfl w.heap.size (8 + (L + 1) % 64) (64 - (L + 1) % 64) (64 - (L + 1) % 64) rfl 88 _ HBK2.out (by rw [stCells_length HH1.out.size]; omega) ?_
         intro w3 hw3
         have HBK3 : Hid (Blk w3 w.heap.size 88 (stCells v1 (hput held1 ((L + 1) % 64) (List.replicate (64 - (L + 1) % 64) 0)) (L + 1)).toArray) := by
           rw [hw3, bs_zeros, stCells_held HH1.out.size (by simp; omega)]
           exact HBK2.out.setRow _
         have HSH : Hid ((hput held1 ((L + 1) % 64) (List.replicate (64 - (L + 1) % 64) 0)).length = 64) := hput_length HH1.out.size (by simp; omega)
         have HBO3 : Hid (Blk w3 (w.heap.size + 1) 92 (bs (List.replicate 32 0)).toArray) := by rw [hw3]; exact HBO2.out.setRow_far (by omega) _
         have HB3 : Hid (Below w.heap.size w w3) := by rw [hw3]; exact below_setRow HB2.out (Nat.le_refl _) _
         clear hw3)
      | (refine wpList_load_seg _ rfl 84 (.tmp 21) rfl w.heap.size 0 8 rfl 88 _ _ HBK3.out Tryd.underlying84 rfl Tryd.size84 (by rw [stCells_length HSH.out]; omega) ?_; rw [stCells_take])
      | (refine wpList_load_seg _ rfl 85 (.tmp 23) rfl w.heap.size 8 64 rfl 88 _ _ HBK3.out Tryd.underlying85 rfl Tryd.size85 (by rw [stCells_length HSH.out]; omega) ?_; rw [stCells_mid HSH.out])
      | (go_at_call 72; refine (compress v1 (hput held1 ((L + 1) % 64) (List.replicate (64 - (L + 1) % 64) 0)) HSH.out _ (HK.out.below HB3.out)).mono ?_; rintro e w4 ⟨rfl, hb4⟩; have HB4 := Lib.hid hb4; clear hb4)
      | (refine wpList_store_seg _ rfl 84 (.tmp 26) (.tmp 25) rfl w.heap.size 0 (ws (comp v1 (hput held1 ((L + 1) % 64) (List.replicate (64 - (L + 1) % 64) 0))).list) rfl rfl 88 _ (HBK3.out.below HB4.out HBK3.out.lt) Tryd.size84 (by rw [stCells_length HSH.out]; simp [ws, St.list]) (ws_one _) ?_
         intro w5 hw5
         have HBK5 : Hid (Blk w5 w.heap.size 88 (stCells (comp v1 (hput held1 ((L + 1) % 64) (List.replicate (64 - (L + 1) % 64) 0))) (hput held1 ((L + 1) % 64) (List.replicate (64 - (L + 1) % 64) 0)) (L + 1)).toArray) := by
           rw [hw5, stCells_val]
           exact (HBK3.out.below HB4.out HBK3.out.lt).setRow _
         have HBO5 : Hid (Blk w5 (w.heap.size + 1) 92 (bs (List.replicate 32 0)).toArray) := by rw [hw5]; exact (HBO3.out.below HB4.out HBO3.out.lt).setRow_far (by omega) _
         have HB5 : Hid (Below w.heap.size w w5) := by rw [hw5]; exact below_setRow (HB3.out.trans (HB4.out.mono HB3.out.size)) (Nat.le_refl _) _
         clear hw5)
      | (refine wpList_clear_seg _ rfl (.tmp 28) 32 5 rfl Tryd.underlying32 (.int .u8 0) Tryd.zero5 rfl rfl w.heap.size 8 64 64 rfl 88 _ HBK5.out (by rw [stCells_length HSH.out]; omega) ?_
         intro w6 hw6
         have HBK6 : Hid (Blk w6 w.heap.size 88 (stCells (comp v1 (hput held1 ((L + 1) % 64) (List.replicate (64 - (L + 1) % 64) 0))) (List.replicate 64 0) (L + 1)).toArray) := by
           rw [hw6, bs_zeros, clear_all HSH.out]
           exact HBK5.out.setRow _
         have HBO6 : Hid (Blk w6 (w.heap.size + 1) 92 (bs (List.replicate 32 0)).toArray) := by rw [hw6]; exact HBO5.out.setRow_far (by omega) _
         have HB6 : Hid (Below w.heap.size w w6) := by rw [hw6]; exact below_setRow HB5.out (Nat.le_refl _) _
         clear hw6))
    obtain ⟨M, held, HP⟩ : ∃ M held, Hid (SumAt w w6 m M held (L + 1)) := by
      have hl1 : (m ++ [128]).length = L + 1 := by rw [HL.out]; simp
      have hp := pre_long HH1.out (by rw [hl1]; exact HE.out)
      rw [hl1] at hp
      refine ⟨_, _, hp.1, ?_, HBO6.out, HB6.out⟩
      rw [hp.2, ← HV1.out]; exact HBK6.out
    clear HBK HBO HB1 HBK2 HBO2 HB2 c72 HBK3 HBO3 HB3 HH1 HV1 HE t1 HB4 HBK5 HBO5 HB5 HBK6 HBO6 HB6 HSH
    obtain ⟨wl, hwl⟩ : ∃ wl, wl = w6 := ⟨_, rfl⟩
    subst hwl
    go_loopw [29] (fun i' wr => ∃ i : Nat, i ≤ 8 ∧ i' = .int .i64 i ∧ Hid (Blk wr w.heap.size 88 (stCells (hv M) (hlen held (8 * m.length) i) (L + 1)).toArray ∧ Blk wr (w.heap.size + 1) 92 (bs (List.replicate 32 0)).toArray ∧ Below w.heap.size w wr)) (fun i' _ => 8 - (intOf i').toNat)
    case atStart => exact ⟨0, by omega, rfl, by rw [hlen_zero HP.out.pre.holds.size]; exact HP.out.blk, HP.out.out, HP.out.below⟩
    case round =>
      obtain ⟨i, hi8, rfl, hh⟩ := hrel
      have hls : (hlen held (8 * m.length) i).length = 64 := hlen_length HP.out.pre.holds.size hi8
      have HLS := Lib.hid hls
      clear hls
      by_cases hlt : i < 8
      · have hc := (Blk.cell hh.out.1 (8 + (63 - i))).trans (by simpa using stCells_get_held HLS.out (63 - i) (by omega))
        have hf := Blk.frozen hh.out.1 (8 + (63 - i))
        have a1 : IntKind.i64.wrap (8 * (i : Int)) = 8 * (i : Int) := IntWalk.i64_in _ (by omega)
        have a2 : IntKind.i64.wrap (63 - (i : Int)) = 63 - (i : Int) := IntWalk.i64_in _ (by omega)
        have a3 : (63 - (i : Int)).toNat = 63 - i := by omega
        have a4 : (8 * (i : Int)).toNat = 8 * i := by omega
        have a5 : 0 ≤ 63 - (i : Int) := by omega
        go_wp2
        go_roundw
        case rel =>
          rw [len_val HL.out i]
          exact ⟨i + 1, by omega, by go_num, by rw [← hlen_step HP.out.pre.holds.size hlt]; exact blk_set_st hh.out.1 HLS.out (63 - i) _ (by omega), hh.out.2.1.far (by simp) _, hh.out.2.2.setCell (Nat.le_refl _) _⟩
        case measure => simp [intOf]; omega
      · have hie : i = 8 := by omega
        have HI := Lib.hid hie
        have hge : 8 ≤ i := by omega
        clear hlt hi8 hie
        obtain ⟨wo, hwo⟩ : ∃ wo : World, wo = wr := ⟨_, rfl⟩
        subst hwo
        obtain ⟨vM, hvM⟩ : ∃ vM, vM = hv M := ⟨_, rfl⟩
        obtain ⟨hd, hhd⟩ : ∃ hd, hd = hlen held (8 * m.length) i := ⟨_, rfl⟩
        rw [← hvM, ← hhd] at hh
        rw [← hhd] at HLS
        have HVM := Lib.hid hvM
        have HHD := Lib.hid hhd
        clear hvM hhd
        obtain ⟨vF, hvF⟩ : ∃ vF, vF = comp vM hd := ⟨_, rfl⟩
        have HVF := Lib.hid hvF
        clear hvF
        go_wp2_with (first
          | (refine wpList_load_seg _ rfl 84 (.tmp 42) rfl w.heap.size 0 8 rfl 88 _ _ hh.out.1 Tryd.underlying84 rfl Tryd.size84 (by rw [stCells_length HLS.out]; omega) ?_; rw [stCells_take])
          | (refine wpList_load_seg _ rfl 85 (.tmp 44) rfl w.heap.size 8 64 rfl 88 _ _ hh.out.1 Tryd.underlying85 rfl Tryd.size85 (by rw [stCells_length HLS.out]; omega) ?_; rw [stCells_mid HLS.out])
          | (go_at_call 72; refine (compress vM hd HLS.out _ (HK.out.below hh.out.2.2)).mono ?_; rintro e w7 ⟨rfl, hb7⟩; have HB7 := Lib.hid hb7; clear hb7; rw [← HVF.out])
          | (refine wpList_store_seg _ rfl 84 (.tmp 47) (.tmp 46) rfl w.heap.size 0 (ws vF.list) rfl rfl 88 _ (hh.out.1.below HB7.out hh.out.1.lt) Tryd.size84 (by rw [stCells_length HLS.out]; simp [ws, St.list]) (ws_one _) ?_
             intro w8 hw8
             have HB8 : Hid (Blk w8 w.heap.size 88 (stCells vF hd (L + 1)).toArray) := by
               rw [hw8, stCells_val]
               exact (hh.out.1.below HB7.out hh.out.1.lt).setRow _
             have HO8 : Hid (Blk w8 (w.heap.size + 1) 92 (bs (List.replicate 32 0)).toArray) := by rw [hw8]; exact (hh.out.2.1.below HB7.out hh.out.2.1.lt).setRow_far (by omega) _
             have HD8 : Hid (Below w.heap.size w w8) := by rw [hw8]; exact below_setRow (hh.out.2.2.trans (HB7.out.mono hh.out.2.2.size)) (Nat.le_refl _) _
             clear hw8))
        go_loopw [48] (fun i' wr => ∃ i : Nat, i ≤ 32 ∧ i' = .int .i64 i ∧ Hid (Below w8.heap.size w8 wr ∧ Blk wr w8.heap.size 92 (bs (outUp vF i)).toArray)) (fun i' _ => 32 - (intOf i').toNat)
        case atStart => exact ⟨0, by omega, rfl, below_new _ _, Blk.new_at _ 92 rfl (by rw [outUp_zero]; kernel_rfl)⟩
        case round =>
          clear hh
          obtain ⟨i, hi32, rfl, hh⟩ := hrel
          by_cases hlt : i < 32
          · have hc := (Blk.cell (HB8.out.below hh.out.1 HB8.out.lt) (i / 4)).trans (show (stCells vF hd (L + 1)).toArray[i / 4]? = some (W32 (vF.at (i / 4))) by simpa using stCells_get_val (i / 4) (by omega))
            have hc2 := (Blk.cell hh.out.2 i).trans (by simpa using bs_get' (outUp_get vF i hlt))
            have hf := Blk.frozen hh.out.2 i
            have a1 : IntKind.i64.wrap (8 * ((i : Int) % 4)) = 8 * ((i : Int) % 4) := IntWalk.i64_in _ (by omega)
            have a2 : IntKind.i64.wrap (24 - 8 * ((i : Int) % 4)) = 24 - 8 * ((i : Int) % 4) := IntWalk.i64_in _ (by omega)
            have a3 : (24 - 8 * ((i : Int) % 4)).toNat = 24 - 8 * (i % 4) := by omega
            have a4 : 0 ≤ 24 - 8 * ((i : Int) % 4) := by omega
            go_wp2
            go_roundw
            case rel =>
              rw [out_byte vF i _ rfl]
              exact ⟨i + 1, by omega, by go_num, hh.out.1.setCell (Nat.le_refl _) _, by rw [← outUp_step vF i hlt]; exact blk_setB hh.out.2 i _⟩
            case measure => simp [intOf]; omega
          · have hie : i = 32 := by omega
            have HI2 := Lib.hid hie
            have hge2 : 32 ≤ i := by omega
            clear hlt hi32 hie
            have hl24 : (Tryd.prog.info? 92).map (·.size) = some (bs (outUp vF i)).toArray.size := by rw [Tryd.size92]; simp [bs, outUp]
            have HS24 := Lib.hid hl24
            clear hl24
            go_wp2_with (first
              | (refine wpList_load_row rfl 92 (.tmp 6) rfl w8.heap.size rfl 92 (bs (outUp vF i)).toArray (0, 0) _ hh.out.2 Tryd.underlying92 rfl HS24.out ?_)
              | (refine wpList_store_row rfl 92 (.tmp 2) (.tmp 65) rfl (w.heap.size + 1) (bs (outUp vF i)).toArray rfl rfl 92 _ (HO8.out.below hh.out.1 HO8.out.lt) HS24.out (by simp [bs, outUp]) (all_oneCell_toArray (bs_one _)) ?_))
            refine bodyPost_ret (results_cell_row Tryd.results57 _ _ (w.heap.size + 1) 92 (bs (outUp vF i)).toArray (0, 0) _ rfl ((HO8.out.below hh.out.1 HO8.out.lt).setRow _) Tryd.underlying92 rfl HS24.out) rfl ⟨?_, below_setRow (HD8.out.trans (hh.out.1.mono HD8.out.size)) (by omega) _⟩
            rw [HI2.out, outUp_done, sha_hv, HVF.out, HVM.out, HHD.out, HI.out, pre_done HP.out.pre]
end Go.Proofs.YtbdknncmlcbbpaaDoor
