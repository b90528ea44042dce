/-
  hash.Begin and (Stream).Add.
-/
import Derived.Test.YtbdknncmlcbbpaaDoorG26
set_option linter.unusedVariables false
namespace Go.Proofs.YtbdknncmlcbbpaaDoor
open Go.RowKit

/-- 'copy' of a string into a part of a block of bytes, as much as fits. -/
theorem wpList_copy_str {P : Program} (w : World) {ops : Array Oper} {rest : List Oper} {op : Oper} {a : Act} {Q : Exit → Act → World → Prop} (hgd : op.guard = none) (x y : Operand) (dT sT e : TypeId)
    (ho : op.op = .call { callee := .builtin .copy, args := #[x, y], argTypes := #[dT, sT] }) (ht : P.underlying dT = some (.slice e)) (hs : (P.info? e).map (·.size) = some 1)
    (g o n c : Nat) (hx : a.eval x = .slice (some ⟨g, o, none⟩) n c) (s : ByteArray) (hy : a.eval y = .string s) (k : Nat) (hk : k = min s.size n) (t : TypeId) (cs : List Value) (hg : Blk w g t cs.toArray) (hfit : o + k ≤ cs.length)
    (h : ∀ w1, w1 = w.setRow g (seg cs o (bs (s.data.toList.take k))).toArray → wpList P ops Q rest (a.put op.dst (.int .i64 (k : Int))) w1) : wpList P ops Q (op :: rest) a w := by
  refine wpList_plain hgd fun _ hK => ?_
  have hl : (bs (s.data.toList.take k)).length = k := by rw [bs_length, List.length_take, hk]; simp
  have hst := run_storeCells_at P g o t (bs (s.data.toList.take k)) 0 cs.toArray w hg (by rw [hl]; simpa using hfit) (bs_one _)
  simp only [Nat.add_zero] at hst
  have htk : List.take k (List.map (fun b : UInt8 => Value.int IntKind.u8 (b.toNat : Int)) s.data.toList) = bs (s.data.toList.take k) := by
    simp [bs, List.map_take]
  have hmin : Nat.min s.size n = k := hk.symm
  have hr : (Builtin.copy_ #[dT, sT] op.type #[.slice (some ⟨g, o, none⟩) n c, .string s]).run P w = .ok (.int .i64 (k : Int)) (w.setRow g (seg cs o (bs (s.data.toList.take k))).toArray) := by
    cases hq : P.info? e with
    | none => simp [hq] at hs
    | some i =>
      simp [Builtin.copy_, run_underlying ht, Builtin.lenOf, Builtin.firstCells, sizeOf, typeInfo, hq, hmin]
      rw [htk, hst]
      simp [Result.andThen, seg, goInt]
  unfold Oper.wp execOp
  simp only [ho, resolve, invoke, builtin, Sem.run_bind, Sem.run_pure, Result.andThen_ok, List.map_toArray, List.map_cons, List.map_nil, hx, hy, hr]
  exact hK _ _ (h _ rfl)

/-- The zero Stream. -/
def z34 : List Value := stCells ⟨0#32, 0#32, 0#32, 0#32, 0#32, 0#32, 0#32, 0#32⟩ (List.replicate 64 0) 0
theorem z34_length : z34.length = 73 := stCells_length rfl
theorem Tryd.zero88 (W : World) : (zeroValue 88).run Tryd.prog W = .ok (.agg z34.toArray) W := by kernel_rfl
def begun : List Value := (((((((z34.set 0 (.int .u32 1779033703)).set 1 (.int .u32 3144134277)).set 2 (.int .u32 1013904242)).set 3 (.int .u32 2773480762)).set 4 (.int .u32 1359893119)).set 5 (.int .u32 2600822924)).set 6 (.int .u32 528734635)).set 7 (.int .u32 1541459225)
theorem begun_eq : begun = stCells iv (List.replicate 64 0) 0 := by kernel_rfl
theorem begun_one : ∀ u ∈ begun, u.oneCell' = true := by rw [begun_eq]; exact stCells_one _ _ _
theorem begun_length : begun.length = 73 := by rw [begun_eq]; exact stCells_length rfl
set_option maxRecDepth 100000 in
set_option maxHeartbeats 400000 in
theorem begin_ (w : World) : Calls Tryd.prog 54 #[] w fun e w' => ∃ cs, e = .returned (.agg cs.toArray) ∧ HRep [] cs ∧ Below w.heap.size w w' := by
  have hs : (Tryd.prog.info? 88).map (·.size) = some begun.toArray.size := by rw [Tryd.size88]; simp [begun_length]
  have HS := Lib.hid hs
  clear hs
  have hz := Tryd.zero88
  go_enter Tryd.func54, Tryd.ntmps54
  go_wp2_with (refine wpList_store_row rfl 88 (.tmp 0) (.tmp 2) rfl w.heap.size begun.toArray rfl rfl 88 z34.toArray (Blk.new w 88 _) HS.out (by simp [begun_length, z34_length]) (all_oneCell_toArray begun_one) ?_)
  refine bodyPost_ret (results_cell_row Tryd.results54 _ _ w.heap.size 88 begun.toArray (0, 0) _ rfl ((Blk.new w 88 _).setRow _) Tryd.underlying88 rfl HS.out) rfl ⟨begun, rfl, by rw [begun_eq]; exact rep_begin, below_setRow (below_new _ _) (Nat.le_refl _) _⟩

/-- Where the held bytes go on. -/
theorem slice31 (g r : Nat) (hr : r < 64) (W : World) : (Instr.sliceAt 85 (.pointer (some ⟨g, 8, none⟩)) (some (.int .u64 (r : Int))) none none).run Tryd.prog W = .ok (.slice (some ⟨g, 8 + r, none⟩) (64 - r) (64 - r)) W := by
  have a1 : Tryd.prog.underlying 85 = some (.array (Tryd.prog.arrayLen 85) (Tryd.prog.elem 85)) := by kernel_rfl
  have a2 : Tryd.prog.arrayLen 85 = 64 := by kernel_rfl
  have a3 : Tryd.prog.elem 85 = 5 := by kernel_rfl
  rw [run_sliceAt_array_l W 85 ⟨g, 8, none⟩ a1 .u64 r (by omega) (by rw [a2]; omega), a3, Tryd.sz5, a2]
  have h64 : ¬ 64 = r := by omega
  simp [slicedAt, Addr.add, h64]

theorem extract_drop (s : ByteArray) (k : Nat) : (s.extract k s.size).data.toList = s.data.toList.drop k := by
  have h3 : s.size = s.data.size := rfl
  simp
  exact List.take_of_length_le (by rw [List.length_drop, Array.length_toList, ← h3]; omega)
theorem Tryd.size5 : (Tryd.prog.info? 5).map (·.size) = some 1 := by kernel_rfl
def strLen : Value → Nat
  | .string s => s.size
  | _ => 0
/-- What the loop of Add keeps. -/
structure AddAt (w wr : World) (m : List UInt8) (held : List UInt8) : Prop where
  holds : Holds m held
  blk : Blk wr w.heap.size 88 (stCells (hv m) held m.length).toArray
  out : Blk wr (w.heap.size + 1) 88 z34.toArray
  below : Below w.heap.size w wr
theorem AddAt.copied {w wr w1 : World} {m held : List UInt8} {v : St} {L k : Nat} {s : ByteArray} (h : AddAt w wr m held) (hv' : v = hv m) (hL : L = m.length) (hs : held.length = 64) (hk : L % 64 + k ≤ 64) (hk2 : k ≤ s.size)
    (hw : w1 = wr.setRow w.heap.size (seg (stCells v held L) (8 + L % 64) (bs (s.data.toList.take k))).toArray) :
    Blk w1 w.heap.size 88 (stCells v (hput held (L % 64) (s.data.toList.take k)) L).toArray ∧ w1.cell? ⟨w.heap.size, 72, none⟩ = some (.int .u64 (L : Int)) ∧ w1.frozen? ⟨w.heap.size, 72, none⟩ = false ∧ Blk w1 (w.heap.size + 1) 88 z34.toArray ∧ Below w.heap.size w w1 := by
  subst hv' hL
  have hl : (s.data.toList.take k).length = k := by
    have h3 : s.size = s.data.size := rfl
    simp; omega
  have hb : Blk w1 w.heap.size 88 (stCells (hv m) (hput held (m.length % 64) (s.data.toList.take k)) m.length).toArray := by
    rw [hw, ← stCells_held hs (by rw [hl]; exact hk)]
    exact h.blk.setRow _
  refine ⟨hb, (Blk.cell hb 72).trans (by simpa using stCells_72 (hput_length hs (by rw [hl]; exact hk))), Blk.frozen hb 72, ?_, ?_⟩
  · rw [hw]; exact h.out.setRow_far (by omega) _
  · rw [hw]; exact below_setRow h.below (Nat.le_refl _) _

theorem count72 {w1 : World} {g : Nat} {v : St} {held : List UInt8} {L k : Nat} (h : Blk w1 g 88 (stCells v held L).toArray) (hs : held.length = 64) :
    Blk (w1.setCell ⟨g, 72, none⟩ (.int .u64 ((L : Int) + (k : Int)))) g 88 (stCells v held (L + k)).toArray := by
  have h1 := h.set_ 72 (.int .u64 ((L : Int) + (k : Int)))
  have e : (stCells v held L).toArray.setIfInBounds 72 (.int .u64 ((L : Int) + (k : Int))) = (stCells v held (L + k)).toArray := by
    have := stCells_len (v := v) (n := L) (k := L + k) hs
    rw [← this]; simp
  rwa [e] at h1
set_option maxRecDepth 100000 in
set_option maxHeartbeats 1000000 in
theorem add (m : List UInt8) (cs : List Value) (s : ByteArray) (w : World) (hk : KT 1 w) (hr : HRep m cs) (hl : m.length + s.size ≤ 2199023255552) :
    Calls Tryd.prog 55 #[.agg cs.toArray, .string s] w fun e w' => ∃ cs', e = .returned (.agg cs'.toArray) ∧ HRep (m ++ s.data.toList) cs' ∧ Below w.heap.size w w' := by
  have HR := Lib.hid hr
  have HK := Lib.hid hk
  clear hr hk
  have hz := Tryd.zero88
  go_enter Tryd.func55, Tryd.ntmps55
  go_wp2
  go_loopw [1] (fun t wr => ∃ (d : List UInt8) (s' : ByteArray) (held : List UInt8), t = .string s' ∧ Hid (s.data.toList = d ++ s'.data.toList ∧ AddAt w wr (m ++ d) held)) (fun t _ => strLen t)
  case atStart =>
    obtain ⟨held, hh, rfl⟩ := HR.out
    exact ⟨[], s, held, rfl, rfl, by rw [List.append_nil]; exact hh, by rw [List.append_nil]; exact (Blk.new w 88 _).alloc _, Blk.new_at _ 88 (by simp) rfl, (below_new w _).alloc (by simp) _⟩
  case round =>
    clear HR
    obtain ⟨d, s', held, rfl, hh⟩ := hrel
    obtain ⟨L, hL⟩ : ∃ L, L = (m ++ d).length := ⟨_, rfl⟩
    have hLs : L + s'.size = m.length + s.size := by
      have h1 : s.data.toList.length = d.length + s'.data.toList.length := by rw [hh.out.1]; simp
      simp at h1
      have h2 : s.size = s.data.size := rfl
      have h3 : s'.size = s'.data.size := rfl
      rw [hL, List.length_append]; omega
    have hLb : L ≤ 2199023255552 := by omega
    have hsb : s'.size ≤ 2199023255552 := by omega
    obtain ⟨v, hv'⟩ : ∃ v, v = hv (m ++ d) := ⟨_, rfl⟩
    have HV := Lib.hid hv'
    have HL := Lib.hid hL
    have hs64 := hh.out.2.holds.size
    have hb0 : Blk wr w.heap.size 88 (stCells v held L).toArray := by rw [hv', hL]; exact hh.out.2.blk
    have hc72 : wr.cell? ⟨w.heap.size, 72, none⟩ = some (.int .u64 (L : Int)) := (Blk.cell hb0 72).trans (by simpa using stCells_72 hs64)
    have HB0 := Lib.hid hb0
    have HS64 := Lib.hid hs64
    clear hv' hL hs64 hb0 hLs
    by_cases hpos : 0 < s'.size
    · have hsl : ∀ W, (Instr.sliceAt 85 (.pointer (some ⟨w.heap.size, 8, none⟩)) (some (.int .u64 ((L : Int) % 64))) none none).run Tryd.prog W = .ok (.slice (some ⟨w.heap.size, 8 + L % 64, none⟩) (64 - L % 64) (64 - L % 64)) W := fun W => by
        have := slice31 w.heap.size (L % 64) (by omega) W
        simpa using this
      obtain ⟨k, hk⟩ : ∃ k, k = min s'.size (64 - L % 64) := ⟨_, rfl⟩
      have hk1 : k ≤ s'.size := by omega
      have hk2 : L % 64 + k ≤ 64 := by omega
      have HK1 := Lib.hid hk
      have hkl : (s'.data.toList.take k).length = k := by
        have h3 : s'.size = s'.data.size := rfl
        simp; omega
      have hsh : (hput held (L % 64) (s'.data.toList.take k)).length = 64 := hput_length HS64.out (by rw [hkl]; exact hk2)
      have HSH := Lib.hid hsh
      have HKL := Lib.hid hkl
      clear hsh hkl
      by_cases hfull : L % 64 + k = 64
      · have t1 : (((L : Int) + (k : Int)) % 64 == 0) = true := by simp; omega
        have t2 : ((L : Int) + (k : Int)) % 64 = 0 := by omega
        have HF := Lib.hid hfull
        clear hfull hk t2
        go_wp2_with (first
          | (refine wpList_copy_str _ rfl (.tmp 13) (.tmp 14) 32 9 5 rfl Tryd.underlying32 Tryd.size5 w.heap.size (8 + L % 64) (64 - L % 64) (64 - L % 64) rfl s' rfl k HK1.out 88 _ HB0.out (by rw [stCells_length HS64.out]; omega) ?_
             intro w1 hw1
             have HW1 := Lib.hid (AddAt.copied hh.out.2 HV.out HL.out HS64.out hk2 hk1 hw1)
             have c72 := HW1.out.2.1
             have f72 := HW1.out.2.2.1
             have HB2 := Lib.hid (count72 (k := k) HW1.out.1 HSH.out)
             have HD2 := Lib.hid (HW1.out.2.2.2.2.setCell (a := w) (B := w.heap.size) (p := ⟨w.heap.size, 72, none⟩) (Nat.le_refl _) (.int .u64 ((L : Int) + (k : Int))))
             have HO2 := Lib.hid (HW1.out.2.2.2.1.far (p := ⟨w.heap.size, 72, none⟩) (by simp) (.int .u64 ((L : Int) + (k : Int))))
             clear hw1)
          | (refine wpList_load_seg _ rfl 84 (.tmp 29) rfl w.heap.size 0 8 rfl 88 _ _ HB2.out Tryd.underlying84 rfl Tryd.size84 (by rw [stCells_length HSH.out]; omega) ?_; rw [stCells_take])
          | (refine wpList_load_seg _ rfl 85 (.tmp 31) rfl w.heap.size 8 64 rfl 88 _ _ HB2.out Tryd.underlying85 rfl Tryd.size85 (by rw [stCells_length HSH.out]; omega) ?_; rw [stCells_mid HSH.out])
          | (go_at_call 72; refine (compress v (hput held (L % 64) (s'.data.toList.take k)) HSH.out _ (HK.out.below HD2.out)).mono ?_; rintro e w2 ⟨rfl, hb2⟩; have HC2 := Lib.hid hb2; clear hb2)
          | (refine wpList_store_seg _ rfl 84 (.tmp 34) (.tmp 33) rfl w.heap.size 0 (ws (comp v (hput held (L % 64) (s'.data.toList.take k))).list) rfl rfl 88 _ (HB2.out.below HC2.out HB2.out.lt) Tryd.size84 (by rw [stCells_length HSH.out]; simp [ws, St.list]) (ws_one _) ?_; intro w3 hw3; have HW3 := Lib.hid hw3; clear hw3))
        go_frame
        go_roundw
        case rel =>
          refine ⟨d ++ s'.data.toList.take k, _, hput held (L % 64) (s'.data.toList.take k), rfl, ?_, ?_⟩
          · rw [extract_drop, hh.out.1, List.append_assoc, List.take_append_drop]
          · have hf := holds_full hh.out.2.holds (xs := s'.data.toList.take k) (by rw [← HL.out, HKL.out]; exact HF.out)
            rw [← HL.out, ← HV.out] at hf
            rw [← List.append_assoc]
            refine ⟨hf.1, ?_, ?_, ?_⟩
            · rw [hf.2, HW3.out, List.length_append, ← HL.out, HKL.out, ← stCells_val (v := v)]
              exact (HB2.out.below HC2.out HB2.out.lt).setRow _
            · rw [HW3.out]; exact (HO2.out.below HC2.out HO2.out.lt).setRow_far (by omega) _
            · rw [HW3.out]; exact below_setRow (HD2.out.trans (HC2.out.mono HD2.out.size)) (Nat.le_refl _) _
        case measure =>
          simp [strLen]
          have := HK1.out
          omega
      · have t1 : (((L : Int) + (k : Int)) % 64 == 0) = false := by simp; omega
        have hlt64 : L % 64 + k < 64 := by omega
        have HF := Lib.hid hlt64
        clear hfull hk hlt64
        go_wp2_with (first
          | (refine wpList_copy_str _ rfl (.tmp 13) (.tmp 14) 32 9 5 rfl Tryd.underlying32 Tryd.size5 w.heap.size (8 + L % 64) (64 - L % 64) (64 - L % 64) rfl s' rfl k HK1.out 88 _ HB0.out (by rw [stCells_length HS64.out]; omega) ?_
             intro w1 hw1
             have HW1 := Lib.hid (AddAt.copied hh.out.2 HV.out HL.out HS64.out hk2 hk1 hw1)
             have c72 := HW1.out.2.1
             have f72 := HW1.out.2.2.1
             have HB2 := Lib.hid (count72 (k := k) HW1.out.1 HSH.out)
             have HD2 := Lib.hid (HW1.out.2.2.2.2.setCell (a := w) (B := w.heap.size) (p := ⟨w.heap.size, 72, none⟩) (Nat.le_refl _) (.int .u64 ((L : Int) + (k : Int))))
             have HO2 := Lib.hid (HW1.out.2.2.2.1.far (p := ⟨w.heap.size, 72, none⟩) (by simp) (.int .u64 ((L : Int) + (k : Int))))
             clear hw1))
        go_roundw
        case rel =>
          refine ⟨d ++ s'.data.toList.take k, _, hput held (L % 64) (s'.data.toList.take k), rfl, ?_, ?_⟩
          · rw [extract_drop, hh.out.1, List.append_assoc, List.take_append_drop]
          · have hf := holds_step hh.out.2.holds (xs := s'.data.toList.take k) (by rw [← HL.out, HKL.out]; exact HF.out)
            rw [← HL.out, ← HV.out] at hf
            rw [← List.append_assoc]
            refine ⟨hf.1, ?_, HO2.out, HD2.out⟩
            rw [hf.2, List.length_append, ← HL.out, HKL.out]
            exact HB2.out
        case measure =>
          simp [strLen]
          have := HK1.out
          omega
    · have hs0 : s'.size = 0 := by omega
      have HS0 := Lib.hid hs0
      have hsz : ¬ 0 < (s'.size : Int) := by omega
      clear hpos hs0
      have hl34 : (Tryd.prog.info? 88).map (·.size) = some (stCells v held L).toArray.size := by rw [Tryd.size88]; simp [stCells_length HS64.out]
      have HS34 := Lib.hid hl34
      clear hl34
      go_wp2_with (first
        | (refine wpList_load_row rfl 88 (.tmp 2) rfl w.heap.size rfl 88 (stCells v held L).toArray (0, 0) _ HB0.out Tryd.underlying88 rfl HS34.out ?_)
        | (refine wpList_store_row rfl 88 (.tmp 4) (.tmp 35) rfl (w.heap.size + 1) (stCells v held L).toArray rfl rfl 88 _ hh.out.2.out HS34.out (by simp [stCells_length HS64.out, z34_length]) (all_oneCell_toArray (stCells_one _ _ _)) ?_))
      refine bodyPost_ret (results_cell_row Tryd.results55 _ _ (w.heap.size + 1) 88 (stCells v held L).toArray (0, 0) _ rfl (hh.out.2.out.setRow _) Tryd.underlying88 rfl HS34.out) rfl ⟨stCells v held L, rfl, ?_, below_setRow hh.out.2.below (by omega) _⟩
      have h0 : s'.data.toList = [] := by
        have h3 : s'.size = s'.data.size := rfl
        apply List.eq_nil_of_length_eq_zero
        rw [Array.length_toList, ← h3]
        exact HS0.out
      rw [hh.out.1, h0, List.append_nil]
      exact ⟨held, hh.out.2.holds, by rw [HV.out, HL.out]⟩
end Go.Proofs.YtbdknncmlcbbpaaDoor

/-
  How a stream's end leads to the padded message.
-/
namespace Go.Proofs.YtbdknncmlcbbpaaDoor
open Go.RowKit

theorem sha_hv (m : List UInt8) : sha m = outB (hv (pad m)) := rfl
/-- The message with all of its padding but the last zeros and the length, the held bytes behind it zero. -/
structure Pre (m M held : List UInt8) : Prop where
  holds : Holds M held
  fits : M.length % 64 ≤ 56
  rest : pad m = M ++ (List.replicate (56 - M.length % 64) 0 ++ len8 (8 * m.length))
  zero : held.drop (M.length % 64) = List.replicate (64 - M.length % 64) 0

theorem clear_zero {held : List UInt8} {e : Nat} (hs : held.length = 64) (he : e ≤ 64) : (hput held e (List.replicate (64 - e) 0)).drop e = List.replicate (64 - e) 0 := by
  unfold hput
  rw [List.append_assoc, List.drop_append, List.drop_eq_nil_of_le (by simp; omega), List.length_take, Nat.min_eq_left (by omega), Nat.sub_self, List.drop_zero, List.nil_append, List.drop_eq_nil_of_le (by simp; omega), List.append_nil]
theorem pre_short {m held : List UInt8} (h : Holds (m ++ [128]) held) (hf : (m ++ [128]).length % 64 ≤ 56) : Pre m (m ++ [128]) (hput held ((m ++ [128]).length % 64) (List.replicate (64 - (m ++ [128]).length % 64) 0)) := by
  have hs := h.size
  refine ⟨⟨hput_length hs (by simp; omega), ?_⟩, hf, ?_, clear_zero hs (by omega)⟩
  · rw [← h.tail]
    unfold hput
    rw [List.append_assoc, List.take_append_of_le_length (by simp; omega), List.take_take, Nat.min_self]
  · have hz : zeros m.length = 56 - (m ++ [(128 : UInt8)]).length % 64 := by
      simp only [List.length_append, List.length_cons, List.length_nil] at hf ⊢
      unfold zeros; omega
    rw [← hz]
    simp [pad]
theorem pre_long {m held : List UInt8} (h : Holds (m ++ [128]) held) (hf : 56 < (m ++ [128]).length % 64) :
    Pre m (m ++ [128] ++ List.replicate (64 - (m ++ [128]).length % 64) (0 : UInt8)) (List.replicate 64 0) ∧
    hv (m ++ [128] ++ List.replicate (64 - (m ++ [128]).length % 64) (0 : UInt8)) = comp (hv (m ++ [128])) (hput held ((m ++ [128]).length % 64) (List.replicate (64 - (m ++ [128]).length % 64) (0 : UInt8))) := by
  have hx := holds_full h (xs := List.replicate (64 - (m ++ [128]).length % 64) (0 : UInt8)) (by simp; omega)
  have hl : (m ++ [(128 : UInt8)] ++ List.replicate (64 - (m ++ [(128 : UInt8)]).length % 64) (0 : UInt8)).length % 64 = 0 := by
    rw [List.length_append, List.length_replicate]; omega
  refine ⟨⟨⟨List.length_replicate, ?_⟩, by omega, ?_, ?_⟩, hx.2⟩
  · rw [hl, List.take_zero, List.drop_eq_nil_of_le (by omega)]
  · have hz : zeros m.length = (64 - (m ++ [(128 : UInt8)]).length % 64) + 56 := by
      simp only [List.length_append, List.length_cons, List.length_nil] at hf ⊢
      unfold zeros; omega
    rw [hl, pad, hz, ← List.replicate_append_replicate]
    simp
  · rw [hl]; rfl
/-- The held bytes with the last i bytes of the length. -/
def hlen (held : List UInt8) (n i : Nat) : List UInt8 := held.take (64 - i) ++ (len8 n).drop (8 - i)
theorem hlen_length {held : List UInt8} {n i : Nat} (hs : held.length = 64) (hi : i ≤ 8) : (hlen held n i).length = 64 := by
  simp [hlen, len8_length]; omega
theorem hlen_zero {held : List UInt8} {n : Nat} (hs : held.length = 64) : hlen held n 0 = held := by
  unfold hlen
  rw [List.drop_eq_nil_of_le (by rw [len8_length]; omega), List.append_nil, List.take_of_length_le (by omega)]
theorem hlen_step {held : List UInt8} {n i : Nat} (hs : held.length = 64) (hi : i < 8) : (hlen held n i).set (63 - i) (UInt8.ofNat (n / 2 ^ (8 * i))) = hlen held n (i + 1) := by
  have hg := len8_get n (7 - i) (by omega)
  rw [show 56 - 8 * (7 - i) = 8 * i by omega] at hg
  rw [← hg]
  unfold hlen
  rw [List.set_append_left _ _ (by simp; omega)]
  have e1 : (held.take (64 - i)).set (63 - i) ((len8 n)[7 - i]'(by rw [len8_length]; omega)) = held.take (63 - i) ++ [(len8 n)[7 - i]'(by rw [len8_length]; omega)] := by
    have h64 : 64 - i = (63 - i) + 1 := by omega
    rw [h64, List.take_succ_eq_append_getElem (by omega), List.set_append_right _ _ (by simp; omega)]
    have : 63 - i - (held.take (63 - i)).length = 0 := by simp; omega
    rw [this]; rfl
  have e2 : (len8 n).drop (8 - (i + 1)) = (len8 n)[7 - i]'(by rw [len8_length]; omega) :: (len8 n).drop (8 - i) := by
    rw [show 8 - (i + 1) = 7 - i by omega, List.drop_eq_getElem_cons (by rw [len8_length]; omega), show 7 - i + 1 = 8 - i by omega]
  rw [e1, e2, show 64 - (i + 1) = 63 - i by omega]
  simp
theorem pre_done {m M held : List UInt8} (h : Pre m M held) : comp (hv M) (hlen held (8 * m.length) 8) = hv (pad m) := by
  have hs := h.holds.size
  have hf := h.fits
  have hx := holds_full h.holds (xs := List.replicate (56 - M.length % 64) 0 ++ len8 (8 * m.length)) (by simp [len8_length]; omega)
  rw [h.rest, hx.2]
  congr 1
  unfold hlen hput
  have e0 : held = held.take (M.length % 64) ++ List.replicate (64 - M.length % 64) 0 := by rw [← h.zero, List.take_append_drop]
  have e1 : held.take (64 - 8) = held.take (M.length % 64) ++ List.replicate (56 - M.length % 64) 0 := by
    conv => lhs; rw [e0]
    rw [List.take_append, List.take_of_length_le (by simp; omega), List.length_take, Nat.min_eq_left (by omega), List.take_replicate]
    congr 2
    omega
  rw [e1, List.drop_eq_nil_of_le (show held.length ≤ _ by simp [len8_length]; omega), List.append_nil]
  simp
theorem stCells_set {v : St} {held : List UInt8} {n : Nat} (j : Nat) (c : UInt8) (hh : held.length = 64) (hj : j < 64) : (stCells v held n).set (8 + j) (.int .u8 (c.toNat : Int)) = stCells v (held.set j c) n := by
  have hw : (ws v.list).length = 8 := by rw [ws_length]; rfl
  unfold stCells
  rw [List.append_assoc, List.set_append_right _ _ (by omega), hw, show 8 + j - 8 = j by omega, List.set_append_left _ _ (by rw [bs_length]; omega), bs_set, List.append_assoc]
end Go.Proofs.YtbdknncmlcbbpaaDoor
