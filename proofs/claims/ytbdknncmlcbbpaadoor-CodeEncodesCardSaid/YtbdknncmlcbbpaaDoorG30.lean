/-
  hash.Of.
-/
import Derived.Test.YtbdknncmlcbbpaaDoorG29
import Derived.Deep.DeepCutAuto
import Derived.Deep.RegionLaw
set_option linter.unusedVariables false
namespace Go.Proofs.YtbdknncmlcbbpaaDoor
open Go.RowKit WM

def ss (l : List ByteArray) : List Value := l.map Value.string
theorem ss_get (l : List ByteArray) (k : Nat) (h : k < l.length) : (ss l)[k]? = some (.string l[k]) := by simp [ss, List.getElem?_eq_getElem h]
/-- The byte of a tag. -/
def tagB (t : Int) : UInt8 := UInt8.ofNat (t % 256).toNat
theorem tagB_val (t : Int) : ((tagB t).toNat : Int) = t % 256 := by
  unfold tagB
  rw [UInt8.toNat_ofNat']
  omega
def encP (l : List ByteArray) : List UInt8 := l.flatMap fun s => encB s.data.toList
def inputOf (t : Int) (l : List ByteArray) : List UInt8 := tagB t :: encP l
def ofB (t : Int) (l : List ByteArray) : List UInt8 := (sha (inputOf t l)).take 16

theorem conv_one (c : UInt8) (W : World) (B : Nat) (h : W.cell? ⟨B, 0, none⟩ = some (.int .u8 (c.toNat : Int))) : (convert 32 9 (.slice (some ⟨B, 0, none⟩) 1 1)).run Tryd.prog W = .ok (.string (str [c])) W :=
  conv_str (m := [c]) (B := B + 1) ⟨by simp [bs], fun _ => ⟨_, rfl, by simp, fun j u hu => by
    rcases j with _ | j
    · simp [bs] at hu
      subst hu
      exact h
    · simp [bs] at hu⟩⟩
theorem HRep.length {m : List UInt8} {cs : List Value} (h : HRep m cs) : cs.length = 73 := by
  obtain ⟨held, hh, rfl⟩ := h
  exact stCells_length hh.size
theorem HRep.one {m : List UInt8} {cs : List Value} (h : HRep m cs) : ∀ u ∈ cs, u.oneCell' = true := by
  obtain ⟨held, hh, rfl⟩ := h
  exact stCells_one _ _ _
theorem store34 {m : List UInt8} {cs : List Value} (h : HRep m cs) (W : World) (g : Nat) (hb : Blk W g 88 z34.toArray) : (storeCells ⟨g, 0, none⟩ cs).run Tryd.prog W = .ok () (W.setRow g cs.toArray) := by
  have := run_storeCells_from (P := Tryd.prog) g 88 cs 0 _ W hb (by simp [h.length, z34_length]) h.one
  simpa using this

theorem store34' {m : List UInt8} {cs : List Value} (h : HRep m cs) (W : World) (g : Nat) (cs0 : List Value) (hb : Blk W g 88 cs0.toArray) (h0 : cs0.length = 73) : (storeCells ⟨g, 0, none⟩ cs).run Tryd.prog W = .ok () (W.setRow g cs.toArray) := by
  have := run_storeCells_from (P := Tryd.prog) g 88 cs 0 _ W hb (by simp [h.length, h0]) h.one
  simpa using this
/-- A load of a whole stream, kept shut. -/
def ldOf (t : TypeId) (v : Value) : Sem Value := Instr.loadAt t v
theorem shut34 (v : Value) : Instr.loadAt 88 v = ldOf 88 v := rfl
theorem load34 {W : World} {g : Nat} {cs : List Value} (hb : Blk W g 88 cs.toArray) (h0 : cs.length = 73) : (ldOf 88 (.pointer (some ⟨g, 0, none⟩))).run Tryd.prog W = .ok (.agg cs.toArray) W := by
  unfold ldOf
  simp only [Instr.loadAt, Instr.sureAddr, Sem.run_bind, Sem.run_pure, Result.andThen_ok]
  exact run_loadVar_row W g 88 88 cs.toArray (0, 0) _ hb Tryd.underlying88 rfl (by rw [Tryd.size88]; simp [h0])
attribute [local go_sem ↓] shut34
theorem encP_succ (l : List ByteArray) (k : Nat) (h : k < l.length) : encP (l.take (k + 1)) = encP (l.take k) ++ encB l[k].data.toList := by
  unfold encP
  rw [List.take_succ_eq_append_getElem h, List.flatMap_append]; simp
theorem encP_le (l : List ByteArray) (k : Nat) : (encP (l.take k)).length ≤ (encP l).length := by
  unfold encP
  conv => rhs; rw [← List.take_append_drop k l]
  rw [List.flatMap_append, List.length_append]; omega
theorem encB_ge (s : ByteArray) : s.size ≤ (encB s.data.toList).length := by
  have h3 : s.size = s.data.toList.length := by rw [Array.length_toList]; rfl
  unfold encB
  rw [List.length_append, h3]; omega

theorem slice44 (g : Nat) (W : World) : (Instr.sliceAt 37 (.pointer (some ⟨g, 0, none⟩)) none none none).run Tryd.prog W = .ok (.slice (some ⟨g, 0, none⟩) 16 16) W := by
  have a1 : Tryd.prog.underlying 37 = some (.array (Tryd.prog.arrayLen 37) (Tryd.prog.elem 37)) := by kernel_rfl
  have a2 : Tryd.prog.arrayLen 37 = 16 := by kernel_rfl
  have a3 : Tryd.prog.elem 37 = 5 := by kernel_rfl
  rw [run_sliceAt_array_all W 37 ⟨g, 0, none⟩ a1, a3, Tryd.sz5, a2]
  simp [slicedAt, Addr.add]
theorem slice24 (g : Nat) (W : World) : (Instr.sliceAt 92 (.pointer (some ⟨g, 0, none⟩)) none none none).run Tryd.prog W = .ok (.slice (some ⟨g, 0, none⟩) 32 32) W := by
  have a1 : Tryd.prog.underlying 92 = some (.array (Tryd.prog.arrayLen 92) (Tryd.prog.elem 92)) := by kernel_rfl
  have a2 : Tryd.prog.arrayLen 92 = 32 := by kernel_rfl
  have a3 : Tryd.prog.elem 92 = 5 := by kernel_rfl
  rw [run_sliceAt_array_all W 92 ⟨g, 0, none⟩ a1, a3, Tryd.sz5, a2]
  simp [slicedAt, Addr.add]

/-- 'copy' of the first 16 bytes of an array of 32 into one of 16. -/
theorem step_copy16 {P : Program} {ops : Array Oper} {o : Oper} {a : Act} {w : World} {K : Act → World → Prop} {Q : Exit → Act → World → Prop} {E : Prop} (hgd : o.guard = none) (d s : Operand) (dT sT : TypeId)
    (ho : o.op = .call { callee := .builtin .copy, args := #[d, s], argTypes := #[dT, sT] }) {e : TypeId} (hu : P.underlying dT = some (.slice e)) (hsz : (P.info? e).map (·.size) = some 1)
    (g dc : Nat) (hd : a.eval d = .slice (some ⟨g, 0, none⟩) 16 dc) (h sc : Nat) (hs : a.eval s = .slice (some ⟨h, 0, none⟩) 32 sc) (x : List UInt8) (hx : x.length = 32)
    (t t' : TypeId) (l : List UInt8) (hg : Blk w g t (bs l).toArray) (hh : Blk w h t' (bs x).toArray) (hl : l.length = 16)
    (hK : K (a.put o.dst (.int .i64 16)) (w.setRow g (bs (x.take 16)).toArray)) :
    if Region.wanted o (yielded ops a.tmps) = true then Oper.wp P o a w K Q else E := by
  have hw : Region.wanted o (yielded ops a.tmps) = true := by simp [Region.wanted, hgd]
  rw [if_pos hw]
  have h16 : (bs (x.take 16)).length = 16 := by rw [bs_length, List.length_take]; omega
  have hr := run_copy_row P w dT sT o.type e g 0 16 dc ⟨h, 0, none⟩ 32 sc (bs l).toArray t (bs (x.take 16)) hu hsz hg (by rw [h16]; rfl) (fun j v hv => by
    rw [Addr.add_lit, Nat.zero_add, Blk.cell hh]
    have hj : j < 16 := by have := (List.getElem?_eq_some_iff.1 hv).1; omega
    rw [← bs_take, List.getElem?_take, if_pos hj] at hv
    simpa using hv) (by rw [h16]; simp [bs_length, hl]) (bs_one _)
  have e0 : ((bs l).toArray.toList.take 0 ++ bs (x.take 16) ++ (bs l).toArray.toList.drop (0 + (bs (x.take 16)).length)).toArray = (bs (x.take 16)).toArray := by
    rw [h16, List.take_zero, List.nil_append, List.drop_eq_nil_of_le (by simp [bs_length, hl]), List.append_nil]
  rw [e0, h16] at hr
  unfold Oper.wp execOp
  simp only [ho, resolve, invoke, builtin, Sem.run_bind, Sem.run_pure, Result.andThen_ok, List.map_toArray, List.map_cons, List.map_nil, hd, hs, hr]
  exact hK

set_option maxRecDepth 100000 in
set_option maxHeartbeats 2000000 in
theorem of_ (t : Int) (A : Option Addr) (l : List ByteArray) (c : Nat) (w : World) (hk : KT 1 w) (ha : Reads w w.heap.size 1 A l.length (ss l)) (hl : (encP l).length ≤ 137438953472) (hn : l.length ≤ 137438953472) :
    Calls Tryd.prog 25 #[.int .i64 t, .slice A l.length c] w fun e w' => e = .returned (.agg (bs (ofB t l)).toArray) ∧ Below w.heap.size w w' := by
  have HA := Lib.hid ha
  have HK := Lib.hid hk
  clear ha hk
  have hz := Tryd.zero88
  have htb : IntKind.u8.wrap t = ((tagB t).toNat : Int) := by rw [tagB_val, IntKind.wrap_u8]
  obtain ⟨tb, htb2⟩ : ∃ tb, tb = tagB t := ⟨_, rfl⟩
  rw [← htb2] at htb
  have HTB := Lib.hid htb2
  clear htb2
  go_enter Tryd.func25, Tryd.ntmps25
  go_upto_region 1 with fail
  go_cut [5] (fun s5 wx => ∃ (g : Nat) (cs : List Value), s5 = .pointer (some ⟨g, 0, none⟩) ∧ Hid (Blk wx g 88 cs.toArray ∧ HRep [tb] cs ∧ Blk wx w.heap.size 37 (bs (List.replicate 16 0)).toArray ∧ w.heap.size < g ∧ Below w.heap.size w wx))
  case first =>
    generalize hw0 : World.alloc w _ = w0
    have HB0 : Hid (Below w.heap.size w w0) := by rw [← hw0]; exact below_new _ _
    have HZ0 : Hid (Blk w0 w.heap.size 37 (bs (List.replicate 16 0)).toArray) := by rw [← hw0]; exact Blk.new_at w 37 rfl (by kernel_rfl)
    clear hw0
    have hs0 := HZ0.out.lt
    have hcv := fun W B (h : Blk W B 5 #[.int .u8 (tb.toNat : Int)]) => conv_one tb W B (by rw [Blk.cell h]; rfl)
    have r1 := @blk_new
    have r2 := @blk_new2
    have r3 := @blk_new3
    have r4 : ∀ (w : World) g t cs, Blk w.drew g t cs ↔ Blk w g t cs := fun _ _ _ _ => Iff.rfl
    go_region_with (first
      | (go_at_call 54; refine (begin_ _).mono ?_; rintro e w1 ⟨cs1, rfl, hr1, hb1⟩; have HR1 := Lib.hid hr1; have HB1 := Lib.hid hb1; have b1 := fun g t cs h => blk_past (g := g) (t := t) (cs := cs) hb1 h; have b1o := fun g t cs o h => (blk_past (g := g) (t := t) (cs := cs) hb1 h).alloc o; clear hr1 hb1)
      | (go_at_call 55; refine (add [] cs1 (str [tb]) _ (HK.out.below (by repeat' (first | exact HB0.out | exact Below.drew (by assumption) | refine Below.drew ?_ | refine ba ?_ _ | refine bt ?_ HB1.out))) HR1.out (by rw [str_size]; simp)).mono ?_; rintro e w2 ⟨cs2, rfl, hr2, hb2⟩; have HR2 := Lib.hid hr2; have HB2 := Lib.hid hb2; have hst := fun g h => store34 hr2 w2 g (blk_past hb2 h); have hst2 := store34 hr2 _ _ (blk_new w2 88 z34.toArray); have hl2 := hr2.length; clear hr2 hb2))
    all_goals
      go_wp2_with fail
      go_meet
      have hs1 := HB1.out.size
      have hs2 := HB2.out.size
      simp at hs1 hs2
      refine ⟨_, cs2, rfl, Blk.setRow (cs := z34.toArray) ?_ _, HR2.out, Blk.setRow_far ?_ (by omega) _, by omega, below_setRow ?_ (by omega) _⟩
      · repeat' (first | exact blk_new _ _ _ | exact blk_new2 _ _ _ _ | exact blk_new3 _ _ _ _ | refine blk_past HB2.out ?_ | refine blk_past HB1.out ?_ | refine Blk.drew ?_ | refine Blk.alloc ?_ _)
      · repeat' (first | exact HZ0.out | refine blk_past HB2.out ?_ | refine blk_past HB1.out ?_ | refine Blk.drew ?_ | refine Blk.alloc ?_ _)
      · repeat' (first | exact HB0.out | refine bt ?_ HB2.out | refine bt ?_ HB1.out | refine Below.drew ?_ | refine ba ?_ _)
  case rest =>
    obtain ⟨g, cs, rfl, hh⟩ := hcut
    go_wp2
    go_loopw [18] (fun i' wr => ∃ (k : Nat) (cs : List Value), k ≤ l.length ∧ i' = .int .i64 k ∧ Hid (Blk wr g 88 cs.toArray ∧ HRep (tb :: encP (l.take k)) cs ∧ Blk wr w.heap.size 37 (bs (List.replicate 16 0)).toArray ∧ w.heap.size < g ∧ Below w.heap.size w wr)) (fun i' _ => l.length - (intOf i').toNat)
    case atStart => exact ⟨0, cs, by omega, rfl, hh⟩
    case round =>
      clear hh
      obtain ⟨k, cs, hk, rfl, hh⟩ := hrel
      by_cases hlt : k < l.length
      · obtain ⟨b, off, rfl, _, hcell⟩ := (HA.out.below hh.out.2.2.2.2).lit (by omega)
        obtain ⟨s, hs⟩ : ∃ s, s = l[k] := ⟨_, rfl⟩
        have hc := hcell k _ (ss_get l k hlt)
        rw [← hs] at hc
        have HTK := Lib.hid (encP_succ l k hlt)
        rw [← hs] at HTK
        have hle := encP_le l (k + 1)
        rw [HTK.out, List.length_append] at hle
        have hsz : s.size ≤ 137438953472 := by have := encB_ge s; omega
        have hll : (tb :: encP (l.take k)).length + (str (encB s.data.toList)).size ≤ 2199023255552 := by rw [str_size]; simp; omega
        have HLL := Lib.hid hll
        clear hcell hs hle hll
        have hld : ∀ W, Blk W g 88 cs.toArray → (ldOf 88 (.pointer (some ⟨g, 0, none⟩))).run Tryd.prog W = .ok (.agg cs.toArray) W := fun W h => load34 h hh.out.2.1.length
        have hld0 := hld wr hh.out.1
        have hld1 := hld wr.drew hh.out.1
        go_wp2
        go_region_with (first
          | (go_at_call 56; refine (encBytes s _ (by omega)).mono ?_; rintro e w1 ⟨A1, c1, rfl, hown1, hb1⟩; have hcv1 := conv_str (c := c1) (Reads.of_own hown1); have HB1 := Lib.hid hb1; have hld2 := hld w1 ((hh.out.1.drew).below hb1 hh.out.1.lt); clear hown1 hb1)
          | (go_at_call 55; refine (add (tb :: encP (l.take k)) cs (str (encB s.data.toList)) _ (HK.out.below (bt hh.out.2.2.2.2.drew HB1.out)) hh.out.2.1 HLL.out).mono ?_; rintro e w2 ⟨cs2, rfl, hr2, hb2⟩; have HR2 := Lib.hid hr2; have HB2 := Lib.hid hb2; have hst := store34' hr2 w2 g cs (Blk.below (Blk.below hh.out.1.drew HB1.out hh.out.1.lt) hb2 (Nat.lt_of_lt_of_le hh.out.1.lt HB1.out.size)) hh.out.2.1.length; have hl2 := hr2.length; clear hr2 hb2))
        all_goals
          go_wp2
          go_roundw
          case rel =>
            refine ⟨k + 1, cs2, by omega, by go_num, Blk.setRow (cs := cs.toArray) (Blk.below (Blk.below hh.out.1.drew HB1.out hh.out.1.lt) HB2.out (Nat.lt_of_lt_of_le hh.out.1.lt HB1.out.size)) _, ?_, Blk.setRow_far (blk_past HB2.out (blk_past HB1.out hh.out.2.2.1.drew)) (by have := hh.out.2.2.2.1; omega) _, hh.out.2.2.2.1, below_setRow (bt (bt hh.out.2.2.2.2.drew HB1.out) HB2.out) (by have := hh.out.2.2.2.1; omega) _⟩
            rw [HTK.out]; exact HR2.out
          case measure => simp [intOf]; omega
      · have hke : k = l.length := by omega
        have HKE := Lib.hid hke
        have hge : l.length ≤ k := by omega
        clear hlt hk hke
        have hrep : HRep (tb :: encP l) cs := by
          have := hh.out.2.1
          rwa [HKE.out, List.take_of_length_le (Nat.le_refl _)] at this
        have HREP := Lib.hid hrep
        have hl34 : (Tryd.prog.info? 88).map (·.size) = some cs.toArray.size := by rw [Tryd.size88]; simp [hrep.length]
        have HS34 := Lib.hid hl34
        obtain ⟨x, hx⟩ : ∃ x, x = sha (tb :: encP l) := ⟨_, rfl⟩
        have hxl : x.length = 32 := by rw [hx]; rfl
        have HX := Lib.hid hx
        have hs24 : (Tryd.prog.info? 92).map (·.size) = some (bs x).toArray.size := by rw [Tryd.size92]; simp [bs, hxl]
        have HS24 := Lib.hid hs24
        have HXL := Lib.hid hxl
        have hsl44 := fun g => slice44 g
        have hsl24 := fun g => slice24 g
        clear hl34 hrep hx hs24 hxl
        go_upto_region 9 with (first
          | (refine wpList_load_row rfl 88 (.tmp 5) rfl g rfl 88 cs.toArray (0, 0) _ hh.out.1 Tryd.underlying88 rfl HS34.out ?_)
          | (go_at_call 57; refine (ssum (tb :: encP l) cs _ (HK.out.below hh.out.2.2.2.2) HREP.out (by simp; omega)).mono ?_; rintro e w3 ⟨rfl, hb3⟩; have HB3 := Lib.hid hb3; rw [← HX.out]; clear hb3)
          | (refine wpList_store_row rfl 92 (.tmp 8) (.tmp 29) rfl w3.heap.size (bs x).toArray rfl rfl 92 _ (Blk.new w3 92 _) HS24.out (by simp [bs, HXL.out]) (all_oneCell_toArray (bs_one _)) ?_))
        generalize hw4 : World.alloc (World.setRow (World.alloc w3 _) w3.heap.size (bs x).toArray) _ = w4
        have HD4 : Hid (Below w.heap.size w w4) := by rw [← hw4]; exact ba (below_setRow (ba (bt hh.out.2.2.2.2 HB3.out) _) (by have := (bt hh.out.2.2.2.2 HB3.out).size; omega) _) _
        have HO4 : Hid (Blk w4 w.heap.size 37 (bs (List.replicate 16 0)).toArray) := by
          have := blk_past HB3.out hh.out.2.2.1
          rw [← hw4]; exact (Blk.setRow_far (this.alloc _) (by have := this.lt; omega) _).alloc _
        have HX4 : Hid (Blk w4 w3.heap.size 92 (bs x).toArray) := by rw [← hw4]; exact ((Blk.new w3 92 _).setRow _).alloc _
        have HZ4 : Hid (Blk w4 (w3.heap.size + 1) 37 (bs (List.replicate 16 0)).toArray) := by rw [← hw4]; exact Blk.new_at _ 37 (by rw [size_setRow, size_alloc]) (by kernel_rfl)
        have hs4 := HO4.out.lt
        have hs5 : w.heap.size ≤ w3.heap.size := (bt hh.out.2.2.2.2 HB3.out).size
        obtain ⟨q, hq⟩ : ∃ q, q = w3.heap.size := ⟨_, rfl⟩
        have hs6 : w.heap.size < q := by rw [hq]; exact (blk_past HB3.out hh.out.2.2.1).lt
        rw [← hq] at HX4 HZ4 ⊢
        clear hw4 hs5 hq
        go_region_law (refine step_copy16 rfl (.tmp 30) (.tmp 31) 32 32 rfl Tryd.underlying32 Tryd.size5 (q + 1) 16 (by rfl) q 32 (by rfl) x HXL.out 37 92 (List.replicate 16 0) HZ4.out.drew HX4.out.drew (by simp) ?_)
        have h16 : (bs (x.take 16)).toArray.size = 16 := by have := HXL.out; simp [bs_length]; omega
        have hs44 : (Tryd.prog.info? 37).map (·.size) = some (bs (x.take 16)).toArray.size := by rw [Tryd.size37, h16]
        have HS44 := Lib.hid hs44
        have H16 := Lib.hid h16
        clear hs44 h16
        go_wp2_with (first
          | (refine wpList_load_row rfl 37 (.tmp 9) rfl (q + 1) rfl 37 (bs (x.take 16)).toArray (0, 0) _ (HZ4.out.drew.setRow _) Tryd.underlying37 rfl HS44.out ?_)
          | (refine wpList_store_row rfl 37 (.tmp 4) (.tmp 33) rfl w.heap.size (bs (x.take 16)).toArray rfl rfl 37 _ (HO4.out.drew.setRow_far (by omega) _) HS44.out (by rw [H16.out]; simp [bs_length]) (all_oneCell_toArray (bs_one _)) ?_))
        refine bodyPost_ret (results_cell_row Tryd.results25 _ _ w.heap.size 37 (bs (x.take 16)).toArray (0, 0) _ rfl ((HO4.out.drew.setRow_far (by omega) _).setRow _) Tryd.underlying37 rfl HS44.out) rfl ⟨?_, below_setRow (below_setRow HD4.out.drew (by omega) _) (Nat.le_refl _) _⟩
        rw [HX.out, HTB.out]
        rfl
end Go.Proofs.YtbdknncmlcbbpaaDoor
