/-
  HEIGHTS: give, walked.
-/
import Derived.Test.YtbdknncmlcbbpaaDoorG13
import Derived.Test.YtbdknncmlcbbpaaDoorG07
import Derived.Laws.MathBits
import Derived.Laws.Bits64b
set_option linter.unusedVariables false
namespace Go.Proofs.YtbdknncmlcbbpaaDoor
open Go.RowKit WM TR KM

/-- Blocks that are there stay, but that of the shapes, that of the variable work, and that of its row. -/
def KeepG (w : World) (aS bW : Nat) (v : Value) (w' : World) : Prop := ∀ b, b < w.heap.size → b ≠ aS → b ≠ bW → v.ownBlock ≠ some b → w'.heap[b]? = w.heap[b]?
/-- What give leaves. -/
def GivePost (B bB bS bW aS n : Nat) (vb : Value) (cS : Nat) (st : St) (Aw : Option Addr) (cw i : Nat) (s : Sh) (w : World) (e : Ending) (w' : World) : Prop :=
  ∃ Aw' cw', e = .returned (.bool (give st.sh st.wk i s).ok) ∧ HtW B w' bB bS bW aS n vb cS (give st.sh st.wk i s) Aw' cw' ∧ Below B w w' ∧ w.heap.size ≤ w'.heap.size ∧ KeepG w aS bW (.slice Aw st.wk.length cw) w'
theorem HtW.push {B : Nat} {w w4 : World} {bB bS bW aS n : Nat} {vb : Value} {cS : Nat} {st : St} {Aw A4 : Option Addr} {cw c4 i : Nat} {o : Obj} (h : HtW B w bB bS bW aS n vb cS st Aw cw) (hg : (w.alloc o).grownBy w4 (Value.slice Aw st.wk.length cw).ownBlock)
    (ho : w4.ownsRow B 3 1 (.slice A4 (st.wk.length + 1) c4) (st.wk.length + 1) (vi (st.wk.map fun i : Nat => (i : Int)) ++ [.int .i64 (i : Int)])) :
    HtW B (w4.setCell ⟨bW, 0, none⟩ (.slice A4 (st.wk.length + 1) c4)) bB bS bW aS n vb cS ⟨true, st.sh, st.wk ++ [i]⟩ A4 c4 := by
  obtain ⟨n1, n2, n3, n4, n5⟩ := h.neS
  have hbW : Blk w4 bW 22 #[.slice Aw st.wk.length cw] := (h.blkW.alloc _).grown hg (fun e => (h.neW bW e.symm).1 rfl)
  have hS : w4.ownsRow B 117 34 (.slice (some ⟨aS, 0, none⟩) n cS) n (shCs st.sh) := (h.ownS.alloc _).kept hg (.inr fun e => (h.neW aS e.symm).2.2.2 rfl)
  refine ⟨((h.blkB.alloc _).grown hg (fun e => (h.neW bB e.symm).2.2.1 rfl)).far (by show bB ≠ bW; omega) _, ((h.blkS.alloc _).grown hg (fun e => (h.neW bS e.symm).2.1 rfl)).far (by show bS ≠ bW; omega) _, ?_, ownsRow_setCell_other hS (fun e => by have : aS = bW := Option.some.inj e; omega) _, ?_, h.a33, h.len, h.low⟩
  · have := hbW.set_ 0 (.slice A4 (st.wk.length + 1) c4)
    rw [List.length_append]
    simpa using this
  · have hne : (Value.slice A4 (st.wk.length + 1) c4).ownBlock ≠ some bW := own_blk_ne ho hbW tyS.2.2.2.1
    have h2 := ownsRow_setCell_other ho (a := ⟨bW, 0, none⟩) hne (.slice A4 (st.wk.length + 1) c4)
    rw [List.length_append]
    simpa [vi] using h2
theorem HtW.shut {B : Nat} {w : World} {bB bS bW aS n : Nat} {vb : Value} {cS : Nat} {st : St} {Aw : Option Addr} {cw i : Nat} (h : HtW B w bB bS bW aS n vb cS st Aw cw) (hi : i < n) : (ldS (.pointer (some ⟨aS, i * 34, none⟩))).run Tryd.prog w = .ok (.agg (shC (shAt st.sh i)).toArray) w := by
  refine Go.Proofs.YtbdknncmlcbbpaaDoor.load_sh ?_ (h.at_ hi)
  unfold shAt
  have : i < st.sh.length := by have := h.len; omega
  rw [List.getElem?_eq_getElem this]
  exact h.a33 _ (List.getElem_mem this)
attribute [local go_sem ↓] shutS
theorem int_info1 : (Tryd.prog.info? 3).map (fun i => (i.zero, i.size, i.bytes)) = some (some (.int .i64 0), 1, 8) := by kernel_rfl
set_option maxRecDepth 100000 in
set_option maxHeartbeats 8000000 in
theorem give_is {B : Nat} {w : World} {bB bS bW aS n : Nat} {Ab : Option Addr} {cb cS : Nat} {st : St} {Aw : Option Addr} {cw : Nat} (h : HtW B w bB bS bW aS n (.slice Ab n cb) cS st Aw cw) (i : Nat) (hi : i ≤ n) (s : Sh) (hs : s.l.length = 33) (hn : n ≤ 5000) (hwl : st.wk.length ≤ 5000) (hB : B ≤ w.heap.size) :
    Calls Tryd.prog 75 #[.int .i64 (i : Int), .agg (shC s).toArray, .pointer (some ⟨bB, 0, none⟩), .pointer (some ⟨bS, 0, none⟩), .pointer (some ⟨bW, 0, none⟩)] w (GivePost B bB bS bW aS n (.slice Ab n cb) cS st Aw cw i s w) := by
  obtain ⟨i0, gi, gz0, gz1, gz2⟩ := info_parts int_info1
  obtain ⟨z, hz⟩ : ∃ z, z = w.heap.size := ⟨_, rfl⟩
  obtain ⟨W1, hW1⟩ : ∃ W1, W1 = w.alloc (.cells (shC s).toArray 117) := ⟨_, rfl⟩
  have hb1 : Below w.heap.size w W1 := by rw [hW1]; exact below_new _ _
  have H1 : Hid (HtW B W1 bB bS bW aS n (.slice Ab n cb) cS st Aw cw) := Lib.hid (h.next hb1)
  have HZ : Hid (Blk W1 z 117 (shC s).toArray) := Lib.hid (by rw [hW1, hz]; exact Blk.new _ _ _)
  have hlen := h.len
  obtain ⟨cs, hcs⟩ : ∃ cs, cs = (shC s).toArray := ⟨_, rfl⟩
  have HW1 : Hid (W1 = w.alloc (.cells cs 117)) := Lib.hid (by rw [hcs]; exact hW1)
  have HCS := Lib.hid hcs
  have HB1 := Lib.hid hb1
  have HZZ := Lib.hid hz
  have HH := Lib.hid h
  have HBS := Lib.hid hB
  have b0 : W1.cell? ⟨bB, 0, none⟩ = some (.slice Ab n cb) := H1.out.blkB.cell 0
  have s0 : W1.cell? ⟨bS, 0, none⟩ = some (.slice (some ⟨aS, 0, none⟩) n cS) := H1.out.blkS.cell 0
  have w0 : W1.cell? ⟨bW, 0, none⟩ = some (.slice Aw st.wk.length cw) := H1.out.blkW.cell 0
  rw [← hcs]
  clear hcs hW1 hz hb1 h hB
  by_cases hin : i = n
  · have hg : give st.sh st.wk i s = ⟨false, st.sh, st.wk⟩ := by unfold give; rw [if_pos (by rw [hlen]; exact hin)]
    have HGV := Lib.hid hg
    have hd : ((i : Int) == (n : Int)) = true := by simp [hin]
    clear hg
    go_enter Tryd.func75, Tryd.ntmps75
    go_upto_region 1 with fail
    rw [← HW1.out]
    go_wp2_with fail
    go_ret
    refine ⟨Aw, cw, by rw [HGV.out]; rfl, ?_, HB1.out.mono HBS.out, HB1.out.size, fun b hb _ _ _ => HB1.out.block b hb⟩
    rw [HGV.out]
    exact ⟨H1.out.blkB, H1.out.blkS, H1.out.blkW, H1.out.ownS, H1.out.ownW, H1.out.a33, H1.out.len, H1.out.low⟩
  · have hd : ((i : Int) == (n : Int)) = false := by simp; omega
    have hib : (0 : Int) ≤ (i : Int) ∧ (i : Int) < (n : Int) := ⟨by omega, by omega⟩
    have hin2 : i < n := by omega
    obtain ⟨cur, hcur⟩ : ∃ cur, shAt st.sh i = cur := ⟨_, rfl⟩
    have a0 : W1.cell? ⟨aS, i * 34, none⟩ = some (.int .i64 cur.h) := by
      have := H1.out.at_ hin2 0 (.int .i64 cur.h) (by rw [hcur]; rfl)
      rwa [Nat.add_zero] at this
    have hcl : cur.l.length = 33 := by
      rw [← hcur]
      unfold shAt
      have : i < st.sh.length := by omega
      rw [List.getElem?_eq_getElem this]
      exact H1.out.a33 _ (List.getElem_mem this)
    have HCR := Lib.hid hcur
    by_cases hu : cur.h = -1
    · have hue : (cur.h == -1) = true := by simp [hu]
      have hg : give st.sh st.wk i s = ⟨true, st.sh.set i s, st.wk ++ [i]⟩ := by unfold give; rw [if_neg (by rw [hlen]; exact hin), hcur, if_pos hu]
      have HGV := Lib.hid hg
      have hld := Blk.load_sh hs HZ.out
      rw [← HCS.out] at hld
      clear hg hcur
      go_enter Tryd.func75, Tryd.ntmps75
      go_upto_region 1 with fail
      rw [← HW1.out, ← HZZ.out]
      have hsz : (Tryd.prog.info? 117).map (·.size) = some cs.size := by rw [size_sh, HCS.out, List.size_toArray, shC_length, hs]
      have HSZ := Lib.hid hsz
      have hsz2 : cs.size = 34 := by rw [HCS.out, List.size_toArray, shC_length, hs]
      have HTH : Hid (W1.there aS (i * 34) cs.size) := Lib.hid (by rw [hsz2]; exact H1.out.there hin2)
      clear hsz hsz2
      go_upto_region 5 with (refine wpList_store_mid rfl 117 (.tmp 21) (.tmp 20) rfl aS (i * 34) cs rfl rfl HTH.out HSZ.out (by rw [HCS.out]; exact all_oneCell_toArray (shC_one s)) ?_)
      obtain ⟨W2, hW2⟩ : ∃ W2, W2 = W1.setCells aS (i * 34) cs.toList := ⟨_, rfl⟩
      have H2 : Hid (HtW B W2 bB bS bW aS n (.slice Ab n cb) cS ⟨st.ok, st.sh.set i s, st.wk⟩ Aw cw) := Lib.hid (by rw [hW2, HCS.out, List.toList_toArray]; exact H1.out.put hin2 hs)
      have HK2 : Hid (∀ b, b ≠ aS → W2.heap[b]? = W1.heap[b]?) := Lib.hid (fun b hb => by rw [hW2]; exact setCells_heap aS _ _ W1 b hb)
      have HS2 : Hid (W2.heap.size = W1.heap.size) := Lib.hid (by rw [hW2]; exact setCells_size _ _ _ _)
      have HBL : Hid (∀ C, C ≤ aS → Below C W1 W2) := Lib.hid (fun C hC => by rw [hW2]; exact below_setCells hC _ _ _ (Below.refl _ _))
      rw [← hW2]
      clear hW2 b0 s0 w0 a0 hld
      have s0 : W2.cell? ⟨bS, 0, none⟩ = some (.slice (some ⟨aS, 0, none⟩) n cS) := H2.out.blkS.cell 0
      have w0 : W2.cell? ⟨bW, 0, none⟩ = some (.slice Aw st.wk.length cw) := H2.out.blkW.cell 0
      have hrw : Reads (W2.alloc (.cells #[.int .i64 (i : Int)] 3)) (W2.heap.size + 1) 1 (some ⟨W2.heap.size, 0, none⟩) 1 [.int .i64 (i : Int)] := ⟨rfl, fun _ => ⟨_, rfl, Nat.lt_succ_self _, cells_new W2 [.int .i64 (i : Int)] 3⟩⟩
      have HRW := Lib.hid hrw
      clear hrw
      have hBW2 : B ≤ W2.heap.size := by rw [HS2.out]; exact Nat.le_trans HBS.out HB1.out.size
      go_upto_region 6 with (first
        | (at_builtin; refine wpList_append_any _ rfl (.tmp 22) (.tmp 24) 22 rfl B 3 i0 _ 1 8 Tryd.underlying22 gi gz0 gz1 gz2 rfl (by omega) (.slice Aw st.wk.length cw) st.wk.length (vi (st.wk.map fun i : Nat => (i : Int))) rfl (H2.out.ownW.alloc _) _ (some ⟨W2.heap.size, 0, none⟩) 1 1 [.int .i64 (i : Int)] rfl HRW.out (int_one _ _) (len_le (by omega)) (by omega) (by rw [size_alloc]; omega) ?_
           intro v4 w4 hown4 hgrow4 hnew4
           obtain ⟨A4, c4, rfl, _⟩ := own_len hown4
           have HN := Lib.hid hnew4
           have HG4 := Lib.hid hgrow4
           have HO4 := Lib.hid hown4
           have hbw4 : Blk w4 bW 22 #[.slice Aw st.wk.length cw] := (H2.out.blkW.alloc _).grown hgrow4 (fun e => (H2.out.neW bW e.symm).1 rfl)
           clear w0
           have w0 := hbw4.cell 0
           have fw := hbw4.frozen 0
           simp only [List.getElem?_toArray, List.getElem?_cons_zero] at w0
           have HBW4 := Lib.hid hbw4
           clear hown4 hgrow4 hnew4 hbw4))
      obtain ⟨W5, hW5⟩ : ∃ W5, W5 = w4.setCell ⟨bW, 0, none⟩ (.slice A4 (st.wk.length + 1) c4) := ⟨_, rfl⟩
      have H5 : Hid (HtW B W5 bB bS bW aS n (.slice Ab n cb) cS ⟨true, st.sh.set i s, st.wk ++ [i]⟩ A4 c4) := Lib.hid (by rw [hW5]; exact H2.out.push HG4.out HO4.out)
      obtain ⟨nz1, nz2, nz3, nz4, nz5⟩ := H1.out.neS
      have hzl : w.heap.size ≤ z := Nat.le_of_eq HZZ.out.symm
      have haS : aS < w.heap.size := by obtain ⟨cur', hc', _⟩ := HH.out.rowS; exact hc'.lt
      have hbWl : bW < w.heap.size := HH.out.blkW.lt
      have hkeep : ∀ b, b < W1.heap.size → b ≠ aS → b ≠ bW → (Value.slice Aw st.wk.length cw).ownBlock ≠ some b → W5.heap[b]? = W1.heap[b]? := fun b hb h1 h2 h3 => by
        rw [hW5, Below.heap_setCell w4 ⟨bW, 0, none⟩ _ b h2]
        have hb2 : b < W2.heap.size := by rw [HS2.out]; exact hb
        rw [HG4.out.block b (by rw [size_alloc]; omega) (fun e => h3 e.symm), Below.heap_alloc W2 _ b hb2]
        exact HK2.out b h1
      have HZ5 : Hid (Blk W5 z 117 (shC s).toArray) := Lib.hid ((hkeep z HZ.out.lt (by omega) (by omega) (fun e => by have := (HH.out.ownW.lt z e).2; omega)).trans HZ.out)
      have HB5 : Hid (Below B w W5) := Lib.hid (by
        have a1 : Below B w W2 := (HB1.out.mono HBS.out).trans (HBL.out B (by obtain ⟨_, _, h⟩ := HH.out.rowS; exact h))
        have a2 := a1.alloc hBW2 (.cells #[.int .i64 (i : Int)] 3)
        have a3 : Below B w w4 := ⟨HG4.out.os.trans a2.os, HG4.out.tape.trans a2.tape, HG4.out.output.trans a2.output, Nat.le_trans a2.size HG4.out.size, fun b hb => (HG4.out.block b (Nat.lt_of_lt_of_le (Nat.lt_of_lt_of_le hb HBS.out) a2.size) (fun e => by have := (HH.out.ownW.lt b e.symm).1; omega)).trans (a2.block b hb)⟩
        rw [hW5]
        exact a3.setCell (p := ⟨bW, 0, none⟩) HH.out.low.2.2 _)
      have HSZ5 : Hid (w.heap.size ≤ W5.heap.size) := Lib.hid (by
        have := HG4.out.size
        rw [size_alloc, HS2.out] at this
        have h2 := HB1.out.size
        rw [hW5, World.size_setCell]; omega)
      have HKG : Hid (KeepG w aS bW (.slice Aw st.wk.length cw) W5) := Lib.hid (fun b hb h1 h2 h3 => (hkeep b (Nat.lt_of_lt_of_le hb HB1.out.size) h1 h2 h3).trans (HB1.out.block b hb))
      have hsa : shAt (st.sh.set i s) i = s := by rw [shAt_set (by omega), if_pos rfl]
      have HK : Hid (∀ W', Below W5.heap.size W5 W' → W'.cell? ⟨bS, 0, none⟩ = some (.slice (some ⟨aS, 0, none⟩) n cS) ∧ (ldS (.pointer (some ⟨aS, i * 34, none⟩))).run Tryd.prog W' = .ok (.agg cs) W' ∧ (ldS (.pointer (some ⟨z, 0, none⟩))).run Tryd.prog W' = .ok (.agg cs) W') := Lib.hid (fun W' hb => by
        have h5 := H5.out.next hb
        refine ⟨h5.blkS.cell 0, ?_, ?_⟩
        · have := h5.shut hin2
          rw [show shAt (St.mk true (st.sh.set i s) (st.wk ++ [i])).sh i = s from hsa, ← HCS.out] at this
          exact this
        · have := Blk.load_sh hs (HZ5.out.below hb HZ5.out.lt)
          rw [← HCS.out] at this
          exact this)
      have FS : Hid (∀ W', Below W5.heap.size W5 W' → Calls Tryd.prog 76 #[.agg cs, .agg cs] W' fun e w' => e = .returned (.bool true) ∧ Below W'.heap.size W' w') := Lib.hid (fun W' _ => by
        have := same_shape s s hs hs W'
        rw [sameS_iff.2 rfl] at this
        rw [HCS.out]
        exact this)
      have hbc : Below W5.heap.size W5 W5.drew := (Below.refl _ _).drew
      rw [← hW5]
      clear hW5 hkeep s0 w0 fw hd hue
      refine wp_region_noPanic ?_
      go_region_held2 (fun W' => W'.cell? ⟨bS, 0, none⟩ = some (.slice (some ⟨aS, 0, none⟩) n cS) ∧ (ldS (.pointer (some ⟨aS, i * 34, none⟩))).run Tryd.prog W' = .ok (.agg cs) W' ∧ (ldS (.pointer (some ⟨z, 0, none⟩))).run Tryd.prog W' = .ok (.agg cs) W')
        (exact HK.out _ hbc)
        (first
        | (go_at_call 76; refine (FS.out _ hbc).mono ?_; rintro e w6 ⟨rfl, hb6⟩; replace hbc := bt hbc hb6; clear hb6))
      all_goals
        refine NoPanic.normal ?_
        go_wp2_with fail
        go_ret
        refine ⟨A4, c4, by rw [HGV.out]; rfl, ?_, HB5.out.trans (hbc.mono (Nat.le_trans HBS.out HSZ5.out)), Nat.le_trans HSZ5.out hbc.size, fun b hb h1 h2 h3 => (hbc.block b (Nat.lt_of_lt_of_le hb HSZ5.out)).trans (HKG.out b hb h1 h2 h3)⟩
        rw [HGV.out]
        exact H5.out.next hbc
    · have hue : (cur.h == -1) = false := by simp [hu]
      have hg : give st.sh st.wk i s = ⟨sameS cur s, st.sh, st.wk⟩ := by unfold give; rw [if_neg (by rw [hlen]; exact hin), hcur, if_neg hu]
      have HGV := Lib.hid hg
      obtain ⟨ds, hds⟩ : ∃ ds, ds = (shC cur).toArray := ⟨_, rfl⟩
      have HK : Hid (∀ W', Below W1.heap.size W1 W' → W'.cell? ⟨bS, 0, none⟩ = some (.slice (some ⟨aS, 0, none⟩) n cS) ∧ (ldS (.pointer (some ⟨aS, i * 34, none⟩))).run Tryd.prog W' = .ok (.agg ds) W' ∧ (ldS (.pointer (some ⟨z, 0, none⟩))).run Tryd.prog W' = .ok (.agg cs) W') := Lib.hid (fun W' hb => by
        have h5 := H1.out.next hb
        refine ⟨h5.blkS.cell 0, ?_, ?_⟩
        · have := h5.shut hin2
          rw [HCR.out, ← hds] at this
          exact this
        · have := Blk.load_sh hs (HZ.out.below hb HZ.out.lt)
          rw [← HCS.out] at this
          exact this)
      obtain ⟨r, hr⟩ : ∃ r, sameS cur s = r := ⟨_, rfl⟩
      have FS : Hid (∀ W', Below W1.heap.size W1 W' → Calls Tryd.prog 76 #[.agg ds, .agg cs] W' fun e w' => e = .returned (.bool r) ∧ Below W'.heap.size W' w') := Lib.hid (fun W' _ => by
        have := same_shape cur s hcl hs W'
        rw [hr] at this
        rw [HCS.out, hds]
        exact this)
      have HRR := Lib.hid hr
      have hbc : Below W1.heap.size W1 W1.drew := (Below.refl _ _).drew
      clear hg hcur hds hr
      go_enter Tryd.func75, Tryd.ntmps75
      go_upto_region 1 with fail
      rw [← HW1.out, ← HZZ.out]
      go_upto_region 6 with fail
      clear b0 s0 w0 a0 hd hue
      refine wp_region_noPanic ?_
      go_region_held2 (fun W' => W'.cell? ⟨bS, 0, none⟩ = some (.slice (some ⟨aS, 0, none⟩) n cS) ∧ (ldS (.pointer (some ⟨aS, i * 34, none⟩))).run Tryd.prog W' = .ok (.agg ds) W' ∧ (ldS (.pointer (some ⟨z, 0, none⟩))).run Tryd.prog W' = .ok (.agg cs) W')
        (exact HK.out _ hbc)
        (first
        | (go_at_call 76; refine (FS.out _ hbc).mono ?_; rintro e w6 ⟨rfl, hb6⟩; replace hbc := bt hbc hb6; clear hb6))
      all_goals
        refine NoPanic.normal ?_
        go_wp2_with fail
        go_ret
        have hbw := HB1.out.trans (hbc.mono HB1.out.size)
        refine ⟨Aw, cw, by rw [HGV.out]; show Ending.returned (.bool r) = _; rw [HRR.out], ?_, hbw.mono HBS.out, hbw.size, fun b hb _ _ _ => hbw.block b hb⟩
        rw [HGV.out]
        have h5 := H1.out.next hbc
        exact ⟨h5.blkB, h5.blkS, h5.blkW, h5.ownS, h5.ownW, h5.a33, h5.len, h5.low⟩
end Go.Proofs.YtbdknncmlcbbpaaDoor

/-
  slices.Repeat of one shape; math/bits.Mul of 1.
-/
namespace Go.Proofs.YtbdknncmlcbbpaaDoor
open Go.RowKit WM TR KM

set_option maxHeartbeats 1000000 in
theorem mul64_one (n : Nat) (hn : n < 4294967296) (w : World) : Calls Tryd.prog 96 #[.int .u64 1, .int .u64 (n : Int)] w fun e w' => e = .returned (.tuple #[.int .u64 0, .int .u64 (n : Int)]) ∧ w = w' := by
  have h1 : bits .and .u64 1 4294967295 = 1 := by kernel_rfl
  have h2 : bits .and .u64 (n : Int) 4294967295 = (n : Int) := by rw [and_low32 _ (by omega) (by omega)]; omega
  have h3 : (n : Int) / 4294967296 = 0 := by omega
  have h4 : IntKind.u64.wrap (n : Int) = (n : Int) := by rw [IntKind.wrap_u64]; omega
  have h5 : bits .and .u64 0 4294967295 = 0 := by kernel_rfl
  go_enter Tryd.func96, Tryd.ntmps96
  go_wp2
  go_ret2
  exact ⟨rfl, rfl⟩
theorem mul_one_ (n : Nat) (hn : n < 4294967296) (w : World) : Calls Tryd.prog 88 #[.int .u64 1, .int .u64 (n : Int)] w fun e w' => e = .returned (.tuple #[.int .u64 0, .int .u64 (n : Int)]) ∧ w = w' := by
  go_enter Tryd.func88, Tryd.ntmps88
  go_wp2_with (go_at_call 96; refine (mul64_one n hn _).mono ?_; rintro e w' ⟨rfl, rfl⟩)
  go_ret2
  exact ⟨rfl, rfl⟩
/-- A copy of wide elements between rows, kept shut. -/
def cpS (ts : Array TypeId) (t : TypeId) (vs : Array Value) : Sem Value := Builtin.copy_ ts t vs
theorem shutCp (ts : Array TypeId) (t : TypeId) (vs : Array Value) : Builtin.copy_ ts t vs = cpS ts t vs := rfl
theorem run_copy_wide {P : Program} (w : World) (dT sT ty elem : TypeId) (k g o dLen dCap : Nat) (a : Addr) (sLen sCap : Nat) (cur : Array Value) (t : TypeId) (cs : List Value)
    (hu : P.underlying dT = some (.slice elem)) (hs : (P.info? elem).map (·.size) = some k)
    (hg : w.heap[g]? = some (.cells cur t (0, 0))) (hn : cs.length = Nat.min sLen dLen * k)
    (hsrc : ∀ j v, cs[j]? = some v → w.cell? (a.add j) = some v) (hfit : o + cs.length ≤ cur.size) (h1 : ∀ v ∈ cs, v.oneCell' = true) :
    (Builtin.copy_ #[dT, sT] ty #[.slice (some ⟨g, o, none⟩) dLen dCap, .slice (some a) sLen sCap]).run P w =
      .ok (goInt (Nat.min sLen dLen : Nat)) (w.setRow g (cur.toList.take o ++ cs ++ cur.toList.drop (o + cs.length)).toArray) := by
  have hl := run_loadCells_list (P := P) w a cs hsrc
  have hst := run_storeCells_at P g o t cs 0 cur w hg (by simpa using hfit) h1
  cases hq : P.info? elem with
  | none => simp [hq] at hs
  | some i =>
    have hi : i.size = k := by simpa [hq] using hs
    simp [Builtin.copy_, run_underlying hu, Builtin.lenOf, Builtin.firstCells, sizeOf, typeInfo, hq, hi, ← hn, hl, hst]
def nos (m : Nat) : List Sh := List.replicate m noS
theorem nos33 (m : Nat) : All33 (nos m) := fun s hs => by rw [List.eq_of_mem_replicate hs]; simp [noS, zs33]
theorem shCs_append : ∀ l m : List Sh, shCs (l ++ m) = shCs l ++ shCs m
  | [], m => rfl
  | x :: l, m => by rw [List.cons_append, shCs, shCs_append l m, shCs, List.append_assoc]
theorem shCs_one : ∀ (l : List Sh), ∀ u ∈ shCs l, u.oneCell' = true
  | [], u, h => by cases h
  | x :: l, u, h => by
    rcases List.mem_append.1 h with h | h
    · exact shC_one x u h
    · exact shCs_one l u h
theorem nos_len (m : Nat) : (shCs (nos m)).length = m * 34 := by rw [shCs_length _ (nos33 m)]; simp [nos]
theorem nos_add (m q : Nat) : shCs (nos (m + q)) = shCs (nos m) ++ shCs (nos q) := by rw [← shCs_append]; unfold nos; rw [List.replicate_append_replicate]
/-- While it is being filled: the first m shapes are there. -/
structure Fil (w : World) (wr : World) (g n m : Nat) (cur : Array Value) : Prop where
  blk : Blk wr g 117 cur
  size : cur.size = n * 34
  head : cur.toList.take (m * 34) = shCs (nos m)
  low : w.heap.size ≤ g
  below : Below w.heap.size w wr
theorem Fil.src {w wr : World} {g n m : Nat} {cur : Array Value} (h : Fil w wr g n m cur) (q : Nat) (hq : q ≤ m) : ∀ j v, (shCs (nos q))[j]? = some v → wr.cell? ((⟨g, 0, none⟩ : Addr).add j) = some v := by
  intro j v hv
  rw [Addr.add_lit, Nat.zero_add, h.blk.cell j]
  obtain ⟨p, rfl⟩ : ∃ p, m = q + p := ⟨m - q, by omega⟩
  have h2 := h.head
  rw [nos_add] at h2
  have h3 : (cur.toList.take ((q + p) * 34))[j]? = some v := by
    rw [h2, List.getElem?_append_left (List.getElem?_eq_some_iff.1 hv).1]; exact hv
  rw [List.getElem?_take] at h3
  split at h3
  · simpa using h3
  · cases h3
theorem Fil.step {w wr : World} {g n m q : Nat} {cur : Array Value} (h : Fil w wr g n m cur) (hq : m + q ≤ n) : Fil w (wr.setRow g (cur.toList.take (m * 34) ++ shCs (nos q) ++ cur.toList.drop (m * 34 + (shCs (nos q)).length)).toArray) g n (m + q) (cur.toList.take (m * 34) ++ shCs (nos q) ++ cur.toList.drop (m * 34 + (shCs (nos q)).length)).toArray := by
  have hl : cur.toList.length = n * 34 := by simpa using h.size
  refine ⟨h.blk.setRow _, ?_, ?_, h.low, below_setRow h.below h.low _⟩
  · rw [List.size_toArray, List.length_append, List.length_append, List.length_take, List.length_drop, nos_len, hl]; omega
  · show List.take _ (_ ++ _ ++ _) = _
    rw [h.head, nos_add, List.take_append_of_le_length (by rw [List.length_append, nos_len, nos_len]; omega), List.take_of_length_le (by rw [List.length_append, nos_len, nos_len]; omega)]
theorem made_sh (n : Nat) (hn : n ≤ 5000) (W : World) : ∃ cur, cur.size = n * 34 ∧ (Instr.makeSlice 112 (.int .i64 (n : Int)) (.int .i64 (n : Int))).run Tryd.prog W = .ok (.slice (some ⟨W.heap.size, 0, none⟩) n n) (W.alloc (.cells cur 117)) := by
  have hinfo : (Tryd.prog.info? 117).map (fun i => (i.zero.isSome, i.size, i.bytes)) = some (true, 34, 80) := by kernel_rfl
  obtain ⟨i, hi, hzz⟩ := Option.map_eq_some_iff.1 hinfo
  simp only [Prod.mk.injEq] at hzz
  obtain ⟨hz, hs, hb⟩ := hzz
  obtain ⟨z, hz⟩ := Option.isSome_iff_exists.1 hz
  have hr := run_make (P := Tryd.prog) W 112 117 i z Tryd.underlying112 hi hz .i64 .i64 (n : Int) (n : Int) (by omega) (Int.le_refl _) (by rw [hb]; omega) (by omega)
  simp only [Int.toNat_natCast, hs] at hr
  exact ⟨_, size_madeCells _ _, hr⟩
theorem cutL (g n m : Nat) (hm : m < n) : ∀ W : World, (Instr.sliceAt 112 (.slice (some ⟨g, 0, none⟩) n n) (some (.int .i64 (m : Int))) none none).run Tryd.prog W = .ok (.slice (some ⟨g, m * 34, none⟩) (n - m) (n - m)) W := by
  intro W
  have he : Tryd.prog.elem 112 = 117 := by kernel_rfl
  have hu : Tryd.prog.underlying 112 = some (.slice (Tryd.prog.elem 112)) := by kernel_rfl
  have h34 : (sizeOf 117).run Tryd.prog W = .ok 34 W := by kernel_rfl
  rw [run_sliceAt_slice W 112 _ _ _ _ hu, run_slice_l W 112 (some ⟨g, 0, none⟩) n n hu .i64 m (by omega) (by omega), he, h34]
  have h2 : ¬ n = m := by omega
  simp [sliced, h2, Addr.add]
  omega
theorem cutH (g n m : Nat) (hm : m ≤ n) (h0 : 0 < n) : ∀ W : World, (Instr.sliceAt 112 (.slice (some ⟨g, 0, none⟩) n n) none (some (.int .i64 (m : Int))) none).run Tryd.prog W = .ok (.slice (some ⟨g, 0, none⟩) m n) W := by
  intro W
  have he : Tryd.prog.elem 112 = 117 := by kernel_rfl
  have hu : Tryd.prog.underlying 112 = some (.slice (Tryd.prog.elem 112)) := by kernel_rfl
  have h34 : (sizeOf 117).run Tryd.prog W = .ok 34 W := by kernel_rfl
  rw [run_sliceAt_slice W 112 _ _ _ _ hu, run_slice_h W 112 (some ⟨g, 0, none⟩) n n hu .i64 m (by omega) (by omega), he, h34]
  have h2 : ¬ n = 0 := by omega
  simp [sliced, h2, Addr.add]
attribute [local go_sem ↓ high] shutCp
set_option maxRecDepth 100000 in
set_option maxHeartbeats 4000000 in
theorem rpt_is (gx n : Nat) (w : World) (hx : Blk w gx 117 (shC noS).toArray) (hn : 1 ≤ n ∧ n ≤ 5000) :
    Calls Tryd.prog 74 #[.slice (some ⟨gx, 0, none⟩) 1 1, .int .i64 (n : Int)] w fun e w' => ∃ g, e = .returned (.slice (some ⟨g, 0, none⟩) n n) ∧ w.heap.size ≤ g ∧ w'.ownsRow w.heap.size 117 34 (.slice (some ⟨g, 0, none⟩) n n) n (shCs (nos n)) ∧ Below w.heap.size w w' := by
  obtain ⟨cur, hcs, hmk⟩ := made_sh n hn.2 w
  have hw1 : IntKind.u64.wrap (n : Int) = (n : Int) := by rw [IntKind.wrap_u64]; omega
  have hw2 : IntKind.i64.wrap (n : Int) = (n : Int) := by rw [IntKind.wrap_i64]; omega
  have hd0 : decide ((n : Int) < 0) = false := by simp
  have hd1 : decide ((n : Int) > 9223372036854775807) = false := by simp; omega
  have HM : Hid (Calls Tryd.prog 88 #[.int .u64 1, .int .u64 (n : Int)] w fun e w' => e = .returned (.tuple #[.int .u64 0, .int .u64 (n : Int)]) ∧ w = w') := Lib.hid (mul_one_ n (by omega) w)
  obtain ⟨g, hg⟩ : ∃ g, g = w.heap.size := ⟨_, rfl⟩
  obtain ⟨W1, hW1⟩ : ∃ W1, W1 = w.alloc (.cells cur 117) := ⟨_, rfl⟩
  have hF0 : Fil w W1 g n 0 cur := ⟨by rw [hW1, hg]; exact Blk.new _ _ _, hcs, rfl, Nat.le_of_eq hg.symm, by rw [hW1]; exact below_new _ _⟩
  have hsrc : ∀ j v, (shCs (nos 1))[j]? = some v → W1.cell? ((⟨gx, 0, none⟩ : Addr).add j) = some v := fun j v hv => by
    have hb := hx.below (w' := W1) (by rw [hW1]; exact below_new _ _) hx.lt
    rw [Addr.add_lit, Nat.zero_add, hb.cell j]
    simpa [nos, shCs] using hv
  have hcp := run_copy_wide (P := Tryd.prog) W1 112 112 3 117 34 g 0 n n ⟨gx, 0, none⟩ 1 1 cur 117 (shCs (nos 1)) Tryd.underlying112 size_sh hF0.blk (by rw [nos_len, show Nat.min 1 n = 1 from Nat.min_eq_left hn.1]) hsrc (by rw [nos_len, hcs]; omega) (shCs_one _)
  have hF1 := hF0.step (q := 1) (by omega)
  rw [show (0 : Nat) * 34 = 0 from rfl] at hF1
  rw [show Nat.min 1 n = 1 from Nat.min_eq_left hn.1] at hcp
  obtain ⟨W2, hW2⟩ : ∃ W2, W2 = W1.setRow g (cur.toList.take 0 ++ shCs (nos 1) ++ cur.toList.drop (0 + (shCs (nos 1)).length)).toArray := ⟨_, rfl⟩
  rw [← hW2] at hcp hF1
  have hcp2 : (cpS #[112, 112] 3 #[.slice (some ⟨g, 0, none⟩) n n, .slice (some ⟨gx, 0, none⟩) 1 1]).run Tryd.prog W1 = .ok (.int .i64 1) W2 := hcp
  have HF1 : Hid (∃ cur1, Fil w W2 g n 1 cur1) := Lib.hid ⟨_, hF1⟩
  rw [← hW1, ← hg] at hmk
  have HGW := Lib.hid hg
  clear hcp hF0 hF1 hW2 hW1 hsrc hx hcs hg
  go_enter Tryd.func74, Tryd.ntmps74
  go_wp2_with (go_at_call 88; refine HM.out.mono ?_; rintro e w' ⟨rfl, rfl⟩)
  go_loopw [8] (fun s wr => ∃ m : Nat, 1 ≤ m ∧ m ≤ n ∧ s = .int .i64 m ∧ Hid (∃ cur1, Fil w wr g n m cur1)) (fun s _ => n - (intOf s).toNat)
  case atStart => exact ⟨1, Nat.le_refl _, hn.1, rfl, HF1.out⟩
  case round =>
    obtain ⟨m, hm1, hmn, rfl, HF⟩ := hrel
    clear HF1 HM hcp2 hmk hw1 hw2 hd0 hd1
    by_cases hlt : m < n
    · have hlt2 : (m : Int) < n := by omega
      obtain ⟨cur1, hF⟩ := HF.out
      have hFd : Fil w wr.drew g n m cur1 := ⟨hF.blk, hF.size, hF.head, hF.low, hF.below.drew⟩
      obtain ⟨q, hq⟩ : ∃ q, Nat.min m (n - m) = q := ⟨_, rfl⟩
      have hqb : 1 ≤ q ∧ q ≤ m ∧ m + q ≤ n := by
        have h1 := Nat.min_le_left m (n - m)
        have h2 := Nat.min_le_right m (n - m)
        have h3 : 1 ≤ Nat.min m (n - m) := Nat.le_min.2 ⟨hm1, by omega⟩
        have e : Nat.min m (n - m) = min m (n - m) := rfl
        omega
      have hcp := run_copy_wide (P := Tryd.prog) wr.drew 112 112 3 117 34 g (m * 34) (n - m) (n - m) ⟨g, 0, none⟩ m n cur1 117 (shCs (nos q)) Tryd.underlying112 size_sh hFd.blk (by rw [nos_len, hq]) (hFd.src q hqb.2.1) (by rw [nos_len, hFd.size]; omega) (shCs_one _)
      have hF2 := hFd.step (q := q) hqb.2.2
      obtain ⟨W5, hW5⟩ : ∃ W5, W5 = wr.drew.setRow g (cur1.toList.take (m * 34) ++ shCs (nos q) ++ cur1.toList.drop (m * 34 + (shCs (nos q)).length)).toArray := ⟨_, rfl⟩
      rw [← hW5] at hcp hF2
      rw [hq] at hcp
      have hcp3 : (cpS #[112, 112] 3 #[.slice (some ⟨g, m * 34, none⟩) (n - m) (n - m), .slice (some ⟨g, 0, none⟩) m n]).run Tryd.prog wr.drew = .ok (.int .i64 (q : Int)) W5 := hcp
      have HF2 : Hid (∃ cur2, Fil w W5 g n (m + q) cur2) := Lib.hid ⟨_, hF2⟩
      have hL := cutL g n m hlt
      have hH := cutH g n m hmn (by omega)
      have hwq : IntKind.i64.wrap ((m : Int) + (q : Int)) = (m : Int) + (q : Int) := by rw [IntKind.wrap_i64]; omega
      clear hcp hF2 hW5 hF hFd hq HF
      go_wp2_with fail
      go_region_with fail
      all_goals
        go_simp
        go_roundw
        case rel => exact ⟨.int .i64 ((m : Int) + (q : Int)), _, _, _, _, _, _, _, _, _, _, _, _, _, ⟨m + q, by omega, hqb.2.2, by go_num, HF2.out⟩, rfl⟩
        case measure => simp [intOf]; omega
    · have hme : m = n := by omega
      subst hme
      go_wp2_with fail
      go_ret
      obtain ⟨cur1, hF⟩ := HF.out
      refine ⟨g, rfl, hF.low, ⟨by rw [nos_len], .inr ⟨g, m, cur1, rfl, hF.low, hF.blk, Nat.le_refl _, by unfold maxLen; omega, hF.size, hF.head⟩⟩, hF.below⟩
end Go.Proofs.YtbdknncmlcbbpaaDoor
