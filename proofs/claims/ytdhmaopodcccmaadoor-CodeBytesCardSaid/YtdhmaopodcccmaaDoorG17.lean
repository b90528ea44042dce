/-
  HEIGHTS: give, walked.
-/
import Derived.Test.YtdhmaopodcccmaaDoorG16
import Derived.Test.YtdhmaopodcccmaaDoorG08
set_option linter.unusedVariables false
namespace Go.Proofs.YtdhmaopodcccmaaDoor
open Go.RowKit WM TR KM

/-- Blocks that are there stay, but that of the shapes, that of the variable work, and that of its row. -/
def KeepG (w : World) (aS bW : Nat) (v : Value) (w' : World) : Prop := ∀ b, b < w.heap.size → b ≠ aS → b ≠ bW → v.ownBlock ≠ some b → w'.heap[b]? = w.heap[b]?
/-- What give leaves. -/
def GivePost (B bB bS bW aS n : Nat) (vb : Value) (cS : Nat) (st : St) (Aw : Option Addr) (cw i : Nat) (s : Sh) (w : World) (e : Ending) (w' : World) : Prop :=
  ∃ Aw' cw', e = .returned (.bool (give st.sh st.wk i s).ok) ∧ HtW B w' bB bS bW aS n vb cS (give st.sh st.wk i s) Aw' cw' ∧ Below B w w' ∧ w.heap.size ≤ w'.heap.size ∧ KeepG w aS bW (.slice Aw st.wk.length cw) w'
theorem HtW.push {B : Nat} {w w4 : World} {bB bS bW aS n : Nat} {vb : Value} {cS : Nat} {st : St} {Aw A4 : Option Addr} {cw c4 i : Nat} {o : Obj} (h : HtW B w bB bS bW aS n vb cS st Aw cw) (hg : (w.alloc o).grownBy w4 (Value.slice Aw st.wk.length cw).ownBlock)
    (ho : w4.ownsRow B 3 1 (.slice A4 (st.wk.length + 1) c4) (st.wk.length + 1) (vi (st.wk.map fun i : Nat => (i : Int)) ++ [.int .i64 (i : Int)])) :
    HtW B (w4.setCell ⟨bW, 0, none⟩ (.slice A4 (st.wk.length + 1) c4)) bB bS bW aS n vb cS ⟨true, st.sh, st.wk ++ [i]⟩ A4 c4 := by
  obtain ⟨n1, n2, n3, n4, n5⟩ := h.neS
  have hbW : Blk w4 bW 22 #[.slice Aw st.wk.length cw] := (h.blkW.alloc _).grown hg (fun e => (h.neW bW e.symm).1 rfl)
  have hS : w4.ownsRow B 117 34 (.slice (some ⟨aS, 0, none⟩) n cS) n (shCs st.sh) := (h.ownS.alloc _).kept hg (.inr fun e => (h.neW aS e.symm).2.2.2 rfl)
  refine ⟨((h.blkB.alloc _).grown hg (fun e => (h.neW bB e.symm).2.2.1 rfl)).far (by show bB ≠ bW; omega) _, ((h.blkS.alloc _).grown hg (fun e => (h.neW bS e.symm).2.1 rfl)).far (by show bS ≠ bW; omega) _, ?_, ownsRow_setCell_other hS (fun e => by have : aS = bW := Option.some.inj e; omega) _, ?_, h.a33, h.len, h.low⟩
  · have := hbW.set_ 0 (.slice A4 (st.wk.length + 1) c4)
    rw [List.length_append]
    simpa using this
  · have hne : (Value.slice A4 (st.wk.length + 1) c4).ownBlock ≠ some bW := own_blk_ne ho hbW tyS.2.2.2.1
    have h2 := ownsRow_setCell_other ho (a := ⟨bW, 0, none⟩) hne (.slice A4 (st.wk.length + 1) c4)
    rw [List.length_append]
    simpa [vi] using h2
theorem HtW.shut {B : Nat} {w : World} {bB bS bW aS n : Nat} {vb : Value} {cS : Nat} {st : St} {Aw : Option Addr} {cw i : Nat} (h : HtW B w bB bS bW aS n vb cS st Aw cw) (hi : i < n) : (ldS (.pointer (some ⟨aS, i * 34, none⟩))).run Tryd.prog w = .ok (.agg (shC (shAt st.sh i)).toArray) w := by
  refine Go.Proofs.YtdhmaopodcccmaaDoor.load_sh ?_ (h.at_ hi)
  unfold shAt
  have : i < st.sh.length := by have := h.len; omega
  rw [List.getElem?_eq_getElem this]
  exact h.a33 _ (List.getElem_mem this)
attribute [local go_sem ↓] shutS
theorem int_info1 : (Tryd.prog.info? 3).map (fun i => (i.zero, i.size, i.bytes)) = some (some (.int .i64 0), 1, 8) := by kernel_rfl
set_option maxRecDepth 100000 in
set_option maxHeartbeats 8000000 in
theorem give_is {B : Nat} {w : World} {bB bS bW aS n : Nat} {Ab : Option Addr} {cb cS : Nat} {st : St} {Aw : Option Addr} {cw : Nat} (h : HtW B w bB bS bW aS n (.slice Ab n cb) cS st Aw cw) (i : Nat) (hi : i ≤ n) (s : Sh) (hs : s.l.length = 33) (hn : n ≤ 5000) (hwl : st.wk.length ≤ 5000) (hB : B ≤ w.heap.size) :
    Calls Tryd.prog 75 #[.int .i64 (i : Int), .agg (shC s).toArray, .pointer (some ⟨bB, 0, none⟩), .pointer (some ⟨bS, 0, none⟩), .pointer (some ⟨bW, 0, none⟩)] w (GivePost B bB bS bW aS n (.slice Ab n cb) cS st Aw cw i s w) := by
  obtain ⟨i0, gi, gz0, gz1, gz2⟩ := info_parts int_info1
  obtain ⟨z, hz⟩ : ∃ z, z = w.heap.size := ⟨_, rfl⟩
  obtain ⟨W1, hW1⟩ : ∃ W1, W1 = w.alloc (.cells (shC s).toArray 117) := ⟨_, rfl⟩
  have hb1 : Below w.heap.size w W1 := by rw [hW1]; exact below_new _ _
  have H1 : Hid (HtW B W1 bB bS bW aS n (.slice Ab n cb) cS st Aw cw) := Lib.hid (h.next hb1)
  have HZ : Hid (Blk W1 z 117 (shC s).toArray) := Lib.hid (by rw [hW1, hz]; exact Blk.new _ _ _)
  have hlen := h.len
  obtain ⟨cs, hcs⟩ : ∃ cs, cs = (shC s).toArray := ⟨_, rfl⟩
  have HW1 : Hid (W1 = w.alloc (.cells cs 117)) := Lib.hid (by rw [hcs]; exact hW1)
  have HCS := Lib.hid hcs
  have HB1 := Lib.hid hb1
  have HZZ := Lib.hid hz
  have HH := Lib.hid h
  have HBS := Lib.hid hB
  have b0 : W1.cell? ⟨bB, 0, none⟩ = some (.slice Ab n cb) := H1.out.blkB.cell 0
  have s0 : W1.cell? ⟨bS, 0, none⟩ = some (.slice (some ⟨aS, 0, none⟩) n cS) := H1.out.blkS.cell 0
  have w0 : W1.cell? ⟨bW, 0, none⟩ = some (.slice Aw st.wk.length cw) := H1.out.blkW.cell 0
  rw [← hcs]
  clear hcs hW1 hz hb1 h hB
  by_cases hin : i = n
  · have hg : give st.sh st.wk i s = ⟨false, st.sh, st.wk⟩ := by unfold give; rw [if_pos (by rw [hlen]; exact hin)]
    have HGV := Lib.hid hg
    have hd : ((i : Int) == (n : Int)) = true := by simp [hin]
    clear hg
    go_enter Tryd.func75, Tryd.ntmps75
    go_upto_region 1 with fail
    rw [← HW1.out]
    go_wp2_with fail
    go_ret
    refine ⟨Aw, cw, by rw [HGV.out]; rfl, ?_, HB1.out.mono HBS.out, HB1.out.size, fun b hb _ _ _ => HB1.out.block b hb⟩
    rw [HGV.out]
    exact ⟨H1.out.blkB, H1.out.blkS, H1.out.blkW, H1.out.ownS, H1.out.ownW, H1.out.a33, H1.out.len, H1.out.low⟩
  · have hd : ((i : Int) == (n : Int)) = false := by simp; omega
    have hib : (0 : Int) ≤ (i : Int) ∧ (i : Int) < (n : Int) := ⟨by omega, by omega⟩
    have hin2 : i < n := by omega
    obtain ⟨cur, hcur⟩ : ∃ cur, shAt st.sh i = cur := ⟨_, rfl⟩
    have a0 : W1.cell? ⟨aS, i * 34, none⟩ = some (.int .i64 cur.h) := by
      have := H1.out.at_ hin2 0 (.int .i64 cur.h) (by rw [hcur]; rfl)
      rwa [Nat.add_zero] at this
    have hcl : cur.l.length = 33 := by
      rw [← hcur]
      unfold shAt
      have : i < st.sh.length := by omega
      rw [List.getElem?_eq_getElem this]
      exact H1.out.a33 _ (List.getElem_mem this)
    have HCR := Lib.hid hcur
    by_cases hu : cur.h = -1
    · have hue : (cur.h == -1) = true := by simp [hu]
      have hg : give st.sh st.wk i s = ⟨true, st.sh.set i s, st.wk ++ [i]⟩ := by unfold give; rw [if_neg (by rw [hlen]; exact hin), hcur, if_pos hu]
      have HGV := Lib.hid hg
      have hld := Blk.load_sh hs HZ.out
      rw [← HCS.out] at hld
      clear hg hcur
      go_enter Tryd.func75, Tryd.ntmps75
      go_upto_region 1 with fail
      rw [← HW1.out, ← HZZ.out]
      have hsz : (Tryd.prog.info? 117).map (·.size) = some cs.size := by rw [size_sh, HCS.out, List.size_toArray, shC_length, hs]
      have HSZ := Lib.hid hsz
      have hsz2 : cs.size = 34 := by rw [HCS.out, List.size_toArray, shC_length, hs]
      have HTH : Hid (W1.there aS (i * 34) cs.size) := Lib.hid (by rw [hsz2]; exact H1.out.there hin2)
      clear hsz hsz2
      go_upto_region 5 with (refine wpList_store_mid rfl 117 (.tmp 21) (.tmp 20) rfl aS (i * 34) cs rfl rfl HTH.out HSZ.out (by rw [HCS.out]; exact all_oneCell_toArray (shC_one s)) ?_)
      obtain ⟨W2, hW2⟩ : ∃ W2, W2 = W1.setCells aS (i * 34) cs.toList := ⟨_, rfl⟩
      have H2 : Hid (HtW B W2 bB bS bW aS n (.slice Ab n cb) cS ⟨st.ok, st.sh.set i s, st.wk⟩ Aw cw) := Lib.hid (by rw [hW2, HCS.out, List.toList_toArray]; exact H1.out.put hin2 hs)
      have HK2 : Hid (∀ b, b ≠ aS → W2.heap[b]? = W1.heap[b]?) := Lib.hid (fun b hb => by rw [hW2]; exact setCells_heap aS _ _ W1 b hb)
      have HS2 : Hid (W2.heap.size = W1.heap.size) := Lib.hid (by rw [hW2]; exact setCells_size _ _ _ _)
      have HBL : Hid (∀ C, C ≤ aS → Below C W1 W2) := Lib.hid (fun C hC => by rw [hW2]; exact below_setCells hC _ _ _ (Below.refl _ _))
      rw [← hW2]
      clear hW2 b0 s0 w0 a0 hld
      have s0 : W2.cell? ⟨bS, 0, none⟩ = some (.slice (some ⟨aS, 0, none⟩) n cS) := H2.out.blkS.cell 0
      have w0 : W2.cell? ⟨bW, 0, none⟩ = some (.slice Aw st.wk.length cw) := H2.out.blkW.cell 0
      have hrw : Reads (W2.alloc (.cells #[.int .i64 (i : Int)] 3)) (W2.heap.size + 1) 1 (some ⟨W2.heap.size, 0, none⟩) 1 [.int .i64 (i : Int)] := ⟨rfl, fun _ => ⟨_, rfl, Nat.lt_succ_self _, cells_new W2 [.int .i64 (i : Int)] 3⟩⟩
      have HRW := Lib.hid hrw
      clear hrw
      have hBW2 : B ≤ W2.heap.size := by rw [HS2.out]; exact Nat.le_trans HBS.out HB1.out.size
      go_upto_region 6 with (first
        | (at_builtin; refine wpList_append_any _ rfl (.tmp 22) (.tmp 24) 22 rfl B 3 i0 _ 1 8 Tryd.underlying22 gi gz0 gz1 gz2 rfl (by omega) (.slice Aw st.wk.length cw) st.wk.length (vi (st.wk.map fun i : Nat => (i : Int))) rfl (H2.out.ownW.alloc _) _ (some ⟨W2.heap.size, 0, none⟩) 1 1 [.int .i64 (i : Int)] rfl HRW.out (int_one _ _) (len_le (by omega)) (by omega) (by rw [size_alloc]; omega) ?_
           intro v4 w4 hown4 hgrow4 hnew4
           obtain ⟨A4, c4, rfl, _⟩ := own_len hown4
           have HN := Lib.hid hnew4
           have HG4 := Lib.hid hgrow4
           have HO4 := Lib.hid hown4
           have hbw4 : Blk w4 bW 22 #[.slice Aw st.wk.length cw] := (H2.out.blkW.alloc _).grown hgrow4 (fun e => (H2.out.neW bW e.symm).1 rfl)
           clear w0
           have w0 := hbw4.cell 0
           have fw := hbw4.frozen 0
           simp only [List.getElem?_toArray, List.getElem?_cons_zero] at w0
           have HBW4 := Lib.hid hbw4
           clear hown4 hgrow4 hnew4 hbw4))
      obtain ⟨W5, hW5⟩ : ∃ W5, W5 = w4.setCell ⟨bW, 0, none⟩ (.slice A4 (st.wk.length + 1) c4) := ⟨_, rfl⟩
      have H5 : Hid (HtW B W5 bB bS bW aS n (.slice Ab n cb) cS ⟨true, st.sh.set i s, st.wk ++ [i]⟩ A4 c4) := Lib.hid (by rw [hW5]; exact H2.out.push HG4.out HO4.out)
      obtain ⟨nz1, nz2, nz3, nz4, nz5⟩ := H1.out.neS
      have hzl : w.heap.size ≤ z := Nat.le_of_eq HZZ.out.symm
      have haS : aS < w.heap.size := by obtain ⟨cur', hc', _⟩ := HH.out.rowS; exact hc'.lt
      have hbWl : bW < w.heap.size := HH.out.blkW.lt
      have hkeep : ∀ b, b < W1.heap.size → b ≠ aS → b ≠ bW → (Value.slice Aw st.wk.length cw).ownBlock ≠ some b → W5.heap[b]? = W1.heap[b]? := fun b hb h1 h2 h3 => by
        rw [hW5, Below.heap_setCell w4 ⟨bW, 0, none⟩ _ b h2]
        have hb2 : b < W2.heap.size := by rw [HS2.out]; exact hb
        rw [HG4.out.block b (by rw [size_alloc]; omega) (fun e => h3 e.symm), Below.heap_alloc W2 _ b hb2]
        exact HK2.out b h1
      have HZ5 : Hid (Blk W5 z 117 (shC s).toArray) := Lib.hid ((hkeep z HZ.out.lt (by omega) (by omega) (fun e => by have := (HH.out.ownW.lt z e).2; omega)).trans HZ.out)
      have HB5 : Hid (Below B w W5) := Lib.hid (by
        have a1 : Below B w W2 := (HB1.out.mono HBS.out).trans (HBL.out B (by obtain ⟨_, _, h⟩ := HH.out.rowS; exact h))
        have a2 := a1.alloc hBW2 (.cells #[.int .i64 (i : Int)] 3)
        have a3 : Below B w w4 := ⟨HG4.out.os.trans a2.os, HG4.out.tape.trans a2.tape, HG4.out.output.trans a2.output, Nat.le_trans a2.size HG4.out.size, fun b hb => (HG4.out.block b (Nat.lt_of_lt_of_le (Nat.lt_of_lt_of_le hb HBS.out) a2.size) (fun e => by have := (HH.out.ownW.lt b e.symm).1; omega)).trans (a2.block b hb)⟩
        rw [hW5]
        exact a3.setCell (p := ⟨bW, 0, none⟩) HH.out.low.2.2 _)
      have HSZ5 : Hid (w.heap.size ≤ W5.heap.size) := Lib.hid (by
        have := HG4.out.size
        rw [size_alloc, HS2.out] at this
        have h2 := HB1.out.size
        rw [hW5, World.size_setCell]; omega)
      have HKG : Hid (KeepG w aS bW (.slice Aw st.wk.length cw) W5) := Lib.hid (fun b hb h1 h2 h3 => (hkeep b (Nat.lt_of_lt_of_le hb HB1.out.size) h1 h2 h3).trans (HB1.out.block b hb))
      have hsa : shAt (st.sh.set i s) i = s := by rw [shAt_set (by omega), if_pos rfl]
      have HK : Hid (∀ W', Below W5.heap.size W5 W' → W'.cell? ⟨bS, 0, none⟩ = some (.slice (some ⟨aS, 0, none⟩) n cS) ∧ (ldS (.pointer (some ⟨aS, i * 34, none⟩))).run Tryd.prog W' = .ok (.agg cs) W' ∧ (ldS (.pointer (some ⟨z, 0, none⟩))).run Tryd.prog W' = .ok (.agg cs) W') := Lib.hid (fun W' hb => by
        have h5 := H5.out.next hb
        refine ⟨h5.blkS.cell 0, ?_, ?_⟩
        · have := h5.shut hin2
          rw [show shAt (St.mk true (st.sh.set i s) (st.wk ++ [i])).sh i = s from hsa, ← HCS.out] at this
          exact this
        · have := Blk.load_sh hs (HZ5.out.below hb HZ5.out.lt)
          rw [← HCS.out] at this
          exact this)
      have FS : Hid (∀ W', Below W5.heap.size W5 W' → Calls Tryd.prog 76 #[.agg cs, .agg cs] W' fun e w' => e = .returned (.bool true) ∧ Below W'.heap.size W' w') := Lib.hid (fun W' _ => by
        have := same_shape s s hs hs W'
        rw [sameS_iff.2 rfl] at this
        rw [HCS.out]
        exact this)
      have hbc : Below W5.heap.size W5 W5.drew := (Below.refl _ _).drew
      rw [← hW5]
      clear hW5 hkeep s0 w0 fw hd hue
      refine wp_region_noPanic ?_
      go_region_held2 (fun W' => W'.cell? ⟨bS, 0, none⟩ = some (.slice (some ⟨aS, 0, none⟩) n cS) ∧ (ldS (.pointer (some ⟨aS, i * 34, none⟩))).run Tryd.prog W' = .ok (.agg cs) W' ∧ (ldS (.pointer (some ⟨z, 0, none⟩))).run Tryd.prog W' = .ok (.agg cs) W')
        (exact HK.out _ hbc)
        (first
        | (go_at_call 76; refine (FS.out _ hbc).mono ?_; rintro e w6 ⟨rfl, hb6⟩; replace hbc := bt hbc hb6; clear hb6))
      all_goals
        refine NoPanic.normal ?_
        go_wp2_with fail
        go_ret
        refine ⟨A4, c4, by rw [HGV.out]; rfl, ?_, HB5.out.trans (hbc.mono (Nat.le_trans HBS.out HSZ5.out)), Nat.le_trans HSZ5.out hbc.size, fun b hb h1 h2 h3 => (hbc.block b (Nat.lt_of_lt_of_le hb HSZ5.out)).trans (HKG.out b hb h1 h2 h3)⟩
        rw [HGV.out]
        exact H5.out.next hbc
    · have hue : (cur.h == -1) = false := by simp [hu]
      have hg : give st.sh st.wk i s = ⟨sameS cur s, st.sh, st.wk⟩ := by unfold give; rw [if_neg (by rw [hlen]; exact hin), hcur, if_neg hu]
      have HGV := Lib.hid hg
      obtain ⟨ds, hds⟩ : ∃ ds, ds = (shC cur).toArray := ⟨_, rfl⟩
      have HK : Hid (∀ W', Below W1.heap.size W1 W' → W'.cell? ⟨bS, 0, none⟩ = some (.slice (some ⟨aS, 0, none⟩) n cS) ∧ (ldS (.pointer (some ⟨aS, i * 34, none⟩))).run Tryd.prog W' = .ok (.agg ds) W' ∧ (ldS (.pointer (some ⟨z, 0, none⟩))).run Tryd.prog W' = .ok (.agg cs) W') := Lib.hid (fun W' hb => by
        have h5 := H1.out.next hb
        refine ⟨h5.blkS.cell 0, ?_, ?_⟩
        · have := h5.shut hin2
          rw [HCR.out, ← hds] at this
          exact this
        · have := Blk.load_sh hs (HZ.out.below hb HZ.out.lt)
          rw [← HCS.out] at this
          exact this)
      obtain ⟨r, hr⟩ : ∃ r, sameS cur s = r := ⟨_, rfl⟩
      have FS : Hid (∀ W', Below W1.heap.size W1 W' → Calls Tryd.prog 76 #[.agg ds, .agg cs] W' fun e w' => e = .returned (.bool r) ∧ Below W'.heap.size W' w') := Lib.hid (fun W' _ => by
        have := same_shape cur s hcl hs W'
        rw [hr] at this
        rw [HCS.out, hds]
        exact this)
      have HRR := Lib.hid hr
      have hbc : Below W1.heap.size W1 W1.drew := (Below.refl _ _).drew
      clear hg hcur hds hr
      go_enter Tryd.func75, Tryd.ntmps75
      go_upto_region 1 with fail
      rw [← HW1.out, ← HZZ.out]
      go_upto_region 6 with fail
      clear b0 s0 w0 a0 hd hue
      refine wp_region_noPanic ?_
      go_region_held2 (fun W' => W'.cell? ⟨bS, 0, none⟩ = some (.slice (some ⟨aS, 0, none⟩) n cS) ∧ (ldS (.pointer (some ⟨aS, i * 34, none⟩))).run Tryd.prog W' = .ok (.agg ds) W' ∧ (ldS (.pointer (some ⟨z, 0, none⟩))).run Tryd.prog W' = .ok (.agg cs) W')
        (exact HK.out _ hbc)
        (first
        | (go_at_call 76; refine (FS.out _ hbc).mono ?_; rintro e w6 ⟨rfl, hb6⟩; replace hbc := bt hbc hb6; clear hb6))
      all_goals
        refine NoPanic.normal ?_
        go_wp2_with fail
        go_ret
        have hbw := HB1.out.trans (hbc.mono HB1.out.size)
        refine ⟨Aw, cw, by rw [HGV.out]; show Ending.returned (.bool r) = _; rw [HRR.out], ?_, hbw.mono HBS.out, hbw.size, fun b hb _ _ _ => hbw.block b hb⟩
        rw [HGV.out]
        have h5 := H1.out.next hbc
        exact ⟨h5.blkB, h5.blkS, h5.blkW, h5.ownS, h5.ownW, h5.a33, h5.len, h5.low⟩
end Go.Proofs.YtdhmaopodcccmaaDoor
