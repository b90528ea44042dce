/-
  scoriaref02.words: the words of a block, by the reference.
-/
import Derived.Test.YtikinofopkjdjaaDoorG11
set_option linter.unusedVariables false
namespace Go.Proofs.YtikinofopkjdjaaDoor
open Go.RowKit

theorem word_val (b : List UInt8) (hb : b.length = 64) (t : Nat) (ht : t < 16) :
    word b t = BitVec.ofNat 32 (b[4 * t]'(by omega)).toNat <<< 24 ||| BitVec.ofNat 32 (b[4 * t + 1]'(by omega)).toNat <<< 16 ||| BitVec.ofNat 32 (b[4 * t + 2]'(by omega)).toNat <<< 8 ||| BitVec.ofNat 32 (b[4 * t + 3]'(by omega)).toNat := by
  have e : (b.drop (4 * t)).take 4 = [b[4 * t]'(by omega), b[4 * t + 1]'(by omega), b[4 * t + 2]'(by omega), b[4 * t + 3]'(by omega)] := by
    apply List.ext_getElem?
    intro j
    rw [List.getElem?_take, List.getElem?_drop]
    rcases j with _ | _ | _ | _ | j
    · simp [List.getElem?_eq_getElem (show 4 * t < b.length by omega)]
    · simp [List.getElem?_eq_getElem (show 4 * t + 1 < b.length by omega)]
    · simp [List.getElem?_eq_getElem (show 4 * t + 2 < b.length by omega)]
    · simp [List.getElem?_eq_getElem (show 4 * t + 3 < b.length by omega)]
    · rw [if_neg (by omega)]; rfl
  unfold word
  rw [e]
  simp only [fold4, List.foldl_cons, List.foldl_nil]
  simp only [BitVec.shiftLeft_or_distrib, ← BitVec.shiftLeft_add]
  simp

theorem cast32 (c : UInt8) : (c.toNat : Int) % 4294967296 = ((BitVec.ofNat 32 c.toNat).toNat : Int) := by
  rw [BitVec.toNat_ofNat]; omega

theorem shl24 (x : BitVec 32) : (x.toNat : Int) * (16777216 : Int) % (4294967296 : Int) = ((x <<< 24).toNat : Int) := shl32' x 24
theorem shl16 (x : BitVec 32) : (x.toNat : Int) * (65536 : Int) % (4294967296 : Int) = ((x <<< 16).toNat : Int) := shl32' x 16
theorem shl8 (x : BitVec 32) : (x.toNat : Int) * (256 : Int) % (4294967296 : Int) = ((x <<< 8).toNat : Int) := shl32' x 8
theorem word_or (p q r s : UInt8) : bits .or .u32 (bits .or .u32 (bits .or .u32 ((p.toNat : Int) % 4294967296 * 16777216 % 4294967296) ((q.toNat : Int) % 4294967296 * 65536 % 4294967296)) ((r.toNat : Int) % 4294967296 * 256 % 4294967296)) ((s.toNat : Int) % 4294967296) =
    ((BitVec.ofNat 32 p.toNat <<< 24 ||| BitVec.ofNat 32 q.toNat <<< 16 ||| BitVec.ofNat 32 r.toNat <<< 8 ||| BitVec.ofNat 32 s.toNat).toNat : Int) := by
  rw [cast32, cast32, cast32, cast32, shl24, shl16, shl8, or32, or32, or32]

set_option maxRecDepth 100000 in
set_option maxHeartbeats 1000000 in
theorem rwords (b : List UInt8) (hb : b.length = 64) (g o c : Nat) (w : World) (hr : ∀ i (h : i < 64), w.cell? ⟨g, o + i, none⟩ = some (.int .u8 ((b[i]'(by omega)).toNat : Int))) :
    Calls Tryd.prog 126 #[.slice (some ⟨g, o, none⟩) 64 c] w fun e w' => e = .returned (.agg (ws (tab (wAt b))).toArray) ∧ Below w.heap.size w w' := by
  have hgl : g < w.heap.size := block_lt_of_cell (hr 0 (by omega))
  have HR := Lib.hid hr
  clear hr
  go_enter Tryd.func126, Tryd.ntmps126
  go_wp2
  go_loopw [4] (fun v wr => ∃ (t : Nat) (f : Nat → BitVec 32), t ≤ 16 ∧ v = .int .i64 t ∧ Hid ((∀ j, j < t → f j = word b j) ∧ Blk wr w.heap.size 180 (ws (tab fun _ => 0#32)).toArray ∧ Blk wr (w.heap.size + 1) 180 (ws (tab f)).toArray ∧ Below w.heap.size w wr)) (fun v _ => 16 - (intOf v).toNat)
  case atStart =>
    refine ⟨0, fun _ => 0#32, by omega, rfl, fun j hj => by omega, ?_, ?_, ((Below.refl _ _).alloc (Nat.le_refl _) _).alloc (by simp) _⟩
    · exact (Blk.new_at _ 180 rfl (by kernel_rfl)).alloc _
    · exact Blk.new_at _ 180 (by simp) (by kernel_rfl)
  case round =>
    obtain ⟨t, f, ht, rfl, hh⟩ := hrel
    by_cases hlt : t < 16
    · have c0 := HR.out (4 * t) (by omega)
      have c1 := HR.out (4 * t + 1) (by omega)
      have c2 := HR.out (4 * t + 2) (by omega)
      have c3 := HR.out (4 * t + 3) (by omega)
      have e0 : IntKind.i64.wrap (4 * (t : Int)) = 4 * (t : Int) := IntWalk.i64_in _ (by omega)
      have e1 : IntKind.i64.wrap (4 * (t : Int) + 1) = 4 * (t : Int) + 1 := IntWalk.i64_in _ (by omega)
      have e2 : IntKind.i64.wrap (4 * (t : Int) + 2) = 4 * (t : Int) + 2 := IntWalk.i64_in _ (by omega)
      have e3 : IntKind.i64.wrap (4 * (t : Int) + 3) = 4 * (t : Int) + 3 := IntWalk.i64_in _ (by omega)
      have n0 : (4 * (t : Int)).toNat = 4 * t := by omega
      have n1 : (4 * (t : Int) + 1).toNat = 4 * t + 1 := by omega
      have n2 : (4 * (t : Int) + 2).toNat = 4 * t + 2 := by omega
      have n3 : (4 * (t : Int) + 3).toNat = 4 * t + 3 := by omega
      have p0 : 0 ≤ 4 * (t : Int) := by omega
      have p1 : 0 ≤ 4 * (t : Int) + 1 := by omega
      have p2 : 0 ≤ 4 * (t : Int) + 2 := by omega
      have p3 : 0 ≤ 4 * (t : Int) + 3 := by omega
      have q0 : 4 * (t : Int) < 64 := by omega
      have q1 : 4 * (t : Int) + 1 < 64 := by omega
      have q2 : 4 * (t : Int) + 2 < 64 := by omega
      have q3 : 4 * (t : Int) + 3 < 64 := by omega
      obtain ⟨w2, hw2⟩ : ∃ w2, w2 = wr.drew := ⟨_, rfl⟩
      have keep : ∀ i, w2.cell? ⟨g, i, none⟩ = w.cell? ⟨g, i, none⟩ := fun i => by rw [hw2]; exact hh.out.2.2.2.cell (p := ⟨g, i, none⟩) hgl
      have d0 := (keep _).trans c0
      have d1 := (keep _).trans c1
      have d2 := (keep _).trans c2
      have d3 := (keep _).trans c3
      have dt : w2.cell? ⟨w.heap.size + 1, t, none⟩ = some (W32 (f t)) := by rw [hw2]; exact (Blk.cell hh.out.2.2.1 t).trans (by simpa using ws_get (tab_get f t (by omega)))
      have dfr : w2.frozen? ⟨w.heap.size + 1, t, none⟩ = false := by rw [hw2]; exact Blk.frozen hh.out.2.2.1 t
      have HH : Hid ((∀ j, j < t → f j = word b j) ∧ Blk w2 w.heap.size 180 (ws (tab fun _ => 0#32)).toArray ∧ Blk w2 (w.heap.size + 1) 180 (ws (tab f)).toArray ∧ Below w.heap.size w w2) := by
        rw [hw2]
        exact ⟨hh.out.1, hh.out.2.1.drew, hh.out.2.2.1.drew, hh.out.2.2.2.drew⟩
      clear keep c0 c1 c2 c3 hh
      have HW2 := Lib.hid hw2
      clear hw2
      go_wp2
      refine wp_region_still_tail 34 (by kernel_rfl) (by kernel_rfl) ?_
      simp only [List.take_succ_cons, List.take_zero, List.drop_succ_cons, List.drop_zero]
      change wpStill _ _ wr.drew (fun a' => wpList _ _ _ _ a' wr.drew) _ _
      rw [← HW2.out]
      repeat still_step
      refine wpStill_nil ?_
      go_wp2
      go_roundw
      case rel =>
        rw [word_or, ← word_val b hb t hlt]
        refine ⟨t + 1, fun j => if j = t then word b t else f j, by omega, by go_num, fun j hj => ?_, HH.out.2.1.far (by simp) _, by rw [← tab_set]; exact blk_set HH.out.2.2.1 t _, HH.out.2.2.2.setCell (by simp) _⟩
        show (if j = t then word b t else f j) = word b j
        by_cases hjt : j = t
        · rw [if_pos hjt, hjt]
        · rw [if_neg hjt]; exact HH.out.1 j (by omega)
      case measure => simp [intOf]; omega
    · have hte : t = 16 := by omega
      have HT := Lib.hid hte
      have hge : 16 ≤ t := by omega
      clear hlt ht hte
      obtain ⟨wo, hwo⟩ : ∃ wo : World, wo = wr := ⟨_, rfl⟩
      subst hwo
      go_wp2
      go_loopw [5] (fun v wr => ∃ (t : Nat) (g : Nat → BitVec 32), 16 ≤ t ∧ t ≤ 64 ∧ v = .int .i64 t ∧ Hid (Known b t g ∧ Blk wr w.heap.size 180 (ws (tab fun _ => 0#32)).toArray ∧ Blk wr (w.heap.size + 1) 180 (ws (tab g)).toArray ∧ Below w.heap.size w wr)) (fun v _ => 64 - (intOf v).toNat)
      case atStart => exact ⟨16, f, by omega, by omega, rfl, known_start b f (fun j hj => hh.out.1 j (by rw [HT.out]; exact hj)), hh.out.2⟩
      case round =>
        clear hh
        obtain ⟨t1, g1, ht0, ht, rfl, hh⟩ := hrel
        by_cases hlt : t1 < 64
        · have c16 := (Blk.cell hh.out.2.2.1 (t1 - 16)).trans (by simpa using ws_get (tab_get g1 (t1 - 16) (by omega)))
          have c15 := (Blk.cell hh.out.2.2.1 (t1 - 15)).trans (by simpa using ws_get (tab_get g1 (t1 - 15) (by omega)))
          have c7 := (Blk.cell hh.out.2.2.1 (t1 - 7)).trans (by simpa using ws_get (tab_get g1 (t1 - 7) (by omega)))
          have c2 := (Blk.cell hh.out.2.2.1 (t1 - 2)).trans (by simpa using ws_get (tab_get g1 (t1 - 2) (by omega)))
          have c0 := (Blk.cell hh.out.2.2.1 t1).trans (by simpa using ws_get (tab_get g1 t1 (by omega)))
          have hfr := Blk.frozen hh.out.2.2.1 t1
          have e16 : IntKind.i64.wrap ((t1 : Int) - 16) = (t1 : Int) - 16 := IntWalk.i64_in _ (by omega)
          have e15 : IntKind.i64.wrap ((t1 : Int) - 15) = (t1 : Int) - 15 := IntWalk.i64_in _ (by omega)
          have e7 : IntKind.i64.wrap ((t1 : Int) - 7) = (t1 : Int) - 7 := IntWalk.i64_in _ (by omega)
          have e2 : IntKind.i64.wrap ((t1 : Int) - 2) = (t1 : Int) - 2 := IntWalk.i64_in _ (by omega)
          have n16 : ((t1 : Int) - 16).toNat = t1 - 16 := by omega
          have n15 : ((t1 : Int) - 15).toNat = t1 - 15 := by omega
          have n7 : ((t1 : Int) - 7).toNat = t1 - 7 := by omega
          have n2 : ((t1 : Int) - 2).toNat = t1 - 2 := by omega
          have r16 : (16 : Int) ≤ (t1 : Int) := by omega
          have r15 : (15 : Int) ≤ (t1 : Int) := by omega
          have r7 : (7 : Int) ≤ (t1 : Int) := by omega
          have r2 : (2 : Int) ≤ (t1 : Int) := by omega
          have p16 : (0 : Int) ≤ (t1 : Int) - 16 := by omega
          have p15 : (0 : Int) ≤ (t1 : Int) - 15 := by omega
          have p7 : (0 : Int) ≤ (t1 : Int) - 7 := by omega
          have p2 : (0 : Int) ≤ (t1 : Int) - 2 := by omega
          have q16 : (t1 : Int) - 16 < 64 := by omega
          have q15 : (t1 : Int) - 15 < 64 := by omega
          have q7 : (t1 : Int) - 7 < 64 := by omega
          have q2 : (t1 : Int) - 2 < 64 := by omega
          go_wp2
          go_quiet ((go_at_call 127; exact Calls.quiet_of (rotrI_ref _ _ (by decide) (by decide) _)))
          go_wp2
          go_quiet ((go_at_call 127; exact quiet_add (rotrI_ref _ _ (by decide) (by decide) _)))
          go_wp2
          rename_i nq0
          obtain ⟨w2, hw2⟩ : ∃ w2, w2 = ((wr.drewN nq0).drewN nq).drew := ⟨_, rfl⟩
          have d16 : w2.cell? ⟨w.heap.size + 1, t1 - 16, none⟩ = some (W32 (g1 (t1 - 16))) := by rw [hw2]; exact c16
          have d7 : w2.cell? ⟨w.heap.size + 1, t1 - 7, none⟩ = some (W32 (g1 (t1 - 7))) := by rw [hw2]; exact c7
          have d0 : w2.cell? ⟨w.heap.size + 1, t1, none⟩ = some (W32 (g1 t1)) := by rw [hw2]; exact c0
          have dfr : w2.frozen? ⟨w.heap.size + 1, t1, none⟩ = false := by rw [hw2]; exact hfr
          have HH : Hid (Known b t1 g1 ∧ Blk w2 w.heap.size 180 (ws (tab fun _ => 0#32)).toArray ∧ Blk w2 (w.heap.size + 1) 180 (ws (tab g1)).toArray ∧ Below w.heap.size w w2) := by
            rw [hw2]
            exact ⟨hh.out.1, ((hh.out.2.1.drewN nq0).drewN nq).drew, ((hh.out.2.2.1.drewN nq0).drewN nq).drew, (below_drewN (below_drewN hh.out.2.2.2 nq0) nq).drew⟩
          refine wp_region_still_tail 14 (by kernel_rfl) (by kernel_rfl) ?_
          simp only [List.take_succ_cons, List.take_zero, List.drop_succ_cons, List.drop_zero]
          change wpStill _ _ ((wr.drewN nq0).drewN nq).drew (fun a' => wpList _ _ _ _ a' ((wr.drewN nq0).drewN nq).drew) _ _
          rw [← hw2]
          clear hw2 hh
          obtain ⟨x, hx⟩ : ∃ x, x = g1 (t1 - 16) + sig0 (g1 (t1 - 15)) + g1 (t1 - 7) + sig1 (g1 (t1 - 2)) := ⟨_, rfl⟩
          have hwx : (x.toNat : Int) = ((g1 (t1 - 16) + sig0 (g1 (t1 - 15)) + g1 (t1 - 7) + sig1 (g1 (t1 - 2))).toNat : Int) := by rw [hx]
          have HX := Lib.hid hx
          have HWX := Lib.hid hwx
          clear hx hwx
          repeat still_step
          refine wpStill_nil ?_
          go_wp2
          go_roundw
          case rel =>
            rw [nxt_val, ← HWX.out]
            exact ⟨t1 + 1, _, by omega, by omega, by go_num, known_next ht0 HH.out.1 HX.out, HH.out.2.1.far (by simp) _, by rw [← tab_set]; exact blk_set HH.out.2.2.1 t1 x, HH.out.2.2.2.setCell (by simp) _⟩
          case measure => simp [intOf]; omega
        · have hte : t1 = 64 := by omega
          have HT2 := Lib.hid hte
          have hge2 : 64 ≤ t1 := by omega
          clear hlt ht hte
          have hl54 : (Tryd.prog.info? 180).map (·.size) = some (ws (tab g1)).toArray.size := by rw [Tryd.size180]; simp [ws, tab]
          have HS54 := Lib.hid hl54
          clear hl54
          go_wp2_with (first
            | (refine wpList_load_row rfl 180 (.tmp 3) rfl (w.heap.size + 1) rfl 180 (ws (tab g1)).toArray (0, 0) _ hh.out.2.2.1 Tryd.underlying180 rfl HS54.out ?_)
            | (refine wpList_store_row rfl 180 (.tmp 2) (.tmp 100) rfl w.heap.size (ws (tab g1)).toArray rfl rfl 180 _ hh.out.2.1 HS54.out (by simp [ws, tab]) (all_oneCell_toArray (ws_one _)) ?_))
          refine bodyPost_ret (results_cell_row Tryd.results126 _ _ w.heap.size 180 (ws (tab g1)).toArray (0, 0) _ rfl (Blk.setRow hh.out.2.1 _) Tryd.underlying180 rfl HS54.out) rfl ⟨?_, below_setRow hh.out.2.2.2 (by omega) _⟩
          rw [tab_congr (known_done (HT2.out ▸ hh.out.1))]
end Go.Proofs.YtikinofopkjdjaaDoor
