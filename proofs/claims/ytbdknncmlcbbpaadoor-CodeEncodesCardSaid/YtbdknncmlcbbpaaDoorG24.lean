/-
  hash.schedule: the words of a block.
-/
import Derived.Test.YtbdknncmlcbbpaaDoorG23
import Derived.StillTailTactics
set_option linter.unusedVariables false
namespace Go.Proofs.YtbdknncmlcbbpaaDoor
open Go.RowKit

theorem Tryd.agg5 (W : World) : (isAgg 5).run Tryd.prog W = .ok false W := by kernel_rfl
theorem Tryd.agg83 (W : World) : (isAgg 83).run Tryd.prog W = .ok false W := by kernel_rfl
theorem blk_set {w : World} {g : Nat} {t : TypeId} {l : List (BitVec 32)} (h : Blk w g t (ws l).toArray) (i : Nat) (x : BitVec 32) : Blk (w.setCell ⟨g, i, none⟩ (W32 x)) g t (ws (l.set i x)).toArray := by
  have := Blk.set_ h i (W32 x)
  simpa [ws, List.map_set] using this

theorem shl8or (x : BitVec 32) (c : UInt8) : bits .or .u32 ((x.toNat : Int) * 256 % 4294967296) ((c.toNat : Int) % 4294967296) = ((x <<< 8 ||| BitVec.ofNat 32 c.toNat).toNat : Int) := by
  have h1 := shl32' x 8
  have e : (2 : Int) ^ 8 = 256 := by decide
  rw [e] at h1
  have h2 : (c.toNat : Int) % 4294967296 = ((BitVec.ofNat 32 c.toNat).toNat : Int) := by
    rw [BitVec.toNat_ofNat]; omega
  rw [h1, h2, or32]

theorem wlift (x : BitVec 32) {y : Int} (h : y = (x.toNat : Int)) : Value.int .u32 y = W32 x := by rw [h]

theorem sr3 (x : BitVec 32) : (x.toNat : Int) / (8 : Int) = ((x >>> 3).toNat : Int) := shr32 x 3
theorem sr10 (x : BitVec 32) : (x.toNat : Int) / (1024 : Int) = ((x >>> 10).toNat : Int) := shr32 x 10
theorem add4 (x y z u : BitVec 32) : ((x.toNat : Int) + (y.toNat : Int) + (z.toNat : Int) + (u.toNat : Int)) % 4294967296 = ((x + y + z + u).toNat : Int) := by
  simp only [BitVec.toNat_add]; omega
theorem nxt_val (x y z u : BitVec 32) : ((x.toNat : Int) + bits .xor .u32 (bits .xor .u32 ((ror y 7).toNat : Int) ((ror y 18).toNat : Int)) ((y.toNat : Int) / 8) + (z.toNat : Int) +
    bits .xor .u32 (bits .xor .u32 ((ror u 17).toNat : Int) ((ror u 19).toNat : Int)) ((u.toNat : Int) / 1024)) % 4294967296 = ((x + sig0 y + z + sig1 u).toNat : Int) := by
  rw [sr3, sr10, xor32, xor32, xor32, xor32, add4]; rfl
structure Half (b : List UInt8) (w wr : World) (k : Nat) (g : Nat → BitVec 32) : Prop where
  part : ∀ j, j < 16 → g j = pw b k j
  out : Blk wr (w.heap.size + 1) 137 (ws (tab fun _ => 0#32)).toArray
  row : Blk wr (w.heap.size + 1 + 1) 137 (ws (tab g)).toArray
  below : Below w.heap.size w wr
theorem Half.step {b : List UInt8} {w wr : World} {k : Nat} {g : Nat → BitVec 32} (h : Half b w wr k g) (hb : b.length = 64) (hk : k < 64) :
    Half b w (wr.setCell ⟨w.heap.size + 1 + 1, k / 4, none⟩ (W32 (g (k / 4) <<< 8 ||| BitVec.ofNat 32 (b[k]'(by omega)).toNat))) (k + 1) (fun j => if j = k / 4 then g (k / 4) <<< 8 ||| BitVec.ofNat 32 (b[k]'(by omega)).toNat else g j) := by
  refine ⟨fun j hj => ?_, h.out.far (by simp) _, ?_, h.below.setCell (by simp; omega) _⟩
  · rw [pw_step b k (by omega) j, ← h.part _ (by omega), ← h.part _ hj]
  · rw [← tab_set]; exact blk_set h.row _ _

set_option maxRecDepth 100000 in
set_option maxHeartbeats 400000 in
theorem schedule (b : List UInt8) (hb : b.length = 64) (w : World) :
    Calls Tryd.prog 86 #[.agg (bs b).toArray] w fun e w' => e = .returned (.agg (ws (tab (wAt b))).toArray) ∧ Below w.heap.size w w' := by
  have hs31 : (Tryd.prog.info? 85).map (·.size) = some (bs b).toArray.size := by rw [Tryd.size85]; simp [bs, hb]
  have HS := Lib.hid hs31
  clear hs31
  go_enter Tryd.func86, Tryd.ntmps86
  go_wp2_with (first | (refine wpList_load_row rfl 85 (.tmp 1) rfl w.heap.size rfl 85 (bs b).toArray (0, 0) _ (((Blk.new w 85 _).alloc _).alloc _) Tryd.underlying85 rfl HS.out ?_))
  go_loopw [12] (fun v wr => ∃ (k : Nat) (g : Nat → BitVec 32), k ≤ 64 ∧ v = .int .i64 k ∧ Half b w wr k g) (fun v _ => 64 - (intOf v).toNat)
  case atStart =>
    refine ⟨0, fun _ => 0#32, by omega, rfl, fun j _ => (pw_zero b j).symm, ?_, ?_, (((Below.refl _ _).alloc (Nat.le_refl _) _).alloc (by simp) _).alloc (by simp; omega) _⟩
    · exact (Blk.new_at _ 137 (by simp) (by kernel_rfl)).alloc _
    · exact Blk.new_at _ 137 (by simp) (by kernel_rfl)
  case round =>
    obtain ⟨k, g, hk, rfl, hh⟩ := hrel
    have H := Lib.hid hh
    clear hh
    by_cases hlt : k < 64
    · have hix := fun W => run_index_arr (P := Tryd.prog) W 85 5 64 (bs b) k _ Tryd.underlying85 Tryd.sz5 Tryd.agg5 hlt (bs_get b k (by omega))
      have hcl := (Blk.cell H.out.row (k / 4)).trans (by simpa using ws_get (tab_get g (k / 4) (by omega)))
      have hfr := Blk.frozen H.out.row (k / 4)
      go_wp2
      go_roundw
      case rel => exact ⟨k + 1, _, by omega, by go_num, by rw [shl8or]; exact H.out.step hb hlt⟩
      case measure => simp [intOf]; omega
    · have hke : k = 64 := by omega
      have HK := Lib.hid hke
      have hge : 64 ≤ k := by omega
      have HB := Lib.hid hb
      clear hlt hk hb hke
      obtain ⟨wo, hwo⟩ : ∃ wo : World, wo = wr := ⟨_, rfl⟩
      subst hwo
      go_wp2
      go_loopw [6] (fun v wr => ∃ (t : Nat) (g : Nat → BitVec 32), 16 ≤ t ∧ t ≤ 64 ∧ v = .int .i64 t ∧ Hid (Known b t g ∧ Blk wr (w.heap.size + 1) 137 (ws (tab fun _ => 0#32)).toArray ∧ Blk wr (w.heap.size + 1 + 1) 137 (ws (tab g)).toArray ∧ Below w.heap.size w wr)) (fun v _ => 64 - (intOf v).toNat)
      case atStart => exact ⟨16, g, by omega, by omega, rfl, known_start b g (fun j hj => by rw [H.out.part j hj, HK.out, pw_full b HB.out]), H.out.out, H.out.row, H.out.below⟩
      case round =>
        obtain ⟨t, g1, ht0, ht, rfl, hh⟩ := hrel
        by_cases hlt : t < 64
        · have c16 := (Blk.cell hh.out.2.2.1 (t - 16)).trans (by simpa using ws_get (tab_get g1 (t - 16) (by omega)))
          have c15 := (Blk.cell hh.out.2.2.1 (t - 15)).trans (by simpa using ws_get (tab_get g1 (t - 15) (by omega)))
          have c7 := (Blk.cell hh.out.2.2.1 (t - 7)).trans (by simpa using ws_get (tab_get g1 (t - 7) (by omega)))
          have c2 := (Blk.cell hh.out.2.2.1 (t - 2)).trans (by simpa using ws_get (tab_get g1 (t - 2) (by omega)))
          have c0 := (Blk.cell hh.out.2.2.1 t).trans (by simpa using ws_get (tab_get g1 t (by omega)))
          have hfr := Blk.frozen hh.out.2.2.1 t
          have e16 : IntKind.i64.wrap ((t : Int) - 16) = (t : Int) - 16 := IntWalk.i64_in _ (by omega)
          have e15 : IntKind.i64.wrap ((t : Int) - 15) = (t : Int) - 15 := IntWalk.i64_in _ (by omega)
          have e7 : IntKind.i64.wrap ((t : Int) - 7) = (t : Int) - 7 := IntWalk.i64_in _ (by omega)
          have e2 : IntKind.i64.wrap ((t : Int) - 2) = (t : Int) - 2 := IntWalk.i64_in _ (by omega)
          have n16 : ((t : Int) - 16).toNat = t - 16 := by omega
          have n15 : ((t : Int) - 15).toNat = t - 15 := by omega
          have n7 : ((t : Int) - 7).toNat = t - 7 := by omega
          have n2 : ((t : Int) - 2).toNat = t - 2 := by omega
          have r16 : (16 : Int) ≤ (t : Int) := by omega
          have r7 : (7 : Int) ≤ (t : Int) := by omega
          have p16 : (0 : Int) ≤ (t : Int) - 16 := by omega
          have p15 : (0 : Int) ≤ (t : Int) - 15 := by omega
          have p7 : (0 : Int) ≤ (t : Int) - 7 := by omega
          have p2 : (0 : Int) ≤ (t : Int) - 2 := by omega
          have q16 : (t : Int) - 16 < 64 := by omega
          have q15 : (t : Int) - 15 < 64 := by omega
          have q7 : (t : Int) - 7 < 64 := by omega
          have q2 : (t : Int) - 2 < 64 := by omega
          go_wp2
          go_quiet (fail)
          go_wp2_with (go_at_call 87; refine (rotrI _ _ (by decide) (by decide) _).mono ?_; rintro e w' ⟨rfl, rfl⟩)
          obtain ⟨w2, hw2⟩ : ∃ w2, w2 = (wr.drewN nq).drew := ⟨_, rfl⟩
          have d16 : w2.cell? ⟨w.heap.size + 1 + 1, t - 16, none⟩ = some (W32 (g1 (t - 16))) := by rw [hw2]; exact c16
          have d7 : w2.cell? ⟨w.heap.size + 1 + 1, t - 7, none⟩ = some (W32 (g1 (t - 7))) := by rw [hw2]; exact c7
          have d0 : w2.cell? ⟨w.heap.size + 1 + 1, t, none⟩ = some (W32 (g1 t)) := by rw [hw2]; exact c0
          have dfr : w2.frozen? ⟨w.heap.size + 1 + 1, t, none⟩ = false := by rw [hw2]; exact hfr
          have HH : Hid (Known b t g1 ∧ Blk w2 (w.heap.size + 1) 137 (ws (tab fun _ => 0#32)).toArray ∧ Blk w2 (w.heap.size + 1 + 1) 137 (ws (tab g1)).toArray ∧ Below w.heap.size w w2) := by
            rw [hw2]
            exact ⟨hh.out.1, (hh.out.2.1.drewN nq).drew, (hh.out.2.2.1.drewN nq).drew, (below_drewN hh.out.2.2.2 nq).drew⟩
          refine wp_region_still_tail 14 (by kernel_rfl) (by kernel_rfl) ?_
          simp only [List.take_succ_cons, List.take_zero, List.drop_succ_cons, List.drop_zero]
          change wpStill _ _ (wr.drewN nq).drew (fun a' => wpList _ _ _ _ a' (wr.drewN nq).drew) _ _
          rw [← hw2]
          clear hw2 hh
          obtain ⟨x, hx⟩ : ∃ x, x = g1 (t - 16) + sig0 (g1 (t - 15)) + g1 (t - 7) + sig1 (g1 (t - 2)) := ⟨_, rfl⟩
          have hwx : (x.toNat : Int) = ((g1 (t - 16) + sig0 (g1 (t - 15)) + g1 (t - 7) + sig1 (g1 (t - 2))).toNat : Int) := by rw [hx]
          have HX := Lib.hid hx
          have HWX := Lib.hid hwx
          clear hx hwx
          repeat still_step
          refine wpStill_nil ?_
          go_wp2
          go_roundw
          case rel =>
            rw [nxt_val, ← HWX.out]
            exact ⟨t + 1, _, by omega, by omega, by go_num, known_next ht0 HH.out.1 HX.out, HH.out.2.1.far (by simp) _, by rw [← tab_set]; exact blk_set HH.out.2.2.1 t x, HH.out.2.2.2.setCell (by simp; omega) _⟩
          case measure => simp [intOf]; omega
        · have hte : t = 64 := by omega
          have HT := Lib.hid hte
          have hge2 : 64 ≤ t := by omega
          clear hlt ht hte
          have hl54 : (Tryd.prog.info? 137).map (·.size) = some (ws (tab g1)).toArray.size := by rw [Tryd.size137]; simp [ws, tab]
          have HS54 := Lib.hid hl54
          clear hl54
          go_wp2_with (first
            | (refine wpList_load_row rfl 137 (.tmp 3) rfl (w.heap.size + 1 + 1) rfl 137 (ws (tab g1)).toArray (0, 0) _ hh.out.2.2.1 Tryd.underlying137 rfl HS54.out ?_)
            | (refine wpList_store_row rfl 137 (.tmp 2) (.tmp 71) rfl (w.heap.size + 1) (ws (tab g1)).toArray rfl rfl 137 _ hh.out.2.1 HS54.out (by simp [ws, tab]) (all_oneCell_toArray (ws_one _)) ?_))
          refine bodyPost_ret (results_cell_row Tryd.results86 _ _ (w.heap.size + 1) 137 (ws (tab g1)).toArray (0, 0) _ rfl (Blk.setRow hh.out.2.1 _) Tryd.underlying137 rfl HS54.out) rfl ⟨?_, below_setRow hh.out.2.2.2 (by omega) _⟩
          rw [tab_congr (known_done (HT.out ▸ hh.out.1))]
end Go.Proofs.YtbdknncmlcbbpaaDoor
