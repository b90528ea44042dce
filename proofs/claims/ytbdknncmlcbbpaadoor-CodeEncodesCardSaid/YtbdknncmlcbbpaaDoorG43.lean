/-
  scoriaref02.words: the words of a block, by the reference.
-/
import Derived.Test.YtbdknncmlcbbpaaDoorG24
import Derived.Test.YtbdknncmlcbbpaaDoorG26
import Derived.Test.YtbdknncmlcbbpaaDoorG30
import Derived.Test.YtbdknncmlcbbpaaDoorG32
set_option linter.unusedVariables false
namespace Go.Proofs.YtbdknncmlcbbpaaDoor
open Go.RowKit

theorem word_val (b : List UInt8) (hb : b.length = 64) (t : Nat) (ht : t < 16) :
    word b t = BitVec.ofNat 32 (b[4 * t]'(by omega)).toNat <<< 24 ||| BitVec.ofNat 32 (b[4 * t + 1]'(by omega)).toNat <<< 16 ||| BitVec.ofNat 32 (b[4 * t + 2]'(by omega)).toNat <<< 8 ||| BitVec.ofNat 32 (b[4 * t + 3]'(by omega)).toNat := by
  have e : (b.drop (4 * t)).take 4 = [b[4 * t]'(by omega), b[4 * t + 1]'(by omega), b[4 * t + 2]'(by omega), b[4 * t + 3]'(by omega)] := by
    apply List.ext_getElem?
    intro j
    rw [List.getElem?_take, List.getElem?_drop]
    rcases j with _ | _ | _ | _ | j
    · simp [List.getElem?_eq_getElem (show 4 * t < b.length by omega)]
    · simp [List.getElem?_eq_getElem (show 4 * t + 1 < b.length by omega)]
    · simp [List.getElem?_eq_getElem (show 4 * t + 2 < b.length by omega)]
    · simp [List.getElem?_eq_getElem (show 4 * t + 3 < b.length by omega)]
    · rw [if_neg (by omega)]; rfl
  unfold word
  rw [e]
  simp only [fold4, List.foldl_cons, List.foldl_nil]
  simp only [BitVec.shiftLeft_or_distrib, ← BitVec.shiftLeft_add]
  simp

theorem cast32 (c : UInt8) : (c.toNat : Int) % 4294967296 = ((BitVec.ofNat 32 c.toNat).toNat : Int) := by
  rw [BitVec.toNat_ofNat]; omega

theorem shl24 (x : BitVec 32) : (x.toNat : Int) * (16777216 : Int) % (4294967296 : Int) = ((x <<< 24).toNat : Int) := shl32' x 24
theorem shl16 (x : BitVec 32) : (x.toNat : Int) * (65536 : Int) % (4294967296 : Int) = ((x <<< 16).toNat : Int) := shl32' x 16
theorem shl8 (x : BitVec 32) : (x.toNat : Int) * (256 : Int) % (4294967296 : Int) = ((x <<< 8).toNat : Int) := shl32' x 8
theorem word_or (p q r s : UInt8) : bits .or .u32 (bits .or .u32 (bits .or .u32 ((p.toNat : Int) % 4294967296 * 16777216 % 4294967296) ((q.toNat : Int) % 4294967296 * 65536 % 4294967296)) ((r.toNat : Int) % 4294967296 * 256 % 4294967296)) ((s.toNat : Int) % 4294967296) =
    ((BitVec.ofNat 32 p.toNat <<< 24 ||| BitVec.ofNat 32 q.toNat <<< 16 ||| BitVec.ofNat 32 r.toNat <<< 8 ||| BitVec.ofNat 32 s.toNat).toNat : Int) := by
  rw [cast32, cast32, cast32, cast32, shl24, shl16, shl8, or32, or32, or32]

set_option maxRecDepth 100000 in
set_option maxHeartbeats 1000000 in
theorem rwords (b : List UInt8) (hb : b.length = 64) (g o c : Nat) (w : World) (hr : ∀ i (h : i < 64), w.cell? ⟨g, o + i, none⟩ = some (.int .u8 ((b[i]'(by omega)).toNat : Int))) :
    Calls Tryd.prog 91 #[.slice (some ⟨g, o, none⟩) 64 c] w fun e w' => e = .returned (.agg (ws (tab (wAt b))).toArray) ∧ Below w.heap.size w w' := by
  have hgl : g < w.heap.size := block_lt_of_cell (hr 0 (by omega))
  have HR := Lib.hid hr
  clear hr
  go_enter Tryd.func91, Tryd.ntmps91
  go_wp2
  go_loopw [4] (fun v wr => ∃ (t : Nat) (f : Nat → BitVec 32), t ≤ 16 ∧ v = .int .i64 t ∧ Hid ((∀ j, j < t → f j = word b j) ∧ Blk wr w.heap.size 137 (ws (tab fun _ => 0#32)).toArray ∧ Blk wr (w.heap.size + 1) 137 (ws (tab f)).toArray ∧ Below w.heap.size w wr)) (fun v _ => 16 - (intOf v).toNat)
  case atStart =>
    refine ⟨0, fun _ => 0#32, by omega, rfl, fun j hj => by omega, ?_, ?_, ((Below.refl _ _).alloc (Nat.le_refl _) _).alloc (by simp) _⟩
    · exact (Blk.new_at _ 137 rfl (by kernel_rfl)).alloc _
    · exact Blk.new_at _ 137 (by simp) (by kernel_rfl)
  case round =>
    obtain ⟨t, f, ht, rfl, hh⟩ := hrel
    by_cases hlt : t < 16
    · have c0 := HR.out (4 * t) (by omega)
      have c1 := HR.out (4 * t + 1) (by omega)
      have c2 := HR.out (4 * t + 2) (by omega)
      have c3 := HR.out (4 * t + 3) (by omega)
      have e0 : IntKind.i64.wrap (4 * (t : Int)) = 4 * (t : Int) := IntWalk.i64_in _ (by omega)
      have e1 : IntKind.i64.wrap (4 * (t : Int) + 1) = 4 * (t : Int) + 1 := IntWalk.i64_in _ (by omega)
      have e2 : IntKind.i64.wrap (4 * (t : Int) + 2) = 4 * (t : Int) + 2 := IntWalk.i64_in _ (by omega)
      have e3 : IntKind.i64.wrap (4 * (t : Int) + 3) = 4 * (t : Int) + 3 := IntWalk.i64_in _ (by omega)
      have n0 : (4 * (t : Int)).toNat = 4 * t := by omega
      have n1 : (4 * (t : Int) + 1).toNat = 4 * t + 1 := by omega
      have n2 : (4 * (t : Int) + 2).toNat = 4 * t + 2 := by omega
      have n3 : (4 * (t : Int) + 3).toNat = 4 * t + 3 := by omega
      have p0 : 0 ≤ 4 * (t : Int) := by omega
      have p1 : 0 ≤ 4 * (t : Int) + 1 := by omega
      have p2 : 0 ≤ 4 * (t : Int) + 2 := by omega
      have p3 : 0 ≤ 4 * (t : Int) + 3 := by omega
      have q0 : 4 * (t : Int) < 64 := by omega
      have q1 : 4 * (t : Int) + 1 < 64 := by omega
      have q2 : 4 * (t : Int) + 2 < 64 := by omega
      have q3 : 4 * (t : Int) + 3 < 64 := by omega
      obtain ⟨w2, hw2⟩ : ∃ w2, w2 = wr.drew := ⟨_, rfl⟩
      have keep : ∀ i, w2.cell? ⟨g, i, none⟩ = w.cell? ⟨g, i, none⟩ := fun i => by rw [hw2]; exact hh.out.2.2.2.cell (p := ⟨g, i, none⟩) hgl
      have d0 := (keep _).trans c0
      have d1 := (keep _).trans c1
      have d2 := (keep _).trans c2
      have d3 := (keep _).trans c3
      have dt : w2.cell? ⟨w.heap.size + 1, t, none⟩ = some (W32 (f t)) := by rw [hw2]; exact (Blk.cell hh.out.2.2.1 t).trans (by simpa using ws_get (tab_get f t (by omega)))
      have dfr : w2.frozen? ⟨w.heap.size + 1, t, none⟩ = false := by rw [hw2]; exact Blk.frozen hh.out.2.2.1 t
      have HH : Hid ((∀ j, j < t → f j = word b j) ∧ Blk w2 w.heap.size 137 (ws (tab fun _ => 0#32)).toArray ∧ Blk w2 (w.heap.size + 1) 137 (ws (tab f)).toArray ∧ Below w.heap.size w w2) := by
        rw [hw2]
        exact ⟨hh.out.1, hh.out.2.1.drew, hh.out.2.2.1.drew, hh.out.2.2.2.drew⟩
      clear keep c0 c1 c2 c3 hh
      have HW2 := Lib.hid hw2
      clear hw2
      go_wp2
      refine wp_region_still_tail 34 (by kernel_rfl) (by kernel_rfl) ?_
      simp only [List.take_succ_cons, List.take_zero, List.drop_succ_cons, List.drop_zero]
      change wpStill _ _ wr.drew (fun a' => wpList _ _ _ _ a' wr.drew) _ _
      rw [← HW2.out]
      repeat still_step
      refine wpStill_nil ?_
      go_wp2
      go_roundw
      case rel =>
        rw [word_or, ← word_val b hb t hlt]
        refine ⟨t + 1, fun j => if j = t then word b t else f j, by omega, by go_num, fun j hj => ?_, HH.out.2.1.far (by simp) _, by rw [← tab_set]; exact blk_set HH.out.2.2.1 t _, HH.out.2.2.2.setCell (by simp) _⟩
        show (if j = t then word b t else f j) = word b j
        by_cases hjt : j = t
        · rw [if_pos hjt, hjt]
        · rw [if_neg hjt]; exact HH.out.1 j (by omega)
      case measure => simp [intOf]; omega
    · have hte : t = 16 := by omega
      have HT := Lib.hid hte
      have hge : 16 ≤ t := by omega
      clear hlt ht hte
      obtain ⟨wo, hwo⟩ : ∃ wo : World, wo = wr := ⟨_, rfl⟩
      subst hwo
      go_wp2
      go_loopw [5] (fun v wr => ∃ (t : Nat) (g : Nat → BitVec 32), 16 ≤ t ∧ t ≤ 64 ∧ v = .int .i64 t ∧ Hid (Known b t g ∧ Blk wr w.heap.size 137 (ws (tab fun _ => 0#32)).toArray ∧ Blk wr (w.heap.size + 1) 137 (ws (tab g)).toArray ∧ Below w.heap.size w wr)) (fun v _ => 64 - (intOf v).toNat)
      case atStart => exact ⟨16, f, by omega, by omega, rfl, known_start b f (fun j hj => hh.out.1 j (by rw [HT.out]; exact hj)), hh.out.2⟩
      case round =>
        clear hh
        obtain ⟨t1, g1, ht0, ht, rfl, hh⟩ := hrel
        by_cases hlt : t1 < 64
        · have c16 := (Blk.cell hh.out.2.2.1 (t1 - 16)).trans (by simpa using ws_get (tab_get g1 (t1 - 16) (by omega)))
          have c15 := (Blk.cell hh.out.2.2.1 (t1 - 15)).trans (by simpa using ws_get (tab_get g1 (t1 - 15) (by omega)))
          have c7 := (Blk.cell hh.out.2.2.1 (t1 - 7)).trans (by simpa using ws_get (tab_get g1 (t1 - 7) (by omega)))
          have c2 := (Blk.cell hh.out.2.2.1 (t1 - 2)).trans (by simpa using ws_get (tab_get g1 (t1 - 2) (by omega)))
          have c0 := (Blk.cell hh.out.2.2.1 t1).trans (by simpa using ws_get (tab_get g1 t1 (by omega)))
          have hfr := Blk.frozen hh.out.2.2.1 t1
          have e16 : IntKind.i64.wrap ((t1 : Int) - 16) = (t1 : Int) - 16 := IntWalk.i64_in _ (by omega)
          have e15 : IntKind.i64.wrap ((t1 : Int) - 15) = (t1 : Int) - 15 := IntWalk.i64_in _ (by omega)
          have e7 : IntKind.i64.wrap ((t1 : Int) - 7) = (t1 : Int) - 7 := IntWalk.i64_in _ (by omega)
          have e2 : IntKind.i64.wrap ((t1 : Int) - 2) = (t1 : Int) - 2 := IntWalk.i64_in _ (by omega)
          have n16 : ((t1 : Int) - 16).toNat = t1 - 16 := by omega
          have n15 : ((t1 : Int) - 15).toNat = t1 - 15 := by omega
          have n7 : ((t1 : Int) - 7).toNat = t1 - 7 := by omega
          have n2 : ((t1 : Int) - 2).toNat = t1 - 2 := by omega
          have r16 : (16 : Int) ≤ (t1 : Int) := by omega
          have r15 : (15 : Int) ≤ (t1 : Int) := by omega
          have r7 : (7 : Int) ≤ (t1 : Int) := by omega
          have r2 : (2 : Int) ≤ (t1 : Int) := by omega
          have p16 : (0 : Int) ≤ (t1 : Int) - 16 := by omega
          have p15 : (0 : Int) ≤ (t1 : Int) - 15 := by omega
          have p7 : (0 : Int) ≤ (t1 : Int) - 7 := by omega
          have p2 : (0 : Int) ≤ (t1 : Int) - 2 := by omega
          have q16 : (t1 : Int) - 16 < 64 := by omega
          have q15 : (t1 : Int) - 15 < 64 := by omega
          have q7 : (t1 : Int) - 7 < 64 := by omega
          have q2 : (t1 : Int) - 2 < 64 := by omega
          go_wp2
          go_quiet ((go_at_call 92; exact Calls.quiet_of (rotrI_ref _ _ (by decide) (by decide) _)))
          go_wp2
          go_quiet ((go_at_call 92; exact quiet_add (rotrI_ref _ _ (by decide) (by decide) _)))
          go_wp2
          rename_i nq0
          obtain ⟨w2, hw2⟩ : ∃ w2, w2 = ((wr.drewN nq0).drewN nq).drew := ⟨_, rfl⟩
          have d16 : w2.cell? ⟨w.heap.size + 1, t1 - 16, none⟩ = some (W32 (g1 (t1 - 16))) := by rw [hw2]; exact c16
          have d7 : w2.cell? ⟨w.heap.size + 1, t1 - 7, none⟩ = some (W32 (g1 (t1 - 7))) := by rw [hw2]; exact c7
          have d0 : w2.cell? ⟨w.heap.size + 1, t1, none⟩ = some (W32 (g1 t1)) := by rw [hw2]; exact c0
          have dfr : w2.frozen? ⟨w.heap.size + 1, t1, none⟩ = false := by rw [hw2]; exact hfr
          have HH : Hid (Known b t1 g1 ∧ Blk w2 w.heap.size 137 (ws (tab fun _ => 0#32)).toArray ∧ Blk w2 (w.heap.size + 1) 137 (ws (tab g1)).toArray ∧ Below w.heap.size w w2) := by
            rw [hw2]
            exact ⟨hh.out.1, ((hh.out.2.1.drewN nq0).drewN nq).drew, ((hh.out.2.2.1.drewN nq0).drewN nq).drew, (below_drewN (below_drewN hh.out.2.2.2 nq0) nq).drew⟩
          refine wp_region_still_tail 14 (by kernel_rfl) (by kernel_rfl) ?_
          simp only [List.take_succ_cons, List.take_zero, List.drop_succ_cons, List.drop_zero]
          change wpStill _ _ ((wr.drewN nq0).drewN nq).drew (fun a' => wpList _ _ _ _ a' ((wr.drewN nq0).drewN nq).drew) _ _
          rw [← hw2]
          clear hw2 hh
          obtain ⟨x, hx⟩ : ∃ x, x = g1 (t1 - 16) + sig0 (g1 (t1 - 15)) + g1 (t1 - 7) + sig1 (g1 (t1 - 2)) := ⟨_, rfl⟩
          have hwx : (x.toNat : Int) = ((g1 (t1 - 16) + sig0 (g1 (t1 - 15)) + g1 (t1 - 7) + sig1 (g1 (t1 - 2))).toNat : Int) := by rw [hx]
          have HX := Lib.hid hx
          have HWX := Lib.hid hwx
          clear hx hwx
          repeat still_step
          refine wpStill_nil ?_
          go_wp2
          go_roundw
          case rel =>
            rw [nxt_val, ← HWX.out]
            exact ⟨t1 + 1, _, by omega, by omega, by go_num, known_next ht0 HH.out.1 HX.out, HH.out.2.1.far (by simp) _, by rw [← tab_set]; exact blk_set HH.out.2.2.1 t1 x, HH.out.2.2.2.setCell (by simp) _⟩
          case measure => simp [intOf]; omega
        · have hte : t1 = 64 := by omega
          have HT2 := Lib.hid hte
          have hge2 : 64 ≤ t1 := by omega
          clear hlt ht hte
          have hl54 : (Tryd.prog.info? 137).map (·.size) = some (ws (tab g1)).toArray.size := by rw [Tryd.size137]; simp [ws, tab]
          have HS54 := Lib.hid hl54
          clear hl54
          go_wp2_with (first
            | (refine wpList_load_row rfl 137 (.tmp 3) rfl (w.heap.size + 1) rfl 137 (ws (tab g1)).toArray (0, 0) _ hh.out.2.2.1 Tryd.underlying137 rfl HS54.out ?_)
            | (refine wpList_store_row rfl 137 (.tmp 2) (.tmp 100) rfl w.heap.size (ws (tab g1)).toArray rfl rfl 137 _ hh.out.2.1 HS54.out (by simp [ws, tab]) (all_oneCell_toArray (ws_one _)) ?_))
          refine bodyPost_ret (results_cell_row Tryd.results91 _ _ w.heap.size 137 (ws (tab g1)).toArray (0, 0) _ rfl (Blk.setRow hh.out.2.1 _) Tryd.underlying137 rfl HS54.out) rfl ⟨?_, below_setRow hh.out.2.2.2 (by omega) _⟩
          rw [tab_congr (known_done (HT2.out ▸ hh.out.1))]
end Go.Proofs.YtbdknncmlcbbpaaDoor

/-
  scoriaref02.Sum.
-/
namespace Go.Proofs.YtbdknncmlcbbpaaDoor
open Go.RowKit

theorem iv_build : #[W32 1779033703#32, W32 3144134277#32, W32 1013904242#32, W32 2773480762#32, W32 1359893119#32, W32 2600822924#32, W32 528734635#32, W32 1541459225#32] = (ws iv.list).toArray := rfl
theorem x_val' (s : St) (k r : BitVec 32) : ((s.h.toNat : Int) + bits .xor .u32 (bits .xor .u32 ((ror s.e 6).toNat : Int) ((ror s.e 11).toNat : Int)) ((ror s.e 25).toNat : Int) +
    bits .xor .u32 (bits .and .u32 (s.e.toNat : Int) (s.f.toNat : Int)) (bits .and .u32 (bits .xor .u32 (s.e.toNat : Int) 4294967295) (s.g.toNat : Int)) + (k.toNat : Int) + (r.toNat : Int)) % (4294967296 : Int) = ((xOf s k r).toNat : Int) := by
  rw [not32', and32, and32, xor32, xor32, xor32, add5]; rfl
def sum8 (v s : St) : Array Value := #[.int .u32 (((v.a.toNat : Int) + (s.a.toNat : Int)) % 4294967296), .int .u32 (((v.b.toNat : Int) + (s.b.toNat : Int)) % 4294967296), .int .u32 (((v.c.toNat : Int) + (s.c.toNat : Int)) % 4294967296), .int .u32 (((v.d.toNat : Int) + (s.d.toNat : Int)) % 4294967296),
  .int .u32 (((v.e.toNat : Int) + (s.e.toNat : Int)) % 4294967296), .int .u32 (((v.f.toNat : Int) + (s.f.toNat : Int)) % 4294967296), .int .u32 (((v.g.toNat : Int) + (s.g.toNat : Int)) % 4294967296), .int .u32 (((v.h.toNat : Int) + (s.h.toNat : Int)) % 4294967296)]
theorem sum8_eq (v s : St) : sum8 v s = (ws (v.add s).list).toArray := by
  unfold sum8
  rw [add32', add32', add32', add32', add32', add32', add32', add32']; rfl
theorem sum8_one (v s : St) : (sum8 v s).all (·.oneCell') = true := by
  rw [sum8_eq]; exact all_oneCell_toArray (ws_one _)
/-- What Sum has laid behind n blocks: its result, the hash value, the padded message in block g. -/
structure RS (w wr : World) (m : List UInt8) (g : Nat) (v : St) : Prop where
  out : Blk wr w.heap.size 92 (bs (List.replicate 32 0)).toArray
  val : Blk wr (w.heap.size + 1) 84 (ws v.list).toArray
  msg : ∀ i u, (bs (pad m))[i]? = some u → wr.cell? ⟨g, i, none⟩ = some u
  gt : w.heap.size + 1 < g
  lt : g < wr.heap.size
  tbl : KT 2 wr
  pos : 2 < w.heap.size
  below : Below w.heap.size w wr
theorem RS.later {w wr wr' : World} {m : List UInt8} {g : Nat} {v : St} (h : RS w wr m g v) (hb : Below wr.heap.size wr wr') : RS w wr' m g v :=
  ⟨h.out.below hb h.out.lt, h.val.below hb h.val.lt, fun i u hu => (hb.cell (p := ⟨g, i, none⟩) h.lt).trans (h.msg i u hu), h.gt, Nat.lt_of_lt_of_le h.lt hb.size, h.tbl.below hb, h.pos, below_then h.below hb⟩
theorem RS.drewN {w wr : World} {m : List UInt8} {g : Nat} {v : St} (h : RS w wr m g v) (n : Nat) : RS w (wr.drewN n) m g v :=
  h.later (below_drewN (Below.refl _ _) n)
theorem RS.put {w wr : World} {m : List UInt8} {g : Nat} {v : St} (h : RS w wr m g v) (v' : St) : RS w (wr.setRow (w.heap.size + 1) (ws v'.list).toArray) m g v' :=
  ⟨h.out.setRow_far (by omega) _, h.val.setRow _, fun i u hu => by
      rw [World.cell?_of_block (setRow_other wr (w.heap.size + 1) _ g (by have := h.gt; omega))]; exact h.msg i u hu,
    h.gt, by rw [size_setRow]; exact h.lt, fun t ht => by
      have h2 := h.pos
      rw [World.cell?_of_block (setRow_other wr (w.heap.size + 1) _ 2 (by have := h.pos; omega))]; exact h.tbl t ht,
    h.pos, below_setRow h.below (by omega) _⟩

theorem RS.cell {w wr : World} {m : List UInt8} {g : Nat} {v : St} (h : RS w wr m g v) :
    wr.cell? ⟨w.heap.size + 1, 0, none⟩ = some (W32 v.a) ∧ wr.cell? ⟨w.heap.size + 1, 1, none⟩ = some (W32 v.b) ∧ wr.cell? ⟨w.heap.size + 1, 2, none⟩ = some (W32 v.c) ∧ wr.cell? ⟨w.heap.size + 1, 3, none⟩ = some (W32 v.d) ∧
    wr.cell? ⟨w.heap.size + 1, 4, none⟩ = some (W32 v.e) ∧ wr.cell? ⟨w.heap.size + 1, 5, none⟩ = some (W32 v.f) ∧ wr.cell? ⟨w.heap.size + 1, 6, none⟩ = some (W32 v.g) ∧ wr.cell? ⟨w.heap.size + 1, 7, none⟩ = some (W32 v.h) :=
  ⟨Blk.cell h.val 0, Blk.cell h.val 1, Blk.cell h.val 2, Blk.cell h.val 3, Blk.cell h.val 4, Blk.cell h.val 5, Blk.cell h.val 6, Blk.cell h.val 7⟩
theorem RS.make {w w1 : World} {m : List UInt8} {A B : Array Value} {v1 : Value} (hk : KT 2 w) (hA : A = (bs (List.replicate 32 0)).toArray) (hB : B = (ws iv.list).toArray)
    (hb : Below ((w.alloc (.cells A 92)).alloc (.cells B 84)).heap.size ((w.alloc (.cells A 92)).alloc (.cells B 84)) w1)
    (ho : w1.ownsRow ((w.alloc (.cells A 92)).alloc (.cells B 84)).heap.size 5 1 v1 (pad m).length (bs (pad m))) :
    ∃ g cap, v1 = .slice (some ⟨g, 0, none⟩) (pad m).length cap ∧ (pad m).length ≤ cap ∧ cap ≤ maxLen ∧ RS w w1 m g iv := by
  have hs := hb.size
  simp only [size_alloc] at hs
  have hp : 0 < (pad m).length := by rw [pad_length]; omega
  have h12 : Below w.heap.size w ((w.alloc (.cells A 92)).alloc (.cells B 84)) := ((below_new w _).alloc (by simp only [size_alloc]; omega) _)
  rcases ho.2 with ⟨_, h0⟩ | ⟨g, cap, cur, rfl, hg, hh, hc, hcm, _, htk⟩
  · omega
  · have hgl : g < w1.heap.size := Blk.lt (t := 5) hh
    simp only [size_alloc] at hg
    refine ⟨g, cap, rfl, hc, hcm, ?_, ?_, fun i u hu => ?_, by omega, hgl, hk.below (h12.trans (hb.mono (by simp only [size_alloc]; omega))), hk.lt, h12.trans (hb.mono (by simp only [size_alloc]; omega))⟩
    · exact Blk.below ((Blk.new_at w 92 rfl hA).alloc _) hb (by simp only [size_alloc]; omega)
    · exact Blk.below (Blk.new_at _ 84 (by simp only [size_alloc]) hB) hb (by simp only [size_alloc]; omega)
    · have := ho.cells (g := g) rfl i u hu
      rwa [Addr.add_lit, Nat.zero_add] at this

theorem RS.bytes {w wr : World} {m : List UInt8} {g : Nat} {v : St} (h : RS w wr m g v) {n : Nat} (hn : 64 * (n + 1) ≤ (pad m).length) (i : Nat) (hi : i < 64) :
    wr.cell? ⟨g, 64 * n + i, none⟩ = some (.int .u8 (((blockOf (pad m) n)[i]'(by rw [blockOf_length hn]; exact hi)).toNat : Int)) := by
  rw [blockOf_get hn i hi]
  exact h.msg _ _ (bs_get _ _ (by omega))
theorem RS.made {w wr w1 wl : World} {m : List UInt8} {g : Nat} {v : St} {z cs : Array Value} (h : RS w wr m g v) (hb : Below wr.heap.size wr w1) (hwl : (w1.alloc (.cells z 137)).setRow w1.heap.size cs = wl) :
    RS w wl m g v ∧ Blk wl w1.heap.size 137 cs := by
  subst hwl
  have h1 := (h.later hb)
  refine ⟨h1.later (below_setRow (below_new w1 _) (Nat.le_refl _) _), (Blk.new w1 137 z).setRow _⟩

set_option maxRecDepth 100000 in
set_option maxHeartbeats 4000000 in
theorem rsum (A : Option Addr) (m : List UInt8) (c : Nat) (w : World) (hk : KT 2 w) (ha : Reads w w.heap.size 1 A m.length (bs m)) (hm : m.length ≤ 1099511627776) :
    Calls Tryd.prog 81 #[.slice A m.length c] w fun e w' => e = .returned (.agg (bs (sha m)).toArray) ∧ Below w.heap.size w w' := by
  have HA := Lib.hid ha
  have HKT := Lib.hid hk
  clear ha hk
  go_enter Tryd.func81, Tryd.ntmps81
  go_wp2_with (first
    | (go_at_call 90; refine (padded A m c _ ((HA.out.later (below_new w _)).later (below_new _ _)) hm).mono ?_; rintro e w1 ⟨v1, rfl, hown1, hb1⟩; have HO1 := Lib.hid hown1; have HB1 := Lib.hid hb1; clear hown1 hb1))
  obtain ⟨g, cap, rfl, hpc, hcm, hrs⟩ := RS.make HKT.out (by kernel_rfl) (by kernel_rfl) HB1.out HO1.out
  have HR := Lib.hid hrs
  clear hrs HO1 HB1 HKT
  obtain ⟨P, hP⟩ : ∃ P, P = (pad m).length := ⟨_, rfl⟩
  obtain ⟨N, hN⟩ : ∃ N, N = P / 64 := ⟨_, rfl⟩
  have hPN : P = 64 * N := by rw [hN, hP]; exact pad_blocks m
  have hPl : P ≤ 1099511627904 := by have := pad_length m; have := zeros_lt m.length; omega
  have HP := Lib.hid hP
  have HN := Lib.hid hN
  rw [← hP] at hpc ⊢
  unfold maxLen at hcm
  have HPN := Lib.hid hPN
  have hPN1 : P ≤ 64 * N := by omega
  have hPN2 : 64 * N ≤ P := by omega
  clear hP hN hPN
  go_loopw [5] (fun v' wr => ∃ n : Nat, n ≤ N ∧ v' = .int .i64 (64 * (n : Int)) ∧ Hid (RS w wr m g (hvn (pad m) n))) (fun v' _ => P - (intOf v').toNat)
  case atStart => exact ⟨0, Nat.zero_le _, rfl, HR⟩
  case round =>
    clear HR
    obtain ⟨n, hn, rfl, HR⟩ := hrel
    by_cases hlt : n < N
    · have a1 : IntKind.i64.wrap (64 * (n : Int) + 64) = 64 * (n : Int) + 64 := IntWalk.i64_in _ (by omega)
      have a2 : (64 * (n : Int)).toNat = 64 * n := by omega
      have a3 : 64 * (n : Int) < (P : Int) := by omega
      have hbl : 64 * (n + 1) ≤ (pad m).length := by rw [← HP.out]; omega
      obtain ⟨b, hb⟩ : ∃ b, b = blockOf (pad m) n := ⟨_, rfl⟩
      have HB := Lib.hid hb
      have hb64 : b.length = 64 := by rw [hb]; exact blockOf_length hbl
      have hby : ∀ i (hi : i < 64), wr.cell? ⟨g, 64 * n + i, none⟩ = some (.int .u8 ((b[i]'(by omega)).toNat : Int)) := by
        subst hb
        exact fun i hi => HR.out.bytes hbl i hi
      have HB64 := Lib.hid hb64
      have HBY := Lib.hid hby
      have hs54 : (Tryd.prog.info? 137).map (·.size) = some (ws (tab (wAt b))).toArray.size := by rw [Tryd.size137]; simp [ws, tab]
      have HS54 := Lib.hid hs54
      clear hb hby hs54
      go_wp2_with (first
        | (go_at_call 91; refine (rwords b HB64.out g (64 * n) _ _ HBY.out).mono ?_; rintro e w1 ⟨rfl, hb1⟩; have HB1 := Lib.hid hb1; clear hb1)
        | (refine wpList_store_row rfl 137 (.tmp 6) (.tmp 34) rfl w1.heap.size (ws (tab (wAt b))).toArray rfl rfl 137 _ (Blk.new w1 137 _) HS54.out (by simp [ws, tab]) (all_oneCell_toArray (ws_one _)) ?_))
      obtain ⟨M, hM⟩ : ∃ M, M = w1.heap.size := ⟨_, rfl⟩
      generalize hwl : World.setRow (World.alloc w1 _) w1.heap.size (ws (tab (wAt b))).toArray = wl
      have HL := Lib.hid (HR.out.made HB1.out hwl)
      clear hwl HB1 HR HBY
      rw [← hM] at HL ⊢
      clear hM
      obtain ⟨v, hv⟩ : ∃ v, v = hvn (pad m) n := ⟨_, rfl⟩
      rw [← hv] at HL
      have HV := Lib.hid hv
      clear hv
      obtain ⟨c0, c1, c2, c3, c4, c5, c6, c7⟩ := HL.out.1.cell
      go_quiet (fail)
      clear c0 c1 c2 c3 c4 c5 c6 c7
      obtain ⟨wo, hwo⟩ : ∃ wo : World, wo = wr := ⟨_, rfl⟩
      subst hwo
      go_wp2
      go_loopw [7, 8, 9, 10, 11, 12, 13, 14, 15] (fun a' b' c' d' e' f' g' h' i' wr => ∃ t : Nat, t ≤ 64 ∧ i' = .int .i64 t ∧ a' = W32 (rnds v b t).a ∧ b' = W32 (rnds v b t).b ∧ c' = W32 (rnds v b t).c ∧ d' = W32 (rnds v b t).d ∧ e' = W32 (rnds v b t).e ∧ f' = W32 (rnds v b t).f ∧ g' = W32 (rnds v b t).g ∧ h' = W32 (rnds v b t).h ∧ Hid (RS w wr m g v ∧ Blk wr M 137 (ws (tab (wAt b))).toArray)) (fun _ _ _ _ _ _ _ _ i' _ => 64 - (intOf i').toNat)
      case atStart => exact ⟨0, by omega, rfl, rfl, rfl, rfl, rfl, rfl, rfl, rfl, rfl, HL.out.1.drewN _, HL.out.2.drewN _⟩
      case round =>
        clear HL
        obtain ⟨t, ht, rfl, rfl, rfl, rfl, rfl, rfl, rfl, rfl, rfl, hh⟩ := hrel
        obtain ⟨s, hs⟩ : ∃ s, s = rnds v b t := ⟨_, rfl⟩
        rw [← hs]
        have HSS := Lib.hid hs
        clear hs
        by_cases hlt : t < 64
        · have kt := hh.out.1.tbl t hlt
          have wt := (Blk.cell hh.out.2 t).trans (by simpa using ws_get (tab_get (wAt b) t hlt))
          go_wp2
          go_quiet ((go_at_call 92; exact Calls.quiet_of (rotrI_ref _ _ (by decide) (by decide) _)))
          clear kt wt
          go_wp2_with (go_at_call 92; refine (rotrI_ref _ _ (by decide) (by decide) _).mono ?_; rintro e w' ⟨rfl, q, rfl⟩)
          go_roundw
          case rel => exact ⟨t + 1, by omega, by go_num, by rw [x_val', y_val, add32', rnds_succ, ← HSS.out]; rfl, by rw [rnds_succ, ← HSS.out]; rfl, by rw [rnds_succ, ← HSS.out]; rfl, by rw [rnds_succ, ← HSS.out]; rfl, by rw [x_val', add32', rnds_succ, ← HSS.out]; rfl, by rw [rnds_succ, ← HSS.out]; rfl, by rw [rnds_succ, ← HSS.out]; rfl, by rw [rnds_succ, ← HSS.out]; rfl, hh.out.1.drewN _, hh.out.2.drewN _⟩
          case measure => simp [intOf]; omega
        · have hte : t = 64 := by omega
          have HT := Lib.hid hte
          have hge : 64 ≤ t := by omega
          clear hlt ht hte
          obtain ⟨c0, c1, c2, c3, c4, c5, c6, c7⟩ := hh.out.1.cell
          go_wp2_with (first
            | (refine wpList_store_row rfl 84 (.tmp 3) (.tmp 146) rfl (w.heap.size + 1) (sum8 v s) rfl rfl 84 _ hh.out.1.val Tryd.size84 rfl (sum8_one v s) ?_))
          go_roundw
          case rel =>
            have e : hvn (pad m) (n + 1) = v.add s := by rw [hvn_succ, ← HV.out, ← HB.out, comp, HSS.out, HT.out]
            refine ⟨n + 1, by omega, by congr 1, ?_⟩
            rw [e, sum8_eq]
            exact hh.out.1.put _
          case measure => simp [intOf]; omega
    · have hne : n = N := by omega
      have HNE := Lib.hid hne
      have hge : N ≤ n := by omega
      clear hlt hn hne
      obtain ⟨v, hv⟩ : ∃ v, v = hvn (pad m) n := ⟨_, rfl⟩
      rw [← hv] at HR
      have HV := Lib.hid hv
      clear hv
      obtain ⟨wo, hwo⟩ : ∃ wo : World, wo = wr := ⟨_, rfl⟩
      subst hwo
      go_wp2
      go_loopw [19] (fun i' wr => ∃ i : Nat, i ≤ 32 ∧ i' = .int .i64 i ∧ Hid (Below wo.heap.size wo wr ∧ Blk wr wo.heap.size 92 (bs (outUp v i)).toArray)) (fun i' _ => 32 - (intOf i').toNat)
      case atStart => exact ⟨0, by omega, rfl, below_new _ _, Blk.new_at _ 92 rfl (by rw [outUp_zero]; kernel_rfl)⟩
      case round =>
        obtain ⟨i, hi32, rfl, hh⟩ := hrel
        by_cases hlt : i < 32
        · have hc := (Blk.cell (HR.out.later hh.out.1).val (i / 4)).trans (show (ws v.list).toArray[i / 4]? = some (W32 (v.at (i / 4))) by simpa using ws_get (by rw [← St.tab]; exact tab8_get v.at (i / 4) (by omega)))
          have hc2 := (Blk.cell hh.out.2 i).trans (by simpa using bs_get' (outUp_get v i hlt))
          have hf := Blk.frozen hh.out.2 i
          have a1 : IntKind.i64.wrap (8 * ((i : Int) % 4)) = 8 * ((i : Int) % 4) := IntWalk.i64_in _ (by omega)
          have a2 : IntKind.i64.wrap (24 - 8 * ((i : Int) % 4)) = 24 - 8 * ((i : Int) % 4) := IntWalk.i64_in _ (by omega)
          have a3 : (24 - 8 * ((i : Int) % 4)).toNat = 24 - 8 * (i % 4) := by omega
          have a4 : 0 ≤ 24 - 8 * ((i : Int) % 4) := by omega
          go_wp2
          go_roundw
          case rel =>
            rw [out_byte v i _ rfl]
            exact ⟨i + 1, by omega, by go_num, hh.out.1.setCell (Nat.le_refl _) _, by rw [← outUp_step v i hlt]; exact blk_setB hh.out.2 i _⟩
          case measure => simp [intOf]; omega
        · have hie : i = 32 := by omega
          have HI := Lib.hid hie
          have hge2 : 32 ≤ i := by omega
          clear hlt hi32 hie
          have hl24 : (Tryd.prog.info? 92).map (·.size) = some (bs (outUp v i)).toArray.size := by rw [Tryd.size92]; simp [bs, outUp]
          have HS24 := Lib.hid hl24
          clear hl24
          go_wp2_with (first
            | (refine wpList_load_row rfl 92 (.tmp 18) rfl wo.heap.size rfl 92 (bs (outUp v i)).toArray (0, 0) _ hh.out.2 Tryd.underlying92 rfl HS24.out ?_)
            | (refine wpList_store_row rfl 92 (.tmp 2) (.tmp 163) rfl w.heap.size (bs (outUp v i)).toArray rfl rfl 92 _ (HR.out.later hh.out.1).out HS24.out (by simp [bs, outUp]) (all_oneCell_toArray (bs_one _)) ?_))
          refine bodyPost_ret (results_cell_row Tryd.results81 _ _ w.heap.size 92 (bs (outUp v i)).toArray (0, 0) _ rfl (Blk.setRow (HR.out.later hh.out.1).out _) Tryd.underlying92 rfl HS24.out) rfl ⟨?_, below_setRow (HR.out.later hh.out.1).below (by omega) _⟩
          rw [HI.out, outUp_done, sha, HV.out, HNE.out, HN.out, HP.out]
end Go.Proofs.YtbdknncmlcbbpaaDoor

/-
  scoriaref02.Sum of a part.
-/
namespace Go.Proofs.YtbdknncmlcbbpaaDoor
open Go.RowKit WM

theorem rsum_n (A : Option Addr) (m : List UInt8) (n c : Nat) (w : World) (hn : n = m.length) (hk : KT 2 w) (ha : Reads w w.heap.size 1 A n (bs m)) (hm : m.length ≤ 1099511627776) (x : List UInt8) (hx : sha m = x) :
    Calls Tryd.prog 81 #[.slice A n c] w fun e w' => e = .returned (.agg (bs x).toArray) ∧ Below w.heap.size w w' := by
  subst hn hx
  exact rsum A m c w hk ha hm
end Go.Proofs.YtbdknncmlcbbpaaDoor

/-
  scoriaref02.Input.
-/
namespace Go.Proofs.YtbdknncmlcbbpaaDoor
open Go.RowKit WM

theorem own_app {w : World} {B : Nat} {v : Value} {l m : List UInt8} (h : w.ownsRow B 5 1 v (l.length + m.length) (bs l ++ bs m)) : w.ownsRow B 5 1 v (l ++ m).length (bs (l ++ m)) := own_next h rfl
theorem encP_take_succ (t : UInt8) (l : List ByteArray) (k : Nat) (h : k < l.length) : t :: encP (l.take (k + 1)) = (t :: encP (l.take k)) ++ encB l[k].data.toList := by
  rw [encP_succ l k h]; rfl

set_option maxRecDepth 100000 in
set_option maxHeartbeats 1600000 in
theorem input (t : Int) (A : Option Addr) (l : List ByteArray) (c : Nat) (w : World) (ha : Reads w w.heap.size 1 A l.length (ss l)) (hl : (encP l).length ≤ 137438953472) (hn : l.length ≤ 137438953472) :
    Calls Tryd.prog 68 #[.int .i64 t, .slice A l.length c] w fun e w' => ∃ v, e = .returned v ∧ w'.ownsRow w.heap.size 5 1 v (inputOf t l).length (bs (inputOf t l)) ∧ Below w.heap.size w w' := by
  have HA := Lib.hid ha
  clear ha
  obtain ⟨i0, hi, hz0, hz1, hz2⟩ := info_parts Tryd.info5
  obtain ⟨tb, htb⟩ : ∃ tb, tb = tagB t := ⟨_, rfl⟩
  have htv : (tb.toNat : Int) = t % 256 := by rw [htb]; exact tagB_val t
  have e0 : inputOf t l = tb :: encP l := by rw [htb]; rfl
  rw [e0]
  have HTV := Lib.hid htv
  clear htb htv e0
  go_enter Tryd.func68, Tryd.ntmps68
  go_wp2
  go_loopw [5, 6] (fun a i' wr => ∃ k : Nat, k ≤ l.length ∧ i' = .int .i64 k ∧ Hid (wr.ownsRow w.heap.size 5 1 a (tb :: encP (l.take k)).length (bs (tb :: encP (l.take k))) ∧ Below w.heap.size w wr)) (fun _ i' _ => l.length - (intOf i').toNat)
  case atStart =>
    refine ⟨0, by omega, rfl, ?_, below_new _ _⟩
    have := World.ownsRow_lit (base := w.heap.size) (e := 5) (size := 1) w #[.int .u8 (t % 256)] 1 (Nat.le_refl _) (len_le (by omega)) rfl
    rw [← HTV.out] at this
    first | exact this | (rw [IntKind.wrap_u8, ← HTV.out]; exact this) | (rw [← HTV.out]; exact this)
  case round =>
    obtain ⟨k, hk, rfl, hh⟩ := hrel
    have hsz := hh.out.2.size
    by_cases hlt : k < l.length
    · obtain ⟨b, off, rfl, _, hcell⟩ := (HA.out.below hh.out.2).lit (by omega)
      obtain ⟨s, hs⟩ : ∃ s, s = l[k] := ⟨_, rfl⟩
      have hc := hcell k _ (ss_get l k hlt)
      rw [← hs] at hc
      have HTK := Lib.hid (encP_take_succ tb l k hlt)
      rw [← hs] at HTK
      have hle := encP_le l (k + 1)
      have hle2 : (tb :: encP (l.take (k + 1))).length = (encP (l.take (k + 1))).length + 1 := rfl
      rw [HTK.out, List.length_append] at hle2
      have hsum : (tb :: encP (l.take k)).length + (encB s.data.toList).length ≤ 137438953473 := by omega
      have hss : s.size ≤ 137438953473 := by have := encB_ge s; omega
      have HSUM := Lib.hid hsum
      clear hcell hs hle hle2 hsum
      go_wp2_with (first
        | (go_at_call 82; refine (refBytes s wr (by omega)).mono ?_; rintro e w1 ⟨A1, c1, rfl, hown1, hb1⟩; have HO1 := Lib.hid (ownsRow_below hh.out.1 hb1); have HR1 := Lib.hid (Reads.of_own hown1); have HB1 := Lib.hid (bt hh.out.2 hb1); have hs1 := hb1.size; clear hown1 hb1)
        | (at_builtin; refine wpList_append_any _ rfl (.tmp 16) (.tmp 21) _ rfl w.heap.size 5 i0 (.int .u8 0) 1 1 Tryd.underlying32 hi hz0 hz1 hz2 rfl (by omega) _ _ _ rfl HO1.out w1.heap.size A1 _ c1 (bs (encB s.data.toList)) rfl HR1.out (bs_one _) (len_le (by have := HSUM.out; omega)) (by have := HSUM.out; omega) (by omega) ?_; intro v2 w2 hown2 hgrow2 _; have HO2 := Lib.hid (own_app hown2); have HB2 := Lib.hid (HB1.out.grown hgrow2 HB1.out.size (fun k hk => (HO1.out.lt k hk).1)); clear hown2 hgrow2))
      go_roundw
      case rel => exact ⟨k + 1, by omega, by go_num, by rw [HTK.out]; exact HO2.out, HB2.out⟩
      case measure => simp [intOf]; omega
    · have hke : k = l.length := by omega
      have HKE := Lib.hid hke
      have hge : l.length ≤ k := by omega
      clear hlt hk hke
      have hown : wr.ownsRow w.heap.size 5 1 u5 (tb :: encP l).length (bs (tb :: encP l)) := by
        have := hh.out.1
        rwa [HKE.out, List.take_of_length_le (Nat.le_refl _)] at this
      have HOWN := Lib.hid hown
      clear hown
      go_wp2
      go_ret
      exact ⟨_, rfl, HOWN.out, hh.out.2⟩
end Go.Proofs.YtbdknncmlcbbpaaDoor

/-
  scoriaref02.Short and scoriaref02.Of.
-/
namespace Go.Proofs.YtbdknncmlcbbpaaDoor
open Go.RowKit WM

def sh (x : List UInt8) (i : Nat) : List UInt8 := x.take i ++ List.replicate (16 - i) 0
theorem sh_length (x : List UInt8) (i : Nat) (hx : x.length = 32) (h : i ≤ 16) : (sh x i).length = 16 := by
  simp [sh]; omega
theorem sh_get (x : List UInt8) (i : Nat) (hx : x.length = 32) (h : i < 16) : (sh x i)[i]? = some 0 := by
  unfold sh
  rw [List.getElem?_append_right (by simp; omega), List.getElem?_replicate, if_pos (by simp; omega)]
theorem sh_step (x : List UInt8) (i : Nat) (hx : x.length = 32) (h : i < 16) : (sh x i).set i (x[i]'(by omega)) = sh x (i + 1) := by
  unfold sh
  have hl : (x.take i).length = i := by simp; omega
  rw [List.set_append_right _ _ (by omega), hl, Nat.sub_self, show 16 - i = (16 - (i + 1)) + 1 by omega, List.replicate_succ, List.set_cons_zero, List.take_succ_eq_append_getElem (show i < x.length by omega), List.append_assoc]
  rfl
theorem sh_done (x : List UInt8) : sh x 16 = x.take 16 := by simp [sh]

set_option maxRecDepth 100000 in
set_option maxHeartbeats 1600000 in
theorem short (A : Option Addr) (m : List UInt8) (n c : Nat) (w : World) (hn : n = m.length) (hk : KT 2 w) (ha : Reads w w.heap.size 1 A n (bs m)) (hm : m.length ≤ 1099511627776) :
    Calls Tryd.prog 67 #[.slice A n c] w fun e w' => e = .returned (.agg (bs ((sha m).take 16)).toArray) ∧ Below w.heap.size w w' := by
  obtain ⟨x, hx⟩ : ∃ x, x = sha m := ⟨_, rfl⟩
  have hxl : x.length = 32 := by rw [hx]; rfl
  rw [← hx]
  have hs24 : (Tryd.prog.info? 92).map (·.size) = some (bs x).toArray.size := by rw [Tryd.size92]; simp [bs, hxl]
  have hs44 : (Tryd.prog.info? 37).map (·.size) = some (bs (x.take 16)).toArray.size := by rw [Tryd.size37]; simp [bs, hxl]
  have hs44z : (Tryd.prog.info? 37).map (·.size) = some (bs (List.replicate 16 0)).toArray.size := by rw [Tryd.size37]; simp [bs]
  have HX := Lib.hid hx
  have HXL := Lib.hid hxl
  have HS24 := Lib.hid hs24
  have HS44 := Lib.hid hs44
  have HS44Z := Lib.hid hs44z
  have HK := Lib.hid hk
  have HA := Lib.hid ha
  have HN := Lib.hid hn
  have HM := Lib.hid hm
  clear hx hxl hs24 hs44 hs44z hk ha hn hm
  go_enter Tryd.func67, Tryd.ntmps67
  go_wp2_with fail
  generalize hw0 : World.alloc w _ = w0
  have HB0 : Hid (Below w.heap.size w w0) := by rw [← hw0]; exact below_new _ _
  have HO0 : Hid (Blk w0 w.heap.size 37 (bs (List.replicate 16 0)).toArray) := by rw [← hw0]; exact Blk.new_at w 37 rfl (by kernel_rfl)
  clear hw0
  have h0 := rsum_n A m n c w0 HN.out (HK.out.below HB0.out) ((HA.out.below HB0.out).more HB0.out.size) HM.out x HX.out.symm
  refine h0.mono ?_
  clear h0
  rintro e w1 ⟨rfl, hb1⟩
  have HB1 := Lib.hid (bt HB0.out hb1)
  have HO1 := Lib.hid (blk_past hb1 HO0.out)
  clear hb1
  go_wp2_with (first
    | (refine wpList_store_row rfl 92 (.tmp 3) (.tmp 7) rfl w1.heap.size (bs x).toArray rfl rfl 92 _ (Blk.new w1 92 _) HS24.out (by simp [bs, HXL.out]) (all_oneCell_toArray (bs_one _)) ?_
       generalize hw2 : World.setRow (World.alloc w1 _) _ _ = w2
       have HX2 : Hid (Blk w2 w1.heap.size 92 (bs x).toArray) := by rw [← hw2]; exact (Blk.new w1 92 _).setRow _
       have HO2 : Hid (Blk w2 w.heap.size 37 (bs (List.replicate 16 0)).toArray) := by rw [← hw2]; exact (HO1.out.alloc _).setRow_far (by have := HO1.out.lt; omega) _
       have HB2 : Hid (Below w.heap.size w w2) := by rw [← hw2]; exact below_setRow (ba HB1.out _) HB1.out.size _
       clear hw2)
    | (refine wpList_store_row rfl 37 (.tmp 4) (.tmp 8) rfl w2.heap.size (bs (List.replicate 16 0)).toArray rfl rfl 37 _ (Blk.new w2 37 _) HS44Z.out (by simp [bs]) (all_oneCell_toArray (bs_one _)) ?_
       generalize hw3 : World.setRow (World.alloc w2 _) _ _ = w3
       have HX3 : Hid (Blk w3 w1.heap.size 92 (bs x).toArray) := by rw [← hw3]; exact (HX2.out.alloc _).setRow_far (by have := HX2.out.lt; omega) _
       have HO3 : Hid (Blk w3 w.heap.size 37 (bs (List.replicate 16 0)).toArray) := by rw [← hw3]; exact (HO2.out.alloc _).setRow_far (by have := HO2.out.lt; omega) _
       have HZ3 : Hid (Blk w3 w2.heap.size 37 (bs (sh x 0)).toArray) := by rw [← hw3]; exact (Blk.new w2 37 _).setRow _
       have HB3 : Hid (Below w.heap.size w w3) := by rw [← hw3]; exact below_setRow (ba HB2.out _) HB2.out.size _
       clear hw3))
  have hq1 : w1.heap.size < w2.heap.size := HX2.out.lt
  have hq2 : w.heap.size < w1.heap.size := HO1.out.lt
  obtain ⟨g3, hg3⟩ : ∃ g, g = w1.heap.size := ⟨_, rfl⟩
  obtain ⟨g4, hg4⟩ : ∃ g, g = w2.heap.size := ⟨_, rfl⟩
  rw [← hg3] at HX3 hq1 hq2 ⊢
  rw [← hg4] at HZ3 hq1 ⊢
  clear hg3 hg4 HX2 HO2 HB2 HO1 HB1 HO0 HB0
  go_loopw [5] (fun i' wr => ∃ i : Nat, i ≤ 16 ∧ i' = .int .i64 i ∧ Hid (Blk wr g4 37 (bs (sh x i)).toArray ∧ Blk wr g3 92 (bs x).toArray ∧ Blk wr w.heap.size 37 (bs (List.replicate 16 0)).toArray ∧ Below w.heap.size w wr)) (fun i' _ => 16 - (intOf i').toNat)
  case atStart => exact ⟨0, by omega, rfl, HZ3.out, HX3.out, HO3.out, HB3.out⟩
  case round =>
    clear HZ3 HX3 HO3 HB3
    obtain ⟨i, hi16, rfl, hh⟩ := hrel
    by_cases hlt : i < 16
    · have hix : i < x.length := by have := HXL.out; omega
      obtain ⟨b, hb⟩ : ∃ b, b = x[i] := ⟨_, rfl⟩
      have hc1 : wr.cell? ⟨g3, i, none⟩ = some (.int .u8 (b.toNat : Int)) := (Blk.cell hh.out.2.1 i).trans (by rw [hb]; simpa using bs_get x i hix)
      have hc2 : wr.cell? ⟨g4, i, none⟩ = some (.int .u8 ((0 : UInt8).toNat : Int)) := (Blk.cell hh.out.1 i).trans (by simpa using bs_get' (sh_get x i HXL.out hlt))
      have hf := Blk.frozen hh.out.1 i
      have HST : Hid ((sh x i).set i b = sh x (i + 1)) := by rw [hb]; exact sh_step x i HXL.out hlt
      clear hb
      go_wp2
      go_roundw
      case rel => exact ⟨i + 1, by omega, by go_num, by rw [← HST.out]; exact blk_setB hh.out.1 i b, hh.out.2.1.far (by simp; omega) _, hh.out.2.2.1.far (by simp; omega) _, hh.out.2.2.2.setCell (by simp; omega) _⟩
      case measure => simp [intOf]; omega
    · have hie : i = 16 := by omega
      have hz : Blk wr g4 37 (bs (x.take 16)).toArray := by
        have := hh.out.1
        rwa [hie, sh_done] at this
      have HZ := Lib.hid hz
      have hge : 16 ≤ i := by omega
      clear hlt hi16 hie hz
      go_wp2_with (first
        | (refine wpList_load_row rfl 37 (.tmp 4) rfl g4 rfl 37 (bs (x.take 16)).toArray (0, 0) _ HZ.out Tryd.underlying37 rfl HS44.out ?_)
        | (refine wpList_store_row rfl 37 (.tmp 2) (.tmp 18) rfl w.heap.size (bs (x.take 16)).toArray rfl rfl 37 _ hh.out.2.2.1 HS44.out (by simp [bs, HXL.out]) (all_oneCell_toArray (bs_one _)) ?_))
      exact bodyPost_ret (results_cell_row Tryd.results67 _ _ w.heap.size 37 (bs (x.take 16)).toArray (0, 0) _ rfl (hh.out.2.2.1.setRow _) Tryd.underlying37 rfl HS44.out) rfl ⟨rfl, below_setRow hh.out.2.2.2 (Nat.le_refl _) _⟩

set_option maxRecDepth 100000 in
set_option maxHeartbeats 1600000 in
theorem rof (t : Int) (A : Option Addr) (l : List ByteArray) (c : Nat) (w : World) (hk : KT 2 w) (ha : Reads w w.heap.size 1 A l.length (ss l)) (hl : (encP l).length ≤ 137438953472) (hn : l.length ≤ 137438953472) :
    Calls Tryd.prog 46 #[.int .i64 t, .slice A l.length c] w fun e w' => e = .returned (.agg (bs (ofB t l)).toArray) ∧ Below w.heap.size w w' := by
  have hs44 : (Tryd.prog.info? 37).map (·.size) = some (bs (ofB t l)).toArray.size := by rw [Tryd.size37]; simp [bs, ofB, sha_length]
  have hil : (inputOf t l).length ≤ 1099511627776 := by show (encP l).length + 1 ≤ _; omega
  have HS44 := Lib.hid hs44
  have HIL := Lib.hid hil
  have HK := Lib.hid hk
  have HA := Lib.hid ha
  clear hs44 hil hk ha
  go_enter Tryd.func46, Tryd.ntmps46
  go_wp2_with fail
  generalize hw0 : World.alloc w _ = w0
  have HB0 : Hid (Below w.heap.size w w0) := by rw [← hw0]; exact below_new _ _
  have HO0 : Hid (Blk w0 w.heap.size 37 (bs (List.replicate 16 0)).toArray) := by rw [← hw0]; exact Blk.new_at w 37 rfl (by kernel_rfl)
  clear hw0
  have h0 := input t A l c w0 ((HA.out.below HB0.out).more HB0.out.size) hl hn
  refine h0.mono ?_
  clear h0
  rintro e w1 ⟨v, rfl, hown, hb1⟩
  have HB1 := Lib.hid (bt HB0.out hb1)
  have HO1 := Lib.hid (blk_past hb1 HO0.out)
  obtain ⟨n, hnn⟩ : ∃ n, n = (inputOf t l).length := ⟨_, rfl⟩
  rw [← hnn] at hown
  have HN := Lib.hid hnn
  obtain ⟨A1, c1, hv, _⟩ := own_len hown
  subst hv
  have HR1 := Lib.hid (Reads.of_own hown)
  clear hb1 hnn hown
  go_wp2_with (first
    | (go_at_call 67; have h1 := short A1 (inputOf t l) n c1 w1 HN.out (HK.out.below HB1.out) HR1.out HIL.out; refine h1.mono ?_; clear h1; rintro e w2 ⟨rfl, hb2⟩; have HB2 := Lib.hid (bt HB1.out hb2); have HO2 := Lib.hid (blk_past hb2 HO1.out); clear hb2)
    | (refine wpList_store_row rfl 37 (.tmp 4) (.tmp 8) rfl w.heap.size (bs (ofB t l)).toArray rfl rfl 37 _ HO2.out HS44.out (by simp [bs, ofB, sha_length]) (all_oneCell_toArray (bs_one _)) ?_))
  exact bodyPost_ret (results_cell_row Tryd.results46 _ _ w.heap.size 37 (bs (ofB t l)).toArray (0, 0) _ rfl (HO2.out.setRow _) Tryd.underlying37 rfl HS44.out) rfl ⟨rfl, below_setRow HB2.out (Nat.le_refl _) _⟩
end Go.Proofs.YtbdknncmlcbbpaaDoor
