/-
  hash.compress: what a block makes of a hash value.
-/
import Derived.Test.YtbdknncmlcbbpaaDoorG24
set_option linter.unusedVariables false
namespace Go.Proofs.YtbdknncmlcbbpaaDoor
open Go.RowKit

/-- The round constants lie in block g. -/
def KT (g : Nat) (w : World) : Prop := ∀ t, t < 64 → w.cell? ⟨g, t, none⟩ = some (W32 (kTab.getD t 0#32))
theorem KT.lt {g : Nat} {w : World} (h : KT g w) : g < w.heap.size := block_lt_of_cell (h 0 (by omega))
theorem KT.below {g : Nat} {w w' : World} (h : KT g w) (hb : Below w.heap.size w w') : KT g w' := fun t ht => (hb.cell (p := ⟨g, t, none⟩) h.lt).trans (h t ht)
theorem KT.drewN {g : Nat} {w : World} (h : KT g w) (n : Nat) : KT g (w.drewN n) := h

theorem neg_lit : (if IntKind.u32.signed = true then (-1 : Int) else IntKind.u32.max) = 4294967295 := by decide
theorem add5 (x y z u r : BitVec 32) : ((x.toNat : Int) + (y.toNat : Int) + (z.toNat : Int) + (u.toNat : Int) + (r.toNat : Int)) % (4294967296 : Int) = ((x + y + z + u + r).toNat : Int) := by
  simp only [BitVec.toNat_add]; omega
theorem x_val (s : St) (k r : BitVec 32) : ((s.h.toNat : Int) + bits .xor .u32 (bits .xor .u32 ((ror s.e 6).toNat : Int) ((ror s.e 11).toNat : Int)) ((ror s.e 25).toNat : Int) +
    bits .xor .u32 (bits .and .u32 (s.e.toNat : Int) (s.f.toNat : Int)) (bits .and .u32 (bits .xor .u32 (if IntKind.u32.signed = true then (-1 : Int) else IntKind.u32.max) (s.e.toNat : Int)) (s.g.toNat : Int)) + (k.toNat : Int) + (r.toNat : Int)) % (4294967296 : Int) = ((xOf s k r).toNat : Int) := by
  rw [neg_lit, not32, and32, and32, xor32, xor32, xor32, add5]; rfl
theorem y_val (s : St) : (bits .xor .u32 (bits .xor .u32 ((ror s.a 2).toNat : Int) ((ror s.a 13).toNat : Int)) ((ror s.a 22).toNat : Int) +
    bits .xor .u32 (bits .xor .u32 (bits .and .u32 (s.a.toNat : Int) (s.b.toNat : Int)) (bits .and .u32 (s.a.toNat : Int) (s.c.toNat : Int))) (bits .and .u32 (s.b.toNat : Int) (s.c.toNat : Int))) % (4294967296 : Int) = ((yOf s).toNat : Int) := by
  rw [and32, and32, and32, xor32, xor32, xor32, xor32, add32']; rfl
theorem rnds_succ (v : St) (b : List UInt8) (t : Nat) : rnds v b (t + 1) = rnd (rnds v b t) (kTab[t]?.getD 0#32) (wAt b t) := by rw [rnds, List.getD_eq_getElem?_getD]

def tab8 (g : Nat → BitVec 32) : List (BitVec 32) := (List.range 8).map g
theorem tab8_get (g : Nat → BitVec 32) (i : Nat) (hi : i < 8) : (tab8 g)[i]? = some (g i) := by simp [tab8, hi]
theorem tab8_set (g : Nat → BitVec 32) (i : Nat) (x : BitVec 32) : (tab8 g).set i x = tab8 (fun j => if j = i then x else g j) := by
  apply List.ext_getElem?
  intro k
  by_cases hk : k < 8
  · rw [List.getElem?_set, tab8_get _ _ hk, tab8_get _ _ hk]
    by_cases h : i = k
    · subst h; simp [hk, tab8]
    · rw [if_neg h, if_neg (by omega)]
  · rw [List.getElem?_eq_none (by simp [tab8]; omega), List.getElem?_eq_none (by simp [tab8]; omega)]
def St.at (s : St) (i : Nat) : BitVec 32 := s.list.getD i 0#32
theorem St.tab (s : St) : tab8 s.at = s.list := rfl
/-- The sums of the first i words. -/
def mix (v s : St) (i j : Nat) : BitVec 32 := if j < i then v.at j + s.at j else v.at j
theorem mix_zero (v s : St) : tab8 (mix v s 0) = v.list := rfl
theorem mix_step (v s : St) (i : Nat) : (fun j => if j = i then v.at i + s.at i else mix v s i j) = mix v s (i + 1) := by
  funext j
  unfold mix
  by_cases h : j = i
  · subst h; simp
  · by_cases h2 : j < i
    · simp [h, h2, show j < i + 1 by omega]
    · simp [h, h2, show ¬ j < i + 1 by omega]
theorem mix_done (v : St) (b : List UInt8) : tab8 (mix v (rnds v b 64) 8) = (comp v b).list := rfl

theorem St.list_length (s : St) : s.list.length = 8 := rfl

/-- What the call has laid before its rounds. -/
structure Laid (w wl : World) (v : St) (b : List UInt8) (M : Nat) : Prop where
  val : Blk wl w.heap.size 84 (ws v.list).toArray
  out : Blk wl (w.heap.size + 1 + 1) 84 (ws [0#32, 0#32, 0#32, 0#32, 0#32, 0#32, 0#32, 0#32]).toArray
  row : Blk wl M 137 (ws (tab (wAt b))).toArray
  tbl : KT 1 wl
  below : Below w.heap.size w wl
theorem Laid.drewN {w wl : World} {v : St} {b : List UInt8} {M : Nat} (h : Laid w wl v b M) (n : Nat) : Laid w (wl.drewN n) v b M :=
  ⟨h.val.drewN n, h.out.drewN n, h.row.drewN n, h.tbl.drewN n, below_drewN h.below n⟩
theorem Laid.make {w w1 wl : World} {v : St} {b : List UInt8} {A : Array Value} {z : Array Value} (hk : KT 1 w)
    (hb1 : Below (((w.alloc (.cells (ws v.list).toArray 84)).alloc (.cells A 85)).alloc (.cells (ws [0#32, 0#32, 0#32, 0#32, 0#32, 0#32, 0#32, 0#32]).toArray 84)).heap.size (((w.alloc (.cells (ws v.list).toArray 84)).alloc (.cells A 85)).alloc (.cells (ws [0#32, 0#32, 0#32, 0#32, 0#32, 0#32, 0#32, 0#32]).toArray 84)) w1)
    (hwl : (w1.alloc (.cells z 137)).setRow w1.heap.size (ws (tab (wAt b))).toArray = wl) : Laid w wl v b w1.heap.size := by
  have hsz := hb1.size
  simp only [size_alloc] at hsz
  subst hwl
  refine ⟨?_, ?_, (Blk.new w1 137 z).setRow _, ?_, ?_⟩
  · refine Blk.setRow_far ((Blk.below (((Blk.new w 84 _).alloc _).alloc _) hb1 (by simp only [size_alloc]; omega)).alloc _) (by omega) _
  · refine Blk.setRow_far ((Blk.below (Blk.new_at _ 84 (by simp only [size_alloc]) rfl) hb1 (by simp only [size_alloc]; omega)).alloc _) (by omega) _
  · have h1 : Below w.heap.size w (((w.alloc (.cells (ws v.list).toArray 84)).alloc (.cells A 85)).alloc (.cells (ws [0#32, 0#32, 0#32, 0#32, 0#32, 0#32, 0#32, 0#32]).toArray 84)) := (((Below.refl _ _).alloc (Nat.le_refl _) _).alloc (by simp only [size_alloc]; omega) _).alloc (by simp only [size_alloc]; omega) _
    exact hk.below (below_setRow ((h1.trans (hb1.mono (by simp only [size_alloc]; omega))).alloc (by omega) _) (by omega) _)
  · have h1 : Below w.heap.size w (((w.alloc (.cells (ws v.list).toArray 84)).alloc (.cells A 85)).alloc (.cells (ws [0#32, 0#32, 0#32, 0#32, 0#32, 0#32, 0#32, 0#32]).toArray 84)) := (((Below.refl _ _).alloc (Nat.le_refl _) _).alloc (by simp only [size_alloc]; omega) _).alloc (by simp only [size_alloc]; omega) _
    exact below_setRow ((h1.trans (hb1.mono (by simp only [size_alloc]; omega))).alloc (by omega) _) (by omega) _
theorem Laid.cell {w wl : World} {v : St} {b : List UInt8} {M : Nat} (h : Laid w wl v b M) :
    wl.cell? ⟨w.heap.size, 0, none⟩ = some (W32 v.a) ∧ wl.cell? ⟨w.heap.size, 1, none⟩ = some (W32 v.b) ∧ wl.cell? ⟨w.heap.size, 2, none⟩ = some (W32 v.c) ∧ wl.cell? ⟨w.heap.size, 3, none⟩ = some (W32 v.d) ∧
    wl.cell? ⟨w.heap.size, 4, none⟩ = some (W32 v.e) ∧ wl.cell? ⟨w.heap.size, 5, none⟩ = some (W32 v.f) ∧ wl.cell? ⟨w.heap.size, 6, none⟩ = some (W32 v.g) ∧ wl.cell? ⟨w.heap.size, 7, none⟩ = some (W32 v.h) :=
  ⟨Blk.cell h.val 0, Blk.cell h.val 1, Blk.cell h.val 2, Blk.cell h.val 3, Blk.cell h.val 4, Blk.cell h.val 5, Blk.cell h.val 6, Blk.cell h.val 7⟩

set_option maxRecDepth 100000 in
set_option maxHeartbeats 1000000 in
set_option maxRecDepth 100000 in
theorem compress (v : St) (b : List UInt8) (hb : b.length = 64) (w : World) (hk : KT 1 w) :
    Calls Tryd.prog 72 #[.agg (ws v.list).toArray, .agg (bs b).toArray] w fun e w' => e = .returned (.agg (ws (comp v b).list).toArray) ∧ Below w.heap.size w w' := by
  have hs31 : (Tryd.prog.info? 85).map (·.size) = some (bs b).toArray.size := by rw [Tryd.size85]; simp [bs, hb]
  have hs54 : (Tryd.prog.info? 137).map (·.size) = some (ws (tab (wAt b))).toArray.size := by rw [Tryd.size137]; simp [ws, tab]
  have HS := Lib.hid hs31
  have HS54 := Lib.hid hs54
  have HB := Lib.hid hb
  have HKT := Lib.hid hk
  clear hs31 hs54 hb hk
  go_enter Tryd.func72, Tryd.ntmps72
  go_wp2_with (first
    | (refine wpList_load_row rfl 85 (.tmp 3) rfl (w.heap.size + 1) rfl 85 (bs b).toArray (0, 0) _ ((Blk.new_at _ 85 (by simp) rfl).alloc _) Tryd.underlying85 rfl HS.out ?_)
    | (go_at_call 86; refine (schedule b HB.out _).mono ?_; rintro e w1 ⟨rfl, hb1⟩; have HB1 := Lib.hid hb1; clear hb1)
    | (refine wpList_store_row rfl 137 (.tmp 5) (.tmp 20) rfl w1.heap.size (ws (tab (wAt b))).toArray rfl rfl 137 _ (Blk.new w1 137 _) HS54.out (by simp [ws, tab]) (all_oneCell_toArray (ws_one _)) ?_))
  obtain ⟨M, hM⟩ : ∃ M, M = w1.heap.size := ⟨_, rfl⟩
  generalize hwl : World.setRow (World.alloc w1 _) w1.heap.size (ws (tab (wAt b))).toArray = wl
  have HL := Lib.hid (Laid.make HKT.out HB1.out hwl)
  clear hwl HB1 HKT
  obtain ⟨c0, c1, c2, c3, c4, c5, c6, c7⟩ := HL.out.cell
  rw [← hM] at HL ⊢
  clear hM
  go_quiet (fail)
  clear c0 c1 c2 c3 c4 c5 c6 c7
  go_wp2
  go_loopw [6, 7, 8, 9, 10, 11, 12, 13, 37] (fun a' b' c' d' e' f' g' h' i' wr => ∃ t : Nat, t ≤ 64 ∧ i' = .int .i64 t ∧ a' = W32 (rnds v b t).a ∧ b' = W32 (rnds v b t).b ∧ c' = W32 (rnds v b t).c ∧ d' = W32 (rnds v b t).d ∧ e' = W32 (rnds v b t).e ∧ f' = W32 (rnds v b t).f ∧ g' = W32 (rnds v b t).g ∧ h' = W32 (rnds v b t).h ∧ Hid (Laid w wr v b M)) (fun _ _ _ _ _ _ _ _ i' _ => 64 - (intOf i').toNat)
  case atStart => exact ⟨0, by omega, rfl, rfl, rfl, rfl, rfl, rfl, rfl, rfl, rfl, HL.out.drewN _⟩
  case round =>
    clear HL
    obtain ⟨t, ht, rfl, rfl, rfl, rfl, rfl, rfl, rfl, rfl, rfl, hh⟩ := hrel
    obtain ⟨s, hs⟩ : ∃ s, s = rnds v b t := ⟨_, rfl⟩
    rw [← hs]
    have HSS := Lib.hid hs
    clear hs
    by_cases hlt : t < 64
    · have kt := hh.out.tbl t hlt
      have wt := (Blk.cell hh.out.row t).trans (by simpa using ws_get (tab_get (wAt b) t hlt))
      go_wp2
      go_quiet ((go_at_call 87; exact quiet_left (rotrI _ _ (by decide) (by decide) _)))
      go_wp2_with (go_at_call 87; refine (rotrI _ _ (by decide) (by decide) _).mono ?_; rintro e w' ⟨rfl, rfl⟩)
      go_roundw
      case rel => exact ⟨t + 1, by omega, by go_num, by rw [x_val, y_val, add32', rnds_succ, ← HSS.out]; rfl, by rw [rnds_succ, ← HSS.out]; rfl, by rw [rnds_succ, ← HSS.out]; rfl, by rw [rnds_succ, ← HSS.out]; rfl, by rw [x_val, add32', rnds_succ, ← HSS.out]; rfl, by rw [rnds_succ, ← HSS.out]; rfl, by rw [rnds_succ, ← HSS.out]; rfl, by rw [rnds_succ, ← HSS.out]; rfl, hh.out.drewN nq⟩
      case measure => simp [intOf]; omega
    · have hte : t = 64 := by omega
      have HT := Lib.hid hte
      have hge : 64 ≤ t := by omega
      clear hlt ht hte
      obtain ⟨wo, hwo⟩ : ∃ wo : World, wo = wr := ⟨_, rfl⟩
      subst hwo
      go_wp2
      go_loopw [109] (fun v' wr => ∃ i : Nat, i ≤ 8 ∧ v' = .int .i64 i ∧ Hid (Blk wr w.heap.size 84 (ws (tab8 (mix v s i))).toArray ∧ Blk wr (w.heap.size + 1 + 1) 84 (ws [0#32, 0#32, 0#32, 0#32, 0#32, 0#32, 0#32, 0#32]).toArray ∧ Below w.heap.size w wr)) (fun v' _ => 8 - (intOf v').toNat)
      case atStart => exact ⟨0, by omega, rfl, hh.out.val, hh.out.out, hh.out.below⟩
      case round =>
        clear hh
        obtain ⟨i, hi, rfl, hh⟩ := hrel
        by_cases hlt : i < 8
        · have hix : ∀ W, (Instr.index 84 (.agg #[W32 s.a, W32 s.b, W32 s.c, W32 s.d, W32 s.e, W32 s.f, W32 s.g, W32 s.h]) (.int .i64 (i : Int))).run Tryd.prog W = .ok (W32 (s.at i)) W := fun W =>
            run_index_arr (P := Tryd.prog) W 84 83 8 (ws s.list) i _ Tryd.underlying84 Tryd.sz83 Tryd.agg83 hlt (ws_get (by rw [← St.tab]; exact tab8_get _ _ hlt))
          have hcl := (Blk.cell hh.out.1 i).trans (by simpa using ws_get (tab8_get (mix v s i) i hlt))
          have hfr := Blk.frozen hh.out.1 i
          go_wp2
          go_roundw
          case rel =>
            rw [add32']
            have hm : mix v s i i = v.at i := by simp [mix]
            exact ⟨i + 1, by omega, by go_num, by rw [← mix_step, ← tab8_set, hm]; exact blk_set hh.out.1 i _, hh.out.2.1.far (by simp; omega) _, hh.out.2.2.setCell (by simp) _⟩
          case measure => simp [intOf]; omega
        · have hie : i = 8 := by omega
          have HI := Lib.hid hie
          have hge2 : 8 ≤ i := by omega
          clear hlt hi hie
          have hl30 : (Tryd.prog.info? 84).map (·.size) = some (ws (tab8 (mix v s i))).toArray.size := by rw [Tryd.size84]; simp [ws, tab8]
          have HS30 := Lib.hid hl30
          clear hl30
          go_wp2_with (first
            | (refine wpList_load_row rfl 84 (.tmp 2) rfl w.heap.size rfl 84 (ws (tab8 (mix v s i))).toArray (0, 0) _ hh.out.1 Tryd.underlying84 rfl HS30.out ?_)
            | (refine wpList_store_row rfl 84 (.tmp 4) (.tmp 120) rfl (w.heap.size + 1 + 1) (ws (tab8 (mix v s i))).toArray rfl rfl 84 _ hh.out.2.1 HS30.out (by simp [ws, tab8]) (all_oneCell_toArray (ws_one _)) ?_))
          refine bodyPost_ret (results_cell_row Tryd.results72 _ _ (w.heap.size + 1 + 1) 84 (ws (tab8 (mix v s i))).toArray (0, 0) _ rfl (Blk.setRow hh.out.2.1 _) Tryd.underlying84 rfl HS30.out) rfl ⟨?_, below_setRow hh.out.2.2 (by omega) _⟩
          rw [HI.out, HSS.out, HT.out, mix_done]
end Go.Proofs.YtbdknncmlcbbpaaDoor
