/-
  scoriaref02.Sum.
-/
import Derived.Test.YtikinofopkjdjaaDoorG40
import Derived.Test.YtikinofopkjdjaaDoorG47
set_option linter.unusedVariables false
namespace Go.Proofs.YtikinofopkjdjaaDoor
open Go.RowKit

theorem iv_build : #[W32 1779033703#32, W32 3144134277#32, W32 1013904242#32, W32 2773480762#32, W32 1359893119#32, W32 2600822924#32, W32 528734635#32, W32 1541459225#32] = (ws iv.list).toArray := rfl
theorem x_val' (s : St) (k r : BitVec 32) : ((s.h.toNat : Int) + bits .xor .u32 (bits .xor .u32 ((ror s.e 6).toNat : Int) ((ror s.e 11).toNat : Int)) ((ror s.e 25).toNat : Int) +
    bits .xor .u32 (bits .and .u32 (s.e.toNat : Int) (s.f.toNat : Int)) (bits .and .u32 (bits .xor .u32 (s.e.toNat : Int) 4294967295) (s.g.toNat : Int)) + (k.toNat : Int) + (r.toNat : Int)) % (4294967296 : Int) = ((xOf s k r).toNat : Int) := by
  rw [not32', and32, and32, xor32, xor32, xor32, add5]; rfl
def sum8 (v s : St) : Array Value := #[.int .u32 (((v.a.toNat : Int) + (s.a.toNat : Int)) % 4294967296), .int .u32 (((v.b.toNat : Int) + (s.b.toNat : Int)) % 4294967296), .int .u32 (((v.c.toNat : Int) + (s.c.toNat : Int)) % 4294967296), .int .u32 (((v.d.toNat : Int) + (s.d.toNat : Int)) % 4294967296),
  .int .u32 (((v.e.toNat : Int) + (s.e.toNat : Int)) % 4294967296), .int .u32 (((v.f.toNat : Int) + (s.f.toNat : Int)) % 4294967296), .int .u32 (((v.g.toNat : Int) + (s.g.toNat : Int)) % 4294967296), .int .u32 (((v.h.toNat : Int) + (s.h.toNat : Int)) % 4294967296)]
theorem sum8_eq (v s : St) : sum8 v s = (ws (v.add s).list).toArray := by
  unfold sum8
  rw [add32', add32', add32', add32', add32', add32', add32', add32']; rfl
theorem sum8_one (v s : St) : (sum8 v s).all (·.oneCell') = true := by
  rw [sum8_eq]; exact all_oneCell_toArray (ws_one _)
/-- What Sum has laid behind n blocks: its result, the hash value, the padded message in block g. -/
structure RS (w wr : World) (m : List UInt8) (g : Nat) (v : St) : Prop where
  out : Blk wr w.heap.size 121 (bs (List.replicate 32 0)).toArray
  val : Blk wr (w.heap.size + 1) 113 (ws v.list).toArray
  msg : ∀ i u, (bs (pad m))[i]? = some u → wr.cell? ⟨g, i, none⟩ = some u
  gt : w.heap.size + 1 < g
  lt : g < wr.heap.size
  tbl : KT 3 wr
  pos : 3 < w.heap.size
  below : Below w.heap.size w wr
theorem RS.later {w wr wr' : World} {m : List UInt8} {g : Nat} {v : St} (h : RS w wr m g v) (hb : Below wr.heap.size wr wr') : RS w wr' m g v :=
  ⟨h.out.below hb h.out.lt, h.val.below hb h.val.lt, fun i u hu => (hb.cell (p := ⟨g, i, none⟩) h.lt).trans (h.msg i u hu), h.gt, Nat.lt_of_lt_of_le h.lt hb.size, h.tbl.below hb, h.pos, below_then h.below hb⟩
theorem RS.drewN {w wr : World} {m : List UInt8} {g : Nat} {v : St} (h : RS w wr m g v) (n : Nat) : RS w (wr.drewN n) m g v :=
  h.later (below_drewN (Below.refl _ _) n)
theorem RS.put {w wr : World} {m : List UInt8} {g : Nat} {v : St} (h : RS w wr m g v) (v' : St) : RS w (wr.setRow (w.heap.size + 1) (ws v'.list).toArray) m g v' :=
  ⟨h.out.setRow_far (by omega) _, h.val.setRow _, fun i u hu => by
      rw [World.cell?_of_block (setRow_other wr (w.heap.size + 1) _ g (by have := h.gt; omega))]; exact h.msg i u hu,
    h.gt, by rw [size_setRow]; exact h.lt, fun t ht => by
      have h2 := h.pos
      rw [World.cell?_of_block (setRow_other wr (w.heap.size + 1) _ 3 (by have := h.pos; omega))]; exact h.tbl t ht,
    h.pos, below_setRow h.below (by omega) _⟩

theorem RS.cell {w wr : World} {m : List UInt8} {g : Nat} {v : St} (h : RS w wr m g v) :
    wr.cell? ⟨w.heap.size + 1, 0, none⟩ = some (W32 v.a) ∧ wr.cell? ⟨w.heap.size + 1, 1, none⟩ = some (W32 v.b) ∧ wr.cell? ⟨w.heap.size + 1, 2, none⟩ = some (W32 v.c) ∧ wr.cell? ⟨w.heap.size + 1, 3, none⟩ = some (W32 v.d) ∧
    wr.cell? ⟨w.heap.size + 1, 4, none⟩ = some (W32 v.e) ∧ wr.cell? ⟨w.heap.size + 1, 5, none⟩ = some (W32 v.f) ∧ wr.cell? ⟨w.heap.size + 1, 6, none⟩ = some (W32 v.g) ∧ wr.cell? ⟨w.heap.size + 1, 7, none⟩ = some (W32 v.h) :=
  ⟨Blk.cell h.val 0, Blk.cell h.val 1, Blk.cell h.val 2, Blk.cell h.val 3, Blk.cell h.val 4, Blk.cell h.val 5, Blk.cell h.val 6, Blk.cell h.val 7⟩
theorem RS.make {w w1 : World} {m : List UInt8} {A B : Array Value} {v1 : Value} (hk : KT 3 w) (hA : A = (bs (List.replicate 32 0)).toArray) (hB : B = (ws iv.list).toArray)
    (hb : Below ((w.alloc (.cells A 121)).alloc (.cells B 113)).heap.size ((w.alloc (.cells A 121)).alloc (.cells B 113)) w1)
    (ho : w1.ownsRow ((w.alloc (.cells A 121)).alloc (.cells B 113)).heap.size 5 1 v1 (pad m).length (bs (pad m))) :
    ∃ g cap, v1 = .slice (some ⟨g, 0, none⟩) (pad m).length cap ∧ (pad m).length ≤ cap ∧ cap ≤ maxLen ∧ RS w w1 m g iv := by
  have hs := hb.size
  simp only [size_alloc] at hs
  have hp : 0 < (pad m).length := by rw [pad_length]; omega
  have h12 : Below w.heap.size w ((w.alloc (.cells A 121)).alloc (.cells B 113)) := ((below_new w _).alloc (by simp only [size_alloc]; omega) _)
  rcases ho.2 with ⟨_, h0⟩ | ⟨g, cap, cur, rfl, hg, hh, hc, hcm, _, htk⟩
  · omega
  · have hgl : g < w1.heap.size := Blk.lt (t := 5) hh
    simp only [size_alloc] at hg
    refine ⟨g, cap, rfl, hc, hcm, ?_, ?_, fun i u hu => ?_, by omega, hgl, hk.below (h12.trans (hb.mono (by simp only [size_alloc]; omega))), hk.lt, h12.trans (hb.mono (by simp only [size_alloc]; omega))⟩
    · exact Blk.below ((Blk.new_at w 121 rfl hA).alloc _) hb (by simp only [size_alloc]; omega)
    · exact Blk.below (Blk.new_at _ 113 (by simp only [size_alloc]) hB) hb (by simp only [size_alloc]; omega)
    · have := ho.cells (g := g) rfl i u hu
      rwa [Addr.add_lit, Nat.zero_add] at this

theorem RS.bytes {w wr : World} {m : List UInt8} {g : Nat} {v : St} (h : RS w wr m g v) {n : Nat} (hn : 64 * (n + 1) ≤ (pad m).length) (i : Nat) (hi : i < 64) :
    wr.cell? ⟨g, 64 * n + i, none⟩ = some (.int .u8 (((blockOf (pad m) n)[i]'(by rw [blockOf_length hn]; exact hi)).toNat : Int)) := by
  rw [blockOf_get hn i hi]
  exact h.msg _ _ (bs_get _ _ (by omega))
theorem RS.made {w wr w1 wl : World} {m : List UInt8} {g : Nat} {v : St} {z cs : Array Value} (h : RS w wr m g v) (hb : Below wr.heap.size wr w1) (hwl : (w1.alloc (.cells z 180)).setRow w1.heap.size cs = wl) :
    RS w wl m g v ∧ Blk wl w1.heap.size 180 cs := by
  subst hwl
  have h1 := (h.later hb)
  refine ⟨h1.later (below_setRow (below_new w1 _) (Nat.le_refl _) _), (Blk.new w1 180 z).setRow _⟩

set_option maxRecDepth 100000 in
set_option maxHeartbeats 4000000 in
theorem rsum (A : Option Addr) (m : List UInt8) (c : Nat) (w : World) (hk : KT 3 w) (ha : Reads w w.heap.size 1 A m.length (bs m)) (hm : m.length ≤ 1099511627776) :
    Calls Tryd.prog 110 #[.slice A m.length c] w fun e w' => e = .returned (.agg (bs (sha m)).toArray) ∧ Below w.heap.size w w' := by
  have HA := Lib.hid ha
  have HKT := Lib.hid hk
  clear ha hk
  go_enter Tryd.func110, Tryd.ntmps110
  go_wp2_with (first
    | (go_at_call 125; refine (padded A m c _ ((HA.out.later (below_new w _)).later (below_new _ _)) hm).mono ?_; rintro e w1 ⟨v1, rfl, hown1, hb1⟩; have HO1 := Lib.hid hown1; have HB1 := Lib.hid hb1; clear hown1 hb1))
  obtain ⟨g, cap, rfl, hpc, hcm, hrs⟩ := RS.make HKT.out (by kernel_rfl) (by kernel_rfl) HB1.out HO1.out
  have HR := Lib.hid hrs
  clear hrs HO1 HB1 HKT
  obtain ⟨P, hP⟩ : ∃ P, P = (pad m).length := ⟨_, rfl⟩
  obtain ⟨N, hN⟩ : ∃ N, N = P / 64 := ⟨_, rfl⟩
  have hPN : P = 64 * N := by rw [hN, hP]; exact pad_blocks m
  have hPl : P ≤ 1099511627904 := by have := pad_length m; have := zeros_lt m.length; omega
  have HP := Lib.hid hP
  have HN := Lib.hid hN
  rw [← hP] at hpc ⊢
  unfold maxLen at hcm
  have HPN := Lib.hid hPN
  have hPN1 : P ≤ 64 * N := by omega
  have hPN2 : 64 * N ≤ P := by omega
  clear hP hN hPN
  go_loopw [5] (fun v' wr => ∃ n : Nat, n ≤ N ∧ v' = .int .i64 (64 * (n : Int)) ∧ Hid (RS w wr m g (hvn (pad m) n))) (fun v' _ => P - (intOf v').toNat)
  case atStart => exact ⟨0, Nat.zero_le _, rfl, HR⟩
  case round =>
    clear HR
    obtain ⟨n, hn, rfl, HR⟩ := hrel
    by_cases hlt : n < N
    · have a1 : IntKind.i64.wrap (64 * (n : Int) + 64) = 64 * (n : Int) + 64 := IntWalk.i64_in _ (by omega)
      have a2 : (64 * (n : Int)).toNat = 64 * n := by omega
      have a3 : 64 * (n : Int) < (P : Int) := by omega
      have hbl : 64 * (n + 1) ≤ (pad m).length := by rw [← HP.out]; omega
      obtain ⟨b, hb⟩ : ∃ b, b = blockOf (pad m) n := ⟨_, rfl⟩
      have HB := Lib.hid hb
      have hb64 : b.length = 64 := by rw [hb]; exact blockOf_length hbl
      have hby : ∀ i (hi : i < 64), wr.cell? ⟨g, 64 * n + i, none⟩ = some (.int .u8 ((b[i]'(by omega)).toNat : Int)) := by
        subst hb
        exact fun i hi => HR.out.bytes hbl i hi
      have HB64 := Lib.hid hb64
      have HBY := Lib.hid hby
      have hs54 : (Tryd.prog.info? 180).map (·.size) = some (ws (tab (wAt b))).toArray.size := by rw [Tryd.size180]; simp [ws, tab]
      have HS54 := Lib.hid hs54
      clear hb hby hs54
      go_wp2_with (first
        | (go_at_call 126; refine (rwords b HB64.out g (64 * n) _ _ HBY.out).mono ?_; rintro e w1 ⟨rfl, hb1⟩; have HB1 := Lib.hid hb1; clear hb1)
        | (refine wpList_store_row rfl 180 (.tmp 6) (.tmp 34) rfl w1.heap.size (ws (tab (wAt b))).toArray rfl rfl 180 _ (Blk.new w1 180 _) HS54.out (by simp [ws, tab]) (all_oneCell_toArray (ws_one _)) ?_))
      obtain ⟨M, hM⟩ : ∃ M, M = w1.heap.size := ⟨_, rfl⟩
      generalize hwl : World.setRow (World.alloc w1 _) w1.heap.size (ws (tab (wAt b))).toArray = wl
      have HL := Lib.hid (HR.out.made HB1.out hwl)
      clear hwl HB1 HR HBY
      rw [← hM] at HL ⊢
      clear hM
      obtain ⟨v, hv⟩ : ∃ v, v = hvn (pad m) n := ⟨_, rfl⟩
      rw [← hv] at HL
      have HV := Lib.hid hv
      clear hv
      obtain ⟨c0, c1, c2, c3, c4, c5, c6, c7⟩ := HL.out.1.cell
      go_quiet (fail)
      clear c0 c1 c2 c3 c4 c5 c6 c7
      obtain ⟨wo, hwo⟩ : ∃ wo : World, wo = wr := ⟨_, rfl⟩
      subst hwo
      go_wp2
      go_loopw [7, 8, 9, 10, 11, 12, 13, 14, 15] (fun a' b' c' d' e' f' g' h' i' wr => ∃ t : Nat, t ≤ 64 ∧ i' = .int .i64 t ∧ a' = W32 (rnds v b t).a ∧ b' = W32 (rnds v b t).b ∧ c' = W32 (rnds v b t).c ∧ d' = W32 (rnds v b t).d ∧ e' = W32 (rnds v b t).e ∧ f' = W32 (rnds v b t).f ∧ g' = W32 (rnds v b t).g ∧ h' = W32 (rnds v b t).h ∧ Hid (RS w wr m g v ∧ Blk wr M 180 (ws (tab (wAt b))).toArray)) (fun _ _ _ _ _ _ _ _ i' _ => 64 - (intOf i').toNat)
      case atStart => exact ⟨0, by omega, rfl, rfl, rfl, rfl, rfl, rfl, rfl, rfl, rfl, HL.out.1.drewN _, HL.out.2.drewN _⟩
      case round =>
        clear HL
        obtain ⟨t, ht, rfl, rfl, rfl, rfl, rfl, rfl, rfl, rfl, rfl, hh⟩ := hrel
        obtain ⟨s, hs⟩ : ∃ s, s = rnds v b t := ⟨_, rfl⟩
        rw [← hs]
        have HSS := Lib.hid hs
        clear hs
        by_cases hlt : t < 64
        · have kt := hh.out.1.tbl t hlt
          have wt := (Blk.cell hh.out.2 t).trans (by simpa using ws_get (tab_get (wAt b) t hlt))
          go_wp2
          go_quiet ((go_at_call 127; exact Calls.quiet_of (rotrI_ref _ _ (by decide) (by decide) _)))
          clear kt wt
          go_wp2_with (go_at_call 127; refine (rotrI_ref _ _ (by decide) (by decide) _).mono ?_; rintro e w' ⟨rfl, q, rfl⟩)
          go_roundw
          case rel => exact ⟨t + 1, by omega, by go_num, by rw [x_val', y_val, add32', rnds_succ, ← HSS.out]; rfl, by rw [rnds_succ, ← HSS.out]; rfl, by rw [rnds_succ, ← HSS.out]; rfl, by rw [rnds_succ, ← HSS.out]; rfl, by rw [x_val', add32', rnds_succ, ← HSS.out]; rfl, by rw [rnds_succ, ← HSS.out]; rfl, by rw [rnds_succ, ← HSS.out]; rfl, by rw [rnds_succ, ← HSS.out]; rfl, hh.out.1.drewN _, hh.out.2.drewN _⟩
          case measure => simp [intOf]; omega
        · have hte : t = 64 := by omega
          have HT := Lib.hid hte
          have hge : 64 ≤ t := by omega
          clear hlt ht hte
          obtain ⟨c0, c1, c2, c3, c4, c5, c6, c7⟩ := hh.out.1.cell
          go_wp2_with (first
            | (refine wpList_store_row rfl 113 (.tmp 3) (.tmp 146) rfl (w.heap.size + 1) (sum8 v s) rfl rfl 113 _ hh.out.1.val Tryd.size113 rfl (sum8_one v s) ?_))
          go_roundw
          case rel =>
            have e : hvn (pad m) (n + 1) = v.add s := by rw [hvn_succ, ← HV.out, ← HB.out, comp, HSS.out, HT.out]
            refine ⟨n + 1, by omega, by congr 1, ?_⟩
            rw [e, sum8_eq]
            exact hh.out.1.put _
          case measure => simp [intOf]; omega
    · have hne : n = N := by omega
      have HNE := Lib.hid hne
      have hge : N ≤ n := by omega
      clear hlt hn hne
      obtain ⟨v, hv⟩ : ∃ v, v = hvn (pad m) n := ⟨_, rfl⟩
      rw [← hv] at HR
      have HV := Lib.hid hv
      clear hv
      obtain ⟨wo, hwo⟩ : ∃ wo : World, wo = wr := ⟨_, rfl⟩
      subst hwo
      go_wp2
      go_loopw [19] (fun i' wr => ∃ i : Nat, i ≤ 32 ∧ i' = .int .i64 i ∧ Hid (Below wo.heap.size wo wr ∧ Blk wr wo.heap.size 121 (bs (outTo v i)).toArray)) (fun i' _ => 32 - (intOf i').toNat)
      case atStart => exact ⟨0, by omega, rfl, below_new _ _, Blk.new_at _ 121 rfl (by rw [outTo_zero]; kernel_rfl)⟩
      case round =>
        obtain ⟨i, hi32, rfl, hh⟩ := hrel
        by_cases hlt : i < 32
        · have hc := (Blk.cell (HR.out.later hh.out.1).val (i / 4)).trans (show (ws v.list).toArray[i / 4]? = some (W32 (v.at (i / 4))) by simpa using ws_get (by rw [← St.tab]; exact tab8_get v.at (i / 4) (by omega)))
          have hc2 := (Blk.cell hh.out.2 i).trans (by simpa using bs_get' (outTo_get v i hlt))
          have hf := Blk.frozen hh.out.2 i
          have a1 : IntKind.i64.wrap (8 * ((i : Int) % 4)) = 8 * ((i : Int) % 4) := IntWalk.i64_in _ (by omega)
          have a2 : IntKind.i64.wrap (24 - 8 * ((i : Int) % 4)) = 24 - 8 * ((i : Int) % 4) := IntWalk.i64_in _ (by omega)
          have a3 : (24 - 8 * ((i : Int) % 4)).toNat = 24 - 8 * (i % 4) := by omega
          have a4 : 0 ≤ 24 - 8 * ((i : Int) % 4) := by omega
          go_wp2
          go_roundw
          case rel =>
            rw [out_byte v i _ rfl]
            exact ⟨i + 1, by omega, by go_num, hh.out.1.setCell (Nat.le_refl _) _, by rw [← outTo_step v i hlt]; exact blk_setB hh.out.2 i _⟩
          case measure => simp [intOf]; omega
        · have hie : i = 32 := by omega
          have HI := Lib.hid hie
          have hge2 : 32 ≤ i := by omega
          clear hlt hi32 hie
          have hl24 : (Tryd.prog.info? 121).map (·.size) = some (bs (outTo v i)).toArray.size := by rw [Tryd.size121]; simp [bs, outTo]
          have HS24 := Lib.hid hl24
          clear hl24
          go_wp2_with (first
            | (refine wpList_load_row rfl 121 (.tmp 18) rfl wo.heap.size rfl 121 (bs (outTo v i)).toArray (0, 0) _ hh.out.2 Tryd.underlying121 rfl HS24.out ?_)
            | (refine wpList_store_row rfl 121 (.tmp 2) (.tmp 163) rfl w.heap.size (bs (outTo v i)).toArray rfl rfl 121 _ (HR.out.later hh.out.1).out HS24.out (by simp [bs, outTo]) (all_oneCell_toArray (bs_one _)) ?_))
          refine bodyPost_ret (results_cell_row Tryd.results110 _ _ w.heap.size 121 (bs (outTo v i)).toArray (0, 0) _ rfl (Blk.setRow (HR.out.later hh.out.1).out _) Tryd.underlying121 rfl HS24.out) rfl ⟨?_, below_setRow (HR.out.later hh.out.1).below (by omega) _⟩
          rw [HI.out, outTo_done, sha, HV.out, HNE.out, HN.out, HP.out]
end Go.Proofs.YtikinofopkjdjaaDoor
