/-
  The program's iterator over a tree: its inner function 'visit'.
-/
import Derived.Test.YtlffmfdjifgfgaaDoorG38
import Derived.Test.YtlffmfdjifgfgaaDoorG05
import Derived.WalkSmall
import Derived.Laws.EntriesVeiled
import Derived.Shelf.Abstract
set_option linter.unusedVariables false
namespace Go.Proofs.YtlffmfdjifgfgaaDoor
open Go.RowKit WM TR

/-- What 'visit' leaves. -/
def VisPost (z l : Nat) (S0 : Nat → Prop) (W0 : World) (J Jx : List (List Int × T) → (Nat → Prop) → World → Prop) (pre : List (List Int × T)) (p : List Int) (t : T) (S : Nat → Prop) (W : World) (v : Value) (e : Ending) (W' : World) : Prop :=
  ∃ S' v', VMv z S W v S' W' v' ∧ ((e = .returned (.bool true) ∧ J (pre ++ walk p t) S' W' ∧ VSt z l S0 W0 S' W' v' p) ∨ (e = .returned (.bool false) ∧ ∃ q, q <+: walk p t ∧ Jx (pre ++ q) S' W'))

theorem pre_snoc {α : Type} {a b c : List α} {x : α} (h : a ++ (x :: b) <+: c) : a ++ [x] <+: c := by
  refine List.IsPrefix.trans ⟨b, ?_⟩ h
  simp

set_option maxRecDepth 100000 in
set_option maxHeartbeats 4000000 in
theorem visit_is (l z m : Nat) (xs : List (List Int × T)) (J Jx : List (List Int × T) → (Nat → Prop) → World → Prop) (S0 : Nat → Prop) (W0 : World) (hz : z = W0.heap.size) (hS0 : ∀ b, S0 b → b < W0.heap.size) (hJ : Abide J) (hJx : Abide Jx)
    (Tr : Nat → Prop) (hTr : ∀ b, Tr b → b < W0.heap.size ∧ ¬ S0 b)
    (hY : ∀ pre x vs S1 W1, J pre S1 W1 → pre ++ [x] <+: xs → AtT x vs S1 W1 → Mov S0 W0 S1 W1 → YieldAt Fence.wide m Tryd.prog l vs W1 fun e W' =>
      ∃ S', Mov S1 W1 S' W' ∧ ((e = .returned (.bool true) ∧ J (pre ++ [x]) S' W') ∨ (e = .returned (.bool false) ∧ Jx (pre ++ [x]) S' W'))) :
    ∀ (d : Nat) (t : T) (A : Option Addr) (c : Nat) (S : Nat → Prop) (W : World) (v : Value) (p : List Int) (pre : List (List Int × T)), Rep W0 Tr d t (nd t A c) → VSt z l S0 W0 S W v p → J pre S W → pre ++ walk p t <+: xs → size t ≤ 1000000 → p.length + depth t ≤ 1000000 →
    Calls Tryd.prog 72 #[.agg #[.int .i64 t.k, .int .i64 t.n, .int .i64 t.m, .slice A t.kids.length c], .pointer (some ⟨z, 0, none⟩), .pointer (some ⟨z + 1, 0, none⟩), .pointer (some ⟨z + 2, 0, none⟩)] W
      (VisPost z l S0 W0 J Jx pre p t S W v)
  | 0, _, _, _, _, _, _, _, _, h, _, _, _, _, _ => h.elim
  | d + 1, t, A, c, S, W, v, p, pre, ht, hst, hj, hpre, hsz, hdp => by
    have ih := visit_is l z m xs J Jx S0 W0 hz hS0 hJ hJx Tr hTr hY d
    obtain ⟨len, hlen⟩ : ∃ len, len = t.kids.length := ⟨_, rfl⟩
    have hkl : t.kids.length ≤ 1000000 := by have := kids_lt t; omega
    have hcap := ht.cap
    obtain ⟨i0, hi, hz0, hz1, hz2⟩ := info_parts ps_int_info
    rw [← hlen] at hkl hcap ⊢
    -- the world with the node's box
    obtain ⟨W1, hW1⟩ : ∃ W1, W1 = W.alloc (.cells #[.int .i64 t.k, .int .i64 t.n, .int .i64 t.m, .slice A len c] 25) := ⟨_, rfl⟩
    have hBX : Blk W1 W.heap.size 25 #[.int .i64 t.k, .int .i64 t.n, .int .i64 t.m, .slice A len c] := by rw [hW1]; exact Blk.new W _ _
    have hb1 : Below W.heap.size W W1 := by rw [hW1]; exact below_new _ _
    have hs1 : W1.heap.size = W.heap.size + 1 := by rw [hW1]; exact size_alloc _ _
    have hin := hst.in_ hS0
    have hm1 : OMv z W v W1 v := OMv.below hb1
    obtain ⟨hst1, hsy1⟩ := hst.step hz hS0 hm1 (hst.pl.below hb1 hst.pl.lt) (ownsRow_below hst.own hb1)
    have hj1 : J pre S W1 := hJ _ _ _ _ hj hsy1
    rw [walk_walks] at hpre
    -- the round at this node
    have hat : AtT (p, t) #[v, .agg #[.int .i64 t.k, .int .i64 t.n, .int .i64 t.m, .slice A len c]] S W1 := by
      obtain ⟨A', c', rfl, hc'⟩ := own_len hst1.own
      refine ⟨A', c', A, c, d + 1, by rw [hlen], hc', ?_, ?_⟩
      · exact Rd.of_own_out hst1.own hst1.row
      · refine (ht.keep ?_).mono ?_
        · intro b hb
          exact (hst1.mov.same b (hTr b hb).1 (hTr b hb).2)
        · intro b hb
          exact ⟨Nat.lt_of_lt_of_le (hTr b hb).1 hst1.mov.size, fun h => (hst1.mov.new b h).elim (hTr b hb).2 (fun h2 => by have := (hTr b hb).1; omega)⟩
    obtain ⟨fn, tmps, assign, body, hy, hR⟩ := YieldAt.deep (9 - 1) (hY pre (p, t) _ S W1 hj1 (pre_snoc hpre) hat hst1.mov)
    have hcy := hst1.y
    have hcp : W1.cell? ⟨z + 1, 0, none⟩ = some v := hst1.pl.cell 0
    have HZ := Lib.hid hz
    have HLEN := Lib.hid hlen
    have HIH := Lib.hid ih
    have HP := Lib.hid hpre
    have HT := Lib.hid ht
    have HS1 := Lib.hid hst1
    have HBX := Lib.hid hBX
    have HM1 := Lib.hid hm1
    have HJ := Lib.hid hJ
    have HTR := Lib.hid hTr
    have HIN := Lib.hid hin
    have HVL : Hid (∀ g, v.ownBlock = some g → g < W.heap.size) := Lib.hid (fun g hg => (hst.own.lt g hg).2)
    have HZW : Hid (z + 3 ≤ W.heap.size) := Lib.hid hst.three
    have HS0 := Lib.hid hS0
    have hcx : ∀ i x, [Value.int .i64 t.k, .int .i64 t.n, .int .i64 t.m, .slice A len c][i]? = some x → W1.cell? ⟨W.heap.size, 0 + i, none⟩ = some x := fun i x hx => by
      have h := HBX.out.cell (0 + i)
      rw [h, Nat.zero_add]; simpa using hx
    have HCX := Lib.hid hcx
    clear hcx hin hS0
    clear hz hlen ih hpre ht hst hst1 hsy1 hBX hm1 hat hY hTr hJx hJ
    go_enter Tryd.func72, Tryd.ntmps72
    apply wp_seq_k
    intro K0 hK0
    replace hK0 := Lib.hid hK0
    go_wp2
    refine hK0.out _ _ ?_
    clear hK0
    rw [← hW1]
    have HW1 := Lib.hid hW1
    clear hW1
    apply wp_seq_k
    intro K1 hK1
    apply wp_seq_k
    intro K2 hK2
    refine (wpIn_wide (n := 9)).1 ?_
    gi_wp2_with (first
      | (refine wpListIn_load_mid rfl 25 (.tmp 4) rfl W.heap.size 0 rfl [.int .i64 t.k, .int .i64 t.n, .int .i64 t.m, .slice A len c] _ HCX.out Tryd.underlying25 rfl (by rw [size_node]; rfl) ?_)
      | ((try refine ⟨fun h => (by cases h), ?_⟩); refine hR.mono ?_; clear hR; rintro e W2 ⟨S2, hm2, (⟨rfl, hj2⟩ | ⟨rfl, hx2⟩)⟩))
    · -- the round goes on
      have hst2 := HS1.out.round hm2
      have hW12 : VMv z S W v S2 W2 v := (HM1.out.lift S).trans (VMv.of_mov hm2)
      have hBX2 : Blk W2 W.heap.size 25 #[.int .i64 t.k, .int .i64 t.n, .int .i64 t.m, .slice A len c] := (hm2.same _ (by omega) (fun h => Nat.lt_irrefl _ (HIN.out _ h))).trans HBX.out
      have hcp2 : W2.cell? ⟨z + 1, 0, none⟩ = some v := hst2.pl.cell 0
      have HOWN : Hid ((W2.alloc (.cells #[.int .i64 0] 3)).ownsRow (z + 3) 3 1 v p.length (vi p)) := Lib.hid (ownsRow_below hst2.own (below_new _ _))
      have h3 := hst2.three
      have HS2 := Lib.hid hst2
      have HW12 := Lib.hid hW12
      have HB2 := Lib.hid hBX2
      have hpl : p.length ≤ 1000000 := by omega
      clear hst2 hW12 hBX2 hj1 hm2 hcy hcp hy
      go_wp2_with (at_builtin; refine wpList_append_any _ rfl (.tmp 14) (.tmp 15) 22 rfl (z + 3) 3 i0 _ 1 8 Tryd.underlying22 hi hz0 hz1 hz2 rfl (by omega) _ _ _ rfl HOWN.out _ (some ⟨W2.heap.size, 0, none⟩) 1 1 [.int .i64 0] rfl (Rd.reads (S := fun b => b < W2.heap.size + 1) ⟨rfl, fun _ => ⟨_, rfl, Nat.lt_succ_self _, one_new W2 _ _⟩⟩ (fun _ h => h)) (int_one _ _) (len_le (by omega)) (by omega) (by simp; omega) ?_; intro v3 w3 hown3 hgrow3 hnew3; obtain ⟨hc3, hf3⟩ := HS2.out.boxed hgrow3; obtain ⟨A3, c3, rfl, hcap3⟩ := own_len hown3; have HO3 := Lib.hid hown3; have HG3 : Hid ((W2.alloc (.cells #[.int .i64 0] 3)).grownBy w3 v.ownBlock) := Lib.hid hgrow3; have HN3 : Hid ((Value.slice A3 (p.length + 1) c3).ownBlock = v.ownBlock ∨ (Value.slice A3 (p.length + 1) c3).ownBlock = some (W2.alloc (.cells #[.int .i64 0] 3)).heap.size) := Lib.hid hnew3; clear hown3 hgrow3 hnew3; have HA4 := Lib.hid (HS2.out.append HO3.out HG3.out HN3.out); have HX4 : Hid (Blk (w3.setCell ⟨z + 1, 0, none⟩ (.slice A3 (p.length + 1) c3)) W.heap.size 25 #[.int .i64 t.k, .int .i64 t.n, .int .i64 t.m, .slice A len c]) := Lib.hid ((HA4.out.1.same _ HB2.out.lt (fun h => h) (by have := HZW.out; omega) (fun e => Nat.lt_irrefl _ (HVL.out _ e))).trans HB2.out); have hc4 := HX4.out.cell 3; have hc4p : (w3.setCell ⟨z + 1, 0, none⟩ (.slice A3 (p.length + 1) c3)).cell? ⟨z + 1, 0, none⟩ = some (.slice A3 (p.length + 1) c3) := HA4.out.2.1.cell 0)
      have hst4 := HS2.out.step HZ.out HS0.out HA4.out.1 HA4.out.2.1 HA4.out.2.2
      have HJ4 : Hid (J (pre ++ (p, t) :: walks p t.kids 0) S2 (w3.setCell ⟨z + 1, 0, none⟩ (.slice A3 (p.length + 1) c3))) := Lib.hid (by rw [walks_zero]; exact HJ.out _ _ _ _ hj2 hst4.2)
      have HM4 : Hid (VMv z S W v S2 (w3.setCell ⟨z + 1, 0, none⟩ (.slice A3 (p.length + 1) c3)) (.slice A3 (p.length + 1) c3)) := Lib.hid (HW12.out.trans (HA4.out.1.lift S2))
      have HS4 := Lib.hid hst4.1
      clear hst4 hc4 hc4p hc3 hf3 hj2 hcp2 HX4 HA4 HO3 HG3 HN3 HOWN HB2 HS2 HW12 h3
      go_loopw [23] (fun i wr => ∃ (j : Nat) (S' : Nat → Prop) (v' : Value) (x : Int), j ≤ len ∧ i = .int .i64 j ∧ Hid (VMv z S W v S' wr v') ∧ Hid (VSt z l S0 W0 S' wr v' (p ++ [x])) ∧ Hid (J (pre ++ (p, t) :: walks p t.kids j) S' wr)) (fun i _ => len - (intOf i).toNat)
      case atStart => exact ⟨0, S2, _, 0, Nat.zero_le _, rfl, HM4, HS4, HJ4⟩
      case round =>
        clear HM4 HS4 HJ4
        obtain ⟨j, S5, v5, x, hj, rfl, HM, HST, HJ5⟩ := hrel
        obtain ⟨g, c5, hv5⟩ := ownsRow_succ (by have h := HST.out.own; rw [List.length_append, List.length_singleton] at h; exact h)
        subst hv5
        by_cases hlt : j < len
        · obtain ⟨u, hu⟩ : ∃ u, t.kids[j]? = some u := ⟨_, List.getElem?_eq_getElem (by rw [← HLEN.out]; exact hlt)⟩
          obtain ⟨b, off, A', c', hA, hb, hcells, hru⟩ := HT.out.kid hu
          subst hA
          have HCL : Hid (∀ i y, (nd u A' c')[i]? = some y → wr.cell? ⟨b, off + j * 4 + i, none⟩ = some y) := Lib.hid (fun i y hy => (World.cell?_of_block (HST.out.mov.same b (HTR.out b hb).1 (HTR.out b hb).2)).trans (hcells i y hy))
          have hb5 := below_new wr (.cells #[.int .i64 u.k, .int .i64 u.n, .int .i64 u.m, .slice A' u.kids.length c'] 25)
          have hm5 : OMv z wr (.slice (some ⟨g, 0, none⟩) (p.length + 1) c5) (wr.alloc (.cells #[.int .i64 u.k, .int .i64 u.n, .int .i64 u.m, .slice A' u.kids.length c'] 25)) (.slice (some ⟨g, 0, none⟩) (p.length + 1) c5) := OMv.below hb5
          obtain ⟨hst5, hsy5⟩ := HST.out.step HZ.out HS0.out hm5 (HST.out.pl.below hb5 HST.out.pl.lt) (ownsRow_below HST.out.own hb5)
          have hj5 := HJ.out _ _ _ _ HJ5.out hsy5
          have hc5p := hst5.pl.cell 0
          have ho5 := hst5.own
          rw [List.length_append, List.length_singleton] at ho5
          have hc5g := (ho5.cellAt p.length (by omega)).trans (by rw [vi_append, List.getElem?_append_right (by rw [vi_length]; exact Nat.le_refl _), vi_length, Nat.sub_self]; rfl : (vi (p ++ [x]))[p.length]? = some (.int .i64 x))
          have hf5g := ho5.frozenAt p.length
          have h56 := hst5.store rfl (j : Int)
          obtain ⟨hst6, hsy6⟩ := hst5.step HZ.out HS0.out h56.1 h56.2.1 h56.2.2
          have hj6 := HJ.out _ _ _ _ hj5 hsy6
          have hm6 : VMv z S W v S5 _ _ := HM.out.trans ((hm5.lift S5).trans (h56.1.lift S5))
          have hc6v := hst6.vf
          have hX6 := (Blk.new wr 25 #[.int .i64 u.k, .int .i64 u.n, .int .i64 u.m, .slice A' u.kids.length c']).far (p := ⟨g, p.length, none⟩) (by have := (HST.out.own.lt g rfl).2; show wr.heap.size ≠ g; omega) (.int .i64 (j : Int))
          have HC6 : Hid (∀ i y, [Value.int .i64 u.k, .int .i64 u.n, .int .i64 u.m, .slice A' u.kids.length c'][i]? = some y → ((wr.alloc (.cells #[.int .i64 u.k, .int .i64 u.n, .int .i64 u.m, .slice A' u.kids.length c'] 25)).setCell ⟨g, p.length, none⟩ (.int .i64 (j : Int))).cell? ⟨wr.heap.size, 0 + i, none⟩ = some y) := Lib.hid (fun i y hy => by
            have h := hX6.cell (0 + i)
            rw [h, Nat.zero_add]; simpa using hy)
          have hpre6 : (pre ++ (p, t) :: walks p t.kids j) ++ walk (p ++ [(j : Int)]) u <+: xs := by
            refine List.IsPrefix.trans ?_ HP.out
            have e : (pre ++ (p, t) :: walks p t.kids j) ++ walk (p ++ [(j : Int)]) u = pre ++ (p, t) :: walks p t.kids (j + 1) := by rw [walks_next hu]; simp
            rw [e]
            exact (List.prefix_append_right_inj pre).2 ((List.prefix_cons_inj _).2 (walks_take p t.kids (j + 1)))
          have hsu := size_kid hu
          have hdu := depth_kid hu
          have HIH6 := Lib.hid (HIH.out u A' c' S5 _ _ (p ++ [(j : Int)]) _ hru hst6 hj6 hpre6 (by omega) (by rw [List.length_append, List.length_singleton]; omega))
          have HM6 := Lib.hid hm6
          have HWN := Lib.hid (walks_next (p := p) hu)
          have hij : (0 : Int) ≤ p.length ∧ (p.length : Int) < ((p.length + 1 : Nat) : Int) := ⟨by omega, by omega⟩
          have hjj : (0 : Int) ≤ j ∧ (j : Int) < len := ⟨by omega, by omega⟩
          clear hst5 hsy5 hj5 ho5 h56 hst6 hsy6 hj6 hm6 hX6 hpre6 hsu hdu hru hcells hb hm5 hb5
          go_wp2_with (first
            | (refine wpList_load_mid rfl 25 (.tmp 26) rfl b (off + j * 4) rfl [.int .i64 u.k, .int .i64 u.n, .int .i64 u.m, .slice A' u.kids.length c'] _ HCL.out Tryd.underlying25 rfl (by rw [size_node]; rfl) ?_)
            | (refine wpList_store_new rfl 25 (.tmp 8) (.tmp 27) rfl wr _ _ rfl rfl (by rw [size_node]; rfl) rfl rfl ?_)
            | (refine wpList_load_mid rfl 25 (.tmp 8) rfl wr.heap.size 0 rfl [.int .i64 u.k, .int .i64 u.n, .int .i64 u.m, .slice A' u.kids.length c'] _ HC6.out Tryd.underlying25 rfl (by rw [size_node]; rfl) ?_)
            | (go_at_call 72; refine HIH6.out.mono ?_; rintro e w7 ⟨S7, v7, hm7, (⟨rfl, hj7, hst7⟩ | ⟨rfl, q, hq, hx7⟩)⟩))
          · go_roundw
            case rel => exact ⟨j + 1, S7, v7, j, by omega, by go_num, HM6.out.trans hm7, hst7, by rw [HWN.out]; exact Lib.hid (by simpa using hj7)⟩
            case measure => simp [intOf]; omega
          · go_ret
            refine ⟨S7, v7, HM6.out.trans hm7, .inr ⟨rfl, (p, t) :: (walks p t.kids j ++ q), ?_, by simpa using hx7⟩⟩
            rw [walk_walks]
            refine (List.prefix_cons_inj _).2 (List.IsPrefix.trans ?_ (walks_take p t.kids (j + 1)))
            rw [HWN.out]
            exact (List.prefix_append_right_inj _).2 hq
        · have hjl : j = len := by omega
          have hcp := HST.out.pl.cell 0
          have hfp := HST.out.pl.frozen 0
          have hpp := HST.out.pop rfl
          obtain ⟨hst9, hsy9⟩ := HST.out.step HZ.out HS0.out hpp.1 hpp.2.1 hpp.2.2
          have hj9 : J (pre ++ walk p t) S5 _ := HJ.out _ _ _ _ (by rw [walk_walks, ← HLEN.out, ← hjl]; exact HJ5.out) hsy9
          have HJ9 := Lib.hid hj9
          have HS9 := Lib.hid hst9
          have HM9 : Hid (VMv z S W v S5 _ _) := Lib.hid (HM.out.trans (hpp.1.lift S5))
          have hcc : p.length + 1 ≤ c5 := by
            obtain ⟨A9, c9, e, h9⟩ := own_len HST.out.own
            rw [List.length_append, List.length_singleton] at e h9
            have := congrArg (fun v => match v with | Value.slice _ _ c => c | _ => 0) e
            simp only at this
            omega
          have hce : (0 : Int) ≤ p.length ∧ (p.length : Int) ≤ c5 := ⟨by omega, by omega⟩
          clear hj9 hst9 hsy9 hpp
          go_wp2
          go_ret
          exact ⟨S5, _, HM9.out, .inl ⟨rfl, HJ9.out, HS9.out⟩⟩
    · go_wp2
      go_ret
      exact ⟨S2, v, (HM1.out.lift S).trans (VMv.of_mov hm2), .inr ⟨rfl, [(p, t)], by rw [walk_walks]; exact ⟨_, rfl⟩, hx2⟩⟩
end Go.Proofs.YtlffmfdjifgfgaaDoor

/-
  The program's iterator over a tree: 'places' and what it hands back.
-/
namespace Go.Proofs.YtlffmfdjifgfgaaDoor
open Go.RowKit WM TR

theorem places_is (k n m : Int) (A : Option Addr) (len c : Nat) (w : World) :
    Calls Tryd.prog 49 #[.agg #[.int .i64 k, .int .i64 n, .int .i64 m, .slice A len c]] w fun e w' => e = .returned (.func (.func 71) #[] #[.pointer (some ⟨w.heap.size, 0, none⟩)]) ∧ w' = w.alloc (.cells #[.int .i64 k, .int .i64 n, .int .i64 m, .slice A len c] 25) := by
  go_enter Tryd.func49, Tryd.ntmps49
  go_wp2
  go_ret
  exact ⟨rfl, rfl⟩

set_option maxRecDepth 100000 in
set_option maxHeartbeats 4000000 in
theorem iter_is (n d B : Nat) (t : T) (A : Option Addr) (c : Nat) (Tr : Nat → Prop) (w : World) (ht : Rep w Tr d t (nd t A c)) (hB : Blk w B 25 #[.int .i64 t.k, .int .i64 t.n, .int .i64 t.m, .slice A t.kids.length c]) (hTr : ∀ b, Tr b → b < w.heap.size)
    (hsz : size t ≤ 1000000) :
    SeqT Fence.wide n Tryd.prog 71 #[.pointer (some ⟨B, 0, none⟩)] (fun b => Tr b ∨ b = B) AtT (walk [] t) w := by
  intro l J Jx S W hW hS hJ hJx hY h0
  refine callsIn_wide.2 ?_
  simp only [List.append_toArray, List.nil_append, List.cons_append]
  have ht2 : Rep W Tr d t (nd t A c) := ht.later hTr hW
  have hB2 := hB.below hW hB.lt
  have hBS : ¬ S B := fun h => (hS B h).2 (.inr rfl)
  obtain ⟨W3, hW3⟩ : ∃ W3, W3 = ((W.alloc (.cells #[.func (.yield l) #[] #[]] 89)).alloc (.cells #[.slice none 0 0] 22)).alloc (.cells #[.func (.func 72) #[] #[.pointer (some ⟨W.heap.size, 0, none⟩), .pointer (some ⟨W.heap.size + 1, 0, none⟩), .pointer (some ⟨W.heap.size + 1 + 1, 0, none⟩)]] 30) := ⟨_, rfl⟩
  have hz3 : W3.heap.size = W.heap.size + 3 := by rw [hW3, size_alloc, size_alloc, size_alloc]
  have hb3 : Below W.heap.size W W3 := by rw [hW3]; exact ba (ba (below_new _ _) _) _
  have hblk1 : Blk W3 W.heap.size 89 #[.func (.yield l) #[] #[]] := by rw [hW3]; exact ((Blk.new W _ _).alloc _).alloc _
  have hblk2 : Blk W3 (W.heap.size + 1) 22 #[.slice none 0 0] := by rw [hW3]; exact (Blk.new_at _ _ (by rw [size_alloc]) rfl).alloc _
  have hblk3 : Blk W3 (W.heap.size + 2) 30 #[.func (.func 72) #[] #[.pointer (some ⟨W.heap.size, 0, none⟩), .pointer (some ⟨W.heap.size + 1, 0, none⟩), .pointer (some ⟨W.heap.size + 2, 0, none⟩)]] := by rw [hW3]; exact Blk.new_at _ _ (by rw [size_alloc, size_alloc]) rfl
  have hst : VSt W.heap.size l S W S W3 (.slice none 0 0) [] :=
    ⟨Mov.of_below hb3, hblk1.cell 0, hblk2, hblk3.cell 0, World.ownsRow_nil _ _ _ _, fun b hb => .inl (hS b hb).1, fun g hg => (by cases hg), by omega⟩
  have hj : J [] S W3 := hJ _ _ _ _ h0 ⟨hb3.os, hb3.tape, hb3.output, hb3.size, fun b hb => hb3.block b (hS b hb).1⟩
  have hdt := depth_le_size t
  have HV := Lib.hid (visit_is l W.heap.size (n - 1) (walk [] t) J Jx S W rfl (fun b hb => (hS b hb).1) hJ hJx Tr (fun b hb => ⟨Nat.lt_of_lt_of_le (hTr b hb) hW.size, fun h => (hS b h).2 (.inl hb)⟩) hY d t A c S W3 (.slice none 0 0) [] [] ht2 hst hj (List.prefix_refl _) hsz (by simp only [List.length_nil]; omega))
  have HST := Lib.hid hst
  have HX : Hid (∀ i y, [Value.int .i64 t.k, .int .i64 t.n, .int .i64 t.m, .slice A t.kids.length c][i]? = some y → W3.cell? ⟨B, 0 + i, none⟩ = some y) := Lib.hid (fun i y hy => by
    rw [(hB2.below hb3 hB2.lt).cell (0 + i), Nat.zero_add]; simpa using hy)
  have HW3 := Lib.hid hW3
  clear hW3 hY hS hJ hJx h0 ht ht2 hB hB2 hBS hst hj hblk1 hblk2 hblk3 hW hb3 hTr
  go_enter Tryd.func71, Tryd.ntmps71
  go_wp2_with (first
    | (refine wpList_load_mid rfl 25 (.tmp 1) rfl B 0 rfl [.int .i64 t.k, .int .i64 t.n, .int .i64 t.m, .slice A t.kids.length c] _ (by rw [← HW3.out]; exact HX.out) Tryd.underlying25 rfl (by rw [size_node]; rfl) ?_)
    | (go_at_call 72; rw [← HW3.out]; refine HV.out.mono ?_; rintro e W4 ⟨S4, v4, hm4, (⟨rfl, hj4, hst4⟩ | ⟨rfl, q, hq, hx4⟩)⟩))
  · go_end0
    exact ⟨⟨_, rfl⟩, S4, HST.out.mov_of rfl hm4, .inl (by simpa using hj4)⟩
  · go_end0
    exact ⟨⟨_, rfl⟩, S4, HST.out.mov_of rfl hm4, .inr ⟨q, hq, by simpa using hx4⟩⟩
end Go.Proofs.YtlffmfdjifgfgaaDoor

/-
  What the program's Size, Depth and Valid share.
-/
namespace Go.Proofs.YtlffmfdjifgfgaaDoor
open Go.RowKit Go.Shelf WM TR
attribute [local go_sem] Oper.semAt_some

theorem zip2 {f : Array Value → Tmp × Value → Array Value} {t : Array Value} {p q : Tmp} {x y : Value} : (Array.zip #[p, q] #[x, y]).foldl f t = f (f t (p, x)) (q, y) := by simp
theorem walk_length : ∀ (p : List Int) (t : T), (walk p t).length = size t := by
  intro p t
  induction h : SizeOf.sizeOf t using Nat.strongRecOn generalizing p t with
  | ind n ih =>
    subst h
    have : ∀ j, j ≤ t.kids.length → (walks p t.kids j).length = sizes t.kids j := by
      intro j
      induction j with
      | zero => intro _; rfl
      | succ j ihj =>
        intro hj
        obtain ⟨u, hu⟩ : ∃ u, t.kids[j]? = some u := ⟨_, List.getElem?_eq_getElem (by omega)⟩
        rw [walks_next hu, sizes_next hu, List.length_append, ihj (by omega), ih _ (kid_lt (List.mem_of_getElem? hu)) _ u rfl]
    rw [walk_walks, List.length_cons, this _ (Nat.le_refl _), size_kids]
    omega
theorem Stay.blk {S : Nat → Prop} {A B : World} (h : Stay S A B) {g : Nat} {t : TypeId} {cs : Array Value} (hb : Blk A g t cs) (hg : S g) : Blk B g t cs := (h.same g hg).trans hb
theorem Off.blk {l : Nat} {A B : World} (h : Off l A B) {g : Nat} {t : TypeId} {cs : Array Value} (hb : Blk A g t cs) (hg : g ≠ l) : Blk B g t cs := (h.same g hg).trans hb
theorem AtT.size2 {x : List Int × T} {vs : Array Value} {S : Nat → Prop} {W : World} (h : AtT x vs S W) : vs.size = 2 := by
  obtain ⟨A, c, B, d, k, rfl, _⟩ := h
  rfl
/-- The world behind a loop over the iterator, the mark taken. -/
theorem Mov.ends {S0 S : Nat → Prop} {w0 w W : World} (h : Mov S0 w S W) (h0 : Below w0.heap.size w0 w) (hS : ∀ b, S0 b → w0.heap.size ≤ b) (o : Obj) : Below w0.heap.size w0 (W.putObj w.heap.size o) := by
  have hb := h0.trans (h.below h0.size hS)
  have ho := Off.putObj W w.heap.size o
  exact ⟨ho.os.trans hb.os, ho.tape.trans hb.tape, ho.output.trans hb.output, by rw [ho.size]; exact hb.size, fun b hb' => (ho.same b (by have := h0.size; omega)).trans (hb.block b hb')⟩
end Go.Proofs.YtlffmfdjifgfgaaDoor

/-
  The nodes of a tree: how deep, how large.
-/
namespace Go.Proofs.YtlffmfdjifgfgaaDoor
open Go.RowKit Go.Shelf WM TR

/-- The depth of what has come. -/
def deepest (a : Nat) (pre : List (List Int × T)) : Nat := pre.foldl (fun a x => max a (1 + x.1.length)) a
theorem deepest_snoc (a : Nat) (pre : List (List Int × T)) (x : List Int × T) : deepest a (pre ++ [x]) = max (deepest a pre) (1 + x.1.length) := by
  simp [deepest, List.foldl_append]
theorem deepest_walk (p : List Int) (t : T) (a : Nat) : deepest a (walk p t) = max a (p.length + depth t) := by
  induction h : SizeOf.sizeOf t using Nat.strongRecOn generalizing p t a with
  | ind n ih =>
    subst h
    have hj : ∀ (a' : Nat) j, j ≤ t.kids.length → p.length + 1 ≤ a' → deepest a' (walks p t.kids j) = max a' (p.length + 1 + depths t.kids j) := by
      intro a' j
      induction j with
      | zero =>
        intro _ h
        have : depths t.kids 0 = 0 := rfl
        rw [walks_zero, this]
        show a' = _
        omega
      | succ j ihj =>
        intro hj ha
        obtain ⟨u, hu⟩ : ∃ u, t.kids[j]? = some u := ⟨_, List.getElem?_eq_getElem (by omega)⟩
        have h1 : deepest a' (walks p t.kids j ++ walk (p ++ [(j : Int)]) u) = deepest (deepest a' (walks p t.kids j)) (walk (p ++ [(j : Int)]) u) := by simp [deepest, List.foldl_append]
        rw [walks_next hu, h1, ihj (by omega) ha, ih _ (kid_lt (List.mem_of_getElem? hu)) _ u _ rfl, depths_next hu, List.length_append, List.length_singleton]
        omega
    rw [walk_walks]
    have h1 : deepest a ((p, t) :: walks p t.kids t.kids.length) = deepest (max a (1 + p.length)) (walks p t.kids t.kids.length) := rfl
    rw [h1, hj _ _ (Nat.le_refl _) (by omega), depth_kids]
    omega
theorem deepest_le {a : Nat} {pre xs : List (List Int × T)} (h : pre <+: xs) : deepest a pre ≤ deepest a xs := by
  obtain ⟨q, rfl⟩ := h
  have : ∀ (q : List (List Int × T)) (b : Nat), b ≤ deepest b q := by
    intro q
    induction q with
    | nil => intro b; exact Nat.le_refl b
    | cons x q ih => intro b; exact Nat.le_trans (Nat.le_max_left _ _) (ih (max b (1 + x.1.length)))
  have h1 : deepest a (pre ++ q) = deepest (deepest a pre) q := by simp [deepest, List.foldl_append]
  rw [h1]
  exact this q _
end Go.Proofs.YtlffmfdjifgfgaaDoor
namespace Go.Proofs.YtlffmfdjifgfgaaDoor.TR
theorem walk_size (p : List Int) (t : T) : ∀ x ∈ walk p t, size x.2 ≤ size t := by
  induction h : SizeOf.sizeOf t using Nat.strongRecOn generalizing p t with
  | ind n ih =>
    subst h
    have hj : ∀ j, j ≤ t.kids.length → ∀ x ∈ walks p t.kids j, size x.2 ≤ size t := by
      intro j
      induction j with
      | zero => intro _ x hx; rw [walks_zero] at hx; cases hx
      | succ j ihj =>
        intro hj x hx
        obtain ⟨u, hu⟩ : ∃ u, t.kids[j]? = some u := ⟨_, List.getElem?_eq_getElem (by omega)⟩
        rw [walks_next hu] at hx
        rcases List.mem_append.1 hx with hx | hx
        · exact ihj (by omega) x hx
        · have := ih _ (kid_lt (List.mem_of_getElem? hu)) _ u rfl x hx
          have := size_kid hu
          omega
    intro x hx
    rw [walk_walks] at hx
    rcases List.mem_cons.1 hx with rfl | hx
    · exact Nat.le_refl _
    · exact hj _ (Nat.le_refl _) x hx
end Go.Proofs.YtlffmfdjifgfgaaDoor.TR
