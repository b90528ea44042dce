/-
  The generator of trees: Around, At, num (plain mathematics, and their contracts).
-/
import Derived.Test.YthhhgakeeekalaaDoorG04
import Derived.Test.YthhhgakeeekalaaDoorG05
import Derived.Deep.RegionWith
set_option linter.unusedVariables false
namespace Go.Proofs.YthhhgakeeekalaaDoor
open Go.RowKit WM TR

theorem around_is (x n : Int) (hx : inRange x) (hn : 0 < n) (w : World) :
    Calls Tryd.prog 12 #[.int .i64 x, .int .i64 n] w fun e w' => e = .returned (.int .i64 (arnd x n)) ∧ w = w' := by
  unfold inRange at hx
  by_cases h : x < 0
  · have hr : arnd x n = (-(x + 1)) % n := by unfold arnd; rw [if_pos h]
    rw [hr]
    clear hr
    go_enter Tryd.func12, Tryd.ntmps12
    go_wp2
    go_ret
    exact ⟨ret_i (by rw [← Int.neg_tmod, Int.tmod_eq_emod_of_nonneg (by omega)]), rfl⟩
  · have hr : arnd x n = x % n := by unfold arnd; rw [if_neg h]
    rw [hr]
    clear hr
    go_enter Tryd.func12, Tryd.ntmps12
    go_wp2
    go_ret
    exact ⟨rfl, rfl⟩

set_option maxRecDepth 100000 in
set_option maxHeartbeats 1000000 in
theorem at_is (L : List Int) (S : Nat → Prop) (A : Option Addr) (c : Nat) (i : Nat) (n : Int) (w : World) (hL : Rd w S 1 A L.length (vi L)) (hr : ∀ x ∈ L, inRange x) (hn : 0 < n) (hl : L.length ≤ 9223372036854775807) (hi : i ≤ 1000000) :
    Calls Tryd.prog 34 #[.slice A L.length c, .int .i64 (i : Int), .int .i64 n] w fun e w' => e = .returned (.int .i64 (numAt L i n)) ∧ w = w' := by
  obtain ⟨l, hl2⟩ : ∃ l, l = L.length := ⟨_, rfl⟩
  rw [← hl2] at hL hl ⊢
  by_cases h : i < l
  · obtain ⟨x, hx⟩ : ∃ x, L[i]? = some x := ⟨_, List.getElem?_eq_getElem (by rw [← hl2]; exact h)⟩
    have hnum : numAt L i n = arnd x n := by unfold numAt; rw [hx]
    have hxr := hr x (List.mem_of_getElem? hx)
    obtain ⟨b, off, hA, _, hc⟩ := hL.lit (by omega)
    subst hA
    have hcell := hc i _ (vi_get hx)
    have HX := Lib.hid hxr
    rw [hnum]
    clear hc hnum hx hxr hr hL hl2
    go_enter Tryd.func34, Tryd.ntmps34
    go_wp2_with (go_at_call 12; refine (around_is x n HX.out hn _).mono ?_; rintro e w' ⟨rfl, rfl⟩)
    go_ret
    exact ⟨rfl, rfl⟩
  · have hnum : numAt L i n = 0 := by unfold numAt; rw [List.getElem?_eq_none (by omega)]
    rw [hnum]
    clear hnum hr hL hl2
    go_enter Tryd.func34, Tryd.ntmps34
    go_wp2_with fail
    go_ret
    exact ⟨rfl, rfl⟩

/-- The cells of a maker. -/
def mkc (A : Option Addr) (l c : Nat) (a : Nat) (left : Int) : Array Value := #[.slice A l c, .int .i64 (a : Int), .int .i64 left]

set_option maxRecDepth 100000 in
set_option maxHeartbeats 1000000 in
theorem num_is (L : List Int) (S : Nat → Prop) (A : Option Addr) (c : Nat) (g a : Nat) (left n : Int) (w : World) (hg : Blk w g 59 (mkc A L.length c a left)) (hS : ∀ b, S b → b ≠ g) (hL : Rd w S 1 A L.length (vi L)) (hr : ∀ x ∈ L, inRange x)
    (hn : 0 < n) (hl : L.length ≤ 9223372036854775807) (ha : a ≤ 999999) :
    Calls Tryd.prog 43 #[.pointer (some ⟨g, 0, none⟩), .int .i64 n] w fun e w' => e = .returned (.int .i64 (numAt L a n)) ∧ Blk w' g 59 (mkc A L.length c (a + 1) left) ∧ w.grownBy w' (some g) := by
  have h0 := hg.cell 0
  have h1 := hg.cell 1
  have f1 := hg.frozen 1
  have HG := Lib.hid hg
  have HL := Lib.hid hL
  have HS := Lib.hid hS
  simp only [mkc, List.getElem?_toArray, List.getElem?_cons_zero, List.getElem?_cons_succ] at h0 h1
  clear hg hL hS
  go_enter Tryd.func43, Tryd.ntmps43
  go_wp2_with fail
  obtain ⟨W2, hW2⟩ : ∃ W2, W2 = w.setCell ⟨g, 1, none⟩ (.int .i64 ((a : Int) + 1)) := ⟨_, rfl⟩
  have HG2 : Hid (Blk W2 g 59 (mkc A L.length c (a + 1) left)) := Lib.hid (by rw [hW2]; exact HG.out.set_ 1 _)
  have HW : Hid (w.grownBy W2 (some g)) := Lib.hid (by rw [hW2]; exact ⟨rfl, rfl, rfl, by simp, fun k _ hk => Below.heap_setCell w ⟨g, 1, none⟩ _ k (fun e => hk (by rw [e]))⟩)
  have HL2 : Hid (Rd W2 S 1 A L.length (vi L)) := Lib.hid (HL.out.keep (by rw [hW2]; exact (Keeps.refl S w).setCell (fun h => HS.out _ h rfl) _))
  rw [← hW2]
  clear hW2 h0 h1 f1
  have h0 := HG2.out.cell 0
  have h1 := HG2.out.cell 1
  simp only [mkc, List.getElem?_toArray, List.getElem?_cons_zero, List.getElem?_cons_succ] at h0 h1
  go_quiet ((go_at_call 34; exact quiet_left (at_is L S A c a n _ HL2.out hr hn hl (by omega))))
  go_wp2_with fail
  go_ret
  exact ⟨rfl, HG2.out.drewN _, ⟨HW.out.os, HW.out.tape, HW.out.output, HW.out.size, HW.out.block⟩⟩
end Go.Proofs.YthhhgakeeekalaaDoor

/-
  The reference's At.
-/
namespace Go.Proofs.YthhhgakeeekalaaDoor
open Go.RowKit WM TR

def zeroT : T := ⟨0, 0, 0, []⟩
theorem in0 : inRange 0 := by unfold inRange; omega
theorem ints_slice : Tryd.prog.underlying 22 = some (.slice (Tryd.prog.elem 22)) := by kernel_rfl
theorem ints_elem : Tryd.prog.elem 22 = 3 := by kernel_rfl
theorem size3 (W : World) : (sizeOf 3).run Tryd.prog W = .ok 1 W := by kernel_rfl
/-- A load of a whole node, kept shut. -/
def ldN (v : Value) : Sem Value := Instr.loadAt 25 v
theorem shutN (v : Value) : Instr.loadAt 25 v = ldN v := rfl
theorem load_nd {W : World} {b o : Nat} {t : T} {A : Option Addr} {c : Nat} (h : ∀ i v, (nd t A c)[i]? = some v → W.cell? ⟨b, o + i, none⟩ = some v) :
    (ldN (.pointer (some ⟨b, o, none⟩))).run Tryd.prog W = .ok (.agg #[.int .i64 t.k, .int .i64 t.n, .int .i64 t.m, .slice A t.kids.length c]) W :=
  run_loadAt_mid W b o 25 (nd t A c) _ h Tryd.underlying25 rfl (by rw [size_node]; rfl)
/-- A store of a whole node into a block that is known whole. -/
theorem store_nd {W : World} {g : Nat} {a b c d : Value} {cs : Array Value} (hb : Blk W g 25 cs) (hs : cs.size = 4) (ha : a.oneCell' = true) (hb' : b.oneCell' = true) (hc : c.oneCell' = true) (hd : d.oneCell' = true) :
    (storeCells ⟨g, 0, none⟩ [a, b, c, d]).run Tryd.prog W = .ok () (W.setRow g #[a, b, c, d]) := by
  have := run_storeCells_from (P := Tryd.prog) g 25 [a, b, c, d] 0 _ W hb (by simp [hs]) (by simp [ha, hb', hc, hd])
  obtain ⟨cs⟩ := cs
  match cs, hs with
  | [_, _, _, _], _ => simpa using this
/-- 'l[1:]' -/
theorem cut1 (b off n c : Nat) (hn : 1 ≤ n) : ∀ W : World, (Instr.sliceAt 22 (.slice (some ⟨b, off, none⟩) n c) (some (.int .i64 1)) none none).run Tryd.prog W = .ok (.slice (if c = 1 then some ⟨b, off, none⟩ else some ⟨b, off + 1, none⟩) (n - 1) (c - 1)) W := by
  intro W
  rw [run_sliceAt_slice W 22 _ _ _ _ ints_slice, run_slice_l W 22 (some ⟨b, off, none⟩) n c ints_slice .i64 1 (by omega) (by omega), ints_elem, size3]
  by_cases h : c = 1
  · subst h; simp [sliced]
  · simp [sliced, h, Addr.add]
theorem Rd.cut1 {w : World} {S : Nat → Prop} {b off n c : Nat} {i : Int} {p : List Int} (h : Rd w S 1 (some ⟨b, off, none⟩) (n + 1) (vi (i :: p))) (hc : n + 1 ≤ c) :
    Rd w S 1 (if c = 1 then some ⟨b, off, none⟩ else some ⟨b, off + 1, none⟩) n (vi p) := by
  refine ⟨by have := h.1; simp [vi] at this ⊢; omega, fun hn => ?_⟩
  obtain ⟨ad, e, hb, hcell⟩ := h.2 (by omega)
  injection e with e
  subst e
  rw [if_neg (by omega)]
  refine ⟨_, rfl, hb, fun j u hu => ?_⟩
  have := hcell (j + 1) u (by simpa [vi] using hu)
  rw [Addr.add_lit] at this ⊢
  rwa [show off + 1 + j = off + (j + 1) by omega]

set_option maxRecDepth 100000 in
set_option maxHeartbeats 1000000 in
theorem rat_nil (d : Nat) (t : T) (S : Nat → Prop) (A P : Option Addr) (c pc : Nat) (w : World) (ht : Rep w S (d + 1) t (nd t A c)) :
    Calls Tryd.prog 41 #[.agg #[.int .i64 t.k, .int .i64 t.n, .int .i64 t.m, .slice A t.kids.length c], .slice P 0 pc] w fun e w' => ∃ u A' c', (at? [] t).getD zeroT = u ∧ e = .returned (.tuple #[.agg #[.int .i64 u.k, .int .i64 u.n, .int .i64 u.m, .slice A' u.kids.length c'], .bool (at? [] t).isSome]) ∧ Rep w S (d + 1) u (nd u A' c') ∧ Below w.heap.size w w' := by
  go_enter Tryd.func41, Tryd.ntmps41
  go_wp2_with fail
  refine bodyPost_ret (v := .tuple #[.agg #[.int .i64 t.k, .int .i64 t.n, .int .i64 t.m, .slice A t.kids.length c], .bool true]) (by simp [results, Tryd.results41, go_sem]) rfl ⟨t, A, c, rfl, rfl, ?_, ?_⟩
  · exact ht
  · exact ba (below_new _ _) _
attribute [local go_sem ↓] shutN
set_option maxRecDepth 100000 in
set_option maxHeartbeats 2000000 in
theorem rat_is : ∀ (p : List Int) (d : Nat) (t : T) (S : Nat → Prop) (A P : Option Addr) (c pc : Nat) (w : World), Rep w S (d + 1) t (nd t A c) → Rd w S 1 P p.length (vi p) → In S w.heap.size → p.length ≤ pc → size t ≤ 1000000 → p.length ≤ 9223372036854775807 →
    Calls Tryd.prog 41 #[.agg #[.int .i64 t.k, .int .i64 t.n, .int .i64 t.m, .slice A t.kids.length c], .slice P p.length pc] w fun e w' => ∃ u A' c', (at? p t).getD zeroT = u ∧ e = .returned (.tuple #[.agg #[.int .i64 u.k, .int .i64 u.n, .int .i64 u.m, .slice A' u.kids.length c'], .bool (at? p t).isSome]) ∧ Rep w S (d + 1) u (nd u A' c') ∧ Below w.heap.size w w' := by
  intro p
  induction p with
  | nil =>
    intro d t S A P c pc w ht _ _ _ _ _
    exact rat_nil d t S A P c pc w ht
  | cons i p ih =>
    intro d t S A P c pc w ht hp hin hpc hst hpl
    have hkl : t.kids.length ≤ 1000000 := by have := kids_lt t; omega
    obtain ⟨b, off, hP, hbS, hcell⟩ := hp.lit (by simp)
    have hb : b < w.heap.size := hin b hbS
    subst hP
    have hc0 : w.cell? ⟨b, off, none⟩ = some (.int .i64 i) := hcell 0 (.int .i64 i) rfl
    have hcap := ht.cap
    obtain ⟨n, hn⟩ : ∃ n, n = p.length := ⟨_, rfl⟩
    obtain ⟨l, hl⟩ : ∃ l, l = t.kids.length := ⟨_, rfl⟩
    simp only [List.length_cons] at hp hpc hpl ⊢
    rw [← hn] at hp hpc hpl ih ⊢
    rw [← hl] at hkl hcap ⊢
    have HN := Lib.hid hn
    have HL := Lib.hid hl
    have HP := Lib.hid hp
    have HI := Lib.hid hin
    have HT := Lib.hid ht
    have HC := Lib.hid hcell
    clear hn hl hp ht hcell hin
    by_cases hi : i < 0
    · have hnone : at? (i :: p) t = none := by unfold at?; rw [if_pos hi]
      rw [hnone]
      have hd : decide (i < 0) = true := by simpa using hi
      clear hnone
      go_enter Tryd.func41, Tryd.ntmps41
      go_wp2_with fail
      go_quiet (fail)
      go_wp2_with (refine wpList_store_row rfl 25 (.tmp 4) (.tmp 23) rfl (w.heap.size + 1) #[.int .i64 0, .int .i64 0, .int .i64 0, .slice none 0 0] rfl rfl 25 #[.int .i64 0, .int .i64 0, .int .i64 0, .slice none 0 0] ((blk_new2 _ _ _ _).drewN _) (by rw [size_node]; rfl) rfl rfl ?_)
      refine bodyPost_ret (v := .tuple #[.agg #[.int .i64 0, .int .i64 0, .int .i64 0, .slice none 0 0], .bool false]) (by simp [results, Tryd.results41, go_sem]) rfl ⟨zeroT, none, 0, rfl, rfl, Rep.leaf in0 in0 in0 _ _, ?_⟩
      exact ((((below_drewN (ba (below_new _ _) _) _).setCell (Nat.le_add_right _ _) _).setCell (Nat.le_add_right _ _) _).setCell (Nat.le_add_right _ _) _).setCell (Nat.le_add_right _ _) _
    · by_cases hil : i < l
      · obtain ⟨j, rfl⟩ := Int.eq_ofNat_of_zero_le (show 0 ≤ i by omega)
        have hjl : j < l := by omega
        obtain ⟨v, hv⟩ : ∃ v, t.kids[j]? = some v := ⟨_, List.getElem?_eq_getElem (by rw [← HL.out]; exact hjl)⟩
        have hat : at? ((j : Int) :: p) t = at? p v := by
          rw [at?, if_neg hi]
          simp only [Int.toNat_natCast, hv]
        rw [hat]
        obtain ⟨b1, o1, A1, c1, hA1, hb1, hcl1, hr1⟩ := HT.out.kid hv
        have hsv : size v ≤ 1000000 := by have := size_kid hv; omega
        have htl := Rd.cut1 HP.out hpc
        have HR1 := Lib.hid (hr1.deeper (Nat.le_succ d))
        have hb1 := HI.out _ hb1
        have hpc1 : n ≤ pc - 1 := by omega
        have hn1 : n ≤ 9223372036854775807 := by omega
        subst hA1
        have hd : decide ((j : Int) < 0) = false := by simp
        have hd2 : decide ((l : Int) ≤ j) = false := by simp; omega
        have hc3 : (w.alloc (.cells #[.int .i64 t.k, .int .i64 t.n, .int .i64 t.m, .slice (some ⟨b1, o1, none⟩) l c] 25)).cell? ⟨w.heap.size, 3, none⟩ = some (.slice (some ⟨b1, o1, none⟩) l c) := (Blk.new w _ _).cell 3
        have hij : (0 : Int) ≤ j ∧ (j : Int) < l := ⟨by omega, by omega⟩
        have hcut := cut1 b off (n + 1) pc (by omega)
        obtain ⟨P', hP'⟩ : ∃ P', P' = (if pc = 1 then some (⟨b, off, none⟩ : Addr) else some ⟨b, off + 1, none⟩) := ⟨_, rfl⟩
        rw [← hP'] at hcut htl
        have HTL := Lib.hid htl
        clear hP' htl
        clear hat hi hil hv
        go_enter Tryd.func41, Tryd.ntmps41
        go_wp2_with fail
        go_quiet (fail)
        go_wp2_with fail
        obtain ⟨W2, hW2⟩ : ∃ W2, W2 = ((w.alloc (.cells #[.int .i64 t.k, .int .i64 t.n, .int .i64 t.m, .slice (some ⟨b1, o1, none⟩) l c] 25)).alloc (.cells #[.int .i64 0, .int .i64 0, .int .i64 0, .slice none 0 0] 25)).drewN nq := ⟨_, rfl⟩
        have HB2 : Hid (Below w.heap.size w W2.drew) := Lib.hid (by rw [hW2]; exact (below_drewN (ba (below_new _ _) _) _).drew)
        have HO2 : Hid (Blk W2.drew (w.heap.size + 1) 25 #[.int .i64 0, .int .i64 0, .int .i64 0, .slice none 0 0]) := Lib.hid (by rw [hW2]; exact ((blk_new2 _ _ _ _).drewN _).drew)
        have hc3' : W2.drew.cell? ⟨w.heap.size, 3, none⟩ = some (.slice (some ⟨b1, o1, none⟩) l c) := by rw [hW2]; exact (((blk_new3 _ _ _ _).drewN _).drew).cell 3
        have hc0' : W2.drew.cell? ⟨b, off, none⟩ = some (.int .i64 (j : Int)) := (HB2.out.cell (p := ⟨b, off, none⟩) hb).trans hc0
        have hld : (ldN (.pointer (some ⟨b1, o1 + j * 4, none⟩))).run Tryd.prog W2.drew = .ok (.agg #[.int .i64 v.k, .int .i64 v.n, .int .i64 v.m, .slice A1 v.kids.length c1]) W2.drew := load_nd fun i x hx => (HB2.out.cell (p := ⟨b1, _, none⟩) hb1).trans (hcl1 i x hx)
        rw [← hW2]
        clear hW2 hc0 hc3
        go_region_with (go_at_call 41; refine (ih d v S A1 _ c1 _ _ ?h1 ?h2 ?h3 hpc1 hsv hn1).mono ?_; (case h1 => exact HR1.out.later HI.out HB2.out); (case h2 => exact HTL.out.keep (Keeps.below HI.out HB2.out)); (case h3 => exact HI.out.more HB2.out.size); rintro e w' ⟨u, A', c', hu, rfl, hru, hbw⟩; have HO3 := Lib.hid (HO2.out.below hbw HO2.out.lt); have g0 := HO3.out.cell 0; have g1 := HO3.out.cell 1; have g2 := HO3.out.cell 2; have g3 := HO3.out.cell 3; have f0 := HO3.out.frozen 0; have f1 := HO3.out.frozen 1; have f2 := HO3.out.frozen 2; have f3 := HO3.out.frozen 3)
        all_goals
          go_wp2_with fail
          refine bodyPost_ret (v := .tuple #[.agg #[.int .i64 u.k, .int .i64 u.n, .int .i64 u.m, .slice A' u.kids.length c'], .bool (at? p v).isSome]) (by simp [results, Tryd.results41, go_sem, g0, g1, g2, g3]) rfl ⟨u, A', c', hu, rfl, ?_, ?_⟩
          · exact hru.keep (fun b hb => (HB2.out.block b (HI.out b hb)).symm)
          · exact ((((bt HB2.out hbw).setCell (Nat.le_add_right _ _) _).setCell (Nat.le_add_right _ _) _).setCell (Nat.le_add_right _ _) _).setCell (Nat.le_add_right _ _) _
      · have hnone : at? (i :: p) t = none := by
          unfold at?
          rw [if_neg hi, List.getElem?_eq_none (by rw [← HL.out]; omega)]
        rw [hnone]
        have hd : decide (i < 0) = false := by simpa using hi
        have hd2 : decide ((l : Int) ≤ i) = true := by simpa using hil
        have hcl : (w.alloc (.cells #[.int .i64 t.k, .int .i64 t.n, .int .i64 t.m, .slice A l c] 25)).cell? ⟨w.heap.size, 3, none⟩ = some (.slice A l c) := (Blk.new w _ _).cell 3
        clear hnone
        go_enter Tryd.func41, Tryd.ntmps41
        go_wp2_with fail
        go_quiet (fail)
        go_wp2_with (refine wpList_store_row rfl 25 (.tmp 4) (.tmp 23) rfl (w.heap.size + 1) #[.int .i64 0, .int .i64 0, .int .i64 0, .slice none 0 0] rfl rfl 25 #[.int .i64 0, .int .i64 0, .int .i64 0, .slice none 0 0] ((blk_new2 _ _ _ _).drewN _) (by rw [size_node]; rfl) rfl rfl ?_)
        refine bodyPost_ret (v := .tuple #[.agg #[.int .i64 0, .int .i64 0, .int .i64 0, .slice none 0 0], .bool false]) (by simp [results, Tryd.results41, go_sem]) rfl ⟨zeroT, none, 0, rfl, rfl, Rep.leaf in0 in0 in0 _ _, ?_⟩
        exact ((((below_drewN (ba (below_new _ _) _) _).setCell (Nat.le_add_right _ _) _).setCell (Nat.le_add_right _ _) _).setCell (Nat.le_add_right _ _) _).setCell (Nat.le_add_right _ _) _
end Go.Proofs.YthhhgakeeekalaaDoor
