/-
  The program's clone.
-/
import Derived.Test.YtikinofopkjdjaaDoorG29
import Derived.Test.YtikinofopkjdjaaDoorG06
import Derived.OwnWalk
set_option linter.unusedVariables false
namespace Go.Proofs.YtikinofopkjdjaaDoor
open Go.RowKit WM TR

theorem below_none {w w' : World} (h : w.grownBy w' none) : Below w.heap.size w w' := ⟨h.os, h.tape, h.output, h.size, fun i hi => h.block i hi (fun e => nomatch e)⟩
theorem own_blk_of {w : World} {base : Nat} {e : TypeId} {size g n : Nat} {xs : List Value} (h : w.ownsRow base e size (.slice (some ⟨g, 0, none⟩) n n) n xs) : Blk w g e xs.toArray := by
  obtain ⟨h1, h2⟩ := h
  rcases h2 with ⟨h0, _⟩ | ⟨g', cap', cur, hv, hg, hh, hn, hcap, hsz, htake⟩
  · cases h0
  · cases hv
    have e : cur.toList = xs := by rw [← htake, List.take_of_length_le (by rw [Array.length_toList, hsz]; exact Nat.le_refl _)]
    have e2 : cur = xs.toArray := by rw [← e]
    rw [← e2]
    exact hh
/-- A kid more is in its place. -/
theorem Lins.put {w w' : World} {d j lo hi hi2 : Nat} {l : List T} {u : T} {ys cs : List Value} (h : Lins w d lo hi (l.take j) (ys.take (j * 4))) (hu : l[j]? = some u) (hl : ys.length = l.length * 4) (hk : ∀ b, lo ≤ b → b < hi → w'.heap[b]? = w.heap[b]?) (hr : Lin w' d hi hi2 u cs) (hh : hi ≤ hi2) :
    (seg ys (j * 4) cs).length = l.length * 4 ∧ Lins w' d lo hi2 (l.take (j + 1)) ((seg ys (j * 4) cs).take ((j + 1) * 4)) := by
  have hj := (List.getElem?_eq_some_iff.1 hu).1
  have h4 := hr.length
  have hsl : (seg ys (j * 4) cs).length = l.length * 4 := by rw [seg_length (by rw [h4, hl]; omega), hl]
  refine ⟨hsl, ?_⟩
  have e : (seg ys (j * 4) cs).take ((j + 1) * 4) = ys.take (j * 4) ++ cs := by
    unfold seg
    have hl1 : (ys.take (j * 4) ++ cs).length = (j + 1) * 4 := by rw [List.length_append, List.length_take, h4, hl]; omega
    rw [List.take_append_of_le_length (by omega), List.take_of_length_le (by omega)]
  rw [e, List.take_add_one, hu]
  exact (h.keep hk).snoc hr hh
/-- What clone makes. -/
def MadeL (t : T) (d : Nat) (w : World) (e : Ending) (w' : World) : Prop :=
  ∃ A' c', e = .returned (.agg #[.int .i64 t.k, .int .i64 t.n, .int .i64 t.m, .slice A' t.kids.length c']) ∧ Lin w' d w.heap.size w'.heap.size t (nd t A' c') ∧ Below w.heap.size w w'

set_option maxRecDepth 100000 in
set_option maxHeartbeats 4000000 in
theorem clone_is : ∀ (d : Nat) (t : T) (S : Nat → Prop) (A : Option Addr) (c : Nat) (w : World), Rep w S d t (nd t A c) → In S w.heap.size → size t ≤ 1000000 →
    Calls Tryd.prog 91 #[.agg #[.int .i64 t.k, .int .i64 t.n, .int .i64 t.m, .slice A t.kids.length c]] w (MadeL t d w)
  | 0, _, _, _, _, _, h, _, _ => h.elim
  | d + 1, t, S, A, c, w, ht, hin, hst => by
    have ih := clone_is d
    obtain ⟨len, hl⟩ : ∃ l, l = t.kids.length := ⟨_, rfl⟩
    have hkl : t.kids.length ≤ 1000000 := by have := kids_lt t; omega
    obtain ⟨i0, hi, hz0, hz1, hz2⟩ := info_parts node_info
    rw [← hl] at hkl ⊢
    have hrg := ht.range
    have HRG := Lib.hid hrg
    have HT := Lib.hid ht
    have HI := Lib.hid hin
    have HL := Lib.hid hl
    have HST := Lib.hid hst
    have HIH := Lib.hid ih
    clear ht hin hl ih hrg
    by_cases h0 : len = 0
    · subst h0
      have hk0 : t.kids = [] := List.eq_nil_of_length_eq_zero HL.out.symm
      have HK := Lib.hid hk0
      clear hk0
      go_enter Tryd.func91, Tryd.ntmps91
      go_wp2_with fail
      obtain ⟨W2, hW2⟩ : ∃ W2, W2 = (w.alloc (.cells #[.int .i64 t.k, .int .i64 t.n, .int .i64 t.m, .slice A 0 c] 26)).alloc (.cells #[.int .i64 0, .int .i64 0, .int .i64 0, .slice none 0 0] 26) := ⟨_, rfl⟩
      have hz2' : W2.heap.size = w.heap.size + 2 := by rw [hW2, size_alloc, size_alloc]
      have hX : Blk W2 w.heap.size 26 #[.int .i64 t.k, .int .i64 t.n, .int .i64 t.m, .slice A 0 c] := by rw [hW2]; exact blk_new3 _ _ _ _
      have hO : Blk W2 (w.heap.size + 1) 26 #[.int .i64 0, .int .i64 0, .int .i64 0, .slice none 0 0] := by rw [hW2]; exact blk_new2 _ _ _ _
      have HB : Hid (Below w.heap.size w W2) := Lib.hid (by rw [hW2]; exact ba (below_new _ _) _)
      rw [← hW2]
      clear hW2
      have HX := Lib.hid hX
      have HO := Lib.hid hO
      have HZ2 := Lib.hid hz2'
      clear hX hO hz2'
      go_loopw [17] (fun i wr => i = .int .i64 0 ∧ Hid (wr = W2)) (fun _ _ => 0)
      case atStart => exact ⟨rfl, rfl⟩
      case round =>
        obtain ⟨rfl, HE⟩ := hrel
        have hwr := HE.out
        subst hwr
        have hX := HX.out
        have hx3 := hX.cell 3
        have hf3 := hX.frozen 3
        have hX2 := hX.set_ 3 (.slice none 0 0)
        simp only [List.setIfInBounds_toArray, List.set_cons_succ, List.set_cons_zero] at hX2
        have hO2 := HO.out.far (p := ⟨w.heap.size, 3, none⟩) (by show w.heap.size + 1 ≠ w.heap.size; omega) (.slice none 0 0)
        have HX2 := Lib.hid hX2
        have HO2 := Lib.hid hO2
        clear hX hX2 hO2
        go_wp2_with (first
          | (refine wpList_load_mid rfl 26 (.tmp 1) rfl w.heap.size 0 rfl [.int .i64 t.k, .int .i64 t.n, .int .i64 t.m, .slice none 0 0] _ (fun i y hy => by rw [HX2.out.cell (0 + i), Nat.zero_add]; simpa using hy) Tryd.underlying26 rfl (by rw [size_node]; rfl) ?_)
          | (refine wpList_store_row rfl 26 (.tmp 2) (.tmp 30) rfl (w.heap.size + 1) #[.int .i64 t.k, .int .i64 t.n, .int .i64 t.m, .slice none 0 0] rfl rfl 26 #[.int .i64 0, .int .i64 0, .int .i64 0, .slice none 0 0] HO2.out (by rw [size_node]; rfl) rfl (by simp [Value.oneCell']) ?_))
        have HR := Lib.hid (HO2.out.setRow #[.int .i64 t.k, .int .i64 t.n, .int .i64 t.m, .slice none 0 0])
        have r0 := HR.out.cell 0
        have r1 := HR.out.cell 1
        have r2 := HR.out.cell 2
        have r3 := HR.out.cell 3
        simp only [List.getElem?_toArray, List.getElem?_cons_zero, List.getElem?_cons_succ] at r0 r1 r2 r3
        refine bodyPost_ret (v := .agg #[.int .i64 t.k, .int .i64 t.n, .int .i64 t.m, .slice none 0 0]) (by simp [results, Tryd.results91, go_sem, r0, r1, r2, r3]) rfl ⟨none, 0, by rw [HK.out]; rfl, ⟨none, 0, 0, [], fun _ => w.heap.size, rfl, by rw [HK.out]; exact Nat.le_refl _, HRG.out, by rw [HK.out]; rfl, fun h => absurd h (by rw [HK.out]; exact Nat.lt_irrefl _), Nat.le_refl _, ?_, fun _ => Nat.le_refl _, fun i u hu => by rw [HK.out] at hu; simp at hu⟩, ?_⟩
        · exact (below_setRow (HB.out.setCell (Nat.le_refl _) _) (Nat.le_succ _) _).size
        exact below_setRow (HB.out.setCell (Nat.le_refl _) _) (Nat.le_succ _) _
    · have hpos : 0 < len := by omega
      go_enter Tryd.func91, Tryd.ntmps91
      go_wp2_with (refine wpList_make_full _ rfl (.tmp 12) (.tmp 12) 24 rfl (w.heap.size + 2) 26 i0 _ 4 Tryd.underlying24 hi hz0 hz1 .i64 .i64 _ _ len rfl rfl rfl rfl (by rw [hz2]; omega) (len_le (by omega)) (by simp) ?_; intro w3 hown3 hgrow3; have hb3 := below_none hgrow3; have hX3 := (blk_new3 _ _ _ _).below hb3 (blk_new3 _ _ _ _).lt; have hO3 := (blk_new2 _ _ _ _).below hb3 (blk_new2 _ _ _ _).lt; have hc3 := hX3.cell 3; have HX3 := Lib.hid hX3; have HO3 := Lib.hid hO3; have HOW3 := Lib.hid hown3; have HB3 : Hid (Below w.heap.size w w3) := Lib.hid (bt (ba (below_new _ _) _) hb3); clear hX3 hO3 hown3 hgrow3 hb3)
      have hys0 := own_blk_of HOW3.out
      have hyl0 := HOW3.out.1
      simp only [size_alloc] at hys0
      obtain ⟨ys0, hys⟩ : ∃ ys0, ys0 = (madeCells (Value.agg #[.int .i64 0, .int .i64 0, .int .i64 0, .slice none 0 0]).cells (len * 4)).toList := ⟨_, rfl⟩
      rw [← hys] at hys0 hyl0
      have HYS := Lib.hid hys0
      clear HOW3 hys hys0 hc3
      have hw3 : w.heap.size + 2 < w3.heap.size := HYS.out.lt
      go_loopw [17] (fun i wr => ∃ (j : Nat) (ys : List Value), j ≤ len ∧ i = .int .i64 j ∧ Hid (Blk wr (w.heap.size + 2) 26 ys.toArray) ∧ Hid (ys.length = len * 4) ∧ Hid (Lins wr d (w.heap.size + 2 + 1) wr.heap.size (t.kids.take j) (ys.take (j * 4))) ∧ Hid (Below (w.heap.size + 2) w3 wr)) (fun i _ => len - (intOf i).toNat)
      case atStart => exact ⟨0, ys0, Nat.zero_le _, rfl, HYS, hyl0, by rw [Nat.zero_mul]; exact Lins.nil hw3, Below.refl _ _⟩
      case round =>
        clear HYS
        obtain ⟨j, ys, hj, rfl, HY, HYL, HR, HBW⟩ := hrel
        have hsz := HBW.out.size
        by_cases hlt : j < len
        · obtain ⟨u, hu⟩ : ∃ u, t.kids[j]? = some u := ⟨_, List.getElem?_eq_getElem (by rw [← HL.out]; exact hlt)⟩
          obtain ⟨b, off, A', c', hA, hb, hcells, hru⟩ := HT.out.kid hu
          subst hA
          have hbw : b < w.heap.size := HI.out b hb
          have hBW : Below w.heap.size w wr := HB3.out.trans (HBW.out.mono (Nat.le_add_right _ _))
          have HCL : Hid (∀ i y, (nd u A' c')[i]? = some y → wr.cell? ⟨b, off + j * 4 + i, none⟩ = some y) := Lib.hid (fun i y hy => (hBW.cell (p := ⟨b, _, none⟩) hbw).trans (hcells i y hy))
          have hbx := below_new wr (.cells #[.int .i64 u.k, .int .i64 u.n, .int .i64 u.m, .slice A' u.kids.length c'] 26)
          have HC6 : Hid (∀ i y, [Value.int .i64 u.k, .int .i64 u.n, .int .i64 u.m, .slice A' u.kids.length c'][i]? = some y → (wr.alloc (.cells #[.int .i64 u.k, .int .i64 u.n, .int .i64 u.m, .slice A' u.kids.length c'] 26)).cell? ⟨wr.heap.size, 0 + i, none⟩ = some y) := Lib.hid (fun i y hy => by
            rw [(Blk.new wr 26 #[.int .i64 u.k, .int .i64 u.n, .int .i64 u.m, .slice A' u.kids.length c']).cell (0 + i), Nat.zero_add]; simpa using hy)
          have hsu := size_kid hu
          have HCA := Lib.hid (HIH.out u S A' c' (wr.alloc (.cells #[.int .i64 u.k, .int .i64 u.n, .int .i64 u.m, .slice A' u.kids.length c'] 26)) ((hru.later HI.out hBW).keep (Keeps.below (HI.out.more hBW.size) hbx)) (HI.out.more (Nat.le_trans hBW.size hbx.size)) (by have := HST.out; omega))
          have HBX := Lib.hid hbx
          have HU := Lib.hid hu
          have hij : (0 : Int) ≤ j ∧ (j : Int) < len := ⟨by omega, by omega⟩
          clear hcells hru hu hsu hbx hb
          go_wp2_with (first
            | (refine wpList_load_mid rfl 26 (.tmp 20) rfl b (off + j * 4) rfl [.int .i64 u.k, .int .i64 u.n, .int .i64 u.m, .slice A' u.kids.length c'] _ HCL.out Tryd.underlying26 rfl (by rw [size_node]; rfl) ?_)
            | (refine wpList_store_new rfl 26 (.tmp 5) (.tmp 21) rfl wr _ _ rfl rfl (by rw [size_node]; rfl) rfl rfl ?_)
            | (refine wpList_load_mid rfl 26 (.tmp 5) rfl wr.heap.size 0 rfl [.int .i64 u.k, .int .i64 u.n, .int .i64 u.m, .slice A' u.kids.length c'] _ HC6.out Tryd.underlying26 rfl (by rw [size_node]; rfl) ?_)
            | (go_at_call 91; refine HCA.out.mono ?_; rintro e w5 ⟨A5, c5, rfl, hr5, hb5⟩; have HR5 := Lib.hid hr5; have HB5 := Lib.hid hb5; have HY5 := Lib.hid ((HY.out.below HBX.out HY.out.lt).below hb5 (Nat.lt_of_lt_of_le HY.out.lt HBX.out.size)); clear hr5 hb5)
            | (refine wpList_store_seg _ rfl 26 (.tmp 26) (.tmp 25) rfl (w.heap.size + 2) (j * 4) (nd u A5 c5) rfl rfl 26 ys HY5.out (by rw [size_node]; rfl) (by rw [nd_length, HYL.out]; omega) (nd_one u A5 c5) ?_; intro w6 hw6; have HW6 := Lib.hid hw6; clear hw6))
          have hsx := size_alloc wr (.cells #[.int .i64 u.k, .int .i64 u.n, .int .i64 u.m, .slice A' u.kids.length c'] 26)
          have hs5 := HB5.out.size
          have hs6 : w6.heap.size = w5.heap.size := by rw [HW6.out, size_setRow]
          have hk : ∀ b, w.heap.size + 2 + 1 ≤ b → b < wr.heap.size → w6.heap[b]? = wr.heap[b]? := fun b hb1 hb2 => by
            rw [HW6.out]
            exact (setRow_other w5 _ _ b (by omega)).trans ((HB5.out.block b (by omega)).trans (HBX.out.block b hb2))
          have hr6 : Lin w6 d wr.heap.size w6.heap.size u (nd u A5 c5) := by
            refine Lin.mono (by omega) (Nat.le_of_eq hs6.symm) (Lin.keep (w := w5) ?_ HR5.out)
            intro b hb1 hb2
            rw [HW6.out]
            exact setRow_other w5 _ _ b (by omega)
          obtain ⟨hp1, hp2⟩ := Lins.put HR.out HU.out (by rw [HYL.out, HL.out]) hk hr6 (by omega)
          go_roundw
          case rel =>
            refine ⟨j + 1, seg ys (j * 4) (nd u A5 c5), by omega, by go_num, by rw [HW6.out]; exact HY5.out.setRow _, by rw [HL.out]; exact hp1, hp2, ?_⟩
            have h5 : Below (w.heap.size + 2) w3 w5 := (HBW.out.trans (HBX.out.mono (by omega))).trans (HB5.out.mono (by omega))
            rw [HW6.out]
            exact below_setRow h5 (Nat.le_refl _) _
          case measure => simp [intOf]; omega
        · have hjl : j = len := by omega
          have hX := HX3.out.below HBW.out (Nat.lt_add_of_pos_right (by omega))
          have hO := HO3.out.below HBW.out (Nat.lt_succ_self _)
          have hx3 := hX.cell 3
          have hf3 := hX.frozen 3
          have hX2 := hX.set_ 3 (.slice (some ⟨w.heap.size + 1 + 1, 0, none⟩) len len)
          simp only [List.setIfInBounds_toArray, List.set_cons_succ, List.set_cons_zero] at hX2
          have hO2 := hO.far (p := ⟨w.heap.size, 3, none⟩) (by show w.heap.size + 1 ≠ w.heap.size; omega) (.slice (some ⟨w.heap.size + 1 + 1, 0, none⟩) len len)
          have HX2 := Lib.hid hX2
          have HO2 := Lib.hid hO2
          have hrs : Lins wr d (w.heap.size + 2 + 1) wr.heap.size t.kids ys := by
            have h := HR.out
            rw [hjl, HL.out, List.take_length, List.take_of_length_le (by rw [HYL.out, HL.out]; exact Nat.le_refl _)] at h
            exact h
          have HRS := Lib.hid hrs
          clear hX hX2 hO hO2 hjl hrs
          go_wp2_with (first
            | (refine wpList_load_mid rfl 26 (.tmp 1) rfl w.heap.size 0 rfl [.int .i64 t.k, .int .i64 t.n, .int .i64 t.m, .slice (some ⟨w.heap.size + 1 + 1, 0, none⟩) len len] _ (fun i y hy => by rw [HX2.out.cell (0 + i), Nat.zero_add]; simpa using hy) Tryd.underlying26 rfl (by rw [size_node]; rfl) ?_)
            | (refine wpList_store_row rfl 26 (.tmp 2) (.tmp 30) rfl (w.heap.size + 1) #[.int .i64 t.k, .int .i64 t.n, .int .i64 t.m, .slice (some ⟨w.heap.size + 1 + 1, 0, none⟩) len len] rfl rfl 26 #[.int .i64 0, .int .i64 0, .int .i64 0, .slice none 0 0] HO2.out (by rw [size_node]; rfl) rfl (by simp [Value.oneCell']) ?_))
          have HRW := Lib.hid (HO2.out.setRow #[.int .i64 t.k, .int .i64 t.n, .int .i64 t.m, .slice (some ⟨w.heap.size + 1 + 1, 0, none⟩) len len])
          have r0 := HRW.out.cell 0
          have r1 := HRW.out.cell 1
          have r2 := HRW.out.cell 2
          have r3 := HRW.out.cell 3
          simp only [List.getElem?_toArray, List.getElem?_cons_zero, List.getElem?_cons_succ] at r0 r1 r2 r3
          have hfs : ((wr.setCell ⟨w.heap.size, 3, none⟩ (.slice (some ⟨w.heap.size + 1 + 1, 0, none⟩) len len)).setRow (w.heap.size + 1) #[.int .i64 t.k, .int .i64 t.n, .int .i64 t.m, .slice (some ⟨w.heap.size + 1 + 1, 0, none⟩) len len]).heap.size = wr.heap.size := by
            rw [size_setRow]
            show (wr.heap.modify _ _).size = _
            rw [Array.size_modify]
          have hkf : Keeps (fun b => w.heap.size + 2 ≤ b ∧ b < wr.heap.size) wr ((wr.setCell ⟨w.heap.size, 3, none⟩ (.slice (some ⟨w.heap.size + 1 + 1, 0, none⟩) len len)).setRow (w.heap.size + 1) #[.int .i64 t.k, .int .i64 t.n, .int .i64 t.m, .slice (some ⟨w.heap.size + 1 + 1, 0, none⟩) len len]) := fun b hb =>
            (setRow_other _ _ _ b (by omega)).trans (Below.heap_setCell wr ⟨w.heap.size, 3, none⟩ _ b (by show b ≠ w.heap.size; omega))
          refine bodyPost_ret (v := .agg #[.int .i64 t.k, .int .i64 t.n, .int .i64 t.m, .slice (some ⟨w.heap.size + 1 + 1, 0, none⟩) len len]) (by simp [results, Tryd.results91, go_sem, r0, r1, r2, r3]) rfl ⟨some ⟨w.heap.size + 1 + 1, 0, none⟩, len, by rw [← HL.out], ?_, ?_⟩
          · have hm := Lin.mk (w := (wr.setCell ⟨w.heap.size, 3, none⟩ (.slice (some ⟨w.heap.size + 1 + 1, 0, none⟩) len len)).setRow (w.heap.size + 1) #[.int .i64 t.k, .int .i64 t.n, .int .i64 t.m, .slice (some ⟨w.heap.size + 1 + 1, 0, none⟩) len len]) (ts := t.kids) (lo := w.heap.size) (hi := wr.heap.size) (c := len) HRG.out (by rw [HL.out]; exact Nat.le_refl _) ((hkf (w.heap.size + 2) ⟨Nat.le_refl _, HY.out.lt⟩).trans HY.out) (Nat.le_add_right _ _) (HRS.out.keep fun b hb1 hb2 => hkf b ⟨by omega, hb2⟩)
            rw [hfs]
            exact hm
          · exact below_setRow ((HB3.out.trans (HBW.out.mono (Nat.le_add_right _ _))).setCell (Nat.le_refl _) _) (Nat.le_succ _) _
theorem MadeL.made {t : T} {d : Nat} {w w' : World} {e : Ending} (h : MadeL t d w e w') : MadeT t d w e w' := by
  obtain ⟨A', c', he, hl, hb⟩ := h
  exact ⟨A', c', he, hl.rep, hb⟩
end Go.Proofs.YtikinofopkjdjaaDoor
