/-
  THE REFERENCE PACKAGE's GetDigests, by its contract.
-/
import Derived.Test.YtlemelfepalnfaaRList
namespace Go.Proofs.Ytlemelfepalnfaa
open Go.RowKit WM

theorem fill_step {wr : World} {g q : Nat} {L : List Value} {x : List UInt8} {y : UInt8} (hg : wr.heap[g]? = some (.cells L.toArray 57 (0, 0))) (hl : L.length = 16) (ht : L.take q = bs (x.take q)) (hq : q < 16) (hy : x[q]? = some y) :
    ∃ L2 : List Value, (wr.setCell ⟨g, q, none⟩ (.int .u8 (y.toNat : Int))).heap[g]? = some (.cells L2.toArray 57 (0, 0)) ∧ L2.length = 16 ∧ L2.take (q + 1) = bs (x.take (q + 1)) := by
  refine ⟨L.set q (.int .u8 (y.toNat : Int)), ?_, by simpa using hl, ?_⟩
  · have := Blk.set_ hg q (.int .u8 (y.toNat : Int))
    simpa [Blk] using this
  · rw [List.take_add_one, List.take_set_of_le (Nat.le_refl q), ht, List.getElem?_set_self (by omega), List.take_add_one, hy, bs_append]
    rfl

set_option maxRecDepth 100000 in
set_option maxHeartbeats 3200000 in
theorem refGetDigests (A : Option Addr) (c : Nat) (l : List UInt8) (w : World) (ha : Reads w w.heap.size 1 A l.length (bs l)) (hlc : l.length ≤ c) (hl : l.length ≤ 1000000) :
    Calls Try.prog 35 #[.slice A l.length c] w (GPost 57 16 (fun x : List UInt8 => bs x) w (gElems 16 gDig l)) := by
  have hc := refCount A c 16 l w ha hlc hl (by omega) (by omega)
  cases hg : gLen 16 l with
  | more =>
    have hgl2 : gElems 16 gDig l = .more := by unfold gElems; rw [hg]
    rw [hgl2]
    rw [hg] at hc
    simp only [dLen] at hc
    have HC := Lib.hid hc
    clear hc ha hg hgl2
    go_enter Try.func35, Try.ntmps35
    go_wp2_with (go_at_call 41; refine HC.out.mono ?_; rintro e w' ⟨rfl, hb⟩; have HB := Lib.hid hb; clear hb)
    go_ret3
    exact ⟨rfl, HB.out⟩
  | form =>
    have hgl2 : gElems 16 gDig l = .form := by unfold gElems; rw [hg]
    rw [hgl2]
    rw [hg] at hc
    simp only [dLen] at hc
    have HC := Lib.hid hc
    clear hc ha hg hgl2
    go_enter Try.func35, Try.ntmps35
    go_wp2_with (go_at_call 41; refine HC.out.mono ?_; rintro e w' ⟨rfl, hb⟩; have HB := Lib.hid hb; clear hb)
    go_ret3
    exact ⟨rfl, HB.out⟩
  | ok n u0 =>
    obtain ⟨hr, t, he, hu, ht⟩ := gLen_ok hg (by omega)
    have hul : u0 + n * 16 ≤ l.length := by rw [he, hu, List.length_append]; omega
    rw [hg] at hc
    simp only [dLen] at hc
    obtain ⟨d, hd⟩ : ∃ d, d = gElems 16 gDig l := ⟨_, rfl⟩
    rw [← hd]
    have HD0 := Lib.hid (hd.trans (elems_comb (g := gDig) hg))
    have HC := Lib.hid hc
    have HA := Lib.hid ha
    obtain ⟨i0, hi, hz0, hz1, hz2⟩ := info_parts Try.info57f
    clear hc ha hg he hu ht hr hd
    go_enter Try.func35, Try.ntmps35
    go_wp2_with (go_at_call 41; refine HC.out.mono ?_; rintro e w' ⟨rfl, hb⟩; have HB := Lib.hid hb; clear hb)
    go_loopw [6, 8, 9] (fun a o i wr => ∃ j u : Nat, j ≤ n ∧ u + 16 * (n - j) ≤ l.length ∧ i = .int .i64 j ∧ a = .int .i64 u ∧ RInv 57 16 n (fun x : List UInt8 => bs x) gDig l w d j u o wr) (fun _ _ i _ => n - (intOf i).toNat)
    case atStart => exact ⟨0, u0, Nat.zero_le _, by omega, rfl, rfl, [], rfl, HD0.out, World.ownsRow_nil _ _ _ _, HB.out⟩
    case round =>
      obtain ⟨j, u, hj, hu, rfl, rfl, hinv⟩ := hrel
      obtain ⟨xs, hxl, hd, hown, hbel⟩ := hinv
      obtain ⟨wm, rfl⟩ : ∃ W : World, W = wr := ⟨_, rfl⟩
      have hsz := hbel.size
      have HO := Lib.hid hown
      have HB1 := Lib.hid hbel
      have HXL := Lib.hid hxl
      clear hown hxl
      by_cases hlt : j < n
      · obtain ⟨m, hm⟩ : ∃ m, n - j = m + 1 := ⟨n - j - 1, by omega⟩
        rw [hm] at hd
        have hgr : gDig (l.drop u) = .ok ((l.drop u).take 16) 16 := rfl
        rw [comb_ok hgr] at hd
        obtain ⟨x, hx⟩ : ∃ x, x = (l.drop u).take 16 := ⟨_, rfl⟩
        rw [← hx] at hd
        have hx16 : x.length = 16 := by rw [hx, List.length_take, List.length_drop]; omega
        have HX := Lib.hid hx
        have HX16 := Lib.hid hx16
        have HM := Lib.hid hm
        have HD := Lib.hid hd
        have HG0 := Lib.hid (heap_alloc_new wm (.cells #[.int .u8 0, .int .u8 0, .int .u8 0, .int .u8 0, .int .u8 0, .int .u8 0, .int .u8 0, .int .u8 0, .int .u8 0, .int .u8 0, .int .u8 0, .int .u8 0, .int .u8 0, .int .u8 0, .int .u8 0, .int .u8 0] 57))
        have HB2 := Lib.hid (below_new wm (.cells #[.int .u8 0, .int .u8 0, .int .u8 0, .int .u8 0, .int .u8 0, .int .u8 0, .int .u8 0, .int .u8 0, .int .u8 0, .int .u8 0, .int .u8 0, .int .u8 0, .int .u8 0, .int .u8 0, .int .u8 0, .int .u8 0] 57))
        have hu2 : u + 16 ≤ l.length := by omega
        clear hm hd hgr hx hx16 hbel
        go_wp2
        go_loopw [11] (fun i wr => ∃ q : Nat, q ≤ 16 ∧ i = .int .i64 q ∧ Hid (∃ L : List Value, wr.heap[wm.heap.size]? = some (.cells L.toArray 57 (0, 0)) ∧ L.length = 16 ∧ L.take q = bs (x.take q)) ∧ Hid (Below wm.heap.size wm wr)) (fun i _ => 16 - (intOf i).toNat)
        case atStart => exact ⟨0, Nat.zero_le _, rfl, ⟨_, HG0.out, rfl, rfl⟩, HB2.out⟩
        case round =>
          obtain ⟨q, hq, rfl, HL, HB3⟩ := hrel
          obtain ⟨L, hL1, hL2, hL3⟩ := HL.out
          have HL1 := Lib.hid hL1
          have HL2 := Lib.hid hL2
          have HL3 := Lib.hid hL3
          have hs3 := HB3.out.size
          have hgl := lt_of_block hL1
          clear HL hL1 hL2 hL3
          by_cases hq16 : q < 16
          · obtain ⟨b, off, rfl, hb, hcell⟩ := (HA.out.below (HB1.out.trans (HB3.out.mono hsz))).lit (by omega)
            have huq : u + q < l.length := by omega
            have hc1 := hcell (u + q) _ (bs_get l (u + q) huq)
            have hy2 : x[q]? = some l[u + q] := by rw [HX.out, List.getElem?_take, if_pos hq16, List.getElem?_drop, List.getElem?_eq_getElem huq]
            obtain ⟨y, hy⟩ : ∃ y, y = l[u + q] := ⟨_, rfl⟩
            rw [← hy] at hc1 hy2
            have hst := Blk.cell HL1.out q
            have hst2 : wr.cell? ⟨wm.heap.size, q, none⟩ = some (L[q]'(by rw [HL2.out]; omega)) := by rw [hst]; simp
            obtain ⟨old, hold⟩ : ∃ old, old = (L[q]'(by rw [HL2.out]; omega)) := ⟨_, rfl⟩
            rw [← hold] at hst2
            have hfr := Blk.frozen HL1.out q
            have HNX := Lib.hid (fill_step HL1.out HL2.out HL3.out hq16 hy2)
            have hub : ((u : Int) + (q : Int)) < (l.length : Int) := by omega
            clear hcell hy hst hold hy2
            go_wp2
            go_roundw
            case rel => exact ⟨q + 1, by omega, by go_num, HNX.out, HB3.out.setCell (Nat.le_refl _) _⟩
            case measure => simp [intOf]; omega
          · obtain rfl : q = 16 := by omega
            have hL : L = bs x := by
              have h3 := HL3.out
              rwa [List.take_of_length_le (by rw [HL2.out]; exact Nat.le_refl _), List.take_of_length_le (by rw [HX16.out]; exact Nat.le_refl _)] at h3
            have hHG := HL1.out
            rw [hL] at hHG
            obtain ⟨cs, hcs⟩ : ∃ cs, cs = bs x := ⟨_, rfl⟩
            rw [← hcs] at hHG
            have hcl : cs.length = 16 := by rw [hcs, bs_length]; exact HX16.out
            have hcl1 : cs.length ≤ 16 := by omega
            have hcl2 : 16 ≤ cs.length := by omega
            have hfold := fold_cells cs hcl (.int .u8 0) (.int .u8 0) (.int .u8 0) (.int .u8 0) (.int .u8 0) (.int .u8 0) (.int .u8 0) (.int .u8 0) (.int .u8 0) (.int .u8 0) (.int .u8 0) (.int .u8 0) (.int .u8 0) (.int .u8 0) (.int .u8 0) (.int .u8 0)
            have HCL := Lib.hid hcl
            have HCS := Lib.hid hcs
            have H1 := Lib.hid (show ∀ u ∈ cs, u.oneCell' = true by rw [hcs]; exact bs_one _)
            have HHG := Lib.hid hHG
            have HB4 := Lib.hid (HB1.out.trans (HB3.out.mono hsz))
            have hs4 := HB4.out.size
            have HO4 := Lib.hid (ownsRow_below HO.out HB3.out)
            clear hL hHG hcs hcl
            go_wp2_with (first
              | (with_reducible refine wpList_load_row rfl 57 (.tmp 10) rfl wm.heap.size rfl 57 cs.toArray (0, 0) _ HHG.out Try.arr57 rfl (by rw [List.size_toArray, HCL.out]; exact Try.info57) ?_)
              | (at_builtin; refine wpList_append_own _ rfl (.tmp 38) (.tmp 40) 24 rfl w.heap.size 57 i0 _ 16 16 Try.underlying24 hi hz0 hz1 hz2 rfl (by decide) _ _ _ rfl (HO4.out.alloc _) ⟨wr.heap.size, 0, none⟩ 1 1 cs rfl (by rw [HCL.out]) (cells_new _ _ _) H1.out (len_le (by omega)) (by omega) (by simp; omega) ?_; intro v3 w3 hown3 hgrow3 _; have HO3 := Lib.hid hown3; have HB5 := Lib.hid ((HB4.out.alloc hs4 _).grown hgrow3 (by simp; omega) (fun k hk => (HO4.out.lt k hk).1)); clear hown3 hgrow3))
            go_roundw
            case rel =>
              refine ⟨j + 1, u + 16, by omega, by omega, by go_num, by go_num, xs ++ [x], by simp [HXL.out], ?_, by have := HO3.out; rw [HCS.out] at this; simpa using this, HB5.out⟩
              have := HM.out
              rw [show n - (j + 1) = m by omega]; exact HD.out
            case measure => simp [intOf]; omega
      · obtain rfl : j = n := by omega
        rw [Nat.sub_self, comb_end] at hd
        subst hd
        obtain ⟨A1, c1, hv, _⟩ := own_form HO.out
        subst hv
        have hxn : xs.length = j := HXL.out
        subst hxn
        clear hbel
        go_wp2
        go_ret3
        exact ⟨A1, c1, rfl, HO.out, HB1.out⟩
end Go.Proofs.Ytlemelfepalnfaa
