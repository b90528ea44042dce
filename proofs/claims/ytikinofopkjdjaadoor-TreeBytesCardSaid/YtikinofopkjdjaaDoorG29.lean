/-
  THE REFERENCE PACKAGE's count, by its contract.
-/
import Derived.Test.YtikinofopkjdjaaDoorG28
import Derived.Test.YtikinofopkjdjaaDoorG18
import Derived.Test.YtikinofopkjdjaaDoorG09
import Derived.Test.YtikinofopkjdjaaDoorG08
set_option linter.unusedVariables false
namespace Go.Proofs.YtikinofopkjdjaaDoor
open Go.RowKit WM

theorem refCount (A : Option Addr) (c least : Nat) (l : List UInt8) (w : World) (ha : Reads w w.heap.size 1 A l.length (bs l)) (hlc : l.length ≤ c) (hl : l.length ≤ 1000000) (h0 : 0 < least) (h1 : least ≤ 1000) :
    Calls Tryd.prog 107 #[.slice A l.length c, .int .i64 (least : Int)] w fun e w' => e = .returned (dLen (gLen least l)) ∧ Below w.heap.size w w' := by
  have hc := refGetInt A c l w ha hlc hl
  cases hg : gInt l with
  | more =>
    have hgl : gLen least l = .more := by unfold gLen; rw [hg]
    rw [hgl]
    rw [hg] at hc
    simp only [dInt] at hc
    have HC := Lib.hid hc
    clear hc ha hg hgl
    go_enter Tryd.func107, Tryd.ntmps107
    go_wp2_with (go_at_call 76; refine HC.out.mono ?_; rintro e w' ⟨rfl, hb⟩; have HB := Lib.hid hb; clear hb)
    go_ret3
    exact ⟨rfl, HB.out⟩
  | form =>
    have hgl : gLen least l = .form := by unfold gLen; rw [hg]
    rw [hgl]
    rw [hg] at hc
    simp only [dInt] at hc
    have HC := Lib.hid hc
    clear hc ha hg hgl
    go_enter Tryd.func107, Tryd.ntmps107
    go_wp2_with (go_at_call 76; refine HC.out.mono ?_; rintro e w' ⟨rfl, hb⟩; have HB := Lib.hid hb; clear hb)
    go_ret3
    exact ⟨rfl, HB.out⟩
  | ok n u =>
    obtain ⟨hr, t, he, hu⟩ := gInt_ok hg
    have hul : u ≤ l.length := by rw [he, hu, List.length_append]; omega
    have h9 := enc_len hr
    rw [← hu] at h9
    obtain ⟨hu1, hu9⟩ := h9
    obtain ⟨hr1, hr2⟩ := hr
    rw [hg] at hc
    simp only [dInt] at hc
    have HC := Lib.hid hc
    have HG := Lib.hid hg
    clear hc ha he hu hg
    by_cases hn : n < 0
    · have hgl : gLen least l = .form := by unfold gLen; rw [HG.out]; simp only []; rw [if_pos hn]
      rw [hgl]
      clear hgl
      go_enter Tryd.func107, Tryd.ntmps107
      go_wp2_with (go_at_call 76; refine HC.out.mono ?_; rintro e w' ⟨rfl, hb⟩; have HB := Lib.hid hb; clear hb)
      go_ret3
      exact ⟨rfl, HB.out⟩
    · obtain ⟨m, rfl⟩ := Int.eq_ofNat_of_zero_le (show 0 ≤ n by omega)
      have hdiv := Nat.le_div_iff_mul_le (x := m) (y := l.length - u) h0
      by_cases hm1 : l.length < m
      · have hm : (l.length - u) / least < m := by
          have : (l.length - u) / least ≤ l.length - u := Nat.div_le_self _ _
          omega
        have hgl : gLen least l = .more := by unfold gLen; rw [HG.out]; simp only []; rw [if_neg hn, if_pos (by omega)]
        rw [hgl]
        clear hgl hm hdiv
        go_enter Tryd.func107, Tryd.ntmps107
        go_wp2_with (go_at_call 76; refine HC.out.mono ?_; rintro e w' ⟨rfl, hb⟩; have HB := Lib.hid hb; clear hb)
        go_ret3
        exact ⟨rfl, HB.out⟩
      · obtain ⟨P, hP⟩ : ∃ P, P = m * least := ⟨_, rfl⟩
        have hPb : P ≤ 1000000 * 1000 := by rw [hP]; exact Nat.mul_le_mul (by omega) h1
        have hPi : (m : Int) * (least : Int) = (P : Int) := by rw [hP]; simp
        have hw : IntKind.i64.wrap ((m : Int) * (least : Int)) = (P : Int) := by rw [hPi]; exact IntWalk.i64_in _ (by omega)
        by_cases hm : l.length - u < P
        · have hgl : gLen least l = .more := by
            unfold gLen; rw [HG.out]; simp only []; rw [if_neg hn, if_pos]
            have : ¬ m ≤ (l.length - u) / least := by rw [hdiv]; omega
            omega
          rw [hgl]
          have hq : (l.length : Int) - (u : Int) < (P : Int) := by omega
          clear hgl hdiv hP
          go_enter Tryd.func107, Tryd.ntmps107
          go_wp2_with (go_at_call 76; refine HC.out.mono ?_; rintro e w' ⟨rfl, hb⟩; have HB := Lib.hid hb; clear hb)
          go_ret3
          exact ⟨rfl, HB.out⟩
        · have hgl : gLen least l = .ok m u := by
            unfold gLen; rw [HG.out]; simp only []; rw [if_neg hn, if_neg]
            · simp
            · have : m ≤ (l.length - u) / least := hdiv.2 (by omega)
              omega
          rw [hgl]
          have hq : (P : Int) ≤ (l.length : Int) - (u : Int) := by omega
          clear hgl hdiv hP
          go_enter Tryd.func107, Tryd.ntmps107
          go_wp2_with (go_at_call 76; refine HC.out.mono ?_; rintro e w' ⟨rfl, hb⟩; have HB := Lib.hid hb; clear hb)
          go_ret3
          exact ⟨rfl, HB.out⟩

end Go.Proofs.YtikinofopkjdjaaDoor

/-
  THE REFERENCE PACKAGE's GetInts, by its contract.
-/
namespace Go.Proofs.YtikinofopkjdjaaDoor
open Go.RowKit WM
/-- The loop's relation, but for the slots. -/
def RInv {α : Type} (el sz n : Nat) (cell : α → List Value) (g : List UInt8 → Dec α) (l : List UInt8) (w : World) (d : Dec (List α)) (j u : Nat) (v : Value) (wr : World) : Prop :=
  ∃ xs : List α, xs.length = j ∧ d = comb xs u (gMany g (n - j) (l.drop u)) ∧ wr.ownsRow w.heap.size el sz v j (xs.flatMap cell) ∧ Below w.heap.size w wr

set_option maxHeartbeats 1600000 in
theorem refGetInts (A : Option Addr) (c : Nat) (l : List UInt8) (w : World) (ha : Reads w w.heap.size 1 A l.length (bs l)) (hlc : l.length ≤ c) (hl : l.length ≤ 1000000) :
    Calls Tryd.prog 77 #[.slice A l.length c] w (GPost 3 1 (fun x : Int => [.int .i64 x]) w (gElems 1 gInt l)) := by
  have hc := refCount A c 1 l w ha hlc hl (by omega) (by omega)
  cases hg : gLen 1 l with
  | more =>
    have hgl2 : gElems 1 gInt l = .more := by unfold gElems; rw [hg]
    rw [hgl2]
    rw [hg] at hc
    simp only [dLen] at hc
    have HC := Lib.hid hc
    clear hc ha hg hgl2
    go_enter Tryd.func77, Tryd.ntmps77
    go_wp2_with (go_at_call 107; refine HC.out.mono ?_; rintro e w' ⟨rfl, hb⟩; have HB := Lib.hid hb; clear hb)
    go_ret3
    exact ⟨rfl, HB.out⟩
  | form =>
    have hgl2 : gElems 1 gInt l = .form := by unfold gElems; rw [hg]
    rw [hgl2]
    rw [hg] at hc
    simp only [dLen] at hc
    have HC := Lib.hid hc
    clear hc ha hg hgl2
    go_enter Tryd.func77, Tryd.ntmps77
    go_wp2_with (go_at_call 107; refine HC.out.mono ?_; rintro e w' ⟨rfl, hb⟩; have HB := Lib.hid hb; clear hb)
    go_ret3
    exact ⟨rfl, HB.out⟩
  | ok n u0 =>
    obtain ⟨hr, t, he, hu, ht⟩ := gLen_ok hg (by omega)
    have hul : u0 + n * 1 ≤ l.length := by rw [he, hu, List.length_append]; omega
    rw [hg] at hc
    simp only [dLen] at hc
    obtain ⟨d, hd⟩ : ∃ d, d = gElems 1 gInt l := ⟨_, rfl⟩
    rw [← hd]
    have HD0 := Lib.hid (hd.trans (elems_comb (g := gInt) hg))
    have HC := Lib.hid hc
    have HA := Lib.hid ha
    obtain ⟨i0, hi, hz0, hz1, hz2⟩ := info_parts Tryd.info3G
    clear hc ha hg he hu ht hr hd
    go_enter Tryd.func77, Tryd.ntmps77
    go_wp2_with (go_at_call 107; refine HC.out.mono ?_; rintro e w' ⟨rfl, hb⟩; have HB := Lib.hid hb; clear hb)
    go_loopw [6, 8, 9] (fun a o i wr => ∃ j u : Nat, j ≤ n ∧ u ≤ l.length ∧ i = .int .i64 j ∧ a = .int .i64 u ∧ RInv 3 1 n (fun x : Int => [.int .i64 x]) gInt l w d j u o wr) (fun _ _ i _ => n - (intOf i).toNat)
    case atStart => exact ⟨0, u0, Nat.zero_le _, by omega, rfl, rfl, [], rfl, HD0.out, World.ownsRow_nil _ _ _ _, HB.out⟩
    case round =>
      obtain ⟨j, u, hj, hu, rfl, rfl, hinv⟩ := hrel
      obtain ⟨xs, hxl, hd, hown, hbel⟩ := hinv
      have hsz := hbel.size
      have HO := Lib.hid hown
      have HB1 := Lib.hid hbel
      have HXL := Lib.hid hxl
      clear hown hxl
      by_cases hlt : j < n
      · obtain ⟨m, hm⟩ : ∃ m, n - j = m + 1 := ⟨n - j - 1, by omega⟩
        rw [hm] at hd
        obtain ⟨A', hA', hcut⟩ := cut_l A l.length c u hu
        have hrd := reads_part (HA.out.later hbel) hA' (show u + (l.length - u) ≤ l.length by omega) hlc
        rw [bs_drop, bs_take, List.take_of_length_le (by simp), show l.length - u = (l.drop u).length by simp] at hrd
        have hcc := refGetInt A' (c - u) (l.drop u) wr hrd (by simp; omega) (by simp; omega)
        rw [show (l.drop u).length = l.length - u by simp] at hcc
        have HM := Lib.hid hm
        cases hgr : gInt (l.drop u) with
        | more =>
          rw [hgr] at hcc
          rw [comb_more hgr] at hd
          simp only [dInt] at hcc
          have HCC := Lib.hid hcc
          subst hd
          clear hcc hrd hA' hbel hm hgr
          go_wp2_with (go_at_call 76; refine HCC.out.mono ?_; rintro e w2 ⟨rfl, hb2⟩; have HB2 := Lib.hid hb2; clear hb2)
          go_ret3
          exact ⟨rfl, HB1.out.trans (HB2.out.mono hsz)⟩
        | form =>
          rw [hgr] at hcc
          rw [comb_form hgr] at hd
          simp only [dInt] at hcc
          have HCC := Lib.hid hcc
          subst hd
          clear hcc hrd hA' hbel hm hgr
          go_wp2_with (go_at_call 76; refine HCC.out.mono ?_; rintro e w2 ⟨rfl, hb2⟩; have HB2 := Lib.hid hb2; clear hb2)
          go_ret3
          exact ⟨rfl, HB1.out.trans (HB2.out.mono hsz)⟩
        | ok x k =>
          rw [hgr] at hcc
          rw [comb_ok hgr] at hd
          have hk : u + k ≤ l.length := by
            obtain ⟨_, t, h1, h2⟩ := gInt_ok hgr
            have h3 := congrArg List.length h1
            rw [List.length_append, List.length_drop] at h3
            omega
          simp only [dInt] at hcc
          have HCC := Lib.hid hcc
          have HD := Lib.hid hd
          clear hcc hrd hA' hbel hm hgr hd
          go_wp2_with (first
            | (go_at_call 76; refine HCC.out.mono ?_; rintro e w2 ⟨rfl, hb2⟩; have HB2 := Lib.hid (HB1.out.trans (hb2.mono hsz)); have hs2 := (HB1.out.trans (hb2.mono hsz)).size; have HO2 := Lib.hid (ownsRow_below HO.out hb2); clear hb2)
            | (at_builtin; refine wpList_append_own _ rfl (.tmp 38) (.tmp 40) 22 rfl w.heap.size 3 i0 (.int .i64 0) 1 8 Tryd.underlying22 hi hz0 hz1 hz2 rfl (by decide) _ _ _ rfl (HO2.out.alloc _) ⟨w2.heap.size, 0, none⟩ 1 1 [.int .i64 x] rfl rfl (one_new _ _ _) (int_one _ _) (len_le (by omega)) (by omega) (by simp; omega) ?_; intro v3 w3 hown3 hgrow3 _; have HO3 := Lib.hid hown3; have HB3 := Lib.hid ((HB2.out.alloc hs2 _).grown hgrow3 (by simp; omega) (fun k hk => (HO2.out.lt k hk).1)); clear hown3 hgrow3))
          go_roundw
          case rel =>
            refine ⟨j + 1, u + k, by omega, hk, by go_num, by go_num, xs ++ [x], by simp [HXL.out], ?_, by have := HO3.out; simpa using this, HB3.out⟩
            have := HM.out
            rw [show n - (j + 1) = m by omega]; exact HD.out
          case measure => simp [intOf]; omega
      · obtain rfl : j = n := by omega
        rw [Nat.sub_self, comb_end] at hd
        subst hd
        obtain ⟨A1, c1, hv, _⟩ := own_form HO.out
        subst hv
        have hxn : xs.length = j := HXL.out
        subst hxn
        clear hbel
        go_wp2
        go_ret3
        exact ⟨A1, c1, rfl, HO.out, HB1.out⟩
end Go.Proofs.YtikinofopkjdjaaDoor

/-
  The laws' small functions: sum; and Valid at what is no program.
-/
namespace Go.Proofs.YtikinofopkjdjaaDoor
open Go.RowKit WM TR

/-- The variable 0 and a number. -/
def sumT (n : Int) : T := ⟨9, 0, 0, [⟨6, 0, 0, []⟩, ⟨4, n, 0, []⟩]⟩

set_option maxRecDepth 100000 in
set_option maxHeartbeats 2000000 in
theorem sum_is (n : Int) (hn : inRange n) (w : World) : Calls Tryd.prog 51 #[.int .i64 n] w (MadeT (sumT n) 2 w) := by
  have hO := Blk.new w 26 #[.int .i64 0, .int .i64 0, .int .i64 0, .slice none 0 0]
  obtain ⟨W2, hW2⟩ : ∃ W2, W2 = (w.alloc (.cells #[.int .i64 0, .int .i64 0, .int .i64 0, .slice none 0 0] 26)).alloc (.cells #[.int .i64 6, .int .i64 0, .int .i64 0, .slice none 0 0, .int .i64 4, .int .i64 n, .int .i64 0, .slice none 0 0] 26) := ⟨_, rfl⟩
  have HO : Hid (Blk W2 w.heap.size 26 #[.int .i64 0, .int .i64 0, .int .i64 0, .slice none 0 0]) := Lib.hid (by rw [hW2]; exact hO.alloc _)
  have HK : Hid (Blk W2 (w.heap.size + 1) 26 #[.int .i64 6, .int .i64 0, .int .i64 0, .slice none 0 0, .int .i64 4, .int .i64 n, .int .i64 0, .slice none 0 0]) := Lib.hid (by rw [hW2]; exact blk_new2 _ _ _ _)
  have HB : Hid (Below w.heap.size w W2) := Lib.hid (by rw [hW2]; exact ba (below_new _ _) _)
  have HZ : Hid (W2.heap.size = w.heap.size + 2) := Lib.hid (by rw [hW2, size_alloc, size_alloc])
  have HW2 := Lib.hid hW2
  have HN := Lib.hid hn
  clear hO hW2 hn
  go_enter Tryd.func51, Tryd.ntmps51
  go_wp2_with (refine wpList_store_row rfl 26 (.tmp 2) (.tmp 7) rfl w.heap.size #[.int .i64 9, .int .i64 0, .int .i64 0, .slice (some ⟨w.heap.size + 1, 0, none⟩) 2 2] rfl rfl 26 #[.int .i64 0, .int .i64 0, .int .i64 0, .slice none 0 0] (by rw [← HW2.out]; exact HO.out) (by rw [size_node]; rfl) rfl (by simp [Value.oneCell']) ?_)
  rw [← HW2.out]
  have HR := Lib.hid (HO.out.setRow #[.int .i64 9, .int .i64 0, .int .i64 0, .slice (some ⟨w.heap.size + 1, 0, none⟩) 2 2])
  have hK2 := HK.out.setRow_far (g' := w.heap.size) (by omega) #[.int .i64 9, .int .i64 0, .int .i64 0, .slice (some ⟨w.heap.size + 1, 0, none⟩) 2 2]
  have r0 := HR.out.cell 0
  have r1 := HR.out.cell 1
  have r2 := HR.out.cell 2
  have r3 := HR.out.cell 3
  simp only [List.getElem?_toArray, List.getElem?_cons_zero, List.getElem?_cons_succ] at r0 r1 r2 r3
  have in9 : inRange 9 := by unfold inRange; omega
  have in6 : inRange 6 := by unfold inRange; omega
  have in4 : inRange 4 := by unfold inRange; omega
  refine bodyPost_ret (v := .agg #[.int .i64 9, .int .i64 0, .int .i64 0, .slice (some ⟨w.heap.size + 1, 0, none⟩) 2 2]) (by simp [results, Tryd.results51, go_sem, r0, r1, r2, r3]) rfl ⟨some ⟨w.heap.size + 1, 0, none⟩, 2, rfl, ?_, below_setRow HB.out (Nat.le_refl _) _⟩
  refine Rep.mk (k := 9) (n := 0) (m := 0) (ts := [⟨6, 0, 0, []⟩, ⟨4, n, 0, []⟩]) (c := 2) (xs := nd ⟨6, 0, 0, []⟩ none 0 ++ nd ⟨4, n, 0, []⟩ none 0) in9 in0 in0 (Nat.le_refl _) ⟨rfl, fun _ => ⟨_, rfl, ⟨by show w.heap.size ≤ w.heap.size + 1; omega, by show w.heap.size + 1 < _; rw [size_setRow, HZ.out]; omega⟩, fun j u hu => ?_⟩⟩ ?_
  · rw [Addr.add_lit, Nat.zero_add, hK2.cell j]
    simpa [nd] using hu
  · exact (Reps.one (Rep.leaf in6 in0 in0 0 0)).snoc (Rep.leaf in4 HN.out in0 0 0)

set_option maxRecDepth 100000 in
set_option maxHeartbeats 2000000 in
/-- Valid, at an operation of two operands. -/
theorem tvalid9_is (n m : Int) (A : Option Addr) (l c : Nat) (w : World) (hT : ST w) (hg : 0 < w.heap.size) :
    Calls Tryd.prog 58 #[.agg #[.int .i64 9, .int .i64 n, .int .i64 m, .slice A l c]] w fun e w' => e = .returned (.bool false) ∧ Below w.heap.size w w' := by
  obtain ⟨W2, hW2⟩ : ∃ W2, W2 = (w.alloc (.cells #[.int .i64 9, .int .i64 n, .int .i64 m, .slice A l c] 26)).alloc (.cells #[.bool false] 4) := ⟨_, rfl⟩
  have HO : Hid (Blk W2 (w.heap.size + 1) 4 #[.bool false]) := Lib.hid (by rw [hW2]; exact blk_new2 _ _ _ _)
  have HB : Hid (Below w.heap.size w W2) := Lib.hid (by rw [hW2]; exact ba (below_new _ _) _)
  have HZ : Hid (W2.heap.size = w.heap.size + 2) := Lib.hid (by rw [hW2, size_alloc, size_alloc])
  have HC := Lib.hid (shapeOf_is 9 W2 (hT.below HB.out hg) (Nat.lt_of_lt_of_le hg HB.out.size))
  have HW2 := Lib.hid hW2
  have h9 : (rowV (shRow 9)).toArray = #[.int .u8 4, .int .i8 0, .int .i8 13, .int .i8 0, .int .i8 2, .int .i8 2, .int .u8 4, .int .i8 0] := by rfl
  have H9 := Lib.hid h9
  have hfl : ∀ W : World, (Instr.field 136 (.agg #[.int .u8 4, .int .i8 0, .int .i8 13, .int .i8 0, .int .i8 2, .int .i8 2, .int .u8 4, .int .i8 0]) 0).run Tryd.prog W = .ok (.int .u8 4) W := fun W => by kernel_rfl
  clear hW2 hT h9
  go_enter Tryd.func58, Tryd.ntmps58
  go_wp2_with (go_at_call 97; rw [← HW2.out]; refine HC.out.mono ?_; rintro e w3 ⟨rfl, hb3⟩; rw [H9.out]; have hO3 := HO.out.below hb3 HO.out.lt; have hc3 := hO3.cell 0; have hf3 := hO3.frozen 0)
  have hR := hO3.set_ 0 (.bool false)
  simp only [List.setIfInBounds_toArray, List.set_cons_zero] at hR
  have r0 := hR.cell 0
  simp only [List.getElem?_toArray, List.getElem?_cons_zero] at r0
  refine bodyPost_ret (v := .bool false) (by simp [results, Tryd.results58, go_sem, r0]) rfl ⟨rfl, (bt HB.out hb3).setCell (Nat.le_succ _) _⟩
end Go.Proofs.YtikinofopkjdjaaDoor

/-
  TREES IN MEMORY THAT SHARE NOTHING: each node's row of kids has a block of its own, and the kids' blocks lie in intervals one behind the other. Writing one node writes one place of the tree.
-/
namespace Go.Proofs.YtikinofopkjdjaaDoor.TR
/-- A place behind a place. -/
theorem at_snoc (q : List Int) (j : Nat) : ∀ (t u : T), at? q t = some u → at? (q ++ [(j : Int)]) t = u.kids[j]? := by
  induction q with
  | nil =>
    intro t u h
    simp only [at?, Option.some.injEq] at h
    subst h
    simp only [List.nil_append, at?]
    rw [if_neg (by omega)]
    simp only [Int.toNat_natCast]
    cases t.kids[j]? <;> rfl
  | cons i q ih =>
    intro t u h
    simp only [List.cons_append, at?] at h ⊢
    split at h
    · cases h
    · rename_i hi
      rw [if_neg hi]
      cases hk : t.kids[i.toNat]? with
      | none => rw [hk] at h; cases h
      | some v => rw [hk] at h; exact ih v u h
theorem set_snoc (q : List Int) (j : Nat) (x k : T) : ∀ (t u : T), at? q t = some u → u.kids[j]? = some k → set? (q ++ [(j : Int)]) t x = set? q t ⟨u.k, u.n, u.m, u.kids.set j x⟩ := by
  induction q with
  | nil =>
    intro t u h hk
    simp only [at?, Option.some.injEq] at h
    subst h
    simp only [List.nil_append, set?]
    rw [if_neg (by omega)]
    simp only [Int.toNat_natCast, hk]
  | cons i q ih =>
    intro t u h hk
    simp only [List.cons_append, at?, set?] at h ⊢
    split at h
    · cases h
    · rename_i hi
      rw [if_neg hi, if_neg hi]
      cases hv : t.kids[i.toNat]? with
      | none => simp [hv] at h
      | some v =>
        rw [hv] at h
        have e := ih v u h hk
        simp only [e]
end Go.Proofs.YtikinofopkjdjaaDoor.TR
namespace Go.Proofs.YtikinofopkjdjaaDoor
open Go.RowKit WM TR

/-- The four cells cs hold the tree t, its rows of kids in blocks of their own from lo to hi. -/
def Lin (w : World) : Nat → Nat → Nat → T → List Value → Prop
  | 0, _, _, _, _ => False
  | d + 1, lo, hi, t, cs => ∃ (A : Option Addr) (c g : Nat) (ys : List Value) (iv : Nat → Nat), cs = nd t A c ∧ t.kids.length ≤ c ∧ (inRange t.k ∧ inRange t.n ∧ inRange t.m) ∧ ys.length = t.kids.length * 4 ∧
      (0 < t.kids.length → A = some ⟨g, 0, none⟩ ∧ Blk w g 26 ys.toArray ∧ lo ≤ g ∧ g < iv 0) ∧ lo ≤ iv 0 ∧ iv t.kids.length ≤ hi ∧ (∀ i, iv i ≤ iv (i + 1)) ∧
      ∀ i u, t.kids[i]? = some u → Lin w d (iv i) (iv (i + 1)) u ((ys.drop (i * 4)).take 4)
theorem iv_le {iv : Nat → Nat} (h : ∀ i, iv i ≤ iv (i + 1)) {i j : Nat} (hij : i ≤ j) : iv i ≤ iv j := by
  induction hij with
  | refl => exact Nat.le_refl _
  | step _ ih => exact Nat.le_trans ih (h _)
section
variable {w w' : World}
theorem Lin.keep : ∀ {d lo hi : Nat} {t : T} {cs : List Value}, (∀ b, lo ≤ b → b < hi → w'.heap[b]? = w.heap[b]?) → Lin w d lo hi t cs → Lin w' d lo hi t cs
  | 0, _, _, _, _, _, h => h
  | d + 1, lo, hi, t, cs, hk, ⟨A, c, g, ys, iv, h1, h2, h3, h4, h5, h6, h7, h8, h9⟩ => by
    refine ⟨A, c, g, ys, iv, h1, h2, h3, h4, fun hl => ?_, h6, h7, h8, fun i u hu => ?_⟩
    · obtain ⟨e, hb, hlo, hg⟩ := h5 hl
      have := iv_le h8 (Nat.zero_le t.kids.length)
      exact ⟨e, (hk g hlo (by omega)).trans hb, hlo, hg⟩
    · have hi' := (List.getElem?_eq_some_iff.1 hu).1
      have e1 := iv_le h8 (Nat.zero_le i)
      have e2 := iv_le h8 (show i + 1 ≤ t.kids.length by omega)
      exact Lin.keep (fun b hb1 hb2 => hk b (by omega) (by omega)) (h9 i u hu)
theorem Lin.mono : ∀ {d lo hi lo' hi' : Nat} {t : T} {cs : List Value}, lo' ≤ lo → hi ≤ hi' → Lin w d lo hi t cs → Lin w d lo' hi' t cs
  | 0, _, _, _, _, _, _, _, _, h => h
  | _ + 1, _, _, _, _, _, _, hl, hh, ⟨A, c, g, ys, iv, h1, h2, h3, h4, h5, h6, h7, h8, h9⟩ =>
    ⟨A, c, g, ys, iv, h1, h2, h3, h4, fun h => (let ⟨e, hb, hlo, hg⟩ := h5 h; ⟨e, hb, Nat.le_trans hl hlo, hg⟩), Nat.le_trans hl h6, Nat.le_trans h7 hh, h8, h9⟩
theorem Lin.rep : ∀ {d lo hi : Nat} {t : T} {cs : List Value}, Lin w d lo hi t cs → Rep w (fun b => lo ≤ b ∧ b < hi) d t cs
  | 0, _, _, _, _, h => h
  | d + 1, lo, hi, t, cs, ⟨A, c, g, ys, iv, h1, h2, h3, h4, h5, h6, h7, h8, h9⟩ => by
    refine ⟨A, c, ys, h1, h2, h3, ⟨h4, fun hl => ?_⟩, fun i u hu => ?_⟩
    · obtain ⟨e, hb, hlo, hg⟩ := h5 hl
      have := iv_le h8 (Nat.zero_le t.kids.length)
      refine ⟨_, e, ⟨hlo, by show g < hi; omega⟩, fun j v hv => ?_⟩
      rw [Addr.add_lit, Nat.zero_add]
      exact (hb.cell j).trans (by simpa using hv)
    · have hi' := (List.getElem?_eq_some_iff.1 hu).1
      have e1 := iv_le h8 (Nat.zero_le i)
      have e2 := iv_le h8 (show i + 1 ≤ t.kids.length by omega)
      exact (Lin.rep (h9 i u hu)).mono fun b hb => ⟨by omega, by omega⟩
theorem Lin.length {d lo hi : Nat} {t : T} {cs : List Value} (h : Lin w d lo hi t cs) : cs.length = 4 := h.rep.length
end
/-- The cells ys hold the trees ts, in intervals one behind the other. -/
def Lins (w : World) (d lo hi : Nat) (ts : List T) (ys : List Value) : Prop :=
  ys.length = ts.length * 4 ∧ ∃ iv : Nat → Nat, lo ≤ iv 0 ∧ iv ts.length ≤ hi ∧ (∀ i, iv i ≤ iv (i + 1)) ∧ ∀ i u, ts[i]? = some u → Lin w d (iv i) (iv (i + 1)) u ((ys.drop (i * 4)).take 4)
section
variable {w w' : World} {d lo hi : Nat} {ts : List T} {ys cs : List Value} {t : T}
theorem Lins.nil (h : lo ≤ hi) : Lins w d lo hi [] [] := ⟨rfl, fun _ => lo, Nat.le_refl _, h, fun _ => Nat.le_refl _, fun i u hu => by simp at hu⟩
theorem Lins.keep (h : Lins w d lo hi ts ys) (hk : ∀ b, lo ≤ b → b < hi → w'.heap[b]? = w.heap[b]?) : Lins w' d lo hi ts ys := by
  obtain ⟨h1, iv, h2, h3, h4, h5⟩ := h
  refine ⟨h1, iv, h2, h3, h4, fun i u hu => ?_⟩
  have hi' := (List.getElem?_eq_some_iff.1 hu).1
  have e1 := iv_le h4 (Nat.zero_le i)
  have e2 := iv_le h4 (show i + 1 ≤ ts.length by omega)
  exact (h5 i u hu).keep fun b hb1 hb2 => hk b (by omega) (by omega)
theorem Lins.snoc {hi2 : Nat} (h : Lins w d lo hi ts ys) (hr : Lin w d hi hi2 t cs) (hh : hi ≤ hi2) : Lins w d lo hi2 (ts ++ [t]) (ys ++ cs) := by
  obtain ⟨h1, iv, h2, h3, h4, h5⟩ := h
  have hl := hr.length
  refine ⟨by rw [List.length_append, List.length_append, h1, hl, List.length_singleton]; omega, fun i => if i ≤ ts.length then iv i else hi2, by simpa using h2, ?_, fun i => ?_, fun i u hu => ?_⟩
  · rw [List.length_append, List.length_singleton]
    show (if ts.length + 1 ≤ ts.length then _ else hi2) ≤ hi2
    rw [if_neg (by omega)]
    exact Nat.le_refl _
  · show (if i ≤ ts.length then iv i else hi2) ≤ (if i + 1 ≤ ts.length then iv (i + 1) else hi2)
    by_cases h6 : i + 1 ≤ ts.length
    · rw [if_pos (by omega), if_pos h6]; exact h4 i
    · rw [if_neg h6]
      split
      · have := iv_le h4 (show i ≤ ts.length by assumption); omega
      · exact Nat.le_refl _
  · show Lin w d (if i ≤ ts.length then iv i else hi2) (if i + 1 ≤ ts.length then iv (i + 1) else hi2) u _
    by_cases hi3 : i < ts.length
    · rw [List.getElem?_append_left hi3] at hu
      rw [if_pos (by omega), if_pos (by omega), List.drop_append_of_le_length (by rw [h1]; omega), List.take_append_of_le_length (by rw [List.length_drop, h1]; omega)]
      exact h5 i u hu
    · rw [List.getElem?_append_right (by omega)] at hu
      have hi2' : i - ts.length = 0 := by
        have := (List.getElem?_eq_some_iff.1 hu).1
        simp at this; omega
      rw [hi2'] at hu
      simp only [List.getElem?_cons_zero, Option.some.injEq] at hu
      subst hu
      have hie : i = ts.length := by omega
      subst hie
      rw [if_pos (Nat.le_refl _), if_neg (by omega), ← h1, List.drop_left, ← hl, List.take_length]
      exact hr.mono h3 (Nat.le_refl _)
theorem Lin.mk {k n m : Int} (hk : inRange k ∧ inRange n ∧ inRange m) {g c : Nat} (hc : ts.length ≤ c) (hb : Blk w g 26 ys.toArray) (hlo : lo ≤ g) (hs : Lins w d (g + 1) hi ts ys) : Lin w (d + 1) lo hi ⟨k, n, m, ts⟩ (nd ⟨k, n, m, ts⟩ (some ⟨g, 0, none⟩) c) := by
  obtain ⟨h1, iv, h2, h3, h4, h5⟩ := hs
  exact ⟨_, c, g, ys, iv, rfl, hc, hk, h1, fun _ => ⟨rfl, hb, hlo, by omega⟩, by omega, h3, h4, h5⟩
theorem Lin.leaf {k n m : Int} (hk : inRange k ∧ inRange n ∧ inRange m) (c : Nat) (h : lo ≤ hi) : Lin w (d + 1) lo hi ⟨k, n, m, []⟩ (nd ⟨k, n, m, []⟩ none c) :=
  ⟨none, c, 0, [], fun _ => lo, rfl, Nat.zero_le _, hk, rfl, fun h => absurd h (by simp), Nat.le_refl _, h, fun _ => Nat.le_refl _, fun i u hu => by simp at hu⟩
end

/-- What is read of cells alone stays while the cells stay. -/
theorem Rd.cells {w w' : World} {S : Nat → Prop} {size n : Nat} {A : Option Addr} {xs : List Value} (hk : ∀ p : Addr, S p.block → w'.cell? p = w.cell? p) (h : Rd w S size A n xs) : Rd w' S size A n xs :=
  ⟨h.1, fun hn => by
    obtain ⟨ad, e, hb, hc⟩ := h.2 hn
    exact ⟨ad, e, hb, fun j u hu => (hk (ad.add j) (by rw [block_of_add]; exact hb)).trans (hc j u hu)⟩⟩
theorem Rep.cells {w w' : World} {S : Nat → Prop} (hk : ∀ p : Addr, S p.block → w'.cell? p = w.cell? p) : ∀ {d : Nat} {t : T} {cs : List Value}, Rep w S d t cs → Rep w' S d t cs
  | 0, _, _, h => h
  | _ + 1, _, _, ⟨A, c, xs, h1, h2, h3, h4, h5⟩ => ⟨A, c, xs, h1, h2, h3, Rd.cells hk h4, fun i u hu => Rep.cells hk (h5 i u hu)⟩

/-- In the world w, where the box b0 holds the tree t, its rows from lo to hi: the node u at the place q lies at b, o; what is put there is put at the place. -/
structure Foc (w : World) (b0 lo hi : Nat) (t : T) (q : List Int) (u : T) (b o lo' hi' d : Nat) (row : List Value) : Prop where
  sub : at? q t = some u
  blk : Blk w b 26 row.toArray
  fit : o + 4 ≤ row.length
  lin : Lin w d lo' hi' u ((row.drop o).take 4)
  here : b = b0 ∨ (lo ≤ b ∧ b < hi)
  out : ¬ (lo' ≤ b ∧ b < hi')
  low : lo ≤ lo'
  high : hi' ≤ hi
  back : ∀ (w2 : World) (x : T) (cs : List Value) (D : Nat) (S : Nat → Prop),
    (∀ p : Addr, (p.block = b0 ∨ (lo ≤ p.block ∧ p.block < hi)) → ¬ (lo' ≤ p.block ∧ p.block < hi') → (p.block = b → p.off < o ∨ o + 4 ≤ p.off) → w2.cell? p = w.cell? p) →
    (∀ i v, cs[i]? = some v → w2.cell? ⟨b, o + i, none⟩ = some v) → Rep w2 S D x cs →
    ∃ cs0 D0 t', set? q t x = some t' ∧ (∀ i v, cs0[i]? = some v → w2.cell? ⟨b0, 0 + i, none⟩ = some v) ∧ Rep w2 (fun c => (lo ≤ c ∧ c < hi) ∨ S c) D0 t' cs0
theorem Foc.root {w : World} {b0 lo hi d : Nat} {t : T} {A : Option Addr} {c : Nat} (hb : Blk w b0 26 (nd t A c).toArray) (hl : Lin w d lo hi t (nd t A c)) (ho : ¬ (lo ≤ b0 ∧ b0 < hi)) : Foc w b0 lo hi t [] t b0 0 lo hi d (nd t A c) :=
  ⟨rfl, hb, Nat.le_refl _, by simpa [nd] using hl, .inl rfl, ho, Nat.le_refl _, Nat.le_refl _, fun w2 x cs D S _ hc hr => ⟨cs, D, x, rfl, hc, hr.mono fun b hb => .inr hb⟩⟩
theorem seg_get {l : List Value} {o : Nat} {cs : List Value} (hf : o + cs.length ≤ l.length) (i : Nat) : (seg l o cs)[i]? = if i < o then l[i]? else if i < o + cs.length then cs[i - o]? else l[i]? := by
  unfold seg
  rw [List.append_assoc]
  by_cases h1 : i < o
  · rw [if_pos h1, List.getElem?_append_left (by rw [List.length_take]; omega), List.getElem?_take, if_pos h1]
  · rw [if_neg h1, List.getElem?_append_right (by rw [List.length_take]; omega), List.length_take, Nat.min_eq_left (by omega)]
    by_cases h2 : i < o + cs.length
    · rw [if_pos h2, List.getElem?_append_left (by omega)]
    · rw [if_neg h2, List.getElem?_append_right (by omega), List.getElem?_drop]
      congr 1
      omega
theorem Foc.next {w : World} {b0 lo hi : Nat} {t : T} {q : List Int} {u k : T} {b o lo' hi' d : Nat} {row : List Value} (h : Foc w b0 lo hi t q u b o lo' hi' (d + 1) row) {j : Nat} (hk : u.kids[j]? = some k) :
    ∃ (g c lo2 hi2 : Nat) (ys : List Value), (row.drop o).take 4 = nd u (some ⟨g, 0, none⟩) c ∧ Foc w b0 lo hi t (q ++ [(j : Int)]) k g (j * 4) lo2 hi2 d ys := by
  obtain ⟨A, c, g, ys, iv, h1, h2, h3, h4, h5, h6, h7, h8, h9⟩ := h.lin
  have hj := (List.getElem?_eq_some_iff.1 hk).1
  obtain ⟨rfl, hb, hlo, hg⟩ := h5 (by omega)
  have e1 := iv_le h8 (Nat.zero_le j)
  have e2 := iv_le h8 (show j + 1 ≤ u.kids.length by omega)
  have e3 := h8 j
  have hlow := h.low
  have hhigh := h.high
  have hout := h.out
  refine ⟨g, c, iv j, iv (j + 1), ys, h1, ?_⟩
  refine ⟨by rw [at_snoc q j t u h.sub, hk], hb, by rw [h4]; omega, h9 j k hk, .inr ⟨by omega, by omega⟩, by omega, by omega, by omega, ?_⟩
  intro w2 x cs D S hw hc hr
  have hcl := hr.length
  have hgb : g ≠ b := fun e => hout ⟨by omega, by omega⟩
  have hxs : ∀ i v, (nd u (some ⟨g, 0, none⟩) c)[i]? = some v → w2.cell? ⟨b, o + i, none⟩ = some v := by
    intro i v hv
    rw [hw ⟨b, o + i, none⟩ h.here (by show ¬ (iv j ≤ b ∧ b < iv (j + 1)); omega) (fun e => absurd e.symm hgb), h.blk.cell (o + i)]
    rw [← h1, List.getElem?_take] at hv
    split at hv
    · rw [List.getElem?_drop] at hv
      simpa using hv
    · cases hv
  have hsl : (seg ys (j * 4) cs).length = ys.length := seg_length (by rw [hcl, h4]; omega)
  have hrow : ∀ i v, (seg ys (j * 4) cs)[i]? = some v → w2.cell? ⟨g, i, none⟩ = some v := by
    intro i v hv
    rw [seg_get (by rw [hcl, h4]; omega)] at hv
    have keep : (i < j * 4 ∨ j * 4 + 4 ≤ i) → ys[i]? = some v → w2.cell? ⟨g, i, none⟩ = some v := fun ho hy => by
      rw [hw ⟨g, i, none⟩ (.inr ⟨by show lo ≤ g; omega, by show g < hi; omega⟩) (by show ¬ (iv j ≤ g ∧ g < iv (j + 1)); omega) (fun _ => ho), hb.cell i]
      simpa using hy
    split at hv
    · exact keep (.inl (by assumption)) hv
    · split at hv
      · have := hc (i - j * 4) v hv
        have e : j * 4 + (i - j * 4) = i := by omega
        rwa [e] at this
      · exact keep (.inr (by rw [hcl] at *; omega)) hv
  -- the node with the kid put
  have hnd : nd u (some ⟨g, 0, none⟩) c = nd ⟨u.k, u.n, u.m, u.kids.set j x⟩ (some ⟨g, 0, none⟩) c := by simp [nd]
  have hrep : ∃ D2, Rep w2 (fun c => (lo' ≤ c ∧ c < hi') ∨ S c) D2 ⟨u.k, u.n, u.m, u.kids.set j x⟩ (nd u (some ⟨g, 0, none⟩) c) := by
    refine ⟨max d D + 1, some ⟨g, 0, none⟩, c, seg ys (j * 4) cs, hnd, by simpa using h2, h3, ⟨by rw [hsl, h4, List.length_set], fun _ => ⟨_, rfl, .inl ⟨hlo, by show g < hi'; omega⟩, fun i v hv => ?_⟩⟩, ?_⟩
    · rw [Addr.add_lit, Nat.zero_add]
      exact hrow i v hv
    · intro i v hv
      rw [List.getElem?_set] at hv
      by_cases hij : j = i
      · subst hij
        rw [if_pos rfl, if_pos hj] at hv
        have e := Option.some.inj hv
        subst e
        have e : ((seg ys (j * 4) cs).drop (j * 4)).take 4 = cs := by
          apply List.ext_getElem?
          intro i
          rw [List.getElem?_take]
          by_cases hi4 : i < 4
          · rw [if_pos hi4, List.getElem?_drop, seg_get (by rw [hcl, h4]; omega), if_neg (by omega), if_pos (by omega)]
            congr 1
            omega
          · rw [if_neg hi4, List.getElem?_eq_none (by omega)]
        rw [e]
        exact (hr.mono fun b hb => .inr hb).deeper (Nat.le_max_right _ _)
      · rw [if_neg hij] at hv
        have hi' := (List.getElem?_eq_some_iff.1 hv).1
        have f1 := iv_le h8 (Nat.zero_le i)
        have f2 := iv_le h8 (show i + 1 ≤ u.kids.length by omega)
        have f3 : i < j ∨ j < i := by omega
        have f4 : i < j → iv (i + 1) ≤ iv j := fun h => iv_le h8 h
        have f5 : j < i → iv (j + 1) ≤ iv i := fun h => iv_le h8 h
        have e : ((seg ys (j * 4) cs).drop (i * 4)).take 4 = (ys.drop (i * 4)).take 4 := by
          apply List.ext_getElem?
          intro n
          rw [List.getElem?_take, List.getElem?_take]
          by_cases hn4 : n < 4
          · rw [if_pos hn4, if_pos hn4, List.getElem?_drop, List.getElem?_drop, seg_get (by rw [hcl, h4]; omega)]
            rcases f3 with hlt | hlt
            · rw [if_pos (by omega)]
            · rw [if_neg (by omega), if_neg (by omega)]
          · rw [if_neg hn4, if_neg hn4]
        rw [e]
        have hl := (h9 i v hv).rep
        refine Rep.deeper (Nat.le_max_left d D) (Rep.mono (S := fun b => iv i ≤ b ∧ b < iv (i + 1)) (fun b hb => .inl ⟨by omega, by omega⟩) ?_)
        refine Rep.cells ?_ hl
        intro p hp
        refine hw p (.inr ⟨by omega, by omega⟩) ?_ (fun e => ?_)
        · rcases f3 with hlt | hlt
          · have := f4 hlt; omega
          · have := f5 hlt; omega
        · omega
  obtain ⟨D2, hrep⟩ := hrep
  have hw3 : ∀ p : Addr, (p.block = b0 ∨ (lo ≤ p.block ∧ p.block < hi)) → ¬ (lo' ≤ p.block ∧ p.block < hi') → (p.block = b → p.off < o ∨ o + 4 ≤ p.off) → w2.cell? p = w.cell? p := fun p hp hn _ =>
    hw p hp (fun e => hn ⟨by omega, by omega⟩) (fun e => absurd ⟨by omega, by omega⟩ hn)
  obtain ⟨cs0, D0, t', hs0, hc0, hr0⟩ := h.back w2 ⟨u.k, u.n, u.m, u.kids.set j x⟩ (nd u (some ⟨g, 0, none⟩) c) D2 _ hw3 hxs hrep
  · refine ⟨cs0, D0, t', by rw [set_snoc q j x k t u h.sub hk]; exact hs0, hc0, hr0.mono fun b hb => ?_⟩
    rcases hb with hb | hb | hb
    · exact .inl hb
    · exact .inl ⟨by omega, by omega⟩
    · exact .inr hb
end Go.Proofs.YtikinofopkjdjaaDoor
