/-
  The reference's read, at every depth.
-/
import Derived.Test.YtikinofopkjdjaaDoorG35
import Derived.Test.YtikinofopkjdjaaDoorG36
set_option linter.unusedVariables false
namespace Go.Proofs.YtikinofopkjdjaaDoor
open Go.RowKit WM TR

/-- The contract of read at a depth. -/
def ReadC (d : Nat) : Prop := ∀ (A : Option Addr) (c : Nat) (l : List UInt8) (w : World), Reads w w.heap.size 1 A l.length (bs l) → l.length ≤ c → l.length ≤ 1000000 → ∀ D : Int, D = (d : Int) → d ≤ 1000 →
  Calls Tryd.prog 49 #[.slice A l.length c, .int .i64 D] w (ReadPost d (decD d l) w)
theorem read_zero : ReadC 0 := fun A c l w ha hlc hl D hD _ => read_short 0 A c l w ha hlc hl D (fun _ _ _ => .inr hD)

set_option maxRecDepth 100000 in
set_option maxHeartbeats 8000000 in
theorem read_step (d : Nat) (ih : ReadC d) : ReadC (d + 1) := by
  intro A c l w ha hlc hl D hD hd1
  by_cases hex : ∃ k n m q u, gElems 1 gInt l = .ok [k, n, m, q] u
  · obtain ⟨k, n, m, q, u, hgi⟩ := hex
    obtain ⟨i0, hi, hz0, hz1, hz2⟩ := info_parts node_info
    have hDp : (D == 0) = false := by simp; omega
    have hDw : IntKind.i64.wrap (D - 1) = D - 1 := by rw [IntKind.wrap_i64]; omega
    obtain ⟨r, hr⟩ : ∃ r, r = w.heap.size := ⟨_, rfl⟩
    have HRR := Lib.hid hr
    obtain ⟨W1, hW1⟩ : ∃ W1, W1 = w.alloc (.cells #[.int .i64 0, .int .i64 0, .int .i64 0, .slice none 0 0] 26) := ⟨_, rfl⟩
    have HZ : Hid (Blk W1 r 26 #[.int .i64 0, .int .i64 0, .int .i64 0, .slice none 0 0]) := Lib.hid (by rw [hW1, hr]; exact Blk.new _ _ _)
    have HB1 : Hid (Below w.heap.size w W1) := Lib.hid (by rw [hW1]; exact below_new _ _)
    have HA : Hid (∀ W, Below w.heap.size w W → Reads W W.heap.size 1 A l.length (bs l)) := Lib.hid (fun W h => (ha.below h).more h.size)
    have HC := Lib.hid (refGetInts A c l W1 (HA.out W1 HB1.out) hlc hl)
    obtain ⟨hu, hin⟩ := gElems_le hgi
    obtain ⟨o, ho⟩ : ∃ o, decD (d + 1) l = o := ⟨_, rfl⟩
    have hok : o = bodyD (decD d) l u [k, n, m, q] := by rw [← ho]; simp only [decD, hgi]
    obtain ⟨n0, hn0⟩ : ∃ n, n = l.length := ⟨_, rfl⟩
    rw [ho]
    have HIH := Lib.hid ih
    have HDD := Lib.hid hD
    have HN0 := Lib.hid hn0
    have HL : Hid (l.length ≤ 1000000) := Lib.hid hl
    have HU : Hid (u ≤ l.length) := Lib.hid hu
    rw [← hn0] at hlc hl ⊢
    have HW1 := Lib.hid hW1
    rw [hgi] at HC
    have hrk := hin k (by simp); have hrn := hin n (by simp); have hrm := hin m (by simp); have hrq := hin q (by simp)
    have HRK := Lib.hid hrk; have HRN := Lib.hid hrn; have HRM := Lib.hid hrm
    have hqr1 := hrq.1; have hqr2 := hrq.2
    have hu2 : u ≤ n0 := by omega
    clear hgi ho ha hW1 ih hin hr hrk hrn hrm hrq hu hn0 hD
    go_enter Tryd.func49, Tryd.ntmps49
    go_upto_region 1 with fail
    rw [← HW1.out, ← HRR.out]
    go_upto_region 4 with (go_at_call 77; rw [HN0.out]; refine HC.out.mono ?_; rintro e w2 ⟨A2, c2, rfl, hown2, hb2⟩; have HO2 := Lib.hid hown2; have HZ2 := Lib.hid (HZ.out.below hb2 HZ.out.lt); have HB12 := Lib.hid hb2; have HB2 := Lib.hid (bt HB1.out hb2); rw [← HN0.out]; clear hb2 hown2)
    obtain ⟨g2, cc2, hv2⟩ := ownsRow_succ (k := 3) HO2.out
    cases hv2
    have x0 := HO2.out.cellAt 0 (by simp); have x1 := HO2.out.cellAt 1 (by simp); have x2 := HO2.out.cellAt 2 (by simp); have x3 := HO2.out.cellAt 3 (by simp)
    simp only [List.flatMap_cons, List.flatMap_nil, List.append_nil, List.cons_append, List.nil_append, List.getElem?_cons_zero, List.getElem?_cons_succ] at x0 x1 x2 x3
    have y0 : w2.drew.cell? ⟨g2, 0, none⟩ = some (.int .i64 k) := x0
    have y1 : w2.drew.cell? ⟨g2, 1, none⟩ = some (.int .i64 n) := x1
    have y2 : w2.drew.cell? ⟨g2, 2, none⟩ = some (.int .i64 m) := x2
    have hg2 : g2 < w2.heap.size := (HO2.out.lt g2 rfl).2
    have hzw := HZ2.out
    go_region
    obtain ⟨g, hg⟩ : ∃ g, g = w2.heap.size := ⟨_, rfl⟩
    obtain ⟨W6, hW6⟩ : ∃ W, W = (w2.alloc (.cells #[.int .i64 k, .int .i64 n, .int .i64 m, .slice none 0 0] 26)).drew := ⟨_, rfl⟩
    have hB6 : Below w2.heap.size w2 W6 := by rw [hW6]; exact (below_new w2 _).drew
    have HD6 : Hid (DecR g d k n m w2 W6 (.slice none 0 0) [] []) := Lib.hid ⟨hB6, by rw [hW6, hg]; exact (Blk.new _ _ _).drew, World.ownsRow_nil _ _ _ _, Reps.nil, by omega⟩
    have X3 : Hid (∀ W, Below w2.heap.size w2 W → W.cell? ⟨g2, 3, none⟩ = some (.int .i64 q)) := Lib.hid (fun W h => (h.cell (p := ⟨g2, 3, none⟩) hg2).trans x3)
    have x36 := X3.out W6 hB6
    have hz6 := HZ2.out.below hB6 HZ2.out.lt
    have HZ6 := Lib.hid hz6
    have HB6 : Hid (Below w.heap.size w W6) := Lib.hid (bt HB2.out hB6)
    have hrg : r < g := by have := HZ2.out.lt; omega
    have hrw2 : r < w2.heap.size := HZ2.out.lt
    have hN6 : Blk W6 g 26 #[.int .i64 k, .int .i64 n, .int .i64 m, .slice none 0 0] := HD6.out.node
    rw [← hW6, ← hg]
    clear hW6 hg hB6 x0 x1 x2 x3 y0 y1 y2 hg2 hzw
    by_cases c1 : q < 0
    · have d1 : decide (q < 0) = true := by simpa using c1
      have HR : Hid (o = none) := Lib.hid (by rw [hok, bodyD_four, if_pos (.inl c1)])
      have HLG : Hid (∀ i z, ([.int .i64 k, .int .i64 n, .int .i64 m, .slice none 0 0] : List Value)[i]? = some z → W6.cell? ⟨g, 0 + i, none⟩ = some z) := Lib.hid (by
        intro i z hz
        rw [hN6.cell (0 + i), Nat.zero_add]; simpa using hz)
      have z0 := hz6.cell 0; have z1 := hz6.cell 1; have z2 := hz6.cell 2; have z3 := hz6.cell 3; have f0 := hz6.frozen 0; have f1 := hz6.frozen 1; have f2 := hz6.frozen 2; have f3 := hz6.frozen 3; simp only [List.getElem?_toArray, List.getElem?_cons_zero, List.getElem?_cons_succ] at z0 z1 z2 z3
      clear hok hz6 hN6
      go_wp2_with (refine wpList_load_mid rfl 26 (.tmp 9) rfl g 0 rfl [.int .i64 k, .int .i64 n, .int .i64 m, .slice none 0 0] _ HLG.out Tryd.underlying26 rfl (by rw [size_node]; rfl) ?_)
      refine bodyPost_ret (v := .tuple #[.agg #[.int .i64 k, .int .i64 n, .int .i64 m, .slice none 0 0], .int .i64 (-1)]) (by simp [results, Tryd.results49, go_sem, z0, z1, z2, z3]) rfl ?_
      rw [HR.out]
      exact ⟨_, _, _, _, _, _, rfl, put4_below HB6.out _ _ _ _ (by have := HRR.out; omega)⟩
    have d1 : decide (q < 0) = false := by simpa using c1
    obtain ⟨qn, rfl⟩ := Int.eq_ofNat_of_zero_le (show 0 ≤ q by omega)
    have HOK : Hid (o = match manyD (decD d) l qn u with
      | none => none
      | some (ts, v) => some (⟨k, n, m, ts⟩, v)) := Lib.hid (by
        rw [hok, bodyD_any (by omega) HU.out HL.out, Int.toNat_natCast]
        cases manyD (decD d) l qn u <;> rfl)
    have HS6 : Hid (DecR g d k n m w2 W6 (.slice none 0 0) [] [] ∧ manyD (decD d) l qn u = prep [] (manyD (decD d) l (qn - 0) u)) := Lib.hid ⟨HD6.out, by rw [prep_nil]; rfl⟩
    clear hok hz6 c1 hN6
    go_wp2_with fail
    go_loopw [7, 10] (fun s7 i wr => ∃ (ts : List T) (v : Value) (xs : List Value) (uj : Nat), ts.length ≤ qn ∧ 6 * ts.length ≤ uj ∧ uj ≤ n0 ∧ i = .int .i64 (ts.length : Int) ∧ s7 = .int .i64 (uj : Int) ∧ Hid (DecR g d k n m w2 wr v ts xs ∧ manyD (decD d) l qn u = prep ts (manyD (decD d) l (qn - ts.length) uj))) (fun _ i _ => qn - (intOf i).toNat)
    case atStart => exact ⟨[], _, [], u, Nat.zero_le _, by simp, hu2, rfl, rfl, HS6.out⟩
    case round =>
      clear HS6 x36
      obtain ⟨ts, v, xs, uj, hjq, hj6, huj, rfl, rfl, HX⟩ := hrel
      obtain ⟨j, hj⟩ : ∃ j, ts.length = j := ⟨_, rfl⟩
      have HTS := Lib.hid hj
      rw [hj] at hjq hj6 ⊢
      have HBW : Hid (Below w.heap.size w wr) := Lib.hid (bt HB2.out HX.out.1.below)
      have x3w := X3.out wr HX.out.1.below
      clear hj
      by_cases hlt : j < qn
      · have hlt2 : (j : Int) < (qn : Int) := by omega
        have hlt3 : decide ((j : Int) < (qn : Int)) = true := by simpa using hlt
        obtain ⟨Ac, hAc, hcut⟩ := cut_l A n0 c uj huj
        have hrd : Reads wr wr.heap.size 1 Ac (l.drop uj).length (bs (l.drop uj)) := by
          have h := reads_part (HA.out wr HBW.out) hAc (show uj + (l.length - uj) ≤ l.length by have := HN0.out; omega) (by have := HN0.out; omega)
          rw [bs_drop, bs_take, List.take_of_length_le (by simp), show l.length - uj = (l.drop uj).length by simp] at h
          exact h
        have hls : (l.drop uj).length = n0 - uj := by rw [List.length_drop, HN0.out]
        have hC := HIH.out Ac (c - uj) (l.drop uj) wr hrd (by rw [hls]; omega) (by rw [hls]; omega) (D - 1) (by have := HDD.out; omega) (by omega)
        rw [hls] at hC
        obtain ⟨qr, hqr⟩ : ∃ x, qn - j = x + 1 := ⟨qn - j - 1, by omega⟩
        have HXM := HX.out.2
        rw [HTS.out, hqr] at HXM
        have hzr := HZ2.out.below HX.out.1.below HZ2.out.lt
        cases hdk : decD d (l.drop uj) with
        | none =>
          rw [hdk] at hC
          have HC2 := Lib.hid hC
          have HR : Hid (o = none) := Lib.hid (by rw [HOK.out, HXM, prep_none hdk])
          have HZR := Lib.hid hzr
          obtain ⟨A9, c9, hv, hcap⟩ := own_len HX.out.1.own
          subst hv
          clear hC hrd hls hdk hqr HXM hzr hAc hcap
          go_upto_region 12 with (go_at_call 49; refine HC2.out.mono ?_; rintro e w3 ⟨y1, y2, y3, Ay, ly, cy, rfl, hb3⟩; have hz := HZR.out.below hb3 HZR.out.lt; have HZ3 := Lib.hid hz; have HB3 := Lib.hid (bt HBW.out hb3); have HN3 := Lib.hid ((HX.out.1.later hb3).node); clear hb3 hz)
          obtain ⟨W4, hW4⟩ : ∃ W, W = w3.alloc (.cells #[.int .i64 y1, .int .i64 y2, .int .i64 y3, .slice Ay ly cy] 26) := ⟨_, rfl⟩
          have hn4 : Blk W4 g 26 #[.int .i64 k, .int .i64 n, .int .i64 m, .slice A9 ts.length c9] := by rw [hW4]; exact HN3.out.alloc _
          have hz4 : Blk W4 r 26 #[.int .i64 0, .int .i64 0, .int .i64 0, .slice none 0 0] := by rw [hW4]; exact HZ3.out.alloc _
          have HB4 : Hid (Below w.heap.size w W4) := Lib.hid (by rw [hW4]; exact ba HB3.out _)
          have HLG : Hid (∀ i z, ([.int .i64 k, .int .i64 n, .int .i64 m, .slice A9 ts.length c9] : List Value)[i]? = some z → W4.cell? ⟨g, 0 + i, none⟩ = some z) := Lib.hid (by
            intro i z hz
            rw [hn4.cell (0 + i), Nat.zero_add]; simpa using hz)
          have z0 := hz4.cell 0; have z1 := hz4.cell 1; have z2 := hz4.cell 2; have z3 := hz4.cell 3; have f0 := hz4.frozen 0; have f1 := hz4.frozen 1; have f2 := hz4.frozen 2; have f3 := hz4.frozen 3; simp only [List.getElem?_toArray, List.getElem?_cons_zero, List.getElem?_cons_succ] at z0 z1 z2 z3
          rw [← hW4]
          clear hW4 hn4 hz4
          go_wp2_with (refine wpList_load_mid rfl 26 (.tmp 9) rfl g 0 rfl [.int .i64 k, .int .i64 n, .int .i64 m, .slice A9 ts.length c9] _ HLG.out Tryd.underlying26 rfl (by rw [size_node]; rfl) ?_)
          refine bodyPost_ret (v := .tuple #[.agg #[.int .i64 k, .int .i64 n, .int .i64 m, .slice A9 ts.length c9], .int .i64 (-1)]) (by simp [results, Tryd.results49, go_sem, z0, z1, z2, z3]) rfl ?_
          rw [HR.out]
          exact ⟨_, _, _, _, _, _, rfl, put4_below HB4.out _ _ _ _ (by have := HRR.out; omega)⟩
        | some x =>
          obtain ⟨t, kk⟩ := x
          rw [hdk] at hC
          have HC2 := Lib.hid hC
          have hkk := decD_le d _ t kk hdk
          have hk6 : 6 ≤ kk := by
            obtain ⟨_, _, h1, h2, _⟩ := dec_sound d _ t kk (by rw [hls]; omega) hdk
            rw [h1]; exact encT_len h2
          rw [hls] at hkk
          have HNX : Hid (manyD (decD d) l qn u = prep (ts ++ [t]) (manyD (decD d) l (qn - (j + 1)) (uj + kk))) := Lib.hid (by rw [HXM, prep_some hdk, show qn - (j + 1) = qr by omega])
          have hk0 : decide ((kk : Int) < 0) = false := by simp
          clear hC hrd hls hdk hqr HXM hAc hzr
          go_upto_region 13 with (go_at_call 49; refine HC2.out.mono ?_; rintro e w3 ⟨A3, c3, rfl, hr3, hb3⟩; have HR3 := Lib.hid hr3; have HB3 := Lib.hid hb3; clear hr3 hb3)
          obtain ⟨W4, hW4⟩ : ∃ W, W = w3.alloc (.cells #[.int .i64 t.k, .int .i64 t.n, .int .i64 t.m, .slice A3 t.kids.length c3] 26) := ⟨_, rfl⟩
          obtain ⟨gt, hgt⟩ : ∃ x, x = w3.heap.size := ⟨_, rfl⟩
          have HW34 : Hid (Below w3.heap.size w3 W4) := Lib.hid (by rw [hW4]; exact below_new _ _)
          have HLD : Hid (∀ i z, ([.int .i64 t.k, .int .i64 t.n, .int .i64 t.m, .slice A3 t.kids.length c3] : List Value)[i]? = some z → W4.cell? ⟨gt, 0 + i, none⟩ = some z) := Lib.hid (by
            intro i z hz
            have hb : Blk W4 gt 26 #[.int .i64 t.k, .int .i64 t.n, .int .i64 t.m, .slice A3 t.kids.length c3] := by rw [hW4, hgt]; exact Blk.new _ _ _
            rw [hb.cell (0 + i), Nat.zero_add]; simpa using hz)
          have HDW := Lib.hid ((HX.out.1.later HB3.out).later HW34.out)
          have n3 := HDW.out.node.cell 3
          simp only [List.getElem?_toArray, List.getElem?_cons_zero, List.getElem?_cons_succ] at n3
          have HGL : Hid (g + 1 ≤ W4.heap.size) := Lib.hid (Nat.succ_le_of_lt HDW.out.node.lt)
          rw [← hW4, ← hgt]
          clear hW4 hgt
          go_wp2_with (first
            | (refine wpList_load_mid rfl 26 (.tmp 11) rfl gt 0 rfl [.int .i64 t.k, .int .i64 t.n, .int .i64 t.m, .slice A3 t.kids.length c3] _ HLD.out Tryd.underlying26 rfl (by rw [size_node]; rfl) ?_)
            | (at_builtin
               refine wpList_append_any _ rfl (.tmp 66) (.tmp 68) 24 rfl (g + 1) 26 i0 _ 4 48 Tryd.underlying24 hi hz0 hz1 hz2 rfl (by omega) _ ts.length xs rfl (ownsRow_below HDW.out.own (below_new W4 _)) _ (some ⟨W4.heap.size, 0, none⟩) 1 1 (nd t A3 c3) rfl (reads_nd W4 t A3 c3) (nd_one t A3 c3) (len_le (by have := HTS.out; omega)) (by have := HTS.out; omega) (by have := HGL.out; rw [size_alloc]; omega) ?_
               intro v7 w7 hown7 hgrow7 hnew7; obtain ⟨A7, c7, hv7, _⟩ := own_len hown7; subst hv7
               have HO7 := Lib.hid hown7; have HG7 := Lib.hid hgrow7; have HN7 := Lib.hid hnew7
               have HNB : Hid (Blk w7 g 26 #[.int .i64 k, .int .i64 n, .int .i64 m, v]) := Lib.hid ((HDW.out.node.alloc _).grown hgrow7 (fun e => by have := (HX.out.1.own.lt _ e.symm).1; omega))
               have hn77 := HNB.out.cell 3; have f77 := HNB.out.frozen 3; simp only [List.getElem?_toArray, List.getElem?_cons_zero, List.getElem?_cons_succ] at hn77
               clear hown7 hgrow7 hnew7))
          go_roundw
          case rel => exact ⟨ts ++ [t], _, xs ++ nd t A3 c3, uj + kk, by rw [List.length_append, HTS.out]; show j + 1 ≤ qn; omega, by rw [List.length_append, HTS.out]; show 6 * (j + 1) ≤ _; omega, by omega, by rw [List.length_append, HTS.out]; go_num, by go_num, DecR.next HX.out.1 HB3.out HR3.out (bt HW34.out (below_new W4 _)) HO7.out HG7.out HN7.out, by rw [List.length_append, HTS.out]; exact HNX.out⟩
          case measure => simp [intOf]; omega
      · have hjq2 : j = qn := by omega
        have hge : ¬ (j : Int) < (qn : Int) := by omega
        have hge2 : decide ((j : Int) < (qn : Int)) = false := by simp; omega
        obtain ⟨A9, c9, hv, hcap⟩ := own_len HX.out.1.own
        subst hv
        have HRES : Hid (o = some (⟨k, n, m, ts⟩, uj)) := Lib.hid (by
          have h := HX.out.2
          rw [HTS.out, hjq2, Nat.sub_self, prep_end] at h
          rw [HOK.out, h])
        have HREP : Hid (Rep wr (fun b => g < b ∧ b < wr.heap.size) (d + 1) ⟨k, n, m, ts⟩ (nd ⟨k, n, m, ts⟩ A9 c9)) := Lib.hid (HX.out.1.rep hcap HRK.out HRN.out HRM.out)
        have HLG : Hid (∀ i z, ([.int .i64 k, .int .i64 n, .int .i64 m, .slice A9 ts.length c9] : List Value)[i]? = some z → wr.cell? ⟨g, 0 + i, none⟩ = some z) := Lib.hid (by
          intro i z hz
          rw [HX.out.1.node.cell (0 + i), Nat.zero_add]; simpa using hz)
        have hzr := HZ2.out.below HX.out.1.below HZ2.out.lt
        have z0 := hzr.cell 0; have z1 := hzr.cell 1; have z2 := hzr.cell 2; have z3 := hzr.cell 3; have f0 := hzr.frozen 0; have f1 := hzr.frozen 1; have f2 := hzr.frozen 2; have f3 := hzr.frozen 3; simp only [List.getElem?_toArray, List.getElem?_cons_zero, List.getElem?_cons_succ] at z0 z1 z2 z3
        clear hzr hcap hlt hjq2
        go_wp2_with (first
          | (refine wpList_load_mid rfl 26 (.tmp 9) rfl g 0 rfl [.int .i64 k, .int .i64 n, .int .i64 m, .slice A9 ts.length c9] _ HLG.out Tryd.underlying26 rfl (by rw [size_node]; rfl) ?_))
        refine bodyPost_ret (v := .tuple #[.agg #[.int .i64 k, .int .i64 n, .int .i64 m, .slice A9 ts.length c9], .int .i64 (uj : Int)]) (by simp [results, Tryd.results49, go_sem, z0, z1, z2, z3]) rfl ?_
        rw [HRES.out]
        refine ⟨A9, c9, rfl, (put4_rep HREP.out (fun h => by have := h.1; omega) _ _ _ _).mono fun b hb => ?_, put4_below HBW.out _ _ _ _ (by have := HRR.out; omega)⟩
        rw [(gw4 _ _ _ _ _ _).2]
        exact ⟨by have := hb.1; have := HRR.out; omega, hb.2⟩
  · have hd : decD (d + 1) l = none := by
      simp only [decD]
      cases hgi : gElems 1 gInt l with
      | more => rfl
      | form => rfl
      | ok xs u =>
        match xs, hgi with
        | [], _ => rfl
        | [_], _ => rfl
        | [_, _], _ => rfl
        | [_, _, _], _ => rfl
        | [a, b, c, e], h => exact absurd ⟨a, b, c, e, u, h⟩ hex
        | _ :: _ :: _ :: _ :: _ :: _, _ => rfl
    rw [hd]
    refine read_short _ A c l w ha hlc hl D (fun xs u h => .inl fun hx => ?_)
    match xs, hx with
    | [a, b, c, e], _ => exact hex ⟨a, b, c, e, u, h⟩
end Go.Proofs.YtikinofopkjdjaaDoor
