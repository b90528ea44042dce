/-
  Equality of instructions, functions, codes: slices.Equal, slices.EqualFunc, Same.
-/
import Derived.Test.YtbdknncmlcbbpaaDoorG10
import Derived.Laws.StructEq
import Derived.ChangeKeysEq
import Derived.Deep.QuietTactic
import Derived.BigQuiet
set_option linter.unusedVariables false
namespace Go.Proofs.YtbdknncmlcbbpaaDoor
open Go.RowKit WM TR KM

deriving instance DecidableEq for KM.Ins
deriving instance DecidableEq for KM.Fn
theorem neqI (x y : Ins) (W : World) : (binOp .neq 54 (.agg #[.int .i64 x.op, .int .i64 x.a, .int .i64 x.b]) (.agg #[.int .i64 y.op, .int .i64 y.a, .int .i64 y.b])).run Tryd.prog W = .ok (.bool (!decide (x = y))) W := by
  have ht : Tryd.prog.underlying 54 = some (.struct (Tryd.prog.fieldsOf 54)) := by kernel_rfl
  have hp : Tryd.prog.stoodInHeld 54 = false := by kernel_rfl
  have h1 := run_equalIn_struct (P := Tryd.prog) (w := W) 9999 54 #[.int .i64 x.op, .int .i64 x.a, .int .i64 x.b] #[.int .i64 y.op, .int .i64 y.a, .int .i64 y.b] ht hp
  obtain ⟨d, hd⟩ : ∃ d, 9999 = d + 1 := ⟨9998, rfl⟩
  have hu : Tryd.prog.underlying 3 = some (.int .i64) := by kernel_rfl
  have hk : Tryd.prog.plainKey 3 = true := by kernel_rfl
  obtain ⟨f1, f2, f3, hf, n1, n2, n3, t1, t2, t3, o1, o2, o3⟩ : ∃ f1 f2 f3 : Field, (Tryd.prog.fieldsOf 54).toList = [f1, f2, f3] ∧ f1.name ≠ "_" ∧ f2.name ≠ "_" ∧ f3.name ≠ "_" ∧ f1.type = 3 ∧ f2.type = 3 ∧ f3.type = 3 ∧ f1.offset = 0 ∧ f2.offset = 1 ∧ f3.offset = 2 :=
    ⟨{ name := "Op", type := 3, offset := 0, embedded := false, tag := "", byteOffset := 0, pkgPath := "" }, { name := "A", type := 3, offset := 1, embedded := false, tag := "", byteOffset := 8, pkgPath := "" }, { name := "B", type := 3, offset := 2, embedded := false, tag := "", byteOffset := 16, pkgPath := "" }, by kernel_rfl, by decide, by decide, by decide, rfl, rfl, rfl, rfl, rfl, rfl⟩
  have hin : (Op.eqFields 9999 #[.int .i64 x.op, .int .i64 x.a, .int .i64 x.b] #[.int .i64 y.op, .int .i64 y.a, .int .i64 y.b] (Tryd.prog.fieldsOf 54).toList).run Tryd.prog W = .ok (decide (x = y)) W := by
    rw [hf, hd]
    obtain ⟨xo, xa, xb⟩ := x
    obtain ⟨yo, ya, yb⟩ := y
    have P0 : ∀ u v z : Int, (part 3 #[.int .i64 u, .int .i64 v, .int .i64 z] 0).run Tryd.prog W = .ok (.int .i64 u) W := fun u v z => run_part_plain W hk rfl
    have P1 : ∀ u v z : Int, (part 3 #[.int .i64 u, .int .i64 v, .int .i64 z] 1).run Tryd.prog W = .ok (.int .i64 v) W := fun u v z => run_part_plain W hk rfl
    have P2 : ∀ u v z : Int, (part 3 #[.int .i64 u, .int .i64 v, .int .i64 z] 2).run Tryd.prog W = .ok (.int .i64 z) W := fun u v z => run_part_plain W hk rfl
    have PE := fun u v : Int => run_equalIn_int (P := Tryd.prog) W d 3 .i64 .i64 u v hu
    simp only [Op.eqFields, n1, n2, n3, ne_eq, not_false_eq_true, if_true, t1, t2, t3, o1, o2, o3, Sem.run_bind, P0, PE, Result.andThen_ok]
    by_cases e1 : xo = yo <;> by_cases e2 : xa = ya <;> by_cases e3 : xb = yb <;> simp [e1, e2, e3, Sem.run_ite, Sem.run_pure, P1, P2, PE]
  rw [hin] at h1
  simp only [binOp]
  simp [Op.equal, Op.maxDepth, h1]
set_option maxRecDepth 100000 in
set_option maxHeartbeats 4000000 in
theorem eqIns_is (x y : List Ins) (A1 A2 : Option Addr) (c1 c2 : Nat) (w : World) (S : Nat → Prop) (h1 : Rd w S 3 A1 x.length (insCs x)) (h2 : Rd w S 3 A2 y.length (insCs y)) (hin : In S w.heap.size) (hx : x.length ≤ 1000000) :
    Calls Tryd.prog 49 #[.slice A1 x.length c1, .slice A2 y.length c2] w fun e w' => e = .returned (.bool (decide (x = y))) ∧ Below w.heap.size w w' := by
  obtain ⟨n, hn⟩ : ∃ n, x.length = n := ⟨_, rfl⟩
  obtain ⟨m, hm⟩ : ∃ m, y.length = m := ⟨_, rfl⟩
  rw [hn, hm]
  by_cases hnm : n = m
  · subst hnm
    have HX := Lib.hid hn
    have HY := Lib.hid hm
    have H1 := Lib.hid h1
    have H2 := Lib.hid h2
    have HI := Lib.hid hin
    have hnl : n ≤ 1000000 := by rw [← hn]; exact hx
    clear hn hm h1 h2 hin hx
    go_enter Tryd.func49, Tryd.ntmps49
    go_wp2_with fail
    go_loopw [13] (fun s wr => ∃ i : Nat, i ≤ n ∧ s = .int .i64 i ∧ Hid (Below w.heap.size w wr ∧ x.take i = y.take i)) (fun s _ => n - (intOf s).toNat)
    case atStart => exact ⟨0, Nat.zero_le _, rfl, Below.refl _ _, rfl⟩
    case round =>
      obtain ⟨i, hi, rfl, HJ⟩ := hrel
      by_cases hlt : i < n
      · have hlt2 : (i : Int) < n := by omega
        have hib : (0 : Int) ≤ (i : Int) ∧ (i : Int) < (n : Int) := ⟨by omega, hlt2⟩
        obtain ⟨a1, o1, hA1, hs1, hc1⟩ := H1.out.lit (by rw [HX.out]; omega)
        obtain ⟨a2, o2, hA2, hs2, hc2⟩ := H2.out.lit (by rw [HY.out]; omega)
        subst hA1 hA2
        obtain ⟨u, hu⟩ : ∃ u, x[i]? = some u := ⟨_, List.getElem?_eq_getElem (by rw [HX.out]; exact hlt)⟩
        obtain ⟨v, hv⟩ : ∃ v, y[i]? = some v := ⟨_, List.getElem?_eq_getElem (by rw [HY.out]; exact hlt)⟩
        have eu : ∀ j q, (insC u)[j]? = some q → wr.cell? ⟨a1, o1 + i * 3 + j, none⟩ = some q := fun j q hq => by
          have h := hc1 _ _ (insCs_get x i u hu j q hq)
          rw [← Nat.add_assoc] at h
          exact (HJ.out.1.cell (p := ⟨a1, o1 + i * 3 + j, none⟩) (HI.out _ hs1)).trans h
        have ev : ∀ j q, (insC v)[j]? = some q → wr.cell? ⟨a2, o2 + i * 3 + j, none⟩ = some q := fun j q hq => by
          have h := hc2 _ _ (insCs_get y i v hv j q hq)
          rw [← Nat.add_assoc] at h
          exact (HJ.out.1.cell (p := ⟨a2, o2 + i * 3 + j, none⟩) (HI.out _ hs2)).trans h
        obtain ⟨q0, q1, q2⟩ : wr.cell? ⟨a1, o1 + i * 3, none⟩ = some (.int .i64 u.op) ∧ wr.cell? ⟨a1, o1 + i * 3 + 1, none⟩ = some (.int .i64 u.a) ∧ wr.cell? ⟨a1, o1 + i * 3 + 2, none⟩ = some (.int .i64 u.b) := ⟨eu 0 _ rfl, eu 1 _ rfl, eu 2 _ rfl⟩
        obtain ⟨p0, p1, p2⟩ : wr.cell? ⟨a2, o2 + i * 3, none⟩ = some (.int .i64 v.op) ∧ wr.cell? ⟨a2, o2 + i * 3 + 1, none⟩ = some (.int .i64 v.a) ∧ wr.cell? ⟨a2, o2 + i * 3 + 2, none⟩ = some (.int .i64 v.b) := ⟨ev 0 _ rfl, ev 1 _ rfl, ev 2 _ rfl⟩
        obtain ⟨b, hb⟩ : ∃ b, decide (u = v) = b := ⟨_, rfl⟩
        have hne : ∀ W : World, (binOp .neq 54 (.agg #[.int .i64 u.op, .int .i64 u.a, .int .i64 u.b]) (.agg #[.int .i64 v.op, .int .i64 v.a, .int .i64 v.b])).run Tryd.prog W = .ok (.bool (!b)) W := fun W => by rw [neqI, hb]
        have HU := Lib.hid hu
        have HV := Lib.hid hv
        have HB := Lib.hid hb
        clear eu ev hc1 hc2 hs1 hs2 hu hv hb
        go_upto_region 6 with fail
        cases b
        · go_quiet (fail)
          go_wp2_with fail
          go_ret
          have hxy : ¬ x = y := fun e => by
            have h := HU.out
            rw [e, HV.out] at h
            injection h with h
            exact of_decide_eq_false HB.out h.symm
          exact ⟨by rw [decide_eq_false hxy]; rfl, below_drewN HJ.out.1 _⟩
        · go_quiet (fail)
          go_wp2_with fail
          go_roundw
          case rel => exact ⟨i + 1, by omega, by go_num, below_drewN HJ.out.1 _, by rw [List.take_add_one, List.take_add_one, HJ.out.2, HU.out, HV.out, of_decide_eq_true HB.out]⟩
          case measure => simp [intOf]; omega
      · have hie : i = n := by omega
        subst hie
        have hxy : x = y := by
          have := HJ.out.2
          rwa [List.take_of_length_le (by rw [HX.out]; exact Nat.le_refl _), List.take_of_length_le (by rw [HY.out]; exact Nat.le_refl _)] at this
        go_wp2_with fail
        go_ret
        exact ⟨by rw [decide_eq_true hxy]; rfl, HJ.out.1⟩
  · have hxy : ¬ x = y := fun e => hnm (by rw [← hn, ← hm, e])
    have hne : ((n : Int) != (m : Int)) = true := by simp; omega
    rw [decide_eq_false hxy]
    clear h1 h2 hin hn hm
    go_enter Tryd.func49, Tryd.ntmps49
    go_wp2_with fail
    go_ret
    exact ⟨rfl, Below.refl _ _⟩
/-- Equality of functions of code. -/
def sameF (e f : KM.Fn) : Bool := (e.p == f.p && e.w == f.w) && decide (e.body = f.body)
set_option maxRecDepth 100000 in
set_option maxHeartbeats 4000000 in
theorem same1_is (e f : Ent) (w : World) (S : Nat → Prop) (h1 : Rd w S 3 e.A e.body.length (insCs e.body)) (h2 : Rd w S 3 f.A f.body.length (insCs f.body)) (hin : In S w.heap.size) (hx : e.body.length ≤ 1000000) :
    Calls Tryd.prog 48 #[.agg (entC e).toArray, .agg (entC f).toArray] w fun r w' => r = .returned (.bool (sameF e.fn f.fn)) ∧ Below w.heap.size w w' := by
  obtain ⟨p, wd, A1, c1, x⟩ := e
  obtain ⟨p', wd', A2, c2, y⟩ := f
  simp only at h1 h2 hx
  have hsm : sameF (Ent.fn ⟨p, wd, A1, c1, x⟩) (Ent.fn ⟨p', wd', A2, c2, y⟩) = ((p == p' && wd == wd') && decide (x = y)) := rfl
  rw [hsm]
  obtain ⟨z, hz⟩ : ∃ z, z = w.heap.size := ⟨_, rfl⟩
  obtain ⟨n, hn⟩ : ∃ n, x.length = n := ⟨_, rfl⟩
  obtain ⟨m, hm⟩ : ∃ m, y.length = m := ⟨_, rfl⟩
  obtain ⟨W1, hW1⟩ : ∃ W1, W1 = (w.alloc (.cells #[.int .i64 p, .int .i64 wd, .slice A1 n c1, .slice none 0 0] 51)).alloc (.cells #[.int .i64 p', .int .i64 wd', .slice A2 m c2, .slice none 0 0] 51) := ⟨_, rfl⟩
  have hb1 : Below w.heap.size w W1 := by rw [hW1]; exact ba (below_new _ _) _
  have k3 : Blk W1 z 51 #[.int .i64 p, .int .i64 wd, .slice A1 n c1, .slice none 0 0] := by rw [hW1, hz]; exact (Blk.new _ _ _).alloc _
  have k4 : Blk W1 (z + 1) 51 #[.int .i64 p', .int .i64 wd', .slice A2 m c2, .slice none 0 0] := by rw [hW1, hz, ← size_alloc w (.cells #[.int .i64 p, .int .i64 wd, .slice A1 n c1, .slice none 0 0] 51)]; exact Blk.new _ _ _
  obtain ⟨a0, a1, a2⟩ : W1.cell? ⟨z, 0, none⟩ = some (.int .i64 p) ∧ W1.cell? ⟨z, 1, none⟩ = some (.int .i64 wd) ∧ W1.cell? ⟨z, 2, none⟩ = some (.slice A1 n c1) := ⟨k3.cell 0, k3.cell 1, k3.cell 2⟩
  obtain ⟨b0, b1, b2⟩ : W1.cell? ⟨z + 1, 0, none⟩ = some (.int .i64 p') ∧ W1.cell? ⟨z + 1, 1, none⟩ = some (.int .i64 wd') ∧ W1.cell? ⟨z + 1, 2, none⟩ = some (.slice A2 m c2) := ⟨k4.cell 0, k4.cell 1, k4.cell 2⟩
  have hargs : (entC ⟨p, wd, A1, c1, x⟩).toArray = #[.int .i64 p, .int .i64 wd, .slice A1 n c1, .slice none 0 0] := by rw [← hn]; rfl
  have hargs2 : (entC ⟨p', wd', A2, c2, y⟩).toArray = #[.int .i64 p', .int .i64 wd', .slice A2 m c2, .slice none 0 0] := by rw [← hm]; rfl
  rw [hargs, hargs2]
  obtain ⟨q, hq⟩ : ∃ q, decide (x = y) = q := ⟨_, rfl⟩
  have FE : Hid (Calls Tryd.prog 49 #[.slice A1 n c1, .slice A2 m c2] W1 fun e w' => e = .returned (.bool q) ∧ Below W1.heap.size W1 w') := Lib.hid (by
    rw [← hq, ← hn, ← hm]
    exact eqIns_is x y A1 A2 c1 c2 W1 S (h1.keep (Keeps.below hin hb1)) (h2.keep (Keeps.below hin hb1)) (hin.more hb1.size) hx)
  rw [hq]
  obtain ⟨r, hr⟩ : ∃ r, r = ((p == p' && wd == wd') && q) := ⟨_, rfl⟩
  rw [← hr]
  have HR := Lib.hid hr
  clear hr
  have HB1 := Lib.hid hb1
  have HW1 := Lib.hid hW1
  have HZ := Lib.hid hz
  clear hb1 hW1 hz k3 k4 hargs hargs2 h1 h2 hin hx hn hm hq hsm
  go_enter Tryd.func48, Tryd.ntmps48
  go_upto_region 1 with fail
  have e11 : (w.alloc (.cells #[.int .i64 p, .int .i64 wd, .slice A1 n c1, .slice none 0 0] 51)).heap.size = z + 1 := by rw [HZ.out]; simp
  try rw [e11]
  rw [← HW1.out]
  try rw [← HZ.out]
  clear e11
  cases e1 : (p == p')
  · go_wp2_with fail
    go_ret
    exact ⟨by rw [HR.out, e1]; rfl, HB1.out⟩
  · cases e2 : (wd == wd')
    · go_wp2_with fail
      go_ret
      exact ⟨by rw [HR.out, e1, e2]; rfl, HB1.out⟩
    · go_wp2_with (go_at_call 49; refine FE.out.mono ?_; rintro e w5 ⟨rfl, hb5⟩)
      go_ret
      exact ⟨by rw [HR.out, e1, e2]; simp, bt HB1.out hb5⟩
set_option maxRecDepth 100000 in
set_option maxHeartbeats 8000000 in
theorem eqFns_is (es fs : List Ent) (A1 A2 : Option Addr) (c1 c2 : Nat) (w : World) (h1 : CoR w (fun b => b < w.heap.size) A1 c1 es) (h2 : CoR w (fun b => b < w.heap.size) A2 c2 fs) :
    Calls Tryd.prog 47 #[.slice A1 es.length c1, .slice A2 fs.length c2, .func (.func 48) #[] #[]] w fun e w' => e = .returned (.bool (decide (es.map Ent.fn = fs.map Ent.fn))) ∧ Below w.heap.size w w' := by
  obtain ⟨n, hn⟩ : ∃ n, es.length = n := ⟨_, rfl⟩
  obtain ⟨m, hm⟩ : ∃ m, fs.length = m := ⟨_, rfl⟩
  rw [hn, hm]
  by_cases hnm : n = m
  · subst hnm
    obtain ⟨r, hr⟩ : ∃ r, r = decide (es.map Ent.fn = fs.map Ent.fn) := ⟨_, rfl⟩
    rw [← hr]
    have HR := Lib.hid hr
    have HX := Lib.hid hn
    have HY := Lib.hid hm
    have H1 := Lib.hid h1
    have H2 := Lib.hid h2
    have hnl : n ≤ 200000 := by rw [← hn]; exact h1.len
    clear hn hm h1 h2 hr
    go_enter Tryd.func47, Tryd.ntmps47
    go_wp2_with fail
    go_loopw [17] (fun s wr => ∃ i : Nat, i ≤ n ∧ s = .int .i64 i ∧ Hid (Below w.heap.size w wr ∧ (es.map Ent.fn).take i = (fs.map Ent.fn).take i)) (fun s _ => n - (intOf s).toNat)
    case atStart => exact ⟨0, Nat.zero_le _, rfl, Below.refl _ _, rfl⟩
    case round =>
      obtain ⟨i, hi, rfl, HJ⟩ := hrel
      by_cases hlt : i < n
      · have hlt2 : (i : Int) < n := by omega
        have hib : (0 : Int) ≤ (i : Int) ∧ (i : Int) < (n : Int) := ⟨by omega, hlt2⟩
        obtain ⟨a1, o1, hA1, hs1, hc1⟩ := H1.out.rd.lit (by rw [HX.out]; omega)
        obtain ⟨a2, o2, hA2, hs2, hc2⟩ := H2.out.rd.lit (by rw [HY.out]; omega)
        subst hA1 hA2
        obtain ⟨u, hu⟩ : ∃ u, es[i]? = some u := ⟨_, List.getElem?_eq_getElem (by rw [HX.out]; exact hlt)⟩
        obtain ⟨v, hv⟩ : ∃ v, fs[i]? = some v := ⟨_, List.getElem?_eq_getElem (by rw [HY.out]; exact hlt)⟩
        obtain ⟨W2, hW2⟩ : ∃ W2, W2 = (wr.alloc (.cells #[.int .i64 u.p, .int .i64 u.w, .slice u.A u.body.length u.c, .slice none 0 0] 51)).alloc (.cells #[.int .i64 v.p, .int .i64 v.w, .slice v.A v.body.length v.c, .slice none 0 0] 51) := ⟨_, rfl⟩
        have eu : ∀ j q, (entC u)[j]? = some q → wr.cell? ⟨a1, o1 + i * 4 + j, none⟩ = some q := fun j q hq => by
          have h := hc1 _ _ (entsC_get es i u hu j q hq)
          rw [← Nat.add_assoc] at h
          exact (HJ.out.1.cell (p := ⟨a1, o1 + i * 4 + j, none⟩) hs1).trans h
        have ev : ∀ j q, (entC v)[j]? = some q → (wr.alloc (.cells #[.int .i64 u.p, .int .i64 u.w, .slice u.A u.body.length u.c, .slice none 0 0] 51)).cell? ⟨a2, o2 + i * 4 + j, none⟩ = some q := fun j q hq => by
          have h := hc2 _ _ (entsC_get fs i v hv j q hq)
          rw [← Nat.add_assoc] at h
          exact ((ba HJ.out.1 _).cell (p := ⟨a2, o2 + i * 4 + j, none⟩) hs2).trans h
        obtain ⟨q0, q1, q2, q3⟩ : wr.cell? ⟨a1, o1 + i * 4, none⟩ = some (.int .i64 u.p) ∧ wr.cell? ⟨a1, o1 + i * 4 + 1, none⟩ = some (.int .i64 u.w) ∧ wr.cell? ⟨a1, o1 + i * 4 + 2, none⟩ = some (.slice u.A u.body.length u.c) ∧ wr.cell? ⟨a1, o1 + i * 4 + 3, none⟩ = some (.slice none 0 0) := ⟨eu 0 _ rfl, eu 1 _ rfl, eu 2 _ rfl, eu 3 _ rfl⟩
        obtain ⟨p0, p1, p2, p3⟩ : (wr.alloc (.cells #[.int .i64 u.p, .int .i64 u.w, .slice u.A u.body.length u.c, .slice none 0 0] 51)).cell? ⟨a2, o2 + i * 4, none⟩ = some (.int .i64 v.p) ∧ (wr.alloc (.cells #[.int .i64 u.p, .int .i64 u.w, .slice u.A u.body.length u.c, .slice none 0 0] 51)).cell? ⟨a2, o2 + i * 4 + 1, none⟩ = some (.int .i64 v.w) ∧ (wr.alloc (.cells #[.int .i64 u.p, .int .i64 u.w, .slice u.A u.body.length u.c, .slice none 0 0] 51)).cell? ⟨a2, o2 + i * 4 + 2, none⟩ = some (.slice v.A v.body.length v.c) ∧ (wr.alloc (.cells #[.int .i64 u.p, .int .i64 u.w, .slice u.A u.body.length u.c, .slice none 0 0] 51)).cell? ⟨a2, o2 + i * 4 + 3, none⟩ = some (.slice none 0 0) := ⟨ev 0 _ rfl, ev 1 _ rfl, ev 2 _ rfl, ev 3 _ rfl⟩
        go_upto_region 7 with fail
        have hb2 : Below w.heap.size w W2 := by rw [hW2]; exact ba (ba HJ.out.1 _) _
        obtain ⟨y, hy⟩ : ∃ y, y = wr.heap.size := ⟨_, rfl⟩
        have k3 : Blk W2 y 51 #[.int .i64 u.p, .int .i64 u.w, .slice u.A u.body.length u.c, .slice none 0 0] := by rw [hW2, hy]; exact (Blk.new _ _ _).alloc _
        have k4 : Blk W2 (y + 1) 51 #[.int .i64 v.p, .int .i64 v.w, .slice v.A v.body.length v.c, .slice none 0 0] := by rw [hW2, hy, ← size_alloc wr (.cells #[.int .i64 u.p, .int .i64 u.w, .slice u.A u.body.length u.c, .slice none 0 0] 51)]; exact Blk.new _ _ _
        obtain ⟨x0, x1, x2, x3⟩ : W2.cell? ⟨y, 0, none⟩ = some (.int .i64 u.p) ∧ W2.cell? ⟨y, 1, none⟩ = some (.int .i64 u.w) ∧ W2.cell? ⟨y, 2, none⟩ = some (.slice u.A u.body.length u.c) ∧ W2.cell? ⟨y, 3, none⟩ = some (.slice none 0 0) := ⟨k3.cell 0, k3.cell 1, k3.cell 2, k3.cell 3⟩
        obtain ⟨y0, y1, y2, y3⟩ : W2.cell? ⟨y + 1, 0, none⟩ = some (.int .i64 v.p) ∧ W2.cell? ⟨y + 1, 1, none⟩ = some (.int .i64 v.w) ∧ W2.cell? ⟨y + 1, 2, none⟩ = some (.slice v.A v.body.length v.c) ∧ W2.cell? ⟨y + 1, 3, none⟩ = some (.slice none 0 0) := ⟨k4.cell 0, k4.cell 1, k4.cell 2, k4.cell 3⟩
        obtain ⟨b, hb⟩ : ∃ b, sameF u.fn v.fn = b := ⟨_, rfl⟩
        have hbu := H1.out.all u (List.mem_of_getElem? hu)
        have hbv := H2.out.all v (List.mem_of_getElem? hv)
        have FS : Hid (Calls Tryd.prog 48 #[.agg #[.int .i64 u.p, .int .i64 u.w, .slice u.A u.body.length u.c, .slice none 0 0], .agg #[.int .i64 v.p, .int .i64 v.w, .slice v.A v.body.length v.c, .slice none 0 0]] W2 fun r w' => r = .returned (.bool b) ∧ Below W2.heap.size W2 w') := Lib.hid (by
          rw [← hb]
          exact same1_is u v W2 (fun b => b < w.heap.size) (hbu.rd.keep (Keeps.below (fun _ h => h) hb2)) (hbv.rd.keep (Keeps.below (fun _ h => h) hb2)) (fun _ h => Nat.lt_of_lt_of_le h hb2.size) (by have := hbu.len; omega))
        rw [← hW2, ← hy]
        have HU := Lib.hid hu
        have HV := Lib.hid hv
        have HB := Lib.hid hb
        have HB2 := Lib.hid hb2
        clear eu ev hc1 hc2 hs1 hs2 hu hv hb hb2 hbu hbv k3 k4 hW2 hy q0 q1 q2 q3 p0 p1 p2 p3
        cases b
        · have hrf : r = false := by
            rw [HR.out]
            refine decide_eq_false fun e => ?_
            have h : (es.map Ent.fn)[i]? = (fs.map Ent.fn)[i]? := by rw [e]
            rw [List.getElem?_map, List.getElem?_map, HU.out, HV.out] at h
            have h2 : u.fn = v.fn := Option.some.inj h
            have h3 := HB.out
            rw [h2] at h3
            simp [sameF] at h3
          subst hrf
          go_wp2_with (go_at_call 48; refine FS.out.mono ?_; rintro e w5 ⟨rfl, hb5⟩)
          go_ret
          exact ⟨rfl, bt HB2.out hb5⟩
        · have HEQ : Hid (u.fn = v.fn) := Lib.hid (by
            have h3 := HB.out
            simp [sameF] at h3
            obtain ⟨⟨e1, e2⟩, e3⟩ := h3
            show Ent.fn u = Ent.fn v
            cases u; cases v
            simp only [Ent.fn] at *
            rw [e1, e2, e3])
          go_wp2_with (go_at_call 48; refine FS.out.mono ?_; rintro e w5 ⟨rfl, hb5⟩)
          go_roundw
          case rel => exact ⟨i + 1, by omega, by go_num, bt HB2.out hb5, by rw [List.take_add_one, List.take_add_one, HJ.out.2, List.getElem?_map, List.getElem?_map, HU.out, HV.out]; simp [HEQ.out]⟩
          case measure => simp [intOf]; omega
      · have hie : i = n := by omega
        subst hie
        have hxy : es.map Ent.fn = fs.map Ent.fn := by
          have := HJ.out.2
          rwa [List.take_of_length_le (by rw [List.length_map, HX.out]; exact Nat.le_refl _), List.take_of_length_le (by rw [List.length_map, HY.out]; exact Nat.le_refl _)] at this
        go_wp2_with fail
        go_ret
        exact ⟨by rw [HR.out, decide_eq_true hxy]; rfl, HJ.out.1⟩
  · have hxy : ¬ es.map Ent.fn = fs.map Ent.fn := fun e => hnm (by have := congrArg List.length e; rw [List.length_map, List.length_map] at this; omega)
    have hne : ((n : Int) != (m : Int)) = true := by simp; omega
    rw [decide_eq_false hxy]
    clear h1 h2 hn hm
    go_enter Tryd.func47, Tryd.ntmps47
    go_wp2_with fail
    go_ret
    exact ⟨rfl, Below.refl _ _⟩
/-- Equality of codes. -/
def sameK (a b : Co) : Bool := a.ch == b.ch && decide (a.fs = b.fs)
set_option maxRecDepth 100000 in
set_option maxHeartbeats 4000000 in
theorem sameK_is (ch ch' : Int) (es fs : List Ent) (A1 A2 : Option Addr) (c1 c2 : Nat) (w : World) (h1 : CoR w (fun b => b < w.heap.size) A1 c1 es) (h2 : CoR w (fun b => b < w.heap.size) A2 c2 fs) :
    Calls Tryd.prog 19 #[.agg #[.int .i64 ch, .slice A1 es.length c1], .agg #[.int .i64 ch', .slice A2 fs.length c2]] w fun e w' => e = .returned (.bool (sameK ⟨ch, es.map Ent.fn⟩ ⟨ch', fs.map Ent.fn⟩)) ∧ Below w.heap.size w w' := by
  obtain ⟨z, hz⟩ : ∃ z, z = w.heap.size := ⟨_, rfl⟩
  obtain ⟨n, hn⟩ : ∃ n, es.length = n := ⟨_, rfl⟩
  obtain ⟨m, hm⟩ : ∃ m, fs.length = m := ⟨_, rfl⟩
  obtain ⟨W1, hW1⟩ : ∃ W1, W1 = (w.alloc (.cells #[.int .i64 ch, .slice A1 n c1] 25)).alloc (.cells #[.int .i64 ch', .slice A2 m c2] 25) := ⟨_, rfl⟩
  have hb1 : Below w.heap.size w W1 := by rw [hW1]; exact ba (below_new _ _) _
  have k3 : Blk W1 z 25 #[.int .i64 ch, .slice A1 n c1] := by rw [hW1, hz]; exact (Blk.new _ _ _).alloc _
  have k4 : Blk W1 (z + 1) 25 #[.int .i64 ch', .slice A2 m c2] := by rw [hW1, hz, ← size_alloc w (.cells #[.int .i64 ch, .slice A1 n c1] 25)]; exact Blk.new _ _ _
  obtain ⟨a0, a1⟩ : W1.cell? ⟨z, 0, none⟩ = some (.int .i64 ch) ∧ W1.cell? ⟨z, 1, none⟩ = some (.slice A1 n c1) := ⟨k3.cell 0, k3.cell 1⟩
  obtain ⟨b0, b1⟩ : W1.cell? ⟨z + 1, 0, none⟩ = some (.int .i64 ch') ∧ W1.cell? ⟨z + 1, 1, none⟩ = some (.slice A2 m c2) := ⟨k4.cell 0, k4.cell 1⟩
  obtain ⟨q, hq⟩ : ∃ q, decide (es.map Ent.fn = fs.map Ent.fn) = q := ⟨_, rfl⟩
  have FE : Hid (Calls Tryd.prog 47 #[.slice A1 n c1, .slice A2 m c2, .func (.func 48) #[] #[]] W1 fun e w' => e = .returned (.bool q) ∧ Below W1.heap.size W1 w') := Lib.hid (by
    rw [← hq, ← hn, ← hm]
    exact eqFns_is es fs A1 A2 c1 c2 W1 (h1.next hb1) (h2.next hb1))
  obtain ⟨r, hr⟩ : ∃ r, r = sameK ⟨ch, es.map Ent.fn⟩ ⟨ch', fs.map Ent.fn⟩ := ⟨_, rfl⟩
  have HR : Hid (r = (ch == ch' && q)) := Lib.hid (by rw [hr, ← hq]; rfl)
  rw [← hr, hn, hm]
  have HB1 := Lib.hid hb1
  have HW1 := Lib.hid hW1
  have HZ := Lib.hid hz
  clear hb1 hW1 hz k3 k4 h1 h2 hn hm hq hr
  go_enter Tryd.func19, Tryd.ntmps19
  go_upto_region 1 with fail
  have e11 : (w.alloc (.cells #[.int .i64 ch, .slice A1 n c1] 25)).heap.size = z + 1 := by rw [HZ.out]; simp
  try rw [e11]
  rw [← HW1.out]
  try rw [← HZ.out]
  clear e11
  cases e1 : (ch == ch')
  · go_wp2_with fail
    go_ret
    exact ⟨by rw [HR.out, e1]; rfl, HB1.out⟩
  · go_wp2_with (go_at_call 47; refine FE.out.mono ?_; rintro e w5 ⟨rfl, hb5⟩)
    go_ret
    exact ⟨by rw [HR.out, e1]; simp, bt HB1.out hb5⟩
end Go.Proofs.YtbdknncmlcbbpaaDoor
