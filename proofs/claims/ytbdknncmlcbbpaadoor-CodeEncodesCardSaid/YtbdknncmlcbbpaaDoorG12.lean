/-
  OPERANDS: within, indexes, right. (written by wip/tools/gen-kright.py)
-/
import Derived.Test.YtbdknncmlcbbpaaDoorG10
set_option linter.unusedVariables false
namespace Go.Proofs.YtbdknncmlcbbpaaDoor
open Go.RowKit WM TR KM

def witB (n l m : Int) : Bool := decide (l ≤ n) && decide (n ≤ m)
def idxB (n c : Int) : Bool := witB n 0 (c - 1)
theorem within_is (n l m : Int) (w : World) : Calls Tryd.prog 60 #[.int .i64 n, .int .i64 l, .int .i64 m] w fun e w' => e = .returned (.bool (witB n l m)) ∧ w' = w := by
  unfold witB
  go_enter Tryd.func60, Tryd.ntmps60
  by_cases h : l ≤ n
  · have hd : decide (l ≤ n) = true := decide_eq_true h
    rw [hd]
    go_wp2_with fail
    go_ret
    exact ⟨by simp, rfl⟩
  · have hd : decide (l ≤ n) = false := decide_eq_false h
    rw [hd]
    go_wp2_with fail
    go_ret
    exact ⟨rfl, rfl⟩
theorem indexes_is (n c : Int) (hc : -1000000 ≤ c ∧ c ≤ 1000000) (w : World) : Calls Tryd.prog 58 #[.int .i64 n, .int .i64 c] w fun e w' => e = .returned (.bool (idxB n c)) ∧ w' = w := by
  unfold idxB
  have hw1 : IntKind.i64.wrap (c - 1) = c - 1 := by rw [IntKind.wrap_i64]; omega
  go_enter Tryd.func58, Tryd.ntmps58
  go_wp2_with (go_at_call 60; refine (within_is _ _ _ _).mono ?_; rintro e w2 ⟨rfl, rfl⟩)
  go_ret
  exact ⟨rfl, rfl⟩
/-- The parameters that a function of the code has. -/
def pOf (fs : List KM.Fn) (a : Int) : Int := ((fs[a.toNat]?).map (·.p)).getD 0
/-- Whether the operands of an instruction are right. -/
def rightB (ch : Int) (fs : List KM.Fn) (wd : Int) (nb : Nat) (x : Ins) : Bool :=
  if x.op = 0 then witB x.a (-8) 7 && x.b == 0
  else if x.op = 1 ∨ x.op = 2 then idxB x.a wd && x.b == 0
  else if x.op = 3 ∨ x.op = 4 then witB x.b 1 4 && witB x.a 0 (wd - x.b)
  else if x.op = 5 then idxB x.a 14 && x.b == 0
  else if x.op = 7 ∨ x.op = 8 then idxB x.a nb && x.b == 0
  else if x.op = 9 ∨ x.op = 16 then (idxB x.a fs.length && x.b == pOf fs x.a) && witB x.b 0 3
  else if x.op = 12 then idxB x.a nb && idxB x.b wd
  else if x.op = 14 ∨ x.op = 15 then idxB x.a ch && x.b == 0
  else if x.op = 6 ∨ x.op = 10 ∨ x.op = 11 ∨ x.op = 13 ∨ x.op = 17 ∨ x.op = 18 then x.a == 0 && x.b == 0
  else false
set_option maxRecDepth 100000 in
set_option maxHeartbeats 16000000 in
theorem right_is (ch : Int) (es : List Ent) (Ac : Option Addr) (cc : Nat) (p wd : Int) (Ab : Option Addr) (nb cb : Nat) (vl : Value) (x : Ins) (w : World)
    (hch : -1000000 ≤ ch ∧ ch ≤ 1000000) (hwd : 0 ≤ wd ∧ wd ≤ 1000000) (hnb : nb ≤ 1000000) (hco : CoR w (fun b => b < w.heap.size) Ac cc es) :
    Calls Tryd.prog 61 #[.agg #[.int .i64 ch, .slice Ac es.length cc], .agg #[.int .i64 p, .int .i64 wd, .slice Ab nb cb, vl], .agg #[.int .i64 x.op, .int .i64 x.a, .int .i64 x.b]] w fun e w' => e = .returned (.bool (rightB ch (es.map Ent.fn) wd nb x)) ∧ Below w.heap.size w w' := by
  obtain ⟨nf, hnf⟩ : ∃ n, es.length = n := ⟨_, rfl⟩
  have hfl : (es.map Ent.fn).length = nf := by rw [List.length_map, hnf]
  have hnl : nf ≤ 200000 := by rw [← hnf]; exact hco.len
  obtain ⟨z, hz⟩ : ∃ z, z = w.heap.size := ⟨_, rfl⟩
  obtain ⟨W1, hW1⟩ : ∃ W1, W1 = ((w.alloc (.cells #[.int .i64 ch, .slice Ac nf cc] 25)).alloc (.cells #[.int .i64 p, .int .i64 wd, .slice Ab nb cb, vl] 51)).alloc (.cells #[.int .i64 x.op, .int .i64 x.a, .int .i64 x.b] 54) := ⟨_, rfl⟩
  have hb1 : Below w.heap.size w W1 := by rw [hW1]; exact ba (ba (below_new _ _) _) _
  have k3 : Blk W1 z 25 #[.int .i64 ch, .slice Ac nf cc] := by rw [hW1, hz]; exact ((Blk.new _ _ _).alloc _).alloc _
  have k4 : Blk W1 (z + 1) 51 #[.int .i64 p, .int .i64 wd, .slice Ab nb cb, vl] := by rw [hW1, hz, ← size_alloc w (.cells #[.int .i64 ch, .slice Ac nf cc] 25)]; exact (Blk.new _ _ _).alloc _
  have k5 : Blk W1 (z + 2) 54 #[.int .i64 x.op, .int .i64 x.a, .int .i64 x.b] := by
    rw [hW1, hz]
    have e : w.heap.size + 2 = ((w.alloc (.cells #[.int .i64 ch, .slice Ac nf cc] 25)).alloc (.cells #[.int .i64 p, .int .i64 wd, .slice Ab nb cb, vl] 51)).heap.size := by simp
    rw [e]; exact Blk.new _ _ _
  obtain ⟨c0, c1⟩ : W1.cell? ⟨z, 0, none⟩ = some (.int .i64 ch) ∧ W1.cell? ⟨z, 1, none⟩ = some (.slice Ac nf cc) := ⟨k3.cell 0, k3.cell 1⟩
  obtain ⟨d1, d2⟩ : W1.cell? ⟨z + 1, 1, none⟩ = some (.int .i64 wd) ∧ W1.cell? ⟨z + 1, 2, none⟩ = some (.slice Ab nb cb) := ⟨k4.cell 1, k4.cell 2⟩
  obtain ⟨e0, e1, e2⟩ : W1.cell? ⟨z + 2, 0, none⟩ = some (.int .i64 x.op) ∧ W1.cell? ⟨z + 2, 1, none⟩ = some (.int .i64 x.a) ∧ W1.cell? ⟨z + 2, 2, none⟩ = some (.int .i64 x.b) := ⟨k5.cell 0, k5.cell 1, k5.cell 2⟩
  have HB1 := Lib.hid hb1
  have HK3 := Lib.hid k3
  have HK5 := Lib.hid k5
  have HFL := Lib.hid hfl
  have HNF := Lib.hid hnf
  have HCO := Lib.hid (hco.next hb1)
  have HW1 := Lib.hid hW1
  have HZ := Lib.hid hz
  rw [hnf]
  clear hb1 k3 k4 k5 hfl hnf hco hW1 hz
  obtain ⟨op, a, b⟩ := x
  simp only at *
  obtain ⟨r, hr⟩ : ∃ r, r = rightB ch (es.map Ent.fn) wd nb ⟨op, a, b⟩ := ⟨_, rfl⟩
  rw [← hr]
  have HR := Lib.hid hr
  clear hr
  go_enter Tryd.func61, Tryd.ntmps61
  go_upto_region 1 with fail
  have e11 : (w.alloc (.cells #[.int .i64 ch, .slice Ac nf cc] 25)).heap.size = z + 1 := by rw [HZ.out]; simp
  have e12 : ((w.alloc (.cells #[.int .i64 ch, .slice Ac nf cc] 25)).alloc (.cells #[.int .i64 p, .int .i64 wd, .slice Ab nb cb, vl] 51)).heap.size = z + 2 := by rw [HZ.out]; simp
  try rw [e11]
  try rw [e12]
  rw [← HW1.out]
  try rw [← HZ.out]
  clear e11 e12
  by_cases h0 : op = 0
  · subst h0
    skip
    cases h1 : witB a (-8) 7
    · go_wp2_with (first
        | (go_at_call 60; refine (within_is _ _ _ _).mono ?_; rintro e w2 ⟨rfl, rfl⟩)
        | (go_at_call 58; refine (indexes_is _ _ (by omega) _).mono ?_; rintro e w2 ⟨rfl, rfl⟩))
      go_ret
      exact ⟨by rw [HR.out]; simp [rightB, h1], HB1.out⟩
    · go_wp2_with (first
        | (go_at_call 60; refine (within_is _ _ _ _).mono ?_; rintro e w2 ⟨rfl, rfl⟩)
        | (go_at_call 58; refine (indexes_is _ _ (by omega) _).mono ?_; rintro e w2 ⟨rfl, rfl⟩))
      go_ret
      exact ⟨by rw [HR.out]; simp [rightB, h1], HB1.out⟩
  have g0 : (op == 0) = false := by simpa using h0
  have n0 := Lib.hid h0
  clear h0
  by_cases h1 : op = 1
  · subst h1
    clear g0 n0
    cases h1 : idxB a wd
    · go_wp2_with (first
        | (go_at_call 60; refine (within_is _ _ _ _).mono ?_; rintro e w2 ⟨rfl, rfl⟩)
        | (go_at_call 58; refine (indexes_is _ _ (by omega) _).mono ?_; rintro e w2 ⟨rfl, rfl⟩))
      go_ret
      exact ⟨by rw [HR.out]; simp [rightB, h1], HB1.out⟩
    · go_wp2_with (first
        | (go_at_call 60; refine (within_is _ _ _ _).mono ?_; rintro e w2 ⟨rfl, rfl⟩)
        | (go_at_call 58; refine (indexes_is _ _ (by omega) _).mono ?_; rintro e w2 ⟨rfl, rfl⟩))
      go_ret
      exact ⟨by rw [HR.out]; simp [rightB, h1], HB1.out⟩
  have g1 : (op == 1) = false := by simpa using h1
  have n1 := Lib.hid h1
  clear h1
  by_cases h2 : op = 2
  · subst h2
    clear g0 n0 g1 n1
    cases h1 : idxB a wd
    · go_wp2_with (first
        | (go_at_call 60; refine (within_is _ _ _ _).mono ?_; rintro e w2 ⟨rfl, rfl⟩)
        | (go_at_call 58; refine (indexes_is _ _ (by omega) _).mono ?_; rintro e w2 ⟨rfl, rfl⟩))
      go_ret
      exact ⟨by rw [HR.out]; simp [rightB, h1], HB1.out⟩
    · go_wp2_with (first
        | (go_at_call 60; refine (within_is _ _ _ _).mono ?_; rintro e w2 ⟨rfl, rfl⟩)
        | (go_at_call 58; refine (indexes_is _ _ (by omega) _).mono ?_; rintro e w2 ⟨rfl, rfl⟩))
      go_ret
      exact ⟨by rw [HR.out]; simp [rightB, h1], HB1.out⟩
  have g2 : (op == 2) = false := by simpa using h2
  have n2 := Lib.hid h2
  clear h2
  by_cases h3 : op = 3
  · subst h3
    clear g0 n0 g1 n1 g2 n2
    cases h1 : witB b 1 4
    · go_wp2_with (first
        | (go_at_call 60; refine (within_is _ _ _ _).mono ?_; rintro e w2 ⟨rfl, rfl⟩)
        | (go_at_call 58; refine (indexes_is _ _ (by omega) _).mono ?_; rintro e w2 ⟨rfl, rfl⟩))
      go_ret
      exact ⟨by rw [HR.out]; simp [rightB, h1], HB1.out⟩
    · have hbb : 1 ≤ b ∧ b ≤ 4 := by unfold witB at h1; simpa using h1
      have hw2 : IntKind.i64.wrap (wd - b) = wd - b := by rw [IntKind.wrap_i64]; omega
      go_wp2_with (first
        | (go_at_call 60; refine (within_is _ _ _ _).mono ?_; rintro e w2 ⟨rfl, rfl⟩)
        | (go_at_call 58; refine (indexes_is _ _ (by omega) _).mono ?_; rintro e w2 ⟨rfl, rfl⟩))
      go_ret
      exact ⟨by rw [HR.out]; simp [rightB, h1], HB1.out⟩
  have g3 : (op == 3) = false := by simpa using h3
  have n3 := Lib.hid h3
  clear h3
  by_cases h4 : op = 4
  · subst h4
    clear g0 n0 g1 n1 g2 n2 g3 n3
    cases h1 : witB b 1 4
    · go_wp2_with (first
        | (go_at_call 60; refine (within_is _ _ _ _).mono ?_; rintro e w2 ⟨rfl, rfl⟩)
        | (go_at_call 58; refine (indexes_is _ _ (by omega) _).mono ?_; rintro e w2 ⟨rfl, rfl⟩))
      go_ret
      exact ⟨by rw [HR.out]; simp [rightB, h1], HB1.out⟩
    · have hbb : 1 ≤ b ∧ b ≤ 4 := by unfold witB at h1; simpa using h1
      have hw2 : IntKind.i64.wrap (wd - b) = wd - b := by rw [IntKind.wrap_i64]; omega
      go_wp2_with (first
        | (go_at_call 60; refine (within_is _ _ _ _).mono ?_; rintro e w2 ⟨rfl, rfl⟩)
        | (go_at_call 58; refine (indexes_is _ _ (by omega) _).mono ?_; rintro e w2 ⟨rfl, rfl⟩))
      go_ret
      exact ⟨by rw [HR.out]; simp [rightB, h1], HB1.out⟩
  have g4 : (op == 4) = false := by simpa using h4
  have n4 := Lib.hid h4
  clear h4
  by_cases h5 : op = 5
  · subst h5
    clear g0 n0 g1 n1 g2 n2 g3 n3 g4 n4
    cases h1 : idxB a 14
    · go_wp2_with (first
        | (go_at_call 60; refine (within_is _ _ _ _).mono ?_; rintro e w2 ⟨rfl, rfl⟩)
        | (go_at_call 58; refine (indexes_is _ _ (by omega) _).mono ?_; rintro e w2 ⟨rfl, rfl⟩))
      go_ret
      exact ⟨by rw [HR.out]; simp [rightB, h1], HB1.out⟩
    · go_wp2_with (first
        | (go_at_call 60; refine (within_is _ _ _ _).mono ?_; rintro e w2 ⟨rfl, rfl⟩)
        | (go_at_call 58; refine (indexes_is _ _ (by omega) _).mono ?_; rintro e w2 ⟨rfl, rfl⟩))
      go_ret
      exact ⟨by rw [HR.out]; simp [rightB, h1], HB1.out⟩
  have g5 : (op == 5) = false := by simpa using h5
  have n5 := Lib.hid h5
  clear h5
  by_cases h6 : op = 6
  · subst h6
    clear g0 n0 g1 n1 g2 n2 g3 n3 g4 n4 g5 n5
    cases h1 : (a == 0)
    · go_wp2_with (first
        | (go_at_call 60; refine (within_is _ _ _ _).mono ?_; rintro e w2 ⟨rfl, rfl⟩)
        | (go_at_call 58; refine (indexes_is _ _ (by omega) _).mono ?_; rintro e w2 ⟨rfl, rfl⟩))
      go_ret
      exact ⟨by rw [HR.out]; simp [rightB, h1], HB1.out⟩
    · go_wp2_with (first
        | (go_at_call 60; refine (within_is _ _ _ _).mono ?_; rintro e w2 ⟨rfl, rfl⟩)
        | (go_at_call 58; refine (indexes_is _ _ (by omega) _).mono ?_; rintro e w2 ⟨rfl, rfl⟩))
      go_ret
      exact ⟨by rw [HR.out]; simp [rightB, h1], HB1.out⟩
  have g6 : (op == 6) = false := by simpa using h6
  have n6 := Lib.hid h6
  clear h6
  by_cases h7 : op = 7
  · subst h7
    clear g0 n0 g1 n1 g2 n2 g3 n3 g4 n4 g5 n5 g6 n6
    cases h1 : idxB a nb
    · go_wp2_with (first
        | (go_at_call 60; refine (within_is _ _ _ _).mono ?_; rintro e w2 ⟨rfl, rfl⟩)
        | (go_at_call 58; refine (indexes_is _ _ (by omega) _).mono ?_; rintro e w2 ⟨rfl, rfl⟩))
      go_ret
      exact ⟨by rw [HR.out]; simp [rightB, h1], HB1.out⟩
    · go_wp2_with (first
        | (go_at_call 60; refine (within_is _ _ _ _).mono ?_; rintro e w2 ⟨rfl, rfl⟩)
        | (go_at_call 58; refine (indexes_is _ _ (by omega) _).mono ?_; rintro e w2 ⟨rfl, rfl⟩))
      go_ret
      exact ⟨by rw [HR.out]; simp [rightB, h1], HB1.out⟩
  have g7 : (op == 7) = false := by simpa using h7
  have n7 := Lib.hid h7
  clear h7
  by_cases h8 : op = 8
  · subst h8
    clear g0 n0 g1 n1 g2 n2 g3 n3 g4 n4 g5 n5 g6 n6 g7 n7
    cases h1 : idxB a nb
    · go_wp2_with (first
        | (go_at_call 60; refine (within_is _ _ _ _).mono ?_; rintro e w2 ⟨rfl, rfl⟩)
        | (go_at_call 58; refine (indexes_is _ _ (by omega) _).mono ?_; rintro e w2 ⟨rfl, rfl⟩))
      go_ret
      exact ⟨by rw [HR.out]; simp [rightB, h1], HB1.out⟩
    · go_wp2_with (first
        | (go_at_call 60; refine (within_is _ _ _ _).mono ?_; rintro e w2 ⟨rfl, rfl⟩)
        | (go_at_call 58; refine (indexes_is _ _ (by omega) _).mono ?_; rintro e w2 ⟨rfl, rfl⟩))
      go_ret
      exact ⟨by rw [HR.out]; simp [rightB, h1], HB1.out⟩
  have g8 : (op == 8) = false := by simpa using h8
  have n8 := Lib.hid h8
  clear h8
  by_cases h9 : op = 9
  · subst h9
    clear g0 n0 g1 n1 g2 n2 g3 n3 g4 n4 g5 n5 g6 n6 g7 n7 g8 n8
    cases h1 : idxB a nf
    · have FI : Hid (∀ W, Calls Tryd.prog 58 #[.int .i64 a, .int .i64 nf] W fun e w' => e = .returned (.bool false) ∧ w' = W) := Lib.hid (fun W => by rw [← h1]; exact indexes_is _ _ (by omega) W)
      have LA : Hid (∀ W, Below W1.heap.size W1 W → (Instr.loadAt 3 (.pointer (some ⟨z + 2, 1, none⟩))).run Tryd.prog W = .ok (.int .i64 a) W) := Lib.hid (fun W h => by have := (HK5.out.below h HK5.out.lt).cell 1; go_simp)
      have LB : Hid (∀ W, Below W1.heap.size W1 W → (Instr.loadAt 3 (.pointer (some ⟨z + 2, 2, none⟩))).run Tryd.prog W = .ok (.int .i64 b) W) := Lib.hid (fun W h => by have := (HK5.out.below h HK5.out.lt).cell 2; go_simp)
      have LC : Hid (∀ W, Below W1.heap.size W1 W → (Instr.loadAt 23 (.pointer (some ⟨z, 1, none⟩))).run Tryd.prog W = .ok (.slice Ac nf cc) W) := Lib.hid (fun W h => by have := (HK3.out.below h HK3.out.lt).cell 1; go_simp)
      go_upto_region 17 with fail
      clear c0 c1 d1 d2 e0 e1 e2
      refine wp_region_below W1 (Below.refl _ _) (by kernel_rfl) (by kernel_rfl) ?_
      go_big_quiet_step ((intro _; rfl))
      refine wpQuiet_load' rfl 3 (.tmp 75) rfl _ rfl (.int .i64 a) LA.out ?_
      go_simp
      go_big_quiet_step ((intro _; rfl))
      refine wpQuiet_load' rfl 23 (.tmp 77) rfl _ rfl (.slice Ac nf cc) LC.out ?_
      go_simp
      go_big_quiet_step ((intro _; rfl))
      go_big_quiet_step ((intro hw'; exact (FI.out _).mono fun e w'' ⟨he, hb⟩ => ⟨he, by rw [hb]; exact hw'⟩))
      iterate 18 go_big_quiet_step ((intro _; rfl))
      refine wpQuiet_nil ?_
      intro w6 hb6
      go_wp2_with fail
      go_ret
      exact ⟨by rw [HR.out]; simp [rightB, h1, HFL.out], bt HB1.out hb6⟩
    · have hab : 0 ≤ a ∧ a < nf := by unfold idxB witB at h1; simp at h1; omega
      obtain ⟨k, hk⟩ : ∃ k : Nat, a = (k : Int) := ⟨a.toNat, by omega⟩
      subst hk
      have hkn : k < nf := by omega
      obtain ⟨aA, oA, hAc, hA1, hA2⟩ := HCO.out.rd.lit (by rw [HNF.out]; omega)
      subst hAc
      obtain ⟨en, hen⟩ : ∃ en, es[k]? = some en := ⟨_, List.getElem?_eq_getElem (by rw [HNF.out]; exact hkn)⟩
      obtain ⟨q, hq⟩ : ∃ q, en.p = q := ⟨_, rfl⟩
      have hpo : pOf (es.map Ent.fn) (k : Int) = q := by unfold pOf; rw [Int.toNat_natCast, List.getElem?_map, hen, ← hq]; rfl
      have hcq := hA2 _ _ (entsC_get es k en hen 0 _ rfl)
      rw [hq, Nat.add_zero] at hcq
      have FI : Hid (∀ W, Calls Tryd.prog 58 #[.int .i64 (k : Int), .int .i64 nf] W fun e w' => e = .returned (.bool true) ∧ w' = W) := Lib.hid (fun W => by rw [← h1]; exact indexes_is _ _ (by omega) W)
      have LQ : Hid (∀ W, Below W1.heap.size W1 W → (Instr.loadAt 3 (.pointer (some ⟨aA, oA + k * 4, none⟩))).run Tryd.prog W = .ok (.int .i64 q) W) := Lib.hid (fun W h => by have := (h.cell (p := ⟨aA, oA + k * 4, none⟩) hA1).trans hcq; go_simp)
      have LA : Hid (∀ W, Below W1.heap.size W1 W → (Instr.loadAt 3 (.pointer (some ⟨z + 2, 1, none⟩))).run Tryd.prog W = .ok (.int .i64 (k : Int)) W) := Lib.hid (fun W h => by have := (HK5.out.below h HK5.out.lt).cell 1; go_simp)
      have LB : Hid (∀ W, Below W1.heap.size W1 W → (Instr.loadAt 3 (.pointer (some ⟨z + 2, 2, none⟩))).run Tryd.prog W = .ok (.int .i64 b) W) := Lib.hid (fun W h => by have := (HK5.out.below h HK5.out.lt).cell 2; go_simp)
      have LC : Hid (∀ W, Below W1.heap.size W1 W → (Instr.loadAt 23 (.pointer (some ⟨z, 1, none⟩))).run Tryd.prog W = .ok (.slice (some ⟨aA, oA, none⟩) nf cc) W) := Lib.hid (fun W h => by have := (HK3.out.below h HK3.out.lt).cell 1; go_simp)
      have HPO := Lib.hid hpo
      have hkb : (0 : Int) ≤ (k : Int) ∧ (k : Int) < (nf : Int) := ⟨by omega, by omega⟩
      clear hpo hcq hA2 hen hq hab
      go_upto_region 17 with fail
      clear c0 c1 d1 d2 e0 e1 e2
      by_cases hbq : b = q
      · have h2 : (b == q) = true := by simpa using hbq
        have h3 : decide (b = q) = true := decide_eq_true hbq
        have HBQ := Lib.hid hbq
        clear hbq
        obtain ⟨v, hv⟩ : ∃ v, witB b 0 3 = v := ⟨_, rfl⟩
        have FW : Hid (∀ W, Calls Tryd.prog 60 #[.int .i64 b, .int .i64 0, .int .i64 3] W fun e w' => e = .returned (.bool v) ∧ w' = W) := Lib.hid (fun W => by rw [← hv]; exact within_is _ _ _ W)
        have HV := Lib.hid hv
        clear hv
        refine wp_region_below W1 (Below.refl _ _) (by kernel_rfl) (by kernel_rfl) ?_
        go_big_quiet_step ((intro _; rfl))
        refine wpQuiet_load' rfl 3 (.tmp 75) rfl _ rfl (.int .i64 (k : Int)) LA.out ?_
        go_simp
        go_big_quiet_step ((intro _; rfl))
        refine wpQuiet_load' rfl 23 (.tmp 77) rfl _ rfl (.slice (some ⟨aA, oA, none⟩) nf cc) LC.out ?_
        go_simp
        go_big_quiet_step ((intro _; rfl))
        go_big_quiet_step ((intro hw'; exact (FI.out _).mono fun e w'' ⟨he, hb⟩ => ⟨he, by rw [hb]; exact hw'⟩))
        iterate 2 go_big_quiet_step ((intro _; rfl))
        refine wpQuiet_load' rfl 3 (.tmp 82) rfl _ rfl (.int .i64 b) LB.out ?_
        go_simp
        go_big_quiet_step ((intro _; rfl))
        refine wpQuiet_load' rfl 23 (.tmp 84) rfl _ rfl (.slice (some ⟨aA, oA, none⟩) nf cc) LC.out ?_
        go_simp
        go_big_quiet_step ((intro _; rfl))
        refine wpQuiet_load' rfl 3 (.tmp 86) rfl _ rfl (.int .i64 (k : Int)) LA.out ?_
        go_simp
        iterate 2 go_big_quiet_step ((intro _; rfl))
        refine wpQuiet_load' rfl 3 (.tmp 89) rfl _ rfl (.int .i64 q) LQ.out ?_
        go_simp
        iterate 4 go_big_quiet_step ((intro _; rfl))
        refine wpQuiet_load' rfl 3 (.tmp 94) rfl _ rfl (.int .i64 b) LB.out ?_
        go_simp
        go_big_quiet_step ((intro hw'; exact (FW.out _).mono fun e w'' ⟨he, hb⟩ => ⟨he, by rw [hb]; exact hw'⟩))
        iterate 2 go_big_quiet_step ((intro _; rfl))
        refine wpQuiet_nil ?_
        intro w6 hb6
        go_wp2_with fail
        go_ret
        exact ⟨by rw [HR.out]; simp [rightB, h1, h2, HFL.out, HPO.out, HV.out], bt HB1.out hb6⟩
      · have h2 : (b == q) = false := by simpa using hbq
        have h3 : decide (b = q) = false := decide_eq_false hbq
        clear hbq
        refine wp_region_below W1 (Below.refl _ _) (by kernel_rfl) (by kernel_rfl) ?_
        go_big_quiet_step ((intro _; rfl))
        refine wpQuiet_load' rfl 3 (.tmp 75) rfl _ rfl (.int .i64 (k : Int)) LA.out ?_
        go_simp
        go_big_quiet_step ((intro _; rfl))
        refine wpQuiet_load' rfl 23 (.tmp 77) rfl _ rfl (.slice (some ⟨aA, oA, none⟩) nf cc) LC.out ?_
        go_simp
        go_big_quiet_step ((intro _; rfl))
        go_big_quiet_step ((intro hw'; exact (FI.out _).mono fun e w'' ⟨he, hb⟩ => ⟨he, by rw [hb]; exact hw'⟩))
        iterate 2 go_big_quiet_step ((intro _; rfl))
        refine wpQuiet_load' rfl 3 (.tmp 82) rfl _ rfl (.int .i64 b) LB.out ?_
        go_simp
        go_big_quiet_step ((intro _; rfl))
        refine wpQuiet_load' rfl 23 (.tmp 84) rfl _ rfl (.slice (some ⟨aA, oA, none⟩) nf cc) LC.out ?_
        go_simp
        go_big_quiet_step ((intro _; rfl))
        refine wpQuiet_load' rfl 3 (.tmp 86) rfl _ rfl (.int .i64 (k : Int)) LA.out ?_
        go_simp
        iterate 2 go_big_quiet_step ((intro _; rfl))
        refine wpQuiet_load' rfl 3 (.tmp 89) rfl _ rfl (.int .i64 q) LQ.out ?_
        go_simp
        iterate 8 go_big_quiet_step ((intro _; rfl))
        refine wpQuiet_nil ?_
        intro w6 hb6
        go_wp2_with fail
        go_ret
        exact ⟨by rw [HR.out]; simp [rightB, h1, h2, HFL.out, HPO.out], bt HB1.out hb6⟩
  have g9 : (op == 9) = false := by simpa using h9
  have n9 := Lib.hid h9
  clear h9
  by_cases h10 : op = 10
  · subst h10
    clear g0 n0 g1 n1 g2 n2 g3 n3 g4 n4 g5 n5 g6 n6 g7 n7 g8 n8 g9 n9
    cases h1 : (a == 0)
    · go_wp2_with (first
        | (go_at_call 60; refine (within_is _ _ _ _).mono ?_; rintro e w2 ⟨rfl, rfl⟩)
        | (go_at_call 58; refine (indexes_is _ _ (by omega) _).mono ?_; rintro e w2 ⟨rfl, rfl⟩))
      go_ret
      exact ⟨by rw [HR.out]; simp [rightB, h1], HB1.out⟩
    · go_wp2_with (first
        | (go_at_call 60; refine (within_is _ _ _ _).mono ?_; rintro e w2 ⟨rfl, rfl⟩)
        | (go_at_call 58; refine (indexes_is _ _ (by omega) _).mono ?_; rintro e w2 ⟨rfl, rfl⟩))
      go_ret
      exact ⟨by rw [HR.out]; simp [rightB, h1], HB1.out⟩
  have g10 : (op == 10) = false := by simpa using h10
  have n10 := Lib.hid h10
  clear h10
  by_cases h11 : op = 11
  · subst h11
    clear g0 n0 g1 n1 g2 n2 g3 n3 g4 n4 g5 n5 g6 n6 g7 n7 g8 n8 g9 n9 g10 n10
    cases h1 : (a == 0)
    · go_wp2_with (first
        | (go_at_call 60; refine (within_is _ _ _ _).mono ?_; rintro e w2 ⟨rfl, rfl⟩)
        | (go_at_call 58; refine (indexes_is _ _ (by omega) _).mono ?_; rintro e w2 ⟨rfl, rfl⟩))
      go_ret
      exact ⟨by rw [HR.out]; simp [rightB, h1], HB1.out⟩
    · go_wp2_with (first
        | (go_at_call 60; refine (within_is _ _ _ _).mono ?_; rintro e w2 ⟨rfl, rfl⟩)
        | (go_at_call 58; refine (indexes_is _ _ (by omega) _).mono ?_; rintro e w2 ⟨rfl, rfl⟩))
      go_ret
      exact ⟨by rw [HR.out]; simp [rightB, h1], HB1.out⟩
  have g11 : (op == 11) = false := by simpa using h11
  have n11 := Lib.hid h11
  clear h11
  by_cases h12 : op = 12
  · subst h12
    clear g0 n0 g1 n1 g2 n2 g3 n3 g4 n4 g5 n5 g6 n6 g7 n7 g8 n8 g9 n9 g10 n10 g11 n11
    cases h1 : idxB a nb
    · go_wp2_with (first
        | (go_at_call 60; refine (within_is _ _ _ _).mono ?_; rintro e w2 ⟨rfl, rfl⟩)
        | (go_at_call 58; refine (indexes_is _ _ (by omega) _).mono ?_; rintro e w2 ⟨rfl, rfl⟩))
      go_ret
      exact ⟨by rw [HR.out]; simp [rightB, h1], HB1.out⟩
    · go_wp2_with (first
        | (go_at_call 60; refine (within_is _ _ _ _).mono ?_; rintro e w2 ⟨rfl, rfl⟩)
        | (go_at_call 58; refine (indexes_is _ _ (by omega) _).mono ?_; rintro e w2 ⟨rfl, rfl⟩))
      go_ret
      exact ⟨by rw [HR.out]; simp [rightB, h1], HB1.out⟩
  have g12 : (op == 12) = false := by simpa using h12
  have n12 := Lib.hid h12
  clear h12
  by_cases h13 : op = 13
  · subst h13
    clear g0 n0 g1 n1 g2 n2 g3 n3 g4 n4 g5 n5 g6 n6 g7 n7 g8 n8 g9 n9 g10 n10 g11 n11 g12 n12
    cases h1 : (a == 0)
    · go_wp2_with (first
        | (go_at_call 60; refine (within_is _ _ _ _).mono ?_; rintro e w2 ⟨rfl, rfl⟩)
        | (go_at_call 58; refine (indexes_is _ _ (by omega) _).mono ?_; rintro e w2 ⟨rfl, rfl⟩))
      go_ret
      exact ⟨by rw [HR.out]; simp [rightB, h1], HB1.out⟩
    · go_wp2_with (first
        | (go_at_call 60; refine (within_is _ _ _ _).mono ?_; rintro e w2 ⟨rfl, rfl⟩)
        | (go_at_call 58; refine (indexes_is _ _ (by omega) _).mono ?_; rintro e w2 ⟨rfl, rfl⟩))
      go_ret
      exact ⟨by rw [HR.out]; simp [rightB, h1], HB1.out⟩
  have g13 : (op == 13) = false := by simpa using h13
  have n13 := Lib.hid h13
  clear h13
  by_cases h14 : op = 14
  · subst h14
    clear g0 n0 g1 n1 g2 n2 g3 n3 g4 n4 g5 n5 g6 n6 g7 n7 g8 n8 g9 n9 g10 n10 g11 n11 g12 n12 g13 n13
    cases h1 : idxB a ch
    · go_wp2_with (first
        | (go_at_call 60; refine (within_is _ _ _ _).mono ?_; rintro e w2 ⟨rfl, rfl⟩)
        | (go_at_call 58; refine (indexes_is _ _ (by omega) _).mono ?_; rintro e w2 ⟨rfl, rfl⟩))
      go_ret
      exact ⟨by rw [HR.out]; simp [rightB, h1], HB1.out⟩
    · go_wp2_with (first
        | (go_at_call 60; refine (within_is _ _ _ _).mono ?_; rintro e w2 ⟨rfl, rfl⟩)
        | (go_at_call 58; refine (indexes_is _ _ (by omega) _).mono ?_; rintro e w2 ⟨rfl, rfl⟩))
      go_ret
      exact ⟨by rw [HR.out]; simp [rightB, h1], HB1.out⟩
  have g14 : (op == 14) = false := by simpa using h14
  have n14 := Lib.hid h14
  clear h14
  by_cases h15 : op = 15
  · subst h15
    clear g0 n0 g1 n1 g2 n2 g3 n3 g4 n4 g5 n5 g6 n6 g7 n7 g8 n8 g9 n9 g10 n10 g11 n11 g12 n12 g13 n13 g14 n14
    cases h1 : idxB a ch
    · go_wp2_with (first
        | (go_at_call 60; refine (within_is _ _ _ _).mono ?_; rintro e w2 ⟨rfl, rfl⟩)
        | (go_at_call 58; refine (indexes_is _ _ (by omega) _).mono ?_; rintro e w2 ⟨rfl, rfl⟩))
      go_ret
      exact ⟨by rw [HR.out]; simp [rightB, h1], HB1.out⟩
    · go_wp2_with (first
        | (go_at_call 60; refine (within_is _ _ _ _).mono ?_; rintro e w2 ⟨rfl, rfl⟩)
        | (go_at_call 58; refine (indexes_is _ _ (by omega) _).mono ?_; rintro e w2 ⟨rfl, rfl⟩))
      go_ret
      exact ⟨by rw [HR.out]; simp [rightB, h1], HB1.out⟩
  have g15 : (op == 15) = false := by simpa using h15
  have n15 := Lib.hid h15
  clear h15
  by_cases h16 : op = 16
  · subst h16
    clear g0 n0 g1 n1 g2 n2 g3 n3 g4 n4 g5 n5 g6 n6 g7 n7 g8 n8 g9 n9 g10 n10 g11 n11 g12 n12 g13 n13 g14 n14 g15 n15
    cases h1 : idxB a nf
    · have FI : Hid (∀ W, Calls Tryd.prog 58 #[.int .i64 a, .int .i64 nf] W fun e w' => e = .returned (.bool false) ∧ w' = W) := Lib.hid (fun W => by rw [← h1]; exact indexes_is _ _ (by omega) W)
      have LA : Hid (∀ W, Below W1.heap.size W1 W → (Instr.loadAt 3 (.pointer (some ⟨z + 2, 1, none⟩))).run Tryd.prog W = .ok (.int .i64 a) W) := Lib.hid (fun W h => by have := (HK5.out.below h HK5.out.lt).cell 1; go_simp)
      have LB : Hid (∀ W, Below W1.heap.size W1 W → (Instr.loadAt 3 (.pointer (some ⟨z + 2, 2, none⟩))).run Tryd.prog W = .ok (.int .i64 b) W) := Lib.hid (fun W h => by have := (HK5.out.below h HK5.out.lt).cell 2; go_simp)
      have LC : Hid (∀ W, Below W1.heap.size W1 W → (Instr.loadAt 23 (.pointer (some ⟨z, 1, none⟩))).run Tryd.prog W = .ok (.slice Ac nf cc) W) := Lib.hid (fun W h => by have := (HK3.out.below h HK3.out.lt).cell 1; go_simp)
      go_upto_region 17 with fail
      clear c0 c1 d1 d2 e0 e1 e2
      refine wp_region_below W1 (Below.refl _ _) (by kernel_rfl) (by kernel_rfl) ?_
      go_big_quiet_step ((intro _; rfl))
      refine wpQuiet_load' rfl 3 (.tmp 75) rfl _ rfl (.int .i64 a) LA.out ?_
      go_simp
      go_big_quiet_step ((intro _; rfl))
      refine wpQuiet_load' rfl 23 (.tmp 77) rfl _ rfl (.slice Ac nf cc) LC.out ?_
      go_simp
      go_big_quiet_step ((intro _; rfl))
      go_big_quiet_step ((intro hw'; exact (FI.out _).mono fun e w'' ⟨he, hb⟩ => ⟨he, by rw [hb]; exact hw'⟩))
      iterate 18 go_big_quiet_step ((intro _; rfl))
      refine wpQuiet_nil ?_
      intro w6 hb6
      go_wp2_with fail
      go_ret
      exact ⟨by rw [HR.out]; simp [rightB, h1, HFL.out], bt HB1.out hb6⟩
    · have hab : 0 ≤ a ∧ a < nf := by unfold idxB witB at h1; simp at h1; omega
      obtain ⟨k, hk⟩ : ∃ k : Nat, a = (k : Int) := ⟨a.toNat, by omega⟩
      subst hk
      have hkn : k < nf := by omega
      obtain ⟨aA, oA, hAc, hA1, hA2⟩ := HCO.out.rd.lit (by rw [HNF.out]; omega)
      subst hAc
      obtain ⟨en, hen⟩ : ∃ en, es[k]? = some en := ⟨_, List.getElem?_eq_getElem (by rw [HNF.out]; exact hkn)⟩
      obtain ⟨q, hq⟩ : ∃ q, en.p = q := ⟨_, rfl⟩
      have hpo : pOf (es.map Ent.fn) (k : Int) = q := by unfold pOf; rw [Int.toNat_natCast, List.getElem?_map, hen, ← hq]; rfl
      have hcq := hA2 _ _ (entsC_get es k en hen 0 _ rfl)
      rw [hq, Nat.add_zero] at hcq
      have FI : Hid (∀ W, Calls Tryd.prog 58 #[.int .i64 (k : Int), .int .i64 nf] W fun e w' => e = .returned (.bool true) ∧ w' = W) := Lib.hid (fun W => by rw [← h1]; exact indexes_is _ _ (by omega) W)
      have LQ : Hid (∀ W, Below W1.heap.size W1 W → (Instr.loadAt 3 (.pointer (some ⟨aA, oA + k * 4, none⟩))).run Tryd.prog W = .ok (.int .i64 q) W) := Lib.hid (fun W h => by have := (h.cell (p := ⟨aA, oA + k * 4, none⟩) hA1).trans hcq; go_simp)
      have LA : Hid (∀ W, Below W1.heap.size W1 W → (Instr.loadAt 3 (.pointer (some ⟨z + 2, 1, none⟩))).run Tryd.prog W = .ok (.int .i64 (k : Int)) W) := Lib.hid (fun W h => by have := (HK5.out.below h HK5.out.lt).cell 1; go_simp)
      have LB : Hid (∀ W, Below W1.heap.size W1 W → (Instr.loadAt 3 (.pointer (some ⟨z + 2, 2, none⟩))).run Tryd.prog W = .ok (.int .i64 b) W) := Lib.hid (fun W h => by have := (HK5.out.below h HK5.out.lt).cell 2; go_simp)
      have LC : Hid (∀ W, Below W1.heap.size W1 W → (Instr.loadAt 23 (.pointer (some ⟨z, 1, none⟩))).run Tryd.prog W = .ok (.slice (some ⟨aA, oA, none⟩) nf cc) W) := Lib.hid (fun W h => by have := (HK3.out.below h HK3.out.lt).cell 1; go_simp)
      have HPO := Lib.hid hpo
      have hkb : (0 : Int) ≤ (k : Int) ∧ (k : Int) < (nf : Int) := ⟨by omega, by omega⟩
      clear hpo hcq hA2 hen hq hab
      go_upto_region 17 with fail
      clear c0 c1 d1 d2 e0 e1 e2
      by_cases hbq : b = q
      · have h2 : (b == q) = true := by simpa using hbq
        have h3 : decide (b = q) = true := decide_eq_true hbq
        have HBQ := Lib.hid hbq
        clear hbq
        obtain ⟨v, hv⟩ : ∃ v, witB b 0 3 = v := ⟨_, rfl⟩
        have FW : Hid (∀ W, Calls Tryd.prog 60 #[.int .i64 b, .int .i64 0, .int .i64 3] W fun e w' => e = .returned (.bool v) ∧ w' = W) := Lib.hid (fun W => by rw [← hv]; exact within_is _ _ _ W)
        have HV := Lib.hid hv
        clear hv
        refine wp_region_below W1 (Below.refl _ _) (by kernel_rfl) (by kernel_rfl) ?_
        go_big_quiet_step ((intro _; rfl))
        refine wpQuiet_load' rfl 3 (.tmp 75) rfl _ rfl (.int .i64 (k : Int)) LA.out ?_
        go_simp
        go_big_quiet_step ((intro _; rfl))
        refine wpQuiet_load' rfl 23 (.tmp 77) rfl _ rfl (.slice (some ⟨aA, oA, none⟩) nf cc) LC.out ?_
        go_simp
        go_big_quiet_step ((intro _; rfl))
        go_big_quiet_step ((intro hw'; exact (FI.out _).mono fun e w'' ⟨he, hb⟩ => ⟨he, by rw [hb]; exact hw'⟩))
        iterate 2 go_big_quiet_step ((intro _; rfl))
        refine wpQuiet_load' rfl 3 (.tmp 82) rfl _ rfl (.int .i64 b) LB.out ?_
        go_simp
        go_big_quiet_step ((intro _; rfl))
        refine wpQuiet_load' rfl 23 (.tmp 84) rfl _ rfl (.slice (some ⟨aA, oA, none⟩) nf cc) LC.out ?_
        go_simp
        go_big_quiet_step ((intro _; rfl))
        refine wpQuiet_load' rfl 3 (.tmp 86) rfl _ rfl (.int .i64 (k : Int)) LA.out ?_
        go_simp
        iterate 2 go_big_quiet_step ((intro _; rfl))
        refine wpQuiet_load' rfl 3 (.tmp 89) rfl _ rfl (.int .i64 q) LQ.out ?_
        go_simp
        iterate 4 go_big_quiet_step ((intro _; rfl))
        refine wpQuiet_load' rfl 3 (.tmp 94) rfl _ rfl (.int .i64 b) LB.out ?_
        go_simp
        go_big_quiet_step ((intro hw'; exact (FW.out _).mono fun e w'' ⟨he, hb⟩ => ⟨he, by rw [hb]; exact hw'⟩))
        iterate 2 go_big_quiet_step ((intro _; rfl))
        refine wpQuiet_nil ?_
        intro w6 hb6
        go_wp2_with fail
        go_ret
        exact ⟨by rw [HR.out]; simp [rightB, h1, h2, HFL.out, HPO.out, HV.out], bt HB1.out hb6⟩
      · have h2 : (b == q) = false := by simpa using hbq
        have h3 : decide (b = q) = false := decide_eq_false hbq
        clear hbq
        refine wp_region_below W1 (Below.refl _ _) (by kernel_rfl) (by kernel_rfl) ?_
        go_big_quiet_step ((intro _; rfl))
        refine wpQuiet_load' rfl 3 (.tmp 75) rfl _ rfl (.int .i64 (k : Int)) LA.out ?_
        go_simp
        go_big_quiet_step ((intro _; rfl))
        refine wpQuiet_load' rfl 23 (.tmp 77) rfl _ rfl (.slice (some ⟨aA, oA, none⟩) nf cc) LC.out ?_
        go_simp
        go_big_quiet_step ((intro _; rfl))
        go_big_quiet_step ((intro hw'; exact (FI.out _).mono fun e w'' ⟨he, hb⟩ => ⟨he, by rw [hb]; exact hw'⟩))
        iterate 2 go_big_quiet_step ((intro _; rfl))
        refine wpQuiet_load' rfl 3 (.tmp 82) rfl _ rfl (.int .i64 b) LB.out ?_
        go_simp
        go_big_quiet_step ((intro _; rfl))
        refine wpQuiet_load' rfl 23 (.tmp 84) rfl _ rfl (.slice (some ⟨aA, oA, none⟩) nf cc) LC.out ?_
        go_simp
        go_big_quiet_step ((intro _; rfl))
        refine wpQuiet_load' rfl 3 (.tmp 86) rfl _ rfl (.int .i64 (k : Int)) LA.out ?_
        go_simp
        iterate 2 go_big_quiet_step ((intro _; rfl))
        refine wpQuiet_load' rfl 3 (.tmp 89) rfl _ rfl (.int .i64 q) LQ.out ?_
        go_simp
        iterate 8 go_big_quiet_step ((intro _; rfl))
        refine wpQuiet_nil ?_
        intro w6 hb6
        go_wp2_with fail
        go_ret
        exact ⟨by rw [HR.out]; simp [rightB, h1, h2, HFL.out, HPO.out], bt HB1.out hb6⟩
  have g16 : (op == 16) = false := by simpa using h16
  have n16 := Lib.hid h16
  clear h16
  by_cases h17 : op = 17
  · subst h17
    clear g0 n0 g1 n1 g2 n2 g3 n3 g4 n4 g5 n5 g6 n6 g7 n7 g8 n8 g9 n9 g10 n10 g11 n11 g12 n12 g13 n13 g14 n14 g15 n15 g16 n16
    cases h1 : (a == 0)
    · go_wp2_with (first
        | (go_at_call 60; refine (within_is _ _ _ _).mono ?_; rintro e w2 ⟨rfl, rfl⟩)
        | (go_at_call 58; refine (indexes_is _ _ (by omega) _).mono ?_; rintro e w2 ⟨rfl, rfl⟩))
      go_ret
      exact ⟨by rw [HR.out]; simp [rightB, h1], HB1.out⟩
    · go_wp2_with (first
        | (go_at_call 60; refine (within_is _ _ _ _).mono ?_; rintro e w2 ⟨rfl, rfl⟩)
        | (go_at_call 58; refine (indexes_is _ _ (by omega) _).mono ?_; rintro e w2 ⟨rfl, rfl⟩))
      go_ret
      exact ⟨by rw [HR.out]; simp [rightB, h1], HB1.out⟩
  have g17 : (op == 17) = false := by simpa using h17
  have n17 := Lib.hid h17
  clear h17
  by_cases h18 : op = 18
  · subst h18
    clear g0 n0 g1 n1 g2 n2 g3 n3 g4 n4 g5 n5 g6 n6 g7 n7 g8 n8 g9 n9 g10 n10 g11 n11 g12 n12 g13 n13 g14 n14 g15 n15 g16 n16 g17 n17
    cases h1 : (a == 0)
    · go_wp2_with (first
        | (go_at_call 60; refine (within_is _ _ _ _).mono ?_; rintro e w2 ⟨rfl, rfl⟩)
        | (go_at_call 58; refine (indexes_is _ _ (by omega) _).mono ?_; rintro e w2 ⟨rfl, rfl⟩))
      go_ret
      exact ⟨by rw [HR.out]; simp [rightB, h1], HB1.out⟩
    · go_wp2_with (first
        | (go_at_call 60; refine (within_is _ _ _ _).mono ?_; rintro e w2 ⟨rfl, rfl⟩)
        | (go_at_call 58; refine (indexes_is _ _ (by omega) _).mono ?_; rintro e w2 ⟨rfl, rfl⟩))
      go_ret
      exact ⟨by rw [HR.out]; simp [rightB, h1], HB1.out⟩
  have g18 : (op == 18) = false := by simpa using h18
  have n18 := Lib.hid h18
  clear h18
  have hrf : r = false := by
    rw [HR.out]
    simp [rightB, n0.out, n1.out, n2.out, n3.out, n4.out, n5.out, n6.out, n7.out, n8.out, n9.out, n10.out, n11.out, n12.out, n13.out, n14.out, n15.out, n16.out, n17.out, n18.out]
  go_wp2_with fail
  go_ret
  exact ⟨by rw [hrf]; rfl, HB1.out⟩
end Go.Proofs.YtbdknncmlcbbpaaDoor
