/-
  The reference's Pops, Pushes and Ends.
-/
import Derived.Test.YtdhmaopodcccmaaDoorG13
set_option linter.unusedVariables false
namespace Go.Proofs.YtdhmaopodcccmaaDoor
open Go.RowKit WM TR KM

set_option maxRecDepth 100000 in
set_option maxHeartbeats 16000000 in
theorem rpops_is (x : Ins) (hop : 0 ≤ x.op ∧ x.op < 19) (w : World) : Calls Tryd.prog 27 #[.agg #[.int .i64 x.op, .int .i64 x.a, .int .i64 x.b]] w fun e w' => e = .returned (.int .i64 (pops x)) ∧ Below w.heap.size w w' := by
  obtain ⟨z, hz⟩ : ∃ z, z = w.heap.size := ⟨_, rfl⟩
  obtain ⟨W1, hW1⟩ : ∃ W1, W1 = w.alloc (.cells #[.int .i64 x.op, .int .i64 x.a, .int .i64 x.b] 54) := ⟨_, rfl⟩
  have k5 : Blk W1 z 54 #[.int .i64 x.op, .int .i64 x.a, .int .i64 x.b] := by rw [hW1, hz]; exact Blk.new _ _ _
  obtain ⟨e0, e1, e2⟩ : W1.cell? ⟨z, 0, none⟩ = some (.int .i64 x.op) ∧ W1.cell? ⟨z, 1, none⟩ = some (.int .i64 x.a) ∧ W1.cell? ⟨z, 2, none⟩ = some (.int .i64 x.b) := ⟨k5.cell 0, k5.cell 1, k5.cell 2⟩
  have HB1 : Hid (Below w.heap.size w W1) := Lib.hid (by rw [hW1]; exact below_new _ _)
  have HW1 := Lib.hid hW1
  have HZ := Lib.hid hz
  clear k5 hW1 hz
  obtain ⟨op, a, b⟩ := x
  simp only at *
  have h19 : op = 0 ∨ op = 1 ∨ op = 2 ∨ op = 3 ∨ op = 4 ∨ op = 5 ∨ op = 6 ∨ op = 7 ∨ op = 8 ∨ op = 9 ∨ op = 10 ∨ op = 11 ∨ op = 12 ∨ op = 13 ∨ op = 14 ∨ op = 15 ∨ op = 16 ∨ op = 17 ∨ op = 18 := by omega
  clear hop
  rcases h19 with rfl | rfl | rfl | rfl | rfl | rfl | rfl | rfl | rfl | rfl | rfl | rfl | rfl | rfl | rfl | rfl | rfl | rfl | rfl <;>
    (go_enter Tryd.func27, Tryd.ntmps27
     go_upto_region 1 with fail
     rw [← HW1.out]
     try rw [← HZ.out]
     go_wp2_with fail
     go_ret
     refine ⟨?_, HB1.out⟩
     first | rfl | (simp [pops, pushes, ends, effAt, eff]))
set_option maxRecDepth 100000 in
set_option maxHeartbeats 16000000 in
theorem rpushes_is (x : Ins) (hop : 0 ≤ x.op ∧ x.op < 19) (w : World) : Calls Tryd.prog 28 #[.agg #[.int .i64 x.op, .int .i64 x.a, .int .i64 x.b]] w fun e w' => e = .returned (.int .i64 (pushes x)) ∧ Below w.heap.size w w' := by
  obtain ⟨z, hz⟩ : ∃ z, z = w.heap.size := ⟨_, rfl⟩
  obtain ⟨W1, hW1⟩ : ∃ W1, W1 = w.alloc (.cells #[.int .i64 x.op, .int .i64 x.a, .int .i64 x.b] 54) := ⟨_, rfl⟩
  have k5 : Blk W1 z 54 #[.int .i64 x.op, .int .i64 x.a, .int .i64 x.b] := by rw [hW1, hz]; exact Blk.new _ _ _
  obtain ⟨e0, e1, e2⟩ : W1.cell? ⟨z, 0, none⟩ = some (.int .i64 x.op) ∧ W1.cell? ⟨z, 1, none⟩ = some (.int .i64 x.a) ∧ W1.cell? ⟨z, 2, none⟩ = some (.int .i64 x.b) := ⟨k5.cell 0, k5.cell 1, k5.cell 2⟩
  have HB1 : Hid (Below w.heap.size w W1) := Lib.hid (by rw [hW1]; exact below_new _ _)
  have HW1 := Lib.hid hW1
  have HZ := Lib.hid hz
  clear k5 hW1 hz
  obtain ⟨op, a, b⟩ := x
  simp only at *
  have h19 : op = 0 ∨ op = 1 ∨ op = 2 ∨ op = 3 ∨ op = 4 ∨ op = 5 ∨ op = 6 ∨ op = 7 ∨ op = 8 ∨ op = 9 ∨ op = 10 ∨ op = 11 ∨ op = 12 ∨ op = 13 ∨ op = 14 ∨ op = 15 ∨ op = 16 ∨ op = 17 ∨ op = 18 := by omega
  clear hop
  rcases h19 with rfl | rfl | rfl | rfl | rfl | rfl | rfl | rfl | rfl | rfl | rfl | rfl | rfl | rfl | rfl | rfl | rfl | rfl | rfl <;>
    (go_enter Tryd.func28, Tryd.ntmps28
     go_upto_region 1 with fail
     rw [← HW1.out]
     try rw [← HZ.out]
     go_wp2_with fail
     go_ret
     refine ⟨?_, HB1.out⟩
     first | rfl | (simp [pops, pushes, ends, effAt, eff]))
set_option maxRecDepth 100000 in
set_option maxHeartbeats 16000000 in
theorem rends_is (x : Ins) (hop : 0 ≤ x.op ∧ x.op < 19) (w : World) : Calls Tryd.prog 29 #[.agg #[.int .i64 x.op, .int .i64 x.a, .int .i64 x.b]] w fun e w' => e = .returned (.bool (ends x)) ∧ Below w.heap.size w w' := by
  obtain ⟨z, hz⟩ : ∃ z, z = w.heap.size := ⟨_, rfl⟩
  obtain ⟨W1, hW1⟩ : ∃ W1, W1 = w.alloc (.cells #[.int .i64 x.op, .int .i64 x.a, .int .i64 x.b] 54) := ⟨_, rfl⟩
  have k5 : Blk W1 z 54 #[.int .i64 x.op, .int .i64 x.a, .int .i64 x.b] := by rw [hW1, hz]; exact Blk.new _ _ _
  obtain ⟨e0, e1, e2⟩ : W1.cell? ⟨z, 0, none⟩ = some (.int .i64 x.op) ∧ W1.cell? ⟨z, 1, none⟩ = some (.int .i64 x.a) ∧ W1.cell? ⟨z, 2, none⟩ = some (.int .i64 x.b) := ⟨k5.cell 0, k5.cell 1, k5.cell 2⟩
  have HB1 : Hid (Below w.heap.size w W1) := Lib.hid (by rw [hW1]; exact below_new _ _)
  have HW1 := Lib.hid hW1
  have HZ := Lib.hid hz
  clear k5 hW1 hz
  obtain ⟨op, a, b⟩ := x
  simp only at *
  have h19 : op = 0 ∨ op = 1 ∨ op = 2 ∨ op = 3 ∨ op = 4 ∨ op = 5 ∨ op = 6 ∨ op = 7 ∨ op = 8 ∨ op = 9 ∨ op = 10 ∨ op = 11 ∨ op = 12 ∨ op = 13 ∨ op = 14 ∨ op = 15 ∨ op = 16 ∨ op = 17 ∨ op = 18 := by omega
  clear hop
  rcases h19 with rfl | rfl | rfl | rfl | rfl | rfl | rfl | rfl | rfl | rfl | rfl | rfl | rfl | rfl | rfl | rfl | rfl | rfl | rfl <;>
    (go_enter Tryd.func29, Tryd.ntmps29
     go_upto_region 1 with fail
     rw [← HW1.out]
     try rw [← HZ.out]
     go_wp2_with fail
     go_ret
     refine ⟨?_, HB1.out⟩
     first | rfl | (simp [pops, pushes, ends, effAt, eff]))
end Go.Proofs.YtdhmaopodcccmaaDoor
