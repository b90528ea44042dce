/-
  The three codes of scorialaw08's 'lives', reckoned.
-/
import Derived.Test.YtdhmaopodcccmaaDoorG24
import Derived.Test.YtdhmaopodcccmaaDoorG21
set_option linter.unusedVariables false
namespace Go.Proofs.YtdhmaopodcccmaaDoor
open Go.RowKit WM TR KM

def liv1 : List Ins := [⟨0, 3, 0⟩, ⟨10, 0, 0⟩]
def liv2 : List Ins := [⟨12, 4, 0⟩, ⟨0, 1, 0⟩, ⟨11, 0, 0⟩, ⟨13, 0, 0⟩, ⟨0, 0, 0⟩, ⟨10, 0, 0⟩]
def liv3 : List Ins := [⟨10, 0, 0⟩]
set_option maxRecDepth 100000 in
theorem liv1_hts : hOf 0 [⟨0, 1, liv1⟩] ⟨0, 1, liv1⟩ = some [0, 1] := by decide +kernel
set_option maxRecDepth 100000 in
theorem liv2_hts : hOf 0 [⟨0, 1, liv2⟩] ⟨0, 1, liv2⟩ = some [0, 0, 1, -1, 0, 1] := by decide +kernel
set_option maxRecDepth 100000 in
theorem liv3_hts : hOf 0 [⟨0, 1, liv3⟩] ⟨0, 1, liv3⟩ = none := by decide +kernel
end Go.Proofs.YtdhmaopodcccmaaDoor

/-
  A law's code of one function.
-/
namespace Go.Proofs.YtdhmaopodcccmaaDoor
open Go.RowKit WM TR KM

set_option maxRecDepth 100000 in
set_option maxHeartbeats 2000000 in
theorem one_is (A : Option Addr) (c : Nat) (body : List Ins) (w : World) (hbo : BodyR w (fun b => b < w.heap.size) ⟨0, 1, A, c, body⟩) :
    Calls Tryd.prog 40 #[.slice A body.length c] w fun e w' => ∃ g, e = .returned (.agg #[.int .i64 0, .slice (some ⟨g, 0, none⟩) 1 1]) ∧ CoR w' (fun b => b < w'.heap.size) (some ⟨g, 0, none⟩) 1 [⟨0, 1, A, c, body⟩] ∧ Below w.heap.size w w' := by
  obtain ⟨n, hn⟩ : ∃ n, body.length = n := ⟨_, rfl⟩
  obtain ⟨B, hB⟩ : ∃ B, B = w.heap.size := ⟨_, rfl⟩
  obtain ⟨W2, hW2⟩ : ∃ W, W = (w.alloc (.cells #[.int .i64 0, .slice none 0 0] 25)).alloc (.cells #[.int .i64 0, .int .i64 1, .slice A n c, .slice none 0 0] 51) := ⟨_, rfl⟩
  have hb2 : Below w.heap.size w W2 := by rw [hW2]; exact ba (below_new _ _) _
  have kr : Blk W2 B 25 #[.int .i64 0, .slice none 0 0] := by rw [hW2, hB]; exact (Blk.new _ _ _).alloc _
  have kf : Blk W2 (B + 1) 51 #[.int .i64 0, .int .i64 1, .slice A n c, .slice none 0 0] := by rw [hW2, hB, ← size_alloc w (.cells #[.int .i64 0, .slice none 0 0] 25)]; exact Blk.new _ _ _
  have hco : CoR W2 (fun b => b < W2.heap.size ∧ b ≠ B) (some ⟨B + 1, 0, none⟩) 1 [⟨0, 1, A, c, body⟩] := by
    refine ⟨⟨rfl, fun _ => ⟨_, rfl, ⟨kf.lt, by show B + 1 ≠ B; omega⟩, fun j u hu => ?_⟩⟩, Nat.le_refl _, by simp, fun e he => ?_⟩
    · have h1 := kf.cell j
      have h2 : (entsC [(⟨0, 1, A, c, body⟩ : Ent)])[j]? = (#[Value.int .i64 0, .int .i64 1, .slice A n c, .slice none 0 0])[j]? := by
        rw [← hn]; simp [entsC, entC]
      rw [h2] at hu
      rw [Addr.add_lit, Nat.zero_add, h1]; exact hu
    · rw [List.mem_singleton.1 he]
      exact hbo.keep (fun b hb' => hb2.block b hb') fun b (hb' : b < w.heap.size) => ⟨Nat.lt_of_lt_of_le hb' hb2.size, by omega⟩
  obtain ⟨r0, r1, q0, q1⟩ : W2.cell? ⟨B, 0, none⟩ = some (.int .i64 0) ∧ W2.cell? ⟨B, 1, none⟩ = some (.slice none 0 0) ∧ W2.frozen? ⟨B, 0, none⟩ = false ∧ W2.frozen? ⟨B, 1, none⟩ = false := ⟨kr.cell 0, kr.cell 1, kr.frozen 0, kr.frozen 1⟩
  have HW2 := Lib.hid hW2
  have HB2 := Lib.hid hb2
  have HCO := Lib.hid hco
  have HB := Lib.hid hB
  rw [hn]
  have KR := Lib.hid kr
  clear hW2 hb2 hco kr kf hbo
  go_enter Tryd.func40, Tryd.ntmps40
  go_upto_region 1 with fail
  obtain ⟨Wr, hWr⟩ : ∃ W, W = w.alloc (.cells #[.int .i64 0, .slice none 0 0] 25) := ⟨_, rfl⟩
  have hws : Wr.heap.size = B + 1 := by rw [hWr, hB]; simp
  have hw22 : W2 = Wr.alloc (.cells #[.int .i64 0, .int .i64 1, .slice A n c, .slice none 0 0] 51) := by rw [HW2.out, hWr]
  obtain ⟨Wz, hWz⟩ : ∃ Wz, Wz = (W2.setCell ⟨B, 0, none⟩ (.int .i64 0)).setCell ⟨B, 1, none⟩ (.slice (some ⟨B + 1, 0, none⟩) 1 1) := ⟨_, rfl⟩
  have kz : Blk Wz B 25 #[.int .i64 0, .slice (some ⟨B + 1, 0, none⟩) 1 1] := by
    rw [hWz]
    have := (KR.out.set_ 0 (.int .i64 0)).set_ 1 (.slice (some ⟨B + 1, 0, none⟩) 1 1)
    simpa using this
  have z0 : Wz.cell? ⟨B, 0, none⟩ = some (.int .i64 0) := kz.cell 0
  have z1 : Wz.cell? ⟨B, 1, none⟩ = some (.slice (some ⟨B + 1, 0, none⟩) 1 1) := kz.cell 1
  have HBZ : Hid (Below w.heap.size w Wz) := Lib.hid (by rw [hWz]; exact below_set (below_set HB2.out (Nat.le_of_eq hB.symm) _ _) (Nat.le_of_eq hB.symm) _ _)
  have HCZ : Hid (CoR Wz (fun b => b < Wz.heap.size) (some ⟨B + 1, 0, none⟩) 1 [⟨0, 1, A, c, body⟩]) := Lib.hid (by
    rw [hWz]
    refine HCO.out.keep (Keeps.setCell (Keeps.setCell (Keeps.refl _ _) (fun h => h.2 rfl) _) (fun h => h.2 rfl) _) fun b hb => ?_
    simpa using hb.1)
  rw [hw22] at r0 r1 q0 q1
  rw [← hWr, ← hB]
  clear hWr kz
  have HWS := Lib.hid hws
  have HW22 := Lib.hid hw22
  have HWZ := Lib.hid hWz
  clear hws hw22 hB hWz
  go_wp2_with fail
  rw [HWS.out, ← HW22.out, ← HWZ.out]
  refine bodyPost_ret (v := .agg #[.int .i64 0, .slice (some ⟨B + 1, 0, none⟩) 1 1]) (by simp [results, Tryd.results40, go_sem, z0, z1]) rfl ⟨B + 1, rfl, HCZ.out, HBZ.out⟩
end Go.Proofs.YtdhmaopodcccmaaDoor
