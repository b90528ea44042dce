/-
  THE COMPARISON OF DIGESTS of the reference package, by its contract, at equal lists.
-/
import Derived.Test.YtlemelfepalnfaaSame
import Derived.ChangeKeysEq
namespace Go.Proofs.Ytlemelfepalnfaa
open Go.RowKit WM

theorem wpQuiet_load {P : Program} {ops : Array Oper} {C : World → Prop} {Q : Act → Prop} {a : Act} {o : Oper} {rest : List Oper} (hgd : o.guard = none) (ty : TypeId) (x : Operand) (ho : o.op = .load ty x) (ad : Addr) (hx : a.eval x = .pointer (some ad))
    (v : Value) (hrun : ∀ w, C w → (Instr.loadAt ty (.pointer (some ad))).run P w = .ok v w) (h : wpQuiet P ops C Q rest (a.put o.dst v)) : wpQuiet P ops C Q (o :: rest) a := by
  have hw : Region.wanted o (yielded ops a.tmps) = true := by simp [Region.wanted, hgd]
  unfold wpQuiet
  rw [if_pos hw]
  refine ⟨v, fun w hc => ?_, h⟩
  unfold Oper.quietAt execOp
  simp only [ho, hx, Sem.run_bind, hrun w hc, Result.andThen_ok]
  exact ⟨rfl, rfl⟩

theorem Try.plain5 : Try.prog.plainKey 5 = true := by kernel_rfl
theorem Try.cells5 : Try.prog.cellsOf 5 = 1 := by kernel_rfl
theorem eqItems_same (d : List UInt8) (W : World) : ∀ is : List Nat, (∀ i ∈ is, i < d.length) → (Op.eqItems 9999 5 1 (bs d).toArray (bs d).toArray is).run Try.prog W = .ok true W := by
  intro is
  induction is with
  | nil => intro _; simp [Op.eqItems]
  | cons i is ih =>
    intro h
    have hi := h i (by simp)
    have hg : (bs d).toArray[i * 1]? = some (.int .u8 (d[i].toNat : Int)) := by rw [Nat.mul_one]; simpa using bs_get d i hi
    have hp := run_part_plain (P := Try.prog) W Try.plain5 hg
    have he := run_equalIn_int (P := Try.prog) W 9998 5 .u8 .u8 (d[i].toNat : Int) (d[i].toNat : Int) Try.underlying5
    simp only [Op.eqItems, Sem.run_bind, hp, Result.andThen_ok, he]
    simpa using ih (fun j hj => h j (by simp [hj]))

theorem eq_digest (d : List UInt8) (h : d.length = 16) (W : World) : (binOp .neq 57 (.agg (bs d).toArray) (.agg (bs d).toArray)).run Try.prog W = .ok (.bool false) W := by
  obtain ⟨i0, hi, _⟩ := info_parts Try.info5
  have h1 := run_equalIn_array (P := Try.prog) W 9999 (bs d).toArray (bs d).toArray Try.arr57 hi
  rw [Try.cells5, eqItems_same d W _ (fun i hi => by rw [List.mem_range] at hi; omega)] at h1
  simp only [binOp]
  simp [Op.equal, Op.maxDepth, h1]

set_option maxHeartbeats 400000 in
theorem sameDigests (B1 B2 : Nat) (A1 A2 : Option Addr) (c1 c2 : Nat) (l : List (List UInt8)) (w : World) (h1 : Reads w B1 16 A1 l.length (dg l)) (h2 : Reads w B2 16 A2 l.length (dg l)) (hl : l.length ≤ 140737488355328) (h16 : ∀ x ∈ l, x.length = 16) :
    Calls Try.prog 36 #[.slice A1 l.length c1, .slice A2 l.length c2] w fun e w' => e = .returned (.bool true) ∧ Below w.heap.size w w' := by
  have H1 := Lib.hid h1
  have H2 := Lib.hid h2
  have H16 := Lib.hid h16
  clear h1 h2 h16
  go_enter Try.func36, Try.ntmps36
  go_wp2
  go_loopw [5] (fun i wr => ∃ k m : Nat, k ≤ l.length ∧ i = .int .i64 k ∧ wr = w.drewN m) (fun i _ => l.length - (intOf i).toNat)
  case atStart => exact ⟨0, 0, Nat.zero_le _, rfl, rfl⟩
  case round =>
    obtain ⟨k, m, hk, rfl, hwr⟩ := hrel
    have HW := Lib.hid hwr
    by_cases hlt : k < l.length
    · obtain ⟨b1, off1, rfl, _, hc1⟩ := (hwr ▸ H1.out.drewN m : Reads wr B1 16 A1 l.length (dg l)).lit (by omega)
      obtain ⟨b2, off2, rfl, _, hc2⟩ := (hwr ▸ H2.out.drewN m : Reads wr B2 16 A2 l.length (dg l)).lit (by omega)
      clear hwr
      have hl16 := H16.out _ (List.getElem_mem hlt)
      obtain ⟨cs, hcs⟩ : ∃ cs, cs = (bs l[k]).toArray := ⟨_, rfl⟩
      have hne := eq_digest l[k] hl16
      rw [← hcs] at hne
      have hx1 : ∀ j : Nat, (Instr.loadAt 57 (.pointer (some ⟨b1, off1 + k * 16, none⟩))).run Try.prog (wr.drewN j) = .ok (.agg cs) (wr.drewN j) := fun j => by
        rw [hcs]
        exact run_loadAt_mid _ b1 (off1 + k * 16) 57 (bs l[k]) _ (fun i u hu => by have := hc1 _ u (dg_at l H16.out k hlt i u hu); rwa [← Nat.add_assoc] at this) Try.arr57 rfl (by rw [bs_length, hl16]; exact Try.info57)
      have hx2 : ∀ j : Nat, (Instr.loadAt 57 (.pointer (some ⟨b2, off2 + k * 16, none⟩))).run Try.prog (wr.drewN j) = .ok (.agg cs) (wr.drewN j) := fun j => by
        rw [hcs]
        exact run_loadAt_mid _ b2 (off2 + k * 16) 57 (bs l[k]) _ (fun i u hu => by have := hc2 _ u (dg_at l H16.out k hlt i u hu); rwa [← Nat.add_assoc] at this) Try.arr57 rfl (by rw [bs_length, hl16]; exact Try.info57)
      clear hc1 hc2 hcs hl16
      have hk1 : (k : Int) < (l.length : Int) := by omega
      go_wp2
      refine wp_region_quiet_lit (by kernel_rfl) (by kernel_rfl) ?_
      iterate 3 go_big_quiet_step (fail)
      refine wpQuiet_load rfl 57 (.tmp 19) rfl _ rfl (.agg cs) (by rintro W ⟨j, rfl⟩; exact hx1 j) ?_
      go_simp
      iterate 3 go_big_quiet_step (fail)
      refine wpQuiet_load rfl 57 (.tmp 23) rfl _ rfl (.agg cs) (by rintro W ⟨j, rfl⟩; exact hx2 j) ?_
      go_simp
      go_big_quiet_step (fail)
      refine wpQuiet_nil ?_
      intro nq
      go_wp2
      go_roundw
      case rel => exact ⟨k + 1, m + nq, by omega, by go_num, by rw [HW.out, World.drewN_drewN]⟩
      case measure => simp [intOf]; omega
    · clear hwr
      obtain rfl : k = l.length := by omega
      go_wp2
      go_ret
      exact ⟨rfl, by rw [HW.out]; exact below_drewN (Below.refl _ _) _⟩
end Go.Proofs.Ytlemelfepalnfaa
