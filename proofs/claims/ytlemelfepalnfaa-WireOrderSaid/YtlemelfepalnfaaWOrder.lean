/-
  THE WALK of WireOrder, the sanity check by its contract.
-/
import Derived.Test.YtlemelfepalnfaaWRound
import Derived.Test.YtlemelfepalnfaaOrd
import Derived.Deep.RegionWith
import Derived.Deep.DeepCutAuto
import Derived.WalkLawsBesides
import Derived.Deep.QuietTactic
import Derived.BigQuiet
namespace Go.Proofs.Ytlemelfepalnfaa
open Go.RowKit WM

def strOf (l : List UInt8) : ByteArray := ⟨l.toArray⟩

theorem undrew {w w' : World} (h : Below w.drew.heap.size w.drew w') : Below w.heap.size w w' := ⟨h.os, h.tape, h.output, h.size, h.block⟩
theorem toList_data (s : ByteArray) : s.toList = s.data.toList := by
  exact ByteArray.toList_eq s
theorem strOf_toList (l : List UInt8) : (strOf l).toList = l := by rw [toList_data]; rfl
theorem strOf_size (l : List UInt8) : (strOf l).size = l.length := rfl
theorem extract_all (s : ByteArray) : s.extract 0 s.size = s := by simp
theorem strOf_extract (l : List UInt8) (k : Nat) : ((strOf l).extract 0 k).toList = l.take k := by
  rw [toList_data]
  simp [strOf]
theorem eq_enc {m n : Int} (hm : inRange m) (hn : inRange n) : (enc m == enc n) = (m == n) := by
  by_cases h : m = n
  · subst h; rw [beq_self_eq_true, beq_self_eq_true]
  · have h1 : ¬ enc m = enc n := fun e => h (enc_inj hm hn e)
    rw [beq_eq_false_iff_ne.2 h1, beq_eq_false_iff_ne.2 h]
theorem pre_enc {m n : Int} (hm : inRange m) (hn : inRange n) (k : Nat) (hk : k = min (enc m).length (enc n).length) : ((enc m).take k == (enc n).take k) = (m == n) := by
  by_cases h : m = n
  · subst h; rw [beq_self_eq_true, beq_self_eq_true]
  · have h1 : ¬ (enc m).take k = (enc n).take k := fun e => h (enc_prefix hm hn k hk e)
    rw [beq_eq_false_iff_ne.2 h1, beq_eq_false_iff_ne.2 h]

/-- A region that draws its order, each of whose operations yields one value whatever the world, below a block as it was. -/
theorem wp_region_below {P : Program} {id : Nat} {Q : Exit → Act → World → Prop} {a : Act} {w : World} {l : List Oper} (w0 : World) (hw : Below w0.heap.size w0 w) (hm : P.follows .mixedOrders = true) (hB : Region.lexB .any l.toArray = true)
    (h : wpQuiet P l.toArray (fun w' => Below w0.heap.size w0 w') (fun a' => ∀ w', Below w0.heap.size w0 w' → Q .normal a' w') l a) : (Code.region id l.toArray true).wp P Q a w :=
  wp_region_quiet (C := fun w' => Below w0.heap.size w0 w') hm hB hw.drew (by simpa using h)

/-- Int, and what the string made of its result is, in whatever world that leaves its memory alone. -/
theorem encIntS (n : Int) (w : World) (hr : inRange n) :
    Calls Try.prog 14 #[.int .i64 n] w fun e w' => ∃ A c, e = .returned (.slice A (enc n).length c) ∧ (∀ W, Below w'.heap.size w' W → (convert 28 9 (.slice A (enc n).length c)).run Try.prog W = .ok (.string (strOf (enc n))) W) ∧ Below w'.heap.size w' w' ∧ Below w.heap.size w w' :=
  (encInt n w hr).mono fun _ _ ⟨A, c, he, ho, hb⟩ => ⟨A, c, he, fun _ h => str_of (enc n) c ((Reads.of_own ho).later h), Below.refl _ _, hb⟩

set_option maxRecDepth 100000 in
set_option maxHeartbeats 3200000 in
theorem walkOrder (hsan : Sane) (m n : Int) (hm : inRange m) (hn : inRange n) (w : World) :
    Calls Try.prog 5 #[.int .i64 m, .int .i64 n] w fun e w' => e = .returned (.bool true) ∧ Below w.heap.size w w' := by
  have HSA := Lib.hid hsan
  have HM := Lib.hid hm
  have HN := Lib.hid hn
  clear hsan hm hn
  go_enter Try.func5, Try.ntmps5
  go_upto_region 1 with (fail)
  go_cut [5, 6] (fun s5 s6 wx => s5 = .string (strOf (enc m)) ∧ s6 = .string (strOf (enc n)) ∧ Below w.heap.size w wx)
  case first =>
    go_region_with (first
      | (go_at_call_of 14 (Value.int .i64 m); refine (encIntS m _ HM.out).mono ?_; rintro e w1 ⟨A1, c1, rfl, hcv1, hrf1, hb1⟩)
      | (go_at_call_of 14 (Value.int .i64 n); refine (encIntS n _ HN.out).mono ?_; rintro e w2 ⟨A2, c2, rfl, hcv2, hrf2, hb2⟩))
    all_goals
      go_wp2_with fail
      go_meet
      exact ⟨rfl, rfl, undrew (below_then hb1 hb2)⟩
  case rest =>
    obtain ⟨rfl, rfl, hbx⟩ := hcut
    have HBX := Lib.hid hbx
    clear hbx
    obtain ⟨S, hS⟩ : ∃ S, S = strOf (enc m) := ⟨_, rfl⟩
    obtain ⟨T, hT⟩ : ∃ T, T = strOf (enc n) := ⟨_, rfl⟩
    have h1 : Op.bytesLess S.toList T.toList = decide (m < n) := by rw [hS, hT, strOf_toList, strOf_toList]; exact less_enc HM.out HN.out
    have h2 : (S.toList == T.toList) = (m == n) := by rw [hS, hT, strOf_toList, strOf_toList]; exact eq_enc HM.out HN.out
    have h3 : ∀ k : Nat, k = min S.size T.size → ((S.extract 0 k).toList == (T.extract 0 k).toList) = (m == n) := by
      intro k hk
      rw [hS, hT, strOf_extract, strOf_extract]
      rw [hS, hT, strOf_size, strOf_size] at hk
      exact pre_enc HM.out HN.out k hk
    rw [← hS, ← hT]
    clear hS hT
    by_cases hlt : T.size < S.size
    · have h4 := h3 T.size (by omega)
      rw [extract_all] at h4
      clear h3
      go_wp2_with fail
      refine wp_region_below w HBX.out (by kernel_rfl) (by kernel_rfl) ?_
      repeat (go_big_quiet_step (first | (intro hw'; exact (HSA.out _).mono fun e w'' ⟨he, hb⟩ => ⟨he, below_then hw' hb⟩) | (intro _; rfl)))
      refine wpQuiet_nil ?_
      intro w' hb
      have HB := Lib.hid hb
      clear hb
      go_wp2_with fail
      go_ret
      exact ⟨rfl, HB.out⟩
    · have h4 := h3 S.size (by omega)
      rw [extract_all] at h4
      clear h3
      go_wp2_with fail
      refine wp_region_below w HBX.out (by kernel_rfl) (by kernel_rfl) ?_
      repeat (go_big_quiet_step (first | (intro hw'; exact (HSA.out _).mono fun e w'' ⟨he, hb⟩ => ⟨he, below_then hw' hb⟩) | (intro _; rfl)))
      refine wpQuiet_nil ?_
      intro w' hb
      have HB := Lib.hid hb
      clear hb
      go_wp2_with fail
      go_ret
      exact ⟨rfl, HB.out⟩
end Go.Proofs.Ytlemelfepalnfaa
