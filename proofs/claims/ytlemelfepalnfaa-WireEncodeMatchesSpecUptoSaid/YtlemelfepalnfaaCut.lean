/-
  CUTS of a slice of bytes, as equations for the walk: the new slice reads as the part of the list; and a string out of bytes.
-/
import Derived.Test.YtlemelfepalnfaaGetInt
import Derived.Laws.BytesString
namespace Go.Proofs.Ytlemelfepalnfaa
open Go.RowKit WM

theorem Try.sl28 : Try.prog.underlying 28 = some (.slice (Try.prog.elem 28)) := by kernel_rfl
theorem Try.elem28 : Try.prog.elem 28 = 5 := by kernel_rfl

theorem reads_part {w : World} {B n c lo m : Nat} {A A' : Option Addr} {xs : List Value} (h : Reads w B 1 A n xs) (hA : A' = (if c = lo then A else A.map (·.add (lo * 1)))) (hm : lo + m ≤ n) (hc : n ≤ c) :
    Reads w B 1 A' m ((xs.drop lo).take m) := by
  have h1 := h.cut (k := lo) (cap := c) (by omega) hc
  rw [← hA] at h1
  refine ⟨by rw [List.length_take, List.length_drop, h.1]; omega, fun hp => ?_⟩
  obtain ⟨ad, e, hb, hcell⟩ := h1.2 (by omega)
  refine ⟨ad, e, hb, fun j u hu => hcell j u ?_⟩
  rw [Nat.mul_one, ← hu, List.getElem?_take, if_pos]
  have := (List.getElem?_eq_some_iff.1 hu).1
  rw [List.length_take] at this
  omega

/-- 'b[lo:hi]' -/
theorem cut_lh (A : Option Addr) (n c lo hi : Nat) (h1 : lo ≤ hi) (h2 : hi ≤ c) : ∃ A', A' = (if c = lo then A else A.map (·.add (lo * 1))) ∧
    ∀ W : World, (Instr.sliceAt 28 (.slice A n c) (some (.int .i64 (lo : Int))) (some (.int .i64 (hi : Int))) none).run Try.prog W = .ok (.slice A' (hi - lo) (c - lo)) W := by
  refine ⟨_, rfl, fun W => ?_⟩
  rw [run_sliceAt_slice W 28 _ _ _ _ Try.sl28, run_slice_lh W 28 A n c Try.sl28 .i64 .i64 lo hi (by omega) (by omega) (by omega), Try.elem28, Try.size5]
  simp [sliced]
/-- 'b[lo:]' -/
theorem cut_l (A : Option Addr) (n c lo : Nat) (h1 : lo ≤ n) : ∃ A', A' = (if c = lo then A else A.map (·.add (lo * 1))) ∧
    ∀ W : World, (Instr.sliceAt 28 (.slice A n c) (some (.int .i64 (lo : Int))) none none).run Try.prog W = .ok (.slice A' (n - lo) (c - lo)) W := by
  refine ⟨_, rfl, fun W => ?_⟩
  rw [run_sliceAt_slice W 28 _ _ _ _ Try.sl28, run_slice_l W 28 A n c Try.sl28 .i64 lo (by omega) (by omega), Try.elem28, Try.size5]
  simp [sliced]

/-- 'string(b)' -/
theorem str_of {w : World} {B : Nat} {A : Option Addr} (l : List UInt8) (c : Nat) (h : Reads w B 1 A l.length (bs l)) : (convert 28 9 (.slice A l.length c)).run Try.prog w = .ok (.string ⟨l.toArray⟩) w := by
  by_cases h0 : l.length = 0
  · have : l = [] := List.eq_nil_of_length_eq_zero h0
    subst this
    show (convert 28 9 (.slice A 0 c)).run Try.prog w = _
    cases A with
    | none =>
      rw [run_convert_bytes_string w 28 9 5 none 0 c Try.underlying28 Try.underlying5 Try.underlying9]
      rfl
    | some a => exact run_convert_bytes_back w 28 9 5 a c [] Try.underlying28 Try.underlying5 Try.underlying9 (fun j hj => absurd hj (by simp))
  · obtain ⟨b, off, rfl, _, hc⟩ := h.lit (by omega)
    exact run_convert_bytes_back w 28 9 5 ⟨b, off, none⟩ c l Try.underlying28 Try.underlying5 Try.underlying9 (fun j hj => by rw [Addr.add_lit]; exact hc j _ (bs_get l j hj))

def dStr : Dec (List UInt8) → Value
  | .more => .tuple #[.string ⟨#[]⟩, .int .i64 0, .int .i64 3]
  | .form => .tuple #[.string ⟨#[]⟩, .int .i64 0, .int .i64 2]
  | .ok s u => .tuple #[.string ⟨s.toArray⟩, .int .i64 (u : Int), .int .i64 0]

theorem getBytes (B : Nat) (A : Option Addr) (c : Nat) (l : List UInt8) (w : World) (ha : Reads w B 1 A l.length (bs l)) (hlc : l.length ≤ c) (hl : l.length ≤ 140737488355328) :
    Calls Try.prog 26 #[.slice A l.length c] w fun e w' => e = .returned (dStr (gBytes l)) ∧ w = w' := by
  have hc := getLen B A c 1 l w ha hlc hl (by omega) (by omega)
  cases hg : gLen 1 l with
  | more =>
    have hgl : gBytes l = .more := by unfold gBytes; rw [hg]
    rw [hgl]
    rw [hg] at hc
    simp only [dLen] at hc
    have HC := Lib.hid hc
    clear hc ha hg hgl
    go_enter Try.func26, Try.ntmps26
    go_wp2_with (go_at_call 40; refine HC.out.mono ?_; rintro e w' ⟨rfl, rfl⟩)
    go_ret3
    exact ⟨rfl, rfl⟩
  | form =>
    have hgl : gBytes l = .form := by unfold gBytes; rw [hg]
    rw [hgl]
    rw [hg] at hc
    simp only [dLen] at hc
    have HC := Lib.hid hc
    clear hc ha hg hgl
    go_enter Try.func26, Try.ntmps26
    go_wp2_with (go_at_call 40; refine HC.out.mono ?_; rintro e w' ⟨rfl, rfl⟩)
    go_ret3
    exact ⟨rfl, rfl⟩
  | ok n u =>
    obtain ⟨hr, t, he, hu, ht⟩ := gLen_ok hg (by omega)
    have hul : u + n ≤ l.length := by rw [he, hu, List.length_append]; omega
    have hgl : gBytes l = .ok ((l.drop u).take n) (u + n) := by unfold gBytes; rw [hg]
    rw [hgl]
    rw [hg] at hc
    simp only [dLen] at hc
    have HC := Lib.hid hc
    obtain ⟨A', hA', hcut⟩ := cut_lh A l.length c u (u + n) (by omega) (by omega)
    have hr2 := reads_part ha hA' hul hlc
    rw [bs_drop, bs_take] at hr2
    obtain ⟨s, hs⟩ : ∃ s, s = (l.drop u).take n := ⟨_, rfl⟩
    rw [← hs] at hr2 ⊢
    have hsl : s.length = n := by rw [hs, List.length_take, List.length_drop]; omega
    rw [← hsl] at hr2
    have hcv := str_of s (c - u) hr2
    rw [hsl] at hcv
    rw [show u + n - u = n by omega] at hcut
    push_cast at hcut
    clear hc ha he hu hg hgl hr2 hA' ht hr hs hsl
    go_enter Try.func26, Try.ntmps26
    go_wp2_with (go_at_call 40; refine HC.out.mono ?_; rintro e w' ⟨rfl, rfl⟩)
    go_ret3
    exact ⟨rfl, rfl⟩
end Go.Proofs.Ytlemelfepalnfaa
