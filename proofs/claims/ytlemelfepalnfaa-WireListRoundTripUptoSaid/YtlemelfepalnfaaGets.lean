/-
  wire.GetInts, wire.GetStrings, wire.GetDigests, each by its contract.
-/
import Derived.Test.YtlemelfepalnfaaElems
namespace Go.Proofs.Ytlemelfepalnfaa
open Go.RowKit WM

def GPost {α : Type} (el sz : Nat) (cell : α → List Value) (w : World) (d : Dec (List α)) (e : Ending) (w' : World) : Prop :=
  match d with
  | .more => e = .returned (.tuple #[.slice none 0 0, .int .i64 0, .int .i64 3]) ∧ Below w.heap.size w w'
  | .form => e = .returned (.tuple #[.slice none 0 0, .int .i64 0, .int .i64 2]) ∧ Below w.heap.size w w'
  | .ok xs u => ∃ A c, e = .returned (.tuple #[.slice A xs.length c, .int .i64 (u : Int), .int .i64 0]) ∧ w'.ownsRow w.heap.size el sz (.slice A xs.length c) xs.length (xs.flatMap cell) ∧ Below w.heap.size w w'

set_option maxHeartbeats 400000 in
theorem getInts (A : Option Addr) (c : Nat) (l : List UInt8) (w : World) (ha : Reads w w.heap.size 1 A l.length (bs l)) (hlc : l.length ≤ c) (hl : l.length ≤ 1000000) :
    Calls Try.prog 28 #[.slice A l.length c] w (GPost 3 1 (fun x : Int => [.int .i64 x]) w (gElems 1 gInt l)) := by
  have hc := elemsI w.heap.size w.heap.size A c l (w.alloc (.cells #[.slice none 0 0] 22)) (ha.alloc (Nat.le_refl _) _) hlc hl (heap_alloc_new w _) (Nat.le_refl _)
  have hb0 := (Below.refl w.heap.size w).alloc (Nat.le_refl _) (.cells #[.slice none 0 0] 22)
  have HB0 := Lib.hid hb0
  clear hb0 ha
  cases hg : gElems 1 gInt l with
  | more =>
    rw [hg] at hc
    have HC := Lib.hid hc
    clear hc hg
    go_enter Try.func28, Try.ntmps28
    go_wp2_with (go_at_call 42; refine HC.out.mono ?_; rintro e w1 ⟨rfl, hb⟩; have HB := Lib.hid hb; clear hb)
    go_ret3
    exact ⟨rfl, HB0.out.trans HB.out⟩
  | form =>
    rw [hg] at hc
    have HC := Lib.hid hc
    clear hc hg
    go_enter Try.func28, Try.ntmps28
    go_wp2_with (go_at_call 42; refine HC.out.mono ?_; rintro e w1 ⟨rfl, hb⟩; have HB := Lib.hid hb; clear hb)
    go_ret3
    exact ⟨rfl, HB0.out.trans HB.out⟩
  | ok xs u =>
    rw [hg] at hc
    have HC := Lib.hid hc
    clear hc hg
    go_enter Try.func28, Try.ntmps28
    go_wp2_with (go_at_call 42; refine HC.out.mono ?_; rintro e w1 ⟨rfl, hb, v, hv, hown⟩; obtain ⟨A1, c1, rfl, _⟩ := own_form hown; have hcell := cell_of_one hv; have HB := Lib.hid hb; have HO := Lib.hid hown; clear hb hown hv)
    go_ret3
    exact ⟨A1, c1, rfl, HO.out, HB0.out.trans HB.out⟩

set_option maxHeartbeats 400000 in
theorem getStrings (A : Option Addr) (c : Nat) (l : List UInt8) (w : World) (ha : Reads w w.heap.size 1 A l.length (bs l)) (hlc : l.length ≤ c) (hl : l.length ≤ 1000000) :
    Calls Try.prog 31 #[.slice A l.length c] w (GPost 9 1 (fun x : List UInt8 => [.string ⟨x.toArray⟩]) w (gElems 1 gBytes l)) := by
  have hc := elemsS w.heap.size w.heap.size A c l (w.alloc (.cells #[.slice none 0 0] 23)) (ha.alloc (Nat.le_refl _) _) hlc hl (heap_alloc_new w _) (Nat.le_refl _)
  have hb0 := (Below.refl w.heap.size w).alloc (Nat.le_refl _) (.cells #[.slice none 0 0] 23)
  have HB0 := Lib.hid hb0
  clear hb0 ha
  cases hg : gElems 1 gBytes l with
  | more =>
    rw [hg] at hc
    have HC := Lib.hid hc
    clear hc hg
    go_enter Try.func31, Try.ntmps31
    go_wp2_with (go_at_call 42; refine HC.out.mono ?_; rintro e w1 ⟨rfl, hb⟩; have HB := Lib.hid hb; clear hb)
    go_ret3
    exact ⟨rfl, HB0.out.trans HB.out⟩
  | form =>
    rw [hg] at hc
    have HC := Lib.hid hc
    clear hc hg
    go_enter Try.func31, Try.ntmps31
    go_wp2_with (go_at_call 42; refine HC.out.mono ?_; rintro e w1 ⟨rfl, hb⟩; have HB := Lib.hid hb; clear hb)
    go_ret3
    exact ⟨rfl, HB0.out.trans HB.out⟩
  | ok xs u =>
    rw [hg] at hc
    have HC := Lib.hid hc
    clear hc hg
    go_enter Try.func31, Try.ntmps31
    go_wp2_with (go_at_call 42; refine HC.out.mono ?_; rintro e w1 ⟨rfl, hb, v, hv, hown⟩; obtain ⟨A1, c1, rfl, _⟩ := own_form hown; have hcell := cell_of_one hv; have HB := Lib.hid hb; have HO := Lib.hid hown; clear hb hown hv)
    go_ret3
    exact ⟨A1, c1, rfl, HO.out, HB0.out.trans HB.out⟩

set_option maxHeartbeats 400000 in
theorem getDigests (A : Option Addr) (c : Nat) (l : List UInt8) (w : World) (ha : Reads w w.heap.size 1 A l.length (bs l)) (hlc : l.length ≤ c) (hl : l.length ≤ 1000000) :
    Calls Try.prog 34 #[.slice A l.length c] w (GPost 57 16 (fun x : List UInt8 => bs x) w (gElems 16 gDig l)) := by
  have hc := elemsD w.heap.size w.heap.size A c l (w.alloc (.cells #[.slice none 0 0] 24)) (ha.alloc (Nat.le_refl _) _) hlc hl (heap_alloc_new w _) (Nat.le_refl _)
  have hb0 := (Below.refl w.heap.size w).alloc (Nat.le_refl _) (.cells #[.slice none 0 0] 24)
  have HB0 := Lib.hid hb0
  clear hb0 ha
  cases hg : gElems 16 gDig l with
  | more =>
    rw [hg] at hc
    have HC := Lib.hid hc
    clear hc hg
    go_enter Try.func34, Try.ntmps34
    go_wp2_with (go_at_call 42; refine HC.out.mono ?_; rintro e w1 ⟨rfl, hb⟩; have HB := Lib.hid hb; clear hb)
    go_ret3
    exact ⟨rfl, HB0.out.trans HB.out⟩
  | form =>
    rw [hg] at hc
    have HC := Lib.hid hc
    clear hc hg
    go_enter Try.func34, Try.ntmps34
    go_wp2_with (go_at_call 42; refine HC.out.mono ?_; rintro e w1 ⟨rfl, hb⟩; have HB := Lib.hid hb; clear hb)
    go_ret3
    exact ⟨rfl, HB0.out.trans HB.out⟩
  | ok xs u =>
    rw [hg] at hc
    have HC := Lib.hid hc
    clear hc hg
    go_enter Try.func34, Try.ntmps34
    go_wp2_with (go_at_call 42; refine HC.out.mono ?_; rintro e w1 ⟨rfl, hb, v, hv, hown⟩; obtain ⟨A1, c1, rfl, _⟩ := own_form hown; have hcell := cell_of_one hv; have HB := Lib.hid hb; have HO := Lib.hid hown; clear hb hown hv)
    go_ret3
    exact ⟨A1, c1, rfl, HO.out, HB0.out.trans HB.out⟩

end Go.Proofs.Ytlemelfepalnfaa
