/-
  The walk of WordWraps.
-/
import Derived.Test.YthjdonjcaekaaaaWdLive
import Derived.Test.YthjdonjcaekaaaaWdRop
namespace Go.Proofs.Ythjdonjcaekaaaa
open Go.RowKit WD

theorem tmod_zero {n : Int} (h : n % 16 = 0) : n.tmod 16 = 0 := Int.tmod_eq_zero_of_dvd (Int.dvd_of_emod_eq_zero h)
set_option maxRecDepth 100000 in
set_option maxHeartbeats 4000000 in
theorem walkWraps (n op : Int) (w : World) :
    Calls Try.prog 3 #[.int .i64 n, .int .i64 op] w fun e w' => e = .returned (.bool true) ∧ Below w.heap.size w w' := by
  have hw := wrp_le n
  have hb := bts_le n
  have hd := tmod_bd n
  have h1 : (wrp n - bts n).tmod 16 = 0 := tmod_zero (by unfold wrp bts; omega)
  have h2 : (n.tmod 16 - wrp n).tmod 16 = 0 := tmod_zero (by unfold wrp; omega)
  have h3 : wrp (wrp n) = wrp n := wrp_wrp n
  have h4 : bts (wrp n) = bts n := bts_wrp n
  obtain ⟨hw1, hw2⟩ := hw
  obtain ⟨hb1, hb2⟩ := hb
  obtain ⟨hd1, hd2, _⟩ := hd
  have HB := Lib.hid (Below.refl w.heap.size w)
  go_enter Try.func3, Try.ntmps3
  go_wp2_with (first
    | (go_at_call 9; refine (wrap_is _ _).mono ?_; rintro e w' ⟨rfl, rfl⟩)
    | (go_at_call 10; refine (bits_is _ _).mono ?_; rintro e w' ⟨rfl, rfl⟩)
    | (go_at_call 11; refine (rwrap_is _ _).mono ?_; rintro e w' ⟨rfl, rfl⟩)
    | (go_at_call 12; refine (rbits_is _ _).mono ?_; rintro e w' ⟨rfl, rfl⟩)
    | (go_at_call 13; refine (truth_is _ _).mono ?_; rintro e w' ⟨rfl, hb⟩; replace HB := Lib.hid (bt HB.out hb))
    | (go_at_call 14; refine (rtruth_is _ _).mono ?_; rintro e w' ⟨rfl, rfl⟩)
    | (go_at_call 15; refine (lives_is _).mono ?_; rintro e w' ⟨rfl, hb⟩; replace HB := Lib.hid (bt HB.out hb)))
  go_ret
  exact ⟨rfl, HB.out⟩
end Go.Proofs.Ythjdonjcaekaaaa
