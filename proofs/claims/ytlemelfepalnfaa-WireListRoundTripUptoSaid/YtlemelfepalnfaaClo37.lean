/-
  THE CLOSURE of WireCanonical, by its contract.
-/
import Derived.Test.YtlemelfepalnfaaHelpC
namespace Go.Proofs.Ytlemelfepalnfaa
open Go.RowKit WM

theorem reads_take {w : World} {B n hi : Nat} {A : Option Addr} {xs : List Value} (h : Reads w B 1 A n xs) (hh : hi ≤ n) : Reads w B 1 A hi (xs.take hi) := by
  refine ⟨by rw [List.length_take, h.1]; omega, fun hn => ?_⟩
  obtain ⟨ad, rfl, hb, hcell⟩ := h.2 (by omega)
  refine ⟨ad, rfl, hb, fun j u hu => hcell j u ?_⟩
  rw [List.getElem?_take] at hu
  split at hu
  · exact hu
  · cases hu

set_option maxHeartbeats 400000 in
theorem clo37 (g c c1 B : Nat) (A A1 : Option Addr) (l x : List UInt8) (u k : Int) (w : World) (hv : w.heap[g]? = some (.cells #[.slice A l.length c] 28 (0, 0))) (ha : Reads w B 1 A l.length (bs l)) (hlc : l.length ≤ c) (hl : l.length ≤ 1000000)
    (h1 : Reads w w.heap.size 1 A1 x.length (bs x)) (he : Eats l x u k) :
    Calls Try.prog 37 #[.slice A1 x.length c1, .int .i64 u, .int .i64 k, .pointer (some ⟨g, 0, none⟩)] w fun e w' => e = .returned (.bool true) ∧ Below w.heap.size w w' := by
  have hcell := cell_of_one hv
  rcases he with he | ⟨rfl, t, ht, rfl⟩
  · have hk : (k != 0) = true := by simpa using he
    have HA := Lib.hid ha
    clear ha he hv h1
    go_enter Try.func37, Try.ntmps37
    go_wp2
    go_ret
    exact ⟨rfl, Below.refl _ _⟩
  · have hxl : x.length ≤ l.length := by rw [ht, List.length_append]; omega
    have h2 := reads_take ha hxl
    rw [bs_take] at h2
    have e2 : l.take x.length = x := by rw [ht, List.take_left]
    rw [e2] at h2
    obtain ⟨m, hm⟩ : ∃ m, m = x.length := ⟨_, rfl⟩
    have hs := same _ _ A1 A c1 c x w h1 h2 (by omega)
    rw [← hm] at hs hxl ⊢
    clear ha h1 h2 hv hm ht e2
    obtain ⟨n, hn⟩ : ∃ n, n = l.length := ⟨_, rfl⟩
    rw [← hn] at hcell hxl hlc hl
    clear hn
    by_cases h0 : m = 0
    · subst h0
      have HS := Lib.hid hs
      clear hs
      go_enter Try.func37, Try.ntmps37
      go_wp2_with (go_at_call 13; refine HS.out.mono ?_; rintro e w' ⟨rfl, hb⟩; have HB := Lib.hid hb; clear hb)
      go_ret
      exact ⟨rfl, HB.out⟩
    · have HS := Lib.hid hs
      have h0' : 0 < m := by omega
      clear hs h0
      go_enter Try.func37, Try.ntmps37
      go_wp2_with (go_at_call 13; refine HS.out.mono ?_; rintro e w' ⟨rfl, hb⟩; have HB := Lib.hid hb; clear hb)
      go_ret
      exact ⟨rfl, HB.out⟩
end Go.Proofs.Ytlemelfepalnfaa
