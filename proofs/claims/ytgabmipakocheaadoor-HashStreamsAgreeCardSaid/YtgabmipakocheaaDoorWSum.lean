/-
  THE WALK of HashSumMatchesSpec.
-/
import Derived.Test.YtgabmipakocheaaDoorWEq
import Derived.Test.YtgabmipakocheaaDoorRSum
namespace Go.Proofs.YtgabmipakocheaaDoor
open Go.RowKit WM
attribute [local go_sem ↓] shut24
/-- The world after '[]byte(s)'. -/
def bw (w : World) (s : ByteArray) : World := w.drew.alloc (.cells (bytesRow s (grownCap w s.size 0 5)) 5 ((bytesRow s (grownCap w s.size 0 5)).size, (bytesRow s (grownCap w s.size 0 5)).size + 1))
def bcap (w : World) (s : ByteArray) : Nat := grownCap w s.size 0 5
theorem conv9 (w : World) (s : ByteArray) : (convert 9 22 (.string s)).run Tryd.prog w = .ok (.slice (some ⟨w.heap.size, 0, none⟩) s.size (bcap w s)) (bw w s) :=
  run_bytes_of_string (P := Tryd.prog) w 9 22 5 s Tryd.underlying9 Tryd.underlying22 Tryd.underlying5
theorem bw_reads (w : World) (s : ByteArray) : Reads (bw w s) (bw w s).heap.size 1 (some ⟨w.heap.size, 0, none⟩) s.size (bs s.data.toList) := by
  refine ⟨by simp [bs_length], fun hn => ⟨_, rfl, ?_, fun j u hu => ?_⟩⟩
  · unfold bw
    rw [World.size_alloc]
    show w.heap.size < w.heap.size + 1
    omega
  · have hj : j < s.data.size := by
      have := (List.getElem?_eq_some_iff.1 hu).1
      rw [bs_length] at this; simpa using this
    rw [Addr.add_lit, Nat.zero_add]
    have h1 := World.cell?_alloc_mark w.drew (bytesRow s (grownCap w s.size 0 5)) 5 ((bytesRow s (grownCap w s.size 0 5)).size, (bytesRow s (grownCap w s.size 0 5)).size + 1) j
    refine Eq.trans h1 ?_
    rw [bytesRow_at s _ j hj, ← hu, bs_get _ j (by simpa using hj)]
    simp
theorem bw_below (w : World) (s : ByteArray) : Below w.heap.size w (bw w s) := ((Below.refl w.heap.size w).drew).alloc (Nat.le_refl _) _

theorem rsum_of (A : Option Addr) (s : ByteArray) (c : Nat) (w : World) (hk : KT 0 w) (ha : Reads w w.heap.size 1 A s.size (bs s.data.toList)) (hm : s.data.toList.length ≤ 1099511627776) (x : List UInt8) (hx : sha s.data.toList = x) :
    Calls Tryd.prog 12 #[.slice A s.size c] w fun e w' => e = .returned (.agg (bs x).toArray) ∧ Below w.heap.size w w' := by
  subst hx
  rw [← size_list] at ha ⊢
  exact rsum A _ c w hk ha hm

set_option maxRecDepth 100000 in
set_option maxHeartbeats 1600000 in
theorem walkSum (A : Option Addr) (c : Nat) (m : List UInt8) (w : World) (hm : m.length ≤ 9223372036854775807) (ha : Reads w w.heap.size 1 A m.length (bs m)) (hk0 : KT 0 w) (hk : KT 1 w) :
    Calls Tryd.prog 3 #[.slice A m.length c] w fun e w' => e = .returned (.bool true) ∧ Below w.heap.size w w' := by
  have HK := Lib.hid hk
  have HK0 := Lib.hid hk0
  have HA := Lib.hid ha
  clear hk hk0 ha
  by_cases hl : 1000 < m.length
  · go_enter Tryd.func3, Tryd.ntmps3
    go_wp2_with (go_at_call 10; refine (sanity _ HK.out).mono ?_; rintro e w1 ⟨rfl, hb1⟩; have HB1 := Lib.hid hb1; clear hb1)
    go_ret
    exact ⟨rfl, HB1.out⟩
  · obtain ⟨X, hX⟩ : ∃ X, X = sha m := ⟨_, rfl⟩
    have hXl : X.length = 32 := by rw [hX]; exact sha_length m
    have h24 : (Tryd.prog.info? 24).map (·.size) = some (bs X).toArray.size := by rw [Tryd.size24]; simp [bs, hXl]
    have hcv : ∀ W, Below w.heap.size w W → (convert 22 9 (.slice A m.length c)).run Tryd.prog W = .ok (.string (str m)) W := fun W hW => conv_str (HA.out.below hW)
    have H24 := Lib.hid h24
    have HX := Lib.hid hX
    have HXL := Lib.hid hXl
    have HCV := Lib.hid hcv
    clear h24 hX hXl hcv
    go_enter Tryd.func3, Tryd.ntmps3
    go_wp2_with (first
      | (go_at_call 10; refine (sanity _ HK.out).mono ?_; rintro e w1 ⟨rfl, hb1⟩; have HB1 := Lib.hid hb1; have hcv1 := HCV.out w1 hb1; clear hb1)
      | (go_at_call 11; ((with_reducible refine (hsum A m c _ (HK.out.below HB1.out) ((HA.out.below HB1.out).more HB1.out.size) (by omega)).mono ?_); rintro e w2 ⟨rfl, hb2⟩); rw [← HX.out]; have HB2 := Lib.hid (bt HB1.out hb2); clear hb2)
      | (refine wpList_store_row rfl 24 (.tmp 5) (.tmp 14) rfl w2.heap.size (bs X).toArray rfl rfl 24 _ (Blk.new w2 24 _) H24.out (by simp [bs, HXL.out]) (all_oneCell_toArray (bs_one _)) ?_
         generalize hw3 : World.setRow (World.alloc w2 _) _ _ = w3
         have HG3 : Hid (Blk w3 w2.heap.size 24 (bs X).toArray) := by rw [← hw3]; exact (Blk.new w2 24 _).setRow _
         have HB3 : Hid (Below w.heap.size w w3) := by rw [← hw3]; exact below_setRow (ba HB2.out _) HB2.out.size _
         clear hw3))
    obtain ⟨S, hS⟩ : ∃ S, S = str m := ⟨_, rfl⟩
    have hSl : S.data.toList = m := by rw [hS]; rfl
    have hSz : S.size = m.length := by rw [hS, str_size]
    rw [← hS]
    have HSL := Lib.hid hSl
    have HSZ := Lib.hid hSz
    have hcw : ∀ W, Below w.heap.size w W → (convert 22 9 (.slice A m.length c)).run Tryd.prog W = .ok (.string S) W := fun W hW => by rw [hS]; exact HCV.out W hW
    have HCW := Lib.hid hcw
    clear hS hSl hSz hcw hcv1
    have hcs := fun W => conv9 W S
    have h1 := load24 HG3.out HXL.out
    have h2 := load24 HG3.out.drew HXL.out
    have hg5 : ∀ W, Blk W w2.heap.size 24 (bs X).toArray → Blk (bw W S) w2.heap.size 24 (bs X).toArray := fun W h => blk_past (bw_below W S) h
    have h3 := load24 (hg5 _ HG3.out) HXL.out
    have h4 := load24 (hg5 _ HG3.out.drew) HXL.out
    have heq : ∀ W, (binOp .eql 24 (.agg (bs X).toArray) (.agg (bs X).toArray)).run Tryd.prog W = .ok (.bool true) W := fun W => (eq24 X X HXL.out HXL.out W).trans (by rw [decide_eq_true rfl])
    clear hg5
    go_region_with (first
      | (go_at_call 12; go_loud (refine (rsum_of _ S _ _ (HK0.out.below (bt HB3.out.drew (bw_below w3.drew S))) (bw_reads w3.drew S) (by rw [HSL.out]; omega) X (by rw [HSL.out, HX.out])).mono ?_); rintro e w5 ⟨rfl, hb5⟩; have HB5 := Lib.hid (bt (bt HB3.out.drew (bw_below w3.drew S)) hb5); have h5 := load24 (blk_past hb5 (blk_past (bw_below w3.drew S) HG3.out.drew)) HXL.out; have hc5 := HCW.out w5 HB5.out; clear hb5))
    all_goals
      go_wp2_with fail
      go_ret
      exact ⟨rfl, HB5.out⟩
end Go.Proofs.YtgabmipakocheaaDoor
