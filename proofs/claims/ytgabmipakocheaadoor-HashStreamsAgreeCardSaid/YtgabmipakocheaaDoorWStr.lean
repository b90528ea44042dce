/-
  THE WALK of HashStreamsAgree.
-/
import Derived.Test.YtgabmipakocheaaDoorWOf
import Derived.Test.YtgabmipakocheaaDoorJoin
namespace Go.Proofs.YtgabmipakocheaaDoor
open Go.RowKit WM
attribute [local go_sem ↓] shut34 shut24

theorem joinP_few {l : List ByteArray} (h : IsFew l) : (joinP l).length ≤ 4800 := by
  have h2 : ∀ l : List ByteArray, (∀ s ∈ l, s.size ≤ 400) → (joinP l).length ≤ 400 * l.length := by
    intro l
    induction l with
    | nil => intro _; simp [joinP]
    | cons s l ih =>
      intro h
      have h1 := h s (by simp)
      have h2 := ih fun s hs => h s (by simp [hs])
      unfold joinP at h2 ⊢
      rw [List.flatMap_cons, List.length_append, List.length_cons, size_list]
      omega
  have := h2 l h.2
  have := h.1
  omega

theorem joined_n (A : Option Addr) (l : List ByteArray) (n c : Nat) (w : World) (hn : n = l.length) (ha : Reads w w.heap.size 1 A n (ss l)) (hl : l.length ≤ 137438953472) (hj : (joinP l).length ≤ 137438953472) (S : ByteArray) (hS : str (joinP l) = S) :
    Calls Tryd.prog 16 #[.slice A n c] w fun e w' => e = .returned (.string S) ∧ Below w.heap.size w w' := by
  subst hn hS
  exact joined A l c w ha hl hj
theorem ssum_x (m : List UInt8) (cs : List Value) (w : World) (hk : KT 1 w) (hr : Rep m cs) (hm : m.length ≤ 1099511627776) (x : List UInt8) (hx : sha m = x) :
    Calls Tryd.prog 17 #[.agg cs.toArray] w fun e w' => e = .returned (.agg (bs x).toArray) ∧ Below w.heap.size w w' := by
  subst hx
  exact ssum m cs w hk hr hm
theorem hsum_x (A : Option Addr) (s : ByteArray) (c : Nat) (w : World) (hk : KT 1 w) (ha : Reads w w.heap.size 1 A s.size (bs s.data.toList)) (hm : s.data.toList.length ≤ 549755813888) (x : List UInt8) (hx : sha s.data.toList = x) :
    Calls Tryd.prog 11 #[.slice A s.size c] w fun e w' => e = .returned (.agg (bs x).toArray) ∧ Below w.heap.size w w' := by
  subst hx
  exact hsum_of A s c w hk ha hm
theorem ss_take (l : List ByteArray) (k : Nat) : (ss l).take k = ss (l.take k) := by simp [ss, List.map_take]
theorem reads_take {w : World} {B n k : Nat} {A : Option Addr} {xs : List Value} (h : Reads w B 1 A n xs) (hk : k ≤ n) : Reads w B 1 A k (xs.take k) := by
  have h1 := h.1
  refine ⟨by rw [List.length_take]; omega, fun hn => ?_⟩
  obtain ⟨ad, hA, hb, hc⟩ := h.2 (by omega)
  refine ⟨ad, hA, hb, fun j u hu => hc j u ?_⟩
  rw [List.getElem?_take] at hu
  split at hu
  · exact hu
  · cases hu

set_option maxRecDepth 100000 in
set_option maxHeartbeats 4000000 in
theorem walkStr (A : Option Addr) (l : List ByteArray) (c : Nat) (a1 : ByteArray) (b : UInt8) (w : World) (ha : Reads w w.heap.size 1 A l.length (ss l)) (hn : l.length ≤ 9223372036854775807) (hcap : l.length ≤ c) (hk0 : KT 0 w) (hk : KT 1 w) :
    Calls Tryd.prog 4 #[.slice A l.length c, .string a1, .int .u8 (b.toNat : Int)] w fun e w' => e = .returned (.bool true) ∧ Below w.heap.size w w' := by
  have HK := Lib.hid hk
  have HK0 := Lib.hid hk0
  have HA := Lib.hid ha
  clear hk hk0 ha
  have hzz := Tryd.zero34
  go_enter Tryd.func4, Tryd.ntmps4
  go_wp2_with (go_at_call 10; refine (sanity _ HK.out).mono ?_; rintro e w1 ⟨rfl, hb1⟩; have HB1 := Lib.hid hb1; clear hb1)
  have h0 := few A l c w1 ((HA.out.below HB1.out).more HB1.out.size) hn
  refine h0.mono ?_
  clear h0
  rintro e w2 ⟨r, rfl, hr, hb2⟩
  have HB2 := Lib.hid (bt HB1.out hb2)
  have HR := Lib.hid hr
  clear hb2 hr
  cases r
  · go_wp2
    go_ret
    exact ⟨rfl, HB2.out⟩
  · have HF := Lib.hid (HR.out rfl)
    have hl12 : l.length ≤ 12 := HF.out.1
    by_cases hbig : 400 < a1.size
    · go_wp2
      go_ret
      exact ⟨rfl, HB2.out⟩
    · obtain ⟨j, hj⟩ : ∃ j, j = b.toNat % (l.length + 1) := ⟨_, rfl⟩
      have hjl : j ≤ l.length := by rw [hj]; have := Nat.mod_lt b.toNat (show 0 < l.length + 1 by omega); omega
      have a1w : IntKind.i64.wrap ((l.length : Int) + 1) = (l.length : Int) + 1 := IntWalk.i64_in _ (by omega)
      have hrem : ((b.toNat : Int)).tmod ((l.length : Int) + 1) = (j : Int) := by
        rw [Int.tmod_eq_emod_of_nonneg (by omega), hj]; simp
      have hb8 := b.toNat_lt
      have h64 : wrap64 (b.toNat : Int) = (b.toNat : Int) := IntWalk.wrap64_in _ (by omega)
      have HJP := Lib.hid (joinP_few HF.out)
      have HJ := Lib.hid hj
      clear hj
      go_wp2_with (first
        | (go_at_call 14; refine (begin_ _).mono ?_; rintro e w3 ⟨cs3, rfl, hr3, hb3⟩; have HR3 := Lib.hid hr3; have HB3 := Lib.hid (bt HB2.out hb3); clear hr3 hb3)
        | (refine wpList_store_row rfl 34 (.tmp 9) (.tmp 32) rfl w3.heap.size cs3.toArray rfl rfl 34 _ (Blk.new w3 34 _) (by rw [Tryd.size34]; simp [HR3.out.length]) (by simp [HR3.out.length, z34_length]) (all_oneCell_toArray HR3.out.one) ?_
           generalize hw4 : World.setRow (World.alloc w3 _) _ _ = w4
           have HG4 : Hid (Blk w4 w3.heap.size 34 cs3.toArray) := by rw [← hw4]; exact (Blk.new w3 34 _).setRow _
           have HB4 : Hid (Below w.heap.size w w4) := by rw [← hw4]; exact below_setRow (ba HB3.out _) HB3.out.size _
           clear hw4))
      obtain ⟨g, hg⟩ : ∃ g, g = w3.heap.size := ⟨_, rfl⟩
      rw [← hg] at HG4 ⊢
      have hgw : w.heap.size ≤ g := by rw [hg]; exact HB3.out.size
      clear hg
      go_loopw [10] (fun i' wr => ∃ (k : Nat) (cs : List Value), k ≤ j ∧ i' = .int .i64 k ∧ Hid (Blk wr g 34 cs.toArray ∧ Rep (joinP (l.take k)) cs ∧ Below w.heap.size w wr)) (fun i' _ => j - (intOf i').toNat)
      case atStart => exact ⟨0, cs3, by omega, rfl, HG4.out, HR3.out, HB4.out⟩
      case round =>
        clear HG4 HB4 HR3 HB3
        obtain ⟨k, cs, hk, rfl, hh⟩ := hrel
        by_cases hlt : k < j
        · obtain ⟨bb, off, rfl, _, hcell⟩ := (HA.out.below hh.out.2.2).lit (by omega)
          obtain ⟨s, hs⟩ : ∃ s, s = l[k] := ⟨_, rfl⟩
          have hc := hcell k _ (ss_get l k (by omega))
          rw [← hs] at hc
          have hj2 := joinP_succ l k (by omega)
          rw [← hs] at hj2
          have hle := joinP_le l (k + 1)
          rw [hj2, List.length_append, size_list] at hle
          have hll : (joinP (l.take k)).length + s.size ≤ 2199023255552 := by have := HJP.out; omega
          have HJ2 := Lib.hid hj2
          have HLL := Lib.hid hll
          have hkl : k < l.length := by omega
          clear hcell hs hj2 hle hll
          have hld : ∀ W, Blk W g 34 cs.toArray → (ldS 34 (.pointer (some ⟨g, 0, none⟩))).run Tryd.prog W = .ok (.agg cs.toArray) W := fun W h => load34 h hh.out.2.1.length
          have hld0 := hld wr hh.out.1
          have hld1 := hld wr.drew hh.out.1
          go_wp2
          go_region_with (go_at_call 15; go_loud (refine (add (joinP (l.take k)) cs s wr.drew (HK.out.below hh.out.2.2.drew) hh.out.2.1 HLL.out).mono ?_); rintro e w5 ⟨cs5, rfl, hr5, hb5⟩; have HR5 := Lib.hid hr5; have HB5 := Lib.hid hb5; have hst := store34' hr5 w5 g cs (Blk.below hh.out.1.drew hb5 hh.out.1.lt) hh.out.2.1.length; have hl5 := hr5.length; clear hr5 hb5)
          all_goals
            go_wp2
            go_roundw
            case rel =>
              refine ⟨k + 1, cs5, by omega, by go_num, Blk.setRow (cs := cs.toArray) (Blk.below hh.out.1.drew HB5.out hh.out.1.lt) _, ?_, below_setRow (bt hh.out.2.2.drew HB5.out) hgw _⟩
              rw [HJ2.out]; exact HR5.out
            case measure => simp [intOf]; omega
        · have hke : k = j := by omega
          subst hke
          have hl34 : (Tryd.prog.info? 34).map (·.size) = some cs.toArray.size := by rw [Tryd.size34]; simp [hh.out.2.1.length]
          have HS34 := Lib.hid hl34
          have HRK := Lib.hid hh.out.2.1
          clear hl34
          go_wp2_with (first
            | (refine wpList_load_row rfl 34 (.tmp 9) rfl g rfl 34 cs.toArray (0, 0) _ hh.out.1 Tryd.underlying34 rfl HS34.out ?_)
            | (refine wpList_store_row rfl 34 (.tmp 11) (.tmp 44) rfl wr.heap.size cs.toArray rfl rfl 34 _ (Blk.new wr 34 _) HS34.out (by simp [HRK.out.length, z34_length]) (all_oneCell_toArray HRK.out.one) ?_
               generalize hw6 : World.setRow (World.alloc wr _) _ _ = w6
               have HE6 : Hid (Blk w6 wr.heap.size 34 cs.toArray) := by rw [← hw6]; exact (Blk.new wr 34 _).setRow _
               have HG6 : Hid (Blk w6 g 34 cs.toArray) := by rw [← hw6]; exact (hh.out.1.alloc _).setRow_far (by have := hh.out.1.lt; omega) _
               have HB6 : Hid (Below w.heap.size w w6) := by rw [← hw6]; exact below_setRow (ba hh.out.2.2 _) hh.out.2.2.size _
               clear hw6))
          have hgg : g < wr.heap.size := hh.out.1.lt
          obtain ⟨g2, hg2⟩ : ∃ g2, g2 = wr.heap.size := ⟨_, rfl⟩
          rw [← hg2] at HE6 hgg ⊢
          clear hg2 hh
          go_loopw [12] (fun i' wr => ∃ (n : Nat) (cs' : List Value), k ≤ n ∧ n ≤ l.length ∧ i' = .int .i64 n ∧ Hid (Blk wr g 34 cs'.toArray ∧ Rep (joinP (l.take n)) cs' ∧ Blk wr g2 34 cs.toArray ∧ Below w.heap.size w wr)) (fun i' _ => l.length - (intOf i').toNat)
          case atStart => exact ⟨k, cs, by omega, by omega, rfl, HG6.out, HRK.out, HE6.out, HB6.out⟩
          case round =>
            clear HG6 HE6 HB6
            obtain ⟨n, cs', hkn, hnl, rfl, hh⟩ := hrel
            by_cases hlt2 : n < l.length
            · obtain ⟨bb, off, rfl, _, hcell⟩ := (HA.out.below hh.out.2.2.2).lit (by omega)
              obtain ⟨s, hs⟩ : ∃ s, s = l[n] := ⟨_, rfl⟩
              have hc := hcell n _ (ss_get l n (by omega))
              rw [← hs] at hc
              have hj2 := joinP_succ l n (by omega)
              rw [← hs] at hj2
              have hle := joinP_le l (n + 1)
              rw [hj2, List.length_append, size_list] at hle
              have hll : (joinP (l.take n)).length + s.size ≤ 2199023255552 := by have := HJP.out; omega
              have HJ2 := Lib.hid hj2
              have HLL := Lib.hid hll
              clear hcell hs hj2 hle hll
              have hld : ∀ W, Blk W g 34 cs'.toArray → (ldS 34 (.pointer (some ⟨g, 0, none⟩))).run Tryd.prog W = .ok (.agg cs'.toArray) W := fun W h => load34 h hh.out.2.1.length
              have hld0 := hld wr hh.out.1
              have hld1 := hld wr.drew hh.out.1
              go_wp2
              go_region_with (go_at_call 15; go_loud (refine (add (joinP (l.take n)) cs' s wr.drew (HK.out.below hh.out.2.2.2.drew) hh.out.2.1 HLL.out).mono ?_); rintro e w5 ⟨cs5, rfl, hr5, hb5⟩; have HR5 := Lib.hid hr5; have HB5 := Lib.hid hb5; have hst := store34' hr5 w5 g cs' (Blk.below hh.out.1.drew hb5 hh.out.1.lt) hh.out.2.1.length; have hl5 := hr5.length; clear hr5 hb5)
              all_goals
                go_wp2
                go_roundw
                case rel =>
                  refine ⟨n + 1, cs5, by omega, by omega, by go_num, Blk.setRow (cs := cs'.toArray) (Blk.below hh.out.1.drew HB5.out hh.out.1.lt) _, ?_, Blk.setRow_far (blk_past HB5.out hh.out.2.2.1.drew) (by omega) _, below_setRow (bt hh.out.2.2.2.drew HB5.out) hgw _⟩
                  rw [HJ2.out]; exact HR5.out
                case measure => simp [intOf]; omega
            · have hne : n = l.length := by omega
              have hrep : Rep (joinP l) cs' := by
                have := hh.out.2.1
                rwa [hne, List.take_of_length_le (Nat.le_refl _)] at this
              have HREP := Lib.hid hrep
              have hge : l.length ≤ n := by omega
              have hjk : (joinP (l.take k)).length ≤ 4800 := by have := joinP_le l k; have := HJP.out; omega
              obtain ⟨S1, hS1⟩ : ∃ S, str (joinP l) = S := ⟨_, rfl⟩
              obtain ⟨S2, hS2⟩ : ∃ S, str (joinP (l.take k)) = S := ⟨_, rfl⟩
              have hd1 : S1.data.toList = joinP l := by rw [← hS1]; rfl
              have hd2 : S2.data.toList = joinP (l.take k) := by rw [← hS2]; rfl
              obtain ⟨S3, hS3⟩ : ∃ S, S2 ++ a1 = S := ⟨_, rfl⟩
              have hd3 : S3.data.toList = joinP (l.take k) ++ a1.data.toList := by rw [← hS3, ← hd2]; simp
              have hsz2 : S2.size ≤ 4800 := by rw [← size_list, hd2]; exact hjk
              obtain ⟨X1, hX1⟩ : ∃ X, sha (joinP l) = X := ⟨_, rfl⟩
              obtain ⟨X2, hX2⟩ : ∃ X, sha (joinP (l.take k)) = X := ⟨_, rfl⟩
              obtain ⟨X3, hX3⟩ : ∃ X, sha (joinP (l.take k) ++ a1.data.toList) = X := ⟨_, rfl⟩
              have q1 : ∀ W, (binOp .eql 24 (.agg (bs X1).toArray) (.agg (bs X1).toArray)).run Tryd.prog W = .ok (.bool true) W := fun W => (eq24 X1 X1 (by rw [← hX1]; rfl) (by rw [← hX1]; rfl) W).trans (by rw [decide_eq_true rfl])
              have q2 : ∀ W, (binOp .eql 24 (.agg (bs X2).toArray) (.agg (bs X2).toArray)).run Tryd.prog W = .ok (.bool true) W := fun W => (eq24 X2 X2 (by rw [← hX2]; rfl) (by rw [← hX2]; rfl) W).trans (by rw [decide_eq_true rfl])
              have q3 : ∀ W, (binOp .eql 24 (.agg (bs X3).toArray) (.agg (bs X3).toArray)).run Tryd.prog W = .ok (.bool true) W := fun W => (eq24 X3 X3 (by rw [← hX3]; rfl) (by rw [← hX3]; rfl) W).trans (by rw [decide_eq_true rfl])
              have v1 := fun W => conv9 W S1
              have v2 := fun W => conv9 W S2
              have v3 := fun W => conv9 W S3
              have m1 : Hid (S1.data.toList.length ≤ 549755813888) := by
                have := HJP.out
                show S1.data.toList.length ≤ 549755813888
                rw [hd1]; omega
              have m2 : Hid (S2.data.toList.length ≤ 549755813888) := by
                show S2.data.toList.length ≤ 549755813888
                rw [hd2]; omega
              have m3 : Hid ((joinP (l.take k) ++ a1.data.toList).length ≤ 549755813888) := by
                show (joinP (l.take k) ++ a1.data.toList).length ≤ 549755813888
                rw [List.length_append, size_list]; omega
              have hc2 : S2.size + a1.size ≤ 140737488355328 := by omega
              have HJK := Lib.hid hjk
              have HS1 := Lib.hid hS1
              have HS2 := Lib.hid hS2
              have HD1 := Lib.hid hd1
              have HD2 := Lib.hid hd2
              have HD3 := Lib.hid hd3
              have HX1 := Lib.hid hX1
              have HX2 := Lib.hid hX2
              have HX3 := Lib.hid hX3
              have hlt12 : (l.take k).length = k := by rw [List.length_take]; omega
              have HLT := Lib.hid hlt12
              clear hrep hne hlt2 hnl hjk hS1 hS2 hd1 hd2 hd3 hX1 hX2 hX3 hlt12
              go_wp2_with (first
                | (refine wpList_load_row rfl 34 (.tmp 11) rfl g2 rfl 34 cs.toArray (0, 0) _ hh.out.2.2.1 Tryd.underlying34 rfl HS34.out ?_)
                | (go_at_call 15; go_loud (refine (add (joinP (l.take k)) cs a1 wr (HK.out.below hh.out.2.2.2) HRK.out (by have := HJK.out; omega)).mono ?_); rintro e w7 ⟨cs7, rfl, hr7, hb7⟩; have HR7 := Lib.hid hr7; have HB7 := Lib.hid (bt hh.out.2.2.2 hb7); have HG7 := Lib.hid (blk_past hb7 hh.out.1); have HE7 := Lib.hid (blk_past hb7 hh.out.2.2.1); clear hr7 hb7)
                | (refine wpList_store_row rfl 34 (.tmp 13) (.tmp 60) rfl w7.heap.size cs7.toArray rfl rfl 34 _ (Blk.new w7 34 _) (by rw [Tryd.size34]; simp [HR7.out.length]) (by simp [HR7.out.length, z34_length]) (all_oneCell_toArray HR7.out.one) ?_
                   generalize hw8 : World.setRow (World.alloc w7 _) _ _ = w8
                   have HV8 : Hid (Blk w8 w7.heap.size 34 cs7.toArray) := by rw [← hw8]; exact (Blk.new w7 34 _).setRow _
                   have HG8 : Hid (Blk w8 g 34 cs'.toArray) := by rw [← hw8]; exact (HG7.out.alloc _).setRow_far (by have := HG7.out.lt; omega) _
                   have HE8 : Hid (Blk w8 g2 34 cs.toArray) := by rw [← hw8]; exact (HE7.out.alloc _).setRow_far (by have := HE7.out.lt; omega) _
                   have HB8 : Hid (Below w.heap.size w w8) := by rw [← hw8]; exact below_setRow (ba HB7.out _) HB7.out.size _
                   clear hw8)
                | (go_at_call 16; (have h0 := joined_n A l l.length c w8 rfl ((HA.out.below HB8.out).more HB8.out.size) (by omega) (by have := HJP.out; omega) S1 HS1.out; with_reducible refine h0.mono ?_); clear h0; rintro e w9 ⟨rfl, hb9⟩; have HB9 := Lib.hid (bt HB8.out hb9); have HG9 := Lib.hid (blk_past hb9 HG8.out); have HE9 := Lib.hid (blk_past hb9 HE8.out); have HV9 := Lib.hid (blk_past hb9 HV8.out); clear hb9)
                | (go_at_call 16; (have h0 := joined_n A (l.take k) k c w9 HLT.out.symm (by rw [← ss_take]; exact reads_take ((HA.out.below HB9.out).more HB9.out.size) (by omega)) (by rw [HLT.out]; omega) (by have := HJK.out; omega) S2 HS2.out; with_reducible refine h0.mono ?_); clear h0; rintro e w10 ⟨rfl, hb10⟩; have HB10 := Lib.hid (bt HB9.out hb10); have HG10 := Lib.hid (blk_past hb10 HG9.out); have HE10 := Lib.hid (blk_past hb10 HE9.out); have HV10 := Lib.hid (blk_past hb10 HV9.out); have ld1 := load34 HG10.out HREP.out.length; clear hb10)
                | (go_at_call 17; (have h0 := ssum_x (joinP l) cs' w10 (HK.out.below HB10.out) HREP.out (by have := HJP.out; omega) X1 HX1.out; with_reducible refine h0.mono ?_); clear h0; rintro e w11 ⟨rfl, hb11⟩; have HB11 := Lib.hid (bt (bt HB10.out hb11) (bw_below w11 S1)); have HG11 := Lib.hid (blk_past (bw_below w11 S1) (blk_past hb11 HG10.out)); have HE11 := Lib.hid (blk_past (bw_below w11 S1) (blk_past hb11 HE10.out)); have HV11 := Lib.hid (blk_past (bw_below w11 S1) (blk_past hb11 HV10.out)); clear hb11)
                | (go_at_call 12; (have h0 := rsum_of _ S1 (bcap w11 S1) (bw w11 S1) (HK0.out.below HB11.out) (bw_reads w11 S1) (by have := m1.out; omega) X1 (by rw [HD1.out]; exact HX1.out); with_reducible refine h0.mono ?_); clear h0; rintro e w12 ⟨rfl, hb12⟩; have HB12 := Lib.hid (bt HB11.out hb12); have HG12 := Lib.hid (blk_past hb12 HG11.out); have HE12 := Lib.hid (blk_past hb12 HE11.out); have HV12 := Lib.hid (blk_past hb12 HV11.out); have ld2 := load34 HE12.out HRK.out.length; clear hb12)
                | (go_at_call 17; (have h0 := ssum_x (joinP (l.take k)) cs w12 (HK.out.below HB12.out) HRK.out (by have := HJK.out; omega) X2 HX2.out; with_reducible refine h0.mono ?_); clear h0; rintro e w13 ⟨rfl, hb13⟩; have HB13 := Lib.hid (bt (bt HB12.out hb13) (bw_below w13 S2)); have HG13 := Lib.hid (blk_past (bw_below w13 S2) (blk_past hb13 HG12.out)); have HV13 := Lib.hid (blk_past (bw_below w13 S2) (blk_past hb13 HV12.out)); clear hb13)
                | (go_at_call 12; (have h0 := rsum_of _ S2 (bcap w13 S2) (bw w13 S2) (HK0.out.below HB13.out) (bw_reads w13 S2) (by have := m2.out; omega) X2 (by rw [HD2.out]; exact HX2.out); with_reducible refine h0.mono ?_); clear h0; rintro e w14 ⟨rfl, hb14⟩; have HB14 := Lib.hid (bt HB13.out hb14); have HG14 := Lib.hid (blk_past hb14 HG13.out); have HV14 := Lib.hid (blk_past hb14 HV13.out); have ld3 := load34 HV14.out HR7.out.length; clear hb14)
                | (go_at_call 17; (have h0 := ssum_x (joinP (l.take k) ++ a1.data.toList) cs7 w14 (HK.out.below HB14.out) HR7.out (by have := m3.out; omega) X3 HX3.out; with_reducible refine h0.mono ?_); clear h0; rintro e w15 ⟨rfl, hb15⟩; have HB15 := Lib.hid (bt (bt HB14.out hb15) (bw_below w15 S3)); have HG15 := Lib.hid (blk_past (bw_below w15 S3) (blk_past hb15 HG14.out)); clear hb15)
                | (go_at_call 12; (have h0 := rsum_of _ S3 (bcap w15 S3) (bw w15 S3) (HK0.out.below HB15.out) (bw_reads w15 S3) (by rw [HD3.out]; have := m3.out; omega) X3 (by rw [HD3.out]; exact HX3.out); with_reducible refine h0.mono ?_); clear h0; rintro e w16 ⟨rfl, hb16⟩; have HB16 := Lib.hid (bt HB15.out hb16); have HG16 := Lib.hid (blk_past hb16 HG15.out); have ld4 := load34 HG16.out HREP.out.length; clear hb16)
                | (go_at_call 17; (have h0 := ssum_x (joinP l) cs' w16 (HK.out.below HB16.out) HREP.out (by have := HJP.out; omega) X1 HX1.out; with_reducible refine h0.mono ?_); clear h0; rintro e w17 ⟨rfl, hb17⟩; have HB17 := Lib.hid (bt (bt HB16.out hb17) (bw_below w17 S1)); clear hb17)
                | (go_at_call 11; (have h0 := hsum_x _ S1 (bcap w17 S1) (bw w17 S1) (HK.out.below HB17.out) (bw_reads w17 S1) m1.out X1 (by rw [HD1.out]; exact HX1.out); with_reducible refine h0.mono ?_); clear h0; rintro e w18 ⟨rfl, hb18⟩; have HB18 := Lib.hid (bt HB17.out hb18); clear hb18))
              go_ret
              exact ⟨rfl, HB18.out⟩
end Go.Proofs.YtgabmipakocheaaDoor
