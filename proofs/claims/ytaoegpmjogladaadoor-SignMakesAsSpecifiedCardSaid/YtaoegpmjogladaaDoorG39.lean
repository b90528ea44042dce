/-
  THE WALK of SignMakesAsSpecified.
-/
import Derived.Test.YtaoegpmjogladaaDoorG38
import Derived.Test.YtaoegpmjogladaaDoorG25
import Derived.Test.YtaoegpmjogladaaDoorG08
set_option linter.unusedVariables false
namespace Go.Proofs.YtaoegpmjogladaaDoor
open Go.RowKit WM

/-- What the calls of the law answer. -/
structure Makes (s m : ByteArray) (a b : Int) (p : List UInt8) (e : Int) (G : ByteArray) (f : Int) (q : List UInt8) : Prop where
  pub : ∀ w, KT 0 w → Calls Tryd.prog 18 #[.string s, .int .i64 a] w fun r w' => r = .returned (.tuple #[.agg (bs p).toArray, .int .i64 e]) ∧ Below w.heap.size w w'
  rpub : ∀ w, KT 1 w → Calls Tryd.prog 19 #[.string s, .int .i64 a] w fun r w' => r = .returned (.tuple #[.agg (bs p).toArray, .int .i64 e]) ∧ Below w.heap.size w w'
  sign : ∀ w, KT 0 w → Calls Tryd.prog 20 #[.string s, .int .i64 a, .int .i64 b, .string m] w fun r w' => r = .returned (.tuple #[.string G, .int .i64 f]) ∧ Below w.heap.size w w'
  rsign : ∀ w, KT 1 w → Calls Tryd.prog 21 #[.string s, .int .i64 a, .int .i64 b, .string m] w fun r w' => r = .returned (.tuple #[.string G, .int .i64 f]) ∧ Below w.heap.size w w'
  dig : ∀ w, KT 0 w → Calls Tryd.prog 22 #[.agg (bs p).toArray, .int .i64 b, .string m] w fun r w' => r = .returned (.agg (bs q).toArray) ∧ Below w.heap.size w w'
  rdig : ∀ w, KT 1 w → Calls Tryd.prog 23 #[.agg (bs p).toArray, .int .i64 b, .string m] w fun r w' => r = .returned (.agg (bs q).toArray) ∧ Below w.heap.size w w'
  p16 : p.length = 16
  q16 : q.length = 16

theorem makes (s m : ByteArray) (a b : Int) (hb : inRange b) (hm : m.size ≤ 1048576) : ∃ p e G f q, Makes s m a b p e G f q := by
  have same : ∀ {f : Nat} {args : Array Value} {v : Value} {w : World}, Calls Tryd.prog f args w (fun r w' => r = .returned v ∧ w = w') → Calls Tryd.prog f args w fun r w' => r = .returned v ∧ Below w.heap.size w w' :=
    fun h => h.mono fun _ _ ⟨he, hw⟩ => ⟨he, hw ▸ Below.refl _ _⟩
  by_cases hf : s.size = 32 ∧ 0 ≤ a ∧ a ≤ 6
  · obtain ⟨hs, h0, h6⟩ := hf
    obtain ⟨h, rfl⟩ := Int.eq_ofNat_of_zero_le h0
    have hh : h ≤ 6 := by omega
    obtain ⟨p, hp⟩ : ∃ p, p = rootB s.data.toList h := ⟨_, rfl⟩
    have hpl : p.length = 16 := by rw [hp]; exact nodeB_16 _ _ _
    by_cases hi : b < 0 ∨ ((2 ^ h : Nat) : Int) ≤ b
    · exact ⟨p, 0, ⟨#[]⟩, 20, digestB p b m, ⟨fun w hk => hp ▸ public_yes s h w hk hs hh, fun w hk => rpublic_yes s h w hk hs hh p hp.symm,
        fun w _ => same (sign_spent s m h b w hs hh hi), fun w _ => same (rsign_spent s m h b w hs hh hi),
        fun w hk => signDigest p b m w hk hpl hb hm, fun w hk => refDigest p b m w hk hpl hb hm _ rfl, hpl, digestB_16 _ _ _⟩⟩
    · obtain ⟨i, rfl⟩ := Int.eq_ofNat_of_zero_le (show 0 ≤ b by omega)
      have hi2 : i < 2 ^ h := Int.ofNat_lt.1 (by omega)
      exact ⟨p, 0, str (sigB s.data.toList h i m), 0, digestB p i m, ⟨fun w hk => hp ▸ public_yes s h w hk hs hh, fun w hk => rpublic_yes s h w hk hs hh p hp.symm,
        fun w hk => sign_ok s m h i w hk hs hh hi2 hm, fun w hk => rsign_ok s m h i w hk hs hh hi2 hm _ rfl,
        fun w hk => signDigest p i m w hk hpl hb hm, fun w hk => refDigest p i m w hk hpl hb hm _ rfl, hpl, digestB_16 _ _ _⟩⟩
  · exact ⟨z16, 1, ⟨#[]⟩, 1, digestB z16 b m, ⟨fun w _ => public_no s a w hf, fun w _ => rpublic_no s a w hf,
      fun w _ => same (sign_arg s m a b w hf), fun w _ => same (rsign_arg s m a b w hf),
      fun w hk => signDigest z16 b m w hk rfl hb hm, fun w hk => refDigest z16 b m w hk rfl hb hm _ rfl, rfl, digestB_16 _ _ _⟩⟩

set_option maxRecDepth 100000 in
set_option maxHeartbeats 8000000 in
theorem walkMake (s m : ByteArray) (z : List Int) (w : World) (hz2 : z.length = 2) (hzw : ∀ x ∈ z, (Lit.int .i64 x).wf = true) (hc : KT 1 w) (hk : KT 0 w) :
    Calls Tryd.prog 5 #[.string s, .agg (z.map (Value.int .i64)).toArray, .string m] w fun e w' => e = .returned (.bool true) ∧ Below w.heap.size w w' := by
  have HK := Lib.hid hk
  have HC := Lib.hid hc
  obtain ⟨a, b, rfl⟩ : ∃ a b, z = [a, b] := by
    match z, hz2 with
    | [a, b], _ => exact ⟨a, b, rfl⟩
  have hb := i64_of (hzw b (by simp))
  clear hk hc hz2 hzw
  show Calls Tryd.prog 5 #[.string s, .agg #[.int .i64 a, .int .i64 b], .string m] w fun e w' => e = .returned (.bool true) ∧ Below w.heap.size w w'
  obtain ⟨w0, hw0⟩ : ∃ W, W = w.alloc (.cells #[.int .i64 a, .int .i64 b] 37) := ⟨_, rfl⟩
  have HB0 : Hid (Below w.heap.size w w0) := by rw [hw0]; exact below_new _ _
  have HN0 : Hid (Blk w0 w.heap.size 37 #[.int .i64 a, .int .i64 b]) := by rw [hw0]; exact Blk.new w _ _
  by_cases hbig : 200 < s.size ∨ 200 < m.size ∨ (2 < a ∧ a ≤ 6)
  · have hcase : 200 < s.size ∨ (¬ 200 < s.size ∧ 200 < m.size) ∨ (¬ 200 < s.size ∧ ¬ 200 < m.size ∧ 2 < a ∧ a ≤ 6) := by omega
    clear hbig
    rcases hcase with h1 | ⟨h1, h2⟩ | ⟨h1, h2, h3, h4⟩
    all_goals
      go_enter Tryd.func5, Tryd.ntmps5
      go_wp2_with (go_at_call 15; rw [← hw0]; clear hw0; refine (sanity3 _ (HK.out.below HB0.out)).mono ?_; rintro r w1 ⟨rfl, hb1⟩; have HB1 := Lib.hid (bt HB0.out hb1); have HN1 := Lib.hid (blk_past hb1 HN0.out); have ca := HN1.out.cell 0; have cb := HN1.out.cell 1; simp only [List.getElem?_toArray, List.getElem?_cons_zero, List.getElem?_cons_succ] at ca cb; clear hb1)
      go_ret
      exact ⟨rfl, HB1.out⟩
  · have h1 : ¬ 200 < s.size := by omega
    have h2 : ¬ 200 < m.size := by omega
    have h3 : (a ≤ 2) ∨ (2 < a ∧ ¬ a ≤ 6) := by omega
    clear hbig
    obtain ⟨p, e, G, f, q, hM⟩ := makes s m a b hb (by omega)
    have HM := Lib.hid hM
    have HSP := Lib.hid (size16 hM.p16)
    have hee : (e == e) = true := by simp
    have hff : (f == f) = true := by simp
    have epp : ∀ W, (binOp .eql 29 (.agg (bs p).toArray) (.agg (bs p).toArray)).run Tryd.prog W = .ok (.bool true) W := fun W => by
      have h := eq44 p p hM.p16 hM.p16 W
      rwa [decide_eq_true rfl] at h
    have eqq : ∀ W, (binOp .eql 29 (.agg (bs q).toArray) (.agg (bs q).toArray)).run Tryd.prog W = .ok (.bool true) W := fun W => by
      have h := eq44 q q hM.q16 hM.q16 W
      rwa [decide_eq_true rfl] at h
    have hz := Tryd.zero29
    clear hM hb
    rcases h3 with h3 | ⟨h3, h4⟩
    all_goals
      go_enter Tryd.func5, Tryd.ntmps5
      go_wp2_with (first
        | (go_at_call 15; rw [← hw0]; clear hw0; refine (sanity3 _ (HK.out.below HB0.out)).mono ?_; rintro r w1 ⟨rfl, hb1⟩; have HB1 := Lib.hid (bt HB0.out hb1); have HN1 := Lib.hid (blk_past hb1 HN0.out); have ca := HN1.out.cell 0; have cb := HN1.out.cell 1; simp only [List.getElem?_toArray, List.getElem?_cons_zero, List.getElem?_cons_succ] at ca cb; clear hb1)
        | (go_at_call 18; ((with_reducible refine (HM.out.pub _ (HK.out.below HB1.out)).mono ?_); rintro r w2 ⟨rfl, hb2⟩); have HB2 := Lib.hid (bt HB1.out hb2); have HN2 := Lib.hid (blk_past hb2 HN1.out); clear hb2 ca cb HB1 HN1)
        | (refine wpList_store_row rfl 29 (.tmp 8) (.tmp 41) rfl w2.heap.size (bs p).toArray rfl rfl 29 _ (Blk.new w2 29 _) HSP.out (by rw [sz16 z16_length, sz16 HM.out.p16]) (all_oneCell_toArray (bs_one _)) ?_
           generalize hw3 : World.setRow (World.alloc w2 _) _ _ = w3
           have HP3 : Hid (Blk w3 w2.heap.size 29 (bs p).toArray) := by rw [← hw3]; exact (Blk.new w2 29 _).setRow _
           have HN3 : Hid (Blk w3 w.heap.size 37 #[.int .i64 a, .int .i64 b]) := by rw [← hw3]; exact (HN2.out.alloc _).setRow_far (by have := HN2.out.lt; omega) _
           have HB3 : Hid (Below w.heap.size w w3) := by rw [← hw3]; exact below_setRow (ba HB2.out _) HB2.out.size _
           have ca := HN3.out.cell 0
           simp only [List.getElem?_toArray, List.getElem?_cons_zero] at ca
           clear hw3)
        | (go_at_call 19; ((with_reducible refine (HM.out.rpub _ (HC.out.below HB3.out)).mono ?_); rintro r w4 ⟨rfl, hb4⟩); have HB4 := Lib.hid (bt HB3.out hb4); have HN4 := Lib.hid (blk_past hb4 HN3.out); have HP4 := Lib.hid (blk_past hb4 HP3.out); clear hb4 ca HB3 HN3 HP3)
        | (refine wpList_store_row rfl 29 (.tmp 10) (.tmp 48) rfl w4.heap.size (bs p).toArray rfl rfl 29 _ (Blk.new w4 29 _) HSP.out (by rw [sz16 z16_length, sz16 HM.out.p16]) (all_oneCell_toArray (bs_one _)) ?_
           generalize hw5 : World.setRow (World.alloc w4 _) _ _ = w5
           have HQ5 : Hid (Blk w5 w4.heap.size 29 (bs p).toArray) := by rw [← hw5]; exact (Blk.new w4 29 _).setRow _
           have HP5 : Hid (Blk w5 w2.heap.size 29 (bs p).toArray) := by rw [← hw5]; exact (HP4.out.alloc _).setRow_far (by have := HP4.out.lt; omega) _
           have HN5 : Hid (Blk w5 w.heap.size 37 #[.int .i64 a, .int .i64 b]) := by rw [← hw5]; exact (HN4.out.alloc _).setRow_far (by have := HN4.out.lt; omega) _
           have HB5 : Hid (Below w.heap.size w w5) := by rw [← hw5]; exact below_setRow (ba HB4.out _) HB4.out.size _
           have ca := HN5.out.cell 0
           have cb := HN5.out.cell 1
           simp only [List.getElem?_toArray, List.getElem?_cons_zero, List.getElem?_cons_succ] at ca cb
           clear hw5)
        | (go_at_call 20; ((with_reducible refine (HM.out.sign _ (HK.out.below HB5.out)).mono ?_); rintro r w6 ⟨rfl, hb6⟩); have HB6 := Lib.hid (bt HB5.out hb6); have HN6 := Lib.hid (blk_past hb6 HN5.out); have HP6 := Lib.hid (blk_past hb6 HP5.out); have HQ6 := Lib.hid (blk_past hb6 HQ5.out); clear ca cb hb6 HB5 HN5 HP5 HQ5; have ca := HN6.out.cell 0; have cb := HN6.out.cell 1; simp only [List.getElem?_toArray, List.getElem?_cons_zero, List.getElem?_cons_succ] at ca cb)
        | (go_at_call 21; ((with_reducible refine (HM.out.rsign _ (HC.out.below HB6.out)).mono ?_); rintro r w7 ⟨rfl, hb7⟩); have HB7 := Lib.hid (bt HB6.out hb7); have HN7 := Lib.hid (blk_past hb7 HN6.out); have HP7 := Lib.hid (blk_past hb7 HP6.out); have HQ7 := Lib.hid (blk_past hb7 HQ6.out); clear ca cb hb7 HB6 HN6 HP6 HQ6))
      obtain ⟨gp, hgp⟩ : ∃ g, g = w2.heap.size := ⟨_, rfl⟩
      obtain ⟨gq, hgq⟩ : ∃ g, g = w4.heap.size := ⟨_, rfl⟩
      rw [← hgp] at HP7
      rw [← hgq] at HQ7
      have HLP := Lib.hid (fun (W : World) (hW : Below w7.heap.size w7 W) => load16 (blk_past hW HP7.out) HM.out.p16)
      have HLQ := Lib.hid (fun (W : World) (hW : Below w7.heap.size w7 W) => load16 (blk_past hW HQ7.out) HM.out.p16)
      have HLN : Hid (∀ W, Below w7.heap.size w7 W → (Instr.loadAt 3 (.pointer (some ⟨w.heap.size, 1, none⟩))).run Tryd.prog W = .ok (.int .i64 b) W) := fun W hW => load3 W (Blk.cell (blk_past hW HN7.out) 1)
      have HD1 := Lib.hid (fun (W : World) (hW : Below w7.heap.size w7 W) => HM.out.dig W ((HK.out.below HB7.out).below hW))
      have HD2 := Lib.hid (fun (W : World) (hW : Below w7.heap.size w7 W) => HM.out.rdig W ((HC.out.below HB7.out).below hW))
      rw [← hgp, ← hgq]
      clear HB4 HB2 HN4 HN2 HP4 HN7 HP7 HQ7 hgp hgq
      refine wp_region_below w7 (Below.refl _ _) (by kernel_rfl) (by kernel_rfl) ?_
      iterate 2 go_big_quiet_step ((intro _; rfl))
      refine wpQuiet_load' rfl 29 (.tmp 8) rfl _ rfl (.agg (bs p).toArray) HLP.out ?_
      go_simp
      refine wpQuiet_load' rfl 29 (.tmp 10) rfl _ rfl (.agg (bs p).toArray) HLQ.out ?_
      go_simp
      iterate 18 go_big_quiet_step ((intro _; rfl))
      refine wpQuiet_load' rfl 29 (.tmp 8) rfl _ rfl (.agg (bs p).toArray) HLP.out ?_
      go_simp
      go_big_quiet_step ((intro _; rfl))
      refine wpQuiet_load' rfl 3 (.tmp 93) rfl _ rfl (.int .i64 b) HLN.out ?_
      go_simp
      go_big_quiet_step ((intro _; rfl))
      go_big_quiet_step ((intro hw'; exact (HD1.out _ hw').mono fun e w'' ⟨he, hb⟩ => ⟨he, below_then hw' hb⟩))
      refine wpQuiet_load' rfl 29 (.tmp 8) rfl _ rfl (.agg (bs p).toArray) HLP.out ?_
      go_simp
      go_big_quiet_step ((intro _; rfl))
      refine wpQuiet_load' rfl 3 (.tmp 98) rfl _ rfl (.int .i64 b) HLN.out ?_
      go_simp
      go_big_quiet_step ((intro _; rfl))
      go_big_quiet_step ((intro hw'; exact (HD2.out _ hw').mono fun e w'' ⟨he, hb⟩ => ⟨he, below_then hw' hb⟩))
      iterate 3 go_big_quiet_step ((intro _; rfl))
      refine wpQuiet_nil ?_
      intro w8 hb8
      have HBE := Lib.hid (bt HB7.out hb8)
      clear hb8
      go_wp2_with fail
      go_ret
      exact ⟨rfl, HBE.out⟩
end Go.Proofs.YtaoegpmjogladaaDoor
