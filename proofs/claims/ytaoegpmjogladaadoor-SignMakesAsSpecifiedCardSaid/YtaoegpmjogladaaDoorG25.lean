/-
  THE WALK of SignIsAccepted.
-/
import Derived.Test.YtaoegpmjogladaaDoorG21
set_option linter.unusedVariables false
namespace Go.Proofs.YtaoegpmjogladaaDoor
open Go.RowKit WM

theorem str_take (s : ByteArray) (k : Nat) : s.extract 0 k = str (s.data.toList.take k) := by
  apply ByteArray.ext
  apply Array.toList_inj.1
  simp [str]
theorem strTo (s : ByteArray) (k : Nat) (z : Int) (hz : z = (k : Int)) (h : k ≤ s.size) (W : World) : (Instr.sliceAt 9 (.string s) none (some (.int .i64 z)) none).run Tryd.prog W = .ok (.string (str (s.data.toList.take k))) W := by
  subst hz
  go_simp
  exact str_take s k

theorem wpQuiet_slice' {P : Program} {ops : Array Oper} {C : World → Prop} {Q : Act → Prop} {a : Act} {o : Oper} {rest : List Oper} (hw : Region.wanted o (yielded ops a.tmps) = true) (ty : TypeId) (x y : Operand) (ho : o.op = .slice ty x none (some y) none) (vx : Value) (hx : a.eval x = vx) (vy : Value) (hy : a.eval y = vy)
    (v : Value) (hrun : ∀ w, (Instr.sliceAt ty vx none (some vy) none).run P w = .ok v w) (h : wpQuiet P ops C Q rest (a.put o.dst v)) : wpQuiet P ops C Q (o :: rest) a := by
  unfold wpQuiet
  rw [if_pos hw]
  refine ⟨v, fun w hc => ?_, h⟩
  unfold Oper.quietAt execOp
  simp only [ho, hx, hy, Option.map_some, Option.map_none, Sem.run_bind, hrun w, Result.andThen_ok]
  exact ⟨rfl, rfl⟩

/-- What the calls of the law answer. -/
structure Accepts (c : UInt8) (h i : Nat) (m S P G : ByteArray) (p : List UInt8) : Prop where
  seed : ∀ w, Calls Tryd.prog 26 #[.int .u8 (c.toNat : Int)] w fun e w' => e = .returned (.string S) ∧ Below w.heap.size w w'
  pub : ∀ w, KT 0 w → Calls Tryd.prog 18 #[.string S, .int .i64 (h : Int)] w fun e w' => e = .returned (.tuple #[.agg (bs p).toArray, .int .i64 0]) ∧ Below w.heap.size w w'
  sign : ∀ w, KT 0 w → Calls Tryd.prog 20 #[.string S, .int .i64 (h : Int), .int .i64 (i : Int), .string m] w fun e w' => e = .returned (.tuple #[.string G, .int .i64 0]) ∧ Below w.heap.size w w'
  yes : ∀ w, KT 0 w → Calls Tryd.prog 24 #[.agg (bs p).toArray, .int .i64 (h : Int), .string m, .string G] w fun e w' => e = .returned (.tuple #[.int .i64 (i : Int), .int .i64 0]) ∧ Below w.heap.size w w'
  long : ∀ w, Calls Tryd.prog 24 #[.agg (bs p).toArray, .int .i64 (h : Int), .string m, .string (G ++ (⟨#[120]⟩ : ByteArray))] w fun e w' => e = .returned (.tuple #[.int .i64 0, .int .i64 2]) ∧ Below w.heap.size w w'
  less : ∀ w, Calls Tryd.prog 24 #[.agg (bs p).toArray, .int .i64 (h : Int), .string m, .string (str (G.data.toList.take (G.size - 1)))] w fun e w' => e = .returned (.tuple #[.int .i64 0, .int .i64 2]) ∧ Below w.heap.size w w'
  p16 : p.length = 16
  size : 2 ≤ G.size ∧ G.size ≤ 1000000

theorem accepts (c : UInt8) (h i : Nat) (m : ByteArray) (h6 : h ≤ 6) (hi : i < 2 ^ h) (hm : m.size ≤ 1048576) : ∃ S P G p, Accepts c h i m S P G p := by
  obtain ⟨sd, hsd⟩ : ∃ sd, sd = List.replicate 32 c := ⟨_, rfl⟩
  have hs : (str sd).size = 32 := by rw [str_size, hsd]; simp
  have h64 : 2 ^ h ≤ 64 := by
    have : 2 ^ h ≤ 2 ^ 6 := Nat.pow_le_pow_right (by omega) h6
    simpa using this
  have hlen := sigB_len sd h i m
  have hel := enc_len (n := (i : Int)) ⟨by omega, by omega⟩
  have hg0 := sigB_get sd h i m (by omega) []
  rw [List.append_nil] at hg0
  have hgl := sigB_get sd h i m (by omega) [120]
  have hgs : (str (sigB sd h i m)).size = (enc (i : Int)).length + (68 + h) * 16 := by rw [str_size, hlen]
  refine ⟨str sd, str sd, str (sigB sd h i m), rootB sd h, ⟨fun w => hsd ▸ seedF c w, fun w hk => ?_, fun w hk => ?_, fun w hk => ?_, fun w => ?_, fun w => ?_, nodeB_16 _ _ _, by omega⟩⟩
  · have := public_yes (str sd) h w hk hs h6
    rwa [str_list] at this
  · have := sign_ok (str sd) m h i w hk hs h6 hi hm
    rwa [str_list] at this
  · have := verify_main (rootB sd h) h i (enc (i : Int)).length m (str (sigB sd h i m)) w hk (nodeB_16 _ _ _) h6 hi hm (by omega) (by rw [str_list]; exact hg0) (by omega) (by omega) true (by rw [str_list, sigB_drop]; exact decide_eq_true (back_sig sd h i m h6 hi))
    simpa using this
  · have e : (str (sigB sd h i m) ++ (⟨#[120]⟩ : ByteArray)).data.toList = sigB sd h i m ++ [120] := by simp [str_list]
    have hz : (str (sigB sd h i m) ++ (⟨#[120]⟩ : ByteArray)).size = (enc (i : Int)).length + (68 + h) * 16 + 1 := by
      rw [← size_list, e, List.length_append, hlen]; rfl
    exact verify_bad (rootB sd h) h (i : Int) (enc (i : Int)).length m _ w h6 hm (by omega) (by rw [e]; exact hgl) (by omega) (.inr (.inr (by omega)))
  · have e : (sigB sd h i m).take ((str (sigB sd h i m)).size - 1) = enc (i : Int) ++ (restB sd h i (digitsB (digestB (rootB sd h) i m))).take ((68 + h) * 16 - 1) := by
      rw [sigB_rest, List.take_append, List.take_of_length_le (by rw [← sigB_rest]; omega)]
      congr 2
      rw [← sigB_rest]; omega
    have e2 : (str ((str (sigB sd h i m)).data.toList.take ((str (sigB sd h i m)).size - 1))).data.toList = enc (i : Int) ++ (restB sd h i (digitsB (digestB (rootB sd h) i m))).take ((68 + h) * 16 - 1) := by rw [str_list, str_list, e]
    have hz : (str ((str (sigB sd h i m)).data.toList.take ((str (sigB sd h i m)).size - 1))).size = (enc (i : Int)).length + ((68 + h) * 16 - 1) := by
      rw [← size_list, e2, List.length_append, List.length_take, restB_len]; omega
    exact verify_bad (rootB sd h) h (i : Int) (enc (i : Int)).length m _ w h6 hm (by omega) (by rw [e2]; exact gInt_enc ⟨by omega, by omega⟩ _) (by omega) (.inr (.inr (by omega)))

set_option maxRecDepth 100000 in
set_option maxHeartbeats 8000000 in
theorem walkAcc (c b1 b2 : UInt8) (m : ByteArray) (w : World) (hk : KT 0 w) :
    Calls Tryd.prog 7 #[.int .u8 (c.toNat : Int), .int .u8 (b1.toNat : Int), .int .u8 (b2.toNat : Int), .string m] w fun e w' => e = .returned (.bool true) ∧ Below w.heap.size w w' := by
  have HK := Lib.hid hk
  clear hk
  by_cases hbig : 200 < m.size
  · go_enter Tryd.func7, Tryd.ntmps7
    go_wp2_with (go_at_call 15; refine (sanity3 _ HK.out).mono ?_; rintro e w1 ⟨rfl, hb1⟩; have HB1 := Lib.hid hb1; clear hb1)
    go_ret
    exact ⟨rfl, HB1.out⟩
  · obtain ⟨h, hh⟩ : ∃ h, h = b1.toNat % 3 := ⟨_, rfl⟩
    obtain ⟨i, hi⟩ : ∃ i, i = b2.toNat % 2 ^ h := ⟨_, rfl⟩
    have hh2 : h < 3 := by rw [hh]; exact Nat.mod_lt _ (by omega)
    have hilt : i < 2 ^ h := by rw [hi]; exact Nat.mod_lt _ (Nat.pow_pos (by omega))
    obtain ⟨S, P, G, p, ha⟩ := accepts c h i m (by omega) hilt (by omega)
    have HA := Lib.hid ha
    have h1 := b1.toNat_lt
    have h2 := b2.toNat_lt
    obtain ⟨n, hn⟩ : ∃ n, n = 2 ^ h := ⟨_, rfl⟩
    have hn4 : 1 ≤ n ∧ n ≤ 4 := by
      obtain rfl | rfl | rfl : h = 0 ∨ h = 1 ∨ h = 2 := by omega
      all_goals (rw [hn]; decide)
    have hmod : (b1.toNat : Int) % 3 = (h : Int) := by omega
    have hsh : wrap64 (2 ^ h) = (n : Int) := by
      rw [hn]
      obtain rfl | rfl | rfl : h = 0 ∨ h = 1 ∨ h = 2 := by omega
      all_goals decide +kernel
    have hrem : (b2.toNat : Int) % (n : Int) = (i : Int) := by rw [hi, hn]; simp
    have hi64 : i < 4 := by omega
    clear ha hh hi hn hilt
    go_enter Tryd.func7, Tryd.ntmps7
    have HP := Lib.hid (size16 HA.out.p16)
    have hz := Tryd.zero29
    have hg2 : ¬ (G.size : Int) < 2 := by have := HA.out.size; omega
    have hgm : IntKind.i64.wrap ((G.size : Int) - 1) = ((G.size - 1 : Nat) : Int) := by have := HA.out.size; rw [IntWalk.i64_in _ (by omega)]; omega
    have hsl := strTo G (G.size - 1) ((G.size - 1 : Nat) : Int) rfl (by omega)
    have hgm2 : G.size ≤ 1000000 := HA.out.size.2
    go_wp2_with (first
      | (go_at_call 15; refine (sanity3 _ HK.out).mono ?_; rintro e w1 ⟨rfl, hb1⟩; have HB1 := Lib.hid hb1; clear hb1)
      | (go_at_call 26; rw [hmod, hrem]; refine (HA.out.seed _).mono ?_; rintro e w2 ⟨rfl, hb2⟩; have HB2 := Lib.hid (bt HB1.out hb2); clear hb2 hmod hrem)
      | (go_at_call 18; ((with_reducible refine (HA.out.pub _ (HK.out.below HB2.out)).mono ?_); rintro e w3 ⟨rfl, hb3⟩); have HB3 := Lib.hid (bt HB2.out hb3); clear hb3)
      | (refine wpList_store_row rfl 29 (.tmp 12) (.tmp 40) rfl w3.heap.size (bs p).toArray rfl rfl 29 _ (Blk.new w3 29 _) HP.out (by rw [sz16 z16_length, sz16 HA.out.p16]) (all_oneCell_toArray (bs_one _)) ?_
         generalize hw4 : World.setRow (World.alloc w3 _) _ _ = w4
         have HP4 : Hid (Blk w4 w3.heap.size 29 (bs p).toArray) := by rw [← hw4]; exact (Blk.new w3 29 _).setRow _
         have HB4 : Hid (Below w.heap.size w w4) := by rw [← hw4]; exact below_setRow (ba HB3.out _) HB3.out.size _
         clear hw4)
      | (go_at_call 26; refine (HA.out.seed _).mono ?_; rintro e w5 ⟨rfl, hb5⟩; have HB5 := Lib.hid (bt HB4.out hb5); have HP5 := Lib.hid (blk_past hb5 HP4.out); clear hb5)
      | (go_at_call 20; ((with_reducible refine (HA.out.sign _ (HK.out.below HB5.out)).mono ?_); rintro e w6 ⟨rfl, hb6⟩); have HB6 := Lib.hid (bt HB5.out hb6); have HP6 := Lib.hid (blk_past hb6 HP5.out); clear hb6)
      | (refine wpList_load_row rfl 29 (.tmp 12) rfl w3.heap.size rfl 29 (bs p).toArray (0, 0) _ HP6.out Tryd.underlying29 rfl HP.out ?_)
      | (go_at_call 24; ((with_reducible refine (HA.out.yes _ (HK.out.below HB6.out)).mono ?_); rintro e w7 ⟨rfl, hb7⟩); have HB7 := Lib.hid (bt HB6.out hb7); have HP7 := Lib.hid (blk_past hb7 HP6.out); clear hb7)
      | (refine wpList_load_row rfl 29 (.tmp 12) rfl w3.heap.size rfl 29 (bs p).toArray (0, 0) _ HP7.out Tryd.underlying29 rfl HP.out ?_)
      | (go_at_call 24; ((with_reducible refine (HA.out.long _).mono ?_); rintro e w8 ⟨rfl, hb8⟩); have HB8 := Lib.hid (bt HB7.out hb8); have HP8 := Lib.hid (blk_past hb8 HP7.out); clear hb8))
    obtain ⟨gp, hgp⟩ : ∃ g, g = w3.heap.size := ⟨_, rfl⟩
    rw [← hgp] at HP8 ⊢
    have HLA := Lib.hid (fun (W : World) (hW : Below w8.heap.size w8 W) => load16 (blk_past hW HP8.out) HA.out.p16)
    have HLE := Lib.hid HA.out.less
    clear hgp HP7 HP6 HP5 HP4 HB7 HB6 HB5 HB4 HB3 HB2 HB1
    refine wp_region_below w8 (Below.refl _ _) (by kernel_rfl) (by kernel_rfl) ?_
    refine wpQuiet_load' rfl 29 (.tmp 12) rfl _ rfl (.agg (bs p).toArray) HLA.out ?_
    go_simp
    iterate 6 go_big_quiet_step ((intro _; rfl))
    refine wpQuiet_slice' rfl 9 (.tmp 87) (.tmp 90) rfl (.string G) rfl (.int .i64 ((G.size - 1 : Nat) : Int)) rfl _ hsl ?_
    go_simp
    go_big_quiet_step ((intro hw'; exact (HLE.out _).mono fun e w'' ⟨he, hb⟩ => ⟨he, below_then hw' hb⟩))
    iterate 5 go_big_quiet_step ((intro _; rfl))
    refine wpQuiet_nil ?_
    intro w' hb
    have HBE := Lib.hid (bt HB8.out hb)
    clear hb
    go_wp2_with fail
    go_ret
    exact ⟨rfl, HBE.out⟩
end Go.Proofs.YtaoegpmjogladaaDoor
