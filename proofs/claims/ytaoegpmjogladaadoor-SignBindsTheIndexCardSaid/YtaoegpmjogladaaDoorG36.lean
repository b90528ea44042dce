/-
  THE WALK of SignBindsTheIndex.
-/
import Derived.Test.YtaoegpmjogladaaDoorG34
import Derived.Test.YtaoegpmjogladaaDoorG25
set_option linter.unusedVariables false
namespace Go.Proofs.YtaoegpmjogladaaDoor
open Go.RowKit WM

/-- What the calls of the law answer. -/
structure Binds (c : UInt8) (h i k : Nat) (m S G T M : ByteArray) (p : List UInt8) (x e : Int) : Prop where
  seed : ∀ w, Calls Tryd.prog 26 #[.int .u8 (c.toNat : Int)] w fun e w' => e = .returned (.string S) ∧ Below w.heap.size w w'
  pub : ∀ w, KT 0 w → Calls Tryd.prog 18 #[.string S, .int .i64 (h : Int)] w fun e w' => e = .returned (.tuple #[.agg (bs p).toArray, .int .i64 0]) ∧ Below w.heap.size w w'
  signI : ∀ w, KT 0 w → Calls Tryd.prog 20 #[.string S, .int .i64 (h : Int), .int .i64 (i : Int), .string m] w fun e w' => e = .returned (.tuple #[.string G, .int .i64 0]) ∧ Below w.heap.size w w'
  signK : ∀ w, KT 0 w → Calls Tryd.prog 20 #[.string S, .int .i64 (h : Int), .int .i64 (k : Int), .string m] w fun e w' => e = .returned (.tuple #[.string T, .int .i64 0]) ∧ Below w.heap.size w w'
  ver : ∀ w, KT 0 w → Calls Tryd.prog 24 #[.agg (bs p).toArray, .int .i64 (h : Int), .string m, .string M] w fun r w' => r = .returned (.tuple #[.int .i64 x, .int .i64 e]) ∧ Below w.heap.size w w'
  ref : ∀ w, KT 1 w → Calls Tryd.prog 25 #[.agg (bs p).toArray, .int .i64 (h : Int), .string m, .string M] w fun r w' => r = .returned (.tuple #[.int .i64 x, .int .i64 e]) ∧ Below w.heap.size w w'
  mixed : M = str (T.data.toList.take (T.size - (68 + h) * 16)) ++ str (G.data.toList.drop (G.size - (68 + h) * 16))
  same : i = k → e = 0
  p16 : p.length = 16
  sizeG : (68 + h) * 16 ≤ G.size ∧ G.size ≤ 1000000
  sizeT : (68 + h) * 16 ≤ T.size ∧ T.size ≤ 1000000

theorem verB_sig (sd : List UInt8) (h i : Nat) (m : ByteArray) (h6 : h ≤ 6) (hi : i < 2 ^ h) : verB (rootB sd h) h m (str (sigB sd h i m)) = ((i : Int), 0) := by
  have h64 : 2 ^ h ≤ 64 := by
    have : 2 ^ h ≤ 2 ^ 6 := Nat.pow_le_pow_right (by omega) h6
    simpa using this
  have hg := sigB_get sd h i m (by omega) []
  rw [List.append_nil] at hg
  have hz : (str (sigB sd h i m)).size = (enc (i : Int)).length + (68 + h) * 16 := by rw [str_size, sigB_len]
  have hi2 : ((i : Nat) : Int) < ((2 ^ h : Nat) : Int) := Int.ofNat_lt.2 hi
  unfold verB
  rw [if_pos ⟨by omega, by omega⟩, str_list, hg]
  show (if (i : Int) < 0 ∨ ((2 ^ (h : Int).toNat : Nat) : Int) ≤ (i : Int) ∨ _ ≠ (68 + (h : Int).toNat) * 16 then _ else _) = _
  rw [Int.toNat_natCast, if_neg (by rw [hz]; omega), Int.toNat_natCast, sigB_drop, if_pos (back_sig sd h i m h6 hi)]

theorem binds (c : UInt8) (h i k : Nat) (m : ByteArray) (h6 : h ≤ 6) (hi : i < 2 ^ h) (hk : k < 2 ^ h) (hm : m.size ≤ 1048576) : ∃ S G T M p x e, Binds c h i k m S G T M p x e := by
  obtain ⟨sd, hsd⟩ : ∃ sd, sd = List.replicate 32 c := ⟨_, rfl⟩
  have hs : (str sd).size = 32 := by rw [str_size, hsd]; simp
  have h64 : 2 ^ h ≤ 64 := by
    have : 2 ^ h ≤ 2 ^ 6 := Nat.pow_le_pow_right (by omega) h6
    simpa using this
  have zG : (str (sigB sd h i m)).size = (enc (i : Int)).length + (68 + h) * 16 := by rw [str_size, sigB_len]
  have zT : (str (sigB sd h k m)).size = (enc (k : Int)).length + (68 + h) * 16 := by rw [str_size, sigB_len]
  have eG := enc_len (n := (i : Int)) ⟨by omega, by omega⟩
  have eT := enc_len (n := (k : Int)) ⟨by omega, by omega⟩
  obtain ⟨M, hM⟩ : ∃ M, M = str ((str (sigB sd h k m)).data.toList.take ((str (sigB sd h k m)).size - (68 + h) * 16)) ++ str ((str (sigB sd h i m)).data.toList.drop ((str (sigB sd h i m)).size - (68 + h) * 16)) := ⟨_, rfl⟩
  obtain ⟨x, e, hv⟩ : ∃ x e, verB (rootB sd h) h m M = (x, e) := ⟨_, _, rfl⟩
  have hMs : M.size ≤ 1000000 := by
    rw [hM, ByteArray.size_append]
    have a1 : (str ((str (sigB sd h k m)).data.toList.take ((str (sigB sd h k m)).size - (68 + h) * 16))).size ≤ (str (sigB sd h k m)).size := by rw [str_size, List.length_take, size_list]; omega
    have a2 : (str ((str (sigB sd h i m)).data.toList.drop ((str (sigB sd h i m)).size - (68 + h) * 16))).size ≤ (str (sigB sd h i m)).size := by rw [str_size, List.length_drop, size_list]; omega
    omega
  refine ⟨str sd, str (sigB sd h i m), str (sigB sd h k m), M, rootB sd h, x, e, ⟨fun w => hsd ▸ seedF c w, fun w hc => ?_, fun w hc => ?_, fun w hc => ?_,
    fun w hc => verB_sign _ _ _ _ w hc (nodeB_16 _ _ _) hm hMs x e hv, fun w hc => verB_ref _ _ _ _ w hc (nodeB_16 _ _ _) hm hMs x e hv, hM, ?_, nodeB_16 _ _ _, ⟨by omega, by omega⟩, ⟨by omega, by omega⟩⟩⟩
  · have := public_yes (str sd) h w hc hs h6
    rwa [str_list] at this
  · have := sign_ok (str sd) m h i w hc hs h6 hi hm
    rwa [str_list] at this
  · have := sign_ok (str sd) m h k w hc hs h6 hk hm
    rwa [str_list] at this
  · rintro rfl
    have e1 : M = str (sigB sd h i m) := by rw [hM, str_append, List.take_append_drop, str_list]
    rw [e1, verB_sig sd h i m h6 hi] at hv
    injection hv with _ h2
    exact h2.symm

set_option maxRecDepth 100000 in
set_option maxHeartbeats 8000000 in
theorem walkBind (c b1 b2 b3 : UInt8) (m : ByteArray) (w : World) (hc : KT 1 w) (hk : KT 0 w) :
    Calls Tryd.prog 9 #[.int .u8 (c.toNat : Int), .int .u8 (b1.toNat : Int), .int .u8 (b2.toNat : Int), .int .u8 (b3.toNat : Int), .string m] w fun e w' => e = .returned (.bool true) ∧ Below w.heap.size w w' := by
  have HK := Lib.hid hk
  have HC := Lib.hid hc
  clear hk hc
  by_cases hbig : 200 < m.size
  · go_enter Tryd.func9, Tryd.ntmps9
    go_wp2_with (go_at_call 15; refine (sanity3 _ HK.out).mono ?_; rintro e w1 ⟨rfl, hb1⟩; have HB1 := Lib.hid hb1; clear hb1)
    go_ret
    exact ⟨rfl, HB1.out⟩
  · obtain ⟨h, hh⟩ : ∃ h, h = b1.toNat % 3 := ⟨_, rfl⟩
    obtain ⟨i, hi⟩ : ∃ i, i = b2.toNat % 2 ^ h := ⟨_, rfl⟩
    obtain ⟨k, hk⟩ : ∃ k, k = b3.toNat % 2 ^ h := ⟨_, rfl⟩
    have hh2 : h < 3 := by rw [hh]; exact Nat.mod_lt _ (by omega)
    have hilt : i < 2 ^ h := by rw [hi]; exact Nat.mod_lt _ (Nat.pow_pos (by omega))
    have hklt : k < 2 ^ h := by rw [hk]; exact Nat.mod_lt _ (Nat.pow_pos (by omega))
    obtain ⟨S, G, T, M, p, x, e, ha⟩ := binds c h i k m (by omega) hilt hklt (by omega)
    have h1 := b1.toNat_lt
    have h2 := b2.toNat_lt
    have h3 := b3.toNat_lt
    obtain ⟨n, hn⟩ : ∃ n, n = 2 ^ h := ⟨_, rfl⟩
    have hn4 : 1 ≤ n ∧ n ≤ 4 := by
      obtain rfl | rfl | rfl : h = 0 ∨ h = 1 ∨ h = 2 := by omega
      all_goals (rw [hn]; decide)
    have hmod : (b1.toNat : Int) % 3 = (h : Int) := by omega
    have hsh : wrap64 (2 ^ h) = (n : Int) := by
      rw [hn]
      obtain rfl | rfl | rfl : h = 0 ∨ h = 1 ∨ h = 2 := by omega
      all_goals decide +kernel
    have hremi : (b2.toNat : Int) % (n : Int) = (i : Int) := by rw [hi, hn]; simp
    have hremk : (b3.toNat : Int) % (n : Int) = (k : Int) := by rw [hk, hn]; simp
    have hi64 : i < 4 := Nat.lt_of_lt_of_le hilt (by rw [← hn]; exact hn4.2)
    have hk64 : k < 4 := Nat.lt_of_lt_of_le hklt (by rw [← hn]; exact hn4.2)
    obtain ⟨zg1, zg2⟩ := ha.sizeG
    obtain ⟨zt1, zt2⟩ := ha.sizeT
    have g1 : ¬ (G.size : Int) < 1088 := by omega
    have g2 : ¬ (G.size : Int) < (68 + (h : Int)) * 16 := by omega
    have t2 : ¬ (T.size : Int) < (68 + (h : Int)) * 16 := by omega
    have wg : IntKind.i64.wrap ((G.size : Int) - (68 + (h : Int)) * 16) = ((G.size - (68 + h) * 16 : Nat) : Int) := by rw [IntWalk.i64_in _ (by omega)]; omega
    have wt : IntKind.i64.wrap ((T.size : Int) - (68 + (h : Int)) * 16) = ((T.size - (68 + h) * 16 : Nat) : Int) := by rw [IntWalk.i64_in _ (by omega)]; omega
    have hslT := strTo T (T.size - (68 + h) * 16) ((T.size - (68 + h) * 16 : Nat) : Int) rfl (by omega)
    have hslG := strSlice G (G.size - (68 + h) * 16) ((G.size - (68 + h) * 16 : Nat) : Int) rfl (by omega)
    have hsz : ((str (T.data.toList.take (T.size - (68 + h) * 16))).size : Int) + ((str (G.data.toList.drop (G.size - (68 + h) * 16))).size : Int) ≤ 140737488355328 := by
      rw [str_size, str_size, List.length_take, List.length_drop, size_list, size_list]; omega
    have hM := ha.mixed
    obtain ⟨U, hU⟩ : ∃ U, U = str (T.data.toList.take (T.size - (68 + h) * 16)) := ⟨_, rfl⟩
    obtain ⟨V, hV⟩ : ∃ V, V = str (G.data.toList.drop (G.size - (68 + h) * 16)) := ⟨_, rfl⟩
    rw [← hU] at hslT hsz hM
    rw [← hV] at hslG hsz hM
    have HA := Lib.hid ha
    have HM := Lib.hid hM
    have hxx : (x == x) = true := by simp
    have hee : (e == e) = true := by simp
    have hz := Tryd.zero29
    have HP := Lib.hid (size16 HA.out.p16)
    have hcase : (((i : Int) != (k : Int)) = true) ∨ (((i : Int) != (k : Int)) = false ∧ (e == 0) = true) := by
      by_cases hik : i = k
      · exact .inr ⟨by simp [hik], by rw [ha.same hik]; rfl⟩
      · exact .inl (by simp; omega)
    clear ha hM hh hi hk hn hilt hklt hU hV
    rcases hcase with hik | ⟨hik, he0⟩
    all_goals
      go_enter Tryd.func9, Tryd.ntmps9
      go_wp2_with (first
        | (go_at_call 15; refine (sanity3 _ HK.out).mono ?_; rintro r w1 ⟨rfl, hb1⟩; have HB1 := Lib.hid hb1; clear hb1)
        | (go_at_call 26; rw [hmod, hremi, hremk]; refine (HA.out.seed _).mono ?_; rintro r w2 ⟨rfl, hb2⟩; have HB2 := Lib.hid (bt HB1.out hb2); clear hb2 hmod hremi hremk)
        | (go_at_call 18; ((with_reducible refine (HA.out.pub _ (HK.out.below HB2.out)).mono ?_); rintro r w3 ⟨rfl, hb3⟩); have HB3 := Lib.hid (bt HB2.out hb3); clear hb3)
        | (refine wpList_store_row rfl 29 (.tmp 15) (.tmp 50) rfl w3.heap.size (bs p).toArray rfl rfl 29 _ (Blk.new w3 29 _) HP.out (by rw [sz16 z16_length, sz16 HA.out.p16]) (all_oneCell_toArray (bs_one _)) ?_
           generalize hw4 : World.setRow (World.alloc w3 _) _ _ = w4
           have HP4 : Hid (Blk w4 w3.heap.size 29 (bs p).toArray) := by rw [← hw4]; exact (Blk.new w3 29 _).setRow _
           have HB4 : Hid (Below w.heap.size w w4) := by rw [← hw4]; exact below_setRow (ba HB3.out _) HB3.out.size _
           clear hw4)
        | (go_at_call 26; refine (HA.out.seed _).mono ?_; rintro r w5 ⟨rfl, hb5⟩; have HB5 := Lib.hid (bt HB4.out hb5); have HP5 := Lib.hid (blk_past hb5 HP4.out); clear hb5 HB4 HP4)
        | (go_at_call 20; ((with_reducible refine (HA.out.signI _ (HK.out.below HB5.out)).mono ?_); rintro r w6 ⟨rfl, hb6⟩); have HB6 := Lib.hid (bt HB5.out hb6); have HP6 := Lib.hid (blk_past hb6 HP5.out); clear hb6 HB5 HP5)
        | (go_at_call 26; refine (HA.out.seed _).mono ?_; rintro r w7 ⟨rfl, hb7⟩; have HB7 := Lib.hid (bt HB6.out hb7); have HP7 := Lib.hid (blk_past hb7 HP6.out); clear hb7 HB6 HP6)
        | (go_at_call 20; ((with_reducible refine (HA.out.signK _ (HK.out.below HB7.out)).mono ?_); rintro r w8 ⟨rfl, hb8⟩); have HB8 := Lib.hid (bt HB7.out hb8); have HP8 := Lib.hid (blk_past hb8 HP7.out); clear hb8 HB7 HP7))
      clear HB3 HB2 HB1
      refine wp_region_below w8 (Below.refl _ _) (by kernel_rfl) (by kernel_rfl) ?_
      iterate 5 go_big_quiet_step ((intro _; rfl))
      refine wpQuiet_slice' rfl 9 (.tmp 90) (.tmp 94) rfl (.string T) rfl (.int .i64 ((T.size - (68 + h) * 16 : Nat) : Int)) rfl _ hslT ?_
      go_simp
      iterate 5 go_big_quiet_step ((intro _; rfl))
      refine wpQuiet_sliceLo rfl 9 (.tmp 96) (.tmp 100) rfl (.string G) rfl (.int .i64 ((G.size - (68 + h) * 16 : Nat) : Int)) rfl _ hslG ?_
      go_simp
      iterate 2 go_big_quiet_step ((intro _; rfl))
      refine wpQuiet_nil ?_
      intro w9 hb9
      have HB9 := Lib.hid (bt HB8.out hb9)
      have HP9 := Lib.hid (blk_past hb9 HP8.out)
      clear hb9 HB8 HP8
      rw [← HM.out]
      obtain ⟨gp, hgp⟩ : ∃ g, g = w3.heap.size := ⟨_, rfl⟩
      rw [← hgp] at HP9 ⊢
      clear hgp
      go_wp2_with (first
        | (refine wpList_load_row rfl 29 (.tmp 15) rfl gp rfl 29 (bs p).toArray (0, 0) _ HP9.out Tryd.underlying29 rfl HP.out ?_)
        | (go_at_call 24; ((with_reducible refine (HA.out.ver _ (HK.out.below HB9.out)).mono ?_); rintro r wa ⟨rfl, hba⟩); have HBa := Lib.hid (bt HB9.out hba); have HPa := Lib.hid (blk_past hba HP9.out); clear hba)
        | (refine wpList_load_row rfl 29 (.tmp 15) rfl gp rfl 29 (bs p).toArray (0, 0) _ HPa.out Tryd.underlying29 rfl HP.out ?_)
        | (go_at_call 25; ((with_reducible refine (HA.out.ref _ (HC.out.below HBa.out)).mono ?_); rintro r wb ⟨rfl, hbb⟩); have HBb := Lib.hid (bt HBa.out hbb); clear hbb))
      go_ret
      exact ⟨rfl, HBb.out⟩
end Go.Proofs.YtaoegpmjogladaaDoor
