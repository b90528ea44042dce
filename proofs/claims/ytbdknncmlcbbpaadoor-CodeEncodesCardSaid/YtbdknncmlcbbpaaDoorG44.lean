/-
  The reference's Digest of code, and its Same.
-/
import Derived.Test.YtbdknncmlcbbpaaDoorG42
import Derived.Test.YtbdknncmlcbbpaaDoorG43
set_option linter.unusedVariables false
namespace Go.Proofs.YtbdknncmlcbbpaaDoor
open Go.RowKit WM TR KM

set_option maxRecDepth 100000 in
set_option maxHeartbeats 4000000 in
theorem rcodeDig_is (ch : Int) (es : List Ent) (Ac : Option Addr) (cc : Nat) (w : World) (hco : CoR w (fun b => b < w.heap.size) Ac cc es) (hch : inRange ch) (hsz : (encK ch (es.map Ent.fn)).length ≤ 1000000) (hk : KT 2 w) :
    Calls Tryd.prog 18 #[.agg #[.int .i64 ch, .slice Ac es.length cc]] w fun e w' => e = .returned (.agg (bs (digK ch (es.map Ent.fn))).toArray) ∧ Below w.heap.size w w' := by
  obtain ⟨n, hnn⟩ : ∃ n, es.length = n := ⟨_, rfl⟩
  have hsm := hsz
  obtain ⟨W1, hW1⟩ : ∃ W, W = (w.alloc (.cells #[.int .i64 ch, .slice Ac n cc] 25)).alloc (.cells (bs (List.replicate 16 0)).toArray 37) := ⟨_, rfl⟩
  have hz : W1.heap.size = w.heap.size + 2 := by rw [hW1, size_alloc, size_alloc]
  have hB1 : Below w.heap.size w W1 := by rw [hW1]; exact ba (below_new _ _) _
  have hZ1 : Blk W1 (w.heap.size + 1) 37 (bs (List.replicate 16 0)).toArray := by rw [hW1]; exact Blk.new_at _ _ (by rw [size_alloc]) rfl
  have hZ0 : Blk W1 w.heap.size 25 #[.int .i64 ch, .slice Ac n cc] := by rw [hW1]; exact (Blk.new _ _ _).alloc _
  have hC := rcodeEnc_is ch es Ac cc W1 (hco.next hB1) hch hsz
  rw [hnn] at hC
  obtain ⟨l, hl⟩ : ∃ l, l = encK ch (es.map Ent.fn) := ⟨_, rfl⟩
  unfold digK
  rw [← hl] at hC hsm ⊢
  rw [hnn]
  have hE : (encP [str l]).length ≤ 137438953472 := by
    rw [encP_one]
    unfold encB
    rw [List.length_append]
    have := (enc_len (n := (l.length : Int)) ⟨by omega, by omega⟩).2
    omega
  have HC := Lib.hid hC
  have HK := Lib.hid hk
  have HB1 := Lib.hid hB1
  have HZ1 := Lib.hid hZ1
  have HZ := Lib.hid hz
  have HE := Lib.hid hE
  have HW1 := Lib.hid hW1
  have c0 : W1.cell? ⟨w.heap.size, 0, none⟩ = some (.int .i64 ch) := hZ0.cell 0
  have c1 : W1.cell? ⟨w.heap.size, 1, none⟩ = some (.slice Ac n cc) := hZ0.cell 1
  clear hco hk hE hz hB1 hZ1 hZ0 hC hW1 hnn hl hsm hsz
  go_enter Tryd.func18, Tryd.ntmps18
  go_upto_region 1 with fail
  have e16 : (#[.int .u8 0, .int .u8 0, .int .u8 0, .int .u8 0, .int .u8 0, .int .u8 0, .int .u8 0, .int .u8 0, .int .u8 0, .int .u8 0, .int .u8 0, .int .u8 0, .int .u8 0, .int .u8 0, .int .u8 0, .int .u8 0] : Array Value) = (bs (List.replicate 16 0)).toArray := by kernel_rfl
  rw [e16, ← HW1.out]
  clear e16
  go_wp2_with (first
    | (go_at_call 16; go_loud (clear c0 c1; refine HC.out.mono ?_; rintro e w2 ⟨A2, c2, rfl, ho2, hb2⟩; have hcv := conv_str (c := c2) (Reads.of_own ho2); have HB2 := Lib.hid hb2; clear ho2 hb2))
    | (go_at_call 46; go_loud (have hrd : Reads (w2.alloc (.cells #[.string (str l)] 9)) (w2.alloc (.cells #[.string (str l)] 9)).heap.size 1 (some ⟨w2.heap.size, 0, none⟩) [str l].length (ss [str l]) := ⟨rfl, fun _ => ⟨_, rfl, (by rw [size_alloc]; exact Nat.lt_succ_self _), one_new _ _ _⟩⟩; refine (rof 2 _ [str l] 1 _ (HK.out.below (ba (bt HB1.out HB2.out) _)) hrd HE.out (by simp)).mono ?_; rintro e w3 ⟨rfl, hb3⟩; have HB3 := Lib.hid (bt (bt HB1.out HB2.out) (bt (below_new w2 (.cells #[.string (str l)] 9)) hb3)); have HZ3 := Lib.hid ((HZ1.out.below HB2.out HZ1.out.lt).below (bt (below_new w2 (.cells #[.string (str l)] 9)) hb3) (by have := (HZ1.out.below HB2.out HZ1.out.lt).lt; omega)); clear hb3 hrd))
    | (refine wpList_store_row rfl 37 (.tmp 2) (.tmp 7) rfl (w.heap.size + 1) (bs (ofB 2 [str l])).toArray rfl rfl 37 _ HZ3.out (by rw [Tryd.size37]; simp [bs_length, ofB_len]) (by simp [bs_length, ofB_len]) (all_oneCell_toArray (bs_one _)) ?_))
  refine bodyPost_ret (results_cell_row Tryd.results18 _ _ (w.heap.size + 1) 37 (bs (ofB 2 [str l])).toArray (0, 0) _ rfl (HZ3.out.setRow _) Tryd.underlying37 rfl (by rw [Tryd.size37]; simp [bs_length, ofB_len])) rfl ⟨rfl, below_setRow HB3.out (by omega) _⟩

set_option maxRecDepth 100000 in
set_option maxHeartbeats 4000000 in
theorem rsameK_is (ch ch' : Int) (es fs : List Ent) (A1 A2 : Option Addr) (c1 c2 : Nat) (w : World) (h1 : CoR w (fun b => b < w.heap.size) A1 c1 es) (h2 : CoR w (fun b => b < w.heap.size) A2 c2 fs) (hch : inRange ch) (hch' : inRange ch') (hs1 : (encK ch (es.map Ent.fn)).length ≤ 1000000) (hs2 : (encK ch' (fs.map Ent.fn)).length ≤ 1000000) :
    Calls Tryd.prog 20 #[.agg #[.int .i64 ch, .slice A1 es.length c1], .agg #[.int .i64 ch', .slice A2 fs.length c2]] w fun e w' => e = .returned (.bool (sameK ⟨ch, es.map Ent.fn⟩ ⟨ch', fs.map Ent.fn⟩)) ∧ Below w.heap.size w w' := by
  obtain ⟨m1, hm1⟩ : ∃ k, k = es.length := ⟨_, rfl⟩
  obtain ⟨m2, hm2⟩ : ∃ k, k = fs.length := ⟨_, rfl⟩
  obtain ⟨z, hz⟩ : ∃ z, z = w.heap.size := ⟨_, rfl⟩
  obtain ⟨W1, hW1⟩ : ∃ W, W = (w.alloc (.cells #[.int .i64 ch, .slice A1 m1 c1] 25)).alloc (.cells #[.int .i64 ch', .slice A2 m2 c2] 25) := ⟨_, rfl⟩
  have hb1 : Below w.heap.size w W1 := by rw [hW1]; exact ba (below_new _ _) _
  have ka : Blk W1 z 25 #[.int .i64 ch, .slice A1 m1 c1] := by rw [hW1, hz]; exact (Blk.new _ _ _).alloc _
  have kb : Blk W1 (z + 1) 25 #[.int .i64 ch', .slice A2 m2 c2] := by rw [hW1]; exact Blk.new_at _ _ (by rw [size_alloc, hz]) rfl
  obtain ⟨r, hr⟩ : ∃ r, r = sameK ⟨ch, es.map Ent.fn⟩ ⟨ch', fs.map Ent.fn⟩ := ⟨_, rfl⟩
  obtain ⟨k1, hk1⟩ : ∃ k, (encK ch (es.map Ent.fn)).length = k := ⟨_, rfl⟩
  obtain ⟨k2, hk2⟩ : ∃ k, (encK ch' (fs.map Ent.fn)).length = k := ⟨_, rfl⟩
  have HE1 : Hid (∀ W, Below W1.heap.size W1 W → Calls Tryd.prog 16 #[.agg #[.int .i64 ch, .slice A1 m1 c1]] W fun e w' => ∃ A c, e = .returned (.slice A k1 c) ∧ (∀ W', Below w'.heap.size w' W' → Reads W' W'.heap.size 1 A k1 (bs (encK ch (es.map Ent.fn)))) ∧ Below W.heap.size W w') := Lib.hid fun W hb => by
    have h := rcodeEnc_is ch es A1 c1 W ((h1.next hb1).next hb) hch hs1
    rw [hk1, ← hm1] at h
    refine h.mono ?_
    rintro e w' ⟨A, c, he, ho, hbw⟩
    exact ⟨A, c, he, fun W' h' => ((Reads.of_own ho).below h').more h'.size, hbw⟩
  have HE2 : Hid (∀ W, Below W1.heap.size W1 W → Calls Tryd.prog 16 #[.agg #[.int .i64 ch', .slice A2 m2 c2]] W fun e w' => ∃ A c, e = .returned (.slice A k2 c) ∧ (∀ W', Below w'.heap.size w' W' → Reads W' W'.heap.size 1 A k2 (bs (encK ch' (fs.map Ent.fn)))) ∧ Below W.heap.size W w') := Lib.hid fun W hb => by
    have h := rcodeEnc_is ch' fs A2 c2 W ((h2.next hb1).next hb) hch' hs2
    rw [hk2, ← hm2] at h
    refine h.mono ?_
    rintro e w' ⟨A, c, he, ho, hbw⟩
    exact ⟨A, c, he, fun W' h' => ((Reads.of_own ho).below h').more h'.size, hbw⟩
  have HS : Hid (∀ (W : World) (AB AY : Option Addr) (cB cY : Nat), Reads W W.heap.size 1 AB k1 (bs (encK ch (es.map Ent.fn))) → Reads W W.heap.size 1 AY k2 (bs (encK ch' (fs.map Ent.fn))) → Calls Tryd.prog 14 #[.slice AB k1 cB, .slice AY k2 cY] W fun e w' => e = .returned (.bool r) ∧ Below W.heap.size W w') := Lib.hid fun W AB AY cB cY ha hb => by
    rw [hr]
    exact sameKB AB AY cB cY k1 k2 ch ch' _ _ W ha hb hk1 hk2 (by omega) (by omega) (cok_of h1 hch) (cok_of h2 hch')
  rw [← hr, ← hm1, ← hm2]
  have HK : Hid (∀ W, Below W1.heap.size W1 W → W.cell? ⟨z, 0, none⟩ = some (.int .i64 ch) ∧ W.cell? ⟨z, 1, none⟩ = some (.slice A1 m1 c1) ∧ W.cell? ⟨z + 1, 0, none⟩ = some (.int .i64 ch') ∧ W.cell? ⟨z + 1, 1, none⟩ = some (.slice A2 m2 c2)) := Lib.hid fun W hb => ⟨(ka.below hb ka.lt).cell 0, (ka.below hb ka.lt).cell 1, (kb.below hb kb.lt).cell 0, (kb.below hb kb.lt).cell 1⟩
  have HW1 := Lib.hid hW1
  have HZ := Lib.hid hz
  have HB1 := Lib.hid hb1
  clear hW1 hz hb1 ka kb hr hk1 hk2 hm1 hm2 h1 h2 hch hch' hs1 hs2
  go_enter Tryd.func20, Tryd.ntmps20
  go_upto_region 1 with fail
  have hz2 : (w.alloc (.cells #[.int .i64 ch, .slice A1 m1 c1] 25)).heap.size = z + 1 := by rw [size_alloc, HZ.out]
  try rw [hz2]
  rw [← HW1.out]
  try rw [← HZ.out]
  clear hz2
  have hbc : Below W1.heap.size W1 W1.drew := (Below.refl _ _).drew
  refine wp_region_noPanic ?_
  go_region_held2 (fun W => W.cell? ⟨z, 0, none⟩ = some (.int .i64 ch) ∧ W.cell? ⟨z, 1, none⟩ = some (.slice A1 m1 c1) ∧ W.cell? ⟨z + 1, 0, none⟩ = some (.int .i64 ch') ∧ W.cell? ⟨z + 1, 1, none⟩ = some (.slice A2 m2 c2))
    (exact HK.out _ hbc)
    (first
    | (go_at_call 16; first
        | (with_reducible refine (HE1.out _ hbc).mono ?_; rintro e w11 ⟨AB, cB, rfl, hra, hb11⟩; (try replace HRB := Lib.hid (fun W' (h' : Below w11.heap.size w11 W') => HRB.out W' (bt hb11 h'))); replace hbc := bt hbc hb11; have HRA := Lib.hid hra; clear hra hb11)
        | (with_reducible refine (HE2.out _ hbc).mono ?_; rintro e w12 ⟨AY, cY, rfl, hrb, hb12⟩; (try replace HRA := Lib.hid (fun W' (h' : Below w12.heap.size w12 W') => HRA.out W' (bt hb12 h'))); replace hbc := bt hbc hb12; have HRB := Lib.hid hrb; clear hrb hb12))
    | (go_at_call 14; refine (HS.out _ _ _ _ _ (HRA.out _ (Below.refl _ _)) (HRB.out _ (Below.refl _ _))).mono ?_; rintro e w13 ⟨rfl, hb13⟩; replace hbc := bt hbc hb13; clear hb13))
  all_goals
    refine NoPanic.normal ?_
    go_wp2_with fail
    go_ret
    exact ⟨rfl, bt HB1.out hbc⟩
end Go.Proofs.YtbdknncmlcbbpaaDoor
