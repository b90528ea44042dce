/-
  The sanity check of the laws of layer 3.
-/
import Derived.Test.YtaoegpmjogladaaDoorG19
import Derived.Test.YtaoegpmjogladaaDoorG20
import Derived.BigQuiet
set_option linter.unusedVariables false
namespace Go.Proofs.YtaoegpmjogladaaDoor
open Go.RowKit WM

def seedS : ByteArray := str seed5
theorem seedS_size : seedS.size = 32 := by unfold seedS; rw [str_size]; rfl
def sigS : List UInt8 := sigB seed5 1 1 (str [109])
theorem enc1 : enc 1 = [129, 1] := by rw [enc_pos (by omega)]; simp [digs]
theorem sigS_is : sigS = enc ((1 : Nat) : Int) ++ restB seed5 1 1 dm5 := sig5
theorem sigS_get : gInt sigS = .ok ((1 : Nat) : Int) 2 := by
  rw [sigS_is]
  have := gInt_enc (n := ((1 : Nat) : Int)) ⟨by omega, by omega⟩ (restB seed5 1 1 dm5)
  rw [this]
  show _ = Dec.ok (1 : Int) 2
  rw [show (enc ((1 : Nat) : Int)).length = 2 by show (enc 1).length = 2; rw [enc1]; rfl]
  rfl
theorem sigS_len : sigS.length = 1106 := by rw [sigS_is, List.length_append, restB_len]; show (enc 1).length + _ = _; rw [enc1]; rfl
theorem sigS_drop : sigS.drop 2 = restB seed5 1 1 dm5 := by rw [sigS_is]; show (enc 1 ++ _).drop 2 = _; rw [enc1]; rfl

theorem san_public (w : World) (hk : KT 0 w) : Calls Tryd.prog 18 #[.string seedS, .int .i64 1] w fun e w' => e = .returned (.tuple #[.agg (bs p5).toArray, .int .i64 0]) ∧ Below w.heap.size w w' := by
  have := public_yes seedS 1 w hk seedS_size (by omega)
  rw [show seedS.data.toList = seed5 from rfl, root5] at this
  exact this
theorem san_sign (w : World) (hk : KT 0 w) : Calls Tryd.prog 20 #[.string seedS, .int .i64 1, .int .i64 1, .string ⟨#[109]⟩] w fun e w' => e = .returned (.tuple #[.string (str sigS), .int .i64 0]) ∧ Below w.heap.size w w' :=
  sign_ok seedS ⟨#[109]⟩ 1 1 w hk seedS_size (by omega) (by omega) (by decide)
theorem san_spent (w : World) : Calls Tryd.prog 20 #[.string seedS, .int .i64 1, .int .i64 2, .string ⟨#[109]⟩] w fun e w' => e = .returned (.tuple #[.string ⟨#[]⟩, .int .i64 20]) ∧ w = w' :=
  sign_spent seedS ⟨#[109]⟩ 1 2 w seedS_size (by omega) (.inr (by decide))
theorem san_good (w : World) (hk : KT 0 w) : Calls Tryd.prog 24 #[.agg (bs p5).toArray, .int .i64 1, .string ⟨#[109]⟩, .string (str sigS)] w fun e w' => e = .returned (.tuple #[.int .i64 1, .int .i64 0]) ∧ Below w.heap.size w w' :=
  verify_main p5 1 1 2 ⟨#[109]⟩ (str sigS) w hk rfl (by omega) (by omega) (by decide) (by rw [str_size, sigS_len]; decide) sigS_get (by rw [str_size, sigS_len]; decide) (by rw [str_size, sigS_len]) true
    (by rw [str_list, sigS_drop]; exact decide_eq_true back_good)
theorem san_wrong (w : World) (hk : KT 0 w) : Calls Tryd.prog 24 #[.agg (bs p5).toArray, .int .i64 1, .string ⟨#[110]⟩, .string (str sigS)] w fun e w' => e = .returned (.tuple #[.int .i64 0, .int .i64 10]) ∧ Below w.heap.size w w' :=
  verify_main p5 1 1 2 ⟨#[110]⟩ (str sigS) w hk rfl (by omega) (by omega) (by decide) (by rw [str_size, sigS_len]; decide) sigS_get (by rw [str_size, sigS_len]; decide) (by rw [str_size, sigS_len]) false
    (by rw [str_list, sigS_drop]; exact decide_eq_false back_bad)
theorem san_short (w : World) : Calls Tryd.prog 18 #[.string (str (List.replicate 31 5)), .int .i64 0] w fun e w' => e = .returned (.tuple #[.agg (bs z16).toArray, .int .i64 1]) ∧ Below w.heap.size w w' :=
  public_no (str (List.replicate 31 5)) 0 w (by rw [str_size]; decide)
def mS : List UInt8 := digestB p5 1 (str [109])
def oS : List UInt8 := digestB p5 0 (str [109])
theorem san_dgm (w : World) (hk : KT 0 w) : Calls Tryd.prog 22 #[.agg (bs p5).toArray, .int .i64 1, .string ⟨#[109]⟩] w fun e w' => e = .returned (.agg (bs mS).toArray) ∧ Below w.heap.size w w' :=
  signDigest p5 1 ⟨#[109]⟩ w hk rfl ⟨by decide, by decide⟩ (by decide)
theorem san_dgo (w : World) (hk : KT 0 w) : Calls Tryd.prog 22 #[.agg (bs p5).toArray, .int .i64 0, .string ⟨#[109]⟩] w fun e w' => e = .returned (.agg (bs oS).toArray) ∧ Below w.heap.size w w' :=
  signDigest p5 0 ⟨#[109]⟩ w hk rfl ⟨by decide, by decide⟩ (by decide)
theorem san_digits (w : World) : Calls Tryd.prog 16 #[.agg (bs z16).toArray] w fun e w' => ∃ g, e = .returned (.slice (some ⟨g, 0, none⟩) 68 68) ∧ w.heap.size ≤ g ∧ Blk w' g 67 (ns (List.replicate 64 0 ++ [3, 0, 0, 0])).toArray ∧ Below w.heap.size w w' := by
  have := signDigits z16 rfl w
  rw [show digitsB z16 = _ from zero_digits] at this
  exact this

/-- A region that draws its order, each of whose operations yields one value whatever the world, below a block as it was. -/
theorem wp_region_below {P : Program} {id : Nat} {Q : Exit → Act → World → Prop} {a : Act} {w : World} {l : List Oper} (w0 : World) (hw : Below w0.heap.size w0 w) (hm : P.follows .mixedOrders = true) (hB : Region.lexB .any l.toArray = true)
    (h : wpQuiet P l.toArray (fun w' => Below w0.heap.size w0 w') (fun a' => ∀ w', Below w0.heap.size w0 w' → Q .normal a' w') l a) : (Code.region id l.toArray true).wp P Q a w :=
  wp_region_quiet (C := fun w' => Below w0.heap.size w0 w') hm hB hw.drew (by simpa using h)
theorem wpQuiet_load' {P : Program} {ops : Array Oper} {C : World → Prop} {Q : Act → Prop} {a : Act} {o : Oper} {rest : List Oper} (hw : Region.wanted o (yielded ops a.tmps) = true) (ty : TypeId) (x : Operand) (ho : o.op = .load ty x) (ad : Addr) (hx : a.eval x = .pointer (some ad))
    (v : Value) (hrun : ∀ w, C w → (Instr.loadAt ty (.pointer (some ad))).run P w = .ok v w) (h : wpQuiet P ops C Q rest (a.put o.dst v)) : wpQuiet P ops C Q (o :: rest) a := by
  unfold wpQuiet
  rw [if_pos hw]
  refine ⟨v, fun w hc => ?_, h⟩
  unfold Oper.quietAt execOp
  simp only [ho, hx, Sem.run_bind, hrun w hc, Result.andThen_ok]
  exact ⟨rfl, rfl⟩
theorem load3 (W : World) {g o : Nat} {v : Int} (h : W.cell? ⟨g, o, none⟩ = some (.int .i64 v)) : (Instr.loadAt 3 (.pointer (some ⟨g, o, none⟩))).run Tryd.prog W = .ok (.int .i64 v) W := by go_simp

set_option maxRecDepth 100000 in
set_option maxHeartbeats 8000000 in
theorem sanity3 (w : World) (hk : KT 0 w) : Calls Tryd.prog 15 #[] w fun e w' => e = .returned (.bool true) ∧ Below w.heap.size w w' := by
  have hz := Tryd.zero29
  have HK := Lib.hid hk
  have HSP := Lib.hid (size16 (x := p5) rfl)
  have HSZ := Lib.hid (size16 z16_length)
  have hsl := strSlice seedS 1 1 rfl (by rw [seedS_size]; decide)
  have e31 : str (seedS.data.toList.drop 1) = str (List.replicate 31 5) := by kernel_rfl
  rw [e31] at hsl
  obtain ⟨S, hS⟩ : ∃ S, S = seedS := ⟨_, rfl⟩
  obtain ⟨S1, hS1⟩ : ∃ S1, S1 = str (List.replicate 31 5) := ⟨_, rfl⟩
  obtain ⟨G, hG⟩ : ∃ G, G = str sigS := ⟨_, rfl⟩
  rw [← hS, ← hS1] at hsl
  have HF := Lib.hid (show Calls Tryd.prog 26 #[.int .u8 5] w fun e w' => e = .returned (.string S) ∧ Below w.heap.size w w' from hS ▸ seedF 5 w)
  have HPU := Lib.hid (fun W hW => hS ▸ san_public W hW)
  have HSI := Lib.hid (fun W hW => hG ▸ hS ▸ san_sign W hW)
  have HSN := Lib.hid (fun W => hS ▸ san_spent W)
  have HGO := Lib.hid (fun W hW => hG ▸ san_good W hW)
  have HWR := Lib.hid (fun W hW => hG ▸ san_wrong W hW)
  have HSH := Lib.hid (fun W => hS1 ▸ san_short W)
  clear hk hS hS1 hG e31
  go_enter Tryd.func15, Tryd.ntmps15
  go_wp2_with (first
    | (go_at_call 26; refine HF.out.mono ?_; rintro e w1 ⟨rfl, hb1⟩; have HB1 := Lib.hid hb1; clear hb1)
    | (go_at_call 18; ((with_reducible refine (HPU.out _ (HK.out.below HB1.out)).mono ?_); rintro e w2 ⟨rfl, hb2⟩); have HB2 := Lib.hid (bt HB1.out hb2); clear hb2)
    | (refine wpList_store_row rfl 29 (.tmp 2) (.tmp 19) rfl w2.heap.size (bs p5).toArray rfl rfl 29 _ (Blk.new w2 29 _) HSP.out (by rw [sz16 z16_length, sz16 rfl]) (all_oneCell_toArray (bs_one _)) ?_
       generalize hw3 : World.setRow (World.alloc w2 _) _ _ = w3
       have HP3 : Hid (Blk w3 w2.heap.size 29 (bs p5).toArray) := by rw [← hw3]; exact (Blk.new w2 29 _).setRow _
       have HB3 : Hid (Below w.heap.size w w3) := by rw [← hw3]; exact below_setRow (ba HB2.out _) HB2.out.size _
       clear hw3)
    | (go_at_call 20; ((with_reducible refine (HSI.out _ (HK.out.below HB3.out)).mono ?_); rintro e w4 ⟨rfl, hb4⟩); have HB4 := Lib.hid (bt HB3.out hb4); have HP4 := Lib.hid (blk_past hb4 HP3.out); clear hb4)
    | (refine wpList_load_row rfl 29 (.tmp 2) rfl w2.heap.size rfl 29 (bs p5).toArray (0, 0) _ HP4.out Tryd.underlying29 rfl HSP.out ?_)
    | (go_at_call 24; ((with_reducible refine (HGO.out _ (HK.out.below HB4.out)).mono ?_); rintro e w5 ⟨rfl, hb5⟩); have HB5 := Lib.hid (bt HB4.out hb5); have HP5 := Lib.hid (blk_past hb5 HP4.out); clear hb5)
    | (refine wpList_load_row rfl 29 (.tmp 2) rfl w2.heap.size rfl 29 (bs p5).toArray (0, 0) _ HP5.out Tryd.underlying29 rfl HSP.out ?_)
    | (go_at_call 24; ((with_reducible refine (HWR.out _ (HK.out.below HB5.out)).mono ?_); rintro e w6 ⟨rfl, hb6⟩); have HB6 := Lib.hid (bt HB5.out hb6); have HP6 := Lib.hid (blk_past hb6 HP5.out); clear hb6)
    | (go_at_call 20; ((with_reducible refine (HSN.out _).mono ?_); rintro e w7 ⟨rfl, rfl⟩))
    | (go_at_call 18; ((with_reducible refine (HSH.out _).mono ?_); rintro e w8 ⟨rfl, hb8⟩); have HB8 := Lib.hid (bt HB6.out hb8); have HP8 := Lib.hid (blk_past hb8 HP6.out); clear hb8)
    | (refine wpList_store_row rfl 29 (.tmp 12) (.tmp 47) rfl w8.heap.size (bs z16).toArray rfl rfl 29 _ (Blk.new w8 29 _) HSZ.out (by rw [sz16 z16_length]) (all_oneCell_toArray (bs_one _)) ?_
       generalize hw9 : World.setRow (World.alloc w8 _) _ _ = w9
       have HP9 : Hid (Blk w9 w2.heap.size 29 (bs p5).toArray) := by rw [← hw9]; exact (HP8.out.alloc _).setRow_far (by have := HP8.out.lt; omega) _
       have HB9 : Hid (Below w.heap.size w w9) := by rw [← hw9]; exact below_setRow (ba HB8.out _) HB8.out.size _
       clear hw9)
    | (go_at_call 16; ((with_reducible refine (san_digits _).mono ?_); rintro e w10 ⟨gl, rfl, hgl, hbl, hb10⟩); have HB10 := Lib.hid (bt HB9.out hb10); have HP10 := Lib.hid (blk_past hb10 HP9.out); have HL10 := Lib.hid hbl; clear hb10 hbl hgl))
  obtain ⟨gp, hgp⟩ : ∃ g, g = w2.heap.size := ⟨_, rfl⟩
  rw [← hgp] at HP10 ⊢
  have hne : ∀ W, (binOp .neq 29 (.agg (bs mS).toArray) (.agg (bs oS).toArray)).run Tryd.prog W = .ok (.bool true) W := fun W => by
    have h := neq16 mS oS (digestB_16 _ _ _) (digestB_16 _ _ _) W
    rw [decide_eq_false (show ¬ mS = oS from dgs_differ)] at h
    exact h
  have la := fun (W : World) (hW : Below w10.heap.size w10 W) => load16 (blk_past hW HP10.out) rfl
  have lb : ∀ W, Below w10.heap.size w10 W → (Instr.loadAt 3 (.pointer (some ⟨gl, 0, none⟩))).run Tryd.prog W = .ok (.int .i64 0) W := fun W hW => load3 W (Blk.cell (blk_past hW HL10.out) 0)
  have lc : ∀ W, Below w10.heap.size w10 W → (Instr.loadAt 3 (.pointer (some ⟨gl, 64, none⟩))).run Tryd.prog W = .ok (.int .i64 3) W := fun W hW => load3 W (Blk.cell (blk_past hW HL10.out) 64)
  have ld : ∀ W, Below w10.heap.size w10 W → (Instr.loadAt 3 (.pointer (some ⟨gl, 67, none⟩))).run Tryd.prog W = .ok (.int .i64 0) W := fun W hW => load3 W (Blk.cell (blk_past hW HL10.out) 67)
  have HD1 := Lib.hid (fun (W : World) (hW : Below w10.heap.size w10 W) => san_dgm W ((HK.out.below HB10.out).below hW))
  have HD2 := Lib.hid (fun (W : World) (hW : Below w10.heap.size w10 W) => san_dgo W ((HK.out.below HB10.out).below hW))
  have HLA := Lib.hid la
  have HLB := Lib.hid lb
  have HLC := Lib.hid lc
  have HLD := Lib.hid ld
  clear la lb lc ld HP9 HP8 HP6 HP5 HP4 HP3 HB9 HB8 HB6 HB5 HB4 HB3 HB2 HB1 hgp
  refine wp_region_below w10 (Below.refl _ _) (by kernel_rfl) (by kernel_rfl) ?_
  iterate 17 go_big_quiet_step ((intro _; rfl))
  refine wpQuiet_load' rfl 3 (.tmp 82) rfl _ rfl (.int .i64 0) HLB.out ?_
  go_simp
  iterate 5 go_big_quiet_step ((intro _; rfl))
  refine wpQuiet_load' rfl 3 (.tmp 88) rfl _ rfl (.int .i64 3) HLC.out ?_
  go_simp
  iterate 5 go_big_quiet_step ((intro _; rfl))
  refine wpQuiet_load' rfl 3 (.tmp 94) rfl _ rfl (.int .i64 0) HLD.out ?_
  go_simp
  iterate 3 go_big_quiet_step ((intro _; rfl))
  refine wpQuiet_load' rfl 29 (.tmp 2) rfl _ rfl (.agg (bs p5).toArray) HLA.out ?_
  go_simp
  go_big_quiet_step ((intro hw'; exact (HD1.out _ hw').mono fun e w'' ⟨he, hb⟩ => ⟨he, below_then hw' hb⟩))
  refine wpQuiet_load' rfl 29 (.tmp 2) rfl _ rfl (.agg (bs p5).toArray) HLA.out ?_
  go_simp
  go_big_quiet_step ((intro hw'; exact (HD2.out _ hw').mono fun e w'' ⟨he, hb⟩ => ⟨he, below_then hw' hb⟩))
  iterate 3 go_big_quiet_step ((intro _; rfl))
  refine wpQuiet_nil ?_
  intro w' hb
  have HBE := Lib.hid (bt HB10.out hb)
  clear hb
  go_wp2_with fail
  go_ret
  exact ⟨rfl, HBE.out⟩
end Go.Proofs.YtaoegpmjogladaaDoor

/-
  DIGITS CROSS, as plain mathematics: of two different digests each has a digit that is less than the other's.
-/
namespace Go.Proofs.YtaoegpmjogladaaDoor
open Go.RowKit WM

theorem chk_mono : ∀ {X Y : List Nat}, X.length = Y.length → (∀ x ∈ X, x ≤ 3) → (∀ i, i < X.length → Y.getD i 0 ≤ X.getD i 0) → chk X ≤ chk Y ∧ (chk X = chk Y → X = Y)
  | [], [], _, _, _ => ⟨Nat.le_refl _, fun _ => rfl⟩
  | x :: X, y :: Y, hl, h3, h => by
    have h0 : y ≤ x := h 0 (by simp)
    have hx : x ≤ 3 := h3 x (by simp)
    have ih := chk_mono (X := X) (Y := Y) (by simpa using hl) (fun z hz => h3 z (by simp [hz])) (fun i hi => by simpa using h (i + 1) (by simpa using hi))
    have e1 : chk (x :: X) = (3 - x) + chk X := by simp [chk]
    have e2 : chk (y :: Y) = (3 - y) + chk Y := by simp [chk]
    rw [e1, e2]
    refine ⟨by have := ih.1; omega, fun he => ?_⟩
    have := ih.1
    rw [ih.2 (by omega), show x = y by omega]
theorem low4_mono {m n : Nat} (hm : m < 256) (hn : n < 256) (h : ∀ i, i < 4 → (low4 m).getD i 0 ≤ (low4 n).getD i 0) : m ≤ n := by
  have h0 := h 0 (by omega)
  have h1 := h 1 (by omega)
  have h2 := h 2 (by omega)
  have h3 := h 3 (by omega)
  simp only [low4, List.getD_cons_zero, List.getD_cons_succ] at h0 h1 h2 h3
  rw [Nat.mod_eq_of_lt (show m / 64 < 4 by clear h0 h1 h2 h3; omega), Nat.mod_eq_of_lt (show n / 64 < 4 by clear h0 h1 h2 h3; omega)] at h0
  have c0 : m / 64 ≤ n / 64 := h0
  have a2 : n / 64 = n / 16 / 4 := (Nat.div_div_eq_div_mul n 16 4).symm
  have b2 : m / 64 = m / 16 / 4 := (Nat.div_div_eq_div_mul m 16 4).symm
  rw [a2, b2] at c0
  have c1 : m / 16 ≤ n / 16 := by clear h0 h2 h3 a2 b2; omega
  have a1 : n / 16 = n / 4 / 4 := (Nat.div_div_eq_div_mul n 4 4).symm
  have b1 : m / 16 = m / 4 / 4 := (Nat.div_div_eq_div_mul m 4 4).symm
  rw [a1, b1] at c1
  have c2 : m / 4 ≤ n / 4 := by clear h0 h1 h3 a2 b2 a1 b1 c0; omega
  clear h0 h1 h2 a2 b2 a1 b1 c0 c1
  omega
theorem getD_left {a b : List Nat} {i : Nat} (h : i < a.length) : (a ++ b).getD i 0 = a.getD i 0 := by
  rw [List.getD_eq_getElem?_getD, List.getD_eq_getElem?_getD, List.getElem?_append_left h]
theorem getD_right {a b : List Nat} {i : Nat} (h : a.length ≤ i) : (a ++ b).getD i 0 = b.getD (i - a.length) 0 := by
  rw [List.getD_eq_getElem?_getD, List.getD_eq_getElem?_getD, List.getElem?_append_right h]
theorem dig4_inj {a b : UInt8} (h : dig4 a = dig4 b) : a = b := by
  simp only [dig4, List.cons.injEq] at h
  apply UInt8.toNat_inj.1
  omega
theorem own4_inj : ∀ {a b : List UInt8}, a.length = b.length → own4 a = own4 b → a = b
  | [], [], _, _ => rfl
  | x :: a, y :: b, hl, h => by
    have e1 : own4 (x :: a) = dig4 x ++ own4 a := rfl
    have e2 : own4 (y :: b) = dig4 y ++ own4 b := rfl
    rw [e1, e2] at h
    have h1 := List.append_inj h rfl
    rw [dig4_inj h1.1, own4_inj (by simpa using hl) h1.2]
theorem digits_le_eq {a b : List UInt8} (ha : a.length = 16) (hb : b.length = 16) (h : ∀ i, i < 68 → (digitsB b).getD i 0 ≤ (digitsB a).getD i 0) : a = b := by
  have la : (own4 a).length = 64 := by rw [own4_length, ha]
  have lb : (own4 b).length = 64 := by rw [own4_length, hb]
  have ca := chk_le (own4 a)
  have cb := chk_le (own4 b)
  have h1 := chk_mono (X := own4 a) (Y := own4 b) (by rw [la, lb]) (own4_le a) (fun i hi => by
    have := h i (by omega)
    unfold digitsB at this
    rwa [getD_left (by omega), getD_left (by omega)] at this)
  have h2 : chk (own4 b) ≤ chk (own4 a) := low4_mono (by omega) (by omega) (fun i hi => by
    have := h (64 + i) (by omega)
    unfold digitsB at this
    rwa [getD_right (by omega), getD_right (by omega), la, lb, show 64 + i - 64 = i by omega] at this)
  exact own4_inj (by rw [ha, hb]) (h1.2 (by have := h1.1; omega))

/-- Is a place below k where the first list has the lesser number? -/
def lessN (X Y : List Nat) : Nat → Bool
  | 0 => false
  | k + 1 => lessN X Y k || decide (X.getD k 0 < Y.getD k 0)
theorem lessN_none {X Y : List Nat} : ∀ {k : Nat}, lessN X Y k = false → ∀ i, i < k → Y.getD i 0 ≤ X.getD i 0
  | 0, _, i, hi => by omega
  | k + 1, h, i, hi => by
    simp only [lessN, Bool.or_eq_false_iff, decide_eq_false_iff_not] at h
    by_cases hik : i = k
    · subst hik; omega
    · exact lessN_none h.1 i (by omega)
theorem cross {a b : List UInt8} (ha : a.length = 16) (hb : b.length = 16) : a = b ∨ (lessN (digitsB a) (digitsB b) 68 = true ∧ lessN (digitsB b) (digitsB a) 68 = true) := by
  by_cases h : a = b
  · exact .inl h
  · refine .inr ⟨?_, ?_⟩
    · cases hl : lessN (digitsB a) (digitsB b) 68 with
      | true => rfl
      | false => exact absurd (digits_le_eq ha hb (lessN_none hl)) h
    · cases hl : lessN (digitsB b) (digitsB a) 68 with
      | true => rfl
      | false => exact absurd (digits_le_eq hb ha (lessN_none hl)).symm h
end Go.Proofs.YtaoegpmjogladaaDoor

/-
  THE WALK of SignDigitsCross.
-/
namespace Go.Proofs.YtaoegpmjogladaaDoor
open Go.RowKit WM
attribute [local go_sem ↓] shut16

theorem ns_getD (l : List Nat) (k : Nat) (h : k < l.length) : (ns l)[k]? = some (.int .i64 (l.getD k 0 : Int)) := by
  rw [ns_get l k h, List.getD_eq_getElem?_getD, List.getElem?_eq_getElem h]; rfl

theorem signDigits_is (d : List UInt8) (x : List Nat) (hd : d.length = 16) (hx : digitsB d = x) (w : World) :
    Calls Tryd.prog 16 #[.agg (bs d).toArray] w fun e w' => ∃ g, e = .returned (.slice (some ⟨g, 0, none⟩) 68 68) ∧ w.heap.size ≤ g ∧ Blk w' g 67 (ns x).toArray ∧ Below w.heap.size w w' := by
  subst hx
  exact signDigits d hd w

set_option maxRecDepth 100000 in
set_option maxHeartbeats 8000000 in
theorem walkCross (a b : List UInt8) (w : World) (ha : a.length = 16) (hb : b.length = 16) (hk : KT 0 w) :
    Calls Tryd.prog 8 #[.agg (bs a).toArray, .agg (bs b).toArray] w fun e w' => e = .returned (.bool true) ∧ Below w.heap.size w w' := by
  have HSA := Lib.hid (size16 ha)
  have HSB := Lib.hid (size16 hb)
  have HA := Lib.hid ha
  have HB := Lib.hid hb
  have HK := Lib.hid hk
  obtain ⟨x, hx⟩ : ∃ x, x = digitsB a := ⟨_, rfl⟩
  obtain ⟨y, hy⟩ : ∃ y, y = digitsB b := ⟨_, rfl⟩
  have HX := Lib.hid hx
  have HY := Lib.hid hy
  have hxl : x.length = 68 := by rw [hx]; exact digitsB_length ha
  have hyl : y.length = 68 := by rw [hy]; exact digitsB_length hb
  have hcr := cross ha hb
  rw [← hx, ← hy] at hcr
  have HC := Lib.hid hcr
  clear hcr hk hx hy ha hb
  obtain ⟨w0, hw0⟩ : ∃ W, W = (w.alloc (.cells (bs a).toArray 29)).alloc (.cells (bs b).toArray 29) := ⟨_, rfl⟩
  have HB0 : Hid (Below w.heap.size w w0) := by rw [hw0]; exact ba (below_new _ _) _
  have HPA : Hid (Blk w0 w.heap.size 29 (bs a).toArray) := by rw [hw0]; exact (Blk.new w _ _).alloc _
  have HPB : Hid (Blk w0 (w.heap.size + 1) 29 (bs b).toArray) := by rw [hw0]; exact Blk.new_at _ _ (by simp) rfl
  go_enter Tryd.func8, Tryd.ntmps8
  go_wp2_with (first
    | (go_at_call 15; rw [← hw0]; clear hw0; refine (sanity3 _ (HK.out.below HB0.out)).mono ?_; rintro e w1 ⟨rfl, hb1⟩; have HB1 := Lib.hid (bt HB0.out hb1); have HPA1 := Lib.hid (blk_past hb1 HPA.out); have HPB1 := Lib.hid (blk_past hb1 HPB.out); clear hb1 HB0 HPA HPB)
    | (refine wpList_load_row rfl 29 (.tmp 2) rfl w.heap.size rfl 29 (bs a).toArray (0, 0) _ HPA1.out Tryd.underlying29 rfl HSA.out ?_)
    | (go_at_call 16; ((with_reducible refine (signDigits_is a x HA.out HX.out.symm _).mono ?_); rintro e w2 ⟨gx, rfl, hgx, hbx, hb2⟩); have HB2 := Lib.hid (bt HB1.out hb2); have HPA2 := Lib.hid (blk_past hb2 HPA1.out); have HPB2 := Lib.hid (blk_past hb2 HPB1.out); have HBX := Lib.hid hbx; have HGX := Lib.hid (Nat.le_trans HB1.out.size hgx); clear hb2 hbx hgx)
    | (refine wpList_load_row rfl 29 (.tmp 3) rfl (w.heap.size + 1) rfl 29 (bs b).toArray (0, 0) _ HPB2.out Tryd.underlying29 rfl HSB.out ?_)
    | (go_at_call 16; ((with_reducible refine (signDigits_is b y HB.out HY.out.symm _).mono ?_); rintro e w3 ⟨gy, rfl, hgy, hby, hb3⟩); have HB3 := Lib.hid (bt HB2.out hb3); have HPA3 := Lib.hid (blk_past hb3 HPA2.out); have HPB3 := Lib.hid (blk_past hb3 HPB2.out); have HBX3 := Lib.hid (blk_past hb3 HBX.out); have HBY := Lib.hid hby; have HGY := Lib.hid (Nat.le_trans HB2.out.size hgy); clear hb3 hby hgy))
  clear HPA1 HPB1 HPA2 HPB2 HBX HB1 HB2 HX HY
  go_loopw [8, 9, 10] (fun l' m' i' wr => ∃ (k : Nat) (l m : Bool), k ≤ 68 ∧ i' = .int .i64 k ∧ l' = .bool l ∧ m' = .bool m ∧ Hid (lessN x y k = l ∧ lessN y x k = m ∧ Below w3.heap.size w3 wr)) (fun _ _ i' _ => 68 - (intOf i').toNat)
  case atStart => exact ⟨0, false, false, by omega, rfl, rfl, rfl, rfl, rfl, Below.refl _ _⟩
  case round =>
    obtain ⟨k, l, m, hk, rfl, rfl, rfl, hh⟩ := hrel
    by_cases hlt : k < 68
    · have rx : ∀ W, Below w3.heap.size w3 W → (Instr.loadAt 3 (.pointer (some ⟨gx, k, none⟩))).run Tryd.prog W = .ok (.int .i64 (x.getD k 0 : Int)) W := fun W hW => load3 W ((Blk.cell (blk_past hW HBX3.out) k).trans (by simpa using ns_getD x k (by omega)))
      have ry : ∀ W, Below w3.heap.size w3 W → (Instr.loadAt 3 (.pointer (some ⟨gy, k, none⟩))).run Tryd.prog W = .ok (.int .i64 (y.getD k 0 : Int)) W := fun W hW => load3 W ((Blk.cell (blk_past hW HBY.out) k).trans (by simpa using ns_getD y k (by omega)))
      have cx : wr.cell? ⟨gx, k, none⟩ = some (.int .i64 (x.getD k 0 : Int)) := (Blk.cell (blk_past hh.out.2.2 HBX3.out) k).trans (by simpa using ns_getD x k (by omega))
      have cy : wr.cell? ⟨gy, k, none⟩ = some (.int .i64 (y.getD k 0 : Int)) := (Blk.cell (blk_past hh.out.2.2 HBY.out) k).trans (by simpa using ns_getD y k (by omega))
      obtain ⟨u, hu⟩ : ∃ u, u = x.getD k 0 := ⟨_, rfl⟩
      obtain ⟨v, hv⟩ : ∃ v, v = y.getD k 0 := ⟨_, rfl⟩
      rw [← hu] at cx
      rw [← hv] at cy
      have HL : Hid (lessN x y (k + 1) = (l || decide (u < v))) := by show _ = _; rw [lessN, hh.out.1, hu, hv]
      have HM : Hid (lessN y x (k + 1) = (m || decide (v < u))) := by show _ = _; rw [lessN, hh.out.2.1, hu, hv]
      clear hu hv rx ry
      cases l <;> cases m
      all_goals
        go_wp2
        go_quiet (fail)
        go_wp2
        go_quiet (fail)
        go_wp2
        go_roundw
        case rel =>
          refine ⟨k + 1, _, _, by omega, by go_num, rfl, rfl, ?_, ?_, below_drewN hh.out.2.2 _⟩
          · rw [HL.out]; simp
          · rw [HM.out]; simp
        case measure => simp [intOf]; omega
    · have hke : k = 68 := by omega
      obtain ⟨q, hq⟩ : ∃ q, q = decide (a = b) := ⟨_, rfl⟩
      have heq := fun W => eq44 a b HA.out HB.out W
      rw [← hq] at heq
      have hd : q = true ∨ (q = false ∧ l = true ∧ m = true) := by
        have h1 := hh.out.1
        have h2 := hh.out.2.1
        rw [hke] at h1 h2
        rcases HC.out with h | ⟨h3, h4⟩
        · exact .inl (by rw [hq, h]; simp)
        · cases q with
          | true => exact .inl rfl
          | false => exact .inr ⟨rfl, by rw [← h1, h3], by rw [← h2, h4]⟩
      have HPAr := Lib.hid (blk_past hh.out.2.2 HPA3.out)
      have HPBr := Lib.hid (blk_past hh.out.2.2 HPB3.out)
      have HBr := Lib.hid (bt HB3.out hh.out.2.2)
      have hge : 68 ≤ k := by omega
      clear hq hke hlt hk hh
      have la := load16 HPAr.out HA.out
      have lb := load16 HPBr.out HB.out
      rcases hd with rfl | ⟨rfl, rfl, rfl⟩
      all_goals
        go_wp2
        go_ret
        exact ⟨rfl, HBr.out⟩
end Go.Proofs.YtaoegpmjogladaaDoor
