/-
  scoriaref03.Verify where the signature has its length.
-/
import Derived.Test.YtaoegpmjogladaaDoorG32
import Derived.Test.YtaoegpmjogladaaDoorG18
import Derived.Test.YtaoegpmjogladaaDoorG23
set_option linter.unusedVariables false
namespace Go.Proofs.YtaoegpmjogladaaDoor
open Go.RowKit WM
attribute [local go_sem ↓] shut16

theorem wpQuiet_sliceLo {P : Program} {ops : Array Oper} {C : World → Prop} {Q : Act → Prop} {a : Act} {o : Oper} {rest : List Oper} (hw : Region.wanted o (yielded ops a.tmps) = true) (ty : TypeId) (x y : Operand) (ho : o.op = .slice ty x (some y) none none) (vx : Value) (hx : a.eval x = vx) (vy : Value) (hy : a.eval y = vy)
    (v : Value) (hrun : ∀ w, (Instr.sliceAt ty vx (some vy) none none).run P w = .ok v w) (h : wpQuiet P ops C Q rest (a.put o.dst v)) : wpQuiet P ops C Q (o :: rest) a := by
  unfold wpQuiet
  rw [if_pos hw]
  refine ⟨v, fun w hc => ?_, h⟩
  unfold Oper.quietAt execOp
  simp only [ho, hx, hy, Option.map_some, Option.map_none, Sem.run_bind, hrun w, Result.andThen_ok]
  exact ⟨rfl, rfl⟩
theorem half (i l : Nat) : i / 2 ^ (l + 1) = i / 2 ^ l / 2 := by rw [Nat.div_div_eq_div_mul, Nat.pow_succ]
/-- What the reference has of a signature when the chains are at their ends. -/
structure Ends (w wq : World) (gv : Nat) (p v : List UInt8) : Prop where
  v : Blk wq gv 29 (bs v).toArray
  p : Blk wq w.heap.size 29 (bs p).toArray
  below : Below w.heap.size w wq
  lt : w.heap.size < gv

set_option maxRecDepth 100000 in
set_option maxHeartbeats 16000000 in
theorem rverify_main (p : List UInt8) (h i u : Nat) (m sg : ByteArray) (w : World) (hk : KT 1 w) (hp : p.length = 16) (h6 : h ≤ 6) (hi : i < 2 ^ h) (hm : m.size ≤ 1048576) (hl : sg.size ≤ 1000000) (hg : gInt sg.data.toList = .ok (i : Int) u) (hu : u ≤ sg.size)
    (hlen : sg.size - u = (68 + h) * 16) (b : Bool) (hb : decide (backB p h i m (sg.data.toList.drop u) = p) = b) :
    Calls Tryd.prog 25 #[.agg (bs p).toArray, .int .i64 (h : Int), .string m, .string sg] w fun e w' => e = .returned (.tuple #[.int .i64 (if b then (i : Int) else 0), .int .i64 (if b then 0 else 10)]) ∧ Below w.heap.size w w' := by
  have hz := Tryd.zero29
  have hm2 : ¬ (1048576 : Int) < (m.size : Int) := by omega
  have a6 : ¬ (6 : Int) < (h : Int) := by omega
  obtain ⟨w1, c, hv⟩ := RVerAt.make p sg w hl _ hg i u 0 rfl
  have HV := Lib.hid hv
  have hcv := hv.conv
  have hsl := strSlice sg u u rfl hu
  have hls : ((str (sg.data.toList.drop u)).size : Int) = ((sg.size - u : Nat) : Int) := by rw [str_size, List.length_drop, size_list]
  obtain ⟨r, hr⟩ : ∃ r, r = str (sg.data.toList.drop u) := ⟨_, rfl⟩
  have hrd : r.data.toList = sg.data.toList.drop u := by rw [hr, str_list]
  rw [← hr] at hsl hls
  rw [← hrd] at hb
  have hrs : r.size = (68 + h) * 16 := by omega
  have hnb : ((r.size : Int) != (68 + (h : Int)) * 16) = false := by rw [hrs]; simp
  have hsh := shl1 h h6
  have h64 : 2 ^ h ≤ 64 := by
    have : 2 ^ h ≤ 2 ^ 6 := Nat.pow_le_pow_right (by omega) h6
    simpa using this
  obtain ⟨N, hN⟩ : ∃ N, N = 2 ^ h := ⟨_, rfl⟩
  rw [← hN] at hsh h64 hi
  have hiN : ¬ (N : Int) ≤ (i : Int) := by omega
  obtain ⟨q, hq⟩ : ∃ q, q = digestB p i m := ⟨_, rfl⟩
  have hql : q.length = 16 := by rw [hq]; exact digestB_16 _ _ _
  obtain ⟨ds, hds⟩ : ∃ ds, ds = digitsB q := ⟨_, rfl⟩
  have hdsl : ds.length = 68 := by rw [hds]; exact digitsB_length hql
  have hds3 : ∀ c, ds.getD c 0 ≤ 3 := fun c => by rw [hds]; exact digitsB_getD q c
  obtain ⟨f, hf⟩ : ∃ f, f = endB r.data.toList i ds := ⟨_, rfl⟩
  have hf16 : ∀ c, (f c).length = 16 := by rw [hf]; exact endB_all _ _ _ hdsl (by rw [size_list, hrs]; omega)
  obtain ⟨lf, hlf⟩ : ∃ lf, lf = leafB f := ⟨_, rfl⟩
  have hlfl : lf.length = 16 := by rw [hlf]; exact leafB_16 _
  obtain ⟨y, hy⟩ : ∃ y, y = ofB 11 [str (catB f 68)] := ⟨_, rfl⟩
  have hyl : y.length = 16 := by rw [hy]; exact ofB_16 _ _
  have hly : ofB 9 [str y] = lf := by rw [hlf, hy]; rfl
  have hcl : (catB f 68).length = 1088 := catB_length f hf16 68
  have hbk : decide (wayB r.data.toList i lf h = p) = b := by rw [← hb, hlf, hf, hds, hq]; rfl
  have HE1 := Lib.hid (show (encP [str (catB f 68)]).length ≤ 137438953472 by have := encP_1_le (catB f 68) (by omega); omega)
  have HE2 := Lib.hid (show (encP [str y]).length ≤ 137438953472 by have := encP_1_le y (by omega); omega)
  have HP := Lib.hid hp
  have HK := Lib.hid hk
  have HQ := Lib.hid hq
  have HQL := Lib.hid hql
  have HDS := Lib.hid hds
  have HDS3 := Lib.hid hds3
  have HDSL := Lib.hid hdsl
  have HF := Lib.hid hf
  have HF16 := Lib.hid hf16
  have HLFL := Lib.hid hlfl
  have HY := Lib.hid hy
  have HYL := Lib.hid hyl
  have HLY := Lib.hid hly
  have HCL := Lib.hid hcl
  have HBK := Lib.hid hbk
  have HRS := Lib.hid hrs
  have HIR := Lib.hid (show inRange (i : Int) from ⟨by omega, by omega⟩)
  have HSP := Lib.hid (size16 hp)
  have HSY := Lib.hid (size16 hyl)
  have HSL := Lib.hid (size16 hlfl)
  have hi64 : i < 64 := by omega
  clear hg hv hr hrd hls hb hbk hp hk hq hql hds hds3 hdsl hf hf16 hlf hlfl hy hyl hly hcl hrs hN h64 hlen hu hi
  go_enter Tryd.func25, Tryd.ntmps25
  go_wp2_with (first
    | (go_at_call 57; refine HV.out.get.mono ?_; rintro e w2 ⟨rfl, hb2⟩; have HB2 := Lib.hid (bt HV.out.below hb2); have HP2 := Lib.hid (blk_past hb2 HV.out.box); clear hb2 hcv)
    | (refine wpList_load_row rfl 29 (.tmp 4) rfl w.heap.size rfl 29 (bs p).toArray (0, 0) _ HP2.out Tryd.underlying29 rfl HSP.out ?_)
    | (go_at_call 23; refine (refDigest p i m _ (HK.out.below HB2.out) HP.out HIR.out hm q HQ.out.symm).mono ?_; rintro e w3 ⟨rfl, hb3⟩; have HB3 := Lib.hid (bt HB2.out hb3); have HP3 := Lib.hid (blk_past hb3 HP2.out); clear hb3)
    | (go_at_call 17; refine (refDigits_is q ds HQL.out HDS.out.symm _).mono ?_; rintro e w4 ⟨gd, cd, rfl, hrd, hcd, hb4⟩; have HB4 := Lib.hid (bt HB3.out hb4); have HP4 := Lib.hid (blk_past hb4 HP3.out); have HRD := Lib.hid hrd; clear hb4 hrd))
  clear HB3 HP3 HB2 HP2 HV hsl hsh hiN hnb a6 hm2
  go_loopw [15, 16] (fun s' c' wr => ∃ k : Nat, k ≤ 68 ∧ c' = .int .i64 k ∧ s' = .string (str (catB f k)) ∧ Hid (Below w4.heap.size w4 wr)) (fun _ c' _ => 68 - (intOf c').toNat)
  case atStart => exact ⟨0, by omega, rfl, rfl, Below.refl _ _⟩
  case round =>
    obtain ⟨k, hk, rfl, rfl, hh⟩ := hrel
    by_cases hlt : k < 68
    · obtain ⟨x, hx⟩ : ∃ x, x = partB r.data.toList k := ⟨_, rfl⟩
      have hxl : x.length = 16 := by rw [hx, partB, List.length_take, List.length_drop, size_list, HRS.out]; omega
      obtain ⟨z, hz'⟩ : ∃ z, z = f k := ⟨_, rfl⟩
      have hzl : z.length = 16 := by rw [hz']; exact HF16.out k
      obtain ⟨dg, hdg⟩ : ∃ dg, dg = ds.getD k 0 := ⟨_, rfl⟩
      have hdg3 : dg ≤ 3 := by rw [hdg]; exact HDS3.out k
      have hadv : advB i k dg (3 - dg) x = z := by rw [hz', HF.out, hx, hdg]; rfl
      obtain ⟨a, ha⟩ : ∃ a, a = catB f k := ⟨_, rfl⟩
      have hcs : catB f (k + 1) = a ++ z := by rw [catB_succ, ← ha, ← hz']
      have hal : a.length = 16 * k := by rw [ha]; exact catB_length f HF16.out k
      have hsz : ((str a).size : Int) + ((str z).size : Int) ≤ 140737488355328 := by rw [str_size, str_size, hal, hzl]; omega
      have hsl := strSlice r (16 * k) (16 * (k : Int)) (by omega) (by rw [HRS.out]; omega)
      have HLD : Hid (∀ W, Below wr.heap.size wr W → (Instr.loadAt 3 (.pointer (some ⟨gd, k, none⟩))).run Tryd.prog W = .ok (.int .i64 (dg : Int)) W) := by
        intro W hW
        refine load3 W ?_
        obtain ⟨ad, he, _, hc⟩ := (HRD.out.below (below_then hh.out hW)).2 (by omega)
        injection he with he
        subst he
        have := hc k _ (ns_getD ds k (by rw [HDSL.out]; exact hlt))
        rw [← hdg] at this
        rwa [Addr.add_lit, Nat.zero_add] at this
      have hdl : (r.data.toList.drop (16 * k)).length = r.size - 16 * k := by rw [List.length_drop, size_list]
      have HR1 := Lib.hid (fun W => refFirst (str (r.data.toList.drop (16 * k))) (by rw [str_size, hdl, HRS.out]; omega) x (by rw [str_list]; exact hx.symm) W)
      have HR2 := Lib.hid (fun (W : World) (hW : Below wr.heap.size wr W) => refAdvance x i k dg 3 W (((HK.out.below HB4.out).below hh.out).below hW) hxl HIR.out ⟨by omega, by omega⟩ (by omega) (by omega) z hadv)
      have HR3 := Lib.hid (fun W => text16 z hzl W)
      have HCS := Lib.hid hcs
      rw [← ha]
      clear hdl hx hxl hz' hzl hdg hadv ha hcs hal
      have hki : (k : Int) < 68 := by omega
      go_wp2
      refine wp_region_below wr (Below.refl _ _) (by kernel_rfl) (by kernel_rfl) ?_
      iterate 6 go_big_quiet_step ((intro _; rfl))
      refine wpQuiet_load' rfl 3 (.tmp 74) rfl _ rfl (.int .i64 (dg : Int)) HLD.out ?_
      go_simp
      iterate 3 go_big_quiet_step ((intro _; rfl))
      refine wpQuiet_sliceLo rfl 9 (.tmp 76) (.tmp 78) rfl (.string r) rfl (.int .i64 (16 * (k : Int))) rfl _ hsl ?_
      go_simp
      go_big_quiet_step ((intro hw'; exact (HR1.out _).mono fun e w'' ⟨he, hb⟩ => ⟨he, below_then hw' hb⟩))
      go_big_quiet_step ((intro hw'; exact (HR2.out _ hw').mono fun e w'' ⟨he, hb⟩ => ⟨he, below_then hw' hb⟩))
      go_big_quiet_step ((intro hw'; exact (HR3.out _).mono fun e w'' ⟨he, hb⟩ => ⟨he, below_then hw' hb⟩))
      iterate 2 go_big_quiet_step ((intro _; rfl))
      refine wpQuiet_nil ?_
      intro w5 hb5
      have HB5 := Lib.hid (below_then hh.out hb5)
      clear hb5
      go_wp2_with fail
      go_roundw
      case rel => exact ⟨k + 1, by omega, by go_num, by rw [HCS.out, str_append], HB5.out⟩
      case measure => simp [intOf]; omega
    · have hke : k = 68 := by omega
      subst hke
      have HBr := Lib.hid (bt HB4.out hh.out)
      have HPr := Lib.hid (blk_past hh.out HP4.out)
      have HC1 := Lib.hid (rof_n 11 [str (catB f 68)] (some ⟨wr.heap.size, 0, none⟩) 1 1 (wr.alloc (.cells #[.string (str (catB f 68))] 9)) rfl (HK.out.below (ba HBr.out _)) (reads_ss rfl rfl rfl) HE1.out (by decide) y HY.out.symm)
      clear hlt hk hh HB4 HP4 HRD HDS HDS3 HDSL
      go_wp2_with (first
        | (go_at_call 49; ((with_reducible refine HC1.out.mono ?_); rintro e w5 ⟨rfl, hb5⟩); have HB5 := Lib.hid (bt (ba HBr.out _) hb5); have HP5 := Lib.hid (blk_past hb5 (HPr.out.alloc _)); clear hb5)
        | (refine wpList_store_row rfl 29 (.tmp 17) (.tmp 86) rfl w5.heap.size (bs y).toArray rfl rfl 29 _ (Blk.new w5 29 _) HSY.out (by rw [sz16 HYL.out, sz16 z16_length]) (all_oneCell_toArray (bs_one _)) ?_
           generalize hw6 : World.setRow (World.alloc w5 _) _ _ = w6
           have HG6 : Hid (Blk w6 w5.heap.size 29 (bs y).toArray) := by rw [← hw6]; exact (Blk.new w5 29 _).setRow _
           have HP6 : Hid (Blk w6 w.heap.size 29 (bs p).toArray) := by rw [← hw6]; exact (HP5.out.alloc _).setRow_far (by have := HP5.out.lt; omega) _
           have HB6 : Hid (Below w.heap.size w w6) := by rw [← hw6]; exact below_setRow (ba HB5.out _) HB5.out.size _
           clear hw6)
        | (refine wpList_load_row rfl 29 (.tmp 17) rfl w5.heap.size rfl 29 (bs y).toArray (0, 0) _ HG6.out Tryd.underlying29 rfl HSY.out ?_)
        | (go_at_call 34; refine (text16 y HYL.out _).mono ?_; rintro e w7 ⟨rfl, hb7⟩; have HB7 := Lib.hid (bt HB6.out hb7); have HP7 := Lib.hid (blk_past hb7 HP6.out); have HC2 := Lib.hid (rof_n 9 [str y] (some ⟨w7.heap.size, 0, none⟩) 1 1 (w7.alloc (.cells #[.string (str y)] 9)) rfl (HK.out.below (ba HB7.out _)) (reads_ss rfl rfl rfl) HE2.out (by decide) lf HLY.out); clear hb7)
        | (go_at_call 49; ((with_reducible refine HC2.out.mono ?_); rintro e w8 ⟨rfl, hb8⟩); have HB8 := Lib.hid (bt (ba HB7.out _) hb8); have HP8 := Lib.hid (blk_past hb8 (HP7.out.alloc _)); clear hb8)
        | (refine wpList_store_row rfl 29 (.tmp 18) (.tmp 90) rfl w8.heap.size (bs lf).toArray rfl rfl 29 _ (Blk.new w8 29 _) HSL.out (by rw [sz16 HLFL.out, sz16 z16_length]) (all_oneCell_toArray (bs_one _)) ?_
           generalize hw9 : World.setRow (World.alloc w8 _) _ _ = w9
           have HEN : Hid (Ends w w9 w8.heap.size p lf) := by
             rw [← hw9]
             have := HP8.out.lt
             exact ⟨(Blk.new w8 29 _).setRow _, (HP8.out.alloc _).setRow_far (by omega) _, below_setRow (ba HB8.out _) HB8.out.size _, by omega⟩
           clear hw9))
      obtain ⟨gv, hgv⟩ : ∃ g, g = w8.heap.size := ⟨_, rfl⟩
      rw [← hgv] at HEN
      rw [← hgv]
      clear hgv HP8 HB8 HC2 HP7 HB7 HB6 HP6 HG6 HP5 HB5 HC1 HPr HBr
      go_loopw [19, 20] (fun j' l' wq => ∃ l : Nat, l ≤ h ∧ l' = .int .i64 l ∧ j' = .int .i64 ((i / 2 ^ l : Nat) : Int) ∧ Hid (Ends w wq gv p (wayB r.data.toList i lf l))) (fun _ l' _ => h - (intOf l').toNat)
      case atStart => exact ⟨0, by omega, rfl, by simp, HEN.out⟩
      case round =>
        clear HEN
        obtain ⟨l, hl', rfl, rfl, hh⟩ := hrel
        obtain ⟨v, hv⟩ : ∃ v, v = wayB r.data.toList i lf l := ⟨_, rfl⟩
        have hvl : v.length = 16 := by rw [hv]; exact wayB_16 _ _ _ HLFL.out _
        have hh1 := hh.out
        rw [← hv] at hh1
        have HH := Lib.hid hh1
        have HVE := Lib.hid hv
        have HVL := Lib.hid hvl
        have HSV := Lib.hid (size16 hvl)
        clear hh1 hh hv hvl
        by_cases hlt : l < h
        · obtain ⟨j, hj⟩ : ∃ j, j = 68 + l := ⟨_, rfl⟩
          obtain ⟨k, hk⟩ : ∃ k, k = i / 2 ^ l := ⟨_, rfl⟩
          obtain ⟨x, hx⟩ : ∃ x, x = partB r.data.toList j := ⟨_, rfl⟩
          have hxl : x.length = 16 := by rw [hx, partB, List.length_take, List.length_drop, size_list, HRS.out]; omega
          obtain ⟨t, ht⟩ : ∃ t, t = parentB v x k := ⟨_, rfl⟩
          have htl : t.length = 16 := by rw [ht]; exact parentB_16 _ _ _
          have HNX := Lib.hid (show wayB r.data.toList i lf (l + 1) = t by rw [wayB_succ, ht, hx, hj, hk, HVE.out])
          have hsl := strSlice r (16 * j) (16 * (68 + (l : Int))) (by omega) (by rw [HRS.out]; omega)
          have hdl : (r.data.toList.drop (16 * j)).length = r.size - 16 * j := by rw [List.length_drop, size_list]
          have HR1 := Lib.hid (fun W => refFirst (str (r.data.toList.drop (16 * j))) (by rw [str_size, hdl, HRS.out]; omega) x (by rw [str_list]; exact hx.symm) W)
          have hk63 : k < 64 := by rw [hk]; exact Nat.lt_of_le_of_lt (Nat.div_le_self _ _) hi64
          have HKN := Lib.hid (show ((k : Int) / 2) = ((i / 2 ^ (l + 1) : Nat) : Int) by rw [half, ← hk]; simp)
          have HT := Lib.hid ht
          have HXL := Lib.hid hxl
          have HTL := Lib.hid htl
          have HSX := Lib.hid (size16 hxl)
          have HST := Lib.hid (size16 htl)
          rw [← hk]
          clear hj hk hx hxl ht htl hdl
          have hlt' : (l : Int) < (h : Int) := by omega
          by_cases hodd : k % 2 = 1
          · have hb1 : (((k : Int) % 2) == 1) = true := by simp; omega
            have HO := Lib.hid (show overB x v = t by rw [HT.out]; unfold parentB; rw [if_pos hodd])
            clear hodd
            go_wp2_with (first
              | (go_at_call 58; ((with_reducible refine (HR1.out _).mono ?_); rintro e wa ⟨rfl, hba⟩); have HHa := Lib.hid (show Ends w wa gv p v from ⟨blk_past hba HH.out.v, blk_past hba HH.out.p, bt HH.out.below hba, HH.out.lt⟩); clear hba)
              | (refine wpList_store_row rfl 29 (.tmp 21) (.tmp 102) rfl wa.heap.size (bs x).toArray rfl rfl 29 _ (Blk.new wa 29 _) HSX.out (by rw [sz16 HXL.out, sz16 z16_length]) (all_oneCell_toArray (bs_one _)) ?_
                 generalize hwb : World.setRow (World.alloc wa _) _ _ = wb
                 have HXb : Hid (Blk wb wa.heap.size 29 (bs x).toArray) := by rw [← hwb]; exact (Blk.new wa 29 _).setRow _
                 have HHb : Hid (Ends w wb gv p v) := by
                   rw [← hwb]
                   have h1 := HHa.out.v.lt
                   have h2 := HHa.out.p.lt
                   exact ⟨(HHa.out.v.alloc _).setRow_far (by omega) _, (HHa.out.p.alloc _).setRow_far (by omega) _, below_setRow (ba HHa.out.below _) HHa.out.below.size _, HHa.out.lt⟩
                 clear hwb)
              | (refine wpList_load_row rfl 29 (.tmp 21) rfl wa.heap.size rfl 29 (bs x).toArray (0, 0) _ HXb.out Tryd.underlying29 rfl HSX.out ?_)
              | (refine wpList_load_row rfl 29 (.tmp 18) rfl gv rfl 29 (bs v).toArray (0, 0) _ HHb.out.v Tryd.underlying29 rfl HSV.out ?_)
              | (go_at_call 59; ((with_reducible refine (refNode x v _ (HK.out.below HHb.out.below) HXL.out HVL.out t HO.out).mono ?_); rintro e wc ⟨rfl, hbc⟩); have HHc := Lib.hid (show Ends w wc gv p v from ⟨blk_past hbc HHb.out.v, blk_past hbc HHb.out.p, bt HHb.out.below hbc, HHb.out.lt⟩); clear hbc)
              | (refine wpList_store_row rfl 29 (.tmp 18) (.tmp 108) rfl gv (bs t).toArray rfl rfl 29 _ HHc.out.v HST.out (by rw [sz16 HTL.out, sz16 HVL.out]) (all_oneCell_toArray (bs_one _)) ?_))
            go_roundw
            case rel =>
              have hlt2 := HHc.out.lt
              refine ⟨l + 1, by omega, by go_num, by rw [HKN.out], ?_⟩
              rw [HNX.out]
              exact ⟨HHc.out.v.setRow _, HHc.out.p.setRow_far (by omega) _, below_setRow HHc.out.below (by omega) _, hlt2⟩
            case measure => simp [intOf]; omega
          · have hb1 : (((k : Int) % 2) == 1) = false := by simp; omega
            have HO := Lib.hid (show overB v x = t by rw [HT.out]; unfold parentB; rw [if_neg hodd])
            clear hodd
            go_wp2_with (first
              | (go_at_call 58; ((with_reducible refine (HR1.out _).mono ?_); rintro e wa ⟨rfl, hba⟩); have HHa := Lib.hid (show Ends w wa gv p v from ⟨blk_past hba HH.out.v, blk_past hba HH.out.p, bt HH.out.below hba, HH.out.lt⟩); clear hba)
              | (refine wpList_store_row rfl 29 (.tmp 21) (.tmp 102) rfl wa.heap.size (bs x).toArray rfl rfl 29 _ (Blk.new wa 29 _) HSX.out (by rw [sz16 HXL.out, sz16 z16_length]) (all_oneCell_toArray (bs_one _)) ?_
                 generalize hwb : World.setRow (World.alloc wa _) _ _ = wb
                 have HXb : Hid (Blk wb wa.heap.size 29 (bs x).toArray) := by rw [← hwb]; exact (Blk.new wa 29 _).setRow _
                 have HHb : Hid (Ends w wb gv p v) := by
                   rw [← hwb]
                   have h1 := HHa.out.v.lt
                   have h2 := HHa.out.p.lt
                   exact ⟨(HHa.out.v.alloc _).setRow_far (by omega) _, (HHa.out.p.alloc _).setRow_far (by omega) _, below_setRow (ba HHa.out.below _) HHa.out.below.size _, HHa.out.lt⟩
                 clear hwb)
              | (refine wpList_load_row rfl 29 (.tmp 21) rfl wa.heap.size rfl 29 (bs x).toArray (0, 0) _ HXb.out Tryd.underlying29 rfl HSX.out ?_)
              | (refine wpList_load_row rfl 29 (.tmp 18) rfl gv rfl 29 (bs v).toArray (0, 0) _ HHb.out.v Tryd.underlying29 rfl HSV.out ?_)
              | (go_at_call 59; ((with_reducible refine (refNode v x _ (HK.out.below HHb.out.below) HVL.out HXL.out t HO.out).mono ?_); rintro e wc ⟨rfl, hbc⟩); have HHc := Lib.hid (show Ends w wc gv p v from ⟨blk_past hbc HHb.out.v, blk_past hbc HHb.out.p, bt HHb.out.below hbc, HHb.out.lt⟩); clear hbc)
              | (refine wpList_store_row rfl 29 (.tmp 18) (.tmp 111) rfl gv (bs t).toArray rfl rfl 29 _ HHc.out.v HST.out (by rw [sz16 HTL.out, sz16 HVL.out]) (all_oneCell_toArray (bs_one _)) ?_))
            go_roundw
            case rel =>
              have hlt2 := HHc.out.lt
              refine ⟨l + 1, by omega, by go_num, by rw [HKN.out], ?_⟩
              rw [HNX.out]
              exact ⟨HHc.out.v.setRow _, HHc.out.p.setRow_far (by omega) _, below_setRow HHc.out.below (by omega) _, hlt2⟩
            case measure => simp [intOf]; omega
        · have hle : l = h := by omega
          have HVF := Lib.hid (show (!decide (v = p)) = !b by rw [HVE.out, hle, HBK.out])
          have hge : h ≤ l := by omega
          have hne := fun W => neq16 v p HVL.out HP.out W
          rw [HVF.out] at hne
          clear hlt hl' hle HVE
          cases b
          all_goals
            simp only [Bool.not_false, Bool.not_true] at hne
            go_wp2_with (first
              | (refine wpList_load_row rfl 29 (.tmp 18) rfl gv rfl 29 (bs v).toArray (0, 0) _ HH.out.v Tryd.underlying29 rfl HSV.out ?_)
              | (refine wpList_load_row rfl 29 (.tmp 4) rfl w.heap.size rfl 29 (bs p).toArray (0, 0) _ HH.out.p Tryd.underlying29 rfl HSP.out ?_))
            go_ret2
            exact ⟨rfl, HH.out.below⟩
end Go.Proofs.YtaoegpmjogladaaDoor
