/-
  sign.Verify where the signature has its length.
-/
import Derived.Test.YtaoegpmjogladaaDoorG17
import Derived.Deep.RegionHeld3
import Derived.Outline
set_option linter.unusedVariables false
namespace Go.Proofs.YtaoegpmjogladaaDoor
open Go.RowKit WM
attribute [local go_sem ↓] shut16

theorem endB_16 (rest : List UInt8) (i : Nat) (ds : List Nat) (c : Nat) (h : c * 16 + 16 ≤ rest.length) : (endB rest i ds c).length = 16 :=
  advB_16 _ _ _ _ _ (by rw [partB, List.length_take, List.length_drop]; omega)
theorem endB_all (rest : List UInt8) (i : Nat) (ds : List Nat) (hd : ds.length = 68) (h : 1088 ≤ rest.length) (c : Nat) : (endB rest i ds c).length = 16 := by
  by_cases hc : c < 68
  · exact endB_16 rest i ds c (by omega)
  · unfold endB
    rw [List.getD_eq_getElem?_getD, List.getElem?_eq_none (by omega)]
    exact stepB_16 _ _ _ _
theorem wayB_succ (rest : List UInt8) (i : Nat) (s : List UInt8) (l : Nat) : wayB rest i s (l + 1) = parentB (wayB rest i s l) (partB rest (68 + l)) (i / 2 ^ l) := by
  rw [← Nat.shiftRight_eq_div_pow]; rfl
theorem range16 {w : World} {g : Nat} {v : List UInt8} (h : Blk w g 29 (bs v).toArray) : w.rangeAt g 0 (bs v) := fun j u hu => by
  rw [Nat.zero_add, Blk.cell h]; simpa using hu
theorem range_sc {W W2 : World} {g : Nat} {vs : List Value} (h : W = W2) (hc : W2.rangeAt g 0 vs) : W.rangeAt g 0 vs := by rw [h]; exact hc
theorem wayB_16 (rest : List UInt8) (i : Nat) (s : List UInt8) (hs : s.length = 16) (l : Nat) : (wayB rest i s l).length = 16 := by
  cases l with
  | zero => exact hs
  | succ l => exact parentB_16 _ _ _

set_option maxRecDepth 100000 in
set_option maxHeartbeats 8000000 in
theorem verify_main (p : List UInt8) (h i u : Nat) (m sg : ByteArray) (w : World) (hk : KT 0 w) (hp : p.length = 16) (h6 : h ≤ 6) (hi : i < 2 ^ h) (hm : m.size ≤ 1048576) (hl : sg.size ≤ 1000000) (hg : gInt sg.data.toList = .ok (i : Int) u) (hu : u ≤ sg.size)
    (hlen : sg.size - u = (68 + h) * 16) (b : Bool) (hb : decide (backB p h i m (sg.data.toList.drop u) = p) = b) :
    Calls Tryd.prog 24 #[.agg (bs p).toArray, .int .i64 (h : Int), .string m, .string sg] w fun e w' => e = .returned (.tuple #[.int .i64 (if b then (i : Int) else 0), .int .i64 (if b then 0 else 10)]) ∧ Below w.heap.size w w' := by
  have hz := Tryd.zero29
  have hz2 := Tryd.zero67
  have hm2 : ¬ (1048576 : Int) < (m.size : Int) := by omega
  obtain ⟨w1, c, hv⟩ := VerAt.make p sg w hl _ hg i u 0 rfl
  have HV := Lib.hid hv
  have hcv := hv.conv
  have hsl := strSlice sg u u rfl hu
  have hls : ((str (sg.data.toList.drop u)).size : Int) = ((sg.size - u : Nat) : Int) := by rw [str_size, List.length_drop, size_list]
  obtain ⟨r, hr⟩ : ∃ r, r = str (sg.data.toList.drop u) := ⟨_, rfl⟩
  have hrd : r.data.toList = sg.data.toList.drop u := by rw [hr, str_list]
  rw [← hr] at hsl hls
  rw [← hrd] at hb
  have hrs : r.size = (68 + h) * 16 := by omega
  have hnb : ((r.size : Int) != (68 + (h : Int)) * 16) = false := by rw [hrs]; simp
  have h64 : 2 ^ h ≤ 64 := by
    have : 2 ^ h ≤ 2 ^ 6 := Nat.pow_le_pow_right (by omega) h6
    simpa using this
  obtain ⟨q, hq⟩ : ∃ q, q = digestB p i m := ⟨_, rfl⟩
  have hql : q.length = 16 := by rw [hq]; exact digestB_16 _ _ _
  obtain ⟨ds, hds⟩ : ∃ ds, ds = digitsB q := ⟨_, rfl⟩
  have hdsl : ds.length = 68 := by rw [hds]; exact digitsB_length hql
  have hds3 : ∀ x ∈ ds, x ≤ 3 := by rw [hds]; exact digitsB_le q
  obtain ⟨lf, hlf⟩ : ∃ lf, lf = leafB (endB r.data.toList i ds) := ⟨_, rfl⟩
  have hlfl : lf.length = 16 := by rw [hlf]; exact leafB_16 _
  have hbk : decide (wayB r.data.toList i lf h = p) = b := by rw [← hb, hlf, hds, hq]; rfl
  have HI := Lib.hid hi
  have HP := Lib.hid hp
  have HK := Lib.hid hk
  have HQ := Lib.hid hq
  have HQL := Lib.hid hql
  have HDS := Lib.hid hds
  have HDSL := Lib.hid hdsl
  have HDS3 := Lib.hid hds3
  have HLF := Lib.hid hlf
  have HLFL := Lib.hid hlfl
  have HBK := Lib.hid hbk
  have HRS := Lib.hid hrs
  have HIR := Lib.hid (show inRange (i : Int) from ⟨by omega, by omega⟩)
  have HSP := Lib.hid (size16 hp)
  have HSL := Lib.hid (size16 hlfl)
  have hsd : (Tryd.prog.info? 67).map (·.size) = some (ns ds).toArray.size := by rw [Tryd.size67]; simp [ns_length, hdsl]
  have HSD := Lib.hid hsd
  clear hsd
  have hi64 : i < 64 := by omega
  clear hg hv hr hrd hls hb hbk hi hp hk hq hql hds hdsl hds3 hlf hlfl hrs h64 hlen hu
  go_enter Tryd.func24, Tryd.ntmps24
  go_wp2_with (first
    | (go_at_call 50; refine (isHeight_yes h _ (by omega) (by omega)).mono ?_; rintro e w' ⟨rfl, rfl⟩)
    | (go_at_call 51; refine HV.out.get.mono ?_; rintro e w' ⟨rfl, rfl⟩)
    | (go_at_call 42; refine (isIndex_yes i h _ h6 HI.out).mono ?_; rintro e w' ⟨rfl, rfl⟩)
    | (refine wpList_load_row rfl 29 (.tmp 4) rfl w.heap.size rfl 29 (bs p).toArray (0, 0) _ (((HV.out.box.alloc _).alloc _).alloc _) Tryd.underlying29 rfl HSP.out ?_
       generalize hw2 : World.alloc (World.alloc (World.alloc w1 _) _) _ = w2
       have H2 : Hid (Blk w2 w.heap.size 29 (bs p).toArray ∧ Blk w2 w1.heap.size 3 #[.int .i64 (i : Int)] ∧ Blk w2 (w1.heap.size + 1) 9 #[.string r] ∧ Blk w2 (w1.heap.size + 1 + 1) 85 #[.func (.func 52) #[] #[.pointer (some ⟨w1.heap.size + 1, 0, none⟩)]] ∧ Below w.heap.size w w2) := by
         rw [← hw2]
         exact ⟨((HV.out.box.alloc _).alloc _).alloc _, ((Blk.new w1 3 _).alloc _).alloc _, (Blk.new_at _ 9 (by simp) rfl).alloc _, Blk.new_at _ 85 (by simp) rfl, ba (ba (ba HV.out.below _) _) _⟩
       have hc2 := one_cell H2.out.2.1
       clear hw2)
    | (go_at_call 22; refine (signDigest p i m _ (HK.out.below H2.out.2.2.2.2) HP.out HIR.out hm).mono ?_; rintro e w3 ⟨rfl, hb3⟩; rw [← HQ.out]; have HB3 := Lib.hid hb3; clear hb3)
    | (go_at_call 37; refine (digits q HQL.out _).mono ?_; rintro e w4 ⟨rfl, hb4⟩; rw [← HDS.out]; have HB4 := Lib.hid (below_then HB3.out hb4); clear hb4)
    | (refine wpList_store_row rfl 67 (.tmp 15) (.tmp 54) rfl w4.heap.size (ns ds).toArray rfl rfl 67 _ (Blk.new w4 67 _) HSD.out (by simp [ns_length, HDSL.out, z68]) (all_oneCell_toArray (ns_one _)) ?_
       generalize hw5 : World.setRow (World.alloc w4 _) _ _ = w5
       have HB5 : Hid (Below w2.heap.size w2 w5) := by rw [← hw5]; exact below_setRow (ba HB4.out _) HB4.out.size _
       have HL5 : Hid (Blk w5 w4.heap.size 67 (ns ds).toArray) := by rw [← hw5]; exact (Blk.new w4 67 _).setRow _
       clear hw5
       have HW5 : Hid (Below w.heap.size w w5) := bt H2.out.2.2.2.2 HB5.out
       have HE5 : Hid (EndAt r ds i (w1.heap.size + 1) (w1.heap.size + 1 + 1) w1.heap.size w4.heap.size w5) := ⟨blk_past HB5.out H2.out.2.2.1, blk_past HB5.out H2.out.2.2.2.1, blk_past HB5.out H2.out.2.1, HL5.out, HK.out.below HW5.out⟩
       have HP5 := Lib.hid (blk_past HB5.out H2.out.1)
       have HLC := Lib.hid (leafV (endB r.data.toList i ds) (w1.heap.size + 1 + 1) w1.heap.size w4.heap.size w5 HE5.out.k (endB_all _ _ _ HDSL.out (by rw [size_list, HRS.out]; omega))
         (fun c W hc hW => endClo r ds i c _ _ _ _ W (HE5.out.past hW) hc (by rw [HRS.out]; omega) (by rw [HRS.out]; omega) (by omega) HDSL.out HDS3.out)))
    | (go_at_call 54; ((with_reducible refine HLC.out.mono ?_); rintro e w6 ⟨rfl, hb6⟩); rw [← HLF.out]; have HB6 := Lib.hid hb6; clear hb6)
    | (refine wpList_store_row rfl 29 (.tmp 16) (.tmp 56) rfl w6.heap.size (bs lf).toArray rfl rfl 29 _ (Blk.new w6 29 _) HSL.out (by rw [sz16 HLFL.out, sz16 z16_length]) (all_oneCell_toArray (bs_one _)) ?_
       generalize hw7 : World.setRow (World.alloc w6 _) _ _ = w7
       have HB7 : Hid (Below w5.heap.size w5 w7) := by rw [← hw7]; exact below_setRow (ba HB6.out _) HB6.out.size _
       have HL7 : Hid (Blk w7 w6.heap.size 29 (bs lf).toArray) := by rw [← hw7]; exact (Blk.new w6 29 _).setRow _
       clear hw7))
  obtain ⟨gr, hgr⟩ : ∃ g, g = w1.heap.size + 1 := ⟨_, rfl⟩
  obtain ⟨gp, hgp⟩ : ∃ g, g = w1.heap.size + 1 + 1 := ⟨_, rfl⟩
  obtain ⟨gi, hgi⟩ : ∃ g, g = w1.heap.size := ⟨_, rfl⟩
  obtain ⟨gl, hgl⟩ : ∃ g, g = w4.heap.size := ⟨_, rfl⟩
  obtain ⟨gv, hgv⟩ : ∃ g, g = w6.heap.size := ⟨_, rfl⟩
  have HE7 := Lib.hid (HE5.out.past HB7.out)
  have HP7 := Lib.hid (blk_past HB7.out HP5.out)
  have HW7 := Lib.hid (bt HW5.out HB7.out)
  have HN : Hid (gr < gv ∧ gp < gv ∧ gi < gv ∧ gl < gv ∧ w.heap.size < gv) := by
    have h1 := HB6.out.size
    have h2 := HE5.out.r.lt
    have h3 := HE5.out.p.lt
    have h4 := HE5.out.i.lt
    have h5 := HE5.out.l.lt
    have h6 := HP5.out.lt
    rw [hgr, hgp, hgi, hgl, hgv]
    exact ⟨by omega, by omega, by omega, by omega, by omega⟩
  rw [← hgp, ← hgr, ← hgi, ← hgl] at HE7
  rw [← hgv] at HL7
  rw [← hgp, ← hgr, ← hgi, ← hgl, ← hgv]
  clear hgr hgp hgi hgl hgv HLC HE5 HP5 HW5 HB7 HB6 HL5 HB5 HB4 HB3 H2 HV hcv hc2
  have hu16 := Tryd.underlying29
  go_loopw [58] (fun c' wr => ∃ l : Nat, l ≤ h ∧ c' = .int .i64 l ∧ Hid (Blk wr gv 29 (bs (wayB r.data.toList i lf l)).toArray ∧ EndAt r ds i gr gp gi gl wr ∧ Blk wr w.heap.size 29 (bs p).toArray ∧ Below w.heap.size w wr)) (fun c' _ => h - (intOf c').toNat)
  case atStart => exact ⟨0, by omega, rfl, HL7.out, HE7.out, HP7.out, HW7.out⟩
  case round =>
    clear HL7 HE7 HP7 HW7
    obtain ⟨l, hl', rfl, hh⟩ := hrel
    obtain ⟨v, hv⟩ : ∃ v, v = wayB r.data.toList i lf l := ⟨_, rfl⟩
    have hvl : v.length = 16 := by rw [hv]; exact wayB_16 _ _ _ HLFL.out _
    have hh1 := hh.out
    rw [← hv] at hh1
    have HH := Lib.hid hh1
    have HVE := Lib.hid hv
    have HVL := Lib.hid hvl
    clear hh1 hh hv hvl
    by_cases hlt : l < h
    · have hlt' : (l : Int) < (h : Int) := by omega
      obtain ⟨j, hj⟩ : ∃ j, j = 68 + l := ⟨_, rfl⟩
      obtain ⟨k, hk⟩ : ∃ k, k = i / 2 ^ l := ⟨_, rfl⟩
      obtain ⟨x, hx⟩ : ∃ x, x = partB r.data.toList j := ⟨_, rfl⟩
      have hxl : x.length = 16 := by rw [hx, partB, List.length_take, List.length_drop, size_list, HRS.out]; omega
      obtain ⟨y, hy⟩ : ∃ y, y = parentB v x k := ⟨_, rfl⟩
      have hyl : y.length = 16 := by rw [hy]; exact parentB_16 _ _ _
      have HNX := Lib.hid (show wayB r.data.toList i lf (l + 1) = y by rw [wayB_succ, hy, hx, hj, hk, HVE.out])
      have hke : (i : Int) / 2 ^ l = (k : Int) := by rw [hk]; simp
      have HR1 := Lib.hid (partClo r j gr wr.drew HH.out.2.1.r.drew (by rw [HRS.out]; omega) (by rw [HRS.out]; omega))
      rw [← hx] at HR1
      have HR2 := Lib.hid (fun (W : World) (hW : KT 0 W) => parent v x k W hW HVL.out hxl)
      rw [← hke, ← hy] at HR2
      have a1 : IntKind.i64.wrap (68 + (l : Int)) = (j : Int) := by rw [IntWalk.i64_in _ (by omega)]; omega
      have HX := Lib.hid hx
      have HXL := Lib.hid hxl
      have HYL := Lib.hid hyl
      have hla : (bs y).length = 16 := by rw [bs_length]; exact HYL.out
      have gl0 := load16 HH.out.1 HVL.out
      have gl1 := load16 HH.out.1.drew HVL.out
      have gb := one_cell HH.out.2.1.p
      have gc := one_cell HH.out.2.1.i
      clear hj hk hke hx hxl hy hyl
      go_wp2
      go_region_with (first
        | (go_at_call 52; ((with_reducible refine HR1.out.mono ?_); rintro e w8 ⟨rfl, hb8⟩); have hb8' := below_then (Below.refl wr.heap.size wr).drew hb8; have HB8 := Lib.hid hb8'; have HE8 := Lib.hid (HH.out.2.1.past hb8'); have HV8 := Lib.hid (blk_past hb8' HH.out.1); have gl8 := load16 HV8.out HVL.out; have gb1 := one_cell HE8.out.p; have gc1 := one_cell HE8.out.i; have HR3 := Lib.hid (HR2.out w8 HE8.out.k); clear hb8 hb8')
        | (go_at_call 56; ((with_reducible refine HR3.out.mono ?_); rintro e w9 ⟨rfl, hb9⟩); have HB9 := Lib.hid (below_then HB8.out hb9); have HE9 := Lib.hid (HE8.out.past hb9); have HV9 := Lib.hid (blk_past hb9 HV8.out); have hst := store16 HV9.out HVL.out HYL.out; clear hb9))
      all_goals
        go_wp2_with fail
        go_roundw
        case rel =>
          refine ⟨l + 1, by omega, by go_num, ?_⟩
          rw [HNX.out]
          exact ⟨HV9.out.setRow _, ⟨HE9.out.r.setRow_far (by have := HN.out; omega) _, HE9.out.p.setRow_far (by have := HN.out; omega) _, HE9.out.i.setRow_far (by have := HN.out; omega) _, HE9.out.l.setRow_far (by have := HN.out; omega) _, HE9.out.k.kp (Kp.refl.setRow (.inr rfl) _) (by have := HN.out; omega)⟩, (blk_past HB9.out HH.out.2.2.1).setRow_far (by have := HN.out; omega) _, below_setRow (bt HH.out.2.2.2 HB9.out) (by have := HN.out; omega) _⟩
        case measure => simp [intOf]; omega
    · have hle : l = h := by omega
      have HVF := Lib.hid (show (!decide (v = p)) = !b by rw [HVE.out, hle, HBK.out])
      have hge : h ≤ l := by omega
      have hne := fun W => neq16 v p HVL.out HP.out W
      rw [HVF.out] at hne
      have HSV := Lib.hid (size16 HVL.out)
      have gc := one_cell HH.out.2.1.i
      clear hlt hl' hle HVE
      cases b
      all_goals
        simp only [Bool.not_false, Bool.not_true] at hne
        go_wp2_with (first
          | (refine wpList_load_row rfl 29 (.tmp 16) rfl gv rfl 29 (bs v).toArray (0, 0) _ HH.out.1 Tryd.underlying29 rfl HSV.out ?_)
          | (refine wpList_load_row rfl 29 (.tmp 4) rfl w.heap.size rfl 29 (bs p).toArray (0, 0) _ HH.out.2.2.1 Tryd.underlying29 rfl HSP.out ?_))
        go_ret2
        exact ⟨rfl, HH.out.2.2.2⟩
end Go.Proofs.YtaoegpmjogladaaDoor
