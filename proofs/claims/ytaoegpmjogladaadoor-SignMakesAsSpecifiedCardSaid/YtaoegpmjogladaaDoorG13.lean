/-
  sign.parent, sign.Digest.
-/
import Derived.Test.YtaoegpmjogladaaDoorG12
namespace Go.Proofs.YtaoegpmjogladaaDoor
open Go.RowKit WM

/-- Two digests in blocks of their own. -/
structure Two (w wx : World) (g7 g8 : Nat) (x y : List UInt8) : Prop where
  l : Blk wx g7 29 (bs x).toArray
  r : Blk wx g8 29 (bs y).toArray
  a : Blk wx w.heap.size 29 (bs x).toArray
  o : Blk wx (w.heap.size + 1 + 1) 29 (bs z16).toArray
  below : Below w.heap.size w wx

theorem shut16 (v : Value) : Instr.loadAt 29 v = ldS 29 v := rfl
theorem load16 {W : World} {g : Nat} {x : List UInt8} (hb : Blk W g 29 (bs x).toArray) (h0 : x.length = 16) : (ldS 29 (.pointer (some ⟨g, 0, none⟩))).run Tryd.prog W = .ok (.agg (bs x).toArray) W := by
  unfold ldS
  simp only [Instr.loadAt, Instr.sureAddr, Sem.run_bind, Sem.run_pure, Result.andThen_ok]
  exact run_loadVar_row W g 29 29 _ (0, 0) _ hb Tryd.underlying29 rfl (size16 h0)
theorem store16 {W : World} {g : Nat} {x y : List UInt8} (hb : Blk W g 29 (bs y).toArray) (hy : y.length = 16) (h0 : x.length = 16) : (storeCells ⟨g, 0, none⟩ (bs x)).run Tryd.prog W = .ok () (W.setRow g (bs x).toArray) := by
  have := run_storeCells_from (P := Tryd.prog) g 29 (bs x) 0 _ W hb (by simp [bs, h0, hy]) (bs_one x)
  simpa using this
attribute [local go_sem ↓] shut16
section
variable {w : World} {g : Nat} {t t' : TypeId} {cs cs' c : Array Value} {o o' : Obj}
theorem nb4 : Blk (((w.alloc (.cells cs t)).alloc (.cells cs' t')).setRow w.heap.size c) (w.heap.size + 1) t' cs' := (Blk.new_at _ t' (size_alloc _ _).symm rfl).setRow_far (by omega) _
theorem nb5 : Blk (((w.alloc (.cells cs t)).alloc o).setRow (w.heap.size + 1) c) w.heap.size t cs := ((Blk.new w t cs).alloc _).setRow_far (by omega) _
theorem nb7 : Blk (((w.alloc o).setRow g c).alloc (.cells cs t)) (w.heap.size + 1) t cs := Blk.new_at _ t (by rw [size_setRow, size_alloc]) rfl
theorem fin1 {z1 z2 a b : Array Value} : Blk ((((w.alloc (.cells z1 t)).alloc (.cells z2 t)).setRow w.heap.size a).setRow (w.heap.size + 1) b).drew w.heap.size t a ∧
    Blk ((((w.alloc (.cells z1 t)).alloc (.cells z2 t)).setRow w.heap.size a).setRow (w.heap.size + 1) b).drew (w.heap.size + 1) t b ∧ w.heap.size ≤ w.heap.size ∧ w.heap.size ≤ w.heap.size + 1 ∧ w.heap.size ≠ w.heap.size + 1 ∧
    Below w.heap.size w ((((w.alloc (.cells z1 t)).alloc (.cells z2 t)).setRow w.heap.size a).setRow (w.heap.size + 1) b).drew :=
  ⟨((((Blk.new w t z1).alloc _).setRow a).setRow_far (by omega) _).drew, (((Blk.new_at (w.alloc (.cells z1 t)) t (size_alloc _ _).symm (rfl : z2 = z2)).setRow_far (by omega) _).setRow b).drew, by omega, by omega, by omega,
    (below_setRow (below_setRow (ba (below_new _ _) _) (by omega) _) (by omega) _).drew⟩
theorem fin2 {z1 z2 a b : Array Value} : Blk ((((w.alloc (.cells z1 t)).alloc (.cells z2 t)).setRow (w.heap.size + 1) a).setRow w.heap.size b).drew (w.heap.size + 1) t a ∧
    Blk ((((w.alloc (.cells z1 t)).alloc (.cells z2 t)).setRow (w.heap.size + 1) a).setRow w.heap.size b).drew w.heap.size t b ∧ w.heap.size ≤ w.heap.size + 1 ∧ w.heap.size ≤ w.heap.size ∧ w.heap.size + 1 ≠ w.heap.size ∧
    Below w.heap.size w ((((w.alloc (.cells z1 t)).alloc (.cells z2 t)).setRow (w.heap.size + 1) a).setRow w.heap.size b).drew :=
  ⟨(((Blk.new_at (w.alloc (.cells z1 t)) t (size_alloc _ _).symm (rfl : z2 = z2)).setRow a).setRow_far (by omega) _).drew, ((((Blk.new w t z1).alloc _).setRow_far (by omega) _).setRow b).drew, by omega, by omega, by omega,
    (below_setRow (below_setRow (ba (below_new _ _) _) (by omega) _) (by omega) _).drew⟩
theorem pb1 (h : Blk w g t cs) : Blk (w.alloc o) g t cs := h.alloc _
theorem pb2 (h : Blk w g t cs) : Blk ((w.alloc o).alloc o') g t cs := (h.alloc _).alloc _
theorem pb3 (h : Blk w g t cs) : Blk ((w.alloc o).setRow w.heap.size c) g t cs := (h.alloc _).setRow_far (by have := h.lt; omega) _
theorem pb4 (h : Blk w g t cs) : Blk (((w.alloc o).alloc o').setRow w.heap.size c) g t cs := ((h.alloc _).alloc _).setRow_far (by have := h.lt; omega) _
theorem pb5 (h : Blk w g t cs) : Blk (((w.alloc o).alloc o').setRow (w.heap.size + 1) c) g t cs := ((h.alloc _).alloc _).setRow_far (by have := h.lt; omega) _
theorem pb6 (h : Blk w g t cs) : Blk (((w.alloc o).setRow w.heap.size c).alloc o') g t cs := ((h.alloc _).setRow_far (by have := h.lt; omega) _).alloc _
end

set_option maxRecDepth 100000 in
set_option maxHeartbeats 2000000 in
theorem parent (a b : List UInt8) (k : Nat) (w : World) (hk : KT 0 w) (ha : a.length = 16) (hb : b.length = 16) :
    Calls Tryd.prog 56 #[.agg (bs a).toArray, .agg (bs b).toArray, .int .i64 (k : Int)] w fun e w' => e = .returned (.agg (bs (parentB a b k)).toArray) ∧ Below w.heap.size w w' := by
  have hz := Tryd.zero29
  have HA := Lib.hid ha
  have HB := Lib.hid hb
  have HK := Lib.hid hk
  clear ha hb hk
  go_enter Tryd.func56, Tryd.ntmps56
  go_upto_region 1 with fail
  generalize hw0 : World.alloc _ _ = w0
  have H0 : Hid (Blk w0 w.heap.size 29 (bs a).toArray ∧ Blk w0 (w.heap.size + 1) 29 (bs b).toArray ∧ Blk w0 (w.heap.size + 1 + 1) 29 (bs z16).toArray ∧ Below w.heap.size w w0) := by
    rw [← hw0]
    exact ⟨((Blk.new w 29 _).alloc _).alloc _, (Blk.new_at _ 29 (size_alloc _ _).symm rfl).alloc _, Blk.new_at _ 29 (by simp) rfl, ba (ba (below_new _ _) _) _⟩
  have hs0 : w0.heap.size = w.heap.size + 1 + 1 + 1 := by rw [← hw0]; simp
  have HS0 := Lib.hid hs0
  clear hw0 hs0
  have HLT := Lib.hid H0.out.2.2.1.lt
  go_cut [7, 8] (fun s7 s8 wx => ∃ g7 g8 : Nat, s7 = .pointer (some ⟨g7, 0, none⟩) ∧ s8 = .pointer (some ⟨g8, 0, none⟩) ∧ Hid (Blk wx g7 29 (bs a).toArray ∧ Blk wx g8 29 (bs b).toArray ∧ w0.heap.size ≤ g7 ∧ w0.heap.size ≤ g8 ∧ g7 ≠ g8 ∧ Below w0.heap.size w0 wx))
  case first =>
    have a0 := fun (W : World) (g : Nat) (h : Blk W g 29 (bs a).toArray) => load16 h HA.out
    have b0 := fun (W : World) (g : Nat) (h : Blk W g 29 (bs b).toArray) => load16 h HB.out
    have r0 := H0.out.1
    have r1 := H0.out.2.1
    have r4 : ∀ (w : World) g t cs, Blk w.drew g t cs ↔ Blk w g t cs := fun _ _ _ _ => Iff.rfl
    have r5 : ∀ (w : World) g c, World.setRow (World.drew w) g c = World.drew (World.setRow w g c) := fun _ _ _ => rfl
    have hla : (bs a).length = 16 := by rw [bs_length]; exact HA.out
    have hlb : (bs b).length = 16 := by rw [bs_length]; exact HB.out
    have hlz : (bs z16).length = 16 := rfl
    have sa := fun (W : World) (g : Nat) (h : Blk W g 29 (bs z16).toArray) => store16 h rfl HA.out
    have sb := fun (W : World) (g : Nat) (h : Blk W g 29 (bs z16).toArray) => store16 h rfl HB.out
    have n1 := @blk_new
    have n2 := @blk_new2
    have n3 := @blk_new3
    have n4 := @nb4
    have n5 := @nb5
    have n7 := @nb7
    have p1 := @pb1
    have p2 := @pb2
    have p3 := @pb3
    have p4 := @pb4
    have p5 := @pb5
    have p6 := @pb6
    go_region_with fail
    clear a0 b0 r0 r1 r4 r5 sa sb n1 n2 n3 n4 n5 n7 p1 p2 p3 p4 p5 p6
    all_goals
      go_wp2_with fail
      go_meet
      first | exact ⟨_, _, rfl, rfl, fin1⟩ | exact ⟨_, _, rfl, rfl, fin2⟩
  case rest =>
    obtain ⟨g7, g8, rfl, rfl, hh⟩ := hcut
    have hs0 := HS0.out
    have hlt := HLT.out
    have H1 : Hid (Blk wc g7 29 (bs a).toArray ∧ Blk wc g8 29 (bs b).toArray ∧ g7 ≠ g8 ∧ w.heap.size + 1 + 1 < g7 ∧ w.heap.size + 1 + 1 < g8 ∧ Blk wc w.heap.size 29 (bs a).toArray ∧ Blk wc (w.heap.size + 1) 29 (bs b).toArray ∧ Blk wc (w.heap.size + 1 + 1) 29 (bs z16).toArray ∧ Below w.heap.size w wc) := by
      obtain ⟨h1, h2, h3, h4, h5, h6⟩ := hh.out
      obtain ⟨k1, k2, k3, k4⟩ := H0.out
      exact ⟨h1, h2, h5, by omega, by omega, blk_past h6 k1, blk_past h6 k2, blk_past h6 k3, bt k4 h6⟩
    clear hh H0 hs0 hlt HS0 HLT
    go_upto_if 13 with fail
    go_cut [7] (fun s7 wx => ∃ x y : List UInt8, s7 = .pointer (some ⟨g7, 0, none⟩) ∧ Hid (overB x y = parentB a b k ∧ x.length = 16 ∧ y.length = 16 ∧ Blk wx g7 29 (bs x).toArray ∧ Blk wx g8 29 (bs y).toArray ∧ Blk wx (w.heap.size + 1 + 1) 29 (bs z16).toArray ∧ Below w.heap.size w wx))
    case first =>
      by_cases hodd : k % 2 = 1
      · have hb1 : (((k : Int) % 2) == 1) = true := by simp; omega
        have HP := Lib.hid (show overB b a = parentB a b k by unfold parentB; rw [if_pos hodd])
        clear hodd
        have a0 := fun (W : World) (g : Nat) (h : Blk W g 29 (bs a).toArray) => load16 h HA.out
        have b0 := fun (W : World) (g : Nat) (h : Blk W g 29 (bs b).toArray) => load16 h HB.out
        have s7 := fun (W : World) (h : Blk W g7 29 (bs a).toArray) => store16 h HA.out HB.out
        have s8 := fun (W : World) (h : Blk W g8 29 (bs b).toArray) => store16 h HB.out HA.out
        have r0 := H1.out.2.2.2.2.2.1
        have r1 := H1.out.2.2.2.2.2.2.1
        have q0 := H1.out.1
        have q1 := fun c => H1.out.2.1.setRow_far (fun e => H1.out.2.2.1 e.symm) c
        have q2 := fun c => r0.setRow_far (show w.heap.size ≠ g7 by have := H1.out.2.2.2.1; omega) c
        have q3 := fun c => r1.setRow_far (show w.heap.size + 1 ≠ g7 by have := H1.out.2.2.2.1; omega) c
        have r4 : ∀ (w : World) g t cs, Blk w.drew g t cs ↔ Blk w g t cs := fun _ _ _ _ => Iff.rfl
        have r5 : ∀ (w : World) g c, World.setRow (World.drew w) g c = World.drew (World.setRow w g c) := fun _ _ _ => rfl
        have hla : (bs a).length = 16 := by rw [bs_length]; exact HA.out
        have hlb : (bs b).length = 16 := by rw [bs_length]; exact HB.out
        go_wp2
        go_region_with fail
        clear a0 b0 s7 s8 r0 r1 q0 q1 q2 q3 r4 r5
        all_goals
          go_wp2_with fail
          go_meet
          exact ⟨b, a, rfl, HP.out, HB.out, HA.out, ((H1.out.1.setRow _).setRow_far H1.out.2.2.1 _).drew, ((H1.out.2.1.setRow_far (fun e => H1.out.2.2.1 e.symm) _).setRow _).drew,
            ((H1.out.2.2.2.2.2.2.2.1.setRow_far (by have := H1.out.2.2.2.1; omega) _).setRow_far (by have := H1.out.2.2.2.2.1; omega) _).drew,
            (below_setRow (below_setRow H1.out.2.2.2.2.2.2.2.2 (by have := H1.out.2.2.2.1; omega) _) (by have := H1.out.2.2.2.2.1; omega) _).drew⟩
      · have hb1 : (((k : Int) % 2) == 1) = false := by simp; omega
        have HP := Lib.hid (show overB a b = parentB a b k by unfold parentB; rw [if_neg hodd])
        clear hodd
        go_wp2
        go_meet
        exact ⟨a, b, rfl, HP.out, HA.out, HB.out, H1.out.1, H1.out.2.1, H1.out.2.2.2.2.2.2.2.1, H1.out.2.2.2.2.2.2.2.2⟩
    case rest =>
      clear H1
      obtain ⟨x, y, rfl, hh⟩ := hcut
      obtain ⟨q, hq⟩ : ∃ q, q = overB x y := ⟨_, rfl⟩
      have hql : q.length = 16 := by rw [hq]; exact overB_16 _ _
      have hqo : ofB 10 [str x, str y] = q := by rw [hq]; rfl
      have hen := encP_2_le x y (by rw [hh.out.2.1]; decide) (by rw [hh.out.2.2.1]; decide)
      rw [hh.out.2.1, hh.out.2.2.1] at hen
      have HEN := Lib.hid (show (encP [str x, str y]).length ≤ 137438953472 by omega)
      have HQ := Lib.hid (show q = parentB a b k by rw [hq]; exact hh.out.1)
      have HQL := Lib.hid hql
      have HQO := Lib.hid hqo
      have HS16 := Lib.hid (size16 hql)
      clear hq hql hqo hen
      obtain ⟨w2, hw2⟩ : ∃ w2, w2 = wc.drew := ⟨_, rfl⟩
      have HX2 : Hid (Blk w2 g7 29 (bs x).toArray ∧ Blk w2 g8 29 (bs y).toArray ∧ Blk w2 (w.heap.size + 1 + 1) 29 (bs z16).toArray ∧ Below w.heap.size w w2) := by
        rw [hw2]; exact ⟨hh.out.2.2.2.1.drew, hh.out.2.2.2.2.1.drew, hh.out.2.2.2.2.2.1.drew, hh.out.2.2.2.2.2.2.drew⟩
      have hc1 := conv_arr HX2.out.1 hh.out.2.1
      have hc2 := conv_arr HX2.out.2.1 hh.out.2.2.1
      have hsl := fun g => slice44 g
      go_wp2
      refine wp_region_still_tail 4 (by kernel_rfl) (by kernel_rfl) ?_
      simp only [List.take_succ_cons, List.take_zero, List.drop_succ_cons, List.drop_zero]
      change wpStill _ _ wc.drew (fun a' => wpList _ _ _ _ a' wc.drew) _ _
      rw [← hw2]
      clear hw2 hh
      repeat still_step
      refine wpStill_nil ?_
      go_wp2_with (first
        | (go_at_call 13; refine (of_n 10 [str x, str y] (some ⟨w2.heap.size, 0, none⟩) 2 2 _ rfl (HK.out.below (ba HX2.out.2.2.2 _)) (reads_ss rfl rfl rfl) HEN.out (by decide) q HQO.out).mono ?_; rintro e w3 ⟨rfl, hb3⟩; have HB3 := Lib.hid (bt (ba HX2.out.2.2.2 _) hb3); have HZ3 := Lib.hid (blk_past hb3 (HX2.out.2.2.1.alloc _)); clear hb3)
        | (refine wpList_store_row rfl 29 (.tmp 6) (.tmp 21) rfl (w.heap.size + 1 + 1) (bs q).toArray rfl rfl 29 _ HZ3.out HS16.out (by rw [sz16 HQL.out, sz16 z16_length]) (all_oneCell_toArray (bs_one _)) ?_))
      refine bodyPost_ret (results_cell_row Tryd.results56 _ _ (w.heap.size + 1 + 1) 29 (bs q).toArray (0, 0) _ rfl (HZ3.out.setRow _) Tryd.underlying29 rfl HS16.out) rfl ⟨by rw [HQ.out], below_setRow HB3.out (by omega) _⟩

end Go.Proofs.YtaoegpmjogladaaDoor
