/-
  The reference's Encode of code: encK.
-/
import Derived.Test.YtbdknncmlcbbpaaDoorG41
import Derived.Test.YtbdknncmlcbbpaaDoorG38
set_option linter.unusedVariables false
namespace Go.Proofs.YtbdknncmlcbbpaaDoor
open Go.RowKit WM TR KM

theorem encK_part (ch : Int) (es : List Ent) (k : Nat) : ((enc ch ++ enc (es.length : Int)) ++ (es.take k).flatMap fun e => encF e.fn).length ≤ (encK ch (es.map Ent.fn)).length := by
  have h : (es.map Ent.fn).flatMap encF = ((es.take k).flatMap fun e => encF e.fn) ++ ((es.drop k).flatMap fun e => encF e.fn) := by
    rw [← List.flatMap_append, List.take_append_drop, List.flatMap_map]
  rw [encK, h, List.length_map]
  simp only [List.length_append]
  omega
/-- An append of bytes, kept shut. -/
def apB (ts : Array TypeId) (t : TypeId) (vs : Array Value) : Sem Value := Builtin.append_ ts t vs
theorem shutApB (ts : Array TypeId) (t : TypeId) (vs : Array Value) : Builtin.append_ ts t vs = apB ts t vs := rfl
theorem apB_run {V W : World} {n c k cb : Nat} {A B : Option Addr} {l m : List UInt8} (hv : Below V.heap.size V W) (ho : W.ownsRow V.heap.size 5 1 (.slice A n c) n (bs l)) (hr : Reads W W.heap.size 1 B k (bs m)) (hn : n + k ≤ 100000000) :
    ∃ (A' : Option Addr) (c' : Nat) (w' : World), (apB #[32, 32] 32 #[.slice A n c, .slice B k cb]).run Tryd.prog W = .ok (.slice A' (n + k) c') w' ∧ w'.ownsRow V.heap.size 5 1 (.slice A' (n + k) c') (n + k) (bs (l ++ m)) ∧ Below V.heap.size V w' := by
  obtain ⟨i0, hi, hz0, hz1, hz2⟩ := info_parts u8_info
  obtain ⟨v1, w1, happ, hown, hgrow, _⟩ := run_append_any (P := Tryd.prog) W V.heap.size 32 32 5 i0 _ 1 1 Tryd.underlying32 hi hz0 hz1 hz2 rfl (by omega) (.slice A n c) n (bs l) ho W.heap.size B k cb (bs m) hr (bs_one _) (len_le (by omega)) (by omega) hv.size
  obtain ⟨A', c', rfl, _⟩ := own_len hown
  rw [← bs_append] at hown
  exact ⟨A', c', w1, happ, hown, below_grK hv hgrow fun b e => (ho.lt b e).1⟩
section
attribute [local go_sem ↓ high] shutApB
set_option maxRecDepth 100000 in
set_option maxHeartbeats 16000000 in
theorem rcodeEnc_is (ch : Int) (es : List Ent) (Ac : Option Addr) (cc : Nat) (w : World) (hco : CoR w (fun b => b < w.heap.size) Ac cc es) (hch : inRange ch) (hsz : (encK ch (es.map Ent.fn)).length ≤ 1000000) :
    Calls Tryd.prog 16 #[.agg #[.int .i64 ch, .slice Ac es.length cc]] w fun e w' => ∃ A c, e = .returned (.slice A (encK ch (es.map Ent.fn)).length c) ∧ w'.ownsRow w.heap.size 5 1 (.slice A (encK ch (es.map Ent.fn)).length c) (encK ch (es.map Ent.fn)).length (bs (encK ch (es.map Ent.fn))) ∧ Below w.heap.size w w' := by
  obtain ⟨i0, hi, hz0, hz1, hz2⟩ := info_parts u8_info
  obtain ⟨j0, hj, hy0, hy1, hy2⟩ := info_parts int_info
  obtain ⟨n, hnn⟩ : ∃ n, n = es.length := ⟨_, rfl⟩
  obtain ⟨z, hz⟩ : ∃ z, z = w.heap.size := ⟨_, rfl⟩
  obtain ⟨W1, hW1⟩ : ∃ W, W = w.alloc (.cells #[.int .i64 ch, .slice Ac n cc] 25) := ⟨_, rfl⟩
  have hb1 : Below w.heap.size w W1 := by rw [hW1]; exact below_new _ _
  have k3 : Blk W1 z 25 #[.int .i64 ch, .slice Ac n cc] := by rw [hW1, hz]; exact Blk.new _ _ _
  have hnl : n ≤ 200000 := by rw [hnn]; exact hco.len
  have hrn : inRange (n : Int) := by unfold inRange; omega
  obtain ⟨hd, hhd⟩ : ∃ l, l = enc ch ++ enc (n : Int) := ⟨_, rfl⟩
  have hl1 := enc_len hch
  have hl2 := enc_len hrn
  have hdl : hd.length ≤ 18 := by rw [hhd, List.length_append]; omega
  have hpart := encK_part ch es
  rw [← hnn, ← hhd] at hpart
  have HPT : Hid (∀ k, (hd ++ (es.take k).flatMap fun e => encF e.fn).length ≤ 1000000) := Lib.hid fun k => Nat.le_trans (hpart k) hsz
  obtain ⟨P, hP⟩ : ∃ P : Ending → World → Prop, P = fun e w' => ∃ A c, e = .returned (.slice A (encK ch (es.map Ent.fn)).length c) ∧ w'.ownsRow w.heap.size 5 1 (.slice A (encK ch (es.map Ent.fn)).length c) (encK ch (es.map Ent.fn)).length (bs (encK ch (es.map Ent.fn))) ∧ Below w.heap.size w w' := ⟨_, rfl⟩
  rw [← hP, ← hnn]
  have E1 : Hid (∀ W, Calls Tryd.prog 44 #[.int .i64 ch] W fun e w' => ∃ A c, e = .returned (.slice A (enc ch).length c) ∧ w'.ownsRow W.heap.size 5 1 (.slice A (enc ch).length c) (enc ch).length (bs (enc ch)) ∧ Below W.heap.size W w') := Lib.hid fun W => refInt ch W hch
  have E2 : Hid (∀ W, Calls Tryd.prog 44 #[.int .i64 (n : Int)] W fun e w' => ∃ A c, e = .returned (.slice A (enc (n : Int)).length c) ∧ w'.ownsRow W.heap.size 5 1 (.slice A (enc (n : Int)).length c) (enc (n : Int)).length (bs (enc (n : Int))) ∧ Below W.heap.size W w') := Lib.hid fun W => refInt n W hrn
  obtain ⟨n1, hn1⟩ : ∃ k, k = (enc ch).length := ⟨_, rfl⟩
  obtain ⟨n2, hn2⟩ : ∃ k, k = (enc (n : Int)).length := ⟨_, rfl⟩
  rw [← hn1] at E1 hl1
  rw [← hn2] at E2 hl2
  obtain ⟨c0, c1⟩ : W1.cell? ⟨z, 0, none⟩ = some (.int .i64 ch) ∧ W1.cell? ⟨z, 1, none⟩ = some (.slice Ac n cc) := ⟨k3.cell 0, k3.cell 1⟩
  have HW1 := Lib.hid hW1
  have HZ := Lib.hid hz
  have HB1 := Lib.hid hb1
  have HK3 := Lib.hid k3
  have HNN := Lib.hid hnn
  have HCO := Lib.hid (hco.next hb1)
  have HHD := Lib.hid hhd
  have HP := Lib.hid hP
  have HLL : Hid (hd.length = n1 + n2 ∧ n1 = (enc ch).length ∧ n2 = (enc (n : Int)).length) := Lib.hid ⟨by rw [hhd, List.length_append, hn1, hn2], hn1, hn2⟩
  clear hW1 hz hb1 k3 hnn hco hhd hP hrn hch hn1 hn2 hpart hsz
  go_enter Tryd.func16, Tryd.ntmps16
  go_upto_region 1 with fail
  rw [← HW1.out]
  try rw [← HZ.out]
  have HK : Hid (∀ W, Below W1.heap.size W1 W → W.cell? ⟨z, 0, none⟩ = some (.int .i64 ch) ∧ W.cell? ⟨z, 1, none⟩ = some (.slice Ac n cc)) := Lib.hid fun W hb => ⟨(HK3.out.below hb HK3.out.lt).cell 0, (HK3.out.below hb HK3.out.lt).cell 1⟩
  have HBW := Lib.hid (Below.refl W1.heap.size W1).drew
  have hn12 : n1 + n2 ≤ 100000000 := by omega
  go_cut [3] from 8 to 15 (fun s3 wv => ∃ (V : World) (A : Option Addr) (c : Nat), V = wv ∧ s3 = .slice A (n1 + n2) c ∧ Hid (V.ownsRow W1.heap.size 5 1 (.slice A (n1 + n2) c) (n1 + n2) (bs hd) ∧ Below W1.heap.size W1 V))
  case first =>
    go_region_with (go_at_call 44; first
      | (with_reducible refine (E1.out _).mono ?_; rintro e wa ⟨Aa, ca, rfl, hoa, hba⟩; have HOA := Lib.hid (own_lower hoa HBW.out.size); (try replace HRB := Lib.hid ((HRB.out.below hba).more hba.size)); replace HBW := Lib.hid (bt HBW.out hba); clear hoa c0 c1 hba; obtain ⟨c0, c1⟩ := HK.out _ HBW.out; (try (have h0 := apB_run (cb := cb) HBW.out HOA.out HRB.out hn12; obtain ⟨A3, c3, w3, happ, hO3⟩ := h0)))
      | (with_reducible refine (E2.out _).mono ?_; rintro e wa ⟨Ab, cb, rfl, hob, hba⟩; have HRB := Lib.hid (own_reads hob); (try replace HOA := Lib.hid (ownsRow_below HOA.out hba)); replace HBW := Lib.hid (bt HBW.out hba); clear hob c0 c1 hba; obtain ⟨c0, c1⟩ := HK.out _ HBW.out; (try (have h0 := apB_run (cb := cb) HBW.out HOA.out HRB.out hn12; obtain ⟨A3, c3, w3, happ, hO3⟩ := h0))))
    all_goals
      go_wp2_with fail
      go_meet
      exact ⟨_, A3, c3, rfl, rfl, by rw [HHD.out]; exact hO3⟩
  case rest =>
  obtain ⟨V, A3, c3, hwc, rfl, hO3⟩ := hcut
  subst hwc
  have HO3 := Lib.hid hO3.out
  clear hO3 c0 c1 E1 E2
  go_upto_region 3 with fail
  have hnp0 : n1 + n2 ≤ 18 := by omega
  go_loopw [3, 4] (fun s3 i wr => ∃ (k np : Nat) (A : Option Addr) (c : Nat), k ≤ n ∧ np ≤ 1000000 ∧ i = .int .i64 k ∧ s3 = .slice A np c ∧ Hid (np = (hd ++ (es.take k).flatMap fun e => encF e.fn).length ∧ wr.ownsRow W1.heap.size 5 1 (.slice A np c) np (bs (hd ++ (es.take k).flatMap fun e => encF e.fn)) ∧ Below W1.heap.size W1 wr)) (fun _ i _ => n - (intOf i).toNat)
  case atStart => exact ⟨0, n1 + n2, A3, c3, Nat.zero_le _, by omega, rfl, rfl, by simpa using HLL.out.1.symm, by simpa using HO3.out.1, HO3.out.2⟩
  case round =>
    obtain ⟨k, np, A, c, hkn, hnp, rfl, rfl, HI⟩ := hrel
    have c1 : wr.cell? ⟨z, 1, none⟩ = some (.slice Ac n cc) := (HK.out _ HI.out.2.2).2
    by_cases hlt : k < n
    · have hlt2 : (k : Int) < n := by omega
      have hkb : (0 : Int) ≤ (k : Int) ∧ (k : Int) < (n : Int) := ⟨by omega, hlt2⟩
      obtain ⟨en, hen⟩ : ∃ en, es[k]? = some en := ⟨_, List.getElem?_eq_getElem (by rw [← HNN.out]; exact hlt)⟩
      obtain ⟨aA, oA, hAc, hA1, hA2⟩ := HCO.out.rd.lit (by rw [← HNN.out]; omega)
      subst hAc
      obtain ⟨nb, hnb⟩ : ∃ z, z = en.body.length := ⟨_, rfl⟩
      have HEN : Hid (∀ W, Below W1.heap.size W1 W → W.cell? ⟨z, 1, none⟩ = some (.slice (some ⟨aA, oA, none⟩) n cc) ∧ W.cell? ⟨aA, oA + k * 4, none⟩ = some (.int .i64 en.p) ∧ W.cell? ⟨aA, oA + k * 4 + 1, none⟩ = some (.int .i64 en.w) ∧ W.cell? ⟨aA, oA + k * 4 + 2, none⟩ = some (.slice en.A nb en.c)) := Lib.hid fun W hb => by
        have hee : ∀ j v, (entC en)[j]? = some v → W.cell? ⟨aA, oA + k * 4 + j, none⟩ = some v := fun j v hv => by
          have h1 := hA2 _ _ (entsC_get es k en hen j v hv)
          rw [← Nat.add_assoc] at h1
          exact (hb.cell (p := ⟨aA, oA + k * 4 + j, none⟩) hA1).trans h1
        exact ⟨(HK.out _ hb).2, hee 0 _ rfl, hee 1 _ rfl, by rw [hnb]; exact hee 2 _ rfl⟩
      have HBO := Lib.hid (HCO.out.all en (List.mem_of_getElem? hen))
      have hnl2 : nb ≤ 200000 := by rw [hnb]; exact HBO.out.len
      have HNB := Lib.hid hnb
      have HTK : Hid ((es.take (k + 1)).flatMap (fun e => encF e.fn) = (es.take k).flatMap (fun e => encF e.fn) ++ encF en.fn) := Lib.hid (by rw [List.take_add_one, hen]; simp)
      obtain ⟨q1, hq1⟩ : ∃ z, z = (encL enc [en.p, en.w]).length := ⟨_, rfl⟩
      obtain ⟨q2, hq2⟩ : ∃ z, z = (encL enc (flatI en.body)).length := ⟨_, rfl⟩
      have HFI2 : Hid (np + q1 + q2 = (hd ++ (es.take (k + 1)).flatMap fun e => encF e.fn).length ∧ bs (hd ++ (es.take k).flatMap fun e => encF e.fn) ++ bs (encL enc [en.p, en.w]) ++ bs (encL enc (flatI en.body)) = bs (hd ++ (es.take (k + 1)).flatMap fun e => encF e.fn)) := Lib.hid (by
        have h1 : hd ++ (es.take (k + 1)).flatMap (fun e => encF e.fn) = (hd ++ (es.take k).flatMap (fun e => encF e.fn)) ++ encL enc [en.p, en.w] ++ encL enc (flatI en.body) := by
          rw [HTK.out]
          show _ = _
          rw [show encF en.fn = encL enc [en.p, en.w] ++ encL enc (flatI en.body) from rfl]
          simp only [List.append_assoc]
        rw [h1]
        refine ⟨?_, by simp only [bs_append, List.append_assoc]⟩
        rw [List.length_append, List.length_append, ← HI.out.1, ← hq1, ← hq2])
      have hsum : np + q1 + q2 ≤ 1000000 := by rw [HFI2.out.1]; exact HPT.out _
      have HI1 : Hid (∀ (W : World) (b : Nat), Reads W W.heap.size 1 (some ⟨b, 0, none⟩) 2 (vi [en.p, en.w]) → Calls Tryd.prog 45 #[.slice (some ⟨b, 0, none⟩) 2 2] W fun e w' => ∃ A c, e = .returned (.slice A q1 c) ∧ w'.ownsRow W.heap.size 5 1 (.slice A q1 c) q1 (bs (encL enc [en.p, en.w])) ∧ Below W.heap.size W w') := Lib.hid fun W b hrd => by
        have h := refInts (some ⟨b, 0, none⟩) [en.p, en.w] 2 W hrd (fun x hx => by
          simp only [List.mem_cons, List.not_mem_nil, or_false] at hx
          rcases hx with rfl | rfl
          · exact HBO.out.rp
          · exact HBO.out.rw_) (by rw [← hq1]; omega) (by simp)
        rw [← hq1] at h
        exact h
      have HQ2 := Lib.hid hq2
      clear hA1 hA2 hen hnb hq1 hq2 c1
      obtain ⟨c1, f0, f1, f2⟩ := HEN.out _ HI.out.2.2
      go_upto_region 5 with fail
      have HBL : Hid (Below wr.heap.size wr (wr.alloc (.cells #[.int .i64 en.p, .int .i64 en.w] 3)).drew) := Lib.hid (b_drew2 _ _)
      have HRL : Hid (Reads (wr.alloc (.cells #[.int .i64 en.p, .int .i64 en.w] 3)).drew (wr.alloc (.cells #[.int .i64 en.p, .int .i64 en.w] 3)).drew.heap.size 1 (some ⟨wr.heap.size, 0, none⟩) 2 (vi [en.p, en.w])) := Lib.hid (show Reads (wr.alloc (.cells #[.int .i64 en.p, .int .i64 en.w] 3)) (wr.alloc (.cells #[.int .i64 en.p, .int .i64 en.w] 3)).heap.size 1 (some ⟨wr.heap.size, 0, none⟩) 2 (vi [en.p, en.w]) from own_reads (own_lit (w := wr) (base := wr.heap.size) (e := 3) (size := 1) (xs := vi [en.p, en.w]) (n := 2) (Nat.le_refl _) rfl (len_le (by omega))))
      go_cut [3] from 23 to 38 (fun s3 wv => ∃ (V : World) (A : Option Addr) (c : Nat), V = wv ∧ s3 = .slice A (np + q1) c ∧ Hid (V.ownsRow W1.heap.size 5 1 (.slice A (np + q1) c) (np + q1) (bs ((hd ++ (es.take k).flatMap fun e => encF e.fn) ++ encL enc [en.p, en.w])) ∧ Below W1.heap.size W1 V))
      case first =>
        go_region_with (go_at_call 45; with_reducible refine (HI1.out _ _ HRL.out).mono ?_; rintro e w5 ⟨A8, c8, rfl, ho8, hb8⟩; obtain ⟨A9, c9, w9, happ, hO9⟩ := apB_run (cb := c8) (bt HI.out.2.2 (bt HBL.out hb8)) (ownsRow_below HI.out.2.1 (bt HBL.out hb8)) (own_reads ho8) (by omega))
        all_goals
          go_wp2_with fail
          go_meet
          exact ⟨_, A9, c9, rfl, rfl, hO9.1, hO9.2⟩
      case rest =>
      obtain ⟨V2, A9, c9, hwc, rfl, hO9⟩ := hcut
      subst hwc
      have HO9 := Lib.hid hO9.out
      clear hO9 c1 f0 f1 f2 HI1
      go_upto_region 8 with fail
      go_loopw [5, 6] (fun s6 i wr => ∃ (j n6 : Nat) (A6 : Option Addr) (c6 : Nat), j ≤ nb ∧ n6 ≤ 600000 ∧ i = .int .i64 j ∧ s6 = .slice A6 n6 c6 ∧ Hid (n6 = 3 * j ∧ wr.ownsRow V2.heap.size 3 1 (.slice A6 n6 c6) n6 (vi (flatI (en.body.take j))) ∧ Below V2.heap.size V2 wr)) (fun _ i _ => nb - (intOf i).toNat)
      case atStart => exact ⟨0, 0, none, 0, Nat.zero_le _, by omega, rfl, rfl, rfl, World.ownsRow_nil _ _ _ _, Below.refl _ _⟩
      case round =>
        obtain ⟨j, n6, A6, c6, hjn, hn6, rfl, rfl, HJ⟩ := hrel
        obtain ⟨c1, _, _, f2⟩ := HEN.out _ (bt HO9.out.2 HJ.out.2.2)
        by_cases hjl : j < nb
        · have hjl2 : (j : Int) < nb := by omega
          have hjb : (0 : Int) ≤ (j : Int) ∧ (j : Int) < (nb : Int) := ⟨by omega, hjl2⟩
          obtain ⟨x, hx⟩ : ∃ x, en.body[j]? = some x := ⟨_, List.getElem?_eq_getElem (by rw [← HNB.out]; exact hjl)⟩
          obtain ⟨aB, oB, hAB, hB1, hB2⟩ := HBO.out.rd.lit (by rw [← HNB.out]; omega)
          have hB3 : Below W1.heap.size W1 wr := bt HO9.out.2 HJ.out.2.2
          have ee : ∀ i v, (insC x)[i]? = some v → wr.cell? ⟨aB, oB + j * 3 + i, none⟩ = some v := fun i v hv => by
            have h1 := hB2 _ _ (insCs_get en.body j x hx i v hv)
            rw [← Nat.add_assoc] at h1
            exact (hB3.cell (p := ⟨aB, oB + j * 3 + i, none⟩) hB1).trans h1
          obtain ⟨x0, x1, x2⟩ : wr.cell? ⟨aB, oB + j * 3, none⟩ = some (.int .i64 x.op) ∧ wr.cell? ⟨aB, oB + j * 3 + 1, none⟩ = some (.int .i64 x.a) ∧ wr.cell? ⟨aB, oB + j * 3 + 2, none⟩ = some (.int .i64 x.b) := ⟨ee 0 _ rfl, ee 1 _ rfl, ee 2 _ rfl⟩
          have HTJ : Hid (flatI (en.body.take (j + 1)) = flatI (en.body.take j) ++ [x.op, x.a, x.b]) := Lib.hid (by rw [List.take_add_one, hx, flatI_append]; simp [flatI])
          have hAB2 : en.A = some ⟨aB, oB, none⟩ := hAB
          rw [hAB2] at f2
          clear ee hx hB1 hB2 hB3 hAB hAB2
          go_upto_region 11 with fail
          obtain ⟨W4, hW4⟩ : ∃ W, W = wr.alloc (.cells #[.int .i64 x.op, .int .i64 x.a, .int .i64 x.b] 54) := ⟨_, rfl⟩
          obtain ⟨g8, hg8⟩ : ∃ z, z = wr.heap.size := ⟨_, rfl⟩
          have k8 : Blk W4 g8 54 #[.int .i64 x.op, .int .i64 x.a, .int .i64 x.b] := by rw [hW4, hg8]; exact Blk.new _ _ _
          have hb4 : Below wr.heap.size wr W4 := by rw [hW4]; exact below_new _ _
          rw [← hW4, ← hg8]
          obtain ⟨y0, y1, y2⟩ : W4.cell? ⟨g8, 0, none⟩ = some (.int .i64 x.op) ∧ W4.cell? ⟨g8, 1, none⟩ = some (.int .i64 x.a) ∧ W4.cell? ⟨g8, 2, none⟩ = some (.int .i64 x.b) := ⟨k8.cell 0, k8.cell 1, k8.cell 2⟩
          have HB4 := Lib.hid (bt HJ.out.2.2 hb4)
          have HO4 := Lib.hid (ownsRow_below HJ.out.2.1 hb4)
          clear hW4 hg8 k8 hb4 x0 x1 x2 c1 f2
          go_wp2_with (at_builtin; go_loud (refine wpList_append_any _ rfl (.tmp 59) (.tmp 66) 22 rfl V2.heap.size 3 j0 _ 1 8 Tryd.underlying22 hj hy0 hy1 hy2 rfl (by omega) (.slice A6 n6 c6) n6 _ rfl (HO4.out.alloc _) _ (some ⟨W4.heap.size, 0, none⟩) 3 3 (vi [x.op, x.a, x.b]) rfl (own_reads (own_lit (w := W4) (base := W4.heap.size) (e := 3) (size := 1) (xs := vi [x.op, x.a, x.b]) (n := 3) (Nat.le_refl _) rfl (len_le (by omega)))) (vi_one _) (len_le (by omega)) (by omega) (by have := HB4.out.size; rw [size_alloc]; omega) ?_; intro v4 w4 hown4 hgrow4 _; obtain ⟨A7, c7, rfl, _⟩ := own_len hown4; have HN4 : Hid (w4.ownsRow V2.heap.size 3 1 (.slice A7 (n6 + 3) c7) (n6 + 3) (vi (flatI (en.body.take (j + 1)))) ∧ Below V2.heap.size V2 w4) := Lib.hid ⟨by rw [HTJ.out, vi_append]; exact hown4, below_row HB4.out hgrow4 fun b e => (HO4.out.lt b e).1⟩; clear hown4 hgrow4))
          go_roundw
          case rel => exact ⟨j + 1, n6 + 3, A7, c7, by omega, by have := HJ.out.1; omega, by go_num, rfl, by have := HJ.out.1; omega, HN4.out.1, HN4.out.2⟩
          case measure => simp [intOf]; omega
        · have hje : j = nb := by omega
          subst hje
          have hE2 := HBO.out
          have HFI := Lib.hid (flatI_ok hE2)
          have hfl : (flatI en.body).length = n6 := by rw [flatI_length, HJ.out.1, HNB.out]
          have hrow : wr.ownsRow V2.heap.size 3 1 (.slice A6 n6 c6) n6 (vi (flatI en.body)) := by
            have h := HJ.out.2.1
            rw [HNB.out, List.take_length] at h
            exact h
          have HI2 : Hid (Calls Tryd.prog 45 #[.slice A6 n6 c6] wr fun e w' => ∃ A c, e = .returned (.slice A q2 c) ∧ w'.ownsRow wr.heap.size 5 1 (.slice A q2 c) q2 (bs (encL enc (flatI en.body))) ∧ Below wr.heap.size wr w') := Lib.hid (by
            have h := refInts A6 (flatI en.body) c6 wr (by rw [hfl]; exact own_reads hrow) HFI.out (by rw [← HQ2.out]; omega) (by rw [hfl]; omega)
            rw [hfl, ← HQ2.out] at h
            exact h)
          have HOW := Lib.hid (ownsRow_below HO9.out.1 HJ.out.2.2)
          have HBR := Lib.hid (bt HO9.out.2 HJ.out.2.2)
          clear hfl hrow hE2
          go_wp2_with (go_at_call 45; refine HI2.out.mono ?_; rintro e w7 ⟨A2, c2, rfl, ho7, hb7⟩; obtain ⟨Az, cz, wz, happ, hOZ, hBZ⟩ := apB_run (cb := c2) (bt HBR.out hb7) (ownsRow_below HOW.out hb7) (own_reads ho7) (by omega); have HOZ := Lib.hid hOZ; have HBZ := Lib.hid hBZ; clear hOZ hBZ ho7 hb7)
          go_roundw
          case rel => exact ⟨k + 1, np + q1 + q2, Az, cz, by omega, hsum, by go_num, rfl, HFI2.out.1, by rw [← HFI2.out.2]; have h := HOZ.out; rw [bs_append, bs_append] at h; exact h, HBZ.out⟩
          case measure => simp [intOf]; omega
    · have hke : k = n := by omega
      subst hke
      go_wp2_with fail
      rw [HP.out]
      have h := HI.out
      have hE : hd ++ (es.take k).flatMap (fun e => encF e.fn) = encK ch (es.map Ent.fn) := by
        rw [HHD.out, HNN.out, List.take_length, encK, List.length_map, List.flatMap_map]
      rw [hE] at h
      obtain ⟨h1, h2, h3⟩ := h
      subst h1
      exact ⟨A, c, rfl, own_lower h2 HB1.out.size, bt HB1.out h3⟩
end
end Go.Proofs.YtbdknncmlcbbpaaDoor
