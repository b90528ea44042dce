/-
  scoriaref03.Digits.
-/
import Derived.Test.YtaoegpmjogladaaDoorG21
set_option linter.unusedVariables false
namespace Go.Proofs.YtaoegpmjogladaaDoor
open Go.RowKit WM
theorem Tryd.info3 : (Tryd.prog.info? 3).map (fun i => (i.zero, i.size, i.bytes)) = some (some (.int .i64 0), 1, 8) := by kernel_rfl

theorem ns_append (a b : List Nat) : ns (a ++ b) = ns a ++ ns b := by simp [ns]
theorem ns_next {w : World} {B : Nat} {v : Value} {p q r : List Nat} (h : w.ownsRow B 3 1 v (p.length + q.length) (ns p ++ ns q)) (e : r = p ++ q) : w.ownsRow B 3 1 v r.length (ns r) := by
  rw [← ns_append, ← List.length_append] at h
  subst e; exact h
theorem chk_append (a b : List Nat) : chk (a ++ b) = chk a + chk b := by simp [chk]
theorem own4_succ (d : List UInt8) (k : Nat) (h : k < d.length) : own4 (d.take (k + 1)) = own4 (d.take k) ++ dig4 d[k] := by
  unfold own4
  rw [List.take_succ_eq_append_getElem h, List.flatMap_append]; simp
theorem take_succ_nat (l : List Nat) (j x : Nat) (h : l[j]? = some x) : l.take (j + 1) = l.take j ++ [x] := by
  have hj := (List.getElem?_eq_some_iff.1 h)
  rw [List.take_succ_eq_append_getElem hj.1, hj.2]

def RDigAt (w : World) (gl : Nat) (d : List UInt8) (l q : List Nat) (v : Value) (wq : World) : Prop :=
  Blk wq gl 3 (ns l).toArray ∧ wq.ownsRow w.heap.size 3 1 v q.length (ns q) ∧ Blk wq w.heap.size 29 (bs d).toArray ∧ Below w.heap.size w wq ∧ v.ownBlock ≠ some gl
theorem rdig_step {w wr w2 : World} {gl x : Nat} {d : List UInt8} {l q r : List Nat} {v v2 : Value} (h : RDigAt w gl d l q v wr) (hr : r = q ++ [x])
    (hown : w2.ownsRow w.heap.size 3 1 v2 (q.length + 1) (ns q ++ [.int .i64 (x : Int)])) (hg : (wr.alloc (.cells #[.int .i64 (x : Int)] 3)).grownBy w2 v.ownBlock)
    (hat : v2.ownBlock = v.ownBlock ∨ v2.ownBlock = some (wr.alloc (.cells #[.int .i64 (x : Int)] 3)).heap.size) : RDigAt w gl d l r v2 w2 := by
  obtain ⟨h1, h2, h3, h4, h5⟩ := h
  have hs := h4.size
  refine ⟨(h1.alloc _).grown hg (fun e => h5 e.symm), ns_next (q := [x]) hown hr, (h3.alloc _).grown hg (fun e => own_blk_ne h2 h3 (by decide) e.symm), (ba h4 _).grown hg (by simp; omega) (fun k hk => (h2.lt k hk).1), ?_⟩
  rcases hat with h | h
  · rw [h]; exact h5
  · rw [h]
    have := h1.lt
    intro e
    simp at e
    omega

set_option maxRecDepth 100000 in
set_option maxHeartbeats 4000000 in
theorem refDigits (d : List UInt8) (hd : d.length = 16) (w : World) :
    Calls Tryd.prog 17 #[.agg (bs d).toArray] w fun e w' => ∃ v, e = .returned v ∧ w'.ownsRow w.heap.size 3 1 v 68 (ns (digitsB d)) ∧ Below w.heap.size w w' := by
  obtain ⟨i0, hi, hz0, hz1, hz2⟩ := info_parts Tryd.info3
  have HD := Lib.hid hd
  go_enter Tryd.func17, Tryd.ntmps17
  go_wp2
  go_loopw [3, 4, 5] (fun v s i wr => ∃ k : Nat, k ≤ 16 ∧ i = .int .i64 k ∧ s = .int .i64 (chk (own4 (d.take k)) : Nat) ∧ Hid (wr.ownsRow w.heap.size 3 1 v (own4 (d.take k)).length (ns (own4 (d.take k))) ∧ Blk wr w.heap.size 29 (bs d).toArray ∧ Below w.heap.size w wr)) (fun _ _ i _ => 16 - (intOf i).toNat)
  case atStart => exact ⟨0, by omega, rfl, rfl, World.ownsRow_nil _ _ _ _, Blk.new w 29 _, below_new _ _⟩
  case round =>
    obtain ⟨k, hk, rfl, rfl, hh⟩ := hrel
    by_cases hlt : k < 16
    · obtain ⟨b, hb⟩ : ∃ b, b = d[k]'(by omega) := ⟨_, rfl⟩
      obtain ⟨o, ho⟩ : ∃ o, o = own4 (d.take k) := ⟨_, rfl⟩
      have hc : wr.cell? ⟨w.heap.size, k, none⟩ = some (.int .u8 (b.toNat : Int)) := (Blk.cell hh.out.2.1 k).trans (by rw [hb]; simpa using bs_get d k (by omega))
      have hs := own4_succ d k (by omega)
      rw [← ho, ← hb] at hs
      rw [← ho] at hh ⊢
      have HS := Lib.hid hs
      have HO := Lib.hid ho
      have HH := Lib.hid hh.out
      have hb8 := b.toNat_lt
      clear hh hs hb ho
      go_wp2
      obtain ⟨gl, hgl⟩ : ∃ g, g = wr.heap.size := ⟨_, rfl⟩
      generalize hw1 : World.alloc wr _ = w1
      have hsz := HH.out.2.2.size
      have HL1 : Hid (RDigAt w gl d (dig4 b) o u3 w1) := by
        rw [← hw1, hgl]
        refine ⟨?_, HH.out.1.alloc _, HH.out.2.1.alloc _, ba HH.out.2.2 _, fun e => absurd (HH.out.1.lt _ e).2 (by omega)⟩
        have e : (ns (dig4 b)).toArray = #[Value.int .i64 ((b.toNat : Int) / 64), .int .i64 ((b.toNat : Int) / 16 % 4), .int .i64 ((b.toNat : Int) / 4 % 4), .int .i64 ((b.toNat : Int) % 4)] := by simp [ns, dig4]
        rw [e]
        exact Blk.new wr 3 _
      rw [← hgl]
      have hgw : w.heap.size ≤ gl := by omega
      have HOL := Lib.hid (show o.length ≤ 64 by rw [HO.out, own4_length, List.length_take]; omega)
      have HOC := Lib.hid (show chk o ≤ 192 by have := chk_le o; have := HOL.out; omega)
      clear hw1 hgl hc HH hsz
      rw [show decide ((k : Int) < 16) = true from decide_eq_true (by omega)]
      go_loopw [3, 4, 8] (fun v s i wq => ∃ j : Nat, j ≤ 4 ∧ i = .int .i64 j ∧ s = .int .i64 (chk (o ++ (dig4 b).take j) : Nat) ∧ Hid (RDigAt w gl d (dig4 b) (o ++ (dig4 b).take j) v wq)) (fun _ _ i _ => 4 - (intOf i).toNat)
      case atStart => exact ⟨0, by omega, rfl, by simp, by rw [List.take_zero, List.append_nil]; exact HL1.out⟩
      case round =>
        clear HL1
        obtain ⟨j, hj, rfl, rfl, hq⟩ := hrel
        have hsz := hq.out.2.2.2.1.size
        by_cases hjt : j < 4
        · obtain ⟨x, hx⟩ : ∃ x, (dig4 b)[j]? = some x := ⟨_, List.getElem?_eq_getElem (by rw [dig4_length]; exact hjt)⟩
          have hx3 : x ≤ 3 := dig4_le b x (List.mem_of_getElem? hx)
          obtain ⟨q, hqe⟩ : ∃ q, q = o ++ (dig4 b).take j := ⟨_, rfl⟩
          have hqn : o ++ (dig4 b).take (j + 1) = q ++ [x] := by rw [take_succ_nat _ j x hx, hqe, List.append_assoc]
          have hql : q.length ≤ 68 := by rw [hqe, List.length_append, List.length_take, dig4_length]; have := HOL.out; omega
          have hqc : chk q ≤ 204 := by have := chk_le q; omega
          rw [← hqe] at hq
          rw [← hqe]
          have HQ := Lib.hid hq.out
          have HQN := Lib.hid hqn
          have hc : wr.cell? ⟨gl, j, none⟩ = some (.int .i64 (x : Int)) := (Blk.cell HQ.out.1 j).trans (by simpa using ns_get' hx)
          have HX := Lib.hid (ns_get' hx)
          clear hqe hqn hq hx
          go_wp2_with (first
            | (at_builtin; refine wpList_append_any _ rfl (.tmp 32) (.tmp 37) 34 rfl w.heap.size 3 i0 (.int .i64 0) 1 8 Tryd.underlying34 hi hz0 hz1 hz2 rfl (by decide) _ _ _ rfl (HQ.out.2.1.alloc _) (wr.heap.size + 1) (some ⟨wr.heap.size, 0, none⟩) 1 1 [.int .i64 (x : Int)] rfl ⟨rfl, fun _ => ⟨_, rfl, by simp, one_new _ _ _⟩⟩ (int_one _ _) (len_le (by omega)) (by omega) (by simp; omega) ?_; intro v2 w2 hown2 hgrow2 hat2
               have HG2 := Lib.hid (rdig_step HQ.out HQN.out hown2 hgrow2 hat2)
               have hc2 : w2.cell? ⟨gl, j, none⟩ = some (.int .i64 (x : Int)) := (Blk.cell HG2.out.1 j).trans (by simpa using HX.out)
               clear hown2 hgrow2 hat2))
          go_roundw
          case rel => exact ⟨j + 1, by omega, by go_num, by rw [HQN.out, chk_append]; simp [chk]; omega, HG2.out⟩
          case measure => simp [intOf]; omega
        · have hje : j = 4 := by omega
          have hq1 := hq.out
          rw [hje, show (dig4 b).take 4 = dig4 b from rfl, ← HS.out] at hq1
          have HQ := Lib.hid hq1
          have hchk : chk (o ++ (dig4 b).take j) = chk (own4 (d.take (k + 1))) := by rw [hje, show (dig4 b).take 4 = dig4 b from rfl, HS.out]
          rw [hchk]
          have hge : 4 ≤ j := by omega
          clear hq1 hq hje hjt hj hchk
          go_wp2
          go_roundw
          case rel => exact ⟨k + 1, by omega, by go_num, rfl, HQ.out.2.1, HQ.out.2.2.1, HQ.out.2.2.2.1⟩
          case measure => simp [intOf]; omega
    · have hke : k = 16 := by omega
      have htk : d.take k = d := List.take_of_length_le (by rw [HD.out]; omega)
      rw [htk] at hh ⊢
      obtain ⟨o, ho⟩ : ∃ o, o = own4 d := ⟨_, rfl⟩
      have hol : o.length = 64 := by rw [ho, own4_length, HD.out]
      have hdg : digitsB d = o ++ low4 (chk o) := by rw [ho]; rfl
      have hoc : chk o ≤ 192 := by have := chk_le o; omega
      rw [← ho] at hh ⊢
      rw [hol] at hh
      have HH := Lib.hid hh.out
      have HDG := Lib.hid hdg
      have hsz := HH.out.2.2.size
      obtain ⟨q, hq⟩ : ∃ q, q = chk o := ⟨_, rfl⟩
      rw [← hq] at hoc ⊢
      have HQ := Lib.hid hq
      have hge : 16 ≤ k := by omega
      clear hh hke htk hk hlt ho hol hdg hq
      go_wp2_with (first
        | (at_builtin; refine wpList_append_any _ rfl (.tmp 46) (.tmp 57) 34 rfl w.heap.size 3 i0 (.int .i64 0) 1 8 Tryd.underlying34 hi hz0 hz1 hz2 rfl (by decide) _ _ _ rfl (HH.out.1.alloc _) (wr.heap.size + 1) (some ⟨wr.heap.size, 0, none⟩) 4 4 _ rfl ⟨rfl, fun _ => ⟨_, rfl, by simp, cells_new wr [.int .i64 ((q : Int) / 64), .int .i64 ((q : Int) / 16 % 4), .int .i64 ((q : Int) / 4 % 4), .int .i64 ((q : Int) % 4)] _⟩⟩ (fun u hu => by simp at hu; rcases hu with rfl | rfl | rfl | rfl <;> rfl) (len_le (by decide)) (by decide) (by simp; omega) ?_; intro v2 w2 hown2 hgrow2 _
           have HO2 := Lib.hid hown2
           have HB2 := Lib.hid ((ba HH.out.2.2 _).grown hgrow2 (by simp; omega) (fun k hk => (HH.out.1.lt k hk).1))
           clear hown2 hgrow2))
      go_ret
      refine ⟨_, rfl, ?_, HB2.out⟩
      have h1 := HO2.out
      have e : ns (digitsB d) = ns o ++ [.int .i64 ((q : Int) / 64), .int .i64 ((q : Int) / 16 % 4), .int .i64 ((q : Int) / 4 % 4), .int .i64 ((q : Int) % 4)] := by
        rw [HDG.out, ns_append, ← HQ.out]
        have e2 : q / 64 % 4 = q / 64 := by omega
        simp [ns, low4]
        omega
      rw [e]
      exact h1
end Go.Proofs.YtaoegpmjogladaaDoor

/-
  THE WALK of SignDigitsMatchSpec.
-/
namespace Go.Proofs.YtaoegpmjogladaaDoor
open Go.RowKit WM
attribute [local go_sem ↓] shut16

theorem refDigits_is (d : List UInt8) (x : List Nat) (hd : d.length = 16) (hx : digitsB d = x) (w : World) :
    Calls Tryd.prog 17 #[.agg (bs d).toArray] w fun e w' => ∃ g c, e = .returned (.slice (some ⟨g, 0, none⟩) 68 c) ∧ Reads w' w'.heap.size 1 (some ⟨g, 0, none⟩) 68 (ns x) ∧ 68 ≤ c ∧ Below w.heap.size w w' := by
  subst hx
  refine (refDigits d hd w).mono ?_
  rintro e w' ⟨v, rfl, hown, hb⟩
  obtain ⟨g, c, hv, _, hc⟩ := hown.form (by omega)
  subst hv
  obtain ⟨_, c', h, hc⟩ := own_form hown
  injection h with _ _ h
  exact ⟨g, c, rfl, Reads.of_own hown, by omega, hb⟩

set_option maxRecDepth 100000 in
set_option maxHeartbeats 8000000 in
theorem walkMatch (a : List UInt8) (w : World) (ha : a.length = 16) (hk : KT 0 w) :
    Calls Tryd.prog 4 #[.agg (bs a).toArray] w fun e w' => e = .returned (.bool true) ∧ Below w.heap.size w w' := by
  have HSA := Lib.hid (size16 ha)
  have HA := Lib.hid ha
  have HK := Lib.hid hk
  obtain ⟨x, hx⟩ : ∃ x, x = digitsB a := ⟨_, rfl⟩
  have HX := Lib.hid hx
  have hxl : x.length = 68 := by rw [hx]; exact digitsB_length ha
  have hx3 : ∀ i, x.getD i 0 ≤ 3 := fun i => by rw [hx]; exact digitsB_getD a i
  have HX3 := Lib.hid hx3
  clear hk hx ha hx3
  obtain ⟨w0, hw0⟩ : ∃ W, W = w.alloc (.cells (bs a).toArray 29) := ⟨_, rfl⟩
  have HB0 : Hid (Below w.heap.size w w0) := by rw [hw0]; exact below_new _ _
  have HPA : Hid (Blk w0 w.heap.size 29 (bs a).toArray) := by rw [hw0]; exact Blk.new w _ _
  go_enter Tryd.func4, Tryd.ntmps4
  go_wp2_with (first
    | (go_at_call 15; rw [← hw0]; clear hw0; refine (sanity3 _ (HK.out.below HB0.out)).mono ?_; rintro e w1 ⟨rfl, hb1⟩; have HB1 := Lib.hid (bt HB0.out hb1); have HPA1 := Lib.hid (blk_past hb1 HPA.out); clear hb1 HB0 HPA)
    | (refine wpList_load_row rfl 29 (.tmp 1) rfl w.heap.size rfl 29 (bs a).toArray (0, 0) _ HPA1.out Tryd.underlying29 rfl HSA.out ?_)
    | (go_at_call 16; ((with_reducible refine (signDigits_is a x HA.out HX.out.symm _).mono ?_); rintro e w2 ⟨gx, rfl, hgx, hbx, hb2⟩); have HB2 := Lib.hid (bt HB1.out hb2); have HPA2 := Lib.hid (blk_past hb2 HPA1.out); have HBX := Lib.hid hbx; clear hb2 hbx hgx)
    | (refine wpList_load_row rfl 29 (.tmp 1) rfl w.heap.size rfl 29 (bs a).toArray (0, 0) _ HPA2.out Tryd.underlying29 rfl HSA.out ?_)
    | (go_at_call 17; ((with_reducible refine (refDigits_is a x HA.out HX.out.symm _).mono ?_); rintro e w3 ⟨gy, cy, rfl, hry, hcy, hb3⟩); have HB3 := Lib.hid (bt HB2.out hb3); have HBX3 := Lib.hid (blk_past hb3 HBX.out); have HRY := Lib.hid hry; clear hb3 hry))
  clear HPA1 HPA2 HBX HB1 HB2 HX
  go_loopw [6] (fun i' wr => ∃ (k : Nat), k ≤ 68 ∧ i' = .int .i64 k ∧ Hid (Below w3.heap.size w3 wr)) (fun i' _ => 68 - (intOf i').toNat)
  case atStart => exact ⟨0, by omega, rfl, Below.refl _ _⟩
  case round =>
    obtain ⟨k, hk, rfl, hh⟩ := hrel
    by_cases hlt : k < 68
    · have cx : wr.cell? ⟨gx, k, none⟩ = some (.int .i64 (x.getD k 0 : Int)) := (Blk.cell (blk_past hh.out HBX3.out) k).trans (by simpa using ns_getD x k (by omega))
      have cy' : wr.cell? ⟨gy, k, none⟩ = some (.int .i64 (x.getD k 0 : Int)) := by
        obtain ⟨ad, he, _, hc⟩ := (HRY.out.below hh.out).2 (by omega)
        injection he with he
        subst he
        have := hc k _ (ns_getD x k (by omega))
        rwa [Addr.add_lit, Nat.zero_add] at this
      have h3 := HX3.out k
      obtain ⟨u, hu⟩ : ∃ u, u = x.getD k 0 := ⟨_, rfl⟩
      rw [← hu] at cx cy' h3
      have hne : ((u : Int) != (u : Int)) = false := by simp
      have hl0 : decide ((u : Int) < 0) = false := decide_eq_false (by omega)
      have hg3 : decide ((3 : Int) < (u : Int)) = false := decide_eq_false (by omega)
      clear hu
      go_wp2
      go_quiet (fail)
      go_wp2
      go_roundw
      case rel => exact ⟨k + 1, by omega, by go_num, below_drewN hh.out _⟩
      case measure => simp [intOf]; omega
    · have hge : 68 ≤ k := by omega
      clear hlt hk
      go_wp2
      go_ret
      exact ⟨rfl, bt HB3.out hh.out⟩
end Go.Proofs.YtaoegpmjogladaaDoor
