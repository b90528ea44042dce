/-
  THE WALK of WireConcat, the sanity check by its contract.
-/
import Derived.Test.YtlemelfepalnfaaWRound
namespace Go.Proofs.Ytlemelfepalnfaa
open Go.RowKit WM

theorem flat9 (l : List Int) (hr : ∀ x ∈ l, inRange x) : (l.flatMap enc).length ≤ 9 * l.length := by
  induction l with
  | nil => simp
  | cons x l ih =>
    have h1 := ih (fun y hy => hr y (by simp [hy]))
    have h2 := (enc_len (hr x (by simp))).2
    rw [List.flatMap_cons, List.length_append, List.length_cons]
    omega
theorem encB_len (s : ByteArray) (hs : s.size ≤ 140737488355328) : (encB s.data.toList).length ≤ 9 + s.size := by
  unfold encB
  rw [List.length_append]
  have := (enc_len (n := (s.data.toList.length : Int)) (by constructor <;> simp <;> omega)).2
  simp at this ⊢
  omega
theorem encInts_len (l : List Int) (hr : ∀ x ∈ l, inRange x) (hl : l.length ≤ 140737488355328) : (encL enc l).length ≤ 9 + 9 * l.length := by
  unfold encL
  rw [List.length_append]
  have h1 := (enc_len (n := (l.length : Int)) ⟨by omega, by omega⟩).2
  have h2 := flat9 l hr
  omega
theorem str_back (s : ByteArray) : (⟨s.data.toList.toArray⟩ : ByteArray) = s := by cases s; simp
theorem gInts_enc (l : List Int) (hr : ∀ x ∈ l, inRange x) (hl : l.length ≤ 140737488355328) (t : List UInt8) : gElems 1 gInt (encL enc l ++ t) = .ok l (encL enc l).length :=
  gElems_enc (by omega) (by omega) (fun x hx => (enc_len (hr x hx)).1) (fun x hx t => gInt_enc (hr x hx) t) t

theorem getInts_is {A : Option Addr} {n c : Nat} {w : World} (L : List UInt8) {xs : List Int} {u : Nat} (ha : Reads w w.heap.size 1 A n (bs L)) (hn : L.length = n) (hc : n ≤ c) (hl : n ≤ 1000000) (hg : gElems 1 gInt L = .ok xs u) :
    Calls Try.prog 28 #[.slice A n c] w fun e w' => ∃ A c, e = .returned (.tuple #[.slice A xs.length c, .int .i64 (u : Int), .int .i64 0]) ∧ Reads w' w'.heap.size 1 A xs.length (is xs) ∧ Below w.heap.size w w' := by
  subst hn
  exact getInts_ok A c L w ha hc (by omega) xs u hg

set_option maxRecDepth 100000 in
set_option maxHeartbeats 1600000 in
theorem walkConcat (hsan : Sane) (s : ByteArray) (A : Option Addr) (cap : Nat) (l : List Int) (w : World) (ha : Reads w w.heap.size 1 A l.length (is l)) (hr : ∀ x ∈ l, inRange x) (hs : s.size ≤ 140737488355328) (hm : l.length ≤ 140737488355328) :
    Calls Try.prog 10 #[.string s, .slice A l.length cap] w fun e w' => e = .returned (.bool true) ∧ Below w.heap.size w w' := by
  have HSA := Lib.hid hsan
  have HA := Lib.hid ha
  clear hsan ha
  by_cases hlong : 2000 < s.size + l.length
  · go_enter Try.func10, Try.ntmps10
    go_wp2_with (go_at_call 12; refine (HSA.out _).mono ?_; rintro e w' ⟨rfl, hb⟩; have HB := Lib.hid hb; clear hb)
    go_ret
    exact ⟨rfl, HB.out⟩
  · have hb1 := encB_len s hs
    have hb2 := encInts_len l hr hm
    have hg1 := gBytes_enc (s := s.data.toList) (by simp; omega) (encL enc l)
    have hg2 := gInts_enc l hr hm []
    rw [List.append_nil] at hg2
    have hcutr : (encB s.data.toList ++ encL enc l).drop (encB s.data.toList).length = encL enc l := List.drop_left
    obtain ⟨eb, heb⟩ : ∃ eb, eb = encB s.data.toList := ⟨_, rfl⟩
    obtain ⟨ei, hei⟩ : ∃ ei, ei = encL enc l := ⟨_, rfl⟩
    rw [← heb, ← hei] at hg1
    rw [← hei] at hg2 hb2
    rw [← heb] at hb1
    rw [← heb, ← hei] at hcutr
    obtain ⟨i0, hi, hz0, hz1, hz2⟩ := info_parts Try.info5
    have HR := Lib.hid hr
    have HG1 := Lib.hid hg1
    have HG2 := Lib.hid hg2
    have HEB := Lib.hid heb
    have HEI := Lib.hid hei
    have HC := Lib.hid hcutr
    clear hg1 hg2 hr heb hei hcutr
    go_enter Try.func10, Try.ntmps10
    go_wp2_with fail
    refine (encBytes s _ (by omega)).mono ?_
    rw [← HEB.out]
    rintro e w1 ⟨A1, c1, rfl, hown1, hbel1⟩
    have hO0 : (w.alloc (.cells #[] 5)).ownsRow w.heap.size 5 1 (.slice (some ⟨w.heap.size, 0, none⟩) 0 0) 0 [] := World.ownsRow_lit w #[] 0 (Nat.le_refl _) (by unfold maxLen; omega) rfl
    have HO0 := Lib.hid (ownsRow_below hO0 hbel1)
    have HR1 := Lib.hid (Reads.of_own hown1)
    have HB1 := Lib.hid (below_then (below_new w (.cells #[] 5)) hbel1)
    have hs1 := HB1.out.size
    obtain ⟨k1, hk1⟩ : ∃ k, k = eb.length := ⟨_, rfl⟩
    obtain ⟨k2, hk2⟩ : ∃ k, k = ei.length := ⟨_, rfl⟩
    rw [← hk1] at hb1 HR1 HG1 HC ⊢
    rw [← hk2] at hb2 HG2
    have HK1 := Lib.hid hk1
    have HK2 := Lib.hid hk2
    clear hown1 hbel1 hO0 hk1 hk2
    go_wp2_with (first
      | (at_builtin; refine wpList_append_any _ rfl (.tmp 19) (.tmp 21) _ rfl w.heap.size 5 i0 (.int .u8 0) 1 1 Try.underlying28 hi hz0 hz1 hz2 rfl (by omega) (.slice (some ⟨w.heap.size, 0, none⟩) 0 0) 0 [] rfl HO0.out w1.heap.size A1 k1 c1 (bs eb) rfl HR1.out (bs_one _) (len_le (by omega)) (by omega) hs1 ?_; intro v2 w2 hown2 hgrow2 _; have HO2 := Lib.hid (own_nil hown2); have HB2 := Lib.hid (HB1.out.grown hgrow2 hs1 (fun k hk => (HO0.out.lt k hk).1)); clear hown2 hgrow2)
      | fail)
    refine (encInts A l cap w2 (HA.out.later HB2.out) HR.out (by rw [← HEI.out, ← HK2.out]; omega) (by omega)).mono ?_
    rw [← HEI.out]
    rintro e w3 ⟨A3, c3, rfl, hown3, hbel3⟩
    rw [← HK2.out] at hown3 ⊢
    have HO3 := Lib.hid (ownsRow_below HO2.out hbel3)
    have HR3 := Lib.hid (Reads.of_own hown3)
    have HB3 := Lib.hid (below_then HB2.out hbel3)
    have hs3 := HB3.out.size
    clear hown3 hbel3 HO2
    go_wp2_with (first
      | (at_builtin; refine wpList_append_any _ rfl (.tmp 22) (.tmp 24) _ rfl w.heap.size 5 i0 (.int .u8 0) 1 1 Try.underlying28 hi hz0 hz1 hz2 rfl (by omega) v2 k1 (bs eb) rfl HO3.out w3.heap.size A3 k2 c3 (bs ei) rfl HR3.out (bs_one _) (len_le (by omega)) (by omega) hs3 ?_; intro v4 w4 hown4 hgrow4 _; have HO4 := Lib.hid hown4; have HB4 := Lib.hid (HB3.out.grown hgrow4 hs3 (fun k hk => (HO3.out.lt k hk).1)); clear hown4 hgrow4)
      | fail)
    obtain ⟨A4, c4, e4, hc4⟩ := own_form HO4.out
    subst e4
    have hr4 := Reads.of_own HO4.out
    rw [← bs_append] at hr4
    have hlen : (eb ++ ei).length = k1 + k2 := by rw [List.length_append, ← HK1.out, ← HK2.out]
    refine (getBytes_is (eb ++ ei) hr4 hlen hc4 (by omega) HG1.out).mono ?_
    rintro e w5 ⟨rfl, rfl⟩
    rw [str_back]
    obtain ⟨A5, hA5, hcut⟩ := cut_l A4 (k1 + k2) c4 k1 (by omega)
    have hr5 := reads_part hr4 hA5 (show k1 + k2 ≤ k1 + k2 by omega) hc4
    rw [bs_drop, HC.out, bs_take, List.take_of_length_le (by rw [← HK2.out]; exact Nat.le_refl _)] at hr5
    rw [show k1 + k2 - k1 = k2 by omega] at hcut
    have HR5 := Lib.hid hr5
    clear hr4 hlen hA5 hr5
    go_wp2_with fail
    refine (getInts_is ei HR5.out HK2.out.symm (by omega) (by omega) HG2.out).mono ?_
    rintro e w6 ⟨A6, c6, rfl, hr6, hb6⟩
    have HR6 := Lib.hid hr6
    have HB6 := Lib.hid (below_then HB4.out hb6)
    clear hr6 hb6
    go_wp2_with fail
    refine (HSA.out w6).mono ?_
    rintro e w7 ⟨rfl, hb7⟩
    have HR7 := Lib.hid (HR6.out.later hb7)
    have HB7 := Lib.hid (below_then HB6.out hb7)
    clear hb7
    go_wp2_with fail
    refine (sameInts _ _ A6 A c6 cap l w7 HR7.out (HA.out.later HB7.out) (by omega)).mono ?_
    rintro e w8 ⟨rfl, hb8⟩
    have HB8 := Lib.hid (below_then HB7.out hb8)
    clear hb8
    go_wp2_with fail
    go_ret
    exact ⟨rfl, HB8.out⟩
end Go.Proofs.Ytlemelfepalnfaa
