/-
  FOR WireTruncated: few; each decoder at a proper prefix of an encoding.
-/
import Derived.Test.YtlemelfepalnfaaClo37
import Derived.Test.YtlemelfepalnfaaWRound
namespace Go.Proofs.Ytlemelfepalnfaa
open Go.RowKit WM

def total (l : List ByteArray) : Nat := (l.map (·.size)).sum
theorem total_succ (l : List ByteArray) (k : Nat) (h : k < l.length) : total (l.take (k + 1)) = total (l.take k) + l[k].size := by
  unfold total
  rw [List.take_succ_eq_append_getElem h, List.map_append, List.sum_append]
  simp
theorem total_le (l : List ByteArray) (k : Nat) : total (l.take k) ≤ total l := by
  unfold total
  conv => rhs; rw [← List.take_append_drop k l, List.map_append, List.sum_append]
  omega

set_option maxHeartbeats 400000 in
theorem few (B : Nat) (A : Option Addr) (c : Nat) (l : List ByteArray) (w : World) (ha : Reads w B 1 A l.length (ss l)) (hb : l.length + total l ≤ 4611686018427387904) :
    Calls Try.prog 11 #[.slice A l.length c] w fun e w' => e = .returned (.bool (decide (l.length + total l ≤ 2000))) ∧ w = w' := by
  have HA := Lib.hid ha
  clear ha
  obtain ⟨r, hr⟩ : ∃ r, r = decide (l.length + total l ≤ 2000) := ⟨_, rfl⟩
  rw [← hr]
  have HR := Lib.hid hr
  clear hr
  go_enter Try.func11, Try.ntmps11
  go_wp2
  go_loop [3, 10] (fun a i => ∃ k m : Nat, k ≤ l.length ∧ i = .int .i64 k ∧ a = .int .i64 m ∧ Hid (m = l.length + total (l.take k))) (fun _ i => l.length - (intOf i).toNat)
  case atStart => exact ⟨0, l.length, Nat.zero_le _, rfl, rfl, by simp [Hid, total]⟩
  case round =>
    obtain ⟨k, m, hk, rfl, rfl, hm⟩ := hrel
    by_cases hlt : k < l.length
    · obtain ⟨ad, u, rfl, _, hx, hcell⟩ := HA.out.at_ hlt
      rw [ss_get l k hlt] at hx
      obtain rfl := Option.some.inj hx
      have hs := total_succ l k hlt
      have hle := total_le l (k + 1)
      obtain ⟨s, hs2⟩ : ∃ s, s = l[k] := ⟨_, rfl⟩
      rw [← hs2] at hcell hs
      have hmm : m + s.size ≤ 4611686018427387904 := by rw [hm.out]; omega
      have HS := Lib.hid hs
      clear hs hs2 hle
      go_wp2
      go_round
      case rel => exact ⟨k + 1, m + s.size, by omega, by go_num, by go_num, by show _ = _; rw [HS.out, hm.out]; omega⟩
      case measure => simp [intOf]; omega
    · obtain rfl : k = l.length := by omega
      have hmm : m ≤ 4611686018427387904 := by rw [hm.out, List.take_length]; exact hb
      have hd : decide ((m : Int) ≤ 2000) = r := by rw [HR.out, hm.out, List.take_length]; simp; omega
      have HD := Lib.hid hd
      clear hd hb
      go_wp2
      go_ret
      refine ⟨?_, rfl⟩
      show Ending.returned (.bool (decide ((m : Int) ≤ 2000))) = _
      rw [HD.out]

/-- A proper prefix of what reads. -/
theorem pre_parts (l : List UInt8) (i : Nat) (h : i < l.length) : l.take i ++ l.drop i = l ∧ l.drop i ≠ [] ∧ (l.take i).length = i := by
  refine ⟨List.take_append_drop _ _, fun e => ?_, by rw [List.length_take]; omega⟩
  have := congrArg List.length e
  simp at this; omega
theorem pre_reads {W : World} {B n : Nat} {A : Option Addr} {l : List UInt8} (h : Reads W B 1 A n (bs l)) (hn : l.length = n) (i : Nat) (hi : i < n) : Reads W B 1 A (l.take i).length (bs (l.take i)) := by
  have h1 := reads_take h (show i ≤ n by omega)
  rw [bs_take] at h1
  rwa [List.length_take, Nat.min_eq_left (by omega)]

theorem tr_int {W : World} {n : Int} {A : Option Addr} {c k : Nat} (hr : inRange n) (h : Reads W W.heap.size 1 A k (bs (WM.enc n))) (hk : (WM.enc n).length = k) (hc : k ≤ c) (i : Nat) (hi : i < k) :
    Calls Try.prog 24 #[.slice A i c] W fun e w' => e = .returned (.tuple #[.int .i64 0, .int .i64 0, .int .i64 3]) ∧ Below W.heap.size W w' := by
  obtain ⟨p1, p2, p3⟩ := pre_parts (WM.enc n) i (by omega)
  have h9 := (enc_len hr).2
  have hc2 := getInt _ A c _ W (pre_reads h hk i hi) (by omega) (by omega)
  rw [gInt_more hr p1 p2, p3] at hc2
  exact hc2.mono fun _ _ ⟨he, hw⟩ => ⟨he, hw ▸ Below.refl _ _⟩
theorem tr_bytes {W : World} {s : ByteArray} {A : Option Addr} {c k : Nat} (hs : s.size ≤ 1000000) (h : Reads W W.heap.size 1 A k (bs (encB s.data.toList))) (hk : (encB s.data.toList).length = k) (hc : k ≤ c) (i : Nat) (hi : i < k) :
    Calls Try.prog 26 #[.slice A i c] W fun e w' => e = .returned (.tuple #[.string ⟨#[]⟩, .int .i64 0, .int .i64 3]) ∧ Below W.heap.size W w' := by
  obtain ⟨p1, p2, p3⟩ := pre_parts _ i (show i < (encB s.data.toList).length by omega)
  have hsl : s.data.toList.length ≤ 1000000 := by simpa using hs
  have h9 := (enc_len (n := (s.data.toList.length : Int)) ⟨by omega, by omega⟩).2
  have hl : k ≤ 1000009 := by rw [← hk]; unfold encB; rw [List.length_append]; omega
  have hc2 := getBytes _ A c _ W (pre_reads h hk i hi) (by omega) (by omega)
  rw [gBytes_more (by omega) p1 p2, p3] at hc2
  exact hc2.mono fun _ _ ⟨he, hw⟩ => ⟨he, hw ▸ Below.refl _ _⟩
theorem tr_ints {W : World} {l : List Int} {A : Option Addr} {c k : Nat} (hr : ∀ x ∈ l, inRange x) (hl : l.length ≤ 1000000) (h : Reads W W.heap.size 1 A k (bs (encL WM.enc l))) (hk : (encL WM.enc l).length = k) (hc : k ≤ c) (i : Nat) (hi : i < k) (h500 : i ≤ 500) :
    Calls Try.prog 28 #[.slice A i c] W fun e w' => e = .returned (.tuple #[.slice none 0 0, .int .i64 0, .int .i64 3]) ∧ Below W.heap.size W w' := by
  obtain ⟨p1, p2, p3⟩ := pre_parts _ i (show i < (encL WM.enc l).length by omega)
  have hc2 := getInts A c _ W (pre_reads h hk i hi) (by omega) (by omega)
  rw [gElems_more (by omega) (by omega) (fun x hx => (enc_len (hr x hx)).1) (fun x hx t => gInt_enc (hr x hx) t) (fun x hx p q e hq => gInt_more (hr x hx) e hq) p1 p2, p3] at hc2
  exact hc2
theorem tr_strings {W : World} {l : List ByteArray} {A : Option Addr} {c k : Nat} (hr : ∀ x ∈ l, x.size ≤ 140737488355328) (hl : l.length ≤ 1000000) (h : Reads W W.heap.size 1 A k (bs (encS l))) (hk : (encS l).length = k) (hc : k ≤ c) (i : Nat) (hi : i < k) (h500 : i ≤ 500) :
    Calls Try.prog 31 #[.slice A i c] W fun e w' => e = .returned (.tuple #[.slice none 0 0, .int .i64 0, .int .i64 3]) ∧ Below W.heap.size W w' := by
  obtain ⟨p1, p2, p3⟩ := pre_parts _ i (show i < (encS l).length by omega)
  have hm : encS l = encL encB (l.map fun s => s.data.toList) := by unfold encS encL; rw [List.length_map, List.flatMap_map]
  have hx : ∀ y ∈ (l.map fun s => s.data.toList), (y.length : Int) ≤ 140737488355328 := by
    intro y hy
    obtain ⟨s, hs, rfl⟩ := List.mem_map.1 hy
    have := hr s hs
    have e : s.data.toList.length = s.size := by simp
    omega
  have hc2 := getStrings A c _ W (pre_reads h hk i hi) (by omega) (by omega)
  rw [gElems_more (xs := l.map fun s => s.data.toList) (e := encB) (by omega) (by rw [List.length_map]; omega) (fun y hy => by
      have := (enc_len (n := (y.length : Int)) ⟨by omega, by have := hx y hy; omega⟩).1
      unfold encB; rw [List.length_append]; omega) (fun y hy t => gBytes_enc (by have := hx y hy; omega) t) (fun y hy p q e hq => gBytes_more (by have := hx y hy; omega) e hq) (p1.trans hm) p2, p3] at hc2
  exact hc2
theorem gDigest_more {l : List (List UInt8)} (h16 : ∀ x ∈ l, x.length = 16) (hl : l.length ≤ 1000000) {p q : List UInt8} (h : p ++ q = encL id l) (hq : q ≠ []) : gElems 16 gDig p = .more := by
  have hfl : l.length * 16 ≤ (l.flatMap id).length := flat_len (e := (id : List UInt8 → List UInt8)) (least := 16) (fun x hx => by have := h16 x hx; simp only [id]; omega)
  have hfu : (l.flatMap id).length ≤ l.length * 16 := by
    clear h hq hfl hl
    induction l with
    | nil => simp
    | cons x l ih =>
      have := ih (fun y hy => h16 y (by simp [hy]))
      have h1 := h16 x (by simp)
      rw [List.flatMap_cons, List.length_append, List.length_cons]
      simp only [id]
      omega
  unfold gElems
  rcases gLen_more (least := 16) (show (l.length : Int) ≤ 9223372036854775807 by omega) (by omega) hfl h with e | ⟨r, e1, e2, hr⟩
  · rw [e]
  · exfalso
    obtain ⟨_, t, ht, _, hlen⟩ := gLen_ok e2 (by omega)
    have h1 : r = t := List.append_cancel_left (e1.symm.trans ht)
    have h2 := congrArg List.length hr
    have h3 : 0 < q.length := by cases q; exact absurd rfl hq; simp
    rw [List.length_append, h1] at h2
    omega
theorem tr_digests {W : World} {l : List (List UInt8)} {A : Option Addr} {c k : Nat} (h16 : ∀ x ∈ l, x.length = 16) (hl : l.length ≤ 1000000) (h : Reads W W.heap.size 1 A k (bs (encL id l))) (hk : (encL id l).length = k) (hc : k ≤ c) (i : Nat) (hi : i < k) (h500 : i ≤ 500) :
    Calls Try.prog 34 #[.slice A i c] W fun e w' => e = .returned (.tuple #[.slice none 0 0, .int .i64 0, .int .i64 3]) ∧ Below W.heap.size W w' := by
  obtain ⟨p1, p2, p3⟩ := pre_parts _ i (show i < (encL id l).length by omega)
  have hc2 := getDigests A c _ W (pre_reads h hk i hi) (by omega) (by omega)
  rw [gDigest_more h16 hl p1 p2, p3] at hc2
  exact hc2
end Go.Proofs.Ytlemelfepalnfaa
