/-
  THE WALK of WireDecodeMatchesSpec, the sanity check by its contract.
-/
import Derived.Test.YtlemelfepalnfaaRDig
import Derived.Test.YtlemelfepalnfaaWRound
namespace Go.Proofs.Ytlemelfepalnfaa
open Go.RowKit WM

def lstOf {α : Type} : Dec (List α) → List α
  | .ok xs _ => xs
  | _ => []
def useOf {α : Type} : Dec α → Int
  | .ok _ u => u
  | _ => 0
def errOf {α : Type} : Dec α → Int
  | .ok _ _ => 0
  | .more => 3
  | .form => 2
theorem gpost_any {α : Type} {el sz : Nat} {cell : α → List Value} {w : World} {d : Dec (List α)} {e : Ending} {w' : World} (h : GPost el sz cell w d e w') :
    ∃ A c, e = .returned (.tuple #[.slice A (lstOf d).length c, .int .i64 (useOf d), .int .i64 (errOf d)]) ∧ Reads w' w'.heap.size sz A (lstOf d).length ((lstOf d).flatMap cell) ∧ Below w.heap.size w w' := by
  cases d with
  | more => exact ⟨none, 0, h.1, ⟨by simp [lstOf], fun h => absurd h (by simp [lstOf])⟩, h.2⟩
  | form => exact ⟨none, 0, h.1, ⟨by simp [lstOf], fun h => absurd h (by simp [lstOf])⟩, h.2⟩
  | ok xs u =>
    obtain ⟨A, c, he, ho, hb⟩ := h
    exact ⟨A, c, he, Reads.of_own ho, hb⟩
theorem dInt_form (d : Dec Int) : ∃ n u k : Int, dInt d = .tuple #[.int .i64 n, .int .i64 u, .int .i64 k] := by
  cases d <;> exact ⟨_, _, _, rfl⟩
theorem dStr_form (d : Dec (List UInt8)) : ∃ (s : ByteArray) (u k : Int), dStr d = .tuple #[.string s, .int .i64 u, .int .i64 k] := by
  cases d <;> exact ⟨_, _, _, rfl⟩
theorem lst_small {α : Type} {g : List UInt8 → Dec α} {least : Nat} (h0 : 0 < least) {l : List UInt8} : (lstOf (gElems least g l)).length ≤ l.length := by
  unfold gElems
  cases hg : gLen least l with
  | more => simp [lstOf]
  | form => simp [lstOf]
  | ok n u =>
    obtain ⟨_, t, e1, _, e3⟩ := gLen_ok hg h0
    have hn : n ≤ l.length := by
      have h1 : n * 1 ≤ n * least := Nat.mul_le_mul_left _ h0
      rw [e1, List.length_append]; omega
    simp only []
    have key : ∀ (n : Nat) (l : List UInt8), (lstOf (gMany g n l)).length ≤ n := by
      intro n
      induction n with
      | zero => intro l; simp [gMany, lstOf]
      | succ n ih =>
        intro l
        simp only [gMany]
        cases g l with
        | more => simp [lstOf]
        | form => simp [lstOf]
        | ok x u =>
          simp only []
          have := ih (l.drop u)
          cases hm : gMany g n (l.drop u) with
          | more => simp [lstOf]
          | form => simp [lstOf]
          | ok xs v => rw [hm] at this; simp only [lstOf, List.length_cons] at this ⊢; omega
    have := key n (l.drop u)
    cases hm : gMany g n (l.drop u) with
    | more => simp [lstOf]
    | form => simp [lstOf]
    | ok xs v => rw [hm] at this; simp only [lstOf] at this ⊢; omega
theorem lst16 {l : List UInt8} : ∀ x ∈ lstOf (gElems 16 gDig l), x.length = 16 := by
  cases hg : gElems 16 gDig l with
  | more => simp [lstOf]
  | form => simp [lstOf]
  | ok xs u => exact (gElems_dig hg).1

theorem sameTextsK {w : World} {A1 A2 : Option Addr} {c1 c2 k : Nat} {l : List ByteArray} (h1 : Reads w w.heap.size 1 A1 k (ss l)) (h2 : Reads w w.heap.size 1 A2 k (ss l)) (hk : l.length = k) (hl : k ≤ 1000000) :
    Calls Try.prog 33 #[.slice A1 k c1, .slice A2 k c2] w fun e w' => e = .returned (.bool true) ∧ Below w.heap.size w w' := by
  subst hk
  exact sameTexts _ _ A1 A2 c1 c2 l w h1 h2 (by omega)

set_option maxRecDepth 1000000 in
set_option maxHeartbeats 16000000 in
theorem walkDecode (hsan : Sane) (A : Option Addr) (cap : Nat) (l : List UInt8) (w : World) (ha : Reads w w.heap.size 1 A l.length (bs l)) (hlc : l.length ≤ cap) (hm : l.length ≤ 9223372036854775807) :
    Calls Try.prog 4 #[.slice A l.length cap] w fun e w' => e = .returned (.bool true) ∧ Below w.heap.size w w' := by
  have HSA := Lib.hid hsan
  have HA0 := Lib.hid ha
  clear hsan ha
  by_cases hlong : 2000 < l.length
  · go_enter Try.func4, Try.ntmps4
    go_wp2_with (go_at_call 12; refine (HSA.out _).mono ?_; rintro e w' ⟨rfl, hb⟩; have HB := Lib.hid hb; clear hb)
    go_ret
    exact ⟨rfl, HB.out⟩
  · have c1 := getInt w.heap.size A cap l w HA0.out hlc (by omega)
    obtain ⟨n1, u1, k1, h1⟩ := dInt_form (gInt l)
    rw [h1] at c1
    have C2 := Lib.hid (fun (W : World) (h : Reads W W.heap.size 1 A l.length (bs l)) => h1 ▸ refGetInt A cap l W h hlc (by omega))
    obtain ⟨n2, u2, k2, h2⟩ := dStr_form (gBytes l)
    have C3 := Lib.hid (fun (W : World) (h : Reads W W.heap.size 1 A l.length (bs l)) => h2 ▸ getBytes W.heap.size A cap l W h hlc (by omega))
    have C4 := Lib.hid (fun (W : World) (h : Reads W W.heap.size 1 A l.length (bs l)) => h2 ▸ refGetBytes A cap l W h hlc (by omega))
    have C5 := Lib.hid (fun (W : World) (h : Reads W W.heap.size 1 A l.length (bs l)) => (getInts A cap l W h hlc (by omega)).mono fun _ _ h => gpost_any h)
    have C6 := Lib.hid (fun (W : World) (h : Reads W W.heap.size 1 A l.length (bs l)) => (refGetInts A cap l W h hlc (by omega)).mono fun _ _ h => gpost_any h)
    have C8 := Lib.hid (fun (W : World) (h : Reads W W.heap.size 1 A l.length (bs l)) => (getStrings A cap l W h hlc (by omega)).mono fun _ _ h => gpost_any h)
    have C9 := Lib.hid (fun (W : World) (h : Reads W W.heap.size 1 A l.length (bs l)) => (refGetStrings A cap l W h hlc (by omega)).mono fun _ _ h => gpost_any h)
    have C11 := Lib.hid (fun (W : World) (h : Reads W W.heap.size 1 A l.length (bs l)) => (getDigests A cap l W h hlc (by omega)).mono fun _ _ h => gpost_any h)
    have C12 := Lib.hid (fun (W : World) (h : Reads W W.heap.size 1 A l.length (bs l)) => (refGetDigests A cap l W h hlc (by omega)).mono fun _ _ h => gpost_any h)
    have s3 := lst_small (g := gInt) (least := 1) (by omega) (l := l)
    have s4 := lst_small (g := gBytes) (least := 1) (by omega) (l := l)
    have s5 := lst_small (g := gDig) (least := 16) (by omega) (l := l)
    have h16 := lst16 (l := l)
    generalize gElems 1 gInt l = d3 at C5 C6 s3
    generalize gElems 1 gBytes l = d4 at C8 C9 s4
    generalize gElems 16 gDig l = d5 at C11 C12 s5 h16
    generalize useOf d3 = u3 at C5 C6
    generalize errOf d3 = k3 at C5 C6
    generalize lstOf d3 = x3 at C5 C6 s3
    generalize useOf d4 = u4 at C8 C9
    generalize errOf d4 = k4 at C8 C9
    generalize lstOf d4 = x4 at C8 C9 s4
    generalize useOf d5 = u5 at C11 C12
    generalize errOf d5 = k5 at C11 C12
    generalize lstOf d5 = x5 at C11 C12 s5 h16
    have C1 := Lib.hid c1
    have H16 := Lib.hid h16
    clear c1 h1 h2 h16
    go_enter Try.func4, Try.ntmps4
    go_wp2_with fail
    refine C1.out.mono ?_
    rintro e w1 ⟨rfl, rfl⟩
    clear C1
    go_wp2_with fail
    refine (C2.out w HA0.out).mono ?_
    rintro e w1 ⟨rfl, hb⟩
    have HA1 := Lib.hid (HA0.out.later hb)
    have HB1 := Lib.hid hb
    clear hb C2 HA0
    go_wp2_with fail
    refine (C3.out w1 HA1.out).mono ?_
    rintro e w2 ⟨rfl, rfl⟩
    clear C3
    go_wp2_with fail
    refine (C4.out w1 HA1.out).mono ?_
    rintro e w2 ⟨rfl, hb⟩
    have HA2 := Lib.hid (HA1.out.later hb)
    have HB2 := Lib.hid (below_then HB1.out hb)
    clear hb C4 HA1 HB1
    go_wp2_with fail
    refine (C5.out w2 HA2.out).mono ?_
    rintro e w3 ⟨A3, c3, rfl, hr, hb⟩
    rw [ints_flat] at hr
    have HR3 := Lib.hid hr
    have HA3 := Lib.hid (HA2.out.later hb)
    have HB3 := Lib.hid (below_then HB2.out hb)
    clear hb hr C5 HA2 HB2
    go_wp2_with fail
    refine (C6.out w3 HA3.out).mono ?_
    rintro e w4 ⟨B3, e3, rfl, hr, hb⟩
    rw [ints_flat] at hr
    have HS3 := Lib.hid hr
    have HR3' := Lib.hid (HR3.out.later hb)
    have HA4 := Lib.hid (HA3.out.later hb)
    have HB4 := Lib.hid (below_then HB3.out hb)
    clear hb hr C6 HA3 HB3 HR3
    go_wp2_with fail
    refine (sameInts _ _ A3 B3 c3 e3 x3 w4 HR3'.out HS3.out (by omega)).mono ?_
    rintro e w5 ⟨rfl, hb⟩
    have HA5 := Lib.hid (HA4.out.later hb)
    have HB5 := Lib.hid (below_then HB4.out hb)
    clear hb HR3' HS3 HA4 HB4
    go_wp2_with fail
    refine (C8.out w5 HA5.out).mono ?_
    rintro e w6 ⟨A4, c4, rfl, hr, hb⟩
    rw [strs_flat] at hr
    have HR4 := Lib.hid hr
    have HA6 := Lib.hid (HA5.out.later hb)
    have HB6 := Lib.hid (below_then HB5.out hb)
    clear hb hr C8 HA5 HB5
    go_wp2_with fail
    refine (C9.out w6 HA6.out).mono ?_
    rintro e w7 ⟨B4, e4, rfl, hr, hb⟩
    rw [strs_flat] at hr
    have HS4 := Lib.hid hr
    have HR4' := Lib.hid (HR4.out.later hb)
    have HA7 := Lib.hid (HA6.out.later hb)
    have HB7 := Lib.hid (below_then HB6.out hb)
    clear hb hr C9 HA6 HB6 HR4
    go_wp2_with fail
    refine (sameTextsK HR4'.out HS4.out (by simp) (by omega)).mono ?_
    rintro e w8 ⟨rfl, hb⟩
    have HA8 := Lib.hid (HA7.out.later hb)
    have HB8 := Lib.hid (below_then HB7.out hb)
    clear hb HR4' HS4 HA7 HB7
    go_wp2_with fail
    refine (C11.out w8 HA8.out).mono ?_
    rintro e w9 ⟨A5, c5, rfl, hr, hb⟩
    rw [digs_flat] at hr
    have HR5 := Lib.hid hr
    have HA9 := Lib.hid (HA8.out.later hb)
    have HB9 := Lib.hid (below_then HB8.out hb)
    clear hb hr C11 HA8 HB8
    go_wp2_with fail
    refine (C12.out w9 HA9.out).mono ?_
    rintro e w10 ⟨B5, e5, rfl, hr, hb⟩
    rw [digs_flat] at hr
    have HS5 := Lib.hid hr
    have HR5' := Lib.hid (HR5.out.later hb)
    have HA10 := Lib.hid (HA9.out.later hb)
    have HB10 := Lib.hid (below_then HB9.out hb)
    clear hb hr C12 HA9 HB9 HR5
    go_wp2_with fail
    refine (HSA.out _).mono ?_
    rintro e w11 ⟨rfl, hb⟩
    have HR6 := Lib.hid (HR5'.out.later hb)
    have HS6 := Lib.hid (HS5.out.later hb)
    have HB11 := Lib.hid (below_then HB10.out hb)
    clear hb HA10 HB10 HR5' HS5
    go_wp2_with fail
    refine (sameDigests _ _ A5 B5 c5 e5 x5 _ HR6.out HS6.out (by omega) H16.out).mono ?_
    rintro e w12 ⟨rfl, hb⟩
    have HB12 := Lib.hid (below_then HB11.out hb)
    clear hb HB11
    go_wp2_with fail
    go_ret
    exact ⟨rfl, HB12.out⟩
end Go.Proofs.Ytlemelfepalnfaa
