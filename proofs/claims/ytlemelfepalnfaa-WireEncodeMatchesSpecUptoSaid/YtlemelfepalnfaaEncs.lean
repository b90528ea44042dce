/-
  THE OTHER ENCODERS OF PACKAGE wire, each by its contract: appendBytes, Bytes, Ints, Strings, Digests.
-/
import Derived.Test.YtlemelfepalnfaaEnc
namespace Go.Proofs.Ytlemelfepalnfaa
open Go.RowKit WM

theorem strCells_eq (s : ByteArray) : Lib.strCells s = bs s.data.toList := rfl

theorem own_nil {w : World} {B : Nat} {e : TypeId} {size : Nat} {v : Value} {n : Nat} {xs : List Value} (h : w.ownsRow B e size v (0 + n) ([] ++ xs)) : w.ownsRow B e size v n xs := by
  rwa [Nat.zero_add, List.nil_append] at h

theorem encB_cells (s : ByteArray) (xs : List Value) : xs ++ bs (enc (s.size : Int)) ++ Lib.strCells s = xs ++ bs (encB s.data.toList) := by
  rw [strCells_eq]; unfold encB; rw [bs_append, List.append_assoc]; simp
theorem encB_size (s : ByteArray) (len : Nat) : len + (enc (s.size : Int)).length + s.size = len + (encB s.data.toList).length := by
  unfold encB; simp; omega

set_option maxHeartbeats 400000 in
theorem appBytes (B : Nat) (v : Value) (len : Nat) (xs : List Value) (s : ByteArray) (w : World) (hown : w.ownsRow B 5 1 v len xs) (hB : B ≤ w.heap.size) (hlen : len + s.size ≤ 140737487999900) :
    Calls Try.prog 39 #[v, .string s] w fun e w' => ∃ v', e = .returned v' ∧ w'.ownsRow B 5 1 v' (len + (encB s.data.toList).length) (xs ++ bs (encB s.data.toList)) ∧ Below B w w' := by
  have hr : inRange (s.size : Int) := ⟨by omega, by omega⟩
  have h9 := (enc_len hr).2
  obtain ⟨i0, hi, hz0, hz1, hz2⟩ := info_parts Try.info5
  go_enter Try.func39, Try.ntmps39
  go_wp2_with (first
    | (go_at_call 38; refine (appInt B v len xs _ _ hown hB hr (by omega)).mono ?_; rintro e w1 ⟨v1, rfl, hown1, hb1⟩; have HO1 := Lib.hid hown1; have HB1 := Lib.hid hb1; have hs1 := hb1.size; clear hown1 hb1)
    | (at_builtin; refine Lib.wpList_append_own_string _ rfl (.tmp 8) (.tmp 9) 28 9 rfl B 5 i0 Try.underlying28 Try.underlying9 hi hz0 hz1 hz2 v1 _ _ rfl HO1.out s rfl (len_le (by omega)) (by omega) (by omega) ?_; intro v2 w2 hown2 hgrow2 _; have HO2 := Lib.hid hown2; have HG2 := Lib.hid hgrow2; clear hown2 hgrow2))
  go_ret
  have h2 := HO2.out
  rw [encB_cells, encB_size] at h2
  exact ⟨v2, rfl, h2, HB1.out.grown HG2.out (by omega) (fun k hk => (HO1.out.lt k hk).1)⟩

theorem encBytes (s : ByteArray) (w : World) (hs : s.size ≤ 140737487999900) :
    Calls Try.prog 16 #[.string s] w fun e w' => ∃ A c, e = .returned (.slice A (encB s.data.toList).length c) ∧ w'.ownsRow w.heap.size 5 1 (.slice A (encB s.data.toList).length c) (encB s.data.toList).length (bs (encB s.data.toList)) ∧ Below w.heap.size w w' := by
  go_enter Try.func16, Try.ntmps16
  go_wp2_with (go_at_call 39; refine (appBytes w.heap.size _ 0 [] s _ (World.ownsRow_nil _ _ _ _) (Nat.le_refl _) (by omega)).mono ?_; rintro e w' ⟨v', rfl, hown, hb⟩; have HO := Lib.hid (own_nil hown); have HB := Lib.hid hb; clear hown hb)
  go_ret
  have h1 := HO.out
  obtain ⟨A, c, rfl, _⟩ := own_form h1
  exact ⟨A, c, rfl, h1, HB.out⟩

/-- Integers, strings and digests as cells. -/
def is (l : List Int) : List Value := l.map (Value.int .i64)
def ss (l : List ByteArray) : List Value := l.map Value.string
def encS (l : List ByteArray) : List UInt8 := encL (fun s => encB s.data.toList) l
def dg (l : List (List UInt8)) : List Value := bs l.flatten
theorem is_get (l : List Int) (k : Nat) (h : k < l.length) : (is l)[k]? = some (.int .i64 l[k]) := by simp [is, List.getElem?_eq_getElem h]
theorem ss_get (l : List ByteArray) (k : Nat) (h : k < l.length) : (ss l)[k]? = some (.string l[k]) := by simp [ss, List.getElem?_eq_getElem h]

theorem flat_succ {α : Type} (f : α → List UInt8) (l : List α) (k : Nat) (h : k < l.length) (p : List UInt8) : p ++ (l.take (k + 1)).flatMap f = p ++ (l.take k).flatMap f ++ f l[k] := by
  rw [List.take_succ_eq_append_getElem h, List.flatMap_append, ← List.append_assoc, List.flatMap_cons, List.flatMap_nil, List.append_nil]
theorem flat_le {α : Type} (f : α → List UInt8) (l : List α) (k : Nat) : ((l.take k).flatMap f).length ≤ (l.flatMap f).length := by
  conv => rhs; rw [← List.take_append_drop k l, List.flatMap_append, List.length_append]
  omega
theorem own_next {w : World} {B : Nat} {v : Value} {p q r : List UInt8} (h : w.ownsRow B 5 1 v (p.length + q.length) (bs p ++ bs q)) (e : r = p ++ q) : w.ownsRow B 5 1 v r.length (bs r) := by
  rw [← bs_append, ← List.length_append] at h
  subst e; exact h

set_option maxHeartbeats 800000 in
theorem encInts (A : Option Addr) (l : List Int) (c : Nat) (w : World) (ha : Reads w w.heap.size 1 A l.length (is l)) (hr : ∀ x ∈ l, inRange x) (hb : (encL enc l).length ≤ 140737487999900) (hn : l.length ≤ 140737487999900) :
    Calls Try.prog 18 #[.slice A l.length c] w fun e w' => ∃ A c, e = .returned (.slice A (encL enc l).length c) ∧ w'.ownsRow w.heap.size 5 1 (.slice A (encL enc l).length c) (encL enc l).length (bs (encL enc l)) ∧ Below w.heap.size w w' := by
  have hrn : inRange (l.length : Int) := ⟨by omega, by omega⟩
  unfold encL at hb
  rw [List.length_append] at hb
  have HA := Lib.hid ha
  have HR := Lib.hid hr
  clear ha hr
  go_enter Try.func18, Try.ntmps18
  go_wp2_with (go_at_call 38; refine (appInt w.heap.size _ 0 [] _ _ (World.ownsRow_nil _ _ _ _) (Nat.le_refl _) hrn (by omega)).mono ?_; rintro e w1 ⟨v1, rfl, hown, hb⟩; have HO := Lib.hid (own_nil hown); have HB := Lib.hid hb; clear hown hb)
  go_loopw [3, 11] (fun o i wr => ∃ k : Nat, k ≤ l.length ∧ i = .int .i64 k ∧ wr.ownsRow w.heap.size 5 1 o (enc (l.length : Int) ++ (l.take k).flatMap enc).length (bs (enc (l.length : Int) ++ (l.take k).flatMap enc)) ∧ Below w.heap.size w wr)
    (fun _ i _ => l.length - (intOf i).toNat)
  case atStart => exact ⟨0, Nat.zero_le _, rfl, by simpa using HO.out, HB.out⟩
  case round =>
    obtain ⟨k, hk, rfl, hown, hbel⟩ := hrel
    have HO2 := Lib.hid hown
    have HB2 := Lib.hid hbel
    have hsz := hbel.size
    have hle := flat_le enc l k
    clear hown hbel
    by_cases hlt : k < l.length
    · obtain ⟨ad, u, rfl, _, hx, hcell⟩ := (HA.out.below HB2.out).at_ hlt
      rw [is_get l k hlt] at hx
      obtain rfl := Option.some.inj hx
      have hrk := HR.out _ (List.getElem_mem hlt)
      have hP : (enc (l.length : Int) ++ (l.take k).flatMap enc).length ≤ 140737487999900 := by rw [List.length_append]; omega
      go_wp2_with (go_at_call 38; refine (appInt w.heap.size _ _ _ _ _ HO2.out hsz hrk (by omega)).mono ?_; rintro e w2 ⟨v2, rfl, hown3, hb3⟩; have HO3 := Lib.hid hown3; have HB3 := Lib.hid hb3; clear hown3 hb3)
      go_roundw
      case rel => exact ⟨k + 1, by omega, by go_num, own_next HO3.out (flat_succ enc l k hlt _), HB2.out.trans HB3.out⟩
      case measure => simp [intOf]; omega
    · obtain rfl : k = l.length := by omega
      go_wp2
      go_ret
      have h1 := HO2.out
      rw [List.take_length] at h1
      obtain ⟨A', c', rfl, _⟩ := own_form h1
      exact ⟨A', c', rfl, h1, HB2.out⟩

set_option maxHeartbeats 800000 in
theorem encStrings (A : Option Addr) (l : List ByteArray) (c : Nat) (w : World) (ha : Reads w w.heap.size 1 A l.length (ss l)) (hb : (encS l).length ≤ 140737487999900) (hn : l.length ≤ 140737487999900) :
    Calls Try.prog 20 #[.slice A l.length c] w fun e w' => ∃ A c, e = .returned (.slice A (encS l).length c) ∧ w'.ownsRow w.heap.size 5 1 (.slice A (encS l).length c) (encS l).length (bs (encS l)) ∧ Below w.heap.size w w' := by
  have hrn : inRange (l.length : Int) := ⟨by omega, by omega⟩
  obtain ⟨f, hf⟩ : ∃ f : ByteArray → List UInt8, f = fun s => encB s.data.toList := ⟨_, rfl⟩
  have hes : encS l = enc (l.length : Int) ++ l.flatMap f := by rw [hf]; rfl
  rw [hes] at hb ⊢
  rw [List.length_append] at hb
  have HF := Lib.hid hf
  have HA := Lib.hid ha
  clear ha hf hes
  go_enter Try.func20, Try.ntmps20
  go_wp2_with (go_at_call 38; refine (appInt w.heap.size _ 0 [] _ _ (World.ownsRow_nil _ _ _ _) (Nat.le_refl _) hrn (by omega)).mono ?_; rintro e w1 ⟨v1, rfl, hown, hb⟩; have HO := Lib.hid (own_nil hown); have HB := Lib.hid hb; clear hown hb)
  go_loopw [3, 11] (fun o i wr => ∃ k : Nat, k ≤ l.length ∧ i = .int .i64 k ∧ wr.ownsRow w.heap.size 5 1 o (enc (l.length : Int) ++ (l.take k).flatMap f).length (bs (enc (l.length : Int) ++ (l.take k).flatMap f)) ∧ Below w.heap.size w wr)
    (fun _ i _ => l.length - (intOf i).toNat)
  case atStart => exact ⟨0, Nat.zero_le _, rfl, by simpa using HO.out, HB.out⟩
  case round =>
    obtain ⟨k, hk, rfl, hown, hbel⟩ := hrel
    have HO2 := Lib.hid hown
    have HB2 := Lib.hid hbel
    have hsz := hbel.size
    clear hown hbel
    by_cases hlt : k < l.length
    · have hle := flat_le f l (k + 1)
      have hle2 := congrArg List.length (flat_succ f l k hlt (enc (l.length : Int)))
      rw [List.length_append, List.length_append] at hle2
      obtain ⟨ad, u, rfl, _, hx, hcell⟩ := (HA.out.below HB2.out).at_ hlt
      rw [ss_get l k hlt] at hx
      obtain rfl := Option.some.inj hx
      have hse : (f l[k]).length = (enc (l[k].size : Int)).length + l[k].size := by rw [HF.out]; unfold encB; simp
      have hP : (enc (l.length : Int) ++ (l.take k).flatMap f).length + l[k].size ≤ 140737487999900 := by omega
      have HE := Lib.hid (flat_succ f l k hlt (enc (l.length : Int)))
      clear hle hle2 hse
      obtain ⟨s, hs⟩ : ∃ s, s = l[k] := ⟨_, rfl⟩
      rw [← hs] at hcell hP HE
      have HS := Lib.hid hs
      clear hs
      go_wp2_with (go_at_call 39; refine (appBytes w.heap.size _ _ _ s _ HO2.out hsz hP).mono ?_; rintro e w2 ⟨v2, rfl, hown3, hb3⟩; have HO3 := Lib.hid hown3; have HB3 := Lib.hid hb3; clear hown3 hb3)
      go_roundw
      case rel => exact ⟨k + 1, by omega, by go_num, own_next HO3.out (by rw [HE.out, HF.out]), HB2.out.trans HB3.out⟩
      case measure => simp [intOf]; omega
    · obtain rfl : k = l.length := by omega
      go_wp2
      go_ret
      have h1 := HO2.out
      rw [List.take_length] at h1
      obtain ⟨A', c', rfl, _⟩ := own_form h1
      exact ⟨A', c', rfl, h1, HB2.out⟩

theorem Try.info57 : (Try.prog.info? 57).map (·.size) = some 16 := by kernel_rfl
theorem Try.arr57 : Try.prog.underlying 57 = some (.array 16 5) := by kernel_rfl
theorem Try.len57 : Try.prog.arrayLen 57 = 16 := by kernel_rfl
theorem Try.elem57 : Try.prog.elem 57 = 5 := by kernel_rfl
theorem Try.arr57' : Try.prog.underlying 57 = some (.array (Try.prog.arrayLen 57) (Try.prog.elem 57)) := by kernel_rfl
theorem slice57 (g : Nat) : ∀ W : World, (Instr.sliceAt 57 (.pointer (some ⟨g, 0, none⟩)) none none none).run Try.prog W = .ok (.slice (some ⟨g, 0, none⟩) 16 16) W := by
  intro W
  rw [run_sliceAt_array_all W 57 ⟨g, 0, none⟩ Try.arr57', Try.elem57, Try.size5, Try.len57]
  simp [slicedAt, Addr.add]

theorem flatten_at (l : List (List UInt8)) (h : ∀ x ∈ l, x.length = 16) (k : Nat) (hk : k < l.length) (j : Nat) (hj : j < 16) : l.flatten[k * 16 + j]? = l[k][j]? := by
  induction l generalizing k with
  | nil => simp at hk
  | cons x l ih =>
    have hx := h x (by simp)
    match k with
    | 0 => simp [List.getElem?_append_left (show j < x.length by omega)]
    | k + 1 =>
      rw [List.flatten_cons, List.getElem?_append_right (by omega), show (k + 1) * 16 + j - x.length = k * 16 + j by omega, ih (fun y hy => h y (by simp [hy])) k (by simpa using hk)]
      simp
theorem dg_at (l : List (List UInt8)) (h : ∀ x ∈ l, x.length = 16) (k : Nat) (hk : k < l.length) (j : Nat) (u : Value) (hu : (bs l[k])[j]? = some u) : (dg l)[k * 16 + j]? = some u := by
  have hl := h _ (List.getElem_mem hk)
  have hj : j < 16 := by
    have := (List.getElem?_eq_some_iff.1 hu).1
    rw [bs_length] at this; omega
  unfold dg bs
  unfold bs at hu
  rw [List.getElem?_map] at hu ⊢
  rw [flatten_at l h k hk j hj]
  exact hu

set_option maxHeartbeats 800000 in
theorem encDigests (A : Option Addr) (l : List (List UInt8)) (c : Nat) (w : World) (ha : Reads w w.heap.size 16 A l.length (dg l)) (h16 : ∀ x ∈ l, x.length = 16) (hn : l.length ≤ 4000000) :
    Calls Try.prog 22 #[.slice A l.length c] w fun e w' => ∃ A c, e = .returned (.slice A (encL id l).length c) ∧ w'.ownsRow w.heap.size 5 1 (.slice A (encL id l).length c) (encL id l).length (bs (encL id l)) ∧ Below w.heap.size w w' := by
  have hrn : inRange (l.length : Int) := ⟨by omega, by omega⟩
  have HA := Lib.hid ha
  have H16 := Lib.hid h16
  clear ha h16
  obtain ⟨i0, hi, hz0, hz1, hz2⟩ := info_parts Try.info5
  go_enter Try.func22, Try.ntmps22
  go_wp2_with (go_at_call 38; refine (appInt w.heap.size _ 0 [] _ _ (World.ownsRow_nil _ _ _ _) (Nat.le_refl _) hrn (by omega)).mono ?_; rintro e w1 ⟨v1, rfl, hown, hb⟩; have HO := Lib.hid (own_nil hown); have HB := Lib.hid hb; clear hown hb)
  go_loopw [3, 11] (fun o i wr => ∃ k : Nat, k ≤ l.length ∧ i = .int .i64 k ∧ wr.ownsRow w.heap.size 5 1 o (enc (l.length : Int) ++ (l.take k).flatMap id).length (bs (enc (l.length : Int) ++ (l.take k).flatMap id)) ∧ Below w.heap.size w wr)
    (fun _ i _ => l.length - (intOf i).toNat)
  case atStart => exact ⟨0, Nat.zero_le _, rfl, by simpa using HO.out, HB.out⟩
  case round =>
    obtain ⟨k, hk, rfl, hown, hbel⟩ := hrel
    have HO2 := Lib.hid hown
    have HB2 := Lib.hid hbel
    have hsz := hbel.size
    clear hown hbel
    by_cases hlt : k < l.length
    · obtain ⟨b, off, rfl, hbw, hcell⟩ := (HA.out.below HB2.out).lit (by omega)
      have hl16 := H16.out _ (List.getElem_mem hlt)
      obtain ⟨cs, hcs⟩ : ∃ cs, cs = bs l[k] := ⟨_, rfl⟩
      have hrange : wr.rangeAt b (off + k * 16) cs := fun j u hu => by
        have := hcell _ u (dg_at l H16.out k hlt j u (by rw [← hcs]; exact hu))
        rwa [← Nat.add_assoc] at this
      have hcl : cs.length = 16 := by rw [hcs, bs_length]; exact hl16
      have hone : ∀ u ∈ cs, u.oneCell' = true := by rw [hcs]; exact bs_one _
      have HR := Lib.hid hrange
      have HCL := Lib.hid hcl
      have H1 := Lib.hid hone
      have HCS := Lib.hid hcs
      have HP := Lib.hid (flat_succ id l k hlt (enc (l.length : Int)))
      have hP : (enc (l.length : Int) ++ (l.take k).flatMap id).length ≤ 100000000 := by
        rw [List.length_append]
        have h9 := (enc_len hrn).2
        have hf : ((l.take k).flatMap id).length ≤ 16 * k := by
          have : ∀ m : List (List UInt8), (∀ x ∈ m, x.length = 16) → (m.flatMap id).length = 16 * m.length := by
            intro m hm
            induction m with
            | nil => simp
            | cons x m ih => rw [List.flatMap_cons, List.length_append, ih (fun y hy => hm y (by simp [hy]))]; simp [hm x (by simp)]; omega
          rw [this _ (fun x hx => H16.out x (List.mem_of_mem_take hx)), List.length_take]; omega
        omega
      have hsl := slice57 wr.heap.size
      clear hcell hrange hcl hone hcs hl16
      go_wp2_with (first
        | (with_reducible refine wpList_load_mid rfl 57 (.tmp 13) rfl b (off + k * 16) rfl cs _ HR.out Try.arr57 rfl (by rw [HCL.out]; exact Try.info57) ?_)
        | (with_reducible refine wpList_store_new rfl 57 (.tmp 5) (.tmp 14) rfl _ _ cs.toArray rfl rfl (by rw [List.size_toArray, HCL.out]; exact Try.info57) (by simp [HCL.out]) (all_oneCell_toArray H1.out) ?_)
        | (at_builtin; refine wpList_append_own _ rfl (.tmp 15) (.tmp 16) 28 rfl w.heap.size 5 i0 (.int .u8 0) 1 1 Try.underlying28 hi hz0 hz1 hz2 rfl (by decide) _ _ _ rfl (HO2.out.alloc _) ⟨wr.heap.size, 0, none⟩ 16 16 cs rfl (by rw [HCL.out]) (cells_new _ _ _) H1.out (len_le (by omega)) (by omega) (by simp; omega) ?_; intro v1 w1 hown1 hgrow1 _; have HO3 := Lib.hid hown1; have HG3 := Lib.hid hgrow1; clear hown1 hgrow1))
      go_roundw
      case rel =>
        have h3 := HO3.out
        rw [← HCL.out] at h3
        refine ⟨k + 1, by omega, by go_num, own_next (q := l[k]) (by rw [← bs_length l[k], ← HCS.out]; exact h3) HP.out, ?_⟩
        exact (HB2.out.alloc hsz _).grown HG3.out (by simp; omega) (fun g hg => (HO2.out.lt g hg).1)
      case measure => simp [intOf]; omega
    · obtain rfl : k = l.length := by omega
      go_wp2
      go_ret
      have h1 := HO2.out
      rw [List.take_length] at h1
      obtain ⟨A', c', rfl, _⟩ := own_form h1
      exact ⟨A', c', rfl, h1, HB2.out⟩
end Go.Proofs.Ytlemelfepalnfaa
