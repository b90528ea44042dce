/-
  THE REFERENCE PACKAGE's Bytes, Ints, Strings, Digests, each by its contract.
-/
import Derived.Test.YtlemelfepalnfaaRef
import Derived.Laws.IdiomStrings
namespace Go.Proofs.Ytlemelfepalnfaa
open Go.RowKit WM

/-- '[]byte(s)' -/
theorem wpList_bytes_of {ops : Array Oper} {rest : List Oper} {o : Oper} {a : Act} {w : World} {Q : Exit → Act → World → Prop} (hgd : o.guard = none) (x : Operand) (ho : o.op = .convert 9 28 x) (s : ByteArray) (hx : a.eval x = .string s)
    (h : ∀ A c w', Reads w' w'.heap.size 1 A s.size (bs s.data.toList) → Below w.heap.size w w' → wpList Try.prog ops Q rest (a.put o.dst (.slice A s.size c)) w') : wpList Try.prog ops Q (o :: rest) a w := by
  refine wpList_plain hgd fun K hK => ?_
  have hr := run_bytes_of_string (P := Try.prog) w 9 28 5 s Try.underlying9 Try.underlying28 Try.underlying5
  unfold Oper.wp execOp
  simp only [ho, hx, Sem.run_bind, hr, Result.andThen_ok]
  refine hK _ _ (h _ _ _ ⟨by simp [bs_length], fun hn => ⟨_, rfl, ?_, fun j u hu => ?_⟩⟩ ?_)
  · rw [World.size_alloc]
    show w.heap.size < w.heap.size + 1
    omega
  · have hj : j < s.data.size := by
      have := (List.getElem?_eq_some_iff.1 hu).1
      rw [bs_length] at this; simpa using this
    rw [Addr.add_lit, Nat.zero_add]
    have h1 := World.cell?_alloc_mark w.drew (bytesRow s (grownCap w s.size 0 5)) 5 ((bytesRow s (grownCap w s.size 0 5)).size, (bytesRow s (grownCap w s.size 0 5)).size + 1) j
    refine Eq.trans h1 ?_
    rw [bytesRow_at s _ j hj, ← hu, bs_get _ j (by simpa using hj)]
    simp
  · exact ((Below.refl w.heap.size w).drew).alloc (Nat.le_refl _) _

set_option maxHeartbeats 400000 in
theorem refBytes (s : ByteArray) (w : World) (hs : s.size ≤ 140737487999900) :
    Calls Try.prog 17 #[.string s] w fun e w' => ∃ A c, e = .returned (.slice A (encB s.data.toList).length c) ∧ w'.ownsRow w.heap.size 5 1 (.slice A (encB s.data.toList).length c) (encB s.data.toList).length (bs (encB s.data.toList)) ∧ Below w.heap.size w w' := by
  have hr : inRange (s.size : Int) := ⟨by omega, by omega⟩
  have h9 := (enc_len hr).2
  obtain ⟨i0, hi, hz0, hz1, hz2⟩ := info_parts Try.info5
  go_enter Try.func17, Try.ntmps17
  go_wp2_with (first
    | (go_at_call 15; refine (refInt _ _ hr).mono ?_; rintro e w1 ⟨A1, c1, rfl, hown1, hb1⟩; have HO1 := Lib.hid hown1; have HB1 := Lib.hid hb1; have hs1 := hb1.size; clear hown1 hb1)
    | (with_reducible refine wpList_bytes_of rfl (.tmp 6) rfl s rfl ?_; intro A2 c2 w2 hr2 hb2; have HR2 := Lib.hid hr2; have HB2 := Lib.hid (below_then HB1.out hb2); have HO2 := Lib.hid (ownsRow_below HO1.out hb2); have hs2 := (below_then HB1.out hb2).size; clear hr2 hb2)
    | (at_builtin; refine wpList_append_any _ rfl (.tmp 5) (.tmp 7) _ rfl w.heap.size 5 i0 (.int .u8 0) 1 1 Try.underlying28 hi hz0 hz1 hz2 rfl (by omega) _ _ _ rfl HO2.out w2.heap.size A2 s.size c2 (bs s.data.toList) rfl HR2.out (bs_one _) (len_le (by omega)) (by omega) hs2 ?_; intro v3 w3 hown3 hgrow3 _; have HO3 := Lib.hid hown3; have HB3 := Lib.hid (HB2.out.grown hgrow3 hs2 (fun k hk => (HO2.out.lt k hk).1)); clear hown3 hgrow3))
  go_ret
  have h3 := HO3.out
  have e1 := encB_size s 0
  rw [Nat.zero_add, Nat.zero_add] at e1
  have e2 := encB_cells s []
  rw [List.nil_append, List.nil_append, strCells_eq] at e2
  rw [e1, e2] at h3
  obtain ⟨A', c', rfl, _⟩ := own_form h3
  exact ⟨A', c', rfl, h3, HB3.out⟩

set_option maxHeartbeats 800000 in
theorem refInts (A : Option Addr) (l : List Int) (c : Nat) (w : World) (ha : Reads w w.heap.size 1 A l.length (is l)) (hr : ∀ x ∈ l, inRange x) (hb : (encL enc l).length ≤ 140737487999900) (hn : l.length ≤ 140737487999900) :
    Calls Try.prog 19 #[.slice A l.length c] w fun e w' => ∃ A c, e = .returned (.slice A (encL enc l).length c) ∧ w'.ownsRow w.heap.size 5 1 (.slice A (encL enc l).length c) (encL enc l).length (bs (encL enc l)) ∧ Below w.heap.size w w' := by
  have hrn : inRange (l.length : Int) := ⟨by omega, by omega⟩
  unfold encL at hb
  rw [List.length_append] at hb
  obtain ⟨i0, hi, hz0, hz1, hz2⟩ := info_parts Try.info5
  have HA := Lib.hid ha
  have HR := Lib.hid hr
  clear ha hr
  go_enter Try.func19, Try.ntmps19
  go_wp2_with (go_at_call 15; refine (refInt _ _ hrn).mono ?_; rintro e w1 ⟨A1, c1, rfl, hown, hb⟩; have HO := Lib.hid hown; have HB := Lib.hid hb; clear hown hb)
  go_loopw [3, 4] (fun o i wr => ∃ k : Nat, k ≤ l.length ∧ i = .int .i64 k ∧ Hid (wr.ownsRow w.heap.size 5 1 o (enc (l.length : Int) ++ (l.take k).flatMap enc).length (bs (enc (l.length : Int) ++ (l.take k).flatMap enc))) ∧ Hid (Below w.heap.size w wr))
    (fun _ i _ => l.length - (intOf i).toNat)
  case atStart => exact ⟨0, Nat.zero_le _, rfl, by simpa [Hid] using HO.out, HB.out⟩
  case round =>
    obtain ⟨k, hk, rfl, HO2, HB2⟩ := hrel
    have hsz := HB2.out.size
    by_cases hlt : k < l.length
    · have hle := flat_le enc l (k + 1)
      have hle2 := congrArg List.length (flat_succ enc l k hlt (enc (l.length : Int)))
      rw [List.length_append, List.length_append] at hle2
      obtain ⟨ad, u, rfl, _, hx, hcell⟩ := (HA.out.below HB2.out).at_ hlt
      rw [is_get l k hlt] at hx
      obtain rfl := Option.some.inj hx
      have hrk := HR.out _ (List.getElem_mem hlt)
      have HE := Lib.hid (flat_succ enc l k hlt (enc (l.length : Int)))
      obtain ⟨x, hx⟩ : ∃ x, x = l[k] := ⟨_, rfl⟩
      rw [← hx] at hcell hrk hle2 HE
      have HRK := Lib.hid hrk
      have hle3 : (enc (l.length : Int) ++ (l.take k).flatMap enc).length + (enc x).length ≤ 140737487999900 := by omega
      clear hx hrk hle hle2
      go_wp2_with (first
        | (go_at_call 15; refine (refInt x _ HRK.out).mono ?_; rintro e w2 ⟨A2, c2, rfl, hown3, hb3⟩; have HR3 := Lib.hid (Reads.of_own hown3); have HO3 := Lib.hid (ownsRow_below HO2.out hb3); have HB3 := Lib.hid (HB2.out.trans (hb3.mono hsz)); have hs3 := (HB2.out.trans (hb3.mono hsz)).size; clear hown3 hb3)
        | (at_builtin; refine wpList_append_any _ rfl (.tmp 14) (.tmp 19) _ rfl w.heap.size 5 i0 (.int .u8 0) 1 1 Try.underlying28 hi hz0 hz1 hz2 rfl (by omega) _ _ _ rfl HO3.out w2.heap.size A2 (enc x).length c2 (bs (enc x)) rfl HR3.out (bs_one _) (len_le (by omega)) (by omega) hs3 ?_; intro v4 w4 hown4 hgrow4 _; have HO4 := Lib.hid hown4; have HB4 := Lib.hid (HB3.out.grown hgrow4 hs3 (fun k hk => (HO3.out.lt k hk).1)); clear hown4 hgrow4))
      go_roundw
      case rel => exact ⟨k + 1, by omega, by go_num, own_next HO4.out HE.out, HB4.out⟩
      case measure => simp [intOf]; omega
    · obtain rfl : k = l.length := by omega
      go_wp2
      go_ret
      have h1 := HO2.out
      rw [List.take_length] at h1
      obtain ⟨A', c', rfl, _⟩ := own_form h1
      exact ⟨A', c', rfl, h1, HB2.out⟩

set_option maxHeartbeats 800000 in
theorem refStrings (A : Option Addr) (l : List ByteArray) (c : Nat) (w : World) (ha : Reads w w.heap.size 1 A l.length (ss l)) (hb : (encS l).length ≤ 140737487999900) (hn : l.length ≤ 140737487999900) :
    Calls Try.prog 21 #[.slice A l.length c] w fun e w' => ∃ A c, e = .returned (.slice A (encS l).length c) ∧ w'.ownsRow w.heap.size 5 1 (.slice A (encS l).length c) (encS l).length (bs (encS l)) ∧ Below w.heap.size w w' := by
  have hrn : inRange (l.length : Int) := ⟨by omega, by omega⟩
  obtain ⟨f, hf⟩ : ∃ f : ByteArray → List UInt8, f = fun s => encB s.data.toList := ⟨_, rfl⟩
  have hes : encS l = enc (l.length : Int) ++ l.flatMap f := by rw [hf]; rfl
  rw [hes] at hb ⊢
  rw [List.length_append] at hb
  obtain ⟨i0, hi, hz0, hz1, hz2⟩ := info_parts Try.info5
  have HF := Lib.hid hf
  have HA := Lib.hid ha
  clear ha hf hes
  go_enter Try.func21, Try.ntmps21
  go_wp2_with (go_at_call 15; refine (refInt _ _ hrn).mono ?_; rintro e w1 ⟨A1, c1, rfl, hown, hb⟩; have HO := Lib.hid hown; have HB := Lib.hid hb; clear hown hb)
  go_loopw [3, 4] (fun o i wr => ∃ k : Nat, k ≤ l.length ∧ i = .int .i64 k ∧ Hid (wr.ownsRow w.heap.size 5 1 o (enc (l.length : Int) ++ (l.take k).flatMap f).length (bs (enc (l.length : Int) ++ (l.take k).flatMap f))) ∧ Hid (Below w.heap.size w wr))
    (fun _ i _ => l.length - (intOf i).toNat)
  case atStart => exact ⟨0, Nat.zero_le _, rfl, by simpa [Hid] using HO.out, HB.out⟩
  case round =>
    obtain ⟨k, hk, rfl, HO2, HB2⟩ := hrel
    have hsz := HB2.out.size
    by_cases hlt : k < l.length
    · have hle := flat_le f l (k + 1)
      have hle2 := congrArg List.length (flat_succ f l k hlt (enc (l.length : Int)))
      rw [List.length_append, List.length_append] at hle2
      obtain ⟨ad, u, rfl, _, hx, hcell⟩ := (HA.out.below HB2.out).at_ hlt
      rw [ss_get l k hlt] at hx
      obtain rfl := Option.some.inj hx
      have HE := Lib.hid (flat_succ f l k hlt (enc (l.length : Int)))
      obtain ⟨x, hx⟩ : ∃ x, x = l[k] := ⟨_, rfl⟩
      rw [← hx] at hcell hle2 HE
      have hfx : f x = encB x.data.toList := by rw [HF.out]
      rw [hfx] at hle2 HE
      have hle3 : (enc (l.length : Int) ++ (l.take k).flatMap f).length + (encB x.data.toList).length ≤ 140737487999900 := by omega
      have hxs : x.size ≤ (encB x.data.toList).length := by unfold encB; simp
      clear hx hle hle2 hfx
      go_wp2_with (first
        | (go_at_call 17; refine (refBytes x _ (by omega)).mono ?_; rintro e w2 ⟨A2, c2, rfl, hown3, hb3⟩; have HR3 := Lib.hid (Reads.of_own hown3); have HO3 := Lib.hid (ownsRow_below HO2.out hb3); have HB3 := Lib.hid (HB2.out.trans (hb3.mono hsz)); have hs3 := (HB2.out.trans (hb3.mono hsz)).size; clear hown3 hb3)
        | (at_builtin; refine wpList_append_any _ rfl (.tmp 14) (.tmp 19) _ rfl w.heap.size 5 i0 (.int .u8 0) 1 1 Try.underlying28 hi hz0 hz1 hz2 rfl (by omega) _ _ _ rfl HO3.out w2.heap.size A2 (encB x.data.toList).length c2 (bs (encB x.data.toList)) rfl HR3.out (bs_one _) (len_le (by omega)) (by omega) hs3 ?_; intro v4 w4 hown4 hgrow4 _; have HO4 := Lib.hid hown4; have HB4 := Lib.hid (HB3.out.grown hgrow4 hs3 (fun k hk => (HO3.out.lt k hk).1)); clear hown4 hgrow4))
      go_roundw
      case rel => exact ⟨k + 1, by omega, by go_num, own_next HO4.out HE.out, HB4.out⟩
      case measure => simp [intOf]; omega
    · obtain rfl : k = l.length := by omega
      go_wp2
      go_ret
      have h1 := HO2.out
      rw [List.take_length] at h1
      obtain ⟨A', c', rfl, _⟩ := own_form h1
      exact ⟨A', c', rfl, h1, HB2.out⟩

theorem flat16 (l : List (List UInt8)) (h16 : ∀ x ∈ l, x.length = 16) : (l.flatMap id).length = 16 * l.length := by
  induction l with
  | nil => simp
  | cons x l ih =>
    have h := h16 x (by simp)
    rw [List.flatMap_cons, List.length_append, ih (fun y hy => h16 y (by simp [hy])), List.length_cons]
    simp only [id]
    omega

set_option maxHeartbeats 800000 in
theorem refDigests (A : Option Addr) (l : List (List UInt8)) (c : Nat) (w : World) (ha : Reads w w.heap.size 16 A l.length (dg l)) (h16 : ∀ x ∈ l, x.length = 16) (hn : l.length ≤ 4000000) :
    Calls Try.prog 23 #[.slice A l.length c] w fun e w' => ∃ A c, e = .returned (.slice A (encL id l).length c) ∧ w'.ownsRow w.heap.size 5 1 (.slice A (encL id l).length c) (encL id l).length (bs (encL id l)) ∧ Below w.heap.size w w' := by
  have hrn : inRange (l.length : Int) := ⟨by omega, by omega⟩
  obtain ⟨i0, hi, hz0, hz1, hz2⟩ := info_parts Try.info5
  have h9 := (enc_len hrn).2
  have HA := Lib.hid ha
  have H16 := Lib.hid h16
  clear ha h16
  go_enter Try.func23, Try.ntmps23
  go_wp2_with (go_at_call 15; refine (refInt _ _ hrn).mono ?_; rintro e w1 ⟨A1, c1, rfl, hown, hb⟩; have HO := Lib.hid hown; have HB := Lib.hid hb; clear hown hb)
  go_loopw [3, 4] (fun o i wr => ∃ k : Nat, k ≤ l.length ∧ i = .int .i64 k ∧ Hid (wr.ownsRow w.heap.size 5 1 o (enc (l.length : Int) ++ (l.take k).flatMap id).length (bs (enc (l.length : Int) ++ (l.take k).flatMap id))) ∧ Hid (Below w.heap.size w wr))
    (fun _ i _ => l.length - (intOf i).toNat)
  case atStart => exact ⟨0, Nat.zero_le _, rfl, by simpa [Hid] using HO.out, HB.out⟩
  case round =>
    obtain ⟨k, hk, rfl, HO2, HB2⟩ := hrel
    by_cases hlt : k < l.length
    · have hl16 := H16.out _ (List.getElem_mem hlt)
      have HE := Lib.hid (flat_succ id l k hlt (enc (l.length : Int)))
      have hP : (enc (l.length : Int) ++ (l.take k).flatMap id).length ≤ 100000000 := by
        rw [List.length_append, flat16 _ (fun x hx => H16.out x (List.mem_of_mem_take hx)), List.length_take]; omega
      obtain ⟨wm, rfl⟩ : ∃ W : World, W = wr := ⟨_, rfl⟩
      obtain ⟨p, hp⟩ : ∃ p, p = enc (l.length : Int) ++ (l.take k).flatMap id := ⟨_, rfl⟩
      rw [← hp] at HO2 hP HE
      obtain ⟨x, hx⟩ : ∃ x, x = l[k] := ⟨_, rfl⟩
      have HX := Lib.hid hx
      rw [← hx] at hl16 HE
      clear hp hx
      go_wp2
      go_loopw [3, 5] (fun o i wr => ∃ q : Nat, q ≤ 16 ∧ i = .int .i64 q ∧ Hid (wr.ownsRow w.heap.size 5 1 o (p ++ x.take q).length (bs (p ++ x.take q))) ∧ Hid (Below w.heap.size w wr)) (fun _ i _ => 16 - (intOf i).toNat)
      case atStart => exact ⟨0, Nat.zero_le _, rfl, by simpa [Hid] using HO2.out, HB2⟩
      case round =>
        obtain ⟨q, hq, rfl, HO3, HB3⟩ := hrel
        have hs3 := HB3.out.size
        have hlen : (p ++ x.take q).length ≤ 100000016 := by rw [List.length_append, List.length_take]; omega
        by_cases hq16 : q < 16
        · obtain ⟨b, off, rfl, _, hcell⟩ := (HA.out.below HB3.out).lit (by omega)
          have hxq : q < x.length := by omega
          have hc1 : wr.cell? ⟨b, off + k * 16 + q, none⟩ = some (.int .u8 (x[q].toNat : Int)) := by
            have h1 := hcell (k * 16 + q) _ (dg_at l H16.out k hlt q _ (by rw [← HX.out]; exact bs_get x q hxq))
            rwa [← Nat.add_assoc] at h1
          have HT := Lib.hid (List.take_succ_eq_append_getElem hxq)
          obtain ⟨y, hy⟩ : ∃ y, y = x[q] := ⟨_, rfl⟩
          rw [← hy] at hc1 HT
          clear hcell hy
          go_wp2_with (at_builtin; refine wpList_append_own _ rfl (.tmp 19) (.tmp 26) 28 rfl w.heap.size 5 i0 (.int .u8 0) 1 1 Try.underlying28 hi hz0 hz1 hz2 rfl (by decide) _ _ _ rfl (HO3.out.alloc _) ⟨wr.heap.size, 0, none⟩ 1 1 [.int .u8 (y.toNat : Int)] rfl rfl (one_new _ _ _) (int_one _ _) (len_le (by omega)) (by omega) (by simp; omega) ?_; intro v4 w4 hown4 hgrow4 _; have HO4 := Lib.hid hown4; have HB4 := Lib.hid ((HB3.out.alloc hs3 _).grown hgrow4 (by simp; omega) (fun k hk => (HO3.out.lt k hk).1)); clear hown4 hgrow4)
          go_roundw
          case rel => exact ⟨q + 1, by omega, by go_num, own_next (q := [y]) HO4.out (by rw [HT.out, List.append_assoc]), HB4.out⟩
          case measure => simp [intOf]; omega
        · obtain rfl : q = 16 := by omega
          go_wp2
          go_roundw
          case rel =>
            refine ⟨k + 1, by omega, by go_num, ?_, HB3⟩
            have h1 := HO3.out
            rw [List.take_of_length_le (by omega)] at h1
            have h2 := HE.out
            simp only [id] at h2
            show World.ownsRow _ _ _ _ _ _ _
            rw [h2]
            exact h1
          case measure => simp [intOf]; omega
    · obtain rfl : k = l.length := by omega
      go_wp2
      go_ret
      have h1 := HO2.out
      rw [List.take_length] at h1
      obtain ⟨A', c', rfl, _⟩ := own_form h1
      exact ⟨A', c', rfl, h1, HB2.out⟩
end Go.Proofs.Ytlemelfepalnfaa
