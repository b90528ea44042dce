/-
  A builtin that has written into no elder block.
-/
import Derived.Test.YtbdknncmlcbbpaaDoorG01
import Derived.Test.YtbdknncmlcbbpaaDoorG40
import Derived.Test.YtbdknncmlcbbpaaDoorG26
import Derived.ChangeKeysEq
import Derived.Test.YtbdknncmlcbbpaaDoorG33
import Derived.Test.YtbdknncmlcbbpaaDoorG17
import Derived.Test.YtbdknncmlcbbpaaDoorG39
import Derived.Test.YtbdknncmlcbbpaaDoorG32
import Derived.Laws.IdiomStrings
set_option linter.unusedVariables false
namespace Go.Proofs.YtbdknncmlcbbpaaDoor
open Go.RowKit WM

theorem below_none {w w' : World} (h : w.grownBy w' none) : Below w.heap.size w w' := ⟨h.os, h.tape, h.output, h.size, fun i hi => h.block i hi (fun e => nomatch e)⟩
end Go.Proofs.YtbdknncmlcbbpaaDoor

/-
  The reference's Few: the first bytes, in a row of its own.
-/
namespace Go.Proofs.YtbdknncmlcbbpaaDoor
open Go.RowKit WM

/-- 'b[:k]' -/
theorem cut8 (A : Option Addr) (n c k : Nat) (hk : k ≤ c) : ∀ W : World, (Instr.sliceAt 32 (.slice A n c) none (some (.int .i64 (k : Int))) none).run Tryd.prog W = .ok (.slice (if c = 0 then A else A.map (·.add 0)) k c) W := by
  intro W
  rw [run_sliceAt_slice W 32 _ _ _ _ Tryd.slBytes, run_slice_h W 32 A n c Tryd.slBytes .i64 k (by omega) (by omega), Tryd.elemBytes, Tryd.siz5]
  simp [sliced]
theorem reads_cut8 {w : World} {B n c k : Nat} {A : Option Addr} {l : List UInt8} (h : Reads w B 1 A n (bs l)) (hk : k ≤ n) : Reads w B 1 (if c = 0 then A else A.map (·.add 0)) k (bs (l.take k)) := by
  have h2 := reads_take h hk
  rw [bs_take] at h2
  refine ⟨h2.1, fun hn => ?_⟩
  obtain ⟨ad, e, hb, hc⟩ := h2.2 hn
  subst e
  refine ⟨ad, ?_, hb, hc⟩
  split <;> simp [Addr.add]

set_option maxRecDepth 100000 in
set_option maxHeartbeats 1600000 in
theorem few_is (A : Option Addr) (l : List UInt8) (c m : Nat) (w : World) (ha : Reads w w.heap.size 1 A l.length (bs l)) (hlc : l.length ≤ c) (hn : l.length ≤ 9223372036854775807) (hm : m ≤ 1000000) :
    Calls Tryd.prog 22 #[.slice A l.length c, .int .i64 m] w fun e w' => ∃ A' c', e = .returned (.slice A' (l.take m).length c') ∧ w'.ownsRow w.heap.size 5 1 (.slice A' (l.take m).length c') (l.take m).length (bs (l.take m)) ∧ Below w.heap.size w w' := by
  obtain ⟨i0, hi, hz0, hz1, hz2⟩ := info_parts Tryd.info5
  have e0 : ∀ W : World, W.ownsRow w.heap.size 5 1 (.slice none 0 0) 0 [] := fun W => World.ownsRow_nil _ _ _ _
  have HE := Lib.hid e0
  obtain ⟨n, hnn⟩ : ∃ n, n = (l.take m).length := ⟨_, rfl⟩
  have hn2 : n = min m l.length := by rw [hnn, List.length_take]
  have hn3 : l.take m = l.take n := by
    by_cases h : m ≤ l.length
    · rw [hn2, Nat.min_eq_left h]
    · rw [List.take_of_length_le (by omega), List.take_of_length_le (by omega)]
  rw [← hnn, hn3]
  have hc8 := cut8 A l.length c n (by omega)
  have HR := Lib.hid (reads_cut8 (c := c) (k := n) ha (by omega))
  obtain ⟨A2, hA2⟩ : ∃ A2, A2 = (if c = 0 then A else A.map (·.add 0)) := ⟨_, rfl⟩
  rw [← hA2] at hc8 HR
  obtain ⟨q, hq⟩ : ∃ q, q = l.length := ⟨_, rfl⟩
  rw [← hq] at hc8 hn2 hlc hn ⊢
  have hn10 : n ≤ 1000000 := by omega
  clear ha hA2 e0 hn3 hnn hq
  rcases (show (n = q ∧ q ≤ m) ∨ (n = m ∧ ¬ q ≤ m) by omega) with ⟨rfl, hlm⟩ | ⟨rfl, hlm⟩
  all_goals
    clear hn2
    go_enter Tryd.func22, Tryd.ntmps22
    go_wp2_with (first
      | (at_builtin; refine wpList_append_any _ rfl (.tmp 6) (.tmp 12) _ rfl w.heap.size 5 i0 (.int .u8 0) 1 1 Tryd.underlying32 hi hz0 hz1 hz2 rfl (by omega) _ 0 [] rfl (HE.out w) w.heap.size A2 n c (bs (l.take n)) rfl HR.out (bs_one _) (len_le (by omega)) (by omega) (Nat.le_refl _) ?_; intro v2 w2 hown2 hgrow2 _; have HO2 := Lib.hid hown2; have HG2 : Hid (w.grownBy w2 none) := Lib.hid hgrow2; clear hown2 hgrow2))
    have ho := HO2.out
    rw [Nat.zero_add, List.nil_append] at ho
    obtain ⟨A6, c6, rfl, _⟩ := own_len ho
    go_ret
    exact ⟨_, _, rfl, ho, below_none HG2.out⟩
end Go.Proofs.YtbdknncmlcbbpaaDoor

/-
  THE COMPARISON of arrays of bytes.
-/
namespace Go.Proofs.YtbdknncmlcbbpaaDoor
open Go.RowKit

theorem Tryd.plain5 : Tryd.prog.plainKey 5 = true := by kernel_rfl
theorem Tryd.cells5 : Tryd.prog.cellsOf 5 = 1 := by kernel_rfl
theorem eqItems_bytes (x y : List UInt8) (W : World) : ∀ is : List Nat, (∀ i ∈ is, i < x.length ∧ i < y.length) → (Op.eqItems 9999 5 1 (bs x).toArray (bs y).toArray is).run Tryd.prog W = .ok (is.all fun i => x[i]? == y[i]?) W := by
  intro is
  induction is with
  | nil => intro _; simp [Op.eqItems]
  | cons i is ih =>
    intro h
    obtain ⟨h1, h2⟩ := h i (by simp)
    have hg1 : (bs x).toArray[i * 1]? = some (.int .u8 (x[i].toNat : Int)) := by rw [Nat.mul_one]; simpa using bs_get x i h1
    have hg2 : (bs y).toArray[i * 1]? = some (.int .u8 (y[i].toNat : Int)) := by rw [Nat.mul_one]; simpa using bs_get y i h2
    have hp1 := run_part_plain (P := Tryd.prog) W Tryd.plain5 hg1
    have hp2 := run_part_plain (P := Tryd.prog) W Tryd.plain5 hg2
    have he := run_equalIn_int (P := Tryd.prog) W 9998 5 .u8 .u8 (x[i].toNat : Int) (y[i].toNat : Int) Tryd.underlying5
    have hxy : (x[i]? == y[i]?) = decide ((x[i].toNat : Int) = (y[i].toNat : Int)) := by
      rw [List.getElem?_eq_getElem h1, List.getElem?_eq_getElem h2, Bool.eq_iff_iff]
      simp only [beq_iff_eq, Option.some.injEq, decide_eq_true_eq]
      exact ⟨fun h => by rw [h], fun h => UInt8.toNat_inj.1 (by omega)⟩
    simp only [Op.eqItems, Sem.run_bind, hp1, hp2, Result.andThen_ok, he]
    by_cases heq : (x[i].toNat : Int) = (y[i].toNat : Int)
    · have hb : (x[i]? == y[i]?) = true := by rw [hxy]; simpa using heq
      rw [List.all_cons, hb]
      simpa [heq] using ih (fun j hj => h j (by simp [hj]))
    · have hb : (x[i]? == y[i]?) = false := by rw [hxy]; simpa using heq
      rw [List.all_cons, hb]
      simp [heq]
theorem all_eq (x y : List UInt8) (n : Nat) (hx : x.length = n) (hy : y.length = n) : ((List.range n).all fun i => x[i]? == y[i]?) = decide (x = y) := by
  rw [Bool.eq_iff_iff]
  simp only [List.all_eq_true, List.mem_range, beq_iff_eq, decide_eq_true_eq]
  constructor
  · intro h
    apply List.ext_getElem?
    intro i
    by_cases hi : i < n
    · exact h i hi
    · rw [List.getElem?_eq_none (by omega), List.getElem?_eq_none (by omega)]
  · rintro rfl i _; rfl
theorem eq24 (x y : List UInt8) (hx : x.length = 32) (hy : y.length = 32) (W : World) : (binOp .eql 92 (.agg (bs x).toArray) (.agg (bs y).toArray)).run Tryd.prog W = .ok (.bool (decide (x = y))) W := by
  obtain ⟨i0, hi, _⟩ := info_parts Tryd.info5
  have h1 := run_equalIn_array (P := Tryd.prog) (w := W) 9999 (bs x).toArray (bs y).toArray Tryd.underlying92 hi
  rw [Tryd.cells5, eqItems_bytes x y W _ (fun i hi => by rw [List.mem_range] at hi; omega), all_eq x y 32 hx hy] at h1
  simp only [binOp]
  simp [Op.equal, Op.maxDepth, h1]
theorem eq44 (x y : List UInt8) (hx : x.length = 16) (hy : y.length = 16) (W : World) : (binOp .eql 37 (.agg (bs x).toArray) (.agg (bs y).toArray)).run Tryd.prog W = .ok (.bool (decide (x = y))) W := by
  obtain ⟨i0, hi, _⟩ := info_parts Tryd.info5
  have h1 := run_equalIn_array (P := Tryd.prog) (w := W) 9999 (bs x).toArray (bs y).toArray Tryd.underlying37 hi
  rw [Tryd.cells5, eqItems_bytes x y W _ (fun i hi => by rw [List.mem_range] at hi; omega), all_eq x y 16 hx hy] at h1
  simp only [binOp]
  simp [Op.equal, Op.maxDepth, h1]
end Go.Proofs.YtbdknncmlcbbpaaDoor

/-
  Of the walk of CodeBytes: what the bytes of a code are worth.
-/
namespace Go.Proofs.YtbdknncmlcbbpaaDoor
open Go.RowKit WM TR KM

theorem encK_le {ch : Int} {es : List Ent} {w : World} {S : Nat → Prop} {Ac : Option Addr} {cc m : Nat} (hco : CoR w S Ac cc es) (hch : inRange ch) (hm : ∀ e ∈ es, e.body.length ≤ m) (hmm : m ≤ 200000) : (encK ch (es.map Ent.fn)).length ≤ 18 + es.length * (36 + 27 * m) ∧ 2 ≤ (encK ch (es.map Ent.fn)).length := by
  unfold encK
  rw [List.length_append, List.length_append, List.flatMap_map, List.length_map]
  have h1 := enc_len hch
  have hln := hco.len
  have h2 := enc_len (n := (es.length : Int)) ⟨by omega, by omega⟩
  have h3 : ∀ l : List Ent, (∀ e ∈ l, BodyR w S e ∧ e.body.length ≤ m) → (l.flatMap fun e => encF e.fn).length ≤ l.length * (36 + 27 * m) := by
    intro l
    induction l with
    | nil => intro _; simp
    | cons a l ih =>
      intro h
      rw [List.flatMap_cons, List.length_append, List.length_cons]
      obtain ⟨hb, hbm⟩ := h a List.mem_cons_self
      have h4 := (encF_le hb).1
      have h6 := encL_le (flatI a.body) (fun x hx => by
        obtain ⟨y, hy, hx⟩ := List.mem_flatMap.1 hx
        have := hb.ok y hy
        simp only [List.mem_cons, List.not_mem_nil, or_false] at hx
        rcases hx with rfl | rfl | rfl
        · exact this.1
        · exact this.2.1
        · exact this.2.2) (by rw [flatI_length]; omega)
      rw [flatI_length] at h6
      have h5 := ih fun e he => h e (List.mem_cons_of_mem _ he)
      rw [show encF a.fn = encL enc [a.p, a.w] ++ encL enc (flatI a.body) from rfl, List.length_append, Nat.add_mul, Nat.one_mul]
      omega
  have := h3 es fun e he => ⟨hco.all e he, hm e he⟩
  omega
theorem cok_of {ch : Int} {es : List Ent} {w : World} {S : Nat → Prop} {Ac : Option Addr} {cc : Nat} (hco : CoR w S Ac cc es) (hch : inRange ch) : COk ch (es.map Ent.fn) := by
  have hln := hco.len
  refine ⟨hch, by rw [List.length_map]; exact ⟨by omega, by omega⟩, fun f hf => ?_⟩
  obtain ⟨e, he, rfl⟩ := List.mem_map.1 hf
  have hb := hco.all e he
  refine ⟨hb.rp, hb.rw_, hb.ok, ?_⟩
  rw [show e.fn.body = e.body from rfl, flatI_length]
  have := hb.len
  omega
/-- The bytes of two codes, compared. -/
theorem sameKB (AB AY : Option Addr) (cB cY N NY : Nat) (ch ch' : Int) (fs gs : List KM.Fn) (w : World) (hx : Reads w w.heap.size 1 AB N (bs (encK ch fs))) (hy : Reads w w.heap.size 1 AY NY (bs (encK ch' gs))) (hN : (encK ch fs).length = N) (hNY : (encK ch' gs).length = NY) (h1 : N ≤ 1000000) (h2 : NY ≤ 1000000) (hok : COk ch fs) (hoky : COk ch' gs) :
    Calls Tryd.prog 14 #[.slice AB N cB, .slice AY NY cY] w fun e w' => e = .returned (.bool (sameK ⟨ch, fs⟩ ⟨ch', gs⟩)) ∧ Below w.heap.size w w' := by
  subst hN hNY
  by_cases h : encK ch fs = encK ch' gs
  · obtain ⟨rfl, rfl⟩ := encK_inj hok hoky h
    rw [show sameK ⟨ch, fs⟩ ⟨ch, fs⟩ = true by simp [sameK]]
    exact same _ _ AB AY cB cY (encK ch fs) w hx hy (by omega)
  · have hne : sameK ⟨ch, fs⟩ ⟨ch', gs⟩ = false := by
      cases hs : sameK ⟨ch, fs⟩ ⟨ch', gs⟩ with
      | false => rfl
      | true =>
        simp only [sameK, Bool.and_eq_true, beq_iff_eq, decide_eq_true_eq] at hs
        obtain ⟨rfl, rfl⟩ := hs
        exact absurd rfl h
    rw [hne]
    exact sameNe _ _ AB AY cB cY _ _ w hx hy (by omega) h
theorem neqD (D : List UInt8) (hD : D.length = 16) (W : World) : (binOp .neq 37 (.agg (bs D).toArray) (.agg (bs D).toArray)).run Tryd.prog W = .ok (.bool false) W := by
  obtain ⟨i0, hi, _⟩ := info_parts Tryd.info5
  have h1 := run_equalIn_array (P := Tryd.prog) (w := W) 9999 (bs D).toArray (bs D).toArray Tryd.underlying37 hi
  rw [Tryd.cells5, eqItems_bytes D D W _ (fun i hi => by rw [List.mem_range] at hi; omega), all_eq D D 16 hD hD] at h1
  simp only [binOp]
  simp [Op.equal, Op.maxDepth, h1]
theorem kstr1 (w : World) (s : ByteArray) : Reads (w.alloc (.cells #[.string s] 9)) (w.alloc (.cells #[.string s] 9)).heap.size 1 (some ⟨w.heap.size, 0, none⟩) 1 (ss [s]) :=
  ⟨rfl, fun _ => ⟨_, rfl, (by rw [size_alloc]; exact Nat.lt_succ_self _), one_new _ _ _⟩⟩
theorem below_grK {a w w' : World} {row : Option Nat} (hb : Below a.heap.size a w) (h : w.grownBy w' row) (hr : ∀ b, row = some b → a.heap.size ≤ b) : Below a.heap.size a w' :=
  ⟨h.os.trans hb.os, h.tape.trans hb.tape, h.output.trans hb.output, Nat.le_trans hb.size h.size, fun i hi => (h.block i (Nat.lt_of_lt_of_le hi hb.size) (fun e => by have := hr i e.symm; omega)).trans (hb.block i hi)⟩
end Go.Proofs.YtbdknncmlcbbpaaDoor

/-
  scoriaref01.Ints, by its contract.
-/
namespace Go.Proofs.YtbdknncmlcbbpaaDoor
open Go.RowKit WM

set_option maxHeartbeats 800000 in
theorem refInts (A : Option Addr) (l : List Int) (c : Nat) (w : World) (ha : Reads w w.heap.size 1 A l.length (is l)) (hr : ∀ x ∈ l, inRange x) (hb : (encL enc l).length ≤ 140737487999900) (hn : l.length ≤ 140737487999900) :
    Calls Tryd.prog 45 #[.slice A l.length c] w fun e w' => ∃ A c, e = .returned (.slice A (encL enc l).length c) ∧ w'.ownsRow w.heap.size 5 1 (.slice A (encL enc l).length c) (encL enc l).length (bs (encL enc l)) ∧ Below w.heap.size w w' := by
  have hrn : inRange (l.length : Int) := ⟨by omega, by omega⟩
  unfold encL at hb
  rw [List.length_append] at hb
  obtain ⟨i0, hi, hz0, hz1, hz2⟩ := info_parts Tryd.info5
  have HA := Lib.hid ha
  have HR := Lib.hid hr
  clear ha hr
  go_enter Tryd.func45, Tryd.ntmps45
  go_wp2_with (go_at_call 44; refine (refInt _ _ hrn).mono ?_; rintro e w1 ⟨A1, c1, rfl, hown, hb⟩; have HO := Lib.hid hown; have HB := Lib.hid hb; clear hown hb)
  go_loopw [3, 4] (fun o i wr => ∃ k : Nat, k ≤ l.length ∧ i = .int .i64 k ∧ Hid (wr.ownsRow w.heap.size 5 1 o (enc (l.length : Int) ++ (l.take k).flatMap enc).length (bs (enc (l.length : Int) ++ (l.take k).flatMap enc))) ∧ Hid (Below w.heap.size w wr))
    (fun _ i _ => l.length - (intOf i).toNat)
  case atStart => exact ⟨0, Nat.zero_le _, rfl, by simpa [Hid] using HO.out, HB.out⟩
  case round =>
    obtain ⟨k, hk, rfl, HO2, HB2⟩ := hrel
    have hsz := HB2.out.size
    by_cases hlt : k < l.length
    · have hle := flat_le enc l (k + 1)
      have hle2 := congrArg List.length (flat_succ enc l k hlt (enc (l.length : Int)))
      rw [List.length_append, List.length_append] at hle2
      obtain ⟨ad, u, rfl, _, hx, hcell⟩ := (HA.out.below HB2.out).at_ hlt
      rw [is_get l k hlt] at hx
      obtain rfl := Option.some.inj hx
      have hrk := HR.out _ (List.getElem_mem hlt)
      have HE := Lib.hid (flat_succ enc l k hlt (enc (l.length : Int)))
      obtain ⟨x, hx⟩ : ∃ x, x = l[k] := ⟨_, rfl⟩
      rw [← hx] at hcell hrk hle2 HE
      have HRK := Lib.hid hrk
      have hle3 : (enc (l.length : Int) ++ (l.take k).flatMap enc).length + (enc x).length ≤ 140737487999900 := by omega
      clear hx hrk hle hle2
      go_wp2_with (first
        | (go_at_call 44; refine (refInt x _ HRK.out).mono ?_; rintro e w2 ⟨A2, c2, rfl, hown3, hb3⟩; have HR3 := Lib.hid (Reads.of_own hown3); have HO3 := Lib.hid (ownsRow_below HO2.out hb3); have HB3 := Lib.hid (HB2.out.trans (hb3.mono hsz)); have hs3 := (HB2.out.trans (hb3.mono hsz)).size; clear hown3 hb3)
        | (at_builtin; refine wpList_append_any _ rfl (.tmp 14) (.tmp 19) _ rfl w.heap.size 5 i0 (.int .u8 0) 1 1 Tryd.underlying32 hi hz0 hz1 hz2 rfl (by omega) _ _ _ rfl HO3.out w2.heap.size A2 (enc x).length c2 (bs (enc x)) rfl HR3.out (bs_one _) (len_le (by omega)) (by omega) hs3 ?_; intro v4 w4 hown4 hgrow4 _; have HO4 := Lib.hid hown4; have HB4 := Lib.hid (HB3.out.grown hgrow4 hs3 (fun k hk => (HO3.out.lt k hk).1)); clear hown4 hgrow4))
      go_roundw
      case rel => exact ⟨k + 1, by omega, by go_num, own_next HO4.out HE.out, HB4.out⟩
      case measure => simp [intOf]; omega
    · obtain rfl : k = l.length := by omega
      go_wp2
      go_ret
      have h1 := HO2.out
      rw [List.take_length] at h1
      obtain ⟨A', c', rfl, _⟩ := own_form h1
      exact ⟨A', c', rfl, h1, HB2.out⟩
end Go.Proofs.YtbdknncmlcbbpaaDoor
