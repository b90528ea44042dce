/-
  Of the walk of CodeBytes: what the bytes of a code are worth.
-/
import Derived.Test.YtdhmaopodcccmaaDoorG45
import Derived.Test.YtdhmaopodcccmaaDoorG26
import Derived.Test.YtdhmaopodcccmaaDoorG51
import Derived.Test.YtdhmaopodcccmaaDoorG53
set_option linter.unusedVariables false
namespace Go.Proofs.YtdhmaopodcccmaaDoor
open Go.RowKit WM TR KM

theorem encK_le {ch : Int} {es : List Ent} {w : World} {S : Nat → Prop} {Ac : Option Addr} {cc m : Nat} (hco : CoR w S Ac cc es) (hch : inRange ch) (hm : ∀ e ∈ es, e.body.length ≤ m) (hmm : m ≤ 200000) : (encK ch (es.map Ent.fn)).length ≤ 18 + es.length * (36 + 27 * m) ∧ 2 ≤ (encK ch (es.map Ent.fn)).length := by
  unfold encK
  rw [List.length_append, List.length_append, List.flatMap_map, List.length_map]
  have h1 := enc_len hch
  have hln := hco.len
  have h2 := enc_len (n := (es.length : Int)) ⟨by omega, by omega⟩
  have h3 : ∀ l : List Ent, (∀ e ∈ l, BodyR w S e ∧ e.body.length ≤ m) → (l.flatMap fun e => encF e.fn).length ≤ l.length * (36 + 27 * m) := by
    intro l
    induction l with
    | nil => intro _; simp
    | cons a l ih =>
      intro h
      rw [List.flatMap_cons, List.length_append, List.length_cons]
      obtain ⟨hb, hbm⟩ := h a List.mem_cons_self
      have h4 := (encF_le hb).1
      have h6 := encL_le (flatI a.body) (fun x hx => by
        obtain ⟨y, hy, hx⟩ := List.mem_flatMap.1 hx
        have := hb.ok y hy
        simp only [List.mem_cons, List.not_mem_nil, or_false] at hx
        rcases hx with rfl | rfl | rfl
        · exact this.1
        · exact this.2.1
        · exact this.2.2) (by rw [flatI_length]; omega)
      rw [flatI_length] at h6
      have h5 := ih fun e he => h e (List.mem_cons_of_mem _ he)
      rw [show encF a.fn = encL enc [a.p, a.w] ++ encL enc (flatI a.body) from rfl, List.length_append, Nat.add_mul, Nat.one_mul]
      omega
  have := h3 es fun e he => ⟨hco.all e he, hm e he⟩
  omega
theorem cok_of {ch : Int} {es : List Ent} {w : World} {S : Nat → Prop} {Ac : Option Addr} {cc : Nat} (hco : CoR w S Ac cc es) (hch : inRange ch) : COk ch (es.map Ent.fn) := by
  have hln := hco.len
  refine ⟨hch, by rw [List.length_map]; exact ⟨by omega, by omega⟩, fun f hf => ?_⟩
  obtain ⟨e, he, rfl⟩ := List.mem_map.1 hf
  have hb := hco.all e he
  refine ⟨hb.rp, hb.rw_, hb.ok, ?_⟩
  rw [show e.fn.body = e.body from rfl, flatI_length]
  have := hb.len
  omega
/-- The bytes of two codes, compared. -/
theorem sameKB (AB AY : Option Addr) (cB cY N NY : Nat) (ch ch' : Int) (fs gs : List KM.Fn) (w : World) (hx : Reads w w.heap.size 1 AB N (bs (encK ch fs))) (hy : Reads w w.heap.size 1 AY NY (bs (encK ch' gs))) (hN : (encK ch fs).length = N) (hNY : (encK ch' gs).length = NY) (h1 : N ≤ 1000000) (h2 : NY ≤ 1000000) (hok : COk ch fs) (hoky : COk ch' gs) :
    Calls Tryd.prog 14 #[.slice AB N cB, .slice AY NY cY] w fun e w' => e = .returned (.bool (sameK ⟨ch, fs⟩ ⟨ch', gs⟩)) ∧ Below w.heap.size w w' := by
  subst hN hNY
  by_cases h : encK ch fs = encK ch' gs
  · obtain ⟨rfl, rfl⟩ := encK_inj hok hoky h
    rw [show sameK ⟨ch, fs⟩ ⟨ch, fs⟩ = true by simp [sameK]]
    exact same _ _ AB AY cB cY (encK ch fs) w hx hy (by omega)
  · have hne : sameK ⟨ch, fs⟩ ⟨ch', gs⟩ = false := by
      cases hs : sameK ⟨ch, fs⟩ ⟨ch', gs⟩ with
      | false => rfl
      | true =>
        simp only [sameK, Bool.and_eq_true, beq_iff_eq, decide_eq_true_eq] at hs
        obtain ⟨rfl, rfl⟩ := hs
        exact absurd rfl h
    rw [hne]
    exact sameNe _ _ AB AY cB cY _ _ w hx hy (by omega) h
theorem neqD (D : List UInt8) (hD : D.length = 16) (W : World) : (binOp .neq 37 (.agg (bs D).toArray) (.agg (bs D).toArray)).run Tryd.prog W = .ok (.bool false) W := by
  obtain ⟨i0, hi, _⟩ := info_parts Tryd.info5
  have h1 := run_equalIn_array (P := Tryd.prog) (w := W) 9999 (bs D).toArray (bs D).toArray Tryd.underlying37 hi
  rw [Tryd.cells5, eqItems_bytes D D W _ (fun i hi => by rw [List.mem_range] at hi; omega), all_eq D D 16 hD hD] at h1
  simp only [binOp]
  simp [Op.equal, Op.maxDepth, h1]
theorem kstr1 (w : World) (s : ByteArray) : Reads (w.alloc (.cells #[.string s] 9)) (w.alloc (.cells #[.string s] 9)).heap.size 1 (some ⟨w.heap.size, 0, none⟩) 1 (ss [s]) :=
  ⟨rfl, fun _ => ⟨_, rfl, (by rw [size_alloc]; exact Nat.lt_succ_self _), one_new _ _ _⟩⟩
theorem below_grK {a w w' : World} {row : Option Nat} (hb : Below a.heap.size a w) (h : w.grownBy w' row) (hr : ∀ b, row = some b → a.heap.size ≤ b) : Below a.heap.size a w' :=
  ⟨h.os.trans hb.os, h.tape.trans hb.tape, h.output.trans hb.output, Nat.le_trans hb.size h.size, fun i hi => (h.block i (Nat.lt_of_lt_of_le hi hb.size) (fun e => by have := hr i e.symm; omega)).trans (hb.block i hi)⟩
end Go.Proofs.YtdhmaopodcccmaaDoor
