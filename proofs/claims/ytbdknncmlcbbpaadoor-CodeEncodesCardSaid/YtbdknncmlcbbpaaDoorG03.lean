/-
  MEMORY, lemmas of no program's own: arrays by value, parts of a block that is known whole, rows that a call makes, a region walked in the text's order below a heap's size.
-/
import Derived.Test.YtbdknncmlcbbpaaDoorG01
import Derived.Laws.CopyRow
import Derived.Laws.IdiomStrings
import Derived.Deep.RegionWith
import Derived.StillTailTactics
import Derived.Deep.QuietTactic
import Derived.BigQuiet
set_option linter.unusedVariables false
namespace Go.Proofs.YtbdknncmlcbbpaaDoor
open Go.RowKit

theorem size_alloc (w : World) (o : Obj) : (w.alloc o).heap.size = w.heap.size + 1 := by simp
theorem below_drewN {B : Nat} {a w : World} (h : Below B a w) (n : Nat) : Below B a (w.drewN n) := ⟨h.os, h.tape, h.output, h.size, h.block⟩
theorem quiet_add {P : Program} {f : FuncId} {args : Array Value} {w : World} {a n : Nat} {v : Value}
    (h : Calls P f args (w.drewN (a + n)) fun e w' => e = .returned v ∧ ∃ m, w' = (w.drewN (a + n)).drewN m) :
    Calls P f args (w.drewN (a + n)) fun e w'' => e = .returned v ∧ ∃ m, w'' = w.drewN (a + m) :=
  h.mono fun _ _ ⟨he, m, hm⟩ => ⟨he, n + m, by rw [hm, World.drewN_drewN, Nat.add_assoc]⟩
theorem quiet_add_left {P : Program} {f : FuncId} {args : Array Value} {w : World} {a n : Nat} {v : Value}
    (h : Calls P f args (w.drewN (a + n)) fun e w' => e = .returned v ∧ w.drewN (a + n) = w') :
    Calls P f args (w.drewN (a + n)) fun e w'' => e = .returned v ∧ ∃ m, w'' = w.drewN (a + m) :=
  h.mono fun _ _ ⟨he, hm⟩ => ⟨he, n, hm.symm⟩
theorem quiet_left {P : Program} {f : FuncId} {args : Array Value} {w : World} {n : Nat} {v : Value}
    (h : Calls P f args (w.drewN n) fun e w' => e = .returned v ∧ w.drewN n = w') : Calls P f args (w.drewN n) fun e w'' => e = .returned v ∧ ∃ m, w'' = w.drewN m :=
  h.mono fun _ _ ⟨he, hm⟩ => ⟨he, n, hm.symm⟩
section
variable {w w' : World} {g : Nat} {t : TypeId} {cs : Array Value}
theorem Blk.setRow (h : Blk w g t cs) (cs' : Array Value) : Blk (w.setRow g cs') g t cs' := setRow_heap w g cs cs' t _ h
theorem Blk.setRow_far {g' : Nat} (h : Blk w g t cs) (hne : g ≠ g') (cs' : Array Value) : Blk (w.setRow g' cs') g t cs := by
  unfold Blk at h ⊢
  unfold World.setRow
  simp only
  rw [Array.getElem?_modify, if_neg (by omega)]
  exact h
end
theorem setRow_other (w : World) (g' : Nat) (cs : Array Value) (g : Nat) (hne : g' ≠ g) : (w.setRow g' cs).heap[g]? = w.heap[g]? := by
  unfold World.setRow
  simp only
  rw [Array.getElem?_modify, if_neg hne]
theorem below_setRow {B g : Nat} {a w : World} (h : Below B a w) (hg : B ≤ g) (cs : Array Value) : Below B a (w.setRow g cs) :=
  ⟨h.os, h.tape, h.output, by rw [size_setRow]; exact h.size, fun i hi => by
    have : (w.setRow g cs).heap[i]? = w.heap[i]? := by
      unfold World.setRow
      simp only
      rw [Array.getElem?_modify, if_neg (by omega)]
    rw [this]
    exact h.block i hi⟩
/-- A part of a list put anew. -/
def seg (cs : List Value) (o : Nat) (vs : List Value) : List Value := cs.take o ++ vs ++ cs.drop (o + vs.length)
theorem seg_length {cs : List Value} {o : Nat} {vs : List Value} (h : o + vs.length ≤ cs.length) : (seg cs o vs).length = cs.length := by
  simp [seg]; omega
section
variable {P : Program} (w : World)
/-- An array's element, by value. -/
theorem run_index_arr (t e : TypeId) (n : Nat) (cs : List Value) (i : Nat) (u : Value) (ht : P.underlying t = some (.array n e)) (h1 : ∀ W, (sizeOf e).run P W = .ok 1 W) (ha : ∀ W, (isAgg e).run P W = .ok false W) (hi : i < n) (hu : cs[i]? = some u) :
    (Instr.index t (.agg cs.toArray) (.int .i64 (i : Int))).run P w = .ok u w := by
  have hil : i < cs.length := (List.getElem?_eq_some_iff.1 hu).1
  have hv : cs[i] = u := (List.getElem?_eq_some_iff.1 hu).2
  have c1 : (0 : Int) ≤ i ∧ (i : Int) < n := ⟨by omega, by omega⟩
  simp only [Instr.index, asIntOf, Sem.run_bind, Sem.run_pure, Result.andThen_ok, run_underlying ht]
  rw [if_pos c1]
  simp [part, Sem.run_bind, h1, ha, hv, hil]
theorem wpList_store_seg {ops : Array Oper} {rest : List Oper} {op : Oper} {a : Act} {Q : Exit → Act → World → Prop} (hgd : op.guard = none) (ty : TypeId) (x y : Operand) (ho : op.op = .store ty x y)
    (g o : Nat) (vs : List Value) (hx : a.eval x = .pointer (some ⟨g, o, none⟩)) (hy : a.eval y = .agg vs.toArray)
    (t : TypeId) (cs : List Value) (hg : Blk w g t cs.toArray) (hi : (P.info? ty).map (·.size) = some vs.length) (hfit : o + vs.length ≤ cs.length) (h1 : ∀ v ∈ vs, v.oneCell' = true)
    (h : ∀ w1, w1 = w.setRow g (seg cs o vs).toArray → wpList P ops Q rest (a.put op.dst undef) w1) : wpList P ops Q (op :: rest) a w := by
  refine wpList_plain hgd fun _ hK => ?_
  have hst := run_storeCells_at P g o t vs 0 cs.toArray w hg (by simpa using hfit) h1
  have hr : (storeVar ty ⟨g, o, none⟩ (.agg vs.toArray)).run P w = .ok () (w.setRow g (seg cs o vs).toArray) := by
    cases hq : P.info? ty with
    | none => simp [hq] at hi
    | some i =>
      have hs : i.size = vs.length := by simpa [hq] using hi
      simp only [Nat.add_zero] at hst
      simp [storeVar, sizeOf, typeInfo, hq, Value.cells, hs, hst, seg]
  unfold Oper.wp execOp
  simp only [ho, hx, hy, Instr.storeAt, Instr.sureAddr, Sem.run_bind, Sem.run_pure, Result.andThen_ok, hr]
  exact hK _ _ (h _ rfl)
theorem wpList_load_seg {ops : Array Oper} {rest : List Oper} {op : Oper} {a : Act} {Q : Exit → Act → World → Prop} (hgd : op.guard = none) (ty : TypeId) (x : Operand) (ho : op.op = .load ty x)
    (g o n : Nat) (hx : a.eval x = .pointer (some ⟨g, o, none⟩)) (t : TypeId) (cs : List Value) (d : TypeDesc) (hg : Blk w g t cs.toArray)
    (hu : P.underlying ty = some d) (hd : d.isRow = true) (hi : (P.info? ty).map (·.size) = some n) (hfit : o + n ≤ cs.length)
    (h : wpList P ops Q rest (a.put op.dst (.agg ((cs.drop o).take n).toArray)) w) : wpList P ops Q (op :: rest) a w :=
  wpList_load_mid hgd ty x ho g o hx ((cs.drop o).take n) d (fun j v hv => by
    rw [Blk.cell hg]
    simp only [List.getElem?_toArray]
    rw [List.getElem?_take] at hv
    split at hv
    · rw [List.getElem?_drop] at hv; exact hv
    · cases hv) hu hd (by rw [hi]; simp; omega) h
/-- 'clear' of a part of a block of bytes. -/
theorem wpList_clear_seg {ops : Array Oper} {rest : List Oper} {op : Oper} {a : Act} {Q : Exit → Act → World → Prop} (hgd : op.guard = none) (x : Operand) (ty e : TypeId)
    (ho : op.op = .call { callee := .builtin .clear, args := #[x], argTypes := #[ty] }) (ht : P.underlying ty = some (.slice e)) (z : Value) (hz : ∀ W, (zeroValue e).run P W = .ok z W) (hz1 : z.cells = #[z]) (hzo : z.oneCell' = true)
    (g o n c : Nat) (hx : a.eval x = .slice (some ⟨g, o, none⟩) n c) (t : TypeId) (cs : List Value) (hg : Blk w g t cs.toArray) (hfit : o + n ≤ cs.length)
    (h : ∀ w1, w1 = w.setRow g (seg cs o (List.replicate n z)).toArray → wpList P ops Q rest (a.put op.dst (.tuple #[])) w1) : wpList P ops Q (op :: rest) a w := by
  refine wpList_plain hgd fun _ hK => ?_
  have hst := run_storeCells_at P g o t (List.replicate n z) 0 cs.toArray w hg (by simpa using hfit) (fun v hv => by rw [List.mem_replicate] at hv; rw [hv.2]; exact hzo)
  simp only [Nat.add_zero] at hst
  have hr : (Builtin.clear_ #[ty] op.type #[.slice (some ⟨g, o, none⟩) n c]).run P w = .ok (.tuple #[]) (w.setRow g (seg cs o (List.replicate n z)).toArray) := by
    cases n with
    | zero =>
      have e : w.setRow g (seg cs o (List.replicate 0 z)).toArray = w := by
        simp only [List.replicate, seg, List.append_nil, List.length_nil, Nat.add_zero, List.take_append_drop]
        exact setRow_self w g _ t _ hg
      rw [e]
      simp [Builtin.clear_, run_underlying ht]
    | succ m =>
      have hz2 : (Builtin.zeroCells z.cells (m + 1)).toList = List.replicate (m + 1) z := by
        apply List.ext_getElem?
        intro k
        rw [hz1]
        simp only [Builtin.zeroCells, Array.getElem?_toList, Array.getElem?_map, List.getElem?_replicate]
        by_cases hk : k < m + 1
        · have e : (Array.range ((m + 1) * #[z].size))[k]? = some k := by simp [hk]
          rw [e, if_pos hk]
          simp
          have : k % 1 = 0 := by omega
          simp [this]
        · have e : (Array.range ((m + 1) * #[z].size))[k]? = none := by simp; omega
          rw [e, if_neg hk]; rfl
      simp [Builtin.clear_, run_underlying ht, Sem.run_bind, hz, hz2, hst, seg]
  unfold Oper.wp execOp
  simp only [ho, resolve, invoke, builtin, Sem.run_bind, Sem.run_pure, Result.andThen_ok, List.map_toArray, List.map_cons, List.map_nil, hx, hr]
  exact hK _ _ (h _ rfl)
end
theorem own_nil {w : World} {B : Nat} {e : TypeId} {size : Nat} {v : Value} {n : Nat} {xs : List Value} (h : w.ownsRow B e size v (0 + n) ([] ++ xs)) : w.ownsRow B e size v n xs := by
  rwa [Nat.zero_add, List.nil_append] at h
theorem Reads.later {w w' : World} {s n : Nat} {A : Option Addr} {xs : List Value} (h : Reads w w.heap.size s A n xs) (hb : Below w.heap.size w w') : Reads w' w'.heap.size s A n xs :=
  (h.below hb).more hb.size
theorem below_then {a b c : World} (h : Below a.heap.size a b) (k : Below b.heap.size b c) : Below a.heap.size a c := h.trans (k.mono h.size)
theorem below_new (w : World) (o : Obj) : Below w.heap.size w (w.alloc o) := (Below.refl _ _).alloc (Nat.le_refl _) o
theorem size_after {wr w1 : World} {o : Obj} {row : Option Nat} {B : Nat} (hg : (wr.alloc o).grownBy w1 row) (hB : B ≤ wr.heap.size) : B ≤ w1.heap.size := by
  have h1 := hg.size
  rw [size_alloc] at h1
  omega
/-- The number of a slice's elements. -/
def lenOf : Value → Nat
  | .slice _ n _ => n
  | _ => 0
theorem own_len {w : World} {B : Nat} {e : TypeId} {size n : Nat} {v : Value} {xs : List Value} (h : w.ownsRow B e size v n xs) : ∃ A c, v = .slice A n c ∧ n ≤ c := by
  rcases h.2 with ⟨rfl, rfl⟩ | ⟨g, cap, cur, rfl, _, _, hc, _⟩
  · exact ⟨none, 0, rfl, Nat.le_refl _⟩
  · exact ⟨_, _, rfl, hc⟩
theorem Blk.new_at (w : World) (t : TypeId) {n : Nat} {cs cs' : Array Value} (hn : n = w.heap.size) (h : cs = cs') : Blk (w.alloc (.cells cs t)) n t cs' := by
  subst hn h; exact Blk.new w t _
theorem blk_new (w : World) (t : TypeId) (cs : Array Value) : Blk (w.alloc (.cells cs t)) w.heap.size t cs := Blk.new w t cs
theorem blk_new2 (w : World) (o : Obj) (t : TypeId) (cs : Array Value) : Blk ((w.alloc o).alloc (.cells cs t)) (w.heap.size + 1) t cs := Blk.new_at _ t (by rw [size_alloc]) rfl
theorem blk_new3 (w : World) (o : Obj) (t : TypeId) (cs : Array Value) : Blk ((w.alloc (.cells cs t)).alloc o) w.heap.size t cs := (Blk.new w t cs).alloc o
theorem blk_past {w w' : World} {g : Nat} {t : TypeId} {cs : Array Value} (hb : Below w.heap.size w w') (h : Blk w g t cs) : Blk w' g t cs := h.below hb h.lt
theorem bt {a w w1 : World} (h : Below a.heap.size a w) (hb : Below w.heap.size w w1) : Below a.heap.size a w1 := h.trans (hb.mono h.size)
theorem ba {a w : World} (h : Below a.heap.size a w) (o : Obj) : Below a.heap.size a (w.alloc o) := h.alloc h.size o
/-- A region that draws its order, each of whose operations yields one value whatever the world, below a block as it was. -/
theorem wp_region_below {P : Program} {id : Nat} {Q : Exit → Act → World → Prop} {a : Act} {w : World} {l : List Oper} (w0 : World) (hw : Below w0.heap.size w0 w) (hm : P.follows .mixedOrders = true) (hB : Region.lexB .any l.toArray = true)
    (h : wpQuiet P l.toArray (fun w' => Below w0.heap.size w0 w') (fun a' => ∀ w', Below w0.heap.size w0 w' → Q .normal a' w') l a) : (Code.region id l.toArray true).wp P Q a w :=
  wp_region_quiet (C := fun w' => Below w0.heap.size w0 w') hm hB hw.drew (by simpa using h)
theorem wpQuiet_load' {P : Program} {ops : Array Oper} {C : World → Prop} {Q : Act → Prop} {a : Act} {o : Oper} {rest : List Oper} (hw : Region.wanted o (yielded ops a.tmps) = true) (ty : TypeId) (x : Operand) (ho : o.op = .load ty x) (ad : Addr) (hx : a.eval x = .pointer (some ad))
    (v : Value) (hrun : ∀ w, C w → (Instr.loadAt ty (.pointer (some ad))).run P w = .ok v w) (h : wpQuiet P ops C Q rest (a.put o.dst v)) : wpQuiet P ops C Q (o :: rest) a := by
  unfold wpQuiet
  rw [if_pos hw]
  refine ⟨v, fun w hc => ?_, h⟩
  unfold Oper.quietAt execOp
  simp only [ho, hx, Sem.run_bind, hrun w hc, Result.andThen_ok]
  exact ⟨rfl, rfl⟩
/-- A row just made, of known cells. -/
theorem own_lit {w : World} {base : Nat} {e : TypeId} {size n : Nat} {xs : List Value} (hb : base ≤ w.heap.size) (hl : xs.length = n * size) (hm : n ≤ maxLen) : (w.alloc (.cells xs.toArray e)).ownsRow base e size (.slice (some ⟨w.heap.size, 0, none⟩) n n) n xs :=
  ⟨hl, .inr ⟨w.heap.size, n, xs.toArray, rfl, hb, heap_alloc_new w _, Nat.le_refl _, hm, by simpa using hl, by simp [← hl]⟩⟩
/-- Integers as cells. -/
def vi (l : List Int) : List Value := l.map (Value.int .i64)
theorem vi_append (a b : List Int) : vi (a ++ b) = vi a ++ vi b := by simp [vi]
theorem vi_length (l : List Int) : (vi l).length = l.length := by simp [vi]
theorem vi_get {l : List Int} {k : Nat} {x : Int} (h : l[k]? = some x) : (vi l)[k]? = some (.int .i64 x) := by simp [vi, h]
end Go.Proofs.YtbdknncmlcbbpaaDoor
