/-
  MEMORY: arrays by value, and parts of a block that is known whole.
-/
import Derived.Test.YtgabmipakocheaaDoorBits
import Derived.Laws.CopyRow
import Derived.Deep.RegionWith
import Derived.StillTailTactics
namespace Go.Proofs.YtgabmipakocheaaDoor
open Go.RowKit

theorem size_alloc (w : World) (o : Obj) : (w.alloc o).heap.size = w.heap.size + 1 := by simp
theorem below_drewN {B : Nat} {a w : World} (h : Below B a w) (n : Nat) : Below B a (w.drewN n) := ⟨h.os, h.tape, h.output, h.size, h.block⟩
theorem quiet_add {P : Program} {f : FuncId} {args : Array Value} {w : World} {a n : Nat} {v : Value}
    (h : Calls P f args (w.drewN (a + n)) fun e w' => e = .returned v ∧ ∃ m, w' = (w.drewN (a + n)).drewN m) :
    Calls P f args (w.drewN (a + n)) fun e w'' => e = .returned v ∧ ∃ m, w'' = w.drewN (a + m) :=
  h.mono fun _ _ ⟨he, m, hm⟩ => ⟨he, n + m, by rw [hm, World.drewN_drewN, Nat.add_assoc]⟩
theorem quiet_add_left {P : Program} {f : FuncId} {args : Array Value} {w : World} {a n : Nat} {v : Value}
    (h : Calls P f args (w.drewN (a + n)) fun e w' => e = .returned v ∧ w.drewN (a + n) = w') :
    Calls P f args (w.drewN (a + n)) fun e w'' => e = .returned v ∧ ∃ m, w'' = w.drewN (a + m) :=
  h.mono fun _ _ ⟨he, hm⟩ => ⟨he, n, hm.symm⟩
theorem quiet_left {P : Program} {f : FuncId} {args : Array Value} {w : World} {n : Nat} {v : Value}
    (h : Calls P f args (w.drewN n) fun e w' => e = .returned v ∧ w.drewN n = w') : Calls P f args (w.drewN n) fun e w'' => e = .returned v ∧ ∃ m, w'' = w.drewN m :=
  h.mono fun _ _ ⟨he, hm⟩ => ⟨he, n, hm.symm⟩

def ws (l : List (BitVec 32)) : List Value := l.map W32
theorem ws_length (l : List (BitVec 32)) : (ws l).length = l.length := by simp [ws]
theorem ws_get {l : List (BitVec 32)} {i : Nat} {x : BitVec 32} (h : l[i]? = some x) : (ws l)[i]? = some (W32 x) := by simp [ws, h]
theorem ws_one (l : List (BitVec 32)) : ∀ u ∈ ws l, u.oneCell' = true := by
  intro u hu
  simp only [ws, List.mem_map] at hu
  obtain ⟨x, _, rfl⟩ := hu
  rfl
theorem ws_set (l : List (BitVec 32)) (i : Nat) (x : BitVec 32) : (ws l).set i (W32 x) = ws (l.set i x) := by simp [ws, List.map_set]

theorem Tryd.size31 : (Tryd.prog.info? 31).map (·.size) = some 64 := by kernel_rfl
theorem Tryd.size54 : (Tryd.prog.info? 54).map (·.size) = some 64 := by kernel_rfl
theorem Tryd.size30 : (Tryd.prog.info? 30).map (·.size) = some 8 := by kernel_rfl
theorem Tryd.size24 : (Tryd.prog.info? 24).map (·.size) = some 32 := by kernel_rfl
theorem Tryd.size34 : (Tryd.prog.info? 34).map (·.size) = some 73 := by kernel_rfl
theorem Tryd.size44 : (Tryd.prog.info? 44).map (·.size) = some 16 := by kernel_rfl
theorem Tryd.sz5 (W : World) : (sizeOf 5).run Tryd.prog W = .ok 1 W := by kernel_rfl
theorem Tryd.sz29 (W : World) : (sizeOf 29).run Tryd.prog W = .ok 1 W := by kernel_rfl

section
variable {w w' : World} {g : Nat} {t : TypeId} {cs : Array Value}
theorem Blk.setRow (h : Blk w g t cs) (cs' : Array Value) : Blk (w.setRow g cs') g t cs' := setRow_heap w g cs cs' t _ h
theorem Blk.setRow_far {g' : Nat} (h : Blk w g t cs) (hne : g ≠ g') (cs' : Array Value) : Blk (w.setRow g' cs') g t cs := by
  unfold Blk at h ⊢
  unfold World.setRow
  simp only
  rw [Array.getElem?_modify, if_neg (by omega)]
  exact h
end
theorem setRow_other (w : World) (g' : Nat) (cs : Array Value) (g : Nat) (hne : g' ≠ g) : (w.setRow g' cs).heap[g]? = w.heap[g]? := by
  unfold World.setRow
  simp only
  rw [Array.getElem?_modify, if_neg hne]
theorem below_setRow {B g : Nat} {a w : World} (h : Below B a w) (hg : B ≤ g) (cs : Array Value) : Below B a (w.setRow g cs) :=
  ⟨h.os, h.tape, h.output, by rw [size_setRow]; exact h.size, fun i hi => by
    have : (w.setRow g cs).heap[i]? = w.heap[i]? := by
      unfold World.setRow
      simp only
      rw [Array.getElem?_modify, if_neg (by omega)]
    rw [this]
    exact h.block i hi⟩

/-- A part of a list put anew. -/
def seg (cs : List Value) (o : Nat) (vs : List Value) : List Value := cs.take o ++ vs ++ cs.drop (o + vs.length)
theorem seg_length {cs : List Value} {o : Nat} {vs : List Value} (h : o + vs.length ≤ cs.length) : (seg cs o vs).length = cs.length := by
  simp [seg]; omega

section
variable {P : Program} (w : World)
/-- An array's element, by value. -/
theorem run_index_arr (t e : TypeId) (n : Nat) (cs : List Value) (i : Nat) (u : Value) (ht : P.underlying t = some (.array n e)) (h1 : ∀ W, (sizeOf e).run P W = .ok 1 W) (ha : ∀ W, (isAgg e).run P W = .ok false W) (hi : i < n) (hu : cs[i]? = some u) :
    (Instr.index t (.agg cs.toArray) (.int .i64 (i : Int))).run P w = .ok u w := by
  have hil : i < cs.length := (List.getElem?_eq_some_iff.1 hu).1
  have hv : cs[i] = u := (List.getElem?_eq_some_iff.1 hu).2
  have c1 : (0 : Int) ≤ i ∧ (i : Int) < n := ⟨by omega, by omega⟩
  simp only [Instr.index, asIntOf, Sem.run_bind, Sem.run_pure, Result.andThen_ok, run_underlying ht]
  rw [if_pos c1]
  simp [part, Sem.run_bind, h1, ha, hv, hil]

theorem wpList_store_seg {ops : Array Oper} {rest : List Oper} {op : Oper} {a : Act} {Q : Exit → Act → World → Prop} (hgd : op.guard = none) (ty : TypeId) (x y : Operand) (ho : op.op = .store ty x y)
    (g o : Nat) (vs : List Value) (hx : a.eval x = .pointer (some ⟨g, o, none⟩)) (hy : a.eval y = .agg vs.toArray)
    (t : TypeId) (cs : List Value) (hg : Blk w g t cs.toArray) (hi : (P.info? ty).map (·.size) = some vs.length) (hfit : o + vs.length ≤ cs.length) (h1 : ∀ v ∈ vs, v.oneCell' = true)
    (h : ∀ w1, w1 = w.setRow g (seg cs o vs).toArray → wpList P ops Q rest (a.put op.dst undef) w1) : wpList P ops Q (op :: rest) a w := by
  refine wpList_plain hgd fun _ hK => ?_
  have hst := run_storeCells_at P g o t vs 0 cs.toArray w hg (by simpa using hfit) h1
  have hr : (storeVar ty ⟨g, o, none⟩ (.agg vs.toArray)).run P w = .ok () (w.setRow g (seg cs o vs).toArray) := by
    cases hq : P.info? ty with
    | none => simp [hq] at hi
    | some i =>
      have hs : i.size = vs.length := by simpa [hq] using hi
      simp only [Nat.add_zero] at hst
      simp [storeVar, sizeOf, typeInfo, hq, Value.cells, hs, hst, seg]
  unfold Oper.wp execOp
  simp only [ho, hx, hy, Instr.storeAt, Instr.sureAddr, Sem.run_bind, Sem.run_pure, Result.andThen_ok, hr]
  exact hK _ _ (h _ rfl)

theorem wpList_load_seg {ops : Array Oper} {rest : List Oper} {op : Oper} {a : Act} {Q : Exit → Act → World → Prop} (hgd : op.guard = none) (ty : TypeId) (x : Operand) (ho : op.op = .load ty x)
    (g o n : Nat) (hx : a.eval x = .pointer (some ⟨g, o, none⟩)) (t : TypeId) (cs : List Value) (d : TypeDesc) (hg : Blk w g t cs.toArray)
    (hu : P.underlying ty = some d) (hd : d.isRow = true) (hi : (P.info? ty).map (·.size) = some n) (hfit : o + n ≤ cs.length)
    (h : wpList P ops Q rest (a.put op.dst (.agg ((cs.drop o).take n).toArray)) w) : wpList P ops Q (op :: rest) a w :=
  wpList_load_mid hgd ty x ho g o hx ((cs.drop o).take n) d (fun j v hv => by
    rw [Blk.cell hg]
    simp only [List.getElem?_toArray]
    rw [List.getElem?_take] at hv
    split at hv
    · rw [List.getElem?_drop] at hv; exact hv
    · cases hv) hu hd (by rw [hi]; simp; omega) h

/-- 'clear' of a part of a block of bytes. -/
theorem wpList_clear_seg {ops : Array Oper} {rest : List Oper} {op : Oper} {a : Act} {Q : Exit → Act → World → Prop} (hgd : op.guard = none) (x : Operand) (ty e : TypeId)
    (ho : op.op = .call { callee := .builtin .clear, args := #[x], argTypes := #[ty] }) (ht : P.underlying ty = some (.slice e)) (z : Value) (hz : ∀ W, (zeroValue e).run P W = .ok z W) (hz1 : z.cells = #[z]) (hzo : z.oneCell' = true)
    (g o n c : Nat) (hx : a.eval x = .slice (some ⟨g, o, none⟩) n c) (t : TypeId) (cs : List Value) (hg : Blk w g t cs.toArray) (hfit : o + n ≤ cs.length)
    (h : ∀ w1, w1 = w.setRow g (seg cs o (List.replicate n z)).toArray → wpList P ops Q rest (a.put op.dst (.tuple #[])) w1) : wpList P ops Q (op :: rest) a w := by
  refine wpList_plain hgd fun _ hK => ?_
  have hst := run_storeCells_at P g o t (List.replicate n z) 0 cs.toArray w hg (by simpa using hfit) (fun v hv => by rw [List.mem_replicate] at hv; rw [hv.2]; exact hzo)
  simp only [Nat.add_zero] at hst
  have hr : (Builtin.clear_ #[ty] op.type #[.slice (some ⟨g, o, none⟩) n c]).run P w = .ok (.tuple #[]) (w.setRow g (seg cs o (List.replicate n z)).toArray) := by
    cases n with
    | zero =>
      have e : w.setRow g (seg cs o (List.replicate 0 z)).toArray = w := by
        simp only [List.replicate, seg, List.append_nil, List.length_nil, Nat.add_zero, List.take_append_drop]
        exact setRow_self w g _ t _ hg
      rw [e]
      simp [Builtin.clear_, run_underlying ht]
    | succ m =>
      have hz2 : (Builtin.zeroCells z.cells (m + 1)).toList = List.replicate (m + 1) z := by
        apply List.ext_getElem?
        intro k
        rw [hz1]
        simp only [Builtin.zeroCells, Array.getElem?_toList, Array.getElem?_map, List.getElem?_replicate]
        by_cases hk : k < m + 1
        · have e : (Array.range ((m + 1) * #[z].size))[k]? = some k := by simp [hk]
          rw [e, if_pos hk]
          simp
          have : k % 1 = 0 := by omega
          simp [this]
        · have e : (Array.range ((m + 1) * #[z].size))[k]? = none := by simp; omega
          rw [e, if_neg hk]; rfl
      simp [Builtin.clear_, run_underlying ht, Sem.run_bind, hz, hz2, hst, seg]
  unfold Oper.wp execOp
  simp only [ho, resolve, invoke, builtin, Sem.run_bind, Sem.run_pure, Result.andThen_ok, List.map_toArray, List.map_cons, List.map_nil, hx, hr]
  exact hK _ _ (h _ rfl)
end
end Go.Proofs.YtgabmipakocheaaDoor
