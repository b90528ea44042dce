/-
  WORDS OF 32 BITS as values, and what the model's operations on them are.
-/
import Derived.Test.YtaoegpmjogladaaDoorRows
import Derived.Test.YtaoegpmjogladaaDoorG01
import Derived.Outline
import Derived.Deep.QuietTactic
import Derived.BigQuiet
import Derived.Laws.CopyRow
import Derived.Deep.RegionWith
import Derived.StillTailTactics
namespace Go.Proofs.YtaoegpmjogladaaDoor
open Go.RowKit

/-- A word as a value. -/
abbrev W32 (x : BitVec 32) : Value := .int .u32 (x.toNat : Int)

theorem ofNat_toNat32 (x : BitVec 32) : BitVec.ofInt 32 (x.toNat : Int) = x := by
  rw [BitVec.ofInt_natCast]; simp
theorem wrap_toNat32 (x : BitVec 32) : IntKind.u32.wrap (x.toNat : Int) = x.toNat := by
  rw [IntKind.wrap_u32]
  have := x.isLt
  omega
theorem xor32 (x y : BitVec 32) : bits .xor .u32 (x.toNat : Int) (y.toNat : Int) = ((x ^^^ y).toNat : Int) := by
  simp only [bits]
  rw [show BitVec.ofInt IntKind.u32.bits (x.toNat : Int) = x from ofNat_toNat32 x, show BitVec.ofInt IntKind.u32.bits (y.toNat : Int) = y from ofNat_toNat32 y]
  exact wrap_toNat32 _
theorem and32 (x y : BitVec 32) : bits .and .u32 (x.toNat : Int) (y.toNat : Int) = ((x &&& y).toNat : Int) := by
  simp only [bits]
  rw [show BitVec.ofInt IntKind.u32.bits (x.toNat : Int) = x from ofNat_toNat32 x, show BitVec.ofInt IntKind.u32.bits (y.toNat : Int) = y from ofNat_toNat32 y]
  exact wrap_toNat32 _
theorem or32 (x y : BitVec 32) : bits .or .u32 (x.toNat : Int) (y.toNat : Int) = ((x ||| y).toNat : Int) := by
  simp only [bits]
  rw [show BitVec.ofInt IntKind.u32.bits (x.toNat : Int) = x from ofNat_toNat32 x, show BitVec.ofInt IntKind.u32.bits (y.toNat : Int) = y from ofNat_toNat32 y]
  exact wrap_toNat32 _
theorem xor_ones (y : BitVec 32) : BitVec.allOnes 32 ^^^ y = ~~~y := by
  rw [BitVec.xor_comm, BitVec.xor_allOnes]
theorem not32 (y : BitVec 32) : bits .xor .u32 4294967295 (y.toNat : Int) = ((~~~y).toNat : Int) := by
  have h := xor32 (BitVec.allOnes 32) y
  rw [xor_ones] at h
  exact h
theorem not32' (y : BitVec 32) : bits .xor .u32 (y.toNat : Int) 4294967295 = ((~~~y).toNat : Int) := by
  have h := xor32 y (BitVec.allOnes 32)
  rw [BitVec.xor_allOnes] at h
  exact h
theorem add32 (x y : BitVec 32) : IntKind.u32.wrap ((x.toNat : Int) + (y.toNat : Int)) = ((x + y).toNat : Int) := by
  rw [IntKind.wrap_u32, BitVec.toNat_add]; omega
theorem shr32 (x : BitVec 32) (n : Nat) : (x.toNat : Int) / 2 ^ n = ((x >>> n).toNat : Int) := by
  rw [BitVec.toNat_ushiftRight, Nat.shiftRight_eq_div_pow]; simp
theorem shl32 (x : BitVec 32) (n : Nat) : IntKind.u32.wrap ((x.toNat : Int) * 2 ^ n) = ((x <<< n).toNat : Int) := by
  rw [IntKind.wrap_u32, BitVec.toNat_shiftLeft, Nat.shiftLeft_eq]; simp

theorem add32' (x y : BitVec 32) : ((x.toNat : Int) + (y.toNat : Int)) % 4294967296 = ((x + y).toNat : Int) := by
  rw [BitVec.toNat_add]; omega
theorem shl32' (x : BitVec 32) (n : Nat) : (x.toNat : Int) * 2 ^ n % 4294967296 = ((x <<< n).toNat : Int) := by
  rw [BitVec.toNat_shiftLeft, Nat.shiftLeft_eq]; simp
theorem ror_eq (x : BitVec 32) (n : Nat) : bits .or .u32 ((x.toNat : Int) / 2 ^ n) ((x.toNat : Int) * 2 ^ (32 - n) % 4294967296) = ((ror x n).toNat : Int) := by
  rw [shr32, shl32', or32]; rfl
theorem ror_eq' (x : BitVec 32) (n : Nat) : bits .or .u32 ((x.toNat : Int) * 2 ^ (32 - n) % 4294967296) ((x.toNat : Int) / 2 ^ n) = ((ror x n).toNat : Int) := by
  rw [shr32, shl32', or32, BitVec.or_comm]; rfl
theorem ret_int {k : IntKind} {a b : Int} (h : a = b) : Ending.returned (.int k a) = .returned (.int k b) := by rw [h]

set_option maxHeartbeats 400000 in
theorem rotr_ref (x : BitVec 32) (n : Nat) (h1 : 1 ≤ n) (h2 : n ≤ 31) (w : World) :
    Calls Tryd.prog 80 #[W32 x, .int .i64 (n : Int)] w fun e w' => e = .returned (W32 (ror x n)) ∧ ∃ m, w' = w.drewN m := by
  have a1 : (0 : Int) ≤ 32 - n := by omega
  have a2 : IntKind.i64.wrap (32 - (n : Int)) = 32 - (n : Int) := IntWalk.i64_in _ (by omega)
  go_enter Tryd.func80, Tryd.ntmps80
  go_wp2
  go_quiet (fail)
  go_wp2
  go_ret
  exact ⟨ret_int (ror_eq x n), _, rfl⟩
theorem mask31 (n : Nat) (h1 : 1 ≤ n) (h2 : n ≤ 31) : bits .and .u64 (IntKind.u64.wrap (-(n : Int))) 31 = 32 - (n : Int) := by
  have e : IntKind.u64.wrap (-(n : Int)) = ((18446744073709551616 - n : Nat) : Int) := by
    simp [IntKind.wrap, IntKind.bits, IntKind.signed]; omega
  rw [e]
  have h := bits_mask .u64 64 (Nat.le_refl _) (fun n h0 h1 => by simp [IntKind.wrap, IntKind.bits, IntKind.signed]; omega) 5 (by omega) ((18446744073709551616 - n : Nat) : Int) (by omega) (by omega)
  have e5 : (2 : Int) ^ 5 - 1 = 31 := by decide
  rw [e5] at h
  rw [h]
  omega
set_option maxHeartbeats 400000 in
theorem rotl (x : BitVec 32) (n : Nat) (h1 : 1 ≤ n) (h2 : n ≤ 31) (w : World) :
    Calls Tryd.prog 77 #[W32 x, .int .i64 (-(n : Int))] w fun e w' => e = .returned (W32 (ror x n)) ∧ w = w' := by
  have hm := mask31 n h1 h2
  go_enter Tryd.func77, Tryd.ntmps77
  go_wp2
  go_ret
  exact ⟨ret_int (by rw [show 32 - (32 - n) = n by omega]; exact ror_eq' x n), rfl⟩
set_option maxHeartbeats 400000 in
theorem rotr (x : BitVec 32) (n : Nat) (h1 : 1 ≤ n) (h2 : n ≤ 31) (w : World) :
    Calls Tryd.prog 73 #[W32 x, .int .i64 (n : Int)] w fun e w' => e = .returned (W32 (ror x n)) ∧ w = w' := by
  go_enter Tryd.func73, Tryd.ntmps73
  go_wp2_with (go_at_call 77; refine (rotl x n h1 h2 _).mono ?_; rintro e w' ⟨rfl, rfl⟩)
  go_ret
  exact ⟨rfl, rfl⟩
/-- Both, at a literal. -/
theorem rotrI (x : BitVec 32) (m : Int) (h1 : 1 ≤ m) (h2 : m ≤ 31) (w : World) :
    Calls Tryd.prog 73 #[W32 x, .int .i64 m] w fun e w' => e = .returned (W32 (ror x m.toNat)) ∧ w = w' := by
  obtain ⟨n, rfl⟩ := Int.eq_ofNat_of_zero_le (show 0 ≤ m by omega)
  simpa using rotr x n (by omega) (by omega) w
theorem rotrI_ref (x : BitVec 32) (m : Int) (h1 : 1 ≤ m) (h2 : m ≤ 31) (w : World) :
    Calls Tryd.prog 80 #[W32 x, .int .i64 m] w fun e w' => e = .returned (W32 (ror x m.toNat)) ∧ ∃ m, w' = w.drewN m := by
  obtain ⟨n, rfl⟩ := Int.eq_ofNat_of_zero_le (show 0 ≤ m by omega)
  simpa using rotr_ref x n (by omega) (by omega) w
end Go.Proofs.YtaoegpmjogladaaDoor

/-
  MEMORY: arrays by value, and parts of a block that is known whole.
-/
namespace Go.Proofs.YtaoegpmjogladaaDoor
open Go.RowKit

theorem size_alloc (w : World) (o : Obj) : (w.alloc o).heap.size = w.heap.size + 1 := by simp
theorem below_drewN {B : Nat} {a w : World} (h : Below B a w) (n : Nat) : Below B a (w.drewN n) := ⟨h.os, h.tape, h.output, h.size, h.block⟩
theorem quiet_add {P : Program} {f : FuncId} {args : Array Value} {w : World} {a n : Nat} {v : Value}
    (h : Calls P f args (w.drewN (a + n)) fun e w' => e = .returned v ∧ ∃ m, w' = (w.drewN (a + n)).drewN m) :
    Calls P f args (w.drewN (a + n)) fun e w'' => e = .returned v ∧ ∃ m, w'' = w.drewN (a + m) :=
  h.mono fun _ _ ⟨he, m, hm⟩ => ⟨he, n + m, by rw [hm, World.drewN_drewN, Nat.add_assoc]⟩
theorem quiet_add_left {P : Program} {f : FuncId} {args : Array Value} {w : World} {a n : Nat} {v : Value}
    (h : Calls P f args (w.drewN (a + n)) fun e w' => e = .returned v ∧ w.drewN (a + n) = w') :
    Calls P f args (w.drewN (a + n)) fun e w'' => e = .returned v ∧ ∃ m, w'' = w.drewN (a + m) :=
  h.mono fun _ _ ⟨he, hm⟩ => ⟨he, n, hm.symm⟩
theorem quiet_left {P : Program} {f : FuncId} {args : Array Value} {w : World} {n : Nat} {v : Value}
    (h : Calls P f args (w.drewN n) fun e w' => e = .returned v ∧ w.drewN n = w') : Calls P f args (w.drewN n) fun e w'' => e = .returned v ∧ ∃ m, w'' = w.drewN m :=
  h.mono fun _ _ ⟨he, hm⟩ => ⟨he, n, hm.symm⟩

def ws (l : List (BitVec 32)) : List Value := l.map W32
theorem ws_length (l : List (BitVec 32)) : (ws l).length = l.length := by simp [ws]
theorem ws_get {l : List (BitVec 32)} {i : Nat} {x : BitVec 32} (h : l[i]? = some x) : (ws l)[i]? = some (W32 x) := by simp [ws, h]
theorem ws_one (l : List (BitVec 32)) : ∀ u ∈ ws l, u.oneCell' = true := by
  intro u hu
  simp only [ws, List.mem_map] at hu
  obtain ⟨x, _, rfl⟩ := hu
  rfl
theorem ws_set (l : List (BitVec 32)) (i : Nat) (x : BitVec 32) : (ws l).set i (W32 x) = ws (l.set i x) := by simp [ws, List.map_set]

theorem Tryd.size54 : (Tryd.prog.info? 54).map (·.size) = some 64 := by kernel_rfl
theorem Tryd.size100 : (Tryd.prog.info? 100).map (·.size) = some 64 := by kernel_rfl
theorem Tryd.size53 : (Tryd.prog.info? 53).map (·.size) = some 8 := by kernel_rfl
theorem Tryd.size31 : (Tryd.prog.info? 31).map (·.size) = some 32 := by kernel_rfl
theorem Tryd.size57 : (Tryd.prog.info? 57).map (·.size) = some 73 := by kernel_rfl
theorem Tryd.size29 : (Tryd.prog.info? 29).map (·.size) = some 16 := by kernel_rfl
theorem Tryd.sz5 (W : World) : (sizeOf 5).run Tryd.prog W = .ok 1 W := by kernel_rfl
theorem Tryd.sz52 (W : World) : (sizeOf 52).run Tryd.prog W = .ok 1 W := by kernel_rfl

section
variable {w w' : World} {g : Nat} {t : TypeId} {cs : Array Value}
theorem Blk.setRow (h : Blk w g t cs) (cs' : Array Value) : Blk (w.setRow g cs') g t cs' := setRow_heap w g cs cs' t _ h
theorem Blk.setRow_far {g' : Nat} (h : Blk w g t cs) (hne : g ≠ g') (cs' : Array Value) : Blk (w.setRow g' cs') g t cs := by
  unfold Blk at h ⊢
  unfold World.setRow
  simp only
  rw [Array.getElem?_modify, if_neg (by omega)]
  exact h
end
theorem setRow_other (w : World) (g' : Nat) (cs : Array Value) (g : Nat) (hne : g' ≠ g) : (w.setRow g' cs).heap[g]? = w.heap[g]? := by
  unfold World.setRow
  simp only
  rw [Array.getElem?_modify, if_neg hne]
theorem below_setRow {B g : Nat} {a w : World} (h : Below B a w) (hg : B ≤ g) (cs : Array Value) : Below B a (w.setRow g cs) :=
  ⟨h.os, h.tape, h.output, by rw [size_setRow]; exact h.size, fun i hi => by
    have : (w.setRow g cs).heap[i]? = w.heap[i]? := by
      unfold World.setRow
      simp only
      rw [Array.getElem?_modify, if_neg (by omega)]
    rw [this]
    exact h.block i hi⟩

/-- A part of a list put anew. -/
def seg (cs : List Value) (o : Nat) (vs : List Value) : List Value := cs.take o ++ vs ++ cs.drop (o + vs.length)
theorem seg_length {cs : List Value} {o : Nat} {vs : List Value} (h : o + vs.length ≤ cs.length) : (seg cs o vs).length = cs.length := by
  simp [seg]; omega

section
variable {P : Program} (w : World)
/-- An array's element, by value. -/
theorem run_index_arr (t e : TypeId) (n : Nat) (cs : List Value) (i : Nat) (u : Value) (ht : P.underlying t = some (.array n e)) (h1 : ∀ W, (sizeOf e).run P W = .ok 1 W) (ha : ∀ W, (isAgg e).run P W = .ok false W) (hi : i < n) (hu : cs[i]? = some u) :
    (Instr.index t (.agg cs.toArray) (.int .i64 (i : Int))).run P w = .ok u w := by
  have hil : i < cs.length := (List.getElem?_eq_some_iff.1 hu).1
  have hv : cs[i] = u := (List.getElem?_eq_some_iff.1 hu).2
  have c1 : (0 : Int) ≤ i ∧ (i : Int) < n := ⟨by omega, by omega⟩
  simp only [Instr.index, asIntOf, Sem.run_bind, Sem.run_pure, Result.andThen_ok, run_underlying ht]
  rw [if_pos c1]
  simp [part, Sem.run_bind, h1, ha, hv, hil]

theorem wpList_store_seg {ops : Array Oper} {rest : List Oper} {op : Oper} {a : Act} {Q : Exit → Act → World → Prop} (hgd : op.guard = none) (ty : TypeId) (x y : Operand) (ho : op.op = .store ty x y)
    (g o : Nat) (vs : List Value) (hx : a.eval x = .pointer (some ⟨g, o, none⟩)) (hy : a.eval y = .agg vs.toArray)
    (t : TypeId) (cs : List Value) (hg : Blk w g t cs.toArray) (hi : (P.info? ty).map (·.size) = some vs.length) (hfit : o + vs.length ≤ cs.length) (h1 : ∀ v ∈ vs, v.oneCell' = true)
    (h : ∀ w1, w1 = w.setRow g (seg cs o vs).toArray → wpList P ops Q rest (a.put op.dst undef) w1) : wpList P ops Q (op :: rest) a w := by
  refine wpList_plain hgd fun _ hK => ?_
  have hst := run_storeCells_at P g o t vs 0 cs.toArray w hg (by simpa using hfit) h1
  have hr : (storeVar ty ⟨g, o, none⟩ (.agg vs.toArray)).run P w = .ok () (w.setRow g (seg cs o vs).toArray) := by
    cases hq : P.info? ty with
    | none => simp [hq] at hi
    | some i =>
      have hs : i.size = vs.length := by simpa [hq] using hi
      simp only [Nat.add_zero] at hst
      simp [storeVar, sizeOf, typeInfo, hq, Value.cells, hs, hst, seg]
  unfold Oper.wp execOp
  simp only [ho, hx, hy, Instr.storeAt, Instr.sureAddr, Sem.run_bind, Sem.run_pure, Result.andThen_ok, hr]
  exact hK _ _ (h _ rfl)

theorem wpList_load_seg {ops : Array Oper} {rest : List Oper} {op : Oper} {a : Act} {Q : Exit → Act → World → Prop} (hgd : op.guard = none) (ty : TypeId) (x : Operand) (ho : op.op = .load ty x)
    (g o n : Nat) (hx : a.eval x = .pointer (some ⟨g, o, none⟩)) (t : TypeId) (cs : List Value) (d : TypeDesc) (hg : Blk w g t cs.toArray)
    (hu : P.underlying ty = some d) (hd : d.isRow = true) (hi : (P.info? ty).map (·.size) = some n) (hfit : o + n ≤ cs.length)
    (h : wpList P ops Q rest (a.put op.dst (.agg ((cs.drop o).take n).toArray)) w) : wpList P ops Q (op :: rest) a w :=
  wpList_load_mid hgd ty x ho g o hx ((cs.drop o).take n) d (fun j v hv => by
    rw [Blk.cell hg]
    simp only [List.getElem?_toArray]
    rw [List.getElem?_take] at hv
    split at hv
    · rw [List.getElem?_drop] at hv; exact hv
    · cases hv) hu hd (by rw [hi]; simp; omega) h

/-- 'clear' of a part of a block of bytes. -/
theorem wpList_clear_seg {ops : Array Oper} {rest : List Oper} {op : Oper} {a : Act} {Q : Exit → Act → World → Prop} (hgd : op.guard = none) (x : Operand) (ty e : TypeId)
    (ho : op.op = .call { callee := .builtin .clear, args := #[x], argTypes := #[ty] }) (ht : P.underlying ty = some (.slice e)) (z : Value) (hz : ∀ W, (zeroValue e).run P W = .ok z W) (hz1 : z.cells = #[z]) (hzo : z.oneCell' = true)
    (g o n c : Nat) (hx : a.eval x = .slice (some ⟨g, o, none⟩) n c) (t : TypeId) (cs : List Value) (hg : Blk w g t cs.toArray) (hfit : o + n ≤ cs.length)
    (h : ∀ w1, w1 = w.setRow g (seg cs o (List.replicate n z)).toArray → wpList P ops Q rest (a.put op.dst (.tuple #[])) w1) : wpList P ops Q (op :: rest) a w := by
  refine wpList_plain hgd fun _ hK => ?_
  have hst := run_storeCells_at P g o t (List.replicate n z) 0 cs.toArray w hg (by simpa using hfit) (fun v hv => by rw [List.mem_replicate] at hv; rw [hv.2]; exact hzo)
  simp only [Nat.add_zero] at hst
  have hr : (Builtin.clear_ #[ty] op.type #[.slice (some ⟨g, o, none⟩) n c]).run P w = .ok (.tuple #[]) (w.setRow g (seg cs o (List.replicate n z)).toArray) := by
    cases n with
    | zero =>
      have e : w.setRow g (seg cs o (List.replicate 0 z)).toArray = w := by
        simp only [List.replicate, seg, List.append_nil, List.length_nil, Nat.add_zero, List.take_append_drop]
        exact setRow_self w g _ t _ hg
      rw [e]
      simp [Builtin.clear_, run_underlying ht]
    | succ m =>
      have hz2 : (Builtin.zeroCells z.cells (m + 1)).toList = List.replicate (m + 1) z := by
        apply List.ext_getElem?
        intro k
        rw [hz1]
        simp only [Builtin.zeroCells, Array.getElem?_toList, Array.getElem?_map, List.getElem?_replicate]
        by_cases hk : k < m + 1
        · have e : (Array.range ((m + 1) * #[z].size))[k]? = some k := by simp [hk]
          rw [e, if_pos hk]
          simp
          have : k % 1 = 0 := by omega
          simp [this]
        · have e : (Array.range ((m + 1) * #[z].size))[k]? = none := by simp; omega
          rw [e, if_neg hk]; rfl
      simp [Builtin.clear_, run_underlying ht, Sem.run_bind, hz, hz2, hst, seg]
  unfold Oper.wp execOp
  simp only [ho, resolve, invoke, builtin, Sem.run_bind, Sem.run_pure, Result.andThen_ok, List.map_toArray, List.map_cons, List.map_nil, hx, hr]
  exact hK _ _ (h _ rfl)
end
end Go.Proofs.YtaoegpmjogladaaDoor

/-
  SHA-256 as plain mathematics: the words of a block, built byte by byte.
-/
namespace Go.Proofs.YtaoegpmjogladaaDoor

theorem fold4_snoc (l : List UInt8) (c : UInt8) : fold4 (l ++ [c]) = fold4 l <<< 8 ||| BitVec.ofNat 32 c.toNat := by simp [fold4]

/-- The part of word j that the first i bytes make. -/
def pw (b : List UInt8) (i j : Nat) : BitVec 32 := fold4 (((b.take i).drop (4 * j)).take 4)
theorem pw_zero (b : List UInt8) (j : Nat) : pw b 0 j = 0#32 := by simp [pw, fold4]
theorem pw_full (b : List UInt8) (hb : b.length = 64) (j : Nat) : pw b 64 j = word b j := by
  unfold pw word; rw [List.take_of_length_le (show b.length ≤ 64 by omega)]
theorem pw_step (b : List UInt8) (i : Nat) (hi : i < b.length) (j : Nat) :
    pw b (i + 1) j = if j = i / 4 then pw b i (i / 4) <<< 8 ||| BitVec.ofNat 32 b[i].toNat else pw b i j := by
  unfold pw
  rw [List.take_succ_eq_append_getElem hi]
  have hl : (b.take i).length = i := by simp; omega
  by_cases h1 : 4 * j ≤ i
  · rw [List.drop_append_of_le_length (by omega)]
    by_cases h2 : i - 4 * j < 4
    · have hj : j = i / 4 := by omega
      subst hj
      rw [if_pos rfl, List.take_of_length_le (show (List.drop (4 * (i / 4)) (List.take i b) ++ [b[i]]).length ≤ 4 by simp; omega), fold4_snoc, List.take_of_length_le (show (List.drop (4 * (i / 4)) (List.take i b)).length ≤ 4 by simp; omega)]
    · rw [if_neg (by omega), List.take_append_of_le_length (by simp; omega)]
  · rw [if_neg (by omega), List.drop_eq_nil_of_le (by simp; omega), List.drop_eq_nil_of_le (by simp; omega)]

theorem wrev_length (b : List UInt8) (n : Nat) : (wrev b n).length = 16 + n := by
  induction n with
  | zero => rfl
  | succ n ih => simp [wrev, ih]; omega
theorem wrev_zero (b : List UInt8) (j : Nat) (hj : j < 16) : (wrev b 0).getD (15 - j) 0#32 = word b j := by
  have : j = 0 ∨ j = 1 ∨ j = 2 ∨ j = 3 ∨ j = 4 ∨ j = 5 ∨ j = 6 ∨ j = 7 ∨ j = 8 ∨ j = 9 ∨ j = 10 ∨ j = 11 ∨ j = 12 ∨ j = 13 ∨ j = 14 ∨ j = 15 := by omega
  rcases this with h | h | h | h | h | h | h | h | h | h | h | h | h | h | h | h <;> subst h <;> rfl

/-- The first t words are known. -/
def Known (b : List UInt8) (t : Nat) (g : Nat → BitVec 32) : Prop := ∀ j, j < t → g j = (wrev b (t - 16)).getD (t - 1 - j) 0#32
theorem known_start (b : List UInt8) (g : Nat → BitVec 32) (h : ∀ j, j < 16 → g j = word b j) : Known b 16 g := fun j hj => by
  rw [h j hj]
  exact (wrev_zero b j hj).symm
theorem known_next {b : List UInt8} {t : Nat} {g : Nat → BitVec 32} (ht : 16 ≤ t) (h : Known b t g) {x : BitVec 32} (hx : x = g (t - 16) + sig0 (g (t - 15)) + g (t - 7) + sig1 (g (t - 2))) :
    Known b (t + 1) (fun j => if j = t then x else g j) := fun j hj => by
  have e : t + 1 - 16 = (t - 16) + 1 := by omega
  rw [e, wrev]
  show (if j = t then x else g j) = _
  by_cases hjt : j = t
  · subst hjt
    rw [if_pos rfl, hx, h _ (by omega), h _ (by omega), h _ (by omega), h _ (by omega)]
    have e0 : j + 1 - 1 - j = 0 := by omega
    have e1 : j - 1 - (j - 16) = 15 := by omega
    have e2 : j - 1 - (j - 15) = 14 := by omega
    have e3 : j - 1 - (j - 7) = 6 := by omega
    have e4 : j - 1 - (j - 2) = 1 := by omega
    rw [e0, e1, e2, e3, e4]
    rfl
  · rw [if_neg hjt, h j (by omega)]
    have e5 : t + 1 - 1 - j = (t - 1 - j) + 1 := by omega
    rw [e5]
    rfl
theorem known_done {b : List UInt8} {g : Nat → BitVec 32} (h : Known b 64 g) (j : Nat) (hj : j < 64) : g j = wAt b j := h j hj

def tab (g : Nat → BitVec 32) : List (BitVec 32) := (List.range 64).map g
theorem tab_length (g : Nat → BitVec 32) : (tab g).length = 64 := by simp [tab]
theorem tab_get (g : Nat → BitVec 32) (i : Nat) (hi : i < 64) : (tab g)[i]? = some (g i) := by simp [tab, hi]
theorem tab_set (g : Nat → BitVec 32) (i : Nat) (x : BitVec 32) : (tab g).set i x = tab (fun j => if j = i then x else g j) := by
  apply List.ext_getElem?
  intro k
  by_cases hk : k < 64
  · rw [List.getElem?_set, tab_get _ _ hk, tab_get _ _ hk, tab_length]
    by_cases h : i = k
    · subst h; simp [hk]
    · rw [if_neg h, if_neg (by omega)]
  · rw [List.getElem?_eq_none (by simp [tab]; omega), List.getElem?_eq_none (by simp [tab]; omega)]
theorem tab_congr {g g' : Nat → BitVec 32} (h : ∀ j, j < 64 → g j = g' j) : tab g = tab g' := by
  unfold tab
  apply List.map_congr_left
  intro j hj
  exact h j (by simpa using hj)
end Go.Proofs.YtaoegpmjogladaaDoor

/-
  hash.schedule: the words of a block.
-/
namespace Go.Proofs.YtaoegpmjogladaaDoor
open Go.RowKit

theorem Tryd.agg5 (W : World) : (isAgg 5).run Tryd.prog W = .ok false W := by kernel_rfl
theorem Tryd.agg52 (W : World) : (isAgg 52).run Tryd.prog W = .ok false W := by kernel_rfl
theorem Blk.new_at (w : World) (t : TypeId) {n : Nat} {cs cs' : Array Value} (hn : n = w.heap.size) (h : cs = cs') : Blk (w.alloc (.cells cs t)) n t cs' := by
  subst hn h; exact Blk.new w t _
theorem blk_set {w : World} {g : Nat} {t : TypeId} {l : List (BitVec 32)} (h : Blk w g t (ws l).toArray) (i : Nat) (x : BitVec 32) : Blk (w.setCell ⟨g, i, none⟩ (W32 x)) g t (ws (l.set i x)).toArray := by
  have := Blk.set_ h i (W32 x)
  simpa [ws, List.map_set] using this

theorem shl8or (x : BitVec 32) (c : UInt8) : bits .or .u32 ((x.toNat : Int) * 256 % 4294967296) ((c.toNat : Int) % 4294967296) = ((x <<< 8 ||| BitVec.ofNat 32 c.toNat).toNat : Int) := by
  have h1 := shl32' x 8
  have e : (2 : Int) ^ 8 = 256 := by decide
  rw [e] at h1
  have h2 : (c.toNat : Int) % 4294967296 = ((BitVec.ofNat 32 c.toNat).toNat : Int) := by
    rw [BitVec.toNat_ofNat]; omega
  rw [h1, h2, or32]

theorem wlift (x : BitVec 32) {y : Int} (h : y = (x.toNat : Int)) : Value.int .u32 y = W32 x := by rw [h]

theorem sr3 (x : BitVec 32) : (x.toNat : Int) / (8 : Int) = ((x >>> 3).toNat : Int) := shr32 x 3
theorem sr10 (x : BitVec 32) : (x.toNat : Int) / (1024 : Int) = ((x >>> 10).toNat : Int) := shr32 x 10
theorem add4 (x y z u : BitVec 32) : ((x.toNat : Int) + (y.toNat : Int) + (z.toNat : Int) + (u.toNat : Int)) % 4294967296 = ((x + y + z + u).toNat : Int) := by
  simp only [BitVec.toNat_add]; omega
theorem nxt_val (x y z u : BitVec 32) : ((x.toNat : Int) + bits .xor .u32 (bits .xor .u32 ((ror y 7).toNat : Int) ((ror y 18).toNat : Int)) ((y.toNat : Int) / 8) + (z.toNat : Int) +
    bits .xor .u32 (bits .xor .u32 ((ror u 17).toNat : Int) ((ror u 19).toNat : Int)) ((u.toNat : Int) / 1024)) % 4294967296 = ((x + sig0 y + z + sig1 u).toNat : Int) := by
  rw [sr3, sr10, xor32, xor32, xor32, xor32, add4]; rfl
structure Half (b : List UInt8) (w wr : World) (k : Nat) (g : Nat → BitVec 32) : Prop where
  part : ∀ j, j < 16 → g j = pw b k j
  out : Blk wr (w.heap.size + 1) 100 (ws (tab fun _ => 0#32)).toArray
  row : Blk wr (w.heap.size + 1 + 1) 100 (ws (tab g)).toArray
  below : Below w.heap.size w wr
theorem Half.step {b : List UInt8} {w wr : World} {k : Nat} {g : Nat → BitVec 32} (h : Half b w wr k g) (hb : b.length = 64) (hk : k < 64) :
    Half b w (wr.setCell ⟨w.heap.size + 1 + 1, k / 4, none⟩ (W32 (g (k / 4) <<< 8 ||| BitVec.ofNat 32 (b[k]'(by omega)).toNat))) (k + 1) (fun j => if j = k / 4 then g (k / 4) <<< 8 ||| BitVec.ofNat 32 (b[k]'(by omega)).toNat else g j) := by
  refine ⟨fun j hj => ?_, h.out.far (by simp) _, ?_, h.below.setCell (by simp; omega) _⟩
  · rw [pw_step b k (by omega) j, ← h.part _ (by omega), ← h.part _ hj]
  · rw [← tab_set]; exact blk_set h.row _ _

set_option maxRecDepth 100000 in
set_option maxHeartbeats 400000 in
theorem schedule (b : List UInt8) (hb : b.length = 64) (w : World) :
    Calls Tryd.prog 72 #[.agg (bs b).toArray] w fun e w' => e = .returned (.agg (ws (tab (wAt b))).toArray) ∧ Below w.heap.size w w' := by
  have hs31 : (Tryd.prog.info? 54).map (·.size) = some (bs b).toArray.size := by rw [Tryd.size54]; simp [bs, hb]
  have HS := Lib.hid hs31
  clear hs31
  go_enter Tryd.func72, Tryd.ntmps72
  go_wp2_with (first | (refine wpList_load_row rfl 54 (.tmp 1) rfl w.heap.size rfl 54 (bs b).toArray (0, 0) _ (((Blk.new w 54 _).alloc _).alloc _) Tryd.underlying54 rfl HS.out ?_))
  go_loopw [12] (fun v wr => ∃ (k : Nat) (g : Nat → BitVec 32), k ≤ 64 ∧ v = .int .i64 k ∧ Half b w wr k g) (fun v _ => 64 - (intOf v).toNat)
  case atStart =>
    refine ⟨0, fun _ => 0#32, by omega, rfl, fun j _ => (pw_zero b j).symm, ?_, ?_, (((Below.refl _ _).alloc (Nat.le_refl _) _).alloc (by simp) _).alloc (by simp; omega) _⟩
    · exact (Blk.new_at _ 100 (by simp) (by kernel_rfl)).alloc _
    · exact Blk.new_at _ 100 (by simp) (by kernel_rfl)
  case round =>
    obtain ⟨k, g, hk, rfl, hh⟩ := hrel
    have H := Lib.hid hh
    clear hh
    by_cases hlt : k < 64
    · have hix := fun W => run_index_arr (P := Tryd.prog) W 54 5 64 (bs b) k _ Tryd.underlying54 Tryd.sz5 Tryd.agg5 hlt (bs_get b k (by omega))
      have hcl := (Blk.cell H.out.row (k / 4)).trans (by simpa using ws_get (tab_get g (k / 4) (by omega)))
      have hfr := Blk.frozen H.out.row (k / 4)
      go_wp2
      go_roundw
      case rel => exact ⟨k + 1, _, by omega, by go_num, by rw [shl8or]; exact H.out.step hb hlt⟩
      case measure => simp [intOf]; omega
    · have hke : k = 64 := by omega
      have HK := Lib.hid hke
      have hge : 64 ≤ k := by omega
      have HB := Lib.hid hb
      clear hlt hk hb hke
      obtain ⟨wo, hwo⟩ : ∃ wo : World, wo = wr := ⟨_, rfl⟩
      subst hwo
      go_wp2
      go_loopw [6] (fun v wr => ∃ (t : Nat) (g : Nat → BitVec 32), 16 ≤ t ∧ t ≤ 64 ∧ v = .int .i64 t ∧ Hid (Known b t g ∧ Blk wr (w.heap.size + 1) 100 (ws (tab fun _ => 0#32)).toArray ∧ Blk wr (w.heap.size + 1 + 1) 100 (ws (tab g)).toArray ∧ Below w.heap.size w wr)) (fun v _ => 64 - (intOf v).toNat)
      case atStart => exact ⟨16, g, by omega, by omega, rfl, known_start b g (fun j hj => by rw [H.out.part j hj, HK.out, pw_full b HB.out]), H.out.out, H.out.row, H.out.below⟩
      case round =>
        obtain ⟨t, g1, ht0, ht, rfl, hh⟩ := hrel
        by_cases hlt : t < 64
        · have c16 := (Blk.cell hh.out.2.2.1 (t - 16)).trans (by simpa using ws_get (tab_get g1 (t - 16) (by omega)))
          have c15 := (Blk.cell hh.out.2.2.1 (t - 15)).trans (by simpa using ws_get (tab_get g1 (t - 15) (by omega)))
          have c7 := (Blk.cell hh.out.2.2.1 (t - 7)).trans (by simpa using ws_get (tab_get g1 (t - 7) (by omega)))
          have c2 := (Blk.cell hh.out.2.2.1 (t - 2)).trans (by simpa using ws_get (tab_get g1 (t - 2) (by omega)))
          have c0 := (Blk.cell hh.out.2.2.1 t).trans (by simpa using ws_get (tab_get g1 t (by omega)))
          have hfr := Blk.frozen hh.out.2.2.1 t
          have e16 : IntKind.i64.wrap ((t : Int) - 16) = (t : Int) - 16 := IntWalk.i64_in _ (by omega)
          have e15 : IntKind.i64.wrap ((t : Int) - 15) = (t : Int) - 15 := IntWalk.i64_in _ (by omega)
          have e7 : IntKind.i64.wrap ((t : Int) - 7) = (t : Int) - 7 := IntWalk.i64_in _ (by omega)
          have e2 : IntKind.i64.wrap ((t : Int) - 2) = (t : Int) - 2 := IntWalk.i64_in _ (by omega)
          have n16 : ((t : Int) - 16).toNat = t - 16 := by omega
          have n15 : ((t : Int) - 15).toNat = t - 15 := by omega
          have n7 : ((t : Int) - 7).toNat = t - 7 := by omega
          have n2 : ((t : Int) - 2).toNat = t - 2 := by omega
          have r16 : (16 : Int) ≤ (t : Int) := by omega
          have r7 : (7 : Int) ≤ (t : Int) := by omega
          have p16 : (0 : Int) ≤ (t : Int) - 16 := by omega
          have p15 : (0 : Int) ≤ (t : Int) - 15 := by omega
          have p7 : (0 : Int) ≤ (t : Int) - 7 := by omega
          have p2 : (0 : Int) ≤ (t : Int) - 2 := by omega
          have q16 : (t : Int) - 16 < 64 := by omega
          have q15 : (t : Int) - 15 < 64 := by omega
          have q7 : (t : Int) - 7 < 64 := by omega
          have q2 : (t : Int) - 2 < 64 := by omega
          go_wp2
          go_quiet (fail)
          go_wp2_with (go_at_call 73; refine (rotrI _ _ (by decide) (by decide) _).mono ?_; rintro e w' ⟨rfl, rfl⟩)
          obtain ⟨w2, hw2⟩ : ∃ w2, w2 = (wr.drewN nq).drew := ⟨_, rfl⟩
          have d16 : w2.cell? ⟨w.heap.size + 1 + 1, t - 16, none⟩ = some (W32 (g1 (t - 16))) := by rw [hw2]; exact c16
          have d7 : w2.cell? ⟨w.heap.size + 1 + 1, t - 7, none⟩ = some (W32 (g1 (t - 7))) := by rw [hw2]; exact c7
          have d0 : w2.cell? ⟨w.heap.size + 1 + 1, t, none⟩ = some (W32 (g1 t)) := by rw [hw2]; exact c0
          have dfr : w2.frozen? ⟨w.heap.size + 1 + 1, t, none⟩ = false := by rw [hw2]; exact hfr
          have HH : Hid (Known b t g1 ∧ Blk w2 (w.heap.size + 1) 100 (ws (tab fun _ => 0#32)).toArray ∧ Blk w2 (w.heap.size + 1 + 1) 100 (ws (tab g1)).toArray ∧ Below w.heap.size w w2) := by
            rw [hw2]
            exact ⟨hh.out.1, (hh.out.2.1.drewN nq).drew, (hh.out.2.2.1.drewN nq).drew, (below_drewN hh.out.2.2.2 nq).drew⟩
          refine wp_region_still_tail 14 (by kernel_rfl) (by kernel_rfl) ?_
          simp only [List.take_succ_cons, List.take_zero, List.drop_succ_cons, List.drop_zero]
          change wpStill _ _ (wr.drewN nq).drew (fun a' => wpList _ _ _ _ a' (wr.drewN nq).drew) _ _
          rw [← hw2]
          clear hw2 hh
          obtain ⟨x, hx⟩ : ∃ x, x = g1 (t - 16) + sig0 (g1 (t - 15)) + g1 (t - 7) + sig1 (g1 (t - 2)) := ⟨_, rfl⟩
          have hwx : (x.toNat : Int) = ((g1 (t - 16) + sig0 (g1 (t - 15)) + g1 (t - 7) + sig1 (g1 (t - 2))).toNat : Int) := by rw [hx]
          have HX := Lib.hid hx
          have HWX := Lib.hid hwx
          clear hx hwx
          repeat still_step
          refine wpStill_nil ?_
          go_wp2
          go_roundw
          case rel =>
            rw [nxt_val, ← HWX.out]
            exact ⟨t + 1, _, by omega, by omega, by go_num, known_next ht0 HH.out.1 HX.out, HH.out.2.1.far (by simp) _, by rw [← tab_set]; exact blk_set HH.out.2.2.1 t x, HH.out.2.2.2.setCell (by simp; omega) _⟩
          case measure => simp [intOf]; omega
        · have hte : t = 64 := by omega
          have HT := Lib.hid hte
          have hge2 : 64 ≤ t := by omega
          clear hlt ht hte
          have hl54 : (Tryd.prog.info? 100).map (·.size) = some (ws (tab g1)).toArray.size := by rw [Tryd.size100]; simp [ws, tab]
          have HS54 := Lib.hid hl54
          clear hl54
          go_wp2_with (first
            | (refine wpList_load_row rfl 100 (.tmp 3) rfl (w.heap.size + 1 + 1) rfl 100 (ws (tab g1)).toArray (0, 0) _ hh.out.2.2.1 Tryd.underlying100 rfl HS54.out ?_)
            | (refine wpList_store_row rfl 100 (.tmp 2) (.tmp 71) rfl (w.heap.size + 1) (ws (tab g1)).toArray rfl rfl 100 _ hh.out.2.1 HS54.out (by simp [ws, tab]) (all_oneCell_toArray (ws_one _)) ?_))
          refine bodyPost_ret (results_cell_row Tryd.results72 _ _ (w.heap.size + 1) 100 (ws (tab g1)).toArray (0, 0) _ rfl (Blk.setRow hh.out.2.1 _) Tryd.underlying100 rfl HS54.out) rfl ⟨?_, below_setRow hh.out.2.2.2 (by omega) _⟩
          rw [tab_congr (known_done (HT.out ▸ hh.out.1))]
end Go.Proofs.YtaoegpmjogladaaDoor

/-
  hash.compress: what a block makes of a hash value.
-/
namespace Go.Proofs.YtaoegpmjogladaaDoor
open Go.RowKit

/-- The round constants lie in block g. -/
def KT (g : Nat) (w : World) : Prop := ∀ t, t < 64 → w.cell? ⟨g, t, none⟩ = some (W32 (kTab.getD t 0#32))
theorem KT.lt {g : Nat} {w : World} (h : KT g w) : g < w.heap.size := block_lt_of_cell (h 0 (by omega))
theorem KT.below {g : Nat} {w w' : World} (h : KT g w) (hb : Below w.heap.size w w') : KT g w' := fun t ht => (hb.cell (p := ⟨g, t, none⟩) h.lt).trans (h t ht)
theorem KT.drewN {g : Nat} {w : World} (h : KT g w) (n : Nat) : KT g (w.drewN n) := h

theorem neg_lit : (if IntKind.u32.signed = true then (-1 : Int) else IntKind.u32.max) = 4294967295 := by decide
theorem add5 (x y z u r : BitVec 32) : ((x.toNat : Int) + (y.toNat : Int) + (z.toNat : Int) + (u.toNat : Int) + (r.toNat : Int)) % (4294967296 : Int) = ((x + y + z + u + r).toNat : Int) := by
  simp only [BitVec.toNat_add]; omega
theorem x_val (s : St) (k r : BitVec 32) : ((s.h.toNat : Int) + bits .xor .u32 (bits .xor .u32 ((ror s.e 6).toNat : Int) ((ror s.e 11).toNat : Int)) ((ror s.e 25).toNat : Int) +
    bits .xor .u32 (bits .and .u32 (s.e.toNat : Int) (s.f.toNat : Int)) (bits .and .u32 (bits .xor .u32 (if IntKind.u32.signed = true then (-1 : Int) else IntKind.u32.max) (s.e.toNat : Int)) (s.g.toNat : Int)) + (k.toNat : Int) + (r.toNat : Int)) % (4294967296 : Int) = ((xOf s k r).toNat : Int) := by
  rw [neg_lit, not32, and32, and32, xor32, xor32, xor32, add5]; rfl
theorem y_val (s : St) : (bits .xor .u32 (bits .xor .u32 ((ror s.a 2).toNat : Int) ((ror s.a 13).toNat : Int)) ((ror s.a 22).toNat : Int) +
    bits .xor .u32 (bits .xor .u32 (bits .and .u32 (s.a.toNat : Int) (s.b.toNat : Int)) (bits .and .u32 (s.a.toNat : Int) (s.c.toNat : Int))) (bits .and .u32 (s.b.toNat : Int) (s.c.toNat : Int))) % (4294967296 : Int) = ((yOf s).toNat : Int) := by
  rw [and32, and32, and32, xor32, xor32, xor32, xor32, add32']; rfl
theorem rnds_succ (v : St) (b : List UInt8) (t : Nat) : rnds v b (t + 1) = rnd (rnds v b t) (kTab[t]?.getD 0#32) (wAt b t) := by rw [rnds, List.getD_eq_getElem?_getD]

def tab8 (g : Nat → BitVec 32) : List (BitVec 32) := (List.range 8).map g
theorem tab8_get (g : Nat → BitVec 32) (i : Nat) (hi : i < 8) : (tab8 g)[i]? = some (g i) := by simp [tab8, hi]
theorem tab8_set (g : Nat → BitVec 32) (i : Nat) (x : BitVec 32) : (tab8 g).set i x = tab8 (fun j => if j = i then x else g j) := by
  apply List.ext_getElem?
  intro k
  by_cases hk : k < 8
  · rw [List.getElem?_set, tab8_get _ _ hk, tab8_get _ _ hk]
    by_cases h : i = k
    · subst h; simp [hk, tab8]
    · rw [if_neg h, if_neg (by omega)]
  · rw [List.getElem?_eq_none (by simp [tab8]; omega), List.getElem?_eq_none (by simp [tab8]; omega)]
def St.at (s : St) (i : Nat) : BitVec 32 := s.list.getD i 0#32
theorem St.tab (s : St) : tab8 s.at = s.list := rfl
/-- The sums of the first i words. -/
def mix (v s : St) (i j : Nat) : BitVec 32 := if j < i then v.at j + s.at j else v.at j
theorem mix_zero (v s : St) : tab8 (mix v s 0) = v.list := rfl
theorem mix_step (v s : St) (i : Nat) : (fun j => if j = i then v.at i + s.at i else mix v s i j) = mix v s (i + 1) := by
  funext j
  unfold mix
  by_cases h : j = i
  · subst h; simp
  · by_cases h2 : j < i
    · simp [h, h2, show j < i + 1 by omega]
    · simp [h, h2, show ¬ j < i + 1 by omega]
theorem mix_done (v : St) (b : List UInt8) : tab8 (mix v (rnds v b 64) 8) = (comp v b).list := rfl

theorem St.list_length (s : St) : s.list.length = 8 := rfl

/-- What the call has laid before its rounds. -/
structure Laid (w wl : World) (v : St) (b : List UInt8) (M : Nat) : Prop where
  val : Blk wl w.heap.size 53 (ws v.list).toArray
  out : Blk wl (w.heap.size + 1 + 1) 53 (ws [0#32, 0#32, 0#32, 0#32, 0#32, 0#32, 0#32, 0#32]).toArray
  row : Blk wl M 100 (ws (tab (wAt b))).toArray
  tbl : KT 0 wl
  below : Below w.heap.size w wl
theorem Laid.drewN {w wl : World} {v : St} {b : List UInt8} {M : Nat} (h : Laid w wl v b M) (n : Nat) : Laid w (wl.drewN n) v b M :=
  ⟨h.val.drewN n, h.out.drewN n, h.row.drewN n, h.tbl.drewN n, below_drewN h.below n⟩
theorem Laid.make {w w1 wl : World} {v : St} {b : List UInt8} {A : Array Value} {z : Array Value} (hk : KT 0 w)
    (hb1 : Below (((w.alloc (.cells (ws v.list).toArray 53)).alloc (.cells A 54)).alloc (.cells (ws [0#32, 0#32, 0#32, 0#32, 0#32, 0#32, 0#32, 0#32]).toArray 53)).heap.size (((w.alloc (.cells (ws v.list).toArray 53)).alloc (.cells A 54)).alloc (.cells (ws [0#32, 0#32, 0#32, 0#32, 0#32, 0#32, 0#32, 0#32]).toArray 53)) w1)
    (hwl : (w1.alloc (.cells z 100)).setRow w1.heap.size (ws (tab (wAt b))).toArray = wl) : Laid w wl v b w1.heap.size := by
  have hsz := hb1.size
  simp only [size_alloc] at hsz
  subst hwl
  refine ⟨?_, ?_, (Blk.new w1 100 z).setRow _, ?_, ?_⟩
  · refine Blk.setRow_far ((Blk.below (((Blk.new w 53 _).alloc _).alloc _) hb1 (by simp only [size_alloc]; omega)).alloc _) (by omega) _
  · refine Blk.setRow_far ((Blk.below (Blk.new_at _ 53 (by simp only [size_alloc]) rfl) hb1 (by simp only [size_alloc]; omega)).alloc _) (by omega) _
  · have h1 : Below w.heap.size w (((w.alloc (.cells (ws v.list).toArray 53)).alloc (.cells A 54)).alloc (.cells (ws [0#32, 0#32, 0#32, 0#32, 0#32, 0#32, 0#32, 0#32]).toArray 53)) := (((Below.refl _ _).alloc (Nat.le_refl _) _).alloc (by simp only [size_alloc]; omega) _).alloc (by simp only [size_alloc]; omega) _
    exact hk.below (below_setRow ((h1.trans (hb1.mono (by simp only [size_alloc]; omega))).alloc (by omega) _) (by omega) _)
  · have h1 : Below w.heap.size w (((w.alloc (.cells (ws v.list).toArray 53)).alloc (.cells A 54)).alloc (.cells (ws [0#32, 0#32, 0#32, 0#32, 0#32, 0#32, 0#32, 0#32]).toArray 53)) := (((Below.refl _ _).alloc (Nat.le_refl _) _).alloc (by simp only [size_alloc]; omega) _).alloc (by simp only [size_alloc]; omega) _
    exact below_setRow ((h1.trans (hb1.mono (by simp only [size_alloc]; omega))).alloc (by omega) _) (by omega) _
theorem Laid.cell {w wl : World} {v : St} {b : List UInt8} {M : Nat} (h : Laid w wl v b M) :
    wl.cell? ⟨w.heap.size, 0, none⟩ = some (W32 v.a) ∧ wl.cell? ⟨w.heap.size, 1, none⟩ = some (W32 v.b) ∧ wl.cell? ⟨w.heap.size, 2, none⟩ = some (W32 v.c) ∧ wl.cell? ⟨w.heap.size, 3, none⟩ = some (W32 v.d) ∧
    wl.cell? ⟨w.heap.size, 4, none⟩ = some (W32 v.e) ∧ wl.cell? ⟨w.heap.size, 5, none⟩ = some (W32 v.f) ∧ wl.cell? ⟨w.heap.size, 6, none⟩ = some (W32 v.g) ∧ wl.cell? ⟨w.heap.size, 7, none⟩ = some (W32 v.h) :=
  ⟨Blk.cell h.val 0, Blk.cell h.val 1, Blk.cell h.val 2, Blk.cell h.val 3, Blk.cell h.val 4, Blk.cell h.val 5, Blk.cell h.val 6, Blk.cell h.val 7⟩

set_option maxRecDepth 100000 in
set_option maxHeartbeats 1000000 in
set_option maxRecDepth 100000 in
theorem compress (v : St) (b : List UInt8) (hb : b.length = 64) (w : World) (hk : KT 0 w) :
    Calls Tryd.prog 60 #[.agg (ws v.list).toArray, .agg (bs b).toArray] w fun e w' => e = .returned (.agg (ws (comp v b).list).toArray) ∧ Below w.heap.size w w' := by
  have hs31 : (Tryd.prog.info? 54).map (·.size) = some (bs b).toArray.size := by rw [Tryd.size54]; simp [bs, hb]
  have hs54 : (Tryd.prog.info? 100).map (·.size) = some (ws (tab (wAt b))).toArray.size := by rw [Tryd.size100]; simp [ws, tab]
  have HS := Lib.hid hs31
  have HS54 := Lib.hid hs54
  have HB := Lib.hid hb
  have HKT := Lib.hid hk
  clear hs31 hs54 hb hk
  go_enter Tryd.func60, Tryd.ntmps60
  go_wp2_with (first
    | (refine wpList_load_row rfl 54 (.tmp 3) rfl (w.heap.size + 1) rfl 54 (bs b).toArray (0, 0) _ ((Blk.new_at _ 54 (by simp) rfl).alloc _) Tryd.underlying54 rfl HS.out ?_)
    | (go_at_call 72; refine (schedule b HB.out _).mono ?_; rintro e w1 ⟨rfl, hb1⟩; have HB1 := Lib.hid hb1; clear hb1)
    | (refine wpList_store_row rfl 100 (.tmp 5) (.tmp 20) rfl w1.heap.size (ws (tab (wAt b))).toArray rfl rfl 100 _ (Blk.new w1 100 _) HS54.out (by simp [ws, tab]) (all_oneCell_toArray (ws_one _)) ?_))
  obtain ⟨M, hM⟩ : ∃ M, M = w1.heap.size := ⟨_, rfl⟩
  generalize hwl : World.setRow (World.alloc w1 _) w1.heap.size (ws (tab (wAt b))).toArray = wl
  have HL := Lib.hid (Laid.make HKT.out HB1.out hwl)
  clear hwl HB1 HKT
  obtain ⟨c0, c1, c2, c3, c4, c5, c6, c7⟩ := HL.out.cell
  rw [← hM] at HL ⊢
  clear hM
  go_quiet (fail)
  clear c0 c1 c2 c3 c4 c5 c6 c7
  go_wp2
  go_loopw [6, 7, 8, 9, 10, 11, 12, 13, 37] (fun a' b' c' d' e' f' g' h' i' wr => ∃ t : Nat, t ≤ 64 ∧ i' = .int .i64 t ∧ a' = W32 (rnds v b t).a ∧ b' = W32 (rnds v b t).b ∧ c' = W32 (rnds v b t).c ∧ d' = W32 (rnds v b t).d ∧ e' = W32 (rnds v b t).e ∧ f' = W32 (rnds v b t).f ∧ g' = W32 (rnds v b t).g ∧ h' = W32 (rnds v b t).h ∧ Hid (Laid w wr v b M)) (fun _ _ _ _ _ _ _ _ i' _ => 64 - (intOf i').toNat)
  case atStart => exact ⟨0, by omega, rfl, rfl, rfl, rfl, rfl, rfl, rfl, rfl, rfl, HL.out.drewN _⟩
  case round =>
    clear HL
    obtain ⟨t, ht, rfl, rfl, rfl, rfl, rfl, rfl, rfl, rfl, rfl, hh⟩ := hrel
    obtain ⟨s, hs⟩ : ∃ s, s = rnds v b t := ⟨_, rfl⟩
    rw [← hs]
    have HSS := Lib.hid hs
    clear hs
    by_cases hlt : t < 64
    · have kt := hh.out.tbl t hlt
      have wt := (Blk.cell hh.out.row t).trans (by simpa using ws_get (tab_get (wAt b) t hlt))
      go_wp2
      go_quiet ((go_at_call 73; exact quiet_left (rotrI _ _ (by decide) (by decide) _)))
      go_wp2_with (go_at_call 73; refine (rotrI _ _ (by decide) (by decide) _).mono ?_; rintro e w' ⟨rfl, rfl⟩)
      go_roundw
      case rel => exact ⟨t + 1, by omega, by go_num, by rw [x_val, y_val, add32', rnds_succ, ← HSS.out]; rfl, by rw [rnds_succ, ← HSS.out]; rfl, by rw [rnds_succ, ← HSS.out]; rfl, by rw [rnds_succ, ← HSS.out]; rfl, by rw [x_val, add32', rnds_succ, ← HSS.out]; rfl, by rw [rnds_succ, ← HSS.out]; rfl, by rw [rnds_succ, ← HSS.out]; rfl, by rw [rnds_succ, ← HSS.out]; rfl, hh.out.drewN nq⟩
      case measure => simp [intOf]; omega
    · have hte : t = 64 := by omega
      have HT := Lib.hid hte
      have hge : 64 ≤ t := by omega
      clear hlt ht hte
      obtain ⟨wo, hwo⟩ : ∃ wo : World, wo = wr := ⟨_, rfl⟩
      subst hwo
      go_wp2
      go_loopw [109] (fun v' wr => ∃ i : Nat, i ≤ 8 ∧ v' = .int .i64 i ∧ Hid (Blk wr w.heap.size 53 (ws (tab8 (mix v s i))).toArray ∧ Blk wr (w.heap.size + 1 + 1) 53 (ws [0#32, 0#32, 0#32, 0#32, 0#32, 0#32, 0#32, 0#32]).toArray ∧ Below w.heap.size w wr)) (fun v' _ => 8 - (intOf v').toNat)
      case atStart => exact ⟨0, by omega, rfl, hh.out.val, hh.out.out, hh.out.below⟩
      case round =>
        clear hh
        obtain ⟨i, hi, rfl, hh⟩ := hrel
        by_cases hlt : i < 8
        · have hix : ∀ W, (Instr.index 53 (.agg #[W32 s.a, W32 s.b, W32 s.c, W32 s.d, W32 s.e, W32 s.f, W32 s.g, W32 s.h]) (.int .i64 (i : Int))).run Tryd.prog W = .ok (W32 (s.at i)) W := fun W =>
            run_index_arr (P := Tryd.prog) W 53 52 8 (ws s.list) i _ Tryd.underlying53 Tryd.sz52 Tryd.agg52 hlt (ws_get (by rw [← St.tab]; exact tab8_get _ _ hlt))
          have hcl := (Blk.cell hh.out.1 i).trans (by simpa using ws_get (tab8_get (mix v s i) i hlt))
          have hfr := Blk.frozen hh.out.1 i
          go_wp2
          go_roundw
          case rel =>
            rw [add32']
            have hm : mix v s i i = v.at i := by simp [mix]
            exact ⟨i + 1, by omega, by go_num, by rw [← mix_step, ← tab8_set, hm]; exact blk_set hh.out.1 i _, hh.out.2.1.far (by simp; omega) _, hh.out.2.2.setCell (by simp) _⟩
          case measure => simp [intOf]; omega
        · have hie : i = 8 := by omega
          have HI := Lib.hid hie
          have hge2 : 8 ≤ i := by omega
          clear hlt hi hie
          have hl30 : (Tryd.prog.info? 53).map (·.size) = some (ws (tab8 (mix v s i))).toArray.size := by rw [Tryd.size53]; simp [ws, tab8]
          have HS30 := Lib.hid hl30
          clear hl30
          go_wp2_with (first
            | (refine wpList_load_row rfl 53 (.tmp 2) rfl w.heap.size rfl 53 (ws (tab8 (mix v s i))).toArray (0, 0) _ hh.out.1 Tryd.underlying53 rfl HS30.out ?_)
            | (refine wpList_store_row rfl 53 (.tmp 4) (.tmp 120) rfl (w.heap.size + 1 + 1) (ws (tab8 (mix v s i))).toArray rfl rfl 53 _ hh.out.2.1 HS30.out (by simp [ws, tab8]) (all_oneCell_toArray (ws_one _)) ?_))
          refine bodyPost_ret (results_cell_row Tryd.results60 _ _ (w.heap.size + 1 + 1) 53 (ws (tab8 (mix v s i))).toArray (0, 0) _ rfl (Blk.setRow hh.out.2.1 _) Tryd.underlying53 rfl HS30.out) rfl ⟨?_, below_setRow hh.out.2.2 (by omega) _⟩
          rw [HI.out, HSS.out, HT.out, mix_done]
end Go.Proofs.YtaoegpmjogladaaDoor
