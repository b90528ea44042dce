/-
  FOR THE LAWS: an append onto a slice that is full; arguments as lists; cuts with a capacity.
-/
import Derived.Test.YtlemelfepalnfaaSan
import Derived.ArgAppend
namespace Go.Proofs.Ytlemelfepalnfaa
open Go.RowKit WM

theorem run_append_no {P : Program} (w : World) (t ty e : TypeId) (i : TypeInfo) (ht : P.underlying t = some (.slice e)) (hi : P.info? e = some i) (A X : Option Addr) (n c k : Nat) (hnc : n ≤ c) :
    (Builtin.append_ #[t, t] ty #[.slice A n c, .slice X 0 k]).run P w = .ok (.slice A n c) w := by
  cases A <;> cases X <;> simp [Builtin.append_, run_underlying ht, sizeOf, typeInfo, hi, Builtin.lenOf, Builtin.firstCells, hnc, storeCells, loadCells, loadCellsFrom]

/-- 'append(b, x...)', b full: its cells, then x's. -/
theorem wpList_append_full {P : Program} (w : World) {ops : Array Oper} {rest : List Oper} {o : Oper} {a : Act} {Q : Exit → Act → World → Prop} (hgd : o.guard = none) (s x : Operand) (t : TypeId)
    (ho : o.op = .call { callee := .builtin .append, args := #[s, x], argTypes := #[t, t] })
    (e : TypeId) (i : TypeInfo) (z : Value) (size bytes : Nat) (ht : P.underlying t = some (.slice e)) (hi : P.info? e = some i) (hz : i.zero = some z) (hsize : i.size = size) (hby : i.bytes = bytes) (hzs : z.cells.size = size) (hsz : 0 < size)
    (A X : Option Addr) (n m c : Nat) (xs ys : List Value) (hs : a.eval s = .slice A n n) (hr : Reads w w.heap.size size A n xs) (hx : a.eval x = .slice X m c) (hr2 : Reads w w.heap.size size X m ys) (h1 : ∀ u ∈ ys, u.oneCell' = true)
    (h63 : n + m ≤ maxLen) (hbytes : (n + m) * bytes ≤ 140737488355328)
    (h : ∀ A2 c2 w', Reads w' w'.heap.size size A2 (n + m) (xs ++ ys) → n + m ≤ c2 → Below w.heap.size w w' → wpList P ops Q rest (a.put o.dst (.slice A2 (n + m) c2)) w') : wpList P ops Q (o :: rest) a w := by
  by_cases hm : m = 0
  · subst hm
    have hy : ys = [] := List.eq_nil_of_length_eq_zero (by simpa using hr2.1)
    subst hy
    refine wpList_plain hgd fun K hK => ?_
    have hrun := run_append_no (P := P) w t o.type e i ht hi A X n n c (Nat.le_refl _)
    unfold Oper.wp
    simp [execOp, ho, resolve, invoke, builtin, hs, hx, hrun, Result.andThen]
    exact hK _ _ (by simpa using h A n w (by simpa using hr) (Nat.le_refl _) (Below.refl _ _))
  · obtain ⟨ad, rfl, hb, hc⟩ := hr2.2 (by omega)
    refine wpList_append_grows w hgd s x t ho e i z size bytes ht hi hz hsize hby hzs hsz A n n xs hs ?_ hr.1 ?_ ad m c ys hx hr2.1 hc h1 (by omega) h63 hbytes ?_
    · intro hA
      subst hA
      by_cases hn : n = 0
      · exact ⟨hn, hn⟩
      · obtain ⟨_, e, _⟩ := hr.2 (by omega); cases e
    · intro b hA j u hu
      subst hA
      by_cases hn : n = 0
      · subst hn
        have : xs = [] := List.eq_nil_of_length_eq_zero (by simpa using hr.1)
        subst this; simp at hu
      · obtain ⟨b', e, _, hc'⟩ := hr.2 (by omega)
        injection e with e; subst e
        exact hc' j u hu
    · intro v' w' ho2 hg
      obtain ⟨A2, c2, rfl, hcc⟩ := own_form ho2
      have hb2 : Below w.heap.size w w' := (Below.refl _ _).grown hg (Nat.le_refl _) (fun k hk => by cases hk)
      exact h A2 c2 w' (Reads.of_own ho2) hcc hb2

/-- 'b[:len(b):len(b)]' -/
theorem cut_full (A : Option Addr) (n c : Nat) (h : n ≤ c) : ∃ A', (A' = (if n = 0 then A else A.map (·.add (0 * 1)))) ∧
    ∀ W : World, (Instr.sliceAt 28 (.slice A n c) none (some (.int .i64 (n : Int))) (some (.int .i64 (n : Int)))).run Try.prog W = .ok (.slice A' n n) W := by
  refine ⟨_, rfl, fun W => ?_⟩
  rw [run_sliceAt_slice W 28 _ _ _ _ Try.sl28, run_slice_hm W 28 A n c Try.sl28 .i64 .i64 n n (by omega) (by omega) (by omega), Try.elem28, Try.size5]
  simp [sliced]
theorem reads_full {w : World} {B n : Nat} {A A' : Option Addr} {xs : List Value} (h : Reads w B 1 A n xs) (hA : A' = (if n = 0 then A else A.map (·.add (0 * 1)))) : Reads w B 1 A' n xs := by
  refine ⟨h.1, fun hn => ?_⟩
  obtain ⟨ad, rfl, hb, hc⟩ := h.2 hn
  refine ⟨ad, ?_, hb, hc⟩
  rw [hA, if_neg (by omega)]
  obtain ⟨b, o, s⟩ := ad
  simp [Addr.add]

theorem own_cap {w : World} {B : Nat} {e : TypeId} {size n c : Nat} {A : Option Addr} {xs : List Value} (h : w.ownsRow B e size (.slice A n c) n xs) : n ≤ c := by
  obtain ⟨A2, c2, e2, h2⟩ := own_form h
  injection e2 with _ _ e3
  omega

/-- The decoders where they succeed, over a slice of which the list is known otherwise. -/
theorem getInt_is {B : Nat} {A : Option Addr} {n c : Nat} {w : World} (L : List UInt8) {m : Int} {u : Nat} (ha : Reads w B 1 A n (bs L)) (hn : L.length = n) (hc : n ≤ c) (hl : n ≤ 1000000) (hg : gInt L = .ok m u) :
    Calls Try.prog 24 #[.slice A n c] w fun e w' => e = .returned (.tuple #[.int .i64 m, .int .i64 (u : Int), .int .i64 0]) ∧ w = w' := by
  subst hn
  have h := getInt B A c L w ha hc (by omega)
  rw [hg] at h
  exact h
theorem getBytes_is {B : Nat} {A : Option Addr} {n c : Nat} {w : World} (L : List UInt8) {s : List UInt8} {u : Nat} (ha : Reads w B 1 A n (bs L)) (hn : L.length = n) (hc : n ≤ c) (hl : n ≤ 1000000) (hg : gBytes L = .ok s u) :
    Calls Try.prog 26 #[.slice A n c] w fun e w' => e = .returned (.tuple #[.string ⟨s.toArray⟩, .int .i64 (u : Int), .int .i64 0]) ∧ w = w' := by
  subst hn
  have h := getBytes B A c L w ha hc (by omega)
  rw [hg] at h
  exact h

/-- A slice of bytes, integers, strings that came in, as a list. -/
theorem arg_bytes {W : World} {A : Option Addr} {len cap : Nat} {zs : List Int} (hl : len ≤ cap) (hz : zs.length = cap) (h : 0 < len → ∃ x, A = some x ∧ ∀ i, i < zs.length → W.cell? (x.add i) = some (.int .u8 (zs.getD i 0))) (hw : ∀ n ∈ zs, (Lit.int .u8 n).wf = true) :
    ∃ l : List UInt8, l.length = len ∧ Reads W W.heap.size 1 A len (bs l) := by
  refine ⟨(zs.take len).map fun z => UInt8.ofNat z.toNat, by simp; omega, by simp [bs_length]; omega, fun hn => ?_⟩
  obtain ⟨x, rfl, hc⟩ := h hn
  have h0 := hc 0 (by omega)
  refine ⟨x, rfl, ?_, fun j u hu => ?_⟩
  · have := block_lt_of_cell h0
    rwa [block_of_add] at this
  · have hj : j < len := by
      have := (List.getElem?_eq_some_iff.1 hu).1
      simp [bs_length] at this; omega
    rw [hc j (by omega)]
    have hzj : j < zs.length := by omega
    have hm := hw _ (List.getElem_mem hzj)
    have hb : 0 ≤ zs[j] ∧ zs[j] < 256 := by simp [Lit.wf, IntKind.min, IntKind.max, IntKind.bits, IntKind.signed] at hm; omega
    unfold bs at hu
    rw [List.getElem?_map, List.getElem?_map, List.getElem?_take, if_pos hj, List.getElem?_eq_getElem hzj] at hu
    simp only [Option.map_some, Option.some.injEq] at hu
    rw [← hu, List.getD_eq_getElem?_getD, List.getElem?_eq_getElem hzj]
    simp [UInt8.toNat_ofNat']
    omega

theorem row_bytes {w : World} {a : Option Addr} {len cap : Nat} {zs : List Int} (h : (a = none ∧ len = 0 ∧ cap = 0 ∧ zs = []) ∨ ∃ x, a = some x ∧ len ≤ cap ∧ cap ≤ maxLen ∧ zs.length = cap ∧ (∀ i, i < zs.length → w.cell? (x.add i) = some (.int .u8 (zs.getD i 0))) ∧ ∀ n ∈ zs, (Lit.int .u8 n).wf = true) :
    ∃ l : List UInt8, l.length = len ∧ len ≤ cap ∧ len ≤ 9223372036854775807 ∧ Reads w w.heap.size 1 a len (bs l) := by
  rcases h with ⟨rfl, rfl, rfl, rfl⟩ | ⟨x, rfl, hl, hm, hz, hc, hw⟩
  · exact ⟨[], rfl, Nat.le_refl _, by omega, Reads.none_⟩
  · obtain ⟨l, h1, h2⟩ := arg_bytes (A := some x) hl hz (fun _ => ⟨x, rfl, hc⟩) hw
    exact ⟨l, h1, hl, by unfold maxLen at hm; omega, h2⟩
theorem range_i64 {n : Int} (h : (Lit.int .i64 n).wf = true) : inRange n := by
  simp [Lit.wf, IntKind.min, IntKind.max, IntKind.bits, IntKind.signed] at h
  exact ⟨by omega, by omega⟩
end Go.Proofs.Ytlemelfepalnfaa
