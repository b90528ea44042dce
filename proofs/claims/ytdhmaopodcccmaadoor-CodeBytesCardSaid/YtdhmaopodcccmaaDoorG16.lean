/-
  HEIGHTS: the state of the spreading in memory; give.
-/
import Derived.Test.YtdhmaopodcccmaaDoorG15
set_option linter.unusedVariables false
namespace Go.Proofs.YtdhmaopodcccmaaDoor
open Go.RowKit WM TR KM

/-- Shapes as cells. -/
def shCs : List Sh → List Value
  | [] => []
  | s :: l => shC s ++ shCs l
def All33 (l : List Sh) : Prop := ∀ s ∈ l, s.l.length = 33
theorem shCs_length : ∀ l : List Sh, All33 l → (shCs l).length = l.length * 34
  | [], _ => rfl
  | s :: l, h => by
    rw [shCs, List.length_append, shCs_length l (fun x hx => h x (List.mem_cons_of_mem _ hx)), shC_length, h s (List.mem_cons_self ..), List.length_cons]; omega
theorem shCs_get : ∀ (l : List Sh), All33 l → ∀ (i : Nat) (s : Sh), l[i]? = some s → ∀ j v, (shC s)[j]? = some v → (shCs l)[i * 34 + j]? = some v
  | [], _, i, s, h, _, _, _ => by simp at h
  | t :: l, h33, 0, s, h, j, v, hv => by
    simp only [List.getElem?_cons_zero, Option.some.injEq] at h
    subst h
    have hj := (List.getElem?_eq_some_iff.1 hv).1
    rw [shCs, List.getElem?_append_left (by omega), Nat.zero_mul, Nat.zero_add]
    exact hv
  | t :: l, h33, i + 1, s, h, j, v, hv => by
    have ht : (shC t).length = 34 := by rw [shC_length, h33 t (List.mem_cons_self ..)]
    rw [shCs, List.getElem?_append_right (by omega), ht, show (i + 1) * 34 + j - 34 = i * 34 + j by omega]
    exact shCs_get l (fun x hx => h33 x (List.mem_cons_of_mem _ hx)) i s (by simpa using h) j v hv
/-- Cells put one after the other. -/
def putAll (xs : List Value) : Nat → List Value → List Value
  | _, [] => xs
  | o, v :: r => putAll (xs.set o v) (o + 1) r
theorem putAll_app (a b : List Value) : ∀ (vs : List Value) (o : Nat), putAll (a ++ b) (a.length + o) vs = a ++ putAll b o vs
  | vs, o => by
    induction vs generalizing b o with
    | nil => rfl
    | cons v r ih =>
      rw [putAll, putAll, List.set_append_right _ _ (by omega), show a.length + o - a.length = o by omega]
      exact ih (b.set o v) (o + 1)
theorem putAll_all : ∀ (xs ys vs : List Value), vs.length = xs.length → putAll (xs ++ ys) 0 vs = vs ++ ys
  | [], ys, [], _ => rfl
  | [], ys, v :: vs, h => by simp at h
  | x :: xs, ys, [], h => by simp at h
  | x :: xs, ys, v :: vs, h => by
    show putAll ((x :: (xs ++ ys)).set 0 v) 1 vs = _
    rw [List.set_cons_zero]
    have := putAll_app [v] (xs ++ ys) vs 0
    rw [show ([v] : List Value).length + 0 = 1 from rfl, List.singleton_append] at this
    rw [this, putAll_all xs ys vs (by simpa using h)]; rfl
theorem shCs_put : ∀ (l : List Sh), All33 l → ∀ (i : Nat) (s : Sh), i < l.length → s.l.length = 33 → putAll (shCs l) (i * 34) (shC s) = shCs (l.set i s)
  | [], _, i, s, h, _ => by simp at h
  | t :: l, h33, 0, s, _, hs => by
    rw [shCs, Nat.zero_mul, putAll_all _ _ _ (by rw [shC_length, shC_length, hs, h33 t (List.mem_cons_self ..)])]; rfl
  | t :: l, h33, i + 1, s, h, hs => by
    have ht : (shC t).length = 34 := by rw [shC_length, h33 t (List.mem_cons_self ..)]
    rw [shCs, show (i + 1) * 34 = (shC t).length + i * 34 by rw [ht]; omega, putAll_app, shCs_put l (fun x hx => h33 x (List.mem_cons_of_mem _ hx)) i s (by simpa using h) hs, List.set_cons_succ, shCs]
theorem own_putAll {base : Nat} {e : TypeId} {size n c g : Nat} : ∀ (vs : List Value) (o : Nat) (w : World) (xs : List Value), w.ownsRow base e size (.slice (some ⟨g, 0, none⟩) n c) n xs → (w.setCells g o vs).ownsRow base e size (.slice (some ⟨g, 0, none⟩) n c) n (putAll xs o vs)
  | [], _, _, _, h => h
  | v :: vs, o, _, _, h => own_putAll vs (o + 1) _ _ (h.stored o v).1
theorem setCells_heap (g : Nat) : ∀ (vs : List Value) (o : Nat) (w : World) (b : Nat), b ≠ g → (w.setCells g o vs).heap[b]? = w.heap[b]?
  | [], _, _, _, _ => rfl
  | v :: vs, o, w, b, h => (setCells_heap g vs (o + 1) _ b h).trans (Below.heap_setCell w ⟨g, o, none⟩ v b h)
theorem setCells_size (g : Nat) : ∀ (vs : List Value) (o : Nat) (w : World), (w.setCells g o vs).heap.size = w.heap.size
  | [], _, _ => rfl
  | _ :: vs, o, _ => (setCells_size g vs (o + 1) _).trans (World.size_setCell _ _ _)
theorem below_setCells {B g : Nat} {a : World} (hg : B ≤ g) : ∀ (vs : List Value) (o : Nat) (w : World), Below B a w → Below B a (w.setCells g o vs)
  | [], _, _, h => h
  | v :: vs, o, _, h => below_setCells hg vs (o + 1) _ (h.setCell (p := ⟨g, o, none⟩) hg v)

/-- Blocks below a bound, but three. -/
def KeepX (N a b c : Nat) (w w' : World) : Prop := ∀ i, i < N → i ≠ a → i ≠ b → i ≠ c → w'.heap[i]? = w.heap[i]?
/-- The state of the spreading: the variables body, shapes, work in the blocks bB, bS, bW; the shapes lie in the block aS. -/
structure HtW (B : Nat) (w : World) (bB bS bW aS n : Nat) (vb : Value) (cS : Nat) (st : St) (Aw : Option Addr) (cw : Nat) : Prop where
  blkB : Blk w bB 49 #[vb]
  blkS : Blk w bS 112 #[.slice (some ⟨aS, 0, none⟩) n cS]
  blkW : Blk w bW 22 #[.slice Aw st.wk.length cw]
  ownS : w.ownsRow B 117 34 (.slice (some ⟨aS, 0, none⟩) n cS) n (shCs st.sh)
  ownW : w.ownsRow B 3 1 (.slice Aw st.wk.length cw) st.wk.length (vi (st.wk.map fun i : Nat => (i : Int)))
  a33 : All33 st.sh
  len : st.sh.length = n
  low : B ≤ bB ∧ B ≤ bS ∧ B ≤ bW
theorem tyS : (117 : TypeId) ≠ 22 ∧ (117 : TypeId) ≠ 112 ∧ (117 : TypeId) ≠ 49 ∧ (3 : TypeId) ≠ 22 ∧ (3 : TypeId) ≠ 112 ∧ (3 : TypeId) ≠ 49 ∧ (117 : TypeId) ≠ 3 ∧ (22 : TypeId) ≠ 112 ∧ (22 : TypeId) ≠ 49 ∧ (112 : TypeId) ≠ 49 := by decide
section
variable {B : Nat} {w : World} {bB bS bW aS n : Nat} {vb : Value} {cS : Nat} {st : St} {Aw : Option Addr} {cw : Nat}
theorem HtW.rowS (h : HtW B w bB bS bW aS n vb cS st Aw cw) : ∃ cur, Blk w aS 117 cur ∧ B ≤ aS := by
  rcases h.ownS.2 with ⟨hv, _⟩ | ⟨g, cap, cur, hv, hb, hh, _⟩
  · cases hv
  · injection hv with e1 e2 e3
    injection e1 with e1
    injection e1 with e1
    subst e1
    exact ⟨cur, hh, hb⟩
theorem HtW.neS (h : HtW B w bB bS bW aS n vb cS st Aw cw) : aS ≠ bW ∧ aS ≠ bS ∧ aS ≠ bB ∧ bW ≠ bS ∧ bW ≠ bB := by
  obtain ⟨cur, hc, _⟩ := h.rowS
  obtain ⟨t1, t2, t3, t4, t5, t6, t7, t8, t9, t10⟩ := tyS
  exact ⟨Blk.ne_ hc h.blkW t1, Blk.ne_ hc h.blkS t2, Blk.ne_ hc h.blkB t3, Blk.ne_ h.blkW h.blkS t8, Blk.ne_ h.blkW h.blkB t9⟩
theorem HtW.neW (h : HtW B w bB bS bW aS n vb cS st Aw cw) (b : Nat) (hb : (Value.slice Aw st.wk.length cw).ownBlock = some b) : b ≠ bW ∧ b ≠ bS ∧ b ≠ bB ∧ b ≠ aS := by
  obtain ⟨cur, hc, _⟩ := h.rowS
  obtain ⟨t1, t2, t3, t4, t5, t6, t7, t8, t9, t10⟩ := tyS
  exact ⟨fun e => own_blk_ne h.ownW h.blkW t4 (e ▸ hb), fun e => own_blk_ne h.ownW h.blkS t5 (e ▸ hb), fun e => own_blk_ne h.ownW h.blkB t6 (e ▸ hb), fun e => own_blk_ne h.ownW hc t7.symm (e ▸ hb)⟩
theorem HtW.next {w' : World} (h : HtW B w bB bS bW aS n vb cS st Aw cw) (hb : Below w.heap.size w w') : HtW B w' bB bS bW aS n vb cS st Aw cw :=
  ⟨h.blkB.below hb h.blkB.lt, h.blkS.below hb h.blkS.lt, h.blkW.below hb h.blkW.lt, ownsRow_below h.ownS hb, ownsRow_below h.ownW hb, h.a33, h.len, h.low⟩
/-- A shape, put anew. -/
theorem HtW.put (h : HtW B w bB bS bW aS n vb cS st Aw cw) {i : Nat} (hi : i < n) {s : Sh} (hs : s.l.length = 33) : HtW B (w.setCells aS (i * 34) (shC s)) bB bS bW aS n vb cS ⟨st.ok, st.sh.set i s, st.wk⟩ Aw cw := by
  obtain ⟨n1, n2, n3, n4, n5⟩ := h.neS
  have ho := own_putAll (shC s) (i * 34) w _ h.ownS
  rw [shCs_put st.sh h.a33 i s (by rw [h.len]; exact hi) hs] at ho
  refine ⟨(setCells_heap aS _ _ w bB (Ne.symm n3)).trans h.blkB, (setCells_heap aS _ _ w bS (Ne.symm n2)).trans h.blkS, (setCells_heap aS _ _ w bW (Ne.symm n1)).trans h.blkW, ho, ?_, fun x hx => ?_, by rw [List.length_set]; exact h.len, h.low⟩
  · rcases h.ownW.2 with ⟨hv, hn⟩ | ⟨g, cap, cur, hv, hb, hh, hr⟩
    · exact ⟨h.ownW.1, .inl ⟨hv, hn⟩⟩
    · have hne := (h.neW g (by rw [hv]; rfl)).2.2.2
      exact ⟨h.ownW.1, .inr ⟨g, cap, cur, hv, hb, (setCells_heap aS _ _ w g hne).trans hh, hr⟩⟩
  · rcases List.mem_or_eq_of_mem_set hx with hx | rfl
    · exact h.a33 x hx
    · exact hs
theorem HtW.there (h : HtW B w bB bS bW aS n vb cS st Aw cw) {i : Nat} (hi : i < n) : w.there aS (i * 34) 34 := by
  intro j hj
  have hl := shCs_length st.sh h.a33
  rw [h.len] at hl
  refine ⟨?_, h.ownS.frozenAt _⟩
  have hc := h.ownS.cells (g := aS) rfl (i * 34 + j) _ (List.getElem?_eq_getElem (by rw [hl]; omega))
  rw [Addr.add_lit, Nat.zero_add] at hc
  rw [hc]; rfl
theorem HtW.at_ (h : HtW B w bB bS bW aS n vb cS st Aw cw) {i : Nat} (hi : i < n) : ∀ j v, (shC (shAt st.sh i))[j]? = some v → w.cell? ⟨aS, i * 34 + j, none⟩ = some v := by
  intro j v hv
  have he : st.sh[i]? = some (shAt st.sh i) := by unfold shAt; rw [List.getElem?_eq_getElem (by rw [h.len]; exact hi)]; rfl
  have hc := h.ownS.cells (g := aS) rfl _ _ (shCs_get st.sh h.a33 i _ he j v hv)
  rw [Addr.add_lit, Nat.zero_add] at hc
  exact hc
end
end Go.Proofs.YtdhmaopodcccmaaDoor
