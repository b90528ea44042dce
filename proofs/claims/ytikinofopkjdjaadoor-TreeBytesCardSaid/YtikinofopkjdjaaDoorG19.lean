/-
  What Decode reads: trees out of bytes, plain mathematics; a node whose kids are read one by one.
-/
import Derived.Test.YtikinofopkjdjaaDoorG07
import Derived.Test.YtikinofopkjdjaaDoorG16
import Derived.Test.YtikinofopkjdjaaDoorG18
import Derived.Test.YtikinofopkjdjaaDoorG04
import Derived.Test.YtikinofopkjdjaaDoorG06
set_option linter.unusedVariables false
namespace Go.Proofs.YtikinofopkjdjaaDoor.TR
open WM
/-- A number of trees, one behind the other. -/
def manyD (f : List UInt8 → Option (T × Nat)) (l : List UInt8) : Nat → Nat → Option (List T × Nat)
  | 0, u => some ([], u)
  | c + 1, u => match f (l.drop u) with
    | none => none
    | some (t, k) => match manyD f l c (u + k) with
      | none => none
      | some (ts, v) => some (t :: ts, v)
/-- What is read behind the head of a node. -/
def bodyD (f : List UInt8 → Option (T × Nat)) (l : List UInt8) (u : Nat) : List Int → Option (T × Nat)
  | [k, n, m, q] => if q < 0 ∨ (((l.length - u) / 6 : Nat) : Int) < q then none else match manyD f l q.toNat u with
    | none => none
    | some (ts, v) => some (⟨k, n, m, ts⟩, v)
  | _ => none
theorem bodyD_four (f : List UInt8 → Option (T × Nat)) (l : List UInt8) (u : Nat) (k n m q : Int) : bodyD f l u [k, n, m, q] = if q < 0 ∨ (((l.length - u) / 6 : Nat) : Int) < q then none else match manyD f l q.toNat u with
    | none => none
    | some (ts, v) => some (⟨k, n, m, ts⟩, v) := rfl
/-- A tree of a limited depth. -/
def decD : Nat → List UInt8 → Option (T × Nat)
  | 0, _ => none
  | d + 1, l => match gElems 1 gInt l with
    | .ok xs u => bodyD (decD d) l u xs
    | _ => none
/-- What has been read, put before what is still to come. -/
def prep (ts : List T) : Option (List T × Nat) → Option (List T × Nat)
  | none => none
  | some (rs, v) => some (ts ++ rs, v)
theorem prep_end {f : List UInt8 → Option (T × Nat)} {l : List UInt8} {ts : List T} {u : Nat} : prep ts (manyD f l 0 u) = some (ts, u) := by simp [manyD, prep]
theorem prep_none {f : List UInt8 → Option (T × Nat)} {l : List UInt8} {ts : List T} {c u : Nat} (h : f (l.drop u) = none) : prep ts (manyD f l (c + 1) u) = none := by simp only [manyD, h, prep]
theorem prep_some {f : List UInt8 → Option (T × Nat)} {l : List UInt8} {ts : List T} {c u k : Nat} {t : T} (h : f (l.drop u) = some (t, k)) : prep ts (manyD f l (c + 1) u) = prep (ts ++ [t]) (manyD f l c (u + k)) := by
  simp only [manyD, h]
  cases manyD f l c (u + k) with
  | none => rfl
  | some x => simp [prep]
theorem prep_nil (o : Option (List T × Nat)) : prep [] o = o := by
  cases o with
  | none => rfl
  | some x => rfl
theorem manyD_le {f : List UInt8 → Option (T × Nat)} (hf : ∀ l t k, f l = some (t, k) → k ≤ l.length) (l : List UInt8) : ∀ (c u : Nat) (ts : List T) (v : Nat), u ≤ l.length → manyD f l c u = some (ts, v) → v ≤ l.length
  | 0, u, ts, v, hu, h => by simp only [manyD, Option.some.injEq, Prod.mk.injEq] at h; omega
  | c + 1, u, ts, v, hu, h => by
    simp only [manyD] at h
    cases hx : f (l.drop u) with
    | none => rw [hx] at h; cases h
    | some x =>
      obtain ⟨t, k⟩ := x
      rw [hx] at h
      simp only at h
      have hk := hf _ _ _ hx
      rw [List.length_drop] at hk
      cases hy : manyD f l c (u + k) with
      | none => rw [hy] at h; cases h
      | some y =>
        obtain ⟨rs, v'⟩ := y
        rw [hy] at h
        simp only [Option.some.injEq, Prod.mk.injEq] at h
        have := manyD_le hf l c (u + k) rs v' (by omega) hy
        omega
theorem gMany_le : ∀ (n : Nat) (l : List UInt8) (xs : List Int) (u : Nat), gMany gInt n l = .ok xs u → u ≤ l.length ∧ (∀ x ∈ xs, inRange x) ∧ xs.length = n
  | 0, l, xs, u, h => by simp only [gMany, Dec.ok.injEq] at h; obtain ⟨rfl, rfl⟩ := h; exact ⟨Nat.zero_le _, by simp, rfl⟩
  | n + 1, l, xs, u, h => by
    simp only [gMany] at h
    cases hg : gInt l with
    | more => rw [hg] at h; cases h
    | form => rw [hg] at h; cases h
    | ok x k =>
      rw [hg] at h
      simp only at h
      obtain ⟨hr, t, e, hk⟩ := gInt_ok hg
      cases hm : gMany gInt n (l.drop k) with
      | more => rw [hm] at h; cases h
      | form => rw [hm] at h; cases h
      | ok ys k2 =>
        rw [hm] at h
        simp only [Dec.ok.injEq] at h
        obtain ⟨rfl, rfl⟩ := h
        obtain ⟨h1, h2, h3⟩ := gMany_le n _ ys k2 hm
        have hl : l.length = k + t.length := by rw [e, List.length_append, hk]
        rw [List.length_drop] at h1
        refine ⟨by omega, fun y hy => ?_, by simp [h3]⟩
        rcases List.mem_cons.1 hy with rfl | hy
        · exact hr
        · exact h2 y hy
theorem gElems_le {l : List UInt8} {xs : List Int} {u : Nat} (h : gElems 1 gInt l = .ok xs u) : u ≤ l.length ∧ ∀ x ∈ xs, inRange x := by
  unfold gElems at h
  cases hg : gLen 1 l with
  | more => rw [hg] at h; cases h
  | form => rw [hg] at h; cases h
  | ok n k =>
    rw [hg] at h
    simp only at h
    obtain ⟨hr, t, e, hk, ht⟩ := gLen_ok hg (by omega)
    cases hm : gMany gInt n (l.drop k) with
    | more => rw [hm] at h; cases h
    | form => rw [hm] at h; cases h
    | ok ys k2 =>
      rw [hm] at h
      simp only [Dec.ok.injEq] at h
      obtain ⟨rfl, rfl⟩ := h
      obtain ⟨h1, h2, h3⟩ := gMany_le n _ ys k2 hm
      have hl : l.length = k + t.length := by rw [e, List.length_append, hk]
      rw [List.length_drop] at h1
      exact ⟨by omega, h2⟩
theorem decD_le : ∀ (d : Nat) (l : List UInt8) (t : T) (u : Nat), decD d l = some (t, u) → u ≤ l.length
  | 0, l, t, u, h => by simp [decD] at h
  | d + 1, l, t, u, h => by
    simp only [decD] at h
    cases hg : gElems 1 gInt l with
    | more => rw [hg] at h; cases h
    | form => rw [hg] at h; cases h
    | ok xs k =>
      rw [hg] at h
      simp only at h
      have hk := (gElems_le hg).1
      unfold bodyD at h
      split at h
      · split at h
        · cases h
        · split at h
          · cases h
          · rename_i hm
            simp only [Option.some.injEq, Prod.mk.injEq] at h
            rw [← h.2]
            exact manyD_le (fun l t k h => decD_le d l t k h) l _ _ _ _ hk hm
      · cases h
end Go.Proofs.YtikinofopkjdjaaDoor.TR
namespace Go.Proofs.YtikinofopkjdjaaDoor
open Go.RowKit WM TR

/-- A node in the block g, made since w, whose row of kids grows. -/
structure DecR (g D : Nat) (k n m : Int) (w wr : World) (v : Value) (ts : List T) (xs : List Value) : Prop where
  below : Below w.heap.size w wr
  node : Blk wr g 26 #[.int .i64 k, .int .i64 n, .int .i64 m, v]
  own : wr.ownsRow (g + 1) 26 4 v ts.length xs
  reps : Reps wr (fun b => g < b ∧ b < wr.heap.size ∧ v.ownBlock ≠ some b) D ts xs
  lo : w.heap.size ≤ g
section
variable {g D : Nat} {k n m : Int} {w wr w3 W w4 : World} {v v4 : Value} {ts : List T} {xs : List Value} {t : T} {A' : Option Addr} {c' : Nat}
theorem DecR.next (h : DecR g D k n m w wr v ts xs) (hb3 : Below wr.heap.size wr w3) (hr : Rep w3 (fun b => wr.heap.size ≤ b ∧ b < w3.heap.size) D t (nd t A' c')) (hW : Below w3.heap.size w3 W)
    (hown4 : w4.ownsRow (g + 1) 26 4 v4 (ts.length + 1) (xs ++ nd t A' c')) (hg4 : W.grownBy w4 v.ownBlock) (hnew : v4.ownBlock = v.ownBlock ∨ v4.ownBlock = some W.heap.size) :
    DecR g D k n m w (w4.setCell ⟨g, 3, none⟩ v4) v4 (ts ++ [t]) (xs ++ nd t A' c') := by
  have hv := h.own.lt
  have hv4 := hown4.lt
  have hlo := h.lo
  have hs0 := h.below.size
  have hs3 := hb3.size
  have hsW := hW.size
  have hs4 := hg4.size
  have hgx := h.node.lt
  have hss : (w4.setCell ⟨g, 3, none⟩ v4).heap.size = w4.heap.size := World.size_setCell _ _ _
  have keep4 : ∀ b, b < w3.heap.size → v.ownBlock ≠ some b → w4.heap[b]? = w3.heap[b]? := fun b hb hne =>
    (hg4.block b (by omega) (fun e => hne e.symm)).trans (hW.block b hb)
  have keep : ∀ b, b < w3.heap.size → b ≠ g → v.ownBlock ≠ some b → (w4.setCell ⟨g, 3, none⟩ v4).heap[b]? = w3.heap[b]? := fun b hb hx hne =>
    (Below.heap_setCell w4 ⟨g, 3, none⟩ v4 b hx).trans (keep4 b hb hne)
  have sort : ∀ b, b < w3.heap.size → v.ownBlock ≠ some b → v4.ownBlock ≠ some b := fun b hb hne e => by
    rcases hnew with hn | hn
    · exact hne (hn ▸ e)
    · rw [hn] at e; have := Option.some.inj e; omega
  refine ⟨⟨hg4.os.trans (hW.os.trans (hb3.os.trans h.below.os)), hg4.tape.trans (hW.tape.trans (hb3.tape.trans h.below.tape)), hg4.output.trans (hW.output.trans (hb3.output.trans h.below.output)), by omega, fun b hb => ?_⟩, ?_, ?_, ?_, hlo⟩
  · exact (keep b (by omega) (by omega) (fun e => by have := (hv b e).1; omega)).trans ((hb3.block b (by omega)).trans (h.below.block b hb))
  · have h1 : Blk w4 g 26 #[.int .i64 k, .int .i64 n, .int .i64 m, v] := (keep4 g (by omega) (fun e => by have := (hv g e).1; omega)).trans (h.node.below hb3 hgx)
    have h2 := h1.set_ 3 v4
    simpa using h2
  · rw [List.length_append]
    exact hown4.kept (gw_setCell (g := g) (gw_refl w4 g) (.inl rfl) v4) (.inr fun e => by have := (hv4 g e).1; omega)
  · refine Reps.snoc ((h.reps.keep (w' := w4.setCell ⟨g, 3, none⟩ v4) (fun b hb => ?_)).mono fun b hb => ?_) ((hr.keep (w' := w4.setCell ⟨g, 3, none⟩ v4) (fun b hb => ?_)).mono fun b hb => ?_)
    · exact (keep b (by omega) (by omega) hb.2.2).trans (hb3.block b hb.2.1)
    · exact ⟨hb.1, by omega, sort b (by omega) hb.2.2⟩
    · exact keep b hb.2 (by omega) (fun e => by have := (hv b e).2; omega)
    · have hne : v.ownBlock ≠ some b := fun e => by have := (hv b e).2; omega
      exact ⟨by omega, by omega, sort b hb.2 hne⟩
theorem DecR.later (h : DecR g D k n m w wr v ts xs) (hb : Below wr.heap.size wr w3) : DecR g D k n m w w3 v ts xs :=
  ⟨h.below.trans (hb.mono h.below.size), h.node.below hb h.node.lt, ownsRow_below h.own hb, (h.reps.keep (w' := w3) (fun b hb' => hb.block b hb'.2.1)).mono fun b hb' => ⟨hb'.1, Nat.lt_of_lt_of_le hb'.2.1 hb.size, hb'.2.2⟩, h.lo⟩
theorem DecR.rep {A' : Option Addr} {c' : Nat} (h : DecR g D k n m w wr (.slice A' ts.length c') ts xs) (hc : ts.length ≤ c') (hk : inRange k) (hn : inRange n) (hm : inRange m) :
    Rep wr (fun b => g < b ∧ b < wr.heap.size) (D + 1) ⟨k, n, m, ts⟩ (nd ⟨k, n, m, ts⟩ A' c') :=
  Rep.mk hk hn hm hc ((Rd.of_own h.own).mono fun b hb => ⟨by have := hb.1; omega, hb.2⟩) (h.reps.mono fun b hb => ⟨hb.1, hb.2.1⟩)
end
/-- What decode leaves. -/
def DecPost (d : Nat) (o : Option (T × Nat)) (w : World) (e : Ending) (w' : World) : Prop :=
  match o with
  | none => e = .returned (.tuple #[.agg #[.int .i64 0, .int .i64 0, .int .i64 0, .slice none 0 0], .int .i64 0, .bool false]) ∧ Below w.heap.size w w'
  | some (t, u) => ∃ A' c', e = .returned (.tuple #[.agg #[.int .i64 t.k, .int .i64 t.n, .int .i64 t.m, .slice A' t.kids.length c'], .int .i64 (u : Int), .bool true]) ∧ Rep w' (fun b => w.heap.size ≤ b ∧ b < w'.heap.size) d t (nd t A' c') ∧ Below w.heap.size w w'
end Go.Proofs.YtikinofopkjdjaaDoor

/-
  The reference's Compare.
-/
namespace Go.Proofs.YtikinofopkjdjaaDoor
open Go.RowKit WM TR

/-- The three numbers of a node. -/
def nums (t : T) : List Int := [t.k, t.n, t.m]
theorem cmp_at {t u : T} {k : Nat} {x y : Int} (hx : (nums t)[k]? = some x) (hy : (nums u)[k]? = some y) (he : ∀ i < k, (nums t)[i]? = (nums u)[i]?) (hne : x ≠ y) : cmp t u = sg x y := by
  match k, hx, hy with
  | 0, hx, hy =>
    simp only [nums, List.getElem?_cons_zero, Option.some.injEq] at hx hy
    subst hx hy; exact cmp_k hne
  | 1, hx, hy =>
    have h0 := he 0 (by omega)
    simp only [nums, List.getElem?_cons_zero, List.getElem?_cons_succ, Option.some.injEq] at hx hy h0
    subst hx hy; exact cmp_n h0 hne
  | 2, hx, hy =>
    have h0 := he 0 (by omega)
    have h1 := he 1 (by omega)
    simp only [nums, List.getElem?_cons_zero, List.getElem?_cons_succ, Option.some.injEq] at hx hy h0 h1
    subst hx hy; exact cmp_m h0 h1 hne
  | k + 3, hx, _ => simp [nums] at hx
theorem cmp_past {t u : T} (he : ∀ i < 3, (nums t)[i]? = (nums u)[i]?) : cmpFrom t u 0 = cmp t u := by
  have h0 := he 0 (by omega)
  have h1 := he 1 (by omega)
  have h2 := he 2 (by omega)
  simp only [nums, List.getElem?_cons_zero, List.getElem?_cons_succ, Option.some.injEq] at h0 h1 h2
  exact cmpFrom_zero t u h0 h1 h2

set_option maxRecDepth 100000 in
set_option maxHeartbeats 2000000 in
theorem rcmp_is : ∀ (d : Nat) (t u : T) (S : Nat → Prop) (A A' : Option Addr) (c c' : Nat) (w : World), Rep w S d t (nd t A c) → Rep w S d u (nd u A' c') → In S w.heap.size → size t ≤ 1000000 → size u ≤ 1000000 →
    Calls Tryd.prog 50 #[.agg #[.int .i64 t.k, .int .i64 t.n, .int .i64 t.m, .slice A t.kids.length c], .agg #[.int .i64 u.k, .int .i64 u.n, .int .i64 u.m, .slice A' u.kids.length c']] w fun e w' => e = .returned (.int .i64 (cmp t u)) ∧ Below w.heap.size w w' := by
  intro d
  induction d with
  | zero => intro t u S A A' c c' w h; exact h.elim
  | succ d ih =>
    intro t u S A A' c c' w ht hu hin hst hsu
    have hlt : t.kids.length ≤ 1000000 := by have := kids_lt t; omega
    have hlu : u.kids.length ≤ 1000000 := by have := kids_lt u; omega
    have HST := Lib.hid hst
    have HSU := Lib.hid hsu
    clear hst hsu
    go_enter Tryd.func50, Tryd.ntmps50
    go_wp2_with fail
    obtain ⟨W1, hW1⟩ : ∃ W1, W1 = (((w.alloc (.cells #[.int .i64 t.k, .int .i64 t.n, .int .i64 t.m, .slice A t.kids.length c] 26)).alloc (.cells #[.int .i64 u.k, .int .i64 u.n, .int .i64 u.m, .slice A' u.kids.length c'] 26)).alloc
        (.cells #[.int .i64 t.k, .int .i64 t.n, .int .i64 t.m] 3)).alloc (.cells #[.int .i64 u.k, .int .i64 u.n, .int .i64 u.m] 3) := ⟨_, rfl⟩
    rw [← hW1]
    have hb1 : Below w.heap.size w W1 := by rw [hW1]; exact ba (ba (ba (below_new _ _) _) _) _
    have hz1 : W1.heap.size = w.heap.size + 4 := by rw [hW1]; simp
    have hca : W1.cell? ⟨w.heap.size, 3, none⟩ = some (.slice A t.kids.length c) := by
      rw [hW1]; exact ((((Blk.new w _ _).alloc _).alloc _).alloc _).cell 3
    have hcb : W1.cell? ⟨w.heap.size + 1, 3, none⟩ = some (.slice A' u.kids.length c') := by
      rw [hW1]; exact (((Blk.new_at _ _ (by simp) rfl).alloc _).alloc _).cell 3
    have hcx : ∀ (k : Nat) (x : Int), (nums t)[k]? = some x → W1.cell? ⟨w.heap.size + 1 + 1, k, none⟩ = some (.int .i64 x) := by
      intro k x hx
      rw [hW1]
      refine (((Blk.new_at _ 3 (cs := #[.int .i64 t.k, .int .i64 t.n, .int .i64 t.m]) (by simp) rfl).alloc _).cell k).trans ?_
      have := vi_get hx
      simpa [vi, nums] using this
    have hcy : ∀ (k : Nat) (x : Int), (nums u)[k]? = some x → W1.cell? ⟨w.heap.size + 1 + 1 + 1, k, none⟩ = some (.int .i64 x) := by
      intro k x hx
      rw [hW1]
      refine ((Blk.new_at _ 3 (cs := #[.int .i64 u.k, .int .i64 u.n, .int .i64 u.m]) (by simp) rfl).cell k).trans ?_
      have := vi_get hx
      simpa [vi, nums] using this
    have HT := Lib.hid (ht.later hin hb1)
    have HU := Lib.hid (hu.later hin hb1)
    have HI := Lib.hid (hin.more hb1.size)
    have HB1 := Lib.hid hb1
    have HZ1 := Lib.hid hz1
    have HCA := Lib.hid hca
    have HCB := Lib.hid hcb
    have HCX := Lib.hid hcx
    have HCY := Lib.hid hcy
    obtain ⟨la, hla⟩ : ∃ l, l = t.kids.length := ⟨_, rfl⟩
    obtain ⟨lb, hlb⟩ : ∃ l, l = u.kids.length := ⟨_, rfl⟩
    have hlac := ht.cap
    have hlbc := hu.cap
    rw [← hla] at hlt hlac HCA ⊢
    rw [← hlb] at hlu hlbc HCB ⊢
    have HLA := Lib.hid hla
    have HLB := Lib.hid hlb
    clear hW1 hb1 hz1 hca hcb hcx hcy ht hu hla hlb hin
    go_loopw [7] (fun i wr => ∃ k : Nat, k ≤ 3 ∧ i = .int .i64 k ∧ Hid (∀ i < k, (nums t)[i]? = (nums u)[i]?) ∧ Hid (Below W1.heap.size W1 wr)) (fun i _ => 3 - (intOf i).toNat)
    case atStart => exact ⟨0, by omega, rfl, fun i hi => by omega, Below.refl _ _⟩
    case round =>
      obtain ⟨k, hk, rfl, HE, HB⟩ := hrel
      by_cases hlt3 : k < 3
      · obtain ⟨x, hx⟩ : ∃ x, (nums t)[k]? = some x := ⟨_, List.getElem?_eq_getElem (by simpa [nums] using hlt3)⟩
        obtain ⟨y, hy⟩ : ∃ y, (nums u)[k]? = some y := ⟨_, List.getElem?_eq_getElem (by simpa [nums] using hlt3)⟩
        have hcx := (HB.out.cell (p := ⟨w.heap.size + 1 + 1, k, none⟩) (by rw [HZ1.out]; show w.heap.size + 1 + 1 < _; omega)).trans (HCX.out k x hx)
        have hcy := (HB.out.cell (p := ⟨w.heap.size + 1 + 1 + 1, k, none⟩) (by rw [HZ1.out]; show w.heap.size + 1 + 1 + 1 < _; omega)).trans (HCY.out k y hy)
        by_cases hxy : x = y
        · have HE2 : Hid (∀ i < k + 1, (nums t)[i]? = (nums u)[i]?) := Lib.hid (fun i hi => by
            by_cases h : i < k
            · exact HE.out i h
            · obtain rfl : i = k := by omega
              rw [hx, hy, hxy])
          have hnn : (x != y) = false := by rw [hxy]; simp
          have hj1 : (0 : Int) ≤ k ∧ (k : Int) < 3 := ⟨by omega, by omega⟩
          clear hx hy hxy
          go_wp2_with fail
          go_quiet (fail)
          go_wp2_with fail
          go_roundw
          case rel => exact ⟨k + 1, by omega, by go_num, HE2, below_drewN HB.out _⟩
          case measure => simp [intOf]; omega
        · have hnn : (x != y) = true := by simpa using hxy
          have hj1 : (0 : Int) ≤ k ∧ (k : Int) < 3 := ⟨by omega, by omega⟩
          have HR := Lib.hid (cmp_at hx hy HE.out hxy)
          clear hx hy hxy
          go_wp2_with fail
          go_quiet (fail)
          go_wp2_with fail
          go_quiet ((go_at_call 90; exact quiet_add_left (sign_is _ _ _)))
          go_wp2_with fail
          go_ret
          exact ⟨ret_i HR.out.symm, bt HB1.out (below_drewN (below_drewN HB.out _) _)⟩
      · have HE0 : Hid (cmpFrom t u 0 = cmp t u) := Lib.hid (cmp_past fun i hi => HE.out i (by omega))
        have hk3 : 3 ≤ k := by omega
        obtain ⟨W2, rfl⟩ : ∃ W : World, W = wr := ⟨_, rfl⟩
        have HB2 := HB
        clear HE HB hlt3
        go_wp2_with fail
        go_loopw [8] (fun i wr => ∃ j : Nat, j ≤ la ∧ j ≤ lb ∧ i = .int .i64 j ∧ Hid (cmpFrom t u j = cmp t u) ∧ Hid (Below W1.heap.size W1 wr)) (fun i _ => la - (intOf i).toNat)
        case atStart => exact ⟨0, by omega, by omega, rfl, HE0.out, HB2.out⟩
        case round =>
          obtain ⟨j, hja, hjb, rfl, HF, HB⟩ := hrel
          have hca := (HB.out.cell (p := ⟨w.heap.size, 3, none⟩) (by rw [HZ1.out]; show w.heap.size < _; omega)).trans HCA.out
          have hcb := (HB.out.cell (p := ⟨w.heap.size + 1, 3, none⟩) (by rw [HZ1.out]; show w.heap.size + 1 < _; omega)).trans HCB.out
          by_cases hlt : j < la ∧ j < lb
          · obtain ⟨hj1, hj2⟩ := hlt
            obtain ⟨v, hv⟩ : ∃ v, t.kids[j]? = some v := ⟨_, List.getElem?_eq_getElem (by rw [← HLA.out]; exact hj1)⟩
            obtain ⟨v', hv'⟩ : ∃ v, u.kids[j]? = some v := ⟨_, List.getElem?_eq_getElem (by rw [← HLB.out]; exact hj2)⟩
            have HNX := Lib.hid (cmpFrom_next hv hv')
            obtain ⟨b1, o1, A1, c1, hA1, hb1, hcl1, hr1⟩ := (HT.out.later HI.out HB.out).kid hv
            obtain ⟨b2, o2, A2, c2, hA2, hb2, hcl2, hr2⟩ := (HU.out.later HI.out HB.out).kid hv'
            have HS1 : Hid (size v ≤ 1000000) := Lib.hid (by have := size_kid hv; have := HST.out; omega)
            have HS2 : Hid (size v' ≤ 1000000) := Lib.hid (by have := size_kid hv'; have := HSU.out; omega)
            subst hA1 hA2
            have hin1 : In S wr.heap.size := HI.out.more HB.out.size
            have HL1 : Hid (∀ W, Below wr.heap.size wr W → (Instr.loadAt 24 (.pointer (some ⟨w.heap.size, 3, none⟩))).run Tryd.prog W = .ok (.slice (some ⟨b1, o1, none⟩) la c) W) := Lib.hid (fun W hW => by
              have := (hW.cell (p := ⟨w.heap.size, 3, none⟩) (by have := HB.out.size; rw [HZ1.out] at this; show w.heap.size < _; omega)).trans hca
              go_simp)
            have HL2 : Hid (∀ W, Below wr.heap.size wr W → (Instr.loadAt 24 (.pointer (some ⟨w.heap.size + 1, 3, none⟩))).run Tryd.prog W = .ok (.slice (some ⟨b2, o2, none⟩) lb c') W) := Lib.hid (fun W hW => by
              have := (hW.cell (p := ⟨w.heap.size + 1, 3, none⟩) (by have := HB.out.size; rw [HZ1.out] at this; show w.heap.size + 1 < _; omega)).trans hcb
              go_simp)
            have HN1 : Hid (∀ W, Below wr.heap.size wr W → (Instr.loadAt 26 (.pointer (some ⟨b1, o1 + j * 4, none⟩))).run Tryd.prog W = .ok (.agg #[.int .i64 v.k, .int .i64 v.n, .int .i64 v.m, .slice A1 v.kids.length c1]) W) := Lib.hid (fun W hW =>
              run_loadAt_mid W b1 (o1 + j * 4) 26 (nd v A1 c1) _ (fun i x hx => (hW.cell (p := ⟨b1, _, none⟩) (hin1 _ hb1)).trans (hcl1 i x hx)) Tryd.underlying26 rfl (by rw [size_node]; rfl))
            have HN2 : Hid (∀ W, Below wr.heap.size wr W → (Instr.loadAt 26 (.pointer (some ⟨b2, o2 + j * 4, none⟩))).run Tryd.prog W = .ok (.agg #[.int .i64 v'.k, .int .i64 v'.n, .int .i64 v'.m, .slice A2 v'.kids.length c2]) W) := Lib.hid (fun W hW =>
              run_loadAt_mid W b2 (o2 + j * 4) 26 (nd v' A2 c2) _ (fun i x hx => (hW.cell (p := ⟨b2, _, none⟩) (hin1 _ hb2)).trans (hcl2 i x hx)) Tryd.underlying26 rfl (by rw [size_node]; rfl))
            have HIR : Hid (In S wr.heap.size) := Lib.hid (HI.out.more HB.out.size)
            have HR1 := Lib.hid hr1
            have HR2 := Lib.hid hr2
            have hi1 : (0 : Int) ≤ j ∧ (j : Int) < la := ⟨by omega, by omega⟩
            have hi2 : (0 : Int) ≤ j ∧ (j : Int) < lb := ⟨by omega, by omega⟩
            clear hv hv' hcl1 hcl2 hr1 hr2 hb1 hb2 hin1
            go_wp2_with fail
            refine wp_region_below wr (Below.refl _ _) (by kernel_rfl) (by kernel_rfl) ?_
            go_big_quiet_step ((intro _; rfl))
            refine wpQuiet_load' rfl 24 (.tmp 60) rfl _ rfl (.slice (some ⟨b1, o1, none⟩) la c) HL1.out ?_
            go_simp
            iterate 2 go_big_quiet_step ((intro _; rfl))
            refine wpQuiet_load' rfl 26 (.tmp 63) rfl _ rfl (.agg #[.int .i64 v.k, .int .i64 v.n, .int .i64 v.m, .slice A1 v.kids.length c1]) HN1.out ?_
            go_simp
            go_big_quiet_step ((intro _; rfl))
            refine wpQuiet_load' rfl 24 (.tmp 65) rfl _ rfl (.slice (some ⟨b2, o2, none⟩) lb c') HL2.out ?_
            go_simp
            iterate 2 go_big_quiet_step ((intro _; rfl))
            refine wpQuiet_load' rfl 26 (.tmp 68) rfl _ rfl (.agg #[.int .i64 v'.k, .int .i64 v'.n, .int .i64 v'.m, .slice A2 v'.kids.length c2]) HN2.out ?_
            go_simp
            go_big_quiet_step ((intro hw'; exact (ih v v' S A1 A2 c1 c2 _ (HR1.out.later HIR.out hw') (HR2.out.later HIR.out hw') (HIR.out.more hw'.size) HS1.out HS2.out).mono fun e w'' ⟨he, hb⟩ => ⟨he, bt hw' hb⟩))
            go_big_quiet_step ((intro _; rfl))
            refine wpQuiet_nil ?_
            intro w6 hb6
            have HB6 := Lib.hid (bt HB.out hb6)
            clear hb6
            by_cases hz : cmp v v' = 0
            · have HF2 : Hid (cmpFrom t u (j + 1) = cmp t u) := Lib.hid (by have := HNX.out; rw [if_pos hz] at this; rw [← this]; exact HF.out)
              have hnn : (cmp v v' != 0) = false := by rw [hz]; rfl
              clear hz
              go_wp2_with fail
              go_roundw
              case rel => exact ⟨j + 1, by omega, by omega, by go_num, HF2.out, HB6.out⟩
              case measure => simp [intOf]; omega
            · have HF2 : Hid (cmp v v' = cmp t u) := Lib.hid (by have := HNX.out; rw [if_neg hz] at this; rw [← this]; exact HF.out)
              have hnn : (cmp v v' != 0) = true := by simpa using hz
              clear hz
              go_wp2_with fail
              go_ret
              exact ⟨ret_i HF2.out, bt HB1.out HB6.out⟩
          · have HG : Hid (cmp t u = sg (la : Int) (lb : Int)) := Lib.hid (by
              rw [← HF.out, HLA.out, HLB.out]
              exact cmpFrom_end (by rw [← HLA.out, ← HLB.out]; omega))
            by_cases hja2 : j < la
            · have hjb2 : ¬ j < lb := fun h => hlt ⟨hja2, h⟩
              clear hlt
              go_wp2_with (go_at_call 90; refine (sign_is _ _ _).mono ?_; rintro e w' ⟨rfl, rfl⟩)
              go_ret
              exact ⟨ret_i HG.out.symm, bt HB1.out HB.out⟩
            · clear hlt
              go_wp2_with (go_at_call 90; refine (sign_is _ _ _).mono ?_; rintro e w' ⟨rfl, rfl⟩)
              go_ret
              exact ⟨ret_i HG.out.symm, bt HB1.out HB.out⟩
end Go.Proofs.YtikinofopkjdjaaDoor

/-
  The reference's Same, SameInts.
-/
namespace Go.Proofs.YtikinofopkjdjaaDoor
open Go.RowKit WM TR

theorem same_is (d : Nat) (t u : T) (S : Nat → Prop) (A A' : Option Addr) (c c' : Nat) (w : World) (ht : Rep w S d t (nd t A c)) (hu : Rep w S d u (nd u A' c')) (hin : In S w.heap.size) (hst : size t ≤ 1000000) (hsu : size u ≤ 1000000) (r : Bool) (hr : decide (cmp t u = 0) = r) :
    Calls Tryd.prog 20 #[.agg #[.int .i64 t.k, .int .i64 t.n, .int .i64 t.m, .slice A t.kids.length c], .agg #[.int .i64 u.k, .int .i64 u.n, .int .i64 u.m, .slice A' u.kids.length c']] w fun e w' => e = .returned (.bool r) ∧ Below w.heap.size w w' := by
  have hb : Below w.heap.size w ((w.alloc (.cells #[.int .i64 t.k, .int .i64 t.n, .int .i64 t.m, .slice A t.kids.length c] 26)).alloc (.cells #[.int .i64 u.k, .int .i64 u.n, .int .i64 u.m, .slice A' u.kids.length c'] 26)) := ba (below_new _ _) _
  have HT := Lib.hid (ht.later hin hb)
  have HU := Lib.hid (hu.later hin hb)
  have HI := Lib.hid (hin.more hb.size)
  have HB := Lib.hid hb
  have HR : Hid ((cmp t u == 0) = r) := Lib.hid hr
  clear ht hu hin hb hr
  go_enter Tryd.func20, Tryd.ntmps20
  go_wp2_with (go_at_call 50; refine (rcmp_is d t u S A A' c c' _ HT.out HU.out HI.out hst hsu).mono ?_; rintro e w' ⟨rfl, hbw⟩)
  go_ret
  exact ⟨ret_b HR.out, bt HB.out hbw⟩

set_option maxRecDepth 100000 in
set_option maxHeartbeats 1000000 in
theorem sameInts_is (l m : List Int) (S : Nat → Prop) (A B : Option Addr) (c c' : Nat) (w : World) (hl : Rd w S 1 A l.length (vi l)) (hm : Rd w S 1 B m.length (vi m)) (hin : In S w.heap.size) (hll : l.length ≤ 1000000) (hml : m.length ≤ 1000000) (r : Bool) (hr : decide (l = m) = r) :
    Calls Tryd.prog 42 #[.slice A l.length c, .slice B m.length c'] w fun e w' => e = .returned (.bool r) ∧ Below w.heap.size w w' := by
  obtain ⟨a, ha⟩ : ∃ a, a = l.length := ⟨_, rfl⟩
  obtain ⟨b, hb⟩ : ∃ b, b = m.length := ⟨_, rfl⟩
  rw [← ha] at hl hll ⊢
  rw [← hb] at hm hml ⊢
  have HA := Lib.hid ha
  have HB := Lib.hid hb
  have HL := Lib.hid hl
  have HM := Lib.hid hm
  have HI := Lib.hid hin
  have HR := Lib.hid hr
  clear ha hb hl hm hin hr
  by_cases hab : a = b
  · have hne : ((a : Int) != b) = false := by rw [hab]; simp
    have HAB := Lib.hid hab
    have hab2 : a ≤ b := by omega
    clear hab
    go_enter Tryd.func42, Tryd.ntmps42
    go_wp2_with fail
    go_loopw [5] (fun i wr => ∃ j : Nat, j ≤ a ∧ i = .int .i64 j ∧ Hid (l.take j = m.take j) ∧ Hid (Below w.heap.size w wr)) (fun i _ => a - (intOf i).toNat)
    case atStart => exact ⟨0, Nat.zero_le _, rfl, by simp [Hid], Below.refl _ _⟩
    case round =>
      obtain ⟨j, hj, rfl, HE, HBW⟩ := hrel
      by_cases hlt : j < a
      · obtain ⟨x, hx⟩ : ∃ x, l[j]? = some x := ⟨_, List.getElem?_eq_getElem (by rw [← HA.out]; exact hlt)⟩
        obtain ⟨y, hy⟩ : ∃ y, m[j]? = some y := ⟨_, List.getElem?_eq_getElem (by rw [← HB.out]; omega)⟩
        obtain ⟨g1, o1, hA1, hs1, hc1⟩ := HL.out.lit (by omega)
        obtain ⟨g2, o2, hA2, hs2, hc2⟩ := HM.out.lit (by omega)
        subst hA1 hA2
        have hcx := (HBW.out.cell (p := ⟨g1, o1 + j, none⟩) (HI.out _ hs1)).trans (hc1 j _ (vi_get hx))
        have hcy := (HBW.out.cell (p := ⟨g2, o2 + j, none⟩) (HI.out _ hs2)).trans (hc2 j _ (vi_get hy))
        have hi1 : (0 : Int) ≤ j ∧ (j : Int) < a := ⟨by omega, by omega⟩
        have hi2 : (0 : Int) ≤ j ∧ (j : Int) < b := ⟨by omega, by omega⟩
        by_cases hxy : x = y
        · have hnn : (x != y) = false := by rw [hxy]; simp
          have HE2 : Hid (l.take (j + 1) = m.take (j + 1)) := Lib.hid (by rw [List.take_add_one, List.take_add_one, HE.out, hx, hy, hxy])
          clear hx hy hc1 hc2 hs1 hs2 hxy
          go_wp2_with fail
          go_quiet (fail)
          go_wp2_with fail
          go_roundw
          case rel => exact ⟨j + 1, by omega, by go_num, HE2.out, below_drewN HBW.out _⟩
          case measure => simp [intOf]; omega
        · have hnn : (x != y) = true := by simpa using hxy
          have HF : Hid (false = r) := Lib.hid (by
            rw [← HR.out]
            symm
            rw [decide_eq_false_iff_not]
            intro e
            rw [e, hy] at hx
            exact hxy (Option.some.inj hx).symm)
          clear hx hy hc1 hc2 hs1 hs2 hxy
          go_wp2_with fail
          go_quiet (fail)
          go_wp2_with fail
          go_ret
          exact ⟨ret_b HF.out, below_drewN HBW.out _⟩
      · have HF : Hid (true = r) := Lib.hid (by
          rw [← HR.out]
          symm
          rw [decide_eq_true_eq]
          have h := HE.out
          rwa [List.take_of_length_le (by rw [← HA.out]; omega), List.take_of_length_le (by rw [← HB.out, ← HAB.out]; omega)] at h)
        go_wp2_with fail
        go_ret
        exact ⟨ret_b HF.out, HBW.out⟩
  · have hne : ((a : Int) != b) = true := by simp; omega
    have HF : Hid (false = r) := Lib.hid (by
      rw [← HR.out]
      symm
      rw [decide_eq_false_iff_not]
      intro e
      exact hab (by rw [HA.out, HB.out, e]))
    clear hab
    go_enter Tryd.func42, Tryd.ntmps42
    go_wp2_with fail
    go_ret
    exact ⟨ret_b HF.out, Below.refl _ _⟩
end Go.Proofs.YtikinofopkjdjaaDoor

/-
  LISTS OF PLACES in memory, and the reference's SamePaths.
-/
namespace Go.Proofs.YtikinofopkjdjaaDoor
open Go.RowKit WM TR

/-- A slice of slices of numbers that reads as a list of places, in blocks of a sort. -/
def Ps (w : World) (S : Nat → Prop) (A : Option Addr) (ps : List (List Int)) : Prop :=
  ∃ xs, Rd w S 1 A ps.length xs ∧ ∀ (i : Nat) (p : List Int), ps[i]? = some p → ∃ A' c', xs[i]? = some (Value.slice A' p.length c') ∧ p.length ≤ c' ∧ Rd w S 1 A' p.length (vi p)
section
variable {w w' : World} {S S' : Nat → Prop} {A : Option Addr} {ps : List (List Int)}
theorem Ps.keep (h : Ps w S A ps) (hk : Keeps S w w') : Ps w' S A ps := by
  obtain ⟨xs, h1, h2⟩ := h
  refine ⟨xs, h1.keep hk, fun i p hp => ?_⟩
  obtain ⟨A', c', e, hc, hr⟩ := h2 i p hp
  exact ⟨A', c', e, hc, hr.keep hk⟩
theorem Ps.mono (h : Ps w S A ps) (hS : ∀ b, S b → S' b) : Ps w S' A ps := by
  obtain ⟨xs, h1, h2⟩ := h
  refine ⟨xs, h1.mono hS, fun i p hp => ?_⟩
  obtain ⟨A', c', e, hc, hr⟩ := h2 i p hp
  exact ⟨A', c', e, hc, hr.mono hS⟩
theorem Ps.later (h : Ps w S A ps) (hS : In S w.heap.size) (hb : Below w.heap.size w w') : Ps w' S A ps := h.keep (Keeps.below hS hb)
/-- A place: where its slice lies, and that it reads as the place. -/
theorem Ps.at_ (h : Ps w S A ps) {i : Nat} {p : List Int} (hp : ps[i]? = some p) :
    ∃ b off A' c', A = some ⟨b, off, none⟩ ∧ S b ∧ w.cell? ⟨b, off + i, none⟩ = some (Value.slice A' p.length c') ∧ p.length ≤ c' ∧ Rd w S 1 A' p.length (vi p) := by
  obtain ⟨xs, h1, h2⟩ := h
  have hi : i < ps.length := (List.getElem?_eq_some_iff.1 hp).1
  obtain ⟨b, off, e, hb, hc⟩ := h1.lit (by omega)
  obtain ⟨A', c', e2, hcap, hr⟩ := h2 i p hp
  exact ⟨b, off, A', c', e, hb, hc i _ e2, hcap, hr⟩
end

set_option maxRecDepth 100000 in
set_option maxHeartbeats 2000000 in
theorem samePaths_is (l m : List (List Int)) (S : Nat → Prop) (A B : Option Addr) (c c' : Nat) (w : World) (hl : Ps w S A l) (hm : Ps w S B m) (hin : In S w.heap.size) (hml : m.length ≤ 1000000) (hlp : ∀ p ∈ l, p.length ≤ 1000000) (hmp : ∀ p ∈ m, p.length ≤ 1000000) (r : Bool) (hr : decide (l = m) = r) :
    Calls Tryd.prog 56 #[.slice A l.length c, .slice B m.length c'] w fun e w' => e = .returned (.bool r) ∧ Below w.heap.size w w' := by
  obtain ⟨a, ha⟩ : ∃ a, a = l.length := ⟨_, rfl⟩
  obtain ⟨b, hb⟩ : ∃ b, b = m.length := ⟨_, rfl⟩
  rw [← ha]
  rw [← hb] at hml ⊢
  have HA := Lib.hid ha
  have HB := Lib.hid hb
  have HL := Lib.hid hl
  have HM := Lib.hid hm
  have HI := Lib.hid hin
  have HR := Lib.hid hr
  have HLP := Lib.hid hlp
  have HMP := Lib.hid hmp
  clear ha hb hl hm hin hr hlp hmp
  by_cases hab : a = b
  · have hne : ((a : Int) != b) = false := by rw [hab]; simp
    have HAB := Lib.hid hab
    have hab2 : a ≤ b := by omega
    clear hab
    go_enter Tryd.func56, Tryd.ntmps56
    go_wp2_with fail
    go_loopw [5] (fun i wr => ∃ j : Nat, j ≤ a ∧ i = .int .i64 j ∧ Hid (l.take j = m.take j) ∧ Hid (Below w.heap.size w wr)) (fun i _ => a - (intOf i).toNat)
    case atStart => exact ⟨0, Nat.zero_le _, rfl, by simp [Hid], Below.refl _ _⟩
    case round =>
      obtain ⟨j, hj, rfl, HE, HBW⟩ := hrel
      by_cases hlt : j < a
      · obtain ⟨x, hx⟩ : ∃ x, l[j]? = some x := ⟨_, List.getElem?_eq_getElem (by rw [← HA.out]; exact hlt)⟩
        obtain ⟨y, hy⟩ : ∃ y, m[j]? = some y := ⟨_, List.getElem?_eq_getElem (by rw [← HB.out]; omega)⟩
        obtain ⟨g1, o1, A1, c1, hA1, hs1, hc1, _, hr1⟩ := HL.out.at_ hx
        obtain ⟨g2, o2, A2, c2, hA2, hs2, hc2, _, hr2⟩ := HM.out.at_ hy
        subst hA1 hA2
        have hIw : In S wr.heap.size := HI.out.more HBW.out.size
        have HIW := Lib.hid hIw
        have hcx := (HBW.out.cell (p := ⟨g1, o1 + j, none⟩) (HI.out _ hs1)).trans hc1
        have hcy := (HBW.out.cell (p := ⟨g2, o2 + j, none⟩) (HI.out _ hs2)).trans hc2
        have HR1 := Lib.hid (hr1.keep (Keeps.below HI.out HBW.out))
        have HR2 := Lib.hid (hr2.keep (Keeps.below HI.out HBW.out))
        have HG1 : Hid (∀ W, Below wr.heap.size wr W → (Instr.loadAt 22 (.pointer (some ⟨g1, o1 + j, none⟩))).run Tryd.prog W = .ok (.slice A1 x.length c1) W) := Lib.hid (fun W hW => by
          have := (hW.cell (p := ⟨g1, o1 + j, none⟩) (hIw _ hs1)).trans hcx
          go_simp)
        have HG2 : Hid (∀ W, Below wr.heap.size wr W → (Instr.loadAt 22 (.pointer (some ⟨g2, o2 + j, none⟩))).run Tryd.prog W = .ok (.slice A2 y.length c2) W) := Lib.hid (fun W hW => by
          have := (hW.cell (p := ⟨g2, o2 + j, none⟩) (hIw _ hs2)).trans hcy
          go_simp)
        have hxl : x.length ≤ 1000000 := HLP.out x (List.mem_of_getElem? hx)
        have hyl : y.length ≤ 1000000 := HMP.out y (List.mem_of_getElem? hy)
        have hi1 : (0 : Int) ≤ j ∧ (j : Int) < a := ⟨by omega, by omega⟩
        have hi2 : (0 : Int) ≤ j ∧ (j : Int) < b := ⟨by omega, by omega⟩
        obtain ⟨q, hq⟩ : ∃ q, decide (x = y) = q := ⟨_, rfl⟩
        have HQ := Lib.hid hq
        have HX := Lib.hid hx
        have HY := Lib.hid hy
        clear hx hy hc1 hc2 hs1 hs2 hr1 hr2 hcx hcy hIw hq
        go_wp2_with fail
        refine wp_region_below wr (Below.refl _ _) (by kernel_rfl) (by kernel_rfl) ?_
        iterate 3 go_big_quiet_step ((intro _; rfl))
        refine wpQuiet_load' rfl 22 (.tmp 19) rfl _ rfl (.slice A1 x.length c1) HG1.out ?_
        go_simp
        iterate 3 go_big_quiet_step ((intro _; rfl))
        refine wpQuiet_load' rfl 22 (.tmp 23) rfl _ rfl (.slice A2 y.length c2) HG2.out ?_
        go_simp
        go_big_quiet_step ((intro hw'; exact (sameInts_is x y S A1 A2 c1 c2 _ (HR1.out.keep (Keeps.below HIW.out hw')) (HR2.out.keep (Keeps.below HIW.out hw')) (HIW.out.more hw'.size) hxl hyl q HQ.out).mono fun e w'' ⟨he, hb⟩ => ⟨he, bt hw' hb⟩))
        go_big_quiet_step ((intro _; rfl))
        refine wpQuiet_nil ?_
        intro w6 hb6
        have HB6 := Lib.hid (bt HBW.out hb6)
        clear hb6
        cases q with
        | true =>
          have HE2 : Hid (l.take (j + 1) = m.take (j + 1)) := Lib.hid (by rw [List.take_add_one, List.take_add_one, HE.out, HX.out, HY.out, of_decide_eq_true HQ.out])
          go_wp2_with fail
          go_roundw
          case rel => exact ⟨j + 1, by omega, by go_num, HE2.out, HB6.out⟩
          case measure => simp [intOf]; omega
        | false =>
          have HF : Hid (false = r) := Lib.hid (by
            rw [← HR.out]
            symm
            rw [decide_eq_false_iff_not]
            intro e
            have hx := HX.out
            rw [e, HY.out] at hx
            exact of_decide_eq_false HQ.out (Option.some.inj hx).symm)
          go_wp2_with fail
          go_ret
          exact ⟨ret_b HF.out, HB6.out⟩
      · have HF : Hid (true = r) := Lib.hid (by
          rw [← HR.out]
          symm
          rw [decide_eq_true_eq]
          have h := HE.out
          rwa [List.take_of_length_le (by rw [← HA.out]; omega), List.take_of_length_le (by rw [← HB.out, ← HAB.out]; omega)] at h)
        go_wp2_with fail
        go_ret
        exact ⟨ret_b HF.out, HBW.out⟩
  · have hne : ((a : Int) != b) = true := by simp; omega
    have HF : Hid (false = r) := Lib.hid (by
      rw [← HR.out]
      symm
      rw [decide_eq_false_iff_not]
      intro e
      exact hab (by rw [HA.out, HB.out, e]))
    clear hab
    go_enter Tryd.func56, Tryd.ntmps56
    go_wp2_with fail
    go_ret
    exact ⟨ret_b HF.out, Below.refl _ _⟩
end Go.Proofs.YtikinofopkjdjaaDoor
