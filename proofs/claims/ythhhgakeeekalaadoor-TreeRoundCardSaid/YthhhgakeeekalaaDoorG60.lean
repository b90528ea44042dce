/-
  What Decode reads: trees out of bytes, plain mathematics; a node whose kids are read one by one.
-/
import Derived.Test.YthhhgakeeekalaaDoorG07
import Derived.Test.YthhhgakeeekalaaDoorG66
import Derived.Test.YthhhgakeeekalaaDoorG59
import Derived.Test.YthhhgakeeekalaaDoorG22
import Derived.Test.YthhhgakeeekalaaDoorG57
set_option linter.unusedVariables false
namespace Go.Proofs.YthhhgakeeekalaaDoor.TR
open WM
/-- A number of trees, one behind the other. -/
def manyD (f : List UInt8 → Option (T × Nat)) (l : List UInt8) : Nat → Nat → Option (List T × Nat)
  | 0, u => some ([], u)
  | c + 1, u => match f (l.drop u) with
    | none => none
    | some (t, k) => match manyD f l c (u + k) with
      | none => none
      | some (ts, v) => some (t :: ts, v)
/-- What is read behind the head of a node. -/
def bodyD (f : List UInt8 → Option (T × Nat)) (l : List UInt8) (u : Nat) : List Int → Option (T × Nat)
  | [k, n, m, q] => if q < 0 ∨ (((l.length - u) / 6 : Nat) : Int) < q then none else match manyD f l q.toNat u with
    | none => none
    | some (ts, v) => some (⟨k, n, m, ts⟩, v)
  | _ => none
theorem bodyD_four (f : List UInt8 → Option (T × Nat)) (l : List UInt8) (u : Nat) (k n m q : Int) : bodyD f l u [k, n, m, q] = if q < 0 ∨ (((l.length - u) / 6 : Nat) : Int) < q then none else match manyD f l q.toNat u with
    | none => none
    | some (ts, v) => some (⟨k, n, m, ts⟩, v) := rfl
/-- A tree of a limited depth. -/
def decD : Nat → List UInt8 → Option (T × Nat)
  | 0, _ => none
  | d + 1, l => match gElems 1 gInt l with
    | .ok xs u => bodyD (decD d) l u xs
    | _ => none
/-- What has been read, put before what is still to come. -/
def prep (ts : List T) : Option (List T × Nat) → Option (List T × Nat)
  | none => none
  | some (rs, v) => some (ts ++ rs, v)
theorem prep_end {f : List UInt8 → Option (T × Nat)} {l : List UInt8} {ts : List T} {u : Nat} : prep ts (manyD f l 0 u) = some (ts, u) := by simp [manyD, prep]
theorem prep_none {f : List UInt8 → Option (T × Nat)} {l : List UInt8} {ts : List T} {c u : Nat} (h : f (l.drop u) = none) : prep ts (manyD f l (c + 1) u) = none := by simp only [manyD, h, prep]
theorem prep_some {f : List UInt8 → Option (T × Nat)} {l : List UInt8} {ts : List T} {c u k : Nat} {t : T} (h : f (l.drop u) = some (t, k)) : prep ts (manyD f l (c + 1) u) = prep (ts ++ [t]) (manyD f l c (u + k)) := by
  simp only [manyD, h]
  cases manyD f l c (u + k) with
  | none => rfl
  | some x => simp [prep]
theorem prep_nil (o : Option (List T × Nat)) : prep [] o = o := by
  cases o with
  | none => rfl
  | some x => rfl
theorem manyD_le {f : List UInt8 → Option (T × Nat)} (hf : ∀ l t k, f l = some (t, k) → k ≤ l.length) (l : List UInt8) : ∀ (c u : Nat) (ts : List T) (v : Nat), u ≤ l.length → manyD f l c u = some (ts, v) → v ≤ l.length
  | 0, u, ts, v, hu, h => by simp only [manyD, Option.some.injEq, Prod.mk.injEq] at h; omega
  | c + 1, u, ts, v, hu, h => by
    simp only [manyD] at h
    cases hx : f (l.drop u) with
    | none => rw [hx] at h; cases h
    | some x =>
      obtain ⟨t, k⟩ := x
      rw [hx] at h
      simp only at h
      have hk := hf _ _ _ hx
      rw [List.length_drop] at hk
      cases hy : manyD f l c (u + k) with
      | none => rw [hy] at h; cases h
      | some y =>
        obtain ⟨rs, v'⟩ := y
        rw [hy] at h
        simp only [Option.some.injEq, Prod.mk.injEq] at h
        have := manyD_le hf l c (u + k) rs v' (by omega) hy
        omega
theorem gMany_le : ∀ (n : Nat) (l : List UInt8) (xs : List Int) (u : Nat), gMany gInt n l = .ok xs u → u ≤ l.length ∧ (∀ x ∈ xs, inRange x) ∧ xs.length = n
  | 0, l, xs, u, h => by simp only [gMany, Dec.ok.injEq] at h; obtain ⟨rfl, rfl⟩ := h; exact ⟨Nat.zero_le _, by simp, rfl⟩
  | n + 1, l, xs, u, h => by
    simp only [gMany] at h
    cases hg : gInt l with
    | more => rw [hg] at h; cases h
    | form => rw [hg] at h; cases h
    | ok x k =>
      rw [hg] at h
      simp only at h
      obtain ⟨hr, t, e, hk⟩ := gInt_ok hg
      cases hm : gMany gInt n (l.drop k) with
      | more => rw [hm] at h; cases h
      | form => rw [hm] at h; cases h
      | ok ys k2 =>
        rw [hm] at h
        simp only [Dec.ok.injEq] at h
        obtain ⟨rfl, rfl⟩ := h
        obtain ⟨h1, h2, h3⟩ := gMany_le n _ ys k2 hm
        have hl : l.length = k + t.length := by rw [e, List.length_append, hk]
        rw [List.length_drop] at h1
        refine ⟨by omega, fun y hy => ?_, by simp [h3]⟩
        rcases List.mem_cons.1 hy with rfl | hy
        · exact hr
        · exact h2 y hy
theorem gElems_le {l : List UInt8} {xs : List Int} {u : Nat} (h : gElems 1 gInt l = .ok xs u) : u ≤ l.length ∧ ∀ x ∈ xs, inRange x := by
  unfold gElems at h
  cases hg : gLen 1 l with
  | more => rw [hg] at h; cases h
  | form => rw [hg] at h; cases h
  | ok n k =>
    rw [hg] at h
    simp only at h
    obtain ⟨hr, t, e, hk, ht⟩ := gLen_ok hg (by omega)
    cases hm : gMany gInt n (l.drop k) with
    | more => rw [hm] at h; cases h
    | form => rw [hm] at h; cases h
    | ok ys k2 =>
      rw [hm] at h
      simp only [Dec.ok.injEq] at h
      obtain ⟨rfl, rfl⟩ := h
      obtain ⟨h1, h2, h3⟩ := gMany_le n _ ys k2 hm
      have hl : l.length = k + t.length := by rw [e, List.length_append, hk]
      rw [List.length_drop] at h1
      exact ⟨by omega, h2⟩
theorem decD_le : ∀ (d : Nat) (l : List UInt8) (t : T) (u : Nat), decD d l = some (t, u) → u ≤ l.length
  | 0, l, t, u, h => by simp [decD] at h
  | d + 1, l, t, u, h => by
    simp only [decD] at h
    cases hg : gElems 1 gInt l with
    | more => rw [hg] at h; cases h
    | form => rw [hg] at h; cases h
    | ok xs k =>
      rw [hg] at h
      simp only at h
      have hk := (gElems_le hg).1
      unfold bodyD at h
      split at h
      · split at h
        · cases h
        · split at h
          · cases h
          · rename_i hm
            simp only [Option.some.injEq, Prod.mk.injEq] at h
            rw [← h.2]
            exact manyD_le (fun l t k h => decD_le d l t k h) l _ _ _ _ hk hm
      · cases h
end Go.Proofs.YthhhgakeeekalaaDoor.TR
namespace Go.Proofs.YthhhgakeeekalaaDoor
open Go.RowKit WM TR

/-- A node in the block g, made since w, whose row of kids grows. -/
structure DecR (g D : Nat) (k n m : Int) (w wr : World) (v : Value) (ts : List T) (xs : List Value) : Prop where
  below : Below w.heap.size w wr
  node : Blk wr g 25 #[.int .i64 k, .int .i64 n, .int .i64 m, v]
  own : wr.ownsRow (g + 1) 25 4 v ts.length xs
  reps : Reps wr (fun b => g < b ∧ b < wr.heap.size ∧ v.ownBlock ≠ some b) D ts xs
  lo : w.heap.size ≤ g
section
variable {g D : Nat} {k n m : Int} {w wr w3 W w4 : World} {v v4 : Value} {ts : List T} {xs : List Value} {t : T} {A' : Option Addr} {c' : Nat}
theorem DecR.next (h : DecR g D k n m w wr v ts xs) (hb3 : Below wr.heap.size wr w3) (hr : Rep w3 (fun b => wr.heap.size ≤ b ∧ b < w3.heap.size) D t (nd t A' c')) (hW : Below w3.heap.size w3 W)
    (hown4 : w4.ownsRow (g + 1) 25 4 v4 (ts.length + 1) (xs ++ nd t A' c')) (hg4 : W.grownBy w4 v.ownBlock) (hnew : v4.ownBlock = v.ownBlock ∨ v4.ownBlock = some W.heap.size) :
    DecR g D k n m w (w4.setCell ⟨g, 3, none⟩ v4) v4 (ts ++ [t]) (xs ++ nd t A' c') := by
  have hv := h.own.lt
  have hv4 := hown4.lt
  have hlo := h.lo
  have hs0 := h.below.size
  have hs3 := hb3.size
  have hsW := hW.size
  have hs4 := hg4.size
  have hgx := h.node.lt
  have hss : (w4.setCell ⟨g, 3, none⟩ v4).heap.size = w4.heap.size := World.size_setCell _ _ _
  have keep4 : ∀ b, b < w3.heap.size → v.ownBlock ≠ some b → w4.heap[b]? = w3.heap[b]? := fun b hb hne =>
    (hg4.block b (by omega) (fun e => hne e.symm)).trans (hW.block b hb)
  have keep : ∀ b, b < w3.heap.size → b ≠ g → v.ownBlock ≠ some b → (w4.setCell ⟨g, 3, none⟩ v4).heap[b]? = w3.heap[b]? := fun b hb hx hne =>
    (Below.heap_setCell w4 ⟨g, 3, none⟩ v4 b hx).trans (keep4 b hb hne)
  have sort : ∀ b, b < w3.heap.size → v.ownBlock ≠ some b → v4.ownBlock ≠ some b := fun b hb hne e => by
    rcases hnew with hn | hn
    · exact hne (hn ▸ e)
    · rw [hn] at e; have := Option.some.inj e; omega
  refine ⟨⟨hg4.os.trans (hW.os.trans (hb3.os.trans h.below.os)), hg4.tape.trans (hW.tape.trans (hb3.tape.trans h.below.tape)), hg4.output.trans (hW.output.trans (hb3.output.trans h.below.output)), by omega, fun b hb => ?_⟩, ?_, ?_, ?_, hlo⟩
  · exact (keep b (by omega) (by omega) (fun e => by have := (hv b e).1; omega)).trans ((hb3.block b (by omega)).trans (h.below.block b hb))
  · have h1 : Blk w4 g 25 #[.int .i64 k, .int .i64 n, .int .i64 m, v] := (keep4 g (by omega) (fun e => by have := (hv g e).1; omega)).trans (h.node.below hb3 hgx)
    have h2 := h1.set_ 3 v4
    simpa using h2
  · rw [List.length_append]
    exact hown4.kept (gw_setCell (g := g) (gw_refl w4 g) (.inl rfl) v4) (.inr fun e => by have := (hv4 g e).1; omega)
  · refine Reps.snoc ((h.reps.keep (w' := w4.setCell ⟨g, 3, none⟩ v4) (fun b hb => ?_)).mono fun b hb => ?_) ((hr.keep (w' := w4.setCell ⟨g, 3, none⟩ v4) (fun b hb => ?_)).mono fun b hb => ?_)
    · exact (keep b (by omega) (by omega) hb.2.2).trans (hb3.block b hb.2.1)
    · exact ⟨hb.1, by omega, sort b (by omega) hb.2.2⟩
    · exact keep b hb.2 (by omega) (fun e => by have := (hv b e).2; omega)
    · have hne : v.ownBlock ≠ some b := fun e => by have := (hv b e).2; omega
      exact ⟨by omega, by omega, sort b hb.2 hne⟩
theorem DecR.later (h : DecR g D k n m w wr v ts xs) (hb : Below wr.heap.size wr w3) : DecR g D k n m w w3 v ts xs :=
  ⟨h.below.trans (hb.mono h.below.size), h.node.below hb h.node.lt, ownsRow_below h.own hb, (h.reps.keep (w' := w3) (fun b hb' => hb.block b hb'.2.1)).mono fun b hb' => ⟨hb'.1, Nat.lt_of_lt_of_le hb'.2.1 hb.size, hb'.2.2⟩, h.lo⟩
theorem DecR.rep {A' : Option Addr} {c' : Nat} (h : DecR g D k n m w wr (.slice A' ts.length c') ts xs) (hc : ts.length ≤ c') (hk : inRange k) (hn : inRange n) (hm : inRange m) :
    Rep wr (fun b => g < b ∧ b < wr.heap.size) (D + 1) ⟨k, n, m, ts⟩ (nd ⟨k, n, m, ts⟩ A' c') :=
  Rep.mk hk hn hm hc ((Rd.of_own h.own).mono fun b hb => ⟨by have := hb.1; omega, hb.2⟩) (h.reps.mono fun b hb => ⟨hb.1, hb.2.1⟩)
end
/-- What decode leaves. -/
def DecPost (d : Nat) (o : Option (T × Nat)) (w : World) (e : Ending) (w' : World) : Prop :=
  match o with
  | none => e = .returned (.tuple #[.agg #[.int .i64 0, .int .i64 0, .int .i64 0, .slice none 0 0], .int .i64 0, .bool false]) ∧ Below w.heap.size w w'
  | some (t, u) => ∃ A' c', e = .returned (.tuple #[.agg #[.int .i64 t.k, .int .i64 t.n, .int .i64 t.m, .slice A' t.kids.length c'], .int .i64 (u : Int), .bool true]) ∧ Rep w' (fun b => w.heap.size ≤ b ∧ b < w'.heap.size) d t (nd t A' c') ∧ Below w.heap.size w w'
end Go.Proofs.YthhhgakeeekalaaDoor

/-
  Bytes of trees, plain mathematics: what is read back, what is no tree, which bytes are the same.
-/
namespace Go.Proofs.YthhhgakeeekalaaDoor.TR
open WM
/-- All numbers of a tree are integers of the machine. -/
inductive Ok : T → Prop
  | mk (t : T) : inRange t.k → inRange t.n → inRange t.m → t.kids.length ≤ 1000000 → (∀ u, u ∈ t.kids → Ok u) → Ok t
theorem Ok.facts {t : T} (h : Ok t) : inRange t.k ∧ inRange t.n ∧ inRange t.m ∧ t.kids.length ≤ 1000000 ∧ ∀ u ∈ t.kids, Ok u := by
  cases h with
  | mk _ h1 h2 h3 h4 h5 => exact ⟨h1, h2, h3, h4, h5⟩
theorem enc4_len : (enc ((4 : Nat) : Int)).length = 2 := by decide +kernel
theorem head_len {t : T} (h : Ok t) : 6 ≤ (headB t).length ∧ (headB t).length ≤ 45 := by
  obtain ⟨h1, h2, h3, h4, _⟩ := h.facts
  have h0 := headB_len h1 h2 h3 h4
  have e1 := enc_len h1
  have e2 := enc_len h2
  have e3 := enc_len h3
  have e4 := enc_len (n := (t.kids.length : Int)) ⟨by omega, by omega⟩
  have e5 := enc4_len
  have e : (headB t).length = (enc ((4 : Nat) : Int)).length + ((enc t.k).length + ((enc t.n).length + ((enc t.m).length + (enc (t.kids.length : Int)).length))) := by
    unfold headB encL; simp
  exact ⟨by omega, h0.2⟩
theorem head_read {t : T} (h : Ok t) (r : List UInt8) : gElems 1 gInt (headB t ++ r) = .ok [t.k, t.n, t.m, (t.kids.length : Int)] (headB t).length := by
  obtain ⟨h1, h2, h3, h4, _⟩ := h.facts
  have hr : ∀ x ∈ [t.k, t.n, t.m, (t.kids.length : Int)], inRange x := by
    intro x hx
    simp only [List.mem_cons, List.not_mem_nil, or_false] at hx
    rcases hx with rfl | rfl | rfl | rfl
    · exact h1
    · exact h2
    · exact h3
    · exact ⟨by omega, by omega⟩
  exact gElems_enc (e := enc) (by omega) (by simp) (fun x hx => (enc_len (hr x hx)).1) (fun x hx t => gInt_enc (hr x hx) t) r
theorem encT_len {t : T} (h : Ok t) : 6 ≤ (encT t).length := by
  have := (head_len h).1
  rw [encT_eq, List.length_append]; omega
theorem flat_six : ∀ l : List T, (∀ u ∈ l, Ok u) → 6 * l.length ≤ ((l.map encT).flatten).length
  | [], _ => by simp
  | u :: l, h => by
    have h1 := encT_len (h u (List.mem_cons_self ..))
    have h2 := flat_six l fun v hv => h v (List.mem_cons_of_mem _ hv)
    simp only [List.length_cons, List.map_cons, List.flatten_cons, List.length_append]; omega
theorem many_read (f : List UInt8 → Option (T × Nat)) (l : List UInt8) : ∀ (ts : List T) (u : Nat) (r : List UInt8), (∀ t ∈ ts, ∀ q, f (encT t ++ q) = some (t, (encT t).length)) → l.drop u = (ts.map encT).flatten ++ r →
    manyD f l ts.length u = some (ts, u + ((ts.map encT).flatten).length)
  | [], u, r, _, _ => by simp [manyD]
  | t :: ts, u, r, h, hd => by
    have h1 : f (l.drop u) = some (t, (encT t).length) := by
      rw [hd, List.map_cons, List.flatten_cons, List.append_assoc]
      exact h t (List.mem_cons_self ..) _
    have h2 : l.drop (u + (encT t).length) = (ts.map encT).flatten ++ r := by
      rw [← List.drop_drop, hd, List.map_cons, List.flatten_cons, List.append_assoc, List.drop_left]
    have h3 := many_read f l ts (u + (encT t).length) r (fun v hv => h v (List.mem_cons_of_mem _ hv)) h2
    simp only [List.length_cons, manyD, h1, h3]
    simp [Nat.add_assoc]
/-- What was written is read, whatever follows. -/
theorem dec_enc : ∀ (d : Nat) (t : T) (r : List UInt8), Ok t → depth t ≤ d → decD d (encT t ++ r) = some (t, (encT t).length)
  | 0, t, r, _, h => by rw [depth_eq] at h; omega
  | d + 1, t, r, hok, hd => by
    have hk := hok.facts.2.2.2.2
    have hih : ∀ u ∈ t.kids, ∀ q, decD d (encT u ++ q) = some (u, (encT u).length) := fun u hu q => dec_enc d u q (hk u hu) (by
      obtain ⟨i, hi⟩ := List.mem_iff_getElem?.1 hu
      have := depth_kid hi
      omega)
    have hl : encT t ++ r = headB t ++ ((t.kids.map encT).flatten ++ r) := by rw [encT_eq, List.append_assoc]
    have hm := many_read (decD d) (encT t ++ r) t.kids (headB t).length r hih (by rw [hl, List.drop_left])
    have h6 := flat_six t.kids hk
    simp only [decD]
    rw [hl, head_read hok, ← hl]
    simp only
    rw [bodyD_four, if_neg, Int.toNat_natCast, hm]
    · simp only [encT_eq t, List.length_append]; cases t; rfl
    · rw [hl]
      simp only [List.length_append]
      omega
set_option maxRecDepth 100000 in
/-- What has been read is what would be written. -/
theorem dec_sound : ∀ (d : Nat) (l : List UInt8) (t : T) (u : Nat), l.length ≤ 1000000 → decD d l = some (t, u) → ∃ r, l = encT t ++ r ∧ u = (encT t).length ∧ Ok t ∧ depth t ≤ d
  | 0, l, t, u, _, h => by simp [decD] at h
  | d + 1, l, t, u, hl, h => by
    simp only [decD] at h
    cases hg : gElems 1 gInt l with
    | more => rw [hg] at h; cases h
    | form => rw [hg] at h; cases h
    | ok xs k =>
      rw [hg] at h
      simp only at h
      obtain ⟨_, r, hr, hk⟩ := gElems_ok (e := enc) (by omega) (fun l x u h => by obtain ⟨_, t, h1, h2⟩ := gInt_ok h; exact ⟨t, h1, h2⟩) hg
      have hin := (gElems_le hg).2
      rcases xs with _ | ⟨a, _ | ⟨b, _ | ⟨c, _ | ⟨q, _ | ⟨z, zs⟩⟩⟩⟩⟩
      · cases h
      · cases h
      · cases h
      · cases h
      · rw [bodyD_four] at h
        split at h
        · cases h
        · rename_i hq
          cases hm : manyD (decD d) l q.toNat k with
          | none => rw [hm] at h; cases h
          | some y =>
            obtain ⟨ts, v⟩ := y
            rw [hm] at h
            simp only [Option.some.injEq, Prod.mk.injEq] at h
            obtain ⟨rfl, rfl⟩ := h
            have hq0 : 0 ≤ q := by omega
            have hq1 : q ≤ 1000000 := by omega
            have hsound : ∀ (l' : List UInt8) (t : T) (u : Nat), l'.length ≤ 1000000 → decD d l' = some (t, u) → ∃ r, l' = encT t ++ r ∧ u = (encT t).length ∧ (Ok t ∧ depth t ≤ d) := fun l' t u hl' h' => by
              obtain ⟨r, h1, h2, h3, h4⟩ := dec_sound d l' t u hl' h'
              exact ⟨r, h1, h2, h3, h4⟩
            have hms : ts.length = q.toNat ∧ v = k + ((ts.map encT).flatten).length ∧ (∀ t ∈ ts, Ok t ∧ depth t ≤ d) ∧ ∃ r, l.drop k = (ts.map encT).flatten ++ r := by
              clear hq hg hk hr hin
              revert hm
              generalize q.toNat = c'
              intro hm
              have key : ∀ (c u : Nat) (ts : List T) (v : Nat), manyD (decD d) l c u = some (ts, v) → ts.length = c ∧ v = u + ((ts.map encT).flatten).length ∧ (∀ t ∈ ts, Ok t ∧ depth t ≤ d) ∧ ∃ r, l.drop u = (ts.map encT).flatten ++ r := by
                intro c
                induction c with
                | zero =>
                  intro u ts v h
                  simp only [manyD, Option.some.injEq, Prod.mk.injEq] at h
                  obtain ⟨rfl, rfl⟩ := h
                  exact ⟨rfl, by simp, by simp, l.drop u, by simp⟩
                | succ c ihc =>
                  intro u ts v h
                  simp only [manyD] at h
                  cases hx : decD d (l.drop u) with
                  | none => rw [hx] at h; cases h
                  | some x =>
                    obtain ⟨t, k2⟩ := x
                    rw [hx] at h
                    simp only at h
                    obtain ⟨r, hr, hk2, hot⟩ := hsound _ _ _ (by rw [List.length_drop]; omega) hx
                    cases hy : manyD (decD d) l c (u + k2) with
                    | none => rw [hy] at h; cases h
                    | some y =>
                      obtain ⟨rs, v'⟩ := y
                      rw [hy] at h
                      simp only [Option.some.injEq, Prod.mk.injEq] at h
                      obtain ⟨rfl, rfl⟩ := h
                      obtain ⟨h1, h2, h3, r2, h4⟩ := ihc (u + k2) rs v' hy
                      refine ⟨by simp [h1], by rw [h2, hk2]; simp [Nat.add_assoc], fun t' ht' => ?_, r2, ?_⟩
                      · rcases List.mem_cons.1 ht' with rfl | ht'
                        · exact hot
                        · exact h3 t' ht'
                      · rw [hr, List.map_cons, List.flatten_cons, List.append_assoc, ← h4, ← List.drop_drop, hr, hk2, List.drop_left]
              exact key _ _ _ _ hm
            obtain ⟨h1, h2, h3, r2, h4⟩ := hms
            have hlen : (ts.length : Int) = q := by omega
            have hhead : encL enc [a, b, c, q] = headB ⟨a, b, c, ts⟩ := by unfold headB; simp only [hlen]
            refine ⟨r2, ?_, ?_, ?_, ?_⟩
            · rw [encT_eq, ← hhead, List.append_assoc, ← h4, hr, hk, List.drop_left]
            · rw [h2, encT_eq, List.length_append, ← hhead, hk]
            · exact .mk _ (hin a (by simp)) (hin b (by simp)) (hin c (by simp)) (by show ts.length ≤ _; omega) fun u hu => (h3 u hu).1
            · have hk : ∀ m : Nat, (∀ u ∈ ts, depth u ≤ m) → (ts.map depth).foldr max 0 ≤ m := fun m h => foldr_le ts h
              have := hk d fun u hu => (h3 u hu).2
              rw [depth_eq]; exact Nat.succ_le_succ this
      · cases h
/-- No proper beginning is read. -/
theorem dec_cut {d : Nat} {t : T} {p q : List UInt8} (h : Ok t) (hd : depth t ≤ d) (hp : p ++ q = encT t) (hq : q ≠ []) (hl : p.length ≤ 1000000) : decD d p = none := by
  cases hx : decD d p with
  | none => rfl
  | some x =>
    obtain ⟨t', u⟩ := x
    obtain ⟨r, hr, hu, hok, hdt⟩ := dec_sound d p t' u hl hx
    have h1 := dec_enc d t [] h hd
    rw [List.append_nil, ← hp, hr, List.append_assoc, dec_enc d t' (r ++ q) hok hdt] at h1
    simp only [Option.some.injEq, Prod.mk.injEq] at h1
    have h2 := h1.2
    have h3 : q.length ≠ 0 := fun e => hq (List.eq_nil_of_length_eq_zero e)
    have h4 := congrArg List.length hp
    have h5 := congrArg List.length hr
    simp only [List.length_append] at h4 h5
    simp only [List.length_append] at h2
    omega
/-- Equal bytes, equal trees. -/
theorem enc_inj {t u : T} (ht : Ok t) (hu : Ok u) (h : encT t = encT u) : t = u := by
  have h1 := dec_enc (max (depth t) (depth u)) t [] ht (by omega)
  have h2 := dec_enc (max (depth t) (depth u)) u [] hu (by omega)
  rw [h, h2] at h1
  simp only [Option.some.injEq, Prod.mk.injEq] at h1
  exact h1.1.symm
end Go.Proofs.YthhhgakeeekalaaDoor.TR
namespace Go.Proofs.YthhhgakeeekalaaDoor
open Go.RowKit WM TR
theorem Rep.ok : ∀ {w : World} {S : Nat → Prop} {d : Nat} {t : T} {cs : List Value}, Rep w S d t cs → size t ≤ 1000000 → Ok t
  | _, _, 0, _, _, h, _ => h.elim
  | w, S, d + 1, t, _, ⟨A, c, xs, h1, h2, h3, h4, h5⟩, hs => .mk t h3.1 h3.2.1 h3.2.2 (by have := kids_lt t; omega) fun u hu => by
    obtain ⟨i, hi⟩ := List.mem_iff_getElem?.1 hu
    exact Rep.ok (h5 i u hi) (by have := size_kid hi; omega)
theorem encT_small : ∀ (t : T), Ok t → (encT t).length ≤ 45 * size t := by
  intro t
  induction h : SizeOf.sizeOf t using Nat.strongRecOn generalizing t with
  | ind n ih =>
    subst h
    intro hok
    have h1 := (head_len hok).2
    have hk := hok.facts.2.2.2.2
    have h2 : ∀ l : List T, (∀ u ∈ l, (encT u).length ≤ 45 * size u) → ((l.map encT).flatten).length ≤ 45 * (l.map size).sum := by
      intro l
      induction l with
      | nil => intro _; simp
      | cons u l ihl =>
        intro hl
        have a1 := hl u (List.mem_cons_self ..)
        have a2 := ihl fun v hv => hl v (List.mem_cons_of_mem _ hv)
        simp only [List.map_cons, List.flatten_cons, List.length_append, List.sum_cons]; omega
    have h3 := h2 t.kids fun u hu => ih _ (kid_lt hu) u rfl (hk u hu)
    rw [encT_eq, List.length_append, size_eq]
    omega
end Go.Proofs.YthhhgakeeekalaaDoor

/-
  The program's Digest: the hash of the bytes.
-/
namespace Go.Proofs.YthhhgakeeekalaaDoor
open Go.RowKit WM TR

/-- The digest of a tree. -/
def digT (t : T) : List UInt8 := ofB 1 [str (encT t)]
theorem encP_str (l : List UInt8) : encP [str l] = encB l := by simp [encP, str_list]
theorem digT_len (t : T) : (digT t).length = 16 := by
  unfold digT ofB
  rw [List.length_take]
  have : (sha (inputOf 1 [str (encT t)])).length = 32 := rfl
  omega

set_option maxRecDepth 100000 in
set_option maxHeartbeats 4000000 in
theorem digest_is (d : Nat) (t : T) (S : Nat → Prop) (A : Option Addr) (c : Nat) (w : World) (h : Rep w S d t (nd t A c)) (hin : In S w.heap.size) (hs : size t ≤ 10000) (hk : KT 1 w) :
    Calls Tryd.prog 25 #[.agg #[.int .i64 t.k, .int .i64 t.n, .int .i64 t.m, .slice A t.kids.length c]] w fun e w' => e = .returned (.agg (bs (digT t)).toArray) ∧ Below w.heap.size w w' := by
  obtain ⟨n, hn⟩ : ∃ n, t.kids.length = n := ⟨_, rfl⟩
  have hok := h.ok (by omega)
  have hen := encT_small t hok
  have hE : (encP [str (encT t)]).length ≤ 1000000 := by
    rw [encP_str]
    unfold encB
    rw [List.length_append]
    have := (enc_len (n := ((encT t).length : Int)) ⟨by omega, by omega⟩).2
    omega
  obtain ⟨W1, hW1⟩ : ∃ W, W = (w.alloc (.cells #[.int .i64 t.k, .int .i64 t.n, .int .i64 t.m, .slice A n c] 25)).alloc (.cells (bs (List.replicate 16 0)).toArray 40) := ⟨_, rfl⟩
  have hz : W1.heap.size = w.heap.size + 2 := by rw [hW1, size_alloc, size_alloc]
  have hB1 : Below w.heap.size w W1 := by rw [hW1]; exact ba (below_new _ _) _
  have hZ1 : Blk W1 (w.heap.size + 1) 40 (bs (List.replicate 16 0)).toArray := by rw [hW1]; exact Blk.new_at _ _ (by rw [size_alloc]) rfl
  have hZ0 : Blk W1 w.heap.size 25 #[.int .i64 t.k, .int .i64 t.n, .int .i64 t.m, .slice A n c] := by rw [hW1]; exact (Blk.new _ _ _).alloc _
  have hC := encode_is d t S A c W1 (h.later hin hB1) (hin.more hB1.size) (by omega)
  rw [hn] at hC ⊢
  have HC := Lib.hid hC
  have HK := Lib.hid hk
  have HB1 := Lib.hid hB1
  have HZ1 := Lib.hid hZ1
  have HZ := Lib.hid hz
  have HE := Lib.hid hE
  have HW1 := Lib.hid hW1
  have HLD : Hid (∀ i z, ([.int .i64 t.k, .int .i64 t.n, .int .i64 t.m, .slice A n c] : List Value)[i]? = some z → W1.cell? ⟨w.heap.size, 0 + i, none⟩ = some z) := Lib.hid (by
    intro i z hz
    rw [hZ0.cell (0 + i), Nat.zero_add]; simpa using hz)
  clear h hin hs hk hok hen hE hz hB1 hZ1 hZ0 hC hW1 hn
  go_enter Tryd.func25, Tryd.ntmps25
  go_upto_region 1 with fail
  have e16 : (#[.int .u8 0, .int .u8 0, .int .u8 0, .int .u8 0, .int .u8 0, .int .u8 0, .int .u8 0, .int .u8 0, .int .u8 0, .int .u8 0, .int .u8 0, .int .u8 0, .int .u8 0, .int .u8 0, .int .u8 0, .int .u8 0] : Array Value) = (bs (List.replicate 16 0)).toArray := by kernel_rfl
  rw [e16, ← HW1.out]
  clear e16
  go_wp2_with (first
    | (refine wpList_load_mid rfl 25 (.tmp 1) rfl w.heap.size 0 rfl [.int .i64 t.k, .int .i64 t.n, .int .i64 t.m, .slice A n c] _ HLD.out Tryd.underlying25 rfl (by rw [size_node]; rfl) ?_)
    | (go_at_call 24; go_loud (refine HC.out.mono ?_; rintro e w2 ⟨A2, c2, rfl, ho2, hb2⟩; have hcv := conv_str (c := c2) (Reads.of_own ho2); have HB2 := Lib.hid hb2; clear ho2 hb2))
    | (go_at_call 33; go_loud (have hrd : Reads (w2.alloc (.cells #[.string (str (encT t))] 9)) (w2.alloc (.cells #[.string (str (encT t))] 9)).heap.size 1 (some ⟨w2.heap.size, 0, none⟩) [str (encT t)].length (ss [str (encT t)]) := ⟨rfl, fun _ => ⟨_, rfl, (by rw [size_alloc]; exact Nat.lt_succ_self _), one_new _ _ _⟩⟩; refine (of_ 1 _ [str (encT t)] 1 _ (HK.out.below (ba (bt HB1.out HB2.out) _)) hrd (by have := HE.out; omega) (by simp)).mono ?_; rintro e w3 ⟨rfl, hb3⟩; have HB3 := Lib.hid (bt (bt HB1.out HB2.out) (bt (below_new w2 (.cells #[.string (str (encT t))] 9)) hb3)); have HZ3 := Lib.hid ((HZ1.out.below HB2.out HZ1.out.lt).below (bt (below_new w2 (.cells #[.string (str (encT t))] 9)) hb3) (by have := (HZ1.out.below HB2.out HZ1.out.lt).lt; omega)); clear hb3 hrd))
    | (refine wpList_store_row rfl 40 (.tmp 2) (.tmp 7) rfl (w.heap.size + 1) (bs (digT t)).toArray rfl rfl 40 _ HZ3.out (by rw [Tryd.size40]; simp [bs_length, digT_len]) (by simp [bs_length, digT_len]) (all_oneCell_toArray (bs_one _)) ?_))
  refine bodyPost_ret (results_cell_row Tryd.results25 _ _ (w.heap.size + 1) 40 (bs (digT t)).toArray (0, 0) _ rfl (HZ3.out.setRow _) Tryd.underlying40 rfl (by rw [Tryd.size40]; simp [bs_length, digT_len])) rfl ⟨rfl, below_setRow HB3.out (by omega) _⟩
end Go.Proofs.YthhhgakeeekalaaDoor
