/-
  The reference's Paths.
-/
import Derived.Test.YtlffmfdjifgfgaaDoorG37
import Derived.RangeFuncNested
import Derived.RangeFuncBound
import Derived.RangeFuncCalls
import Derived.RangeFuncLeaves
import Derived.WalkKit
import Derived.WalkSmall
import Derived.OwnWalkIn
import Derived.TacticsInMore
import Derived.Deep.MidRow
import Derived.Deep.RegionHeldLaw
import Derived.OrdersIn
set_option linter.unusedVariables false
namespace Go.Proofs.YtlffmfdjifgfgaaDoor.TR
theorem attach_idx {α : Type} (l : List T) (f : Nat → T → α) : (l.attach.mapIdx fun i u => f i u.1) = l.mapIdx f := by
  apply List.ext_getElem (by simp)
  intro i h1 h2
  simp
theorem paths_eq (t : T) : paths t = [] :: (t.kids.mapIdx fun i u => (paths u).map fun p => (i : Int) :: p).flatten := by
  rw [paths, attach_idx t.kids fun i u => (paths u).map fun p => (i : Int) :: p]
/-- The places below the first kids. -/
def rows (l : List T) (j : Nat) : List (List Int) := ((l.take j).mapIdx fun i u => (paths u).map fun p => (i : Int) :: p).flatten
theorem rows_zero (l : List T) : rows l 0 = [] := rfl
theorem rows_next {l : List T} {j : Nat} {u : T} (h : l[j]? = some u) : rows l (j + 1) = rows l j ++ (paths u).map fun p => (j : Int) :: p := by
  have hj := (List.getElem?_eq_some_iff.1 h).1
  unfold rows
  rw [List.take_add_one, h, Option.toList_some, List.mapIdx_append, List.flatten_append]
  simp [List.length_take, Nat.min_eq_left (Nat.le_of_lt hj)]
theorem paths_rows (t : T) : paths t = [] :: rows t.kids t.kids.length := by rw [paths_eq, rows, List.take_length]
theorem rows_length {l : List T} (h : ∀ u ∈ l, (paths u).length = size u) : ∀ j, j ≤ l.length → (rows l j).length = sizes l j
  | 0, _ => rfl
  | j + 1, hj => by
    obtain ⟨u, hu⟩ : ∃ u, l[j]? = some u := ⟨_, List.getElem?_eq_getElem (by omega)⟩
    rw [rows_next hu, sizes_next hu, List.length_append, List.length_map, rows_length h j (by omega), h u (List.mem_of_getElem? hu)]
theorem paths_length (t : T) : (paths t).length = size t := by
  induction h : SizeOf.sizeOf t using Nat.strongRecOn generalizing t with
  | ind n ih =>
    subst h
    rw [paths_rows, List.length_cons, rows_length (fun u hu => ih _ (kid_lt hu) u rfl) _ (Nat.le_refl _), size_kids]
    omega
theorem path_lt (t : T) : ∀ p ∈ paths t, p.length < depth t := by
  induction h : SizeOf.sizeOf t using Nat.strongRecOn generalizing t with
  | ind n ih =>
    subst h
    intro p hp
    rw [paths_eq] at hp
    rcases List.mem_cons.1 hp with rfl | hp
    · rw [depth_eq]; simp
    · obtain ⟨r, hr, hpr⟩ := List.mem_flatten.1 hp
      obtain ⟨i, hi, rfl⟩ := List.mem_mapIdx.1 hr
      obtain ⟨q, hq, rfl⟩ := List.mem_map.1 hpr
      have h1 := ih _ (kid_lt (List.getElem_mem hi)) _ rfl q hq
      have h2 := depth_kid (List.getElem?_eq_getElem hi)
      simp only [List.length_cons]
      omega
theorem path_le (t : T) : ∀ p ∈ paths t, p.length ≤ size t := fun p hp => by
  have := path_lt t p hp
  have := depth_le_size t
  omega
end Go.Proofs.YtlffmfdjifgfgaaDoor.TR
namespace Go.Proofs.YtlffmfdjifgfgaaDoor
open Go.RowKit WM TR

/-- The cells xs hold slices that read as places. -/
def PsC (w : World) (S : Nat → Prop) (ps : List (List Int)) (xs : List Value) : Prop :=
  xs.length = ps.length ∧ ∀ (i : Nat) (p : List Int), ps[i]? = some p → ∃ A' c', xs[i]? = some (Value.slice A' p.length c') ∧ p.length ≤ c' ∧ Rd w S 1 A' p.length (vi p)
section
variable {w w' : World} {S S' : Nat → Prop} {ps : List (List Int)} {xs : List Value}
theorem PsC.keep (h : PsC w S ps xs) (hk : Keeps S w w') : PsC w' S ps xs := ⟨h.1, fun i p hp => by
  obtain ⟨A', c', e, hc, hr⟩ := h.2 i p hp
  exact ⟨A', c', e, hc, hr.keep hk⟩⟩
theorem PsC.mono (h : PsC w S ps xs) (hS : ∀ b, S b → S' b) : PsC w S' ps xs := ⟨h.1, fun i p hp => by
  obtain ⟨A', c', e, hc, hr⟩ := h.2 i p hp
  exact ⟨A', c', e, hc, hr.mono hS⟩⟩
theorem PsC.snoc (h : PsC w S ps xs) {p : List Int} {A' : Option Addr} {c' : Nat} (hc : p.length ≤ c') (hr : Rd w S 1 A' p.length (vi p)) : PsC w S (ps ++ [p]) (xs ++ [Value.slice A' p.length c']) := by
  refine ⟨by simp [h.1], fun i q hq => ?_⟩
  by_cases hi : i < ps.length
  · rw [List.getElem?_append_left hi] at hq
    obtain ⟨A2, c2, e, hc2, hr2⟩ := h.2 i q hq
    exact ⟨A2, c2, by rw [List.getElem?_append_left (by rw [h.1]; exact hi)]; exact e, hc2, hr2⟩
  · rw [List.getElem?_append_right (by omega)] at hq
    have hi2 : i - ps.length = 0 := by
      have := (List.getElem?_eq_some_iff.1 hq).1
      simp at this; omega
    rw [hi2] at hq
    simp only [List.getElem?_cons_zero, Option.some.injEq] at hq
    subst hq
    exact ⟨A', c', by rw [List.getElem?_append_right (by rw [h.1]; omega), h.1, hi2]; rfl, hc, hr⟩
end

/-- The places that have been made lie in a row of their own. -/
structure PSt (W1 wr : World) (v : Value) (ps : List (List Int)) (xs : List Value) : Prop where
  own : wr.ownsRow W1.heap.size 22 1 v ps.length xs
  cells : PsC wr (fun b => W1.heap.size ≤ b ∧ b < wr.heap.size ∧ v.ownBlock ≠ some b) ps xs
  below : Below W1.heap.size W1 wr
section
variable {W1 wr w1 w2 : World} {v v1 v2 : Value} {ps : List (List Int)} {xs : List Value} {p : List Int} {o : Obj}
theorem PSt.later (h : PSt W1 wr v ps xs) (hb : Below wr.heap.size wr w1) : PSt W1 w1 v ps xs := by
  refine ⟨ownsRow_below h.own hb, (h.cells.keep fun b hb' => hb.block b hb'.2.1).mono fun b hb' => ⟨hb'.1, Nat.lt_of_lt_of_le hb'.2.1 hb.size, hb'.2.2⟩, bt h.below hb⟩
theorem PSt.next (h : PSt W1 wr v ps xs) (hown1 : w1.ownsRow wr.heap.size 3 1 v1 p.length (vi p)) (hg1 : Below wr.heap.size wr w1)
    (hown2 : w2.ownsRow W1.heap.size 22 1 v2 (ps.length + 1) (xs ++ [v1])) (hg2 : (w1.alloc o).grownBy w2 v.ownBlock) (hnew : v2.ownBlock = v.ownBlock ∨ v2.ownBlock = some (w1.alloc o).heap.size) :
    PSt W1 w2 v2 (ps ++ [p]) (xs ++ [v1]) := by
  have hs1 := h.below.size
  have hs2 := hg1.size
  have hs3 := hg2.size
  have hsa : (w1.alloc o).heap.size = w1.heap.size + 1 := size_alloc _ _
  have hv := h.own.lt
  have keep : ∀ b, b < w1.heap.size → v.ownBlock ≠ some b → w2.heap[b]? = w1.heap[b]? := fun b hb hne =>
    (hg2.block b (by omega) (fun e => hne e.symm)).trans (Below.heap_alloc w1 o b hb)
  have hb1 : Below W1.heap.size W1 (w1.alloc o) := ba (bt h.below hg1) o
  have sort : ∀ b, b < w1.heap.size → v.ownBlock ≠ some b → v2.ownBlock ≠ some b := fun b hb hne e => by
    rcases hnew with hn | hn
    · exact hne (hn ▸ e)
    · rw [hn] at e; have := Option.some.inj e; omega
  obtain ⟨A1, c1, rfl, hc1⟩ := own_len hown1
  refine ⟨by rw [List.length_append, List.length_singleton]; exact hown2, ?_, ?_⟩
  · refine PsC.snoc ?_ hc1 ?_
    · refine (h.cells.keep (w' := w2) ?_).mono ?_
      · intro b hb
        exact (keep b (by omega) hb.2.2).trans (hg1.block b hb.2.1)
      · intro b hb
        exact ⟨hb.1, by omega, sort b (by omega) hb.2.2⟩
    · have hne : ∀ b, wr.heap.size ≤ b → v.ownBlock ≠ some b := fun b hb e => by have := (hv b e).2; omega
      refine Rd.mono ((Rd.of_own hown1).keep (w' := w2) ?_) ?_
      · intro b hb
        exact keep b hb.2 (hne b hb.1)
      · intro b hb
        exact ⟨by omega, by omega, sort b hb.2 (hne b hb.1)⟩
  · exact ⟨hg2.os.trans hb1.os, hg2.tape.trans hb1.tape, hg2.output.trans hb1.output, Nat.le_trans hb1.size hg2.size, fun i hi => (hg2.block i (Nat.lt_of_lt_of_le hi hb1.size) (fun e => by have := (hv i e.symm).1; omega)).trans (hb1.block i hi)⟩
end

/-- What Paths leaves. -/
def PathsPost (t : T) (w : World) (e : Ending) (w' : World) : Prop :=
  ∃ A' c', e = .returned (.slice A' (size t) c') ∧ size t ≤ c' ∧ Ps w' (fun b => w.heap.size ≤ b ∧ b < w'.heap.size) A' (paths t) ∧ Below w.heap.size w w'
end Go.Proofs.YtlffmfdjifgfgaaDoor

/-
  A RANGE OVER A FUNCTION whose iterator keeps state of its own in cells: a law over SETS of blocks. S: the blocks that are the caller's own (it may turn them, the iterator may not); whatever else lay is kept by the caller's body; R: what the iterator reads.
-/
namespace Go.Proofs.YtlffmfdjifgfgaaDoor
open Go.RowKit

/-- W' has the blocks of S as W has them. -/
structure Stay (S : Nat → Prop) (W W' : World) : Prop where
  os : W'.os = W.os
  tape : W'.tape = W.tape
  output : W'.output = W.output
  size : W.heap.size ≤ W'.heap.size
  same : ∀ b, S b → W'.heap[b]? = W.heap[b]?
/-- From W to W' no block that lay is turned but those of S; S' is S and some of the new blocks. -/
structure Mov (S : Nat → Prop) (W : World) (S' : Nat → Prop) (W' : World) : Prop where
  os : W'.os = W.os
  tape : W'.tape = W.tape
  output : W'.output = W.output
  size : W.heap.size ≤ W'.heap.size
  same : ∀ b, b < W.heap.size → ¬ S b → W'.heap[b]? = W.heap[b]?
  more : ∀ b, S b → S' b
  new : ∀ b, S' b → S b ∨ (W.heap.size ≤ b ∧ b < W'.heap.size)
/-- But for one block W' is W. -/
structure Off (l : Nat) (W W' : World) : Prop where
  os : W'.os = W.os
  tape : W'.tape = W.tape
  output : W'.output = W.output
  size : W'.heap.size = W.heap.size
  same : ∀ b, b ≠ l → W'.heap[b]? = W.heap[b]?

theorem Mov.refl (S : Nat → Prop) (W : World) : Mov S W S W := ⟨rfl, rfl, rfl, Nat.le_refl _, fun _ _ _ => rfl, fun _ h => h, fun _ h => .inl h⟩
theorem Mov.trans {S S' S'' : Nat → Prop} {A B C : World} (h : Mov S A S' B) (k : Mov S' B S'' C) : Mov S A S'' C :=
  ⟨k.os.trans h.os, k.tape.trans h.tape, k.output.trans h.output, Nat.le_trans h.size k.size,
   fun b hb hn => (k.same b (Nat.lt_of_lt_of_le hb h.size) (fun h' => (h.new b h').elim hn (fun h2 => by omega))).trans (h.same b hb hn),
   fun b hb => k.more b (h.more b hb),
   fun b hb => (k.new b hb).elim (fun h' => (h.new b h').imp id (fun h2 => ⟨h2.1, Nat.lt_of_lt_of_le h2.2 k.size⟩)) (fun h2 => .inr ⟨Nat.le_trans h.size h2.1, h2.2⟩)⟩
theorem Mov.in_ {S S' : Nat → Prop} {A B : World} (h : Mov S A S' B) (hS : ∀ b, S b → b < A.heap.size) : ∀ b, S' b → b < B.heap.size :=
  fun b hb => (h.new b hb).elim (fun h' => Nat.lt_of_lt_of_le (hS b h') h.size) (fun h2 => h2.2)
theorem Mov.below {S S' : Nat → Prop} {A B : World} {n : Nat} (h : Mov S A S' B) (hn : n ≤ A.heap.size) (hS : ∀ b, S b → n ≤ b) : Below n A B :=
  ⟨h.os, h.tape, h.output, h.size, fun b hb => h.same b (by omega) (fun h' => by have := hS b h'; omega)⟩
theorem Mov.of_below {S : Nat → Prop} {A B : World} (h : Below A.heap.size A B) : Mov S A S B :=
  ⟨h.os, h.tape, h.output, h.size, fun b hb _ => h.block b hb, fun _ hb => hb, fun _ hb => .inl hb⟩
/-- The blocks made since are the caller's own. -/
theorem Mov.own {S : Nat → Prop} {A B : World} (h : Below A.heap.size A B) : Mov S A (fun b => S b ∨ (A.heap.size ≤ b ∧ b < B.heap.size)) B :=
  ⟨h.os, h.tape, h.output, h.size, fun b hb _ => h.block b hb, fun _ hb => .inl hb, fun _ hb => hb⟩
theorem Mov.setCell {S : Nat → Prop} (A : World) (p : Addr) (u : Value) (hp : S p.block) : Mov S A S (A.setCell p u) :=
  ⟨rfl, rfl, rfl, by show A.heap.size ≤ (A.heap.modify _ _).size; rw [Array.size_modify]; exact Nat.le_refl _,
   fun b _ hn => Below.heap_setCell A p u b (fun e => hn (by rw [e]; exact hp)), fun _ h => h, fun _ h => .inl h⟩
theorem Stay.sub {S S' : Nat → Prop} {A B : World} (h : Stay S A B) (hs : ∀ b, S' b → S b) : Stay S' A B := ⟨h.os, h.tape, h.output, h.size, fun b hb => h.same b (hs b hb)⟩
theorem Stay.cell {S : Nat → Prop} {A B : World} (h : Stay S A B) {p : Addr} (hp : S p.block) : B.cell? p = A.cell? p := World.cell?_of_block (h.same _ hp)
theorem Stay.frozen {S : Nat → Prop} {A B : World} (h : Stay S A B) {p : Addr} (hp : S p.block) : B.frozen? p = A.frozen? p := World.frozen?_of_block (h.same _ hp)
theorem Off.putObj (W : World) (l : Nat) (o : Obj) : Off l W (W.putObj l o) := ⟨rfl, rfl, rfl, by simp, fun _ hb => World.putObj_heap_other hb⟩
theorem Off.mov {l : Nat} {S : Nat → Prop} {A B : World} (h : Off l A B) (hl : S l) : Mov S A S B :=
  ⟨h.os, h.tape, h.output, by rw [h.size]; exact Nat.le_refl _, fun b _ hn => h.same b (fun e => hn (by rw [e]; exact hl)), fun _ h => h, fun _ h => .inl h⟩
theorem Off.stay {l : Nat} {S : Nat → Prop} {A B : World} (h : Off l A B) (hl : ¬ S l) : Stay S A B :=
  ⟨h.os, h.tape, h.output, by rw [h.size]; exact Nat.le_refl _, fun b hb => h.same b (fun e => hl (by rw [← e]; exact hb))⟩

/-- An invariant that speaks of the blocks of S alone. -/
def Abide {α : Type} (J : List α → (Nat → Prop) → World → Prop) : Prop := ∀ pre S W W', J pre S W → Stay S W W' → J pre S W'
/-- S and the two blocks of the loop's book-keeping. -/
def With (S : Nat → Prop) (D b : Nat) : Prop := S b ∨ b = D ∨ b = D + 1

/-- THE ITERATOR's CONTRACT: what it hands on is 'At x vs S W'; whatever the rounds do to blocks of S and to new ones. -/
def SeqT {α : Type} (F : Fence) (n : Nat) (P : Program) (g : Nat) (lb : Array Value) (R : Nat → Prop) (At : α → Array Value → (Nat → Prop) → World → Prop) (xs : List α) (w : World) : Prop :=
  ∀ (l : Nat) (J Jx : List α → (Nat → Prop) → World → Prop) (S : Nat → Prop) (W : World), Below w.heap.size w W → (∀ b, S b → b < W.heap.size ∧ ¬ R b) → Abide J → Abide Jx →
    (∀ pre x vs S1 W1, J pre S1 W1 → pre ++ [x] <+: xs → At x vs S1 W1 → Mov S W S1 W1 → YieldAt F (n - 1) P l vs W1 fun e W' =>
      ∃ S', Mov S1 W1 S' W' ∧ ((e = .returned (.bool true) ∧ J (pre ++ [x]) S' W') ∨ (e = .returned (.bool false) ∧ Jx (pre ++ [x]) S' W'))) →
    J [] S W →
    CallsIn F n P g (#[.func (.yield l) #[] #[]] ++ lb) W fun e W' => (∃ v, e = .returned v) ∧ ∃ S', Mov S W S' W' ∧ (J xs S' W' ∨ ∃ pre, pre <+: xs ∧ Jx pre S' W')

/-- HOW THE BODY OF A ROUND MAY BE LEFT. -/
def tPost {α : Type} (I : List α → (Nat → Prop) → World → Prop) (Ix : Code → List α → (Nat → Prop) → World → Prop) (xs : List α) (S : Nat → Prop) (W : World) : Exit → Act → World → Prop
  | .normal, _, W' => ∃ S', Mov S W S' W' ∧ I xs S' W'
  | .ret, _, W' => ∃ S', Mov S W S' W' ∧ Ix .ret xs S' W'
  | .exit id, _, W' => ∃ S', Mov S W S' W' ∧ Ix (.exit id) xs S' W'
  | .goto t, _, W' => ∃ S', Mov S W S' W' ∧ Ix (.goto t) xs S' W'
  | .panic _, _, _ => False
  | .outgrown, _, _ => False

variable {F : Fence} {n : Nat} {P : Program}

theorem wpIn_range_T {α : Type} {g : Operand} {ps : Array Tmp} {assign body : Code} {Q : Exit → Act → World → Prop} {a : Act} {w : World}
    (hro : F.round = none) (h1 : 1 ≤ n) {gf : Nat} {lb : Array Value} (hg : a.eval g = .func (.func gf) #[] lb) (hFg : F.fn gf) (eg : ∀ args w, (callFunc gf args).run P w = .ok (.enter gf args) w)
    {R : Nat → Prop} {At : α → Array Value → (Nat → Prop) → World → Prop} {xs : List α} {w0 : World} (hseq : SeqT F (n - 1) P gf lb R At xs w0) (hb0 : Below w0.heap.size w0 w)
    (hps : ∀ x vs S W, At x vs S W → vs.size = ps.size) (hR : ∀ b, R b → b < w.heap.size)
    (I : List α → (Nat → Prop) → World → Prop) (Ix : Code → List α → (Nat → Prop) → World → Prop) (hI : Abide I) (hIx : ∀ c, Abide (Ix c))
    (S0 : Nat → Prop) (hS0 : ∀ b, S0 b → b < w.heap.size ∧ ¬ R b) (h0 : I [] S0 w)
    (hround : ∀ (pre : List α) (x : α) (vs : Array Value) (S : Nat → Prop) (W : World), I pre S W → pre ++ [x] <+: xs → At x vs (With S w.heap.size) W → Mov S0 w S W → w.heap.size + 1 < W.heap.size → ¬ S w.heap.size → ¬ S (w.heap.size + 1) →
      assign.wpIn (F.inRound (w.heap.size + 1)) (n - 1 - 1) P (Exit.then (fun a1 W1 => ∃ S1, Mov S W S1 W1 ∧ ∀ W2, Off (w.heap.size + 1) W1 W2 → body.wpIn (F.inRound (w.heap.size + 1)) (n - 1 - 1) P (tPost I Ix (pre ++ [x]) S1 W2) a1 W2) (fun _ _ _ => False))
        { tmps := (ps.zip vs).foldl (fun t (p, v) => t.setIfInBounds p v) a.tmps, defers := [] } W)
    (hdone : ∀ (S : Nat → Prop) (W : World), Mov S0 w S W → ¬ S w.heap.size → I xs S W → W.heap[w.heap.size]? = some (.deferred (some [])) → Q .normal { a with defers := { target := .collected w.heap.size, args := #[] } :: a.defers } W)
    (hstop : ∀ (c : Code) (pre : List α) (S : Nat → Prop) (W : World), Mov S0 w S W → ¬ S w.heap.size → pre <+: xs → Ix c pre S W → W.heap[w.heap.size]? = some (.deferred (some [])) → c.wpIn F n P Q { a with defers := { target := .collected w.heap.size, args := #[] } :: a.defers } W) :
    (Code.rangeFunc g ps assign body).wpIn F n P Q a w := by
  refine wpIn_rangeFunc ?_
  intro fn hfn
  rw [hro]
  obtain ⟨rec, hrec⟩ : ∃ rec : LoopState → Option Code → Loop, rec = fun st pe => { state := st, pending := pe, fn, tmps := a.tmps, params := ps, assign, body, defers := w.heap.size } := ⟨_, rfl⟩
  obtain ⟨W1, hW1⟩ : ∃ W1, (w.alloc (.deferred (some []))).alloc (.loop (rec .ready none)) = W1 := ⟨_, rfl⟩
  have hL1 : W1.heap[w.heap.size + 1]? = some (.loop (rec .ready none)) := by
    rw [← hW1]; have := World.alloc_heap_new (w.alloc (.deferred (some []))) (.loop (rec .ready none)); rwa [World.size_alloc] at this
  have hK1 : W1.heap[w.heap.size]? = some (.deferred (some [])) := by
    rw [← hW1]; exact (Below.heap_alloc _ _ _ (by simp)).trans (World.alloc_heap_new w _)
  have hB1 : Below w.heap.size w W1 := by
    rw [← hW1]; exact ((Below.refl _ w).alloc (Nat.le_refl _) _).alloc (by simp) _
  have hz1 : W1.heap.size = w.heap.size + 2 := by rw [← hW1]; simp
  have hI1 : I [] S0 W1 := hI _ _ _ _ h0 ⟨hB1.os, hB1.tape, hB1.output, hB1.size, fun b hb => hB1.block b (hS0 b hb).1⟩
  have hb1 : Below w0.heap.size w0 W1 := hb0.trans (hB1.mono hb0.size)
  have hm1 : Mov (With S0 w.heap.size) w (With S0 w.heap.size) W1 := Mov.of_below hB1
  -- what the iterator's Mov says of the caller's
  have hcut : ∀ (S : Nat → Prop) (W : World), ¬ S w.heap.size → ¬ S (w.heap.size + 1) → Mov (With S0 w.heap.size) W1 (With S w.heap.size) W → Mov S0 w S W := fun S W hn1 hn2 hm =>
    ⟨hm.os.trans hB1.os, hm.tape.trans hB1.tape, hm.output.trans hB1.output, Nat.le_trans hB1.size hm.size,
     fun b hb hn => (hm.same b (by omega) (fun h => by rcases h with h | h | h; exact hn h; omega; omega)).trans (hB1.block b hb),
     fun b hb => by
       rcases hm.more b (.inl hb) with h | h | h
       · exact h
       · have := (hS0 b hb).1; omega
       · have := (hS0 b hb).1; omega,
     fun b hb => by
       rcases hm.new b (.inl hb) with (h | h | h) | h
       · exact .inl h
       · subst h; exact absurd hb hn1
       · subst h; exact absurd hb hn2
       · exact .inr ⟨by omega, h.2⟩⟩
  refine ⟨w.heap.size + 1, [{ target := .collected w.heap.size, args := #[] }], W1, { target := .fn (.func gf) lb, args := #[.func (.yield (w.heap.size + 1)) #[] #[]] }, W1, gf,
    #[.func (.yield (w.heap.size + 1)) #[] #[]] ++ lb, W1, ?_, ?_, ?_, ?_, fun _ => h1, ?_⟩
  · rw [← hW1, hrec]; exact run_enterLoop_outer _ _ _ _ _
  · simp only [resolve, hg]
    simp [go_sem]
  · intro f' hf'; simp [Target.leads] at hf'; subst hf'; exact hFg
  · simp [invoke, go_sem, eg]
  · refine (hseq (w.heap.size + 1)
      (fun pre Si W => ∃ S, Si = With S w.heap.size ∧ ¬ S w.heap.size ∧ ¬ S (w.heap.size + 1) ∧ I pre S W ∧ W.heap[w.heap.size + 1]? = some (.loop (rec .ready none)) ∧ W.heap[w.heap.size]? = some (.deferred (some [])))
      (fun pre Si W => ∃ S c, Si = With S w.heap.size ∧ ¬ S w.heap.size ∧ ¬ S (w.heap.size + 1) ∧ Ix c pre S W ∧ W.heap[w.heap.size + 1]? = some (.loop (rec .done (some c))) ∧ W.heap[w.heap.size]? = some (.deferred (some [])))
      (With S0 w.heap.size) W1 hb1 ?_ ?_ ?_ ?_ ?_).mono ?_
    · rintro b (h | h | h)
      · exact ⟨by have := (hS0 b h).1; omega, (hS0 b h).2⟩
      · exact ⟨by omega, fun hr => by have := hR b hr; omega⟩
      · exact ⟨by omega, fun hr => by have := hR b hr; omega⟩
    · rintro pre Si A B ⟨S, rfl, hn1, hn2, hi, hl, hk⟩ hst
      exact ⟨S, rfl, hn1, hn2, hI _ _ _ _ hi (hst.sub (fun b hb => .inl hb)), (hst.same _ (.inr (.inr rfl))).trans hl, (hst.same _ (.inr (.inl rfl))).trans hk⟩
    · rintro pre Si A B ⟨S, c, rfl, hn1, hn2, hi, hl, hk⟩ hst
      exact ⟨S, c, rfl, hn1, hn2, hIx c _ _ _ _ hi (hst.sub (fun b hb => .inl hb)), (hst.same _ (.inr (.inr rfl))).trans hl, (hst.same _ (.inr (.inl rfl))).trans hk⟩
    · -- ONE ROUND
      rintro pre x vs Si W ⟨S, rfl, hn1, hn2, hi, hl, hk⟩ hpre hat hmw
      have hlt : w.heap.size + 1 < W.heap.size := (Array.getElem?_eq_some_iff.1 hl).1
      have hy := run_yield (P := P) (args := vs) hl (by rw [hrec]; exact hps x vs _ _ hat)
      rw [hrec] at hy
      have hm0 : Mov S0 w S W := hcut S W hn1 hn2 hmw
      refine ⟨fn, _, assign, body, hy, roundIn_of_wpIn hfn (wpIn_mono (hround pre x vs S W hi hpre hat hm0 hlt hn1 hn2) ?_)⟩
      clear hy
      rintro e a1 Wa hp
      cases e with
      | normal =>
        obtain ⟨S1, hma, hbody⟩ := hp
        have hn1a : ¬ S1 w.heap.size := fun h => (hma.new _ h).elim hn1 (fun h2 => by omega)
        have hn2a : ¬ S1 (w.heap.size + 1) := fun h => (hma.new _ h).elim hn2 (fun h2 => by omega)
        replace hl := (hma.same _ (by omega) hn2).trans hl
        replace hk := (hma.same _ (by omega) hn1).trans hk
        have hlta : w.heap.size + 1 < Wa.heap.size := (Array.getElem?_eq_some_iff.1 hl).1
        refine ⟨_, run_beginRound hl (by rw [hrec]), ?_⟩
        have hoff := Off.putObj Wa (w.heap.size + 1) (.loop { rec .ready none with state := .busy })
        have hl2 : (Wa.putObj (w.heap.size + 1) (.loop { rec .ready none with state := .busy })).heap[w.heap.size + 1]? = some (.loop { rec .ready none with state := .busy }) := World.putObj_heap_same hlta
        have hk2 : (Wa.putObj (w.heap.size + 1) (.loop { rec .ready none with state := .busy })).heap[w.heap.size]? = some (.deferred (some [])) := (World.putObj_heap_other (by omega)).trans hk
        refine wpIn_mono (hbody _ hoff) ?_
        obtain ⟨W2, hW2⟩ : ∃ W2, Wa.putObj (w.heap.size + 1) (.loop { rec .ready none with state := .busy }) = W2 := ⟨_, rfl⟩
        rw [hW2] at hoff hl2 hk2 ⊢
        have hsz2 := hoff.size
        have fin : ∀ (jump : Option Code) (S2 : Nat → Prop) (W3 : World), Mov S1 W2 S2 W3 → ∃ W4,
            (Instr.endRound (w.heap.size + 1) jump).run P W3 = .ok (.bool jump.isNone) W4 ∧ ¬ S2 w.heap.size ∧ ¬ S2 (w.heap.size + 1) ∧ Stay S2 W3 W4 ∧ Mov (With S w.heap.size) W (With S2 w.heap.size) W4 ∧
            W4.heap[w.heap.size + 1]? = some (.loop (rec (if jump.isNone then .ready else .done) jump)) ∧
            W4.heap[w.heap.size]? = some (.deferred (some [])) := fun jump S2 W3 hm3 => by
          have hn1b : ¬ S2 w.heap.size := fun h => (hm3.new _ h).elim hn1a (fun h2 => by omega)
          have hn2b : ¬ S2 (w.heap.size + 1) := fun h => (hm3.new _ h).elim hn2a (fun h2 => by omega)
          have hl3 := (hm3.same _ (by omega) hn2a).trans hl2
          have hk3 := (hm3.same _ (by omega) hn1a).trans hk2
          have hlt3 := (Array.getElem?_eq_some_iff.1 hl3).1
          obtain ⟨W4, hrun, hoff4, hnew⟩ : ∃ W4, (Instr.endRound (w.heap.size + 1) jump).run P W3 = .ok (.bool jump.isNone) W4 ∧ Off (w.heap.size + 1) W3 W4 ∧ W4.heap[w.heap.size + 1]? = some (.loop (rec (if jump.isNone then .ready else .done) jump)) :=
            ⟨_, run_endRound (P := P) jump hl3, Off.putObj _ _ _, by rw [World.putObj_heap_same hlt3, hrec]⟩
          have hz4 := hoff4.size
          refine ⟨W4, hrun, hn1b, hn2b, hoff4.stay hn2b, ?_, hnew, (hoff4.same _ (by omega)).trans hk3⟩
          · have hw3 := hm3.size
            have hwa := hma.size
            refine ⟨hoff4.os.trans (hm3.os.trans (hoff.os.trans hma.os)), hoff4.tape.trans (hm3.tape.trans (hoff.tape.trans hma.tape)), hoff4.output.trans (hm3.output.trans (hoff.output.trans hma.output)), by omega, fun b hb hn => ?_, fun b hb => ?_, fun b hb => ?_⟩
            · have hnS : ¬ S b := fun h => hn (.inl h)
              have hnl : b ≠ w.heap.size + 1 := fun h => hn (.inr (.inr h))
              exact (hoff4.same b hnl).trans ((hm3.same b (by omega) (fun h => (hma.new b h).elim hnS (fun h2 => by omega))).trans ((hoff.same b hnl).trans (hma.same b hb hnS)))
            · rcases hb with h | h
              · exact .inl (hm3.more b (hma.more b h))
              · exact .inr h
            · rcases hb with h | h
              · rcases hm3.new b h with h | h
                · rcases hma.new b h with h | h
                  · exact .inl (.inl h)
                  · exact .inr ⟨h.1, by omega⟩
                · exact .inr ⟨by omega, by omega⟩
              · exact .inl (.inr h)
        rintro e a3 W3 hp
        cases e with
        | normal =>
          obtain ⟨S2, hm3, hi3⟩ := hp
          obtain ⟨W4, hr, hb1, hb2, hst, hm, hl4, hk4⟩ := fin none S2 W3 hm3
          exact ⟨_, W4, hr, With S2 w.heap.size, hm, .inl ⟨rfl, S2, rfl, hb1, hb2, hI _ _ _ _ hi3 hst, hl4, hk4⟩⟩
        | ret =>
          obtain ⟨S2, hm3, hi3⟩ := hp
          obtain ⟨W4, hr, hb1, hb2, hst, hm, hl4, hk4⟩ := fin (some .ret) S2 W3 hm3
          exact ⟨_, W4, hr, With S2 w.heap.size, hm, .inr ⟨rfl, S2, .ret, rfl, hb1, hb2, hIx _ _ _ _ _ hi3 hst, hl4, hk4⟩⟩
        | exit id =>
          obtain ⟨S2, hm3, hi3⟩ := hp
          obtain ⟨W4, hr, hb1, hb2, hst, hm, hl4, hk4⟩ := fin (some (.exit id)) S2 W3 hm3
          exact ⟨_, W4, hr, With S2 w.heap.size, hm, .inr ⟨rfl, S2, .exit id, rfl, hb1, hb2, hIx _ _ _ _ _ hi3 hst, hl4, hk4⟩⟩
        | goto t =>
          obtain ⟨S2, hm3, hi3⟩ := hp
          obtain ⟨W4, hr, hb1, hb2, hst, hm, hl4, hk4⟩ := fin (some (.goto t)) S2 W3 hm3
          exact ⟨_, W4, hr, With S2 w.heap.size, hm, .inr ⟨rfl, S2, .goto t, rfl, hb1, hb2, hIx _ _ _ _ _ hi3 hst, hl4, hk4⟩⟩
        | panic ch => exact hp.elim
        | outgrown => exact hp.elim
      | exit id => exact hp.elim
      | goto t => exact hp.elim
      | ret => exact hp.elim
      | panic ch => exact hp.elim
      | outgrown => exact hp.elim
    · exact ⟨S0, rfl, fun h => by have := (hS0 _ h).1; omega, fun h => by have := (hS0 _ h).1; omega, hI1, hL1, hK1⟩
    · -- BEHIND THE ITERATOR
      rintro e W2 ⟨⟨v, rfl⟩, S', hm, (⟨S, rfl, hn1, hn2, hi, hl, hk⟩ | ⟨pre, hSp, S, c, rfl, hn1, hn2, hi, hl, hk⟩)⟩
      · have hm0 := hcut S W2 hn1 hn2 hm
        have hoff := Off.putObj W2 (w.heap.size + 1) (.loop { rec .ready none with state := .exhausted })
        have hz := hoff.size
        refine ⟨none, _, by have := run_endLoop (P := P) hl (by rw [hrec]; simp); rw [hrec] at this; exact this, hdone S _ ?_ hn1 (hI _ _ _ _ hi (by rw [hrec] at hoff; exact hoff.stay hn2)) ((World.putObj_heap_other (by omega)).trans hk)⟩
        rw [hrec] at hoff hz
        exact ⟨hoff.os.trans hm0.os, hoff.tape.trans hm0.tape, hoff.output.trans hm0.output, by rw [hz]; exact hm0.size, fun b hb hn => (hoff.same b (by omega)).trans (hm0.same b hb hn), hm0.more, fun b hb => by rw [hz]; exact hm0.new b hb⟩
      · have hm0 := hcut S W2 hn1 hn2 hm
        have hoff := Off.putObj W2 (w.heap.size + 1) (.loop { rec .done (some c) with state := .exhausted })
        have hz := hoff.size
        refine ⟨some c, _, by have := run_endLoop (P := P) hl (by rw [hrec]; simp); rw [hrec] at this; exact this, hstop c pre S _ ?_ hn1 hSp (hIx c _ _ _ _ hi (by rw [hrec] at hoff; exact hoff.stay hn2)) ((World.putObj_heap_other (by omega)).trans hk)⟩
        rw [hrec] at hoff hz
        exact ⟨hoff.os.trans hm0.os, hoff.tape.trans hm0.tape, hoff.output.trans hm0.output, by rw [hz]; exact hm0.size, fun b hb hn => (hoff.same b (by omega)).trans (hm0.same b hb hn), hm0.more, fun b hb => by rw [hz]; exact hm0.new b hb⟩

/-- Where no depth is asked the figures are all one. -/
theorem YieldAt.deep {m : Nat} (m' : Nat) {l : Nat} {args : Array Value} {W : World} {R : Ending → World → Prop} (h : YieldAt Fence.wide m P l args W R) : YieldAt Fence.wide m' P l args W R := by
  obtain ⟨fn, tmps, assign, body, hy, hR⟩ := h
  exact ⟨fn, tmps, assign, body, hy, hR.1, fun c cs _ => hR.2 c cs (fun d h => by cases h)⟩
end Go.Proofs.YtlffmfdjifgfgaaDoor

/-
  THE NODES OF A TREE AND THEIR PLACES, in preorder; what the program's iterator over them keeps.
-/
namespace Go.Proofs.YtlffmfdjifgfgaaDoor.TR
/-- The nodes and their places, in preorder. -/
def walk (p : List Int) (t : T) : List (List Int × T) := (p, t) :: (t.kids.attach.mapIdx fun i u => walk (p ++ [(i : Int)]) u.1).flatten
  termination_by t
  decreasing_by exact kid_lt u.2
theorem walk_eq (p : List Int) (t : T) : walk p t = (p, t) :: (t.kids.mapIdx fun i u => walk (p ++ [(i : Int)]) u).flatten := by
  rw [walk, attach_idx t.kids fun i u => walk (p ++ [(i : Int)]) u]
/-- Those at and below the first kids. -/
def walks (p : List Int) (l : List T) (j : Nat) : List (List Int × T) := ((l.take j).mapIdx fun i u => walk (p ++ [(i : Int)]) u).flatten
theorem walks_zero (p : List Int) (l : List T) : walks p l 0 = [] := rfl
theorem walks_next {p : List Int} {l : List T} {j : Nat} {u : T} (h : l[j]? = some u) : walks p l (j + 1) = walks p l j ++ walk (p ++ [(j : Int)]) u := by
  have hj := (List.getElem?_eq_some_iff.1 h).1
  unfold walks
  rw [List.take_add_one, h, Option.toList_some, List.mapIdx_append, List.flatten_append]
  simp [List.length_take, Nat.min_eq_left (Nat.le_of_lt hj)]
theorem walk_walks (p : List Int) (t : T) : walk p t = (p, t) :: walks p t.kids t.kids.length := by rw [walk_eq, walks, List.take_length]
theorem walks_take (p : List Int) (l : List T) (j : Nat) : walks p l j <+: walks p l l.length := by
  by_cases h : j ≤ l.length
  · induction hk : l.length - j generalizing j with
    | zero => rw [show j = l.length by omega]; exact List.prefix_refl _
    | succ k ih =>
      obtain ⟨u, hu⟩ : ∃ u, l[j]? = some u := ⟨_, List.getElem?_eq_getElem (by omega)⟩
      exact List.IsPrefix.trans ⟨_, (walks_next hu).symm⟩ (ih (j + 1) (by omega) (by omega))
  · unfold walks
    rw [List.take_of_length_le (by omega), List.take_of_length_le (Nat.le_refl _)]
    exact List.prefix_refl _
end Go.Proofs.YtlffmfdjifgfgaaDoor.TR
namespace Go.Proofs.YtlffmfdjifgfgaaDoor
open Go.RowKit WM TR

/-- What the iterator hands on: a place and a node, in memory that is not the caller's own. -/
def AtT (x : List Int × T) (vs : Array Value) (S : Nat → Prop) (W : World) : Prop :=
  ∃ A c B d k, vs = #[.slice A x.1.length c, .agg #[.int .i64 x.2.k, .int .i64 x.2.n, .int .i64 x.2.m, .slice B x.2.kids.length d]] ∧ x.1.length ≤ c ∧
    Rd W (fun b => b < W.heap.size ∧ ¬ S b) 1 A x.1.length (vi x.1) ∧ Rep W (fun b => b < W.heap.size ∧ ¬ S b) k x.2 (nd x.2 B d)

theorem ownsRow_same {w w' : World} {base : Nat} {e : TypeId} {size : Nat} {v : Value} {n : Nat} {xs : List Value} (h : w.ownsRow base e size v n xs) (hb : ∀ g, v.ownBlock = some g → w'.heap[g]? = w.heap[g]?) : w'.ownsRow base e size v n xs := by
  obtain ⟨h1, h2⟩ := h
  refine ⟨h1, h2.imp id ?_⟩
  rintro ⟨g, cap, cur, rfl, hg, hh, rest⟩
  exact ⟨g, cap, cur, rfl, hg, (hb g rfl).trans hh, rest⟩

/-- The iterator's three boxes at z, z + 1, z + 2, and the place in a row of its own. -/
structure VSt (z l : Nat) (S0 : Nat → Prop) (W0 : World) (S : Nat → Prop) (W : World) (v : Value) (p : List Int) : Prop where
  mov : Mov S0 W0 S W
  y : W.cell? ⟨z, 0, none⟩ = some (.func (.yield l) #[] #[])
  pl : Blk W (z + 1) 22 #[v]
  vf : W.cell? ⟨z + 2, 0, none⟩ = some (.func (.func 72) #[] #[.pointer (some ⟨z, 0, none⟩), .pointer (some ⟨z + 1, 0, none⟩), .pointer (some ⟨z + 2, 0, none⟩)])
  own : W.ownsRow (z + 3) 3 1 v p.length (vi p)
  out : ∀ b, S b → b < z ∨ z + 3 ≤ b
  row : ∀ g, v.ownBlock = some g → ¬ S g
  three : z + 3 ≤ W.heap.size

/-- What the iterator and the rounds may do: the caller's own, the place's box and row, and new blocks. -/
structure VMv (z : Nat) (S : Nat → Prop) (W : World) (v : Value) (S' : Nat → Prop) (W' : World) (v' : Value) : Prop where
  os : W'.os = W.os
  tape : W'.tape = W.tape
  output : W'.output = W.output
  size : W.heap.size ≤ W'.heap.size
  same : ∀ b, b < W.heap.size → ¬ S b → b ≠ z + 1 → v.ownBlock ≠ some b → W'.heap[b]? = W.heap[b]?
  more : ∀ b, S b → S' b
  new : ∀ b, S' b → S b ∨ (W.heap.size ≤ b ∧ b < W'.heap.size)
  row : v'.ownBlock = v.ownBlock ∨ ∀ g, v'.ownBlock = some g → W.heap.size ≤ g

section
variable {z l : Nat} {S0 S S' S'' : Nat → Prop} {W0 W W' W'' : World} {v v' v'' : Value} {p p' : List Int}
theorem VMv.refl (z : Nat) (S : Nat → Prop) (W : World) (v : Value) : VMv z S W v S W v := ⟨rfl, rfl, rfl, Nat.le_refl _, fun _ _ _ _ _ => rfl, fun _ h => h, fun _ h => .inl h, .inl rfl⟩
theorem VMv.trans (h : VMv z S W v S' W' v') (k : VMv z S' W' v' S'' W'' v'') : VMv z S W v S'' W'' v'' :=
  ⟨k.os.trans h.os, k.tape.trans h.tape, k.output.trans h.output, Nat.le_trans h.size k.size,
   fun b hb hn h1 h2 => (k.same b (Nat.lt_of_lt_of_le hb h.size) (fun h' => (h.new b h').elim hn (fun h2 => by omega)) h1
     (fun e => h.row.elim (fun hr => h2 (hr ▸ e)) (fun hr => by have := hr b e; omega))).trans (h.same b hb hn h1 h2),
   fun b hb => k.more b (h.more b hb),
   fun b hb => (k.new b hb).elim (fun h' => (h.new b h').imp id (fun h2 => ⟨h2.1, Nat.lt_of_lt_of_le h2.2 k.size⟩)) (fun h2 => .inr ⟨Nat.le_trans h.size h2.1, h2.2⟩),
   k.row.elim (fun hk => hk ▸ h.row) (fun hk => .inr fun g hg => Nat.le_trans h.size (hk g hg))⟩
theorem VMv.of_mov (h : Mov S W S' W') : VMv z S W v S' W' v := ⟨h.os, h.tape, h.output, h.size, fun b hb hn _ _ => h.same b hb hn, h.more, h.new, .inl rfl⟩
/-- A step of the iterator's own. -/
abbrev OMv (z : Nat) (W : World) (v : Value) (W' : World) (v' : Value) : Prop := VMv z (fun _ => False) W v (fun _ => False) W' v'
theorem OMv.mk (ho : W'.os = W.os) (ht : W'.tape = W.tape) (hp : W'.output = W.output) (hs : W.heap.size ≤ W'.heap.size) (hk : ∀ b, b < W.heap.size → b ≠ z + 1 → v.ownBlock ≠ some b → W'.heap[b]? = W.heap[b]?)
    (hr : v'.ownBlock = v.ownBlock ∨ ∀ g, v'.ownBlock = some g → W.heap.size ≤ g) : OMv z W v W' v' :=
  ⟨ho, ht, hp, hs, fun b hb _ h1 h2 => hk b hb h1 h2, fun _ h => h, fun _ h => .inl h, hr⟩
theorem OMv.lift (S : Nat → Prop) (h : OMv z W v W' v') : VMv z S W v S W' v' :=
  ⟨h.os, h.tape, h.output, h.size, fun b hb _ h1 h2 => h.same b hb (fun h => h) h1 h2, fun _ h => h, fun _ h => .inl h, h.row⟩
theorem OMv.below (h : Below W.heap.size W W') : OMv z W v W' v := OMv.mk h.os h.tape h.output h.size (fun b hb _ _ => h.block b hb) (.inl rfl)
theorem VSt.in_ (h : VSt z l S0 W0 S W v p) (hS0 : ∀ b, S0 b → b < W0.heap.size) : ∀ b, S b → b < W.heap.size := h.mov.in_ hS0
theorem VSt.out1 (h : VSt z l S0 W0 S W v p) : ¬ S (z + 1) := fun h' => (h.out _ h').elim (by omega) (by omega)
theorem VSt.mov_of (h : VSt z l S0 W0 S W v p) (hz : z = W0.heap.size) (k : VMv z S W v S' W' v') : Mov S0 W0 S' W' :=
  ⟨k.os.trans h.mov.os, k.tape.trans h.mov.tape, k.output.trans h.mov.output, Nat.le_trans h.mov.size k.size,
   fun b hb hn => (k.same b (Nat.lt_of_lt_of_le hb h.mov.size) (fun h' => (h.mov.new b h').elim hn (fun h2 => by omega)) (by omega) (fun e => by have := (h.own.lt b e).1; omega)).trans (h.mov.same b hb hn),
   fun b hb => k.more b (h.mov.more b hb),
   fun b hb => (k.new b hb).elim (fun h' => (h.mov.new b h').imp id (fun h2 => ⟨h2.1, Nat.lt_of_lt_of_le h2.2 k.size⟩)) (fun h2 => .inr ⟨Nat.le_trans h.mov.size h2.1, h2.2⟩)⟩
/-- Behind a round. -/
theorem VSt.round (h : VSt z l S0 W0 S W v p) (hm : Mov S W S' W') : VSt z l S0 W0 S' W' v p := by
  have ht := h.three
  have hn : ∀ b, z ≤ b → b < z + 3 → ¬ S b := fun b h1 h2 h' => (h.out b h').elim (by omega) (by omega)
  refine ⟨h.mov.trans hm, ?_, ?_, ?_, ?_, ?_, ?_, Nat.le_trans ht hm.size⟩
  · exact (World.cell?_of_block (hm.same z (by omega) (hn z (by omega) (by omega)))).trans h.y
  · exact (hm.same (z + 1) (by omega) (hn _ (by omega) (by omega))).trans h.pl
  · exact (World.cell?_of_block (hm.same (z + 2) (by omega) (hn _ (by omega) (by omega)))).trans h.vf
  · exact ownsRow_same h.own fun g hg => hm.same g (h.own.lt g hg).2 (h.row g hg)
  · exact fun b hb => (hm.new b hb).elim (h.out b) (fun h2 => .inr (by omega))
  · exact fun g hg h' => (hm.new g h').elim (h.row g hg) (fun h2 => by have := (h.own.lt g hg).2; omega)
/-- Behind a step of the iterator's own. -/
theorem VSt.step (h : VSt z l S0 W0 S W v p) (hz : z = W0.heap.size) (hS0 : ∀ b, S0 b → b < W0.heap.size) (k : OMv z W v W' v') (hb : Blk W' (z + 1) 22 #[v']) (ho : W'.ownsRow (z + 3) 3 1 v' p'.length (vi p')) :
    VSt z l S0 W0 S W' v' p' ∧ Stay S W W' := by
  have ht := h.three
  have hS := h.in_ hS0
  have hn : ∀ b, z ≤ b → b < z + 3 → ¬ S b := fun b h1 h2 h' => (h.out b h').elim (by omega) (by omega)
  have hv : ∀ b, b < z + 3 → v.ownBlock ≠ some b := fun b hb e => by have := (h.own.lt b e).1; omega
  refine ⟨⟨h.mov_of hz (k.lift S), ?_, hb, ?_, ho, h.out, ?_, Nat.le_trans ht k.size⟩, ?_⟩
  · exact (World.cell?_of_block (k.same z (by omega) (fun h => h) (by omega) (hv z (by omega)))).trans h.y
  · exact (World.cell?_of_block (k.same (z + 2) (by omega) (fun h => h) (by omega) (hv _ (by omega)))).trans h.vf
  · intro g hg h'
    rcases k.row with hr | hr
    · exact h.row g (hr ▸ hg) h'
    · have := hr g hg
      have := hS g h'
      omega
  · -- the caller's own blocks stay: those of S are neither the place's box nor its row
    exact ⟨k.os, k.tape, k.output, k.size, fun b hb => k.same b (hS b hb) (fun h => h) (fun e => h.out1 (e ▸ hb)) (fun e => h.row b e hb)⟩
/-- The place grows by a number; the box takes it. -/
theorem VSt.append (h : VSt z l S0 W0 S W v p) {x : Int} {w3 : World} {v3 : Value} {o : Obj} (hown : w3.ownsRow (z + 3) 3 1 v3 (p.length + 1) (vi p ++ [.int .i64 x])) (hg : (W.alloc o).grownBy w3 v.ownBlock)
    (hn : v3.ownBlock = v.ownBlock ∨ v3.ownBlock = some (W.alloc o).heap.size) :
    OMv z W v (w3.setCell ⟨z + 1, 0, none⟩ v3) v3 ∧ Blk (w3.setCell ⟨z + 1, 0, none⟩ v3) (z + 1) 22 #[v3] ∧ (w3.setCell ⟨z + 1, 0, none⟩ v3).ownsRow (z + 3) 3 1 v3 (p ++ [x]).length (vi (p ++ [x])) := by
  have ht := h.three
  have hsa : (W.alloc o).heap.size = W.heap.size + 1 := size_alloc _ _
  have hs3 := hg.size
  have hb := below_new W o
  have hv : ∀ b, b < z + 3 → v.ownBlock ≠ some b := fun b hb e => by have := (h.own.lt b e).1; omega
  have hB : Blk w3 (z + 1) 22 #[v] := (hg.block (z + 1) (by omega) (fun e => hv _ (by omega) e.symm)).trans (h.pl.alloc o)
  refine ⟨OMv.mk (hg.os.trans hb.os) (hg.tape.trans hb.tape) (hg.output.trans hb.output) ?_ ?_ ?_, ?_, ?_⟩
  · have : (w3.setCell ⟨z + 1, 0, none⟩ v3).heap.size = w3.heap.size := by show (w3.heap.modify _ _).size = _; rw [Array.size_modify]
    omega
  · intro b hb1 hb2 hb3
    exact (Below.heap_setCell w3 ⟨z + 1, 0, none⟩ v3 b hb2).trans ((hg.block b (by omega) (fun e => hb3 e.symm)).trans (hb.block b hb1))
  · rcases hn with hn | hn
    · exact .inl hn
    · exact .inr fun g hg' => by rw [hn] at hg'; have := Option.some.inj hg'; omega
  · simpa using hB.set_ 0 v3
  · rw [List.length_append, List.length_singleton, vi_append]
    exact ownsRow_setCell_below hown (by show z + 1 < z + 3; omega) v3
theorem VSt.boxed (h : VSt z l S0 W0 S W v p) {w3 : World} {o : Obj} (hg : (W.alloc o).grownBy w3 v.ownBlock) : w3.cell? ⟨z + 1, 0, none⟩ = some v ∧ w3.frozen? ⟨z + 1, 0, none⟩ = false := by
  have ht := h.three
  have hsa : (W.alloc o).heap.size = W.heap.size + 1 := size_alloc _ _
  have hv : ∀ b, b < z + 3 → v.ownBlock ≠ some b := fun b hb e => by have := (h.own.lt b e).1; omega
  have hB : Blk w3 (z + 1) 22 #[v] := (hg.block (z + 1) (by omega) (fun e => hv _ (by omega) e.symm)).trans (h.pl.alloc o)
  exact ⟨hB.cell 0, hB.frozen 0⟩
/-- The place's last number is written. -/
theorem VSt.store {g n c : Nat} {x : Int} (h : VSt z l S0 W0 S W (.slice (some ⟨g, 0, none⟩) n c) (p ++ [x])) (hn : n = p.length + 1) (y : Int) :
    OMv z W (.slice (some ⟨g, 0, none⟩) n c) (W.setCell ⟨g, p.length, none⟩ (.int .i64 y)) (.slice (some ⟨g, 0, none⟩) n c) ∧ Blk (W.setCell ⟨g, p.length, none⟩ (.int .i64 y)) (z + 1) 22 #[.slice (some ⟨g, 0, none⟩) n c] ∧
      (W.setCell ⟨g, p.length, none⟩ (.int .i64 y)).ownsRow (z + 3) 3 1 (.slice (some ⟨g, 0, none⟩) n c) (p ++ [y]).length (vi (p ++ [y])) := by
  subst hn
  have ho := h.own
  have hlt := ho.lt g rfl
  rw [List.length_append, List.length_singleton] at ho
  have hst := (ho.stored p.length (.int .i64 y)).1
  refine ⟨OMv.mk rfl rfl rfl ?_ ?_ (.inl rfl), h.pl.far (by show z + 1 ≠ g; omega) _, ?_⟩
  · show W.heap.size ≤ (W.heap.modify _ _).size; rw [Array.size_modify]; exact Nat.le_refl _
  · intro b _ _ hb
    exact Below.heap_setCell W _ _ b (fun e => hb (by rw [e]; rfl))
  · have e : (vi (p ++ [x])).set p.length (.int .i64 y) = vi (p ++ [y]) := by
      rw [vi_append, vi_append, List.set_append_right _ _ (by rw [vi_length]; exact Nat.le_refl _), vi_length, Nat.sub_self]; rfl
    rw [e] at hst
    rw [List.length_append, List.length_singleton]
    exact hst
/-- The place's last number goes. -/
theorem VSt.pop {g n c : Nat} {x : Int} (h : VSt z l S0 W0 S W (.slice (some ⟨g, 0, none⟩) n c) (p ++ [x])) (hn : n = p.length + 1) :
    OMv z W (.slice (some ⟨g, 0, none⟩) n c) (W.setCell ⟨z + 1, 0, none⟩ (.slice (some ⟨g, 0, none⟩) p.length c)) (.slice (some ⟨g, 0, none⟩) p.length c) ∧
      Blk (W.setCell ⟨z + 1, 0, none⟩ (.slice (some ⟨g, 0, none⟩) p.length c)) (z + 1) 22 #[.slice (some ⟨g, 0, none⟩) p.length c] ∧
      (W.setCell ⟨z + 1, 0, none⟩ (.slice (some ⟨g, 0, none⟩) p.length c)).ownsRow (z + 3) 3 1 (.slice (some ⟨g, 0, none⟩) p.length c) p.length (vi p) := by
  subst hn
  have ho := h.own
  rw [List.length_append, List.length_singleton, vi_append] at ho
  have hpp := ownsRow_pop (by rw [vi_length, Nat.mul_one]) ho
  refine ⟨OMv.mk rfl rfl rfl ?_ ?_ (.inl rfl), by simpa using h.pl.set_ 0 (.slice (some ⟨g, 0, none⟩) p.length c), ownsRow_setCell_below hpp (by show z + 1 < z + 3; omega) _⟩
  · show W.heap.size ≤ (W.heap.modify _ _).size; rw [Array.size_modify]; exact Nat.le_refl _
  · intro b _ hb _
    exact Below.heap_setCell W _ _ b hb
theorem Rd.of_own_out {w : World} {base : Nat} {e : TypeId} {size n c : Nat} {A : Option Addr} {xs : List Value} (h : w.ownsRow base e size (.slice A n c) n xs) (hr : ∀ g, (Value.slice A n c).ownBlock = some g → ¬ S g) :
    Rd w (fun b => b < w.heap.size ∧ ¬ S b) size A n xs := by
  refine ⟨h.1, fun hn => ?_⟩
  obtain ⟨g, cap, hv, hb, hlt⟩ := h.form hn
  have hA : A = some ⟨g, 0, none⟩ := by injection hv
  subst hA
  exact ⟨_, rfl, ⟨hlt, hr g rfl⟩, h.cells (g := g) rfl⟩
end
end Go.Proofs.YtlffmfdjifgfgaaDoor

/-
  Laws of the fenced walk that are lacking: a load of a whole row out of the middle of a block; a plain value.
-/
namespace Go.Proofs.YtlffmfdjifgfgaaDoor
open Go.RowKit

theorem wpListIn_value {F : Fence} {n : Nat} {P : Program} {w w' : World} {ops : Array Oper} {rest : List Oper} {o : Oper} {a : Act} {Q : Exit → Act → World → Prop}
    (hg : o.guard = none) (hnd : ∀ c, o.op ≠ .defer c) (hab : o.about P w a.eval = none) (v : Value) (hrun : (execOp a.eval o).run P w = .ok (.value v) w') (h : wpListIn F n P ops Q rest (a.put o.dst v) w') : wpListIn F n P ops Q (o :: rest) a w := by
  refine wpListIn_plain hg fun K hK => ?_
  unfold Oper.wpIn
  refine ⟨fun f hf => absurd hf (by rw [hab]; exact fun h => nomatch h), ?_⟩
  rw [Oper.semAt_plain F _ _ hnd, hrun]
  exact hK _ _ h
theorem wpListIn_load_mid {F : Fence} {n : Nat} {P : Program} {w : World} {ops : Array Oper} {rest : List Oper} {op : Oper} {a : Act} {Q : Exit → Act → World → Prop} (hgd : op.guard = none) (ty : TypeId) (x : Operand) (ho : op.op = .load ty x)
    (b o : Nat) (hx : a.eval x = .pointer (some ⟨b, o, none⟩)) (cs : List Value) (d : TypeDesc) (hc : w.rangeAt b o cs)
    (hu : P.underlying ty = some d) (hd : d.isRow = true) (hi : (P.info? ty).map (·.size) = some cs.length)
    (h : wpListIn F n P ops Q rest (a.put op.dst (.agg cs.toArray)) w) : wpListIn F n P ops Q (op :: rest) a w :=
  wpListIn_value hgd (fun c => by rw [ho]; intro h; cases h) (by simp [Oper.about, ho]) (.agg cs.toArray) (by
    unfold execOp
    simp only [ho, hx, Instr.loadAt, Instr.sureAddr, Sem.run_bind, Sem.run_pure, Result.andThen_ok, run_loadVar_mid w b o ty cs d hc hu hd hi]) h

/-! What is shown of an operation or a region without a fence serves in a round of a loop over an iterator. -/
section
variable {P : Program} {ops : Array Oper} {Q : Exit → Act → World → Prop} {n l : Nat}
theorem wpIn_of_wp {o : Oper} {a : Act} {w : World} {K : Act → World → Prop} (hnd : ∀ c, o.op ≠ .defer c) (h : o.wp P a w K Q) : o.wpIn (Fence.wide.inRound l) n P a w K Q := by
  refine ⟨fun _ _ => trivial, ?_⟩
  rw [Oper.semAt_eq _ _ _ hnd]
  unfold Oper.wp at h
  generalize (execOp a.eval o).run P w = r at h ⊢
  cases r with
  | ok nx w' =>
    cases nx
    case value v => exact h
    case skip => exact h
    case defer d => exact h
    case enter f args => exact ⟨fun hd => (nomatch (show false = true from hd)), (callsIn_wide (n := n - 1)).2 h⟩
    case row row args => exact ⟨fun hd => (nomatch (show false = true from hd)), fun c cs _ => (let ⟨v, w', r, s⟩ := h c cs; ⟨v, w', r, stepsIn_wide.2 s⟩)⟩
    all_goals exact h.elim
  | halt x w' => cases x <;> first | exact h | exact h.elim
theorem wpOpIn_of_wpOp {i : Nat} {K K' : Act → World → Prop} {a : Act} {w : World} (hnd : ∀ (i : Nat) o, ops[i]? = some o → ∀ c, o.op ≠ .defer c) (hQ : ¬ LetsOut Q) (hK : ∀ a w, K a w → K' a w) (h : wpOp P ops Q i K a w) : wpOpIn (Fence.wide.inRound l) n P ops Q i K' a w := by
  unfold wpOp at h
  unfold wpOpIn
  cases ho : ops[i]? with
  | none => rw [ho] at h; exact hK _ _ h
  | some o =>
    rw [ho] at h
    simp only at h ⊢
    split
    · rename_i hw
      rw [if_pos hw] at h
      rcases h with h | h
      · exact Oper.wpIn_mono hK (wpIn_of_wp (hnd i o ho) h)
      · exact absurd h.2 hQ
    · rename_i hw
      rw [if_neg hw] at h
      exact ⟨fun _ _ => trivial, hK _ _ h⟩
theorem wpAnyIn_of_wpAny {md : Region.Mode} (hnd : ∀ (i : Nat) o, ops[i]? = some o → ∀ c, o.op ≠ .defer c) (hQ : ¬ LetsOut Q) : ∀ (fuel : Nat) (listed : Array Bool) (a : Act) (w : World), wpAny P md ops Q fuel listed a w → wpAnyIn (Fence.wide.inRound l) n P md ops Q fuel listed a w
  | 0, _, _, _, h => h
  | fuel + 1, _, _, _, h => ⟨h.1, fun i hi => wpOpIn_of_wpOp hnd hQ (fun a w h => wpAnyIn_of_wpAny hnd hQ fuel _ a w h) (h.2 i hi)⟩
theorem wpListIn_of_wpList (hQ : ¬ LetsOut Q) : ∀ {rest : List Oper} {a : Act} {w : World}, (∀ o ∈ rest, ∀ c, o.op ≠ .defer c) → wpList P ops Q rest a w → wpListIn (Fence.wide.inRound l) n P ops Q rest a w
  | [], _, _, _, h => h
  | o :: rest, a, w, hnd, h => by
    unfold wpList at h
    unfold wpListIn
    split
    · rename_i hw
      rw [if_pos hw] at h
      rcases h with h | h
      · exact Oper.wpIn_mono (fun a w h => wpListIn_of_wpList hQ (fun o ho => hnd o (List.mem_cons_of_mem _ ho)) h) (wpIn_of_wp (hnd o (List.mem_cons_self ..)) h)
      · exact absurd h.2 hQ
    · rename_i hw
      rw [if_neg hw] at h
      exact ⟨fun _ _ => trivial, wpListIn_of_wpList hQ (fun o ho => hnd o (List.mem_cons_of_mem _ ho)) h⟩
/-- No operation is a defer statement. -/
def noDefer (o : Oper) : Bool := match o.op with | .defer _ => false | _ => true
theorem noDefer_all (h : ops.all noDefer = true) : ∀ (i : Nat) o, ops[i]? = some o → ∀ c, o.op ≠ .defer c := fun i o ho c hc => by
  obtain ⟨hi, e⟩ := Array.getElem?_eq_some_iff.1 ho
  have h1 := (Array.all_eq_true.1 h) i hi
  rw [e] at h1
  unfold noDefer at h1
  rw [hc] at h1
  cases h1
/-- A region that draws its order, in a round, by the laws without a fence. -/
theorem wpIn_region_held {S : World → Prop} {id : Nat} {a : Act} {w : World} (hm : P.follows .mixedOrders = true) (hnd : ops.all noDefer = true) (hQ : ¬ LetsOut Q)
    (hS : S w.drew) (h : S w.drew → wpAnyH P .any ops Q S ops.size (Array.replicate ops.size false) a w.drew) : (Code.region id ops true).wpIn (Fence.wide.inRound l) n P Q a w :=
  wpIn_region_any hm (wpAnyIn_of_wpAny (noDefer_all hnd) hQ _ _ _ _ (wpAny_of_held _ _ _ _ (h hS)))
/-- A region in its own order, in a round, by the laws without a fence. -/
theorem wpIn_region_plain {id : Nat} {a : Act} {w : World} (hQ : ¬ LetsOut Q) {rest : List Oper} (hnd : ∀ o ∈ rest, ∀ c, o.op ≠ .defer c) (h : wpList P rest.toArray Q rest a w) : (Code.region id rest.toArray false).wpIn (Fence.wide.inRound l) n P Q a w :=
  wpIn_region_lit (wpListIn_of_wpList hQ hnd h)
end
end Go.Proofs.YtlffmfdjifgfgaaDoor

/-
  Rows of places, begun.
-/
namespace Go.Proofs.YtlffmfdjifgfgaaDoor
open Go.RowKit WM TR

theorem ps_int_info : (Tryd.prog.info? 3).map (fun i => (i.zero, i.size, i.bytes)) = some (some (.int .i64 0), 1, 8) := by kernel_rfl
theorem ps_ints_info : (Tryd.prog.info? 22).map (fun i => (i.zero, i.size, i.bytes)) = some (some (.slice none 0 0), 1, 24) := by kernel_rfl
theorem ps_reads (w : World) (v : Value) : Reads (w.alloc (.cells #[v] 22)) (w.heap.size + 1) 1 (some ⟨w.heap.size, 0, none⟩) 1 [v] :=
  ⟨rfl, fun _ => ⟨_, rfl, Nat.lt_succ_self _, cells_new w [v] 22⟩⟩
theorem vi_one (l : List Int) : ∀ u ∈ vi l, u.oneCell' = true := by
  intro u hu
  obtain ⟨x, _, rfl⟩ := List.mem_map.1 hu
  rfl
theorem own_one (w : World) (x : Int) : (w.alloc (.cells #[.int .i64 x] 3)).ownsRow w.heap.size 3 1 (.slice (some ⟨w.heap.size, 0, none⟩) 1 1) 1 [.int .i64 x] :=
  own_lit (xs := [.int .i64 x]) (n := 1) (Nat.le_refl _) rfl (len_le (by omega))
theorem below_grown {w w' : World} {o : Obj} {row : Option Nat} (h : (w.alloc o).grownBy w' row) (hr : ∀ b, row = some b → w.heap.size ≤ b) : Below w.heap.size w w' :=
  have hb := below_new w o
  ⟨h.os.trans hb.os, h.tape.trans hb.tape, h.output.trans hb.output, Nat.le_trans hb.size h.size, fun i hi => (h.block i (Nat.lt_of_lt_of_le hi hb.size) (fun e => by have := hr i e.symm; omega)).trans (hb.block i hi)⟩

/-- The row begins with the empty place. -/
theorem PSt.first (w : World) : PSt w (w.alloc (.cells #[.slice none 0 0] 22)) (.slice (some ⟨w.heap.size, 0, none⟩) 1 1) [[]] [.slice none 0 0] := by
  refine ⟨own_lit (xs := [.slice none 0 0]) (n := 1) (Nat.le_refl _) rfl (len_le (by omega)), ⟨rfl, fun i p hp => ?_⟩, below_new _ _⟩
  have hi : i = 0 := by
    have := (List.getElem?_eq_some_iff.1 hp).1
    simp at this; omega
  subst hi
  simp only [List.getElem?_cons_zero, Option.some.injEq] at hp
  subst hp
  exact ⟨none, 0, rfl, Nat.le_refl _, Rd.none_⟩

end Go.Proofs.YtlffmfdjifgfgaaDoor
