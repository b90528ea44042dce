/-
  The program's iterator over a tree: 'places' and what it hands back.
-/
import Derived.Test.YtpbbafikjpjejaaDoorG25
import Derived.Laws.EntriesVeiled
import Derived.Shelf.Abstract
set_option linter.unusedVariables false
namespace Go.Proofs.YtpbbafikjpjejaaDoor
open Go.RowKit WM TR

theorem places_is (k n m : Int) (A : Option Addr) (len c : Nat) (w : World) :
    Calls Tryd.prog 49 #[.agg #[.int .i64 k, .int .i64 n, .int .i64 m, .slice A len c]] w fun e w' => e = .returned (.func (.func 71) #[] #[.pointer (some ⟨w.heap.size, 0, none⟩)]) ∧ w' = w.alloc (.cells #[.int .i64 k, .int .i64 n, .int .i64 m, .slice A len c] 25) := by
  go_enter Tryd.func49, Tryd.ntmps49
  go_wp2
  go_ret
  exact ⟨rfl, rfl⟩

set_option maxRecDepth 100000 in
set_option maxHeartbeats 4000000 in
theorem iter_is (n d B : Nat) (t : T) (A : Option Addr) (c : Nat) (Tr : Nat → Prop) (w : World) (ht : Rep w Tr d t (nd t A c)) (hB : Blk w B 25 #[.int .i64 t.k, .int .i64 t.n, .int .i64 t.m, .slice A t.kids.length c]) (hTr : ∀ b, Tr b → b < w.heap.size)
    (hsz : size t ≤ 1000000) :
    SeqT Fence.wide n Tryd.prog 71 #[.pointer (some ⟨B, 0, none⟩)] (fun b => Tr b ∨ b = B) AtT (walk [] t) w := by
  intro l J Jx S W hW hS hJ hJx hY h0
  refine callsIn_wide.2 ?_
  simp only [List.append_toArray, List.nil_append, List.cons_append]
  have ht2 : Rep W Tr d t (nd t A c) := ht.later hTr hW
  have hB2 := hB.below hW hB.lt
  have hBS : ¬ S B := fun h => (hS B h).2 (.inr rfl)
  obtain ⟨W3, hW3⟩ : ∃ W3, W3 = ((W.alloc (.cells #[.func (.yield l) #[] #[]] 89)).alloc (.cells #[.slice none 0 0] 22)).alloc (.cells #[.func (.func 72) #[] #[.pointer (some ⟨W.heap.size, 0, none⟩), .pointer (some ⟨W.heap.size + 1, 0, none⟩), .pointer (some ⟨W.heap.size + 1 + 1, 0, none⟩)]] 30) := ⟨_, rfl⟩
  have hz3 : W3.heap.size = W.heap.size + 3 := by rw [hW3, size_alloc, size_alloc, size_alloc]
  have hb3 : Below W.heap.size W W3 := by rw [hW3]; exact ba (ba (below_new _ _) _) _
  have hblk1 : Blk W3 W.heap.size 89 #[.func (.yield l) #[] #[]] := by rw [hW3]; exact ((Blk.new W _ _).alloc _).alloc _
  have hblk2 : Blk W3 (W.heap.size + 1) 22 #[.slice none 0 0] := by rw [hW3]; exact (Blk.new_at _ _ (by rw [size_alloc]) rfl).alloc _
  have hblk3 : Blk W3 (W.heap.size + 2) 30 #[.func (.func 72) #[] #[.pointer (some ⟨W.heap.size, 0, none⟩), .pointer (some ⟨W.heap.size + 1, 0, none⟩), .pointer (some ⟨W.heap.size + 2, 0, none⟩)]] := by rw [hW3]; exact Blk.new_at _ _ (by rw [size_alloc, size_alloc]) rfl
  have hst : VSt W.heap.size l S W S W3 (.slice none 0 0) [] :=
    ⟨Mov.of_below hb3, hblk1.cell 0, hblk2, hblk3.cell 0, World.ownsRow_nil _ _ _ _, fun b hb => .inl (hS b hb).1, fun g hg => (by cases hg), by omega⟩
  have hj : J [] S W3 := hJ _ _ _ _ h0 ⟨hb3.os, hb3.tape, hb3.output, hb3.size, fun b hb => hb3.block b (hS b hb).1⟩
  have hdt := depth_le_size t
  have HV := Lib.hid (visit_is l W.heap.size (n - 1) (walk [] t) J Jx S W rfl (fun b hb => (hS b hb).1) hJ hJx Tr (fun b hb => ⟨Nat.lt_of_lt_of_le (hTr b hb) hW.size, fun h => (hS b h).2 (.inl hb)⟩) hY d t A c S W3 (.slice none 0 0) [] [] ht2 hst hj (List.prefix_refl _) hsz (by simp only [List.length_nil]; omega))
  have HST := Lib.hid hst
  have HX : Hid (∀ i y, [Value.int .i64 t.k, .int .i64 t.n, .int .i64 t.m, .slice A t.kids.length c][i]? = some y → W3.cell? ⟨B, 0 + i, none⟩ = some y) := Lib.hid (fun i y hy => by
    rw [(hB2.below hb3 hB2.lt).cell (0 + i), Nat.zero_add]; simpa using hy)
  have HW3 := Lib.hid hW3
  clear hW3 hY hS hJ hJx h0 ht ht2 hB hB2 hBS hst hj hblk1 hblk2 hblk3 hW hb3 hTr
  go_enter Tryd.func71, Tryd.ntmps71
  go_wp2_with (first
    | (refine wpList_load_mid rfl 25 (.tmp 1) rfl B 0 rfl [.int .i64 t.k, .int .i64 t.n, .int .i64 t.m, .slice A t.kids.length c] _ (by rw [← HW3.out]; exact HX.out) Tryd.underlying25 rfl (by rw [size_node]; rfl) ?_)
    | (go_at_call 72; rw [← HW3.out]; refine HV.out.mono ?_; rintro e W4 ⟨S4, v4, hm4, (⟨rfl, hj4, hst4⟩ | ⟨rfl, q, hq, hx4⟩)⟩))
  · go_end0
    exact ⟨⟨_, rfl⟩, S4, HST.out.mov_of rfl hm4, .inl (by simpa using hj4)⟩
  · go_end0
    exact ⟨⟨_, rfl⟩, S4, HST.out.mov_of rfl hm4, .inr ⟨q, hq, by simpa using hx4⟩⟩
end Go.Proofs.YtpbbafikjpjejaaDoor

/-
  What the program's Size, Depth and Valid share.
-/
namespace Go.Proofs.YtpbbafikjpjejaaDoor
open Go.RowKit Go.Shelf WM TR
attribute [local go_sem] Oper.semAt_some

theorem zip2 {f : Array Value → Tmp × Value → Array Value} {t : Array Value} {p q : Tmp} {x y : Value} : (Array.zip #[p, q] #[x, y]).foldl f t = f (f t (p, x)) (q, y) := by simp
theorem walk_length : ∀ (p : List Int) (t : T), (walk p t).length = size t := by
  intro p t
  induction h : SizeOf.sizeOf t using Nat.strongRecOn generalizing p t with
  | ind n ih =>
    subst h
    have : ∀ j, j ≤ t.kids.length → (walks p t.kids j).length = sizes t.kids j := by
      intro j
      induction j with
      | zero => intro _; rfl
      | succ j ihj =>
        intro hj
        obtain ⟨u, hu⟩ : ∃ u, t.kids[j]? = some u := ⟨_, List.getElem?_eq_getElem (by omega)⟩
        rw [walks_next hu, sizes_next hu, List.length_append, ihj (by omega), ih _ (kid_lt (List.mem_of_getElem? hu)) _ u rfl]
    rw [walk_walks, List.length_cons, this _ (Nat.le_refl _), size_kids]
    omega
theorem Stay.blk {S : Nat → Prop} {A B : World} (h : Stay S A B) {g : Nat} {t : TypeId} {cs : Array Value} (hb : Blk A g t cs) (hg : S g) : Blk B g t cs := (h.same g hg).trans hb
theorem Off.blk {l : Nat} {A B : World} (h : Off l A B) {g : Nat} {t : TypeId} {cs : Array Value} (hb : Blk A g t cs) (hg : g ≠ l) : Blk B g t cs := (h.same g hg).trans hb
theorem AtT.size2 {x : List Int × T} {vs : Array Value} {S : Nat → Prop} {W : World} (h : AtT x vs S W) : vs.size = 2 := by
  obtain ⟨A, c, B, d, k, rfl, _⟩ := h
  rfl
/-- The world behind a loop over the iterator, the mark taken. -/
theorem Mov.ends {S0 S : Nat → Prop} {w0 w W : World} (h : Mov S0 w S W) (h0 : Below w0.heap.size w0 w) (hS : ∀ b, S0 b → w0.heap.size ≤ b) (o : Obj) : Below w0.heap.size w0 (W.putObj w.heap.size o) := by
  have hb := h0.trans (h.below h0.size hS)
  have ho := Off.putObj W w.heap.size o
  exact ⟨ho.os.trans hb.os, ho.tape.trans hb.tape, ho.output.trans hb.output, by rw [ho.size]; exact hb.size, fun b hb' => (ho.same b (by have := h0.size; omega)).trans (hb.block b hb')⟩
end Go.Proofs.YtpbbafikjpjejaaDoor

/-
  The nodes of a tree: how deep, how large.
-/
namespace Go.Proofs.YtpbbafikjpjejaaDoor
open Go.RowKit Go.Shelf WM TR

/-- The depth of what has come. -/
def deepest (a : Nat) (pre : List (List Int × T)) : Nat := pre.foldl (fun a x => max a (1 + x.1.length)) a
theorem deepest_snoc (a : Nat) (pre : List (List Int × T)) (x : List Int × T) : deepest a (pre ++ [x]) = max (deepest a pre) (1 + x.1.length) := by
  simp [deepest, List.foldl_append]
theorem deepest_walk (p : List Int) (t : T) (a : Nat) : deepest a (walk p t) = max a (p.length + depth t) := by
  induction h : SizeOf.sizeOf t using Nat.strongRecOn generalizing p t a with
  | ind n ih =>
    subst h
    have hj : ∀ (a' : Nat) j, j ≤ t.kids.length → p.length + 1 ≤ a' → deepest a' (walks p t.kids j) = max a' (p.length + 1 + depths t.kids j) := by
      intro a' j
      induction j with
      | zero =>
        intro _ h
        have : depths t.kids 0 = 0 := rfl
        rw [walks_zero, this]
        show a' = _
        omega
      | succ j ihj =>
        intro hj ha
        obtain ⟨u, hu⟩ : ∃ u, t.kids[j]? = some u := ⟨_, List.getElem?_eq_getElem (by omega)⟩
        have h1 : deepest a' (walks p t.kids j ++ walk (p ++ [(j : Int)]) u) = deepest (deepest a' (walks p t.kids j)) (walk (p ++ [(j : Int)]) u) := by simp [deepest, List.foldl_append]
        rw [walks_next hu, h1, ihj (by omega) ha, ih _ (kid_lt (List.mem_of_getElem? hu)) _ u _ rfl, depths_next hu, List.length_append, List.length_singleton]
        omega
    rw [walk_walks]
    have h1 : deepest a ((p, t) :: walks p t.kids t.kids.length) = deepest (max a (1 + p.length)) (walks p t.kids t.kids.length) := rfl
    rw [h1, hj _ _ (Nat.le_refl _) (by omega), depth_kids]
    omega
theorem deepest_le {a : Nat} {pre xs : List (List Int × T)} (h : pre <+: xs) : deepest a pre ≤ deepest a xs := by
  obtain ⟨q, rfl⟩ := h
  have : ∀ (q : List (List Int × T)) (b : Nat), b ≤ deepest b q := by
    intro q
    induction q with
    | nil => intro b; exact Nat.le_refl b
    | cons x q ih => intro b; exact Nat.le_trans (Nat.le_max_left _ _) (ih (max b (1 + x.1.length)))
  have h1 : deepest a (pre ++ q) = deepest (deepest a pre) q := by simp [deepest, List.foldl_append]
  rw [h1]
  exact this q _
end Go.Proofs.YtpbbafikjpjejaaDoor
namespace Go.Proofs.YtpbbafikjpjejaaDoor.TR
theorem walk_size (p : List Int) (t : T) : ∀ x ∈ walk p t, size x.2 ≤ size t := by
  induction h : SizeOf.sizeOf t using Nat.strongRecOn generalizing p t with
  | ind n ih =>
    subst h
    have hj : ∀ j, j ≤ t.kids.length → ∀ x ∈ walks p t.kids j, size x.2 ≤ size t := by
      intro j
      induction j with
      | zero => intro _ x hx; rw [walks_zero] at hx; cases hx
      | succ j ihj =>
        intro hj x hx
        obtain ⟨u, hu⟩ : ∃ u, t.kids[j]? = some u := ⟨_, List.getElem?_eq_getElem (by omega)⟩
        rw [walks_next hu] at hx
        rcases List.mem_append.1 hx with hx | hx
        · exact ihj (by omega) x hx
        · have := ih _ (kid_lt (List.mem_of_getElem? hu)) _ u rfl x hx
          have := size_kid hu
          omega
    intro x hx
    rw [walk_walks] at hx
    rcases List.mem_cons.1 hx with rfl | hx
    · exact Nat.le_refl _
    · exact hj _ (Nat.le_refl _) x hx
end Go.Proofs.YtpbbafikjpjejaaDoor.TR
