/-
  The program's Size and Depth.
-/
import Derived.Test.YthhhgakeeekalaaDoorG17
import Derived.Shelf.Abstract
set_option linter.unusedVariables false
namespace Go.Proofs.YthhhgakeeekalaaDoor
open Go.RowKit Go.Shelf WM TR
attribute [local go_sem] Oper.semAt_some

theorem zip2 {f : Array Value → Tmp × Value → Array Value} {t : Array Value} {p q : Tmp} {x y : Value} : (Array.zip #[p, q] #[x, y]).foldl f t = f (f t (p, x)) (q, y) := by simp
theorem walk_length : ∀ (p : List Int) (t : T), (walk p t).length = size t := by
  intro p t
  induction h : SizeOf.sizeOf t using Nat.strongRecOn generalizing p t with
  | ind n ih =>
    subst h
    have : ∀ j, j ≤ t.kids.length → (walks p t.kids j).length = sizes t.kids j := by
      intro j
      induction j with
      | zero => intro _; rfl
      | succ j ihj =>
        intro hj
        obtain ⟨u, hu⟩ : ∃ u, t.kids[j]? = some u := ⟨_, List.getElem?_eq_getElem (by omega)⟩
        rw [walks_next hu, sizes_next hu, List.length_append, ihj (by omega), ih _ (kid_lt (List.mem_of_getElem? hu)) _ u rfl]
    rw [walk_walks, List.length_cons, this _ (Nat.le_refl _), size_kids]
    omega
theorem Stay.blk {S : Nat → Prop} {A B : World} (h : Stay S A B) {g : Nat} {t : TypeId} {cs : Array Value} (hb : Blk A g t cs) (hg : S g) : Blk B g t cs := (h.same g hg).trans hb
theorem Off.blk {l : Nat} {A B : World} (h : Off l A B) {g : Nat} {t : TypeId} {cs : Array Value} (hb : Blk A g t cs) (hg : g ≠ l) : Blk B g t cs := (h.same g hg).trans hb
theorem AtT.size2 {x : List Int × T} {vs : Array Value} {S : Nat → Prop} {W : World} (h : AtT x vs S W) : vs.size = 2 := by
  obtain ⟨A, c, B, d, k, rfl, _⟩ := h
  rfl
/-- The world behind a loop over the iterator, the mark taken. -/
theorem Mov.ends {S0 S : Nat → Prop} {w0 w W : World} (h : Mov S0 w S W) (h0 : Below w0.heap.size w0 w) (hS : ∀ b, S0 b → w0.heap.size ≤ b) (o : Obj) : Below w0.heap.size w0 (W.putObj w.heap.size o) := by
  have hb := h0.trans (h.below h0.size hS)
  have ho := Off.putObj W w.heap.size o
  exact ⟨ho.os.trans hb.os, ho.tape.trans hb.tape, ho.output.trans hb.output, by rw [ho.size]; exact hb.size, fun b hb' => (ho.same b (by have := h0.size; omega)).trans (hb.block b hb')⟩

set_option maxRecDepth 100000 in
set_option maxHeartbeats 2000000 in
theorem size_is (d : Nat) (t : T) (S : Nat → Prop) (A : Option Addr) (c : Nat) (w : World) (h : Rep w S d t (nd t A c)) (hin : In S w.heap.size) (hs : size t ≤ 1000000) :
    Calls Tryd.prog 13 #[.agg #[.int .i64 t.k, .int .i64 t.n, .int .i64 t.m, .slice A t.kids.length c]] w fun e w' => e = .returned (.int .i64 (size t : Int)) ∧ Below w.heap.size w w' := by
  refine (callsIn_wide (n := 9)).1 ?_
  refine callsIn_of_wp_marks Tryd.func13 rfl trivial ?_ rfl
  simp only [Tryd.ntmps13, List.size_toArray, List.length_cons, List.length_nil, Nat.reduceAdd, Nat.reduceSub, Array.replicate_succ, Array.replicate_zero, List.push_toArray, List.append_toArray, List.nil_append, List.cons_append]
  refine wpIn_wide.2 ?_
  go_wp2_with (go_at_call 45; refine (places_is _ _ _ _ _ _ _).mono ?_; rintro e w3 ⟨rfl, hw3⟩)
  obtain ⟨W2, hW2⟩ : ∃ W2, W2 = (w.alloc (.cells #[.int .i64 t.k, .int .i64 t.n, .int .i64 t.m, .slice A t.kids.length c] 25)).alloc (.cells #[.int .i64 0] 3) := ⟨_, rfl⟩
  rw [← hW2]
  rw [← hW2] at hw3
  have hz2 : W2.heap.size = w.heap.size + 2 := by rw [hW2, size_alloc, size_alloc]
  have hb2 : Below w.heap.size w W2 := by rw [hW2]; exact ba (below_new _ _) _
  have hbk : Blk W2 (w.heap.size + 1) 3 #[.int .i64 0] := by rw [hW2]; exact Blk.new_at _ _ (by rw [size_alloc]) rfl
  have hz3 : w3.heap.size = w.heap.size + 3 := by rw [hw3, size_alloc, hz2]
  have hb3 : Below w.heap.size w w3 := by rw [hw3]; exact ba hb2 _
  have hseq := iter_is (9 - 1) d (w.heap.size + 2) t A c S w3 (h.later hin hb3) (by rw [hw3]; exact Blk.new_at _ _ hz2.symm rfl) (hin.more hb3.size) hs
  have hbk3 : Blk w3 (w.heap.size + 1) 3 #[.int .i64 0] := by rw [hw3]; exact hbk.alloc _
  rw [← hw3]
  clear hbk
  refine (wpIn_wide (n := 9)).1 ?_
  refine wpIn_range_T (w := w3) rfl (by omega) (gf := 78) (lb := #[.pointer (some ⟨w.heap.size + 2, 0, none⟩)]) rfl trivial (enters_of Tryd.func78 (by kernel_rfl) rfl) hseq (Below.refl _ _) (fun x vs S W hx => hx.size2)
    (fun b hb => hb.elim (fun h => hin.more hb3.size b h) (fun h => by omega))
    (fun pre S W => S (w.heap.size + 1) ∧ Blk W (w.heap.size + 1) 3 #[.int .i64 (pre.length : Int)]) (fun _ _ _ _ => False)
    (fun pre S W W' hI hst => ⟨hI.1, hst.blk hI.2 hI.1⟩) (fun _ _ _ _ _ h _ => h)
    (fun b => b = w.heap.size + 1) (fun b hb => ⟨by omega, fun h => h.elim (fun h => by have := hin b h; omega) (fun h => by omega)⟩) ⟨rfl, hbk3⟩ ?round ?done ?stop
  case round =>
    rintro pre x vs S W ⟨hS, hbW⟩ hpre ⟨A1, c1, B1, d1, k1, rfl, _⟩ hm hlt hn1 hn2
    have hlen : pre.length + 1 ≤ size t := by
      have := hpre.length_le
      rw [walk_length, List.length_append, List.length_singleton] at this
      exact this
    clear hseq
    rw [zip2]
    gi_wp2
    refine ⟨S, Mov.refl _ _, fun W2 hoff => ?_⟩
    have hb4 := hoff.blk hbW (by omega)
    have hc := hb4.cell 0
    have hf := hb4.frozen 0
    gi_wp2
    refine ⟨S, Mov.setCell _ _ _ hS, hS, ?_⟩
    have := hb4.set_ 0 (.int .i64 ((pre.length : Int) + 1))
    simpa using this
  case done =>
    rintro S1 W hm _ ⟨hS, hbW⟩ hD
    have hc := hbW.cell 0
    rw [walk_length] at hc
    clear hseq
    go_wp2
    refine ⟨by simp, .inl ⟨_, _, rfl, run_takeDeferred hD, ?_⟩⟩
    exact ⟨_, results_tmp rfl _ _ _, rfl, hm.ends hb3 (fun b hb => by omega) _⟩
  case stop =>
    rintro c pre S W hm _ hp h
    exact h.elim
end Go.Proofs.YthhhgakeeekalaaDoor

/-
  The program's Depth.
-/
namespace Go.Proofs.YthhhgakeeekalaaDoor
open Go.RowKit Go.Shelf WM TR
attribute [local go_sem] Oper.semAt_some

/-- The depth of what has come. -/
def deepest (a : Nat) (pre : List (List Int × T)) : Nat := pre.foldl (fun a x => max a (1 + x.1.length)) a
theorem deepest_snoc (a : Nat) (pre : List (List Int × T)) (x : List Int × T) : deepest a (pre ++ [x]) = max (deepest a pre) (1 + x.1.length) := by
  simp [deepest, List.foldl_append]
theorem deepest_walk (p : List Int) (t : T) (a : Nat) : deepest a (walk p t) = max a (p.length + depth t) := by
  induction h : SizeOf.sizeOf t using Nat.strongRecOn generalizing p t a with
  | ind n ih =>
    subst h
    have hj : ∀ (a' : Nat) j, j ≤ t.kids.length → p.length + 1 ≤ a' → deepest a' (walks p t.kids j) = max a' (p.length + 1 + depths t.kids j) := by
      intro a' j
      induction j with
      | zero =>
        intro _ h
        have : depths t.kids 0 = 0 := rfl
        rw [walks_zero, this]
        show a' = _
        omega
      | succ j ihj =>
        intro hj ha
        obtain ⟨u, hu⟩ : ∃ u, t.kids[j]? = some u := ⟨_, List.getElem?_eq_getElem (by omega)⟩
        have h1 : deepest a' (walks p t.kids j ++ walk (p ++ [(j : Int)]) u) = deepest (deepest a' (walks p t.kids j)) (walk (p ++ [(j : Int)]) u) := by simp [deepest, List.foldl_append]
        rw [walks_next hu, h1, ihj (by omega) ha, ih _ (kid_lt (List.mem_of_getElem? hu)) _ u _ rfl, depths_next hu, List.length_append, List.length_singleton]
        omega
    rw [walk_walks]
    have h1 : deepest a ((p, t) :: walks p t.kids t.kids.length) = deepest (max a (1 + p.length)) (walks p t.kids t.kids.length) := rfl
    rw [h1, hj _ _ (Nat.le_refl _) (by omega), depth_kids]
    omega
theorem deepest_le {a : Nat} {pre xs : List (List Int × T)} (h : pre <+: xs) : deepest a pre ≤ deepest a xs := by
  obtain ⟨q, rfl⟩ := h
  have : ∀ (q : List (List Int × T)) (b : Nat), b ≤ deepest b q := by
    intro q
    induction q with
    | nil => intro b; exact Nat.le_refl b
    | cons x q ih => intro b; exact Nat.le_trans (Nat.le_max_left _ _) (ih (max b (1 + x.1.length)))
  have h1 : deepest a (pre ++ q) = deepest (deepest a pre) q := by simp [deepest, List.foldl_append]
  rw [h1]
  exact this q _

set_option maxRecDepth 100000 in
set_option maxHeartbeats 2000000 in
theorem depth_is (d : Nat) (t : T) (S : Nat → Prop) (A : Option Addr) (c : Nat) (w : World) (h : Rep w S d t (nd t A c)) (hin : In S w.heap.size) (hs : size t ≤ 1000000) :
    Calls Tryd.prog 15 #[.agg #[.int .i64 t.k, .int .i64 t.n, .int .i64 t.m, .slice A t.kids.length c]] w fun e w' => e = .returned (.int .i64 (depth t : Int)) ∧ Below w.heap.size w w' := by
  refine (callsIn_wide (n := 9)).1 ?_
  refine callsIn_of_wp_marks Tryd.func15 rfl trivial ?_ rfl
  simp only [Tryd.ntmps15, List.size_toArray, List.length_cons, List.length_nil, Nat.reduceAdd, Nat.reduceSub, Array.replicate_succ, Array.replicate_zero, List.push_toArray, List.append_toArray, List.nil_append, List.cons_append]
  refine wpIn_wide.2 ?_
  go_wp2_with (go_at_call 45; refine (places_is _ _ _ _ _ _ _).mono ?_; rintro e w3 ⟨rfl, hw3⟩)
  obtain ⟨W2, hW2⟩ : ∃ W2, W2 = (w.alloc (.cells #[.int .i64 t.k, .int .i64 t.n, .int .i64 t.m, .slice A t.kids.length c] 25)).alloc (.cells #[.int .i64 0] 3) := ⟨_, rfl⟩
  rw [← hW2]
  rw [← hW2] at hw3
  have hz2 : W2.heap.size = w.heap.size + 2 := by rw [hW2, size_alloc, size_alloc]
  have hb2 : Below w.heap.size w W2 := by rw [hW2]; exact ba (below_new _ _) _
  have hbk : Blk W2 (w.heap.size + 1) 3 #[.int .i64 0] := by rw [hW2]; exact Blk.new_at _ _ (by rw [size_alloc]) rfl
  have hz3 : w3.heap.size = w.heap.size + 3 := by rw [hw3, size_alloc, hz2]
  have hb3 : Below w.heap.size w w3 := by rw [hw3]; exact ba hb2 _
  have hseq := iter_is (9 - 1) d (w.heap.size + 2) t A c S w3 (h.later hin hb3) (by rw [hw3]; exact Blk.new_at _ _ hz2.symm rfl) (hin.more hb3.size) hs
  have hbk3 : Blk w3 (w.heap.size + 1) 3 #[.int .i64 0] := by rw [hw3]; exact hbk.alloc _
  rw [← hw3]
  have hdt := depth_le_size t
  clear hbk
  refine (wpIn_wide (n := 9)).1 ?_
  refine wpIn_range_T (w := w3) rfl (by omega) (gf := 78) (lb := #[.pointer (some ⟨w.heap.size + 2, 0, none⟩)]) rfl trivial (enters_of Tryd.func78 (by kernel_rfl) rfl) hseq (Below.refl _ _) (fun x vs S W hx => hx.size2)
    (fun b hb => hb.elim (fun h => hin.more hb3.size b h) (fun h => by omega))
    (fun pre S W => S (w.heap.size + 1) ∧ Blk W (w.heap.size + 1) 3 #[.int .i64 (deepest 0 pre : Int)]) (fun _ _ _ _ => False)
    (fun pre S W W' hI hst => ⟨hI.1, hst.blk hI.2 hI.1⟩) (fun _ _ _ _ _ h _ => h)
    (fun b => b = w.heap.size + 1) (fun b hb => ⟨by omega, fun h => h.elim (fun h => by have := hin b h; omega) (fun h => by omega)⟩) ⟨rfl, hbk3⟩ ?round ?done ?stop
  case round =>
    rintro pre ⟨p, u⟩ vs S W ⟨hS, hbW⟩ hpre ⟨A1, c1, B1, d1, k1, rfl, _⟩ hm hlt hn1 hn2
    have hle : deepest 0 (pre ++ [(p, u)]) ≤ 1000000 := by
      have h1 := deepest_le (a := 0) hpre
      rw [deepest_walk] at h1
      simp only [List.length_nil] at h1
      omega
    rw [deepest_snoc] at hle
    simp only at hle
    obtain ⟨Z, hZ⟩ : ∃ Z, Z = deepest 0 pre := ⟨_, rfl⟩
    obtain ⟨y, hy⟩ : ∃ y, y = p.length := ⟨_, rfl⟩
    have HN : Hid (deepest 0 (pre ++ [(p, u)]) = max Z (1 + y)) := Lib.hid (by rw [deepest_snoc, hZ, hy])
    rw [← hZ, ← hy] at hle
    rw [← hZ] at hbW
    rw [zip2]
    simp only [← hy]
    clear hseq hZ hy
    gi_wp2
    refine ⟨S, Mov.refl _ _, fun W2 hoff => ?_⟩
    have hb4 := hoff.blk hbW (by omega)
    have hc := hb4.cell 0
    have hf := hb4.frozen 0
    gi_wp2
    all_goals
      refine ⟨S, Mov.setCell _ _ _ hS, hS, ?_⟩
      rw [HN.out]
      first
        | (have e : max Z (1 + y) = 1 + y := by omega
           rw [e]
           simpa using hb4.set_ 0 (.int .i64 ((1 + y : Nat) : Int)))
        | (have e : max Z (1 + y) = Z := by omega
           rw [e]
           simpa using hb4.set_ 0 (.int .i64 (Z : Int)))
  case done =>
    rintro S1 W hm _ ⟨hS, hbW⟩ hD
    have hc := hbW.cell 0
    have e : deepest 0 (walk [] t) = depth t := by rw [deepest_walk]; simp
    rw [e] at hc
    clear hseq
    go_wp2
    refine ⟨by simp, .inl ⟨_, _, rfl, run_takeDeferred hD, ?_⟩⟩
    exact ⟨_, results_tmp rfl _ _ _, rfl, hm.ends hb3 (fun b hb => by omega) _⟩
  case stop =>
    rintro c pre S W hm _ hp h
    exact h.elim
end Go.Proofs.YthhhgakeeekalaaDoor

/-
  slices.Clone at lists of integers.
-/
namespace Go.Proofs.YthhhgakeeekalaaDoor
open Go.RowKit WM TR

/-- What Clone leaves: a row of its own. -/
def ClonePost (p : List Int) (w : World) (e : Ending) (w' : World) : Prop :=
  ∃ A' c', e = .returned (.slice A' p.length c') ∧ p.length ≤ c' ∧ w'.ownsRow w.heap.size 3 1 (.slice A' p.length c') p.length (vi p) ∧ Below w.heap.size w w'

set_option maxRecDepth 100000 in
set_option maxHeartbeats 1000000 in
theorem cloneInts_is (p : List Int) (S : Nat → Prop) (A : Option Addr) (c : Nat) (w : World) (hp : Rd w S 1 A p.length (vi p)) (hin : In S w.heap.size) (hl : p.length ≤ 1000000) :
    Calls Tryd.prog 83 #[.slice A p.length c] w (ClonePost p w) := by
  obtain ⟨i0, hi, hz0, hz1, hz2⟩ := info_parts ps_int_info
  obtain ⟨n, hn⟩ : ∃ n, n = p.length := ⟨_, rfl⟩
  have HN := Lib.hid hn
  have HP := Lib.hid hp
  have HI := Lib.hid hin
  rw [← hn] at hl ⊢
  clear hn hp hin
  cases A with
  | none =>
    have h0 : n = 0 := by
      rcases Nat.eq_zero_or_pos n with h | h
      · exact h
      · obtain ⟨ad, e, _⟩ := HP.out.2 (by rw [← HN.out]; exact h)
        cases e
    have hp0 : p = [] := List.eq_nil_of_length_eq_zero (by rw [← HN.out]; exact h0)
    subst h0
    subst hp0
    have hq : ∀ W : World, (binOp BinOp.eql 22 (.slice none 0 c) (.slice none 0 0)).run Tryd.prog W = .ok (.bool true) W := fun W => by kernel_rfl
    clear HN HP
    go_enter Tryd.func83, Tryd.ntmps83
    go_wp2
    go_ret
    exact ⟨none, 0, rfl, Nat.le_refl _, World.ownsRow_nil _ _ _ _, Below.refl _ _⟩
  | some ad =>
    have hq : ∀ W : World, (binOp BinOp.eql 22 (.slice (some ad) n c) (.slice none 0 0)).run Tryd.prog W = .ok (.bool false) W := fun W => by kernel_rfl
    go_enter Tryd.func83, Tryd.ntmps83
    go_wp2_with (at_builtin; refine wpList_append_any _ rfl (.tmp 5) (.tmp 6) 22 rfl w.heap.size 3 i0 _ 1 8 Tryd.underlying22 hi hz0 hz1 hz2 rfl (by omega) _ 0 [] rfl (own_lit (xs := []) (n := 0) (Nat.le_refl _) rfl (len_le (by omega))) _ (some ad) n c (vi p) rfl (by rw [HN.out]; exact (HP.out.keep (Keeps.below HI.out (below_new w _))).reads (HI.out.more (below_new w (.cells #[] 3)).size)) (vi_one p) (len_le (by omega)) (by omega) (by simp) ?_; intro v7 w7 hown7 hgrow7 _; obtain ⟨A7, c7, hv7, hcap7⟩ := own_len hown7; rw [Nat.zero_add] at hv7 hcap7; subst hv7; have HO7 := Lib.hid hown7; have HB7 : Hid (Below w.heap.size w w7) := Lib.hid (below_grown hgrow7 (fun b hb => Nat.le_of_eq (Option.some.inj hb))); clear hown7 hgrow7)
    go_ret
    refine ⟨A7, c7, by rw [HN.out]; rfl, by rw [← HN.out]; exact hcap7, ?_, HB7.out⟩
    have h := HO7.out
    rw [Nat.zero_add, List.nil_append] at h
    rw [← HN.out]
    exact h
end Go.Proofs.YthhhgakeeekalaaDoor
