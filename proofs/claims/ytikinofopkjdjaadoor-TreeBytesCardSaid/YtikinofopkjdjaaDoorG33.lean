/-
  The program's Depth.
-/
import Derived.Test.YtikinofopkjdjaaDoorG22
set_option linter.unusedVariables false
namespace Go.Proofs.YtikinofopkjdjaaDoor
open Go.RowKit Go.Shelf WM TR
attribute [local go_sem] Oper.semAt_some

/-- The depth of what has come. -/
def deepest (a : Nat) (pre : List (List Int × T)) : Nat := pre.foldl (fun a x => max a (1 + x.1.length)) a
theorem deepest_snoc (a : Nat) (pre : List (List Int × T)) (x : List Int × T) : deepest a (pre ++ [x]) = max (deepest a pre) (1 + x.1.length) := by
  simp [deepest, List.foldl_append]
theorem deepest_walk (p : List Int) (t : T) (a : Nat) : deepest a (walk p t) = max a (p.length + depth t) := by
  induction h : SizeOf.sizeOf t using Nat.strongRecOn generalizing p t a with
  | ind n ih =>
    subst h
    have hj : ∀ (a' : Nat) j, j ≤ t.kids.length → p.length + 1 ≤ a' → deepest a' (walks p t.kids j) = max a' (p.length + 1 + depths t.kids j) := by
      intro a' j
      induction j with
      | zero =>
        intro _ h
        have : depths t.kids 0 = 0 := rfl
        rw [walks_zero, this]
        show a' = _
        omega
      | succ j ihj =>
        intro hj ha
        obtain ⟨u, hu⟩ : ∃ u, t.kids[j]? = some u := ⟨_, List.getElem?_eq_getElem (by omega)⟩
        have h1 : deepest a' (walks p t.kids j ++ walk (p ++ [(j : Int)]) u) = deepest (deepest a' (walks p t.kids j)) (walk (p ++ [(j : Int)]) u) := by simp [deepest, List.foldl_append]
        rw [walks_next hu, h1, ihj (by omega) ha, ih _ (kid_lt (List.mem_of_getElem? hu)) _ u _ rfl, depths_next hu, List.length_append, List.length_singleton]
        omega
    rw [walk_walks]
    have h1 : deepest a ((p, t) :: walks p t.kids t.kids.length) = deepest (max a (1 + p.length)) (walks p t.kids t.kids.length) := rfl
    rw [h1, hj _ _ (Nat.le_refl _) (by omega), depth_kids]
    omega
theorem deepest_le {a : Nat} {pre xs : List (List Int × T)} (h : pre <+: xs) : deepest a pre ≤ deepest a xs := by
  obtain ⟨q, rfl⟩ := h
  have : ∀ (q : List (List Int × T)) (b : Nat), b ≤ deepest b q := by
    intro q
    induction q with
    | nil => intro b; exact Nat.le_refl b
    | cons x q ih => intro b; exact Nat.le_trans (Nat.le_max_left _ _) (ih (max b (1 + x.1.length)))
  have h1 : deepest a (pre ++ q) = deepest (deepest a pre) q := by simp [deepest, List.foldl_append]
  rw [h1]
  exact this q _

set_option maxRecDepth 100000 in
set_option maxHeartbeats 2000000 in
theorem depth_is (d : Nat) (t : T) (S : Nat → Prop) (A : Option Addr) (c : Nat) (w : World) (h : Rep w S d t (nd t A c)) (hin : In S w.heap.size) (hs : size t ≤ 1000000) :
    Calls Tryd.prog 55 #[.agg #[.int .i64 t.k, .int .i64 t.n, .int .i64 t.m, .slice A t.kids.length c]] w fun e w' => e = .returned (.int .i64 (depth t : Int)) ∧ Below w.heap.size w w' := by
  refine (callsIn_wide (n := 9)).1 ?_
  refine callsIn_of_wp_marks Tryd.func55 rfl trivial ?_ rfl
  simp only [Tryd.ntmps55, List.size_toArray, List.length_cons, List.length_nil, Nat.reduceAdd, Nat.reduceSub, Array.replicate_succ, Array.replicate_zero, List.push_toArray, List.append_toArray, List.nil_append, List.cons_append]
  refine wpIn_wide.2 ?_
  go_wp2_with (go_at_call 45; refine (places_is _ _ _ _ _ _ _).mono ?_; rintro e w3 ⟨rfl, hw3⟩)
  obtain ⟨W2, hW2⟩ : ∃ W2, W2 = (w.alloc (.cells #[.int .i64 t.k, .int .i64 t.n, .int .i64 t.m, .slice A t.kids.length c] 26)).alloc (.cells #[.int .i64 0] 3) := ⟨_, rfl⟩
  rw [← hW2]
  rw [← hW2] at hw3
  have hz2 : W2.heap.size = w.heap.size + 2 := by rw [hW2, size_alloc, size_alloc]
  have hb2 : Below w.heap.size w W2 := by rw [hW2]; exact ba (below_new _ _) _
  have hbk : Blk W2 (w.heap.size + 1) 3 #[.int .i64 0] := by rw [hW2]; exact Blk.new_at _ _ (by rw [size_alloc]) rfl
  have hz3 : w3.heap.size = w.heap.size + 3 := by rw [hw3, size_alloc, hz2]
  have hb3 : Below w.heap.size w w3 := by rw [hw3]; exact ba hb2 _
  have hseq := iter_is (9 - 1) d (w.heap.size + 2) t A c S w3 (h.later hin hb3) (by rw [hw3]; exact Blk.new_at _ _ hz2.symm rfl) (hin.more hb3.size) hs
  have hbk3 : Blk w3 (w.heap.size + 1) 3 #[.int .i64 0] := by rw [hw3]; exact hbk.alloc _
  rw [← hw3]
  have hdt := depth_le_size t
  clear hbk
  refine (wpIn_wide (n := 9)).1 ?_
  refine wpIn_range_T (w := w3) rfl (by omega) (gf := 84) (lb := #[.pointer (some ⟨w.heap.size + 2, 0, none⟩)]) rfl trivial (enters_of Tryd.func84 (by kernel_rfl) rfl) hseq (Below.refl _ _) (fun x vs S W hx => hx.size2)
    (fun b hb => hb.elim (fun h => hin.more hb3.size b h) (fun h => by omega))
    (fun pre S W => S (w.heap.size + 1) ∧ Blk W (w.heap.size + 1) 3 #[.int .i64 (deepest 0 pre : Int)]) (fun _ _ _ _ => False)
    (fun pre S W W' hI hst => ⟨hI.1, hst.blk hI.2 hI.1⟩) (fun _ _ _ _ _ h _ => h)
    (fun b => b = w.heap.size + 1) (fun b hb => ⟨by omega, fun h => h.elim (fun h => by have := hin b h; omega) (fun h => by omega)⟩) ⟨rfl, hbk3⟩ ?round ?done ?stop
  case round =>
    rintro pre ⟨p, u⟩ vs S W ⟨hS, hbW⟩ hpre ⟨A1, c1, B1, d1, k1, rfl, _⟩ hm hlt hn1 hn2
    have hle : deepest 0 (pre ++ [(p, u)]) ≤ 1000000 := by
      have h1 := deepest_le (a := 0) hpre
      rw [deepest_walk] at h1
      simp only [List.length_nil] at h1
      omega
    rw [deepest_snoc] at hle
    simp only at hle
    obtain ⟨Z, hZ⟩ : ∃ Z, Z = deepest 0 pre := ⟨_, rfl⟩
    obtain ⟨y, hy⟩ : ∃ y, y = p.length := ⟨_, rfl⟩
    have HN : Hid (deepest 0 (pre ++ [(p, u)]) = max Z (1 + y)) := Lib.hid (by rw [deepest_snoc, hZ, hy])
    rw [← hZ, ← hy] at hle
    rw [← hZ] at hbW
    rw [zip2]
    simp only [← hy]
    clear hseq hZ hy
    gi_wp2
    refine ⟨S, Mov.refl _ _, fun W2 hoff => ?_⟩
    have hb4 := hoff.blk hbW (by omega)
    have hc := hb4.cell 0
    have hf := hb4.frozen 0
    gi_wp2
    all_goals
      refine ⟨S, Mov.setCell _ _ _ hS, hS, ?_⟩
      rw [HN.out]
      first
        | (have e : max Z (1 + y) = 1 + y := by omega
           rw [e]
           simpa using hb4.set_ 0 (.int .i64 ((1 + y : Nat) : Int)))
        | (have e : max Z (1 + y) = Z := by omega
           rw [e]
           simpa using hb4.set_ 0 (.int .i64 (Z : Int)))
  case done =>
    rintro S1 W hm _ ⟨hS, hbW⟩ hD
    have hc := hbW.cell 0
    have e : deepest 0 (walk [] t) = depth t := by rw [deepest_walk]; simp
    rw [e] at hc
    clear hseq
    go_wp2
    refine ⟨by simp, .inl ⟨_, _, rfl, run_takeDeferred hD, ?_⟩⟩
    exact ⟨_, results_tmp rfl _ _ _, rfl, hm.ends hb3 (fun b hb => by omega) _⟩
  case stop =>
    rintro c pre S W hm _ hp h
    exact h.elim
end Go.Proofs.YtikinofopkjdjaaDoor
