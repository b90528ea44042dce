/-
  The order of trees: the mathematics of the law.
-/
import Derived.Test.YtojicjdlopbeiaaDoorG26
set_option linter.unusedVariables false
namespace Go.Proofs.YtojicjdlopbeiaaDoor.TR
theorem firstN_cons (x : Int) (l : List Int) : firstN (x :: l) = if x = 0 then firstN l else x := rfl
theorem firstN_neg : ∀ l : List Int, firstN (l.map fun x => -x) = -firstN l
  | [] => rfl
  | x :: l => by
    rw [List.map_cons, firstN_cons, firstN_cons, firstN_neg l]
    by_cases h : x = 0
    · rw [if_pos h, if_pos (by omega)]
    · rw [if_neg h, if_neg (by omega)]
theorem sg_neg (a b : Int) : sg b a = -sg a b := by unfold sg; split <;> split <;> (try split) <;> omega
theorem zip_neg : ∀ l k : List T, (∀ a ∈ l, ∀ b, cmp b a = -cmp a b) → List.zipWith cmp k l = (List.zipWith cmp l k).map fun x => -x
  | [], k, _ => by cases k <;> rfl
  | a :: l, [], _ => rfl
  | a :: l, b :: k, h => by
    rw [List.zipWith_cons_cons, List.zipWith_cons_cons, List.map_cons, zip_neg l k (fun x hx => h x (List.mem_cons_of_mem _ hx)), h a (List.mem_cons_self ..) b]
theorem cmp_neg (t : T) : ∀ u, cmp u t = -cmp t u := by
  induction h : SizeOf.sizeOf t using Nat.strongRecOn generalizing t with
  | ind s ih =>
    subst h
    intro u
    rw [cmp_eq, cmp_eq t u, zip_neg t.kids u.kids (fun a ha b => ih _ (kid_lt ha) a rfl b), sg_neg t.k u.k, sg_neg t.n u.n, sg_neg t.m u.m, sg_neg (t.kids.length : Int) (u.kids.length : Int), ← firstN_neg]
    simp
/-- What three comparisons of three things obey. -/
def Tri (x y z : Int) : Prop := (x ≤ 0 → y ≤ 0 → z ≤ 0 ∧ (z = 0 → x = 0 ∧ y = 0)) ∧ (x = 0 → y = 0 → z = 0)
theorem Tri.sg (a b c : Int) : Tri (TR.sg a b) (TR.sg b c) (TR.sg a c) := by
  unfold Tri TR.sg
  constructor
  · split <;> split <;> split <;> (try split) <;> (try split) <;> (try split) <;> omega
  · split <;> split <;> split <;> (try split) <;> (try split) <;> (try split) <;> omega
theorem Tri.cons {x y z x' y' z' : Int} (h : Tri x y z) (h' : Tri x' y' z') : Tri (if x = 0 then x' else x) (if y = 0 then y' else y) (if z = 0 then z' else z) := by
  obtain ⟨h1, h2⟩ := h
  obtain ⟨h3, h4⟩ := h'
  by_cases hx : x = 0
  · by_cases hy : y = 0
    · rw [if_pos hx, if_pos hy, if_pos (h2 hx hy)]
      exact ⟨h3, h4⟩
    · rw [if_pos hx, if_neg hy]
      refine ⟨fun _ hy2 => ?_, fun _ e => absurd e hy⟩
      obtain ⟨e1, e2⟩ := h1 (by omega) hy2
      have hz : z ≠ 0 := fun e => hy (e2 e).2
      rw [if_neg hz]
      exact ⟨e1, fun e => absurd e hz⟩
  · rw [if_neg hx]
    refine ⟨fun hx2 hy2 => ?_, fun e => absurd e hx⟩
    have hy3 : y ≤ 0 := by
      by_cases hy : y = 0
      · omega
      · rw [if_neg hy] at hy2; exact hy2
    obtain ⟨e1, e2⟩ := h1 hx2 hy3
    have hz : z ≠ 0 := fun e => hx (e2 e).1
    rw [if_neg hz]
    exact ⟨e1, fun e => absurd e hz⟩
/-- Lists of trees, compared. -/
def kidsC (l k : List T) : Int := firstN (List.zipWith cmp l k ++ [sg (l.length : Int) (k.length : Int)])
theorem firstN_one (x : Int) : firstN [x] = x := by
  rw [firstN_cons]
  by_cases h : x = 0
  · rw [if_pos h, h]; rfl
  · rw [if_neg h]
theorem kidsC_nil (k : List T) : kidsC [] k = sg 0 (k.length : Int) := by
  unfold kidsC
  rw [List.zipWith_nil_left, List.nil_append, firstN_one]
  rfl
theorem kidsC_end (l : List T) : kidsC l [] = sg (l.length : Int) 0 := by
  unfold kidsC
  rw [List.zipWith_nil_right, List.nil_append, firstN_one]
  rfl
theorem kidsC_cons (a b : T) (l k : List T) : kidsC (a :: l) (b :: k) = if cmp a b = 0 then kidsC l k else cmp a b := by
  unfold kidsC
  rw [List.zipWith_cons_cons, List.cons_append, firstN_cons]
  have : sg ((a :: l).length : Int) ((b :: k).length : Int) = sg (l.length : Int) (k.length : Int) := by
    simp only [List.length_cons, sg]
    split <;> split <;> (try split) <;> (try split) <;> omega
  rw [this]
theorem cmp_kids (t u : T) : cmp t u = if sg t.k u.k = 0 then (if sg t.n u.n = 0 then (if sg t.m u.m = 0 then kidsC t.kids u.kids else sg t.m u.m) else sg t.n u.n) else sg t.k u.k := by
  rw [cmp_eq, firstN_cons, firstN_cons, firstN_cons]
  rfl
theorem Tri.kids : ∀ l : List T, (∀ a ∈ l, ∀ u v, Tri (cmp a u) (cmp u v) (cmp a v)) → ∀ k m, Tri (kidsC l k) (kidsC k m) (kidsC l m)
  | [], _, [], m => by
    rw [kidsC_nil, kidsC_nil]
    exact Tri.sg 0 0 _
  | [], _, b :: k, [] => by
    rw [kidsC_nil, kidsC_end, kidsC_nil]
    exact Tri.sg 0 _ 0
  | [], _, b :: k, c :: m => by
    rw [kidsC_nil, kidsC_nil]
    have h1 : TR.sg 0 ((b :: k).length : Int) = -1 := by unfold TR.sg; rw [if_pos (by simp only [List.length_cons]; omega)]
    have h2 : TR.sg 0 ((c :: m).length : Int) = -1 := by unfold TR.sg; rw [if_pos (by simp only [List.length_cons]; omega)]
    rw [h1, h2]
    exact ⟨fun _ _ => ⟨by omega, fun e => by omega⟩, fun e => by omega⟩
  | a :: l, _, [], m => by
    rw [kidsC_end]
    have h1 : TR.sg ((a :: l).length : Int) 0 = 1 := by unfold TR.sg; rw [if_neg (by omega), if_pos (by simp only [List.length_cons]; omega)]
    rw [h1]
    exact ⟨fun e => by omega, fun e => by omega⟩
  | a :: l, _, b :: k, [] => by
    rw [kidsC_end (b :: k)]
    have h1 : TR.sg ((b :: k).length : Int) 0 = 1 := by unfold TR.sg; rw [if_neg (by omega), if_pos (by simp only [List.length_cons]; omega)]
    rw [h1]
    exact ⟨fun _ e => by omega, fun _ e => by omega⟩
  | a :: l, h, b :: k, c :: m => by
    rw [kidsC_cons, kidsC_cons, kidsC_cons]
    exact (h a (List.mem_cons_self ..) b c).cons (Tri.kids l (fun x hx => h x (List.mem_cons_of_mem _ hx)) k m)
theorem cmp_tri (t : T) : ∀ u v, Tri (cmp t u) (cmp u v) (cmp t v) := by
  induction h : SizeOf.sizeOf t using Nat.strongRecOn generalizing t with
  | ind s ih =>
    subst h
    intro u v
    rw [cmp_kids t u, cmp_kids u v, cmp_kids t v]
    exact (Tri.sg _ _ _).cons ((Tri.sg _ _ _).cons ((Tri.sg _ _ _).cons (Tri.kids _ (fun a ha u v => ih _ (kid_lt ha) a rfl u v) _ _)))
theorem cmp_trans {t u v : T} (h : cmp t u ≤ 0) (h' : cmp u v ≤ 0) : cmp t v ≤ 0 := ((cmp_tri t u v).1 h h').1
theorem kidsC_self : ∀ l : List T, kidsC l l = 0
  | [] => by rw [kidsC_nil]; rfl
  | a :: l => by rw [kidsC_cons, if_pos (cmp_self a), kidsC_self l]
theorem kidsC_set (v w : T) : ∀ (l : List T) (i : Nat), i < l.length → kidsC (l.set i v) (l.set i w) = cmp v w
  | [], i, h => by simp at h
  | a :: l, 0, _ => by
    rw [List.set_cons_zero, List.set_cons_zero, kidsC_cons, kidsC_self]
    by_cases h : cmp v w = 0
    · rw [if_pos h, h]
    · rw [if_neg h]
  | a :: l, i + 1, h => by
    rw [List.set_cons_succ, List.set_cons_succ, kidsC_cons, if_pos (cmp_self a), kidsC_set v w l i (by simpa using h)]
/-- Trees that differ at one place are ordered as what stands there. -/
theorem cmp_set (c b : T) : ∀ (p : List Int) (t P Q : T), set? p t c = some P → set? p t b = some Q → cmp P Q = cmp c b
  | [], t, P, Q, h, h' => by
    simp only [set?, Option.some.injEq] at h h'
    rw [← h, ← h']
  | i :: p, t, P, Q, h, h' => by
    obtain ⟨u, v, hi, hu, hv, rfl⟩ := set_cons.1 h
    obtain ⟨u', v', _, hu', hv', rfl⟩ := set_cons.1 h'
    rw [hu] at hu'
    cases hu'
    rw [cmp_kids]
    simp only [sg_zero.2, if_true]
    rw [kidsC_set v v' _ _ (List.getElem?_eq_some_iff.1 hu).1]
    exact cmp_set c b p u v v' hv hv'
end Go.Proofs.YtojicjdlopbeiaaDoor.TR
