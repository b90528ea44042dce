/-
  Bytes of trees, plain mathematics: what is read back, what is no tree, which bytes are the same.
-/
import Derived.Test.YtikinofopkjdjaaDoorG19
import Derived.Test.YtikinofopkjdjaaDoorG24
set_option linter.unusedVariables false
namespace Go.Proofs.YtikinofopkjdjaaDoor.TR
open WM
/-- All numbers of a tree are integers of the machine. -/
inductive Ok : T → Prop
  | mk (t : T) : inRange t.k → inRange t.n → inRange t.m → t.kids.length ≤ 1000000 → (∀ u, u ∈ t.kids → Ok u) → Ok t
theorem Ok.facts {t : T} (h : Ok t) : inRange t.k ∧ inRange t.n ∧ inRange t.m ∧ t.kids.length ≤ 1000000 ∧ ∀ u ∈ t.kids, Ok u := by
  cases h with
  | mk _ h1 h2 h3 h4 h5 => exact ⟨h1, h2, h3, h4, h5⟩
theorem enc4_len : (enc ((4 : Nat) : Int)).length = 2 := by decide +kernel
theorem head_len {t : T} (h : Ok t) : 6 ≤ (headB t).length ∧ (headB t).length ≤ 45 := by
  obtain ⟨h1, h2, h3, h4, _⟩ := h.facts
  have h0 := headB_len h1 h2 h3 h4
  have e1 := enc_len h1
  have e2 := enc_len h2
  have e3 := enc_len h3
  have e4 := enc_len (n := (t.kids.length : Int)) ⟨by omega, by omega⟩
  have e5 := enc4_len
  have e : (headB t).length = (enc ((4 : Nat) : Int)).length + ((enc t.k).length + ((enc t.n).length + ((enc t.m).length + (enc (t.kids.length : Int)).length))) := by
    unfold headB encL; simp
  exact ⟨by omega, h0.2⟩
theorem head_read {t : T} (h : Ok t) (r : List UInt8) : gElems 1 gInt (headB t ++ r) = .ok [t.k, t.n, t.m, (t.kids.length : Int)] (headB t).length := by
  obtain ⟨h1, h2, h3, h4, _⟩ := h.facts
  have hr : ∀ x ∈ [t.k, t.n, t.m, (t.kids.length : Int)], inRange x := by
    intro x hx
    simp only [List.mem_cons, List.not_mem_nil, or_false] at hx
    rcases hx with rfl | rfl | rfl | rfl
    · exact h1
    · exact h2
    · exact h3
    · exact ⟨by omega, by omega⟩
  exact gElems_enc (e := enc) (by omega) (by simp) (fun x hx => (enc_len (hr x hx)).1) (fun x hx t => gInt_enc (hr x hx) t) r
theorem encT_len {t : T} (h : Ok t) : 6 ≤ (encT t).length := by
  have := (head_len h).1
  rw [encT_eq, List.length_append]; omega
theorem flat_six : ∀ l : List T, (∀ u ∈ l, Ok u) → 6 * l.length ≤ ((l.map encT).flatten).length
  | [], _ => by simp
  | u :: l, h => by
    have h1 := encT_len (h u (List.mem_cons_self ..))
    have h2 := flat_six l fun v hv => h v (List.mem_cons_of_mem _ hv)
    simp only [List.length_cons, List.map_cons, List.flatten_cons, List.length_append]; omega
theorem many_read (f : List UInt8 → Option (T × Nat)) (l : List UInt8) : ∀ (ts : List T) (u : Nat) (r : List UInt8), (∀ t ∈ ts, ∀ q, f (encT t ++ q) = some (t, (encT t).length)) → l.drop u = (ts.map encT).flatten ++ r →
    manyD f l ts.length u = some (ts, u + ((ts.map encT).flatten).length)
  | [], u, r, _, _ => by simp [manyD]
  | t :: ts, u, r, h, hd => by
    have h1 : f (l.drop u) = some (t, (encT t).length) := by
      rw [hd, List.map_cons, List.flatten_cons, List.append_assoc]
      exact h t (List.mem_cons_self ..) _
    have h2 : l.drop (u + (encT t).length) = (ts.map encT).flatten ++ r := by
      rw [← List.drop_drop, hd, List.map_cons, List.flatten_cons, List.append_assoc, List.drop_left]
    have h3 := many_read f l ts (u + (encT t).length) r (fun v hv => h v (List.mem_cons_of_mem _ hv)) h2
    simp only [List.length_cons, manyD, h1, h3]
    simp [Nat.add_assoc]
/-- What was written is read, whatever follows. -/
theorem dec_enc : ∀ (d : Nat) (t : T) (r : List UInt8), Ok t → depth t ≤ d → decD d (encT t ++ r) = some (t, (encT t).length)
  | 0, t, r, _, h => by rw [depth_eq] at h; omega
  | d + 1, t, r, hok, hd => by
    have hk := hok.facts.2.2.2.2
    have hih : ∀ u ∈ t.kids, ∀ q, decD d (encT u ++ q) = some (u, (encT u).length) := fun u hu q => dec_enc d u q (hk u hu) (by
      obtain ⟨i, hi⟩ := List.mem_iff_getElem?.1 hu
      have := depth_kid hi
      omega)
    have hl : encT t ++ r = headB t ++ ((t.kids.map encT).flatten ++ r) := by rw [encT_eq, List.append_assoc]
    have hm := many_read (decD d) (encT t ++ r) t.kids (headB t).length r hih (by rw [hl, List.drop_left])
    have h6 := flat_six t.kids hk
    simp only [decD]
    rw [hl, head_read hok, ← hl]
    simp only
    rw [bodyD_four, if_neg, Int.toNat_natCast, hm]
    · simp only [encT_eq t, List.length_append]; cases t; rfl
    · rw [hl]
      simp only [List.length_append]
      omega
set_option maxRecDepth 100000 in
/-- What has been read is what would be written. -/
theorem dec_sound : ∀ (d : Nat) (l : List UInt8) (t : T) (u : Nat), l.length ≤ 1000000 → decD d l = some (t, u) → ∃ r, l = encT t ++ r ∧ u = (encT t).length ∧ Ok t ∧ depth t ≤ d
  | 0, l, t, u, _, h => by simp [decD] at h
  | d + 1, l, t, u, hl, h => by
    simp only [decD] at h
    cases hg : gElems 1 gInt l with
    | more => rw [hg] at h; cases h
    | form => rw [hg] at h; cases h
    | ok xs k =>
      rw [hg] at h
      simp only at h
      obtain ⟨_, r, hr, hk⟩ := gElems_ok (e := enc) (by omega) (fun l x u h => by obtain ⟨_, t, h1, h2⟩ := gInt_ok h; exact ⟨t, h1, h2⟩) hg
      have hin := (gElems_le hg).2
      rcases xs with _ | ⟨a, _ | ⟨b, _ | ⟨c, _ | ⟨q, _ | ⟨z, zs⟩⟩⟩⟩⟩
      · cases h
      · cases h
      · cases h
      · cases h
      · rw [bodyD_four] at h
        split at h
        · cases h
        · rename_i hq
          cases hm : manyD (decD d) l q.toNat k with
          | none => rw [hm] at h; cases h
          | some y =>
            obtain ⟨ts, v⟩ := y
            rw [hm] at h
            simp only [Option.some.injEq, Prod.mk.injEq] at h
            obtain ⟨rfl, rfl⟩ := h
            have hq0 : 0 ≤ q := by omega
            have hq1 : q ≤ 1000000 := by omega
            have hsound : ∀ (l' : List UInt8) (t : T) (u : Nat), l'.length ≤ 1000000 → decD d l' = some (t, u) → ∃ r, l' = encT t ++ r ∧ u = (encT t).length ∧ (Ok t ∧ depth t ≤ d) := fun l' t u hl' h' => by
              obtain ⟨r, h1, h2, h3, h4⟩ := dec_sound d l' t u hl' h'
              exact ⟨r, h1, h2, h3, h4⟩
            have hms : ts.length = q.toNat ∧ v = k + ((ts.map encT).flatten).length ∧ (∀ t ∈ ts, Ok t ∧ depth t ≤ d) ∧ ∃ r, l.drop k = (ts.map encT).flatten ++ r := by
              clear hq hg hk hr hin
              revert hm
              generalize q.toNat = c'
              intro hm
              have key : ∀ (c u : Nat) (ts : List T) (v : Nat), manyD (decD d) l c u = some (ts, v) → ts.length = c ∧ v = u + ((ts.map encT).flatten).length ∧ (∀ t ∈ ts, Ok t ∧ depth t ≤ d) ∧ ∃ r, l.drop u = (ts.map encT).flatten ++ r := by
                intro c
                induction c with
                | zero =>
                  intro u ts v h
                  simp only [manyD, Option.some.injEq, Prod.mk.injEq] at h
                  obtain ⟨rfl, rfl⟩ := h
                  exact ⟨rfl, by simp, by simp, l.drop u, by simp⟩
                | succ c ihc =>
                  intro u ts v h
                  simp only [manyD] at h
                  cases hx : decD d (l.drop u) with
                  | none => rw [hx] at h; cases h
                  | some x =>
                    obtain ⟨t, k2⟩ := x
                    rw [hx] at h
                    simp only at h
                    obtain ⟨r, hr, hk2, hot⟩ := hsound _ _ _ (by rw [List.length_drop]; omega) hx
                    cases hy : manyD (decD d) l c (u + k2) with
                    | none => rw [hy] at h; cases h
                    | some y =>
                      obtain ⟨rs, v'⟩ := y
                      rw [hy] at h
                      simp only [Option.some.injEq, Prod.mk.injEq] at h
                      obtain ⟨rfl, rfl⟩ := h
                      obtain ⟨h1, h2, h3, r2, h4⟩ := ihc (u + k2) rs v' hy
                      refine ⟨by simp [h1], by rw [h2, hk2]; simp [Nat.add_assoc], fun t' ht' => ?_, r2, ?_⟩
                      · rcases List.mem_cons.1 ht' with rfl | ht'
                        · exact hot
                        · exact h3 t' ht'
                      · rw [hr, List.map_cons, List.flatten_cons, List.append_assoc, ← h4, ← List.drop_drop, hr, hk2, List.drop_left]
              exact key _ _ _ _ hm
            obtain ⟨h1, h2, h3, r2, h4⟩ := hms
            have hlen : (ts.length : Int) = q := by omega
            have hhead : encL enc [a, b, c, q] = headB ⟨a, b, c, ts⟩ := by unfold headB; simp only [hlen]
            refine ⟨r2, ?_, ?_, ?_, ?_⟩
            · rw [encT_eq, ← hhead, List.append_assoc, ← h4, hr, hk, List.drop_left]
            · rw [h2, encT_eq, List.length_append, ← hhead, hk]
            · exact .mk _ (hin a (by simp)) (hin b (by simp)) (hin c (by simp)) (by show ts.length ≤ _; omega) fun u hu => (h3 u hu).1
            · have hk : ∀ m : Nat, (∀ u ∈ ts, depth u ≤ m) → (ts.map depth).foldr max 0 ≤ m := fun m h => foldr_le ts h
              have := hk d fun u hu => (h3 u hu).2
              rw [depth_eq]; exact Nat.succ_le_succ this
      · cases h
/-- No proper beginning is read. -/
theorem dec_cut {d : Nat} {t : T} {p q : List UInt8} (h : Ok t) (hd : depth t ≤ d) (hp : p ++ q = encT t) (hq : q ≠ []) (hl : p.length ≤ 1000000) : decD d p = none := by
  cases hx : decD d p with
  | none => rfl
  | some x =>
    obtain ⟨t', u⟩ := x
    obtain ⟨r, hr, hu, hok, hdt⟩ := dec_sound d p t' u hl hx
    have h1 := dec_enc d t [] h hd
    rw [List.append_nil, ← hp, hr, List.append_assoc, dec_enc d t' (r ++ q) hok hdt] at h1
    simp only [Option.some.injEq, Prod.mk.injEq] at h1
    have h2 := h1.2
    have h3 : q.length ≠ 0 := fun e => hq (List.eq_nil_of_length_eq_zero e)
    have h4 := congrArg List.length hp
    have h5 := congrArg List.length hr
    simp only [List.length_append] at h4 h5
    simp only [List.length_append] at h2
    omega
/-- Equal bytes, equal trees. -/
theorem enc_inj {t u : T} (ht : Ok t) (hu : Ok u) (h : encT t = encT u) : t = u := by
  have h1 := dec_enc (max (depth t) (depth u)) t [] ht (by omega)
  have h2 := dec_enc (max (depth t) (depth u)) u [] hu (by omega)
  rw [h, h2] at h1
  simp only [Option.some.injEq, Prod.mk.injEq] at h1
  exact h1.1.symm
end Go.Proofs.YtikinofopkjdjaaDoor.TR
namespace Go.Proofs.YtikinofopkjdjaaDoor
open Go.RowKit WM TR
theorem Rep.ok : ∀ {w : World} {S : Nat → Prop} {d : Nat} {t : T} {cs : List Value}, Rep w S d t cs → size t ≤ 1000000 → Ok t
  | _, _, 0, _, _, h, _ => h.elim
  | w, S, d + 1, t, _, ⟨A, c, xs, h1, h2, h3, h4, h5⟩, hs => .mk t h3.1 h3.2.1 h3.2.2 (by have := kids_lt t; omega) fun u hu => by
    obtain ⟨i, hi⟩ := List.mem_iff_getElem?.1 hu
    exact Rep.ok (h5 i u hi) (by have := size_kid hi; omega)
theorem encT_small : ∀ (t : T), Ok t → (encT t).length ≤ 45 * size t := by
  intro t
  induction h : SizeOf.sizeOf t using Nat.strongRecOn generalizing t with
  | ind n ih =>
    subst h
    intro hok
    have h1 := (head_len hok).2
    have hk := hok.facts.2.2.2.2
    have h2 : ∀ l : List T, (∀ u ∈ l, (encT u).length ≤ 45 * size u) → ((l.map encT).flatten).length ≤ 45 * (l.map size).sum := by
      intro l
      induction l with
      | nil => intro _; simp
      | cons u l ihl =>
        intro hl
        have a1 := hl u (List.mem_cons_self ..)
        have a2 := ihl fun v hv => hl v (List.mem_cons_of_mem _ hv)
        simp only [List.map_cons, List.flatten_cons, List.length_append, List.sum_cons]; omega
    have h3 := h2 t.kids fun u hu => ih _ (kid_lt hu) u rfl (hk u hu)
    rw [encT_eq, List.length_append, size_eq]
    omega
end Go.Proofs.YtikinofopkjdjaaDoor
