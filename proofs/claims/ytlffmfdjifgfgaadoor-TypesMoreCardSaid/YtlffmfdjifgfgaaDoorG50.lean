/-
  A fine program with more in it (a variable, a function, a channel) is fine. Plain mathematics.
-/
import Derived.Test.YtlffmfdjifgfgaaDoorG41
import Derived.Test.YtlffmfdjifgfgaaDoorG21
import Derived.Test.YtlffmfdjifgfgaaDoorG11
import Derived.Deep.RegionHeldLaw
import Derived.Test.YtlffmfdjifgfgaaDoorG10
import Derived.Test.YtlffmfdjifgfgaaDoorG07
import Derived.Deep.DeepCutAuto
import Derived.Test.YtlffmfdjifgfgaaDoorG46
set_option linter.unusedVariables false
namespace Go.Proofs.YtlffmfdjifgfgaaDoor.TY
open TR

/-- A scope with more in it. -/
structure Ext (s s' : Sc) : Prop where
  v : ∀ (i : Nat) (t : T), s.vars[i]? = some t → s'.vars[i]? = some t
  f : ∀ (i : Nat) (u : T), s.funs[i]? = some u → ∃ u', s'.funs[i]? = some u' ∧ u'.n = u.n ∧ u'.kids.take u.n.toNat = u.kids.take u.n.toNat
  c : s.ch ≤ s'.ch
theorem tAt_some {l : List T} {n : Int} {t : T} (h : l[n.toNat]? = some t) : tAt l n = t := by
  unfold tAt; rw [List.getD_eq_getElem?_getD, h]; rfl
theorem vars_ext {s s' : Sc} (h : Ext s s') {n : Int} (h0 : 0 ≤ n) (h1 : ¬ (s.vars.length : Int) ≤ n) : tAt s'.vars n = tAt s.vars n ∧ ¬ (s'.vars.length : Int) ≤ n := by
  have hlt : n.toNat < s.vars.length := by omega
  have e0 := List.getElem?_eq_getElem hlt
  have e := h.v n.toNat _ e0
  have e2 := (List.getElem?_eq_some_iff.1 e).1
  exact ⟨by rw [tAt_some e, tAt_some e0], by omega⟩
theorem funs_ext {s s' : Sc} (h : Ext s s') {n : Int} (h0 : 0 ≤ n) (h1 : ¬ (s.funs.length : Int) ≤ n) : (tAt s'.funs n).n = (tAt s.funs n).n ∧ TY.params s' n = TY.params s n ∧ ¬ (s'.funs.length : Int) ≤ n := by
  have hlt : n.toNat < s.funs.length := by omega
  have e0 := List.getElem?_eq_getElem hlt
  obtain ⟨u', e, e1, e3⟩ := h.f n.toNat _ e0
  have e2 := (List.getElem?_eq_some_iff.1 e).1
  refine ⟨by rw [tAt_some e, tAt_some e0, e1], ?_, by omega⟩
  unfold TY.params
  rw [tAt_some e, tAt_some e0, e1, e3]
theorem node_ext {s s' : Sc} (h : Ext s s') {x : T} (hn : NOk x) (hm : missing s x = false) (hu : misused s x = false) :
    missing s' x = false ∧ misused s' x = false ∧ typeOf s' x = typeOf s x ∧ wants s' x = wants s x := by
  by_cases hv : x.k = 6 ∨ x.k = 7 ∨ x.k = 14 ∨ x.k = 15 ∨ x.k = 21 ∨ x.k = 8 ∨ x.k = 16
  · have h0 := hn.n (by omega)
    have h1 : ¬ (s.vars.length : Int) ≤ x.n := by
      intro hc
      rcases hv with hk | hk | hk | hk | hk | hk | hk <;> simp [missing, hk] at hm <;> omega
    obtain ⟨e1, e2⟩ := vars_ext h h0 h1
    have em : missing s' x = missing s x := by rcases hv with hk | hk | hk | hk | hk | hk | hk <;> simp [missing, hk, e1, h1, e2]
    have eu : misused s' x = misused s x := by rcases hv with hk | hk | hk | hk | hk | hk | hk <;> simp [misused, hk, e1]
    have en : named s' x = named s x := by unfold named; rw [e1]
    refine ⟨by rw [em]; exact hm, by rw [eu]; exact hu, ?_, ?_⟩
    · unfold typeOf; rw [em, eu, en]
    · rcases hv with hk | hk | hk | hk | hk | hk | hk <;> simp [wants, hk, en]
  · by_cases hf : x.k = 11 ∨ x.k = 23
    · have h0 := hn.n (by omega)
      have h1 : ¬ (s.funs.length : Int) ≤ x.n := by
        intro hc
        rcases hf with hk | hk <;> simp [missing, hk] at hm <;> omega
      obtain ⟨e1, e2, e3⟩ := funs_ext h h0 h1
      refine ⟨by rcases hf with hk | hk <;> simp [missing, hk] <;> omega, ?_, by rcases hf with hk | hk <;> simp [typeOf, hk], by rcases hf with hk | hk <;> simp [wants, hk, e2]⟩
      rw [← hu]
      rcases hf with hk | hk <;> simp [misused, hk, e1]
    · have hmis : misused s' x = false := by
        unfold misused
        rw [if_neg (by omega), if_neg (by omega), if_neg (by omega), if_neg (by omega), if_neg (by omega)]
      have hty : typeOf s' x = typeOf s x := by
        unfold typeOf
        by_cases h5 : x.k = 5 ∨ x.k = 10
        · rw [if_pos h5, if_pos h5]
        · rw [if_neg h5, if_neg h5]
          by_cases h9 : x.k = 9
          · rw [if_pos h9, if_pos h9]
          · rw [if_neg h9, if_neg h9, if_neg (by omega), if_neg (by omega)]
      have hwa : wants s' x = wants s x := by
        have n1 : ¬ (x.k = 14 ∨ x.k = 16) := by omega
        have n2 : ¬ (x.k = 11 ∨ x.k = 23) := hf
        unfold wants
        simp only [n1, n2, if_false]
      refine ⟨?_, hmis, hty, hwa⟩
      unfold missing at hm ⊢
      rw [if_neg (by omega), if_neg (by omega), if_neg (by omega)] at hm ⊢
      by_cases hc : x.k = 12 ∨ x.k = 22
      · rw [if_pos hc] at hm ⊢
        have := h.c
        simp at hm ⊢
        omega
      · rw [if_neg hc]
theorem errOf_zero {s : Sc} {x : T} (h : errOf s x = 0) : missing s x = false ∧ misused s x = false ∧ fitB s x.kids (wants s x) = true := by
  unfold errOf at h
  cases hm : missing s x
  · cases hu : misused s x
    · cases hb : fitB s x.kids (wants s x)
      · simp [hm, hu, hb] at h
      · exact ⟨rfl, rfl, rfl⟩
    · simp [hm, hu] at h
  · simp [hm] at h
theorem errOf_of {s : Sc} {x : T} (h1 : missing s x = false) (h2 : misused s x = false) (h3 : fitB s x.kids (wants s x) = true) : errOf s x = 0 := by
  unfold errOf; simp [h1, h2, h3]
theorem zip_ext {s s' : Sc} : ∀ (l : List T) (ks : List Int), (∀ u ∈ l, typeOf s' u = typeOf s u) → List.zipWith (fit1 s') l ks = List.zipWith (fit1 s) l ks
  | [], _, _ => by simp
  | _ :: _, [], _ => by simp
  | u :: l, k :: ks, h => by
    rw [List.zipWith_cons_cons, List.zipWith_cons_cons, zip_ext l ks fun v hv => h v (List.mem_cons_of_mem _ hv)]
    unfold fit1
    rw [h u (List.mem_cons_self ..)]
theorem okW_ext {s s' : Sc} (h : Ext s s') (x : T) (hf : Fit x) (hx : okW s x) : okW s' x := by
  obtain ⟨h1, h2⟩ := (ok_iff s x).1 hx
  refine (ok_iff s' x).2 ⟨?_, fun u hu => okW_ext h u (hf.kids u hu) (h2 u hu)⟩
  obtain ⟨e1, e2, e3⟩ := errOf_zero h1
  obtain ⟨f1, f2, f3, f4⟩ := node_ext h (nok_of hf) e1 e2
  refine errOf_of f1 f2 ?_
  rw [f4]
  unfold fitB at e3 ⊢
  rw [zip_ext x.kids _ fun u hu => ?_]
  · exact e3
  · obtain ⟨g1, g2, _⟩ := errOf_zero ((ok_iff s u).1 (h2 u hu)).1
    exact (node_ext h (nok_of (hf.kids u hu)) g1 g2).2.2.1
  termination_by x
  decreasing_by exact kid_lt hu
end Go.Proofs.YtlffmfdjifgfgaaDoor.TY
namespace Go.Proofs.YtlffmfdjifgfgaaDoor
open TR TY

theorem chk_ofM {q : T} (hq : isProg q = true) (hk : ∀ v ∈ q.kids, okW (scO q v) v) : chk q = ([], 0) := by
  unfold chk; rw [if_pos hq]; exact chkL_ok _ _ _ hk
theorem okk_of {p : T} (hp : Fine p) : ∀ u ∈ p.kids, okW (scO p u) u := by
  have h := hp.chk
  unfold chk at h
  rw [if_pos hp.prog] at h
  exact okW_of_chkL p p.kids 0 h
/-- A function with a further variable. -/
def moreF (u t b : T) (vs : List T) : T := ⟨26, u.n, 0, (vs ++ [t]) ++ [b]⟩
theorem more_var {p u t b : T} {vs : List T} {k : Nat} (hp : Fine p) (hu : p.kids[k]? = some u) (hv : u.kids = vs ++ [b]) (ht : isType t = true) (hq : isProg ⟨p.k, p.n, p.m, p.kids.set k (moreF u t b vs)⟩ = true) : chk ⟨p.k, p.n, p.m, p.kids.set k (moreF u t b vs)⟩ = ([], 0) := by
  have hmem := List.mem_of_getElem? hu
  have hpk := prog_kid hp.prog hmem
  have hul : u.kids.length = vs.length + 1 := by rw [hv]; simp
  have hlt : k < p.kids.length := (List.getElem?_eq_some_iff.1 hu).1
  have hf : ∀ (i : Nat) (x : T), p.kids[i]? = some x → ∃ u', (p.kids.set k (moreF u t b vs))[i]? = some u' ∧ u'.n = x.n ∧ u'.kids.take x.n.toNat = x.kids.take x.n.toNat := fun i x hx => by
    by_cases hi : k = i
    · subst hi
      obtain rfl : u = x := Option.some.inj (hu.symm.trans hx)
      refine ⟨moreF u t b vs, by rw [List.getElem?_set, if_pos rfl, if_pos hlt], rfl, ?_⟩
      have h1 := hpk.n1
      show ((vs ++ [t]) ++ [b]).take u.n.toNat = u.kids.take u.n.toNat
      rw [hv, List.append_assoc, List.take_append_of_le_length (by omega), List.take_append_of_le_length (by omega)]
    · exact ⟨x, by rw [List.getElem?_set, if_neg hi]; exact hx, rfl, rfl⟩
  refine chk_ofM hq fun v hvm => ?_
  rcases List.mem_or_eq_of_mem_set hvm with h | h
  · exact okW_ext (s := scO p v) (s' := scO ⟨p.k, p.n, p.m, p.kids.set k (moreF u t b vs)⟩ v) ⟨fun i x hx => hx, hf, Int.le_refl _⟩ v (prog_kid hp.prog h).fit (okk_of hp v h)
  · subst h
    have hext : Ext (scO p u) (scO ⟨p.k, p.n, p.m, p.kids.set k (moreF u t b vs)⟩ (moreF u t b vs)) := by
      refine ⟨fun i x hx => ?_, hf, Int.le_refl _⟩
      have hx2 : (u.kids.take (u.kids.length - 1))[i]? = some x := hx
      rw [hv] at hx2
      simp only [List.length_append, List.length_cons, List.length_nil, Nat.zero_add, Nat.add_sub_cancel, List.take_left] at hx2
      show (((vs ++ [t]) ++ [b]).take (((vs ++ [t]) ++ [b]).length - 1))[i]? = some x
      have hi := (List.getElem?_eq_some_iff.1 hx2).1
      rw [List.getElem?_take, if_pos (by simp; omega), List.append_assoc, List.getElem?_append_left hi]
      exact hx2
    have hok := (ok_iff _ u).1 (okk_of hp u hmem)
    refine (ok_iff _ _).2 ⟨by simp [errOf, missing, misused, wants, fitB, moreF], fun x hx => ?_⟩
    have hx2 : x ∈ (vs ++ [t]) ++ [b] := hx
    rcases List.mem_append.1 hx2 with h1 | h1
    · rcases List.mem_append.1 h1 with h2 | h2
      · have h3 : x ∈ u.kids := by rw [hv]; exact List.mem_append_left _ h2
        exact okW_ext hext x (hpk.fit.kids x h3) (hok.2 x h3)
      · simp at h2; subst h2; exact type_ok _ ht
    · have h3 : x ∈ u.kids := by rw [hv]; exact List.mem_append_right _ h1
      exact okW_ext hext x (hpk.fit.kids x h3) (hok.2 x h3)
theorem more_fun {p u : T} (hp : Fine p) (hu : u ∈ p.kids) (hq : isProg ⟨p.k, p.n, p.m, p.kids ++ [u]⟩ = true) : chk ⟨p.k, p.n, p.m, p.kids ++ [u]⟩ = ([], 0) := by
  refine chk_ofM hq fun v hvm => ?_
  have hv : v ∈ p.kids := by
    rcases List.mem_append.1 (show v ∈ p.kids ++ [u] from hvm) with h | h
    · exact h
    · simp at h; rw [h]; exact hu
  refine okW_ext (s := scO p v) (s' := scO ⟨p.k, p.n, p.m, p.kids ++ [u]⟩ v) ⟨fun i x hx => hx, fun i x hx => ⟨x, ?_, rfl, rfl⟩, Int.le_refl _⟩ v (prog_kid hp.prog hv).fit (okk_of hp v hv)
  show (p.kids ++ [u])[i]? = some x
  have hx2 : p.kids[i]? = some x := hx
  rw [List.getElem?_append_left (List.getElem?_eq_some_iff.1 hx2).1]; exact hx2
theorem more_chan {p : T} (hp : Fine p) (hq : isProg ⟨p.k, p.n + 1, p.m, p.kids⟩ = true) : chk ⟨p.k, p.n + 1, p.m, p.kids⟩ = ([], 0) :=
  chk_ofM hq fun v hv => okW_ext (s := scO p v) (s' := scO ⟨p.k, p.n + 1, p.m, p.kids⟩ v) ⟨fun _ _ hx => hx, fun _ x hx => ⟨x, hx, rfl, rfl⟩, by show p.n ≤ p.n + 1; omega⟩ v (prog_kid hp.prog hv).fit (okk_of hp v hv)
end Go.Proofs.YtlffmfdjifgfgaaDoor

/-
  Rows of trees that lie below and are gathered in a row of their own; states of a region that orders come to.
-/
namespace Go.Proofs.YtlffmfdjifgfgaaDoor
open Go.RowKit WM TR TY

theorem wpAnyH_key {P : Program} {md : Region.Mode} {ops : Array Oper} {Q : Exit → Act → World → Prop} {S : World → Prop} {fuel0 : Nat} {L0 : Array Bool} {a0 : Act} {w0 : World} (fuel : Nat) (L : Array Bool) (Inv : Act → Act → World → Prop)
    (key : ∀ a w, Inv a0 a w → wpAnyH P md ops Q S fuel L a w) (cont : (∀ a w, Inv a0 a w → wpAnyH P md ops Q S fuel L a w) → wpAnyH P md ops Q S fuel0 L0 a0 w0) : wpAnyH P md ops Q S fuel0 L0 a0 w0 := cont key

theorem Rep.tight {w : World} {S : Nat → Prop} : ∀ {D d : Nat} {t : T} {cs : List Value}, Rep w S D t cs → depth t ≤ d → Rep w S d t cs
  | 0, _, _, _, h, _ => h.elim
  | D + 1, 0, t, _, _, hd => by have := depth_eq t; omega
  | D + 1, d + 1, t, _, ⟨A, c, xs, h1, h2, h3, h4, h5⟩, hd => ⟨A, c, xs, h1, h2, h3, h4, fun i u hu => Rep.tight (h5 i u hu) (by have := depth_kid hu; omega)⟩
theorem Reps.app {w : World} {S : Nat → Prop} {d : Nat} {ts us : List T} {xs ys : List Value} (h : Reps w S d ts xs) (k : Reps w S d us ys) : Reps w S d (ts ++ us) (xs ++ ys) := by
  refine ⟨by rw [List.length_append, List.length_append, h.1, k.1]; omega, fun i u hu => ?_⟩
  by_cases hi : i < ts.length
  · rw [List.getElem?_append_left hi] at hu
    have := h.2 i u hu
    rw [List.drop_append_of_le_length (by rw [h.1]; omega), List.take_append_of_le_length (by rw [List.length_drop, h.1]; omega)]
    exact this
  · rw [List.getElem?_append_right (by omega)] at hu
    have := k.2 _ u hu
    have e : (xs ++ ys).drop (i * 4) = ys.drop ((i - ts.length) * 4) := by
      rw [List.drop_append, List.drop_eq_nil_of_le (by rw [h.1]; omega), List.nil_append]
      congr 1
      rw [h.1]; omega
    rw [e]; exact this
/-- A row made since B, of trees below B0. -/
structure AR (B0 B D : Nat) (w : World) (v : Value) (ts : List T) (xs : List Value) : Prop where
  own : w.ownsRow B 25 4 v ts.length xs
  reps : Reps w (Lt B0) D ts xs
  le : B0 ≤ B
theorem AR.nil {B0 B D : Nat} {w : World} (h : B0 ≤ B) : AR B0 B D w (.slice none 0 0) [] [] := ⟨World.ownsRow_nil _ _ _ _, Reps.nil, h⟩
theorem AR.later {B0 B D : Nat} {w w' : World} {v : Value} {ts : List T} {xs : List Value} (h : AR B0 B D w v ts xs) (hB : B ≤ w.heap.size) (hb : Below w.heap.size w w') : AR B0 B D w' v ts xs :=
  ⟨ownsRow_below h.own hb, h.reps.keep (Keeps.below (fun b (hb : b < B0) => by have := h.le; omega) hb), h.le⟩
theorem below_gwB {B : Nat} {a w w' : World} {row : Option Nat} (hb : Below B a w) (h : w.grownBy w' row) (hB : B ≤ w.heap.size) (hr : ∀ b, row = some b → B ≤ b) : Below B a w' :=
  ⟨h.os.trans hb.os, h.tape.trans hb.tape, h.output.trans hb.output, Nat.le_trans hb.size h.size, fun i hi => (h.block i (Nat.lt_of_lt_of_le hi hB) (fun e => by have := hr i e.symm; omega)).trans (hb.block i hi)⟩
/-- Behind an append. -/
theorem AR.put {B0 B D m : Nat} {w w' : World} {v v' : Value} {ts us : List T} {xs ys : List Value} (h : AR B0 B D w v ts xs) (hB : B ≤ w.heap.size) (hu : Reps w (Lt B0) D us ys) (hm : us.length = m) (hown : w'.ownsRow B 25 4 v' (ts.length + m) (xs ++ ys)) (hg : w.grownBy w' v.ownBlock) : AR B0 B D w' v' (ts ++ us) (xs ++ ys) ∧ Below B w w' := by
  have hb : Below B w w' := below_gwB (Below.refl _ _) hg hB fun b e => (h.own.lt b e).1
  exact ⟨⟨by rw [List.length_append, hm]; exact hown, (h.reps.app hu).keep (Keeps.below (fun b (hb : b < B0) => Nat.lt_of_lt_of_le hb h.le) hb), h.le⟩, hb⟩
/-- A node of a row. -/
theorem AR.rep {B0 B D c : Nat} {w : World} {A : Option Addr} {ts : List T} {xs : List Value} {k n m : Int} (h : AR B0 B D w (.slice A ts.length c) ts xs) (hB : B ≤ w.heap.size) (hk : inRange k) (hn : inRange n) (hm : inRange m) : Rep w (Lt w.heap.size) (D + 1) ⟨k, n, m, ts⟩ (nd ⟨k, n, m, ts⟩ A c) := by
  obtain ⟨A', c', e, hc⟩ := own_len h.own
  injection e with _ _ e3
  exact Rep.mk hk hn hm (by omega) ((Rd.of_own h.own).mono fun b hb => hb.2) (h.reps.mono fun b (hb : b < B0) => by have := h.le; show b < _; omega)
/-- Behind a store below the row, and not below its trees. -/
theorem AR.store {B0 B D g i : Nat} {w : World} {v u : Value} {ts : List T} {xs : List Value} (h : AR B0 B D w v ts xs) (h0 : B0 ≤ g) (hg : g < B) : AR B0 B D (w.setCell ⟨g, i, none⟩ u) v ts xs :=
  ⟨ownsRow_setCell_below h.own hg u, h.reps.keep (Keeps.setCell (Keeps.refl _ _) (fun (hb : g < B0) => by omega) u), h.le⟩
theorem reps_oneM {w : World} {S : Nat → Prop} {d : Nat} {ts : List T} {xs : List Value} (h : Reps w S d ts xs) : ∀ v ∈ xs, v.oneCell' = true := by
  intro v hv
  obtain ⟨i, hi, rfl⟩ := List.getElem_of_mem hv
  have h1 := h.1
  obtain ⟨u, hu⟩ : ∃ u, ts[i / 4]? = some u := ⟨_, List.getElem?_eq_getElem (by omega)⟩
  obtain ⟨A, c, e, _⟩ := (h.2 _ u hu).form
  have hm : xs[i] ∈ nd u A c := by
    rw [← e]
    refine List.mem_of_getElem? (i := i % 4) ?_
    rw [List.getElem?_take, if_pos (by omega), List.getElem?_drop, show i / 4 * 4 + i % 4 = i by omega]
    exact List.getElem?_eq_getElem hi
  exact nd_one u A c _ hm
theorem int_readsM (w : World) (x : Int) : Reads (w.alloc (.cells #[.int .i64 x] 3)) (w.heap.size + 1) 1 (some ⟨w.heap.size, 0, none⟩) 1 (vi [x]) :=
  ⟨rfl, fun _ => ⟨_, rfl, Nat.lt_succ_self _, fun j u hu => by rw [Addr.add_lit, Nat.zero_add, (Blk.new w _ _).cell, List.getElem?_toArray]; exact hu⟩⟩
theorem sum_set (f : T → Nat) (x : T) : ∀ (l : List T) (k : Nat), ((l.set k x).map f).sum ≤ (l.map f).sum + f x
  | [], _ => by simp
  | a :: l, 0 => by simp only [List.set_cons_zero, List.map_cons, List.sum_cons]; omega
  | a :: l, k + 1 => by have := sum_set f x l k; simp only [List.set_cons_succ, List.map_cons, List.sum_cons]; omega
theorem set_kid {p u x : T} {k : Nat} (hu : p.kids[k]? = some u) : set? [(k : Int)] p x = some ⟨p.k, p.n, p.m, p.kids.set k x⟩ := by
  simp only [set?]
  rw [if_neg (by omega), Int.toNat_natCast, hu]
end Go.Proofs.YtlffmfdjifgfgaaDoor

/-
  The reference's Expr.
-/
namespace Go.Proofs.YtlffmfdjifgfgaaDoor
open Go.RowKit WM TR TY

/-- The kinds of expressions. -/
def isEx (k : Int) : Bool := decide (4 ≤ k) && decide (k ≤ 12)
set_option maxRecDepth 100000 in
set_option maxHeartbeats 2000000 in
theorem rexpr_is (t : T) (A : Option Addr) (l c : Nat) (w : World) :
    Calls Tryd.prog 28 #[.agg #[.int .i64 t.k, .int .i64 t.n, .int .i64 t.m, .slice A l c]] w fun e w' => e = .returned (.bool (isEx t.k)) ∧ Below w.heap.size w w' := by
  obtain ⟨r, hr⟩ : ∃ r, isEx t.k = r := ⟨_, rfl⟩
  rw [hr]
  unfold isEx at hr
  by_cases h4 : 4 ≤ t.k
  · by_cases h12 : t.k ≤ 12
    · have HR : Hid (true = r) := Lib.hid (by rw [← hr]; simp [h4, h12])
      clear hr
      go_enter Tryd.func28, Tryd.ntmps28
      go_wp2_with fail
      go_ret
      exact ⟨ret_b HR.out, below_new _ _⟩
    · have HR : Hid (false = r) := Lib.hid (by rw [← hr]; simp [h12])
      clear hr
      go_enter Tryd.func28, Tryd.ntmps28
      go_wp2_with fail
      go_ret
      exact ⟨ret_b HR.out, below_new _ _⟩
  · have HR : Hid (false = r) := Lib.hid (by rw [← hr]; simp [h4])
    clear hr
    go_enter Tryd.func28, Tryd.ntmps28
    go_wp2_with fail
    go_ret
    exact ⟨ret_b HR.out, below_new _ _⟩
end Go.Proofs.YtlffmfdjifgfgaaDoor

/-
  The reference's Body.
-/
namespace Go.Proofs.YtlffmfdjifgfgaaDoor
open Go.RowKit WM TR TY

set_option maxRecDepth 100000 in
set_option maxHeartbeats 4000000 in
/-- The block of a function. -/
theorem rbody_is (d : Nat) (t u x : T) (S : Nat → Prop) (A : Option Addr) (c j : Nat) (w : World) (ht : Rep w S (d + 2) t (nd t A c)) (hin : In S w.heap.size) (hu : t.kids[j]? = some u) (hx : u.kids[u.kids.length - 1]? = some x) (hl : t.kids.length ≤ 1000000) (hlu : u.kids.length ≤ 1000000) :
    Calls Tryd.prog 32 #[.agg #[.int .i64 t.k, .int .i64 t.n, .int .i64 t.m, .slice A t.kids.length c], .int .i64 (j : Int)] w fun e w' => ∃ A' c', e = .returned (.agg #[.int .i64 x.k, .int .i64 x.n, .int .i64 x.m, .slice A' x.kids.length c']) ∧ Rep w' S d x (nd x A' c') ∧ Below w.heap.size w w' := by
  obtain ⟨l, hll⟩ : ∃ l, l = t.kids.length := ⟨_, rfl⟩
  have hjl : j < l := by rw [hll]; exact (List.getElem?_eq_some_iff.1 hu).1
  obtain ⟨q, hq⟩ : ∃ q, u.kids.length = q + 1 := ⟨u.kids.length - 1, by have := (List.getElem?_eq_some_iff.1 hx).1; omega⟩
  rw [hq, Nat.add_sub_cancel] at hx
  obtain ⟨r, hr⟩ : ∃ r, r = w.heap.size + 1 := ⟨_, rfl⟩
  obtain ⟨W0, hW0⟩ : ∃ W, W = (w.alloc (.cells #[.int .i64 t.k, .int .i64 t.n, .int .i64 t.m, .slice A l c] 25)).alloc (.cells #[.int .i64 0, .int .i64 0, .int .i64 0, .slice none 0 0] 25) := ⟨_, rfl⟩
  have hb0 : Below w.heap.size w W0 := by rw [hW0]; exact ba (below_new _ _) _
  have hk0 : Blk W0 w.heap.size 25 #[.int .i64 t.k, .int .i64 t.n, .int .i64 t.m, .slice A l c] := by rw [hW0]; exact blk_new3 _ _ _ _
  have hz0 : Blk W0 r 25 #[.int .i64 0, .int .i64 0, .int .i64 0, .slice none 0 0] := by rw [hW0, hr]; exact blk_new2 _ _ _ _
  have hrr := ht.later hin hb0
  obtain ⟨b2, o2, A2, c2, hA2, hb2, hcells, hru⟩ := hrr.kid hu
  subst hA2
  obtain ⟨b3, o3, A3, c3, hA3, hb3, hcells3, hrx⟩ := hru.kid hx
  subst hA3
  obtain ⟨W1, hW1⟩ : ∃ W, W = W0.alloc (.cells #[.int .i64 u.k, .int .i64 u.n, .int .i64 u.m, .slice (some ⟨b3, o3, none⟩) (q + 1) c2] 25) := ⟨_, rfl⟩
  have hb1 : Below W0.heap.size W0 W1 := by rw [hW1]; exact below_new _ _
  have hbw : Below w.heap.size w W1 := hb0.trans (hb1.mono hb0.size)
  have hrx1 : Rep W1 S d x (nd x A3 c3) := hrx.keep (Keeps.below (fun b hb => Nat.lt_of_lt_of_le (hin b hb) hb0.size) hb1)
  have y3 := hk0.cell 3
  simp only [List.getElem?_toArray, List.getElem?_cons_zero, List.getElem?_cons_succ] at y3
  have k0 : W0.cell? ⟨b2, o2 + j * 4, none⟩ = some (.int .i64 u.k) := hcells 0 _ rfl
  have k1 : W0.cell? ⟨b2, o2 + j * 4 + 1, none⟩ = some (.int .i64 u.n) := hcells 1 _ rfl
  have k2 : W0.cell? ⟨b2, o2 + j * 4 + 2, none⟩ = some (.int .i64 u.m) := hcells 2 _ rfl
  have k3 : W0.cell? ⟨b2, o2 + j * 4 + 3, none⟩ = some (.slice (some ⟨b3, o3, none⟩) (q + 1) c2) := by have h := hcells 3; unfold nd at h; rw [hq] at h; exact h _ rfl
  have hb3l : b3 < W0.heap.size := Nat.lt_of_lt_of_le (hin b3 hb3) hb0.size
  have e : ∀ i v, (nd x A3 c3)[i]? = some v → W1.cell? ⟨b3, o3 + q * 4 + i, none⟩ = some v := fun i v hv => (hb1.cell (p := ⟨b3, o3 + q * 4 + i, none⟩) hb3l).trans (hcells3 i v hv)
  have x0 : W1.cell? ⟨b3, o3 + q * 4, none⟩ = some (.int .i64 x.k) := e 0 _ rfl
  have x1 : W1.cell? ⟨b3, o3 + q * 4 + 1, none⟩ = some (.int .i64 x.n) := e 1 _ rfl
  have x2 : W1.cell? ⟨b3, o3 + q * 4 + 2, none⟩ = some (.int .i64 x.m) := e 2 _ rfl
  have x3 : W1.cell? ⟨b3, o3 + q * 4 + 3, none⟩ = some (.slice A3 x.kids.length c3) := e 3 _ rfl
  have hv1 : Blk W1 W0.heap.size 25 #[.int .i64 u.k, .int .i64 u.n, .int .i64 u.m, .slice (some ⟨b3, o3, none⟩) (q + 1) c2] := by rw [hW1]; exact Blk.new _ _ _
  have v3 := hv1.cell 3
  have hz1 := hz0.below hb1 hz0.lt
  have r0 := hz1.cell 0
  have r1 := hz1.cell 1
  have r2 := hz1.cell 2
  have r3 := hz1.cell 3
  have f0 := hz1.frozen 0
  have f1 := hz1.frozen 1
  have f2 := hz1.frozen 2
  have f3 := hz1.frozen 3
  simp only [List.getElem?_toArray, List.getElem?_cons_zero, List.getElem?_cons_succ] at r0 r1 r2 r3 v3
  have hij : (0 : Int) ≤ (j : Int) ∧ (j : Int) < (l : Int) := ⟨by omega, by omega⟩
  have hqw : IntKind.i64.wrap (((q : Int) + 1) - 1) = (q : Int) := by rw [IntKind.wrap_i64]; omega
  have hqw2 : IntKind.i64.wrap (q : Int) = (q : Int) := by rw [IntKind.wrap_i64]; omega
  have hqw3 : IntKind.i64.wrap (((q + 1 : Nat) : Int) - 1) = (q : Int) := by rw [IntKind.wrap_i64]; omega
  have hqb : (0 : Int) ≤ (q : Int) ∧ (q : Int) < (q : Int) + 1 := ⟨by omega, by omega⟩
  have HBW := Lib.hid hbw
  have HRX := Lib.hid hrx1
  have HW0 := Lib.hid hW0
  have HW1 := Lib.hid hW1
  have HR := Lib.hid hr
  have HI := Lib.hid hin
  rw [← hll]
  clear ht hin hu hx hl hlu hll hr hW0 hb0 hk0 hz0 hrr hb2 hcells hru hb3 hcells3 hrx hW1 hb1 hbw hrx1 hb3l e hz1 hv1 hq
  go_enter Tryd.func32, Tryd.ntmps32
  go_upto_region 1 with fail
  rw [← HW0.out, ← HR.out]
  go_upto_region 2 with fail
  rw [← HW1.out]
  go_wp2_with fail
  refine bodyPost_ret (v := .agg #[.int .i64 x.k, .int .i64 x.n, .int .i64 x.m, .slice A3 x.kids.length c3]) (by simp [results, Tryd.results32, go_sem, r0, r1, r2, r3]) rfl ?_
  exact ⟨A3, c3, rfl, put4_rep HRX.out (r := r) (fun h => by have := HI.out r h; have := HR.out; omega) _ _ _ _, put4_below HBW.out _ _ _ _ (by have := HR.out; omega)⟩
end Go.Proofs.YtlffmfdjifgfgaaDoor

/-
  What Set leaves.
-/
namespace Go.Proofs.YtlffmfdjifgfgaaDoor
open Go.RowKit WM TR

/-- The code: ErrNone, if there is no tree. -/
def codeOf : Option T → Int
  | some _ => 0
  | none => 6
/-- What Set leaves. -/
def SetPost (o : Option T) (S : Nat → Prop) (w : World) (e : Ending) (w' : World) : Prop :=
  ∃ t A' c' D, o.getD zeroT = t ∧ e = .returned (.tuple #[.agg #[.int .i64 t.k, .int .i64 t.n, .int .i64 t.m, .slice A' t.kids.length c'], .int .i64 (codeOf o)]) ∧ Rep w' (Plus S w.heap.size w'.heap.size) D t (nd t A' c') ∧ Below w.heap.size w w'
/-- Between the call of itself and what is done with its results. -/
def SetCut (o : Option T) (S : Nat → Prop) (e : Nat) (W2 : World) (s8 s9 : Value) (wx : World) : Prop :=
  ∃ gk u A' c' D, s8 = .pointer (some ⟨gk, 0, none⟩) ∧ s9 = .int .i64 (codeOf o) ∧ o.getD zeroT = u ∧ Blk wx gk 25 #[.int .i64 u.k, .int .i64 u.n, .int .i64 u.m, .slice A' u.kids.length c'] ∧ e ≤ gk ∧
    Rep wx (fun b => S b ∨ (e ≤ b ∧ b < wx.heap.size ∧ b ≠ gk)) D u (nd u A' c') ∧ Below e W2 wx
theorem SetCut.late {o : Option T} {S : Nat → Prop} {e : Nat} {W2 w3 : World} {u : T} {A' : Option Addr} {c' D : Nat} (hin : In S e) (he : W2.heap.size = e) (hu : o.getD zeroT = u) (hru : Rep w3 (Plus S W2.heap.size w3.heap.size) D u (nd u A' c')) (hbw : Below W2.heap.size W2 w3) :
    SetCut o S e W2 (.pointer (some ⟨w3.heap.size, 0, none⟩)) (.int .i64 (codeOf o)) (w3.alloc (.cells #[.int .i64 u.k, .int .i64 u.n, .int .i64 u.m, .slice A' u.kids.length c'] 25)) := by
  subst he
  have hs := hbw.size
  have hin3 : In (Plus S W2.heap.size w3.heap.size) w3.heap.size := hin.plus hs
  refine ⟨w3.heap.size, u, A', c', D, rfl, rfl, hu, Blk.new _ _ _, hs, Rep.mono ?_ (hru.keep (Keeps.below hin3 (below_new _ _))), ?_⟩
  · intro b hb
    rcases hb with hb | hb
    · exact .inl hb
    · exact .inr ⟨hb.1, by rw [size_alloc]; omega, by omega⟩
  · exact hbw.alloc hs _
theorem SetCut.early {o : Option T} {S : Nat → Prop} {e : Nat} {W2 w3 : World} {u : T} {A' : Option Addr} {c' D : Nat} {cs : List Value} {o0 : Obj} (hin : In S e) (he : W2.heap.size = e) (hu : o.getD zeroT = u) (hru : Rep w3 (Plus S (W2.alloc o0).heap.size w3.heap.size) D u (nd u A' c'))
    (hbw : Below (W2.alloc o0).heap.size (W2.alloc o0) w3) (hk : Blk w3 W2.heap.size 25 cs.toArray) (hcs : cs.length = 4) :
    SetCut o S e W2 (.pointer (some ⟨W2.heap.size, 0, none⟩)) (.int .i64 (codeOf o)) ((((w3.setCell ⟨W2.heap.size, 0, none⟩ (.int .i64 u.k)).setCell ⟨W2.heap.size, 1, none⟩ (.int .i64 u.n)).setCell ⟨W2.heap.size, 2, none⟩ (.int .i64 u.m)).setCell ⟨W2.heap.size, 3, none⟩ (.slice A' u.kids.length c')) := by
  subst he
  have hs := hbw.size
  rw [size_alloc] at hs hru
  refine ⟨W2.heap.size, u, A', c', D, rfl, rfl, hu, put4_blk hk hcs _ _ _ _, Nat.le_refl _, Rep.mono ?_ (put4_rep hru (fun hb => ?_) _ _ _ _), ?_⟩
  · intro b hb
    rcases hb with hb | hb
    · exact .inl hb
    · exact .inr ⟨by omega, by rw [(gw4 _ _ _ _ _ _).2]; exact hb.2, by omega⟩
  · rcases hb with hb | hb
    · have := hin _ hb; omega
    · omega
  · exact put4_below (((Below.refl _ W2).alloc (Nat.le_refl _) o0).trans (hbw.mono (by rw [size_alloc]; omega))) _ _ _ _

end Go.Proofs.YtlffmfdjifgfgaaDoor

/-
  The program's Set.
-/
namespace Go.Proofs.YtlffmfdjifgfgaaDoor
open Go.RowKit WM TR

/-- A node found in a tree that shares nothing. -/
def FndL (w : World) (b0 lo hi : Nat) (t : T) (q : List Int) (u : T) (b o : Nat) : Prop := ∃ lo' hi' d row, Foc w b0 lo hi t q u b o lo' hi' d row
theorem step_lin (w : World) (b0 lo hi : Nat) (t : T) : Step w t (FndL w b0 lo hi t) := by
  rintro q u b o ⟨lo', hi', d, row, h⟩
  obtain ⟨A, c, e, hc⟩ := h.lin.rep.form
  have hcell : ∀ i v, (nd u A c)[i]? = some v → w.cell? ⟨b, o + i, none⟩ = some v := by
    intro i v hv
    rw [h.blk.cell (o + i)]
    rw [← e, List.getElem?_take] at hv
    split at hv
    · rw [List.getElem?_drop] at hv
      simpa using hv
    · cases hv
  refine ⟨h.sub, A, c, hcell, fun j k hk => ?_⟩
  cases d with
  | zero => exact h.lin.elim
  | succ d =>
    obtain ⟨g, c2, lo2, hi2, ys, e2, hf⟩ := h.next hk
    rw [e] at e2
    obtain ⟨rfl, _⟩ := nd_inj e2
    exact ⟨g, 0, rfl, by rw [Nat.zero_add]; exact ⟨lo2, hi2, d, ys, hf⟩⟩

/-- What Set leaves. -/
def SetMade (o : Option T) (w : World) (e : Ending) (w' : World) : Prop :=
  ∃ u A' c' D, o.getD zeroT = u ∧ e = .returned (.tuple #[.agg #[.int .i64 u.k, .int .i64 u.n, .int .i64 u.m, .slice A' u.kids.length c'], .int .i64 (codeOf o)]) ∧ Rep w' (fun b => w.heap.size ≤ b ∧ b < w'.heap.size) D u (nd u A' c') ∧ Below w.heap.size w w'
theorem set_none_at : ∀ (p : List Int) (t x : T), at? p t = none → set? p t x = none
  | [], _, _, h => by simp [at?] at h
  | i :: p, t, x, h => by
    simp only [at?, set?] at h ⊢
    split at h
    · rename_i hi; rw [if_pos hi]
    · rename_i hi
      rw [if_neg hi]
      cases hk : t.kids[i.toNat]? with
      | none => rfl
      | some v =>
        rw [hk] at h
        simp only [set_none_at p v x h]

/-- Behind the store of the new node. -/
theorem set_back {w W3 w4 W5 w7 w8 : World} {t u x : T} {p : List Int} {b o lo' hi' d' dx c7 : Nat} {A7 : Option Addr} {row cs : List Value} (hf : Foc W5 w4.heap.size W3.heap.size w4.heap.size t p u b o lo' hi' d' row) (hz3 : W3.heap.size = w.heap.size + 3) (hs4 : W3.heap.size ≤ w4.heap.size) (hz5 : W5.heap.size = w4.heap.size + 1)
    (hO : Blk W5 (w.heap.size + 1 + 1) 25 cs.toArray) (hl7 : Lin w7 dx W5.heap.size w7.heap.size x (nd x A7 c7)) (hb7 : Below W5.heap.size W5 w7) (hw8 : w8 = w7.setRow b (seg row o (nd x A7 c7)).toArray) :
    ∃ A9 c9 D9 t9, set? p t x = some t9 ∧ (∀ i y, [Value.int .i64 t9.k, .int .i64 t9.n, .int .i64 t9.m, .slice A9 t9.kids.length c9][i]? = some y → w8.cell? ⟨w4.heap.size, 0 + i, none⟩ = some y) ∧ Rep w8 (fun b => W3.heap.size ≤ b ∧ b < w8.heap.size) D9 t9 (nd t9 A9 c9) ∧ Below W3.heap.size W5 w8 ∧ Blk w8 (w.heap.size + 1 + 1) 25 cs.toArray := by
  have hs7 := hb7.size
  have hs8 : w8.heap.size = w7.heap.size := by rw [hw8, size_setRow]
  have hbl : W3.heap.size ≤ b ∧ b < W5.heap.size := by rcases hf.here with h | h <;> omega
  have hblk : Blk w8 b 25 (seg row o (nd x A7 c7)).toArray := by rw [hw8]; exact (hf.blk.below hb7 hf.blk.lt).setRow _
  have hoth : ∀ b', b' ≠ b → w8.heap[b']? = w7.heap[b']? := fun b' h => by rw [hw8]; exact setRow_other _ _ _ b' (Ne.symm h)
  have hfit := hf.fit
  have hag : ∀ q : Addr, (q.block = w4.heap.size ∨ (W3.heap.size ≤ q.block ∧ q.block < w4.heap.size)) → ¬ (lo' ≤ q.block ∧ q.block < hi') → (q.block = b → q.off < o ∨ o + 4 ≤ q.off) → w8.cell? q = W5.cell? q := fun q hq _ ho => by
    have hqlt : q.block < W5.heap.size := by rcases hq with h | h <;> omega
    by_cases e : q.block = b
    · have ho' := ho e
      obtain ⟨qb, qo, qs⟩ := q
      simp only at e ho' hqlt
      subst e
      cases qs with
      | none =>
        rw [hblk.cell qo, hf.blk.cell qo]
        simp only [List.getElem?_toArray]
        rw [seg_get (by rw [nd_length]; exact hfit), nd_length]
        rcases ho' with h | h
        · rw [if_pos h]
        · rw [if_neg (by omega), if_neg (by omega)]
      | some s =>
        unfold World.cell?
        have h1 : w8.heap[qb]? = some (.cells (seg row o (nd x A7 c7)).toArray 25 (0, 0)) := hblk
        have h2 : W5.heap[qb]? = some (.cells row.toArray 25 (0, 0)) := hf.blk
        simp [h1, h2]
    · exact (World.cell?_of_block (hoth _ e)).trans (hb7.cell hqlt)
  have hcl : ∀ i v, (nd x A7 c7)[i]? = some v → w8.cell? ⟨b, o + i, none⟩ = some v := fun i v hv => by
    rw [hblk.cell (o + i)]
    have hi4 : i < 4 := by have := (List.getElem?_eq_some_iff.1 hv).1; rw [nd_length] at this; exact this
    simp only [List.getElem?_toArray]
    rw [seg_get (by rw [nd_length]; exact hfit), nd_length, if_neg (by omega), if_pos (by omega), Nat.add_sub_cancel_left]
    exact hv
  have hrx : Rep w8 (fun c => W5.heap.size ≤ c ∧ c < w7.heap.size) dx x (nd x A7 c7) := hl7.rep.keep fun c hc => hoth c (by omega)
  obtain ⟨cs0, D0, t', hs0, hc0, hr0⟩ := hf.back w8 x (nd x A7 c7) dx _ hag hcl hrx
  obtain ⟨A9, c9, e, _⟩ := hr0.form
  rw [e] at hc0 hr0
  refine ⟨A9, c9, D0, t', hs0, hc0, hr0.mono fun c hc => ?_, ?_, (hoth _ (by omega)).trans (hO.below hb7 hO.lt)⟩
  · rcases hc with hc | hc
    · exact ⟨hc.1, by omega⟩
    · exact ⟨by omega, by omega⟩
  · rw [hw8]
    exact below_setRow (hb7.mono (by omega)) hbl.1 _

set_option maxRecDepth 100000 in
set_option maxHeartbeats 4000000 in
theorem tset_is (d dx : Nat) (t x : T) (S S' Sx : Nat → Prop) (A X : Option Addr) (c xc : Nat) (w : World) (p : List Int) (P : Option Addr) (pc : Nat) (ht : Rep w S d t (nd t A c)) (hx : Rep w Sx dx x (nd x X xc)) (hp : Rd w S' 1 P p.length (vi p)) (hin : In S w.heap.size) (hinx : In Sx w.heap.size) (hin' : In S' w.heap.size) (hst : size t ≤ 1000000) (hsx : size x ≤ 1000000) (hpc : p.length ≤ pc) (hpl : p.length ≤ 9223372036854775807) :
    Calls Tryd.prog 31 #[.agg #[.int .i64 t.k, .int .i64 t.n, .int .i64 t.m, .slice A t.kids.length c], .slice P p.length pc, .agg #[.int .i64 x.k, .int .i64 x.n, .int .i64 x.m, .slice X x.kids.length xc]] w (SetMade (set? p t x) w) := by
  obtain ⟨W3, hW3⟩ : ∃ W3, W3 = ((w.alloc (.cells #[.int .i64 t.k, .int .i64 t.n, .int .i64 t.m, .slice A t.kids.length c] 25)).alloc (.cells #[.int .i64 x.k, .int .i64 x.n, .int .i64 x.m, .slice X x.kids.length xc] 25)).alloc (.cells #[.int .i64 0, .int .i64 0, .int .i64 0, .slice none 0 0] 25) := ⟨_, rfl⟩
  have hz3 : W3.heap.size = w.heap.size + 3 := by rw [hW3, size_alloc, size_alloc, size_alloc]
  have hT : Blk W3 w.heap.size 25 #[.int .i64 t.k, .int .i64 t.n, .int .i64 t.m, .slice A t.kids.length c] := by rw [hW3]; exact ((Blk.new w _ _).alloc _).alloc _
  have hX : Blk W3 (w.heap.size + 1) 25 #[.int .i64 x.k, .int .i64 x.n, .int .i64 x.m, .slice X x.kids.length xc] := by rw [hW3]; exact (Blk.new_at _ _ (by rw [size_alloc]) rfl).alloc _
  have hO : Blk W3 (w.heap.size + 1 + 1) 25 #[.int .i64 0, .int .i64 0, .int .i64 0, .slice none 0 0] := by rw [hW3]; exact Blk.new_at _ _ (by rw [size_alloc, size_alloc]) rfl
  have hB : Below w.heap.size w W3 := by rw [hW3]; exact ba (ba (below_new _ _) _) _
  have HC := Lib.hid (clone_is d t S A c W3 (ht.later hin hB) (hin.more hB.size) hst)
  have HXR := Lib.hid (hx.later hinx hB)
  have HINX := Lib.hid (hinx.more hB.size)
  have HP := Lib.hid (hp.keep (Keeps.below hin' hB))
  have HIN' := Lib.hid (hin'.more hB.size)
  have HT := Lib.hid hT
  have HX := Lib.hid hX
  have HO := Lib.hid hO
  have HB := Lib.hid hB
  have HZ3 := Lib.hid hz3
  have HW3 := Lib.hid hW3
  have HSX := Lib.hid hsx
  have HCT : Hid (∀ i y, [Value.int .i64 t.k, .int .i64 t.n, .int .i64 t.m, .slice A t.kids.length c][i]? = some y → W3.cell? ⟨w.heap.size, 0 + i, none⟩ = some y) := Lib.hid (fun i y hy => by rw [hT.cell (0 + i), Nat.zero_add]; simpa using hy)
  clear hW3 hT hX hO hB ht hx hp hin hinx hin' hsx hz3
  go_enter Tryd.func31, Tryd.ntmps31
  go_wp2_with (first
    | (refine wpList_load_mid rfl 25 (.tmp 3) rfl w.heap.size 0 rfl [.int .i64 t.k, .int .i64 t.n, .int .i64 t.m, .slice A t.kids.length c] _ (by rw [← HW3.out]; exact HCT.out) Tryd.underlying25 rfl (by rw [size_node]; rfl) ?_)
    | (go_at_call 61; rw [← HW3.out]; refine HC.out.mono ?_; rintro e w4 ⟨A4, c4, rfl, hl4, hb4⟩; have HL4 := Lib.hid hl4; have HB4 := Lib.hid hb4; clear hl4 hb4)
    | (refine wpList_store_new rfl 25 (.tmp 8) (.tmp 11) rfl w4 _ _ rfl rfl (by rw [size_node]; rfl) rfl rfl ?_))
  have hz3 := HZ3.out
  have hs4 := HB4.out.size
  obtain ⟨W5, hW5⟩ : ∃ W5, W5 = w4.alloc (.cells #[.int .i64 t.k, .int .i64 t.n, .int .i64 t.m, .slice A4 t.kids.length c4] 25) := ⟨_, rfl⟩
  have hz5 : W5.heap.size = w4.heap.size + 1 := by rw [hW5, size_alloc]
  have hb5 : Below w4.heap.size w4 W5 := by rw [hW5]; exact below_new _ _
  have hR : Blk W5 w4.heap.size 25 (nd t A4 c4).toArray := by rw [hW5]; exact Blk.new w4 _ _
  have hb35 : Below W3.heap.size W3 W5 := bt HB4.out hb5
  have h0 : FndL W5 w4.heap.size W3.heap.size w4.heap.size t [] t w4.heap.size 0 := ⟨W3.heap.size, w4.heap.size, d, nd t A4 c4, Foc.root hR (HL4.out.keep fun b _ hb => hb5.block b hb) (by omega)⟩
  have HF := Lib.hid (find_is W5 t _ (step_lin W5 w4.heap.size W3.heap.size w4.heap.size t) w4.heap.size h0 p S' P pc (HP.out.keep (Keeps.below HIN'.out hb35)) hpc hpl)
  have HO5 := Lib.hid (HO.out.below hb35 HO.out.lt)
  have hX5 := HX.out.below hb35 HX.out.lt
  have HCX : Hid (∀ i y, [Value.int .i64 x.k, .int .i64 x.n, .int .i64 x.m, .slice X x.kids.length xc][i]? = some y → W5.cell? ⟨w.heap.size + 1, 0 + i, none⟩ = some y) := Lib.hid (fun i y hy => by rw [hX5.cell (0 + i), Nat.zero_add]; simpa using hy)
  have HCL := Lib.hid (clone_is dx x Sx X xc W5 (HXR.out.later HINX.out hb35) (HINX.out.more hb35.size) HSX.out)
  have HB35 := Lib.hid hb35
  rw [← hW5]
  have HZ5 := Lib.hid hz5
  clear hW5 hb5 hR h0 hX5 hb35 hz5 hz3 hs4
  go_wp2_with (first
    | (go_at_call 60; refine HF.out.mono ?_; rintro e w6 ⟨hw6, (⟨hno, rfl⟩ | ⟨u, b, o, ⟨lo', hi', d', row, hf⟩, rfl⟩)⟩ <;> subst hw6)
    | (refine wpList_store_row rfl 25 (.tmp 6) (.tmp 16) rfl (w.heap.size + 1 + 1) #[.int .i64 0, .int .i64 0, .int .i64 0, .slice none 0 0] rfl rfl 25 #[.int .i64 0, .int .i64 0, .int .i64 0, .slice none 0 0] HO5.out (by rw [size_node]; rfl) rfl (by simp [Value.oneCell']) ?_)
    | (refine wpList_load_mid rfl 25 (.tmp 5) rfl (w.heap.size + 1) 0 rfl [.int .i64 x.k, .int .i64 x.n, .int .i64 x.m, .slice X x.kids.length xc] _ HCX.out Tryd.underlying25 rfl (by rw [size_node]; rfl) ?_)
    | (go_at_call 61; refine HCL.out.mono ?_; rintro e w7 ⟨A7, c7, rfl, hl7, hb7⟩; have HL7 := Lib.hid hl7; have HB7 := Lib.hid hb7; have HBR := Lib.hid (hf.blk.below hb7 hf.blk.lt); clear hl7 hb7)
    | (refine wpList_store_seg _ rfl 25 (.tmp 20) (.tmp 19) rfl b o (nd x A7 c7) rfl rfl 25 row HBR.out (by rw [size_node]; rfl) hf.fit (nd_one x A7 c7) ?_; intro w8 hw8; obtain ⟨A9, c9, D9, t9, hs9, hc9, hr9, hb9, ho9⟩ := set_back hf HZ3.out HB4.out.size HZ5.out HO5.out HL7.out HB7.out hw8; have HR9 := Lib.hid hr9; have HB9 := Lib.hid hb9; have HO9 := Lib.hid ho9; have HS9 := Lib.hid hs9; have HC9 := Lib.hid hc9; clear hr9 hb9 ho9 hs9 hc9 hw8)
    | (refine wpList_load_mid rfl 25 (.tmp 8) rfl w4.heap.size 0 rfl [.int .i64 t9.k, .int .i64 t9.n, .int .i64 t9.m, .slice A9 t9.kids.length c9] _ HC9.out Tryd.underlying25 rfl (by rw [size_node]; rfl) ?_)
    | (refine wpList_store_row rfl 25 (.tmp 6) (.tmp 21) rfl (w.heap.size + 1 + 1) #[.int .i64 t9.k, .int .i64 t9.n, .int .i64 t9.m, .slice A9 t9.kids.length c9] rfl rfl 25 #[.int .i64 0, .int .i64 0, .int .i64 0, .slice none 0 0] HO9.out (by rw [size_node]; rfl) rfl (by simp [Value.oneCell']) ?_))
  · have HR := Lib.hid (HO5.out.setRow #[.int .i64 0, .int .i64 0, .int .i64 0, .slice none 0 0])
    have r0 := HR.out.cell 0
    have r1 := HR.out.cell 1
    have r2 := HR.out.cell 2
    have r3 := HR.out.cell 3
    simp only [List.getElem?_toArray, List.getElem?_cons_zero, List.getElem?_cons_succ] at r0 r1 r2 r3
    have hsn := set_none_at p t x hno
    refine bodyPost_ret (v := .tuple #[.agg #[.int .i64 0, .int .i64 0, .int .i64 0, .slice none 0 0], .int .i64 6]) (by simp [results, Tryd.results31, go_sem, r0, r1, r2, r3]) rfl ⟨zeroT, none, 0, 1, by rw [hsn]; rfl, by rw [hsn]; rfl, Rep.leaf in0 in0 in0 _ _, below_setRow (bt HB.out HB35.out) (by omega) _⟩
  · have HR := Lib.hid (HO9.out.setRow #[.int .i64 t9.k, .int .i64 t9.n, .int .i64 t9.m, .slice A9 t9.kids.length c9])
    have r0 := HR.out.cell 0
    have r1 := HR.out.cell 1
    have r2 := HR.out.cell 2
    have r3 := HR.out.cell 3
    simp only [List.getElem?_toArray, List.getElem?_cons_zero, List.getElem?_cons_succ] at r0 r1 r2 r3
    have hbf := below_setRow (HB.out.trans ((HB35.out.trans HB9.out).mono HB.out.size)) (show w.heap.size ≤ w.heap.size + 1 + 1 by omega) #[.int .i64 t9.k, .int .i64 t9.n, .int .i64 t9.m, .slice A9 t9.kids.length c9]
    refine bodyPost_ret (v := .tuple #[.agg #[.int .i64 t9.k, .int .i64 t9.n, .int .i64 t9.m, .slice A9 t9.kids.length c9], .int .i64 0]) (by simp [results, Tryd.results31, go_sem, r0, r1, r2, r3]) rfl ⟨t9, A9, c9, D9, by rw [HS9.out]; rfl, by rw [HS9.out]; rfl, ?_, hbf⟩
    have hz3 := HZ3.out
    refine (HR9.out.keep (w' := w8.setRow (w.heap.size + 1 + 1) #[.int .i64 t9.k, .int .i64 t9.n, .int .i64 t9.m, .slice A9 t9.kids.length c9]) ?_).mono ?_
    · intro b hb
      exact setRow_other _ _ _ b (by omega)
    · intro b hb
      exact ⟨by omega, by rw [size_setRow]; exact hb.2⟩
end Go.Proofs.YtlffmfdjifgfgaaDoor
