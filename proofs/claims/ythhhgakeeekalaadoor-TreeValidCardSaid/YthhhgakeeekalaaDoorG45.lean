/-
  The law of Valid: a node whose kids are rewritten, in a block of its own.
-/
import Derived.Test.YthhhgakeeekalaaDoorG44
import Derived.Test.YthhhgakeeekalaaDoorG40
set_option linter.unusedVariables false
namespace Go.Proofs.YthhhgakeeekalaaDoor
open Go.RowKit WM TR

/-- A node in the block gl, its tree in other blocks; all else that lay at W3 is as it was. -/
structure LongR (gl : Nat) (W3 wr : World) (k n m : Int) (tl : List T) (A : Option Addr) (c l : Nat) : Prop where
  blk : Blk wr gl 25 #[.int .i64 k, .int .i64 n, .int .i64 m, .slice A l c]
  rep : Rep wr (Nr gl wr.heap.size) 11 ⟨k, n, m, tl⟩ (nd ⟨k, n, m, tl⟩ A c)
  grown : W3.grownBy wr (some gl)
  len : tl.length = l
theorem nr_gw {gl : Nat} {w w' : World} (h : w.grownBy w' (some gl)) : Keeps (Nr gl w.heap.size) w w' := fun b hb => h.block b hb.2 (fun e => hb.1 (Option.some.inj e))
theorem gw_of_below {w w' : World} {g : Nat} (h : Below w.heap.size w w') : w.grownBy w' (some g) := ⟨h.os, h.tape, h.output, h.size, fun i hi _ => h.block i hi⟩
theorem LongR.next {gl : Nat} {W3 wr w7 : World} {k n m : Int} {tl : List T} {A A7 A0 : Option Addr} {c l c7 c0 : Nat} {k0 : T} {xs : List Value} (h : LongR gl W3 wr k n m tl A c l) (hB : Below wr.heap.size wr w7) (_hg3 : gl < W3.heap.size)
    (hrs : Reps wr (Nr gl wr.heap.size) 10 tl xs) (hk : Rep wr (Nr gl wr.heap.size) 10 k0 (nd k0 A0 c0))
    (hown : w7.ownsRow wr.heap.size 25 4 (.slice A7 (l + 1) c7) (l + 1) (xs ++ nd k0 A0 c0)) :
    LongR gl W3 (w7.setCell ⟨gl, 3, none⟩ (.slice A7 (l + 1) c7)) k n m (tl ++ [k0]) A7 c7 (l + 1) := by
  have hgl := h.blk.lt
  have hr := h.rep.range
  have hz : (w7.setCell ⟨gl, 3, none⟩ (.slice A7 (l + 1) c7)).heap.size = w7.heap.size := World.size_setCell _ _ _
  have hs7 := hB.size
  have hlen : (tl ++ [k0]).length = l + 1 := by rw [List.length_append, h.len]; rfl
  obtain ⟨A', c', e, hc⟩ := own_len hown
  cases e
  have hown2 : (w7.setCell ⟨gl, 3, none⟩ (.slice A7 (l + 1) c7)).ownsRow wr.heap.size 25 4 (.slice A7 (l + 1) c7) (l + 1) (xs ++ nd k0 A0 c0) :=
    hown.kept (gw_setCell (g := gl) (gw_refl w7 gl) (.inl rfl) _) (.inr fun e => by have := (hown.lt _ e).1; omega)
  have hkeep : Keeps (Nr gl wr.heap.size) wr (w7.setCell ⟨gl, 3, none⟩ (.slice A7 (l + 1) c7)) := fun b hb => (Below.heap_setCell w7 ⟨gl, 3, none⟩ _ b hb.1).trans (hB.block b hb.2)
  have hmono : ∀ b, Nr gl wr.heap.size b → Nr gl (w7.setCell ⟨gl, 3, none⟩ (.slice A7 (l + 1) c7)).heap.size b := fun b hb => ⟨hb.1, by have := hb.2; omega⟩
  refine ⟨?_, ?_, ?_, hlen⟩
  · have := (h.blk.below hB hgl).set_ 3 (.slice A7 (l + 1) c7)
    simpa using this
  · refine Rep.mk (d := 10) hr.1 hr.2.1 hr.2.2 (by rw [hlen]; exact hc) ?_ (((hrs.keep hkeep).mono hmono).snoc ((hk.keep hkeep).mono hmono))
    rw [hlen]
    exact (Rd.of_own hown2).mono fun b hb => ⟨by have := hb.1; omega, hb.2⟩
  · exact gw_setCell (gw_trans h.grown (gw_of_below hB)) (.inl rfl) _

/-- A row of nodes in which one is replaced. -/
theorem Reps.set {w : World} {S : Nat → Prop} {d : Nat} {ts : List T} {xs : List Value} {j : Nat} {t : T} {cs : List Value} (h : Reps w S d ts xs) (hj : j < ts.length) (hr : Rep w S d t cs) : Reps w S d (ts.set j t) (xs.take (j * 4) ++ cs ++ xs.drop ((j + 1) * 4)) := by
  have h1 := h.1
  have hl := hr.length
  refine ⟨by simp [h1, hl]; omega, fun i u hu => ?_⟩
  have hi : i < ts.length := by have := (List.getElem?_eq_some_iff.1 hu).1; simpa using this
  by_cases hij : i = j
  · subst hij
    rw [List.getElem?_set_self hi] at hu
    cases hu
    have e : ((xs.take (i * 4) ++ cs ++ xs.drop ((i + 1) * 4)).drop (i * 4)).take 4 = cs := by
      rw [List.append_assoc, List.drop_append, List.drop_eq_nil_of_le (by simp; omega), List.nil_append]
      have : i * 4 - (xs.take (i * 4)).length = 0 := by simp; omega
      rw [this, List.drop_zero, List.take_append_of_le_length (by omega), ← hl, List.take_length]
    rw [e]; exact hr
  · rw [List.getElem?_set_ne (Ne.symm hij)] at hu
    have h2 := h.2 i u hu
    by_cases hlt : i < j
    · have e : ((xs.take (j * 4) ++ cs ++ xs.drop ((j + 1) * 4)).drop (i * 4)).take 4 = (xs.drop (i * 4)).take 4 := by
        rw [List.append_assoc, List.drop_append_of_le_length (by simp; omega), List.take_append_of_le_length (by simp; omega), List.drop_take, List.take_take]
        congr 1; omega
      rw [e]; exact h2
    · have e : (xs.take (j * 4) ++ cs ++ xs.drop ((j + 1) * 4)).drop (i * 4) = xs.drop (i * 4) := by
        rw [List.drop_append, List.drop_eq_nil_of_le (by simp; omega), List.nil_append, List.drop_drop]
        congr 1
        simp
        omega
      rw [e]; exact h2
theorem two_sizes (k n m : Int) (ts : List T) (t : T) : size ⟨k, n, m, ts ++ [t]⟩ = size ⟨k, n, m, ts⟩ + size t := by
  rw [size_eq, size_eq ⟨k, n, m, ts⟩]
  simp [List.map_append, List.sum_append]
  omega
theorem set4 {α : Type} (ys : List α) (o : Nat) (a b c d : α) (h : o + 4 ≤ ys.length) : (((ys.set o a).set (o + 1) b).set (o + 2) c).set (o + 3) d = ys.take o ++ [a, b, c, d] ++ ys.drop (o + 4) := by
  apply List.ext_getElem?
  intro i
  simp only [List.getElem?_set, List.length_set]
  by_cases h1 : i < o
  · rw [if_neg (by omega), if_neg (by omega), if_neg (by omega), if_neg (by omega), List.append_assoc, List.getElem?_append_left (by simp; omega), List.getElem?_take, if_pos h1]
  · by_cases h2 : i < o + 4
    · rw [List.append_assoc, List.getElem?_append_right (by simp; omega), List.getElem?_append_left (by simp; omega)]
      have e : (ys.take o).length = o := by simp; omega
      rw [e]
      have hc : i = o ∨ i = o + 1 ∨ i = o + 2 ∨ i = o + 3 := by omega
      rcases hc with rfl | rfl | rfl | rfl
      · rw [if_neg (by omega), if_neg (by omega), if_neg (by omega), if_pos rfl, if_pos (by omega)]; simp
      · rw [if_neg (by omega), if_neg (by omega), if_pos rfl, if_pos (by omega)]; simp
      · rw [if_neg (by omega), if_pos rfl, if_pos (by omega)]; simp
      · rw [if_pos rfl, if_pos (by omega)]; simp
    · rw [if_neg (by omega), if_neg (by omega), if_neg (by omega), if_neg (by omega), List.append_assoc, List.getElem?_append_right (by simp; omega), List.getElem?_append_right (by simp; omega), List.getElem?_drop]
      congr 1
      simp
      omega
theorem size_set (k n m : Int) (ts : List T) (j : Nat) (t : T) : size ⟨k, n, m, ts.set j t⟩ ≤ size ⟨k, n, m, ts⟩ + size t := by
  rw [size_eq, size_eq ⟨k, n, m, ts⟩]
  have h : ∀ (l : List T) (j : Nat), ((l.set j t).map size).sum ≤ (l.map size).sum + size t := by
    intro l
    induction l with
    | nil => intro j; simp
    | cons a l ih =>
      intro j
      cases j with
      | zero => simp; omega
      | succ j => have := ih j; simp only [List.set_cons_succ, List.map_cons, List.sum_cons]; omega
  have := h ts j
  simp only
  omega
/-- A row of this call's own in which a node is stored. -/
theorem row_stored {w : World} {gb r m n c : Nat} {ys : List Value} {t : T} {A : Option Addr} {c' : Nat} (ho : w.ownsRow (gb + 1) 25 4 (.slice (some ⟨r, 0, none⟩) n c) n ys) (hm : m < n) :
    ((((w.setCell ⟨r, m * 4, none⟩ (.int .i64 t.k)).setCell ⟨r, m * 4 + 1, none⟩ (.int .i64 t.n)).setCell ⟨r, m * 4 + 2, none⟩ (.int .i64 t.m)).setCell ⟨r, m * 4 + 3, none⟩ (.slice A t.kids.length c')).ownsRow (gb + 1) 25 4 (.slice (some ⟨r, 0, none⟩) n c) n (ys.take (m * 4) ++ nd t A c' ++ ys.drop ((m + 1) * 4)) := by
  have h1 := (ho.stored (m * 4) (.int .i64 t.k)).1
  have h2 := (h1.stored (m * 4 + 1) (.int .i64 t.n)).1
  have h3 := (h2.stored (m * 4 + 2) (.int .i64 t.m)).1
  have h4 := (h3.stored (m * 4 + 3) (.slice A t.kids.length c')).1
  rw [set4 _ _ _ _ _ _ (by rw [ho.1]; omega)] at h4
  have e : (m + 1) * 4 = m * 4 + 4 := by omega
  rw [e]
  exact h4
theorem set4_other {w : World} {r b o : Nat} (hb : b ≠ r) (v0 v1 v2 v3 : Value) : ((((w.setCell ⟨r, o, none⟩ v0).setCell ⟨r, o + 1, none⟩ v1).setCell ⟨r, o + 2, none⟩ v2).setCell ⟨r, o + 3, none⟩ v3).heap[b]? = w.heap[b]? :=
  ((Below.heap_setCell _ ⟨r, o + 3, none⟩ v3 b hb).trans ((Below.heap_setCell _ ⟨r, o + 2, none⟩ v2 b hb).trans ((Below.heap_setCell _ ⟨r, o + 1, none⟩ v1 b hb).trans (Below.heap_setCell _ ⟨r, o, none⟩ v0 b hb))))
theorem set4_size (w : World) (r o : Nat) (v0 v1 v2 v3 : Value) : ((((w.setCell ⟨r, o, none⟩ v0).setCell ⟨r, o + 1, none⟩ v1).setCell ⟨r, o + 2, none⟩ v2).setCell ⟨r, o + 3, none⟩ v3).heap.size = w.heap.size := by
  simp only [World.size_setCell]
theorem own_cell {w : World} {base g n cap j : Nat} {e : TypeId} {xs : List Value} (h : w.ownsRow base e 4 (.slice (some ⟨g, 0, none⟩) n cap) n xs) (hj : j < n * 4) : ∃ v, w.cell? ⟨g, j, none⟩ = some v := by
  rw [h.cellAt j hj]
  exact ⟨_, List.getElem?_eq_getElem (by rw [h.1]; exact hj)⟩
theorem body_made {Wr w10 : World} {gb gl r m n c q D c' : Nat} {k0 dt : T} {ys : List Value} {A : Option Addr} (hB : Below Wr.heap.size Wr w10) (hgb : gb = Wr.heap.size) (hx : Blk w10 gb 25 #[.int .i64 k0.k, .int .i64 k0.n, .int .i64 k0.m, .slice (some ⟨r, 0, none⟩) n c])
    (ho : w10.ownsRow (gb + 1) 25 4 (.slice (some ⟨r, 0, none⟩) n c) n ys) (hrs : Reps w10 (fun b => b < gl) 9 k0.kids ys) (hgl : gl ≤ gb) (hn : k0.kids.length = n) (hm : m < n) (hr : inRange k0.k ∧ inRange k0.n ∧ inRange k0.m)
    (hd : Rep w10 (fun b => q ≤ b ∧ b < w10.heap.size) D dt (nd dt A c')) (hq : r < q) :
    ∃ V bt, V = ((((w10.setCell ⟨r, m * 4, none⟩ (.int .i64 dt.k)).setCell ⟨r, m * 4 + 1, none⟩ (.int .i64 dt.n)).setCell ⟨r, m * 4 + 2, none⟩ (.int .i64 dt.m)).setCell ⟨r, m * 4 + 3, none⟩ (.slice A dt.kids.length c')) ∧ size bt ≤ size k0 + size dt ∧ Below Wr.heap.size Wr V ∧ Held V gb bt (10 + D) (some ⟨r, 0, none⟩) c := by
  have hlt := ho.lt r rfl
  have ho2 := row_stored (t := dt) (A := A) (c' := c') ho hm
  have hz := set4_size w10 r (m * 4) (.int .i64 dt.k) (.int .i64 dt.n) (.int .i64 dt.m) (.slice A dt.kids.length c')
  have hoth : ∀ b, b ≠ r → ((((w10.setCell ⟨r, m * 4, none⟩ (.int .i64 dt.k)).setCell ⟨r, m * 4 + 1, none⟩ (.int .i64 dt.n)).setCell ⟨r, m * 4 + 2, none⟩ (.int .i64 dt.m)).setCell ⟨r, m * 4 + 3, none⟩ (.slice A dt.kids.length c')).heap[b]? = w10.heap[b]? := fun b hb => set4_other hb _ _ _ _
  obtain ⟨V, hV⟩ : ∃ V, V = ((((w10.setCell ⟨r, m * 4, none⟩ (.int .i64 dt.k)).setCell ⟨r, m * 4 + 1, none⟩ (.int .i64 dt.n)).setCell ⟨r, m * 4 + 2, none⟩ (.int .i64 dt.m)).setCell ⟨r, m * 4 + 3, none⟩ (.slice A dt.kids.length c')) := ⟨_, rfl⟩
  have hos : V.os = w10.os := by rw [hV]; rfl
  have hot : V.tape = w10.tape := by rw [hV]; rfl
  have hop : V.output = w10.output := by rw [hV]; rfl
  rw [← hV] at ho2 hz hoth
  obtain ⟨A', cc, e, hcc⟩ := own_len ho2
  cases e
  have hlen : (k0.kids.set m dt).length = n := by rw [List.length_set, hn]
  have hx2 : Blk V gb 25 #[.int .i64 k0.k, .int .i64 k0.n, .int .i64 k0.m, .slice (some ⟨r, 0, none⟩) n c] := (hoth gb (by omega)).trans hx
  have hrs2 : Reps V (fun b => b < V.heap.size) (9 + D) k0.kids ys := ((hrs.keep (w' := V) (fun b hb => hoth b (by have : b < gl := hb; omega))).mono fun b (hb : b < gl) => by show b < V.heap.size; have := hx2.lt; omega).deeper (by omega)
  have hd2 : Rep V (fun b => b < V.heap.size) (9 + D) dt (nd dt A c') := ((hd.keep (w' := V) (fun b hb => hoth b (by have := hb.1; omega))).mono fun b hb => by show b < V.heap.size; have := hb.2; omega).deeper (by omega)
  refine ⟨V, ⟨k0.k, k0.n, k0.m, k0.kids.set m dt⟩, hV, ?_, ⟨hos.trans hB.os, hot.trans hB.tape, hop.trans hB.output, by have := hB.size; omega, fun b hb => (hoth b (by omega)).trans (hB.block b hb)⟩, ?_, ?_⟩
  · have := size_set k0.k k0.n k0.m k0.kids m dt
    rw [sz_kids] at this
    exact this
  · show Blk V gb _ #[.int .i64 k0.k, .int .i64 k0.n, .int .i64 k0.m, .slice (some ⟨r, 0, none⟩) (k0.kids.set m dt).length c]
    rw [hlen]; exact hx2
  · have e10 : 10 + D = 9 + D + 1 := by omega
    rw [e10]
    refine Rep.mk hr.1 hr.2.1 hr.2.2 (by rw [hlen]; exact hcc) ?_ (hrs2.set (by omega) hd2)
    rw [hlen]
    exact (Rd.of_own ho2).mono fun b hb => hb.2
theorem bt' {a w w1 : World} (h : Below a.heap.size a w) (hb : Below w.heap.size w w1) : Below a.heap.size a w1 := h.trans (hb.mono h.size)
/-- A program of one function, just made. -/
theorem deep_held {V : World} {g D c : Nat} {bt : T} {A : Option Addr} (h : Held V g bt D A c) :
    Held ((V.alloc (.cells #[.int .i64 bt.k, .int .i64 bt.n, .int .i64 bt.m, .slice A bt.kids.length c] 25)).alloc (.cells #[.int .i64 27, .int .i64 0, .int .i64 0, .slice (some ⟨V.heap.size, 0, none⟩) 1 1] 25)) (V.heap.size + 1) ⟨27, 0, 0, [bt]⟩ (D + 1) (some ⟨V.heap.size, 0, none⟩) 1 := by
  have hb := below_new V (.cells #[.int .i64 bt.k, .int .i64 bt.n, .int .i64 bt.m, .slice A bt.kids.length c] 25)
  have h2 := h.next hb
  have hrt : Rep (V.alloc (.cells #[.int .i64 bt.k, .int .i64 bt.n, .int .i64 bt.m, .slice A bt.kids.length c] 25)) (fun b => b < (V.alloc (.cells #[.int .i64 bt.k, .int .i64 bt.n, .int .i64 bt.m, .slice A bt.kids.length c] 25)).heap.size) (D + 1) ⟨27, 0, 0, [bt]⟩ (nd ⟨27, 0, 0, [bt]⟩ (some ⟨V.heap.size, 0, none⟩) 1) :=
    Rep.mk (ts := [bt]) (by unfold inRange; omega) in0 in0 (Nat.le_refl 1) (xs := nd bt A c) ⟨rfl, fun _ => ⟨_, rfl, by show V.heap.size < (V.alloc _).heap.size; rw [size_alloc]; omega, cells_new V (nd bt A c) 25⟩⟩ (Reps.one h2.2)
  have h3 := Held.new hrt (fun b hb => hb)
  rw [size_alloc] at h3
  exact h3
/-- A literal of six nodes, kept shut. -/
def bs6 (parts : Array (Nat × Value)) : Sem Value := Instr.buildSlice 23 6 parts
theorem shutB6 (parts : Array (Nat × Value)) : Instr.buildSlice 23 6 parts = bs6 parts := rfl
set_option maxRecDepth 100000 in
theorem run_bs6 (W : World) (a1 a2 a3 a4 b1 b2 b3 b4 c1 c2 c3 c4 d1 d2 d3 d4 e1 e2 e3 e4 f1 f2 f3 f4 : Value) : (bs6 #[(0, .agg #[a1, a2, a3, a4]), (1, .agg #[b1, b2, b3, b4]), (2, .agg #[c1, c2, c3, c4]), (3, .agg #[d1, d2, d3, d4]), (4, .agg #[e1, e2, e3, e4]), (5, .agg #[f1, f2, f3, f4])]).run Tryd.prog W = .ok (.slice (some ⟨W.heap.size, 0, none⟩) 6 6) (W.alloc (.cells #[a1, a2, a3, a4, b1, b2, b3, b4, c1, c2, c3, c4, d1, d2, d3, d4, e1, e2, e3, e4, f1, f2, f3, f4] 25)) := by kernel_rfl
end Go.Proofs.YthhhgakeeekalaaDoor
