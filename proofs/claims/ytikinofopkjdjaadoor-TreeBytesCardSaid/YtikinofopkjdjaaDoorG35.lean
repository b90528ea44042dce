/-
  Nodes, places and rows that a walk of a law keeps, below the world's end.
-/
import Derived.Test.YtikinofopkjdjaaDoorG34
import Derived.Test.YtikinofopkjdjaaDoorG08
import Derived.Test.YtikinofopkjdjaaDoorG27
import Derived.Test.YtikinofopkjdjaaDoorG29
import Derived.Deep.RegionWith
import Derived.Deep.DeepCutAuto
set_option linter.unusedVariables false
namespace Go.Proofs.YtikinofopkjdjaaDoor
open Go.RowKit WM TR

/-- A node in a block of its own, its tree below the world's end. -/
def Held (w : World) (g : Nat) (t : T) (D : Nat) (A : Option Addr) (c : Nat) : Prop :=
  Blk w g 26 #[.int .i64 t.k, .int .i64 t.n, .int .i64 t.m, .slice A t.kids.length c] ∧ Rep w (fun b => b < w.heap.size) D t (nd t A c)
/-- Places, below the world's end. -/
def PsAt (w : World) (A : Option Addr) (ps : List (List Int)) : Prop := Ps w (fun b => b < w.heap.size) A ps
/-- A place, below the world's end. -/
def RdAt (w : World) (A : Option Addr) (p : List Int) : Prop := Rd w (fun b => b < w.heap.size) 1 A p.length (vi p)
section
variable {w w' : World} {g D c : Nat} {t : T} {A : Option Addr}
theorem Held.new {S : Nat → Prop} (h : Rep w S D t (nd t A c)) (hin : In S w.heap.size) : Held (w.alloc (.cells #[.int .i64 t.k, .int .i64 t.n, .int .i64 t.m, .slice A t.kids.length c] 26)) w.heap.size t D A c :=
  ⟨Blk.new _ _ _, (h.keep (Keeps.below hin (below_new _ _))).mono fun b hb => by
    have := hin b hb
    show b < (w.alloc _).heap.size
    rw [size_alloc]; omega⟩
theorem Held.next (h : Held w g t D A c) (hb : Below w.heap.size w w') : Held w' g t D A c :=
  ⟨h.1.below hb h.1.lt, (h.2.keep (Keeps.below (in_lt w) hb)).mono fun b (hb' : b < w.heap.size) => Nat.lt_of_lt_of_le hb' hb.size⟩
theorem Held.load (h : Held w g t D A c) : ∀ i z, ([.int .i64 t.k, .int .i64 t.n, .int .i64 t.m, .slice A t.kids.length c] : List Value)[i]? = some z → w.cell? ⟨g, 0 + i, none⟩ = some z := fun i z hz => by
  rw [h.1.cell (0 + i), Nat.zero_add]; simpa using hz
theorem Held.cells (h : Held w g t D A c) : w.cell? ⟨g, 0, none⟩ = some (.int .i64 t.k) ∧ w.cell? ⟨g, 1, none⟩ = some (.int .i64 t.n) ∧ w.cell? ⟨g, 2, none⟩ = some (.int .i64 t.m) ∧ w.cell? ⟨g, 3, none⟩ = some (.slice A t.kids.length c) :=
  ⟨h.1.cell 0, h.1.cell 1, h.1.cell 2, h.1.cell 3⟩
theorem PsAt.next {ps : List (List Int)} (h : PsAt w A ps) (hb : Below w.heap.size w w') : PsAt w' A ps :=
  (Ps.keep h (Keeps.below (in_lt w) hb)).mono fun b (hb' : b < w.heap.size) => Nat.lt_of_lt_of_le hb' hb.size
theorem RdAt.next {p : List Int} (h : RdAt w A p) (hb : Below w.heap.size w w') : RdAt w' A p :=
  (Rd.keep h (Keeps.below (in_lt w) hb)).mono fun b (hb' : b < w.heap.size) => Nat.lt_of_lt_of_le hb' hb.size
end
/-- A node that was stored late into a block of its own. -/
theorem Held.early {w' : World} {g D c : Nat} {u : T} {A : Option Addr} {cs : List Value} {B : Nat} (hb : Blk w' g 26 cs.toArray) (hs : cs.length = 4) (hg : g < B) (h : Rep w' (fun b => B ≤ b ∧ b < w'.heap.size) D u (nd u A c)) :
    Held ((((w'.setCell ⟨g, 0, none⟩ (.int .i64 u.k)).setCell ⟨g, 1, none⟩ (.int .i64 u.n)).setCell ⟨g, 2, none⟩ (.int .i64 u.m)).setCell ⟨g, 3, none⟩ (.slice A u.kids.length c)) g u D A c :=
  ⟨put4_blk hb hs _ _ _ _, (put4_rep h (fun e => by have := e.1; omega) _ _ _ _).mono fun b hb => by
    have := hb.2
    simpa using this⟩
/-- What a function leaves that hands a node out, with something beside it. -/
def Out2S (u : T) (v : Value) (w : World) (e : Ending) (w' : World) : Prop :=
  ∃ A' c' D, e = .returned (.tuple #[.agg #[.int .i64 u.k, .int .i64 u.n, .int .i64 u.m, .slice A' u.kids.length c'], v]) ∧ Rep w' (fun b => w.heap.size ≤ b ∧ b < w'.heap.size) D u (nd u A' c') ∧ Below w.heap.size w w'
/-- What a function leaves that hands a node out, with something beside it. -/
def Out2 (u : T) (v : Value) (w : World) (e : Ending) (w' : World) : Prop :=
  ∃ A' c' D, e = .returned (.tuple #[.agg #[.int .i64 u.k, .int .i64 u.n, .int .i64 u.m, .slice A' u.kids.length c'], v]) ∧ Rep w' (fun b => b < w'.heap.size) D u (nd u A' c') ∧ Below w.heap.size w w'
theorem set_ok {w : World} {D Dx c cx pc : Nat} {t x u : T} {A X P : Option Addr} {p : List Int} (h : Rep w (fun b => b < w.heap.size) D t (nd t A c)) (hx : Rep w (fun b => b < w.heap.size) Dx x (nd x X cx)) (hp : RdAt w P p) (hs : size t ≤ 1000000) (hsx : size x ≤ 1000000) (hpc : p.length ≤ pc) (hpl : p.length ≤ 9223372036854775807) (hu : set? p t x = some u) :
    Calls Tryd.prog 52 #[.agg #[.int .i64 t.k, .int .i64 t.n, .int .i64 t.m, .slice A t.kids.length c], .slice P p.length pc, .agg #[.int .i64 x.k, .int .i64 x.n, .int .i64 x.m, .slice X x.kids.length cx]] w (Out2 u (.int .i64 0) w) := by
  have H := tset_is D Dx t x _ _ _ A X c cx w p P pc h hx hp (in_lt w) (in_lt w) (in_lt w) hs hsx hpc hpl
  rw [hu] at H
  refine H.mono ?_
  intro e w' h
  obtain ⟨A', c', D', he, hr, hb⟩ := h.some_
  exact ⟨A', c', D', he, hr.mono fun b hb => hb.2, hb⟩

theorem st_lt {w : World} (h : ST w) : 0 < w.heap.size := by
  have := h 0 _ rfl 0 _ rfl
  exact block_lt_of_cell this
theorem new_lt (w : World) (o : Obj) : w.heap.size < ((w.alloc o).drew).heap.size := by
  show w.heap.size < (w.alloc o).heap.size
  rw [size_alloc]; omega
theorem put4_later {a w : World} {g : Nat} (h : Below a.heap.size a w) (hg : a.heap.size ≤ g) (v0 v1 v2 v3 : Value) :
    Below a.heap.size a ((((w.setCell ⟨g, 0, none⟩ v0).setCell ⟨g, 1, none⟩ v1).setCell ⟨g, 2, none⟩ v2).setCell ⟨g, 3, none⟩ v3) := put4_below h _ _ _ _ hg
end Go.Proofs.YtikinofopkjdjaaDoor

/-
  The reference's read.
-/
namespace Go.Proofs.YtikinofopkjdjaaDoor
open Go.RowKit WM TR

set_option maxRecDepth 100000 in
set_option maxHeartbeats 8000000 in
theorem read_short (d : Nat) (A : Option Addr) (c : Nat) (l : List UInt8) (w : World) (ha : Reads w w.heap.size 1 A l.length (bs l)) (hlc : l.length ≤ c) (hl : l.length ≤ 1000000) (D : Int) (h : ∀ xs u, gElems 1 gInt l = .ok xs u → xs.length ≠ 4 ∨ D = 0) :
    Calls Tryd.prog 49 #[.slice A l.length c, .int .i64 D] w (ReadPost d none w) := by
  obtain ⟨r, hr⟩ : ∃ r, r = w.heap.size := ⟨_, rfl⟩
  have HRR := Lib.hid hr
  obtain ⟨W1, hW1⟩ : ∃ W1, W1 = w.alloc (.cells #[.int .i64 0, .int .i64 0, .int .i64 0, .slice none 0 0] 26) := ⟨_, rfl⟩
  have HZ : Hid (Blk W1 r 26 #[.int .i64 0, .int .i64 0, .int .i64 0, .slice none 0 0]) := Lib.hid (by rw [hW1, hr]; exact Blk.new _ _ _)
  have HB1 : Hid (Below w.heap.size w W1) := Lib.hid (by rw [hW1]; exact below_new _ _)
  have HC := Lib.hid (refGetInts A c l W1 ((ha.below HB1.out).more HB1.out.size) hlc hl)
  obtain ⟨n0, hn0⟩ : ∃ n, n = l.length := ⟨_, rfl⟩
  have HN0 := Lib.hid hn0
  have HW1 := Lib.hid hW1
  rw [← hn0] at hlc hl ⊢
  cases hgi : gElems 1 gInt l with
  | more =>
    rw [hgi] at HC
    clear hgi ha hW1 hr hn0 h
    go_enter Tryd.func49, Tryd.ntmps49
    go_upto_region 1 with fail
    rw [← HW1.out, ← HRR.out]
    go_wp2_with (go_at_call 77; rw [HN0.out]; refine HC.out.mono ?_; rintro e w2 ⟨rfl, hb2⟩; have hz := HZ.out.below hb2 HZ.out.lt; have z0 := hz.cell 0; have z1 := hz.cell 1; have z2 := hz.cell 2; have z3 := hz.cell 3; have f0 := hz.frozen 0; have f1 := hz.frozen 1; have f2 := hz.frozen 2; have f3 := hz.frozen 3; simp only [List.getElem?_toArray, List.getElem?_cons_zero, List.getElem?_cons_succ] at z0 z1 z2 z3; have HB2 := Lib.hid (bt HB1.out hb2); have HZ2 := Lib.hid hz; rw [← HN0.out]; clear hb2 hz)
    refine bodyPost_ret (v := .tuple #[.agg #[.int .i64 0, .int .i64 0, .int .i64 0, .slice none 0 0], .int .i64 (-1)]) (by simp [results, Tryd.results49, go_sem, z0, z1, z2, z3]) rfl ?_
    exact ⟨_, _, _, _, _, _, rfl, put4_below HB2.out _ _ _ _ (by have := HRR.out; omega)⟩
  | form =>
    rw [hgi] at HC
    clear hgi ha hW1 hr hn0 h
    go_enter Tryd.func49, Tryd.ntmps49
    go_upto_region 1 with fail
    rw [← HW1.out, ← HRR.out]
    go_wp2_with (go_at_call 77; rw [HN0.out]; refine HC.out.mono ?_; rintro e w2 ⟨rfl, hb2⟩; have hz := HZ.out.below hb2 HZ.out.lt; have z0 := hz.cell 0; have z1 := hz.cell 1; have z2 := hz.cell 2; have z3 := hz.cell 3; have f0 := hz.frozen 0; have f1 := hz.frozen 1; have f2 := hz.frozen 2; have f3 := hz.frozen 3; simp only [List.getElem?_toArray, List.getElem?_cons_zero, List.getElem?_cons_succ] at z0 z1 z2 z3; have HB2 := Lib.hid (bt HB1.out hb2); have HZ2 := Lib.hid hz; rw [← HN0.out]; clear hb2 hz)
    refine bodyPost_ret (v := .tuple #[.agg #[.int .i64 0, .int .i64 0, .int .i64 0, .slice none 0 0], .int .i64 (-1)]) (by simp [results, Tryd.results49, go_sem, z0, z1, z2, z3]) rfl ?_
    exact ⟨_, _, _, _, _, _, rfl, put4_below HB2.out _ _ _ _ (by have := HRR.out; omega)⟩
  | ok xs u =>
    have hx := h xs u hgi
    rw [hgi] at HC
    obtain ⟨X, hX⟩ : ∃ X, xs.length = X := ⟨_, rfl⟩
    rw [hX] at hx
    have HX := Lib.hid hX
    clear hgi ha hW1 hr hn0 h hX
    by_cases hx4 : X = 4
    · have hd0 : D = 0 := by rcases hx with h | h; exact absurd hx4 h; exact h
      subst hx4 hd0
      clear hx
      go_enter Tryd.func49, Tryd.ntmps49
      go_upto_region 1 with fail
      rw [← HW1.out, ← HRR.out]
      go_wp2_with (go_at_call 77; rw [HN0.out]; refine HC.out.mono ?_; rintro e w2 ⟨A2, c2, rfl, hown2, hb2⟩; have hz := HZ.out.below hb2 HZ.out.lt; have z0 := hz.cell 0; have z1 := hz.cell 1; have z2 := hz.cell 2; have z3 := hz.cell 3; have f0 := hz.frozen 0; have f1 := hz.frozen 1; have f2 := hz.frozen 2; have f3 := hz.frozen 3; simp only [List.getElem?_toArray, List.getElem?_cons_zero, List.getElem?_cons_succ] at z0 z1 z2 z3; have HB2 := Lib.hid (bt HB1.out hb2); have HZ2 := Lib.hid hz; rw [← HN0.out]; clear hb2 hz; rw [HX.out]; clear hown2)
      refine bodyPost_ret (v := .tuple #[.agg #[.int .i64 0, .int .i64 0, .int .i64 0, .slice none 0 0], .int .i64 (-1)]) (by simp [results, Tryd.results49, go_sem, z0, z1, z2, z3]) rfl ?_
      exact ⟨_, _, _, _, _, _, rfl, put4_below HB2.out _ _ _ _ (by have := HRR.out; omega)⟩
    · have hne : ((X : Int) != 4) = true := by simp; omega
      clear hx
      go_enter Tryd.func49, Tryd.ntmps49
      go_upto_region 1 with fail
      rw [← HW1.out, ← HRR.out]
      go_wp2_with (go_at_call 77; rw [HN0.out]; refine HC.out.mono ?_; rintro e w2 ⟨A2, c2, rfl, hown2, hb2⟩; have hz := HZ.out.below hb2 HZ.out.lt; have z0 := hz.cell 0; have z1 := hz.cell 1; have z2 := hz.cell 2; have z3 := hz.cell 3; have f0 := hz.frozen 0; have f1 := hz.frozen 1; have f2 := hz.frozen 2; have f3 := hz.frozen 3; simp only [List.getElem?_toArray, List.getElem?_cons_zero, List.getElem?_cons_succ] at z0 z1 z2 z3; have HB2 := Lib.hid (bt HB1.out hb2); have HZ2 := Lib.hid hz; rw [← HN0.out]; clear hb2 hz; rw [HX.out]; clear hown2)
      refine bodyPost_ret (v := .tuple #[.agg #[.int .i64 0, .int .i64 0, .int .i64 0, .slice none 0 0], .int .i64 (-1)]) (by simp [results, Tryd.results49, go_sem, z0, z1, z2, z3]) rfl ?_
      exact ⟨_, _, _, _, _, _, rfl, put4_below HB2.out _ _ _ _ (by have := HRR.out; omega)⟩
end Go.Proofs.YtikinofopkjdjaaDoor
