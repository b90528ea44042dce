/-
  Nodes, places and rows that a walk of a law keeps, below the world's end.
-/
import Derived.Test.YthhhgakeeekalaaDoorG23
import Derived.Test.YthhhgakeeekalaaDoorG08
import Derived.Test.YthhhgakeeekalaaDoorG12
import Derived.Test.YthhhgakeeekalaaDoorG17
set_option linter.unusedVariables false
namespace Go.Proofs.YthhhgakeeekalaaDoor
open Go.RowKit WM TR

/-- A node in a block of its own, its tree below the world's end. -/
def Held (w : World) (g : Nat) (t : T) (D : Nat) (A : Option Addr) (c : Nat) : Prop :=
  Blk w g 25 #[.int .i64 t.k, .int .i64 t.n, .int .i64 t.m, .slice A t.kids.length c] ∧ Rep w (fun b => b < w.heap.size) D t (nd t A c)
/-- Places, below the world's end. -/
def PsAt (w : World) (A : Option Addr) (ps : List (List Int)) : Prop := Ps w (fun b => b < w.heap.size) A ps
/-- A place, below the world's end. -/
def RdAt (w : World) (A : Option Addr) (p : List Int) : Prop := Rd w (fun b => b < w.heap.size) 1 A p.length (vi p)
section
variable {w w' : World} {g D c : Nat} {t : T} {A : Option Addr}
theorem Held.new {S : Nat → Prop} (h : Rep w S D t (nd t A c)) (hin : In S w.heap.size) : Held (w.alloc (.cells #[.int .i64 t.k, .int .i64 t.n, .int .i64 t.m, .slice A t.kids.length c] 25)) w.heap.size t D A c :=
  ⟨Blk.new _ _ _, (h.keep (Keeps.below hin (below_new _ _))).mono fun b hb => by
    have := hin b hb
    show b < (w.alloc _).heap.size
    rw [size_alloc]; omega⟩
theorem Held.next (h : Held w g t D A c) (hb : Below w.heap.size w w') : Held w' g t D A c :=
  ⟨h.1.below hb h.1.lt, (h.2.keep (Keeps.below (in_lt w) hb)).mono fun b (hb' : b < w.heap.size) => Nat.lt_of_lt_of_le hb' hb.size⟩
theorem Held.load (h : Held w g t D A c) : ∀ i z, ([.int .i64 t.k, .int .i64 t.n, .int .i64 t.m, .slice A t.kids.length c] : List Value)[i]? = some z → w.cell? ⟨g, 0 + i, none⟩ = some z := fun i z hz => by
  rw [h.1.cell (0 + i), Nat.zero_add]; simpa using hz
theorem Held.cells (h : Held w g t D A c) : w.cell? ⟨g, 0, none⟩ = some (.int .i64 t.k) ∧ w.cell? ⟨g, 1, none⟩ = some (.int .i64 t.n) ∧ w.cell? ⟨g, 2, none⟩ = some (.int .i64 t.m) ∧ w.cell? ⟨g, 3, none⟩ = some (.slice A t.kids.length c) :=
  ⟨h.1.cell 0, h.1.cell 1, h.1.cell 2, h.1.cell 3⟩
theorem PsAt.next {ps : List (List Int)} (h : PsAt w A ps) (hb : Below w.heap.size w w') : PsAt w' A ps :=
  (Ps.keep h (Keeps.below (in_lt w) hb)).mono fun b (hb' : b < w.heap.size) => Nat.lt_of_lt_of_le hb' hb.size
theorem RdAt.next {p : List Int} (h : RdAt w A p) (hb : Below w.heap.size w w') : RdAt w' A p :=
  (Rd.keep h (Keeps.below (in_lt w) hb)).mono fun b (hb' : b < w.heap.size) => Nat.lt_of_lt_of_le hb' hb.size
end
/-- A node that was stored late into a block of its own. -/
theorem Held.early {w' : World} {g D c : Nat} {u : T} {A : Option Addr} {cs : List Value} {B : Nat} (hb : Blk w' g 25 cs.toArray) (hs : cs.length = 4) (hg : g < B) (h : Rep w' (fun b => B ≤ b ∧ b < w'.heap.size) D u (nd u A c)) :
    Held ((((w'.setCell ⟨g, 0, none⟩ (.int .i64 u.k)).setCell ⟨g, 1, none⟩ (.int .i64 u.n)).setCell ⟨g, 2, none⟩ (.int .i64 u.m)).setCell ⟨g, 3, none⟩ (.slice A u.kids.length c)) g u D A c :=
  ⟨put4_blk hb hs _ _ _ _, (put4_rep h (fun e => by have := e.1; omega) _ _ _ _).mono fun b hb => by
    have := hb.2
    simpa using this⟩
/-- What a function leaves that hands a node out, with something beside it. -/
def Out2S (u : T) (v : Value) (w : World) (e : Ending) (w' : World) : Prop :=
  ∃ A' c' D, e = .returned (.tuple #[.agg #[.int .i64 u.k, .int .i64 u.n, .int .i64 u.m, .slice A' u.kids.length c'], v]) ∧ Rep w' (fun b => w.heap.size ≤ b ∧ b < w'.heap.size) D u (nd u A' c') ∧ Below w.heap.size w w'
/-- What a function leaves that hands a node out, with something beside it. -/
def Out2 (u : T) (v : Value) (w : World) (e : Ending) (w' : World) : Prop :=
  ∃ A' c' D, e = .returned (.tuple #[.agg #[.int .i64 u.k, .int .i64 u.n, .int .i64 u.m, .slice A' u.kids.length c'], v]) ∧ Rep w' (fun b => b < w'.heap.size) D u (nd u A' c') ∧ Below w.heap.size w w'
theorem set_ok {w : World} {D Dx c cx pc : Nat} {t x u : T} {A X P : Option Addr} {p : List Int} (h : Rep w (fun b => b < w.heap.size) D t (nd t A c)) (hx : Rep w (fun b => b < w.heap.size) Dx x (nd x X cx)) (hp : RdAt w P p) (hs : size t ≤ 1000000) (hsx : size x ≤ 1000000) (hpc : p.length ≤ pc) (hpl : p.length ≤ 9223372036854775807) (hu : set? p t x = some u) :
    Calls Tryd.prog 51 #[.agg #[.int .i64 t.k, .int .i64 t.n, .int .i64 t.m, .slice A t.kids.length c], .slice P p.length pc, .agg #[.int .i64 x.k, .int .i64 x.n, .int .i64 x.m, .slice X x.kids.length cx]] w (Out2 u (.int .i64 0) w) := by
  have H := tset_is D Dx t x _ _ _ A X c cx w p P pc h hx hp (in_lt w) (in_lt w) (in_lt w) hs hsx hpc hpl
  rw [hu] at H
  refine H.mono ?_
  intro e w' h
  obtain ⟨A', c', D', he, hr, hb⟩ := h.some_
  exact ⟨A', c', D', he, hr.mono fun b hb => hb.2, hb⟩

theorem st_lt {w : World} (h : ST w) : 0 < w.heap.size := by
  have := h 0 _ rfl 0 _ rfl
  exact block_lt_of_cell this
theorem new_lt (w : World) (o : Obj) : w.heap.size < ((w.alloc o).drew).heap.size := by
  show w.heap.size < (w.alloc o).heap.size
  rw [size_alloc]; omega
theorem put4_later {a w : World} {g : Nat} (h : Below a.heap.size a w) (hg : a.heap.size ≤ g) (v0 v1 v2 v3 : Value) :
    Below a.heap.size a ((((w.setCell ⟨g, 0, none⟩ v0).setCell ⟨g, 1, none⟩ v1).setCell ⟨g, 2, none⟩ v2).setCell ⟨g, 3, none⟩ v3) := put4_below h _ _ _ _ hg
end Go.Proofs.YthhhgakeeekalaaDoor

/-
  The reference's Set: the row of kids being made anew.
-/
namespace Go.Proofs.YthhhgakeeekalaaDoor
open Go.RowKit WM TR

/-- At the head of a round: m kids of ts stand in the new row; the trees that they hold lie as the world wx has them. -/
def SetR (wx : World) (Sx : Nat → Prop) (gN D m : Nat) (k n mm : Int) (ts : List T) (v : Value) (xs : List Value) (wr : World) : Prop :=
  Below wx.heap.size wx wr ∧ Blk wr gN 25 #[.int .i64 k, .int .i64 n, .int .i64 mm, v] ∧ wr.ownsRow (gN + 1) 25 4 v m xs ∧ Reps wx Sx D (ts.take m) xs
section
variable {wx wr : World} {Sx : Nat → Prop} {gN D m : Nat} {k n mm : Int} {ts : List T} {v : Value} {xs : List Value}
theorem SetR.first (wx : World) (Sx : Nat → Prop) (D : Nat) (t : T) (ts : List T) :
    SetR wx Sx wx.heap.size D 0 t.k t.n t.m ts (.slice none 0 0) [] (wx.alloc (.cells #[.int .i64 t.k, .int .i64 t.n, .int .i64 t.m, .slice none 0 0] 25)) :=
  ⟨below_new _ _, Blk.new wx _ _, World.ownsRow_nil _ _ _ _, Reps.nil⟩
theorem SetR.below {W w4 : World} (h : SetR wx Sx wx.heap.size D m k n mm ts v xs wr) (hW : Below wr.heap.size wr W) (hgw4 : W.grownBy w4 v.ownBlock) : Below wx.heap.size wx w4 := by
  have hvlt : ∀ b, v.ownBlock = some b → wx.heap.size + 1 ≤ b ∧ b < wr.heap.size := h.2.2.1.lt
  have hbW := bt h.1 hW
  exact ⟨hgw4.os.trans hbW.os, hgw4.tape.trans hbW.tape, hgw4.output.trans hbW.output, Nat.le_trans hbW.size hgw4.size, fun i hi => (hgw4.block i (Nat.lt_of_lt_of_le hi hbW.size) (fun e => by have := (hvlt i e.symm).1; omega)).trans (hbW.block i hi)⟩
theorem SetR.next {w4 W : World} {u : T} {A' : Option Addr} {c' : Nat} {v4 : Value} (h : SetR wx Sx gN D m k n mm ts v xs wr) (hN : wx.heap.size ≤ gN) (hu : ts[m]? = some u) (hr : Rep wx Sx D u (nd u A' c')) (hW : Below wr.heap.size wr W)
    (hown4 : w4.ownsRow (gN + 1) 25 4 v4 (m + 1) (xs ++ nd u A' c')) (hgw4 : W.grownBy w4 v.ownBlock) :
    SetR wx Sx gN D (m + 1) k n mm ts v4 (xs ++ nd u A' c') (w4.setCell ⟨gN, 3, none⟩ v4) := by
  obtain ⟨h1, h2, h3, h4⟩ := h
  have hvlt : ∀ b, v.ownBlock = some b → gN + 1 ≤ b ∧ b < wr.heap.size := h3.lt
  have hv4 : ∀ b, v4.ownBlock = some b → gN + 1 ≤ b ∧ b < w4.heap.size := hown4.lt
  have hbW := bt h1 hW
  have hb4 : Below wx.heap.size wx w4 := ⟨hgw4.os.trans hbW.os, hgw4.tape.trans hbW.tape, hgw4.output.trans hbW.output, Nat.le_trans hbW.size hgw4.size, fun i hi => (hgw4.block i (Nat.lt_of_lt_of_le hi hbW.size) (fun e => by have := (hvlt i e.symm).1; omega)).trans (hbW.block i hi)⟩
  refine ⟨hb4.setCell hN _, ?_, ?_, ?_⟩
  · have hb := (h2.below hW h2.lt).grown hgw4 (fun e => by have := (hvlt _ e.symm).1; omega)
    exact hb.set_ 3 v4
  · exact hown4.kept (gw_setCell (g := gN) (gw_refl w4 gN) (.inl rfl) v4) (.inr fun e => by have := (hv4 gN e).1; omega)
  · rw [List.take_add_one, hu, Option.toList_some]
    exact h4.snoc hr
/-- The row is whole: what stands in the result's block. -/
theorem SetR.done {S : Nat → Prop} {e r : Nat} {A' : Option Addr} {c' : Nat} {w : World} (h : SetR wx (fun b => S b ∨ (e ≤ b ∧ b < wx.heap.size)) wx.heap.size D m k n mm ts (.slice A' m c') xs wr) (hm : m = ts.length) (hc : m ≤ c') (hin : In S w.heap.size) (hk : inRange k) (hn : inRange n) (hmm : inRange mm)
    (hw : Below w.heap.size w wx) (hr1 : w.heap.size ≤ r) (hr2 : r < e) (he : e ≤ wx.heap.size) (v0 v1 v2 v3 : Value) :
    Rep ((((wr.setCell ⟨r, 0, none⟩ v0).setCell ⟨r, 1, none⟩ v1).setCell ⟨r, 2, none⟩ v2).setCell ⟨r, 3, none⟩ v3) (Plus S w.heap.size (((((wr.setCell ⟨r, 0, none⟩ v0).setCell ⟨r, 1, none⟩ v1).setCell ⟨r, 2, none⟩ v2).setCell ⟨r, 3, none⟩ v3)).heap.size) (D + 1) ⟨k, n, mm, ts⟩ (nd ⟨k, n, mm, ts⟩ A' c') := by
  obtain ⟨h1, h2, h3, h4⟩ := h
  subst hm
  rw [List.take_length] at h4
  have hg := gw4 wr r v0 v1 v2 v3
  have hs := hg.2
  have hs1 := h1.size
  have hs0 := hw.size
  refine Rep.mk hk hn hmm hc (xs := xs) ?_ ?_
  · have h := Rd.of_own (h3.kept hg.1 (.inr fun e => by have := (h3.lt _ e).1; omega))
    refine h.mono fun b hb => .inr ⟨by omega, hb.2⟩
  · refine (h4.keep (w' := _) (fun b hb => ?_)).mono (fun b hb => ?_)
    · have hbl : b < wx.heap.size := by
        rcases hb with hb | hb
        · have := hin b hb; omega
        · exact hb.2
      have hbr : b ≠ r := by
        rcases hb with hb | hb
        · have := hin b hb; omega
        · omega
      exact (hg.1.block b (by omega) (fun e => hbr (Option.some.inj e))).trans (h1.block b hbl)
    · rcases hb with hb | hb
      · exact .inl hb
      · exact .inr ⟨by omega, by omega⟩
end
end Go.Proofs.YthhhgakeeekalaaDoor
