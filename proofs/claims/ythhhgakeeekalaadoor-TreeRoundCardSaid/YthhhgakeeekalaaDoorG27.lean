/-
  What At and Set leave, of the program and of the reference alike; the arguments' places; rows that grow.
-/
import Derived.Test.YthhhgakeeekalaaDoorG24
import Derived.Test.YthhhgakeeekalaaDoorG25
import Derived.Test.YthhhgakeeekalaaDoorG26
set_option linter.unusedVariables false
namespace Go.Proofs.YthhhgakeeekalaaDoor
open Go.RowKit WM TR

/-- What a function leaves that hands a node out, with something beside it: the node shares memory with what was below B, and with nothing that was made between B and the call. -/
def Out2N (B : Nat) (u : T) (v : Value) (w : World) (e : Ending) (w' : World) : Prop :=
  ∃ A' c' D, e = .returned (.tuple #[.agg #[.int .i64 u.k, .int .i64 u.n, .int .i64 u.m, .slice A' u.kids.length c'], v]) ∧ Rep w' (fun b => b < w'.heap.size ∧ (b < B ∨ w.heap.size ≤ b)) D u (nd u A' c') ∧ Below w.heap.size w w'
section
variable {w w' wx : World} {D Dx c cx pc : Nat} {t x : T} {A X P : Option Addr} {p : List Int}
theorem rat_any (hb : Below wx.heap.size wx w) (h : Rep wx (fun b => b < wx.heap.size) D t (nd t A c)) (hp : RdAt wx P p) (hs : size t ≤ 1000000) (hpc : p.length ≤ pc) (hpl : p.length ≤ 9223372036854775807) :
    Calls Tryd.prog 41 #[.agg #[.int .i64 t.k, .int .i64 t.n, .int .i64 t.m, .slice A t.kids.length c], .slice P p.length pc] w (Out2N wx.heap.size ((at? p t).getD zeroT) (.bool (at? p t).isSome) w) := by
  cases D with
  | zero => exact h.elim
  | succ D =>
    refine (rat_is p D t (fun b => b < wx.heap.size) A P c pc w (h.keep (Keeps.below (in_lt wx) hb)) (Rd.keep hp (Keeps.below (in_lt wx) hb)) ((in_lt wx).more hb.size) hpc hs hpl).mono ?_
    rintro e w' ⟨u, A', c', hu, he, hr, hb'⟩
    subst hu
    exact ⟨A', c', D + 1, he, Rep.mono (fun b (hb2 : b < wx.heap.size) => ⟨Nat.lt_of_lt_of_le hb2 (Nat.le_trans hb.size hb'.size), .inl hb2⟩) (hr.keep (Keeps.below ((in_lt wx).more hb.size) hb')), hb'⟩
theorem set_any (hb : Below wx.heap.size wx w) (h : Rep wx (fun b => b < wx.heap.size) D t (nd t A c)) (hx : Rep wx (fun b => b < wx.heap.size) Dx x (nd x X cx)) (hp : RdAt wx P p) (hs : size t ≤ 1000000) (hsx : size x ≤ 1000000) (hpc : p.length ≤ pc) (hpl : p.length ≤ 9223372036854775807) :
    Calls Tryd.prog 51 #[.agg #[.int .i64 t.k, .int .i64 t.n, .int .i64 t.m, .slice A t.kids.length c], .slice P p.length pc, .agg #[.int .i64 x.k, .int .i64 x.n, .int .i64 x.m, .slice X x.kids.length cx]] w (Out2N wx.heap.size ((set? p t x).getD zeroT) (.int .i64 (codeOf (set? p t x))) w) := by
  refine (tset_is D Dx t x _ _ _ A X c cx w p P pc (h.keep (Keeps.below (in_lt wx) hb)) (hx.keep (Keeps.below (in_lt wx) hb)) (Rd.keep hp (Keeps.below (in_lt wx) hb)) ((in_lt wx).more hb.size) ((in_lt wx).more hb.size) ((in_lt wx).more hb.size) hs hsx hpc hpl).mono ?_
  rintro e w' ⟨u, A', c', D', hu, he, hr, hb'⟩
  subst hu
  exact ⟨A', c', D', he, hr.mono fun b hb => ⟨hb.2, .inr hb.1⟩, hb'⟩
theorem rset_any (hb : Below wx.heap.size wx w) (h : Rep wx (fun b => b < wx.heap.size) D t (nd t A c)) (hx : Rep wx (fun b => b < wx.heap.size) Dx x (nd x X cx)) (hp : RdAt wx P p) (hs : size t ≤ 1000000) (hpc : p.length ≤ pc) (hpl : p.length ≤ 9223372036854775807) :
    Calls Tryd.prog 42 #[.agg #[.int .i64 t.k, .int .i64 t.n, .int .i64 t.m, .slice A t.kids.length c], .slice P p.length pc, .agg #[.int .i64 x.k, .int .i64 x.n, .int .i64 x.m, .slice X x.kids.length cx]] w (Out2N wx.heap.size ((set? p t x).getD zeroT) (.int .i64 (codeOf (set? p t x))) w) := by
  refine (set_is p D Dx t x (fun b => b < wx.heap.size) A P X c pc cx p.length w rfl (h.keep (Keeps.below (in_lt wx) hb)) (hx.keep (Keeps.below (in_lt wx) hb)) (Rd.keep hp (Keeps.below (in_lt wx) hb)) ((in_lt wx).more hb.size) hpc hs hpl).mono ?_
  rintro e w' ⟨u, A', c', D', hu, he, hr, hb'⟩
  subst hu
  refine ⟨A', c', D', he, hr.mono fun b hb2 => ?_, hb'⟩
  rcases hb2 with hb2 | hb2
  · have hb3 : b < wx.heap.size := hb2
    exact ⟨Nat.lt_of_lt_of_le hb3 (Nat.le_trans hb.size hb'.size), .inl hb3⟩
  · exact ⟨hb2.2, .inr hb2.1⟩
end
/-- A node that was stored late into a block of its own. -/
theorem Held.early2 {w' : World} {g D c B L : Nat} {u : T} {A : Option Addr} {cs : List Value} (hb : Blk w' g 25 cs.toArray) (hs : cs.length = 4) (hg : B ≤ g) (hL : g < L) (h : Rep w' (fun b => b < w'.heap.size ∧ (b < B ∨ L ≤ b)) D u (nd u A c)) :
    Held ((((w'.setCell ⟨g, 0, none⟩ (.int .i64 u.k)).setCell ⟨g, 1, none⟩ (.int .i64 u.n)).setCell ⟨g, 2, none⟩ (.int .i64 u.m)).setCell ⟨g, 3, none⟩ (.slice A u.kids.length c)) g u D A c :=
  ⟨put4_blk hb hs _ _ _ _, (put4_rep h (fun e => by rcases e.2 with h | h <;> omega) _ _ _ _).mono fun b hb => by
    have := hb.1
    simpa using this⟩
theorem getD_size {o : Option T} {n : Nat} (h : ∀ u, o = some u → size u ≤ n) (hn : 1 ≤ n) : size (o.getD zeroT) ≤ n := by
  cases o with
  | none => show size zeroT ≤ n; rw [size_eq]; simpa [zeroT] using hn
  | some u => exact h u rfl

/-- A row of this call's own that grows, and what lies below the call's beginning. -/
theorem below_grown2 {a w w' : World} {o : Obj} {row : Option Nat} (hb : Below a.heap.size a w) (h : (w.alloc o).grownBy w' row) (hr : ∀ b, row = some b → a.heap.size ≤ b) : Below a.heap.size a w' :=
  have hb := ba hb o
  ⟨h.os.trans hb.os, h.tape.trans hb.tape, h.output.trans hb.output, Nat.le_trans hb.size h.size, fun i hi => (h.block i (Nat.lt_of_lt_of_le hi hb.size) (fun e => by have := hr i e.symm; omega)).trans (hb.block i hi)⟩
theorem int_reads (w : World) (x : Int) : Reads (w.alloc (.cells #[.int .i64 x] 3)) (w.heap.size + 1) 1 (some ⟨w.heap.size, 0, none⟩) 1 (vi [x]) :=
  ⟨rfl, fun _ => ⟨_, rfl, Nat.lt_succ_self _, cells_new w [.int .i64 x] 3⟩⟩
theorem RdAt.of_own {w : World} {base c : Nat} {A : Option Addr} {q : List Int} (h : w.ownsRow base 3 1 (.slice A q.length c) q.length (vi q)) : RdAt w A q :=
  (Rd.of_own h).mono fun b hb => hb.2
end Go.Proofs.YthhhgakeeekalaaDoor
