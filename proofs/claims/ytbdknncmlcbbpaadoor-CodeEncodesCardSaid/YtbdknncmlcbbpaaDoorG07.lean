/-
  Small things; the reference's Around and At.
-/
import Derived.Test.YtbdknncmlcbbpaaDoorG05
import Derived.Test.YtbdknncmlcbbpaaDoorG06
import Derived.LoopTactic
import Derived.WalkLawsBesides
import Derived.Deep.RegionWith
import Derived.Test.YtbdknncmlcbbpaaDoorG02
import Derived.OneCell
import Derived.BigQuiet
import Derived.StillTailTactics
import Derived.Deep.RegionHeld2
import Derived.Deep.RegionHeld3
import Derived.Deep.DeepCutAuto
import Derived.Deep.CutRange
import Derived.Laws.OwnMore
import Derived.Test.YtbdknncmlcbbpaaDoorRows
import Derived.ProofKit
import Derived.LaidMore
import Derived.OpenShut
import Derived.ChangeArms
import Derived.Stop.Joined
import Derived.Test.YtbdknncmlcbbpaaDoorG01
import Derived.ArgAppend
import Derived.ChangeOld
import Derived.ChangeMaps5
set_option linter.unusedVariables false
namespace Go.Proofs.YtbdknncmlcbbpaaDoor
open Go.RowKit WM TR

theorem ret_i {a b : Int} (h : a = b) : Ending.returned (.int .i64 a) = .returned (.int .i64 b) := by rw [h]
theorem ret_b {a b : Bool} (h : a = b) : Ending.returned (.bool a) = .returned (.bool b) := by rw [h]
theorem around_is (x n : Int) (hx : inRange x) (hn : 0 < n) (w : World) :
    Calls Tryd.prog 21 #[.int .i64 x, .int .i64 n] w fun e w' => e = .returned (.int .i64 (arnd x n)) ∧ w = w' := by
  unfold inRange at hx
  by_cases h : x < 0
  · have hr : arnd x n = (-(x + 1)) % n := by unfold arnd; rw [if_pos h]
    rw [hr]
    clear hr
    go_enter Tryd.func21, Tryd.ntmps21
    go_wp2
    go_ret
    exact ⟨ret_i (by rw [← Int.neg_tmod, Int.tmod_eq_emod_of_nonneg (by omega)]), rfl⟩
  · have hr : arnd x n = x % n := by unfold arnd; rw [if_neg h]
    rw [hr]
    clear hr
    go_enter Tryd.func21, Tryd.ntmps21
    go_wp2
    go_ret
    exact ⟨rfl, rfl⟩

set_option maxRecDepth 100000 in
set_option maxHeartbeats 1000000 in
theorem at_is (L : List Int) (S : Nat → Prop) (A : Option Addr) (c : Nat) (i : Nat) (n : Int) (w : World) (hL : Rd w S 1 A L.length (vi L)) (hr : ∀ x ∈ L, inRange x) (hn : 0 < n) (hl : L.length ≤ 9223372036854775807) (hi : i ≤ 1000000) :
    Calls Tryd.prog 32 #[.slice A L.length c, .int .i64 (i : Int), .int .i64 n] w fun e w' => e = .returned (.int .i64 (numAt L i n)) ∧ w = w' := by
  obtain ⟨l, hl2⟩ : ∃ l, l = L.length := ⟨_, rfl⟩
  rw [← hl2] at hL hl ⊢
  by_cases h : i < l
  · obtain ⟨x, hx⟩ : ∃ x, L[i]? = some x := ⟨_, List.getElem?_eq_getElem (by rw [← hl2]; exact h)⟩
    have hnum : numAt L i n = arnd x n := by unfold numAt; rw [hx]
    have hxr := hr x (List.mem_of_getElem? hx)
    obtain ⟨b, off, hA, _, hc⟩ := hL.lit (by omega)
    subst hA
    have hcell := hc i _ (vi_get hx)
    have HX := Lib.hid hxr
    rw [hnum]
    clear hc hnum hx hxr hr hL hl2
    go_enter Tryd.func32, Tryd.ntmps32
    go_wp2_with (go_at_call 21; refine (around_is x n HX.out hn _).mono ?_; rintro e w' ⟨rfl, rfl⟩)
    go_ret
    exact ⟨rfl, rfl⟩
  · have hnum : numAt L i n = 0 := by unfold numAt; rw [List.getElem?_eq_none (by omega)]
    rw [hnum]
    clear hnum hr hL hl2
    go_enter Tryd.func32, Tryd.ntmps32
    go_wp2_with fail
    go_ret
    exact ⟨rfl, rfl⟩

end Go.Proofs.YtbdknncmlcbbpaaDoor

/-
  CODE IN MEMORY: instructions as three cells; the maker of code: nine cells, and a row of instructions of its own.
-/
namespace Go.Proofs.YtbdknncmlcbbpaaDoor
open Go.RowKit WM TR KM

def insC (x : Ins) : List Value := [.int .i64 x.op, .int .i64 x.a, .int .i64 x.b]
def insCs : List Ins → List Value
  | [] => []
  | x :: l => insC x ++ insCs l
theorem insCs_length : ∀ l : List Ins, (insCs l).length = l.length * 3
  | [] => rfl
  | x :: l => by
    rw [insCs, List.length_append, insCs_length l, List.length_cons]
    show 3 + _ = _; omega
theorem insCs_append : ∀ l m : List Ins, insCs (l ++ m) = insCs l ++ insCs m
  | [], m => rfl
  | x :: l, m => by rw [List.cons_append, insCs, insCs_append l m, insCs, List.append_assoc]
theorem insCs_get : ∀ (l : List Ins) (i : Nat) (x : Ins), l[i]? = some x → ∀ j v, (insC x)[j]? = some v → (insCs l)[i * 3 + j]? = some v
  | [], i, x, h, _, _, _ => by simp at h
  | y :: l, 0, x, h, j, v, hv => by
    simp only [List.getElem?_cons_zero, Option.some.injEq] at h
    subst h
    have hj : j < 3 := (List.getElem?_eq_some_iff.1 hv).1
    rw [insCs, List.getElem?_append_left (by show _ < 3; omega), Nat.zero_mul, Nat.zero_add]
    exact hv
  | y :: l, i + 1, x, h, j, v, hv => by
    rw [insCs, List.getElem?_append_right (by show 3 ≤ _; omega), show (i + 1) * 3 + j - (insC y).length = i * 3 + j by show _ - 3 = _; omega]
    exact insCs_get l i x (by simpa using h) j v hv
theorem insC_one (x : Ins) : ∀ u ∈ insC x, u.oneCell' = true := by
  intro u hu
  simp only [insC, List.mem_cons, List.not_mem_nil, or_false] at hu
  rcases hu with rfl | rfl | rfl <;> rfl
theorem insCs_one : ∀ (l : List Ins), ∀ u ∈ insCs l, u.oneCell' = true
  | [], u, h => by cases h
  | x :: l, u, h => by
    rcases List.mem_append.1 h with h | h
    · exact insC_one x u h
    · exact insCs_one l u h
theorem insCs_set : ∀ (l : List Ins) (i : Nat) (x : Ins) (v : Int), l[i]? = some x → (insCs l).set (i * 3 + 1) (.int .i64 v) = insCs (l.set i ⟨x.op, v, x.b⟩)
  | [], i, x, _, h => by simp at h
  | y :: l, 0, x, v, h => by
    simp only [List.getElem?_cons_zero, Option.some.injEq] at h
    subst h
    rfl
  | y :: l, i + 1, x, v, h => by
    rw [insCs, List.set_append_right _ _ (by show 3 ≤ _; omega), show (i + 1) * 3 + 1 - (insC y).length = i * 3 + 1 by show _ - 3 = _; omega, insCs_set l i x v (by simpa using h), List.set_cons_succ, insCs]
def okI (x : Ins) : Prop := inRange x.op ∧ inRange x.a ∧ inRange x.b
theorem ins_info : (Tryd.prog.info? 54).map (fun i => (i.zero, i.size, i.bytes)) = some (some (.agg #[.int .i64 0, .int .i64 0, .int .i64 0]), 3, 24) := by kernel_rfl
theorem ins_new (w : World) (x : Ins) : Reads (w.alloc (.cells #[.int .i64 x.op, .int .i64 x.a, .int .i64 x.b] 54)) (w.heap.size + 1) 3 (some ⟨w.heap.size, 0, none⟩) 1 (insC x) :=
  ⟨rfl, fun _ => ⟨_, rfl, Nat.lt_succ_self _, cells_new w (insC x) 54⟩⟩

/-- What a maker keeps as it is. -/
structure Fx where
  ch : Int
  bF : Nat
  oF : Nat
  nF : Nat
  cF : Nat
  p : Int
  wd : Int
  AL : Option Addr
  nL : Nat
  cL : Nat
def mk8 (fx : Fx) (vb : Value) (a l : Int) : List Value := [.int .i64 fx.ch, .slice (some ⟨fx.bF, fx.oF, none⟩) fx.nF fx.cF, .int .i64 fx.p, .int .i64 fx.wd, vb, .slice none 0 0, .slice fx.AL fx.nL fx.cL, .int .i64 a, .int .i64 l]
/-- A maker, with its instructions. -/
structure MkR (w : World) (g : Nat) (fx : Fx) (v : Option Addr × Nat) (body : List Ins) (a : Nat) (l : Int) : Prop where
  blk : Blk w g 62 (mk8 fx (.slice v.1 body.length v.2) a l).toArray
  own : w.ownsRow (g + 1) 54 3 (.slice v.1 body.length v.2) body.length (insCs body)
  ok : ∀ x ∈ body, okI x
theorem MkR.cell {w : World} {g : Nat} {fx : Fx} {v : Option Addr × Nat} {body : List Ins} {a : Nat} {l : Int} (h : MkR w g fx v body a l) (i : Nat) : w.cell? ⟨g, i, none⟩ = (mk8 fx (.slice v.1 body.length v.2) a l)[i]? := by
  rw [h.blk.cell i]; simp
theorem MkR.cells {w : World} {g : Nat} {fx : Fx} {v : Option Addr × Nat} {body : List Ins} {a : Nat} {l : Int} (h : MkR w g fx v body a l) :
    w.cell? ⟨g, 0, none⟩ = some (.int .i64 fx.ch) ∧ w.cell? ⟨g, 1, none⟩ = some (.slice (some ⟨fx.bF, fx.oF, none⟩) fx.nF fx.cF) ∧ w.cell? ⟨g, 3, none⟩ = some (.int .i64 fx.wd) ∧ w.cell? ⟨g, 4, none⟩ = some (.slice v.1 body.length v.2) ∧ w.cell? ⟨g, 6, none⟩ = some (.slice fx.AL fx.nL fx.cL) ∧ w.cell? ⟨g, 7, none⟩ = some (.int .i64 a) ∧ w.cell? ⟨g, 8, none⟩ = some (.int .i64 l) ∧
      w.frozen? ⟨g, 4, none⟩ = false ∧ w.frozen? ⟨g, 7, none⟩ = false ∧ w.frozen? ⟨g, 8, none⟩ = false :=
  ⟨h.cell 0, h.cell 1, h.cell 3, h.cell 4, h.cell 6, h.cell 7, h.cell 8, h.blk.frozen 4, h.blk.frozen 7, h.blk.frozen 8⟩
theorem MkR.far {w : World} {g : Nat} {fx : Fx} {v : Option Addr × Nat} {body : List Ins} {a : Nat} {l : Int} (h : MkR w g fx v body a l) (i : Nat) (u : Value) : (w.setCell ⟨g, i, none⟩ u).ownsRow (g + 1) 54 3 (.slice v.1 body.length v.2) body.length (insCs body) :=
  ownsRow_setCell_other h.own (fun e => by have := (h.own.lt _ e).1; simp at this; omega) u
theorem MkR.left_ {w : World} {g : Nat} {fx : Fx} {v : Option Addr × Nat} {body : List Ins} {a : Nat} {l : Int} (h : MkR w g fx v body a l) (l' : Int) : MkR (w.setCell ⟨g, 8, none⟩ (.int .i64 l')) g fx v body a l' :=
  ⟨by have := h.blk.set_ 8 (.int .i64 l'); simpa [mk8] using this, h.far _ _, h.ok⟩
theorem MkR.at_ {w : World} {g : Nat} {fx : Fx} {v : Option Addr × Nat} {body : List Ins} {a : Nat} {l : Int} (h : MkR w g fx v body a l) : MkR (w.setCell ⟨g, 7, none⟩ (.int .i64 ((a : Int) + 1))) g fx v body (a + 1) l :=
  ⟨by have := h.blk.set_ 7 (.int .i64 ((a : Int) + 1)); simpa [mk8] using this, h.far _ _, h.ok⟩
theorem MkR.lt {w : World} {g : Nat} {fx : Fx} {v : Option Addr × Nat} {body : List Ins} {a : Nat} {l : Int} (h : MkR w g fx v body a l) : g < w.heap.size := h.blk.lt
theorem MkR.drewN {w : World} {g : Nat} {fx : Fx} {v : Option Addr × Nat} {body : List Ins} {a : Nat} {l : Int} (h : MkR w g fx v body a l) (n : Nat) : MkR (w.drewN n) g fx v body a l := ⟨h.blk, h.own, h.ok⟩
theorem MkR.drew {w : World} {g : Nat} {fx : Fx} {v : Option Addr × Nat} {body : List Ins} {a : Nat} {l : Int} (h : MkR w g fx v body a l) : MkR w.drew g fx v body a l := ⟨h.blk, h.own, h.ok⟩
/-- The operand A of an instruction, put anew. -/
theorem MkR.fix {w : World} {g : Nat} {fx : Fx} {v : Option Addr × Nat} {body : List Ins} {a : Nat} {l : Int} (h : MkR w g fx v body a l) {i : Nat} (hi : i < body.length) :
    ∃ gb, v.1 = some ⟨gb, 0, none⟩ ∧ g < gb ∧ (∃ z : Int, w.cell? ⟨gb, i * 3 + 1, none⟩ = some (.int .i64 z)) ∧ w.frozen? ⟨gb, i * 3 + 1, none⟩ = false ∧ ∀ u : Int, inRange u → ∃ body', body'.length = body.length ∧ MkR (w.setCell ⟨gb, i * 3 + 1, none⟩ (.int .i64 u)) g fx v body' a l := by
  obtain ⟨gb, cap, hv, hb, hlt⟩ := h.own.form (by omega)
  obtain ⟨A, c⟩ := v
  simp only [Value.slice.injEq, true_and] at hv
  obtain ⟨rfl, rfl⟩ := hv
  obtain ⟨x, hx⟩ : ∃ x, body[i]? = some x := ⟨_, List.getElem?_eq_getElem hi⟩
  have hc := h.own.cells (g := gb) rfl _ _ (insCs_get body i x hx 1 (.int .i64 x.a) rfl)
  rw [Addr.add_lit, Nat.zero_add] at hc
  refine ⟨gb, rfl, by omega, ⟨x.a, hc⟩, h.own.frozenAt _, fun u hu => ⟨body.set i ⟨x.op, u, x.b⟩, by simp, ?_, ?_, fun y hy => ?_⟩⟩
  · have := h.blk.far (p := ⟨gb, i * 3 + 1, none⟩) (by show g ≠ gb; omega) (.int .i64 u)
    rw [List.length_set]; exact this
  · have := (h.own.stored (i * 3 + 1) (.int .i64 u)).1
    rw [insCs_set body i x u hx] at this
    rw [List.length_set]; exact this
  · rcases List.mem_or_eq_of_mem_set hy with hy | rfl
    · exact h.ok y hy
    · have := h.ok x (List.mem_of_getElem? hx)
      exact ⟨this.1, hu, this.2.2⟩
end Go.Proofs.YtbdknncmlcbbpaaDoor

/-
  The table of what instructions do, as the program's text lays it.
-/
namespace Go.Proofs.YtbdknncmlcbbpaaDoor
open Go.ChangeShapes Go.WideShapes Go.ChangeAt Go.RowKit WM TR KM

def effL (r : Int × Bool × Int × Bool) : List Lit := [.int .i64 r.1, .bool r.2.1, .int .i64 r.2.2.1, .bool r.2.2.2]
def effV (r : Int × Bool × Int × Bool) : List Value := [.int .i64 r.1, .bool r.2.1, .int .i64 r.2.2.1, .bool r.2.2.2]
theorem effects_is : (Rows.laid_scoria_code_effects : DataW Unit) = .agg (eff.map fun r => .agg ((effL r).map fun x => .lit x)) := by kernel_rfl
/-- The table lies in its block. -/
def ET (w : World) : Prop := ∀ (t : Nat) (r : Int × Bool × Int × Bool), eff[t]? = some r → ∀ (i : Nat) (v : Value), (effV r)[i]? = some v → w.cell? ⟨0, t * 4 + i, none⟩ = some v
theorem ET.below {w w' : World} {B : Nat} (h : ET w) (hb : Below B w w') (hB : 0 < B) : ET w' := fun t r hr i x hx => (hb.cell (p := ⟨0, _, none⟩) hB).trans (h t r hr i x hx)
section
variable {H : Type} {enc : TypeId × Value → H} {w : World} {base : Nat} {spare : Nat → Bool} {held : Bool}
theorem field_i {n : Nat} {fs : Array Field} {cs : List Value} {xs : List (DataW H × List MemPlace)} {i : Nat} {f : Field} {k : IntKind} {a : Int}
    (hf : ∀ (i : Nat) (f : Field), fs[i]? = some f → DataW.trod enc Tryd.prog w base spare held n f.type ((cs.drop f.offset).take (Tryd.prog.cellsOf f.type)) = xs[i]?)
    (hfi : fs[i]? = some f) (ho : f.offset = i) (ht : Tryd.prog.underlying f.type = some (.int k)) (hc : Tryd.prog.cellsOf f.type = 1) (hx : (xs.map (·.1))[i]? = some (.lit (.int k a))) : cs[i]? = some (.int k a) := by
  have h1 := hf i f hfi
  rw [ho, hc] at h1
  rw [List.getElem?_map] at hx
  cases hxi : xs[i]? with
  | none => rw [hxi] at hx; cases hx
  | some z =>
    rw [hxi] at h1 hx
    obtain ⟨m, e1, e2, _⟩ := DataW.trod_int ht h1
    rw [e2] at hx
    simp only [Option.map_some, Option.some.injEq, DataW.lit.injEq, Lit.int.injEq, true_and] at hx
    subst hx
    have h4 : ((cs.drop i).take 1)[0]? = some (.int k m) := by rw [e1]; rfl
    simpa using h4
theorem field_b {n : Nat} {fs : Array Field} {cs : List Value} {xs : List (DataW H × List MemPlace)} {i : Nat} {f : Field} {a : Bool}
    (hf : ∀ (i : Nat) (f : Field), fs[i]? = some f → DataW.trod enc Tryd.prog w base spare held n f.type ((cs.drop f.offset).take (Tryd.prog.cellsOf f.type)) = xs[i]?)
    (hfi : fs[i]? = some f) (ho : f.offset = i) (ht : Tryd.prog.underlying f.type = some .bool) (hc : Tryd.prog.cellsOf f.type = 1) (hx : (xs.map (·.1))[i]? = some (.lit (.bool a))) : cs[i]? = some (.bool a) := by
  have h1 := hf i f hfi
  rw [ho, hc] at h1
  rw [List.getElem?_map] at hx
  cases hxi : xs[i]? with
  | none => rw [hxi] at hx; cases hx
  | some z =>
    rw [hxi] at h1 hx
    obtain ⟨m, e1, e2⟩ := DataW.trod_bool ht h1
    rw [e2] at hx
    simp only [Option.map_some, Option.some.injEq, DataW.lit.injEq, Lit.bool.injEq] at hx
    subst hx
    have h4 : ((cs.drop i).take 1)[0]? = some (.bool m) := by rw [e1]; rfl
    simpa using h4
theorem cells_eff : Tryd.prog.cellsOf 123 = 4 := by kernel_rfl
theorem eff_at {fuel : Nat} {cs : List Value} {x : DataW H × List MemPlace} {r : Int × Bool × Int × Bool} (h : DataW.trod enc Tryd.prog w base spare held fuel 123 cs = some x) (hx : x.1 = .agg ((effL r).map fun x => .lit x))
    (i : Nat) (v : Value) (hv : (effV r)[i]? = some v) : cs[i]? = some v := by
  obtain ⟨xs, m, _, rfl, _, hn, hf⟩ := DataW.trod_struct Tryd.underlying123 h
  have h2 : xs.map (·.1) = (effL r).map fun x => .lit x := by
    have : DataW.agg (xs.map (·.1)) = .agg ((effL r).map fun x => .lit x) := hx
    injection this
  have hi : i < 4 := (List.getElem?_eq_some_iff.1 hv).1
  match i, hi with
  | 0, _ =>
    obtain rfl := Option.some.inj hv
    exact field_i (i := 0) (k := .i64) hf rfl rfl Tryd.underlying3 (by kernel_rfl) (by rw [h2]; rfl)
  | 1, _ =>
    obtain rfl := Option.some.inj hv
    exact field_b (i := 1) hf rfl rfl Tryd.underlying4 (by kernel_rfl) (by rw [h2]; rfl)
  | 2, _ =>
    obtain rfl := Option.some.inj hv
    exact field_i (i := 2) (k := .i64) hf rfl rfl Tryd.underlying3 (by kernel_rfl) (by rw [h2]; rfl)
  | 3, _ =>
    obtain rfl := Option.some.inj hv
    exact field_b (i := 3) hf rfl rfl Tryd.underlying4 (by kernel_rfl) (by rw [h2]; rfl)
theorem effs_of {fuel : Nat} {cs : List Value} {x : DataW H × List MemPlace} (h : DataW.trod enc Tryd.prog w base spare held fuel 124 cs = some x) (hx : x.1 = .agg (eff.map fun r => .agg ((effL r).map fun x => .lit x))) (t : Nat) (r : Int × Bool × Int × Bool) (hr : eff[t]? = some r) (i : Nat) (v : Value) (hv : (effV r)[i]? = some v) : cs[t * 4 + i]? = some v := by
  obtain ⟨xs, m, _, rfl, _, hn, hel⟩ := DataW.trod_array Tryd.underlying124 h
  have ht : t < 19 := (List.getElem?_eq_some_iff.1 hr).1
  have he := hel t ht
  rw [cells_eff] at he
  have hxt : t < xs.length := by omega
  rw [List.getElem?_eq_getElem hxt] at he
  have h2 : (xs.map (·.1))[t]? = some (.agg ((effL r).map fun x => .lit x)) := by
    have : DataW.agg (xs.map (·.1)) = .agg (eff.map fun r => .agg ((effL r).map fun x => .lit x)) := hx
    injection this with this
    rw [this, List.getElem?_map, hr]
    rfl
  rw [List.getElem?_map, List.getElem?_eq_getElem hxt, Option.map_some, Option.some.injEq] at h2
  have hi : i < 4 := (List.getElem?_eq_some_iff.1 hv).1
  have h3 := eff_at he h2 i v hv
  rw [List.getElem?_take, if_pos hi, List.getElem?_drop] at h3
  exact h3
end
theorem gEff : Tryd.prog.globalNamed "scoria/code.effects" = some 0 := by kernel_rfl
theorem tEff : (Tryd.prog.globals[0]?).map (·.type) = some 124 := by kernel_rfl
def laidEff : List (String × DataW Unit) := [("scoria/code.effects", Rows.laid_scoria_code_effects)]
theorem of_eff {W : World} (h : laidMetH Tryd.prog laidEff W) : ET W := by
  rw [MakeChecks.laidMetH_plain _ _ _ (by kernel_rfl)] at h
  obtain ⟨ps, ⟨g1, t1, cs1, f1, p1, q1, hg1, ht1, hv1, hd1, _, _⟩, _, _⟩ := h
  obtain rfl := Option.some.inj (gEff.symm.trans hg1)
  obtain rfl := Option.some.inj (tEff.symm.trans ht1)
  exact fun t r hr i x hx => (World.var?_cell hg1 hv1 (t * 4 + i)).trans (by simpa using effs_of hd1 effects_is t r hr i x hx)
/-- The door's own heap meets the condition. -/
theorem door_eff (os : Os) (args : Array Value) : laidMetH Tryd.prog laidEff ((World.doorLaid Tryd.prog 200 os).forCall (fun _ _ => 0) ⟨#[], args, []⟩).memory :=
  laidMetH_of_parts3 (fuel := 8) (laidMet_of_run' 8 (by kernel_rfl) (by kernel_rfl)) (by kernel_rfl) (by kernel_rfl)
end Go.Proofs.YtbdknncmlcbbpaaDoor

/-
  What the frames of package code's laws want besides.
-/
namespace Go.Proofs.YtbdknncmlcbbpaaDoor
open Go.ChangeShapes Go.WideShapes Go.ChangeAt Go.RowKit WM TR KM

theorem k_own : ownKnob Tryd.prog.godebug = none := by kernel_rfl
theorem et_lt {w : World} (h : ET w) : 0 < w.heap.size := block_lt_of_cell (a := ⟨0, 0, none⟩) (h 0 _ rfl 0 _ rfl)
theorem k_laidOut : laidOutB Tryd.prog = true := by kernel_rfl
end Go.Proofs.YtbdknncmlcbbpaaDoor

/-
  FOR THE LAWS: an argument of bytes, as a list.
-/
namespace Go.Proofs.YtbdknncmlcbbpaaDoor
open Go.RowKit WM

def IsRow (k : IntKind) (w : World) (a : Option Addr) (len cap : Nat) (zs : List Int) : Prop :=
  (a = none ∧ len = 0 ∧ cap = 0 ∧ zs = []) ∨
  ∃ x, a = some x ∧ len ≤ cap ∧ cap ≤ maxLen ∧ zs.length = cap ∧ (∀ i, i < zs.length → w.cell? (x.add i) = some (.int k (zs.getD i 0))) ∧ ∀ n ∈ zs, (Lit.int k n).wf = true
theorem arg_bytes {W : World} {A : Option Addr} {len cap : Nat} {zs : List Int} (hl : len ≤ cap) (hz : zs.length = cap) (h : 0 < len → ∃ x, A = some x ∧ ∀ i, i < zs.length → W.cell? (x.add i) = some (.int .u8 (zs.getD i 0))) (hw : ∀ n ∈ zs, (Lit.int .u8 n).wf = true) :
    ∃ l : List UInt8, l.length = len ∧ Reads W W.heap.size 1 A len (bs l) := by
  refine ⟨(zs.take len).map fun z => UInt8.ofNat z.toNat, by simp; omega, by simp [bs_length]; omega, fun hn => ?_⟩
  obtain ⟨x, rfl, hc⟩ := h hn
  have h0 := hc 0 (by omega)
  refine ⟨x, rfl, ?_, fun j u hu => ?_⟩
  · have := block_lt_of_cell h0
    rwa [block_of_add] at this
  · have hj : j < len := by
      have := (List.getElem?_eq_some_iff.1 hu).1
      simp [bs_length] at this; omega
    rw [hc j (by omega)]
    have hzj : j < zs.length := by omega
    have hm := hw _ (List.getElem_mem hzj)
    have hb : 0 ≤ zs[j] ∧ zs[j] < 256 := by simp [Lit.wf, IntKind.min, IntKind.max, IntKind.bits, IntKind.signed] at hm; omega
    unfold bs at hu
    rw [List.getElem?_map, List.getElem?_map, List.getElem?_take, if_pos hj, List.getElem?_eq_getElem hzj] at hu
    simp only [Option.map_some, Option.some.injEq] at hu
    rw [← hu, List.getD_eq_getElem?_getD, List.getElem?_eq_getElem hzj]
    simp [UInt8.toNat_ofNat']
    omega

theorem row_bytes {w : World} {a : Option Addr} {len cap : Nat} {zs : List Int} (h : (a = none ∧ len = 0 ∧ cap = 0 ∧ zs = []) ∨ ∃ x, a = some x ∧ len ≤ cap ∧ cap ≤ maxLen ∧ zs.length = cap ∧ (∀ i, i < zs.length → w.cell? (x.add i) = some (.int .u8 (zs.getD i 0))) ∧ ∀ n ∈ zs, (Lit.int .u8 n).wf = true) :
    ∃ l : List UInt8, l.length = len ∧ len ≤ cap ∧ len ≤ 9223372036854775807 ∧ Reads w w.heap.size 1 a len (bs l) := by
  rcases h with ⟨rfl, rfl, rfl, rfl⟩ | ⟨x, rfl, hl, hm, hz, hc, hw⟩
  · exact ⟨[], rfl, Nat.le_refl _, by omega, Reads.none_⟩
  · obtain ⟨l, h1, h2⟩ := arg_bytes (A := some x) hl hz (fun _ => ⟨x, rfl, hc⟩) hw
    exact ⟨l, h1, hl, by unfold maxLen at hm; omega, h2⟩
end Go.Proofs.YtbdknncmlcbbpaaDoor

/-
  Slices of integers: 'l[1:]'; the reference's SameInts.
-/
namespace Go.Proofs.YtbdknncmlcbbpaaDoor
open Go.RowKit WM TR

theorem in0 : inRange 0 := by unfold inRange; omega
theorem ints_slice : Tryd.prog.underlying 22 = some (.slice (Tryd.prog.elem 22)) := by kernel_rfl
theorem ints_elem : Tryd.prog.elem 22 = 3 := by kernel_rfl
theorem size3 (W : World) : (sizeOf 3).run Tryd.prog W = .ok 1 W := by kernel_rfl
/-- 'l[1:]' -/
theorem cut1 (b off n c : Nat) (hn : 1 ≤ n) : ∀ W : World, (Instr.sliceAt 22 (.slice (some ⟨b, off, none⟩) n c) (some (.int .i64 1)) none none).run Tryd.prog W = .ok (.slice (if c = 1 then some ⟨b, off, none⟩ else some ⟨b, off + 1, none⟩) (n - 1) (c - 1)) W := by
  intro W
  rw [run_sliceAt_slice W 22 _ _ _ _ ints_slice, run_slice_l W 22 (some ⟨b, off, none⟩) n c ints_slice .i64 1 (by omega) (by omega), ints_elem, size3]
  by_cases h : c = 1
  · subst h; simp [sliced]
  · simp [sliced, h, Addr.add]
theorem Rd.cut1 {w : World} {S : Nat → Prop} {b off n c : Nat} {i : Int} {p : List Int} (h : Rd w S 1 (some ⟨b, off, none⟩) (n + 1) (vi (i :: p))) (hc : n + 1 ≤ c) :
    Rd w S 1 (if c = 1 then some ⟨b, off, none⟩ else some ⟨b, off + 1, none⟩) n (vi p) := by
  refine ⟨by have := h.1; simp [vi] at this ⊢; omega, fun hn => ?_⟩
  obtain ⟨ad, e, hb, hcell⟩ := h.2 (by omega)
  injection e with e
  subst e
  rw [if_neg (by omega)]
  refine ⟨_, rfl, hb, fun j u hu => ?_⟩
  have := hcell (j + 1) u (by simpa [vi] using hu)
  rw [Addr.add_lit] at this ⊢
  rwa [show off + 1 + j = off + (j + 1) by omega]

set_option maxRecDepth 100000 in
set_option maxHeartbeats 1000000 in
theorem sameInts_is (l m : List Int) (S : Nat → Prop) (A B : Option Addr) (c c' : Nat) (w : World) (hl : Rd w S 1 A l.length (vi l)) (hm : Rd w S 1 B m.length (vi m)) (hin : In S w.heap.size) (hll : l.length ≤ 1000000) (hml : m.length ≤ 1000000) (r : Bool) (hr : decide (l = m) = r) :
    Calls Tryd.prog 31 #[.slice A l.length c, .slice B m.length c'] w fun e w' => e = .returned (.bool r) ∧ Below w.heap.size w w' := by
  obtain ⟨a, ha⟩ : ∃ a, a = l.length := ⟨_, rfl⟩
  obtain ⟨b, hb⟩ : ∃ b, b = m.length := ⟨_, rfl⟩
  rw [← ha] at hl hll ⊢
  rw [← hb] at hm hml ⊢
  have HA := Lib.hid ha
  have HB := Lib.hid hb
  have HL := Lib.hid hl
  have HM := Lib.hid hm
  have HI := Lib.hid hin
  have HR := Lib.hid hr
  clear ha hb hl hm hin hr
  by_cases hab : a = b
  · have hne : ((a : Int) != b) = false := by rw [hab]; simp
    have HAB := Lib.hid hab
    have hab2 : a ≤ b := by omega
    clear hab
    go_enter Tryd.func31, Tryd.ntmps31
    go_wp2_with fail
    go_loopw [5] (fun i wr => ∃ j : Nat, j ≤ a ∧ i = .int .i64 j ∧ Hid (l.take j = m.take j) ∧ Hid (Below w.heap.size w wr)) (fun i _ => a - (intOf i).toNat)
    case atStart => exact ⟨0, Nat.zero_le _, rfl, by simp [Hid], Below.refl _ _⟩
    case round =>
      obtain ⟨j, hj, rfl, HE, HBW⟩ := hrel
      by_cases hlt : j < a
      · obtain ⟨x, hx⟩ : ∃ x, l[j]? = some x := ⟨_, List.getElem?_eq_getElem (by rw [← HA.out]; exact hlt)⟩
        obtain ⟨y, hy⟩ : ∃ y, m[j]? = some y := ⟨_, List.getElem?_eq_getElem (by rw [← HB.out]; omega)⟩
        obtain ⟨g1, o1, hA1, hs1, hc1⟩ := HL.out.lit (by omega)
        obtain ⟨g2, o2, hA2, hs2, hc2⟩ := HM.out.lit (by omega)
        subst hA1 hA2
        have hcx := (HBW.out.cell (p := ⟨g1, o1 + j, none⟩) (HI.out _ hs1)).trans (hc1 j _ (vi_get hx))
        have hcy := (HBW.out.cell (p := ⟨g2, o2 + j, none⟩) (HI.out _ hs2)).trans (hc2 j _ (vi_get hy))
        have hi1 : (0 : Int) ≤ j ∧ (j : Int) < a := ⟨by omega, by omega⟩
        have hi2 : (0 : Int) ≤ j ∧ (j : Int) < b := ⟨by omega, by omega⟩
        by_cases hxy : x = y
        · have hnn : (x != y) = false := by rw [hxy]; simp
          have HE2 : Hid (l.take (j + 1) = m.take (j + 1)) := Lib.hid (by rw [List.take_add_one, List.take_add_one, HE.out, hx, hy, hxy])
          clear hx hy hc1 hc2 hs1 hs2 hxy
          go_wp2_with fail
          go_quiet (fail)
          go_wp2_with fail
          go_roundw
          case rel => exact ⟨j + 1, by omega, by go_num, HE2.out, below_drewN HBW.out _⟩
          case measure => simp [intOf]; omega
        · have hnn : (x != y) = true := by simpa using hxy
          have HF : Hid (false = r) := Lib.hid (by
            rw [← HR.out]
            symm
            rw [decide_eq_false_iff_not]
            intro e
            rw [e, hy] at hx
            exact hxy (Option.some.inj hx).symm)
          clear hx hy hc1 hc2 hs1 hs2 hxy
          go_wp2_with fail
          go_quiet (fail)
          go_wp2_with fail
          go_ret
          exact ⟨ret_b HF.out, below_drewN HBW.out _⟩
      · have HF : Hid (true = r) := Lib.hid (by
          rw [← HR.out]
          symm
          rw [decide_eq_true_eq]
          have h := HE.out
          rwa [List.take_of_length_le (by rw [← HA.out]; omega), List.take_of_length_le (by rw [← HB.out, ← HAB.out]; omega)] at h)
        go_wp2_with fail
        go_ret
        exact ⟨ret_b HF.out, HBW.out⟩
  · have hne : ((a : Int) != b) = true := by simp; omega
    have HF : Hid (false = r) := Lib.hid (by
      rw [← HR.out]
      symm
      rw [decide_eq_false_iff_not]
      intro e
      exact hab (by rw [HA.out, HB.out, e]))
    clear hab
    go_enter Tryd.func31, Tryd.ntmps31
    go_wp2_with fail
    go_ret
    exact ⟨ret_b HF.out, Below.refl _ _⟩
end Go.Proofs.YtbdknncmlcbbpaaDoor

/-
  A SLICE OF INTEGERS THAT CAME IN, opened.
-/
namespace Go.Proofs.YtbdknncmlcbbpaaDoor
open Go.ChangeShapes Go.WideShapes Go.ChangeAt Go.RowKit WM
set_option maxRecDepth 100000

theorem i64_of2 {n : Int} (h : (Lit.int .i64 n).wf = true) : inRange n := by
  simp [Lit.wf, IntKind.min, IntKind.max, IntKind.bits, IntKind.signed] at h
  unfold inRange
  omega
theorem arg_vi {W : World} {A : Option Addr} {len cap : Nat} {zs : List Int} (hl : len ≤ cap) (hz : zs.length = cap) (h : 0 < len → ∃ x, A = some x ∧ ∀ i, i < zs.length → W.cell? (x.add i) = some (.int .i64 (zs.getD i 0))) (hw : ∀ n ∈ zs, (Lit.int .i64 n).wf = true) :
    ∃ l : List Int, l.length = len ∧ (∀ x ∈ l, inRange x) ∧ Reads W W.heap.size 1 A len (vi l) := by
  refine ⟨zs.take len, by simp; omega, fun x hx => i64_of2 (hw x (List.mem_of_mem_take hx)), by simp [vi]; omega, fun hn => ?_⟩
  obtain ⟨x, rfl, hc⟩ := h hn
  have h0 := hc 0 (by omega)
  refine ⟨x, rfl, ?_, fun j u hu => ?_⟩
  · have := block_lt_of_cell h0
    rwa [block_of_add] at this
  · have hj : j < len := by
      have := (List.getElem?_eq_some_iff.1 hu).1
      simp [vi] at this; omega
    rw [hc j (by omega)]
    have hzj : j < zs.length := by omega
    unfold vi at hu
    rw [List.getElem?_map, List.getElem?_take, if_pos hj, List.getElem?_eq_getElem hzj] at hu
    simp only [Option.map_some, Option.some.injEq] at hu
    rw [← hu, List.getD_eq_getElem?_getD, List.getElem?_eq_getElem hzj]
    rfl
theorem row_vi {w : World} {a : Option Addr} {len cap : Nat} {zs : List Int} (h : IsRow .i64 w a len cap zs) :
    ∃ l : List Int, l.length = len ∧ len ≤ cap ∧ len ≤ 9223372036854775807 ∧ (∀ x ∈ l, inRange x) ∧ Reads w w.heap.size 1 a len (vi l) := by
  rcases h with ⟨rfl, rfl, rfl, rfl⟩ | ⟨x, rfl, hl, hm, hz, hc, hw⟩
  · exact ⟨[], rfl, Nat.le_refl _, by omega, by simp, Reads.none_⟩
  · obtain ⟨l, h1, h2, h3⟩ := arg_vi (A := some x) hl hz (fun _ => ⟨x, rfl, hc⟩) hw
    exact ⟨l, h1, hl, by unfold maxLen at hm; omega, h2, h3⟩
section
variable {H : Type} {enc : TypeId × Value → H} {w : World} {base b0 : Nat} {held : Bool} {v : Value} {d : DataW H} {ps : List MemPlace} {r : Reach}
theorem op_int2 {t : TypeId} {spare : Nat → Bool} (ht : Tryd.prog.underlying t = some (.int .i64)) (hv : Value.okWide Tryd.prog w r b0 t v) (hd : DataW.Trod enc Tryd.prog w base spare held t v d ps) : ∃ n : Int, v = .int .i64 n ∧ inRange n := by
  obtain ⟨n, rfl, rfl, rfl, hw⟩ := open_int ht hv hd
  exact ⟨n, rfl, i64_of2 hw⟩
theorem op_ints {t : TypeId} (ht : Tryd.prog.underlying t = some (.slice 3)) (hv : Value.okWide Tryd.prog w r b0 t v) (hd : DataW.Trod enc Tryd.prog w base (fun _ => true) held t v d ps) :
    ∃ (A : Option Addr) (l : List Int) (cap : Nat), v = .slice A l.length cap ∧ l.length ≤ cap ∧ l.length ≤ 9223372036854775807 ∧ (∀ x ∈ l, inRange x) ∧ Reads w w.heap.size 1 A l.length (vi l) := by
  obtain ⟨A, len, cap, rfl⟩ := okWide_slice ht hv
  have : ∃ zs, IsRow .i64 w A len cap zs := by
    obtain ⟨fuel, hf⟩ := hd
    rcases open_ints ht Tryd.underlying3 (by kernel_rfl) hf with ⟨hcs, _⟩ | ⟨x, l, c, zs, hcs, _, hl, hm, hz, _, hcell, hwz⟩
    · simp [Value.cells] at hcs
      obtain ⟨rfl, rfl, rfl⟩ := hcs
      exact ⟨[], .inl ⟨rfl, rfl, rfl, rfl⟩⟩
    · simp [Value.cells] at hcs
      obtain ⟨rfl, rfl, rfl⟩ := hcs
      exact ⟨zs, .inr ⟨_, rfl, hl, hm, by simpa using hz, hcell, hwz⟩⟩
  obtain ⟨zs, hz⟩ := this
  obtain ⟨l, rfl, h1, h2, h3, h4⟩ := row_vi hz
  exact ⟨A, l, cap, rfl, h1, h2, h3, h4⟩
end
end Go.Proofs.YtbdknncmlcbbpaaDoor

/-
  The maker of code: pick, put; costs.
-/
namespace Go.Proofs.YtbdknncmlcbbpaaDoor
open Go.RowKit WM TR KM

/-- What the maker reads: its numbers, and the functions' parameters. -/
structure FxOk (w : World) (g : Nat) (fx : Fx) (L : List Int) (ps : List Int) : Prop where
  ch : 0 ≤ fx.ch ∧ fx.ch ≤ 3
  wd : 1 ≤ fx.wd ∧ fx.wd ≤ 100
  nF : 1 ≤ fx.nF ∧ fx.nF ≤ 3
  len : fx.nL = L.length
  rd : Rd w (Lt g) 1 fx.AL L.length (vi L)
  inr : ∀ x ∈ L, inRange x
  small : L.length ≤ 9223372036854775807
  funs : fx.bF < g ∧ ps.length = fx.nF ∧ ∀ i p, ps[i]? = some p → w.cell? ⟨fx.bF, fx.oF + i * 4, none⟩ = some (.int .i64 p) ∧ 0 ≤ p ∧ p ≤ 3
theorem FxOk.next {w w' : World} {g : Nat} {fx : Fx} {L ps : List Int} (h : FxOk w g fx L ps) (hb : Below g w w') : FxOk w' g fx L ps := by
  obtain ⟨h1, h2, h3, h4, h5, h6, h7, hbg, hl, hc⟩ := h
  exact ⟨h1, h2, h3, h4, h5.keep (Keeps.below (In.lt g) hb), h6, h7, hbg, hl, fun i p hp => ⟨(hb.cell (p := ⟨fx.bF, fx.oF + i * 4, none⟩) hbg).trans (hc i p hp).1, (hc i p hp).2⟩⟩
/-- What has been spent so far: at most x instructions, y of the budget, z numbers beside what the budget bears. -/
structure Cur (b0 : Nat) (l0 : Int) (a0 x y z b : Nat) (l : Int) (a : Nat) : Prop where
  left : l ≤ l0
  grow : b0 ≤ b
  hi : b + 10 * l.toNat ≤ b0 + 10 * l0.toNat + x
  lo : l0 - 10 * l0.toNat ≤ l - 10 * l.toNat + y
  at_ : a + 40 * l.toNat ≤ a0 + 40 * l0.toNat + z
theorem Cur.zero (b : Nat) (l : Int) (a : Nat) : Cur b l a 0 0 0 b l a := ⟨Int.le_refl _, Nat.le_refl _, Nat.le_refl _, by omega, Nat.le_refl _⟩
theorem Cur.pick {b0 a0 x y z b a : Nat} {l0 l : Int} (h : Cur b0 l0 a0 x y z b l a) : Cur b0 l0 a0 x y (z + 1) b l (a + 1) := by
  obtain ⟨h1, h2, h3, h4, h5⟩ := h; exact ⟨h1, h2, h3, h4, by omega⟩
theorem Cur.put {b0 a0 x y z b a : Nat} {l0 l : Int} (h : Cur b0 l0 a0 x y z b l a) : Cur b0 l0 a0 (x + 1) y z (b + 1) l a := by
  obtain ⟨h1, h2, h3, h4, h5⟩ := h; exact ⟨h1, by omega, by omega, h4, h5⟩
/-- What a call has cost: instructions, budget, numbers. -/
structure Cost (m : Nat) (b : Nat) (l : Int) (a : Nat) (b' : Nat) (l' : Int) (a' : Nat) : Prop where
  left : l' ≤ l
  grow : b ≤ b'
  hi : b' + 10 * l'.toNat ≤ b + 10 * l.toNat + m
  lo : l - 10 * l.toNat ≤ l' - 10 * l'.toNat + m
  at_ : a' + 40 * l'.toNat ≤ a + 40 * l.toNat + 3 * m

theorem Cur.call {b0 a0 x y z b a b' a' m : Nat} {l0 l l' : Int} (h : Cur b0 l0 a0 x y z b l a) (k : Cost m b l a b' l' a') : Cur b0 l0 a0 (x + m) (y + m) (z + 3 * m) b' l' a' := by
  obtain ⟨h1, h2, h3, h4, h5⟩ := h
  obtain ⟨k1, k2, k3, k4, k5⟩ := k
  exact ⟨by omega, by omega, by omega, by omega, by omega⟩
theorem Cur.fin {b a x y z b' a' m : Nat} {l l' : Int} (h : Cur b (l - 1) a x y z b' l' a') (hc : (2 ≤ l ∧ x ≤ m + 10 ∧ y ≤ m + 9 ∧ z ≤ 40 + 3 * m) ∨ (x ≤ m ∧ y + 1 ≤ m ∧ z ≤ 3 * m)) : Cost m b l a b' l' a' := by
  obtain ⟨h1, h2, h3, h4, h5⟩ := h
  rcases hc with ⟨c1, c2, c3, c4⟩ | ⟨c1, c2, c3⟩
  · exact ⟨by omega, by omega, by omega, by omega, by omega⟩
  · exact ⟨by omega, by omega, by omega, by omega, by omega⟩
theorem below_set {B g : Nat} {a w : World} (h : Below B a w) (hg : B ≤ g) (i : Nat) (u : Value) : Below B a (w.setCell ⟨g, i, none⟩ u) := h.setCell (p := ⟨g, i, none⟩) hg u
set_option maxRecDepth 100000 in
set_option maxHeartbeats 1000000 in
theorem pick_is {w : World} {g : Nat} {fx : Fx} {v : Option Addr × Nat} {body : List Ins} {a : Nat} {l : Int} {L ps : List Int} (hm : MkR w g fx v body a l) (hf : FxOk w g fx L ps) (n : Int) (hn : 0 < n) (ha : a ≤ 900000) :
    Calls Tryd.prog 33 #[.pointer (some ⟨g, 0, none⟩), .int .i64 n] w fun e w' => ∃ k : Nat, e = .returned (.int .i64 (k : Int)) ∧ (k : Int) < n ∧ MkR w' g fx v body (a + 1) l ∧ Below g w w' := by
  obtain ⟨c0, c1, c3, c4, c6, c7, c8, f4, f7, f8⟩ := hm.cells
  have hw : IntKind.i64.wrap ((a : Int) + 1) = (a : Int) + 1 := by rw [IntKind.wrap_i64]; omega
  have HM := Lib.hid hm
  have HF := Lib.hid hf
  clear c0 c1 c3 c4 c8 hm hf
  go_enter Tryd.func33, Tryd.ntmps33
  go_upto_region 2 with fail
  obtain ⟨W2, hW2⟩ : ∃ W2, W2 = w.setCell ⟨g, 7, none⟩ (.int .i64 ((a : Int) + 1)) := ⟨_, rfl⟩
  have hm2 : MkR W2 g fx v body (a + 1) l := by rw [hW2]; exact HM.out.at_
  have hb2 : Below g w W2 := by rw [hW2]; exact below_set (Below.refl g w) (Nat.le_refl g) 7 _
  rw [← hW2]
  clear hW2 c6 c7 f7 f4 f8
  obtain ⟨c0, c1, c3, c4, c6, c7, c8, f4, f7, f8⟩ := hm2.cells
  have HM2 := Lib.hid hm2
  have HB2 := Lib.hid hb2
  have hwa : ((a + 1 : Nat) : Int) = (a : Int) + 1 := by omega
  have hkb := numAt_le (L := L) (a := a + 1) (n := n) hn
  obtain ⟨k, hk⟩ : ∃ k : Nat, numAt L (a + 1) n = (k : Int) := ⟨(numAt L (a + 1) n).toNat, by omega⟩
  rw [hk] at hkb
  have HAT : Hid (∀ W, Below g W2 W → Calls Tryd.prog 32 #[.slice fx.AL fx.nL fx.cL, .int .i64 ((a + 1 : Nat) : Int), .int .i64 n] W fun e w' => e = .returned (.int .i64 k) ∧ W = w') := Lib.hid (fun W hb => by
    have h := (HF.out.next HB2.out).next hb
    rw [h.len, ← hk]
    exact at_is L (Lt g) fx.AL fx.cL (a + 1) n W h.rd h.inr hn h.small (by omega))
  clear c0 c1 c3 c4 c8 f4 f7 f8 hm2 hb2 hk
  go_quiet ((go_at_call 32; exact quiet_left (HAT.out _ (below_drewN (Below.refl _ _) _))))
  go_wp2_with fail
  go_ret
  exact ⟨k, rfl, hkb.2, HM2.out.drewN _, below_drewN HB2.out _⟩

theorem below_gr {g : Nat} {w w' : World} {o : Obj} {row : Option Nat} (h : (w.alloc o).grownBy w' row) (hg : g < w.heap.size) (hr : ∀ b, row = some b → g < b) : Below g w w' :=
  have hb := below_new w o
  ⟨h.os.trans hb.os, h.tape.trans hb.tape, h.output.trans hb.output, Nat.le_trans hb.size h.size, fun i hi => (h.block i (Nat.lt_of_lt_of_le (Nat.lt_trans hi hg) hb.size) (fun e => by have := hr i e.symm; omega)).trans (hb.block i (Nat.lt_trans hi hg))⟩
set_option maxRecDepth 100000 in
set_option maxHeartbeats 1000000 in
theorem put_is {w : World} {g : Nat} {fx : Fx} {v : Option Addr × Nat} {body : List Ins} {a : Nat} {l : Int} (hm : MkR w g fx v body a l) (x : Ins) (hx : okI x) (hb : body.length ≤ 200000) :
    Calls Tryd.prog 35 #[.pointer (some ⟨g, 0, none⟩), .int .i64 x.op, .int .i64 x.a, .int .i64 x.b] w fun e w' => ∃ v', e = .returned (.tuple #[]) ∧ MkR w' g fx v' (body ++ [x]) a l ∧ Below g w w' := by
  obtain ⟨c0, c1, c3, c4, c6, c7, c8, f4, f7, f8⟩ := hm.cells
  obtain ⟨i0, hi, hz0, hz1, hz2⟩ := info_parts ins_info
  have HM := Lib.hid hm
  have HX := Lib.hid hx
  clear c0 c1 c3 c6 c7 c8 f7 f8 hm hx
  go_enter Tryd.func35, Tryd.ntmps35
  go_wp2_with (first
    | (at_builtin; refine wpList_append_any _ rfl (.tmp 13) (.tmp 18) 49 rfl (g + 1) 54 i0 _ 3 24 Tryd.underlying49 hi hz0 hz1 hz2 rfl (by omega) (.slice v.1 body.length v.2) body.length (insCs body) rfl (HM.out.own.alloc _) _ (some ⟨w.heap.size, 0, none⟩) 1 1 (insC x) rfl (ins_new w x) (insC_one x) (len_le (by omega)) (by omega) (by have := HM.out.lt; rw [size_alloc]; omega) ?_
       intro v4 w4 hown4 hgrow4 _
       obtain ⟨A4, cc4, rfl, _⟩ := own_len hown4
       have hB4 : Blk w4 g 62 (mk8 fx (.slice v.1 body.length v.2) a l).toArray := (HM.out.blk.alloc _).grown hgrow4 (fun e => by have := (HM.out.own.lt _ e.symm).1; omega)
       have hb4 : Below g w w4 := below_gr hgrow4 HM.out.lt (fun b e => by have := (HM.out.own.lt _ e).1; omega)
       clear c4 f4
       have f4 := hB4.frozen 4
       have c4 : w4.cell? ⟨g, 4, none⟩ = some (.slice v.1 body.length v.2) := by rw [hB4.cell 4]; rfl
       have HB4 := Lib.hid hB4; have HBL := Lib.hid hb4; have HO4 := Lib.hid hown4; clear hown4 hgrow4 hB4 hb4))
  go_end0
  refine ⟨(A4, cc4), rfl, ⟨by have := HB4.out.set_ 4 (.slice A4 (body.length + 1) cc4); simpa [mk8] using this, ?_, fun y hy => ?_⟩, below_set HBL.out (Nat.le_refl g) 4 _⟩
  · rw [List.length_append, insCs_append]
    have h := ownsRow_setCell_other HO4.out (a := ⟨g, 4, none⟩) (fun e => by have := (HO4.out.lt _ e).1; simp at this; omega) (.slice A4 (body.length + 1) cc4)
    simpa [insCs] using h
  · rcases List.mem_append.1 hy with hy | hy
    · exact HM.out.ok y hy
    · rw [List.mem_singleton.1 hy]; exact HX.out
theorem put_is3 {w : World} {g : Nat} {fx : Fx} {v : Option Addr × Nat} {body : List Ins} {a : Nat} {l : Int} (hm : MkR w g fx v body a l) (o x y : Int) (ho : inRange o) (hx : inRange x) (hy : inRange y) (hb : body.length ≤ 200000) :
    Calls Tryd.prog 35 #[.pointer (some ⟨g, 0, none⟩), .int .i64 o, .int .i64 x, .int .i64 y] w fun e w' => ∃ v' body', e = .returned (.tuple #[]) ∧ body'.length = body.length + 1 ∧ MkR w' g fx v' body' a l ∧ Below g w w' := by
  refine (put_is hm ⟨o, x, y⟩ ⟨ho, hx, hy⟩ hb).mono ?_
  rintro e w' ⟨v', rfl, hm', hb'⟩
  exact ⟨v', _, rfl, by rw [List.length_append]; rfl, hm', hb'⟩
theorem Cur.put2 {b0 a0 x y z b b' a : Nat} {l0 l : Int} (h : Cur b0 l0 a0 x y z b l a) (hb : b' = b + 1) : Cur b0 l0 a0 (x + 1) y z b' l a := by
  subst hb; exact h.put
end Go.Proofs.YtbdknncmlcbbpaaDoor
