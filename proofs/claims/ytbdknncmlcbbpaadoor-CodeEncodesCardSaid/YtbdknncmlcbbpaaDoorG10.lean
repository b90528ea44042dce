/-
  CODE IN MEMORY: functions as four cells, with their rows of instructions.
-/
import Derived.Test.YtbdknncmlcbbpaaDoorG07
set_option linter.unusedVariables false
namespace Go.Proofs.YtbdknncmlcbbpaaDoor
open Go.RowKit WM TR KM

/-- A function as it lies in memory. -/
structure Ent where
  p : Int
  w : Int
  A : Option Addr
  c : Nat
  body : List Ins
def Ent.fn (e : Ent) : KM.Fn := ⟨e.p, e.w, e.body⟩
def entC (e : Ent) : List Value := [.int .i64 e.p, .int .i64 e.w, .slice e.A e.body.length e.c, .slice none 0 0]
def entsC : List Ent → List Value
  | [] => []
  | e :: l => entC e ++ entsC l
theorem entsC_length : ∀ l : List Ent, (entsC l).length = l.length * 4
  | [] => rfl
  | x :: l => by
    rw [entsC, List.length_append, entsC_length l, List.length_cons]
    show 4 + _ = _; omega
theorem entsC_append : ∀ l m : List Ent, entsC (l ++ m) = entsC l ++ entsC m
  | [], m => rfl
  | x :: l, m => by rw [List.cons_append, entsC, entsC_append l m, entsC, List.append_assoc]
theorem entsC_get : ∀ (l : List Ent) (i : Nat) (x : Ent), l[i]? = some x → ∀ j v, (entC x)[j]? = some v → (entsC l)[i * 4 + j]? = some v
  | [], i, x, h, _, _, _ => by simp at h
  | y :: l, 0, x, h, j, v, hv => by
    simp only [List.getElem?_cons_zero, Option.some.injEq] at h
    subst h
    have hj : j < 4 := (List.getElem?_eq_some_iff.1 hv).1
    rw [entsC, List.getElem?_append_left (by show _ < 4; omega), Nat.zero_mul, Nat.zero_add]
    exact hv
  | y :: l, i + 1, x, h, j, v, hv => by
    rw [entsC, List.getElem?_append_right (by show 4 ≤ _; omega), show (i + 1) * 4 + j - (entC y).length = i * 4 + j by show _ - 4 = _; omega]
    exact entsC_get l i x (by simpa using h) j v hv
theorem entsC_set : ∀ (l : List Ent) (i : Nat) (x : Ent), i < l.length → ((((entsC l).set (i * 4) (.int .i64 x.p)).set (i * 4 + 1) (.int .i64 x.w)).set (i * 4 + 2) (.slice x.A x.body.length x.c)).set (i * 4 + 3) (.slice none 0 0) = entsC (l.set i x)
  | [], i, x, h => by simp at h
  | y :: l, 0, x, _ => rfl
  | y :: l, i + 1, x, h => by
    have e : ∀ (q : List Value) (j : Nat) (v : Value), (entC y ++ q).set ((i + 1) * 4 + j) v = entC y ++ q.set (i * 4 + j) v := fun q j v => by
      rw [List.set_append_right _ _ (by show 4 ≤ _; omega), show (i + 1) * 4 + j - (entC y).length = i * 4 + j by show _ - 4 = _; omega]
    have := entsC_set l i x (by simpa using h)
    have e0 : ∀ (q : List Value) (v : Value), (entC y ++ q).set ((i + 1) * 4) v = entC y ++ q.set (i * 4) v := fun q v => e q 0 v
    rw [entsC, e0, e, e, e, this, List.set_cons_succ, entsC]
theorem entC_one (x : Ent) : ∀ u ∈ entC x, u.oneCell' = true := by
  intro u hu
  simp only [entC, List.mem_cons, List.not_mem_nil, or_false] at hu
  rcases hu with rfl | rfl | rfl | rfl <;> rfl
theorem entsC_one : ∀ (l : List Ent), ∀ u ∈ entsC l, u.oneCell' = true
  | [], u, h => by cases h
  | x :: l, u, h => by
    rcases List.mem_append.1 h with h | h
    · exact entC_one x u h
    · exact entsC_one l u h
theorem fun_info : (Tryd.prog.info? 51).map (fun i => (i.zero, i.size, i.bytes)) = some (some (.agg #[.int .i64 0, .int .i64 0, .slice none 0 0, .slice none 0 0]), 4, 64) := by kernel_rfl
/-- A function's instructions lie in blocks of a sort. -/
structure BodyR (w : World) (S : Nat → Prop) (e : Ent) : Prop where
  rd : Rd w S 3 e.A e.body.length (insCs e.body)
  cap : e.body.length ≤ e.c
  len : e.body.length ≤ 200000
  ok : ∀ x ∈ e.body, okI x
  rp : inRange e.p
  rw_ : inRange e.w
theorem BodyR.keep {w w' : World} {S S' : Nat → Prop} {e : Ent} (h : BodyR w S e) (hk : Keeps S w w') (hS : ∀ b, S b → S' b) : BodyR w' S' e :=
  ⟨(h.rd.keep hk).mono hS, h.cap, h.len, h.ok, h.rp, h.rw_⟩
theorem BodyR.nil {w : World} {S : Nat → Prop} {p q : Int} (hp : inRange p) (hq : inRange q) : BodyR w S ⟨p, q, none, 0, []⟩ :=
  ⟨Rd.none_, Nat.le_refl _, by simp, fun x hx => (by cases hx), hp, hq⟩
/-- A code's functions. -/
structure CoR (w : World) (S : Nat → Prop) (A : Option Addr) (c : Nat) (es : List Ent) : Prop where
  rd : Rd w S 4 A es.length (entsC es)
  cap : es.length ≤ c
  len : es.length ≤ 200000
  all : ∀ e ∈ es, BodyR w S e
theorem CoR.keep {w w' : World} {S S' : Nat → Prop} {A : Option Addr} {c : Nat} {es : List Ent} (h : CoR w S A c es) (hk : Keeps S w w') (hS : ∀ b, S b → S' b) : CoR w' S' A c es :=
  ⟨(h.rd.keep hk).mono hS, h.cap, h.len, fun e he => (h.all e he).keep hk hS⟩
theorem CoR.next {w w' : World} {A : Option Addr} {c : Nat} {es : List Ent} (h : CoR w (fun b => b < w.heap.size) A c es) (hb : Below w.heap.size w w') : CoR w' (fun b => b < w'.heap.size) A c es :=
  h.keep (fun b hb' => hb.block b hb') fun b (hb' : b < w.heap.size) => Nat.lt_of_lt_of_le hb' hb.size
end Go.Proofs.YtbdknncmlcbbpaaDoor
