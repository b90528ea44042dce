/-
  WHAT Spoilt KEEPS while it changes a code: the copy's row of functions, the function that is changed, and their cells.
-/
import Derived.Test.YtbdknncmlcbbpaaDoorG16
set_option linter.unusedVariables false
namespace Go.Proofs.YtbdknncmlcbbpaaDoor
open Go.RowKit WM TR KM

theorem arnd_lt {x n : Int} (hn : 0 < n) : 0 ≤ arnd x n ∧ arnd x n < n := by
  unfold arnd
  exact ⟨Int.emod_nonneg _ (by omega), Int.emod_lt_of_pos _ hn⟩
/-- An operand of an instruction, put anew. -/
theorem insCs_any : ∀ (l : List Ins) (i j : Nat) (v : Int), j < 3 → inRange v → (∀ x ∈ l, okI x) → ∃ l' : List Ins, l'.length = l.length ∧ (∀ x ∈ l', okI x) ∧ (insCs l).set (i * 3 + j) (.int .i64 v) = insCs l'
  | [], _, _, _, _, _, _ => ⟨[], rfl, fun x hx => (by cases hx), rfl⟩
  | y :: l, 0, j, v, hj, hv, ho => by
    have hy := ho y (by simp)
    have hl : ∀ x ∈ l, okI x := fun x hx => ho x (by simp [hx])
    have hj3 : j = 0 ∨ j = 1 ∨ j = 2 := by omega
    rcases hj3 with rfl | rfl | rfl
    · exact ⟨⟨v, y.a, y.b⟩ :: l, rfl, fun x hx => by
        rcases List.mem_cons.1 hx with rfl | hx
        · exact ⟨hv, hy.2.1, hy.2.2⟩
        · exact hl x hx, rfl⟩
    · exact ⟨⟨y.op, v, y.b⟩ :: l, rfl, fun x hx => by
        rcases List.mem_cons.1 hx with rfl | hx
        · exact ⟨hy.1, hv, hy.2.2⟩
        · exact hl x hx, rfl⟩
    · exact ⟨⟨y.op, y.a, v⟩ :: l, rfl, fun x hx => by
        rcases List.mem_cons.1 hx with rfl | hx
        · exact ⟨hy.1, hy.2.1, hv⟩
        · exact hl x hx, rfl⟩
  | y :: l, i + 1, j, v, hj, hv, ho => by
    obtain ⟨l', h1, h2, h3⟩ := insCs_any l i j v hj hv fun x hx => ho x (by simp [hx])
    refine ⟨y :: l', by simp [h1], fun x hx => ?_, ?_⟩
    · rcases List.mem_cons.1 hx with rfl | hx
      · exact ho x (by simp)
      · exact h2 x hx
    · rw [insCs, List.set_append_right _ _ (by show 3 ≤ _; omega), show (i + 1) * 3 + j - (insC y).length = i * 3 + j by show _ - 3 = _; omega, h3, insCs]
theorem OwnB.set_ {w : World} {B : Nat} {R : Nat → Prop} {e : Ent} (h : OwnB w B R e) (gb k j : Nat) (hj : j < 3) {u : Int} (hu : inRange u) :
    ∃ e' : Ent, e'.p = e.p ∧ e'.w = e.w ∧ e'.A = e.A ∧ e'.c = e.c ∧ e'.body.length = e.body.length ∧ OwnB (w.setCell ⟨gb, k * 3 + j, none⟩ (.int .i64 u)) B R e' := by
  by_cases hg : (Value.slice e.A e.body.length e.c).ownBlock = some gb
  · obtain ⟨l', h1, h2, h3⟩ := insCs_any e.body k j u hj hu h.ok
    refine ⟨⟨e.p, e.w, e.A, e.c, l'⟩, rfl, rfl, rfl, rfl, h1, ?_, ?_, by show l'.length ≤ _; rw [h1]; exact h.len, h2, h.rp, h.rw_⟩
    · have hown := h.own
      obtain ⟨_, ⟨hv, _⟩ | ⟨g, cap, cur, hv, _⟩⟩ := h.own
      · rw [hv] at hg; cases hg
      · rw [hv] at hg hown
        obtain rfl : g = gb := by simpa [Value.ownBlock] using hg
        have h4 := (hown.stored (k * 3 + j) (.int .i64 u)).1
        rw [h3, ← hv] at h4
        show (w.setCell _ _).ownsRow B _ 3 (.slice e.A l'.length e.c) l'.length (insCs l')
        rw [h1]
        exact h4
    · intro b hb
      exact h.sep b (by rw [← h1]; exact hb)
  · exact ⟨e, rfl, rfl, rfl, rfl, rfl, own_keep h.own fun b hb => Below.heap_setCell w ⟨gb, _, none⟩ _ b (fun e1 => hg (by rw [hb, e1])), h.sep, h.len, h.ok, h.rp, h.rw_⟩
theorem owns_set {w : World} {B : Nat} {R : Nat → Prop} (gb k j : Nat) (hj : j < 3) {u : Int} (hu : inRange u) (m : Nat) : ∀ es : List Ent, (∀ e ∈ es, OwnB w B R e ∧ e.body.length ≤ m) →
    ∃ es' : List Ent, es'.length = es.length ∧ entsC es' = entsC es ∧ ∀ e ∈ es', OwnB (w.setCell ⟨gb, k * 3 + j, none⟩ (.int .i64 u)) B R e ∧ e.body.length ≤ m
  | [], _ => ⟨[], rfl, rfl, fun e he => (by cases he)⟩
  | e :: es, h => by
    obtain ⟨es', h1, h2, h3⟩ := owns_set gb k j hj hu m es fun x hx => h x (by simp [hx])
    obtain ⟨e', k1, k2, k3, k4, k5, k6⟩ := (h e (by simp)).1.set_ gb k j hj hu
    refine ⟨e' :: es', by simp [h1], ?_, fun x hx => ?_⟩
    · rw [entsC, entsC, h2, entC, entC, k1, k2, k3, k4, k5]
    · rcases List.mem_cons.1 hx with rfl | hx
      · exact ⟨k6, by rw [k5]; exact (h e (by simp)).2⟩
      · exact h3 x hx
theorem OwnB.at_ {w : World} {B : Nat} {R : Nat → Prop} {e : Ent} (h : OwnB w B R e) {k : Nat} (hk : k < e.body.length) : ∃ gb, e.A = some ⟨gb, 0, none⟩ ∧ R gb ∧ (∀ j, j < 3 → ∃ z : Int, w.cell? ⟨gb, k * 3 + j, none⟩ = some (.int .i64 z)) ∧ ∀ q, w.frozen? ⟨gb, q, none⟩ = false := by
  obtain ⟨gb, cap, hv, hb, hlt⟩ := h.own.form (by omega)
  have hA : e.A = some ⟨gb, 0, none⟩ := by injection hv
  refine ⟨gb, hA, h.sep gb (by rw [hA]; rfl), fun j hj => ?_, fun q => ?_⟩
  · obtain ⟨x, hx⟩ : ∃ x, e.body[k]? = some x := ⟨_, List.getElem?_eq_getElem hk⟩
    have hown := h.own
    rw [hA] at hown
    have hj3 : j = 0 ∨ j = 1 ∨ j = 2 := by omega
    have hc : ∀ v, (insC x)[j]? = some v → w.cell? ⟨gb, k * 3 + j, none⟩ = some v := fun v hv => by
      have := hown.cells (g := gb) rfl _ _ (insCs_get e.body k x hx j v hv)
      rwa [Addr.add_lit, Nat.zero_add] at this
    rcases hj3 with rfl | rfl | rfl
    · exact ⟨x.op, hc _ rfl⟩
    · exact ⟨x.a, hc _ rfl⟩
    · exact ⟨x.b, hc _ rfl⟩
  · have hown := h.own
    rw [hA] at hown
    exact hown.frozenAt q
/-- The world while a code is changed: its block B, the answer's, the row, the changed function's block g. -/
structure Sx (m : Nat) (w W : World) (B g : Nat) (ch : Int) (A : Option Addr) (c : Nat) (es : List Ent) (x : Ent) : Prop where
  low : B = w.heap.size
  blk : Blk W B 25 #[.int .i64 ch, .slice A es.length c]
  res : Blk W (B + 1) 25 #[.int .i64 0, .slice none 0 0]
  own : W.ownsRow (B + 2) 51 4 (.slice A es.length c) es.length (entsC es)
  row : (Value.slice A es.length c).ownBlock ≠ some g
  bod : ∀ e ∈ es, BodyR W (fun b => B + 2 ≤ b ∧ b < W.heap.size ∧ (Value.slice A es.length c).ownBlock ≠ some b ∧ b ≠ g) e ∧ e.body.length ≤ m
  xb : Blk W g 51 #[.int .i64 x.p, .int .i64 x.w, .slice x.A x.body.length x.c, .slice none 0 0]
  xr : BodyR W (fun b => B + 2 ≤ b ∧ b < W.heap.size ∧ (Value.slice A es.length c).ownBlock ≠ some b ∧ b ≠ g) x ∧ x.body.length ≤ m
  gl : B + 2 ≤ g
  cb : -1000000 ≤ ch ∧ ch ≤ 1000000
  len : es.length ≤ 100000
  below : Below w.heap.size w W
/-- A block that none of the functions touches, put anew. -/
theorem Sx.put {m : Nat} {w W : World} {B g : Nat} {ch : Int} {A : Option Addr} {c : Nat} {es : List Ent} {x : Ent} (h : Sx m w W B g ch A c es x) (i : Nat) (u : Value) :
    (∀ e ∈ es, BodyR (W.setCell ⟨g, i, none⟩ u) (fun b => B + 2 ≤ b ∧ b < (W.setCell ⟨g, i, none⟩ u).heap.size ∧ (Value.slice A es.length c).ownBlock ≠ some b ∧ b ≠ g) e ∧ e.body.length ≤ m) ∧
    (W.setCell ⟨g, i, none⟩ u).ownsRow (B + 2) 51 4 (.slice A es.length c) es.length (entsC es) :=
  ⟨fun e he => ⟨(h.bod e he).1.keep (Keeps.setCell (Keeps.refl _ _) (fun hg => hg.2.2.2 rfl) _) fun b hb => by simpa using hb, (h.bod e he).2⟩,
    ownsRow_setCell_other h.own (a := ⟨g, i, none⟩) (fun e => h.row e) _⟩
theorem Sx.chans {m : Nat} {w W : World} {B g : Nat} {ch : Int} {A : Option Addr} {c : Nat} {es : List Ent} {x : Ent} (h : Sx m w W B g ch A c es x) {n : Int} (hn : -1000000 ≤ n ∧ n ≤ 1000000) : Sx m w (W.setCell ⟨B, 0, none⟩ (.int .i64 n)) B g n A c es x := by
  have hk : ∀ y : Ent, BodyR W (fun b => B + 2 ≤ b ∧ b < W.heap.size ∧ (Value.slice A es.length c).ownBlock ≠ some b ∧ b ≠ g) y → BodyR (W.setCell ⟨B, 0, none⟩ (.int .i64 n)) (fun b => B + 2 ≤ b ∧ b < (W.setCell ⟨B, 0, none⟩ (.int .i64 n)).heap.size ∧ (Value.slice A es.length c).ownBlock ≠ some b ∧ b ≠ g) y := fun y hy =>
    hy.keep (Keeps.setCell (Keeps.refl _ _) (fun hg => by have : B + 2 ≤ B := hg.1; omega) _) fun b hb => by simpa using hb
  refine ⟨h.low, ?_, h.res.far (by show B + 1 ≠ B; omega) _, ?_, h.row, fun e he => ⟨hk e (h.bod e he).1, (h.bod e he).2⟩, h.xb.far (by show g ≠ B; have := h.gl; omega) _, ⟨hk x h.xr.1, h.xr.2⟩, h.gl, hn, h.len, below_set h.below (Nat.le_of_eq h.low.symm) _ _⟩
  · have := h.blk.set_ 0 (.int .i64 n)
    simpa using this
  · exact ownsRow_setCell_other h.own (a := ⟨B, 0, none⟩) (fun e => by have h3 : B + 2 ≤ B := (h.own.lt _ e).1; omega) _
theorem Sx.params {m : Nat} {w W : World} {B g : Nat} {ch : Int} {A : Option Addr} {c : Nat} {es : List Ent} {x : Ent} (h : Sx m w W B g ch A c es x) {n : Int} (hn : inRange n) : Sx m w (W.setCell ⟨g, 0, none⟩ (.int .i64 n)) B g ch A c es ⟨n, x.w, x.A, x.c, x.body⟩ := by
  have h2 := h.put 0 (.int .i64 n)
  have hx := h.xr.1.keep (w' := W.setCell ⟨g, 0, none⟩ (.int .i64 n)) (S' := fun b => B + 2 ≤ b ∧ b < (W.setCell ⟨g, 0, none⟩ (.int .i64 n)).heap.size ∧ (Value.slice A es.length c).ownBlock ≠ some b ∧ b ≠ g) (Keeps.setCell (Keeps.refl _ _) (fun hg => hg.2.2.2 rfl) _) fun b hb => by simpa using hb
  refine ⟨h.low, h.blk.far (by show B ≠ g; have := h.gl; omega) _, h.res.far (by show B + 1 ≠ g; have := h.gl; omega) _, h2.2, h.row, h2.1, ?_, ⟨⟨hx.rd, hx.cap, hx.len, hx.ok, hn, hx.rw_⟩, h.xr.2⟩, h.gl, h.cb, h.len, below_set h.below (by have := h.gl; have := h.low; omega) _ _⟩
  have := h.xb.set_ 0 (.int .i64 n)
  simpa using this
theorem Sx.words {m : Nat} {w W : World} {B g : Nat} {ch : Int} {A : Option Addr} {c : Nat} {es : List Ent} {x : Ent} (h : Sx m w W B g ch A c es x) {n : Int} (hn : inRange n) : Sx m w (W.setCell ⟨g, 1, none⟩ (.int .i64 n)) B g ch A c es ⟨x.p, n, x.A, x.c, x.body⟩ := by
  have h2 := h.put 1 (.int .i64 n)
  have hx := h.xr.1.keep (w' := W.setCell ⟨g, 1, none⟩ (.int .i64 n)) (S' := fun b => B + 2 ≤ b ∧ b < (W.setCell ⟨g, 1, none⟩ (.int .i64 n)).heap.size ∧ (Value.slice A es.length c).ownBlock ≠ some b ∧ b ≠ g) (Keeps.setCell (Keeps.refl _ _) (fun hg => hg.2.2.2 rfl) _) fun b hb => by simpa using hb
  refine ⟨h.low, h.blk.far (by show B ≠ g; have := h.gl; omega) _, h.res.far (by show B + 1 ≠ g; have := h.gl; omega) _, h2.2, h.row, h2.1, ?_, ⟨⟨hx.rd, hx.cap, hx.len, hx.ok, hx.rp, hn⟩, h.xr.2⟩, h.gl, h.cb, h.len, below_set h.below (by have := h.gl; have := h.low; omega) _ _⟩
  have := h.xb.set_ 1 (.int .i64 n)
  simpa using this
/-- The function's instructions, put anew. -/
theorem Sx.body {m : Nat} {w W : World} {B g : Nat} {ch : Int} {A : Option Addr} {c : Nat} {es : List Ent} {x : Ent} (h : Sx m w W B g ch A c es x) {A' : Option Addr} {c' : Nat} {body : List Ins}
    (hr : Rd W (fun b => B + 2 ≤ b ∧ b < W.heap.size ∧ (Value.slice A es.length c).ownBlock ≠ some b ∧ b ≠ g) 3 A' body.length (insCs body)) (hc : body.length ≤ c') (hl : body.length ≤ m) (hm : m ≤ 200000) (ho : ∀ y ∈ body, okI y) :
    Sx m w (W.setCell ⟨g, 2, none⟩ (.slice A' body.length c')) B g ch A c es ⟨x.p, x.w, A', c', body⟩ := by
  have h2 := h.put 2 (.slice A' body.length c')
  have hr2 := (hr.keep (Keeps.setCell (Keeps.refl _ _) (p := ⟨g, 2, none⟩) (fun hg => hg.2.2.2 rfl) (.slice A' body.length c'))).mono (S' := fun b => B + 2 ≤ b ∧ b < (W.setCell ⟨g, 2, none⟩ (.slice A' body.length c')).heap.size ∧ (Value.slice A es.length c).ownBlock ≠ some b ∧ b ≠ g) fun b hb => by simpa using hb
  refine ⟨h.low, h.blk.far (by show B ≠ g; have := h.gl; omega) _, h.res.far (by show B + 1 ≠ g; have := h.gl; omega) _, h2.2, h.row, h2.1, ?_, ⟨⟨hr2, hc, by show body.length ≤ _; omega, ho, h.xr.1.rp, h.xr.1.rw_⟩, hl⟩, h.gl, h.cb, h.len, below_set h.below (by have := h.gl; have := h.low; omega) _ _⟩
  have := h.xb.set_ 2 (.slice A' body.length c')
  simpa using this
theorem Sx.next {m : Nat} {w W W' : World} {B g : Nat} {ch : Int} {A : Option Addr} {c : Nat} {es : List Ent} {x : Ent} (h : Sx m w W B g ch A c es x) (hb : Below W.heap.size W W') : Sx m w W' B g ch A c es x := by
  have hk : ∀ y : Ent, BodyR W (fun b => B + 2 ≤ b ∧ b < W.heap.size ∧ (Value.slice A es.length c).ownBlock ≠ some b ∧ b ≠ g) y → BodyR W' (fun b => B + 2 ≤ b ∧ b < W'.heap.size ∧ (Value.slice A es.length c).ownBlock ≠ some b ∧ b ≠ g) y := fun y hy =>
    hy.keep (fun b hb' => hb.block b hb'.2.1) fun b hb' => ⟨hb'.1, Nat.lt_of_lt_of_le hb'.2.1 hb.size, hb'.2.2⟩
  exact ⟨h.low, h.blk.below hb h.blk.lt, h.res.below hb h.res.lt, ownsRow_below h.own hb, h.row, fun e he => ⟨hk e (h.bod e he).1, (h.bod e he).2⟩, h.xb.below hb h.xb.lt, ⟨hk x h.xr.1, h.xr.2⟩, h.gl, h.cb, h.len, bt h.below hb⟩
theorem Sx.up {m m' : Nat} {w W : World} {B g : Nat} {ch : Int} {A : Option Addr} {c : Nat} {es : List Ent} {x : Ent} (h : Sx m w W B g ch A c es x) (hm : m ≤ m') : Sx m' w W B g ch A c es x :=
  ⟨h.low, h.blk, h.res, h.own, h.row, fun e he => ⟨(h.bod e he).1, Nat.le_trans (h.bod e he).2 hm⟩, h.xb, ⟨h.xr.1, Nat.le_trans h.xr.2 hm⟩, h.gl, h.cb, h.len, h.below⟩
theorem Sx.drew {m : Nat} {w W : World} {B g : Nat} {ch : Int} {A : Option Addr} {c : Nat} {es : List Ent} {x : Ent} (h : Sx m w W B g ch A c es x) : Sx m w W.drew B g ch A c es x := h.next (Below.refl _ _).drew
/-- An instruction's operand put anew: all functions that read it are others then, of the same lengths. -/
theorem Sx.cells {m : Nat} {w W : World} {B g : Nat} {ch : Int} {A : Option Addr} {c : Nat} {es : List Ent} {x : Ent} (h : Sx m w W B g ch A c es x)
    (hO : ∀ e ∈ es, OwnB W (B + 2) (fun b => B + 2 ≤ b ∧ b < W.heap.size ∧ (Value.slice A es.length c).ownBlock ≠ some b ∧ b ≠ g) e ∧ e.body.length ≤ m)
    (hX : OwnB W (B + 2) (fun b => B + 2 ≤ b ∧ b < W.heap.size ∧ (Value.slice A es.length c).ownBlock ≠ some b ∧ b ≠ g) x)
    {gb : Nat} (hg : B + 2 ≤ gb ∧ gb < W.heap.size ∧ (Value.slice A es.length c).ownBlock ≠ some gb ∧ gb ≠ g) (k j : Nat) (hj : j < 3) {u : Int} (hu : inRange u) :
    ∃ (es' : List Ent) (x' : Ent), es'.length = es.length ∧ Sx m w (W.setCell ⟨gb, k * 3 + j, none⟩ (.int .i64 u)) B g ch A c es' x' := by
  obtain ⟨es', h1, h2, h3⟩ := owns_set gb k j hj hu m es hO
  obtain ⟨x', k1, k2, k3, k4, k5, k6⟩ := hX.set_ gb k j hj hu
  have hk : ∀ y : Ent, OwnB (W.setCell ⟨gb, k * 3 + j, none⟩ (.int .i64 u)) (B + 2) (fun b => B + 2 ≤ b ∧ b < W.heap.size ∧ (Value.slice A es.length c).ownBlock ≠ some b ∧ b ≠ g) y →
      BodyR (W.setCell ⟨gb, k * 3 + j, none⟩ (.int .i64 u)) (fun b => B + 2 ≤ b ∧ b < (W.setCell ⟨gb, k * 3 + j, none⟩ (.int .i64 u)).heap.size ∧ (Value.slice A es'.length c).ownBlock ≠ some b ∧ b ≠ g) y := fun y hy =>
    hy.body.keep (Keeps.refl _ _) fun b hb => by rw [h1]; simpa using hb
  refine ⟨es', x', h1, h.low, ?_, h.res.far (by show B + 1 ≠ gb; omega) _, ?_, by rw [h1]; exact h.row, fun e he => ⟨hk e (h3 e he).1, (h3 e he).2⟩, ?_, ⟨hk x' k6, by rw [k5]; exact h.xr.2⟩, h.gl, h.cb, by rw [h1]; exact h.len, below_set h.below (by have := h.low; omega) _ _⟩
  · rw [h1]; exact h.blk.far (by show B ≠ gb; omega) _
  · rw [h1, h2]; exact ownsRow_setCell_other h.own (a := ⟨gb, k * 3 + j, none⟩) (fun e => hg.2.2.1 e) _
  · rw [k1, k2, k3, k4, k5]; exact h.xb.far (by show g ≠ gb; exact fun e => hg.2.2.2 e.symm) _
/-- The row of functions grows. -/
theorem Sx.grow {m : Nat} {w W w4 : World} {B g : Nat} {ch : Int} {A A4 : Option Addr} {c c4 : Nat} {es : List Ent} {x e : Ent} {o : Obj} (h : Sx m w W B g ch A c es x) (he : e ∈ es) (hg : (W.alloc o).grownBy w4 (Value.slice A es.length c).ownBlock)
    (ho : w4.ownsRow (B + 2) 51 4 (.slice A4 (es.length + 1) c4) (es.length + 1) (entsC es ++ entC e))
    (hn : (Value.slice A4 (es.length + 1) c4).ownBlock = (Value.slice A es.length c).ownBlock ∨ (Value.slice A4 (es.length + 1) c4).ownBlock = some (W.alloc o).heap.size) (hl : es.length + 1 ≤ 100000) :
    Sx m w (w4.setCell ⟨B, 1, none⟩ (.slice A4 (es.length + 1) c4)) B g ch A4 c4 (es ++ [e]) x := by
  have hlt := h.own.lt
  have hs4 := hg.size
  rw [size_alloc] at hs4 hn
  have hsz : (w4.setCell ⟨B, 1, none⟩ (.slice A4 (es.length + 1) c4)).heap.size = w4.heap.size := World.size_setCell _ _ _
  have hkeep : ∀ b, b < W.heap.size → (Value.slice A es.length c).ownBlock ≠ some b → b ≠ B → (w4.setCell ⟨B, 1, none⟩ (.slice A4 (es.length + 1) c4)).heap[b]? = W.heap[b]? := fun b hb h1 h2 => by
    rw [Below.heap_setCell w4 ⟨B, 1, none⟩ _ b h2]
    exact (hg.block b (by rw [size_alloc]; omega) (fun e => h1 e.symm)).trans ((below_new W o).block b hb)
  have hnew : ∀ b, b < W.heap.size → (Value.slice A es.length c).ownBlock ≠ some b → (Value.slice A4 (es.length + 1) c4).ownBlock ≠ some b := fun b hb h1 h2 => by
    rcases hn with h3 | h3
    · exact h1 (h3 ▸ h2)
    · rw [h3] at h2; injection h2 with h2; omega
  have hll : (es ++ [e]).length = es.length + 1 := by simp
  have hk : ∀ y : Ent, BodyR W (fun b => B + 2 ≤ b ∧ b < W.heap.size ∧ (Value.slice A es.length c).ownBlock ≠ some b ∧ b ≠ g) y → BodyR (w4.setCell ⟨B, 1, none⟩ (.slice A4 (es.length + 1) c4)) (fun b => B + 2 ≤ b ∧ b < (w4.setCell ⟨B, 1, none⟩ (.slice A4 (es.length + 1) c4)).heap.size ∧ (Value.slice A4 (es ++ [e]).length c4).ownBlock ≠ some b ∧ b ≠ g) y := fun y hy =>
    hy.keep (fun b hb => hkeep b hb.2.1 hb.2.2.1 (by have := hb.1; omega)) fun b hb => ⟨hb.1, by rw [hsz]; have := hb.2.1; omega, by rw [hll]; exact hnew b hb.2.1 hb.2.2.1, hb.2.2.2⟩
  have hgl := h.gl
  refine ⟨h.low, ?_, ?_, ?_, by rw [hll]; exact hnew g h.xb.lt h.row, fun y hy => ?_, ?_, ⟨hk x h.xr.1, h.xr.2⟩, h.gl, h.cb, by rw [hll]; exact hl, ?_⟩
  · have h1 := (h.blk.alloc o).grown hg (fun e => by have := (hlt _ e.symm).1; omega)
    have := h1.set_ 1 (.slice A4 (es.length + 1) c4)
    rw [hll]
    simpa using this
  · exact ((h.res.alloc o).grown hg (fun e => by have := (hlt _ e.symm).1; omega)).far (p := ⟨B, 1, none⟩) (by show B + 1 ≠ B; omega) _
  · have h2 := ownsRow_setCell_other ho (a := ⟨B, 1, none⟩) (fun e => by have h3 : B + 2 ≤ B := (ho.lt _ e).1; omega) (.slice A4 (es.length + 1) c4)
    rw [hll, entsC_append]
    simpa [entsC] using h2
  · rcases List.mem_append.1 hy with hy | hy
    · exact ⟨hk y (h.bod y hy).1, (h.bod y hy).2⟩
    · rw [List.mem_singleton.1 hy]
      exact ⟨hk e (h.bod e he).1, (h.bod e he).2⟩
  · exact ((h.xb.alloc o).grown hg (fun e => h.row e.symm)).far (p := ⟨B, 1, none⟩) (by show g ≠ B; omega) _
  · exact below_set (below_row h.below hg fun b e => by have := (hlt b e).1; have := h.low; omega) (by have := h.low; omega) 1 _
theorem okZ : okI ⟨0, 0, 0⟩ := by unfold okI inRange; simp
/-- Empty instructions in front. -/
theorem Sx.front {m : Nat} {w W wr w4 : World} {B g G i : Nat} {ch : Int} {A A7 : Option Addr} {c c7 : Nat} {es : List Ent} {x : Ent} {v : Value} (h : Sx m w W B g ch A c es x) (hG : G = W.heap.size) (ho : wr.ownsRow G 54 3 (.slice A7 i c7) i (insCs (List.replicate i ⟨0, 0, 0⟩))) (hb : Below W.heap.size W wr)
    (hown : w4.ownsRow G 54 3 v (i + x.body.length) (insCs (List.replicate i ⟨0, 0, 0⟩) ++ insCs x.body)) (hgrow : wr.grownBy w4 (Value.slice A7 i c7).ownBlock) (hi : i ≤ 39) (hm : m ≤ 100000) :
    ∃ (A4 : Option Addr) (c4 : Nat) (nb : List Ins), v = .slice A4 nb.length c4 ∧ Sx (m + 39) w (w4.setCell ⟨g, 2, none⟩ (.slice A4 nb.length c4)) B g ch A c es ⟨x.p, x.w, A4, c4, nb⟩ ∧ w4.cell? ⟨g, 2, none⟩ = some (.slice x.A x.body.length x.c) ∧ w4.frozen? ⟨g, 2, none⟩ = false := by
  obtain ⟨A4, c4, rfl, hc4⟩ := own_len hown
  obtain ⟨nb, hnb⟩ : ∃ z, z = List.replicate i (⟨0, 0, 0⟩ : Ins) ++ x.body := ⟨_, rfl⟩
  have hnl : nb.length = i + x.body.length := by rw [hnb, List.length_append, List.length_replicate]
  rw [← insCs_append, ← hnb] at hown
  rw [← hnl] at hown hc4
  have hlt := ho.lt
  have hxl := h.xr.2
  have hgl := h.gl
  have hgt := h.xb.lt
  have hbw : Below W.heap.size W w4 := ⟨hgrow.os.trans hb.os, hgrow.tape.trans hb.tape, hgrow.output.trans hb.output, Nat.le_trans hb.size hgrow.size, fun b hb2 => (hgrow.block b (Nat.lt_of_lt_of_le hb2 hb.size) (fun e => by have := (hlt b e.symm).1; omega)).trans (hb.block b hb2)⟩
  have hS := (h.next hbw).up (show m ≤ m + 39 by omega)
  refine ⟨A4, c4, nb, by rw [hnl], hS.body ((Rd.of_own hown).mono fun b hb2 => ⟨by omega, hb2.2, fun e => by have := (h.own.lt _ e).2; omega, by omega⟩) hc4 (by omega) (by omega) fun y hy => ?_, hS.xb.cell 2, hS.xb.frozen 2⟩
  rw [hnb] at hy
  rcases List.mem_append.1 hy with hy | hy
  · rw [List.eq_of_mem_replicate hy]; exact okZ
  · exact h.xr.1.ok y hy
/-- What Spoilt makes. -/
def SpoPost (m n : Nat) (w : World) (e : Ending) (w' : World) : Prop :=
  ∃ ch es A' c', e = .returned (.agg #[.int .i64 ch, .slice A' es.length c']) ∧ CoR w' (fun b => w.heap.size ≤ b ∧ b < w'.heap.size) A' c' es ∧ Below w.heap.size w w' ∧ (-1000000 ≤ ch ∧ ch ≤ 1000000) ∧ (1 ≤ es.length ∧ es.length ≤ n + 7) ∧ ∀ e ∈ es, e.body.length ≤ m + 39
/-- The end: the function is put back. -/
theorem Sx.end_ {m : Nat} {w W : World} {B g : Nat} {ch : Int} {A : Option Addr} {c : Nat} {es : List Ent} {x : Ent} (h : Sx m w W B g ch A c es x) {f : Nat} (hf : f < es.length) :
    ∃ bF, A = some ⟨bF, 0, none⟩ ∧ B + 2 ≤ bF ∧ bF ≠ g ∧ (∀ q, W.frozen? ⟨bF, q, none⟩ = false) ∧ (∀ j, j < 4 → ∃ v, W.cell? ⟨bF, f * 4 + j, none⟩ = some v) ∧
      ∀ W4, W4 = (((W.setCell ⟨bF, f * 4, none⟩ (.int .i64 x.p)).setCell ⟨bF, f * 4 + 1, none⟩ (.int .i64 x.w)).setCell ⟨bF, f * 4 + 2, none⟩ (.slice x.A x.body.length x.c)).setCell ⟨bF, f * 4 + 3, none⟩ (.slice none 0 0) →
        Blk W4 B 25 #[.int .i64 ch, .slice A es.length c] ∧ Blk W4 (B + 1) 25 #[.int .i64 0, .slice none 0 0] ∧
        CoR W4 (fun b => B + 2 ≤ b ∧ b < W4.heap.size) A c (es.set f x) ∧ Below w.heap.size w W4 ∧ ∀ e ∈ es.set f x, e.body.length ≤ m := by
  obtain ⟨bF, cap, hv, hb, hlt⟩ := h.own.form (by omega)
  have hA : A = some ⟨bF, 0, none⟩ := by injection hv
  subst hA
  have hgne : bF ≠ g := fun e => h.row (by rw [e]; rfl)
  refine ⟨bF, rfl, hb, hgne, fun q => h.own.frozenAt q, fun j hj => ?_, fun W4 hW4 => ?_⟩
  · obtain ⟨e, he⟩ : ∃ e, es[f]? = some e := ⟨_, List.getElem?_eq_getElem hf⟩
    obtain ⟨v, hv⟩ : ∃ v, (entC e)[j]? = some v := ⟨_, List.getElem?_eq_getElem (by show j < 4; exact hj)⟩
    have := h.own.cells (g := bF) rfl _ _ (entsC_get es f e he j v hv)
    rw [Addr.add_lit, Nat.zero_add] at this
    exact ⟨v, this⟩
  · have keep : ∀ b, b ≠ bF → W4.heap[b]? = W.heap[b]? := fun b hb => by
      rw [hW4, Below.heap_setCell _ ⟨bF, _, none⟩ _ b hb, Below.heap_setCell _ ⟨bF, _, none⟩ _ b hb, Below.heap_setCell _ ⟨bF, _, none⟩ _ b hb, Below.heap_setCell _ ⟨bF, _, none⟩ _ b hb]
    have hsz : W4.heap.size = W.heap.size := by rw [hW4]; simp
    have hk : ∀ y : Ent, BodyR W (fun b => B + 2 ≤ b ∧ b < W.heap.size ∧ (Value.slice (some ⟨bF, 0, none⟩) es.length c).ownBlock ≠ some b ∧ b ≠ g) y → BodyR W4 (fun b => B + 2 ≤ b ∧ b < W4.heap.size) y := fun y hy =>
      hy.keep (fun b hb' => keep b fun e => hb'.2.2.1 (by rw [e]; rfl)) fun b hb' => ⟨hb'.1, by rw [hsz]; exact hb'.2.1⟩
    have h1 := (((h.own.stored (f * 4) (.int .i64 x.p)).1.stored (f * 4 + 1) (.int .i64 x.w)).1.stored (f * 4 + 2) (.slice x.A x.body.length x.c)).1.stored (f * 4 + 3) (.slice none 0 0)
    rw [entsC_set es f x hf, ← hW4] at h1
    have hr := Rd.of_own h1.1
    obtain ⟨_, _, e, hc⟩ := own_len h1.1
    cases e
    refine ⟨(keep _ (by omega)).trans h.blk, (keep _ (by omega)).trans h.res, ⟨by rw [List.length_set]; exact hr, by rw [List.length_set]; exact hc, by rw [List.length_set]; have := h.len; omega, fun e he => ?_⟩, ?_, fun e he => ?_⟩
    · rcases List.mem_or_eq_of_mem_set he with he | rfl
      · exact hk e (h.bod e he).1
      · exact hk _ h.xr.1
    · rw [hW4]
      have hw : w.heap.size ≤ bF := by have := h.low; omega
      exact below_set (below_set (below_set (below_set h.below hw _ _) hw _ _) hw _ _) hw _ _
    · rcases List.mem_or_eq_of_mem_set he with he | rfl
      · exact (h.bod e he).2
      · exact h.xr.2
/-- The answer's block takes the code. -/
theorem spo_post {m n : Nat} {w W4 : World} {B : Nat} {ch : Int} {A : Option Addr} {c : Nat} {es : List Ent} (low : B = w.heap.size) (hco : CoR W4 (fun b => B + 2 ≤ b ∧ b < W4.heap.size) A c es) (hb : Below w.heap.size w W4) (hc : -1000000 ≤ ch ∧ ch ≤ 1000000)
    (hn : 1 ≤ es.length ∧ es.length ≤ n + 7) (hm : ∀ e ∈ es, e.body.length ≤ m + 39) (u v : Value) : SpoPost m n w (.returned (.agg #[.int .i64 ch, .slice A es.length c])) ((W4.setCell ⟨B + 1, 0, none⟩ u).setCell ⟨B + 1, 1, none⟩ v) := by
  refine ⟨ch, es, A, c, rfl, ?_, below_set (below_set hb (by omega) _ _) (by omega) _ _, hc, hn, hm⟩
  refine hco.keep (Keeps.setCell (Keeps.setCell (Keeps.refl _ _) (fun h => by have : B + 2 ≤ B + 1 := h.1; omega) _) (fun h => by have : B + 2 ≤ B + 1 := h.1; omega) _) fun b hb => ⟨by omega, ?_⟩
  simpa using hb.2
end Go.Proofs.YtbdknncmlcbbpaaDoor
