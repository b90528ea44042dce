/-
  Rows of slices of bytes.
-/
import Derived.Test.YtbdknncmlcbbpaaDoorG05
import Derived.Test.YtbdknncmlcbbpaaDoorG41
import Derived.Test.YtbdknncmlcbbpaaDoorG44
import Derived.Test.YtbdknncmlcbbpaaDoorG46
import Derived.Test.YtbdknncmlcbbpaaDoorG26
set_option linter.unusedVariables false
namespace Go.Proofs.YtbdknncmlcbbpaaDoor
open Go.RowKit WM TR

/-- Bytes that a slice holds, below the world's end. -/
def KB (w : World) (A : Option Addr) (n c : Nat) (l : List UInt8) : Prop := Reads w w.heap.size 1 A n (bs l) ∧ l.length = n ∧ n ≤ c ∧ n ≤ 1000000
theorem KB.next {w w' : World} {A : Option Addr} {n c : Nat} {l : List UInt8} (h : KB w A n c l) (hb : Below w.heap.size w w') : KB w' A n c l := ⟨(h.1.below hb).more hb.size, h.2⟩
def RowOk (w : World) : List Value → List (List UInt8) → Prop
  | [], [] => True
  | v :: vs, l :: ls => (∃ A n c, v = .slice A n c ∧ KB w A n c l) ∧ RowOk w vs ls
  | _, _ => False
theorem RowOk.get {w : World} : ∀ (vs : List Value) (ls : List (List UInt8)), RowOk w vs ls → ∀ (i : Nat) (l : List UInt8), ls[i]? = some l → ∃ A n c, vs[i]? = some (.slice A n c) ∧ KB w A n c l
  | [], [], _, i, l, h => by simp at h
  | [], _ :: _, h, _, _, _ => h.elim
  | _ :: _, [], h, _, _, _ => h.elim
  | v :: vs, l0 :: ls, h, 0, l, hl => by
    obtain ⟨A, n, c, rfl, hk⟩ := h.1
    simp only [List.getElem?_cons_zero, Option.some.injEq] at hl ⊢
    subst hl
    exact ⟨A, n, c, rfl, hk⟩
  | v :: vs, l0 :: ls, h, i + 1, l, hl => by
    rw [List.getElem?_cons_succ] at hl ⊢
    exact RowOk.get vs ls h.2 i l hl
/-- A row of slices of bytes. -/
def RowB (w : World) (g : Nat) (ls : List (List UInt8)) : Prop := g < w.heap.size ∧ ∀ (i : Nat) (l : List UInt8), ls[i]? = some l → ∃ A n c, w.cell? ⟨g, i, none⟩ = some (.slice A n c) ∧ KB w A n c l
theorem rowB_of {w : World} {cs : Array Value} {t : TypeId} {ls : List (List UInt8)} (h : RowOk w cs.toList ls) : RowB (w.alloc (.cells cs t)) w.heap.size ls := by
  refine ⟨by rw [size_alloc]; omega, fun i l hl => ?_⟩
  obtain ⟨A, n, c, hv, hk⟩ := RowOk.get _ _ h i l hl
  refine ⟨A, n, c, ?_, hk.next (below_new _ _)⟩
  rw [(Blk.new w t cs).cell i, ← hv]
  simp
/-- A byte of an own row, put anew. -/
theorem own_put {w : World} {base N k c : Nat} {A : Option Addr} {xs : List Value} (h : w.ownsRow base 5 1 (.slice A N c) N xs) (hk : k < N) (u : Value) :
    ∃ g cur, A = some ⟨g, 0, none⟩ ∧ base ≤ g ∧ Blk w g 5 cur ∧ cur[k]? = xs[k]? ∧ (w.setCell ⟨g, k, none⟩ u).ownsRow base 5 1 (.slice A N c) N (xs.set k u) := by
  have h1 := h.1
  rcases h.2 with ⟨_, hn⟩ | ⟨g, cap, cur, hv, hb, hh, hnc, hm, hs, hx⟩
  · omega
  · injection hv with e1 e2 e3
    subst e1
    subst e3
    have hB : Blk w g 5 cur := hh
    rw [Nat.mul_one] at hx
    refine ⟨g, cur, rfl, hb, hB, ?_, by rw [List.length_set]; exact h1, .inr ⟨g, c, cur.setIfInBounds k u, rfl, hb, hB.set_ k u, hnc, hm, by simp [hs], ?_⟩⟩
    · rw [← hx, List.getElem?_take, if_pos hk]; simp
    · rw [Nat.mul_one, ← hx, Array.toList_setIfInBounds, List.take_set]
end Go.Proofs.YtbdknncmlcbbpaaDoor

/-
  Of the walk of CodeEncodes: codes as the law holds them.
-/
namespace Go.Proofs.YtbdknncmlcbbpaaDoor
open Go.RowKit WM TR KM

/-- A code that lies below the world's end. -/
structure KC (W : World) (ch : Int) (A : Option Addr) (n c : Nat) (fs : List KM.Fn) : Prop where
  ex : ∃ es : List Ent, es.map Ent.fn = fs ∧ es.length = n ∧ CoR W (fun b => b < W.heap.size) A c es
  rg : inRange ch
  sz : (encK ch fs).length ≤ 600000
theorem KC.next {W W' : World} {ch : Int} {A : Option Addr} {n c : Nat} {fs : List KM.Fn} (h : KC W ch A n c fs) (hb : Below W.heap.size W W') : KC W' ch A n c fs := by
  obtain ⟨es, h1, h2, h3⟩ := h.ex
  exact ⟨⟨es, h1, h2, h3.next hb⟩, h.rg, h.sz⟩
theorem KC.nil (W : World) : KC W 0 none 0 0 [] :=
  ⟨⟨[], rfl, rfl, Rd.none_, Nat.le_refl _, by simp, fun e he => (by cases he)⟩, ⟨by omega, by omega⟩, by decide +kernel⟩
/-- What an encoding leaves. -/
def EncP (N : Nat) (l : List UInt8) (W : World) (e : Ending) (w' : World) : Prop :=
  ∃ A c, e = .returned (.slice A N c) ∧ (∀ W', Below w'.heap.size w' W' → Reads W' W'.heap.size 1 A N (bs l)) ∧ w'.ownsRow W.heap.size 5 1 (.slice A N c) N (bs l) ∧ Below W.heap.size W w'
theorem encP_of {N : Nat} {l : List UInt8} {W : World} {e : Ending} {w' : World} (hN : l.length = N) (h : ∃ A c, e = .returned (.slice A l.length c) ∧ w'.ownsRow W.heap.size 5 1 (.slice A l.length c) l.length (bs l) ∧ Below W.heap.size W w') : EncP N l W e w' := by
  obtain ⟨A, c, he, ho, hb⟩ := h
  rw [hN] at he ho
  exact ⟨A, c, he, fun W' h' => ((Reads.of_own ho).below h').more h'.size, ho, hb⟩
theorem KC.enc {W : World} {ch : Int} {A : Option Addr} {n c : Nat} {fs : List KM.Fn} {N : Nat} (h : KC W ch A n c fs) (hn : n ≤ 1000) (hN : (encK ch fs).length = N) :
    Calls Tryd.prog 15 #[.agg #[.int .i64 ch, .slice A n c]] W (EncP N (encK ch fs) W) := by
  obtain ⟨es, h1, h2, h3⟩ := h.ex
  have h4 := codeEnc_is ch es A c W h3 h.rg (by omega)
  rw [h1, h2] at h4
  exact h4.mono fun e w' h5 => encP_of hN h5
theorem KC.renc {W : World} {ch : Int} {A : Option Addr} {n c : Nat} {fs : List KM.Fn} {N : Nat} (h : KC W ch A n c fs) (hN : (encK ch fs).length = N) :
    Calls Tryd.prog 16 #[.agg #[.int .i64 ch, .slice A n c]] W (EncP N (encK ch fs) W) := by
  obtain ⟨es, h1, h2, h3⟩ := h.ex
  have hs := h.sz
  have h4 := rcodeEnc_is ch es A c W h3 h.rg (by rw [h1]; omega)
  rw [h1, h2] at h4
  exact h4.mono fun e w' h5 => encP_of hN h5
theorem KC.dig {W : World} {ch : Int} {A : Option Addr} {n c : Nat} {fs : List KM.Fn} (h : KC W ch A n c fs) (hn : n ≤ 1000) (hk : KT 1 W) :
    Calls Tryd.prog 17 #[.agg #[.int .i64 ch, .slice A n c]] W fun e w' => e = .returned (.agg (bs (digK ch fs)).toArray) ∧ Below W.heap.size W w' := by
  obtain ⟨es, h1, h2, h3⟩ := h.ex
  have h4 := codeDig_is ch es A c W h3 h.rg (by omega) hk
  rw [h1, h2] at h4
  exact h4
theorem KC.rdig {W : World} {ch : Int} {A : Option Addr} {n c : Nat} {fs : List KM.Fn} (h : KC W ch A n c fs) (hk : KT 2 W) :
    Calls Tryd.prog 18 #[.agg #[.int .i64 ch, .slice A n c]] W fun e w' => e = .returned (.agg (bs (digK ch fs)).toArray) ∧ Below W.heap.size W w' := by
  obtain ⟨es, h1, h2, h3⟩ := h.ex
  have hs := h.sz
  have h4 := rcodeDig_is ch es A c W h3 h.rg (by rw [h1]; omega) hk
  rw [h1, h2] at h4
  exact h4
theorem KC.same {W : World} {ch ch' : Int} {A A' : Option Addr} {n n' c c' : Nat} {fs fs' : List KM.Fn} (h : KC W ch A n c fs) (h' : KC W ch' A' n' c' fs') :
    Calls Tryd.prog 19 #[.agg #[.int .i64 ch, .slice A n c], .agg #[.int .i64 ch', .slice A' n' c']] W fun e w' => e = .returned (.bool (sameK ⟨ch, fs⟩ ⟨ch', fs'⟩)) ∧ Below W.heap.size W w' := by
  obtain ⟨es, h1, h2, h3⟩ := h.ex
  obtain ⟨es', h1', h2', h3'⟩ := h'.ex
  have h4 := sameK_is ch ch' es es' A A' c c' W h3 h3'
  rw [h1, h2, h1', h2'] at h4
  exact h4
theorem KC.rsame {W : World} {ch ch' : Int} {A A' : Option Addr} {n n' c c' : Nat} {fs fs' : List KM.Fn} (h : KC W ch A n c fs) (h' : KC W ch' A' n' c' fs') :
    Calls Tryd.prog 20 #[.agg #[.int .i64 ch, .slice A n c], .agg #[.int .i64 ch', .slice A' n' c']] W fun e w' => e = .returned (.bool (sameK ⟨ch, fs⟩ ⟨ch', fs'⟩)) ∧ Below W.heap.size W w' := by
  obtain ⟨es, h1, h2, h3⟩ := h.ex
  obtain ⟨es', h1', h2', h3'⟩ := h'.ex
  have hs := h.sz
  have hs' := h'.sz
  have h4 := rsameK_is ch ch' es es' A A' c c' W h3 h3' h.rg h'.rg (by rw [h1]; omega) (by rw [h1']; omega)
  rw [h1, h2, h1', h2'] at h4
  exact h4
/-- What a Decode yields: the code (or none: zero), the length, the error. -/
def kCh : Option (Int × List KM.Fn × Nat) → Int
  | none => 0
  | some (c, _, _) => c
def kFs : Option (Int × List KM.Fn × Nat) → List KM.Fn
  | none => []
  | some (_, f, _) => f
def kU : Option (Int × List KM.Fn × Nat) → Nat
  | none => 0
  | some (_, _, u) => u
def kE : Option (Int × List KM.Fn × Nat) → Int
  | none => 2
  | some _ => 0
def DKAny (ch : Int) (fs : List KM.Fn) (u : Nat) (x : Int) (w : World) (e : Ending) (w' : World) : Prop :=
  ∃ A c, e = .returned (.tuple #[.agg #[.int .i64 ch, .slice A fs.length c], .int .i64 (u : Int), .int .i64 x]) ∧ KC w' ch A fs.length c fs ∧ Below w.heap.size w w'
theorem DKPost.any {l : List UInt8} {w w' : World} {e : Ending} (hl : l.length ≤ 600000) (h : DKPost l w e w') : DKAny (kCh (dCode l)) (kFs (dCode l)) (kU (dCode l)) (kE (dCode l)) w e w' := by
  unfold DKPost at h
  cases hd : dCode l with
  | none =>
    rw [hd] at h
    exact ⟨none, 0, h.1, KC.nil _, h.2⟩
  | some r =>
    obtain ⟨ch, fs, u⟩ := r
    rw [hd] at h
    obtain ⟨A, c, es, he, hes, hco, hb⟩ := h
    obtain ⟨hok, t, h1, _⟩ := dCode_ok hd
    refine ⟨A, c, he, ⟨⟨es, hes, by rw [← hes]; exact (List.length_map _).symm, hco⟩, hok.ch, ?_⟩, hb⟩
    rw [h1, List.length_append] at hl
    show (encK ch fs).length ≤ _
    omega
theorem sameK_self (x : KM.Co) : sameK x x = true := by simp [sameK]
/-- A literal of three codes, kept shut. -/
def bs3k (parts : Array (Nat × Value)) : Sem Value := Instr.buildSlice 33 3 parts
theorem shutB3k (parts : Array (Nat × Value)) : Instr.buildSlice 33 3 parts = bs3k parts := rfl
theorem run_bs3k (W : World) (a1 a2 b1 b2 c1 c2 : Value) : (bs3k #[(0, .agg #[a1, a2]), (1, .agg #[b1, b2]), (2, .agg #[c1, c2])]).run Tryd.prog W = .ok (.slice (some ⟨W.heap.size, 0, none⟩) 3 3) (W.alloc (.cells #[a1, a2, b1, b2, c1, c2] 25)) := by kernel_rfl
/-- A literal of five slices, kept shut. -/
def bs5b (parts : Array (Nat × Value)) : Sem Value := Instr.buildSlice 42 5 parts
theorem shutB5b (parts : Array (Nat × Value)) : Instr.buildSlice 42 5 parts = bs5b parts := rfl
theorem run_bs5b (W : World) (A0 A1 A2 A3 A4 : Option Addr) (n0 n1 n2 n3 n4 c0 c1 c2 c3 c4 : Nat) :
    (bs5b #[(0, .slice A0 n0 c0), (1, .slice A1 n1 c1), (2, .slice A2 n2 c2), (3, .slice A3 n3 c3), (4, .slice A4 n4 c4)]).run Tryd.prog W = .ok (.slice (some ⟨W.heap.size, 0, none⟩) 5 5) (W.alloc (.cells #[.slice A0 n0 c0, .slice A1 n1 c1, .slice A2 n2 c2, .slice A3 n3 c3, .slice A4 n4 c4] 32)) := by kernel_rfl
/-- An append of bytes onto a row of its own, with what it leaves elsewhere. -/
theorem apB_run2 {V W : World} {n c k cb : Nat} {A B : Option Addr} {l m : List UInt8} (hv : Below V.heap.size V W) (ho : W.ownsRow V.heap.size 5 1 (.slice A n c) n (bs l)) (hr : Reads W W.heap.size 1 B k (bs m)) (hn : n + k ≤ 1000000) (hl : l.length = n) (hm : m.length = k) :
    ∃ (A' : Option Addr) (c' : Nat) (w' : World), (apB #[32, 32] 32 #[.slice A n c, .slice B k cb]).run Tryd.prog W = .ok (.slice A' (n + k) c') w' ∧ KB w' A' (n + k) c' (l ++ m) ∧ Below V.heap.size V w' ∧ W.grownBy w' (Value.slice A n c).ownBlock := by
  obtain ⟨i0, hi, hz0, hz1, hz2⟩ := info_parts u8_info
  obtain ⟨v1, w1, happ, hown, hgrow, _⟩ := run_append_any (P := Tryd.prog) W V.heap.size 32 32 5 i0 _ 1 1 Tryd.underlying32 hi hz0 hz1 hz2 rfl (by omega) (.slice A n c) n (bs l) ho W.heap.size B k cb (bs m) hr (bs_one _) (len_le (by omega)) (by omega) hv.size
  obtain ⟨A', c', rfl, hc'⟩ := own_len hown
  rw [← bs_append] at hown
  exact ⟨A', c', w1, happ, ⟨Reads.of_own hown, by rw [List.length_append, hl, hm], hc', by omega⟩, below_grK hv hgrow fun b e => (ho.lt b e).1, hgrow⟩
/-- Bytes in a row made behind a world are not those that an elder row's growing changes. -/
theorem KB.grown {V W w' : World} {A B : Option Addr} {n c k cb : Nat} {m : List UInt8} (h : KB W B k cb m) (ho : W.ownsRow V.heap.size 5 1 (.slice B k cb) k (bs m)) (hg : W.grownBy w' (Value.slice A n c).ownBlock) (hne : ∀ b, (Value.slice A n c).ownBlock = some b → b < V.heap.size) : KB w' B k cb m := by
  refine ⟨((Rd.of_own ho).keep (w' := w') fun b hb => ?_).reads fun b hb => ?_, h.2⟩
  · exact hg.block b hb.2 fun e => by have := hne b e.symm; have := hb.1; omega
  · have h1 := hb.2
    have h2 := hg.size
    show b < w'.heap.size
    omega
end Go.Proofs.YtbdknncmlcbbpaaDoor
