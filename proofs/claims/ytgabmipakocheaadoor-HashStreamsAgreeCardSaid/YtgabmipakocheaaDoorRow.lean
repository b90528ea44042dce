/-
  ROWS of bytes that a call makes.
-/
import Derived.Test.YtgabmipakocheaaDoorMem
import Derived.Laws.IdiomStrings
namespace Go.Proofs.YtgabmipakocheaaDoor
open Go.RowKit

theorem Tryd.info5 : (Tryd.prog.info? 5).map (fun i => (i.zero, i.size, i.bytes)) = some (some (.int .u8 0), 1, 1) := by kernel_rfl
theorem strCells_eq (s : ByteArray) : Lib.strCells s = bs s.data.toList := rfl
theorem own_push {w : World} {B : Nat} {v : Value} {l : List UInt8} {x : Int} {c : UInt8} (h : w.ownsRow B 5 1 v (l.length + 1) (bs l ++ [.int .u8 x])) (hx : x = (c.toNat : Int)) : w.ownsRow B 5 1 v (l ++ [c]).length (bs (l ++ [c])) := by
  subst hx
  rw [bs_append, List.length_append]
  exact h
theorem own_next {w : World} {B : Nat} {v : Value} {p q r : List UInt8} (h : w.ownsRow B 5 1 v (p.length + q.length) (bs p ++ bs q)) (e : r = p ++ q) : w.ownsRow B 5 1 v r.length (bs r) := by
  rw [← bs_append, ← List.length_append] at h
  subst e; exact h
theorem own_nil {w : World} {B : Nat} {e : TypeId} {size : Nat} {v : Value} {n : Nat} {xs : List Value} (h : w.ownsRow B e size v (0 + n) ([] ++ xs)) : w.ownsRow B e size v n xs := by
  rwa [Nat.zero_add, List.nil_append] at h
theorem Reads.later {w w' : World} {s n : Nat} {A : Option Addr} {xs : List Value} (h : Reads w w.heap.size s A n xs) (hb : Below w.heap.size w w') : Reads w' w'.heap.size s A n xs :=
  (h.below hb).more hb.size
theorem below_then {a b c : World} (h : Below a.heap.size a b) (k : Below b.heap.size b c) : Below a.heap.size a c := h.trans (k.mono h.size)
theorem below_new (w : World) (o : Obj) : Below w.heap.size w (w.alloc o) := (Below.refl _ _).alloc (Nat.le_refl _) o
theorem size_after {wr w1 : World} {o : Obj} {row : Option Nat} {B : Nat} (hg : (wr.alloc o).grownBy w1 row) (hB : B ≤ wr.heap.size) : B ≤ w1.heap.size := by
  have h1 := hg.size
  rw [size_alloc] at h1
  omega

/-- '[]byte(s)' -/
theorem wpList_bytes_of {ops : Array Oper} {rest : List Oper} {o : Oper} {a : Act} {w : World} {Q : Exit → Act → World → Prop} (hgd : o.guard = none) (x : Operand) (ho : o.op = .convert 9 22 x) (s : ByteArray) (hx : a.eval x = .string s)
    (h : ∀ A c w', Reads w' w'.heap.size 1 A s.size (bs s.data.toList) → Below w.heap.size w w' → wpList Tryd.prog ops Q rest (a.put o.dst (.slice A s.size c)) w') : wpList Tryd.prog ops Q (o :: rest) a w := by
  refine wpList_plain hgd fun K hK => ?_
  have hr := run_bytes_of_string (P := Tryd.prog) w 9 22 5 s Tryd.underlying9 Tryd.underlying22 Tryd.underlying5
  unfold Oper.wp execOp
  simp only [ho, hx, Sem.run_bind, hr, Result.andThen_ok]
  refine hK _ _ (h _ _ _ ⟨by simp [bs_length], fun hn => ⟨_, rfl, ?_, fun j u hu => ?_⟩⟩ ?_)
  · rw [World.size_alloc]
    show w.heap.size < w.heap.size + 1
    omega
  · have hj : j < s.data.size := by
      have := (List.getElem?_eq_some_iff.1 hu).1
      rw [bs_length] at this; simpa using this
    rw [Addr.add_lit, Nat.zero_add]
    have h1 := World.cell?_alloc_mark w.drew (bytesRow s (grownCap w s.size 0 5)) 5 ((bytesRow s (grownCap w s.size 0 5)).size, (bytesRow s (grownCap w s.size 0 5)).size + 1) j
    refine Eq.trans h1 ?_
    rw [bytesRow_at s _ j hj, ← hu, bs_get _ j (by simpa using hj)]
    simp
  · exact ((Below.refl w.heap.size w).drew).alloc (Nat.le_refl _) _
/-- The number of a slice's elements. -/
def lenOf : Value → Nat
  | .slice _ n _ => n
  | _ => 0
theorem own_len {w : World} {B : Nat} {e : TypeId} {size n : Nat} {v : Value} {xs : List Value} (h : w.ownsRow B e size v n xs) : ∃ A c, v = .slice A n c ∧ n ≤ c := by
  rcases h.2 with ⟨rfl, rfl⟩ | ⟨g, cap, cur, rfl, _, _, hc, _⟩
  · exact ⟨none, 0, rfl, Nat.le_refl _⟩
  · exact ⟨_, _, rfl, hc⟩
end Go.Proofs.YtgabmipakocheaaDoor
