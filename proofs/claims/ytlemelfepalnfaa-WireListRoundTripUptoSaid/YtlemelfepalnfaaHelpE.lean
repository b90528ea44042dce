/-
  FOR THE LAWS: slices of strings and of digests that came in, as lists; how large they are.
-/
import Derived.Test.YtlemelfepalnfaaHelpB
import Derived.SliceStrings
import Derived.SizedLaws
import Derived.Deep.Slices
import Derived.OpenShut
namespace Go.Proofs.Ytlemelfepalnfaa
open Go.RowKit WM Go.ChangeShapes Go.WideShapes Go.Deep

section
variable {H : Type} {P : Program}
theorem weights_strs (e : TypeId) : ∀ (vs : List ByteArray), ∀ s ∈ vs, s.size ∈ DataW.weightsAll P e (strs (H := H) vs) := by
  intro vs
  induction vs with
  | nil => intro s hs; cases hs
  | cons a vs ih =>
    intro s hs
    simp only [strs, List.map_cons, DataW.weightsAll, DataW.weights, List.mem_append]
    rcases List.mem_cons.1 hs with rfl | hs
    · left; simp
    · right; exact ih s hs
theorem sized_strs {ts : List TypeId} {ds : List (DataW H)} (h : (DataW.weightsEach P ts ds).all (· ≤ reachBytes) = true) {j : Nat} {t e : TypeId} {vs us : List ByteArray} (ht : ts[j]? = some t) (hd : ds[j]? = some (.slice (strs vs) (strs us))) (hu : P.underlying t = some (.slice e)) :
    ∀ s ∈ vs, s.size ≤ reachBytes := by
  intro s hs
  have h1 := weights_strs (P := P) (H := H) e vs s hs
  have := List.all_eq_true.1 h _ (DataW.weights_mem_each ht hd s.size (by simp only [DataW.weights, hu, List.mem_cons, List.mem_append]; exact .inr (.inl h1)))
  simpa using this
end

theorem arg_strs {W : World} {a : Addr} {len cap : Nat} {zs : List ByteArray} (hl : len ≤ cap) (hz : zs.length = cap) (hc : ∀ i, i < zs.length → W.cell? (a.add i) = some (.string (zs.getD i ByteArray.empty))) :
    (zs.take len).length = len ∧ Reads W W.heap.size 1 (some a) len (ss (zs.take len)) := by
  refine ⟨by simp; omega, by simp [ss]; omega, fun hn => ⟨a, rfl, ?_, fun j u hu => ?_⟩⟩
  · have := block_lt_of_cell (hc 0 (by omega))
    rwa [block_of_add] at this
  · have hj : j < len := by
      have := (List.getElem?_eq_some_iff.1 hu).1
      simp [ss] at this; omega
    have hzj : j < zs.length := by omega
    rw [hc j hzj]
    unfold ss at hu
    rw [List.getElem?_map, List.getElem?_take, if_pos hj, List.getElem?_eq_getElem hzj] at hu
    simp only [Option.map_some, Option.some.injEq] at hu
    rw [← hu, List.getD_eq_getElem?_getD, List.getElem?_eq_getElem hzj]
    rfl

theorem collect {α : Type} {p : Nat → α → Prop} : ∀ n : Nat, (∀ i, i < n → ∃ x, p i x) → ∃ l : List α, l.length = n ∧ ∀ i x, l[i]? = some x → p i x := by
  intro n
  induction n with
  | zero => intro _; exact ⟨[], rfl, by simp⟩
  | succ n ih =>
    intro h
    obtain ⟨l, h1, h2⟩ := ih (fun i hi => h i (by omega))
    obtain ⟨x, hx⟩ := h n (by omega)
    refine ⟨l ++ [x], by simp [h1], fun i y hy => ?_⟩
    by_cases hi : i < n
    · rw [List.getElem?_append_left (by omega)] at hy
      exact h2 i y hy
    · rw [List.getElem?_append_right (by omega)] at hy
      have : i - l.length = 0 := by
        have := (List.getElem?_eq_some_iff.1 hy).1
        simp at this; omega
      rw [this] at hy
      simp at hy
      subst hy
      have : i = n := by omega
      subst this; exact hx

section
variable {H : Type} {enc : TypeId × Value → H} {w : World} {base : Nat} {spare : Nat → Bool} {held : Bool}
/-- Sixteen bytes in a row. -/
theorem digest_cells {m : Nat} {cs : List Value} {x : DataW H × List MemPlace} (h : DataW.trod enc Try.prog w base spare held m 57 cs = some x) : ∃ d : List UInt8, d.length = 16 ∧ cs = bs d := by
  obtain ⟨xs, k, _, _, hl, hx, hi⟩ := DataW.trod_array Try.arr57 h
  have h16 : Try.prog.cellsOf 57 = 16 := by kernel_rfl
  have h1 : Try.prog.cellsOf 5 = 1 := Try.cells5
  rw [h16] at hl
  obtain ⟨d, hd, hd2⟩ := collect (p := fun i (c : UInt8) => cs[i]? = some (Value.int .u8 (c.toNat : Int))) 16 (fun i hi2 => by
    have h2 := hi i hi2
    rw [h1, Nat.mul_one, List.getElem?_eq_getElem (show i < xs.length by omega)] at h2
    obtain ⟨n, e1, _, e3⟩ := DataW.trod_int Try.underlying5 h2
    have hb : 0 ≤ n ∧ n < 256 := by simp [Lit.wf, IntKind.min, IntKind.max, IntKind.bits, IntKind.signed] at e3; omega
    refine ⟨UInt8.ofNat n.toNat, ?_⟩
    have e4 : ((cs.drop i).take 1)[0]? = some (Value.int .u8 n) := by rw [e1]; rfl
    rw [List.getElem?_take, if_pos (by omega), List.getElem?_drop, Nat.add_zero] at e4
    rw [e4, UInt8.toNat_ofNat']
    congr 2
    omega)
  refine ⟨d, hd, List.ext_getElem? fun i => ?_⟩
  by_cases hi2 : i < 16
  · rw [bs_get d i (by omega), hd2 i _ (List.getElem?_eq_getElem (by omega))]
  · rw [List.getElem?_eq_none (by omega), List.getElem?_eq_none (by rw [bs_length]; omega)]

/-- A slice of digests that came in. -/
theorem open_digests {fuel : Nat} {cs : List Value} {x : DataW H × List MemPlace} (h : DataW.trod enc Try.prog w base (fun _ => true) held fuel 24 cs = some x) :
    (cs = [.slice none 0 0]) ∨
    ∃ (a : Addr) (len cap : Nat) (l : List (List UInt8)) (es sp : List (DataW H)), cs = [.slice (some a) len cap] ∧ len ≤ cap ∧ x.1 = .slice es sp ∧ es.length + sp.length = cap ∧ l.length = len ∧ (∀ y ∈ l, y.length = 16) ∧ Reads w w.heap.size 16 (some a) len (dg l) := by
  rcases open_slice Try.underlying24 h with ⟨h0, _⟩ | ⟨a, len, cap, m, n, D, Pl, hcs, _, hlc, _, hm, hx, hi⟩
  · exact .inl h0
  right
  simp only [if_true] at hm
  subst hm
  have h16 : Try.prog.cellsOf 57 = 16 := by kernel_rfl
  rw [h16] at hi
  obtain ⟨l, hl, hl2⟩ := collect (p := fun i (d : List UInt8) => d.length = 16 ∧ ∀ j u, (bs d)[j]? = some u → w.cell? (a.add (i * 16 + j)) = some u) len (fun i hi2 => by
    obtain ⟨cs', h1, h2⟩ := hi i (by omega)
    obtain ⟨d, hd, rfl⟩ := digest_cells h2
    obtain ⟨_, _, h3⟩ := World.cells?_some h1
    refine ⟨d, hd, fun j u hu => ?_⟩
    have hj : j < 16 := by
      have := (List.getElem?_eq_some_iff.1 hu).1
      rw [bs_length] at this; omega
    rw [← add_of_add, h3 j hj, hu])
  have hall : ∀ y ∈ l, y.length = 16 := by
    intro y hy
    obtain ⟨i, hi3, rfl⟩ := List.getElem_of_mem hy
    exact (hl2 i _ (List.getElem?_eq_getElem hi3)).1
  have hfl : l.flatten.length = len * 16 := by
    rw [← hl]
    clear hl hl2 hi hx
    induction l with
    | nil => simp
    | cons y l ih =>
      rw [List.flatten_cons, List.length_append, hall y (by simp), ih (fun z hz => hall z (by simp [hz])), List.length_cons]
      omega
  refine ⟨a, len, m, l, _, _, hcs, hlc, by rw [hx], by simp; omega, hl, hall, ?_⟩
  refine ⟨by unfold dg; rw [bs_length]; exact hfl, fun hn => ⟨a, rfl, ?_, fun q u hu => ?_⟩⟩
  · have hg := hl2 0 _ (List.getElem?_eq_getElem (show 0 < l.length by omega))
    have := block_lt_of_cell (hg.2 0 _ (bs_get _ 0 (by omega)))
    rwa [block_of_add] at this
  · have hq : q < len * 16 := by
      have := (List.getElem?_eq_some_iff.1 hu).1
      unfold dg at this
      rw [bs_length] at this; omega
    have hk : q / 16 < l.length := by omega
    have hg := (hl2 (q / 16) _ (List.getElem?_eq_getElem hk)).2 (q % 16) u ?_
    · rwa [show q / 16 * 16 + q % 16 = q by omega] at hg
    · unfold dg bs at hu
      unfold bs
      rw [List.getElem?_map] at hu ⊢
      rw [← flatten_at l hall (q / 16) hk (q % 16) (by omega), show q / 16 * 16 + q % 16 = q by omega]
      exact hu
end
end Go.Proofs.Ytlemelfepalnfaa
