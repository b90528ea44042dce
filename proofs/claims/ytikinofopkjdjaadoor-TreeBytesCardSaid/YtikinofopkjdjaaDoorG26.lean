/-
  The reference's Encode.
-/
import Derived.Test.YtikinofopkjdjaaDoorG16
import Derived.Test.YtikinofopkjdjaaDoorG25
import Derived.Deep.DeepCutAuto
set_option linter.unusedVariables false
namespace Go.Proofs.YtikinofopkjdjaaDoor.TR
open WM
theorem part_next {t u : T} {j : Nat} (hu : t.kids[j]? = some u) : headB t ++ ((t.kids.take (j + 1)).map encT).flatten = (headB t ++ ((t.kids.take j).map encT).flatten) ++ encT u := by
  rw [List.take_add_one, hu]
  simp
theorem part_le (t : T) (j : Nat) : (headB t ++ ((t.kids.take j).map encT).flatten).length ≤ (encT t).length := by
  have h : (t.kids.map encT).flatten = ((t.kids.take j).map encT).flatten ++ ((t.kids.drop j).map encT).flatten := by
    rw [← List.flatten_append, ← List.map_append, List.take_append_drop]
  rw [encT_eq, h]
  simp only [List.length_append]; omega
end Go.Proofs.YtikinofopkjdjaaDoor.TR
namespace Go.Proofs.YtikinofopkjdjaaDoor
open Go.RowKit WM TR
theorem own_base {w : World} {B B' e size n : Nat} {v : Value} {xs : List Value} (h : w.ownsRow B e size v n xs) (hb : B' ≤ B) : w.ownsRow B' e size v n xs :=
  ⟨h.1, h.2.imp id fun ⟨g, cap, cur, h1, h2, h3⟩ => ⟨g, cap, cur, h1, Nat.le_trans hb h2, h3⟩⟩
theorem ints4i (w : World) (a b c d : Int) : Reads (w.alloc (.cells #[.int .i64 a, .int .i64 b, .int .i64 c, .int .i64 d] 3)) (w.alloc (.cells #[.int .i64 a, .int .i64 b, .int .i64 c, .int .i64 d] 3)).heap.size 1 (some ⟨w.heap.size, 0, none⟩) [a, b, c, d].length (is [a, b, c, d]) :=
  ⟨rfl, fun _ => ⟨_, rfl, (by rw [size_alloc]; exact Nat.lt_succ_self _), cells_new w [.int .i64 a, .int .i64 b, .int .i64 c, .int .i64 d] 3⟩⟩
theorem below_grE {a w w' : World} {row : Option Nat} (hb : Below a.heap.size a w) (h : w.grownBy w' row) (hr : ∀ b, row = some b → a.heap.size ≤ b) : Below a.heap.size a w' :=
  ⟨h.os.trans hb.os, h.tape.trans hb.tape, h.output.trans hb.output, Nat.le_trans hb.size h.size, fun i hi => (h.block i (Nat.lt_of_lt_of_le hi hb.size) (fun e => by have := hr i e.symm; omega)).trans (hb.block i hi)⟩

set_option maxRecDepth 100000 in
set_option maxHeartbeats 4000000 in
theorem rencode_is : ∀ (d : Nat) (t : T) (S : Nat → Prop) (A : Option Addr) (c : Nat) (w : World), Rep w S d t (nd t A c) → In S w.heap.size → size t ≤ 1000000 →
    Calls Tryd.prog 10 #[.agg #[.int .i64 t.k, .int .i64 t.n, .int .i64 t.m, .slice A t.kids.length c]] w fun e w' =>
      ∃ A' c', e = .returned (.slice A' (encT t).length c') ∧ w'.ownsRow w.heap.size 5 1 (.slice A' (encT t).length c') (encT t).length (bs (encT t)) ∧ Below w.heap.size w w' := by
  intro d
  induction d with
  | zero => intro t S A c w h; exact h.elim
  | succ d ih =>
    intro t S A c w h hin hs
    obtain ⟨i0, hi, hz0, hz1, hz2⟩ := info_parts Tryd.info5
    have hok := h.ok hs
    obtain ⟨h1, h2, h3, h4, hkok⟩ := hok.facts
    have hsm := encT_small t hok
    have hpl := fun j => Nat.le_trans (part_le t j) hsm
    have hhl := hpl 0
    have hr4 : ∀ x ∈ [t.k, t.n, t.m, (t.kids.length : Int)], inRange x := by
      intro x hx
      simp only [List.mem_cons, List.not_mem_nil, or_false] at hx
      rcases hx with rfl | rfl | rfl | rfl
      · exact h1
      · exact h2
      · exact h3
      · exact ⟨by omega, by omega⟩
    have hIN : ∀ W : World, ∀ b : Nat, Reads W W.heap.size 1 (some ⟨b, 0, none⟩) 4 (is [t.k, t.n, t.m, (t.kids.length : Int)]) → Calls Tryd.prog 44 #[.slice (some ⟨b, 0, none⟩) 4 4] W fun e w' => ∃ A c, e = .returned (.slice A (headB t).length c) ∧ w'.ownsRow W.heap.size 5 1 (.slice A (headB t).length c) (headB t).length (bs (headB t)) ∧ Below W.heap.size W w' := fun W b hrd =>
      refInts (some ⟨b, 0, none⟩) [t.k, t.n, t.m, (t.kids.length : Int)] 4 W hrd hr4 (by
        have e : encL enc [t.k, t.n, t.m, (t.kids.length : Int)] = headB t := rfl
        rw [e]
        rw [List.length_append] at hhl
        omega) (by simp)
    obtain ⟨len, hlen⟩ : ∃ len, len = t.kids.length := ⟨_, rfl⟩
    have hcap := h.cap
    have hl6 := kids_lt t
    have hend : headB t ++ ((t.kids.take len).map encT).flatten = encT t := by rw [hlen, List.take_length, encT_eq]
    rw [← hlen] at hcap hl6 hIN ⊢
    have hl6 : len ≤ 1000000 := by omega
    have H := Lib.hid h
    have HI := Lib.hid hin
    have HLEN := Lib.hid hlen
    have HS := Lib.hid hs
    have HIN := Lib.hid hIN
    have HPL := Lib.hid hpl
    have HEND := Lib.hid hend
    clear h hin hlen hs hok h1 h2 h3 h4 hkok hsm hpl hhl hr4 hIN hend
    go_enter Tryd.func10, Tryd.ntmps10
    go_upto_region 1 with fail
    obtain ⟨W0, hW0⟩ : ∃ W0, W0 = w.alloc (.cells #[.int .i64 t.k, .int .i64 t.n, .int .i64 t.m, .slice A len c] 26) := ⟨_, rfl⟩
    have hbk : Blk W0 w.heap.size 26 #[.int .i64 t.k, .int .i64 t.n, .int .i64 t.m, .slice A len c] := by rw [hW0]; exact Blk.new w _ _
    have hc0 : W0.cell? ⟨w.heap.size, 0, none⟩ = some (.int .i64 t.k) := hbk.cell 0
    have hc1 : W0.cell? ⟨w.heap.size, 1, none⟩ = some (.int .i64 t.n) := hbk.cell 1
    have hc2 : W0.cell? ⟨w.heap.size, 2, none⟩ = some (.int .i64 t.m) := hbk.cell 2
    have hc3 : W0.cell? ⟨w.heap.size, 3, none⟩ = some (.slice A len c) := hbk.cell 3
    have HC3 := Lib.hid hc3
    have HB0 : Hid (Below w.heap.size w W0) := Lib.hid (by rw [hW0]; exact below_new _ _)
    have hz0' : w.heap.size < W0.heap.size := by rw [hW0, size_alloc]; omega
    rw [← hW0]
    clear hW0 hbk
    go_wp2_with (go_at_call 44; refine (HIN.out _ _ (ints4i _ _ _ _ _)).mono ?_; rintro e w1 ⟨A1, c1, rfl, ho1, hb1⟩; have HO1 := Lib.hid (own_base ho1 (Nat.le_trans (Nat.le_refl W0.heap.size) (below_new W0 (.cells #[.int .i64 t.k, .int .i64 t.n, .int .i64 t.m, .int .i64 (len : Int)] 3)).size)); have HB1 := Lib.hid (bt (below_new W0 (.cells #[.int .i64 t.k, .int .i64 t.n, .int .i64 t.m, .int .i64 (len : Int)] 3)) hb1); clear ho1 hb1)
    clear hc0 hc1 hc2 hc3 HIN
    go_loopw [3, 4] (fun s i wr => ∃ j : Nat, j ≤ len ∧ i = .int .i64 j ∧ Hid (wr.ownsRow W0.heap.size 5 1 s (headB t ++ ((t.kids.take j).map encT).flatten).length (bs (headB t ++ ((t.kids.take j).map encT).flatten))) ∧ Hid (Below W0.heap.size W0 wr)) (fun _ i _ => len - (intOf i).toNat)
    case atStart => exact ⟨0, Nat.zero_le _, rfl, by simpa [Hid] using HO1.out, HB1.out⟩
    case round =>
      obtain ⟨j, hj, rfl, HO, HB⟩ := hrel
      have hc3 := (HB.out.cell (p := ⟨w.heap.size, 3, none⟩) hz0').trans HC3.out
      obtain ⟨P, hP⟩ : ∃ P, headB t ++ ((t.kids.take j).map encT).flatten = P := ⟨_, rfl⟩
      have hPl : P.length ≤ 45000000 := by have h1 := HPL.out j; have h2 := HS.out; rw [hP] at h1; omega
      by_cases hlt : j < len
      · obtain ⟨u, hu⟩ : ∃ u, t.kids[j]? = some u := ⟨_, List.getElem?_eq_getElem (by rw [← HLEN.out]; exact hlt)⟩
        have hr := (H.out.later HI.out HB0.out).later (HI.out.more (Nat.le_of_lt hz0')) HB.out
        obtain ⟨b, off, A', c', hA, hb, hcells, hru⟩ := hr.kid hu
        subst hA
        have hsu := size_kid hu
        have HSU : Hid (size u ≤ 1000000) := Lib.hid (by have := HS.out; omega)
        have huok := hru.ok HSU.out
        have hul : (encT u).length ≤ 45000000 := by have h1 := encT_small u huok; have h2 := HSU.out; omega
        have HN : Hid (headB t ++ ((t.kids.take (j + 1)).map encT).flatten = P ++ encT u) := Lib.hid (by rw [part_next hu, hP])
        rw [hP] at HO
        have HR := Lib.hid hru
        have HIR : Hid (In S wr.heap.size) := Lib.hid (HI.out.more (Nat.le_trans (Nat.le_of_lt hz0') HB.out.size))
        have HCL := Lib.hid hcells
        have HOL := Lib.hid HO.out.lt
        obtain ⟨n, hn⟩ : ∃ n, (encT u).length = n := ⟨_, rfl⟩
        have HE : Hid (Calls Tryd.prog 10 #[.agg #[.int .i64 u.k, .int .i64 u.n, .int .i64 u.m, .slice A' u.kids.length c']] wr fun e w' =>
            ∃ A' c', e = .returned (.slice A' n c') ∧ w'.ownsRow wr.heap.size 5 1 (.slice A' n c') n (bs (encT u)) ∧ Below wr.heap.size wr w') := Lib.hid (by rw [← hn]; exact ih u S A' c' _ HR.out HIR.out HSU.out)
        rw [hn] at hul
        have HNN := Lib.hid hn
        obtain ⟨q, hq⟩ : ∃ q, P.length = q := ⟨_, rfl⟩
        rw [hq] at HO hPl
        have HQ := Lib.hid hq
        clear hr hcells hru hu hsu huok hP hn hq
        go_wp2_with (first
          | (refine wpList_load_mid rfl 26 (.tmp 27) rfl b (off + j * 4) rfl [.int .i64 u.k, .int .i64 u.n, .int .i64 u.m, .slice A' u.kids.length c'] _ HCL.out Tryd.underlying26 rfl (by rw [size_node]; rfl) ?_)
          | (go_at_call 10; refine HE.out.mono ?_; rintro e w2 ⟨A2, c2, rfl, ho2, hb2⟩; have HO2 := Lib.hid (ownsRow_below HO.out hb2); have HR2 := Lib.hid (Reads.of_own ho2); have HB2 := Lib.hid (bt HB.out hb2); clear ho2 hb2)
          | (at_builtin; refine wpList_append_any _ rfl (.tmp 23) (.tmp 29) _ rfl W0.heap.size 5 i0 (.int .u8 0) 1 1 Tryd.underlying23 hi hz0 hz1 hz2 rfl (by omega) _ _ _ rfl HO2.out _ A2 n c2 (bs (encT u)) rfl HR2.out (bs_one _) (len_le (by omega)) (by omega) HB2.out.size ?_; intro v3 w3 hown3 hg3 _; have HO3 := Lib.hid hown3; have HB3 := Lib.hid (below_grE HB2.out hg3 (fun b e => (HOL.out b e).1)); clear hown3 hg3))
        go_roundw
        case rel =>
          refine ⟨j + 1, by omega, by go_num, ?_, HB3.out⟩
          have h := HO3.out
          rw [← bs_append] at h
          rw [HN.out, List.length_append, HQ.out, HNN.out]
          exact h
        case measure => simp [intOf]; omega
      · have hjl : j = len := by omega
        have HF : Hid (P = encT t) := Lib.hid (by rw [← hP, hjl, HEND.out])
        rw [hP] at HO
        clear hjl hP
        go_wp2_with fail
        go_ret
        have h := HO.out
        rw [HF.out] at h
        obtain ⟨A', c', rfl, _⟩ := own_len h
        exact ⟨A', c', rfl, own_base h (Nat.le_of_lt hz0'), bt HB0.out HB.out⟩
end Go.Proofs.YtikinofopkjdjaaDoor
