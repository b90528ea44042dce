/-
  The walk of CodeFunctions: a further function changes neither whether code is valid nor the heights of the others.
-/
import Derived.Test.YtdhmaopodcccmaaDoorG23
import Derived.Test.YtdhmaopodcccmaaDoorG27
import Derived.Test.YtdhmaopodcccmaaDoorG28
set_option linter.unusedVariables false
namespace Go.Proofs.YtdhmaopodcccmaaDoor
open Go.RowKit WM TR KM

theorem HtsPost.rd {o : Option (List Int)} {w w' : World} {e : Ending} (h : HtsPost o w e w') : ∃ A c, e = .returned (.slice A (o.getD []).length c) ∧ Rd w' (fun b => b < w'.heap.size) 1 A (o.getD []).length (vi (o.getD [])) ∧ Below w.heap.size w w' := by
  cases o with
  | none => exact ⟨none, 0, h.1, Rd.none_, h.2⟩
  | some hs =>
    obtain ⟨A, c, h1, h2, h3⟩ := h
    exact ⟨A, c, h1, (Rd.of_own h2).mono fun b hb => hb.2, h3⟩
theorem hAt_len {ch : Int} {es : List Ent} {k : Int} (hb : ∀ e ∈ es, e.body.length ≤ 200000) : ((hAt ch (es.map Ent.fn) k).getD []).length ≤ 200000 := by
  unfold hAt
  split
  · cases hf : (es.map Ent.fn)[k.toNat]? with
    | none => simp
    | some f =>
      cases ho : hOf ch (es.map Ent.fn) f with
      | none => simp [ho]
      | some hs =>
        have h1 := (hOf_ne ho).1
        obtain ⟨e, he, rfl⟩ := List.mem_map.1 (List.mem_of_getElem? hf)
        have h2 := hb e he
        have h3 : (Ent.fn e).body.length = e.body.length := rfl
        simp [ho]
        omega
  · simp
attribute [local go_sem ↓ high] shutApP
theorem rd_next {w w' : World} {size n : Nat} {A : Option Addr} {xs : List Value} (h : Rd w (fun b => b < w.heap.size) size A n xs) (hb : Below w.heap.size w w') : Rd w' (fun b => b < w'.heap.size) size A n xs :=
  (h.keep fun b hb' => hb.block b hb').mono fun _ hb' => Nat.lt_of_lt_of_le hb' hb.size
/-- No instruction calls or starts the function n. -/
def NoC (n : Nat) (x : Ins) : Prop := (x.op = 9 ∨ x.op = 16) → x.a ≠ (n : Int)
/-- A code grows by a function of its own. -/
theorem grow_code {a w3 Vd : World} {B : Nat} {ch : Int} {A' : Option Addr} {c' : Nat} {fs : List Ent} {i0 : TypeInfo} {z0 : Value} (hi : Tryd.prog.info? 51 = some i0) (hz0 : i0.zero = some z0) (hz1 : i0.size = 4) (hz2 : i0.bytes = 64) (hz3 : z0.cells.size = 4)
    (hO : OwnCo w3 B A' c' fs) (hB : B = a.heap.size) (hba : Below a.heap.size a w3) (hVd : Vd = w3.alloc (.cells #[.int .i64 ch, .slice A' fs.length c'] 25)) (v : Int) (hv : inRange v) (hl : fs.length ≤ 1000) :
    ∃ (A4 : Option Addr) (c4 : Nat) (w4 : World), (apP #[23, 23] 23 #[.slice A' fs.length c', .slice (some ⟨Vd.heap.size + 1, 0, none⟩) 1 1]).run Tryd.prog ((Vd.alloc (.cells #[.int .i64 0, .int .i64 v, .int .i64 0, .int .i64 10, .int .i64 0, .int .i64 0] 54)).alloc (.cells #[.int .i64 0, .int .i64 0, .slice (some ⟨Vd.heap.size, 0, none⟩) 2 2, .slice none 0 0] 51)).drew = .ok (.slice A4 (fs.length + 1) c4) w4 ∧
      w4.cell? ⟨w3.heap.size, 1, none⟩ = some (.slice A' fs.length c') ∧ w4.frozen? ⟨w3.heap.size, 1, none⟩ = false ∧
      ∀ Ve, Ve = w4.setCell ⟨w3.heap.size, 1, none⟩ (.slice A4 (fs.length + 1) c4) → Blk Ve w3.heap.size 25 #[.int .i64 ch, .slice A4 (fs.length + 1) c4] ∧ CoR Ve (fun b => b < Ve.heap.size) A4 c4 (fs ++ [⟨0, 0, some ⟨Vd.heap.size, 0, none⟩, 2, [⟨0, v, 0⟩, ⟨10, 0, 0⟩]⟩]) ∧ Below a.heap.size a Ve := by
  obtain ⟨eN, heN⟩ : ∃ e : Ent, e = ⟨0, 0, some ⟨Vd.heap.size, 0, none⟩, 2, [⟨0, v, 0⟩, ⟨10, 0, 0⟩]⟩ := ⟨_, rfl⟩
  obtain ⟨Wa, hWa⟩ : ∃ W, W = Vd.alloc (.cells #[.int .i64 0, .int .i64 v, .int .i64 0, .int .i64 10, .int .i64 0, .int .i64 0] 54) := ⟨_, rfl⟩
  have hsd : Vd.heap.size = w3.heap.size + 1 := by rw [hVd]; simp
  have hsa : Wa.heap.size = Vd.heap.size + 1 := by rw [hWa]; simp
  have hb3d : Below w3.heap.size w3 Vd := by rw [hVd]; exact below_new _ _
  have hbda : Below Vd.heap.size Vd Wa := by rw [hWa]; exact below_new _ _
  have hb3a : Below w3.heap.size w3 Wa := bt hb3d hbda
  have kd : Blk Wa w3.heap.size 25 #[.int .i64 ch, .slice A' fs.length c'] := (show Blk Vd w3.heap.size 25 #[.int .i64 ch, .slice A' fs.length c'] by rw [hVd]; exact Blk.new _ _ _).below hbda (by omega)
  have kN : Blk Wa Vd.heap.size 54 #[.int .i64 0, .int .i64 v, .int .i64 0, .int .i64 10, .int .i64 0, .int .i64 0] := by rw [hWa]; exact Blk.new _ _ _
  have hOa := hO.next hb3a
  have hrow := hO.own.lt
  have hr0 : Reads (Wa.alloc (.cells (entC eN).toArray 51)).drew (Wa.heap.size + 1) 4 (some ⟨Wa.heap.size, 0, none⟩) 1 (entC eN) := fun_new Wa eN
  obtain ⟨v4, w4, happ, hown4, hgrow4, hnew4⟩ := run_append_any (P := Tryd.prog) (Wa.alloc (.cells (entC eN).toArray 51)).drew B 23 23 51 i0 z0 4 64 Tryd.underlying23 hi hz0 hz1 hz2 hz3 (by omega) (.slice A' fs.length c') fs.length (entsC fs) (show (Wa.alloc (.cells (entC eN).toArray 51)).drew.ownsRow B 51 4 (.slice A' fs.length c') fs.length (entsC fs) from hOa.own.alloc _) _ (some ⟨Wa.heap.size, 0, none⟩) 1 1 (entC eN) hr0 (entC_one _) (len_le (by omega)) (by omega) (by show B ≤ (Wa.alloc _).heap.size; rw [size_alloc]; have := hba.size; omega)
  obtain ⟨A4, c4, rfl, hc4⟩ := own_len hown4
  have hg4 : (Wa.alloc (.cells (entC eN).toArray 51)).grownBy w4 (Value.slice A' fs.length c').ownBlock := ⟨hgrow4.os, hgrow4.tape, hgrow4.output, hgrow4.size, hgrow4.block⟩
  have hs4 := hg4.size
  rw [size_alloc] at hs4
  have hnew5 : (Value.slice A4 (fs.length + 1) c4).ownBlock = (Value.slice A' fs.length c').ownBlock ∨ (Value.slice A4 (fs.length + 1) c4).ownBlock = some (Wa.heap.size + 1) := by
    rcases hnew4 with h | h
    · exact .inl h
    · right; rw [h]; exact congrArg some (size_alloc _ _)
  have k4 : Blk w4 w3.heap.size 25 #[.int .i64 ch, .slice A' fs.length c'] := (kd.alloc _).grown hg4 (fun e => by have := (hrow _ e.symm).2; omega)
  have kN4 : Blk w4 Vd.heap.size 54 #[.int .i64 0, .int .i64 v, .int .i64 0, .int .i64 10, .int .i64 0, .int .i64 0] := (kN.alloc _).grown hg4 (fun e => by have := (hrow _ e.symm).2; omega)
  have hent : entC eN = [.int .i64 0, .int .i64 0, .slice (some ⟨Vd.heap.size, 0, none⟩) 2 2, .slice none 0 0] := by rw [heN]; rfl
  refine ⟨A4, c4, w4, ?_, k4.cell 1, k4.frozen 1, fun Ve hVe => ?_⟩
  · rw [hent, hsa] at happ
    rw [← hWa]
    exact happ
  · have hse : Ve.heap.size = w4.heap.size := by rw [hVe]; exact World.size_setCell _ _ _
    have keep : ∀ b, b ≠ w3.heap.size → Ve.heap[b]? = w4.heap[b]? := fun b hb => by rw [hVe]; exact Below.heap_setCell w4 ⟨w3.heap.size, 1, none⟩ _ b hb
    have hown5 : Ve.ownsRow B 51 4 (.slice A4 (fs.length + 1) c4) (fs.length + 1) (entsC (fs ++ [eN])) := by
      rw [hVe, entsC_append]
      have h2 := ownsRow_setCell_other hown4 (a := ⟨w3.heap.size, 1, none⟩) (fun e => by
        rcases hnew5 with h | h
        · rw [h] at e; have := (hrow _ e).2; simp at this
        · rw [h] at e; injection e with e; simp at e; omega) (.slice A4 (fs.length + 1) c4)
      simpa [entsC] using h2
    have hln : (fs ++ [eN]).length = fs.length + 1 := by simp
    refine ⟨?_, ⟨?_, ?_, ?_, fun e he => ?_⟩, ?_⟩
    · rw [hVe]
      have := k4.set_ 1 (.slice A4 (fs.length + 1) c4)
      simpa using this
    · rw [← heN, hln]
      exact (Rd.of_own hown5).mono fun b hb => hb.2
    · rw [← heN, hln]; exact hc4
    · rw [← heN, hln]; omega
    · rw [← heN] at he
      rcases List.mem_append.1 he with he | he
      · refine (hO.bod e he).body.keep (fun b hb => ?_) fun b hb => ?_
        · rw [keep b (by have := hb.2.1; omega)]
          exact (hg4.block b (by rw [size_alloc]; have := hb.2.1; omega) (fun e => hb.2.2 e.symm)).trans (((below_new Wa _).block b (by have := hb.2.1; omega)).trans (hb3a.block b hb.2.1))
        · have h1 := hb.2.1
          show b < Ve.heap.size
          omega
      · rw [List.mem_singleton.1 he, heN]
        have kNe : Blk Ve Vd.heap.size 54 #[.int .i64 0, .int .i64 v, .int .i64 0, .int .i64 10, .int .i64 0, .int .i64 0] := (keep _ (by omega)).trans kN4
        refine ⟨⟨rfl, fun _ => ⟨_, rfl, kNe.lt, fun j u hu => ?_⟩⟩, Nat.le_refl _, by simp, ?_, by show inRange 0; unfold inRange; omega, by show inRange 0; unfold inRange; omega⟩
        · rw [Addr.add_lit, Nat.zero_add, kNe.cell j]
          have h2 : (insCs [⟨0, v, 0⟩, ⟨10, 0, 0⟩])[j]? = (#[Value.int .i64 0, .int .i64 v, .int .i64 0, .int .i64 10, .int .i64 0, .int .i64 0])[j]? := by simp [insCs, insC]
          rw [← h2]; exact hu
        · intro y hy
          simp only [List.mem_cons, List.not_mem_nil, or_false] at hy
          have r0 : inRange 0 := by unfold inRange; omega
          have r10 : inRange 10 := by unfold inRange; omega
          rcases hy with rfl | rfl
          · exact ⟨r0, hv, r0⟩
          · exact ⟨r10, r0, r0⟩
    · rw [hVe]
      exact below_set (below_row (bt hba hb3a) hg4 fun b e => by have := (hrow b e).1; omega) hba.size 1 _
set_option maxRecDepth 100000 in
set_option maxHeartbeats 16000000 in
theorem walkFuns (A : Option Addr) (l : List Int) (cap : Nat) (i1 i2 i3 : Int) (w : World) (hl : l.length ≤ 9223372036854775807) (hw : ∀ x ∈ l, inRange x) (hrd : Reads w w.heap.size 1 A l.length (vi l)) (b1 : inRange i1) (b2 : inRange i2) (b3 : inRange i3) (hT : ET w) (hgt : 0 < w.heap.size) :
    Calls Tryd.prog 7 #[.slice A l.length cap, .int .i64 i1, .int .i64 i2, .int .i64 i3] w fun e w' => e = .returned (.bool true) ∧ Below w.heap.size w w' := by
  obtain ⟨i0, hi, hz0, hz1, hz2⟩ := info_parts fun_info
  have HC := Lib.hid (code_is l (Lt w.heap.size) A cap w (Rd.of_reads hrd) (In.lt _) hw hl)
  have HT := Lib.hid hT
  have HGT := Lib.hid hgt
  have HB1 := Lib.hid b1
  have HB2 := Lib.hid b2
  have HB3 := Lib.hid b3
  clear hl hw hrd b1 b2 hT hgt
  go_enter Tryd.func7, Tryd.ntmps7
  go_upto_region 2 with (first
    | (go_at_call 8; refine HC.out.mono ?_; rintro e w1 ⟨ch0, es0, Ac0, cc0, rfl, hco0, hb0, hg0⟩; have HCO0 := Lib.hid hco0; have HBA := Lib.hid hb0; have HG0 := Lib.hid hg0; clear hco0 hb0 hg0)
    | (go_at_call 9; refine (spo_is ch0 es0 Ac0 cc0 i1 i2 i3 2000 w1 (HCO0.out.keep (Keeps.refl _ _) fun b hb => hb.2) (by have := HG0.out.ch; omega) (by have := HG0.out.len; omega) ⟨HG0.out.body, by omega⟩ HB1.out HB2.out HB3.out).mono ?_; rintro e w2 ⟨ch, es, Ac, cc, rfl, hco, hb2, hch, hel, hbl⟩; have HCO := Lib.hid hco; replace HBA := Lib.hid (bt HBA.out hb2); have HBL := Lib.hid hbl; clear hco hb2 hbl))
  have hel2 : 1 ≤ es.length ∧ es.length ≤ 10 := by have := HG0.out.len; omega
  clear hel HCO0 HG0 HB1 HB2
  obtain ⟨n, hn⟩ : ∃ n, n = es.length := ⟨_, rfl⟩
  obtain ⟨V, hV⟩ : ∃ V, V = w2.alloc (.cells #[.int .i64 ch, .slice Ac es.length cc] 25) := ⟨_, rfl⟩
  obtain ⟨g9, hg9⟩ : ∃ z, z = w2.heap.size := ⟨_, rfl⟩
  have hbv : Below w.heap.size w V := by rw [hV]; exact ba HBA.out _
  have hcv : CoR V (fun b => b < V.heap.size) Ac cc es := by rw [hV]; exact (HCO.out.keep (Keeps.refl _ _) fun b hb => hb.2).next (below_new _ _)
  have kv : Blk V g9 25 #[.int .i64 ch, .slice Ac n cc] := by rw [hV, hg9, hn]; exact Blk.new _ _ _
  rw [← hV, ← hg9]
  rw [← hn] at hel2 ⊢
  have HN := Lib.hid hn
  have HBV := Lib.hid hbv
  have HCV := Lib.hid hcv
  have HKV := Lib.hid kv
  have HTV := Lib.hid (HT.out.below hbv HGT.out)
  have HGV : Hid (0 < V.heap.size) := Lib.hid (Nat.lt_of_lt_of_le HGT.out hbv.size)
  clear hV hg9 hbv hcv kv HBA HCO HT HGT hn
  have HLIV : Hid (∀ W, Below V.heap.size V W → Calls Tryd.prog 13 #[] W fun e w' => e = .returned (.bool true) ∧ Below W.heap.size W w') := Lib.hid fun W hb => lives_is W (HTV.out.below hb HGV.out) (Nat.lt_of_lt_of_le HGV.out hb.size)
  have c1 : V.cell? ⟨g9, 1, none⟩ = some (.slice Ac n cc) := HKV.out.cell 1
  have hn0 : ((n : Int) == 0) = false := by rw [beq_eq_false_iff_ne]; omega
  by_cases h6 : (6 : Int) ≤ (n : Int)
  · have hd6 : decide ((6 : Int) ≤ (n : Int)) = true := decide_eq_true h6
    go_wp2_with (go_at_call 13; refine (HLIV.out _ (Below.refl _ _)).mono ?_; rintro e w3 ⟨rfl, hb3⟩)
    go_ret
    exact ⟨rfl, bt HBV.out hb3⟩
  · have hd6 : decide ((6 : Int) ≤ (n : Int)) = false := decide_eq_false h6
    go_upto_region 5 with fail
    clear hd6 hn0 c1
    go_loopw [10] (fun s wr => ∃ i : Nat, i ≤ n ∧ s = .int .i64 i ∧ Hid (Below V.heap.size V wr ∧ ∀ j en, j < i → es[j]? = some en → ∀ x ∈ en.body, NoC n x)) (fun s _ => n - (intOf s).toNat)
    case atStart => exact ⟨0, Nat.zero_le _, rfl, Below.refl _ _, fun j en hj => absurd hj (by omega)⟩
    case round =>
      obtain ⟨i, hin, rfl, HI⟩ := hrel
      have c1 : wr.cell? ⟨g9, 1, none⟩ = some (.slice Ac n cc) := (HKV.out.below HI.out.1 HKV.out.lt).cell 1
      by_cases hlt : i < n
      · have hlt2 : (i : Int) < n := by omega
        have hib : (0 : Int) ≤ (i : Int) ∧ (i : Int) < (n : Int) := ⟨by omega, hlt2⟩
        obtain ⟨en, hen⟩ : ∃ en, es[i]? = some en := ⟨_, List.getElem?_eq_getElem (by rw [← HN.out]; exact hlt)⟩
        obtain ⟨aA, oA, hAc, hA1, hA2⟩ := HCV.out.rd.lit (by rw [← HN.out]; omega)
        subst hAc
        have HE2 : Hid (V.cell? ⟨aA, oA + i * 4 + 2, none⟩ = some (.slice en.A en.body.length en.c)) := Lib.hid (by
          have h1 := hA2 _ _ (entsC_get es i en hen 2 _ rfl)
          rw [← Nat.add_assoc] at h1
          exact h1)
        have HA1 := Lib.hid hA1
        have HBO := Lib.hid (HCV.out.all en (List.mem_of_getElem? hen))
        have HEN := Lib.hid hen
        clear hA1 hA2 hen
        go_upto_region 8 with fail
        obtain ⟨nb, hnb⟩ : ∃ z, z = en.body.length := ⟨_, rfl⟩
        have hnl : nb ≤ 200000 := by rw [hnb]; exact HBO.out.len
        have HNB := Lib.hid hnb
        clear hnb c1
        rename World => wq
        go_loopw [11] (fun s wr => ∃ k : Nat, k ≤ nb ∧ s = .int .i64 k ∧ Hid (Below V.heap.size V wr ∧ ∀ j x, j < k → en.body[j]? = some x → NoC n x)) (fun s _ => nb - (intOf s).toNat)
        case atStart => exact ⟨0, Nat.zero_le _, rfl, HI.out.1, fun j x hj => absurd hj (by omega)⟩
        case round =>
          obtain ⟨k, hkn, rfl, HJ⟩ := hrel
          have c1 : wr.cell? ⟨g9, 1, none⟩ = some (.slice (some ⟨aA, oA, none⟩) n cc) := (HKV.out.below HJ.out.1 HKV.out.lt).cell 1
          have e2 : wr.cell? ⟨aA, oA + i * 4 + 2, none⟩ = some (.slice en.A nb en.c) := by rw [HNB.out]; exact (HJ.out.1.cell (p := ⟨aA, _, none⟩) HA1.out).trans HE2.out
          by_cases hkl : k < nb
          · have hkl2 : (k : Int) < nb := by omega
            have hkb : (0 : Int) ≤ (k : Int) ∧ (k : Int) < (nb : Int) := ⟨by omega, hkl2⟩
            obtain ⟨x, hx⟩ : ∃ x, en.body[k]? = some x := ⟨_, List.getElem?_eq_getElem (by rw [← HNB.out]; exact hkl)⟩
            obtain ⟨aB, oB, hAB, hB1, hB2⟩ := HBO.out.rd.lit (by rw [← HNB.out]; omega)
            rw [hAB] at e2
            have ee : ∀ j v, (insC x)[j]? = some v → wr.cell? ⟨aB, oB + k * 3 + j, none⟩ = some v := fun j v hv => by
              have h1 := hB2 _ _ (insCs_get en.body k x hx j v hv)
              rw [← Nat.add_assoc] at h1
              exact (HJ.out.1.cell (p := ⟨aB, oB + k * 3 + j, none⟩) hB1).trans h1
            obtain ⟨f0, f1, f2⟩ : wr.cell? ⟨aB, oB + k * 3, none⟩ = some (.int .i64 x.op) ∧ wr.cell? ⟨aB, oB + k * 3 + 1, none⟩ = some (.int .i64 x.a) ∧ wr.cell? ⟨aB, oB + k * 3 + 2, none⟩ = some (.int .i64 x.b) := ⟨ee 0 _ rfl, ee 1 _ rfl, ee 2 _ rfl⟩
            have HX := Lib.hid hx
            clear ee hx hB1 hB2 hAB
            go_upto_region 11 with fail
            obtain ⟨W1, hW1⟩ : ∃ W, W = wr.alloc (.cells #[.int .i64 x.op, .int .i64 x.a, .int .i64 x.b] 54) := ⟨_, rfl⟩
            obtain ⟨gx, hgx⟩ : ∃ z, z = wr.heap.size := ⟨_, rfl⟩
            have hbw : Below V.heap.size V W1 := by rw [hW1]; exact ba HJ.out.1 _
            have kx : Blk W1 gx 54 #[.int .i64 x.op, .int .i64 x.a, .int .i64 x.b] := by rw [hW1, hgx]; exact Blk.new _ _ _
            have d1 : W1.cell? ⟨g9, 1, none⟩ = some (.slice (some ⟨aA, oA, none⟩) n cc) := (HKV.out.below hbw HKV.out.lt).cell 1
            obtain ⟨x0, x1⟩ : W1.cell? ⟨gx, 0, none⟩ = some (.int .i64 x.op) ∧ W1.cell? ⟨gx, 1, none⟩ = some (.int .i64 x.a) := ⟨kx.cell 0, kx.cell 1⟩
            rw [← hW1, ← hgx]
            have HBW := Lib.hid hbw
            clear hW1 hgx hbw kx f0 f1 f2 e2 c1
            by_cases hop : x.op = 9 ∨ x.op = 16
            · by_cases hxa : x.a = (n : Int)
              · have hq : (x.a == (n : Int)) = true := by rw [hxa]; simp
                rcases hop with hop | hop
                · rw [hop] at x0
                  go_wp2_with (go_at_call 13; refine (HLIV.out _ HBW.out).mono ?_; rintro e w3 ⟨rfl, hb3⟩)
                  go_ret
                  exact ⟨rfl, bt (bt HBV.out HBW.out) hb3⟩
                · rw [hop] at x0
                  go_wp2_with (go_at_call 13; refine (HLIV.out _ HBW.out).mono ?_; rintro e w3 ⟨rfl, hb3⟩)
                  go_ret
                  exact ⟨rfl, bt (bt HBV.out HBW.out) hb3⟩
              · have hq : (x.a == (n : Int)) = false := by rw [beq_eq_false_iff_ne]; exact hxa
                have HNC : Hid (∀ j y, j < k + 1 → en.body[j]? = some y → NoC n y) := Lib.hid fun j y hj hy => by
                  rcases Nat.lt_or_ge j k with h | h
                  · exact HJ.out.2 j y h hy
                  · obtain rfl : j = k := by omega
                    rw [HX.out] at hy
                    obtain rfl := Option.some.inj hy
                    exact fun _ => hxa
                rcases hop with hop | hop
                · rw [hop] at x0
                  go_wp2_with fail
                  go_roundw
                  case rel => exact ⟨k + 1, by omega, by go_num, HBW.out, HNC.out⟩
                  case measure => simp [intOf]; omega
                · rw [hop] at x0
                  go_wp2_with fail
                  go_roundw
                  case rel => exact ⟨k + 1, by omega, by go_num, HBW.out, HNC.out⟩
                  case measure => simp [intOf]; omega
            · have q9 : (x.op == 9) = false := by rw [beq_eq_false_iff_ne]; omega
              have q16 : (x.op == 16) = false := by rw [beq_eq_false_iff_ne]; omega
              have HNC : Hid (∀ j y, j < k + 1 → en.body[j]? = some y → NoC n y) := Lib.hid fun j y hj hy => by
                rcases Nat.lt_or_ge j k with h | h
                · exact HJ.out.2 j y h hy
                · obtain rfl : j = k := by omega
                  rw [HX.out] at hy
                  obtain rfl := Option.some.inj hy
                  exact fun h => absurd h hop
              go_wp2_with fail
              go_roundw
              case rel => exact ⟨k + 1, by omega, by go_num, HBW.out, HNC.out⟩
              case measure => simp [intOf]; omega
          · have hke : k = nb := by omega
            subst hke
            have HNI : Hid (∀ j y, j < i + 1 → es[j]? = some y → ∀ x ∈ y.body, NoC n x) := Lib.hid fun j y hj hy => by
              rcases Nat.lt_or_ge j i with h | h
              · exact HI.out.2 j y h hy
              · obtain rfl : j = i := by omega
                rw [HEN.out] at hy
                obtain rfl := Option.some.inj hy
                intro x hx
                obtain ⟨j2, h2⟩ := List.getElem?_of_mem hx
                exact HJ.out.2 j2 x (by rw [HNB.out]; exact (List.getElem?_eq_some_iff.1 h2).1) h2
            go_wp2_with fail
            go_roundw
            case rel => exact ⟨i + 1, by omega, by go_num, HJ.out.1, HNI.out⟩
            case measure => simp [intOf]; omega
      · have hie : i = n := by omega
        subst hie
        have c0 : wr.cell? ⟨g9, 0, none⟩ = some (.int .i64 ch) := (HKV.out.below HI.out.1 HKV.out.lt).cell 0
        have HCW := Lib.hid (HCV.out.next HI.out.1)
        have HCOP : Hid (Calls Tryd.prog 30 #[.agg #[.int .i64 ch, .slice Ac i cc]] wr (CopyPost ch es wr)) := Lib.hid (by rw [HN.out]; exact copy_is ch es Ac cc wr HCW.out)
        go_upto_region 14 with (go_at_call 30; refine HCOP.out.mono ?_; rintro e w3 ⟨fs, Ad, cd, rfl, hO, hb3, hmap⟩; have HO := Lib.hid hO; have HB3c := Lib.hid hb3; have HMAP := Lib.hid hmap; clear hO hb3 hmap)
        have hfl : fs.length = i := by
          have := congrArg List.length HMAP.out
          rw [List.length_map, List.length_map, ← HN.out] at this
          exact this
        obtain ⟨Vd, hVd⟩ : ∃ W, W = w3.alloc (.cells #[.int .i64 ch, .slice Ad fs.length cd] 25) := ⟨_, rfl⟩
        obtain ⟨gd, hgd⟩ : ∃ z, z = w3.heap.size := ⟨_, rfl⟩
        have hav := arnd_lt (x := i3) (n := 16) (by omega)
        obtain ⟨v16, hv16⟩ : ∃ z, z = arnd i3 16 := ⟨_, rfl⟩
        rw [← hv16] at hav
        have HV16 : Hid (∀ W, Calls Tryd.prog 21 #[.int .i64 i3, .int .i64 16] W fun e w' => e = .returned (.int .i64 v16) ∧ W = w') := Lib.hid fun W => by rw [hv16]; exact around_is i3 16 HB3.out (by omega) W
        have hwv : IntKind.i64.wrap (v16 - 8) = v16 - 8 := by rw [IntKind.wrap_i64]; omega
        obtain ⟨A4, c4, w4, happ, hc4, hf4, hend⟩ := grow_code hi hz0 hz1 hz2 rfl HO.out rfl HB3c.out hVd (v16 - 8) (by unfold inRange; omega) (by omega)
        rw [← hgd] at hc4 hf4 hend
        obtain ⟨Ve, hVe⟩ : ∃ W, W = w4.setCell ⟨gd, 1, none⟩ (.slice A4 (fs.length + 1) c4) := ⟨_, rfl⟩
        obtain ⟨ke, hce, hbe⟩ := hend Ve hVe
        have d1 : Vd.cell? ⟨gd, 1, none⟩ = some (.slice Ad fs.length cd) := by rw [hVd, hgd]; exact (Blk.new w3 25 #[.int .i64 ch, .slice Ad fs.length cd]).cell 1
        have hgl : gd < Vd.heap.size := by rw [hVd, hgd]; simp
        rw [← hVd, ← hgd]
        have HFL := Lib.hid hfl
        have HVE := Lib.hid hVe
        have HKE := Lib.hid ke
        have HCE := Lib.hid hce
        have HBE := Lib.hid (bt HI.out.1 hbe)
        clear hfl hVe ke hce hbe hend hVd hgd hv16 c0 c1 HCOP
        go_cut [14] from 78 to 89 (fun s14 wv => Ve = wv)
        case first =>
          go_region_with (go_at_call 21; refine (HV16.out _).mono ?_; rintro e w9 ⟨rfl, rfl⟩)
          all_goals
            go_wp2_with fail
            go_meet
            exact HVE.out
        case rest =>
        subst hcut
        have hno : ∀ f ∈ es.map Ent.fn, ∀ x ∈ f.body, (x.op = 9 ∨ x.op = 16) → x.a ≠ ((es.map Ent.fn).length : Nat) := fun f hf x hx => by
          obtain ⟨e, he, rfl⟩ := List.mem_map.1 hf
          obtain ⟨j, hj⟩ := List.getElem?_of_mem he
          have h1 := HI.out.2 j e (by rw [HN.out]; exact (List.getElem?_eq_some_iff.1 hj).1) hj x hx
          rw [List.length_map, ← HN.out]
          exact h1
        have hvr : -8 ≤ v16 - 8 ∧ v16 - 8 ≤ 7 := by omega
        have hln : 1 ≤ (es.map Ent.fn).length ∧ (es.map Ent.fn).length < 6 := by rw [List.length_map, ← HN.out]; omega
        obtain ⟨B1, hB1⟩ : ∃ b, b = valB ch (es.map Ent.fn) := ⟨_, rfl⟩
        have hfn : (fs ++ [(⟨0, 0, some ⟨Vd.heap.size, 0, none⟩, 2, [⟨0, v16 - 8, 0⟩, ⟨10, 0, 0⟩]⟩ : Ent)]).map Ent.fn = es.map Ent.fn ++ [push1 (v16 - 8)] := by rw [List.map_append, HMAP.out]; rfl
        have hlen4 : (fs ++ [(⟨0, 0, some ⟨Vd.heap.size, 0, none⟩, 2, [⟨0, v16 - 8, 0⟩, ⟨10, 0, 0⟩]⟩ : Ent)]).length = fs.length + 1 := by simp
        have hbve : Below w.heap.size w Ve := bt HBV.out HBE.out
        have HTE := Lib.hid (HTV.out.below HBE.out HGV.out)
        have HGE : Hid (0 < Ve.heap.size) := Lib.hid (Nat.lt_of_lt_of_le HGV.out HBE.out.size)
        have VC : Hid (∀ W, Below Ve.heap.size Ve W → Calls Tryd.prog 10 #[.agg #[.int .i64 ch, .slice Ac i cc]] W fun e w' => e = .returned (.bool B1) ∧ Below W.heap.size W w') := Lib.hid fun W hb => by
          rw [hB1, HN.out]
          exact valid_is ch es Ac cc W hch ((HCV.out.next HBE.out).next hb) (HTE.out.below hb HGE.out) (Nat.lt_of_lt_of_le HGE.out hb.size)
        have VD : Hid (∀ W, Below Ve.heap.size Ve W → Calls Tryd.prog 10 #[.agg #[.int .i64 ch, .slice A4 (fs.length + 1) c4]] W fun e w' => e = .returned (.bool B1) ∧ Below W.heap.size W w') := Lib.hid fun W hb => by
          have h := valid_is ch _ A4 c4 W hch (HCE.out.next hb) (HTE.out.below hb HGE.out) (Nat.lt_of_lt_of_le HGE.out hb.size)
          rw [hlen4, hfn, val_more ch _ hvr hln hno, ← hB1] at h
          exact h
        have HHC : Hid (∀ (k : Nat), k < i → ∃ hs : List Int, hs.length ≤ 200000 ∧ ∀ W, Below Ve.heap.size Ve W →
            (Calls Tryd.prog 26 #[.agg #[.int .i64 ch, .slice Ac i cc], .int .i64 (k : Int)] W fun e w' => ∃ A c, e = .returned (.slice A hs.length c) ∧ Rd w' (fun b => b < w'.heap.size) 1 A hs.length (vi hs) ∧ Below W.heap.size W w') ∧
            (Calls Tryd.prog 26 #[.agg #[.int .i64 ch, .slice A4 (fs.length + 1) c4], .int .i64 (k : Int)] W fun e w' => ∃ A c, e = .returned (.slice A hs.length c) ∧ Rd w' (fun b => b < w'.heap.size) 1 A hs.length (vi hs) ∧ Below W.heap.size W w')) := Lib.hid fun k hk => by
          have ha := at_more ch (es.map Ent.fn) (v16 - 8) hln hno (i := k) (by rw [List.length_map, ← HN.out]; exact hk)
          have h1 : ∀ W, Below Ve.heap.size Ve W → Calls Tryd.prog 26 #[.agg #[.int .i64 ch, .slice Ac i cc], .int .i64 (k : Int)] W (HtsPost (hAt ch (es.map Ent.fn) k) W) := fun W hb => by
            have h := heightsAt_is ch es Ac cc k W hch ((HCV.out.next HBE.out).next hb) (HTE.out.below hb HGE.out) (Nat.lt_of_lt_of_le HGE.out hb.size)
            rw [← HN.out] at h
            exact h
          have h2 : ∀ W, Below Ve.heap.size Ve W → Calls Tryd.prog 26 #[.agg #[.int .i64 ch, .slice A4 (fs.length + 1) c4], .int .i64 (k : Int)] W (HtsPost (hAt ch (es.map Ent.fn) k) W) := fun W hb => by
            have h := heightsAt_is ch _ A4 c4 k W hch (HCE.out.next hb) (HTE.out.below hb HGE.out) (Nat.lt_of_lt_of_le HGE.out hb.size)
            rw [hlen4, hfn, ha] at h
            exact h
          have hlen := hAt_len (ch := ch) (es := es) (k := k) fun e he => (HCV.out.all e he).len
          exact ⟨(hAt ch (es.map Ent.fn) k).getD [], hlen, fun W hb => ⟨(h1 W hb).mono fun e w' h => h.rd, (h2 W hb).mono fun e w' h => h.rd⟩⟩
        have hvv : (B1 != B1) = false := by simp
        have HK : Hid (∀ W, Below Ve.heap.size Ve W → (W.cell? ⟨g9, 0, none⟩ = some (.int .i64 ch) ∧ W.cell? ⟨g9, 1, none⟩ = some (.slice Ac i cc)) ∧ (W.cell? ⟨gd, 0, none⟩ = some (.int .i64 ch) ∧ W.cell? ⟨gd, 1, none⟩ = some (.slice A4 (fs.length + 1) c4))) := Lib.hid fun W hb =>
          ⟨⟨((HKV.out.below HBE.out HKV.out.lt).below hb (HKV.out.below HBE.out HKV.out.lt).lt).cell 0, ((HKV.out.below HBE.out HKV.out.lt).below hb (HKV.out.below HBE.out HKV.out.lt).lt).cell 1⟩, (HKE.out.below hb HKE.out.lt).cell 0, (HKE.out.below hb HKE.out.lt).cell 1⟩
        have HLIE : Hid (∀ W, Below Ve.heap.size Ve W → Calls Tryd.prog 13 #[] W fun e w' => e = .returned (.bool true) ∧ Below W.heap.size W w') := Lib.hid fun W hb => HLIV.out W (bt HBE.out hb)
        have HBVE := Lib.hid hbve
        have HBW : Hid (Below Ve.heap.size Ve Ve.drew) := Lib.hid (Below.refl _ _).drew
        obtain ⟨⟨a0, a1⟩, d0, d1⟩ := HK.out _ (Below.refl _ Ve)
        clear hno hln hB1 hfn hlen4 hbve HTE HGE HCE HKE HMAP happ hc4 hf4 hav hvr hwv HV16 HI HCW HO HB3c HVE HCV HTV HGV HLIV
        go_upto_region 15 with fail
        go_cut [94] from 90 to 94 (fun s94 wv => ∃ V5 : World, V5 = wv ∧ s94 = .bool false ∧ Hid (Below Ve.heap.size Ve V5))
        case first =>
          go_region_with (first
            | (go_at_call 10; first | with_reducible refine (VC.out _ HBW.out).mono ?_ | with_reducible refine (VD.out _ HBW.out).mono ?_
               rintro e wn ⟨rfl, hbn⟩
               replace HBW := Lib.hid (bt HBW.out hbn)
               clear a0 a1 d0 d1 hbn
               obtain ⟨⟨a0, a1⟩, d0, d1⟩ := HK.out _ HBW.out))
          all_goals
            go_wp2_with fail
            go_meet
            exact ⟨_, rfl, rfl, HBW.out⟩
        case rest =>
        obtain ⟨V5, hwc, rfl, hb5⟩ := hcut
        subst hwc
        have HB5 := Lib.hid hb5.out
        clear hb5 a0 a1 d0 d1
        go_wp2_with fail
        rename World => wq
        go_loopw [14] (fun s wr => ∃ k : Nat, k ≤ i ∧ s = .int .i64 k ∧ Hid (Below Ve.heap.size Ve wr)) (fun s _ => i - (intOf s).toNat)
        case atStart => exact ⟨0, Nat.zero_le _, rfl, HB5.out⟩
        case round =>
          obtain ⟨k, hki, rfl, HJ⟩ := hrel
          obtain ⟨⟨a0, a1⟩, d0, d1⟩ := HK.out _ HJ.out
          by_cases hlk : k < i
          · have hlk2 : (k : Int) < i := by omega
            obtain ⟨hs, hhl, hcc⟩ := HHC.out k hlk
            obtain ⟨nh, hnh⟩ : ∃ z, z = hs.length := ⟨_, rfl⟩
            rw [← hnh] at hcc hhl
            have HH := Lib.hid hcc
            have HSI : Hid (∀ (W : World) (A1 A2 : Option Addr) (c1 c2 : Nat), Rd W (fun b => b < W.heap.size) 1 A1 nh (vi hs) → Rd W (fun b => b < W.heap.size) 1 A2 nh (vi hs) → Calls Tryd.prog 31 #[.slice A1 nh c1, .slice A2 nh c2] W fun e w' => e = .returned (.bool true) ∧ Below W.heap.size W w') := Lib.hid fun W A1 A2 c1 c2 r1 r2 => by
              rw [hnh] at r1 r2 hhl ⊢
              exact sameInts_is hs hs _ A1 A2 c1 c2 W r1 r2 (fun b hb => hb) (by omega) (by omega) true (by simp)
            clear hcc hnh
            go_upto_region 20 with fail
            have HBW := Lib.hid HJ.out.drew
            go_cut [109] from 102 to 109 (fun s109 wv => ∃ V5 : World, V5 = wv ∧ s109 = .bool false ∧ Hid (Below Ve.heap.size Ve V5))
            case first =>
              go_region_with (first
                | (go_at_call 26; first
                     | (with_reducible refine (HH.out _ HBW.out).1.mono ?_; rintro e wn ⟨Ah1, ch1, rfl, hrd1, hbn⟩; have HR1 := Lib.hid hrd1; (try replace HR2 := Lib.hid (rd_next HR2.out hbn)); clear hrd1)
                     | (with_reducible refine (HH.out _ HBW.out).2.mono ?_; rintro e wn ⟨Ah2, ch2, rfl, hrd2, hbn⟩; have HR2 := Lib.hid hrd2; (try replace HR1 := Lib.hid (rd_next HR1.out hbn)); clear hrd2)
                   replace HBW := Lib.hid (bt HBW.out hbn)
                   clear a0 a1 d0 d1 hbn
                   obtain ⟨⟨a0, a1⟩, d0, d1⟩ := HK.out _ HBW.out)
                | (go_at_call 31; refine (HSI.out _ _ _ _ _ HR1.out HR2.out).mono ?_
                   rintro e wn ⟨rfl, hbn⟩
                   replace HBW := Lib.hid (bt HBW.out hbn)
                   clear a0 a1 d0 d1 hbn
                   obtain ⟨⟨a0, a1⟩, d0, d1⟩ := HK.out _ HBW.out))
              all_goals
                go_wp2_with fail
                go_meet
                exact ⟨_, rfl, rfl, HBW.out⟩
            case rest =>
            obtain ⟨V6, hwc, rfl, hb6⟩ := hcut
            subst hwc
            have HB6 := Lib.hid hb6.out
            clear hb6 a0 a1 d0 d1
            go_wp2_with fail
            go_roundw
            case rel => exact ⟨k + 1, by omega, by go_num, HB6.out⟩
            case measure => simp [intOf]; omega
          · have hke : k = i := by omega
            subst hke
            go_wp2_with (go_at_call 13; refine (HLIE.out _ HJ.out).mono ?_; rintro e w5 ⟨rfl, hb5⟩)
            go_ret
            exact ⟨rfl, bt (bt HBVE.out HJ.out) hb5⟩
end Go.Proofs.YtdhmaopodcccmaaDoor
