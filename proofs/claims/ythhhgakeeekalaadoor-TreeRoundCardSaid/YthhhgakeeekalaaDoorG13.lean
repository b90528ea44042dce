/-
  The reference's Compare.
-/
import Derived.Test.YthhhgakeeekalaaDoorG04
set_option linter.unusedVariables false
namespace Go.Proofs.YthhhgakeeekalaaDoor
open Go.RowKit WM TR

/-- The three numbers of a node. -/
def nums (t : T) : List Int := [t.k, t.n, t.m]
theorem cmp_at {t u : T} {k : Nat} {x y : Int} (hx : (nums t)[k]? = some x) (hy : (nums u)[k]? = some y) (he : ∀ i < k, (nums t)[i]? = (nums u)[i]?) (hne : x ≠ y) : cmp t u = sg x y := by
  match k, hx, hy with
  | 0, hx, hy =>
    simp only [nums, List.getElem?_cons_zero, Option.some.injEq] at hx hy
    subst hx hy; exact cmp_k hne
  | 1, hx, hy =>
    have h0 := he 0 (by omega)
    simp only [nums, List.getElem?_cons_zero, List.getElem?_cons_succ, Option.some.injEq] at hx hy h0
    subst hx hy; exact cmp_n h0 hne
  | 2, hx, hy =>
    have h0 := he 0 (by omega)
    have h1 := he 1 (by omega)
    simp only [nums, List.getElem?_cons_zero, List.getElem?_cons_succ, Option.some.injEq] at hx hy h0 h1
    subst hx hy; exact cmp_m h0 h1 hne
  | k + 3, hx, _ => simp [nums] at hx
theorem cmp_past {t u : T} (he : ∀ i < 3, (nums t)[i]? = (nums u)[i]?) : cmpFrom t u 0 = cmp t u := by
  have h0 := he 0 (by omega)
  have h1 := he 1 (by omega)
  have h2 := he 2 (by omega)
  simp only [nums, List.getElem?_cons_zero, List.getElem?_cons_succ, Option.some.injEq] at h0 h1 h2
  exact cmpFrom_zero t u h0 h1 h2

set_option maxRecDepth 100000 in
set_option maxHeartbeats 2000000 in
theorem rcmp_is : ∀ (d : Nat) (t u : T) (S : Nat → Prop) (A A' : Option Addr) (c c' : Nat) (w : World), Rep w S d t (nd t A c) → Rep w S d u (nd u A' c') → In S w.heap.size → size t ≤ 1000000 → size u ≤ 1000000 →
    Calls Tryd.prog 18 #[.agg #[.int .i64 t.k, .int .i64 t.n, .int .i64 t.m, .slice A t.kids.length c], .agg #[.int .i64 u.k, .int .i64 u.n, .int .i64 u.m, .slice A' u.kids.length c']] w fun e w' => e = .returned (.int .i64 (cmp t u)) ∧ Below w.heap.size w w' := by
  intro d
  induction d with
  | zero => intro t u S A A' c c' w h; exact h.elim
  | succ d ih =>
    intro t u S A A' c c' w ht hu hin hst hsu
    have hlt : t.kids.length ≤ 1000000 := by have := kids_lt t; omega
    have hlu : u.kids.length ≤ 1000000 := by have := kids_lt u; omega
    have HST := Lib.hid hst
    have HSU := Lib.hid hsu
    clear hst hsu
    go_enter Tryd.func18, Tryd.ntmps18
    go_wp2_with fail
    obtain ⟨W1, hW1⟩ : ∃ W1, W1 = (((w.alloc (.cells #[.int .i64 t.k, .int .i64 t.n, .int .i64 t.m, .slice A t.kids.length c] 25)).alloc (.cells #[.int .i64 u.k, .int .i64 u.n, .int .i64 u.m, .slice A' u.kids.length c'] 25)).alloc
        (.cells #[.int .i64 t.k, .int .i64 t.n, .int .i64 t.m] 3)).alloc (.cells #[.int .i64 u.k, .int .i64 u.n, .int .i64 u.m] 3) := ⟨_, rfl⟩
    rw [← hW1]
    have hb1 : Below w.heap.size w W1 := by rw [hW1]; exact ba (ba (ba (below_new _ _) _) _) _
    have hz1 : W1.heap.size = w.heap.size + 4 := by rw [hW1]; simp
    have hca : W1.cell? ⟨w.heap.size, 3, none⟩ = some (.slice A t.kids.length c) := by
      rw [hW1]; exact ((((Blk.new w _ _).alloc _).alloc _).alloc _).cell 3
    have hcb : W1.cell? ⟨w.heap.size + 1, 3, none⟩ = some (.slice A' u.kids.length c') := by
      rw [hW1]; exact (((Blk.new_at _ _ (by simp) rfl).alloc _).alloc _).cell 3
    have hcx : ∀ (k : Nat) (x : Int), (nums t)[k]? = some x → W1.cell? ⟨w.heap.size + 1 + 1, k, none⟩ = some (.int .i64 x) := by
      intro k x hx
      rw [hW1]
      refine (((Blk.new_at _ 3 (cs := #[.int .i64 t.k, .int .i64 t.n, .int .i64 t.m]) (by simp) rfl).alloc _).cell k).trans ?_
      have := vi_get hx
      simpa [vi, nums] using this
    have hcy : ∀ (k : Nat) (x : Int), (nums u)[k]? = some x → W1.cell? ⟨w.heap.size + 1 + 1 + 1, k, none⟩ = some (.int .i64 x) := by
      intro k x hx
      rw [hW1]
      refine ((Blk.new_at _ 3 (cs := #[.int .i64 u.k, .int .i64 u.n, .int .i64 u.m]) (by simp) rfl).cell k).trans ?_
      have := vi_get hx
      simpa [vi, nums] using this
    have HT := Lib.hid (ht.later hin hb1)
    have HU := Lib.hid (hu.later hin hb1)
    have HI := Lib.hid (hin.more hb1.size)
    have HB1 := Lib.hid hb1
    have HZ1 := Lib.hid hz1
    have HCA := Lib.hid hca
    have HCB := Lib.hid hcb
    have HCX := Lib.hid hcx
    have HCY := Lib.hid hcy
    obtain ⟨la, hla⟩ : ∃ l, l = t.kids.length := ⟨_, rfl⟩
    obtain ⟨lb, hlb⟩ : ∃ l, l = u.kids.length := ⟨_, rfl⟩
    have hlac := ht.cap
    have hlbc := hu.cap
    rw [← hla] at hlt hlac HCA ⊢
    rw [← hlb] at hlu hlbc HCB ⊢
    have HLA := Lib.hid hla
    have HLB := Lib.hid hlb
    clear hW1 hb1 hz1 hca hcb hcx hcy ht hu hla hlb hin
    go_loopw [7] (fun i wr => ∃ k : Nat, k ≤ 3 ∧ i = .int .i64 k ∧ Hid (∀ i < k, (nums t)[i]? = (nums u)[i]?) ∧ Hid (Below W1.heap.size W1 wr)) (fun i _ => 3 - (intOf i).toNat)
    case atStart => exact ⟨0, by omega, rfl, fun i hi => by omega, Below.refl _ _⟩
    case round =>
      obtain ⟨k, hk, rfl, HE, HB⟩ := hrel
      by_cases hlt3 : k < 3
      · obtain ⟨x, hx⟩ : ∃ x, (nums t)[k]? = some x := ⟨_, List.getElem?_eq_getElem (by simpa [nums] using hlt3)⟩
        obtain ⟨y, hy⟩ : ∃ y, (nums u)[k]? = some y := ⟨_, List.getElem?_eq_getElem (by simpa [nums] using hlt3)⟩
        have hcx := (HB.out.cell (p := ⟨w.heap.size + 1 + 1, k, none⟩) (by rw [HZ1.out]; show w.heap.size + 1 + 1 < _; omega)).trans (HCX.out k x hx)
        have hcy := (HB.out.cell (p := ⟨w.heap.size + 1 + 1 + 1, k, none⟩) (by rw [HZ1.out]; show w.heap.size + 1 + 1 + 1 < _; omega)).trans (HCY.out k y hy)
        by_cases hxy : x = y
        · have HE2 : Hid (∀ i < k + 1, (nums t)[i]? = (nums u)[i]?) := Lib.hid (fun i hi => by
            by_cases h : i < k
            · exact HE.out i h
            · obtain rfl : i = k := by omega
              rw [hx, hy, hxy])
          have hnn : (x != y) = false := by rw [hxy]; simp
          have hj1 : (0 : Int) ≤ k ∧ (k : Int) < 3 := ⟨by omega, by omega⟩
          clear hx hy hxy
          go_wp2_with fail
          go_quiet (fail)
          go_wp2_with fail
          go_roundw
          case rel => exact ⟨k + 1, by omega, by go_num, HE2, below_drewN HB.out _⟩
          case measure => simp [intOf]; omega
        · have hnn : (x != y) = true := by simpa using hxy
          have hj1 : (0 : Int) ≤ k ∧ (k : Int) < 3 := ⟨by omega, by omega⟩
          have HR := Lib.hid (cmp_at hx hy HE.out hxy)
          clear hx hy hxy
          go_wp2_with fail
          go_quiet (fail)
          go_wp2_with fail
          go_quiet ((go_at_call 49; exact quiet_add_left (sign_is _ _ _)))
          go_wp2_with fail
          go_ret
          exact ⟨ret_i HR.out.symm, bt HB1.out (below_drewN (below_drewN HB.out _) _)⟩
      · have HE0 : Hid (cmpFrom t u 0 = cmp t u) := Lib.hid (cmp_past fun i hi => HE.out i (by omega))
        have hk3 : 3 ≤ k := by omega
        obtain ⟨W2, rfl⟩ : ∃ W : World, W = wr := ⟨_, rfl⟩
        have HB2 := HB
        clear HE HB hlt3
        go_wp2_with fail
        go_loopw [8] (fun i wr => ∃ j : Nat, j ≤ la ∧ j ≤ lb ∧ i = .int .i64 j ∧ Hid (cmpFrom t u j = cmp t u) ∧ Hid (Below W1.heap.size W1 wr)) (fun i _ => la - (intOf i).toNat)
        case atStart => exact ⟨0, by omega, by omega, rfl, HE0.out, HB2.out⟩
        case round =>
          obtain ⟨j, hja, hjb, rfl, HF, HB⟩ := hrel
          have hca := (HB.out.cell (p := ⟨w.heap.size, 3, none⟩) (by rw [HZ1.out]; show w.heap.size < _; omega)).trans HCA.out
          have hcb := (HB.out.cell (p := ⟨w.heap.size + 1, 3, none⟩) (by rw [HZ1.out]; show w.heap.size + 1 < _; omega)).trans HCB.out
          by_cases hlt : j < la ∧ j < lb
          · obtain ⟨hj1, hj2⟩ := hlt
            obtain ⟨v, hv⟩ : ∃ v, t.kids[j]? = some v := ⟨_, List.getElem?_eq_getElem (by rw [← HLA.out]; exact hj1)⟩
            obtain ⟨v', hv'⟩ : ∃ v, u.kids[j]? = some v := ⟨_, List.getElem?_eq_getElem (by rw [← HLB.out]; exact hj2)⟩
            have HNX := Lib.hid (cmpFrom_next hv hv')
            obtain ⟨b1, o1, A1, c1, hA1, hb1, hcl1, hr1⟩ := (HT.out.later HI.out HB.out).kid hv
            obtain ⟨b2, o2, A2, c2, hA2, hb2, hcl2, hr2⟩ := (HU.out.later HI.out HB.out).kid hv'
            have HS1 : Hid (size v ≤ 1000000) := Lib.hid (by have := size_kid hv; have := HST.out; omega)
            have HS2 : Hid (size v' ≤ 1000000) := Lib.hid (by have := size_kid hv'; have := HSU.out; omega)
            subst hA1 hA2
            have hin1 : In S wr.heap.size := HI.out.more HB.out.size
            have HL1 : Hid (∀ W, Below wr.heap.size wr W → (Instr.loadAt 23 (.pointer (some ⟨w.heap.size, 3, none⟩))).run Tryd.prog W = .ok (.slice (some ⟨b1, o1, none⟩) la c) W) := Lib.hid (fun W hW => by
              have := (hW.cell (p := ⟨w.heap.size, 3, none⟩) (by have := HB.out.size; rw [HZ1.out] at this; show w.heap.size < _; omega)).trans hca
              go_simp)
            have HL2 : Hid (∀ W, Below wr.heap.size wr W → (Instr.loadAt 23 (.pointer (some ⟨w.heap.size + 1, 3, none⟩))).run Tryd.prog W = .ok (.slice (some ⟨b2, o2, none⟩) lb c') W) := Lib.hid (fun W hW => by
              have := (hW.cell (p := ⟨w.heap.size + 1, 3, none⟩) (by have := HB.out.size; rw [HZ1.out] at this; show w.heap.size + 1 < _; omega)).trans hcb
              go_simp)
            have HN1 : Hid (∀ W, Below wr.heap.size wr W → (Instr.loadAt 25 (.pointer (some ⟨b1, o1 + j * 4, none⟩))).run Tryd.prog W = .ok (.agg #[.int .i64 v.k, .int .i64 v.n, .int .i64 v.m, .slice A1 v.kids.length c1]) W) := Lib.hid (fun W hW =>
              run_loadAt_mid W b1 (o1 + j * 4) 25 (nd v A1 c1) _ (fun i x hx => (hW.cell (p := ⟨b1, _, none⟩) (hin1 _ hb1)).trans (hcl1 i x hx)) Tryd.underlying25 rfl (by rw [size_node]; rfl))
            have HN2 : Hid (∀ W, Below wr.heap.size wr W → (Instr.loadAt 25 (.pointer (some ⟨b2, o2 + j * 4, none⟩))).run Tryd.prog W = .ok (.agg #[.int .i64 v'.k, .int .i64 v'.n, .int .i64 v'.m, .slice A2 v'.kids.length c2]) W) := Lib.hid (fun W hW =>
              run_loadAt_mid W b2 (o2 + j * 4) 25 (nd v' A2 c2) _ (fun i x hx => (hW.cell (p := ⟨b2, _, none⟩) (hin1 _ hb2)).trans (hcl2 i x hx)) Tryd.underlying25 rfl (by rw [size_node]; rfl))
            have HIR : Hid (In S wr.heap.size) := Lib.hid (HI.out.more HB.out.size)
            have HR1 := Lib.hid hr1
            have HR2 := Lib.hid hr2
            have hi1 : (0 : Int) ≤ j ∧ (j : Int) < la := ⟨by omega, by omega⟩
            have hi2 : (0 : Int) ≤ j ∧ (j : Int) < lb := ⟨by omega, by omega⟩
            clear hv hv' hcl1 hcl2 hr1 hr2 hb1 hb2 hin1
            go_wp2_with fail
            refine wp_region_below wr (Below.refl _ _) (by kernel_rfl) (by kernel_rfl) ?_
            go_big_quiet_step ((intro _; rfl))
            refine wpQuiet_load' rfl 23 (.tmp 60) rfl _ rfl (.slice (some ⟨b1, o1, none⟩) la c) HL1.out ?_
            go_simp
            iterate 2 go_big_quiet_step ((intro _; rfl))
            refine wpQuiet_load' rfl 25 (.tmp 63) rfl _ rfl (.agg #[.int .i64 v.k, .int .i64 v.n, .int .i64 v.m, .slice A1 v.kids.length c1]) HN1.out ?_
            go_simp
            go_big_quiet_step ((intro _; rfl))
            refine wpQuiet_load' rfl 23 (.tmp 65) rfl _ rfl (.slice (some ⟨b2, o2, none⟩) lb c') HL2.out ?_
            go_simp
            iterate 2 go_big_quiet_step ((intro _; rfl))
            refine wpQuiet_load' rfl 25 (.tmp 68) rfl _ rfl (.agg #[.int .i64 v'.k, .int .i64 v'.n, .int .i64 v'.m, .slice A2 v'.kids.length c2]) HN2.out ?_
            go_simp
            go_big_quiet_step ((intro hw'; exact (ih v v' S A1 A2 c1 c2 _ (HR1.out.later HIR.out hw') (HR2.out.later HIR.out hw') (HIR.out.more hw'.size) HS1.out HS2.out).mono fun e w'' ⟨he, hb⟩ => ⟨he, bt hw' hb⟩))
            go_big_quiet_step ((intro _; rfl))
            refine wpQuiet_nil ?_
            intro w6 hb6
            have HB6 := Lib.hid (bt HB.out hb6)
            clear hb6
            by_cases hz : cmp v v' = 0
            · have HF2 : Hid (cmpFrom t u (j + 1) = cmp t u) := Lib.hid (by have := HNX.out; rw [if_pos hz] at this; rw [← this]; exact HF.out)
              have hnn : (cmp v v' != 0) = false := by rw [hz]; rfl
              clear hz
              go_wp2_with fail
              go_roundw
              case rel => exact ⟨j + 1, by omega, by omega, by go_num, HF2.out, HB6.out⟩
              case measure => simp [intOf]; omega
            · have HF2 : Hid (cmp v v' = cmp t u) := Lib.hid (by have := HNX.out; rw [if_neg hz] at this; rw [← this]; exact HF.out)
              have hnn : (cmp v v' != 0) = true := by simpa using hz
              clear hz
              go_wp2_with fail
              go_ret
              exact ⟨ret_i HF2.out, bt HB1.out HB6.out⟩
          · have HG : Hid (cmp t u = sg (la : Int) (lb : Int)) := Lib.hid (by
              rw [← HF.out, HLA.out, HLB.out]
              exact cmpFrom_end (by rw [← HLA.out, ← HLB.out]; omega))
            by_cases hja2 : j < la
            · have hjb2 : ¬ j < lb := fun h => hlt ⟨hja2, h⟩
              clear hlt
              go_wp2_with (go_at_call 49; refine (sign_is _ _ _).mono ?_; rintro e w' ⟨rfl, rfl⟩)
              go_ret
              exact ⟨ret_i HG.out.symm, bt HB1.out HB.out⟩
            · clear hlt
              go_wp2_with (go_at_call 49; refine (sign_is _ _ _).mono ?_; rintro e w' ⟨rfl, rfl⟩)
              go_ret
              exact ⟨ret_i HG.out.symm, bt HB1.out HB.out⟩
end Go.Proofs.YthhhgakeeekalaaDoor
