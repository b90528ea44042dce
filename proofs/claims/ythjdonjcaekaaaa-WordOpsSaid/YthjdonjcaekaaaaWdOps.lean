/-
  The walk of WordOps.
-/
import Derived.Test.YthjdonjcaekaaaaWdBits
import Derived.Test.YthjdonjcaekaaaaWdRop
import Derived.LoopTactic
import Derived.Laws.Entries
namespace Go.Proofs.Ythjdonjcaekaaaa
open Go.RowKit WD

/-- The operations that the statement tries. -/
def tries (op : Int) (k : Nat) : List Int := [op, -1, 14] ++ (List.range k).map fun i : Nat => (i : Int)
theorem tries_next (op : Int) (k : Nat) : tries op (k + 1) = tries op k ++ [(k : Int)] := by
  unfold tries; rw [List.range_succ, List.map_append, ← List.append_assoc]; rfl
theorem tries_length (op : Int) (k : Nat) : (tries op k).length = 3 + k := by simp [tries]; omega

theorem opC_cases (op b : Int) : opC op b = 0 ∨ (opC op b = 2 ∧ ∀ a, opR op a b = 0) := by
  unfold opC exc
  split
  · rename_i h
    right
    refine ⟨rfl, fun a => ?_⟩
    unfold opR
    rcases h.1 with h1 | h1 <;> (subst h1; rw [h.2]; rfl)
  · exact .inl rfl
theorem res_facts (op x y : Int) (hx : isWord x) (hy : isWord y) : isWord (res op x y) ∧ (tru op = true → 0 ≤ res op x y ∧ res op x y ≤ 1) := by
  by_cases h : 0 ≤ op ∧ op < 14
  · obtain ⟨k, rfl⟩ := Int.eq_ofNat_of_zero_le h.1
    have hk : k < 14 := by omega
    have hh := by_words2 (p := fun a b => decide (∀ k : Nat, k < 14 → ((-8 ≤ res k a b ∧ res k a b ≤ 7) ∧ (tru k = true → 0 ≤ res k a b ∧ res k a b ≤ 1)))) (by decide +kernel) hx hy
    exact of_decide_eq_true hh k hk
  · have hr : res op x y = 0 := by
      unfold res
      repeat rw [if_neg (by omega)]
    rw [hr]
    exact ⟨by unfold isWord; omega, fun _ => by omega⟩
theorem opR_facts (op a b : Int) : isWord (opR op a b) ∧ (tru op = true → 0 ≤ opR op a b ∧ opR op a b ≤ 1) := res_facts op _ _ (wrp_word a) (wrp_word b)

theorem Try.info3 : (Try.prog.info? 3).map (fun i => (i.zero, i.size, i.bytes)) = some (some (.int .i64 0), 1, 8) := by kernel_rfl

set_option maxRecDepth 100000 in
set_option maxHeartbeats 4000000 in
theorem walkOps (op a b : Int) (w : World) :
    Calls Try.prog 4 #[.int .i64 op, .int .i64 a, .int .i64 b] w fun e w' => e = .returned (.bool true) ∧ Below w.heap.size w w' := by
  obtain ⟨i0, hi, hz0, hz1, hz2⟩ := info_parts Try.info3
  go_enter Try.func4, Try.ntmps4
  go_wp2_with fail
  go_loopw [7, 8] (fun v i wr => ∃ k : Nat, k ≤ 14 ∧ i = .int .i64 k ∧ Hid (wr.ownsRow w.heap.size 3 1 v (3 + k) (vi (tries op k))) ∧ Hid (Below w.heap.size w wr)) (fun _ i _ => 14 - (intOf i).toNat)
  case atStart => exact ⟨0, by omega, rfl, own_lit (xs := vi (tries op 0)) (Nat.le_refl _) rfl (len_le (by omega)), below_new _ _⟩
  case round =>
    obtain ⟨k, hk, rfl, HO, HB⟩ := hrel
    have hsz := HB.out.size
    by_cases hlt : k < 14
    · go_wp2_with (at_builtin; refine wpList_append_own _ rfl (.tmp 22) (.tmp 24) 26 rfl w.heap.size 3 i0 (.int .i64 0) 1 8 Try.underlying26 hi hz0 hz1 hz2 rfl (by decide) _ _ _ rfl (HO.out.alloc _) ⟨wr.heap.size, 0, none⟩ 1 1 [.int .i64 (k : Int)] rfl rfl (one_new _ _ _) (int_one _ _) (len_le (by omega)) (by omega) (by simp; omega) ?_; intro v1 w1 hown1 hgrow1 _; have HO1 := Lib.hid hown1; have HB1 := Lib.hid ((HB.out.alloc hsz _).grown hgrow1 (by simp; omega) (fun k hk => (HO.out.lt k hk).1)); clear hown1 hgrow1)
      go_roundw
      case rel => exact ⟨k + 1, by omega, by go_num, by rw [tries_next, vi_append]; exact HO1.out, HB1.out⟩
      case measure => simp [intOf]; omega
    · obtain ⟨w2, rfl⟩ : ∃ W : World, W = wr := ⟨_, rfl⟩
      obtain ⟨g, c, hv, _, hg⟩ := HO.out.form (by omega)
      subst hv
      obtain ⟨L, hL⟩ : ∃ L, L = tries op k := ⟨_, rfl⟩
      obtain ⟨n, hn⟩ : ∃ n, n = 3 + k := ⟨_, rfl⟩
      have hn1 : n ≤ 17 := by omega
      have HL : Hid (L.length = n) := Lib.hid (by rw [hL, hn]; exact tries_length op k)
      have hk14 : 14 ≤ k := by omega
      rw [← hn] at HO ⊢
      have HC : Hid (∀ (j : Nat) (x : Int), L[j]? = some x → ∀ W, Below w2.heap.size w2 W → W.cell? ⟨g, j, none⟩ = some (.int .i64 x)) := Lib.hid (by
        intro j x hx W hW
        have h := HO.out.cells (g := g) rfl j (.int .i64 x) (vi_get (by rw [← hL]; exact hx))
        rw [Addr.add_lit, Nat.zero_add] at h
        exact (hW.cell (p := ⟨g, j, none⟩) hg).trans h)
      have HB2 := Lib.hid HB.out
      clear HO HB hL hsz hlt hg hn
      go_wp2_with fail
      go_loopw [9] (fun i wr => ∃ j : Nat, j ≤ n ∧ i = .int .i64 j ∧ Hid (Below w2.heap.size w2 wr)) (fun i _ => n - (intOf i).toNat)
      case atStart => exact ⟨0, by omega, rfl, Below.refl _ _⟩
      case round =>
        obtain ⟨j, hj, rfl, HB⟩ := hrel
        by_cases hlt : j < n
        · obtain ⟨x, hx⟩ : ∃ x, L[j]? = some x := ⟨_, List.getElem?_eq_getElem (by rw [HL.out]; exact hlt)⟩
          have HCX : Hid (∀ W, Below w2.heap.size w2 W → W.cell? ⟨g, j, none⟩ = some (.int .i64 x)) := Lib.hid (HC.out j x hx)
          have HLD : Hid (∀ W, Below w2.heap.size w2 W → (Instr.loadAt 3 (.pointer (some ⟨g, j, none⟩))).run Try.prog W = .ok (.int .i64 x) W) := Lib.hid (fun W hW => by
            have := HCX.out W hW
            go_simp)
          have hc0 := HCX.out wr HB.out
          have hf := opR_facts x a b
          have hag : opR x (wrp a) (wrp b) = opR x a b := (opR_words x a b).symm
          have hww : wrp (opR x a b) = opR x a b := wrp_of hf.1
          have h01 := hf.2
          clear hx hf
          rcases opC_cases x b with hcode | ⟨hcode, hz⟩
          · by_cases htr : tru x = true
            · obtain ⟨hr1, hr2⟩ := h01 htr
              have hd1 : decide (opR x a b < 0) = false := by simp; omega
              have hd2 : decide (1 < opR x a b) = false := by simp; omega
              clear h01
              go_wp2_with (first
                | (go_at_call 16; refine (op_is _ _ _ _).mono ?_; rintro e w' ⟨rfl, hb⟩; replace HB := Lib.hid (bt HB.out hb); have hc1 := HCX.out _ HB.out; rw [hcode])
                | (go_at_call 17; refine (rop_is _ _ _ _).mono ?_; rintro e w' ⟨rfl, rfl⟩; rw [hcode])
                | (go_at_call 9; refine (wrap_is _ _).mono ?_; rintro e w' ⟨rfl, rfl⟩)
                | (go_at_call 13; refine (truth_is _ _).mono ?_; rintro e w' ⟨rfl, hb⟩; replace HB := Lib.hid (bt HB.out hb); rw [htr]))
              refine wp_region_below w2 HB.out (by kernel_rfl) (by kernel_rfl) ?_
              iterate 3 go_big_quiet_step ((intro _; rfl))
              refine wpQuiet_load' rfl 3 (.tmp 92) rfl _ rfl (.int .i64 x) HLD.out ?_
              go_simp
              go_big_quiet_step ((intro _; rfl))
              go_big_quiet_step ((intro hw'; exact (wrap_is _ _).mono fun e w'' ⟨he, hw⟩ => ⟨he, hw ▸ hw'⟩))
              go_big_quiet_step ((intro _; rfl))
              go_big_quiet_step ((intro hw'; exact (wrap_is _ _).mono fun e w'' ⟨he, hw⟩ => ⟨he, hw ▸ hw'⟩))
              go_big_quiet_step ((intro hw'; exact (op_is _ _ _ _).mono fun e w'' ⟨he, hb⟩ => ⟨he, bt hw' hb⟩))
              iterate 5 go_big_quiet_step ((intro _; rfl))
              refine wpQuiet_nil ?_
              intro w6 hb6
              have HB6 := Lib.hid hb6
              clear hb6
              go_wp2_with fail
              go_roundw
              case rel => exact ⟨j + 1, by omega, by go_num, HB6⟩
              case measure => simp [intOf]; omega
            · have htr : tru x = false := by simpa using htr
              clear h01
              go_wp2_with (first
                | (go_at_call 16; refine (op_is _ _ _ _).mono ?_; rintro e w' ⟨rfl, hb⟩; replace HB := Lib.hid (bt HB.out hb); have hc1 := HCX.out _ HB.out; rw [hcode])
                | (go_at_call 17; refine (rop_is _ _ _ _).mono ?_; rintro e w' ⟨rfl, rfl⟩; rw [hcode])
                | (go_at_call 9; refine (wrap_is _ _).mono ?_; rintro e w' ⟨rfl, rfl⟩)
                | (go_at_call 13; refine (truth_is _ _).mono ?_; rintro e w' ⟨rfl, hb⟩; replace HB := Lib.hid (bt HB.out hb); rw [htr]))
              refine wp_region_below w2 HB.out (by kernel_rfl) (by kernel_rfl) ?_
              iterate 3 go_big_quiet_step ((intro _; rfl))
              refine wpQuiet_load' rfl 3 (.tmp 92) rfl _ rfl (.int .i64 x) HLD.out ?_
              go_simp
              go_big_quiet_step ((intro _; rfl))
              go_big_quiet_step ((intro hw'; exact (wrap_is _ _).mono fun e w'' ⟨he, hw⟩ => ⟨he, hw ▸ hw'⟩))
              go_big_quiet_step ((intro _; rfl))
              go_big_quiet_step ((intro hw'; exact (wrap_is _ _).mono fun e w'' ⟨he, hw⟩ => ⟨he, hw ▸ hw'⟩))
              go_big_quiet_step ((intro hw'; exact (op_is _ _ _ _).mono fun e w'' ⟨he, hb⟩ => ⟨he, bt hw' hb⟩))
              iterate 5 go_big_quiet_step ((intro _; rfl))
              refine wpQuiet_nil ?_
              intro w6 hb6
              have HB6 := Lib.hid hb6
              clear hb6
              go_wp2_with fail
              go_roundw
              case rel => exact ⟨j + 1, by omega, by go_num, HB6⟩
              case measure => simp [intOf]; omega
          · have hz0 := hz a
            rw [hz0] at hag hww h01
            clear hz
            by_cases htr : tru x = true
            · clear h01
              go_wp2_with (first
                | (go_at_call 16; refine (op_is _ _ _ _).mono ?_; rintro e w' ⟨rfl, hb⟩; replace HB := Lib.hid (bt HB.out hb); have hc1 := HCX.out _ HB.out; rw [hz0, hcode])
                | (go_at_call 17; refine (rop_is _ _ _ _).mono ?_; rintro e w' ⟨rfl, rfl⟩; rw [hz0, hcode])
                | (go_at_call 9; refine (wrap_is _ _).mono ?_; rintro e w' ⟨rfl, rfl⟩)
                | (go_at_call 13; refine (truth_is _ _).mono ?_; rintro e w' ⟨rfl, hb⟩; replace HB := Lib.hid (bt HB.out hb); rw [htr]))
              refine wp_region_below w2 HB.out (by kernel_rfl) (by kernel_rfl) ?_
              iterate 3 go_big_quiet_step ((intro _; rfl))
              refine wpQuiet_load' rfl 3 (.tmp 92) rfl _ rfl (.int .i64 x) HLD.out ?_
              go_simp
              go_big_quiet_step ((intro _; rfl))
              go_big_quiet_step ((intro hw'; exact (wrap_is _ _).mono fun e w'' ⟨he, hw⟩ => ⟨he, hw ▸ hw'⟩))
              go_big_quiet_step ((intro _; rfl))
              go_big_quiet_step ((intro hw'; exact (wrap_is _ _).mono fun e w'' ⟨he, hw⟩ => ⟨he, hw ▸ hw'⟩))
              go_big_quiet_step ((intro hw'; exact (op_is _ _ _ _).mono fun e w'' ⟨he, hb⟩ => ⟨he, bt hw' hb⟩))
              iterate 5 go_big_quiet_step ((intro _; rfl))
              refine wpQuiet_nil ?_
              intro w6 hb6
              have HB6 := Lib.hid hb6
              clear hb6
              go_wp2_with fail
              go_roundw
              case rel => exact ⟨j + 1, by omega, by go_num, HB6⟩
              case measure => simp [intOf]; omega
            · have htr : tru x = false := by simpa using htr
              clear h01
              go_wp2_with (first
                | (go_at_call 16; refine (op_is _ _ _ _).mono ?_; rintro e w' ⟨rfl, hb⟩; replace HB := Lib.hid (bt HB.out hb); have hc1 := HCX.out _ HB.out; rw [hz0, hcode])
                | (go_at_call 17; refine (rop_is _ _ _ _).mono ?_; rintro e w' ⟨rfl, rfl⟩; rw [hz0, hcode])
                | (go_at_call 9; refine (wrap_is _ _).mono ?_; rintro e w' ⟨rfl, rfl⟩)
                | (go_at_call 13; refine (truth_is _ _).mono ?_; rintro e w' ⟨rfl, hb⟩; replace HB := Lib.hid (bt HB.out hb); rw [htr]))
              refine wp_region_below w2 HB.out (by kernel_rfl) (by kernel_rfl) ?_
              iterate 3 go_big_quiet_step ((intro _; rfl))
              refine wpQuiet_load' rfl 3 (.tmp 92) rfl _ rfl (.int .i64 x) HLD.out ?_
              go_simp
              go_big_quiet_step ((intro _; rfl))
              go_big_quiet_step ((intro hw'; exact (wrap_is _ _).mono fun e w'' ⟨he, hw⟩ => ⟨he, hw ▸ hw'⟩))
              go_big_quiet_step ((intro _; rfl))
              go_big_quiet_step ((intro hw'; exact (wrap_is _ _).mono fun e w'' ⟨he, hw⟩ => ⟨he, hw ▸ hw'⟩))
              go_big_quiet_step ((intro hw'; exact (op_is _ _ _ _).mono fun e w'' ⟨he, hb⟩ => ⟨he, bt hw' hb⟩))
              iterate 5 go_big_quiet_step ((intro _; rfl))
              refine wpQuiet_nil ?_
              intro w6 hb6
              have HB6 := Lib.hid hb6
              clear hb6
              go_wp2_with fail
              go_roundw
              case rel => exact ⟨j + 1, by omega, by go_num, HB6⟩
              case measure => simp [intOf]; omega
        · go_wp2_with (go_at_call 15; refine (lives_is _).mono ?_; rintro e w' ⟨rfl, hb⟩; replace HB := Lib.hid (bt HB.out hb))
          go_ret
          exact ⟨rfl, bt HB2.out HB.out⟩
end Go.Proofs.Ythjdonjcaekaaaa
