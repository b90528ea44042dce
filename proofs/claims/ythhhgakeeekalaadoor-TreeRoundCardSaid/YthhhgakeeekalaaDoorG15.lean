/-
  The reference's Same, SameInts.
-/
import Derived.Test.YthhhgakeeekalaaDoorG13
import Derived.Test.YthhhgakeeekalaaDoorG06
set_option linter.unusedVariables false
namespace Go.Proofs.YthhhgakeeekalaaDoor
open Go.RowKit WM TR

theorem same_is (d : Nat) (t u : T) (S : Nat → Prop) (A A' : Option Addr) (c c' : Nat) (w : World) (ht : Rep w S d t (nd t A c)) (hu : Rep w S d u (nd u A' c')) (hin : In S w.heap.size) (hst : size t ≤ 1000000) (hsu : size u ≤ 1000000) (r : Bool) (hr : decide (cmp t u = 0) = r) :
    Calls Tryd.prog 30 #[.agg #[.int .i64 t.k, .int .i64 t.n, .int .i64 t.m, .slice A t.kids.length c], .agg #[.int .i64 u.k, .int .i64 u.n, .int .i64 u.m, .slice A' u.kids.length c']] w fun e w' => e = .returned (.bool r) ∧ Below w.heap.size w w' := by
  have hb : Below w.heap.size w ((w.alloc (.cells #[.int .i64 t.k, .int .i64 t.n, .int .i64 t.m, .slice A t.kids.length c] 25)).alloc (.cells #[.int .i64 u.k, .int .i64 u.n, .int .i64 u.m, .slice A' u.kids.length c'] 25)) := ba (below_new _ _) _
  have HT := Lib.hid (ht.later hin hb)
  have HU := Lib.hid (hu.later hin hb)
  have HI := Lib.hid (hin.more hb.size)
  have HB := Lib.hid hb
  have HR : Hid ((cmp t u == 0) = r) := Lib.hid hr
  clear ht hu hin hb hr
  go_enter Tryd.func30, Tryd.ntmps30
  go_wp2_with (go_at_call 18; refine (rcmp_is d t u S A A' c c' _ HT.out HU.out HI.out hst hsu).mono ?_; rintro e w' ⟨rfl, hbw⟩)
  go_ret
  exact ⟨ret_b HR.out, bt HB.out hbw⟩

set_option maxRecDepth 100000 in
set_option maxHeartbeats 1000000 in
theorem sameInts_is (l m : List Int) (S : Nat → Prop) (A B : Option Addr) (c c' : Nat) (w : World) (hl : Rd w S 1 A l.length (vi l)) (hm : Rd w S 1 B m.length (vi m)) (hin : In S w.heap.size) (hll : l.length ≤ 1000000) (hml : m.length ≤ 1000000) (r : Bool) (hr : decide (l = m) = r) :
    Calls Tryd.prog 32 #[.slice A l.length c, .slice B m.length c'] w fun e w' => e = .returned (.bool r) ∧ Below w.heap.size w w' := by
  obtain ⟨a, ha⟩ : ∃ a, a = l.length := ⟨_, rfl⟩
  obtain ⟨b, hb⟩ : ∃ b, b = m.length := ⟨_, rfl⟩
  rw [← ha] at hl hll ⊢
  rw [← hb] at hm hml ⊢
  have HA := Lib.hid ha
  have HB := Lib.hid hb
  have HL := Lib.hid hl
  have HM := Lib.hid hm
  have HI := Lib.hid hin
  have HR := Lib.hid hr
  clear ha hb hl hm hin hr
  by_cases hab : a = b
  · have hne : ((a : Int) != b) = false := by rw [hab]; simp
    have HAB := Lib.hid hab
    have hab2 : a ≤ b := by omega
    clear hab
    go_enter Tryd.func32, Tryd.ntmps32
    go_wp2_with fail
    go_loopw [5] (fun i wr => ∃ j : Nat, j ≤ a ∧ i = .int .i64 j ∧ Hid (l.take j = m.take j) ∧ Hid (Below w.heap.size w wr)) (fun i _ => a - (intOf i).toNat)
    case atStart => exact ⟨0, Nat.zero_le _, rfl, by simp [Hid], Below.refl _ _⟩
    case round =>
      obtain ⟨j, hj, rfl, HE, HBW⟩ := hrel
      by_cases hlt : j < a
      · obtain ⟨x, hx⟩ : ∃ x, l[j]? = some x := ⟨_, List.getElem?_eq_getElem (by rw [← HA.out]; exact hlt)⟩
        obtain ⟨y, hy⟩ : ∃ y, m[j]? = some y := ⟨_, List.getElem?_eq_getElem (by rw [← HB.out]; omega)⟩
        obtain ⟨g1, o1, hA1, hs1, hc1⟩ := HL.out.lit (by omega)
        obtain ⟨g2, o2, hA2, hs2, hc2⟩ := HM.out.lit (by omega)
        subst hA1 hA2
        have hcx := (HBW.out.cell (p := ⟨g1, o1 + j, none⟩) (HI.out _ hs1)).trans (hc1 j _ (vi_get hx))
        have hcy := (HBW.out.cell (p := ⟨g2, o2 + j, none⟩) (HI.out _ hs2)).trans (hc2 j _ (vi_get hy))
        have hi1 : (0 : Int) ≤ j ∧ (j : Int) < a := ⟨by omega, by omega⟩
        have hi2 : (0 : Int) ≤ j ∧ (j : Int) < b := ⟨by omega, by omega⟩
        by_cases hxy : x = y
        · have hnn : (x != y) = false := by rw [hxy]; simp
          have HE2 : Hid (l.take (j + 1) = m.take (j + 1)) := Lib.hid (by rw [List.take_add_one, List.take_add_one, HE.out, hx, hy, hxy])
          clear hx hy hc1 hc2 hs1 hs2 hxy
          go_wp2_with fail
          go_quiet (fail)
          go_wp2_with fail
          go_roundw
          case rel => exact ⟨j + 1, by omega, by go_num, HE2.out, below_drewN HBW.out _⟩
          case measure => simp [intOf]; omega
        · have hnn : (x != y) = true := by simpa using hxy
          have HF : Hid (false = r) := Lib.hid (by
            rw [← HR.out]
            symm
            rw [decide_eq_false_iff_not]
            intro e
            rw [e, hy] at hx
            exact hxy (Option.some.inj hx).symm)
          clear hx hy hc1 hc2 hs1 hs2 hxy
          go_wp2_with fail
          go_quiet (fail)
          go_wp2_with fail
          go_ret
          exact ⟨ret_b HF.out, below_drewN HBW.out _⟩
      · have HF : Hid (true = r) := Lib.hid (by
          rw [← HR.out]
          symm
          rw [decide_eq_true_eq]
          have h := HE.out
          rwa [List.take_of_length_le (by rw [← HA.out]; omega), List.take_of_length_le (by rw [← HB.out, ← HAB.out]; omega)] at h)
        go_wp2_with fail
        go_ret
        exact ⟨ret_b HF.out, HBW.out⟩
  · have hne : ((a : Int) != b) = true := by simp; omega
    have HF : Hid (false = r) := Lib.hid (by
      rw [← HR.out]
      symm
      rw [decide_eq_false_iff_not]
      intro e
      exact hab (by rw [HA.out, HB.out, e]))
    clear hab
    go_enter Tryd.func32, Tryd.ntmps32
    go_wp2_with fail
    go_ret
    exact ⟨ret_b HF.out, Below.refl _ _⟩
end Go.Proofs.YthhhgakeeekalaaDoor

/-
  LISTS OF PLACES in memory, and the reference's SamePaths.
-/
namespace Go.Proofs.YthhhgakeeekalaaDoor
open Go.RowKit WM TR

/-- A slice of slices of numbers that reads as a list of places, in blocks of a sort. -/
def Ps (w : World) (S : Nat → Prop) (A : Option Addr) (ps : List (List Int)) : Prop :=
  ∃ xs, Rd w S 1 A ps.length xs ∧ ∀ (i : Nat) (p : List Int), ps[i]? = some p → ∃ A' c', xs[i]? = some (Value.slice A' p.length c') ∧ p.length ≤ c' ∧ Rd w S 1 A' p.length (vi p)
section
variable {w w' : World} {S S' : Nat → Prop} {A : Option Addr} {ps : List (List Int)}
theorem Ps.keep (h : Ps w S A ps) (hk : Keeps S w w') : Ps w' S A ps := by
  obtain ⟨xs, h1, h2⟩ := h
  refine ⟨xs, h1.keep hk, fun i p hp => ?_⟩
  obtain ⟨A', c', e, hc, hr⟩ := h2 i p hp
  exact ⟨A', c', e, hc, hr.keep hk⟩
theorem Ps.mono (h : Ps w S A ps) (hS : ∀ b, S b → S' b) : Ps w S' A ps := by
  obtain ⟨xs, h1, h2⟩ := h
  refine ⟨xs, h1.mono hS, fun i p hp => ?_⟩
  obtain ⟨A', c', e, hc, hr⟩ := h2 i p hp
  exact ⟨A', c', e, hc, hr.mono hS⟩
theorem Ps.later (h : Ps w S A ps) (hS : In S w.heap.size) (hb : Below w.heap.size w w') : Ps w' S A ps := h.keep (Keeps.below hS hb)
/-- A place: where its slice lies, and that it reads as the place. -/
theorem Ps.at_ (h : Ps w S A ps) {i : Nat} {p : List Int} (hp : ps[i]? = some p) :
    ∃ b off A' c', A = some ⟨b, off, none⟩ ∧ S b ∧ w.cell? ⟨b, off + i, none⟩ = some (Value.slice A' p.length c') ∧ p.length ≤ c' ∧ Rd w S 1 A' p.length (vi p) := by
  obtain ⟨xs, h1, h2⟩ := h
  have hi : i < ps.length := (List.getElem?_eq_some_iff.1 hp).1
  obtain ⟨b, off, e, hb, hc⟩ := h1.lit (by omega)
  obtain ⟨A', c', e2, hcap, hr⟩ := h2 i p hp
  exact ⟨b, off, A', c', e, hb, hc i _ e2, hcap, hr⟩
end

set_option maxRecDepth 100000 in
set_option maxHeartbeats 2000000 in
theorem samePaths_is (l m : List (List Int)) (S : Nat → Prop) (A B : Option Addr) (c c' : Nat) (w : World) (hl : Ps w S A l) (hm : Ps w S B m) (hin : In S w.heap.size) (hml : m.length ≤ 1000000) (hlp : ∀ p ∈ l, p.length ≤ 1000000) (hmp : ∀ p ∈ m, p.length ≤ 1000000) (r : Bool) (hr : decide (l = m) = r) :
    Calls Tryd.prog 52 #[.slice A l.length c, .slice B m.length c'] w fun e w' => e = .returned (.bool r) ∧ Below w.heap.size w w' := by
  obtain ⟨a, ha⟩ : ∃ a, a = l.length := ⟨_, rfl⟩
  obtain ⟨b, hb⟩ : ∃ b, b = m.length := ⟨_, rfl⟩
  rw [← ha]
  rw [← hb] at hml ⊢
  have HA := Lib.hid ha
  have HB := Lib.hid hb
  have HL := Lib.hid hl
  have HM := Lib.hid hm
  have HI := Lib.hid hin
  have HR := Lib.hid hr
  have HLP := Lib.hid hlp
  have HMP := Lib.hid hmp
  clear ha hb hl hm hin hr hlp hmp
  by_cases hab : a = b
  · have hne : ((a : Int) != b) = false := by rw [hab]; simp
    have HAB := Lib.hid hab
    have hab2 : a ≤ b := by omega
    clear hab
    go_enter Tryd.func52, Tryd.ntmps52
    go_wp2_with fail
    go_loopw [5] (fun i wr => ∃ j : Nat, j ≤ a ∧ i = .int .i64 j ∧ Hid (l.take j = m.take j) ∧ Hid (Below w.heap.size w wr)) (fun i _ => a - (intOf i).toNat)
    case atStart => exact ⟨0, Nat.zero_le _, rfl, by simp [Hid], Below.refl _ _⟩
    case round =>
      obtain ⟨j, hj, rfl, HE, HBW⟩ := hrel
      by_cases hlt : j < a
      · obtain ⟨x, hx⟩ : ∃ x, l[j]? = some x := ⟨_, List.getElem?_eq_getElem (by rw [← HA.out]; exact hlt)⟩
        obtain ⟨y, hy⟩ : ∃ y, m[j]? = some y := ⟨_, List.getElem?_eq_getElem (by rw [← HB.out]; omega)⟩
        obtain ⟨g1, o1, A1, c1, hA1, hs1, hc1, _, hr1⟩ := HL.out.at_ hx
        obtain ⟨g2, o2, A2, c2, hA2, hs2, hc2, _, hr2⟩ := HM.out.at_ hy
        subst hA1 hA2
        have hIw : In S wr.heap.size := HI.out.more HBW.out.size
        have HIW := Lib.hid hIw
        have hcx := (HBW.out.cell (p := ⟨g1, o1 + j, none⟩) (HI.out _ hs1)).trans hc1
        have hcy := (HBW.out.cell (p := ⟨g2, o2 + j, none⟩) (HI.out _ hs2)).trans hc2
        have HR1 := Lib.hid (hr1.keep (Keeps.below HI.out HBW.out))
        have HR2 := Lib.hid (hr2.keep (Keeps.below HI.out HBW.out))
        have HG1 : Hid (∀ W, Below wr.heap.size wr W → (Instr.loadAt 22 (.pointer (some ⟨g1, o1 + j, none⟩))).run Tryd.prog W = .ok (.slice A1 x.length c1) W) := Lib.hid (fun W hW => by
          have := (hW.cell (p := ⟨g1, o1 + j, none⟩) (hIw _ hs1)).trans hcx
          go_simp)
        have HG2 : Hid (∀ W, Below wr.heap.size wr W → (Instr.loadAt 22 (.pointer (some ⟨g2, o2 + j, none⟩))).run Tryd.prog W = .ok (.slice A2 y.length c2) W) := Lib.hid (fun W hW => by
          have := (hW.cell (p := ⟨g2, o2 + j, none⟩) (hIw _ hs2)).trans hcy
          go_simp)
        have hxl : x.length ≤ 1000000 := HLP.out x (List.mem_of_getElem? hx)
        have hyl : y.length ≤ 1000000 := HMP.out y (List.mem_of_getElem? hy)
        have hi1 : (0 : Int) ≤ j ∧ (j : Int) < a := ⟨by omega, by omega⟩
        have hi2 : (0 : Int) ≤ j ∧ (j : Int) < b := ⟨by omega, by omega⟩
        obtain ⟨q, hq⟩ : ∃ q, decide (x = y) = q := ⟨_, rfl⟩
        have HQ := Lib.hid hq
        have HX := Lib.hid hx
        have HY := Lib.hid hy
        clear hx hy hc1 hc2 hs1 hs2 hr1 hr2 hcx hcy hIw hq
        go_wp2_with fail
        refine wp_region_below wr (Below.refl _ _) (by kernel_rfl) (by kernel_rfl) ?_
        iterate 3 go_big_quiet_step ((intro _; rfl))
        refine wpQuiet_load' rfl 22 (.tmp 19) rfl _ rfl (.slice A1 x.length c1) HG1.out ?_
        go_simp
        iterate 3 go_big_quiet_step ((intro _; rfl))
        refine wpQuiet_load' rfl 22 (.tmp 23) rfl _ rfl (.slice A2 y.length c2) HG2.out ?_
        go_simp
        go_big_quiet_step ((intro hw'; exact (sameInts_is x y S A1 A2 c1 c2 _ (HR1.out.keep (Keeps.below HIW.out hw')) (HR2.out.keep (Keeps.below HIW.out hw')) (HIW.out.more hw'.size) hxl hyl q HQ.out).mono fun e w'' ⟨he, hb⟩ => ⟨he, bt hw' hb⟩))
        go_big_quiet_step ((intro _; rfl))
        refine wpQuiet_nil ?_
        intro w6 hb6
        have HB6 := Lib.hid (bt HBW.out hb6)
        clear hb6
        cases q with
        | true =>
          have HE2 : Hid (l.take (j + 1) = m.take (j + 1)) := Lib.hid (by rw [List.take_add_one, List.take_add_one, HE.out, HX.out, HY.out, of_decide_eq_true HQ.out])
          go_wp2_with fail
          go_roundw
          case rel => exact ⟨j + 1, by omega, by go_num, HE2.out, HB6.out⟩
          case measure => simp [intOf]; omega
        | false =>
          have HF : Hid (false = r) := Lib.hid (by
            rw [← HR.out]
            symm
            rw [decide_eq_false_iff_not]
            intro e
            have hx := HX.out
            rw [e, HY.out] at hx
            exact of_decide_eq_false HQ.out (Option.some.inj hx).symm)
          go_wp2_with fail
          go_ret
          exact ⟨ret_b HF.out, HB6.out⟩
      · have HF : Hid (true = r) := Lib.hid (by
          rw [← HR.out]
          symm
          rw [decide_eq_true_eq]
          have h := HE.out
          rwa [List.take_of_length_le (by rw [← HA.out]; omega), List.take_of_length_le (by rw [← HB.out, ← HAB.out]; omega)] at h)
        go_wp2_with fail
        go_ret
        exact ⟨ret_b HF.out, HBW.out⟩
  · have hne : ((a : Int) != b) = true := by simp; omega
    have HF : Hid (false = r) := Lib.hid (by
      rw [← HR.out]
      symm
      rw [decide_eq_false_iff_not]
      intro e
      exact hab (by rw [HA.out, HB.out, e]))
    clear hab
    go_enter Tryd.func52, Tryd.ntmps52
    go_wp2_with fail
    go_ret
    exact ⟨ret_b HF.out, Below.refl _ _⟩
end Go.Proofs.YthhhgakeeekalaaDoor

/-
  The reference's Paths.
-/
namespace Go.Proofs.YthhhgakeeekalaaDoor.TR
theorem attach_idx {α : Type} (l : List T) (f : Nat → T → α) : (l.attach.mapIdx fun i u => f i u.1) = l.mapIdx f := by
  apply List.ext_getElem (by simp)
  intro i h1 h2
  simp
theorem paths_eq (t : T) : paths t = [] :: (t.kids.mapIdx fun i u => (paths u).map fun p => (i : Int) :: p).flatten := by
  rw [paths, attach_idx t.kids fun i u => (paths u).map fun p => (i : Int) :: p]
/-- The places below the first kids. -/
def rows (l : List T) (j : Nat) : List (List Int) := ((l.take j).mapIdx fun i u => (paths u).map fun p => (i : Int) :: p).flatten
theorem rows_zero (l : List T) : rows l 0 = [] := rfl
theorem rows_next {l : List T} {j : Nat} {u : T} (h : l[j]? = some u) : rows l (j + 1) = rows l j ++ (paths u).map fun p => (j : Int) :: p := by
  have hj := (List.getElem?_eq_some_iff.1 h).1
  unfold rows
  rw [List.take_add_one, h, Option.toList_some, List.mapIdx_append, List.flatten_append]
  simp [List.length_take, Nat.min_eq_left (Nat.le_of_lt hj)]
theorem paths_rows (t : T) : paths t = [] :: rows t.kids t.kids.length := by rw [paths_eq, rows, List.take_length]
theorem rows_length {l : List T} (h : ∀ u ∈ l, (paths u).length = size u) : ∀ j, j ≤ l.length → (rows l j).length = sizes l j
  | 0, _ => rfl
  | j + 1, hj => by
    obtain ⟨u, hu⟩ : ∃ u, l[j]? = some u := ⟨_, List.getElem?_eq_getElem (by omega)⟩
    rw [rows_next hu, sizes_next hu, List.length_append, List.length_map, rows_length h j (by omega), h u (List.mem_of_getElem? hu)]
theorem paths_length (t : T) : (paths t).length = size t := by
  induction h : SizeOf.sizeOf t using Nat.strongRecOn generalizing t with
  | ind n ih =>
    subst h
    rw [paths_rows, List.length_cons, rows_length (fun u hu => ih _ (kid_lt hu) u rfl) _ (Nat.le_refl _), size_kids]
    omega
theorem path_lt (t : T) : ∀ p ∈ paths t, p.length < depth t := by
  induction h : SizeOf.sizeOf t using Nat.strongRecOn generalizing t with
  | ind n ih =>
    subst h
    intro p hp
    rw [paths_eq] at hp
    rcases List.mem_cons.1 hp with rfl | hp
    · rw [depth_eq]; simp
    · obtain ⟨r, hr, hpr⟩ := List.mem_flatten.1 hp
      obtain ⟨i, hi, rfl⟩ := List.mem_mapIdx.1 hr
      obtain ⟨q, hq, rfl⟩ := List.mem_map.1 hpr
      have h1 := ih _ (kid_lt (List.getElem_mem hi)) _ rfl q hq
      have h2 := depth_kid (List.getElem?_eq_getElem hi)
      simp only [List.length_cons]
      omega
theorem path_le (t : T) : ∀ p ∈ paths t, p.length ≤ size t := fun p hp => by
  have := path_lt t p hp
  have := depth_le_size t
  omega
end Go.Proofs.YthhhgakeeekalaaDoor.TR
namespace Go.Proofs.YthhhgakeeekalaaDoor
open Go.RowKit WM TR

/-- The cells xs hold slices that read as places. -/
def PsC (w : World) (S : Nat → Prop) (ps : List (List Int)) (xs : List Value) : Prop :=
  xs.length = ps.length ∧ ∀ (i : Nat) (p : List Int), ps[i]? = some p → ∃ A' c', xs[i]? = some (Value.slice A' p.length c') ∧ p.length ≤ c' ∧ Rd w S 1 A' p.length (vi p)
section
variable {w w' : World} {S S' : Nat → Prop} {ps : List (List Int)} {xs : List Value}
theorem PsC.keep (h : PsC w S ps xs) (hk : Keeps S w w') : PsC w' S ps xs := ⟨h.1, fun i p hp => by
  obtain ⟨A', c', e, hc, hr⟩ := h.2 i p hp
  exact ⟨A', c', e, hc, hr.keep hk⟩⟩
theorem PsC.mono (h : PsC w S ps xs) (hS : ∀ b, S b → S' b) : PsC w S' ps xs := ⟨h.1, fun i p hp => by
  obtain ⟨A', c', e, hc, hr⟩ := h.2 i p hp
  exact ⟨A', c', e, hc, hr.mono hS⟩⟩
theorem PsC.snoc (h : PsC w S ps xs) {p : List Int} {A' : Option Addr} {c' : Nat} (hc : p.length ≤ c') (hr : Rd w S 1 A' p.length (vi p)) : PsC w S (ps ++ [p]) (xs ++ [Value.slice A' p.length c']) := by
  refine ⟨by simp [h.1], fun i q hq => ?_⟩
  by_cases hi : i < ps.length
  · rw [List.getElem?_append_left hi] at hq
    obtain ⟨A2, c2, e, hc2, hr2⟩ := h.2 i q hq
    exact ⟨A2, c2, by rw [List.getElem?_append_left (by rw [h.1]; exact hi)]; exact e, hc2, hr2⟩
  · rw [List.getElem?_append_right (by omega)] at hq
    have hi2 : i - ps.length = 0 := by
      have := (List.getElem?_eq_some_iff.1 hq).1
      simp at this; omega
    rw [hi2] at hq
    simp only [List.getElem?_cons_zero, Option.some.injEq] at hq
    subst hq
    exact ⟨A', c', by rw [List.getElem?_append_right (by rw [h.1]; omega), h.1, hi2]; rfl, hc, hr⟩
end

/-- The places that have been made lie in a row of their own. -/
structure PSt (W1 wr : World) (v : Value) (ps : List (List Int)) (xs : List Value) : Prop where
  own : wr.ownsRow W1.heap.size 22 1 v ps.length xs
  cells : PsC wr (fun b => W1.heap.size ≤ b ∧ b < wr.heap.size ∧ v.ownBlock ≠ some b) ps xs
  below : Below W1.heap.size W1 wr
section
variable {W1 wr w1 w2 : World} {v v1 v2 : Value} {ps : List (List Int)} {xs : List Value} {p : List Int} {o : Obj}
theorem PSt.later (h : PSt W1 wr v ps xs) (hb : Below wr.heap.size wr w1) : PSt W1 w1 v ps xs := by
  refine ⟨ownsRow_below h.own hb, (h.cells.keep fun b hb' => hb.block b hb'.2.1).mono fun b hb' => ⟨hb'.1, Nat.lt_of_lt_of_le hb'.2.1 hb.size, hb'.2.2⟩, bt h.below hb⟩
theorem PSt.next (h : PSt W1 wr v ps xs) (hown1 : w1.ownsRow wr.heap.size 3 1 v1 p.length (vi p)) (hg1 : Below wr.heap.size wr w1)
    (hown2 : w2.ownsRow W1.heap.size 22 1 v2 (ps.length + 1) (xs ++ [v1])) (hg2 : (w1.alloc o).grownBy w2 v.ownBlock) (hnew : v2.ownBlock = v.ownBlock ∨ v2.ownBlock = some (w1.alloc o).heap.size) :
    PSt W1 w2 v2 (ps ++ [p]) (xs ++ [v1]) := by
  have hs1 := h.below.size
  have hs2 := hg1.size
  have hs3 := hg2.size
  have hsa : (w1.alloc o).heap.size = w1.heap.size + 1 := size_alloc _ _
  have hv := h.own.lt
  have keep : ∀ b, b < w1.heap.size → v.ownBlock ≠ some b → w2.heap[b]? = w1.heap[b]? := fun b hb hne =>
    (hg2.block b (by omega) (fun e => hne e.symm)).trans (Below.heap_alloc w1 o b hb)
  have hb1 : Below W1.heap.size W1 (w1.alloc o) := ba (bt h.below hg1) o
  have sort : ∀ b, b < w1.heap.size → v.ownBlock ≠ some b → v2.ownBlock ≠ some b := fun b hb hne e => by
    rcases hnew with hn | hn
    · exact hne (hn ▸ e)
    · rw [hn] at e; have := Option.some.inj e; omega
  obtain ⟨A1, c1, rfl, hc1⟩ := own_len hown1
  refine ⟨by rw [List.length_append, List.length_singleton]; exact hown2, ?_, ?_⟩
  · refine PsC.snoc ?_ hc1 ?_
    · refine (h.cells.keep (w' := w2) ?_).mono ?_
      · intro b hb
        exact (keep b (by omega) hb.2.2).trans (hg1.block b hb.2.1)
      · intro b hb
        exact ⟨hb.1, by omega, sort b (by omega) hb.2.2⟩
    · have hne : ∀ b, wr.heap.size ≤ b → v.ownBlock ≠ some b := fun b hb e => by have := (hv b e).2; omega
      refine Rd.mono ((Rd.of_own hown1).keep (w' := w2) ?_) ?_
      · intro b hb
        exact keep b hb.2 (hne b hb.1)
      · intro b hb
        exact ⟨by omega, by omega, sort b hb.2 (hne b hb.1)⟩
  · exact ⟨hg2.os.trans hb1.os, hg2.tape.trans hb1.tape, hg2.output.trans hb1.output, Nat.le_trans hb1.size hg2.size, fun i hi => (hg2.block i (Nat.lt_of_lt_of_le hi hb1.size) (fun e => by have := (hv i e.symm).1; omega)).trans (hb1.block i hi)⟩
end

/-- What Paths leaves. -/
def PathsPost (t : T) (w : World) (e : Ending) (w' : World) : Prop :=
  ∃ A' c', e = .returned (.slice A' (size t) c') ∧ size t ≤ c' ∧ Ps w' (fun b => w.heap.size ≤ b ∧ b < w'.heap.size) A' (paths t) ∧ Below w.heap.size w w'
end Go.Proofs.YthhhgakeeekalaaDoor
