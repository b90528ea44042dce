/-
  The reference's Index.
-/
import Derived.Test.YtojicjdlopbeiaaDoorG06
import Derived.Test.YtojicjdlopbeiaaDoorG18
import Derived.Test.YtojicjdlopbeiaaDoorG12
import Derived.Test.YtojicjdlopbeiaaDoorG15
set_option linter.unusedVariables false
namespace Go.Proofs.YtojicjdlopbeiaaDoor
open Go.RowKit WM TR

/-- The number of a place, or -1. -/
def idxI : Option Nat → Int
  | none => -1
  | some n => n
theorem idx_lt : ∀ (p : List Int) (t : T) (n : Nat), idx p t = some n → n < size t
  | [], t, n, h => by
    simp only [idx, Option.some.injEq] at h
    subst h; exact size_pos t
  | i :: p, t, n, h => by
    unfold idx at h
    split at h
    · cases h
    · split at h
      · cases h
      · rename_i u hu
        split at h
        · cases h
        · rename_i m hm
          have h1 := idx_lt p u m hm
          have h2 := sizes_next hu
          have h3 := sizes_le t.kids (i.toNat + 1)
          simp only [Option.some.injEq] at h
          rw [size_eq]; omega
/-- The contract of Index at a place. -/
def IdxC (p : List Int) : Prop :=
  ∀ (d : Nat) (t : T) (S : Nat → Prop) (A P : Option Addr) (c pc n : Nat) (w : World), n = p.length → Rep w S d t (nd t A c) → Rd w S 1 P n (vi p) → In S w.heap.size → n ≤ pc → size t ≤ 1000000 → n ≤ 9223372036854775807 →
    Calls Tryd.prog 31 #[.agg #[.int .i64 t.k, .int .i64 t.n, .int .i64 t.m, .slice A t.kids.length c], .slice P n pc] w fun e w' => e = .returned (.int .i64 (idxI (idx p t))) ∧ Below w.heap.size w w'

theorem idx_nil : IdxC [] := by
  intro d t S A P c pc n w hn ht hp hin hpc hst hpl
  subst hn
  clear ht hp hin
  go_enter Tryd.func31, Tryd.ntmps31
  go_wp2_with fail
  go_ret
  exact ⟨rfl, below_new _ _⟩

set_option maxRecDepth 100000 in
set_option maxHeartbeats 2000000 in
theorem idx_none (i : Int) (p : List Int) (d : Nat) (t : T) (S : Nat → Prop) (A P : Option Addr) (c pc n : Nat) (w : World) (ht : Rep w S d t (nd t A c)) (hp : Rd w S 1 P (n + 1) (vi (i :: p))) (hin : In S w.heap.size) (hst : size t ≤ 1000000) (hpl : n ≤ 9223372036854775807)
    (hno : i < 0 ∨ (t.kids.length : Int) ≤ i) :
    Calls Tryd.prog 31 #[.agg #[.int .i64 t.k, .int .i64 t.n, .int .i64 t.m, .slice A t.kids.length c], .slice P (n + 1) pc] w fun e w' => e = .returned (.int .i64 (idxI (idx (i :: p) t))) ∧ Below w.heap.size w w' := by
  obtain ⟨b, off, hP, hbS, hcell⟩ := hp.lit (by omega)
  have hb : b < w.heap.size := hin b hbS
  subst hP
  have hc0 : w.cell? ⟨b, off, none⟩ = some (.int .i64 i) := hcell 0 (.int .i64 i) rfl
  have hnone : idx (i :: p) t = none := by
    unfold idx
    by_cases h : i < 0
    · rw [if_pos h]
    · rw [if_neg h, List.getElem?_eq_none (by omega)]
  rw [hnone]
  have hcap := ht.cap
  obtain ⟨l, hl⟩ : ∃ l, l = t.kids.length := ⟨_, rfl⟩
  have hkl : t.kids.length ≤ 1000000 := by have := kids_lt t; omega
  rw [← hl] at hno hcap hkl ⊢
  have hcl : (w.alloc (.cells #[.int .i64 t.k, .int .i64 t.n, .int .i64 t.m, .slice A l c] 25)).cell? ⟨w.heap.size, 3, none⟩ = some (.slice A l c) := (Blk.new w _ _).cell 3
  clear hl hp hcell hin hnone ht hbS
  by_cases hi : i < 0
  · have hd : decide (i < 0) = true := by simpa using hi
    go_enter Tryd.func31, Tryd.ntmps31
    go_wp2_with fail
    go_quiet (fail)
    go_wp2_with fail
    go_ret
    exact ⟨rfl, below_drewN (below_new _ _) _⟩
  · have hd : decide (i < 0) = false := by simpa using hi
    have hd2 : decide ((l : Int) ≤ i) = true := by simp; omega
    go_enter Tryd.func31, Tryd.ntmps31
    go_wp2_with fail
    go_quiet (fail)
    go_wp2_with fail
    go_ret
    exact ⟨rfl, below_drewN (below_new _ _) _⟩

set_option maxRecDepth 100000 in
set_option maxHeartbeats 4000000 in
theorem idx_some (j : Nat) (p : List Int) (ih : IdxC p) (d : Nat) (t v : T) (S : Nat → Prop) (A P : Option Addr) (c pc n : Nat) (w : World) (hn : n = p.length) (ht : Rep w S (d + 1) t (nd t A c)) (hp : Rd w S 1 P (n + 1) (vi ((j : Int) :: p))) (hin : In S w.heap.size) (hpc : n + 1 ≤ pc) (hst : size t ≤ 1000000) (hpl : n ≤ 9223372036854775807)
    (hv : t.kids[j]? = some v) :
    Calls Tryd.prog 31 #[.agg #[.int .i64 t.k, .int .i64 t.n, .int .i64 t.m, .slice A t.kids.length c], .slice P (n + 1) pc] w fun e w' => e = .returned (.int .i64 (idxI (idx ((j : Int) :: p) t))) ∧ Below w.heap.size w w' := by
  obtain ⟨b, off, hP, hbS, hcell⟩ := hp.lit (by omega)
  have hb : b < w.heap.size := hin b hbS
  subst hP
  have hc0 : w.cell? ⟨b, off, none⟩ = some (.int .i64 (j : Int)) := hcell 0 (.int .i64 (j : Int)) rfl
  have hcap := ht.cap
  obtain ⟨l, hl⟩ : ∃ l, l = t.kids.length := ⟨_, rfl⟩
  have hkl : t.kids.length ≤ 1000000 := by have := kids_lt t; omega
  have hjl : j < l := by rw [hl]; exact (List.getElem?_eq_some_iff.1 hv).1
  rw [← hl] at hcap hkl ⊢
  obtain ⟨b1, o1, A1, c1, hA1, hb1S, hcl1, hr1⟩ := ht.kid hv
  have hb1 := hin _ hb1S
  subst hA1
  have hsv : size v ≤ 1000000 := by have := size_kid hv; omega
  have htl := Rd.cut1 hp hpc
  have hcut := cut1 b off (n + 1) pc (by omega)
  obtain ⟨P', hP'⟩ : ∃ P', P' = (if pc = 1 then some (⟨b, off, none⟩ : Addr) else some ⟨b, off + 1, none⟩) := ⟨_, rfl⟩
  rw [← hP'] at hcut htl
  have hpc1 : n ≤ pc - 1 := by omega
  have hixn : idx p v = none → idx ((j : Int) :: p) t = none := fun h => by
    rw [idx, if_neg (by omega)]
    simp only [Int.toNat_natCast, hv, h]
  have hixs : ∀ m, idx p v = some m → idx ((j : Int) :: p) t = some (1 + m + sizes t.kids j) := fun m h => by
    rw [idx, if_neg (by omega)]
    simp only [Int.toNat_natCast, hv, h]
  have HTL := Lib.hid htl
  have HR1 := Lib.hid hr1
  have HT := Lib.hid ht
  have HI := Lib.hid hin
  have HV := Lib.hid hv
  have HL := Lib.hid hl
  have HN := Lib.hid hn
  have HIH := Lib.hid ih
  have HIN := Lib.hid hixn
  have HIS := Lib.hid hixs
  have HLE := Lib.hid (sizes_le t.kids)
  have HSE := Lib.hid (size_eq t)
  have hd : decide ((j : Int) < 0) = false := by simp
  have hd2 : decide ((l : Int) ≤ j) = false := by simp; omega
  have hij : (0 : Int) ≤ j ∧ (j : Int) < l := ⟨by omega, by omega⟩
  have hcl : (w.alloc (.cells #[.int .i64 t.k, .int .i64 t.n, .int .i64 t.m, .slice (some ⟨b1, o1, none⟩) l c] 25)).cell? ⟨w.heap.size, 3, none⟩ = some (.slice (some ⟨b1, o1, none⟩) l c) := (Blk.new w _ _).cell 3
  have HC0 := Lib.hid hc0
  clear hn hl hp hcell hin ht hbS hb1S hv hr1 htl hP' ih hixn hixs
  go_enter Tryd.func31, Tryd.ntmps31
  go_wp2_with fail
  go_quiet (fail)
  go_wp2_with fail
  obtain ⟨W2, hW2⟩ : ∃ W2, W2 = (w.alloc (.cells #[.int .i64 t.k, .int .i64 t.n, .int .i64 t.m, .slice (some ⟨b1, o1, none⟩) l c] 25)).drewN nq := ⟨_, rfl⟩
  have HB2 : Hid (Below w.heap.size w W2) := Lib.hid (by rw [hW2]; exact below_drewN (below_new _ _) _)
  have HTB2 : Hid (Blk W2 w.heap.size 25 #[.int .i64 t.k, .int .i64 t.n, .int .i64 t.m, .slice (some ⟨b1, o1, none⟩) l c]) := Lib.hid (by rw [hW2]; exact (Blk.new w _ _).drewN _)
  have hz2 : w.heap.size < W2.heap.size := HTB2.out.lt
  rw [← hW2]
  clear hW2 hcl hc0
  have HL1 : Hid (∀ W, Below W2.heap.size W2 W → W.cell? ⟨w.heap.size, 3, none⟩ = some (.slice (some ⟨b1, o1, none⟩) l c)) := Lib.hid (fun W hW => (hW.cell (p := ⟨w.heap.size, 3, none⟩) hz2).trans (HTB2.out.cell 3))
  have HL2 : Hid (∀ W, Below W2.heap.size W2 W → W.cell? ⟨b, off, none⟩ = some (.int .i64 (j : Int))) := Lib.hid (fun W hW => (hW.cell (p := ⟨b, off, none⟩) (Nat.lt_trans hb hz2)).trans ((HB2.out.cell (p := ⟨b, off, none⟩) hb).trans HC0.out))
  have HG1 : Hid (∀ W, Below W2.heap.size W2 W → (Instr.loadAt 23 (.pointer (some ⟨w.heap.size, 3, none⟩))).run Tryd.prog W = .ok (.slice (some ⟨b1, o1, none⟩) l c) W) := Lib.hid (fun W hW => by have := HL1.out W hW; go_simp)
  have HG2 : Hid (∀ W, Below W2.heap.size W2 W → (Instr.loadAt 3 (.pointer (some ⟨b, off, none⟩))).run Tryd.prog W = .ok (.int .i64 (j : Int)) W) := Lib.hid (fun W hW => by have := HL2.out W hW; go_simp)
  have HG3 : Hid (∀ W, Below W2.heap.size W2 W → (Instr.loadAt 25 (.pointer (some ⟨b1, o1 + j * 4, none⟩))).run Tryd.prog W = .ok (.agg #[.int .i64 v.k, .int .i64 v.n, .int .i64 v.m, .slice A1 v.kids.length c1]) W) := Lib.hid (fun W hW => load_nd fun i y hy => (hW.cell (p := ⟨b1, _, none⟩) (Nat.lt_trans hb1 hz2)).trans ((HB2.out.cell (p := ⟨b1, _, none⟩) hb1).trans (hcl1 i y hy)))
  refine wp_region_below W2 (Below.refl _ _) (by kernel_rfl) (by kernel_rfl) ?_
  go_big_quiet_step ((intro _; rfl))
  refine wpQuiet_load' rfl 23 (.tmp 24) rfl _ rfl (.slice (some ⟨b1, o1, none⟩) l c) HG1.out ?_
  go_simp
  iterate 2 go_big_quiet_step ((intro _; rfl))
  refine wpQuiet_load' rfl 3 (.tmp 27) rfl _ rfl (.int .i64 (j : Int)) HG2.out ?_
  go_simp
  go_big_quiet_step ((intro _; rfl))
  refine wpQuiet_load' rfl 25 (.tmp 29) rfl _ rfl (.agg #[.int .i64 v.k, .int .i64 v.n, .int .i64 v.m, .slice A1 v.kids.length c1]) HG3.out ?_
  go_simp
  iterate 2 go_big_quiet_step ((intro _; rfl))
  go_big_quiet_step ((intro hw'; exact (HIH.out d v S A1 P' c1 _ n _ HN.out ((HR1.out.later HI.out HB2.out).later (HI.out.more HB2.out.size) hw') ((HTL.out.keep (Keeps.below HI.out HB2.out)).keep (Keeps.below (HI.out.more HB2.out.size) hw')) ((HI.out.more HB2.out.size).more hw'.size) hpc1 hsv hpl).mono fun e w'' ⟨he, hb⟩ => ⟨he, bt hw' hb⟩))
  go_big_quiet_step ((intro _; rfl))
  refine wpQuiet_nil ?_
  intro w6 hb6
  have HB6 := Lib.hid hb6
  clear hb6
  have HBW : Hid (Below w.heap.size w w6) := Lib.hid (bt HB2.out HB6.out)
  rcases hq : idx p v with _ | m
  · have HRX := Lib.hid (HIN.out hq)
    have hm1 : idxI none = -1 := rfl
    clear hq
    go_wp2_with fail
    go_ret
    exact ⟨ret_i (by rw [HRX.out]; rfl), HBW.out⟩
  · have HRX := Lib.hid (HIS.out m hq)
    have hml := idx_lt p v m hq
    obtain ⟨q, hq2⟩ : ∃ q : Int, q = idxI (some m) := ⟨_, rfl⟩
    have hqm : q = (m : Int) := hq2
    rw [← hq2]
    subst hqm
    have hlow : decide ((m : Int) < 0) = false := by simp
    clear hq hq2
    have hm2 : m ≤ 1000000 := by omega
    have hjr : In S w6.heap.size := HI.out.more HBW.out.size
    have HIR := Lib.hid hjr
    clear hml hjr
    go_wp2_with fail
    go_loopw [6, 7] (fun s i wr => ∃ r : Nat, r ≤ j ∧ i = .int .i64 r ∧ s = .int .i64 ((1 + m + sizes t.kids r : Nat) : Int) ∧ Hid (Below w6.heap.size w6 wr)) (fun _ i _ => j - (intOf i).toNat)
    case atStart => exact ⟨0, Nat.zero_le _, rfl, rfl, Below.refl _ _⟩
    case round =>
      obtain ⟨r, hrj, rfl, rfl, HB⟩ := hrel
      have hW : Below W2.heap.size W2 wr := bt HB6.out HB.out
      have hcp := HL2.out wr hW
      have hc3 := HL1.out wr hW
      have hle := HLE.out r
      have hse := HSE.out
      obtain ⟨Z, hZ⟩ : ∃ Z, Z = 1 + m + sizes t.kids r := ⟨_, rfl⟩
      have hZ2 : Z ≤ 3000000 := by omega
      rw [← hZ]
      by_cases hlt : r < j
      · obtain ⟨u, hu⟩ : ∃ u, t.kids[r]? = some u := ⟨_, List.getElem?_eq_getElem (by rw [← HL.out]; omega)⟩
        have hrr := HT.out.later HI.out (bt HBW.out HB.out)
        obtain ⟨b2, o2, A2, c2, hA2, hb2, hcells, hru⟩ := hrr.kid hu
        obtain ⟨rfl, rfl⟩ : b1 = b2 ∧ o1 = o2 := by injection hA2 with h; injection h with h1 h2; exact ⟨h1, h2⟩
        have hnx := sizes_next hu
        have hsu := size_kid hu
        obtain ⟨z, hz⟩ : ∃ z, z = size u := ⟨_, rfl⟩
        have hz3 : z ≤ 1000000 := by omega
        have HZ := Lib.hid hz.symm
        have HNX : Hid (1 + m + sizes t.kids (r + 1) = Z + z) := Lib.hid (by rw [hZ, hz, hnx]; omega)
        have HR := Lib.hid hru
        have HCL := Lib.hid hcells
        have HIW : Hid (In S wr.heap.size) := Lib.hid (HIR.out.more HB.out.size)
        clear hrr hcells hru hu hnx hsu hse hle hZ hz hA2 hb2 hW
        go_wp2_with (first
          | (refine wpList_load_mid rfl 25 (.tmp 49) rfl b1 (o1 + r * 4) rfl [.int .i64 u.k, .int .i64 u.n, .int .i64 u.m, .slice A2 u.kids.length c2] _ HCL.out Tryd.underlying25 rfl (by rw [size_node]; rfl) ?_)
          | (go_at_call 16; refine (rsize_is d u S A2 c2 _ HR.out HIW.out (by rw [HZ.out]; exact hz3)).mono ?_; rintro e w' ⟨rfl, hbw⟩; rw [HZ.out]))
        go_roundw
        case rel => exact ⟨r + 1, by omega, by go_num, by rw [HNX.out]; go_num, bt HB.out hbw⟩
        case measure => simp [intOf]; omega
      · have hrj2 : r = j := by omega
        have HF : Hid (Z = 1 + m + sizes t.kids j) := Lib.hid (by rw [hZ, hrj2])
        clear hZ hrj2 hse hle hW
        go_wp2_with fail
        go_ret
        exact ⟨ret_i (by rw [HRX.out, HF.out]; rfl), bt HBW.out HB.out⟩
theorem rindex_is : ∀ p, IdxC p
  | [] => idx_nil
  | i :: p => by
    intro d t S A P c pc n w hn ht hp hin hpc hst hpl
    cases d with
    | zero => exact ht.elim
    | succ d =>
      obtain ⟨n', rfl⟩ : ∃ n', n = n' + 1 := ⟨p.length, by rw [hn]; rfl⟩
      have hn' : n' = p.length := by simpa using hn
      by_cases hi : i < 0 ∨ (t.kids.length : Int) ≤ i
      · exact idx_none i p (d + 1) t S A P c pc n' w ht hp hin hst (by omega) hi
      · obtain ⟨j, rfl⟩ := Int.eq_ofNat_of_zero_le (show 0 ≤ i by omega)
        obtain ⟨v, hv⟩ : ∃ v, t.kids[j]? = some v := ⟨_, List.getElem?_eq_getElem (by omega)⟩
        exact idx_some j p (rindex_is p) d t v S A P c pc n' w hn' ht hp hin hpc hst (by omega) hv
end Go.Proofs.YtojicjdlopbeiaaDoor

/-
  The program's Index.
-/
namespace Go.Proofs.YtojicjdlopbeiaaDoor.TR
theorem idx_snoc (q : List Int) (j : Nat) : ∀ (t u k : T) (n : Nat), at? q t = some u → idx q t = some n → u.kids[j]? = some k → idx (q ++ [(j : Int)]) t = some (n + 1 + sizes u.kids j) := by
  induction q with
  | nil =>
    intro t u k n h hn hk
    simp only [at?, Option.some.injEq] at h
    simp only [idx, Option.some.injEq] at hn
    subst h
    subst hn
    simp only [List.nil_append, idx]
    rw [if_neg (by omega)]
    simp only [Int.toNat_natCast, hk]
  | cons i q ih =>
    intro t u k n h hn hk
    simp only [List.cons_append, at?, idx] at h hn ⊢
    split at h
    · cases h
    · rename_i hi
      rw [if_neg hi] at hn ⊢
      cases hv : t.kids[i.toNat]? with
      | none => simp [hv] at h
      | some v =>
        simp only [hv] at h hn ⊢
        cases hm : idx q v with
        | none => simp [hm] at hn
        | some m =>
          simp only [hm, Option.some.injEq] at hn
          rw [ih v u k m h hm hk]
          simp only [Option.some.injEq]
          omega
theorem idx_out (q r : List Int) (i : Int) : ∀ (t u : T), at? q t = some u → (i < 0 ∨ (u.kids.length : Int) ≤ i) → idx (q ++ i :: r) t = none := by
  induction q with
  | nil =>
    intro t u h hi
    simp only [at?, Option.some.injEq] at h
    subst h
    simp only [List.nil_append, idx]
    rcases hi with hi | hi
    · rw [if_pos hi]
    · by_cases h0 : i < 0
      · rw [if_pos h0]
      · rw [if_neg h0, List.getElem?_eq_none (by omega)]
  | cons i' q ih =>
    intro t u h hi
    simp only [List.cons_append, at?, idx] at h ⊢
    split at h
    · cases h
    · rename_i hi'
      rw [if_neg hi']
      cases hv : t.kids[i'.toNat]? with
      | none => rfl
      | some v =>
        simp only [hv] at h ⊢
        rw [ih v u h hi]
end Go.Proofs.YtojicjdlopbeiaaDoor.TR
namespace Go.Proofs.YtojicjdlopbeiaaDoor
open Go.RowKit WM TR

theorem at_size' : ∀ (p : List Int) (t u : T), at? p t = some u → size u ≤ size t
  | [], t, u, h => by simp only [at?, Option.some.injEq] at h; rw [h]; exact Nat.le_refl _
  | i :: p, t, u, h => by
    simp only [at?] at h
    split at h
    · cases h
    · cases hk : t.kids[i.toNat]? with
      | none => rw [hk] at h; cases h
      | some v =>
        rw [hk] at h
        have := at_size' p v u h
        have := size_kid hk
        omega
theorem sizes_mono {l : List T} {i j : Nat} (h : i ≤ j) : sizes l i ≤ sizes l j := by
  induction h with
  | refl => exact Nat.le_refl _
  | @step m _ ih =>
    refine Nat.le_trans ih ?_
    cases hu : l[m]? with
    | none => unfold sizes; rw [List.take_add_one, hu]; simp
    | some u => rw [sizes_next hu]; omega

set_option maxRecDepth 100000 in
set_option maxHeartbeats 4000000 in
theorem tindex_is (d : Nat) (t : T) (S S' : Nat → Prop) (A : Option Addr) (c : Nat) (w : World) (p : List Int) (P : Option Addr) (pc : Nat) (ht : Rep w S d t (nd t A c)) (hp : Rd w S' 1 P p.length (vi p)) (hin : In S w.heap.size) (hin' : In S' w.heap.size) (hst : size t ≤ 1000000) (hpc : p.length ≤ pc) (hpl : p.length ≤ 9223372036854775807) :
    Calls Tryd.prog 30 #[.agg #[.int .i64 t.k, .int .i64 t.n, .int .i64 t.m, .slice A t.kids.length c], .slice P p.length pc] w fun e w' => e = .returned (.int .i64 (idxI (idx p t))) ∧ Below w.heap.size w w' := by
  obtain ⟨n, hn⟩ : ∃ n, n = p.length := ⟨_, rfl⟩
  have HT := Lib.hid ht
  have HP := Lib.hid hp
  have HI := Lib.hid hin
  have HI' := Lib.hid hin'
  have HN := Lib.hid hn
  have HST := Lib.hid hst
  rw [← hn] at hpc hpl ⊢
  clear ht hp hin hin' hn hst
  go_enter Tryd.func30, Tryd.ntmps30
  go_wp2_with fail
  go_loopw [5, 12] (fun x i wr => ∃ (k : Nat) (u : T) (A' : Option Addr) (c' D Z : Nat), k ≤ n ∧ x = .int .i64 Z ∧ i = .int .i64 k ∧ Hid (at? (p.take k) t = some u) ∧ Hid (idx (p.take k) t = some Z) ∧ Hid (Blk wr w.heap.size 25 #[.int .i64 u.k, .int .i64 u.n, .int .i64 u.m, .slice A' u.kids.length c']) ∧ Hid (Rep wr S D u (nd u A' c')) ∧ Hid (Below w.heap.size w wr)) (fun _ i _ => n - (intOf i).toNat)
  case atStart => exact ⟨0, t, A, c, d, 0, Nat.zero_le _, rfl, rfl, by rw [List.take_zero]; exact Lib.hid rfl, by rw [List.take_zero]; exact Lib.hid rfl, Lib.hid (Blk.new w _ _), Lib.hid (HT.out.later HI.out (below_new _ _)), Lib.hid (below_new _ _)⟩
  case round =>
    obtain ⟨k, u, A', c', D, Z, hk, rfl, rfl, HAT, HID, HB, HR, HW⟩ := hrel
    by_cases hlt : k < n
    · obtain ⟨i, hi⟩ : ∃ i, p[k]? = some i := ⟨_, List.getElem?_eq_getElem (by rw [← HN.out]; exact hlt)⟩
      obtain ⟨bp, op, hP, hbp, hcell⟩ := HP.out.lit (by rw [← HN.out]; omega)
      subst hP
      have hci : wr.cell? ⟨bp, op + k, none⟩ = some (.int .i64 i) := (HW.out.cell (p := ⟨bp, op + k, none⟩) (HI'.out bp hbp)).trans (hcell k _ (by simp [vi, hi]))
      have hpk := split_at hi
      have hij : (0 : Int) ≤ k ∧ (k : Int) < n := ⟨by omega, by omega⟩
      have hZ : Z < 1000000 := by
        have h1 := idx_lt _ _ _ HID.out
        have := HST.out
        omega
      obtain ⟨len, hlen⟩ : ∃ len, len = u.kids.length := ⟨_, rfl⟩
      have hc3 : wr.cell? ⟨w.heap.size, 3, none⟩ = some (.slice A' len c') := by rw [hlen]; exact HB.out.cell 3
      have HLEN := Lib.hid hlen
      have HPK := Lib.hid hpk
      have HII := Lib.hid hi
      clear hpk hlen hi hcell hbp
      by_cases hneg : i < 0
      · have hnone : idx p t = none := by rw [HPK.out]; exact idx_out _ _ _ _ _ HAT.out (.inl hneg)
        have HNO := Lib.hid hnone
        have hd : decide (i < 0) = true := by simpa using hneg
        clear hnone
        go_wp2_with fail
        go_ret
        exact ⟨ret_i (by rw [HNO.out]; rfl), HW.out⟩
      · by_cases hge : (len : Int) ≤ i
        · have hnone : idx p t = none := by rw [HPK.out]; exact idx_out _ _ _ _ _ HAT.out (.inr (by rw [← HLEN.out]; exact hge))
          have HNO := Lib.hid hnone
          have hd : decide (i < 0) = false := by simpa using hneg
          have hd2 : decide ((len : Int) ≤ i) = true := by simpa using hge
          clear hnone
          go_wp2_with fail
          go_ret
          exact ⟨ret_i (by rw [HNO.out]; rfl), HW.out⟩
        · obtain ⟨j, rfl⟩ := Int.eq_ofNat_of_zero_le (show 0 ≤ i by omega)
          have hjl : j < len := by omega
          have hl6 : len ≤ 1000000 := by
            have h1 := at_size' _ _ _ HAT.out
            have h2 := kids_lt u
            have := HST.out
            have := HLEN.out
            omega
          obtain ⟨k2, hk2⟩ : ∃ k2, u.kids[j]? = some k2 := ⟨_, List.getElem?_eq_getElem (by rw [← HLEN.out]; exact hjl)⟩
          obtain ⟨D2, hD⟩ : ∃ D2, D = D2 + 1 := by
            cases D with
            | zero => exact HR.out.elim
            | succ D2 => exact ⟨D2, rfl⟩
          subst hD
          have hcap := HR.out.cap
          rw [← HLEN.out] at hcap
          obtain ⟨g, off, A2, c2, hA, hg, hcl2, hr2⟩ := HR.out.kid hk2
          subst hA
          have hd : decide ((j : Int) < 0) = false := by simp
          have hd2 : decide ((len : Int) ≤ j) = false := by simp; omega
          have hjj : (0 : Int) ≤ j ∧ (j : Int) < len := ⟨by omega, by omega⟩
          have hjc : (0 : Int) ≤ j ∧ (j : Int) ≤ c' := ⟨by omega, by omega⟩
          have HCL2 := Lib.hid hcl2
          have HR2 := Lib.hid hr2
          have HIS := Lib.hid (idx_snoc (p.take k) j t u k2 Z HAT.out HID.out hk2)
          have HK2 := Lib.hid hk2
          have HGG := Lib.hid hg
          have hZ2 : Z + 1 + sizes u.kids j ≤ 1000000 := by
            have h1 := idx_lt _ _ _ HIS.out
            have := HST.out
            omega
          have HZ2 := Lib.hid hZ2
          clear hcl2 hr2 hk2 hg hZ2
          go_wp2_with fail
          obtain ⟨W4, hW4⟩ : ∃ W4, W4 = wr := ⟨_, rfl⟩
          have HW4 : Hid (W4 = wr) := Lib.hid hW4
          have HC2 : Hid (∀ i y, (nd k2 A2 c2)[i]? = some y → W4.cell? ⟨g, off + j * 4 + i, none⟩ = some y) := by rw [hW4]; exact HCL2
          have HB4 : Hid (Blk W4 w.heap.size 25 #[.int .i64 u.k, .int .i64 u.n, .int .i64 u.m, .slice (some ⟨g, off, none⟩) u.kids.length c']) := by rw [hW4]; exact HB
          have HR4 : Hid (Rep W4 S (D2 + 1) u (nd u (some ⟨g, off, none⟩) c')) := by rw [hW4]; exact HR
          have HRK : Hid (Rep W4 S D2 k2 (nd k2 A2 c2)) := by rw [hW4]; exact HR2
          have HWW : Hid (Below w.heap.size w W4) := by rw [hW4]; exact HW
          clear hW4 HCL2 HB HR HR2 HW hc3 hci
          go_loopw [5, 32] (fun x i wr => ∃ m : Nat, m ≤ j ∧ x = .int .i64 ((Z + 1 + sizes u.kids m : Nat) : Int) ∧ i = .int .i64 m ∧ Hid (Below W4.heap.size W4 wr)) (fun _ i _ => j - (intOf i).toNat)
          case atStart => exact ⟨0, Nat.zero_le _, by simp [sizes_zero], rfl, by rw [HW4.out]; exact Lib.hid (Below.refl _ _)⟩
          case round =>
            obtain ⟨m, hm, rfl, rfl, HBW⟩ := hrel
            by_cases hlt2 : m < j
            · obtain ⟨v, hv⟩ : ∃ v, u.kids[m]? = some v := ⟨_, List.getElem?_eq_getElem (by rw [← HLEN.out]; omega)⟩
              have hinW : In S W4.heap.size := HI.out.more HWW.out.size
              obtain ⟨g', off', A3, c3, hA3, _, hcl3, hr3⟩ := (HR4.out.later hinW HBW.out).kid hv
              have e1 : g' = g := by have := Option.some.inj hA3; exact (congrArg Addr.block this).symm
              have e2 : off' = off := by have := Option.some.inj hA3; exact (congrArg Addr.off this).symm
              subst e1
              subst e2
              have HCL3 := Lib.hid hcl3
              have hbx := below_new wr (.cells #[.int .i64 v.k, .int .i64 v.n, .int .i64 v.m, .slice A3 v.kids.length c3] 25)
              have HC6 : Hid (∀ i y, [Value.int .i64 v.k, .int .i64 v.n, .int .i64 v.m, .slice A3 v.kids.length c3][i]? = some y → (wr.alloc (.cells #[.int .i64 v.k, .int .i64 v.n, .int .i64 v.m, .slice A3 v.kids.length c3] 25)).cell? ⟨wr.heap.size, 0 + i, none⟩ = some y) := Lib.hid (fun i y hy => by
                rw [(Blk.new wr 25 #[.int .i64 v.k, .int .i64 v.n, .int .i64 v.m, .slice A3 v.kids.length c3]).cell (0 + i), Nat.zero_add]; simpa using hy)
              have hsv := size_kid hv
              have hsu : size u ≤ 1000000 := by
                have h1 := sizes_le u.kids u.kids.length
                have := HZ2.out
                have h2 := at_size' _ _ _ HAT.out
                have := HST.out
                omega
              have hinr := hinW.more HBW.out.size
              have HCA := Lib.hid (size_is D2 v S A3 c3 (wr.alloc (.cells #[.int .i64 v.k, .int .i64 v.n, .int .i64 v.m, .slice A3 v.kids.length c3] 25)) (hr3.keep (Keeps.below hinr hbx)) (hinr.more hbx.size) (by omega))
              have HBX := Lib.hid hbx
              have HSN := Lib.hid (sizes_next hv)
              have hsz : Z + 1 + sizes u.kids m + size v ≤ 1000000 := by
                have h1 := sizes_next hv
                have h2 : sizes u.kids (m + 1) ≤ sizes u.kids j := sizes_mono (by omega)
                have := HZ2.out
                omega
              obtain ⟨Y, hY⟩ : ∃ Y, Y = Z + 1 + sizes u.kids m := ⟨_, rfl⟩
              obtain ⟨s, hs⟩ : ∃ s, s = size v := ⟨_, rfl⟩
              have HY := Lib.hid hY
              have HS := Lib.hid hs
              rw [← hY, ← hs] at hsz
              rw [← hY]
              have hij2 : (0 : Int) ≤ m ∧ (m : Int) < j := ⟨by omega, by omega⟩
              clear hcl3 hr3 hbx hv hsv hsu hinr hinW hY hs hA3
              go_wp2_with (first
                | (refine wpList_load_mid rfl 25 (.tmp 34) rfl g' (off' + m * 4) rfl [.int .i64 v.k, .int .i64 v.n, .int .i64 v.m, .slice A3 v.kids.length c3] _ HCL3.out Tryd.underlying25 rfl (by rw [size_node]; rfl) ?_)
                | (refine wpList_store_new rfl 25 (.tmp 9) (.tmp 35) rfl wr _ _ rfl rfl (by rw [size_node]; rfl) rfl rfl ?_)
                | (refine wpList_load_mid rfl 25 (.tmp 9) rfl wr.heap.size 0 rfl [.int .i64 v.k, .int .i64 v.n, .int .i64 v.m, .slice A3 v.kids.length c3] _ HC6.out Tryd.underlying25 rfl (by rw [size_node]; rfl) ?_)
                | (go_at_call 15; refine HCA.out.mono ?_; rintro e w7 ⟨rfl, hb7⟩; rw [← HS.out]))
              go_roundw
              case rel => exact ⟨m + 1, by omega, by rw [HSN.out, ← HS.out, ← Nat.add_assoc, ← HY.out]; go_num, by go_num, Lib.hid (bt (bt HBW.out HBX.out) hb7)⟩
              case measure => simp [intOf]; omega
            · have hmj : m = j := by omega
              subst hmj
              have hX := HB4.out.below HBW.out HB4.out.lt
              rw [← HLEN.out] at hX
              have hx3 := hX.cell 3
              have HX := Lib.hid hX
              have hinW : In S W4.heap.size := HI.out.more HWW.out.size
              have hglt : g < W4.heap.size := hinW g HGG.out
              have HC3 : Hid (∀ i y, (nd k2 A2 c2)[i]? = some y → wr.cell? ⟨g, off + m * 4 + i, none⟩ = some y) := Lib.hid (fun i y hy => (HBW.out.cell (p := ⟨g, _, none⟩) hglt).trans (HC2.out i y hy))
              clear hX
              go_wp2_with (first
                | (refine wpList_load_mid rfl 25 (.tmp 44) rfl g (off + m * 4) rfl [.int .i64 k2.k, .int .i64 k2.n, .int .i64 k2.m, .slice A2 k2.kids.length c2] _ HC3.out Tryd.underlying25 rfl (by rw [size_node]; rfl) ?_)
                | (refine wpList_store_row rfl 25 (.tmp 2) (.tmp 45) rfl w.heap.size #[.int .i64 k2.k, .int .i64 k2.n, .int .i64 k2.m, .slice A2 k2.kids.length c2] rfl rfl 25 _ HX.out (by rw [size_node]; rfl) rfl (by simp [Value.oneCell']) ?_))
              go_roundw
              case rel =>
                refine ⟨k + 1, k2, A2, c2, D2, Z + 1 + sizes u.kids m, by omega, by go_num, by go_num, ?_, ?_, Lib.hid (HX.out.setRow _), ?_, ?_⟩
                · refine Lib.hid ?_
                  rw [List.take_add_one, HII.out, Option.toList_some, at_snoc _ m t u HAT.out, HK2.out]
                · refine Lib.hid ?_
                  rw [List.take_add_one, HII.out]
                  exact HIS.out
                · refine Lib.hid ?_
                  refine (HRK.out.later hinW HBW.out).keep fun b hb => setRow_other _ _ _ b ?_
                  have := HI.out b hb
                  omega
                · exact Lib.hid (below_setRow (HWW.out.trans (HBW.out.mono HWW.out.size)) (Nat.le_refl _) _)
              case measure => simp [intOf]; omega
    · have hkn : k = n := by omega
      have HE : Hid (idx p t = some Z) := Lib.hid (by
        have h := HID.out
        rw [hkn, HN.out, List.take_length] at h
        exact h)
      clear hkn
      go_wp2_with fail
      go_ret
      exact ⟨ret_i (by rw [HE.out]; rfl), HW.out⟩
end Go.Proofs.YtojicjdlopbeiaaDoor

/-
  Places and replacing: the mathematics of the law.
-/
namespace Go.Proofs.YtojicjdlopbeiaaDoor.TR
theorem rows_get (l : List T) (n : Nat) (q : List Int) : ∀ j, j ≤ l.length → (rows l j)[n]? = some q → ∃ (i : Nat) (u : T) (p : List Int) (m : Nat), i < j ∧ l[i]? = some u ∧ q = (i : Int) :: p ∧ (paths u)[m]? = some p ∧ n = sizes l i + m
  | 0, _, h => by simp [rows_zero] at h
  | j + 1, hj, h => by
    obtain ⟨u, hu⟩ : ∃ u, l[j]? = some u := ⟨_, List.getElem?_eq_getElem (by omega)⟩
    have hl : (rows l j).length = sizes l j := rows_length (fun u _ => paths_length u) j (by omega)
    rw [rows_next hu] at h
    by_cases hn : n < (rows l j).length
    · rw [List.getElem?_append_left hn] at h
      obtain ⟨i, u', p, m, hi, hrest⟩ := rows_get l n q j (by omega) h
      exact ⟨i, u', p, m, by omega, hrest⟩
    · rw [List.getElem?_append_right (by omega), List.getElem?_map] at h
      cases hp : (paths u)[n - (rows l j).length]? with
      | none => simp [hp] at h
      | some p =>
        simp only [hp, Option.map_some, Option.some.injEq] at h
        exact ⟨j, u, p, _, by omega, hu, h.symm, hp, by omega⟩
theorem idx_paths (t : T) : ∀ (n : Nat) (q : List Int), (paths t)[n]? = some q → idx q t = some n := by
  induction h : SizeOf.sizeOf t using Nat.strongRecOn generalizing t with
  | ind s ih =>
    subst h
    intro n q hq
    rw [paths_rows] at hq
    cases n with
    | zero =>
      simp only [List.getElem?_cons_zero, Option.some.injEq] at hq
      subst hq
      rfl
    | succ n =>
      rw [List.getElem?_cons_succ] at hq
      obtain ⟨i, u, p, m, hi, hu, rfl, hp, hn⟩ := rows_get _ n q _ (Nat.le_refl _) hq
      have := ih _ (kid_lt (List.mem_of_getElem? hu)) u rfl m p hp
      simp only [idx]
      rw [if_neg (by omega)]
      simp only [Int.toNat_natCast, hu, this, Option.some.injEq]
      omega
theorem at_cons {i : Int} {p : List Int} {t v : T} : at? (i :: p) t = some v ↔ ∃ u, 0 ≤ i ∧ t.kids[i.toNat]? = some u ∧ at? p u = some v := by
  simp only [at?]
  by_cases hi : i < 0
  · rw [if_pos hi]
    constructor
    · intro h; cases h
    · rintro ⟨u, h, -⟩; omega
  · rw [if_neg hi]
    cases hk : t.kids[i.toNat]? with
    | none => simp
    | some u =>
      constructor
      · intro h; exact ⟨u, by omega, rfl, h⟩
      · rintro ⟨u', -, h, h2⟩; cases h; exact h2
theorem set_cons {i : Int} {p : List Int} {t x z : T} : set? (i :: p) t x = some z ↔ ∃ u v, 0 ≤ i ∧ t.kids[i.toNat]? = some u ∧ set? p u x = some v ∧ z = ⟨t.k, t.n, t.m, t.kids.set i.toNat v⟩ := by
  simp only [set?]
  by_cases hi : i < 0
  · rw [if_pos hi]
    constructor
    · intro h; cases h
    · rintro ⟨u, v, h, -⟩; omega
  · rw [if_neg hi]
    cases hk : t.kids[i.toNat]? with
    | none => simp
    | some u =>
      cases hs : set? p u x with
      | none => simp [hs]
      | some v =>
        constructor
        · intro h
          simp only [hs, Option.some.injEq] at h
          exact ⟨u, v, by omega, rfl, hs, h.symm⟩
        · rintro ⟨u', v', -, h, h2, h3⟩
          cases h
          rw [hs] at h2
          cases h2
          simp only [hs, h3]
theorem at_of_idx : ∀ (p : List Int) (t : T) (n : Nat), idx p t = some n → ∃ v, at? p t = some v
  | [], t, _, _ => ⟨t, rfl⟩
  | i :: p, t, n, h => by
    simp only [idx] at h
    by_cases hi : i < 0
    · rw [if_pos hi] at h; cases h
    · rw [if_neg hi] at h
      cases hk : t.kids[i.toNat]? with
      | none => simp [hk] at h
      | some u =>
        simp only [hk] at h
        cases hm : idx p u with
        | none => simp [hm] at h
        | some m =>
          obtain ⟨v, hv⟩ := at_of_idx p u m hm
          exact ⟨v, at_cons.2 ⟨u, by omega, hk, hv⟩⟩
theorem set_of_at (x : T) : ∀ (p : List Int) (t v : T), at? p t = some v → ∃ z, set? p t x = some z
  | [], _, _, _ => ⟨x, rfl⟩
  | i :: p, t, v, h => by
    obtain ⟨u, hi, hu, hv⟩ := at_cons.1 h
    obtain ⟨z, hz⟩ := set_of_at x p u v hv
    exact ⟨_, set_cons.2 ⟨u, z, hi, hu, hz, rfl⟩⟩
theorem at_set (x : T) : ∀ (p : List Int) (t z : T), set? p t x = some z → at? p z = some x
  | [], t, z, h => by simp only [set?, Option.some.injEq] at h; subst h; rfl
  | i :: p, t, z, h => by
    obtain ⟨u, v, hi, hu, hv, rfl⟩ := set_cons.1 h
    have hl := (List.getElem?_eq_some_iff.1 hu).1
    exact at_cons.2 ⟨v, hi, by simp [hl], at_set x p u v hv⟩
theorem set_undo (x old : T) : ∀ (p : List Int) (t z : T), at? p t = some old → set? p t x = some z → set? p z old = some t
  | [], t, z, h, _ => by simp only [at?, Option.some.injEq] at h; subst h; rfl
  | i :: p, t, z, h, hs => by
    obtain ⟨u, hi, hu, hv⟩ := at_cons.1 h
    obtain ⟨u', v, _, hu', hv', rfl⟩ := set_cons.1 hs
    rw [hu] at hu'
    cases hu'
    have hl := (List.getElem?_eq_some_iff.1 hu).1
    refine set_cons.2 ⟨v, u, hi, by simp [hl], set_undo x old p u v hv hv', ?_⟩
    obtain ⟨k, n, m, kids⟩ := t
    simp only [List.set_set, T.mk.injEq, true_and]
    apply List.ext_getElem? 
    intro j
    rw [List.getElem?_set]
    by_cases hj : i.toNat = j
    · subst hj
      simp only at hu hl
      rw [if_pos rfl, if_pos hl, hu]
    · rw [if_neg hj]
theorem at_apart (x : T) : ∀ (p q : List Int) (t z : T), set? p t x = some z → ¬ p <+: q → ¬ q <+: p → at? q z = at? q t
  | [], q, _, _, _, h, _ => absurd List.nil_prefix h
  | _ :: _, [], _, _, _, _, h => absurd List.nil_prefix h
  | i :: p, j :: q, t, z, hs, h1, h2 => by
    obtain ⟨u, v, hi, hu, hv, rfl⟩ := set_cons.1 hs
    have hl := (List.getElem?_eq_some_iff.1 hu).1
    simp only [at?]
    by_cases hj : j < 0
    · rw [if_pos hj, if_pos hj]
    · rw [if_neg hj, if_neg hj]
      by_cases hij : i = j
      · subst hij
        have e : (t.kids.set i.toNat v)[i.toNat]? = some v := by simp [hl]
        rw [e, hu]
        simp only
        refine at_apart x p q u v hv (fun h => h1 ?_) (fun h => h2 ?_)
        · exact List.prefix_cons_inj i |>.2 h
        · exact List.prefix_cons_inj i |>.2 h
      · have e : (t.kids.set i.toNat v)[j.toNat]? = t.kids[j.toNat]? := List.getElem?_set_ne (by omega)
        rw [e]
theorem sum_set {l : List T} {i : Nat} {u : T} (v : T) (h : l[i]? = some u) : ((l.set i v).map size).sum + size u = (l.map size).sum + size v := by
  induction l generalizing i with
  | nil => simp at h
  | cons a l ih =>
    cases i with
    | zero =>
      simp only [List.getElem?_cons_zero, Option.some.injEq] at h
      subst h
      simp only [List.set_cons_zero, List.map_cons, List.sum_cons]
      omega
    | succ i =>
      rw [List.getElem?_cons_succ] at h
      have := ih h
      simp only [List.set_cons_succ, List.map_cons, List.sum_cons]
      omega
theorem set_size (x : T) : ∀ (p : List Int) (t z : T), set? p t x = some z → size z ≤ size t + size x
  | [], t, z, h => by simp only [set?, Option.some.injEq] at h; subst h; omega
  | i :: p, t, z, h => by
    obtain ⟨u, v, hi, hu, hv, rfl⟩ := set_cons.1 h
    have h1 := set_size x p u v hv
    have h2 := sum_set v hu
    rw [size_eq, size_eq t]
    simp only
    omega
/-- Does a list begin with another one? -/
def beg (l m : List Int) : Bool := decide (m.length ≤ l.length ∧ l.take m.length = m)
theorem beg_iff {l m : List Int} : beg l m = true ↔ m <+: l := by
  simp only [beg, decide_eq_true_eq]
  constructor
  · rintro ⟨_, h⟩
    rw [← h]
    exact List.take_prefix _ _
  · intro h
    exact ⟨h.length_le, (List.prefix_iff_eq_take.1 h).symm⟩
end Go.Proofs.YtojicjdlopbeiaaDoor.TR
