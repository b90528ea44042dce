/-
  A SCOPE IN MEMORY: the types of the variables, the functions.
-/
import Derived.Test.YtpbbafikjpjejaaDoorG11
import Derived.Test.YtpbbafikjpjejaaDoorG06
import Derived.BigQuiet
import Derived.Deep.QuietTactic
import Derived.Deep.DeepCutAuto
import Derived.Deep.CutRange
import Derived.Deep.RegionHeld2
set_option linter.unusedVariables false
namespace Go.Proofs.YtpbbafikjpjejaaDoor
open Go.RowKit WM TR TY

theorem reps_at {w : World} {S : Nat → Prop} {d : Nat} {ts : List T} {xs : List Value} {A : Option Addr} (h : Rd w S 4 A ts.length xs) (hr : Reps w S d ts xs) {j : Nat} {u : T} (hu : ts[j]? = some u) :
    ∃ b off A' c', A = some ⟨b, off, none⟩ ∧ S b ∧ (∀ i v, (nd u A' c')[i]? = some v → w.cell? ⟨b, off + j * 4 + i, none⟩ = some v) ∧ Rep w S d u (nd u A' c') := by
  have h0 : inRange (0 : Int) := ⟨by omega, by omega⟩
  exact (Rep.mk (k := 0) (n := 0) (m := 0) (c := ts.length) h0 h0 h0 (Nat.le_refl _) h hr).kid hu
/-- Nodes that a slice holds. -/
def Nds (w : World) (S : Nat → Prop) (d : Nat) (ts : List T) (A : Option Addr) (c : Nat) : Prop := (∃ xs, Rd w S 4 A ts.length xs ∧ Reps w S d ts xs) ∧ ts.length ≤ c ∧ ts.length ≤ 1000
theorem Nds.keep {w w' : World} {S S' : Nat → Prop} {d : Nat} {ts : List T} {A : Option Addr} {c : Nat} (h : Nds w S d ts A c) (hk : Keeps S w w') (hS : ∀ b, S b → S' b) : Nds w' S' d ts A c := by
  obtain ⟨⟨xs, h1, h2⟩, h3⟩ := h
  exact ⟨⟨xs, (h1.keep hk).mono hS, (h2.keep hk).mono hS⟩, h3⟩
theorem Nds.next {w w' : World} {d : Nat} {ts : List T} {A : Option Addr} {c : Nat} (h : Nds w (Lt w.heap.size) d ts A c) (hb : Below w.heap.size w w') : Nds w' (Lt w'.heap.size) d ts A c :=
  h.keep (fun b hb' => hb.block b hb') fun b (hb' : b < w.heap.size) => Nat.lt_of_lt_of_le hb' hb.size
theorem Nds.at_ {w : World} {S : Nat → Prop} {d : Nat} {ts : List T} {A : Option Addr} {c : Nat} (h : Nds w S d ts A c) {j : Nat} {u : T} (hu : ts[j]? = some u) :
    ∃ b off A' c', A = some ⟨b, off, none⟩ ∧ S b ∧ (∀ i v, (nd u A' c')[i]? = some v → w.cell? ⟨b, off + j * 4 + i, none⟩ = some v) ∧ Rep w S d u (nd u A' c') := by
  obtain ⟨⟨xs, h1, h2⟩, _⟩ := h
  exact reps_at h1 h2 hu
/-- A scope. -/
structure ScR (w : World) (d : Nat) (s : Sc) (Av : Option Addr) (cv : Nat) (Af : Option Addr) (cf : Nat) : Prop where
  v : Nds w (Lt w.heap.size) d s.vars Av cv
  f : Nds w (Lt w.heap.size) d s.funs Af cf
theorem ScR.next {w w' : World} {d : Nat} {s : Sc} {Av : Option Addr} {cv : Nat} {Af : Option Addr} {cf : Nat} (h : ScR w d s Av cv Af cf) (hb : Below w.heap.size w w') : ScR w' d s Av cv Af cf := ⟨h.v.next hb, h.f.next hb⟩
theorem rep_next {w w' : World} {d : Nat} {t : T} {cs : List Value} (h : Rep w (Lt w.heap.size) d t cs) (hb : Below w.heap.size w w') : Rep w' (Lt w'.heap.size) d t cs :=
  (h.keep fun b hb' => hb.block b hb').mono fun b (hb' : b < w.heap.size) => Nat.lt_of_lt_of_le hb' hb.size
theorem tAt_get {l : List T} {n : Int} {j : Nat} {u : T} (hn : n = (j : Int)) (hu : l[j]? = some u) : tAt l n = u := by
  unfold tAt
  rw [hn, Int.toNat_natCast, List.getD_eq_getElem?_getD, hu]
  try rfl
set_option maxHeartbeats 1000000 in
theorem isScalar_is (k : Int) (w : World) : Calls Tryd.prog 79 #[.int .i64 k] w fun e w' => e = .returned (.bool (scal k)) ∧ w = w' := by
  have HR : Hid (scal k = (k == 0 || k == 1)) := Lib.hid rfl
  obtain ⟨r, hr⟩ : ∃ r, r = scal k := ⟨_, rfl⟩
  rw [← hr] at HR ⊢
  clear hr
  go_enter Tryd.func79, Tryd.ntmps79
  go_wp2_with fail
  all_goals
    go_ret
    exact ⟨ret_b (by rw [HR.out]; try simp [*]), rfl⟩
end Go.Proofs.YtpbbafikjpjejaaDoor

/-
  The law's node and example.
-/
namespace Go.Proofs.YtpbbafikjpjejaaDoor
open Go.RowKit WM TR TY

theorem nds_new {w : World} {d : Nat} {ts : List T} {xs : List Value} (h : Reps w (Lt w.heap.size) d ts xs) (hl : ts.length ≤ 1000) :
    Nds (w.alloc (.cells xs.toArray 25)) (Lt (w.alloc (.cells xs.toArray 25)).heap.size) d ts (some ⟨w.heap.size, 0, none⟩) ts.length := by
  have ho := own_lit (w := w) (base := w.heap.size) (e := 25) (size := 4) (xs := xs) (n := ts.length) (Nat.le_refl _) h.1 (len_le (by omega))
  have hb := below_new w (.cells xs.toArray 25)
  refine ⟨⟨xs, (Rd.of_own ho).mono fun b hb => hb.2, (h.keep fun b hb' => hb.block b hb').mono fun b (hb' : b < w.heap.size) => Nat.lt_of_lt_of_le hb' hb.size⟩, Nat.le_refl _, hl⟩
/-- Blocks below B, but one. -/
def NrY (r B : Nat) (b : Nat) : Prop := b < B ∧ b ≠ r
theorem nds_newN {r : Nat} {w : World} {d : Nat} {ts : List T} {xs : List Value} (h : Reps w (NrY r w.heap.size) d ts xs) (hr : r < w.heap.size) (hl : ts.length ≤ 1000) :
    Nds (w.alloc (.cells xs.toArray 25)) (NrY r (w.alloc (.cells xs.toArray 25)).heap.size) d ts (some ⟨w.heap.size, 0, none⟩) ts.length := by
  have ho := own_lit (w := w) (base := w.heap.size) (e := 25) (size := 4) (xs := xs) (n := ts.length) (Nat.le_refl _) h.1 (len_le (by omega))
  have hb := below_new w (.cells xs.toArray 25)
  refine ⟨⟨xs, (Rd.of_own ho).mono fun b hb => ⟨hb.2, by omega⟩, (h.keep fun b hb' => hb.block b hb'.1).mono fun b hb' => ⟨Nat.lt_of_lt_of_le hb'.1 hb.size, hb'.2⟩⟩, Nat.le_refl _, hl⟩
theorem rep_nextN {r : Nat} {w w' : World} {d : Nat} {t : T} {cs : List Value} (h : Rep w (NrY r w.heap.size) d t cs) (hb : Below w.heap.size w w') : Rep w' (NrY r w'.heap.size) d t cs :=
  (h.keep fun b hb' => hb.block b hb'.1).mono fun b hb' => ⟨Nat.lt_of_lt_of_le hb'.1 hb.size, hb'.2⟩
theorem Nds.rep {w : World} {S : Nat → Prop} {d : Nat} {ts : List T} {A : Option Addr} {c : Nat} (h : Nds w S d ts A c) {k n m : Int} (hk : inRange k) (hn : inRange n) (hm : inRange m) : Rep w S (d + 1) ⟨k, n, m, ts⟩ (nd ⟨k, n, m, ts⟩ A c) := by
  obtain ⟨⟨xs, h1, h2⟩, h3, _⟩ := h
  exact Rep.mk hk hn hm h3 h1 h2
set_option maxHeartbeats 4000000 in
theorem node_is (k n : Int) (A : Option Addr) (l c : Nat) (w : World) : Calls Tryd.prog 46 #[.int .i64 k, .int .i64 n, .slice A l c] w fun e w' => e = .returned (.agg #[.int .i64 k, .int .i64 n, .int .i64 0, .slice A l c]) ∧ Below w.heap.size w w' := by
  go_enter Tryd.func46, Tryd.ntmps46
  go_upto_region 1 with fail
  obtain ⟨W1, hW1⟩ : ∃ W, W = w.alloc (.cells #[.int .i64 0, .int .i64 0, .int .i64 0, .slice none 0 0] 25) := ⟨_, rfl⟩
  obtain ⟨z, hz⟩ : ∃ z, z = w.heap.size := ⟨_, rfl⟩
  have hb1 : Below w.heap.size w W1 := by rw [hW1]; exact below_new _ _
  have k1 : Blk W1 z 25 #[.int .i64 0, .int .i64 0, .int .i64 0, .slice none 0 0] := by rw [hW1, hz]; exact Blk.new _ _ _
  rw [← hW1, ← hz]
  obtain ⟨y0, y1, y2, y3⟩ : W1.cell? ⟨z, 0, none⟩ = some (.int .i64 0) ∧ W1.cell? ⟨z, 1, none⟩ = some (.int .i64 0) ∧ W1.cell? ⟨z, 2, none⟩ = some (.int .i64 0) ∧ W1.cell? ⟨z, 3, none⟩ = some (.slice none 0 0) := ⟨k1.cell 0, k1.cell 1, k1.cell 2, k1.cell 3⟩
  obtain ⟨f0, f1, f2, f3⟩ : W1.frozen? ⟨z, 0, none⟩ = false ∧ W1.frozen? ⟨z, 1, none⟩ = false ∧ W1.frozen? ⟨z, 2, none⟩ = false ∧ W1.frozen? ⟨z, 3, none⟩ = false := ⟨k1.frozen 0, k1.frozen 1, k1.frozen 2, k1.frozen 3⟩
  have HK := Lib.hid k1
  have HB := Lib.hid hb1
  have HZ := Lib.hid hz
  clear hW1 hz k1 hb1
  go_wp2_with fail
  have hzz := HZ.out
  obtain ⟨W5, hW5⟩ : ∃ W, W = (((W1.setCell ⟨z, 0, none⟩ (.int .i64 k)).setCell ⟨z, 1, none⟩ (.int .i64 n)).setCell ⟨z, 2, none⟩ (.int .i64 0)).setCell ⟨z, 3, none⟩ (.slice A l c) := ⟨_, rfl⟩
  rw [← hW5]
  have k5 : Blk W5 z 25 #[.int .i64 k, .int .i64 n, .int .i64 0, .slice A l c] := by
    rw [hW5]
    have h := (((HK.out.set_ 0 (.int .i64 k)).set_ 1 (.int .i64 n)).set_ 2 (.int .i64 0)).set_ 3 (.slice A l c)
    simpa using h
  have hb5 : Below w.heap.size w W5 := by
    rw [hW5]
    exact (((HB.out.setCell (by show w.heap.size ≤ z; omega) _).setCell (by show w.heap.size ≤ z; omega) _).setCell (by show w.heap.size ≤ z; omega) _).setCell (by show w.heap.size ≤ z; omega) _
  have r0 : W5.cell? ⟨z, 0, none⟩ = some (.int .i64 k) := k5.cell 0
  have r1 : W5.cell? ⟨z, 1, none⟩ = some (.int .i64 n) := k5.cell 1
  have r2 : W5.cell? ⟨z, 2, none⟩ = some (.int .i64 0) := k5.cell 2
  have r3 : W5.cell? ⟨z, 3, none⟩ = some (.slice A l c) := k5.cell 3
  refine bodyPost_ret (v := .agg #[.int .i64 k, .int .i64 n, .int .i64 0, .slice A l c]) (by simp [results, Tryd.results46, go_sem, r0, r1, r2, r3]) rfl ⟨rfl, hb5⟩
/-- The program of the examples with a statement. -/
def exB (x : T) : T := ⟨13, 0, 0, [x]⟩
def exF (x : T) : T := ⟨26, 1, 0, [⟨0, 0, 0, []⟩, ⟨2, 2, 0, []⟩, exB x]⟩
def exT (x : T) : T := ⟨27, 0, 0, [exF x]⟩
theorem in_sm {k : Int} (h0 : -100 ≤ k) (h1 : k ≤ 100) : inRange k := ⟨by omega, by omega⟩
set_option maxRecDepth 100000 in
set_option maxHeartbeats 8000000 in
theorem example_is (d : Nat) (x : T) (A : Option Addr) (c : Nat) (w : World) (hr : Rep w (Lt w.heap.size) (d + 1) x (nd x A c)) : Calls Tryd.prog 47 #[.agg #[.int .i64 x.k, .int .i64 x.n, .int .i64 x.m, .slice A x.kids.length c]] w fun e w' => ∃ A' c', e = .returned (.agg #[.int .i64 (exT x).k, .int .i64 (exT x).n, .int .i64 (exT x).m, .slice A' (exT x).kids.length c']) ∧ Rep w' (Lt w'.heap.size) (d + 4) (exT x) (nd (exT x) A' c') ∧ Below w.heap.size w w' := by
  obtain ⟨nk, hnk⟩ : ∃ z, z = x.kids.length := ⟨_, rfl⟩
  obtain ⟨k, hk⟩ : ∃ z, z = x.k := ⟨_, rfl⟩
  obtain ⟨n, hn⟩ : ∃ z, z = x.n := ⟨_, rfl⟩
  obtain ⟨m, hm⟩ : ∃ z, z = x.m := ⟨_, rfl⟩
  obtain ⟨z, hz⟩ : ∃ z, z = w.heap.size := ⟨_, rfl⟩
  obtain ⟨W1, hW1⟩ : ∃ W, W = (w.alloc (.cells #[.int .i64 k, .int .i64 n, .int .i64 m, .slice A nk c] 25)).alloc (.cells #[.int .i64 0, .int .i64 0, .int .i64 0, .slice none 0 0] 25) := ⟨_, rfl⟩
  have hb1 : Below w.heap.size w W1 := by rw [hW1]; exact ba (below_new _ _) _
  have k0 : Blk W1 z 25 #[.int .i64 k, .int .i64 n, .int .i64 m, .slice A nk c] := by rw [hW1, hz]; exact (Blk.new _ _ _).alloc _
  have k1 : Blk W1 (z + 1) 25 #[.int .i64 0, .int .i64 0, .int .i64 0, .slice none 0 0] := by rw [hW1]; exact Blk.new_at _ _ (by rw [size_alloc, hz]) rfl
  obtain ⟨y0, y1, y2, y3⟩ : W1.cell? ⟨z, 0, none⟩ = some (.int .i64 k) ∧ W1.cell? ⟨z, 1, none⟩ = some (.int .i64 n) ∧ W1.cell? ⟨z, 2, none⟩ = some (.int .i64 m) ∧ W1.cell? ⟨z, 3, none⟩ = some (.slice A nk c) := ⟨k0.cell 0, k0.cell 1, k0.cell 2, k0.cell 3⟩
  -- the row of the statement
  obtain ⟨V2, hV2⟩ : ∃ W, W = W1.alloc (.cells #[.int .i64 k, .int .i64 n, .int .i64 m, .slice A nk c] 25) := ⟨_, rfl⟩
  obtain ⟨ga, hga⟩ : ∃ z, z = W1.heap.size := ⟨_, rfl⟩
  have hbV : Below W1.heap.size W1 V2 := by rw [hV2]; exact below_new _ _
  have hrB : Rep V2 (NrY (z + 1) V2.heap.size) (d + 2) (exB x) (nd (exB x) (some ⟨ga, 0, none⟩) 1) := by
    have h := (nds_newN (r := z + 1) (Reps.one ((hr.keep fun b hb => hb1.block b hb).mono fun b (hb : b < w.heap.size) => ⟨Nat.lt_of_lt_of_le hb hb1.size, by omega⟩)) k1.lt (by simp)).rep (k := 13) (n := 0) (m := 0) (in_sm (by omega) (by omega)) (in_sm (by omega) (by omega)) (in_sm (by omega) (by omega))
    have e : (nd x A c).toArray = #[.int .i64 k, .int .i64 n, .int .i64 m, .slice A nk c] := by rw [hk, hn, hm, hnk]; rfl
    rw [e, ← hV2, ← hga] at h
    exact h
  have HRB := Lib.hid hrB
  have HW1 := Lib.hid hW1
  have HV2 := Lib.hid hV2
  have HGA := Lib.hid hga
  have HBV := Lib.hid hbV
  have HZ := Lib.hid hz
  have HB1 := Lib.hid hb1
  have HK1 := Lib.hid k1
  rw [← hnk, ← hk, ← hn, ← hm]
  clear hnk hk hn hm hz hW1 hb1 k0 k1 hV2 hga hbV hrB hr
  go_enter Tryd.func47, Tryd.ntmps47
  go_upto_region 1 with fail
  rw [← HW1.out]
  try rw [← HZ.out]
  go_upto_region 2 with (go_at_call 46; rw [← HV2.out, ← HGA.out]; refine (node_is _ _ _ _ _ _).mono ?_; rintro e w3 ⟨rfl, hb3⟩; have HB3 := Lib.hid hb3; clear hb3)
  clear y0 y1 y2 y3
  obtain ⟨V4, hV4⟩ : ∃ W, W = w3.alloc (.cells #[.int .i64 13, .int .i64 0, .int .i64 0, .slice (some ⟨ga, 0, none⟩) 1 1] 25) := ⟨_, rfl⟩
  obtain ⟨g3, hg3⟩ : ∃ z, z = w3.heap.size := ⟨_, rfl⟩
  rw [← hV4, ← hg3]
  have k3 : Blk V4 g3 25 #[.int .i64 13, .int .i64 0, .int .i64 0, .slice (some ⟨ga, 0, none⟩) 1 1] := by rw [hV4, hg3]; exact Blk.new _ _ _
  obtain ⟨y0, y1, y2, y3⟩ : V4.cell? ⟨g3, 0, none⟩ = some (.int .i64 13) ∧ V4.cell? ⟨g3, 1, none⟩ = some (.int .i64 0) ∧ V4.cell? ⟨g3, 2, none⟩ = some (.int .i64 0) ∧ V4.cell? ⟨g3, 3, none⟩ = some (.slice (some ⟨ga, 0, none⟩) 1 1) := ⟨k3.cell 0, k3.cell 1, k3.cell 2, k3.cell 3⟩
  have HB14 : Hid (Below W1.heap.size W1 V4) := Lib.hid (bt HBV.out (bt HB3.out (by rw [hV4]; exact below_new _ _)))
  have hrB4 : Rep V4 (NrY (z + 1) V4.heap.size) (d + 2) (exB x) (nd (exB x) (some ⟨ga, 0, none⟩) 1) := rep_nextN HRB.out (bt HB3.out (by rw [hV4]; exact below_new _ _))
  obtain ⟨V5, hV5⟩ : ∃ W, W = V4.alloc (.cells #[.int .i64 0, .int .i64 0, .int .i64 0, .slice none 0 0, .int .i64 2, .int .i64 2, .int .i64 0, .slice none 0 0, .int .i64 13, .int .i64 0, .int .i64 0, .slice (some ⟨ga, 0, none⟩) 1 1] 25) := ⟨_, rfl⟩
  obtain ⟨gb, hgb⟩ : ∃ z, z = V4.heap.size := ⟨_, rfl⟩
  have hrF : Rep V5 (NrY (z + 1) V5.heap.size) (d + 3) (exF x) (nd (exF x) (some ⟨gb, 0, none⟩) 3) := by
    have hl0 : Rep V4 (NrY (z + 1) V4.heap.size) (d + 2) ⟨0, 0, 0, []⟩ (nd ⟨0, 0, 0, []⟩ none 0) := Rep.leaf (in_sm (by omega) (by omega)) (in_sm (by omega) (by omega)) (in_sm (by omega) (by omega)) (d + 1) 0
    have hl2 : Rep V4 (NrY (z + 1) V4.heap.size) (d + 2) ⟨2, 2, 0, []⟩ (nd ⟨2, 2, 0, []⟩ none 0) := Rep.leaf (in_sm (by omega) (by omega)) (in_sm (by omega) (by omega)) (in_sm (by omega) (by omega)) (d + 1) 0
    have h := (nds_newN (((Reps.one hl0).snoc hl2).snoc hrB4) (HK1.out.below HB14.out HK1.out.lt).lt (by simp)).rep (k := 26) (n := 1) (m := 0) (in_sm (by omega) (by omega)) (in_sm (by omega) (by omega)) (in_sm (by omega) (by omega))
    have e : (((nd ⟨0, 0, 0, []⟩ none 0) ++ (nd ⟨2, 2, 0, []⟩ none 0)) ++ (nd (exB x) (some ⟨ga, 0, none⟩) 1)).toArray = #[.int .i64 0, .int .i64 0, .int .i64 0, .slice none 0 0, .int .i64 2, .int .i64 2, .int .i64 0, .slice none 0 0, .int .i64 13, .int .i64 0, .int .i64 0, .slice (some ⟨ga, 0, none⟩) 1 1] := rfl
    rw [e, ← hV5, ← hgb] at h
    exact h
  have HRF := Lib.hid hrF
  have HV5 := Lib.hid hV5
  have HGB := Lib.hid hgb
  have HB45 : Hid (Below V4.heap.size V4 V5) := Lib.hid (by rw [hV5]; exact below_new _ _)
  clear hV4 hg3 k3 hrB4 hV5 hgb hrF
  go_upto_region 3 with (go_at_call 46; rw [← HV5.out, ← HGB.out]; refine (node_is _ _ _ _ _ _).mono ?_; rintro e w6 ⟨rfl, hb6⟩; have HB6 := Lib.hid hb6; clear hb6)
  clear y0 y1 y2 y3
  obtain ⟨V7, hV7⟩ : ∃ W, W = w6.alloc (.cells #[.int .i64 26, .int .i64 1, .int .i64 0, .slice (some ⟨gb, 0, none⟩) 3 3] 25) := ⟨_, rfl⟩
  obtain ⟨g6, hg6⟩ : ∃ z, z = w6.heap.size := ⟨_, rfl⟩
  rw [← hV7, ← hg6]
  have k6 : Blk V7 g6 25 #[.int .i64 26, .int .i64 1, .int .i64 0, .slice (some ⟨gb, 0, none⟩) 3 3] := by rw [hV7, hg6]; exact Blk.new _ _ _
  obtain ⟨y0, y1, y2, y3⟩ : V7.cell? ⟨g6, 0, none⟩ = some (.int .i64 26) ∧ V7.cell? ⟨g6, 1, none⟩ = some (.int .i64 1) ∧ V7.cell? ⟨g6, 2, none⟩ = some (.int .i64 0) ∧ V7.cell? ⟨g6, 3, none⟩ = some (.slice (some ⟨gb, 0, none⟩) 3 3) := ⟨k6.cell 0, k6.cell 1, k6.cell 2, k6.cell 3⟩
  have hb57 : Below V5.heap.size V5 V7 := bt HB6.out (by rw [hV7]; exact below_new _ _)
  have HB17 : Hid (Below W1.heap.size W1 V7) := Lib.hid (bt HB14.out (bt HB45.out hb57))
  have hrF7 := rep_nextN HRF.out hb57
  obtain ⟨V8, hV8⟩ : ∃ W, W = V7.alloc (.cells #[.int .i64 26, .int .i64 1, .int .i64 0, .slice (some ⟨gb, 0, none⟩) 3 3] 25) := ⟨_, rfl⟩
  obtain ⟨gc, hgc⟩ : ∃ z, z = V7.heap.size := ⟨_, rfl⟩
  have hrT : Rep V8 (NrY (z + 1) V8.heap.size) (d + 4) (exT x) (nd (exT x) (some ⟨gc, 0, none⟩) 1) := by
    have h := (nds_newN (Reps.one hrF7) (HK1.out.below HB17.out HK1.out.lt).lt (by simp)).rep (k := 27) (n := 0) (m := 0) (in_sm (by omega) (by omega)) (in_sm (by omega) (by omega)) (in_sm (by omega) (by omega))
    have e : (nd (exF x) (some ⟨gb, 0, none⟩) 3).toArray = #[.int .i64 26, .int .i64 1, .int .i64 0, .slice (some ⟨gb, 0, none⟩) 3 3] := rfl
    rw [e, ← hV8, ← hgc] at h
    exact h
  have HRT := Lib.hid hrT
  have HV8 := Lib.hid hV8
  have HGC := Lib.hid hgc
  have HB78 : Hid (Below V7.heap.size V7 V8) := Lib.hid (by rw [hV8]; exact below_new _ _)
  clear hV7 hg6 k6 hrF7 hV8 hgc hrT hb57
  go_wp2_with (go_at_call 46; rw [← HV8.out, ← HGC.out]; refine (node_is _ _ _ _ _ _).mono ?_; rintro e w9 ⟨rfl, hb9⟩; have HB9 := Lib.hid hb9; have HB19 := Lib.hid (bt HB17.out (bt HB78.out hb9)); have HK9 := Lib.hid (HK1.out.below HB19.out HK1.out.lt); clear hb9; obtain ⟨z0, z1, z2, z3⟩ : w9.cell? ⟨z + 1, 0, none⟩ = some (.int .i64 0) ∧ w9.cell? ⟨z + 1, 1, none⟩ = some (.int .i64 0) ∧ w9.cell? ⟨z + 1, 2, none⟩ = some (.int .i64 0) ∧ w9.cell? ⟨z + 1, 3, none⟩ = some (.slice none 0 0) := ⟨HK9.out.cell 0, HK9.out.cell 1, HK9.out.cell 2, HK9.out.cell 3⟩; obtain ⟨f0, f1, f2, f3⟩ : w9.frozen? ⟨z + 1, 0, none⟩ = false ∧ w9.frozen? ⟨z + 1, 1, none⟩ = false ∧ w9.frozen? ⟨z + 1, 2, none⟩ = false ∧ w9.frozen? ⟨z + 1, 3, none⟩ = false := ⟨HK9.out.frozen 0, HK9.out.frozen 1, HK9.out.frozen 2, HK9.out.frozen 3⟩)
  have hzz := HZ.out
  obtain ⟨X, hX⟩ : ∃ W, W = (((w9.setCell ⟨z + 1, 0, none⟩ (.int .i64 27)).setCell ⟨z + 1, 1, none⟩ (.int .i64 0)).setCell ⟨z + 1, 2, none⟩ (.int .i64 0)).setCell ⟨z + 1, 3, none⟩ (.slice (some ⟨gc, 0, none⟩) 1 1) := ⟨_, rfl⟩
  rw [← hX]
  have kX : Blk X (z + 1) 25 #[.int .i64 27, .int .i64 0, .int .i64 0, .slice (some ⟨gc, 0, none⟩) 1 1] := by
    rw [hX]
    have h := (((HK9.out.set_ 0 (.int .i64 27)).set_ 1 (.int .i64 0)).set_ 2 (.int .i64 0)).set_ 3 (.slice (some ⟨gc, 0, none⟩) 1 1)
    simpa using h
  have hb9 := bt HB1.out HB19.out
  have hbX : Below w.heap.size w X := by
    rw [hX]
    exact (((hb9.setCell (by show w.heap.size ≤ z + 1; omega) _).setCell (by show w.heap.size ≤ z + 1; omega) _).setCell (by show w.heap.size ≤ z + 1; omega) _).setCell (by show w.heap.size ≤ z + 1; omega) _
  have hsX : X.heap.size = w9.heap.size := by rw [hX, World.size_setCell, World.size_setCell, World.size_setCell, World.size_setCell]
  have hrX : Rep X (Lt X.heap.size) (d + 4) (exT x) (nd (exT x) (some ⟨gc, 0, none⟩) 1) := by
    have h := rep_nextN HRT.out HB9.out
    have hno : ¬ NrY (z + 1) w9.heap.size (z + 1) := fun h => h.2 rfl
    have h2 := h.keep (((((Keeps.refl _ w9).setCell (p := ⟨z + 1, 0, none⟩) hno (.int .i64 27)).setCell (p := ⟨z + 1, 1, none⟩) hno (.int .i64 0)).setCell (p := ⟨z + 1, 2, none⟩) hno (.int .i64 0)).setCell (p := ⟨z + 1, 3, none⟩) hno (.slice (some ⟨gc, 0, none⟩) 1 1))
    rw [← hX] at h2
    exact h2.mono fun b hb => by show b < X.heap.size; rw [hsX]; exact hb.1
  have r0 : X.cell? ⟨z + 1, 0, none⟩ = some (.int .i64 27) := kX.cell 0
  have r1 : X.cell? ⟨z + 1, 1, none⟩ = some (.int .i64 0) := kX.cell 1
  have r2 : X.cell? ⟨z + 1, 2, none⟩ = some (.int .i64 0) := kX.cell 2
  have r3 : X.cell? ⟨z + 1, 3, none⟩ = some (.slice (some ⟨gc, 0, none⟩) 1 1) := kX.cell 3
  refine bodyPost_ret (v := .agg #[.int .i64 27, .int .i64 0, .int .i64 0, .slice (some ⟨gc, 0, none⟩) 1 1]) (by simp [results, Tryd.results47, go_sem, r0, r1, r2, r3]) rfl ⟨some ⟨gc, 0, none⟩, 1, rfl, hrX, hbX⟩
end Go.Proofs.YtpbbafikjpjejaaDoor

/-
  The reference's Plain, between.
-/
namespace Go.Proofs.YtpbbafikjpjejaaDoor.TR
/-- A plain type. -/
def isPlain (t : T) : Bool := (t.k == 0 || t.k == 1) && t.n == 0 && t.m == 0 && t.kids.length == 0
/-- The numbers and the kids' number lie in ranges. -/
def btw (t : T) (most last least kids : Int) : Bool := decide (0 ≤ t.n) && decide (t.n ≤ most) && decide (0 ≤ t.m) && decide (t.m ≤ last) && decide (least ≤ t.kids.length) && decide ((t.kids.length : Int) ≤ kids)
end Go.Proofs.YtpbbafikjpjejaaDoor.TR
namespace Go.Proofs.YtpbbafikjpjejaaDoor
open Go.RowKit WM TR

set_option maxRecDepth 100000 in
set_option maxHeartbeats 2000000 in
theorem plain_is (t : T) (A : Option Addr) (c : Nat) (w : World) (hst : size t ≤ 1000000) :
    Calls Tryd.prog 74 #[.agg #[.int .i64 t.k, .int .i64 t.n, .int .i64 t.m, .slice A t.kids.length c]] w fun e w' => e = .returned (.bool (isPlain t)) ∧ Below w.heap.size w w' := by
  have hkl : t.kids.length ≤ 1000000 := by have := kids_lt t; omega
  obtain ⟨k, n, m, kids⟩ := t
  simp only at hkl ⊢
  have HR : Hid (isPlain ⟨k, n, m, kids⟩ = ((k == 0 || k == 1) && n == 0 && m == 0 && ((kids.length : Int) == 0))) := Lib.hid (by simp [isPlain]; rw [Bool.eq_iff_iff]; simp)
  obtain ⟨l, hl⟩ : ∃ l, l = kids.length := ⟨_, rfl⟩
  rw [← hl] at hkl HR ⊢
  obtain ⟨r, hr⟩ : ∃ r, r = isPlain ⟨k, n, m, kids⟩ := ⟨_, rfl⟩
  rw [← hr] at HR ⊢
  clear hl hr hst
  go_enter Tryd.func74, Tryd.ntmps74
  go_wp2_with fail
  all_goals
    go_ret
    exact ⟨ret_b (by rw [HR.out]; simp [*]), below_new _ _⟩

set_option maxRecDepth 100000 in
set_option maxHeartbeats 4000000 in
theorem between_is (t : T) (A : Option Addr) (c : Nat) (w : World) (hst : size t ≤ 1000000) (most last least most2 : Int) :
    Calls Tryd.prog 51 #[.agg #[.int .i64 t.k, .int .i64 t.n, .int .i64 t.m, .slice A t.kids.length c], .int .i64 most, .int .i64 last, .int .i64 least, .int .i64 most2] w fun e w' => e = .returned (.bool (btw t most last least most2)) ∧ Below w.heap.size w w' := by
  have hkl : t.kids.length ≤ 1000000 := by have := kids_lt t; omega
  obtain ⟨k, n, m, kids⟩ := t
  simp only at hkl ⊢
  have HR : Hid (btw ⟨k, n, m, kids⟩ most last least most2 = (decide (0 ≤ n) && decide (n ≤ most) && decide (0 ≤ m) && decide (m ≤ last) && decide (least ≤ kids.length) && decide ((kids.length : Int) ≤ most2))) := Lib.hid rfl
  obtain ⟨l, hl⟩ : ∃ l, l = kids.length := ⟨_, rfl⟩
  rw [← hl] at hkl HR ⊢
  obtain ⟨r, hr⟩ : ∃ r, r = btw ⟨k, n, m, kids⟩ most last least most2 := ⟨_, rfl⟩
  rw [← hr] at HR ⊢
  clear hl hr hst
  go_enter Tryd.func51, Tryd.ntmps51
  go_wp2_with fail
  all_goals
    go_ret
    exact ⟨ret_b (by rw [HR.out]; simp [*] <;> omega), below_new _ _⟩
end Go.Proofs.YtpbbafikjpjejaaDoor

/-
  The reference's Type.
-/
namespace Go.Proofs.YtpbbafikjpjejaaDoor.TR
/-- A type. -/
def isType (t : T) : Bool :=
  if t.k == 2 then decide (1 ≤ t.n) && decide (t.n ≤ 4) && t.m == 0 && t.kids.length == 0
  else if t.k == 3 then (t.n == 0 && t.m == 0 && decide (1 ≤ t.kids.length) && decide (t.kids.length ≤ 3)) && t.kids.all isPlain
  else isPlain t
theorem all_next {α : Type} {l : List α} {j : Nat} {u : α} (f : α → Bool) (h : l[j]? = some u) : (l.take (j + 1)).all f = ((l.take j).all f && f u) := by
  rw [List.take_add_one, h]; simp
end Go.Proofs.YtpbbafikjpjejaaDoor.TR
namespace Go.Proofs.YtpbbafikjpjejaaDoor
open Go.RowKit WM TR

theorem box_facts (w : World) (a b m : Value) (A : Option Addr) (l c : Nat) : ∃ W1, W1 = w.alloc (.cells #[a, b, m, .slice A l c] 25) ∧ Hid (Below w.heap.size w W1) ∧ Hid (w.heap.size < W1.heap.size ∧ W1.cell? ⟨w.heap.size, 3, none⟩ = some (.slice A l c)) :=
  ⟨_, rfl, below_new _ _, ⟨(Blk.new w _ _).lt, (Blk.new w _ _).cell 3⟩⟩

set_option maxRecDepth 100000 in
set_option maxHeartbeats 4000000 in
theorem type_is (d : Nat) (t : T) (S : Nat → Prop) (A : Option Addr) (c : Nat) (w : World) (ht : Rep w S d t (nd t A c)) (hin : In S w.heap.size) (hst : size t ≤ 1000000) :
    Calls Tryd.prog 73 #[.agg #[.int .i64 t.k, .int .i64 t.n, .int .i64 t.m, .slice A t.kids.length c]] w fun e w' => e = .returned (.bool (isType t)) ∧ Below w.heap.size w w' := by
  cases d with
  | zero => exact ht.elim
  | succ d =>
  have hkl : t.kids.length ≤ 1000000 := by have := kids_lt t; omega
  obtain ⟨l, hl⟩ : ∃ l, l = t.kids.length := ⟨_, rfl⟩
  obtain ⟨r, hr⟩ : ∃ r, isType t = r := ⟨_, rfl⟩
  have HR : Hid ((if t.k == 2 then decide (1 ≤ t.n) && decide (t.n ≤ 4) && t.m == 0 && ((l : Int) == 0)
  else if t.k == 3 then (t.n == 0 && t.m == 0 && decide ((1 : Int) ≤ l) && decide ((l : Int) ≤ 3)) && t.kids.all isPlain
  else isPlain t) = r) := Lib.hid (by
    rw [← hr, isType, hl]
    congr 1
    · congr 1
      rw [Bool.eq_iff_iff]; simp
    · congr 1
      congr 1
      congr 1
      · congr 1
        rw [Bool.eq_iff_iff]; simp; omega
      · rw [Bool.eq_iff_iff]; simp; omega)
  rw [hr, ← hl]
  rw [← hl] at hkl
  clear hr
  have HT := Lib.hid ht
  have HI := Lib.hid hin
  have HL := Lib.hid hl
  have HST := Lib.hid hst
  clear ht hin hl
  by_cases h2 : t.k = 2
  · have HR2 : Hid ((decide (1 ≤ t.n) && decide (t.n ≤ 4) && t.m == 0 && ((l : Int) == 0)) = r) := Lib.hid (by have := HR.out; rwa [if_pos (by rw [h2]; rfl)] at this)
    go_enter Tryd.func73, Tryd.ntmps73
    go_wp2_with fail
    all_goals
      go_ret
      exact ⟨ret_b (by rw [← HR2.out]; simp [*] <;> omega), below_new _ _⟩
  · by_cases h3 : t.k = 3
    · have HR2 : Hid (((t.n == 0 && t.m == 0 && decide ((1 : Int) ≤ l) && decide ((l : Int) ≤ 3)) && t.kids.all isPlain) = r) := Lib.hid (by have := HR.out; rwa [if_neg (by simpa using h2), if_pos (by rw [h3]; rfl)] at this)
      obtain ⟨f0, hf0⟩ : ∃ f0, f0 = (t.n == 0 && t.m == 0 && decide ((1 : Int) ≤ l) && decide ((l : Int) ≤ 3)) := ⟨_, rfl⟩
      have HR3 : Hid ((f0 && t.kids.all isPlain) = r) := Lib.hid (by rw [hf0]; exact HR2.out)
      have HF0 := Lib.hid hf0
      clear HR HR2 hf0
      go_enter Tryd.func73, Tryd.ntmps73
      go_wp2_with fail
      all_goals
        first
          | (obtain ⟨W1, hW1, HB1, HC1⟩ := box_facts w (.int .i64 3) (.int .i64 t.n) (.int .i64 t.m) A l c; rw [← hW1])
          | (obtain ⟨W1, hW1, HB1, HC1⟩ := box_facts w (.int .i64 3) (.int .i64 0) (.int .i64 t.m) A l c; rw [← hW1])
          | (obtain ⟨W1, hW1, HB1, HC1⟩ := box_facts w (.int .i64 3) (.int .i64 0) (.int .i64 0) A l c; rw [← hW1])
        clear hW1
        go_loopw [3, 4] (fun s i wr => ∃ (j : Nat) (f : Bool), j ≤ l ∧ i = .int .i64 j ∧ s = .bool f ∧ Hid (f = (f0 && (t.kids.take j).all isPlain)) ∧ Hid (Below W1.heap.size W1 wr)) (fun _ i _ => l - (intOf i).toNat)
        case atStart => exact ⟨0, _, Nat.zero_le _, rfl, rfl, by rw [HF0.out]; simp [*, Hid] <;> omega, Below.refl _ _⟩
        case round =>
          obtain ⟨j, f, hj, rfl, rfl, HF, HB⟩ := hrel
          have hBW : Below w.heap.size w wr := bt HB1.out HB.out
          have hc3 : wr.cell? ⟨w.heap.size, 3, none⟩ = some (.slice A l c) := (HB.out.cell (p := ⟨w.heap.size, 3, none⟩) HC1.out.1).trans HC1.out.2
          by_cases hlt : j < l
          · try (exfalso; omega)
            all_goals
              obtain ⟨u, hu⟩ : ∃ u, t.kids[j]? = some u := ⟨_, List.getElem?_eq_getElem (by rw [← HL.out]; omega)⟩
              have hrr := HT.out.later HI.out hBW
              obtain ⟨b2, o2, A2, c2, hA2, hb2, hcells, hru⟩ := hrr.kid hu
              subst hA2
              have HSU : Hid (size u ≤ 1000000) := Lib.hid (by have := size_kid hu; have := HST.out; omega)
              have HCL := Lib.hid hcells
              have HAN : Hid ((f0 && (t.kids.take (j + 1)).all isPlain) = (f && isPlain u)) := Lib.hid (by rw [all_next isPlain hu, ← Bool.and_assoc, ← HF.out])
              have hij : (0 : Int) ≤ j ∧ (j : Int) < l := ⟨by omega, by omega⟩
              have k0 : wr.cell? ⟨b2, o2 + j * 4, none⟩ = some (.int .i64 u.k) := hcells 0 _ rfl
              have k1 : wr.cell? ⟨b2, o2 + j * 4 + 1, none⟩ = some (.int .i64 u.n) := hcells 1 _ rfl
              have k2 : wr.cell? ⟨b2, o2 + j * 4 + 2, none⟩ = some (.int .i64 u.m) := hcells 2 _ rfl
              have k3 : wr.cell? ⟨b2, o2 + j * 4 + 3, none⟩ = some (.slice A2 u.kids.length c2) := hcells 3 _ rfl
              clear hrr hcells hru hu hb2 hBW HCL
              cases f with
              | false =>
                go_wp2_with fail
                go_roundw
                case rel => exact ⟨j + 1, false, by omega, by go_num, rfl, by rw [HAN.out]; rfl, HB.out⟩
                case measure => simp [intOf]; omega
              | true =>
                go_wp2_with (go_at_call 74; refine (plain_is u A2 c2 _ HSU.out).mono ?_; rintro e w' ⟨rfl, hbw⟩)
                go_roundw
                case rel => exact ⟨j + 1, isPlain u, by omega, by go_num, rfl, by rw [HAN.out]; rfl, bt HB.out hbw⟩
                case measure => simp [intOf]; omega
          · have hjl : j = t.kids.length := by rw [← HL.out]; omega
            have HF2 : Hid (f = r) := Lib.hid (by rw [← HR3.out, HF.out, hjl, List.take_length])
            have HBW := Lib.hid hBW
            clear hjl hBW
            go_wp2_with fail
            go_ret
            exact ⟨ret_b HF2.out, HBW.out⟩
    · have HR2 : Hid (isPlain t = r) := Lib.hid (by have := HR.out; rwa [if_neg (by simpa using h2), if_neg (by simpa using h3)] at this)
      go_enter Tryd.func73, Tryd.ntmps73
      go_wp2_with (go_at_call 74; rw [HL.out]; refine (plain_is t A c _ HST.out).mono ?_; rintro e w' ⟨rfl, hbw⟩; rw [HR2.out])
      go_ret
      exact ⟨rfl, bt (below_new _ _) hbw⟩
end Go.Proofs.YtpbbafikjpjejaaDoor
