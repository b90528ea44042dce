/-
  The generator of code: Code makes some code, of few functions and instructions.
-/
import Derived.Test.YtbdknncmlcbbpaaDoorG09
import Derived.Test.YtbdknncmlcbbpaaDoorG10
import Derived.Deep.RegionLaw
set_option linter.unusedVariables false
namespace Go.Proofs.YtbdknncmlcbbpaaDoor
open Go.RowKit WM TR KM

/-- What Code makes. -/
structure GenOk (ch : Int) (es : List Ent) : Prop where
  ch : 0 ≤ ch ∧ ch ≤ 3
  len : 1 ≤ es.length ∧ es.length ≤ 3
  body : ∀ e ∈ es, e.body.length ≤ 2000
def CodePost (w : World) (e : Ending) (w' : World) : Prop :=
  ∃ ch es A' c', e = .returned (.agg #[.int .i64 ch, .slice A' es.length c']) ∧ CoR w' (fun b => w.heap.size ≤ b ∧ b < w'.heap.size) A' c' es ∧ Below w.heap.size w w' ∧ GenOk ch es
/-- A function that has no instructions yet. -/
def bare (q : Int × Int) : Ent := ⟨q.1, q.2, none, 0, []⟩
def BareOk (q : Int × Int) : Prop := (0 ≤ q.1 ∧ q.1 ≤ 3) ∧ 1 ≤ q.2 ∧ q.2 ≤ 7

theorem below_row {a w w' : World} {o : Obj} {row : Option Nat} (hb : Below a.heap.size a w) (h : (w.alloc o).grownBy w' row) (hr : ∀ b, row = some b → a.heap.size ≤ b) : Below a.heap.size a w' :=
  have h2 := ba hb o
  ⟨h.os.trans h2.os, h.tape.trans h2.tape, h.output.trans h2.output, Nat.le_trans h2.size h.size, fun i hi => (h.block i (Nat.lt_of_lt_of_le hi h2.size) (fun e => by have := hr i e.symm; omega)).trans (h2.block i hi)⟩
/-- The first loop: functions without instructions. -/
structure L1 (w : World) (B : Nat) (ch : Int) (wr : World) (i : Nat) (qs : List (Int × Int)) (A1 : Option Addr) (c1 : Nat) : Prop where
  low : B = w.heap.size
  blk : Blk wr (B + 1) 25 #[.int .i64 ch, .slice A1 qs.length c1]
  res : Blk wr B 25 #[.int .i64 0, .slice none 0 0]
  own : wr.ownsRow (B + 2) 51 4 (.slice A1 qs.length c1) qs.length (entsC (qs.map bare))
  len : qs.length = i
  ok : ∀ q ∈ qs, BareOk q
  below : Below w.heap.size w wr
theorem L1.size {w : World} {B : Nat} {ch : Int} {wr : World} {i : Nat} {qs : List (Int × Int)} {A1 : Option Addr} {c1 : Nat} (h : L1 w B ch wr i qs A1 c1) : B + 2 ≤ wr.heap.size := by have := h.blk.lt; omega
theorem fun_new (w : World) (x : Ent) : Reads (w.alloc (.cells (entC x).toArray 51)) (w.heap.size + 1) 4 (some ⟨w.heap.size, 0, none⟩) 1 (entC x) :=
  ⟨rfl, fun _ => ⟨_, rfl, Nat.lt_succ_self _, cells_new w (entC x) 51⟩⟩
theorem L1.drew {w : World} {B : Nat} {ch : Int} {wr : World} {i : Nat} {qs : List (Int × Int)} {A1 : Option Addr} {c1 : Nat} (h : L1 w B ch wr i qs A1 c1) : L1 w B ch wr.drew i qs A1 c1 := ⟨h.low, h.blk, h.res, h.own, h.len, h.ok, h.below.drew⟩

theorem L1.step {w : World} {B : Nat} {ch : Int} {wr w4 : World} {i : Nat} {qs : List (Int × Int)} {A1 A4 : Option Addr} {c1 c4 : Nat} {q : Int × Int} {o : Obj} (h : L1 w B ch wr i qs A1 c1) (hg : (wr.alloc o).grownBy w4 (Value.slice A1 qs.length c1).ownBlock)
    (ho : w4.ownsRow (B + 2) 51 4 (.slice A4 (qs.length + 1) c4) (qs.length + 1) (entsC (qs.map bare) ++ entC (bare q))) (hq : BareOk q) :
    L1 w B ch (w4.setCell ⟨B + 1, 1, none⟩ (.slice A4 (qs.length + 1) c4)) (i + 1) (qs ++ [q]) A4 c4 := by
  have hlt := h.own.lt
  have hB : Blk w4 (B + 1) 25 #[.int .i64 ch, .slice A1 qs.length c1] := (h.blk.alloc _).grown hg (fun e => by have := (hlt _ e.symm).1; omega)
  have hR : Blk w4 B 25 #[.int .i64 0, .slice none 0 0] := (h.res.alloc _).grown hg (fun e => by have := (hlt _ e.symm).1; omega)
  have hw : w.heap.size ≤ B + 1 := by have := h.low; omega
  refine ⟨h.low, ?_, hR.far (by show B ≠ B + 1; omega) _, ?_, by simp [h.len], fun x hx => ?_, ?_⟩
  · have := hB.set_ 1 (.slice A4 (qs.length + 1) c4)
    rw [List.length_append]
    simpa using this
  · have h2 := ownsRow_setCell_other ho (a := ⟨B + 1, 1, none⟩) (fun e => by have h3 : B + 2 ≤ B + 1 := (ho.lt _ e).1; omega) (.slice A4 (qs.length + 1) c4)
    rw [List.length_append, List.map_append, entsC_append]
    simpa [entsC] using h2
  · rcases List.mem_append.1 hx with hx | hx
    · exact h.ok x hx
    · rw [List.mem_singleton.1 hx]; exact hq
  · exact below_set (below_row h.below hg fun b e => by have := (hlt b e).1; have := h.low; omega) hw 1 _
/-- The second loop: one function after the other gets its instructions. -/
structure L2 (w : World) (B : Nat) (ch : Int) (n bF c1 : Nat) (wr : World) (k : Nat) (es : List Ent) : Prop where
  low : B = w.heap.size
  blk : Blk wr (B + 1) 25 #[.int .i64 ch, .slice (some ⟨bF, 0, none⟩) n c1]
  res : Blk wr B 25 #[.int .i64 0, .slice none 0 0]
  own : wr.ownsRow (B + 2) 51 4 (.slice (some ⟨bF, 0, none⟩) n c1) n (entsC es)
  len : es.length = n
  all : ∀ e ∈ es, BodyR wr (fun b => B + 2 ≤ b ∧ b < wr.heap.size ∧ b ≠ bF) e ∧ e.body.length ≤ 2000 ∧ (0 ≤ e.p ∧ e.p ≤ 3) ∧ 1 ≤ e.w ∧ e.w ≤ 7
  late : ∀ i e, k ≤ i → es[i]? = some e → e.A = none ∧ e.c = 0 ∧ e.body = []
  below : Below w.heap.size w wr
theorem L1.two {w : World} {B : Nat} {ch : Int} {wr : World} {n : Nat} {qs : List (Int × Int)} {A1 : Option Addr} {c1 : Nat} (h : L1 w B ch wr n qs A1 c1) (hn : 1 ≤ n) : ∃ bF, A1 = some ⟨bF, 0, none⟩ ∧ L2 w B ch n bF c1 wr 0 (qs.map bare) := by
  have hl := h.len
  obtain ⟨bF, cap, hv, hb, hlt⟩ := h.own.form (by omega)
  simp only [Value.slice.injEq, true_and] at hv
  obtain ⟨rfl, rfl⟩ := hv
  subst hl
  refine ⟨bF, rfl, h.low, h.blk, h.res, h.own, by simp, fun e he => ?_, fun i e _ he => ?_, h.below⟩
  · obtain ⟨q, hq, rfl⟩ := List.mem_map.1 he
    have ho := h.ok q hq
    exact ⟨BodyR.nil (by unfold inRange; have := ho.1; omega) (by unfold inRange; have := ho.2; omega), by simp [bare], ho.1, ho.2⟩
  · rw [List.getElem?_map] at he
    obtain ⟨q, _, rfl⟩ := Option.map_eq_some_iff.1 he
    exact ⟨rfl, rfl, rfl⟩
theorem L2.bF_lt {w : World} {B : Nat} {ch : Int} {n bF c1 : Nat} {wr : World} {k : Nat} {es : List Ent} (h : L2 w B ch n bF c1 wr k es) : B + 2 ≤ bF ∧ bF < wr.heap.size := h.own.lt bF rfl
/-- Worlds in which the blocks there are as they were. -/
theorem L2.next {w : World} {B : Nat} {ch : Int} {n bF c1 : Nat} {wr w' : World} {k : Nat} {es : List Ent} (h : L2 w B ch n bF c1 wr k es) (hb : Below wr.heap.size wr w') : L2 w B ch n bF c1 w' k es :=
  ⟨h.low, h.blk.below hb h.blk.lt, h.res.below hb h.res.lt, ownsRow_below h.own hb, h.len, fun e he => ⟨(h.all e he).1.keep (fun b hb' => hb.block b hb'.2.1) fun _ hb' => ⟨hb'.1, Nat.lt_of_lt_of_le hb'.2.1 hb.size, hb'.2.2⟩, (h.all e he).2⟩, h.late, bt h.below hb⟩
theorem L2.drew {w : World} {B : Nat} {ch : Int} {n bF c1 : Nat} {wr : World} {k : Nat} {es : List Ent} (h : L2 w B ch n bF c1 wr k es) : L2 w B ch n bF c1 wr.drew k es := h.next (Below.refl _ _).drew
/-- A function's four cells, put anew. -/
theorem L2.put {w : World} {B : Nat} {ch : Int} {n bF c1 : Nat} {wr : World} {k : Nat} {es : List Ent} (h : L2 w B ch n bF c1 wr k es) (hk : k < n) (x : Ent) (hx : BodyR wr (fun b => B + 2 ≤ b ∧ b < wr.heap.size ∧ b ≠ bF) x) (hx2 : x.body.length ≤ 2000) (hx3 : (0 ≤ x.p ∧ x.p ≤ 3) ∧ 1 ≤ x.w ∧ x.w ≤ 7) :
    L2 w B ch n bF c1 ((((wr.setCell ⟨bF, k * 4, none⟩ (.int .i64 x.p)).setCell ⟨bF, k * 4 + 1, none⟩ (.int .i64 x.w)).setCell ⟨bF, k * 4 + 2, none⟩ (.slice x.A x.body.length x.c)).setCell ⟨bF, k * 4 + 3, none⟩ (.slice none 0 0)) (k + 1) (es.set k x) := by
  have hbf := h.bF_lt
  have hl := h.len
  obtain ⟨W4, hW4⟩ : ∃ W4, W4 = (((wr.setCell ⟨bF, k * 4, none⟩ (.int .i64 x.p)).setCell ⟨bF, k * 4 + 1, none⟩ (.int .i64 x.w)).setCell ⟨bF, k * 4 + 2, none⟩ (.slice x.A x.body.length x.c)).setCell ⟨bF, k * 4 + 3, none⟩ (.slice none 0 0) := ⟨_, rfl⟩
  rw [← hW4]
  have keep : ∀ b, b ≠ bF → W4.heap[b]? = wr.heap[b]? := fun b hb => by
    rw [hW4, Below.heap_setCell _ ⟨bF, _, none⟩ _ b hb, Below.heap_setCell _ ⟨bF, _, none⟩ _ b hb, Below.heap_setCell _ ⟨bF, _, none⟩ _ b hb, Below.heap_setCell _ ⟨bF, _, none⟩ _ b hb]
  have hsz : W4.heap.size = wr.heap.size := by rw [hW4]; simp
  refine ⟨h.low, (keep _ (by omega)).trans h.blk, (keep _ (by omega)).trans h.res, ?_, by rw [List.length_set]; exact hl, fun e he => ?_, fun i e hi he => ?_, ?_⟩
  · have h1 := (((h.own.stored (k * 4) (.int .i64 x.p)).1.stored (k * 4 + 1) (.int .i64 x.w)).1.stored (k * 4 + 2) (.slice x.A x.body.length x.c)).1.stored (k * 4 + 3) (.slice none 0 0)
    rw [entsC_set es k x (by omega)] at h1
    rw [hW4]; exact h1.1
  · have hk2 : ∀ y : Ent, BodyR wr (fun b => B + 2 ≤ b ∧ b < wr.heap.size ∧ b ≠ bF) y → BodyR W4 (fun b => B + 2 ≤ b ∧ b < W4.heap.size ∧ b ≠ bF) y := fun y hy => hy.keep (fun b hb => keep b hb.2.2) fun b hb => ⟨hb.1, by rw [hsz]; exact hb.2.1, hb.2.2⟩
    rcases List.mem_or_eq_of_mem_set he with he | rfl
    · exact ⟨hk2 _ (h.all e he).1, (h.all e he).2⟩
    · exact ⟨hk2 _ hx, hx2, hx3⟩
  · rw [List.getElem?_set_ne (by omega)] at he
    exact h.late i e (by omega) he
  · rw [hW4]; exact below_set (below_set (below_set (below_set h.below (by have := h.low; omega) _ _) (by have := h.low; omega) _ _) (by have := h.low; omega) _ _) (by have := h.low; omega) _ _
theorem L2.ps {w : World} {B : Nat} {ch : Int} {n bF c1 : Nat} {wr : World} {k : Nat} {es : List Ent} (h : L2 w B ch n bF c1 wr k es) (i : Nat) (p : Int) (hp : (es.map (·.p))[i]? = some p) : wr.cell? ⟨bF, 0 + i * 4, none⟩ = some (.int .i64 p) ∧ 0 ≤ p ∧ p ≤ 3 := by
  rw [List.getElem?_map] at hp
  obtain ⟨e, he, rfl⟩ := Option.map_eq_some_iff.1 hp
  have hc := h.own.cells (g := bF) rfl _ _ (entsC_get es i e he 0 (.int .i64 e.p) rfl)
  rw [Addr.add_lit, Nat.add_zero] at hc
  exact ⟨hc, (h.all e (List.mem_of_getElem? he)).2.2.1⟩
theorem L2.co {w : World} {B : Nat} {ch : Int} {n bF c1 : Nat} {wr : World} {k : Nat} {es : List Ent} (h : L2 w B ch n bF c1 wr k es) (hn : n ≤ 3) : CoR wr (fun b => B + 2 ≤ b ∧ b < wr.heap.size) (some ⟨bF, 0, none⟩) c1 es := by
  have hl := h.len
  have hr := Rd.of_own h.own
  obtain ⟨_, _, e, hc⟩ := own_len h.own
  cases e
  exact ⟨by rw [hl]; exact hr, by omega, by omega, fun e he => (h.all e he).1.keep (Keeps.refl _ _) fun _ hb => ⟨hb.1, hb.2.1⟩⟩
theorem body_of {w : World} {B g bF : Nat} {fx : Fx} {v : Option Addr × Nat} {body : List Ins} {a : Nat} {l : Int} (h : MkR w g fx v body a l) (hg : B + 2 ≤ g) (hb : bF < g) (hl : body.length ≤ 2000) (p q : Int) (hp : inRange p) (hq : inRange q) : BodyR w (fun b => B + 2 ≤ b ∧ b < w.heap.size ∧ b ≠ bF) ⟨p, q, v.1, v.2, body⟩ := by
  obtain ⟨_, _, e, hc⟩ := own_len h.own
  cases e
  exact ⟨(Rd.of_own h.own).mono fun b hb' => ⟨by omega, hb'.2, by omega⟩, hc, by show body.length ≤ _; omega, h.ok, hp, hq⟩
/-- An append's block, kept shut. -/
def apS (ts : Array TypeId) (t : TypeId) (vs : Array Value) : Sem Value := Builtin.append_ ts t vs
theorem shutAp (ts : Array TypeId) (t : TypeId) (vs : Array Value) : Builtin.append_ ts t vs = apS ts t vs := rfl
attribute [local go_sem ↓ high] shutAp
set_option maxRecDepth 100000 in
set_option maxHeartbeats 8000000 in
theorem code_is (L : List Int) (S : Nat → Prop) (A : Option Addr) (c : Nat) (w : World) (hL : Rd w S 1 A L.length (vi L)) (hin : In S w.heap.size) (hr : ∀ x ∈ L, inRange x) (hl : L.length ≤ 9223372036854775807) :
    Calls Tryd.prog 8 #[.slice A L.length c] w (CodePost w) := by
  obtain ⟨i0, hi, hz0, hz1, hz2⟩ := info_parts fun_info
  have HAT : Hid (∀ (W : World), Below w.heap.size w W → ∀ (i : Nat) (n : Int), 0 < n → i ≤ 1000 → Calls Tryd.prog 32 #[.slice A L.length c, .int .i64 (i : Int), .int .i64 n] W fun e w' => e = .returned (.int .i64 (numAt L i n)) ∧ W = w') := Lib.hid (fun W hb i n hn hi => at_is L S A c i n W (hL.keep (Keeps.below hin hb)) hr hn hl (by omega))
  have HL := Lib.hid hL
  have HIN := Lib.hid hin
  have HRR := Lib.hid hr
  have HLL := Lib.hid hl
  obtain ⟨B, hB⟩ : ∃ B, B = w.heap.size := ⟨_, rfl⟩
  have HBB := Lib.hid hB
  obtain ⟨ch, hch⟩ : ∃ k, numAt L 0 4 = k := ⟨_, rfl⟩
  have hcb := numAt_le (L := L) (a := 0) (n := 4) (by omega)
  rw [hch] at hcb
  obtain ⟨n1, hn1⟩ : ∃ k : Nat, numAt L 1 3 = (k : Int) := ⟨(numAt L 1 3).toNat, by have := numAt_le (L := L) (a := 1) (n := 3) (by omega); omega⟩
  have hnb := numAt_le (L := L) (a := 1) (n := 3) (by omega)
  rw [hn1] at hnb
  have hw1 : IntKind.i64.wrap (1 + (n1 : Int)) = ((1 + n1 : Nat) : Int) := by rw [IntKind.wrap_i64]; omega
  obtain ⟨n, hn⟩ : ∃ n, n = 1 + n1 := ⟨_, rfl⟩
  rw [← hn] at hw1
  have hnn : 1 ≤ n ∧ n ≤ 3 := by omega
  obtain ⟨W1, hW1⟩ : ∃ W1, W1 = w.alloc (.cells #[.int .i64 0, .slice none 0 0] 25) := ⟨_, rfl⟩
  have hb1 : Below w.heap.size w W1 := by rw [hW1]; exact below_new _ _
  have hs1 : W1.heap.size = B + 1 := by rw [hW1, hB]; exact size_alloc _ _
  have H1 : Hid (Calls Tryd.prog 32 #[.slice A L.length c, .int .i64 0, .int .i64 4] W1 fun e w' => e = .returned (.int .i64 ch) ∧ W1 = w') := Lib.hid (by rw [← hch]; exact HAT.out W1 hb1 0 4 (by omega) (by omega))
  obtain ⟨W2, hW2⟩ : ∃ W2, W2 = W1.alloc (.cells #[.int .i64 ch, .slice none 0 0] 25) := ⟨_, rfl⟩
  have hb2 : Below w.heap.size w W2 := by rw [hW2]; exact ba hb1 _
  have H2 : Hid (Calls Tryd.prog 32 #[.slice A L.length c, .int .i64 1, .int .i64 3] W2 fun e w' => e = .returned (.int .i64 (n1 : Int)) ∧ W2 = w') := Lib.hid (by rw [← hn1]; exact HAT.out W2 hb2 1 3 (by omega) (by omega))
  have HZ2 : Hid (Blk W2 (B + 1) 25 #[.int .i64 ch, .slice none 0 0]) := Lib.hid (by rw [hW2, ← hs1]; exact Blk.new _ _ _)
  have HRV : Hid (Blk W2 B 25 #[.int .i64 0, .slice none 0 0]) := Lib.hid (by rw [hW2]; exact Blk.alloc (by rw [hW1, hB]; exact Blk.new _ _ _) _)
  have HB2 := Lib.hid hb2
  have HW1 := Lib.hid hW1
  have HW2 := Lib.hid hW2
  have HS1 := Lib.hid hs1
  clear hL hin hr hl hB hch hn1 hnb hn hW1 hb1 hs1 hW2 hb2
  go_enter Tryd.func8, Tryd.ntmps8
  go_upto_region 1 with fail
  rw [← HW1.out, ← HBB.out]
  go_upto_region 2 with (first
    | (go_at_call 32; refine H1.out.mono ?_; rintro e w' ⟨rfl, rfl⟩))
  rw [← HW2.out, HS1.out]
  go_upto_region 3 with (first
    | (go_at_call 32; refine H2.out.mono ?_; rintro e w' ⟨rfl, rfl⟩))
  go_wp2_with fail
  clear H1 H2 hw1
  go_loopw [5] (fun s wr => ∃ (i : Nat) (qs : List (Int × Int)) (A1 : Option Addr) (c1 : Nat), i ≤ n ∧ s = .int .i64 i ∧ Hid (L1 w B ch wr i qs A1 c1)) (fun s _ => n - (intOf s).toNat)
  case atStart => exact ⟨0, [], none, 0, Nat.zero_le _, rfl, HBB.out, HZ2.out, HRV.out, World.ownsRow_nil _ _ _ _, rfl, (by intro q hq; cases hq), HB2.out⟩
  case round =>
    obtain ⟨i, qs, A1, c1, hin1, rfl, HJ⟩ := hrel
    by_cases hlt : i < n
    · have hlt2 : (i : Int) < n := by omega
      have hw2 : IntKind.i64.wrap (2 + (i : Int)) = 2 + (i : Int) := by rw [IntKind.wrap_i64]; omega
      have hw5 : IntKind.i64.wrap (5 + (i : Int)) = 5 + (i : Int) := by rw [IntKind.wrap_i64]; omega
      obtain ⟨p, hp⟩ : ∃ p, numAt L (2 + i) 4 = p := ⟨_, rfl⟩
      have hpb := numAt_le (L := L) (a := 2 + i) (n := 4) (by omega)
      rw [hp] at hpb
      obtain ⟨q, hq⟩ : ∃ q, numAt L (5 + i) 4 = q := ⟨_, rfl⟩
      have hqb := numAt_le (L := L) (a := 5 + i) (n := 4) (by omega)
      rw [hq] at hqb
      have H3 : Hid (Calls Tryd.prog 32 #[.slice A L.length c, .int .i64 (2 + (i : Int)), .int .i64 4] wr fun e w' => e = .returned (.int .i64 p) ∧ wr = w') := Lib.hid (by rw [← hp, show (2 + (i : Int)) = ((2 + i : Nat) : Int) by omega]; exact HAT.out wr HJ.out.below (2 + i) 4 (by omega) (by omega))
      obtain ⟨Wd, hWd⟩ : ∃ Wd, Wd = wr.drew := ⟨_, rfl⟩
      have HJD : Hid (L1 w B ch Wd i qs A1 c1) := Lib.hid (by rw [hWd]; exact HJ.out.drew)
      have H4 : Hid (Calls Tryd.prog 32 #[.slice A L.length c, .int .i64 (5 + (i : Int)), .int .i64 4] Wd fun e w' => e = .returned (.int .i64 q) ∧ w' = Wd) := Lib.hid (by rw [← hq, show (5 + (i : Int)) = ((5 + i : Nat) : Int) by omega]; exact (HAT.out Wd HJD.out.below (5 + i) 4 (by omega) (by omega)).mono fun e w' h => ⟨h.1, h.2.symm⟩)
      have HWD := Lib.hid hWd
      have HQ := Lib.hid hq
      clear hp hq hWd
      go_upto_region 7 with (first
        | (go_at_call 32; refine H3.out.mono ?_; rintro e w' ⟨rfl, rfl⟩))
      have hz := HJD.out.blk.cell 1
      simp only [List.getElem?_toArray, List.getElem?_cons_zero, List.getElem?_cons_succ] at hz
      have H4' : Hid (∀ W', Below Wd.heap.size Wd W' → Calls Tryd.prog 32 #[.slice A L.length c, .int .i64 (5 + (i : Int)), .int .i64 4] W' fun e w' => e = .returned (.int .i64 q) ∧ W' = w') := Lib.hid (fun W' hb => by rw [← HQ.out, show (5 + (i : Int)) = ((5 + i : Nat) : Int) by omega]; exact HAT.out W' (bt HJD.out.below hb) (5 + i) 4 (by omega) (by omega))
      have HKC : Hid (∀ W', Below Wd.heap.size Wd W' → W'.cell? ⟨B + 1, 1, none⟩ = some (.slice A1 qs.length c1)) := Lib.hid (fun W' hb => (HJD.out.blk.below hb HJD.out.blk.lt).cell 1)
      have hbc : Below Wd.heap.size Wd wr.drew := by rw [← HWD.out]; exact Below.refl _ _
      have HJX : Hid (wr.drew.ownsRow (B + 2) 51 4 (.slice A1 qs.length c1) qs.length (entsC (qs.map bare))) := Lib.hid (by rw [← HWD.out]; exact HJD.out.own)
      have HBS : Hid (B + 2 ≤ wr.drew.heap.size) := Lib.hid (by rw [← HWD.out]; exact HJD.out.size)
      clear hz
      have HJW : Hid (L1 w B ch wr.drew i qs A1 c1) := Lib.hid HJ.out.drew
      obtain ⟨mx, hif⟩ : ∃ x, (if 1 < p then p else 1) = x := ⟨_, rfl⟩
      have hmx : 1 ≤ mx ∧ mx ≤ 3 := by rw [← hif]; split <;> omega
      have hww : IntKind.i64.wrap (mx + q) = mx + q := by rw [IntKind.wrap_i64]; omega
      have hcz := HKC.out _ hbc
      obtain ⟨v4, w4, happ0, hown4, hgrow4, hnew4⟩ := run_append_any (P := Tryd.prog) (wr.drew.alloc (.cells (entC (bare (p, mx + q))).toArray 51)) (B + 2) 23 23 51 i0 _ 4 64 Tryd.underlying23 hi hz0 hz1 hz2 rfl (by omega) (.slice A1 qs.length c1) qs.length (entsC (qs.map bare)) (HJX.out.alloc _) _ (some ⟨wr.drew.heap.size, 0, none⟩) 1 1 (entC (bare (p, mx + q))) (fun_new _ _) (entC_one _) (len_le (by have := HJD.out.len; omega)) (by have := HJD.out.len; omega) (by have := HBS.out; rw [size_alloc]; omega)
      obtain ⟨A4, c4, rfl, _⟩ := own_len hown4
      have HN4 : Hid (L1 w B ch (w4.setCell ⟨B + 1, 1, none⟩ (.slice A4 (qs.length + 1) c4)) (i + 1) (qs ++ [(p, mx + q)]) A4 c4) := Lib.hid (HJW.out.step hgrow4 hown4 ⟨⟨by omega, by omega⟩, by omega, by omega⟩)
      have hB4 : Blk w4 (B + 1) 25 #[.int .i64 ch, .slice A1 qs.length c1] := (HJW.out.blk.alloc _).grown hgrow4 (fun e => by have := (HJW.out.own.lt _ e.symm).1; omega)
      have hc4 := hB4.cell 1
      have hf4 := hB4.frozen 1
      simp only [List.getElem?_toArray, List.getElem?_cons_zero, List.getElem?_cons_succ] at hc4
      have happ : (apS #[23, 23] 23 #[.slice A1 qs.length c1, .slice (some ⟨wr.heap.size, 0, none⟩) 1 1]).run Tryd.prog (wr.alloc (.cells #[.int .i64 p, .int .i64 (mx + q), .slice none 0 0, .slice none 0 0] 51)).drew = .ok (.slice A4 (qs.length + 1) c4) w4 := happ0
      have hcz2 : (wr.alloc (.cells #[.int .i64 p, .int .i64 (mx + q), .slice none 0 0, .slice none 0 0] 51)).drew.cell? ⟨B + 1, 1, none⟩ = some (.slice A1 qs.length c1) := HKC.out (wr.drew.alloc _) (ba hbc _)
      clear happ0 hown4 hgrow4 hnew4 hB4
      go_region_with (go_at_call 32; refine (H4'.out _ hbc).mono ?_; rintro e w' ⟨rfl, rfl⟩)
      all_goals
        go_wp2_with fail
        go_roundw
        case rel => exact ⟨i + 1, _, _, _, by omega, by go_num, HN4.out⟩
        case measure => simp [intOf]; omega
    · have hie : i = n := by omega
      subst hie
      obtain ⟨bF, rfl, hL2⟩ := HJ.out.two hnn.1
      obtain ⟨es, hes⟩ : ∃ es, es = qs.map bare := ⟨_, rfl⟩
      have hqn := HJ.out.len
      rw [← hes] at hL2
      have HL2 := Lib.hid hL2
      clear hL2 hes hlt hin1 HJ
      go_wp2_with fail
      go_loopw [7] (fun s wr => ∃ (k : Nat) (es : List Ent), k ≤ i ∧ s = .int .i64 k ∧ Hid (L2 w B ch i bF c1 wr k es)) (fun s _ => i - (intOf s).toNat)
      case atStart => exact ⟨0, es, Nat.zero_le _, rfl, HL2.out⟩
      case round =>
        clear HL2 es
        obtain ⟨k, es, hki, rfl, HJ⟩ := hrel
        by_cases hlt : k < i
        · have hlt2 : (k : Int) < i := by omega
          obtain ⟨x, hx⟩ : ∃ x, es[k]? = some x := ⟨_, List.getElem?_eq_getElem (by rw [HJ.out.len]; exact hlt)⟩
          obtain ⟨hxA, hxc, hxb⟩ := HJ.out.late k x (Nat.le_refl _) hx
          have hxx := (HJ.out.all x (List.mem_of_getElem? hx)).2.2
          obtain ⟨Wd, hWd⟩ : ∃ Wd, Wd = wr.drew := ⟨_, rfl⟩
          have HJD : Hid (L2 w B ch i bF c1 Wd k es) := Lib.hid (by rw [hWd]; exact HJ.out.drew)
          have ec : ∀ j v, (entC x)[j]? = some v → Wd.cell? ⟨bF, k * 4 + j, none⟩ = some v := fun j v hv => by
            have := HJD.out.own.cells (g := bF) rfl _ _ (entsC_get es k x hx j v hv)
            rwa [Addr.add_lit, Nat.zero_add] at this
          have e0 := ec 0 _ rfl
          rw [Nat.add_zero] at e0
          have e1 := ec 1 _ rfl
          have e2 := ec 2 _ rfl
          have e3 := ec 3 _ rfl
          rw [hxA, hxb, hxc] at e2
          have z0 := HJD.out.blk.cell 0
          have z1 := HJD.out.blk.cell 1
          simp only [List.getElem?_toArray, List.getElem?_cons_zero, List.getElem?_cons_succ] at z0 z1
          have hkb : (0 : Int) ≤ (k : Int) ∧ (k : Int) < (i : Int) := ⟨by omega, hlt2⟩
          have hw11 : IntKind.i64.wrap (11 * (k : Int)) = 11 * (k : Int) := by rw [IntKind.wrap_i64]; omega
          have hw8 : IntKind.i64.wrap (8 + 11 * (k : Int)) = 8 + 11 * (k : Int) := by rw [IntKind.wrap_i64]; omega
          have HX := Lib.hid hx
          have HXA := Lib.hid (And.intro hxA (And.intro hxc hxb))
          clear ec hx hxA hxc hxb
          go_upto_region 11 with fail
          refine wp_region_still_tail 11 (by kernel_rfl) (by kernel_rfl) ?_
          simp only [List.take_succ_cons, List.take_zero, List.drop_succ_cons, List.drop_zero]
          change wpStill _ _ wr.drew (fun a' => wpList _ _ _ _ a' wr.drew) _ _
          rw [← hWd]
          have HWD := Lib.hid hWd
          clear hWd
          repeat still_step
          refine wpStill_nil ?_
          go_upto_region 12 with fail
          obtain ⟨g, hg⟩ : ∃ g, g = Wd.heap.size := ⟨_, rfl⟩
          obtain ⟨W3, hW3⟩ : ∃ W3, W3 = Wd.alloc (.cells #[.int .i64 ch, .slice (some ⟨bF, 0, none⟩) i c1, .int .i64 x.p, .int .i64 x.w, .slice none 0 0, .slice none 0 0, .slice A L.length c, .int .i64 (8 + 11 * (k : Int)), .int .i64 14] 62) := ⟨_, rfl⟩
          obtain ⟨fx, hfx⟩ : ∃ fx : Fx, fx = ⟨ch, bF, 0, i, c1, x.p, x.w, A, L.length, c⟩ := ⟨_, rfl⟩
          obtain ⟨a0, ha0⟩ : ∃ a0, a0 = 8 + 11 * k := ⟨_, rfl⟩
          have hac : (8 + 11 * (k : Int)) = (a0 : Int) := by omega
          have hb3 : Below g Wd W3 := by rw [hW3, hg]; exact below_new _ _
          have hbF := HJD.out.bF_lt
          have hm3 : MkR W3 g fx (none, 0) [] a0 14 := by
            rw [hW3, hfx, hg, hac]
            exact ⟨Blk.new _ _ _, World.ownsRow_nil _ _ _ _, fun x hx => by cases hx⟩
          have hf3 : FxOk W3 g fx L (es.map (·.p)) := by
            have hb4 : Below w.heap.size w W3 := bt HJD.out.below (by rw [← hg]; exact hb3)
            have hl3 : L2 w B ch i bF c1 W3 k es := HJD.out.next (by rw [← hg]; exact hb3)
            rw [hfx]
            refine ⟨⟨hcb.1, by show ch ≤ 3; omega⟩, ⟨hxx.2.1, by show x.w ≤ 100; omega⟩, hnn, rfl, (HL.out.keep (Keeps.below HIN.out hb4)).mono fun b hb => ?_, HRR.out, HLL.out, by show bF < g; omega, by show (es.map _).length = i; rw [List.length_map]; exact HJD.out.len, fun j p hp => hl3.ps j p hp⟩
            have h1 := HIN.out b hb
            have h2 := HJD.out.below.size
            show b < g
            omega
          rw [← hW3, ← hg]
          have HMA := Lib.hid hm3
          have HF := Lib.hid hf3
          have HG := Lib.hid hg
          have HB3 := Lib.hid hb3
          have HA0 : Hid (a0 ≤ 100) := Lib.hid (by omega)
          have HFX := Lib.hid hfx
          clear hfx hW3 hg hb3 hm3 hf3 hw11 hw8 hac ha0 e0 e1 e2 e3 z0 z1
          go_wp2_with fail
          go_loopw [9] (fun s wq => ∃ (j : Nat) (v' : Option Addr × Nat) (body' : List Ins) (a' : Nat) (l' : Int), j ≤ 3 ∧ s = .int .i64 j ∧ Hid (MkR wq g fx v' body' a' l' ∧ Below g W3 wq ∧ Cur 0 14 a0 (2 * j) (2 * j) (7 * j) body'.length l' a')) (fun s _ => 4 - (intOf s).toNat)
          case atStart => exact ⟨0, _, _, _, _, by omega, rfl, HMA.out, Below.refl _ _, Cur.zero _ _ _⟩
          case round =>
            obtain ⟨j, v', body', a', l', hj3, rfl, HI2⟩ := hrel
            have HMV := Lib.hid HI2.out.1
            have HBV := Lib.hid HI2.out.2.1
            have HCU := Lib.hid HI2.out.2.2
            go_upto_if 59 with (first
              | (go_at_call 33; refine (pick_is HMV.out (HF.out.next HBV.out) _ (by omega) (by have := HCU.out.at_; have := HA0.out; omega)).mono ?_; rintro e w2 ⟨k2, rfl, hk2, hm2, hb2⟩; replace HCU := Lib.hid HCU.out.pick; replace HBV := Lib.hid (HBV.out.trans hb2); replace HMV := Lib.hid hm2; clear hm2 hb2))
            by_cases hjk : (j : Int) < (k2 : Int)
            · have hd7 : decide ((j : Int) < (k2 : Int)) = true := decide_eq_true hjk
              go_wp2_with (first
                | (go_at_call 34; refine (step_is g fx L _ 14 _ _ _ _ _ HMV.out (HF.out.next HBV.out) (by have := HCU.out.left; omega) (HCU.out.room (K := 700000) (M := -90000) (by omega) (by have := HA0.out; omega) (by omega)).1 (HCU.out.room (K := 700000) (M := -90000) (by omega) (by have := HA0.out; omega) (by omega)).2.2 (HCU.out.room (K := 700000) (M := -90000) (by omega) (by have := HA0.out; omega) (by omega)).2.1).mono ?_; rintro e w5 ⟨v5, body5, a5, l5, rfl, hm5, hb5, hc5⟩; replace HCU := Lib.hid (HCU.out.call hc5); replace HBV := Lib.hid (HBV.out.trans hb5); replace HMV := Lib.hid hm5; clear hm5 hb5 hc5))
              go_roundw
              case rel => exact ⟨j + 1, _, _, _, _, by omega, by go_num, HMV.out, HBV.out, by have h := HCU.out; exact ⟨h.left, h.grow, by have := h.hi; omega, by have := h.lo; omega, by have := h.at_; omega⟩⟩
              case measure => simp [intOf]; omega
            · have hd7 : decide ((j : Int) < (k2 : Int)) = false := decide_eq_false hjk
              go_upto_region 18 with (first
                | (go_at_call 35; refine (put_is3 HMV.out _ _ _ (by unfold inRange; omega) (by unfold inRange; omega) (by unfold inRange; omega) (by have := HCU.out.hi; omega)).mono ?_; rintro e w6 ⟨v6, body6, rfl, hl6, hm6, hb6⟩; replace HCU := Lib.hid (HCU.out.put2 hl6); replace HBV := Lib.hid (HBV.out.trans hb6); replace HMV := Lib.hid hm6; clear hm6 hb6 hl6))
              have hbody : body6.length ≤ 2000 := by have := HCU.out.hi; omega
              obtain ⟨W7, hW7⟩ : ∃ W7, W7 = w6.drew := ⟨_, rfl⟩
              have HM7 : Hid (MkR W7 g fx v6 body6 _ _) := Lib.hid (by rw [hW7]; exact HMV.out.drew)
              have hb7 : Below Wd.heap.size Wd W7 := by rw [← HG.out, hW7]; exact (HB3.out.trans HBV.out).drew
              have HL7 : Hid (L2 w B ch i bF c1 W7 k es) := Lib.hid (HJD.out.next hb7)
              have hB7 : Hid (BodyR W7 (fun b => B + 2 ≤ b ∧ b < W7.heap.size ∧ b ≠ bF) ⟨x.p, x.w, v6.1, v6.2, body6⟩) := Lib.hid (body_of HM7.out (by have := HG.out; omega) (by have := HG.out; omega) hbody _ _ (by unfold inRange; have := hxx.1; omega) (by unfold inRange; have := hxx.2; omega))
              have g2 := HM7.out.cell 2
              have g3 := HM7.out.cell 3
              have g4 := HM7.out.cell 4
              have g5 := HM7.out.cell 5
              rw [HFX.out] at g2 g3 g4 g5
              simp only [mk8, List.getElem?_cons_zero, List.getElem?_cons_succ] at g2 g3 g4 g5
              have z1 := HL7.out.blk.cell 1
              simp only [List.getElem?_toArray, List.getElem?_cons_zero, List.getElem?_cons_succ] at z1
              have ec : ∀ j v, (entC x)[j]? = some v → W7.cell? ⟨bF, k * 4 + j, none⟩ = some v := fun j v hv => by
                have := HL7.out.own.cells (g := bF) rfl _ _ (entsC_get es k x HX.out j v hv)
                rwa [Addr.add_lit, Nat.zero_add] at this
              have e0 := ec 0 _ rfl
              rw [Nat.add_zero] at e0
              have e1 := ec 1 _ rfl
              have e2 := ec 2 _ rfl
              have e3 := ec 3 _ rfl
              have fz : ∀ q, W7.frozen? ⟨bF, q, none⟩ = false := fun q => HL7.out.own.frozenAt q
              have q0 := fz (k * 4); have q1 := fz (k * 4 + 1); have q2 := fz (k * 4 + 2); have q3 := fz (k * 4 + 3)
              clear ec fz
              refine wp_region_still_tail 8 (by kernel_rfl) (by kernel_rfl) ?_
              simp only [List.take_succ_cons, List.take_zero, List.drop_succ_cons, List.drop_zero]
              change wpStill _ _ w6.drew (fun a' => wpList _ _ _ _ a' w6.drew) _ _
              rw [← hW7]
              have HW7 := Lib.hid hW7
              clear hW7
              repeat still_step
              refine wpStill_nil ?_
              go_wp2_with fail
              go_roundw
              case rel => exact ⟨k + 1, _, by omega, by go_num, HL7.out.put hlt _ hB7.out hbody hxx⟩
              case measure => simp [intOf]; omega
        · have hke : k = i := by omega
          subst hke
          have z0 := HJ.out.blk.cell 0
          have z1 := HJ.out.blk.cell 1
          have r0 := HJ.out.res.cell 0
          have r1 := HJ.out.res.cell 1
          have q0 := HJ.out.res.frozen 0
          have q1 := HJ.out.res.frozen 1
          simp only [List.getElem?_toArray, List.getElem?_cons_zero, List.getElem?_cons_succ] at z0 z1 r0 r1
          have HCO := Lib.hid (HJ.out.co hnn.2)
          have HLO := Lib.hid HJ.out.low
          clear hki
          go_wp2_with fail
          refine bodyPost_ret (v := .agg #[.int .i64 ch, .slice (some ⟨bF, 0, none⟩) k c1]) (by simp [results, Tryd.results8, go_sem, r0, r1]) rfl ⟨ch, es, some ⟨bF, 0, none⟩, c1, by rw [HJ.out.len], ?_, ?_, ⟨⟨hcb.1, by omega⟩, by rw [HJ.out.len]; exact hnn, fun e he => (HJ.out.all e he).2.1⟩⟩
          · refine HCO.out.keep (Keeps.setCell (Keeps.setCell (Keeps.refl _ _) (fun h => by have : B + 2 ≤ B := h.1; omega) _) (fun h => by have : B + 2 ≤ B := h.1; omega) _) fun b hb => ⟨by have := HLO.out; omega, ?_⟩
            simpa using hb.2
          · exact below_set (below_set HJ.out.below (Nat.le_of_eq HLO.out.symm) _ _) (Nat.le_of_eq HLO.out.symm) _ _
end Go.Proofs.YtbdknncmlcbbpaaDoor
