/-
  The walk of the law that trees are ordered.
-/
import Derived.Test.YtojicjdlopbeiaaDoorG30
import Derived.Test.YtojicjdlopbeiaaDoorG31
set_option linter.unusedVariables false
namespace Go.Proofs.YtojicjdlopbeiaaDoor
open Go.RowKit WM TR

/-- A literal of four nodes, kept shut. -/
def bs4 (parts : Array (Nat × Value)) : Sem Value := Instr.buildSlice 23 4 parts
theorem shutB4 (parts : Array (Nat × Value)) : Instr.buildSlice 23 4 parts = bs4 parts := rfl
set_option maxRecDepth 100000 in
theorem run_bs4 (W : World) (a1 a2 a3 a4 b1 b2 b3 b4 c1 c2 c3 c4 d1 d2 d3 d4 : Value) : (bs4 #[(0, .agg #[a1, a2, a3, a4]), (1, .agg #[b1, b2, b3, b4]), (2, .agg #[c1, c2, c3, c4]), (3, .agg #[d1, d2, d3, d4])]).run Tryd.prog W = .ok (.slice (some ⟨W.heap.size, 0, none⟩) 4 4) (W.alloc (.cells #[a1, a2, a3, a4, b1, b2, b3, b4, c1, c2, c3, c4, d1, d2, d3, d4] 25)) := by kernel_rfl
attribute [local go_sem ↓ high] shutB4
attribute [local go_sem] run_bs4

/-- A row of trees, below the world's end. -/
def RowT (w : World) (g o : Nat) (ts : List T) : Prop :=
  g < w.heap.size ∧ ∀ (i : Nat) (t : T), ts[i]? = some t → ∃ A c D, (∀ (j : Nat) (v : Value), (nd t A c)[j]? = some v → w.cell? ⟨g, o + i * 4 + j, none⟩ = some v) ∧ Rep w (fun b => b < w.heap.size) D t (nd t A c)
theorem row4 {w : World} {a b c d : T} {A1 A2 A3 A4 : Option Addr} {c1 c2 c3 c4 D1 D2 D3 D4 : Nat} (ha : Rep w (fun b => b < w.heap.size) D1 a (nd a A1 c1)) (hb : Rep w (fun b => b < w.heap.size) D2 b (nd b A2 c2)) (hc : Rep w (fun b => b < w.heap.size) D3 c (nd c A3 c3)) (hd : Rep w (fun b => b < w.heap.size) D4 d (nd d A4 c4)) :
    RowT (w.alloc (.cells #[.int .i64 a.k, .int .i64 a.n, .int .i64 a.m, .slice A1 a.kids.length c1, .int .i64 b.k, .int .i64 b.n, .int .i64 b.m, .slice A2 b.kids.length c2, .int .i64 c.k, .int .i64 c.n, .int .i64 c.m, .slice A3 c.kids.length c3, .int .i64 d.k, .int .i64 d.n, .int .i64 d.m, .slice A4 d.kids.length c4] 25)) w.heap.size 0 [a, b, c, d] := by
  have hB := Blk.new w 25 #[.int .i64 a.k, .int .i64 a.n, .int .i64 a.m, .slice A1 a.kids.length c1, .int .i64 b.k, .int .i64 b.n, .int .i64 b.m, .slice A2 b.kids.length c2, .int .i64 c.k, .int .i64 c.n, .int .i64 c.m, .slice A3 c.kids.length c3, .int .i64 d.k, .int .i64 d.n, .int .i64 d.m, .slice A4 d.kids.length c4]
  have kp : ∀ {D : Nat} {t : T} {cs : List Value}, Rep w (fun q => q < w.heap.size) D t cs → Rep (w.alloc (.cells #[.int .i64 a.k, .int .i64 a.n, .int .i64 a.m, .slice A1 a.kids.length c1, .int .i64 b.k, .int .i64 b.n, .int .i64 b.m, .slice A2 b.kids.length c2, .int .i64 c.k, .int .i64 c.n, .int .i64 c.m, .slice A3 c.kids.length c3, .int .i64 d.k, .int .i64 d.n, .int .i64 d.m, .slice A4 d.kids.length c4] 25)) (fun q => q < (w.alloc (.cells #[.int .i64 a.k, .int .i64 a.n, .int .i64 a.m, .slice A1 a.kids.length c1, .int .i64 b.k, .int .i64 b.n, .int .i64 b.m, .slice A2 b.kids.length c2, .int .i64 c.k, .int .i64 c.n, .int .i64 c.m, .slice A3 c.kids.length c3, .int .i64 d.k, .int .i64 d.n, .int .i64 d.m, .slice A4 d.kids.length c4] 25)).heap.size) D t cs := fun h =>
    (h.keep (Keeps.below (in_lt w) (below_new _ _))).mono fun q hq => Nat.lt_of_lt_of_le hq (below_new w _).size
  refine ⟨hB.lt, fun i t ht => ?_⟩
  match i, ht with
  | 0, ht => cases ht; exact ⟨A1, c1, D1, fun j v hv => by rw [hB.cell]; match j, hv with | 0, hv => exact hv | 1, hv => exact hv | 2, hv => exact hv | 3, hv => exact hv | j + 4, hv => simp [nd] at hv, kp ha⟩
  | 1, ht => cases ht; exact ⟨A2, c2, D2, fun j v hv => by rw [hB.cell]; match j, hv with | 0, hv => exact hv | 1, hv => exact hv | 2, hv => exact hv | 3, hv => exact hv | j + 4, hv => simp [nd] at hv, kp hb⟩
  | 2, ht => cases ht; exact ⟨A3, c3, D3, fun j v hv => by rw [hB.cell]; match j, hv with | 0, hv => exact hv | 1, hv => exact hv | 2, hv => exact hv | 3, hv => exact hv | j + 4, hv => simp [nd] at hv, kp hc⟩
  | 3, ht => cases ht; exact ⟨A4, c4, D4, fun j v hv => by rw [hB.cell]; match j, hv with | 0, hv => exact hv | 1, hv => exact hv | 2, hv => exact hv | 3, hv => exact hv | j + 4, hv => simp [nd] at hv, kp hd⟩
  | n + 4, ht => simp at ht

theorem row_nd {w : World} {g o i c : Nat} {t : T} {A : Option Addr} (h : w.cell? ⟨g, o + i * 4, none⟩ = some (.int .i64 t.k) ∧ w.cell? ⟨g, o + i * 4 + 1, none⟩ = some (.int .i64 t.n) ∧ w.cell? ⟨g, o + i * 4 + 2, none⟩ = some (.int .i64 t.m) ∧ w.cell? ⟨g, o + i * 4 + 3, none⟩ = some (.slice A t.kids.length c)) :
    ∀ j v, (nd t A c)[j]? = some v → w.cell? ⟨g, o + i * 4 + j, none⟩ = some v := fun j v hv => by
  match j, hv with
  | 0, hv => cases hv; exact h.1
  | 1, hv => cases hv; exact h.2.1
  | 2, hv => cases hv; exact h.2.2.1
  | 3, hv => cases hv; exact h.2.2.2
  | j + 4, hv => simp [nd] at hv
set_option maxRecDepth 100000 in
set_option maxHeartbeats 8000000 in
theorem order_is (L M : List Int) (at_ how by_ : Int) (S : Nat → Prop) (A B : Option Addr) (c c' : Nat) (w : World) (hL : Rd w S 1 A L.length (vi L)) (hM : Rd w S 1 B M.length (vi M)) (hin : In S w.heap.size) (hrL : ∀ x ∈ L, inRange x) (hrM : ∀ x ∈ M, inRange x) (hlL : L.length ≤ 9223372036854775807) (hlM : M.length ≤ 9223372036854775807) (ha : inRange at_) (hh : inRange how) (hy : inRange by_) (hT : ST w) (hg : 0 < w.heap.size) :
    Calls Tryd.prog 8 #[.slice A L.length c, .slice B M.length c', .int .i64 at_, .int .i64 how, .int .i64 by_] w fun e w' => e = .returned (.bool true) ∧ Below w.heap.size w w' := by
  obtain ⟨x, hx⟩ : ∃ x, x = genTree L := ⟨_, rfl⟩
  obtain ⟨z, hz⟩ : ∃ z, z = genTree M := ⟨_, rfl⟩
  obtain ⟨n, hn⟩ : ∃ n, n = size x := ⟨_, rfl⟩
  have hsx : size x ≤ 4096 := by rw [hx]; exact genTree_size L
  have hsz : size z ≤ 4096 := by rw [hz]; exact genTree_size M
  have hn0 : 0 < n := by rw [hn]; exact size_pos x
  have hn1 : n ≤ 4096 := by omega
  have har := arnd_le (x := at_) (n := (n : Int)) (by omega)
  obtain ⟨k, hk⟩ : ∃ k : Nat, arnd at_ (n : Int) = (k : Int) := ⟨(arnd at_ n).toNat, by omega⟩
  have hkb : (0 : Int) ≤ k ∧ (k : Int) < n := ⟨by omega, by omega⟩
  have hpn : (paths x).length = n := by rw [paths_length, hn]
  obtain ⟨p, hp⟩ : ∃ p, (paths x)[k]? = some p := ⟨_, List.getElem?_eq_getElem (by omega)⟩
  obtain ⟨old, hold⟩ := at_of_idx p x k (idx_paths x k p hp)
  have HTX : Hid (∀ W, Below w.heap.size w W → Calls Tryd.prog 10 #[.slice A L.length c] W (MadeT x 6 W)) := Lib.hid (fun W hb => by rw [hx]; exact Tree_is L S A c W (hL.keep (Keeps.below hin hb)) (hin.more hb.size) hrL hlL)
  have HTZ : Hid (∀ W, Below w.heap.size w W → Calls Tryd.prog 10 #[.slice B M.length c'] W (MadeT z 6 W)) := Lib.hid (fun W hb => by rw [hz]; exact Tree_is M S B c' W (hM.keep (Keeps.below hin hb)) (hin.more hb.size) hrM hlM)
  have HAR : Hid (∀ W, Calls Tryd.prog 14 #[.int .i64 at_, .int .i64 (n : Int)] W fun e w' => e = .returned (.int .i64 (k : Int)) ∧ W = w') := Lib.hid (fun W => by rw [← hk]; exact around_is at_ n ha (by omega) W)
  have hq6 : inRange (how.tdiv 6) := by
    have h : (how.tdiv 6).natAbs = how.natAbs / 6 := Int.natAbs_tdiv how 6
    unfold inRange at *; omega
  have HPL : Hid (p.length ≤ 9223372036854775807) := Lib.hid (by have := path_le x p (List.mem_of_getElem? hp); omega)
  have HP := Lib.hid hp
  have HPN := Lib.hid hpn
  have HOLD := Lib.hid hold
  have HSX : Hid (size x = n) := Lib.hid hn.symm
  have HSX2 : Hid (size x ≤ 1000000) := Lib.hid (by omega)
  have HSX3 : Hid (size x ≤ 4096) := Lib.hid hsx
  have HSZ2 : Hid (size z ≤ 1000000) := Lib.hid (by omega)
  have HSZ3 : Hid (size z ≤ 4096) := Lib.hid hsz
  have HT := Lib.hid hT
  have HG := Lib.hid hg
  have HRA := Lib.hid ha
  have HRH := Lib.hid hh
  have HRY := Lib.hid hy
  have HRQ := Lib.hid hq6
  have HW6 : Hid (IntKind.i64.wrap (how.tdiv 6) = how.tdiv 6) := Lib.hid (by rw [IntKind.wrap_i64]; unfold inRange at hq6; omega)
  have HR0 := Lib.hid (Below.refl w.heap.size w)
  have hmo : Tryd.prog.follows .mixedOrders = true := by kernel_rfl
  clear hx hz hn hsx hsz har hk hpn hp hold hL hM hin hrL hrM hlL hlM ha hh hy hT hg hq6
  go_enter Tryd.func8, Tryd.ntmps8
  go_upto_region 4 with (first
    | (refine wpList_load_mid rfl 25 (.tmp 11) rfl w1.heap.size 0 rfl [.int .i64 x.k, .int .i64 x.n, .int .i64 x.m, .slice A1 x.kids.length c1] _ H11.load Tryd.underlying25 rfl (by rw [size_node]; rfl) ?_)
    | (go_at_call 10; have hm := hb2; refine (HTZ.out _ (bt hbw (below_new _ _))).mono ?_; rintro e w3 ⟨A3, c3, rfl, hr3, hb3⟩
       have hb3' : Below w3.heap.size w3 (w3.alloc (.cells #[.int .i64 z.k, .int .i64 z.n, .int .i64 z.m, .slice A3 z.kids.length c3] 25)) := below_new _ _
       replace hb3 := bt hb3 hb3'
       have H12 := (Held.new hr2 (fun b hb => hb)).next hb3
       have H13 := Held.new hr3 (fun b hb => hb.2)
       replace H11 := (H11.next (below_new w2 (.cells #[.int .i64 y.k, .int .i64 y.n, .int .i64 y.m, .slice A2 y.kids.length c2] 25))).next hb3
       replace hbw := bt (bt hbw (below_new w2 (.cells #[.int .i64 y.k, .int .i64 y.n, .int .i64 y.m, .slice A2 y.kids.length c2] 25))) hb3
       clear hb3' hr2 hr3 hb3 hm hb2)
    | (go_at_call 10; refine (HTX.out _ HR0.out).mono ?_; rintro e w1 ⟨A1, c1, rfl, hr1, hb1⟩
       have H11 := Held.new hr1 (fun b hb => hb.2)
       have hbw := ba hb1 (.cells #[.int .i64 x.k, .int .i64 x.n, .int .i64 x.m, .slice A1 x.kids.length c1] 25)
       clear hr1)
    | (go_at_call 11; refine (spoilt_is 6 x A1 c1 at_ how by_ _ H11.2 (by have := HSX3.out; omega) HRA.out HRH.out HRY.out).mono ?_; rintro e w2 ⟨y, A2, c2, D2, rfl, hsy, hr2, hb2⟩
       have HSY : Hid (size y ≤ 8193) := Lib.hid (by have := HSX3.out; omega)
       replace H11 := H11.next hb2
       replace hbw := bt hbw hb2
       clear hsy))
  obtain ⟨W3, hW3⟩ : ∃ W3, W3 = w3.alloc (.cells #[.int .i64 z.k, .int .i64 z.n, .int .i64 z.m, .slice A3 z.kids.length c3] 25) := ⟨_, rfl⟩
  obtain ⟨g12, hg12⟩ : ∃ g, g = w2.heap.size := ⟨_, rfl⟩
  rw [← hW3] at H11 H12 H13 hbw ⊢
  rw [← hg12] at H12 ⊢
  have HK : Hid (∀ W', Below W3.heap.size W3 W' → W'.cell? ⟨w1.heap.size, 0, none⟩ = some (.int .i64 x.k) ∧ W'.cell? ⟨w1.heap.size, 1, none⟩ = some (.int .i64 x.n) ∧ W'.cell? ⟨w1.heap.size, 2, none⟩ = some (.int .i64 x.m) ∧ W'.cell? ⟨w1.heap.size, 3, none⟩ = some (.slice A1 x.kids.length c1) ∧ W'.cell? ⟨g12, 0, none⟩ = some (.int .i64 y.k) ∧ W'.cell? ⟨g12, 1, none⟩ = some (.int .i64 y.n) ∧ W'.cell? ⟨g12, 2, none⟩ = some (.int .i64 y.m) ∧ W'.cell? ⟨g12, 3, none⟩ = some (.slice A2 y.kids.length c2) ∧ W'.cell? ⟨w3.heap.size, 0, none⟩ = some (.int .i64 z.k) ∧ W'.cell? ⟨w3.heap.size, 1, none⟩ = some (.int .i64 z.n) ∧ W'.cell? ⟨w3.heap.size, 2, none⟩ = some (.int .i64 z.m) ∧ W'.cell? ⟨w3.heap.size, 3, none⟩ = some (.slice A3 z.kids.length c3)) := Lib.hid (fun W' h => by
    obtain ⟨a0, a1, a2, a3⟩ := (H11.next h).cells
    obtain ⟨b0, b1, b2, b3⟩ := (H12.next h).cells
    obtain ⟨d0, d1, d2, d3⟩ := (H13.next h).cells
    exact ⟨a0, a1, a2, a3, b0, b1, b2, b3, d0, d1, d2, d3⟩)
  have HSP : Hid (∀ W', Below W3.heap.size W3 W' → Calls Tryd.prog 11 #[.agg #[.int .i64 y.k, .int .i64 y.n, .int .i64 y.m, .slice A2 y.kids.length c2], .int .i64 by_, .int .i64 (IntKind.i64.wrap (how.tdiv 6)), .int .i64 at_] W' (SpPost y W')) := Lib.hid (fun W' h => by rw [HW6.out]; exact spoilt_is D2 y A2 c2 by_ (how.tdiv 6) at_ W' (H12.next h).2 (by have := HSY.out; omega) HRY.out HRQ.out HRA.out)
  have X11 := Lib.hid H11
  have X12 := Lib.hid H12
  have X13 := Lib.hid H13
  have XBW := Lib.hid hbw
  have hbc : Below W3.heap.size W3 W3.drew := (Below.refl _ _).drew
  clear hW3 hg12 H11 H12 H13 hbw hb1
  go_cut [14] from 34 to 43 (fun s14 wv => ∃ (gr or : Nat) (u : T) (V : World), V = wv ∧ s14 = .slice (some ⟨gr, or, none⟩) 4 4 ∧ Hid (RowT V gr or [x, y, z, u] ∧ size u ≤ 20000 ∧ Below W3.heap.size W3 V))
  case first =>
    refine wp_region_noPanic ?_
    go_region_held2 (fun W' => W'.cell? ⟨w1.heap.size, 0, none⟩ = some (.int .i64 x.k) ∧ W'.cell? ⟨w1.heap.size, 1, none⟩ = some (.int .i64 x.n) ∧ W'.cell? ⟨w1.heap.size, 2, none⟩ = some (.int .i64 x.m) ∧ W'.cell? ⟨w1.heap.size, 3, none⟩ = some (.slice A1 x.kids.length c1) ∧ W'.cell? ⟨g12, 0, none⟩ = some (.int .i64 y.k) ∧ W'.cell? ⟨g12, 1, none⟩ = some (.int .i64 y.n) ∧ W'.cell? ⟨g12, 2, none⟩ = some (.int .i64 y.m) ∧ W'.cell? ⟨g12, 3, none⟩ = some (.slice A2 y.kids.length c2) ∧ W'.cell? ⟨w3.heap.size, 0, none⟩ = some (.int .i64 z.k) ∧ W'.cell? ⟨w3.heap.size, 1, none⟩ = some (.int .i64 z.n) ∧ W'.cell? ⟨w3.heap.size, 2, none⟩ = some (.int .i64 z.m) ∧ W'.cell? ⟨w3.heap.size, 3, none⟩ = some (.slice A3 z.kids.length c3))
      (first | exact HK.out _ hbc | exact HK.out _ (ba hbc _))
      (first
      | (go_at_call 11; refine (HSP.out _ hbc).mono ?_; rintro e w4 ⟨u, A4, c4, D4, rfl, hsu, hr4, hb4⟩; replace hbc := bt hbc hb4; clear hb4))
    all_goals
      refine NoPanic.normal ?_
      go_wp2_with fail
      go_meet
      exact ⟨_, _, u, _, rfl, rfl, row4 (X11.out.next hbc).2 (X12.out.next hbc).2 (X13.out.next hbc).2 hr4, by have := HSY.out; omega, ba hbc _⟩
  case rest =>
  obtain ⟨gr, or, u, W4, hW4, rfl, HH⟩ := hcut
  subst hW4
  have HB34 : Hid (Below W3.heap.size W3 W4) := Lib.hid HH.out.2.2
  obtain ⟨ts, hts⟩ : ∃ ts, ts = [x, y, z, u] := ⟨_, rfl⟩
  have HTSL : Hid (ts.length = 4) := Lib.hid (by rw [hts]; rfl)
  have HTSS : Hid (∀ t ∈ ts, size t ≤ 1000000) := Lib.hid (fun t ht => by
    rw [hts] at ht
    simp only [List.mem_cons, List.not_mem_nil, or_false] at ht
    rcases ht with rfl | rfl | rfl | rfl
    · exact HSX2.out
    · have := HSY.out; omega
    · exact HSZ2.out
    · have := HH.out.2.1; omega)
  have HROW : Hid (∀ (i : Nat) (t : T), ts[i]? = some t → ∃ A c, (∀ W', Below W4.heap.size W4 W' → W'.cell? ⟨gr, or + i * 4, none⟩ = some (.int .i64 t.k) ∧ W'.cell? ⟨gr, or + i * 4 + 1, none⟩ = some (.int .i64 t.n) ∧ W'.cell? ⟨gr, or + i * 4 + 2, none⟩ = some (.int .i64 t.m) ∧ W'.cell? ⟨gr, or + i * 4 + 3, none⟩ = some (.slice A t.kids.length c)) ∧ ∃ D, ∀ W', Below W4.heap.size W4 W' → Rep W' (fun b => b < W'.heap.size) D t (nd t A c)) := Lib.hid (fun i t ht => by
    rw [hts] at ht
    obtain ⟨hgl, hall⟩ := HH.out.1
    obtain ⟨A, c, D, hc, hr⟩ := hall i t ht
    refine ⟨A, c, fun W' h => ?_, D, fun W' h => (hr.keep (Keeps.below (in_lt W4) h)).mono fun b (hb : b < W4.heap.size) => Nat.lt_of_lt_of_le hb h.size⟩
    have hk := fun (j : Nat) (v : Value) (hv : (nd t A c)[j]? = some v) => (h.cell (p := ⟨gr, or + i * 4 + j, none⟩) hgl).trans (hc j v hv)
    exact ⟨hk 0 _ rfl, hk 1 _ rfl, hk 2 _ rfl, hk 3 _ rfl⟩)
  have HCMP : Hid (∀ (i j : Nat) (t v : T) (A B : Option Addr) (c c' D D' : Nat), (∀ W', Below W4.heap.size W4 W' → Rep W' (fun b => b < W'.heap.size) D t (nd t A c)) → (∀ W', Below W4.heap.size W4 W' → Rep W' (fun b => b < W'.heap.size) D' v (nd v B c')) → ts[i]? = some t → ts[j]? = some v → ∀ W', Below W4.heap.size W4 W' → Calls Tryd.prog 19 #[.agg #[.int .i64 t.k, .int .i64 t.n, .int .i64 t.m, .slice A t.kids.length c], .agg #[.int .i64 v.k, .int .i64 v.n, .int .i64 v.m, .slice B v.kids.length c']] W' fun e w' => e = .returned (.int .i64 (cmp t v)) ∧ Below W'.heap.size W' w') := Lib.hid (fun i j t v A B c c' D D' h1 h2 ht hv W' h =>
    tcmp_is _ t v _ _ A B c c' _ _ (h1 W' h) (h2 W' h) (in_lt _) (in_lt _) (HTSS.out t (List.mem_of_getElem? ht)) (HTSS.out v (List.mem_of_getElem? hv)))
  clear hts hbc HK HSP HH
  go_wp2_with fail
  go_loopw [15] (fun i wr => ∃ j : Nat, j ≤ 4 ∧ i = .int .i64 j ∧ Hid (Below W4.heap.size W4 wr)) (fun i _ => 4 - (intOf i).toNat)
  case atStart => exact ⟨0, Nat.zero_le _, rfl, Below.refl _ _⟩
  case round =>
    obtain ⟨i, hi, rfl, HBi⟩ := hrel
    by_cases hli : i < 4
    · obtain ⟨ti, hti⟩ : ∃ t, ts[i]? = some t := ⟨_, List.getElem?_eq_getElem (by rw [HTSL.out]; exact hli)⟩
      obtain ⟨Ai, ci, hKi, Di, hRi⟩ := HROW.out i ti hti
      have HTI := Lib.hid hti
      have HKI := Lib.hid hKi
      have HRI := Lib.hid hRi
      have hib : (0 : Int) ≤ i ∧ (i : Int) < 4 := ⟨by omega, by omega⟩
      clear hti hKi hRi
      go_wp2_with fail
      go_loopw [16] (fun s wq => ∃ j : Nat, j ≤ 4 ∧ s = .int .i64 j ∧ Hid (Below W4.heap.size W4 wq)) (fun s _ => 4 - (intOf s).toNat)
      case atStart => exact ⟨0, Nat.zero_le _, rfl, HBi.out⟩
      case round =>
        obtain ⟨j, hj, rfl, HBj⟩ := hrel
        by_cases hlj : j < 4
        · obtain ⟨tj, htj⟩ : ∃ t, ts[j]? = some t := ⟨_, List.getElem?_eq_getElem (by rw [HTSL.out]; exact hlj)⟩
          obtain ⟨Aj, cj, hKj, Dj, hRj⟩ := HROW.out j tj htj
          have HTJ := Lib.hid htj
          have HKJ := Lib.hid hKj
          have HRJ := Lib.hid hRj
          have hjb : (0 : Int) ≤ j ∧ (j : Int) < 4 := ⟨by omega, by omega⟩
          obtain ⟨X, hX⟩ : ∃ X, cmp ti tj = X := ⟨_, rfl⟩
          have hXb := cmp_le ti tj
          rw [hX] at hXb
          have HX := Lib.hid hX
          have hXw : IntKind.i64.wrap (- -X) = X := by rw [IntKind.wrap_i64]; omega
          have hXw2 : IntKind.i64.wrap X = X := by rw [IntKind.wrap_i64]; omega
          have hXX : (X != X) = false := by simp
          have hX1 : decide (X < -1) = false := by simp; omega
          have hX2 : decide (1 < X) = false := by simp; omega
          have F1 : Hid (∀ W', Below W4.heap.size W4 W' → Calls Tryd.prog 19 #[.agg #[.int .i64 ti.k, .int .i64 ti.n, .int .i64 ti.m, .slice Ai ti.kids.length ci], .agg #[.int .i64 tj.k, .int .i64 tj.n, .int .i64 tj.m, .slice Aj tj.kids.length cj]] W' fun e w' => e = .returned (.int .i64 X) ∧ Below W'.heap.size W' w') := Lib.hid (fun W' h => by rw [← HX.out]; exact HCMP.out i j ti tj Ai Aj ci cj Di Dj HRI.out HRJ.out HTI.out HTJ.out W' h)
          have F2 : Hid (∀ W', Below W4.heap.size W4 W' → Calls Tryd.prog 19 #[.agg #[.int .i64 tj.k, .int .i64 tj.n, .int .i64 tj.m, .slice Aj tj.kids.length cj], .agg #[.int .i64 ti.k, .int .i64 ti.n, .int .i64 ti.m, .slice Ai ti.kids.length ci]] W' fun e w' => e = .returned (.int .i64 (-X)) ∧ Below W'.heap.size W' w') := Lib.hid (fun W' h => by rw [← HX.out, ← cmp_neg]; exact HCMP.out j i tj ti Aj Ai cj ci Dj Di HRJ.out HRI.out HTJ.out HTI.out W' h)
          have HK2 : Hid (∀ W', Below W4.heap.size W4 W' → (W'.cell? ⟨gr, or + i * 4, none⟩ = some (.int .i64 ti.k) ∧ W'.cell? ⟨gr, or + i * 4 + 1, none⟩ = some (.int .i64 ti.n) ∧ W'.cell? ⟨gr, or + i * 4 + 2, none⟩ = some (.int .i64 ti.m) ∧ W'.cell? ⟨gr, or + i * 4 + 3, none⟩ = some (.slice Ai ti.kids.length ci)) ∧ (W'.cell? ⟨gr, or + j * 4, none⟩ = some (.int .i64 tj.k) ∧ W'.cell? ⟨gr, or + j * 4 + 1, none⟩ = some (.int .i64 tj.n) ∧ W'.cell? ⟨gr, or + j * 4 + 2, none⟩ = some (.int .i64 tj.m) ∧ W'.cell? ⟨gr, or + j * 4 + 3, none⟩ = some (.slice Aj tj.kids.length cj))) := Lib.hid (fun W' h => ⟨HKI.out W' h, HKJ.out W' h⟩)
          have HBJ2 := HBj
          have hbc : Below W4.heap.size W4 wr.drew := HBj.out.drew
          clear htj hKj hRj hX
          go_wp2_with fail
          go_cut [17] from 48 to 119 (fun s17 wv => ∃ V : World, V = wv ∧ s17 = .int .i64 X ∧ Hid (Below W4.heap.size W4 V))
          case first =>
            refine wp_region_noPanic ?_
            go_region_held2 (fun W' => (W'.cell? ⟨gr, or + i * 4, none⟩ = some (.int .i64 ti.k) ∧ W'.cell? ⟨gr, or + i * 4 + 1, none⟩ = some (.int .i64 ti.n) ∧ W'.cell? ⟨gr, or + i * 4 + 2, none⟩ = some (.int .i64 ti.m) ∧ W'.cell? ⟨gr, or + i * 4 + 3, none⟩ = some (.slice Ai ti.kids.length ci)) ∧ (W'.cell? ⟨gr, or + j * 4, none⟩ = some (.int .i64 tj.k) ∧ W'.cell? ⟨gr, or + j * 4 + 1, none⟩ = some (.int .i64 tj.n) ∧ W'.cell? ⟨gr, or + j * 4 + 2, none⟩ = some (.int .i64 tj.m) ∧ W'.cell? ⟨gr, or + j * 4 + 3, none⟩ = some (.slice Aj tj.kids.length cj)))
              (exact HK2.out _ hbc)
              (first
              | (go_at_call 19; refine (F1.out _ hbc).mono ?_; rintro e w5 ⟨rfl, hb5⟩; replace hbc := bt hbc hb5; clear hb5))
            all_goals
              refine NoPanic.normal ?_
              go_wp2_with fail
              go_meet
              exact ⟨_, rfl, rfl, hbc⟩
          case rest =>
            obtain ⟨V, hV, rfl, HBV⟩ := hcut
            subst hV
            have hbc : Below W4.heap.size W4 V.drew := HBV.out.drew
            go_wp2_with fail
            go_cut [89] from 48 to 119 (fun s89 wv => ∃ V : World, V = wv ∧ s89 = .bool false ∧ Hid (Below W4.heap.size W4 V))
            case first =>
              by_cases hij : i = j
              · have hX0 : (X != 0) = false := by
                  have h : X = 0 := by
                    rw [← HX.out]
                    have e : ti = tj := by
                      have h1 := HTI.out
                      have h2 := HTJ.out
                      rw [← hij] at h2
                      rw [h1] at h2
                      exact Option.some.inj h2
                    rw [e, cmp_self]
                  rw [h]; rfl
                have heq : ((i : Int) == (j : Int)) = true := by simp [hij]
                have HIJ := Lib.hid hij
                clear hij
                refine wp_region_noPanic ?_
                go_region_held2 (fun W' => (W'.cell? ⟨gr, or + i * 4, none⟩ = some (.int .i64 ti.k) ∧ W'.cell? ⟨gr, or + i * 4 + 1, none⟩ = some (.int .i64 ti.n) ∧ W'.cell? ⟨gr, or + i * 4 + 2, none⟩ = some (.int .i64 ti.m) ∧ W'.cell? ⟨gr, or + i * 4 + 3, none⟩ = some (.slice Ai ti.kids.length ci)) ∧ (W'.cell? ⟨gr, or + j * 4, none⟩ = some (.int .i64 tj.k) ∧ W'.cell? ⟨gr, or + j * 4 + 1, none⟩ = some (.int .i64 tj.n) ∧ W'.cell? ⟨gr, or + j * 4 + 2, none⟩ = some (.int .i64 tj.m) ∧ W'.cell? ⟨gr, or + j * 4 + 3, none⟩ = some (.slice Aj tj.kids.length cj)))
                  (exact HK2.out _ hbc)
                  (first
                  | (go_at_call 19; refine (F2.out _ hbc).mono ?_; rintro e w5 ⟨rfl, hb5⟩; replace hbc := bt hbc hb5; clear hb5))
                all_goals
                  refine NoPanic.normal ?_
                  go_wp2_with fail
                  go_meet
                  exact ⟨_, rfl, rfl, hbc⟩
              · have heq : ((i : Int) == (j : Int)) = false := by simp; omega
                have HIJ := Lib.hid hij
                clear hij
                have LI : Hid (∀ W, Below W4.heap.size W4 W → (Instr.loadAt 25 (.pointer (some ⟨gr, or + i * 4, none⟩))).run Tryd.prog W = .ok (.agg #[.int .i64 ti.k, .int .i64 ti.n, .int .i64 ti.m, .slice Ai ti.kids.length ci]) W) := Lib.hid (fun W hW => load_nd (row_nd (HKI.out W hW)))
                have LJ : Hid (∀ W, Below W4.heap.size W4 W → (Instr.loadAt 25 (.pointer (some ⟨gr, or + j * 4, none⟩))).run Tryd.prog W = .ok (.agg #[.int .i64 tj.k, .int .i64 tj.n, .int .i64 tj.m, .slice Aj tj.kids.length cj]) W) := Lib.hid (fun W hW => load_nd (row_nd (HKJ.out W hW)))
                refine wp_region_below W4 HBV.out (by kernel_rfl) (by kernel_rfl) ?_
                iterate 11 go_big_quiet_step ((intro _; rfl))
                refine wpQuiet_load' rfl 25 (.tmp 71) rfl _ rfl (.agg #[.int .i64 tj.k, .int .i64 tj.n, .int .i64 tj.m, .slice Aj tj.kids.length cj]) LJ.out ?_
                go_simp
                iterate 3 go_big_quiet_step ((intro _; rfl))
                refine wpQuiet_load' rfl 25 (.tmp 75) rfl _ rfl (.agg #[.int .i64 ti.k, .int .i64 ti.n, .int .i64 ti.m, .slice Ai ti.kids.length ci]) LI.out ?_
                go_simp
                go_big_quiet_step ((intro hw'; exact (F2.out _ hw').mono fun e w'' ⟨he, hb⟩ => ⟨he, bt hw' hb⟩))
                iterate 12 go_big_quiet_step ((intro _; rfl))
                refine wpQuiet_nil ?_
                intro w6 hb6
                go_wp2_with fail
                go_meet
                exact ⟨_, rfl, rfl, hb6⟩
            case rest =>
              obtain ⟨V2, hV2, rfl, HBV2⟩ := hcut
              subst hV2
              clear hbc F1 F2 HK2 hX1 hX2 hXX hXw hXw2
              go_wp2_with fail
              go_loopw [18] (fun s wq => ∃ m : Nat, m ≤ 4 ∧ s = .int .i64 m ∧ Hid (Below W4.heap.size W4 wq)) (fun s _ => 4 - (intOf s).toNat)
              case atStart => exact ⟨0, Nat.zero_le _, rfl, HBV2.out⟩
              case round =>
                obtain ⟨m, hm, rfl, HBm⟩ := hrel
                by_cases hlm : m < 4
                · obtain ⟨tm, htm⟩ : ∃ t, ts[m]? = some t := ⟨_, List.getElem?_eq_getElem (by rw [HTSL.out]; exact hlm)⟩
                  obtain ⟨Am, cm, hKm, Dm, hRm⟩ := HROW.out m tm htm
                  obtain ⟨Y, hY⟩ : ∃ Y, cmp tj tm = Y := ⟨_, rfl⟩
                  obtain ⟨Z, hZ⟩ : ∃ Z, cmp ti tm = Z := ⟨_, rfl⟩
                  have F3 : Hid (∀ W', Below W4.heap.size W4 W' → Calls Tryd.prog 19 #[.agg #[.int .i64 tj.k, .int .i64 tj.n, .int .i64 tj.m, .slice Aj tj.kids.length cj], .agg #[.int .i64 tm.k, .int .i64 tm.n, .int .i64 tm.m, .slice Am tm.kids.length cm]] W' fun e w' => e = .returned (.int .i64 Y) ∧ Below W'.heap.size W' w') := Lib.hid (fun W' h => by rw [← hY]; exact HCMP.out j m tj tm Aj Am cj cm Dj Dm HRJ.out hRm HTJ.out htm W' h)
                  have F4 : Hid (∀ W', Below W4.heap.size W4 W' → Calls Tryd.prog 19 #[.agg #[.int .i64 ti.k, .int .i64 ti.n, .int .i64 ti.m, .slice Ai ti.kids.length ci], .agg #[.int .i64 tm.k, .int .i64 tm.n, .int .i64 tm.m, .slice Am tm.kids.length cm]] W' fun e w' => e = .returned (.int .i64 Z) ∧ Below W'.heap.size W' w') := Lib.hid (fun W' h => by rw [← hZ]; exact HCMP.out i m ti tm Ai Am ci cm Di Dm HRI.out hRm HTI.out htm W' h)
                  have HK3 : Hid (∀ W', Below W4.heap.size W4 W' → (W'.cell? ⟨gr, or + i * 4, none⟩ = some (.int .i64 ti.k) ∧ W'.cell? ⟨gr, or + i * 4 + 1, none⟩ = some (.int .i64 ti.n) ∧ W'.cell? ⟨gr, or + i * 4 + 2, none⟩ = some (.int .i64 ti.m) ∧ W'.cell? ⟨gr, or + i * 4 + 3, none⟩ = some (.slice Ai ti.kids.length ci)) ∧ (W'.cell? ⟨gr, or + j * 4, none⟩ = some (.int .i64 tj.k) ∧ W'.cell? ⟨gr, or + j * 4 + 1, none⟩ = some (.int .i64 tj.n) ∧ W'.cell? ⟨gr, or + j * 4 + 2, none⟩ = some (.int .i64 tj.m) ∧ W'.cell? ⟨gr, or + j * 4 + 3, none⟩ = some (.slice Aj tj.kids.length cj)) ∧ (W'.cell? ⟨gr, or + m * 4, none⟩ = some (.int .i64 tm.k) ∧ W'.cell? ⟨gr, or + m * 4 + 1, none⟩ = some (.int .i64 tm.n) ∧ W'.cell? ⟨gr, or + m * 4 + 2, none⟩ = some (.int .i64 tm.m) ∧ W'.cell? ⟨gr, or + m * 4 + 3, none⟩ = some (.slice Am tm.kids.length cm))) := Lib.hid (fun W' h => ⟨HKI.out W' h, HKJ.out W' h, hKm W' h⟩)
                  have HKM := Lib.hid hKm
                  have HTR : Hid (X ≤ 0 → Y ≤ 0 → Z ≤ 0) := Lib.hid (fun h1 h2 => by rw [← hZ]; exact cmp_trans (u := tj) (by rw [HX.out]; exact h1) (by rw [hY]; exact h2))
                  have hmb : (0 : Int) ≤ m ∧ (m : Int) < 4 := ⟨by omega, by omega⟩
                  have hbc : Below W4.heap.size W4 wr.drew := HBm.out.drew
                  clear htm hKm hRm hY hZ
                  go_wp2_with fail
                  go_cut [119] from 90 to 119 (fun s119 wv => ∃ V : World, V = wv ∧ s119 = .bool false ∧ Hid (Below W4.heap.size W4 V))
                  case first =>
                    by_cases hXc : X ≤ 0
                    · have hXd : decide (X ≤ 0) = true := by simpa using hXc
                      by_cases hYc : Y ≤ 0
                      · have hYd : decide (Y ≤ 0) = true := by simpa using hYc
                        have hZc : Z ≤ 0 := HTR.out hXc hYc
                        have hZd : decide (0 < Z) = false := by simp; omega
                        have hXe : decide (0 < X) = false := by simp; omega
                        have hYe : decide (0 < Y) = false := by simp; omega
                        refine wp_region_noPanic ?_
                        go_region_held2 (fun W' => (W'.cell? ⟨gr, or + i * 4, none⟩ = some (.int .i64 ti.k) ∧ W'.cell? ⟨gr, or + i * 4 + 1, none⟩ = some (.int .i64 ti.n) ∧ W'.cell? ⟨gr, or + i * 4 + 2, none⟩ = some (.int .i64 ti.m) ∧ W'.cell? ⟨gr, or + i * 4 + 3, none⟩ = some (.slice Ai ti.kids.length ci)) ∧ (W'.cell? ⟨gr, or + j * 4, none⟩ = some (.int .i64 tj.k) ∧ W'.cell? ⟨gr, or + j * 4 + 1, none⟩ = some (.int .i64 tj.n) ∧ W'.cell? ⟨gr, or + j * 4 + 2, none⟩ = some (.int .i64 tj.m) ∧ W'.cell? ⟨gr, or + j * 4 + 3, none⟩ = some (.slice Aj tj.kids.length cj)) ∧ (W'.cell? ⟨gr, or + m * 4, none⟩ = some (.int .i64 tm.k) ∧ W'.cell? ⟨gr, or + m * 4 + 1, none⟩ = some (.int .i64 tm.n) ∧ W'.cell? ⟨gr, or + m * 4 + 2, none⟩ = some (.int .i64 tm.m) ∧ W'.cell? ⟨gr, or + m * 4 + 3, none⟩ = some (.slice Am tm.kids.length cm)))
                          (exact HK3.out _ hbc)
                          (first
                          | (go_at_call 19; have hm := mk1; refine (F4.out _ hbc).mono ?_; rintro e w7 ⟨rfl, hb7⟩; replace hbc := bt hbc hb7; clear hb7 hm)
                          | (go_at_call 19; refine (F3.out _ hbc).mono ?_; rintro e w6 ⟨rfl, hb6⟩; replace hbc := bt hbc hb6; have mk1 : True := trivial; clear hb6))
                        all_goals
                          refine NoPanic.normal ?_
                          go_wp2_with fail
                          go_meet
                          exact ⟨_, rfl, rfl, hbc⟩
                      · have hYd : decide (Y ≤ 0) = false := by simp; omega
                        have hXe : decide (0 < X) = false := by simp; omega
                        have hYe : decide (0 < Y) = true := by simp; omega
                        have hYf : 0 < Y := by omega
                        clear hYc
                        have LJ : Hid (∀ W, Below W4.heap.size W4 W → (Instr.loadAt 25 (.pointer (some ⟨gr, or + j * 4, none⟩))).run Tryd.prog W = .ok (.agg #[.int .i64 tj.k, .int .i64 tj.n, .int .i64 tj.m, .slice Aj tj.kids.length cj]) W) := Lib.hid (fun W hW => load_nd (row_nd (HKJ.out W hW)))
                        have LM : Hid (∀ W, Below W4.heap.size W4 W → (Instr.loadAt 25 (.pointer (some ⟨gr, or + m * 4, none⟩))).run Tryd.prog W = .ok (.agg #[.int .i64 tm.k, .int .i64 tm.n, .int .i64 tm.m, .slice Am tm.kids.length cm]) W) := Lib.hid (fun W hW => load_nd (row_nd (HKM.out W hW)))
                        refine wp_region_below W4 HBm.out (by kernel_rfl) (by kernel_rfl) ?_
                        iterate 6 go_big_quiet_step ((intro _; rfl))
                        refine wpQuiet_load' rfl 25 (.tmp 99) rfl _ rfl (.agg #[.int .i64 tj.k, .int .i64 tj.n, .int .i64 tj.m, .slice Aj tj.kids.length cj]) LJ.out ?_
                        go_simp
                        iterate 3 go_big_quiet_step ((intro _; rfl))
                        refine wpQuiet_load' rfl 25 (.tmp 103) rfl _ rfl (.agg #[.int .i64 tm.k, .int .i64 tm.n, .int .i64 tm.m, .slice Am tm.kids.length cm]) LM.out ?_
                        go_simp
                        go_big_quiet_step ((intro hw'; exact (F3.out _ hw').mono fun e w'' ⟨he, hb⟩ => ⟨he, bt hw' hb⟩))
                        iterate 14 go_big_quiet_step ((intro _; rfl))
                        refine wpQuiet_nil ?_
                        intro w6 hb6
                        go_wp2_with fail
                        go_meet
                        exact ⟨_, rfl, rfl, hb6⟩
                    · have hXd : decide (X ≤ 0) = false := by simp; omega
                      have hXe : decide (0 < X) = true := by simp; omega
                      have hXf : 0 < X := by omega
                      clear hXc
                      refine wp_region_below W4 HBm.out (by kernel_rfl) (by kernel_rfl) ?_
                      iterate 26 go_big_quiet_step ((intro _; rfl))
                      refine wpQuiet_nil ?_
                      intro w6 hb6
                      go_wp2_with fail
                      go_meet
                      exact ⟨_, rfl, rfl, hb6⟩
                  case rest =>
                    obtain ⟨V3, hV3, rfl, HBV3⟩ := hcut
                    subst hV3
                    go_wp2_with fail
                    go_roundw
                    case rel => exact ⟨m + 1, by omega, by go_num, HBV3.out⟩
                    case measure => simp [intOf]; omega
                · have hm4 : m = 4 := by omega
                  subst hm4
                  go_wp2_with fail
                  go_roundw
                  case rel => exact ⟨j + 1, by omega, by go_num, HBm.out⟩
                  case measure => simp [intOf]; omega
        · have hj4 : j = 4 := by omega
          subst hj4
          go_wp2_with fail
          go_roundw
          case rel => exact ⟨i + 1, by omega, by go_num, HBj.out⟩
          case measure => simp [intOf]; omega
    · have hi4 : i = 4 := by omega
      subst hi4
      have hb4 := bt HB34.out HBi.out
      have H11 := X11.out.next hb4
      have H12 := X12.out.next hb4
      have H13 := X13.out.next hb4
      have hbw := bt XBW.out hb4
      clear hb4 hli hi
      go_upto_region 21 with (first
        | (refine wpList_load_mid rfl 25 (.tmp 11) rfl w1.heap.size 0 rfl [.int .i64 x.k, .int .i64 x.n, .int .i64 x.m, .slice A1 x.kids.length c1] _ H11.load Tryd.underlying25 rfl (by rw [size_node]; rfl) ?_)
        | (go_at_call 22; refine (paths_is _ x _ A1 c1 _ H11.2 (in_lt _) HSX2.out).mono ?_; rintro e w10 ⟨A10, c10, rfl, hcap10, hps10, hb10⟩; rw [HSX.out]; have HPS : PsAt w10 A10 (paths x) := hps10.mono fun b hb => hb.2; clear hps10 hcap10; replace H11 := H11.next hb10; replace H12 := H12.next hb10; replace H13 := H13.next hb10; replace hbw := bt hbw hb10
           obtain ⟨b5, o5, A6, c6, hA5, hs5, hc5, hcq, hr6⟩ := HPS.at_ HP.out
           subst hA5
           have HP6 : RdAt w10 A6 p := hr6
           clear hb10 hr6 HPS)
        | (go_at_call 14; refine (HAR.out _).mono ?_; rintro e w' ⟨rfl, rfl⟩))
      obtain ⟨P, hPs⟩ := set_of_at z p x old HOLD.out
      obtain ⟨Q, hQs⟩ := set_of_at y p x old HOLD.out
      have hPsz := set_size z p x P hPs
      have hQsz := set_size y p x Q hQs
      have HSP2 : Hid (size P ≤ 1000000) := Lib.hid (by have := HSX3.out; have := HSZ3.out; omega)
      have HSQ2 : Hid (size Q ≤ 1000000) := Lib.hid (by have := HSX3.out; have := HSY.out; omega)
      have HSY2 : Hid (size y ≤ 1000000) := Lib.hid (by have := HSY.out; omega)
      have HCE : Hid (cmp P Q = cmp z y) := Lib.hid (cmp_set z y p x P Q hPs hQs)
      have FP : Hid (∀ W', Below w10.heap.size w10 W' → Calls Tryd.prog 28 #[.agg #[.int .i64 x.k, .int .i64 x.n, .int .i64 x.m, .slice A1 x.kids.length c1], .slice A6 p.length c6, .agg #[.int .i64 z.k, .int .i64 z.n, .int .i64 z.m, .slice A3 z.kids.length c3]] W' (Out2N w10.heap.size P (.int .i64 0) W')) := Lib.hid (fun W' h => by
        have H := rset_any h H11.2 H13.2 HP6 HSX2.out hcq HPL.out
        rw [hPs] at H
        exact H)
      have FQ : Hid (∀ W', Below w10.heap.size w10 W' → Calls Tryd.prog 28 #[.agg #[.int .i64 x.k, .int .i64 x.n, .int .i64 x.m, .slice A1 x.kids.length c1], .slice A6 p.length c6, .agg #[.int .i64 y.k, .int .i64 y.n, .int .i64 y.m, .slice A2 y.kids.length c2]] W' (Out2N w10.heap.size Q (.int .i64 0) W')) := Lib.hid (fun W' h => by
        have H := rset_any h H11.2 H12.2 HP6 HSX2.out hcq HPL.out
        rw [hQs] at H
        exact H)
      have hbx : Below w10.heap.size w10 w10 := Below.refl _ _
      clear hPs hQs hPsz hQsz hs5 hc5 hcq HP6
      go_upto_region 23 with (first
        | (refine wpList_load_mid rfl 25 (.tmp 11) rfl w1.heap.size 0 rfl [.int .i64 x.k, .int .i64 x.n, .int .i64 x.m, .slice A1 x.kids.length c1] _ H11.load Tryd.underlying25 rfl (by rw [size_node]; rfl) ?_)
        | (refine wpList_load_mid rfl 25 (.tmp 12) rfl g12 0 rfl [.int .i64 y.k, .int .i64 y.n, .int .i64 y.m, .slice A2 y.kids.length c2] _ H12.load Tryd.underlying25 rfl (by rw [size_node]; rfl) ?_)
        | (refine wpList_load_mid rfl 25 (.tmp 13) rfl w3.heap.size 0 rfl [.int .i64 z.k, .int .i64 z.n, .int .i64 z.m, .slice A3 z.kids.length c3] _ H13.load Tryd.underlying25 rfl (by rw [size_node]; rfl) ?_)
        | (go_at_call 28; have hm := H21; refine (FQ.out _ hbx).mono ?_; rintro e w12 ⟨A12, c12, D12, rfl, hr12, hb12⟩
           have hb12' := bt hb12 (below_new w12 (.cells #[.int .i64 Q.k, .int .i64 Q.n, .int .i64 Q.m, .slice A12 Q.kids.length c12] 25))
           have H23 := Held.new hr12 (fun b hb => hb.1)
           replace H11 := H11.next hb12'; replace H12 := H12.next hb12'; replace H13 := H13.next hb12'; replace H21 := H21.next hb12'; replace hbx := bt hbx hb12'; replace hbw := bt hbw hb12'; clear hb12 hb12' hr12 hm)
        | (go_at_call 28; refine (FP.out _ hbx).mono ?_; rintro e w11 ⟨A11, c11, D11, rfl, hr11, hb11⟩
           have hb11' := bt hb11 (below_new w11 (.cells #[.int .i64 P.k, .int .i64 P.n, .int .i64 P.m, .slice A11 P.kids.length c11] 25))
           have H21 := Held.new hr11 (fun b hb => hb.1)
           replace H11 := H11.next hb11'; replace H12 := H12.next hb11'; replace H13 := H13.next hb11'; replace hbx := bt hbx hb11'; replace hbw := bt hbw hb11'; clear hb11 hb11' hr11))
      obtain ⟨Wz, hWz⟩ : ∃ Wz, Wz = w12.alloc (.cells #[.int .i64 Q.k, .int .i64 Q.n, .int .i64 Q.m, .slice A12 Q.kids.length c12] 25) := ⟨_, rfl⟩
      rw [← hWz] at H12 H13 H21 H23 hbw ⊢
      obtain ⟨g23, hg23⟩ : ∃ g, g = w12.heap.size := ⟨_, rfl⟩
      rw [← hg23] at H23 ⊢
      obtain ⟨R, hR⟩ : ∃ R, cmp z y = R := ⟨_, rfl⟩
      have hRR : (R == R) = true := by simp
      have hT := HT.out.below hbw HG.out
      have hg := Nat.lt_of_lt_of_le HG.out hbw.size
      have HKF : Hid (∀ W', Below Wz.heap.size Wz W' → W'.cell? ⟨w11.heap.size, 0, none⟩ = some (.int .i64 P.k) ∧ W'.cell? ⟨w11.heap.size, 1, none⟩ = some (.int .i64 P.n) ∧ W'.cell? ⟨w11.heap.size, 2, none⟩ = some (.int .i64 P.m) ∧ W'.cell? ⟨w11.heap.size, 3, none⟩ = some (.slice A11 P.kids.length c11) ∧ W'.cell? ⟨g23, 0, none⟩ = some (.int .i64 Q.k) ∧ W'.cell? ⟨g23, 1, none⟩ = some (.int .i64 Q.n) ∧ W'.cell? ⟨g23, 2, none⟩ = some (.int .i64 Q.m) ∧ W'.cell? ⟨g23, 3, none⟩ = some (.slice A12 Q.kids.length c12) ∧ W'.cell? ⟨w3.heap.size, 0, none⟩ = some (.int .i64 z.k) ∧ W'.cell? ⟨w3.heap.size, 1, none⟩ = some (.int .i64 z.n) ∧ W'.cell? ⟨w3.heap.size, 2, none⟩ = some (.int .i64 z.m) ∧ W'.cell? ⟨w3.heap.size, 3, none⟩ = some (.slice A3 z.kids.length c3) ∧ W'.cell? ⟨g12, 0, none⟩ = some (.int .i64 y.k) ∧ W'.cell? ⟨g12, 1, none⟩ = some (.int .i64 y.n) ∧ W'.cell? ⟨g12, 2, none⟩ = some (.int .i64 y.m) ∧ W'.cell? ⟨g12, 3, none⟩ = some (.slice A2 y.kids.length c2)) := Lib.hid (fun W' h => by
        obtain ⟨a0, a1, a2, a3⟩ := (H21.next h).cells
        obtain ⟨b0, b1, b2, b3⟩ := (H23.next h).cells
        obtain ⟨d0, d1, d2, d3⟩ := (H13.next h).cells
        obtain ⟨f0, f1, f2, f3⟩ := (H12.next h).cells
        exact ⟨a0, a1, a2, a3, b0, b1, b2, b3, d0, d1, d2, d3, f0, f1, f2, f3⟩)
      have F5 : Hid (∀ W', Below Wz.heap.size Wz W' → Calls Tryd.prog 19 #[.agg #[.int .i64 P.k, .int .i64 P.n, .int .i64 P.m, .slice A11 P.kids.length c11], .agg #[.int .i64 Q.k, .int .i64 Q.n, .int .i64 Q.m, .slice A12 Q.kids.length c12]] W' fun e w' => e = .returned (.int .i64 R) ∧ Below W'.heap.size W' w') := Lib.hid (fun W' h => by
        rw [← hR, ← HCE.out]
        exact tcmp_is _ P Q _ _ A11 A12 c11 c12 _ _ (H21.next h).2 (H23.next h).2 (in_lt _) (in_lt _) HSP2.out HSQ2.out)
      have F6 : Hid (∀ W', Below Wz.heap.size Wz W' → Calls Tryd.prog 19 #[.agg #[.int .i64 z.k, .int .i64 z.n, .int .i64 z.m, .slice A3 z.kids.length c3], .agg #[.int .i64 y.k, .int .i64 y.n, .int .i64 y.m, .slice A2 y.kids.length c2]] W' fun e w' => e = .returned (.int .i64 R) ∧ Below W'.heap.size W' w') := Lib.hid (fun W' h => by
        rw [← hR]
        exact tcmp_is _ z y _ _ A3 A2 c3 c2 _ _ (H13.next h).2 (H12.next h).2 (in_lt _) (in_lt _) HSZ2.out HSY2.out)
      have HLV : Hid (∀ W', Below Wz.heap.size Wz W' → Calls Tryd.prog 21 #[] W' fun e w' => e = .returned (.bool true) ∧ Below W'.heap.size W' w') := Lib.hid (fun W' h => lives_is W' (hT.below h hg) (Nat.lt_of_lt_of_le hg h.size))
      have HBW := Lib.hid hbw
      have hbc : Below Wz.heap.size Wz Wz.drew := (Below.refl _ _).drew
      clear hWz hg23 hR hT hg hbw hbx H11 H12 H13 H21 H23
      refine wp_region_noPanic ?_
      go_region_held2 (fun W' => W'.cell? ⟨w11.heap.size, 0, none⟩ = some (.int .i64 P.k) ∧ W'.cell? ⟨w11.heap.size, 1, none⟩ = some (.int .i64 P.n) ∧ W'.cell? ⟨w11.heap.size, 2, none⟩ = some (.int .i64 P.m) ∧ W'.cell? ⟨w11.heap.size, 3, none⟩ = some (.slice A11 P.kids.length c11) ∧ W'.cell? ⟨g23, 0, none⟩ = some (.int .i64 Q.k) ∧ W'.cell? ⟨g23, 1, none⟩ = some (.int .i64 Q.n) ∧ W'.cell? ⟨g23, 2, none⟩ = some (.int .i64 Q.m) ∧ W'.cell? ⟨g23, 3, none⟩ = some (.slice A12 Q.kids.length c12) ∧ W'.cell? ⟨w3.heap.size, 0, none⟩ = some (.int .i64 z.k) ∧ W'.cell? ⟨w3.heap.size, 1, none⟩ = some (.int .i64 z.n) ∧ W'.cell? ⟨w3.heap.size, 2, none⟩ = some (.int .i64 z.m) ∧ W'.cell? ⟨w3.heap.size, 3, none⟩ = some (.slice A3 z.kids.length c3) ∧ W'.cell? ⟨g12, 0, none⟩ = some (.int .i64 y.k) ∧ W'.cell? ⟨g12, 1, none⟩ = some (.int .i64 y.n) ∧ W'.cell? ⟨g12, 2, none⟩ = some (.int .i64 y.m) ∧ W'.cell? ⟨g12, 3, none⟩ = some (.slice A2 y.kids.length c2))
        (exact HKF.out _ hbc)
        (first
        | (go_at_call 19; have hm := mk1; refine (F6.out _ hbc).mono ?_; rintro e w14 ⟨rfl, hb14⟩; replace hbc := bt hbc hb14; clear hb14 hm)
        | (go_at_call 19; refine (F5.out _ hbc).mono ?_; rintro e w13 ⟨rfl, hb13⟩; replace hbc := bt hbc hb13; have mk1 : True := trivial; clear hb13)
        | (go_at_call 21; refine (HLV.out _ hbc).mono ?_; rintro e w15 ⟨rfl, hb15⟩; replace hbc := bt hbc hb15; clear hb15))
      all_goals
        refine NoPanic.normal ?_
        go_wp2_with fail
        go_ret
        exact ⟨rfl, bt HBW.out hbc⟩
end Go.Proofs.YtojicjdlopbeiaaDoor
