/-
  The walk of the law of sizes, depths and the order.
-/
import Derived.Test.YthhhgakeeekalaaDoorG28
import Derived.Test.YthhhgakeeekalaaDoorG38
import Derived.Test.YthhhgakeeekalaaDoorG39
set_option linter.unusedVariables false
namespace Go.Proofs.YthhhgakeeekalaaDoor
open Go.RowKit WM TR

/-- A literal of five nodes, kept shut. -/
def bs5 (parts : Array (Nat × Value)) : Sem Value := Instr.buildSlice 23 5 parts
theorem shutB5 (parts : Array (Nat × Value)) : Instr.buildSlice 23 5 parts = bs5 parts := rfl
set_option maxRecDepth 100000 in
theorem run_bs5 (W : World) (a1 a2 a3 a4 b1 b2 b3 b4 c1 c2 c3 c4 d1 d2 d3 d4 e1 e2 e3 e4 : Value) : (bs5 #[(0, .agg #[a1, a2, a3, a4]), (1, .agg #[b1, b2, b3, b4]), (2, .agg #[c1, c2, c3, c4]), (3, .agg #[d1, d2, d3, d4]), (4, .agg #[e1, e2, e3, e4])]).run Tryd.prog W = .ok (.slice (some ⟨W.heap.size, 0, none⟩) 5 5) (W.alloc (.cells #[a1, a2, a3, a4, b1, b2, b3, b4, c1, c2, c3, c4, d1, d2, d3, d4, e1, e2, e3, e4] 25)) := by kernel_rfl
attribute [local go_sem ↓ high] shutB5
attribute [local go_sem] run_bs5

/-- A tree below the world's end. -/
def Old (w : World) (D : Nat) (t : T) (A : Option Addr) (c : Nat) : Prop := Rep w (fun b => b < w.heap.size) D t (nd t A c)
theorem Old.next {w w' : World} {D c : Nat} {t : T} {A : Option Addr} (h : Old w D t A c) (hb : Below w.heap.size w w') : Old w' D t A c :=
  (Rep.keep (Keeps.below (in_lt w) hb) h).mono fun b (hb' : b < w.heap.size) => Nat.lt_of_lt_of_le hb' hb.size
theorem Old.deep {w : World} {D D' c : Nat} {t : T} {A : Option Addr} (h : Old w D t A c) (hD : D ≤ D') : Rep w (fun b => b < w.heap.size) D' t (nd t A c) := Rep.deeper hD h
/-- What Deep leaves, of a size. -/
def DeepPost (n : Nat) (w : World) (e : Ending) (w' : World) : Prop :=
  ∃ t A' c' D, e = .returned (.agg #[.int .i64 t.k, .int .i64 t.n, .int .i64 t.m, .slice A' t.kids.length c']) ∧ size t ≤ n ∧ Rep w' (fun b => w.heap.size ≤ b ∧ b < w'.heap.size) D t (nd t A' c') ∧ Below w.heap.size w w'
theorem deep_any (n : Int) (m : Nat) (hn : n ≤ m) (hm : 1 ≤ m) (hm2 : m ≤ 1000) (w : World) : Calls Tryd.prog 11 #[.int .i64 n] w (DeepPost m w) := by
  refine (Deep_is n (by omega) w).mono ?_
  rintro e w' ⟨A', c', rfl, hr, hb⟩
  exact ⟨_, A', c', _, rfl, by rw [deepT_size]; omega, hr, hb⟩
theorem size_bound : size (⟨0, 0, 0, []⟩ : T) ≤ 1 := by rw [leaf_size]; omega

set_option maxRecDepth 100000 in
set_option maxHeartbeats 8000000 in
theorem sizes_law (L M : List Int) (at_ how by_ : Int) (S : Nat → Prop) (A B : Option Addr) (c c' : Nat) (w : World) (hL : Rd w S 1 A L.length (vi L)) (hM : Rd w S 1 B M.length (vi M)) (hin : In S w.heap.size) (hrL : ∀ x ∈ L, inRange x) (hrM : ∀ x ∈ M, inRange x) (hlL : L.length ≤ 9223372036854775807) (hlM : M.length ≤ 9223372036854775807) (ha : inRange at_) (hh : inRange how) (hy : inRange by_) (hT : ST w) (hg : 0 < w.heap.size) :
    Calls Tryd.prog 3 #[.slice A L.length c, .slice B M.length c', .int .i64 at_, .int .i64 how, .int .i64 by_] w fun e w' => e = .returned (.bool true) ∧ Below w.heap.size w w' := by
  obtain ⟨x, hx⟩ : ∃ x, x = genTree L := ⟨_, rfl⟩
  obtain ⟨z, hz⟩ : ∃ z, z = genTree M := ⟨_, rfl⟩
  have hsx : size x ≤ 4096 := by rw [hx]; exact genTree_size L
  have hsz : size z ≤ 4096 := by rw [hz]; exact genTree_size M
  have har := arnd_le (x := by_) (n := 40) (by omega)
  obtain ⟨k, hk⟩ : ∃ k : Int, arnd by_ 40 = k := ⟨_, rfl⟩
  have HTX : Hid (∀ W, Below w.heap.size w W → Calls Tryd.prog 8 #[.slice A L.length c] W (MadeT x 6 W)) := Lib.hid (fun W hb => by rw [hx]; exact Tree_is L S A c W (hL.keep (Keeps.below hin hb)) (hin.more hb.size) hrL hlL)
  have HTZ : Hid (∀ W, Below w.heap.size w W → Calls Tryd.prog 8 #[.slice B M.length c'] W (MadeT z 6 W)) := Lib.hid (fun W hb => by rw [hz]; exact Tree_is M S B c' W (hM.keep (Keeps.below hin hb)) (hin.more hb.size) hrM hlM)
  have HTP : Hid (∀ W, Below w.heap.size w W → Calls Tryd.prog 10 #[.slice B M.length c'] W (ProgPost W)) := Lib.hid (fun W hb => program_is M S B c' W (hM.keep (Keeps.below hin hb)) (hin.more hb.size) hrM hlM)
  have HAR : Hid (∀ W, Calls Tryd.prog 12 #[.int .i64 by_, .int .i64 40] W fun e w' => e = .returned (.int .i64 k) ∧ W = w') := Lib.hid (fun W => by rw [← hk]; exact around_is by_ 40 hy (by omega) W)
  have HDP : Hid (∀ W, Calls Tryd.prog 11 #[.int .i64 k] W (DeepPost 100 W)) := Lib.hid (fun W => deep_any k 100 (by omega) (by omega) (by omega) W)
  have HSX : Hid (size x ≤ 4096) := Lib.hid hsx
  have HSZ : Hid (size z ≤ 4096) := Lib.hid hsz
  have HT := Lib.hid hT
  have HG := Lib.hid hg
  have HRA := Lib.hid ha
  have HRH := Lib.hid hh
  have HRY := Lib.hid hy
  have HR0 := Lib.hid (Below.refl w.heap.size w)
  clear hx hz hsx hsz har hk hL hM hin hrL hrM hlL hlM ha hh hy hT hg
  go_enter Tryd.func3, Tryd.ntmps3
  go_upto_region 2 with (first
    | (go_at_call 8; refine (HTX.out _ HR0.out).mono ?_; rintro e w1 ⟨A1, c1, rfl, hr1, hb1⟩
       have H11 := Held.new hr1 (fun b hb => hb.2)
       have hbw := ba hb1 (.cells #[.int .i64 x.k, .int .i64 x.n, .int .i64 x.m, .slice A1 x.kids.length c1] 25)
       clear hr1))
  obtain ⟨W3, hW3⟩ : ∃ W3, W3 = w1.alloc (.cells #[.int .i64 x.k, .int .i64 x.n, .int .i64 x.m, .slice A1 x.kids.length c1] 25) := ⟨_, rfl⟩
  obtain ⟨g1, hg1⟩ : ∃ g, g = w1.heap.size := ⟨_, rfl⟩
  rw [← hW3] at H11 hbw ⊢
  rw [← hg1] at H11 ⊢
  have HK : Hid (∀ W', Below W3.heap.size W3 W' → W'.cell? ⟨g1, 0, none⟩ = some (.int .i64 x.k) ∧ W'.cell? ⟨g1, 1, none⟩ = some (.int .i64 x.n) ∧ W'.cell? ⟨g1, 2, none⟩ = some (.int .i64 x.m) ∧ W'.cell? ⟨g1, 3, none⟩ = some (.slice A1 x.kids.length c1)) := Lib.hid (fun W' h => (H11.next h).cells)
  have HSP : Hid (∀ W', Below W3.heap.size W3 W' → Calls Tryd.prog 9 #[.agg #[.int .i64 x.k, .int .i64 x.n, .int .i64 x.m, .slice A1 x.kids.length c1], .int .i64 at_, .int .i64 how, .int .i64 by_] W' (SpPost x W')) := Lib.hid (fun W' h => spoilt_is 6 x A1 c1 at_ how by_ W' (H11.next h).2 (by have := HSX.out; omega) HRA.out HRH.out HRY.out)
  have HTZ2 : Hid (∀ W', Below W3.heap.size W3 W' → Calls Tryd.prog 8 #[.slice B M.length c'] W' (MadeT z 6 W')) := Lib.hid (fun W' h => HTZ.out W' (bt hbw h))
  have HTP2 : Hid (∀ W', Below W3.heap.size W3 W' → Calls Tryd.prog 10 #[.slice B M.length c'] W' (ProgPost W')) := Lib.hid (fun W' h => HTP.out W' (bt hbw h))
  have X11 := Lib.hid H11
  have XBW := Lib.hid hbw
  have hbc : Below W3.heap.size W3 W3.drew := (Below.refl _ _).drew
  clear hW3 hg1 H11 hbw hb1 HTZ HTP HTX
  go_cut [12] from 17 to 30 (fun s12 wv => ∃ (gr or : Nat) (u p d : T) (V : World), V = wv ∧ s12 = .slice (some ⟨gr, or, none⟩) 5 5 ∧ Hid (RowT V gr or [x, z, u, p, d] ∧ (size u ≤ 20000 ∧ size p ≤ 256 ∧ size d ≤ 100) ∧ Below W3.heap.size W3 V))
  case first =>
    refine wp_region_noPanic ?_
    go_region_held2 (fun W' => W'.cell? ⟨g1, 0, none⟩ = some (.int .i64 x.k) ∧ W'.cell? ⟨g1, 1, none⟩ = some (.int .i64 x.n) ∧ W'.cell? ⟨g1, 2, none⟩ = some (.int .i64 x.m) ∧ W'.cell? ⟨g1, 3, none⟩ = some (.slice A1 x.kids.length c1))
      (first | exact HK.out _ hbc | exact HK.out _ (ba hbc _))
      (first
      | (go_at_call 8; refine (HTZ2.out _ hbc).mono ?_; rintro e w3 ⟨A3, c3, rfl, hr3, hb3⟩; replace hbc := bt hbc hb3; have OZ : Old w3 6 z A3 c3 := hr3.mono fun b hb => hb.2; clear hr3 hb3)
      | (go_at_call 9; refine (HSP.out _ hbc).mono ?_; rintro e w4 ⟨u, A4, c4, D4, rfl, hsu, hr4, hb4⟩; replace hbc := bt hbc hb4; replace OZ := OZ.next hb4; have OU : Old w4 D4 u A4 c4 := hr4; have HSU := Lib.hid hsu; clear hr4 hb4 hsu)
      | (go_at_call 10; refine (HTP2.out _ hbc).mono ?_; rintro e w5 ⟨p, A5, c5, rfl, hp5, hr5, hb5⟩; replace hbc := bt hbc hb5; replace OZ := OZ.next hb5; replace OU := OU.next hb5; have OP : Old w5 11 p A5 c5 := hr5.mono fun b hb => hb.2; have HSPG : Hid (size p ≤ 256) := Lib.hid hp5.2.2.1; clear hr5 hb5 hp5)
      | (go_at_call 12; refine (HAR.out _).mono ?_; rintro e w' ⟨rfl, rfl⟩)
      | (go_at_call 11; refine (HDP.out _).mono ?_; rintro e w6 ⟨d, A6, c6, D6, rfl, hsd, hr6, hb6⟩; replace hbc := bt hbc hb6; replace OZ := OZ.next hb6; replace OU := OU.next hb6; replace OP := OP.next hb6; have OD : Old w6 D6 d A6 c6 := hr6.mono fun b hb => hb.2; have HSD := Lib.hid hsd; clear hr6 hb6 hsd))
    all_goals
      refine NoPanic.normal ?_
      go_wp2_with fail
      go_meet
      refine ⟨_, _, u, p, d, _, rfl, rfl, ?_, ⟨by have := HSU.out; have := HSX.out; omega, HSPG.out, HSD.out⟩, ba hbc _⟩
      have OX : Old w6 6 x A1 c1 := (X11.out.next hbc).2
      have h := (((Reps.one (OX.deep (D' := 17 + D4 + D6) (by omega))).snoc (OZ.deep (by omega))).snoc (OU.deep (by omega))).snoc (OP.deep (by omega)) |>.snoc (OD.deep (by omega))
      exact rowT_of h
  case rest =>
  obtain ⟨gr, or, u, p, d, W4, hW4, rfl, HH⟩ := hcut
  subst hW4
  have HB34 : Hid (Below W3.heap.size W3 W4) := Lib.hid HH.out.2.2
  obtain ⟨ts, hts⟩ : ∃ ts, ts = [x, z, u, p, d] := ⟨_, rfl⟩
  have HTSL : Hid (ts.length = 5) := Lib.hid (by rw [hts]; rfl)
  have HTSS : Hid (∀ t ∈ ts, size t ≤ 1000000) := Lib.hid (fun t ht => by
    rw [hts] at ht
    have h := HH.out.2.1
    simp only [List.mem_cons, List.not_mem_nil, or_false] at ht
    rcases ht with rfl | rfl | rfl | rfl | rfl
    · have := HSX.out; omega
    · have := HSZ.out; omega
    · omega
    · omega
    · omega)
  have HROW : Hid (∀ (i : Nat) (t : T), ts[i]? = some t → ∃ A c, (∀ W', Below W4.heap.size W4 W' → W'.cell? ⟨gr, or + i * 4, none⟩ = some (.int .i64 t.k) ∧ W'.cell? ⟨gr, or + i * 4 + 1, none⟩ = some (.int .i64 t.n) ∧ W'.cell? ⟨gr, or + i * 4 + 2, none⟩ = some (.int .i64 t.m) ∧ W'.cell? ⟨gr, or + i * 4 + 3, none⟩ = some (.slice A t.kids.length c)) ∧ ∃ D, ∀ W', Below W4.heap.size W4 W' → Rep W' (fun b => b < W'.heap.size) D t (nd t A c)) := Lib.hid (fun i t ht => by
    rw [hts] at ht
    obtain ⟨hgl, hall⟩ := HH.out.1
    obtain ⟨A, c, D, hc, hr⟩ := hall i t ht
    refine ⟨A, c, fun W' h => ?_, D, fun W' h => (hr.keep (Keeps.below (in_lt W4) h)).mono fun b (hb : b < W4.heap.size) => Nat.lt_of_lt_of_le hb h.size⟩
    have hk := fun (j : Nat) (v : Value) (hv : (nd t A c)[j]? = some v) => (h.cell (p := ⟨gr, or + i * 4 + j, none⟩) hgl).trans (hc j v hv)
    exact ⟨hk 0 _ rfl, hk 1 _ rfl, hk 2 _ rfl, hk 3 _ rfl⟩)
  clear hts hbc HK HSP HH HTZ2 HTP2
  go_wp2_with fail
  go_loopw [13] (fun i wr => ∃ j : Nat, j ≤ 5 ∧ i = .int .i64 j ∧ Hid (Below W4.heap.size W4 wr)) (fun i _ => 5 - (intOf i).toNat)
  case atStart => exact ⟨0, Nat.zero_le _, rfl, Below.refl _ _⟩
  case round =>
    obtain ⟨i, hi, rfl, HBi⟩ := hrel
    by_cases hli : i < 5
    · obtain ⟨ti, hti⟩ : ∃ t, ts[i]? = some t := ⟨_, List.getElem?_eq_getElem (by rw [HTSL.out]; exact hli)⟩
      obtain ⟨Ai, ci, hKi, Di, hRi⟩ := HROW.out i ti hti
      have HTI := Lib.hid hti
      have HKI := Lib.hid hKi
      have HRI := Lib.hid hRi
      have HSI : Hid (size ti ≤ 1000000) := Lib.hid (HTSS.out ti (List.mem_of_getElem? hti))
      have hib : (0 : Int) ≤ i ∧ (i : Int) < 5 := ⟨by omega, by omega⟩
      obtain ⟨sz, hsz⟩ : ∃ s, size ti = s := ⟨_, rfl⟩
      obtain ⟨dp, hdp⟩ : ∃ s, depth ti = s := ⟨_, rfl⟩
      have F1 : Hid (∀ W', Below W4.heap.size W4 W' → Calls Tryd.prog 13 #[.agg #[.int .i64 ti.k, .int .i64 ti.n, .int .i64 ti.m, .slice Ai ti.kids.length ci]] W' fun e w' => e = .returned (.int .i64 (sz : Int)) ∧ Below W'.heap.size W' w') := Lib.hid (fun W' h => by rw [← hsz]; exact size_is Di ti _ Ai ci W' (HRI.out W' h) (in_lt _) HSI.out)
      have F2 : Hid (∀ W', Below W4.heap.size W4 W' → Calls Tryd.prog 14 #[.agg #[.int .i64 ti.k, .int .i64 ti.n, .int .i64 ti.m, .slice Ai ti.kids.length ci]] W' fun e w' => e = .returned (.int .i64 (sz : Int)) ∧ Below W'.heap.size W' w') := Lib.hid (fun W' h => by rw [← hsz]; exact rsize_is Di ti _ Ai ci W' (HRI.out W' h) (in_lt _) HSI.out)
      have F3 : Hid (∀ W', Below W4.heap.size W4 W' → Calls Tryd.prog 15 #[.agg #[.int .i64 ti.k, .int .i64 ti.n, .int .i64 ti.m, .slice Ai ti.kids.length ci]] W' fun e w' => e = .returned (.int .i64 (dp : Int)) ∧ Below W'.heap.size W' w') := Lib.hid (fun W' h => by rw [← hdp]; exact depth_is Di ti _ Ai ci W' (HRI.out W' h) (in_lt _) HSI.out)
      have F4 : Hid (∀ W', Below W4.heap.size W4 W' → Calls Tryd.prog 16 #[.agg #[.int .i64 ti.k, .int .i64 ti.n, .int .i64 ti.m, .slice Ai ti.kids.length ci]] W' fun e w' => e = .returned (.int .i64 (dp : Int)) ∧ Below W'.heap.size W' w') := Lib.hid (fun W' h => by rw [← hdp]; exact rdepth_is Di ti _ Ai ci W' (HRI.out W' h) (in_lt _) HSI.out)
      have hss : ((sz : Int) != (sz : Int)) = false := by simp
      have hdd : ((dp : Int) != (dp : Int)) = false := by simp
      have hbc : Below W4.heap.size W4 wr.drew := HBi.out.drew
      clear hti hKi hRi hsz hdp
      go_wp2_with fail
      go_cut [60] from 31 to 85 (fun s60 wv => ∃ V : World, V = wv ∧ s60 = .bool false ∧ Hid (Below W4.heap.size W4 V))
      case first =>
        refine wp_region_noPanic ?_
        go_region_held2 (fun W' => W'.cell? ⟨gr, or + i * 4, none⟩ = some (.int .i64 ti.k) ∧ W'.cell? ⟨gr, or + i * 4 + 1, none⟩ = some (.int .i64 ti.n) ∧ W'.cell? ⟨gr, or + i * 4 + 2, none⟩ = some (.int .i64 ti.m) ∧ W'.cell? ⟨gr, or + i * 4 + 3, none⟩ = some (.slice Ai ti.kids.length ci))
          (exact HKI.out _ hbc)
          (first
          | (go_at_call 13; refine (F1.out _ hbc).mono ?_; rintro e w5 ⟨rfl, hb5⟩; replace hbc := bt hbc hb5; clear hb5)
          | (go_at_call 14; refine (F2.out _ hbc).mono ?_; rintro e w5 ⟨rfl, hb5⟩; replace hbc := bt hbc hb5; clear hb5)
          | (go_at_call 15; refine (F3.out _ hbc).mono ?_; rintro e w5 ⟨rfl, hb5⟩; replace hbc := bt hbc hb5; clear hb5)
          | (go_at_call 16; refine (F4.out _ hbc).mono ?_; rintro e w5 ⟨rfl, hb5⟩; replace hbc := bt hbc hb5; clear hb5))
        all_goals
          refine NoPanic.normal ?_
          go_wp2_with fail
          go_meet
          exact ⟨_, rfl, rfl, hbc⟩
      case rest =>
      obtain ⟨V, hV, rfl, HBV⟩ := hcut
      subst hV
      clear hbc F1 F2 F3 F4 hss hdd
      go_wp2_with fail
      go_loopw [14] (fun s wq => ∃ j : Nat, j ≤ 5 ∧ s = .int .i64 j ∧ Hid (Below W4.heap.size W4 wq)) (fun s _ => 5 - (intOf s).toNat)
      case atStart => exact ⟨0, Nat.zero_le _, rfl, HBV.out⟩
      case round =>
        obtain ⟨j, hj, rfl, HBj⟩ := hrel
        by_cases hlj : j < 5
        · obtain ⟨tj, htj⟩ : ∃ t, ts[j]? = some t := ⟨_, List.getElem?_eq_getElem (by rw [HTSL.out]; exact hlj)⟩
          obtain ⟨Aj, cj, hKj, Dj, hRj⟩ := HROW.out j tj htj
          have HSJ : Hid (size tj ≤ 1000000) := Lib.hid (HTSS.out tj (List.mem_of_getElem? htj))
          have HRJ := Lib.hid hRj
          have hjb : (0 : Int) ≤ j ∧ (j : Int) < 5 := ⟨by omega, by omega⟩
          obtain ⟨X, hX⟩ : ∃ X, cmp ti tj = X := ⟨_, rfl⟩
          have hXX : (X != X) = false := by simp
          have F1 : Hid (∀ W', Below W4.heap.size W4 W' → Calls Tryd.prog 17 #[.agg #[.int .i64 ti.k, .int .i64 ti.n, .int .i64 ti.m, .slice Ai ti.kids.length ci], .agg #[.int .i64 tj.k, .int .i64 tj.n, .int .i64 tj.m, .slice Aj tj.kids.length cj]] W' fun e w' => e = .returned (.int .i64 X) ∧ Below W'.heap.size W' w') := Lib.hid (fun W' h => by rw [← hX]; exact tcmp_is _ ti tj _ _ Ai Aj ci cj _ _ (HRI.out W' h) (HRJ.out W' h) (in_lt _) (in_lt _) HSI.out HSJ.out)
          have F2 : Hid (∀ W', Below W4.heap.size W4 W' → Calls Tryd.prog 18 #[.agg #[.int .i64 ti.k, .int .i64 ti.n, .int .i64 ti.m, .slice Ai ti.kids.length ci], .agg #[.int .i64 tj.k, .int .i64 tj.n, .int .i64 tj.m, .slice Aj tj.kids.length cj]] W' fun e w' => e = .returned (.int .i64 X) ∧ Below W'.heap.size W' w') := Lib.hid (fun W' h => by rw [← hX]; exact rcmp_is (Di + Dj) ti tj _ Ai Aj ci cj _ ((HRI.out W' h).deeper (by omega)) ((HRJ.out W' h).deeper (by omega)) (in_lt _) HSI.out HSJ.out)
          have HK2 : Hid (∀ W', Below W4.heap.size W4 W' → (W'.cell? ⟨gr, or + i * 4, none⟩ = some (.int .i64 ti.k) ∧ W'.cell? ⟨gr, or + i * 4 + 1, none⟩ = some (.int .i64 ti.n) ∧ W'.cell? ⟨gr, or + i * 4 + 2, none⟩ = some (.int .i64 ti.m) ∧ W'.cell? ⟨gr, or + i * 4 + 3, none⟩ = some (.slice Ai ti.kids.length ci)) ∧ (W'.cell? ⟨gr, or + j * 4, none⟩ = some (.int .i64 tj.k) ∧ W'.cell? ⟨gr, or + j * 4 + 1, none⟩ = some (.int .i64 tj.n) ∧ W'.cell? ⟨gr, or + j * 4 + 2, none⟩ = some (.int .i64 tj.m) ∧ W'.cell? ⟨gr, or + j * 4 + 3, none⟩ = some (.slice Aj tj.kids.length cj))) := Lib.hid (fun W' h => ⟨HKI.out W' h, hKj W' h⟩)
          have hbc : Below W4.heap.size W4 wr.drew := HBj.out.drew
          clear htj hKj hRj hX
          go_wp2_with fail
          go_cut [85] from 61 to 85 (fun s85 wv => ∃ V : World, V = wv ∧ s85 = .bool false ∧ Hid (Below W4.heap.size W4 V))
          case first =>
            refine wp_region_noPanic ?_
            go_region_held2 (fun W' => (W'.cell? ⟨gr, or + i * 4, none⟩ = some (.int .i64 ti.k) ∧ W'.cell? ⟨gr, or + i * 4 + 1, none⟩ = some (.int .i64 ti.n) ∧ W'.cell? ⟨gr, or + i * 4 + 2, none⟩ = some (.int .i64 ti.m) ∧ W'.cell? ⟨gr, or + i * 4 + 3, none⟩ = some (.slice Ai ti.kids.length ci)) ∧ (W'.cell? ⟨gr, or + j * 4, none⟩ = some (.int .i64 tj.k) ∧ W'.cell? ⟨gr, or + j * 4 + 1, none⟩ = some (.int .i64 tj.n) ∧ W'.cell? ⟨gr, or + j * 4 + 2, none⟩ = some (.int .i64 tj.m) ∧ W'.cell? ⟨gr, or + j * 4 + 3, none⟩ = some (.slice Aj tj.kids.length cj)))
              (exact HK2.out _ hbc)
              (first
              | (go_at_call 17; refine (F1.out _ hbc).mono ?_; rintro e w5 ⟨rfl, hb5⟩; replace hbc := bt hbc hb5; clear hb5)
              | (go_at_call 18; refine (F2.out _ hbc).mono ?_; rintro e w5 ⟨rfl, hb5⟩; replace hbc := bt hbc hb5; clear hb5))
            all_goals
              refine NoPanic.normal ?_
              go_wp2_with fail
              go_meet
              exact ⟨_, rfl, rfl, hbc⟩
          case rest =>
            obtain ⟨V2, hV2, rfl, HBV2⟩ := hcut
            subst hV2
            clear hbc F1 F2 HK2 hXX
            go_wp2_with fail
            go_roundw
            case rel => exact ⟨j + 1, by omega, by go_num, HBV2.out⟩
            case measure => simp [intOf]; omega
        · have hj5 : j = 5 := by omega
          subst hj5
          go_wp2_with fail
          go_roundw
          case rel => exact ⟨i + 1, by omega, by go_num, HBj.out⟩
          case measure => simp [intOf]; omega
    · have hi5 : i = 5 := by omega
      subst hi5
      have HBF : Hid (Below w.heap.size w wr) := Lib.hid (bt (bt XBW.out HB34.out) HBi.out)
      have HLV : Hid (Calls Tryd.prog 19 #[] wr fun e w' => e = .returned (.bool true) ∧ Below wr.heap.size wr w') := Lib.hid (lives_is wr (HT.out.below HBF.out HG.out) (Nat.lt_of_lt_of_le HG.out HBF.out.size))
      clear hi hli
      go_wp2_with (go_at_call 19; refine HLV.out.mono ?_; rintro e w9 ⟨rfl, hb9⟩)
      go_ret
      exact ⟨rfl, bt HBF.out hb9⟩
end Go.Proofs.YthhhgakeeekalaaDoor
