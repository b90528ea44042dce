/-
  The laws' lives: the section's examples.
-/
import Derived.Test.YtikinofopkjdjaaDoorG29
import Derived.Test.YtikinofopkjdjaaDoorG31
import Derived.Test.YtikinofopkjdjaaDoorG32
import Derived.Test.YtikinofopkjdjaaDoorG33
import Derived.Test.YtikinofopkjdjaaDoorG24
import Derived.Test.YtikinofopkjdjaaDoorG19
import Derived.Deep.RegionWith
import Derived.Deep.RegionHeld2
import Derived.Deep.RegionHeld3
set_option linter.unusedVariables false
namespace Go.Proofs.YtikinofopkjdjaaDoor.TR
open Go.Proofs.YtikinofopkjdjaaDoor
open WM
theorem sum_set1 : set? [1] (sumT 1) ⟨4, 2, 0, []⟩ = some (sumT 2) := by rfl
theorem sum_set2 (x : T) : set? [2] (sumT 1) x = none := by rfl
theorem sum_cmp : cmp (sumT 1) (sumT 2) = -1 := by
  rw [cmp_eq]
  show firstN (sg 9 9 :: sg 0 0 :: sg 0 0 :: ([cmp ⟨6, 0, 0, []⟩ ⟨6, 0, 0, []⟩, cmp ⟨4, 1, 0, []⟩ ⟨4, 2, 0, []⟩] ++ [sg 2 2])) = -1
  rw [cmp_self, cmp_n (t := ⟨4, 1, 0, []⟩) (u := ⟨4, 2, 0, []⟩) rfl (by decide)]
  rfl
theorem sum_cmp' : cmp (sumT 2) (sumT 1) = 1 := by
  rw [cmp_eq]
  show firstN (sg 9 9 :: sg 0 0 :: sg 0 0 :: ([cmp ⟨6, 0, 0, []⟩ ⟨6, 0, 0, []⟩, cmp ⟨4, 2, 0, []⟩ ⟨4, 1, 0, []⟩] ++ [sg 2 2])) = 1
  rw [cmp_self, cmp_n (t := ⟨4, 2, 0, []⟩) (u := ⟨4, 1, 0, []⟩) rfl (by decide)]
  rfl
theorem sum_size (n : Int) : size (sumT n) = 3 := by simp [size_eq, sumT]
theorem sum_depth (n : Int) : depth (sumT n) = 2 := by simp [depth_eq, sumT]
theorem leaf_paths {t : T} (h : t.kids = []) : paths t = [[]] := by rw [paths_eq, h]; rfl
theorem sum_paths (n : Int) : paths (sumT n) = [[], [0], [1]] := by
  rw [paths_eq]
  show [] :: ([(paths ⟨6, 0, 0, []⟩).map (fun p => ((0 : Nat) : Int) :: p), (paths ⟨4, n, 0, []⟩).map (fun p => ((1 : Nat) : Int) :: p)] : List (List (List Int))).flatten = _
  rw [leaf_paths rfl, leaf_paths rfl]
  rfl
theorem leaf_enc {t : T} (h : t.kids = []) : encT t = headB t := by rw [encT_eq, h]; simp
theorem sum_enc : (encT (sumT 1)).length = 23 := by
  rw [encT_eq]
  show (headB (sumT 1) ++ [encT ⟨6, 0, 0, []⟩, encT ⟨4, 1, 0, []⟩].flatten).length = 23
  rw [leaf_enc rfl, leaf_enc rfl]
  decide +kernel
end Go.Proofs.YtikinofopkjdjaaDoor.TR
namespace Go.Proofs.YtikinofopkjdjaaDoor
open Go.RowKit WM TR

theorem SetMade.some_ {v : T} {w : World} {e : Ending} {w' : World} (h : SetMade (some v) w e w') : ∃ A' c' D, e = .returned (.tuple #[.agg #[.int .i64 v.k, .int .i64 v.n, .int .i64 v.m, .slice A' v.kids.length c'], .int .i64 0]) ∧ Rep w' (fun b => w.heap.size ≤ b ∧ b < w'.heap.size) D v (nd v A' c') ∧ Below w.heap.size w w' := by
  obtain ⟨u, A', c', D, rfl, he, hr, hb⟩ := h
  exact ⟨A', c', D, he, hr, hb⟩
theorem SetMade.none_ {w : World} {e : Ending} {w' : World} (h : SetMade none w e w') : ∃ A' c', e = .returned (.tuple #[.agg #[.int .i64 0, .int .i64 0, .int .i64 0, .slice A' 0 c'], .int .i64 6]) ∧ Below w.heap.size w w' := by
  obtain ⟨u, A', c', D, rfl, he, hr, hb⟩ := h
  exact ⟨A', c', he, hb⟩
/-- The same tree, read without its sort. -/
theorem Rep.lt {w : World} {S : Nat → Prop} {d : Nat} {t : T} {cs : List Value} (h : Rep w S d t cs) (hin : In S w.heap.size) : Rep w (fun b => b < w.heap.size) d t cs := h.mono hin
theorem in_lt (w : World) : In (fun b => b < w.heap.size) w.heap.size := fun _ h => h
theorem one_rd (w : World) (x : Int) : Rd (w.alloc (.cells #[.int .i64 x] 3)) (fun b => b < w.heap.size + 1) 1 (some ⟨w.heap.size, 0, none⟩) [x].length (vi [x]) :=
  ⟨rfl, fun _ => ⟨_, rfl, Nat.lt_succ_self _, one_new w (.int .i64 x) 3⟩⟩

/-- The example's places, as the law lays them out. -/
def litsW (W : World) : World := ((W.alloc (.cells #[.int .i64 0] 3)).alloc (.cells #[.int .i64 1] 3)).alloc (.cells #[.slice none 0 0, .slice (some ⟨W.heap.size, 0, none⟩) 1 1, .slice (some ⟨W.heap.size + 1, 0, none⟩) 1 1] 22)
theorem lits_size (W : World) : (litsW W).heap.size = W.heap.size + 3 := by unfold litsW; rw [size_alloc, size_alloc, size_alloc]
theorem lits_below (W : World) : Below W.heap.size W (litsW W) := ba (ba (below_new _ _) _) _
theorem in_lits (W : World) : In (fun b => b < W.heap.size + 3) (litsW W).heap.size := fun b (hb : b < W.heap.size + 3) => by rw [lits_size]; exact hb
theorem lits_ps (W : World) : Ps (litsW W) (fun b => b < W.heap.size + 3) (some ⟨W.heap.size + 2, 0, none⟩) [[], [0], [1]] := by
  obtain ⟨Wn, hWn⟩ : ∃ Wn, Wn = litsW W := ⟨_, rfl⟩
  rw [← hWn]
  have hA : Blk Wn W.heap.size 3 #[.int .i64 0] := by rw [hWn]; exact ((Blk.new W _ _).alloc _).alloc _
  have hB : Blk Wn (W.heap.size + 1) 3 #[.int .i64 1] := by
    have h := Blk.new (W.alloc (.cells #[.int .i64 0] 3)) 3 #[.int .i64 1]
    rw [size_alloc] at h
    rw [hWn]; exact h.alloc _
  have hC : Blk Wn (W.heap.size + 2) 22 #[.slice none 0 0, .slice (some ⟨W.heap.size, 0, none⟩) 1 1, .slice (some ⟨W.heap.size + 1, 0, none⟩) 1 1] := by
    have h := Blk.new ((W.alloc (.cells #[.int .i64 0] 3)).alloc (.cells #[.int .i64 1] 3)) 22 #[.slice none 0 0, .slice (some ⟨W.heap.size, 0, none⟩) 1 1, .slice (some ⟨W.heap.size + 1, 0, none⟩) 1 1]
    rw [size_alloc, size_alloc] at h
    rw [hWn]; exact h
  have rd1 : ∀ (g : Nat) (v : Int), Blk Wn g 3 #[.int .i64 v] → g < W.heap.size + 3 → Rd Wn (fun b => b < W.heap.size + 3) 1 (some ⟨g, 0, none⟩) 1 (vi [v]) := fun g v hb hg =>
    ⟨rfl, fun _ => ⟨_, rfl, hg, fun j u hu => by rw [Addr.add_lit, Nat.zero_add, hb.cell]; simpa [vi] using hu⟩⟩
  refine ⟨[.slice none 0 0, .slice (some ⟨W.heap.size, 0, none⟩) 1 1, .slice (some ⟨W.heap.size + 1, 0, none⟩) 1 1], ⟨rfl, fun _ => ⟨_, rfl, (by show W.heap.size + 2 < W.heap.size + 3; omega), fun j u hu => by rw [Addr.add_lit, Nat.zero_add, hC.cell]; simpa using hu⟩⟩, ?_⟩
  intro i p hp
  match i, hp with
  | 0, hp => cases hp; exact ⟨none, 0, rfl, Nat.le_refl _, Rd.none_⟩
  | 1, hp => cases hp; exact ⟨_, 1, rfl, Nat.le_refl _, rd1 _ _ hA (by omega)⟩
  | 2, hp => cases hp; exact ⟨_, 1, rfl, Nat.le_refl _, rd1 _ _ hB (by omega)⟩
  | n + 3, hp => simp at hp
theorem Ps.later15 {W : World} {B : Nat} {A : Option Addr} {ps : List (List Int)} (h : Ps W (fun b => B ≤ b ∧ b < W.heap.size) A ps) : Ps (litsW W) (fun b => b < W.heap.size + 3) A ps :=
  (h.mono fun b hb => hb.2).keep (Keeps.below (in_lt W) (lits_below W)) |>.mono fun b (hb : b < W.heap.size) => by show b < W.heap.size + 3; omega

set_option maxRecDepth 100000 in
set_option maxHeartbeats 6000000 in
theorem lives_is (w : World) (hT : ST w) (hg : 0 < w.heap.size) :
    Calls Tryd.prog 21 #[] w fun e w' => e = .returned (.bool true) ∧ Below w.heap.size w w' := by
  obtain ⟨x, hx⟩ : ∃ x, x = sumT 1 := ⟨_, rfl⟩
  obtain ⟨y, hy⟩ : ∃ y, y = sumT 2 := ⟨_, rfl⟩
  have in1 : inRange 1 := by unfold inRange; omega
  have in2 : inRange 2 := by unfold inRange; omega
  have in4 : inRange 4 := by unfold inRange; omega
  have HX : Hid (x = sumT 1) := Lib.hid hx
  have HY : Hid (y = sumT 2) := Lib.hid hy
  have HSX : Hid (size x = 3) := Lib.hid (by rw [hx]; exact sum_size 1)
  have HSY : Hid (size y = 3) := Lib.hid (by rw [hy]; exact sum_size 2)
  have HS1 : Hid (set? [1] x ⟨4, 2, 0, []⟩ = some y) := Lib.hid (by rw [hx, hy]; exact sum_set1)
  have HS2 : Hid (set? [2] x x = none) := Lib.hid (by rw [hx]; exact sum_set2 _)
  have HM : Hid (∀ W : World, Calls Tryd.prog 51 #[.int .i64 1] W (MadeT x 2 W)) := Lib.hid (fun W => by rw [hx]; exact sum_is 1 in1 W)
  have HM2 : Hid (∀ W : World, Calls Tryd.prog 51 #[.int .i64 2] W (MadeT y 2 W)) := Lib.hid (fun W => by rw [hy]; exact sum_is 2 in2 W)
  have HCA : Hid (cmp x y = -1) := Lib.hid (by rw [hx, hy]; exact sum_cmp)
  have HCB : Hid (cmp y x = 1) := Lib.hid (by rw [hx, hy]; exact sum_cmp')
  have HDX : Hid (depth x = 2) := Lib.hid (by rw [hx]; exact sum_depth 1)
  have HPX : Hid (paths x = [[], [0], [1]]) := Lib.hid (by rw [hx]; exact sum_paths 1)
  have HEX : Hid ((encT x).length = 23) := Lib.hid (by rw [hx]; exact sum_enc)
  have HKX : Hid (x.k = 9) := Lib.hid (by rw [hx]; rfl)
  have HT := Lib.hid hT
  have HG := Lib.hid hg
  have hmo : Tryd.prog.follows .mixedOrders = true := by kernel_rfl
  clear hx hy hT hg
  go_enter Tryd.func21, Tryd.ntmps21
  go_wp2_with (first
    | (go_at_call 51; refine (HM.out _).mono ?_; rintro e w1 ⟨A1, c1, rfl, hr1, hb1⟩; have HR1 := Lib.hid hr1; have HB1 := Lib.hid hb1; clear hr1 hb1)
    | (refine wpList_store_new rfl 26 (.tmp 1) (.tmp 6) rfl w1 _ _ rfl rfl (by rw [size_node]; rfl) rfl rfl ?_))
  obtain ⟨W2, hW2⟩ : ∃ W2, W2 = w1.alloc (.cells #[.int .i64 x.k, .int .i64 x.n, .int .i64 x.m, .slice A1 x.kids.length c1] 26) := ⟨_, rfl⟩
  have hz2 : W2.heap.size = w1.heap.size + 1 := by rw [hW2, size_alloc]
  have hb12 : Below w1.heap.size w1 W2 := by rw [hW2]; exact below_new _ _
  have hX2 : Blk W2 w1.heap.size 26 #[.int .i64 x.k, .int .i64 x.n, .int .i64 x.m, .slice A1 x.kids.length c1] := by rw [hW2]; exact Blk.new w1 _ _
  rw [← hW2, ← hz2]
  have hrx2 : Rep W2 (fun b => b < w1.heap.size) 2 x (nd x A1 c1) := (HR1.out.lt (fun b hb => hb.2)).keep (Keeps.below (fun b hb => hb) hb12)
  have hb3 := below_new W2 (.cells #[.int .i64 1] 3)
  have hin2 : In (fun b => b < w1.heap.size) W2.heap.size := fun b (hb : b < w1.heap.size) => by omega
  have HSA := tset_is 2 1 x ⟨4, 2, 0, []⟩ (fun b => b < w1.heap.size) (fun b => b < W2.heap.size + 1) (fun b => b < w1.heap.size) A1 none c1 0 (W2.alloc (.cells #[.int .i64 1] 3)) [1] (some ⟨W2.heap.size, 0, none⟩) 1 (hrx2.keep (Keeps.below hin2 hb3)) (Rep.leaf in4 in2 in0 0 0) (one_rd W2 1) (hin2.more hb3.size) (hin2.more hb3.size) (fun b (hb : b < W2.heap.size + 1) => by rw [size_alloc]; exact hb) (by rw [HSX.out]; omega) (by rw [size_eq]; simp) (Nat.le_refl _) (by simp)
  rw [HS1.out] at HSA
  refine HSA.mono ?_
  clear HSA
  rintro e w4 hs4
  obtain ⟨A4, c4, D4, rfl, hr4, hb4⟩ := hs4.some_
  have hb24 : Below W2.heap.size W2 w4 := bt hb3 hb4
  have hX4 := hX2.below hb24 hX2.lt
  have hrx4 := hrx2.keep (Keeps.below hin2 hb24)
  have hry4 : Rep w4 (fun b => b < w4.heap.size) D4 y (nd y A4 c4) := hr4.mono fun b hb => hb.2
  have hbw4 : Below w.heap.size w w4 := bt HB1.out (bt hb12 hb24)
  have hlt4 : w1.heap.size < w4.heap.size := Nat.lt_of_lt_of_le hX2.lt hb24.size
  have HRX4 := Lib.hid hrx4
  have HRY4 := Lib.hid hry4
  have HX4 := Lib.hid hX4
  have HBW4 := Lib.hid hbw4
  have HLT4 := Lib.hid hlt4
  clear hW2 hz2 hb12 hX2 hrx2 hb3 hin2 hs4 hr4 hb4 hb24 hX4 hrx4 hry4 hbw4 hlt4
  have HC5 : Hid (∀ i z, ([.int .i64 x.k, .int .i64 x.n, .int .i64 x.m, .slice A1 x.kids.length c1] : List Value)[i]? = some z → (w4.alloc (.cells #[.int .i64 y.k, .int .i64 y.n, .int .i64 y.m, .slice A4 y.kids.length c4] 26)).cell? ⟨w1.heap.size, 0 + i, none⟩ = some z) := Lib.hid (fun i z hz => by
    rw [((HX4.out.alloc (.cells #[.int .i64 y.k, .int .i64 y.n, .int .i64 y.m, .slice A4 y.kids.length c4] 26)).cell (0 + i)), Nat.zero_add]; simpa using hz)
  have HC6 : Hid (∀ i z, ([.int .i64 x.k, .int .i64 x.n, .int .i64 x.m, .slice A1 x.kids.length c1] : List Value)[i]? = some z → ((w4.alloc (.cells #[.int .i64 y.k, .int .i64 y.n, .int .i64 y.m, .slice A4 y.kids.length c4] 26)).alloc (.cells #[.int .i64 2] 3)).cell? ⟨w1.heap.size, 0 + i, none⟩ = some z) := Lib.hid (fun i z hz => by
    rw [(((HX4.out.alloc (.cells #[.int .i64 y.k, .int .i64 y.n, .int .i64 y.m, .slice A4 y.kids.length c4] 26)).alloc (.cells #[.int .i64 2] 3)).cell (0 + i)), Nat.zero_add]; simpa using hz)
  go_wp2_with (first
    | (refine wpList_store_new rfl 26 (.tmp 2) (.tmp 12) rfl w4 _ _ rfl rfl (by rw [size_node]; rfl) rfl rfl ?_)
    | (refine wpList_load_mid rfl 26 (.tmp 1) rfl w1.heap.size 0 rfl [.int .i64 x.k, .int .i64 x.n, .int .i64 x.m, .slice A1 x.kids.length c1] _ HC5.out Tryd.underlying26 rfl (by rw [size_node]; rfl) ?_)
    | (refine wpList_load_mid rfl 26 (.tmp 1) rfl w1.heap.size 0 rfl [.int .i64 x.k, .int .i64 x.n, .int .i64 x.m, .slice A1 x.kids.length c1] _ HC6.out Tryd.underlying26 rfl (by rw [size_node]; rfl) ?_))
  obtain ⟨W5, hW5⟩ : ∃ W5, W5 = w4.alloc (.cells #[.int .i64 y.k, .int .i64 y.n, .int .i64 y.m, .slice A4 y.kids.length c4] 26) := ⟨_, rfl⟩
  have hz5 : W5.heap.size = w4.heap.size + 1 := by rw [hW5, size_alloc]
  have hb5 : Below w4.heap.size w4 W5 := by rw [hW5]; exact below_new _ _
  have hY5 : Blk W5 w4.heap.size 26 #[.int .i64 y.k, .int .i64 y.n, .int .i64 y.m, .slice A4 y.kids.length c4] := by rw [hW5]; exact Blk.new w4 _ _
  have hX5 : Blk W5 w1.heap.size 26 #[.int .i64 x.k, .int .i64 x.n, .int .i64 x.m, .slice A1 x.kids.length c1] := HX4.out.below hb5 HX4.out.lt
  rw [← hW5, ← hz5]
  have hlt4 := HLT4.out
  have hin5 : In (fun b => b < w1.heap.size) W5.heap.size := fun b (hb : b < w1.heap.size) => by omega
  have hrx5 : Rep W5 (fun b => b < w1.heap.size) 2 x (nd x A1 c1) := HRX4.out.keep (Keeps.below (fun b (hb : b < w1.heap.size) => by omega) hb5)
  have hry5 : Rep W5 (fun b => b < w4.heap.size) D4 y (nd y A4 c4) := HRY4.out.keep (Keeps.below (fun b hb => hb) hb5)
  have hb6 := below_new W5 (.cells #[.int .i64 2] 3)
  have HSB := tset_is 2 2 x x (fun b => b < w1.heap.size) (fun b => b < W5.heap.size + 1) (fun b => b < w1.heap.size) A1 A1 c1 c1 (W5.alloc (.cells #[.int .i64 2] 3)) [2] (some ⟨W5.heap.size, 0, none⟩) 1 (hrx5.keep (Keeps.below hin5 hb6)) (hrx5.keep (Keeps.below hin5 hb6)) (one_rd W5 2) (hin5.more hb6.size) (hin5.more hb6.size) (fun b (hb : b < W5.heap.size + 1) => by rw [size_alloc]; exact hb) (by rw [HSX.out]; omega) (by rw [HSX.out]; omega) (Nat.le_refl _) (by simp)
  rw [HS2.out] at HSB
  refine HSB.mono ?_
  clear HSB
  rintro e w7 hs7
  obtain ⟨A7, c7, rfl, hb7⟩ := hs7.none_
  have hb57 : Below W5.heap.size W5 w7 := bt hb6 hb7
  go_wp2_with (refine wpList_store_new rfl 26 (.tmp 4) (.tmp 19) rfl w7 _ _ rfl rfl (by rw [size_node]; rfl) rfl rfl ?_)
  obtain ⟨W8, hW8⟩ : ∃ W8, W8 = w7.alloc (.cells #[.int .i64 0, .int .i64 0, .int .i64 0, .slice A7 0 c7] 26) := ⟨_, rfl⟩
  have hb58 : Below W5.heap.size W5 W8 := by rw [hW8]; exact ba hb57 _
  rw [← hW8]
  have HK : Hid (∀ W', Below W8.heap.size W8 W' → W'.cell? ⟨w1.heap.size, 0, none⟩ = some (.int .i64 x.k) ∧ W'.cell? ⟨w1.heap.size, 1, none⟩ = some (.int .i64 x.n) ∧ W'.cell? ⟨w1.heap.size, 2, none⟩ = some (.int .i64 x.m) ∧ W'.cell? ⟨w1.heap.size, 3, none⟩ = some (.slice A1 x.kids.length c1) ∧
      W'.cell? ⟨w4.heap.size, 0, none⟩ = some (.int .i64 y.k) ∧ W'.cell? ⟨w4.heap.size, 1, none⟩ = some (.int .i64 y.n) ∧ W'.cell? ⟨w4.heap.size, 2, none⟩ = some (.int .i64 y.m) ∧ W'.cell? ⟨w4.heap.size, 3, none⟩ = some (.slice A4 y.kids.length c4)) := Lib.hid (fun W' h => by
    have h1 := (hX5.below hb58 hX5.lt).below h (hX5.below hb58 hX5.lt).lt
    have h2 := (hY5.below hb58 hY5.lt).below h (hY5.below hb58 hY5.lt).lt
    exact ⟨h1.cell 0, h1.cell 1, h1.cell 2, h1.cell 3, h2.cell 0, h2.cell 1, h2.cell 2, h2.cell 3⟩)
  have HRX : Hid (∀ W', Below W8.heap.size W8 W' → Rep W' (fun b => b < W'.heap.size) 2 x (nd x A1 c1)) := Lib.hid (fun W' h => by
    have h1 := hrx5.keep (Keeps.below hin5 (bt hb58 h))
    refine h1.mono fun b (hb : b < w1.heap.size) => ?_
    have := hb58.size
    have := h.size
    show b < W'.heap.size
    omega)
  have HRY : Hid (∀ W', Below W8.heap.size W8 W' → Rep W' (fun b => b < W'.heap.size) D4 y (nd y A4 c4)) := Lib.hid (fun W' h => by
    have h1 := hry5.keep (Keeps.below (fun b (hb : b < w4.heap.size) => by omega) (bt hb58 h))
    refine h1.mono fun b (hb : b < w4.heap.size) => ?_
    have := hb58.size
    have := h.size
    show b < W'.heap.size
    omega)
  have HCX : Hid (∀ W', Below W8.heap.size W8 W' → ∀ i z, ([.int .i64 x.k, .int .i64 x.n, .int .i64 x.m, .slice A1 x.kids.length c1] : List Value)[i]? = some z → W'.cell? ⟨w1.heap.size, 0 + i, none⟩ = some z) := Lib.hid (fun W' h i z hz => by
    have h1 := (hX5.below hb58 hX5.lt).below h (hX5.below hb58 hX5.lt).lt
    rw [h1.cell (0 + i), Nat.zero_add]; simpa using hz)
  have HBW8 : Hid (Below w.heap.size w W8) := Lib.hid (bt (bt HBW4.out hb5) hb58)
  have HTT : Hid (∀ W', Below W8.heap.size W8 W' → ST W') := Lib.hid (fun W' h => HT.out.below (bt HBW8.out h) HG.out)
  have HTG : Hid (∀ W', Below W8.heap.size W8 W' → 0 < W'.heap.size) := Lib.hid (fun W' h => Nat.lt_of_lt_of_le HG.out (bt HBW8.out h).size)
  have hbc : Below W8.heap.size W8 W8.drew := (Below.refl _ _).drew
  clear hW5 hz5 hb5 hY5 hX5 hin5 hrx5 hry5 hb6 hs7 hb7 hb57 hW8 hb58 hlt4
  refine wp_region_noPanic ?_
  go_region_held2 (fun W' => W'.cell? ⟨w1.heap.size, 0, none⟩ = some (.int .i64 x.k) ∧ W'.cell? ⟨w1.heap.size, 1, none⟩ = some (.int .i64 x.n) ∧ W'.cell? ⟨w1.heap.size, 2, none⟩ = some (.int .i64 x.m) ∧ W'.cell? ⟨w1.heap.size, 3, none⟩ = some (.slice A1 x.kids.length c1) ∧
      W'.cell? ⟨w4.heap.size, 0, none⟩ = some (.int .i64 y.k) ∧ W'.cell? ⟨w4.heap.size, 1, none⟩ = some (.int .i64 y.n) ∧ W'.cell? ⟨w4.heap.size, 2, none⟩ = some (.int .i64 y.m) ∧ W'.cell? ⟨w4.heap.size, 3, none⟩ = some (.slice A4 y.kids.length c4))
    (exact HK.out _ hbc)
    (first
    | (go_at_call 51; refine (HM2.out _).mono ?_; rintro e w9 ⟨A9, c9, rfl, hr9, hb9⟩; have hbc := bt hbc hb9)
    | (go_at_call 20; refine (same_is (max D4 2) y y (fun b => b < w9.heap.size) A4 A9 c4 c9 w9 ((HRY.out _ hbc).deeper (Nat.le_max_left _ _)) ((hr9.lt (fun b hb => hb.2)).deeper (Nat.le_max_right _ _)) (in_lt _) (by rw [HSY.out]; omega) (by rw [HSY.out]; omega) true (by rw [cmp_self]; rfl)).mono ?_; rintro e w10 ⟨rfl, hb10⟩; have hbc := bt hbc hb10)
    | (go_at_call 53; have hm := hb11; refine (tcmp_is D4 y x _ _ A4 A1 c4 c1 2 _ (HRY.out _ hbc) (HRX.out _ hbc) (in_lt _) (in_lt _) (by rw [HSY.out]; omega) (by rw [HSX.out]; omega)).mono ?_; rintro e w12 ⟨rfl, hb12⟩; rw [HCB.out]; have hbc := bt hbc hb12)
    | (go_at_call 53; refine (tcmp_is 2 x y _ _ A1 A4 c1 c4 D4 _ (HRX.out _ hbc) (HRY.out _ hbc) (in_lt _) (in_lt _) (by rw [HSX.out]; omega) (by rw [HSY.out]; omega)).mono ?_; rintro e w11 ⟨rfl, hb11⟩; rw [HCA.out]; have hbc := bt hbc hb11))
  refine NoPanic.normal ?_
  go_wp2_with (first
    | (refine wpList_load_mid rfl 26 (.tmp 1) rfl w1.heap.size 0 rfl [.int .i64 x.k, .int .i64 x.n, .int .i64 x.m, .slice A1 x.kids.length c1] _ (HCX.out _ hbc) Tryd.underlying26 rfl (by rw [size_node]; rfl) ?_)
    | (go_at_call 54; refine (size_is 2 x _ A1 c1 _ (HRX.out _ hbc) (in_lt _) (by rw [HSX.out]; omega)).mono ?_; rintro e w13 ⟨rfl, hb13⟩; rw [HSX.out]; have hbc := bt hbc hb13; obtain ⟨k0, k1, k2, k3, _, _, _, _⟩ := HK.out _ hbc)
    | (go_at_call 55; refine (depth_is 2 x _ A1 c1 _ (HRX.out _ hbc) (in_lt _) (by rw [HSX.out]; omega)).mono ?_; rintro e w14 ⟨rfl, hb14⟩; rw [HDX.out]; have hbc := bt hbc hb14; obtain ⟨k0, k1, k2, k3, _, _, _, _⟩ := HK.out _ hbc)
    | (go_at_call 57; refine (tpaths_is 2 x _ A1 c1 _ (HRX.out _ hbc) (in_lt _) (by rw [HSX.out]; omega)).mono ?_; rintro e w15 ⟨A15, c15, rfl, hcap15, hps15, hb15⟩; rw [HSX.out] at hcap15 ⊢; rw [HPX.out] at hps15; have HPS := Lib.hid hps15; clear hps15; have hbc := bt hbc hb15; obtain ⟨k0, k1, k2, k3, _, _, _, _⟩ := HK.out _ hbc)
    | (go_at_call 56; refine (samePaths_is [[], [0], [1]] [[], [0], [1]] (fun b => b < w15.heap.size + 3) A15 _ c15 _ _ HPS.out.later15 (lits_ps w15) (in_lits w15) (by simp) (by simp) (by simp) true (by rfl)).mono ?_; rintro e w16 ⟨rfl, hb16⟩; have hbc := bt hbc (bt (lits_below w15) hb16); obtain ⟨k0, k1, k2, k3, _, _, _, _⟩ := HK.out _ hbc)
    | (go_at_call 12; refine (encode_is 2 x _ A1 c1 _ (HRX.out _ hbc) (in_lt _) (by rw [HSX.out]; omega)).mono ?_; rintro e w17 ⟨A17, c17, rfl, hown17, hb17⟩; rw [HEX.out]; have hbc := bt hbc hb17; obtain ⟨k0, k1, k2, k3, _, _, _, _⟩ := HK.out _ hbc)
    | (go_at_call 58; rw [HKX.out]; refine (tvalid9_is _ _ _ _ _ _ (HTT.out _ hbc) (HTG.out _ hbc)).mono ?_; rintro e w18 ⟨rfl, hb18⟩; have hbc := bt hbc hb18))
  go_ret
  exact ⟨rfl, bt HBW8.out hbc⟩
end Go.Proofs.YtikinofopkjdjaaDoor
