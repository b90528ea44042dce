/-
  The generator of trees: Tree.
-/
import Derived.Test.YtikinofopkjdjaaDoorG07
set_option linter.unusedVariables false
namespace Go.Proofs.YtikinofopkjdjaaDoor
open Go.RowKit WM TR

/-- The tree that Tree makes. -/
def genTree (L : List Int) : T := (mkT L 6 0 29).1
/-- What a function leaves that makes a tree. -/
def MadeT (t : T) (d : Nat) (w : World) (e : Ending) (w' : World) : Prop :=
  ∃ A' c', e = .returned (.agg #[.int .i64 t.k, .int .i64 t.n, .int .i64 t.m, .slice A' t.kids.length c']) ∧ Rep w' (fun b => w.heap.size ≤ b ∧ b < w'.heap.size) d t (nd t A' c') ∧ Below w.heap.size w w'
theorem genTree_size (L : List Int) : size (genTree L) ≤ 4096 := (mkT_made L 6).size 0 29
theorem genTree_depth (L : List Int) : depth (genTree L) ≤ 6 := mkT_depth L 6 0 29

theorem put4_rep {w : World} {S : Nat → Prop} {d : Nat} {t : T} {cs : List Value} (h : Rep w S d t cs) {r : Nat} (hr : ¬ S r) (v0 v1 v2 v3 : Value) :
    Rep ((((w.setCell ⟨r, 0, none⟩ v0).setCell ⟨r, 1, none⟩ v1).setCell ⟨r, 2, none⟩ v2).setCell ⟨r, 3, none⟩ v3) S d t cs :=
  h.keep (((((Keeps.refl S w).setCell hr _).setCell hr _).setCell hr _).setCell hr _)
theorem put4_blk {w : World} {g : Nat} {t : TypeId} {cs : List Value} (h : Blk w g t cs.toArray) (hs : cs.length = 4) (v0 v1 v2 v3 : Value) :
    Blk ((((w.setCell ⟨g, 0, none⟩ v0).setCell ⟨g, 1, none⟩ v1).setCell ⟨g, 2, none⟩ v2).setCell ⟨g, 3, none⟩ v3) g t #[v0, v1, v2, v3] := by
  have hb := (((h.set_ 0 v0).set_ 1 v1).set_ 2 v2).set_ 3 v3
  match cs, hs with
  | [_, _, _, _], _ => simpa using hb
theorem put4_below {a w : World} (h : Below a.heap.size a w) {r : Nat} (v0 v1 v2 v3 : Value) (hr : a.heap.size ≤ r := by exact Nat.le_refl _) :
    Below a.heap.size a ((((w.setCell ⟨r, 0, none⟩ v0).setCell ⟨r, 1, none⟩ v1).setCell ⟨r, 2, none⟩ v2).setCell ⟨r, 3, none⟩ v3) :=
  (((h.setCell hr _).setCell hr _).setCell hr _).setCell hr _

set_option maxRecDepth 100000 in
set_option maxHeartbeats 2000000 in
theorem Tree_is (L : List Int) (S : Nat → Prop) (A : Option Addr) (c : Nat) (w : World) (hL : Rd w S 1 A L.length (vi L)) (hin : In S w.heap.size) (hr : ∀ x ∈ L, inRange x) (hl : L.length ≤ 9223372036854775807) :
    Calls Tryd.prog 9 #[.slice A L.length c] w (MadeT (genTree L) 6 w) := by
  have HL := Lib.hid hL
  have HI := Lib.hid hin
  clear hL hin
  go_enter Tryd.func9, Tryd.ntmps9
  go_wp2_with fail
  obtain ⟨W1, hW1⟩ : ∃ W1, W1 = (w.alloc (.cells #[.int .i64 0, .int .i64 0, .int .i64 0, .slice none 0 0] 26)).alloc (.cells #[.slice A L.length c, .int .i64 0, .int .i64 29] 72) := ⟨_, rfl⟩
  have hb1 : Below w.heap.size w W1 := by rw [hW1]; exact ba (below_new _ _) _
  have hz1 : W1.heap.size = w.heap.size + 2 := by rw [hW1]; simp
  have ho1 : Blk W1 w.heap.size 26 #[.int .i64 0, .int .i64 0, .int .i64 0, .slice none 0 0] := by rw [hW1]; exact blk_new3 _ _ _ _
  have hg1 : Blk W1 (w.heap.size + 1) 72 (mkc A L.length c 0 29) := by rw [hW1]; exact blk_new2 _ _ _ _
  rw [← hW1]
  have hS : ∀ b, S b → b ≠ w.heap.size + 1 := fun b hb => by have := HI.out b hb; omega
  refine (tree_is L S A c (w.heap.size + 1) hr hl hS 5 0 29 W1 hg1 (HI.out.more (by omega)) (HL.out.keep (Keeps.below HI.out hb1)) (by decide) (by decide) (by decide) 6 rfl).mono ?_
  rintro e w2 ⟨t, A', c', ht, rfl, hrep, hg2, hgw⟩
  have ho2 : Blk w2 w.heap.size 26 #[.int .i64 0, .int .i64 0, .int .i64 0, .slice none 0 0] := ho1.gw hgw (by omega)
  have HREP := Lib.hid hrep
  have HGW := Lib.hid hgw
  have HB1 := Lib.hid hb1
  have HZ1 := Lib.hid hz1
  have HT := Lib.hid ht
  have r0 := ho2.cell 0
  have r1 := ho2.cell 1
  have r2 := ho2.cell 2
  have r3 := ho2.cell 3
  have f0 := ho2.frozen 0
  have f1 := ho2.frozen 1
  have f2 := ho2.frozen 2
  have f3 := ho2.frozen 3
  simp only [List.getElem?_toArray, List.getElem?_cons_zero, List.getElem?_cons_succ] at r0 r1 r2 r3
  clear hW1 hb1 hz1 ho1 hg1 hg2 hgw hrep ht ho2 hS
  go_wp2_with fail
  refine bodyPost_ret (v := .agg #[.int .i64 t.k, .int .i64 t.n, .int .i64 t.m, .slice A' t.kids.length c']) (by simp [results, Tryd.results9, go_sem, r0, r1, r2, r3]) rfl ?_
  have h : genTree L = t := HT.out
  rw [h]
  refine ⟨A', c', rfl, ?_, ?_⟩
  · refine Rep.mono ?_ (put4_rep HREP.out (r := w.heap.size) (fun hb => by have := hb.1; have := HZ1.out; omega) _ _ _ _)
    intro b hb
    exact ⟨by have := hb.1; have := HZ1.out; omega, by rw [(gw4 _ _ _ _ _ _).2]; exact hb.2⟩
  · exact put4_below (HB1.out.grown HGW.out HB1.out.size (fun k hk => by have := Option.some.inj hk; omega)) _ _ _ _

/-- A tree of a depth: a statement, in blocks. -/
def deepT : Nat → T
  | 0 => ⟨25, 0, 0, []⟩
  | i + 1 => ⟨13, 0, 0, [deepT i]⟩
theorem deepT_size : ∀ i, size (deepT i) = i + 1
  | 0 => by simp [deepT, size_eq]
  | i + 1 => by rw [size_eq]; simp only [deepT, List.map_cons, List.map_nil, List.sum_cons, List.sum_nil, deepT_size i]; omega
theorem deepT_kids : ∀ i, (deepT i).kids.length ≤ 1
  | 0 => by simp [deepT]
  | i + 1 => by simp [deepT]

set_option maxRecDepth 100000 in
set_option maxHeartbeats 2000000 in
theorem Deep_is (n : Int) (hn : n ≤ 1000) (w : World) :
    Calls Tryd.prog 17 #[.int .i64 n] w (MadeT (deepT (n.toNat - 1)) (n.toNat - 1 + 1) w) := by
  go_enter Tryd.func17, Tryd.ntmps17
  go_wp2_with fail
  obtain ⟨W1, hW1⟩ : ∃ W1, W1 = (w.alloc (.cells #[.int .i64 0, .int .i64 0, .int .i64 0, .slice none 0 0] 26)).alloc (.cells #[.int .i64 25, .int .i64 0, .int .i64 0, .slice none 0 0] 26) := ⟨_, rfl⟩
  have hb1 : Below w.heap.size w W1 := by rw [hW1]; exact ba (below_new _ _) _
  have hz1 : W1.heap.size = w.heap.size + 2 := by rw [hW1]; simp
  have ho1 : Blk W1 w.heap.size 26 #[.int .i64 0, .int .i64 0, .int .i64 0, .slice none 0 0] := by rw [hW1]; exact blk_new3 _ _ _ _
  have hg1 : Blk W1 (w.heap.size + 1) 26 #[.int .i64 25, .int .i64 0, .int .i64 0, .slice none 0 0] := by rw [hW1]; exact blk_new2 _ _ _ _
  rw [← hW1]
  have HB1 := Lib.hid hb1
  have HZ1 := Lib.hid hz1
  have HO1 := Lib.hid ho1
  have HG1 := Lib.hid hg1
  clear hW1 hb1 hz1 ho1 hg1
  obtain ⟨K, hK⟩ : ∃ K, K = n.toNat - 1 := ⟨_, rfl⟩
  rw [← hK]
  have HK := Lib.hid hK
  clear hK
  go_loopw [4] (fun i wr => ∃ j : Nat, j ≤ K ∧ i = .int .i64 ((j : Int) + 1) ∧ Hid (∃ A c, Blk wr (w.heap.size + 1) 26 (nd (deepT j) A c).toArray ∧ Rep wr (fun b => w.heap.size + 1 < b ∧ b < wr.heap.size) (j + 1) (deepT j) (nd (deepT j) A c)) ∧
      Hid (Blk wr w.heap.size 26 #[.int .i64 0, .int .i64 0, .int .i64 0, .slice none 0 0]) ∧ Hid (Below w.heap.size w wr)) (fun i _ => (n - intOf i).toNat)
  case atStart => exact ⟨0, Nat.zero_le _, rfl, ⟨none, 0, HG1.out, Rep.leaf (by unfold inRange; omega) in0 in0 _ _⟩, HO1.out, HB1.out⟩
  case round =>
    obtain ⟨j, hj, rfl, HX, HO, HB⟩ := hrel
    obtain ⟨A, c, hblk, hrep⟩ := HX.out
    obtain ⟨t, ht⟩ : ∃ t, t = deepT j := ⟨_, rfl⟩
    have hd1 : deepT (j + 1) = ⟨13, 0, 0, [t]⟩ := by rw [ht]; rfl
    rw [← ht] at hblk hrep
    have HD1 := Lib.hid hd1
    have HDT := Lib.hid ht
    have n0 := hblk.cell 0
    have n1 := hblk.cell 1
    have n2 := hblk.cell 2
    have n3 := hblk.cell 3
    have f0 := hblk.frozen 0
    have f1 := hblk.frozen 1
    have f2 := hblk.frozen 2
    have f3 := hblk.frozen 3
    simp only [nd, List.getElem?_toArray, List.getElem?_cons_zero, List.getElem?_cons_succ] at n0 n1 n2 n3
    have hlt := hblk.lt
    have HBK := Lib.hid hblk
    have HRP := Lib.hid hrep
    clear HX hblk hrep hd1 ht
    by_cases hjn : j < K
    · have hjn2 : (j : Int) + 1 < n := by have := HK.out; omega
      go_wp2_with fail
      go_roundw
      case rel =>
        obtain ⟨V, hV⟩ : ∃ V, V = (((wr.setCell ⟨w.heap.size + 1, 0, none⟩ (.int .i64 13)).setCell ⟨w.heap.size + 1, 1, none⟩ (.int .i64 0)).setCell ⟨w.heap.size + 1, 2, none⟩ (.int .i64 0)).setCell ⟨w.heap.size + 1, 3, none⟩ (.slice (some ⟨wr.heap.size, 0, none⟩) 1 1) := ⟨_, rfl⟩
        have hvs : V.heap.size = wr.heap.size := by rw [hV]; exact (gw4 _ _ _ _ _ _).2
        have hvg : wr.grownBy V (some (w.heap.size + 1)) := by rw [hV]; exact (gw4 _ _ _ _ _ _).1
        have hvb : Blk V (w.heap.size + 1) 26 #[.int .i64 13, .int .i64 0, .int .i64 0, .slice (some ⟨wr.heap.size, 0, none⟩) 1 1] := by rw [hV]; exact put4_blk HBK.out rfl _ _ _ _
        have hvr : Rep V (fun b => w.heap.size + 1 < b ∧ b < wr.heap.size) (j + 1) t (nd t A c) := by rw [hV]; exact put4_rep HRP.out (r := w.heap.size + 1) (fun hb => by have := hb.1; omega) _ _ _ _
        have hvo : Blk V w.heap.size 26 #[.int .i64 0, .int .i64 0, .int .i64 0, .slice none 0 0] := HO.out.gw hvg (by omega)
        have hvw : Below w.heap.size w V := by rw [hV]; exact put4_below HB.out _ _ _ _ (Nat.le_succ _)
        rw [← hV]
        have hrt : Rep (V.alloc (.cells #[.int .i64 t.k, .int .i64 t.n, .int .i64 t.m, .slice A t.kids.length c] 26)) (fun b => w.heap.size + 1 < b ∧ b < V.heap.size + 1) (j + 1) t (nd t A c) := by
          refine Rep.mono ?_ (hvr.keep (Keeps.below (B := V.heap.size) (fun b hb => by have := hb.2; omega) (below_new V _)))
          intro b hb
          exact ⟨hb.1, by have := hb.2; omega⟩
        have hrn : Rep (V.alloc (.cells #[.int .i64 t.k, .int .i64 t.n, .int .i64 t.m, .slice A t.kids.length c] 26)) (fun b => w.heap.size + 1 < b ∧ b < V.heap.size + 1) (j + 1 + 1) ⟨13, 0, 0, [t]⟩ (nd ⟨13, 0, 0, [t]⟩ (some ⟨V.heap.size, 0, none⟩) 1) :=
          Rep.mk (ts := [t]) (by unfold inRange; omega) in0 in0 (Nat.le_refl 1) (xs := nd t A c) ⟨rfl, fun _ => ⟨_, rfl, ⟨by rw [hvs]; exact hlt, Nat.lt_succ_self _⟩, cells_new V (nd t A c) 26⟩⟩ (Reps.one hrt)
        rw [hvs] at hrn
        refine ⟨j + 1, by omega, by go_num, ?_, hvo.alloc _, ba hvw _⟩
        rw [HD1.out]
        refine ⟨some ⟨wr.heap.size, 0, none⟩, 1, hvb.alloc _, Rep.mono ?_ hrn⟩
        intro b hb
        exact ⟨hb.1, by rw [size_alloc, hvs]; exact hb.2⟩
      case measure => simp [intOf]; omega
    · have hjn2 : ¬ (j : Int) + 1 < n := by have := HK.out; omega
      have hjK : j = K := by omega
      have HJK := Lib.hid hjK
      have r0 := HO.out.cell 0
      have r1 := HO.out.cell 1
      have r2 := HO.out.cell 2
      have r3 := HO.out.cell 3
      have g0 := HO.out.frozen 0
      have g1 := HO.out.frozen 1
      have g2 := HO.out.frozen 2
      have g3 := HO.out.frozen 3
      simp only [List.getElem?_toArray, List.getElem?_cons_zero, List.getElem?_cons_succ] at r0 r1 r2 r3
      clear hjK hjn
      go_wp2_with fail
      refine bodyPost_ret (v := .agg #[.int .i64 t.k, .int .i64 t.n, .int .i64 t.m, .slice A t.kids.length c]) (by simp [results, Tryd.results17, go_sem, r0, r1, r2, r3]) rfl ?_
      rw [← HK.out, ← HJK.out, ← HDT.out]
      refine ⟨A, c, rfl, ?_, put4_below HB.out _ _ _ _⟩
      refine Rep.mono ?_ (put4_rep HRP.out (r := w.heap.size) (fun hb => by have := hb.1; omega) _ _ _ _)
      intro b hb
      exact ⟨by have := hb.1; omega, by rw [(gw4 _ _ _ _ _ _).2]; exact hb.2⟩
end Go.Proofs.YtikinofopkjdjaaDoor
