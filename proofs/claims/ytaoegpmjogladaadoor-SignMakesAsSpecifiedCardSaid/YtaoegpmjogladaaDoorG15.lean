/-
  sign.tree.
-/
import Derived.Test.YtaoegpmjogladaaDoorG14
import Derived.Laws.EntriesVeiled
set_option linter.unusedVariables false
namespace Go.Proofs.YtaoegpmjogladaaDoor
open Go.RowKit WM

theorem treeClo (seed : ByteArray) (h i gs gn gh gi gb gd : Nat) (hs : seed.size ≤ 1000) (hh6 : h ≤ 6) (hi : i < 64) : ∀ (l k : Nat) (L : List (List UInt8)) (w : World), TreeAt seed h i gs gn gh gi gb gd w →
    Blk w gd 29 (dgs L) → L.length = h → (∀ x ∈ L, x.length = 16) → l ≤ h → (k + 1) * 2 ^ l ≤ 64 →
    Calls Tryd.prog 63 #[.int .i64 (l : Int), .int .i64 (k : Int), .pointer (some ⟨gs, 0, none⟩), .pointer (some ⟨gn, 0, none⟩), .pointer (some ⟨gh, 0, none⟩), .pointer (some ⟨gi, 0, none⟩), .pointer (some ⟨gb, 0, none⟩)] w (TreePost seed h i gd l k L w)
  | 0, k, L, w, hw, hd, hL, h16, hl, hkl => treeBody seed h i gs gn gh gi gb gd 0 k L w hw hd hL h16 hs hh6 hi hl hkl (fun l' _ _ _ e => absurd e (by omega))
  | l + 1, k, L, w, hw, hd, hL, h16, hl, hkl => treeBody seed h i gs gn gh gi gb gd (l + 1) k L w hw hd hL h16 hs hh6 hi hl hkl (fun l' k' L' w' e hk' hw' hd' hL' h16' => by
      obtain rfl : l' = l := by omega
      exact treeClo seed h i gs gn gh gi gb gd hs hh6 hi l' k' L' w' hw' hd' hL' h16' (by omega) hk')

theorem treeRoot (seed : ByteArray) (h i gs gn gh gi gb gd : Nat) (hs : seed.size ≤ 1000) (hh6 : h ≤ 6) (hi : i < 64) (L : List (List UInt8)) (w : World) (hw : TreeAt seed h i gs gn gh gi gb gd w)
    (hd : Blk w gd 29 (dgs L)) (hL : L.length = h) (h16 : ∀ x ∈ L, x.length = 16) (h64 : 2 ^ h ≤ 64) :
    Calls Tryd.prog 63 #[.int .i64 (h : Int), .int .i64 0, .pointer (some ⟨gs, 0, none⟩), .pointer (some ⟨gn, 0, none⟩), .pointer (some ⟨gh, 0, none⟩), .pointer (some ⟨gi, 0, none⟩), .pointer (some ⟨gb, 0, none⟩)] w (TreePost seed h i gd h 0 L w) :=
  treeClo seed h i gs gn gh gi gb gd hs hh6 hi h 0 L w hw hd hL h16 (Nat.le_refl _) (by omega)
theorem results_cell_slot {P : Program} {fn : Func} {p q : Tmp} {ty : TypeId} (h : fn.results = #[.cell p ty, .tmp q]) (tmps : Array Value) (w : World) (g : Nat) (t : TypeId) (cs : Array Value) (fr : Nat × Nat) (d : TypeDesc) (v : Value)
    (hp : tmps.getD p undef = .pointer (some ⟨g, 0, none⟩)) (hg : w.heap[g]? = some (.cells cs t fr))
    (hu : P.underlying ty = some d) (hd : (match d with | .struct _ | .array _ _ => true | _ => false) = true) (hi : (P.info? ty).map (·.size) = some cs.size) (hv : tmps.getD q undef = v) :
    (results fn tmps).run P w = .ok (.tuple #[.agg cs, v]) w := by
  have hp' : tmps[p]?.getD undef = .pointer (some ⟨g, 0, none⟩) := by simpa using hp
  have hv' : tmps[q]?.getD undef = v := by simpa using hv
  simp [results, h, hp', hv', asAddr, run_loadVar_row w g t ty cs fr d hg hu hd hi]
theorem below_kp {a w w1 : World} {gd : Nat} (h : Below a.heap.size a w) (hk : Kp gd w w1) (hg : a.heap.size ≤ gd) : Below a.heap.size a w1 :=
  ⟨hk.os.trans h.os, hk.tape.trans h.tape, hk.output.trans h.output, Nat.le_trans h.size hk.size, fun i hi => (hk.block i (Nat.lt_of_lt_of_le hi h.size) (fun e => by injection e with e; omega)).trans (h.block i hi)⟩

def zs (h : Nat) : List (List UInt8) := List.replicate h z16
theorem make70 (h : Nat) (hh : h ≤ 6) (W : World) : (Instr.makeSlice 70 (.int .i64 (h : Int)) (.int .i64 (h : Int))).run Tryd.prog W = .ok (.slice (some ⟨W.heap.size, 0, none⟩) h h) (W.alloc (.cells (dgs (zs h)) 29)) := by
  obtain rfl | rfl | rfl | rfl | rfl | rfl | rfl : h = 0 ∨ h = 1 ∨ h = 2 ∨ h = 3 ∨ h = 4 ∨ h = 5 ∨ h = 6 := by omega
  all_goals kernel_rfl

set_option maxRecDepth 100000 in
set_option maxHeartbeats 4000000 in
theorem tree (seed : ByteArray) (h i : Nat) (w : World) (hk : KT 0 w) (hs : seed.size ≤ 1000) (hh6 : h ≤ 6) (hi : i < 2 ^ h) :
    Calls Tryd.prog 39 #[.string seed, .int .i64 (h : Int), .int .i64 (i : Int)] w fun e w' => ∃ gd, e = .returned (.tuple #[.agg (bs (rootB seed.data.toList h)).toArray, .slice (some ⟨gd, 0, none⟩) h h]) ∧ w.heap.size ≤ gd ∧ Blk w' gd 29 (dgs (pathB seed.data.toList i h)) ∧ Below w.heap.size w w' := by
  have hz := Tryd.zero29
  have hmk := make70 h hh6
  have h64 : 2 ^ h ≤ 64 := by
    have : 2 ^ h ≤ 2 ^ 6 := Nat.pow_le_pow_right (by omega) hh6
    simpa using this
  have hi64 : i < 64 := by omega
  have HK := Lib.hid hk
  have HI := Lib.hid hi
  have HPA := Lib.hid (show visitB seed.data.toList h i h 0 (zs h) = pathB seed.data.toList i h by rw [visitB_root _ _ _ hi _ (by simp [zs]), pathB_eq])
  have H64 := Lib.hid h64
  obtain ⟨d, hd⟩ : ∃ d, d = rootB seed.data.toList h := ⟨_, rfl⟩
  have hdl : d.length = 16 := by rw [hd]; exact nodeB_16 _ _ _
  have HDN := Lib.hid (show nodeB seed.data.toList h 0 = d from hd.symm)
  have HDL := Lib.hid hdl
  have HS16 := Lib.hid (size16 hdl)
  rw [← hd]
  clear hd hdl hk hi h64
  go_enter Tryd.func39, Tryd.ntmps39
  go_wp2
  generalize hw0 : World.alloc _ _ = w0
  obtain ⟨gs, hgs⟩ : ∃ g, g = w.heap.size := ⟨_, rfl⟩
  obtain ⟨gh, hgh⟩ : ∃ g, g = w.heap.size + 1 := ⟨_, rfl⟩
  obtain ⟨gi, hgi⟩ : ∃ g, g = w.heap.size + 1 + 1 := ⟨_, rfl⟩
  obtain ⟨go, hgo⟩ : ∃ g, g = w.heap.size + 1 + 1 + 1 := ⟨_, rfl⟩
  obtain ⟨gd, hgd⟩ : ∃ g, g = w.heap.size + 1 + 1 + 1 + 1 := ⟨_, rfl⟩
  obtain ⟨gb, hgb⟩ : ∃ g, g = w.heap.size + 1 + 1 + 1 + 1 + 1 := ⟨_, rfl⟩
  obtain ⟨gn, hgn⟩ : ∃ g, g = w.heap.size + 1 + 1 + 1 + 1 + 1 + 1 := ⟨_, rfl⟩
  rw [← hgn, ← hgb, ← hgd, ← hgi, ← hgh, ← hgs] at hw0
  rw [← hgn, ← hgb, ← hgd, ← hgo, ← hgi, ← hgh, ← hgs]
  have HN : Hid (gs = w.heap.size ∧ gh = w.heap.size + 1 ∧ gi = w.heap.size + 2 ∧ go = w.heap.size + 3 ∧ gd = w.heap.size + 4 ∧ gb = w.heap.size + 5 ∧ gn = w.heap.size + 6) := ⟨hgs, hgh, hgi, hgo, hgd, hgb, hgn⟩
  have HB0 : Hid (Below w.heap.size w w0) := by rw [← hw0]; exact ba (ba (ba (ba (ba (ba (below_new _ _) _) _) _) _) _) _
  have HD0 : Hid (Blk w0 gd 29 (dgs (zs h)) ∧ Blk w0 go 29 (bs z16).toArray) := by
    rw [← hw0]
    exact ⟨((Blk.new_at _ 29 (by simp [hgd]) rfl).alloc _).alloc _, (((Blk.new_at _ 29 (by simp [hgo]) rfl).alloc _).alloc _).alloc _⟩
  have HT0 : Hid (TreeAt seed h i gs gn gh gi gb gd w0) := by
    refine ⟨?_, ?_, ?_, ?_, ?_, HK.out.below HB0.out⟩
    · rw [← hw0]; exact ((((((Blk.new_at _ 9 hgs rfl).alloc _).alloc _).alloc _).alloc _).alloc _).alloc _
    · rw [← hw0]; exact Blk.new_at _ 92 (by simp [hgn]) rfl
    · rw [← hw0]; exact (((((Blk.new_at _ 3 (by simp [hgh]) rfl).alloc _).alloc _).alloc _).alloc _).alloc _
    · rw [← hw0]; exact ((((Blk.new_at _ 3 (by simp [hgi]) rfl).alloc _).alloc _).alloc _).alloc _
    · rw [← hw0]; exact (Blk.new_at _ 70 (by simp [hgb]) rfl).alloc _
  clear hw0 hgs hgh hgi hgo hgd hgb hgn
  have HR1 := Lib.hid (treeRoot seed h i gs gn gh gi gb gd hs hh6 hi64 (zs h) w0.drew (HT0.out.kp HD0.out.1 Kp.refl.drew) HD0.out.1.drew (by simp [zs]) (fun x hx => by rw [List.eq_of_mem_replicate hx]; rfl) H64.out)
  have ga := one_cell HT0.out.n
  have gk := one_cell HT0.out.hh
  have gm := one_cell HT0.out.b
  have hla : (bs d).length = 16 := by rw [bs_length]; exact HDL.out
  have hon := bs_one d
  have hsd : (Tryd.prog.info? 29).map (·.size) = some (bs d).length := by rw [hla]; exact Tryd.size29
  go_region_held3 (fun w' => w'.cell? ⟨gn, 0, none⟩ = some (.func (.func 63) #[] #[.pointer (some ⟨gs, 0, none⟩), .pointer (some ⟨gn, 0, none⟩), .pointer (some ⟨gh, 0, none⟩), .pointer (some ⟨gi, 0, none⟩), .pointer (some ⟨gb, 0, none⟩)]) ∧ w'.cell? ⟨gh, 0, none⟩ = some (.int .i64 (h : Int)) ∧ w'.cell? ⟨gb, 0, none⟩ = some (.slice (some ⟨gd, 0, none⟩) h h))
    (first | exact ⟨ga, gk, gm⟩ | exact ⟨ga1, gk1, gm1⟩ | exact ⟨ga2, gk2, gm2⟩)
    (first
      | (go_at_call 63; ((with_reducible refine HR1.out.mono ?_); rintro e w1 ⟨rfl, hd1, hp1⟩); rw [HDN.out]; rw [HPA.out] at hd1; have HD1 := Lib.hid hd1; have HP1 := Lib.hid (Kp.refl.drew.trans hp1); have HT1 := Lib.hid (HT0.out.kp HD0.out.1 HP1.out); have HO1 := Lib.hid (HD0.out.2.kp HP1.out (by have := HN.out; omega)); have hth := there16 HO1.out z16_length; have HSC := Lib.hid (setCells16 HO1.out z16_length HDL.out); have ga1 := one_cell HT1.out.n; have gk1 := one_cell HT1.out.hh; have gm1 := one_cell HT1.out.b; have ga2 := cell_sc HSC.out (one_cell (HT1.out.n.setRow_far (by have := HN.out; omega) (bs d).toArray)); have gk2 := cell_sc HSC.out (one_cell (HT1.out.hh.setRow_far (by have := HN.out; omega) (bs d).toArray)); have gm2 := cell_sc HSC.out (one_cell (HT1.out.b.setRow_far (by have := HN.out; omega) (bs d).toArray)); clear hd1 hp1))
  all_goals
    go_wp2_with fail
    rw [HSC.out]
    refine bodyPost_ret (results_cell_slot Tryd.results39 _ _ go 29 (bs d).toArray (0, 0) _ _ rfl (HO1.out.setRow _) Tryd.underlying29 rfl HS16.out rfl) rfl ⟨gd, rfl, by have := HN.out; omega, HD1.out.setRow_far (by have := HN.out; omega) _, below_setRow (below_kp HB0.out HP1.out (by have := HN.out; omega)) (by have := HN.out; omega) _⟩
end Go.Proofs.YtaoegpmjogladaaDoor

/-
  sign.Public.
-/
namespace Go.Proofs.YtaoegpmjogladaaDoor
open Go.RowKit WM

theorem tree0 (seed : ByteArray) (h : Nat) (w : World) (hk : KT 0 w) (hs : seed.size ≤ 1000) (hh6 : h ≤ 6) (d : List UInt8) (hd : rootB seed.data.toList h = d) :
    Calls Tryd.prog 39 #[.string seed, .int .i64 (h : Int), .int .i64 0] w fun e w' => ∃ gd, e = .returned (.tuple #[.agg (bs d).toArray, .slice (some ⟨gd, 0, none⟩) h h]) ∧ Below w.heap.size w w' := by
  subst hd
  exact (tree seed h 0 w hk hs hh6 (Nat.pos_of_ne_zero (by simp))).mono fun _ _ ⟨gd, he, _, _, hb⟩ => ⟨gd, he, hb⟩

set_option maxRecDepth 100000 in
set_option maxHeartbeats 1000000 in
theorem public_no (seed : ByteArray) (h : Int) (w : World) (hn : ¬ (seed.size = 32 ∧ 0 ≤ h ∧ h ≤ 6)) :
    Calls Tryd.prog 18 #[.string seed, .int .i64 h] w fun e w' => e = .returned (.tuple #[.agg (bs z16).toArray, .int .i64 1]) ∧ Below w.heap.size w w' := by
  have hz := Tryd.zero29
  have HN := Lib.hid hn
  have HS16 := Lib.hid (size16 z16_length)
  clear hn
  go_enter Tryd.func18, Tryd.ntmps18
  go_wp2_with (first
    | (go_at_call 38; refine (isSigner_no seed h _ HN.out).mono ?_; rintro e w' ⟨rfl, rfl⟩)
    | (refine wpList_store_row rfl 29 (.tmp 4) (.tmp 12) rfl w.heap.size (bs z16).toArray rfl rfl 29 _ (Blk.new w 29 _) HS16.out (by rw [sz16 z16_length]) (all_oneCell_toArray (bs_one _)) ?_))
  refine bodyPost_ret (results_cell_slot Tryd.results18 _ _ w.heap.size 29 (bs z16).toArray (0, 0) _ _ rfl ((Blk.new w 29 _).setRow _) Tryd.underlying29 rfl HS16.out rfl) rfl ⟨rfl, below_setRow (below_new _ _) (Nat.le_refl _) _⟩

set_option maxRecDepth 100000 in
set_option maxHeartbeats 1000000 in
theorem public_yes (seed : ByteArray) (h : Nat) (w : World) (hk : KT 0 w) (hs : seed.size = 32) (hh : h ≤ 6) :
    Calls Tryd.prog 18 #[.string seed, .int .i64 (h : Int)] w fun e w' => e = .returned (.tuple #[.agg (bs (rootB seed.data.toList h)).toArray, .int .i64 0]) ∧ Below w.heap.size w w' := by
  have hz := Tryd.zero29
  obtain ⟨d, hd⟩ : ∃ d, d = rootB seed.data.toList h := ⟨_, rfl⟩
  have hdl : d.length = 16 := by rw [hd]; exact nodeB_16 _ _ _
  have HDN := Lib.hid (show rootB seed.data.toList h = d from hd.symm)
  have HDL := Lib.hid hdl
  have HS16 := Lib.hid (size16 hdl)
  have HK := Lib.hid hk
  have HS := Lib.hid hs
  rw [← hd]
  clear hd hdl hk hs
  go_enter Tryd.func18, Tryd.ntmps18
  go_wp2_with (first
    | (go_at_call 38; refine (isSigner_yes seed h _ HS.out (by omega) (by omega)).mono ?_; rintro e w' ⟨rfl, rfl⟩)
    | (go_at_call 39; refine (tree0 seed h _ (HK.out.below (below_new _ _)) (by rw [HS.out]; decide) hh d HDN.out).mono ?_; rintro e w1 ⟨gd, rfl, hb1⟩; have HB1 := Lib.hid (bt (below_new _ _) hb1); have HO1 := Lib.hid (blk_past hb1 (Blk.new w 29 _)); clear hb1)
    | (refine wpList_store_row rfl 29 (.tmp 6) (.tmp 17) rfl w1.heap.size (bs d).toArray rfl rfl 29 _ (Blk.new w1 29 _) HS16.out (by rw [sz16 HDL.out, sz16 z16_length]) (all_oneCell_toArray (bs_one _)) ?_
       generalize hw2 : World.setRow (World.alloc w1 _) _ _ = w2
       have HG2 : Hid (Blk w2 w1.heap.size 29 (bs d).toArray) := by rw [← hw2]; exact (Blk.new w1 29 _).setRow _
       have HO2 : Hid (Blk w2 w.heap.size 29 (bs z16).toArray) := by rw [← hw2]; exact (HO1.out.alloc _).setRow_far (by have := HO1.out.lt; omega) _
       have HB2 : Hid (Below w.heap.size w w2) := by rw [← hw2]; exact below_setRow (ba HB1.out _) HB1.out.size _
       clear hw2)
    | (refine wpList_load_row rfl 29 (.tmp 6) rfl w1.heap.size rfl 29 (bs d).toArray (0, 0) _ HG2.out Tryd.underlying29 rfl HS16.out ?_)
    | (refine wpList_store_row rfl 29 (.tmp 4) (.tmp 19) rfl w.heap.size (bs d).toArray rfl rfl 29 _ HO2.out HS16.out (by rw [sz16 HDL.out, sz16 z16_length]) (all_oneCell_toArray (bs_one _)) ?_))
  refine bodyPost_ret (results_cell_slot Tryd.results18 _ _ w.heap.size 29 (bs d).toArray (0, 0) _ _ rfl (HO2.out.setRow _) Tryd.underlying29 rfl HS16.out rfl) rfl ⟨rfl, below_setRow HB2.out (Nat.le_refl _) _⟩
end Go.Proofs.YtaoegpmjogladaaDoor

/-
  sign.Sign.
-/
namespace Go.Proofs.YtaoegpmjogladaaDoor
open Go.RowKit WM

theorem sign_arg (seed m : ByteArray) (h i : Int) (w : World) (hn : ¬ (seed.size = 32 ∧ 0 ≤ h ∧ h ≤ 6)) :
    Calls Tryd.prog 20 #[.string seed, .int .i64 h, .int .i64 i, .string m] w fun e w' => e = .returned (.tuple #[.string ⟨#[]⟩, .int .i64 1]) ∧ w = w' := by
  have HN := Lib.hid hn
  clear hn
  go_enter Tryd.func20, Tryd.ntmps20
  go_wp2_with (go_at_call 38; refine (isSigner_no seed h _ HN.out).mono ?_; rintro e w' ⟨rfl, rfl⟩)
  go_ret2
  exact ⟨rfl, rfl⟩
theorem sign_spent (seed m : ByteArray) (h : Nat) (i : Int) (w : World) (hs : seed.size = 32) (hh : h ≤ 6) (hi : i < 0 ∨ ((2 ^ h : Nat) : Int) ≤ i) :
    Calls Tryd.prog 20 #[.string seed, .int .i64 (h : Int), .int .i64 i, .string m] w fun e w' => e = .returned (.tuple #[.string ⟨#[]⟩, .int .i64 20]) ∧ w = w' := by
  have HS := Lib.hid hs
  have hix : Calls Tryd.prog 42 #[.int .i64 i, .int .i64 (h : Int)] w fun e w' => e = .returned (.bool false) ∧ w = w' := by
    rcases hi with h1 | h1
    · exact isIndex_neg i h w h1
    · obtain ⟨j, rfl⟩ := Int.eq_ofNat_of_zero_le (Int.le_trans (Int.natCast_nonneg _) h1)
      exact isIndex_no j h w hh (Nat.not_lt.2 (Int.ofNat_le.1 h1))
  have HIX := Lib.hid hix
  clear hs hi hix
  go_enter Tryd.func20, Tryd.ntmps20
  go_wp2_with (first
    | (go_at_call 38; refine (isSigner_yes seed h _ HS.out (by omega) (by omega)).mono ?_; rintro e w' ⟨rfl, rfl⟩)
    | (go_at_call 42; refine HIX.out.mono ?_; rintro e w' ⟨rfl, rfl⟩))
  go_ret2
  exact ⟨rfl, rfl⟩

/-- The part of the signature behind the first k values, or the first l nodes. -/
theorem dgs_at (L : List (List UInt8)) (hL : ∀ x ∈ L, x.length = 16) (l : Nat) (hl : l < L.length) : ((bs L.flatten).drop (l * 16)).take 16 = bs L[l] := by
  induction L generalizing l with
  | nil => simp at hl
  | cons x L ih =>
    have hx : x.length = 16 := hL x (List.mem_cons_self ..)
    have hbx : (bs x).length = 16 := by rw [bs_length, hx]
    rw [List.flatten_cons, bs_append]
    cases l with
    | zero => rw [Nat.zero_mul, List.drop_zero, List.take_append_of_le_length (by omega), List.take_of_length_le (by omega)]; rfl
    | succ l =>
      rw [List.drop_append, List.drop_eq_nil_of_le (by omega), List.nil_append, hbx, show (l + 1) * 16 - 16 = l * 16 by omega]
      exact ih (fun y hy => hL y (List.mem_cons_of_mem _ hy)) l (by simpa using hl)
theorem flatten_take_succ (L : List (List UInt8)) (l : Nat) (hl : l < L.length) : (L.take (l + 1)).flatten = (L.take l).flatten ++ L[l] := by
  rw [List.take_succ_eq_append_getElem hl, List.flatten_append]; simp
theorem pathB_length (seed : List UInt8) (i h : Nat) : (pathB seed i h).length = h := by simp [pathB]
theorem pathB_16 (seed : List UInt8) (i h : Nat) : ∀ x ∈ pathB seed i h, x.length = 16 := by
  intro x hx
  simp only [pathB, List.mem_map] at hx
  obtain ⟨l, _, rfl⟩ := hx
  exact nodeB_16 _ _ _
theorem valueB_16 (seed : List UInt8) (i : Nat) (ds : List Nat) (c : Nat) : (valueB seed i ds c).length = 16 := advB_16 _ _ _ _ _ (startB_16 _ _ _)

set_option maxRecDepth 100000 in
set_option maxHeartbeats 4000000 in
theorem sign_ok (seed m : ByteArray) (h i : Nat) (w : World) (hk : KT 0 w) (hs : seed.size = 32) (hh : h ≤ 6) (hi : i < 2 ^ h) (hm : m.size ≤ 1048576) :
    Calls Tryd.prog 20 #[.string seed, .int .i64 (h : Int), .int .i64 (i : Int), .string m] w fun e w' => e = .returned (.tuple #[.string (str (sigB seed.data.toList h i m)), .int .i64 0]) ∧ Below w.heap.size w w' := by
  have hz := Tryd.zero29
  obtain ⟨i0, hi5, hz0, hz1, hz2⟩ := info_parts Tryd.info5
  obtain ⟨d, hd⟩ : ∃ d, d = rootB seed.data.toList h := ⟨_, rfl⟩
  have hdl : d.length = 16 := by rw [hd]; exact nodeB_16 _ _ _
  obtain ⟨q, hq⟩ : ∃ q, q = digestB d i m := ⟨_, rfl⟩
  have hql : q.length = 16 := by rw [hq]; exact digestB_16 _ _ _
  obtain ⟨ds, hds⟩ : ∃ ds, ds = digitsB q := ⟨_, rfl⟩
  have hdsl : ds.length = 68 := by rw [hds]; exact digitsB_length hql
  have hds3 : ∀ c, ds.getD c 0 ≤ 3 := fun c => by rw [hds]; exact digitsB_getD q c
  have hsg : sigB seed.data.toList h i m = enc (i : Int) ++ catB (valueB seed.data.toList i ds) 68 ++ (pathB seed.data.toList i h).flatten := by
    rw [hds, hq, hd]; rfl
  have h64 : 2 ^ h ≤ 64 := by
    have : 2 ^ h ≤ 2 ^ 6 := Nat.pow_le_pow_right (by omega) hh
    simpa using this
  have hir : inRange (i : Int) := ⟨by omega, by omega⟩
  have he9 := (enc_len hir).2
  have HD := Lib.hid hd
  have HDL := Lib.hid hdl
  have HQ := Lib.hid hq
  have HQL := Lib.hid hql
  have HDS := Lib.hid hds
  have HDSL := Lib.hid hdsl
  have HDS3 := Lib.hid hds3
  have HSG := Lib.hid hsg
  have HIR := Lib.hid hir
  have HS16 := Lib.hid (size16 hdl)
  have HK := Lib.hid hk
  have HS := Lib.hid hs
  have HI := Lib.hid hi
  have hm2 : ¬ (1048576 : Int) < (m.size : Int) := by omega
  have hsl := fun g => slice44 g
  clear hd hdl hq hql hds hdsl hds3 hsg hir hk hs hi h64
  go_enter Tryd.func20, Tryd.ntmps20
  go_wp2_with (first
    | (go_at_call 38; refine (isSigner_yes seed h _ HS.out (by omega) (by omega)).mono ?_; rintro e w' ⟨rfl, rfl⟩)
    | (go_at_call 42; refine (isIndex_yes i h _ hh HI.out).mono ?_; rintro e w' ⟨rfl, rfl⟩)
    | (go_at_call 39; refine (tree seed h i _ HK.out (by rw [HS.out]; decide) hh HI.out).mono ?_; rintro e w1 ⟨gd, rfl, hge, hgd, hb1⟩; rw [← HD.out]; have HB1 := Lib.hid hb1; have HG1 := Lib.hid hgd; have HGE := Lib.hid hge; clear hb1 hgd hge)
    | (refine wpList_store_row rfl 29 (.tmp 10) (.tmp 37) rfl w1.heap.size (bs d).toArray rfl rfl 29 _ (Blk.new w1 29 _) HS16.out (by rw [sz16 HDL.out, sz16 z16_length]) (all_oneCell_toArray (bs_one _)) ?_
       generalize hw2 : World.setRow (World.alloc w1 _) _ _ = w2
       have HO2 : Hid (Blk w2 w1.heap.size 29 (bs d).toArray) := by rw [← hw2]; exact (Blk.new w1 29 _).setRow _
       have HG2 : Hid (Blk w2 gd 29 (dgs (pathB seed.data.toList i h))) := by rw [← hw2]; exact (HG1.out.alloc _).setRow_far (by have := HG1.out.lt; omega) _
       have HB2 : Hid (Below w.heap.size w w2) := by rw [← hw2]; exact below_setRow (ba HB1.out _) HB1.out.size _
       clear hw2)
    | (go_at_call 43; refine (encInt i _ HIR.out).mono ?_; rintro e w3 ⟨A3, c3, rfl, ho3, hb3⟩; have HE3 := Lib.hid (ownsRow_base ho3 HB2.out.size); have HB3 := Lib.hid (bt HB2.out hb3); have HG3 := Lib.hid (blk_past hb3 HG2.out); have HO3 := Lib.hid (blk_past hb3 HO2.out); clear ho3 hb3)
    | (refine wpList_load_row rfl 29 (.tmp 10) rfl w1.heap.size rfl 29 (bs d).toArray (0, 0) _ HO3.out Tryd.underlying29 rfl HS16.out ?_)
    | (go_at_call 22; refine (signDigest d i m _ (HK.out.below HB3.out) HDL.out HIR.out hm).mono ?_; rintro e w4 ⟨rfl, hb4⟩; rw [← HQ.out]; have HB4 := Lib.hid (bt HB3.out hb4); have HG4 := Lib.hid (blk_past hb4 HG3.out); have HE4 := Lib.hid (ownsRow_below HE3.out hb4); clear hb4)
    | (go_at_call 37; refine (digits q HQL.out _).mono ?_; rintro e w5 ⟨rfl, hb5⟩; rw [← HDS.out]; have HB5 := Lib.hid (bt HB4.out hb5); have HG5 := Lib.hid (blk_past hb5 HG4.out); have HE5 := Lib.hid (ownsRow_below HE4.out hb5); clear hb5))
  go_loopw [12, 46] (fun v c' wr => ∃ c : Nat, c ≤ 68 ∧ c' = .int .i64 c ∧ Hid (wr.ownsRow w.heap.size 5 1 v (enc (i : Int) ++ catB (valueB seed.data.toList i ds) c).length (bs (enc (i : Int) ++ catB (valueB seed.data.toList i ds) c)) ∧ Blk wr gd 29 (dgs (pathB seed.data.toList i h)) ∧ Below w.heap.size w wr)) (fun _ c' _ => 68 - (intOf c').toNat)
  case atStart => exact ⟨0, by omega, rfl, by rw [show enc (i : Int) ++ catB (valueB seed.data.toList i ds) 0 = enc (i : Int) from List.append_nil _]; exact HE5.out, HG5.out, HB5.out⟩
  case round =>
    clear HE5 HG5 HB5 HE4 HG4 HB4 HE3 HG3 HB3 HG2 HB2 HG1 HB1 HO3 HO2
    obtain ⟨c, hc, rfl, hh'⟩ := hrel
    have hsz := hh'.out.2.2.size
    have hcl : (enc (i : Int) ++ catB (valueB seed.data.toList i ds) c).length = (enc (i : Int)).length + 16 * c := by rw [List.length_append, catB_length _ (valueB_16 _ _ _)]
    by_cases hlt : c < 68
    · obtain ⟨dg, hdg⟩ : ∃ dg, dg = ds.getD c 0 := ⟨_, rfl⟩
      have hdg3 : dg ≤ 3 := by rw [hdg]; exact HDS3.out c
      have hix : ∀ W, (Instr.index 67 (.agg (ns ds).toArray) (.int .i64 (c : Int))).run Tryd.prog W = .ok (.int .i64 (dg : Int)) W := fun W =>
        run_index_arr (P := Tryd.prog) W 67 3 68 (ns ds) c _ (by kernel_rfl) Tryd.sz3 (fun W => by kernel_rfl) hlt (ns_get' (by rw [hdg, List.getD_eq_getElem?_getD, List.getElem?_eq_getElem (by have := HDSL.out; omega)]; rfl))
      obtain ⟨x, hx⟩ : ∃ x, x = startB seed.data.toList i c := ⟨_, rfl⟩
      have hxl : x.length = 16 := by rw [hx]; exact startB_16 _ _ _
      obtain ⟨y, hy⟩ : ∃ y, y = valueB seed.data.toList i ds c := ⟨_, rfl⟩
      have hyl : y.length = 16 := by rw [hy]; exact valueB_16 _ _ _ _
      have hya : advB i c 0 (dg - 0) x = y := by rw [hy, hx, hdg]; rfl
      have hcs : enc (i : Int) ++ catB (valueB seed.data.toList i ds) (c + 1) = (enc (i : Int) ++ catB (valueB seed.data.toList i ds) c) ++ y := by rw [catB_succ, hy, List.append_assoc]
      have HX := Lib.hid hx
      have HXL := Lib.hid hxl
      have HYL := Lib.hid hyl
      have HYA := Lib.hid hya
      have HCS := Lib.hid hcs
      have HCL := Lib.hid hcl
      have HSY := Lib.hid (size16 hyl)
      have HCR := Lib.hid (show inRange (c : Int) from ⟨by omega, by omega⟩)
      clear hdg hx hxl hy hyl hya hcs hcl
      go_wp2_with (first
        | (go_at_call 45; refine (start seed i c _ (HK.out.below hh'.out.2.2) (by rw [HS.out]; decide) HIR.out HCR.out).mono ?_; rintro e w6 ⟨rfl, hb6⟩; rw [← HX.out]; have HB6 := Lib.hid (bt hh'.out.2.2 hb6); have HG6 := Lib.hid (blk_past hb6 hh'.out.2.1); have HE6 := Lib.hid (ownsRow_below hh'.out.1 hb6); clear hb6)
        | (go_at_call 44; refine (advance x i c 0 dg _ (HK.out.below HB6.out) HXL.out HIR.out HCR.out (by omega) (by omega)).mono ?_; rintro e w7 ⟨rfl, hb7⟩; rw [HYA.out]; have HB7 := Lib.hid (bt HB6.out hb7); have HG7 := Lib.hid (blk_past hb7 HG6.out); have HE7 := Lib.hid (ownsRow_below HE6.out hb7); have hs7 := HB7.out.size; clear hb7)
        | (refine wpList_store_row rfl 29 (.tmp 15) (.tmp 57) rfl w7.heap.size (bs y).toArray rfl rfl 29 _ (Blk.new w7 29 _) HSY.out (by rw [sz16 HYL.out, sz16 z16_length]) (all_oneCell_toArray (bs_one _)) ?_
           generalize hw8 : World.setRow (World.alloc w7 _) _ _ = w8
           have HO8 : Hid (Blk w8 w7.heap.size 29 (bs y).toArray) := by rw [← hw8]; exact (Blk.new w7 29 _).setRow _
           have HG8 : Hid (Blk w8 gd 29 (dgs (pathB seed.data.toList i h))) := by rw [← hw8]; exact (HG7.out.alloc _).setRow_far (by have := HG7.out.lt; omega) _
           have HB8 : Hid (Below w.heap.size w w8) := by rw [← hw8]; exact below_setRow (ba HB7.out _) hs7 _
           have HE8 := Lib.hid (ownsRow_below HE7.out (hw8 ▸ (below_setRow (below_new w7 _) (Nat.le_refl _) (bs y).toArray) : Below w7.heap.size w7 w8))
           have HS8 : w8.heap.size = w7.heap.size + 1 := by rw [← hw8, size_setRow, size_alloc]
           clear hw8)
        | (at_builtin; refine wpList_append_any _ rfl (.tmp 58) (.tmp 59) _ rfl w.heap.size 5 i0 (.int .u8 0) 1 1 Tryd.underlying26 hi5 hz0 hz1 hz2 rfl (by omega) _ _ _ rfl HE8.out w8.heap.size (some ⟨w7.heap.size, 0, none⟩) 16 16 (bs y) rfl (reads_blkB HO8.out HYL.out (by omega)) (bs_one _) (len_le (by rw [HCL.out]; omega)) (by rw [HCL.out]; omega) (by omega) ?_; intro v9 w9 hown9 hgrow9 _; have HE9 := Lib.hid hown9; have HB9 := Lib.hid (HB8.out.grown hgrow9 HB8.out.size (fun k hk => (HE8.out.lt k hk).1)); have HG9 := Lib.hid (HG8.out.grown hgrow9 (fun e => own_blk_ne HE8.out HG8.out (by decide) e.symm)); clear hown9 hgrow9))
      go_roundw
      case rel => exact ⟨c + 1, by omega, by go_num, own_next (by rw [HYL.out]; exact HE9.out) HCS.out, HG9.out, HB9.out⟩
      case measure => simp [intOf]; omega
    · have hce : c = 68 := by omega
      have hown := hh'.out.1
      rw [hce] at hown hcl
      obtain ⟨p, hp⟩ : ∃ p, p = enc (i : Int) ++ catB (valueB seed.data.toList i ds) 68 := ⟨_, rfl⟩
      rw [← hp] at hown hcl
      have HP := Lib.hid hp
      have HPL := Lib.hid (show p.length ≤ 1097 by omega)
      have HOW := Lib.hid hown
      have HG := Lib.hid hh'.out.2.1
      have HBB := Lib.hid hh'.out.2.2
      have hge : 68 ≤ c := by omega
      obtain ⟨wo, hwo⟩ : ∃ wo : World, wo = wr := ⟨_, rfl⟩
      subst hwo
      clear hlt hc hce hown hh' hp hcl
      go_wp2
      obtain ⟨L, hLL⟩ : ∃ L, L = pathB seed.data.toList i h := ⟨_, rfl⟩
      have HLL := Lib.hid (show L.length = h by rw [hLL]; exact pathB_length _ _ _)
      have HL16 := Lib.hid (show ∀ x ∈ L, x.length = 16 by rw [hLL]; exact pathB_16 _ _ _)
      have HLF := Lib.hid (show p ++ L.flatten = sigB seed.data.toList h i m by rw [HSG.out, HP.out, hLL])
      rw [← hLL] at HG
      clear hLL
      go_loopw [12, 64] (fun v c' wr => ∃ l : Nat, l ≤ h ∧ c' = .int .i64 l ∧ Hid (wr.ownsRow w.heap.size 5 1 v (p ++ (L.take l).flatten).length (bs (p ++ (L.take l).flatten)) ∧ Blk wr gd 29 (dgs L) ∧ Below w.heap.size w wr)) (fun _ c' _ => h - (intOf c').toNat)
      case atStart => exact ⟨0, by omega, rfl, by rw [show p ++ (L.take 0).flatten = p from List.append_nil _]; exact HOW.out, HG.out, HBB.out⟩
      case round =>
        clear HOW HG HBB
        obtain ⟨l, hl, rfl, hh'⟩ := hrel
        have hsz := hh'.out.2.2.size
        have hcl : (p ++ (L.take l).flatten).length = p.length + 16 * l := by
          rw [List.length_append, flat16_length _ (fun x hx => HL16.out x (List.mem_of_mem_take hx)), List.length_take, HLL.out]; omega
        by_cases hlt : l < h
        · have hlL : l < L.length := by rw [HLL.out]; exact hlt
          obtain ⟨y, hy⟩ : ∃ y, y = L[l] := ⟨_, rfl⟩
          have hyl : y.length = 16 := by rw [hy]; exact HL16.out _ (List.getElem_mem hlL)
          have hat := dgs_at L HL16.out l hlL
          have hcs : p ++ (L.take (l + 1)).flatten = (p ++ (L.take l).flatten) ++ y := by rw [flatten_take_succ L l hlL, hy, List.append_assoc]
          rw [← hy] at hat
          have hfit : l * 16 + 16 ≤ (bs L.flatten).length := by rw [bs_length, flat16_length _ HL16.out]; omega
          have HYL := Lib.hid hyl
          have HAT := Lib.hid hat
          have HCS := Lib.hid hcs
          have HCL := Lib.hid hcl
          have HFIT := Lib.hid hfit
          have HSY := Lib.hid (size16 hyl)
          have hpl := HPL.out
          have hlt' : (l : Int) < (h : Int) := by omega
          clear hy hyl hat hcs hcl hfit hlL
          go_wp2_with (first
            | (refine wpList_load_seg _ rfl 29 (.tmp 66) rfl gd (l * 16) 16 rfl 29 (bs L.flatten) _ hh'.out.2.1 Tryd.underlying29 rfl Tryd.size29 HFIT.out ?_
               rw [HAT.out])
            | (refine wpList_store_row rfl 29 (.tmp 17) (.tmp 67) rfl wr.heap.size (bs y).toArray rfl rfl 29 _ (Blk.new wr 29 _) HSY.out (by rw [sz16 HYL.out, sz16 z16_length]) (all_oneCell_toArray (bs_one _)) ?_
               generalize hw8 : World.setRow (World.alloc wr _) _ _ = w8
               have HO8 : Hid (Blk w8 wr.heap.size 29 (bs y).toArray) := by rw [← hw8]; exact (Blk.new wr 29 _).setRow _
               have HG8 : Hid (Blk w8 gd 29 (dgs L)) := by rw [← hw8]; exact (hh'.out.2.1.alloc _).setRow_far (by have := hh'.out.2.1.lt; omega) _
               have HB8 : Hid (Below w.heap.size w w8) := by rw [← hw8]; exact below_setRow (ba hh'.out.2.2 _) hsz _
               have HE8 := Lib.hid (ownsRow_below hh'.out.1 (hw8 ▸ (below_setRow (below_new wr _) (Nat.le_refl _) (bs y).toArray) : Below wr.heap.size wr w8))
               have HS8 : w8.heap.size = wr.heap.size + 1 := by rw [← hw8, size_setRow, size_alloc]
               clear hw8)
            | (at_builtin; refine wpList_append_any _ rfl (.tmp 68) (.tmp 69) _ rfl w.heap.size 5 i0 (.int .u8 0) 1 1 Tryd.underlying26 hi5 hz0 hz1 hz2 rfl (by omega) _ _ _ rfl HE8.out w8.heap.size (some ⟨wr.heap.size, 0, none⟩) 16 16 (bs y) rfl (reads_blkB HO8.out HYL.out (by omega)) (bs_one _) (len_le (by rw [HCL.out]; omega)) (by rw [HCL.out]; omega) (by omega) ?_; intro v9 w9 hown9 hgrow9 _; have HE9 := Lib.hid hown9; have HB9 := Lib.hid (HB8.out.grown hgrow9 HB8.out.size (fun k hk => (HE8.out.lt k hk).1)); have HG9 := Lib.hid (HG8.out.grown hgrow9 (fun e => own_blk_ne HE8.out HG8.out (by decide) e.symm)); clear hown9 hgrow9))
          go_roundw
          case rel => exact ⟨l + 1, by omega, by go_num, own_next (by rw [HYL.out]; exact HE9.out) HCS.out, HG9.out, HB9.out⟩
          case measure => simp [intOf]; omega
        · have hle : l = h := by omega
          have hown := hh'.out.1
          rw [hle, List.take_of_length_le (by rw [HLL.out]; exact Nat.le_refl _), HLF.out] at hown
          obtain ⟨A4, c4, rfl, _⟩ := own_form hown
          have hcv := conv_str (c := c4) (Reads.of_own hown)
          have hge2 : h ≤ l := by omega
          have HBF := Lib.hid hh'.out.2.2
          clear hlt hl hle hown hcl hh'
          go_wp2
          go_ret2
          exact ⟨rfl, HBF.out⟩
end Go.Proofs.YtaoegpmjogladaaDoor

/-
  sign.leaf at the closure of Verify.
-/
namespace Go.Proofs.YtaoegpmjogladaaDoor
open Go.RowKit WM

set_option maxRecDepth 100000 in
set_option maxHeartbeats 2000000 in
theorem leafV (tops : Nat → List UInt8) (ga gb gc : Nat) (w : World) (hk : KT 0 w) (h16 : ∀ c, (tops c).length = 16)
    (hclo : ∀ (c : Nat) (W : World), c < 68 → Below w.heap.size w W → Calls Tryd.prog 55 #[.int .i64 (c : Int), .pointer (some ⟨ga, 0, none⟩), .pointer (some ⟨gb, 0, none⟩), .pointer (some ⟨gc, 0, none⟩)] W fun e w' => e = .returned (.agg (bs (tops c)).toArray) ∧ Below W.heap.size W w') :
    Calls Tryd.prog 54 #[.func (.func 55) #[] #[.pointer (some ⟨ga, 0, none⟩), .pointer (some ⟨gb, 0, none⟩), .pointer (some ⟨gc, 0, none⟩)]] w fun e w' => e = .returned (.agg (bs (leafB tops)).toArray) ∧ Below w.heap.size w w' := by
  have hz := Tryd.zero29
  obtain ⟨i0, hi, hz0, hz1, hz2⟩ := info_parts Tryd.info5
  obtain ⟨y, hy⟩ : ∃ y, y = ofB 11 [str (catB tops 68)] := ⟨_, rfl⟩
  have hyl : y.length = 16 := by rw [hy]; exact ofB_16 _ _
  obtain ⟨q, hq⟩ : ∃ q, q = leafB tops := ⟨_, rfl⟩
  have hql : q.length = 16 := by rw [hq]; exact leafB_16 _
  have hqy : ofB 9 [str y] = q := by rw [hq, hy]; rfl
  rw [← hq]
  have hcl : (catB tops 68).length = 1088 := catB_length tops h16 68
  have HE1 := Lib.hid (show (encP [str (catB tops 68)]).length ≤ 137438953472 by have := encP_1_le (catB tops 68) (by omega); omega)
  have HE2 := Lib.hid (show (encP [str y]).length ≤ 137438953472 by have := encP_1_le y (by omega); omega)
  have hsl := fun g => slice44 g
  have HY := Lib.hid hy.symm
  have HYL := Lib.hid hyl
  have HQL := Lib.hid hql
  have HQY := Lib.hid hqy
  have HS16 := Lib.hid (size16 hql)
  have HSY := Lib.hid (size16 hyl)
  have HK := Lib.hid hk
  have H16 := Lib.hid h16
  have HC := Lib.hid hclo
  clear hy hyl hq hql hqy hcl hk h16 hclo
  go_enter Tryd.func54, Tryd.ntmps54
  go_wp2
  go_loopw [3, 7] (fun v i' wr => ∃ k : Nat, k ≤ 68 ∧ i' = .int .i64 k ∧ Hid (wr.ownsRow w.heap.size 5 1 v (catB tops k).length (bs (catB tops k)) ∧ Blk wr w.heap.size 29 (bs z16).toArray ∧ Below w.heap.size w wr)) (fun _ i' _ => 68 - (intOf i').toNat)
  case atStart => exact ⟨0, by omega, rfl, World.ownsRow_nil _ _ _ _, Blk.new w 29 _, below_new _ _⟩
  case round =>
    obtain ⟨k, hk, rfl, hh⟩ := hrel
    have hsz := hh.out.2.2.size
    by_cases hlt : k < 68
    · obtain ⟨x, hx⟩ : ∃ x, x = tops k := ⟨_, rfl⟩
      have hxl : x.length = 16 := by rw [hx]; exact H16.out k
      have hck := HC.out k wr hlt hh.out.2.2
      have hcs := catB_succ tops k
      have hcl := catB_length tops H16.out k
      rw [← hx] at hck hcs
      have HCK := Lib.hid hck
      have HCS := Lib.hid hcs
      have HXL := Lib.hid hxl
      have HSX := Lib.hid (size16 hxl)
      clear hx hxl hck hcs
      go_wp2_with (first
        | (go_at_call 55; refine HCK.out.mono ?_; rintro e w1 ⟨rfl, hb1⟩; have HB1 := Lib.hid (bt hh.out.2.2 hb1); have HO1 := Lib.hid (ownsRow_below hh.out.1 hb1); have HZ1 := Lib.hid (blk_past hb1 hh.out.2.1); have hs1 := HB1.out.size; clear hb1)
        | (refine wpList_store_row rfl 29 (.tmp 5) (.tmp 12) rfl w1.heap.size (bs x).toArray rfl rfl 29 _ (Blk.new w1 29 _) HSX.out (by rw [sz16 HXL.out, sz16 z16_length]) (all_oneCell_toArray (bs_one _)) ?_
           generalize hw2 : World.setRow (World.alloc w1 _) _ _ = w2
           have HG2 : Hid (Blk w2 w1.heap.size 29 (bs x).toArray) := by rw [← hw2]; exact (Blk.new w1 29 _).setRow _
           have HZ2 : Hid (Blk w2 w.heap.size 29 (bs z16).toArray) := by rw [← hw2]; exact (HZ1.out.alloc _).setRow_far (by have := HZ1.out.lt; omega) _
           have HB2 : Hid (Below w.heap.size w w2) := by rw [← hw2]; exact below_setRow (ba HB1.out _) hs1 _
           have HO2 : Hid (w2.ownsRow w.heap.size 5 1 u3 (catB tops k).length (bs (catB tops k))) := by rw [← hw2]; exact ownsRow_below HO1.out (below_setRow (below_new _ _) (Nat.le_refl _) _)
           have HS2 : w2.heap.size = w1.heap.size + 1 := by rw [← hw2, size_setRow, size_alloc]
           clear hw2)
        | (at_builtin; refine wpList_append_any _ rfl (.tmp 13) (.tmp 14) _ rfl w.heap.size 5 i0 (.int .u8 0) 1 1 Tryd.underlying26 hi hz0 hz1 hz2 rfl (by omega) _ _ _ rfl HO2.out w2.heap.size (some ⟨w1.heap.size, 0, none⟩) 16 16 (bs x) rfl (reads_blkB HG2.out HXL.out (by omega)) (bs_one _) (len_le (by omega)) (by omega) (by omega) ?_; intro v3 w3 hown3 hgrow3 _; have HO3 := Lib.hid hown3; have HB3 := Lib.hid (HB2.out.grown hgrow3 HB2.out.size (fun k hk => (HO2.out.lt k hk).1)); have HZ3 := Lib.hid (HZ2.out.grown hgrow3 (fun e => own_blk_ne HO2.out HZ2.out (by decide) e.symm)); clear hown3 hgrow3))
      go_roundw
      case rel => exact ⟨k + 1, by omega, by go_num, own_next (by rw [HXL.out]; exact HO3.out) HCS.out, HZ3.out, HB3.out⟩
      case measure => simp [intOf]; omega
    · have hke : k = 68 := by omega
      have hown := hh.out.1
      rw [hke] at hown
      obtain ⟨A4, c4, rfl, _⟩ := own_form hown
      have hcv := conv_str (c := c4) (Reads.of_own hown)
      have hge : 68 ≤ k := by omega
      clear hlt hk hke hown
      have HC1 := Lib.hid (of_n 11 [str (catB tops 68)] (some ⟨wr.heap.size, 0, none⟩) 1 1 (wr.alloc (.cells #[.string (str (catB tops 68))] 9)) rfl (HK.out.below (ba hh.out.2.2 _)) (reads_ss rfl rfl rfl) HE1.out (by decide) y HY.out)
      go_wp2_with (first
        | (go_at_call 13; ((with_reducible refine HC1.out.mono ?_); rintro e w5 ⟨rfl, hb5⟩); have HB5 := Lib.hid (bt (ba hh.out.2.2 _) hb5); have HZ5 := Lib.hid (blk_past hb5 (hh.out.2.1.alloc _)); clear hb5)
        | (refine wpList_store_row rfl 29 (.tmp 6) (.tmp 20) rfl w5.heap.size (bs y).toArray rfl rfl 29 _ (Blk.new w5 29 _) HSY.out (by rw [sz16 HYL.out, sz16 z16_length]) (all_oneCell_toArray (bs_one _)) ?_
           generalize hw6 : World.setRow (World.alloc w5 _) _ _ = w6
           have HG6 : Hid (Blk w6 w5.heap.size 29 (bs y).toArray) := by rw [← hw6]; exact (Blk.new w5 29 _).setRow _
           have HZ6 : Hid (Blk w6 w.heap.size 29 (bs z16).toArray) := by rw [← hw6]; exact (HZ5.out.alloc _).setRow_far (by have := HZ5.out.lt; omega) _
           have HB6 : Hid (Below w.heap.size w w6) := by rw [← hw6]; exact below_setRow (ba HB5.out _) HB5.out.size _
           have hc6 := conv_arr HG6.out HYL.out
           have HC2 := Lib.hid (of_n 9 [str y] (some ⟨w6.heap.size, 0, none⟩) 1 1 (w6.alloc (.cells #[.string (str y)] 9)) rfl (HK.out.below (ba HB6.out _)) (reads_ss rfl rfl rfl) HE2.out (by decide) q HQY.out)
           clear hw6)
        | (go_at_call 13; ((with_reducible refine HC2.out.mono ?_); rintro e w7 ⟨rfl, hb7⟩); have HB7 := Lib.hid (bt (ba HB6.out _) hb7); have HZ7 := Lib.hid (blk_past hb7 (HZ6.out.alloc _)); clear hb7)
        | (refine wpList_store_row rfl 29 (.tmp 2) (.tmp 24) rfl w.heap.size (bs q).toArray rfl rfl 29 _ HZ7.out HS16.out (by rw [sz16 HQL.out, sz16 z16_length]) (all_oneCell_toArray (bs_one _)) ?_))
      refine bodyPost_ret (results_cell_row Tryd.results54 _ _ w.heap.size 29 (bs q).toArray (0, 0) _ rfl (HZ7.out.setRow _) Tryd.underlying29 rfl HS16.out) rfl ⟨rfl, below_setRow HB7.out (by omega) _⟩
end Go.Proofs.YtaoegpmjogladaaDoor
