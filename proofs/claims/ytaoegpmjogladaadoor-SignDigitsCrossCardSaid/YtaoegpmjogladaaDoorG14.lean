/-
  sign.tree's closure, which calls itself.
-/
import Derived.Test.YtaoegpmjogladaaDoorG13
import Derived.Deep.RegionHeld3
import Derived.Maps.AppendAt
import Derived.Maps.RangeWalk
import Derived.Laws.EntriesVeiled
namespace Go.Proofs.YtaoegpmjogladaaDoor
open Go.RowKit WM

/-- What was there is as it was, but for block gd. -/
def Kp (gd : Nat) (w w' : World) : Prop := w.grownBy w' (some gd)
section
variable {gd : Nat} {w w1 w2 : World}
theorem Kp.refl : Kp gd w w := World.grownBy.refl _ _
theorem Kp.of (h : Below w.heap.size w w1) : Kp gd w w1 := ⟨h.os, h.tape, h.output, h.size, fun i hi _ => h.block i hi⟩
theorem Kp.trans (h : Kp gd w w1) (k : Kp gd w1 w2) : Kp gd w w2 := World.grownBy.trans h k
theorem Kp.then (h : Kp gd w w1) (k : Below w1.heap.size w1 w2) : Kp gd w w2 := h.trans (Kp.of k)
theorem Kp.alloc (h : Kp gd w w1) (o : Obj) : Kp gd w (w1.alloc o) := h.then (below_new _ _)
theorem Kp.drew (h : Kp gd w w1) : Kp gd w w1.drew := ⟨h.os, h.tape, h.output, h.size, h.block⟩
theorem Kp.drewN (h : Kp gd w w1) (n : Nat) : Kp gd w (w1.drewN n) := ⟨h.os, h.tape, h.output, h.size, h.block⟩
theorem Kp.setRow (h : Kp gd w w1) {g : Nat} (hg : w.heap.size ≤ g ∨ g = gd) (c : Array Value) : Kp gd w (w1.setRow g c) :=
  ⟨h.os, h.tape, h.output, by rw [size_setRow]; exact h.size, fun i hi hne => by
    have hgi : g ≠ i := fun e => hg.elim (fun h1 => by omega) (fun h1 => hne (by rw [← e, h1]))
    rw [setRow_other _ _ _ _ hgi]; exact h.block i hi hne⟩
theorem Blk.kp {g : Nat} {t : TypeId} {cs : Array Value} (h : Blk w g t cs) (hk : Kp gd w w1) (hne : g ≠ gd) : Blk w1 g t cs :=
  (hk.block g h.lt (fun e => hne (Option.some.inj e))).trans h
theorem KT.kp {g : Nat} (h : KT g w) (hk : Kp gd w w1) (hne : g ≠ gd) : KT g w1 := fun t ht => by
  have hg : g < w.heap.size := KT.lt h
  rw [World.cell?_of_block (hk.block g hg (fun e => hne (Option.some.inj e)))]; exact h t ht
end

theorem cell_sc {W W2 : World} {a : Addr} {v : Option Value} (h : W = W2) (hc : W2.cell? a = v) : W.cell? a = v := by rw [h]; exact hc
theorem there16 {W : World} {g : Nat} {y : List UInt8} (hb : Blk W g 29 (bs y).toArray) (hy : y.length = 16) : W.there g 0 16 := fun j hj => by
  rw [Nat.zero_add]
  exact ⟨by rw [Blk.cell hb]; simp [bs, hy, hj], Blk.frozen hb j⟩
theorem setCells16 {W : World} {g : Nat} {x y : List UInt8} (hb : Blk W g 29 (bs y).toArray) (hy : y.length = 16) (hx : x.length = 16) : W.setCells g 0 (bs x) = W.setRow g (bs x).toArray := by
  have ht := there16 hb hy
  have hl : (bs x).length = 16 := by rw [bs_length]; exact hx
  have h1 := run_storeCells_cells (P := Tryd.prog) g 0 (bs x) 0 W (fun j hj => by simpa using (ht j (by omega)).1) (fun j hj => by simpa using (ht j (by omega)).2) (bs_one x)
  rw [show 0 + 0 = 0 from rfl, store16 hb hy hx] at h1
  injection h1 with _ h1
  exact h1.symm

/-- The cells of what the closure has captured. -/
structure TreeAt (seed : ByteArray) (h i gs gn gh gi gb gd : Nat) (w : World) : Prop where
  s : Blk w gs 9 #[.string seed]
  n : Blk w gn 92 #[.func (.func 63) #[] #[.pointer (some ⟨gs, 0, none⟩), .pointer (some ⟨gn, 0, none⟩), .pointer (some ⟨gh, 0, none⟩), .pointer (some ⟨gi, 0, none⟩), .pointer (some ⟨gb, 0, none⟩)]]
  hh : Blk w gh 3 #[.int .i64 (h : Int)]
  i : Blk w gi 3 #[.int .i64 (i : Int)]
  b : Blk w gb 70 #[.slice (some ⟨gd, 0, none⟩) h h]
  k : KT 0 w
/-- The digests of a list, one behind the other. -/
def dgs (L : List (List UInt8)) : Array Value := (bs L.flatten).toArray
theorem TreeAt.kp {seed : ByteArray} {h i gs gn gh gi gb gd : Nat} {w w1 : World} {L : List (List UInt8)} (ht : TreeAt seed h i gs gn gh gi gb gd w) (hd : Blk w gd 29 (dgs L)) (hk : Kp gd w w1) : TreeAt seed h i gs gn gh gi gb gd w1 :=
  ⟨ht.s.kp hk (ht.s.ne_ hd (by decide)), ht.n.kp hk (ht.n.ne_ hd (by decide)), ht.hh.kp hk (ht.hh.ne_ hd (by decide)), ht.i.kp hk (ht.i.ne_ hd (by decide)), ht.b.kp hk (ht.b.ne_ hd (by decide)), ht.k.kp hk (by
    rintro rfl
    have h1 := ht.k 0 (by decide)
    rw [Blk.cell hd] at h1
    unfold dgs at h1
    simp only [List.getElem?_toArray, bs, List.getElem?_map] at h1
    cases h2 : L.flatten[0]? with
    | none => rw [h2] at h1; cases h1
    | some c => rw [h2] at h1; simp [W32] at h1)⟩

def TreePost (seed : ByteArray) (h i gd l k : Nat) (L : List (List UInt8)) (w : World) (e : Ending) (w' : World) : Prop :=
  e = .returned (.agg (bs (nodeB seed.data.toList l k)).toArray) ∧ Blk w' gd 29 (dgs (visitB seed.data.toList h i l k L)) ∧ Kp gd w w'
/-- What the children of a node leave. -/
def kidsB (seed : List UInt8) (h i : Nat) : Nat → Nat → List (List UInt8) → List (List UInt8)
  | 0, _, L => L
  | l + 1, k, L => visitB seed h i l (2 * k + 1) (visitB seed h i l (2 * k) L)
theorem visitB_kids (seed : List UInt8) (h i l k : Nat) (L : List (List UInt8)) : visitB seed h i l k L = putB seed h i l k (kidsB seed h i l k L) := by
  cases l <;> rfl
theorem kidsB_length (seed : List UInt8) (h i l k : Nat) (L : List (List UInt8)) : (kidsB seed h i l k L).length = L.length := by
  cases l with
  | zero => rfl
  | succ l => unfold kidsB; rw [visitB_length, visitB_length]
theorem kidsB_16 {seed : List UInt8} {h i l k : Nat} {L : List (List UInt8)} (hL : ∀ x ∈ L, x.length = 16) : ∀ x ∈ kidsB seed h i l k L, x.length = 16 := by
  cases l with
  | zero => exact hL
  | succ l => exact visitB_16 _ _ (visitB_16 _ _ hL)

theorem xor_one (q : Nat) (h : q < 64) : bits .xor .i64 (q : Int) 1 = ((q ^^^ 1 : Nat) : Int) := by
  have : ∀ x : Fin 64, bits .xor .i64 (x.val : Int) 1 = ((x.val ^^^ 1 : Nat) : Int) := by decide +kernel
  exact this ⟨q, h⟩
theorem xor_sib (i l : Nat) (hi : i < 64) : bits .xor .i64 ((i : Int) / 2 ^ l) 1 = (sib i l : Int) := by
  have e : (i : Int) / 2 ^ l = ((i / 2 ^ l : Nat) : Int) := by simp
  rw [e, xor_one _ (Nat.lt_of_le_of_lt (Nat.div_le_self _ _) hi)]
  rfl

theorem flat16_length : ∀ (K : List (List UInt8)), (∀ x ∈ K, x.length = 16) → K.flatten.length = 16 * K.length
  | [], _ => rfl
  | x :: K, h => by
    rw [List.flatten_cons, List.length_append, flat16_length K (fun y hy => h y (List.mem_cons_of_mem _ hy)), h x (List.mem_cons_self ..), List.length_cons]; omega
theorem seg_flat : ∀ (K : List (List UInt8)), (∀ x ∈ K, x.length = 16) → ∀ (l : Nat), l < K.length → ∀ d : List UInt8, d.length = 16 → seg (bs K.flatten) (l * 16) (bs d) = bs (K.set l d).flatten
  | [], _, l, hl, _, _ => by simp at hl
  | x :: K, h, 0, _, d, hd => by
    have hx : x.length = 16 := h x (List.mem_cons_self ..)
    unfold seg
    rw [Nat.zero_mul, List.take_zero, List.nil_append, Nat.zero_add, bs_length, hd, bs_drop, List.set_cons_zero, List.flatten_cons, List.flatten_cons, bs_append,
      List.drop_append_of_le_length (by omega), List.drop_eq_nil_of_le (by omega), List.nil_append]
  | x :: K, h, l + 1, hl, d, hd => by
    have hx : x.length = 16 := h x (List.mem_cons_self ..)
    have ih := seg_flat K (fun y hy => h y (List.mem_cons_of_mem _ hy)) l (by simpa using hl) d hd
    have hbx : (bs x).length = 16 := by rw [bs_length, hx]
    have e1 : (bs (x :: K).flatten) = bs x ++ bs K.flatten := by rw [List.flatten_cons, bs_append]
    have e2 : bs ((x :: K).set (l + 1) d).flatten = bs x ++ bs (K.set l d).flatten := by rw [List.set_cons_succ, List.flatten_cons, bs_append]
    rw [e1, e2, ← ih]
    unfold seg
    rw [List.take_append, List.take_of_length_le (by omega), List.drop_append, List.drop_eq_nil_of_le (by omega), List.nil_append, hbx,
      show (l + 1) * 16 - 16 = l * 16 by omega, show (l + 1) * 16 + (bs d).length - 16 = l * 16 + (bs d).length by omega, List.append_assoc, List.append_assoc, List.append_assoc]

set_option maxRecDepth 100000 in
set_option maxHeartbeats 4000000 in
theorem treeBody (seed : ByteArray) (h i gs gn gh gi gb gd l k : Nat) (L : List (List UInt8)) (w : World) (hw : TreeAt seed h i gs gn gh gi gb gd w) (hd : Blk w gd 29 (dgs L)) (hL : L.length = h) (hL16 : ∀ x ∈ L, x.length = 16)
    (hs : seed.size ≤ 1000) (hh6 : h ≤ 6) (hi : i < 64) (hlh : l ≤ h) (hkl : (k + 1) * 2 ^ l ≤ 64)
    (hrec : ∀ (l' k' : Nat) (L' : List (List UInt8)) (w' : World), l = l' + 1 → (k' + 1) * 2 ^ l' ≤ 64 → TreeAt seed h i gs gn gh gi gb gd w' → Blk w' gd 29 (dgs L') → L'.length = h → (∀ x ∈ L', x.length = 16) →
      Calls Tryd.prog 63 #[.int .i64 (l' : Int), .int .i64 (k' : Int), .pointer (some ⟨gs, 0, none⟩), .pointer (some ⟨gn, 0, none⟩), .pointer (some ⟨gh, 0, none⟩), .pointer (some ⟨gi, 0, none⟩), .pointer (some ⟨gb, 0, none⟩)] w' (TreePost seed h i gd l' k' L' w')) :
    Calls Tryd.prog 63 #[.int .i64 (l : Int), .int .i64 (k : Int), .pointer (some ⟨gs, 0, none⟩), .pointer (some ⟨gn, 0, none⟩), .pointer (some ⟨gh, 0, none⟩), .pointer (some ⟨gi, 0, none⟩), .pointer (some ⟨gb, 0, none⟩)] w (TreePost seed h i gd l k L w) := by
  have hz := Tryd.zero29
  have HW := Lib.hid hw
  have HD := Lib.hid hd
  have HL := Lib.hid hL
  have HL16 := Lib.hid hL16
  have HREC := Lib.hid hrec
  have HKL := Lib.hid hkl
  have hk64 : k < 64 := by
    have := Nat.le_mul_of_pos_right (k + 1) (Nat.pos_of_ne_zero (show 2 ^ l ≠ 0 by simp)); omega
  clear hw hd hL hL16 hrec hkl
  go_enter Tryd.func63, Tryd.ntmps63
  go_upto_if 12 with fail
  generalize hw0 : World.alloc _ _ = w0
  have H0 : Hid (Blk w0 w.heap.size 3 #[.int .i64 (k : Int)] ∧ Blk w0 (w.heap.size + 1) 29 (bs z16).toArray ∧ Blk w0 (w.heap.size + 1 + 1) 29 (bs z16).toArray ∧ Below w.heap.size w w0) := by
    rw [← hw0]
    exact ⟨((Blk.new w 3 _).alloc _).alloc _, (Blk.new_at _ 29 (size_alloc _ _).symm rfl).alloc _, Blk.new_at _ 29 (by simp) rfl, ba (ba (below_new _ _) _) _⟩
  clear hw0
  have HD0 := Lib.hid (blk_past H0.out.2.2.2 HD.out)
  have HW0 := Lib.hid (HW.out.kp HD.out (Kp.of H0.out.2.2.2))
  have hgd := HD.out.lt
  obtain ⟨d, hd⟩ : ∃ d, d = nodeB seed.data.toList l k := ⟨_, rfl⟩
  have hdl : d.length = 16 := by rw [hd]; exact nodeB_16 _ _ _
  have HDN := Lib.hid hd
  have HDL := Lib.hid hdl
  have HS16 := Lib.hid (size16 hdl)
  clear hd hdl
  go_cut [10] (fun s10 wx => s10 = .pointer (some ⟨w.heap.size + 1 + 1, 0, none⟩) ∧ Hid (Blk wx w.heap.size 3 #[.int .i64 (k : Int)] ∧ Blk wx (w.heap.size + 1) 29 (bs z16).toArray ∧ Blk wx (w.heap.size + 1 + 1) 29 (bs d).toArray ∧ Blk wx gd 29 (dgs (kidsB seed.data.toList h i l k L)) ∧ Kp gd w wx))
  case first =>
    rcases l with _ | l
    · have hb0 : (((0 : Nat) : Int) == 0) = true := rfl
      have hclo := Lib.hid (fun (c : Nat) (W : World) (hc : c < 68) (hW : Below w0.heap.size w0 W) => topClo seed k c gs w.heap.size W (HW0.out.k.below hW) hs (blk_past hW HW0.out.s) (blk_past hW H0.out.1) (by omega) (by omega))
      go_wp2_with (first
        | (go_at_call 54; refine (leafT (topB seed.data.toList k) gs w.heap.size _ HW0.out.k (topB_16 _ _) hclo.out).mono ?_; rintro e w1 ⟨rfl, hb1⟩; rw [show leafB (topB seed.data.toList k) = d from HDN.out.symm]; have HB1 := Lib.hid hb1; clear hb1)
        | (refine wpList_store_row rfl 29 (.tmp 10) (.tmp 14) rfl (w.heap.size + 1 + 1) (bs d).toArray rfl rfl 29 _ (blk_past HB1.out H0.out.2.2.1) HS16.out (by rw [sz16 HDL.out, sz16 z16_length]) (all_oneCell_toArray (bs_one _)) ?_))
      go_meet
      exact ⟨rfl, (blk_past HB1.out H0.out.1).setRow_far (by omega) _, (blk_past HB1.out H0.out.2.1).setRow_far (by omega) _, (blk_past HB1.out H0.out.2.2.1).setRow _, (blk_past HB1.out HD0.out).setRow_far (by omega) _, ((Kp.of H0.out.2.2.2).then HB1.out).setRow (.inl (by omega)) _⟩
    · have hb0 : ((((l + 1 : Nat) : Int)) == 0) = false := by simp; omega
      go_wp2_with fail
      obtain ⟨m, hm⟩ : ∃ m, m = 2 * k := ⟨_, rfl⟩
      obtain ⟨m1, hm1⟩ : ∃ m1, m1 = 2 * k + 1 := ⟨_, rfl⟩
      obtain ⟨x, hx⟩ : ∃ x, x = nodeB seed.data.toList l m := ⟨_, rfl⟩
      obtain ⟨y, hy⟩ : ∃ y, y = nodeB seed.data.toList l m1 := ⟨_, rfl⟩
      have hxl : x.length = 16 := by rw [hx]; exact nodeB_16 _ _ _
      have hyl : y.length = 16 := by rw [hy]; exact nodeB_16 _ _ _
      have hxy : parentB x y m = d := by
        rw [HDN.out, parentB, if_neg (by omega), hx, hy, hm, hm1]; rfl
      have hk1 : (m + 1) * 2 ^ l ≤ 64 := by
        have h1 := HKL.out
        rw [Nat.pow_succ] at h1
        have h2 : (m + 1) * 2 ^ l ≤ (k + 1) * (2 ^ l * 2) := by
          rw [show (k + 1) * (2 ^ l * 2) = (2 * (k + 1)) * 2 ^ l by rw [Nat.mul_comm (2 ^ l) 2, ← Nat.mul_assoc, Nat.mul_comm (k + 1) 2]]
          exact Nat.mul_le_mul_right _ (by omega)
        omega
      have hk2 : (m1 + 1) * 2 ^ l ≤ 64 := by
        have h1 := HKL.out
        rw [Nat.pow_succ] at h1
        have h2 : (m1 + 1) * 2 ^ l ≤ (k + 1) * (2 ^ l * 2) := by
          rw [show (k + 1) * (2 ^ l * 2) = (2 * (k + 1)) * 2 ^ l by rw [Nat.mul_comm (2 ^ l) 2, ← Nat.mul_assoc, Nat.mul_comm (k + 1) 2]]
          exact Nat.mul_le_mul_right _ (by omega)
        omega
      have HR1 := Lib.hid (HREC.out l m L w0.drew rfl hk1 (HW0.out.kp HD0.out Kp.refl.drew) HD0.out.drew HL.out HL16.out)
      have HV1 := Lib.hid (show (visitB seed.data.toList h i l m L).length = h ∧ ∀ x ∈ visitB seed.data.toList h i l m L, x.length = 16 from ⟨by rw [visitB_length]; exact HL.out, visitB_16 _ _ HL16.out⟩)
      have HKID := Lib.hid (show visitB seed.data.toList h i l m1 (visitB seed.data.toList h i l m L) = kidsB seed.data.toList h i (l + 1) k L by rw [hm, hm1]; rfl)
      have a1 : IntKind.i64.wrap (l : Int) = (l : Int) := IntWalk.i64_in _ (by omega)
      have a2 : IntKind.i64.wrap (2 * (k : Int)) = (m : Int) := by rw [IntWalk.i64_in _ (by omega)]; omega
      have a3 : IntKind.i64.wrap ((m : Int) + 1) = (m1 : Int) := by rw [IntWalk.i64_in _ (by omega)]; omega
      have HX := Lib.hid hx
      have HY := Lib.hid hy
      have HXL := Lib.hid hxl
      have HYL := Lib.hid hyl
      have HXY := Lib.hid hxy
      have HK2 := Lib.hid hk2
      have hng := Ne.symm (Nat.ne_of_lt hgd)
      have HNG := Lib.hid hng
      have ga := one_cell HW0.out.n
      have gk := one_cell H0.out.1
      have hla : (bs d).length = 16 := by rw [bs_length]; exact HDL.out
      have hon := bs_one d
      have hsd : (Tryd.prog.info? 29).map (·.size) = some (bs d).length := by rw [hla]; exact Tryd.size29
      clear hm hm1 hx hy hxl hyl hxy hk1 hk2 hng
      go_region_held3 (fun w' => w'.cell? ⟨gn, 0, none⟩ = some (.func (.func 63) #[] #[.pointer (some ⟨gs, 0, none⟩), .pointer (some ⟨gn, 0, none⟩), .pointer (some ⟨gh, 0, none⟩), .pointer (some ⟨gi, 0, none⟩), .pointer (some ⟨gb, 0, none⟩)]) ∧ w'.cell? ⟨w.heap.size, 0, none⟩ = some (.int .i64 (k : Int)))
        (first | exact ⟨ga, gk⟩ | exact ⟨ga1, gk1⟩ | exact ⟨ga2, gk2⟩ | exact ⟨ga3, gk3⟩ | exact ⟨ga4, gk4⟩)
        (first
          | (go_at_call 63; ((with_reducible refine HR1.out.mono ?_); rintro e w1 ⟨rfl, hd1, hp1⟩); rw [← HX.out]; have HP1 := Lib.hid ((Kp.of H0.out.2.2.2).trans (Kp.refl.drew.trans hp1)); have HD1 := Lib.hid hd1; have HW1 := Lib.hid ((HW0.out.kp HD0.out Kp.refl.drew).kp HD0.out.drew hp1); have HB1 := Lib.hid (H0.out.1.drew.kp hp1 HNG.out); have HZ1 := Lib.hid (H0.out.2.1.drew.kp hp1 (by omega)); have HE1 := Lib.hid (H0.out.2.2.1.drew.kp hp1 (by omega)); have ga1 := one_cell HW1.out.n; have gk1 := one_cell HB1.out; have HR2 := Lib.hid (HREC.out l m1 _ w1 rfl HK2.out HW1.out HD1.out HV1.out.1 HV1.out.2); clear hd1 hp1)
          | (go_at_call 63; ((with_reducible refine HR2.out.mono ?_); rintro e w2 ⟨rfl, hd2, hp2⟩); rw [← HY.out]; rw [HKID.out] at hd2; have HP2 := Lib.hid (HP1.out.trans hp2); have HD2 := Lib.hid hd2; have HW2 := Lib.hid (HW1.out.kp HD1.out hp2); have HB2 := Lib.hid (HB1.out.kp hp2 HNG.out); have HZ2 := Lib.hid (HZ1.out.kp hp2 (by omega)); have HE2 := Lib.hid (HE1.out.kp hp2 (by omega)); have ga2 := one_cell HW2.out.n; have gk2 := one_cell HB2.out; have HR3 := Lib.hid (parent x y m w2 HW2.out.k HXL.out HYL.out); clear hd2 hp2)
          | (go_at_call 56; ((with_reducible refine HR3.out.mono ?_); rintro e w3 ⟨rfl, hb3⟩); rw [HXY.out]; have HP3 := Lib.hid (HP2.out.then hb3); have HD3 := Lib.hid (blk_past hb3 HD2.out); have HB3 := Lib.hid (blk_past hb3 HB2.out); have HZ3 := Lib.hid (blk_past hb3 HZ2.out); have HE3 := Lib.hid (blk_past hb3 HE2.out); have hth := there16 HE3.out z16_length; have HSC := Lib.hid (setCells16 HE3.out z16_length HDL.out); have ga3 := one_cell (blk_past hb3 HW2.out.n); have gk3 := one_cell HB3.out; have ga4 := cell_sc HSC.out (one_cell ((blk_past hb3 HW2.out.n).setRow_far (by have := HW.out.n.lt; omega) (bs d).toArray)); have gk4 := cell_sc HSC.out (one_cell (HB3.out.setRow_far (by omega) (bs d).toArray)); clear hb3))
      go_wp2_with fail
      go_meet
      rw [HSC.out]
      exact ⟨rfl, HB3.out.setRow_far (by omega) _, HZ3.out.setRow_far (by omega) _, HE3.out.setRow _, HD3.out.setRow_far (by omega) _, HP3.out.setRow (.inl (by omega)) _⟩
  case rest =>
    obtain ⟨rfl, hh⟩ := hcut
    clear H0 HD0 HW0 HREC
    have HWc := Lib.hid (HW.out.kp HD.out hh.out.2.2.2.2)
    have hc1 := one_cell HWc.out.hh
    have hc2 := one_cell HWc.out.i
    have hc3 := one_cell hh.out.1
    obtain ⟨r, hr⟩ : ∃ r, r = sib i l := ⟨_, rfl⟩
    have hx : bits .xor .i64 ((i : Int) / 2 ^ l) 1 = (r : Int) := by rw [hr]; exact xor_sib i l hi
    have hc4 := one_cell HWc.out.b
    by_cases hlt : l < h
    · have hb1 : (l : Int) < (h : Int) := by omega
      by_cases hkr : k = r
      · have hb2 : ((k : Int) == (r : Int)) = true := by simp [hkr]
        have hkl : l < (kidsB seed.data.toList h i l k L).length := by rw [kidsB_length, HL.out]; exact hlt
        have hk16 := kidsB_16 (seed := seed.data.toList) (h := h) (i := i) (l := l) (k := k) HL16.out
        have HSL := Lib.hid (show (Tryd.prog.info? 29).map (·.size) = some (bs d).length by rw [bs_length, HDL.out]; exact Tryd.size29)
        have HFIT := Lib.hid (show l * 16 + (bs d).length ≤ (bs (kidsB seed.data.toList h i l k L).flatten).length by rw [bs_length, bs_length, HDL.out, flat16_length _ hk16]; omega)
        have HSEG := Lib.hid (show (seg (bs (kidsB seed.data.toList h i l k L).flatten) (l * 16) (bs d)).toArray = dgs (visitB seed.data.toList h i l k L) by
          rw [visitB_kids, putB, if_pos ⟨hlt, hkr.trans hr⟩, ← HDN.out, seg_flat _ hk16 l hkl d HDL.out]; rfl)
        clear hkr hr hkl hk16
        go_wp2
        go_quiet (fail)
        go_wp2_with (first
          | (refine wpList_load_row rfl 29 (.tmp 10) rfl (w.heap.size + 1 + 1) rfl 29 (bs d).toArray (0, 0) _ (hh.out.2.2.1.drewN nq) Tryd.underlying29 rfl HS16.out ?_)
          | (refine wpList_store_seg _ rfl 29 (.tmp 45) (.tmp 44) rfl gd (l * 16) (bs d) rfl rfl 29 (bs (kidsB seed.data.toList h i l k L).flatten) (hh.out.2.2.2.1.drewN nq) HSL.out HFIT.out (bs_one d) ?_
             intro w5 hw5
             rw [HSEG.out] at hw5
             have HG5 : Hid (Blk w5 gd 29 (dgs (visitB seed.data.toList h i l k L))) := by rw [hw5]; exact (hh.out.2.2.2.1.drewN nq).setRow _
             have HE5 : Hid (Blk w5 (w.heap.size + 1 + 1) 29 (bs d).toArray) := by rw [hw5]; exact (hh.out.2.2.1.drewN nq).setRow_far (by omega) _
             have HZ5 : Hid (Blk w5 (w.heap.size + 1) 29 (bs z16).toArray) := by rw [hw5]; exact (hh.out.2.1.drewN nq).setRow_far (by omega) _
             have HP5 : Hid (Kp gd w w5) := by rw [hw5]; exact (hh.out.2.2.2.2.drewN nq).setRow (.inr rfl) _
             clear hw5)
          | (refine wpList_load_row rfl 29 (.tmp 10) rfl (w.heap.size + 1 + 1) rfl 29 (bs d).toArray (0, 0) _ HE5.out Tryd.underlying29 rfl HS16.out ?_)
          | (refine wpList_store_row rfl 29 (.tmp 9) (.tmp 46) rfl (w.heap.size + 1) (bs d).toArray rfl rfl 29 _ HZ5.out HS16.out (by rw [sz16 HDL.out, sz16 z16_length]) (all_oneCell_toArray (bs_one _)) ?_))
        refine bodyPost_ret (results_cell_row Tryd.results63 _ _ (w.heap.size + 1) 29 (bs d).toArray (0, 0) _ rfl (HZ5.out.setRow _) Tryd.underlying29 rfl HS16.out) rfl ⟨by rw [HDN.out], HG5.out.setRow_far (by omega) _, HP5.out.setRow (.inl (by omega)) _⟩
      · have hb2 : ((k : Int) == (r : Int)) = false := by simp; omega
        have HVI := Lib.hid (show visitB seed.data.toList h i l k L = kidsB seed.data.toList h i l k L by rw [visitB_kids, putB, if_neg (fun c => hkr (c.2.trans hr.symm))])
        clear hkr hr
        go_wp2
        go_quiet (fail)
        go_wp2_with (first
          | (refine wpList_load_row rfl 29 (.tmp 10) rfl (w.heap.size + 1 + 1) rfl 29 (bs d).toArray (0, 0) _ (hh.out.2.2.1.drewN nq) Tryd.underlying29 rfl HS16.out ?_)
          | (refine wpList_store_row rfl 29 (.tmp 9) (.tmp 46) rfl (w.heap.size + 1) (bs d).toArray rfl rfl 29 _ (hh.out.2.1.drewN nq) HS16.out (by rw [sz16 HDL.out, sz16 z16_length]) (all_oneCell_toArray (bs_one _)) ?_))
        refine bodyPost_ret (results_cell_row Tryd.results63 _ _ (w.heap.size + 1) 29 (bs d).toArray (0, 0) _ rfl ((hh.out.2.1.drewN nq).setRow _) Tryd.underlying29 rfl HS16.out) rfl ⟨by rw [HDN.out], by rw [HVI.out]; exact (hh.out.2.2.2.1.drewN nq).setRow_far (by omega) _, (hh.out.2.2.2.2.drewN nq).setRow (.inl (by omega)) _⟩
    · have hb1 : decide (l < h) = false := by simp; omega
      have HVI := Lib.hid (show visitB seed.data.toList h i l k L = kidsB seed.data.toList h i l k L by rw [visitB_kids, putB, if_neg (fun c => hlt c.1)])
      clear hlt hr
      go_wp2
      go_quiet (fail)
      go_wp2_with (first
        | (refine wpList_load_row rfl 29 (.tmp 10) rfl (w.heap.size + 1 + 1) rfl 29 (bs d).toArray (0, 0) _ (hh.out.2.2.1.drewN nq) Tryd.underlying29 rfl HS16.out ?_)
        | (refine wpList_store_row rfl 29 (.tmp 9) (.tmp 46) rfl (w.heap.size + 1) (bs d).toArray rfl rfl 29 _ (hh.out.2.1.drewN nq) HS16.out (by rw [sz16 HDL.out, sz16 z16_length]) (all_oneCell_toArray (bs_one _)) ?_))
      refine bodyPost_ret (results_cell_row Tryd.results63 _ _ (w.heap.size + 1) 29 (bs d).toArray (0, 0) _ rfl ((hh.out.2.1.drewN nq).setRow _) Tryd.underlying29 rfl HS16.out) rfl ⟨by rw [HDN.out], by rw [HVI.out]; exact (hh.out.2.2.2.1.drewN nq).setRow_far (by omega) _, (hh.out.2.2.2.2.drewN nq).setRow (.inl (by omega)) _⟩
end Go.Proofs.YtaoegpmjogladaaDoor

/-
  sign.tree.
-/
namespace Go.Proofs.YtaoegpmjogladaaDoor
open Go.RowKit WM

theorem treeClo (seed : ByteArray) (h i gs gn gh gi gb gd : Nat) (hs : seed.size ≤ 1000) (hh6 : h ≤ 6) (hi : i < 64) : ∀ (l k : Nat) (L : List (List UInt8)) (w : World), TreeAt seed h i gs gn gh gi gb gd w →
    Blk w gd 29 (dgs L) → L.length = h → (∀ x ∈ L, x.length = 16) → l ≤ h → (k + 1) * 2 ^ l ≤ 64 →
    Calls Tryd.prog 63 #[.int .i64 (l : Int), .int .i64 (k : Int), .pointer (some ⟨gs, 0, none⟩), .pointer (some ⟨gn, 0, none⟩), .pointer (some ⟨gh, 0, none⟩), .pointer (some ⟨gi, 0, none⟩), .pointer (some ⟨gb, 0, none⟩)] w (TreePost seed h i gd l k L w)
  | 0, k, L, w, hw, hd, hL, h16, hl, hkl => treeBody seed h i gs gn gh gi gb gd 0 k L w hw hd hL h16 hs hh6 hi hl hkl (fun l' _ _ _ e => absurd e (by omega))
  | l + 1, k, L, w, hw, hd, hL, h16, hl, hkl => treeBody seed h i gs gn gh gi gb gd (l + 1) k L w hw hd hL h16 hs hh6 hi hl hkl (fun l' k' L' w' e hk' hw' hd' hL' h16' => by
      obtain rfl : l' = l := by omega
      exact treeClo seed h i gs gn gh gi gb gd hs hh6 hi l' k' L' w' hw' hd' hL' h16' (by omega) hk')

theorem treeRoot (seed : ByteArray) (h i gs gn gh gi gb gd : Nat) (hs : seed.size ≤ 1000) (hh6 : h ≤ 6) (hi : i < 64) (L : List (List UInt8)) (w : World) (hw : TreeAt seed h i gs gn gh gi gb gd w)
    (hd : Blk w gd 29 (dgs L)) (hL : L.length = h) (h16 : ∀ x ∈ L, x.length = 16) (h64 : 2 ^ h ≤ 64) :
    Calls Tryd.prog 63 #[.int .i64 (h : Int), .int .i64 0, .pointer (some ⟨gs, 0, none⟩), .pointer (some ⟨gn, 0, none⟩), .pointer (some ⟨gh, 0, none⟩), .pointer (some ⟨gi, 0, none⟩), .pointer (some ⟨gb, 0, none⟩)] w (TreePost seed h i gd h 0 L w) :=
  treeClo seed h i gs gn gh gi gb gd hs hh6 hi h 0 L w hw hd hL h16 (Nat.le_refl _) (by omega)
theorem results_cell_slot {P : Program} {fn : Func} {p q : Tmp} {ty : TypeId} (h : fn.results = #[.cell p ty, .tmp q]) (tmps : Array Value) (w : World) (g : Nat) (t : TypeId) (cs : Array Value) (fr : Nat × Nat) (d : TypeDesc) (v : Value)
    (hp : tmps.getD p undef = .pointer (some ⟨g, 0, none⟩)) (hg : w.heap[g]? = some (.cells cs t fr))
    (hu : P.underlying ty = some d) (hd : (match d with | .struct _ | .array _ _ => true | _ => false) = true) (hi : (P.info? ty).map (·.size) = some cs.size) (hv : tmps.getD q undef = v) :
    (results fn tmps).run P w = .ok (.tuple #[.agg cs, v]) w := by
  have hp' : tmps[p]?.getD undef = .pointer (some ⟨g, 0, none⟩) := by simpa using hp
  have hv' : tmps[q]?.getD undef = v := by simpa using hv
  simp [results, h, hp', hv', asAddr, run_loadVar_row w g t ty cs fr d hg hu hd hi]
theorem below_kp {a w w1 : World} {gd : Nat} (h : Below a.heap.size a w) (hk : Kp gd w w1) (hg : a.heap.size ≤ gd) : Below a.heap.size a w1 :=
  ⟨hk.os.trans h.os, hk.tape.trans h.tape, hk.output.trans h.output, Nat.le_trans h.size hk.size, fun i hi => (hk.block i (Nat.lt_of_lt_of_le hi h.size) (fun e => by injection e with e; omega)).trans (h.block i hi)⟩

def zs (h : Nat) : List (List UInt8) := List.replicate h z16
theorem make70 (h : Nat) (hh : h ≤ 6) (W : World) : (Instr.makeSlice 70 (.int .i64 (h : Int)) (.int .i64 (h : Int))).run Tryd.prog W = .ok (.slice (some ⟨W.heap.size, 0, none⟩) h h) (W.alloc (.cells (dgs (zs h)) 29)) := by
  obtain rfl | rfl | rfl | rfl | rfl | rfl | rfl : h = 0 ∨ h = 1 ∨ h = 2 ∨ h = 3 ∨ h = 4 ∨ h = 5 ∨ h = 6 := by omega
  all_goals kernel_rfl

set_option maxRecDepth 100000 in
set_option maxHeartbeats 4000000 in
theorem tree (seed : ByteArray) (h i : Nat) (w : World) (hk : KT 0 w) (hs : seed.size ≤ 1000) (hh6 : h ≤ 6) (hi : i < 2 ^ h) :
    Calls Tryd.prog 39 #[.string seed, .int .i64 (h : Int), .int .i64 (i : Int)] w fun e w' => ∃ gd, e = .returned (.tuple #[.agg (bs (rootB seed.data.toList h)).toArray, .slice (some ⟨gd, 0, none⟩) h h]) ∧ w.heap.size ≤ gd ∧ Blk w' gd 29 (dgs (pathB seed.data.toList i h)) ∧ Below w.heap.size w w' := by
  have hz := Tryd.zero29
  have hmk := make70 h hh6
  have h64 : 2 ^ h ≤ 64 := by
    have : 2 ^ h ≤ 2 ^ 6 := Nat.pow_le_pow_right (by omega) hh6
    simpa using this
  have hi64 : i < 64 := by omega
  have HK := Lib.hid hk
  have HI := Lib.hid hi
  have HPA := Lib.hid (show visitB seed.data.toList h i h 0 (zs h) = pathB seed.data.toList i h by rw [visitB_root _ _ _ hi _ (by simp [zs]), pathB_eq])
  have H64 := Lib.hid h64
  obtain ⟨d, hd⟩ : ∃ d, d = rootB seed.data.toList h := ⟨_, rfl⟩
  have hdl : d.length = 16 := by rw [hd]; exact nodeB_16 _ _ _
  have HDN := Lib.hid (show nodeB seed.data.toList h 0 = d from hd.symm)
  have HDL := Lib.hid hdl
  have HS16 := Lib.hid (size16 hdl)
  rw [← hd]
  clear hd hdl hk hi h64
  go_enter Tryd.func39, Tryd.ntmps39
  go_wp2
  generalize hw0 : World.alloc _ _ = w0
  obtain ⟨gs, hgs⟩ : ∃ g, g = w.heap.size := ⟨_, rfl⟩
  obtain ⟨gh, hgh⟩ : ∃ g, g = w.heap.size + 1 := ⟨_, rfl⟩
  obtain ⟨gi, hgi⟩ : ∃ g, g = w.heap.size + 1 + 1 := ⟨_, rfl⟩
  obtain ⟨go, hgo⟩ : ∃ g, g = w.heap.size + 1 + 1 + 1 := ⟨_, rfl⟩
  obtain ⟨gd, hgd⟩ : ∃ g, g = w.heap.size + 1 + 1 + 1 + 1 := ⟨_, rfl⟩
  obtain ⟨gb, hgb⟩ : ∃ g, g = w.heap.size + 1 + 1 + 1 + 1 + 1 := ⟨_, rfl⟩
  obtain ⟨gn, hgn⟩ : ∃ g, g = w.heap.size + 1 + 1 + 1 + 1 + 1 + 1 := ⟨_, rfl⟩
  rw [← hgn, ← hgb, ← hgd, ← hgi, ← hgh, ← hgs] at hw0
  rw [← hgn, ← hgb, ← hgd, ← hgo, ← hgi, ← hgh, ← hgs]
  have HN : Hid (gs = w.heap.size ∧ gh = w.heap.size + 1 ∧ gi = w.heap.size + 2 ∧ go = w.heap.size + 3 ∧ gd = w.heap.size + 4 ∧ gb = w.heap.size + 5 ∧ gn = w.heap.size + 6) := ⟨hgs, hgh, hgi, hgo, hgd, hgb, hgn⟩
  have HB0 : Hid (Below w.heap.size w w0) := by rw [← hw0]; exact ba (ba (ba (ba (ba (ba (below_new _ _) _) _) _) _) _) _
  have HD0 : Hid (Blk w0 gd 29 (dgs (zs h)) ∧ Blk w0 go 29 (bs z16).toArray) := by
    rw [← hw0]
    exact ⟨((Blk.new_at _ 29 (by simp [hgd]) rfl).alloc _).alloc _, (((Blk.new_at _ 29 (by simp [hgo]) rfl).alloc _).alloc _).alloc _⟩
  have HT0 : Hid (TreeAt seed h i gs gn gh gi gb gd w0) := by
    refine ⟨?_, ?_, ?_, ?_, ?_, HK.out.below HB0.out⟩
    · rw [← hw0]; exact ((((((Blk.new_at _ 9 hgs rfl).alloc _).alloc _).alloc _).alloc _).alloc _).alloc _
    · rw [← hw0]; exact Blk.new_at _ 92 (by simp [hgn]) rfl
    · rw [← hw0]; exact (((((Blk.new_at _ 3 (by simp [hgh]) rfl).alloc _).alloc _).alloc _).alloc _).alloc _
    · rw [← hw0]; exact ((((Blk.new_at _ 3 (by simp [hgi]) rfl).alloc _).alloc _).alloc _).alloc _
    · rw [← hw0]; exact (Blk.new_at _ 70 (by simp [hgb]) rfl).alloc _
  clear hw0 hgs hgh hgi hgo hgd hgb hgn
  have HR1 := Lib.hid (treeRoot seed h i gs gn gh gi gb gd hs hh6 hi64 (zs h) w0.drew (HT0.out.kp HD0.out.1 Kp.refl.drew) HD0.out.1.drew (by simp [zs]) (fun x hx => by rw [List.eq_of_mem_replicate hx]; rfl) H64.out)
  have ga := one_cell HT0.out.n
  have gk := one_cell HT0.out.hh
  have gm := one_cell HT0.out.b
  have hla : (bs d).length = 16 := by rw [bs_length]; exact HDL.out
  have hon := bs_one d
  have hsd : (Tryd.prog.info? 29).map (·.size) = some (bs d).length := by rw [hla]; exact Tryd.size29
  go_region_held3 (fun w' => w'.cell? ⟨gn, 0, none⟩ = some (.func (.func 63) #[] #[.pointer (some ⟨gs, 0, none⟩), .pointer (some ⟨gn, 0, none⟩), .pointer (some ⟨gh, 0, none⟩), .pointer (some ⟨gi, 0, none⟩), .pointer (some ⟨gb, 0, none⟩)]) ∧ w'.cell? ⟨gh, 0, none⟩ = some (.int .i64 (h : Int)) ∧ w'.cell? ⟨gb, 0, none⟩ = some (.slice (some ⟨gd, 0, none⟩) h h))
    (first | exact ⟨ga, gk, gm⟩ | exact ⟨ga1, gk1, gm1⟩ | exact ⟨ga2, gk2, gm2⟩)
    (first
      | (go_at_call 63; ((with_reducible refine HR1.out.mono ?_); rintro e w1 ⟨rfl, hd1, hp1⟩); rw [HDN.out]; rw [HPA.out] at hd1; have HD1 := Lib.hid hd1; have HP1 := Lib.hid (Kp.refl.drew.trans hp1); have HT1 := Lib.hid (HT0.out.kp HD0.out.1 HP1.out); have HO1 := Lib.hid (HD0.out.2.kp HP1.out (by have := HN.out; omega)); have hth := there16 HO1.out z16_length; have HSC := Lib.hid (setCells16 HO1.out z16_length HDL.out); have ga1 := one_cell HT1.out.n; have gk1 := one_cell HT1.out.hh; have gm1 := one_cell HT1.out.b; have ga2 := cell_sc HSC.out (one_cell (HT1.out.n.setRow_far (by have := HN.out; omega) (bs d).toArray)); have gk2 := cell_sc HSC.out (one_cell (HT1.out.hh.setRow_far (by have := HN.out; omega) (bs d).toArray)); have gm2 := cell_sc HSC.out (one_cell (HT1.out.b.setRow_far (by have := HN.out; omega) (bs d).toArray)); clear hd1 hp1))
  all_goals
    go_wp2_with fail
    rw [HSC.out]
    refine bodyPost_ret (results_cell_slot Tryd.results39 _ _ go 29 (bs d).toArray (0, 0) _ _ rfl (HO1.out.setRow _) Tryd.underlying29 rfl HS16.out rfl) rfl ⟨gd, rfl, by have := HN.out; omega, HD1.out.setRow_far (by have := HN.out; omega) _, below_setRow (below_kp HB0.out HP1.out (by have := HN.out; omega)) (by have := HN.out; omega) _⟩
end Go.Proofs.YtaoegpmjogladaaDoor

/-
  sign.Public.
-/
namespace Go.Proofs.YtaoegpmjogladaaDoor
open Go.RowKit WM

theorem tree0 (seed : ByteArray) (h : Nat) (w : World) (hk : KT 0 w) (hs : seed.size ≤ 1000) (hh6 : h ≤ 6) (d : List UInt8) (hd : rootB seed.data.toList h = d) :
    Calls Tryd.prog 39 #[.string seed, .int .i64 (h : Int), .int .i64 0] w fun e w' => ∃ gd, e = .returned (.tuple #[.agg (bs d).toArray, .slice (some ⟨gd, 0, none⟩) h h]) ∧ Below w.heap.size w w' := by
  subst hd
  exact (tree seed h 0 w hk hs hh6 (Nat.pos_of_ne_zero (by simp))).mono fun _ _ ⟨gd, he, _, _, hb⟩ => ⟨gd, he, hb⟩

set_option maxRecDepth 100000 in
set_option maxHeartbeats 1000000 in
theorem public_no (seed : ByteArray) (h : Int) (w : World) (hn : ¬ (seed.size = 32 ∧ 0 ≤ h ∧ h ≤ 6)) :
    Calls Tryd.prog 18 #[.string seed, .int .i64 h] w fun e w' => e = .returned (.tuple #[.agg (bs z16).toArray, .int .i64 1]) ∧ Below w.heap.size w w' := by
  have hz := Tryd.zero29
  have HN := Lib.hid hn
  have HS16 := Lib.hid (size16 z16_length)
  clear hn
  go_enter Tryd.func18, Tryd.ntmps18
  go_wp2_with (first
    | (go_at_call 38; refine (isSigner_no seed h _ HN.out).mono ?_; rintro e w' ⟨rfl, rfl⟩)
    | (refine wpList_store_row rfl 29 (.tmp 4) (.tmp 12) rfl w.heap.size (bs z16).toArray rfl rfl 29 _ (Blk.new w 29 _) HS16.out (by rw [sz16 z16_length]) (all_oneCell_toArray (bs_one _)) ?_))
  refine bodyPost_ret (results_cell_slot Tryd.results18 _ _ w.heap.size 29 (bs z16).toArray (0, 0) _ _ rfl ((Blk.new w 29 _).setRow _) Tryd.underlying29 rfl HS16.out rfl) rfl ⟨rfl, below_setRow (below_new _ _) (Nat.le_refl _) _⟩

set_option maxRecDepth 100000 in
set_option maxHeartbeats 1000000 in
theorem public_yes (seed : ByteArray) (h : Nat) (w : World) (hk : KT 0 w) (hs : seed.size = 32) (hh : h ≤ 6) :
    Calls Tryd.prog 18 #[.string seed, .int .i64 (h : Int)] w fun e w' => e = .returned (.tuple #[.agg (bs (rootB seed.data.toList h)).toArray, .int .i64 0]) ∧ Below w.heap.size w w' := by
  have hz := Tryd.zero29
  obtain ⟨d, hd⟩ : ∃ d, d = rootB seed.data.toList h := ⟨_, rfl⟩
  have hdl : d.length = 16 := by rw [hd]; exact nodeB_16 _ _ _
  have HDN := Lib.hid (show rootB seed.data.toList h = d from hd.symm)
  have HDL := Lib.hid hdl
  have HS16 := Lib.hid (size16 hdl)
  have HK := Lib.hid hk
  have HS := Lib.hid hs
  rw [← hd]
  clear hd hdl hk hs
  go_enter Tryd.func18, Tryd.ntmps18
  go_wp2_with (first
    | (go_at_call 38; refine (isSigner_yes seed h _ HS.out (by omega) (by omega)).mono ?_; rintro e w' ⟨rfl, rfl⟩)
    | (go_at_call 39; refine (tree0 seed h _ (HK.out.below (below_new _ _)) (by rw [HS.out]; decide) hh d HDN.out).mono ?_; rintro e w1 ⟨gd, rfl, hb1⟩; have HB1 := Lib.hid (bt (below_new _ _) hb1); have HO1 := Lib.hid (blk_past hb1 (Blk.new w 29 _)); clear hb1)
    | (refine wpList_store_row rfl 29 (.tmp 6) (.tmp 17) rfl w1.heap.size (bs d).toArray rfl rfl 29 _ (Blk.new w1 29 _) HS16.out (by rw [sz16 HDL.out, sz16 z16_length]) (all_oneCell_toArray (bs_one _)) ?_
       generalize hw2 : World.setRow (World.alloc w1 _) _ _ = w2
       have HG2 : Hid (Blk w2 w1.heap.size 29 (bs d).toArray) := by rw [← hw2]; exact (Blk.new w1 29 _).setRow _
       have HO2 : Hid (Blk w2 w.heap.size 29 (bs z16).toArray) := by rw [← hw2]; exact (HO1.out.alloc _).setRow_far (by have := HO1.out.lt; omega) _
       have HB2 : Hid (Below w.heap.size w w2) := by rw [← hw2]; exact below_setRow (ba HB1.out _) HB1.out.size _
       clear hw2)
    | (refine wpList_load_row rfl 29 (.tmp 6) rfl w1.heap.size rfl 29 (bs d).toArray (0, 0) _ HG2.out Tryd.underlying29 rfl HS16.out ?_)
    | (refine wpList_store_row rfl 29 (.tmp 4) (.tmp 19) rfl w.heap.size (bs d).toArray rfl rfl 29 _ HO2.out HS16.out (by rw [sz16 HDL.out, sz16 z16_length]) (all_oneCell_toArray (bs_one _)) ?_))
  refine bodyPost_ret (results_cell_slot Tryd.results18 _ _ w.heap.size 29 (bs d).toArray (0, 0) _ _ rfl (HO2.out.setRow _) Tryd.underlying29 rfl HS16.out rfl) rfl ⟨rfl, below_setRow HB2.out (Nat.le_refl _) _⟩
end Go.Proofs.YtaoegpmjogladaaDoor
