/-
  Strings of bytes: string(b).
-/
import Derived.Test.YtbdknncmlcbbpaaDoorG28
import Derived.Laws.BytesString
import Derived.Laws.BytesArg
import Derived.Test.YtbdknncmlcbbpaaDoorG26
import Derived.Outline
set_option linter.unusedVariables false
namespace Go.Proofs.YtbdknncmlcbbpaaDoor
open Go.RowKit

def str (m : List UInt8) : ByteArray := ⟨m.toArray⟩
theorem str_list (m : List UInt8) : (str m).data.toList = m := rfl
theorem str_size (m : List UInt8) : (str m).size = m.length := by simp [str, ByteArray.size]
/-- 'string(b)' -/
theorem conv_str {A : Option Addr} {m : List UInt8} {c B : Nat} {W : World} (h : Reads W B 1 A m.length (bs m)) : (convert 32 9 (.slice A m.length c)).run Tryd.prog W = .ok (.string (str m)) W := by
  rcases A with _ | ad
  · have hm : m = [] := by
      rcases Nat.eq_zero_or_pos m.length with h0 | h0
      · exact List.eq_nil_of_length_eq_zero h0
      · obtain ⟨ad, h1, _⟩ := h.2 h0; cases h1
    subst hm
    exact run_convert_bytes_nil W 32 5 Tryd.underlying32 Tryd.underlying5 _ _ 9 Tryd.underlying9
  · have e : bs m = (m.map fun x : UInt8 => (x.toNat : Int)).map (Value.int .u8) := by simp [bs]
    have hl : (loadCells ad m.length).run Tryd.prog W = .ok ((m.map fun x : UInt8 => (x.toNat : Int)).map (Value.int .u8)).toArray W := by
      have := run_loadCells_list (P := Tryd.prog) W ad (bs m) (fun j v hv => by
        have hn : 0 < m.length := by
          have := (List.getElem?_eq_some_iff.1 hv).1
          rw [bs_length] at this; omega
        obtain ⟨ad', h1, _, hc⟩ := h.2 hn
        injection h1 with h1
        subst h1
        exact hc j v hv)
      rw [bs_length] at this
      rw [this, e]
    rw [run_convert_bytes_string W 32 9 5 _ _ _ Tryd.underlying32 Tryd.underlying5 Tryd.underlying9, run_bytesToString W ad m.length c _ hl, foldl_push_bytes]
    congr 2
    unfold str
    congr 1
    apply Array.ext'
    have e2 : (fun n : Int => UInt8.ofNat n.toNat) ∘ (fun x : UInt8 => (x.toNat : Int)) = id := by funext x; simp
    simp [e2]
theorem store_bytes {w : World} {g : Nat} {t : TypeId} {cs : Array Value} {l : List UInt8} (h : Blk w g t cs) (hs : cs.size = l.length) :
    (storeCells ⟨g, 0, none⟩ (bs l)).run Tryd.prog w = .ok () (w.setRow g (bs l).toArray) := by
  have := run_storeCells_from (P := Tryd.prog) g t (bs l) 0 cs w h (by rw [bs_length]; omega) (bs_one l)
  simpa using this
end Go.Proofs.YtbdknncmlcbbpaaDoor

/-
  THE ENCODERS OF PACKAGE wire, each by its contract: appendInt, Int.
-/
namespace Go.Proofs.YtbdknncmlcbbpaaDoor
open Go.RowKit WM


/-- What the loop of appendInt has laid: the cells from f on are the digits. -/
def DLaid (mk : UInt8 → UInt8) (h0 m0 : Nat) (w wr : World) (m f : Nat) : Prop :=
  ∃ ds : List UInt8, digs m0 = digs m ++ ds ∧ f + ds.length = 8 ∧ Below h0 w wr ∧ h0 < wr.heap.size ∧
  ∃ L : List Value, wr.heap[h0]? = some (.cells L.toArray 131 (0, 0)) ∧ L.length = 8 ∧ L.drop f = bs (ds.map mk)

theorem dlaid_start (mk : UInt8 → UInt8) (m0 : Nat) (w : World) :
    DLaid mk w.heap.size m0 w (w.alloc (.cells #[.int .u8 0, .int .u8 0, .int .u8 0, .int .u8 0, .int .u8 0, .int .u8 0, .int .u8 0, .int .u8 0] 131)) m0 8 :=
  ⟨[], by simp, by simp, (Below.refl _ _).alloc (Nat.le_refl _) _, by simp, [.int .u8 0, .int .u8 0, .int .u8 0, .int .u8 0, .int .u8 0, .int .u8 0, .int .u8 0, .int .u8 0], heap_alloc_new w _, rfl, rfl⟩

section
variable {mk : UInt8 → UInt8} {h0 m0 : Nat} {w wr : World} {m f : Nat}
theorem DLaid.pos (h : DLaid mk h0 m0 w wr m f) (hm0 : m0 < 2 ^ 63) (hm : 0 < m) : 1 ≤ f := by
  obtain ⟨ds, h1, h2, _⟩ := h
  have h3 := dig8 m0 hm0
  rw [h1, digs_pos hm] at h3
  simp at h3
  omega
theorem DLaid.cell (h : DLaid mk h0 m0 w wr m f) (k : Nat) (hk : k < 8) : ∃ u, wr.cell? ⟨h0, k, none⟩ = some u ∧ wr.frozen? ⟨h0, k, none⟩ = false := by
  obtain ⟨ds, _, _, _, _, L, h6, h7, _⟩ := h
  exact ⟨L[k]'(by omega), by rw [Blk.cell h6 k]; simp [List.getElem?_eq_getElem (show k < L.length by omega)], Blk.frozen h6 k⟩
theorem DLaid.step (h : DLaid mk h0 m0 w wr m f) (hf : 1 ≤ f) (hm : 0 < m) (x : Value) (hx : x = .int .u8 ((mk (UInt8.ofNat (m % 256))).toNat : Int)) :
    DLaid mk h0 m0 w (wr.setCell ⟨h0, f - 1, none⟩ x) (m / 256) (f - 1) := by
  obtain ⟨ds, h1, h2, h3, h4, L, h6, h7, h8⟩ := h
  refine ⟨UInt8.ofNat (m % 256) :: ds, by rw [h1, digs_pos hm]; simp, by simp; omega, h3.setCell (Nat.le_refl _) _, by simpa [World.setCell] using h4, L.set (f - 1) x, ?_, by simpa using h7, ?_⟩
  · have := Blk.set_ h6 (f - 1) x
    simpa [Blk] using this
  · rw [List.map_cons, bs_cons, ← h8, List.drop_eq_getElem_cons (by simp; omega), List.getElem_set_self, hx]
    congr 1
    rw [List.drop_set_of_lt (by omega)]
    congr 1
    omega
theorem DLaid.done (h : DLaid mk h0 m0 w wr 0 f) : f + (digs m0).length = 8 ∧ Below h0 w wr ∧ h0 < wr.heap.size ∧ ∀ j u, (bs ((digs m0).map mk))[j]? = some u → wr.cell? ⟨h0, f + j, none⟩ = some u := by
  obtain ⟨ds, h1, h2, h3, h4, L, h6, h7, h8⟩ := h
  rw [digs_zero, List.nil_append] at h1
  refine ⟨by rw [h1]; exact h2, h3, h4, fun j u hu => ?_⟩
  rw [h1, ← h8, List.getElem?_drop] at hu
  rw [Blk.cell h6]
  simpa using hu
end

theorem Tryd.len131 : Tryd.prog.arrayLen 131 = 8 := by kernel_rfl
theorem Tryd.elem131 : Tryd.prog.elem 131 = 5 := by kernel_rfl
theorem Tryd.arr131 : Tryd.prog.underlying 131 = some (.array (Tryd.prog.arrayLen 131) (Tryd.prog.elem 131)) := by kernel_rfl
theorem Tryd.siz5 (W : World) : (sizeOf 5).run Tryd.prog W = .ok 1 W := by kernel_rfl
theorem slice66 (h0 f : Nat) (hf : f ≤ 8) : ∃ A : Option Addr, A = (if 8 = f then some ⟨h0, 0, none⟩ else some ⟨h0, f, none⟩) ∧
    ∀ W : World, (Instr.sliceAt 131 (.pointer (some ⟨h0, 0, none⟩)) (some (.int .i64 (f : Int))) none none).run Tryd.prog W = .ok (.slice A (8 - f) (8 - f)) W := by
  refine ⟨_, rfl, fun W => ?_⟩
  rw [run_sliceAt_array_l W 131 ⟨h0, 0, none⟩ Tryd.arr131 .i64 f (by omega) (by rw [Tryd.len131]; omega), Tryd.elem131, Tryd.siz5, Tryd.len131]
  simp [slicedAt, Addr.add]
  by_cases h : 8 = f
  · simp [h]
  · simp [h]
    intro h2; rw [h2]

theorem dig_reads {wr w1 : World} {h0 f : Nat} {o : Obj} {row : Option Nat} {ds : List Value} {A : Option Addr} (h3 : h0 < wr.heap.size) (hc : ∀ j u, ds[j]? = some u → wr.cell? ⟨h0, f + j, none⟩ = some u)
    (hl : ds.length = 8 - f) (hg : (wr.alloc o).grownBy w1 row) (hrow : ∀ k, row = some k → k < h0) (hA : A = (if 8 = f then some ⟨h0, 0, none⟩ else some ⟨h0, f, none⟩)) (_hf : f ≤ 8) : Reads w1 (h0 + 1) 1 A (8 - f) ds := by
  refine ⟨by omega, fun hn => ⟨⟨h0, f, none⟩, by rw [hA, if_neg (by omega)], by simp, fun j u hu => ?_⟩⟩
  have h1 := hc j u hu
  have h2 : (wr.alloc o).cell? ⟨h0, f + j, none⟩ = some u := by rw [World.cell?_alloc_lt _ _ _ (by simpa using h3)]; exact h1
  rw [Addr.add_lit, World.cell?_of_block (hg.block h0 (by simp; omega) (by intro e; have := hrow _ e.symm; omega))]
  exact h2

theorem enc_cells (n f : Nat) (hr : (n : Int) ≤ 9223372036854775807) (h1 : f + (digs n).length ≤ 8) (h2 : 8 ≤ f + (digs n).length) : bs (enc (n : Int)) = .int .u8 (136 - (f : Int)) :: bs ((digs n).map id) := by
  rw [enc_pos (by omega), bs_cons, List.map_id, Int.toNat_natCast]
  congr 2
  rw [UInt8.toNat_ofNat']; omega
theorem enc_size (n f : Nat) (hr : (n : Int) ≤ 9223372036854775807) (h1 : f + (digs n).length ≤ 8) (h2 : 8 ≤ f + (digs n).length) : (enc (n : Int)).length = 1 + (8 - f) := by
  rw [enc_pos (by omega), Int.toNat_natCast]; simp; omega
theorem neg_toNat (n : Nat) : (-1 - (-1 - (n : Int))).toNat = n := by omega
theorem enc_cells_neg (n f : Nat) (hr : (n : Int) ≤ 9223372036854775807) (h1 : f + (digs n).length ≤ 8) (h2 : 8 ≤ f + (digs n).length) : bs (enc (-1 - (n : Int))) = .int .u8 (255 - (136 - (f : Int))) :: bs ((digs n).map flip) := by
  rw [enc_neg (by omega), bs_cons, neg_toNat]
  congr 2
  rw [UInt8.toNat_ofNat']; omega
theorem enc_size_neg (n f : Nat) (hr : (n : Int) ≤ 9223372036854775807) (h1 : f + (digs n).length ≤ 8) (h2 : 8 ≤ f + (digs n).length) : (enc (-1 - (n : Int))).length = 1 + (8 - f) := by
  rw [enc_neg (by omega), neg_toNat]; simp; omega


theorem app_end {B len : Nat} {xs ds es : List Value} {v v1 v2 : Value} {w wr w1 w2 : World} {o : Obj} {x : Value} {f n : Nat} (hB : B ≤ w.heap.size) (hb : Below w.heap.size w wr) (hv : ∀ k, v.ownBlock = some k → B ≤ k ∧ k < w.heap.size)
    (h1 : w1.ownsRow B 5 1 v1 (len + 1) (xs ++ [x])) (g1 : (wr.alloc o).grownBy w1 v.ownBlock) (h2 : w2.ownsRow B 5 1 v2 (len + 1 + (8 - f)) (xs ++ [x] ++ ds)) (g2 : w1.grownBy w2 v1.ownBlock) (he : es = x :: ds) (hn : n = 1 + (8 - f)) :
    w2.ownsRow B 5 1 v2 (len + n) (xs ++ es) ∧ Below B w w2 := by
  subst he hn
  have hs := hb.size
  have hs1 := g1.size
  simp only [World.size_alloc] at hs1
  refine ⟨by simpa [Nat.add_assoc] using h2, ?_⟩
  have c1 : Below B w (wr.alloc o) := (hb.mono hB).alloc (by omega) o
  have c2 : Below B w w1 := c1.grown g1 (by simp; omega) (fun k hk => (hv k hk).1)
  exact c2.grown g2 (by omega) (fun k hk => (h1.lt k hk).1)

set_option maxHeartbeats 400000 in
theorem appIntP (B : Nat) (v : Value) (len : Nat) (xs : List Value) (n : Nat) (w : World) (hown : w.ownsRow B 5 1 v len xs) (hB : B ≤ w.heap.size) (hr : (n : Int) ≤ 9223372036854775807) (hlen : len ≤ 140737488000000) :
    Calls Tryd.prog 66 #[v, .int .i64 (n : Int)] w fun e w' => ∃ v', e = .returned v' ∧ w'.ownsRow B 5 1 v' (len + (enc (n : Int)).length) (xs ++ bs (enc (n : Int))) ∧ Below B w w' := by
  have hn : decide ((n : Int) < 0) = false := by simp
  go_enter Tryd.func66, Tryd.ntmps66
  go_wp2
  go_step3
  go_wp2
  go_step3
  go_wp2
  go_loopw [5, 8] (fun a b wr => ∃ (m f : Nat), a = .int .u64 m ∧ b = .int .i64 f ∧ f ≤ 8 ∧ m < 18446744073709551616 ∧ DLaid id w.heap.size n w wr m f) (fun a _ _ => (intOf a).toNat)
  case atStart => exact ⟨n, 8, rfl, rfl, by omega, by omega, dlaid_start _ _ _⟩
  case round =>
    obtain ⟨m, f, rfl, rfl, hf8, hm64, hl⟩ := hrel
    by_cases hm : m = 0
    · subst hm
      obtain ⟨hd1, hd2, hd3, hd4⟩ := hl.done
      have hd5 := hd2.size
      have HO := Lib.hid (ownsRow_below hown hd2)
      have HC := Lib.hid hd4
      have HB := Lib.hid hd2
      have HV := Lib.hid hown.lt
      obtain ⟨A, hA, hsl⟩ := slice66 w.heap.size f hf8
      have HA := Lib.hid hA
      clear hA
      have hd6 : f + (digs n).length ≤ 8 := by omega
      have hd7 : 8 ≤ f + (digs n).length := by omega
      clear hl hd1 hd2 hd4 hown
      obtain ⟨i0, hi, hz0, hz1, hz2⟩ := info_parts Tryd.info5
      have hx0 : bits .xor .u8 (136 - (f : Int)) 0 = (136 - (f : Int)) := xor0 _ (by omega) (by omega)
      go_wp2_with (first
        | (at_builtin; refine wpList_append_own _ rfl (.tmp 29) (.tmp 35) 32 rfl B 5 i0 (.int .u8 0) 1 1 Tryd.underlying32 hi hz0 hz1 hz2 rfl (by decide) v len xs rfl (HO.out.alloc _) ⟨wr.heap.size, 0, none⟩ 1 1 [.int .u8 ((136 - (f : Int)))] rfl rfl (one_new _ _ _) (int_one _ _) (len_le (by omega)) (by omega) (by simp; omega) ?_; intro v1 w1 hown1 hgrow1 _; have HO1 := Lib.hid hown1; have HG1 := Lib.hid hgrow1; have HS1 := Lib.hid (size_after hgrow1 (show B ≤ wr.heap.size by omega)); clear hown1 hgrow1)
        | (at_builtin; refine wpList_append_any _ rfl (.tmp 37) (.tmp 39) _ rfl B 5 i0 (.int .u8 0) 1 1 Tryd.underlying32 hi hz0 hz1 hz2 rfl (by omega) v1 (len + 1) (xs ++ [.int .u8 ((136 - (f : Int)))]) rfl HO1.out (w.heap.size + 1) A (8 - f) (8 - f) (bs ((digs n).map id)) rfl (dig_reads hd3 HC.out (by simp [bs_length]; omega) HG1.out (fun k hk => (HV.out k hk).2) HA.out hf8) (bs_one _) (len_le (by omega)) (by omega) HS1.out ?_; intro v2 w2 hown2 hgrow2 hat2; have HO2 := Lib.hid hown2; have HG2 := Lib.hid hgrow2; clear hown2 hgrow2 hat2))
      rw [Exit.noGoto_ret]
      go_ret
      exact ⟨v2, rfl, app_end hB HB.out HV.out HO1.out HG1.out HO2.out HG2.out (enc_cells n f hr hd6 hd7) (enc_size n f hr hd6 hd7)⟩
    · have hf1 := hl.pos (by omega) (by omega)
      have hm' : ((m : Int) == 0) = false := by simp; omega
      obtain ⟨u, hcell, hfree⟩ := hl.cell (f - 1) (by omega)
      have hx : bits .xor .u8 ((m : Int) % 256) 0 = (m : Int) % 256 := xor0 _ (by omega) (by omega)
      have hs := hl.step hf1 (by omega) (.int .u8 ((m : Int) % 256)) (by simp)
      have HS := Lib.hid hs
      clear hs hl
      go_wp2
      go_roundw
      case rel => exact ⟨m / 256, f - 1, by go_num, by go_num, by omega, by omega, HS.out⟩
      case measure => simp [intOf]; omega

set_option maxHeartbeats 400000 in
theorem appIntN (B : Nat) (v : Value) (len : Nat) (xs : List Value) (n : Nat) (w : World) (hown : w.ownsRow B 5 1 v len xs) (hB : B ≤ w.heap.size) (hr : (n : Int) ≤ 9223372036854775807) (hlen : len ≤ 140737488000000) :
    Calls Tryd.prog 66 #[v, .int .i64 (-1 - (n : Int))] w fun e w' => ∃ v', e = .returned v' ∧ w'.ownsRow B 5 1 v' (len + (enc (-1 - (n : Int))).length) (xs ++ bs (enc (-1 - (n : Int)))) ∧ Below B w w' := by
  have hn : decide ((-1 - (n : Int)) < 0) = true := by simp; omega
  go_enter Tryd.func66, Tryd.ntmps66
  go_wp2
  go_step3
  go_wp2
  go_step3
  go_wp2
  go_loopw [5, 8] (fun a b wr => ∃ (m f : Nat), a = .int .u64 m ∧ b = .int .i64 f ∧ f ≤ 8 ∧ m < 18446744073709551616 ∧ DLaid flip w.heap.size n w wr m f) (fun a _ _ => (intOf a).toNat)
  case atStart => exact ⟨n, 8, by go_num, rfl, by omega, by omega, dlaid_start _ _ _⟩
  case round =>
    obtain ⟨m, f, rfl, rfl, hf8, hm64, hl⟩ := hrel
    by_cases hm : m = 0
    · subst hm
      obtain ⟨hd1, hd2, hd3, hd4⟩ := hl.done
      have hd5 := hd2.size
      have HO := Lib.hid (ownsRow_below hown hd2)
      have HC := Lib.hid hd4
      have HB := Lib.hid hd2
      have HV := Lib.hid hown.lt
      obtain ⟨A, hA, hsl⟩ := slice66 w.heap.size f hf8
      have HA := Lib.hid hA
      clear hA
      have hd6 : f + (digs n).length ≤ 8 := by omega
      have hd7 : 8 ≤ f + (digs n).length := by omega
      clear hl hd1 hd2 hd4 hown
      obtain ⟨i0, hi, hz0, hz1, hz2⟩ := info_parts Tryd.info5
      have hx0 : bits .xor .u8 (136 - (f : Int)) 255 = 255 - (136 - (f : Int)) := xor255 _ (by omega) (by omega)
      go_wp2_with (first
        | (at_builtin; refine wpList_append_own _ rfl (.tmp 29) (.tmp 35) 32 rfl B 5 i0 (.int .u8 0) 1 1 Tryd.underlying32 hi hz0 hz1 hz2 rfl (by decide) v len xs rfl (HO.out.alloc _) ⟨wr.heap.size, 0, none⟩ 1 1 [.int .u8 (255 - (136 - (f : Int)))] rfl rfl (one_new _ _ _) (int_one _ _) (len_le (by omega)) (by omega) (by simp; omega) ?_; intro v1 w1 hown1 hgrow1 _; have HO1 := Lib.hid hown1; have HG1 := Lib.hid hgrow1; have HS1 := Lib.hid (size_after hgrow1 (show B ≤ wr.heap.size by omega)); clear hown1 hgrow1)
        | (at_builtin; refine wpList_append_any _ rfl (.tmp 37) (.tmp 39) _ rfl B 5 i0 (.int .u8 0) 1 1 Tryd.underlying32 hi hz0 hz1 hz2 rfl (by omega) v1 (len + 1) (xs ++ [.int .u8 (255 - (136 - (f : Int)))]) rfl HO1.out (w.heap.size + 1) A (8 - f) (8 - f) (bs ((digs n).map flip)) rfl (dig_reads hd3 HC.out (by simp [bs_length]; omega) HG1.out (fun k hk => (HV.out k hk).2) HA.out hf8) (bs_one _) (len_le (by omega)) (by omega) HS1.out ?_; intro v2 w2 hown2 hgrow2 hat2; have HO2 := Lib.hid hown2; have HG2 := Lib.hid hgrow2; clear hown2 hgrow2 hat2))
      rw [Exit.noGoto_ret]
      go_ret
      exact ⟨v2, rfl, app_end hB HB.out HV.out HO1.out HG1.out HO2.out HG2.out (enc_cells_neg n f hr hd6 hd7) (enc_size_neg n f hr hd6 hd7)⟩
    · have hf1 := hl.pos (by omega) (by omega)
      have hm' : ((m : Int) == 0) = false := by simp; omega
      obtain ⟨u, hcell, hfree⟩ := hl.cell (f - 1) (by omega)
      have hx : bits .xor .u8 ((m : Int) % 256) 255 = 255 - (m : Int) % 256 := xor255 _ (by omega) (by omega)
      have hs := hl.step hf1 (by omega) (.int .u8 (255 - (m : Int) % 256)) (by simp [flip_toNat]; omega)
      have HS := Lib.hid hs
      clear hs hl
      go_wp2
      go_roundw
      case rel => exact ⟨m / 256, f - 1, by go_num, by go_num, by omega, by omega, HS.out⟩
      case measure => simp [intOf]; omega

theorem appInt (B : Nat) (v : Value) (len : Nat) (xs : List Value) (n : Int) (w : World) (hown : w.ownsRow B 5 1 v len xs) (hB : B ≤ w.heap.size) (hr : inRange n) (hlen : len ≤ 140737488000000) :
    Calls Tryd.prog 66 #[v, .int .i64 n] w fun e w' => ∃ v', e = .returned v' ∧ w'.ownsRow B 5 1 v' (len + (enc n).length) (xs ++ bs (enc n)) ∧ Below B w w' := by
  obtain ⟨h1, h2⟩ := hr
  by_cases h : 0 ≤ n
  · obtain ⟨m, rfl⟩ := Int.eq_ofNat_of_zero_le h
    exact appIntP B v len xs m w hown hB h2 hlen
  · obtain ⟨m, hm⟩ : ∃ m : Nat, n = -1 - (m : Int) := ⟨(-1 - n).toNat, by omega⟩
    subst hm
    exact appIntN B v len xs m w hown hB (by omega) hlen

/-- A slice value that the call has made: its cells, and that what was there before it is as it was. -/
theorem own_form {w : World} {B : Nat} {e : TypeId} {size : Nat} {v : Value} {n : Nat} {xs : List Value} (h : w.ownsRow B e size v n xs) : ∃ A c, v = .slice A n c ∧ n ≤ c := by
  rcases h.2 with ⟨rfl, rfl⟩ | ⟨g, cap, cur, rfl, _, _, h, _⟩
  · exact ⟨none, 0, rfl, Nat.le_refl _⟩
  · exact ⟨_, cap, rfl, h⟩

theorem encB_cells (s : ByteArray) (xs : List Value) : xs ++ bs (enc (s.size : Int)) ++ Lib.strCells s = xs ++ bs (encB s.data.toList) := by
  rw [strCells_eq]; unfold encB; rw [bs_append, List.append_assoc]; simp
theorem encB_size (s : ByteArray) (len : Nat) : len + (enc (s.size : Int)).length + s.size = len + (encB s.data.toList).length := by
  unfold encB; simp; omega

set_option maxHeartbeats 400000 in
theorem appBytes (B : Nat) (v : Value) (len : Nat) (xs : List Value) (s : ByteArray) (w : World) (hown : w.ownsRow B 5 1 v len xs) (hB : B ≤ w.heap.size) (hlen : len + s.size ≤ 140737487999900) :
    Calls Tryd.prog 73 #[v, .string s] w fun e w' => ∃ v', e = .returned v' ∧ w'.ownsRow B 5 1 v' (len + (encB s.data.toList).length) (xs ++ bs (encB s.data.toList)) ∧ Below B w w' := by
  have hr : inRange (s.size : Int) := ⟨by omega, by omega⟩
  have h9 := (enc_len hr).2
  obtain ⟨i0, hi, hz0, hz1, hz2⟩ := info_parts Tryd.info5
  go_enter Tryd.func73, Tryd.ntmps73
  go_wp2_with (first
    | (go_at_call 66; refine (appInt B v len xs _ _ hown hB hr (by omega)).mono ?_; rintro e w1 ⟨v1, rfl, hown1, hb1⟩; have HO1 := Lib.hid hown1; have HB1 := Lib.hid hb1; have hs1 := hb1.size; clear hown1 hb1)
    | (at_builtin; refine Lib.wpList_append_own_string _ rfl (.tmp 8) (.tmp 9) 32 9 rfl B 5 i0 Tryd.underlying32 Tryd.underlying9 hi hz0 hz1 hz2 v1 _ _ rfl HO1.out s rfl (len_le (by omega)) (by omega) (by omega) ?_; intro v2 w2 hown2 hgrow2 _; have HO2 := Lib.hid hown2; have HG2 := Lib.hid hgrow2; clear hown2 hgrow2))
  go_ret
  have h2 := HO2.out
  rw [encB_cells, encB_size] at h2
  exact ⟨v2, rfl, h2, HB1.out.grown HG2.out (by omega) (fun k hk => (HO1.out.lt k hk).1)⟩

theorem encBytes (s : ByteArray) (w : World) (hs : s.size ≤ 140737487999900) :
    Calls Tryd.prog 56 #[.string s] w fun e w' => ∃ A c, e = .returned (.slice A (encB s.data.toList).length c) ∧ w'.ownsRow w.heap.size 5 1 (.slice A (encB s.data.toList).length c) (encB s.data.toList).length (bs (encB s.data.toList)) ∧ Below w.heap.size w w' := by
  go_enter Tryd.func56, Tryd.ntmps56
  go_wp2_with (go_at_call 73; refine (appBytes w.heap.size _ 0 [] s _ (World.ownsRow_nil _ _ _ _) (Nat.le_refl _) (by omega)).mono ?_; rintro e w' ⟨v', rfl, hown, hb⟩; have HO := Lib.hid (own_nil hown); have HB := Lib.hid hb; clear hown hb)
  go_ret
  have h1 := HO.out
  obtain ⟨A, c, rfl, _⟩ := own_form h1
  exact ⟨A, c, rfl, h1, HB.out⟩
end Go.Proofs.YtbdknncmlcbbpaaDoor
