/-
  BOTH LISTED TABLES, opened: the round constants of package hash and the effects of package code.
-/
import Derived.Test.YtbdknncmlcbbpaaDoorG07
import Derived.Test.YtbdknncmlcbbpaaDoorG25
import Derived.Test.YtbdknncmlcbbpaaDoorG23
import Derived.Laws.IdiomStrings
set_option linter.unusedVariables false
namespace Go.Proofs.YtbdknncmlcbbpaaDoor
open Go.ChangeShapes Go.WideShapes Go.ChangeAt Go.RowKit WM

def kDataE {H : Type} : DataW H := .agg (kTab.map fun k => .lit (.int .u32 (k.toNat : Int)))
theorem rounds_isE : (Rows.laid_scoria_hash_rounds : DataW Unit) = kDataE := by kernel_rfl
theorem Tryd.cells83 : Tryd.prog.cellsOf 83 = 1 := by kernel_rfl

section
variable {H : Type} {enc : TypeId × Value → H} {w : World} {base : Nat} {spare : Nat → Bool} {held : Bool}
theorem table_atE {fuel : Nat} {cs : List Value} {x : DataW H × List MemPlace} (h : DataW.trod enc Tryd.prog w base spare held fuel 137 cs = some x) (hx : x.1 = kDataE) (t : Nat) (ht : t < 64) : cs[t]? = some (W32 (kTab.getD t 0#32)) := by
  obtain ⟨xs, m, _, rfl, _, hn, hel⟩ := DataW.trod_array Tryd.underlying137 h
  have he := hel t ht
  rw [Tryd.cells83, Nat.mul_one] at he
  have hxt : t < xs.length := by omega
  rw [List.getElem?_eq_getElem hxt] at he
  obtain ⟨k, e1, e2, _⟩ := DataW.trod_int Tryd.underlying83 he
  have hk64 : t < kTab.length := ht
  have h2 : (xs.map (·.1))[t]? = (kTab.map fun k => (DataW.lit (.int .u32 (k.toNat : Int)) : DataW H))[t]? := by
    have : DataW.agg (xs.map (·.1)) = kDataE := hx
    unfold kDataE at this
    injection this with this
    rw [this]
  rw [List.getElem?_map, List.getElem?_map, List.getElem?_eq_getElem hxt, List.getElem?_eq_getElem hk64, Option.map_some, Option.map_some, e2] at h2
  simp only [Option.some.injEq, DataW.lit.injEq, Lit.int.injEq, true_and] at h2
  have h3 : cs[t]? = some (.int .u32 k) := by
    have h4 : ((cs.drop t).take 1)[0]? = some (.int .u32 k) := by rw [e1]; rfl
    simpa using h4
  rw [h3, h2]
  congr 3
  rw [List.getD_eq_getElem?_getD, List.getElem?_eq_getElem hk64]; rfl
end

theorem gRoundsE : Tryd.prog.globalNamed "scoria/hash.rounds" = some 1 := by kernel_rfl
theorem tRoundsE : (Tryd.prog.globals[1]?).map (·.type) = some 137 := by kernel_rfl
def laidEffs : List (String × DataW Unit) := [("scoria/hash.rounds", Rows.laid_scoria_hash_rounds), ("scoria/code.effects", Rows.laid_scoria_code_effects)]
theorem of_effs {W : World} (h : laidMetH Tryd.prog laidEffs W) : KT 1 W ∧ ET W := by
  rw [MakeChecks.laidMetH_plain _ _ _ (by kernel_rfl)] at h
  obtain ⟨ps, ⟨g0, t0, cs0, f0, p0, q0, hg0, ht0, hv0, hd0, ⟨g1, t1, cs1, f1, p1, q1, hg1, ht1, hv1, hd1, _, _⟩, _⟩, _, _⟩ := h
  obtain rfl := Option.some.inj (gRoundsE.symm.trans hg0)
  obtain rfl := Option.some.inj (gEff.symm.trans hg1)
  obtain rfl := Option.some.inj (tRoundsE.symm.trans ht0)
  obtain rfl := Option.some.inj (tEff.symm.trans ht1)
  exact ⟨fun t ht => (World.var?_cell hg0 hv0 t).trans (by simpa using table_atE hd0 rounds_isE t ht), fun t r hr i x hx => (World.var?_cell hg1 hv1 (t * 4 + i)).trans (by simpa using effs_of hd1 effects_is t r hr i x hx)⟩
/-- The door's own heap meets the condition. -/
theorem door_effs (os : Os) (args : Array Value) : laidMetH Tryd.prog laidEffs ((World.doorLaid Tryd.prog 200 os).forCall (fun _ _ => 0) ⟨#[], args, []⟩).memory :=
  laidMetH_of_parts3 (fuel := 8) (laidMet_of_run' 8 (by kernel_rfl) (by kernel_rfl)) (by kernel_rfl) (by kernel_rfl)
end Go.Proofs.YtbdknncmlcbbpaaDoor

/-
  ALL THREE LISTED TABLES, opened: the round constants of package hash and of its reference, and the effects of package code.
-/
namespace Go.Proofs.YtbdknncmlcbbpaaDoor
open Go.ChangeShapes Go.WideShapes Go.ChangeAt Go.RowKit WM

theorem constants_isE : (Rows.laid_scoria_scoriaref02_constants : DataW Unit) = kDataE := by kernel_rfl
theorem gConstE : Tryd.prog.globalNamed "scoria/scoriaref02.constants" = some 2 := by kernel_rfl
theorem tConstE : (Tryd.prog.globals[2]?).map (·.type) = some 137 := by kernel_rfl
def laidEff3 : List (String × DataW Unit) := [("scoria/scoriaref02.constants", Rows.laid_scoria_scoriaref02_constants), ("scoria/hash.rounds", Rows.laid_scoria_hash_rounds), ("scoria/code.effects", Rows.laid_scoria_code_effects)]
theorem of_eff3 {W : World} (h : laidMetH Tryd.prog laidEff3 W) : KT 1 W ∧ KT 2 W ∧ ET W := by
  rw [MakeChecks.laidMetH_plain _ _ _ (by kernel_rfl)] at h
  obtain ⟨ps, ⟨g2, t2, cs2, f2, p2, q2, hg2, ht2, hv2, hd2, ⟨g0, t0, cs0, f0, p0, q0, hg0, ht0, hv0, hd0, ⟨g1, t1, cs1, f1, p1, q1, hg1, ht1, hv1, hd1, _, _⟩, _⟩, _⟩, _, _⟩ := h
  obtain rfl := Option.some.inj (gRoundsE.symm.trans hg0)
  obtain rfl := Option.some.inj (gConstE.symm.trans hg2)
  obtain rfl := Option.some.inj (gEff.symm.trans hg1)
  obtain rfl := Option.some.inj (tRoundsE.symm.trans ht0)
  obtain rfl := Option.some.inj (tConstE.symm.trans ht2)
  obtain rfl := Option.some.inj (tEff.symm.trans ht1)
  exact ⟨fun t ht => (World.var?_cell hg0 hv0 t).trans (by simpa using table_atE hd0 rounds_isE t ht), fun t ht => (World.var?_cell hg2 hv2 t).trans (by simpa using table_atE hd2 constants_isE t ht), fun t r hr i x hx => (World.var?_cell hg1 hv1 (t * 4 + i)).trans (by simpa using effs_of hd1 effects_is t r hr i x hx)⟩
/-- The door's own heap meets the condition. -/
theorem door_eff3 (os : Os) (args : Array Value) : laidMetH Tryd.prog laidEff3 ((World.doorLaid Tryd.prog 200 os).forCall (fun _ _ => 0) ⟨#[], args, []⟩).memory :=
  laidMetH_of_parts3 (fuel := 8) (laidMet_of_run' 8 (by kernel_rfl) (by kernel_rfl)) (by kernel_rfl) (by kernel_rfl)
end Go.Proofs.YtbdknncmlcbbpaaDoor

/-
  A SLICE OF BYTES THAT CAME IN, opened (where the seat has no strings for arguments).
-/
namespace Go.Proofs.YtbdknncmlcbbpaaDoor
open Go.ChangeShapes Go.WideShapes Go.ChangeAt Go.RowKit WM
set_option maxRecDepth 100000

section
variable {H : Type} {enc : TypeId × Value → H} {w : World} {base b0 : Nat} {spare : Nat → Bool} {held : Bool} {v : Value} {d : DataW H} {ps : List MemPlace} {r : Reach}

theorem op_bytes {t : TypeId} (ht : Tryd.prog.underlying t = some (.slice 5)) (hv : Value.okWide Tryd.prog w r b0 t v) (hd : DataW.Trod enc Tryd.prog w base (fun _ => true) held t v d ps) :
    ∃ (A : Option Addr) (l : List UInt8) (cap : Nat), v = .slice A l.length cap ∧ l.length ≤ cap ∧ l.length ≤ 9223372036854775807 ∧ Reads w w.heap.size 1 A l.length (bs l) := by
  obtain ⟨A, len, cap, rfl⟩ := okWide_slice ht hv
  have : ∃ zs, IsRow .u8 w A len cap zs := by
    obtain ⟨fuel, hf⟩ := hd
    rcases open_ints ht Tryd.underlying5 (by kernel_rfl) hf with ⟨hcs, _⟩ | ⟨x, l, c, zs, hcs, _, hl, hm, hz, _, hcell, hwz⟩
    · simp [Value.cells] at hcs
      obtain ⟨rfl, rfl, rfl⟩ := hcs
      exact ⟨[], .inl ⟨rfl, rfl, rfl, rfl⟩⟩
    · simp [Value.cells] at hcs
      obtain ⟨rfl, rfl, rfl⟩ := hcs
      exact ⟨zs, .inr ⟨_, rfl, hl, hm, by simpa using hz, hcell, hwz⟩⟩
  obtain ⟨zs, hz⟩ := this
  obtain ⟨l, rfl, h1, h2, h3⟩ := row_bytes hz
  exact ⟨A, l, cap, rfl, h1, h2, h3⟩
theorem u8_of {n : Int} (h : (Lit.int .u8 n).wf = true) : ∃ c : UInt8, n = (c.toNat : Int) := by
  have hb : 0 ≤ n ∧ n < 256 := by simp [Lit.wf, IntKind.min, IntKind.max, IntKind.bits, IntKind.signed] at h; omega
  exact ⟨UInt8.ofNat n.toNat, by rw [UInt8.toNat_ofNat']; omega⟩
theorem op_u8 {t : TypeId} (ht : Tryd.prog.underlying t = some (.int .u8)) (hv : Value.okWide Tryd.prog w r b0 t v) (hd : DataW.Trod enc Tryd.prog w base spare held t v d ps) : ∃ c : UInt8, v = .int .u8 (c.toNat : Int) := by
  obtain ⟨n, rfl, rfl, rfl, hw⟩ := open_int ht hv hd
  obtain ⟨c, rfl⟩ := u8_of hw
  exact ⟨c, rfl⟩
end
end Go.Proofs.YtbdknncmlcbbpaaDoor

/-
  ROWS of bytes that a call makes.
-/
namespace Go.Proofs.YtbdknncmlcbbpaaDoor
open Go.RowKit

theorem Tryd.info5 : (Tryd.prog.info? 5).map (fun i => (i.zero, i.size, i.bytes)) = some (some (.int .u8 0), 1, 1) := by kernel_rfl
theorem strCells_eq (s : ByteArray) : Lib.strCells s = bs s.data.toList := rfl
theorem own_push {w : World} {B : Nat} {v : Value} {l : List UInt8} {x : Int} {c : UInt8} (h : w.ownsRow B 5 1 v (l.length + 1) (bs l ++ [.int .u8 x])) (hx : x = (c.toNat : Int)) : w.ownsRow B 5 1 v (l ++ [c]).length (bs (l ++ [c])) := by
  subst hx
  rw [bs_append, List.length_append]
  exact h
theorem own_next {w : World} {B : Nat} {v : Value} {p q r : List UInt8} (h : w.ownsRow B 5 1 v (p.length + q.length) (bs p ++ bs q)) (e : r = p ++ q) : w.ownsRow B 5 1 v r.length (bs r) := by
  rw [← bs_append, ← List.length_append] at h
  subst e; exact h
/-- '[]byte(s)' -/
theorem wpList_bytes_of {ops : Array Oper} {rest : List Oper} {o : Oper} {a : Act} {w : World} {Q : Exit → Act → World → Prop} (hgd : o.guard = none) (x : Operand) (ho : o.op = .convert 9 32 x) (s : ByteArray) (hx : a.eval x = .string s)
    (h : ∀ A c w', Reads w' w'.heap.size 1 A s.size (bs s.data.toList) → Below w.heap.size w w' → wpList Tryd.prog ops Q rest (a.put o.dst (.slice A s.size c)) w') : wpList Tryd.prog ops Q (o :: rest) a w := by
  refine wpList_plain hgd fun K hK => ?_
  have hr := run_bytes_of_string (P := Tryd.prog) w 9 32 5 s Tryd.underlying9 Tryd.underlying32 Tryd.underlying5
  unfold Oper.wp execOp
  simp only [ho, hx, Sem.run_bind, hr, Result.andThen_ok]
  refine hK _ _ (h _ _ _ ⟨by simp [bs_length], fun hn => ⟨_, rfl, ?_, fun j u hu => ?_⟩⟩ ?_)
  · rw [World.size_alloc]
    show w.heap.size < w.heap.size + 1
    omega
  · have hj : j < s.data.size := by
      have := (List.getElem?_eq_some_iff.1 hu).1
      rw [bs_length] at this; simpa using this
    rw [Addr.add_lit, Nat.zero_add]
    have h1 := World.cell?_alloc_mark w.drew (bytesRow s (grownCap w s.size 0 5)) 5 ((bytesRow s (grownCap w s.size 0 5)).size, (bytesRow s (grownCap w s.size 0 5)).size + 1) j
    refine Eq.trans h1 ?_
    rw [bytesRow_at s _ j hj, ← hu, bs_get _ j (by simpa using hj)]
    simp
  · exact ((Below.refl w.heap.size w).drew).alloc (Nat.le_refl _) _
end Go.Proofs.YtbdknncmlcbbpaaDoor

/-
  The padded message, as plain mathematics.
-/
namespace Go.Proofs.YtbdknncmlcbbpaaDoor

theorem zeros_end (n : Nat) : (n + 1 + zeros n) % 64 = 56 := by unfold zeros; omega
theorem zeros_least (n j : Nat) (h : j < zeros n) : (n + 1 + j) % 64 ≠ 56 := by unfold zeros at h; omega
theorem zeros_lt (n : Nat) : zeros n < 64 := by unfold zeros; omega
theorem len8_length (n : Nat) : (len8 n).length = 8 := rfl
theorem pad_length (m : List UInt8) : (pad m).length = m.length + 1 + zeros m.length + 8 := by
  simp [pad, len8_length]; omega
theorem pad_blocks (m : List UInt8) : (pad m).length = 64 * ((pad m).length / 64) := by
  have h := zeros_end m.length
  rw [pad_length]; omega
/-- The message, the byte 128, and j zeros. -/
def padTo (m : List UInt8) (j : Nat) : List UInt8 := m ++ 128 :: List.replicate j 0
theorem padTo_length (m : List UInt8) (j : Nat) : (padTo m j).length = m.length + 1 + j := by simp [padTo]; omega
theorem padTo_succ (m : List UInt8) (j : Nat) : padTo m (j + 1) = padTo m j ++ [0] := by
  simp [padTo, List.replicate_succ']
theorem pad_eq (m : List UInt8) : pad m = padTo m (zeros m.length) ++ len8 (8 * m.length) := by simp [pad, padTo]
theorem len8_get (n i : Nat) (h : i < 8) : (len8 n)[i]'(by rw [len8_length]; exact h) = UInt8.ofNat (n / 2 ^ (56 - 8 * i)) := by
  have : i = 0 ∨ i = 1 ∨ i = 2 ∨ i = 3 ∨ i = 4 ∨ i = 5 ∨ i = 6 ∨ i = 7 := by omega
  rcases this with rfl | rfl | rfl | rfl | rfl | rfl | rfl | rfl <;> simp [len8]
theorem len8_succ (n i : Nat) (h : i < 8) : (len8 n).take (i + 1) = (len8 n).take i ++ [UInt8.ofNat (n / 2 ^ (56 - 8 * i))] := by
  rw [List.take_succ_eq_append_getElem (by rw [len8_length]; exact h), len8_get n i h]
theorem byte_val (n : Nat) : ((UInt8.ofNat n).toNat : Int) = (n : Int) % 256 := by
  rw [UInt8.toNat_ofNat']; omega
end Go.Proofs.YtbdknncmlcbbpaaDoor

/-
  scoriaref02.padded.
-/
namespace Go.Proofs.YtbdknncmlcbbpaaDoor
open Go.RowKit

set_option maxHeartbeats 1000000 in
set_option maxRecDepth 100000 in
theorem padded (A : Option Addr) (m : List UInt8) (c : Nat) (w : World) (ha : Reads w w.heap.size 1 A m.length (bs m)) (hm : m.length ≤ 1099511627776) :
    Calls Tryd.prog 90 #[.slice A m.length c] w fun e w' => ∃ v, e = .returned v ∧ w'.ownsRow w.heap.size 5 1 v (pad m).length (bs (pad m)) ∧ Below w.heap.size w w' := by
  obtain ⟨i0, hi, hz0, hz1, hz2⟩ := info_parts Tryd.info5
  have HA := Lib.hid ha
  clear ha
  have h0 : (w.alloc (.cells #[] 5)).ownsRow w.heap.size 5 1 (.slice (some ⟨w.heap.size, 0, none⟩) 0 0) 0 [] := World.ownsRow_lit w #[] 0 (Nat.le_refl _) (len_le (by omega)) rfl
  have H0 := Lib.hid h0
  clear h0
  go_enter Tryd.func90, Tryd.ntmps90
  go_wp2_with (first
    | (at_builtin; refine wpList_append_any _ rfl (.tmp 6) (.tmp 7) _ rfl w.heap.size 5 i0 (.int .u8 0) 1 1 Tryd.underlying32 hi hz0 hz1 hz2 rfl (by omega) _ _ _ rfl H0.out w.heap.size A m.length c (bs m) rfl (HA.out.below (below_new w _)) (bs_one _) (len_le (by omega)) (by omega) (by simp) ?_; intro v1 w1 hown1 hgrow1 _; have HO1 := Lib.hid (own_nil hown1); have HB1 := Lib.hid ((below_new w _).grown hgrow1 (by simp) (fun k hk => (H0.out.lt k hk).1)); clear hown1 hgrow1)
    | (at_builtin; refine wpList_append_own _ rfl (.tmp 9) (.tmp 10) 32 rfl w.heap.size 5 i0 (.int .u8 0) 1 1 Tryd.underlying32 hi hz0 hz1 hz2 rfl (by decide) _ _ _ rfl (HO1.out.alloc _) ⟨w1.heap.size, 0, none⟩ 1 1 [.int .u8 128] rfl rfl (one_new _ _ _) (int_one _ _) (len_le (by omega)) (by omega) (by have := HB1.out.size; simp; omega) ?_; intro v2 w2 hown2 hgrow2 _; have HO2 := Lib.hid hown2; have HB2 := Lib.hid ((HB1.out.alloc HB1.out.size _).grown hgrow2 (by have := HB1.out.size; simp; omega) (fun k hk => (HO1.out.lt k hk).1)); clear hown2 hgrow2))
  have e2 : w2.ownsRow w.heap.size 5 1 v2 (padTo m 0).length (bs (padTo m 0)) := own_next (p := m) (q := [128]) HO2.out (by simp [padTo])
  have HE2 := Lib.hid e2
  clear e2 HO1 HB1 HO2
  go_loopw [3] (fun a wr => ∃ j : Nat, j ≤ zeros m.length ∧ Hid (wr.ownsRow w.heap.size 5 1 a (padTo m j).length (bs (padTo m j))) ∧ Hid (Below w.heap.size w wr)) (fun a _ => m.length + 1 + zeros m.length - lenOf a)
  case atStart => exact ⟨0, Nat.zero_le _, HE2, HB2⟩
  case round =>
    clear HE2 HB2
    rename_i v0
    obtain ⟨j, hj, HO, HB⟩ := hrel
    have hz := zeros_lt m.length
    have hpl := padTo_length m j
    obtain ⟨A2, c2, hv, hc2⟩ := own_len HO.out
    subst hv
    obtain ⟨k, hk⟩ : ∃ k, k = (padTo m j).length := ⟨_, rfl⟩
    have hkk : k = m.length + 1 + j := by omega
    have HK := Lib.hid hk
    have hs3 := HB.out.size
    have h56 := zeros_least m.length j
    have h57 := zeros_end m.length
    rw [← hk] at HO hc2 ⊢
    by_cases hlt : j < zeros m.length
    · have hne : ((k : Int) % 64 == 56) = false := by
        have := h56 hlt
        simp; omega
      have hne2 : ((k : Int) % 64 != 56) = true := by
        have := h56 hlt
        simp; omega
      have hkl : k ≤ 2199023255552 := by omega
      have HKK := Lib.hid hkk
      clear h56 h57 hk hkk hpl
      go_wp2_with (at_builtin; refine wpList_append_own _ rfl (.tmp 16) (.tmp 17) 32 rfl w.heap.size 5 i0 (.int .u8 0) 1 1 Tryd.underlying32 hi hz0 hz1 hz2 rfl (by decide) _ _ _ rfl (HO.out.alloc _) ⟨wr.heap.size, 0, none⟩ 1 1 [.int .u8 0] rfl rfl (one_new _ _ _) (int_one _ _) (len_le (by omega)) (by omega) (by simp; omega) ?_; intro v4 w4 hown4 hgrow4 _; have HO4 := Lib.hid hown4; have HB4 := Lib.hid ((HB.out.alloc hs3 _).grown hgrow4 (by simp; omega) (fun k hk => (HO.out.lt k hk).1)); clear hown4 hgrow4)
      go_roundw
      case rel => exact ⟨j + 1, by omega, by rw [padTo_succ]; rw [HK.out] at HO4; exact own_push HO4.out rfl, HB4⟩
      case measure =>
        obtain ⟨A4, c4, rfl, _⟩ := own_len HO4.out
        simp only [lenOf]
        have := HKK.out
        omega
    · have hje : j = zeros m.length := by omega
      have hne : ((k : Int) % 64 == 56) = true := by simp; omega
      have hne2 : ((k : Int) % 64 != 56) = false := by simp; omega
      have hkl : k ≤ 2199023255552 := by omega
      have HKK := Lib.hid hkk
      have HJ := Lib.hid hje
      clear h56 h57 hk hkk hpl hlt hj hje
      have e8 : IntKind.u64.wrap (8 * (m.length : Int)) = 8 * (m.length : Int) := by simp [IntKind.wrap, IntKind.bits, IntKind.signed]; omega
      have HO5 : Hid (wr.ownsRow w.heap.size 5 1 (.slice A2 k c2) (padTo m (zeros m.length) ++ (len8 (8 * m.length)).take 0).length (bs (padTo m (zeros m.length) ++ (len8 (8 * m.length)).take 0))) := by
        have h := HO.out
        rw [HJ.out] at h
        simp only [List.take_zero, List.append_nil]
        rw [← HJ.out, ← HK.out, HJ.out]
        exact h
      clear HO
      obtain ⟨wo, hwo⟩ : ∃ wo : World, wo = wr := ⟨_, rfl⟩
      subst hwo
      go_wp2
      go_loopw [3, 5] (fun a v wr => ∃ i : Nat, i ≤ 8 ∧ v = .int .i64 i ∧ Hid (wr.ownsRow w.heap.size 5 1 a (padTo m (zeros m.length) ++ (len8 (8 * m.length)).take i).length (bs (padTo m (zeros m.length) ++ (len8 (8 * m.length)).take i))) ∧ Hid (Below w.heap.size w wr)) (fun _ v _ => 8 - (intOf v).toNat)
      case atStart => exact ⟨0, Nat.zero_le _, rfl, HO5, HB⟩
      case round =>
        clear HO5 HB
        obtain ⟨i, hi8, rfl, HO, HB⟩ := hrel
        have hs4 := HB.out.size
        by_cases hlt : i < 8
        · have hpl : (padTo m (zeros m.length) ++ (len8 (8 * m.length)).take i).length ≤ 2199023255552 := by
            rw [List.length_append, padTo_length, List.length_take]; omega
          have HS := Lib.hid (len8_succ (8 * m.length) i hlt)
          have a0 : 0 ≤ 56 - 8 * (i : Int) := by omega
          have a1 : IntKind.i64.wrap (8 * (i : Int)) = 8 * (i : Int) := IntWalk.i64_in _ (by omega)
          have a2 : IntKind.i64.wrap (56 - 8 * (i : Int)) = 56 - 8 * (i : Int) := IntWalk.i64_in _ (by omega)
          have a3 : (56 - 8 * (i : Int)).toNat = 56 - 8 * i := by omega
          obtain ⟨y, hy⟩ : ∃ y : Int, y = 8 * (m.length : Int) / 2 ^ (56 - 8 * i) % 256 := ⟨_, rfl⟩
          have hyb : y = ((UInt8.ofNat (8 * m.length / 2 ^ (56 - 8 * i))).toNat : Int) := by rw [byte_val, hy]; simp
          have HY := Lib.hid hy
          have HYB := Lib.hid hyb
          clear hy hyb
          go_wp2_with (at_builtin; rw [← HY.out]; refine wpList_append_own _ rfl (.tmp 27) (.tmp 34) 32 rfl w.heap.size 5 i0 (.int .u8 0) 1 1 Tryd.underlying32 hi hz0 hz1 hz2 rfl (by decide) _ _ _ rfl (HO.out.alloc _) ⟨wr.heap.size, 0, none⟩ 1 1 [.int .u8 y] rfl rfl (one_new _ _ _) (int_one _ _) (len_le (by omega)) (by omega) (by simp; omega) ?_; intro v4 w4 hown4 hgrow4 _; have HO4 := Lib.hid hown4; have HB4 := Lib.hid ((HB.out.alloc hs4 _).grown hgrow4 (by simp; omega) (fun k hk => (HO.out.lt k hk).1)); clear hown4 hgrow4)
          go_roundw
          case rel => exact ⟨i + 1, by omega, by go_num, by rw [HS.out, ← List.append_assoc]; exact own_push HO4.out HYB.out, HB4⟩
          case measure => simp [intOf]; omega
        · have hie : i = 8 := by omega
          have HI := Lib.hid hie
          have hge2 : 8 ≤ i := by omega
          clear hlt hi8 hie
          go_wp2
          go_ret
          have h := HO.out
          rw [HI.out, List.take_of_length_le (by rw [len8_length]; omega), ← pad_eq] at h
          exact ⟨_, rfl, h, HB.out⟩
end Go.Proofs.YtbdknncmlcbbpaaDoor

/-
  THE HASH's BYTES, one by one.
-/
namespace Go.Proofs.YtbdknncmlcbbpaaDoor
open Go.RowKit

def outAt (v : St) (j : Nat) : UInt8 := UInt8.ofNat ((v.at (j / 4)) >>> (24 - 8 * (j % 4))).toNat
theorem outB_eq (v : St) : outB v = (List.range 32).map (outAt v) := rfl
/-- The first i bytes, and zeros. -/
def outUp (v : St) (i : Nat) : List UInt8 := (List.range 32).map fun j => if j < i then outAt v j else 0
theorem outUp_length (v : St) (i : Nat) : (outUp v i).length = 32 := by simp [outUp]
theorem outUp_zero (v : St) : outUp v 0 = List.replicate 32 0 := rfl
theorem outUp_done (v : St) : outUp v 32 = outB v := by
  rw [outB_eq]
  apply List.map_congr_left
  intro j hj
  rw [if_pos (by simpa using hj)]
theorem outUp_step (v : St) (i : Nat) (hi : i < 32) : (outUp v i).set i (outAt v i) = outUp v (i + 1) := by
  apply List.ext_getElem?
  intro k
  by_cases hk : k < 32
  · rw [List.getElem?_set]
    by_cases h : i = k
    · subst h; simp [outUp, hi]
    · rw [if_neg h]
      simp only [outUp, List.getElem?_map, List.getElem?_range hk, Option.map_some]
      by_cases h2 : k < i
      · simp [h2, show k < i + 1 by omega]
      · simp [h2, show ¬ k < i + 1 by omega]
  · rw [List.getElem?_eq_none (by simp [outUp]; omega), List.getElem?_eq_none (by simp [outUp]; omega)]
theorem outUp_get (v : St) (i : Nat) (hi : i < 32) : (outUp v i)[i]? = some 0 := by simp [outUp, hi]
theorem bs_get' {l : List UInt8} {i : Nat} {c : UInt8} (h : l[i]? = some c) : (bs l)[i]? = some (.int .u8 (c.toNat : Int)) := by simp [bs, h]
theorem bs_set (l : List UInt8) (i : Nat) (x : UInt8) : (bs l).set i (.int .u8 (x.toNat : Int)) = bs (l.set i x) := by simp [bs, List.map_set]
theorem blk_setB {w : World} {g : Nat} {t : TypeId} {l : List UInt8} (h : Blk w g t (bs l).toArray) (i : Nat) (x : UInt8) : Blk (w.setCell ⟨g, i, none⟩ (.int .u8 (x.toNat : Int))) g t (bs (l.set i x)).toArray := by
  have := Blk.set_ h i (.int .u8 (x.toNat : Int))
  simpa [bs, List.map_set] using this
theorem out_val (x : BitVec 32) (n : Nat) : (x.toNat : Int) / 2 ^ n % 256 = ((UInt8.ofNat (x >>> n).toNat).toNat : Int) := by
  rw [byte_val, shr32]
theorem out_byte (v : St) (i n : Nat) (h : n = 24 - 8 * (i % 4)) : ((v.at (i / 4)).toNat : Int) / 2 ^ n % 256 = ((outAt v i).toNat : Int) := by
  rw [out_val, h]; rfl
theorem outB_length (v : St) : (outB v).length = 32 := rfl
theorem sha_length (m : List UInt8) : (sha m).length = 32 := rfl

theorem blockOf_length {m : List UInt8} {n : Nat} (h : 64 * (n + 1) ≤ m.length) : (blockOf m n).length = 64 := by
  simp [blockOf]; omega
theorem blockOf_get {m : List UInt8} {n : Nat} (h : 64 * (n + 1) ≤ m.length) (i : Nat) (hi : i < 64) : (blockOf m n)[i]'(by rw [blockOf_length h]; exact hi) = m[64 * n + i]'(by omega) := by
  simp [blockOf]
theorem hvn_succ (m : List UInt8) (n : Nat) : hvn m (n + 1) = comp (hvn m n) (blockOf m n) := rfl
end Go.Proofs.YtbdknncmlcbbpaaDoor

/-
  A STREAM as the cells of its value, and what it stands for.
-/
namespace Go.Proofs.YtbdknncmlcbbpaaDoor
open Go.RowKit

theorem blockOf_append (m t : List UInt8) (k : Nat) (h : 64 * (k + 1) ≤ m.length) : blockOf (m ++ t) k = blockOf m k := by
  unfold blockOf
  rw [List.drop_append_of_le_length (by omega), List.take_append_of_le_length (by simp; omega)]
theorem hvn_append (m t : List UInt8) : ∀ n : Nat, 64 * n ≤ m.length → hvn (m ++ t) n = hvn m n
  | 0, _ => rfl
  | n + 1, h => by rw [hvn_succ, hvn_succ, hvn_append m t n (by omega), blockOf_append m t n h]

/-- The held bytes with others laid into them. -/
def hput (held : List UInt8) (r : Nat) (xs : List UInt8) : List UInt8 := held.take r ++ xs ++ held.drop (r + xs.length)
theorem hput_length {held : List UInt8} {r : Nat} {xs : List UInt8} (hh : held.length = 64) (h : r + xs.length ≤ 64) : (hput held r xs).length = 64 := by
  simp [hput]; omega

def stCells (v : St) (held : List UInt8) (n : Nat) : List Value := ws v.list ++ bs held ++ [.int .u64 (n : Int)]
theorem stCells_length {v : St} {held : List UInt8} {n : Nat} (hh : held.length = 64) : (stCells v held n).length = 73 := by
  simp [stCells, ws, bs, St.list, hh]
theorem stCells_one (v : St) (held : List UInt8) (n : Nat) : ∀ u ∈ stCells v held n, u.oneCell' = true := by
  intro u hu
  simp only [stCells, List.mem_append, List.mem_singleton] at hu
  rcases hu with (hu | hu) | rfl
  · exact ws_one _ u hu
  · exact bs_one _ u hu
  · rfl
theorem stCells_held {v : St} {held : List UInt8} {n r : Nat} {xs : List UInt8} (hh : held.length = 64) (h : r + xs.length ≤ 64) : seg (stCells v held n) (8 + r) (bs xs) = stCells v (hput held r xs) n := by
  have hw : (ws v.list).length = 8 := by rw [ws_length]; rfl
  unfold seg stCells hput
  have e1 : (ws v.list ++ bs held ++ [Value.int .u64 (n : Int)]).take (8 + r) = ws v.list ++ bs (held.take r) := by
    rw [List.append_assoc, List.take_append, hw, List.take_of_length_le (by omega), show 8 + r - 8 = r by omega, List.take_append_of_le_length (by rw [bs_length]; omega), bs_take]
  have e2 : (ws v.list ++ bs held ++ [Value.int .u64 (n : Int)]).drop (8 + r + (bs xs).length) = bs (held.drop (r + xs.length)) ++ [Value.int .u64 (n : Int)] := by
    rw [List.append_assoc, List.drop_append, hw, List.drop_eq_nil_of_le (by omega), bs_length, show 8 + r + xs.length - 8 = r + xs.length by omega, List.drop_append_of_le_length (by rw [bs_length]; omega), bs_drop]; rfl
  rw [e1, e2, bs_append, bs_append]
  simp
theorem stCells_val {v v' : St} {held : List UInt8} {n : Nat} : seg (stCells v held n) 0 (ws v'.list) = stCells v' held n := by
  have hw : (ws v.list).length = 8 := by rw [ws_length]; rfl
  have hw' : (ws v'.list).length = 8 := by rw [ws_length]; rfl
  unfold seg stCells
  rw [hw', List.append_assoc (ws v.list), List.drop_append, List.drop_eq_nil_of_le (by omega), hw]
  simp
theorem stCells_len {v : St} {held : List UInt8} {n k : Nat} (hh : held.length = 64) : (stCells v held n).set 72 (.int .u64 (k : Int)) = stCells v held k := by
  have hw : (ws v.list ++ bs held).length = 72 := by simp [ws, bs, St.list, hh]
  unfold stCells
  rw [List.set_append_right _ _ (by omega), hw]
  simp
theorem stCells_72 {v : St} {held : List UInt8} {n : Nat} (hh : held.length = 64) : (stCells v held n)[72]? = some (.int .u64 (n : Int)) := by
  have hw : (ws v.list ++ bs held).length = 72 := by simp [ws, bs, St.list, hh]
  unfold stCells
  rw [List.getElem?_append_right (by omega), hw]
  rfl
theorem stCells_get_val {v : St} {held : List UInt8} {n : Nat} (j : Nat) (hj : j < 8) : (stCells v held n)[j]? = some (W32 (v.at j)) := by
  have hw : (ws v.list).length = 8 := by rw [ws_length]; rfl
  unfold stCells
  rw [List.append_assoc, List.getElem?_append_left (by omega)]
  exact ws_get (by rw [← St.tab]; exact tab8_get _ _ hj)
theorem stCells_get_held {v : St} {held : List UInt8} {n : Nat} (hh : held.length = 64) (j : Nat) (hj : j < 64) : (stCells v held n)[8 + j]? = some (.int .u8 ((held[j]'(by omega)).toNat : Int)) := by
  have hw : (ws v.list).length = 8 := by rw [ws_length]; rfl
  unfold stCells
  rw [List.append_assoc, List.getElem?_append_right (by omega), hw, show 8 + j - 8 = j by omega, List.getElem?_append_left (by rw [bs_length]; omega)]
  exact bs_get _ _ (by omega)
theorem stCells_take {v : St} {held : List UInt8} {n : Nat} : ((stCells v held n).drop 0).take 8 = ws v.list := by
  have hw : (ws v.list).length = 8 := by rw [ws_length]; rfl
  unfold stCells
  rw [List.drop_zero, List.append_assoc, List.take_append_of_le_length (by omega), List.take_of_length_le (by omega)]
theorem stCells_mid {v : St} {held : List UInt8} {n : Nat} (hh : held.length = 64) : ((stCells v held n).drop 8).take 64 = bs held := by
  have hw : (ws v.list).length = 8 := by rw [ws_length]; rfl
  unfold stCells
  rw [List.append_assoc, List.drop_append, hw, List.drop_eq_nil_of_le (by omega), List.nil_append, Nat.sub_self, List.drop_zero, List.take_append_of_le_length (by rw [bs_length]; omega), List.take_of_length_le (by rw [bs_length]; omega)]

/-- The hash value of the whole blocks of a message. -/
def hv (m : List UInt8) : St := hvn m (m.length / 64)
/-- The held bytes begin with what follows the whole blocks. -/
structure Holds (m held : List UInt8) : Prop where
  size : held.length = 64
  tail : held.take (m.length % 64) = m.drop (64 * (m.length / 64))
/-- The cells stand for the message m. -/
def HRep (m : List UInt8) (cs : List Value) : Prop := ∃ held, Holds m held ∧ cs = stCells (hv m) held m.length

theorem holds_step {m held xs : List UInt8} (h : Holds m held) (hx : m.length % 64 + xs.length < 64) : Holds (m ++ xs) (hput held (m.length % 64) xs) ∧ hv (m ++ xs) = hv m := by
  have hs := h.size
  have hl : (m ++ xs).length = m.length + xs.length := List.length_append
  have e1 : (m ++ xs).length / 64 = m.length / 64 := by omega
  have e2 : (m ++ xs).length % 64 = m.length % 64 + xs.length := by omega
  refine ⟨⟨hput_length hs (by omega), ?_⟩, ?_⟩
  · rw [e1, e2, List.drop_append_of_le_length (by omega), ← h.tail, hput, List.take_append_of_le_length (by simp; omega), List.take_of_length_le (by simp; omega)]
  · unfold hv
    rw [e1, hvn_append _ _ _ (by omega)]
theorem holds_full {m held xs : List UInt8} (h : Holds m held) (hx : m.length % 64 + xs.length = 64) : Holds (m ++ xs) (hput held (m.length % 64) xs) ∧ hv (m ++ xs) = comp (hv m) (hput held (m.length % 64) xs) := by
  have hs := h.size
  have hl : (m ++ xs).length = m.length + xs.length := List.length_append
  have e1 : (m ++ xs).length / 64 = m.length / 64 + 1 := by omega
  have e2 : (m ++ xs).length % 64 = 0 := by omega
  refine ⟨⟨hput_length hs (by omega), ?_⟩, ?_⟩
  · rw [e2, List.take_zero, e1, List.drop_eq_nil_of_le (by omega)]
  · unfold hv
    rw [e1, hvn_succ, hvn_append _ _ _ (by omega)]
    congr 1
    unfold blockOf
    rw [List.drop_append_of_le_length (by omega), ← h.tail, List.take_of_length_le (by simp; omega), hput, List.drop_eq_nil_of_le (show held.length ≤ m.length % 64 + xs.length by omega), List.append_nil]
theorem rep_begin : HRep [] (stCells iv (List.replicate 64 0) 0) := ⟨_, ⟨rfl, rfl⟩, rfl⟩
end Go.Proofs.YtbdknncmlcbbpaaDoor
