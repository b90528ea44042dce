/-
  The reference's Spoilt: whatever the numbers, some code (written by wip/tools/gen-kspo.py).
-/
import Derived.Test.YtbdknncmlcbbpaaDoorG18
import Derived.Deep.RegionLaw
import Derived.BigRegion
set_option linter.unusedVariables false
namespace Go.Proofs.YtbdknncmlcbbpaaDoor
open Go.RowKit WM TR KM

theorem inss_slice : Tryd.prog.underlying 49 = some (.slice (Tryd.prog.elem 49)) := by kernel_rfl
theorem inss_elem : Tryd.prog.elem 49 = 54 := by kernel_rfl
theorem size_ins (W : World) : (sizeOf 54).run Tryd.prog W = .ok 3 W := by kernel_rfl
/-- 'l[:k]' -/
theorem cutI (aw k n cw : Nat) (hk : k < n) (_hn : n ≤ cw) : ∀ W : World, (Instr.sliceAt 49 (.slice (some ⟨aw, 0, none⟩) n cw) none (some (.int .i64 (k : Int))) none).run Tryd.prog W = .ok (.slice (some ⟨aw, 0, none⟩) k cw) W := by
  intro W
  rw [run_sliceAt_slice W 49 _ _ _ _ inss_slice, run_slice_h W 49 (some ⟨aw, 0, none⟩) n cw inss_slice .i64 k (by omega) (by omega), inss_elem, size_ins]
  have h2 : ¬ cw = 0 := by omega
  simp [sliced, h2, Addr.add]
/-- 'l[k:]' -/
theorem cutJ (aw k n cw : Nat) (hk : k ≤ n) (hn : n ≤ cw) : ∀ W : World, (Instr.sliceAt 49 (.slice (some ⟨aw, 0, none⟩) n cw) (some (.int .i64 (k : Int))) none none).run Tryd.prog W = .ok (.slice (some ⟨aw, if cw = k then 0 else k * 3, none⟩) (n - k) (cw - k)) W := by
  intro W
  rw [run_sliceAt_slice W 49 _ _ _ _ inss_slice, run_slice_l W 49 (some ⟨aw, 0, none⟩) n cw inss_slice .i64 k (by omega) (by omega), inss_elem, size_ins]
  by_cases h : cw = k
  · simp [sliced, h]
  · rw [if_neg h]
    simp [sliced, h, Addr.add]
    omega
theorem insCs_take : ∀ (l : List Ins) (k : Nat), insCs (l.take k) = (insCs l).take (k * 3)
  | [], k => by simp [insCs]
  | y :: l, 0 => by simp [insCs]
  | y :: l, k + 1 => by
    rw [List.take_succ_cons, insCs, insCs, insCs_take l k, show (k + 1) * 3 = (insC y).length + k * 3 by show _ = 3 + _; omega, List.take_length_add_append]
theorem insCs_drop : ∀ (l : List Ins) (k : Nat), insCs (l.drop k) = (insCs l).drop (k * 3)
  | [], k => by simp [insCs]
  | y :: l, 0 => by simp [insCs]
  | y :: l, k + 1 => by
    rw [List.drop_succ_cons, insCs, insCs_drop l k, show (k + 1) * 3 = (insC y).length + k * 3 by show _ = 3 + _; omega, List.drop_length_add_append]
theorem rd_take {w : World} {S : Nat → Prop} {A : Option Addr} {l : List Ins} (h : Rd w S 3 A l.length (insCs l)) {k : Nat} (hk : k < l.length) : Rd w S 3 A k (insCs (l.take k)) := by
  refine ⟨by rw [insCs_length, List.length_take, Nat.min_eq_left (by omega)], fun hn => ?_⟩
  obtain ⟨ad, e, hb, hc⟩ := h.2 (by omega)
  refine ⟨ad, e, hb, fun j u hu => hc j u ?_⟩
  rw [insCs_take, List.getElem?_take] at hu
  split at hu
  · exact hu
  · cases hu
theorem rd_drop {w : World} {S : Nat → Prop} {g cw : Nat} {l : List Ins} (h : Rd w S 3 (some ⟨g, 0, none⟩) l.length (insCs l)) {k : Nat} (hk : k ≤ l.length) (hc : l.length ≤ cw) : Rd w S 3 (some ⟨g, if cw = k then 0 else k * 3, none⟩) (l.length - k) (insCs (l.drop k)) := by
  refine ⟨by rw [insCs_length, List.length_drop], fun hn => ?_⟩
  obtain ⟨ad, e, hb, hcell⟩ := h.2 (by omega)
  injection e with e
  subst e
  rw [if_neg (by omega)]
  refine ⟨_, rfl, hb, fun j u hu => ?_⟩
  rw [insCs_drop, List.getElem?_drop] at hu
  have := hcell _ u hu
  rw [Addr.add_lit, Nat.zero_add] at this
  rw [Addr.add_lit]
  exact this
/-- An append's block, kept shut. -/
def apP (ts : Array TypeId) (t : TypeId) (vs : Array Value) : Sem Value := Builtin.append_ ts t vs
theorem shutApP (ts : Array TypeId) (t : TypeId) (vs : Array Value) : Builtin.append_ ts t vs = apP ts t vs := rfl
attribute [local go_sem ↓ high] shutApP
/-- A load of an instruction, kept shut. -/
def ldI (v : Value) : Sem Value := Instr.loadAt 54 v
theorem shutI (v : Value) : Instr.loadAt 54 v = ldI v := rfl
theorem size_insI : (Tryd.prog.info? 54).map (·.size) = some 3 := by kernel_rfl
theorem load_ins {W : World} {b o : Nat} {x : Ins} (h0 : W.cell? ⟨b, o, none⟩ = some (.int .i64 x.op)) (h1 : W.cell? ⟨b, o + 1, none⟩ = some (.int .i64 x.a)) (h2 : W.cell? ⟨b, o + 2, none⟩ = some (.int .i64 x.b)) :
    (ldI (.pointer (some ⟨b, o, none⟩))).run Tryd.prog W = .ok (.agg #[.int .i64 x.op, .int .i64 x.a, .int .i64 x.b]) W :=
  run_loadAt_mid W b o 54 (insC x) _ (fun i v hv => by
    have hi : i < 3 := (List.getElem?_eq_some_iff.1 hv).1
    have h3 : i = 0 ∨ i = 1 ∨ i = 2 := by omega
    rcases h3 with rfl | rfl | rfl
    · rw [← Option.some.inj hv]; exact h0
    · rw [← Option.some.inj hv]; exact h1
    · rw [← Option.some.inj hv]; exact h2) Tryd.underlying54 rfl (by rw [size_insI]; rfl)
theorem blk_ins {w : World} {s : Nat} {x : Ins} (h : Blk w s 54 #[.int .i64 x.op, .int .i64 x.a, .int .i64 x.b]) : Reads w w.heap.size 3 (some ⟨s, 0, none⟩) 1 (insC x) :=
  ⟨rfl, fun _ => ⟨_, rfl, h.lt, fun j u hu => by
    have h1 := h.cell j
    rw [Addr.add_lit, Nat.zero_add, h1]
    have h2 : (insC x)[j]? = (#[Value.int .i64 x.op, .int .i64 x.a, .int .i64 x.b])[j]? := by simp [insC]
    rw [← h2]; exact hu⟩⟩
set_option maxHeartbeats 2000000 in
/-- The first append: what stands in front. -/
theorem app1 {m : Nat} {w W8 Wx : World} {B g gb k e : Nat} {ch : Int} {A : Option Addr} {c : Nat} {es : List Ent} {x : Ent} {j0 : TypeInfo} (hj : Tryd.prog.info? 54 = some j0) (hy0 : j0.zero = some (.agg #[.int .i64 0, .int .i64 0, .int .i64 0])) (hy1 : j0.size = 3) (hy2 : j0.bytes = 24)
    (h : Sx m w W8 B g ch A c es x) (hm : m ≤ 100100) (hxA : x.A = some ⟨gb, 0, none⟩) (hk : k < x.body.length) (hb : Below W8.heap.size W8 Wx) (he : W8.heap.size ≤ e) (hoa : Wx.ownsRow W8.heap.size 54 3 (.slice (some ⟨e, 0, none⟩) 0 0) 0 []) :
    ∃ (A7 : Option Addr) (c7 : Nat) (w1 : World), (apP #[49, 49] 49 #[.slice (some ⟨e, 0, none⟩) 0 0, .slice (some ⟨gb, 0, none⟩) k x.c]).run Tryd.prog Wx = .ok (.slice A7 k c7) w1 ∧
      w1.ownsRow W8.heap.size 54 3 (.slice A7 k c7) k (insCs (x.body.take k)) ∧ Wx.grownBy w1 (some e) ∧ Below W8.heap.size W8 w1 := by
  have hrd := h.xr.1.rd
  rw [hxA] at hrd
  have hrk := rd_take hrd hk
  have hxl := h.xr.2
  obtain ⟨v1, w1, happ1, hown1, hgrow1, _⟩ := run_append_any (P := Tryd.prog) Wx W8.heap.size 49 49 54 j0 _ 3 24 Tryd.underlying49 hj hy0 hy1 hy2 rfl (by omega) (.slice (some ⟨e, 0, none⟩) 0 0) 0 [] hoa Wx.heap.size (some ⟨gb, 0, none⟩) k x.c (insCs (x.body.take k))
    ((hrk.keep fun b hb2 => hb.block b hb2.2.1).reads fun b hb2 => Nat.lt_of_lt_of_le hb2.2.1 hb.size) (insCs_one _) (len_le (by omega)) (by omega) hb.size
  obtain ⟨A7, c7, rfl, _⟩ := own_len hown1
  rw [Nat.zero_add, List.nil_append] at hown1
  rw [Nat.zero_add] at happ1
  exact ⟨A7, c7, w1, happ1, hown1, hgrow1, ⟨hgrow1.os.trans hb.os, hgrow1.tape.trans hb.tape, hgrow1.output.trans hb.output, Nat.le_trans hb.size hgrow1.size, fun b hb2 => (hgrow1.block b (Nat.lt_of_lt_of_le hb2 hb.size) (fun e1 => by injection e1 with e1; have e2 : b = e := e1; omega)).trans (hb.block b hb2)⟩⟩
set_option maxHeartbeats 4000000 in
/-- The other two: an instruction, and what stands behind. -/
theorem app23 {m : Nat} {w W8 Wy : World} {B g gb k s c7 : Nat} {A7 : Option Addr} {ch : Int} {A : Option Addr} {c : Nat} {es : List Ent} {x : Ent} {xi : Ins} {j0 : TypeInfo} (hj : Tryd.prog.info? 54 = some j0) (hy0 : j0.zero = some (.agg #[.int .i64 0, .int .i64 0, .int .i64 0])) (hy1 : j0.size = 3) (hy2 : j0.bytes = 24)
    (h : Sx m w W8 B g ch A c es x) (hm : m ≤ 100100) (hxA : x.A = some ⟨gb, 0, none⟩) (hk : k < x.body.length) (hn : x.body.length + 1 ≤ m) (hb : Below W8.heap.size W8 Wy) (hown1 : Wy.ownsRow W8.heap.size 54 3 (.slice A7 k c7) k (insCs (x.body.take k)))
    (hs : Reads Wy Wy.heap.size 3 (some ⟨s, 0, none⟩) 1 (insC xi)) (hxi : okI xi) :
    ∃ (A8 : Option Addr) (c8 : Nat) (w2 : World) (A9 : Option Addr) (c9 : Nat) (nb : List Ins) (w3 : World),
      (apP #[49, 49] 49 #[.slice A7 k c7, .slice (some ⟨s, 0, none⟩) 1 1]).run Tryd.prog Wy = .ok (.slice A8 (k + 1) c8) w2 ∧
      (apP #[49, 49] 49 #[.slice A8 (k + 1) c8, .slice (some ⟨gb, if x.c = k then 0 else k * 3, none⟩) (x.body.length - k) (x.c - k)]).run Tryd.prog w2 = .ok (.slice A9 nb.length c9) w3 ∧
      w2.cell? ⟨g, 2, none⟩ = some (.slice (some ⟨gb, 0, none⟩) x.body.length x.c) ∧ w3.cell? ⟨g, 2, none⟩ = some (.slice (some ⟨gb, 0, none⟩) x.body.length x.c) ∧ w3.frozen? ⟨g, 2, none⟩ = false ∧
      Sx m w (w3.setCell ⟨g, 2, none⟩ (.slice A9 nb.length c9)) B g ch A c es ⟨x.p, x.w, A9, c9, nb⟩ := by
  have hx5 := h.xr.1
  have hrd := hx5.rd
  rw [hxA] at hrd
  have hbc := hx5.cap
  have hrj := rd_drop hrd (k := k) (by omega) hbc
  obtain ⟨oj, hoj⟩ : ∃ z, z = (if x.c = k then 0 else k * 3) := ⟨_, rfl⟩
  rw [← hoj] at hrj ⊢
  have hxl := h.xr.2
  obtain ⟨v2, w2, happ2, hown2, hgrow2, _⟩ := run_append_any (P := Tryd.prog) Wy W8.heap.size 49 49 54 j0 _ 3 24 Tryd.underlying49 hj hy0 hy1 hy2 rfl (by omega) (.slice A7 k c7) k _ hown1 _ (some ⟨s, 0, none⟩) 1 1 (insC xi) hs (insC_one xi) (len_le (by omega)) (by omega) hb.size
  obtain ⟨A8, c8, rfl, _⟩ := own_len hown2
  have hlt1 := hown1.lt
  have hlt2 := hown2.lt
  have hb2 : Below W8.heap.size W8 w2 := ⟨hgrow2.os.trans hb.os, hgrow2.tape.trans hb.tape, hgrow2.output.trans hb.output, Nat.le_trans hb.size hgrow2.size, fun b hb3 => (hgrow2.block b (Nat.lt_of_lt_of_le hb3 hb.size) (fun e => by have := (hlt1 b e.symm).1; omega)).trans (hb.block b hb3)⟩
  obtain ⟨v3, w3, happ3, hown3, hgrow3, _⟩ := run_append_any (P := Tryd.prog) w2 W8.heap.size 49 49 54 j0 _ 3 24 Tryd.underlying49 hj hy0 hy1 hy2 rfl (by omega) (.slice A8 (k + 1) c8) (k + 1) _ hown2 w2.heap.size (some ⟨gb, oj, none⟩) (x.body.length - k) (x.c - k) (insCs (x.body.drop k))
    ((hrj.keep fun b hb3 => hb2.block b hb3.2.1).reads fun b hb3 => Nat.lt_of_lt_of_le hb3.2.1 hb2.size) (insCs_one _) (len_le (by omega)) (by omega) hb2.size
  obtain ⟨A9, c9, rfl, hc9⟩ := own_len hown3
  obtain ⟨nb, hnb⟩ : ∃ z, z = x.body.take k ++ [xi] ++ x.body.drop k := ⟨_, rfl⟩
  have hnl : nb.length = k + 1 + (x.body.length - k) := by rw [hnb, List.length_append, List.length_append, List.length_drop, List.length_take, Nat.min_eq_left (by omega)]; rfl
  have hcs : insCs (x.body.take k) ++ insC xi ++ insCs (x.body.drop k) = insCs nb := by rw [hnb, insCs_append, insCs_append]; simp [insCs]
  rw [hcs] at hown3
  rw [← hnl] at hown3 happ3 hc9
  have hb3 : Below W8.heap.size W8 w3 := ⟨hgrow3.os.trans hb2.os, hgrow3.tape.trans hb2.tape, hgrow3.output.trans hb2.output, Nat.le_trans hb2.size hgrow3.size, fun b hb4 => (hgrow3.block b (Nat.lt_of_lt_of_le hb4 hb2.size) (fun e => by have := (hlt2 b e.symm).1; omega)).trans (hb2.block b hb4)⟩
  have hS7 := h.next hb3
  have hok8 : ∀ y ∈ nb, okI y := fun y hy => by
    rw [hnb] at hy
    rcases List.mem_append.1 hy with hy | hy
    · rcases List.mem_append.1 hy with hy | hy
      · exact hx5.ok y (List.mem_of_mem_take hy)
      · rw [List.mem_singleton.1 hy]; exact hxi
    · exact hx5.ok y (List.mem_of_mem_drop hy)
  have hgl := h.gl
  have hgt := h.xb.lt
  refine ⟨A8, c8, w2, A9, c9, nb, w3, happ2, happ3, by rw [← hxA]; exact (h.next hb2).xb.cell 2, by rw [← hxA]; exact hS7.xb.cell 2, hS7.xb.frozen 2, hS7.body ((Rd.of_own hown3).mono fun b hb4 => ⟨by omega, hb4.2, fun e => by have := (h.own.lt _ e).2; omega, by omega⟩) hc9 (by omega) (by omega) hok8⟩
attribute [local go_sem ↓] shutI
set_option maxRecDepth 100000 in
set_option maxHeartbeats 16000000 in
theorem spo_is (ch : Int) (es : List Ent) (Ac : Option Addr) (cc : Nat) (at_ how by_ : Int) (m : Nat) (w : World) (hco : CoR w (fun b => b < w.heap.size) Ac cc es) (hch : -1000000 ≤ ch ∧ ch ≤ 1000000)
    (hn : 1 ≤ es.length ∧ es.length ≤ 1000) (hm : (∀ e ∈ es, e.body.length ≤ m) ∧ m ≤ 100000) (r1 : inRange at_) (r2 : inRange how) (r3 : inRange by_) :
    Calls Tryd.prog 9 #[.agg #[.int .i64 ch, .slice Ac es.length cc], .int .i64 at_, .int .i64 how, .int .i64 by_] w (SpoPost m es.length w) := by
  obtain ⟨i0, hi, hz0, hz1, hz2⟩ := info_parts fun_info
  obtain ⟨j0, hj, hy0, hy1, hy2⟩ := info_parts ins_info
  obtain ⟨B, hB⟩ : ∃ B, B = w.heap.size := ⟨_, rfl⟩
  obtain ⟨n, hnn⟩ : ∃ n, es.length = n := ⟨_, rfl⟩
  obtain ⟨W1, hW1⟩ : ∃ W, W = (w.alloc (.cells #[.int .i64 ch, .slice Ac n cc] 25)).alloc (.cells #[.int .i64 0, .slice none 0 0] 25) := ⟨_, rfl⟩
  have hb1 : Below w.heap.size w W1 := by rw [hW1]; exact ba (below_new _ _) _
  have hs1 : W1.heap.size = B + 2 := by rw [hW1, hB]; simp
  have kb : Blk W1 B 25 #[.int .i64 ch, .slice Ac n cc] := by rw [hW1, hB]; exact (Blk.new _ _ _).alloc _
  have kr : Blk W1 (B + 1) 25 #[.int .i64 0, .slice none 0 0] := by rw [hW1, hB, ← size_alloc w (.cells #[.int .i64 ch, .slice Ac n cc] 25)]; exact Blk.new _ _ _
  have HCOP : Hid (Calls Tryd.prog 30 #[.agg #[.int .i64 ch, .slice Ac n cc]] W1 (CopyPost ch es W1)) := Lib.hid (by rw [← hnn]; exact copy_is ch es Ac cc W1 (hco.next hb1))
  obtain ⟨P, hP⟩ : ∃ P, P = SpoPost m es.length w := ⟨_, rfl⟩
  rw [← hP, hnn]
  rw [hnn] at hn
  have c0 : W1.cell? ⟨B, 0, none⟩ = some (.int .i64 ch) := kb.cell 0
  have c1 : W1.cell? ⟨B, 1, none⟩ = some (.slice Ac n cc) := kb.cell 1
  have HW1 := Lib.hid hW1
  have HB := Lib.hid hB
  have HS1 := Lib.hid hs1
  have HNN := Lib.hid hnn
  have HM := Lib.hid hm.1
  have hml := hm.2
  have HB1 := Lib.hid hb1
  have HKB := Lib.hid kb
  have HKR := Lib.hid kr
  have HP := Lib.hid hP
  have hr1 := arnd_lt (x := at_) (n := (n : Int)) (by omega)
  obtain ⟨f, hf⟩ : ∃ f : Nat, arnd at_ n = (f : Int) := ⟨(arnd at_ n).toNat, by omega⟩
  rw [hf] at hr1
  have HA1 : Hid (∀ W, Calls Tryd.prog 21 #[.int .i64 at_, .int .i64 (n : Int)] W fun e w' => e = .returned (.int .i64 (f : Int)) ∧ W = w') := Lib.hid fun W => by rw [← hf]; exact around_is at_ n r1 (by omega) W
  have HAR : Hid (∀ (k : Int) (W : World), 0 < k → Calls Tryd.prog 21 #[.int .i64 by_, .int .i64 k] W fun e w' => e = .returned (.int .i64 (arnd by_ k)) ∧ W = w') := Lib.hid fun k W hk => around_is by_ k r3 hk W
  obtain ⟨q, hq⟩ : ∃ q, q = arnd how 12 := ⟨_, rfl⟩
  have HQ : Hid (∀ W, Calls Tryd.prog 21 #[.int .i64 how, .int .i64 12] W fun e w' => e = .returned (.int .i64 q) ∧ W = w') := Lib.hid fun W => by rw [hq]; exact around_is how 12 r2 (by omega) W
  have hr2 := arnd_lt (x := how) (n := 12) (by omega)
  rw [← hq] at hr2
  obtain ⟨nr, hnr⟩ : ∃ z, z = arnd by_ 32 := ⟨_, rfl⟩
  have hr3 := arnd_lt (x := by_) (n := 32) (by omega)
  rw [← hnr] at hr3
  have HNR := Lib.hid hnr
  obtain ⟨at7, hat7⟩ : ∃ z, z = wrap64 (at_.tdiv 7) := ⟨_, rfl⟩
  have r7 : inRange at7 := by
    rw [hat7]
    unfold inRange wrap64
    omega
  have HA7 := Lib.hid hat7
  have HR7 := Lib.hid r7
  have hne : ((n : Int) == 0) = false := by rw [beq_eq_false_iff_ne]; omega
  clear hW1 hB hs1 hnn hm hb1 kb kr hP hf hq hnr hat7 hco r1 r2 r3 r7
  go_enter Tryd.func9, Tryd.ntmps9
  go_upto_region 1 with fail
  have e11 : (w.alloc (.cells #[.int .i64 ch, .slice Ac n cc] 25)).heap.size = B + 1 := by rw [HB.out]; simp
  try rw [e11]
  rw [← HW1.out]
  try rw [← HB.out]
  clear e11
  go_upto_region 2 with (first
    | (go_at_call 30; refine HCOP.out.mono ?_; rintro e w2 ⟨fs, A1, c1', rfl, hO2, hb2, hmap2⟩; have k2 := HKB.out.below hb2 HKB.out.lt; have kr2 := HKR.out.below hb2 HKR.out.lt; have x0 := k2.cell 0; have x1 := k2.cell 1; have y0 := k2.frozen 0; have y1 := k2.frozen 1; simp only [List.getElem?_toArray, List.getElem?_cons_zero, List.getElem?_cons_succ] at x0 x1; have HO2 := Lib.hid hO2; have HB2 := Lib.hid hb2; have HMAP := Lib.hid hmap2; have HK2 := Lib.hid k2; have HKR2 := Lib.hid kr2; clear hO2 hb2 hmap2 k2 kr2 c0 c1))
  have hfl : fs.length = n := by
    have := congrArg List.length HMAP.out
    rw [List.length_map, List.length_map, HNN.out] at this
    exact this
  obtain ⟨W3, hW3⟩ : ∃ W, W = (w2.setCell ⟨B, 0, none⟩ (.int .i64 ch)).setCell ⟨B, 1, none⟩ (.slice A1 fs.length c1') := ⟨_, rfl⟩
  have hs3 : W3.heap.size = w2.heap.size := by rw [hW3]; simp
  have hz2 := HB2.out.size
  rw [HS1.out] at hz2
  have k3 : Blk W3 B 25 #[.int .i64 ch, .slice A1 fs.length c1'] := by
    rw [hW3]
    have := (HK2.out.set_ 0 (.int .i64 ch)).set_ 1 (.slice A1 fs.length c1')
    simpa using this
  have kr3 : Blk W3 (B + 1) 25 #[.int .i64 0, .slice none 0 0] := by
    rw [hW3]
    exact (HKR2.out.far (p := ⟨B, 0, none⟩) (by show B + 1 ≠ B; omega) _).far (p := ⟨B, 1, none⟩) (by show B + 1 ≠ B; omega) _
  have hO3 : OwnCo W3 (B + 2) A1 c1' fs := by
    have h0 := HO2.out
    rw [HS1.out] at h0
    have hkeep : ∀ b, B + 2 ≤ b → W3.heap[b]? = w2.heap[b]? := fun b hb => by
      rw [hW3, Below.heap_setCell _ ⟨B, 1, none⟩ _ b (by show b ≠ B; omega), Below.heap_setCell _ ⟨B, 0, none⟩ _ b (by show b ≠ B; omega)]
    exact ⟨own_keep h0.own fun b hb => hkeep b (h0.own.lt b hb).1, fun e he => (h0.bod e he).keep (fun b hb => hkeep b hb.1) fun b hb => ⟨hb.1, by rw [hs3]; exact hb.2.1, hb.2.2⟩, h0.len⟩
  have hb3 : Below w.heap.size w W3 := by
    rw [hW3]
    exact below_set (below_set (bt HB1.out HB2.out) (Nat.le_of_eq HB.out.symm) _ _) (Nat.le_of_eq HB.out.symm) _ _
  have hfm : ∀ e ∈ fs, e.body.length ≤ m := fun e he => by
    have h1 : e.fn ∈ es.map Ent.fn := by rw [← HMAP.out]; exact List.mem_map_of_mem he
    obtain ⟨e2, he2, h2⟩ := List.mem_map.1 h1
    have := HM.out e2 he2
    have h3 : e2.body = e.body := congrArg KM.Fn.body h2
    rw [← h3]; exact this
  rw [← hW3]
  have d0 : W3.cell? ⟨B, 0, none⟩ = some (.int .i64 ch) := k3.cell 0
  have d1 : W3.cell? ⟨B, 1, none⟩ = some (.slice A1 fs.length c1') := k3.cell 1
  have HFM := Lib.hid hfm
  have HB3 := Lib.hid hb3
  have HO3 := Lib.hid hO3
  have HK3 := Lib.hid k3
  have HKR3 := Lib.hid kr3
  have HS3 : Hid (B + 2 ≤ W3.heap.size) := Lib.hid (by rw [hs3]; exact hz2)
  clear hW3 hs3 hz2 k3 kr3 hO3 hb3 hfm HO2 HB2 HK2 HKR2 HCOP x0 x1 y0 y1 HMAP
  rw [← hfl] at hr1 hne hn HNN HA1
  obtain ⟨x, hx⟩ : ∃ x, fs[f]? = some x := ⟨_, List.getElem?_eq_getElem (by omega)⟩
  have hxm := List.mem_of_getElem? hx
  obtain ⟨bF, cap, hvF, hbF, _⟩ := HO3.out.own.form (by omega)
  obtain ⟨rfl, rfl⟩ : A1 = some ⟨bF, 0, none⟩ ∧ c1' = cap := by injection hvF with a1 a2 a3; exact ⟨a1, a3⟩
  have ec : ∀ j v, (entC x)[j]? = some v → W3.cell? ⟨bF, f * 4 + j, none⟩ = some v := fun j v hv => by
    have := HO3.out.own.cells (g := bF) rfl _ _ (entsC_get fs f x hx j v hv)
    rwa [Addr.add_lit, Nat.zero_add] at this
  have g0 := ec 0 _ rfl
  rw [Nat.add_zero] at g0
  have g1 := ec 1 _ rfl
  have g2 := ec 2 _ rfl
  have g3 := ec 3 _ rfl
  have hlf : f < fs.length := by omega
  have HX := Lib.hid hx
  have HFL := Lib.hid hfl
  clear hx hfl hvF ec
  go_upto_region 5 with fail
  go_upto_region 6 with (first
    | (go_at_call 21; refine (HA1.out _).mono ?_; rintro e w4 ⟨rfl, rfl⟩))
  go_upto_region 7 with fail
  obtain ⟨g, hg⟩ : ∃ g, g = W3.heap.size := ⟨_, rfl⟩
  obtain ⟨W5, hW5⟩ : ∃ W, W = W3.alloc (.cells #[.int .i64 x.p, .int .i64 x.w, .slice x.A x.body.length x.c, .slice none 0 0] 51) := ⟨_, rfl⟩
  have hb5 : Below W3.heap.size W3 W5 := by rw [hW5]; exact below_new _ _
  have hO5 : ∀ e ∈ fs, OwnB W5 (B + 2) (fun b => B + 2 ≤ b ∧ b < W5.heap.size ∧ (Value.slice (some ⟨bF, 0, none⟩) fs.length c1').ownBlock ≠ some b ∧ b ≠ g) e ∧ e.body.length ≤ m := fun e he =>
    ⟨(HO3.out.bod e he).keep (fun b hb => hb5.block b hb.2.1) fun b hb => ⟨hb.1, Nat.lt_of_lt_of_le hb.2.1 hb5.size, hb.2.2, by have := hb.2.1; omega⟩, HFM.out e he⟩
  have hx5 := hO5 x hxm
  have hS5 : Sx m w W5 B g ch (some ⟨bF, 0, none⟩) c1' fs x :=
    ⟨HB.out, HK3.out.below hb5 HK3.out.lt, HKR3.out.below hb5 HKR3.out.lt, ownsRow_below HO3.out.own hb5, fun e => by have := (HO3.out.own.lt _ e).2; omega, fun e he => ⟨(hO5 e he).1.body, (hO5 e he).2⟩, by rw [hW5, hg]; exact Blk.new _ _ _, ⟨hx5.1.body, hx5.2⟩, by have := HS3.out; omega, hch, by omega, bt HB3.out hb5⟩
  rw [← hW5, ← hg]
  have hgl := HS3.out
  rw [← hg] at hgl
  have HS5 := Lib.hid hS5
  have HO5 := Lib.hid hO5
  have HX5 := Lib.hid hx5.1
  clear hO5 hx5 hS5 hW5 hb5 g0 g1 g2 g3 d0 d1 hbF HK3 HKR3 HO3 HB3 HA1 hg HS3
  obtain ⟨b0, b1⟩ : W5.cell? ⟨B, 0, none⟩ = some (.int .i64 ch) ∧ W5.cell? ⟨B, 1, none⟩ = some (.slice (some ⟨bF, 0, none⟩) fs.length c1') := ⟨HS5.out.blk.cell 0, HS5.out.blk.cell 1⟩
  have x2 : W5.cell? ⟨g, 2, none⟩ = some (.slice x.A x.body.length x.c) := HS5.out.xb.cell 2
  have hw4 : IntKind.i64.wrap (nr - 4) = nr - 4 := by rw [IntKind.wrap_i64]; omega
  go_upto_region 8 with (first
    | (go_at_call 21; refine (HAR.out _ _ (by omega)).mono ?_; rintro e w4 ⟨rfl, rfl⟩; rw [← HNR.out]))
  by_cases hbe : x.body.length = 0
  · have hbe2 : ((x.body.length : Int) == 0) = true := by rw [hbe]; rfl
    have y0 := HS5.out.blk.frozen 0
    have HSC : Hid (Sx m w (W5.setCell ⟨B, 0, none⟩ (.int .i64 (nr - 4))) B g (nr - 4) (some ⟨bF, 0, none⟩) c1' fs x) := Lib.hid (HS5.out.chans (by omega))
    go_upto_region 10 with fail
    obtain ⟨W6, hW6⟩ : ∃ W, W = W5.setCell ⟨B, 0, none⟩ (.int .i64 (nr - 4)) := ⟨_, rfl⟩
    rw [← hW6] at HSC
    rw [← hW6]
    clear hW6 y0 b0 b1 x2
    have b0 : W6.cell? ⟨B, 0, none⟩ = some (.int .i64 (nr - 4)) := HSC.out.blk.cell 0
    have b1 : W6.cell? ⟨B, 1, none⟩ = some (.slice (some ⟨bF, 0, none⟩) fs.length c1') := HSC.out.blk.cell 1
    obtain ⟨r0, r1, q0, q1⟩ : W6.cell? ⟨B + 1, 0, none⟩ = some (.int .i64 0) ∧ W6.cell? ⟨B + 1, 1, none⟩ = some (.slice none 0 0) ∧ W6.frozen? ⟨B + 1, 0, none⟩ = false ∧ W6.frozen? ⟨B + 1, 1, none⟩ = false := ⟨HSC.out.res.cell 0, HSC.out.res.cell 1, HSC.out.res.frozen 0, HSC.out.res.frozen 1⟩
    have HCOR : Hid (CoR W6 (fun b => B + 2 ≤ b ∧ b < W6.heap.size) (some ⟨bF, 0, none⟩) c1' fs) := Lib.hid (by
      have h := HSC.out
      have hr := Rd.of_own h.own
      obtain ⟨_, _, e, hc⟩ := own_len h.own
      cases e
      exact ⟨hr, hc, by have := h.len; omega, fun e he => (h.bod e he).1.keep (Keeps.refl _ _) fun _ hb => ⟨hb.1, hb.2.1⟩⟩)
    go_wp2_with fail
    rw [HP.out]
    refine bodyPost_ret (v := .agg #[.int .i64 (nr - 4), .slice (some ⟨bF, 0, none⟩) fs.length c1']) (by simp [results, Tryd.results9, go_sem, r0, r1]) rfl ?_
    exact spo_post (ch := nr - 4) HB.out HCOR.out HSC.out.below (by omega) (by rw [HNN.out]; omega) (fun e he => by have := (HSC.out.bod e he).2; omega) _ _
  · have hbe2 : ((x.body.length : Int) == 0) = false := by rw [beq_eq_false_iff_ne]; omega
    have hr7 := arnd_lt (x := at7) (n := (x.body.length : Int)) (by omega)
    obtain ⟨k, hk⟩ : ∃ k : Nat, arnd at7 x.body.length = (k : Int) := ⟨(arnd at7 x.body.length).toNat, by omega⟩
    rw [hk] at hr7
    have HK7 : Hid (∀ W, Calls Tryd.prog 21 #[.int .i64 at7, .int .i64 (x.body.length : Int)] W fun e w' => e = .returned (.int .i64 (k : Int)) ∧ W = w') := Lib.hid fun W => by rw [← hk]; exact around_is at7 x.body.length HR7.out (by omega) W
    have hlk : k < x.body.length := by omega
    clear hk
    go_upto_region 12 with (first
      | (go_at_call 21; rw [← HA7.out]; refine (HK7.out _).mono ?_; rintro e w4 ⟨rfl, rfl⟩))
    have hq12 : q = 0 ∨ q = 1 ∨ q = 2 ∨ q = 3 ∨ q = 4 ∨ q = 5 ∨ q = 6 ∨ q = 7 ∨ q = 8 ∨ q = 9 ∨ q = 10 ∨ q = 11 := by omega
    clear HK7 hr2 HA7 HR7
    obtain ⟨gb, hxA, hgS, hcells, hfz⟩ := HX5.out.at_ hlk
    have hbc : x.body.length ≤ x.c := HX5.out.body.cap
    have HCELLS := Lib.hid hcells
    have HFZ := Lib.hid hfz
    have HGS := Lib.hid hgS
    rw [hxA] at x2
    have HXA := Lib.hid hxA
    clear hcells hfz hgS hxA
    rcases hq12 with rfl | rfl | rfl | rfl | rfl | rfl | rfl | rfl | rfl | rfl | rfl | rfl
    · have y0 := HS5.out.blk.frozen 0
      go_upto_region 44 with (first
        | (go_at_call 21; first | (refine (HQ.out _).mono ?_; rintro e w4 ⟨rfl, rfl⟩) | (refine (HAR.out _ _ (by omega)).mono ?_; rintro e w4 ⟨rfl, rfl⟩)))
      obtain ⟨W6, hW6⟩ : ∃ W, W = W5.setCell ⟨B, 0, none⟩ (.int .i64 (nr - 4)) := ⟨_, rfl⟩
      obtain ⟨y, hy⟩ : ∃ y : Ent, y = x := ⟨_, rfl⟩
      obtain ⟨ch6, hch6⟩ : ∃ z : Int, z = nr - 4 := ⟨_, rfl⟩
      obtain ⟨es6, hes6⟩ : ∃ z : List Ent, z = fs := ⟨_, rfl⟩
      obtain ⟨A6, hA6⟩ : ∃ z : Option Addr, z = (some ⟨bF, 0, none⟩) := ⟨_, rfl⟩
      obtain ⟨c6, hc6⟩ : ∃ z : Nat, z = c1' := ⟨_, rfl⟩
      have HSC : Hid (Sx (m + 39) w W6 B g ch6 A6 c6 es6 y) := Lib.hid (by rw [hW6, hy, hch6, hes6, hA6, hc6]; exact (HS5.out.chans (by omega)).up (by omega))
      have hlf6 : f < es6.length := by rw [hes6]; omega
      have hln6 : 1 ≤ es6.length ∧ es6.length ≤ fs.length + 7 := by rw [hes6]; omega
      rw [← hW6]
      clear hW6 hy hch6 hA6 hc6
      clear hes6 b0 b1 x2
      obtain ⟨t0, t1, t2, t3⟩ : W6.cell? ⟨g, 0, none⟩ = some (.int .i64 y.p) ∧ W6.cell? ⟨g, 1, none⟩ = some (.int .i64 y.w) ∧ W6.cell? ⟨g, 2, none⟩ = some (.slice y.A y.body.length y.c) ∧ W6.cell? ⟨g, 3, none⟩ = some (.slice none 0 0) := ⟨HSC.out.xb.cell 0, HSC.out.xb.cell 1, HSC.out.xb.cell 2, HSC.out.xb.cell 3⟩
      have u1 : W6.cell? ⟨B, 1, none⟩ = some (.slice A6 es6.length c6) := HSC.out.blk.cell 1
      obtain ⟨bG, hbG, hbG2, hbGg, hfr, hcl, hend⟩ := HSC.out.end_ hlf6
      subst hbG
      obtain ⟨W7, hW7⟩ : ∃ W, W = (((W6.setCell ⟨bG, f * 4, none⟩ (.int .i64 y.p)).setCell ⟨bG, f * 4 + 1, none⟩ (.int .i64 y.w)).setCell ⟨bG, f * 4 + 2, none⟩ (.slice y.A y.body.length y.c)).setCell ⟨bG, f * 4 + 3, none⟩ (.slice none 0 0) := ⟨_, rfl⟩
      obtain ⟨kb7, kr7, hco7, hb7, hm7⟩ := hend W7 hW7
      obtain ⟨v0, l0⟩ := hcl 0 (by omega)
      rw [Nat.add_zero] at l0
      obtain ⟨v1, l1⟩ := hcl 1 (by omega)
      obtain ⟨v2, l2⟩ := hcl 2 (by omega)
      obtain ⟨v3, l3⟩ := hcl 3 (by omega)
      have z0 := hfr (f * 4); have z1 := hfr (f * 4 + 1); have z2 := hfr (f * 4 + 2); have z3 := hfr (f * 4 + 3)
      have hif : (0 : Int) ≤ (f : Int) ∧ (f : Int) < (es6.length : Int) := ⟨by omega, by omega⟩
      have HCO7 := Lib.hid hco7
      have HB7 := Lib.hid hb7
      have HM7 := Lib.hid hm7
      have HW7 := Lib.hid hW7
      have HK7 := Lib.hid kb7
      have HR7 := Lib.hid kr7
      clear hend hfr hcl hW7 kb7 kr7 hco7 hb7 hm7
      go_upto_region 45 with fail
      rw [← HW7.out]
      clear l0 l1 l2 l3 z0 z1 z2 z3 t0 t1 t2 t3 u1
      obtain ⟨n0, n1⟩ : W7.cell? ⟨B, 0, none⟩ = some (.int .i64 ch6) ∧ W7.cell? ⟨B, 1, none⟩ = some (.slice (some ⟨bG, 0, none⟩) es6.length c6) := ⟨HK7.out.cell 0, HK7.out.cell 1⟩
      obtain ⟨r0, r1, q0, q1⟩ : W7.cell? ⟨B + 1, 0, none⟩ = some (.int .i64 0) ∧ W7.cell? ⟨B + 1, 1, none⟩ = some (.slice none 0 0) ∧ W7.frozen? ⟨B + 1, 0, none⟩ = false ∧ W7.frozen? ⟨B + 1, 1, none⟩ = false := ⟨HR7.out.cell 0, HR7.out.cell 1, HR7.out.frozen 0, HR7.out.frozen 1⟩
      go_wp2_with fail
      rw [HP.out]
      refine bodyPost_ret (v := .agg #[.int .i64 ch6, .slice (some ⟨bG, 0, none⟩) es6.length c6]) (by simp [results, Tryd.results9, go_sem, r0, r1]) rfl ?_
      have hlast := spo_post (m := m) (n := es.length) HB.out HCO7.out HB7.out HSC.out.cb (by rw [List.length_set, HNN.out]; exact hln6) HM7.out (.int .i64 ch6) (.slice (some ⟨bG, 0, none⟩) es6.length c6)
      rw [List.length_set] at hlast
      exact hlast
    · have y0 := HS5.out.xb.frozen 0
      have y1 : W5.cell? ⟨g, 0, none⟩ = some (.int .i64 x.p) := HS5.out.xb.cell 0
      go_upto_region 44 with (first
        | (go_at_call 21; first | (refine (HQ.out _).mono ?_; rintro e w4 ⟨rfl, rfl⟩) | (refine (HAR.out _ _ (by omega)).mono ?_; rintro e w4 ⟨rfl, rfl⟩)))
      obtain ⟨W6, hW6⟩ : ∃ W, W = W5.setCell ⟨g, 0, none⟩ (.int .i64 (nr - 4)) := ⟨_, rfl⟩
      obtain ⟨y, hy⟩ : ∃ y : Ent, y = ⟨nr - 4, x.w, x.A, x.c, x.body⟩ := ⟨_, rfl⟩
      obtain ⟨ch6, hch6⟩ : ∃ z : Int, z = ch := ⟨_, rfl⟩
      obtain ⟨es6, hes6⟩ : ∃ z : List Ent, z = fs := ⟨_, rfl⟩
      obtain ⟨A6, hA6⟩ : ∃ z : Option Addr, z = (some ⟨bF, 0, none⟩) := ⟨_, rfl⟩
      obtain ⟨c6, hc6⟩ : ∃ z : Nat, z = c1' := ⟨_, rfl⟩
      have HSC : Hid (Sx (m + 39) w W6 B g ch6 A6 c6 es6 y) := Lib.hid (by rw [hW6, hy, hch6, hes6, hA6, hc6]; exact (HS5.out.params (by unfold inRange; omega)).up (by omega))
      have hlf6 : f < es6.length := by rw [hes6]; omega
      have hln6 : 1 ≤ es6.length ∧ es6.length ≤ fs.length + 7 := by rw [hes6]; omega
      rw [← hW6]
      clear hW6 hy hch6 hA6 hc6
      clear hes6 b0 b1 x2
      obtain ⟨t0, t1, t2, t3⟩ : W6.cell? ⟨g, 0, none⟩ = some (.int .i64 y.p) ∧ W6.cell? ⟨g, 1, none⟩ = some (.int .i64 y.w) ∧ W6.cell? ⟨g, 2, none⟩ = some (.slice y.A y.body.length y.c) ∧ W6.cell? ⟨g, 3, none⟩ = some (.slice none 0 0) := ⟨HSC.out.xb.cell 0, HSC.out.xb.cell 1, HSC.out.xb.cell 2, HSC.out.xb.cell 3⟩
      have u1 : W6.cell? ⟨B, 1, none⟩ = some (.slice A6 es6.length c6) := HSC.out.blk.cell 1
      obtain ⟨bG, hbG, hbG2, hbGg, hfr, hcl, hend⟩ := HSC.out.end_ hlf6
      subst hbG
      obtain ⟨W7, hW7⟩ : ∃ W, W = (((W6.setCell ⟨bG, f * 4, none⟩ (.int .i64 y.p)).setCell ⟨bG, f * 4 + 1, none⟩ (.int .i64 y.w)).setCell ⟨bG, f * 4 + 2, none⟩ (.slice y.A y.body.length y.c)).setCell ⟨bG, f * 4 + 3, none⟩ (.slice none 0 0) := ⟨_, rfl⟩
      obtain ⟨kb7, kr7, hco7, hb7, hm7⟩ := hend W7 hW7
      obtain ⟨v0, l0⟩ := hcl 0 (by omega)
      rw [Nat.add_zero] at l0
      obtain ⟨v1, l1⟩ := hcl 1 (by omega)
      obtain ⟨v2, l2⟩ := hcl 2 (by omega)
      obtain ⟨v3, l3⟩ := hcl 3 (by omega)
      have z0 := hfr (f * 4); have z1 := hfr (f * 4 + 1); have z2 := hfr (f * 4 + 2); have z3 := hfr (f * 4 + 3)
      have hif : (0 : Int) ≤ (f : Int) ∧ (f : Int) < (es6.length : Int) := ⟨by omega, by omega⟩
      have HCO7 := Lib.hid hco7
      have HB7 := Lib.hid hb7
      have HM7 := Lib.hid hm7
      have HW7 := Lib.hid hW7
      have HK7 := Lib.hid kb7
      have HR7 := Lib.hid kr7
      clear hend hfr hcl hW7 kb7 kr7 hco7 hb7 hm7
      go_upto_region 45 with fail
      rw [← HW7.out]
      clear l0 l1 l2 l3 z0 z1 z2 z3 t0 t1 t2 t3 u1
      obtain ⟨n0, n1⟩ : W7.cell? ⟨B, 0, none⟩ = some (.int .i64 ch6) ∧ W7.cell? ⟨B, 1, none⟩ = some (.slice (some ⟨bG, 0, none⟩) es6.length c6) := ⟨HK7.out.cell 0, HK7.out.cell 1⟩
      obtain ⟨r0, r1, q0, q1⟩ : W7.cell? ⟨B + 1, 0, none⟩ = some (.int .i64 0) ∧ W7.cell? ⟨B + 1, 1, none⟩ = some (.slice none 0 0) ∧ W7.frozen? ⟨B + 1, 0, none⟩ = false ∧ W7.frozen? ⟨B + 1, 1, none⟩ = false := ⟨HR7.out.cell 0, HR7.out.cell 1, HR7.out.frozen 0, HR7.out.frozen 1⟩
      go_wp2_with fail
      rw [HP.out]
      refine bodyPost_ret (v := .agg #[.int .i64 ch6, .slice (some ⟨bG, 0, none⟩) es6.length c6]) (by simp [results, Tryd.results9, go_sem, r0, r1]) rfl ?_
      have hlast := spo_post (m := m) (n := es.length) HB.out HCO7.out HB7.out HSC.out.cb (by rw [List.length_set, HNN.out]; exact hln6) HM7.out (.int .i64 ch6) (.slice (some ⟨bG, 0, none⟩) es6.length c6)
      rw [List.length_set] at hlast
      exact hlast
    · have y0 := HS5.out.xb.frozen 1
      have y1 : W5.cell? ⟨g, 1, none⟩ = some (.int .i64 x.w) := HS5.out.xb.cell 1
      go_upto_region 44 with (first
        | (go_at_call 21; first | (refine (HQ.out _).mono ?_; rintro e w4 ⟨rfl, rfl⟩) | (refine (HAR.out _ _ (by omega)).mono ?_; rintro e w4 ⟨rfl, rfl⟩)))
      obtain ⟨W6, hW6⟩ : ∃ W, W = W5.setCell ⟨g, 1, none⟩ (.int .i64 (nr - 4)) := ⟨_, rfl⟩
      obtain ⟨y, hy⟩ : ∃ y : Ent, y = ⟨x.p, nr - 4, x.A, x.c, x.body⟩ := ⟨_, rfl⟩
      obtain ⟨ch6, hch6⟩ : ∃ z : Int, z = ch := ⟨_, rfl⟩
      obtain ⟨es6, hes6⟩ : ∃ z : List Ent, z = fs := ⟨_, rfl⟩
      obtain ⟨A6, hA6⟩ : ∃ z : Option Addr, z = (some ⟨bF, 0, none⟩) := ⟨_, rfl⟩
      obtain ⟨c6, hc6⟩ : ∃ z : Nat, z = c1' := ⟨_, rfl⟩
      have HSC : Hid (Sx (m + 39) w W6 B g ch6 A6 c6 es6 y) := Lib.hid (by rw [hW6, hy, hch6, hes6, hA6, hc6]; exact (HS5.out.words (by unfold inRange; omega)).up (by omega))
      have hlf6 : f < es6.length := by rw [hes6]; omega
      have hln6 : 1 ≤ es6.length ∧ es6.length ≤ fs.length + 7 := by rw [hes6]; omega
      rw [← hW6]
      clear hW6 hy hch6 hA6 hc6
      clear hes6 b0 b1 x2
      obtain ⟨t0, t1, t2, t3⟩ : W6.cell? ⟨g, 0, none⟩ = some (.int .i64 y.p) ∧ W6.cell? ⟨g, 1, none⟩ = some (.int .i64 y.w) ∧ W6.cell? ⟨g, 2, none⟩ = some (.slice y.A y.body.length y.c) ∧ W6.cell? ⟨g, 3, none⟩ = some (.slice none 0 0) := ⟨HSC.out.xb.cell 0, HSC.out.xb.cell 1, HSC.out.xb.cell 2, HSC.out.xb.cell 3⟩
      have u1 : W6.cell? ⟨B, 1, none⟩ = some (.slice A6 es6.length c6) := HSC.out.blk.cell 1
      obtain ⟨bG, hbG, hbG2, hbGg, hfr, hcl, hend⟩ := HSC.out.end_ hlf6
      subst hbG
      obtain ⟨W7, hW7⟩ : ∃ W, W = (((W6.setCell ⟨bG, f * 4, none⟩ (.int .i64 y.p)).setCell ⟨bG, f * 4 + 1, none⟩ (.int .i64 y.w)).setCell ⟨bG, f * 4 + 2, none⟩ (.slice y.A y.body.length y.c)).setCell ⟨bG, f * 4 + 3, none⟩ (.slice none 0 0) := ⟨_, rfl⟩
      obtain ⟨kb7, kr7, hco7, hb7, hm7⟩ := hend W7 hW7
      obtain ⟨v0, l0⟩ := hcl 0 (by omega)
      rw [Nat.add_zero] at l0
      obtain ⟨v1, l1⟩ := hcl 1 (by omega)
      obtain ⟨v2, l2⟩ := hcl 2 (by omega)
      obtain ⟨v3, l3⟩ := hcl 3 (by omega)
      have z0 := hfr (f * 4); have z1 := hfr (f * 4 + 1); have z2 := hfr (f * 4 + 2); have z3 := hfr (f * 4 + 3)
      have hif : (0 : Int) ≤ (f : Int) ∧ (f : Int) < (es6.length : Int) := ⟨by omega, by omega⟩
      have HCO7 := Lib.hid hco7
      have HB7 := Lib.hid hb7
      have HM7 := Lib.hid hm7
      have HW7 := Lib.hid hW7
      have HK7 := Lib.hid kb7
      have HR7 := Lib.hid kr7
      clear hend hfr hcl hW7 kb7 kr7 hco7 hb7 hm7
      go_upto_region 45 with fail
      rw [← HW7.out]
      clear l0 l1 l2 l3 z0 z1 z2 z3 t0 t1 t2 t3 u1
      obtain ⟨n0, n1⟩ : W7.cell? ⟨B, 0, none⟩ = some (.int .i64 ch6) ∧ W7.cell? ⟨B, 1, none⟩ = some (.slice (some ⟨bG, 0, none⟩) es6.length c6) := ⟨HK7.out.cell 0, HK7.out.cell 1⟩
      obtain ⟨r0, r1, q0, q1⟩ : W7.cell? ⟨B + 1, 0, none⟩ = some (.int .i64 0) ∧ W7.cell? ⟨B + 1, 1, none⟩ = some (.slice none 0 0) ∧ W7.frozen? ⟨B + 1, 0, none⟩ = false ∧ W7.frozen? ⟨B + 1, 1, none⟩ = false := ⟨HR7.out.cell 0, HR7.out.cell 1, HR7.out.frozen 0, HR7.out.frozen 1⟩
      go_wp2_with fail
      rw [HP.out]
      refine bodyPost_ret (v := .agg #[.int .i64 ch6, .slice (some ⟨bG, 0, none⟩) es6.length c6]) (by simp [results, Tryd.results9, go_sem, r0, r1]) rfl ?_
      have hlast := spo_post (m := m) (n := es.length) HB.out HCO7.out HB7.out HSC.out.cb (by rw [List.length_set, HNN.out]; exact hln6) HM7.out (.int .i64 ch6) (.slice (some ⟨bG, 0, none⟩) es6.length c6)
      rw [List.length_set] at hlast
      exact hlast
    · obtain ⟨z0, l0⟩ := HCELLS.out 0 (by omega)
      have q0 := HFZ.out (k * 3)
      have hlk2 : (0 : Int) ≤ (k : Int) ∧ (k : Int) < (x.body.length : Int) := ⟨by omega, by omega⟩
      rw [Nat.add_zero] at l0
      have hrn := arnd_lt (x := by_) (n := 21) (by omega)
      obtain ⟨v, hv⟩ : ∃ v, v = arnd by_ 21 := ⟨_, rfl⟩
      rw [← hv] at hrn
      have HV : Hid (∀ W, Calls Tryd.prog 21 #[.int .i64 by_, .int .i64 21] W fun e w' => e = .returned (.int .i64 v) ∧ W = w') := Lib.hid fun W => by rw [hv]; exact HAR.out _ W (by omega)
      have hwv : IntKind.i64.wrap (v - 1) = v - 1 := by rw [IntKind.wrap_i64]; omega
      clear hv
      obtain ⟨es5, x5, hl5, hS6⟩ := Sx.cells HS5.out HO5.out HX5.out HGS.out k 0 (by omega) (u := v - 1) (by unfold inRange; omega)
      have HS6 := Lib.hid hS6
      clear hS6
      go_upto_region 27 with (first
        | (go_at_call 21; first | (refine (HQ.out _).mono ?_; rintro e w4 ⟨rfl, rfl⟩) | (refine (HAR.out _ _ (by omega)).mono ?_; rintro e w4 ⟨rfl, rfl⟩)))
      go_region_with (go_at_call 21; refine (HV.out _).mono ?_; rintro e w4 ⟨rfl, rfl⟩)
      all_goals
        go_upto_region 44 with fail
        obtain ⟨W6, hW6⟩ : ∃ W, W = (W5.setCell ⟨gb, k * 3, none⟩ (.int .i64 (v - 1))).drew := ⟨_, rfl⟩
        obtain ⟨y, hy⟩ : ∃ y : Ent, y = x5 := ⟨_, rfl⟩
        obtain ⟨ch6, hch6⟩ : ∃ z : Int, z = ch := ⟨_, rfl⟩
        obtain ⟨es6, hes6⟩ : ∃ z : List Ent, z = es5 := ⟨_, rfl⟩
        obtain ⟨A6, hA6⟩ : ∃ z : Option Addr, z = (some ⟨bF, 0, none⟩) := ⟨_, rfl⟩
        obtain ⟨c6, hc6⟩ : ∃ z : Nat, z = c1' := ⟨_, rfl⟩
        have HSC : Hid (Sx (m + 39) w W6 B g ch6 A6 c6 es6 y) := Lib.hid (by rw [hW6, hy, hch6, hes6, hA6, hc6]; exact HS6.out.drew.up (by omega))
        have hlf6 : f < es6.length := by rw [hes6]; omega
        have hln6 : 1 ≤ es6.length ∧ es6.length ≤ fs.length + 7 := by rw [hes6]; omega
        rw [← hW6]
        clear hW6 hy hch6 hA6 hc6
        clear hes6 b0 b1 x2 l0 q0
        obtain ⟨t0, t1, t2, t3⟩ : W6.cell? ⟨g, 0, none⟩ = some (.int .i64 y.p) ∧ W6.cell? ⟨g, 1, none⟩ = some (.int .i64 y.w) ∧ W6.cell? ⟨g, 2, none⟩ = some (.slice y.A y.body.length y.c) ∧ W6.cell? ⟨g, 3, none⟩ = some (.slice none 0 0) := ⟨HSC.out.xb.cell 0, HSC.out.xb.cell 1, HSC.out.xb.cell 2, HSC.out.xb.cell 3⟩
        have u1 : W6.cell? ⟨B, 1, none⟩ = some (.slice A6 es6.length c6) := HSC.out.blk.cell 1
        obtain ⟨bG, hbG, hbG2, hbGg, hfr, hcl, hend⟩ := HSC.out.end_ hlf6
        subst hbG
        obtain ⟨W7, hW7⟩ : ∃ W, W = (((W6.setCell ⟨bG, f * 4, none⟩ (.int .i64 y.p)).setCell ⟨bG, f * 4 + 1, none⟩ (.int .i64 y.w)).setCell ⟨bG, f * 4 + 2, none⟩ (.slice y.A y.body.length y.c)).setCell ⟨bG, f * 4 + 3, none⟩ (.slice none 0 0) := ⟨_, rfl⟩
        obtain ⟨kb7, kr7, hco7, hb7, hm7⟩ := hend W7 hW7
        obtain ⟨v0, l0⟩ := hcl 0 (by omega)
        rw [Nat.add_zero] at l0
        obtain ⟨v1, l1⟩ := hcl 1 (by omega)
        obtain ⟨v2, l2⟩ := hcl 2 (by omega)
        obtain ⟨v3, l3⟩ := hcl 3 (by omega)
        have z0 := hfr (f * 4); have z1 := hfr (f * 4 + 1); have z2 := hfr (f * 4 + 2); have z3 := hfr (f * 4 + 3)
        have hif : (0 : Int) ≤ (f : Int) ∧ (f : Int) < (es6.length : Int) := ⟨by omega, by omega⟩
        have HCO7 := Lib.hid hco7
        have HB7 := Lib.hid hb7
        have HM7 := Lib.hid hm7
        have HW7 := Lib.hid hW7
        have HK7 := Lib.hid kb7
        have HR7 := Lib.hid kr7
        clear hend hfr hcl hW7 kb7 kr7 hco7 hb7 hm7
        go_upto_region 45 with fail
        rw [← HW7.out]
        clear l0 l1 l2 l3 z0 z1 z2 z3 t0 t1 t2 t3 u1
        obtain ⟨n0, n1⟩ : W7.cell? ⟨B, 0, none⟩ = some (.int .i64 ch6) ∧ W7.cell? ⟨B, 1, none⟩ = some (.slice (some ⟨bG, 0, none⟩) es6.length c6) := ⟨HK7.out.cell 0, HK7.out.cell 1⟩
        obtain ⟨r0, r1, q0, q1⟩ : W7.cell? ⟨B + 1, 0, none⟩ = some (.int .i64 0) ∧ W7.cell? ⟨B + 1, 1, none⟩ = some (.slice none 0 0) ∧ W7.frozen? ⟨B + 1, 0, none⟩ = false ∧ W7.frozen? ⟨B + 1, 1, none⟩ = false := ⟨HR7.out.cell 0, HR7.out.cell 1, HR7.out.frozen 0, HR7.out.frozen 1⟩
        go_wp2_with fail
        rw [HP.out]
        refine bodyPost_ret (v := .agg #[.int .i64 ch6, .slice (some ⟨bG, 0, none⟩) es6.length c6]) (by simp [results, Tryd.results9, go_sem, r0, r1]) rfl ?_
        have hlast := spo_post (m := m) (n := es.length) HB.out HCO7.out HB7.out HSC.out.cb (by rw [List.length_set, HNN.out]; exact hln6) HM7.out (.int .i64 ch6) (.slice (some ⟨bG, 0, none⟩) es6.length c6)
        rw [List.length_set] at hlast
        exact hlast
    · obtain ⟨z0, l0⟩ := HCELLS.out 0 (by omega)
      have q0 := HFZ.out (k * 3)
      have hlk2 : (0 : Int) ≤ (k : Int) ∧ (k : Int) < (x.body.length : Int) := ⟨by omega, by omega⟩
      rw [Nat.add_zero] at l0
      have hrn := arnd_lt (x := by_) (n := 21) (by omega)
      obtain ⟨v, hv⟩ : ∃ v, v = arnd by_ 21 := ⟨_, rfl⟩
      rw [← hv] at hrn
      have HV : Hid (∀ W, Calls Tryd.prog 21 #[.int .i64 by_, .int .i64 21] W fun e w' => e = .returned (.int .i64 v) ∧ W = w') := Lib.hid fun W => by rw [hv]; exact HAR.out _ W (by omega)
      have hwv : IntKind.i64.wrap (v - 1) = v - 1 := by rw [IntKind.wrap_i64]; omega
      clear hv
      obtain ⟨es5, x5, hl5, hS6⟩ := Sx.cells HS5.out HO5.out HX5.out HGS.out k 0 (by omega) (u := v - 1) (by unfold inRange; omega)
      have HS6 := Lib.hid hS6
      clear hS6
      go_upto_region 27 with (first
        | (go_at_call 21; first | (refine (HQ.out _).mono ?_; rintro e w4 ⟨rfl, rfl⟩) | (refine (HAR.out _ _ (by omega)).mono ?_; rintro e w4 ⟨rfl, rfl⟩)))
      go_region_with (go_at_call 21; refine (HV.out _).mono ?_; rintro e w4 ⟨rfl, rfl⟩)
      all_goals
        go_upto_region 44 with fail
        obtain ⟨W6, hW6⟩ : ∃ W, W = (W5.setCell ⟨gb, k * 3, none⟩ (.int .i64 (v - 1))).drew := ⟨_, rfl⟩
        obtain ⟨y, hy⟩ : ∃ y : Ent, y = x5 := ⟨_, rfl⟩
        obtain ⟨ch6, hch6⟩ : ∃ z : Int, z = ch := ⟨_, rfl⟩
        obtain ⟨es6, hes6⟩ : ∃ z : List Ent, z = es5 := ⟨_, rfl⟩
        obtain ⟨A6, hA6⟩ : ∃ z : Option Addr, z = (some ⟨bF, 0, none⟩) := ⟨_, rfl⟩
        obtain ⟨c6, hc6⟩ : ∃ z : Nat, z = c1' := ⟨_, rfl⟩
        have HSC : Hid (Sx (m + 39) w W6 B g ch6 A6 c6 es6 y) := Lib.hid (by rw [hW6, hy, hch6, hes6, hA6, hc6]; exact HS6.out.drew.up (by omega))
        have hlf6 : f < es6.length := by rw [hes6]; omega
        have hln6 : 1 ≤ es6.length ∧ es6.length ≤ fs.length + 7 := by rw [hes6]; omega
        rw [← hW6]
        clear hW6 hy hch6 hA6 hc6
        clear hes6 b0 b1 x2 l0 q0
        obtain ⟨t0, t1, t2, t3⟩ : W6.cell? ⟨g, 0, none⟩ = some (.int .i64 y.p) ∧ W6.cell? ⟨g, 1, none⟩ = some (.int .i64 y.w) ∧ W6.cell? ⟨g, 2, none⟩ = some (.slice y.A y.body.length y.c) ∧ W6.cell? ⟨g, 3, none⟩ = some (.slice none 0 0) := ⟨HSC.out.xb.cell 0, HSC.out.xb.cell 1, HSC.out.xb.cell 2, HSC.out.xb.cell 3⟩
        have u1 : W6.cell? ⟨B, 1, none⟩ = some (.slice A6 es6.length c6) := HSC.out.blk.cell 1
        obtain ⟨bG, hbG, hbG2, hbGg, hfr, hcl, hend⟩ := HSC.out.end_ hlf6
        subst hbG
        obtain ⟨W7, hW7⟩ : ∃ W, W = (((W6.setCell ⟨bG, f * 4, none⟩ (.int .i64 y.p)).setCell ⟨bG, f * 4 + 1, none⟩ (.int .i64 y.w)).setCell ⟨bG, f * 4 + 2, none⟩ (.slice y.A y.body.length y.c)).setCell ⟨bG, f * 4 + 3, none⟩ (.slice none 0 0) := ⟨_, rfl⟩
        obtain ⟨kb7, kr7, hco7, hb7, hm7⟩ := hend W7 hW7
        obtain ⟨v0, l0⟩ := hcl 0 (by omega)
        rw [Nat.add_zero] at l0
        obtain ⟨v1, l1⟩ := hcl 1 (by omega)
        obtain ⟨v2, l2⟩ := hcl 2 (by omega)
        obtain ⟨v3, l3⟩ := hcl 3 (by omega)
        have z0 := hfr (f * 4); have z1 := hfr (f * 4 + 1); have z2 := hfr (f * 4 + 2); have z3 := hfr (f * 4 + 3)
        have hif : (0 : Int) ≤ (f : Int) ∧ (f : Int) < (es6.length : Int) := ⟨by omega, by omega⟩
        have HCO7 := Lib.hid hco7
        have HB7 := Lib.hid hb7
        have HM7 := Lib.hid hm7
        have HW7 := Lib.hid hW7
        have HK7 := Lib.hid kb7
        have HR7 := Lib.hid kr7
        clear hend hfr hcl hW7 kb7 kr7 hco7 hb7 hm7
        go_upto_region 45 with fail
        rw [← HW7.out]
        clear l0 l1 l2 l3 z0 z1 z2 z3 t0 t1 t2 t3 u1
        obtain ⟨n0, n1⟩ : W7.cell? ⟨B, 0, none⟩ = some (.int .i64 ch6) ∧ W7.cell? ⟨B, 1, none⟩ = some (.slice (some ⟨bG, 0, none⟩) es6.length c6) := ⟨HK7.out.cell 0, HK7.out.cell 1⟩
        obtain ⟨r0, r1, q0, q1⟩ : W7.cell? ⟨B + 1, 0, none⟩ = some (.int .i64 0) ∧ W7.cell? ⟨B + 1, 1, none⟩ = some (.slice none 0 0) ∧ W7.frozen? ⟨B + 1, 0, none⟩ = false ∧ W7.frozen? ⟨B + 1, 1, none⟩ = false := ⟨HR7.out.cell 0, HR7.out.cell 1, HR7.out.frozen 0, HR7.out.frozen 1⟩
        go_wp2_with fail
        rw [HP.out]
        refine bodyPost_ret (v := .agg #[.int .i64 ch6, .slice (some ⟨bG, 0, none⟩) es6.length c6]) (by simp [results, Tryd.results9, go_sem, r0, r1]) rfl ?_
        have hlast := spo_post (m := m) (n := es.length) HB.out HCO7.out HB7.out HSC.out.cb (by rw [List.length_set, HNN.out]; exact hln6) HM7.out (.int .i64 ch6) (.slice (some ⟨bG, 0, none⟩) es6.length c6)
        rw [List.length_set] at hlast
        exact hlast
    · obtain ⟨z0, l0⟩ := HCELLS.out 1 (by omega)
      have q0 := HFZ.out (k * 3 + 1)
      have hlk2 : (0 : Int) ≤ (k : Int) ∧ (k : Int) < (x.body.length : Int) := ⟨by omega, by omega⟩
      obtain ⟨es5, x5, hl5, hS6⟩ := Sx.cells HS5.out HO5.out HX5.out HGS.out k 1 (by omega) (u := nr - 4) (by unfold inRange; omega)
      have HS6 := Lib.hid hS6
      clear hS6
      go_upto_region 29 with (first
        | (go_at_call 21; first | (refine (HQ.out _).mono ?_; rintro e w4 ⟨rfl, rfl⟩) | (refine (HAR.out _ _ (by omega)).mono ?_; rintro e w4 ⟨rfl, rfl⟩)))
      go_upto_region 44 with fail
      obtain ⟨W6, hW6⟩ : ∃ W, W = W5.setCell ⟨gb, k * 3 + 1, none⟩ (.int .i64 (nr - 4)) := ⟨_, rfl⟩
      obtain ⟨y, hy⟩ : ∃ y : Ent, y = x5 := ⟨_, rfl⟩
      obtain ⟨ch6, hch6⟩ : ∃ z : Int, z = ch := ⟨_, rfl⟩
      obtain ⟨es6, hes6⟩ : ∃ z : List Ent, z = es5 := ⟨_, rfl⟩
      obtain ⟨A6, hA6⟩ : ∃ z : Option Addr, z = (some ⟨bF, 0, none⟩) := ⟨_, rfl⟩
      obtain ⟨c6, hc6⟩ : ∃ z : Nat, z = c1' := ⟨_, rfl⟩
      have HSC : Hid (Sx (m + 39) w W6 B g ch6 A6 c6 es6 y) := Lib.hid (by rw [hW6, hy, hch6, hes6, hA6, hc6]; exact HS6.out.up (by omega))
      have hlf6 : f < es6.length := by rw [hes6]; omega
      have hln6 : 1 ≤ es6.length ∧ es6.length ≤ fs.length + 7 := by rw [hes6]; omega
      rw [← hW6]
      clear hW6 hy hch6 hA6 hc6
      clear hes6 b0 b1 x2 l0 q0
      obtain ⟨t0, t1, t2, t3⟩ : W6.cell? ⟨g, 0, none⟩ = some (.int .i64 y.p) ∧ W6.cell? ⟨g, 1, none⟩ = some (.int .i64 y.w) ∧ W6.cell? ⟨g, 2, none⟩ = some (.slice y.A y.body.length y.c) ∧ W6.cell? ⟨g, 3, none⟩ = some (.slice none 0 0) := ⟨HSC.out.xb.cell 0, HSC.out.xb.cell 1, HSC.out.xb.cell 2, HSC.out.xb.cell 3⟩
      have u1 : W6.cell? ⟨B, 1, none⟩ = some (.slice A6 es6.length c6) := HSC.out.blk.cell 1
      obtain ⟨bG, hbG, hbG2, hbGg, hfr, hcl, hend⟩ := HSC.out.end_ hlf6
      subst hbG
      obtain ⟨W7, hW7⟩ : ∃ W, W = (((W6.setCell ⟨bG, f * 4, none⟩ (.int .i64 y.p)).setCell ⟨bG, f * 4 + 1, none⟩ (.int .i64 y.w)).setCell ⟨bG, f * 4 + 2, none⟩ (.slice y.A y.body.length y.c)).setCell ⟨bG, f * 4 + 3, none⟩ (.slice none 0 0) := ⟨_, rfl⟩
      obtain ⟨kb7, kr7, hco7, hb7, hm7⟩ := hend W7 hW7
      obtain ⟨v0, l0⟩ := hcl 0 (by omega)
      rw [Nat.add_zero] at l0
      obtain ⟨v1, l1⟩ := hcl 1 (by omega)
      obtain ⟨v2, l2⟩ := hcl 2 (by omega)
      obtain ⟨v3, l3⟩ := hcl 3 (by omega)
      have z0 := hfr (f * 4); have z1 := hfr (f * 4 + 1); have z2 := hfr (f * 4 + 2); have z3 := hfr (f * 4 + 3)
      have hif : (0 : Int) ≤ (f : Int) ∧ (f : Int) < (es6.length : Int) := ⟨by omega, by omega⟩
      have HCO7 := Lib.hid hco7
      have HB7 := Lib.hid hb7
      have HM7 := Lib.hid hm7
      have HW7 := Lib.hid hW7
      have HK7 := Lib.hid kb7
      have HR7 := Lib.hid kr7
      clear hend hfr hcl hW7 kb7 kr7 hco7 hb7 hm7
      go_upto_region 45 with fail
      rw [← HW7.out]
      clear l0 l1 l2 l3 z0 z1 z2 z3 t0 t1 t2 t3 u1
      obtain ⟨n0, n1⟩ : W7.cell? ⟨B, 0, none⟩ = some (.int .i64 ch6) ∧ W7.cell? ⟨B, 1, none⟩ = some (.slice (some ⟨bG, 0, none⟩) es6.length c6) := ⟨HK7.out.cell 0, HK7.out.cell 1⟩
      obtain ⟨r0, r1, q0, q1⟩ : W7.cell? ⟨B + 1, 0, none⟩ = some (.int .i64 0) ∧ W7.cell? ⟨B + 1, 1, none⟩ = some (.slice none 0 0) ∧ W7.frozen? ⟨B + 1, 0, none⟩ = false ∧ W7.frozen? ⟨B + 1, 1, none⟩ = false := ⟨HR7.out.cell 0, HR7.out.cell 1, HR7.out.frozen 0, HR7.out.frozen 1⟩
      go_wp2_with fail
      rw [HP.out]
      refine bodyPost_ret (v := .agg #[.int .i64 ch6, .slice (some ⟨bG, 0, none⟩) es6.length c6]) (by simp [results, Tryd.results9, go_sem, r0, r1]) rfl ?_
      have hlast := spo_post (m := m) (n := es.length) HB.out HCO7.out HB7.out HSC.out.cb (by rw [List.length_set, HNN.out]; exact hln6) HM7.out (.int .i64 ch6) (.slice (some ⟨bG, 0, none⟩) es6.length c6)
      rw [List.length_set] at hlast
      exact hlast
    · obtain ⟨z0, l0⟩ := HCELLS.out 2 (by omega)
      have q0 := HFZ.out (k * 3 + 2)
      have hlk2 : (0 : Int) ≤ (k : Int) ∧ (k : Int) < (x.body.length : Int) := ⟨by omega, by omega⟩
      have hrn := arnd_lt (x := by_) (n := 7) (by omega)
      obtain ⟨v, hv⟩ : ∃ v, v = arnd by_ 7 := ⟨_, rfl⟩
      rw [← hv] at hrn
      have HV : Hid (∀ W, Calls Tryd.prog 21 #[.int .i64 by_, .int .i64 7] W fun e w' => e = .returned (.int .i64 v) ∧ W = w') := Lib.hid fun W => by rw [hv]; exact HAR.out _ W (by omega)
      have hwv : IntKind.i64.wrap (v - 1) = v - 1 := by rw [IntKind.wrap_i64]; omega
      clear hv
      obtain ⟨es5, x5, hl5, hS6⟩ := Sx.cells HS5.out HO5.out HX5.out HGS.out k 2 (by omega) (u := v - 1) (by unfold inRange; omega)
      have HS6 := Lib.hid hS6
      clear hS6
      go_upto_region 31 with (first
        | (go_at_call 21; first | (refine (HQ.out _).mono ?_; rintro e w4 ⟨rfl, rfl⟩) | (refine (HAR.out _ _ (by omega)).mono ?_; rintro e w4 ⟨rfl, rfl⟩)))
      go_region_with (go_at_call 21; refine (HV.out _).mono ?_; rintro e w4 ⟨rfl, rfl⟩)
      all_goals
        go_upto_region 44 with fail
        obtain ⟨W6, hW6⟩ : ∃ W, W = (W5.setCell ⟨gb, k * 3 + 2, none⟩ (.int .i64 (v - 1))).drew := ⟨_, rfl⟩
        obtain ⟨y, hy⟩ : ∃ y : Ent, y = x5 := ⟨_, rfl⟩
        obtain ⟨ch6, hch6⟩ : ∃ z : Int, z = ch := ⟨_, rfl⟩
        obtain ⟨es6, hes6⟩ : ∃ z : List Ent, z = es5 := ⟨_, rfl⟩
        obtain ⟨A6, hA6⟩ : ∃ z : Option Addr, z = (some ⟨bF, 0, none⟩) := ⟨_, rfl⟩
        obtain ⟨c6, hc6⟩ : ∃ z : Nat, z = c1' := ⟨_, rfl⟩
        have HSC : Hid (Sx (m + 39) w W6 B g ch6 A6 c6 es6 y) := Lib.hid (by rw [hW6, hy, hch6, hes6, hA6, hc6]; exact HS6.out.drew.up (by omega))
        have hlf6 : f < es6.length := by rw [hes6]; omega
        have hln6 : 1 ≤ es6.length ∧ es6.length ≤ fs.length + 7 := by rw [hes6]; omega
        rw [← hW6]
        clear hW6 hy hch6 hA6 hc6
        clear hes6 b0 b1 x2 l0 q0
        obtain ⟨t0, t1, t2, t3⟩ : W6.cell? ⟨g, 0, none⟩ = some (.int .i64 y.p) ∧ W6.cell? ⟨g, 1, none⟩ = some (.int .i64 y.w) ∧ W6.cell? ⟨g, 2, none⟩ = some (.slice y.A y.body.length y.c) ∧ W6.cell? ⟨g, 3, none⟩ = some (.slice none 0 0) := ⟨HSC.out.xb.cell 0, HSC.out.xb.cell 1, HSC.out.xb.cell 2, HSC.out.xb.cell 3⟩
        have u1 : W6.cell? ⟨B, 1, none⟩ = some (.slice A6 es6.length c6) := HSC.out.blk.cell 1
        obtain ⟨bG, hbG, hbG2, hbGg, hfr, hcl, hend⟩ := HSC.out.end_ hlf6
        subst hbG
        obtain ⟨W7, hW7⟩ : ∃ W, W = (((W6.setCell ⟨bG, f * 4, none⟩ (.int .i64 y.p)).setCell ⟨bG, f * 4 + 1, none⟩ (.int .i64 y.w)).setCell ⟨bG, f * 4 + 2, none⟩ (.slice y.A y.body.length y.c)).setCell ⟨bG, f * 4 + 3, none⟩ (.slice none 0 0) := ⟨_, rfl⟩
        obtain ⟨kb7, kr7, hco7, hb7, hm7⟩ := hend W7 hW7
        obtain ⟨v0, l0⟩ := hcl 0 (by omega)
        rw [Nat.add_zero] at l0
        obtain ⟨v1, l1⟩ := hcl 1 (by omega)
        obtain ⟨v2, l2⟩ := hcl 2 (by omega)
        obtain ⟨v3, l3⟩ := hcl 3 (by omega)
        have z0 := hfr (f * 4); have z1 := hfr (f * 4 + 1); have z2 := hfr (f * 4 + 2); have z3 := hfr (f * 4 + 3)
        have hif : (0 : Int) ≤ (f : Int) ∧ (f : Int) < (es6.length : Int) := ⟨by omega, by omega⟩
        have HCO7 := Lib.hid hco7
        have HB7 := Lib.hid hb7
        have HM7 := Lib.hid hm7
        have HW7 := Lib.hid hW7
        have HK7 := Lib.hid kb7
        have HR7 := Lib.hid kr7
        clear hend hfr hcl hW7 kb7 kr7 hco7 hb7 hm7
        go_upto_region 45 with fail
        rw [← HW7.out]
        clear l0 l1 l2 l3 z0 z1 z2 z3 t0 t1 t2 t3 u1
        obtain ⟨n0, n1⟩ : W7.cell? ⟨B, 0, none⟩ = some (.int .i64 ch6) ∧ W7.cell? ⟨B, 1, none⟩ = some (.slice (some ⟨bG, 0, none⟩) es6.length c6) := ⟨HK7.out.cell 0, HK7.out.cell 1⟩
        obtain ⟨r0, r1, q0, q1⟩ : W7.cell? ⟨B + 1, 0, none⟩ = some (.int .i64 0) ∧ W7.cell? ⟨B + 1, 1, none⟩ = some (.slice none 0 0) ∧ W7.frozen? ⟨B + 1, 0, none⟩ = false ∧ W7.frozen? ⟨B + 1, 1, none⟩ = false := ⟨HR7.out.cell 0, HR7.out.cell 1, HR7.out.frozen 0, HR7.out.frozen 1⟩
        go_wp2_with fail
        rw [HP.out]
        refine bodyPost_ret (v := .agg #[.int .i64 ch6, .slice (some ⟨bG, 0, none⟩) es6.length c6]) (by simp [results, Tryd.results9, go_sem, r0, r1]) rfl ?_
        have hlast := spo_post (m := m) (n := es.length) HB.out HCO7.out HB7.out HSC.out.cb (by rw [List.length_set, HNN.out]; exact hln6) HM7.out (.int .i64 ch6) (.slice (some ⟨bG, 0, none⟩) es6.length c6)
        rw [List.length_set] at hlast
        exact hlast
    · obtain ⟨bk, hbk⟩ : ∃ z, z = x.body.take k := ⟨_, rfl⟩
      have hbl : bk.length = k := by rw [hbk, List.length_take, Nat.min_eq_left (by omega)]
      have hcut := cutI gb k x.body.length x.c hlk hbc
      have hx5 := HX5.out.body
      have hrd := hx5.rd
      rw [HXA.out] at hrd
      have hrk := rd_take hrd hlk
      rw [← hbk] at hrk
      obtain ⟨Wa, hWa⟩ : ∃ W, W = (W5.alloc (.cells #[] 54)).drew := ⟨_, rfl⟩
      obtain ⟨G, hG⟩ : ∃ z, z = W5.heap.size := ⟨_, rfl⟩
      have hba : Below W5.heap.size W5 Wa := by rw [hWa]; exact (below_new _ _).drew
      have hsa : Wa.heap.size = G + 1 := by rw [hWa, hG]; exact size_alloc _ _
      have hkk : ∀ {W : World}, Below W5.heap.size W5 W → Keeps (fun b => B + 2 ≤ b ∧ b < W5.heap.size ∧ (Value.slice (some ⟨bF, 0, none⟩) fs.length c1').ownBlock ≠ some b ∧ b ≠ g) W5 W := fun hb b hb2 => hb.block b hb2.2.1
      have hin : ∀ {W : World}, Below W5.heap.size W5 W → In (fun b => B + 2 ≤ b ∧ b < W5.heap.size ∧ (Value.slice (some ⟨bF, 0, none⟩) fs.length c1').ownBlock ≠ some b ∧ b ≠ g) W.heap.size := fun hb b hb2 => Nat.lt_of_lt_of_le hb2.2.1 hb.size
      have hoa : Wa.ownsRow G 54 3 (.slice (some ⟨G, 0, none⟩) 0 0) 0 [] := by
        have h := own_lit (w := W5) (base := W5.heap.size) (e := 54) (size := 3) (xs := []) (n := 0) (Nat.le_refl _) rfl (len_le (by omega))
        rw [hWa, hG]
        exact h
      have hxm5 : x.body.length ≤ m := (HO5.out x hxm).2
      obtain ⟨v1, w1, happ1, hown1, hgrow1, hnew1⟩ := run_append_any (P := Tryd.prog) Wa G 49 49 54 j0 _ 3 24 Tryd.underlying49 hj hy0 hy1 hy2 rfl (by omega) (.slice (some ⟨G, 0, none⟩) 0 0) 0 [] hoa Wa.heap.size (some ⟨gb, 0, none⟩) k x.c (insCs bk) ((hrk.keep (hkk hba)).reads (hin hba)) (insCs_one bk) (len_le (by omega)) (by omega) (by omega)
      obtain ⟨A7, c7, rfl, _⟩ := own_len hown1
      rw [Nat.zero_add, List.nil_append] at hown1
      rw [Nat.zero_add] at happ1 hnew1
      have hb1 : Below W5.heap.size W5 w1 := ⟨hgrow1.os.trans hba.os, hgrow1.tape.trans hba.tape, hgrow1.output.trans hba.output, Nat.le_trans hba.size hgrow1.size, fun b hb => (hgrow1.block b (by omega) (fun e => by injection e with e; rw [← hG] at hb; exact absurd (e ▸ hb) (by show ¬ G < G; omega))).trans (hba.block b hb)⟩
      have hrj := rd_drop hrd (k := k + 1) (by omega) hbc
      have hcut2 : ∀ W : World, (Instr.sliceAt 49 (.slice (some ⟨gb, 0, none⟩) x.body.length x.c) (some (.int .i64 ((k : Int) + 1))) none none).run Tryd.prog W = .ok (.slice (some ⟨gb, if x.c = k + 1 then 0 else (k + 1) * 3, none⟩) (x.body.length - (k + 1)) (x.c - (k + 1))) W := fun W => by
        have := cutJ gb (k + 1) x.body.length x.c (by omega) hbc W
        rw [← this]
        rfl
      obtain ⟨oj, hoj⟩ : ∃ z, z = (if x.c = k + 1 then 0 else (k + 1) * 3) := ⟨_, rfl⟩
      rw [← hoj] at hrj hcut2
      obtain ⟨v2, w2, happ2, hown2, hgrow2, hnew2⟩ := run_append_any (P := Tryd.prog) w1 G 49 49 54 j0 _ 3 24 Tryd.underlying49 hj hy0 hy1 hy2 rfl (by omega) (.slice A7 k c7) k (insCs bk) hown1 w1.heap.size (some ⟨gb, oj, none⟩) (x.body.length - (k + 1)) (x.c - (k + 1)) (insCs (x.body.drop (k + 1))) ((hrj.keep (hkk hb1)).reads (hin hb1)) (insCs_one _) (len_le (by omega)) (by omega) (by have := hgrow1.size; omega)
      obtain ⟨A8, c8, rfl, hc8⟩ := own_len hown2
      obtain ⟨nb, hnb⟩ : ∃ z, z = bk ++ x.body.drop (k + 1) := ⟨_, rfl⟩
      have hnl : nb.length = k + (x.body.length - (k + 1)) := by rw [hnb, List.length_append, List.length_drop, hbl]
      rw [← insCs_append, ← hnb] at hown2
      rw [← hnl] at hown2 happ2 hnew2 hc8
      have hlt1 := hown1.lt
      have hb2 : Below W5.heap.size W5 w2 := ⟨hgrow2.os.trans hb1.os, hgrow2.tape.trans hb1.tape, hgrow2.output.trans hb1.output, Nat.le_trans hb1.size hgrow2.size, fun b hb => (hgrow2.block b (by have := hb1.size; omega) (fun e => by have := (hlt1 b e.symm).1; omega)).trans (hb1.block b hb)⟩
      have hS7 := HS5.out.next hb2
      have hok8 : ∀ y ∈ nb, okI y := fun y hy => by
        rw [hnb] at hy
        rcases List.mem_append.1 hy with hy | hy
        · rw [hbk] at hy; exact hx5.ok y (List.mem_of_mem_take hy)
        · exact hx5.ok y (List.mem_of_mem_drop hy)
      have hS8 := hS7.body (A' := A8) (c' := c8) (body := nb) ((Rd.of_own hown2).mono fun b hb => ⟨by have := HS5.out.gl; have := HS5.out.xb.lt; omega, hb.2, fun e => by have := (HS5.out.own.lt _ e).2; omega, by have := HS5.out.xb.lt; omega⟩) hc8 (by omega) (by omega) hok8
      have xa : (W5.alloc (.cells #[] 54)).drew.cell? ⟨g, 2, none⟩ = some (.slice (some ⟨gb, 0, none⟩) x.body.length x.c) := by
        have := (HS5.out.next hba).xb.cell 2
        rw [← hWa]
        rw [← HXA.out]; exact this
      have xd : W5.drew.cell? ⟨g, 2, none⟩ = some (.slice (some ⟨gb, 0, none⟩) x.body.length x.c) := x2
      have xe : w1.cell? ⟨g, 2, none⟩ = some (.slice (some ⟨gb, 0, none⟩) x.body.length x.c) := by
        have := (HS5.out.next hb1).xb.cell 2
        rw [← HXA.out]; exact this
      have xf : w2.cell? ⟨g, 2, none⟩ = some (.slice (some ⟨gb, 0, none⟩) x.body.length x.c) := by
        have := hS7.xb.cell 2
        rw [← HXA.out]; exact this
      have q0 := hS7.xb.frozen 2
      have hap1 : (apP #[49, 49] 49 #[.slice (some ⟨W5.heap.size, 0, none⟩) 0 0, .slice (some ⟨gb, 0, none⟩) k x.c]).run Tryd.prog (W5.alloc (.cells #[] 54)).drew = .ok (.slice A7 k c7) w1 := by rw [← hWa, ← hG]; exact happ1
      have hap2 : (apP #[49, 49] 49 #[.slice A7 k c7, .slice (some ⟨gb, oj, none⟩) (x.body.length - (k + 1)) (x.c - (k + 1))]).run Tryd.prog w1 = .ok (.slice A8 nb.length c8) w2 := happ2
      have hwk : IntKind.i64.wrap ((k : Int) + 1) = (k : Int) + 1 := by rw [IntKind.wrap_i64]; omega
      have hkb1 : (0 : Int) ≤ (k : Int) ∧ (k : Int) ≤ (x.body.length : Int) := ⟨by omega, by omega⟩
      have HS8 := Lib.hid hS8
      have HNL : Hid (nb.length ≤ m) := Lib.hid (by omega)
      clear hS7 hS8 hok8 hb2 hb1 hlt1 hown1 hown2 hgrow1 hgrow2 hnew1 hnew2 happ1 happ2 hc8 hnl hnb hoj hrj hoa hin hkk hba hsa hrk hrd hx5 hbl hbk hWa hG hxm5
      go_upto_region 33 with (first
        | (go_at_call 21; first | (refine (HQ.out _).mono ?_; rintro e w4 ⟨rfl, rfl⟩) | (refine (HAR.out _ _ (by omega)).mono ?_; rintro e w4 ⟨rfl, rfl⟩)))
      go_region
      all_goals
        go_upto_region 44 with fail
        obtain ⟨W6, hW6⟩ : ∃ W, W = w2.setCell ⟨g, 2, none⟩ (.slice A8 nb.length c8) := ⟨_, rfl⟩
        obtain ⟨y, hy⟩ : ∃ y : Ent, y = ⟨x.p, x.w, A8, c8, nb⟩ := ⟨_, rfl⟩
        obtain ⟨ch6, hch6⟩ : ∃ z : Int, z = ch := ⟨_, rfl⟩
        obtain ⟨es6, hes6⟩ : ∃ z : List Ent, z = fs := ⟨_, rfl⟩
        obtain ⟨A6, hA6⟩ : ∃ z : Option Addr, z = (some ⟨bF, 0, none⟩) := ⟨_, rfl⟩
        obtain ⟨c6, hc6⟩ : ∃ z : Nat, z = c1' := ⟨_, rfl⟩
        have HSC : Hid (Sx (m + 39) w W6 B g ch6 A6 c6 es6 y) := Lib.hid (by rw [hW6, hy, hch6, hes6, hA6, hc6]; exact HS8.out.up (by omega))
        have hlf6 : f < es6.length := by rw [hes6]; omega
        have hln6 : 1 ≤ es6.length ∧ es6.length ≤ fs.length + 7 := by rw [hes6]; omega
        rw [← hW6]
        clear hW6 hy hch6 hA6 hc6
        clear hes6 b0 b1 x2 q0 hcut hcut2 xa xd xe xf hap1 hap2
        obtain ⟨t0, t1, t2, t3⟩ : W6.cell? ⟨g, 0, none⟩ = some (.int .i64 y.p) ∧ W6.cell? ⟨g, 1, none⟩ = some (.int .i64 y.w) ∧ W6.cell? ⟨g, 2, none⟩ = some (.slice y.A y.body.length y.c) ∧ W6.cell? ⟨g, 3, none⟩ = some (.slice none 0 0) := ⟨HSC.out.xb.cell 0, HSC.out.xb.cell 1, HSC.out.xb.cell 2, HSC.out.xb.cell 3⟩
        have u1 : W6.cell? ⟨B, 1, none⟩ = some (.slice A6 es6.length c6) := HSC.out.blk.cell 1
        obtain ⟨bG, hbG, hbG2, hbGg, hfr, hcl, hend⟩ := HSC.out.end_ hlf6
        subst hbG
        obtain ⟨W7, hW7⟩ : ∃ W, W = (((W6.setCell ⟨bG, f * 4, none⟩ (.int .i64 y.p)).setCell ⟨bG, f * 4 + 1, none⟩ (.int .i64 y.w)).setCell ⟨bG, f * 4 + 2, none⟩ (.slice y.A y.body.length y.c)).setCell ⟨bG, f * 4 + 3, none⟩ (.slice none 0 0) := ⟨_, rfl⟩
        obtain ⟨kb7, kr7, hco7, hb7, hm7⟩ := hend W7 hW7
        obtain ⟨v0, l0⟩ := hcl 0 (by omega)
        rw [Nat.add_zero] at l0
        obtain ⟨v1, l1⟩ := hcl 1 (by omega)
        obtain ⟨v2, l2⟩ := hcl 2 (by omega)
        obtain ⟨v3, l3⟩ := hcl 3 (by omega)
        have z0 := hfr (f * 4); have z1 := hfr (f * 4 + 1); have z2 := hfr (f * 4 + 2); have z3 := hfr (f * 4 + 3)
        have hif : (0 : Int) ≤ (f : Int) ∧ (f : Int) < (es6.length : Int) := ⟨by omega, by omega⟩
        have HCO7 := Lib.hid hco7
        have HB7 := Lib.hid hb7
        have HM7 := Lib.hid hm7
        have HW7 := Lib.hid hW7
        have HK7 := Lib.hid kb7
        have HR7 := Lib.hid kr7
        clear hend hfr hcl hW7 kb7 kr7 hco7 hb7 hm7
        go_upto_region 45 with fail
        rw [← HW7.out]
        clear l0 l1 l2 l3 z0 z1 z2 z3 t0 t1 t2 t3 u1
        obtain ⟨n0, n1⟩ : W7.cell? ⟨B, 0, none⟩ = some (.int .i64 ch6) ∧ W7.cell? ⟨B, 1, none⟩ = some (.slice (some ⟨bG, 0, none⟩) es6.length c6) := ⟨HK7.out.cell 0, HK7.out.cell 1⟩
        obtain ⟨r0, r1, q0, q1⟩ : W7.cell? ⟨B + 1, 0, none⟩ = some (.int .i64 0) ∧ W7.cell? ⟨B + 1, 1, none⟩ = some (.slice none 0 0) ∧ W7.frozen? ⟨B + 1, 0, none⟩ = false ∧ W7.frozen? ⟨B + 1, 1, none⟩ = false := ⟨HR7.out.cell 0, HR7.out.cell 1, HR7.out.frozen 0, HR7.out.frozen 1⟩
        go_wp2_with fail
        rw [HP.out]
        refine bodyPost_ret (v := .agg #[.int .i64 ch6, .slice (some ⟨bG, 0, none⟩) es6.length c6]) (by simp [results, Tryd.results9, go_sem, r0, r1]) rfl ?_
        have hlast := spo_post (m := m) (n := es.length) HB.out HCO7.out HB7.out HSC.out.cb (by rw [List.length_set, HNN.out]; exact hln6) HM7.out (.int .i64 ch6) (.slice (some ⟨bG, 0, none⟩) es6.length c6)
        rw [List.length_set] at hlast
        exact hlast
    · have hrj := arnd_lt (x := by_) (n := (x.body.length : Int)) (by omega)
      obtain ⟨jn, hjn⟩ : ∃ z : Nat, arnd by_ x.body.length = (z : Int) := ⟨(arnd by_ x.body.length).toNat, by omega⟩
      rw [hjn] at hrj
      have HJ : Hid (∀ W, Calls Tryd.prog 21 #[.int .i64 by_, .int .i64 (x.body.length : Int)] W fun e w' => e = .returned (.int .i64 (jn : Int)) ∧ W = w') := Lib.hid fun W => by rw [← hjn]; exact HAR.out _ W (by omega)
      obtain ⟨xi, hxi⟩ : ∃ z, x.body[jn]? = some z := ⟨_, List.getElem?_eq_getElem (by omega)⟩
      have hxiok : okI xi := HX5.out.ok xi (List.mem_of_getElem? hxi)
      have hown5 := HX5.out.own
      rw [HXA.out] at hown5
      have ecl : ∀ j v, (insC xi)[j]? = some v → W5.cell? ⟨gb, jn * 3 + j, none⟩ = some v := fun j v hv => by
        have := hown5.cells (g := gb) rfl _ _ (insCs_get x.body jn xi hxi j v hv)
        rwa [Addr.add_lit, Nat.zero_add] at this
      have l0 := ecl 0 _ rfl
      rw [Nat.add_zero] at l0
      have l1 := ecl 1 _ rfl
      have l2 := ecl 2 _ rfl
      obtain ⟨ld0, ld1, ld2⟩ : W5.drew.cell? ⟨gb, jn * 3, none⟩ = some (.int .i64 xi.op) ∧ W5.drew.cell? ⟨gb, jn * 3 + 1, none⟩ = some (.int .i64 xi.a) ∧ W5.drew.cell? ⟨gb, jn * 3 + 2, none⟩ = some (.int .i64 xi.b) := ⟨l0, l1, l2⟩
      have li : (ldI (.pointer (some ⟨gb, jn * 3, none⟩))).run Tryd.prog W5.drew = .ok (.agg #[.int .i64 xi.op, .int .i64 xi.a, .int .i64 xi.b]) W5.drew := load_ins ld0 ld1 ld2
      have hgb5 := HGS.out.2.1
      have hal : Below W5.heap.size W5 (W5.alloc (.cells #[.int .i64 0, .int .i64 0, .int .i64 0] 54)) := below_new _ _
      have li2 : (ldI (.pointer (some ⟨gb, jn * 3, none⟩))).run Tryd.prog (W5.alloc (.cells #[.int .i64 0, .int .i64 0, .int .i64 0] 54)).drew = .ok (.agg #[.int .i64 xi.op, .int .i64 xi.a, .int .i64 xi.b]) (W5.alloc (.cells #[.int .i64 0, .int .i64 0, .int .i64 0] 54)).drew := load_ins ((hal.cell (p := ⟨gb, _, none⟩) hgb5).trans l0) ((hal.cell (p := ⟨gb, _, none⟩) hgb5).trans l1) ((hal.cell (p := ⟨gb, _, none⟩) hgb5).trans l2)
      have lx2 : (W5.alloc (.cells #[.int .i64 0, .int .i64 0, .int .i64 0] 54)).cell? ⟨g, 2, none⟩ = some (.slice (some ⟨gb, 0, none⟩) x.body.length x.c) := (hal.cell (p := ⟨g, 2, none⟩) HS5.out.xb.lt).trans x2
      have lx3 : (W5.alloc (.cells #[.int .i64 0, .int .i64 0, .int .i64 0] 54)).drew.cell? ⟨g, 2, none⟩ = some (.slice (some ⟨gb, 0, none⟩) x.body.length x.c) := lx2
      clear hal
      obtain ⟨lx, hjb⟩ : W5.drew.cell? ⟨g, 2, none⟩ = some (.slice (some ⟨gb, 0, none⟩) x.body.length x.c) ∧ (jn < x.body.length) := ⟨x2, by omega⟩
      have hxm5 : x.body.length ≤ m := (HO5.out x hxm).2
      have HXI := Lib.hid hxiok
      clear ecl hown5 hxi hjn hxiok
      go_upto_region 35 with (first
        | (go_at_call 21; first | (refine (HQ.out _).mono ?_; rintro e w4 ⟨rfl, rfl⟩) | (refine (HAR.out _ _ (by omega)).mono ?_; rintro e w4 ⟨rfl, rfl⟩)))
      obtain ⟨W8, hW8⟩ : ∃ W, W = (W5.alloc (.cells #[.int .i64 xi.op, .int .i64 xi.a, .int .i64 xi.b] 54)).drew := ⟨_, rfl⟩
      obtain ⟨gi, hgi⟩ : ∃ z, z = W5.heap.size := ⟨_, rfl⟩
      have HW8 := Lib.hid hW8
      have HGI := Lib.hid hgi
      clear hW8 hgi
      go_cut [13] from 132 to 140 (fun s13 wv => W8 = wv ∧ s13 = .pointer (some ⟨gi, 0, none⟩))
      case first =>
        go_region_with (go_at_call 21; refine (HJ.out _).mono ?_; rintro e w4 ⟨rfl, rfl⟩)
        all_goals
          go_wp2_with fail
          go_meet
          rw [HW8.out, HGI.out]
          exact ⟨rfl, rfl⟩
      case rest =>
        obtain ⟨hwc, rfl⟩ := hcut
        subst hwc
        have hb8 : Below W5.heap.size W5 W8 := by rw [HW8.out]; exact (below_new _ _).drew
        have kgi : Blk W8 gi 54 #[.int .i64 xi.op, .int .i64 xi.a, .int .i64 xi.b] := by
          have h : Blk (W5.alloc (.cells #[.int .i64 xi.op, .int .i64 xi.a, .int .i64 xi.b] 54)) gi 54 #[.int .i64 xi.op, .int .i64 xi.a, .int .i64 xi.b] := by rw [HGI.out]; exact Blk.new _ _ _
          rw [HW8.out]; exact h
        have hS8 := (HS5.out.next hb8).up (show m ≤ m + 39 by omega)
        have hx8 : BodyR W8 (fun b => B + 2 ≤ b ∧ b < W8.heap.size ∧ (Value.slice (some ⟨bF, 0, none⟩) fs.length c1').ownBlock ≠ some b ∧ b ≠ g) x := hS8.xr.1
        have HX8 := Lib.hid hx8
        have HS8 := Lib.hid hS8
        have HKG := Lib.hid kgi
        have x8 : W8.cell? ⟨g, 2, none⟩ = some (.slice (some ⟨gb, 0, none⟩) x.body.length x.c) := by rw [← HXA.out]; exact hS8.xb.cell 2
        clear hb8 kgi hS8 hx8 l0 l1 l2 ld0 ld1 ld2 lx lx2 lx3 li li2 hgb5 hjb b0 b1 x2
        have hg8 := HS8.out.xb.lt
        have hgi8 := HKG.out.lt
        have hcut := cutI gb k x.body.length x.c hlk hbc
        have hcut2 : ∀ W : World, (Instr.sliceAt 49 (.slice (some ⟨gb, 0, none⟩) x.body.length x.c) (some (.int .i64 (k : Int))) none none).run Tryd.prog W = .ok (.slice (some ⟨gb, if x.c = k then 0 else k * 3, none⟩) (x.body.length - k) (x.c - k)) W := cutJ gb k x.body.length x.c (by omega) hbc
        have hbe1 : Below W8.heap.size W8 (W8.alloc (.cells #[] 54)) := below_new _ _
        have hbx1 : Below W8.heap.size W8 (W8.alloc (.cells #[.int .i64 xi.op, .int .i64 xi.a, .int .i64 xi.b] 54)) := below_new _ _
        have hoe : (W8.alloc (.cells #[] 54)).ownsRow W8.heap.size 54 3 (.slice (some ⟨W8.heap.size, 0, none⟩) 0 0) 0 [] := own_lit (xs := []) (n := 0) (Nat.le_refl _) rfl (len_le (by omega))
        have hoe3 : ((W8.alloc (.cells #[.int .i64 xi.op, .int .i64 xi.a, .int .i64 xi.b] 54)).alloc (.cells #[] 54)).ownsRow W8.heap.size 54 3 (.slice (some ⟨W8.heap.size + 1, 0, none⟩) 0 0) 0 [] := by
          have h := own_lit (w := W8.alloc (.cells #[.int .i64 xi.op, .int .i64 xi.a, .int .i64 xi.b] 54)) (base := W8.heap.size) (e := 54) (size := 3) (xs := []) (n := 0) (by rw [size_alloc]; omega) rfl (len_le (by omega))
          rw [size_alloc] at h
          exact h
        have hxn := (HO5.out x hxm).2
        -- empty, append, instruction
        obtain ⟨A7, c7, w1, hap1, hown1, hgr1, hb1⟩ := app1 hj hy0 hy1 hy2 HS8.out (by omega) HXA.out hlk hbe1.drew (Nat.le_refl _) (show (W8.alloc (.cells #[] 54)).drew.ownsRow W8.heap.size 54 3 (.slice (some ⟨W8.heap.size, 0, none⟩) 0 0) 0 [] from hoe)
        obtain ⟨A8, c8, w2, A9, c9, nb, w3, hap2, hap3, xf, xh, q0, hT1⟩ := app23 hj hy0 hy1 hy2 HS8.out (by omega) HXA.out hlk (by omega) (ba hb1 (.cells #[.int .i64 xi.op, .int .i64 xi.a, .int .i64 xi.b] 54)) (hown1.alloc _) (blk_ins (Blk.new w1 _ _)) HXI.out
        -- empty, instruction, append
        obtain ⟨A7', c7', w1', hap1', hown1', hgr1', hb1'⟩ := app1 hj hy0 hy1 hy2 HS8.out (by omega) HXA.out hlk (ba hbe1 (.cells #[.int .i64 xi.op, .int .i64 xi.a, .int .i64 xi.b] 54)).drew (Nat.le_refl _) (show ((W8.alloc (.cells #[] 54)).alloc (.cells #[.int .i64 xi.op, .int .i64 xi.a, .int .i64 xi.b] 54)).drew.ownsRow W8.heap.size 54 3 (.slice (some ⟨W8.heap.size, 0, none⟩) 0 0) 0 [] from hoe.alloc _)
        have hk2 : Blk w1' (W8.heap.size + 1) 54 #[.int .i64 xi.op, .int .i64 xi.a, .int .i64 xi.b] := by
          have h0 := Blk.new (W8.alloc (.cells #[] 54)) 54 #[.int .i64 xi.op, .int .i64 xi.a, .int .i64 xi.b]
          rw [size_alloc] at h0
          exact Blk.grown (w := ((W8.alloc (.cells #[] 54)).alloc (.cells #[.int .i64 xi.op, .int .i64 xi.a, .int .i64 xi.b] 54)).drew) h0 hgr1' (fun e => by injection e with e; omega)
        obtain ⟨A8', c8', w2', A9', c9', nb', w3', hap2', hap3', xf', xh', q0', hT2⟩ := app23 hj hy0 hy1 hy2 HS8.out (by omega) HXA.out hlk (by omega) hb1' hown1' (blk_ins hk2) HXI.out
        -- instruction, empty, append
        obtain ⟨A7'', c7'', w1'', hap1'', hown1'', hgr1'', hb1''⟩ := app1 hj hy0 hy1 hy2 HS8.out (by omega) HXA.out hlk (ba hbx1 (.cells #[] 54)).drew (Nat.le_succ _) (show ((W8.alloc (.cells #[.int .i64 xi.op, .int .i64 xi.a, .int .i64 xi.b] 54)).alloc (.cells #[] 54)).drew.ownsRow W8.heap.size 54 3 (.slice (some ⟨W8.heap.size + 1, 0, none⟩) 0 0) 0 [] from hoe3)
        have hk3 : Blk w1'' W8.heap.size 54 #[.int .i64 xi.op, .int .i64 xi.a, .int .i64 xi.b] := by
          have h0 := (Blk.new W8 54 #[.int .i64 xi.op, .int .i64 xi.a, .int .i64 xi.b]).alloc (.cells #[] 54)
          exact Blk.grown (w := ((W8.alloc (.cells #[.int .i64 xi.op, .int .i64 xi.a, .int .i64 xi.b] 54)).alloc (.cells #[] 54)).drew) h0 hgr1'' (fun e => by injection e with e; omega)
        obtain ⟨A8'', c8'', w2'', A9'', c9'', nb'', w3'', hap2'', hap3'', xf'', xh'', q0'', hT3⟩ := app23 hj hy0 hy1 hy2 HS8.out (by omega) HXA.out hlk (by omega) hb1'' hown1'' (blk_ins hk3) HXI.out
        have xx : ∀ {W : World}, Below W8.heap.size W8 W → W.cell? ⟨g, 2, none⟩ = some (.slice (some ⟨gb, 0, none⟩) x.body.length x.c) := fun hb => by rw [← HXA.out]; exact (HS8.out.next hb).xb.cell 2
        have xe := xx hb1
        have xe2 := xx (ba hb1 (.cells #[.int .i64 xi.op, .int .i64 xi.a, .int .i64 xi.b] 54))
        have xe' := xx hb1'
        have xe'' := xx hb1''
        have xr1 := xx hbe1
        have xr2 := xx hbx1
        have xr3 := xx (ba hbe1 (.cells #[.int .i64 xi.op, .int .i64 xi.a, .int .i64 xi.b] 54))
        have xr4 := xx (ba hbx1 (.cells #[] 54))
        have gix : ∀ {W : World}, Below W8.heap.size W8 W → (ldI (.pointer (some ⟨gi, 0, none⟩))).run Tryd.prog W = .ok (.agg #[.int .i64 xi.op, .int .i64 xi.a, .int .i64 xi.b]) W := fun hb => load_ins (o := 0) ((HKG.out.below hb HKG.out.lt).cell 0) ((HKG.out.below hb HKG.out.lt).cell 1) ((HKG.out.below hb HKG.out.lt).cell 2)
        have la := gix hb1
        have lb := gix (Below.refl _ W8).drew
        have lc := gix hbe1.drew
        obtain ⟨oj, hoj⟩ : ∃ z, z = (if x.c = k then 0 else k * 3) := ⟨_, rfl⟩
        rw [← hoj] at hcut2 hap3 hap3' hap3''
        have HT1 := Lib.hid hT1
        have HT2 := Lib.hid hT2
        have HT3 := Lib.hid hT3
        have hkb1 : (0 : Int) ≤ (k : Int) ∧ (k : Int) ≤ (x.body.length : Int) := ⟨by omega, by omega⟩
        clear hT1 hT2 hT3 hoj gix xx hk2 hk3 hown1 hown1' hown1'' hgr1 hgr1' hgr1'' hb1 hb1' hb1'' hoe hoe3 hbe1 hbx1 hxn
        go_upto_region 36 with fail
        go_region
        all_goals first
          | go_upto_region 44 with fail
            obtain ⟨W6, hW6⟩ : ∃ W, W = w3.setCell ⟨g, 2, none⟩ (.slice A9 nb.length c9) := ⟨_, rfl⟩
            obtain ⟨y, hy⟩ : ∃ y : Ent, y = ⟨x.p, x.w, A9, c9, nb⟩ := ⟨_, rfl⟩
            obtain ⟨ch6, hch6⟩ : ∃ z : Int, z = ch := ⟨_, rfl⟩
            obtain ⟨es6, hes6⟩ : ∃ z : List Ent, z = fs := ⟨_, rfl⟩
            obtain ⟨A6, hA6⟩ : ∃ z : Option Addr, z = (some ⟨bF, 0, none⟩) := ⟨_, rfl⟩
            obtain ⟨c6, hc6⟩ : ∃ z : Nat, z = c1' := ⟨_, rfl⟩
            have HSC : Hid (Sx (m + 39) w W6 B g ch6 A6 c6 es6 y) := Lib.hid (by rw [hW6, hy, hch6, hes6, hA6, hc6]; exact HT1.out)
            have hlf6 : f < es6.length := by rw [hes6]; omega
            have hln6 : 1 ≤ es6.length ∧ es6.length ≤ fs.length + 7 := by rw [hes6]; omega
            rw [← hW6]
            clear hW6 hy hch6 hA6 hc6
            clear hes6 q0 q0' q0'' hcut hcut2 x8 hap1 hap1' hap1'' hap2 hap2' hap2'' hap3 hap3' hap3'' la lb lc xe xe2 xe' xe'' xr1 xr2 xr3 xr4 xf xf' xf'' xh xh' xh''
            obtain ⟨t0, t1, t2, t3⟩ : W6.cell? ⟨g, 0, none⟩ = some (.int .i64 y.p) ∧ W6.cell? ⟨g, 1, none⟩ = some (.int .i64 y.w) ∧ W6.cell? ⟨g, 2, none⟩ = some (.slice y.A y.body.length y.c) ∧ W6.cell? ⟨g, 3, none⟩ = some (.slice none 0 0) := ⟨HSC.out.xb.cell 0, HSC.out.xb.cell 1, HSC.out.xb.cell 2, HSC.out.xb.cell 3⟩
            have u1 : W6.cell? ⟨B, 1, none⟩ = some (.slice A6 es6.length c6) := HSC.out.blk.cell 1
            obtain ⟨bG, hbG, hbG2, hbGg, hfr, hcl, hend⟩ := HSC.out.end_ hlf6
            subst hbG
            obtain ⟨W7, hW7⟩ : ∃ W, W = (((W6.setCell ⟨bG, f * 4, none⟩ (.int .i64 y.p)).setCell ⟨bG, f * 4 + 1, none⟩ (.int .i64 y.w)).setCell ⟨bG, f * 4 + 2, none⟩ (.slice y.A y.body.length y.c)).setCell ⟨bG, f * 4 + 3, none⟩ (.slice none 0 0) := ⟨_, rfl⟩
            obtain ⟨kb7, kr7, hco7, hb7, hm7⟩ := hend W7 hW7
            obtain ⟨v0, l0⟩ := hcl 0 (by omega)
            rw [Nat.add_zero] at l0
            obtain ⟨v1, l1⟩ := hcl 1 (by omega)
            obtain ⟨v2, l2⟩ := hcl 2 (by omega)
            obtain ⟨v3, l3⟩ := hcl 3 (by omega)
            have z0 := hfr (f * 4); have z1 := hfr (f * 4 + 1); have z2 := hfr (f * 4 + 2); have z3 := hfr (f * 4 + 3)
            have hif : (0 : Int) ≤ (f : Int) ∧ (f : Int) < (es6.length : Int) := ⟨by omega, by omega⟩
            have HCO7 := Lib.hid hco7
            have HB7 := Lib.hid hb7
            have HM7 := Lib.hid hm7
            have HW7 := Lib.hid hW7
            have HK7 := Lib.hid kb7
            have HR7 := Lib.hid kr7
            clear hend hfr hcl hW7 kb7 kr7 hco7 hb7 hm7
            go_upto_region 45 with fail
            rw [← HW7.out]
            clear l0 l1 l2 l3 z0 z1 z2 z3 t0 t1 t2 t3 u1
            obtain ⟨n0, n1⟩ : W7.cell? ⟨B, 0, none⟩ = some (.int .i64 ch6) ∧ W7.cell? ⟨B, 1, none⟩ = some (.slice (some ⟨bG, 0, none⟩) es6.length c6) := ⟨HK7.out.cell 0, HK7.out.cell 1⟩
            obtain ⟨r0, r1, q0, q1⟩ : W7.cell? ⟨B + 1, 0, none⟩ = some (.int .i64 0) ∧ W7.cell? ⟨B + 1, 1, none⟩ = some (.slice none 0 0) ∧ W7.frozen? ⟨B + 1, 0, none⟩ = false ∧ W7.frozen? ⟨B + 1, 1, none⟩ = false := ⟨HR7.out.cell 0, HR7.out.cell 1, HR7.out.frozen 0, HR7.out.frozen 1⟩
            go_wp2_with fail
            rw [HP.out]
            refine bodyPost_ret (v := .agg #[.int .i64 ch6, .slice (some ⟨bG, 0, none⟩) es6.length c6]) (by simp [results, Tryd.results9, go_sem, r0, r1]) rfl ?_
            have hlast := spo_post (m := m) (n := es.length) HB.out HCO7.out HB7.out HSC.out.cb (by rw [List.length_set, HNN.out]; exact hln6) HM7.out (.int .i64 ch6) (.slice (some ⟨bG, 0, none⟩) es6.length c6)
            rw [List.length_set] at hlast
            exact hlast
          | go_upto_region 44 with fail
            obtain ⟨W6, hW6⟩ : ∃ W, W = w3'.setCell ⟨g, 2, none⟩ (.slice A9' nb'.length c9') := ⟨_, rfl⟩
            obtain ⟨y, hy⟩ : ∃ y : Ent, y = ⟨x.p, x.w, A9', c9', nb'⟩ := ⟨_, rfl⟩
            obtain ⟨ch6, hch6⟩ : ∃ z : Int, z = ch := ⟨_, rfl⟩
            obtain ⟨es6, hes6⟩ : ∃ z : List Ent, z = fs := ⟨_, rfl⟩
            obtain ⟨A6, hA6⟩ : ∃ z : Option Addr, z = (some ⟨bF, 0, none⟩) := ⟨_, rfl⟩
            obtain ⟨c6, hc6⟩ : ∃ z : Nat, z = c1' := ⟨_, rfl⟩
            have HSC : Hid (Sx (m + 39) w W6 B g ch6 A6 c6 es6 y) := Lib.hid (by rw [hW6, hy, hch6, hes6, hA6, hc6]; exact HT2.out)
            have hlf6 : f < es6.length := by rw [hes6]; omega
            have hln6 : 1 ≤ es6.length ∧ es6.length ≤ fs.length + 7 := by rw [hes6]; omega
            rw [← hW6]
            clear hW6 hy hch6 hA6 hc6
            clear hes6 q0 q0' q0'' hcut hcut2 x8 hap1 hap1' hap1'' hap2 hap2' hap2'' hap3 hap3' hap3'' la lb lc xe xe2 xe' xe'' xr1 xr2 xr3 xr4 xf xf' xf'' xh xh' xh''
            obtain ⟨t0, t1, t2, t3⟩ : W6.cell? ⟨g, 0, none⟩ = some (.int .i64 y.p) ∧ W6.cell? ⟨g, 1, none⟩ = some (.int .i64 y.w) ∧ W6.cell? ⟨g, 2, none⟩ = some (.slice y.A y.body.length y.c) ∧ W6.cell? ⟨g, 3, none⟩ = some (.slice none 0 0) := ⟨HSC.out.xb.cell 0, HSC.out.xb.cell 1, HSC.out.xb.cell 2, HSC.out.xb.cell 3⟩
            have u1 : W6.cell? ⟨B, 1, none⟩ = some (.slice A6 es6.length c6) := HSC.out.blk.cell 1
            obtain ⟨bG, hbG, hbG2, hbGg, hfr, hcl, hend⟩ := HSC.out.end_ hlf6
            subst hbG
            obtain ⟨W7, hW7⟩ : ∃ W, W = (((W6.setCell ⟨bG, f * 4, none⟩ (.int .i64 y.p)).setCell ⟨bG, f * 4 + 1, none⟩ (.int .i64 y.w)).setCell ⟨bG, f * 4 + 2, none⟩ (.slice y.A y.body.length y.c)).setCell ⟨bG, f * 4 + 3, none⟩ (.slice none 0 0) := ⟨_, rfl⟩
            obtain ⟨kb7, kr7, hco7, hb7, hm7⟩ := hend W7 hW7
            obtain ⟨v0, l0⟩ := hcl 0 (by omega)
            rw [Nat.add_zero] at l0
            obtain ⟨v1, l1⟩ := hcl 1 (by omega)
            obtain ⟨v2, l2⟩ := hcl 2 (by omega)
            obtain ⟨v3, l3⟩ := hcl 3 (by omega)
            have z0 := hfr (f * 4); have z1 := hfr (f * 4 + 1); have z2 := hfr (f * 4 + 2); have z3 := hfr (f * 4 + 3)
            have hif : (0 : Int) ≤ (f : Int) ∧ (f : Int) < (es6.length : Int) := ⟨by omega, by omega⟩
            have HCO7 := Lib.hid hco7
            have HB7 := Lib.hid hb7
            have HM7 := Lib.hid hm7
            have HW7 := Lib.hid hW7
            have HK7 := Lib.hid kb7
            have HR7 := Lib.hid kr7
            clear hend hfr hcl hW7 kb7 kr7 hco7 hb7 hm7
            go_upto_region 45 with fail
            rw [← HW7.out]
            clear l0 l1 l2 l3 z0 z1 z2 z3 t0 t1 t2 t3 u1
            obtain ⟨n0, n1⟩ : W7.cell? ⟨B, 0, none⟩ = some (.int .i64 ch6) ∧ W7.cell? ⟨B, 1, none⟩ = some (.slice (some ⟨bG, 0, none⟩) es6.length c6) := ⟨HK7.out.cell 0, HK7.out.cell 1⟩
            obtain ⟨r0, r1, q0, q1⟩ : W7.cell? ⟨B + 1, 0, none⟩ = some (.int .i64 0) ∧ W7.cell? ⟨B + 1, 1, none⟩ = some (.slice none 0 0) ∧ W7.frozen? ⟨B + 1, 0, none⟩ = false ∧ W7.frozen? ⟨B + 1, 1, none⟩ = false := ⟨HR7.out.cell 0, HR7.out.cell 1, HR7.out.frozen 0, HR7.out.frozen 1⟩
            go_wp2_with fail
            rw [HP.out]
            refine bodyPost_ret (v := .agg #[.int .i64 ch6, .slice (some ⟨bG, 0, none⟩) es6.length c6]) (by simp [results, Tryd.results9, go_sem, r0, r1]) rfl ?_
            have hlast := spo_post (m := m) (n := es.length) HB.out HCO7.out HB7.out HSC.out.cb (by rw [List.length_set, HNN.out]; exact hln6) HM7.out (.int .i64 ch6) (.slice (some ⟨bG, 0, none⟩) es6.length c6)
            rw [List.length_set] at hlast
            exact hlast
          | go_upto_region 44 with fail
            obtain ⟨W6, hW6⟩ : ∃ W, W = w3''.setCell ⟨g, 2, none⟩ (.slice A9'' nb''.length c9'') := ⟨_, rfl⟩
            obtain ⟨y, hy⟩ : ∃ y : Ent, y = ⟨x.p, x.w, A9'', c9'', nb''⟩ := ⟨_, rfl⟩
            obtain ⟨ch6, hch6⟩ : ∃ z : Int, z = ch := ⟨_, rfl⟩
            obtain ⟨es6, hes6⟩ : ∃ z : List Ent, z = fs := ⟨_, rfl⟩
            obtain ⟨A6, hA6⟩ : ∃ z : Option Addr, z = (some ⟨bF, 0, none⟩) := ⟨_, rfl⟩
            obtain ⟨c6, hc6⟩ : ∃ z : Nat, z = c1' := ⟨_, rfl⟩
            have HSC : Hid (Sx (m + 39) w W6 B g ch6 A6 c6 es6 y) := Lib.hid (by rw [hW6, hy, hch6, hes6, hA6, hc6]; exact HT3.out)
            have hlf6 : f < es6.length := by rw [hes6]; omega
            have hln6 : 1 ≤ es6.length ∧ es6.length ≤ fs.length + 7 := by rw [hes6]; omega
            rw [← hW6]
            clear hW6 hy hch6 hA6 hc6
            clear hes6 q0 q0' q0'' hcut hcut2 x8 hap1 hap1' hap1'' hap2 hap2' hap2'' hap3 hap3' hap3'' la lb lc xe xe2 xe' xe'' xr1 xr2 xr3 xr4 xf xf' xf'' xh xh' xh''
            obtain ⟨t0, t1, t2, t3⟩ : W6.cell? ⟨g, 0, none⟩ = some (.int .i64 y.p) ∧ W6.cell? ⟨g, 1, none⟩ = some (.int .i64 y.w) ∧ W6.cell? ⟨g, 2, none⟩ = some (.slice y.A y.body.length y.c) ∧ W6.cell? ⟨g, 3, none⟩ = some (.slice none 0 0) := ⟨HSC.out.xb.cell 0, HSC.out.xb.cell 1, HSC.out.xb.cell 2, HSC.out.xb.cell 3⟩
            have u1 : W6.cell? ⟨B, 1, none⟩ = some (.slice A6 es6.length c6) := HSC.out.blk.cell 1
            obtain ⟨bG, hbG, hbG2, hbGg, hfr, hcl, hend⟩ := HSC.out.end_ hlf6
            subst hbG
            obtain ⟨W7, hW7⟩ : ∃ W, W = (((W6.setCell ⟨bG, f * 4, none⟩ (.int .i64 y.p)).setCell ⟨bG, f * 4 + 1, none⟩ (.int .i64 y.w)).setCell ⟨bG, f * 4 + 2, none⟩ (.slice y.A y.body.length y.c)).setCell ⟨bG, f * 4 + 3, none⟩ (.slice none 0 0) := ⟨_, rfl⟩
            obtain ⟨kb7, kr7, hco7, hb7, hm7⟩ := hend W7 hW7
            obtain ⟨v0, l0⟩ := hcl 0 (by omega)
            rw [Nat.add_zero] at l0
            obtain ⟨v1, l1⟩ := hcl 1 (by omega)
            obtain ⟨v2, l2⟩ := hcl 2 (by omega)
            obtain ⟨v3, l3⟩ := hcl 3 (by omega)
            have z0 := hfr (f * 4); have z1 := hfr (f * 4 + 1); have z2 := hfr (f * 4 + 2); have z3 := hfr (f * 4 + 3)
            have hif : (0 : Int) ≤ (f : Int) ∧ (f : Int) < (es6.length : Int) := ⟨by omega, by omega⟩
            have HCO7 := Lib.hid hco7
            have HB7 := Lib.hid hb7
            have HM7 := Lib.hid hm7
            have HW7 := Lib.hid hW7
            have HK7 := Lib.hid kb7
            have HR7 := Lib.hid kr7
            clear hend hfr hcl hW7 kb7 kr7 hco7 hb7 hm7
            go_upto_region 45 with fail
            rw [← HW7.out]
            clear l0 l1 l2 l3 z0 z1 z2 z3 t0 t1 t2 t3 u1
            obtain ⟨n0, n1⟩ : W7.cell? ⟨B, 0, none⟩ = some (.int .i64 ch6) ∧ W7.cell? ⟨B, 1, none⟩ = some (.slice (some ⟨bG, 0, none⟩) es6.length c6) := ⟨HK7.out.cell 0, HK7.out.cell 1⟩
            obtain ⟨r0, r1, q0, q1⟩ : W7.cell? ⟨B + 1, 0, none⟩ = some (.int .i64 0) ∧ W7.cell? ⟨B + 1, 1, none⟩ = some (.slice none 0 0) ∧ W7.frozen? ⟨B + 1, 0, none⟩ = false ∧ W7.frozen? ⟨B + 1, 1, none⟩ = false := ⟨HR7.out.cell 0, HR7.out.cell 1, HR7.out.frozen 0, HR7.out.frozen 1⟩
            go_wp2_with fail
            rw [HP.out]
            refine bodyPost_ret (v := .agg #[.int .i64 ch6, .slice (some ⟨bG, 0, none⟩) es6.length c6]) (by simp [results, Tryd.results9, go_sem, r0, r1]) rfl ?_
            have hlast := spo_post (m := m) (n := es.length) HB.out HCO7.out HB7.out HSC.out.cb (by rw [List.length_set, HNN.out]; exact hln6) HM7.out (.int .i64 ch6) (.slice (some ⟨bG, 0, none⟩) es6.length c6)
            rw [List.length_set] at hlast
            exact hlast
    · obtain ⟨bk, hbk⟩ : ∃ z, z = x.body.take k := ⟨_, rfl⟩
      have hbl : bk.length = k := by rw [hbk, List.length_take, Nat.min_eq_left (by omega)]
      have hcut := cutI gb k x.body.length x.c hlk hbc
      have q0 := HS5.out.xb.frozen 2
      have hx5 := HX5.out.body
      have hrd := hx5.rd
      rw [HXA.out] at hrd
      have hrk := rd_take hrd hlk
      rw [← hbk, ← hbl] at hrk
      have hS6 := HS5.out.body hrk (c' := x.c) (by omega) (by have := (HO5.out x hxm).2; omega) (by omega) (fun y hy => hx5.ok y (by rw [hbk] at hy; exact List.mem_of_mem_take hy))
      rw [hbl] at hS6
      have HS6 := Lib.hid hS6
      clear hS6 hrd hrk hx5 hbk
      go_upto_region 44 with (first
        | (go_at_call 21; first | (refine (HQ.out _).mono ?_; rintro e w4 ⟨rfl, rfl⟩) | (refine (HAR.out _ _ (by omega)).mono ?_; rintro e w4 ⟨rfl, rfl⟩)))
      obtain ⟨W6, hW6⟩ : ∃ W, W = W5.setCell ⟨g, 2, none⟩ (.slice (some ⟨gb, 0, none⟩) k x.c) := ⟨_, rfl⟩
      obtain ⟨y, hy⟩ : ∃ y : Ent, y = ⟨x.p, x.w, some ⟨gb, 0, none⟩, x.c, bk⟩ := ⟨_, rfl⟩
      obtain ⟨ch6, hch6⟩ : ∃ z : Int, z = ch := ⟨_, rfl⟩
      obtain ⟨es6, hes6⟩ : ∃ z : List Ent, z = fs := ⟨_, rfl⟩
      obtain ⟨A6, hA6⟩ : ∃ z : Option Addr, z = (some ⟨bF, 0, none⟩) := ⟨_, rfl⟩
      obtain ⟨c6, hc6⟩ : ∃ z : Nat, z = c1' := ⟨_, rfl⟩
      have HSC : Hid (Sx (m + 39) w W6 B g ch6 A6 c6 es6 y) := Lib.hid (by rw [hW6, hy, hch6, hes6, hA6, hc6]; exact HS6.out.up (by omega))
      have hlf6 : f < es6.length := by rw [hes6]; omega
      have hln6 : 1 ≤ es6.length ∧ es6.length ≤ fs.length + 7 := by rw [hes6]; omega
      rw [← hW6]
      clear hW6 hy hch6 hA6 hc6
      clear hes6 b0 b1 x2 q0 hcut
      obtain ⟨t0, t1, t2, t3⟩ : W6.cell? ⟨g, 0, none⟩ = some (.int .i64 y.p) ∧ W6.cell? ⟨g, 1, none⟩ = some (.int .i64 y.w) ∧ W6.cell? ⟨g, 2, none⟩ = some (.slice y.A y.body.length y.c) ∧ W6.cell? ⟨g, 3, none⟩ = some (.slice none 0 0) := ⟨HSC.out.xb.cell 0, HSC.out.xb.cell 1, HSC.out.xb.cell 2, HSC.out.xb.cell 3⟩
      have u1 : W6.cell? ⟨B, 1, none⟩ = some (.slice A6 es6.length c6) := HSC.out.blk.cell 1
      obtain ⟨bG, hbG, hbG2, hbGg, hfr, hcl, hend⟩ := HSC.out.end_ hlf6
      subst hbG
      obtain ⟨W7, hW7⟩ : ∃ W, W = (((W6.setCell ⟨bG, f * 4, none⟩ (.int .i64 y.p)).setCell ⟨bG, f * 4 + 1, none⟩ (.int .i64 y.w)).setCell ⟨bG, f * 4 + 2, none⟩ (.slice y.A y.body.length y.c)).setCell ⟨bG, f * 4 + 3, none⟩ (.slice none 0 0) := ⟨_, rfl⟩
      obtain ⟨kb7, kr7, hco7, hb7, hm7⟩ := hend W7 hW7
      obtain ⟨v0, l0⟩ := hcl 0 (by omega)
      rw [Nat.add_zero] at l0
      obtain ⟨v1, l1⟩ := hcl 1 (by omega)
      obtain ⟨v2, l2⟩ := hcl 2 (by omega)
      obtain ⟨v3, l3⟩ := hcl 3 (by omega)
      have z0 := hfr (f * 4); have z1 := hfr (f * 4 + 1); have z2 := hfr (f * 4 + 2); have z3 := hfr (f * 4 + 3)
      have hif : (0 : Int) ≤ (f : Int) ∧ (f : Int) < (es6.length : Int) := ⟨by omega, by omega⟩
      have HCO7 := Lib.hid hco7
      have HB7 := Lib.hid hb7
      have HM7 := Lib.hid hm7
      have HW7 := Lib.hid hW7
      have HK7 := Lib.hid kb7
      have HR7 := Lib.hid kr7
      clear hend hfr hcl hW7 kb7 kr7 hco7 hb7 hm7
      go_upto_region 45 with fail
      rw [← HW7.out]
      clear l0 l1 l2 l3 z0 z1 z2 z3 t0 t1 t2 t3 u1
      obtain ⟨n0, n1⟩ : W7.cell? ⟨B, 0, none⟩ = some (.int .i64 ch6) ∧ W7.cell? ⟨B, 1, none⟩ = some (.slice (some ⟨bG, 0, none⟩) es6.length c6) := ⟨HK7.out.cell 0, HK7.out.cell 1⟩
      obtain ⟨r0, r1, q0, q1⟩ : W7.cell? ⟨B + 1, 0, none⟩ = some (.int .i64 0) ∧ W7.cell? ⟨B + 1, 1, none⟩ = some (.slice none 0 0) ∧ W7.frozen? ⟨B + 1, 0, none⟩ = false ∧ W7.frozen? ⟨B + 1, 1, none⟩ = false := ⟨HR7.out.cell 0, HR7.out.cell 1, HR7.out.frozen 0, HR7.out.frozen 1⟩
      go_wp2_with fail
      rw [HP.out]
      refine bodyPost_ret (v := .agg #[.int .i64 ch6, .slice (some ⟨bG, 0, none⟩) es6.length c6]) (by simp [results, Tryd.results9, go_sem, r0, r1]) rfl ?_
      have hlast := spo_post (m := m) (n := es.length) HB.out HCO7.out HB7.out HSC.out.cb (by rw [List.length_set, HNN.out]; exact hln6) HM7.out (.int .i64 ch6) (.slice (some ⟨bG, 0, none⟩) es6.length c6)
      rw [List.length_set] at hlast
      exact hlast
    · go_upto_region 41 with (first
        | (go_at_call 21; first | (refine (HQ.out _).mono ?_; rintro e w4 ⟨rfl, rfl⟩) | (refine (HAR.out _ _ (by omega)).mono ?_; rintro e w4 ⟨rfl, rfl⟩)))
      go_loopw [14] (fun s wr => ∃ (i : Nat) (es5 : List Ent) (A5 : Option Addr) (c5 : Nat), i ≤ 7 ∧ s = .int .i64 i ∧ Hid (es5.length = fs.length + i) ∧ Hid (Sx m w wr B g ch A5 c5 es5 x)) (fun s _ => 7 - (intOf s).toNat)
      case atStart => exact ⟨0, fs, some ⟨bF, 0, none⟩, c1', Nat.zero_le _, rfl, rfl, HS5.out⟩
      case round =>
        obtain ⟨i, es5, A5, c5, hi7, rfl, HL5, HI⟩ := hrel
        have hle5 : es5.length ≤ fs.length + 7 := by have := HL5.out; omega
        have hge5 : fs.length ≤ es5.length := by have := HL5.out; omega
        by_cases hlt : i < 7
        · have hlt2 : (i : Int) < 7 := by omega
          obtain ⟨en, hen⟩ : ∃ z, es5[f]? = some z := ⟨_, List.getElem?_eq_getElem (by omega)⟩
          have henm := List.mem_of_getElem? hen
          obtain ⟨bE, capE, hvE, hbE, hltE⟩ := HI.out.own.form (by omega)
          obtain ⟨rfl, rfl⟩ : A5 = some ⟨bE, 0, none⟩ ∧ c5 = capE := by injection hvE with a1 a2 a3; exact ⟨a1, a3⟩
          have ecl : ∀ j v, (entC en)[j]? = some v → wr.cell? ⟨bE, f * 4 + j, none⟩ = some v := fun j v hv => by
            have := HI.out.own.cells (g := bE) rfl _ _ (entsC_get es5 f en hen j v hv)
            rwa [Addr.add_lit, Nat.zero_add] at this
          have l0 := ecl 0 _ rfl
          rw [Nat.add_zero] at l0
          have l1 := ecl 1 _ rfl
          have l2 := ecl 2 _ rfl
          have l3 := ecl 3 _ rfl
          have u1 : wr.cell? ⟨B, 1, none⟩ = some (.slice (some ⟨bE, 0, none⟩) es5.length c5) := HI.out.blk.cell 1
          have hif : (0 : Int) ≤ (f : Int) ∧ (f : Int) < (es5.length : Int) := ⟨by omega, by omega⟩
          have hsE : B + 2 ≤ wr.heap.size := by omega
          have HID := Lib.hid HI.out.drew
          obtain ⟨v4, w4, happ0, hown4, hgrow4, hnew4⟩ := run_append_any (P := Tryd.prog) (wr.drew.alloc (.cells (entC en).toArray 51)) (B + 2) 23 23 51 i0 _ 4 64 Tryd.underlying23 hi hz0 hz1 hz2 rfl (by omega) (.slice (some ⟨bE, 0, none⟩) es5.length c5) es5.length (entsC es5) (HID.out.own.alloc _) _ (some ⟨wr.drew.heap.size, 0, none⟩) 1 1 (entC en) (fun_new _ _) (entC_one _) (len_le (by omega)) (by omega) (by rw [size_alloc]; show B + 2 ≤ wr.heap.size + 1; omega)
          obtain ⟨A4, c4, rfl, _⟩ := own_len hown4
          have HN4 : Hid (Sx m w (w4.setCell ⟨B, 1, none⟩ (.slice A4 (es5.length + 1) c4)) B g ch A4 c4 (es5 ++ [en]) x) := Lib.hid (HID.out.grow henm hgrow4 hown4 hnew4 (by omega))
          have hB4 : Blk w4 B 25 #[.int .i64 ch, .slice (some ⟨bE, 0, none⟩) es5.length c5] := (HID.out.blk.alloc _).grown hgrow4 (fun e => by have := (HID.out.own.lt _ e.symm).1; omega)
          have hc4 := hB4.cell 1
          have hf4 := hB4.frozen 1
          simp only [List.getElem?_toArray, List.getElem?_cons_zero, List.getElem?_cons_succ] at hc4
          have happ : (apP #[23, 23] 23 #[.slice (some ⟨bE, 0, none⟩) es5.length c5, .slice (some ⟨wr.heap.size, 0, none⟩) 1 1]).run Tryd.prog (wr.alloc (.cells #[.int .i64 en.p, .int .i64 en.w, .slice en.A en.body.length en.c, .slice none 0 0] 51)).drew = .ok (.slice A4 (es5.length + 1) c4) w4 := happ0
          have ub : (wr.alloc (.cells #[.int .i64 en.p, .int .i64 en.w, .slice en.A en.body.length en.c, .slice none 0 0] 51)).cell? ⟨B, 1, none⟩ = some (.slice (some ⟨bE, 0, none⟩) es5.length c5) := (HI.out.blk.alloc _).cell 1
          have ud : (wr.alloc (.cells #[.int .i64 en.p, .int .i64 en.w, .slice en.A en.body.length en.c, .slice none 0 0] 51)).drew.cell? ⟨B, 1, none⟩ = some (.slice (some ⟨bE, 0, none⟩) es5.length c5) := ub
          have HL4 : Hid ((es5 ++ [en]).length = fs.length + (i + 1)) := Lib.hid (by rw [List.length_append, List.length_singleton, HL5.out]; omega)
          clear happ0 hown4 hgrow4 hnew4 hB4 ecl hen hvE hbE henm HID
          go_upto_region 43 with fail
          go_region
          all_goals
            go_wp2_with fail
            go_roundw
            case rel => exact ⟨i + 1, _, _, _, by omega, by go_num, HL4.out, HN4.out⟩
            case measure => simp [intOf]; omega
        · have hie : i = 7 := by omega
          subst hie
          go_upto_region 44 with fail
          obtain ⟨W6, hW6⟩ : ∃ W, W = wr := ⟨_, rfl⟩
          obtain ⟨y, hy⟩ : ∃ y : Ent, y = x := ⟨_, rfl⟩
          obtain ⟨ch6, hch6⟩ : ∃ z : Int, z = ch := ⟨_, rfl⟩
          obtain ⟨es6, hes6⟩ : ∃ z : List Ent, z = es5 := ⟨_, rfl⟩
          obtain ⟨A6, hA6⟩ : ∃ z : Option Addr, z = A5 := ⟨_, rfl⟩
          obtain ⟨c6, hc6⟩ : ∃ z : Nat, z = c5 := ⟨_, rfl⟩
          have HSC : Hid (Sx (m + 39) w W6 B g ch6 A6 c6 es6 y) := Lib.hid (by rw [hW6, hy, hch6, hes6, hA6, hc6]; exact HI.out.up (by omega))
          have hlf6 : f < es6.length := by rw [hes6]; omega
          have hln6 : 1 ≤ es6.length ∧ es6.length ≤ fs.length + 7 := by rw [hes6]; omega
          rw [← hW6]
          clear hW6 hy hch6 hA6 hc6
          clear hes6 b0 b1 x2 hle5 hge5
          obtain ⟨t0, t1, t2, t3⟩ : W6.cell? ⟨g, 0, none⟩ = some (.int .i64 y.p) ∧ W6.cell? ⟨g, 1, none⟩ = some (.int .i64 y.w) ∧ W6.cell? ⟨g, 2, none⟩ = some (.slice y.A y.body.length y.c) ∧ W6.cell? ⟨g, 3, none⟩ = some (.slice none 0 0) := ⟨HSC.out.xb.cell 0, HSC.out.xb.cell 1, HSC.out.xb.cell 2, HSC.out.xb.cell 3⟩
          have u1 : W6.cell? ⟨B, 1, none⟩ = some (.slice A6 es6.length c6) := HSC.out.blk.cell 1
          obtain ⟨bG, hbG, hbG2, hbGg, hfr, hcl, hend⟩ := HSC.out.end_ hlf6
          subst hbG
          obtain ⟨W7, hW7⟩ : ∃ W, W = (((W6.setCell ⟨bG, f * 4, none⟩ (.int .i64 y.p)).setCell ⟨bG, f * 4 + 1, none⟩ (.int .i64 y.w)).setCell ⟨bG, f * 4 + 2, none⟩ (.slice y.A y.body.length y.c)).setCell ⟨bG, f * 4 + 3, none⟩ (.slice none 0 0) := ⟨_, rfl⟩
          obtain ⟨kb7, kr7, hco7, hb7, hm7⟩ := hend W7 hW7
          obtain ⟨v0, l0⟩ := hcl 0 (by omega)
          rw [Nat.add_zero] at l0
          obtain ⟨v1, l1⟩ := hcl 1 (by omega)
          obtain ⟨v2, l2⟩ := hcl 2 (by omega)
          obtain ⟨v3, l3⟩ := hcl 3 (by omega)
          have z0 := hfr (f * 4); have z1 := hfr (f * 4 + 1); have z2 := hfr (f * 4 + 2); have z3 := hfr (f * 4 + 3)
          have hif : (0 : Int) ≤ (f : Int) ∧ (f : Int) < (es6.length : Int) := ⟨by omega, by omega⟩
          have HCO7 := Lib.hid hco7
          have HB7 := Lib.hid hb7
          have HM7 := Lib.hid hm7
          have HW7 := Lib.hid hW7
          have HK7 := Lib.hid kb7
          have HR7 := Lib.hid kr7
          clear hend hfr hcl hW7 kb7 kr7 hco7 hb7 hm7
          go_upto_region 45 with fail
          rw [← HW7.out]
          clear l0 l1 l2 l3 z0 z1 z2 z3 t0 t1 t2 t3 u1
          obtain ⟨n0, n1⟩ : W7.cell? ⟨B, 0, none⟩ = some (.int .i64 ch6) ∧ W7.cell? ⟨B, 1, none⟩ = some (.slice (some ⟨bG, 0, none⟩) es6.length c6) := ⟨HK7.out.cell 0, HK7.out.cell 1⟩
          obtain ⟨r0, r1, q0, q1⟩ : W7.cell? ⟨B + 1, 0, none⟩ = some (.int .i64 0) ∧ W7.cell? ⟨B + 1, 1, none⟩ = some (.slice none 0 0) ∧ W7.frozen? ⟨B + 1, 0, none⟩ = false ∧ W7.frozen? ⟨B + 1, 1, none⟩ = false := ⟨HR7.out.cell 0, HR7.out.cell 1, HR7.out.frozen 0, HR7.out.frozen 1⟩
          go_wp2_with fail
          rw [HP.out]
          refine bodyPost_ret (v := .agg #[.int .i64 ch6, .slice (some ⟨bG, 0, none⟩) es6.length c6]) (by simp [results, Tryd.results9, go_sem, r0, r1]) rfl ?_
          have hlast := spo_post (m := m) (n := es.length) HB.out HCO7.out HB7.out HSC.out.cb (by rw [List.length_set, HNN.out]; exact hln6) HM7.out (.int .i64 ch6) (.slice (some ⟨bG, 0, none⟩) es6.length c6)
          rw [List.length_set] at hlast
          exact hlast
    · obtain ⟨z20, hz20⟩ : ∃ z, z = arnd by_ 20 := ⟨_, rfl⟩
      have hr20 := arnd_lt (x := by_) (n := 20) (by omega)
      rw [← hz20] at hr20
      have HZ : Hid (∀ W, Calls Tryd.prog 21 #[.int .i64 by_, .int .i64 20] W fun e w' => e = .returned (.int .i64 z20) ∧ W = w') := Lib.hid fun W => by rw [hz20]; exact HAR.out _ W (by omega)
      have hw20 : IntKind.i64.wrap (20 + z20) = 20 + z20 := by rw [IntKind.wrap_i64]; omega
      clear hz20
      go_upto_region 15 with (first
        | (go_at_call 21; first | (refine (HQ.out _).mono ?_; rintro e w4 ⟨rfl, rfl⟩) | (refine (HAR.out _ _ (by omega)).mono ?_; rintro e w4 ⟨rfl, rfl⟩)))
      obtain ⟨G, hG⟩ : ∃ z, z = W5.heap.size := ⟨_, rfl⟩
      have HG := Lib.hid hG
      clear hG
      go_loopw [15, 16] (fun s t wr => ∃ (i : Nat) (A7 : Option Addr) (c7 : Nat), (i : Int) ≤ 20 + z20 ∧ s = .slice A7 i c7 ∧ t = .int .i64 i ∧ Hid (wr.ownsRow G 54 3 (.slice A7 i c7) i (insCs (List.replicate i ⟨0, 0, 0⟩)) ∧ Below W5.heap.size W5 wr)) (fun _ t _ => 100 - (intOf t).toNat)
      case atStart => exact ⟨0, none, 0, by omega, rfl, rfl, World.ownsRow_nil _ _ _ _, Below.refl _ _⟩
      case round =>
        obtain ⟨i, A7, c7, hi7, rfl, rfl, HI⟩ := hrel
        go_upto_if 62 with (first
          | (go_at_call 21; refine (HZ.out _).mono ?_; rintro e w4 ⟨rfl, rfl⟩))
        by_cases hlt : (i : Int) < 20 + z20
        · have hd : decide ((i : Int) < 20 + z20) = true := decide_eq_true hlt
          go_wp2_with (at_builtin; go_loud (refine wpList_append_any _ rfl (.tmp 65) (.tmp 67) 49 rfl G 54 j0 _ 3 24 Tryd.underlying49 hj hy0 hy1 hy2 rfl (by omega) (.slice A7 i c7) i _ rfl (HI.out.1.alloc _) _ (some ⟨wr.heap.size, 0, none⟩) 1 1 (insC ⟨0, 0, 0⟩) rfl (ins_new wr ⟨0, 0, 0⟩) (insC_one _) (len_le (by omega)) (by omega) (by have h1 := HI.out.2.size; have h2 := HG.out; rw [size_alloc]; omega) ?_; intro v4 w4 hown4 hgrow4 _; obtain ⟨A4, c4, rfl, _⟩ := own_len hown4; have HN4 : Hid (w4.ownsRow G 54 3 (.slice A4 (i + 1) c4) (i + 1) (insCs (List.replicate (i + 1) ⟨0, 0, 0⟩)) ∧ Below W5.heap.size W5 w4) := Lib.hid ⟨by rw [List.replicate_succ', insCs_append]; simpa [insCs] using hown4, below_row HI.out.2 hgrow4 fun b e => by have := (HI.out.1.lt b e).1; have := HG.out; omega⟩; clear hown4 hgrow4))
          go_roundw
          case rel => exact ⟨i + 1, A4, c4, by omega, rfl, by go_num, HN4.out⟩
          case measure => simp [intOf]; omega
        · have hd : decide ((i : Int) < 20 + z20) = false := decide_eq_false hlt
          have hxm5 : x.body.length ≤ m := (HO5.out x hxm).2
          have hSr := HS5.out.next HI.out.2
          have HSR := Lib.hid (hSr.up (show m ≤ m + 39 by omega))
          have x8 : wr.cell? ⟨g, 2, none⟩ = some (.slice (some ⟨gb, 0, none⟩) x.body.length x.c) := by rw [← HXA.out]; exact hSr.xb.cell 2
          clear hSr b0 b1 x2
          go_upto_region 44 with (at_builtin; go_loud (refine wpList_append_any _ rfl (.tmp 69) (.tmp 71) 49 rfl G 54 j0 _ 3 24 Tryd.underlying49 hj hy0 hy1 hy2 rfl (by omega) (.slice A7 i c7) i _ rfl HI.out.1 wr.heap.size (some ⟨gb, 0, none⟩) x.body.length x.c (insCs x.body) rfl (by have h := HSR.out.xr.1.rd; rw [HXA.out] at h; exact h.reads fun b hb => hb.2.1) (insCs_one _) (len_le (by omega)) (by omega) (by have h1 := HI.out.2.size; have h2 := HG.out; omega) ?_; intro v4 w4 hown4 hgrow4 _; obtain ⟨A4, c4, nb, rfl, hS9, x9, q9⟩ := HS5.out.front HG.out HI.out.1 HI.out.2 hown4 hgrow4 (by omega) hml; have HS9 := Lib.hid hS9; clear hown4 hgrow4 hS9))
          obtain ⟨W6, hW6⟩ : ∃ W, W = w4.setCell ⟨g, 2, none⟩ (.slice A4 nb.length c4) := ⟨_, rfl⟩
          obtain ⟨y, hy⟩ : ∃ y : Ent, y = ⟨x.p, x.w, A4, c4, nb⟩ := ⟨_, rfl⟩
          obtain ⟨ch6, hch6⟩ : ∃ z : Int, z = ch := ⟨_, rfl⟩
          obtain ⟨es6, hes6⟩ : ∃ z : List Ent, z = fs := ⟨_, rfl⟩
          obtain ⟨A6, hA6⟩ : ∃ z : Option Addr, z = (some ⟨bF, 0, none⟩) := ⟨_, rfl⟩
          obtain ⟨c6, hc6⟩ : ∃ z : Nat, z = c1' := ⟨_, rfl⟩
          have HSC : Hid (Sx (m + 39) w W6 B g ch6 A6 c6 es6 y) := Lib.hid (by rw [hW6, hy, hch6, hes6, hA6, hc6]; exact HS9.out)
          have hlf6 : f < es6.length := by rw [hes6]; omega
          have hln6 : 1 ≤ es6.length ∧ es6.length ≤ fs.length + 7 := by rw [hes6]; omega
          rw [← hW6]
          clear hW6 hy hch6 hA6 hc6
          clear hes6 x8
          obtain ⟨t0, t1, t2, t3⟩ : W6.cell? ⟨g, 0, none⟩ = some (.int .i64 y.p) ∧ W6.cell? ⟨g, 1, none⟩ = some (.int .i64 y.w) ∧ W6.cell? ⟨g, 2, none⟩ = some (.slice y.A y.body.length y.c) ∧ W6.cell? ⟨g, 3, none⟩ = some (.slice none 0 0) := ⟨HSC.out.xb.cell 0, HSC.out.xb.cell 1, HSC.out.xb.cell 2, HSC.out.xb.cell 3⟩
          have u1 : W6.cell? ⟨B, 1, none⟩ = some (.slice A6 es6.length c6) := HSC.out.blk.cell 1
          obtain ⟨bG, hbG, hbG2, hbGg, hfr, hcl, hend⟩ := HSC.out.end_ hlf6
          subst hbG
          obtain ⟨W7, hW7⟩ : ∃ W, W = (((W6.setCell ⟨bG, f * 4, none⟩ (.int .i64 y.p)).setCell ⟨bG, f * 4 + 1, none⟩ (.int .i64 y.w)).setCell ⟨bG, f * 4 + 2, none⟩ (.slice y.A y.body.length y.c)).setCell ⟨bG, f * 4 + 3, none⟩ (.slice none 0 0) := ⟨_, rfl⟩
          obtain ⟨kb7, kr7, hco7, hb7, hm7⟩ := hend W7 hW7
          obtain ⟨v0, l0⟩ := hcl 0 (by omega)
          rw [Nat.add_zero] at l0
          obtain ⟨v1, l1⟩ := hcl 1 (by omega)
          obtain ⟨v2, l2⟩ := hcl 2 (by omega)
          obtain ⟨v3, l3⟩ := hcl 3 (by omega)
          have z0 := hfr (f * 4); have z1 := hfr (f * 4 + 1); have z2 := hfr (f * 4 + 2); have z3 := hfr (f * 4 + 3)
          have hif : (0 : Int) ≤ (f : Int) ∧ (f : Int) < (es6.length : Int) := ⟨by omega, by omega⟩
          have HCO7 := Lib.hid hco7
          have HB7 := Lib.hid hb7
          have HM7 := Lib.hid hm7
          have HW7 := Lib.hid hW7
          have HK7 := Lib.hid kb7
          have HR7 := Lib.hid kr7
          clear hend hfr hcl hW7 kb7 kr7 hco7 hb7 hm7
          go_upto_region 45 with fail
          rw [← HW7.out]
          clear l0 l1 l2 l3 z0 z1 z2 z3 t0 t1 t2 t3 u1
          obtain ⟨n0, n1⟩ : W7.cell? ⟨B, 0, none⟩ = some (.int .i64 ch6) ∧ W7.cell? ⟨B, 1, none⟩ = some (.slice (some ⟨bG, 0, none⟩) es6.length c6) := ⟨HK7.out.cell 0, HK7.out.cell 1⟩
          obtain ⟨r0, r1, q0, q1⟩ : W7.cell? ⟨B + 1, 0, none⟩ = some (.int .i64 0) ∧ W7.cell? ⟨B + 1, 1, none⟩ = some (.slice none 0 0) ∧ W7.frozen? ⟨B + 1, 0, none⟩ = false ∧ W7.frozen? ⟨B + 1, 1, none⟩ = false := ⟨HR7.out.cell 0, HR7.out.cell 1, HR7.out.frozen 0, HR7.out.frozen 1⟩
          go_wp2_with fail
          rw [HP.out]
          refine bodyPost_ret (v := .agg #[.int .i64 ch6, .slice (some ⟨bG, 0, none⟩) es6.length c6]) (by simp [results, Tryd.results9, go_sem, r0, r1]) rfl ?_
          have hlast := spo_post (m := m) (n := es.length) HB.out HCO7.out HB7.out HSC.out.cb (by rw [List.length_set, HNN.out]; exact hln6) HM7.out (.int .i64 ch6) (.slice (some ⟨bG, 0, none⟩) es6.length c6)
          rw [List.length_set] at hlast
          exact hlast
end Go.Proofs.YtbdknncmlcbbpaaDoor
