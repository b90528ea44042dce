/-
  decodeFun: a function at the beginning of bytes (dFun).
-/
import Derived.Test.YtbdknncmlcbbpaaDoorG36
import Derived.Test.YtbdknncmlcbbpaaDoorG37
import Derived.Test.YtbdknncmlcbbpaaDoorG16
import Derived.Shelf.Abstract
set_option linter.unusedVariables false
namespace Go.Proofs.YtbdknncmlcbbpaaDoor
open Go.RowKit Go.Shelf WM TR KM
attribute [local go_sem] Oper.semAt_some

theorem zip1 {f : Array Value → Tmp × Value → Array Value} {t : Array Value} {p : Tmp} {x : Value} : (Array.zip #[p] #[x]).foldl f t = f t (p, x) := by simp
theorem Stay.blk {S : Nat → Prop} {A B : World} (h : Stay S A B) {g : Nat} {t : TypeId} {cs : Array Value} (hb : Blk A g t cs) (hg : S g) : Blk B g t cs := (h.same g hg).trans hb
theorem Off.blk {l : Nat} {A B : World} (h : Off l A B) {g : Nat} {t : TypeId} {cs : Array Value} (hb : Blk A g t cs) (hg : g ≠ l) : Blk B g t cs := (h.same g hg).trans hb
theorem Mov.ends {S0 S : Nat → Prop} {w0 w W : World} (h : Mov S0 w S W) (h0 : Below w0.heap.size w0 w) (hS : ∀ b, S0 b → w0.heap.size ≤ b) (o : Obj) : Below w0.heap.size w0 (W.putObj w.heap.size o) := by
  have hb := h0.trans (h.below h0.size hS)
  have ho := Off.putObj W w.heap.size o
  exact ⟨ho.os.trans hb.os, ho.tape.trans hb.tape, ho.output.trans hb.output, by rw [ho.size]; exact hb.size, fun b hb' => (ho.same b (by have := h0.size; omega)).trans (hb.block b hb')⟩
/-- The instructions that have been made lie in a row of the loop's own. -/
structure EF (B bz : Nat) (p q : Int) (ys : List Ins) (S : Nat → Prop) (W : World) (v : Value) : Prop where
  box : S B
  blk : Blk W B 51 #[.int .i64 p, .int .i64 q, v, .slice none 0 0]
  own : W.ownsRow bz 54 3 v ys.length (insCs ys)
  row : ∀ g, v.ownBlock = some g → S g
section
variable {B bz : Nat} {p q : Int} {ys : List Ins} {x : Ins} {S S' : Nat → Prop} {W W' : World} {v : Value}
theorem EF.stay (h : EF B bz p q ys S W v) (hs : Stay S W W') : EF B bz p q ys S W' v :=
  ⟨h.box, hs.blk h.blk h.box, own_keep h.own fun g hg => hs.same g (h.row g hg), h.row⟩
theorem EF.next (h : EF B bz p q ys S W v) (hBs : B < bz) {w1 w2 : World} {v2 : Value} (hg1 : Below W.heap.size W w1)
    (hown2 : w2.ownsRow bz 54 3 v2 (ys.length + 1) (insCs ys ++ insC x)) (hg2 : w1.grownBy w2 v.ownBlock) (hnew : v2.ownBlock = v.ownBlock ∨ v2.ownBlock = some w1.heap.size) :
    Mov S W (fun b => S b ∨ (W.heap.size ≤ b ∧ b < w2.heap.size)) (w2.setCell ⟨B, 2, none⟩ v2) ∧ EF B bz p q (ys ++ [x]) (fun b => S b ∨ (W.heap.size ≤ b ∧ b < w2.heap.size)) (w2.setCell ⟨B, 2, none⟩ v2) v2 := by
  have hs1 := hg1.size
  have hs2 := hg2.size
  have hsc : (w2.setCell ⟨B, 2, none⟩ v2).heap.size = w2.heap.size := by show (w2.heap.modify _ _).size = _; rw [Array.size_modify]
  have hv := h.own.lt
  have hBv : v.ownBlock ≠ some B := fun e => by have := (hv B e).1; omega
  have keep : ∀ b, b < w1.heap.size → v.ownBlock ≠ some b → b ≠ B → (w2.setCell ⟨B, 2, none⟩ v2).heap[b]? = w1.heap[b]? := fun b hb hne hB =>
    (Below.heap_setCell w2 ⟨B, 2, none⟩ v2 b hB).trans (hg2.block b hb (fun e => hne e.symm))
  have hB1 : Blk w2 B 51 #[.int .i64 p, .int .i64 q, v, .slice none 0 0] := (hg2.block B (by have := h.blk.lt; omega) (fun e => hBv e.symm)).trans (h.blk.below hg1 h.blk.lt)
  refine ⟨⟨hg2.os.trans hg1.os, hg2.tape.trans hg1.tape, hg2.output.trans hg1.output, by omega, ?_, fun b hb => .inl hb, fun b hb => by rw [hsc]; exact hb⟩, ⟨.inl h.box, by simpa using hB1.set_ 2 v2, ?_, ?_⟩⟩
  · intro b hb hn
    exact (keep b (by omega) (fun e => hn (h.row b e)) (fun e => hn (e ▸ h.box))).trans (hg1.block b hb)
  · rw [List.length_append, insCs_append]
    have := ownsRow_setCell_below hown2 (a := ⟨B, 2, none⟩) (by show B < bz; exact hBs) v2
    simpa [insCs] using this
  · intro g hg
    rcases hnew with hn | hn
    · exact .inl (h.row g (hn ▸ hg))
    · have hlt := (hown2.lt g hg).2
      rw [hn] at hg
      have := Option.some.inj hg
      exact .inr ⟨by omega, hlt⟩
theorem EF.boxed (h : EF B bz p q ys S W v) (hBs : B < bz) {w1 w2 : World} (hg1 : Below W.heap.size W w1) (hg2 : w1.grownBy w2 v.ownBlock) : w2.cell? ⟨B, 2, none⟩ = some v ∧ w2.frozen? ⟨B, 2, none⟩ = false := by
  have hv := h.own.lt
  have hBv : v.ownBlock ≠ some B := fun e => by have := (hv B e).1; omega
  have hs1 := hg1.size
  have hB1 : Blk w2 B 51 #[.int .i64 p, .int .i64 q, v, .slice none 0 0] := (hg2.block B (by have := h.blk.lt; omega) (fun e => hBv e.symm)).trans (h.blk.below hg1 h.blk.lt)
  exact ⟨hB1.cell 2, hB1.frozen 2⟩
end
theorem flat_vi (l : List Int) : l.flatMap (fun x : Int => [Value.int .i64 x]) = vi l := by
  induction l with
  | nil => rfl
  | cons y l ih => rw [List.flatMap_cons, ih]; rfl
theorem AtC.size1 {x : Ins} {vs : Array Value} {S : Nat → Prop} {W : World} (h : AtC x vs S W) : vs.size = 1 := by
  obtain ⟨b, off, rfl, _⟩ := h
  rfl
/-- Three integers in their place. -/
def C3 (b off : Nat) (x : Ins) (w : World) : Prop := w.cell? ⟨b, off, none⟩ = some (.int .i64 x.op) ∧ w.cell? ⟨b, off + 1, none⟩ = some (.int .i64 x.a) ∧ w.cell? ⟨b, off + 2, none⟩ = some (.int .i64 x.b)
theorem C3.keep {b off : Nat} {x : Ins} {w w' : World} (h : C3 b off x w) (hk : w'.heap[b]? = w.heap[b]?) : C3 b off x w' :=
  ⟨(World.cell?_of_block hk).trans h.1, (World.cell?_of_block hk).trans h.2.1, (World.cell?_of_block hk).trans h.2.2⟩
theorem b_drew2 (w : World) (o : Obj) : Below w.heap.size w (w.alloc o).drew := by
  have h := below_new w o
  exact ⟨h.os, h.tape, h.output, h.size, h.block⟩
/-- What decodeFun leaves. -/
def DFPost (l : List UInt8) (w : World) (e : Ending) (w' : World) : Prop :=
  match dFun l with
  | none => e = .returned (.tuple #[.agg #[.int .i64 0, .int .i64 0, .slice none 0 0, .slice none 0 0], .int .i64 0, .bool false]) ∧ Below w.heap.size w w'
  | some (f, u) => ∃ A c, e = .returned (.tuple #[.agg #[.int .i64 f.p, .int .i64 f.w, .slice A f.body.length c, .slice none 0 0], .int .i64 (u : Int), .bool true]) ∧ w'.ownsRow w.heap.size 54 3 (.slice A f.body.length c) f.body.length (insCs f.body) ∧ Below w.heap.size w w'
theorem bytes_slice : Tryd.prog.underlying 32 = some (.slice (Tryd.prog.elem 32)) := by kernel_rfl
theorem bytes_elem : Tryd.prog.elem 32 = 5 := by kernel_rfl
theorem size_u8 (W : World) : (sizeOf 5).run Tryd.prog W = .ok 1 W := by kernel_rfl
/-- 'b[u:]' -/
theorem cutB (b off u n c : Nat) (h : u ≤ n) (hc : n ≤ c) : ∀ W : World, (Instr.sliceAt 32 (.slice (some ⟨b, off, none⟩) n c) (some (.int .i64 (u : Int))) none none).run Tryd.prog W = .ok (.slice (some ⟨b, if c = u then off else off + u, none⟩) (n - u) (c - u)) W := by
  intro W
  rw [run_sliceAt_slice W 32 _ _ _ _ bytes_slice, run_slice_l W 32 (some ⟨b, off, none⟩) n c bytes_slice .i64 u (by omega) (by omega), bytes_elem, size_u8]
  by_cases h2 : c = u
  · simp [sliced, h2]
  · simp [sliced, h2, Addr.add]
theorem reads_drop {w : World} {B b off c : Nat} {l : List UInt8} (h : Reads w B 1 (some ⟨b, off, none⟩) l.length (bs l)) {u : Nat} (hu : u ≤ l.length) (hc : l.length ≤ c) : Reads w B 1 (some ⟨b, if c = u then off else off + u, none⟩) (l.drop u).length (bs (l.drop u)) := by
  refine ⟨by simp [bs], fun hn => ?_⟩
  rw [List.length_drop] at hn
  obtain ⟨ad, e, hb, hcell⟩ := h.2 (by omega)
  injection e with e
  subst e
  rw [if_neg (by omega)]
  refine ⟨_, rfl, hb, fun j v hv => ?_⟩
  rw [← bs_drop, List.getElem?_drop] at hv
  have := hcell _ v hv
  rw [Addr.add_lit] at this ⊢
  rw [← this, Nat.add_assoc]
/-- The answer's block, emptied. -/
theorem df_err {w W1 w2 : World} {z : Nat} (hz : z = w.heap.size) (hb1 : Below w.heap.size w W1) (hb2 : Below W1.heap.size W1 w2) {cs : Array Value} (k2 : Blk w2 z 51 cs) (hcs : cs.size = 4) :
    ∀ W9, W9 = (((w2.setCell ⟨z, 0, none⟩ (.int .i64 0)).setCell ⟨z, 1, none⟩ (.int .i64 0)).setCell ⟨z, 2, none⟩ (.slice none 0 0)).setCell ⟨z, 3, none⟩ (.slice none 0 0) → Blk W9 z 51 #[.int .i64 0, .int .i64 0, .slice none 0 0, .slice none 0 0] ∧ Below w.heap.size w W9 := by
  intro W9 hW9
  have hw : w.heap.size ≤ z := by omega
  refine ⟨?_, by rw [hW9]; exact below_set (below_set (below_set (below_set (bt hb1 hb2) hw _ _) hw _ _) hw _ _) hw _ _⟩
  rw [hW9]
  have := (((k2.set_ 0 (.int .i64 0)).set_ 1 (.int .i64 0)).set_ 2 (.slice none 0 0)).set_ 3 (.slice none 0 0)
  obtain ⟨cs⟩ := cs
  match cs, hcs with
  | [_, _, _, _], _ => simpa using this
/-- A remainder, kept shut. -/
def remS (k : IntKind) (a b : Int) : Sem Value := Op.intDiv .rem k a b
theorem shutRem (k : IntKind) (a b : Int) : Op.intDiv .rem k a b = remS k a b := rfl
theorem run_rem (n : Nat) : ∃ r : Int, r = ((n % 3 : Nat) : Int) ∧ ∀ W : World, (remS .i64 (n : Int) 3).run Tryd.prog W = .ok (.int .i64 r) W := by
  refine ⟨((n % 3 : Nat) : Int), rfl, fun W => ?_⟩
  have h : ((n : Int).tmod 3) = ((n % 3 : Nat) : Int) := by rw [Int.tmod_eq_emod_of_nonneg (by omega)]; omega
  unfold remS Op.intDiv
  rw [← h]
  rfl
attribute [local go_sem ↓ high] shutRem
set_option maxRecDepth 100000 in
set_option maxHeartbeats 16000000 in
theorem decodeFun_is (A : Option Addr) (c : Nat) (l : List UInt8) (w : World) (ha : Reads w w.heap.size 1 A l.length (bs l)) (hlc : l.length ≤ c) (hl : l.length ≤ 1000000) :
    Calls Tryd.prog 51 #[.slice A l.length c] w (DFPost l w) := by
  obtain ⟨i1, gi, gz0, gz1, gz2⟩ := info_parts ins_info
  have hmo : Tryd.prog.follows .mixedOrders = true := by kernel_rfl
  obtain ⟨nl, hnl⟩ : ∃ z, z = l.length := ⟨_, rfl⟩
  obtain ⟨z, hz⟩ : ∃ z, z = w.heap.size := ⟨_, rfl⟩
  obtain ⟨W1, hW1⟩ : ∃ W, W = w.alloc (.cells #[.int .i64 0, .int .i64 0, .slice none 0 0, .slice none 0 0] 51) := ⟨_, rfl⟩
  have hb1 : Below w.heap.size w W1 := by rw [hW1]; exact below_new _ _
  have kr : Blk W1 z 51 #[.int .i64 0, .int .i64 0, .slice none 0 0, .slice none 0 0] := by rw [hW1, hz]; exact Blk.new _ _ _
  have ha1 := (ha.below hb1).more hb1.size
  have hG := getInts A c l W1 ha1 hlc hl
  obtain ⟨P, hP⟩ : ∃ P, P = DFPost l w := ⟨_, rfl⟩
  rw [← hP, ← hnl]
  rw [← hnl] at hG
  have HP := Lib.hid hP
  have HNL := Lib.hid hnl
  have HW1 := Lib.hid hW1
  have HZ := Lib.hid hz
  have HB1 := Lib.hid hb1
  have HKR := Lib.hid kr
  have HA := Lib.hid ha1
  have hln : nl ≤ 1000000 := by rw [hnl]; exact hl
  have hlcn : nl ≤ c := by rw [hnl]; exact hlc
  have HLC := Lib.hid hlc
  have HLL := Lib.hid hl
  clear hP hW1 hz hb1 kr ha ha1 hnl hlc hl
  refine (callsIn_wide (n := 9)).1 ?_
  refine callsIn_of_wp_marks Tryd.func51 rfl trivial ?_ rfl
  simp only [Tryd.ntmps51, List.size_toArray, List.length_cons, List.length_nil, Nat.reduceAdd, Nat.reduceSub, Array.replicate_succ, Array.replicate_zero, List.push_toArray, List.append_toArray, List.nil_append, List.cons_append]
  refine wpIn_wide.2 ?_
  go_upto_region 1 with fail
  rw [← HW1.out]
  try rw [← HZ.out]
  cases hd : dInts l with
  | more =>
    have hd2 : gElems 1 gInt l = .more := hd
    rw [hd2] at hG
    have HG : Hid (Calls Tryd.prog 69 #[.slice A nl c] W1 fun e w' => e = .returned (.tuple #[.slice none 0 0, .int .i64 0, .int .i64 3]) ∧ Below W1.heap.size W1 w') := Lib.hid hG
    have HD : Hid (dFun l = none) := Lib.hid (by unfold dFun; rw [hd])
    clear hd hd2 hG
    go_wp2_with (go_at_call 69; refine HG.out.mono ?_; rintro e w2 ⟨rfl, hb2⟩; have HB2 := Lib.hid hb2; have k2 := HKR.out.below hb2 HKR.out.lt; have r0 := k2.cell 0; have r1 := k2.cell 1; have r2 := k2.cell 2; have r3 := k2.cell 3; have q0 := k2.frozen 0; have q1 := k2.frozen 1; have q2 := k2.frozen 2; have q3 := k2.frozen 3; simp only [List.getElem?_toArray, List.getElem?_cons_zero, List.getElem?_cons_succ] at r0 r1 r2 r3; have HK2 := Lib.hid k2; clear hb2 k2)
    obtain ⟨W9, hW9⟩ : ∃ W, W = (((w2.setCell ⟨z, 0, none⟩ (.int .i64 0)).setCell ⟨z, 1, none⟩ (.int .i64 0)).setCell ⟨z, 2, none⟩ (.slice none 0 0)).setCell ⟨z, 3, none⟩ (.slice none 0 0) := ⟨_, rfl⟩
    obtain ⟨k9, hb9⟩ := df_err HZ.out HB1.out HB2.out HK2.out rfl W9 hW9
    rw [← hW9]
    obtain ⟨s0, s1, s2, s3⟩ : W9.cell? ⟨z, 0, none⟩ = some (.int .i64 0) ∧ W9.cell? ⟨z, 1, none⟩ = some (.int .i64 0) ∧ W9.cell? ⟨z, 2, none⟩ = some (.slice none 0 0) ∧ W9.cell? ⟨z, 3, none⟩ = some (.slice none 0 0) := ⟨k9.cell 0, k9.cell 1, k9.cell 2, k9.cell 3⟩
    refine ⟨.tuple #[.agg #[.int .i64 0, .int .i64 0, .slice none 0 0, .slice none 0 0], .int .i64 0, .bool false], by simp [results, Tryd.results51, go_sem, s0, s1, s2, s3], ?_⟩
    rw [HP.out]
    unfold DFPost
    rw [HD.out]
    exact ⟨rfl, hb9⟩
  | form =>
    have hd2 : gElems 1 gInt l = .form := hd
    rw [hd2] at hG
    have HG : Hid (Calls Tryd.prog 69 #[.slice A nl c] W1 fun e w' => e = .returned (.tuple #[.slice none 0 0, .int .i64 0, .int .i64 2]) ∧ Below W1.heap.size W1 w') := Lib.hid hG
    have HD : Hid (dFun l = none) := Lib.hid (by unfold dFun; rw [hd])
    clear hd hd2 hG
    go_wp2_with (go_at_call 69; refine HG.out.mono ?_; rintro e w2 ⟨rfl, hb2⟩; have HB2 := Lib.hid hb2; have k2 := HKR.out.below hb2 HKR.out.lt; have r0 := k2.cell 0; have r1 := k2.cell 1; have r2 := k2.cell 2; have r3 := k2.cell 3; have q0 := k2.frozen 0; have q1 := k2.frozen 1; have q2 := k2.frozen 2; have q3 := k2.frozen 3; simp only [List.getElem?_toArray, List.getElem?_cons_zero, List.getElem?_cons_succ] at r0 r1 r2 r3; have HK2 := Lib.hid k2; clear hb2 k2)
    obtain ⟨W9, hW9⟩ : ∃ W, W = (((w2.setCell ⟨z, 0, none⟩ (.int .i64 0)).setCell ⟨z, 1, none⟩ (.int .i64 0)).setCell ⟨z, 2, none⟩ (.slice none 0 0)).setCell ⟨z, 3, none⟩ (.slice none 0 0) := ⟨_, rfl⟩
    obtain ⟨k9, hb9⟩ := df_err HZ.out HB1.out HB2.out HK2.out rfl W9 hW9
    rw [← hW9]
    obtain ⟨s0, s1, s2, s3⟩ : W9.cell? ⟨z, 0, none⟩ = some (.int .i64 0) ∧ W9.cell? ⟨z, 1, none⟩ = some (.int .i64 0) ∧ W9.cell? ⟨z, 2, none⟩ = some (.slice none 0 0) ∧ W9.cell? ⟨z, 3, none⟩ = some (.slice none 0 0) := ⟨k9.cell 0, k9.cell 1, k9.cell 2, k9.cell 3⟩
    refine ⟨.tuple #[.agg #[.int .i64 0, .int .i64 0, .slice none 0 0, .slice none 0 0], .int .i64 0, .bool false], by simp [results, Tryd.results51, go_sem, s0, s1, s2, s3], ?_⟩
    rw [HP.out]
    unfold DFPost
    rw [HD.out]
    exact ⟨rfl, hb9⟩
  | ok xs u =>
    have hd2 : gElems 1 gInt l = .ok xs u := hd
    rw [hd2] at hG
    obtain ⟨nx, hnx⟩ : ∃ z, z = xs.length := ⟨_, rfl⟩
    have HG : Hid (Calls Tryd.prog 69 #[.slice A nl c] W1 fun e w' => ∃ A2 c2, e = .returned (.tuple #[.slice A2 nx c2, .int .i64 (u : Int), .int .i64 0]) ∧ w'.ownsRow W1.heap.size 3 1 (.slice A2 nx c2) nx (xs.flatMap fun x : Int => [.int .i64 x]) ∧ Below W1.heap.size W1 w') := Lib.hid (by rw [hnx]; exact hG)
    by_cases h2 : nx = 2
    · obtain ⟨p, q, rfl⟩ : ∃ p q, xs = [p, q] := by
        rw [hnx] at h2
        rcases xs with _ | ⟨p, _ | ⟨q, _ | ⟨r, t⟩⟩⟩
        · simp at h2
        · simp at h2
        · exact ⟨p, q, rfl⟩
        · simp at h2
      subst h2
      obtain ⟨hin, _, t1, hl1, hu1⟩ := dInts_ok hd
      have hup : 1 ≤ u ∧ u ≤ nl := by
        have h9 := congrArg List.length hl1
        rw [List.length_append, ← hu1, ← HNL.out] at h9
        have h8 := enc_len (n := (([p, q] : List Int).length : Int)) ⟨by simp, by simp⟩
        have h7 : (encL enc [p, q]).length = (enc (([p, q] : List Int).length : Int)).length + ([p, q].flatMap enc).length := by unfold encL; rw [List.length_append]
        omega
      have HD1 := Lib.hid hd
      have HIN := Lib.hid hin
      clear hd hd2 hG hl1 hu1 hin hnx
      obtain ⟨bA, oA, hAA, hA1, hA2⟩ := HA.out.lit (by rw [← HNL.out]; omega)
      subst hAA
      have hcut := cutB bA oA u nl c hup.2 hlcn
      have hrd := reads_drop HA.out (u := u) (by rw [← HNL.out]; exact hup.2) HLC.out
      obtain ⟨o2, ho2⟩ : ∃ z, z = (if c = u then oA else oA + u) := ⟨_, rfl⟩
      rw [← ho2] at hcut hrd
      have HRD := Lib.hid hrd
      clear ho2 hrd hA1 hA2
      go_upto_region 4 with (go_at_call 69; refine HG.out.mono ?_; rintro e w2 ⟨A2, c2, rfl, hown2, hb2⟩; have HOW2 := Lib.hid hown2; have HB2 := Lib.hid hb2; have k2 := HKR.out.below hb2 HKR.out.lt; have r0 := k2.cell 0; have r1 := k2.cell 1; have r2 := k2.cell 2; have r3 := k2.cell 3; have q0 := k2.frozen 0; have q1 := k2.frozen 1; have q2 := k2.frozen 2; have q3 := k2.frozen 3; simp only [List.getElem?_toArray, List.getElem?_cons_zero, List.getElem?_cons_succ] at r0 r1 r2 r3; have HK2 := Lib.hid k2; clear hb2 k2)
      clear r0 r1 r2 r3 q0 q1 q2 q3
      have hG4 := getInts (some ⟨bA, o2, none⟩) (c - u) (l.drop u) w2 ((HRD.out.below HB2.out).more HB2.out.size) (by rw [List.length_drop]; have := HLC.out; omega) (by rw [List.length_drop]; have := HLL.out; omega)
      have hld : (l.drop u).length = nl - u := by rw [List.length_drop, HNL.out]
      rw [hld] at hG4
      cases hd4 : dInts (l.drop u) with
      | more =>
        have hd5 : gElems 1 gInt (l.drop u) = .more := hd4
        rw [hd5] at hG4
        have HG4 : Hid (Calls Tryd.prog 69 #[.slice (some ⟨bA, o2, none⟩) (nl - u) (c - u)] w2 fun e w' => e = .returned (.tuple #[.slice none 0 0, .int .i64 0, .int .i64 3]) ∧ Below w2.heap.size w2 w') := Lib.hid hG4
        have HD : Hid (dFun l = none) := Lib.hid (by unfold dFun; rw [HD1.out]; simp only []; rw [hd4])
        clear hd4 hd5 hG4 hld
        go_wp2_with (go_at_call 69; refine HG4.out.mono ?_; rintro e w4 ⟨rfl, hb4⟩; have HB4 := Lib.hid (bt HB2.out hb4); have k4 := HK2.out.below hb4 HK2.out.lt; have r0 := k4.cell 0; have r1 := k4.cell 1; have r2 := k4.cell 2; have r3 := k4.cell 3; have q0 := k4.frozen 0; have q1 := k4.frozen 1; have q2 := k4.frozen 2; have q3 := k4.frozen 3; simp only [List.getElem?_toArray, List.getElem?_cons_zero, List.getElem?_cons_succ] at r0 r1 r2 r3; have HK4 := Lib.hid k4; have HB24 := Lib.hid hb4; clear hb4 k4)
        obtain ⟨W9, hW9⟩ : ∃ W, W = (((w4.setCell ⟨z, 0, none⟩ (.int .i64 0)).setCell ⟨z, 1, none⟩ (.int .i64 0)).setCell ⟨z, 2, none⟩ (.slice none 0 0)).setCell ⟨z, 3, none⟩ (.slice none 0 0) := ⟨_, rfl⟩
        obtain ⟨k9, hb9⟩ := df_err HZ.out HB1.out HB4.out HK4.out rfl W9 hW9
        rw [← hW9]
        obtain ⟨s0, s1, s2, s3⟩ : W9.cell? ⟨z, 0, none⟩ = some (.int .i64 0) ∧ W9.cell? ⟨z, 1, none⟩ = some (.int .i64 0) ∧ W9.cell? ⟨z, 2, none⟩ = some (.slice none 0 0) ∧ W9.cell? ⟨z, 3, none⟩ = some (.slice none 0 0) := ⟨k9.cell 0, k9.cell 1, k9.cell 2, k9.cell 3⟩
        refine ⟨.tuple #[.agg #[.int .i64 0, .int .i64 0, .slice none 0 0, .slice none 0 0], .int .i64 0, .bool false], by simp [results, Tryd.results51, go_sem, s0, s1, s2, s3], ?_⟩
        rw [HP.out]
        unfold DFPost
        rw [HD.out]
        exact ⟨rfl, hb9⟩
      | form =>
        have hd5 : gElems 1 gInt (l.drop u) = .form := hd4
        rw [hd5] at hG4
        have HG4 : Hid (Calls Tryd.prog 69 #[.slice (some ⟨bA, o2, none⟩) (nl - u) (c - u)] w2 fun e w' => e = .returned (.tuple #[.slice none 0 0, .int .i64 0, .int .i64 2]) ∧ Below w2.heap.size w2 w') := Lib.hid hG4
        have HD : Hid (dFun l = none) := Lib.hid (by unfold dFun; rw [HD1.out]; simp only []; rw [hd4])
        clear hd4 hd5 hG4 hld
        go_wp2_with (go_at_call 69; refine HG4.out.mono ?_; rintro e w4 ⟨rfl, hb4⟩; have HB4 := Lib.hid (bt HB2.out hb4); have k4 := HK2.out.below hb4 HK2.out.lt; have r0 := k4.cell 0; have r1 := k4.cell 1; have r2 := k4.cell 2; have r3 := k4.cell 3; have q0 := k4.frozen 0; have q1 := k4.frozen 1; have q2 := k4.frozen 2; have q3 := k4.frozen 3; simp only [List.getElem?_toArray, List.getElem?_cons_zero, List.getElem?_cons_succ] at r0 r1 r2 r3; have HK4 := Lib.hid k4; have HB24 := Lib.hid hb4; clear hb4 k4)
        obtain ⟨W9, hW9⟩ : ∃ W, W = (((w4.setCell ⟨z, 0, none⟩ (.int .i64 0)).setCell ⟨z, 1, none⟩ (.int .i64 0)).setCell ⟨z, 2, none⟩ (.slice none 0 0)).setCell ⟨z, 3, none⟩ (.slice none 0 0) := ⟨_, rfl⟩
        obtain ⟨k9, hb9⟩ := df_err HZ.out HB1.out HB4.out HK4.out rfl W9 hW9
        rw [← hW9]
        obtain ⟨s0, s1, s2, s3⟩ : W9.cell? ⟨z, 0, none⟩ = some (.int .i64 0) ∧ W9.cell? ⟨z, 1, none⟩ = some (.int .i64 0) ∧ W9.cell? ⟨z, 2, none⟩ = some (.slice none 0 0) ∧ W9.cell? ⟨z, 3, none⟩ = some (.slice none 0 0) := ⟨k9.cell 0, k9.cell 1, k9.cell 2, k9.cell 3⟩
        refine ⟨.tuple #[.agg #[.int .i64 0, .int .i64 0, .slice none 0 0, .slice none 0 0], .int .i64 0, .bool false], by simp [results, Tryd.results51, go_sem, s0, s1, s2, s3], ?_⟩
        rw [HP.out]
        unfold DFPost
        rw [HD.out]
        exact ⟨rfl, hb9⟩
      | ok ys m =>
        have hd5 : gElems 1 gInt (l.drop u) = .ok ys m := hd4
        rw [hd5] at hG4
        obtain ⟨ny, hny⟩ : ∃ z, z = ys.length := ⟨_, rfl⟩
        have HG4 : Hid (Calls Tryd.prog 69 #[.slice (some ⟨bA, o2, none⟩) (nl - u) (c - u)] w2 fun e w' => ∃ A4 c4, e = .returned (.tuple #[.slice A4 ny c4, .int .i64 (m : Int), .int .i64 0]) ∧ w'.ownsRow w2.heap.size 3 1 (.slice A4 ny c4) ny (ys.flatMap fun x : Int => [.int .i64 x]) ∧ Below w2.heap.size w2 w') := Lib.hid (by rw [hny]; exact hG4)
        have hyl : ny ≤ 1000000 ∧ m ≤ 1000000 := by
          obtain ⟨h1, h2, t2, h3, h4⟩ := dInts_ok hd4
          have h5 := congrArg List.length h3
          rw [List.length_append, ← h4, hld] at h5
          have h6 : (encL enc ys).length = (enc ((ys.length : Nat) : Int)).length + (ys.flatMap enc).length := by unfold encL; rw [List.length_append]
          have h7 := flat_len (e := enc) (least := 1) (xs := ys) fun x hx => (enc_len (h1 x hx)).1
          omega
        by_cases h3 : ny % 3 = 0
        · have HD4 := Lib.hid hd4
          have HNY := Lib.hid hny
          clear hd4 hd5 hG4 hld hny
          obtain ⟨rr, hrr, hrun⟩ := run_rem ny
          have hrm : (rr != 0) = false := by rw [bne_eq_false_iff_eq]; omega
          clear hrr
          have H3 := Lib.hid h3
          clear h3
          go_upto_region 5 with (go_at_call 69; refine HG4.out.mono ?_; rintro e w4 ⟨A4, c4, rfl, hown4, hb4⟩; have HOW4 := Lib.hid hown4; clear hown4; have HB4 := Lib.hid (bt HB2.out hb4); have k4 := HK2.out.below hb4 HK2.out.lt; have r0 := k4.cell 0; have r1 := k4.cell 1; have r2 := k4.cell 2; have r3 := k4.cell 3; have q0 := k4.frozen 0; have q1 := k4.frozen 1; have q2 := k4.frozen 2; have q3 := k4.frozen 3; simp only [List.getElem?_toArray, List.getElem?_cons_zero, List.getElem?_cons_succ] at r0 r1 r2 r3; have HK4 := Lib.hid k4; have HB24 := Lib.hid hb4; clear hb4 k4)
          obtain ⟨gh, cap2, hv2, _, hlt2⟩ := HOW2.out.form (by omega)
          obtain ⟨rfl, rfl⟩ : A2 = some ⟨gh, 0, none⟩ ∧ c2 = cap2 := by injection hv2 with a1 a2 a3; exact ⟨a1, a3⟩
          have ehd : ∀ i v, ([p, q].flatMap fun x : Int => [Value.int .i64 x])[i]? = some v → w4.cell? ⟨gh, i, none⟩ = some v := fun i v hv => by
            have h1 := HOW2.out.cells (g := gh) rfl i v hv
            rw [Addr.add_lit, Nat.zero_add] at h1
            exact (HB24.out.cell (p := ⟨gh, i, none⟩) hlt2).trans h1
          have p0 := ehd 0 _ rfl
          have p1 := ehd 1 _ rfl
          have hg4 : gh < w4.heap.size := Nat.lt_of_lt_of_le hlt2 HB24.out.size
          have hal := below_new w4 (.cells #[.int .i64 0, .int .i64 0, .slice none 0 0, .slice none 0 0] 51)
          have pa0 := (hal.cell (p := ⟨gh, 0, none⟩) hg4).trans p0
          have pa1 := (hal.cell (p := ⟨gh, 1, none⟩) hg4).trans p1
          clear hal
          go_upto_region 7 with fail
          clear ehd hlt2 hrun hrm HG HG4 hcut r0 r1 r2 r3 q0 q1 q2 q3
          go_region
          obtain ⟨W5, hW5⟩ : ∃ W, W = (w4.alloc (.cells #[.int .i64 p, .int .i64 q, .slice none 0 0, .slice none 0 0] 51)).drew := ⟨_, rfl⟩
          obtain ⟨gb, hgb⟩ : ∃ z, z = w4.heap.size := ⟨_, rfl⟩
          have hb45 : Below w4.heap.size w4 W5 := by rw [hW5]; exact (below_new _ _).drew
          have hs5 : W5.heap.size = gb + 1 := by rw [hW5, hgb]; exact size_alloc _ _
          have kb : Blk W5 gb 51 #[.int .i64 p, .int .i64 q, .slice none 0 0, .slice none 0 0] := by
            have h : Blk (w4.alloc (.cells #[.int .i64 p, .int .i64 q, .slice none 0 0, .slice none 0 0] 51)) gb 51 #[.int .i64 p, .int .i64 q, .slice none 0 0, .slice none 0 0] := by rw [hgb]; exact Blk.new _ _ _
            rw [hW5]; exact h
          rw [← hW5, ← hgb]
          have HB45 := Lib.hid hb45
          have HS5 := Lib.hid hs5
          have HKB := Lib.hid kb
          have HGB := Lib.hid hgb
          clear hW5 hgb hb45 hs5 kb p0 p1 pa0 pa1 hg4
          go_wp2_with (go_at_call 70; refine (chunk_is A4 ny c4 _).mono ?_; rintro e w6 ⟨rfl, hw6⟩)
          obtain ⟨Bc, hBc⟩ : ∃ z, z = W5.heap.size := ⟨_, rfl⟩
          have hz6 : w6.heap.size = Bc + 2 := by rw [hw6, size_alloc, size_alloc, hBc]
          have hb56 : Below W5.heap.size W5 w6 := by rw [hw6]; exact ba (below_new _ _) _
          have kc1 : Blk w6 Bc 22 #[.slice A4 ny c4] := by rw [hw6, hBc]; exact (Blk.new _ _ _).alloc _
          have kc2 : Blk w6 (Bc + 1) 3 #[.int .i64 3] := by rw [hw6]; exact Blk.new_at _ _ (by rw [size_alloc, hBc]) rfl
          have kb6 := HKB.out.below hb56 HKB.out.lt
          have hflat : flatI (trip ys) = ys := flat_trip ys (by rw [← HNY.out]; exact H3.out)
          have hcells : ys.flatMap (fun x : Int => [Value.int .i64 x]) = vi (flatI (trip ys)) := by rw [hflat]; exact flat_vi ys
          have hown4 := HOW4.out
          rw [hcells] at hown4
          have hlen3 : ny = 3 * (trip ys).length := by rw [← flatI_length, hflat]; exact HNY.out
          obtain ⟨_, _, e4, hc4⟩ := own_len hown4
          cases e4
          have hgbB : gb < Bc := by have := HS5.out; omega
          have hrd6 : Rd w6 (fun b => w2.heap.size ≤ b ∧ b < w4.heap.size) 1 A4 ny (vi (flatI (trip ys))) := ((Rd.of_own hown4).keep fun b hb => HB45.out.block b hb.2).keep fun b hb => hb56.block b (Nat.lt_of_lt_of_le hb.2 HB45.out.size)
          have hseq := citer_is (9 - 1) Bc (trip ys) A4 ny c4 (fun b => w2.heap.size ≤ b ∧ b < w4.heap.size) w6 kc1 kc2 hrd6 (fun b hb => by have h1 := hb.2; have h2 := HGB.out; omega) hlen3 hc4 hyl.1
          rw [← hw6, ← hBc]
          have HB56 := Lib.hid hb56
          have HZ6 := Lib.hid hz6
          have HBC := Lib.hid hBc
          clear hw6 hflat hcells hown4 hlen3 hc4 hrd6 kc1 kc2 hb56 hz6 hBc
          refine (wpIn_wide (n := 9)).1 ?_
          refine wpIn_range_T (w := w6) rfl (by omega) (gf := 85) (lb := #[.pointer (some ⟨Bc, 0, none⟩), .pointer (some ⟨Bc + 1, 0, none⟩)]) rfl trivial (enters_of Tryd.func85 (by kernel_rfl) rfl) hseq (Below.refl _ _) (fun x vs S W hx => hx.size1)
            (fun b hb => by
              have h3 := HZ6.out
              have h2 := HGB.out
              rcases hb with hb | hb | hb
              · have h1 := hb.2; omega
              · omega
              · omega)
            (fun pre S W => ∃ v, EF gb (gb + 1) p q pre S W v) (fun _ _ _ _ => False) (fun pre S W W' hI hst => by obtain ⟨v, h⟩ := hI; exact ⟨v, h.stay hst⟩) (fun _ _ _ _ _ h _ => h)
            (fun b => b = gb) (fun b hb => ⟨by have h3 := HZ6.out; omega, fun h => by
              have h2 := HGB.out
              rcases h with h | h | h
              · have h1 := h.2; omega
              · omega
              · omega⟩) ⟨.slice none 0 0, rfl, kb6, World.ownsRow_nil _ _ _ _, fun g hg => (by cases hg)⟩ ?round ?done ?stop
          case round =>
            rintro pre x vs S W ⟨v, hE⟩ hpre ⟨b, off, rfl, hbW, hnS, y0, y1, y2⟩ hm hlt hn1 hn2
            have hlen : pre.length + 1 ≤ 1000000 := by
              have h1 := hpre.length_le
              rw [List.length_append, List.length_singleton] at h1
              have h2 := HNY.out
              have h3 : 3 * (trip ys).length = ny := by rw [← flatI_length, flat_trip ys (by rw [← HNY.out]; exact H3.out)]; exact HNY.out.symm
              omega
            obtain ⟨Av, cv, rfl, _⟩ := own_len hE.own
            clear hseq kb6
            rw [zip1]
            refine wpIn_region_plain (fun h => by obtain ⟨a, w, h⟩ := h; exact h) (by simp) ?_
            go_wp2_with fail
            refine ⟨S, Mov.of_below (Below.refl _ _), fun W4 hoff => ?_⟩
            have hz4 := hoff.size
            have hbl : b ≠ w6.heap.size + 1 := fun e => hnS (.inr (.inr e))
            have hC4 : C3 b off x W4 := C3.keep ⟨y0, y1, y2⟩ (hoff.same b hbl)
            have hE4 := hE.stay (hoff.stay hn2)
            have hbv : (Value.slice Av pre.length cv).ownBlock ≠ some b := fun e => hnS (.inl (hE4.row b e))
            have hbg : b ≠ gb := fun e => hnS (.inl (by rw [e]; exact hE4.box))
            have hbW4 : b < W4.heap.size := by rw [hz4]; exact hbW
            have hgbW : gb + 1 ≤ W4.heap.size := by have h1 := hE4.blk.lt; omega
            have HE := Lib.hid hE4
            have HC4 := Lib.hid hC4
            have HBV := Lib.hid hbv
            have HBG := Lib.hid hbg
            have HBW4 := Lib.hid hbW4
            have HGW := Lib.hid hgbW
            have HOM := Lib.hid (hoff.mov (S := S))
            clear hE hE4 y0 y1 y2 hC4 hbv hbg hbW4 hgbW hnS hbW hm hpre hz4 hoff
            refine wpIn_block ?_
            refine wpIn_region_held (S := C3 b off x) hmo ?nd (fun h => by obtain ⟨a, w, h⟩ := h; exact h) HC4.out ?_
            case nd => kernel_rfl
            intro hS1
            have hcb : W4.cell? ⟨gb, 2, none⟩ = some (.slice Av pre.length cv) := HE.out.blk.cell 2
            have hcb2 : (W4.alloc (.cells #[.int .i64 x.op, .int .i64 x.a, .int .i64 x.b] 54)).cell? ⟨gb, 2, none⟩ = some (.slice Av pre.length cv) := (HE.out.blk.alloc _).cell 2
            refine wpAnyH_take (i := 0) (v := .pointer (some ⟨gb, 2, none⟩)) rfl (by kernel_rfl) (by kernel_rfl) (by kernel_rfl) (fun _ _ _ h => h) (Or.inl ⟨by rfl, fun w' hw' => ?_⟩) hS1 ?_
            · obtain ⟨k0, k1, k2⟩ := hw'
              go_simp
            simp only [Act.put, List.setIfInBounds_toArray]
            refine wpAnyH_take (i := 2) (v := .slice (some ⟨b, off, none⟩) 3 3) rfl (by kernel_rfl) (by kernel_rfl) (by kernel_rfl) (fun _ _ _ h => h) (Or.inl ⟨by rfl, fun w' hw' => ?_⟩) hS1 ?_
            · obtain ⟨k0, k1, k2⟩ := hw'
              go_simp
            simp only [Act.put]
            refine wpAnyH_take (i := 3) (v := .pointer (some ⟨b, off, none⟩)) rfl (by kernel_rfl) (by kernel_rfl) (by kernel_rfl) (fun _ _ _ h => h) (Or.inl ⟨by rfl, fun w' hw' => ?_⟩) hS1 ?_
            · obtain ⟨k0, k1, k2⟩ := hw'
              go_simp
            simp only [Act.put]
            refine wpAnyH_take (i := 4) (v := .int .i64 x.op) rfl (by kernel_rfl) (by kernel_rfl) (by kernel_rfl) (fun _ _ _ h => h) (Or.inl ⟨by rfl, fun w' hw' => ?_⟩) hS1 ?_
            · obtain ⟨k0, k1, k2⟩ := hw'
              go_simp
            simp only [Act.put]
            refine wpAnyH_take (i := 5) (v := .slice (some ⟨b, off, none⟩) 3 3) rfl (by kernel_rfl) (by kernel_rfl) (by kernel_rfl) (fun _ _ _ h => h) (Or.inl ⟨by rfl, fun w' hw' => ?_⟩) hS1 ?_
            · obtain ⟨k0, k1, k2⟩ := hw'
              go_simp
            simp only [Act.put]
            refine wpAnyH_take (i := 6) (v := .pointer (some ⟨b, off + 1, none⟩)) rfl (by kernel_rfl) (by kernel_rfl) (by kernel_rfl) (fun _ _ _ h => h) (Or.inl ⟨by rfl, fun w' hw' => ?_⟩) hS1 ?_
            · obtain ⟨k0, k1, k2⟩ := hw'
              go_simp
            simp only [Act.put]
            refine wpAnyH_take (i := 7) (v := .int .i64 x.a) rfl (by kernel_rfl) (by kernel_rfl) (by kernel_rfl) (fun _ _ _ h => h) (Or.inl ⟨by rfl, fun w' hw' => ?_⟩) hS1 ?_
            · obtain ⟨k0, k1, k2⟩ := hw'
              go_simp
            simp only [Act.put]
            refine wpAnyH_take (i := 8) (v := .slice (some ⟨b, off, none⟩) 3 3) rfl (by kernel_rfl) (by kernel_rfl) (by kernel_rfl) (fun _ _ _ h => h) (Or.inl ⟨by rfl, fun w' hw' => ?_⟩) hS1 ?_
            · obtain ⟨k0, k1, k2⟩ := hw'
              go_simp
            simp only [Act.put]
            refine wpAnyH_take (i := 9) (v := .pointer (some ⟨b, off + 2, none⟩)) rfl (by kernel_rfl) (by kernel_rfl) (by kernel_rfl) (fun _ _ _ h => h) (Or.inl ⟨by rfl, fun w' hw' => ?_⟩) hS1 ?_
            · obtain ⟨k0, k1, k2⟩ := hw'
              go_simp
            simp only [Act.put]
            refine wpAnyH_take (i := 10) (v := .int .i64 x.b) rfl (by kernel_rfl) (by kernel_rfl) (by kernel_rfl) (fun _ _ _ h => h) (Or.inl ⟨by rfl, fun w' hw' => ?_⟩) hS1 ?_
            · obtain ⟨k0, k1, k2⟩ := hw'
              go_simp
            simp only [Act.put]
            refine wpAnyH_take (i := 11) (v := .agg #[.int .i64 x.op, .int .i64 x.a, .int .i64 x.b]) rfl (by kernel_rfl) (by kernel_rfl) (by kernel_rfl) (fun _ _ _ h => h) (Or.inl ⟨by rfl, fun w' hw' => ?_⟩) hS1 ?_
            · obtain ⟨k0, k1, k2⟩ := hw'
              go_simp
            simp only [Act.put]
            refine wpAnyH_ready (rs := [1, 12]) (by kernel_rfl) (by simp) ?_
            refine AllReadyH.cons rfl (fun K hK => ?_) (AllReadyH.cons rfl (fun K hK => ?_) AllReadyH.nil)
            · go_simp
              refine hK.out _ _ (by assumption) (fun hS2 => ?_)
              clear hK
              refine wpAnyH_ready (rs := [12]) (by kernel_rfl) (by simp) ?_
              refine AllReadyH.cons rfl (fun K hK => ?_) AllReadyH.nil
              go_simp
              refine hK.out _ _ (C3.keep HC4.out ((below_new W4 _).block b HBW4.out)) (fun hS3 => ?_)
              clear hK
              refine wpAnyH_ready (rs := [13]) (by kernel_rfl) (by simp) ?_
              refine AllReadyH.cons rfl (fun K hK => ?_) AllReadyH.nil
              refine step_append_any _ rfl (.tmp 54) (.tmp 65) 49 rfl (gb + 1) 54 i1 _ 3 24 Tryd.underlying49 gi gz0 gz1 gz2 rfl (by omega) (.slice Av pre.length cv) pre.length (insCs pre) rfl (show (W4.alloc (.cells #[.int .i64 x.op, .int .i64 x.a, .int .i64 x.b] 54)).drew.ownsRow (gb + 1) 54 3 (.slice Av pre.length cv) pre.length (insCs pre) from HE.out.own.alloc _) _ (some ⟨W4.heap.size, 0, none⟩) 1 1 (insC x) rfl (show Reads (W4.alloc (.cells #[.int .i64 x.op, .int .i64 x.a, .int .i64 x.b] 54)).drew (W4.heap.size + 1) 3 (some ⟨W4.heap.size, 0, none⟩) 1 (insC x) from ins_new W4 x) (insC_one x) (len_le (by omega)) (by omega) (by have h1 := HGW.out; show gb + 1 ≤ (W4.alloc _).heap.size; rw [size_alloc]; omega) ?_
              intro v7 w7 hown7 hg7 hn7
              obtain ⟨A7, c7, rfl, _⟩ := own_len hown7
              have hbn := b_drew2 W4 (.cells #[.int .i64 x.op, .int .i64 x.a, .int .i64 x.b] 54)
              have HNX := Lib.hid (HE.out.next (by omega) hbn hown7 hg7 hn7)
              obtain ⟨hc7, hf7⟩ := HE.out.boxed (by omega) hbn hg7
              have hS5 : C3 b off x w7 := C3.keep HC4.out ((hg7.block b (Nat.lt_of_lt_of_le HBW4.out hbn.size) (fun e => HBV.out e.symm)).trans (hbn.block b HBW4.out))
              refine hK.out _ _ hS5 (fun hS6 => ?_)
              clear hK
              refine wpAnyH_ready (rs := [14]) (by kernel_rfl) (by simp) ?_
              refine AllReadyH.cons rfl (fun K hK => ?_) AllReadyH.nil
              go_simp
              refine hK.out _ _ hS5 (fun hS7 => ?_)
              clear hK
              refine wpAnyH_ready (rs := [15]) (by kernel_rfl) (by simp) ?_
              refine AllReadyH.cons rfl (fun K hK => ?_) AllReadyH.nil
              go_simp
              refine hK.out _ _ (C3.keep hS5 (Below.heap_setCell w7 ⟨gb, 2, none⟩ _ b HBG.out)) (fun hS8 => ?_)
              clear hK
              refine wpAnyH_done (by kernel_rfl) ?_ _
              exact ⟨_, HNX.out.1, _, HNX.out.2⟩
            · go_simp
              refine hK.out _ _ (C3.keep HC4.out ((below_new W4 _).block b HBW4.out)) (fun hS3 => ?_)
              clear hK
              refine wpAnyH_ready (rs := [1]) (by kernel_rfl) (by simp) ?_
              refine AllReadyH.cons rfl (fun K hK => ?_) AllReadyH.nil
              go_simp
              refine hK.out _ _ (by assumption) (fun hS2 => ?_)
              clear hK
              refine wpAnyH_ready (rs := [13]) (by kernel_rfl) (by simp) ?_
              refine AllReadyH.cons rfl (fun K hK => ?_) AllReadyH.nil
              refine step_append_any _ rfl (.tmp 54) (.tmp 65) 49 rfl (gb + 1) 54 i1 _ 3 24 Tryd.underlying49 gi gz0 gz1 gz2 rfl (by omega) (.slice Av pre.length cv) pre.length (insCs pre) rfl (show (W4.alloc (.cells #[.int .i64 x.op, .int .i64 x.a, .int .i64 x.b] 54)).drew.ownsRow (gb + 1) 54 3 (.slice Av pre.length cv) pre.length (insCs pre) from HE.out.own.alloc _) _ (some ⟨W4.heap.size, 0, none⟩) 1 1 (insC x) rfl (show Reads (W4.alloc (.cells #[.int .i64 x.op, .int .i64 x.a, .int .i64 x.b] 54)).drew (W4.heap.size + 1) 3 (some ⟨W4.heap.size, 0, none⟩) 1 (insC x) from ins_new W4 x) (insC_one x) (len_le (by omega)) (by omega) (by have h1 := HGW.out; show gb + 1 ≤ (W4.alloc _).heap.size; rw [size_alloc]; omega) ?_
              intro v7 w7 hown7 hg7 hn7
              obtain ⟨A7, c7, rfl, _⟩ := own_len hown7
              have hbn := b_drew2 W4 (.cells #[.int .i64 x.op, .int .i64 x.a, .int .i64 x.b] 54)
              have HNX := Lib.hid (HE.out.next (by omega) hbn hown7 hg7 hn7)
              obtain ⟨hc7, hf7⟩ := HE.out.boxed (by omega) hbn hg7
              have hS5 : C3 b off x w7 := C3.keep HC4.out ((hg7.block b (Nat.lt_of_lt_of_le HBW4.out hbn.size) (fun e => HBV.out e.symm)).trans (hbn.block b HBW4.out))
              refine hK.out _ _ hS5 (fun hS6 => ?_)
              clear hK
              refine wpAnyH_ready (rs := [14]) (by kernel_rfl) (by simp) ?_
              refine AllReadyH.cons rfl (fun K hK => ?_) AllReadyH.nil
              go_simp
              refine hK.out _ _ hS5 (fun hS7 => ?_)
              clear hK
              refine wpAnyH_ready (rs := [15]) (by kernel_rfl) (by simp) ?_
              refine AllReadyH.cons rfl (fun K hK => ?_) AllReadyH.nil
              go_simp
              refine hK.out _ _ (C3.keep hS5 (Below.heap_setCell w7 ⟨gb, 2, none⟩ _ b HBG.out)) (fun hS8 => ?_)
              clear hK
              refine wpAnyH_done (by kernel_rfl) ?_ _
              exact ⟨_, HNX.out.1, _, HNX.out.2⟩
          case done =>
            rintro S1 W hm hnD ⟨v, hE⟩ hD
            obtain ⟨Av, cv, rfl, hcv⟩ := own_len hE.own
            clear hseq kb6
            have hz4 : z < w4.heap.size := HK4.out.lt
            have hzw : w.heap.size ≤ z := Nat.le_of_eq HZ.out.symm
            have hb06 : Below w.heap.size w w6 := bt (bt (bt HB1.out HB4.out) HB45.out) HB56.out
            have hgz : z ≠ gb := by have := HGB.out; omega
            have hzg : z < gb := by have := HGB.out; omega
            have hz6b : z < w6.heap.size := by have h1 := HB45.out.size; have h2 := HB56.out.size; omega
            have kz : Blk W z 51 #[.int .i64 0, .int .i64 0, .slice none 0 0, .slice none 0 0] := (hm.same z hz6b hgz).trans ((HK4.out.below HB45.out HK4.out.lt).below HB56.out (HK4.out.below HB45.out HK4.out.lt).lt)
            have hbW : Below w.heap.size w W := hb06.trans (hm.below hb06.size fun b hb => by have h1 := HGB.out; omega)
            obtain ⟨ln, hln2⟩ : ∃ k, k = (trip ys).length := ⟨_, rfl⟩
            rw [← hln2] at hE hcv
            obtain ⟨e0, e1, e2, e3⟩ : W.cell? ⟨gb, 0, none⟩ = some (.int .i64 p) ∧ W.cell? ⟨gb, 1, none⟩ = some (.int .i64 q) ∧ W.cell? ⟨gb, 2, none⟩ = some (.slice Av ln cv) ∧ W.cell? ⟨gb, 3, none⟩ = some (.slice none 0 0) := ⟨hE.blk.cell 0, hE.blk.cell 1, hE.blk.cell 2, hE.blk.cell 3⟩
            obtain ⟨r0, r1, r2, r3⟩ : W.cell? ⟨z, 0, none⟩ = some (.int .i64 0) ∧ W.cell? ⟨z, 1, none⟩ = some (.int .i64 0) ∧ W.cell? ⟨z, 2, none⟩ = some (.slice none 0 0) ∧ W.cell? ⟨z, 3, none⟩ = some (.slice none 0 0) := ⟨kz.cell 0, kz.cell 1, kz.cell 2, kz.cell 3⟩
            have q0 := kz.frozen 0; have q1 := kz.frozen 1; have q2 := kz.frozen 2; have q3 := kz.frozen 3
            have hwum : IntKind.i64.wrap ((u : Int) + (m : Int)) = ((u + m : Nat) : Int) := by rw [IntKind.wrap_i64]; omega
            obtain ⟨um, hum⟩ : ∃ k, k = u + m := ⟨_, rfl⟩
            rw [← hum] at hwum
            obtain ⟨W7, hW7⟩ : ∃ V, V = (((W.setCell ⟨z, 0, none⟩ (.int .i64 p)).setCell ⟨z, 1, none⟩ (.int .i64 q)).setCell ⟨z, 2, none⟩ (.slice Av ln cv)).setCell ⟨z, 3, none⟩ (.slice none 0 0) := ⟨_, rfl⟩
            have k7 : Blk W7 z 51 #[.int .i64 p, .int .i64 q, .slice Av ln cv, .slice none 0 0] := by
              rw [hW7]
              have := (((kz.set_ 0 (.int .i64 p)).set_ 1 (.int .i64 q)).set_ 2 (.slice Av ln cv)).set_ 3 (.slice none 0 0)
              simpa using this
            have hkeep : ∀ b, b ≠ z → W7.heap[b]? = W.heap[b]? := fun b hb => by
              rw [hW7, Below.heap_setCell _ ⟨z, _, none⟩ _ b hb, Below.heap_setCell _ ⟨z, _, none⟩ _ b hb, Below.heap_setCell _ ⟨z, _, none⟩ _ b hb, Below.heap_setCell _ ⟨z, _, none⟩ _ b hb]
            have hb7 : Below w.heap.size w W7 := by rw [hW7]; exact below_set (below_set (below_set (below_set hbW hzw _ _) hzw _ _) hzw _ _) hzw _ _
            have hD7 : W7.heap[w6.heap.size]? = some (.deferred (some [])) := (hkeep _ (by omega)).trans hD
            have ho := Off.putObj W7 w6.heap.size (.deferred none)
            have k8 : Blk (W7.putObj w6.heap.size (.deferred none)) z 51 #[.int .i64 p, .int .i64 q, .slice Av ln cv, .slice none 0 0] := ho.blk k7 (by omega)
            have hb8 : Below w.heap.size w (W7.putObj w6.heap.size (.deferred none)) := ⟨ho.os.trans hb7.os, ho.tape.trans hb7.tape, ho.output.trans hb7.output, by rw [ho.size]; exact hb7.size, fun b hb => (ho.same b (by have := hb06.size; omega)).trans (hb7.block b hb)⟩
            have hown8 : (W7.putObj w6.heap.size (.deferred none)).ownsRow (gb + 1) 54 3 (.slice Av ln cv) ln (insCs (trip ys)) := own_keep (by have h := hE.own; rwa [← hln2] at h) fun b hb => (ho.same b (fun e => hnD (by rw [← e]; exact hE.row b hb))).trans (hkeep b (by have := (hE.own.lt b hb).1; omega))
            have HD : Hid (dFun l = some (⟨p, q, trip ys⟩, um)) := Lib.hid (by unfold dFun; rw [HD1.out]; simp only []; rw [HD4.out]; simp only []; rw [if_pos (by rw [← HNY.out]; exact H3.out), hum])
            have HK8 := Lib.hid k8
            have HB8 := Lib.hid hb8
            have HO8 := Lib.hid hown8
            have HD7 := Lib.hid hD7
            have HW7 := Lib.hid hW7
            have HLN := Lib.hid hln2
            clear k8 hb8 hown8 hD7 hW7 hb7 k7 hkeep ho hD hbW kz hE hm hnD hum hln2 hb06 hzw hz4 hz6b hgz hzg
            go_wp2_with fail
            rw [← HW7.out]
            refine ⟨by simp, .inl ⟨_, _, rfl, run_takeDeferred HD7.out, ?_⟩⟩
            obtain ⟨s0, s1, s2, s3⟩ : (W7.putObj w6.heap.size (.deferred none)).cell? ⟨z, 0, none⟩ = some (.int .i64 p) ∧ (W7.putObj w6.heap.size (.deferred none)).cell? ⟨z, 1, none⟩ = some (.int .i64 q) ∧ (W7.putObj w6.heap.size (.deferred none)).cell? ⟨z, 2, none⟩ = some (.slice Av ln cv) ∧ (W7.putObj w6.heap.size (.deferred none)).cell? ⟨z, 3, none⟩ = some (.slice none 0 0) := ⟨HK8.out.cell 0, HK8.out.cell 1, HK8.out.cell 2, HK8.out.cell 3⟩
            refine ⟨.tuple #[.agg #[.int .i64 p, .int .i64 q, .slice Av ln cv, .slice none 0 0], .int .i64 (um : Int), .bool true], by simp [results, Tryd.results51, go_sem, s0, s1, s2, s3], ?_⟩
            rw [HP.out]
            unfold DFPost
            rw [HD.out]
            have h8 := own_lower HO8.out (B' := w.heap.size) (by have h1 := HGB.out; have h2 := HK4.out.lt; have h3 := HZ.out; omega)
            rw [HLN.out] at h8 ⊢
            exact ⟨Av, cv, rfl, h8, HB8.out⟩
          case stop =>
            rintro cd pre S W hm _ hp h
            exact h.elim
        · have HD : Hid (dFun l = none) := Lib.hid (by unfold dFun; rw [HD1.out]; simp only []; rw [hd4]; simp only []; rw [if_neg (by rw [← hny]; exact h3)])
          clear hd4 hd5 hG4 hld hny
          obtain ⟨rr, hrr, hrun⟩ := run_rem ny
          have hrm : (rr != 0) = true := by rw [bne_iff_ne]; omega
          clear hrr h3
          go_wp2_with (go_at_call 69; refine HG4.out.mono ?_; rintro e w4 ⟨A4, c4, rfl, _, hb4⟩; have HB4 := Lib.hid (bt HB2.out hb4); have k4 := HK2.out.below hb4 HK2.out.lt; have r0 := k4.cell 0; have r1 := k4.cell 1; have r2 := k4.cell 2; have r3 := k4.cell 3; have q0 := k4.frozen 0; have q1 := k4.frozen 1; have q2 := k4.frozen 2; have q3 := k4.frozen 3; simp only [List.getElem?_toArray, List.getElem?_cons_zero, List.getElem?_cons_succ] at r0 r1 r2 r3; have HK4 := Lib.hid k4; have HB24 := Lib.hid hb4; clear hb4 k4)
          obtain ⟨W9, hW9⟩ : ∃ W, W = (((w4.setCell ⟨z, 0, none⟩ (.int .i64 0)).setCell ⟨z, 1, none⟩ (.int .i64 0)).setCell ⟨z, 2, none⟩ (.slice none 0 0)).setCell ⟨z, 3, none⟩ (.slice none 0 0) := ⟨_, rfl⟩
          obtain ⟨k9, hb9⟩ := df_err HZ.out HB1.out HB4.out HK4.out rfl W9 hW9
          rw [← hW9]
          obtain ⟨s0, s1, s2, s3⟩ : W9.cell? ⟨z, 0, none⟩ = some (.int .i64 0) ∧ W9.cell? ⟨z, 1, none⟩ = some (.int .i64 0) ∧ W9.cell? ⟨z, 2, none⟩ = some (.slice none 0 0) ∧ W9.cell? ⟨z, 3, none⟩ = some (.slice none 0 0) := ⟨k9.cell 0, k9.cell 1, k9.cell 2, k9.cell 3⟩
          refine ⟨.tuple #[.agg #[.int .i64 0, .int .i64 0, .slice none 0 0, .slice none 0 0], .int .i64 0, .bool false], by simp [results, Tryd.results51, go_sem, s0, s1, s2, s3], ?_⟩
          rw [HP.out]
          unfold DFPost
          rw [HD.out]
          exact ⟨rfl, hb9⟩
    · have hx2 : ((nx : Int) != 2) = true := by simp; omega
      have HD : Hid (dFun l = none) := Lib.hid (by
        unfold dFun
        rw [hd]
        rw [hnx] at h2
        rcases xs with _ | ⟨p, _ | ⟨q, _ | ⟨r, t⟩⟩⟩
        · rfl
        · rfl
        · simp at h2
        · rfl)
      clear hd hd2 hG hnx h2
      go_wp2_with (go_at_call 69; refine HG.out.mono ?_; rintro e w2 ⟨A2, c2, rfl, _, hb2⟩; have HB2 := Lib.hid hb2; have k2 := HKR.out.below hb2 HKR.out.lt; have r0 := k2.cell 0; have r1 := k2.cell 1; have r2 := k2.cell 2; have r3 := k2.cell 3; have q0 := k2.frozen 0; have q1 := k2.frozen 1; have q2 := k2.frozen 2; have q3 := k2.frozen 3; simp only [List.getElem?_toArray, List.getElem?_cons_zero, List.getElem?_cons_succ] at r0 r1 r2 r3; have HK2 := Lib.hid k2; clear hb2 k2)
      obtain ⟨W9, hW9⟩ : ∃ W, W = (((w2.setCell ⟨z, 0, none⟩ (.int .i64 0)).setCell ⟨z, 1, none⟩ (.int .i64 0)).setCell ⟨z, 2, none⟩ (.slice none 0 0)).setCell ⟨z, 3, none⟩ (.slice none 0 0) := ⟨_, rfl⟩
      obtain ⟨k9, hb9⟩ := df_err HZ.out HB1.out HB2.out HK2.out rfl W9 hW9
      rw [← hW9]
      obtain ⟨s0, s1, s2, s3⟩ : W9.cell? ⟨z, 0, none⟩ = some (.int .i64 0) ∧ W9.cell? ⟨z, 1, none⟩ = some (.int .i64 0) ∧ W9.cell? ⟨z, 2, none⟩ = some (.slice none 0 0) ∧ W9.cell? ⟨z, 3, none⟩ = some (.slice none 0 0) := ⟨k9.cell 0, k9.cell 1, k9.cell 2, k9.cell 3⟩
      refine ⟨.tuple #[.agg #[.int .i64 0, .int .i64 0, .slice none 0 0, .slice none 0 0], .int .i64 0, .bool false], by simp [results, Tryd.results51, go_sem, s0, s1, s2, s3], ?_⟩
      rw [HP.out]
      unfold DFPost
      rw [HD.out]
      exact ⟨rfl, hb9⟩
end Go.Proofs.YtbdknncmlcbbpaaDoor
