/-
  The program's Encode.
-/
import Derived.Test.YtikinofopkjdjaaDoorG23
import Derived.Test.YtikinofopkjdjaaDoorG16
set_option linter.unusedVariables false
namespace Go.Proofs.YtikinofopkjdjaaDoor.TR
open WM
/-- The bytes of a node. -/
def headB (t : T) : List UInt8 := encL enc [t.k, t.n, t.m, (t.kids.length : Int)]
/-- The bytes of a tree. -/
def encT (t : T) : List UInt8 := headB t ++ (t.kids.attach.map fun u => encT u.1).flatten
  termination_by t
  decreasing_by exact kid_lt u.2
theorem encT_eq (t : T) : encT t = headB t ++ (t.kids.map encT).flatten := by
  rw [encT, List.attach_map_val (f := encT)]
theorem walk_enc (p : List Int) (t : T) : (walk p t).flatMap (fun x => headB x.2) = encT t := by
  induction h : SizeOf.sizeOf t using Nat.strongRecOn generalizing p t with
  | ind n ih =>
    subst h
    have hj : ∀ j, j ≤ t.kids.length → (walks p t.kids j).flatMap (fun x => headB x.2) = ((t.kids.take j).map encT).flatten := by
      intro j
      induction j with
      | zero => intro _; simp [walks_zero]
      | succ j ihj =>
        intro hj
        obtain ⟨u, hu⟩ : ∃ u, t.kids[j]? = some u := ⟨_, List.getElem?_eq_getElem (by omega)⟩
        rw [walks_next hu, List.flatMap_append, ihj (by omega), ih _ (kid_lt (List.mem_of_getElem? hu)) _ u rfl, List.take_add_one, hu]
        simp
    rw [walk_walks, List.flatMap_cons, hj _ (Nat.le_refl _), List.take_length, encT_eq]
theorem walk_size (p : List Int) (t : T) : ∀ x ∈ walk p t, size x.2 ≤ size t := by
  induction h : SizeOf.sizeOf t using Nat.strongRecOn generalizing p t with
  | ind n ih =>
    subst h
    have hj : ∀ j, j ≤ t.kids.length → ∀ x ∈ walks p t.kids j, size x.2 ≤ size t := by
      intro j
      induction j with
      | zero => intro _ x hx; rw [walks_zero] at hx; cases hx
      | succ j ihj =>
        intro hj x hx
        obtain ⟨u, hu⟩ : ∃ u, t.kids[j]? = some u := ⟨_, List.getElem?_eq_getElem (by omega)⟩
        rw [walks_next hu] at hx
        rcases List.mem_append.1 hx with hx | hx
        · exact ihj (by omega) x hx
        · have := ih _ (kid_lt (List.mem_of_getElem? hu)) _ u rfl x hx
          have := size_kid hu
          omega
    intro x hx
    rw [walk_walks] at hx
    rcases List.mem_cons.1 hx with rfl | hx
    · exact Nat.le_refl _
    · exact hj _ (Nat.le_refl _) x hx
theorem headB_len {t : T} (h1 : inRange t.k) (h2 : inRange t.n) (h3 : inRange t.m) (h4 : t.kids.length ≤ 1000000) : 5 ≤ (headB t).length ∧ (headB t).length ≤ 45 := by
  have e1 := enc_len h1
  have e2 := enc_len h2
  have e3 := enc_len h3
  have e4 := enc_len (n := (t.kids.length : Int)) ⟨by omega, by omega⟩
  have e5 := enc_len (n := ((4 : Nat) : Int)) ⟨by omega, by omega⟩
  have e : (headB t).length = (enc ((4 : Nat) : Int)).length + ((enc t.k).length + ((enc t.n).length + ((enc t.m).length + (enc (t.kids.length : Int)).length))) := by
    simp [headB, encL]
  omega
end Go.Proofs.YtikinofopkjdjaaDoor.TR
namespace Go.Proofs.YtikinofopkjdjaaDoor
open Go.RowKit Go.Shelf WM TR
attribute [local go_sem] Oper.semAt_some

/-- The bytes that have been made lie in a row of the loop's own. -/
structure EI (B bz : Nat) (l : List UInt8) (S : Nat → Prop) (W : World) (v : Value) : Prop where
  box : S B
  blk : Blk W B 23 #[v]
  own : W.ownsRow bz 5 1 v l.length (bs l)
  row : ∀ g, v.ownBlock = some g → S g
section
variable {B bz : Nat} {l l' : List UInt8} {S S' : Nat → Prop} {W W' : World} {v : Value}
theorem EI.stay (h : EI B bz l S W v) (hs : Stay S W W') : EI B bz l S W' v :=
  ⟨h.box, hs.blk h.blk h.box, ownsRow_same h.own fun g hg => hs.same g (h.row g hg), h.row⟩
theorem EI.next (h : EI B bz l S W v) (hBs : B < bz) {w1 w2 : World} {v2 : Value} (hg1 : Below W.heap.size W w1)
    (hown2 : w2.ownsRow bz 5 1 v2 (l.length + l'.length) (bs l ++ bs l')) (hg2 : w1.grownBy w2 v.ownBlock) (hnew : v2.ownBlock = v.ownBlock ∨ v2.ownBlock = some w1.heap.size) :
    Mov S W (fun b => S b ∨ (W.heap.size ≤ b ∧ b < w2.heap.size)) (w2.setCell ⟨B, 0, none⟩ v2) ∧ EI B bz (l ++ l') (fun b => S b ∨ (W.heap.size ≤ b ∧ b < w2.heap.size)) (w2.setCell ⟨B, 0, none⟩ v2) v2 := by
  have hs1 := hg1.size
  have hs2 := hg2.size
  have hsc : (w2.setCell ⟨B, 0, none⟩ v2).heap.size = w2.heap.size := by show (w2.heap.modify _ _).size = _; rw [Array.size_modify]
  have hv := h.own.lt
  have hBv : v.ownBlock ≠ some B := fun e => by have := (hv B e).1; omega
  have keep : ∀ b, b < w1.heap.size → v.ownBlock ≠ some b → b ≠ B → (w2.setCell ⟨B, 0, none⟩ v2).heap[b]? = w1.heap[b]? := fun b hb hne hB =>
    (Below.heap_setCell w2 ⟨B, 0, none⟩ v2 b hB).trans (hg2.block b hb (fun e => hne e.symm))
  have hB1 : Blk w2 B 23 #[v] := (hg2.block B (by have := h.blk.lt; omega) (fun e => hBv e.symm)).trans (h.blk.below hg1 h.blk.lt)
  refine ⟨⟨hg2.os.trans hg1.os, hg2.tape.trans hg1.tape, hg2.output.trans hg1.output, by omega, ?_, fun b hb => .inl hb, fun b hb => by rw [hsc]; exact hb⟩, ⟨.inl h.box, by simpa using hB1.set_ 0 v2, ?_, ?_⟩⟩
  · intro b hb hn
    exact (keep b (by omega) (fun e => hn (h.row b e)) (fun e => hn (e ▸ h.box))).trans (hg1.block b hb)
  · rw [List.length_append, bs_append]
    exact ownsRow_setCell_below hown2 (by show B < bz; exact hBs) v2
  · intro g hg
    rcases hnew with hn | hn
    · exact .inl (h.row g (hn ▸ hg))
    · have hlt := (hown2.lt g hg).2
      rw [hn] at hg
      have := Option.some.inj hg
      exact .inr ⟨by omega, hlt⟩
theorem EI.boxed (h : EI B bz l S W v) (hBs : B < bz) {w1 w2 : World} (hg1 : Below W.heap.size W w1) (hg2 : w1.grownBy w2 v.ownBlock) : w2.cell? ⟨B, 0, none⟩ = some v ∧ w2.frozen? ⟨B, 0, none⟩ = false := by
  have hv := h.own.lt
  have hBv : v.ownBlock ≠ some B := fun e => by have := (hv B e).1; omega
  have hs1 := hg1.size
  have hB1 : Blk w2 B 23 #[v] := (hg2.block B (by have := h.blk.lt; omega) (fun e => hBv e.symm)).trans (h.blk.below hg1 h.blk.lt)
  exact ⟨hB1.cell 0, hB1.frozen 0⟩
end
theorem u8_info : (Tryd.prog.info? 5).map (fun i => (i.zero, i.size, i.bytes)) = some (some (.int .u8 0), 1, 1) := by kernel_rfl

theorem b_drew (w : World) (o : Obj) : Below w.heap.size w (w.alloc o).drew := by
  have h := below_new w o
  exact ⟨h.os, h.tape, h.output, h.size, h.block⟩

set_option maxRecDepth 100000 in
set_option maxHeartbeats 4000000 in
theorem encode_is (d : Nat) (t : T) (S : Nat → Prop) (A : Option Addr) (c : Nat) (w : World) (h : Rep w S d t (nd t A c)) (hin : In S w.heap.size) (hs : size t ≤ 1000000) :
    Calls Tryd.prog 12 #[.agg #[.int .i64 t.k, .int .i64 t.n, .int .i64 t.m, .slice A t.kids.length c]] w fun e w' =>
      ∃ A' c', e = .returned (.slice A' (encT t).length c') ∧ w'.ownsRow w.heap.size 5 1 (.slice A' (encT t).length c') (encT t).length (bs (encT t)) ∧ Below w.heap.size w w' := by
  obtain ⟨i1, gi, gz0, gz1, gz2⟩ := info_parts u8_info
  have hmo : Tryd.prog.follows .mixedOrders = true := by kernel_rfl
  refine (callsIn_wide (n := 9)).1 ?_
  refine callsIn_of_wp_marks Tryd.func12 rfl trivial ?_ rfl
  simp only [Tryd.ntmps12, List.size_toArray, List.length_cons, List.length_nil, Nat.reduceAdd, Nat.reduceSub, Array.replicate_succ, Array.replicate_zero, List.push_toArray, List.append_toArray, List.nil_append, List.cons_append]
  refine wpIn_wide.2 ?_
  go_wp2_with (go_at_call 45; refine (places_is _ _ _ _ _ _ _).mono ?_; rintro e w3 ⟨rfl, hw3⟩)
  obtain ⟨W2, hW2⟩ : ∃ W2, W2 = (w.alloc (.cells #[.int .i64 t.k, .int .i64 t.n, .int .i64 t.m, .slice A t.kids.length c] 26)).alloc (.cells #[.slice none 0 0] 23) := ⟨_, rfl⟩
  rw [← hW2]
  rw [← hW2] at hw3
  have hz2 : W2.heap.size = w.heap.size + 2 := by rw [hW2, size_alloc, size_alloc]
  have hb2 : Below w.heap.size w W2 := by rw [hW2]; exact ba (below_new _ _) _
  have hbk : Blk W2 (w.heap.size + 1) 23 #[.slice none 0 0] := by rw [hW2]; exact Blk.new_at _ _ (by rw [size_alloc]) rfl
  have hz3 : w3.heap.size = w.heap.size + 3 := by rw [hw3, size_alloc, hz2]
  have hb3 : Below w.heap.size w w3 := by rw [hw3]; exact ba hb2 _
  have hseq := iter_is (9 - 1) d (w.heap.size + 2) t A c S w3 (h.later hin hb3) (by rw [hw3]; exact Blk.new_at _ _ hz2.symm rfl) (hin.more hb3.size) hs
  have hbk3 : Blk w3 (w.heap.size + 1) 23 #[.slice none 0 0] := by rw [hw3]; exact hbk.alloc _
  rw [← hw3]
  clear hbk
  refine (wpIn_wide (n := 9)).1 ?_
  refine wpIn_range_T (w := w3) rfl (by omega) (gf := 84) (lb := #[.pointer (some ⟨w.heap.size + 2, 0, none⟩)]) rfl trivial (enters_of Tryd.func84 (by kernel_rfl) rfl) hseq (Below.refl _ _) (fun x vs S W hx => hx.size2)
    (fun b hb => hb.elim (fun h => hin.more hb3.size b h) (fun h => by omega))
    (fun pre S W => ((pre.flatMap fun x => headB x.2).length ≤ 45 * pre.length) ∧ ∃ v, EI (w.heap.size + 1) (w.heap.size + 2) (pre.flatMap fun x => headB x.2) S W v) (fun _ _ _ _ => False)
    (fun pre S W W' hI hst => by obtain ⟨hl, v, h⟩ := hI; exact ⟨hl, v, h.stay hst⟩) (fun _ _ _ _ _ h _ => h)
    (fun b => b = w.heap.size + 1) (fun b hb => ⟨by omega, fun h => h.elim (fun h => by have := hin b h; omega) (fun h => by omega)⟩)
    ⟨Nat.le_refl _, .slice none 0 0, rfl, hbk3, World.ownsRow_nil _ _ _ _, fun g hg => (by cases hg)⟩ ?round ?done ?stop
  case round =>
    rintro pre ⟨p, u⟩ vs S W ⟨hpb, v, hP⟩ hpre ⟨A1, c1, B1, d1, k1, rfl, _, _, hru⟩ hm hlt hn1 hn2
    have hlen : pre.length + 1 ≤ 1000000 := by
      have := hpre.length_le
      rw [walk_length, List.length_append, List.length_singleton] at this
      omega
    obtain ⟨hr1, hr2, hr3⟩ := hru.range
    have hkk : u.kids.length ≤ 1000000 := by
      have h1 := walk_size [] t (p, u) (hpre.subset (by simp))
      have h2 := kids_lt u
      simp only at h1
      omega
    have hHL := headB_len hr1 hr2 hr3 hkk
    have HZ3 := Lib.hid hz3
    clear hseq hz3 hz2 hW2 hw3
    rw [zip2]
    refine wpIn_region_plain (fun h => by obtain ⟨a, w, h⟩ := h; exact h) (by simp) ?_
    go_wp2_with (refine wpList_store_new rfl 26 _ _ rfl W _ _ rfl rfl (by rw [size_node]; rfl) rfl rfl ?_)
    refine ⟨S, Mov.of_below (below_new _ _), fun W4 hoff => ?_⟩
    have hz4 := hoff.size
    rw [size_alloc] at hz4
    have hX1 := Blk.new W 26 #[.int .i64 u.k, .int .i64 u.n, .int .i64 u.m, .slice B1 u.kids.length d1]
    have hX : Blk W4 W.heap.size 26 #[.int .i64 u.k, .int .i64 u.n, .int .i64 u.m, .slice B1 u.kids.length d1] := hoff.blk hX1 (by omega)
    have hSlt : ∀ b, S b → b < W.heap.size := hm.in_ (fun b hb => by have := HZ3.out; omega)
    have hP1 : EI (w.heap.size + 1) (w.heap.size + 2) (pre.flatMap fun x => headB x.2) S (W.alloc (.cells #[.int .i64 u.k, .int .i64 u.n, .int .i64 u.m, .slice B1 u.kids.length d1] 26)) v :=
      hP.stay ⟨rfl, rfl, rfl, (below_new W _).size, fun b hb => (below_new W _).block b (hSlt b hb)⟩
    have hP4 := hP1.stay (hoff.stay hn2)
    obtain ⟨l, hl⟩ : ∃ l, l = pre.flatMap fun x => headB x.2 := ⟨_, rfl⟩
    rw [← hl] at hP4 hpb
    have HFM : Hid ((pre ++ [(p, u)]).flatMap (fun x => headB x.2) = l ++ headB u) := Lib.hid (by rw [List.flatMap_append, hl]; simp)
    have HLL : Hid ((l ++ headB u).length ≤ 45 * (pre ++ [(p, u)]).length) := Lib.hid (by rw [List.length_append, List.length_append, List.length_singleton]; omega)
    have HE := Lib.hid hP4
    have HBX := Lib.hid hX
    have HW4 : Hid (w.heap.size + 2 ≤ W4.heap.size) := Lib.hid (by have := HZ3.out; omega)
    have HXB : Hid (W.heap.size ≠ w.heap.size + 1) := Lib.hid (by have := HZ3.out; omega)
    have HVX : Hid (v.ownBlock ≠ some W.heap.size) := Lib.hid (fun e => Nat.lt_irrefl _ (hSlt _ (hP4.row _ e)))
    have HRD : Hid (Reads (W4.alloc (.cells #[.int .i64 u.k, .int .i64 u.n, .int .i64 u.m, .int .i64 (u.kids.length : Int)] 3)).drew ((W4.alloc (.cells #[.int .i64 u.k, .int .i64 u.n, .int .i64 u.m, .int .i64 (u.kids.length : Int)] 3)).drew).heap.size 1 (some ⟨W4.heap.size, 0, none⟩) [u.k, u.n, u.m, (u.kids.length : Int)].length (is [u.k, u.n, u.m, (u.kids.length : Int)])) :=
      Lib.hid ⟨rfl, fun _ => ⟨_, rfl, by show W4.heap.size < (W4.alloc _).heap.size; rw [size_alloc]; exact Nat.lt_succ_self _, cells_new W4 (is [u.k, u.n, u.m, (u.kids.length : Int)]) 3⟩⟩
    have HRR : Hid (∀ x ∈ [u.k, u.n, u.m, (u.kids.length : Int)], inRange x) := Lib.hid (fun x hx => by
      simp only [List.mem_cons, List.not_mem_nil, or_false] at hx
      rcases hx with rfl | rfl | rfl | rfl
      · exact hr1
      · exact hr2
      · exact hr3
      · exact ⟨by omega, by omega⟩)
    have HHL : Hid ((encL enc [u.k, u.n, u.m, (u.kids.length : Int)]).length ≤ 140737487999900) := Lib.hid (by have := hHL.2; unfold headB at this; omega)
    have HB4 : Hid (∀ w5 : World, Below ((W4.alloc (.cells #[.int .i64 u.k, .int .i64 u.n, .int .i64 u.m, .int .i64 (u.kids.length : Int)] 3)).drew).heap.size (W4.alloc (.cells #[.int .i64 u.k, .int .i64 u.n, .int .i64 u.m, .int .i64 (u.kids.length : Int)] 3)).drew w5 → Below W4.heap.size W4 w5) := Lib.hid (fun w5 h => bt (b_drew W4 (.cells #[.int .i64 u.k, .int .i64 u.n, .int .i64 u.m, .int .i64 (u.kids.length : Int)] 3)) h)
    have HCB : Hid (∀ w5, Below W4.heap.size W4 w5 → w5.cell? ⟨w.heap.size + 1, 0, none⟩ = some v) := Lib.hid (fun w5 h => (h.cell (p := ⟨w.heap.size + 1, 0, none⟩) hP4.blk.lt).trans (hP4.blk.cell 0))
    have HBD : Hid (l.length + (encL enc [u.k, u.n, u.m, (u.kids.length : Int)]).length ≤ 140737488355328 ∧ (l.length + (encL enc [u.k, u.n, u.m, (u.kids.length : Int)]).length) * 1 ≤ 140737488355328) := Lib.hid (by have := hHL.2; unfold headB at this; omega)
    have hcb := HCB.out _ (Below.refl _ _)
    have hcb2 := HCB.out _ (b_drew W4 (.cells #[.int .i64 u.k, .int .i64 u.n, .int .i64 u.m, .int .i64 (u.kids.length : Int)] 3))
    clear hP hP1 hP4 hX hX1 hoff hm hz4 hSlt hl hpre hru h
    refine wpIn_block ?_
    refine wpIn_region_held (S := fun w' => Blk w' W.heap.size 26 #[.int .i64 u.k, .int .i64 u.n, .int .i64 u.m, .slice B1 u.kids.length d1]) hmo ?nd (fun h => by obtain ⟨a, w, h⟩ := h; exact h) HBX.out ?_
    case nd => kernel_rfl
    intro hS1
    refine wpAnyH_take (i := 1) (v := .pointer (some ⟨W.heap.size, 0, none⟩)) rfl (by kernel_rfl) (by kernel_rfl) (by kernel_rfl) (fun _ _ _ h => h) (Or.inl ⟨by rfl, fun w' hw' => ?_⟩) hS1 ?_
    · have k0 := hw'.cell 0
      have k1 := hw'.cell 1
      have k2 := hw'.cell 2
      have k3 := hw'.cell 3
      go_simp
    simp only [Act.put, List.setIfInBounds_toArray]
    refine wpAnyH_take (i := 2) (v := .int .i64 u.k) rfl (by kernel_rfl) (by kernel_rfl) (by kernel_rfl) (fun _ _ _ h => h) (Or.inl ⟨by rfl, fun w' hw' => ?_⟩) hS1 ?_
    · have k0 := hw'.cell 0
      have k1 := hw'.cell 1
      have k2 := hw'.cell 2
      have k3 := hw'.cell 3
      go_simp
    simp only [Act.put]
    refine wpAnyH_take (i := 3) (v := .pointer (some ⟨W.heap.size, 1, none⟩)) rfl (by kernel_rfl) (by kernel_rfl) (by kernel_rfl) (fun _ _ _ h => h) (Or.inl ⟨by rfl, fun w' hw' => ?_⟩) hS1 ?_
    · have k0 := hw'.cell 0
      have k1 := hw'.cell 1
      have k2 := hw'.cell 2
      have k3 := hw'.cell 3
      go_simp
    simp only [Act.put]
    refine wpAnyH_take (i := 4) (v := .int .i64 u.n) rfl (by kernel_rfl) (by kernel_rfl) (by kernel_rfl) (fun _ _ _ h => h) (Or.inl ⟨by rfl, fun w' hw' => ?_⟩) hS1 ?_
    · have k0 := hw'.cell 0
      have k1 := hw'.cell 1
      have k2 := hw'.cell 2
      have k3 := hw'.cell 3
      go_simp
    simp only [Act.put]
    refine wpAnyH_take (i := 5) (v := .pointer (some ⟨W.heap.size, 2, none⟩)) rfl (by kernel_rfl) (by kernel_rfl) (by kernel_rfl) (fun _ _ _ h => h) (Or.inl ⟨by rfl, fun w' hw' => ?_⟩) hS1 ?_
    · have k0 := hw'.cell 0
      have k1 := hw'.cell 1
      have k2 := hw'.cell 2
      have k3 := hw'.cell 3
      go_simp
    simp only [Act.put]
    refine wpAnyH_take (i := 6) (v := .int .i64 u.m) rfl (by kernel_rfl) (by kernel_rfl) (by kernel_rfl) (fun _ _ _ h => h) (Or.inl ⟨by rfl, fun w' hw' => ?_⟩) hS1 ?_
    · have k0 := hw'.cell 0
      have k1 := hw'.cell 1
      have k2 := hw'.cell 2
      have k3 := hw'.cell 3
      go_simp
    simp only [Act.put]
    refine wpAnyH_take (i := 7) (v := .pointer (some ⟨W.heap.size, 3, none⟩)) rfl (by kernel_rfl) (by kernel_rfl) (by kernel_rfl) (fun _ _ _ h => h) (Or.inl ⟨by rfl, fun w' hw' => ?_⟩) hS1 ?_
    · have k0 := hw'.cell 0
      have k1 := hw'.cell 1
      have k2 := hw'.cell 2
      have k3 := hw'.cell 3
      go_simp
    simp only [Act.put]
    refine wpAnyH_take (i := 8) (v := .slice B1 u.kids.length d1) rfl (by kernel_rfl) (by kernel_rfl) (by kernel_rfl) (fun _ _ _ h => h) (Or.inl ⟨by rfl, fun w' hw' => ?_⟩) hS1 ?_
    · have k0 := hw'.cell 0
      have k1 := hw'.cell 1
      have k2 := hw'.cell 2
      have k3 := hw'.cell 3
      go_simp
    simp only [Act.put]
    refine wpAnyH_take (i := 9) (v := .int .i64 (u.kids.length : Int)) rfl (by kernel_rfl) (by kernel_rfl) (by kernel_rfl) (fun _ _ _ h => h) (Or.inl ⟨by rfl, fun w' hw' => ?_⟩) hS1 ?_
    · have k0 := hw'.cell 0
      have k1 := hw'.cell 1
      have k2 := hw'.cell 2
      have k3 := hw'.cell 3
      go_simp
    simp only [Act.put]
    refine wpAnyH_ready (rs := [0, 10]) (by kernel_rfl) (by simp) ?_
    refine AllReadyH.cons rfl (fun K hK => ?_) (AllReadyH.cons rfl (fun K hK => ?_) AllReadyH.nil)
    · -- the load, then the rest
      go_simp
      refine hK.out _ _ (by assumption) (fun hS2 => ?_)
      clear hK
      refine wpAnyH_ready (rs := [10]) (by kernel_rfl) (by simp) ?_
      refine AllReadyH.cons rfl (fun K hK => ?_) AllReadyH.nil
      go_simp
      refine hK.out _ _ (HBX.out.below (b_drew W4 _) HBX.out.lt) (fun hS3 => ?_)
      clear hK
      refine wpAnyH_ready (rs := [11]) (by kernel_rfl) (by simp) ?_
      refine AllReadyH.cons rfl (fun K hK => ?_) AllReadyH.nil
      go_simp
      refine (encInts (some ⟨W4.heap.size, 0, none⟩) [u.k, u.n, u.m, (u.kids.length : Int)] 4 _ HRD.out HRR.out HHL.out (by simp)).mono ?_
      rintro e w5 ⟨A5, c5, rfl, hown5, hb5⟩
      have HB5 : Hid (Below W4.heap.size W4 w5) := Lib.hid (HB4.out w5 hb5)
      have hc5 := HCB.out _ HB5.out
      have hO5 := Lib.hid (ownsRow_below HE.out.own HB5.out)
      refine hK.out _ _ (HBX.out.below HB5.out HBX.out.lt) (fun hS4 => ?_)
      clear hK
      refine wpAnyH_ready (rs := [12]) (by kernel_rfl) (by simp) ?_
      refine AllReadyH.cons rfl (fun K hK => ?_) AllReadyH.nil
      refine step_append_any _ rfl (.tmp 10) (.tmp 21) 23 rfl (w.heap.size + 2) 5 i1 _ 1 1 Tryd.underlying23 gi gz0 gz1 gz2 rfl (by omega) v _ _ rfl hO5.out _ A5 _ c5 _ rfl (Reads.of_own hown5) (bs_one _) (len_le HBD.out.1) HBD.out.2 (Nat.le_trans HW4.out HB5.out.size) ?_
      intro v6 w6 hown6 hg6 hn6
      have hnx := HE.out.next (by omega) HB5.out hown6 hg6 hn6
      obtain ⟨hc6, hf6⟩ := HE.out.boxed (by omega) HB5.out hg6
      have hS5 : Blk w6 W.heap.size _ _ := (HBX.out.below HB5.out HBX.out.lt).grown hg6 (fun e => HVX.out (e.symm))
      obtain ⟨A6, c6, rfl, hcap6⟩ := own_len hown6
      have HNX := Lib.hid hnx
      refine hK.out _ _ hS5 (fun hS6 => ?_)
      clear hK hnx
      refine wpAnyH_ready (rs := [13]) (by kernel_rfl) (by simp) ?_
      refine AllReadyH.cons rfl (fun K hK => ?_) AllReadyH.nil
      go_simp
      refine hK.out _ _ (hS6.far (by show W.heap.size ≠ w.heap.size + 1; exact HXB.out) _) (fun hS7 => ?_)
      clear hK
      refine wpAnyH_done (by kernel_rfl) ?_ _
      exact ⟨_, HNX.out.1, by (have h := HLL.out; rw [← HFM.out] at h; simpa using h), _, by rw [HFM.out]; exact HNX.out.2⟩
    · -- the list first
      go_simp
      refine hK.out _ _ (HBX.out.below (b_drew W4 _) HBX.out.lt) (fun hS3 => ?_)
      clear hK
      refine wpAnyH_ready (rs := [0, 11]) (by kernel_rfl) (by simp) ?_
      refine AllReadyH.cons rfl (fun K hK => ?_) (AllReadyH.cons rfl (fun K hK => ?_) AllReadyH.nil)
      · go_simp
        refine hK.out _ _ (by assumption) (fun hS2 => ?_)
        clear hK
        refine wpAnyH_ready (rs := [11]) (by kernel_rfl) (by simp) ?_
        refine AllReadyH.cons rfl (fun K hK => ?_) AllReadyH.nil
        go_simp
        refine (encInts (some ⟨W4.heap.size, 0, none⟩) [u.k, u.n, u.m, (u.kids.length : Int)] 4 _ HRD.out HRR.out HHL.out (by simp)).mono ?_
        rintro e w5 ⟨A5, c5, rfl, hown5, hb5⟩
        have HB5 : Hid (Below W4.heap.size W4 w5) := Lib.hid (HB4.out w5 hb5)
        have hc5 := HCB.out _ HB5.out
        have hO5 := Lib.hid (ownsRow_below HE.out.own HB5.out)
        refine hK.out _ _ (HBX.out.below HB5.out HBX.out.lt) (fun hS4 => ?_)
        clear hK
        refine wpAnyH_ready (rs := [12]) (by kernel_rfl) (by simp) ?_
        refine AllReadyH.cons rfl (fun K hK => ?_) AllReadyH.nil
        refine step_append_any _ rfl (.tmp 10) (.tmp 21) 23 rfl (w.heap.size + 2) 5 i1 _ 1 1 Tryd.underlying23 gi gz0 gz1 gz2 rfl (by omega) v _ _ rfl hO5.out _ A5 _ c5 _ rfl (Reads.of_own hown5) (bs_one _) (len_le HBD.out.1) HBD.out.2 (Nat.le_trans HW4.out HB5.out.size) ?_
        intro v6 w6 hown6 hg6 hn6
        have hnx := HE.out.next (by omega) HB5.out hown6 hg6 hn6
        obtain ⟨hc6, hf6⟩ := HE.out.boxed (by omega) HB5.out hg6
        have hS5 : Blk w6 W.heap.size _ _ := (HBX.out.below HB5.out HBX.out.lt).grown hg6 (fun e => HVX.out (e.symm))
        obtain ⟨A6, c6, rfl, hcap6⟩ := own_len hown6
        have HNX := Lib.hid hnx
        refine hK.out _ _ hS5 (fun hS6 => ?_)
        clear hK hnx
        refine wpAnyH_ready (rs := [13]) (by kernel_rfl) (by simp) ?_
        refine AllReadyH.cons rfl (fun K hK => ?_) AllReadyH.nil
        go_simp
        refine hK.out _ _ (hS6.far (by show W.heap.size ≠ w.heap.size + 1; exact HXB.out) _) (fun hS7 => ?_)
        clear hK
        refine wpAnyH_done (by kernel_rfl) ?_ _
        exact ⟨_, HNX.out.1, by (have h := HLL.out; rw [← HFM.out] at h; simpa using h), _, by rw [HFM.out]; exact HNX.out.2⟩
      · go_simp
        refine (encInts (some ⟨W4.heap.size, 0, none⟩) [u.k, u.n, u.m, (u.kids.length : Int)] 4 _ HRD.out HRR.out HHL.out (by simp)).mono ?_
        rintro e w5 ⟨A5, c5, rfl, hown5, hb5⟩
        have HB5 : Hid (Below W4.heap.size W4 w5) := Lib.hid (HB4.out w5 hb5)
        have hc5 := HCB.out _ HB5.out
        have hO5 := Lib.hid (ownsRow_below HE.out.own HB5.out)
        refine hK.out _ _ (HBX.out.below HB5.out HBX.out.lt) (fun hS4 => ?_)
        clear hK
        refine wpAnyH_ready (rs := [0]) (by kernel_rfl) (by simp) ?_
        refine AllReadyH.cons rfl (fun K hK => ?_) AllReadyH.nil
        go_simp
        refine hK.out _ _ (by assumption) (fun hS2 => ?_)
        clear hK
        refine wpAnyH_ready (rs := [12]) (by kernel_rfl) (by simp) ?_
        refine AllReadyH.cons rfl (fun K hK => ?_) AllReadyH.nil
        refine step_append_any _ rfl (.tmp 10) (.tmp 21) 23 rfl (w.heap.size + 2) 5 i1 _ 1 1 Tryd.underlying23 gi gz0 gz1 gz2 rfl (by omega) v _ _ rfl hO5.out _ A5 _ c5 _ rfl (Reads.of_own hown5) (bs_one _) (len_le HBD.out.1) HBD.out.2 (Nat.le_trans HW4.out HB5.out.size) ?_
        intro v6 w6 hown6 hg6 hn6
        have hnx := HE.out.next (by omega) HB5.out hown6 hg6 hn6
        obtain ⟨hc6, hf6⟩ := HE.out.boxed (by omega) HB5.out hg6
        have hS5 : Blk w6 W.heap.size _ _ := (HBX.out.below HB5.out HBX.out.lt).grown hg6 (fun e => HVX.out (e.symm))
        obtain ⟨A6, c6, rfl, hcap6⟩ := own_len hown6
        have HNX := Lib.hid hnx
        refine hK.out _ _ hS5 (fun hS6 => ?_)
        clear hK hnx
        refine wpAnyH_ready (rs := [13]) (by kernel_rfl) (by simp) ?_
        refine AllReadyH.cons rfl (fun K hK => ?_) AllReadyH.nil
        go_simp
        refine hK.out _ _ (hS6.far (by show W.heap.size ≠ w.heap.size + 1; exact HXB.out) _) (fun hS7 => ?_)
        clear hK
        refine wpAnyH_done (by kernel_rfl) ?_ _
        exact ⟨_, HNX.out.1, by (have h := HLL.out; rw [← HFM.out] at h; simpa using h), _, by rw [HFM.out]; exact HNX.out.2⟩
  case done =>
    rintro S1 W hm hnD ⟨_, v, hP⟩ hD
    rw [walk_enc] at hP
    have hc := hP.blk.cell 0
    obtain ⟨A9, c9, hv, hcap⟩ := own_len hP.own
    subst hv
    have HE := Lib.hid (hm.ends hb3 (fun b hb => by omega) (.deferred none))
    have HP := Lib.hid (hP.stay (W' := W.putObj w3.heap.size (.deferred none)) ((Off.putObj W w3.heap.size _).stay hnD))
    clear hseq hm hP
    go_wp2
    refine ⟨by simp, .inl ⟨_, _, rfl, run_takeDeferred hD, ?_⟩⟩
    exact ⟨_, results_tmp rfl _ _ _, A9, c9, rfl, ownsRow_base HP.out.own (by omega), HE.out⟩
  case stop =>
    rintro c pre S W hm _ hp h
    exact h.elim
end Go.Proofs.YtikinofopkjdjaaDoor
