/-
  The program's iterator over a tree: 'places' and what it hands back.
-/
import Derived.Test.YtikinofopkjdjaaDoorG21
import Derived.Laws.EntriesVeiled
import Derived.Shelf.Abstract
set_option linter.unusedVariables false
namespace Go.Proofs.YtikinofopkjdjaaDoor
open Go.RowKit WM TR

theorem places_is (k n m : Int) (A : Option Addr) (len c : Nat) (w : World) :
    Calls Tryd.prog 45 #[.agg #[.int .i64 k, .int .i64 n, .int .i64 m, .slice A len c]] w fun e w' => e = .returned (.func (.func 84) #[] #[.pointer (some ⟨w.heap.size, 0, none⟩)]) ∧ w' = w.alloc (.cells #[.int .i64 k, .int .i64 n, .int .i64 m, .slice A len c] 26) := by
  go_enter Tryd.func45, Tryd.ntmps45
  go_wp2
  go_ret
  exact ⟨rfl, rfl⟩

set_option maxRecDepth 100000 in
set_option maxHeartbeats 4000000 in
theorem iter_is (n d B : Nat) (t : T) (A : Option Addr) (c : Nat) (Tr : Nat → Prop) (w : World) (ht : Rep w Tr d t (nd t A c)) (hB : Blk w B 26 #[.int .i64 t.k, .int .i64 t.n, .int .i64 t.m, .slice A t.kids.length c]) (hTr : ∀ b, Tr b → b < w.heap.size)
    (hsz : size t ≤ 1000000) :
    SeqT Fence.wide n Tryd.prog 84 #[.pointer (some ⟨B, 0, none⟩)] (fun b => Tr b ∨ b = B) AtT (walk [] t) w := by
  intro l J Jx S W hW hS hJ hJx hY h0
  refine callsIn_wide.2 ?_
  simp only [List.append_toArray, List.nil_append, List.cons_append]
  have ht2 : Rep W Tr d t (nd t A c) := ht.later hTr hW
  have hB2 := hB.below hW hB.lt
  have hBS : ¬ S B := fun h => (hS B h).2 (.inr rfl)
  obtain ⟨W3, hW3⟩ : ∃ W3, W3 = ((W.alloc (.cells #[.func (.yield l) #[] #[]] 124)).alloc (.cells #[.slice none 0 0] 22)).alloc (.cells #[.func (.func 85) #[] #[.pointer (some ⟨W.heap.size, 0, none⟩), .pointer (some ⟨W.heap.size + 1, 0, none⟩), .pointer (some ⟨W.heap.size + 1 + 1, 0, none⟩)]] 90) := ⟨_, rfl⟩
  have hz3 : W3.heap.size = W.heap.size + 3 := by rw [hW3, size_alloc, size_alloc, size_alloc]
  have hb3 : Below W.heap.size W W3 := by rw [hW3]; exact ba (ba (below_new _ _) _) _
  have hblk1 : Blk W3 W.heap.size 124 #[.func (.yield l) #[] #[]] := by rw [hW3]; exact ((Blk.new W _ _).alloc _).alloc _
  have hblk2 : Blk W3 (W.heap.size + 1) 22 #[.slice none 0 0] := by rw [hW3]; exact (Blk.new_at _ _ (by rw [size_alloc]) rfl).alloc _
  have hblk3 : Blk W3 (W.heap.size + 2) 90 #[.func (.func 85) #[] #[.pointer (some ⟨W.heap.size, 0, none⟩), .pointer (some ⟨W.heap.size + 1, 0, none⟩), .pointer (some ⟨W.heap.size + 2, 0, none⟩)]] := by rw [hW3]; exact Blk.new_at _ _ (by rw [size_alloc, size_alloc]) rfl
  have hst : VSt W.heap.size l S W S W3 (.slice none 0 0) [] :=
    ⟨Mov.of_below hb3, hblk1.cell 0, hblk2, hblk3.cell 0, World.ownsRow_nil _ _ _ _, fun b hb => .inl (hS b hb).1, fun g hg => (by cases hg), by omega⟩
  have hj : J [] S W3 := hJ _ _ _ _ h0 ⟨hb3.os, hb3.tape, hb3.output, hb3.size, fun b hb => hb3.block b (hS b hb).1⟩
  have hdt := depth_le_size t
  have HV := Lib.hid (visit_is l W.heap.size (n - 1) (walk [] t) J Jx S W rfl (fun b hb => (hS b hb).1) hJ hJx Tr (fun b hb => ⟨Nat.lt_of_lt_of_le (hTr b hb) hW.size, fun h => (hS b h).2 (.inl hb)⟩) hY d t A c S W3 (.slice none 0 0) [] [] ht2 hst hj (List.prefix_refl _) hsz (by simp only [List.length_nil]; omega))
  have HST := Lib.hid hst
  have HX : Hid (∀ i y, [Value.int .i64 t.k, .int .i64 t.n, .int .i64 t.m, .slice A t.kids.length c][i]? = some y → W3.cell? ⟨B, 0 + i, none⟩ = some y) := Lib.hid (fun i y hy => by
    rw [(hB2.below hb3 hB2.lt).cell (0 + i), Nat.zero_add]; simpa using hy)
  have HW3 := Lib.hid hW3
  clear hW3 hY hS hJ hJx h0 ht ht2 hB hB2 hBS hst hj hblk1 hblk2 hblk3 hW hb3 hTr
  go_enter Tryd.func84, Tryd.ntmps84
  go_wp2_with (first
    | (refine wpList_load_mid rfl 26 (.tmp 1) rfl B 0 rfl [.int .i64 t.k, .int .i64 t.n, .int .i64 t.m, .slice A t.kids.length c] _ (by rw [← HW3.out]; exact HX.out) Tryd.underlying26 rfl (by rw [size_node]; rfl) ?_)
    | (go_at_call 85; rw [← HW3.out]; refine HV.out.mono ?_; rintro e W4 ⟨S4, v4, hm4, (⟨rfl, hj4, hst4⟩ | ⟨rfl, q, hq, hx4⟩)⟩))
  · go_end0
    exact ⟨⟨_, rfl⟩, S4, HST.out.mov_of rfl hm4, .inl (by simpa using hj4)⟩
  · go_end0
    exact ⟨⟨_, rfl⟩, S4, HST.out.mov_of rfl hm4, .inr ⟨q, hq, by simpa using hx4⟩⟩
end Go.Proofs.YtikinofopkjdjaaDoor

/-
  The program's Size and Depth.
-/
namespace Go.Proofs.YtikinofopkjdjaaDoor
open Go.RowKit Go.Shelf WM TR
attribute [local go_sem] Oper.semAt_some

theorem zip2 {f : Array Value → Tmp × Value → Array Value} {t : Array Value} {p q : Tmp} {x y : Value} : (Array.zip #[p, q] #[x, y]).foldl f t = f (f t (p, x)) (q, y) := by simp
theorem walk_length : ∀ (p : List Int) (t : T), (walk p t).length = size t := by
  intro p t
  induction h : SizeOf.sizeOf t using Nat.strongRecOn generalizing p t with
  | ind n ih =>
    subst h
    have : ∀ j, j ≤ t.kids.length → (walks p t.kids j).length = sizes t.kids j := by
      intro j
      induction j with
      | zero => intro _; rfl
      | succ j ihj =>
        intro hj
        obtain ⟨u, hu⟩ : ∃ u, t.kids[j]? = some u := ⟨_, List.getElem?_eq_getElem (by omega)⟩
        rw [walks_next hu, sizes_next hu, List.length_append, ihj (by omega), ih _ (kid_lt (List.mem_of_getElem? hu)) _ u rfl]
    rw [walk_walks, List.length_cons, this _ (Nat.le_refl _), size_kids]
    omega
theorem Stay.blk {S : Nat → Prop} {A B : World} (h : Stay S A B) {g : Nat} {t : TypeId} {cs : Array Value} (hb : Blk A g t cs) (hg : S g) : Blk B g t cs := (h.same g hg).trans hb
theorem Off.blk {l : Nat} {A B : World} (h : Off l A B) {g : Nat} {t : TypeId} {cs : Array Value} (hb : Blk A g t cs) (hg : g ≠ l) : Blk B g t cs := (h.same g hg).trans hb
theorem AtT.size2 {x : List Int × T} {vs : Array Value} {S : Nat → Prop} {W : World} (h : AtT x vs S W) : vs.size = 2 := by
  obtain ⟨A, c, B, d, k, rfl, _⟩ := h
  rfl
/-- The world behind a loop over the iterator, the mark taken. -/
theorem Mov.ends {S0 S : Nat → Prop} {w0 w W : World} (h : Mov S0 w S W) (h0 : Below w0.heap.size w0 w) (hS : ∀ b, S0 b → w0.heap.size ≤ b) (o : Obj) : Below w0.heap.size w0 (W.putObj w.heap.size o) := by
  have hb := h0.trans (h.below h0.size hS)
  have ho := Off.putObj W w.heap.size o
  exact ⟨ho.os.trans hb.os, ho.tape.trans hb.tape, ho.output.trans hb.output, by rw [ho.size]; exact hb.size, fun b hb' => (ho.same b (by have := h0.size; omega)).trans (hb.block b hb')⟩

set_option maxRecDepth 100000 in
set_option maxHeartbeats 2000000 in
theorem size_is (d : Nat) (t : T) (S : Nat → Prop) (A : Option Addr) (c : Nat) (w : World) (h : Rep w S d t (nd t A c)) (hin : In S w.heap.size) (hs : size t ≤ 1000000) :
    Calls Tryd.prog 54 #[.agg #[.int .i64 t.k, .int .i64 t.n, .int .i64 t.m, .slice A t.kids.length c]] w fun e w' => e = .returned (.int .i64 (size t : Int)) ∧ Below w.heap.size w w' := by
  refine (callsIn_wide (n := 9)).1 ?_
  refine callsIn_of_wp_marks Tryd.func54 rfl trivial ?_ rfl
  simp only [Tryd.ntmps54, List.size_toArray, List.length_cons, List.length_nil, Nat.reduceAdd, Nat.reduceSub, Array.replicate_succ, Array.replicate_zero, List.push_toArray, List.append_toArray, List.nil_append, List.cons_append]
  refine wpIn_wide.2 ?_
  go_wp2_with (go_at_call 45; refine (places_is _ _ _ _ _ _ _).mono ?_; rintro e w3 ⟨rfl, hw3⟩)
  obtain ⟨W2, hW2⟩ : ∃ W2, W2 = (w.alloc (.cells #[.int .i64 t.k, .int .i64 t.n, .int .i64 t.m, .slice A t.kids.length c] 26)).alloc (.cells #[.int .i64 0] 3) := ⟨_, rfl⟩
  rw [← hW2]
  rw [← hW2] at hw3
  have hz2 : W2.heap.size = w.heap.size + 2 := by rw [hW2, size_alloc, size_alloc]
  have hb2 : Below w.heap.size w W2 := by rw [hW2]; exact ba (below_new _ _) _
  have hbk : Blk W2 (w.heap.size + 1) 3 #[.int .i64 0] := by rw [hW2]; exact Blk.new_at _ _ (by rw [size_alloc]) rfl
  have hz3 : w3.heap.size = w.heap.size + 3 := by rw [hw3, size_alloc, hz2]
  have hb3 : Below w.heap.size w w3 := by rw [hw3]; exact ba hb2 _
  have hseq := iter_is (9 - 1) d (w.heap.size + 2) t A c S w3 (h.later hin hb3) (by rw [hw3]; exact Blk.new_at _ _ hz2.symm rfl) (hin.more hb3.size) hs
  have hbk3 : Blk w3 (w.heap.size + 1) 3 #[.int .i64 0] := by rw [hw3]; exact hbk.alloc _
  rw [← hw3]
  clear hbk
  refine (wpIn_wide (n := 9)).1 ?_
  refine wpIn_range_T (w := w3) rfl (by omega) (gf := 84) (lb := #[.pointer (some ⟨w.heap.size + 2, 0, none⟩)]) rfl trivial (enters_of Tryd.func84 (by kernel_rfl) rfl) hseq (Below.refl _ _) (fun x vs S W hx => hx.size2)
    (fun b hb => hb.elim (fun h => hin.more hb3.size b h) (fun h => by omega))
    (fun pre S W => S (w.heap.size + 1) ∧ Blk W (w.heap.size + 1) 3 #[.int .i64 (pre.length : Int)]) (fun _ _ _ _ => False)
    (fun pre S W W' hI hst => ⟨hI.1, hst.blk hI.2 hI.1⟩) (fun _ _ _ _ _ h _ => h)
    (fun b => b = w.heap.size + 1) (fun b hb => ⟨by omega, fun h => h.elim (fun h => by have := hin b h; omega) (fun h => by omega)⟩) ⟨rfl, hbk3⟩ ?round ?done ?stop
  case round =>
    rintro pre x vs S W ⟨hS, hbW⟩ hpre ⟨A1, c1, B1, d1, k1, rfl, _⟩ hm hlt hn1 hn2
    have hlen : pre.length + 1 ≤ size t := by
      have := hpre.length_le
      rw [walk_length, List.length_append, List.length_singleton] at this
      exact this
    clear hseq
    rw [zip2]
    gi_wp2
    refine ⟨S, Mov.refl _ _, fun W2 hoff => ?_⟩
    have hb4 := hoff.blk hbW (by omega)
    have hc := hb4.cell 0
    have hf := hb4.frozen 0
    gi_wp2
    refine ⟨S, Mov.setCell _ _ _ hS, hS, ?_⟩
    have := hb4.set_ 0 (.int .i64 ((pre.length : Int) + 1))
    simpa using this
  case done =>
    rintro S1 W hm _ ⟨hS, hbW⟩ hD
    have hc := hbW.cell 0
    rw [walk_length] at hc
    clear hseq
    go_wp2
    refine ⟨by simp, .inl ⟨_, _, rfl, run_takeDeferred hD, ?_⟩⟩
    exact ⟨_, results_tmp rfl _ _ _, rfl, hm.ends hb3 (fun b hb => by omega) _⟩
  case stop =>
    rintro c pre S W hm _ hp h
    exact h.elim
end Go.Proofs.YtikinofopkjdjaaDoor

/-
  slices.Clone at lists of integers.
-/
namespace Go.Proofs.YtikinofopkjdjaaDoor
open Go.RowKit WM TR

/-- What Clone leaves: a row of its own. -/
def ClonePost (p : List Int) (w : World) (e : Ending) (w' : World) : Prop :=
  ∃ A' c', e = .returned (.slice A' p.length c') ∧ p.length ≤ c' ∧ w'.ownsRow w.heap.size 3 1 (.slice A' p.length c') p.length (vi p) ∧ Below w.heap.size w w'

set_option maxRecDepth 100000 in
set_option maxHeartbeats 1000000 in
theorem cloneInts_is (p : List Int) (S : Nat → Prop) (A : Option Addr) (c : Nat) (w : World) (hp : Rd w S 1 A p.length (vi p)) (hin : In S w.heap.size) (hl : p.length ≤ 1000000) :
    Calls Tryd.prog 96 #[.slice A p.length c] w (ClonePost p w) := by
  obtain ⟨i0, hi, hz0, hz1, hz2⟩ := info_parts ps_int_info
  obtain ⟨n, hn⟩ : ∃ n, n = p.length := ⟨_, rfl⟩
  have HN := Lib.hid hn
  have HP := Lib.hid hp
  have HI := Lib.hid hin
  rw [← hn] at hl ⊢
  clear hn hp hin
  cases A with
  | none =>
    have h0 : n = 0 := by
      rcases Nat.eq_zero_or_pos n with h | h
      · exact h
      · obtain ⟨ad, e, _⟩ := HP.out.2 (by rw [← HN.out]; exact h)
        cases e
    have hp0 : p = [] := List.eq_nil_of_length_eq_zero (by rw [← HN.out]; exact h0)
    subst h0
    subst hp0
    have hq : ∀ W : World, (binOp BinOp.eql 22 (.slice none 0 c) (.slice none 0 0)).run Tryd.prog W = .ok (.bool true) W := fun W => by kernel_rfl
    clear HN HP
    go_enter Tryd.func96, Tryd.ntmps96
    go_wp2
    go_ret
    exact ⟨none, 0, rfl, Nat.le_refl _, World.ownsRow_nil _ _ _ _, Below.refl _ _⟩
  | some ad =>
    have hq : ∀ W : World, (binOp BinOp.eql 22 (.slice (some ad) n c) (.slice none 0 0)).run Tryd.prog W = .ok (.bool false) W := fun W => by kernel_rfl
    go_enter Tryd.func96, Tryd.ntmps96
    go_wp2_with (at_builtin; refine wpList_append_any _ rfl (.tmp 5) (.tmp 6) 22 rfl w.heap.size 3 i0 _ 1 8 Tryd.underlying22 hi hz0 hz1 hz2 rfl (by omega) _ 0 [] rfl (own_lit (xs := []) (n := 0) (Nat.le_refl _) rfl (len_le (by omega))) _ (some ad) n c (vi p) rfl (by rw [HN.out]; exact (HP.out.keep (Keeps.below HI.out (below_new w _))).reads (HI.out.more (below_new w (.cells #[] 3)).size)) (vi_one p) (len_le (by omega)) (by omega) (by simp) ?_; intro v7 w7 hown7 hgrow7 _; obtain ⟨A7, c7, hv7, hcap7⟩ := own_len hown7; rw [Nat.zero_add] at hv7 hcap7; subst hv7; have HO7 := Lib.hid hown7; have HB7 : Hid (Below w.heap.size w w7) := Lib.hid (below_grown hgrow7 (fun b hb => Nat.le_of_eq (Option.some.inj hb))); clear hown7 hgrow7)
    go_ret
    refine ⟨A7, c7, by rw [HN.out]; rfl, by rw [← HN.out]; exact hcap7, ?_, HB7.out⟩
    have h := HO7.out
    rw [Nat.zero_add, List.nil_append] at h
    rw [← HN.out]
    exact h
end Go.Proofs.YtikinofopkjdjaaDoor
