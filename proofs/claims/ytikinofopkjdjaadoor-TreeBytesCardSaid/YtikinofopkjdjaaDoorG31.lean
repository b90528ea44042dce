/-
  The program's find.
-/
import Derived.Test.YtikinofopkjdjaaDoorG30
import Derived.Test.YtikinofopkjdjaaDoorG08
import Derived.Deep.DeepCutAuto
set_option linter.unusedVariables false
namespace Go.Proofs.YtikinofopkjdjaaDoor.TR
theorem at_none (q r : List Int) (i : Int) : ∀ (t u : T), at? q t = some u → (i < 0 ∨ (u.kids.length : Int) ≤ i) → at? (q ++ i :: r) t = none := by
  induction q with
  | nil =>
    intro t u h hi
    simp only [at?, Option.some.injEq] at h
    subst h
    simp only [List.nil_append, at?]
    rcases hi with hi | hi
    · rw [if_pos hi]
    · by_cases h0 : i < 0
      · rw [if_pos h0]
      · rw [if_neg h0, List.getElem?_eq_none (by omega)]
  | cons i' q ih =>
    intro t u h hi
    simp only [List.cons_append, at?] at h ⊢
    split at h
    · cases h
    · rename_i hi'
      rw [if_neg hi']
      cases hk : t.kids[i'.toNat]? with
      | none => rfl
      | some v => rw [hk] at h; exact ih v u h hi
end Go.Proofs.YtikinofopkjdjaaDoor.TR
namespace Go.Proofs.YtikinofopkjdjaaDoor
open Go.RowKit WM TR

theorem split_at {α : Type} {l : List α} {k : Nat} {x : α} (h : l[k]? = some x) : l = l.take k ++ x :: l.drop (k + 1) := by
  obtain ⟨hk, e⟩ := List.getElem?_eq_some_iff.1 h
  have h1 := List.drop_eq_getElem_cons hk
  rw [e] at h1
  rw [← h1, List.take_append_drop]

/-- What a step down the tree needs: the node's cells, and where its kids lie. -/
def Step (w : World) (t : T) (Fnd : List Int → T → Nat → Nat → Prop) : Prop :=
  ∀ q u b o, Fnd q u b o → at? q t = some u ∧ ∃ A c, (∀ i v, (nd u A c)[i]? = some v → w.cell? ⟨b, o + i, none⟩ = some v) ∧
    ∀ (j : Nat) k, u.kids[j]? = some k → ∃ g off, A = some ⟨g, off, none⟩ ∧ Fnd (q ++ [(j : Int)]) k g (off + j * 4)

/-- What find leaves. -/
def FindPost (t : T) (p : List Int) (Fnd : List Int → T → Nat → Nat → Prop) (w : World) (e : Ending) (w' : World) : Prop :=
  w = w' ∧ ((at? p t = none ∧ e = .returned (.pointer none)) ∨ ∃ u b o, Fnd p u b o ∧ e = .returned (.pointer (some ⟨b, o, none⟩)))

set_option maxRecDepth 100000 in
set_option maxHeartbeats 4000000 in
theorem find_is (w : World) (t : T) (Fnd : List Int → T → Nat → Nat → Prop) (hst : Step w t Fnd) (b0 : Nat) (h0 : Fnd [] t b0 0) (p : List Int) (S : Nat → Prop) (P : Option Addr) (pc : Nat) (hp : Rd w S 1 P p.length (vi p)) (hpc : p.length ≤ pc) (hpl : p.length ≤ 9223372036854775807) :
    Calls Tryd.prog 92 #[.pointer (some ⟨b0, 0, none⟩), .slice P p.length pc] w (FindPost t p Fnd w) := by
  obtain ⟨n, hn⟩ : ∃ n, n = p.length := ⟨_, rfl⟩
  have HP := Lib.hid hp
  have HN := Lib.hid hn
  have HST := Lib.hid hst
  have H0 := Lib.hid h0
  rw [← hn] at hpc hpl ⊢
  clear hp hn hst h0
  go_enter Tryd.func92, Tryd.ntmps92
  go_wp2_with fail
  go_loopw [0, 9] (fun x i wr => ∃ (k : Nat) (u : T) (b o : Nat), k ≤ n ∧ x = .pointer (some ⟨b, o, none⟩) ∧ i = .int .i64 k ∧ Hid (Fnd (p.take k) u b o) ∧ Hid (wr = w)) (fun _ i _ => n - (intOf i).toNat)
  case atStart => exact ⟨0, t, b0, 0, Nat.zero_le _, rfl, rfl, by rw [List.take_zero]; exact H0, rfl⟩
  case round =>
    obtain ⟨k, u, b, o, hk, rfl, rfl, HF, HW⟩ := hrel
    by_cases hlt : k < n
    · obtain ⟨i, hi⟩ : ∃ i, p[k]? = some i := ⟨_, List.getElem?_eq_getElem (by rw [← HN.out]; exact hlt)⟩
      obtain ⟨bp, op, hP, _, hcell⟩ := HP.out.lit (by rw [← HN.out]; omega)
      subst hP
      have hw := HW.out
      subst hw
      have hci : wr.cell? ⟨bp, op + k, none⟩ = some (.int .i64 i) := hcell k _ (by simp [vi, hi])
      obtain ⟨hat, A, c, hcs, hkid⟩ := HST.out _ _ _ _ HF.out
      have hc3 : wr.cell? ⟨b, o + 3, none⟩ = some (.slice A u.kids.length c) := hcs 3 _ rfl
      have hpk := split_at hi
      have hij : (0 : Int) ≤ k ∧ (k : Int) < n := ⟨by omega, by omega⟩
      obtain ⟨len, hlen⟩ : ∃ len, len = u.kids.length := ⟨_, rfl⟩
      have HLEN := Lib.hid hlen
      rw [← hlen] at hc3
      have HPK := Lib.hid hpk
      have HAT := Lib.hid hat
      have HKD := Lib.hid hkid
      have HI := Lib.hid hi
      clear hcs hkid hat hpk hlen hi hcell
      by_cases hneg : i < 0
      · have hnone : at? p t = none := by rw [HPK.out]; exact at_none _ _ _ _ _ HAT.out (.inl hneg)
        have HNO := Lib.hid hnone
        have hd : decide (i < 0) = true := by simpa using hneg
        clear hnone
        go_wp2_with fail
        go_ret
        exact ⟨rfl, .inl ⟨HNO.out, rfl⟩⟩
      · by_cases hge : (len : Int) ≤ i
        · have hnone : at? p t = none := by rw [HPK.out]; exact at_none _ _ _ _ _ HAT.out (.inr (by rw [← HLEN.out]; exact hge))
          have HNO := Lib.hid hnone
          have hd : decide (i < 0) = false := by simpa using hneg
          have hd2 : decide ((len : Int) ≤ i) = true := by simpa using hge
          clear hnone
          go_wp2_with fail
          go_ret
          exact ⟨rfl, .inl ⟨HNO.out, rfl⟩⟩
        · obtain ⟨j, rfl⟩ := Int.eq_ofNat_of_zero_le (show 0 ≤ i by omega)
          obtain ⟨k2, hk2⟩ : ∃ k2, u.kids[j]? = some k2 := ⟨_, List.getElem?_eq_getElem (by rw [← HLEN.out]; omega)⟩
          obtain ⟨g, off, hA, hf2⟩ := HKD.out j k2 hk2
          subst hA
          have hd : decide ((j : Int) < 0) = false := by simp
          have hd2 : decide ((len : Int) ≤ j) = false := by simp; omega
          have hjj : (0 : Int) ≤ j ∧ (j : Int) < len := ⟨by omega, by omega⟩
          have HF2 : Hid (Fnd (p.take (k + 1)) k2 g (off + j * 4)) := Lib.hid (by rw [List.take_add_one, HI.out]; exact hf2)
          clear hf2 hk2
          go_wp2_with fail
          go_roundw
          case rel => exact ⟨k + 1, k2, g, off + j * 4, by omega, rfl, by go_num, HF2.out, by first | exact Lib.hid rfl | exact Lib.hid trivial⟩
          case measure => simp [intOf]; omega
    · have hkn : k = n := by omega
      have HF2 : Hid (Fnd p u b o) := Lib.hid (by
        have h := HF.out
        rw [hkn, HN.out, List.take_length] at h
        exact h)
      clear hkn HF
      go_wp2_with fail
      go_ret
      exact ⟨HW.out.symm, .inr ⟨u, b, o, HF2.out, rfl⟩⟩
end Go.Proofs.YtikinofopkjdjaaDoor

/-
  What a search in a tree finds.
-/
namespace Go.Proofs.YtikinofopkjdjaaDoor
open Go.RowKit WM TR

/-- A node found in a tree that may share memory. -/
def FndR (w : World) (S : Nat → Prop) (t : T) (q : List Int) (u : T) (b o : Nat) : Prop :=
  at? q t = some u ∧ ∃ A c D, (∀ i v, (nd u A c)[i]? = some v → w.cell? ⟨b, o + i, none⟩ = some v) ∧ Rep w S D u (nd u A c)
theorem step_rep (w : World) (S : Nat → Prop) (t : T) : Step w t (FndR w S t) := by
  rintro q u b o ⟨h1, A, c, D, hc, hr⟩
  refine ⟨h1, A, c, hc, fun j k hk => ?_⟩
  cases D with
  | zero => exact hr.elim
  | succ D =>
    obtain ⟨g, off, A', c', hA, _, hcl, hrk⟩ := hr.kid hk
    exact ⟨g, off, hA, by rw [at_snoc q j t u h1, hk], A', c', D, hcl, hrk⟩

/-- What At leaves. -/
def AtMade (o : Option T) (w : World) (e : Ending) (w' : World) : Prop :=
  ∃ u A' c' D, o.getD zeroT = u ∧ e = .returned (.tuple #[.agg #[.int .i64 u.k, .int .i64 u.n, .int .i64 u.m, .slice A' u.kids.length c'], .bool o.isSome]) ∧ Rep w' (fun b => w.heap.size ≤ b ∧ b < w'.heap.size) D u (nd u A' c') ∧ Below w.heap.size w w'
theorem at_size : ∀ (p : List Int) (t u : T), at? p t = some u → size u ≤ size t
  | [], t, u, h => by simp only [at?, Option.some.injEq] at h; rw [h]; exact Nat.le_refl _
  | i :: p, t, u, h => by
    simp only [at?] at h
    split at h
    · cases h
    · cases hk : t.kids[i.toNat]? with
      | none => rw [hk] at h; cases h
      | some v =>
        rw [hk] at h
        have := at_size p v u h
        have := size_kid hk
        omega

end Go.Proofs.YtikinofopkjdjaaDoor

/-
  What Set leaves.
-/
namespace Go.Proofs.YtikinofopkjdjaaDoor
open Go.RowKit WM TR

/-- The code: ErrNone, if there is no tree. -/
def codeOf : Option T → Int
  | some _ => 0
  | none => 6
/-- What Set leaves. -/
def SetPost (o : Option T) (S : Nat → Prop) (w : World) (e : Ending) (w' : World) : Prop :=
  ∃ t A' c' D, o.getD zeroT = t ∧ e = .returned (.tuple #[.agg #[.int .i64 t.k, .int .i64 t.n, .int .i64 t.m, .slice A' t.kids.length c'], .int .i64 (codeOf o)]) ∧ Rep w' (Plus S w.heap.size w'.heap.size) D t (nd t A' c') ∧ Below w.heap.size w w'
/-- Between the call of itself and what is done with its results. -/
def SetCut (o : Option T) (S : Nat → Prop) (e : Nat) (W2 : World) (s8 s9 : Value) (wx : World) : Prop :=
  ∃ gk u A' c' D, s8 = .pointer (some ⟨gk, 0, none⟩) ∧ s9 = .int .i64 (codeOf o) ∧ o.getD zeroT = u ∧ Blk wx gk 26 #[.int .i64 u.k, .int .i64 u.n, .int .i64 u.m, .slice A' u.kids.length c'] ∧ e ≤ gk ∧
    Rep wx (fun b => S b ∨ (e ≤ b ∧ b < wx.heap.size ∧ b ≠ gk)) D u (nd u A' c') ∧ Below e W2 wx
theorem SetCut.late {o : Option T} {S : Nat → Prop} {e : Nat} {W2 w3 : World} {u : T} {A' : Option Addr} {c' D : Nat} (hin : In S e) (he : W2.heap.size = e) (hu : o.getD zeroT = u) (hru : Rep w3 (Plus S W2.heap.size w3.heap.size) D u (nd u A' c')) (hbw : Below W2.heap.size W2 w3) :
    SetCut o S e W2 (.pointer (some ⟨w3.heap.size, 0, none⟩)) (.int .i64 (codeOf o)) (w3.alloc (.cells #[.int .i64 u.k, .int .i64 u.n, .int .i64 u.m, .slice A' u.kids.length c'] 26)) := by
  subst he
  have hs := hbw.size
  have hin3 : In (Plus S W2.heap.size w3.heap.size) w3.heap.size := hin.plus hs
  refine ⟨w3.heap.size, u, A', c', D, rfl, rfl, hu, Blk.new _ _ _, hs, Rep.mono ?_ (hru.keep (Keeps.below hin3 (below_new _ _))), ?_⟩
  · intro b hb
    rcases hb with hb | hb
    · exact .inl hb
    · exact .inr ⟨hb.1, by rw [size_alloc]; omega, by omega⟩
  · exact hbw.alloc hs _
theorem SetCut.early {o : Option T} {S : Nat → Prop} {e : Nat} {W2 w3 : World} {u : T} {A' : Option Addr} {c' D : Nat} {cs : List Value} {o0 : Obj} (hin : In S e) (he : W2.heap.size = e) (hu : o.getD zeroT = u) (hru : Rep w3 (Plus S (W2.alloc o0).heap.size w3.heap.size) D u (nd u A' c'))
    (hbw : Below (W2.alloc o0).heap.size (W2.alloc o0) w3) (hk : Blk w3 W2.heap.size 26 cs.toArray) (hcs : cs.length = 4) :
    SetCut o S e W2 (.pointer (some ⟨W2.heap.size, 0, none⟩)) (.int .i64 (codeOf o)) ((((w3.setCell ⟨W2.heap.size, 0, none⟩ (.int .i64 u.k)).setCell ⟨W2.heap.size, 1, none⟩ (.int .i64 u.n)).setCell ⟨W2.heap.size, 2, none⟩ (.int .i64 u.m)).setCell ⟨W2.heap.size, 3, none⟩ (.slice A' u.kids.length c')) := by
  subst he
  have hs := hbw.size
  rw [size_alloc] at hs hru
  refine ⟨W2.heap.size, u, A', c', D, rfl, rfl, hu, put4_blk hk hcs _ _ _ _, Nat.le_refl _, Rep.mono ?_ (put4_rep hru (fun hb => ?_) _ _ _ _), ?_⟩
  · intro b hb
    rcases hb with hb | hb
    · exact .inl hb
    · exact .inr ⟨by omega, by rw [(gw4 _ _ _ _ _ _).2]; exact hb.2, by omega⟩
  · rcases hb with hb | hb
    · have := hin _ hb; omega
    · omega
  · exact put4_below (((Below.refl _ W2).alloc (Nat.le_refl _) o0).trans (hbw.mono (by rw [size_alloc]; omega))) _ _ _ _

end Go.Proofs.YtikinofopkjdjaaDoor

/-
  The program's Set.
-/
namespace Go.Proofs.YtikinofopkjdjaaDoor
open Go.RowKit WM TR

/-- A node found in a tree that shares nothing. -/
def FndL (w : World) (b0 lo hi : Nat) (t : T) (q : List Int) (u : T) (b o : Nat) : Prop := ∃ lo' hi' d row, Foc w b0 lo hi t q u b o lo' hi' d row
theorem step_lin (w : World) (b0 lo hi : Nat) (t : T) : Step w t (FndL w b0 lo hi t) := by
  rintro q u b o ⟨lo', hi', d, row, h⟩
  obtain ⟨A, c, e, hc⟩ := h.lin.rep.form
  have hcell : ∀ i v, (nd u A c)[i]? = some v → w.cell? ⟨b, o + i, none⟩ = some v := by
    intro i v hv
    rw [h.blk.cell (o + i)]
    rw [← e, List.getElem?_take] at hv
    split at hv
    · rw [List.getElem?_drop] at hv
      simpa using hv
    · cases hv
  refine ⟨h.sub, A, c, hcell, fun j k hk => ?_⟩
  cases d with
  | zero => exact h.lin.elim
  | succ d =>
    obtain ⟨g, c2, lo2, hi2, ys, e2, hf⟩ := h.next hk
    rw [e] at e2
    obtain ⟨rfl, _⟩ := nd_inj e2
    exact ⟨g, 0, rfl, by rw [Nat.zero_add]; exact ⟨lo2, hi2, d, ys, hf⟩⟩

/-- What Set leaves. -/
def SetMade (o : Option T) (w : World) (e : Ending) (w' : World) : Prop :=
  ∃ u A' c' D, o.getD zeroT = u ∧ e = .returned (.tuple #[.agg #[.int .i64 u.k, .int .i64 u.n, .int .i64 u.m, .slice A' u.kids.length c'], .int .i64 (codeOf o)]) ∧ Rep w' (fun b => w.heap.size ≤ b ∧ b < w'.heap.size) D u (nd u A' c') ∧ Below w.heap.size w w'
theorem set_none_at : ∀ (p : List Int) (t x : T), at? p t = none → set? p t x = none
  | [], _, _, h => by simp [at?] at h
  | i :: p, t, x, h => by
    simp only [at?, set?] at h ⊢
    split at h
    · rename_i hi; rw [if_pos hi]
    · rename_i hi
      rw [if_neg hi]
      cases hk : t.kids[i.toNat]? with
      | none => rfl
      | some v =>
        rw [hk] at h
        simp only [set_none_at p v x h]

/-- Behind the store of the new node. -/
theorem set_back {w W3 w4 W5 w7 w8 : World} {t u x : T} {p : List Int} {b o lo' hi' d' dx c7 : Nat} {A7 : Option Addr} {row cs : List Value} (hf : Foc W5 w4.heap.size W3.heap.size w4.heap.size t p u b o lo' hi' d' row) (hz3 : W3.heap.size = w.heap.size + 3) (hs4 : W3.heap.size ≤ w4.heap.size) (hz5 : W5.heap.size = w4.heap.size + 1)
    (hO : Blk W5 (w.heap.size + 1 + 1) 26 cs.toArray) (hl7 : Lin w7 dx W5.heap.size w7.heap.size x (nd x A7 c7)) (hb7 : Below W5.heap.size W5 w7) (hw8 : w8 = w7.setRow b (seg row o (nd x A7 c7)).toArray) :
    ∃ A9 c9 D9 t9, set? p t x = some t9 ∧ (∀ i y, [Value.int .i64 t9.k, .int .i64 t9.n, .int .i64 t9.m, .slice A9 t9.kids.length c9][i]? = some y → w8.cell? ⟨w4.heap.size, 0 + i, none⟩ = some y) ∧ Rep w8 (fun b => W3.heap.size ≤ b ∧ b < w8.heap.size) D9 t9 (nd t9 A9 c9) ∧ Below W3.heap.size W5 w8 ∧ Blk w8 (w.heap.size + 1 + 1) 26 cs.toArray := by
  have hs7 := hb7.size
  have hs8 : w8.heap.size = w7.heap.size := by rw [hw8, size_setRow]
  have hbl : W3.heap.size ≤ b ∧ b < W5.heap.size := by rcases hf.here with h | h <;> omega
  have hblk : Blk w8 b 26 (seg row o (nd x A7 c7)).toArray := by rw [hw8]; exact (hf.blk.below hb7 hf.blk.lt).setRow _
  have hoth : ∀ b', b' ≠ b → w8.heap[b']? = w7.heap[b']? := fun b' h => by rw [hw8]; exact setRow_other _ _ _ b' (Ne.symm h)
  have hfit := hf.fit
  have hag : ∀ q : Addr, (q.block = w4.heap.size ∨ (W3.heap.size ≤ q.block ∧ q.block < w4.heap.size)) → ¬ (lo' ≤ q.block ∧ q.block < hi') → (q.block = b → q.off < o ∨ o + 4 ≤ q.off) → w8.cell? q = W5.cell? q := fun q hq _ ho => by
    have hqlt : q.block < W5.heap.size := by rcases hq with h | h <;> omega
    by_cases e : q.block = b
    · have ho' := ho e
      obtain ⟨qb, qo, qs⟩ := q
      simp only at e ho' hqlt
      subst e
      cases qs with
      | none =>
        rw [hblk.cell qo, hf.blk.cell qo]
        simp only [List.getElem?_toArray]
        rw [seg_get (by rw [nd_length]; exact hfit), nd_length]
        rcases ho' with h | h
        · rw [if_pos h]
        · rw [if_neg (by omega), if_neg (by omega)]
      | some s =>
        unfold World.cell?
        have h1 : w8.heap[qb]? = some (.cells (seg row o (nd x A7 c7)).toArray 26 (0, 0)) := hblk
        have h2 : W5.heap[qb]? = some (.cells row.toArray 26 (0, 0)) := hf.blk
        simp [h1, h2]
    · exact (World.cell?_of_block (hoth _ e)).trans (hb7.cell hqlt)
  have hcl : ∀ i v, (nd x A7 c7)[i]? = some v → w8.cell? ⟨b, o + i, none⟩ = some v := fun i v hv => by
    rw [hblk.cell (o + i)]
    have hi4 : i < 4 := by have := (List.getElem?_eq_some_iff.1 hv).1; rw [nd_length] at this; exact this
    simp only [List.getElem?_toArray]
    rw [seg_get (by rw [nd_length]; exact hfit), nd_length, if_neg (by omega), if_pos (by omega), Nat.add_sub_cancel_left]
    exact hv
  have hrx : Rep w8 (fun c => W5.heap.size ≤ c ∧ c < w7.heap.size) dx x (nd x A7 c7) := hl7.rep.keep fun c hc => hoth c (by omega)
  obtain ⟨cs0, D0, t', hs0, hc0, hr0⟩ := hf.back w8 x (nd x A7 c7) dx _ hag hcl hrx
  obtain ⟨A9, c9, e, _⟩ := hr0.form
  rw [e] at hc0 hr0
  refine ⟨A9, c9, D0, t', hs0, hc0, hr0.mono fun c hc => ?_, ?_, (hoth _ (by omega)).trans (hO.below hb7 hO.lt)⟩
  · rcases hc with hc | hc
    · exact ⟨hc.1, by omega⟩
    · exact ⟨by omega, by omega⟩
  · rw [hw8]
    exact below_setRow (hb7.mono (by omega)) hbl.1 _

set_option maxRecDepth 100000 in
set_option maxHeartbeats 4000000 in
theorem tset_is (d dx : Nat) (t x : T) (S S' Sx : Nat → Prop) (A X : Option Addr) (c xc : Nat) (w : World) (p : List Int) (P : Option Addr) (pc : Nat) (ht : Rep w S d t (nd t A c)) (hx : Rep w Sx dx x (nd x X xc)) (hp : Rd w S' 1 P p.length (vi p)) (hin : In S w.heap.size) (hinx : In Sx w.heap.size) (hin' : In S' w.heap.size) (hst : size t ≤ 1000000) (hsx : size x ≤ 1000000) (hpc : p.length ≤ pc) (hpl : p.length ≤ 9223372036854775807) :
    Calls Tryd.prog 52 #[.agg #[.int .i64 t.k, .int .i64 t.n, .int .i64 t.m, .slice A t.kids.length c], .slice P p.length pc, .agg #[.int .i64 x.k, .int .i64 x.n, .int .i64 x.m, .slice X x.kids.length xc]] w (SetMade (set? p t x) w) := by
  obtain ⟨W3, hW3⟩ : ∃ W3, W3 = ((w.alloc (.cells #[.int .i64 t.k, .int .i64 t.n, .int .i64 t.m, .slice A t.kids.length c] 26)).alloc (.cells #[.int .i64 x.k, .int .i64 x.n, .int .i64 x.m, .slice X x.kids.length xc] 26)).alloc (.cells #[.int .i64 0, .int .i64 0, .int .i64 0, .slice none 0 0] 26) := ⟨_, rfl⟩
  have hz3 : W3.heap.size = w.heap.size + 3 := by rw [hW3, size_alloc, size_alloc, size_alloc]
  have hT : Blk W3 w.heap.size 26 #[.int .i64 t.k, .int .i64 t.n, .int .i64 t.m, .slice A t.kids.length c] := by rw [hW3]; exact ((Blk.new w _ _).alloc _).alloc _
  have hX : Blk W3 (w.heap.size + 1) 26 #[.int .i64 x.k, .int .i64 x.n, .int .i64 x.m, .slice X x.kids.length xc] := by rw [hW3]; exact (Blk.new_at _ _ (by rw [size_alloc]) rfl).alloc _
  have hO : Blk W3 (w.heap.size + 1 + 1) 26 #[.int .i64 0, .int .i64 0, .int .i64 0, .slice none 0 0] := by rw [hW3]; exact Blk.new_at _ _ (by rw [size_alloc, size_alloc]) rfl
  have hB : Below w.heap.size w W3 := by rw [hW3]; exact ba (ba (below_new _ _) _) _
  have HC := Lib.hid (clone_is d t S A c W3 (ht.later hin hB) (hin.more hB.size) hst)
  have HXR := Lib.hid (hx.later hinx hB)
  have HINX := Lib.hid (hinx.more hB.size)
  have HP := Lib.hid (hp.keep (Keeps.below hin' hB))
  have HIN' := Lib.hid (hin'.more hB.size)
  have HT := Lib.hid hT
  have HX := Lib.hid hX
  have HO := Lib.hid hO
  have HB := Lib.hid hB
  have HZ3 := Lib.hid hz3
  have HW3 := Lib.hid hW3
  have HSX := Lib.hid hsx
  have HCT : Hid (∀ i y, [Value.int .i64 t.k, .int .i64 t.n, .int .i64 t.m, .slice A t.kids.length c][i]? = some y → W3.cell? ⟨w.heap.size, 0 + i, none⟩ = some y) := Lib.hid (fun i y hy => by rw [hT.cell (0 + i), Nat.zero_add]; simpa using hy)
  clear hW3 hT hX hO hB ht hx hp hin hinx hin' hsx hz3
  go_enter Tryd.func52, Tryd.ntmps52
  go_wp2_with (first
    | (refine wpList_load_mid rfl 26 (.tmp 3) rfl w.heap.size 0 rfl [.int .i64 t.k, .int .i64 t.n, .int .i64 t.m, .slice A t.kids.length c] _ (by rw [← HW3.out]; exact HCT.out) Tryd.underlying26 rfl (by rw [size_node]; rfl) ?_)
    | (go_at_call 91; rw [← HW3.out]; refine HC.out.mono ?_; rintro e w4 ⟨A4, c4, rfl, hl4, hb4⟩; have HL4 := Lib.hid hl4; have HB4 := Lib.hid hb4; clear hl4 hb4)
    | (refine wpList_store_new rfl 26 (.tmp 8) (.tmp 11) rfl w4 _ _ rfl rfl (by rw [size_node]; rfl) rfl rfl ?_))
  have hz3 := HZ3.out
  have hs4 := HB4.out.size
  obtain ⟨W5, hW5⟩ : ∃ W5, W5 = w4.alloc (.cells #[.int .i64 t.k, .int .i64 t.n, .int .i64 t.m, .slice A4 t.kids.length c4] 26) := ⟨_, rfl⟩
  have hz5 : W5.heap.size = w4.heap.size + 1 := by rw [hW5, size_alloc]
  have hb5 : Below w4.heap.size w4 W5 := by rw [hW5]; exact below_new _ _
  have hR : Blk W5 w4.heap.size 26 (nd t A4 c4).toArray := by rw [hW5]; exact Blk.new w4 _ _
  have hb35 : Below W3.heap.size W3 W5 := bt HB4.out hb5
  have h0 : FndL W5 w4.heap.size W3.heap.size w4.heap.size t [] t w4.heap.size 0 := ⟨W3.heap.size, w4.heap.size, d, nd t A4 c4, Foc.root hR (HL4.out.keep fun b _ hb => hb5.block b hb) (by omega)⟩
  have HF := Lib.hid (find_is W5 t _ (step_lin W5 w4.heap.size W3.heap.size w4.heap.size t) w4.heap.size h0 p S' P pc (HP.out.keep (Keeps.below HIN'.out hb35)) hpc hpl)
  have HO5 := Lib.hid (HO.out.below hb35 HO.out.lt)
  have hX5 := HX.out.below hb35 HX.out.lt
  have HCX : Hid (∀ i y, [Value.int .i64 x.k, .int .i64 x.n, .int .i64 x.m, .slice X x.kids.length xc][i]? = some y → W5.cell? ⟨w.heap.size + 1, 0 + i, none⟩ = some y) := Lib.hid (fun i y hy => by rw [hX5.cell (0 + i), Nat.zero_add]; simpa using hy)
  have HCL := Lib.hid (clone_is dx x Sx X xc W5 (HXR.out.later HINX.out hb35) (HINX.out.more hb35.size) HSX.out)
  have HB35 := Lib.hid hb35
  rw [← hW5]
  have HZ5 := Lib.hid hz5
  clear hW5 hb5 hR h0 hX5 hb35 hz5 hz3 hs4
  go_wp2_with (first
    | (go_at_call 92; refine HF.out.mono ?_; rintro e w6 ⟨hw6, (⟨hno, rfl⟩ | ⟨u, b, o, ⟨lo', hi', d', row, hf⟩, rfl⟩)⟩ <;> subst hw6)
    | (refine wpList_store_row rfl 26 (.tmp 6) (.tmp 16) rfl (w.heap.size + 1 + 1) #[.int .i64 0, .int .i64 0, .int .i64 0, .slice none 0 0] rfl rfl 26 #[.int .i64 0, .int .i64 0, .int .i64 0, .slice none 0 0] HO5.out (by rw [size_node]; rfl) rfl (by simp [Value.oneCell']) ?_)
    | (refine wpList_load_mid rfl 26 (.tmp 5) rfl (w.heap.size + 1) 0 rfl [.int .i64 x.k, .int .i64 x.n, .int .i64 x.m, .slice X x.kids.length xc] _ HCX.out Tryd.underlying26 rfl (by rw [size_node]; rfl) ?_)
    | (go_at_call 91; refine HCL.out.mono ?_; rintro e w7 ⟨A7, c7, rfl, hl7, hb7⟩; have HL7 := Lib.hid hl7; have HB7 := Lib.hid hb7; have HBR := Lib.hid (hf.blk.below hb7 hf.blk.lt); clear hl7 hb7)
    | (refine wpList_store_seg _ rfl 26 (.tmp 20) (.tmp 19) rfl b o (nd x A7 c7) rfl rfl 26 row HBR.out (by rw [size_node]; rfl) hf.fit (nd_one x A7 c7) ?_; intro w8 hw8; obtain ⟨A9, c9, D9, t9, hs9, hc9, hr9, hb9, ho9⟩ := set_back hf HZ3.out HB4.out.size HZ5.out HO5.out HL7.out HB7.out hw8; have HR9 := Lib.hid hr9; have HB9 := Lib.hid hb9; have HO9 := Lib.hid ho9; have HS9 := Lib.hid hs9; have HC9 := Lib.hid hc9; clear hr9 hb9 ho9 hs9 hc9 hw8)
    | (refine wpList_load_mid rfl 26 (.tmp 8) rfl w4.heap.size 0 rfl [.int .i64 t9.k, .int .i64 t9.n, .int .i64 t9.m, .slice A9 t9.kids.length c9] _ HC9.out Tryd.underlying26 rfl (by rw [size_node]; rfl) ?_)
    | (refine wpList_store_row rfl 26 (.tmp 6) (.tmp 21) rfl (w.heap.size + 1 + 1) #[.int .i64 t9.k, .int .i64 t9.n, .int .i64 t9.m, .slice A9 t9.kids.length c9] rfl rfl 26 #[.int .i64 0, .int .i64 0, .int .i64 0, .slice none 0 0] HO9.out (by rw [size_node]; rfl) rfl (by simp [Value.oneCell']) ?_))
  · have HR := Lib.hid (HO5.out.setRow #[.int .i64 0, .int .i64 0, .int .i64 0, .slice none 0 0])
    have r0 := HR.out.cell 0
    have r1 := HR.out.cell 1
    have r2 := HR.out.cell 2
    have r3 := HR.out.cell 3
    simp only [List.getElem?_toArray, List.getElem?_cons_zero, List.getElem?_cons_succ] at r0 r1 r2 r3
    have hsn := set_none_at p t x hno
    refine bodyPost_ret (v := .tuple #[.agg #[.int .i64 0, .int .i64 0, .int .i64 0, .slice none 0 0], .int .i64 6]) (by simp [results, Tryd.results52, go_sem, r0, r1, r2, r3]) rfl ⟨zeroT, none, 0, 1, by rw [hsn]; rfl, by rw [hsn]; rfl, Rep.leaf in0 in0 in0 _ _, below_setRow (bt HB.out HB35.out) (by omega) _⟩
  · have HR := Lib.hid (HO9.out.setRow #[.int .i64 t9.k, .int .i64 t9.n, .int .i64 t9.m, .slice A9 t9.kids.length c9])
    have r0 := HR.out.cell 0
    have r1 := HR.out.cell 1
    have r2 := HR.out.cell 2
    have r3 := HR.out.cell 3
    simp only [List.getElem?_toArray, List.getElem?_cons_zero, List.getElem?_cons_succ] at r0 r1 r2 r3
    have hbf := below_setRow (HB.out.trans ((HB35.out.trans HB9.out).mono HB.out.size)) (show w.heap.size ≤ w.heap.size + 1 + 1 by omega) #[.int .i64 t9.k, .int .i64 t9.n, .int .i64 t9.m, .slice A9 t9.kids.length c9]
    refine bodyPost_ret (v := .tuple #[.agg #[.int .i64 t9.k, .int .i64 t9.n, .int .i64 t9.m, .slice A9 t9.kids.length c9], .int .i64 0]) (by simp [results, Tryd.results52, go_sem, r0, r1, r2, r3]) rfl ⟨t9, A9, c9, D9, by rw [HS9.out]; rfl, by rw [HS9.out]; rfl, ?_, hbf⟩
    have hz3 := HZ3.out
    refine (HR9.out.keep (w' := w8.setRow (w.heap.size + 1 + 1) #[.int .i64 t9.k, .int .i64 t9.n, .int .i64 t9.m, .slice A9 t9.kids.length c9]) ?_).mono ?_
    · intro b hb
      exact setRow_other _ _ _ b (by omega)
    · intro b hb
      exact ⟨by omega, by rw [size_setRow]; exact hb.2⟩
end Go.Proofs.YtikinofopkjdjaaDoor
