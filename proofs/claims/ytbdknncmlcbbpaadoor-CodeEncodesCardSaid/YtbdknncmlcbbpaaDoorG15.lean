/-
  HEIGHTS, walked: the heights of a body whose operands are right.
-/
import Derived.Test.YtbdknncmlcbbpaaDoorG14
import Derived.Test.YtbdknncmlcbbpaaDoorG10
import Derived.Test.YtbdknncmlcbbpaaDoorG07
import Derived.Deep.LoopGhost
import Derived.Deep.OwnRows
set_option linter.unusedVariables false
namespace Go.Proofs.YtbdknncmlcbbpaaDoor
open Go.RowKit WM TR KM

/-- What heights leaves. -/
def HtsPost (o : Option (List Int)) (w : World) (e : Ending) (w' : World) : Prop :=
  match o with
  | none => e = .returned (.slice none 0 0) ∧ Below w.heap.size w w'
  | some hs => ∃ A c, e = .returned (.slice A hs.length c) ∧ w'.ownsRow w.heap.size 3 1 (.slice A hs.length c) hs.length (vi hs) ∧ Below w.heap.size w w'
/-- What is asked of the operands. -/
structure Good8 (body : List Ins) : Prop where
  op : ∀ i, i < body.length → 0 ≤ (insAt body i).op ∧ (insAt body i).op < 19
  b : ∀ i, i < body.length → (effAt (insAt body i).op).2.1 = true → 0 ≤ (insAt body i).b ∧ (insAt body i).b ≤ 3
  named : Named body.length body
theorem own_lower {w : World} {B B' : Nat} {e : TypeId} {size n : Nat} {v : Value} {xs : List Value} (h : w.ownsRow B e size v n xs) (hB : B' ≤ B) : w.ownsRow B' e size v n xs := by
  refine ⟨h.1, ?_⟩
  rcases h.2 with h2 | ⟨g, cap, cur, hv, hb, hr⟩
  · exact .inl h2
  · exact .inr ⟨g, cap, cur, hv, Nat.le_trans hB hb, hr⟩
/-- What holds at the loop's head. -/
structure Spr (body : List Ins) (B : Nat) (w wr : World) (bS g n : Nat) (vb : Value) (k : Nat) (st : St) (Aw : Option Addr) (cw : Nat) : Prop where
  ht : HtW B wr B bS (bS + 1) g n vb n st Aw cw
  wf : Wf n st
  run_ : run body k st = hSt body
  mu_ : mu st ≤ k
  kb : k ≤ n + 1
  below : Below w.heap.size w wr
  size : bS + 2 ≤ wr.heap.size
/-- Within a round: the state, and the round's own variables. -/
structure Rnd (B : Nat) (w W : World) (bS g n : Nat) (vb : Value) (g8 g9 g10 : Nat) (xi : Ins) (ds es : Array Value) (st : St) (A : Option Addr) (c : Nat) : Prop where
  ht : HtW B W B bS (bS + 1) g n vb n st A c
  x8 : Blk W g8 54 #[.int .i64 xi.op, .int .i64 xi.a, .int .i64 xi.b]
  x9 : Blk W g9 117 ds
  x10 : Blk W g10 117 es
  far : g < g9 ∧ g < g10
  below : Below w.heap.size w W
  size : bS + 2 ≤ W.heap.size
theorem Rnd.give {B : Nat} {w W W' : World} {bS g n : Nat} {vb : Value} {g8 g9 g10 : Nat} {xi : Ins} {ds es : Array Value} {st : St} {A : Option Addr} {c i : Nat} {s : Sh} {e : Ending} (h : Rnd B w W bS g n vb g8 g9 g10 xi ds es st A c) (hB : w.heap.size ≤ B) (hg : GivePost B B bS (bS + 1) g n vb n st A c i s W e W') :
    e = .returned (.bool (KM.give st.sh st.wk i s).ok) ∧ ∃ A' c', Rnd B w W' bS g n vb g8 g9 g10 xi ds es (KM.give st.sh st.wk i s) A' c' := by
  obtain ⟨A', c', he, h1, hb, hsz, hk⟩ := hg
  obtain ⟨cur, hcur, _⟩ := h.ht.rowS
  have t1 : (54 : TypeId) ≠ 22 ∧ (54 : TypeId) ≠ 117 ∧ (3 : TypeId) ≠ 54 ∧ (3 : TypeId) ≠ 117 := by decide
  refine ⟨he, A', c', h1, (hk g8 h.x8.lt (Blk.ne_ h.x8 hcur t1.2.1) (Blk.ne_ h.x8 h.ht.blkW t1.1) (own_blk_ne h.ht.ownW h.x8 t1.2.2.1)).trans h.x8, (hk g9 h.x9.lt (by have := h.far.1; omega) (Blk.ne_ h.x9 h.ht.blkW tyS.1) (own_blk_ne h.ht.ownW h.x9 t1.2.2.2)).trans h.x9, (hk g10 h.x10.lt (by have := h.far.2; omega) (Blk.ne_ h.x10 h.ht.blkW tyS.1) (own_blk_ne h.ht.ownW h.x10 t1.2.2.2)).trans h.x10, h.far, h.below.trans (hb.mono hB), Nat.le_trans h.size hsz⟩
/-- The state when the next instruction has been given its shape. -/
def s1of (o : Option Sh) (xi : Ins) (sh : List Sh) (ys : List Nat) (i : Nat) : St :=
  match o with
  | none => ⟨false, sh, ys⟩
  | some t => giveIf (!ends xi) ⟨true, sh, ys⟩ (i + 1) t
theorem giveIf_not {b : Bool} {st : St} {i : Nat} {s : Sh} (h : st.ok = false) : giveIf b st i s = st := by unfold giveIf; rw [h]; simp
theorem one_eq {body : List Ins} {sh : List Sh} {wk ys : List Nat} {i : Nat} {xi : Ins} {cur : Sh} {o : Option Sh} (h1 : wk = ys ++ [i]) (h2 : insAt body i = xi) (h3 : shAt sh i = cur) (h4 : after xi cur = o) :
    one body sh wk = giveIf (decide (xi.op = 12)) (giveIf (decide (xi.op = 7 ∨ xi.op = 8)) (s1of o xi sh ys i) xi.a.toNat (o.getD zeroS)) xi.a.toNat cur := by
  unfold one
  rw [h1, List.getLast?_append, List.getLast?_singleton, List.dropLast_concat]
  simp only [Option.some_or]
  rw [h2, h3, h4]
  cases o with
  | none => rw [giveIf_not (st := s1of none xi sh ys i) rfl, giveIf_not rfl]; rfl
  | some t => rfl
theorem give_wk (sh : List Sh) (wk : List Nat) (i : Nat) (s : Sh) : (KM.give sh wk i s).wk.length ≤ wk.length + 1 := by
  unfold KM.give
  split
  · exact Nat.le_succ _
  · split
    · simp
    · exact Nat.le_succ _
theorem giveIf_wk (b : Bool) (st : St) (i : Nat) (s : Sh) : (giveIf b st i s).wk.length ≤ st.wk.length + 1 := by
  unfold giveIf
  split
  · exact give_wk _ _ _ _
  · exact Nat.le_succ _
theorem Rnd.ok {B : Nat} {w W : World} {bS g n : Nat} {vb : Value} {g8 g9 g10 : Nat} {xi : Ins} {ds es : Array Value} {st st' : St} {A : Option Addr} {c : Nat} (h : Rnd B w W bS g n vb g8 g9 g10 xi ds es st A c) (h1 : st'.sh = st.sh) (h2 : st'.wk = st.wk) : Rnd B w W bS g n vb g8 g9 g10 xi ds es st' A c := by
  obtain ⟨b, sh, wk⟩ := st
  obtain ⟨b', sh', wk'⟩ := st'
  simp only at h1 h2
  subst h1
  subst h2
  exact ⟨⟨h.ht.blkB, h.ht.blkS, h.ht.blkW, h.ht.ownS, h.ht.ownW, h.ht.a33, h.ht.len, h.ht.low⟩, h.x8, h.x9, h.x10, h.far, h.below, h.size⟩
theorem Spr.next {body : List Ins} {B : Nat} {w wr W : World} {bS g n : Nat} {vb : Value} {k : Nat} {st s3 : St} {Aw A : Option Addr} {cw c : Nat} {g8 g9 g10 : Nat} {xi : Ins} {ds es : Array Value} (h : Spr body B w wr bS g n vb k st Aw cw) (hn : body.length = n) (hnm : Named body.length body) (hok : st.ok = true) (hwk : st.wk ≠ []) (hone : one body st.sh st.wk = s3)
    (r : Rnd B w W bS g n vb g8 g9 g10 xi ds es s3 A c) : ∃ k', k = k' + 1 ∧ Spr body B w W bS g n vb k' s3 A c := by
  subst hn
  obtain ⟨o1, o2, _, _⟩ := one_ok h.wf hnm hwk
  rw [hone] at o1 o2
  have hm : more st = true := by
    unfold more
    rw [hok]
    cases hw : st.wk with
    | nil => exact absurd hw hwk
    | cons a l => rfl
  obtain ⟨k', e1, e2⟩ := run_from (body := body) hm h.mu_ hwk
  rw [hone] at e2
  exact ⟨k', e1, r.ht, o1, by rw [← e2]; exact h.run_, by have := h.mu_; omega, by have := h.kb; omega, r.below, r.size⟩
/-- The heights written so far. -/
def outTo (hs : List Int) (n j : Nat) : List Int := hs.take j ++ List.replicate (n - j) 0
theorem outTo_set (hs : List Int) (n j : Nat) (hl : hs.length = n) (hj : j < n) (v : Int) (hv : hs[j]? = some v) : (vi (outTo hs n j)).set j (.int .i64 v) = vi (outTo hs n (j + 1)) := by
  unfold outTo vi
  have e : List.take (j + 1) hs = List.take j hs ++ [v] := by rw [List.take_add_one, hv]; rfl
  rw [e, List.map_append, List.map_append, List.set_append_right _ _ (by simp; omega), List.length_map, List.length_take, Nat.min_eq_left (by omega), Nat.sub_self]
  rw [show n - j = (n - (j + 1)) + 1 by omega, List.replicate_succ]
  simp
/-- The last piece of work, taken. -/
theorem HtW.pop {B : Nat} {w : World} {bB bS bW aS n : Nat} {vb : Value} {cS : Nat} {st : St} {Aw : Option Addr} {cw i : Nat} {ys : List Nat} (h : HtW B w bB bS bW aS n vb cS st Aw cw) (hy : st.wk = ys ++ [i]) :
    ∃ aw, Aw = some ⟨aw, 0, none⟩ ∧ ys.length + 1 ≤ cw ∧ w.cell? ⟨aw, ys.length, none⟩ = some (.int .i64 (i : Int)) ∧ HtW B (w.setCell ⟨bW, 0, none⟩ (.slice (some ⟨aw, 0, none⟩) ys.length cw)) bB bS bW aS n vb cS ⟨true, st.sh, ys⟩ (some ⟨aw, 0, none⟩) cw := by
  obtain ⟨n1, n2, n3, n4, n5⟩ := h.neS
  have hl : st.wk.length = ys.length + 1 := by rw [hy]; simp
  have ho := h.ownW
  have hbw := h.blkW
  rw [hl] at ho hbw
  rcases ho.2 with ⟨hv, hn⟩ | ⟨aw, cap, cur, hv, hb, hh, hnc, hm, hs, ht⟩
  · omega
  · injection hv with e1 e2 e3
    subst e1
    subst e3
    have hne : aw ≠ bW := (h.neW aw rfl).1
    have hvi : vi (st.wk.map fun i : Nat => (i : Int)) = vi (ys.map fun i : Nat => (i : Int)) ++ [.int .i64 (i : Int)] := by rw [hy]; simp [vi]
    have hc := ho.cells (g := aw) rfl ys.length (.int .i64 (i : Int)) (by rw [hvi, List.getElem?_append_right (by simp [vi])]; simp [vi])
    rw [Addr.add_lit, Nat.zero_add] at hc
    refine ⟨aw, rfl, hnc, hc, h.blkB.far (by show bB ≠ bW; omega) _, h.blkS.far (by show bS ≠ bW; omega) _, ?_, ownsRow_setCell_other h.ownS (fun e => by have : aS = bW := Option.some.inj e; omega) _, ?_, h.a33, h.len, h.low⟩
    · have := hbw.set_ 0 (.slice (some ⟨aw, 0, none⟩) ys.length cw)
      simpa using this
    · refine ⟨by simp [vi], .inr ⟨aw, cw, cur, rfl, hb, (Below.heap_setCell w ⟨bW, 0, none⟩ _ aw hne).trans hh, by show ys.length ≤ cw; omega, hm, hs, ?_⟩⟩
      show List.take (ys.length * 1) cur.toList = vi (ys.map fun i : Nat => (i : Int))
      rw [hvi] at ht
      have h2 := congrArg (List.take (ys.length * 1)) ht
      rw [List.take_take, Nat.min_eq_left (by omega), List.take_append_of_le_length (by simp [vi]), List.take_of_length_le (l := vi (ys.map fun i : Nat => (i : Int))) (by simp [vi])] at h2
      exact h2
theorem cutW (aw m cw : Nat) (hm : m + 1 ≤ cw) : ∀ W : World, (Instr.sliceAt 22 (.slice (some ⟨aw, 0, none⟩) (m + 1) cw) none (some (.int .i64 (m : Int))) none).run Tryd.prog W = .ok (.slice (some ⟨aw, 0, none⟩) m cw) W := by
  intro W
  rw [run_sliceAt_slice W 22 _ _ _ _ ints_slice, run_slice_h W 22 (some ⟨aw, 0, none⟩) (m + 1) cw ints_slice .i64 m (by omega) (by omega), ints_elem, size3]
  have h2 : ¬ cw = 0 := by omega
  simp [sliced, h2, Addr.add]
/-- A store of a shape, kept shut. -/
def stS (p v : Value) : Sem Unit := Instr.storeAt 117 p v
theorem shutSt (p v : Value) : Instr.storeAt 117 p v = stS p v := rfl
theorem blk_putAll {g : Nat} {t : TypeId} : ∀ (vs : List Value) (o : Nat) (w : World) (cs : Array Value), Blk w g t cs → Blk (w.setCells g o vs) g t (putAll cs.toList o vs).toArray
  | [], _, _, cs, h => by simpa [putAll, World.setCells] using h
  | v :: vs, o, w, cs, h => by
    have h2 := blk_putAll vs (o + 1) _ _ (h.set_ o v)
    rw [Array.toList_setIfInBounds] at h2
    exact h2
theorem run_stS {W : World} {g : Nat} {cs ds : Array Value} (h : Blk W g 117 cs) (hc : cs.size = 34) (hd : ds.size = 34) (h1 : ds.all (·.oneCell') = true) : (stS (.pointer (some ⟨g, 0, none⟩)) (.agg ds)).run Tryd.prog W = .ok () (W.setCells g 0 ds.toList) :=
  run_storeAt_mid W g 0 117 ds (fun j hj => by
    rw [Nat.zero_add]
    exact ⟨by rw [h.cell j, Array.getElem?_eq_getElem (by omega)]; rfl, h.frozen j⟩) (by rw [size_sh, hd]) h1
theorem blk_stS {W : World} {g : Nat} {cs ds : Array Value} (h : Blk W g 117 cs) (hc : cs.size = 34) (hd : ds.size = 34) : Blk (W.setCells g 0 ds.toList) g 117 ds := by
  have h2 := blk_putAll ds.toList 0 W cs h
  have h3 := putAll_all cs.toList [] ds.toList (by simp [hc, hd])
  rw [List.append_nil, List.append_nil] at h3
  rw [h3] at h2
  simpa using h2
attribute [local go_sem ↓] shutSt
attribute [local go_sem ↓] shutS
set_option maxRecDepth 100000 in
set_option maxHeartbeats 16000000 in
theorem heights_is (body : List Ins) (hg8 : Good8 body) (Ab : Option Addr) (cb : Nat) (w : World) (hb : Rd w (fun b => b < w.heap.size) 3 Ab body.length (insCs body)) (hn : 1 ≤ body.length ∧ body.length ≤ 2048) (hT : ET w) (hgt : 0 < w.heap.size) :
    Calls Tryd.prog 62 #[.slice Ab body.length cb] w (HtsPost (hts body) w) := by
  obtain ⟨n, hnn⟩ : ∃ n, body.length = n := ⟨_, rfl⟩
  obtain ⟨B, hB⟩ : ∃ B, B = w.heap.size := ⟨_, rfl⟩
  obtain ⟨W1, hW1⟩ : ∃ W1, W1 = (w.alloc (.cells #[.slice Ab n cb] 49)).alloc (.cells (shC noS).toArray 117) := ⟨_, rfl⟩
  have hb1 : Below w.heap.size w W1 := by rw [hW1]; exact ba (below_new _ _) _
  have hs1 : W1.heap.size = B + 2 := by rw [hW1, hB]; simp
  have hvB : Blk W1 B 49 #[.slice Ab n cb] := by rw [hW1, hB]; exact (Blk.new _ _ _).alloc _
  have hx1 : Blk W1 (B + 1) 117 (shC noS).toArray := by rw [hW1, hB, ← size_alloc w (.cells #[.slice Ab n cb] 49)]; exact Blk.new _ _ _
  have HRP : Hid (Calls Tryd.prog 74 #[.slice (some ⟨B + 1, 0, none⟩) 1 1, .int .i64 (n : Int)] W1 fun e w' => ∃ g, e = .returned (.slice (some ⟨g, 0, none⟩) n n) ∧ W1.heap.size ≤ g ∧ w'.ownsRow W1.heap.size 117 34 (.slice (some ⟨g, 0, none⟩) n n) n (shCs (nos n)) ∧ Below W1.heap.size W1 w') := Lib.hid (rpt_is (B + 1) n W1 hx1 (by omega))
  have b0 := hvB.cell 0
  simp only [List.getElem?_toArray, List.getElem?_cons_zero] at b0
  have HVB := Lib.hid hvB
  have HBL1 := Lib.hid hb1
  have HS1 := Lib.hid hs1
  obtain ⟨W0, hW0⟩ : ∃ W0, W0 = w.alloc (.cells #[.slice Ab n cb] 49) := ⟨_, rfl⟩
  have HW0 := Lib.hid hW0
  have HS0 : Hid (W0.heap.size = B + 1) := Lib.hid (by rw [hW0, hB]; simp)
  have HW1 : Hid (W1 = W0.alloc (.cells #[.int .i64 (-1), .int .i16 0, .int .i16 0, .int .i16 0, .int .i16 0, .int .i16 0, .int .i16 0, .int .i16 0, .int .i16 0, .int .i16 0, .int .i16 0, .int .i16 0, .int .i16 0, .int .i16 0, .int .i16 0, .int .i16 0, .int .i16 0, .int .i16 0, .int .i16 0, .int .i16 0, .int .i16 0, .int .i16 0, .int .i16 0, .int .i16 0, .int .i16 0, .int .i16 0, .int .i16 0, .int .i16 0, .int .i16 0, .int .i16 0, .int .i16 0, .int .i16 0, .int .i16 0, .int .i16 0] 117)) := Lib.hid (by rw [hW0]; exact hW1)
  have b00 : (W0.alloc (.cells #[.int .i64 (-1), .int .i16 0, .int .i16 0, .int .i16 0, .int .i16 0, .int .i16 0, .int .i16 0, .int .i16 0, .int .i16 0, .int .i16 0, .int .i16 0, .int .i16 0, .int .i16 0, .int .i16 0, .int .i16 0, .int .i16 0, .int .i16 0, .int .i16 0, .int .i16 0, .int .i16 0, .int .i16 0, .int .i16 0, .int .i16 0, .int .i16 0, .int .i16 0, .int .i16 0, .int .i16 0, .int .i16 0, .int .i16 0, .int .i16 0, .int .i16 0, .int .i16 0, .int .i16 0, .int .i16 0] 117)).cell? ⟨B, 0, none⟩ = some (.slice Ab n cb) := by rw [← HW1.out]; exact b0
  have HBB := Lib.hid hB
  have HNN := Lib.hid hnn
  have HRD := Lib.hid hb
  have HG8 := Lib.hid hg8
  have HT := Lib.hid hT
  have HGT := Lib.hid hgt
  rw [hnn] at hn ⊢
  clear b0 hW0 hW1 hb1 hs1 hvB hx1 hB hnn hb hg8 hT hgt
  go_enter Tryd.func62, Tryd.ntmps62
  go_upto_region 1 with fail
  rw [← HW0.out, ← HBB.out]
  go_upto_region 2 with (first | (go_at_call 74; go_loud (rw [HS0.out, ← HW1.out]; refine HRP.out.mono ?_; rintro e w2 ⟨g, rfl, hg1, hown, hb2⟩)))
  obtain ⟨bS, hbS⟩ : ∃ b, b = w2.heap.size := ⟨_, rfl⟩
  obtain ⟨W4, hW4⟩ : ∃ W4, W4 = (w2.alloc (.cells #[.slice (some ⟨g, 0, none⟩) n n] 112)).alloc (.cells #[.slice none 0 0] 22) := ⟨_, rfl⟩
  have h24 : Below w2.heap.size w2 W4 := by rw [hW4]; exact ba (below_new _ _) _
  have HH4 : Hid (HtW B W4 B bS (bS + 1) g n (.slice Ab n cb) n ⟨true, nos n, []⟩ none 0) := Lib.hid (by
    have hs2 := hb2.size
    have hs1 := HS1.out
    refine ⟨(HVB.out.below hb2 HVB.out.lt).below h24 (by have := HVB.out.lt; omega), ?_, ?_, own_lower (ownsRow_below hown h24) (by omega), World.ownsRow_nil _ _ _ _, nos33 n, by simp [nos], Nat.le_refl _, by omega, by omega⟩
    · rw [hW4, hbS]; exact (Blk.new _ _ _).alloc _
    · rw [hW4, hbS, ← size_alloc w2 (.cells #[.slice (some ⟨g, 0, none⟩) n n] 112)]; exact Blk.new _ _ _)
  have HBW4 : Hid (Below w.heap.size w W4) := Lib.hid (bt (bt HBL1.out hb2) h24)
  have HSZ4 : Hid (bS + 2 ≤ W4.heap.size ∧ B + 2 ≤ bS) := Lib.hid (by
    rw [hW4, hbS]
    have := hb2.size
    have := HS1.out
    simp
    omega)
  have HGV : Hid (Calls Tryd.prog 75 #[.int .i64 0, .agg #[.int .i64 0, .int .i16 0, .int .i16 0, .int .i16 0, .int .i16 0, .int .i16 0, .int .i16 0, .int .i16 0, .int .i16 0, .int .i16 0, .int .i16 0, .int .i16 0, .int .i16 0, .int .i16 0, .int .i16 0, .int .i16 0, .int .i16 0, .int .i16 0, .int .i16 0, .int .i16 0, .int .i16 0, .int .i16 0, .int .i16 0, .int .i16 0, .int .i16 0, .int .i16 0, .int .i16 0, .int .i16 0, .int .i16 0, .int .i16 0, .int .i16 0, .int .i16 0, .int .i16 0, .int .i16 0], .pointer (some ⟨B, 0, none⟩), .pointer (some ⟨bS, 0, none⟩), .pointer (some ⟨bS + 1, 0, none⟩)] W4 (GivePost B B bS (bS + 1) g n (.slice Ab n cb) n ⟨true, nos n, []⟩ none 0 0 zeroS W4)) := Lib.hid (give_is HH4.out 0 (by omega) zeroS (by simp [zeroS, zs33]) (by omega) (by simp) (by have := HBW4.out.size; have := HBB.out; omega))
  have HW4 := Lib.hid hW4
  have HBS := Lib.hid hbS
  clear hbS hW4 h24 hown hb2 hg1 b00
  go_upto_region 4 with fail
  rw [← HW4.out, ← HBS.out]
  go_upto_region 5 with (first | (go_at_call 75; refine HGV.out.mono ?_; rintro e w5 ⟨A5, c5, rfl, h5, hb5, hs5, _⟩))
  obtain ⟨st0, hst0⟩ : ∃ st, st = KM.start n := ⟨_, rfl⟩
  have hgv : give (St.mk true (nos n) []).sh (St.mk true (nos n) []).wk 0 zeroS = st0 := by rw [hst0]; rfl
  rw [hgv] at h5 ⊢
  have HSP : Hid (Spr body B w w5 bS g n (.slice Ab n cb) (n + 1) st0 A5 c5) := Lib.hid (by
    obtain ⟨s1, s2, s3, s4⟩ := start_ok n
    refine ⟨h5, by rw [hst0]; exact s1, by rw [hst0, ← HNN.out]; rfl, by rw [hst0, s2]; omega, Nat.le_refl _, ?_, by have := HSZ4.out; omega⟩
    exact HBW4.out.trans (by rw [← HBB.out]; exact hb5))
  clear hgv hst0 h5 hb5 hs5
  go_loopg [6] (n + 1) (fun k s wr => ∃ (st : St) (Aw : Option Addr) (cw : Nat), s = .bool st.ok ∧ Hid (Spr body B w wr bS g n (.slice Ab n cb) k st Aw cw))
  case atStart => exact ⟨st0, A5, c5, rfl, HSP.out⟩
  case round =>
    obtain ⟨st, Aw, cw, rfl, HP⟩ := hrel
    clear HSP HGV HRP HH4
    have w0 : wr.cell? ⟨bS + 1, 0, none⟩ = some (.slice Aw st.wk.length cw) := HP.out.ht.blkW.cell 0
    cases hok : st.ok
    · go_wp2_with fail
      go_ret
      have HNO : hts body = none := by
        have h1 : run body gk st = st := run_stop (by unfold more; rw [hok]; rfl) _
        have h2 := HP.out.run_
        rw [h1] at h2
        unfold hts
        show (if (hSt body).ok = true then some ((hSt body).sh.map (·.h)) else none) = _
        rw [← h2, hok]
        rfl
      rw [HNO]
      exact ⟨rfl, HP.out.below⟩
    · by_cases hwk : st.wk = []
      · obtain ⟨hs, hhs⟩ : ∃ hs, hs = st.sh.map (·.h) := ⟨_, rfl⟩
        have hsl : hs.length = n := by rw [hhs, List.length_map]; exact HP.out.ht.len
        have HSM : Hid (hts body = some hs) := Lib.hid (by
          have h1 : run body gk st = st := run_stop (by unfold more; rw [hok, hwk]; rfl) _
          have h2 := HP.out.run_
          rw [h1] at h2
          unfold hts
          show (if (hSt body).ok = true then some ((hSt body).sh.map (·.h)) else none) = _
          rw [← h2, hok, if_pos rfl, hhs])
        have HHS : Hid (∀ j, j < n → hs[j]? = some (shAt st.sh j).h) := Lib.hid (fun j hj => by rw [hhs]; exact map_h _ _ (by rw [HP.out.ht.len]; exact hj))
        have HSL := Lib.hid hsl
        have hz0 : st.wk.length = 0 := by rw [hwk]; rfl
        rw [hz0] at w0
        have b0 : wr.cell? ⟨B, 0, none⟩ = some (.slice Ab n cb) := HP.out.ht.blkB.cell 0
        obtain ⟨oB, hoB⟩ : ∃ o, o = wr.heap.size := ⟨_, rfl⟩
        obtain ⟨Wm, hWm⟩ : ∃ Wm, Wm = wr.alloc (.cells (madeCells #[.int .i64 0] n) 3) := ⟨_, rfl⟩
        have hmk := run_make_row' (P := Tryd.prog) 22 3 (.int .i64 0) 8 Tryd.underlying22 int_info1 rfl .i64 .i64 n (by omega) (by omega) wr
        rw [← hWm, ← hoB] at hmk
        have hbm : Below wr.heap.size wr Wm := by rw [hWm]; exact below_new _ _
        have s0 : Wm.cell? ⟨bS, 0, none⟩ = some (.slice (some ⟨g, 0, none⟩) n n) := (HP.out.ht.next hbm).blkS.cell 0
        have HOW : Hid (Wm.ownsRow wr.heap.size 3 1 (.slice (some ⟨oB, 0, none⟩) n n) n (vi (outTo hs n 0))) := Lib.hid (by
          have e : (madeCells #[.int .i64 0] n).toList = vi (outTo hs n 0) := by
            unfold madeCells outTo vi
            simp [Nat.mod_one]
            apply List.ext_getElem
            · simp
            · intro k h1 h2
              simp
          refine ⟨by simp [vi, outTo], .inr ⟨oB, n, _, rfl, Nat.le_of_eq hoB.symm, by rw [hWm, hoB]; exact heap_alloc_new _ _, Nat.le_refl _, by unfold maxLen; omega, by rw [size_madeCells]; omega, ?_⟩⟩
          rw [← e, List.take_of_length_le (by rw [Array.length_toList, size_madeCells]; omega)])
        have HBM := Lib.hid hbm
        have HOB := Lib.hid hoB
        clear hwk hhs hsl hz0 hWm hbm hoB hok
        go_wp2_with fail
        go_loopw [100] (fun s wq => ∃ j : Nat, j ≤ n ∧ s = .int .i64 j ∧ Hid (wq.ownsRow wr.heap.size 3 1 (.slice (some ⟨oB, 0, none⟩) n n) n (vi (outTo hs n j)) ∧ Below wr.heap.size wr wq)) (fun s _ => n - (intOf s).toNat)
        case atStart => exact ⟨0, Nat.zero_le _, rfl, HOW.out, HBM.out⟩
        case round =>
          rename World => wq
          obtain ⟨j, hj, rfl, HJ⟩ := hrel
          clear w0 b0 s0 hmk HOW
          by_cases hlt : j < n
          · have hlt2 : (j : Int) < n := by omega
            have hjb : (0 : Int) ≤ (j : Int) ∧ (j : Int) < (n : Int) := ⟨by omega, hlt2⟩
            obtain ⟨sj, hsj⟩ : ∃ q, shAt st.sh j = q := ⟨_, rfl⟩
            have hgd := (HP.out.wf.good j).2
            rw [hsj] at hgd
            obtain ⟨es, hes⟩ : ∃ es, es = (shC sj).toArray := ⟨_, rfl⟩
            have hld := (HP.out.ht.next HJ.out.2).shut hlt
            rw [hsj, ← hes] at hld
            have hesz : es.size = 34 := by rw [hes, List.size_toArray, shC_length, hgd]
            have hes1 : es.all (·.oneCell') = true := by rw [hes]; exact all_oneCell_toArray (shC_one _)
            have ha3 := Blk.new wq 117 #[.int .i64 0, .int .i16 0, .int .i16 0, .int .i16 0, .int .i16 0, .int .i16 0, .int .i16 0, .int .i16 0, .int .i16 0, .int .i16 0, .int .i16 0, .int .i16 0, .int .i16 0, .int .i16 0, .int .i16 0, .int .i16 0, .int .i16 0, .int .i16 0, .int .i16 0, .int .i16 0, .int .i16 0, .int .i16 0, .int .i16 0, .int .i16 0, .int .i16 0, .int .i16 0, .int .i16 0, .int .i16 0, .int .i16 0, .int .i16 0, .int .i16 0, .int .i16 0, .int .i16 0, .int .i16 0]
            have hst3 := run_stS ha3 rfl hesz hes1
            have hf3 := blk_stS ha3 rfl hesz
            obtain ⟨z, hz⟩ : ∃ z, z = wq.heap.size := ⟨_, rfl⟩
            obtain ⟨W5, hW5⟩ : ∃ W, W = (wq.alloc (.cells #[.int .i64 0, .int .i16 0, .int .i16 0, .int .i16 0, .int .i16 0, .int .i16 0, .int .i16 0, .int .i16 0, .int .i16 0, .int .i16 0, .int .i16 0, .int .i16 0, .int .i16 0, .int .i16 0, .int .i16 0, .int .i16 0, .int .i16 0, .int .i16 0, .int .i16 0, .int .i16 0, .int .i16 0, .int .i16 0, .int .i16 0, .int .i16 0, .int .i16 0, .int .i16 0, .int .i16 0, .int .i16 0, .int .i16 0, .int .i16 0, .int .i16 0, .int .i16 0, .int .i16 0, .int .i16 0] 117)).setCells wq.heap.size 0 es.toList := ⟨_, rfl⟩
            have hb5 : Below wq.heap.size wq W5 := by rw [hW5]; exact below_setCells (Nat.le_refl _) _ _ _ (below_new _ _)
            have ho5 := ownsRow_below HJ.out.1 hb5
            rw [← hW5, ← hz] at hf3
            have z0 : W5.cell? ⟨z, 0, none⟩ = some (.int .i64 sj.h) := by rw [hf3.cell 0, hes]; rfl
            obtain ⟨u, hu⟩ : ∃ u, (outTo hs n j)[j]? = some u := ⟨_, List.getElem?_eq_getElem (by unfold outTo; have := HSL.out; simp; omega)⟩
            have o0 : W5.cell? ⟨oB, j, none⟩ = some (.int .i64 u) := by
              have h1 := ho5.cells (g := oB) rfl j (.int .i64 u) (by unfold vi; rw [List.getElem?_map, hu]; rfl)
              rwa [Addr.add_lit, Nat.zero_add] at h1
            have of0 : W5.frozen? ⟨oB, j, none⟩ = false := ho5.frozenAt j
            have HNX : Hid ((W5.setCell ⟨oB, j, none⟩ (.int .i64 sj.h)).ownsRow wr.heap.size 3 1 (.slice (some ⟨oB, 0, none⟩) n n) n (vi (outTo hs n (j + 1))) ∧ Below wr.heap.size wr (W5.setCell ⟨oB, j, none⟩ (.int .i64 sj.h))) := Lib.hid (by
              refine ⟨?_, (bt HJ.out.2 hb5).setCell (p := ⟨oB, j, none⟩) (Nat.le_of_eq HOB.out.symm) _⟩
              rw [← outTo_set hs n j HSL.out hlt sj.h (by rw [HHS.out j hlt, hsj])]
              exact (ho5.stored j _).1)
            have HW5 := Lib.hid hW5
            have HZ5 := Lib.hid hz
            clear ha3 hf3 hu ho5 hb5 hW5 hz hes hes1 hesz hsj hgd
            go_upto_region 23 with fail
            rw [← HW5.out, ← HZ5.out]
            go_wp2_with fail
            go_roundw
            case rel => exact ⟨j + 1, by omega, by go_num, HNX.out.1, HNX.out.2⟩
            case measure => simp [intOf]; omega
          · have hje : j = n := by omega
            subst hje
            go_wp2_with fail
            go_ret
            rw [HSM.out]
            have e : outTo hs j j = hs := by unfold outTo; rw [Nat.sub_self, List.take_of_length_le (by have := HSL.out; omega)]; simp
            refine ⟨some ⟨oB, 0, none⟩, j, by rw [HSL.out]; rfl, ?_, bt HP.out.below HJ.out.2⟩
            have h1 := HJ.out.1
            rw [e] at h1
            rw [HSL.out]
            exact own_lower h1 HP.out.below.size
      · obtain ⟨ys, i, hys⟩ : ∃ ys i, st.wk = ys ++ [i] := ⟨_, _, (List.dropLast_concat_getLast hwk).symm⟩
        obtain ⟨aw, rfl, hcw, hcell, hpop⟩ := HP.out.ht.pop hys
        have hl : st.wk.length = ys.length + 1 := by rw [hys]; simp
        rw [hl] at w0
        have hpos : (0 : Int) < ((ys.length + 1 : Nat) : Int) := by omega
        have hw1 : IntKind.i64.wrap ((ys.length : Int) + 1 - 1) = (ys.length : Int) := by rw [IntKind.wrap_i64]; have := HP.out.mu_; have := HP.out.kb; unfold mu at *; omega
        have hw1' : wrap64 (ys.length : Int) = (ys.length : Int) := by unfold wrap64; have := HP.out.mu_; have := HP.out.kb; unfold mu at *; omega
        have hib : (0 : Int) ≤ (ys.length : Int) ∧ (ys.length : Int) < (ys.length : Int) + 1 := ⟨by omega, by omega⟩
        have hcut := cutW aw ys.length cw hcw
        have HPOP := Lib.hid hpop
        have HYS := Lib.hid hys
        have HFW := HP.out.ht.blkW.frozen 0
        clear hpop hys hwk hl
        go_upto_region 8 with fail
        obtain ⟨Wp, hWp⟩ : ∃ Wp, Wp = wr.setCell ⟨bS + 1, 0, none⟩ (.slice (some ⟨aw, 0, none⟩) ys.length cw) := ⟨_, rfl⟩
        have HQ : Hid (HtW B Wp B bS (bS + 1) g n (.slice Ab n cb) n ⟨true, st.sh, ys⟩ (some ⟨aw, 0, none⟩) cw) := Lib.hid (by rw [hWp]; exact HPOP.out)
        have HWP : Hid (Below w.heap.size w Wp ∧ bS + 2 ≤ Wp.heap.size) := Lib.hid (by
          rw [hWp]
          exact ⟨HP.out.below.setCell (p := ⟨bS + 1, 0, none⟩) (by have := HSZ4.out; have := HBB.out; show w.heap.size ≤ bS + 1; omega) _, by rw [World.size_setCell]; exact HP.out.size⟩)
        rw [← hWp]
        have hin : i < n := (HP.out.wf.work i (by rw [HYS.out]; simp)).1
        obtain ⟨cur, hcur⟩ : ∃ c, shAt st.sh i = c := ⟨_, rfl⟩
        have hgood := HP.out.wf.good i
        have hcn : cur.h ≠ -1 := by rw [← hcur]; exact (HP.out.wf.work i (by rw [HYS.out]; simp)).2
        rw [hcur] at hgood
        obtain ⟨ds, hds⟩ : ∃ ds, ds = (shC cur).toArray := ⟨_, rfl⟩
        have hdsz : ds.size = 34 := by rw [hds, List.size_toArray, shC_length, hgood.2]
        have hds1 : ds.all (·.oneCell') = true := by rw [hds]; exact all_oneCell_toArray (shC_one _)
        obtain ⟨ab, ob, hAb, hab, hbc⟩ := HRD.out.lit (by rw [HNN.out]; omega)
        subst hAb
        obtain ⟨xi, hxi⟩ : ∃ x, insAt body i = x := ⟨_, rfl⟩
        have hxg : body[i]? = some xi := by rw [← hxi]; unfold insAt; rw [List.getElem?_eq_getElem (by rw [HNN.out]; exact hin)]; rfl
        have HIC : Hid (∀ W', Below w.heap.size w W' → W'.cell? ⟨ab, ob + i * 3, none⟩ = some (.int .i64 xi.op) ∧ W'.cell? ⟨ab, ob + i * 3 + 1, none⟩ = some (.int .i64 xi.a) ∧ W'.cell? ⟨ab, ob + i * 3 + 2, none⟩ = some (.int .i64 xi.b)) := Lib.hid (fun W' h => by
          have e : ∀ j v, (insC xi)[j]? = some v → W'.cell? ⟨ab, ob + i * 3 + j, none⟩ = some v := fun j v hv => by
            have h1 := hbc _ _ (insCs_get body i xi hxg j v hv)
            rw [← Nat.add_assoc] at h1
            exact (h.cell (p := ⟨ab, ob + i * 3 + j, none⟩) hab).trans h1
          exact ⟨e 0 _ rfl, e 1 _ rfl, e 2 _ rfl⟩)
        have HK8 : Hid (∀ W', Below Wp.heap.size Wp W' → W'.cell? ⟨B, 0, none⟩ = some (.slice (some ⟨ab, ob, none⟩) n cb) ∧ W'.cell? ⟨bS, 0, none⟩ = some (.slice (some ⟨g, 0, none⟩) n n) ∧ W'.cell? ⟨ab, ob + i * 3, none⟩ = some (.int .i64 xi.op) ∧ W'.cell? ⟨ab, ob + i * 3 + 1, none⟩ = some (.int .i64 xi.a) ∧ W'.cell? ⟨ab, ob + i * 3 + 2, none⟩ = some (.int .i64 xi.b) ∧ (ldS (.pointer (some ⟨g, i * 34, none⟩))).run Tryd.prog W' = .ok (.agg ds) W') := Lib.hid (fun W' h => by
          have h5 := HQ.out.next h
          obtain ⟨i1, i2, i3⟩ := HIC.out W' (bt HWP.out.1 h)
          refine ⟨h5.blkB.cell 0, h5.blkS.cell 0, i1, i2, i3, ?_⟩
          have h6 := h5.shut hin
          rw [show shAt (St.mk true st.sh ys).sh i = _ from hcur, ← hds] at h6
          exact h6)
        have hbc8 : Below Wp.heap.size Wp Wp.drew := (Below.refl _ _).drew
        have hin3 : (0 : Int) ≤ (i : Int) ∧ (i : Int) < (n : Int) := ⟨by omega, by omega⟩
        obtain ⟨z, hz⟩ : ∃ z, z = Wp.heap.size := ⟨_, rfl⟩
        have ha1 : Blk ((Wp.alloc (.cells #[.int .i64 xi.op, .int .i64 xi.a, .int .i64 xi.b] 54)).alloc (.cells #[.int .i64 0, .int .i16 0, .int .i16 0, .int .i16 0, .int .i16 0, .int .i16 0, .int .i16 0, .int .i16 0, .int .i16 0, .int .i16 0, .int .i16 0, .int .i16 0, .int .i16 0, .int .i16 0, .int .i16 0, .int .i16 0, .int .i16 0, .int .i16 0, .int .i16 0, .int .i16 0, .int .i16 0, .int .i16 0, .int .i16 0, .int .i16 0, .int .i16 0, .int .i16 0, .int .i16 0, .int .i16 0, .int .i16 0, .int .i16 0, .int .i16 0, .int .i16 0, .int .i16 0, .int .i16 0] 117)).drew (z + 1) 117 #[.int .i64 0, .int .i16 0, .int .i16 0, .int .i16 0, .int .i16 0, .int .i16 0, .int .i16 0, .int .i16 0, .int .i16 0, .int .i16 0, .int .i16 0, .int .i16 0, .int .i16 0, .int .i16 0, .int .i16 0, .int .i16 0, .int .i16 0, .int .i16 0, .int .i16 0, .int .i16 0, .int .i16 0, .int .i16 0, .int .i16 0, .int .i16 0, .int .i16 0, .int .i16 0, .int .i16 0, .int .i16 0, .int .i16 0, .int .i16 0, .int .i16 0, .int .i16 0, .int .i16 0, .int .i16 0] := by rw [hz, ← size_alloc Wp (.cells #[.int .i64 xi.op, .int .i64 xi.a, .int .i64 xi.b] 54)]; exact (Blk.new _ _ _).drew
        have hst1 := run_stS ha1 rfl hdsz hds1
        have hf1 := blk_stS ha1 rfl hdsz
        have ha2 : Blk ((Wp.alloc (.cells #[.int .i64 0, .int .i16 0, .int .i16 0, .int .i16 0, .int .i16 0, .int .i16 0, .int .i16 0, .int .i16 0, .int .i16 0, .int .i16 0, .int .i16 0, .int .i16 0, .int .i16 0, .int .i16 0, .int .i16 0, .int .i16 0, .int .i16 0, .int .i16 0, .int .i16 0, .int .i16 0, .int .i16 0, .int .i16 0, .int .i16 0, .int .i16 0, .int .i16 0, .int .i16 0, .int .i16 0, .int .i16 0, .int .i16 0, .int .i16 0, .int .i16 0, .int .i16 0, .int .i16 0, .int .i16 0] 117)).alloc (.cells #[.int .i64 xi.op, .int .i64 xi.a, .int .i64 xi.b] 54)).drew z 117 #[.int .i64 0, .int .i16 0, .int .i16 0, .int .i16 0, .int .i16 0, .int .i16 0, .int .i16 0, .int .i16 0, .int .i16 0, .int .i16 0, .int .i16 0, .int .i16 0, .int .i16 0, .int .i16 0, .int .i16 0, .int .i16 0, .int .i16 0, .int .i16 0, .int .i16 0, .int .i16 0, .int .i16 0, .int .i16 0, .int .i16 0, .int .i16 0, .int .i16 0, .int .i16 0, .int .i16 0, .int .i16 0, .int .i16 0, .int .i16 0, .int .i16 0, .int .i16 0, .int .i16 0, .int .i16 0] := by rw [hz]; exact ((Blk.new _ _ _).alloc _).drew
        have hst2 := run_stS ha2 rfl hdsz hds1
        have hf2 := blk_stS ha2 rfl hdsz
        have HF1 := Lib.hid hf1
        have HF2 := Lib.hid hf2
        have HZ := Lib.hid hz
        rw [hz] at hst1 hst2
        have HDS := Lib.hid hds
        have HCUR := Lib.hid hcur
        clear ha1 ha2 hf1 hf2 hz hds1 hds
        clear hWp w0 hcell hib hcut hw1 hw1' HFW hpos hcw hbc hxg hcur
        go_cut [8, 9] from 41 to 48 (fun s8 s9 wv => ∃ (V : World) (g8 g9 : Nat), V = wv ∧ s8 = .pointer (some ⟨g8, 0, none⟩) ∧ s9 = .pointer (some ⟨g9, 0, none⟩) ∧ Hid (Wp.heap.size ≤ g8 ∧ Wp.heap.size ≤ g9 ∧ g8 ≠ g9 ∧ Blk V g8 54 #[.int .i64 xi.op, .int .i64 xi.a, .int .i64 xi.b] ∧ Blk V g9 117 ds ∧ Below Wp.heap.size Wp V))
        case first =>
          refine wp_region_noPanic ?_
          go_region_held2 (fun W' => W'.cell? ⟨B, 0, none⟩ = some (.slice (some ⟨ab, ob, none⟩) n cb) ∧ W'.cell? ⟨bS, 0, none⟩ = some (.slice (some ⟨g, 0, none⟩) n n) ∧ W'.cell? ⟨ab, ob + i * 3, none⟩ = some (.int .i64 xi.op) ∧ W'.cell? ⟨ab, ob + i * 3 + 1, none⟩ = some (.int .i64 xi.a) ∧ W'.cell? ⟨ab, ob + i * 3 + 2, none⟩ = some (.int .i64 xi.b) ∧ (ldS (.pointer (some ⟨g, i * 34, none⟩))).run Tryd.prog W' = .ok (.agg ds) W')
            (first | exact HK8.out _ hbc8 | exact HK8.out _ (ba hbc8 _) | exact HK8.out _ (ba (ba hbc8 _) _) | exact HK8.out _ (below_setCells (Nat.le_succ _) _ _ _ ((ba (below_new _ _) _).drew)) | exact HK8.out _ (below_setCells (Nat.le_refl _) _ _ _ ((ba (below_new _ _) _).drew)))
            (first | (go_at_call 999; skip))
          all_goals
            refine NoPanic.normal ?_
            go_wp2_with fail
            go_meet
            first
              | (refine ⟨_, Wp.heap.size, Wp.heap.size + 1, rfl, rfl, rfl, Nat.le_refl _, Nat.le_succ _, by omega, ?_, by have h := HF1.out; rw [HZ.out] at h; exact h, below_setCells (Nat.le_succ _) _ _ _ ((ba (below_new _ _) _).drew)⟩
                 exact (setCells_heap (Wp.heap.size + 1) _ _ _ Wp.heap.size (by omega)).trans ((Blk.new Wp 54 #[.int .i64 xi.op, .int .i64 xi.a, .int .i64 xi.b]).alloc _).drew)
              | (refine ⟨_, Wp.heap.size + 1, Wp.heap.size, rfl, rfl, rfl, Nat.le_succ _, Nat.le_refl _, by omega, ?_, by have h := HF2.out; rw [HZ.out] at h; exact h, below_setCells (Nat.le_refl _) _ _ _ ((ba (below_new _ _) _).drew)⟩
                 refine (setCells_heap Wp.heap.size _ _ _ (Wp.heap.size + 1) (by omega)).trans (Blk.drew ?_)
                 rw [← size_alloc Wp]
                 exact Blk.new _ _ _)
        case rest =>
        obtain ⟨V, g8, g9, hV, rfl, rfl, HV⟩ := hcut
        subst hV
        have hgW : g < Wp.heap.size := by obtain ⟨_, h, _⟩ := HQ.out.rowS; exact h.lt
        obtain ⟨o, ho⟩ : ∃ o, after xi cur = o := ⟨_, rfl⟩
        have hop := HG8.out.op i (by rw [HNN.out]; exact hin)
        have hbb := HG8.out.b i (by rw [HNN.out]; exact hin)
        rw [hxi] at hop hbb
        have hcg : 0 ≤ cur.h ∧ cur.h ≤ 32 := by
          rcases hgood.1 with h | h
          · exact absurd h hcn
          · exact h
        have hldV := HV.out.2.2.2.2.1
        have hgt2 : 0 < V.heap.size := Nat.lt_of_lt_of_le HGT.out (Nat.le_trans HWP.out.1.size HV.out.2.2.2.2.2.size)
        have HAF : Hid (Calls Tryd.prog 77 #[.agg ds, .agg #[.int .i64 xi.op, .int .i64 xi.a, .int .i64 xi.b]] V (AftPost o V)) := Lib.hid (by
          rw [← ho, HDS.out]
          exact after_is xi cur hop hbb hcg hgood.2 V (HT.out.below (bt HWP.out.1 HV.out.2.2.2.2.2) HGT.out) hgt2)
        obtain ⟨t, ht⟩ : ∃ t, o.getD zeroS = t := ⟨_, rfl⟩
        obtain ⟨io, hio⟩ : ∃ b, o.isSome = b := ⟨_, rfl⟩
        have HIO := Lib.hid hio
        clear hio
        have htl : t.l.length = 33 := by
          rw [← ht]
          cases o with
          | none => simp [zeroS, zs33]
          | some t => exact (after_h ho).2.2.2.trans hgood.2
        obtain ⟨es, hes⟩ : ∃ es, es = (shC t).toArray := ⟨_, rfl⟩
        have hesz : es.size = 34 := by rw [hes, List.size_toArray, shC_length, htl]
        have hes1 : es.all (·.oneCell') = true := by rw [hes]; exact all_oneCell_toArray (shC_one _)
        have hld9 := Blk.load_sh hgood.2 (by rw [← HDS.out]; exact hldV)
        rw [← HDS.out] at hld9
        obtain ⟨k0, k1, k2⟩ : V.cell? ⟨g8, 0, none⟩ = some (.int .i64 xi.op) ∧ V.cell? ⟨g8, 1, none⟩ = some (.int .i64 xi.a) ∧ V.cell? ⟨g8, 2, none⟩ = some (.int .i64 xi.b) := ⟨HV.out.2.2.2.1.cell 0, HV.out.2.2.2.1.cell 1, HV.out.2.2.2.1.cell 2⟩
        have HES := Lib.hid hes
        have HTO := Lib.hid ht
        have HOO := Lib.hid ho
        clear hes ht ho hldV
        go_upto_region 10 with (first
          | (go_at_call 77; refine HAF.out.mono ?_; rintro e w6 ⟨rfl, hb6⟩
             rw [HTO.out, ← HES.out, HIO.out]
             have ha3 := Blk.new w6 117 #[.int .i64 0, .int .i16 0, .int .i16 0, .int .i16 0, .int .i16 0, .int .i16 0, .int .i16 0, .int .i16 0, .int .i16 0, .int .i16 0, .int .i16 0, .int .i16 0, .int .i16 0, .int .i16 0, .int .i16 0, .int .i16 0, .int .i16 0, .int .i16 0, .int .i16 0, .int .i16 0, .int .i16 0, .int .i16 0, .int .i16 0, .int .i16 0, .int .i16 0, .int .i16 0, .int .i16 0, .int .i16 0, .int .i16 0, .int .i16 0, .int .i16 0, .int .i16 0, .int .i16 0, .int .i16 0]
             have hst3 := run_stS ha3 rfl hesz hes1
             have HF3 := Lib.hid (blk_stS ha3 rfl hesz)
             clear ha3))
        obtain ⟨g10, hg10⟩ : ∃ g, g = w6.heap.size := ⟨_, rfl⟩
        obtain ⟨W7, hW7⟩ : ∃ W, W = (w6.alloc (.cells #[.int .i64 0, .int .i16 0, .int .i16 0, .int .i16 0, .int .i16 0, .int .i16 0, .int .i16 0, .int .i16 0, .int .i16 0, .int .i16 0, .int .i16 0, .int .i16 0, .int .i16 0, .int .i16 0, .int .i16 0, .int .i16 0, .int .i16 0, .int .i16 0, .int .i16 0, .int .i16 0, .int .i16 0, .int .i16 0, .int .i16 0, .int .i16 0, .int .i16 0, .int .i16 0, .int .i16 0, .int .i16 0, .int .i16 0, .int .i16 0, .int .i16 0, .int .i16 0, .int .i16 0, .int .i16 0] 117)).setCells w6.heap.size 0 es.toList := ⟨_, rfl⟩
        have hb7 : Below V.heap.size V W7 := by rw [hW7]; exact below_setCells hb6.size _ _ _ (ba hb6 _)
        have HR : Hid (Rnd B w W7 bS g n (.slice (some ⟨ab, ob, none⟩) n cb) g8 g9 g10 xi ds es ⟨true, st.sh, ys⟩ (some ⟨aw, 0, none⟩) cw) := Lib.hid (by
          have hv := HV.out
          have hs1 := hv.2.2.2.2.2.size
          have hs2 := hb6.size
          refine ⟨(HQ.out.next hv.2.2.2.2.2).next hb7, hv.2.2.2.1.below hb7 hv.2.2.2.1.lt, hv.2.2.2.2.1.below hb7 hv.2.2.2.2.1.lt, by rw [hW7, hg10]; exact HF3.out, by omega, bt (bt HWP.out.1 hv.2.2.2.2.2) hb7, ?_⟩
          have := HWP.out.2
          have := hb7.size
          omega)
        rw [← hW7, ← hg10]
        clear hW7 hg10 hst3 hesz hes1 hld9 k0 k1 k2 hb6 hb7
        obtain ⟨s1, hs1d⟩ : ∃ s, s1of o xi st.sh ys i = s := ⟨_, rfl⟩
        have HON : Hid (one body st.sh st.wk = giveIf (decide (xi.op = 12)) (giveIf (decide (xi.op = 7 ∨ xi.op = 8)) s1 xi.a.toNat t) xi.a.toNat cur) := Lib.hid (by rw [one_eq HYS.out hxi HCUR.out HOO.out, hs1d, HTO.out])
        have HWK : Hid (s1.wk.length ≤ 4000 ∧ ys.length ≤ 3000) := Lib.hid (by
          have h1 := HP.out.mu_
          have h2 := HP.out.kb
          have h3 : st.wk.length = ys.length + 1 := by rw [HYS.out]; simp
          unfold mu at h1
          have h4 : s1.wk.length ≤ ys.length + 1 := by
            rw [← hs1d]
            cases o with
            | none => exact Nat.le_succ _
            | some t => exact giveIf_wk _ _ _ _
          omega)
        obtain ⟨oN, hoN⟩ : ∃ k : Nat, xi.op = (k : Int) := ⟨xi.op.toNat, by omega⟩
        have hnm := HG8.out.named i (by rw [HNN.out]; exact hin)
        rw [hxi, HNN.out] at hnm
        have HOK := Lib.hid hok
        clear hok
        have HS1D := Lib.hid hs1d
        go_cut [6] from 55 to 69 (fun s6 wv => ∃ (V1 : World) (A1 : Option Addr) (cc1 : Nat), V1 = wv ∧ s6 = .bool s1.ok ∧ Hid (Rnd B w V1 bS g n (.slice (some ⟨ab, ob, none⟩) n cb) g8 g9 g10 xi ds es s1 A1 cc1))
        case first =>
          have q0 : W7.cell? ⟨g8, 0, none⟩ = some (.int .i64 (oN : Int)) := by rw [← hoN]; exact HR.out.x8.cell 0
          have hon : (0 : Int) ≤ (oN : Int) ∧ (oN : Int) < 19 := by omega
          have heff : eff[oN]? = some (effAt xi.op) := by
            have h19 : oN < eff.length := by show oN < 19; omega
            unfold effAt
            rw [hoN, Int.toNat_natCast, List.getElem?_eq_getElem h19]; rfl
          have q3 := (HT.out.below HR.out.below HGT.out) oN _ heff 3 _ rfl
          have hee : (effAt xi.op).2.2.2 = ends xi := rfl
          rw [hee] at q3
          clear heff hs1d hoN
          cases io with
          | false =>
            obtain rfl : o = none := by have := HIO.out; cases o with | none => rfl | some _ => cases this
            have HS0 : Hid (s1 = ⟨false, st.sh, ys⟩) := Lib.hid HS1D.out.symm
            go_wp2_with fail
            go_meet
            exact ⟨_, _, _, rfl, by rw [HS0.out], by rw [HS0.out]; exact HR.out.ok rfl rfl⟩
          | true =>
            obtain ⟨t0, rfl⟩ : ∃ t0, o = some t0 := Option.isSome_iff_exists.1 HIO.out
            have htt : t = t0 := HTO.out.symm
            cases hen : ends xi
            · have HS0 : Hid (s1 = KM.give st.sh ys (i + 1) t) := Lib.hid (by rw [← HS1D.out, htt]; show giveIf _ _ _ _ = _; rw [hen]; rfl)
              have hldE := Blk.load_sh htl (by rw [← HES.out]; exact HR.out.x10)
              rw [← HES.out] at hldE
              have hw1 : IntKind.i64.wrap ((i : Int) + 1) = (i : Int) + 1 := by rw [IntKind.wrap_i64]; omega
              have FG : Hid (Calls Tryd.prog 75 #[.int .i64 ((i : Int) + 1), .agg es, .pointer (some ⟨B, 0, none⟩), .pointer (some ⟨bS, 0, none⟩), .pointer (some ⟨bS + 1, 0, none⟩)] W7 (GivePost B B bS (bS + 1) g n (.slice (some ⟨ab, ob, none⟩) n cb) n ⟨true, st.sh, ys⟩ (some ⟨aw, 0, none⟩) cw (i + 1) t W7)) := Lib.hid (by
                rw [HES.out]
                exact give_is HR.out.ht (i + 1) (by omega) t htl (by omega) (by have := HWK.out; show ys.length ≤ _; omega) (by have := HR.out.size; have := HSZ4.out; omega))
              rw [hen] at q3
              clear htt hen
              go_wp2_with (go_at_call 75; refine FG.out.mono ?_; intro e w8 h8; obtain ⟨rfl, A2, cc2, h9⟩ := HR.out.give (Nat.le_of_eq HBB.out.symm) h8; have HR2 := Lib.hid h9; clear h8 h9)
              go_meet
              exact ⟨_, _, _, rfl, by rw [HS0.out], by rw [HS0.out]; exact HR2.out⟩
            · have HS0 : Hid (s1 = ⟨true, st.sh, ys⟩) := Lib.hid (by rw [← HS1D.out]; show giveIf _ _ _ _ = _; rw [hen]; rfl)
              rw [hen] at q3
              clear htt hen
              go_wp2_with fail
              go_meet
              exact ⟨_, _, _, rfl, by rw [HS0.out], by rw [HS0.out]; exact HR.out⟩
        case rest =>
        obtain ⟨V1, A1, cc1, hV1, rfl, HR1⟩ := hcut
        subst hV1
        have q0 : V1.cell? ⟨g8, 0, none⟩ = some (.int .i64 (oN : Int)) := by rw [← hoN]; exact HR1.out.x8.cell 0
        have q1 : V1.cell? ⟨g8, 1, none⟩ = some (.int .i64 xi.a) := HR1.out.x8.cell 1
        have HON2 := Lib.hid hoN
        clear hs1d HAF HF1 HF2 hst1 hst2
        by_cases h78 : oN = 7 ∨ oN = 8
        · have hnm2 := hnm (by omega)
          have hldE := Blk.load_sh htl (by rw [← HES.out]; exact HR1.out.x10)
          rw [← HES.out] at hldE
          have HC : Hid (decide (xi.op = 12) = false ∧ decide (xi.op = 7 ∨ xi.op = 8) = true) := Lib.hid ⟨decide_eq_false (by omega), decide_eq_true (by omega)⟩
          clear hoN hnm
          rcases h78 with rfl | rfl
          · skip
            obtain ⟨aN, haN⟩ : ∃ a : Nat, xi.a = (a : Int) := ⟨xi.a.toNat, by omega⟩
            rw [haN] at q1
            have haL : aN < n := by have := hnm2.2; rw [haN, Int.toNat_natCast] at this; exact this
            have HAN := Lib.hid haN
            clear haN
            cases hs1 : s1.ok
            · have HONE : Hid (one body st.sh st.wk = s1) := Lib.hid (by rw [HON.out, HC.out.1, HC.out.2, giveIf_not hs1, giveIf_not hs1])
              have HR9 := HR1
              have HSF := Lib.hid hs1
              clear hs1
              go_wp2_with fail
              obtain ⟨k', hk1, hk2⟩ := HP.out.next HNN.out HG8.out.named HOK.out (by rw [HYS.out]; simp) HONE.out HR9.out
              go_roundg k'
              case measure => omega
              case rel => exact ⟨_, _, _, by rw [HSF.out], hk2⟩
            · have HONE : Hid (one body st.sh st.wk = KM.give s1.sh s1.wk aN t) := Lib.hid (by rw [HON.out, HC.out.1, HC.out.2, HAN.out, Int.toNat_natCast]; unfold giveIf; rw [hs1]; rfl)
              have FG : Hid (Calls Tryd.prog 75 #[.int .i64 (aN : Int), .agg es, .pointer (some ⟨B, 0, none⟩), .pointer (some ⟨bS, 0, none⟩), .pointer (some ⟨bS + 1, 0, none⟩)] V1 (GivePost B B bS (bS + 1) g n (.slice (some ⟨ab, ob, none⟩) n cb) n s1 A1 cc1 aN t V1)) := Lib.hid (by
                rw [HES.out]
                exact give_is HR1.out.ht aN (by omega) t htl (by omega) (by have := HWK.out; omega) (by have := HR1.out.size; have := HSZ4.out; omega))
              clear hs1
              go_wp2_with (go_at_call 75; refine FG.out.mono ?_; intro e w8 h8; obtain ⟨rfl, A2, cc2, h9⟩ := HR1.out.give (Nat.le_of_eq HBB.out.symm) h8; have HR2 := Lib.hid h9; clear h8 h9)
              obtain ⟨k', hk1, hk2⟩ := HP.out.next HNN.out HG8.out.named HOK.out (by rw [HYS.out]; simp) HONE.out HR2.out
              go_roundg k'
              case measure => omega
              case rel => exact ⟨_, _, _, rfl, hk2⟩
          · skip
            obtain ⟨aN, haN⟩ : ∃ a : Nat, xi.a = (a : Int) := ⟨xi.a.toNat, by omega⟩
            rw [haN] at q1
            have haL : aN < n := by have := hnm2.2; rw [haN, Int.toNat_natCast] at this; exact this
            have HAN := Lib.hid haN
            clear haN
            cases hs1 : s1.ok
            · have HONE : Hid (one body st.sh st.wk = s1) := Lib.hid (by rw [HON.out, HC.out.1, HC.out.2, giveIf_not hs1, giveIf_not hs1])
              have HR9 := HR1
              have HSF := Lib.hid hs1
              clear hs1
              go_wp2_with fail
              obtain ⟨k', hk1, hk2⟩ := HP.out.next HNN.out HG8.out.named HOK.out (by rw [HYS.out]; simp) HONE.out HR9.out
              go_roundg k'
              case measure => omega
              case rel => exact ⟨_, _, _, by rw [HSF.out], hk2⟩
            · have HONE : Hid (one body st.sh st.wk = KM.give s1.sh s1.wk aN t) := Lib.hid (by rw [HON.out, HC.out.1, HC.out.2, HAN.out, Int.toNat_natCast]; unfold giveIf; rw [hs1]; rfl)
              have FG : Hid (Calls Tryd.prog 75 #[.int .i64 (aN : Int), .agg es, .pointer (some ⟨B, 0, none⟩), .pointer (some ⟨bS, 0, none⟩), .pointer (some ⟨bS + 1, 0, none⟩)] V1 (GivePost B B bS (bS + 1) g n (.slice (some ⟨ab, ob, none⟩) n cb) n s1 A1 cc1 aN t V1)) := Lib.hid (by
                rw [HES.out]
                exact give_is HR1.out.ht aN (by omega) t htl (by omega) (by have := HWK.out; omega) (by have := HR1.out.size; have := HSZ4.out; omega))
              clear hs1
              go_wp2_with (go_at_call 75; refine FG.out.mono ?_; intro e w8 h8; obtain ⟨rfl, A2, cc2, h9⟩ := HR1.out.give (Nat.le_of_eq HBB.out.symm) h8; have HR2 := Lib.hid h9; clear h8 h9)
              obtain ⟨k', hk1, hk2⟩ := HP.out.next HNN.out HG8.out.named HOK.out (by rw [HYS.out]; simp) HONE.out HR2.out
              go_roundg k'
              case measure => omega
              case rel => exact ⟨_, _, _, rfl, hk2⟩
        · by_cases h12 : oN = 12
          · have hnm2 := hnm (by omega)
            have hldD := Blk.load_sh hgood.2 (by rw [← HDS.out]; exact HR1.out.x9)
            rw [← HDS.out] at hldD
            have HC : Hid (decide (xi.op = 12) = true ∧ decide (xi.op = 7 ∨ xi.op = 8) = false) := Lib.hid ⟨decide_eq_true (by omega), decide_eq_false (by omega)⟩
            have HG0 : Hid (giveIf false s1 xi.a.toNat t = s1) := Lib.hid (by unfold giveIf; simp)
            clear hoN hnm h78
            subst h12
            obtain ⟨aN, haN⟩ : ∃ a : Nat, xi.a = (a : Int) := ⟨xi.a.toNat, by omega⟩
            rw [haN] at q1
            have haL : aN < n := by have := hnm2.2; rw [haN, Int.toNat_natCast] at this; exact this
            have HAN := Lib.hid haN
            clear haN
            cases hs1 : s1.ok
            · have HONE : Hid (one body st.sh st.wk = s1) := Lib.hid (by rw [HON.out, HC.out.1, HC.out.2, HG0.out, giveIf_not hs1])
              have HR9 := HR1
              have HSF := Lib.hid hs1
              clear hs1
              go_wp2_with fail
              obtain ⟨k', hk1, hk2⟩ := HP.out.next HNN.out HG8.out.named HOK.out (by rw [HYS.out]; simp) HONE.out HR9.out
              go_roundg k'
              case measure => omega
              case rel => exact ⟨_, _, _, by rw [HSF.out], hk2⟩
            · have HONE : Hid (one body st.sh st.wk = KM.give s1.sh s1.wk aN cur) := Lib.hid (by rw [HON.out, HC.out.1, HC.out.2, HG0.out, HAN.out, Int.toNat_natCast]; unfold giveIf; rw [hs1]; rfl)
              have FG : Hid (Calls Tryd.prog 75 #[.int .i64 (aN : Int), .agg ds, .pointer (some ⟨B, 0, none⟩), .pointer (some ⟨bS, 0, none⟩), .pointer (some ⟨bS + 1, 0, none⟩)] V1 (GivePost B B bS (bS + 1) g n (.slice (some ⟨ab, ob, none⟩) n cb) n s1 A1 cc1 aN cur V1)) := Lib.hid (by
                rw [HDS.out]
                exact give_is HR1.out.ht aN (by omega) cur hgood.2 (by omega) (by have := HWK.out; omega) (by have := HR1.out.size; have := HSZ4.out; omega))
              clear hs1
              go_wp2_with (go_at_call 75; refine FG.out.mono ?_; intro e w8 h8; obtain ⟨rfl, A2, cc2, h9⟩ := HR1.out.give (Nat.le_of_eq HBB.out.symm) h8; have HR2 := Lib.hid h9; clear h8 h9)
              obtain ⟨k', hk1, hk2⟩ := HP.out.next HNN.out HG8.out.named HOK.out (by rw [HYS.out]; simp) HONE.out HR2.out
              go_roundg k'
              case measure => omega
              case rel => exact ⟨_, _, _, rfl, hk2⟩
          · have e7 : ((oN : Int) == 7) = false := by simp; omega
            have e8 : ((oN : Int) == 8) = false := by simp; omega
            have e12 : ((oN : Int) == 12) = false := by simp; omega
            have HONE : Hid (one body st.sh st.wk = s1) := Lib.hid (by
              rw [HON.out, decide_eq_false (by omega), decide_eq_false (by omega)]
              unfold giveIf; simp)
            clear hoN hnm h78 h12
            go_wp2_with fail
            obtain ⟨k', hk1, hk2⟩ := HP.out.next HNN.out HG8.out.named HOK.out (by rw [HYS.out]; simp) HONE.out HR1.out
            go_roundg k'
            case measure => omega
            case rel => exact ⟨_, _, _, rfl, hk2⟩
end Go.Proofs.YtbdknncmlcbbpaaDoor
