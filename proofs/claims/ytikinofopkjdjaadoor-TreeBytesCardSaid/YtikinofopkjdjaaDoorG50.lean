/-
  The walk of the law of bytes: both encodings and digests agree, and both Decodes read seven slices of bytes alike.
-/
import Derived.Test.YtikinofopkjdjaaDoorG26
import Derived.Test.YtikinofopkjdjaaDoorG39
import Derived.Test.YtikinofopkjdjaaDoorG49
import Derived.Test.YtikinofopkjdjaaDoorG46
import Derived.Test.YtikinofopkjdjaaDoorG38
import Derived.Test.YtikinofopkjdjaaDoorG35
import Derived.Test.YtikinofopkjdjaaDoorG07
import Derived.Test.YtikinofopkjdjaaDoorG34
import Derived.Test.YtikinofopkjdjaaDoorG19
set_option linter.unusedVariables false
namespace Go.Proofs.YtikinofopkjdjaaDoor
open Go.RowKit WM TR

/-- A literal of no bytes, kept shut. -/
def bs0b (parts : Array (Nat × Value)) : Sem Value := Instr.buildSlice 23 0 parts
theorem shutB0b (parts : Array (Nat × Value)) : Instr.buildSlice 23 0 parts = bs0b parts := rfl
theorem run_bs0b (W : World) : (bs0b #[]).run Tryd.prog W = .ok (.slice (some ⟨W.heap.size, 0, none⟩) 0 0) (W.alloc (.cells #[] 5)) := by kernel_rfl
/-- A literal of seven slices, kept shut. -/
def bs7b (parts : Array (Nat × Value)) : Sem Value := Instr.buildSlice 36 7 parts
theorem shutB7b (parts : Array (Nat × Value)) : Instr.buildSlice 36 7 parts = bs7b parts := rfl
theorem run_bs7b (W : World) (A0 A1 A2 A3 A4 A5 : Option Addr) (n0 n1 n2 n3 n4 n5 c0 c1 c2 c3 c4 c5 : Nat) :
    (bs7b #[(0, .slice A0 n0 c0), (1, .slice A1 n1 c1), (2, .slice A2 n2 c2), (3, .slice A3 n3 c3), (4, .slice A4 n4 c4), (5, .slice A5 n5 c5), (6, .slice none 0 0)]).run Tryd.prog W = .ok (.slice (some ⟨W.heap.size, 0, none⟩) 7 7) (W.alloc (.cells #[.slice A0 n0 c0, .slice A1 n1 c1, .slice A2 n2 c2, .slice A3 n3 c3, .slice A4 n4 c4, .slice A5 n5 c5, .slice none 0 0] 23)) := by kernel_rfl
attribute [local go_sem ↓ high] shutB0b shutB7b
attribute [local go_sem] run_bs0b run_bs7b

theorem below_grR {a w w' : World} {row : Option Nat} (hb : Below a.heap.size a w) (h : w.grownBy w' row) (hr : ∀ b, row = some b → a.heap.size ≤ b) : Below a.heap.size a w' :=
  ⟨h.os.trans hb.os, h.tape.trans hb.tape, h.output.trans hb.output, Nat.le_trans hb.size h.size, fun i hi => (h.block i (Nat.lt_of_lt_of_le hi hb.size) (fun e => by have := hr i e.symm; omega)).trans (hb.block i hi)⟩

/-- Bytes that a slice holds, below the world's end. -/
def KB (w : World) (A : Option Addr) (n c : Nat) (l : List UInt8) : Prop := Reads w w.heap.size 1 A n (bs l) ∧ l.length = n ∧ n ≤ c ∧ n ≤ 1000000
theorem KB.next {w w' : World} {A : Option Addr} {n c : Nat} {l : List UInt8} (h : KB w A n c l) (hb : Below w.heap.size w w') : KB w' A n c l := ⟨(h.1.below hb).more hb.size, h.2⟩
def RowOk (w : World) : List Value → List (List UInt8) → Prop
  | [], [] => True
  | v :: vs, l :: ls => (∃ A n c, v = .slice A n c ∧ KB w A n c l) ∧ RowOk w vs ls
  | _, _ => False
theorem RowOk.get {w : World} : ∀ (vs : List Value) (ls : List (List UInt8)), RowOk w vs ls → ∀ (i : Nat) (l : List UInt8), ls[i]? = some l → ∃ A n c, vs[i]? = some (.slice A n c) ∧ KB w A n c l
  | [], [], _, i, l, h => by simp at h
  | [], _ :: _, h, _, _, _ => h.elim
  | _ :: _, [], h, _, _, _ => h.elim
  | v :: vs, l0 :: ls, h, 0, l, hl => by
    obtain ⟨A, n, c, rfl, hk⟩ := h.1
    simp only [List.getElem?_cons_zero, Option.some.injEq] at hl ⊢
    subst hl
    exact ⟨A, n, c, rfl, hk⟩
  | v :: vs, l0 :: ls, h, i + 1, l, hl => by
    rw [List.getElem?_cons_succ] at hl ⊢
    exact RowOk.get vs ls h.2 i l hl
/-- A row of slices of bytes. -/
def RowB (w : World) (g : Nat) (ls : List (List UInt8)) : Prop := g < w.heap.size ∧ ∀ (i : Nat) (l : List UInt8), ls[i]? = some l → ∃ A n c, w.cell? ⟨g, i, none⟩ = some (.slice A n c) ∧ KB w A n c l
theorem rowB_of {w : World} {cs : Array Value} {t : TypeId} {ls : List (List UInt8)} (h : RowOk w cs.toList ls) : RowB (w.alloc (.cells cs t)) w.heap.size ls := by
  refine ⟨by rw [size_alloc]; omega, fun i l hl => ?_⟩
  obtain ⟨A, n, c, hv, hk⟩ := RowOk.get _ _ h i l hl
  refine ⟨A, n, c, ?_, hk.next (below_new _ _)⟩
  rw [(Blk.new w t cs).cell i, ← hv]
  simp
/-- A byte of an own row, put anew. -/
theorem own_put {w : World} {base N k c : Nat} {A : Option Addr} {xs : List Value} (h : w.ownsRow base 5 1 (.slice A N c) N xs) (hk : k < N) (u : Value) :
    ∃ g cur, A = some ⟨g, 0, none⟩ ∧ base ≤ g ∧ Blk w g 5 cur ∧ cur[k]? = xs[k]? ∧ (w.setCell ⟨g, k, none⟩ u).ownsRow base 5 1 (.slice A N c) N (xs.set k u) := by
  have h1 := h.1
  rcases h.2 with ⟨_, hn⟩ | ⟨g, cap, cur, hv, hb, hh, hnc, hm, hs, hx⟩
  · omega
  · injection hv with e1 e2 e3
    subst e1
    subst e3
    have hB : Blk w g 5 cur := hh
    rw [Nat.mul_one] at hx
    refine ⟨g, cur, rfl, hb, hB, ?_, by rw [List.length_set]; exact h1, .inr ⟨g, c, cur.setIfInBounds k u, rfl, hb, hB.set_ k u, hnc, hm, by simp [hs], ?_⟩⟩
    · rw [← hx, List.getElem?_take, if_pos hk]; simp
    · rw [Nat.mul_one, ← hx, Array.toList_setIfInBounds, List.take_set]
theorem size_enc : ∀ (t : T), Ok t → 6 * size t ≤ (encT t).length := by
  intro t
  induction h : SizeOf.sizeOf t using Nat.strongRecOn generalizing t with
  | ind n ih =>
    subst h
    intro hok
    have h1 := (head_len hok).1
    have hk := hok.facts.2.2.2.2
    have h2 : ∀ l : List T, (∀ u ∈ l, 6 * size u ≤ (encT u).length) → 6 * (l.map size).sum ≤ ((l.map encT).flatten).length := by
      intro l
      induction l with
      | nil => intro _; simp
      | cons u l ihl =>
        intro hl
        have a1 := hl u (List.mem_cons_self ..)
        have a2 := ihl fun v hv => hl v (List.mem_cons_of_mem _ hv)
        simp only [List.map_cons, List.flatten_cons, List.length_append, List.sum_cons]; omega
    have h3 := h2 t.kids fun u hu => ih _ (kid_lt hu) u rfl (hk u hu)
    rw [encT_eq, List.length_append, size_eq]
    omega
/-- What a Decode yields: the tree (or none: zero), the length, the error. -/
def tO : Option (T × Nat) → T
  | none => zeroT
  | some (t, _) => t
def uO : Option (T × Nat) → Nat
  | none => 0
  | some (_, u) => u
def eO : Option (T × Nat) → Int
  | none => 2
  | some _ => 0
def DecAny (t : T) (u : Nat) (x : Int) (w : World) (e : Ending) (w' : World) : Prop :=
  ∃ A' c', e = .returned (.tuple #[.agg #[.int .i64 t.k, .int .i64 t.n, .int .i64 t.m, .slice A' t.kids.length c'], .int .i64 (u : Int), .int .i64 x]) ∧ Rep w' (fun b => b < w'.heap.size) 24 t (nd t A' c') ∧ Below w.heap.size w w'
theorem DecodePost.any {o : Option (T × Nat)} {w w' : World} {e : Ending} (h : DecodePost o w e w') : DecAny (tO o) (uO o) (eO o) w e w' := by
  match o, h with
  | none, h => exact ⟨none, 0, h.1, Rep.leaf in0 in0 in0 _ _, h.2⟩
  | some (t, u), h =>
    obtain ⟨A', c', he, hr, hb⟩ := h
    exact ⟨A', c', he, hr.mono fun b hb => hb.2, hb⟩
theorem tO_size {l : List UInt8} (hl : l.length ≤ 1000000) : size (tO (decD 24 l)) ≤ 1000000 := by
  match h : decD 24 l with
  | none => show size zeroT ≤ _; unfold zeroT; rw [size_eq]; simp
  | some (t, u) =>
    obtain ⟨r, e, _, hok, _⟩ := dec_sound 24 l t u hl h
    have := size_enc t hok
    show size t ≤ _
    rw [e, List.length_append] at hl
    omega
/-- What Deep leaves, of a size. -/
def DeepPost (n : Nat) (w : World) (e : Ending) (w' : World) : Prop :=
  ∃ t A' c' D, e = .returned (.agg #[.int .i64 t.k, .int .i64 t.n, .int .i64 t.m, .slice A' t.kids.length c']) ∧ size t ≤ n ∧ Rep w' (fun b => w.heap.size ≤ b ∧ b < w'.heap.size) D t (nd t A' c') ∧ Below w.heap.size w w'
theorem deep_any (n : Int) (m : Nat) (hn : n ≤ m) (hm : 1 ≤ m) (hm2 : m ≤ 1000) (w : World) : Calls Tryd.prog 17 #[.int .i64 n] w (DeepPost m w) := by
  refine (Deep_is n (by omega) w).mono ?_
  rintro e w' ⟨A', c', rfl, hr, hb⟩
  exact ⟨_, A', c', _, rfl, by rw [deepT_size]; omega, hr, hb⟩
theorem neq31 (D : List UInt8) (hD : D.length = 16) (W : World) : (binOp .neq 31 (.agg (bs D).toArray) (.agg (bs D).toArray)).run Tryd.prog W = .ok (.bool false) W := by
  obtain ⟨i0, hi, _⟩ := info_parts Tryd.info5
  have h1 := run_equalIn_array (P := Tryd.prog) (w := W) 9999 (bs D).toArray (bs D).toArray Tryd.underlying31 hi
  rw [Tryd.cells5, eqItems_bytes D D W _ (fun i hi => by rw [List.mem_range] at hi; omega), all_eq D D 16 hD hD] at h1
  simp only [binOp]
  simp [Op.equal, Op.maxDepth, h1]

set_option maxRecDepth 100000 in
set_option maxHeartbeats 16000000 in
theorem bytes_law (L : List Int) (at_ : Int) (ch : UInt8) (F : List UInt8) (deep : Int) (S : Nat → Prop) (A C : Option Addr) (c cf : Nat) (w : World) (hL : Rd w S 1 A L.length (vi L)) (hF : Reads w w.heap.size 1 C F.length (bs F)) (hcf : F.length ≤ cf) (hin : In S w.heap.size) (hrL : ∀ x ∈ L, inRange x) (hlL : L.length ≤ 9223372036854775807) (hlF : F.length ≤ 9223372036854775807) (hat : inRange at_) (hde : inRange deep) (hT : ST w) (hg : 0 < w.heap.size) (hkt : KT 2 w) (hkc : KT 3 w) :
    Calls Tryd.prog 3 #[.slice A L.length c, .int .i64 at_, .int .u8 (ch.toNat : Int), .slice C F.length cf, .int .i64 deep] w fun e w' => e = .returned (.bool true) ∧ Below w.heap.size w w' := by
  obtain ⟨x, hx⟩ : ∃ x, x = genTree L := ⟨_, rfl⟩
  have hsx : size x ≤ 4096 := by rw [hx]; exact genTree_size L
  have HTX : Hid (Calls Tryd.prog 9 #[.slice A L.length c] w (MadeT x 6 w)) := Lib.hid (by rw [hx]; exact Tree_is L S A c w hL hin hrL hlL)
  have HF4 : Hid (∀ W, Below w.heap.size w W → Calls Tryd.prog 16 #[.slice C F.length cf, .int .i64 40] W fun e w' => ∃ A' c', e = .returned (.slice A' (F.take 40).length c') ∧ w'.ownsRow W.heap.size 5 1 (.slice A' (F.take 40).length c') (F.take 40).length (bs (F.take 40)) ∧ Below W.heap.size W w') := Lib.hid (fun W hb => few_is C F cf 40 W ((hF.below hb).more hb.size) hcf hlF (by omega))
  have HF6 : Hid (∀ W, Below w.heap.size w W → Calls Tryd.prog 16 #[.slice C F.length cf, .int .i64 60] W fun e w' => ∃ A' c', e = .returned (.slice A' (F.take 60).length c') ∧ w'.ownsRow W.heap.size 5 1 (.slice A' (F.take 60).length c') (F.take 60).length (bs (F.take 60)) ∧ Below W.heap.size W w') := Lib.hid (fun W hb => few_is C F cf 60 W ((hF.below hb).more hb.size) hcf hlF (by omega))
  have har9 := arnd_le (x := deep) (n := 9) (by omega)
  obtain ⟨k9, hk9⟩ : ∃ k : Int, arnd deep 9 = k := ⟨_, rfl⟩
  rw [hk9] at har9
  have HA9 : Hid (∀ W, Calls Tryd.prog 15 #[.int .i64 deep, .int .i64 9] W fun e w' => e = .returned (.int .i64 k9) ∧ W = w') := Lib.hid (fun W => by rw [← hk9]; exact around_is deep 9 hde (by omega) W)
  have HDP : Hid (∀ W, Calls Tryd.prog 17 #[.int .i64 (20 + k9)] W (DeepPost 100 W)) := Lib.hid (fun W => deep_any (20 + k9) 100 (by omega) (by omega) (by omega) W)
  have hw9 : IntKind.i64.wrap (20 + k9) = 20 + k9 := by rw [IntKind.wrap_i64]; omega
  have HSX : Hid (size x ≤ 4096) := Lib.hid hsx
  have HT := Lib.hid hT
  have HG := Lib.hid hg
  have HKT := Lib.hid hkt
  have HKC := Lib.hid hkc
  have HAT := Lib.hid hat
  obtain ⟨i0, hi, hz0, hz1, hz2⟩ := info_parts Tryd.info5
  obtain ⟨F4, hF4⟩ : ∃ l, F.take 40 = l := ⟨_, rfl⟩
  have hn4 : F4.length ≤ 40 := by rw [← hF4, List.length_take]; omega
  rw [hF4] at HF4
  obtain ⟨n4, hn4e⟩ : ∃ n, F4.length = n := ⟨_, rfl⟩
  rw [hn4e] at HF4 hn4
  have HN4 := Lib.hid hn4e
  obtain ⟨F6, hF6⟩ : ∃ l, F.take 60 = l := ⟨_, rfl⟩
  have hn6 : F6.length ≤ 60 := by rw [← hF6, List.length_take]; omega
  rw [hF6] at HF6
  obtain ⟨n6, hn6e⟩ : ∃ n, F6.length = n := ⟨_, rfl⟩
  rw [hn6e] at HF6 hn6
  have HN6 : Hid (F6.length = n6 ∧ n6 ≤ 60) := Lib.hid ⟨hn6e, hn6⟩
  clear hF4 hn4e hF6 hn6e hn6
  clear hx hsx hL hF hin hrL hlL hat hde hT hg hkt hkc hk9 har9
  go_enter Tryd.func3, Tryd.ntmps3
  go_upto_region 2 with (first
    | (go_at_call 9; refine HTX.out.mono ?_; rintro e w1 ⟨A1, c1, rfl, hr1, hb1⟩
       have H11 := Held.new hr1 (fun b hb => hb.2)
       have hbw := ba hb1 (.cells #[.int .i64 x.k, .int .i64 x.n, .int .i64 x.m, .slice A1 x.kids.length c1] 26)
       clear hr1 hb1))
  obtain ⟨g1, hg1⟩ : ∃ g, g = w1.heap.size := ⟨_, rfl⟩
  obtain ⟨W2, hW2⟩ : ∃ W, W = w1.alloc (.cells #[.int .i64 x.k, .int .i64 x.n, .int .i64 x.m, .slice A1 x.kids.length c1] 26) := ⟨_, rfl⟩
  rw [← hW2] at H11 hbw ⊢
  rw [← hg1] at H11 ⊢
  have hokx := H11.2.ok (by have := HSX.out; omega)
  have hbN := encT_small x hokx
  have hbN6 := encT_len hokx
  obtain ⟨N, hN⟩ : ∃ n, (encT x).length = n := ⟨_, rfl⟩
  rw [hN] at hbN hbN6
  have HN : Hid (N ≤ 184320 ∧ 6 ≤ N) := Lib.hid ⟨by have := HSX.out; omega, hbN6⟩
  have HNE : Hid ((encT x).length = N) := Lib.hid hN
  have HREN : Hid (Calls Tryd.prog 10 #[.agg #[.int .i64 x.k, .int .i64 x.n, .int .i64 x.m, .slice A1 x.kids.length c1]] W2 fun e w' =>
      ∃ A' c', e = .returned (.slice A' N c') ∧ w'.ownsRow W2.heap.size 5 1 (.slice A' N c') N (bs (encT x)) ∧ Below W2.heap.size W2 w') := Lib.hid (by rw [← hN]; exact rencode_is 6 x _ A1 c1 W2 H11.2 (in_lt _) (by have := HSX.out; omega))
  have X11 := Lib.hid H11
  have XBW := Lib.hid hbw
  clear hW2 hg1 hN hbN hbN6 hokx H11 hbw HTX
  go_upto_region 3 with (first
    | (refine wpList_load_mid rfl 26 (.tmp 11) rfl g1 0 rfl [.int .i64 x.k, .int .i64 x.n, .int .i64 x.m, .slice A1 x.kids.length c1] _ X11.out.load Tryd.underlying26 rfl (by rw [size_node]; rfl) ?_)
    | (go_at_call 10; refine HREN.out.mono ?_; rintro e V ⟨AB, cB, rfl, hob, hb3⟩))
  have HB3 := Lib.hid hb3
  have HRB : Hid (∀ W', Below V.heap.size V W' → Reads W' W'.heap.size 1 AB N (bs (encT x))) := Lib.hid (fun W' h => ((Reads.of_own hob).below h).more h.size)
  obtain ⟨_, _, hcB1, hcB⟩ := own_len hob
  cases hcB1
  have HCB := Lib.hid hcB
  obtain ⟨D, hD⟩ : ∃ D, (bs (digT x)).toArray = D := ⟨_, rfl⟩
  have hNE : ∀ W : World, (binOp .neq 31 (.agg D) (.agg D)).run Tryd.prog W = .ok (.bool false) W := fun W => by
    rw [← hD]; exact neq31 (digT x) (digT_len x) W
  have Y11 := Lib.hid (X11.out.next hb3)
  have HBV : Hid (Below w.heap.size w V) := Lib.hid (bt XBW.out hb3)
  have HK3 : Hid (∀ W', Below V.heap.size V W' → W'.cell? ⟨g1, 0, none⟩ = some (.int .i64 x.k) ∧ W'.cell? ⟨g1, 1, none⟩ = some (.int .i64 x.n) ∧ W'.cell? ⟨g1, 2, none⟩ = some (.int .i64 x.m) ∧ W'.cell? ⟨g1, 3, none⟩ = some (.slice A1 x.kids.length c1)) := Lib.hid (fun W' h => (Y11.out.next h).cells)
  have HENC : Hid (∀ W', Below V.heap.size V W' → Calls Tryd.prog 12 #[.agg #[.int .i64 x.k, .int .i64 x.n, .int .i64 x.m, .slice A1 x.kids.length c1]] W' fun e w' =>
      ∃ A' c', e = .returned (.slice A' N c') ∧ w'.ownsRow W'.heap.size 5 1 (.slice A' N c') N (bs (encT x)) ∧ Below W'.heap.size W' w') := Lib.hid (fun W' h => by rw [← HNE.out]; exact encode_is 6 x _ A1 c1 W' (Y11.out.next h).2 (in_lt _) (by have := HSX.out; omega))
  have HSM : Hid (∀ (W' : World) (AY : Option Addr) (cY : Nat), Below V.heap.size V W' → Reads W' W'.heap.size 1 AY N (bs (encT x)) → Calls Tryd.prog 11 #[.slice AY N cY, .slice AB N cB] W' fun e w' => e = .returned (.bool true) ∧ Below W'.heap.size W' w') := Lib.hid (fun W' AY cY h h1 => by
    have h3 := same W'.heap.size W'.heap.size AY AB cY cB (encT x) W' (by rw [HNE.out]; exact h1) (by rw [HNE.out]; exact HRB.out W' h) (by rw [HNE.out]; have := HN.out; omega)
    rw [HNE.out] at h3
    exact h3)
  have HDG : Hid (∀ W', Below V.heap.size V W' → Calls Tryd.prog 13 #[.agg #[.int .i64 x.k, .int .i64 x.n, .int .i64 x.m, .slice A1 x.kids.length c1]] W' fun e w' => e = .returned (.agg D) ∧ Below W'.heap.size W' w') := Lib.hid (fun W' h => by
    rw [← hD]
    exact digest_is _ x _ A1 c1 W' (Y11.out.next h).2 (in_lt _) (by have := HSX.out; omega) (HKT.out.below (bt HBV.out h)))
  have HRG : Hid (∀ W', Below V.heap.size V W' → Calls Tryd.prog 14 #[.agg #[.int .i64 x.k, .int .i64 x.n, .int .i64 x.m, .slice A1 x.kids.length c1]] W' fun e w' => e = .returned (.agg D) ∧ Below W'.heap.size W' w') := Lib.hid (fun W' h => by
    rw [← hD]
    exact rdigest_is _ x _ A1 c1 W' (Y11.out.next h).2 (in_lt _) (by have := HSX.out; omega) (HKC.out.below (bt HBV.out h)))
  have hbc : Below V.heap.size V V.drew := (Below.refl _ _).drew
  clear hob hb3 hcB hD
  go_cut [39] from 28 to 39 (fun s39 wv => ∃ (V2 : World), V2 = wv ∧ s39 = .bool false ∧ Hid (Below V.heap.size V V2))
  case first =>
    refine wp_region_noPanic ?_
    go_region_held2 (fun W' => W'.cell? ⟨g1, 0, none⟩ = some (.int .i64 x.k) ∧ W'.cell? ⟨g1, 1, none⟩ = some (.int .i64 x.n) ∧ W'.cell? ⟨g1, 2, none⟩ = some (.int .i64 x.m) ∧ W'.cell? ⟨g1, 3, none⟩ = some (.slice A1 x.kids.length c1))
      (exact HK3.out _ hbc)
      (first
      | (go_at_call 12; refine (HENC.out _ hbc).mono ?_; rintro e w11 ⟨AY, cY, rfl, ho, hb11⟩; replace hbc := bt hbc hb11; have HRY := Lib.hid (Reads.of_own ho); clear ho hb11)
      | (go_at_call 11; refine (HSM.out _ _ _ hbc HRY.out).mono ?_; rintro e w12 ⟨rfl, hb12⟩; replace hbc := bt hbc hb12; clear hb12)
      | (go_at_call 13; refine (HDG.out _ hbc).mono ?_; rintro e w13 ⟨rfl, hb13⟩; replace hbc := bt hbc hb13; clear hb13)
      | (go_at_call 14; refine (HRG.out _ hbc).mono ?_; rintro e w14 ⟨rfl, hb14⟩; replace hbc := bt hbc hb14; clear hb14))
    all_goals
      refine NoPanic.normal ?_
      go_wp2_with fail
      go_meet
      exact ⟨_, rfl, rfl, hbc⟩
  case rest =>
  obtain ⟨V2, hV2, rfl, HBV2⟩ := hcut
  subst hV2
  clear HENC HSM HDG HRG HK3 hNE hbc
  have hN0 : N ≤ 184320 := HN.out.1
  have hN6 : 6 ≤ N := HN.out.2
  have har := arnd_le (x := at_) (n := (N : Int)) (by omega)
  obtain ⟨kq, hkq⟩ : ∃ k : Nat, arnd at_ (N : Int) = (k : Int) := ⟨(arnd at_ (N : Int)).toNat, by omega⟩
  have hkN : kq < N := by omega
  have HAR : Hid (∀ W, Calls Tryd.prog 15 #[.int .i64 at_, .int .i64 (N : Int)] W fun e w' => e = .returned (.int .i64 (kq : Int)) ∧ W = w') := Lib.hid (fun W => by rw [← hkq]; exact around_is at_ N HAT.out (by omega) W)
  clear har hkq
  go_upto_region 7 with (first
    | (go_at_call 15; refine (HAR.out _).mono ?_; rintro e w' ⟨rfl, rfl⟩)
    | (at_builtin; refine wpList_append_any _ rfl (.tmp 44) (.tmp 45) _ rfl V2.heap.size 5 i0 (.int .u8 0) 1 1 Tryd.underlying23 hi hz0 hz1 hz2 rfl (by omega) _ 0 [] rfl (own_lit (xs := []) (n := 0) (Nat.le_refl _) rfl (len_le (by omega))) _ AB N cB (bs (encT x)) rfl (HRB.out _ (bt HBV2.out (below_new _ _))) (bs_one _) (len_le (by omega)) (by omega) (by rw [size_alloc]; omega) ?_
       intro v4 w4 hown4 hg4 _
       rw [Nat.zero_add, List.nil_append] at hown4
       have hb4 : Below V2.heap.size V2 w4 := below_grR (below_new V2 (.cells #[] 5)) hg4 (fun b e => Nat.le_of_eq (Option.some.inj e))
       obtain ⟨A4, c4, rfl, hc4⟩ := own_len hown4
       clear hg4))
  obtain ⟨g4, cur4, hA4, hge4, hB4, hcu4, hown5⟩ := own_put hown4 hkN (.int .u8 (ch.toNat : Int))
  subst hA4
  rw [bs_set] at hown5
  obtain ⟨z4, hz4⟩ : ∃ z : Int, w4.cell? ⟨g4, kq, none⟩ = some (.int .u8 z) := ⟨_, (hB4.cell kq).trans (hcu4.trans (bs_get _ kq (by rw [HNE.out]; exact hkN)))⟩
  have hfr4 : w4.frozen? ⟨g4, kq, none⟩ = false := hB4.frozen kq
  have hkb : (0 : Int) ≤ (kq : Int) ∧ (kq : Int) < (N : Int) := ⟨by omega, by omega⟩
  obtain ⟨W5, hW5⟩ : ∃ W, W = w4.setCell ⟨g4, kq, none⟩ (.int .u8 (ch.toNat : Int)) := ⟨_, rfl⟩
  have hb5 : Below V2.heap.size V2 W5 := by rw [hW5]; exact hb4.setCell hge4 _
  rw [← hW5] at hown5
  have HB5 : Hid (Below V.heap.size V W5) := Lib.hid (bt HBV2.out hb5)
  have HX2 : Hid (KB W5 (some ⟨g4, 0, none⟩) N c4 ((encT x).set kq ch)) := Lib.hid ⟨Reads.of_own hown5, by rw [List.length_set]; exact HNE.out, hc4, by omega⟩
  have HW5 := Lib.hid hW5
  clear hB4 hcu4 hown5 hown4 hb4 hb5 hW5
  go_upto_region 8 with fail
  rw [← HW5.out]
  clear hz4 hfr4 HW5
  go_upto_region 9 with (first
    | (at_builtin; refine wpList_append_any _ rfl (.tmp 51) (.tmp 52) _ rfl W5.heap.size 5 i0 (.int .u8 0) 1 1 Tryd.underlying23 hi hz0 hz1 hz2 rfl (by omega) _ 0 [] rfl (own_lit (xs := []) (n := 0) (Nat.le_refl _) rfl (len_le (by omega))) _ AB N cB (bs (encT x)) rfl (HRB.out _ (bt HB5.out (below_new _ _))) (bs_one _) (len_le (by omega)) (by omega) (by rw [size_alloc]; omega) ?_
       intro v6 w6 hown6 hg6 _
       rw [Nat.zero_add, List.nil_append] at hown6
       have hb6 : Below W5.heap.size W5 w6 := below_grR (below_new W5 (.cells #[] 5)) hg6 (fun b e => Nat.le_of_eq (Option.some.inj e))
       have hq6 := hown6.lt
       clear hg6)
    | (go_at_call 16; refine (HF4.out _ (bt (bt HBV.out HB5.out) hb6)).mono ?_; rintro e w7 ⟨A7, c7, rfl, ho7, hb7⟩
       have hown7 := ownsRow_below hown6 hb7
       have hb67 := bt hb6 hb7)
    | (at_builtin; refine wpList_append_any _ rfl (.tmp 53) (.tmp 55) _ rfl W5.heap.size 5 i0 (.int .u8 0) 1 1 Tryd.underlying23 hi hz0 hz1 hz2 rfl (by omega) v6 N (bs (encT x)) rfl hown7 _ A7 n4 c7 (bs F4) rfl (Reads.of_own ho7) (bs_one _) (len_le (by omega)) (by omega) hb67.size ?_
       intro v8 w8 hown8 hg8 _
       rw [← bs_append] at hown8
       have hb8 : Below W5.heap.size W5 w8 := below_grR hb67 hg8 (fun b e => (hq6 b e).1)
       obtain ⟨A8, c8, rfl, hc8⟩ := own_len hown8
       clear hg8 hown7 ho7 hb7 hb67 hown6 hb6 hq6))
  have HY2 : Hid (KB w8 (some ⟨g4, 0, none⟩) N c4 ((encT x).set kq ch)) := Lib.hid (HX2.out.next hb8)
  have HB8 : Hid (Below V.heap.size V w8) := Lib.hid (bt HB5.out hb8)
  have HY0 : Hid (KB w8 AB N cB (encT x)) := Lib.hid ⟨HRB.out _ HB8.out, HNE.out, HCB.out, by omega⟩
  have HY3 : Hid (KB w8 A8 (N + n4) c8 (encT x ++ F4)) := Lib.hid ⟨Reads.of_own hown8, by rw [List.length_append, HNE.out, HN4.out], hc8, by omega⟩
  have hct := cut8 AB N cB kq (by have := HCB.out; omega)
  obtain ⟨A9, hA9⟩ : ∃ A9, A9 = (if cB = 0 then AB else AB.map (·.add 0)) := ⟨_, rfl⟩
  have HY1 : Hid (KB w8 A9 kq cB ((encT x).take kq)) := Lib.hid ⟨by rw [hA9]; exact reads_cut8 (c := cB) (k := kq) (HRB.out _ HB8.out) (by omega), by rw [List.length_take, HNE.out]; omega, by have := HCB.out; omega, by omega⟩
  rw [← hA9] at hct
  have HW8 : Hid (Below w.heap.size w w8) := Lib.hid (bt HBV.out HB8.out)
  have hbc : Below w8.heap.size w8 w8.drew := (Below.refl _ _).drew
  clear hA9 hown8 hc8 hb8 HAR HX2 hc4 hkb
  go_cut [16] from 57 to 70 (fun s16 wv => ∃ (gr : Nat) (ls : List (List UInt8)) (V3 : World), V3 = wv ∧ s16 = .slice (some ⟨gr, 0, none⟩) 7 7 ∧ Hid (RowB V3 gr ls ∧ ls.length = 7 ∧ Below w8.heap.size w8 V3))
  case first =>
    refine wp_region_noPanic ?_
    go_region_held2 (fun _ => True)
      (exact trivial)
      (first
      | (go_at_call 16; refine (HF6.out _ (bt HW8.out hbc)).mono ?_; rintro e w10 ⟨A10, c10, rfl, ho10, hb10⟩; replace hbc := bt hbc hb10
         have hK10 : KB w10 A10 n6 c10 F6 := ⟨Reads.of_own ho10, HN6.out.1, (by obtain ⟨_, _, h, h'⟩ := own_len ho10; cases h; exact h'), (by have := HN6.out.2; omega)⟩
         clear ho10 hb10)
      | (go_at_call 15; refine (HA9.out _).mono ?_; rintro e w' ⟨rfl, rfl⟩)
      | (go_at_call 17; refine (HDP.out _).mono ?_; rintro e w11 ⟨d, A11, c11, D11, rfl, hsd, hr11, hb11⟩; replace hbc := bt hbc hb11; replace hK10 := hK10.next hb11; have HRD := Lib.hid hr11; have HSD := Lib.hid hsd; clear hr11 hb11 hsd)
      | (go_at_call 10; refine (rencode_is D11 d _ A11 c11 _ HRD.out (fun b hb => hb.2) (by have := HSD.out; omega)).mono ?_; rintro e w12 ⟨A12, c12, rfl, ho12, hb12⟩; replace hbc := bt hbc hb12; replace hK10 := hK10.next hb12
         have hK12 : KB w12 A12 (encT d).length c12 (encT d) := ⟨Reads.of_own ho12, rfl, (by obtain ⟨_, _, h, h'⟩ := own_len ho12; cases h; exact h'), (by have := encT_small d (HRD.out.ok (by have := HSD.out; omega)); have := HSD.out; omega)⟩
         clear ho12 hb12))
    all_goals
      refine NoPanic.normal ?_
      go_wp2_with fail
      go_meet
      refine ⟨_, [encT x, (encT x).take kq, (encT x).set kq ch, encT x ++ F4, F6, encT d, []], _, rfl, rfl, ?_, rfl, ba hbc _⟩
      exact rowB_of ⟨⟨_, _, _, rfl, HY0.out.next hbc⟩, ⟨_, _, _, rfl, HY1.out.next hbc⟩, ⟨_, _, _, rfl, HY2.out.next hbc⟩, ⟨_, _, _, rfl, HY3.out.next hbc⟩, ⟨_, _, _, rfl, hK10⟩, ⟨_, _, _, rfl, hK12⟩, ⟨none, 0, 0, rfl, Reads.none_, rfl, Nat.le_refl _, by omega⟩, trivial⟩
  case rest =>
  obtain ⟨gr, ls, V3, hV3, rfl, HH⟩ := hcut
  subst hV3
  have HBF : Hid (Below w.heap.size w V3) := Lib.hid (bt HW8.out HH.out.2.2)
  have HLEN : Hid (ls.length = 7) := Lib.hid HH.out.2.1
  have HROW : Hid (∀ (i : Nat) (l : List UInt8), ls[i]? = some l → ∃ A n c, (∀ W', Below V3.heap.size V3 W' → W'.cell? ⟨gr, i, none⟩ = some (.slice A n c)) ∧ ∀ W', Below V3.heap.size V3 W' → KB W' A n c l) := Lib.hid (fun i l hl => by
    obtain ⟨hgl, hall⟩ := HH.out.1
    obtain ⟨A, n, c, hc, hk⟩ := hall i l hl
    exact ⟨A, n, c, fun W' h => (h.cell (p := ⟨gr, i, none⟩) hgl).trans hc, fun W' h => hk.next h⟩)
  clear HH hbc hct HY0 HY1 HY2 HY3 HF4 HF6 HA9 HDP hw9 HN HNE HRB HCB hN0 hN6 hkN HB5 HBV2 HB8 HW8 HN4 HN6 hn4
  go_wp2_with fail
  go_loopw [17] (fun s wr => ∃ i : Nat, i ≤ 7 ∧ s = .int .i64 i ∧ Hid (Below V3.heap.size V3 wr)) (fun s _ => 7 - (intOf s).toNat)
  case atStart => exact ⟨0, Nat.zero_le _, rfl, Below.refl _ _⟩
  case round =>
    obtain ⟨i, hi7, rfl, HBi⟩ := hrel
    by_cases hli : i < 7
    · obtain ⟨l, hl⟩ : ∃ l, ls[i]? = some l := ⟨_, List.getElem?_eq_getElem (by rw [HLEN.out]; exact hli)⟩
      obtain ⟨Ai, ni, ci, hKi, hBi⟩ := HROW.out i l hl
      have HKI := Lib.hid hKi
      have HKB := Lib.hid hBi
      have hib : (0 : Int) ≤ i ∧ (i : Int) < 7 := ⟨by omega, by omega⟩
      obtain ⟨t, ht⟩ : ∃ t, tO (decD 24 l) = t := ⟨_, rfl⟩
      obtain ⟨u, hu⟩ : ∃ u, uO (decD 24 l) = u := ⟨_, rfl⟩
      obtain ⟨eo, he⟩ : ∃ eo, eO (decD 24 l) = eo := ⟨_, rfl⟩
      have hb0 := HBi.out
      have HSZ : Hid (size t ≤ 1000000) := Lib.hid (by
        rw [← ht]
        have h := (hBi wr HBi.out).2
        exact tO_size (by omega))
      have F1 : Hid (∀ W', Below V3.heap.size V3 W' → Calls Tryd.prog 18 #[.slice Ai ni ci] W' (DecAny t u eo W')) := Lib.hid (fun W' h => by
        have hk := HKB.out W' h
        have h1 := decode_is Ai ci l W' (by rw [hk.2.1]; exact hk.1) (by have := hk.2; omega) (by have := hk.2; omega)
        rw [hk.2.1] at h1
        rw [← ht, ← hu, ← he]
        exact h1.mono fun e w' h2 => h2.any)
      have F2 : Hid (∀ W', Below V3.heap.size V3 W' → Calls Tryd.prog 19 #[.slice Ai ni ci] W' (DecAny t u eo W')) := Lib.hid (fun W' h => by
        have hk := HKB.out W' h
        have h1 := rdecode_is Ai ci l W' (by rw [hk.2.1]; exact hk.1) (by have := hk.2; omega) (by have := hk.2; omega)
        rw [hk.2.1] at h1
        rw [← ht, ← hu, ← he]
        exact h1.mono fun e w' h2 => h2.any)
      have hee : (eo != eo) = false := by simp
      have huu : ((u : Int) != (u : Int)) = false := by simp
      have hk1 := HKI.out wr HBi.out
      clear ht hu he hl hKi hBi
      go_upto_region 15 with (first
        | (go_at_call 18; refine (F1.out _ hb0).mono ?_; rintro e w1 ⟨A1', c1', rfl, hr1, hb1⟩
           have H1 := Held.new hr1 (in_lt _)
           have hb2 := bt hb0 (ba hb1 (.cells #[.int .i64 t.k, .int .i64 t.n, .int .i64 t.m, .slice A1' t.kids.length c1'] 26))
           have hk2 := HKI.out _ hb2
           clear hr1 hb1)
        | (go_at_call 19; refine (F2.out _ hb2).mono ?_; rintro e w2 ⟨A2', c2', rfl, hr2, hb3⟩
           have H2 := Held.new hr2 (in_lt _)
           have hb4 := ba hb3 (.cells #[.int .i64 t.k, .int .i64 t.n, .int .i64 t.m, .slice A2' t.kids.length c2'] 26)
           replace H1 := H1.next hb4
           have hb5 := bt hb2 hb4
           clear hr2 hb3 hb4))
      obtain ⟨g8, hg8⟩ : ∃ g, g = w1.heap.size := ⟨_, rfl⟩
      obtain ⟨g9, hg9⟩ : ∃ g, g = w2.heap.size := ⟨_, rfl⟩
      obtain ⟨W9, hW9⟩ : ∃ W, W = w2.alloc (.cells #[.int .i64 t.k, .int .i64 t.n, .int .i64 t.m, .slice A2' t.kids.length c2'] 26) := ⟨_, rfl⟩
      rw [← hW9] at H1 H2 hb5 ⊢
      rw [← hg8] at H1 ⊢
      rw [← hg9] at H2 ⊢
      have X1 := Lib.hid H1
      have X2 := Lib.hid H2
      have HB9 := Lib.hid hb5
      have HKK : Hid (∀ W', Below W9.heap.size W9 W' → (W'.cell? ⟨g8, 0, none⟩ = some (.int .i64 t.k) ∧ W'.cell? ⟨g8, 1, none⟩ = some (.int .i64 t.n) ∧ W'.cell? ⟨g8, 2, none⟩ = some (.int .i64 t.m) ∧ W'.cell? ⟨g8, 3, none⟩ = some (.slice A1' t.kids.length c1')) ∧ (W'.cell? ⟨g9, 0, none⟩ = some (.int .i64 t.k) ∧ W'.cell? ⟨g9, 1, none⟩ = some (.int .i64 t.n) ∧ W'.cell? ⟨g9, 2, none⟩ = some (.int .i64 t.m) ∧ W'.cell? ⟨g9, 3, none⟩ = some (.slice A2' t.kids.length c2'))) := Lib.hid (fun W' h => ⟨(X1.out.next h).cells, (X2.out.next h).cells⟩)
      have FS : Hid (∀ W', Below W9.heap.size W9 W' → Calls Tryd.prog 20 #[.agg #[.int .i64 t.k, .int .i64 t.n, .int .i64 t.m, .slice A1' t.kids.length c1'], .agg #[.int .i64 t.k, .int .i64 t.n, .int .i64 t.m, .slice A2' t.kids.length c2']] W' fun e w' => e = .returned (.bool true) ∧ Below W'.heap.size W' w') := Lib.hid (fun W' h => same_is 24 t t _ A1' A2' c1' c2' W' (X1.out.next h).2 (X2.out.next h).2 (in_lt _) HSZ.out HSZ.out true (by rw [cmp_self]; rfl))
      obtain ⟨⟨p0, p1, p2, p3⟩, ⟨q0, q1, q2, q3⟩⟩ := HKK.out W9 (Below.refl _ _)
      clear hW9 hg8 hg9 H1 H2 hb5 F1 F2 hk1 hk2 hb2 hb0 hib HKK
      go_wp2_with (go_at_call 20; refine (FS.out _ (Below.refl _ _)).mono ?_; rintro e w5 ⟨rfl, hb6⟩)
      go_roundw
      case rel => exact ⟨i + 1, by omega, by go_num, bt HB9.out hb6⟩
      case measure => simp [intOf]; omega
    · have hi7e : i = 7 := by omega
      subst hi7e
      have HBE : Hid (Below w.heap.size w wr) := Lib.hid (bt HBF.out HBi.out)
      have HLV : Hid (Calls Tryd.prog 21 #[] wr fun e w' => e = .returned (.bool true) ∧ Below wr.heap.size wr w') := Lib.hid (lives_is wr (HT.out.below HBE.out HG.out) (Nat.lt_of_lt_of_le HG.out HBE.out.size))
      clear hi7 hli
      go_wp2_with (go_at_call 21; refine HLV.out.mono ?_; rintro e w9 ⟨rfl, hb9⟩)
      go_ret
      exact ⟨rfl, bt HBE.out hb9⟩
end Go.Proofs.YtikinofopkjdjaaDoor
